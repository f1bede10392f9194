/-
  Layer 9's reference: Push. (gen/typing/refg.py)
-/
import Derived.Test.YthkglmkpnhhboaaTyRefF
namespace Ty
theorem lay_most (r : R) (l : List UInt8) : (r.lay l).most = r.most := by
  unfold R.lay
  cases r.l.getLast? <;> rfl
theorem lay_len (r : R) (l : List UInt8) : (r.lay l).l.length = r.l.length := by
  rcases rparts r with h | ⟨i, f, h⟩
  · simp [R.lay, h]
  · simp [R.lay, h]
theorem lay_height (r : R) (l : List UInt8) : (r.lay l).height = r.height + l.length := by
  rcases rparts r with h | ⟨i, f, h⟩
  · simp [R.lay, h, R.height, total]
  · simp [R.lay, h, R.height, total_append, total]; omega
end Ty
namespace Go.Proofs.Ythkglmkpnhhboaa
open Go.RowKit Ins Bin
theorem push_tail {w w3 : World} {G : Nat → Prop} {B0 Q : Nat} {r : Ty.R} {l : List UInt8} (hp : RPost G w B0 Q (r.lay l) w3) (hh : r.height + l.length ≤ 1000000000) (hl : r.l.length ≤ 1000000000) : ∀ W, Below w3.heap.size w3 W →
    (Calls Try.prog 26 #[.pointer (some ⟨Q, 0, none⟩)] W fun e w' => e = .returned (.int .i64 ((r.height + l.length : Nat) : Int)) ∧ w' = W) ∧ W.cell? ⟨Q, 2, none⟩ = some (.int .i64 (r.most : Int)) ∧ W.frozen? ⟨Q, 2, none⟩ = false ∧
      (r.most < r.height + l.length → RPost G w B0 Q (r.push l) (W.setCell ⟨Q, 2, none⟩ (.int .i64 ((r.height + l.length : Nat) : Int)))) ∧ (¬ r.most < r.height + l.length → RPost G w B0 Q (r.push l) W) := by
  obtain ⟨G3, vL, h3, hn, hm⟩ := hp
  intro W hW
  have h' := h3.on hW
  have hlh := Ty.lay_height r l
  have hlm := Ty.lay_most r l
  refine ⟨?_, ?_, h'.frozen 2, fun hgt => ?_, fun hgt => ?_⟩
  · refine (rheight_any h' (by rw [hlh]; exact hh) (by rw [Ty.lay_len]; exact hl)).mono ?_
    rintro e w' ⟨rfl, rfl⟩
    exact ⟨by rw [hlh], rfl⟩
  · have := h'.cell2
    rwa [hlm] at this
  · have e : r.push l = ⟨(r.lay l).l, (r.lay l).loose, r.height + l.length⟩ := by
      unfold Ty.R.push
      rw [hlh, Nat.max_eq_right (by omega)]
    rw [e]
    exact ⟨G3, vL, rset h'.blk 2 _ rfl h'.l h'.inQ h'.inL, hn, (hm.trans (Mod.of_below (T := fun _ => False) hW) (fun _ _ h => h.elim)).setCell (fun hk => by
      have hk' : Q < w.heap.size := hk
      rcases hn Q h'.inQ with e | e
      · exact e
      · omega) _⟩
  · have e : r.push l = r.lay l := by
      unfold Ty.R.push
      rw [hlh, Nat.max_eq_left (by omega)]
      conv => rhs; rw [show r.lay l = ⟨(r.lay l).l, (r.lay l).loose, (r.lay l).most⟩ from rfl]
      rw [hlm]
    rw [e]
    exact ⟨G3, vL, h', hn, hm.trans (Mod.of_below (T := fun _ => False) hW) (fun _ _ h => h.elim)⟩
set_option linter.unusedSimpArgs false in
set_option maxRecDepth 100000 in
set_option maxHeartbeats 4000000 in
theorem rpush_any {w : World} {G : Nat → Prop} {B0 Q : Nat} {r : Ty.R} {vL : Value} (h : Rfk w G B0 Q r vL) (l : List UInt8) (A : Option Addr) (c : Nat) (hA : Has w w.heap.size A l) (hl : r.l.length ≤ 1000000000) (hh : r.height + l.length ≤ 1000000000) :
    Calls Try.prog 11 #[.pointer (some ⟨Q, 0, none⟩), .slice A l.length c] w fun e w' => e = .returned (.tuple #[]) ∧ RPost G w B0 Q (r.push l) w' := by
  have y0 := h.cell0
  rcases Ty.rparts r with hn | ⟨i, f, hf⟩
  · have y1 := h.cell1
    have yf := h.frozen 1
    have HP : Hid (RPost G w B0 Q (r.lay l) (w.setCell ⟨Q, 1, none⟩ (.int .i64 ((r.loose + l.length : Nat) : Int)))) := Lib.hid (by
      have e : r.lay l = ⟨r.l, r.loose + l.length, r.most⟩ := by simp [Ty.R.lay, hn]
      rw [e]
      exact ⟨G, vL, rset h.blk 1 _ rfl h.l h.inQ h.inL, fun _ hk => .inl hk, (Mod.refl G w).setCell (fun _ => h.inQ) _⟩)
    have hlo : r.loose ≤ r.height := by unfold Ty.R.height; omega
    obtain ⟨A', c', rfl, _, _⟩ := h.form
    rw [hn] at y0
    simp only [List.length_nil] at y0
    generalize hW3 : w.setCell ⟨Q, 1, none⟩ (.int .i64 ((r.loose + l.length : Nat) : Int)) = w3 at HP
    have ht := push_tail HP.out hh hl
    obtain ⟨hs, hhs⟩ : ∃ x, r.height + l.length = x := ⟨_, rfl⟩
    obtain ⟨mo, hmo⟩ : ∃ x, r.most = x := ⟨_, rfl⟩
    rw [hhs, hmo] at ht
    have HT := Lib.hid ht
    clear ht hhs hmo HP
    obtain ⟨lo, hlo2⟩ : ∃ x, r.loose = x := ⟨_, rfl⟩
    obtain ⟨n, hn2⟩ : ∃ x, l.length = x := ⟨_, rfl⟩
    rw [hlo2, hn2] at hW3
    rw [hlo2] at y1 hlo
    rw [hn2] at hh
    rw [hn2]
    have hs1 : (lo : Int) + (n : Int) ≤ 1000000000 := by omega
    have hW3' : w.setCell ⟨Q, 1, none⟩ (.int .i64 ((lo : Int) + (n : Int))) = w3 := by rw [← hW3]; rfl
    clear h hl hn hA hlo hlo2 hn2 hh hW3
    go_enter Try.func11, Try.ntmps11
    go_upto_region 4 with fail
    try rw [hW3']
    clear hW3' y0 y1 yf
    by_cases hgt : mo < hs
    · have hgi : (mo : Int) < (hs : Int) := by omega
      have HEND : Hid (∀ W, Below w3.heap.size w3 W → RPost G w B0 Q (r.push l) (W.setCell ⟨Q, 2, none⟩ (.int .i64 (hs : Int)))) := Lib.hid (fun W hW => (HT.out W hW).2.2.2.1 hgt)
      have HC := Lib.hid (fun W hW => (HT.out W hW).1)
      have HD : Hid (∀ n, (w3.drewN n).cell? ⟨Q, 2, none⟩ = some (.int .i64 (mo : Int)) ∧ (w3.drewN n).frozen? ⟨Q, 2, none⟩ = false) := Lib.hid (fun n => ⟨(HT.out _ (Below.dn (Below.refl _ _) n)).2.1, (HT.out _ (Below.dn (Below.refl _ _) n)).2.2.1⟩)
      have y2 := (HT.out w3 (Below.refl _ _)).2.1
      clear HT
      go_quiet ((go_at_call 26; exact Calls.quiet_of_same (HC.out _ (Below.dn (Below.refl _ _) _))))
      rename_i nq
      obtain ⟨z2, z3⟩ := HD.out nq
      go_wp2_with (go_at_call 26; refine (HC.out _ (Below.dn (Below.refl _ _) nq)).mono ?_; rintro e wz ⟨rfl, hw⟩; subst hw)
      go_end0
      exact ⟨rfl, HEND.out _ (Below.dn (Below.refl _ _) nq)⟩
    · have hgi : decide ((mo : Int) < (hs : Int)) = false := decide_eq_false (by omega)
      have hgi2 : decide (mo < hs) = false := decide_eq_false hgt
      have HEND : Hid (∀ W, Below w3.heap.size w3 W → RPost G w B0 Q (r.push l) W) := Lib.hid (fun W hW => (HT.out W hW).2.2.2.2 hgt)
      have HC := Lib.hid (fun W hW => (HT.out W hW).1)
      have y2 := (HT.out w3 (Below.refl _ _)).2.1
      clear HT
      go_quiet ((go_at_call 26; exact Calls.quiet_of_same (HC.out _ (Below.dn (Below.refl _ _) _))))
      go_wp2_with fail
      go_end0
      exact ⟨rfl, HEND.out _ (Below.dn (Below.refl _ _) _)⟩
  · obtain ⟨g, c', u, v, oo, rfl, hc1, hc2, hGg, hg, hgQ, hcell, hu, hv, ho⟩ := h.inner hf
    have hil : i.length ≤ 1000000000 := by rw [hf] at hl; simp at hl; omega
    have hol : f.own.length ≤ r.height := by
      have : r.height = r.loose + (Ty.total i + (f.own.length + 0)) := by unfold Ty.R.height; rw [hf, Ty.total_append]; rfl
      omega
    obtain ⟨B, d, rfl, hd1, hd2, hd3, hoL⟩ := ho
    have hbd : Below w.heap.size w w.drew := Below.drew (Below.refl _ _)
    obtain ⟨v1, w1, C, c3, w2, hr1, hr2, hsl, hb1, hb2⟩ := joined2 w.drew B A f.own l d c (hoL.has.on hbd) (hA.on hbd) (by omega)
    have hb1' : Below w.heap.size w w1 := hbd.trans hb1
    have hb2' : Below w.heap.size w w2 := hbd.trans hb2
    have HP : Hid (RPost G w B0 Q (r.lay l) (w2.setCell ⟨g, i.length * 4 + 2, none⟩ (.slice C (f.own.length + l.length) c3))) := Lib.hid (by
      have e : r.lay l = r.setOwn (f.own ++ l) := by unfold Ty.R.lay Ty.R.setOwn Ty.R.last; rw [Ty.rlast hf]
      rw [e]
      exact h.own hf hb2' _ _ (hsl.more (fun k _ hk => .inr hk)) hGg)
    have HOW : Hid (∀ W, Below w.heap.size w W → W.cell? ⟨g, i.length * 4 + 2, none⟩ = some (.slice B f.own.length d)) := Lib.hid (fun W hW => (hcell W (hW.block g hg)).2.2.1)
    have HFW : Hid (∀ W, Below w.heap.size w W → W.frozen? ⟨g, i.length * 4 + 2, none⟩ = false) := Lib.hid (fun W hW => (hcell W (hW.block g hg)).2.2.2.2 _)
    have HQ : Hid (∀ W, Below w.heap.size w W → W.cell? ⟨Q, 0, none⟩ = some (.slice (some ⟨g, 0, none⟩) (i.length + 1) c')) := Lib.hid (fun W hW => (h.on hW).cell0)
    have HQ3 : Hid ((w2.setCell ⟨g, i.length * 4 + 2, none⟩ (.slice C (f.own.length + l.length) c3)).cell? ⟨Q, 0, none⟩ = some (.slice (some ⟨g, 0, none⟩) (i.length + 1) c')) := Lib.hid (by
      have hbk := (heap_setCell_other w2 (⟨g, i.length * 4 + 2, none⟩ : Addr) Q (.slice C (f.own.length + l.length) c3) (fun e => hgQ e.symm)).trans ((hb2'.block Q h.lt).trans h.blk)
      rw [cell_of_row _ Q 0 _ _ (0, 0) hbk]; rfl)
    have HB01 := Lib.hid hbd
    have HB00 : Hid (Below w.heap.size w (w.drew.alloc (.cells #[] 5))) := Lib.hid (hbd.alloc hbd.size _)
    have HB1 := Lib.hid hb1'
    have HB2 := Lib.hid hb2'
    have HR1 := Lib.hid hr1
    have HR2 := Lib.hid hr2
    have HLL := Lib.hid (And.intro hh hl)
    obtain ⟨m, hm⟩ : ∃ x, i.length = x := ⟨_, rfl⟩
    obtain ⟨k, hk⟩ : ∃ x, f.own.length = x := ⟨_, rfl⟩
    obtain ⟨n, hn2⟩ : ∃ x, l.length = x := ⟨_, rfl⟩
    rw [hm] at HQ HQ3 HOW HFW y0 hil HP
    rw [hk] at HQ3 HOW HR1 HR2 HP
    rw [hn2] at HQ3 HR2 HP
    rw [hn2]
    clear h hf hc1 hc2 hGg hg hgQ hcell hu hv hol hd1 hd2 hd3 hoL hbd hr1 hr2 hsl hb1 hb2 hb1' hb2' hA hm hk hn2 hl
    go_enter Try.func11, Try.ntmps11
    have hwm : IntKind.i64.wrap (m : Int) = (m : Int) := IntWalk.i64_in _ (by omega)
    have hwm2 : IntKind.i64.wrap ((m : Int) + 1 - 1) = (m : Int) := by rw [IntWalk.i64_in _ (by omega)]; omega
    have hwm3 : (m : Int) < (m : Int) + 1 := by omega
    have hwm4 : (0 : Int) ≤ (m : Int) := by omega
    go_upto_region 3 with fail
    refine wp_region_held_drew (S := fun W' => W'.cell? ⟨Q, 0, none⟩ = some (.slice (some ⟨g, 0, none⟩) (m + 1) c')) (by kernel_rfl) ((HQ.out _ HB01.out)) (fun hHeld => ?_)
    refine drawn_take 0 rfl (by kernel_rfl) (by kernel_rfl) (by kernel_rfl) (fun _ _ _ h => h) (by rfl) (by assumption) (v := ?_) ?_ ?_
    rotate_left
    · (intro wy hSw; go_simp; try with_reducible rfl)
    simp only [Act.put, List.setIfInBounds_toArray, List.set_cons_zero, List.set_cons_succ]
    refine drawn_take 1 rfl (by kernel_rfl) (by kernel_rfl) (by kernel_rfl) (fun _ _ _ h => h) (by rfl) (by assumption) (v := ?_) ?_ ?_
    rotate_left
    · (intro wy hSw; go_simp; try with_reducible rfl)
    simp only [Act.put, List.setIfInBounds_toArray, List.set_cons_zero, List.set_cons_succ]
    refine drawn_take 2 rfl (by kernel_rfl) (by kernel_rfl) (by kernel_rfl) (fun _ _ _ h => h) (by rfl) (by assumption) (v := ?_) ?_ ?_
    rotate_left
    · (intro wy hSw; go_simp; try with_reducible rfl)
    simp only [Act.put, List.setIfInBounds_toArray, List.set_cons_zero, List.set_cons_succ]
    refine drawn_take 3 rfl (by kernel_rfl) (by kernel_rfl) (by kernel_rfl) (fun _ _ _ h => h) (by rfl) (by assumption) (v := ?_) ?_ ?_
    rotate_left
    · (intro wy hSw; go_simp; try with_reducible rfl)
    simp only [Act.put, List.setIfInBounds_toArray, List.set_cons_zero, List.set_cons_succ]
    refine drawn_take 4 rfl (by kernel_rfl) (by kernel_rfl) (by kernel_rfl) (fun _ _ _ h => h) (by rfl) (by assumption) (v := ?_) ?_ ?_
    rotate_left
    · (intro wy hSw; go_simp; try with_reducible rfl)
    simp only [Act.put, List.setIfInBounds_toArray, List.set_cons_zero, List.set_cons_succ]
    refine drawn_take 5 rfl (by kernel_rfl) (by kernel_rfl) (by kernel_rfl) (fun _ _ _ h => h) (by rfl) (by assumption) (v := ?_) ?_ ?_
    rotate_left
    · (intro wy hSw; go_simp; try with_reducible rfl)
    simp only [Act.put, List.setIfInBounds_toArray, List.set_cons_zero, List.set_cons_succ]
    refine drawn_take 7 rfl (by kernel_rfl) (by kernel_rfl) (by kernel_rfl) (fun _ _ _ h => h) (by rfl) (by assumption) (v := ?_) ?_ ?_
    rotate_left
    · (intro wy hSw; go_simp; try with_reducible rfl)
    simp only [Act.put, List.setIfInBounds_toArray, List.set_cons_zero, List.set_cons_succ]
    refine drawn_take 8 rfl (by kernel_rfl) (by kernel_rfl) (by kernel_rfl) (fun _ _ _ h => h) (by rfl) (by assumption) (v := ?_) ?_ ?_
    rotate_left
    · (intro wy hSw; go_simp; try with_reducible rfl)
    simp only [Act.put, List.setIfInBounds_toArray, List.set_cons_zero, List.set_cons_succ]
    refine drawn_take 9 rfl (by kernel_rfl) (by kernel_rfl) (by kernel_rfl) (fun _ _ _ h => h) (by rfl) (by assumption) (v := ?_) ?_ ?_
    rotate_left
    · (intro wy hSw; go_simp; try with_reducible rfl)
    simp only [Act.put, List.setIfInBounds_toArray, List.set_cons_zero, List.set_cons_succ]
    refine drawn_take 10 rfl (by kernel_rfl) (by kernel_rfl) (by kernel_rfl) (fun _ _ _ h => h) (by rfl) (by assumption) (v := ?_) ?_ ?_
    rotate_left
    · (intro wy hSw; go_simp; try with_reducible rfl)
    simp only [Act.put, List.setIfInBounds_toArray, List.set_cons_zero, List.set_cons_succ]
    refine drawn_take 11 rfl (by kernel_rfl) (by kernel_rfl) (by kernel_rfl) (fun _ _ _ h => h) (by rfl) (by assumption) (v := ?_) ?_ ?_
    rotate_left
    · (intro wy hSw; go_simp; try with_reducible rfl)
    simp only [Act.put, List.setIfInBounds_toArray, List.set_cons_zero, List.set_cons_succ]
    refine drawn_take 12 rfl (by kernel_rfl) (by kernel_rfl) (by kernel_rfl) (fun _ _ _ h => h) (by rfl) (by assumption) (v := ?_) ?_ ?_
    rotate_left
    · (intro wy hSw; go_simp; try with_reducible rfl)
    simp only [Act.put, List.setIfInBounds_toArray, List.set_cons_zero, List.set_cons_succ]
    refine drawn_take 13 rfl (by kernel_rfl) (by kernel_rfl) (by kernel_rfl) (fun _ _ _ h => h) (by rfl) (by assumption) (v := ?_) ?_ ?_
    rotate_left
    · (intro wy hSw; go_simp; try with_reducible rfl)
    simp only [Act.put, List.setIfInBounds_toArray, List.set_cons_zero, List.set_cons_succ]
    refine drawn_take 14 rfl (by kernel_rfl) (by kernel_rfl) (by kernel_rfl) (fun _ _ _ h => h) (by rfl) (by assumption) (v := ?_) ?_ ?_
    rotate_left
    · (intro wy hSw; go_simp; try with_reducible rfl)
    simp only [Act.put, List.setIfInBounds_toArray, List.set_cons_zero, List.set_cons_succ]
    refine drawn_take 17 rfl (by kernel_rfl) (by kernel_rfl) (by kernel_rfl) (fun _ _ _ h => h) (by rfl) (by assumption) (v := ?_) ?_ ?_
    rotate_left
    · (intro wy hSw; go_simp; try with_reducible rfl)
    simp only [Act.put, List.setIfInBounds_toArray, List.set_cons_zero, List.set_cons_succ]
    refine drawn_pair 6 15 rfl rfl (by kernel_rfl) (fun K hK => ?_) (fun K hK => ?_)
    · go_simp
      refine hK.out _ _ (HQ.out _ HB00.out) (fun hHeld2 => ?_)
      clear hK K hHeld
      have hHeld := hHeld2
      clear hHeld2
      refine drawn_sole 15 rfl (by kernel_rfl) (fun K hK => ?_)
      have hl0 : (w.alloc (.cells #[] 5)).drew.cell? ⟨g, m * 4 + 2, none⟩ = some (.slice B k d) := HOW.out _ HB00.out
      go_simp
      clear hl0
      refine hK.out _ _ hHeld (fun hHeld2 => ?_)
      clear hK K hHeld
      have hHeld := hHeld2
      clear hHeld2
      refine drawn_sole 16 rfl (by kernel_rfl) (fun K hK => ?_)
      rw [if_pos]
      case hc => rfl
      refine wp_appendX (.tmp 28) (.tmp 37) 22 rfl _ _ _ w1 rfl rfl HR1.out ?_
      refine hK.out _ _ (HQ.out _ HB1.out) (fun hHeld2 => ?_)
      clear hK K hHeld
      have hHeld := hHeld2
      clear hHeld2
      try simp only [Act.put, List.setIfInBounds_toArray, List.set_cons_zero, List.set_cons_succ]
      refine drawn_sole 18 rfl (by kernel_rfl) (fun K hK => ?_)
      rw [if_pos]
      case hc => rfl
      refine wp_appendX (.tmp 38) (.tmp 39) 22 rfl _ _ _ w2 rfl rfl HR2.out ?_
      refine hK.out _ _ (HQ.out _ HB2.out) (fun hHeld2 => ?_)
      clear hK K hHeld
      have hHeld := hHeld2
      clear hHeld2
      try simp only [Act.put, List.setIfInBounds_toArray, List.set_cons_zero, List.set_cons_succ]
      refine drawn_take 19 rfl (by kernel_rfl) (by kernel_rfl) (by kernel_rfl) (fun _ _ _ h => h) (by rfl) (by assumption) (v := ?_) ?_ ?_
      rotate_left
      · (intro wy hSw; go_simp; try with_reducible rfl)
      simp only [Act.put, List.setIfInBounds_toArray, List.set_cons_zero, List.set_cons_succ]
      refine drawn_take 20 rfl (by kernel_rfl) (by kernel_rfl) (by kernel_rfl) (fun _ _ _ h => h) (by rfl) (by assumption) (v := ?_) ?_ ?_
      rotate_left
      · (intro wy hSw; go_simp; try with_reducible rfl)
      simp only [Act.put, List.setIfInBounds_toArray, List.set_cons_zero, List.set_cons_succ]
      refine drawn_sole 21 rfl (by kernel_rfl) (fun K hK => ?_)
      have hl0 : w2.cell? ⟨g, m * 4 + 2, none⟩ = some (.slice B k d) := HOW.out _ HB2.out
      have gl0 := HFW.out _ HB2.out
      go_simp
      clear hl0 gl0
      refine hK.out _ _ HQ3.out (fun hHeld2 => ?_)
      clear hK K hHeld hHeld2
      refine wpAnyH_done (by kernel_rfl) ?_ _
      generalize w2.setCell ⟨g, m * 4 + 2, none⟩ (.slice C (k + n) c3) = w3 at HP ⊢
      clear HQ3
      have ht := push_tail HP.out HLL.out.1 HLL.out.2
      obtain ⟨hs, hhs⟩ : ∃ x, r.height + l.length = x := ⟨_, rfl⟩
      obtain ⟨mo, hmo⟩ : ∃ x, r.most = x := ⟨_, rfl⟩
      rw [hhs, hmo] at ht
      have HT := Lib.hid ht
      clear ht hhs hmo HP
      go_wp2_with fail
      by_cases hgt : mo < hs
      · have hgi : (mo : Int) < (hs : Int) := by omega
        have HEND : Hid (∀ W, Below w3.heap.size w3 W → RPost G w B0 Q (r.push l) (W.setCell ⟨Q, 2, none⟩ (.int .i64 (hs : Int)))) := Lib.hid (fun W hW => (HT.out W hW).2.2.2.1 hgt)
        have HC := Lib.hid (fun W hW => (HT.out W hW).1)
        have HD : Hid (∀ n, (w3.drewN n).cell? ⟨Q, 2, none⟩ = some (.int .i64 (mo : Int)) ∧ (w3.drewN n).frozen? ⟨Q, 2, none⟩ = false) := Lib.hid (fun n => ⟨(HT.out _ (Below.dn (Below.refl _ _) n)).2.1, (HT.out _ (Below.dn (Below.refl _ _) n)).2.2.1⟩)
        have y2 := (HT.out w3 (Below.refl _ _)).2.1
        clear HT
        go_quiet ((go_at_call 26; exact Calls.quiet_of_same (HC.out _ (Below.dn (Below.refl _ _) _))))
        rename_i nq
        obtain ⟨z2, z3⟩ := HD.out nq
        go_wp2_with (go_at_call 26; refine (HC.out _ (Below.dn (Below.refl _ _) nq)).mono ?_; rintro e wz ⟨rfl, hw⟩; subst hw)
        go_end0
        exact ⟨rfl, HEND.out _ (Below.dn (Below.refl _ _) nq)⟩
      · have hgi : decide ((mo : Int) < (hs : Int)) = false := decide_eq_false (by omega)
        have hgi2 : decide (mo < hs) = false := decide_eq_false hgt
        have HEND : Hid (∀ W, Below w3.heap.size w3 W → RPost G w B0 Q (r.push l) W) := Lib.hid (fun W hW => (HT.out W hW).2.2.2.2 hgt)
        have HC := Lib.hid (fun W hW => (HT.out W hW).1)
        have y2 := (HT.out w3 (Below.refl _ _)).2.1
        clear HT
        go_quiet ((go_at_call 26; exact Calls.quiet_of_same (HC.out _ (Below.dn (Below.refl _ _) _))))
        go_wp2_with fail
        go_end0
        exact ⟨rfl, HEND.out _ (Below.dn (Below.refl _ _) _)⟩
    · have hl0 : w.drew.cell? ⟨g, m * 4 + 2, none⟩ = some (.slice B k d) := HOW.out _ HB01.out
      go_simp
      clear hl0
      refine hK.out _ _ hHeld (fun hHeld2 => ?_)
      clear hK K hHeld
      have hHeld := hHeld2
      clear hHeld2
      refine drawn_sole 6 rfl (by kernel_rfl) (fun K hK => ?_)
      go_simp
      refine hK.out _ _ (HQ.out _ HB00.out) (fun hHeld2 => ?_)
      clear hK K hHeld
      have hHeld := hHeld2
      clear hHeld2
      refine drawn_sole 16 rfl (by kernel_rfl) (fun K hK => ?_)
      rw [if_pos]
      case hc => rfl
      refine wp_appendX (.tmp 28) (.tmp 37) 22 rfl _ _ _ w1 rfl rfl HR1.out ?_
      refine hK.out _ _ (HQ.out _ HB1.out) (fun hHeld2 => ?_)
      clear hK K hHeld
      have hHeld := hHeld2
      clear hHeld2
      try simp only [Act.put, List.setIfInBounds_toArray, List.set_cons_zero, List.set_cons_succ]
      refine drawn_sole 18 rfl (by kernel_rfl) (fun K hK => ?_)
      rw [if_pos]
      case hc => rfl
      refine wp_appendX (.tmp 38) (.tmp 39) 22 rfl _ _ _ w2 rfl rfl HR2.out ?_
      refine hK.out _ _ (HQ.out _ HB2.out) (fun hHeld2 => ?_)
      clear hK K hHeld
      have hHeld := hHeld2
      clear hHeld2
      try simp only [Act.put, List.setIfInBounds_toArray, List.set_cons_zero, List.set_cons_succ]
      refine drawn_take 19 rfl (by kernel_rfl) (by kernel_rfl) (by kernel_rfl) (fun _ _ _ h => h) (by rfl) (by assumption) (v := ?_) ?_ ?_
      rotate_left
      · (intro wy hSw; go_simp; try with_reducible rfl)
      simp only [Act.put, List.setIfInBounds_toArray, List.set_cons_zero, List.set_cons_succ]
      refine drawn_take 20 rfl (by kernel_rfl) (by kernel_rfl) (by kernel_rfl) (fun _ _ _ h => h) (by rfl) (by assumption) (v := ?_) ?_ ?_
      rotate_left
      · (intro wy hSw; go_simp; try with_reducible rfl)
      simp only [Act.put, List.setIfInBounds_toArray, List.set_cons_zero, List.set_cons_succ]
      refine drawn_sole 21 rfl (by kernel_rfl) (fun K hK => ?_)
      have hl0 : w2.cell? ⟨g, m * 4 + 2, none⟩ = some (.slice B k d) := HOW.out _ HB2.out
      have gl0 := HFW.out _ HB2.out
      go_simp
      clear hl0 gl0
      refine hK.out _ _ HQ3.out (fun hHeld2 => ?_)
      clear hK K hHeld hHeld2
      refine wpAnyH_done (by kernel_rfl) ?_ _
      generalize w2.setCell ⟨g, m * 4 + 2, none⟩ (.slice C (k + n) c3) = w3 at HP ⊢
      clear HQ3
      have ht := push_tail HP.out HLL.out.1 HLL.out.2
      obtain ⟨hs, hhs⟩ : ∃ x, r.height + l.length = x := ⟨_, rfl⟩
      obtain ⟨mo, hmo⟩ : ∃ x, r.most = x := ⟨_, rfl⟩
      rw [hhs, hmo] at ht
      have HT := Lib.hid ht
      clear ht hhs hmo HP
      go_wp2_with fail
      by_cases hgt : mo < hs
      · have hgi : (mo : Int) < (hs : Int) := by omega
        have HEND : Hid (∀ W, Below w3.heap.size w3 W → RPost G w B0 Q (r.push l) (W.setCell ⟨Q, 2, none⟩ (.int .i64 (hs : Int)))) := Lib.hid (fun W hW => (HT.out W hW).2.2.2.1 hgt)
        have HC := Lib.hid (fun W hW => (HT.out W hW).1)
        have HD : Hid (∀ n, (w3.drewN n).cell? ⟨Q, 2, none⟩ = some (.int .i64 (mo : Int)) ∧ (w3.drewN n).frozen? ⟨Q, 2, none⟩ = false) := Lib.hid (fun n => ⟨(HT.out _ (Below.dn (Below.refl _ _) n)).2.1, (HT.out _ (Below.dn (Below.refl _ _) n)).2.2.1⟩)
        have y2 := (HT.out w3 (Below.refl _ _)).2.1
        clear HT
        go_quiet ((go_at_call 26; exact Calls.quiet_of_same (HC.out _ (Below.dn (Below.refl _ _) _))))
        rename_i nq
        obtain ⟨z2, z3⟩ := HD.out nq
        go_wp2_with (go_at_call 26; refine (HC.out _ (Below.dn (Below.refl _ _) nq)).mono ?_; rintro e wz ⟨rfl, hw⟩; subst hw)
        go_end0
        exact ⟨rfl, HEND.out _ (Below.dn (Below.refl _ _) nq)⟩
      · have hgi : decide ((mo : Int) < (hs : Int)) = false := decide_eq_false (by omega)
        have hgi2 : decide (mo < hs) = false := decide_eq_false hgt
        have HEND : Hid (∀ W, Below w3.heap.size w3 W → RPost G w B0 Q (r.push l) W) := Lib.hid (fun W hW => (HT.out W hW).2.2.2.2 hgt)
        have HC := Lib.hid (fun W hW => (HT.out W hW).1)
        have y2 := (HT.out w3 (Below.refl _ _)).2.1
        clear HT
        go_quiet ((go_at_call 26; exact Calls.quiet_of_same (HC.out _ (Below.dn (Below.refl _ _) _))))
        go_wp2_with fail
        go_end0
        exact ⟨rfl, HEND.out _ (Below.dn (Below.refl _ _) _)⟩
end Go.Proofs.Ythkglmkpnhhboaa
