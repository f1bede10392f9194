/-
  Layer 9's reference: New, Kill, Label, Pop. (gen/typing/refb.py)
-/
import Derived.Test.YthkglmkpnhhboaaTyRefA
namespace Go.Proofs.Ythkglmkpnhhboaa
open Go.RowKit Ins Bin
set_option maxRecDepth 100000 in
set_option maxHeartbeats 4000000 in
theorem rnew_any (e : List UInt8) (ve : Value) (w : World) (B0 : Nat) (hB : B0 ≤ w.heap.size) (he : SliceV w (· < B0) e ve) :
    Calls Try.prog 9 #[ve] w fun r w' => ∃ Q G, r = .returned (.pointer (some ⟨Q, 0, none⟩)) ∧ AtG w' G B0 Q (Ty.R.new e) ∧ (∀ k, G k → w.heap.size ≤ k) ∧ Below w.heap.size w w' := by
  have hb0 : Below w.heap.size w (w.alloc (.cells #[.slice none 0 0, .int .i64 0, .int .i64 0] 46)) := (Below.refl _ _).alloc (Nat.le_refl _) _
  have hS0 : Rfk (w.alloc (.cells #[.slice none 0 0, .int .i64 0, .int .i64 0] 46)) (fun k => k = w.heap.size) B0 w.heap.size Ty.R.start (.slice none 0 0) :=
    ⟨heap_alloc_new w _, OwnL.nil _ _ _ _, rfl, fun k e => (by cases e)⟩
  have he0 : SliceV (w.alloc (.cells #[.slice none 0 0, .int .i64 0, .int .i64 0] 46)) (· < B0) e ve := he.mod (T := fun _ => False) (Mod.of_below hb0) (fun _ _ _ h => h)
  have HO := Lib.hid (ropen_any hS0 he0 he0 (fun k hk => by rw [hk]; exact hB) (by simp [Ty.R.start]))
  have HB0 := Lib.hid hb0
  obtain ⟨A, c, rfl, _⟩ := he
  obtain ⟨n, hn⟩ : ∃ n, e.length = n := ⟨_, rfl⟩
  rw [hn] at HO
  rw [hn]
  clear hS0 hb0 hn he0
  obtain ⟨P, hP⟩ : ∃ P, w.heap.size = P := ⟨_, rfl⟩
  rw [hP] at HO hB
  have HP := Lib.hid hP
  obtain ⟨W0, hW0⟩ : ∃ W0, w.alloc (.cells #[.slice none 0 0, .int .i64 0, .int .i64 0] 46) = W0 := ⟨_, rfl⟩
  go_enter Try.func9, Try.ntmps9
  go_upto_region 2 with fail
  try simp only [hP]
  clear hP
  try rw [hW0]
  rw [hW0] at HO HB0
  have HZ : Hid (w.heap.size < W0.heap.size) := Lib.hid (by rw [← hW0]; simp)
  clear hW0
  go_wp2_with (go_at_call 17; refine HO.out.mono ?_; rintro r w1 ⟨rfl, ht⟩; obtain ⟨G', q1, q2⟩ := ht.at; have HS1 := Lib.hid q1; have HF1 := Lib.hid q2; clear q1 q2 ht)
  go_ret
  have hp := HP.out
  have hz := HZ.out
  have hq := HB0.out.size
  refine ⟨P, G', rfl, HS1.out, fun k hk => ?_, HB0.out.trans (HF1.out.2.below hq (fun k hk e => by omega))⟩
  rcases HF1.out.1 k hk with e | e
  · omega
  · omega
set_option maxRecDepth 100000 in
set_option maxHeartbeats 4000000 in
theorem rkill_any {w : World} {G : Nat → Prop} {B0 Q : Nat} {r : Ty.R} {vL : Value} (h : Rfk w G B0 Q r vL) (hl : r.l.length ≤ 1000000000) :
    Calls Try.prog 21 #[.pointer (some ⟨Q, 0, none⟩)] w fun e w' => e = .returned (.tuple #[]) ∧ RPost G w B0 Q r.kill w' := by
  have HS := Lib.hid h
  have y0 := h.cell0
  rcases Ty.rparts r with hn | ⟨i, f, hf⟩
  · have HK : Hid (r.kill = r) := Lib.hid (by unfold Ty.R.kill Ty.R.last; rw [hn]; rfl)
    obtain ⟨A, c, rfl, _, _⟩ := h.form
    rw [hn] at y0
    simp only [List.length_nil] at y0
    clear h hl hn
    go_enter Try.func21, Try.ntmps21
    go_wp2_with fail
    go_end0
    refine ⟨rfl, ?_⟩
    rw [HK.out]
    exact HS.out.same (Below.refl _ _)
  · have HK : Hid (r.kill = ⟨i ++ [⟨f.label, f.ends, [], true⟩], r.loose, r.most⟩) := Lib.hid (by unfold Ty.R.kill Ty.R.last; rw [Ty.rlast hf, hf]; simp)
    obtain ⟨g, c, u, v, oo, rfl, hc1, hc2, hGg, hg, hgQ, hcell, hu, hv, _⟩ := h.inner hf
    obtain ⟨_, _, q2, q3, qf⟩ := hcell w rfl
    have hil : i.length ≤ 1000000000 := by rw [hf] at hl; simp at hl; omega
    have h1 := h.setLast hf 2 (.slice none 0 0) ⟨f.label, f.ends, [], f.dead⟩ (fun cs hr => by
      obtain ⟨a, b, o, rfl, r1, r2, _⟩ := hr
      exact ⟨a, b, _, rfl, r1, r2, SliceV.nil _ _⟩)
    have h2 := h1.setLast (i := i) (f := ⟨f.label, f.ends, [], f.dead⟩) rfl 3 (.bool true) ⟨f.label, f.ends, [], true⟩ (fun cs hr => by
      obtain ⟨a, b, o, rfl, r1, r2, r3⟩ := hr
      exact ⟨a, b, o, rfl, r1, r2, r3⟩)
    obtain ⟨g', c', u', v', o', e', _, _, _, _, _, hcell', _, _, _⟩ := h1.inner (i := i) (f := ⟨f.label, f.ends, [], f.dead⟩) rfl
    injection e' with e1 _ e3
    injection e1 with e1
    injection e1 with e1 _ _
    subst e1 e3
    obtain ⟨_, _, _, q3', qf'⟩ := hcell' _ rfl
    have y0' := h1.cell0
    have HE : Hid (RPost G w B0 Q r.kill ((w.setCell ⟨g, i.length * 4 + 2, none⟩ (.slice none 0 0)).setCell ⟨g, i.length * 4 + 3, none⟩ (.bool true))) := Lib.hid (by
      rw [HK.out]
      exact RPost.of h2 (((Mod.refl G w).setCell (fun _ => hGg) _).setCell (fun _ => hGg) _))
    have q4 := qf (i.length * 4 + 2)
    have q4' := qf' (i.length * 4 + 3)
    obtain ⟨m, hm⟩ : ∃ m, i.length = m := ⟨_, rfl⟩
    rw [hm] at q2 q3 q4 q3' q4' HE y0 y0' hil
    clear h hf hc1 hc2 hGg hg hgQ hcell hu hv h1 h2 hcell' hm qf qf' hl
    go_enter Try.func21, Try.ntmps21
    go_wp2_with fail
    go_end0
    exact ⟨rfl, HE.out⟩

set_option maxRecDepth 100000 in
set_option maxHeartbeats 4000000 in
theorem rlabel_any {w : World} {G : Nat → Prop} {B0 Q : Nat} {r : Ty.R} {vL : Value} (h : Rfk w G B0 Q r vL) (n : Nat) (hn : n < 4294967296) (hl : r.l.length ≤ 1000000000) :
    Calls Try.prog 23 #[.pointer (some ⟨Q, 0, none⟩), .int .u32 (n : Int)] w fun e w' => ansS (fun k => G k ∨ k < B0) (r.labelA n) e w' ∧ Below w.heap.size w w' := by
  have y0 := h.cell0
  by_cases hlt : n < r.l.length
  · have hrev : r.l.reverse[n]? = r.l[r.l.length - 1 - n]? := by rw [List.getElem?_reverse hlt]
    obtain ⟨f, hf⟩ : ∃ f, r.l[r.l.length - 1 - n]? = some f := ⟨_, List.getElem?_eq_getElem (by omega)⟩
    have HA : Hid (r.labelA n = some f.label) := Lib.hid (by unfold Ty.R.labelA; rw [hrev, hf]; rfl)
    rw [HA.out]
    obtain ⟨g, c, u, v, oo, rfl, hc, _, hsl, _, _⟩ := h.rowAt _ f hf
    obtain ⟨A1, c1, rfl, hsl2⟩ := hsl
    have HSL : Hid (∀ W, Below w.heap.size w W → SliceV W (fun k => G k ∨ k < B0) f.label (.slice A1 f.label.length c1)) := Lib.hid (fun W hW => SliceV.mod (T := fun _ => False) ⟨A1, c1, rfl, hsl2⟩ (Mod.of_below hW) (fun _ _ _ h => h))
    obtain ⟨m, hm⟩ : ∃ m, r.l.length = m := ⟨_, rfl⟩
    obtain ⟨fl, hfl⟩ : ∃ x, f.label.length = x := ⟨_, rfl⟩
    rw [hm] at hlt hl hc y0
    rw [hfl] at hc
    have HFL := Lib.hid hfl
    clear h hrev hf hsl2 hm hfl
    have e1 : IntKind.i64.wrap (n : Int) = (n : Int) := IntWalk.i64_in _ (by omega)
    have e4 : (n : Int) < (m : Int) := by omega
    have e5 : decide ((m : Int) ≤ (n : Int)) = false := decide_eq_false (by omega)
    have e6 : decide (m ≤ n) = false := decide_eq_false (by omega)
    go_enter Try.func23, Try.ntmps23
    go_upto_region 3 with fail
    clear e5 e6
    have e7 : IntKind.i64.wrap ((m : Int) - 1) = (m : Int) - 1 := IntWalk.i64_in _ (by omega)
    have e8 : IntKind.i64.wrap ((m : Int) - 1 - (n : Int)) = ((m - 1 - n : Nat) : Int) := by rw [IntWalk.i64_in _ (by omega)]; omega
    have e9 : m - 1 - n < m := by omega
    go_quiet (fail)
    go_wp2_with fail
    go_ret2
    exact ⟨⟨A1, c1, by rw [HFL.out]; rfl, HSL.out _ (Below.dn (Below.refl _ _) _)⟩, Below.dn (Below.refl _ _) _⟩
  · have HA : Hid (r.labelA n = none) := Lib.hid (by unfold Ty.R.labelA; rw [List.getElem?_eq_none (by simp; omega)]; rfl)
    rw [HA.out]
    obtain ⟨A, c, rfl, _, _⟩ := h.form
    obtain ⟨m, hm⟩ : ∃ m, r.l.length = m := ⟨_, rfl⟩
    rw [hm] at hlt hl y0
    clear h hm
    have e1 : IntKind.i64.wrap (n : Int) = (n : Int) := IntWalk.i64_in _ (by omega)
    have e4 : (m : Int) ≤ (n : Int) := by omega
    have e5 : m ≤ n := by omega
    go_enter Try.func23, Try.ntmps23
    go_wp2_with fail
    go_ret2
    exact ⟨rfl, Below.refl _ _⟩
set_option maxRecDepth 100000 in
set_option maxHeartbeats 4000000 in
theorem rpop_any {w : World} {G : Nat → Prop} {B0 Q : Nat} {r : Ty.R} {vL : Value} (h : Rfk w G B0 Q r vL) (hl : r.l.length ≤ 1000000000) (hh : r.height ≤ 1000000000) :
    Calls Try.prog 13 #[.pointer (some ⟨Q, 0, none⟩)] w fun e w' => e = .returned (.tuple #[.int .u8 (r.popA.1.toNat : Int), .bool r.popA.2]) ∧ RPost G w B0 Q r.pop w' := by
  have HS := Lib.hid h
  have y0 := h.cell0
  rcases Ty.rparts r with hn | ⟨i, f, hf⟩
  · have HK : Hid (r.pop = r ∧ r.popA = (0, false)) := Lib.hid (by unfold Ty.R.pop Ty.R.popA Ty.R.last; rw [hn]; exact ⟨rfl, rfl⟩)
    obtain ⟨A, c, rfl, _, _⟩ := h.form
    rw [hn] at y0
    simp only [List.length_nil] at y0
    rw [HK.out.1, HK.out.2]
    clear h hl hh hn
    go_enter Try.func13, Try.ntmps13
    go_wp2_with fail
    go_ret2
    exact ⟨rfl, HS.out.same (Below.refl _ _)⟩
  · obtain ⟨g, c, u, v, oo, rfl, hc1, hc2, hGg, hg, hgQ, hcell, hu, hv, ho⟩ := h.inner hf
    have hil : i.length ≤ 1000000000 := by rw [hf] at hl; simp at hl; omega
    have hol : f.own.length ≤ 1000000000 := by
      have : r.height = r.loose + (Ty.total i + (f.own.length + 0)) := by unfold Ty.R.height; rw [hf, Ty.total_append]; rfl
      omega
    obtain ⟨_, _, q2, q3, qf⟩ := hcell w rfl
    obtain ⟨B, d, rfl, hd1, hd2, hd3, hoL⟩ := ho
    have HGg := Lib.hid hGg
    unfold Ty.R.pop Ty.R.popA Ty.R.last
    rw [Ty.rlast hf]
    dsimp only
    by_cases h0 : f.own.length = 0
    · rw [if_pos h0, if_pos h0]
      rw [h0] at q2
      obtain ⟨m, hm⟩ : ∃ m, i.length = m := ⟨_, rfl⟩
      rw [hm] at q2 q3 y0 hil
      generalize f.dead = fd at *
      have HCE : Hid (∀ n, (w.drewN n).cell? ⟨g, m * 4 + 3, none⟩ = some (.bool fd)) := Lib.hid (fun _ => q3)
      clear h hl hh hf hc1 hc2 hGg hg hgQ hcell hu hv hd1 hd2 hd3 hoL h0 hm qf hol
      go_enter Try.func13, Try.ntmps13
      go_upto_region 7 with fail
      go_quiet (fail)
      go_wp2_with fail
      go_ret2
      exact ⟨rfl, HS.out.same (Below.dn (Below.refl _ _) _)⟩
    · rw [if_neg h0, if_neg h0]
      obtain ⟨p, hp⟩ : ∃ p, f.own.length = p + 1 := ⟨f.own.length - 1, by omega⟩
      obtain ⟨x, hx⟩ : ∃ x, f.own[p]? = some x := ⟨_, List.getElem?_eq_getElem (by omega)⟩
      have hlast : f.own.getLast?.getD 0 = x := by rw [List.getLast?_eq_getElem?, hp]; simp [hx]
      obtain ⟨ad, rfl, _, hxc⟩ := hoL.has p x hx
      have h1 := h.setLast hf 2 (.slice (some ad) p d) ⟨f.label, f.ends, f.own.dropLast, f.dead⟩ (fun cs hr => by
        obtain ⟨a, b, o, rfl, r1, r2, _⟩ := hr
        refine ⟨a, b, _, rfl, r1, r2, some ad, d, by rw [List.length_dropLast, hp]; rfl, by rw [List.length_dropLast, hp]; omega, hd2, fun e => (by cases e), fun k y hk => ?_⟩
        rw [List.getElem?_dropLast] at hk
        split at hk
        · exact hoL k y hk
        · cases hk)
      have HE : Hid (RPost G w B0 Q (r.setOwn f.own.dropLast) (w.setCell ⟨g, i.length * 4 + 2, none⟩ (.slice (some ad) p d))) := Lib.hid (by
        have e : r.setOwn f.own.dropLast = ⟨i ++ [⟨f.label, f.ends, f.own.dropLast, f.dead⟩], r.loose, r.most⟩ := by
          unfold Ty.R.setOwn Ty.R.last; rw [Ty.rlast hf, hf]; simp
        rw [e]
        exact RPost.of h1 ((Mod.refl G w).setCell (fun _ => hGg) _))
      rw [hlast]
      rw [hp] at q2 hd1 hol
      obtain ⟨m, hm⟩ : ∃ m, i.length = m := ⟨_, rfl⟩
      have q4 := qf (m * 4 + 2)
      rw [hm] at q2 y0 hil HE
      have hpd : (p : Int) + 1 ≤ (d : Int) := by omega
      have hpd1 : (p : Int) ≤ (d : Int) := by omega
      have hpd2 : p ≤ d := by omega
      have hpz : ((p : Int) + 1 == 0) = false := by rw [beq_eq_false_iff_ne]; omega
      unfold maxLen at hd2
      clear h hl hh hf hc1 hc2 hGg hg hgQ hcell hu hv hd1 hd3 hoL h0 hm qf h1 hx hlast q3 hp
      go_enter Try.func13, Try.ntmps13
      go_wp2_with fail
      go_ret2
      exact ⟨rfl, HE.out⟩
end Go.Proofs.Ythkglmkpnhhboaa
