/-
  Layer 9's program: Push, Want, Pop, Dead. (gen/typing/push.py)
-/
import Derived.Test.YthkglmkpnhhboaaTyWo
namespace Go.Proofs.Ythkglmkpnhhboaa
open Go.RowKit Ins Bin
/-- What a call of a stack comes to. -/
def TPost (F : Nat → Prop) (w : World) (P : Nat) (s' : Ty.T) (w' : World) : Prop := ∃ F' vo' vf', Stk w' F' P s' vo' vf' ∧ (∀ k, F' k → F k ∨ w.heap.size ≤ k) ∧ Mod F w w'
theorem TPost.ahead {F : Nat → Prop} {w w1 w' : World} {P : Nat} {s' : Ty.T} (hb : Below w.heap.size w w1) (h : TPost F w1 P s' w') : TPost F w P s' w' := by
  obtain ⟨F', vo', vf', h1, h2, h3⟩ := h
  exact ⟨F', vo', vf', h1, fun k hk => (h2 k hk).imp id (fun h => Nat.le_trans hb.size h), (Mod.of_below hb).trans h3 (fun _ _ h => h)⟩
theorem TPost.trans {F F1 : Nat → Prop} {w w1 w' : World} {P : Nat} {s' : Ty.T} (hm : Mod F w w1) (hf : ∀ k, F1 k → F k ∨ w.heap.size ≤ k) (h : TPost F1 w1 P s' w') : TPost F w P s' w' := by
  obtain ⟨F', vo', vf', h1, h2, h3⟩ := h
  refine ⟨F', vo', vf', h1, fun k hk => ?_, hm.trans h3 (fun k hk h => ?_)⟩
  · rcases h2 k hk with h | h
    · exact hf k h
    · exact .inr (Nat.le_trans hm.size h)
  · rcases hf k h with h | h
    · exact h
    · omega
theorem Stk.same {w w' : World} {F : Nat → Prop} {P : Nat} {s : Ty.T} {vo vf : Value} (h : Stk w F P s vo vf) (hb : Below w.heap.size w w') : TPost F w P s w' := ⟨F, vo, vf, h.on hb, fun _ h => .inl h, Mod.of_below hb⟩
/-- Operands are laid behind. -/
theorem Stk.grown {w w1 w' : World} {F : Nat → Prop} {P m' : Nat} {s : Ty.T} {vo vf vo' : Value} {l : List UInt8} (h : Stk w F P s vo vf) (ha : Adds 0 w vo w1 vo' (s.ops ++ l)) (hm : Mod (· = P) w1 w')
    (hc : w'.heap[P]? = some (.cells #[vo', vf, .int .i64 (m' : Int)] 52 (0, 0))) : TPost F w P ⟨s.ops ++ l, s.frs, m'⟩ w' := by
  have hP := h.lt
  obtain ⟨ha1, ha2, ha3⟩ := ha
  have hne : vo'.ownBlock ≠ some P := fun e => by
    rcases ha3 P e with e | e
    · exact h.neO e
    · omega
  refine ⟨fun k => F k ∨ w.heap.size ≤ k, vo', vf, ⟨hc, hm.own ha1 (fun g hg e => hne (by rw [hg, e])), ?_, .inl h.inP, fun k hk => ?_, fun k hk => .inl (h.inF k hk)⟩, fun k hk => hk, ?_⟩
  · have h1 := h.frs.more (S' := fun k => inS F P vo vf k ∧ inS (fun k => F k ∨ w.heap.size ≤ k) P vo' vf k) (fun k hk hs => ⟨hs, .inl hs.1, hs.2.1, fun e => by
      rcases ha3 k e with e | e
      · exact hs.2.2.1 e
      · omega, hs.2.2.2⟩)
    have h2 := (h1.mod ha2 (fun k hk e => h.neOF k e hk) (fun k _ hs e => hs.1.2.2.1 e)).more (S' := inS (fun k => F k ∨ w.heap.size ≤ k) P vo' vf) (fun _ _ hs => hs.2)
    exact h2.mod hm (fun g hg e => h.neF (by rw [hg, e])) (fun g _ hs e => hs.2.1 e)
  · rcases ha3 k hk with e | e
    · exact .inl (h.inO k e)
    · exact .inr e
  · exact (ha2.more (fun k _ e => h.inO k e)).trans hm (fun k _ e => by rw [e]; exact h.inP)
set_option maxRecDepth 100000 in
set_option maxHeartbeats 4000000 in
theorem tpush_any {w : World} {F : Nat → Prop} {P : Nat} {s : Ty.T} {vo vf : Value} (h : Stk w F P s vo vf) (l : List UInt8) (A : Option Addr) (c : Nat) (hA : Has w w.heap.size A l) (h1 : s.ops.length + l.length ≤ 1000000000) (_h2 : s.most ≤ 1000000000) :
    Calls Try.prog 10 #[.pointer (some ⟨P, 0, none⟩), .slice A l.length c] w fun e w' => e = .returned (.tuple #[]) ∧ TPost F w P (s.push l) w' := by
  obtain ⟨vo', w1, hrun, ha⟩ := appends_adds w 0 l.length c vo s.ops l A h.ops hA rfl (by omega) (Nat.zero_le _)
  have HRUN := Lib.hid hrun
  have HA := Lib.hid ha
  have h0 := h.cell0
  have hB1 : Hid (w1.heap[P]? = some (.cells #[vo, vf, .int .i64 (s.most : Int)] 52 (0, 0))) := Lib.hid (ha.2.1.heap h.blk h.neO)
  obtain ⟨A', c', rfl, _, _⟩ := own_form ha.1
  have hlen : (s.ops ++ l).length = s.ops.length + l.length := List.length_append
  have HS := Lib.hid h
  obtain ⟨B, c2, rfl, _, _⟩ := own_form h.ops
  unfold Ty.T.push
  obtain ⟨S0, hS0⟩ : ∃ S0, s.ops = S0 := ⟨_, rfl⟩
  have hk1 := hB1.out
  have f0 : w1.cell? ⟨P, 0, none⟩ = some (.slice B s.ops.length c2) := by rw [cell_of_row w1 P 0 _ _ (0, 0) hk1]; rfl
  have f1 : w1.frozen? ⟨P, 0, none⟩ = false := frozen_of_row w1 P 0 _ _ hk1
  have HP2 : Hid ((w1.setCell ⟨P, 0, none⟩ (.slice A' (s.ops ++ l).length c')).heap[P]? = some (.cells #[.slice A' (s.ops ++ l).length c', vf, .int .i64 (s.most : Int)] 52 (0, 0))) := Lib.hid (by rw [heap_setCell_same w1 P 0 _ _ _ hk1]; rfl)
  have HM2 : Hid (Mod (· = P) w1 (w1.setCell ⟨P, 0, none⟩ (.slice A' (s.ops ++ l).length c'))) := Lib.hid (Mod.setCell (T := (· = P)) (Mod.refl _ w1) (fun _ => rfl) _)
  rw [hlen] at HRUN HP2 HM2
  obtain ⟨m, hm⟩ : ∃ m, s.ops.length = m := ⟨_, rfl⟩
  obtain ⟨n, hn⟩ : ∃ n, l.length = n := ⟨_, rfl⟩
  obtain ⟨mo, hmo⟩ : ∃ n, s.most = n := ⟨_, rfl⟩
  rw [hm] at h0 f0 h1
  rw [hm, hn] at HRUN HP2 HM2
  rw [hn] at h1
  rw [hmo] at HP2
  rw [hn]
  have HM := Lib.hid hm
  have HN := Lib.hid hn
  have HMO := Lib.hid hmo
  clear h hA hrun ha hB1 hk1 hlen hS0 hm hn hmo
  go_enter Try.func10, Try.ntmps10
  go_upto_region 2 with (at_builtin; refine wpList_appends rfl (.tmp 10) (.tmp 11) 22 rfl _ _ _ w1 rfl rfl HRUN.out ?_; clear h0)
  generalize w1.setCell ⟨P, 0, none⟩ (.slice A' (m + n) c') = w2 at HP2 HM2 ⊢
  clear f0 f1
  have HC0 : Hid (w2.cell? ⟨P, 0, none⟩ = some (.slice A' (m + n) c')) := Lib.hid (by rw [cell_of_row w2 P 0 _ _ (0, 0) HP2.out]; rfl)
  refine wp_region_held_drew (S := fun W' => W'.cell? ⟨P, 0, none⟩ = some (.slice A' (m + n) c')) (by kernel_rfl) (HC0.out) (fun hHeld => ?_)
  refine drawn_take 0 rfl (by kernel_rfl) (by kernel_rfl) (by kernel_rfl) (fun _ _ _ h => h) (by rfl) (by assumption) (v := ?_) ?_ ?_
  rotate_left
  · (intro wy hSw; go_simp; try with_reducible rfl)
  simp only [Act.put, List.setIfInBounds_toArray, List.set_cons_zero, List.set_cons_succ]
  refine drawn_take 1 rfl (by kernel_rfl) (by kernel_rfl) (by kernel_rfl) (fun _ _ _ h => h) (by rfl) (by assumption) (v := ?_) ?_ ?_
  rotate_left
  · (intro wy hSw; go_simp; try with_reducible rfl)
  simp only [Act.put, List.setIfInBounds_toArray, List.set_cons_zero, List.set_cons_succ]
  refine drawn_take 2 rfl (by kernel_rfl) (by kernel_rfl) (by kernel_rfl) (fun _ _ _ h => h) (by rfl) (by assumption) (v := ?_) ?_ ?_
  rotate_left
  · (intro wy hSw; go_simp; try with_reducible rfl)
  simp only [Act.put, List.setIfInBounds_toArray, List.set_cons_zero, List.set_cons_succ]
  refine drawn_take 3 rfl (by kernel_rfl) (by kernel_rfl) (by kernel_rfl) (fun _ _ _ h => h) (by rfl) (by assumption) (v := ?_) ?_ ?_
  rotate_left
  · (intro wy hSw; go_simp; try with_reducible rfl)
  simp only [Act.put, List.setIfInBounds_toArray, List.set_cons_zero, List.set_cons_succ]
  refine drawn_take 5 rfl (by kernel_rfl) (by kernel_rfl) (by kernel_rfl) (fun _ _ _ h => h) (by rfl) (by assumption) (v := ?_) ?_ ?_
  rotate_left
  · (intro wy hSw; go_simp; try with_reducible rfl)
  simp only [Act.put, List.setIfInBounds_toArray, List.set_cons_zero, List.set_cons_succ]
  refine drawn_take 6 rfl (by kernel_rfl) (by kernel_rfl) (by kernel_rfl) (fun _ _ _ h => h) (by rfl) (by assumption) (v := ?_) ?_ ?_
  rotate_left
  · (intro wy hSw; go_simp; try with_reducible rfl)
  simp only [Act.put, List.setIfInBounds_toArray, List.set_cons_zero, List.set_cons_succ]
  refine drawn_take 7 rfl (by kernel_rfl) (by kernel_rfl) (by kernel_rfl) (fun _ _ _ h => h) (by rfl) (by assumption) (v := ?_) ?_ ?_
  rotate_left
  · (intro wy hSw; go_simp; try with_reducible rfl)
  simp only [Act.put, List.setIfInBounds_toArray, List.set_cons_zero, List.set_cons_succ]
  refine drawn_take 8 rfl (by kernel_rfl) (by kernel_rfl) (by kernel_rfl) (fun _ _ _ h => h) (by rfl) (by assumption) (v := ?_) ?_ ?_
  rotate_left
  · (intro wy hSw; go_simp; try with_reducible rfl)
  simp only [Act.put, List.setIfInBounds_toArray, List.set_cons_zero, List.set_cons_succ]
  refine drawn_take 9 rfl (by kernel_rfl) (by kernel_rfl) (by kernel_rfl) (fun _ _ _ h => h) (by rfl) (by assumption) (v := ?_) ?_ ?_
  rotate_left
  · (intro wy hSw; go_simp; try with_reducible rfl)
  simp only [Act.put, List.setIfInBounds_toArray, List.set_cons_zero, List.set_cons_succ]
  refine drawn_sole 4 rfl (by kernel_rfl) (fun K hK => ?_)
  have hl : w2.drew.cell? ⟨P, 2, none⟩ = some (.int .i64 (mo : Int)) := by show w2.cell? _ = _; rw [cell_of_row w2 P 2 _ _ (0, 0) HP2.out]; rfl
  go_simp
  clear hl
  refine hK.out _ _ hHeld (fun hHeld2 => ?_)
  clear hK K hHeld
  have hHeld := hHeld2
  clear hHeld2
  refine drawn_take 10 rfl (by kernel_rfl) (by kernel_rfl) (by kernel_rfl) (fun _ _ _ h => h) (by rfl) (by assumption) (v := ?_) ?_ ?_
  rotate_left
  · (intro wy hSw; go_simp; try with_reducible rfl)
  simp only [Act.put, List.setIfInBounds_toArray, List.set_cons_zero, List.set_cons_succ]
  refine drawn_take 11 rfl (by kernel_rfl) (by kernel_rfl) (by kernel_rfl) (fun _ _ _ h => h) (by rfl) (by assumption) (v := ?_) ?_ ?_
  rotate_left
  · (intro wy hSw; go_simp; try with_reducible rfl)
  simp only [Act.put, List.setIfInBounds_toArray, List.set_cons_zero, List.set_cons_succ]
  refine drawn_take 12 rfl (by kernel_rfl) (by kernel_rfl) (by kernel_rfl) (fun _ _ _ h => h) (by rfl) (by assumption) (v := ?_) ?_ ?_
  rotate_left
  · (intro wy hSw; go_simp; try with_reducible rfl)
  simp only [Act.put, List.setIfInBounds_toArray, List.set_cons_zero, List.set_cons_succ]
  refine drawn_sole 13 rfl (by kernel_rfl) (fun K hK => ?_)
  have hf : w2.drew.frozen? ⟨P, 2, none⟩ = false := frozen_of_row w2 P 2 _ _ HP2.out
  have hl : w2.drew.cell? ⟨P, 2, none⟩ = some (.int .i64 (mo : Int)) := by show w2.cell? _ = _; rw [cell_of_row w2 P 2 _ _ (0, 0) HP2.out]; rfl
  go_simp
  clear hl hf
  have hmx : max (mo : Int) ((m : Int) + (n : Int)) = ((max mo (m + n) : Nat) : Int) := by omega
  rw [hmx]
  clear hmx
  obtain ⟨mx, hmx⟩ : ∃ mx, max mo (m + n) = mx := ⟨_, rfl⟩
  rw [hmx]
  have HMX := Lib.hid hmx
  clear hmx
  have HP3 : Hid (((w2.setCell ⟨P, 2, none⟩ (.int .i64 (mx : Int))).drew).heap[P]? = some (.cells #[.slice A' (m + n) c', vf, .int .i64 (mx : Int)] 52 (0, 0))) := Lib.hid (by show (w2.setCell ⟨P, 2, none⟩ (.int .i64 (mx : Int))).heap[P]? = _; rw [heap_setCell_same w2 P 2 _ _ _ HP2.out]; rfl)
  have HM3 : Hid (Mod (· = P) w1 (w2.setCell ⟨P, 2, none⟩ (.int .i64 (mx : Int))).drew) := Lib.hid ((HM2.out.setCell (fun _ => rfl) _).drew)
  generalize (w2.setCell ⟨P, 2, none⟩ (.int .i64 (mx : Int))).drew = w3 at HP3 HM3 ⊢
  refine hK.out _ _ (by rw [cell_of_row w3 P 0 _ _ (0, 0) HP3.out]; rfl) (fun hHeld2 => ?_)
  clear hK K hHeld hHeld2
  refine wpAnyH_done (by kernel_rfl) ?_ _
  go_wp2_with fail
  go_end0
  refine ⟨rfl, ?_⟩
  have hg := HS.out.grown HA.out HM3.out (m' := mx) (by rw [List.length_append, HM.out, HN.out]; exact HP3.out)
  rw [← HMX.out] at hg
  rw [← HMO.out, ← HM.out] at hg
  exact hg
end Go.Proofs.Ythkglmkpnhhboaa
