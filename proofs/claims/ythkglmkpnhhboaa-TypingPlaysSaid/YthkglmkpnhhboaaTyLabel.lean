/-
  Layer 9's program: Label; what is told of no stack. (gen/typing/label.py)
-/
import Derived.Test.YthkglmkpnhhboaaTyClose
namespace Go.Proofs.Ythkglmkpnhhboaa
open Go.RowKit Ins Bin
/-- A frame of a stack, by its number from the outermost one on: its label's slice. -/
theorem Stk.labelAt {w : World} {F : Nat → Prop} {P : Nat} {s : Ty.T} {vo vf : Value} (h : Stk w F P s vo vf) (k : Nat) (f : Ty.Fr) (hk : s.frs[k]? = some f) :
    ∃ g c u, vf = .slice (some ⟨g, 0, none⟩) s.frs.length c ∧ (∀ W, Below w.heap.size w W → W.cell? ⟨g, k * 4, none⟩ = some u) ∧ ∀ W, Below w.heap.size w W → SliceV W (· < W.heap.size) f.label u := by
  have hkl := (List.getElem?_eq_some_iff.1 hk).1
  obtain ⟨A, c, rfl, _, _, _, hL⟩ := h.frs.tell (fun _ _ => Nat.zero_le _)
  obtain ⟨g, o, cs, rfl, _, hg, ⟨u, v, rfl, h1, _⟩, hc⟩ := hL k f hk
  have ho : o = 0 := by
    obtain ⟨ys, _, hy, _⟩ := h.frs
    obtain ⟨g', c', e, _⟩ := own_form1 hy (by omega)
    injection e with e _ _
    injection e with e
    injection e with _ e _
  subst ho
  refine ⟨g, c, u, rfl, fun W hW => ?_, fun W hW => ?_⟩
  · have h0 := hW.cell (p := ⟨g, 0 + k * Lay.size Ty.Fr + 0, none⟩) hg
    have h2 := h0.trans (hc 0 u rfl)
    have e : 0 + k * Lay.size Ty.Fr + 0 = k * 4 := by show 0 + k * 4 + 0 = k * 4; omega
    rwa [e] at h2
  · exact (h1.more (S' := (· < w.heap.size)) (fun k hk _ => hk)).grow hW
set_option maxRecDepth 100000 in
set_option maxHeartbeats 2000000 in
theorem tlabel_any {w : World} {F : Nat → Prop} {P : Nat} {s : Ty.T} {vo vf : Value} (h : Stk w F P s vo vf) (n : Nat) (hn : n < 4294967296) (h2 : ∀ f ∈ s.frs, f.label.length ≤ 1000000000) (h3 : s.frs.length ≤ 1000000000) :
    Calls Try.prog 22 #[.pointer (some ⟨P, 0, none⟩), .int .u32 (n : Int)] w fun e w' => ansS (w.heap.size ≤ ·) (s.labelA n) e w' ∧ Below w.heap.size w w' := by
  have HC := Lib.hid (tframes_any h)
  by_cases hlt : n < s.frs.length
  · have hrev : s.frs.reverse[n]? = s.frs[s.frs.length - 1 - n]? := by rw [List.getElem?_reverse hlt]
    obtain ⟨f, hf⟩ : ∃ f, s.frs[s.frs.length - 1 - n]? = some f := ⟨_, List.getElem?_eq_getElem (by omega)⟩
    have HA : Hid (s.labelA n = some f.label) := Lib.hid (by unfold Ty.T.labelA; rw [hrev, hf]; rfl)
    rw [HA.out]
    obtain ⟨g, c, u, rfl, hc, hsl⟩ := h.labelAt _ f hf
    have hfl := h2 f (List.mem_of_getElem? hf)
    have HCL : Hid (∀ W, Below w.heap.size w W → Calls Try.prog 32 #[u] W fun e w' => ∃ A c, e = .returned (.slice A f.label.length c) ∧ SliceV w' (W.heap.size ≤ ·) f.label (.slice A f.label.length c) ∧ Below W.heap.size W w') := Lib.hid (fun W hW => tclone_any f.label u W (hsl W hW) hfl)
    obtain ⟨m, hm⟩ : ∃ m, s.frs.length = m := ⟨_, rfl⟩
    have HCELL : Hid (∀ W, Below w.heap.size w W → W.cell? ⟨P, 1, none⟩ = some (.slice (some ⟨g, 0, none⟩) m c) ∧ W.cell? ⟨g, (m - 1 - n) * 4, none⟩ = some u) := Lib.hid (fun W hW => ⟨by rw [← hm]; exact (h.on hW).cell1, by rw [← hm]; exact hc W hW⟩)
    obtain ⟨A, c1, rfl, _⟩ := hsl w (Below.refl _ _)
    obtain ⟨fl, hfl'⟩ : ∃ x, f.label.length = x := ⟨_, rfl⟩
    rw [hfl'] at HCL HCELL
    have HFL := Lib.hid hfl'
    rw [hm] at hlt h3 HC
    clear h hrev hf h2 hc hsl hfl hm hfl'
    have e1 : IntKind.u64.wrap (n : Int) = (n : Int) := IntWalk.u64_in _ (by omega)
    have e2 : IntKind.u64.wrap (m : Int) = (m : Int) := IntWalk.u64_in _ (by omega)
    have e3 : IntKind.i64.wrap (n : Int) = (n : Int) := IntWalk.i64_in _ (by omega)
    have e4 : (n : Int) < (m : Int) := by omega
    have e5 : decide ((m : Int) ≤ (n : Int)) = false := decide_eq_false (by omega)
    have e6 : decide (m ≤ n) = false := decide_eq_false (by omega)
    have HB0 : Hid (Below w.heap.size w w.drew) := Lib.hid (Below.drew (Below.refl _ _))
    go_enter Try.func22, Try.ntmps22
    go_upto_region 3 with (go_at_call 24; refine HC.out.mono ?_; rintro e w1 ⟨hw1, rfl⟩; obtain rfl : w = w1 := hw1.symm)
    clear e1 e2 e5 e6
    have e7 : IntKind.i64.wrap ((m : Int) - 1) = (m : Int) - 1 := IntWalk.i64_in _ (by omega)
    have e8 : IntKind.i64.wrap ((m : Int) - 1 - (n : Int)) = ((m - 1 - n : Nat) : Int) := by rw [IntWalk.i64_in _ (by omega)]; omega
    have e9 : m - 1 - n < m := by omega
    refine wp_region_held_drew (S := fun W' => Below w.heap.size w W') (by kernel_rfl) (HB0.out) (fun hHeld => ?_)
    refine drawn_take 0 rfl (by kernel_rfl) (by kernel_rfl) (by kernel_rfl) (fun _ _ _ h => h) (by rfl) (by assumption) (v := ?_) ?_ ?_
    rotate_left
    · (intro wy hSw; obtain ⟨z0, z1⟩ := HCELL.out wy hSw; go_simp; try with_reducible rfl)
    simp only [Act.put, List.setIfInBounds_toArray, List.set_cons_zero, List.set_cons_succ]
    refine drawn_take 1 rfl (by kernel_rfl) (by kernel_rfl) (by kernel_rfl) (fun _ _ _ h => h) (by rfl) (by assumption) (v := ?_) ?_ ?_
    rotate_left
    · (intro wy hSw; obtain ⟨z0, z1⟩ := HCELL.out wy hSw; go_simp; try with_reducible rfl)
    simp only [Act.put, List.setIfInBounds_toArray, List.set_cons_zero, List.set_cons_succ]
    refine drawn_take 2 rfl (by kernel_rfl) (by kernel_rfl) (by kernel_rfl) (fun _ _ _ h => h) (by rfl) (by assumption) (v := ?_) ?_ ?_
    rotate_left
    · (intro wy hSw; obtain ⟨z0, z1⟩ := HCELL.out wy hSw; go_simp; try with_reducible rfl)
    simp only [Act.put, List.setIfInBounds_toArray, List.set_cons_zero, List.set_cons_succ]
    refine drawn_take 3 rfl (by kernel_rfl) (by kernel_rfl) (by kernel_rfl) (fun _ _ _ h => h) (by rfl) (by assumption) (v := ?_) ?_ ?_
    rotate_left
    · (intro wy hSw; obtain ⟨z0, z1⟩ := HCELL.out wy hSw; go_simp; try with_reducible rfl)
    simp only [Act.put, List.setIfInBounds_toArray, List.set_cons_zero, List.set_cons_succ]
    refine drawn_take 4 rfl (by kernel_rfl) (by kernel_rfl) (by kernel_rfl) (fun _ _ _ h => h) (by rfl) (by assumption) (v := ?_) ?_ ?_
    rotate_left
    · (intro wy hSw; obtain ⟨z0, z1⟩ := HCELL.out wy hSw; go_simp; try with_reducible rfl)
    simp only [Act.put, List.setIfInBounds_toArray, List.set_cons_zero, List.set_cons_succ]
    refine drawn_take 5 rfl (by kernel_rfl) (by kernel_rfl) (by kernel_rfl) (fun _ _ _ h => h) (by rfl) (by assumption) (v := ?_) ?_ ?_
    rotate_left
    · (intro wy hSw; obtain ⟨z0, z1⟩ := HCELL.out wy hSw; go_simp; try with_reducible rfl)
    simp only [Act.put, List.setIfInBounds_toArray, List.set_cons_zero, List.set_cons_succ]
    refine drawn_take 6 rfl (by kernel_rfl) (by kernel_rfl) (by kernel_rfl) (fun _ _ _ h => h) (by rfl) (by assumption) (v := ?_) ?_ ?_
    rotate_left
    · (intro wy hSw; obtain ⟨z0, z1⟩ := HCELL.out wy hSw; go_simp; try with_reducible rfl)
    simp only [Act.put, List.setIfInBounds_toArray, List.set_cons_zero, List.set_cons_succ]
    refine drawn_take 7 rfl (by kernel_rfl) (by kernel_rfl) (by kernel_rfl) (fun _ _ _ h => h) (by rfl) (by assumption) (v := ?_) ?_ ?_
    rotate_left
    · (intro wy hSw; obtain ⟨z0, z1⟩ := HCELL.out wy hSw; go_simp; try with_reducible rfl)
    simp only [Act.put, List.setIfInBounds_toArray, List.set_cons_zero, List.set_cons_succ]
    refine drawn_take 8 rfl (by kernel_rfl) (by kernel_rfl) (by kernel_rfl) (fun _ _ _ h => h) (by rfl) (by assumption) (v := ?_) ?_ ?_
    rotate_left
    · (intro wy hSw; obtain ⟨z0, z1⟩ := HCELL.out wy hSw; go_simp; try with_reducible rfl)
    simp only [Act.put, List.setIfInBounds_toArray, List.set_cons_zero, List.set_cons_succ]
    refine drawn_take 9 rfl (by kernel_rfl) (by kernel_rfl) (by kernel_rfl) (fun _ _ _ h => h) (by rfl) (by assumption) (v := ?_) ?_ ?_
    rotate_left
    · (intro wy hSw; obtain ⟨z0, z1⟩ := HCELL.out wy hSw; go_simp; try with_reducible rfl)
    simp only [Act.put, List.setIfInBounds_toArray, List.set_cons_zero, List.set_cons_succ]
    refine drawn_take 10 rfl (by kernel_rfl) (by kernel_rfl) (by kernel_rfl) (fun _ _ _ h => h) (by rfl) (by assumption) (v := ?_) ?_ ?_
    rotate_left
    · (intro wy hSw; obtain ⟨z0, z1⟩ := HCELL.out wy hSw; go_simp; try with_reducible rfl)
    simp only [Act.put, List.setIfInBounds_toArray, List.set_cons_zero, List.set_cons_succ]
    refine drawn_take 11 rfl (by kernel_rfl) (by kernel_rfl) (by kernel_rfl) (fun _ _ _ h => h) (by rfl) (by assumption) (v := ?_) ?_ ?_
    rotate_left
    · (intro wy hSw; obtain ⟨z0, z1⟩ := HCELL.out wy hSw; go_simp; try with_reducible rfl)
    simp only [Act.put, List.setIfInBounds_toArray, List.set_cons_zero, List.set_cons_succ]
    refine drawn_take 12 rfl (by kernel_rfl) (by kernel_rfl) (by kernel_rfl) (fun _ _ _ h => h) (by rfl) (by assumption) (v := ?_) ?_ ?_
    rotate_left
    · (intro wy hSw; obtain ⟨z0, z1⟩ := HCELL.out wy hSw; go_simp; try with_reducible rfl)
    simp only [Act.put, List.setIfInBounds_toArray, List.set_cons_zero, List.set_cons_succ]
    refine drawn_take 13 rfl (by kernel_rfl) (by kernel_rfl) (by kernel_rfl) (fun _ _ _ h => h) (by rfl) (by assumption) (v := ?_) ?_ ?_
    rotate_left
    · (intro wy hSw; obtain ⟨z0, z1⟩ := HCELL.out wy hSw; go_simp; try with_reducible rfl)
    simp only [Act.put, List.setIfInBounds_toArray, List.set_cons_zero, List.set_cons_succ]
    refine drawn_take 14 rfl (by kernel_rfl) (by kernel_rfl) (by kernel_rfl) (fun _ _ _ h => h) (by rfl) (by assumption) (v := ?_) ?_ ?_
    rotate_left
    · (intro wy hSw; obtain ⟨z0, z1⟩ := HCELL.out wy hSw; go_simp; try with_reducible rfl)
    simp only [Act.put, List.setIfInBounds_toArray, List.set_cons_zero, List.set_cons_succ]
    refine drawn_take 15 rfl (by kernel_rfl) (by kernel_rfl) (by kernel_rfl) (fun _ _ _ h => h) (by rfl) (by assumption) (v := ?_) ?_ ?_
    rotate_left
    · (intro wy hSw; obtain ⟨z0, z1⟩ := HCELL.out wy hSw; go_simp; try with_reducible rfl)
    simp only [Act.put, List.setIfInBounds_toArray, List.set_cons_zero, List.set_cons_succ]
    refine drawn_sole 16 rfl (by kernel_rfl) (fun K hK => ?_)
    go_simp
    refine (HCL.out _ HB0.out).mono ?_
    rintro e w1 ⟨A1, d1, rfl, hs1, hb⟩
    have HB1 : Hid (Below w.heap.size w w1) := Lib.hid (HB0.out.trans (hb.mono HB0.out.size))
    have HS1 := Lib.hid hs1
    clear hs1 hb
    go_wp2_with fail
    refine hK.out _ _ HB1.out (fun hHeld2 => ?_)
    clear hK K hHeld
    have hHeld := hHeld2
    clear hHeld2
    refine drawn_take 17 rfl (by kernel_rfl) (by kernel_rfl) (by kernel_rfl) (fun _ _ _ h => h) (by rfl) (by assumption) (v := ?_) ?_ ?_
    rotate_left
    · (intro wy hSw; go_simp; try with_reducible rfl)
    simp only [Act.put, List.setIfInBounds_toArray, List.set_cons_zero, List.set_cons_succ]
    refine drawn_take 18 rfl (by kernel_rfl) (by kernel_rfl) (by kernel_rfl) (fun _ _ _ h => h) (by rfl) (by assumption) (v := ?_) ?_ ?_
    rotate_left
    · (intro wy hSw; go_simp; try with_reducible rfl)
    simp only [Act.put, List.setIfInBounds_toArray, List.set_cons_zero, List.set_cons_succ]
    refine wpAnyH_done (by kernel_rfl) ?_ _
    clear hHeld
    go_wp2_with fail
    go_ret2
    refine ⟨⟨A1, d1, by rw [HFL.out]; rfl, ?_⟩, HB1.out⟩
    rw [HFL.out]
    exact HS1.out
  · have HA : Hid (s.labelA n = none) := Lib.hid (by unfold Ty.T.labelA; rw [List.getElem?_eq_none (by simp; omega)]; rfl)
    rw [HA.out]
    obtain ⟨m, hm⟩ : ∃ m, s.frs.length = m := ⟨_, rfl⟩
    rw [hm] at hlt h3 HC
    clear h h2 hm
    have e1 : IntKind.u64.wrap (n : Int) = (n : Int) := IntWalk.u64_in _ (by omega)
    have e2 : IntKind.u64.wrap (m : Int) = (m : Int) := IntWalk.u64_in _ (by omega)
    have e4 : (m : Int) ≤ (n : Int) := by omega
    have e5 : m ≤ n := by omega
    go_enter Try.func22, Try.ntmps22
    go_wp2_with (go_at_call 24; refine HC.out.mono ?_; rintro e w1 ⟨hw1, rfl⟩; obtain rfl : w = w1 := hw1.symm)
    go_ret2
    exact ⟨rfl, Below.refl _ _⟩
set_option maxRecDepth 100000 in
theorem nframes_any (w : World) : Calls Try.prog 24 #[.pointer none] w fun e w' => e = .returned (.int .i64 0) ∧ w' = w := by
  go_enter Try.func24, Try.ntmps24
  go_wp2_with (fail)
  go_ret
  exact ⟨rfl, rfl⟩
set_option maxRecDepth 100000 in
theorem nheight_any (w : World) : Calls Try.prog 25 #[.pointer none] w fun e w' => e = .returned (.int .i64 0) ∧ w' = w := by
  go_enter Try.func25, Try.ntmps25
  go_wp2_with (fail)
  go_ret
  exact ⟨rfl, rfl⟩
set_option maxRecDepth 100000 in
theorem nmost_any (w : World) : Calls Try.prog 27 #[.pointer none] w fun e w' => e = .returned (.int .i64 0) ∧ w' = w := by
  go_enter Try.func27, Try.ntmps27
  go_wp2_with (fail)
  go_ret
  exact ⟨rfl, rfl⟩
set_option maxRecDepth 100000 in
theorem ninner_any (w : World) : Calls Try.prog 28 #[.pointer none] w fun e w' => e = .returned (.pointer none) ∧ w' = w := by
  go_enter Try.func28, Try.ntmps28
  go_wp2_with (go_at_call 24; refine (nframes_any _).mono ?_; rintro e w1 ⟨rfl, rfl⟩)
  go_ret
  exact ⟨rfl, rfl⟩
set_option maxRecDepth 100000 in
theorem nwithout_any (w : World) (v : Value) : Calls Try.prog 30 #[.pointer none, v] w fun e w' => e = .returned (.tuple #[.int .i64 0, .bool false]) ∧ w' = w := by
  go_enter Try.func30, Try.ntmps30
  go_wp2_with (go_at_call 28; refine (ninner_any _).mono ?_; rintro e w1 ⟨rfl, rfl⟩)
  go_ret2
  exact ⟨rfl, rfl⟩
set_option maxRecDepth 100000 in
theorem nwant_any (w : World) (v : Value) : Calls Try.prog 14 #[.pointer none, v] w fun e w' => e = .returned (.bool false) ∧ w' = w := by
  go_enter Try.func14, Try.ntmps14
  go_wp2_with (go_at_call 30; refine (nwithout_any _ _).mono ?_; rintro e w1 ⟨rfl, rfl⟩)
  go_ret
  exact ⟨rfl, rfl⟩
set_option maxRecDepth 100000 in
theorem npush_any (w : World) (v : Value) : Calls Try.prog 10 #[.pointer none, v] w fun e w' => e = .returned (.tuple #[]) ∧ w' = w := by
  go_enter Try.func10, Try.ntmps10
  go_wp2_with (fail)
  refine bodyPost_ret (results_none rfl _ _ _) rfl ?_
  exact ⟨rfl, rfl⟩
set_option maxRecDepth 100000 in
theorem nopen_any (w : World) (v : Value) (u : Value) : Calls Try.prog 16 #[.pointer none, v, u] w fun e w' => e = .returned (.tuple #[]) ∧ w' = w := by
  go_enter Try.func16, Try.ntmps16
  go_wp2_with (fail)
  go_end0
  exact ⟨rfl, rfl⟩
set_option maxRecDepth 100000 in
theorem ndead_any (w : World) : Calls Try.prog 20 #[.pointer none] w fun e w' => e = .returned (.tuple #[]) ∧ w' = w := by
  go_enter Try.func20, Try.ntmps20
  go_wp2_with (go_at_call 28; refine (ninner_any _).mono ?_; rintro e w1 ⟨rfl, rfl⟩)
  go_end0
  exact ⟨rfl, rfl⟩
set_option maxRecDepth 100000 in
theorem npop_any (w : World) : Calls Try.prog 12 #[.pointer none] w fun e w' => e = .returned (.tuple #[.int .u8 0, .bool false]) ∧ w' = w := by
  go_enter Try.func12, Try.ntmps12
  go_wp2_with (go_at_call 28; refine (ninner_any _).mono ?_; rintro e w1 ⟨rfl, rfl⟩)
  go_ret2
  exact ⟨rfl, rfl⟩
set_option maxRecDepth 100000 in
theorem nclose_any (w : World) : Calls Try.prog 18 #[.pointer none] w fun e w' => e = .returned (.tuple #[.slice none 0 0, .bool false]) ∧ w' = w := by
  go_enter Try.func18, Try.ntmps18
  go_wp2_with (go_at_call 28; refine (ninner_any _).mono ?_; rintro e w1 ⟨rfl, rfl⟩)
  go_ret2
  exact ⟨rfl, rfl⟩
set_option maxRecDepth 100000 in
theorem nlabel_any (w : World) : Calls Try.prog 22 #[.pointer none, .int .u32 0] w fun e w' => e = .returned (.tuple #[.slice none 0 0, .bool false]) ∧ w' = w := by
  go_enter Try.func22, Try.ntmps22
  go_wp2_with (go_at_call 24; refine (nframes_any _).mono ?_; rintro e w1 ⟨rfl, rfl⟩)
  go_ret2
  exact ⟨rfl, rfl⟩
end Go.Proofs.Ythkglmkpnhhboaa
