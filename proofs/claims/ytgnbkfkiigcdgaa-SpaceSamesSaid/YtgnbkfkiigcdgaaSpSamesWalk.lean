/-
  The walk over SpaceSames. (gen/space/law1.py)
-/
import Derived.Test.YtgnbkfkiigcdgaaSpKnown2
namespace Go.Proofs.Ytgnbkfkiigcdgaa
open Go.RowKit Ins Bin Sp
set_option maxRecDepth 100000 in
set_option maxHeartbeats 4000000 in
theorem spaceSames_any (x y : FT) (u1 u2 v1 v2 : Value) (w : World) (hu1 : SliceV w (· < w.heap.size) x.params u1) (hu2 : SliceV w (· < w.heap.size) x.results u2) (hv1 : SliceV w (· < w.heap.size) y.params v1) (hv2 : SliceV w (· < w.heap.size) y.results v2)
    (hx : x.params.length ≤ most ∧ x.results.length ≤ most) (hy : y.params.length ≤ most ∧ y.results.length ≤ most) :
    Calls Try.prog 4 #[.agg #[u1, u2], .agg #[v1, v2]] w fun e w' => e = .returned (.bool true) ∧ Below w.heap.size w w' := by
  obtain ⟨hx1, hx2⟩ := hx
  obtain ⟨hy1, hy2⟩ := hy
  unfold most at hx1 hx2 hy1 hy2
  have HS1 : Hid (x.params.length + x.results.length + y.params.length + y.results.length ≤ 3000 → ∀ W, Below w.heap.size w W → Calls Try.prog 24 #[.agg #[u1, u2], .agg #[v1, v2]] W fun e w' => e = .returned (.bool (decide (x = y))) ∧ Below W.heap.size W w') := Lib.hid (fun hl W hb => ssame_any x y u1 u2 v1 v2 W (hu1.grow hb) (hu2.grow hb) (hv1.grow hb) (hv2.grow hb) (by omega) (by omega))
  have HS2 : Hid (∀ W, Below w.heap.size w W → Calls Try.prog 13 #[.agg #[u1, u2], .agg #[v1, v2]] W fun e w' => e = .returned (.bool (decide (x = y))) ∧ Below W.heap.size W w') := Lib.hid (fun W hb => rsame_any x y u1 u2 v1 v2 W (hu1.grow hb) (hu2.grow hb) (hv1.grow hb) (hv2.grow hb))
  have HS3 : Hid (x.params.length + x.results.length + y.params.length + y.results.length ≤ 3000 → ∀ W, Below w.heap.size w W → Calls Try.prog 24 #[.agg #[u1, u2], .agg #[u1, u2]] W fun e w' => e = .returned (.bool true) ∧ Below W.heap.size W w') := Lib.hid (fun hl W hb => by
    have h := ssame_any x x u1 u2 u1 u2 W (hu1.grow hb) (hu2.grow hb) (hu1.grow hb) (hu2.grow hb) (by omega) (by omega)
    rw [decide_eq_true rfl] at h
    exact h)
  generalize decide (x = y) = d at HS1 HS2
  obtain ⟨A1, c1, rfl, _⟩ := hu1
  obtain ⟨A2, c2, rfl, _⟩ := hu2
  obtain ⟨A3, c3, rfl, _⟩ := hv1
  obtain ⟨A4, c4, rfl, _⟩ := hv2
  generalize x.params.length = n1 at *
  generalize x.results.length = n2 at *
  generalize y.params.length = n3 at *
  generalize y.results.length = n4 at *
  have HX0 : Hid (((w.alloc (.cells #[.slice A1 n1 c1, .slice A2 n2 c2] 40)).alloc (.cells #[.slice A3 n3 c3, .slice A4 n4 c4] 40)).heap[w.heap.size]? = some (.cells #[.slice A1 n1 c1, .slice A2 n2 c2] 40 (0, 0))) := Lib.hid ((Below.heap_alloc _ _ _ (by simp)).trans (heap_alloc_new w _))
  have HX1 : Hid (((w.alloc (.cells #[.slice A1 n1 c1, .slice A2 n2 c2] 40)).alloc (.cells #[.slice A3 n3 c3, .slice A4 n4 c4] 40)).heap[w.heap.size + 1]? = some (.cells #[.slice A3 n3 c3, .slice A4 n4 c4] 40 (0, 0))) := Lib.hid (new_at _ _ _ (by simp))
  have HB0 : Hid (Below w.heap.size w ((w.alloc (.cells #[.slice A1 n1 c1, .slice A2 n2 c2] 40)).alloc (.cells #[.slice A3 n3 c3, .slice A4 n4 c4] 40))) := Lib.hid (((Below.refl _ _).alloc (Nat.le_refl _) _).alloc (by simp) _)
  go_enter Try.func4, Try.ntmps4
  go_upto_region 1 with fail
  generalize (w.alloc (.cells #[.slice A1 n1 c1, .slice A2 n2 c2] 40)).alloc (.cells #[.slice A3 n3 c3, .slice A4 n4 c4] 40) = w0 at HX0 HX1 HB0 ⊢
  go_upto_region 3 with (go_at_call 6; refine (known8 _).mono ?_; rintro e w1 ⟨rfl, hb⟩; have HW1 := Lib.hid hb; clear hb)
  have HCC := Lib.hid (fun W (hW : Below w1.heap.size w1 W) => And.intro (two_cells ((hW.block _ (Nat.lt_of_lt_of_le (Array.getElem?_eq_some_iff.1 HX0.out).1 HW1.out.size)).trans ((HW1.out.block _ (Array.getElem?_eq_some_iff.1 HX0.out).1).trans HX0.out))) (two_cells ((hW.block _ (Nat.lt_of_lt_of_le (Array.getElem?_eq_some_iff.1 HX1.out).1 HW1.out.size)).trans ((HW1.out.block _ (Array.getElem?_eq_some_iff.1 HX1.out).1).trans HX1.out))))
  have HB1 := Lib.hid (HB0.out.trans (HW1.out.mono HB0.out.size))
  clear HX0 HX1 HB0
  obtain ⟨X, hX⟩ : ∃ X, w.heap.size = X := ⟨_, rfl⟩
  simp only [hX] at HCC ⊢
  clear hX
  obtain ⟨⟨y0, y1⟩, ⟨y2, y3⟩⟩ := HCC.out w1 (Below.refl _ _)
  by_cases hl : n1 + n2 + n3 + n4 ≤ 3000
  · have hli : decide ((3000 : Int) < (n1 : Int) + (n2 : Int) + (n3 : Int) + (n4 : Int)) = false := decide_eq_false (by omega)
    have HQ1 := Lib.hid (HS1.out hl)
    have HQ3 := Lib.hid (HS3.out hl)
    clear HS1 HS3 hl
    have hdd : (d == d) = true := by cases d <;> rfl
    go_upto_region 5 with fail
    clear y0 y1 y2 y3 hli
    refine wp_region_held_drew (S := fun W' => Below w1.heap.size w1 W') (by kernel_rfl) (Below.drew (Below.refl _ _)) (fun hHeld => ?_)
    refine drawn_take 0 rfl (by kernel_rfl) (by kernel_rfl) (by kernel_rfl) (fun _ _ _ h => h) (by rfl) (by assumption) (v := ?_) ?_ ?_
    rotate_left
    · (intro wy hSw; obtain ⟨⟨z0, z1⟩, ⟨z2, z3⟩⟩ := HCC.out wy hSw; go_simp; try with_reducible rfl)
    simp only [Act.put, List.setIfInBounds_toArray, List.set_cons_zero, List.set_cons_succ]
    refine drawn_take 1 rfl (by kernel_rfl) (by kernel_rfl) (by kernel_rfl) (fun _ _ _ h => h) (by rfl) (by assumption) (v := ?_) ?_ ?_
    rotate_left
    · (intro wy hSw; obtain ⟨⟨z0, z1⟩, ⟨z2, z3⟩⟩ := HCC.out wy hSw; go_simp; try with_reducible rfl)
    simp only [Act.put, List.setIfInBounds_toArray, List.set_cons_zero, List.set_cons_succ]
    refine drawn_take 3 rfl (by kernel_rfl) (by kernel_rfl) (by kernel_rfl) (fun _ _ _ h => h) (by rfl) (by assumption) (v := ?_) ?_ ?_
    rotate_left
    · (intro wy hSw; obtain ⟨⟨z0, z1⟩, ⟨z2, z3⟩⟩ := HCC.out wy hSw; go_simp; try with_reducible rfl)
    simp only [Act.put, List.setIfInBounds_toArray, List.set_cons_zero, List.set_cons_succ]
    refine drawn_take 4 rfl (by kernel_rfl) (by kernel_rfl) (by kernel_rfl) (fun _ _ _ h => h) (by rfl) (by assumption) (v := ?_) ?_ ?_
    rotate_left
    · (intro wy hSw; obtain ⟨⟨z0, z1⟩, ⟨z2, z3⟩⟩ := HCC.out wy hSw; go_simp; try with_reducible rfl)
    simp only [Act.put, List.setIfInBounds_toArray, List.set_cons_zero, List.set_cons_succ]
    refine drawn_sole 2 rfl (by kernel_rfl) (fun K hK => ?_)
    try (rw [if_pos]; case hc => rfl)
    go_simp
    refine (HQ1.out _ (HB1.out.trans (hHeld.mono HB1.out.size))).mono ?_
    rintro e w2 ⟨rfl, hb⟩
    have hH : Below w1.heap.size w1 w2 := hHeld.trans (hb.mono hHeld.size)
    have HW2 := Lib.hid hH
    clear hb
    go_wp2_with fail
    refine hK.out _ _ hH (fun hHeld2 => ?_)
    clear hK K hHeld hH
    have hHeld := hHeld2
    clear hHeld2
    refine drawn_sole 5 rfl (by kernel_rfl) (fun K hK => ?_)
    try (rw [if_pos]; case hc => rfl)
    go_simp
    refine (HS2.out _ (HB1.out.trans (hHeld.mono HB1.out.size))).mono ?_
    rintro e w3 ⟨rfl, hb⟩
    have hH : Below w1.heap.size w1 w3 := hHeld.trans (hb.mono hHeld.size)
    have HW3 := Lib.hid hH
    clear hb
    go_wp2_with fail
    refine hK.out _ _ hH (fun hHeld2 => ?_)
    clear hK K hHeld hH
    have hHeld := hHeld2
    clear hHeld2
    refine drawn_take 6 rfl (by kernel_rfl) (by kernel_rfl) (by kernel_rfl) (fun _ _ _ h => h) (by rfl) (by assumption) (v := ?_) ?_ ?_
    rotate_left
    · (intro wy hSw; obtain ⟨⟨z0, z1⟩, ⟨z2, z3⟩⟩ := HCC.out wy hSw; go_simp; try with_reducible rfl)
    simp only [Act.put, List.setIfInBounds_toArray, List.set_cons_zero, List.set_cons_succ]
    refine drawn_take 7 rfl (by kernel_rfl) (by kernel_rfl) (by kernel_rfl) (fun _ _ _ h => h) (by rfl) (by assumption) (v := ?_) ?_ ?_
    rotate_left
    · (intro wy hSw; obtain ⟨⟨z0, z1⟩, ⟨z2, z3⟩⟩ := HCC.out wy hSw; go_simp; try with_reducible rfl)
    simp only [Act.put, List.setIfInBounds_toArray, List.set_cons_zero, List.set_cons_succ]
    refine drawn_take 8 rfl (by kernel_rfl) (by kernel_rfl) (by kernel_rfl) (fun _ _ _ h => h) (by rfl) (by assumption) (v := ?_) ?_ ?_
    rotate_left
    · (intro wy hSw; obtain ⟨⟨z0, z1⟩, ⟨z2, z3⟩⟩ := HCC.out wy hSw; go_simp; try with_reducible rfl)
    simp only [Act.put, List.setIfInBounds_toArray, List.set_cons_zero, List.set_cons_succ]
    refine drawn_take 9 rfl (by kernel_rfl) (by kernel_rfl) (by kernel_rfl) (fun _ _ _ h => h) (by rfl) (by assumption) (v := ?_) ?_ ?_
    rotate_left
    · (intro wy hSw; obtain ⟨⟨z0, z1⟩, ⟨z2, z3⟩⟩ := HCC.out wy hSw; go_simp; try with_reducible rfl)
    simp only [Act.put, List.setIfInBounds_toArray, List.set_cons_zero, List.set_cons_succ]
    refine drawn_sole 10 rfl (by kernel_rfl) (fun K hK => ?_)
    try (rw [if_pos]; case hc => rfl)
    go_simp
    refine (HQ3.out _ (HB1.out.trans (hHeld.mono HB1.out.size))).mono ?_
    rintro e w4 ⟨rfl, hb⟩
    have hH : Below w1.heap.size w1 w4 := hHeld.trans (hb.mono hHeld.size)
    have HW4 := Lib.hid hH
    clear hb
    go_wp2_with fail
    refine hK.out _ _ hH (fun hHeld2 => ?_)
    clear hK K hHeld hH
    have hHeld := hHeld2
    clear hHeld2
    refine drawn_take 11 rfl (by kernel_rfl) (by kernel_rfl) (by kernel_rfl) (fun _ _ _ h => h) (by rfl) (by assumption) (v := ?_) ?_ ?_
    rotate_left
    · (intro wy hSw; obtain ⟨⟨z0, z1⟩, ⟨z2, z3⟩⟩ := HCC.out wy hSw; go_simp; try with_reducible rfl)
    simp only [Act.put, List.setIfInBounds_toArray, List.set_cons_zero, List.set_cons_succ]
    refine drawn_take 12 rfl (by kernel_rfl) (by kernel_rfl) (by kernel_rfl) (fun _ _ _ h => h) (by rfl) (by assumption) (v := ?_) ?_ ?_
    rotate_left
    · (intro wy hSw; obtain ⟨⟨z0, z1⟩, ⟨z2, z3⟩⟩ := HCC.out wy hSw; go_simp; try with_reducible rfl)
    simp only [Act.put, List.setIfInBounds_toArray, List.set_cons_zero, List.set_cons_succ]
    refine wpAnyH_done (by kernel_rfl) ?_ _
    go_wp2_with fail
    go_ret
    exact ⟨rfl, HB1.out.trans (HW4.out.mono HB1.out.size)⟩
  · have hli : (3000 : Int) < (n1 : Int) + (n2 : Int) + (n3 : Int) + (n4 : Int) := by omega
    clear hl
    go_wp2_with fail
    go_ret
    exact ⟨rfl, HB1.out⟩
end Go.Proofs.Ytgnbkfkiigcdgaa
