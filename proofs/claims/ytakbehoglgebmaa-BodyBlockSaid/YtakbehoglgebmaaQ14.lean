/-
  Layer 8's program: a type's copy; rows that begin with what is imported. (gen/space/of2.py)
-/
import Derived.Test.YtakbehoglgebmaaQ13
namespace Go.Proofs.Ytakbehoglgebmaa
open Go.RowKit Ins Bin Sp
/-- Records that point to nothing. -/
class Flat (α : Type) [Lay α] : Prop where
  flat : ∀ {w w' : World} {S S' : Nat → Prop} {x : α} {cs : List Value}, Lay.rep w S x cs → Lay.rep w' S' x cs
instance : Flat UInt8 := ⟨fun h => h⟩
instance : Flat Nat := ⟨fun h => h⟩
instance : Flat Lim := ⟨fun h => h⟩
instance : Flat Glob := ⟨fun h => h⟩
instance : Flat Exp := ⟨fun h => h⟩
theorem OwnL.flat {α : Type} [Lay α] [Flat α] {t : TypeId} {w : World} {base : Nat} {S S' : Nat → Prop} {v : Value} {xs : List α} (h : OwnL t w base S v xs) : OwnL t w base S' v xs := by
  obtain ⟨ys, h0, h1, h2⟩ := h
  exact ⟨ys, h0, h1, fun y hy => Flat.flat (h2 y hy)⟩
theorem OwnL.slice {α : Type} [Lay α] [Flat α] {t : TypeId} {w : World} {base : Nat} {S : Nat → Prop} {v : Value} {xs : List α} (h : OwnL t w base S v xs) : SliceV w (base ≤ ·) xs v := (h.flat (S' := fun _ => False)).tell (fun _ h => h.elim)
theorem OwnL.form {α : Type} [Lay α] {t : TypeId} {w : World} {base : Nat} {S : Nat → Prop} {v : Value} {xs : List α} (h : OwnL t w base S v xs) : ∃ A c, v = .slice A xs.length c ∧ xs.length ≤ c ∧ c ≤ maxLen := by
  obtain ⟨ys, _, h1, _⟩ := h
  exact own_form h1
theorem two_cells {w : World} {X : Nat} {a b : Value} {t : TypeId} (h : w.heap[X]? = some (.cells #[a, b] t (0, 0))) : w.cell? ⟨X, 0, none⟩ = some a ∧ w.cell? ⟨X, 1, none⟩ = some b := ⟨by rw [cell_of_row w X 0 _ _ (0, 0) h]; rfl, by rw [cell_of_row w X 1 _ _ (0, 0) h]; rfl⟩
/-- A slice in the caller's memory is there behind what leaves that alone. -/
theorem SliceV.at {α : Type} [Lay α] {w W : World} {xs : List α} {v : Value} (h : SliceV w (· < w.heap.size) xs v) (hb : Below w.heap.size w W) : SliceV W (· < W.heap.size) xs v := h.grow hb
set_option maxRecDepth 100000 in
set_option maxHeartbeats 4000000 in
/-- A type's copy. -/
theorem scopy_any (t : FT) (u v : Value) (w : World) (hu0 : SliceV w (· < w.heap.size) t.params u) (hv0 : SliceV w (· < w.heap.size) t.results v) (h1 : t.params.length ≤ 4294967296) (h2 : t.results.length ≤ 4294967296) :
    Calls Try.prog 24 #[.agg #[u, v]] w fun e w' => ∃ A c A' c', e = .returned (.agg #[.slice A t.params.length c, .slice A' t.results.length c']) ∧ SliceV w' (w.heap.size ≤ ·) t.params (.slice A t.params.length c) ∧ SliceV w' (w.heap.size ≤ ·) t.results (.slice A' t.results.length c') ∧ Below w.heap.size w w' := by
  obtain ⟨D, hu, hd⟩ := descOf des_sft
  have HU := Lib.hid hu
  have HD := Lib.hid hd
  clear hu hd
  have HC1 := Lib.hid (fun W (hb : Below w.heap.size w W) => sclone8_any t.params u W (hu0.grow hb) h1)
  have HC2 := Lib.hid (fun W (hb : Below w.heap.size w W) => sclone8_any t.results v W (hv0.grow hb) h2)
  obtain ⟨A1, c1, rfl, _⟩ := hu0
  obtain ⟨A2, c2, rfl, _⟩ := hv0
  clear h1 h2
  obtain ⟨n1, hn1⟩ : ∃ n, t.params.length = n := ⟨_, rfl⟩
  obtain ⟨n2, hn2⟩ : ∃ n, t.results.length = n := ⟨_, rfl⟩
  rw [hn1] at HC1 ⊢
  rw [hn2] at HC2 ⊢
  have HN1 := Lib.hid hn1
  have HN2 := Lib.hid hn2
  clear hn1 hn2
  have HX0 : Hid (((w.alloc (.cells #[.slice A1 n1 c1, .slice A2 n2 c2] 36)).alloc (.cells #[.slice none 0 0, .slice none 0 0] 36)).heap[w.heap.size]? = some (.cells #[.slice A1 n1 c1, .slice A2 n2 c2] 36 (0, 0))) := Lib.hid ((Below.heap_alloc _ _ _ (by simp)).trans (heap_alloc_new w _))
  have HZ0 : Hid (((w.alloc (.cells #[.slice A1 n1 c1, .slice A2 n2 c2] 36)).alloc (.cells #[.slice none 0 0, .slice none 0 0] 36)).heap[w.heap.size + 1]? = some (.cells #[.slice none 0 0, .slice none 0 0] 36 (0, 0))) := Lib.hid (by have := heap_alloc_new (w.alloc (.cells #[.slice A1 n1 c1, .slice A2 n2 c2] 36)) (.cells #[.slice none 0 0, .slice none 0 0] 36); simpa using this)
  have HB0 : Hid (Below w.heap.size w ((w.alloc (.cells #[.slice A1 n1 c1, .slice A2 n2 c2] 36)).alloc (.cells #[.slice none 0 0, .slice none 0 0] 36))) := Lib.hid (((Below.refl _ _).alloc (Nat.le_refl _) _).alloc (by simp) _)
  go_enter Try.func24, Try.ntmps24
  go_upto_region 1 with fail
  generalize (w.alloc (.cells #[.slice A1 n1 c1, .slice A2 n2 c2] 36)).alloc (.cells #[.slice none 0 0, .slice none 0 0] 36) = w0 at HX0 HZ0 HB0 ⊢
  obtain ⟨X, hX⟩ : ∃ X, w.heap.size = X := ⟨_, rfl⟩
  obtain ⟨Y, hY⟩ : ∃ Y, w.heap.size + 1 = Y := ⟨_, rfl⟩
  rw [hX] at HX0
  rw [hY] at HZ0
  have HXY : Hid (X ≠ Y ∧ w.heap.size ≤ Y) := Lib.hid ⟨by omega, by omega⟩
  simp only [hY]
  simp only [hX]
  clear hX hY
  have HXW := Lib.hid (fun W (hb : Below w0.heap.size w0 W) => (hb.block X (Array.getElem?_eq_some_iff.1 HX0.out).1).trans HX0.out)
  have HZW := Lib.hid (fun W (hb : Below w0.heap.size w0 W) => (hb.block Y (Array.getElem?_eq_some_iff.1 HZ0.out).1).trans HZ0.out)
  have HZL : Hid (Y < w0.heap.size) := Lib.hid (Array.getElem?_eq_some_iff.1 HZ0.out).1
  clear HX0 HZ0
  refine wp_region_held_drew (S := fun W' => W'.heap[X]? = some (.cells #[.slice A1 n1 c1, .slice A2 n2 c2] 36 (0, 0))) (by kernel_rfl) (HXW.out _ (Below.drew (Below.refl _ _))) (fun hHeld => ?_)
  refine drawn_take 0 rfl (by kernel_rfl) (by kernel_rfl) (by kernel_rfl) (fun _ _ _ h => h) (by rfl) (by assumption) (v := ?_) ?_ ?_
  rotate_left
  · (intro wy hSw; obtain ⟨q0, q1⟩ := two_cells hSw; go_simp; try with_reducible rfl)
  simp only [Act.put, List.setIfInBounds_toArray, List.set_cons_zero, List.set_cons_succ]
  refine drawn_take 1 rfl (by kernel_rfl) (by kernel_rfl) (by kernel_rfl) (fun _ _ _ h => h) (by rfl) (by assumption) (v := ?_) ?_ ?_
  rotate_left
  · (intro wy hSw; obtain ⟨q0, q1⟩ := two_cells hSw; go_simp; try with_reducible rfl)
  simp only [Act.put, List.setIfInBounds_toArray, List.set_cons_zero, List.set_cons_succ]
  refine drawn_take 3 rfl (by kernel_rfl) (by kernel_rfl) (by kernel_rfl) (fun _ _ _ h => h) (by rfl) (by assumption) (v := ?_) ?_ ?_
  rotate_left
  · (intro wy hSw; obtain ⟨q0, q1⟩ := two_cells hSw; go_simp; try with_reducible rfl)
  simp only [Act.put, List.setIfInBounds_toArray, List.set_cons_zero, List.set_cons_succ]
  refine drawn_take 4 rfl (by kernel_rfl) (by kernel_rfl) (by kernel_rfl) (fun _ _ _ h => h) (by rfl) (by assumption) (v := ?_) ?_ ?_
  rotate_left
  · (intro wy hSw; obtain ⟨q0, q1⟩ := two_cells hSw; go_simp; try with_reducible rfl)
  simp only [Act.put, List.setIfInBounds_toArray, List.set_cons_zero, List.set_cons_succ]
  refine drawn_sole 2 rfl (by kernel_rfl) (fun K hK => ?_)
  go_simp
  refine (HC1.out _ HB0.out.drew).mono ?_
  rintro e w1 ⟨a, rfl, hO1, hb1, _⟩
  obtain ⟨E1, f1, rfl, _⟩ := hO1.form
  rw [HN1.out] at hO1
  rw [HN1.out]
  have HO1 := Lib.hid hO1
  have HB1 : Hid (Below w0.heap.size w0 w1) := Lib.hid ((Below.drew (Below.refl _ _)).trans hb1)
  clear hb1 hO1
  go_wp2_with fail
  refine hK.out _ _ (HXW.out w1 HB1.out) (fun hHeld2 => ?_)
  clear hK K hHeld
  have hHeld := hHeld2
  clear hHeld2
  refine drawn_sole 5 rfl (by kernel_rfl) (fun K hK => ?_)
  go_simp
  refine (HC2.out _ (HB0.out.trans (HB1.out.mono HB0.out.size))).mono ?_
  rintro e w2 ⟨b, rfl, hO2, hb2, _⟩
  obtain ⟨E2, f2, rfl, _⟩ := hO2.form
  rw [HN2.out] at hO2
  rw [HN2.out]
  have HO2 := Lib.hid hO2
  have HO1 := Lib.hid (HO1.out.mod (T := fun _ => False) (Mod.of_below hb2) (fun _ _ h => h) (fun _ _ _ h => h))
  have HBB := Lib.hid hb2
  have HB2 : Hid (Below w0.heap.size w0 w2) := Lib.hid (HB1.out.trans (hb2.mono HB1.out.size))
  clear hb2 hO2
  go_wp2_with fail
  refine hK.out _ _ (HXW.out w2 HB2.out) (fun hHeld2 => ?_)
  clear hK K hHeld
  have hHeld := hHeld2
  clear hHeld2
  refine drawn_take 6 rfl (by kernel_rfl) (by kernel_rfl) (by kernel_rfl) (fun _ _ _ h => h) (by rfl) (by assumption) (v := ?_) ?_ ?_
  rotate_left
  · (intro wy hSw; (try dsimp only at hSw); go_simp; try with_reducible rfl)
  simp only [Act.put, List.setIfInBounds_toArray, List.set_cons_zero, List.set_cons_succ]
  refine drawn_sole 7 rfl (by kernel_rfl) (fun K hK => ?_)
  rw [if_pos]
  case hc => rfl
  refine wp_store_row 36 (.tmp 2) (.tmp 9) rfl Y #[.slice E1 n1 f1, .slice E2 n2 f2] rfl rfl 36 #[.slice none 0 0, .slice none 0 0] (HZW.out w2 HB2.out) siz_sft rfl (by simp [Value.oneCell']) ?_
  refine hK.out _ _ ((setRow_other w2 Y X _ HXY.out.1).trans (HXW.out w2 HB2.out)) (fun hHeld2 => ?_)
  clear hK K hHeld hHeld2
  refine wpAnyH_done (by kernel_rfl) ?_ _
  have HZZ := setRow_heap w2 Y #[.slice none 0 0, .slice none 0 0] #[.slice E1 n1 f1, .slice E2 n2 f2] _ _ (HZW.out w2 HB2.out)
  have hbe : Below w.heap.size w (w2.setRow Y #[.slice E1 n1 f1, .slice E2 n2 f2]) := below_setRow (HB0.out.trans (HB2.out.mono HB0.out.size)) HXY.out.2 _
  have hms : Mod (· = Y) w2 (w2.setRow Y #[.slice E1 n1 f1, .slice E2 n2 f2]) := ⟨rfl, rfl, rfl, by simp, fun k _ ht => setRow_other w2 Y k _ ht⟩
  go_wp2_with fail
  refine bodyPost_ret (v := .agg #[.slice E1 n1 f1, .slice E2 n2 f2]) (res_cell (p := 2) (ty := 36) (by kernel_rfl) _ _ Y 36 #[.slice E1 n1 f1, .slice E2 n2 f2] (0, 0) D rfl HZZ HU.out HD.out siz_sft) rfl ?_
  refine ⟨E1, f1, E2, f2, rfl, ?_, ?_, hbe⟩
  · exact ((HO1.out.slice.more (S' := fun g => w0.heap.size ≤ g) (fun g _ hg => hg)).mod hms (fun g _ hg e => by have := HZL.out; omega)).more (fun g _ hg => Nat.le_trans HB0.out.size hg)
  · exact ((HO2.out.slice.more (S' := fun g => w0.heap.size ≤ g) (fun g _ hg => Nat.le_trans HB1.out.size hg)).mod hms (fun g _ hg e => by have := HZL.out; omega)).more (fun g _ hg => Nat.le_trans HB0.out.size hg)
end Go.Proofs.Ytakbehoglgebmaa
