/-
  A module with one import more: what its numbers mean then.
-/
import Derived.Test.YtgnbkfkiigcdgaaSpOf2
namespace Sp
open Bin
def more (m : M) (z : Imp) : M := { m with imports := m.imports ++ [z] }
theorem imps_yes (m : M) {z : Imp} {k : Nat} (h : z.kind.toNat = k) : imps (more m z) k = imps m k ++ [z] := by
  unfold imps more
  simp [h]
theorem imps_other (m : M) {z : Imp} {k : Nat} (h : ¬ z.kind.toNat = k) : imps (more m z) k = imps m k := by
  unfold imps more
  simp [h]
theorem imported_more (m : M) {z : Imp} {k : Nat} (h : z.kind.toNat = k) (hk : k < 4) : imported (more m z) k = imported m k + 1 := by
  rw [imported_at hk, imported_at hk, imps_yes m h]
  simp
theorem count_more (m : M) {z : Imp} {k : Nat} (h : z.kind.toNat = k) (hk : k < 4) : count (more m z) k = count m k + 1 := by
  unfold count
  rw [imported_more m h hk]
  show imported m k + 1 + mine m k = _
  omega
/-- A row with one imported entry more: those ahead stand where they stood, the own ones one further on. -/
theorem row_more {α β : Type} (f : α → β) (xs : List α) (z : α) (ys : List β) (i : Nat) : (i < xs.length → ((xs ++ [z]).map f ++ ys)[i]? = (xs.map f ++ ys)[i]?) ∧ (xs.length ≤ i → ((xs ++ [z]).map f ++ ys)[i + 1]? = (xs.map f ++ ys)[i]?) := by
  refine ⟨fun h => ?_, fun h => ?_⟩
  · rw [row_imp h, row_imp (by simp; omega)]
    congr 2
    rw [List.getElem_append_left h]
  · rw [row_own h, row_own (by simp; omega)]
    congr 1
    simp
theorem func_more (m : M) {z : Imp} (h : z.kind.toNat = 0) (i : Nat) : (i < imported m 0 → func (more m z) i = func m i) ∧ (imported m 0 ≤ i → func (more m z) (i + 1) = func m i) := by
  rw [imported_at (by decide)]
  have hf : funs (more m z) = (imps m 0 ++ [z]).map (·.type) ++ m.funcs := by
    unfold funs
    rw [imps_yes m h]
    rfl
  obtain ⟨h1, h2⟩ := row_more (·.type) (imps m 0) z m.funcs i
  refine ⟨fun hi => ?_, fun hi => ?_⟩
  · unfold func
    rw [hf, h1 hi]
    rfl
  · unfold func
    rw [hf, h2 hi]
    rfl
theorem glob_more (m : M) {z : Imp} (h : z.kind.toNat = 3) (i : Nat) : (i < imported m 3 → (globs (more m z))[i]? = (globs m)[i]?) ∧ (imported m 3 ≤ i → (globs (more m z))[i + 1]? = (globs m)[i]?) := by
  rw [imported_at (by decide)]
  have hf : globs (more m z) = (imps m 3 ++ [z]).map (·.glob) ++ m.globals.map (·.type) := by
    unfold globs
    rw [imps_yes m h]
    rfl
  rw [hf]
  exact row_more (·.glob) (imps m 3) z (m.globals.map (·.type)) i
theorem Few.more {m : M} (h : Few m) (hi : m.imports.length ≤ 3000) (z : Imp) : Few (more m z) := ⟨by simp [Sp.more]; omega, h.funcs, h.tables, h.mems, h.globals, h.exports, h.types, h.each⟩
/-- What there is, is below the count. -/
theorem func_there {m : M} {i : Nat} (h : (func m i).isSome = true) : i < count m 0 := by
  unfold func at h
  rw [← funs_len]
  cases hx : (funs m)[i]? with
  | none => rw [hx] at h; cases h
  | some t => exact (List.getElem?_eq_some_iff.1 hx).1
theorem there_iff {α : Type} (xs : List α) (i n : Nat) (h : xs.length = n) : (xs[i]?).isSome = decide (i < n) := by
  subst h
  cases hx : xs[i]? with
  | none => exact (decide_eq_false (by have := List.getElem?_eq_none_iff.1 hx; omega)).symm
  | some x => exact (decide_eq_true (List.getElem?_eq_some_iff.1 hx).1).symm
end Sp
namespace Go.Proofs.Ytgnbkfkiigcdgaa
open Go.RowKit Ins Bin Sp
instance : Ones Imp := ⟨fun h u hu => by
  have h' := h.1
  subst h'
  simp [impCells, strV] at hu
  rcases hu with rfl | rfl | rfl | rfl | rfl | rfl | rfl | rfl <;> rfl⟩
instance : Flat Imp := ⟨fun h => h⟩
theorem bne_own (b : Bool) : (b != b) = false := by cases b <;> rfl
end Go.Proofs.Ytgnbkfkiigcdgaa
