/-
  Plain mathematics of a module's index spaces: what its imports of a kind are, what its numbers mean.
-/
import Derived.Test.YtgnbkfkiigcdgaaBinM
namespace Sp
open Bin
/-- A module's imports of a kind, in their order. -/
def imps (m : M) (k : Nat) : List Imp := m.imports.filter (fun x => x.kind.toNat == k)
def funs (m : M) : List Nat := (imps m 0).map (·.type) ++ m.funcs
def tabs (m : M) : List Lim := (imps m 1).map (·.lim) ++ m.tables
def mems (m : M) : List Lim := (imps m 2).map (·.lim) ++ m.mems
def globs (m : M) : List Glob := (imps m 3).map (·.glob) ++ m.globals.map (·.type)
def mine (m : M) (k : Nat) : Nat := if k = 0 then m.funcs.length else if k = 1 then m.tables.length else if k = 2 then m.mems.length else if k = 3 then m.globals.length else 0
def imported (m : M) (k : Nat) : Nat := if k < 4 then (imps m k).length else 0
def count (m : M) (k : Nat) : Nat := imported m k + mine m k
/-- A function's type. -/
def func (m : M) (i : Nat) : Option FT := (funs m)[i]?.bind fun t => m.types[t]?
/-- The first export of a name and kind. -/
def expo (m : M) (s : List UInt8) (k : Nat) : Option Exp := m.exports.find? fun x => x.name == s && x.kind.toNat == k
/-- What is gone through: nothing has more than 3000. -/
structure Few (m : M) : Prop where
  imports : m.imports.length ≤ 4000
  funcs : m.funcs.length ≤ 4000
  tables : m.tables.length ≤ 4000
  mems : m.mems.length ≤ 4000
  globals : m.globals.length ≤ 4000
  exports : m.exports.length ≤ 4000
  types : m.types.length ≤ 4000
  each : ∀ x ∈ m.types, x.params.length ≤ 4000 ∧ x.results.length ≤ 4000
section
variable {α : Type}
/-- One entry more is gone through. -/
theorem take_yes {p : α → Bool} {xs : List α} {k : Nat} {x : α} (hx : xs[k]? = some x) (hp : p x = true) : (xs.take (k + 1)).filter p = (xs.take k).filter p ++ [x] := by
  rw [List.take_add_one, hx, List.filter_append]
  simp [hp]
theorem take_no {p : α → Bool} {xs : List α} {k : Nat} {x : α} (hx : xs[k]? = some x) (hp : p x = false) : (xs.take (k + 1)).filter p = (xs.take k).filter p := by
  rw [List.take_add_one, hx, List.filter_append]
  simp [hp]
theorem take_le (p : α → Bool) (xs : List α) (k : Nat) : ((xs.take k).filter p).length ≤ k := by
  have := List.length_filter_le p (xs.take k)
  have := List.length_take_le k xs
  omega
theorem take_le' (p : α → Bool) (xs : List α) (k : Nat) : ((xs.take k).filter p).length ≤ xs.length := by
  have := List.length_filter_le p (xs.take k)
  have : (xs.take k).length ≤ xs.length := by simp; omega
  omega
/-- What stands at a place of those that were gone through stands there at last. -/
theorem take_at {p : α → Bool} {xs : List α} {k i : Nat} {x : α} (h : ((xs.take k).filter p)[i]? = some x) : (xs.filter p)[i]? = some x := by
  have e : xs.filter p = (xs.take k).filter p ++ (xs.drop k).filter p := by rw [← List.filter_append, List.take_append_drop]
  rw [e, List.getElem?_append_left (List.getElem?_eq_some_iff.1 h).1]
  exact h
theorem take_new {p : α → Bool} {xs : List α} {k : Nat} {x : α} (hx : xs[k]? = some x) (hp : p x = true) : (xs.filter p)[((xs.take k).filter p).length]? = some x := by
  refine take_at (k := k + 1) ?_
  rw [take_yes hx hp, List.getElem?_append_right (Nat.le_refl _)]
  simp
theorem take_all {p : α → Bool} {xs : List α} {k : Nat} (h : xs.length ≤ k) : (xs.take k).filter p = xs.filter p := by rw [List.take_of_length_le h]
/-- Nothing that was gone through is one. -/
def NoneOf (p : α → Bool) (l : List α) (k : Nat) : Prop := ∀ j r, j < k → l[j]? = some r → p r = false
theorem noneOf_zero (p : α → Bool) (l : List α) : NoneOf p l 0 := fun _ _ h => absurd h (Nat.not_lt_zero _)
theorem noneOf_succ {p : α → Bool} {l : List α} {k : Nat} {r : α} (hr : l[k]? = some r) (h : p r = false) (hno : NoneOf p l k) : NoneOf p l (k + 1) := fun j r' hj hr' => by
  by_cases hjk : j = k
  · subst hjk
    rw [hr] at hr'
    injection hr' with hr'
    subst hr'
    exact h
  · exact hno j r' (by omega) hr'
theorem find_of {p : α → Bool} : ∀ {l : List α} {k : Nat} {r : α}, l[k]? = some r → p r = true → NoneOf p l k → l.find? p = some r
  | [], _, _, hr, _, _ => by simp at hr
  | x :: l, 0, r, hr, h, _ => by
    simp at hr; subst hr
    simp [h]
  | x :: l, k + 1, r, hr, h, hno => by
    have hx : p x = false := hno 0 x (by omega) rfl
    rw [List.find?_cons, hx]
    exact find_of (by simpa using hr) h (fun j r' hj hr' => hno (j + 1) r' (by omega) (by simpa using hr'))
theorem find_no {p : α → Bool} {l : List α} {k : Nat} (hk : l.length ≤ k) (hno : NoneOf p l k) : l.find? p = none := by
  rw [List.find?_eq_none]
  intro x hx
  obtain ⟨j, hj, rfl⟩ := List.mem_iff_getElem.1 hx
  rw [hno j l[j] (by omega) (List.getElem?_eq_getElem hj)]
  simp
end
theorem imps_le (m : M) (k : Nat) : (imps m k).length ≤ m.imports.length := List.length_filter_le _ _
theorem imported_le (m : M) (k : Nat) : imported m k ≤ m.imports.length := by
  unfold imported
  split
  · exact imps_le m k
  · exact Nat.zero_le _
theorem imported_at {m : M} {k : Nat} (h : k < 4) : imported m k = (imps m k).length := by unfold imported; rw [if_pos h]
theorem imported_no {m : M} {k : Nat} (h : ¬ k < 4) : imported m k = 0 := by unfold imported; rw [if_neg h]
/-- A row whose first entries are imported. -/
theorem row_imp {α β : Type} {f : α → β} {xs : List α} {ys : List β} {i : Nat} (h : i < xs.length) : (xs.map f ++ ys)[i]? = some (f xs[i]) := by
  rw [List.getElem?_append_left (by simpa using h), List.getElem?_map, List.getElem?_eq_getElem h]
  rfl
theorem row_own {α β : Type} {f : α → β} {xs : List α} {ys : List β} {i : Nat} (h : xs.length ≤ i) : (xs.map f ++ ys)[i]? = ys[i - xs.length]? := by
  rw [List.getElem?_append_right (by simpa using h)]
  simp
theorem funs_len (m : M) : (funs m).length = count m 0 := by simp [funs, count, imported, mine]
theorem tabs_len (m : M) : (tabs m).length = count m 1 := by simp [tabs, count, imported, mine]
theorem mems_len (m : M) : (mems m).length = count m 2 := by simp [mems, count, imported, mine]
theorem globs_len (m : M) : (globs m).length = count m 3 := by simp [globs, count, imported, mine]
end Sp
