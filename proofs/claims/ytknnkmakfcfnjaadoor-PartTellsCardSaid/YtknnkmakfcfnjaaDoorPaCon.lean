/-
  Layer 14: what the program's Ends and Parts must come to (proved where its code is known); rows laid as literals.
-/
import Derived.Test.YtknnkmakfcfnjaaDoorPaLay
namespace Go.Proofs.YtknnkmakfcfnjaaDoor
open Go.RowKit Ins
def PEndsOk : Prop := ∀ (op : Nat) (w : World), op < 256 → TbC w → Calls Tryd.prog 9 #[.int .u8 (op : Int)] w fun e w' => e = .returned (.bool (Pa.ends op)) ∧ Below w.heap.size w w'
/-- What a row of instructions has from k on; up to k. -/
theorem HasL.fromI {w : World} {S : Nat → Prop} {g o : Nat} {xs : List I} (h : HasL w S (some ⟨g, o, none⟩) xs) (k : Nat) : HasL w S (some ⟨g, o + k * 5, none⟩) (xs.drop k) := fun j x hx => by
  rw [List.getElem?_drop] at hx
  obtain ⟨g', o', cs, e, h1, h2, h3, h4⟩ := h (k + j) x hx
  injection e with e
  injection e with e1 e2 _
  subst e1 e2
  refine ⟨g, o + k * 5, cs, rfl, h1, h2, h3, fun i u hi => ?_⟩
  have := h4 i u hi
  have e : o + (k + j) * Lay.size I + i = o + k * 5 + j * Lay.size I + i := by
    show o + (k + j) * 5 + i = o + k * 5 + j * 5 + i
    omega
  rw [e] at this
  exact this
theorem HasL.uptoI {w : World} {S : Nat → Prop} {A : Option Addr} {xs : List I} (h : HasL w S A xs) (k : Nat) : HasL w S A (xs.take k) := fun j x hx => h j x (by
  rw [List.getElem?_take] at hx
  split at hx
  · exact hx
  · cases hx)
theorem HasL.midI {w : World} {S : Nat → Prop} {g o : Nat} {xs : List I} (h : HasL w S (some ⟨g, o, none⟩) xs) (a b : Nat) : HasL w S (some ⟨g, o + a * 5, none⟩) ((xs.take b).drop a) := (h.uptoI b).fromI a
/-- A slice's capacity. -/
def CapOk (A : Option Addr) (n c : Nat) : Prop := n ≤ c ∧ c ≤ 9223372036854775807 ∧ (A = none → c = 0)
def PartsOk : Prop := ∀ (xs : List I) (S : Nat → Prop) (A : Option Addr) (n c : Nat) (w : World), n = xs.length → n ≤ 1000000 → CapOk A n c → HasL w S A xs → TbC w →
  Calls Tryd.prog 7 #[.slice A n c] w fun e w' => ∃ A' c', e = .returned (.slice A' (Pa.parts xs).length c') ∧ HasL w' (w.heap.size ≤ ·) A' (Pa.parts xs) ∧ Below w.heap.size w w'
theorem cellP {w : World} {g : Nat} {cs : Array Value} {t : TypeId} (h : w.heap[g]? = some (.cells cs t (0, 0))) (i : Nat) (v : Value) (hv : cs[i]? = some v) : w.cell? ⟨g, i, none⟩ = some v := (cell_of_row w g i cs t (0, 0) h).trans hv
/-- One cell of a record stored. -/
theorem set_heap {w : World} {g : Nat} {cs : Array Value} {t : TypeId} (h : w.heap[g]? = some (.cells cs t (0, 0))) (i : Nat) (v : Value) : (w.setCell ⟨g, i, none⟩ v).heap[g]? = some (.cells (cs.setIfInBounds i v) t (0, 0)) := heap_setCell_same w g i cs t v h
/-- A row of the call's own lies beyond X: what is stored into X, what a call makes, makes no difference to it. -/
theorem own_set {α : Type} [Lay α] {t : TypeId} {w : World} {X : Nat} {v : Value} {ps : List α} (h : OwnL t w (X + 1) (fun _ => False) v ps) (i : Nat) (u : Value) : OwnL t (w.setCell ⟨X, i, none⟩ u) (X + 1) (fun _ => False) v ps :=
  h.mod (T := (· = X)) (Mod.setCell (T := fun g => g = X) (p := ⟨X, i, none⟩) (Mod.refl _ w) (fun _ => rfl) u) (fun g hg e => by have := (OwnL.lt h g hg).1; omega) (fun _ _ h => h.elim)
theorem own_next {α : Type} [Lay α] {t : TypeId} {w w' : World} {B : Nat} {v : Value} {ps : List α} (h : OwnL t w B (fun _ => False) v ps) (hb : Below w.heap.size w w') : OwnL t w' B (fun _ => False) v ps :=
  h.mod (T := fun _ => False) (Mod.of_below hb) (fun _ _ h => h) (fun _ _ h => h.elim)
theorem flat_map_len {α : Type} (f : α → List Value) (k : Nat) (hf : ∀ x, (f x).length = k) : ∀ (xs : List α), (xs.flatMap f).length = xs.length * k
  | [] => by simp
  | x :: xs => by rw [List.flatMap_cons, List.length_append, hf, flat_map_len f k hf xs, List.length_cons, Nat.succ_mul]; omega
/-- A row laid as a literal. -/
theorem lit_own {α : Type} [Lay α] (t : TypeId) (w : World) (f : α → List Value) (hf : ∀ (w : World) (S : Nat → Prop) x, Lay.rep w S x (f x)) (xs : List α) (cs : List Value) (n : Nat) (hcs : cs = xs.flatMap f) (hn : n = xs.length) (hs : n ≤ 1000) :
    OwnL t (w.alloc (.cells cs.toArray t)) w.heap.size (fun _ => False) (.slice (some ⟨w.heap.size, 0, none⟩) n n) xs := by
  subst hn
  have hl : cs.length = xs.length * Lay.size α := by rw [hcs]; exact flat_map_len f _ (fun x => Lay.len (hf w (fun _ => True) x)) xs
  refine ⟨xs.map fun x => (x, f x), by simp [Function.comp_def], ?_, fun y hy => ?_⟩
  · have e : (xs.map fun x => (x, f x)).flatMap (·.2) = cs := by rw [hcs, List.flatMap_map]
    rw [e]
    exact ⟨hl, .inr ⟨w.heap.size, xs.length, cs.toArray, rfl, Nat.le_refl _, heap_alloc_new w _, Nat.le_refl _, by unfold maxLen; omega, by simpa using hl, by
      rw [← hl]; simp⟩⟩
  · obtain ⟨x, _, rfl⟩ := List.mem_map.1 hy
    exact hf _ _ x
theorem lit_bytes (w : World) (xs : List UInt8) (cs : List Value) (n : Nat) (t : TypeId) (hcs : cs = xs.flatMap fun y => [Value.int .u8 (y.toNat : Int)]) (hn : n = xs.length) (hs : n ≤ 1000) : HasL (w.alloc (.cells cs.toArray t)) (w.heap.size ≤ ·) (some ⟨w.heap.size, 0, none⟩) xs := by
  obtain ⟨A, c, e, _, _, _, h⟩ := (lit_own t w (fun (y : UInt8) => [Value.int .u8 (y.toNat : Int)]) (fun _ _ _ => rfl) xs cs n hcs hn hs).tell (fun _ h => h.elim)
  injection e with e _ _
  rw [e]
  exact h
theorem lit_parts (w : World) (xs : List Pa.P) (cs : List Value) (n : Nat) (t : TypeId) (hcs : cs = xs.flatMap partCells) (hn : n = xs.length) (hs : n ≤ 1000) : HasL (w.alloc (.cells cs.toArray t)) (w.heap.size ≤ ·) (some ⟨w.heap.size, 0, none⟩) xs := by
  obtain ⟨A, c, e, _, _, _, h⟩ := (lit_own t w partCells (fun _ _ _ => rfl) xs cs n hcs hn hs).tell (fun _ h => h.elim)
  injection e with e _ _
  rw [e]
  exact h
end Go.Proofs.YtknnkmakfcfnjaaDoor
