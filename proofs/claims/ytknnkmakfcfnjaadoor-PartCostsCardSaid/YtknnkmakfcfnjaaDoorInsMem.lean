/-
  What a call has changed, block by block; slices that read as numbers and as instructions, in blocks of a set.
-/
import Derived.Test.YtknnkmakfcfnjaaDoorModRow
import Derived.Test.YtknnkmakfcfnjaaDoorInsM
import Derived.Laws.OwnMore
import Derived.WalkSmall
namespace Go.Proofs.YtknnkmakfcfnjaaDoor
open Go.RowKit Ins
/-- The cells of numbers of 32 bits. -/
def u32s (l : List Nat) : List Value := l.map fun (n : Nat) => .int .u32 (n : Int)
theorem u32s_length (l : List Nat) : (u32s l).length = l.length := by simp [u32s]
theorem u32s_at {l : List Nat} {k n : Nat} (h : l[k]? = some n) : (u32s l)[k]? = some (.int .u32 (n : Int)) := by simp [u32s, h]
/-- A slice reads as these numbers, in blocks of S. -/
def HasU (w : World) (S : Nat → Prop) (A : Option Addr) (l : List Nat) : Prop := ∀ (k n : Nat), l[k]? = some n → ∃ g o, A = some ⟨g, o, none⟩ ∧ S g ∧ w.cell? ⟨g, o + k, none⟩ = some (.int .u32 (n : Int))
theorem HasU.nil (w : World) (S : Nat → Prop) (A : Option Addr) : HasU w S A [] := fun k x hx => by simp at hx
theorem HasU.more {w : World} {S S' : Nat → Prop} {A : Option Addr} {l : List Nat} (h : HasU w S A l) (hs : ∀ k, k < w.heap.size → S k → S' k) : HasU w S' A l := fun k n hk => by
  obtain ⟨g, o, h1, h2, h3⟩ := h k n hk
  exact ⟨g, o, h1, hs g (World.block_lt_of_cell? w _ h3) h2, h3⟩
theorem HasU.mod {T S : Nat → Prop} {w w' : World} {A : Option Addr} {l : List Nat} (h : HasU w S A l) (hm : Mod T w w') (hd : ∀ k, k < w.heap.size → S k → ¬ T k) : HasU w' S A l := fun k n hk => by
  obtain ⟨g, o, h1, h2, h3⟩ := h k n hk
  exact ⟨g, o, h1, h2, hm.cell h3 (hd g (World.block_lt_of_cell? w _ h3) h2)⟩
/-- An instruction's five cells. -/
def insCells (x : I) (A : Option Addr) (c : Nat) : List Value := [.int .u8 (x.op : Int), .int .u32 (x.a : Int), .int .u32 (x.b : Int), .int .i64 x.c, .slice A x.l.length c]
def insVal (x : I) (A : Option Addr) (c : Nat) : Value := .agg (insCells x A c).toArray
/-- A slice reads as these instructions, in blocks of S. -/
def HasI (w : World) (S : Nat → Prop) (A : Option Addr) (xs : List I) : Prop := ∀ (k : Nat) (x : I), xs[k]? = some x → ∃ g o A' c, A = some ⟨g, o, none⟩ ∧ S g ∧ x.wf ∧ x.l.length ≤ c ∧ c ≤ maxLen ∧ HasU w S A' x.l ∧
  ∀ (j : Nat) (u : Value), (insCells x A' c)[j]? = some u → w.cell? ⟨g, o + k * 5 + j, none⟩ = some u
theorem HasI.nil (w : World) (S : Nat → Prop) (A : Option Addr) : HasI w S A [] := fun k x hx => by simp at hx
theorem HasI.mod {T S : Nat → Prop} {w w' : World} {A : Option Addr} {xs : List I} (h : HasI w S A xs) (hm : Mod T w w') (hd : ∀ k, k < w.heap.size → S k → ¬ T k) : HasI w' S A xs := fun k x hk => by
  obtain ⟨g, o, A', c, h1, h2, h3, h4, h5, h6, h7⟩ := h k x hk
  exact ⟨g, o, A', c, h1, h2, h3, h4, h5, h6.mod hm hd, fun j u hj => hm.cell (h7 j u hj) (hd g (World.block_lt_of_cell? w _ (h7 0 _ rfl)) h2)⟩
theorem HasI.more {w : World} {S S' : Nat → Prop} {A : Option Addr} {xs : List I} (h : HasI w S A xs) (hs : ∀ k, k < w.heap.size → S k → S' k) : HasI w S' A xs := fun k x hk => by
  obtain ⟨g, o, A', c, h1, h2, h3, h4, h5, h6, h7⟩ := h k x hk
  exact ⟨g, o, A', c, h1, hs g (World.block_lt_of_cell? w _ (h7 0 _ rfl)) h2, h3, h4, h5, h6.more hs, h7⟩
theorem HasI.wf {w : World} {S : Nat → Prop} {A : Option Addr} {xs : List I} (h : HasI w S A xs) : ∀ x ∈ xs, x.wf := fun x hx => by
  obtain ⟨k, hk⟩ := List.mem_iff_getElem?.1 hx
  obtain ⟨_, _, _, _, _, _, h, _⟩ := h k x hk
  exact h
/-- An instruction by value: its slice reads as its labels. -/
def InsV (w : World) (S : Nat → Prop) (v : Value) (x : I) : Prop := ∃ A c, v = insVal x A c ∧ x.wf ∧ x.l.length ≤ c ∧ c ≤ maxLen ∧ HasU w S A x.l
theorem InsV.mod {T S : Nat → Prop} {w w' : World} {v : Value} {x : I} (h : InsV w S v x) (hm : Mod T w w') (hd : ∀ k, k < w.heap.size → S k → ¬ T k) : InsV w' S v x := by
  obtain ⟨A, c, h1, h2, h3, h4, h5⟩ := h
  exact ⟨A, c, h1, h2, h3, h4, h5.mod hm hd⟩
theorem InsV.more {w : World} {S S' : Nat → Prop} {v : Value} {x : I} (h : InsV w S v x) (hs : ∀ k, k < w.heap.size → S k → S' k) : InsV w S' v x := by
  obtain ⟨A, c, h1, h2, h3, h4, h5⟩ := h
  exact ⟨A, c, h1, h2, h3, h4, h5.more hs⟩
end Go.Proofs.YtknnkmakfcfnjaaDoor
