/-
  What a call has changed, block by block; slices that read as numbers and as instructions, in blocks of a set.
-/
import Derived.Test.YtnechkmdmjhhbaaAppends
import Derived.Test.YtnechkmdmjhhbaaInsM
import Derived.Laws.OwnMore
import Derived.WalkSmall
namespace Go.Proofs.Ytnechkmdmjhhbaa
open Go.RowKit Ins
/-- Of the blocks that were there a call has changed those of T alone. -/
structure Mod (T : Nat → Prop) (w w' : World) : Prop where
  os : w'.os = w.os
  tape : w'.tape = w.tape
  output : w'.output = w.output
  size : w.heap.size ≤ w'.heap.size
  block : ∀ k, k < w.heap.size → ¬ T k → w'.heap[k]? = w.heap[k]?
theorem Mod.refl (T : Nat → Prop) (w : World) : Mod T w w := ⟨rfl, rfl, rfl, Nat.le_refl _, fun _ _ _ => rfl⟩
theorem Mod.trans {T T' : Nat → Prop} {a b c : World} (h : Mod T a b) (h' : Mod T' b c) (hs : ∀ k, k < a.heap.size → T' k → T k) : Mod T a c :=
  ⟨h'.os.trans h.os, h'.tape.trans h.tape, h'.output.trans h.output, Nat.le_trans h.size h'.size, fun k hk ht =>
    (h'.block k (Nat.lt_of_lt_of_le hk h.size) (fun ht' => ht (hs k hk ht'))).trans (h.block k hk ht)⟩
theorem Mod.more {T T' : Nat → Prop} {a b : World} (h : Mod T a b) (hs : ∀ k, k < a.heap.size → T k → T' k) : Mod T' a b :=
  ⟨h.os, h.tape, h.output, h.size, fun k hk ht => h.block k hk (fun ht' => ht (hs k hk ht'))⟩
theorem Mod.of_below {T : Nat → Prop} {w w' : World} (h : Below w.heap.size w w') : Mod T w w' := ⟨h.os, h.tape, h.output, h.size, fun k hk _ => h.block k hk⟩
theorem Mod.of_base {B : Nat} {w w' : World} (h : Below B w w') : Mod (B ≤ ·) w w' := ⟨h.os, h.tape, h.output, h.size, fun k _ ht => h.block k (Nat.lt_of_not_le ht)⟩
theorem Mod.of_grown {T : Nat → Prop} {w w' : World} {row : Option Nat} (h : w.grownBy w' row) (hr : ∀ k, row = some k → T k) : Mod T w w' :=
  ⟨h.os, h.tape, h.output, h.size, fun k hk ht => h.block k hk (fun e => ht (hr k e.symm))⟩
theorem Mod.below {T : Nat → Prop} {B : Nat} {w w' : World} (h : Mod T w w') (hB : B ≤ w.heap.size) (ht : ∀ k, k < B → ¬ T k) : Below B w w' :=
  ⟨h.os, h.tape, h.output, h.size, fun k hk => h.block k (by omega) (ht k hk)⟩
theorem Mod.none {w w' : World} (h : Mod (fun _ => False) w w') : Below w.heap.size w w' := h.below (Nat.le_refl _) (fun _ _ h => h)
theorem Mod.heap {T : Nat → Prop} {w w' : World} (h : Mod T w w') {k : Nat} {o : Obj} (hk : w.heap[k]? = some o) (ht : ¬ T k) : w'.heap[k]? = some o :=
  (h.block k (Array.getElem?_eq_some_iff.1 hk).1 ht).trans hk
theorem Mod.cell {T : Nat → Prop} {w w' : World} (h : Mod T w w') {a : Addr} {v : Value} (hk : w.cell? a = some v) (ht : ¬ T a.block) : w'.cell? a = some v :=
  (World.cell?_of_block (h.block a.block (World.block_lt_of_cell? w a hk) ht)).trans hk
theorem Mod.own {T : Nat → Prop} {w w' : World} (h : Mod T w w') {base e size n : Nat} {v : Value} {xs : List Value} (ho : w.ownsRow base e size v n xs) (ht : ∀ k, v.ownBlock = some k → ¬ T k) : w'.ownsRow base e size v n xs := by
  refine ⟨ho.1, ?_⟩
  rcases ho.2 with hn | ⟨g, cap, cur, rfl, hb, hgg, rest⟩
  · exact .inl hn
  · exact .inr ⟨g, cap, cur, rfl, hb, h.heap hgg (ht g rfl), rest⟩
theorem Mod.has {T : Nat → Prop} {w w' : World} (h : Mod T w w') {B : Nat} {A : Option Addr} {l : List UInt8} (hA : Has w B A l) (ht : ∀ k, k < B → ¬ T k) : Has w' B A l := fun k x hx => by
  obtain ⟨ad, h1, h2, h3⟩ := hA k x hx
  have hb : (ad.add k).block = ad.block := by unfold Addr.add; split <;> rfl
  exact ⟨ad, h1, h2, h.cell h3 (by rw [hb]; exact ht _ h2)⟩
theorem Mod.alloc {T : Nat → Prop} {a w : World} (h : Mod T a w) (o : Obj) : Mod T a (w.alloc o) := h.trans (T' := fun _ => False) (Mod.of_below ((Below.refl _ _).alloc (Nat.le_refl _) o)) (fun _ _ h => h.elim)
theorem Mod.setCell {T : Nat → Prop} {a w : World} (h : Mod T a w) {p : Addr} (hp : p.block < a.heap.size → T p.block) (u : Value) : Mod T a (w.setCell p u) :=
  h.trans (T' := fun k => k = p.block) ⟨rfl, rfl, rfl, by simp [World.setCell], fun k _ ht => Below.heap_setCell _ _ _ _ ht⟩ (fun k hk e => by subst e; exact hp hk)
theorem Mod.drewN {T : Nat → Prop} {a w : World} (h : Mod T a w) (n : Nat) : Mod T a (w.drewN n) := ⟨h.os, h.tape, h.output, h.size, h.block⟩
theorem Mod.drew {T : Nat → Prop} {a w : World} (h : Mod T a w) : Mod T a w.drew := ⟨h.os, h.tape, h.output, h.size, h.block⟩
theorem own_lt {w : World} {base e size n : Nat} {v : Value} {xs : List Value} (h : w.ownsRow base e size v n xs) : ∀ k, v.ownBlock = some k → k < w.heap.size := fun k hk => (h.lt k hk).2
theorem own_base {w : World} {base base' e size n : Nat} {v : Value} {xs : List Value} (h : w.ownsRow base e size v n xs) (hb : base' ≤ base) : w.ownsRow base' e size v n xs :=
  ⟨h.1, h.2.imp id (fun ⟨g, cap, cur, a, b, r⟩ => ⟨g, cap, cur, a, Nat.le_trans hb b, r⟩)⟩
theorem own_base' {w : World} {base base' e size n : Nat} {v : Value} {xs : List Value} (h : w.ownsRow base e size v n xs) (hb : ∀ k, v.ownBlock = some k → base' ≤ k) : w.ownsRow base' e size v n xs :=
  ⟨h.1, by
    rcases h.2 with h | ⟨g, cap, cur, rfl, b, r⟩
    · exact .inl h
    · exact .inr ⟨g, cap, cur, rfl, hb g rfl, r⟩⟩
/-- The cells of numbers of 32 bits. -/
def u32s (l : List Nat) : List Value := l.map fun (n : Nat) => .int .u32 (n : Int)
theorem u32s_length (l : List Nat) : (u32s l).length = l.length := by simp [u32s]
theorem u32s_at {l : List Nat} {k n : Nat} (h : l[k]? = some n) : (u32s l)[k]? = some (.int .u32 (n : Int)) := by simp [u32s, h]
/-- A slice reads as these numbers, in blocks of S. -/
def HasU (w : World) (S : Nat → Prop) (A : Option Addr) (l : List Nat) : Prop := ∀ (k n : Nat), l[k]? = some n → ∃ g o, A = some ⟨g, o, none⟩ ∧ S g ∧ w.cell? ⟨g, o + k, none⟩ = some (.int .u32 (n : Int))
theorem HasU.nil (w : World) (S : Nat → Prop) (A : Option Addr) : HasU w S A [] := fun k x hx => by simp at hx
theorem HasU.more {w : World} {S S' : Nat → Prop} {A : Option Addr} {l : List Nat} (h : HasU w S A l) (hs : ∀ k, k < w.heap.size → S k → S' k) : HasU w S' A l := fun k n hk => by
  obtain ⟨g, o, h1, h2, h3⟩ := h k n hk
  exact ⟨g, o, h1, hs g (World.block_lt_of_cell? w _ h3) h2, h3⟩
theorem HasU.mod {T S : Nat → Prop} {w w' : World} {A : Option Addr} {l : List Nat} (h : HasU w S A l) (hm : Mod T w w') (hd : ∀ k, k < w.heap.size → S k → ¬ T k) : HasU w' S A l := fun k n hk => by
  obtain ⟨g, o, h1, h2, h3⟩ := h k n hk
  exact ⟨g, o, h1, h2, hm.cell h3 (hd g (World.block_lt_of_cell? w _ h3) h2)⟩
/-- An instruction's five cells. -/
def insCells (x : I) (A : Option Addr) (c : Nat) : List Value := [.int .u8 (x.op : Int), .int .u32 (x.a : Int), .int .u32 (x.b : Int), .int .i64 x.c, .slice A x.l.length c]
def insVal (x : I) (A : Option Addr) (c : Nat) : Value := .agg (insCells x A c).toArray
/-- A slice reads as these instructions, in blocks of S. -/
def HasI (w : World) (S : Nat → Prop) (A : Option Addr) (xs : List I) : Prop := ∀ (k : Nat) (x : I), xs[k]? = some x → ∃ g o A' c, A = some ⟨g, o, none⟩ ∧ S g ∧ x.wf ∧ x.l.length ≤ c ∧ c ≤ maxLen ∧ HasU w S A' x.l ∧
  ∀ (j : Nat) (u : Value), (insCells x A' c)[j]? = some u → w.cell? ⟨g, o + k * 5 + j, none⟩ = some u
theorem HasI.nil (w : World) (S : Nat → Prop) (A : Option Addr) : HasI w S A [] := fun k x hx => by simp at hx
theorem HasI.mod {T S : Nat → Prop} {w w' : World} {A : Option Addr} {xs : List I} (h : HasI w S A xs) (hm : Mod T w w') (hd : ∀ k, k < w.heap.size → S k → ¬ T k) : HasI w' S A xs := fun k x hk => by
  obtain ⟨g, o, A', c, h1, h2, h3, h4, h5, h6, h7⟩ := h k x hk
  exact ⟨g, o, A', c, h1, h2, h3, h4, h5, h6.mod hm hd, fun j u hj => hm.cell (h7 j u hj) (hd g (World.block_lt_of_cell? w _ (h7 0 _ rfl)) h2)⟩
theorem HasI.more {w : World} {S S' : Nat → Prop} {A : Option Addr} {xs : List I} (h : HasI w S A xs) (hs : ∀ k, k < w.heap.size → S k → S' k) : HasI w S' A xs := fun k x hk => by
  obtain ⟨g, o, A', c, h1, h2, h3, h4, h5, h6, h7⟩ := h k x hk
  exact ⟨g, o, A', c, h1, hs g (World.block_lt_of_cell? w _ (h7 0 _ rfl)) h2, h3, h4, h5, h6.more hs, h7⟩
theorem HasI.wf {w : World} {S : Nat → Prop} {A : Option Addr} {xs : List I} (h : HasI w S A xs) : ∀ x ∈ xs, x.wf := fun x hx => by
  obtain ⟨k, hk⟩ := List.mem_iff_getElem?.1 hx
  obtain ⟨_, _, _, _, _, _, h, _⟩ := h k x hk
  exact h
/-- An instruction by value: its slice reads as its labels. -/
def InsV (w : World) (S : Nat → Prop) (v : Value) (x : I) : Prop := ∃ A c, v = insVal x A c ∧ x.wf ∧ x.l.length ≤ c ∧ c ≤ maxLen ∧ HasU w S A x.l
theorem InsV.mod {T S : Nat → Prop} {w w' : World} {v : Value} {x : I} (h : InsV w S v x) (hm : Mod T w w') (hd : ∀ k, k < w.heap.size → S k → ¬ T k) : InsV w' S v x := by
  obtain ⟨A, c, h1, h2, h3, h4, h5⟩ := h
  exact ⟨A, c, h1, h2, h3, h4, h5.mod hm hd⟩
theorem InsV.more {w : World} {S S' : Nat → Prop} {v : Value} {x : I} (h : InsV w S v x) (hs : ∀ k, k < w.heap.size → S k → S' k) : InsV w S' v x := by
  obtain ⟨A, c, h1, h2, h3, h4, h5⟩ := h
  exact ⟨A, c, h1, h2, h3, h4, h5.more hs⟩
end Go.Proofs.Ytnechkmdmjhhbaa
