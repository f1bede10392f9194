/-
  Plain mathematics of instructions and expressions as bytes: what an instruction's bytes are, which instructions have some, what bytes begin with, and that each is the other's way back.
-/
import Derived.Test.YtakbehoglgebmaaQ01
import Derived.Test.YtakbehoglgebmaaQ02
import Derived.Laws.OwnMore
import Derived.WalkSmall
import Derived.Lib.LaidU8T
namespace Ins
open Leb
/-- An instruction: its opcode and what it has. -/
structure I where
  op : Nat
  a : Nat
  b : Nat
  c : Int
  l : List Nat
deriving DecidableEq
def I.wf (x : I) : Prop := x.op < 256 ∧ x.a < 4294967296 ∧ x.b < 4294967296 ∧ -9223372036854775808 ≤ x.c ∧ x.c ≤ 9223372036854775807 ∧ ∀ n ∈ x.l, n < 4294967296
def blockB (a : Nat) : Bool := a == 64 || a == 127 || a == 126
def hasA (f : Int) : Bool := f == 1 || f == 2 || f == 3 || f == 4 || f == 5 || f == 6
def in32 (c : Int) : Bool := decide (-2147483648 ≤ c) && decide (c ≤ 2147483647)
/-- Whether an instruction of a form has what its form has, and no more. -/
def mayF (f : Int) (x : I) : Bool :=
  (x.a == 0 || hasA f) && (x.b == 0 || f == 6) && (x.c == 0 || (f == 8 || f == 9)) && (x.l.isEmpty || f == 3) && (f != 1 || blockB x.a) && (f != 8 || in32 x.c)
def may (x : I) : Bool := Opc.known x.op && mayF (Opc.form x.op) x
def labs (l : List Nat) : List UInt8 := l.flatMap encU
/-- What stands behind the opcode. -/
def tailF (f : Int) (x : I) : List UInt8 :=
  if f = 1 then [UInt8.ofNat x.a]
  else if f = 2 ∨ f = 4 then encU x.a
  else if f = 3 then encU x.l.length ++ labs x.l ++ encU x.a
  else if f = 5 then encU x.a ++ [0]
  else if f = 6 then encU x.a ++ encU x.b
  else if f = 7 then [0]
  else if f = 8 ∨ f = 9 then encS x.c
  else []
def enc (x : I) : List UInt8 := UInt8.ofNat x.op :: tailF (Opc.form x.op) x
def encAll (xs : List I) : List UInt8 := xs.flatMap enc
def exprEnc (xs : List I) : List UInt8 := encAll xs ++ [11]

/-- What bytes begin with. -/
def rdNum (l : List UInt8) : Except Nat (Nat × Nat) := if okU l 32 = true then .ok (used l, run l) else .error 60
def rdConst (l : List UInt8) (bits : Int) : Except Nat (Int × Nat) := if okS l bits = true then .ok (sused l, run l) else .error 60
def rdByte (l : List UInt8) : Except Nat (Nat × Nat) := match l with
  | [] => .error 60
  | x :: _ => .ok (x.toNat, 1)
def rdZero (l : List UInt8) : Except Nat Nat := match rdByte l with
  | .error e => .error e
  | .ok (x, k) => if x = 0 then .ok k else .error 60
def rdBlock (l : List UInt8) : Except Nat (Nat × Nat) := match rdByte l with
  | .error e => .error e
  | .ok (x, k) => if x = 125 ∨ x = 124 then .error 61 else if blockB x = true then .ok (x, k) else .error 60
def rdOp (l : List UInt8) : Except Nat (Nat × Nat) := match rdByte l with
  | .error e => .error e
  | .ok (x, k) => if Opc.float x = true then .error 61 else if Opc.known x = true then .ok (x, k) else .error 60
def onto {α : Type} (xs : List α) (k : Nat) (r : Except Nat (List α × Nat)) : Except Nat (List α × Nat) := match r with
  | .error e => .error e
  | .ok (ys, m) => .ok (xs ++ ys, k + m)
def rdMany : Nat → List UInt8 → Except Nat (List Nat × Nat)
  | 0, _ => .ok ([], 0)
  | n + 1, l => match rdNum l with
    | .error e => .error e
    | .ok (x, k) => onto [x] k (rdMany n (l.drop k))
def rdLabels (l : List UInt8) : Except Nat (List Nat × Nat) := match rdNum l with
  | .error e => .error e
  | .ok (n, k) => onto [] k (rdMany n (l.drop k))
/-- What an instruction has, by its form: of the bytes behind its opcode. -/
def rdF (f : Int) (op : Nat) (l : List UInt8) : Except Nat (I × Nat) :=
  if f = 1 then match rdBlock l with
    | .error e => .error e
    | .ok (a, k) => .ok (⟨op, a, 0, 0, []⟩, k)
  else if f = 2 ∨ f = 4 then match rdNum l with
    | .error e => .error e
    | .ok (a, k) => .ok (⟨op, a, 0, 0, []⟩, k)
  else if f = 3 then match rdLabels l with
    | .error e => .error e
    | .ok (xs, k) => match rdNum (l.drop k) with
      | .error e => .error e
      | .ok (a, m) => .ok (⟨op, a, 0, 0, xs⟩, k + m)
  else if f = 5 then match rdNum l with
    | .error e => .error e
    | .ok (a, k) => match rdZero (l.drop k) with
      | .error e => .error e
      | .ok m => .ok (⟨op, a, 0, 0, []⟩, k + m)
  else if f = 6 then match rdNum l with
    | .error e => .error e
    | .ok (a, k) => match rdNum (l.drop k) with
      | .error e => .error e
      | .ok (b, m) => .ok (⟨op, a, b, 0, []⟩, k + m)
  else if f = 7 then match rdZero l with
    | .error e => .error e
    | .ok k => .ok (⟨op, 0, 0, 0, []⟩, k)
  else if f = 8 then match rdConst l 32 with
    | .error e => .error e
    | .ok (c, k) => .ok (⟨op, 0, 0, c, []⟩, k)
  else if f = 9 then match rdConst l 64 with
    | .error e => .error e
    | .ok (c, k) => .ok (⟨op, 0, 0, c, []⟩, k)
  else .ok (⟨op, 0, 0, 0, []⟩, 0)
def rdInstr (l : List UInt8) : Except Nat (I × Nat) := match rdOp l with
  | .error e => .error e
  | .ok (op, k) => match rdF (Opc.form op) op (l.drop k) with
    | .error e => .error e
    | .ok (x, m) => .ok (x, k + m)
/-- Which blocks are open behind an instruction, the innermost last; of each, whether an else may stand in it. -/
def step (o : List Bool) (op : Nat) : Option (List Bool) :=
  if op = 2 ∨ op = 3 then some (o ++ [false])
  else if op = 4 then some (o ++ [true])
  else if op = 5 then (if o.getLast? = some true then some (o.dropLast ++ [false]) else none)
  else if op = 11 then (if o = [] then none else some o.dropLast)
  else some o
def steps : List Bool → List I → Option (List Bool)
  | o, [] => some o
  | o, x :: xs => match step o x.op with
    | none => none
    | some o' => steps o' xs
def rdExpr : Nat → List Bool → List UInt8 → Except Nat (List I × Nat)
  | 0, _, _ => .error 60
  | n + 1, o, l => match rdInstr l with
    | .error e => .error e
    | .ok (x, k) => if x.op = 11 ∧ o = [] then .ok ([], k) else match step o x.op with
      | none => .error 60
      | some o' => onto [x] k (rdExpr n o' (l.drop k))
/-- Whether instructions are an expression's. -/
def exprB (xs : List I) : Bool := xs.all may && (steps [] xs == some [])

/- The one's way back is the other. -/
theorem byteNat (n : Nat) (h : n < 256) : (UInt8.ofNat n).toNat = n := byte_of n h
theorem blockB_lt {a : Nat} (h : blockB a = true) : a < 256 ∧ ¬ (a = 125 ∨ a = 124) := by
  simp [blockB] at h; omega
theorem form_range (n : Int) : Opc.form n = 0 ∨ Opc.form n = 1 ∨ Opc.form n = 2 ∨ Opc.form n = 3 ∨ Opc.form n = 4 ∨ Opc.form n = 5 ∨ Opc.form n = 6 ∨ Opc.form n = 7 ∨ Opc.form n = 8 ∨ Opc.form n = 9 := by
  unfold Opc.form
  (repeat' split) <;> simp
end Ins
/-
  Plain mathematics of instructions and expressions as bytes: what was read may be written, and is no longer then; expressions there and back; a beginning of an expression's bytes is none.
-/
namespace Ins
open Leb
/- A beginning of the bytes is none. -/
end Ins
/-
  Plain mathematics of expressions: how long bytes may be; where instructions fail to be an expression's; how many there are together.
-/
namespace Ins
open Leb
def tot : List I → Nat
  | [] => 0
  | x :: xs => x.l.length + 5 + tot xs
theorem tot_append : ∀ (a b : List I), tot (a ++ b) = tot a + tot b
  | [], b => by simp [tot]
  | x :: a, b => by simp only [List.cons_append, tot, tot_append a b]; omega
theorem tot_len : ∀ (xs : List I), 5 * xs.length ≤ tot xs
  | [] => by simp [tot]
  | x :: xs => by have := tot_len xs; simp only [tot, List.length_cons]; omega
theorem tot_take {xs : List I} {j : Nat} {x : I} (h : xs[j]? = some x) : tot (xs.take (j + 1)) = tot (xs.take j) + (x.l.length + 5) := by
  rw [List.take_add_one, h, tot_append]; simp [tot]
theorem tot_take_le (xs : List I) (j : Nat) : tot (xs.take j) ≤ tot xs := by
  have h := tot_append (xs.take j) (xs.drop j)
  rw [List.take_append_drop] at h
  omega
theorem labs_le : ∀ (q : List Nat), (∀ x ∈ q, x < 4294967296) → (labs q).length ≤ 10 * q.length
  | [], _ => by simp [labs]
  | x :: q, hq => by
    have h1 := labs_le q (fun y hy => hq y (by simp [hy]))
    have h2 := encU_le10 x (by have := hq x (by simp); omega)
    have e : labs (x :: q) = encU x ++ labs q := by simp [labs]
    rw [e, List.length_append, List.length_cons]
    omega
theorem enc_le (x : I) (hw : x.wf) (hl : x.l.length < 4294967296) : (enc x).length ≤ 10 * (x.l.length + 5) := by
  obtain ⟨op, a, b, c, l⟩ := x
  obtain ⟨h1, h2, h3, h4, h5, h6⟩ := hw
  simp only at h1 h2 h3 h4 h5 h6 hl
  have ea := encU_le10 a (by omega)
  have eb := encU_le10 b (by omega)
  have ec := encS_le10 c h4 h5
  have el := encU_le10 l.length (by omega)
  have eL := labs_le l h6
  simp only [enc, List.length_cons]
  rcases form_range op with hf | hf | hf | hf | hf | hf | hf | hf | hf | hf <;> rw [hf] <;> simp [tailF] <;> omega
theorem encAll_append (a b : List I) : encAll (a ++ b) = encAll a ++ encAll b := by simp [encAll]
theorem encAll_take {xs : List I} {j : Nat} {x : I} (h : xs[j]? = some x) : encAll (xs.take (j + 1)) = encAll (xs.take j) ++ enc x := by
  rw [List.take_add_one, h, encAll_append]; simp [encAll]
theorem steps_append : ∀ (a b : List I) (o o' : List Bool), steps o a = some o' → steps o (a ++ b) = steps o' b
  | [], b, o, o', h => by simp only [steps, Option.some.injEq] at h; subst h; rfl
  | x :: a, b, o, o', h => by
    simp only [steps, List.cons_append] at h ⊢
    cases hs : step o x.op with
    | none => rw [hs] at h; cases h
    | some o1 => rw [hs] at h; simp only at h ⊢; exact steps_append a b o1 o' h
theorem steps_take {xs : List I} {j : Nat} {x : I} {o : List Bool} (h : steps [] (xs.take j) = some o) (hx : xs[j]? = some x) : steps [] xs = steps o (x :: xs.drop (j + 1)) := by
  have hj : j < xs.length := (List.getElem?_eq_some_iff.1 hx).1
  have e : xs = xs.take j ++ (x :: xs.drop (j + 1)) := by
    have h2 : xs.drop j = x :: xs.drop (j + 1) := by
      rw [List.drop_eq_getElem_cons hj]
      have := (List.getElem?_eq_some_iff.1 hx).2
      rw [this]
    rw [← h2, List.take_append_drop]
  conv => lhs; rw [e]
  exact steps_append _ _ _ _ h
theorem steps_next {xs : List I} {j : Nat} {x : I} {o o' : List Bool} (h : steps [] (xs.take j) = some o) (hx : xs[j]? = some x) (hs : step o x.op = some o') : steps [] (xs.take (j + 1)) = some o' := by
  rw [List.take_add_one, hx, steps_append _ _ _ _ h]
  simp [steps, hs]
theorem exprB_may {xs : List I} {j : Nat} {x : I} (hx : xs[j]? = some x) (hm : may x = false) : exprB xs = false := by
  unfold exprB
  have : xs.all may = false := List.all_eq_false.2 ⟨x, List.mem_of_getElem? hx, by simp [hm]⟩
  rw [this]; rfl
theorem exprB_step {xs : List I} {j : Nat} {x : I} {o : List Bool} (h : steps [] (xs.take j) = some o) (hx : xs[j]? = some x) (hs : step o x.op = none) : exprB xs = false := by
  unfold exprB
  rw [steps_take h hx]
  simp [steps, hs]
theorem all_take {xs : List I} {j : Nat} {x : I} (h : (xs.take j).all may = true) (hx : xs[j]? = some x) (hm : may x = true) : (xs.take (j + 1)).all may = true := by
  rw [List.take_add_one, hx]; simp only [Option.toList_some, List.all_append, h, Bool.true_and]; simp [hm]
end Ins
/-
  What a call has changed, block by block; slices that read as numbers and as instructions, in blocks of a set.
-/
namespace Go.Proofs.Ytakbehoglgebmaa
open Go.RowKit Ins
/-- The cells of numbers of 32 bits. -/
def u32s (l : List Nat) : List Value := l.map fun (n : Nat) => .int .u32 (n : Int)
theorem u32s_length (l : List Nat) : (u32s l).length = l.length := by simp [u32s]
theorem u32s_at {l : List Nat} {k n : Nat} (h : l[k]? = some n) : (u32s l)[k]? = some (.int .u32 (n : Int)) := by simp [u32s, h]
/-- A slice reads as these numbers, in blocks of S. -/
def HasU (w : World) (S : Nat → Prop) (A : Option Addr) (l : List Nat) : Prop := ∀ (k n : Nat), l[k]? = some n → ∃ g o, A = some ⟨g, o, none⟩ ∧ S g ∧ w.cell? ⟨g, o + k, none⟩ = some (.int .u32 (n : Int))
theorem HasU.nil (w : World) (S : Nat → Prop) (A : Option Addr) : HasU w S A [] := fun k x hx => by simp at hx
theorem HasU.more {w : World} {S S' : Nat → Prop} {A : Option Addr} {l : List Nat} (h : HasU w S A l) (hs : ∀ k, k < w.heap.size → S k → S' k) : HasU w S' A l := fun k n hk => by
  obtain ⟨g, o, h1, h2, h3⟩ := h k n hk
  exact ⟨g, o, h1, hs g (World.block_lt_of_cell? w _ h3) h2, h3⟩
theorem HasU.mod {T S : Nat → Prop} {w w' : World} {A : Option Addr} {l : List Nat} (h : HasU w S A l) (hm : Mod T w w') (hd : ∀ k, k < w.heap.size → S k → ¬ T k) : HasU w' S A l := fun k n hk => by
  obtain ⟨g, o, h1, h2, h3⟩ := h k n hk
  exact ⟨g, o, h1, h2, hm.cell h3 (hd g (World.block_lt_of_cell? w _ h3) h2)⟩
/-- An instruction's five cells. -/
def insCells (x : I) (A : Option Addr) (c : Nat) : List Value := [.int .u8 (x.op : Int), .int .u32 (x.a : Int), .int .u32 (x.b : Int), .int .i64 x.c, .slice A x.l.length c]
def insVal (x : I) (A : Option Addr) (c : Nat) : Value := .agg (insCells x A c).toArray
/-- A slice reads as these instructions, in blocks of S. -/
def HasI (w : World) (S : Nat → Prop) (A : Option Addr) (xs : List I) : Prop := ∀ (k : Nat) (x : I), xs[k]? = some x → ∃ g o A' c, A = some ⟨g, o, none⟩ ∧ S g ∧ x.wf ∧ x.l.length ≤ c ∧ c ≤ maxLen ∧ HasU w S A' x.l ∧
  ∀ (j : Nat) (u : Value), (insCells x A' c)[j]? = some u → w.cell? ⟨g, o + k * 5 + j, none⟩ = some u
theorem HasI.nil (w : World) (S : Nat → Prop) (A : Option Addr) : HasI w S A [] := fun k x hx => by simp at hx
theorem HasI.mod {T S : Nat → Prop} {w w' : World} {A : Option Addr} {xs : List I} (h : HasI w S A xs) (hm : Mod T w w') (hd : ∀ k, k < w.heap.size → S k → ¬ T k) : HasI w' S A xs := fun k x hk => by
  obtain ⟨g, o, A', c, h1, h2, h3, h4, h5, h6, h7⟩ := h k x hk
  exact ⟨g, o, A', c, h1, h2, h3, h4, h5, h6.mod hm hd, fun j u hj => hm.cell (h7 j u hj) (hd g (World.block_lt_of_cell? w _ (h7 0 _ rfl)) h2)⟩
theorem HasI.more {w : World} {S S' : Nat → Prop} {A : Option Addr} {xs : List I} (h : HasI w S A xs) (hs : ∀ k, k < w.heap.size → S k → S' k) : HasI w S' A xs := fun k x hk => by
  obtain ⟨g, o, A', c, h1, h2, h3, h4, h5, h6, h7⟩ := h k x hk
  exact ⟨g, o, A', c, h1, hs g (World.block_lt_of_cell? w _ (h7 0 _ rfl)) h2, h3, h4, h5, h6.more hs, h7⟩
theorem HasI.wf {w : World} {S : Nat → Prop} {A : Option Addr} {xs : List I} (h : HasI w S A xs) : ∀ x ∈ xs, x.wf := fun x hx => by
  obtain ⟨k, hk⟩ := List.mem_iff_getElem?.1 hx
  obtain ⟨_, _, _, _, _, _, h, _⟩ := h k x hk
  exact h
/-- An instruction by value: its slice reads as its labels. -/
def InsV (w : World) (S : Nat → Prop) (v : Value) (x : I) : Prop := ∃ A c, v = insVal x A c ∧ x.wf ∧ x.l.length ≤ c ∧ c ≤ maxLen ∧ HasU w S A x.l
theorem InsV.mod {T S : Nat → Prop} {w w' : World} {v : Value} {x : I} (h : InsV w S v x) (hm : Mod T w w') (hd : ∀ k, k < w.heap.size → S k → ¬ T k) : InsV w' S v x := by
  obtain ⟨A, c, h1, h2, h3, h4, h5⟩ := h
  exact ⟨A, c, h1, h2, h3, h4, h5.mod hm hd⟩
theorem InsV.more {w : World} {S S' : Nat → Prop} {v : Value} {x : I} (h : InsV w S v x) (hs : ∀ k, k < w.heap.size → S k → S' k) : InsV w S' v x := by
  obtain ⟨A, c, h1, h2, h3, h4, h5⟩ := h
  exact ⟨A, c, h1, h2, h3, h4, h5.more hs⟩
end Go.Proofs.Ytakbehoglgebmaa
/-
  What a text in UTF-8 is, as a plain function on lists of bytes: the first character's length by its first byte and the ranges of those behind it; plain mathematics.
-/
namespace U8
/-- How many bytes a character has that begins with this one (128 or more); 0: none does. -/
def size (c : Nat) : Nat := if c < 194 then 0 else if c < 224 then 2 else if c < 240 then 3 else if c < 245 then 4 else 0
def lo (c : Nat) : Nat := if c = 224 then 160 else if c = 240 then 144 else 128
def hi (c : Nat) : Nat := if c = 237 then 159 else if c = 244 then 143 else 191
def byte (l : List UInt8) (k : Nat) : Nat := (l.getD k 0).toNat
/-- Of how many bytes is the first character; 0: there is none. -/
def one (l : List UInt8) : Nat :=
  if l.length = 0 then 0 else if byte l 0 < 128 then 1
  else if size (byte l 0) = 0 ∨ l.length < size (byte l 0) then 0
  else if byte l 1 < lo (byte l 0) ∨ hi (byte l 0) < byte l 1 then 0
  else if 3 ≤ size (byte l 0) ∧ (byte l 2 < 128 ∨ 191 < byte l 2) then 0
  else if 4 ≤ size (byte l 0) ∧ (byte l 3 < 128 ∨ 191 < byte l 3) then 0
  else size (byte l 0)
def run : Nat → List UInt8 → Bool
  | 0, _ => true
  | f + 1, l => if l.length = 0 then true else if one l = 0 then false else run f (l.drop (one l))
/-- It is a text. -/
def text (l : List UInt8) : Bool := run l.length l
/-- The first k bytes are below 128. -/
def Low (l : List UInt8) (k : Nat) : Prop := k ≤ l.length ∧ ∀ j, j < k → byte l j < 128
theorem byte_drop (l : List UInt8) (k j : Nat) : byte (l.drop k) j = byte l (k + j) := by
  unfold byte; rw [List.getD_eq_getElem?_getD, List.getD_eq_getElem?_getD, List.getElem?_drop]
theorem Low.more {l : List UInt8} {a b : Nat} (h1 : Low l a) (h2 : Low (l.drop a) b) : Low l (a + b) := by
  obtain ⟨k1, g1⟩ := h1
  obtain ⟨k2, g2⟩ := h2
  rw [List.length_drop] at k2
  refine ⟨by omega, fun j hj => ?_⟩
  by_cases hja : j < a
  · exact g1 j hja
  · have := g2 (j - a) (by omega)
    rw [byte_drop, show a + (j - a) = j by omega] at this
    exact this
/-- What the library's tables say of a byte from 128 on. -/
theorem tables : (List.range 128).all (fun k => let c := 128 + k
    (Go.Lib.firstT c % 8 == if size c = 0 then 1 else size c) && decide (Go.Lib.firstT c < 256) && decide (Go.Lib.firstT c / 16 < 16) && (size c == 0 || (Go.Lib.accLo (Go.Lib.firstT c / 16) == lo c && Go.Lib.accHi (Go.Lib.firstT c / 16) == hi c))) = true := by decide +kernel
end U8
/-
  Plain mathematics of a binary's sections: what their bytes are, what bytes begin with, and that each is the other's way back; a custom section anywhere; a beginning of a binary's bytes.
-/
namespace Sec
open Leb
/-- A section: its number and its bytes. -/
structure S where
  id : Nat
  b : List UInt8
deriving DecidableEq
def begin8 : List UInt8 := [0, 97, 115, 109, 1, 0, 0, 0]
def enc (s : S) : List UInt8 := UInt8.ofNat s.id :: (encU s.b.length ++ s.b)
def encAll (xs : List S) : List UInt8 := xs.flatMap enc
/-- Bytes that begin with a name. -/
def named (l : List UInt8) : Bool := okU l 32 && decide (run l + used l ≤ l.length) && U8.text ((l.drop (run l)).take (used l))
/-- The section with which bytes begin: its number, its bytes, what stands behind. -/
def hd : List UInt8 → Option (Nat × List UInt8 × List UInt8)
  | [] => none
  | x :: r => if okU r 32 = true ∧ run r + used r ≤ r.length then some (x.toNat, (r.drop (run r)).take (used r), r.drop (run r + used r)) else none
/-- The sections of bytes, behind the number k. -/
def rd : Nat → Nat → List UInt8 → Option (List S)
  | 0, _, l => if l = [] then some [] else none
  | f + 1, k, l => if l = [] then some [] else match hd l with
    | none => none
    | some (id, own, rest) => if id = 0 then (if named own = true then rd f k rest else none) else if k < id ∧ id ≤ 11 then (rd f id rest).map (⟨id, own⟩ :: ·) else none
/-- The sections of a binary. -/
def split (l : List UInt8) : Option (List S) := if l.take 8 = begin8 then rd l.length 0 (l.drop 8) else none

/- Without fuel. -/
/- A beginning. -/
/-- Of how many bytes the first section is, its number and its length among them. -/
def hlen (l : List UInt8) : Nat := 1 + run (l.drop 1) + used (l.drop 1)
end Sec
/-
  Plain mathematics of a module's binary: what each section's bytes are read as, what is first wrong with them; a module's sections one by one.
-/
namespace Bin
open Leb Ins Sec
structure FT where
  params : List UInt8
  results : List UInt8
deriving DecidableEq
structure Lim where
  min : Nat
  max : Int
deriving DecidableEq
structure Glob where
  t : UInt8
  mu : Bool
deriving DecidableEq
structure Imp where
  mod : List UInt8
  name : List UInt8
  kind : UInt8
  type : Nat
  lim : Lim
  glob : Glob
deriving DecidableEq
structure GV where
  type : Glob
  init : List I
deriving DecidableEq
structure Exp where
  name : List UInt8
  kind : UInt8
  index : Nat
deriving DecidableEq
structure El where
  table : Nat
  off : List I
  funcs : List Nat
deriving DecidableEq
structure Lc where
  n : Nat
  t : UInt8
deriving DecidableEq
structure Cd where
  locals : List Lc
  body : List I
deriving DecidableEq
structure Da where
  mem : Nat
  off : List I
  b : List UInt8
deriving DecidableEq
structure M where
  types : List FT
  imports : List Imp
  funcs : List Nat
  tables : List Lim
  mems : List Lim
  globals : List GV
  exports : List Exp
  hasStart : Bool
  start : Nat
  elems : List El
  codes : List Cd
  datas : List Da
deriving DecidableEq
def M.zero : M := ⟨[], [], [], [], [], [], [], false, 0, [], [], []⟩
/-- A reader: what bytes begin with, and how many these are; or an error. -/
abbrev P (α : Type) := List UInt8 → Except Nat (α × Nat)
def P.ret {α : Type} (a : α) : P α := fun _ => .ok (a, 0)
def P.fail {α : Type} (e : Nat) : P α := fun _ => .error e
def P.then {α β : Type} (p : P α) (f : α → P β) : P β := fun l => match p l with
  | .error e => .error e
  | .ok (a, k) => match f a (l.drop k) with
    | .error e => .error e
    | .ok (b, j) => .ok (b, k + j)
def many {α : Type} (p : P α) : Nat → P (List α)
  | 0 => P.ret []
  | n + 1 => p.then fun x => (many p n).then fun xs => P.ret (x :: xs)
def byte : P UInt8 := fun l => match l with
  | [] => .error 60
  | x :: _ => .ok (x, 1)
def num : P Nat := rdNum
def list {α : Type} (p : P α) : P (List α) := num.then fun n => many p n
def name : P (List UInt8) := fun l => if named l = true then .ok ((l.drop (run l)).take (used l), run l + used l) else .error 60
def value : P UInt8 := byte.then fun t => if t = 125 ∨ t = 124 then P.fail 61 else if t = 127 ∨ t = 126 then P.ret t else P.fail 60
def flag : P Bool := byte.then fun t => if t = 0 then P.ret false else if t = 1 then P.ret true else P.fail 60
def lim : P Lim := flag.then fun f => num.then fun a => if f = true then num.then fun b => P.ret ⟨a, b⟩ else P.ret ⟨a, -1⟩
def table : P Lim := byte.then fun t => if t = 112 then lim else P.fail 60
def glob : P Glob := value.then fun t => flag.then fun m => P.ret ⟨t, m⟩
def expr : P (List I) := fun l => rdExpr (l.length + 1) [] l
def ft : P FT := byte.then fun t => if t = 96 then (list value).then fun p => (list value).then fun r => P.ret ⟨p, r⟩ else P.fail 60
def imp : P Imp := name.then fun a => name.then fun b => byte.then fun k =>
  if k = 0 then num.then fun t => P.ret ⟨a, b, 0, t, ⟨0, 0⟩, ⟨0, false⟩⟩
  else if k = 1 then table.then fun t => P.ret ⟨a, b, 1, 0, t, ⟨0, false⟩⟩
  else if k = 2 then lim.then fun t => P.ret ⟨a, b, 2, 0, t, ⟨0, false⟩⟩
  else if k = 3 then glob.then fun t => P.ret ⟨a, b, 3, 0, ⟨0, 0⟩, t⟩
  else P.fail 60
def el : P El := num.then fun t => expr.then fun e => (list num).then fun f => P.ret ⟨t, e, f⟩
def loc : P Lc := num.then fun n => value.then fun t => P.ret ⟨n, t⟩
/-- So many bytes as are told ahead of them. -/
def part : P (List UInt8) := num.then fun n => fun l => if n ≤ l.length then .ok (l.take n, n) else .error 60
def locSum (l : List Lc) : Nat := (l.map (·.n)).sum
/-- What reads all of the bytes. -/
def whole {α : Type} (p : P α) (l : List UInt8) : Except Nat α := match p l with
  | .error e => .error e
  | .ok (a, k) => if k = l.length then .ok a else .error 60
def cdIn : P Cd := (list loc).then fun ls => if locSum ls < 4294967296 then expr.then fun e => P.ret ⟨ls, e⟩ else P.fail 60
def cd : P Cd := part.then fun b => match whole cdIn b with
  | .error e => P.fail e
  | .ok c => P.ret c
/-- The module of what each section is. -/
def M.of (f : Nat → M) : M := ⟨(f 1).types, (f 2).imports, (f 3).funcs, (f 4).tables, (f 5).mems, (f 6).globals, (f 7).exports, (f 8).hasStart, (f 8).start, (f 9).elems, (f 10).codes, (f 11).datas⟩
/- What is read is whole. -/
def plain (l : List I) : Bool := l.all fun x => Opc.known x.op && !Opc.float x.op
theorem ret_ok {α : Type} {a b : α} {l : List UInt8} {k : Nat} (h : P.ret a l = .ok (b, k)) : a = b ∧ k = 0 := by
  injection h with h
  injection h with h1 h2
  exact ⟨h1, h2.symm⟩
/- Sections, one by one. -/
end Bin
