/-
  Plain mathematics of instructions and expressions as bytes: what an instruction's bytes are, which instructions have some, what bytes begin with, and that each is the other's way back.
-/
import Derived.Test.YtnechkmdmjhhbaaLebBits2
import Derived.Test.YtnechkmdmjhhbaaLebAgain
import Derived.Test.YtnechkmdmjhhbaaLebEnc
import Derived.Test.YtnechkmdmjhhbaaOpcTab
namespace Ins
open Leb
/-- An instruction: its opcode and what it has. -/
structure I where
  op : Nat
  a : Nat
  b : Nat
  c : Int
  l : List Nat
deriving DecidableEq
def I.wf (x : I) : Prop := x.op < 256 ∧ x.a < 4294967296 ∧ x.b < 4294967296 ∧ -9223372036854775808 ≤ x.c ∧ x.c ≤ 9223372036854775807 ∧ ∀ n ∈ x.l, n < 4294967296
def blockB (a : Nat) : Bool := a == 64 || a == 127 || a == 126
def hasA (f : Int) : Bool := f == 1 || f == 2 || f == 3 || f == 4 || f == 5 || f == 6
def in32 (c : Int) : Bool := decide (-2147483648 ≤ c) && decide (c ≤ 2147483647)
/-- Whether an instruction of a form has what its form has, and no more. -/
def mayF (f : Int) (x : I) : Bool :=
  (x.a == 0 || hasA f) && (x.b == 0 || f == 6) && (x.c == 0 || (f == 8 || f == 9)) && (x.l.isEmpty || f == 3) && (f != 1 || blockB x.a) && (f != 8 || in32 x.c)
def may (x : I) : Bool := Opc.known x.op && mayF (Opc.form x.op) x
def labs (l : List Nat) : List UInt8 := l.flatMap encU
/-- What stands behind the opcode. -/
def tailF (f : Int) (x : I) : List UInt8 :=
  if f = 1 then [UInt8.ofNat x.a]
  else if f = 2 ∨ f = 4 then encU x.a
  else if f = 3 then encU x.l.length ++ labs x.l ++ encU x.a
  else if f = 5 then encU x.a ++ [0]
  else if f = 6 then encU x.a ++ encU x.b
  else if f = 7 then [0]
  else if f = 8 ∨ f = 9 then encS x.c
  else []
def enc (x : I) : List UInt8 := UInt8.ofNat x.op :: tailF (Opc.form x.op) x
def encAll (xs : List I) : List UInt8 := xs.flatMap enc
def exprEnc (xs : List I) : List UInt8 := encAll xs ++ [11]

/-- What bytes begin with. -/
def rdNum (l : List UInt8) : Except Nat (Nat × Nat) := if okU l 32 = true then .ok (used l, run l) else .error 60
def rdConst (l : List UInt8) (bits : Int) : Except Nat (Int × Nat) := if okS l bits = true then .ok (sused l, run l) else .error 60
def rdByte (l : List UInt8) : Except Nat (Nat × Nat) := match l with
  | [] => .error 60
  | x :: _ => .ok (x.toNat, 1)
def rdZero (l : List UInt8) : Except Nat Nat := match rdByte l with
  | .error e => .error e
  | .ok (x, k) => if x = 0 then .ok k else .error 60
def rdBlock (l : List UInt8) : Except Nat (Nat × Nat) := match rdByte l with
  | .error e => .error e
  | .ok (x, k) => if x = 125 ∨ x = 124 then .error 61 else if blockB x = true then .ok (x, k) else .error 60
def rdOp (l : List UInt8) : Except Nat (Nat × Nat) := match rdByte l with
  | .error e => .error e
  | .ok (x, k) => if Opc.float x = true then .error 61 else if Opc.known x = true then .ok (x, k) else .error 60
def onto {α : Type} (xs : List α) (k : Nat) (r : Except Nat (List α × Nat)) : Except Nat (List α × Nat) := match r with
  | .error e => .error e
  | .ok (ys, m) => .ok (xs ++ ys, k + m)
def rdMany : Nat → List UInt8 → Except Nat (List Nat × Nat)
  | 0, _ => .ok ([], 0)
  | n + 1, l => match rdNum l with
    | .error e => .error e
    | .ok (x, k) => onto [x] k (rdMany n (l.drop k))
def rdLabels (l : List UInt8) : Except Nat (List Nat × Nat) := match rdNum l with
  | .error e => .error e
  | .ok (n, k) => onto [] k (rdMany n (l.drop k))
/-- What an instruction has, by its form: of the bytes behind its opcode. -/
def rdF (f : Int) (op : Nat) (l : List UInt8) : Except Nat (I × Nat) :=
  if f = 1 then match rdBlock l with
    | .error e => .error e
    | .ok (a, k) => .ok (⟨op, a, 0, 0, []⟩, k)
  else if f = 2 ∨ f = 4 then match rdNum l with
    | .error e => .error e
    | .ok (a, k) => .ok (⟨op, a, 0, 0, []⟩, k)
  else if f = 3 then match rdLabels l with
    | .error e => .error e
    | .ok (xs, k) => match rdNum (l.drop k) with
      | .error e => .error e
      | .ok (a, m) => .ok (⟨op, a, 0, 0, xs⟩, k + m)
  else if f = 5 then match rdNum l with
    | .error e => .error e
    | .ok (a, k) => match rdZero (l.drop k) with
      | .error e => .error e
      | .ok m => .ok (⟨op, a, 0, 0, []⟩, k + m)
  else if f = 6 then match rdNum l with
    | .error e => .error e
    | .ok (a, k) => match rdNum (l.drop k) with
      | .error e => .error e
      | .ok (b, m) => .ok (⟨op, a, b, 0, []⟩, k + m)
  else if f = 7 then match rdZero l with
    | .error e => .error e
    | .ok k => .ok (⟨op, 0, 0, 0, []⟩, k)
  else if f = 8 then match rdConst l 32 with
    | .error e => .error e
    | .ok (c, k) => .ok (⟨op, 0, 0, c, []⟩, k)
  else if f = 9 then match rdConst l 64 with
    | .error e => .error e
    | .ok (c, k) => .ok (⟨op, 0, 0, c, []⟩, k)
  else .ok (⟨op, 0, 0, 0, []⟩, 0)
def rdInstr (l : List UInt8) : Except Nat (I × Nat) := match rdOp l with
  | .error e => .error e
  | .ok (op, k) => match rdF (Opc.form op) op (l.drop k) with
    | .error e => .error e
    | .ok (x, m) => .ok (x, k + m)
/-- Which blocks are open behind an instruction, the innermost last; of each, whether an else may stand in it. -/
def step (o : List Bool) (op : Nat) : Option (List Bool) :=
  if op = 2 ∨ op = 3 then some (o ++ [false])
  else if op = 4 then some (o ++ [true])
  else if op = 5 then (if o.getLast? = some true then some (o.dropLast ++ [false]) else none)
  else if op = 11 then (if o = [] then none else some o.dropLast)
  else some o
def steps : List Bool → List I → Option (List Bool)
  | o, [] => some o
  | o, x :: xs => match step o x.op with
    | none => none
    | some o' => steps o' xs
def rdExpr : Nat → List Bool → List UInt8 → Except Nat (List I × Nat)
  | 0, _, _ => .error 60
  | n + 1, o, l => match rdInstr l with
    | .error e => .error e
    | .ok (x, k) => if x.op = 11 ∧ o = [] then .ok ([], k) else match step o x.op with
      | none => .error 60
      | some o' => onto [x] k (rdExpr n o' (l.drop k))
/-- Whether instructions are an expression's. -/
def exprB (xs : List I) : Bool := xs.all may && (steps [] xs == some [])

/- The one's way back is the other. -/
theorem okU_enc (n : Nat) (r : List UInt8) (h : n < 4294967296) : okU (encU n ++ r) 32 = true := by
  rw [okU_encU n r 32 (by omega) (by decide) (by decide)]
  have := (bitLen_iff n 32 (by omega) (by decide)).2 (by omega)
  exact decide_eq_true (by omega)
theorem okS_enc (c : Int) (r : List UInt8) (bits : Int) (h0 : -9223372036854775808 ≤ c) (h1 : c ≤ 9223372036854775807) (h : bits = 64 ∨ bits = 32 ∧ in32 c = true) : okS (encS c ++ r) bits = true := by
  rcases h with rfl | ⟨rfl, h⟩
  · rw [okS_encS c r 64 h0 h1 (by decide) (by decide)]
    have h2 := mag_lt c h0 h1
    have := (bitLen_iff (mag c) 63 (by omega) (by decide)).2 (by omega)
    exact decide_eq_true (by omega)
  · simp only [in32, Bool.and_eq_true, decide_eq_true_eq] at h
    rw [okS_encS c r 32 h0 h1 (by decide) (by decide)]
    have h2 : mag c < 2 ^ 31 := (mag_iff c 31).2 (by omega)
    have := (bitLen_iff (mag c) 31 (by omega) (by decide)).2 h2
    exact decide_eq_true (by omega)
theorem rdNum_enc (n : Nat) (r : List UInt8) (h : n < 4294967296) : rdNum (encU n ++ r) = .ok (n, (encU n).length) := by
  unfold rdNum; rw [if_pos (okU_enc n r h), used_encU, run_encU]
theorem rdConst_enc (c : Int) (r : List UInt8) (bits : Int) (h0 : -9223372036854775808 ≤ c) (h1 : c ≤ 9223372036854775807) (h : bits = 64 ∨ bits = 32 ∧ in32 c = true) : rdConst (encS c ++ r) bits = .ok (c, (encS c).length) := by
  unfold rdConst; rw [if_pos (okS_enc c r bits h0 h1 h), sused_encS, run_encS]
theorem rdMany_enc : ∀ (l : List Nat) (r : List UInt8), (∀ n ∈ l, n < 4294967296) → rdMany l.length (labs l ++ r) = .ok (l, (labs l).length)
  | [], r, _ => by simp [rdMany, labs]
  | x :: l, r, h => by
    have ih := rdMany_enc l r (fun n hn => h n (by simp [hn]))
    simp only [List.length_cons, rdMany, labs, List.flatMap_cons, List.append_assoc]
    rw [rdNum_enc x _ (h x (by simp))]
    simp only [List.drop_left]
    simp only [labs] at ih
    rw [ih]
    simp [onto]
theorem byteNat (n : Nat) (h : n < 256) : (UInt8.ofNat n).toNat = n := byte_of n h
theorem blockB_lt {a : Nat} (h : blockB a = true) : a < 256 ∧ ¬ (a = 125 ∨ a = 124) := by
  simp [blockB] at h; omega
theorem form_range (n : Int) : Opc.form n = 0 ∨ Opc.form n = 1 ∨ Opc.form n = 2 ∨ Opc.form n = 3 ∨ Opc.form n = 4 ∨ Opc.form n = 5 ∨ Opc.form n = 6 ∨ Opc.form n = 7 ∨ Opc.form n = 8 ∨ Opc.form n = 9 := by
  unfold Opc.form
  (repeat' split) <;> simp
theorem rdF_enc (f : Int) (hf : f = 0 ∨ f = 1 ∨ f = 2 ∨ f = 3 ∨ f = 4 ∨ f = 5 ∨ f = 6 ∨ f = 7 ∨ f = 8 ∨ f = 9) (x : I) (hm : mayF f x = true) (hw : x.wf) (hl : x.l.length < 4294967296) (r : List UInt8) :
    rdF f x.op (tailF f x ++ r) = .ok (x, (tailF f x).length) := by
  obtain ⟨op, a, b, c, l⟩ := x
  obtain ⟨h1, h2, h3, h4, h5, h6⟩ := hw
  simp only at h1 h2 h3 h4 h5 h6 hl
  rcases hf with rfl | rfl | rfl | rfl | rfl | rfl | rfl | rfl | rfl | rfl <;> simp [mayF, hasA] at hm
  · obtain ⟨⟨⟨rfl, rfl⟩, rfl⟩, rfl⟩ := hm; simp [rdF, tailF]
  · obtain ⟨⟨⟨rfl, rfl⟩, rfl⟩, hb⟩ := hm
    obtain ⟨ha, hn⟩ := blockB_lt hb
    simp [rdF, tailF, rdBlock, rdByte, byteNat a ha, hn, hb]
  · obtain ⟨⟨rfl, rfl⟩, rfl⟩ := hm; simp [rdF, tailF, rdNum_enc a r h2]
  · obtain ⟨rfl, rfl⟩ := hm
    simp only [rdF, tailF, rdLabels, List.append_assoc]
    simp [rdNum_enc _ _ hl, rdMany_enc l _ h6, onto, rdNum_enc a r h2]
    omega
  · obtain ⟨⟨rfl, rfl⟩, rfl⟩ := hm; simp [rdF, tailF, rdNum_enc a r h2]
  · obtain ⟨⟨rfl, rfl⟩, rfl⟩ := hm; simp [rdF, tailF, rdNum_enc a _ h2, rdZero, rdByte]
  · obtain ⟨rfl, rfl⟩ := hm; simp [rdF, tailF, rdNum_enc a _ h2, rdNum_enc b _ h3]
  · obtain ⟨⟨⟨rfl, rfl⟩, rfl⟩, rfl⟩ := hm; simp [rdF, tailF, rdZero, rdByte]
  · obtain ⟨⟨⟨rfl, rfl⟩, rfl⟩, hc⟩ := hm; simp [rdF, tailF, rdConst_enc c r 32 h4 h5 (.inr ⟨rfl, hc⟩)]
  · obtain ⟨⟨rfl, rfl⟩, rfl⟩ := hm; simp [rdF, tailF, rdConst_enc c r 64 h4 h5 (.inl rfl)]
theorem known_float (n : Nat) (h : n < 256) (hk : Opc.known n = true) : Opc.float n = false := by
  have : ∀ n : Nat, n < 256 → Opc.known n = true → Opc.float n = false := by decide +kernel
  exact this n h hk
theorem rdInstr_enc (x : I) (hm : may x = true) (hw : x.wf) (hl : x.l.length < 4294967296) (r : List UInt8) : rdInstr (enc x ++ r) = .ok (x, (enc x).length) := by
  simp only [may, Bool.and_eq_true] at hm
  have h := rdF_enc _ (form_range x.op) x hm.2 hw hl r
  simp [rdInstr, enc, rdOp, rdByte, byteNat x.op hw.1, known_float x.op hw.1 hm.1, hm.1, h]
  omega
end Ins
