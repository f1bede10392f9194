/-
  Plain mathematics of instructions and expressions as bytes: what an instruction's bytes are, which instructions have some, what bytes begin with, and that each is the other's way back.
-/
import Derived.Test.YtknnkmakfcfnjaaDoorLebM
import Derived.Test.YtknnkmakfcfnjaaDoorOpcTab
namespace Ins
open Leb
/-- An instruction: its opcode and what it has. -/
structure I where
  op : Nat
  a : Nat
  b : Nat
  c : Int
  l : List Nat
deriving DecidableEq
def I.wf (x : I) : Prop := x.op < 256 ∧ x.a < 4294967296 ∧ x.b < 4294967296 ∧ -9223372036854775808 ≤ x.c ∧ x.c ≤ 9223372036854775807 ∧ ∀ n ∈ x.l, n < 4294967296
def blockB (a : Nat) : Bool := a == 64 || a == 127 || a == 126
def hasA (f : Int) : Bool := f == 1 || f == 2 || f == 3 || f == 4 || f == 5 || f == 6
def in32 (c : Int) : Bool := decide (-2147483648 ≤ c) && decide (c ≤ 2147483647)
/-- Whether an instruction of a form has what its form has, and no more. -/
def mayF (f : Int) (x : I) : Bool :=
  (x.a == 0 || hasA f) && (x.b == 0 || f == 6) && (x.c == 0 || (f == 8 || f == 9)) && (x.l.isEmpty || f == 3) && (f != 1 || blockB x.a) && (f != 8 || in32 x.c)
def may (x : I) : Bool := Opc.known x.op && mayF (Opc.form x.op) x
def labs (l : List Nat) : List UInt8 := l.flatMap encU
/-- What stands behind the opcode. -/
def tailF (f : Int) (x : I) : List UInt8 :=
  if f = 1 then [UInt8.ofNat x.a]
  else if f = 2 ∨ f = 4 then encU x.a
  else if f = 3 then encU x.l.length ++ labs x.l ++ encU x.a
  else if f = 5 then encU x.a ++ [0]
  else if f = 6 then encU x.a ++ encU x.b
  else if f = 7 then [0]
  else if f = 8 ∨ f = 9 then encS x.c
  else []
def enc (x : I) : List UInt8 := UInt8.ofNat x.op :: tailF (Opc.form x.op) x
def encAll (xs : List I) : List UInt8 := xs.flatMap enc
def exprEnc (xs : List I) : List UInt8 := encAll xs ++ [11]

/-- What bytes begin with. -/
def rdNum (l : List UInt8) : Except Nat (Nat × Nat) := if okU l 32 = true then .ok (used l, run l) else .error 60
def rdConst (l : List UInt8) (bits : Int) : Except Nat (Int × Nat) := if okS l bits = true then .ok (sused l, run l) else .error 60
def rdByte (l : List UInt8) : Except Nat (Nat × Nat) := match l with
  | [] => .error 60
  | x :: _ => .ok (x.toNat, 1)
def rdZero (l : List UInt8) : Except Nat Nat := match rdByte l with
  | .error e => .error e
  | .ok (x, k) => if x = 0 then .ok k else .error 60
def rdBlock (l : List UInt8) : Except Nat (Nat × Nat) := match rdByte l with
  | .error e => .error e
  | .ok (x, k) => if x = 125 ∨ x = 124 then .error 61 else if blockB x = true then .ok (x, k) else .error 60
def rdOp (l : List UInt8) : Except Nat (Nat × Nat) := match rdByte l with
  | .error e => .error e
  | .ok (x, k) => if Opc.float x = true then .error 61 else if Opc.known x = true then .ok (x, k) else .error 60
def onto {α : Type} (xs : List α) (k : Nat) (r : Except Nat (List α × Nat)) : Except Nat (List α × Nat) := match r with
  | .error e => .error e
  | .ok (ys, m) => .ok (xs ++ ys, k + m)
def rdMany : Nat → List UInt8 → Except Nat (List Nat × Nat)
  | 0, _ => .ok ([], 0)
  | n + 1, l => match rdNum l with
    | .error e => .error e
    | .ok (x, k) => onto [x] k (rdMany n (l.drop k))
def rdLabels (l : List UInt8) : Except Nat (List Nat × Nat) := match rdNum l with
  | .error e => .error e
  | .ok (n, k) => onto [] k (rdMany n (l.drop k))
/-- What an instruction has, by its form: of the bytes behind its opcode. -/
def rdF (f : Int) (op : Nat) (l : List UInt8) : Except Nat (I × Nat) :=
  if f = 1 then match rdBlock l with
    | .error e => .error e
    | .ok (a, k) => .ok (⟨op, a, 0, 0, []⟩, k)
  else if f = 2 ∨ f = 4 then match rdNum l with
    | .error e => .error e
    | .ok (a, k) => .ok (⟨op, a, 0, 0, []⟩, k)
  else if f = 3 then match rdLabels l with
    | .error e => .error e
    | .ok (xs, k) => match rdNum (l.drop k) with
      | .error e => .error e
      | .ok (a, m) => .ok (⟨op, a, 0, 0, xs⟩, k + m)
  else if f = 5 then match rdNum l with
    | .error e => .error e
    | .ok (a, k) => match rdZero (l.drop k) with
      | .error e => .error e
      | .ok m => .ok (⟨op, a, 0, 0, []⟩, k + m)
  else if f = 6 then match rdNum l with
    | .error e => .error e
    | .ok (a, k) => match rdNum (l.drop k) with
      | .error e => .error e
      | .ok (b, m) => .ok (⟨op, a, b, 0, []⟩, k + m)
  else if f = 7 then match rdZero l with
    | .error e => .error e
    | .ok k => .ok (⟨op, 0, 0, 0, []⟩, k)
  else if f = 8 then match rdConst l 32 with
    | .error e => .error e
    | .ok (c, k) => .ok (⟨op, 0, 0, c, []⟩, k)
  else if f = 9 then match rdConst l 64 with
    | .error e => .error e
    | .ok (c, k) => .ok (⟨op, 0, 0, c, []⟩, k)
  else .ok (⟨op, 0, 0, 0, []⟩, 0)
def rdInstr (l : List UInt8) : Except Nat (I × Nat) := match rdOp l with
  | .error e => .error e
  | .ok (op, k) => match rdF (Opc.form op) op (l.drop k) with
    | .error e => .error e
    | .ok (x, m) => .ok (x, k + m)
/-- Which blocks are open behind an instruction, the innermost last; of each, whether an else may stand in it. -/
def step (o : List Bool) (op : Nat) : Option (List Bool) :=
  if op = 2 ∨ op = 3 then some (o ++ [false])
  else if op = 4 then some (o ++ [true])
  else if op = 5 then (if o.getLast? = some true then some (o.dropLast ++ [false]) else none)
  else if op = 11 then (if o = [] then none else some o.dropLast)
  else some o
def steps : List Bool → List I → Option (List Bool)
  | o, [] => some o
  | o, x :: xs => match step o x.op with
    | none => none
    | some o' => steps o' xs
def rdExpr : Nat → List Bool → List UInt8 → Except Nat (List I × Nat)
  | 0, _, _ => .error 60
  | n + 1, o, l => match rdInstr l with
    | .error e => .error e
    | .ok (x, k) => if x.op = 11 ∧ o = [] then .ok ([], k) else match step o x.op with
      | none => .error 60
      | some o' => onto [x] k (rdExpr n o' (l.drop k))
/-- Whether instructions are an expression's. -/
def exprB (xs : List I) : Bool := xs.all may && (steps [] xs == some [])

/- The one's way back is the other. -/
theorem okU_enc (n : Nat) (r : List UInt8) (h : n < 4294967296) : okU (encU n ++ r) 32 = true := by
  rw [okU_encU n r 32 (by omega) (by decide) (by decide)]
  have := (bitLen_iff n 32 (by omega) (by decide)).2 (by omega)
  exact decide_eq_true (by omega)
theorem okS_enc (c : Int) (r : List UInt8) (bits : Int) (h0 : -9223372036854775808 ≤ c) (h1 : c ≤ 9223372036854775807) (h : bits = 64 ∨ bits = 32 ∧ in32 c = true) : okS (encS c ++ r) bits = true := by
  rcases h with rfl | ⟨rfl, h⟩
  · rw [okS_encS c r 64 h0 h1 (by decide) (by decide)]
    have h2 := mag_lt c h0 h1
    have := (bitLen_iff (mag c) 63 (by omega) (by decide)).2 (by omega)
    exact decide_eq_true (by omega)
  · simp only [in32, Bool.and_eq_true, decide_eq_true_eq] at h
    rw [okS_encS c r 32 h0 h1 (by decide) (by decide)]
    have h2 : mag c < 2 ^ 31 := (mag_iff c 31).2 (by omega)
    have := (bitLen_iff (mag c) 31 (by omega) (by decide)).2 h2
    exact decide_eq_true (by omega)
theorem rdNum_enc (n : Nat) (r : List UInt8) (h : n < 4294967296) : rdNum (encU n ++ r) = .ok (n, (encU n).length) := by
  unfold rdNum; rw [if_pos (okU_enc n r h), used_encU, run_encU]
theorem rdConst_enc (c : Int) (r : List UInt8) (bits : Int) (h0 : -9223372036854775808 ≤ c) (h1 : c ≤ 9223372036854775807) (h : bits = 64 ∨ bits = 32 ∧ in32 c = true) : rdConst (encS c ++ r) bits = .ok (c, (encS c).length) := by
  unfold rdConst; rw [if_pos (okS_enc c r bits h0 h1 h), sused_encS, run_encS]
theorem rdMany_enc : ∀ (l : List Nat) (r : List UInt8), (∀ n ∈ l, n < 4294967296) → rdMany l.length (labs l ++ r) = .ok (l, (labs l).length)
  | [], r, _ => by simp [rdMany, labs]
  | x :: l, r, h => by
    have ih := rdMany_enc l r (fun n hn => h n (by simp [hn]))
    simp only [List.length_cons, rdMany, labs, List.flatMap_cons, List.append_assoc]
    rw [rdNum_enc x _ (h x (by simp))]
    simp only [List.drop_left]
    simp only [labs] at ih
    rw [ih]
    simp [onto]
theorem byteNat (n : Nat) (h : n < 256) : (UInt8.ofNat n).toNat = n := byte_of n h
theorem blockB_lt {a : Nat} (h : blockB a = true) : a < 256 ∧ ¬ (a = 125 ∨ a = 124) := by
  simp [blockB] at h; omega
theorem form_range (n : Int) : Opc.form n = 0 ∨ Opc.form n = 1 ∨ Opc.form n = 2 ∨ Opc.form n = 3 ∨ Opc.form n = 4 ∨ Opc.form n = 5 ∨ Opc.form n = 6 ∨ Opc.form n = 7 ∨ Opc.form n = 8 ∨ Opc.form n = 9 := by
  unfold Opc.form
  (repeat' split) <;> simp
theorem rdF_enc (f : Int) (hf : f = 0 ∨ f = 1 ∨ f = 2 ∨ f = 3 ∨ f = 4 ∨ f = 5 ∨ f = 6 ∨ f = 7 ∨ f = 8 ∨ f = 9) (x : I) (hm : mayF f x = true) (hw : x.wf) (hl : x.l.length < 4294967296) (r : List UInt8) :
    rdF f x.op (tailF f x ++ r) = .ok (x, (tailF f x).length) := by
  obtain ⟨op, a, b, c, l⟩ := x
  obtain ⟨h1, h2, h3, h4, h5, h6⟩ := hw
  simp only at h1 h2 h3 h4 h5 h6 hl
  rcases hf with rfl | rfl | rfl | rfl | rfl | rfl | rfl | rfl | rfl | rfl <;> simp [mayF, hasA] at hm
  · obtain ⟨⟨⟨rfl, rfl⟩, rfl⟩, rfl⟩ := hm; simp [rdF, tailF]
  · obtain ⟨⟨⟨rfl, rfl⟩, rfl⟩, hb⟩ := hm
    obtain ⟨ha, hn⟩ := blockB_lt hb
    simp [rdF, tailF, rdBlock, rdByte, byteNat a ha, hn, hb]
  · obtain ⟨⟨rfl, rfl⟩, rfl⟩ := hm; simp [rdF, tailF, rdNum_enc a r h2]
  · obtain ⟨rfl, rfl⟩ := hm
    simp only [rdF, tailF, rdLabels, List.append_assoc]
    simp [rdNum_enc _ _ hl, rdMany_enc l _ h6, onto, rdNum_enc a r h2]
    omega
  · obtain ⟨⟨rfl, rfl⟩, rfl⟩ := hm; simp [rdF, tailF, rdNum_enc a r h2]
  · obtain ⟨⟨rfl, rfl⟩, rfl⟩ := hm; simp [rdF, tailF, rdNum_enc a _ h2, rdZero, rdByte]
  · obtain ⟨rfl, rfl⟩ := hm; simp [rdF, tailF, rdNum_enc a _ h2, rdNum_enc b _ h3]
  · obtain ⟨⟨⟨rfl, rfl⟩, rfl⟩, rfl⟩ := hm; simp [rdF, tailF, rdZero, rdByte]
  · obtain ⟨⟨⟨rfl, rfl⟩, rfl⟩, hc⟩ := hm; simp [rdF, tailF, rdConst_enc c r 32 h4 h5 (.inr ⟨rfl, hc⟩)]
  · obtain ⟨⟨rfl, rfl⟩, rfl⟩ := hm; simp [rdF, tailF, rdConst_enc c r 64 h4 h5 (.inl rfl)]
theorem known_float (n : Nat) (h : n < 256) (hk : Opc.known n = true) : Opc.float n = false := by
  have : ∀ n : Nat, n < 256 → Opc.known n = true → Opc.float n = false := by decide +kernel
  exact this n h hk
theorem rdInstr_enc (x : I) (hm : may x = true) (hw : x.wf) (hl : x.l.length < 4294967296) (r : List UInt8) : rdInstr (enc x ++ r) = .ok (x, (enc x).length) := by
  simp only [may, Bool.and_eq_true] at hm
  have h := rdF_enc _ (form_range x.op) x hm.2 hw hl r
  simp [rdInstr, enc, rdOp, rdByte, byteNat x.op hw.1, known_float x.op hw.1 hm.1, hm.1, h]
  omega
end Ins
/-
  Plain mathematics of instructions and expressions as bytes: what was read may be written, and is no longer then; expressions there and back; a beginning of an expression's bytes is none.
-/
namespace Ins
open Leb
theorem okU_60 {l : List UInt8} (h : okU l 32 = true) : used l < 4294967296 ∧ 1 ≤ run l ∧ run l ≤ l.length ∧ (encU (used l)).length ≤ run l := by
  have h1 := (okU_run1 h).1
  refine ⟨?_, h1, run_le l, shortU h1⟩
  unfold okU at h
  rw [decide_eq_true_iff] at h
  have h5 := h.2.2.2.2
  have e : ((2 : Int) ^ (32 : Int).toNat) = 4294967296 := by decide
  rw [e] at h5
  omega
theorem rdNum_ok {l : List UInt8} {n k : Nat} (h : rdNum l = .ok (n, k)) : n < 4294967296 ∧ 1 ≤ k ∧ k ≤ l.length ∧ (encU n).length ≤ k := by
  unfold rdNum at h
  split at h
  · next h1 => simp only [Except.ok.injEq, Prod.mk.injEq] at h; obtain ⟨rfl, rfl⟩ := h; exact okU_60 h1
  · cases h
theorem rdNum_err {l : List UInt8} {e : Nat} (h : rdNum l = .error e) : e = 60 := by
  unfold rdNum at h
  split at h
  · cases h
  · simp only [Except.error.injEq] at h; exact h.symm
theorem rdConst_ok {l : List UInt8} {bits c : Int} {k : Nat} (h : rdConst l bits = .ok (c, k)) : -9223372036854775808 ≤ c ∧ c ≤ 9223372036854775807 ∧ (bits = 32 → in32 c = true) ∧ 1 ≤ k ∧ k ≤ l.length ∧ (encS c).length ≤ k := by
  unfold rdConst at h
  split at h
  · next h1 =>
    simp only [Except.ok.injEq, Prod.mk.injEq] at h; obtain ⟨rfl, rfl⟩ := h
    have h2 := (okS_run1 h1).1
    obtain ⟨h3, h4⟩ := sused_lt h1
    refine ⟨h3, h4, fun hb => ?_, h2, run_le l, shortS h2⟩
    subst hb
    unfold okS at h1
    rw [decide_eq_true_iff] at h1
    have e : ((2 : Int) ^ ((32 : Int) - 1).toNat) = 2147483648 := by decide
    rw [e] at h1
    simp only [in32, Bool.and_eq_true, decide_eq_true_eq]
    omega
  · cases h
theorem rdConst_err {l : List UInt8} {bits : Int} {e : Nat} (h : rdConst l bits = .error e) : e = 60 := by
  unfold rdConst at h
  split at h
  · cases h
  · simp only [Except.error.injEq] at h; exact h.symm
theorem rdByte_ok {l : List UInt8} {n k : Nat} (h : rdByte l = .ok (n, k)) : n < 256 ∧ k = 1 ∧ 1 ≤ l.length := by
  unfold rdByte at h
  split at h
  · cases h
  · next x r => simp only [Except.ok.injEq, Prod.mk.injEq] at h; obtain ⟨rfl, rfl⟩ := h; exact ⟨x.toNat_lt, rfl, by simp⟩
theorem rdByte_err {l : List UInt8} {e : Nat} (h : rdByte l = .error e) : e = 60 ∧ l = [] := by
  unfold rdByte at h
  split at h
  · simp only [Except.error.injEq] at h; exact ⟨h.symm, rfl⟩
  · cases h
theorem rdMany_ok : ∀ (n : Nat) (l : List UInt8) (xs : List Nat) (k : Nat), rdMany n l = .ok (xs, k) → xs.length = n ∧ (∀ x ∈ xs, x < 4294967296) ∧ k ≤ l.length ∧ (labs xs).length ≤ k
  | 0, l, xs, k, h => by simp only [rdMany, Except.ok.injEq, Prod.mk.injEq] at h; obtain ⟨rfl, rfl⟩ := h; simp [labs]
  | n + 1, l, xs, k, h => by
    simp only [rdMany] at h
    cases h1 : rdNum l with
    | error e => rw [h1] at h; cases h
    | ok p =>
      obtain ⟨x, k1⟩ := p
      rw [h1] at h
      obtain ⟨a1, a2, a3, a4⟩ := rdNum_ok h1
      cases h2 : rdMany n (l.drop k1) with
      | error e => simp only [h2, onto] at h; cases h
      | ok q =>
        obtain ⟨ys, k2⟩ := q
        simp only [h2, onto, Except.ok.injEq, Prod.mk.injEq] at h
        obtain ⟨rfl, rfl⟩ := h
        obtain ⟨b1, b2, b3, b4⟩ := rdMany_ok n _ ys k2 h2
        rw [List.length_drop] at b3
        refine ⟨by simp [b1], fun y hy => ?_, by omega, ?_⟩
        · rcases List.mem_append.1 hy with hy | hy
          · simp at hy; subst hy; exact a1
          · exact b2 y hy
        · simp only [labs, List.flatMap_append, List.length_append, List.flatMap_cons, List.flatMap_nil, List.append_nil] at b4 ⊢; omega
theorem rdMany_err : ∀ (n : Nat) (l : List UInt8) (e : Nat), rdMany n l = .error e → e = 60
  | 0, l, e, h => by simp [rdMany] at h
  | n + 1, l, e, h => by
    simp only [rdMany] at h
    cases h1 : rdNum l with
    | error e' => rw [h1] at h; simp only [Except.error.injEq] at h; subst h; exact rdNum_err h1
    | ok p =>
      obtain ⟨x, k1⟩ := p
      rw [h1] at h
      cases h2 : rdMany n (l.drop k1) with
      | error e' => simp only [h2, onto, Except.error.injEq] at h; subst h; exact rdMany_err n _ _ h2
      | ok q => simp only [h2, onto] at h; cases h
theorem rdLabels_ok {l : List UInt8} {xs : List Nat} {k : Nat} (h : rdLabels l = .ok (xs, k)) : xs.length < 4294967296 ∧ (∀ x ∈ xs, x < 4294967296) ∧ k ≤ l.length ∧ (encU xs.length).length + (labs xs).length ≤ k := by
  unfold rdLabels at h
  cases h1 : rdNum l with
  | error e => rw [h1] at h; cases h
  | ok p =>
    obtain ⟨n, k1⟩ := p
    rw [h1] at h
    obtain ⟨a1, a2, a3, a4⟩ := rdNum_ok h1
    cases h2 : rdMany n (l.drop k1) with
    | error e => simp only [h2, onto] at h; cases h
    | ok q =>
      obtain ⟨ys, k2⟩ := q
      simp only [h2, onto, Except.ok.injEq, Prod.mk.injEq, List.nil_append] at h
      obtain ⟨rfl, rfl⟩ := h
      obtain ⟨b1, b2, b3, b4⟩ := rdMany_ok n _ ys k2 h2
      rw [List.length_drop] at b3
      subst b1
      exact ⟨a1, b2, by omega, by omega⟩
theorem rdLabels_err {l : List UInt8} {e : Nat} (h : rdLabels l = .error e) : e = 60 := by
  unfold rdLabels at h
  cases h1 : rdNum l with
  | error e' => rw [h1] at h; simp only [Except.error.injEq] at h; subst h; exact rdNum_err h1
  | ok p =>
    obtain ⟨n, k1⟩ := p
    rw [h1] at h
    cases h2 : rdMany n (l.drop k1) with
    | error e' => simp only [h2, onto, Except.error.injEq] at h; subst h; exact rdMany_err n _ _ h2
    | ok q => simp only [h2, onto] at h; cases h
theorem rdZero_ok {l : List UInt8} {k : Nat} (h : rdZero l = .ok k) : k = 1 ∧ 1 ≤ l.length := by
  unfold rdZero at h
  cases h1 : rdByte l with
  | error e => rw [h1] at h; cases h
  | ok p =>
    obtain ⟨x, k1⟩ := p
    rw [h1] at h
    simp only at h
    split at h
    · simp only [Except.ok.injEq] at h; subst h; exact (rdByte_ok h1).2
    · cases h
theorem rdZero_err {l : List UInt8} {e : Nat} (h : rdZero l = .error e) : e = 60 := by
  unfold rdZero at h
  cases h1 : rdByte l with
  | error e' => rw [h1] at h; simp only [Except.error.injEq] at h; subst h; exact (rdByte_err h1).1
  | ok p =>
    obtain ⟨x, k1⟩ := p
    rw [h1] at h
    simp only at h
    split at h
    · cases h
    · simp only [Except.error.injEq] at h; exact h.symm
theorem rdBlock_ok {l : List UInt8} {a k : Nat} (h : rdBlock l = .ok (a, k)) : blockB a = true ∧ a < 256 ∧ k = 1 ∧ 1 ≤ l.length := by
  unfold rdBlock at h
  cases h1 : rdByte l with
  | error e => rw [h1] at h; cases h
  | ok p =>
    obtain ⟨x, k1⟩ := p
    rw [h1] at h
    simp only at h
    split at h
    · cases h
    · split at h
      · next h2 => simp only [Except.ok.injEq, Prod.mk.injEq] at h; obtain ⟨rfl, rfl⟩ := h; exact ⟨h2, (rdByte_ok h1).1, (rdByte_ok h1).2⟩
      · cases h
theorem rdBlock_err {l : List UInt8} {e : Nat} (h : rdBlock l = .error e) : e = 60 ∨ e = 61 := by
  unfold rdBlock at h
  cases h1 : rdByte l with
  | error e' => rw [h1] at h; simp only [Except.error.injEq] at h; subst h; exact .inl (rdByte_err h1).1
  | ok p =>
    obtain ⟨x, k1⟩ := p
    rw [h1] at h
    simp only at h
    split at h
    · simp only [Except.error.injEq] at h; exact .inr h.symm
    · split at h
      · cases h
      · simp only [Except.error.injEq] at h; exact .inl h.symm
theorem rdOp_ok {l : List UInt8} {op k : Nat} (h : rdOp l = .ok (op, k)) : Opc.known op = true ∧ op < 256 ∧ k = 1 ∧ 1 ≤ l.length := by
  unfold rdOp at h
  cases h1 : rdByte l with
  | error e => rw [h1] at h; cases h
  | ok p =>
    obtain ⟨x, k1⟩ := p
    rw [h1] at h
    simp only at h
    split at h
    · cases h
    · split at h
      · next h2 => simp only [Except.ok.injEq, Prod.mk.injEq] at h; obtain ⟨rfl, rfl⟩ := h; exact ⟨h2, (rdByte_ok h1).1, (rdByte_ok h1).2⟩
      · cases h
theorem rdOp_err {l : List UInt8} {e : Nat} (h : rdOp l = .error e) : e = 60 ∨ e = 61 := by
  unfold rdOp at h
  cases h1 : rdByte l with
  | error e' => rw [h1] at h; simp only [Except.error.injEq] at h; subst h; exact .inl (rdByte_err h1).1
  | ok p =>
    obtain ⟨x, k1⟩ := p
    rw [h1] at h
    simp only at h
    split at h
    · simp only [Except.error.injEq] at h; exact .inr h.symm
    · split at h
      · cases h
      · simp only [Except.error.injEq] at h; exact .inl h.symm
/-- What was read has its form's parts, may be, and is no longer when written. -/
theorem rdF_ok (f : Int) (hf : f = 0 ∨ f = 1 ∨ f = 2 ∨ f = 3 ∨ f = 4 ∨ f = 5 ∨ f = 6 ∨ f = 7 ∨ f = 8 ∨ f = 9) {op : Nat} (ho : op < 256) {l : List UInt8} {x : I} {k : Nat} (h : rdF f op l = .ok (x, k)) :
    x.op = op ∧ mayF f x = true ∧ x.wf ∧ x.l.length < 4294967296 ∧ k ≤ l.length ∧ (tailF f x).length ≤ k := by
  rcases hf with rfl | rfl | rfl | rfl | rfl | rfl | rfl | rfl | rfl | rfl
  · simp [rdF] at h; obtain ⟨rfl, rfl⟩ := h; simp [mayF, tailF, I.wf, ho]
  · simp only [rdF, if_true] at h
    cases h1 : rdBlock l with
    | error e => rw [h1] at h; cases h
    | ok p =>
      obtain ⟨a, k1⟩ := p
      rw [h1] at h
      simp only [Except.ok.injEq, Prod.mk.injEq] at h
      obtain ⟨rfl, rfl⟩ := h
      obtain ⟨a1, a2, a3, a4⟩ := rdBlock_ok h1
      refine ⟨rfl, by simp [mayF, hasA, a1], ⟨ho, by simp only; omega, by simp, by simp, by simp, by simp⟩, by simp, by omega, by simp [tailF]; omega⟩
  · simp only [rdF, if_true, Int.reduceEq, if_false, true_or] at h
    cases h1 : rdNum l with
    | error e => rw [h1] at h; cases h
    | ok p =>
      obtain ⟨a, k1⟩ := p
      rw [h1] at h
      simp only [Except.ok.injEq, Prod.mk.injEq] at h
      obtain ⟨rfl, rfl⟩ := h
      obtain ⟨a1, a2, a3, a4⟩ := rdNum_ok h1
      exact ⟨rfl, by simp [mayF, hasA], ⟨ho, a1, by simp, by simp, by simp, by simp⟩, by simp, a3, by simpa [tailF] using a4⟩
  · simp only [rdF, if_true, Int.reduceEq, if_false, or_self] at h
    cases h1 : rdLabels l with
    | error e => rw [h1] at h; cases h
    | ok p =>
      obtain ⟨xs, k1⟩ := p
      rw [h1] at h
      simp only at h
      cases h2 : rdNum (l.drop k1) with
      | error e => rw [h2] at h; cases h
      | ok q =>
        obtain ⟨a, k2⟩ := q
        rw [h2] at h
        simp only [Except.ok.injEq, Prod.mk.injEq] at h
        obtain ⟨rfl, rfl⟩ := h
        obtain ⟨a1, a2, a3, a4⟩ := rdLabels_ok h1
        obtain ⟨b1, b2, b3, b4⟩ := rdNum_ok h2
        rw [List.length_drop] at b3
        exact ⟨rfl, by simp [mayF, hasA], ⟨ho, b1, by simp, by simp, by simp, a2⟩, a1, by omega, by simp [tailF]; omega⟩
  · simp only [rdF, if_true, Int.reduceEq, if_false, or_true] at h
    cases h1 : rdNum l with
    | error e => rw [h1] at h; cases h
    | ok p =>
      obtain ⟨a, k1⟩ := p
      rw [h1] at h
      simp only [Except.ok.injEq, Prod.mk.injEq] at h
      obtain ⟨rfl, rfl⟩ := h
      obtain ⟨a1, a2, a3, a4⟩ := rdNum_ok h1
      exact ⟨rfl, by simp [mayF, hasA], ⟨ho, a1, by simp, by simp, by simp, by simp⟩, by simp, a3, by simpa [tailF] using a4⟩
  · simp only [rdF, if_true, Int.reduceEq, if_false, or_self] at h
    cases h1 : rdNum l with
    | error e => rw [h1] at h; cases h
    | ok p =>
      obtain ⟨a, k1⟩ := p
      rw [h1] at h
      simp only at h
      cases h2 : rdZero (l.drop k1) with
      | error e => rw [h2] at h; cases h
      | ok k2 =>
        rw [h2] at h
        simp only [Except.ok.injEq, Prod.mk.injEq] at h
        obtain ⟨rfl, rfl⟩ := h
        obtain ⟨a1, a2, a3, a4⟩ := rdNum_ok h1
        obtain ⟨b1, b2⟩ := rdZero_ok h2
        rw [List.length_drop] at b2
        exact ⟨rfl, by simp [mayF, hasA], ⟨ho, a1, by simp, by simp, by simp, by simp⟩, by simp, by omega, by simp [tailF]; omega⟩
  · simp only [rdF, if_true, Int.reduceEq, if_false, or_self] at h
    cases h1 : rdNum l with
    | error e => rw [h1] at h; cases h
    | ok p =>
      obtain ⟨a, k1⟩ := p
      rw [h1] at h
      simp only at h
      cases h2 : rdNum (l.drop k1) with
      | error e => rw [h2] at h; cases h
      | ok q =>
        obtain ⟨b, k2⟩ := q
        rw [h2] at h
        simp only [Except.ok.injEq, Prod.mk.injEq] at h
        obtain ⟨rfl, rfl⟩ := h
        obtain ⟨a1, a2, a3, a4⟩ := rdNum_ok h1
        obtain ⟨b1, b2, b3, b4⟩ := rdNum_ok h2
        rw [List.length_drop] at b3
        exact ⟨rfl, by simp [mayF, hasA], ⟨ho, a1, b1, by simp, by simp, by simp⟩, by simp, by omega, by simp [tailF]; omega⟩
  · simp only [rdF, if_true, Int.reduceEq, if_false, or_self] at h
    cases h1 : rdZero l with
    | error e => rw [h1] at h; cases h
    | ok k1 =>
      rw [h1] at h
      simp only [Except.ok.injEq, Prod.mk.injEq] at h
      obtain ⟨rfl, rfl⟩ := h
      obtain ⟨b1, b2⟩ := rdZero_ok h1
      exact ⟨rfl, by simp [mayF], ⟨ho, by simp, by simp, by simp, by simp, by simp⟩, by simp, by omega, by simp [tailF]; omega⟩
  · simp only [rdF, if_true, Int.reduceEq, if_false, or_self] at h
    cases h1 : rdConst l 32 with
    | error e => rw [h1] at h; cases h
    | ok p =>
      obtain ⟨c, k1⟩ := p
      rw [h1] at h
      simp only [Except.ok.injEq, Prod.mk.injEq] at h
      obtain ⟨rfl, rfl⟩ := h
      obtain ⟨a1, a2, a3, a4, a5, a6⟩ := rdConst_ok h1
      exact ⟨rfl, by simp [mayF, a3 rfl], ⟨ho, by simp, by simp, a1, a2, by simp⟩, by simp, by omega, by simpa [tailF] using a6⟩
  · simp only [rdF, if_true, Int.reduceEq, if_false, or_self] at h
    cases h1 : rdConst l 64 with
    | error e => rw [h1] at h; cases h
    | ok p =>
      obtain ⟨c, k1⟩ := p
      rw [h1] at h
      simp only [Except.ok.injEq, Prod.mk.injEq] at h
      obtain ⟨rfl, rfl⟩ := h
      obtain ⟨a1, a2, a3, a4, a5, a6⟩ := rdConst_ok h1
      exact ⟨rfl, by simp [mayF], ⟨ho, by simp, by simp, a1, a2, by simp⟩, by simp, by omega, by simpa [tailF] using a6⟩
theorem rdF_err (f : Int) {op : Nat} {l : List UInt8} {e : Nat} (h : rdF f op l = .error e) : e = 60 ∨ e = 61 := by
  unfold rdF at h
  split at h
  · cases h1 : rdBlock l with
    | error e' => rw [h1] at h; simp only [Except.error.injEq] at h; subst h; exact rdBlock_err h1
    | ok p => rw [h1] at h; cases h
  split at h
  · cases h1 : rdNum l with
    | error e' => rw [h1] at h; simp only [Except.error.injEq] at h; subst h; exact .inl (rdNum_err h1)
    | ok p => rw [h1] at h; cases h
  split at h
  · cases h1 : rdLabels l with
    | error e' => rw [h1] at h; simp only [Except.error.injEq] at h; subst h; exact .inl (rdLabels_err h1)
    | ok p =>
      rw [h1] at h; simp only at h
      cases h2 : rdNum (l.drop p.2) with
      | error e' => rw [h2] at h; simp only [Except.error.injEq] at h; subst h; exact .inl (rdNum_err h2)
      | ok q => rw [h2] at h; cases h
  split at h
  · cases h1 : rdNum l with
    | error e' => rw [h1] at h; simp only [Except.error.injEq] at h; subst h; exact .inl (rdNum_err h1)
    | ok p =>
      rw [h1] at h; simp only at h
      cases h2 : rdZero (l.drop p.2) with
      | error e' => rw [h2] at h; simp only [Except.error.injEq] at h; subst h; exact .inl (rdZero_err h2)
      | ok q => rw [h2] at h; cases h
  split at h
  · cases h1 : rdNum l with
    | error e' => rw [h1] at h; simp only [Except.error.injEq] at h; subst h; exact .inl (rdNum_err h1)
    | ok p =>
      rw [h1] at h; simp only at h
      cases h2 : rdNum (l.drop p.2) with
      | error e' => rw [h2] at h; simp only [Except.error.injEq] at h; subst h; exact .inl (rdNum_err h2)
      | ok q => rw [h2] at h; cases h
  split at h
  · cases h1 : rdZero l with
    | error e' => rw [h1] at h; simp only [Except.error.injEq] at h; subst h; exact .inl (rdZero_err h1)
    | ok p => rw [h1] at h; cases h
  split at h
  · cases h1 : rdConst l 32 with
    | error e' => rw [h1] at h; simp only [Except.error.injEq] at h; subst h; exact .inl (rdConst_err h1)
    | ok p => rw [h1] at h; cases h
  split at h
  · cases h1 : rdConst l 64 with
    | error e' => rw [h1] at h; simp only [Except.error.injEq] at h; subst h; exact .inl (rdConst_err h1)
    | ok p => rw [h1] at h; cases h
  · cases h
theorem rdInstr_ok {l : List UInt8} {x : I} {k : Nat} (h : rdInstr l = .ok (x, k)) : may x = true ∧ x.wf ∧ x.l.length < 4294967296 ∧ 1 ≤ k ∧ k ≤ l.length ∧ (enc x).length ≤ k := by
  unfold rdInstr at h
  cases h1 : rdOp l with
  | error e => rw [h1] at h; cases h
  | ok p =>
    obtain ⟨op, k1⟩ := p
    rw [h1] at h
    simp only at h
    obtain ⟨a1, a2, a3, a4⟩ := rdOp_ok h1
    cases h2 : rdF (Opc.form op) op (l.drop k1) with
    | error e => rw [h2] at h; cases h
    | ok q =>
      obtain ⟨y, k2⟩ := q
      rw [h2] at h
      simp only [Except.ok.injEq, Prod.mk.injEq] at h
      obtain ⟨rfl, rfl⟩ := h
      obtain ⟨b1, b2, b3, b4, b5, b6⟩ := rdF_ok _ (form_range op) a2 h2
      rw [List.length_drop] at b5
      refine ⟨by simp [may, b1, a1, b2], b3, b4, by omega, by omega, ?_⟩
      simp [enc, b1]; omega
theorem rdInstr_err {l : List UInt8} {e : Nat} (h : rdInstr l = .error e) : e = 60 ∨ e = 61 := by
  unfold rdInstr at h
  cases h1 : rdOp l with
  | error e' => rw [h1] at h; simp only [Except.error.injEq] at h; subst h; exact rdOp_err h1
  | ok p =>
    rw [h1] at h; simp only at h
    cases h2 : rdF (Opc.form p.1) p.1 (l.drop p.2) with
    | error e' => rw [h2] at h; simp only [Except.error.injEq] at h; subst h; exact rdF_err _ h2
    | ok q => rw [h2] at h; cases h
theorem rdExpr_err : ∀ (n : Nat) (o : List Bool) (l : List UInt8) (e : Nat), rdExpr n o l = .error e → e = 60 ∨ e = 61
  | 0, o, l, e, h => by simp only [rdExpr, Except.error.injEq] at h; exact .inl h.symm
  | n + 1, o, l, e, h => by
    simp only [rdExpr] at h
    cases h1 : rdInstr l with
    | error e' => rw [h1] at h; simp only [Except.error.injEq] at h; subst h; exact rdInstr_err h1
    | ok p =>
      obtain ⟨x, k⟩ := p
      rw [h1] at h; simp only at h
      split at h
      · cases h
      · cases h2 : step o x.op with
        | none => rw [h2] at h; simp only [Except.error.injEq] at h; exact .inl h.symm
        | some o' =>
          rw [h2] at h; simp only at h
          cases h3 : rdExpr n o' (l.drop k) with
          | error e' => rw [h3] at h; simp only [onto, Except.error.injEq] at h; subst h; exact rdExpr_err n _ _ _ h3
          | ok q => rw [h3] at h; simp only [onto] at h; cases h
/-- An expression's bytes are taken as they were put. -/
theorem rdExpr_enc : ∀ (xs : List I) (o : List Bool) (n : Nat) (r : List UInt8), xs.all may = true → (∀ x ∈ xs, x.wf ∧ x.l.length < 4294967296) → steps o xs = some [] → xs.length < n → rdExpr n o (exprEnc xs ++ r) = .ok (xs, (exprEnc xs).length)
  | [], o, 0, r, _, _, _, h => by omega
  | x :: xs, o, 0, r, _, _, _, h => by omega
  | [], o, n + 1, r, _, _, hs, _ => by
    simp only [steps, Option.some.injEq] at hs
    subst hs
    have hm : may ⟨11, 0, 0, 0, []⟩ = true := by decide
    have h := rdInstr_enc ⟨11, 0, 0, 0, []⟩ hm ⟨by decide, by decide, by decide, by decide, by decide, by simp⟩ (by decide) r
    have e : enc ⟨11, 0, 0, 0, []⟩ = [11] := by decide
    rw [e] at h
    simp only [rdExpr, exprEnc, encAll, List.flatMap_nil, List.nil_append]
    rw [h]
    simp
  | x :: xs, o, n + 1, r, hm, hw, hs, hn => by
    simp only [List.all_cons, Bool.and_eq_true] at hm
    have hx := hw x (by simp)
    simp only [steps] at hs
    cases h2 : step o x.op with
    | none => rw [h2] at hs; cases hs
    | some o' =>
      rw [h2] at hs
      simp only at hs
      have ih := rdExpr_enc xs o' n r hm.2 (fun y hy => hw y (by simp [hy])) hs (by simp at hn; omega)
      have hi := rdInstr_enc x hm.1 hx.1 hx.2 (exprEnc xs ++ r)
      have e : exprEnc (x :: xs) ++ r = enc x ++ (exprEnc xs ++ r) := by simp [exprEnc, encAll]
      have hne : ¬ (x.op = 11 ∧ o = []) := by
        rintro ⟨h3, rfl⟩
        rw [h3] at h2
        simp [step] at h2
      simp only [rdExpr]
      rw [e, hi]
      simp only [if_neg hne, h2, List.drop_left]
      rw [ih]
      simp [onto, exprEnc, encAll]
/-- What was taken is an expression's, and is no longer when put. -/
theorem rdExpr_ok : ∀ (n : Nat) (o : List Bool) (l : List UInt8) (xs : List I) (k : Nat), rdExpr n o l = .ok (xs, k) → xs.all may = true ∧ (∀ x ∈ xs, x.wf ∧ x.l.length < 4294967296) ∧ steps o xs = some [] ∧ k ≤ l.length ∧ (exprEnc xs).length ≤ k
  | 0, o, l, xs, k, h => by simp [rdExpr] at h
  | n + 1, o, l, xs, k, h => by
    simp only [rdExpr] at h
    cases h1 : rdInstr l with
    | error e => rw [h1] at h; cases h
    | ok p =>
      obtain ⟨x, k1⟩ := p
      rw [h1] at h; simp only at h
      obtain ⟨a1, a2, a3, a4, a5, a6⟩ := rdInstr_ok h1
      split at h
      · next hc =>
        simp only [Except.ok.injEq, Prod.mk.injEq] at h
        obtain ⟨rfl, rfl⟩ := h
        obtain ⟨_, rfl⟩ := hc
        exact ⟨rfl, by simp, rfl, a5, by simp [exprEnc, encAll]; omega⟩
      · cases h2 : step o x.op with
        | none => rw [h2] at h; cases h
        | some o' =>
          rw [h2] at h; simp only at h
          cases h3 : rdExpr n o' (l.drop k1) with
          | error e => rw [h3] at h; simp only [onto] at h; cases h
          | ok q =>
            obtain ⟨ys, k2⟩ := q
            rw [h3] at h
            simp only [onto, Except.ok.injEq, Prod.mk.injEq] at h
            obtain ⟨rfl, rfl⟩ := h
            obtain ⟨b1, b2, b3, b4, b5⟩ := rdExpr_ok n o' _ ys k2 h3
            rw [List.length_drop] at b4
            refine ⟨by simp [a1, b1], fun y hy => ?_, by simp [steps, h2, b3], by omega, ?_⟩
            · rcases List.mem_append.1 hy with hy | hy
              · simp at hy; subst hy; exact ⟨a2, a3⟩
              · exact b2 y hy
            · simp only [exprEnc, encAll, List.length_append, List.flatMap_append, List.flatMap_cons, List.flatMap_nil, List.append_nil] at b5 ⊢; omega
/- A beginning of the bytes is none. -/
theorem okS_cut {c : Int} {i : Nat} (h : i < (encS c).length) (b : Int) : okS ((encS c).take i) b = false := by
  have h1 : run (encS c) = (encS c).length := by have := run_encS c []; simpa using this
  have h2 := run_take_lt (encS c) i (by omega)
  unfold okS
  rw [decide_eq_false_iff_not]
  omega
theorem rdNum_cut {n i : Nat} (h : i < (encU n).length) : rdNum ((encU n).take i) = .error 60 := by
  unfold rdNum; rw [okU_cut h]; rfl
theorem rdConst_cut {c : Int} {i : Nat} (h : i < (encS c).length) (b : Int) : rdConst ((encS c).take i) b = .error 60 := by
  unfold rdConst; rw [okS_cut h]; rfl
theorem take_left {α : Type} {a b : List α} {i : Nat} (h : i ≤ a.length) : (a ++ b).take i = a.take i := by
  rw [List.take_append, show i - a.length = 0 by omega]; simp
theorem take_right {α : Type} {a b : List α} {i : Nat} (h : a.length ≤ i) : (a ++ b).take i = a ++ b.take (i - a.length) := by
  rw [List.take_append, List.take_of_length_le h]
theorem rdMany_cut : ∀ (l : List Nat) (i : Nat), (∀ n ∈ l, n < 4294967296) → i < (labs l).length → rdMany l.length ((labs l).take i) = .error 60
  | [], i, _, h => by simp [labs] at h
  | x :: l, i, hw, h => by
    have e : labs (x :: l) = encU x ++ labs l := by simp [labs]
    rw [e] at h ⊢
    simp only [List.length_cons, rdMany]
    by_cases hi : i < (encU x).length
    · rw [take_left (by omega), rdNum_cut hi]
    · rw [take_right (by omega), rdNum_enc x _ (hw x (by simp))]
      simp only [List.drop_left]
      rw [rdMany_cut l _ (fun n hn => hw n (by simp [hn])) (by simp at h; omega)]
      rfl
theorem rdF_cut (f : Int) (hf : f = 0 ∨ f = 1 ∨ f = 2 ∨ f = 3 ∨ f = 4 ∨ f = 5 ∨ f = 6 ∨ f = 7 ∨ f = 8 ∨ f = 9) (x : I) (hw : x.wf) (hl : x.l.length < 4294967296) {i : Nat} (hi : i < (tailF f x).length) :
    rdF f x.op ((tailF f x).take i) = .error 60 := by
  obtain ⟨op, a, b, c, l⟩ := x
  obtain ⟨h1, h2, h3, h4, h5, h6⟩ := hw
  simp only at h1 h2 h3 h4 h5 h6 hl
  rcases hf with rfl | rfl | rfl | rfl | rfl | rfl | rfl | rfl | rfl | rfl <;> simp only [tailF, if_true, Int.reduceEq, if_false, or_self, true_or, or_true, List.length_append, List.length_cons, List.length_nil] at hi ⊢
  · omega
  · obtain rfl : i = 0 := by omega
    simp [rdF, rdBlock, rdByte]
  · simp [rdF, rdNum_cut hi]
  · simp only [rdF, if_true, Int.reduceEq, if_false, or_self, rdLabels]
    by_cases a1 : i < (encU l.length).length
    · rw [List.append_assoc, take_left (by omega), rdNum_cut a1]
    · by_cases a2 : i < (encU l.length).length + (labs l).length
      · rw [List.append_assoc, take_right (by omega), rdNum_enc _ _ hl]
        simp only [List.drop_left]
        rw [take_left (by omega), rdMany_cut l _ h6 (by omega)]
        rfl
      · have e : (encU l.length ++ labs l ++ encU a).take i = encU l.length ++ (labs l ++ (encU a).take (i - (encU l.length).length - (labs l).length)) := by
          rw [take_right (by simp; omega), List.append_assoc, List.length_append, Nat.sub_add_eq]
        rw [e, rdNum_enc _ _ hl]
        simp only [List.drop_left]
        rw [rdMany_enc l _ h6]
        simp only [onto, List.nil_append]
        rw [← List.append_assoc, ← List.length_append, List.drop_left, rdNum_cut (by omega)]
  · simp [rdF, rdNum_cut hi]
  · simp only [rdF, if_true, Int.reduceEq, if_false, or_self]
    by_cases a1 : i < (encU a).length
    · rw [take_left (by omega), rdNum_cut a1]
    · rw [take_right (by omega), rdNum_enc _ _ h2]
      have : i - (encU a).length = 0 := by simp at hi; omega
      simp [this, rdZero, rdByte]
  · simp only [rdF, if_true, Int.reduceEq, if_false, or_self]
    by_cases a1 : i < (encU a).length
    · rw [take_left (by omega), rdNum_cut a1]
    · rw [take_right (by omega), rdNum_enc _ _ h2]
      simp only [List.drop_left]
      rw [rdNum_cut (by omega)]
  · obtain rfl : i = 0 := by omega
    simp [rdF, rdZero, rdByte]
  · simp [rdF, rdConst_cut hi]
  · simp [rdF, rdConst_cut hi]
theorem rdInstr_cut (x : I) (hm : may x = true) (hw : x.wf) (hl : x.l.length < 4294967296) {i : Nat} (hi : i < (enc x).length) : rdInstr ((enc x).take i) = .error 60 := by
  simp only [may, Bool.and_eq_true] at hm
  cases i with
  | zero => simp [rdInstr, rdOp, rdByte]
  | succ i =>
    have h := rdF_cut _ (form_range x.op) x hw hl (i := i) (by simpa [enc] using hi)
    simp [rdInstr, enc, rdOp, rdByte, byteNat x.op hw.1, known_float x.op hw.1 hm.1, hm.1, h]
theorem rdExpr_cut : ∀ (xs : List I) (o : List Bool) (n i : Nat), xs.all may = true → (∀ x ∈ xs, x.wf ∧ x.l.length < 4294967296) → steps o xs = some [] → i < (exprEnc xs).length → rdExpr n o ((exprEnc xs).take i) = .error 60
  | _, o, 0, i, _, _, _, _ => rfl
  | [], o, n + 1, i, _, _, hs, hi => by
    obtain rfl : i = 0 := by simp [exprEnc, encAll] at hi; omega
    simp [rdExpr, rdInstr, rdOp, rdByte]
  | x :: xs, o, n + 1, i, hm, hw, hs, hi => by
    simp only [List.all_cons, Bool.and_eq_true] at hm
    have hx := hw x (by simp)
    have e : exprEnc (x :: xs) = enc x ++ exprEnc xs := by simp [exprEnc, encAll]
    simp only [steps] at hs
    rw [e] at hi ⊢
    simp only [rdExpr]
    by_cases hlt : i < (enc x).length
    · rw [take_left (by omega), rdInstr_cut x hm.1 hx.1 hx.2 hlt]
    · rw [take_right (by omega), rdInstr_enc x hm.1 hx.1 hx.2]
      cases h2 : step o x.op with
      | none => rw [h2] at hs; cases hs
      | some o' =>
        rw [h2] at hs
        have hne : ¬ (x.op = 11 ∧ o = []) := by
          rintro ⟨h3, rfl⟩
          rw [h3] at h2
          simp [step] at h2
        simp only [if_neg hne, h2, List.drop_left]
        rw [rdExpr_cut xs o' n _ hm.2 (fun y hy => hw y (by simp [hy])) hs (by simp at hi; omega)]
        rfl
end Ins
/-
  Plain mathematics of expressions: how long bytes may be; where instructions fail to be an expression's; how many there are together.
-/
namespace Ins
open Leb
def tot : List I → Nat
  | [] => 0
  | x :: xs => x.l.length + 5 + tot xs
theorem tot_append : ∀ (a b : List I), tot (a ++ b) = tot a + tot b
  | [], b => by simp [tot]
  | x :: a, b => by simp only [List.cons_append, tot, tot_append a b]; omega
theorem tot_len : ∀ (xs : List I), 5 * xs.length ≤ tot xs
  | [] => by simp [tot]
  | x :: xs => by have := tot_len xs; simp only [tot, List.length_cons]; omega
theorem tot_take {xs : List I} {j : Nat} {x : I} (h : xs[j]? = some x) : tot (xs.take (j + 1)) = tot (xs.take j) + (x.l.length + 5) := by
  rw [List.take_add_one, h, tot_append]; simp [tot]
theorem tot_take_le (xs : List I) (j : Nat) : tot (xs.take j) ≤ tot xs := by
  have h := tot_append (xs.take j) (xs.drop j)
  rw [List.take_append_drop] at h
  omega
theorem labs_le : ∀ (q : List Nat), (∀ x ∈ q, x < 4294967296) → (labs q).length ≤ 10 * q.length
  | [], _ => by simp [labs]
  | x :: q, hq => by
    have h1 := labs_le q (fun y hy => hq y (by simp [hy]))
    have h2 := encU_le10 x (by have := hq x (by simp); omega)
    have e : labs (x :: q) = encU x ++ labs q := by simp [labs]
    rw [e, List.length_append, List.length_cons]
    omega
theorem enc_le (x : I) (hw : x.wf) (hl : x.l.length < 4294967296) : (enc x).length ≤ 10 * (x.l.length + 5) := by
  obtain ⟨op, a, b, c, l⟩ := x
  obtain ⟨h1, h2, h3, h4, h5, h6⟩ := hw
  simp only at h1 h2 h3 h4 h5 h6 hl
  have ea := encU_le10 a (by omega)
  have eb := encU_le10 b (by omega)
  have ec := encS_le10 c h4 h5
  have el := encU_le10 l.length (by omega)
  have eL := labs_le l h6
  simp only [enc, List.length_cons]
  rcases form_range op with hf | hf | hf | hf | hf | hf | hf | hf | hf | hf <;> rw [hf] <;> simp [tailF] <;> omega
theorem encAll_append (a b : List I) : encAll (a ++ b) = encAll a ++ encAll b := by simp [encAll]
theorem encAll_take {xs : List I} {j : Nat} {x : I} (h : xs[j]? = some x) : encAll (xs.take (j + 1)) = encAll (xs.take j) ++ enc x := by
  rw [List.take_add_one, h, encAll_append]; simp [encAll]
theorem encAll_le : ∀ (xs : List I), (∀ x ∈ xs, x.wf ∧ x.l.length < 4294967296) → (encAll xs).length ≤ 10 * tot xs
  | [], _ => by simp [encAll]
  | x :: xs, h => by
    have h1 := encAll_le xs (fun y hy => h y (by simp [hy]))
    have h2 := enc_le x (h x (by simp)).1 (h x (by simp)).2
    have e : encAll (x :: xs) = enc x ++ encAll xs := by simp [encAll]
    rw [e, List.length_append]
    simp only [tot]; omega
theorem steps_append : ∀ (a b : List I) (o o' : List Bool), steps o a = some o' → steps o (a ++ b) = steps o' b
  | [], b, o, o', h => by simp only [steps, Option.some.injEq] at h; subst h; rfl
  | x :: a, b, o, o', h => by
    simp only [steps, List.cons_append] at h ⊢
    cases hs : step o x.op with
    | none => rw [hs] at h; cases h
    | some o1 => rw [hs] at h; simp only at h ⊢; exact steps_append a b o1 o' h
theorem steps_take {xs : List I} {j : Nat} {x : I} {o : List Bool} (h : steps [] (xs.take j) = some o) (hx : xs[j]? = some x) : steps [] xs = steps o (x :: xs.drop (j + 1)) := by
  have hj : j < xs.length := (List.getElem?_eq_some_iff.1 hx).1
  have e : xs = xs.take j ++ (x :: xs.drop (j + 1)) := by
    have h2 : xs.drop j = x :: xs.drop (j + 1) := by
      rw [List.drop_eq_getElem_cons hj]
      have := (List.getElem?_eq_some_iff.1 hx).2
      rw [this]
    rw [← h2, List.take_append_drop]
  conv => lhs; rw [e]
  exact steps_append _ _ _ _ h
theorem steps_next {xs : List I} {j : Nat} {x : I} {o o' : List Bool} (h : steps [] (xs.take j) = some o) (hx : xs[j]? = some x) (hs : step o x.op = some o') : steps [] (xs.take (j + 1)) = some o' := by
  rw [List.take_add_one, hx, steps_append _ _ _ _ h]
  simp [steps, hs]
theorem exprB_may {xs : List I} {j : Nat} {x : I} (hx : xs[j]? = some x) (hm : may x = false) : exprB xs = false := by
  unfold exprB
  have : xs.all may = false := List.all_eq_false.2 ⟨x, List.mem_of_getElem? hx, by simp [hm]⟩
  rw [this]; rfl
theorem exprB_step {xs : List I} {j : Nat} {x : I} {o : List Bool} (h : steps [] (xs.take j) = some o) (hx : xs[j]? = some x) (hs : step o x.op = none) : exprB xs = false := by
  unfold exprB
  rw [steps_take h hx]
  simp [steps, hs]
theorem all_take {xs : List I} {j : Nat} {x : I} (h : (xs.take j).all may = true) (hx : xs[j]? = some x) (hm : may x = true) : (xs.take (j + 1)).all may = true := by
  rw [List.take_add_one, hx]; simp only [Option.toList_some, List.all_append, h, Bool.true_and]; simp [hm]
end Ins
