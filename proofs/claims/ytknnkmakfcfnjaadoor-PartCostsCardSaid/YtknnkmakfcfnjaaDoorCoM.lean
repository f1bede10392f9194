/-
  Plain mathematics of costs (no program): what an opcode costs, as the program reckons it; that it is what the document's words say, by reckoning over all 256; sums.
-/
import Derived.Test.YtknnkmakfcfnjaaDoorInsM
namespace Co
open Ins
def ctl : List Nat := [1, 1, 0, 0, 2, 0, 0, 0, 0, 0, 0, 0, 2, 2, 3, 2, 8, 10]
def mul : List Nat := [2, 5, 5, 5, 5]
/-- What an opcode costs, as the program reckons it. -/
def of (op : Nat) : Nat :=
  if Opc.known op = false then 0
  else if op ≤ 17 then ctl.getD op 0
  else if 0 < Opc.width op then 3
  else if op = 64 then 20
  else if 108 ≤ op ∧ op ≤ 112 then mul.getD (op - 108) 0
  else if 126 ≤ op ∧ op ≤ 130 then mul.getD (op - 126) 0
  else 1
/-- Whether a number lies in one of some ranges. -/
def inL (x : Nat) : List UInt8 → Bool
  | lo :: hi :: r => (decide (lo.toNat ≤ x) && decide (x ≤ hi.toNat)) || inL x r
  | _ => false
def three : List UInt8 := [40, 41, 44, 55, 58, 62]
def one : List UInt8 := [0, 1, 26, 27, 32, 36, 63, 63, 65, 66, 69, 90, 103, 138, 167, 167, 172, 173]
/-- What an opcode costs, as the document reckons it. -/
def ref (op : Nat) : Nat :=
  if op = 2 ∨ op = 3 ∨ op = 5 ∨ op = 11 then 0
  else if op = 4 ∨ op = 12 ∨ op = 13 ∨ op = 15 ∨ op = 108 ∨ op = 126 then 2
  else if op = 14 then 3
  else if op = 16 then 8
  else if op = 17 then 10
  else if op = 64 then 20
  else if op = 109 ∨ op = 110 ∨ op = 111 ∨ op = 112 ∨ op = 127 ∨ op = 128 ∨ op = 129 ∨ op = 130 then 5
  else if inL op three = true then 3
  else if inL op one = true then 1
  else 0
theorem of_ref : ∀ op : Fin 256, of op.val = ref op.val := by decide +kernel
theorem of_eq {op : Nat} (h : op < 256) : of op = ref op := of_ref ⟨op, h⟩
theorem le20_all : ∀ op : Fin 256, of op.val ≤ 20 := by decide +kernel
theorem of_le (op : Nat) : of op ≤ 20 := by
  by_cases h : op < 256
  · exact le20_all ⟨op, h⟩
  · have hw : ∀ a b : Int, b < 256 → Opc.within (op : Nat) a b = false := fun a b hb => by
      unfold Opc.within
      rw [decide_eq_false (show ¬ ((op : Nat) : Int) ≤ b by omega), Bool.and_false]
    have hk : Opc.known (op : Nat) = false := by
      unfold Opc.known
      rw [hw 40 191 (by decide), hw 0 5 (by decide), hw 11 17 (by decide), hw 26 27 (by decide), hw 32 36 (by decide)]
      rfl
    unfold of
    rw [if_pos hk]
    omega
/-- What must cost something, must cost nothing. -/
def must (op : Nat) : Bool := if op = 12 ∨ op = 13 ∨ op = 14 ∨ op = 16 ∨ op = 17 ∨ op = 15 then decide (of op ≠ 0) else if op = 2 ∨ op = 3 ∨ op = 5 ∨ op = 11 then decide (of op = 0) else decide (0 < of op) == Opc.known op
theorem must_all : ∀ op : Fin 256, must op.val = true := by decide +kernel
/-- What all cost together. -/
def sum : List I → Nat
  | [] => 0
  | x :: xs => of x.op + sum xs
theorem sum_append : ∀ (xs ys : List I), sum (xs ++ ys) = sum xs + sum ys
  | [], ys => by simp [sum]
  | x :: xs, ys => by simp only [List.cons_append, sum, sum_append xs ys]; omega
theorem sum_step {xs : List I} {j : Nat} {x : I} (hx : xs[j]? = some x) : sum (xs.take (j + 1)) = sum (xs.take j) + of x.op := by
  obtain ⟨hj, rfl⟩ := List.getElem?_eq_some_iff.1 hx
  rw [List.take_succ_eq_append_getElem hj, sum_append]
  simp [sum]
theorem sum_le : ∀ (xs : List I), sum xs ≤ 20 * xs.length
  | [] => by simp [sum]
  | x :: xs => by have := sum_le xs; have := of_le x.op; simp only [sum, List.length_cons]; omega
end Co
