/-
  Plain mathematics of numbers of variable length: their bits.
-/
import Derived.Test.YtnechkmdmjhhbaaLebMathS
namespace Leb
open Go Go.RowKit
/-- Bytes as a signed number. -/
def sval (l : List UInt8) : Int := if 2 * val l < 128 ^ l.length then (val l : Int) else (val l : Int) - (128 ^ l.length : Nat)
theorem length_used (l : List UInt8) : (l.take (run l)).length = run l := by
  rw [List.length_take]; exact Nat.min_eq_left (run_le l)
theorem sused_eq (l : List UInt8) : sused l = sval (l.take (run l)) := by
  unfold sused sval used; rw [length_used]
/-- Bytes as a number, of either kind. -/
def num (l : List UInt8) (sg : Bool) : Int := if sg = true then sval l else (val l : Int)
theorem val_bit : ∀ (l : List UInt8) (a : Nat) (x : UInt8), l[a / 7]? = some x → val l / 2 ^ a % 2 = x.toNat / 2 ^ (a % 7) % 2
  | [], a, x, h => by simp at h
  | b :: r, a, x, h => by
    by_cases ha : a < 7
    · have h0 : a / 7 = 0 := by omega
      rw [h0] at h
      simp at h
      subst h
      have hm : a % 7 = a := by omega
      rw [hm, val]
      have : a = 0 ∨ a = 1 ∨ a = 2 ∨ a = 3 ∨ a = 4 ∨ a = 5 ∨ a = 6 := by omega
      rcases this with h | h | h | h | h | h | h <;> subst h <;> simp <;> omega
    · obtain ⟨j, rfl⟩ : ∃ j, a = j + 7 := ⟨a - 7, by omega⟩
      have h1 : (j + 7) / 7 = j / 7 + 1 := by omega
      have h2 : (j + 7) % 7 = j % 7 := by omega
      rw [h1] at h
      have ih := val_bit r j x (by simpa using h)
      rw [h2, ← ih, val, Nat.add_comm j 7, Nat.pow_add, ← Nat.div_div_eq_div_mul]
      congr 2
      have : (2 : Nat) ^ 7 = 128 := rfl
      omega
theorem two_dvd (a m : Nat) (h : a < m) : ∃ q : Nat, (2 : Nat) ^ m = 2 ^ a * (2 * q) := by
  refine ⟨2 ^ (m - a - 1), ?_⟩
  rw [← Nat.mul_assoc, ← Nat.pow_succ, ← Nat.pow_add]; congr 1; omega
theorem sval_lo (l : List UInt8) (a : Nat) (h : a < 7 * l.length) : sval l / 2 ^ a % 2 = ((val l / 2 ^ a % 2 : Nat) : Int) := by
  have e2 : ((2 : Int) ^ a) = ((2 ^ a : Nat) : Int) := by simp
  unfold sval
  split
  · rw [e2]; omega
  · rw [pow128]
    obtain ⟨q, hq⟩ := two_dvd a (7 * l.length) h
    rw [hq, e2]
    have hp : (0 : Int) < ((2 ^ a : Nat) : Int) := by have := Nat.pow_pos (n := a) (show 0 < 2 by decide); omega
    have : (val l : Int) - ((2 ^ a * (2 * q) : Nat) : Int) = (val l : Int) + ((2 ^ a : Nat) : Int) * (-(2 * (q : Int))) := by
      rw [Int.natCast_mul, Int.mul_neg]; simp; omega
    rw [this, Int.add_mul_ediv_left _ _ (by omega)]
    omega
theorem num_lo (l : List UInt8) (a : Nat) (sg : Bool) (h : a < 7 * l.length) : num l sg / 2 ^ a % 2 = ((val l / 2 ^ a % 2 : Nat) : Int) := by
  have e2 : ((2 : Int) ^ a) = ((2 ^ a : Nat) : Int) := by simp
  unfold num
  cases sg
  · simp
  · rw [if_pos rfl]; exact sval_lo l a h
theorem val_hi (l : List UInt8) (a : Nat) (h : 7 * l.length ≤ a) : num l false / 2 ^ a % 2 = 0 := by
  have e2 : ((2 : Int) ^ a) = ((2 ^ a : Nat) : Int) := by simp
  have := val_lt l
  rw [pow128] at this
  have h2 : (2 : Nat) ^ (7 * l.length) ≤ 2 ^ a := Nat.pow_le_pow_right (by decide) h
  have h3 : val l / 2 ^ a = 0 := Nat.div_eq_of_lt (by omega)
  unfold num
  rw [if_neg (by simp), e2]
  omega
theorem sval_range (l : List UInt8) (h : 1 ≤ l.length) : -((2 ^ (7 * l.length - 1) : Nat) : Int) ≤ sval l ∧ sval l < ((2 ^ (7 * l.length - 1) : Nat) : Int) := by
  have hv := val_lt l
  rw [pow128] at hv
  have e : (2 : Nat) ^ (7 * l.length) = 2 * 2 ^ (7 * l.length - 1) := by rw [← Nat.pow_succ']; congr 1; omega
  unfold sval
  rw [pow128]
  generalize 2 ^ (7 * l.length - 1) = P at *
  generalize 2 ^ (7 * l.length) = R at *
  split <;> omega
theorem ediv_neg_one (x P : Int) (hP : 0 < P) (h0 : -P ≤ x) (h1 : x < 0) : x / P = -1 := by
  have h := (above_iff x P hP).2 ⟨h0, by omega⟩
  rcases h with h | h
  · have h1 := Int.mul_ediv_add_emod x P
    have h2 := Int.emod_nonneg x (show P ≠ 0 by omega)
    rw [h] at h1; omega
  · exact h
theorem sval_hi (l : List UInt8) (a : Nat) (hl : 1 ≤ l.length) (h : 7 * l.length ≤ a) : sval l / 2 ^ a % 2 = sval l / 2 ^ (7 * l.length - 1) % 2 := by
  have e2 : ∀ j : Nat, ((2 : Int) ^ j) = ((2 ^ j : Nat) : Int) := fun j => by simp
  obtain ⟨h1, h2⟩ := sval_range l hl
  have h3 : (2 : Nat) ^ (7 * l.length - 1) ≤ 2 ^ a := Nat.pow_le_pow_right (by decide) (by omega)
  have hp : 0 < (2 : Nat) ^ (7 * l.length - 1) := Nat.pow_pos (by decide)
  rw [e2, e2]
  generalize (2 : Nat) ^ (7 * l.length - 1) = P at *
  generalize (2 : Nat) ^ a = R at *
  by_cases hn : 0 ≤ sval l
  · rw [Int.ediv_eq_zero_of_lt hn (by omega), Int.ediv_eq_zero_of_lt hn (by omega)]
  · rw [ediv_neg_one _ _ (by omega) (by omega) (by omega), ediv_neg_one _ _ (by omega) (by omega) (by omega)]
/-- All bits from b up to m are 0: the number has b bits. -/
theorem low_of_bits (x b : Nat) : ∀ m, b ≤ m → x < 2 ^ m → (∀ j, b ≤ j → j < m → x / 2 ^ j % 2 = 0) → x < 2 ^ b
  | 0, h, hx, _ => by
    obtain rfl : b = 0 := by omega
    exact hx
  | m + 1, h, hx, hb => by
    by_cases e : b = m + 1
    · subst e; exact hx
    · have h1 := hb m (by omega) (by omega)
      have h2 : x < 2 ^ m := by
        rw [Nat.pow_succ] at hx
        have h3 : x / 2 ^ m < 2 := by
          rw [Nat.div_lt_iff_lt_mul (Nat.pow_pos (by decide)), Nat.mul_comm]; exact hx
        have h4 : x / 2 ^ m = 0 := by
          generalize x / 2 ^ m = q at h1 h3
          omega
        rwa [Nat.div_eq_zero_iff_lt (Nat.pow_pos (by decide))] at h4
      exact low_of_bits x b m (by omega) h2 (fun j hj hjm => hb j hj (by omega))
theorem bits_of_low (x b j : Nat) (h : x < 2 ^ b) (hj : b ≤ j) : x / 2 ^ j % 2 = 0 := by
  have : (2 : Nat) ^ b ≤ 2 ^ j := Nat.pow_le_pow_right (by decide) hj
  rw [Nat.div_eq_of_lt (by omega)]
/-- The same of a signed one: what is above the bit b is like it. -/
theorem slow_of_bits (x : Int) (b : Nat) : ∀ m : Nat, b ≤ m → (x / 2 ^ m = 0 ∨ x / 2 ^ m = -1) → (∀ j, b < j → j ≤ m → x / 2 ^ j % 2 = x / 2 ^ b % 2) → (x / 2 ^ b = 0 ∨ x / 2 ^ b = -1)
  | 0, h, hx, _ => by
    obtain rfl : b = 0 := by omega
    exact hx
  | m + 1, h, hx, hb => by
    by_cases e : b = m + 1
    · subst e; exact hx
    · have h1 := hb (m + 1) (by omega) (by omega)
      have h2 : x / 2 ^ (m + 1) = x / 2 ^ m / 2 := by
        rw [Int.pow_succ, Int.ediv_ediv_of_nonneg]
        exact Int.pow_nonneg (by decide)
      have h3 : x / 2 ^ m % 2 = x / 2 ^ b % 2 := by
        by_cases e : b = m
        · subst e; rfl
        · exact hb m (by omega) (by omega)
      exact slow_of_bits x b m (by omega) (by omega) (fun j hj hjm => hb j hj (by omega))
theorem sbits_of_low (x : Int) (b j : Nat) (h : x / 2 ^ b = 0 ∨ x / 2 ^ b = -1) (hj : b ≤ j) : x / 2 ^ j % 2 = x / 2 ^ b % 2 := by
  obtain ⟨d, rfl⟩ : ∃ d, j = b + d := ⟨j - b, by omega⟩
  have e2 : ∀ j : Nat, ((2 : Int) ^ j) = ((2 ^ j : Nat) : Int) := fun j => by simp
  have hp : 0 < (2 : Nat) ^ d := Nat.pow_pos (by decide)
  rw [Int.pow_add, ← Int.ediv_ediv_of_nonneg (Int.pow_nonneg (by decide))]
  rcases h with h | h
  · rw [h]; simp
  · rw [h, ediv_neg_one (-1) _ (Int.pow_pos (by decide)) (by have := Int.pow_pos (n := 2) (m := d) (by decide); omega) (by omega)]
end Leb
