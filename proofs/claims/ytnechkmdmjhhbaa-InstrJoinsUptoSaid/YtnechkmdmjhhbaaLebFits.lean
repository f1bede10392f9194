/-
  Plain mathematics of numbers of variable length: how many bits they have, told by single bits.
-/
import Derived.Test.YtnechkmdmjhhbaaLebBits
namespace Leb
open Go Go.RowKit
theorem num_used (l : List UInt8) : num (l.take (run l)) false = (used l : Int) := by unfold num used; simp
theorem num_sused (l : List UInt8) : num (l.take (run l)) true = sused l := by rw [sused_eq]; unfold num; simp
theorem used_lt7 (l : List UInt8) : used l < 2 ^ (7 * run l) := by
  have := val_lt (l.take (run l))
  rwa [length_used, pow128] at this
theorem int_nat_bit (x j : Nat) : ((x : Int) / 2 ^ j % 2) = ((x / 2 ^ j % 2 : Nat) : Int) := by simp
/-- A bit that is too much. -/
theorem okU_bit {l : List UInt8} {n : Int} {a : Nat} (h : n ≤ a) (hb : (used l : Int) / 2 ^ a % 2 ≠ 0) : okU l n = false := by
  unfold okU; rw [decide_eq_false_iff_not]
  rintro ⟨h1, h2, _, _, h5⟩
  obtain ⟨m, rfl⟩ : ∃ m : Nat, n = m := ⟨n.toNat, by omega⟩
  rw [Int.toNat_natCast] at h5
  have e2 : ((2 : Int) ^ m) = ((2 ^ m : Nat) : Int) := by simp
  rw [e2] at h5
  have h6 := bits_of_low (used l) m a (by omega) (by omega)
  rw [int_nat_bit, h6] at hb
  exact hb rfl
theorem okU_all {l : List UInt8} {n : Int} (h1 : 1 ≤ n) (h2 : n ≤ 64) (h3 : 1 ≤ run l) (h4 : 7 * (run l : Int) ≤ n + 6) (hb : ∀ j : Nat, n ≤ j → j < 7 * run l → (used l : Int) / 2 ^ j % 2 = 0) : okU l n = true := by
  unfold okU; rw [decide_eq_true_iff]
  obtain ⟨m, rfl⟩ : ∃ m : Nat, n = m := ⟨n.toNat, by omega⟩
  refine ⟨h1, h2, h3, by omega, ?_⟩
  have e2 : ((2 : Int) ^ m) = ((2 ^ m : Nat) : Int) := by simp
  rw [Int.toNat_natCast, e2]
  have hu := used_lt7 l
  have : used l < 2 ^ m := by
    by_cases h : m ≤ 7 * run l
    · refine low_of_bits (used l) m (7 * run l) h hu (fun j hj hjm => ?_)
      have := hb j (by omega) hjm
      rw [int_nat_bit] at this
      omega
    · have : (2 : Nat) ^ (7 * run l) ≤ 2 ^ m := Nat.pow_le_pow_right (by decide) (by omega)
      omega
  omega
theorem above_sused {l : List UInt8} (b : Nat) : (sused l / 2 ^ b = 0 ∨ sused l / 2 ^ b = -1) ↔ (-(2 ^ b) ≤ sused l ∧ sused l < 2 ^ b) := above_iff _ _ (Int.pow_pos (by decide))
theorem okS_bit {l : List UInt8} {n : Int} {a : Nat} (h : n ≤ a) (hb : sused l / 2 ^ a % 2 ≠ sused l / 2 ^ (n - 1).toNat % 2) : okS l n = false := by
  unfold okS; rw [decide_eq_false_iff_not]
  rintro ⟨h1, h2, _, _, h5⟩
  exact hb (sbits_of_low _ _ a ((above_sused _).2 h5) (by omega))
theorem okS_all {l : List UInt8} {n : Int} (h1 : 1 ≤ n) (h2 : n ≤ 64) (h3 : 1 ≤ run l) (h4 : 7 * (run l : Int) ≤ n + 6) (hb : ∀ j : Nat, n ≤ j → j < 7 * run l → sused l / 2 ^ j % 2 = sused l / 2 ^ (n - 1).toNat % 2) : okS l n = true := by
  unfold okS; rw [decide_eq_true_iff]
  refine ⟨h1, h2, h3, by omega, (above_sused _).1 ?_⟩
  have hr := sval_range (l.take (run l)) (by rw [length_used]; exact h3)
  rw [← sused_eq, length_used] at hr
  have e2 : ∀ j : Nat, ((2 : Int) ^ j) = ((2 ^ j : Nat) : Int) := fun j => by simp
  by_cases h : n ≤ 7 * (run l : Int)
  · refine slow_of_bits (sused l) (n - 1).toNat (7 * run l - 1) (by omega) ?_ (fun j hj hjm => hb j (by omega) (by omega))
    rw [above_sused, e2]; exact hr
  · rw [above_sused, e2]
    have : (2 : Nat) ^ (7 * run l - 1) ≤ 2 ^ (n - 1).toNat := Nat.pow_le_pow_right (by decide) (by omega)
    omega
theorem okU_run {l : List UInt8} {n : Int} (h : run l = 0 ∨ (n + 6) / 7 < (run l : Int)) : okU l n = false := by
  unfold okU; rw [decide_eq_false_iff_not]; omega
theorem okS_run {l : List UInt8} {n : Int} (h : run l = 0 ∨ (n + 6) / 7 < (run l : Int)) : okS l n = false := by
  unfold okS; rw [decide_eq_false_iff_not]; omega
/-- One bit more, from above. -/
theorem more_bits (x : Int) (t : Nat) (ht : t < 64) : (x / 2 ^ (63 - t)) % 2 ^ (t + 1) = 2 * (x / 2 ^ (64 - t) % 2 ^ t) + x / 2 ^ (63 - t) % 2 := by
  have h1 : x / 2 ^ (64 - t) = x / 2 ^ (63 - t) / 2 := by
    rw [show 64 - t = (63 - t) + 1 by omega, Int.pow_succ, Int.ediv_ediv_of_nonneg]
    exact Int.pow_nonneg (by decide)
  rw [h1]
  generalize x / 2 ^ (63 - t) = y
  have hP : (0 : Int) < 2 ^ t := Int.pow_pos (by decide)
  rw [Int.pow_succ]
  generalize (2 : Int) ^ t = P at *
  have a1 := Int.mul_ediv_add_emod y 2
  have a2 := Int.mul_ediv_add_emod (y / 2) P
  have a3 := Int.emod_nonneg (y / 2) (show P ≠ 0 by omega)
  have a4 := Int.emod_lt_of_pos (y / 2) hP
  have e : y = (2 * (y / 2 % P) + y % 2) + (P * 2) * (y / 2 / P) := by
    rw [Int.mul_assoc, Int.mul_left_comm]
    omega
  conv => lhs; rw [e]
  rw [Int.add_mul_emod_self_left, Int.emod_eq_of_lt (by omega) (by omega)]
theorem bits_bound (x : Int) (t : Nat) (ht : t < 64) : 0 ≤ x / 2 ^ (64 - t) % 2 ^ t ∧ x / 2 ^ (64 - t) % 2 ^ t ≤ 9223372036854775807 := by
  have hP : (0 : Int) < 2 ^ t := Int.pow_pos (by decide)
  have h1 := Int.emod_nonneg (x / 2 ^ (64 - t)) (show (2 : Int) ^ t ≠ 0 by omega)
  have h2 := Int.emod_lt_of_pos (x / 2 ^ (64 - t)) hP
  have e2 : ((2 : Int) ^ t) = ((2 ^ t : Nat) : Int) := by simp
  have h3 : (2 : Nat) ^ t ≤ 2 ^ 63 := Nat.pow_le_pow_right (by decide) (by omega)
  have h4 : (2 : Nat) ^ 63 = 9223372036854775808 := rfl
  rw [e2] at h2 h1 ⊢
  omega
end Leb
