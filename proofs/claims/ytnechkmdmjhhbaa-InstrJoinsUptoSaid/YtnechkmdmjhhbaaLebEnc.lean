/-
  Plain mathematics of numbers of variable length: the fewest bytes of a number, and what is taken of them.
-/
import Derived.Test.YtnechkmdmjhhbaaLebMathS
namespace Leb
open Go Go.RowKit
/-- The fewest bytes of an unsigned number. -/
def encU (n : Nat) : List UInt8 := if n < 128 then [UInt8.ofNat n] else UInt8.ofNat (n % 128 + 128) :: encU (n / 128)
termination_by n
theorem encU_small {n : Nat} (h : n < 128) : encU n = [UInt8.ofNat n] := by rw [encU, if_pos h]
theorem encU_big {n : Nat} (h : 128 ≤ n) : encU n = UInt8.ofNat (n % 128 + 128) :: encU (n / 128) := by rw [encU, if_neg (by omega)]
theorem byte_of (x : Nat) (h : x < 256) : (UInt8.ofNat x).toNat = x := by
  rw [UInt8.toNat_ofNat']; exact Nat.mod_eq_of_lt h
theorem encU_pos (n : Nat) : 1 ≤ (encU n).length := by
  rw [encU]; split <;> simp
theorem encU_le : ∀ (k n : Nat), 1 ≤ k → n < 2 ^ (7 * k) → (encU n).length ≤ k
  | 0, _, h, _ => by omega
  | k + 1, n, _, hn => by
    by_cases h : n < 128
    · rw [encU_small h]; simp
    · rw [encU_big (by omega)]
      have h1 : n / 128 < 2 ^ (7 * k) := by
        rw [Nat.div_lt_iff_lt_mul (by decide)]
        rw [Nat.mul_add, Nat.pow_add] at hn
        exact hn
      have hk : 1 ≤ k := by
        rcases Nat.eq_zero_or_pos k with h0 | h0
        · subst h0; simp at hn; omega
        · exact h0
      have := encU_le k (n / 128) hk h1
      simp; omega
theorem encU_le10 (n : Nat) (h : n < 18446744073709551616) : (encU n).length ≤ 10 :=
  encU_le 10 n (by decide) (Nat.lt_of_lt_of_le h (by decide))
/-- What is appended begins with just that number, whatever stands behind. -/
theorem run_encU (n : Nat) (r : List UInt8) : run (encU n ++ r) = (encU n).length := by
  induction n using Nat.strongRecOn with
  | ind n ih =>
    by_cases h : n < 128
    · rw [encU_small h]; simp [run, byte_of n (by omega), h]
    · rw [encU_big (by omega)]
      have h1 := ih (n / 128) (by omega)
      have h2 := encU_pos (n / 128)
      rw [List.cons_append, run, byte_of _ (by omega), if_neg (by omega), h1, if_neg (by omega)]
      rfl
theorem val_encU (n : Nat) : val (encU n) = n := by
  induction n using Nat.strongRecOn with
  | ind n ih =>
    by_cases h : n < 128
    · rw [encU_small h]; simp [val, byte_of n (by omega)]; omega
    · rw [encU_big (by omega), val, ih (n / 128) (by omega), byte_of _ (by omega)]
      omega
theorem used_encU (n : Nat) (r : List UInt8) : used (encU n ++ r) = n := by
  unfold used
  rw [run_encU, List.take_left, val_encU]
/-- The fewest bytes of a signed number. -/
def encS (n : Int) : List UInt8 := if -64 ≤ n ∧ n ≤ 63 then [UInt8.ofNat (n % 128).toNat] else UInt8.ofNat ((n % 128).toNat + 128) :: encS (n / 128)
termination_by n.natAbs
decreasing_by omega
theorem encS_small {n : Int} (h : -64 ≤ n ∧ n ≤ 63) : encS n = [UInt8.ofNat (n % 128).toNat] := by rw [encS, if_pos h]
theorem encS_big {n : Int} (h : ¬ (-64 ≤ n ∧ n ≤ 63)) : encS n = UInt8.ofNat ((n % 128).toNat + 128) :: encS (n / 128) := by rw [encS, if_neg h]
theorem encS_pos (n : Int) : 1 ≤ (encS n).length := by
  rw [encS]; split <;> simp
theorem encS_le : ∀ (k : Nat) (n : Int), -(64 * 128 ^ k : Nat) ≤ n → n < (64 * 128 ^ k : Nat) → (encS n).length ≤ k + 1
  | 0, n, h1, h2 => by
    rw [encS_small (by simp at h1 h2; omega)]; simp
  | k + 1, n, h1, h2 => by
    by_cases h : -64 ≤ n ∧ n ≤ 63
    · rw [encS_small h]; simp
    · rw [encS_big h]
      rw [Nat.pow_succ, ← Nat.mul_assoc] at h1 h2
      have := encS_le k (n / 128) (by omega) (by omega)
      simp; omega
theorem encS_le10 (n : Int) (h0 : -9223372036854775808 ≤ n) (h1 : n ≤ 9223372036854775807) : (encS n).length ≤ 10 := by
  have e : (64 * 128 ^ 9 : Nat) = 590295810358705651712 := by decide
  exact encS_le 9 n (by rw [e]; omega) (by rw [e]; omega)
theorem run_encS (n : Int) (r : List UInt8) : run (encS n ++ r) = (encS n).length := by
  induction h : n.natAbs using Nat.strongRecOn generalizing n with
  | ind m ih =>
    by_cases h : -64 ≤ n ∧ n ≤ 63
    · rw [encS_small h, List.cons_append, run, byte_of _ (by omega), if_pos (by omega)]; rfl
    · rw [encS_big h]
      have h1 := ih (n / 128).natAbs (by omega) (n / 128) rfl
      have h2 := encS_pos (n / 128)
      rw [List.cons_append, run, byte_of _ (by omega), if_neg (by omega), h1, if_neg (by omega)]
      rfl
theorem emod_two (n P : Int) (hP : 0 < P) : n % (P * 128) = n % 128 + 128 * (n / 128 % P) := by
  have h1 := Int.mul_ediv_add_emod n 128
  have h2 := Int.mul_ediv_add_emod (n / 128) P
  have h3 := Int.emod_nonneg (n / 128) (show P ≠ 0 by omega)
  have h4 := Int.emod_lt_of_pos (n / 128) hP
  have e : n = (n % 128 + 128 * (n / 128 % P)) + (P * 128) * (n / 128 / P) := by
    rw [Int.mul_assoc, Int.mul_left_comm]
    omega
  conv => lhs; rw [e]
  rw [Int.add_mul_emod_self_left, Int.emod_eq_of_lt (by omega) (by omega)]
theorem even128 (k : Nat) (h : 1 ≤ k) : 128 ^ k % 2 = 0 := by
  obtain ⟨j, rfl⟩ : ∃ j, k = j + 1 := ⟨k - 1, by omega⟩
  rw [Nat.pow_succ]; omega
theorem val_encS (n : Int) : (val (encS n) : Int) = n % (128 ^ (encS n).length : Nat) ∧ -(128 ^ (encS n).length : Nat) ≤ 2 * n ∧ 2 * n < (128 ^ (encS n).length : Nat) := by
  induction h : n.natAbs using Nat.strongRecOn generalizing n with
  | ind m ih =>
    by_cases h : -64 ≤ n ∧ n ≤ 63
    · rw [encS_small h]
      simp [val, byte_of _ (show (n % 128).toNat < 256 by omega)]
      omega
    · rw [encS_big h]
      obtain ⟨h1, h2, h3⟩ := ih (n / 128).natAbs (by omega) (n / 128) rfl
      simp only [val, List.length_cons, Nat.pow_succ, byte_of _ (show (n % 128).toNat + 128 < 256 by omega)]
      have hE := even128 _ (encS_pos (n / 128))
      generalize 128 ^ (encS (n / 128)).length = P at *
      have hP : 0 < P := by omega
      generalize val (encS (n / 128)) = v at *
      refine ⟨?_, by omega, by omega⟩
      have e1 : n % ((P * 128 : Nat) : Int) = n % 128 + 128 * (n / 128 % (P : Int)) := by
        rw [Int.natCast_mul]
        exact emod_two n P (by omega)
      rw [e1, ← h1]
      omega
theorem sused_encS (n : Int) (r : List UInt8) : sused (encS n ++ r) = n := by
  obtain ⟨h1, h2, h3⟩ := val_encS n
  unfold sused used
  rw [run_encS, List.take_left]
  generalize 128 ^ (encS n).length = P at *
  generalize val (encS n) = v at *
  have hP : (0 : Int) < P := by omega
  by_cases hn : 0 ≤ n
  · rw [Int.emod_eq_of_lt hn (by omega)] at h1
    rw [if_pos (by omega)]; exact h1
  · have : n % (P : Int) = n + P := by
      have e := Int.add_emod_right n P
      rw [← e, Int.emod_eq_of_lt (by omega) (by omega)]
    rw [this] at h1
    rw [if_neg (by omega)]; omega
end Leb
