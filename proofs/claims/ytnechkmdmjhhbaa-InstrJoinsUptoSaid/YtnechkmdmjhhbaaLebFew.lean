/-
  Plain mathematics of numbers of variable length: a number in n bytes; when that is the number, and when these are the fewest.
-/
import Derived.Test.YtnechkmdmjhhbaaLebPre
namespace Leb
open Go Go.RowKit
/-- The last byte of n bytes. -/
def lastB (X n : Nat) (sg : Bool) : Nat := if n = 10 ∧ sg = true ∧ X / 128 ^ 9 % 128 = 1 then 127 else X / 128 ^ (n - 1) % 128
/-- A number's lowest bits, in n bytes. -/
def allB (X n : Nat) (sg : Bool) : List UInt8 := pre (X : Int) (n - 1) ++ [UInt8.ofNat (lastB X n sg)]
theorem lastB_lt (X n : Nat) (sg : Bool) : lastB X n sg < 128 := by unfold lastB; split <;> omega
theorem allB_length (X n : Nat) (sg : Bool) (h : 1 ≤ n) : (allB X n sg).length = n := by
  unfold allB; rw [List.length_append, pre_length]; simp; omega
theorem run_allB (X n : Nat) (sg : Bool) (h : 1 ≤ n) : run (allB X n sg) = n := by
  unfold allB
  have hb := lastB_lt X n sg
  rw [run_pre _ _ _ [] (by rw [byte_of _ (by omega)]; exact hb)]
  omega
theorem emod_mul (n a b : Int) (ha : 0 < a) (hb : 0 < b) : n % (a * b) = n % a + a * (n / a % b) := by
  have h1 := Int.mul_ediv_add_emod n a
  have h2 := Int.mul_ediv_add_emod (n / a) b
  have h3 := Int.emod_nonneg (n / a) (show b ≠ 0 by omega)
  have h4 := Int.emod_lt_of_pos (n / a) hb
  have h5 := Int.emod_nonneg n (show a ≠ 0 by omega)
  have h6 := Int.emod_lt_of_pos n ha
  have e : n = (n % a + a * (n / a % b)) + (a * b) * (n / a / b) := by
    rw [Int.mul_assoc]
    have : a * (n / a) = a * (b * (n / a / b)) + a * (n / a % b) := by rw [← Int.mul_add, h2]
    omega
  conv => lhs; rw [e]
  have h7 : a * (n / a % b) ≤ a * (b - 1) := Int.mul_le_mul_of_nonneg_left (by omega) (by omega)
  have h8 : 0 ≤ a * (n / a % b) := Int.mul_nonneg (by omega) h3
  rw [Int.mul_sub, Int.mul_one] at h7
  rw [Int.add_mul_emod_self_left, Int.emod_eq_of_lt (by omega) (by omega)]
theorem lastB_low (X n : Nat) (sg : Bool) (h : n ≤ 9 ∨ sg = false) : lastB X n sg = X / 128 ^ (n - 1) % 128 := by
  unfold lastB
  rw [if_neg]
  rintro ⟨h1, h2, _⟩
  rcases h with h | h
  · omega
  · rw [h] at h2; exact absurd h2 (by simp)
theorem val_allB (X n : Nat) (sg : Bool) (h1 : 1 ≤ n) (h : n ≤ 9 ∨ sg = false) : val (allB X n sg) = X % 128 ^ n := by
  obtain ⟨k, rfl⟩ : ∃ k, n = k + 1 := ⟨n - 1, by omega⟩
  have hb := lastB_lt X (k + 1) sg
  unfold allB
  have hv := val_pre k (X : Int) (UInt8.ofNat (lastB X (k + 1) sg)) (by rw [byte_of _ (by omega)]; exact hb)
  rw [byte_of _ (by omega), lastB_low X (k + 1) sg h] at hv
  rw [Nat.add_sub_cancel] at hv ⊢
  have e : (128 : Int) ^ k = ((128 ^ k : Nat) : Int) := by simp
  have e2 : ((X / 128 ^ k % 128 : Nat) : Int) = (X : Int) / (128 : Int) ^ k % 128 := by simp
  rw [e2] at hv
  rw [← emod_mul (X : Int) (128 ^ k) 128 (Int.pow_pos (by decide)) (by decide), ← Int.pow_succ] at hv
  rw [lastB_low X (k + 1) sg h, Nat.add_sub_cancel]
  have e3 : (X : Int) % 128 ^ (k + 1) = ((X % 128 ^ (k + 1) : Nat) : Int) := by simp
  rw [e3] at hv
  omega
theorem used_allB (X n : Nat) (sg : Bool) (h1 : 1 ≤ n) (h : n ≤ 9 ∨ sg = false) : used (allB X n sg) = X % 128 ^ n := by
  unfold used
  rw [run_allB X n sg h1]
  have hl := allB_length X n sg h1
  rw [List.take_of_length_le (by omega), val_allB X n sg h1 h]
theorem pow9 (n : Nat) (h : n ≤ 9) : 128 ^ n ≤ 9223372036854775808 := by
  have := Nat.pow_le_pow_right (n := 128) (by decide) h
  have e : 128 ^ 9 = 9223372036854775808 := by decide
  omega
theorem okU_allB (X n : Nat) (h1 : 1 ≤ n) (h9 : n ≤ 9) : okU (allB X n false) 64 = true := by
  unfold okU
  rw [decide_eq_true_iff, run_allB X n false h1, used_allB X n false h1 (.inr rfl)]
  have hp := pow9 n h9
  have hm : X % 128 ^ n < 128 ^ n := Nat.mod_lt _ (Nat.pow_pos (by decide))
  have e : ((2 : Int) ^ (64 : Int).toNat) = 18446744073709551616 := by decide
  rw [e]
  refine ⟨by decide, by decide, by omega, by omega, by omega⟩
/-- Of n bytes, n from 1 to 9, the document's Take gives the number back, or another one. -/
theorem numU_allB (X n : Nat) (h1 : 1 ≤ n) (h9 : n ≤ 9) : numU (allB X n false) 64 = ((X % 128 ^ n : Nat) : Int) ∧ cntU (allB X n false) 64 = (n : Int) := by
  unfold numU cntU
  rw [okU_allB X n h1 h9, if_pos rfl, if_pos rfl, used_allB X n false h1 (.inr rfl), run_allB X n false h1]
  exact ⟨rfl, rfl⟩
theorem encU_allB (X n : Nat) (h1 : 1 ≤ n) (h : X < 128 ^ n) (h2 : n = 1 ∨ 128 ^ (n - 1) ≤ X) : encU X = allB X n false := by
  obtain ⟨k, rfl⟩ : ∃ k, n = k + 1 := ⟨n - 1, by omega⟩
  rw [Nat.add_sub_cancel] at h2
  rw [encU_pre k X h (by omega), allB, lastB_low _ _ _ (.inr rfl), Nat.add_sub_cancel]
  have : X / 128 ^ k < 128 := by
    rw [Nat.div_lt_iff_lt_mul (Nat.pow_pos (by decide)), Nat.mul_comm, ← Nat.pow_succ]; exact h
  rw [Nat.mod_eq_of_lt this]
/-- A number that n bytes can hold, signed. -/
def inS (N : Int) (n : Nat) : Prop := -(64 * 128 ^ (n - 1)) ≤ N ∧ N < 64 * 128 ^ (n - 1)
theorem wrap_mod (X n : Nat) (h : n ≤ 9) : wrap64 (X : Int) % ((128 ^ n : Nat) : Int) = (X : Int) % ((128 ^ n : Nat) : Int) := by
  have hd : 128 ^ n ∣ 18446744073709551616 := by
    rw [pow128, show (18446744073709551616 : Nat) = 2 ^ 64 from rfl]; exact Nat.pow_dvd_pow 2 (by omega)
  obtain ⟨q, hq⟩ := hd
  have e : wrap64 (X : Int) = (X : Int) + ((128 ^ n : Nat) : Int) * ((q : Int) * (-(((X : Int) + 9223372036854775808) / 18446744073709551616))) := by
    rw [← Int.mul_assoc, ← Int.natCast_mul, ← hq]
    unfold wrap64
    omega
  rw [e, Int.add_mul_emod_self_left]
theorem sused_allB (X n : Nat) (h1 : 1 ≤ n) (h9 : n ≤ 9) : -(64 * 128 ^ (n - 1)) ≤ sused (allB X n true) ∧ sused (allB X n true) < 64 * 128 ^ (n - 1) ∧ sused (allB X n true) % ((128 ^ n : Nat) : Int) = (X : Int) % ((128 ^ n : Nat) : Int) := by
  unfold sused
  rw [run_allB X n true h1, used_allB X n true h1 (.inl h9)]
  have hm : X % 128 ^ n < 128 ^ n := Nat.mod_lt _ (Nat.pow_pos (by decide))
  have e1 : (128 : Nat) ^ n = 2 * (64 * 128 ^ (n - 1)) := by
    obtain ⟨k, rfl⟩ : ∃ k, n = k + 1 := ⟨n - 1, by omega⟩
    rw [Nat.add_sub_cancel, Nat.pow_succ]; omega
  have e2 : (64 * (128 : Int) ^ (n - 1)) = ((64 * 128 ^ (n - 1) : Nat) : Int) := by simp
  have e3 : ((X % 128 ^ n : Nat) : Int) = (X : Int) % ((128 ^ n : Nat) : Int) := by simp
  rw [e2]
  generalize 64 * 128 ^ (n - 1) = H at *
  generalize 128 ^ n = P at *
  have h5 := Int.emod_emod_of_dvd (X : Int) (Int.dvd_refl (P : Int))
  split
  · refine ⟨by omega, by omega, ?_⟩
    rw [e3]; exact h5
  · refine ⟨by omega, by omega, ?_⟩
    rw [Int.sub_emod_right, e3]; exact h5
theorem pow9i (n : Nat) (h1 : 1 ≤ n) (h : n ≤ 9) : (64 * (128 : Int) ^ (n - 1)) ≤ 4611686018427387904 := by
  have := pow9 n h
  have e1 : (128 : Nat) ^ n = 2 * (64 * 128 ^ (n - 1)) := by
    obtain ⟨k, rfl⟩ : ∃ k, n = k + 1 := ⟨n - 1, by omega⟩
    rw [Nat.add_sub_cancel, Nat.pow_succ]; omega
  have e2 : (64 * (128 : Int) ^ (n - 1)) = ((64 * 128 ^ (n - 1) : Nat) : Int) := by simp
  rw [e2]; omega
theorem okS_allB (X n : Nat) (h1 : 1 ≤ n) (h9 : n ≤ 9) : okS (allB X n true) 64 = true := by
  unfold okS
  obtain ⟨a, b, _⟩ := sused_allB X n h1 h9
  have hp := pow9i n h1 h9
  rw [decide_eq_true_iff, run_allB X n true h1]
  have e : ((2 : Int) ^ ((64 : Int) - 1).toNat) = 9223372036854775808 := by decide
  rw [e]
  refine ⟨by decide, by decide, by omega, by omega, by omega, by omega⟩
/-- Two numbers in one range of P numbers that are alike modulo P are one. -/
theorem same_mod (x y P H : Int) (hP : P = 2 * H) (h : x % P = y % P) (a : -H ≤ x) (b : x < H) (c : -H ≤ y) (d : y < H) : x = y := by
  have h1 := Int.mul_ediv_add_emod x P
  have h2 := Int.mul_ediv_add_emod y P
  have h3 : x - y = P * (x / P - y / P) := by rw [Int.mul_sub]; omega
  by_cases hz : x / P - y / P = 0
  · rw [hz] at h3; omega
  · exfalso
    rcases Int.lt_or_gt_of_ne hz with hlt | hgt
    · have : P * (x / P - y / P) ≤ P * (-1) := Int.mul_le_mul_of_nonneg_left (by omega) (by omega)
      omega
    · have : P * 1 ≤ P * (x / P - y / P) := Int.mul_le_mul_of_nonneg_left (by omega) (by omega)
      omega
theorem wrap_emod (X : Nat) (h : X < 18446744073709551616) : wrap64 (X : Int) % 18446744073709551616 = (X : Int) := by
  unfold wrap64; omega
theorem wrap_of_emod (X : Nat) (S : Int) (h : S % 18446744073709551616 = (X : Int)) (a : -9223372036854775808 ≤ S) (b : S ≤ 9223372036854775807) : wrap64 (X : Int) = S := by
  unfold wrap64; omega
theorem numS_allB (X n : Nat) (hX : X < 18446744073709551616) (h1 : 1 ≤ n) (h9 : n ≤ 9) :
    (numS (allB X n true) 64 % 18446744073709551616 = (X : Int) ↔ inS (wrap64 (X : Int)) n) ∧ cntS (allB X n true) 64 = (n : Int) := by
  unfold numS cntS
  rw [okS_allB X n h1 h9, if_pos rfl, if_pos rfl, run_allB X n true h1]
  refine ⟨?_, rfl⟩
  obtain ⟨a, b, c⟩ := sused_allB X n h1 h9
  have hp := pow9i n h1 h9
  have hw := wrap_mod X n h9
  have e1 : (((128 : Nat) ^ n : Nat) : Int) = 2 * (64 * 128 ^ (n - 1)) := by
    have e1 : (128 : Nat) ^ n = 2 * (64 * 128 ^ (n - 1)) := by
      obtain ⟨k, rfl⟩ : ∃ k, n = k + 1 := ⟨n - 1, by omega⟩
      rw [Nat.add_sub_cancel, Nat.pow_succ]; omega
    rw [e1]; simp
  unfold inS
  generalize (64 * (128 : Int) ^ (n - 1)) = H at *
  generalize sused (allB X n true) = S at *
  constructor
  · intro h
    rw [wrap_of_emod X S h (by omega) (by omega)]; exact ⟨a, b⟩
  · rintro ⟨h2, h3⟩
    have : S = wrap64 (X : Int) := same_mod S (wrap64 (X : Int)) _ H e1 (c.trans hw.symm) a b h2 h3
    rw [this]; exact wrap_emod X hX
theorem encS_allB (X n : Nat) (hX : X < 18446744073709551616) (h1 : 1 ≤ n) (h10 : n ≤ 10) (h : n = 10 ∨ inS (wrap64 (X : Int)) n) (h2 : n = 1 ∨ ¬ inS (wrap64 (X : Int)) (n - 1)) : encS (wrap64 (X : Int)) = allB X n true := by
  obtain ⟨k, rfl⟩ : ∃ k, n = k + 1 := ⟨n - 1, by omega⟩
  rw [Nat.add_sub_cancel] at h2
  have hN : -9223372036854775808 ≤ wrap64 (X : Int) ∧ wrap64 (X : Int) ≤ 9223372036854775807 := by unfold wrap64; omega
  have hrange : -(64 * 128 ^ k) ≤ wrap64 (X : Int) ∧ wrap64 (X : Int) < 64 * 128 ^ k := by
    rcases h with h | h
    · obtain rfl : k = 9 := by omega
      have e : (64 * (128 : Int) ^ 9) = 590295810358705651712 := by decide
      rw [e]; omega
    · exact h
  rw [encS_pre k _ hrange.1 hrange.2 (by
    rcases h2 with h2 | h2
    · left; omega
    · rcases Nat.eq_zero_or_pos k with h3 | h3
      · left; exact h3
      · right; exact h2)]
  have e0 : ∀ j : Nat, (128 : Int) ^ j = ((128 ^ j : Nat) : Int) := fun j => by simp
  have hpre : pre (wrap64 (X : Int)) k = pre (X : Int) k := pre_congr k _ _ (by rw [e0]; exact wrap_mod X k (by omega))
  unfold allB
  rw [Nat.add_sub_cancel, hpre]
  congr 3
  by_cases h9 : k ≤ 8
  · rw [lastB_low X (k + 1) true (.inl (by omega)), Nat.add_sub_cancel]
    have hw := wrap_mod X (k + 1) (by omega)
    rw [← e0, Int.pow_succ, emod_mul _ _ _ (Int.pow_pos (by decide)) (by decide), emod_mul _ _ _ (Int.pow_pos (by decide)) (by decide)] at hw
    have hw2 := wrap_mod X k (by omega)
    rw [← e0] at hw2
    rw [hw2] at hw
    have hp : (0 : Int) < 128 ^ k := Int.pow_pos (by decide)
    have h5 : wrap64 (X : Int) / 128 ^ k % 128 = (X : Int) / 128 ^ k % 128 := Int.eq_of_mul_eq_mul_left (Int.ne_of_gt hp) (by omega)
    rw [h5]
    have e2 : ((X / 128 ^ k % 128 : Nat) : Int) = (X : Int) / (128 : Int) ^ k % 128 := by simp
    rw [← e2]; rfl
  · obtain rfl : k = 9 := by omega
    have e : ((128 : Int) ^ 9) = 9223372036854775808 := by decide
    have e' : ((128 : Nat) ^ 9) = 9223372036854775808 := by decide
    unfold lastB
    rw [e, Nat.add_sub_cancel, e']
    by_cases hx : X < 9223372036854775808
    · have : wrap64 (X : Int) = X := by unfold wrap64; omega
      rw [this, if_neg (by omega)]; omega
    · have : wrap64 (X : Int) = (X : Int) - 18446744073709551616 := by unfold wrap64; omega
      rw [this, if_pos (by refine ⟨rfl, rfl, by omega⟩)]; omega
end Leb
