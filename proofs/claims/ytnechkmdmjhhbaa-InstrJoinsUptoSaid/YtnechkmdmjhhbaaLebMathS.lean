/-
  Plain mathematics of numbers of variable length, over lists of bytes: signed ones.
-/
import Derived.Test.YtnechkmdmjhhbaaLebMath
import Derived.IntWalk
namespace Leb
open Go Go.RowKit
/-- What is used, as a signed number. -/
def sused (l : List UInt8) : Int := if 2 * used l < 128 ^ run l then (used l : Int) else (used l : Int) - (128 ^ run l : Nat)
def okS (l : List UInt8) (n : Int) : Bool := decide (1 ≤ n ∧ n ≤ 64 ∧ 1 ≤ run l ∧ 7 * ((run l : Int) - 1) < n ∧ -(2 ^ (n - 1).toNat) ≤ sused l ∧ sused l < 2 ^ (n - 1).toNat)
def numS (l : List UInt8) (n : Int) : Int := if okS l n = true then sused l else 0
def cntS (l : List UInt8) (n : Int) : Int := if okS l n = true then (run l : Int) else 0
theorem okS_bits {l : List UInt8} {n : Int} (h : n < 1 ∨ 64 < n) : okS l n = false := by
  unfold okS; rw [decide_eq_false_iff_not]; omega
theorem okS_end {l : List UInt8} {n : Int} {k : Nat} (hb : big l k) (h : l.length ≤ k ∨ n ≤ 7 * (k : Int)) : okS l n = false := by
  unfold okS; rw [decide_eq_false_iff_not]
  rintro ⟨_, _, h1, h2, _⟩
  rcases h with h | h
  · have := run_none hb h; omega
  · rcases run_big hb with h0 | h0 <;> omega
/-- The last byte's seven bits, as a signed number. -/
def top (x : Nat) : Int := if x < 64 then (x : Int) else (x : Int) - 128
theorem sused_at {l : List UInt8} {k : Nat} {x : UInt8} (hb : big l k) (h : l[k]? = some x) (hx : x.toNat < 128) : sused l = (val (l.take k) : Int) + (2 ^ (7 * k) : Nat) * top x.toNat := by
  have hr := run_at hb h hx
  have hu := used_at hb h hx
  have hv := val_take_lt h
  unfold sused top
  rw [hr, hu, Nat.pow_succ, pow128]
  generalize 2 ^ (7 * k) = P at *
  generalize val (l.take k) = v at *
  generalize x.toNat = y at *
  by_cases h6 : y < 64
  · have h7 : P * (y + 1) ≤ P * 64 := Nat.mul_le_mul_left _ (by omega)
    rw [Nat.mul_add] at h7
    rw [if_pos (by omega), if_pos h6]
    simp
  · have h7 : P * 64 ≤ P * y := Nat.mul_le_mul_left _ (by omega)
    rw [if_neg (by omega), if_neg h6, Int.mul_sub]
    simp; omega
theorem range_iff (v P E t : Int) (hP : 0 < P) (h0 : 0 ≤ v) (h1 : v < P) : (-(P * E) ≤ v + P * t ∧ v + P * t < P * E) ↔ (-E ≤ t ∧ t < E) := by
  constructor
  · rintro ⟨h2, h3⟩
    constructor
    · apply Int.not_lt.1; intro hlt
      have : P * t ≤ P * (-E - 1) := Int.mul_le_mul_of_nonneg_left (by omega) (by omega)
      rw [Int.mul_sub, Int.mul_neg, Int.mul_one] at this
      omega
    · apply Int.not_le.1; intro hle
      have : P * E ≤ P * t := Int.mul_le_mul_of_nonneg_left hle (by omega)
      omega
  · rintro ⟨h2, h3⟩
    have a1 : P * (-E) ≤ P * t := Int.mul_le_mul_of_nonneg_left h2 (by omega)
    have a2 : P * t ≤ P * (E - 1) := Int.mul_le_mul_of_nonneg_left (by omega) (by omega)
    rw [Int.mul_neg] at a1
    rw [Int.mul_sub, Int.mul_one] at a2
    omega
theorem above_iff (t E : Int) (hE : 0 < E) : (t / E = 0 ∨ t / E = -1) ↔ (-E ≤ t ∧ t < E) := by
  have h1 := Int.mul_ediv_add_emod t E
  have h2 := Int.emod_nonneg t (show E ≠ 0 by omega)
  have h3 := Int.emod_lt_of_pos t hE
  constructor
  · rintro (h | h)
    · rw [h] at h1; omega
    · rw [h] at h1; omega
  · rintro ⟨a, b⟩
    have l1 : -1 ≤ t / E := by
      apply Int.not_lt.1; intro hlt
      have : E * (t / E) ≤ E * (-2) := Int.mul_le_mul_of_nonneg_left (by omega) (by omega)
      omega
    have l2 : t / E ≤ 0 := by
      apply Int.not_lt.1; intro hlt
      have : E * 1 ≤ E * (t / E) := Int.mul_le_mul_of_nonneg_left (by omega) (by omega)
      omega
    omega
theorem top_range (x : Nat) (hx : x < 128) : -64 ≤ top x ∧ top x < 64 := by unfold top; split <;> omega
theorem okS_last {l : List UInt8} {n : Int} {k : Nat} {x : UInt8} (hb : big l k) (h : l[k]? = some x) (hx : x.toNat < 128) (h1 : 1 ≤ n) (h2 : n ≤ 64) (h3 : 7 * (k : Int) < n) (e : Nat) (he : (e : Int) = min (n - 7 * (k : Int)) 7 - 1) :
    okS l n = decide (top x.toNat / 2 ^ e = 0 ∨ top x.toNat / 2 ^ e = -1) := by
  obtain ⟨m, rfl⟩ : ∃ m : Nat, n = (m : Int) + 1 := ⟨(n - 1).toNat, by omega⟩
  have hr := run_at hb h hx
  have hu := sused_at hb h hx
  have hv := val_take_lt h
  have ht := top_range x.toNat hx
  have hm : ((m : Int) + 1 - 1).toNat = m := by omega
  unfold okS
  rw [Bool.eq_iff_iff, decide_eq_true_iff, decide_eq_true_iff, hr, hm, hu, above_iff _ _ (Int.pow_pos (by decide))]
  have e2 : ∀ j : Nat, ((2 : Int) ^ j) = ((2 ^ j : Nat) : Int) := fun j => by simp
  have hP : (0 : Int) < ((2 ^ (7 * k) : Nat) : Int) := by have := Nat.pow_pos (n := 7 * k) (show 0 < 2 by decide); omega
  have key := range_iff (val (l.take k) : Int) ((2 ^ (7 * k) : Nat) : Int) ((2 ^ (m - 7 * k) : Nat) : Int) (top x.toNat) hP (by omega) (by omega)
  have e3 : (2 : Int) ^ m = ((2 ^ (7 * k) : Nat) : Int) * ((2 ^ (m - 7 * k) : Nat) : Int) := by
    rw [← Int.natCast_mul, ← Nat.pow_add, show 7 * k + (m - 7 * k) = m by omega]; exact e2 m
  rw [e3, e2 e]
  by_cases h7 : m - 7 * k ≤ 6
  · have : e = m - 7 * k := by omega
    subst this
    constructor
    · rintro ⟨_, _, _, _, h5⟩; exact key.1 h5
    · intro h5; exact ⟨h1, h2, by omega, by omega, key.2 h5⟩
  · have h8 : e = 6 := by omega
    subst h8
    have h9 : (2 : Nat) ^ 6 ≤ 2 ^ (m - 7 * k) := Nat.pow_le_pow_right (by decide) (by omega)
    have h10 : (2 : Nat) ^ 6 = 64 := rfl
    constructor
    · intro _; omega
    · intro _; exact ⟨h1, h2, by omega, by omega, key.2 (by omega)⟩
theorem sused_lt {l : List UInt8} {n : Int} (h : okS l n = true) : -9223372036854775808 ≤ sused l ∧ sused l ≤ 9223372036854775807 := by
  unfold okS at h
  rw [decide_eq_true_iff] at h
  obtain ⟨h1, h2, _, _, h5, h6⟩ := h
  have e2 : ((2 : Int) ^ (n - 1).toNat) = ((2 ^ (n - 1).toNat : Nat) : Int) := by simp
  rw [e2] at h5 h6
  have h7 : (2 : Nat) ^ (n - 1).toNat ≤ 2 ^ 63 := Nat.pow_le_pow_right (by decide) (by omega)
  have h8 : (2 : Nat) ^ 63 = 9223372036854775808 := rfl
  omega
theorem ofInt_any (b : Int) : (BitVec.ofInt 64 b).toNat = (b % 18446744073709551616).toNat := by
  rw [BitVec.toNat_ofInt]; rfl
theorem or_i64 (v s : Nat) (t : Int) (hs : s ≤ 63) (hv : v < 2 ^ s) : bits .or .i64 (v : Int) (wrap64 (t * 2 ^ s)) = wrap64 ((v : Int) + ((2 ^ s : Nat) : Int) * t) := by
  have hp : (2 : Nat) ^ s ≤ 2 ^ 63 := Nat.pow_le_pow_right (by decide) hs
  have hp' : (2 : Nat) ^ 63 = 9223372036854775808 := rfl
  show IntKind.i64.wrap ((BitVec.ofInt 64 (v : Int) ||| BitVec.ofInt 64 (wrap64 (t * 2 ^ s))).toNat : Int) = _
  rw [BitVec.toNat_or, ofInt_any, ofInt_any, IntKind.wrap_i64]
  have e0 : ((v : Int) % 18446744073709551616).toNat = v := by omega
  have e1 : (wrap64 (t * 2 ^ s) % 18446744073709551616) = (((2 ^ s : Nat) : Int) * t) % 18446744073709551616 := by
    have : t * 2 ^ s = ((2 ^ s : Nat) : Int) * t := by rw [Int.mul_comm]; simp
    rw [this]; unfold wrap64; omega
  rw [e0, e1]
  have hd : (2 : Nat) ^ s ∣ 18446744073709551616 := by
    rw [show (18446744073709551616 : Nat) = 2 ^ 64 from rfl]; exact Nat.pow_dvd_pow 2 (by omega)
  have hm : ((((2 ^ s : Nat) : Int) * t) % 18446744073709551616).toNat % 2 ^ s = 0 := by
    have h1 : (((2 ^ s : Nat) : Int)) ∣ ((((2 ^ s : Nat) : Int) * t) % 18446744073709551616) := by
      have hd' : (((2 ^ s : Nat) : Int)) ∣ (18446744073709551616 : Int) := Int.natCast_dvd_natCast.2 hd
      rw [Int.emod_def]
      exact Int.dvd_sub (Int.dvd_mul_right _ _) (Int.dvd_trans hd' (Int.dvd_mul_right _ _))
    have h2 : 0 ≤ ((((2 ^ s : Nat) : Int) * t) % 18446744073709551616) := Int.emod_nonneg _ (by decide)
    obtain ⟨r, hr⟩ := Int.eq_ofNat_of_zero_le h2
    rw [hr] at h1 ⊢
    have h3 : (2 ^ s) ∣ r := Int.natCast_dvd_natCast.1 h1
    simpa using Nat.mod_eq_zero_of_dvd h3
  rw [Nat.or_comm, nat_join s _ v hm hv]
  have h2 : 0 ≤ ((((2 ^ s : Nat) : Int) * t) % 18446744073709551616) := Int.emod_nonneg _ (by decide)
  generalize ((2 ^ s : Nat) : Int) * t = z at *
  unfold wrap64
  omega
end Leb
