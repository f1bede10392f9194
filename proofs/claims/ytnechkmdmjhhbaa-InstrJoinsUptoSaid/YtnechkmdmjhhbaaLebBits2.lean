/-
  Plain mathematics of numbers of variable length: what was appended is taken by as many bits as it has, by fewer not; cut it is not taken.
-/
import Derived.Test.YtnechkmdmjhhbaaLebAgain
import Derived.Lib.BitFns
namespace Leb
open Go Go.RowKit
theorem bitLenAux_lt : ∀ (f x k : Nat), x < 2 ^ f → Lib.bitLenAux f x ≤ k → x < 2 ^ k
  | 0, x, k, h, _ => by
    have : x = 0 := by simp at h; omega
    subst this; exact Nat.pow_pos (by decide)
  | f + 1, x, k, h, hk => by
    unfold Lib.bitLenAux at hk
    by_cases h0 : x = 0
    · subst h0; exact Nat.pow_pos (by decide)
    · rw [if_neg h0] at hk
      obtain ⟨j, rfl⟩ : ∃ j, k = j + 1 := ⟨k - 1, by omega⟩
      rw [Nat.pow_succ] at h ⊢
      have := bitLenAux_lt f (x / 2) j (by omega) (by omega)
      omega
theorem bitLen_iff (x k : Nat) (hx : x < 18446744073709551616) (hk : k ≤ 64) : Lib.bitLen x ≤ k ↔ x < 2 ^ k :=
  ⟨fun h => bitLenAux_lt 64 x k hx h, fun h => Lib.bitLen_le x k hk h⟩
theorem bitLen_64 (x : Nat) (hx : x < 18446744073709551616) : Lib.bitLen x ≤ 64 := Lib.bitLen_le x 64 (Nat.le_refl _) hx
theorem run_take_lt : ∀ (l : List UInt8) (i : Nat), i < run l → run (l.take i) = 0
  | [], i, h => by simp [run] at h
  | b :: r, 0, h => by simp [run]
  | b :: r, i + 1, h => by
    rw [List.take_succ_cons]
    unfold run at h ⊢
    by_cases hb : b.toNat < 128
    · rw [if_pos hb] at h; omega
    · rw [if_neg hb] at h ⊢
      by_cases hr : run r = 0
      · rw [if_pos hr] at h; omega
      · rw [if_neg hr] at h
        rw [run_take_lt r i (by omega), if_pos rfl]
theorem okU_cut {X i : Nat} (h : i < (encU X).length) (b : Int) : okU ((encU X).take i) b = false := by
  apply okU_run
  left
  apply run_take_lt
  have := run_encU X []
  rw [List.append_nil] at this
  omega
/-- What was appended is taken by as many bits as it has. -/
theorem okU_encU (X : Nat) (r : List UInt8) (b : Int) (hX : X < 18446744073709551616) (h1 : 1 ≤ b) (h64 : b ≤ 64) : okU (encU X ++ r) b = decide (max (Lib.bitLen X : Int) 1 ≤ b) := by
  obtain ⟨m, rfl⟩ : ∃ m : Nat, b = m := ⟨b.toNat, by omega⟩
  have hi := bitLen_iff X m hX (by omega)
  have e2 : ((2 : Int) ^ (m : Int).toNat) = ((2 ^ m : Nat) : Int) := by simp
  unfold okU
  rw [Bool.eq_iff_iff, decide_eq_true_iff, decide_eq_true_iff, run_encU, used_encU, e2]
  have hp := encU_pos X
  constructor
  · rintro ⟨_, _, _, _, h5⟩
    have := hi.2 (by omega)
    omega
  · intro h
    have h2 : X < 2 ^ m := hi.1 (by omega)
    have h3 : (2 : Nat) ^ m ≤ 2 ^ (7 * ((m + 6) / 7)) := Nat.pow_le_pow_right (by decide) (by omega)
    have h4 := encU_le ((m + 6) / 7) X (by omega) (by omega)
    exact ⟨h1, h64, hp, by omega, by omega⟩
/-- A signed number's bits, without the sign. -/
def mag (N : Int) : Nat := if 0 ≤ N then N.toNat else (-N - 1).toNat
theorem mag_iff (N : Int) (k : Nat) : mag N < 2 ^ k ↔ (-((2 ^ k : Nat) : Int) ≤ N ∧ N < ((2 ^ k : Nat) : Int)) := by
  have hp : 0 < (2 : Nat) ^ k := Nat.pow_pos (by decide)
  generalize (2 : Nat) ^ k = P at *
  unfold mag
  split <;> omega
theorem mag_lt (N : Int) (h0 : -9223372036854775808 ≤ N) (h1 : N ≤ 9223372036854775807) : mag N < 9223372036854775808 := by
  unfold mag; split <;> omega
theorem okS_encS (N : Int) (r : List UInt8) (b : Int) (hN0 : -9223372036854775808 ≤ N) (hN1 : N ≤ 9223372036854775807) (h1 : 1 ≤ b) (h64 : b ≤ 64) : okS (encS N ++ r) b = decide ((Lib.bitLen (mag N) : Int) + 1 ≤ b) := by
  obtain ⟨m, rfl⟩ : ∃ m : Nat, b = (m : Int) + 1 := ⟨(b - 1).toNat, by omega⟩
  have hm := mag_lt N hN0 hN1
  have hi := bitLen_iff (mag N) m (by omega) (by omega)
  have e2 : ((2 : Int) ^ ((m : Int) + 1 - 1).toNat) = ((2 ^ m : Nat) : Int) := by
    rw [show ((m : Int) + 1 - 1).toNat = m by omega]; simp
  unfold okS
  rw [Bool.eq_iff_iff, decide_eq_true_iff, decide_eq_true_iff, run_encS, sused_encS, e2]
  have hp := encS_pos N
  have hq := mag_iff N m
  constructor
  · rintro ⟨_, _, _, _, h5⟩
    have := hi.2 (hq.2 h5)
    omega
  · intro h
    have h2 := hq.1 (hi.1 (by omega))
    have e3 : (2 : Nat) ^ (6 + 7 * (m / 7)) = 64 * 128 ^ (m / 7) := by rw [Nat.pow_add, pow128]
    have h3 : (2 : Nat) ^ m ≤ 2 ^ (6 + 7 * (m / 7)) := Nat.pow_le_pow_right (by decide) (by omega)
    have h4 := encS_le (m / 7) N (by omega) (by omega)
    exact ⟨h1, h64, hp, by omega, h2⟩
end Leb
