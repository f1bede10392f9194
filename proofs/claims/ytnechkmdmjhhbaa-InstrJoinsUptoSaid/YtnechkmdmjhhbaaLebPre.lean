/-
  Plain mathematics of numbers of variable length: their first bytes, and when these are the fewest.
-/
import Derived.Test.YtnechkmdmjhhbaaLebEnc
import Derived.Test.YtnechkmdmjhhbaaLebFits
namespace Leb
open Go Go.RowKit
/-- The first k bytes of a number, each going on. -/
def pre : Int → Nat → List UInt8
  | _, 0 => []
  | x, k + 1 => UInt8.ofNat ((x % 128).toNat + 128) :: pre (x / 128) k
theorem pre_length : ∀ (k : Nat) (x : Int), (pre x k).length = k
  | 0, _ => rfl
  | k + 1, x => by simp [pre, pre_length k]
theorem pre_snoc : ∀ (k : Nat) (x : Int), pre x (k + 1) = pre x k ++ [UInt8.ofNat ((x / 128 ^ k % 128).toNat + 128)]
  | 0, x => by simp [pre]
  | k + 1, x => by
    rw [pre, pre_snoc k (x / 128), pre, List.cons_append, Int.ediv_ediv_of_nonneg (by decide), Int.pow_succ, Int.mul_comm 128]
theorem run_pre : ∀ (k : Nat) (x : Int) (b : UInt8) (r : List UInt8), b.toNat < 128 → run (pre x k ++ b :: r) = k + 1
  | 0, x, b, r, hb => by simp [pre, run, hb]
  | k + 1, x, b, r, hb => by
    rw [pre, List.cons_append, run, byte_of _ (by omega), if_neg (by omega), run_pre k _ b r hb, if_neg (by omega)]
theorem val_pre : ∀ (k : Nat) (x : Int) (b : UInt8), b.toNat < 128 → (val (pre x k ++ [b]) : Int) = x % 128 ^ k + 128 ^ k * (b.toNat : Int)
  | 0, x, b, hb => by simp [pre, val]; omega
  | k + 1, x, b, hb => by
    rw [pre, List.cons_append, val, byte_of _ (by omega)]
    have ih := val_pre k (x / 128) b hb
    have e := emod_two x (128 ^ k) (Int.pow_pos (by decide))
    rw [Int.pow_succ, e]
    have e3 : (128 : Int) ^ k * 128 * (b.toNat : Int) = 128 * (128 ^ k * (b.toNat : Int)) := by rw [Int.mul_comm ((128 : Int) ^ k) 128, Int.mul_assoc]
    rw [e3]
    generalize (128 : Int) ^ k * (b.toNat : Int) = q at *
    generalize x / 128 % 128 ^ k = s at *
    omega
theorem pre_congr : ∀ (k : Nat) (x y : Int), x % 128 ^ k = y % 128 ^ k → pre x k = pre y k
  | 0, _, _, _ => rfl
  | k + 1, x, y, h => by
    rw [Int.pow_succ, emod_two x _ (Int.pow_pos (by decide)), emod_two y _ (Int.pow_pos (by decide))] at h
    have hx0 := Int.emod_nonneg (x / 128) (show (128 : Int) ^ k ≠ 0 from Int.ne_of_gt (Int.pow_pos (by decide)))
    have hy0 := Int.emod_nonneg (y / 128) (show (128 : Int) ^ k ≠ 0 from Int.ne_of_gt (Int.pow_pos (by decide)))
    have h1 : x % 128 = y % 128 := by omega
    have h2 : x / 128 % 128 ^ k = y / 128 % 128 ^ k := by omega
    rw [pre, pre, h1, pre_congr k _ _ h2]
theorem encU_pre : ∀ (k x : Nat), x < 128 ^ (k + 1) → (k = 0 ∨ 128 ^ k ≤ x) → encU x = pre (x : Int) k ++ [UInt8.ofNat (x / 128 ^ k)]
  | 0, x, h, _ => by
    rw [encU_small (by simpa using h)]; simp [pre]
  | k + 1, x, h, h2 => by
    have h3 : 128 ^ (k + 1) ≤ x := by omega
    rw [Nat.pow_succ] at h
    have hp : 1 ≤ 128 ^ k := Nat.pow_pos (by decide)
    have h128 : 128 ≤ x := by rw [Nat.pow_succ] at h3; omega
    rw [encU_big h128, pre, List.cons_append]
    have ih := encU_pre k (x / 128) (by omega) (by
      right
      rw [Nat.pow_succ] at h3
      omega)
    rw [ih]
    have e1 : ((x : Int) % 128).toNat = x % 128 := by omega
    have e2 : ((x : Int) / 128) = ((x / 128 : Nat) : Int) := by omega
    rw [e1, e2, Nat.div_div_eq_div_mul, Nat.pow_succ, Nat.mul_comm 128]
theorem encS_pre : ∀ (k : Nat) (x : Int), -(64 * 128 ^ k) ≤ x → x < 64 * 128 ^ k → (k = 0 ∨ ¬ (-(64 * 128 ^ (k - 1)) ≤ x ∧ x < 64 * 128 ^ (k - 1))) → encS x = pre x k ++ [UInt8.ofNat (x / 128 ^ k % 128).toNat]
  | 0, x, h, h1, _ => by
    rw [encS_small (by simp at h h1; omega)]; simp [pre]
  | k + 1, x, h, h1, h2 => by
    rw [Nat.add_sub_cancel] at h2
    have hp : (1 : Int) ≤ 128 ^ k := Int.pow_pos (by decide)
    have hbig : ¬ (-64 ≤ x ∧ x ≤ 63) := by omega
    rw [Int.pow_succ] at h h1
    rw [encS_big hbig, pre, List.cons_append]
    have ih := encS_pre k (x / 128) (by omega) (by omega) (by
      rcases Nat.eq_zero_or_pos k with hk | hk
      · left; exact hk
      · right
        obtain ⟨j, rfl⟩ : ∃ j, k = j + 1 := ⟨k - 1, by omega⟩
        rw [Nat.add_sub_cancel]
        rw [Int.pow_succ] at h2
        omega)
    rw [ih, Int.ediv_ediv_of_nonneg (by decide), Int.pow_succ, Int.mul_comm 128]
end Leb
