/-
  Plain mathematics of numbers of variable length: what was taken, taken again and appended.
-/
import Derived.Test.YtnechkmdmjhhbaaLebFew
namespace Leb
open Go Go.RowKit
theorem run_take : ∀ (l : List UInt8), 1 ≤ run l → run (l.take (run l)) = run l
  | [], h => by simp [run] at h
  | b :: r, h => by
    by_cases hb : b.toNat < 128
    · have e : run (b :: r) = 1 := by rw [run, if_pos hb]
      rw [e]; simp [hb, run]
    · by_cases hr : run r = 0
      · rw [run, if_neg hb, if_pos hr] at h; omega
      · have e : run (b :: r) = run r + 1 := by rw [run, if_neg hb, if_neg hr]
        rw [e, List.take_succ_cons, run, if_neg hb, run_take r (by omega), if_neg hr]
theorem used_take (l : List UInt8) (h : 1 ≤ run l) : used (l.take (run l)) = used l := by
  unfold used
  rw [run_take l h, List.take_take, Nat.min_self]
theorem sused_take (l : List UInt8) (h : 1 ≤ run l) : sused (l.take (run l)) = sused l := by
  unfold sused
  rw [used_take l h, run_take l h]
theorem okU_run1 {l : List UInt8} {b : Int} (h : okU l b = true) : 1 ≤ run l ∧ 1 ≤ b ∧ b ≤ 64 := by
  unfold okU at h; rw [decide_eq_true_iff] at h; exact ⟨h.2.2.1, h.1, h.2.1⟩
theorem okS_run1 {l : List UInt8} {b : Int} (h : okS l b = true) : 1 ≤ run l ∧ 1 ≤ b ∧ b ≤ 64 := by
  unfold okS at h; rw [decide_eq_true_iff] at h; exact ⟨h.2.2.1, h.1, h.2.1⟩
theorem okU_take {l : List UInt8} {b : Int} (h : 1 ≤ run l) : okU (l.take (run l)) b = okU l b := by
  unfold okU; rw [run_take l h, used_take l h]
theorem okS_take {l : List UInt8} {b : Int} (h : 1 ≤ run l) : okS (l.take (run l)) b = okS l b := by
  unfold okS; rw [run_take l h, sused_take l h]
theorem shortU {l : List UInt8} (h : 1 ≤ run l) : (encU (used l)).length ≤ run l := encU_le (run l) (used l) h (used_lt7 l)
theorem shortS {l : List UInt8} (h : 1 ≤ run l) : (encS (sused l)).length ≤ run l := by
  have hr := sval_range (l.take (run l)) (by rw [length_used]; exact h)
  rw [← sused_eq, length_used] at hr
  have e : (2 : Nat) ^ (7 * run l - 1) = 64 * 128 ^ (run l - 1) := by
    obtain ⟨k, hk⟩ : ∃ k, run l = k + 1 := ⟨run l - 1, by omega⟩
    rw [hk, Nat.add_sub_cancel, pow128, show 7 * (k + 1) - 1 = 6 + 7 * k by omega, Nat.pow_add]
  rw [e] at hr
  have := encS_le (run l - 1) (sused l) hr.1 hr.2
  omega
theorem fitsU {l : List UInt8} {b : Int} (h : okU l b = true) : (used l : Int) / 2 ^ b.toNat = 0 := by
  unfold okU at h; rw [decide_eq_true_iff] at h
  exact Int.ediv_eq_zero_of_lt (by omega) h.2.2.2.2
theorem fitsS {l : List UInt8} {b : Int} (h : okS l b = true) : sused l / 2 ^ (b - 1).toNat = 0 ∨ sused l / 2 ^ (b - 1).toNat = -1 := by
  unfold okS at h; rw [decide_eq_true_iff] at h
  exact (above_sused _).2 h.2.2.2.2
end Leb
