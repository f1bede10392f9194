/-
  The contracts of opc's functions that only compute: within, Float, Known, Width, Form, typeOf: for every opcode they tell what the plain functions tell, and change nothing.
-/
import Derived.Test.YtknnkmakfcfnjaaDoorRows
import Derived.Test.YtknnkmakfcfnjaaDoorOpcTab
import Derived.WalkKit
import Derived.RegionTactic
import Derived.Below
import Derived.Outline
import Derived.Lib.Hide
namespace Go.Proofs.YtknnkmakfcfnjaaDoor
open Go.RowKit
theorem ret_b {a b : Bool} (h : a = b) : Ending.returned (.bool a) = .returned (.bool b) := by rw [h]
theorem ret_i {k : IntKind} {a b : Int} (h : a = b) : Ending.returned (.int k a) = .returned (.int k b) := by rw [h]
theorem within_any (x a b : Int) (w : World) : Calls Tryd.prog 22 #[.int .u8 x, .int .u8 a, .int .u8 b] w fun e w' => e = .returned (.bool (Opc.within x a b)) ∧ w = w' := by
  by_cases h1 : a ≤ x
  · by_cases h2 : x ≤ b
    · go_enter Tryd.func22, Tryd.ntmps22
      go_wp2
      go_ret
      exact ⟨ret_b (by simp [Opc.within, h1, h2]), rfl⟩
    · go_enter Tryd.func22, Tryd.ntmps22
      go_wp2
      go_ret
      exact ⟨ret_b (by simp [Opc.within, h2]), rfl⟩
  · have h3 : decide (a ≤ x) = false := by simpa using h1
    go_enter Tryd.func22, Tryd.ntmps22
    go_wp2
    go_ret
    exact ⟨ret_b (by rw [Opc.within, h3]; rfl), rfl⟩
theorem width_any (x : Int) (w : World) : Calls Tryd.prog 21 #[.int .u8 x] w fun e w' => e = .returned (.int .i64 (Opc.width x)) ∧ w = w' := by
  go_enter Tryd.func21, Tryd.ntmps21
  go_wp2
  all_goals (go_ret; exact ⟨ret_i (by unfold Opc.width; simp_all), rfl⟩)
theorem float_any (x : Int) (w : World) : Calls Tryd.prog 23 #[.int .u8 x] w fun e w' => e = .returned (.bool (Opc.float x)) ∧ w = w' := by
  cases h1 : Opc.within x 91 102
  case true =>
    go_enter Tryd.func23, Tryd.ntmps23
    go_wp2_with (go_at_call 22; refine (within_any _ _ _ _).mono ?_; rintro e w' ⟨rfl, rfl⟩)
    all_goals (go_ret; exact ⟨ret_b (by unfold Opc.float; simp_all), rfl⟩)
  cases h2 : Opc.within x 139 166
  case true =>
    go_enter Tryd.func23, Tryd.ntmps23
    go_wp2_with (go_at_call 22; refine (within_any _ _ _ _).mono ?_; rintro e w' ⟨rfl, rfl⟩)
    all_goals (go_ret; exact ⟨ret_b (by unfold Opc.float; simp_all), rfl⟩)
  cases h3 : Opc.within x 168 171
  case true =>
    go_enter Tryd.func23, Tryd.ntmps23
    go_wp2_with (go_at_call 22; refine (within_any _ _ _ _).mono ?_; rintro e w' ⟨rfl, rfl⟩)
    all_goals (go_ret; exact ⟨ret_b (by unfold Opc.float; simp_all), rfl⟩)
  go_enter Tryd.func23, Tryd.ntmps23
  go_wp2_with (go_at_call 22; refine (within_any _ _ _ _).mono ?_; rintro e w' ⟨rfl, rfl⟩)
  all_goals (go_ret; exact ⟨ret_b (by unfold Opc.float; simp_all), rfl⟩)
theorem known_any (x : Int) (w : World) : Calls Tryd.prog 20 #[.int .u8 x] w fun e w' => e = .returned (.bool (Opc.known x)) ∧ w = w' := by
  cases h0 : Opc.within x 40 191
  case true =>
    go_enter Tryd.func20, Tryd.ntmps20
    go_wp2_with (first | (go_at_call 22; refine (within_any _ _ _ _).mono ?_; rintro e w' ⟨rfl, rfl⟩) | (go_at_call 23; refine (float_any _ _).mono ?_; rintro e w' ⟨rfl, rfl⟩))
    all_goals (go_ret; exact ⟨ret_b (by unfold Opc.known; simp_all), rfl⟩)
  cases h1 : Opc.within x 0 5
  case true =>
    go_enter Tryd.func20, Tryd.ntmps20
    go_wp2_with (go_at_call 22; refine (within_any _ _ _ _).mono ?_; rintro e w' ⟨rfl, rfl⟩)
    all_goals (go_ret; exact ⟨ret_b (by unfold Opc.known; simp_all), rfl⟩)
  cases h2 : Opc.within x 11 17
  case true =>
    go_enter Tryd.func20, Tryd.ntmps20
    go_wp2_with (go_at_call 22; refine (within_any _ _ _ _).mono ?_; rintro e w' ⟨rfl, rfl⟩)
    all_goals (go_ret; exact ⟨ret_b (by unfold Opc.known; simp_all), rfl⟩)
  cases h3 : Opc.within x 26 27
  case true =>
    go_enter Tryd.func20, Tryd.ntmps20
    go_wp2_with (go_at_call 22; refine (within_any _ _ _ _).mono ?_; rintro e w' ⟨rfl, rfl⟩)
    all_goals (go_ret; exact ⟨ret_b (by unfold Opc.known; simp_all), rfl⟩)
  go_enter Tryd.func20, Tryd.ntmps20
  go_wp2_with (go_at_call 22; refine (within_any _ _ _ _).mono ?_; rintro e w' ⟨rfl, rfl⟩)
  all_goals (go_ret; exact ⟨ret_b (by unfold Opc.known; simp_all), rfl⟩)
end Go.Proofs.YtknnkmakfcfnjaaDoor
