/-
  The contracts of opc's functions that only compute: within, Float, Known, Width, Form, typeOf: for every opcode they tell what the plain functions tell, and change nothing.
-/
import Derived.Test.YthkglmkpnhhboaaGreatDoorRows
import Derived.Test.YthkglmkpnhhboaaGreatDoorR01
import Derived.WalkKit
import Derived.RegionTactic
import Derived.Below
import Derived.Outline
import Derived.Lib.Hide
set_option maxRecDepth 100000
set_option maxHeartbeats 4000000
namespace Go.Proofs.YthkglmkpnhhboaaGreatDoor
open Go.RowKit
theorem cG {a b : Bool} (h : a = b) : Ending.returned (.bool a) = .returned (.bool b) := by rw [h]
theorem ret_i {k : IntKind} {a b : Int} (h : a = b) : Ending.returned (.int k a) = .returned (.int k b) := by rw [h]
theorem bh (x a b : Int) (w : World) : Calls Tryz.prog 170 #[.int .u8 x, .int .u8 a, .int .u8 b] w fun e w' => e = .returned (.bool (Opc.within x a b)) ∧ w = w' := by
 by_cases h1 : a ≤ x
 ·by_cases h2 : x ≤ b
  ·go_enter Tryz.func170, Tryz.ntmps170
   go_wp2
   go_ret
   exact ⟨cG (by simp [Opc.within, h1, h2]), rfl⟩
  ·go_enter Tryz.func170, Tryz.ntmps170
   go_wp2
   go_ret
   exact ⟨cG (by simp [Opc.within, h2]), rfl⟩
 ·have h3 : decide (a ≤ x) = false := by simpa using h1
  go_enter Tryz.func170, Tryz.ntmps170
  go_wp2
  go_ret
  exact ⟨cG (by rw [Opc.within, h3]; rfl), rfl⟩
theorem width_any (x : Int) (w : World) : Calls Tryz.prog 169 #[.int .u8 x] w fun e w' => e = .returned (.int .i64 (Opc.width x)) ∧ w = w' := by
 go_enter Tryz.func169, Tryz.ntmps169
 go_wp2
 all_goals (go_ret; exact ⟨ret_i (by unfold Opc.width; simp_all), rfl⟩)
theorem az (x : Int) (w : World) : Calls Tryz.prog 156 #[.int .u8 x] w fun e w' => e = .returned (.int .u8 (Opc.form x)) ∧ w = w' := by
 go_enter Tryz.func156, Tryz.ntmps156
 go_wp2_with (go_at_call 169; refine (width_any _ _).mono ?_; rintro e w' ⟨rfl, rfl⟩)
 all_goals (go_ret; exact ⟨ret_i (by unfold Opc.form; simp_all), rfl⟩)
theorem ik (x : Int) (w : World) : Calls Tryz.prog 171 #[.int .u8 x] w fun e w' => e = .returned (.bool (Opc.float x)) ∧ w = w' := by
 cases h1 : Opc.within x 91 102
 case true =>
  go_enter Tryz.func171, Tryz.ntmps171
  go_wp2_with (go_at_call 170; refine (bh _ _ _ _).mono ?_; rintro e w' ⟨rfl, rfl⟩)
  all_goals (go_ret; exact ⟨cG (by unfold Opc.float; simp_all), rfl⟩)
 cases h2 : Opc.within x 139 166
 case true =>
  go_enter Tryz.func171, Tryz.ntmps171
  go_wp2_with (go_at_call 170; refine (bh _ _ _ _).mono ?_; rintro e w' ⟨rfl, rfl⟩)
  all_goals (go_ret; exact ⟨cG (by unfold Opc.float; simp_all), rfl⟩)
 cases h3 : Opc.within x 168 171
 case true =>
  go_enter Tryz.func171, Tryz.ntmps171
  go_wp2_with (go_at_call 170; refine (bh _ _ _ _).mono ?_; rintro e w' ⟨rfl, rfl⟩)
  all_goals (go_ret; exact ⟨cG (by unfold Opc.float; simp_all), rfl⟩)
 go_enter Tryz.func171, Tryz.ntmps171
 go_wp2_with (go_at_call 170; refine (bh _ _ _ _).mono ?_; rintro e w' ⟨rfl, rfl⟩)
 all_goals (go_ret; exact ⟨cG (by unfold Opc.float; simp_all), rfl⟩)
theorem hY (x : Int) (w : World) : Calls Tryz.prog 157 #[.int .u8 x] w fun e w' => e = .returned (.bool (Opc.known x)) ∧ w = w' := by
 cases h0 : Opc.within x 40 191
 case true =>
  go_enter Tryz.func157, Tryz.ntmps157
  go_wp2_with (first | (go_at_call 170; refine (bh _ _ _ _).mono ?_; rintro e w' ⟨rfl, rfl⟩) | (go_at_call 171; refine (ik _ _).mono ?_; rintro e w' ⟨rfl, rfl⟩))
  all_goals (go_ret; exact ⟨cG (by unfold Opc.known; simp_all), rfl⟩)
 cases h1 : Opc.within x 0 5
 case true =>
  go_enter Tryz.func157, Tryz.ntmps157
  go_wp2_with (go_at_call 170; refine (bh _ _ _ _).mono ?_; rintro e w' ⟨rfl, rfl⟩)
  all_goals (go_ret; exact ⟨cG (by unfold Opc.known; simp_all), rfl⟩)
 cases h2 : Opc.within x 11 17
 case true =>
  go_enter Tryz.func157, Tryz.ntmps157
  go_wp2_with (go_at_call 170; refine (bh _ _ _ _).mono ?_; rintro e w' ⟨rfl, rfl⟩)
  all_goals (go_ret; exact ⟨cG (by unfold Opc.known; simp_all), rfl⟩)
 cases h3 : Opc.within x 26 27
 case true =>
  go_enter Tryz.func157, Tryz.ntmps157
  go_wp2_with (go_at_call 170; refine (bh _ _ _ _).mono ?_; rintro e w' ⟨rfl, rfl⟩)
  all_goals (go_ret; exact ⟨cG (by unfold Opc.known; simp_all), rfl⟩)
 go_enter Tryz.func157, Tryz.ntmps157
 go_wp2_with (go_at_call 170; refine (bh _ _ _ _).mono ?_; rintro e w' ⟨rfl, rfl⟩)
 all_goals (go_ret; exact ⟨cG (by unfold Opc.known; simp_all), rfl⟩)
end Go.Proofs.YthkglmkpnhhboaaGreatDoor
