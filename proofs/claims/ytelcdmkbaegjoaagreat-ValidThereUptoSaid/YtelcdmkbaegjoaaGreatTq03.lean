/-
  The contracts of opc's functions that only compute: within, Float, Known, Width, Form, typeOf: for every opcode they tell what the plain functions tell, and change nothing.
-/
import Derived.Test.YtelcdmkbaegjoaaGreatRows
import Derived.Test.YtelcdmkbaegjoaaGreatTq01
import Derived.WalkKit
import Derived.RegionTactic
import Derived.Below
import Derived.Outline
import Derived.Lib.Hide
set_option maxRecDepth 100000
set_option maxHeartbeats 4000000
namespace Go.Proofs.YtelcdmkbaegjoaaGreat
open Go.RowKit
theorem bp {a b : Bool} (h : a = b) : Ending.returned (.bool a) = .returned (.bool b) := by rw [h]
theorem ret_i {k : IntKind} {a b : Int} (h : a = b) : Ending.returned (.int k a) = .returned (.int k b) := by rw [h]
theorem ay (x a b : Int) (w : World) : Calls Tryz.prog 116 #[.int .u8 x, .int .u8 a, .int .u8 b] w fun e w' => e = .returned (.bool (Opc.within x a b)) ∧ w = w' := by
 by_cases h1 : a ≤ x
 ·by_cases h2 : x ≤ b
  ·go_enter Tryz.func116, Tryz.ntmps116
   go_wp2
   go_ret
   exact ⟨bp (by simp [Opc.within, h1, h2]), rfl⟩
  ·go_enter Tryz.func116, Tryz.ntmps116
   go_wp2
   go_ret
   exact ⟨bp (by simp [Opc.within, h2]), rfl⟩
 ·have h3 : decide (a ≤ x) = false := by simpa using h1
  go_enter Tryz.func116, Tryz.ntmps116
  go_wp2
  go_ret
  exact ⟨bp (by rw [Opc.within, h3]; rfl), rfl⟩
theorem cj (x : Int) (w : World) : Calls Tryz.prog 87 #[.int .u8 x] w fun e w' => e = .returned (.int .i64 (Opc.width x)) ∧ w = w' := by
 go_enter Tryz.func87, Tryz.ntmps87
 go_wp2
 all_goals (go_ret; exact ⟨ret_i (by unfold Opc.width; simp_all), rfl⟩)
theorem aN (x : Int) (w : World) : Calls Tryz.prog 97 #[.int .u8 x] w fun e w' => e = .returned (.int .u8 (Opc.form x)) ∧ w = w' := by
 go_enter Tryz.func97, Tryz.ntmps97
 go_wp2_with (go_at_call 87; refine (cj _ _).mono ?_; rintro e w' ⟨rfl, rfl⟩)
 all_goals (go_ret; exact ⟨ret_i (by unfold Opc.form; simp_all), rfl⟩)
theorem float_any (x : Int) (w : World) : Calls Tryz.prog 117 #[.int .u8 x] w fun e w' => e = .returned (.bool (Opc.float x)) ∧ w = w' := by
 cases h1 : Opc.within x 91 102
 case true =>
  go_enter Tryz.func117, Tryz.ntmps117
  go_wp2_with (go_at_call 116; refine (ay _ _ _ _).mono ?_; rintro e w' ⟨rfl, rfl⟩)
  all_goals (go_ret; exact ⟨bp (by unfold Opc.float; simp_all), rfl⟩)
 cases h2 : Opc.within x 139 166
 case true =>
  go_enter Tryz.func117, Tryz.ntmps117
  go_wp2_with (go_at_call 116; refine (ay _ _ _ _).mono ?_; rintro e w' ⟨rfl, rfl⟩)
  all_goals (go_ret; exact ⟨bp (by unfold Opc.float; simp_all), rfl⟩)
 cases h3 : Opc.within x 168 171
 case true =>
  go_enter Tryz.func117, Tryz.ntmps117
  go_wp2_with (go_at_call 116; refine (ay _ _ _ _).mono ?_; rintro e w' ⟨rfl, rfl⟩)
  all_goals (go_ret; exact ⟨bp (by unfold Opc.float; simp_all), rfl⟩)
 go_enter Tryz.func117, Tryz.ntmps117
 go_wp2_with (go_at_call 116; refine (ay _ _ _ _).mono ?_; rintro e w' ⟨rfl, rfl⟩)
 all_goals (go_ret; exact ⟨bp (by unfold Opc.float; simp_all), rfl⟩)
theorem cW (x : Int) (w : World) : Calls Tryz.prog 98 #[.int .u8 x] w fun e w' => e = .returned (.bool (Opc.known x)) ∧ w = w' := by
 cases h0 : Opc.within x 40 191
 case true =>
  go_enter Tryz.func98, Tryz.ntmps98
  go_wp2_with (first | (go_at_call 116; refine (ay _ _ _ _).mono ?_; rintro e w' ⟨rfl, rfl⟩) | (go_at_call 117; refine (float_any _ _).mono ?_; rintro e w' ⟨rfl, rfl⟩))
  all_goals (go_ret; exact ⟨bp (by unfold Opc.known; simp_all), rfl⟩)
 cases h1 : Opc.within x 0 5
 case true =>
  go_enter Tryz.func98, Tryz.ntmps98
  go_wp2_with (go_at_call 116; refine (ay _ _ _ _).mono ?_; rintro e w' ⟨rfl, rfl⟩)
  all_goals (go_ret; exact ⟨bp (by unfold Opc.known; simp_all), rfl⟩)
 cases h2 : Opc.within x 11 17
 case true =>
  go_enter Tryz.func98, Tryz.ntmps98
  go_wp2_with (go_at_call 116; refine (ay _ _ _ _).mono ?_; rintro e w' ⟨rfl, rfl⟩)
  all_goals (go_ret; exact ⟨bp (by unfold Opc.known; simp_all), rfl⟩)
 cases h3 : Opc.within x 26 27
 case true =>
  go_enter Tryz.func98, Tryz.ntmps98
  go_wp2_with (go_at_call 116; refine (ay _ _ _ _).mono ?_; rintro e w' ⟨rfl, rfl⟩)
  all_goals (go_ret; exact ⟨bp (by unfold Opc.known; simp_all), rfl⟩)
 go_enter Tryz.func98, Tryz.ntmps98
 go_wp2_with (go_at_call 116; refine (ay _ _ _ _).mono ?_; rintro e w' ⟨rfl, rfl⟩)
 all_goals (go_ret; exact ⟨bp (by unfold Opc.known; simp_all), rfl⟩)
theorem type_any (x : Int) (w : World) : Calls Tryz.prog 124 #[.int .u8 x] w fun e w' => e = .returned (.int .u8 (Opc.typeOf x)) ∧ w = w' := by
 cases h1 : Opc.within x 80 90
 case true =>
  go_enter Tryz.func124, Tryz.ntmps124
  go_wp2_with (go_at_call 116; refine (ay _ _ _ _).mono ?_; rintro e w' ⟨rfl, rfl⟩)
  all_goals (go_ret; exact ⟨ret_i (by unfold Opc.typeOf; simp_all), rfl⟩)
 cases h2 : Opc.within x 121 138
 case true =>
  go_enter Tryz.func124, Tryz.ntmps124
  go_wp2_with (go_at_call 116; refine (ay _ _ _ _).mono ?_; rintro e w' ⟨rfl, rfl⟩)
  all_goals (go_ret; exact ⟨ret_i (by unfold Opc.typeOf; simp_all), rfl⟩)
 go_enter Tryz.func124, Tryz.ntmps124
 go_wp2_with (go_at_call 116; refine (ay _ _ _ _).mono ?_; rintro e w' ⟨rfl, rfl⟩)
 all_goals (go_ret; exact ⟨ret_i (by unfold Opc.typeOf; simp_all), rfl⟩)
end Go.Proofs.YtelcdmkbaegjoaaGreat
