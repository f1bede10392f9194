/-
  The contracts of opc's functions that only compute: within, Float, Known, Width, Form, typeOf: for every opcode they tell what the plain functions tell, and change nothing.
-/
import Derived.Test.YtmpelmihdpomjaaGreatRows
import Derived.Test.YtmpelmihdpomjaaGreatSo01
import Derived.WalkKit
import Derived.RegionTactic
import Derived.Below
import Derived.Outline
import Derived.Lib.Hide
set_option maxRecDepth 100000
set_option maxHeartbeats 4000000
namespace Go.Proofs.YtmpelmihdpomjaaGreat
open Go.RowKit
theorem bG {a b:Bool} (h:a = b):Ending.returned (.bool a) = .returned (.bool b):=by rw [h]
theorem ret_i {k:IntKind} {a b:Int} (h:a = b):Ending.returned (.int k a) = .returned (.int k b):=by rw [h]
theorem aA (x a b:Int) (w:World):Calls Tryz.prog 141 #[.int .u8 x,.int .u8 a,.int .u8 b] w fun e w'=>e = .returned (.bool (Opc.within x a b)) ∧ w = w':=by
 by_cases h1:a ≤ x
 ·by_cases h2:x ≤ b
  ·go_enter Tryz.func141,Tryz.ntmps141
   go_wp2
   go_ret
   exact ⟨bG (by simp [Opc.within,h1,h2]),rfl⟩
  ·go_enter Tryz.func141,Tryz.ntmps141
   go_wp2
   go_ret
   exact ⟨bG (by simp [Opc.within,h2]),rfl⟩
 ·have h3:decide (a ≤ x) = false:=by simpa using h1
  go_enter Tryz.func141,Tryz.ntmps141
  go_wp2
  go_ret
  exact ⟨bG (by rw [Opc.within,h3];rfl),rfl⟩
theorem cN (x:Int) (w:World):Calls Tryz.prog 115 #[.int .u8 x] w fun e w'=>e = .returned (.int .i64 (Opc.width x)) ∧ w = w':=by
 go_enter Tryz.func115,Tryz.ntmps115
 go_wp2
 all_goals (go_ret;exact ⟨ret_i (by unfold Opc.width;simp_all),rfl⟩)
theorem aT (x:Int) (w:World):Calls Tryz.prog 123 #[.int .u8 x] w fun e w'=>e = .returned (.int .u8 (Opc.form x)) ∧ w = w':=by
 go_enter Tryz.func123,Tryz.ntmps123
 go_wp2_with (go_at_call 115;refine (cN _ _).mono ?_;rintro e w' ⟨rfl,rfl⟩)
 all_goals (go_ret;exact ⟨ret_i (by unfold Opc.form;simp_all),rfl⟩)
theorem float_any (x:Int) (w:World):Calls Tryz.prog 142 #[.int .u8 x] w fun e w'=>e = .returned (.bool (Opc.float x)) ∧ w = w':=by
 cases h1:Opc.within x 91 102
 case true =>
  go_enter Tryz.func142,Tryz.ntmps142
  go_wp2_with (go_at_call 141;refine (aA _ _ _ _).mono ?_;rintro e w' ⟨rfl,rfl⟩)
  all_goals (go_ret;exact ⟨bG (by unfold Opc.float;simp_all),rfl⟩)
 cases h2:Opc.within x 139 166
 case true =>
  go_enter Tryz.func142,Tryz.ntmps142
  go_wp2_with (go_at_call 141;refine (aA _ _ _ _).mono ?_;rintro e w' ⟨rfl,rfl⟩)
  all_goals (go_ret;exact ⟨bG (by unfold Opc.float;simp_all),rfl⟩)
 cases h3:Opc.within x 168 171
 case true =>
  go_enter Tryz.func142,Tryz.ntmps142
  go_wp2_with (go_at_call 141;refine (aA _ _ _ _).mono ?_;rintro e w' ⟨rfl,rfl⟩)
  all_goals (go_ret;exact ⟨bG (by unfold Opc.float;simp_all),rfl⟩)
 go_enter Tryz.func142,Tryz.ntmps142
 go_wp2_with (go_at_call 141;refine (aA _ _ _ _).mono ?_;rintro e w' ⟨rfl,rfl⟩)
 all_goals (go_ret;exact ⟨bG (by unfold Opc.float;simp_all),rfl⟩)
theorem dI (x:Int) (w:World):Calls Tryz.prog 124 #[.int .u8 x] w fun e w'=>e = .returned (.bool (Opc.known x)) ∧ w = w':=by
 cases h0:Opc.within x 40 191
 case true =>
  go_enter Tryz.func124,Tryz.ntmps124
  go_wp2_with (first | (go_at_call 141;refine (aA _ _ _ _).mono ?_;rintro e w' ⟨rfl,rfl⟩) | (go_at_call 142;refine (float_any _ _).mono ?_;rintro e w' ⟨rfl,rfl⟩))
  all_goals (go_ret;exact ⟨bG (by unfold Opc.known;simp_all),rfl⟩)
 cases h1:Opc.within x 0 5
 case true =>
  go_enter Tryz.func124,Tryz.ntmps124
  go_wp2_with (go_at_call 141;refine (aA _ _ _ _).mono ?_;rintro e w' ⟨rfl,rfl⟩)
  all_goals (go_ret;exact ⟨bG (by unfold Opc.known;simp_all),rfl⟩)
 cases h2:Opc.within x 11 17
 case true =>
  go_enter Tryz.func124,Tryz.ntmps124
  go_wp2_with (go_at_call 141;refine (aA _ _ _ _).mono ?_;rintro e w' ⟨rfl,rfl⟩)
  all_goals (go_ret;exact ⟨bG (by unfold Opc.known;simp_all),rfl⟩)
 cases h3:Opc.within x 26 27
 case true =>
  go_enter Tryz.func124,Tryz.ntmps124
  go_wp2_with (go_at_call 141;refine (aA _ _ _ _).mono ?_;rintro e w' ⟨rfl,rfl⟩)
  all_goals (go_ret;exact ⟨bG (by unfold Opc.known;simp_all),rfl⟩)
 go_enter Tryz.func124,Tryz.ntmps124
 go_wp2_with (go_at_call 141;refine (aA _ _ _ _).mono ?_;rintro e w' ⟨rfl,rfl⟩)
 all_goals (go_ret;exact ⟨bG (by unfold Opc.known;simp_all),rfl⟩)
theorem type_any (x:Int) (w:World):Calls Tryz.prog 148 #[.int .u8 x] w fun e w'=>e = .returned (.int .u8 (Opc.typeOf x)) ∧ w = w':=by
 cases h1:Opc.within x 80 90
 case true =>
  go_enter Tryz.func148,Tryz.ntmps148
  go_wp2_with (go_at_call 141;refine (aA _ _ _ _).mono ?_;rintro e w' ⟨rfl,rfl⟩)
  all_goals (go_ret;exact ⟨ret_i (by unfold Opc.typeOf;simp_all),rfl⟩)
 cases h2:Opc.within x 121 138
 case true =>
  go_enter Tryz.func148,Tryz.ntmps148
  go_wp2_with (go_at_call 141;refine (aA _ _ _ _).mono ?_;rintro e w' ⟨rfl,rfl⟩)
  all_goals (go_ret;exact ⟨ret_i (by unfold Opc.typeOf;simp_all),rfl⟩)
 go_enter Tryz.func148,Tryz.ntmps148
 go_wp2_with (go_at_call 141;refine (aA _ _ _ _).mono ?_;rintro e w' ⟨rfl,rfl⟩)
 all_goals (go_ret;exact ⟨ret_i (by unfold Opc.typeOf;simp_all),rfl⟩)
end Go.Proofs.YtmpelmihdpomjaaGreat
