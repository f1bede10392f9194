/-
  The contracts of instr's functions that only compute: hasA, isBlockType, fits: they tell what the plain functions tell.
-/
import Derived.Test.YtelcdmkbaegjoaaGreatLq01
import Derived.Test.YtelcdmkbaegjoaaGreatLq09
import Derived.Test.YtelcdmkbaegjoaaGreatLq03
import Derived.Deep.QuietTactic
import Derived.BigQuiet
set_option maxRecDepth 100000
set_option maxHeartbeats 4000000
namespace Go.Proofs.YtelcdmkbaegjoaaGreat
open Go.RowKit Ins
theorem hasA_any (f : Int) (w : World) : Calls Tryz.prog 99 #[.int .u8 f] w fun e w' => e = .returned (.bool (Ins.hasA f)) ∧ w = w' := by
 go_enter Tryz.func99, Tryz.ntmps99
 go_wp2
 all_goals (go_ret; exact ⟨bq (by unfold Ins.hasA; simp_all), rfl⟩)
theorem block_any (a : Nat) (w : World) : Calls Tryz.prog 100 #[.int .u32 (a : Int)] w fun e w' => e = .returned (.bool (Ins.blockB a)) ∧ w = w' := by
 have e : Ins.blockB a = ((a : Int) == 64 || (a : Int) == 127 || (a : Int) == 126) := by
  unfold Ins.blockB
  rw [Bool.eq_iff_iff]; simp; omega
 rw [e]
 go_enter Tryz.func100, Tryz.ntmps100
 go_wp2
 all_goals (go_ret; exact ⟨bq (by simp_all), rfl⟩)
end Go.Proofs.YtelcdmkbaegjoaaGreat
