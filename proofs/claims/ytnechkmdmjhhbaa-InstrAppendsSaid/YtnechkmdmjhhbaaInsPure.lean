/-
  The contracts of instr's functions that only compute: hasA, isBlockType, fits: they tell what the plain functions tell.
-/
import Derived.Test.YtnechkmdmjhhbaaInsMem
import Derived.Test.YtnechkmdmjhhbaaOpcPure
import Derived.Deep.QuietTactic
import Derived.BigQuiet
namespace Go.Proofs.Ytnechkmdmjhhbaa
open Go.RowKit Ins
theorem hasA_any (f : Int) (w : World) : Calls Try.prog 31 #[.int .u8 f] w fun e w' => e = .returned (.bool (Ins.hasA f)) ∧ w = w' := by
  go_enter Try.func31, Try.ntmps31
  go_wp2
  all_goals (go_ret; exact ⟨ret_b (by unfold Ins.hasA; simp_all), rfl⟩)
theorem block_any (a : Nat) (w : World) : Calls Try.prog 32 #[.int .u32 (a : Int)] w fun e w' => e = .returned (.bool (Ins.blockB a)) ∧ w = w' := by
  have e : Ins.blockB a = ((a : Int) == 64 || (a : Int) == 127 || (a : Int) == 126) := by
    unfold Ins.blockB
    rw [Bool.eq_iff_iff]; simp; omega
  rw [e]
  go_enter Try.func32, Try.ntmps32
  go_wp2
  all_goals (go_ret; exact ⟨ret_b (by simp_all), rfl⟩)
end Go.Proofs.Ytnechkmdmjhhbaa
