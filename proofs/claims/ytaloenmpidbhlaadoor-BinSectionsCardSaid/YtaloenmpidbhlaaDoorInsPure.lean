/-
  The contracts of instr's functions that only compute: hasA, isBlockType, fits: they tell what the plain functions tell.
-/
import Derived.Test.YtaloenmpidbhlaaDoorInsMem
import Derived.Test.YtaloenmpidbhlaaDoorOpcPure
import Derived.Deep.QuietTactic
import Derived.BigQuiet
namespace Go.Proofs.YtaloenmpidbhlaaDoor
open Go.RowKit Ins
theorem block_any (a : Nat) (w : World) : Calls Tryd.prog 89 #[.int .u32 (a : Int)] w fun e w' => e = .returned (.bool (Ins.blockB a)) ∧ w = w' := by
  have e : Ins.blockB a = ((a : Int) == 64 || (a : Int) == 127 || (a : Int) == 126) := by
    unfold Ins.blockB
    rw [Bool.eq_iff_iff]; simp; omega
  rw [e]
  go_enter Tryd.func89, Tryd.ntmps89
  go_wp2
  all_goals (go_ret; exact ⟨ret_b (by simp_all), rfl⟩)
end Go.Proofs.YtaloenmpidbhlaaDoor
