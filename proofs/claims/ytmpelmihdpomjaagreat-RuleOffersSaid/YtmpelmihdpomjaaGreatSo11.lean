/-
  The contracts of instr's functions that only compute: hasA, isBlockType, fits: they tell what the plain functions tell.
-/
import Derived.Test.YtmpelmihdpomjaaGreatSo01
import Derived.Test.YtmpelmihdpomjaaGreatSo09
import Derived.Test.YtmpelmihdpomjaaGreatSo03
import Derived.Deep.QuietTactic
import Derived.BigQuiet
set_option maxRecDepth 100000
set_option maxHeartbeats 4000000
namespace Go.Proofs.YtmpelmihdpomjaaGreat
open Go.RowKit Ins
theorem hasA_any (f:Int) (w:World):Calls Tryz.prog 125 #[.int .u8 f] w fun e w'=>e = .returned (.bool (Ins.hasA f)) ∧ w = w':=by
 go_enter Tryz.func125,Tryz.ntmps125
 go_wp2
 all_goals (go_ret;exact ⟨bG (by unfold Ins.hasA;simp_all),rfl⟩)
theorem block_any (a:Nat) (w:World):Calls Tryz.prog 126 #[.int .u32 ↑a] w fun e w'=>e = .returned (.bool (Ins.blockB a)) ∧ w = w':=by
 have e:Ins.blockB a = ((a:Int) == 64 || (a:Int) == 127 || (a:Int) == 126):=by
  unfold Ins.blockB
  rw [Bool.eq_iff_iff];simp;omega
 rw [e]
 go_enter Tryz.func126,Tryz.ntmps126
 go_wp2
 all_goals (go_ret;exact ⟨bG (by simp_all),rfl⟩)
end Go.Proofs.YtmpelmihdpomjaaGreat
