/-
  PROVED (a tied card): for every slice of bytes and int the statement SectCut answers true, and each argument reads afterwards as it read before. Conditions: the given row's own (unicode/utf8's two tables lie as the program's text lays them; the card ties them), over a pruned copy of the project.
-/
import Derived.Test.YtanhgpdeoffmfaaDoorSectCutCardOf
import Derived.Test.YtanhgpdeoffmfaaDoorSecJoin
namespace Go.Proofs.YtanhgpdeoffmfaaDoor
theorem sectCut_holds : Rows.SectCutCardSaid := sectCut_of split_ok join_ok
#print axioms sectCut_holds
end Go.Proofs.YtanhgpdeoffmfaaDoor
