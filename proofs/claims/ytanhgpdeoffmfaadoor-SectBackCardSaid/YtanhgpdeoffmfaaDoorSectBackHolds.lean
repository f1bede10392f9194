/-
  PROVED (a tied card): for every slice of sections and slice of bytes the statement SectBack answers true, and each argument reads afterwards as it read before. Conditions: the given row's own (unicode/utf8's two tables lie as the program's text lays them; the card ties them), over a pruned copy of the project.
-/
import Derived.Test.YtanhgpdeoffmfaaDoorSectBackCardOf
import Derived.Test.YtanhgpdeoffmfaaDoorSecJoin
namespace Go.Proofs.YtanhgpdeoffmfaaDoor
theorem sectBack_holds : Rows.SectBackCardSaid := sectBack_of split_ok join_ok
#print axioms sectBack_holds
end Go.Proofs.YtanhgpdeoffmfaaDoor
