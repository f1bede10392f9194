/-
  PROVED (a tied card): for every slice of bytes the statement SectSplits answers true, and each argument reads afterwards as it read before. Conditions: the given row's own (unicode/utf8's two tables lie as the program's text lays them; the card ties them), over a pruned copy of the project.
-/
import Derived.Test.YtanhgpdeoffmfaaDoorSectSplitsCardOf
import Derived.Test.YtanhgpdeoffmfaaDoorSecJoin
namespace Go.Proofs.YtanhgpdeoffmfaaDoor
theorem sectSplits_holds : Rows.SectSplitsCardSaid := sectSplits_of split_ok join_ok
#print axioms sectSplits_holds
end Go.Proofs.YtanhgpdeoffmfaaDoor
