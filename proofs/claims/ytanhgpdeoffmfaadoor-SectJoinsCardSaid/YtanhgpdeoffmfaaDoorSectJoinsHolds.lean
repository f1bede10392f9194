/-
  PROVED (a tied card): for every slice of sections the statement SectJoins answers true, and each argument reads afterwards as it read before. Conditions: the given row's own (unicode/utf8's two tables lie as the program's text lays them; the card ties them), over a pruned copy of the project.
-/
import Derived.Test.YtanhgpdeoffmfaaDoorSectJoinsCardOf
import Derived.Test.YtanhgpdeoffmfaaDoorSecJoin
namespace Go.Proofs.YtanhgpdeoffmfaaDoor
theorem sectJoins_holds : Rows.SectJoinsCardSaid := sectJoins_of split_ok join_ok
#print axioms sectJoins_holds
end Go.Proofs.YtanhgpdeoffmfaaDoor
