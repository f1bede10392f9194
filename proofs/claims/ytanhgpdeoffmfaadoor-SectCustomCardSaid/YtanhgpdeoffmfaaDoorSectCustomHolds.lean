/-
  PROVED (a tied card): for every slice of sections, int, string and slice of bytes the statement SectCustom answers true, and each argument reads afterwards as it read before. Conditions: the given row's own (unicode/utf8's two tables lie as the program's text lays them; the card ties them), over a pruned copy of the project.
-/
import Derived.Test.YtanhgpdeoffmfaaDoorSectCustomCardOf
import Derived.Test.YtanhgpdeoffmfaaDoorSecJoin
namespace Go.Proofs.YtanhgpdeoffmfaaDoor
theorem sectCustom_holds : Rows.SectCustomCardSaid := sectCustom_of split_ok join_ok
#print axioms sectCustom_holds
end Go.Proofs.YtanhgpdeoffmfaaDoor
