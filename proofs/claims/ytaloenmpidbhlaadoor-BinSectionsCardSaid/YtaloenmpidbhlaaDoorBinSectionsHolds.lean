/-
  PROVED (a tied card): for every slice of bytes and every number the statement BinSections answers true, and each argument reads afterwards as it read before. Conditions: the given row's own (unicode/utf8's two tables lie as the program's text lays them; the card ties them), over a pruned copy of the project.
-/
import Derived.Test.YtaloenmpidbhlaaDoorBinSectionsCardOf
import Derived.Test.YtaloenmpidbhlaaDoorBinDecode
import Derived.Test.YtaloenmpidbhlaaDoorSecJoin
namespace Go.Proofs.YtaloenmpidbhlaaDoor
theorem binSections_holds : Rows.BinSectionsCardSaid := binSections_of dec_ok_any split_ok join_ok
#print axioms binSections_holds
end Go.Proofs.YtaloenmpidbhlaaDoor
