/-
  PROVED (a tied card): for every slice of bytes the statement BinWhole answers true, and each argument reads afterwards as it read before. Conditions: the given row's own (unicode/utf8's two tables lie as the program's text lays them; the card ties them), over a pruned copy of the project.
-/
import Derived.Test.YtaloenmpidbhlaaDoorBinWholeCardOf
import Derived.Test.YtaloenmpidbhlaaDoorBinDecode
namespace Go.Proofs.YtaloenmpidbhlaaDoor
theorem binWhole_holds : Rows.BinWholeCardSaid := binWhole_of dec_ok_any
#print axioms binWhole_holds
end Go.Proofs.YtaloenmpidbhlaaDoor
