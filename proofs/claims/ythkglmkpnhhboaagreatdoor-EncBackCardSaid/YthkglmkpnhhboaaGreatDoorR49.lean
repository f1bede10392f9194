/-
  PROVED (a tied card): for every module and every slice of bytes the statement EncBack answers true, and each argument reads afterwards as it read before. Conditions: the given row's own (unicode/utf8's two tables lie as the program's text lays them; the card ties them), over a pruned copy of the project.
-/
import Derived.Test.YthkglmkpnhhboaaGreatDoorR01
import Derived.Test.YthkglmkpnhhboaaGreatDoorR48
import Derived.Test.YthkglmkpnhhboaaGreatDoorR42
import Derived.Test.YthkglmkpnhhboaaGreatDoorR43
import Derived.Test.YthkglmkpnhhboaaGreatDoorR27
set_option maxRecDepth 100000
set_option maxHeartbeats 4000000
namespace Go.Proofs.YthkglmkpnhhboaaGreatDoor
theorem encBack_holds : Rows.EncBackCardSaid := fG (enc_ok cont_ok join_ok) dec_ok_any
#print axioms encBack_holds
end Go.Proofs.YthkglmkpnhhboaaGreatDoor
