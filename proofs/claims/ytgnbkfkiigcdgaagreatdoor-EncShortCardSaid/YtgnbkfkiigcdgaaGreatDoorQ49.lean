/-
  PROVED (a tied card): for every module the statement EncShort answers true, and the argument reads afterwards as it read before. Conditions: the given row's own (unicode/utf8's two tables lie as the program's text lays them; the card ties them), over a pruned copy of the project.
-/
import Derived.Test.YtgnbkfkiigcdgaaGreatDoorQ01
import Derived.Test.YtgnbkfkiigcdgaaGreatDoorQ48
import Derived.Test.YtgnbkfkiigcdgaaGreatDoorQ42
import Derived.Test.YtgnbkfkiigcdgaaGreatDoorQ43
import Derived.Test.YtgnbkfkiigcdgaaGreatDoorQ27
set_option maxRecDepth 100000
set_option maxHeartbeats 4000000
namespace Go.Proofs.YtgnbkfkiigcdgaaGreatDoor
theorem encShort_holds : Rows.EncShortCardSaid := ey (enc_ok cont_ok join_ok) dec_ok_any fz
#print axioms encShort_holds
end Go.Proofs.YtgnbkfkiigcdgaaGreatDoor
