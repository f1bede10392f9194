/-
  The walk over SpaceRow, whatever the kind.
-/
import Derived.Test.YtgnbkfkiigcdgaaSpRow0
import Derived.Test.YtgnbkfkiigcdgaaSpRow1
import Derived.Test.YtgnbkfkiigcdgaaSpRow2
import Derived.Test.YtgnbkfkiigcdgaaSpRow3
import Derived.Test.YtgnbkfkiigcdgaaSpRowX
namespace Go.Proofs.Ytgnbkfkiigcdgaa
open Go.RowKit Ins Bin Sp
theorem spaceRow_any (m : M) (v1 v2 v3 v4 v5 v6 v7 v8 v9 v10 : Value) (i : Nat) (hi : i < 4294967296) (k : Nat) (hk : k < 256) (w : World) (hM : RepM w (· < w.heap.size) m v1 v2 v3 v4 v5 v6 v7 v8 v9 v10) (hB : BigM m) :
    Calls Try.prog 5 #[.agg (modCells m v1 v2 v3 v4 v5 v6 v7 v8 v9 v10), .int .u32 (i : Int), .int .u8 (k : Int)] w fun e w' => e = .returned (.bool true) ∧ Below w.heap.size w w' := by
  rcases (by omega : k = 0 ∨ k = 1 ∨ k = 2 ∨ k = 3 ∨ 3 < k) with rfl | rfl | rfl | rfl | h3
  · exact spaceRow0_any m v1 v2 v3 v4 v5 v6 v7 v8 v9 v10 i hi w hM hB
  · exact spaceRow1_any m v1 v2 v3 v4 v5 v6 v7 v8 v9 v10 i hi w hM hB
  · exact spaceRow2_any m v1 v2 v3 v4 v5 v6 v7 v8 v9 v10 i hi w hM hB
  · exact spaceRow3_any m v1 v2 v3 v4 v5 v6 v7 v8 v9 v10 i hi w hM hB
  · exact spaceRowX_any m v1 v2 v3 v4 v5 v6 v7 v8 v9 v10 i hi k hk h3 w hM hB
end Go.Proofs.Ytgnbkfkiigcdgaa
