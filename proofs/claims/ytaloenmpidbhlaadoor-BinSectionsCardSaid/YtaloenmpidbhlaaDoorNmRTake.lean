/-
  The document's Take of a name: the same plain functions; the world as it was.
-/
import Derived.Test.YtaloenmpidbhlaaDoorNmTake
namespace Go.Proofs.YtaloenmpidbhlaaDoor
open Go.RowKit
def RTakePost (l : List UInt8) (w : World) (e : Ending) (w' : World) : Prop := e = .returned (.tuple #[.string ⟨(Nm.str l).toArray⟩, .int .i64 (Nm.cnt l : Int), .bool (Nm.ok l)]) ∧ w = w'
theorem rtakePost_no {l : List UInt8} {w : World} (h : Nm.ok l = false) : RTakePost l w (.returned (.tuple #[.string ⟨#[]⟩, .int .i64 0, .bool false])) w := by
  refine ⟨?_, rfl⟩
  unfold Nm.str Nm.cnt
  rw [h]; rfl
end Go.Proofs.YtaloenmpidbhlaaDoor
