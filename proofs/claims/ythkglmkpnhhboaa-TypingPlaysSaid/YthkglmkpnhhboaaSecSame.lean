/-
  Layer 5's small functions: the document's Begin and E; sections in the document's type; whether sections are the document's. (gen/secref.py)
-/
import Derived.Test.YthkglmkpnhhboaaSecMem
import Derived.Test.YthkglmkpnhhboaaDrawn
import Derived.Deep.Cut
import Derived.IntWalk
namespace Go.Proofs.Ythkglmkpnhhboaa
open Go.RowKit Sec
theorem cells2 {w : World} {X : Nat} {x0 x1 : Value} {t : TypeId} (h : w.heap[X]? = some (.cells #[x0, x1] t (0, 0))) : w.cell? ⟨X, 0, none⟩ = some x0 ∧ w.cell? ⟨X, 1, none⟩ = some x1 := by
  refine ⟨?_, ?_⟩ <;> (rw [cell_of_row w X _ _ t (0, 0) h]; rfl)
theorem byteN (n : Nat) (h : n < 256) : ((UInt8.ofNat n).toNat : Int) = (n : Int) := by rw [nat_of n h]
theorem bytes_same (a b : List UInt8) : ((ByteArray.mk a.toArray).toList != (ByteArray.mk b.toArray).toList) = decide (a ≠ b) := by
  rw [ByteArray.toList_eq, ByteArray.toList_eq]
  rw [Bool.eq_iff_iff]
  simp
end Go.Proofs.Ythkglmkpnhhboaa
