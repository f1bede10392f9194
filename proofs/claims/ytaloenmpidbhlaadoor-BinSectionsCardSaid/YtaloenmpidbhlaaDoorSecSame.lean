/-
  Layer 5's small functions: the document's Begin and E; sections in the document's type; whether sections are the document's. (gen/secref.py)
-/
import Derived.Test.YtaloenmpidbhlaaDoorSecMem
import Derived.Test.YtaloenmpidbhlaaDoorDrawn
import Derived.Deep.Cut
import Derived.IntWalk
namespace Go.Proofs.YtaloenmpidbhlaaDoor
open Go.RowKit Sec
theorem undS : Tryd.prog.underlying 63 = some (.slice 69) := by kernel_rfl
theorem infoS : (Tryd.prog.info? 69).map (fun i => (i.zero, i.size, i.bytes)) = some (some (.agg #[.int .u8 0, .slice none 0 0]), 2, 32) := by kernel_rfl
theorem cells2 {w : World} {X : Nat} {x0 x1 : Value} {t : TypeId} (h : w.heap[X]? = some (.cells #[x0, x1] t (0, 0))) : w.cell? ⟨X, 0, none⟩ = some x0 ∧ w.cell? ⟨X, 1, none⟩ = some x1 := by
  refine ⟨?_, ?_⟩ <;> (rw [cell_of_row w X _ _ t (0, 0) h]; rfl)
theorem byteN (n : Nat) (h : n < 256) : ((UInt8.ofNat n).toNat : Int) = (n : Int) := by rw [nat_of n h]
theorem begin_any (w : World) : Calls Tryd.prog 26 #[] w fun e w' => ∃ v, e = .returned v ∧ w'.ownsRow w.heap.size 5 1 v begin8.length (bytesOf begin8) ∧ Below w.heap.size w w' := by
  have HO : Hid ((w.alloc (.cells #[.int .u8 0, .int .u8 97, .int .u8 115, .int .u8 109, .int .u8 1, .int .u8 0, .int .u8 0, .int .u8 0] 5)).ownsRow w.heap.size 5 1 (.slice (some ⟨w.heap.size, 0, none⟩) 8 8) begin8.length (bytesOf begin8)) := Lib.hid (World.ownsRow_lit w _ 8 (Nat.le_refl _) (by unfold maxLen; omega) rfl)
  have HB : Hid (Below w.heap.size w (w.alloc (.cells #[.int .u8 0, .int .u8 97, .int .u8 115, .int .u8 109, .int .u8 1, .int .u8 0, .int .u8 0, .int .u8 0] 5))) := Lib.hid ((Below.refl _ _).alloc (Nat.le_refl _) _)
  go_enter Tryd.func26, Tryd.ntmps26
  go_wp2_with fail
  go_ret
  exact ⟨_, rfl, HO.out, HB.out⟩
theorem bytes_same (a b : List UInt8) : ((ByteArray.mk a.toArray).toList != (ByteArray.mk b.toArray).toList) = decide (a ≠ b) := by
  rw [ByteArray.toList_eq, ByteArray.toList_eq]
  rw [Bool.eq_iff_iff]
  simp
end Go.Proofs.YtaloenmpidbhlaaDoor
