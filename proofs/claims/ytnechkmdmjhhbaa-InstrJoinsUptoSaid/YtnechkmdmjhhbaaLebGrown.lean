/-
  leb.grown's contract: a copy of the bytes that came in, in a new row of its own; all memory that was there is as it was.
-/
import Derived.Test.YtnechkmdmjhhbaaLebWords
import Derived.Laws.CopyOwn
namespace Go.Proofs.Ytnechkmdmjhhbaa
open Go.RowKit
set_option maxHeartbeats 400000 in
/-- leb.grown: a copy, in a new row that has room. -/
theorem c22 (A : Option Addr) (l : List UInt8) (n c : Nat) (w : World) (hn : n = l.length) (hsz : n + 10 ≤ 140737488355328) (hA : Has w w.heap.size A l) :
    Calls Try.prog 53 #[.slice A n c] w fun e w' => ∃ v, e = .returned v ∧ w'.ownsRow w.heap.size 5 1 v n (bytesOf l) ∧ Below w.heap.size w w' := by
  obtain ⟨i0, hi, hz0, hz1, hz2⟩ := info_parts info5
  have HA := Lib.hid hA
  have HN := Lib.hid hn
  have hmk := fun W => run_make (P := Try.prog) W 22 5 i0 (.int .u8 0) und22 hi hz0 .i64 .i64 (n : Int) ((n : Int) + 10) (by omega) (by omega) (by rw [hz2]; omega) (by omega)
  clear hA hn
  go_enter Try.func53, Try.ntmps53
  go_wp2_with (with_reducible refine wpList_copy_splice rfl (.tmp 10) (.tmp 11) 22 22 rfl 5 und22 ?hsz1 (some ⟨w.heap.size, 0, none⟩) A n (n + 10) n c rfl rfl w.heap.size 0 (madeCells #[Value.int IntKind.u8 0] (n + 10)).toList 5 ?hg (bytesOf l) ?hn ?hpos ?hfit (bytesOf_one l) w.heap.size w ?hb (Nat.le_refl _) ?_)
  case hsz1 => rw [hi]; simp [hz1]
  case hg => simpa using heap_alloc_new w _
  case hn => rw [bytesOf_length, ← HN.out]; exact (Nat.min_self n).symm
  case hpos => exact fun h0 => (HA.out.alloc (Nat.le_refl _) _).cells h0
  case hfit => rw [bytesOf_length, ← HN.out]; simp [size_madeCells]
  case hb => exact (Below.refl _ _).alloc (Nat.le_refl _) _
  intro w' hrow hbel
  clear hmk
  go_wp2
  go_ret
  refine ⟨_, rfl, ⟨by rw [bytesOf_length, ← HN.out]; omega, .inr ⟨w.heap.size, n + 10, _, rfl, Nat.le_refl _, hrow.out, by omega, by unfold maxLen; omega, ?_, ?_⟩⟩, hbel⟩
  · simp [splice, size_madeCells, bytesOf_length, ← HN.out]
  · rw [Nat.mul_one, show n = (bytesOf l).length by rw [bytesOf_length]; exact HN.out]
    simp [splice]
end Go.Proofs.Ytnechkmdmjhhbaa
