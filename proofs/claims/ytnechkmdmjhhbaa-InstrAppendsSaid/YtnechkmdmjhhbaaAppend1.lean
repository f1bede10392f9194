/-
  append of one byte onto a row of the call's own, as an equation of a run.
-/
import Derived.Test.YtnechkmdmjhhbaaAppends
namespace Go.Proofs.Ytnechkmdmjhhbaa
open Go.RowKit
set_option maxRecDepth 100000 in
theorem append1 (w : World) (base n : Nat) (v : Value) (l : List UInt8) (x : UInt8) (hown : w.ownsRow base 5 1 v n (bytesOf l)) (hsz : n + 1 ≤ 140737488355328) (hb : base ≤ w.heap.size) :
    ∃ v' w', (Builtin.append_ #[22, 22] 22 #[v, .slice (some ⟨w.heap.size, 0, none⟩) 1 1]).run Try.prog (w.alloc (.cells #[.int .u8 (x.toNat : Int)] 5)) = .ok v' w' ∧ w'.ownsRow base 5 1 v' (n + 1) (bytesOf (l ++ [x])) ∧ Below base w w' := by
  have hb0 : Below base w (w.alloc (.cells #[.int .u8 (x.toNat : Int)] 5)) := (Below.refl _ _).alloc hb _
  have hlit : Has (w.alloc (.cells #[.int .u8 (x.toNat : Int)] 5)) (w.heap.size + 1) (some ⟨w.heap.size, 0, none⟩) [x] := Has.lit w [x] 5
  obtain ⟨v', w', h1, h2, h3⟩ := run_append_has _ base n 1 1 v l [x] _ (hown.alloc _) (hlit.more (by simp)) rfl hsz (by simp; omega)
  exact ⟨v', w', h1, h2, hb0.trans h3⟩
end Go.Proofs.Ytnechkmdmjhhbaa
