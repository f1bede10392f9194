/-
  The program keeps what layer 14's laws ask of it.
-/
import Derived.Test.YtknnkmakfcfnjaaDoorPartAll
import Derived.Test.YtknnkmakfcfnjaaDoorPartTellsWalk
namespace Go.Proofs.YtknnkmakfcfnjaaDoor
open Go.RowKit Ins Go.Shelf
theorem pends_ok : PEndsOk := fun op w hop _ => pends_any op w hop
theorem pparts_ok : PartsOk := fun xs S A n c w hn hs hcp hL hT => pparts_any xs S A n c w hn hs hcp hL hT
theorem pall_ok : PAllOk 14 := fun xs A n c w0 w hn hs hcp hL hT hB =>
  (pall_any xs (· < w0.heap.size) A n c w hn (by omega) hcp (hL.on hB) (fun _ hb => Nat.lt_of_lt_of_le hb hB.size)).mono (fun _ w' ⟨A', c', h1, h2, h3, h4⟩ => ⟨_, h1, h4, fun m =>
    (each_flat m xs (fun b => (b < w0.heap.size ∨ w.heap.size ≤ b) ∧ b < w'.heap.size) (fun b => From w0.heap.size w.heap.size b ∨ w'.heap.size ≤ b) A' n c' w0.heap.size w' hn (by omega) h2 (h3.more (fun _ hk h => ⟨h, hk⟩))
      (fun _ hV => hT.on ((hB.trans (h4.mono hB.size)).trans hV)) (Nat.le_trans hB.size h4.size) (fun b hb => by
        have := h4.size
        have := hB.size
        rcases hb with ⟨q1, q2⟩ | q
        · exact ⟨q1, fun h => by omega⟩
        · exact ⟨by omega, fun h => by omega⟩)).over⟩)
/-- PartTells over the program, whole. -/
theorem ppartTells (xs : List I) (A : Option Addr) (n c op : Nat) (left : Int) (w : World) (hop : op < 256) (hlf : -9223372036854775808 ≤ left ∧ left ≤ 9223372036854775807) (hn : n = xs.length) (hs : n ≤ 140737488355328) (hcp : CapOk A n c) (hL : HasL w (· < w.heap.size) A xs) (hT : TbC w) :
    Calls Tryd.prog 3 #[.slice A n c, .int .u8 (op : Int), .int .i64 left] w fun e w' => e = .returned (.bool true) ∧ Below w.heap.size w w' :=
  partTells_any _ pall_ok (fun _ _ => rfl) pparts_ok pends_ok xs A n c op left w hop hlf hn hs hcp hL hT
end Go.Proofs.YtknnkmakfcfnjaaDoor
