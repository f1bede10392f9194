/-
  Layer 14: parts in memory: the program's and the document's records, of the same three cells.
-/
import Derived.Test.YtknnkmakfcfnjaaDoorPaM
import Derived.Test.YtknnkmakfcfnjaaDoorCoSum
namespace Go.Proofs.YtknnkmakfcfnjaaDoor
open Go.RowKit Ins
def partCells (p : Pa.P) : List Value := [.int .i64 (p.at_ : Int), .int .i64 (p.to : Int), .int .u64 (p.cost : Int)]
instance : Lay Pa.P where
  size := 3
  rep _ _ x cs := cs = partCells x
  len h := by rw [h]; rfl
  mod h _ _ := h
  more h _ := h
instance : Ones Pa.P := ⟨fun h u hu => by
  have h' : _ = _ := h
  subst h'
  simp [partCells] at hu; rcases hu with rfl | rfl | rfl <;> rfl⟩
theorem undPa : Tryd.prog.underlying 24 = some (.slice 31) := by kernel_rfl
theorem infPa : (Tryd.prog.info? 31).map (fun i => (i.zero, i.size, i.bytes)) = some (some (.agg #[.int .i64 0, .int .i64 0, .int .u64 0]), Lay.size Pa.P, 24) := by kernel_rfl
theorem undPr : Tryd.prog.underlying 26 = some (.slice 32) := by kernel_rfl
theorem infPr : (Tryd.prog.info? 32).map (fun i => (i.zero, i.size, i.bytes)) = some (some (.agg #[.int .i64 0, .int .i64 0, .int .u64 0]), Lay.size Pa.P, 24) := by kernel_rfl
/-- A part's three cells in a row that reads as parts. -/
theorem HasL.three {S : Nat → Prop} {w w' : World} {A : Option Addr} {xs : List Pa.P} (h : HasL w S A xs) (hb : Below w.heap.size w w') {j : Nat} {x : Pa.P} (hx : xs[j]? = some x) :
    ∃ g o, A = some ⟨g, o, none⟩ ∧ S g ∧ w'.cell? ⟨g, o + j * 3, none⟩ = some (.int .i64 (x.at_ : Int)) ∧ w'.cell? ⟨g, o + j * 3 + 1, none⟩ = some (.int .i64 (x.to : Int)) ∧ w'.cell? ⟨g, o + j * 3 + 2, none⟩ = some (.int .u64 (x.cost : Int)) := by
  obtain ⟨g, of, cs, rfl, hs, hg, hc, hcs⟩ := h j x hx
  have hc' : cs = partCells x := hc
  subst hc'
  exact ⟨g, of, rfl, hs, (hb.cell (p := ⟨g, of + j * 3, none⟩) hg).trans (hcs 0 _ rfl), (hb.cell (p := ⟨g, of + j * 3 + 1, none⟩) hg).trans (hcs 1 _ rfl), (hb.cell (p := ⟨g, of + j * 3 + 2, none⟩) hg).trans (hcs 2 _ rfl)⟩
end Go.Proofs.YtknnkmakfcfnjaaDoor
