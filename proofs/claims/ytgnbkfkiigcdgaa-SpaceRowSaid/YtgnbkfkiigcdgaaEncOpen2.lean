/-
  A module handed in by value, opened.
-/
import Derived.Test.YtgnbkfkiigcdgaaEncOpen
namespace Go.Proofs.Ytgnbkfkiigcdgaa
open Go.RowKit Ins Bin
open Go.ChangeShapes Go.WideShapes Go.ChangeAt Go.Deep
set_option maxRecDepth 100000
def isStructD : Option TypeDesc → Bool
  | some (.struct _) => true
  | _ => false
theorem o_undM' : isStructD (Try.prog.underlying 33) = true := by kernel_rfl
theorem o_undM : ∃ fs, Try.prog.underlying 33 = some (.struct fs) := by
  have h := o_undM'
  generalize Try.prog.underlying 33 = x at h
  unfold isStructD at h
  split at h
  · exact ⟨_, rfl⟩
  · cases h
section
variable {H : Type} {enc : TypeId × Value → H} {W : World}
theorem open_mod {base : Nat} {v : Value} {d : DataW H} {p : List MemPlace} (hval : Value.okWide Try.prog W .any base 33 v) (h : DataW.Trod enc Try.prog W 0 (fun _ => true) true 33 v d p) (hs : ∀ k ∈ d.weights Try.prog 33, k ≤ reachBytes) :
    ∃ (m : M) (v1 v2 v3 v4 v5 v6 v7 v8 v9 v10 : Value), v = .agg (modCells m v1 v2 v3 v4 v5 v6 v7 v8 v9 v10) ∧ RepM W (· < W.heap.size) m v1 v2 v3 v4 v5 v6 v7 v8 v9 v10 ∧ BigM m := by
  obtain ⟨fs, hu⟩ := o_undM
  obtain ⟨cs, rfl, _⟩ := okWide_struct hu hval
  obtain ⟨fuel, hf⟩ := h
  obtain ⟨m, v1, v2, v3, v4, v5, v6, v7, v8, v9, v10, hcs, h1, h2⟩ := open_module ⟨⟨p, hf⟩, hs⟩
  refine ⟨m, v1, v2, v3, v4, v5, v6, v7, v8, v9, v10, ?_, h1, h2⟩
  have hc : cs.toList = (modCells m v1 v2 v3 v4 v5 v6 v7 v8 v9 v10).toList := by rw [← hcs]; simp [Value.cells]
  rw [Array.toList_inj.1 hc]
end
end Go.Proofs.Ytgnbkfkiigcdgaa
