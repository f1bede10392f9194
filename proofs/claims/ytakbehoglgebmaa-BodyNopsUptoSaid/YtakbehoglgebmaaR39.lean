/-
  A function's code handed in by value, opened.
-/
import Derived.Test.YtakbehoglgebmaaR12
/-
  A type of functions handed in by value, opened.
-/
namespace Go.Proofs.Ytakbehoglgebmaa
open Go.RowKit Ins Bin
open Go.ChangeShapes Go.WideShapes Go.ChangeAt Go.Deep
set_option maxRecDepth 100000
theorem o_undF' : isStructD (Try.prog.underlying 36) = true := by kernel_rfl
theorem o_undF : ∃ fs, Try.prog.underlying 36 = some (.struct fs) := by
  have h := o_undF'
  generalize Try.prog.underlying 36 = x at h
  unfold isStructD at h
  split at h
  · exact ⟨_, rfl⟩
  · cases h
section
variable {H : Type} {enc : TypeId × Value → H} {W : World}
theorem open_ftype {base : Nat} {v : Value} {d : DataW H} {p : List MemPlace} (hval : Value.okWide Try.prog W .any base 36 v) (h : DataW.Trod enc Try.prog W 0 (fun _ => true) true 36 v d p) (hs : ∀ k ∈ d.weights Try.prog 36, k ≤ reachBytes) :
    ∃ (x : FT) (a b : Value), v = .agg #[a, b] ∧ SliceV W (· < W.heap.size) x.params a ∧ SliceV W (· < W.heap.size) x.results b ∧ x.params.length ≤ most ∧ x.results.length ≤ most := by
  obtain ⟨fs, hu⟩ := o_undF
  obtain ⟨cs, rfl, _⟩ := okWide_struct hu hval
  obtain ⟨fuel, hf⟩ := h
  obtain ⟨x, ⟨a, b, hcs, h1, h2⟩, h3⟩ := Opn.open_ (α := FT) ⟨⟨p, hf⟩, hs⟩
  refine ⟨x, a, b, ?_, h1, h2, h3⟩
  have hc : cs.toList = (#[a, b] : Array Value).toList := by rw [← hcs]; simp [Value.cells]
  rw [Array.toList_inj.1 hc]
end
end Go.Proofs.Ytakbehoglgebmaa
namespace Go.Proofs.Ytakbehoglgebmaa
open Go.RowKit Ins Bin
open Go.ChangeShapes Go.WideShapes Go.ChangeAt Go.Deep
set_option maxRecDepth 100000
theorem o_undC' : isStructD (Try.prog.underlying 40) = true := by kernel_rfl
theorem o_undC : ∃ fs, Try.prog.underlying 40 = some (.struct fs) := by
  have h := o_undC'
  generalize Try.prog.underlying 40 = x at h
  unfold isStructD at h
  split at h
  · exact ⟨_, rfl⟩
  · cases h
section
variable {H : Type} {enc : TypeId × Value → H} {W : World}
theorem open_code {base : Nat} {v : Value} {d : DataW H} {p : List MemPlace} (hval : Value.okWide Try.prog W .any base 40 v) (h : DataW.Trod enc Try.prog W 0 (fun _ => true) true 40 v d p) (hs : ∀ k ∈ d.weights Try.prog 40, k ≤ reachBytes) :
    ∃ (x : Cd) (a b : Value), v = .agg #[a, b] ∧ SliceV W (· < W.heap.size) x.locals a ∧ SliceV W (· < W.heap.size) x.body b ∧ x.locals.length ≤ most ∧ bigE x.body := by
  obtain ⟨fs, hu⟩ := o_undC
  obtain ⟨cs, rfl, _⟩ := okWide_struct hu hval
  obtain ⟨fuel, hf⟩ := h
  obtain ⟨x, ⟨a, b, hcs, h1, h2⟩, h3⟩ := Opn.open_ (α := Cd) ⟨⟨p, hf⟩, hs⟩
  refine ⟨x, a, b, ?_, h1, h2, h3⟩
  have hc : cs.toList = (#[a, b] : Array Value).toList := by rw [← hcs]; simp [Value.cells]
  rw [Array.toList_inj.1 hc]
end
end Go.Proofs.Ytakbehoglgebmaa
