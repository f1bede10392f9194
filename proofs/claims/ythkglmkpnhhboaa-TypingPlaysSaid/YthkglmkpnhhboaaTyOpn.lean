/-
  Layer 9's arguments, opened: slices of types; a script.
-/
import Derived.Test.YthkglmkpnhhboaaTyRow
import Derived.Test.YthkglmkpnhhboaaEncOpen
namespace Go.Proofs.Ythkglmkpnhhboaa
open Go.RowKit Ins Bin
open Go.ChangeShapes Go.WideShapes Go.ChangeAt Go.Deep
set_option maxRecDepth 100000
theorem open_slv {α : Type} [Lay α] [Opn α] {ST : TypeId} (hu : Try.prog.underlying ST = some (.slice (Opn.T α))) {H : Type} {enc : TypeId × Value → H} {W : World} {base : Nat} {v : Value} {d : DataW H} {p : List MemPlace} (hval : Value.okWide Try.prog W .any base ST v) (h : DataW.Trod enc Try.prog W 0 (fun _ => true) true ST v d p) (hs : ∀ k ∈ d.weights Try.prog ST, k ≤ reachBytes) :
    ∃ (xs : List α) (A : Option Addr) (c : Nat), v = .slice A xs.length c ∧ SliceV W (· < W.heap.size) xs (.slice A xs.length c) ∧ xs.length ≤ 140737488355328 ∧ ∀ x ∈ xs, Opn.big x := by
  obtain ⟨a1, len, cap, rfl⟩ := okWide_slice hu hval
  obtain ⟨fuel, hf⟩ := h
  obtain ⟨xs, h1, h2, h3⟩ := open_sl hu ⟨⟨p, by simpa [Value.cells] using hf⟩, hs⟩
  have h4 := h1
  obtain ⟨A, c, e, _⟩ := h4
  exact ⟨xs, A, c, e, by rw [← e]; exact h1, h2, h3⟩
end Go.Proofs.Ythkglmkpnhhboaa
