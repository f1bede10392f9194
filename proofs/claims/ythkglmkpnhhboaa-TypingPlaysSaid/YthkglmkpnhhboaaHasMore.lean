/-
  A slice of bytes from a place on; where it has bytes it has an address.
-/
import Derived.Test.YthkglmkpnhhboaaBytes
namespace Go.Proofs.Ythkglmkpnhhboaa
open Go.RowKit
theorem Has.from {w : World} {B : Nat} {ad : Addr} {l : List UInt8} (h : Has w B (some ad) l) (k : Nat) : Has w B (some (ad.add k)) (l.drop k) := by
  by_cases hk : k = 0
  · subst hk; simpa [Addr.add] using h
  · intro j x hx
    rw [List.getElem?_drop] at hx
    obtain ⟨ad', h1, h2, h3⟩ := h (k + j) x hx
    obtain rfl := Option.some.inj h1
    rw [Addr.add, if_neg hk]
    refine ⟨_, rfl, h2, ?_⟩
    have e : (⟨ad.block, ad.off + k, none⟩ : Addr).add j = ad.add (k + j) := by
      unfold Addr.add
      rw [if_neg (show ¬ k + j = 0 by omega)]
      split
      · next hj => subst hj; rfl
      · simp [Nat.add_assoc]
    rw [e]
    exact h3
theorem Has.someAddr {w : World} {B : Nat} {A : Option Addr} {l : List UInt8} (h : Has w B A l) (hk : 0 < l.length) : ∃ ad, A = some ad := by
  obtain ⟨ad, h1, _⟩ := h 0 _ (List.getElem?_eq_getElem hk)
  exact ⟨ad, h1⟩
end Go.Proofs.Ythkglmkpnhhboaa
