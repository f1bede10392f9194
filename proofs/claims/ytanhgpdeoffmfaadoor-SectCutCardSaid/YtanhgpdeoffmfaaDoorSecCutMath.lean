/-
  Plain mathematics of a beginning of a binary's bytes: read section by section, beside the whole.
-/
import Derived.Test.YtanhgpdeoffmfaaDoorSecRSplit
namespace Sec
open Leb
/-- What a beginning of so many bytes is read as, from a place on. -/
def ct (l : List UInt8) (ys : List S) (k p cut : Nat) : Prop := if p ≤ cut then split (l.take cut) = (rdc k ((l.drop p).take (cut - p))).map (ys ++ ·) else split (l.take cut) = none
theorem ct_zero {l : List UInt8} (h : l.take 8 = begin8) (cut : Nat) : ct l [] 0 8 cut := by
  unfold ct
  split
  · next hc =>
    rw [split_good (by rw [List.take_take, Nat.min_eq_left hc, h]), List.drop_take]
    simp
  · next hc => exact split_short (by rw [List.length_take]; omega)
theorem ct_eq {l : List UInt8} {ys : List S} {k p : Nat} (h : ct l ys k p p) : split (l.take p) = some ys := by
  unfold ct at h
  rw [if_pos (Nat.le_refl _), Nat.sub_self, List.take_zero, rdc_nil] at h
  simpa using h
theorem ct_gt {l : List UInt8} {ys : List S} {k p cut : Nat} (h : ct l ys k p cut) (hc : cut < p) : split (l.take cut) = none := by
  unfold ct at h
  rwa [if_neg (by omega)] at h
theorem st_some {l : List UInt8} {xs ys : List S} {k p : Nat} (h : st l ys k p) (hs : split l = some xs) : ∃ zs, rdc k (l.drop p) = some zs ∧ xs = ys ++ zs := by
  unfold st at h
  rw [hs] at h
  cases hz : rdc k (l.drop p) with
  | none => rw [hz] at h; cases h
  | some zs => rw [hz] at h; exact ⟨zs, rfl, by injection h⟩
theorem cut_step {l : List UInt8} {xs ys : List S} {k p cut : Nat} {x : UInt8} (hs : split l = some xs) (h : st l ys k p) (hc : ct l ys k p cut) (hx : l[p]? = some x) (hp : p < cut) :
    okU (l.drop (p + 1)) 32 = true ∧ p + 1 + run (l.drop (p + 1)) + used (l.drop (p + 1)) ≤ l.length ∧
    (x.toNat = 0 → st l ys k (p + 1 + run (l.drop (p + 1)) + used (l.drop (p + 1))) ∧ ct l ys k (p + 1 + run (l.drop (p + 1)) + used (l.drop (p + 1))) cut) ∧
    (x.toNat ≠ 0 → ∃ own, st l (ys ++ [⟨x.toNat, own⟩]) x.toNat (p + 1 + run (l.drop (p + 1)) + used (l.drop (p + 1))) ∧ ct l (ys ++ [⟨x.toNat, own⟩]) x.toNat (p + 1 + run (l.drop (p + 1)) + used (l.drop (p + 1))) cut) := by
  have hpl : p < l.length := (List.getElem?_eq_some_iff.1 hx).1
  have h1 : okU (l.drop (p + 1)) 32 = true := by
    cases hk : okU (l.drop (p + 1)) 32 with
    | true => rfl
    | false => have := st_none h hx (.inl hk); rw [hs] at this; cases this
  have h2 : p + 1 + run (l.drop (p + 1)) + used (l.drop (p + 1)) ≤ l.length := by
    by_cases hk : p + 1 + run (l.drop (p + 1)) + used (l.drop (p + 1)) ≤ l.length
    · exact hk
    · have := st_none h hx (.inr (by omega)); rw [hs] at this; cases this
  obtain ⟨s1, s2⟩ := st_step (R := run (l.drop (p + 1))) (U := used (l.drop (p + 1))) h hx h1 rfl rfl h2
  have hh := hd_at hx h1 h2
  have hm : hlen (l.drop p) = 1 + run (l.drop (p + 1)) + used (l.drop (p + 1)) := by unfold hlen; rw [List.drop_drop]
  have hne : (l.drop p).take (cut - p) ≠ [] := by
    intro e
    have := congrArg List.length e
    rw [List.length_take, List.length_drop] at this
    simp at this
    omega
  unfold ct at hc
  rw [if_pos (by omega)] at hc
  refine ⟨h1, h2, ?_, ?_⟩
  · intro h0
    have s1' := s1 h0
    have hn : named ((l.drop (p + 1 + run (l.drop (p + 1)))).take (used (l.drop (p + 1)))) = true := by
      cases hk : named ((l.drop (p + 1 + run (l.drop (p + 1)))).take (used (l.drop (p + 1)))) with
      | true => rfl
      | false => rw [hk] at s1'; rw [if_neg (by decide), hs] at s1'; cases s1'
    rw [if_pos hn] at s1'
    refine ⟨s1', ?_⟩
    unfold ct
    split
    · next hle =>
      have ht := hd_take hh (c := cut - p) (by omega)
      rw [hc, rdc_some ht, if_pos h0, if_pos hn, hm]
      congr 3
      omega
    · next hle =>
      have ht := hd_cut hh (c := cut - p) (by omega)
      rw [hc, rdc_none hne ht]; rfl
  · intro h0
    have s2' := s2 h0
    have hn : k < x.toNat ∧ x.toNat ≤ 11 := by
      by_cases hk : k < x.toNat ∧ x.toNat ≤ 11
      · exact hk
      · rw [if_neg hk, hs] at s2'; cases s2'
    rw [if_pos hn] at s2'
    refine ⟨_, s2', ?_⟩
    unfold ct
    split
    · next hle =>
      have ht := hd_take hh (c := cut - p) (by omega)
      rw [hc, rdc_some ht, if_neg h0, if_pos hn, hm, Option.map_map]
      rw [show cut - p - (1 + run (l.drop (p + 1)) + used (l.drop (p + 1))) = cut - (p + 1 + run (l.drop (p + 1)) + used (l.drop (p + 1))) by omega]
      congr 1
      funext a
      simp
    · next hle =>
      have ht := hd_cut hh (c := cut - p) (by omega)
      rw [hc, rdc_none hne ht]; rfl
end Sec
