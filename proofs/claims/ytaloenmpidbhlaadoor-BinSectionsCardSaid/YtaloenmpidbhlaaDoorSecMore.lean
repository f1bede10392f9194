/-
  A part of a slice of sections; sections laid behind a row of the call's own.
-/
import Derived.Test.YtaloenmpidbhlaaDoorSecMem
namespace Go.Proofs.YtaloenmpidbhlaaDoor
open Go.RowKit Sec
theorem HasS.below {w w' : World} {B : Nat} {A : Option Addr} {xs : List S} (h : HasS w B A xs) (hb : Below B w w') : HasS w' B A xs := fun k x hk => by
  obtain ⟨g, o, A', c, h1, h2, h3, h4, h5, h6, h7, h8, h9⟩ := h k x hk
  exact ⟨g, o, A', c, h1, h2, h3, h4, h5, h6, h7.below hb, (hb.cell h2).trans h8, (hb.cell h2).trans h9⟩
theorem HasS.drop {w : World} {B g o : Nat} {xs : List S} (h : HasS w B (some ⟨g, o, none⟩) xs) (n : Nat) : HasS w B (some ⟨g, o + n * 2, none⟩) (xs.drop n) := fun k x hk => by
  rw [List.getElem?_drop] at hk
  obtain ⟨g', o', A', c, h1, h2, h3, h4, h5, h6, h7, h8, h9⟩ := h (n + k) x hk
  injection h1 with h1
  injection h1 with e1 e2
  subst e1
  subst e2
  refine ⟨g, o + n * 2, A', c, rfl, h2, h3, h4, h5, h6, h7, ?_, ?_⟩
  · rw [show o + n * 2 + k * 2 = o + (n + k) * 2 by omega]; exact h8
  · rw [show o + n * 2 + k * 2 + 1 = o + (n + k) * 2 + 1 by omega]; exact h9
/-- A row of the call's own that reads as sections, whose bytes lie below it. -/
def OwnB (w : World) (T : TypeId) (base : Nat) (v : Value) (n : Nat) (xs : List S) : Prop :=
  ∃ ys, ys.map (·.1) = xs ∧ w.ownsRow base T 2 v n (rowS ys) ∧ ∀ y ∈ ys, y.1.id < 256 ∧ y.1.b.length ≤ y.2.2 ∧ y.2.2 ≤ maxLen ∧ (y.2.1 = none → y.2.2 = 0) ∧ Has w base y.2.1 y.1.b
theorem OwnB.own {w : World} {T : TypeId} {base : Nat} {v : Value} {n : Nat} {xs : List S} (h : OwnB w T base v n xs) (hb : base ≤ w.heap.size) : OwnS w T base v n xs := by
  obtain ⟨ys, h0, h1, h2⟩ := h
  refine ⟨ys, h0, h1, fun y hy => ?_⟩
  obtain ⟨q1, q2, q3, q4, q5⟩ := h2 y hy
  refine ⟨q1, q2, q3, q4, q5.more hb, fun ad had hl e => ?_⟩
  obtain ⟨a, r, hl2⟩ := List.exists_cons_of_ne_nil hl
  obtain ⟨ad2, e1, e2, _⟩ := q5 0 a (by rw [hl2]; rfl)
  rw [had] at e1
  injection e1 with e1
  subst e1
  have := own_ge h1 _ e
  omega
theorem exists_row {α : Type} {E : Nat → α → Prop} : ∀ (n : Nat), (∀ i, i < n → ∃ x, E i x) → ∃ xs : List α, xs.length = n ∧ ∀ i x, xs[i]? = some x → E i x
  | 0, _ => ⟨[], rfl, fun i x h => by simp at h⟩
  | n + 1, h => by
    obtain ⟨xs, h1, h2⟩ := exists_row n (fun i hi => h i (by omega))
    obtain ⟨x, hx⟩ := h n (by omega)
    refine ⟨xs ++ [x], by simp [h1], fun i y hy => ?_⟩
    rw [List.getElem?_append] at hy
    split at hy
    · exact h2 i y hy
    · next hi =>
      have h3 : i - xs.length = 0 := by
        have := (List.getElem?_eq_some_iff.1 hy).1
        simp at this
        omega
      rw [h3] at hy
      simp at hy
      subst hy
      have : i = n := by omega
      subst this
      exact hx
theorem rowS_cells (ys : List (S × Option Addr × Nat)) (j : Nat) (u : Value) (h : (rowS ys)[j]? = some u) : ∃ y, ys[j / 2]? = some y ∧ (secCells y.1 y.2.1 y.2.2)[j % 2]? = some u := by
  have hj := (List.getElem?_eq_some_iff.1 h).1
  rw [rowS_length] at hj
  obtain ⟨y, hy⟩ : ∃ y, ys[j / 2]? = some y := ⟨_, List.getElem?_eq_getElem (by omega)⟩
  refine ⟨y, hy, ?_⟩
  obtain ⟨u', hu'⟩ : ∃ u', (secCells y.1 y.2.1 y.2.2)[j % 2]? = some u' := ⟨_, List.getElem?_eq_getElem (by simp [secCells]; omega)⟩
  have := rowS_at ys (j / 2) y hy (j % 2) u' hu'
  rw [show j / 2 * 2 + j % 2 = j by omega, h] at this
  rw [hu', ← this]
set_option maxRecDepth 100000 in
/-- Sections that stand somewhere, behind such a row. -/
theorem appendB {P : Program} (T ST : TypeId) (hu : P.underlying ST = some (.slice T)) (hinf : (P.info? T).map (fun i => (i.zero, i.size, i.bytes)) = some (some (.agg #[.int .u8 0, .slice none 0 0]), 2, 32))
    (w : World) (base n m c g o : Nat) (v : Value) (xs ys : List S) (hown : OwnB w T base v n xs) (hY : HasS w base (some ⟨g, o, none⟩) ys) (hm : m = ys.length) (hsz : n + m ≤ 4000000000000) (hb : base ≤ w.heap.size) :
    ∃ v' w', (Builtin.append_ #[ST, ST] ST #[v, .slice (some ⟨g, o, none⟩) m c]).run P w = .ok v' w' ∧ OwnB w' T base v' (n + m) (xs ++ ys) ∧ Below base w w' := by
  obtain ⟨i0, hi, hz0, hz1, hz2⟩ := info_parts hinf
  obtain ⟨zs, h0, h1, h2⟩ := hown
  obtain ⟨qs, hq1, hq2⟩ := exists_row (E := fun i (y : S × Option Addr × Nat) => ys[i]? = some y.1 ∧ y.1.id < 256 ∧ y.1.b.length ≤ y.2.2 ∧ y.2.2 ≤ maxLen ∧ (y.2.1 = none → y.2.2 = 0) ∧ Has w base y.2.1 y.1.b ∧
    w.cell? ⟨g, o + i * 2, none⟩ = some (.int .u8 (y.1.id : Int)) ∧ w.cell? ⟨g, o + i * 2 + 1, none⟩ = some (.slice y.2.1 y.1.b.length y.2.2)) ys.length (fun i hi => by
      obtain ⟨x, hx⟩ : ∃ x, ys[i]? = some x := ⟨_, List.getElem?_eq_getElem hi⟩
      obtain ⟨g', o', A', c', e1, _, e3, e4, e5, e6, e7, e8, e9⟩ := hY i x hx
      injection e1 with e1
      injection e1 with e11 e12
      subst e11
      subst e12
      exact ⟨(x, A', c'), hx, e3, e4, e5, e6, e7, e8, e9⟩)
  have hmap : qs.map (·.1) = ys := by
    apply List.ext_getElem?
    intro i
    rw [List.getElem?_map]
    cases hqi : qs[i]? with
    | none =>
      have : ys.length ≤ i := by rw [← hq1]; exact List.getElem?_eq_none_iff.1 hqi
      rw [List.getElem?_eq_none this]; rfl
    | some y => rw [(hq2 i y hqi).1]; rfl
  have hcells : ∀ (j : Nat) (u : Value), (rowS qs)[j]? = some u → w.cell? ((⟨g, o, none⟩ : Addr).add j) = some u := fun j u hj => by
    obtain ⟨y, hy, hc⟩ := rowS_cells qs j u hj
    obtain ⟨_, _, _, _, _, _, e8, e9⟩ := hq2 _ y hy
    have ea : (⟨g, o, none⟩ : Addr).add j = ⟨g, o + j, none⟩ := by
      unfold Addr.add; split
      · next h => subst h; rfl
      · rfl
    rw [ea]
    have h2 : j % 2 = 0 ∨ j % 2 = 1 := by omega
    rcases h2 with h2 | h2
    · rw [h2] at hc
      simp [secCells] at hc
      subst hc
      rw [show o + j = o + j / 2 * 2 by omega]; exact e8
    · rw [h2] at hc
      simp [secCells] at hc
      subst hc
      rw [show o + j = o + j / 2 * 2 + 1 by omega]; exact e9
  have hone : ∀ u ∈ rowS qs, u.oneCell' = true := fun u hu => by
    simp only [rowS, List.mem_flatMap] at hu
    obtain ⟨y, _, hy⟩ := hu
    exact secCells_one _ _ _ u hy
  obtain ⟨v', w', hrun, h3, h4, _⟩ := run_append_own (P := P) w base ST ST T i0 _ 2 32 hu hi hz0 hz1 hz2 rfl (by decide) v n (rowS zs) h1 ⟨g, o, none⟩ m c (rowS qs) (by rw [rowS_length, hq1, hm]) hcells hone (by unfold maxLen; omega) (by omega) hb
  have hbw : Below base w w' := (Below.refl _ _).grown h4 hb (own_ge h1)
  refine ⟨v', w', hrun, ⟨zs ++ qs, by simp [h0, hmap], by rw [rowS_append]; exact h3, fun y hy => ?_⟩, hbw⟩
  rcases List.mem_append.1 hy with hy | hy
  · obtain ⟨q1, q2, q3, q4, q5⟩ := h2 y hy
    exact ⟨q1, q2, q3, q4, q5.below hbw⟩
  · obtain ⟨i, hi2⟩ := List.mem_iff_getElem?.1 hy
    obtain ⟨_, e3, e4, e5, e6, e7, _, _⟩ := hq2 i y hi2
    exact ⟨e3, e4, e5, e6, e7.below hbw⟩
end Go.Proofs.YtaloenmpidbhlaaDoor
