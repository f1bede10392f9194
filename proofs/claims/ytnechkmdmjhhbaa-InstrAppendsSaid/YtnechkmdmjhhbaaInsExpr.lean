/-
  The reader's expression: instructions one behind the other, in a row of the call's own.
-/
import Derived.Test.YtnechkmdmjhhbaaInsRd5
import Derived.Test.YtnechkmdmjhhbaaInsPass
import Derived.Deep.LoopGhost
namespace Go.Proofs.Ytnechkmdmjhhbaa
open Go.RowKit Ins
theorem und27 : Try.prog.underlying 27 = some (.slice 26) := by kernel_rfl
theorem info26 : (Try.prog.info? 26).map (fun i => (i.zero, i.size, i.bytes)) = some (some (.agg #[.int .u8 0, .int .u32 0, .int .u32 0, .int .i64 0, .slice none 0 0]), 5, 48) := by kernel_rfl
/-- The cells of instructions, one behind the other; of each where its labels lie. -/
def rowI (ys : List (I × Option Addr × Nat)) : List Value := ys.flatMap fun y => insCells y.1 y.2.1 y.2.2
theorem rowI_length (ys : List (I × Option Addr × Nat)) : (rowI ys).length = ys.length * 5 := by
  induction ys with
  | nil => rfl
  | cons y ys ih => simp only [rowI, List.flatMap_cons, List.length_append, List.length_cons] at ih ⊢; rw [ih]; simp [insCells]; omega
theorem rowI_append (a b : List (I × Option Addr × Nat)) : rowI (a ++ b) = rowI a ++ rowI b := by simp [rowI]
theorem rowI_one (ys : List (I × Option Addr × Nat)) : ∀ u ∈ rowI ys, u.oneCell' = true := by
  intro u hu
  simp only [rowI, List.mem_flatMap] at hu
  obtain ⟨y, _, hy⟩ := hu
  exact insCells_one _ _ _ u hy
theorem rowI_at : ∀ (ys : List (I × Option Addr × Nat)) (k : Nat) (y : I × Option Addr × Nat), ys[k]? = some y → ∀ j u, (insCells y.1 y.2.1 y.2.2)[j]? = some u → (rowI ys)[k * 5 + j]? = some u
  | [], k, y, h, _, _, _ => by simp at h
  | z :: ys, 0, y, h, j, u, hj => by
    simp at h; subst h
    simp only [rowI, List.flatMap_cons, Nat.zero_mul, Nat.zero_add]
    rw [List.getElem?_append_left (by exact (List.getElem?_eq_some_iff.1 hj).1)]
    exact hj
  | z :: ys, k + 1, y, h, j, u, hj => by
    have ih := rowI_at ys k y (by simpa using h) j u hj
    simp only [rowI, List.flatMap_cons] at ih ⊢
    rw [List.getElem?_append_right (by simp [insCells]; omega), ← ih]
    congr 1
    simp [insCells]; omega
/-- A row of the call's own that reads as instructions; their labels lie in blocks of S. -/
def OwnI (w : World) (base : Nat) (S : Nat → Prop) (v : Value) (n : Nat) (xs : List I) : Prop :=
  ∃ ys, ys.map (·.1) = xs ∧ w.ownsRow base 26 5 v n (rowI ys) ∧ ∀ y ∈ ys, y.1.wf ∧ y.1.l.length ≤ y.2.2 ∧ y.2.2 ≤ maxLen ∧ HasU w S y.2.1 y.1.l
theorem OwnI.len {w : World} {base : Nat} {S : Nat → Prop} {v : Value} {n : Nat} {xs : List I} (h : OwnI w base S v n xs) : n = xs.length := by
  obtain ⟨ys, rfl, h1, _⟩ := h
  have := h1.1
  rw [rowI_length] at this
  simp; omega
theorem OwnI.mod {w w' : World} {T : Nat → Prop} {base : Nat} {S : Nat → Prop} {v : Value} {n : Nat} {xs : List I} (h : OwnI w base S v n xs) (hm : Mod T w w') (hv : ∀ g, v.ownBlock = some g → ¬ T g) (hs : ∀ g, g < w.heap.size → S g → ¬ T g) : OwnI w' base S v n xs := by
  obtain ⟨ys, h0, h1, h2⟩ := h
  exact ⟨ys, h0, hm.own h1 hv, fun y hy => ⟨(h2 y hy).1, (h2 y hy).2.1, (h2 y hy).2.2.1, (h2 y hy).2.2.2.mod hm hs⟩⟩
theorem OwnI.more {w : World} {base : Nat} {S S' : Nat → Prop} {v : Value} {n : Nat} {xs : List I} (h : OwnI w base S v n xs) (hs : ∀ g, g < w.heap.size → S g → S' g) : OwnI w base S' v n xs := by
  obtain ⟨ys, h0, h1, h2⟩ := h
  exact ⟨ys, h0, h1, fun y hy => ⟨(h2 y hy).1, (h2 y hy).2.1, (h2 y hy).2.2.1, (h2 y hy).2.2.2.more hs⟩⟩
theorem OwnI.nil (w : World) (base : Nat) (S : Nat → Prop) : OwnI w base S (.slice none 0 0) 0 [] := ⟨[], rfl, World.ownsRow_nil _ _ _ _, by simp⟩
/-- What the instructions are told as. -/
def InsL (B : Nat) (w : World) (v : Value) (xs : List I) : Prop := ∃ A c, v = .slice A xs.length c ∧ xs.length ≤ c ∧ c ≤ maxLen ∧ HasI w (B ≤ ·) A xs
theorem OwnI.tell {w : World} {base : Nat} {S : Nat → Prop} {v : Value} {n : Nat} {xs : List I} (h : OwnI w base S v n xs) (hs : ∀ g, S g → base ≤ g) : InsL base w v xs := by
  have hn := h.len
  obtain ⟨ys, h0, h1, h2⟩ := h
  subst hn
  rcases h1.2 with ⟨rfl, h3⟩ | ⟨g, cap, cur, rfl, hb, hh, hc, hm, _, htk⟩
  · have : xs = [] := List.eq_nil_of_length_eq_zero h3
    subst this
    exact ⟨none, 0, rfl, Nat.le_refl _, by unfold maxLen; omega, HasI.nil _ _ _⟩
  · refine ⟨_, cap, rfl, hc, hm, fun k x hk => ?_⟩
    rw [← h0, List.getElem?_map, Option.map_eq_some_iff] at hk
    obtain ⟨y, hy, rfl⟩ := hk
    obtain ⟨q1, q2, q3, q4⟩ := h2 y (List.mem_of_getElem? hy)
    refine ⟨g, 0, y.2.1, y.2.2, rfl, hb, q1, q2, q3, q4.more (fun g _ => hs g), fun j u hj => ?_⟩
    have := h1.cells (g := g) rfl (k * 5 + j) u (rowI_at ys k y hy j u hj)
    have e2 : (⟨g, 0, none⟩ : Addr).add (k * 5 + j) = ⟨g, 0 + k * 5 + j, none⟩ := by
      unfold Addr.add; split
      · next h => simp at h; simp
      · simp
    rwa [e2] at this
theorem cells_new (w : World) (cs : List Value) (t : TypeId) : ∀ (j : Nat) (u : Value), cs[j]? = some u → (w.alloc (.cells cs.toArray t)).cell? ((⟨w.heap.size, 0, none⟩ : Addr).add j) = some u := by
  intro j u h
  have e2 : (⟨w.heap.size, 0, none⟩ : Addr).add j = ⟨w.heap.size, j, none⟩ := by
    unfold Addr.add; split <;> simp_all
  rw [e2, World.cell?_alloc_new]
  simpa using h
set_option maxRecDepth 100000 in
theorem append1i (w : World) (base n : Nat) (S : Nat → Prop) (v : Value) (xs : List I) (x : I) (A : Option Addr) (c : Nat) (hown : OwnI w base S v n xs) (hsz : n + 1 ≤ 2000000000000) (hb : base ≤ w.heap.size)
    (hx : x.wf ∧ x.l.length ≤ c ∧ c ≤ maxLen ∧ HasU w S A x.l) (hs : ∀ g, g < w.heap.size → S g → v.ownBlock ≠ some g) :
    ∃ v' w', (Builtin.append_ #[27, 27] 27 #[v, .slice (some ⟨w.heap.size, 0, none⟩) 1 1]).run Try.prog (w.alloc (.cells (insCells x A c).toArray 26)) = .ok v' w' ∧ OwnI w' base (fun g => S g ∧ v'.ownBlock ≠ some g) v' (n + 1) (xs ++ [x]) ∧ Mod (fun g => v.ownBlock = some g) w w' ∧ ∀ g, v'.ownBlock = some g → v.ownBlock = some g ∨ w.heap.size ≤ g := by
  obtain ⟨i0, hi, hz0, hz1, hz2⟩ := info_parts info26
  obtain ⟨ys, h0, h1, h2⟩ := hown
  have hown1 := h1.alloc (.cells (insCells x A c).toArray 26)
  obtain ⟨v', w', hrun, h3, h4, _⟩ := run_append_own (P := Try.prog) (w.alloc (.cells (insCells x A c).toArray 26)) base 27 27 26 i0 _ 5 48 und27 hi hz0 hz1 hz2 rfl (by decide) v n (rowI ys) hown1 ⟨w.heap.size, 0, none⟩ 1 1 (insCells x A c) rfl (cells_new w _ _) (insCells_one x A c) (by unfold maxLen; omega) (by omega) (by simp; omega)
  have ht := append_tight (P := Try.prog) _ base 27 27 26 i0 _ 5 48 und27 hi hz0 hz1 hz2 v n (rowI ys) hown1 ⟨w.heap.size, 0, none⟩ 1 1 (insCells x A c) rfl (cells_new w _ _) (insCells_one x A c) (by omega) (by unfold maxLen; omega) (by omega) hrun
  have hM : Mod (fun g => v.ownBlock = some g) w w' := ((Mod.refl _ w).alloc _).trans (T' := fun g => v.ownBlock = some g) (Mod.of_grown h4 (fun _ h => h)) (fun _ _ h => h)
  have ht2 : ∀ g, v'.ownBlock = some g → v.ownBlock = some g ∨ w.heap.size ≤ g := fun g hg => by
    rcases ht g hg with h | h
    · exact .inl h
    · exact .inr (by simp at h; omega)
  have hS : ∀ g, g < w.heap.size → S g → S g ∧ v'.ownBlock ≠ some g := fun g hg hsg => ⟨hsg, fun e => by
    rcases ht2 g e with h | h
    · exact hs g hg hsg h
    · omega⟩
  refine ⟨v', w', hrun, ⟨ys ++ [(x, A, c)], by simp [h0], by rw [rowI_append]; simpa [rowI] using h3, fun y hy => ?_⟩, hM, ht2⟩
  rcases List.mem_append.1 hy with hy | hy
  · exact ⟨(h2 y hy).1, (h2 y hy).2.1, (h2 y hy).2.2.1, ((h2 y hy).2.2.2.more hS).mod hM (fun g hg hsg => hs g hg hsg.1)⟩
  · simp at hy; subst hy
    exact ⟨hx.1, hx.2.1, hx.2.2.1, (hx.2.2.2.more hS).mod hM (fun g hg hsg => hs g hg hsg.1)⟩
end Go.Proofs.Ytnechkmdmjhhbaa
