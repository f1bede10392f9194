/-
  Slices that read as a binary's sections, and rows of the call's own that do; one section more in such a row.
-/
import Derived.Test.YthkglmkpnhhboaaModRow
import Derived.Test.YthkglmkpnhhboaaSecMath
namespace Go.Proofs.Ythkglmkpnhhboaa
open Go.RowKit Sec
/-- A section's two cells. -/
def secCells (x : S) (A : Option Addr) (c : Nat) : List Value := [.int .u8 (x.id : Int), .slice A x.b.length c]
theorem secCells_one (x : S) (A : Option Addr) (c : Nat) : ∀ u ∈ secCells x A c, u.oneCell' = true := by
  intro u hu
  simp [secCells] at hu
  rcases hu with rfl | rfl <;> rfl
/-- A slice with address A reads as sections, all of it below block B. -/
def HasS (w : World) (B : Nat) (A : Option Addr) (xs : List S) : Prop := ∀ (k : Nat) (x : S), xs[k]? = some x → ∃ g o A' c, A = some ⟨g, o, none⟩ ∧ g < B ∧ x.id < 256 ∧ x.b.length ≤ c ∧ c ≤ maxLen ∧ (A' = none → c = 0) ∧ Has w B A' x.b ∧
  w.cell? ⟨g, o + k * 2, none⟩ = some (.int .u8 (x.id : Int)) ∧ w.cell? ⟨g, o + k * 2 + 1, none⟩ = some (.slice A' x.b.length c)
theorem HasS.nil (w : World) (B : Nat) (A : Option Addr) : HasS w B A [] := fun k x hx => by simp at hx
theorem HasS.on {w w' : World} {A : Option Addr} {xs : List S} (h : HasS w w.heap.size A xs) (hb : Below w.heap.size w w') : HasS w' w'.heap.size A xs := fun k x hk => by
  obtain ⟨g, o, A', c, h1, h2, h3, h4, h5, h6, h7, h8, h9⟩ := h k x hk
  exact ⟨g, o, A', c, h1, Nat.lt_of_lt_of_le h2 hb.size, h3, h4, h5, h6, h7.on hb, (hb.cell h2).trans h8, (hb.cell h2).trans h9⟩
theorem HasS.ids {w : World} {B : Nat} {A : Option Addr} {xs : List S} (h : HasS w B A xs) : ∀ x ∈ xs, x.id < 256 := fun x hx => by
  obtain ⟨k, hk⟩ := List.mem_iff_getElem?.1 hx
  obtain ⟨_, _, _, _, _, _, h3, _⟩ := h k x hk
  exact h3
theorem HasS.take {w : World} {B : Nat} {A : Option Addr} {xs : List S} (h : HasS w B A xs) (n : Nat) : HasS w B A (xs.take n) := fun k x hk => by
  rw [List.getElem?_take] at hk
  split at hk
  · exact h k x hk
  · cases hk
/-- The cells of sections, one behind the other; of each where its bytes lie. -/
def rowS (ys : List (S × Option Addr × Nat)) : List Value := ys.flatMap fun y => secCells y.1 y.2.1 y.2.2
theorem rowS_length (ys : List (S × Option Addr × Nat)) : (rowS ys).length = ys.length * 2 := by
  induction ys with
  | nil => rfl
  | cons y ys ih => simp only [rowS, List.flatMap_cons, List.length_append, List.length_cons] at ih ⊢; rw [ih]; simp [secCells]; omega
theorem rowS_append (a b : List (S × Option Addr × Nat)) : rowS (a ++ b) = rowS a ++ rowS b := by simp [rowS]
theorem rowS_at : ∀ (ys : List (S × Option Addr × Nat)) (k : Nat) (y : S × Option Addr × Nat), ys[k]? = some y → ∀ j u, (secCells y.1 y.2.1 y.2.2)[j]? = some u → (rowS ys)[k * 2 + j]? = some u
  | [], k, y, h, _, _, _ => by simp at h
  | z :: ys, 0, y, h, j, u, hj => by
    simp at h; subst h
    simp only [rowS, List.flatMap_cons, Nat.zero_mul, Nat.zero_add]
    rw [List.getElem?_append_left (by exact (List.getElem?_eq_some_iff.1 hj).1)]
    exact hj
  | z :: ys, k + 1, y, h, j, u, hj => by
    have ih := rowS_at ys k y (by simpa using h) j u hj
    simp only [rowS, List.flatMap_cons] at ih ⊢
    rw [List.getElem?_append_right (by simp [secCells]; omega), ← ih]
    congr 1
    simp [secCells]; omega
/-- A row of the call's own that reads as sections; their bytes lie elsewhere. -/
def OwnS (w : World) (T : TypeId) (base : Nat) (v : Value) (n : Nat) (xs : List S) : Prop :=
  ∃ ys, ys.map (·.1) = xs ∧ w.ownsRow base T 2 v n (rowS ys) ∧ ∀ y ∈ ys, y.1.id < 256 ∧ y.1.b.length ≤ y.2.2 ∧ y.2.2 ≤ maxLen ∧ (y.2.1 = none → y.2.2 = 0) ∧ Has w w.heap.size y.2.1 y.1.b ∧ ∀ ad, y.2.1 = some ad → y.1.b ≠ [] → v.ownBlock ≠ some ad.block
theorem OwnS.len {w : World} {T : TypeId} {base : Nat} {v : Value} {n : Nat} {xs : List S} (h : OwnS w T base v n xs) : n = xs.length := by
  obtain ⟨ys, rfl, h1, _⟩ := h
  have := h1.1
  rw [rowS_length] at this
  simp; omega
theorem OwnS.nil (w : World) (T : TypeId) (base : Nat) : OwnS w T base (.slice none 0 0) 0 [] := ⟨[], rfl, World.ownsRow_nil _ _ _ _, by simp⟩
theorem OwnS.on {w w' : World} {T : TypeId} {base : Nat} {v : Value} {n : Nat} {xs : List S} (h : OwnS w T base v n xs) (hb : Below w.heap.size w w') : OwnS w' T base v n xs := by
  obtain ⟨ys, h0, h1, h2⟩ := h
  exact ⟨ys, h0, (Mod.of_below (T := fun _ => False) hb).own h1 (fun _ _ h => h), fun y hy => by
    obtain ⟨q1, q2, q3, q4, q5, q6⟩ := h2 y hy
    exact ⟨q1, q2, q3, q4, q5.on hb, q6⟩⟩
theorem add2 (g j : Nat) : (⟨g, 0, none⟩ : Addr).add j = ⟨g, 0 + j, none⟩ := by
  unfold Addr.add; split
  · next h => subst h; rfl
  · simp
/-- What the row is told as. -/
theorem OwnS.tell {w : World} {T : TypeId} {base : Nat} {v : Value} {n : Nat} {xs : List S} (h : OwnS w T base v n xs) : ∃ A c, v = .slice A xs.length c ∧ xs.length ≤ c ∧ c ≤ maxLen ∧ HasS w w.heap.size A xs := by
  have hn := h.len
  obtain ⟨ys, h0, h1, h2⟩ := h
  subst hn
  rcases h1.2 with ⟨rfl, h3⟩ | ⟨g, cap, cur, rfl, hb, hh, hc, hm, _, htk⟩
  · have : xs = [] := List.eq_nil_of_length_eq_zero h3
    subst this
    exact ⟨none, 0, rfl, Nat.le_refl _, by unfold maxLen; omega, HasS.nil _ _ _⟩
  · refine ⟨_, cap, rfl, hc, hm, fun k x hk => ?_⟩
    rw [← h0, List.getElem?_map, Option.map_eq_some_iff] at hk
    obtain ⟨y, hy, rfl⟩ := hk
    obtain ⟨q1, q2, q3, q4, q5, q6⟩ := h2 y (List.mem_of_getElem? hy)
    have hg : g < w.heap.size := (Array.getElem?_eq_some_iff.1 hh).1
    refine ⟨g, 0, y.2.1, y.2.2, rfl, hg, q1, q2, q3, q4, q5, ?_, ?_⟩
    · have := h1.cells (g := g) rfl (k * 2 + 0) _ (rowS_at ys k y hy 0 _ rfl)
      rwa [add2] at this
    · have := h1.cells (g := g) rfl (k * 2 + 1) _ (rowS_at ys k y hy 1 _ rfl)
      rw [add2] at this
      exact this
set_option maxRecDepth 100000 in
/-- One section more. -/
theorem append1s {P : Program} (T ST : TypeId) (hu : P.underlying ST = some (.slice T)) (hinf : (P.info? T).map (fun i => (i.zero, i.size, i.bytes)) = some (some (.agg #[.int .u8 0, .slice none 0 0]), 2, 32))
    (w : World) (base n : Nat) (v : Value) (xs : List S) (x : S) (A : Option Addr) (c : Nat) (hown : OwnS w T base v n xs) (hsz : n + 1 ≤ 4000000000000) (hb : base ≤ w.heap.size)
    (hx : x.id < 256 ∧ x.b.length ≤ c ∧ c ≤ maxLen ∧ (A = none → c = 0) ∧ Has w w.heap.size A x.b) (hs : ∀ ad, A = some ad → x.b ≠ [] → v.ownBlock ≠ some ad.block) :
    ∃ v' w', (Builtin.append_ #[ST, ST] ST #[v, .slice (some ⟨w.heap.size, 0, none⟩) 1 1]).run P (w.alloc (.cells (secCells x A c).toArray T)) = .ok v' w' ∧ OwnS w' T base v' (n + 1) (xs ++ [x]) ∧ Mod (fun g => v.ownBlock = some g) w w' ∧ ∀ g, v'.ownBlock = some g → v.ownBlock = some g ∨ w.heap.size ≤ g := by
  obtain ⟨i0, hi, hz0, hz1, hz2⟩ := info_parts hinf
  obtain ⟨ys, h0, h1, h2⟩ := hown
  have hown1 := h1.alloc (.cells (secCells x A c).toArray T)
  obtain ⟨v', w', hrun, h3, h4, _⟩ := run_append_own (P := P) (w.alloc (.cells (secCells x A c).toArray T)) base ST ST T i0 _ 2 32 hu hi hz0 hz1 hz2 rfl (by decide) v n (rowS ys) hown1 ⟨w.heap.size, 0, none⟩ 1 1 (secCells x A c) rfl (cells_new w _ _) (secCells_one x A c) (by unfold maxLen; omega) (by omega) (by simp; omega)
  have ht := append_tight (P := P) _ base ST ST T i0 _ 2 32 hu hi hz0 hz1 hz2 v n (rowS ys) hown1 ⟨w.heap.size, 0, none⟩ 1 1 (secCells x A c) rfl (cells_new w _ _) (secCells_one x A c) (by omega) (by unfold maxLen; omega) (by omega) hrun
  have hM : Mod (fun g => v.ownBlock = some g) w w' := ((Mod.refl _ w).alloc _).trans (T' := fun g => v.ownBlock = some g) (Mod.of_grown h4 (fun _ h => h)) (fun _ _ h => h)
  have ht2 : ∀ g, v'.ownBlock = some g → v.ownBlock = some g ∨ w.heap.size ≤ g := fun g hg => by
    rcases ht g hg with h | h
    · exact .inl h
    · exact .inr (by simp at h; omega)
  have hkeep : ∀ (A : Option Addr) (l : List UInt8), Has w w.heap.size A l → (∀ ad, A = some ad → l ≠ [] → v.ownBlock ≠ some ad.block) → Has w' w'.heap.size A l := fun A l hh hn k y hk => by
    obtain ⟨ad, e1, e2, e3⟩ := hh k y hk
    have hbk : (ad.add k).block = ad.block := by unfold Addr.add; split <;> rfl
    exact ⟨ad, e1, Nat.lt_of_lt_of_le e2 hM.size, hM.cell e3 (by rw [hbk]; exact hn ad e1 (fun e => by rw [e] at hk; simp at hk))⟩
  have hnew : ∀ (A : Option Addr) (l : List UInt8), Has w w.heap.size A l → (∀ ad, A = some ad → l ≠ [] → v.ownBlock ≠ some ad.block) → ∀ ad, A = some ad → l ≠ [] → v'.ownBlock ≠ some ad.block := fun A l hh hn ad had hl e => by
    obtain ⟨a, r, hl2⟩ := List.exists_cons_of_ne_nil hl
    obtain ⟨ad2, e1, e2, _⟩ := hh 0 a (by rw [hl2]; rfl)
    rw [had] at e1
    injection e1 with e1
    subst e1
    rcases ht2 _ e with h | h
    · exact hn ad had hl h
    · omega
  refine ⟨v', w', hrun, ⟨ys ++ [(x, A, c)], by simp [h0], by rw [rowS_append]; simpa [rowS] using h3, fun y hy => ?_⟩, hM, ht2⟩
  rcases List.mem_append.1 hy with hy | hy
  · obtain ⟨q1, q2, q3, q4, q5, q6⟩ := h2 y hy
    exact ⟨q1, q2, q3, q4, hkeep _ _ q5 q6, hnew _ _ q5 q6⟩
  · simp at hy; subst hy
    exact ⟨hx.1, hx.2.1, hx.2.2.1, hx.2.2.2.1, hkeep _ _ hx.2.2.2.2 hs, hnew _ _ hx.2.2.2.2 hs⟩
theorem own_blk {w : World} {T : TypeId} {base : Nat} {v : Value} {n : Nat} {xs : List S} (h : OwnS w T base v n xs) : ∀ g, v.ownBlock = some g → base ≤ g ∧ g < w.heap.size := by
  obtain ⟨ys, _, h1, _⟩ := h
  exact fun g hg => ⟨own_ge h1 g hg, own_lt h1 g hg⟩
/-- Bytes that were there lie apart from a row that is laid later. -/
theorem apart_of {w0 w : World} {T : TypeId} {v : Value} {n : Nat} {xs : List S} {A : Option Addr} {l : List UInt8} (h : OwnS w T w0.heap.size v n xs) (hh : Has w0 w0.heap.size A l) : ∀ ad, A = some ad → l ≠ [] → v.ownBlock ≠ some ad.block := fun ad had hl e => by
  obtain ⟨a, r, hl2⟩ := List.exists_cons_of_ne_nil hl
  obtain ⟨ad2, e1, e2, _⟩ := hh 0 a (by rw [hl2]; rfl)
  rw [had] at e1
  injection e1 with e1
  subst e1
  have := (own_blk h _ e).1
  omega
end Go.Proofs.Ythkglmkpnhhboaa
