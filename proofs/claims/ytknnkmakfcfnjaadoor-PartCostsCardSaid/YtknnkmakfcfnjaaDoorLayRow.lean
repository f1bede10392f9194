/-
  Rows of records in memory: how a value is laid in cells; rows of the call's own that read as records; one record more, or a slice of them. (Taken out of BinLay and OwnL in round 13: of no layer.)
-/
import Derived.Test.YtknnkmakfcfnjaaDoorInsMem
import Derived.Laws.AppendOwn
namespace Go.Proofs.YtknnkmakfcfnjaaDoor
open Go.RowKit Ins
/-- How a value is laid in cells; what it points to lies in blocks of S. -/
class Lay (α : Type) where
  size : Nat
  rep : World → (Nat → Prop) → α → List Value → Prop
  len : ∀ {w : World} {S : Nat → Prop} {x : α} {cs : List Value}, rep w S x cs → cs.length = size
  mod : ∀ {T S : Nat → Prop} {w w' : World} {x : α} {cs : List Value}, rep w S x cs → Mod T w w' → (∀ k, k < w.heap.size → S k → ¬ T k) → rep w' S x cs
  more : ∀ {w : World} {S S' : Nat → Prop} {x : α} {cs : List Value}, rep w S x cs → (∀ k, k < w.heap.size → S k → S' k) → rep w S' x cs
/-- A slice's cells read as these values. -/
def HasL {α : Type} [Lay α] (w : World) (S : Nat → Prop) (A : Option Addr) (xs : List α) : Prop :=
  ∀ (k : Nat) (x : α), xs[k]? = some x → ∃ g o cs, A = some ⟨g, o, none⟩ ∧ S g ∧ g < w.heap.size ∧ Lay.rep w S x cs ∧ ∀ (j : Nat) (u : Value), cs[j]? = some u → w.cell? ⟨g, o + k * Lay.size α + j, none⟩ = some u
theorem HasL.nil {α : Type} [Lay α] (w : World) (S : Nat → Prop) (A : Option Addr) : HasL w S A ([] : List α) := fun k x hx => by simp at hx
theorem HasL.mod {α : Type} [Lay α] {T S : Nat → Prop} {w w' : World} {A : Option Addr} {xs : List α} (h : HasL w S A xs) (hm : Mod T w w') (hd : ∀ k, k < w.heap.size → S k → ¬ T k) : HasL w' S A xs := fun k x hx => by
  obtain ⟨g, o, cs, h1, h2, h3, h4, h5⟩ := h k x hx
  exact ⟨g, o, cs, h1, h2, Nat.lt_of_lt_of_le h3 hm.size, Lay.mod h4 hm hd, fun j u hj => hm.cell (h5 j u hj) (hd g h3 h2)⟩
theorem HasL.more {α : Type} [Lay α] {w : World} {S S' : Nat → Prop} {A : Option Addr} {xs : List α} (h : HasL w S A xs) (hs : ∀ k, k < w.heap.size → S k → S' k) : HasL w S' A xs := fun k x hx => by
  obtain ⟨g, o, cs, h1, h2, h3, h4, h5⟩ := h k x hx
  exact ⟨g, o, cs, h1, hs g h3 h2, h3, Lay.more h4 hs, h5⟩
/-- A slice by value. -/
def SliceV {α : Type} [Lay α] (w : World) (S : Nat → Prop) (xs : List α) (v : Value) : Prop := ∃ A c, v = .slice A xs.length c ∧ xs.length ≤ c ∧ c ≤ maxLen ∧ (A = none → c = 0) ∧ HasL w S A xs
theorem SliceV.mod {α : Type} [Lay α] {T S : Nat → Prop} {w w' : World} {xs : List α} {v : Value} (h : SliceV w S xs v) (hm : Mod T w w') (hd : ∀ k, k < w.heap.size → S k → ¬ T k) : SliceV w' S xs v := by
  obtain ⟨A, c, h1, h2, h3, h4, h5⟩ := h
  exact ⟨A, c, h1, h2, h3, h4, h5.mod hm hd⟩
theorem SliceV.more {α : Type} [Lay α] {w : World} {S S' : Nat → Prop} {xs : List α} {v : Value} (h : SliceV w S xs v) (hs : ∀ k, k < w.heap.size → S k → S' k) : SliceV w S' xs v := by
  obtain ⟨A, c, h1, h2, h3, h4, h5⟩ := h
  exact ⟨A, c, h1, h2, h3, h4, h5.more hs⟩
theorem SliceV.nil {α : Type} [Lay α] (w : World) (S : Nat → Prop) : SliceV w S ([] : List α) (.slice none 0 0) := ⟨none, 0, rfl, Nat.le_refl _, by unfold maxLen; omega, fun _ => rfl, HasL.nil _ _ _⟩
instance : Lay UInt8 where
  size := 1
  rep _ _ x cs := cs = [.int .u8 (x.toNat : Int)]
  len h := by rw [h]; rfl
  mod h _ _ := h
  more h _ := h
/-- A number of 32 bits. -/
instance : Lay Nat where
  size := 1
  rep _ _ x cs := cs = [.int .u32 (x : Int)] ∧ x < 4294967296
  len h := by rw [h.1]; rfl
  mod h _ _ := h
  more h _ := h
instance : Lay I where
  size := 5
  rep w S x cs := ∃ A c, cs = insCells x A c ∧ x.wf ∧ x.l.length ≤ c ∧ c ≤ maxLen ∧ HasU w S A x.l
  len h := by obtain ⟨A, c, rfl, _⟩ := h; rfl
  mod h hm hd := by obtain ⟨A, c, h1, h2, h3, h4, h5⟩ := h; exact ⟨A, c, h1, h2, h3, h4, h5.mod hm hd⟩
  more h hs := by obtain ⟨A, c, h1, h2, h3, h4, h5⟩ := h; exact ⟨A, c, h1, h2, h3, h4, h5.more hs⟩
/-- A row of the call's own that reads as these records; what they point to lies in blocks of S. -/
def OwnL {α : Type} [Lay α] (t : TypeId) (w : World) (base : Nat) (S : Nat → Prop) (v : Value) (xs : List α) : Prop :=
  ∃ ys : List (α × List Value), ys.map (·.1) = xs ∧ w.ownsRow base t (Lay.size α) v xs.length (ys.flatMap (·.2)) ∧ ∀ y ∈ ys, Lay.rep w S y.1 y.2
theorem OwnL.nil {α : Type} [Lay α] (t : TypeId) (w : World) (base : Nat) (S : Nat → Prop) : OwnL t w base S (.slice none 0 0) ([] : List α) := ⟨[], rfl, World.ownsRow_nil _ _ _ _, by simp⟩
theorem OwnL.mod {α : Type} [Lay α] {t : TypeId} {w w' : World} {T : Nat → Prop} {base : Nat} {S : Nat → Prop} {v : Value} {xs : List α} (h : OwnL t w base S v xs) (hm : Mod T w w') (hv : ∀ g, v.ownBlock = some g → ¬ T g) (hs : ∀ g, g < w.heap.size → S g → ¬ T g) : OwnL t w' base S v xs := by
  obtain ⟨ys, h0, h1, h2⟩ := h
  exact ⟨ys, h0, hm.own h1 hv, fun y hy => Lay.mod (h2 y hy) hm hs⟩
theorem OwnL.more {α : Type} [Lay α] {t : TypeId} {w : World} {base : Nat} {S S' : Nat → Prop} {v : Value} {xs : List α} (h : OwnL t w base S v xs) (hs : ∀ g, g < w.heap.size → S g → S' g) : OwnL t w base S' v xs := by
  obtain ⟨ys, h0, h1, h2⟩ := h
  exact ⟨ys, h0, h1, fun y hy => Lay.more (h2 y hy) hs⟩
theorem OwnL.lt {α : Type} [Lay α] {t : TypeId} {w : World} {base : Nat} {S : Nat → Prop} {v : Value} {xs : List α} (h : OwnL t w base S v xs) : ∀ g, v.ownBlock = some g → base ≤ g ∧ g < w.heap.size := by
  obtain ⟨ys, _, h1, _⟩ := h
  exact fun g hg => h1.lt g hg
theorem flat_at {α : Type} [Lay α] {w : World} {S : Nat → Prop} : ∀ (ys : List (α × List Value)), (∀ y ∈ ys, Lay.rep w S y.1 y.2) → ∀ (k : Nat) (y : α × List Value), ys[k]? = some y → ∀ j u, y.2[j]? = some u → (ys.flatMap (·.2))[k * Lay.size α + j]? = some u
  | [], _, k, y, h, _, _, _ => by simp at h
  | z :: ys, _, 0, y, h, j, u, hj => by
    simp at h; subst h
    simp only [List.flatMap_cons, Nat.zero_mul, Nat.zero_add]
    rw [List.getElem?_append_left (List.getElem?_eq_some_iff.1 hj).1]
    exact hj
  | z :: ys, hr, k + 1, y, h, j, u, hj => by
    have ih := flat_at ys (fun y hy => hr y (by simp [hy])) k y (by simpa using h) j u hj
    have hz : z.2.length = Lay.size α := Lay.len (hr z (by simp))
    simp only [List.flatMap_cons]
    rw [Nat.succ_mul, List.getElem?_append_right (by omega), ← ih]
    congr 1
    omega
theorem OwnL.tell {α : Type} [Lay α] {t : TypeId} {w : World} {base : Nat} {S : Nat → Prop} {v : Value} {xs : List α} (h : OwnL t w base S v xs) (hs : ∀ g, S g → base ≤ g) : SliceV w (base ≤ ·) xs v := by
  obtain ⟨ys, h0, h1, h2⟩ := h
  rcases h1.2 with ⟨rfl, h3⟩ | ⟨g, cap, cur, rfl, hb, hh, hc, hm, hcs, htk⟩
  · have : xs = [] := List.eq_nil_of_length_eq_zero h3
    subst this
    exact SliceV.nil _ _
  · refine ⟨_, cap, rfl, hc, hm, fun e => (by cases e), fun k x hk => ?_⟩
    rw [← h0, List.getElem?_map, Option.map_eq_some_iff] at hk
    obtain ⟨y, hy, rfl⟩ := hk
    refine ⟨g, 0, y.2, rfl, hb, (Array.getElem?_eq_some_iff.1 hh).1, Lay.more (h2 y (List.mem_of_getElem? hy)) (fun g _ hg => hs g hg), fun j u hj => ?_⟩
    have := h1.cells (g := g) rfl (k * Lay.size α + j) u (flat_at ys h2 k y hy j u hj)
    have e2 : (⟨g, 0, none⟩ : Addr).add (k * Lay.size α + j) = ⟨g, 0 + k * Lay.size α + j, none⟩ := by
      unfold Addr.add; split
      · next h => simp at h; simp
      · simp
    rwa [e2] at this
set_option maxRecDepth 100000 in
theorem append1L {α : Type} [Lay α] {st t : TypeId} {z : Value} {by' : Nat} (hu : Tryd.prog.underlying st = some (.slice t)) (hi0 : (Tryd.prog.info? t).map (fun i => (i.zero, i.size, i.bytes)) = some (some z, Lay.size α, by')) (hby : by' ≤ 4096) (hzs : z.cells.size = Lay.size α) (hpos : 0 < Lay.size α)
    (w : World) (base : Nat) (S : Nat → Prop) (v : Value) (xs : List α) (x : α) (cs : List Value) (hown : OwnL t w base S v xs) (hsz : xs.length ≤ 4294967296) (hb : base ≤ w.heap.size)
    (hx : Lay.rep w S x cs) (h1c : ∀ u ∈ cs, u.oneCell' = true) (hs : ∀ g, g < w.heap.size → S g → v.ownBlock ≠ some g) :
    ∃ v' w', (Builtin.append_ #[st, st] st #[v, .slice (some ⟨w.heap.size, 0, none⟩) 1 1]).run Tryd.prog (w.alloc (.cells cs.toArray t)) = .ok v' w' ∧ OwnL t w' base (fun g => S g ∧ v'.ownBlock ≠ some g) v' (xs ++ [x]) ∧ Mod (fun g => v.ownBlock = some g) w w' ∧ ∀ g, v'.ownBlock = some g → v.ownBlock = some g ∨ w.heap.size ≤ g := by
  obtain ⟨i0, hi, hz0, hz1, hz2⟩ := info_parts hi0
  obtain ⟨ys, h0, h1, h2⟩ := hown
  have hown1 := h1.alloc (.cells cs.toArray t)
  have hcl : cs.length = 1 * Lay.size α := by rw [Lay.len hx, Nat.one_mul]
  have hbytes : (xs.length + 1) * by' ≤ 140737488355328 := by
    have : (xs.length + 1) * by' ≤ 4294967297 * 4096 := Nat.mul_le_mul (by omega) hby
    omega
  obtain ⟨v', w', hrun, h3, h4, _⟩ := run_append_own (P := Tryd.prog) (w.alloc (.cells cs.toArray t)) base st st t i0 z (Lay.size α) by' hu hi hz0 hz1 hz2 hzs hpos v xs.length (ys.flatMap (·.2)) hown1 ⟨w.heap.size, 0, none⟩ 1 1 cs hcl (cells_new w _ _) h1c (by unfold maxLen; omega) hbytes (by simp; omega)
  have ht := append_tight (P := Tryd.prog) _ base st st t i0 z (Lay.size α) by' hu hi hz0 hz1 hz2 v xs.length (ys.flatMap (·.2)) hown1 ⟨w.heap.size, 0, none⟩ 1 1 cs hcl (cells_new w _ _) h1c (by omega) (by unfold maxLen; omega) hbytes hrun
  have hM : Mod (fun g => v.ownBlock = some g) w w' := ((Mod.refl _ w).alloc _).trans (T' := fun g => v.ownBlock = some g) (Mod.of_grown h4 (fun _ h => h)) (fun _ _ h => h)
  have ht2 : ∀ g, v'.ownBlock = some g → v.ownBlock = some g ∨ w.heap.size ≤ g := fun g hg => by
    rcases ht g hg with h | h
    · exact .inl h
    · exact .inr (by simp at h; omega)
  have hS : ∀ g, g < w.heap.size → S g → S g ∧ v'.ownBlock ≠ some g := fun g hg hsg => ⟨hsg, fun e => by
    rcases ht2 g e with h | h
    · exact hs g hg hsg h
    · omega⟩
  refine ⟨v', w', hrun, ⟨ys ++ [(x, cs)], by simp [h0], by rw [List.flatMap_append, List.length_append]; simpa using h3, fun y hy => ?_⟩, hM, ht2⟩
  rcases List.mem_append.1 hy with hy | hy
  · exact Lay.mod (Lay.more (h2 y hy) hS) hM (fun g hg hsg => hs g hg hsg.1)
  · simp at hy; subst hy
    exact Lay.mod (Lay.more hx hS) hM (fun g hg hsg => hs g hg hsg.1)
/-- Cells of one record are single cells. -/
class Ones (α : Type) [Lay α] : Prop where
  one : ∀ {w : World} {S : Nat → Prop} {x : α} {cs : List Value}, Lay.rep w S x cs → ∀ u ∈ cs, u.oneCell' = true
theorem SliceV.one {α : Type} [Lay α] {w : World} {S : Nat → Prop} {xs : List α} {v : Value} (h : SliceV w S xs v) : v.oneCell' = true := by
  obtain ⟨A, c, rfl, _⟩ := h
  rfl
instance : Ones UInt8 := ⟨fun h u hu => by
  have h' : _ = _ := h
  subst h'
  simp at hu; subst hu; rfl⟩
instance : Ones Nat := ⟨fun h u hu => by
  have h' := h.1
  subst h'
  simp at hu; subst hu; rfl⟩
theorem rows_of {α : Type} {E : Nat → α → Prop} : ∀ (n : Nat), (∀ i, i < n → ∃ x, E i x) → ∃ xs : List α, xs.length = n ∧ ∀ i x, xs[i]? = some x → E i x
  | 0, _ => ⟨[], rfl, fun i x h => by simp at h⟩
  | n + 1, h => by
    obtain ⟨xs, h1, h2⟩ := rows_of n (fun i hi => h i (by omega))
    obtain ⟨x, hx⟩ := h n (by omega)
    refine ⟨xs ++ [x], by simp [h1], fun i y hy => ?_⟩
    by_cases hi : i < n
    · rw [List.getElem?_append_left (by omega)] at hy
      exact h2 i y hy
    · rw [List.getElem?_append_right (by omega)] at hy
      have h0 : i - xs.length = 0 := by
        have := (List.getElem?_eq_some_iff.1 hy).1
        simp at this; omega
      rw [h0] at hy
      simp at hy
      subst hy
      have : i = n := by omega
      subst this
      exact hx
theorem flat_len {α : Type} [Lay α] {w : World} {S : Nat → Prop} : ∀ (ys : List (α × List Value)), (∀ y ∈ ys, Lay.rep w S y.1 y.2) → (ys.flatMap (·.2)).length = ys.length * Lay.size α
  | [], _ => by simp
  | z :: ys, hr => by
    have ih := flat_len ys (fun y hy => hr y (by simp [hy]))
    have hz : z.2.length = Lay.size α := Lay.len (hr z (by simp))
    simp only [List.flatMap_cons, List.length_append, List.length_cons, Nat.succ_mul]
    omega
/-- A nil slice laid behind a row changes nothing. -/
theorem append_nilL {st t : TypeId} {i0 : TypeInfo} (hu : Tryd.prog.underlying st = some (.slice t)) (hi : Tryd.prog.info? t = some i0) (w : World) (base size n c : Nat) (v : Value) (xs : List Value) (hown : w.ownsRow base t size v n xs) :
    (Builtin.append_ #[st, st] st #[v, .slice none 0 c]).run Tryd.prog w = .ok v w := by
  rcases hown.2 with ⟨rfl, rfl⟩ | ⟨g, cap, cur, rfl, _, _, hnc, _⟩
  · simp [Builtin.append_, run_underlying hu, sizeOf, typeInfo, hi, Builtin.lenOf, Builtin.firstCells]
  · simp [Builtin.append_, run_underlying hu, sizeOf, typeInfo, hi, Builtin.lenOf, Builtin.firstCells, hnc, storeCells]
theorem addr_at (g o k : Nat) : (⟨g, o, none⟩ : Addr).add k = ⟨g, o + k, none⟩ := by
  unfold Addr.add; split
  · next h => subst h; rfl
  · rfl
set_option maxRecDepth 100000 in
/-- A slice of records laid behind a row of the call's own. -/
theorem appendL {α : Type} [Lay α] [Ones α] {st t : TypeId} {z : Value} {by' : Nat} (hu : Tryd.prog.underlying st = some (.slice t)) (hi0 : (Tryd.prog.info? t).map (fun i => (i.zero, i.size, i.bytes)) = some (some z, Lay.size α, by')) (hby : by' ≤ 4096) (hzs : z.cells.size = Lay.size α) (hpos : 0 < Lay.size α)
    (w : World) (base : Nat) (S : Nat → Prop) (v : Value) (xs ys : List α) (A : Option Addr) (n c : Nat) (hown : OwnL t w base S v xs) (hA : HasL w S A ys) (hn : n = ys.length) (hsz : xs.length + ys.length ≤ 4294967296) (hb : base ≤ w.heap.size)
    (hs : ∀ g, g < w.heap.size → S g → v.ownBlock ≠ some g) :
    ∃ v' w', (Builtin.append_ #[st, st] st #[v, .slice A n c]).run Tryd.prog w = .ok v' w' ∧ OwnL t w' base (fun g => S g ∧ v'.ownBlock ≠ some g) v' (xs ++ ys) ∧ Mod (fun g => v.ownBlock = some g) w w' ∧ ∀ g, v'.ownBlock = some g → v.ownBlock = some g ∨ w.heap.size ≤ g := by
  obtain ⟨i0, hi, hz0, hz1, hz2⟩ := info_parts hi0
  subst hn
  obtain ⟨xc, h0, h1, h2⟩ := hown
  have hSv : ∀ (v' : Value) (w' : World), Mod (fun g => v.ownBlock = some g) w w' → (∀ g, v'.ownBlock = some g → v.ownBlock = some g ∨ w.heap.size ≤ g) → ∀ (x : α) (cs : List Value), Lay.rep w S x cs → Lay.rep w' (fun g => S g ∧ v'.ownBlock ≠ some g) x cs := fun v' w' hm ht x cs hr =>
    Lay.mod (Lay.more hr (fun g hg hsg => ⟨hsg, fun e => by
      rcases ht g e with h | h
      · exact hs g hg hsg h
      · omega⟩)) hm (fun g hg hsg => hs g hg hsg.1)
  by_cases hy : ys = []
  · subst hy
    cases A with
    | none => exact ⟨v, w, append_nilL hu hi w base _ _ c v _ h1, ⟨xc, by simp [h0], by simpa using h1, fun y hy => hSv v w (Mod.refl _ _) (fun g hg => .inl hg) _ _ (h2 y hy)⟩, Mod.refl _ _, fun g hg => .inl hg⟩
    | some a =>
      obtain ⟨v', w', hrun, h3, h4, h5⟩ := run_append_own (P := Tryd.prog) w base st st t i0 z (Lay.size α) by' hu hi hz0 hz1 hz2 hzs hpos v xs.length _ h1 a 0 c [] (by simp) (fun j u h => by simp at h) (by simp) (by unfold maxLen; simp at hsz; omega) (by
        have : (xs.length + 0) * by' ≤ 4294967296 * 4096 := Nat.mul_le_mul (by simp at hsz; omega) hby
        omega) hb
      have ht : ∀ g, v'.ownBlock = some g → v.ownBlock = some g ∨ w.heap.size ≤ g := fun g hg => by
        rcases h1.2 with ⟨rfl, hx⟩ | ⟨g0, cap, cur, rfl, hbg, hg0, hnc, hcm, hcs, htake⟩
        · have := h5.2 ⟨rfl, rfl⟩
          subst this
          exact .inl hg
        · have hr := run_append_room (P := Tryd.prog) w st st t i0 hu hi g0 xs.length cap cur hg0 a 0 c [] (by simp) (fun j u h => by simp at h) (by simp) (by omega) (by rw [hcs, hz1]; simp; exact Nat.mul_le_mul_right _ hnc)
          rw [hr] at hrun
          injection hrun with e1 e2
          subst e1
          exact .inl hg
      have hm := Mod.of_grown (T := fun g => v.ownBlock = some g) h4 (fun _ h => h)
      exact ⟨v', w', hrun, ⟨xc, by simp [h0], by simpa using h3, fun y hy => hSv v' w' hm ht _ _ (h2 y hy)⟩, hm, ht⟩
  · have hl : 0 < ys.length := List.length_pos_iff.2 hy
    obtain ⟨g, o, cs0, rfl, hSg, hgl, _, _⟩ := hA 0 ys[0] (List.getElem?_eq_getElem hl)
    obtain ⟨zs, hzl, hzs2⟩ := rows_of (E := fun k (p : α × List Value) => ys[k]? = some p.1 ∧ Lay.rep w S p.1 p.2 ∧ ∀ (j : Nat) (u : Value), p.2[j]? = some u → w.cell? ⟨g, o + k * Lay.size α + j, none⟩ = some u) ys.length (fun i hil => by
      obtain ⟨g', o', cs, e, _, _, hr, hc⟩ := hA i ys[i] (List.getElem?_eq_getElem hil)
      injection e with e
      injection e with e1 e2 _
      subst e1 e2
      exact ⟨(ys[i], cs), List.getElem?_eq_getElem hil, hr, hc⟩)
    have hzr : ∀ y ∈ zs, Lay.rep w S y.1 y.2 := fun y hy => by
      obtain ⟨k, hk⟩ := List.mem_iff_getElem?.1 hy
      exact (hzs2 k y hk).2.1
    have hzm : zs.map (·.1) = ys := List.ext_getElem? (fun k => by
      rw [List.getElem?_map]
      cases hk : zs[k]? with
      | none =>
        have : ys.length ≤ k := by rw [← hzl]; exact List.getElem?_eq_none_iff.1 hk
        simp [List.getElem?_eq_none this]
      | some p => simp [(hzs2 k p hk).1])
    have hfl := flat_len zs hzr
    rw [hzl] at hfl
    have hnews : ∀ j u, (zs.flatMap (·.2))[j]? = some u → w.cell? ((⟨g, o, none⟩ : Addr).add j) = some u := fun j u hj => by
      have hjl := (List.getElem?_eq_some_iff.1 hj).1
      rw [hfl] at hjl
      have hk : j / Lay.size α < zs.length := by rw [hzl]; exact (Nat.div_lt_iff_lt_mul hpos).2 hjl
      have hzk := List.getElem?_eq_getElem hk
      have hr := hzs2 _ _ hzk
      have hlen := Lay.len hr.2.1
      have hm : j % Lay.size α < (zs[j / Lay.size α]).2.length := by rw [hlen]; exact Nat.mod_lt _ hpos
      have hjk : j / Lay.size α * Lay.size α + j % Lay.size α = j := by rw [Nat.mul_comm]; exact Nat.div_add_mod j _
      have hat := flat_at zs hzr _ _ hzk _ _ (List.getElem?_eq_getElem hm)
      rw [hjk, hj] at hat
      injection hat with hat
      have hc := hr.2.2 _ _ (List.getElem?_eq_getElem hm)
      rw [addr_at, hat, ← hc]
      congr 2
      omega
    have hones : ∀ u ∈ zs.flatMap (·.2), u.oneCell' = true := fun u hu => by
      obtain ⟨y, hy, hu⟩ := List.mem_flatMap.1 hu
      exact Ones.one (hzr y hy) u hu
    have hbytes : (xs.length + ys.length) * by' ≤ 140737488355328 := by
      have : (xs.length + ys.length) * by' ≤ 4294967296 * 4096 := Nat.mul_le_mul hsz hby
      omega
    obtain ⟨v', w', hrun, h3, h4, _⟩ := run_append_own (P := Tryd.prog) w base st st t i0 z (Lay.size α) by' hu hi hz0 hz1 hz2 hzs hpos v xs.length _ h1 ⟨g, o, none⟩ ys.length c (zs.flatMap (·.2)) hfl hnews hones (by unfold maxLen; omega) hbytes hb
    have ht := append_tight (P := Tryd.prog) w base st st t i0 z (Lay.size α) by' hu hi hz0 hz1 hz2 v xs.length _ h1 ⟨g, o, none⟩ ys.length c (zs.flatMap (·.2)) hfl hnews hones hl (by unfold maxLen; omega) hbytes hrun
    have hm := Mod.of_grown (T := fun g => v.ownBlock = some g) h4 (fun _ h => h)
    refine ⟨v', w', hrun, ⟨xc ++ zs, by simp [h0, hzm], by rw [List.flatMap_append, List.length_append]; exact h3, fun y hy => ?_⟩, hm, ht⟩
    rcases List.mem_append.1 hy with hy | hy
    · exact hSv v' w' hm ht _ _ (h2 y hy)
    · exact hSv v' w' hm ht _ _ (hzr y hy)
/-- An empty literal of the call's own. -/
theorem OwnL.lit0 {α : Type} [Lay α] (t : TypeId) (w : World) (base : Nat) (S : Nat → Prop) (hb : base ≤ w.heap.size) : OwnL t (w.alloc (.cells #[] t)) base S (.slice (some ⟨w.heap.size, 0, none⟩) 0 0) ([] : List α) :=
  ⟨[], rfl, ⟨by simp, .inr ⟨w.heap.size, 0, #[], rfl, hb, heap_alloc_new w _, by simp, by unfold maxLen; omega, by simp, by simp⟩⟩, by simp⟩
theorem take_get {l xs : List Value} (h : ∀ (j : Nat) (u : Value), xs[j]? = some u → l[j]? = some u) : l.take xs.length = xs := by
  apply List.ext_getElem?
  intro j
  rw [List.getElem?_take]
  by_cases hj : j < xs.length
  · rw [if_pos hj, h j xs[j] (List.getElem?_eq_getElem hj), List.getElem?_eq_getElem hj]
  · rw [if_neg hj, List.getElem?_eq_none (by omega)]
/-- The last record of a row; the row with it changed, or left out. -/
theorem OwnL.last {α : Type} [Lay α] {t : TypeId} {w : World} {base : Nat} {S : Nat → Prop} {v : Value} {i : List α} {f : α} (h : OwnL t w base S v (i ++ [f])) :
    ∃ g c cur cs, v = .slice (some ⟨g, 0, none⟩) (i.length + 1) c ∧ i.length + 1 ≤ c ∧ c ≤ maxLen ∧ base ≤ g ∧ w.heap[g]? = some (.cells cur t (0, 0)) ∧ cur.size = c * Lay.size α ∧ Lay.rep w S f cs ∧ (∀ j u, cs[j]? = some u → cur[i.length * Lay.size α + j]? = some u) ∧
      ∀ (w' : World) (cur' : Array Value), w'.heap[g]? = some (.cells cur' t (0, 0)) → cur'.size = cur.size → (∀ j, j < i.length * Lay.size α → cur'[j]? = cur[j]?) → Mod (· = g) w w' → (∀ k, k < w.heap.size → S k → k ≠ g) →
        OwnL t w' base S (.slice (some ⟨g, 0, none⟩) i.length c) i ∧ ∀ f' cs', Lay.rep w' S f' cs' → (∀ j u, cs'[j]? = some u → cur'[i.length * Lay.size α + j]? = some u) → OwnL t w' base S (.slice (some ⟨g, 0, none⟩) (i.length + 1) c) (i ++ [f']) := by
  obtain ⟨ys, h0, h1, h2⟩ := h
  have hys : ∃ yi cs, ys = yi ++ [(f, cs)] ∧ yi.map (·.1) = i := by
    rcases List.eq_nil_or_concat ys with h | ⟨yi, y, h⟩
    · rw [h] at h0; simp at h0
    · have h' : ys = yi ++ [y] := by simpa using h
      rw [h'] at h0
      simp only [List.map_append, List.map_cons, List.map_nil] at h0
      obtain ⟨e1, e2⟩ := List.append_inj' h0 rfl
      simp at e2
      exact ⟨yi, y.2, by rw [h', ← e2], e1⟩
  obtain ⟨yi, cs, rfl, hyi⟩ := hys
  have hil : yi.length = i.length := by rw [← hyi]; simp
  have hfl := flat_len yi (fun y hy => h2 y (by simp [hy]))
  rw [hil] at hfl
  have hcs : cs.length = Lay.size α := Lay.len (h2 (f, cs) (by simp))
  have hlen : (i ++ [f]).length = i.length + 1 := by simp
  rw [hlen] at h1
  rcases h1.2 with ⟨_, h3⟩ | ⟨g, c, cur, rfl, h3, h4, h5, h6, h7, h8⟩
  · omega
  · have hget : ∀ j, j < (i.length + 1) * Lay.size α → cur[j]? = (yi.flatMap (·.2) ++ cs)[j]? := fun j hj => by
      have := congrArg (fun l => l[j]?) h8
      simp only [List.getElem?_take, if_pos hj, Array.getElem?_toList] at this
      rw [this]; simp
    refine ⟨g, c, cur, cs, rfl, h5, h6, h3, h4, h7, h2 (f, cs) (by simp), fun j u hj => ?_, fun w' cur' k1 k2 k3 k4 k5 => ?_⟩
    · have hjl := (List.getElem?_eq_some_iff.1 hj).1
      rw [hget _ (by rw [Nat.succ_mul]; omega), List.getElem?_append_right (by omega), hfl, Nat.add_sub_cancel_left]
      exact hj
    · have hrep : ∀ y ∈ yi, Lay.rep w' S y.1 y.2 := fun y hy => Lay.mod (h2 y (by simp [hy])) k4 (fun k hk hs => k5 k hk hs)
      have hcap : (i.length + 1) * Lay.size α ≤ c * Lay.size α := Nat.mul_le_mul_right _ h5
      rw [Nat.succ_mul] at hcap
      have hpre : ∀ j u, (yi.flatMap (·.2))[j]? = some u → cur'.toList[j]? = some u := fun j u hj => by
        have hjl := (List.getElem?_eq_some_iff.1 hj).1
        rw [Array.getElem?_toList, k3 j (by omega), hget j (by rw [Nat.succ_mul]; omega), List.getElem?_append_left hjl]
        exact hj
      refine ⟨⟨yi, hyi, ⟨hfl, .inr ⟨g, c, cur', rfl, h3, k1, by omega, h6, k2.trans h7, ?_⟩⟩, hrep⟩, fun f' cs' q1 q2 => ?_⟩
      · rw [← hfl]
        exact take_get hpre
      · have hcs' : cs'.length = Lay.size α := Lay.len q1
        refine ⟨yi ++ [(f', cs')], by simp [hyi], ?_, fun y hy => ?_⟩
        · rw [show (i ++ [f']).length = i.length + 1 by simp]
          have hf2 : ((yi ++ [(f', cs')]).flatMap (·.2)) = yi.flatMap (·.2) ++ cs' := by simp
          have hl2 : (yi.flatMap (·.2) ++ cs').length = (i.length + 1) * Lay.size α := by rw [List.length_append, hfl, hcs', Nat.succ_mul]
          rw [hf2]
          refine ⟨hl2, .inr ⟨g, c, cur', rfl, h3, k1, h5, h6, k2.trans h7, ?_⟩⟩
          rw [← hl2]
          refine take_get (fun j u hj => ?_)
          by_cases hjl : j < (yi.flatMap (·.2)).length
          · rw [List.getElem?_append_left hjl] at hj
            exact hpre j u hj
          · rw [List.getElem?_append_right (by omega), hfl] at hj
            have := q2 _ _ hj
            rw [hfl] at hjl
            rw [Array.getElem?_toList]
            rwa [show i.length * Lay.size α + (j - i.length * Lay.size α) = j by omega] at this
        · rcases List.mem_append.1 hy with hy | hy
          · exact hrep y hy
          · simp at hy; subst hy; exact q1
/-- One cell of the last record is written. -/
theorem OwnL.setLast {α : Type} [Lay α] {t : TypeId} {w : World} {base g c : Nat} {S : Nat → Prop} {i : List α} {f : α} (h : OwnL t w base S (.slice (some ⟨g, 0, none⟩) (i.length + 1) c) (i ++ [f])) (hS : ∀ k, k < w.heap.size → S k → k ≠ g) (j : Nat) (z : Value) (f' : α)
    (hrep : ∀ cs, Lay.rep w S f cs → Lay.rep w S f' (cs.set j z)) : OwnL t (w.setCell ⟨g, i.length * Lay.size α + j, none⟩ z) base S (.slice (some ⟨g, 0, none⟩) (i.length + 1) c) (i ++ [f']) := by
  obtain ⟨g', c', cur, cs, e, h2, h3, h4, h5, h6, h7, h8, h9⟩ := h.last
  injection e with e1 _ e3
  injection e1 with e1
  injection e1 with e1 _ _
  subst e1 e3
  have hM : Mod (· = g) w (w.setCell ⟨g, i.length * Lay.size α + j, none⟩ z) := Mod.setCell (T := (· = g)) (Mod.refl _ w) (fun _ => rfl) _
  have hr := hrep cs h7
  refine (h9 _ _ (heap_setCell_same w g _ _ _ _ h5) (by simp) (fun k hk => ?_) hM hS).2 f' _ (Lay.mod hr hM (fun k hk hs e => hS k hk hs e)) (fun k u hk => ?_)
  · rw [Array.getElem?_setIfInBounds_ne (by omega)]
  · have hlen : cs.length = Lay.size α := Lay.len h7
    have hcap : (i.length + 1) * Lay.size α ≤ c * Lay.size α := Nat.mul_le_mul_right _ h2
    rw [Nat.succ_mul] at hcap
    rw [List.getElem?_set] at hk
    by_cases hkj : j = k
    · subst hkj
      rw [if_pos rfl] at hk
      split at hk
      · next hlt =>
        rw [Array.getElem?_setIfInBounds_self_of_lt (by omega)]
        exact hk
      · cases hk
    · rw [if_neg hkj] at hk
      rw [Array.getElem?_setIfInBounds_ne (by omega)]
      exact h8 k u hk
/-- The last record is left out. -/
theorem OwnL.dropLast {α : Type} [Lay α] {t : TypeId} {w : World} {base g c : Nat} {S : Nat → Prop} {i : List α} {f : α} (h : OwnL t w base S (.slice (some ⟨g, 0, none⟩) (i.length + 1) c) (i ++ [f])) (hS : ∀ k, k < w.heap.size → S k → k ≠ g) : OwnL t w base S (.slice (some ⟨g, 0, none⟩) i.length c) i := by
  obtain ⟨g', c', cur, cs, e, h2, h3, h4, h5, h6, h7, h8, h9⟩ := h.last
  injection e with e1 _ e3
  injection e1 with e1
  injection e1 with e1 _ _
  subst e1 e3
  exact (h9 w cur h5 rfl (fun _ _ => rfl) (Mod.refl _ w) hS).1
/-- Rows of instructions. -/
theorem HasI.lay {S : Nat → Prop} {w : World} {A : Option Addr} {xs : List I} (h : HasI w S A xs) : HasL w S A xs := fun k x hx => by
  obtain ⟨g, o, A', c, h1, h2, h3, h4, h5, h6, h7⟩ := h k x hx
  exact ⟨g, o, _, h1, h2, World.block_lt_of_cell? w _ (h7 0 _ rfl), ⟨A', c, rfl, h3, h4, h5, h6⟩, h7⟩
instance : Ones I := ⟨fun h u hu => by
  obtain ⟨A, c, rfl, _⟩ := h
  simp [insCells] at hu
  rcases hu with rfl | rfl | rfl | rfl | rfl <;> rfl⟩
theorem undIn : Tryd.prog.underlying 22 = some (.slice 41) := by kernel_rfl
theorem infIn : (Tryd.prog.info? 41).map (fun i => (i.zero, i.size, i.bytes)) = some (some (.agg #[.int .u8 0, .int .u32 0, .int .u32 0, .int .i64 0, .slice none 0 0]), Lay.size I, 48) := by kernel_rfl
end Go.Proofs.YtknnkmakfcfnjaaDoor
