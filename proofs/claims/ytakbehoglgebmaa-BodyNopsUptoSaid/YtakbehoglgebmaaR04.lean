/-
  Rows of the call's own that read as records; one record more, or a slice of them; what kinds of records there are.
-/
import Derived.Test.YtakbehoglgebmaaR03
import Derived.Test.YtakbehoglgebmaaR01
import Derived.Deep.RegionHeld3
namespace Go.Proofs.Ytakbehoglgebmaa
open Go.RowKit Ins Bin
/-- A row of the call's own that reads as these records; what they point to lies in blocks of S. -/
def OwnL {α : Type} [Lay α] (t : TypeId) (w : World) (base : Nat) (S : Nat → Prop) (v : Value) (xs : List α) : Prop :=
  ∃ ys : List (α × List Value), ys.map (·.1) = xs ∧ w.ownsRow base t (Lay.size α) v xs.length (ys.flatMap (·.2)) ∧ ∀ y ∈ ys, Lay.rep w S y.1 y.2
theorem OwnL.nil {α : Type} [Lay α] (t : TypeId) (w : World) (base : Nat) (S : Nat → Prop) : OwnL t w base S (.slice none 0 0) ([] : List α) := ⟨[], rfl, World.ownsRow_nil _ _ _ _, by simp⟩
theorem OwnL.mod {α : Type} [Lay α] {t : TypeId} {w w' : World} {T : Nat → Prop} {base : Nat} {S : Nat → Prop} {v : Value} {xs : List α} (h : OwnL t w base S v xs) (hm : Mod T w w') (hv : ∀ g, v.ownBlock = some g → ¬ T g) (hs : ∀ g, g < w.heap.size → S g → ¬ T g) : OwnL t w' base S v xs := by
  obtain ⟨ys, h0, h1, h2⟩ := h
  exact ⟨ys, h0, hm.own h1 hv, fun y hy => Lay.mod (h2 y hy) hm hs⟩
theorem OwnL.more {α : Type} [Lay α] {t : TypeId} {w : World} {base : Nat} {S S' : Nat → Prop} {v : Value} {xs : List α} (h : OwnL t w base S v xs) (hs : ∀ g, g < w.heap.size → S g → S' g) : OwnL t w base S' v xs := by
  obtain ⟨ys, h0, h1, h2⟩ := h
  exact ⟨ys, h0, h1, fun y hy => Lay.more (h2 y hy) hs⟩
theorem OwnL.lt {α : Type} [Lay α] {t : TypeId} {w : World} {base : Nat} {S : Nat → Prop} {v : Value} {xs : List α} (h : OwnL t w base S v xs) : ∀ g, v.ownBlock = some g → base ≤ g ∧ g < w.heap.size := by
  obtain ⟨ys, _, h1, _⟩ := h
  exact fun g hg => h1.lt g hg
theorem flat_at {α : Type} [Lay α] {w : World} {S : Nat → Prop} : ∀ (ys : List (α × List Value)), (∀ y ∈ ys, Lay.rep w S y.1 y.2) → ∀ (k : Nat) (y : α × List Value), ys[k]? = some y → ∀ j u, y.2[j]? = some u → (ys.flatMap (·.2))[k * Lay.size α + j]? = some u
  | [], _, k, y, h, _, _, _ => by simp at h
  | z :: ys, _, 0, y, h, j, u, hj => by
    simp at h; subst h
    simp only [List.flatMap_cons, Nat.zero_mul, Nat.zero_add]
    rw [List.getElem?_append_left (List.getElem?_eq_some_iff.1 hj).1]
    exact hj
  | z :: ys, hr, k + 1, y, h, j, u, hj => by
    have ih := flat_at ys (fun y hy => hr y (by simp [hy])) k y (by simpa using h) j u hj
    have hz : z.2.length = Lay.size α := Lay.len (hr z (by simp))
    simp only [List.flatMap_cons]
    rw [Nat.succ_mul, List.getElem?_append_right (by omega), ← ih]
    congr 1
    omega
theorem OwnL.tell {α : Type} [Lay α] {t : TypeId} {w : World} {base : Nat} {S : Nat → Prop} {v : Value} {xs : List α} (h : OwnL t w base S v xs) (hs : ∀ g, S g → base ≤ g) : SliceV w (base ≤ ·) xs v := by
  obtain ⟨ys, h0, h1, h2⟩ := h
  rcases h1.2 with ⟨rfl, h3⟩ | ⟨g, cap, cur, rfl, hb, hh, hc, hm, hcs, htk⟩
  · have : xs = [] := List.eq_nil_of_length_eq_zero h3
    subst this
    exact SliceV.nil _ _
  · refine ⟨_, cap, rfl, hc, hm, fun e => (by cases e), fun k x hk => ?_⟩
    rw [← h0, List.getElem?_map, Option.map_eq_some_iff] at hk
    obtain ⟨y, hy, rfl⟩ := hk
    refine ⟨g, 0, y.2, rfl, hb, (Array.getElem?_eq_some_iff.1 hh).1, Lay.more (h2 y (List.mem_of_getElem? hy)) (fun g _ hg => hs g hg), fun j u hj => ?_⟩
    have := h1.cells (g := g) rfl (k * Lay.size α + j) u (flat_at ys h2 k y hy j u hj)
    have e2 : (⟨g, 0, none⟩ : Addr).add (k * Lay.size α + j) = ⟨g, 0 + k * Lay.size α + j, none⟩ := by
      unfold Addr.add; split
      · next h => simp at h; simp
      · simp
    rwa [e2] at this
set_option maxRecDepth 100000 in
theorem append1L {α : Type} [Lay α] {st t : TypeId} {z : Value} {by' : Nat} (hu : Try.prog.underlying st = some (.slice t)) (hi0 : (Try.prog.info? t).map (fun i => (i.zero, i.size, i.bytes)) = some (some z, Lay.size α, by')) (hby : by' ≤ 4096) (hzs : z.cells.size = Lay.size α) (hpos : 0 < Lay.size α)
    (w : World) (base : Nat) (S : Nat → Prop) (v : Value) (xs : List α) (x : α) (cs : List Value) (hown : OwnL t w base S v xs) (hsz : xs.length ≤ 4294967296) (hb : base ≤ w.heap.size)
    (hx : Lay.rep w S x cs) (h1c : ∀ u ∈ cs, u.oneCell' = true) (hs : ∀ g, g < w.heap.size → S g → v.ownBlock ≠ some g) :
    ∃ v' w', (Builtin.append_ #[st, st] st #[v, .slice (some ⟨w.heap.size, 0, none⟩) 1 1]).run Try.prog (w.alloc (.cells cs.toArray t)) = .ok v' w' ∧ OwnL t w' base (fun g => S g ∧ v'.ownBlock ≠ some g) v' (xs ++ [x]) ∧ Mod (fun g => v.ownBlock = some g) w w' ∧ ∀ g, v'.ownBlock = some g → v.ownBlock = some g ∨ w.heap.size ≤ g := by
  obtain ⟨i0, hi, hz0, hz1, hz2⟩ := info_parts hi0
  obtain ⟨ys, h0, h1, h2⟩ := hown
  have hown1 := h1.alloc (.cells cs.toArray t)
  have hcl : cs.length = 1 * Lay.size α := by rw [Lay.len hx, Nat.one_mul]
  have hbytes : (xs.length + 1) * by' ≤ 140737488355328 := by
    have : (xs.length + 1) * by' ≤ 4294967297 * 4096 := Nat.mul_le_mul (by omega) hby
    omega
  obtain ⟨v', w', hrun, h3, h4, _⟩ := run_append_own (P := Try.prog) (w.alloc (.cells cs.toArray t)) base st st t i0 z (Lay.size α) by' hu hi hz0 hz1 hz2 hzs hpos v xs.length (ys.flatMap (·.2)) hown1 ⟨w.heap.size, 0, none⟩ 1 1 cs hcl (cells_new w _ _) h1c (by unfold maxLen; omega) hbytes (by simp; omega)
  have ht := append_tight (P := Try.prog) _ base st st t i0 z (Lay.size α) by' hu hi hz0 hz1 hz2 v xs.length (ys.flatMap (·.2)) hown1 ⟨w.heap.size, 0, none⟩ 1 1 cs hcl (cells_new w _ _) h1c (by omega) (by unfold maxLen; omega) hbytes hrun
  have hM : Mod (fun g => v.ownBlock = some g) w w' := ((Mod.refl _ w).alloc _).trans (T' := fun g => v.ownBlock = some g) (Mod.of_grown h4 (fun _ h => h)) (fun _ _ h => h)
  have ht2 : ∀ g, v'.ownBlock = some g → v.ownBlock = some g ∨ w.heap.size ≤ g := fun g hg => by
    rcases ht g hg with h | h
    · exact .inl h
    · exact .inr (by simp at h; omega)
  have hS : ∀ g, g < w.heap.size → S g → S g ∧ v'.ownBlock ≠ some g := fun g hg hsg => ⟨hsg, fun e => by
    rcases ht2 g e with h | h
    · exact hs g hg hsg h
    · omega⟩
  refine ⟨v', w', hrun, ⟨ys ++ [(x, cs)], by simp [h0], by rw [List.flatMap_append, List.length_append]; simpa using h3, fun y hy => ?_⟩, hM, ht2⟩
  rcases List.mem_append.1 hy with hy | hy
  · exact Lay.mod (Lay.more (h2 y hy) hS) hM (fun g hg hsg => hs g hg hsg.1)
  · simp at hy; subst hy
    exact Lay.mod (Lay.more hx hS) hM (fun g hg hsg => hs g hg hsg.1)
/-- A global's type. -/
instance : Lay Glob where
  size := 2
  rep _ _ x cs := cs = globCells x
  len h := by rw [h]; rfl
  mod h _ _ := h
  more h _ := h
/-- Cells of one record are single cells. -/
class Ones (α : Type) [Lay α] : Prop where
  one : ∀ {w : World} {S : Nat → Prop} {x : α} {cs : List Value}, Lay.rep w S x cs → ∀ u ∈ cs, u.oneCell' = true
theorem SliceV.one {α : Type} [Lay α] {w : World} {S : Nat → Prop} {xs : List α} {v : Value} (h : SliceV w S xs v) : v.oneCell' = true := by
  obtain ⟨A, c, rfl, _⟩ := h
  rfl
instance : Ones UInt8 := ⟨fun h u hu => by
  have h' : _ = _ := h
  subst h'
  simp at hu; subst hu; rfl⟩
instance : Ones Nat := ⟨fun h u hu => by
  have h' := h.1
  subst h'
  simp at hu; subst hu; rfl⟩
instance : Ones Lim := ⟨fun h u hu => by
  have h' := h.1
  subst h'
  simp at hu; rcases hu with rfl | rfl <;> rfl⟩
instance : Ones Glob := ⟨fun h u hu => by
  have h' : _ = _ := h
  subst h'
  simp [globCells] at hu; rcases hu with rfl | rfl <;> rfl⟩
instance : Ones Exp := ⟨fun h u hu => by
  have h' := h.1
  subst h'
  simp at hu; rcases hu with rfl | rfl | rfl <;> rfl⟩
instance : Ones FT := ⟨fun h u hu => by
  obtain ⟨a, b, rfl, h1, h2⟩ := h
  simp at hu; rcases hu with rfl | rfl
  · exact h1.one
  · exact h2.one⟩
theorem rows_of {α : Type} {E : Nat → α → Prop} : ∀ (n : Nat), (∀ i, i < n → ∃ x, E i x) → ∃ xs : List α, xs.length = n ∧ ∀ i x, xs[i]? = some x → E i x
  | 0, _ => ⟨[], rfl, fun i x h => by simp at h⟩
  | n + 1, h => by
    obtain ⟨xs, h1, h2⟩ := rows_of n (fun i hi => h i (by omega))
    obtain ⟨x, hx⟩ := h n (by omega)
    refine ⟨xs ++ [x], by simp [h1], fun i y hy => ?_⟩
    by_cases hi : i < n
    · rw [List.getElem?_append_left (by omega)] at hy
      exact h2 i y hy
    · rw [List.getElem?_append_right (by omega)] at hy
      have h0 : i - xs.length = 0 := by
        have := (List.getElem?_eq_some_iff.1 hy).1
        simp at this; omega
      rw [h0] at hy
      simp at hy
      subst hy
      have : i = n := by omega
      subst this
      exact hx
theorem flat_len {α : Type} [Lay α] {w : World} {S : Nat → Prop} : ∀ (ys : List (α × List Value)), (∀ y ∈ ys, Lay.rep w S y.1 y.2) → (ys.flatMap (·.2)).length = ys.length * Lay.size α
  | [], _ => by simp
  | z :: ys, hr => by
    have ih := flat_len ys (fun y hy => hr y (by simp [hy]))
    have hz : z.2.length = Lay.size α := Lay.len (hr z (by simp))
    simp only [List.flatMap_cons, List.length_append, List.length_cons, Nat.succ_mul]
    omega
/-- A nil slice laid behind a row changes nothing. -/
theorem append_nilL {st t : TypeId} {i0 : TypeInfo} (hu : Try.prog.underlying st = some (.slice t)) (hi : Try.prog.info? t = some i0) (w : World) (base size n c : Nat) (v : Value) (xs : List Value) (hown : w.ownsRow base t size v n xs) :
    (Builtin.append_ #[st, st] st #[v, .slice none 0 c]).run Try.prog w = .ok v w := by
  rcases hown.2 with ⟨rfl, rfl⟩ | ⟨g, cap, cur, rfl, _, _, hnc, _⟩
  · simp [Builtin.append_, run_underlying hu, sizeOf, typeInfo, hi, Builtin.lenOf, Builtin.firstCells]
  · simp [Builtin.append_, run_underlying hu, sizeOf, typeInfo, hi, Builtin.lenOf, Builtin.firstCells, hnc, storeCells]
theorem addr_at (g o k : Nat) : (⟨g, o, none⟩ : Addr).add k = ⟨g, o + k, none⟩ := by
  unfold Addr.add; split
  · next h => subst h; rfl
  · rfl
set_option maxRecDepth 100000 in
/-- A slice of records laid behind a row of the call's own. -/
theorem appendL {α : Type} [Lay α] [Ones α] {st t : TypeId} {z : Value} {by' : Nat} (hu : Try.prog.underlying st = some (.slice t)) (hi0 : (Try.prog.info? t).map (fun i => (i.zero, i.size, i.bytes)) = some (some z, Lay.size α, by')) (hby : by' ≤ 4096) (hzs : z.cells.size = Lay.size α) (hpos : 0 < Lay.size α)
    (w : World) (base : Nat) (S : Nat → Prop) (v : Value) (xs ys : List α) (A : Option Addr) (n c : Nat) (hown : OwnL t w base S v xs) (hA : HasL w S A ys) (hn : n = ys.length) (hsz : xs.length + ys.length ≤ 4294967296) (hb : base ≤ w.heap.size)
    (hs : ∀ g, g < w.heap.size → S g → v.ownBlock ≠ some g) :
    ∃ v' w', (Builtin.append_ #[st, st] st #[v, .slice A n c]).run Try.prog w = .ok v' w' ∧ OwnL t w' base (fun g => S g ∧ v'.ownBlock ≠ some g) v' (xs ++ ys) ∧ Mod (fun g => v.ownBlock = some g) w w' ∧ ∀ g, v'.ownBlock = some g → v.ownBlock = some g ∨ w.heap.size ≤ g := by
  obtain ⟨i0, hi, hz0, hz1, hz2⟩ := info_parts hi0
  subst hn
  obtain ⟨xc, h0, h1, h2⟩ := hown
  have hSv : ∀ (v' : Value) (w' : World), Mod (fun g => v.ownBlock = some g) w w' → (∀ g, v'.ownBlock = some g → v.ownBlock = some g ∨ w.heap.size ≤ g) → ∀ (x : α) (cs : List Value), Lay.rep w S x cs → Lay.rep w' (fun g => S g ∧ v'.ownBlock ≠ some g) x cs := fun v' w' hm ht x cs hr =>
    Lay.mod (Lay.more hr (fun g hg hsg => ⟨hsg, fun e => by
      rcases ht g e with h | h
      · exact hs g hg hsg h
      · omega⟩)) hm (fun g hg hsg => hs g hg hsg.1)
  by_cases hy : ys = []
  · subst hy
    cases A with
    | none => exact ⟨v, w, append_nilL hu hi w base _ _ c v _ h1, ⟨xc, by simp [h0], by simpa using h1, fun y hy => hSv v w (Mod.refl _ _) (fun g hg => .inl hg) _ _ (h2 y hy)⟩, Mod.refl _ _, fun g hg => .inl hg⟩
    | some a =>
      obtain ⟨v', w', hrun, h3, h4, h5⟩ := run_append_own (P := Try.prog) w base st st t i0 z (Lay.size α) by' hu hi hz0 hz1 hz2 hzs hpos v xs.length _ h1 a 0 c [] (by simp) (fun j u h => by simp at h) (by simp) (by unfold maxLen; simp at hsz; omega) (by
        have : (xs.length + 0) * by' ≤ 4294967296 * 4096 := Nat.mul_le_mul (by simp at hsz; omega) hby
        omega) hb
      have ht : ∀ g, v'.ownBlock = some g → v.ownBlock = some g ∨ w.heap.size ≤ g := fun g hg => by
        rcases h1.2 with ⟨rfl, hx⟩ | ⟨g0, cap, cur, rfl, hbg, hg0, hnc, hcm, hcs, htake⟩
        · have := h5.2 ⟨rfl, rfl⟩
          subst this
          exact .inl hg
        · have hr := run_append_room (P := Try.prog) w st st t i0 hu hi g0 xs.length cap cur hg0 a 0 c [] (by simp) (fun j u h => by simp at h) (by simp) (by omega) (by rw [hcs, hz1]; simp; exact Nat.mul_le_mul_right _ hnc)
          rw [hr] at hrun
          injection hrun with e1 e2
          subst e1
          exact .inl hg
      have hm := Mod.of_grown (T := fun g => v.ownBlock = some g) h4 (fun _ h => h)
      exact ⟨v', w', hrun, ⟨xc, by simp [h0], by simpa using h3, fun y hy => hSv v' w' hm ht _ _ (h2 y hy)⟩, hm, ht⟩
  · have hl : 0 < ys.length := List.length_pos_iff.2 hy
    obtain ⟨g, o, cs0, rfl, hSg, hgl, _, _⟩ := hA 0 ys[0] (List.getElem?_eq_getElem hl)
    obtain ⟨zs, hzl, hzs2⟩ := rows_of (E := fun k (p : α × List Value) => ys[k]? = some p.1 ∧ Lay.rep w S p.1 p.2 ∧ ∀ (j : Nat) (u : Value), p.2[j]? = some u → w.cell? ⟨g, o + k * Lay.size α + j, none⟩ = some u) ys.length (fun i hil => by
      obtain ⟨g', o', cs, e, _, _, hr, hc⟩ := hA i ys[i] (List.getElem?_eq_getElem hil)
      injection e with e
      injection e with e1 e2 _
      subst e1 e2
      exact ⟨(ys[i], cs), List.getElem?_eq_getElem hil, hr, hc⟩)
    have hzr : ∀ y ∈ zs, Lay.rep w S y.1 y.2 := fun y hy => by
      obtain ⟨k, hk⟩ := List.mem_iff_getElem?.1 hy
      exact (hzs2 k y hk).2.1
    have hzm : zs.map (·.1) = ys := List.ext_getElem? (fun k => by
      rw [List.getElem?_map]
      cases hk : zs[k]? with
      | none =>
        have : ys.length ≤ k := by rw [← hzl]; exact List.getElem?_eq_none_iff.1 hk
        simp [List.getElem?_eq_none this]
      | some p => simp [(hzs2 k p hk).1])
    have hfl := flat_len zs hzr
    rw [hzl] at hfl
    have hnews : ∀ j u, (zs.flatMap (·.2))[j]? = some u → w.cell? ((⟨g, o, none⟩ : Addr).add j) = some u := fun j u hj => by
      have hjl := (List.getElem?_eq_some_iff.1 hj).1
      rw [hfl] at hjl
      have hk : j / Lay.size α < zs.length := by rw [hzl]; exact (Nat.div_lt_iff_lt_mul hpos).2 hjl
      have hzk := List.getElem?_eq_getElem hk
      have hr := hzs2 _ _ hzk
      have hlen := Lay.len hr.2.1
      have hm : j % Lay.size α < (zs[j / Lay.size α]).2.length := by rw [hlen]; exact Nat.mod_lt _ hpos
      have hjk : j / Lay.size α * Lay.size α + j % Lay.size α = j := by rw [Nat.mul_comm]; exact Nat.div_add_mod j _
      have hat := flat_at zs hzr _ _ hzk _ _ (List.getElem?_eq_getElem hm)
      rw [hjk, hj] at hat
      injection hat with hat
      have hc := hr.2.2 _ _ (List.getElem?_eq_getElem hm)
      rw [addr_at, hat, ← hc]
      congr 2
      omega
    have hones : ∀ u ∈ zs.flatMap (·.2), u.oneCell' = true := fun u hu => by
      obtain ⟨y, hy, hu⟩ := List.mem_flatMap.1 hu
      exact Ones.one (hzr y hy) u hu
    have hbytes : (xs.length + ys.length) * by' ≤ 140737488355328 := by
      have : (xs.length + ys.length) * by' ≤ 4294967296 * 4096 := Nat.mul_le_mul hsz hby
      omega
    obtain ⟨v', w', hrun, h3, h4, _⟩ := run_append_own (P := Try.prog) w base st st t i0 z (Lay.size α) by' hu hi hz0 hz1 hz2 hzs hpos v xs.length _ h1 ⟨g, o, none⟩ ys.length c (zs.flatMap (·.2)) hfl hnews hones (by unfold maxLen; omega) hbytes hb
    have ht := append_tight (P := Try.prog) w base st st t i0 z (Lay.size α) by' hu hi hz0 hz1 hz2 v xs.length _ h1 ⟨g, o, none⟩ ys.length c (zs.flatMap (·.2)) hfl hnews hones hl (by unfold maxLen; omega) hbytes hrun
    have hm := Mod.of_grown (T := fun g => v.ownBlock = some g) h4 (fun _ h => h)
    refine ⟨v', w', hrun, ⟨xc ++ zs, by simp [h0, hzm], by rw [List.flatMap_append, List.length_append]; exact h3, fun y hy => ?_⟩, hm, ht⟩
    rcases List.mem_append.1 hy with hy | hy
    · exact hSv v' w' hm ht _ _ (h2 y hy)
    · exact hSv v' w' hm ht _ _ (hzr y hy)
/-- An empty literal of the call's own. -/
theorem OwnL.lit0 {α : Type} [Lay α] (t : TypeId) (w : World) (base : Nat) (S : Nat → Prop) (hb : base ≤ w.heap.size) : OwnL t (w.alloc (.cells #[] t)) base S (.slice (some ⟨w.heap.size, 0, none⟩) 0 0) ([] : List α) :=
  ⟨[], rfl, ⟨by simp, .inr ⟨w.heap.size, 0, #[], rfl, hb, heap_alloc_new w _, by simp, by unfold maxLen; omega, by simp, by simp⟩⟩, by simp⟩
theorem undUInt8 : Try.prog.underlying 34 = some (.slice 5) := by kernel_rfl
theorem infUInt8 : (Try.prog.info? 5).map (fun i => (i.zero, i.size, i.bytes)) = some (some (.int .u8 0), Lay.size UInt8, 1) := by kernel_rfl
theorem undNat : Try.prog.underlying 24 = some (.slice 28) := by kernel_rfl
theorem infNat : (Try.prog.info? 28).map (fun i => (i.zero, i.size, i.bytes)) = some (some (.int .u32 0), Lay.size Nat, 4) := by kernel_rfl
theorem undLim : Try.prog.underlying 25 = some (.slice 64) := by kernel_rfl
theorem infLim : (Try.prog.info? 64).map (fun i => (i.zero, i.size, i.bytes)) = some (some (.agg #[.int .u32 0, .int .i64 0]), Lay.size Lim, 16) := by kernel_rfl
theorem undGlob : Try.prog.underlying 74 = some (.slice 66) := by kernel_rfl
theorem infGlob : (Try.prog.info? 66).map (fun i => (i.zero, i.size, i.bytes)) = some (some (.agg #[.int .u8 0, .bool false]), Lay.size Glob, 2) := by kernel_rfl
theorem undFT : Try.prog.underlying 22 = some (.slice 36) := by kernel_rfl
theorem infFT : (Try.prog.info? 36).map (fun i => (i.zero, i.size, i.bytes)) = some (some (.agg #[.slice none 0 0, .slice none 0 0]), Lay.size FT, 48) := by kernel_rfl
theorem undExp : Try.prog.underlying 27 = some (.slice 83) := by kernel_rfl
theorem infExp : (Try.prog.info? 83).map (fun i => (i.zero, i.size, i.bytes)) = some (some (.agg #[.string ⟨#[]⟩, .int .u8 0, .int .u32 0]), Lay.size Exp, 24) := by kernel_rfl
end Go.Proofs.Ytakbehoglgebmaa
/-
  Layer 9's plain mathematics (no program): a stack of validation; what a call makes of it; when operands can be taken.
-/
namespace Ty
/-- An open block. -/
structure Fr where
  label : List UInt8
  ends : List UInt8
  h : Nat
  dead : Bool
structure T where
  ops : List UInt8
  frs : List Fr
  most : Nat
def fit (a b : UInt8) : Bool := a == b || (a == 0 || b == 0)
def fitAll (own l : List UInt8) : Bool := (own.reverse.zip l.reverse).all fun p => fit p.1 p.2
def without (ops : List UInt8) (f : Fr) (l : List UInt8) : Option Nat :=
  if ops.length - f.h < l.length ∧ f.dead = false then none
  else if fitAll (ops.drop f.h) l = true then some (ops.length - min (ops.length - f.h) l.length) else none
def T.last (s : T) : Option Fr := s.frs.getLast?
def T.start : T := ⟨[], [], 0⟩
def T.push (s : T) (l : List UInt8) : T := ⟨s.ops ++ l, s.frs, max s.most (s.ops.length + l.length)⟩
def T.op (s : T) (a b : List UInt8) : T := ⟨s.ops, s.frs ++ [⟨a, b, s.ops.length, false⟩], s.most⟩
def T.new (e : List UInt8) : T := T.start.op e e
def T.popA (s : T) : UInt8 × Bool :=
  match s.last with
  | none => (0, false)
  | some f => if s.ops.length ≤ f.h then (0, f.dead) else (s.ops.getLast?.getD 0, true)
def T.pop (s : T) : T :=
  match s.last with
  | none => s
  | some f => if s.ops.length ≤ f.h then s else ⟨s.ops.dropLast, s.frs, s.most⟩
def T.wout (s : T) (l : List UInt8) : Option Nat :=
  match s.last with
  | none => none
  | some f => without s.ops f l
def T.wantA (s : T) (l : List UInt8) : Bool := (s.wout l).isSome
def T.cutTo (s : T) (n : Nat) : T := ⟨s.ops.take n, s.frs, s.most⟩
def T.want (s : T) (l : List UInt8) : T :=
  match s.wout l with
  | none => s
  | some n => s.cutTo n
/-- The ends that Close tells. -/
def T.closeA (s : T) : Option (List UInt8) :=
  match s.last with
  | none => none
  | some f => match without s.ops f f.ends with
    | none => none
    | some n => if n ≤ f.h then some f.ends else none
def T.close (s : T) : T :=
  match s.last with
  | none => s
  | some f => match without s.ops f f.ends with
    | none => s
    | some n => if n ≤ f.h then ⟨s.ops.take n, s.frs.dropLast, s.most⟩ else s
def T.kill (s : T) : T :=
  match s.last with
  | none => s
  | some f => ⟨s.ops.take f.h, s.frs.dropLast ++ [⟨f.label, f.ends, f.h, true⟩], s.most⟩
def T.labelA (s : T) (n : Nat) : Option (List UInt8) := (s.frs.reverse[n]?).map (·.label)
/-- Frames begin at heights that rise, and that there are. -/
def T.ok (s : T) : Prop := (∀ f ∈ s.frs, f.h ≤ s.ops.length) ∧ s.frs.Pairwise fun a b => a.h ≤ b.h
theorem last_nil {s : T} (h : s.frs = []) : s.last = none := by unfold T.last; rw [h]; rfl
theorem last_of {s : T} {i : List Fr} {f : Fr} (h : s.frs = i ++ [f]) : s.last = some f := by unfold T.last; rw [h]; simp
theorem parts (s : T) : s.frs = [] ∨ ∃ i f, s.frs = i ++ [f] := by
  rcases List.eq_nil_or_concat s.frs with h | ⟨i, f, h⟩
  · exact .inl h
  · exact .inr ⟨i, f, by simpa using h⟩
theorem ok_start : T.start.ok := ⟨fun f h => by simp [T.start] at h, by simp [T.start]⟩
theorem ok_push {s : T} (h : s.ok) (l : List UInt8) : (s.push l).ok := ⟨fun f hf => by have := h.1 f hf; simp [T.push]; omega, h.2⟩
theorem ok_op {s : T} (h : s.ok) (a b : List UInt8) : (s.op a b).ok := by
  refine ⟨fun f hf => ?_, ?_⟩
  · simp [T.op] at hf ⊢
    rcases hf with hf | rfl
    · exact h.1 f hf
    · exact Nat.le_refl _
  · simp only [T.op, List.pairwise_append]
    exact ⟨h.2, by simp, fun a ha b hb => by simp at hb; subst hb; exact h.1 a ha⟩
theorem ok_new (e : List UInt8) : (T.new e).ok := ok_op ok_start e e
theorem last_h {s : T} (h : s.ok) {i : List Fr} {f : Fr} (hf : s.frs = i ++ [f]) : f.h ≤ s.ops.length := h.1 f (by rw [hf]; simp)
theorem below_last {s : T} (h : s.ok) {i : List Fr} {f : Fr} (hf : s.frs = i ++ [f]) : ∀ g ∈ s.frs, g.h ≤ f.h := fun g hg => by
  have h2 := h.2
  rw [hf, List.pairwise_append] at h2
  rw [hf] at hg
  rcases List.mem_append.1 hg with hg | hg
  · exact h2.2.2 g hg f (by simp)
  · simp at hg; subst hg; exact Nat.le_refl _
theorem ok_cut {s : T} (h : s.ok) {i : List Fr} {f : Fr} (hf : s.frs = i ++ [f]) (n : Nat) (hn : f.h ≤ n) : (s.cutTo n).ok := ⟨fun g hg => by
  have h1 := below_last h hf g hg
  have h2 := h.1 g hg
  simp [T.cutTo]; omega, h.2⟩
theorem without_ge {ops : List UInt8} {f : Fr} {l : List UInt8} {n : Nat} (hf : f.h ≤ ops.length) (h : without ops f l = some n) : f.h ≤ n ∧ n ≤ ops.length := by
  unfold without at h
  split at h
  · cases h
  · split at h
    · injection h with h; omega
    · cases h
theorem ok_pop {s : T} (h : s.ok) : s.pop.ok := by
  rcases parts s with hn | ⟨i, f, hf⟩
  · unfold T.pop; rw [last_nil hn]; exact h
  · unfold T.pop; rw [last_of hf]
    dsimp only
    split
    · exact h
    · next hl =>
      have := ok_cut h hf (s.ops.length - 1) (by omega)
      unfold T.cutTo at this
      rwa [← List.dropLast_eq_take] at this
theorem ok_want {s : T} (h : s.ok) (l : List UInt8) : (s.want l).ok := by
  unfold T.want T.wout
  rcases parts s with hn | ⟨i, f, hf⟩
  · rw [last_nil hn]; exact h
  · rw [last_of hf]
    dsimp only
    cases hw : without s.ops f l with
    | none => exact h
    | some n => exact ok_cut h hf n (without_ge (last_h h hf) hw).1
theorem ok_close {s : T} (h : s.ok) : s.close.ok := by
  unfold T.close
  rcases parts s with hn | ⟨i, f, hf⟩
  · rw [last_nil hn]; exact h
  · rw [last_of hf]
    dsimp only
    cases hw : without s.ops f f.ends with
    | none => exact h
    | some n =>
      dsimp only
      split
      · next hle =>
        have hc := ok_cut h hf n (without_ge (last_h h hf) hw).1
        refine ⟨fun g hg => hc.1 g ((List.dropLast_sublist _).subset hg), ?_⟩
        have h2 := h.2
        simp only [hf] at h2 ⊢
        rw [List.pairwise_append] at h2
        simpa using h2.1
      · exact h
theorem ok_kill {s : T} (h : s.ok) : s.kill.ok := by
  unfold T.kill
  rcases parts s with hn | ⟨i, f, hf⟩
  · rw [last_nil hn]; exact h
  · rw [last_of hf]
    dsimp only
    have hc := ok_cut h hf f.h (Nat.le_refl _)
    have h2 := h.2
    rw [hf, List.pairwise_append] at h2
    have hd : s.frs.dropLast = i := by rw [hf]; simp
    rw [hd]
    refine ⟨fun g hg => ?_, ?_⟩
    · simp at hg
      rcases hg with hg | rfl
      · exact hc.1 g (by show g ∈ s.frs; rw [hf]; simp [hg])
      · exact hc.1 f (by show f ∈ s.frs; rw [hf]; simp)
    · simp only [List.pairwise_append]
      exact ⟨h2.1, by simp, fun a ha b hb => by simp at hb; subst hb; exact h2.2.2 a ha f (by simp)⟩
/-- One more fits, or one does not. -/
theorem fit_at {own l : List UInt8} (i : Nat) (hi : i < own.length) (hl : i < l.length) : (own.reverse.zip l.reverse)[i]? = some (own[own.length - 1 - i], l[l.length - 1 - i]) := by
  rw [List.getElem?_zip_eq_some]
  exact ⟨by rw [List.getElem?_reverse hi, List.getElem?_eq_getElem], by rw [List.getElem?_reverse hl, List.getElem?_eq_getElem]⟩
theorem fit_no {own l : List UInt8} (i : Nat) (hi : i < own.length) (hl : i < l.length) (h : fit own[own.length - 1 - i] l[l.length - 1 - i] = false) : fitAll own l = false := by
  unfold fitAll
  rw [List.all_eq_false]
  exact ⟨_, List.mem_of_getElem? (fit_at i hi hl), by simp [h]⟩
theorem fit_yes {own l : List UInt8} (h : ∀ i (hi : i < own.length) (hl : i < l.length), fit own[own.length - 1 - i] l[l.length - 1 - i] = true) : fitAll own l = true := by
  unfold fitAll
  rw [List.all_eq_true]
  intro p hp
  obtain ⟨i, hi⟩ := List.mem_iff_getElem?.1 hp
  have hlt := (List.getElem?_eq_some_iff.1 hi).1
  rw [List.length_zip, List.length_reverse, List.length_reverse] at hlt
  have h1 : i < own.length := by omega
  have h2 : i < l.length := by omega
  rw [fit_at i h1 h2] at hi
  injection hi with hi
  subst hi
  exact h i h1 h2
end Ty
/-
  A region that draws its order, walked operation by operation in an order of ours: the laws with the operation written out by its fields.
-/
namespace Go.Proofs.Ytakbehoglgebmaa
open Go.RowKit
variable {P : Program} {ops : Array Oper} {Q : Exit → Act → World → Prop} {md : Region.Mode} {S : World → Prop}
/-- An operation that may come up, and yields in every world that meets S, comes first. -/
theorem drawn_take (i : Nat) {d : Option Tmp} {op : Op} {ty : TypeId} {pos : String} {af : Array Edge} {g : Option (Nat × Bool)} {v : Value} {fuel : Nat} {listed : Array Bool} {a : Act} {w : World} (hi : ops[i]? = some ⟨d, op, ty, pos, af, g⟩)
    (hs : Region.noSelect ops = true) (hf : Region.free md ops listed i = true) (hr : (Region.ready md ops listed).contains i = true)
    (hQ : ∀ c a w, Q (.panic c) (a.put d v) w → Q (.panic c) a w) (hw : Region.wanted ⟨d, op, ty, pos, af, g⟩ (yielded ops a.tmps) = true) (hS : S w)
    (hy : ∀ w, S w → (execOp a.eval ⟨d, op, ty, pos, af, g⟩).run P w = .ok (.value v) w)
    (h : wpAnyH P md ops Q S fuel (listed.setIfInBounds i true) (a.put d v) w) : wpAnyH P md ops Q S (fuel + 1) listed a w :=
  wpAnyH_take hi hs hf hr hQ (.inl ⟨hw, hy⟩) hS h
/-- One that alone may come up. -/
theorem drawn_sole (i : Nat) {d : Option Tmp} {op : Op} {ty : TypeId} {pos : String} {af : Array Edge} {g : Option (Nat × Bool)} {fuel : Nat} {listed : Array Bool} {a : Act} {w : World} (hi : ops[i]? = some ⟨d, op, ty, pos, af, g⟩)
    (hr : Region.ready md ops listed = [i])
    (h : ∀ K' : Act → World → Prop, Shut (∀ a w, S w → (S w → wpAnyH P md ops Q S fuel (listed.setIfInBounds i true) a w) → K' a w) → if Region.wanted ⟨d, op, ty, pos, af, g⟩ (yielded ops a.tmps) = true then Oper.wp P ⟨d, op, ty, pos, af, g⟩ a w K' Q else K' (a.put d undef) w) :
    wpAnyH P md ops Q S (fuel + 1) listed a w :=
  wpAnyH_ready hr (by simp) (AllReadyH.cons hi h AllReadyH.nil)
end Go.Proofs.Ytakbehoglgebmaa
