/-
  What the statements of layer 7 go through, as a property of a module.
-/
import Derived.Test.YtgnbkfkiigcdgaaGreatDoorP05
import Derived.Test.YtgnbkfkiigcdgaaGreatDoorP11
import Derived.Test.YtgnbkfkiigcdgaaGreatDoorP04
import Derived.Test.YtgnbkfkiigcdgaaGreatDoorP07
import Derived.Deep.Cut
import Derived.IntWalk
import Derived.Test.YtgnbkfkiigcdgaaGreatDoorP15
import Derived.Test.YtgnbkfkiigcdgaaGreatDoorP03
import Derived.Test.YtgnbkfkiigcdgaaGreatDoorP06
namespace Bin
open Ins
/-- What the statements go through. -/
structure Small (m : M) : Prop where
  lens : m.types.length ≤ 4000 ∧ m.imports.length ≤ 4000 ∧ m.funcs.length ≤ 4000 ∧ m.tables.length ≤ 4000 ∧ m.mems.length ≤ 4000 ∧ m.globals.length ≤ 4000 ∧ m.exports.length ≤ 4000 ∧ m.elems.length ≤ 4000 ∧ m.codes.length ≤ 4000 ∧ m.datas.length ≤ 4000
  types : ∀ x ∈ m.types, x.params.length ≤ 1000000 ∧ x.results.length ≤ 1000000
  imports : ∀ x ∈ m.imports, x.mod.length ≤ 1000000 ∧ x.name.length ≤ 1000000
  globals : ∀ x ∈ m.globals, Ins.many x.init ≤ 200000
  exports : ∀ x ∈ m.exports, x.name.length ≤ 1000000
  elems : ∀ x ∈ m.elems, Ins.many x.off ≤ 200000 ∧ x.funcs.length ≤ 100000
  codes : ∀ x ∈ m.codes, x.locals.length ≤ 100000 ∧ Ins.many x.body ≤ 200000
  datas : ∀ x ∈ m.datas, Ins.many x.off ≤ 200000 ∧ x.b.length ≤ 1000000
end Bin
/-
  Slices that read as a binary's sections, and rows of the call's own that do; one section more in such a row.
-/
namespace Go.Proofs.YtgnbkfkiigcdgaaGreatDoor
open Go.RowKit Sec
/-- A section's two cells. -/
def secCells (x : S) (A : Option Addr) (c : Nat) : List Value := [.int .u8 (x.id : Int), .slice A x.b.length c]
theorem secCells_one (x : S) (A : Option Addr) (c : Nat) : ∀ u ∈ secCells x A c, u.oneCell' = true := by
  intro u hu
  simp [secCells] at hu
  rcases hu with rfl | rfl <;> rfl
/-- A slice with address A reads as sections, all of it below block B. -/
def HasS (w : World) (B : Nat) (A : Option Addr) (xs : List S) : Prop := ∀ (k : Nat) (x : S), xs[k]? = some x → ∃ g o A' c, A = some ⟨g, o, none⟩ ∧ g < B ∧ x.id < 256 ∧ x.b.length ≤ c ∧ c ≤ maxLen ∧ (A' = none → c = 0) ∧ Has w B A' x.b ∧
  w.cell? ⟨g, o + k * 2, none⟩ = some (.int .u8 (x.id : Int)) ∧ w.cell? ⟨g, o + k * 2 + 1, none⟩ = some (.slice A' x.b.length c)
theorem HasS.nil (w : World) (B : Nat) (A : Option Addr) : HasS w B A [] := fun k x hx => by simp at hx
theorem HasS.on {w w' : World} {A : Option Addr} {xs : List S} (h : HasS w w.heap.size A xs) (hb : Below w.heap.size w w') : HasS w' w'.heap.size A xs := fun k x hk => by
  obtain ⟨g, o, A', c, h1, h2, h3, h4, h5, h6, h7, h8, h9⟩ := h k x hk
  exact ⟨g, o, A', c, h1, Nat.lt_of_lt_of_le h2 hb.size, h3, h4, h5, h6, h7.on hb, (hb.cell h2).trans h8, (hb.cell h2).trans h9⟩
theorem HasS.ids {w : World} {B : Nat} {A : Option Addr} {xs : List S} (h : HasS w B A xs) : ∀ x ∈ xs, x.id < 256 := fun x hx => by
  obtain ⟨k, hk⟩ := List.mem_iff_getElem?.1 hx
  obtain ⟨_, _, _, _, _, _, h3, _⟩ := h k x hk
  exact h3
theorem HasS.take {w : World} {B : Nat} {A : Option Addr} {xs : List S} (h : HasS w B A xs) (n : Nat) : HasS w B A (xs.take n) := fun k x hk => by
  rw [List.getElem?_take] at hk
  split at hk
  · exact h k x hk
  · cases hk
/-- The cells of sections, one behind the other; of each where its bytes lie. -/
def rowS (ys : List (S × Option Addr × Nat)) : List Value := ys.flatMap fun y => secCells y.1 y.2.1 y.2.2
theorem rowS_length (ys : List (S × Option Addr × Nat)) : (rowS ys).length = ys.length * 2 := by
  induction ys with
  | nil => rfl
  | cons y ys ih => simp only [rowS, List.flatMap_cons, List.length_append, List.length_cons] at ih ⊢; rw [ih]; simp [secCells]; omega
theorem rowS_append (a b : List (S × Option Addr × Nat)) : rowS (a ++ b) = rowS a ++ rowS b := by simp [rowS]
theorem rowS_at : ∀ (ys : List (S × Option Addr × Nat)) (k : Nat) (y : S × Option Addr × Nat), ys[k]? = some y → ∀ j u, (secCells y.1 y.2.1 y.2.2)[j]? = some u → (rowS ys)[k * 2 + j]? = some u
  | [], k, y, h, _, _, _ => by simp at h
  | z :: ys, 0, y, h, j, u, hj => by
    simp at h; subst h
    simp only [rowS, List.flatMap_cons, Nat.zero_mul, Nat.zero_add]
    rw [List.getElem?_append_left (by exact (List.getElem?_eq_some_iff.1 hj).1)]
    exact hj
  | z :: ys, k + 1, y, h, j, u, hj => by
    have ih := rowS_at ys k y (by simpa using h) j u hj
    simp only [rowS, List.flatMap_cons] at ih ⊢
    rw [List.getElem?_append_right (by simp [secCells]; omega), ← ih]
    congr 1
    simp [secCells]; omega
/-- A row of the call's own that reads as sections; their bytes lie elsewhere. -/
def OwnS (w : World) (T : TypeId) (base : Nat) (v : Value) (n : Nat) (xs : List S) : Prop :=
  ∃ ys, ys.map (·.1) = xs ∧ w.ownsRow base T 2 v n (rowS ys) ∧ ∀ y ∈ ys, y.1.id < 256 ∧ y.1.b.length ≤ y.2.2 ∧ y.2.2 ≤ maxLen ∧ (y.2.1 = none → y.2.2 = 0) ∧ Has w w.heap.size y.2.1 y.1.b ∧ ∀ ad, y.2.1 = some ad → y.1.b ≠ [] → v.ownBlock ≠ some ad.block
theorem OwnS.len {w : World} {T : TypeId} {base : Nat} {v : Value} {n : Nat} {xs : List S} (h : OwnS w T base v n xs) : n = xs.length := by
  obtain ⟨ys, rfl, h1, _⟩ := h
  have := h1.1
  rw [rowS_length] at this
  simp; omega
theorem OwnS.nil (w : World) (T : TypeId) (base : Nat) : OwnS w T base (.slice none 0 0) 0 [] := ⟨[], rfl, World.ownsRow_nil _ _ _ _, by simp⟩
theorem OwnS.on {w w' : World} {T : TypeId} {base : Nat} {v : Value} {n : Nat} {xs : List S} (h : OwnS w T base v n xs) (hb : Below w.heap.size w w') : OwnS w' T base v n xs := by
  obtain ⟨ys, h0, h1, h2⟩ := h
  exact ⟨ys, h0, (Mod.of_below (T := fun _ => False) hb).own h1 (fun _ _ h => h), fun y hy => by
    obtain ⟨q1, q2, q3, q4, q5, q6⟩ := h2 y hy
    exact ⟨q1, q2, q3, q4, q5.on hb, q6⟩⟩
theorem add2 (g j : Nat) : (⟨g, 0, none⟩ : Addr).add j = ⟨g, 0 + j, none⟩ := by
  unfold Addr.add; split
  · next h => subst h; rfl
  · simp
/-- What the row is told as. -/
theorem OwnS.tell {w : World} {T : TypeId} {base : Nat} {v : Value} {n : Nat} {xs : List S} (h : OwnS w T base v n xs) : ∃ A c, v = .slice A xs.length c ∧ xs.length ≤ c ∧ c ≤ maxLen ∧ HasS w w.heap.size A xs := by
  have hn := h.len
  obtain ⟨ys, h0, h1, h2⟩ := h
  subst hn
  rcases h1.2 with ⟨rfl, h3⟩ | ⟨g, cap, cur, rfl, hb, hh, hc, hm, _, htk⟩
  · have : xs = [] := List.eq_nil_of_length_eq_zero h3
    subst this
    exact ⟨none, 0, rfl, Nat.le_refl _, by unfold maxLen; omega, HasS.nil _ _ _⟩
  · refine ⟨_, cap, rfl, hc, hm, fun k x hk => ?_⟩
    rw [← h0, List.getElem?_map, Option.map_eq_some_iff] at hk
    obtain ⟨y, hy, rfl⟩ := hk
    obtain ⟨q1, q2, q3, q4, q5, q6⟩ := h2 y (List.mem_of_getElem? hy)
    have hg : g < w.heap.size := (Array.getElem?_eq_some_iff.1 hh).1
    refine ⟨g, 0, y.2.1, y.2.2, rfl, hg, q1, q2, q3, q4, q5, ?_, ?_⟩
    · have := h1.cells (g := g) rfl (k * 2 + 0) _ (rowS_at ys k y hy 0 _ rfl)
      rwa [add2] at this
    · have := h1.cells (g := g) rfl (k * 2 + 1) _ (rowS_at ys k y hy 1 _ rfl)
      rw [add2] at this
      exact this
set_option maxRecDepth 100000 in
/-- One section more. -/
theorem append1s {P : Program} (T ST : TypeId) (hu : P.underlying ST = some (.slice T)) (hinf : (P.info? T).map (fun i => (i.zero, i.size, i.bytes)) = some (some (.agg #[.int .u8 0, .slice none 0 0]), 2, 32))
    (w : World) (base n : Nat) (v : Value) (xs : List S) (x : S) (A : Option Addr) (c : Nat) (hown : OwnS w T base v n xs) (hsz : n + 1 ≤ 4000000000000) (hb : base ≤ w.heap.size)
    (hx : x.id < 256 ∧ x.b.length ≤ c ∧ c ≤ maxLen ∧ (A = none → c = 0) ∧ Has w w.heap.size A x.b) (hs : ∀ ad, A = some ad → x.b ≠ [] → v.ownBlock ≠ some ad.block) :
    ∃ v' w', (Builtin.append_ #[ST, ST] ST #[v, .slice (some ⟨w.heap.size, 0, none⟩) 1 1]).run P (w.alloc (.cells (secCells x A c).toArray T)) = .ok v' w' ∧ OwnS w' T base v' (n + 1) (xs ++ [x]) ∧ Mod (fun g => v.ownBlock = some g) w w' ∧ ∀ g, v'.ownBlock = some g → v.ownBlock = some g ∨ w.heap.size ≤ g := by
  obtain ⟨i0, hi, hz0, hz1, hz2⟩ := info_parts hinf
  obtain ⟨ys, h0, h1, h2⟩ := hown
  have hown1 := h1.alloc (.cells (secCells x A c).toArray T)
  obtain ⟨v', w', hrun, h3, h4, _⟩ := run_append_own (P := P) (w.alloc (.cells (secCells x A c).toArray T)) base ST ST T i0 _ 2 32 hu hi hz0 hz1 hz2 rfl (by decide) v n (rowS ys) hown1 ⟨w.heap.size, 0, none⟩ 1 1 (secCells x A c) rfl (cells_new w _ _) (secCells_one x A c) (by unfold maxLen; omega) (by omega) (by simp; omega)
  have ht := append_tight (P := P) _ base ST ST T i0 _ 2 32 hu hi hz0 hz1 hz2 v n (rowS ys) hown1 ⟨w.heap.size, 0, none⟩ 1 1 (secCells x A c) rfl (cells_new w _ _) (secCells_one x A c) (by omega) (by unfold maxLen; omega) (by omega) hrun
  have hM : Mod (fun g => v.ownBlock = some g) w w' := ((Mod.refl _ w).alloc _).trans (T' := fun g => v.ownBlock = some g) (Mod.of_grown h4 (fun _ h => h)) (fun _ _ h => h)
  have ht2 : ∀ g, v'.ownBlock = some g → v.ownBlock = some g ∨ w.heap.size ≤ g := fun g hg => by
    rcases ht g hg with h | h
    · exact .inl h
    · exact .inr (by simp at h; omega)
  have hkeep : ∀ (A : Option Addr) (l : List UInt8), Has w w.heap.size A l → (∀ ad, A = some ad → l ≠ [] → v.ownBlock ≠ some ad.block) → Has w' w'.heap.size A l := fun A l hh hn k y hk => by
    obtain ⟨ad, e1, e2, e3⟩ := hh k y hk
    have hbk : (ad.add k).block = ad.block := by unfold Addr.add; split <;> rfl
    exact ⟨ad, e1, Nat.lt_of_lt_of_le e2 hM.size, hM.cell e3 (by rw [hbk]; exact hn ad e1 (fun e => by rw [e] at hk; simp at hk))⟩
  have hnew : ∀ (A : Option Addr) (l : List UInt8), Has w w.heap.size A l → (∀ ad, A = some ad → l ≠ [] → v.ownBlock ≠ some ad.block) → ∀ ad, A = some ad → l ≠ [] → v'.ownBlock ≠ some ad.block := fun A l hh hn ad had hl e => by
    obtain ⟨a, r, hl2⟩ := List.exists_cons_of_ne_nil hl
    obtain ⟨ad2, e1, e2, _⟩ := hh 0 a (by rw [hl2]; rfl)
    rw [had] at e1
    injection e1 with e1
    subst e1
    rcases ht2 _ e with h | h
    · exact hn ad had hl h
    · omega
  refine ⟨v', w', hrun, ⟨ys ++ [(x, A, c)], by simp [h0], by rw [rowS_append]; simpa [rowS] using h3, fun y hy => ?_⟩, hM, ht2⟩
  rcases List.mem_append.1 hy with hy | hy
  · obtain ⟨q1, q2, q3, q4, q5, q6⟩ := h2 y hy
    exact ⟨q1, q2, q3, q4, hkeep _ _ q5 q6, hnew _ _ q5 q6⟩
  · simp at hy; subst hy
    exact ⟨hx.1, hx.2.1, hx.2.2.1, hx.2.2.2.1, hkeep _ _ hx.2.2.2.2 hs, hnew _ _ hx.2.2.2.2 hs⟩
theorem own_blk {w : World} {T : TypeId} {base : Nat} {v : Value} {n : Nat} {xs : List S} (h : OwnS w T base v n xs) : ∀ g, v.ownBlock = some g → base ≤ g ∧ g < w.heap.size := by
  obtain ⟨ys, _, h1, _⟩ := h
  exact fun g hg => ⟨own_ge h1 g hg, own_lt h1 g hg⟩
end Go.Proofs.YtgnbkfkiigcdgaaGreatDoor
/-
  Layer 5's small functions: the document's Begin and E; sections in the document's type; whether sections are the document's. (gen/secref.py)
-/
namespace Go.Proofs.YtgnbkfkiigcdgaaGreatDoor
open Go.RowKit Sec
theorem cells2 {w : World} {X : Nat} {x0 x1 : Value} {t : TypeId} (h : w.heap[X]? = some (.cells #[x0, x1] t (0, 0))) : w.cell? ⟨X, 0, none⟩ = some x0 ∧ w.cell? ⟨X, 1, none⟩ = some x1 := by
  refine ⟨?_, ?_⟩ <;> (rw [cell_of_row w X _ _ t (0, 0) h]; rfl)
theorem byteN (n : Nat) (h : n < 256) : ((UInt8.ofNat n).toNat : Int) = (n : Int) := by rw [nat_of n h]
theorem begin_any (w : World) : Calls Tryz.prog 13 #[] w fun e w' => ∃ v, e = .returned v ∧ w'.ownsRow w.heap.size 5 1 v begin8.length (bytesOf begin8) ∧ Below w.heap.size w w' := by
  have HO : Hid ((w.alloc (.cells #[.int .u8 0, .int .u8 97, .int .u8 115, .int .u8 109, .int .u8 1, .int .u8 0, .int .u8 0, .int .u8 0] 5)).ownsRow w.heap.size 5 1 (.slice (some ⟨w.heap.size, 0, none⟩) 8 8) begin8.length (bytesOf begin8)) := Lib.hid (World.ownsRow_lit w _ 8 (Nat.le_refl _) (by unfold maxLen; omega) rfl)
  have HB : Hid (Below w.heap.size w (w.alloc (.cells #[.int .u8 0, .int .u8 97, .int .u8 115, .int .u8 109, .int .u8 1, .int .u8 0, .int .u8 0, .int .u8 0] 5))) := Lib.hid ((Below.refl _ _).alloc (Nat.le_refl _) _)
  go_enter Tryz.func13, Tryz.ntmps13
  go_wp2_with fail
  go_ret
  exact ⟨_, rfl, HO.out, HB.out⟩
end Go.Proofs.YtgnbkfkiigcdgaaGreatDoor
/-
  What the document's Encode calls: an entry of any section; how many there are; a section laid behind bytes. (gen/encall.py)
-/
namespace Go.Proofs.YtgnbkfkiigcdgaaGreatDoor
open Go.RowKit Ins Bin
theorem hasL_all {α : Type} [Lay α] {w : World} {S : Nat → Prop} {A : Option Addr} {xs : List α} (h : HasL w S A xs) : ∀ x ∈ xs, ∃ cs, Lay.rep w S x cs := fun x hx => by
  obtain ⟨k, hk⟩ := List.mem_iff_getElem?.1 hx
  obtain ⟨_, _, cs, _, _, _, hr, _⟩ := h k x hk
  exact ⟨cs, hr⟩
theorem sliceV_all {α : Type} [Lay α] {w : World} {S : Nat → Prop} {xs : List α} {v : Value} (h : SliceV w S xs v) : ∀ x ∈ xs, ∃ cs, Lay.rep w S x cs := by
  obtain ⟨_, _, _, _, _, _, h⟩ := h
  exact hasL_all h
theorem ins_wf {w : World} {S : Nat → Prop} {xs : List I} {v : Value} (h : SliceV w S xs v) : ∀ y ∈ xs, y.wf := fun y hy => by
  obtain ⟨_, _, _, _, hw, _⟩ := sliceV_all h y hy
  exact hw
theorem nums_wf {w : World} {S : Nat → Prop} {xs : List Nat} {v : Value} (h : SliceV w S xs v) : ∀ y ∈ xs, y < 4294967296 := fun y hy => by
  obtain ⟨_, _, hw⟩ := sliceV_all h y hy
  exact hw
/-- A module in memory is fine. -/
theorem RepM.fine {w : World} {S : Nat → Prop} {m : M} {v1 v2 v3 v4 v5 v6 v7 v8 v9 v10 : Value} (h : RepM w S m v1 v2 v3 v4 v5 v6 v7 v8 v9 v10) : Fine m where
  imports x hx := by
    obtain ⟨_, _, h1, h2, _⟩ := sliceV_all h.imports x hx
    exact ⟨h1, h2⟩
  funcs := nums_wf h.funcs
  tables x hx := by
    obtain ⟨_, _, h1, _⟩ := sliceV_all h.tables x hx
    exact h1
  mems x hx := by
    obtain ⟨_, _, h1, _⟩ := sliceV_all h.mems x hx
    exact h1
  globals x hx := by
    obtain ⟨_, _, _, h1⟩ := sliceV_all h.globals x hx
    exact ins_wf h1
  exports x hx := by
    obtain ⟨_, _, h1⟩ := sliceV_all h.exports x hx
    exact h1
  start := h.start
  elems x hx := by
    obtain ⟨_, _, _, _, h1, h2, h3⟩ := sliceV_all h.elems x hx
    exact ⟨h1, ins_wf h2, nums_wf h3⟩
  codes x hx := by
    obtain ⟨_, _, _, _, h1, h2⟩ := sliceV_all h.codes x hx
    refine ⟨fun y hy => ?_, ins_wf h2⟩
    obtain ⟨_, _, h3⟩ := sliceV_all h1 y hy
    exact h3
  datas x hx := by
    obtain ⟨_, _, _, _, h1, h2, _⟩ := sliceV_all h.datas x hx
    exact ⟨h1, ins_wf h2⟩
/-- An entry of any section. -/
theorem bentry_any (m : M) (v1 v2 v3 v4 v5 v6 v7 v8 v9 v10 : Value) (w : World) (hM : RepM w (· < w.heap.size) m v1 v2 v3 v4 v5 v6 v7 v8 v9 v10) (hS : Small m) (id i : Nat) (hid : id ∈ ids) (r : Bool × List UInt8) (hr : (rows m id)[i]? = some r) :
    Calls Tryz.prog 19 #[.agg (modCells m v1 v2 v3 v4 v5 v6 v7 v8 v9 v10), .int .u8 (id : Int), .int .i64 (i : Int)] w (BResN 3000000000 r.1 r.2 w) := by
  rcases id_cases hid with rfl | rfl | rfl | rfl | rfl | rfl | rfl | rfl | rfl | rfl | rfl
  · obtain ⟨x, hx, rfl⟩ : ∃ x, m.types[i]? = some x ∧ _ = r := by
      have h := hr
      rw [show rows m 1 = m.types.map _ from rfl, List.getElem?_map, Option.map_eq_some_iff] at h
      exact h
    have hxm := List.mem_of_getElem? hx
    obtain ⟨A, c, rfl, _, _, _, hL⟩ := hM.types
    exact bentry_types _ _ _ _ _ _ _ _ _ _ _ A _ c m.types x i w hL rfl hx (hS.types x hxm)
  · obtain ⟨x, hx, rfl⟩ : ∃ x, m.imports[i]? = some x ∧ _ = r := by
      have h := hr
      rw [show rows m 2 = m.imports.map _ from rfl, List.getElem?_map, Option.map_eq_some_iff] at h
      exact h
    have hxm := List.mem_of_getElem? hx
    obtain ⟨A, c, rfl, _, _, _, hL⟩ := hM.imports
    exact bentry_imports _ _ _ _ _ _ _ _ _ _ _ A _ c m.imports x i w hL rfl hx (hS.imports x hxm)
  · obtain ⟨x, hx, rfl⟩ : ∃ x, m.funcs[i]? = some x ∧ _ = r := by
      have h := hr
      rw [show rows m 3 = m.funcs.map _ from rfl, List.getElem?_map, Option.map_eq_some_iff] at h
      exact h
    have hxm := List.mem_of_getElem? hx
    obtain ⟨A, c, rfl, _, _, _, hL⟩ := hM.funcs
    exact bentry_funcs _ _ _ _ _ _ _ _ _ _ _ A _ c m.funcs x i w hL rfl hx
  · obtain ⟨x, hx, rfl⟩ : ∃ x, m.tables[i]? = some x ∧ _ = r := by
      have h := hr
      rw [show rows m 4 = m.tables.map _ from rfl, List.getElem?_map, Option.map_eq_some_iff] at h
      exact h
    have hxm := List.mem_of_getElem? hx
    obtain ⟨A, c, rfl, _, _, _, hL⟩ := hM.tables
    exact bentry_tables _ _ _ _ _ _ _ _ _ _ _ A _ c m.tables x i w hL rfl hx
  · obtain ⟨x, hx, rfl⟩ : ∃ x, m.mems[i]? = some x ∧ _ = r := by
      have h := hr
      rw [show rows m 5 = m.mems.map _ from rfl, List.getElem?_map, Option.map_eq_some_iff] at h
      exact h
    have hxm := List.mem_of_getElem? hx
    obtain ⟨A, c, rfl, _, _, _, hL⟩ := hM.mems
    exact bentry_mems _ _ _ _ _ _ _ _ _ _ _ A _ c m.mems x i w hL rfl hx
  · obtain ⟨x, hx, rfl⟩ : ∃ x, m.globals[i]? = some x ∧ _ = r := by
      have h := hr
      rw [show rows m 6 = m.globals.map _ from rfl, List.getElem?_map, Option.map_eq_some_iff] at h
      exact h
    have hxm := List.mem_of_getElem? hx
    obtain ⟨A, c, rfl, _, _, _, hL⟩ := hM.globals
    exact bentry_globals _ _ _ _ _ _ _ _ _ _ _ A _ c m.globals x i w hL rfl hx (hS.globals x hxm)
  · obtain ⟨x, hx, rfl⟩ : ∃ x, m.exports[i]? = some x ∧ _ = r := by
      have h := hr
      rw [show rows m 7 = m.exports.map _ from rfl, List.getElem?_map, Option.map_eq_some_iff] at h
      exact h
    have hxm := List.mem_of_getElem? hx
    obtain ⟨A, c, rfl, _, _, _, hL⟩ := hM.exports
    exact bentry_exports _ _ _ _ _ _ _ _ _ _ _ A _ c m.exports x i w hL rfl hx (hS.exports x hxm)
  · cases hr
  · obtain ⟨x, hx, rfl⟩ : ∃ x, m.elems[i]? = some x ∧ _ = r := by
      have h := hr
      rw [show rows m 9 = m.elems.map _ from rfl, List.getElem?_map, Option.map_eq_some_iff] at h
      exact h
    have hxm := List.mem_of_getElem? hx
    obtain ⟨A, c, rfl, _, _, _, hL⟩ := hM.elems
    exact bentry_elems _ _ _ _ _ _ _ _ _ _ _ A _ c m.elems x i w hL rfl hx (hS.elems x hxm)
  · obtain ⟨x, hx, rfl⟩ : ∃ x, m.codes[i]? = some x ∧ _ = r := by
      have h := hr
      rw [show rows m 10 = m.codes.map _ from rfl, List.getElem?_map, Option.map_eq_some_iff] at h
      exact h
    have hxm := List.mem_of_getElem? hx
    obtain ⟨A, c, rfl, _, _, _, hL⟩ := hM.codes
    exact bentry_codes _ _ _ _ _ _ _ _ _ _ _ A _ c m.codes x i w hL rfl hx (hS.codes x hxm)
  · obtain ⟨x, hx, rfl⟩ : ∃ x, m.datas[i]? = some x ∧ _ = r := by
      have h := hr
      rw [show rows m 11 = m.datas.map _ from rfl, List.getElem?_map, Option.map_eq_some_iff] at h
      exact h
    have hxm := List.mem_of_getElem? hx
    obtain ⟨A, c, rfl, _, _, _, hL⟩ := hM.datas
    exact bentry_datas _ _ _ _ _ _ _ _ _ _ _ A _ c m.datas x i w hL rfl hx (hS.datas x hxm)
set_option maxRecDepth 100000 in
set_option maxHeartbeats 4000000 in
theorem bcount_low (n1 c1 n2 c2 n3 c3 n4 c4 n5 c5 n6 c6 n7 c7 n9 c9 n10 c10 n11 c11 : Nat) (A1 A2 A3 A4 A5 A6 A7 A9 A10 A11 : Option Addr) (hs : Bool) (st : Int) (w : World) (id n : Nat) (hn : (#[0, n1, n2, n3, n4, n5, n6, n7, 0, n9, n10, n11] : Array Nat)[id]? = some n) :
    Calls Tryz.prog 17 #[.agg #[.slice A1 n1 c1, .slice A2 n2 c2, .slice A3 n3 c3, .slice A4 n4 c4, .slice A5 n5 c5, .slice A6 n6 c6, .slice A7 n7 c7, .bool hs, .int .u32 st, .slice A9 n9 c9, .slice A10 n10 c10, .slice A11 n11 c11], .int .u8 (id : Int)] w fun e w' => e = .returned (.int .i64 (n : Int)) ∧ Below w.heap.size w w' := by
  have hid : id < 12 := by
    have := (Array.getElem?_eq_some_iff.1 hn).1
    simpa using this
  have HX0 : Hid ((w.alloc (.cells #[.slice A1 n1 c1, .slice A2 n2 c2, .slice A3 n3 c3, .slice A4 n4 c4, .slice A5 n5 c5, .slice A6 n6 c6, .slice A7 n7 c7, .bool hs, .int .u32 st, .slice A9 n9 c9, .slice A10 n10 c10, .slice A11 n11 c11] 33)).heap[w.heap.size]? = some (.cells #[.slice A1 n1 c1, .slice A2 n2 c2, .slice A3 n3 c3, .slice A4 n4 c4, .slice A5 n5 c5, .slice A6 n6 c6, .slice A7 n7 c7, .bool hs, .int .u32 st, .slice A9 n9 c9, .slice A10 n10 c10, .slice A11 n11 c11] 33 (0, 0))) := Lib.hid (heap_alloc_new w _)
  have HB0 : Hid (Below w.heap.size w (w.alloc (.cells #[.slice A1 n1 c1, .slice A2 n2 c2, .slice A3 n3 c3, .slice A4 n4 c4, .slice A5 n5 c5, .slice A6 n6 c6, .slice A7 n7 c7, .bool hs, .int .u32 st, .slice A9 n9 c9, .slice A10 n10 c10, .slice A11 n11 c11] 33))) := Lib.hid ((Below.refl _ _).alloc (Nat.le_refl _) _)
  go_enter Tryz.func17, Tryz.ntmps17
  go_upto_region 1 with fail
  generalize (w.alloc (.cells #[.slice A1 n1 c1, .slice A2 n2 c2, .slice A3 n3 c3, .slice A4 n4 c4, .slice A5 n5 c5, .slice A6 n6 c6, .slice A7 n7 c7, .bool hs, .int .u32 st, .slice A9 n9 c9, .slice A10 n10 c10, .slice A11 n11 c11] 33)) = w0 at HX0 HB0 ⊢
  obtain ⟨y0, y1, y2, y3, y4, y5, y6, y7, y8, y9, y10, y11⟩ : w0.cell? ⟨w.heap.size, 0, none⟩ = some (.slice A1 n1 c1) ∧ w0.cell? ⟨w.heap.size, 1, none⟩ = some (.slice A2 n2 c2) ∧ w0.cell? ⟨w.heap.size, 2, none⟩ = some (.slice A3 n3 c3) ∧ w0.cell? ⟨w.heap.size, 3, none⟩ = some (.slice A4 n4 c4) ∧ w0.cell? ⟨w.heap.size, 4, none⟩ = some (.slice A5 n5 c5) ∧ w0.cell? ⟨w.heap.size, 5, none⟩ = some (.slice A6 n6 c6) ∧ w0.cell? ⟨w.heap.size, 6, none⟩ = some (.slice A7 n7 c7) ∧ w0.cell? ⟨w.heap.size, 7, none⟩ = some (.bool hs) ∧ w0.cell? ⟨w.heap.size, 8, none⟩ = some (.int .u32 st) ∧ w0.cell? ⟨w.heap.size, 9, none⟩ = some (.slice A9 n9 c9) ∧ w0.cell? ⟨w.heap.size, 10, none⟩ = some (.slice A10 n10 c10) ∧ w0.cell? ⟨w.heap.size, 11, none⟩ = some (.slice A11 n11 c11) := ⟨by rw [cell_of_row w0 _ 0 _ _ (0, 0) HX0.out]; rfl, by rw [cell_of_row w0 _ 1 _ _ (0, 0) HX0.out]; rfl, by rw [cell_of_row w0 _ 2 _ _ (0, 0) HX0.out]; rfl, by rw [cell_of_row w0 _ 3 _ _ (0, 0) HX0.out]; rfl, by rw [cell_of_row w0 _ 4 _ _ (0, 0) HX0.out]; rfl, by rw [cell_of_row w0 _ 5 _ _ (0, 0) HX0.out]; rfl, by rw [cell_of_row w0 _ 6 _ _ (0, 0) HX0.out]; rfl, by rw [cell_of_row w0 _ 7 _ _ (0, 0) HX0.out]; rfl, by rw [cell_of_row w0 _ 8 _ _ (0, 0) HX0.out]; rfl, by rw [cell_of_row w0 _ 9 _ _ (0, 0) HX0.out]; rfl, by rw [cell_of_row w0 _ 10 _ _ (0, 0) HX0.out]; rfl, by rw [cell_of_row w0 _ 11 _ _ (0, 0) HX0.out]; rfl⟩
  go_upto_region 2 with fail
  have HX1 := heap_alloc_new w0 (.cells #[.int .i64 0, .int .i64 (n1 : Int), .int .i64 (n2 : Int), .int .i64 (n3 : Int), .int .i64 (n4 : Int), .int .i64 (n5 : Int), .int .i64 (n6 : Int), .int .i64 (n7 : Int), .int .i64 0, .int .i64 (n9 : Int), .int .i64 (n10 : Int), .int .i64 (n11 : Int)] 3)
  have hcell : (w0.alloc (.cells #[.int .i64 0, .int .i64 (n1 : Int), .int .i64 (n2 : Int), .int .i64 (n3 : Int), .int .i64 (n4 : Int), .int .i64 (n5 : Int), .int .i64 (n6 : Int), .int .i64 (n7 : Int), .int .i64 0, .int .i64 (n9 : Int), .int .i64 (n10 : Int), .int .i64 (n11 : Int)] 3)).cell? ⟨w0.heap.size, id, none⟩ = some (.int .i64 (n : Int)) := by
    rw [cell_of_row _ _ id _ _ (0, 0) HX1]
    clear HX1 HX0 HB0 y0 y1 y2 y3 y4 y5 y6 y7 y8 y9 y10 y11
    have hk : id = 0 ∨ id = 1 ∨ id = 2 ∨ id = 3 ∨ id = 4 ∨ id = 5 ∨ id = 6 ∨ id = 7 ∨ id = 8 ∨ id = 9 ∨ id = 10 ∨ id = 11 := by omega
    rcases hk with rfl | rfl | rfl | rfl | rfl | rfl | rfl | rfl | rfl | rfl | rfl | rfl <;> (injection hn with hn; subst hn; rfl)
  have HB1 := Lib.hid ((HB0.out.alloc HB0.out.size (.cells #[.int .i64 0, .int .i64 (n1 : Int), .int .i64 (n2 : Int), .int .i64 (n3 : Int), .int .i64 (n4 : Int), .int .i64 (n5 : Int), .int .i64 (n6 : Int), .int .i64 (n7 : Int), .int .i64 0, .int .i64 (n9 : Int), .int .i64 (n10 : Int), .int .i64 (n11 : Int)] 3)))
  clear HX1 hn y0 y1 y2 y3 y4 y5 y6 y7 y8 y9 y10 y11
  have hid2 : (id : Int) < 12 := by omega
  generalize w0.alloc (.cells #[.int .i64 0, .int .i64 (n1 : Int), .int .i64 (n2 : Int), .int .i64 (n3 : Int), .int .i64 (n4 : Int), .int .i64 (n5 : Int), .int .i64 (n6 : Int), .int .i64 (n7 : Int), .int .i64 0, .int .i64 (n9 : Int), .int .i64 (n10 : Int), .int .i64 (n11 : Int)] 3) = w1 at hcell HB1 ⊢
  go_wp2_with fail
  go_ret
  exact ⟨rfl, HB1.out⟩
theorem bcount_any (m : M) (v1 v2 v3 v4 v5 v6 v7 v8 v9 v10 : Value) (w : World) (hM : RepM w (· < w.heap.size) m v1 v2 v3 v4 v5 v6 v7 v8 v9 v10) (id : Nat) (hid : id ∈ ids) :
    Calls Tryz.prog 17 #[.agg (modCells m v1 v2 v3 v4 v5 v6 v7 v8 v9 v10), .int .u8 (id : Int)] w fun e w' => e = .returned (.int .i64 ((rows m id).length : Int)) ∧ Below w.heap.size w w' := by
  obtain ⟨A1, c1, rfl, _, _, _, _⟩ := hM.types
  obtain ⟨A2, c2, rfl, _, _, _, _⟩ := hM.imports
  obtain ⟨A3, c3, rfl, _, _, _, _⟩ := hM.funcs
  obtain ⟨A4, c4, rfl, _, _, _, _⟩ := hM.tables
  obtain ⟨A5, c5, rfl, _, _, _, _⟩ := hM.mems
  obtain ⟨A6, c6, rfl, _, _, _, _⟩ := hM.globals
  obtain ⟨A7, c7, rfl, _, _, _, _⟩ := hM.exports
  obtain ⟨A9, c9, rfl, _, _, _, _⟩ := hM.elems
  obtain ⟨A10, c10, rfl, _, _, _, _⟩ := hM.codes
  obtain ⟨A11, c11, rfl, _, _, _, _⟩ := hM.datas
  refine bcount_low _ c1 _ c2 _ c3 _ c4 _ c5 _ c6 _ c7 _ c9 _ c10 _ c11 A1 A2 A3 A4 A5 A6 A7 A9 A10 A11 m.hasStart m.start w id _ ?_
  rcases id_cases hid with rfl | rfl | rfl | rfl | rfl | rfl | rfl | rfl | rfl | rfl | rfl <;> simp [rows]
/-- A section laid behind bytes of the call's own: its number, its length, what it has. -/
theorem sec_add (W : World) (base base2 id : Nat) (u b : Value) (l lb : List UInt8) (hu : W.ownsRow base 5 1 u l.length (bytesOf l)) (hb : W.ownsRow base2 5 1 b lb.length (bytesOf lb)) (hsep : ∀ k, u.ownBlock = some k → k < base2) (hid : id < 256) (hB : base ≤ W.heap.size) (hl : l.length ≤ 121000000000000) (hlb : lb.length ≤ 13000000000000) :
    ∃ v1 w1, (Builtin.append_ #[36, 36] 36 #[u, .slice (some ⟨W.heap.size, 0, none⟩) 1 1]).run Tryz.prog (W.alloc (.cells #[.int .u8 (id : Int)] 5)) = .ok v1 w1 ∧ Below base W w1 ∧
      ∀ W2 v7, Below w1.heap.size w1 W2 → W2.ownsRow w1.heap.size 5 1 v7 (Leb.encU lb.length).length (bytesOf (Leb.encU lb.length)) → ∃ A n c v2 w2 v3 w3, v7 = .slice A n c ∧ (Builtin.append_ #[36, 36] 36 #[v1, .slice A n c]).run Tryz.prog W2 = .ok v2 w2 ∧
        (Builtin.append_ #[36, 36] 36 #[v2, b]).run Tryz.prog w2 = .ok v3 w3 ∧ w3.ownsRow base 5 1 v3 (l ++ Sec.enc ⟨id, lb⟩).length (bytesOf (l ++ Sec.enc ⟨id, lb⟩)) ∧ Below base W w3 := by
  obtain ⟨v1, w1, hr1, ha1⟩ := append1_adds W base u l (UInt8.ofNat id) hu (by omega) hB
  rw [show ((UInt8.ofNat id).toNat) = id from by rw [UInt8.toNat_ofNat']; omega] at hr1
  have hle := Leb.encU_le10 lb.length (by omega)
  have hb1 := ha1.below (own_ge hu) hB
  refine ⟨v1, w1, hr1, hb1, fun W2 v7 h2 ho7 => ?_⟩
  have hbk : ∀ k, b.ownBlock = some k → base2 ≤ k ∧ k < W.heap.size := fun k hk => ⟨own_ge hb k hk, own_lt hb k hk⟩
  have hob1 := ha1.2.1.own hb (fun k hk e => by have := hsep k e; have := hbk k hk; omega)
  have hob2 := (Mod.of_below (T := fun _ => False) h2).own hob1 (fun _ _ h => h)
  obtain ⟨A, c, n, v2, w2, rfl, hr2, ha2⟩ := own_app W2 base w1.heap.size v1 v7 (l ++ [UInt8.ofNat id]) (Leb.encU lb.length) ((Mod.of_below (T := fun _ => False) h2).own ha1.1 (fun _ _ h => h)) ho7 (by simp; omega) (Nat.le_trans hb1.size h2.size |> Nat.le_trans hB)
  have hob3 := ha2.2.1.own hob2 (fun k hk e => by
    have h3 := hbk k hk
    rcases ha1.2.2 k e with h | h
    · have := hsep k h; omega
    · omega)
  obtain ⟨A7, c7, rfl, _, _, _, _, hh⟩ := own_sl hob3
  have hs2 : base ≤ W2.heap.size := Nat.le_trans hB (Nat.le_trans hb1.size h2.size)
  have hb2 := ha2.below (own_ge ((Mod.of_below (T := fun _ => False) h2).own ha1.1 (fun _ _ h => h))) hs2
  obtain ⟨v3, w3, hr3, ha3⟩ := appends_adds w2 base lb.length c7 v2 (l ++ [UInt8.ofNat id] ++ Leb.encU lb.length) lb A7 ha2.1 hh rfl (by simp; omega) (Nat.le_trans hs2 hb2.size)
  have hb3 := ha3.below (own_ge ha2.1) (Nat.le_trans hs2 hb2.size)
  have he : l ++ [UInt8.ofNat id] ++ Leb.encU lb.length ++ lb = l ++ Sec.enc ⟨id, lb⟩ := by simp [Sec.enc]
  rw [he] at ha3
  exact ⟨A, n, c, v2, w2, v3, w3, rfl, hr2, hr3, ha3.1, hb1.trans (((h2.mono (Nat.le_trans hB hb1.size)).trans hb2).trans hb3)⟩
end Go.Proofs.YtgnbkfkiigcdgaaGreatDoor
/-
  Layer 7's writer: what it has written so far; how a call of a method of it goes on.
-/
namespace Go.Proofs.YtgnbkfkiigcdgaaGreatDoor
open Go.RowKit Ins Bin
open Classical in
/-- What is written with this laid behind; nothing that counts, if that is of what has no bytes. -/
noncomputable def adv (s : Option (List UInt8)) (ok : Prop) (y : List UInt8) : Option (List UInt8) := if ok then s.map (· ++ y) else none
theorem adv_yes {s : Option (List UInt8)} {ok : Prop} {y : List UInt8} (h : ok) : adv s ok y = s.map (· ++ y) := by unfold adv; rw [if_pos h]
theorem adv_no {s : Option (List UInt8)} {ok : Prop} {y : List UInt8} (h : ¬ ok) : adv s ok y = none := by unfold adv; rw [if_neg h]
theorem adv_none {ok : Prop} {y : List UInt8} : adv none ok y = none := by unfold adv; split <;> rfl
theorem adv_adv {s : Option (List UInt8)} {p q : Prop} {y z : List UInt8} : adv (adv s p y) q z = adv s (p ∧ q) (y ++ z) := by
  by_cases hp : p
  · by_cases hq : q
    · rw [adv_yes hp, adv_yes hq, adv_yes ⟨hp, hq⟩]
      cases s with
      | none => rfl
      | some l => simp
    · rw [adv_no hq, adv_no (fun h => hq h.2)]
  · rw [adv_no hp, adv_none, adv_no (fun h => hp h.1)]
theorem adv_eq {s : Option (List UInt8)} {p q : Prop} {y z : List UInt8} (h : p ↔ q) (hy : q → y = z) : adv s p y = adv s q z := by
  by_cases hq : q
  · rw [adv_yes (h.2 hq), adv_yes hq, hy hq]
  · rw [adv_no (fun hp => hq (h.1 hp)), adv_no hq]
/-- The writer in block R: its bytes lie in the row v. -/
def WS (w : World) (R : Nat) (v : Value) (s : Option (List UInt8)) : Prop :=
  ∃ bs : List UInt8, w.heap[R]? = some (.cells #[v, .bool s.isNone] 104 (0, 0)) ∧ w.ownsRow R 5 1 v bs.length (bytesOf bs) ∧ bs.length ≤ 65536 ∧ 2 ≤ R ∧
    ∀ l, s = some l → l.length ≤ 65536 ∧ bs = l ∨ 65536 < l.length ∧ bs.length = 65536
theorem WS.two {w : World} {R : Nat} {v : Value} {s : Option (List UInt8)} (h : WS w R v s) : 2 ≤ R := by
  obtain ⟨_, _, _, _, h, _⟩ := h
  exact h
theorem WS.lt {w : World} {R : Nat} {v : Value} {s : Option (List UInt8)} (h : WS w R v s) : R < w.heap.size := by
  obtain ⟨_, h, _⟩ := h
  exact (Array.getElem?_eq_some_iff.1 h).1
theorem WS.ge {w : World} {R : Nat} {v : Value} {s : Option (List UInt8)} (h : WS w R v s) : ∀ k, v.ownBlock = some k → R ≤ k := by
  obtain ⟨_, _, h, _⟩ := h
  exact own_ge h
theorem WS.own_lt {w : World} {R : Nat} {v : Value} {s : Option (List UInt8)} (h : WS w R v s) : ∀ k, v.ownBlock = some k → k < w.heap.size := by
  obtain ⟨_, _, h, _⟩ := h
  exact Go.Proofs.YtgnbkfkiigcdgaaGreatDoor.own_lt h
theorem own_ne {w : World} {R n : Nat} {v : Value} {xs : List Value} {cs : Array Value} (h : w.heap[R]? = some (.cells cs 104 (0, 0))) (ho : w.ownsRow R 5 1 v n xs) : v.ownBlock ≠ some R := by
  intro e
  rcases ho.2 with ⟨rfl, _⟩ | ⟨g, cap, cur, rfl, _, hg, _⟩
  · cases e
  · injection e with e
    subst e
    rw [h] at hg
    injection hg with hg
    injection hg with _ hg
    exact absurd hg (by decide)
/-- Of the blocks that were there the writer's own have changed alone. -/
def WMod (R : Nat) (w : World) (v : Value) (w' : World) (v' : Value) : Prop :=
  Mod (fun k => k = R ∨ v.ownBlock = some k) w w' ∧ ∀ g, v'.ownBlock = some g → v.ownBlock = some g ∨ w.heap.size ≤ g
theorem WMod.refl (R : Nat) (w : World) (v : Value) : WMod R w v w v := ⟨Mod.refl _ _, fun _ h => .inl h⟩
theorem WMod.trans {R : Nat} {w w1 w2 : World} {v v1 v2 : Value} (h : WMod R w v w1 v1) (h2 : WMod R w1 v1 w2 v2) : WMod R w v w2 v2 := by
  refine ⟨h.1.trans h2.1 (fun k hk e => ?_), fun g hg => ?_⟩
  · rcases e with e | e
    · exact .inl e
    · rcases h.2 k e with e | e
      · exact .inr e
      · omega
  · rcases h2.2 g hg with e | e
    · exact h.2 g e
    · have := h.1.size
      exact .inr (by omega)
theorem WMod.on {R : Nat} {w w1 : World} (v : Value) (h : Below w.heap.size w w1) : WMod R w v w1 v := ⟨Mod.of_below h, fun _ h => .inl h⟩
theorem WS.on {w w1 : World} {R : Nat} {v : Value} {s : Option (List UInt8)} (h : WS w R v s) (hb : Below w.heap.size w w1) : WS w1 R v s := by
  obtain ⟨bs, h1, h2, h3⟩ := h
  have hm : Mod (fun _ => False) w w1 := Mod.of_below hb
  exact ⟨bs, hm.heap h1 (fun h => h), hm.own h2 (fun _ _ h => h), h3⟩
theorem WS.alloc {w : World} {R : Nat} {v : Value} {s : Option (List UInt8)} (h : WS w R v s) (o : Obj) : WS (w.alloc o) R v s := h.on ((Below.refl _ _).alloc (Nat.le_refl _) o)
/-- What lies below the writer stays. -/
theorem WMod.low {R : Nat} {w w1 : World} {v v1 : Value} {s : Option (List UInt8)} (h : WMod R w v w1 v1) (hs : WS w R v s) : Mod (R ≤ ·) w w1 :=
  h.1.more (fun k _ e => by
    rcases e with e | e
    · omega
    · exact hs.ge k e)
/-- A writer that has too much may have any that is too much. -/
theorem WS.sat {w : World} {R : Nat} {v : Value} {l l' : List UInt8} (h : WS w R v (some l)) (h1 : 65536 < l.length) (h2 : 65536 < l'.length) : WS w R v (some l') := by
  obtain ⟨bs, a1, a2, a3, a4, a5⟩ := h
  refine ⟨bs, a1, a2, a3, a4, fun l0 e => ?_⟩
  injection e with e
  subst e
  rcases a5 l rfl with h | h
  · omega
  · exact .inr ⟨h2, h.2⟩
/-- What a call of a writer's method comes to. -/
def EPost (R : Nat) (w : World) (v : Value) (s' : Option (List UInt8)) (e : Ending) (w' : World) : Prop := e = .returned (.tuple #[]) ∧ ∃ v', WS w' R v' s' ∧ WMod R w v w' v'
theorem EPost.ahead {R : Nat} {w w1 : World} {v : Value} {s' : Option (List UInt8)} (hb : Below w.heap.size w w1) {e : Ending} {w' : World} (h : EPost R w1 v s' e w') : EPost R w v s' e w' := by
  obtain ⟨rfl, v', h1, h2⟩ := h
  exact ⟨rfl, v', h1, (WMod.on v hb).trans h2⟩
theorem wp_appendW {P : Program} {o : Oper} {a : Act} {w : World} {K : Act → World → Prop} {Q : Exit → Act → World → Prop} (s x : Operand) (t : TypeId)
    (ho : o.op = .call { callee := .builtin .append, args := #[s, x], argTypes := #[t, t] }) (v u r : Value) (w' : World) (hs : a.eval s = v) (hx : a.eval x = u)
    (hrun : (Builtin.append_ #[t, t] o.type #[v, u]).run P w = .ok r w') (h : K (a.put o.dst r) w') : o.wp P a w K Q := by
  unfold Oper.wp execOp
  simp only [ho, resolve, invoke, builtin, Sem.run_bind, Sem.run_pure, Result.andThen_ok, List.map_toArray, List.map_cons, List.map_nil, hs, hx, hrun]
  exact h
/-- Bytes laid behind, as many as there is room for: the writer has them, or too much. -/
theorem ws_put {w w' : World} {R k : Nat} {v v' : Value} {s : Option (List UInt8)} {bs y : List UInt8} (h1 : w.heap[R]? = some (.cells #[v, .bool s.isNone] 104 (0, 0))) (h2 : w.ownsRow R 5 1 v bs.length (bytesOf bs)) (h3 : bs.length ≤ 65536) (h4 : 2 ≤ R)
    (h5 : ∀ l, s = some l → l.length ≤ 65536 ∧ bs = l ∨ 65536 < l.length ∧ bs.length = 65536) (hk : k = min y.length (65536 - bs.length)) (ha : Adds R w v w' v' (bs ++ y.take k)) :
    WS (w'.setCell ⟨R, 0, none⟩ v') R v' (adv s True y) ∧ WMod R w v (w'.setCell ⟨R, 0, none⟩ v') v' := by
  have hne := own_ne h1 h2
  have hR : w'.heap[R]? = some (.cells #[v, .bool s.isNone] 104 (0, 0)) := ha.2.1.heap h1 hne
  have hne' := own_ne hR ha.1
  have hlt : R < w.heap.size := (Array.getElem?_eq_some_iff.1 h1).1
  have hM : Mod (· = R) w' (w'.setCell ⟨R, 0, none⟩ v') := Mod.setCell (T := (· = R)) (Mod.refl _ w') (fun _ => rfl) v'
  refine ⟨⟨bs ++ y.take k, ?_, hM.own ha.1 (fun g hg e => hne' (by rw [hg, e])), ?_, h4, ?_⟩, ?_, ?_⟩
  · rw [heap_setCell_same w' R 0 _ _ _ hR]
    have : (adv s True y).isNone = s.isNone := by
      rw [adv_yes trivial]
      cases s <;> rfl
    rw [this]
    rfl
  · rw [List.length_append, List.length_take]
    omega
  · intro l e
    rw [adv_yes trivial] at e
    cases s with
    | none => cases e
    | some l0 =>
      injection e with e
      subst e
      have hl : (l0 ++ y).length = l0.length + y.length := List.length_append
      rcases h5 l0 rfl with ⟨q1, rfl⟩ | ⟨q1, q2⟩
      · by_cases hfit : y.length ≤ 65536 - bs.length
        · rw [hk, Nat.min_eq_left hfit, List.take_of_length_le (Nat.le_refl _)]
          by_cases hz : (bs ++ y).length ≤ 65536
          · exact .inl ⟨hz, rfl⟩
          · rw [hl] at hz; omega
        · exact .inr ⟨by rw [hl]; omega, by rw [List.length_append, List.length_take]; omega⟩
      · exact .inr ⟨by rw [hl]; omega, by rw [List.length_append, List.length_take]; omega⟩
  · exact (ha.2.1.more (fun _ _ h => .inr h)).trans (hM.more (T' := fun k => k = R ∨ v.ownBlock = some k) (fun _ _ h => .inl h)) (fun _ _ h => h)
  · exact ha.2.2
end Go.Proofs.YtgnbkfkiigcdgaaGreatDoor
/-
  Layer 7's writer: bytes laid behind what it has written. (gen/encw.py)
-/
namespace Go.Proofs.YtgnbkfkiigcdgaaGreatDoor
open Go.RowKit Ins Bin
set_option maxRecDepth 100000 in
set_option maxHeartbeats 4000000 in
theorem eput_any (R : Nat) (v : Value) (s : Option (List UInt8)) (A : Option Addr) (y : List UInt8) (n c : Nat) (w : World) (h : WS w R v s) (hA : Has w w.heap.size A y) (hn : n = y.length) (hc : n ≤ c) (hcm : c ≤ maxLen) :
    Calls Tryz.prog 125 #[.pointer (some ⟨R, 0, none⟩), .slice A n c] w (EPost R w v (adv s True y)) := by
  obtain ⟨bs, h1, h2, h3, h4, h5⟩ := h
  have HP := Lib.hid (fun w' v' k hk ha => ws_put (w := w) (w' := w') (R := R) (k := k) (v := v) (v' := v') (s := s) (bs := bs) (y := y) h1 h2 h3 h4 h5 hk ha)
  obtain ⟨k, hk⟩ : ∃ k, min y.length (65536 - bs.length) = k := ⟨_, rfl⟩
  have hkl : k = (y.take k).length := by rw [List.length_take]; omega
  obtain ⟨v1, w1, hrun, hadd⟩ := appends_adds w.drew R k c v bs (y.take k) A h2 (hA.take k) hkl (by rw [← hkl]; omega) (Nat.le_of_lt (Array.getElem?_eq_some_iff.1 h1).1)
  obtain ⟨A1, m1, c1, hv1⟩ : ∃ A1 m1 c1, v1 = .slice A1 m1 c1 := by
    obtain ⟨a, c, h, _⟩ := own_form hadd.1
    exact ⟨_, _, _, h⟩
  subst hv1
  have hadd' : Adds R w v w1 (.slice A1 m1 c1) (bs ++ y.take k) := ⟨hadd.1, ⟨hadd.2.1.os, hadd.2.1.tape, hadd.2.1.output, hadd.2.1.size, hadd.2.1.block⟩, hadd.2.2⟩
  have HQ := Lib.hid (HP.out w1 _ k hk.symm hadd')
  have h1' := hadd'.2.1.heap h1 (own_ne h1 h2)
  have HF1 := Lib.hid (frozen_of_row w1 R 0 _ _ h1')
  have hc1 : w1.cell? ⟨R, 0, none⟩ = some v := by rw [cell_of_row w1 R 0 _ _ (0, 0) h1']; rfl
  have HC1 := Lib.hid hc1
  obtain ⟨A0, c0, rfl, _, hc00, _, _, _⟩ := own_sl h2
  have h0 : w.cell? ⟨R, 0, none⟩ = some (.slice A0 bs.length c0) := by rw [cell_of_row w R 0 _ _ (0, 0) h1]; rfl
  have hf : w.frozen? ⟨R, 0, none⟩ = false := frozen_of_row w R 0 _ _ h1
  have HRUN := Lib.hid hrun
  have hcm' := hcm
  unfold maxLen at hcm'
  have hmin : min (n : Int) (65536 - (bs.length : Int)) = (k : Int) := by omega
  have hkc : k ≤ c := by omega
  have hki : (k : Int) ≤ (c : Int) := by omega
  have hwr : IntKind.i64.wrap (65536 - (bs.length : Int)) = 65536 - (bs.length : Int) := IntWalk.i64_in _ ⟨by omega, by omega⟩
  clear h1 h2 h4 h5 hk hkl hrun hadd hadd' h1' hc1 hcm hA HP
  obtain ⟨n0, hn0⟩ : ∃ n0, bs.length = n0 := ⟨_, rfl⟩
  rw [hn0] at h0 h3 hmin hwr HRUN HC1 HQ ⊢
  clear hn0 hn hc00
  go_enter Tryz.func125, Tryz.ntmps125
  go_upto_region 1 with fail
  refine wp_region_held_drew (S := fun _ => True) (by kernel_rfl) (trivial) (fun hHeld => ?_)
  refine dt 0 rfl (v := ?_) ?_ ?_
  rotate_left
  · (intro wy hSw; go_simp; try with_reducible rfl)
  simp only [Act.put, List.setIfInBounds_toArray, List.set_cons_zero, List.set_cons_succ]
  refine dt 1 rfl (v := ?_) ?_ ?_
  rotate_left
  · (intro wy hSw; go_simp; try with_reducible rfl)
  simp only [Act.put, List.setIfInBounds_toArray, List.set_cons_zero, List.set_cons_succ]
  refine dt 2 rfl (v := ?_) ?_ ?_
  rotate_left
  · (intro wy hSw; go_simp; try with_reducible rfl)
  simp only [Act.put, List.setIfInBounds_toArray, List.set_cons_zero, List.set_cons_succ]
  refine dt 3 rfl (v := ?_) ?_ ?_
  rotate_left
  · (intro wy hSw; go_simp; try with_reducible rfl)
  simp only [Act.put, List.setIfInBounds_toArray, List.set_cons_zero, List.set_cons_succ]
  refine dt 5 rfl (v := ?_) ?_ ?_
  rotate_left
  · (intro wy hSw; go_simp; try with_reducible rfl)
  simp only [Act.put, List.setIfInBounds_toArray, List.set_cons_zero, List.set_cons_succ]
  refine dt 6 rfl (v := ?_) ?_ ?_
  rotate_left
  · (intro wy hSw; go_simp; try with_reducible rfl)
  simp only [Act.put, List.setIfInBounds_toArray, List.set_cons_zero, List.set_cons_succ]
  refine dt 7 rfl (v := ?_) ?_ ?_
  rotate_left
  · (intro wy hSw; go_simp; try with_reducible rfl)
  simp only [Act.put, List.setIfInBounds_toArray, List.set_cons_zero, List.set_cons_succ]
  refine dt 8 rfl (v := ?_) ?_ ?_
  rotate_left
  · (intro wy hSw; go_simp; try with_reducible rfl)
  simp only [Act.put, List.setIfInBounds_toArray, List.set_cons_zero, List.set_cons_succ]
  refine dt 9 rfl (v := ?_) ?_ ?_
  rotate_left
  · (intro wy hSw; go_simp; try with_reducible rfl)
  simp only [Act.put, List.setIfInBounds_toArray, List.set_cons_zero, List.set_cons_succ]
  refine dt 10 rfl (v := ?_) ?_ ?_
  rotate_left
  · (intro wy hSw; go_simp; try with_reducible rfl)
  simp only [Act.put, List.setIfInBounds_toArray, List.set_cons_zero, List.set_cons_succ]
  refine drawn_sole 4 rfl (by kernel_rfl) (fun K hK => ?_)
  rw [if_pos]
  case hc => rfl
  go_simp
  refine hK.out _ _ trivial (fun hHeld2 => ?_)
  clear hK K hHeld2
  try simp only [Act.put, List.setIfInBounds_toArray, List.set_cons_zero, List.set_cons_succ]
  refine drawn_sole 11 rfl (by kernel_rfl) (fun K hK => ?_)
  rw [if_pos]
  case hc => rfl
  refine wp_appendW (.tmp 15) (.tmp 21) 36 rfl _ _ _ w1 rfl rfl HRUN.out ?_
  refine hK.out _ _ trivial (fun hHeld2 => ?_)
  clear hK K hHeld2
  try simp only [Act.put, List.setIfInBounds_toArray, List.set_cons_zero, List.set_cons_succ]
  have hc1 := HC1.out
  have hf1 := HF1.out
  refine dt 12 rfl (v := ?_) ?_ ?_
  rotate_left
  · (intro wy hSw; go_simp; try with_reducible rfl)
  simp only [Act.put, List.setIfInBounds_toArray, List.set_cons_zero, List.set_cons_succ]
  refine dt 13 rfl (v := ?_) ?_ ?_
  rotate_left
  · (intro wy hSw; go_simp; try with_reducible rfl)
  simp only [Act.put, List.setIfInBounds_toArray, List.set_cons_zero, List.set_cons_succ]
  refine drawn_sole 14 rfl (by kernel_rfl) (fun K hK => ?_)
  rw [if_pos]
  case hc => rfl
  go_simp
  refine hK.out _ _ trivial (fun hHeld2 => ?_)
  clear hK K hHeld2
  try simp only [Act.put, List.setIfInBounds_toArray, List.set_cons_zero, List.set_cons_succ]
  refine wpAnyH_done (by kernel_rfl) ?_ _
  (first | (refine bodyPost_ret (results_none rfl _ _ _) rfl ?_) | (refine bodyPost_end (results_none rfl _ _ _) rfl ?_))
  exact ⟨rfl, _, HQ.out.1, HQ.out.2⟩
end Go.Proofs.YtgnbkfkiigcdgaaGreatDoor
