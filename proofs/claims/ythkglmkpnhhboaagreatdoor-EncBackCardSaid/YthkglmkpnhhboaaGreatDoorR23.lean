/-
  Rows of records in memory: how a value is laid in cells; a module by value.
-/
import Derived.Test.YthkglmkpnhhboaaGreatDoorR01
import Derived.Test.YthkglmkpnhhboaaGreatDoorR11
import Derived.Test.YthkglmkpnhhboaaGreatDoorR09
set_option maxRecDepth 100000
set_option maxHeartbeats 4000000
namespace Go.Proofs.YthkglmkpnhhboaaGreatDoor
open Go.RowKit Ins Bin
class Lay (α : Type) where
 size : Nat
 rep : World → (Nat → Prop) → α → List Value → Prop
 len : ∀ {w : World} {S : Nat → Prop} {x : α} {cs : List Value}, rep w S x cs → cs.length = size
 mod : ∀ {T S : Nat → Prop} {w w' : World} {x : α} {cs : List Value}, rep w S x cs → Mod T w w' → (∀ k, k < w.heap.size → S k → ¬ T k) → rep w' S x cs
 more : ∀ {w : World} {S S' : Nat → Prop} {x : α} {cs : List Value}, rep w S x cs → (∀ k, k < w.heap.size → S k → S' k) → rep w S' x cs
def HasL {α : Type} [Lay α] (w : World) (S : Nat → Prop) (A : Option Addr) (xs : List α) : Prop :=
 ∀ (k : Nat) (x : α), xs[k]? = some x → ∃ g o cs, A = some ⟨g, o, none⟩ ∧ S g ∧ g < w.heap.size ∧ Lay.rep w S x cs ∧ ∀ (j : Nat) (u : Value), cs[j]? = some u → w.cell? ⟨g, o + k * Lay.size α + j, none⟩ = some u
theorem HasL.nil {α : Type} [Lay α] (w : World) (S : Nat → Prop) (A : Option Addr) : HasL w S A ([] : List α) := fun k x hx => by simp at hx
theorem HasL.mod {α : Type} [Lay α] {T S : Nat → Prop} {w w' : World} {A : Option Addr} {xs : List α} (h : HasL w S A xs) (hm : Mod T w w') (hd : ∀ k, k < w.heap.size → S k → ¬ T k) : HasL w' S A xs := fun k x hx => by
 obtain ⟨g, o, cs, h1, h2, h3, h4, h5⟩ := h k x hx
 exact ⟨g, o, cs, h1, h2, Nat.lt_of_lt_of_le h3 hm.size, Lay.mod h4 hm hd, fun j u hj => hm.cell (h5 j u hj) (hd g h3 h2)⟩
theorem HasL.more {α : Type} [Lay α] {w : World} {S S' : Nat → Prop} {A : Option Addr} {xs : List α} (h : HasL w S A xs) (hs : ∀ k, k < w.heap.size → S k → S' k) : HasL w S' A xs := fun k x hx => by
 obtain ⟨g, o, cs, h1, h2, h3, h4, h5⟩ := h k x hx
 exact ⟨g, o, cs, h1, hs g h3 h2, h3, Lay.more h4 hs, h5⟩
def J {α : Type} [Lay α] (w : World) (S : Nat → Prop) (xs : List α) (v : Value) : Prop := ∃ A c, v = .slice A xs.length c ∧ xs.length ≤ c ∧ c ≤ maxLen ∧ (A = none → c = 0) ∧ HasL w S A xs
theorem J.mod {α : Type} [Lay α] {T S : Nat → Prop} {w w' : World} {xs : List α} {v : Value} (h : J w S xs v) (hm : Mod T w w') (hd : ∀ k, k < w.heap.size → S k → ¬ T k) : J w' S xs v := by
 obtain ⟨A, c, h1, h2, h3, h4, h5⟩ := h
 exact ⟨A, c, h1, h2, h3, h4, h5.mod hm hd⟩
theorem J.more {α : Type} [Lay α] {w : World} {S S' : Nat → Prop} {xs : List α} {v : Value} (h : J w S xs v) (hs : ∀ k, k < w.heap.size → S k → S' k) : J w S' xs v := by
 obtain ⟨A, c, h1, h2, h3, h4, h5⟩ := h
 exact ⟨A, c, h1, h2, h3, h4, h5.more hs⟩
theorem J.nil {α : Type} [Lay α] (w : World) (S : Nat → Prop) : J w S ([] : List α) (.slice none 0 0) := ⟨none, 0, rfl, Nat.le_refl _, by unfold maxLen; omega, fun _ => rfl, HasL.nil _ _ _⟩
instance : Lay UInt8 where
 size := 1
 rep _ _ x cs := cs = [.int .u8 (x.toNat : Int)]
 len h := by rw [h]; rfl
 mod h _ _ := h
 more h _ := h
instance : Lay Nat where
 size := 1
 rep _ _ x cs := cs = [.int .u32 (x : Int)] ∧ x < 4294967296
 len h := by rw [h.1]; rfl
 mod h _ _ := h
 more h _ := h
instance : Lay I where
 size := 5
 rep w S x cs := ∃ A c, cs = insCells x A c ∧ x.wf ∧ x.l.length ≤ c ∧ c ≤ maxLen ∧ HasU w S A x.l
 len h := by obtain ⟨A, c, rfl, _⟩ := h; rfl
 mod h hm hd := by obtain ⟨A, c, h1, h2, h3, h4, h5⟩ := h; exact ⟨A, c, h1, h2, h3, h4, h5.mod hm hd⟩
 more h hs := by obtain ⟨A, c, h1, h2, h3, h4, h5⟩ := h; exact ⟨A, c, h1, h2, h3, h4, h5.more hs⟩
instance : Lay FT where
 size := 2
 rep w S x cs := ∃ u v, cs = [u, v] ∧ J w S x.params u ∧ J w S x.results v
 len h := by obtain ⟨u, v, rfl, _⟩ := h; rfl
 mod h hm hd := by obtain ⟨u, v, h1, h2, h3⟩ := h; exact ⟨u, v, h1, h2.mod hm hd, h3.mod hm hd⟩
 more h hs := by obtain ⟨u, v, h1, h2, h3⟩ := h; exact ⟨u, v, h1, h2.more hs, h3.more hs⟩
def Lim.wf (x : Lim) : Prop := x.min < 4294967296 ∧ -9223372036854775808 ≤ x.max ∧ x.max ≤ 9223372036854775807
instance : Lay Lim where
 size := 2
 rep _ _ x cs := cs = [.int .u32 (x.min : Int), .int .i64 x.max] ∧ Lim.wf x
 len h := by rw [h.1]; rfl
 mod h _ _ := h
 more h _ := h
def globCells (x : Glob) : List Value := [.int .u8 (x.t.toNat : Int), .bool x.mu]
def strV (l : List UInt8) : Value := .string ⟨l.toArray⟩
def impCells (x : Imp) : List Value := [strV x.mod, strV x.name, .int .u8 (x.kind.toNat : Int), .int .u32 (x.type : Int), .int .u32 (x.lim.min : Int), .int .i64 x.lim.max, .int .u8 (x.glob.t.toNat : Int), .bool x.glob.mu]
instance : Lay Imp where
 size := 8
 rep _ _ x cs := cs = impCells x ∧ x.type < 4294967296 ∧ Lim.wf x.lim
 len h := by rw [h.1]; rfl
 mod h _ _ := h
 more h _ := h
instance : Lay GV where
 size := 3
 rep w S x cs := ∃ v, cs = [.int .u8 (x.type.t.toNat : Int), .bool x.type.mu, v] ∧ J w S x.init v
 len h := by obtain ⟨v, rfl, _⟩ := h; rfl
 mod h hm hd := by obtain ⟨v, h1, h2⟩ := h; exact ⟨v, h1, h2.mod hm hd⟩
 more h hs := by obtain ⟨v, h1, h2⟩ := h; exact ⟨v, h1, h2.more hs⟩
instance : Lay Exp where
 size := 3
 rep _ _ x cs := cs = [strV x.name, .int .u8 (x.kind.toNat : Int), .int .u32 (x.index : Int)] ∧ x.index < 4294967296
 len h := by rw [h.1]; rfl
 mod h _ _ := h
 more h _ := h
instance : Lay El where
 size := 3
 rep w S x cs := ∃ u v, cs = [.int .u32 (x.table : Int), u, v] ∧ x.table < 4294967296 ∧ J w S x.off u ∧ J w S x.funcs v
 len h := by obtain ⟨u, v, rfl, _⟩ := h; rfl
 mod h hm hd := by obtain ⟨u, v, h1, h2, h3, h4⟩ := h; exact ⟨u, v, h1, h2, h3.mod hm hd, h4.mod hm hd⟩
 more h hs := by obtain ⟨u, v, h1, h2, h3, h4⟩ := h; exact ⟨u, v, h1, h2, h3.more hs, h4.more hs⟩
instance : Lay Lc where
 size := 2
 rep _ _ x cs := cs = [.int .u32 (x.n : Int), .int .u8 (x.t.toNat : Int)] ∧ x.n < 4294967296
 len h := by rw [h.1]; rfl
 mod h _ _ := h
 more h _ := h
instance : Lay Cd where
 size := 2
 rep w S x cs := ∃ u v, cs = [u, v] ∧ J w S x.locals u ∧ J w S x.body v
 len h := by obtain ⟨u, v, rfl, _⟩ := h; rfl
 mod h hm hd := by obtain ⟨u, v, h1, h2, h3⟩ := h; exact ⟨u, v, h1, h2.mod hm hd, h3.mod hm hd⟩
 more h hs := by obtain ⟨u, v, h1, h2, h3⟩ := h; exact ⟨u, v, h1, h2.more hs, h3.more hs⟩
instance : Lay Da where
 size := 3
 rep w S x cs := ∃ u v, cs = [.int .u32 (x.mem : Int), u, v] ∧ x.mem < 4294967296 ∧ J w S x.off u ∧ J w S x.b v
 len h := by obtain ⟨u, v, rfl, _⟩ := h; rfl
 mod h hm hd := by obtain ⟨u, v, h1, h2, h3, h4⟩ := h; exact ⟨u, v, h1, h2, h3.mod hm hd, h4.mod hm hd⟩
 more h hs := by obtain ⟨u, v, h1, h2, h3, h4⟩ := h; exact ⟨u, v, h1, h2, h3.more hs, h4.more hs⟩
structure RepM (w : World) (S : Nat → Prop) (m : M) (v1 v2 v3 v4 v5 v6 v7 v8 v9 v10 : Value) : Prop where
 types : J w S m.types v1
 imports : J w S m.imports v2
 funcs : J w S m.funcs v3
 tables : J w S m.tables v4
 mems : J w S m.mems v5
 globals : J w S m.globals v6
 exports : J w S m.exports v7
 start : m.start < 4294967296
 elems : J w S m.elems v8
 codes : J w S m.codes v9
 datas : J w S m.datas v10
def modCells (m : M) (v1 v2 v3 v4 v5 v6 v7 v8 v9 v10 : Value) : Array Value := #[v1, v2, v3, v4, v5, v6, v7, .bool m.hasStart, .int .u32 (m.start : Int), v8, v9, v10]
theorem RepM.mod {T S : Nat → Prop} {w w' : World} {m : M} {v1 v2 v3 v4 v5 v6 v7 v8 v9 v10 : Value} (h : RepM w S m v1 v2 v3 v4 v5 v6 v7 v8 v9 v10) (hm : Mod T w w') (hd : ∀ k, k < w.heap.size → S k → ¬ T k) : RepM w' S m v1 v2 v3 v4 v5 v6 v7 v8 v9 v10 :=
 ⟨h.types.mod hm hd, h.imports.mod hm hd, h.funcs.mod hm hd, h.tables.mod hm hd, h.mems.mod hm hd, h.globals.mod hm hd, h.exports.mod hm hd, h.start, h.elems.mod hm hd, h.codes.mod hm hd, h.datas.mod hm hd⟩
theorem RepM.on {S : Nat → Prop} {w w' : World} {m : M} {v1 v2 v3 v4 v5 v6 v7 v8 v9 v10 : Value} (h : RepM w S m v1 v2 v3 v4 v5 v6 v7 v8 v9 v10) (hb : Below w.heap.size w w') : RepM w' S m v1 v2 v3 v4 v5 v6 v7 v8 v9 v10 :=
 h.mod (T := fun _ => False) (Mod.of_below hb) (fun _ _ _ h => h)
def ModV (w : World) (S : Nat → Prop) (m : M) (v : Value) : Prop := ∃ v1 v2 v3 v4 v5 v6 v7 v8 v9 v10, v = .agg (modCells m v1 v2 v3 v4 v5 v6 v7 v8 v9 v10) ∧ RepM w S m v1 v2 v3 v4 v5 v6 v7 v8 v9 v10
theorem ModV.on {S : Nat → Prop} {w w' : World} {m : M} {v : Value} (h : ModV w S m v) (hb : Below w.heap.size w w') : ModV w' S m v := by
 obtain ⟨v1, v2, v3, v4, v5, v6, v7, v8, v9, v10, h1, h2⟩ := h
 exact ⟨v1, v2, v3, v4, v5, v6, v7, v8, v9, v10, h1, h2.on hb⟩
theorem HasL.has {w : World} {S : Nat → Prop} {A : Option Addr} {l : List UInt8} (h : HasL w S A l) : Has w w.heap.size A l := fun k x hx => by
 obtain ⟨g, o, cs, h1, _, h3, h4, h5⟩ := h k x hx
 have h4' : cs = [.int .u8 (x.toNat : Int)] := h4
 subst h4'
 refine ⟨⟨g, o, none⟩, h1, h3, ?_⟩
 have e : (⟨g, o, none⟩ : Addr).add k = ⟨g, o + k * 1 + 0, none⟩ := by
  unfold Addr.add
  split
  ·next h => subst h; simp
  ·simp
 rw [e]
 exact h5 0 _ rfl
theorem HasL.ins {w : World} {S : Nat → Prop} {A : Option Addr} {xs : List I} (h : HasL w S A xs) : HasI w S A xs := fun k x hx => by
 obtain ⟨g, o, cs, h1, h2, _, ⟨A', c, h4, h5, h6, h7, h8⟩, h9⟩ := h k x hx
 subst h4
 exact ⟨g, o, A', c, h1, h2, h5, h6, h7, h8, h9⟩
end Go.Proofs.YthkglmkpnhhboaaGreatDoor
namespace Go.Proofs.YthkglmkpnhhboaaGreatDoor
open Go.RowKit Sec
def secCells (x : S) (A : Option Addr) (c : Nat) : List Value := [.int .u8 (x.id : Int), .slice A x.b.length c]
theorem cj (x : S) (A : Option Addr) (c : Nat) : ∀ u ∈ secCells x A c, u.oneCell' = true := by
 intro u hu
 simp [secCells] at hu
 rcases hu with rfl | rfl <;> rfl
def HasS (w : World) (B : Nat) (A : Option Addr) (xs : List S) : Prop := ∀ (k : Nat) (x : S), xs[k]? = some x → ∃ g o A' c, A = some ⟨g, o, none⟩ ∧ g < B ∧ x.id < 256 ∧ x.b.length ≤ c ∧ c ≤ maxLen ∧ (A' = none → c = 0) ∧ Has w B A' x.b ∧
 w.cell? ⟨g, o + k * 2, none⟩ = some (.int .u8 (x.id : Int)) ∧ w.cell? ⟨g, o + k * 2 + 1, none⟩ = some (.slice A' x.b.length c)
theorem HasS.nil (w : World) (B : Nat) (A : Option Addr) : HasS w B A [] := fun k x hx => by simp at hx
theorem HasS.on {w w' : World} {A : Option Addr} {xs : List S} (h : HasS w w.heap.size A xs) (hb : Below w.heap.size w w') : HasS w' w'.heap.size A xs := fun k x hk => by
 obtain ⟨g, o, A', c, h1, h2, h3, h4, h5, h6, h7, h8, h9⟩ := h k x hk
 exact ⟨g, o, A', c, h1, Nat.lt_of_lt_of_le h2 hb.size, h3, h4, h5, h6, h7.on hb, (hb.cell h2).trans h8, (hb.cell h2).trans h9⟩
theorem HasS.ids {w : World} {B : Nat} {A : Option Addr} {xs : List S} (h : HasS w B A xs) : ∀ x ∈ xs, x.id < 256 := fun x hx => by
 obtain ⟨k, hk⟩ := List.mem_iff_getElem?.1 hx
 obtain ⟨_, _, _, _, _, _, h3, _⟩ := h k x hk
 exact h3
theorem HasS.take {w : World} {B : Nat} {A : Option Addr} {xs : List S} (h : HasS w B A xs) (n : Nat) : HasS w B A (xs.take n) := fun k x hk => by
 rw [List.getElem?_take] at hk
 split at hk
 ·exact h k x hk
 ·cases hk
def rowS (ys : List (S × Option Addr × Nat)) : List Value := ys.flatMap fun y => secCells y.1 y.2.1 y.2.2
theorem rowS_length (ys : List (S × Option Addr × Nat)) : (rowS ys).length = ys.length * 2 := by
 induction ys with
 | nil => rfl
 | cons y ys ih => simp only [rowS, List.flatMap_cons, List.length_append, List.length_cons] at ih ⊢; rw [ih]; simp [secCells]; omega
theorem fd (a b : List (S × Option Addr × Nat)) : rowS (a ++ b) = rowS a ++ rowS b := by simp [rowS]
theorem iV : ∀ (ys : List (S × Option Addr × Nat)) (k : Nat) (y : S × Option Addr × Nat), ys[k]? = some y → ∀ j u, (secCells y.1 y.2.1 y.2.2)[j]? = some u → (rowS ys)[k * 2 + j]? = some u
 | [], k, y, h, _, _, _ => by simp at h
 | z :: ys, 0, y, h, j, u, hj => by
  simp at h; subst h
  simp only [rowS, List.flatMap_cons, Nat.zero_mul, Nat.zero_add]
  rw [List.getElem?_append_left (by exact (List.getElem?_eq_some_iff.1 hj).1)]
  exact hj
 | z :: ys, k + 1, y, h, j, u, hj => by
  have ih := iV ys k y (by simpa using h) j u hj
  simp only [rowS, List.flatMap_cons] at ih ⊢
  rw [List.getElem?_append_right (by simp [secCells]; omega), ← ih]
  congr 1
  simp [secCells]; omega
def OwnS (w : World) (T : TypeId) (base : Nat) (v : Value) (n : Nat) (xs : List S) : Prop :=
 ∃ ys, ys.map (·.1) = xs ∧ w.ownsRow base T 2 v n (rowS ys) ∧ ∀ y ∈ ys, y.1.id < 256 ∧ y.1.b.length ≤ y.2.2 ∧ y.2.2 ≤ maxLen ∧ (y.2.1 = none → y.2.2 = 0) ∧ Has w w.heap.size y.2.1 y.1.b ∧ ∀ ad, y.2.1 = some ad → y.1.b ≠ [] → v.ownBlock ≠ some ad.block
theorem OwnS.len {w : World} {T : TypeId} {base : Nat} {v : Value} {n : Nat} {xs : List S} (h : OwnS w T base v n xs) : n = xs.length := by
 obtain ⟨ys, rfl, h1, _⟩ := h
 have := h1.1
 rw [rowS_length] at this
 simp; omega
theorem OwnS.nil (w : World) (T : TypeId) (base : Nat) : OwnS w T base (.slice none 0 0) 0 [] := ⟨[], rfl, World.ownsRow_nil _ _ _ _, by simp⟩
theorem OwnS.on {w w' : World} {T : TypeId} {base : Nat} {v : Value} {n : Nat} {xs : List S} (h : OwnS w T base v n xs) (hb : Below w.heap.size w w') : OwnS w' T base v n xs := by
 obtain ⟨ys, h0, h1, h2⟩ := h
 exact ⟨ys, h0, (Mod.of_below (T := fun _ => False) hb).own h1 (fun _ _ h => h), fun y hy => by
  obtain ⟨q1, q2, q3, q4, q5, q6⟩ := h2 y hy
  exact ⟨q1, q2, q3, q4, q5.on hb, q6⟩⟩
theorem add2 (g j : Nat) : (⟨g, 0, none⟩ : Addr).add j = ⟨g, 0 + j, none⟩ := by
 unfold Addr.add; split
 ·next h => subst h; rfl
 ·simp
theorem OwnS.tell {w : World} {T : TypeId} {base : Nat} {v : Value} {n : Nat} {xs : List S} (h : OwnS w T base v n xs) : ∃ A c, v = .slice A xs.length c ∧ xs.length ≤ c ∧ c ≤ maxLen ∧ HasS w w.heap.size A xs := by
 have hn := h.len
 obtain ⟨ys, h0, h1, h2⟩ := h
 subst hn
 rcases h1.2 with ⟨rfl, h3⟩ | ⟨g, cap, cur, rfl, hb, hh, hc, hm, _, htk⟩
 ·have : xs = [] := List.eq_nil_of_length_eq_zero h3
  subst this
  exact ⟨none, 0, rfl, Nat.le_refl _, by unfold maxLen; omega, HasS.nil _ _ _⟩
 ·refine ⟨_, cap, rfl, hc, hm, fun k x hk => ?_⟩
  rw [← h0, List.getElem?_map, Option.map_eq_some_iff] at hk
  obtain ⟨y, hy, rfl⟩ := hk
  obtain ⟨q1, q2, q3, q4, q5, q6⟩ := h2 y (List.mem_of_getElem? hy)
  have hg : g < w.heap.size := (Array.getElem?_eq_some_iff.1 hh).1
  refine ⟨g, 0, y.2.1, y.2.2, rfl, hg, q1, q2, q3, q4, q5, ?_, ?_⟩
  ·have := h1.cells (g := g) rfl (k * 2 + 0) _ (iV ys k y hy 0 _ rfl)
   rwa [add2] at this
  ·have := h1.cells (g := g) rfl (k * 2 + 1) _ (iV ys k y hy 1 _ rfl)
   rw [add2] at this
   exact this
theorem append1s {P : Program} (T ST : TypeId) (hu : P.underlying ST = some (.slice T)) (hinf : (P.info? T).map (fun i => (i.zero, i.size, i.bytes)) = some (some (.agg #[.int .u8 0, .slice none 0 0]), 2, 32))
  (w : World) (base n : Nat) (v : Value) (xs : List S) (x : S) (A : Option Addr) (c : Nat) (hown : OwnS w T base v n xs) (hsz : n + 1 ≤ 4000000000000) (hb : base ≤ w.heap.size)
  (hx : x.id < 256 ∧ x.b.length ≤ c ∧ c ≤ maxLen ∧ (A = none → c = 0) ∧ Has w w.heap.size A x.b) (hs : ∀ ad, A = some ad → x.b ≠ [] → v.ownBlock ≠ some ad.block) :
  ∃ v' w', (Builtin.append_ #[ST, ST] ST #[v, .slice (some ⟨w.heap.size, 0, none⟩) 1 1]).run P (w.alloc (.cells (secCells x A c).toArray T)) = .ok v' w' ∧ OwnS w' T base v' (n + 1) (xs ++ [x]) ∧ Mod (fun g => v.ownBlock = some g) w w' ∧ ∀ g, v'.ownBlock = some g → v.ownBlock = some g ∨ w.heap.size ≤ g := by
 obtain ⟨i0, hi, hz0, hz1, hz2⟩ := info_parts hinf
 obtain ⟨ys, h0, h1, h2⟩ := hown
 have hown1 := h1.alloc (.cells (secCells x A c).toArray T)
 obtain ⟨v', w', hrun, h3, h4, _⟩ := run_append_own (P := P) (w.alloc (.cells (secCells x A c).toArray T)) base ST ST T i0 _ 2 32 hu hi hz0 hz1 hz2 rfl (by decide) v n (rowS ys) hown1 ⟨w.heap.size, 0, none⟩ 1 1 (secCells x A c) rfl (bG w _ _) (cj x A c) (by unfold maxLen; omega) (by omega) (by simp; omega)
 have ht := bz (P := P) _ base ST ST T i0 _ 2 32 hu hi hz0 hz1 hz2 v n (rowS ys) hown1 ⟨w.heap.size, 0, none⟩ 1 1 (secCells x A c) rfl (bG w _ _) (cj x A c) (by omega) (by unfold maxLen; omega) (by omega) hrun
 have hM : Mod (fun g => v.ownBlock = some g) w w' := ((Mod.refl _ w).alloc _).trans (T' := fun g => v.ownBlock = some g) (Mod.of_grown h4 (fun _ h => h)) (fun _ _ h => h)
 have ht2 : ∀ g, v'.ownBlock = some g → v.ownBlock = some g ∨ w.heap.size ≤ g := fun g hg => by
  rcases ht g hg with h | h
  ·exact .inl h
  ·exact .inr (by simp at h; omega)
 have hkeep : ∀ (A : Option Addr) (l : List UInt8), Has w w.heap.size A l → (∀ ad, A = some ad → l ≠ [] → v.ownBlock ≠ some ad.block) → Has w' w'.heap.size A l := fun A l hh hn k y hk => by
  obtain ⟨ad, e1, e2, e3⟩ := hh k y hk
  have hbk : (ad.add k).block = ad.block := by unfold Addr.add; split <;> rfl
  exact ⟨ad, e1, Nat.lt_of_lt_of_le e2 hM.size, hM.cell e3 (by rw [hbk]; exact hn ad e1 (fun e => by rw [e] at hk; simp at hk))⟩
 have hnew : ∀ (A : Option Addr) (l : List UInt8), Has w w.heap.size A l → (∀ ad, A = some ad → l ≠ [] → v.ownBlock ≠ some ad.block) → ∀ ad, A = some ad → l ≠ [] → v'.ownBlock ≠ some ad.block := fun A l hh hn ad had hl e => by
  obtain ⟨a, r, hl2⟩ := List.exists_cons_of_ne_nil hl
  obtain ⟨ad2, e1, e2, _⟩ := hh 0 a (by rw [hl2]; rfl)
  rw [had] at e1
  injection e1 with e1
  subst e1
  rcases ht2 _ e with h | h
  ·exact hn ad had hl h
  ·omega
 refine ⟨v', w', hrun, ⟨ys ++ [(x, A, c)], by simp [h0], by rw [fd]; simpa [rowS] using h3, fun y hy => ?_⟩, hM, ht2⟩
 rcases List.mem_append.1 hy with hy | hy
 ·obtain ⟨q1, q2, q3, q4, q5, q6⟩ := h2 y hy
  exact ⟨q1, q2, q3, q4, hkeep _ _ q5 q6, hnew _ _ q5 q6⟩
 ·simp at hy; subst hy
  exact ⟨hx.1, hx.2.1, hx.2.2.1, hx.2.2.2.1, hkeep _ _ hx.2.2.2.2 hs, hnew _ _ hx.2.2.2.2 hs⟩
theorem fC {w : World} {T : TypeId} {base : Nat} {v : Value} {n : Nat} {xs : List S} (h : OwnS w T base v n xs) : ∀ g, v.ownBlock = some g → base ≤ g ∧ g < w.heap.size := by
 obtain ⟨ys, _, h1, _⟩ := h
 exact fun g hg => ⟨aw h1 g hg, own_lt h1 g hg⟩
end Go.Proofs.YthkglmkpnhhboaaGreatDoor
namespace Go.Proofs.YthkglmkpnhhboaaGreatDoor
open Go.RowKit Ins Bin
def OwnL {α : Type} [Lay α] (t : TypeId) (w : World) (base : Nat) (S : Nat → Prop) (v : Value) (xs : List α) : Prop :=
 ∃ ys : List (α × List Value), ys.map (·.1) = xs ∧ w.ownsRow base t (Lay.size α) v xs.length (ys.flatMap (·.2)) ∧ ∀ y ∈ ys, Lay.rep w S y.1 y.2
theorem OwnL.nil {α : Type} [Lay α] (t : TypeId) (w : World) (base : Nat) (S : Nat → Prop) : OwnL t w base S (.slice none 0 0) ([] : List α) := ⟨[], rfl, World.ownsRow_nil _ _ _ _, by simp⟩
theorem OwnL.mod {α : Type} [Lay α] {t : TypeId} {w w' : World} {T : Nat → Prop} {base : Nat} {S : Nat → Prop} {v : Value} {xs : List α} (h : OwnL t w base S v xs) (hm : Mod T w w') (hv : ∀ g, v.ownBlock = some g → ¬ T g) (hs : ∀ g, g < w.heap.size → S g → ¬ T g) : OwnL t w' base S v xs := by
 obtain ⟨ys, h0, h1, h2⟩ := h
 exact ⟨ys, h0, hm.own h1 hv, fun y hy => Lay.mod (h2 y hy) hm hs⟩
theorem OwnL.more {α : Type} [Lay α] {t : TypeId} {w : World} {base : Nat} {S S' : Nat → Prop} {v : Value} {xs : List α} (h : OwnL t w base S v xs) (hs : ∀ g, g < w.heap.size → S g → S' g) : OwnL t w base S' v xs := by
 obtain ⟨ys, h0, h1, h2⟩ := h
 exact ⟨ys, h0, h1, fun y hy => Lay.more (h2 y hy) hs⟩
theorem OwnL.lt {α : Type} [Lay α] {t : TypeId} {w : World} {base : Nat} {S : Nat → Prop} {v : Value} {xs : List α} (h : OwnL t w base S v xs) : ∀ g, v.ownBlock = some g → base ≤ g ∧ g < w.heap.size := by
 obtain ⟨ys, _, h1, _⟩ := h
 exact fun g hg => h1.lt g hg
theorem flat_at {α : Type} [Lay α] {w : World} {S : Nat → Prop} : ∀ (ys : List (α × List Value)), (∀ y ∈ ys, Lay.rep w S y.1 y.2) → ∀ (k : Nat) (y : α × List Value), ys[k]? = some y → ∀ j u, y.2[j]? = some u → (ys.flatMap (·.2))[k * Lay.size α + j]? = some u
 | [], _, k, y, h, _, _, _ => by simp at h
 | z :: ys, _, 0, y, h, j, u, hj => by
  simp at h; subst h
  simp only [List.flatMap_cons, Nat.zero_mul, Nat.zero_add]
  rw [List.getElem?_append_left (List.getElem?_eq_some_iff.1 hj).1]
  exact hj
 | z :: ys, hr, k + 1, y, h, j, u, hj => by
  have ih := flat_at ys (fun y hy => hr y (by simp [hy])) k y (by simpa using h) j u hj
  have hz : z.2.length = Lay.size α := Lay.len (hr z (by simp))
  simp only [List.flatMap_cons]
  rw [Nat.succ_mul, List.getElem?_append_right (by omega), ← ih]
  congr 1
  omega
theorem OwnL.tell {α : Type} [Lay α] {t : TypeId} {w : World} {base : Nat} {S : Nat → Prop} {v : Value} {xs : List α} (h : OwnL t w base S v xs) (hs : ∀ g, S g → base ≤ g) : J w (base ≤ ·) xs v := by
 obtain ⟨ys, h0, h1, h2⟩ := h
 rcases h1.2 with ⟨rfl, h3⟩ | ⟨g, cap, cur, rfl, hb, hh, hc, hm, hcs, htk⟩
 ·have : xs = [] := List.eq_nil_of_length_eq_zero h3
  subst this
  exact J.nil _ _
 ·refine ⟨_, cap, rfl, hc, hm, fun e => (by cases e), fun k x hk => ?_⟩
  rw [← h0, List.getElem?_map, Option.map_eq_some_iff] at hk
  obtain ⟨y, hy, rfl⟩ := hk
  refine ⟨g, 0, y.2, rfl, hb, (Array.getElem?_eq_some_iff.1 hh).1, Lay.more (h2 y (List.mem_of_getElem? hy)) (fun g _ hg => hs g hg), fun j u hj => ?_⟩
  have := h1.cells (g := g) rfl (k * Lay.size α + j) u (flat_at ys h2 k y hy j u hj)
  have e2 : (⟨g, 0, none⟩ : Addr).add (k * Lay.size α + j) = ⟨g, 0 + k * Lay.size α + j, none⟩ := by
   unfold Addr.add; split
   ·next h => simp at h; simp
   ·simp
  rwa [e2] at this
theorem append1L {α : Type} [Lay α] {st t : TypeId} {z : Value} {by' : Nat} (hu : Tryz.prog.underlying st = some (.slice t)) (hi0 : (Tryz.prog.info? t).map (fun i => (i.zero, i.size, i.bytes)) = some (some z, Lay.size α, by')) (hby : by' ≤ 4096) (hzs : z.cells.size = Lay.size α) (hpos : 0 < Lay.size α)
  (w : World) (base : Nat) (S : Nat → Prop) (v : Value) (xs : List α) (x : α) (cs : List Value) (hown : OwnL t w base S v xs) (hsz : xs.length ≤ 4294967296) (hb : base ≤ w.heap.size)
  (hx : Lay.rep w S x cs) (h1c : ∀ u ∈ cs, u.oneCell' = true) (hs : ∀ g, g < w.heap.size → S g → v.ownBlock ≠ some g) :
  ∃ v' w', (Builtin.append_ #[st, st] st #[v, .slice (some ⟨w.heap.size, 0, none⟩) 1 1]).run Tryz.prog (w.alloc (.cells cs.toArray t)) = .ok v' w' ∧ OwnL t w' base (fun g => S g ∧ v'.ownBlock ≠ some g) v' (xs ++ [x]) ∧ Mod (fun g => v.ownBlock = some g) w w' ∧ ∀ g, v'.ownBlock = some g → v.ownBlock = some g ∨ w.heap.size ≤ g := by
 obtain ⟨i0, hi, hz0, hz1, hz2⟩ := info_parts hi0
 obtain ⟨ys, h0, h1, h2⟩ := hown
 have hown1 := h1.alloc (.cells cs.toArray t)
 have hcl : cs.length = 1 * Lay.size α := by rw [Lay.len hx, Nat.one_mul]
 have hbytes : (xs.length + 1) * by' ≤ 140737488355328 := by
  have : (xs.length + 1) * by' ≤ 4294967297 * 4096 := Nat.mul_le_mul (by omega) hby
  omega
 obtain ⟨v', w', hrun, h3, h4, _⟩ := run_append_own (P := Tryz.prog) (w.alloc (.cells cs.toArray t)) base st st t i0 z (Lay.size α) by' hu hi hz0 hz1 hz2 hzs hpos v xs.length (ys.flatMap (·.2)) hown1 ⟨w.heap.size, 0, none⟩ 1 1 cs hcl (bG w _ _) h1c (by unfold maxLen; omega) hbytes (by simp; omega)
 have ht := bz (P := Tryz.prog) _ base st st t i0 z (Lay.size α) by' hu hi hz0 hz1 hz2 v xs.length (ys.flatMap (·.2)) hown1 ⟨w.heap.size, 0, none⟩ 1 1 cs hcl (bG w _ _) h1c (by omega) (by unfold maxLen; omega) hbytes hrun
 have hM : Mod (fun g => v.ownBlock = some g) w w' := ((Mod.refl _ w).alloc _).trans (T' := fun g => v.ownBlock = some g) (Mod.of_grown h4 (fun _ h => h)) (fun _ _ h => h)
 have ht2 : ∀ g, v'.ownBlock = some g → v.ownBlock = some g ∨ w.heap.size ≤ g := fun g hg => by
  rcases ht g hg with h | h
  ·exact .inl h
  ·exact .inr (by simp at h; omega)
 have hS : ∀ g, g < w.heap.size → S g → S g ∧ v'.ownBlock ≠ some g := fun g hg hsg => ⟨hsg, fun e => by
  rcases ht2 g e with h | h
  ·exact hs g hg hsg h
  ·omega⟩
 refine ⟨v', w', hrun, ⟨ys ++ [(x, cs)], by simp [h0], by rw [List.flatMap_append, List.length_append]; simpa using h3, fun y hy => ?_⟩, hM, ht2⟩
 rcases List.mem_append.1 hy with hy | hy
 ·exact Lay.mod (Lay.more (h2 y hy) hS) hM (fun g hg hsg => hs g hg hsg.1)
 ·simp at hy; subst hy
  exact Lay.mod (Lay.more hx hS) hM (fun g hg hsg => hs g hg hsg.1)
instance : Lay Glob where
 size := 2
 rep _ _ x cs := cs = globCells x
 len h := by rw [h]; rfl
 mod h _ _ := h
 more h _ := h
class Ones (α : Type) [Lay α] : Prop where
 one : ∀ {w : World} {S : Nat → Prop} {x : α} {cs : List Value}, Lay.rep w S x cs → ∀ u ∈ cs, u.oneCell' = true
theorem J.one {α : Type} [Lay α] {w : World} {S : Nat → Prop} {xs : List α} {v : Value} (h : J w S xs v) : v.oneCell' = true := by
 obtain ⟨A, c, rfl, _⟩ := h
 rfl
instance : Ones UInt8 := ⟨fun h u hu => by
 have h' : _ = _ := h
 subst h'
 simp at hu; subst hu; rfl⟩
instance : Ones Nat := ⟨fun h u hu => by
 have h' := h.1
 subst h'
 simp at hu; subst hu; rfl⟩
instance : Ones Lim := ⟨fun h u hu => by
 have h' := h.1
 subst h'
 simp at hu; rcases hu with rfl | rfl <;> rfl⟩
instance : Ones Glob := ⟨fun h u hu => by
 have h' : _ = _ := h
 subst h'
 simp [globCells] at hu; rcases hu with rfl | rfl <;> rfl⟩
instance : Ones Exp := ⟨fun h u hu => by
 have h' := h.1
 subst h'
 simp at hu; rcases hu with rfl | rfl | rfl <;> rfl⟩
instance : Ones FT := ⟨fun h u hu => by
 obtain ⟨a, b, rfl, h1, h2⟩ := h
 simp at hu; rcases hu with rfl | rfl
 ·exact h1.one
 ·exact h2.one⟩
theorem cw {α : Type} [Lay α] {w : World} {S : Nat → Prop} : ∀ (ys : List (α × List Value)), (∀ y ∈ ys, Lay.rep w S y.1 y.2) → (ys.flatMap (·.2)).length = ys.length * Lay.size α
 | [], _ => by simp
 | z :: ys, hr => by
  have ih := cw ys (fun y hy => hr y (by simp [hy]))
  have hz : z.2.length = Lay.size α := Lay.len (hr z (by simp))
  simp only [List.flatMap_cons, List.length_append, List.length_cons, Nat.succ_mul]
  omega
theorem undUInt8 : Tryz.prog.underlying 36 = some (.slice 5) := by kernel_rfl
theorem infUInt8 : (Tryz.prog.info? 5).map (fun i => (i.zero, i.size, i.bytes)) = some (some (.int .u8 0), Lay.size UInt8, 1) := by kernel_rfl
theorem undNat : Tryz.prog.underlying 24 = some (.slice 28) := by kernel_rfl
theorem infNat : (Tryz.prog.info? 28).map (fun i => (i.zero, i.size, i.bytes)) = some (some (.int .u32 0), Lay.size Nat, 4) := by kernel_rfl
theorem undLim : Tryz.prog.underlying 25 = some (.slice 57) := by kernel_rfl
theorem infLim : (Tryz.prog.info? 57).map (fun i => (i.zero, i.size, i.bytes)) = some (some (.agg #[.int .u32 0, .int .i64 0]), Lay.size Lim, 16) := by kernel_rfl
theorem undFT : Tryz.prog.underlying 22 = some (.slice 50) := by kernel_rfl
theorem infFT : (Tryz.prog.info? 50).map (fun i => (i.zero, i.size, i.bytes)) = some (some (.agg #[.slice none 0 0, .slice none 0 0]), Lay.size FT, 48) := by kernel_rfl
theorem undImp : Tryz.prog.underlying 23 = some (.slice 61) := by kernel_rfl
theorem infImp : (Tryz.prog.info? 61).map (fun i => (i.zero, i.size, i.bytes)) = some (some (.agg #[.string ⟨#[]⟩, .string ⟨#[]⟩, .int .u8 0, .int .u32 0, .int .u32 0, .int .i64 0, .int .u8 0, .bool false]), Lay.size Imp, 64) := by kernel_rfl
theorem undGV : Tryz.prog.underlying 26 = some (.slice 63) := by kernel_rfl
theorem infGV : (Tryz.prog.info? 63).map (fun i => (i.zero, i.size, i.bytes)) = some (some (.agg #[.int .u8 0, .bool false, .slice none 0 0]), Lay.size GV, 32) := by kernel_rfl
theorem undExp : Tryz.prog.underlying 27 = some (.slice 66) := by kernel_rfl
theorem infExp : (Tryz.prog.info? 66).map (fun i => (i.zero, i.size, i.bytes)) = some (some (.agg #[.string ⟨#[]⟩, .int .u8 0, .int .u32 0]), Lay.size Exp, 24) := by kernel_rfl
theorem undEl : Tryz.prog.underlying 29 = some (.slice 69) := by kernel_rfl
theorem infEl : (Tryz.prog.info? 69).map (fun i => (i.zero, i.size, i.bytes)) = some (some (.agg #[.int .u32 0, .slice none 0 0, .slice none 0 0]), Lay.size El, 56) := by kernel_rfl
theorem undCd : Tryz.prog.underlying 30 = some (.slice 54) := by kernel_rfl
theorem infCd : (Tryz.prog.info? 54).map (fun i => (i.zero, i.size, i.bytes)) = some (some (.agg #[.slice none 0 0, .slice none 0 0]), Lay.size Cd, 48) := by kernel_rfl
theorem undDa : Tryz.prog.underlying 31 = some (.slice 71) := by kernel_rfl
theorem infDa : (Tryz.prog.info? 71).map (fun i => (i.zero, i.size, i.bytes)) = some (some (.agg #[.int .u32 0, .slice none 0 0, .slice none 0 0]), Lay.size Da, 56) := by kernel_rfl
theorem undLc : Tryz.prog.underlying 51 = some (.slice 121) := by kernel_rfl
theorem infLc : (Tryz.prog.info? 121).map (fun i => (i.zero, i.size, i.bytes)) = some (some (.agg #[.int .u32 0, .int .u8 0]), Lay.size Lc, 8) := by kernel_rfl
end Go.Proofs.YthkglmkpnhhboaaGreatDoor
