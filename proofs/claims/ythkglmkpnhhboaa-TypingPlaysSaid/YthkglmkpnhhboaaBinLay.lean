/-
  Rows of records in memory: how a value is laid in cells; a module by value.
-/
import Derived.Test.YthkglmkpnhhboaaInsMem
import Derived.Test.YthkglmkpnhhboaaBinM
namespace Go.Proofs.Ythkglmkpnhhboaa
open Go.RowKit Ins Bin
/-- How a value is laid in cells; what it points to lies in blocks of S. -/
class Lay (α : Type) where
  size : Nat
  rep : World → (Nat → Prop) → α → List Value → Prop
  len : ∀ {w : World} {S : Nat → Prop} {x : α} {cs : List Value}, rep w S x cs → cs.length = size
  mod : ∀ {T S : Nat → Prop} {w w' : World} {x : α} {cs : List Value}, rep w S x cs → Mod T w w' → (∀ k, k < w.heap.size → S k → ¬ T k) → rep w' S x cs
  more : ∀ {w : World} {S S' : Nat → Prop} {x : α} {cs : List Value}, rep w S x cs → (∀ k, k < w.heap.size → S k → S' k) → rep w S' x cs
/-- A slice's cells read as these values. -/
def HasL {α : Type} [Lay α] (w : World) (S : Nat → Prop) (A : Option Addr) (xs : List α) : Prop :=
  ∀ (k : Nat) (x : α), xs[k]? = some x → ∃ g o cs, A = some ⟨g, o, none⟩ ∧ S g ∧ g < w.heap.size ∧ Lay.rep w S x cs ∧ ∀ (j : Nat) (u : Value), cs[j]? = some u → w.cell? ⟨g, o + k * Lay.size α + j, none⟩ = some u
theorem HasL.nil {α : Type} [Lay α] (w : World) (S : Nat → Prop) (A : Option Addr) : HasL w S A ([] : List α) := fun k x hx => by simp at hx
theorem HasL.mod {α : Type} [Lay α] {T S : Nat → Prop} {w w' : World} {A : Option Addr} {xs : List α} (h : HasL w S A xs) (hm : Mod T w w') (hd : ∀ k, k < w.heap.size → S k → ¬ T k) : HasL w' S A xs := fun k x hx => by
  obtain ⟨g, o, cs, h1, h2, h3, h4, h5⟩ := h k x hx
  exact ⟨g, o, cs, h1, h2, Nat.lt_of_lt_of_le h3 hm.size, Lay.mod h4 hm hd, fun j u hj => hm.cell (h5 j u hj) (hd g h3 h2)⟩
theorem HasL.more {α : Type} [Lay α] {w : World} {S S' : Nat → Prop} {A : Option Addr} {xs : List α} (h : HasL w S A xs) (hs : ∀ k, k < w.heap.size → S k → S' k) : HasL w S' A xs := fun k x hx => by
  obtain ⟨g, o, cs, h1, h2, h3, h4, h5⟩ := h k x hx
  exact ⟨g, o, cs, h1, hs g h3 h2, h3, Lay.more h4 hs, h5⟩
/-- A slice by value. -/
def SliceV {α : Type} [Lay α] (w : World) (S : Nat → Prop) (xs : List α) (v : Value) : Prop := ∃ A c, v = .slice A xs.length c ∧ xs.length ≤ c ∧ c ≤ maxLen ∧ (A = none → c = 0) ∧ HasL w S A xs
theorem SliceV.mod {α : Type} [Lay α] {T S : Nat → Prop} {w w' : World} {xs : List α} {v : Value} (h : SliceV w S xs v) (hm : Mod T w w') (hd : ∀ k, k < w.heap.size → S k → ¬ T k) : SliceV w' S xs v := by
  obtain ⟨A, c, h1, h2, h3, h4, h5⟩ := h
  exact ⟨A, c, h1, h2, h3, h4, h5.mod hm hd⟩
theorem SliceV.more {α : Type} [Lay α] {w : World} {S S' : Nat → Prop} {xs : List α} {v : Value} (h : SliceV w S xs v) (hs : ∀ k, k < w.heap.size → S k → S' k) : SliceV w S' xs v := by
  obtain ⟨A, c, h1, h2, h3, h4, h5⟩ := h
  exact ⟨A, c, h1, h2, h3, h4, h5.more hs⟩
theorem SliceV.nil {α : Type} [Lay α] (w : World) (S : Nat → Prop) : SliceV w S ([] : List α) (.slice none 0 0) := ⟨none, 0, rfl, Nat.le_refl _, by unfold maxLen; omega, fun _ => rfl, HasL.nil _ _ _⟩
instance : Lay UInt8 where
  size := 1
  rep _ _ x cs := cs = [.int .u8 (x.toNat : Int)]
  len h := by rw [h]; rfl
  mod h _ _ := h
  more h _ := h
/-- A number of 32 bits. -/
instance : Lay Nat where
  size := 1
  rep _ _ x cs := cs = [.int .u32 (x : Int)] ∧ x < 4294967296
  len h := by rw [h.1]; rfl
  mod h _ _ := h
  more h _ := h
instance : Lay I where
  size := 5
  rep w S x cs := ∃ A c, cs = insCells x A c ∧ x.wf ∧ x.l.length ≤ c ∧ c ≤ maxLen ∧ HasU w S A x.l
  len h := by obtain ⟨A, c, rfl, _⟩ := h; rfl
  mod h hm hd := by obtain ⟨A, c, h1, h2, h3, h4, h5⟩ := h; exact ⟨A, c, h1, h2, h3, h4, h5.mod hm hd⟩
  more h hs := by obtain ⟨A, c, h1, h2, h3, h4, h5⟩ := h; exact ⟨A, c, h1, h2, h3, h4, h5.more hs⟩
instance : Lay FT where
  size := 2
  rep w S x cs := ∃ u v, cs = [u, v] ∧ SliceV w S x.params u ∧ SliceV w S x.results v
  len h := by obtain ⟨u, v, rfl, _⟩ := h; rfl
  mod h hm hd := by obtain ⟨u, v, h1, h2, h3⟩ := h; exact ⟨u, v, h1, h2.mod hm hd, h3.mod hm hd⟩
  more h hs := by obtain ⟨u, v, h1, h2, h3⟩ := h; exact ⟨u, v, h1, h2.more hs, h3.more hs⟩
def Lim.wf (x : Lim) : Prop := x.min < 4294967296 ∧ -9223372036854775808 ≤ x.max ∧ x.max ≤ 9223372036854775807
instance : Lay Lim where
  size := 2
  rep _ _ x cs := cs = [.int .u32 (x.min : Int), .int .i64 x.max] ∧ Lim.wf x
  len h := by rw [h.1]; rfl
  mod h _ _ := h
  more h _ := h
def globCells (x : Glob) : List Value := [.int .u8 (x.t.toNat : Int), .bool x.mu]
def strV (l : List UInt8) : Value := .string ⟨l.toArray⟩
def impCells (x : Imp) : List Value := [strV x.mod, strV x.name, .int .u8 (x.kind.toNat : Int), .int .u32 (x.type : Int), .int .u32 (x.lim.min : Int), .int .i64 x.lim.max, .int .u8 (x.glob.t.toNat : Int), .bool x.glob.mu]
instance : Lay Imp where
  size := 8
  rep _ _ x cs := cs = impCells x ∧ x.type < 4294967296 ∧ Lim.wf x.lim
  len h := by rw [h.1]; rfl
  mod h _ _ := h
  more h _ := h
instance : Lay GV where
  size := 3
  rep w S x cs := ∃ v, cs = [.int .u8 (x.type.t.toNat : Int), .bool x.type.mu, v] ∧ SliceV w S x.init v
  len h := by obtain ⟨v, rfl, _⟩ := h; rfl
  mod h hm hd := by obtain ⟨v, h1, h2⟩ := h; exact ⟨v, h1, h2.mod hm hd⟩
  more h hs := by obtain ⟨v, h1, h2⟩ := h; exact ⟨v, h1, h2.more hs⟩
instance : Lay Exp where
  size := 3
  rep _ _ x cs := cs = [strV x.name, .int .u8 (x.kind.toNat : Int), .int .u32 (x.index : Int)] ∧ x.index < 4294967296
  len h := by rw [h.1]; rfl
  mod h _ _ := h
  more h _ := h
instance : Lay El where
  size := 3
  rep w S x cs := ∃ u v, cs = [.int .u32 (x.table : Int), u, v] ∧ x.table < 4294967296 ∧ SliceV w S x.off u ∧ SliceV w S x.funcs v
  len h := by obtain ⟨u, v, rfl, _⟩ := h; rfl
  mod h hm hd := by obtain ⟨u, v, h1, h2, h3, h4⟩ := h; exact ⟨u, v, h1, h2, h3.mod hm hd, h4.mod hm hd⟩
  more h hs := by obtain ⟨u, v, h1, h2, h3, h4⟩ := h; exact ⟨u, v, h1, h2, h3.more hs, h4.more hs⟩
instance : Lay Lc where
  size := 2
  rep _ _ x cs := cs = [.int .u32 (x.n : Int), .int .u8 (x.t.toNat : Int)] ∧ x.n < 4294967296
  len h := by rw [h.1]; rfl
  mod h _ _ := h
  more h _ := h
instance : Lay Cd where
  size := 2
  rep w S x cs := ∃ u v, cs = [u, v] ∧ SliceV w S x.locals u ∧ SliceV w S x.body v
  len h := by obtain ⟨u, v, rfl, _⟩ := h; rfl
  mod h hm hd := by obtain ⟨u, v, h1, h2, h3⟩ := h; exact ⟨u, v, h1, h2.mod hm hd, h3.mod hm hd⟩
  more h hs := by obtain ⟨u, v, h1, h2, h3⟩ := h; exact ⟨u, v, h1, h2.more hs, h3.more hs⟩
instance : Lay Da where
  size := 3
  rep w S x cs := ∃ u v, cs = [.int .u32 (x.mem : Int), u, v] ∧ x.mem < 4294967296 ∧ SliceV w S x.off u ∧ SliceV w S x.b v
  len h := by obtain ⟨u, v, rfl, _⟩ := h; rfl
  mod h hm hd := by obtain ⟨u, v, h1, h2, h3, h4⟩ := h; exact ⟨u, v, h1, h2, h3.mod hm hd, h4.mod hm hd⟩
  more h hs := by obtain ⟨u, v, h1, h2, h3, h4⟩ := h; exact ⟨u, v, h1, h2, h3.more hs, h4.more hs⟩
/-- A module's twelve cells. -/
structure RepM (w : World) (S : Nat → Prop) (m : M) (v1 v2 v3 v4 v5 v6 v7 v8 v9 v10 : Value) : Prop where
  types : SliceV w S m.types v1
  imports : SliceV w S m.imports v2
  funcs : SliceV w S m.funcs v3
  tables : SliceV w S m.tables v4
  mems : SliceV w S m.mems v5
  globals : SliceV w S m.globals v6
  exports : SliceV w S m.exports v7
  start : m.start < 4294967296
  elems : SliceV w S m.elems v8
  codes : SliceV w S m.codes v9
  datas : SliceV w S m.datas v10
def modCells (m : M) (v1 v2 v3 v4 v5 v6 v7 v8 v9 v10 : Value) : Array Value := #[v1, v2, v3, v4, v5, v6, v7, .bool m.hasStart, .int .u32 (m.start : Int), v8, v9, v10]
theorem RepM.mod {T S : Nat → Prop} {w w' : World} {m : M} {v1 v2 v3 v4 v5 v6 v7 v8 v9 v10 : Value} (h : RepM w S m v1 v2 v3 v4 v5 v6 v7 v8 v9 v10) (hm : Mod T w w') (hd : ∀ k, k < w.heap.size → S k → ¬ T k) : RepM w' S m v1 v2 v3 v4 v5 v6 v7 v8 v9 v10 :=
  ⟨h.types.mod hm hd, h.imports.mod hm hd, h.funcs.mod hm hd, h.tables.mod hm hd, h.mems.mod hm hd, h.globals.mod hm hd, h.exports.mod hm hd, h.start, h.elems.mod hm hd, h.codes.mod hm hd, h.datas.mod hm hd⟩
theorem RepM.on {S : Nat → Prop} {w w' : World} {m : M} {v1 v2 v3 v4 v5 v6 v7 v8 v9 v10 : Value} (h : RepM w S m v1 v2 v3 v4 v5 v6 v7 v8 v9 v10) (hb : Below w.heap.size w w') : RepM w' S m v1 v2 v3 v4 v5 v6 v7 v8 v9 v10 :=
  h.mod (T := fun _ => False) (Mod.of_below hb) (fun _ _ _ h => h)
/-- A module by value. -/
def ModV (w : World) (S : Nat → Prop) (m : M) (v : Value) : Prop := ∃ v1 v2 v3 v4 v5 v6 v7 v8 v9 v10, v = .agg (modCells m v1 v2 v3 v4 v5 v6 v7 v8 v9 v10) ∧ RepM w S m v1 v2 v3 v4 v5 v6 v7 v8 v9 v10
theorem ModV.on {S : Nat → Prop} {w w' : World} {m : M} {v : Value} (h : ModV w S m v) (hb : Below w.heap.size w w') : ModV w' S m v := by
  obtain ⟨v1, v2, v3, v4, v5, v6, v7, v8, v9, v10, h1, h2⟩ := h
  exact ⟨v1, v2, v3, v4, v5, v6, v7, v8, v9, v10, h1, h2.on hb⟩
theorem HasL.has {w : World} {S : Nat → Prop} {A : Option Addr} {l : List UInt8} (h : HasL w S A l) : Has w w.heap.size A l := fun k x hx => by
  obtain ⟨g, o, cs, h1, _, h3, h4, h5⟩ := h k x hx
  have h4' : cs = [.int .u8 (x.toNat : Int)] := h4
  subst h4'
  refine ⟨⟨g, o, none⟩, h1, h3, ?_⟩
  have e : (⟨g, o, none⟩ : Addr).add k = ⟨g, o + k * 1 + 0, none⟩ := by
    unfold Addr.add
    split
    · next h => subst h; simp
    · simp
  rw [e]
  exact h5 0 _ rfl
theorem HasL.ins {w : World} {S : Nat → Prop} {A : Option Addr} {xs : List I} (h : HasL w S A xs) : HasI w S A xs := fun k x hx => by
  obtain ⟨g, o, cs, h1, h2, _, ⟨A', c, h4, h5, h6, h7, h8⟩, h9⟩ := h k x hx
  subst h4
  exact ⟨g, o, A', c, h1, h2, h5, h6, h7, h8, h9⟩
end Go.Proofs.Ythkglmkpnhhboaa
