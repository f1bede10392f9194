/-
  Layer 9's plain mathematics (no program): a stack of validation; what a call makes of it; when operands can be taken.
-/
import Derived.Test.YtakbehoglgebmaaQ01
import Derived.Deep.RegionHeld3
import Derived.Test.YtakbehoglgebmaaQ04
import Derived.Laws.EntriesVeiled
import Derived.Lib.SliceRun
namespace Ty
/-- An open block. -/
structure Fr where
  label : List UInt8
  ends : List UInt8
  h : Nat
  dead : Bool
structure T where
  ops : List UInt8
  frs : List Fr
  most : Nat
def fit (a b : UInt8) : Bool := a == b || (a == 0 || b == 0)
def fitAll (own l : List UInt8) : Bool := (own.reverse.zip l.reverse).all fun p => fit p.1 p.2
def without (ops : List UInt8) (f : Fr) (l : List UInt8) : Option Nat :=
  if ops.length - f.h < l.length ∧ f.dead = false then none
  else if fitAll (ops.drop f.h) l = true then some (ops.length - min (ops.length - f.h) l.length) else none
def T.last (s : T) : Option Fr := s.frs.getLast?
def T.start : T := ⟨[], [], 0⟩
def T.push (s : T) (l : List UInt8) : T := ⟨s.ops ++ l, s.frs, max s.most (s.ops.length + l.length)⟩
def T.op (s : T) (a b : List UInt8) : T := ⟨s.ops, s.frs ++ [⟨a, b, s.ops.length, false⟩], s.most⟩
def T.new (e : List UInt8) : T := T.start.op e e
def T.popA (s : T) : UInt8 × Bool :=
  match s.last with
  | none => (0, false)
  | some f => if s.ops.length ≤ f.h then (0, f.dead) else (s.ops.getLast?.getD 0, true)
def T.pop (s : T) : T :=
  match s.last with
  | none => s
  | some f => if s.ops.length ≤ f.h then s else ⟨s.ops.dropLast, s.frs, s.most⟩
def T.wout (s : T) (l : List UInt8) : Option Nat :=
  match s.last with
  | none => none
  | some f => without s.ops f l
def T.wantA (s : T) (l : List UInt8) : Bool := (s.wout l).isSome
def T.cutTo (s : T) (n : Nat) : T := ⟨s.ops.take n, s.frs, s.most⟩
def T.want (s : T) (l : List UInt8) : T :=
  match s.wout l with
  | none => s
  | some n => s.cutTo n
/-- The ends that Close tells. -/
def T.closeA (s : T) : Option (List UInt8) :=
  match s.last with
  | none => none
  | some f => match without s.ops f f.ends with
    | none => none
    | some n => if n ≤ f.h then some f.ends else none
def T.close (s : T) : T :=
  match s.last with
  | none => s
  | some f => match without s.ops f f.ends with
    | none => s
    | some n => if n ≤ f.h then ⟨s.ops.take n, s.frs.dropLast, s.most⟩ else s
def T.kill (s : T) : T :=
  match s.last with
  | none => s
  | some f => ⟨s.ops.take f.h, s.frs.dropLast ++ [⟨f.label, f.ends, f.h, true⟩], s.most⟩
def T.labelA (s : T) (n : Nat) : Option (List UInt8) := (s.frs.reverse[n]?).map (·.label)
/-- Frames begin at heights that rise, and that there are. -/
def T.ok (s : T) : Prop := (∀ f ∈ s.frs, f.h ≤ s.ops.length) ∧ s.frs.Pairwise fun a b => a.h ≤ b.h
theorem last_nil {s : T} (h : s.frs = []) : s.last = none := by unfold T.last; rw [h]; rfl
theorem last_of {s : T} {i : List Fr} {f : Fr} (h : s.frs = i ++ [f]) : s.last = some f := by unfold T.last; rw [h]; simp
theorem parts (s : T) : s.frs = [] ∨ ∃ i f, s.frs = i ++ [f] := by
  rcases List.eq_nil_or_concat s.frs with h | ⟨i, f, h⟩
  · exact .inl h
  · exact .inr ⟨i, f, by simpa using h⟩
theorem ok_start : T.start.ok := ⟨fun f h => by simp [T.start] at h, by simp [T.start]⟩
theorem ok_push {s : T} (h : s.ok) (l : List UInt8) : (s.push l).ok := ⟨fun f hf => by have := h.1 f hf; simp [T.push]; omega, h.2⟩
theorem ok_op {s : T} (h : s.ok) (a b : List UInt8) : (s.op a b).ok := by
  refine ⟨fun f hf => ?_, ?_⟩
  · simp [T.op] at hf ⊢
    rcases hf with hf | rfl
    · exact h.1 f hf
    · exact Nat.le_refl _
  · simp only [T.op, List.pairwise_append]
    exact ⟨h.2, by simp, fun a ha b hb => by simp at hb; subst hb; exact h.1 a ha⟩
theorem ok_new (e : List UInt8) : (T.new e).ok := ok_op ok_start e e
theorem last_h {s : T} (h : s.ok) {i : List Fr} {f : Fr} (hf : s.frs = i ++ [f]) : f.h ≤ s.ops.length := h.1 f (by rw [hf]; simp)
theorem below_last {s : T} (h : s.ok) {i : List Fr} {f : Fr} (hf : s.frs = i ++ [f]) : ∀ g ∈ s.frs, g.h ≤ f.h := fun g hg => by
  have h2 := h.2
  rw [hf, List.pairwise_append] at h2
  rw [hf] at hg
  rcases List.mem_append.1 hg with hg | hg
  · exact h2.2.2 g hg f (by simp)
  · simp at hg; subst hg; exact Nat.le_refl _
theorem ok_cut {s : T} (h : s.ok) {i : List Fr} {f : Fr} (hf : s.frs = i ++ [f]) (n : Nat) (hn : f.h ≤ n) : (s.cutTo n).ok := ⟨fun g hg => by
  have h1 := below_last h hf g hg
  have h2 := h.1 g hg
  simp [T.cutTo]; omega, h.2⟩
theorem without_ge {ops : List UInt8} {f : Fr} {l : List UInt8} {n : Nat} (hf : f.h ≤ ops.length) (h : without ops f l = some n) : f.h ≤ n ∧ n ≤ ops.length := by
  unfold without at h
  split at h
  · cases h
  · split at h
    · injection h with h; omega
    · cases h
theorem ok_pop {s : T} (h : s.ok) : s.pop.ok := by
  rcases parts s with hn | ⟨i, f, hf⟩
  · unfold T.pop; rw [last_nil hn]; exact h
  · unfold T.pop; rw [last_of hf]
    dsimp only
    split
    · exact h
    · next hl =>
      have := ok_cut h hf (s.ops.length - 1) (by omega)
      unfold T.cutTo at this
      rwa [← List.dropLast_eq_take] at this
theorem ok_want {s : T} (h : s.ok) (l : List UInt8) : (s.want l).ok := by
  unfold T.want T.wout
  rcases parts s with hn | ⟨i, f, hf⟩
  · rw [last_nil hn]; exact h
  · rw [last_of hf]
    dsimp only
    cases hw : without s.ops f l with
    | none => exact h
    | some n => exact ok_cut h hf n (without_ge (last_h h hf) hw).1
theorem ok_close {s : T} (h : s.ok) : s.close.ok := by
  unfold T.close
  rcases parts s with hn | ⟨i, f, hf⟩
  · rw [last_nil hn]; exact h
  · rw [last_of hf]
    dsimp only
    cases hw : without s.ops f f.ends with
    | none => exact h
    | some n =>
      dsimp only
      split
      · next hle =>
        have hc := ok_cut h hf n (without_ge (last_h h hf) hw).1
        refine ⟨fun g hg => hc.1 g ((List.dropLast_sublist _).subset hg), ?_⟩
        have h2 := h.2
        simp only [hf] at h2 ⊢
        rw [List.pairwise_append] at h2
        simpa using h2.1
      · exact h
theorem ok_kill {s : T} (h : s.ok) : s.kill.ok := by
  unfold T.kill
  rcases parts s with hn | ⟨i, f, hf⟩
  · rw [last_nil hn]; exact h
  · rw [last_of hf]
    dsimp only
    have hc := ok_cut h hf f.h (Nat.le_refl _)
    have h2 := h.2
    rw [hf, List.pairwise_append] at h2
    have hd : s.frs.dropLast = i := by rw [hf]; simp
    rw [hd]
    refine ⟨fun g hg => ?_, ?_⟩
    · simp at hg
      rcases hg with hg | rfl
      · exact hc.1 g (by show g ∈ s.frs; rw [hf]; simp [hg])
      · exact hc.1 f (by show f ∈ s.frs; rw [hf]; simp)
    · simp only [List.pairwise_append]
      exact ⟨h2.1, by simp, fun a ha b hb => by simp at hb; subst hb; exact h2.2.2 a ha f (by simp)⟩
/-- One more fits, or one does not. -/
theorem fit_at {own l : List UInt8} (i : Nat) (hi : i < own.length) (hl : i < l.length) : (own.reverse.zip l.reverse)[i]? = some (own[own.length - 1 - i], l[l.length - 1 - i]) := by
  rw [List.getElem?_zip_eq_some]
  exact ⟨by rw [List.getElem?_reverse hi, List.getElem?_eq_getElem], by rw [List.getElem?_reverse hl, List.getElem?_eq_getElem]⟩
theorem fit_no {own l : List UInt8} (i : Nat) (hi : i < own.length) (hl : i < l.length) (h : fit own[own.length - 1 - i] l[l.length - 1 - i] = false) : fitAll own l = false := by
  unfold fitAll
  rw [List.all_eq_false]
  exact ⟨_, List.mem_of_getElem? (fit_at i hi hl), by simp [h]⟩
theorem fit_yes {own l : List UInt8} (h : ∀ i (hi : i < own.length) (hl : i < l.length), fit own[own.length - 1 - i] l[l.length - 1 - i] = true) : fitAll own l = true := by
  unfold fitAll
  rw [List.all_eq_true]
  intro p hp
  obtain ⟨i, hi⟩ := List.mem_iff_getElem?.1 hp
  have hlt := (List.getElem?_eq_some_iff.1 hi).1
  rw [List.length_zip, List.length_reverse, List.length_reverse] at hlt
  have h1 : i < own.length := by omega
  have h2 : i < l.length := by omega
  rw [fit_at i h1 h2] at hi
  injection hi with hi
  subst hi
  exact h i h1 h2
end Ty
/-
  A region that draws its order, walked operation by operation in an order of ours: the laws with the operation written out by its fields.
-/
namespace Go.Proofs.Ytakbehoglgebmaa
open Go.RowKit
variable {P : Program} {ops : Array Oper} {Q : Exit → Act → World → Prop} {md : Region.Mode} {S : World → Prop}
/-- An operation that may come up, and yields in every world that meets S, comes first. -/
theorem drawn_take (i : Nat) {d : Option Tmp} {op : Op} {ty : TypeId} {pos : String} {af : Array Edge} {g : Option (Nat × Bool)} {v : Value} {fuel : Nat} {listed : Array Bool} {a : Act} {w : World} (hi : ops[i]? = some ⟨d, op, ty, pos, af, g⟩)
    (hs : Region.noSelect ops = true) (hf : Region.free md ops listed i = true) (hr : (Region.ready md ops listed).contains i = true)
    (hQ : ∀ c a w, Q (.panic c) (a.put d v) w → Q (.panic c) a w) (hw : Region.wanted ⟨d, op, ty, pos, af, g⟩ (yielded ops a.tmps) = true) (hS : S w)
    (hy : ∀ w, S w → (execOp a.eval ⟨d, op, ty, pos, af, g⟩).run P w = .ok (.value v) w)
    (h : wpAnyH P md ops Q S fuel (listed.setIfInBounds i true) (a.put d v) w) : wpAnyH P md ops Q S (fuel + 1) listed a w :=
  wpAnyH_take hi hs hf hr hQ (.inl ⟨hw, hy⟩) hS h
/-- One that alone may come up. -/
theorem drawn_sole (i : Nat) {d : Option Tmp} {op : Op} {ty : TypeId} {pos : String} {af : Array Edge} {g : Option (Nat × Bool)} {fuel : Nat} {listed : Array Bool} {a : Act} {w : World} (hi : ops[i]? = some ⟨d, op, ty, pos, af, g⟩)
    (hr : Region.ready md ops listed = [i])
    (h : ∀ K' : Act → World → Prop, Shut (∀ a w, S w → (S w → wpAnyH P md ops Q S fuel (listed.setIfInBounds i true) a w) → K' a w) → if Region.wanted ⟨d, op, ty, pos, af, g⟩ (yielded ops a.tmps) = true then Oper.wp P ⟨d, op, ty, pos, af, g⟩ a w K' Q else K' (a.put d undef) w) :
    wpAnyH P md ops Q S (fuel + 1) listed a w :=
  wpAnyH_ready hr (by simp) (AllReadyH.cons hi h AllReadyH.nil)
end Go.Proofs.Ytakbehoglgebmaa
/-
  Layer 9's rows: a frame in cells; the last record of a row, changed or left out; a row of bytes cut; clear of records.
-/
namespace Go.Proofs.Ytakbehoglgebmaa
open Go.RowKit Ins Bin
theorem HasL.grow {α : Type} [Lay α] {w w' : World} {A : Option Addr} {xs : List α} (h : HasL w (· < w.heap.size) A xs) (hb : Below w.heap.size w w') : HasL w' (· < w'.heap.size) A xs := (h.mod (T := fun _ => False) (Mod.of_below hb) (fun _ _ _ h => h)).more (fun _ _ hk => Nat.lt_of_lt_of_le hk hb.size)
theorem SliceV.grow {α : Type} [Lay α] {w w' : World} {xs : List α} {v : Value} (h : SliceV w (· < w.heap.size) xs v) (hb : Below w.heap.size w w') : SliceV w' (· < w'.heap.size) xs v := (h.mod (T := fun _ => False) (Mod.of_below hb) (fun _ _ _ h => h)).more (fun _ _ hk => Nat.lt_of_lt_of_le hk hb.size)
instance : Lay Ty.Fr where
  size := 4
  rep w S x cs := ∃ u v, cs = [u, v, .int .i64 (x.h : Int), .bool x.dead] ∧ SliceV w S x.label u ∧ SliceV w S x.ends v
  len h := by obtain ⟨u, v, rfl, _⟩ := h; rfl
  mod h hm hd := by obtain ⟨u, v, h1, h2, h3⟩ := h; exact ⟨u, v, h1, h2.mod hm hd, h3.mod hm hd⟩
  more h hs := by obtain ⟨u, v, h1, h2, h3⟩ := h; exact ⟨u, v, h1, h2.more hs, h3.more hs⟩
instance : Ones Ty.Fr := ⟨fun h u hu => by
  obtain ⟨a, b, rfl, h1, h2⟩ := h
  simp at hu; rcases hu with rfl | rfl | rfl | rfl
  · exact h1.one
  · exact h2.one
  · rfl
  · rfl⟩
/-- A row of bytes, cut. -/
theorem own_cut {w : World} {base n m c : Nat} {e : TypeId} {A : Option Addr} {l : List UInt8} (h : w.ownsRow base e 1 (.slice A n c) n (bytesOf l)) (hm : m ≤ n) : w.ownsRow base e 1 (.slice A m c) m (bytesOf (l.take m)) := by
  have hl := h.1
  rw [bytesOf_length, Nat.mul_one] at hl
  refine ⟨by rw [bytesOf_length, List.length_take]; omega, ?_⟩
  rcases h.2 with ⟨h1, h2⟩ | ⟨g, cap, cur, h1, h2, h3, h4, h5, h6, h7⟩
  · injection h1 with h1 _ h3
    subst h1 h3
    exact .inl ⟨by rw [show m = 0 by omega], by omega⟩
  · injection h1 with h1 _ h3
    subst h1 h3
    refine .inr ⟨g, c, cur, rfl, h2, h3, by omega, h5, h6, ?_⟩
    have h8 : (cur.toList.take (n * 1)).take m = (bytesOf l).take m := by rw [h7]
    rw [List.take_take, Nat.min_eq_left (by omega)] at h8
    rw [Nat.mul_one, h8, bytesOf, bytesOf, List.map_take]
theorem take_get {l xs : List Value} (h : ∀ (j : Nat) (u : Value), xs[j]? = some u → l[j]? = some u) : l.take xs.length = xs := by
  apply List.ext_getElem?
  intro j
  rw [List.getElem?_take]
  by_cases hj : j < xs.length
  · rw [if_pos hj, h j xs[j] (List.getElem?_eq_getElem hj), List.getElem?_eq_getElem hj]
  · rw [if_neg hj, List.getElem?_eq_none (by omega)]
/-- The last record of a row; the row with it changed, or left out. -/
theorem OwnL.last {α : Type} [Lay α] {t : TypeId} {w : World} {base : Nat} {S : Nat → Prop} {v : Value} {i : List α} {f : α} (h : OwnL t w base S v (i ++ [f])) :
    ∃ g c cur cs, v = .slice (some ⟨g, 0, none⟩) (i.length + 1) c ∧ i.length + 1 ≤ c ∧ c ≤ maxLen ∧ base ≤ g ∧ w.heap[g]? = some (.cells cur t (0, 0)) ∧ cur.size = c * Lay.size α ∧ Lay.rep w S f cs ∧ (∀ j u, cs[j]? = some u → cur[i.length * Lay.size α + j]? = some u) ∧
      ∀ (w' : World) (cur' : Array Value), w'.heap[g]? = some (.cells cur' t (0, 0)) → cur'.size = cur.size → (∀ j, j < i.length * Lay.size α → cur'[j]? = cur[j]?) → Mod (· = g) w w' → (∀ k, k < w.heap.size → S k → k ≠ g) →
        OwnL t w' base S (.slice (some ⟨g, 0, none⟩) i.length c) i ∧ ∀ f' cs', Lay.rep w' S f' cs' → (∀ j u, cs'[j]? = some u → cur'[i.length * Lay.size α + j]? = some u) → OwnL t w' base S (.slice (some ⟨g, 0, none⟩) (i.length + 1) c) (i ++ [f']) := by
  obtain ⟨ys, h0, h1, h2⟩ := h
  have hys : ∃ yi cs, ys = yi ++ [(f, cs)] ∧ yi.map (·.1) = i := by
    rcases List.eq_nil_or_concat ys with h | ⟨yi, y, h⟩
    · rw [h] at h0; simp at h0
    · have h' : ys = yi ++ [y] := by simpa using h
      rw [h'] at h0
      simp only [List.map_append, List.map_cons, List.map_nil] at h0
      obtain ⟨e1, e2⟩ := List.append_inj' h0 rfl
      simp at e2
      exact ⟨yi, y.2, by rw [h', ← e2], e1⟩
  obtain ⟨yi, cs, rfl, hyi⟩ := hys
  have hil : yi.length = i.length := by rw [← hyi]; simp
  have hfl := flat_len yi (fun y hy => h2 y (by simp [hy]))
  rw [hil] at hfl
  have hcs : cs.length = Lay.size α := Lay.len (h2 (f, cs) (by simp))
  have hlen : (i ++ [f]).length = i.length + 1 := by simp
  rw [hlen] at h1
  rcases h1.2 with ⟨_, h3⟩ | ⟨g, c, cur, rfl, h3, h4, h5, h6, h7, h8⟩
  · omega
  · have hget : ∀ j, j < (i.length + 1) * Lay.size α → cur[j]? = (yi.flatMap (·.2) ++ cs)[j]? := fun j hj => by
      have := congrArg (fun l => l[j]?) h8
      simp only [List.getElem?_take, if_pos hj, Array.getElem?_toList] at this
      rw [this]; simp
    refine ⟨g, c, cur, cs, rfl, h5, h6, h3, h4, h7, h2 (f, cs) (by simp), fun j u hj => ?_, fun w' cur' k1 k2 k3 k4 k5 => ?_⟩
    · have hjl := (List.getElem?_eq_some_iff.1 hj).1
      rw [hget _ (by rw [Nat.succ_mul]; omega), List.getElem?_append_right (by omega), hfl, Nat.add_sub_cancel_left]
      exact hj
    · have hrep : ∀ y ∈ yi, Lay.rep w' S y.1 y.2 := fun y hy => Lay.mod (h2 y (by simp [hy])) k4 (fun k hk hs => k5 k hk hs)
      have hcap : (i.length + 1) * Lay.size α ≤ c * Lay.size α := Nat.mul_le_mul_right _ h5
      rw [Nat.succ_mul] at hcap
      have hpre : ∀ j u, (yi.flatMap (·.2))[j]? = some u → cur'.toList[j]? = some u := fun j u hj => by
        have hjl := (List.getElem?_eq_some_iff.1 hj).1
        rw [Array.getElem?_toList, k3 j (by omega), hget j (by rw [Nat.succ_mul]; omega), List.getElem?_append_left hjl]
        exact hj
      refine ⟨⟨yi, hyi, ⟨hfl, .inr ⟨g, c, cur', rfl, h3, k1, by omega, h6, k2.trans h7, ?_⟩⟩, hrep⟩, fun f' cs' q1 q2 => ?_⟩
      · rw [← hfl]
        exact take_get hpre
      · have hcs' : cs'.length = Lay.size α := Lay.len q1
        refine ⟨yi ++ [(f', cs')], by simp [hyi], ?_, fun y hy => ?_⟩
        · rw [show (i ++ [f']).length = i.length + 1 by simp]
          have hf2 : ((yi ++ [(f', cs')]).flatMap (·.2)) = yi.flatMap (·.2) ++ cs' := by simp
          have hl2 : (yi.flatMap (·.2) ++ cs').length = (i.length + 1) * Lay.size α := by rw [List.length_append, hfl, hcs', Nat.succ_mul]
          rw [hf2]
          refine ⟨hl2, .inr ⟨g, c, cur', rfl, h3, k1, h5, h6, k2.trans h7, ?_⟩⟩
          rw [← hl2]
          refine take_get (fun j u hj => ?_)
          by_cases hjl : j < (yi.flatMap (·.2)).length
          · rw [List.getElem?_append_left hjl] at hj
            exact hpre j u hj
          · rw [List.getElem?_append_right (by omega), hfl] at hj
            have := q2 _ _ hj
            rw [hfl] at hjl
            rw [Array.getElem?_toList]
            rwa [show i.length * Lay.size α + (j - i.length * Lay.size α) = j by omega] at this
        · rcases List.mem_append.1 hy with hy | hy
          · exact hrep y hy
          · simp at hy; subst hy; exact q1
/-- One cell of the last record is written. -/
theorem OwnL.setLast {α : Type} [Lay α] {t : TypeId} {w : World} {base g c : Nat} {S : Nat → Prop} {i : List α} {f : α} (h : OwnL t w base S (.slice (some ⟨g, 0, none⟩) (i.length + 1) c) (i ++ [f])) (hS : ∀ k, k < w.heap.size → S k → k ≠ g) (j : Nat) (z : Value) (f' : α)
    (hrep : ∀ cs, Lay.rep w S f cs → Lay.rep w S f' (cs.set j z)) : OwnL t (w.setCell ⟨g, i.length * Lay.size α + j, none⟩ z) base S (.slice (some ⟨g, 0, none⟩) (i.length + 1) c) (i ++ [f']) := by
  obtain ⟨g', c', cur, cs, e, h2, h3, h4, h5, h6, h7, h8, h9⟩ := h.last
  injection e with e1 _ e3
  injection e1 with e1
  injection e1 with e1 _ _
  subst e1 e3
  have hM : Mod (· = g) w (w.setCell ⟨g, i.length * Lay.size α + j, none⟩ z) := Mod.setCell (T := (· = g)) (Mod.refl _ w) (fun _ => rfl) _
  have hr := hrep cs h7
  refine (h9 _ _ (heap_setCell_same w g _ _ _ _ h5) (by simp) (fun k hk => ?_) hM hS).2 f' _ (Lay.mod hr hM (fun k hk hs e => hS k hk hs e)) (fun k u hk => ?_)
  · rw [Array.getElem?_setIfInBounds_ne (by omega)]
  · have hlen : cs.length = Lay.size α := Lay.len h7
    have hcap : (i.length + 1) * Lay.size α ≤ c * Lay.size α := Nat.mul_le_mul_right _ h2
    rw [Nat.succ_mul] at hcap
    rw [List.getElem?_set] at hk
    by_cases hkj : j = k
    · subst hkj
      rw [if_pos rfl] at hk
      split at hk
      · next hlt =>
        rw [Array.getElem?_setIfInBounds_self_of_lt (by omega)]
        exact hk
      · cases hk
    · rw [if_neg hkj] at hk
      rw [Array.getElem?_setIfInBounds_ne (by omega)]
      exact h8 k u hk
/-- The last record is left out. -/
theorem OwnL.dropLast {α : Type} [Lay α] {t : TypeId} {w : World} {base g c : Nat} {S : Nat → Prop} {i : List α} {f : α} (h : OwnL t w base S (.slice (some ⟨g, 0, none⟩) (i.length + 1) c) (i ++ [f])) (hS : ∀ k, k < w.heap.size → S k → k ≠ g) : OwnL t w base S (.slice (some ⟨g, 0, none⟩) i.length c) i := by
  obtain ⟨g', c', cur, cs, e, h2, h3, h4, h5, h6, h7, h8, h9⟩ := h.last
  injection e with e1 _ e3
  injection e1 with e1
  injection e1 with e1 _ _
  subst e1 e3
  exact (h9 w cur h5 rfl (fun _ _ => rfl) (Mod.refl _ w) hS).1
set_option maxRecDepth 100000 in
set_option maxHeartbeats 4000000 in
/-- Clone: a row of the call's own, where it isn't nil. -/
theorem sclone8_any (xs : List UInt8) (v : Value) (w : World) (hv : SliceV w (· < w.heap.size) xs v) (hl : xs.length ≤ 4294967296) :
    Calls Try.prog 31 #[v] w fun e w' => ∃ u, e = .returned u ∧ OwnL 5 w' w.heap.size (· < w'.heap.size) u xs ∧ Below w.heap.size w w' ∧ ∀ g, u.ownBlock = some g → w.heap.size ≤ g := by
  obtain ⟨A, c, rfl, h1, h2, h3, hL⟩ := hv
  cases A with
  | none =>
    obtain rfl := h3 rfl
    have hx : xs = [] := List.eq_nil_of_length_eq_zero (by omega)
    subst hx
    clear h1 h2 h3 hL hl
    have heq := Lib.run_eql_slice_nil (P := Try.prog) w 34 5 none 0 0 0 0 undUInt8
    simp only [List.length_nil]
    go_enter Try.func31, Try.ntmps31
    go_wp2_with fail
    go_ret
    exact ⟨_, rfl, OwnL.nil _ _ _ _, Below.refl _ _, fun g hg => by simp [Value.ownBlock] at hg⟩
  | some a =>
    have hb0 : Below w.heap.size w (w.alloc (.cells #[] 5)) := (Below.refl _ _).alloc (Nat.le_refl _) _
    have hO := OwnL.lit0 (α := UInt8) 5 w w.heap.size (fun k => k < w.heap.size) (Nat.le_refl _)
    obtain ⟨v5, w5, hrun, hO5, hM5, hT5⟩ := appendL undUInt8 infUInt8 (by decide) rfl (by decide) (w.alloc (.cells #[] 5)) w.heap.size (fun k => k < w.heap.size) (.slice (some ⟨w.heap.size, 0, none⟩) 0 0) [] xs (some a) xs.length c hO (hL.mod (T := fun _ => False) (Mod.of_below hb0) (fun _ _ _ h => h)) rfl (by simpa using hl) hb0.size (fun g _ hg e => by simp [Value.ownBlock] at e; omega)
    have HRUN := Lib.hid hrun
    have hB : Below w.heap.size w w5 := hb0.trans (hM5.below hb0.size (fun k hk e => by simp [Value.ownBlock] at e; omega))
    have HO := Lib.hid ((hO5.more (S' := (· < w5.heap.size)) (fun g _ hg => Nat.lt_of_lt_of_le hg.1 hB.size)))
    have HB := Lib.hid hB
    have HG : Hid (∀ g, v5.ownBlock = some g → w.heap.size ≤ g) := Lib.hid (fun g hg => by
      rcases hT5 g hg with h | h
      · simp [Value.ownBlock] at h; omega
      · simp at h; omega)
    obtain ⟨n, hn⟩ : ∃ n, xs.length = n := ⟨_, rfl⟩
    rw [hn] at HRUN
    rw [hn]
    clear hn hrun hO5 hM5 hT5 hB hO hb0 hL h1 h2 h3 hl
    have heq := Lib.run_eql_slice_nil (P := Try.prog) w 34 5 (some a) n c 0 0 undUInt8
    go_enter Try.func31, Try.ntmps31
    go_wp2_with (at_builtin; refine wpList_appends rfl (.tmp 5) (.tmp 6) 34 rfl _ _ _ w5 rfl rfl HRUN.out ?_)
    go_ret
    exact ⟨_, rfl, HO.out, HB.out, HG.out⟩
/-- clear of one record at the end of a row. -/
theorem run_clear_one {P : Program} (w : World) (t e ty : TypeId) (z : Value) (ht : P.underlying t = some (.slice e)) (hv : ∀ w, (zeroValue e).run P w = .ok z w) (hz : z.cells.toList.all (·.oneCell') = true) (b o c : Nat)
    (hc : ∀ j, j < z.cells.size → (w.cell? ⟨b, o + j, none⟩).isSome = true) (hf : ∀ j, j < z.cells.size → w.frozen? ⟨b, o + j, none⟩ = false) :
    (Builtin.clear_ #[t] ty #[.slice (some ⟨b, o, none⟩) 1 c]).run P w = .ok (.tuple #[]) (w.setCells b o z.cells.toList) := by
  have hzc : (Builtin.zeroCells z.cells 1).toList = z.cells.toList := by
    simp [Builtin.zeroCells]
    apply List.ext_getElem
    · simp
    · intro i h1 h2
      simp at h1
      simp [Nat.mod_eq_of_lt h1, getElem!_pos z.cells i h1]
  have hst := run_storeCells_cells (P := P) b o z.cells.toList 0 w (by simpa using hc) (by simpa using hf) (by intro v hv'; exact List.all_eq_true.1 hz v hv')
  simp only [Nat.add_zero] at hst
  simp [Builtin.clear_, run_underlying ht, hv, hzc, hst]
end Go.Proofs.Ytakbehoglgebmaa
