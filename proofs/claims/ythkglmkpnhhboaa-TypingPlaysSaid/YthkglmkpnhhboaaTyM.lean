/-
  Layer 9's plain mathematics (no program): a stack of validation; what a call makes of it; when operands can be taken.
-/
import Derived.Test.YthkglmkpnhhboaaLebM
namespace Ty
/-- An open block. -/
structure Fr where
  label : List UInt8
  ends : List UInt8
  h : Nat
  dead : Bool
structure T where
  ops : List UInt8
  frs : List Fr
  most : Nat
def fit (a b : UInt8) : Bool := a == b || (a == 0 || b == 0)
def fitAll (own l : List UInt8) : Bool := (own.reverse.zip l.reverse).all fun p => fit p.1 p.2
def without (ops : List UInt8) (f : Fr) (l : List UInt8) : Option Nat :=
  if ops.length - f.h < l.length ∧ f.dead = false then none
  else if fitAll (ops.drop f.h) l = true then some (ops.length - min (ops.length - f.h) l.length) else none
def T.last (s : T) : Option Fr := s.frs.getLast?
def T.start : T := ⟨[], [], 0⟩
def T.push (s : T) (l : List UInt8) : T := ⟨s.ops ++ l, s.frs, max s.most (s.ops.length + l.length)⟩
def T.op (s : T) (a b : List UInt8) : T := ⟨s.ops, s.frs ++ [⟨a, b, s.ops.length, false⟩], s.most⟩
def T.new (e : List UInt8) : T := T.start.op e e
def T.popA (s : T) : UInt8 × Bool :=
  match s.last with
  | none => (0, false)
  | some f => if s.ops.length ≤ f.h then (0, f.dead) else (s.ops.getLast?.getD 0, true)
def T.pop (s : T) : T :=
  match s.last with
  | none => s
  | some f => if s.ops.length ≤ f.h then s else ⟨s.ops.dropLast, s.frs, s.most⟩
def T.wout (s : T) (l : List UInt8) : Option Nat :=
  match s.last with
  | none => none
  | some f => without s.ops f l
def T.wantA (s : T) (l : List UInt8) : Bool := (s.wout l).isSome
def T.cutTo (s : T) (n : Nat) : T := ⟨s.ops.take n, s.frs, s.most⟩
def T.want (s : T) (l : List UInt8) : T :=
  match s.wout l with
  | none => s
  | some n => s.cutTo n
/-- The ends that Close tells. -/
def T.closeA (s : T) : Option (List UInt8) :=
  match s.last with
  | none => none
  | some f => match without s.ops f f.ends with
    | none => none
    | some n => if n ≤ f.h then some f.ends else none
def T.close (s : T) : T :=
  match s.last with
  | none => s
  | some f => match without s.ops f f.ends with
    | none => s
    | some n => if n ≤ f.h then ⟨s.ops.take n, s.frs.dropLast, s.most⟩ else s
def T.kill (s : T) : T :=
  match s.last with
  | none => s
  | some f => ⟨s.ops.take f.h, s.frs.dropLast ++ [⟨f.label, f.ends, f.h, true⟩], s.most⟩
def T.labelA (s : T) (n : Nat) : Option (List UInt8) := (s.frs.reverse[n]?).map (·.label)
/-- Frames begin at heights that rise, and that there are. -/
def T.ok (s : T) : Prop := (∀ f ∈ s.frs, f.h ≤ s.ops.length) ∧ s.frs.Pairwise fun a b => a.h ≤ b.h
theorem last_nil {s : T} (h : s.frs = []) : s.last = none := by unfold T.last; rw [h]; rfl
theorem last_of {s : T} {i : List Fr} {f : Fr} (h : s.frs = i ++ [f]) : s.last = some f := by unfold T.last; rw [h]; simp
theorem parts (s : T) : s.frs = [] ∨ ∃ i f, s.frs = i ++ [f] := by
  rcases List.eq_nil_or_concat s.frs with h | ⟨i, f, h⟩
  · exact .inl h
  · exact .inr ⟨i, f, by simpa using h⟩
theorem ok_start : T.start.ok := ⟨fun f h => by simp [T.start] at h, by simp [T.start]⟩
theorem ok_push {s : T} (h : s.ok) (l : List UInt8) : (s.push l).ok := ⟨fun f hf => by have := h.1 f hf; simp [T.push]; omega, h.2⟩
theorem ok_op {s : T} (h : s.ok) (a b : List UInt8) : (s.op a b).ok := by
  refine ⟨fun f hf => ?_, ?_⟩
  · simp [T.op] at hf ⊢
    rcases hf with hf | rfl
    · exact h.1 f hf
    · exact Nat.le_refl _
  · simp only [T.op, List.pairwise_append]
    exact ⟨h.2, by simp, fun a ha b hb => by simp at hb; subst hb; exact h.1 a ha⟩
theorem ok_new (e : List UInt8) : (T.new e).ok := ok_op ok_start e e
theorem last_h {s : T} (h : s.ok) {i : List Fr} {f : Fr} (hf : s.frs = i ++ [f]) : f.h ≤ s.ops.length := h.1 f (by rw [hf]; simp)
theorem below_last {s : T} (h : s.ok) {i : List Fr} {f : Fr} (hf : s.frs = i ++ [f]) : ∀ g ∈ s.frs, g.h ≤ f.h := fun g hg => by
  have h2 := h.2
  rw [hf, List.pairwise_append] at h2
  rw [hf] at hg
  rcases List.mem_append.1 hg with hg | hg
  · exact h2.2.2 g hg f (by simp)
  · simp at hg; subst hg; exact Nat.le_refl _
theorem ok_cut {s : T} (h : s.ok) {i : List Fr} {f : Fr} (hf : s.frs = i ++ [f]) (n : Nat) (hn : f.h ≤ n) : (s.cutTo n).ok := ⟨fun g hg => by
  have h1 := below_last h hf g hg
  have h2 := h.1 g hg
  simp [T.cutTo]; omega, h.2⟩
theorem without_ge {ops : List UInt8} {f : Fr} {l : List UInt8} {n : Nat} (hf : f.h ≤ ops.length) (h : without ops f l = some n) : f.h ≤ n ∧ n ≤ ops.length := by
  unfold without at h
  split at h
  · cases h
  · split at h
    · injection h with h; omega
    · cases h
theorem ok_pop {s : T} (h : s.ok) : s.pop.ok := by
  rcases parts s with hn | ⟨i, f, hf⟩
  · unfold T.pop; rw [last_nil hn]; exact h
  · unfold T.pop; rw [last_of hf]
    dsimp only
    split
    · exact h
    · next hl =>
      have := ok_cut h hf (s.ops.length - 1) (by omega)
      unfold T.cutTo at this
      rwa [← List.dropLast_eq_take] at this
theorem ok_want {s : T} (h : s.ok) (l : List UInt8) : (s.want l).ok := by
  unfold T.want T.wout
  rcases parts s with hn | ⟨i, f, hf⟩
  · rw [last_nil hn]; exact h
  · rw [last_of hf]
    dsimp only
    cases hw : without s.ops f l with
    | none => exact h
    | some n => exact ok_cut h hf n (without_ge (last_h h hf) hw).1
theorem ok_close {s : T} (h : s.ok) : s.close.ok := by
  unfold T.close
  rcases parts s with hn | ⟨i, f, hf⟩
  · rw [last_nil hn]; exact h
  · rw [last_of hf]
    dsimp only
    cases hw : without s.ops f f.ends with
    | none => exact h
    | some n =>
      dsimp only
      split
      · next hle =>
        have hc := ok_cut h hf n (without_ge (last_h h hf) hw).1
        refine ⟨fun g hg => hc.1 g ((List.dropLast_sublist _).subset hg), ?_⟩
        have h2 := h.2
        simp only [hf] at h2 ⊢
        rw [List.pairwise_append] at h2
        simpa using h2.1
      · exact h
theorem ok_kill {s : T} (h : s.ok) : s.kill.ok := by
  unfold T.kill
  rcases parts s with hn | ⟨i, f, hf⟩
  · rw [last_nil hn]; exact h
  · rw [last_of hf]
    dsimp only
    have hc := ok_cut h hf f.h (Nat.le_refl _)
    have h2 := h.2
    rw [hf, List.pairwise_append] at h2
    have hd : s.frs.dropLast = i := by rw [hf]; simp
    rw [hd]
    refine ⟨fun g hg => ?_, ?_⟩
    · simp at hg
      rcases hg with hg | rfl
      · exact hc.1 g (by show g ∈ s.frs; rw [hf]; simp [hg])
      · exact hc.1 f (by show f ∈ s.frs; rw [hf]; simp)
    · simp only [List.pairwise_append]
      exact ⟨h2.1, by simp, fun a ha b hb => by simp at hb; subst hb; exact h2.2.2 a ha f (by simp)⟩
/-- One more fits, or one does not. -/
theorem fit_at {own l : List UInt8} (i : Nat) (hi : i < own.length) (hl : i < l.length) : (own.reverse.zip l.reverse)[i]? = some (own[own.length - 1 - i], l[l.length - 1 - i]) := by
  rw [List.getElem?_zip_eq_some]
  exact ⟨by rw [List.getElem?_reverse hi, List.getElem?_eq_getElem], by rw [List.getElem?_reverse hl, List.getElem?_eq_getElem]⟩
theorem fit_no {own l : List UInt8} (i : Nat) (hi : i < own.length) (hl : i < l.length) (h : fit own[own.length - 1 - i] l[l.length - 1 - i] = false) : fitAll own l = false := by
  unfold fitAll
  rw [List.all_eq_false]
  exact ⟨_, List.mem_of_getElem? (fit_at i hi hl), by simp [h]⟩
theorem fit_yes {own l : List UInt8} (h : ∀ i (hi : i < own.length) (hl : i < l.length), fit own[own.length - 1 - i] l[l.length - 1 - i] = true) : fitAll own l = true := by
  unfold fitAll
  rw [List.all_eq_true]
  intro p hp
  obtain ⟨i, hi⟩ := List.mem_iff_getElem?.1 hp
  have hlt := (List.getElem?_eq_some_iff.1 hi).1
  rw [List.length_zip, List.length_reverse, List.length_reverse] at hlt
  have h1 : i < own.length := by omega
  have h2 : i < l.length := by omega
  rw [fit_at i h1 h2] at hi
  injection hi with hi
  subst hi
  exact h i h1 h2
end Ty
