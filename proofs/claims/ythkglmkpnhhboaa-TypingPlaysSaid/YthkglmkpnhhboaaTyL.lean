/-
  Layer 9's laws, plainly (no program): a stack that is no higher than its most; operands in a dead frame; frames opened and closed again.
-/
import Derived.Test.YthkglmkpnhhboaaTyM
namespace Ty
def T.top (s : T) : Prop := s.ops.length ≤ s.most
theorem top_push {s : T} (_h : s.top) (l : List UInt8) : (s.push l).top := by unfold T.top T.push; simp; omega
theorem top_close {s : T} (h : s.top) : s.close.top := by
  unfold T.close
  rcases parts s with hn | ⟨i, f, hf⟩
  · rw [last_nil hn]; exact h
  · rw [last_of hf]
    dsimp only
    cases without s.ops f f.ends with
    | none => exact h
    | some n =>
      dsimp only
      split
      · unfold T.top at h ⊢; simp; omega
      · exact h
/-- So many fit, from the last one on. -/
def fitTo (own l : List UInt8) (j : Nat) : Bool := ((own.reverse.zip l.reverse).take j).all fun p => fit p.1 p.2
theorem fitTo_zero (own l : List UInt8) : fitTo own l 0 = true := by simp [fitTo]
theorem fitTo_next {own l : List UInt8} (j : Nat) (hi : j < own.length) (hl : j < l.length) : fitTo own l (j + 1) = (fitTo own l j && fit own[own.length - 1 - j] l[l.length - 1 - j]) := by
  unfold fitTo
  rw [List.take_add_one, fit_at j hi hl]
  simp
theorem fitTo_all {own l : List UInt8} (j : Nat) (h : j = min own.length l.length) : fitTo own l j = fitAll own l := by
  unfold fitTo fitAll
  rw [List.take_of_length_le (by simp; omega)]
/-- The stack that TypingDead makes. -/
def deadT (own l : List UInt8) (dead : Bool) : T := ⟨own, [⟨[], [], 0, false⟩, ⟨[], l, 0, dead⟩], own.length⟩
theorem deadT_live (own l : List UInt8) : (((T.new []).op [] l).push own) = deadT own l false := by simp [T.new, T.start, T.op, T.push, deadT]
theorem deadT_dead (own l : List UInt8) : ((((T.new []).op [] l).kill).push own) = deadT own l true := by simp [T.new, T.start, T.op, T.push, T.kill, T.last, deadT]
theorem dead_last (own l : List UInt8) (dead : Bool) : (deadT own l dead).last = some ⟨[], l, 0, dead⟩ := rfl
theorem dead_want (own l : List UInt8) (dead : Bool) : (deadT own l dead).wantA l = ((dead || decide (l.length ≤ own.length)) && fitAll own l) ∧
    ((deadT own l dead).wantA l = false → (deadT own l dead).want l = deadT own l dead) ∧ ((deadT own l dead).wantA l = true → (deadT own l dead).want l = ⟨own.take (own.length - min own.length l.length), (deadT own l dead).frs, own.length⟩) := by
  have e : (deadT own l dead).wout l = without own ⟨[], l, 0, dead⟩ l := rfl
  unfold T.wantA T.want
  rw [e]
  unfold without
  simp only [List.drop_zero, Nat.sub_zero]
  by_cases h1 : own.length < l.length ∧ dead = false
  · rw [if_pos h1]
    have h2 : ¬ l.length ≤ own.length := by omega
    simp [h1.2, h2]
  · rw [if_neg h1]
    have h2 : (dead || decide (l.length ≤ own.length)) = true := by
      cases dead with
      | true => rfl
      | false => simp at h1 ⊢; exact h1
    rw [h2]
    by_cases h3 : fitAll own l = true
    · rw [if_pos h3]
      exact ⟨by simp [h3], fun h => by simp at h, fun _ => rfl⟩
    · rw [if_neg h3]
      have h4 : fitAll own l = false := by simpa using h3
      exact ⟨by simp [h4], fun _ => rfl, fun h => by simp at h⟩
theorem fit_self (x : UInt8) : fit x x = true := by simp [fit]
theorem zip_self : ∀ (l r : List UInt8), ((l ++ r).zip l).all (fun p => fit p.1 p.2) = true
  | [], r => by simp
  | x :: l, r => by simp [fit_self, zip_self l r]
theorem fitAll_behind (a l : List UInt8) : fitAll (a ++ l) l = true := by
  unfold fitAll
  rw [List.reverse_append]
  exact zip_self l.reverse a.reverse
/-- What was taken and is pushed again leaves the frame closed as it was. -/
theorem dead_close (own l : List UInt8) (dead : Bool) (h : (deadT own l dead).wantA l = true) : (((deadT own l dead).want l).push l).closeA = if own.length ≤ l.length then some l else none := by
  rw [(dead_want own l dead).2.2 h]
  unfold T.closeA T.push
  have e : ∀ o m, (T.last ⟨o, (deadT own l dead).frs, m⟩) = some ⟨[], l, 0, dead⟩ := fun _ _ => rfl
  rw [e]
  dsimp only
  unfold without
  rw [if_neg (by simp only [List.length_append, List.length_take]; omega), List.drop_zero, if_pos (fitAll_behind _ _)]
  dsimp only
  simp only [List.length_append, List.length_take, Nat.sub_zero]
  by_cases h1 : own.length ≤ l.length
  · rw [if_pos h1, if_pos (by omega)]
  · rw [if_neg h1, if_neg (by omega)]
theorem top_dead (own l : List UInt8) (dead : Bool) (h : (deadT own l dead).wantA l = true) : (((deadT own l dead).want l).push l).top := by
  rw [(dead_want own l dead).2.2 h]
  unfold T.top T.push
  simp
  omega
/-- The stack that TypingFrames makes of types: an operand ahead of each frame. -/
def framesOf (ts : List UInt8) : List Fr := ts.zipIdx.map fun p => ⟨[p.1], [p.1, p.1], p.2 + 1, false⟩
def frT (ts : List UInt8) (a : UInt8) (m : Nat) : T := ⟨List.replicate ts.length a, ⟨[126], [126], 0, false⟩ :: framesOf ts, m⟩
theorem framesOf_snoc (ts : List UInt8) (t : UInt8) : framesOf (ts ++ [t]) = framesOf ts ++ [⟨[t], [t, t], ts.length + 1, false⟩] := by
  simp [framesOf, List.zipIdx_append]
theorem framesOf_length (ts : List UInt8) : (framesOf ts).length = ts.length := by simp [framesOf]
theorem frT_nil (a : UInt8) : T.new [126] = frT [] a 0 := rfl
theorem frT_snoc (ts : List UInt8) (t a : UInt8) (m : Nat) : ((frT ts a m).push [a]).op [t] [t, t] = frT (ts ++ [t]) a (max m (ts.length + 1)) := by
  simp [T.op, T.push, frT, framesOf_snoc, List.replicate_succ']
theorem frT_frs (ts : List UInt8) (t a : UInt8) (m : Nat) : (frT (ts ++ [t]) a m).frs = (⟨[126], [126], 0, false⟩ :: framesOf ts) ++ [⟨[t], [t, t], ts.length + 1, false⟩] := by simp [frT, framesOf_snoc]
theorem frT_last (ts : List UInt8) (t a : UInt8) (m : Nat) : (frT (ts ++ [t]) a m).last = some ⟨[t], [t, t], ts.length + 1, false⟩ := last_of (frT_frs ts t a m)
theorem frT_pop (ts : List UInt8) (t a : UInt8) (m : Nat) : (frT (ts ++ [t]) a m).popA = (0, false) ∧ (frT (ts ++ [t]) a m).pop = frT (ts ++ [t]) a m := by
  unfold T.popA T.pop
  rw [frT_last]
  simp [frT]
theorem frT_wout (ts : List UInt8) (t a : UInt8) (m : Nat) (x : UInt8) (l : List UInt8) : (frT (ts ++ [t]) a m).wout (x :: l) = none := by
  unfold T.wout
  rw [frT_last]
  simp [without, frT]
theorem frT_want (ts : List UInt8) (t a : UInt8) (m : Nat) (x : UInt8) (l : List UInt8) : (frT (ts ++ [t]) a m).wantA (x :: l) = false ∧ (frT (ts ++ [t]) a m).want (x :: l) = frT (ts ++ [t]) a m := by
  unfold T.wantA T.want
  rw [frT_wout]
  exact ⟨rfl, rfl⟩
theorem frT_label (ts : List UInt8) (t a : UInt8) (m : Nat) : (frT (ts ++ [t]) a m).labelA 0 = some [t] := by
  unfold T.labelA
  rw [frT_frs]
  simp
theorem frT_close0 (ts : List UInt8) (t a : UInt8) (m : Nat) : (frT (ts ++ [t]) a m).closeA = none ∧ (frT (ts ++ [t]) a m).close = frT (ts ++ [t]) a m := by
  have h := frT_wout ts t a m t [t]
  unfold T.wout at h
  rw [frT_last] at h
  unfold T.closeA T.close
  rw [frT_last]
  dsimp only at h ⊢
  rw [h]
  exact ⟨rfl, rfl⟩
theorem frT_close (ts : List UInt8) (t a : UInt8) (m : Nat) : ((frT (ts ++ [t]) a m).push [t, t]).closeA = some [t, t] ∧ (((frT (ts ++ [t]) a m).push [t, t]).close).wantA [a] = true ∧
    (((frT (ts ++ [t]) a m).push [t, t]).close).want [a] = frT ts a (max m (ts.length + 3)) := by
  have e : ((frT (ts ++ [t]) a m).push [t, t]).last = some ⟨[t], [t, t], ts.length + 1, false⟩ := frT_last ts t a m
  have eo : ((frT (ts ++ [t]) a m).push [t, t]).ops = List.replicate (ts.length + 1) a ++ [t, t] := by simp [T.push, frT]
  have hw : without (List.replicate (ts.length + 1) a ++ [t, t]) ⟨[t], [t, t], ts.length + 1, false⟩ [t, t] = some (ts.length + 1) := by
    unfold without
    have hd : (List.replicate (ts.length + 1) a ++ [t, t]).drop (ts.length + 1) = [t, t] := by rw [List.drop_append_of_le_length (by simp)]; simp
    rw [if_neg (by simp), hd, if_pos (show fitAll [t, t] [t, t] = true from fitAll_behind [] [t, t])]
    simp
  have hc : ((frT (ts ++ [t]) a m).push [t, t]).close = ⟨List.replicate (ts.length + 1) a, ⟨[126], [126], 0, false⟩ :: framesOf ts, max m (ts.length + 3)⟩ := by
    unfold T.close
    rw [e, eo]
    dsimp only
    rw [hw]
    dsimp only
    rw [if_pos (Nat.le_refl _)]
    have h1 : (List.replicate (ts.length + 1) a ++ [t, t]).take (ts.length + 1) = List.replicate (ts.length + 1) a := by rw [List.take_append_of_le_length (by simp)]; simp
    have h2 : ((frT (ts ++ [t]) a m).push [t, t]).frs.dropLast = ⟨[126], [126], 0, false⟩ :: framesOf ts := by
      show (frT (ts ++ [t]) a m).frs.dropLast = _
      rw [frT_frs, List.dropLast_concat]
    rw [h1, h2]
    simp [T.push, frT]
  refine ⟨?_, ?_⟩
  · unfold T.closeA
    rw [e, eo]
    dsimp only
    rw [hw]
    dsimp only
    rw [if_pos (Nat.le_refl _)]
  · rw [hc]
    have hl : ∃ la en, T.last ⟨List.replicate (ts.length + 1) a, ⟨[126], [126], 0, false⟩ :: framesOf ts, max m (ts.length + 3)⟩ = some ⟨la, en, ts.length, false⟩ := by
      rcases List.eq_nil_or_concat ts with h | ⟨r, x, h⟩
      · subst h; exact ⟨_, _, rfl⟩
      · have h' : ts = r ++ [x] := by simpa using h
        subst h'
        refine ⟨[x], [x, x], ?_⟩
        have h3 := last_of (s := ⟨List.replicate ((r ++ [x]).length + 1) a, ⟨[126], [126], 0, false⟩ :: framesOf (r ++ [x]), max m ((r ++ [x]).length + 3)⟩) (i := ⟨[126], [126], 0, false⟩ :: framesOf r) (f := ⟨[x], [x, x], r.length + 1, false⟩) (by simp [framesOf_snoc])
        rw [h3]
        simp
    obtain ⟨la, en, hl⟩ := hl
    have hw2 : without (List.replicate (ts.length + 1) a) ⟨la, en, ts.length, false⟩ [a] = some ts.length := by
      unfold without
      have hd : (List.replicate (ts.length + 1) a).drop ts.length = [a] := by simp
      rw [if_neg (by simp), hd, if_pos (show fitAll [a] [a] = true from fitAll_behind [] [a])]
      simp
    unfold T.wantA T.want T.wout
    rw [hl]
    dsimp only
    rw [hw2]
    refine ⟨rfl, ?_⟩
    dsimp only
    unfold T.cutTo frT
    simp
theorem frT_end (a : UInt8) (m : Nat) : (frT [] a m).labelA 0 = some [126] := rfl
end Ty
