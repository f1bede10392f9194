/-
  Layer 9's plain mathematics (no program): the document's stack, whose frames hold their own operands; each call of it is the program's.
-/
import Derived.Test.YthkglmkpnhhboaaTyM
namespace Ty
/-- The document's frame. -/
structure RF where
  label : List UInt8
  ends : List UInt8
  own : List UInt8
  dead : Bool
structure R where
  l : List RF
  loose : Nat
  most : Nat
def total : List RF → Nat
  | [] => 0
  | f :: r => f.own.length + total r
theorem total_append : ∀ (a b : List RF), total (a ++ b) = total a + total b
  | [], b => by simp [total]
  | f :: a, b => by simp [total, total_append a b]; omega
def R.height (r : R) : Nat := r.loose + total r.l
def heights : Nat → List RF → List Fr
  | _, [] => []
  | b, f :: r => ⟨f.label, f.ends, b, f.dead⟩ :: heights (b + f.own.length) r
theorem heights_append : ∀ (b : Nat) (x y : List RF), heights b (x ++ y) = heights b x ++ heights (b + total x) y
  | b, [], y => by simp [heights, total]
  | b, f :: x, y => by simp [heights, total, heights_append _ x y, Nat.add_assoc]
theorem heights_length : ∀ (b : Nat) (x : List RF), (heights b x).length = x.length
  | _, [] => rfl
  | b, f :: x => by simp [heights, heights_length _ x]
theorem heights_label : ∀ (b : Nat) (x : List RF), (heights b x).map (·.label) = x.map (·.label)
  | _, [] => rfl
  | b, f :: x => by simp [heights, heights_label _ x]
theorem sum_total : ∀ (x : List RF), (x.map (fun a => a.own.length)).sum = total x
  | [] => rfl
  | f :: x => by simp [total, sum_total x]
theorem flat_total (x : List RF) : (x.flatMap (·.own)).length = total x := by rw [List.length_flatMap, sum_total]
/-- The program's stack, of the document's and what was pushed with no frame open. -/
def toT (base : List UInt8) (r : R) : T := ⟨base ++ r.l.flatMap (·.own), heights base.length r.l, r.most⟩
def R.start : R := ⟨[], 0, 0⟩
def R.op (r : R) (a b : List UInt8) : R := ⟨r.l ++ [⟨a, b, [], false⟩], r.loose, r.most⟩
def R.new (e : List UInt8) : R := R.start.op e e
/-- What Push lays, ahead of what is the most. -/
def R.lay (r : R) (l : List UInt8) : R :=
  match r.l.getLast? with
  | none => ⟨r.l, r.loose + l.length, r.most⟩
  | some f => ⟨r.l.dropLast ++ [⟨f.label, f.ends, f.own ++ l, f.dead⟩], r.loose, r.most⟩
def R.push (r : R) (l : List UInt8) : R := ⟨(r.lay l).l, (r.lay l).loose, max r.most (r.lay l).height⟩
/-- The document's Fits, of own operands from the last one on. -/
def fits (dead : Bool) : List UInt8 → List UInt8 → Option (List UInt8)
  | own, [] => some own
  | [], _ :: l => if dead then fits dead [] l else none
  | x :: own, y :: l => if fit x y then fits dead own l else none
def R.last (r : R) : Option RF := r.l.getLast?
def R.setOwn (r : R) (own : List UInt8) : R :=
  match r.last with
  | none => r
  | some f => ⟨r.l.dropLast ++ [⟨f.label, f.ends, own, f.dead⟩], r.loose, r.most⟩
def fitsL (f : RF) (l : List UInt8) : Option (List UInt8) := (fits f.dead f.own.reverse l.reverse).map List.reverse
theorem fits_len (dead : Bool) : ∀ (own l : List UInt8), own.length < l.length → dead = false → fits dead own l = none
  | own, [], h, _ => by simp at h
  | [], y :: l, _, hd => by simp [fits, hd]
  | x :: own, y :: l, h, hd => by
    unfold fits
    split
    · exact fits_len dead own l (by simpa using h) hd
    · rfl
theorem fits_dead : ∀ (l : List UInt8), fits true [] l = some []
  | [] => rfl
  | y :: l => by simp [fits, fits_dead l]
theorem fits_no (dead : Bool) : ∀ (own l : List UInt8), ((own.zip l).all fun p => fit p.1 p.2) = false → fits dead own l = none
  | own, [], h => by simp at h
  | [], y :: l, h => by simp at h
  | x :: own, y :: l, h => by
    simp only [List.zip_cons_cons, List.all_cons] at h
    unfold fits
    split
    · next hf =>
      rw [hf] at h
      exact fits_no dead own l (by simpa using h)
    · rfl
theorem fits_yes (dead : Bool) : ∀ (own l : List UInt8), ((own.zip l).all fun p => fit p.1 p.2) = true → (l.length ≤ own.length ∨ dead = true) → fits dead own l = some (own.drop l.length)
  | own, [], _, _ => by simp [fits]
  | [], y :: l, h, hd => by
    have : dead = true := by rcases hd with h | h; simp at h; exact h
    subst this
    rw [fits_dead]; simp
  | x :: own, y :: l, h, hd => by
    simp only [List.zip_cons_cons, List.all_cons, Bool.and_eq_true] at h
    unfold fits
    rw [if_pos h.1, fits_yes dead own l h.2 (by simpa using hd)]
    simp
/-- What the document leaves of a frame is what the program leaves. -/
theorem fitsL_without (pre : List UInt8) (f : RF) (l : List UInt8) :
    without (pre ++ f.own) ⟨f.label, f.ends, pre.length, f.dead⟩ l = (fitsL f l).map (fun o => pre.length + o.length) ∧ ∀ o, fitsL f l = some o → o = f.own.take o.length := by
  unfold without fitsL
  have e1 : (pre ++ f.own).length - pre.length = f.own.length := by simp
  simp only [e1, List.drop_left]
  by_cases h1 : f.own.length < l.length ∧ f.dead = false
  · rw [if_pos h1, fits_len f.dead _ _ (by simpa using h1.1) h1.2]
    exact ⟨rfl, fun o h => by simp at h⟩
  · rw [if_neg h1]
    by_cases h2 : fitAll f.own l = true
    · have hle : l.reverse.length ≤ f.own.reverse.length ∨ f.dead = true := by
        simp only [List.length_reverse]
        cases hd : f.dead with
        | true => exact .inr rfl
        | false => exact .inl (by rw [hd] at h1; simp at h1; exact h1)
      rw [if_pos h2, fits_yes f.dead _ _ h2 hle]
      refine ⟨?_, fun o h => ?_⟩
      · simp only [Option.map_some, Option.some.injEq, List.length_append, List.length_reverse, List.length_drop]
        omega
      · simp only [Option.map_some, Option.some.injEq] at h
        subst h
        rw [List.drop_reverse, List.reverse_reverse]
        simp
    · rw [if_neg h2, fits_no f.dead _ _ (by unfold fitAll at h2; simpa using h2)]
      exact ⟨rfl, fun o h => by simp at h⟩
theorem toT_new (e : List UInt8) : toT [] (R.new e) = T.new e := rfl
theorem toT_nil {base : List UInt8} {r : R} (h : r.l = []) : (toT base r).last = none := last_nil (by simp [toT, h, heights])
theorem toT_frs {base : List UInt8} {r : R} {i : List RF} {f : RF} (h : r.l = i ++ [f]) : (toT base r).frs = heights base.length i ++ [⟨f.label, f.ends, (base ++ i.flatMap (·.own)).length, f.dead⟩] := by
  simp only [toT, h, heights_append, heights, List.length_append, flat_total]
theorem toT_last {base : List UInt8} {r : R} {i : List RF} {f : RF} (h : r.l = i ++ [f]) : (toT base r).last = some ⟨f.label, f.ends, (base ++ i.flatMap (·.own)).length, f.dead⟩ := last_of (toT_frs h)
theorem toT_ops {base : List UInt8} {r : R} {i : List RF} {f : RF} (h : r.l = i ++ [f]) : (toT base r).ops = (base ++ i.flatMap (·.own)) ++ f.own := by simp [toT, h]
theorem toT_height (base : List UInt8) (r : R) (h : base.length = r.loose) : (toT base r).ops.length = r.height := by
  simp [toT, R.height, h, sum_total]
theorem rparts (r : R) : r.l = [] ∨ ∃ i f, r.l = i ++ [f] := by
  rcases List.eq_nil_or_concat r.l with h | ⟨i, f, h⟩
  · exact .inl h
  · exact .inr ⟨i, f, by simpa using h⟩
theorem rlast {r : R} {i : List RF} {f : RF} (h : r.l = i ++ [f]) : r.l.getLast? = some f := by rw [h]; simp
theorem toT_push (base : List UInt8) (r : R) (l : List UInt8) (hb : base.length = r.loose) : ∃ base', base'.length = (r.push l).loose ∧ (toT base r).push l = toT base' (r.push l) := by
  rcases rparts r with h | ⟨i, f, h⟩
  · refine ⟨base ++ l, ?_, ?_⟩
    · simp [R.push, R.lay, h, hb]
    · simp [T.push, toT, R.push, R.lay, h, heights, R.height, total, hb]
  · refine ⟨base, ?_, ?_⟩
    · simp [R.push, R.lay, rlast h, hb]
    · simp [T.push, toT, R.push, R.lay, h, heights, heights_append, R.height, total, total_append, hb, sum_total]
      omega
theorem toT_op (base : List UInt8) (r : R) (a b : List UInt8) : (toT base r).op a b = toT base (r.op a b) := by
  simp [T.op, toT, R.op, heights_append, heights, sum_total]
/-- Pop of the document: what is told, and what is left. -/
def R.popA (r : R) : UInt8 × Bool :=
  match r.last with
  | none => (0, false)
  | some f => if f.own.length = 0 then (0, f.dead) else (f.own.getLast?.getD 0, true)
def R.pop (r : R) : R :=
  match r.last with
  | none => r
  | some f => if f.own.length = 0 then r else r.setOwn f.own.dropLast
theorem toT_pop (base : List UInt8) (r : R) : (toT base r).popA = r.popA ∧ (toT base r).pop = toT base r.pop := by
  rcases rparts r with h | ⟨i, f, h⟩
  · simp [T.popA, T.pop, R.popA, R.pop, toT_nil h, R.last, h]
  · have e : (toT base r).ops.length ≤ (base ++ i.flatMap (·.own)).length ↔ f.own.length = 0 := by
      rw [toT_ops h, List.length_append]; omega
    simp only [T.popA, T.pop, R.popA, R.pop, toT_last h, R.last, rlast h, e]
    by_cases h0 : f.own.length = 0
    · simp [h0]
    · have hne : f.own ≠ [] := fun e => h0 (by simp [e])
      simp only [if_neg h0]
      refine ⟨?_, ?_⟩
      · rw [toT_ops h, List.getLast?_append]
        cases hg : f.own.getLast? with
        | none => exact absurd (List.getLast?_eq_none_iff.1 hg) hne
        | some x => rfl
      · rw [toT_ops h, toT_frs h, List.dropLast_append_of_ne_nil hne]
        simp [R.setOwn, R.last, toT, h, heights_append, heights, sum_total]
def R.wantA (r : R) (l : List UInt8) : Bool :=
  match r.last with
  | none => false
  | some f => (fitsL f l).isSome
def R.want (r : R) (l : List UInt8) : R :=
  match r.last with
  | none => r
  | some f => match fitsL f l with
    | none => r
    | some o => r.setOwn o
theorem cut_own (pre own : List UInt8) (o : List UInt8) (ho : o = own.take o.length) : (pre ++ own).take (pre.length + o.length) = pre ++ o := by
  rw [List.take_append, List.take_of_length_le (by omega), Nat.add_sub_cancel_left, ← ho]
theorem toT_want (base : List UInt8) (r : R) (l : List UInt8) : (toT base r).wantA l = r.wantA l ∧ (toT base r).want l = toT base (r.want l) := by
  rcases rparts r with h | ⟨i, f, h⟩
  · simp [T.wantA, T.want, T.wout, R.wantA, R.want, toT_nil h, R.last, h]
  · obtain ⟨e1, e2⟩ := fitsL_without (base ++ i.flatMap (·.own)) f l
    simp only [T.wantA, T.want, T.wout, R.wantA, R.want, toT_last h, R.last, rlast h, toT_ops h, e1]
    cases hf : fitsL f l with
    | none => simp
    | some o =>
      refine ⟨rfl, ?_⟩
      simp only [Option.map_some]
      unfold T.cutTo
      rw [toT_ops h, toT_frs h, cut_own _ _ _ (e2 o hf)]
      simp [R.setOwn, R.last, toT, h, heights_append, heights, sum_total]
def R.closeA (r : R) : Option (List UInt8) :=
  match r.last with
  | none => none
  | some f => match fitsL f f.ends with
    | none => none
    | some o => if o.length = 0 then some f.ends else none
def R.close (r : R) : R :=
  match r.last with
  | none => r
  | some f => match fitsL f f.ends with
    | none => r
    | some o => if o.length = 0 then ⟨r.l.dropLast, r.loose, r.most⟩ else r
theorem toT_close (base : List UInt8) (r : R) : (toT base r).closeA = r.closeA ∧ (toT base r).close = toT base r.close := by
  rcases rparts r with h | ⟨i, f, h⟩
  · simp [T.closeA, T.close, R.closeA, R.close, toT_nil h, R.last, h]
  · obtain ⟨e1, e2⟩ := fitsL_without (base ++ i.flatMap (·.own)) f f.ends
    simp only [T.closeA, T.close, R.closeA, R.close, toT_last h, R.last, rlast h, toT_ops h, e1]
    cases hf : fitsL f f.ends with
    | none => simp
    | some o =>
      simp only [Option.map_some]
      by_cases h0 : o.length = 0
      · have ho : o = [] := List.eq_nil_of_length_eq_zero h0
        subst ho
        simp only [List.length_nil, Nat.add_zero, Nat.le_refl, if_true, true_and]
        rw [toT_frs h, List.take_left' rfl]
        simp [toT, h]
      · have hgt : ¬ (base ++ i.flatMap (·.own)).length + o.length ≤ (base ++ i.flatMap (·.own)).length := by omega
        simp only [if_neg hgt, if_neg h0, and_self]
def R.kill (r : R) : R :=
  match r.last with
  | none => r
  | some f => ⟨r.l.dropLast ++ [⟨f.label, f.ends, [], true⟩], r.loose, r.most⟩
theorem toT_kill (base : List UInt8) (r : R) : (toT base r).kill = toT base r.kill := by
  rcases rparts r with h | ⟨i, f, h⟩
  · simp [T.kill, R.kill, toT_nil h, R.last, h]
  · simp only [T.kill, R.kill, toT_last h, R.last, rlast h, toT_ops h, toT_frs h]
    rw [List.take_left]
    simp [toT, h, heights_append, heights, sum_total]
def R.labelA (r : R) (n : Nat) : Option (List UInt8) := (r.l.reverse[n]?).map (·.label)
theorem toT_label (base : List UInt8) (r : R) (n : Nat) : (toT base r).labelA n = r.labelA n := by
  have e := heights_label base.length r.l
  unfold T.labelA R.labelA
  have h1 := congrArg (fun l => l.reverse[n]?) e
  simp only [← List.map_reverse, List.getElem?_map] at h1
  exact h1
end Ty
