/-
  Layer 10's plain mathematics (no program): what stays so while a body is gone through; a nop, a block around all of it, a branch to the outermost label.
-/
import Derived.Test.YtakbehoglgebmaaQ18
namespace Bo
open Ty
theorem frs_op (s : T) (a b : List UInt8) : (s.op a b).frs = s.frs ++ [⟨a, b, s.ops.length, false⟩] := rfl
theorem frs_want (s : T) (l : List UInt8) : (s.want l).frs = s.frs := by
  unfold T.want
  split <;> rfl
theorem frs_pop (s : T) : s.pop.frs = s.frs := by
  unfold T.pop
  split
  · rfl
  · split <;> rfl
theorem closeA_some {s : T} {e : List UInt8} (h : s.closeA = some e) : ∃ i f n, s.frs = i ++ [f] ∧ without s.ops f f.ends = some n ∧ n ≤ f.h ∧ e = f.ends ∧ s.close = ⟨s.ops.take n, i, s.most⟩ := by
  rcases parts s with hn | ⟨i, f, hf⟩
  · unfold T.closeA at h
    rw [last_nil hn] at h
    cases h
  · unfold T.closeA at h
    rw [last_of hf] at h
    dsimp only at h
    cases hw : without s.ops f f.ends with
    | none => rw [hw] at h; cases h
    | some n =>
      rw [hw] at h
      dsimp only at h
      split at h
      · next hle =>
        injection h with h
        refine ⟨i, f, n, hf, hw, hle, h.symm, ?_⟩
        unfold T.close
        rw [last_of hf]
        dsimp only
        rw [hw]
        dsimp only
        rw [if_pos hle, hf]
        simp
      · cases h
/-- What holds of a stack while a body of n open blocks is gone through. -/
def Sh (res : List UInt8) (n : Nat) (s : T) : Prop := s.ok ∧ s.ops.length ≤ s.most ∧ ∃ f r, s.frs = f :: r ∧ f.label = res ∧ f.ends = res ∧ f.h = 0 ∧ r.length = n
section
variable {res : List UInt8} {n : Nat} {s : T}
theorem sh_new (res : List UInt8) : Sh res 0 (T.new res) := ⟨ok_new res, by simp [T.new, T.op, T.start], ⟨res, res, 0, false⟩, [], rfl, rfl, rfl, rfl, rfl⟩
theorem sh_push (h : Sh res n s) (l : List UInt8) : Sh res n (s.push l) := by
  obtain ⟨h1, h2, f, r, h3⟩ := h
  exact ⟨ok_push h1 l, by simp [T.push]; omega, f, r, h3⟩
theorem sh_op (h : Sh res n s) (a b : List UInt8) : Sh res (n + 1) (s.op a b) := by
  obtain ⟨h1, h2, f, r, h3, h4, h5, h6, h7⟩ := h
  exact ⟨ok_op h1 a b, h2, f, r ++ [⟨a, b, s.ops.length, false⟩], by rw [frs_op, h3]; rfl, h4, h5, h6, by simp [h7]⟩
theorem sh_cut (h : Sh res n s) (k : Nat) (hk : (s.cutTo k).ok) : Sh res n (s.cutTo k) := by
  obtain ⟨h1, h2, f, r, h3⟩ := h
  exact ⟨hk, by simp [T.cutTo]; omega, f, r, h3⟩
theorem sh_want (h : Sh res n s) (l : List UInt8) : Sh res n (s.want l) := by
  have h0 := ok_want h.1 l
  unfold T.want at h0 ⊢
  split
  · exact h
  · next k hk => rw [hk] at h0; exact sh_cut h k h0
theorem sh_pop (h : Sh res n s) : Sh res n s.pop := by
  have h0 := ok_pop h.1
  have hf := frs_pop s
  obtain ⟨h1, h2, f, r, h3⟩ := h
  refine ⟨h0, ?_, f, r, by rw [hf]; exact h3⟩
  unfold T.pop
  split
  · exact h2
  · split
    · exact h2
    · simp; omega
theorem sh_kill (h : Sh res n s) : Sh res n s.kill := by
  have h0 := ok_kill h.1
  obtain ⟨h1, h2, f, r, h3, h4, h5, h6, h7⟩ := h
  rcases parts s with hn | ⟨i, g, hg⟩
  · rw [hn] at h3; cases h3
  · have e : s.kill = ⟨s.ops.take g.h, s.frs.dropLast ++ [⟨g.label, g.ends, g.h, true⟩], s.most⟩ := by unfold T.kill; rw [last_of hg]
    rw [e] at h0 ⊢
    refine ⟨h0, by simp; omega, ?_⟩
    rw [hg, List.dropLast_concat]
    cases i with
    | nil =>
      rw [hg] at h3
      injection h3 with e1 e2
      subst e1 e2
      exact ⟨_, [], rfl, h4, h5, h6, by simpa using h7⟩
    | cons f' i' =>
      rw [hg] at h3
      injection h3 with e1 e2
      subst e1 e2
      exact ⟨_, _, rfl, h4, h5, h6, by simpa using h7⟩
theorem sh_close (h : Sh res (n + 1) s) {e : List UInt8} (hc : s.closeA = some e) : Sh res n s.close := by
  have h0 := ok_close h.1
  obtain ⟨h1, h2, f, r, h3, h4, h5, h6, h7⟩ := h
  obtain ⟨i, g, k, hg, _, _, _, he⟩ := closeA_some hc
  rw [he] at h0 ⊢
  refine ⟨h0, by simp; omega, ?_⟩
  cases i with
  | nil =>
    rw [hg] at h3
    injection h3 with e1 e2
    subst e2
    simp at h7
  | cons f' i' =>
    rw [hg] at h3
    injection h3 with e1 e2
    subst e1 e2
    exact ⟨f', i', rfl, h4, h5, h6, by simpa using h7⟩
theorem sh_frs (h : Sh res n s) : s.frs ≠ [] := by
  obtain ⟨h1, h2, f, r, h3, _⟩ := h
  rw [h3]
  simp
theorem sh_turned (h : Sh res n s) {a b : List UInt8} {s' : T} (hs : turned s a b = .ok s') : Sh res n s' := by
  unfold turned at hs
  split at hs
  · injection hs with hs
    subst hs
    exact sh_push (sh_want h a) b
  · cases hs
theorem sh_goes (h : Sh res n s) {a : List UInt8} {s' : T} (hs : goes s a = .ok s') : Sh res n s' := by
  unfold goes at hs
  split at hs
  · injection hs with hs
    subst hs
    exact sh_kill (sh_want h a)
  · cases hs
theorem step_len {o o' : List Bool} {op : Nat} (h : Ins.step o op = some o') :
    ((op = 2 ∨ op = 3 ∨ op = 4) → o'.length = o.length + 1) ∧ (op = 5 → o'.length = o.length ∧ o ≠ []) ∧ (op = 11 → o.length = o'.length + 1) ∧ (¬ (op = 2 ∨ op = 3 ∨ op = 4) → op ≠ 5 → op ≠ 11 → o' = o) := by
  unfold Ins.step at h
  split at h
  · next h1 => injection h with h; subst h; exact ⟨fun _ => by simp, fun e => by omega, fun e => by omega, fun e => by omega⟩
  · split at h
    · next h2 => injection h with h; subst h; exact ⟨fun _ => by simp, fun e => by omega, fun e => by omega, fun e => by omega⟩
    · split at h
      · split at h
        · next h3 =>
          injection h with h; subst h
          have hne : o ≠ [] := fun e => by subst e; simp at h3
          have := List.length_pos_iff.2 hne
          exact ⟨fun e => by omega, fun _ => ⟨by simp; omega, hne⟩, fun e => by omega, fun _ e => by omega⟩
        · cases h
      · split at h
        · split at h
          · cases h
          · next h3 =>
            injection h with h; subst h
            have := List.length_pos_iff.2 h3
            exact ⟨fun e => by omega, fun e => by omega, fun _ => by simp; omega, fun _ _ e => by omega⟩
        · injection h with h; subst h
          exact ⟨fun e => by omega, fun e => by omega, fun e => by omega, fun _ _ _ => rfl⟩
theorem sh_memo {E : Env} {x : Ins.I} {s' : T} (h : Sh res n s) (hs : memo E x s = .ok s') : Sh res n s' := by
  unfold memo at hs
  split at hs
  · unfold pages at hs; split at hs
    · exact sh_turned h hs
    · cases hs
  · split at hs
    · unfold access at hs; split at hs
      · split at hs
        · cases hs
        · exact sh_turned h hs
      · cases hs
    · exact sh_turned h hs
theorem sh_vari {E : Env} {x : Ins.I} {s' : T} (h : Sh res n s) (hs : vari E x s = .ok s') : Sh res n s' := by
  unfold vari at hs
  split at hs
  · unfold drop at hs; split at hs
    · injection hs with hs; subst hs; exact sh_pop h
    · cases hs
  · split at hs
    · unfold choose at hs; split at hs
      · split at hs
        · injection hs with hs; subst hs; exact sh_push (sh_pop (sh_pop (sh_want h _))) _
        · cases hs
      · cases hs
    · split at hs
      · unfold locl at hs; split at hs
        · cases hs
        · split at hs
          · exact sh_turned h hs
          · split at hs
            · exact sh_turned h hs
            · exact sh_turned h hs
      · split at hs
        · unfold gget at hs; split at hs
          · cases hs
          · exact sh_turned h hs
        · split at hs
          · unfold gset at hs; split at hs
            · cases hs
            · split at hs
              · exact sh_turned h hs
              · cases hs
          · exact sh_memo h hs
theorem sh_flow {E : Env} {x : Ins.I} {s' : T} (h : Sh res n s) (hs : flow E x s = .ok s') : Sh res n s' := by
  unfold flow at hs
  split at hs
  · unfold br at hs; split at hs
    · cases hs
    · exact sh_goes h hs
  · split at hs
    · unfold brIf at hs; split at hs
      · cases hs
      · split at hs
        · exact sh_turned (sh_want h _) hs
        · cases hs
    · split at hs
      · unfold brTable at hs; split at hs
        · cases hs
        · split at hs
          · split at hs
            · exact sh_goes (sh_want h _) hs
            · cases hs
          · cases hs
      · split at hs
        · exact sh_goes h hs
        · split at hs
          · exact sh_goes h hs
          · split at hs
            · unfold call at hs; split at hs
              · cases hs
              · exact sh_turned h hs
            · split at hs
              · unfold callI at hs; split at hs
                · cases hs
                · split at hs
                  · split at hs
                    · exact sh_turned (sh_want h _) hs
                    · cases hs
                  · cases hs
              · exact sh_vari h hs
/-- An instruction keeps what holds. -/
theorem sh_one {E : Env} {o o' : List Bool} {b : Bool} {x : Ins.I} {s' : T} (h : Sh E.res o.length s) (hs : one E b x s = .ok s') (ho : Ins.step o x.op = some o') : Sh E.res o'.length s' := by
  obtain ⟨l1, l2, l3, l4⟩ := step_len ho
  unfold one at hs
  split at hs
  · next h1 =>
    rw [l1 (by omega)]
    unfold block at hs
    split at hs
    · split at hs
      · injection hs with hs; subst hs; exact sh_op (sh_want h _) _ _
      · cases hs
    · injection hs with hs; subst hs; exact sh_op h _ _
  · next h1 =>
    split at hs
    · next h2 =>
      obtain ⟨e1, e2⟩ := l2 h2
      rw [e1]
      unfold other at hs
      split at hs
      · cases hs
      · next e he =>
        injection hs with hs; subst hs
        cases o with
        | nil => exact absurd rfl e2
        | cons y ys => exact sh_op (sh_close h he) _ _
    · next h2 =>
      split at hs
      · next h3 =>
        have e := l3 h3
        rw [e] at h
        unfold fin at hs
        split at hs
        · cases hs
        · next e he =>
          split at hs
          · cases hs
          · injection hs with hs; subst hs; exact sh_push (sh_close h he) _
      · next h3 =>
        rw [l4 (by omega) h2 h3]
        exact sh_flow h hs
end
/-- What is gone through up to its end, and further. -/
theorem run_append {E : Env} : ∀ (a b : List Ins.I) (o : List Bool) (s s' : T), run E o a s = .ok s' → ∃ o', Ins.steps o a = some o' ∧ run E o (a ++ b) s = run E o' b s'
  | [], b, o, s, s', h => by
    rw [run] at h
    injection h with h
    subst h
    exact ⟨o, rfl, rfl⟩
  | x :: a, b, o, s, s', h => by
    rw [run] at h
    rw [List.cons_append, run, Ins.steps]
    split at h
    · cases h
    · next s1 h1 =>
      split at h
      · cases h
      · next o1 ho =>
        first | rw [h1, ho] | rw [ho]
        exact run_append a b o1 s1 s' h
theorem chk_parts {E : Env} {lb : Bool} {xs : List Ins.I} {h : Nat} (hc : chk E lb xs = .ok h) : Ins.exprB xs = true ∧ lb = true ∧ ∃ s, run E [] xs (T.new E.res) = .ok s ∧ s.closeA.isSome = true ∧ s.most = h := by
  unfold chk at hc
  split at hc
  · next h1 =>
    split at hc
    · next h2 =>
      split at hc
      · cases hc
      · next s hs =>
        split at hc
        · next h3 =>
          injection hc with hc
          exact ⟨h1, h2, s, hs, h3, hc⟩
        · cases hc
    · cases hc
  · cases hc
def bad : Ins.I := ⟨32, 4294967295, 0, 0, []⟩
end Bo
