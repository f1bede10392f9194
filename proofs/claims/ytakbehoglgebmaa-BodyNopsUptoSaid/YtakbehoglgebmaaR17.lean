/-
  The contracts of opc's functions that only compute: within, Float, Known, Width, Form, typeOf: for every opcode they tell what the plain functions tell, and change nothing.
-/
import Derived.Test.YtakbehoglgebmaaRows
import Derived.Test.YtakbehoglgebmaaR02
import Derived.WalkKit
import Derived.RegionTactic
import Derived.Below
import Derived.Outline
import Derived.Lib.Hide
import Derived.Test.YtakbehoglgebmaaR01
import Derived.Test.YtakbehoglgebmaaR04
import Derived.Test.YtakbehoglgebmaaR03
namespace Go.Proofs.Ytakbehoglgebmaa
open Go.RowKit
theorem ret_b {a b : Bool} (h : a = b) : Ending.returned (.bool a) = .returned (.bool b) := by rw [h]
theorem ret_i {k : IntKind} {a b : Int} (h : a = b) : Ending.returned (.int k a) = .returned (.int k b) := by rw [h]
theorem within_any (x a b : Int) (w : World) : Calls Try.prog 83 #[.int .u8 x, .int .u8 a, .int .u8 b] w fun e w' => e = .returned (.bool (Opc.within x a b)) ∧ w = w' := by
  by_cases h1 : a ≤ x
  · by_cases h2 : x ≤ b
    · go_enter Try.func83, Try.ntmps83
      go_wp2
      go_ret
      exact ⟨ret_b (by simp [Opc.within, h1, h2]), rfl⟩
    · go_enter Try.func83, Try.ntmps83
      go_wp2
      go_ret
      exact ⟨ret_b (by simp [Opc.within, h2]), rfl⟩
  · have h3 : decide (a ≤ x) = false := by simpa using h1
    go_enter Try.func83, Try.ntmps83
    go_wp2
    go_ret
    exact ⟨ret_b (by rw [Opc.within, h3]; rfl), rfl⟩
theorem width_any (x : Int) (w : World) : Calls Try.prog 53 #[.int .u8 x] w fun e w' => e = .returned (.int .i64 (Opc.width x)) ∧ w = w' := by
  go_enter Try.func53, Try.ntmps53
  go_wp2
  all_goals (go_ret; exact ⟨ret_i (by unfold Opc.width; simp_all), rfl⟩)
theorem form_any (x : Int) (w : World) : Calls Try.prog 60 #[.int .u8 x] w fun e w' => e = .returned (.int .u8 (Opc.form x)) ∧ w = w' := by
  go_enter Try.func60, Try.ntmps60
  go_wp2_with (go_at_call 53; refine (width_any _ _).mono ?_; rintro e w' ⟨rfl, rfl⟩)
  all_goals (go_ret; exact ⟨ret_i (by unfold Opc.form; simp_all), rfl⟩)
theorem float_any (x : Int) (w : World) : Calls Try.prog 84 #[.int .u8 x] w fun e w' => e = .returned (.bool (Opc.float x)) ∧ w = w' := by
  cases h1 : Opc.within x 91 102
  case true =>
    go_enter Try.func84, Try.ntmps84
    go_wp2_with (go_at_call 83; refine (within_any _ _ _ _).mono ?_; rintro e w' ⟨rfl, rfl⟩)
    all_goals (go_ret; exact ⟨ret_b (by unfold Opc.float; simp_all), rfl⟩)
  cases h2 : Opc.within x 139 166
  case true =>
    go_enter Try.func84, Try.ntmps84
    go_wp2_with (go_at_call 83; refine (within_any _ _ _ _).mono ?_; rintro e w' ⟨rfl, rfl⟩)
    all_goals (go_ret; exact ⟨ret_b (by unfold Opc.float; simp_all), rfl⟩)
  cases h3 : Opc.within x 168 171
  case true =>
    go_enter Try.func84, Try.ntmps84
    go_wp2_with (go_at_call 83; refine (within_any _ _ _ _).mono ?_; rintro e w' ⟨rfl, rfl⟩)
    all_goals (go_ret; exact ⟨ret_b (by unfold Opc.float; simp_all), rfl⟩)
  go_enter Try.func84, Try.ntmps84
  go_wp2_with (go_at_call 83; refine (within_any _ _ _ _).mono ?_; rintro e w' ⟨rfl, rfl⟩)
  all_goals (go_ret; exact ⟨ret_b (by unfold Opc.float; simp_all), rfl⟩)
theorem known_any (x : Int) (w : World) : Calls Try.prog 61 #[.int .u8 x] w fun e w' => e = .returned (.bool (Opc.known x)) ∧ w = w' := by
  cases h0 : Opc.within x 40 191
  case true =>
    go_enter Try.func61, Try.ntmps61
    go_wp2_with (first | (go_at_call 83; refine (within_any _ _ _ _).mono ?_; rintro e w' ⟨rfl, rfl⟩) | (go_at_call 84; refine (float_any _ _).mono ?_; rintro e w' ⟨rfl, rfl⟩))
    all_goals (go_ret; exact ⟨ret_b (by unfold Opc.known; simp_all), rfl⟩)
  cases h1 : Opc.within x 0 5
  case true =>
    go_enter Try.func61, Try.ntmps61
    go_wp2_with (go_at_call 83; refine (within_any _ _ _ _).mono ?_; rintro e w' ⟨rfl, rfl⟩)
    all_goals (go_ret; exact ⟨ret_b (by unfold Opc.known; simp_all), rfl⟩)
  cases h2 : Opc.within x 11 17
  case true =>
    go_enter Try.func61, Try.ntmps61
    go_wp2_with (go_at_call 83; refine (within_any _ _ _ _).mono ?_; rintro e w' ⟨rfl, rfl⟩)
    all_goals (go_ret; exact ⟨ret_b (by unfold Opc.known; simp_all), rfl⟩)
  cases h3 : Opc.within x 26 27
  case true =>
    go_enter Try.func61, Try.ntmps61
    go_wp2_with (go_at_call 83; refine (within_any _ _ _ _).mono ?_; rintro e w' ⟨rfl, rfl⟩)
    all_goals (go_ret; exact ⟨ret_b (by unfold Opc.known; simp_all), rfl⟩)
  go_enter Try.func61, Try.ntmps61
  go_wp2_with (go_at_call 83; refine (within_any _ _ _ _).mono ?_; rintro e w' ⟨rfl, rfl⟩)
  all_goals (go_ret; exact ⟨ret_b (by unfold Opc.known; simp_all), rfl⟩)
theorem type_any (x : Int) (w : World) : Calls Try.prog 95 #[.int .u8 x] w fun e w' => e = .returned (.int .u8 (Opc.typeOf x)) ∧ w = w' := by
  cases h1 : Opc.within x 80 90
  case true =>
    go_enter Try.func95, Try.ntmps95
    go_wp2_with (go_at_call 83; refine (within_any _ _ _ _).mono ?_; rintro e w' ⟨rfl, rfl⟩)
    all_goals (go_ret; exact ⟨ret_i (by unfold Opc.typeOf; simp_all), rfl⟩)
  cases h2 : Opc.within x 121 138
  case true =>
    go_enter Try.func95, Try.ntmps95
    go_wp2_with (go_at_call 83; refine (within_any _ _ _ _).mono ?_; rintro e w' ⟨rfl, rfl⟩)
    all_goals (go_ret; exact ⟨ret_i (by unfold Opc.typeOf; simp_all), rfl⟩)
  go_enter Try.func95, Try.ntmps95
  go_wp2_with (go_at_call 83; refine (within_any _ _ _ _).mono ?_; rintro e w' ⟨rfl, rfl⟩)
  all_goals (go_ret; exact ⟨ret_i (by unfold Opc.typeOf; simp_all), rfl⟩)
end Go.Proofs.Ytakbehoglgebmaa
/-
  opc.Sig's contract: for every opcode two slices that read as the plain functions tell, and whether it is plain; all memory that was there is as it was.
-/
namespace Go.Proofs.Ytakbehoglgebmaa
open Go.RowKit
theorem typeU_any (x : Int) (w : World) : Calls Try.prog 95 #[.int .u8 x] w fun e w' => e = .returned (.int .u8 ((Opc.typeU x).toNat : Int)) ∧ w = w' := by
  rw [Opc.typeU_toNat]; exact type_any x w
end Go.Proofs.Ytakbehoglgebmaa
/-
  Layer 10's plain mathematics (no program): what each instruction asks of the stack, and does; a body gone through.
-/
namespace Bo
open Ty
/-- What a body is held against. -/
structure Env where
  func : Nat → Option (List UInt8 × List UInt8)
  table : Bool
  typ : Nat → Option (List UInt8 × List UInt8)
  loc : Nat → Option UInt8
  glob : Nat → Option (UInt8 × Bool)
  mem : Bool
  res : List UInt8
abbrev R := Except Nat T
def turned (s : T) (a b : List UInt8) : R := if s.wantA a = true then .ok ((s.want a).push b) else .error 100
def goes (s : T) (a : List UInt8) : R := if s.wantA a = true then .ok (s.want a).kill else .error 100
/-- A block's result. -/
def ends (a : Nat) : List UInt8 := if a = 64 then [] else [UInt8.ofNat a]
def block (op a : Nat) (s : T) : R :=
  if op = 4 then (if s.wantA [127] = true then .ok ((s.want [127]).op (ends a) (ends a)) else .error 100)
  else .ok (s.op (if op = 3 then [] else ends a) (ends a))
def other (s : T) : R := match s.closeA with
  | none => .error 100
  | some e => .ok (s.close.op e e)
/-- b: it is an if without an else that ends. -/
def fin (b : Bool) (s : T) : R := match s.closeA with
  | none => .error 100
  | some e => if (b && !e.isEmpty) = true then .error 100 else .ok (s.close.push e)
def br (a : Nat) (s : T) : R := match s.labelA a with
  | none => .error 101
  | some l => goes s l
def brIf (a : Nat) (s : T) : R := match s.labelA a with
  | none => .error 101
  | some l => if s.wantA [127] = true then turned (s.want [127]) l l else .error 100
def brTable (a : Nat) (ls : List Nat) (s : T) : R := match s.labelA a with
  | none => .error 101
  | some l => if (ls.all fun n => (s.labelA n).isSome) = true then
      (if (ls.all fun n => decide ((s.labelA n).getD [] = l)) = true ∧ s.wantA [127] = true then goes (s.want [127]) l else .error 100)
    else .error 101
def call (E : Env) (a : Nat) (s : T) : R := match E.func a with
  | none => .error 80
  | some t => turned s t.1 t.2
def callI (E : Env) (a : Nat) (s : T) : R := match E.typ a with
  | none => .error 80
  | some t => if E.table = true then (if s.wantA [127] = true then turned (s.want [127]) t.1 t.2 else .error 100) else .error 80
def drop (s : T) : R := if s.popA.2 = true then .ok s.pop else .error 100
def umax (a b : UInt8) : UInt8 := if a.toNat < b.toNat then b else a
def choose (s : T) : R :=
  if s.wantA [127] = true then
    (if (s.want [127]).popA.2 = true ∧ (s.want [127]).pop.popA.2 = true ∧ fit (s.want [127]).popA.1 (s.want [127]).pop.popA.1 = true
      then .ok ((s.want [127]).pop.pop.push [umax (s.want [127]).popA.1 (s.want [127]).pop.popA.1]) else .error 100)
  else .error 100
def locl (E : Env) (op a : Nat) (s : T) : R := match E.loc a with
  | none => .error 80
  | some t => if op = 32 then turned s [] [t] else if op = 33 then turned s [t] [] else turned s [t] [t]
def gget (E : Env) (a : Nat) (s : T) : R := match E.glob a with
  | none => .error 80
  | some g => turned s [] [g.1]
def gset (E : Env) (a : Nat) (s : T) : R := match E.glob a with
  | none => .error 80
  | some g => if g.2 = true then turned s [g.1] [] else .error 100
def plain (op : Nat) (s : T) : R := turned s (Opc.sigP op) (Opc.sigR op)
def blen (w : Int) : Nat := if w = 1 then 1 else if w = 2 then 2 else if w = 4 then 3 else 4
def access (E : Env) (op a : Nat) (s : T) : R := if E.mem = true then (if blen (Opc.width op) ≤ a then .error 100 else plain op s) else .error 80
def pages (E : Env) (op : Nat) (s : T) : R := if E.mem = true then plain op s else .error 80
def memo (E : Env) (x : Ins.I) (s : T) : R :=
  if x.op = 63 ∨ x.op = 64 then pages E x.op s
  else if 0 < Opc.width x.op then access E x.op x.a s
  else plain x.op s
def vari (E : Env) (x : Ins.I) (s : T) : R :=
  if x.op = 26 then drop s
  else if x.op = 27 then choose s
  else if x.op = 32 ∨ x.op = 33 ∨ x.op = 34 then locl E x.op x.a s
  else if x.op = 35 then gget E x.a s
  else if x.op = 36 then gset E x.a s
  else memo E x s
def flow (E : Env) (x : Ins.I) (s : T) : R :=
  if x.op = 12 then br x.a s
  else if x.op = 13 then brIf x.a s
  else if x.op = 14 then brTable x.a x.l s
  else if x.op = 15 then goes s E.res
  else if x.op = 0 then goes s []
  else if x.op = 16 then call E x.a s
  else if x.op = 17 then callI E x.a s
  else vari E x s
/-- An instruction, with whether the innermost open block is an if without an else. -/
def one (E : Env) (b : Bool) (x : Ins.I) (s : T) : R :=
  if x.op = 2 ∨ x.op = 4 ∨ x.op = 3 then block x.op x.a s
  else if x.op = 5 then other s
  else if x.op = 11 then fin b s
  else flow E x s
def isIf (o : List Bool) : Bool := o.getLast?.getD false
/-- A body, with the blocks that are open ahead of it. -/
def run (E : Env) : List Bool → List Ins.I → T → R
  | _, [], s => .ok s
  | o, x :: xs, s => match one E (isIf o) x s with
    | .error e => .error e
    | .ok s' => match Ins.step o x.op with
      | none => .error 0
      | some o' => run E o' xs s'
/-- Check: an error, or how high the stack grows. -/
def chk (E : Env) (lb : Bool) (xs : List Ins.I) : Except Nat Nat :=
  if Ins.exprB xs = true then
    (if lb = true then
      match run E [] xs (T.new E.res) with
      | .error e => .error e
      | .ok s => if s.closeA.isSome = true then .ok s.most else .error 100
    else .error 100)
  else .error 2
end Bo
/-
  Layer 10's plain mathematics (no program): what stays so while a body is gone through; a nop, a block around all of it, a branch to the outermost label.
-/
namespace Bo
open Ty
theorem frs_op (s : T) (a b : List UInt8) : (s.op a b).frs = s.frs ++ [⟨a, b, s.ops.length, false⟩] := rfl
theorem frs_want (s : T) (l : List UInt8) : (s.want l).frs = s.frs := by
  unfold T.want
  split <;> rfl
theorem frs_pop (s : T) : s.pop.frs = s.frs := by
  unfold T.pop
  split
  · rfl
  · split <;> rfl
theorem closeA_some {s : T} {e : List UInt8} (h : s.closeA = some e) : ∃ i f n, s.frs = i ++ [f] ∧ without s.ops f f.ends = some n ∧ n ≤ f.h ∧ e = f.ends ∧ s.close = ⟨s.ops.take n, i, s.most⟩ := by
  rcases parts s with hn | ⟨i, f, hf⟩
  · unfold T.closeA at h
    rw [last_nil hn] at h
    cases h
  · unfold T.closeA at h
    rw [last_of hf] at h
    dsimp only at h
    cases hw : without s.ops f f.ends with
    | none => rw [hw] at h; cases h
    | some n =>
      rw [hw] at h
      dsimp only at h
      split at h
      · next hle =>
        injection h with h
        refine ⟨i, f, n, hf, hw, hle, h.symm, ?_⟩
        unfold T.close
        rw [last_of hf]
        dsimp only
        rw [hw]
        dsimp only
        rw [if_pos hle, hf]
        simp
      · cases h
/-- What holds of a stack while a body of n open blocks is gone through. -/
def Sh (res : List UInt8) (n : Nat) (s : T) : Prop := s.ok ∧ s.ops.length ≤ s.most ∧ ∃ f r, s.frs = f :: r ∧ f.label = res ∧ f.ends = res ∧ f.h = 0 ∧ r.length = n
section
variable {res : List UInt8} {n : Nat} {s : T}
theorem sh_new (res : List UInt8) : Sh res 0 (T.new res) := ⟨ok_new res, by simp [T.new, T.op, T.start], ⟨res, res, 0, false⟩, [], rfl, rfl, rfl, rfl, rfl⟩
theorem sh_push (h : Sh res n s) (l : List UInt8) : Sh res n (s.push l) := by
  obtain ⟨h1, h2, f, r, h3⟩ := h
  exact ⟨ok_push h1 l, by simp [T.push]; omega, f, r, h3⟩
theorem sh_op (h : Sh res n s) (a b : List UInt8) : Sh res (n + 1) (s.op a b) := by
  obtain ⟨h1, h2, f, r, h3, h4, h5, h6, h7⟩ := h
  exact ⟨ok_op h1 a b, h2, f, r ++ [⟨a, b, s.ops.length, false⟩], by rw [frs_op, h3]; rfl, h4, h5, h6, by simp [h7]⟩
theorem sh_cut (h : Sh res n s) (k : Nat) (hk : (s.cutTo k).ok) : Sh res n (s.cutTo k) := by
  obtain ⟨h1, h2, f, r, h3⟩ := h
  exact ⟨hk, by simp [T.cutTo]; omega, f, r, h3⟩
theorem sh_want (h : Sh res n s) (l : List UInt8) : Sh res n (s.want l) := by
  have h0 := ok_want h.1 l
  unfold T.want at h0 ⊢
  split
  · exact h
  · next k hk => rw [hk] at h0; exact sh_cut h k h0
theorem sh_pop (h : Sh res n s) : Sh res n s.pop := by
  have h0 := ok_pop h.1
  have hf := frs_pop s
  obtain ⟨h1, h2, f, r, h3⟩ := h
  refine ⟨h0, ?_, f, r, by rw [hf]; exact h3⟩
  unfold T.pop
  split
  · exact h2
  · split
    · exact h2
    · simp; omega
theorem sh_kill (h : Sh res n s) : Sh res n s.kill := by
  have h0 := ok_kill h.1
  obtain ⟨h1, h2, f, r, h3, h4, h5, h6, h7⟩ := h
  rcases parts s with hn | ⟨i, g, hg⟩
  · rw [hn] at h3; cases h3
  · have e : s.kill = ⟨s.ops.take g.h, s.frs.dropLast ++ [⟨g.label, g.ends, g.h, true⟩], s.most⟩ := by unfold T.kill; rw [last_of hg]
    rw [e] at h0 ⊢
    refine ⟨h0, by simp; omega, ?_⟩
    rw [hg, List.dropLast_concat]
    cases i with
    | nil =>
      rw [hg] at h3
      injection h3 with e1 e2
      subst e1 e2
      exact ⟨_, [], rfl, h4, h5, h6, by simpa using h7⟩
    | cons f' i' =>
      rw [hg] at h3
      injection h3 with e1 e2
      subst e1 e2
      exact ⟨_, _, rfl, h4, h5, h6, by simpa using h7⟩
theorem sh_close (h : Sh res (n + 1) s) {e : List UInt8} (hc : s.closeA = some e) : Sh res n s.close := by
  have h0 := ok_close h.1
  obtain ⟨h1, h2, f, r, h3, h4, h5, h6, h7⟩ := h
  obtain ⟨i, g, k, hg, _, _, _, he⟩ := closeA_some hc
  rw [he] at h0 ⊢
  refine ⟨h0, by simp; omega, ?_⟩
  cases i with
  | nil =>
    rw [hg] at h3
    injection h3 with e1 e2
    subst e2
    simp at h7
  | cons f' i' =>
    rw [hg] at h3
    injection h3 with e1 e2
    subst e1 e2
    exact ⟨f', i', rfl, h4, h5, h6, by simpa using h7⟩
theorem sh_frs (h : Sh res n s) : s.frs ≠ [] := by
  obtain ⟨h1, h2, f, r, h3, _⟩ := h
  rw [h3]
  simp
theorem sh_turned (h : Sh res n s) {a b : List UInt8} {s' : T} (hs : turned s a b = .ok s') : Sh res n s' := by
  unfold turned at hs
  split at hs
  · injection hs with hs
    subst hs
    exact sh_push (sh_want h a) b
  · cases hs
theorem sh_goes (h : Sh res n s) {a : List UInt8} {s' : T} (hs : goes s a = .ok s') : Sh res n s' := by
  unfold goes at hs
  split at hs
  · injection hs with hs
    subst hs
    exact sh_kill (sh_want h a)
  · cases hs
theorem step_len {o o' : List Bool} {op : Nat} (h : Ins.step o op = some o') :
    ((op = 2 ∨ op = 3 ∨ op = 4) → o'.length = o.length + 1) ∧ (op = 5 → o'.length = o.length ∧ o ≠ []) ∧ (op = 11 → o.length = o'.length + 1) ∧ (¬ (op = 2 ∨ op = 3 ∨ op = 4) → op ≠ 5 → op ≠ 11 → o' = o) := by
  unfold Ins.step at h
  split at h
  · next h1 => injection h with h; subst h; exact ⟨fun _ => by simp, fun e => by omega, fun e => by omega, fun e => by omega⟩
  · split at h
    · next h2 => injection h with h; subst h; exact ⟨fun _ => by simp, fun e => by omega, fun e => by omega, fun e => by omega⟩
    · split at h
      · split at h
        · next h3 =>
          injection h with h; subst h
          have hne : o ≠ [] := fun e => by subst e; simp at h3
          have := List.length_pos_iff.2 hne
          exact ⟨fun e => by omega, fun _ => ⟨by simp; omega, hne⟩, fun e => by omega, fun _ e => by omega⟩
        · cases h
      · split at h
        · split at h
          · cases h
          · next h3 =>
            injection h with h; subst h
            have := List.length_pos_iff.2 h3
            exact ⟨fun e => by omega, fun e => by omega, fun _ => by simp; omega, fun _ _ e => by omega⟩
        · injection h with h; subst h
          exact ⟨fun e => by omega, fun e => by omega, fun e => by omega, fun _ _ _ => rfl⟩
theorem sh_memo {E : Env} {x : Ins.I} {s' : T} (h : Sh res n s) (hs : memo E x s = .ok s') : Sh res n s' := by
  unfold memo at hs
  split at hs
  · unfold pages at hs; split at hs
    · exact sh_turned h hs
    · cases hs
  · split at hs
    · unfold access at hs; split at hs
      · split at hs
        · cases hs
        · exact sh_turned h hs
      · cases hs
    · exact sh_turned h hs
theorem sh_vari {E : Env} {x : Ins.I} {s' : T} (h : Sh res n s) (hs : vari E x s = .ok s') : Sh res n s' := by
  unfold vari at hs
  split at hs
  · unfold drop at hs; split at hs
    · injection hs with hs; subst hs; exact sh_pop h
    · cases hs
  · split at hs
    · unfold choose at hs; split at hs
      · split at hs
        · injection hs with hs; subst hs; exact sh_push (sh_pop (sh_pop (sh_want h _))) _
        · cases hs
      · cases hs
    · split at hs
      · unfold locl at hs; split at hs
        · cases hs
        · split at hs
          · exact sh_turned h hs
          · split at hs
            · exact sh_turned h hs
            · exact sh_turned h hs
      · split at hs
        · unfold gget at hs; split at hs
          · cases hs
          · exact sh_turned h hs
        · split at hs
          · unfold gset at hs; split at hs
            · cases hs
            · split at hs
              · exact sh_turned h hs
              · cases hs
          · exact sh_memo h hs
theorem sh_flow {E : Env} {x : Ins.I} {s' : T} (h : Sh res n s) (hs : flow E x s = .ok s') : Sh res n s' := by
  unfold flow at hs
  split at hs
  · unfold br at hs; split at hs
    · cases hs
    · exact sh_goes h hs
  · split at hs
    · unfold brIf at hs; split at hs
      · cases hs
      · split at hs
        · exact sh_turned (sh_want h _) hs
        · cases hs
    · split at hs
      · unfold brTable at hs; split at hs
        · cases hs
        · split at hs
          · split at hs
            · exact sh_goes (sh_want h _) hs
            · cases hs
          · cases hs
      · split at hs
        · exact sh_goes h hs
        · split at hs
          · exact sh_goes h hs
          · split at hs
            · unfold call at hs; split at hs
              · cases hs
              · exact sh_turned h hs
            · split at hs
              · unfold callI at hs; split at hs
                · cases hs
                · split at hs
                  · split at hs
                    · exact sh_turned (sh_want h _) hs
                    · cases hs
                  · cases hs
              · exact sh_vari h hs
/-- An instruction keeps what holds. -/
theorem sh_one {E : Env} {o o' : List Bool} {b : Bool} {x : Ins.I} {s' : T} (h : Sh E.res o.length s) (hs : one E b x s = .ok s') (ho : Ins.step o x.op = some o') : Sh E.res o'.length s' := by
  obtain ⟨l1, l2, l3, l4⟩ := step_len ho
  unfold one at hs
  split at hs
  · next h1 =>
    rw [l1 (by omega)]
    unfold block at hs
    split at hs
    · split at hs
      · injection hs with hs; subst hs; exact sh_op (sh_want h _) _ _
      · cases hs
    · injection hs with hs; subst hs; exact sh_op h _ _
  · next h1 =>
    split at hs
    · next h2 =>
      obtain ⟨e1, e2⟩ := l2 h2
      rw [e1]
      unfold other at hs
      split at hs
      · cases hs
      · next e he =>
        injection hs with hs; subst hs
        cases o with
        | nil => exact absurd rfl e2
        | cons y ys => exact sh_op (sh_close h he) _ _
    · next h2 =>
      split at hs
      · next h3 =>
        have e := l3 h3
        rw [e] at h
        unfold fin at hs
        split at hs
        · cases hs
        · next e he =>
          split at hs
          · cases hs
          · injection hs with hs; subst hs; exact sh_push (sh_close h he) _
      · next h3 =>
        rw [l4 (by omega) h2 h3]
        exact sh_flow h hs
end
/-- No types wanted, none pushed: nothing is otherwise. -/
theorem turned_none {res : List UInt8} {n : Nat} {s : T} (h : Sh res n s) : turned s [] [] = .ok s := by
  obtain ⟨h1, h2, f, r, h3, _⟩ := h
  rcases parts s with hn | ⟨i, g, hg⟩
  · rw [hn] at h3; cases h3
  · have hw : s.wout [] = some s.ops.length := by
      unfold T.wout
      rw [last_of hg]
      unfold without
      simp [fitAll]
    have hA : s.wantA [] = true := by unfold T.wantA; rw [hw]; rfl
    unfold turned
    rw [if_pos hA]
    unfold T.want
    rw [hw]
    obtain ⟨ops, frs, most⟩ := s
    simp only [T.cutTo, T.push, List.take_length, List.append_nil]
    simp only at h2
    congr 2
    simp only [List.length_nil, Nat.add_zero]
    omega
def nop : Ins.I := ⟨1, 0, 0, 0, []⟩
theorem one_nop {E : Env} {o : List Bool} {s : T} (h : Sh E.res o.length s) : one E (isIf o) nop s = .ok s := by
  have e : one E (isIf o) nop s = turned s [] [] := rfl
  rw [e]
  exact turned_none h
theorem run_nop {E : Env} : ∀ (a b : List Ins.I) (o : List Bool) (s : T), Sh E.res o.length s → run E o (a ++ nop :: b) s = run E o (a ++ b) s
  | [], b, o, s, h => by
    rw [List.nil_append, List.nil_append]
    rw [run, one_nop h]
    rfl
  | x :: a, b, o, s, h => by
    rw [List.cons_append, List.cons_append, run, run]
    split
    · rfl
    · next s' hs =>
      split
      · rfl
      · next o' ho => exact run_nop a b o' s' (sh_one h hs ho)
theorem steps_nop : ∀ (a b : List Ins.I) (o : List Bool), Ins.steps o (a ++ nop :: b) = Ins.steps o (a ++ b)
  | [], b, o => rfl
  | x :: a, b, o => by
    rw [List.cons_append, List.cons_append, Ins.steps, Ins.steps]
    split
    · rfl
    · exact steps_nop a b _
theorem exprB_nop (a b : List Ins.I) : Ins.exprB (a ++ nop :: b) = Ins.exprB (a ++ b) := by
  unfold Ins.exprB
  rw [steps_nop]
  have e : (a ++ nop :: b).all Ins.may = (a ++ b).all Ins.may := by
    rw [List.all_append, List.all_append, List.all_cons]
    rw [show Ins.may nop = true by decide]
    simp
  rw [e]
theorem chk_nop (E : Env) (lb : Bool) (a b : List Ins.I) : chk E lb (a ++ nop :: b) = chk E lb (a ++ b) := by
  unfold chk
  rw [exprB_nop, run_nop a b [] _ (sh_new E.res)]
/-- What is gone through up to its end, and further. -/
theorem run_append {E : Env} : ∀ (a b : List Ins.I) (o : List Bool) (s s' : T), run E o a s = .ok s' → ∃ o', Ins.steps o a = some o' ∧ run E o (a ++ b) s = run E o' b s'
  | [], b, o, s, s', h => by
    rw [run] at h
    injection h with h
    subst h
    exact ⟨o, rfl, rfl⟩
  | x :: a, b, o, s, s', h => by
    rw [run] at h
    rw [List.cons_append, run, Ins.steps]
    split at h
    · cases h
    · next s1 h1 =>
      split at h
      · cases h
      · next o1 ho =>
        first | rw [h1, ho] | rw [ho]
        exact run_append a b o1 s1 s' h
theorem chk_parts {E : Env} {lb : Bool} {xs : List Ins.I} {h : Nat} (hc : chk E lb xs = .ok h) : Ins.exprB xs = true ∧ lb = true ∧ ∃ s, run E [] xs (T.new E.res) = .ok s ∧ s.closeA.isSome = true ∧ s.most = h := by
  unfold chk at hc
  split at hc
  · next h1 =>
    split at hc
    · next h2 =>
      split at hc
      · cases hc
      · next s hs =>
        split at hc
        · next h3 =>
          injection hc with hc
          exact ⟨h1, h2, s, hs, h3, hc⟩
        · cases hc
    · cases hc
  · cases hc
def bad : Ins.I := ⟨32, 4294967295, 0, 0, []⟩
theorem chk_bad {E : Env} {lb : Bool} {xs ys : List Ins.I} {h : Nat} (hc : chk E lb xs = .ok h) (hl : E.loc 4294967295 = none) : chk E lb (xs ++ bad :: ys) = .error 80 ∨ chk E lb (xs ++ bad :: ys) = .error 2 := by
  obtain ⟨h1, h2, s, h3, h4, h5⟩ := chk_parts hc
  obtain ⟨o', h6, h7⟩ := run_append xs (bad :: ys) [] _ s h3
  have hb : one E (isIf o') bad s = .error 80 := by
    have e : one E (isIf o') bad s = locl E 32 4294967295 s := rfl
    rw [e]
    unfold locl
    rw [hl]
  unfold chk
  cases Ins.exprB (xs ++ bad :: ys) with
  | false => exact .inr rfl
  | true =>
    left
    rw [if_pos rfl, if_pos h2, h7, run, hb]
theorem exprB_bad {xs : List Ins.I} (h : Ins.exprB xs = true) : Ins.exprB (xs ++ [bad]) = true := by
  unfold Ins.exprB at h ⊢
  rw [Bool.and_eq_true, beq_iff_eq] at h ⊢
  obtain ⟨h1, h2⟩ := h
  refine ⟨?_, ?_⟩
  · rw [List.all_append, h1]; decide
  · rw [Ins.steps_append _ _ _ _ h2]; rfl
theorem chk_bad1 {E : Env} {lb : Bool} {xs : List Ins.I} {h : Nat} (hc : chk E lb xs = .ok h) (hl : E.loc 4294967295 = none) : chk E lb (xs ++ [bad]) = .error 80 := by
  obtain ⟨h1, h2, s, h3, h4, h5⟩ := chk_parts hc
  obtain ⟨o', h6, h7⟩ := run_append xs [bad] [] _ s h3
  have hb : one E (isIf o') bad s = .error 80 := by
    have e : one E (isIf o') bad s = locl E 32 4294967295 s := rfl
    rw [e]
    unfold locl
    rw [hl]
  unfold chk
  rw [if_pos (exprB_bad h1), if_pos h2, h7, run, hb]
end Bo
