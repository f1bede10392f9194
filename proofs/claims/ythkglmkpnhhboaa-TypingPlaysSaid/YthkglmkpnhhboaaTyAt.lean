/-
  Layer 9's program: the calls of a stack whose blocks go by one letter; of one stack that a law has made. (gen/typing/at.py)
-/
import Derived.Test.YthkglmkpnhhboaaTyLabel
namespace Ty
/-- No more than n of anything. -/
def T.sm (s : T) (n : Nat) : Prop := s.ops.length ≤ n ∧ s.most ≤ n ∧ s.frs.length ≤ n ∧ ∀ f ∈ s.frs, f.label.length ≤ n ∧ f.ends.length ≤ n
theorem T.sm.up {s : T} {n m : Nat} (h : s.sm n) (hm : n ≤ m) : s.sm m := ⟨by have := h.1; omega, by have := h.2.1; omega, by have := h.2.2.1; omega, fun f hf => ⟨by have := (h.2.2.2 f hf).1; omega, by have := (h.2.2.2 f hf).2; omega⟩⟩
theorem sm_push {s : T} {n k : Nat} (h : s.sm n) {l : List UInt8} (hl : l.length ≤ k) : (s.push l).sm (n + k) := by
  obtain ⟨h1, h2, h3, h4⟩ := h
  exact ⟨by simp [T.push]; omega, by simp [T.push]; omega, by simp [T.push]; omega, fun f hf => ⟨by have := (h4 f hf).1; omega, by have := (h4 f hf).2; omega⟩⟩
theorem sm_op {s : T} {n k : Nat} (h : s.sm n) {a b : List UInt8} (ha : a.length ≤ k) (hb : b.length ≤ k) (hk : 1 ≤ k) : (s.op a b).sm (n + k) := by
  obtain ⟨h1, h2, h3, h4⟩ := h
  refine ⟨by simp [T.op]; omega, by simp [T.op]; omega, by simp [T.op]; omega, fun f hf => ?_⟩
  simp [T.op] at hf
  rcases hf with hf | rfl
  · exact ⟨by have := (h4 f hf).1; omega, by have := (h4 f hf).2; omega⟩
  · exact ⟨by simp; omega, by simp; omega⟩
theorem sm_cut {s : T} {n : Nat} (h : s.sm n) (k : Nat) : (s.cutTo k).sm n := ⟨by have := h.1; simp [T.cutTo]; omega, h.2.1, h.2.2.1, h.2.2.2⟩
theorem sm_pop {s : T} {n : Nat} (h : s.sm n) : s.pop.sm n := by
  unfold T.pop
  cases s.last with
  | none => exact h
  | some f =>
    dsimp only
    split
    · exact h
    · exact ⟨by have := h.1; simp; omega, h.2.1, h.2.2.1, h.2.2.2⟩
theorem sm_want {s : T} {n : Nat} (h : s.sm n) (l : List UInt8) : (s.want l).sm n := by
  unfold T.want
  cases s.wout l with
  | none => exact h
  | some k => exact sm_cut h k
theorem sm_close {s : T} {n : Nat} (h : s.sm n) : s.close.sm n := by
  unfold T.close
  cases s.last with
  | none => exact h
  | some f =>
    dsimp only
    cases without s.ops f f.ends with
    | none => exact h
    | some k =>
      dsimp only
      split
      · exact ⟨by have := h.1; simp; omega, h.2.1, by have := h.2.2.1; simp; omega, fun g hg => h.2.2.2 g ((List.dropLast_sublist _).subset hg)⟩
      · exact h
theorem sm_kill {s : T} {n : Nat} (h : s.sm n) : s.kill.sm n := by
  unfold T.kill
  rcases parts s with hn | ⟨i, f, hf⟩
  · rw [last_nil hn]; exact h
  · rw [last_of hf]
    dsimp only
    have hd : s.frs.dropLast = i := by rw [hf]; simp
    rw [hd]
    obtain ⟨h1, h2, h3, h4⟩ := h
    have hfm := h4 f (by rw [hf]; simp)
    rw [hf] at h3
    refine ⟨by simp; omega, h2, by simpa using h3, fun g hg => ?_⟩
    simp at hg
    rcases hg with hg | rfl
    · exact h4 g (by rw [hf]; simp [hg])
    · exact hfm
theorem sm_new {e : List UInt8} {n : Nat} (h : e.length ≤ n) (hn : 1 ≤ n) : (T.new e).sm n := by
  have := sm_op (k := n) (n := 0) (s := T.start) ⟨by simp [T.start], by simp [T.start], by simp [T.start], fun f hf => by simp [T.start] at hf⟩ h h hn
  simpa [T.new] using this
end Ty
namespace Go.Proofs.Ythkglmkpnhhboaa
open Go.RowKit Ins Bin
/-- The stack in block P; its blocks are F's, all of them there. -/
def AtF (w : World) (F : Nat → Prop) (P : Nat) (s : Ty.T) : Prop := (∃ vo vf, Stk w F P s vo vf) ∧ s.ok ∧ ∀ k, F k → k < w.heap.size
/-- From one world to another a stack's blocks alone have changed, or new ones come. -/
def Nxt (F : Nat → Prop) (w : World) (F' : Nat → Prop) (w' : World) : Prop := (∀ k, F' k → F k ∨ w.heap.size ≤ k) ∧ Mod F w w'
theorem TPost.at {F : Nat → Prop} {w w' : World} {P : Nat} {s' : Ty.T} (h : TPost F w P s' w') (hok : s'.ok) : ∃ F', AtF w' F' P s' ∧ Nxt F w F' w' := by
  obtain ⟨F', vo, vf, h1, h2, h3⟩ := h
  have hO := own_lt h1.ops
  have hF := h1.frs.lt
  refine ⟨fun k => F' k ∧ k < w'.heap.size, ⟨⟨vo, vf, ⟨h1.blk, h1.ops, h1.frs.more (fun k hk hs => ⟨⟨hs.1, hk⟩, hs.2⟩), ⟨h1.inP, h1.lt⟩, fun k e => ⟨h1.inO k e, hO k e⟩, fun k e => ⟨h1.inF k e, (hF k e).2⟩⟩⟩, hok, fun k hk => hk.2⟩, fun k hk => h2 k hk.1, h3⟩
theorem AtF.on {w w' : World} {F : Nat → Prop} {P : Nat} {s : Ty.T} (h : AtF w F P s) (hb : Below w.heap.size w w') : AtF w' F P s := by
  obtain ⟨⟨vo, vf, h1⟩, h2, h3⟩ := h
  exact ⟨⟨vo, vf, h1.on hb⟩, h2, fun k hk => Nat.lt_of_lt_of_le (h3 k hk) hb.size⟩
theorem AtF.mod {w w' : World} {F T : Nat → Prop} {P : Nat} {s : Ty.T} (h : AtF w F P s) (hm : Mod T w w') (ht : ∀ k, F k → ¬ T k) : AtF w' F P s := by
  obtain ⟨⟨vo, vf, h1⟩, h2, h3⟩ := h
  exact ⟨⟨vo, vf, h1.mod hm (fun k _ hk => ht k hk)⟩, h2, fun k hk => Nat.lt_of_lt_of_le (h3 k hk) hm.size⟩
section
variable {w : World} {F : Nat → Prop} {P n : Nat} {s : Ty.T}
theorem at_push (h : AtF w F P s) (hs : s.sm n) (hn : n ≤ 500000000) (l : List UInt8) (A : Option Addr) (c : Nat) (hA : Has w w.heap.size A l) (hl : l.length ≤ 400000000) :
    Calls Try.prog 10 #[.pointer (some ⟨P, 0, none⟩), .slice A l.length c] w fun e w' => e = .returned (.tuple #[]) ∧ ∃ F', AtF w' F' P (s.push l) ∧ Nxt F w F' w' := by
  obtain ⟨⟨vo, vf, h1⟩, h2, h3⟩ := h
  refine (tpush_any h1 l A c hA (by have := hs.1; omega) (by have := hs.2.1; omega)).mono ?_
  rintro e w' ⟨rfl, ht⟩
  exact ⟨rfl, ht.at (Ty.ok_push h2 l)⟩
theorem at_want (h : AtF w F P s) (hs : s.sm n) (hn : n ≤ 500000000) (l : List UInt8) (A : Option Addr) (c : Nat) (hA : Has w w.heap.size A l) (hl : l.length ≤ 400000000) :
    Calls Try.prog 14 #[.pointer (some ⟨P, 0, none⟩), .slice A l.length c] w fun e w' => e = .returned (.bool (s.wantA l)) ∧ ∃ F', AtF w' F' P (s.want l) ∧ Nxt F w F' w' := by
  obtain ⟨⟨vo, vf, h1⟩, h2, h3⟩ := h
  refine (twant_any h1 h2 l A c hA (by have := hs.1; omega) (by omega) (by have := hs.2.2.1; omega)).mono ?_
  rintro e w' ⟨rfl, ht⟩
  exact ⟨rfl, ht.at (Ty.ok_want h2 l)⟩
theorem at_pop (h : AtF w F P s) (hs : s.sm n) (hn : n ≤ 500000000) :
    Calls Try.prog 12 #[.pointer (some ⟨P, 0, none⟩)] w fun e w' => e = .returned (.tuple #[.int .u8 (s.popA.1.toNat : Int), .bool s.popA.2]) ∧ ∃ F', AtF w' F' P s.pop ∧ Nxt F w F' w' := by
  obtain ⟨⟨vo, vf, h1⟩, h2, h3⟩ := h
  refine (tpop_any h1 h2 (by have := hs.1; omega) (by have := hs.2.2.1; omega)).mono ?_
  rintro e w' ⟨rfl, ht⟩
  exact ⟨rfl, ht.at (Ty.ok_pop h2)⟩
theorem at_dead (h : AtF w F P s) (hs : s.sm n) (hn : n ≤ 500000000) :
    Calls Try.prog 20 #[.pointer (some ⟨P, 0, none⟩)] w fun e w' => e = .returned (.tuple #[]) ∧ ∃ F', AtF w' F' P s.kill ∧ Nxt F w F' w' := by
  obtain ⟨⟨vo, vf, h1⟩, h2, h3⟩ := h
  refine (tdead_any h1 h2 (by have := hs.2.2.1; omega)).mono ?_
  rintro e w' ⟨rfl, ht⟩
  exact ⟨rfl, ht.at (Ty.ok_kill h2)⟩
theorem at_open (h : AtF w F P s) (hs : s.sm n) (hn : n ≤ 500000000) (a b : List UInt8) (va vb : Value) (ha : SliceV w (· < w.heap.size) a va) (hb : SliceV w (· < w.heap.size) b vb) (hl1 : a.length ≤ 400000000) (hl2 : b.length ≤ 400000000) :
    Calls Try.prog 16 #[.pointer (some ⟨P, 0, none⟩), va, vb] w fun e w' => e = .returned (.tuple #[]) ∧ ∃ F', AtF w' F' P (s.op a b) ∧ Nxt F w F' w' := by
  obtain ⟨⟨vo, vf, h1⟩, h2, h3⟩ := h
  refine (topen_any h1 a b va vb ha hb (by omega) (by omega) (by have := hs.2.2.1; omega)).mono ?_
  rintro e w' ⟨rfl, ht⟩
  exact ⟨rfl, ht.at (Ty.ok_op h2 a b)⟩
theorem at_close (h : AtF w F P s) (hs : s.sm n) (hn : n ≤ 500000000) :
    Calls Try.prog 18 #[.pointer (some ⟨P, 0, none⟩)] w fun e w' => ansS F s.closeA e w' ∧ ∃ F', AtF w' F' P s.close ∧ Nxt F w F' w' := by
  obtain ⟨⟨vo, vf, h1⟩, h2, h3⟩ := h
  refine (tclose_any h1 h2 (by have := hs.1; omega) (fun f hf => by have := (hs.2.2.2 f hf).2; omega) (by have := hs.2.2.1; omega)).mono ?_
  rintro e w' ⟨ha, ht⟩
  exact ⟨ha, ht.at (Ty.ok_close h2)⟩
theorem at_label (h : AtF w F P s) (hs : s.sm n) (hn : n ≤ 500000000) (k : Nat) (hk : k < 4294967296) :
    Calls Try.prog 22 #[.pointer (some ⟨P, 0, none⟩), .int .u32 (k : Int)] w fun e w' => ansS (w.heap.size ≤ ·) (s.labelA k) e w' ∧ Below w.heap.size w w' := by
  obtain ⟨⟨vo, vf, h1⟩, h2, h3⟩ := h
  exact tlabel_any h1 k hk (fun f hf => by have := (hs.2.2.2 f hf).1; omega) (by have := hs.2.2.1; omega)
theorem at_frames (h : AtF w F P s) : Calls Try.prog 24 #[.pointer (some ⟨P, 0, none⟩)] w fun e w' => w' = w ∧ e = .returned (.int .i64 (s.frs.length : Int)) := by
  obtain ⟨⟨vo, vf, h1⟩, _⟩ := h
  exact tframes_any h1
theorem at_height (h : AtF w F P s) : Calls Try.prog 25 #[.pointer (some ⟨P, 0, none⟩)] w fun e w' => w' = w ∧ e = .returned (.int .i64 (s.ops.length : Int)) := by
  obtain ⟨⟨vo, vf, h1⟩, _⟩ := h
  exact theight_any h1
theorem at_most (h : AtF w F P s) : Calls Try.prog 27 #[.pointer (some ⟨P, 0, none⟩)] w fun e w' => w' = w ∧ e = .returned (.int .i64 (s.most : Int)) := by
  obtain ⟨⟨vo, vf, h1⟩, _⟩ := h
  exact tmost_any h1
theorem at_new (e : List UInt8) (ve : Value) (w : World) (he : SliceV w (· < w.heap.size) e ve) (h1 : e.length ≤ 400000000) :
    Calls Try.prog 8 #[ve] w fun r w' => ∃ P F, r = .returned (.pointer (some ⟨P, 0, none⟩)) ∧ AtF w' F P (Ty.T.new e) ∧ (∀ k, F k → w.heap.size ≤ k) ∧ Below w.heap.size w w' := by
  refine (tnew_any e ve w he (by omega)).mono ?_
  rintro r w' ⟨P, F, vo, vf, rfl, q1, q2, q3⟩
  have hO := own_lt q1.ops
  have hF := q1.frs.lt
  exact ⟨P, fun k => F k ∧ k < w'.heap.size, rfl, ⟨⟨vo, vf, ⟨q1.blk, q1.ops, q1.frs.more (fun k hk hs => ⟨⟨hs.1, hk⟩, hs.2⟩), ⟨q1.inP, q1.lt⟩, fun k e => ⟨q1.inO k e, hO k e⟩, fun k e => ⟨q1.inF k e, (hF k e).2⟩⟩⟩, Ty.ok_new e, fun k hk => hk.2⟩, fun k hk => q2 k hk.1, q3⟩
end
/-- One stack, made since w0. -/
def One (w0 w : World) (P : Nat) (s : Ty.T) : Prop := ∃ F, AtF w F P s ∧ (∀ k, F k → w0.heap.size ≤ k) ∧ Below w0.heap.size w0 w
theorem One.next {w0 w w' : World} {F F' : Nat → Prop} {P : Nat} {s' : Ty.T} (h1 : ∀ k, F k → w0.heap.size ≤ k) (h2 : Below w0.heap.size w0 w) (h3 : AtF w' F' P s') (h4 : Nxt F w F' w') : One w0 w' P s' :=
  ⟨F', h3, fun k hk => by
    rcases h4.1 k hk with h | h
    · exact h1 k h
    · exact Nat.le_trans h2.size h, h2.trans (h4.2.below h2.size (fun k hk hf => by have := h1 k hf; omega))⟩
theorem One.on {w0 w w' : World} {P : Nat} {s : Ty.T} (h : One w0 w P s) (hb : Below w.heap.size w w') : One w0 w' P s := by
  obtain ⟨F, h1, h2, h3⟩ := h
  exact ⟨F, h1.on hb, h2, h3.trans (hb.mono h3.size)⟩
theorem One.below {w0 w : World} {P : Nat} {s : Ty.T} (h : One w0 w P s) : Below w0.heap.size w0 w := by
  obtain ⟨_, _, _, h⟩ := h
  exact h
section
variable {w0 w : World} {P n : Nat} {s : Ty.T}
theorem st1_push (h : One w0 w P s) (hs : s.sm n) (hn : n ≤ 500000000) (l : List UInt8) (A : Option Addr) (c : Nat) (hA : Has w w.heap.size A l) (hl : l.length ≤ 400000000) :
    Calls Try.prog 10 #[.pointer (some ⟨P, 0, none⟩), .slice A l.length c] w fun e w' => e = .returned (.tuple #[]) ∧ One w0 w' P (s.push l) := by
  obtain ⟨F, h1, h2, h3⟩ := h
  refine (at_push h1 hs hn l A c hA hl).mono ?_
  rintro e w' ⟨rfl, F', q1, q2⟩
  exact ⟨rfl, One.next h2 h3 q1 q2⟩
theorem st1_want (h : One w0 w P s) (hs : s.sm n) (hn : n ≤ 500000000) (l : List UInt8) (A : Option Addr) (c : Nat) (hA : Has w w.heap.size A l) (hl : l.length ≤ 400000000) :
    Calls Try.prog 14 #[.pointer (some ⟨P, 0, none⟩), .slice A l.length c] w fun e w' => e = .returned (.bool (s.wantA l)) ∧ One w0 w' P (s.want l) := by
  obtain ⟨F, h1, h2, h3⟩ := h
  refine (at_want h1 hs hn l A c hA hl).mono ?_
  rintro e w' ⟨rfl, F', q1, q2⟩
  exact ⟨rfl, One.next h2 h3 q1 q2⟩
theorem st1_pop (h : One w0 w P s) (hs : s.sm n) (hn : n ≤ 500000000) :
    Calls Try.prog 12 #[.pointer (some ⟨P, 0, none⟩)] w fun e w' => e = .returned (.tuple #[.int .u8 (s.popA.1.toNat : Int), .bool s.popA.2]) ∧ One w0 w' P s.pop := by
  obtain ⟨F, h1, h2, h3⟩ := h
  refine (at_pop h1 hs hn).mono ?_
  rintro e w' ⟨rfl, F', q1, q2⟩
  exact ⟨rfl, One.next h2 h3 q1 q2⟩
theorem st1_dead (h : One w0 w P s) (hs : s.sm n) (hn : n ≤ 500000000) :
    Calls Try.prog 20 #[.pointer (some ⟨P, 0, none⟩)] w fun e w' => e = .returned (.tuple #[]) ∧ One w0 w' P s.kill := by
  obtain ⟨F, h1, h2, h3⟩ := h
  refine (at_dead h1 hs hn).mono ?_
  rintro e w' ⟨rfl, F', q1, q2⟩
  exact ⟨rfl, One.next h2 h3 q1 q2⟩
theorem st1_open (h : One w0 w P s) (hs : s.sm n) (hn : n ≤ 500000000) (a b : List UInt8) (va vb : Value) (ha : SliceV w (· < w.heap.size) a va) (hb : SliceV w (· < w.heap.size) b vb) (hl1 : a.length ≤ 400000000) (hl2 : b.length ≤ 400000000) :
    Calls Try.prog 16 #[.pointer (some ⟨P, 0, none⟩), va, vb] w fun e w' => e = .returned (.tuple #[]) ∧ One w0 w' P (s.op a b) := by
  obtain ⟨F, h1, h2, h3⟩ := h
  refine (at_open h1 hs hn a b va vb ha hb hl1 hl2).mono ?_
  rintro e w' ⟨rfl, F', q1, q2⟩
  exact ⟨rfl, One.next h2 h3 q1 q2⟩
/-- What Close or Label tells, read in the world at hand. -/
def ansH (o : Option (List UInt8)) (e : Ending) (w' : World) : Prop :=
  match o with
  | none => e = .returned (.tuple #[.slice none 0 0, .bool false])
  | some l => ∃ A c, e = .returned (.tuple #[.slice A l.length c, .bool true]) ∧ l.length ≤ c ∧ c ≤ maxLen ∧ (A = none → c = 0) ∧ Has w' w'.heap.size A l
theorem ansS.h {S : Nat → Prop} {o : Option (List UInt8)} {e : Ending} {w' : World} (h : ansS S o e w') : ansH o e w' := by
  cases o with
  | none => exact h
  | some l =>
    obtain ⟨A, c, rfl, A', c', e1, h1, h2, h3, h4⟩ := h
    injection e1 with e1 _ e2
    subst e1 e2
    exact ⟨A, c, rfl, h1, h2, h3, h4.has⟩
theorem st1_close (h : One w0 w P s) (hs : s.sm n) (hn : n ≤ 500000000) :
    Calls Try.prog 18 #[.pointer (some ⟨P, 0, none⟩)] w fun e w' => ansH s.closeA e w' ∧ One w0 w' P s.close := by
  obtain ⟨F, h1, h2, h3⟩ := h
  refine (at_close h1 hs hn).mono ?_
  rintro e w' ⟨ha, F', q1, q2⟩
  exact ⟨ha.h, One.next h2 h3 q1 q2⟩
theorem st1_label (h : One w0 w P s) (hs : s.sm n) (hn : n ≤ 500000000) (k : Nat) (hk : k < 4294967296) :
    Calls Try.prog 22 #[.pointer (some ⟨P, 0, none⟩), .int .u32 (k : Int)] w fun e w' => ansH (s.labelA k) e w' ∧ One w0 w' P s := by
  obtain ⟨F, h1, h2, h3⟩ := h
  refine (at_label h1 hs hn k hk).mono ?_
  rintro e w' ⟨ha, hb⟩
  exact ⟨ha.h, One.on ⟨F, h1, h2, h3⟩ hb⟩
theorem st1_frames (h : One w0 w P s) : Calls Try.prog 24 #[.pointer (some ⟨P, 0, none⟩)] w fun e w' => w' = w ∧ e = .returned (.int .i64 (s.frs.length : Int)) := by
  obtain ⟨F, h1, _⟩ := h
  exact at_frames h1
theorem st1_height (h : One w0 w P s) : Calls Try.prog 25 #[.pointer (some ⟨P, 0, none⟩)] w fun e w' => w' = w ∧ e = .returned (.int .i64 (s.ops.length : Int)) := by
  obtain ⟨F, h1, _⟩ := h
  exact at_height h1
theorem st1_most (h : One w0 w P s) : Calls Try.prog 27 #[.pointer (some ⟨P, 0, none⟩)] w fun e w' => w' = w ∧ e = .returned (.int .i64 (s.most : Int)) := by
  obtain ⟨F, h1, _⟩ := h
  exact at_most h1
theorem st1_new (e : List UInt8) (ve : Value) (w : World) (he : SliceV w (· < w.heap.size) e ve) (h1 : e.length ≤ 400000000) :
    Calls Try.prog 8 #[ve] w fun r w' => ∃ P, r = .returned (.pointer (some ⟨P, 0, none⟩)) ∧ One w w' P (Ty.T.new e) := by
  refine (at_new e ve w he h1).mono ?_
  rintro r w' ⟨P, F, rfl, q1, q2, q3⟩
  exact ⟨P, rfl, F, q1, q2, q3⟩
end
end Go.Proofs.Ythkglmkpnhhboaa
