/-
  Layer 9's program: the calls of a stack whose blocks go by one letter; of one stack that a law has made. (gen/typing/at.py)
-/
import Derived.Test.YtelcdmkbaegjoaaGreatLq01
import Derived.Test.YtelcdmkbaegjoaaGreatLq23
set_option maxRecDepth 100000
set_option maxHeartbeats 4000000
namespace Ty
def T.sm (s : T) (n : Nat) : Prop := s.ops.length ≤ n ∧ s.most ≤ n ∧ s.frs.length ≤ n ∧ ∀ f ∈ s.frs, f.label.length ≤ n ∧ f.ends.length ≤ n
theorem sm_cut {s : T} {n : Nat} (h : s.sm n) (k : Nat) : (s.cutTo k).sm n := ⟨by have := h.1; simp [T.cutTo]; omega, h.2.1, h.2.2.1, h.2.2.2⟩
theorem sm_pop {s : T} {n : Nat} (h : s.sm n) : s.pop.sm n := by
 unfold T.pop
 cases s.last with
 | none => exact h
 | some f =>
  dsimp only
  split
  ·exact h
  ·exact ⟨by have := h.1; simp; omega, h.2.1, h.2.2.1, h.2.2.2⟩
theorem sm_want {s : T} {n : Nat} (h : s.sm n) (l : List UInt8) : (s.want l).sm n := by
 unfold T.want
 cases s.wout l with
 | none => exact h
 | some k => exact sm_cut h k
theorem sm_close {s : T} {n : Nat} (h : s.sm n) : s.close.sm n := by
 unfold T.close
 cases s.last with
 | none => exact h
 | some f =>
  dsimp only
  cases without s.ops f f.ends with
  | none => exact h
  | some k =>
   dsimp only
   split
   ·exact ⟨by have := h.1; simp; omega, h.2.1, by have := h.2.2.1; simp; omega, fun g hg => h.2.2.2 g ((List.dropLast_sublist _).subset hg)⟩
   ·exact h
end Ty
namespace Go.Proofs.YtelcdmkbaegjoaaGreat
open Go.RowKit Ins Bin
def AtF (w : World) (F : Nat → Prop) (P : Nat) (s : Ty.T) : Prop := (∃ vo vf, Stk w F P s vo vf) ∧ s.ok ∧ ∀ k, F k → k < w.heap.size
def Nxt (F : Nat → Prop) (w : World) (F' : Nat → Prop) (w' : World) : Prop := (∀ k, F' k → F k ∨ w.heap.size ≤ k) ∧ Mod F w w'
theorem aB.at {F : Nat → Prop} {w w' : World} {P : Nat} {s' : Ty.T} (h : aB F w P s' w') (hok : s'.ok) : ∃ F', AtF w' F' P s' ∧ Nxt F w F' w' := by
 obtain ⟨F', vo, vf, h1, h2, h3⟩ := h
 have hO := own_lt h1.ops
 have hF := h1.frs.lt
 refine ⟨fun k => F' k ∧ k < w'.heap.size, ⟨⟨vo, vf, ⟨h1.blk, h1.ops, h1.frs.more (fun k hk hs => ⟨⟨hs.1, hk⟩, hs.2⟩), ⟨h1.inP, h1.lt⟩, fun k e => ⟨h1.inO k e, hO k e⟩, fun k e => ⟨h1.inF k e, (hF k e).2⟩⟩⟩, hok, fun k hk => hk.2⟩, fun k hk => h2 k hk.1, h3⟩
theorem AtF.on {w w' : World} {F : Nat → Prop} {P : Nat} {s : Ty.T} (h : AtF w F P s) (hb : Below w.heap.size w w') : AtF w' F P s := by
 obtain ⟨⟨vo, vf, h1⟩, h2, h3⟩ := h
 exact ⟨⟨vo, vf, h1.on hb⟩, h2, fun k hk => Nat.lt_of_lt_of_le (h3 k hk) hb.size⟩
theorem AtF.mod {w w' : World} {F T : Nat → Prop} {P : Nat} {s : Ty.T} (h : AtF w F P s) (hm : Mod T w w') (ht : ∀ k, F k → ¬ T k) : AtF w' F P s := by
 obtain ⟨⟨vo, vf, h1⟩, h2, h3⟩ := h
 exact ⟨⟨vo, vf, h1.mod hm (fun k _ hk => ht k hk)⟩, h2, fun k hk => Nat.lt_of_lt_of_le (h3 k hk) hm.size⟩
section
variable {w : World} {F : Nat → Prop} {P n : Nat} {s : Ty.T}
theorem at_push (h : AtF w F P s) (hs : s.sm n) (hn : n ≤ 500000000) (l : List UInt8) (A : Option Addr) (c : Nat) (hA : Has w w.heap.size A l) (hl : l.length ≤ 400000000) :
  Calls Tryz.prog 105 #[.pointer (some ⟨P, 0, none⟩), .slice A l.length c] w fun e w' => e = .returned (.tuple #[]) ∧ ∃ F', AtF w' F' P (s.push l) ∧ Nxt F w F' w' := by
 obtain ⟨⟨vo, vf, h1⟩, h2, h3⟩ := h
 refine (tpush_any h1 l A c hA (by have := hs.1; omega) (by have := hs.2.1; omega)).mono ?_
 rintro e w' ⟨rfl, ht⟩
 exact ⟨rfl, ht.at (Ty.ok_push h2 l)⟩
theorem at_want (h : AtF w F P s) (hs : s.sm n) (hn : n ≤ 500000000) (l : List UInt8) (A : Option Addr) (c : Nat) (hA : Has w w.heap.size A l) (hl : l.length ≤ 400000000) :
  Calls Tryz.prog 104 #[.pointer (some ⟨P, 0, none⟩), .slice A l.length c] w fun e w' => e = .returned (.bool (s.wantA l)) ∧ ∃ F', AtF w' F' P (s.want l) ∧ Nxt F w F' w' := by
 obtain ⟨⟨vo, vf, h1⟩, h2, h3⟩ := h
 refine (twant_any h1 h2 l A c hA (by have := hs.1; omega) (by omega) (by have := hs.2.2.1; omega)).mono ?_
 rintro e w' ⟨rfl, ht⟩
 exact ⟨rfl, ht.at (Ty.ok_want h2 l)⟩
theorem at_pop (h : AtF w F P s) (hs : s.sm n) (hn : n ≤ 500000000) :
  Calls Tryz.prog 109 #[.pointer (some ⟨P, 0, none⟩)] w fun e w' => e = .returned (.tuple #[.int .u8 (s.popA.1.toNat : Int), .bool s.popA.2]) ∧ ∃ F', AtF w' F' P s.pop ∧ Nxt F w F' w' := by
 obtain ⟨⟨vo, vf, h1⟩, h2, h3⟩ := h
 refine (tpop_any h1 h2 (by have := hs.1; omega) (by have := hs.2.2.1; omega)).mono ?_
 rintro e w' ⟨rfl, ht⟩
 exact ⟨rfl, ht.at (Ty.ok_pop h2)⟩
theorem at_dead (h : AtF w F P s) (hs : s.sm n) (hn : n ≤ 500000000) :
  Calls Tryz.prog 120 #[.pointer (some ⟨P, 0, none⟩)] w fun e w' => e = .returned (.tuple #[]) ∧ ∃ F', AtF w' F' P s.kill ∧ Nxt F w F' w' := by
 obtain ⟨⟨vo, vf, h1⟩, h2, h3⟩ := h
 refine (tdead_any h1 h2 (by have := hs.2.2.1; omega)).mono ?_
 rintro e w' ⟨rfl, ht⟩
 exact ⟨rfl, ht.at (Ty.ok_kill h2)⟩
theorem at_open (h : AtF w F P s) (hs : s.sm n) (hn : n ≤ 500000000) (a b : List UInt8) (va vb : Value) (ha : ab w (· < w.heap.size) a va) (hb : ab w (· < w.heap.size) b vb) (hl1 : a.length ≤ 400000000) (hl2 : b.length ≤ 400000000) :
  Calls Tryz.prog 70 #[.pointer (some ⟨P, 0, none⟩), va, vb] w fun e w' => e = .returned (.tuple #[]) ∧ ∃ F', AtF w' F' P (s.op a b) ∧ Nxt F w F' w' := by
 obtain ⟨⟨vo, vf, h1⟩, h2, h3⟩ := h
 refine (en h1 a b va vb ha hb (by omega) (by omega) (by have := hs.2.2.1; omega)).mono ?_
 rintro e w' ⟨rfl, ht⟩
 exact ⟨rfl, ht.at (Ty.ok_op h2 a b)⟩
theorem at_close (h : AtF w F P s) (hs : s.sm n) (hn : n ≤ 500000000) :
  Calls Tryz.prog 49 #[.pointer (some ⟨P, 0, none⟩)] w fun e w' => ansS F s.closeA e w' ∧ ∃ F', AtF w' F' P s.close ∧ Nxt F w F' w' := by
 obtain ⟨⟨vo, vf, h1⟩, h2, h3⟩ := h
 refine (tclose_any h1 h2 (by have := hs.1; omega) (fun f hf => by have := (hs.2.2.2 f hf).2; omega) (by have := hs.2.2.1; omega)).mono ?_
 rintro e w' ⟨ha, ht⟩
 exact ⟨ha, ht.at (Ty.ok_close h2)⟩
theorem at_label (h : AtF w F P s) (hs : s.sm n) (hn : n ≤ 500000000) (k : Nat) (hk : k < 4294967296) :
  Calls Tryz.prog 106 #[.pointer (some ⟨P, 0, none⟩), .int .u32 (k : Int)] w fun e w' => ansS (w.heap.size ≤ ·) (s.labelA k) e w' ∧ Below w.heap.size w w' := by
 obtain ⟨⟨vo, vf, h1⟩, h2, h3⟩ := h
 exact tlabel_any h1 k hk (fun f hf => by have := (hs.2.2.2 f hf).1; omega) (by have := hs.2.2.1; omega)
theorem at_most (h : AtF w F P s) : Calls Tryz.prog 50 #[.pointer (some ⟨P, 0, none⟩)] w fun e w' => w' = w ∧ e = .returned (.int .i64 (s.most : Int)) := by
 obtain ⟨⟨vo, vf, h1⟩, _⟩ := h
 exact tmost_any h1
theorem at_new (e : List UInt8) (ve : Value) (w : World) (he : ab w (· < w.heap.size) e ve) (h1 : e.length ≤ 400000000) :
  Calls Tryz.prog 47 #[ve] w fun r w' => ∃ P F, r = .returned (.pointer (some ⟨P, 0, none⟩)) ∧ AtF w' F P (Ty.T.new e) ∧ (∀ k, F k → w.heap.size ≤ k) ∧ Below w.heap.size w w' := by
 refine (tnew_any e ve w he (by omega)).mono ?_
 rintro r w' ⟨P, F, vo, vf, rfl, q1, q2, q3⟩
 have hO := own_lt q1.ops
 have hF := q1.frs.lt
 exact ⟨P, fun k => F k ∧ k < w'.heap.size, rfl, ⟨⟨vo, vf, ⟨q1.blk, q1.ops, q1.frs.more (fun k hk hs => ⟨⟨hs.1, hk⟩, hs.2⟩), ⟨q1.inP, q1.lt⟩, fun k e => ⟨q1.inO k e, hO k e⟩, fun k e => ⟨q1.inF k e, (hF k e).2⟩⟩⟩, Ty.ok_new e, fun k hk => hk.2⟩, fun k hk => q2 k hk.1, q3⟩
end
def One (w0 w : World) (P : Nat) (s : Ty.T) : Prop := ∃ F, AtF w F P s ∧ (∀ k, F k → w0.heap.size ≤ k) ∧ Below w0.heap.size w0 w
theorem One.next {w0 w w' : World} {F F' : Nat → Prop} {P : Nat} {s' : Ty.T} (h1 : ∀ k, F k → w0.heap.size ≤ k) (h2 : Below w0.heap.size w0 w) (h3 : AtF w' F' P s') (h4 : Nxt F w F' w') : One w0 w' P s' :=
 ⟨F', h3, fun k hk => by
  rcases h4.1 k hk with h | h
  ·exact h1 k h
  ·exact Nat.le_trans h2.size h, h2.trans (h4.2.below h2.size (fun k hk hf => by have := h1 k hf; omega))⟩
theorem One.on {w0 w w' : World} {P : Nat} {s : Ty.T} (h : One w0 w P s) (hb : Below w.heap.size w w') : One w0 w' P s := by
 obtain ⟨F, h1, h2, h3⟩ := h
 exact ⟨F, h1.on hb, h2, h3.trans (hb.mono h3.size)⟩
theorem One.below {w0 w : World} {P : Nat} {s : Ty.T} (h : One w0 w P s) : Below w0.heap.size w0 w := by
 obtain ⟨_, _, _, h⟩ := h
 exact h
section
variable {w0 w : World} {P n : Nat} {s : Ty.T}
def ansH (o : Option (List UInt8)) (e : Ending) (w' : World) : Prop :=
 match o with
 | none => e = .returned (.tuple #[.slice none 0 0, .bool false])
 | some l => ∃ A c, e = .returned (.tuple #[.slice A l.length c, .bool true]) ∧ l.length ≤ c ∧ c ≤ maxLen ∧ (A = none → c = 0) ∧ Has w' w'.heap.size A l
theorem ansS.h {S : Nat → Prop} {o : Option (List UInt8)} {e : Ending} {w' : World} (h : ansS S o e w') : ansH o e w' := by
 cases o with
 | none => exact h
 | some l =>
  obtain ⟨A, c, rfl, A', c', e1, h1, h2, h3, h4⟩ := h
  injection e1 with e1 _ e2
  subst e1 e2
  exact ⟨A, c, rfl, h1, h2, h3, h4.has⟩
end
end Go.Proofs.YtelcdmkbaegjoaaGreat
