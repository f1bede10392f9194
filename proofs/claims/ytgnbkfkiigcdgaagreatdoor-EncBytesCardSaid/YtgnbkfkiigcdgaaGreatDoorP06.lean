/-
  The contracts of opc's functions that only compute: within, Float, Known, Width, Form, typeOf: for every opcode they tell what the plain functions tell, and change nothing.
-/
import Derived.Test.YtgnbkfkiigcdgaaGreatDoorRows
import Derived.Test.YtgnbkfkiigcdgaaGreatDoorP05
import Derived.WalkKit
import Derived.RegionTactic
import Derived.Below
import Derived.Outline
import Derived.Lib.Hide
import Derived.Deep.QuietTactic
import Derived.BigQuiet
import Derived.Test.YtgnbkfkiigcdgaaGreatDoorP01
import Derived.WalkLawsBesides
import Derived.IntWalk
import Derived.Test.YtgnbkfkiigcdgaaGreatDoorP03
import Derived.Deep.RegionHeld3
import Derived.OwnWalk
import Derived.Laws.Tables
import Derived.Laws.Rows
import Derived.Deep.Cut
import Derived.Lib.EndianBits
import Derived.Laws.BitsAllLaws
namespace Go.Proofs.YtgnbkfkiigcdgaaGreatDoor
open Go.RowKit
theorem ret_b {a b : Bool} (h : a = b) : Ending.returned (.bool a) = .returned (.bool b) := by rw [h]
theorem ret_i {k : IntKind} {a b : Int} (h : a = b) : Ending.returned (.int k a) = .returned (.int k b) := by rw [h]
theorem within_any (x a b : Int) (w : World) : Calls Tryz.prog 170 #[.int .u8 x, .int .u8 a, .int .u8 b] w fun e w' => e = .returned (.bool (Opc.within x a b)) ∧ w = w' := by
  by_cases h1 : a ≤ x
  · by_cases h2 : x ≤ b
    · go_enter Tryz.func170, Tryz.ntmps170
      go_wp2
      go_ret
      exact ⟨ret_b (by simp [Opc.within, h1, h2]), rfl⟩
    · go_enter Tryz.func170, Tryz.ntmps170
      go_wp2
      go_ret
      exact ⟨ret_b (by simp [Opc.within, h2]), rfl⟩
  · have h3 : decide (a ≤ x) = false := by simpa using h1
    go_enter Tryz.func170, Tryz.ntmps170
    go_wp2
    go_ret
    exact ⟨ret_b (by rw [Opc.within, h3]; rfl), rfl⟩
theorem width_any (x : Int) (w : World) : Calls Tryz.prog 169 #[.int .u8 x] w fun e w' => e = .returned (.int .i64 (Opc.width x)) ∧ w = w' := by
  go_enter Tryz.func169, Tryz.ntmps169
  go_wp2
  all_goals (go_ret; exact ⟨ret_i (by unfold Opc.width; simp_all), rfl⟩)
theorem form_any (x : Int) (w : World) : Calls Tryz.prog 156 #[.int .u8 x] w fun e w' => e = .returned (.int .u8 (Opc.form x)) ∧ w = w' := by
  go_enter Tryz.func156, Tryz.ntmps156
  go_wp2_with (go_at_call 169; refine (width_any _ _).mono ?_; rintro e w' ⟨rfl, rfl⟩)
  all_goals (go_ret; exact ⟨ret_i (by unfold Opc.form; simp_all), rfl⟩)
theorem float_any (x : Int) (w : World) : Calls Tryz.prog 171 #[.int .u8 x] w fun e w' => e = .returned (.bool (Opc.float x)) ∧ w = w' := by
  cases h1 : Opc.within x 91 102
  case true =>
    go_enter Tryz.func171, Tryz.ntmps171
    go_wp2_with (go_at_call 170; refine (within_any _ _ _ _).mono ?_; rintro e w' ⟨rfl, rfl⟩)
    all_goals (go_ret; exact ⟨ret_b (by unfold Opc.float; simp_all), rfl⟩)
  cases h2 : Opc.within x 139 166
  case true =>
    go_enter Tryz.func171, Tryz.ntmps171
    go_wp2_with (go_at_call 170; refine (within_any _ _ _ _).mono ?_; rintro e w' ⟨rfl, rfl⟩)
    all_goals (go_ret; exact ⟨ret_b (by unfold Opc.float; simp_all), rfl⟩)
  cases h3 : Opc.within x 168 171
  case true =>
    go_enter Tryz.func171, Tryz.ntmps171
    go_wp2_with (go_at_call 170; refine (within_any _ _ _ _).mono ?_; rintro e w' ⟨rfl, rfl⟩)
    all_goals (go_ret; exact ⟨ret_b (by unfold Opc.float; simp_all), rfl⟩)
  go_enter Tryz.func171, Tryz.ntmps171
  go_wp2_with (go_at_call 170; refine (within_any _ _ _ _).mono ?_; rintro e w' ⟨rfl, rfl⟩)
  all_goals (go_ret; exact ⟨ret_b (by unfold Opc.float; simp_all), rfl⟩)
theorem known_any (x : Int) (w : World) : Calls Tryz.prog 157 #[.int .u8 x] w fun e w' => e = .returned (.bool (Opc.known x)) ∧ w = w' := by
  cases h0 : Opc.within x 40 191
  case true =>
    go_enter Tryz.func157, Tryz.ntmps157
    go_wp2_with (first | (go_at_call 170; refine (within_any _ _ _ _).mono ?_; rintro e w' ⟨rfl, rfl⟩) | (go_at_call 171; refine (float_any _ _).mono ?_; rintro e w' ⟨rfl, rfl⟩))
    all_goals (go_ret; exact ⟨ret_b (by unfold Opc.known; simp_all), rfl⟩)
  cases h1 : Opc.within x 0 5
  case true =>
    go_enter Tryz.func157, Tryz.ntmps157
    go_wp2_with (go_at_call 170; refine (within_any _ _ _ _).mono ?_; rintro e w' ⟨rfl, rfl⟩)
    all_goals (go_ret; exact ⟨ret_b (by unfold Opc.known; simp_all), rfl⟩)
  cases h2 : Opc.within x 11 17
  case true =>
    go_enter Tryz.func157, Tryz.ntmps157
    go_wp2_with (go_at_call 170; refine (within_any _ _ _ _).mono ?_; rintro e w' ⟨rfl, rfl⟩)
    all_goals (go_ret; exact ⟨ret_b (by unfold Opc.known; simp_all), rfl⟩)
  cases h3 : Opc.within x 26 27
  case true =>
    go_enter Tryz.func157, Tryz.ntmps157
    go_wp2_with (go_at_call 170; refine (within_any _ _ _ _).mono ?_; rintro e w' ⟨rfl, rfl⟩)
    all_goals (go_ret; exact ⟨ret_b (by unfold Opc.known; simp_all), rfl⟩)
  go_enter Tryz.func157, Tryz.ntmps157
  go_wp2_with (go_at_call 170; refine (within_any _ _ _ _).mono ?_; rintro e w' ⟨rfl, rfl⟩)
  all_goals (go_ret; exact ⟨ret_b (by unfold Opc.known; simp_all), rfl⟩)
end Go.Proofs.YtgnbkfkiigcdgaaGreatDoor
/-
  The contracts of instr's functions that only compute: hasA, isBlockType, fits: they tell what the plain functions tell.
-/
namespace Go.Proofs.YtgnbkfkiigcdgaaGreatDoor
open Go.RowKit Ins
theorem hasA_any (f : Int) (w : World) : Calls Tryz.prog 158 #[.int .u8 f] w fun e w' => e = .returned (.bool (Ins.hasA f)) ∧ w = w' := by
  go_enter Tryz.func158, Tryz.ntmps158
  go_wp2
  all_goals (go_ret; exact ⟨ret_b (by unfold Ins.hasA; simp_all), rfl⟩)
theorem block_any (a : Nat) (w : World) : Calls Tryz.prog 159 #[.int .u32 (a : Int)] w fun e w' => e = .returned (.bool (Ins.blockB a)) ∧ w = w' := by
  have e : Ins.blockB a = ((a : Int) == 64 || (a : Int) == 127 || (a : Int) == 126) := by
    unfold Ins.blockB
    rw [Bool.eq_iff_iff]; simp; omega
  rw [e]
  go_enter Tryz.func159, Tryz.ntmps159
  go_wp2
  all_goals (go_ret; exact ⟨ret_b (by simp_all), rfl⟩)
end Go.Proofs.YtgnbkfkiigcdgaaGreatDoor
/-
  A slice of bytes from a place on; where it has bytes it has an address.
-/
namespace Go.Proofs.YtgnbkfkiigcdgaaGreatDoor
open Go.RowKit
theorem Has.from {w : World} {B : Nat} {ad : Addr} {l : List UInt8} (h : Has w B (some ad) l) (k : Nat) : Has w B (some (ad.add k)) (l.drop k) := by
  by_cases hk : k = 0
  · subst hk; simpa [Addr.add] using h
  · intro j x hx
    rw [List.getElem?_drop] at hx
    obtain ⟨ad', h1, h2, h3⟩ := h (k + j) x hx
    obtain rfl := Option.some.inj h1
    rw [Addr.add, if_neg hk]
    refine ⟨_, rfl, h2, ?_⟩
    have e : (⟨ad.block, ad.off + k, none⟩ : Addr).add j = ad.add (k + j) := by
      unfold Addr.add
      rw [if_neg (show ¬ k + j = 0 by omega)]
      split
      · next hj => subst hj; rfl
      · simp [Nat.add_assoc]
    rw [e]
    exact h3
theorem Has.someAddr {w : World} {B : Nat} {A : Option Addr} {l : List UInt8} (h : Has w B A l) (hk : 0 < l.length) : ∃ ad, A = some ad := by
  obtain ⟨ad, h1, _⟩ := h 0 _ (List.getElem?_eq_getElem hk)
  exact ⟨ad, h1⟩
end Go.Proofs.YtgnbkfkiigcdgaaGreatDoor
/-
  The reader: where it has come to, as the world has it; its byte.
-/
namespace Go.Proofs.YtgnbkfkiigcdgaaGreatDoor
open Go.RowKit Ins
/-- An error that ends a reader. -/
@[reducible] def erred (k : Nat) : Ending := .panicked [{ v := .iface 37 (.int .i64 (k : Int)), recovered := false }]
/-- The reader in block R has come to a place of these bytes, which lie ahead of it. -/
def Rd (w : World) (R : Nat) (A : Option Addr) (c : Nat) (l : List UInt8) (p : Nat) : Prop :=
  w.heap[R]? = some (.cells #[.slice A l.length c, .int .i64 (p : Int)] 233 (0, 0)) ∧ Has w R A l ∧ p ≤ l.length ∧ l.length ≤ c ∧ c ≤ maxLen ∧ (A = none → c = 0)
theorem Rd.c0 {w : World} {R : Nat} {A : Option Addr} {c : Nat} {l : List UInt8} {p : Nat} (h : Rd w R A c l p) : w.cell? ⟨R, 0, none⟩ = some (.slice A l.length c) := by
  rw [cell_of_row w R 0 _ _ (0, 0) h.1]; rfl
theorem Rd.c1 {w : World} {R : Nat} {A : Option Addr} {c : Nat} {l : List UInt8} {p : Nat} (h : Rd w R A c l p) : w.cell? ⟨R, 1, none⟩ = some (.int .i64 (p : Int)) := by
  rw [cell_of_row w R 1 _ _ (0, 0) h.1]; rfl
theorem Rd.f1 {w : World} {R : Nat} {A : Option Addr} {c : Nat} {l : List UInt8} {p : Nat} (h : Rd w R A c l p) : w.frozen? ⟨R, 1, none⟩ = false := frozen_of_row w R 1 _ _ h.1
theorem Rd.lt {w : World} {R : Nat} {A : Option Addr} {c : Nat} {l : List UInt8} {p : Nat} (h : Rd w R A c l p) : R < w.heap.size := (Array.getElem?_eq_some_iff.1 h.1).1
/-- The reader goes on: its place alone is written. -/
theorem Rd.go {w w' : World} {R : Nat} {A : Option Addr} {c : Nat} {l : List UInt8} {p q : Nat} (h : Rd w R A c l p) (hq : q ≤ l.length) (hh : w'.heap = (w.setCell ⟨R, 1, none⟩ (.int .i64 (q : Int))).heap) : Rd w' R A c l q := by
  refine ⟨?_, h.2.1.keep fun a ha => ?_, hq, h.2.2.2⟩
  · rw [hh, heap_setCell_same w R 1 _ _ _ h.1]; rfl
  · refine World.cell?_of_block ?_
    rw [hh]
    exact Below.heap_setCell _ _ _ _ (by show a.block ≠ R; omega)
theorem Rd.keep {w w' : World} {T : Nat → Prop} {R : Nat} {A : Option Addr} {c : Nat} {l : List UInt8} {p : Nat} (h : Rd w R A c l p) (hm : Mod T w w') (ht : ∀ k, k ≤ R → ¬ T k) : Rd w' R A c l p :=
  ⟨hm.heap h.1 (ht R (Nat.le_refl _)), hm.has h.2.1 (fun k hk => ht k (by omega)), h.2.2⟩
end Go.Proofs.YtgnbkfkiigcdgaaGreatDoor
/-
  The reader's number of 32 bits, and its constant.
-/
namespace Ins
open Leb
end Ins
namespace Go.Proofs.YtgnbkfkiigcdgaaGreatDoor
open Go.RowKit Ins
/-- Behind a call that has left all as it was the reader's place is written. -/
theorem Rd.after {w w1 : World} {R : Nat} {A : Option Addr} {c : Nat} {l : List UInt8} {p q : Nat} (h : Rd w R A c l p) (hb : Below w.heap.size w w1) (hq : q ≤ l.length) :
    Rd (w1.setCell ⟨R, 1, none⟩ (.int .i64 (q : Int))) R A c l q ∧ Mod (· = R) w (w1.setCell ⟨R, 1, none⟩ (.int .i64 (q : Int))) := by
  have h1 : Rd w1 R A c l p := h.keep (Mod.of_below (T := fun _ => False) hb) (fun _ _ h => h)
  exact ⟨h1.go hq rfl, Mod.setCell (T := (· = R)) (Mod.of_below hb) (fun _ => rfl) _⟩
end Go.Proofs.YtgnbkfkiigcdgaaGreatDoor
/-
  The reader's opcode, block's type and zero.
-/
namespace Go.Proofs.YtgnbkfkiigcdgaaGreatDoor
open Go.RowKit Ins
end Go.Proofs.YtgnbkfkiigcdgaaGreatDoor
/-
  The reader's labels: so many numbers, in a row of the call's own.
-/
namespace Ins
end Ins
namespace Go.Proofs.YtgnbkfkiigcdgaaGreatDoor
open Go.RowKit Ins
/-- A row of the call's own reads as its numbers. -/
theorem HasU.own {w : World} {base n : Nat} {e : TypeId} {v : Value} {l : List Nat} (h : w.ownsRow base e 1 v n (u32s l)) : ∃ (A : Option Addr) (c : Nat), v = .slice A l.length c ∧ n = l.length ∧ l.length ≤ c ∧ c ≤ maxLen ∧ HasU w (base ≤ ·) A l := by
  have hl := h.1
  rw [u32s_length, Nat.mul_one] at hl
  subst hl
  rcases h.2 with ⟨rfl, h0⟩ | ⟨g, cap, cur, rfl, hb, hh, hc, hm, _, htk⟩
  · have : l = [] := List.eq_nil_of_length_eq_zero h0
    subst this
    exact ⟨none, 0, rfl, rfl, Nat.le_refl _, by unfold maxLen; omega, HasU.nil _ _ _⟩
  · refine ⟨_, cap, rfl, rfl, hc, hm, fun k n hk => ⟨g, 0, rfl, hb, ?_⟩⟩
    have hkl : k < l.length := (List.getElem?_eq_some_iff.1 hk).1
    have e1 := u32s_at hk
    rw [← htk, Nat.mul_one, List.getElem?_take, if_pos hkl] at e1
    rw [Nat.zero_add, cell_of_row w g k cur e (0, 0) hh]
    simpa using e1
end Go.Proofs.YtgnbkfkiigcdgaaGreatDoor
/-
  A struct that is built, and one that is stored into a variable known whole, as laws at a list of operations.
-/
namespace Go.Proofs.YtgnbkfkiigcdgaaGreatDoor
open Go.RowKit
theorem wpList_store_to {P : Program} {ops : Array Oper} {rest : List Oper} {o : Oper} {a : Act} {w : World} {Q : Exit → Act → World → Prop} (hgd : o.guard = none) (ty : TypeId) (x y : Operand) (ho : o.op = .store ty x y)
    (hdst : o.dst = none)
    (g : Nat) (cells : Array Value) (hx : a.eval x = .pointer (some ⟨g, 0, none⟩)) (hy : a.eval y = .agg cells)
    (t : TypeId) (old : Array Value) (hg : w.heap[g]? = some (.cells old t (0, 0))) (hi : (P.info? ty).map (·.size) = some cells.size)
    (hold : old.size = cells.size) (h1 : cells.all (·.oneCell') = true)
    (h : wpList P ops Q rest a (w.setRow g cells)) : wpList P ops Q (o :: rest) a w :=
  wpList_store_row hgd ty x y ho g cells hx hy t old hg hi hold h1 (by rw [hdst]; exact h)
theorem below_setRow {B g : Nat} {a w : World} (h : Below B a w) (hg : B ≤ g) (cs : Array Value) : Below B a (w.setRow g cs) :=
  ⟨h.os, h.tape, h.output, by simpa using h.size, fun b hb => (setRow_other w g b cs (by omega)).trans (h.block b hb)⟩
end Go.Proofs.YtgnbkfkiigcdgaaGreatDoor
/-
  The reader's instruction: by its form what stands behind its opcode, in a struct of the call's own.
-/
namespace Go.Proofs.YtgnbkfkiigcdgaaGreatDoor
open Go.RowKit Ins
theorem cells5 {w : World} {X : Nat} {x0 x1 x2 x3 x4 : Value} {t : TypeId} (h : w.heap[X]? = some (.cells #[x0, x1, x2, x3, x4] t (0, 0))) :
    w.cell? ⟨X, 0, none⟩ = some x0 ∧ w.cell? ⟨X, 1, none⟩ = some x1 ∧ w.cell? ⟨X, 2, none⟩ = some x2 ∧ w.cell? ⟨X, 3, none⟩ = some x3 ∧ w.cell? ⟨X, 4, none⟩ = some x4 := by
  refine ⟨?_, ?_, ?_, ?_, ?_⟩ <;> (rw [cell_of_row w X _ _ t (0, 0) h]; rfl)
end Go.Proofs.YtgnbkfkiigcdgaaGreatDoor
/-
  The library's utf8.word over bytes: the number that eight bytes spell; no bit of the mask stands in it just if all eight are below 128.
-/
namespace U8
def num (l : List UInt8) : Nat := byte l 0 + byte l 1 * 256 + byte l 2 * 65536 + byte l 3 * 16777216 + byte l 4 * 4294967296 + byte l 5 * 1099511627776 + byte l 6 * 281474976710656 + byte l 7 * 72057594037927936
def mask : Nat := 9259542123273814144
theorem num_lt (l : List UInt8) : num l < 18446744073709551616 := by
  have h0 := byte_lt l 0; have h1 := byte_lt l 1; have h2 := byte_lt l 2; have h3 := byte_lt l 3
  have h4 := byte_lt l 4; have h5 := byte_lt l 5; have h6 := byte_lt l 6; have h7 := byte_lt l 7
  unfold num; omega
theorem bit_of_and {v m i : Nat} (h : v &&& m = 0) (hm : m.testBit i = true) : v / 2 ^ i % 2 = 0 := by
  have h1 : (v &&& m).testBit i = false := by rw [h]; simp
  rw [Nat.testBit_and, hm, Bool.and_true] at h1
  have h2 := Nat.testBit_eq_decide_div_mod_eq (x := v) (i := i)
  rw [h1] at h2
  have h3 := of_decide_eq_false h2.symm
  omega
theorem num_low {l : List UInt8} (h8 : 8 ≤ l.length) (h : num l &&& mask = 0) : Low l 8 := by
  have h0 := byte_lt l 0; have h1 := byte_lt l 1; have h2 := byte_lt l 2; have h3 := byte_lt l 3
  have h4 := byte_lt l 4; have h5 := byte_lt l 5; have h6 := byte_lt l 6; have h7 := byte_lt l 7
  have b0 := bit_of_and (i := 7) h (by decide)
  have b1 := bit_of_and (i := 15) h (by decide)
  have b2 := bit_of_and (i := 23) h (by decide)
  have b3 := bit_of_and (i := 31) h (by decide)
  have b4 := bit_of_and (i := 39) h (by decide)
  have b5 := bit_of_and (i := 47) h (by decide)
  have b6 := bit_of_and (i := 55) h (by decide)
  have b7 := bit_of_and (i := 63) h (by decide)
  unfold num at b0 b1 b2 b3 b4 b5 b6 b7
  refine ⟨h8, fun j hj => ?_⟩
  have : j = 0 ∨ j = 1 ∨ j = 2 ∨ j = 3 ∨ j = 4 ∨ j = 5 ∨ j = 6 ∨ j = 7 := by omega
  rcases this with rfl | rfl | rfl | rfl | rfl | rfl | rfl | rfl <;> omega
theorem or_zero {a b m : Nat} (h : (a ||| b) &&& m = 0) : a &&& m = 0 ∧ b &&& m = 0 := by
  rw [Nat.and_or_distrib_right] at h
  exact ⟨Nat.eq_zero_of_le_zero (by rw [← h]; exact Nat.left_le_or), Nat.eq_zero_of_le_zero (by rw [← h]; exact Nat.right_le_or)⟩
end U8
namespace Go.Proofs.YtgnbkfkiigcdgaaGreatDoor
open Go.RowKit
theorem Has.byte0 {w : World} {B : Nat} {ad : Addr} {l : List UInt8} (h : Has w B (some ad) l) (hk : 0 < l.length) : w.cell? ad = some (.int .u8 (U8.byte l 0 : Int)) := by
  obtain ⟨ad', h1, _, h3⟩ := h 0 (l.getD 0 0) (by rw [List.getD_eq_getElem?_getD, List.getElem?_eq_getElem hk]; rfl)
  obtain rfl := Option.some.inj h1
  rw [Addr.add, if_pos rfl] at h3
  exact h3
theorem Has.byte {w : World} {B : Nat} {ad : Addr} {l : List UInt8} (h : Has w B (some ad) l) {k : Nat} (hk : k < l.length) (h0 : k ≠ 0) : w.cell? ⟨ad.block, ad.off + k, none⟩ = some (.int .u8 (U8.byte l k : Int)) := by
  obtain ⟨ad', h1, _, h3⟩ := h k (l.getD k 0) (by rw [List.getD_eq_getElem?_getD, List.getElem?_eq_getElem hk]; rfl)
  obtain rfl := Option.some.inj h1
  rw [Addr.add, if_neg h0] at h3
  exact h3
set_option maxHeartbeats 4000000 in
set_option maxRecDepth 100000 in
theorem word_any (ad : Addr) (l : List UInt8) (n c B : Nat) (w : World) (hn : n = l.length) (h8 : 8 ≤ n) (hA : Has w B (some ad) l) :
    Calls Tryz.prog 143 #[.slice (some ad) n c] w fun e w' => e = .returned (.int .u64 (U8.num l : Int)) ∧ ∃ q, w' = w.drewN q := by
  have c0 := hA.byte0 (by omega)
  have c1 := hA.byte (k := 1) (by omega) (by decide)
  have c2 := hA.byte (k := 2) (by omega) (by decide)
  have c3 := hA.byte (k := 3) (by omega) (by decide)
  have c4 := hA.byte (k := 4) (by omega) (by decide)
  have c5 := hA.byte (k := 5) (by omega) (by decide)
  have c6 := hA.byte (k := 6) (by omega) (by decide)
  have c7 := hA.byte (k := 7) (by omega) (by decide)
  have i0 : (0 : Int) < (n : Int) ∧ (1 : Int) < (n : Int) ∧ (2 : Int) < (n : Int) ∧ (3 : Int) < (n : Int) ∧ (4 : Int) < (n : Int) ∧ (5 : Int) < (n : Int) ∧ (6 : Int) < (n : Int) ∧ (7 : Int) < (n : Int) := by omega
  obtain ⟨i0, i1, i2, i3, i4, i5, i6, i7⟩ := i0
  have n0 : 0 < n ∧ 1 < n ∧ 2 < n ∧ 3 < n ∧ 4 < n ∧ 5 < n ∧ 6 < n ∧ 7 < n := by omega
  obtain ⟨n0, n1, n2, n3, n4, n5, n6, n7⟩ := n0
  have l0 := U8.byte_lt l 0; have l1 := U8.byte_lt l 1; have l2 := U8.byte_lt l 2; have l3 := U8.byte_lt l 3
  have l4 := U8.byte_lt l 4; have l5 := U8.byte_lt l 5; have l6 := U8.byte_lt l 6; have l7 := U8.byte_lt l 7
  have HV : Hid ((U8.num l : Int) = (U8.byte l 0 : Int) + (U8.byte l 1 : Int) * 256 + (U8.byte l 2 : Int) * 65536 + (U8.byte l 3 : Int) * 16777216 + (U8.byte l 4 : Int) * 4294967296 + (U8.byte l 5 : Int) * 1099511627776 + (U8.byte l 6 : Int) * 281474976710656 + (U8.byte l 7 : Int) * 72057594037927936) := Lib.hid (by unfold U8.num; omega)
  have HN := Lib.hid hn
  clear hn hA
  have mixed : Tryz.prog.follows Departure.mixedOrders = true := by kernel_rfl
  go_enter Tryz.func143, Tryz.ntmps143
  go_wp2
  go_quiet (fail)
  go_wp2
  go_ret
  refine ⟨?_, _, rfl⟩
  rw [HV.out]
  simp (disch := omega) only [u64_or8, u64_or16, u64_or24, u64_or32, u64_or40, u64_or48, u64_or56]
  rfl
end Go.Proofs.YtgnbkfkiigcdgaaGreatDoor
/-
  The document's One: of how many bytes the first character is, reckoned by its number; it is what the ranges of the bytes tell.
-/
namespace U8
/-- The number that the first k bytes of a character spell, its first byte's share given. -/
def val (l : List UInt8) (c0 : Nat) : Nat → Nat
  | 0 => 0
  | 1 => c0
  | k + 2 => 64 * val l c0 (k + 1) + byte l (k + 1) - 128
theorem val_next (l : List UInt8) (c0 k : Nat) (hk : 1 ≤ k) : val l c0 (k + 1) = 64 * val l c0 k + byte l k - 128 := by
  match k, hk with
  | k + 1, _ => rfl
theorem val0 (l : List UInt8) (c0 : Nat) : val l c0 0 = 0 := rfl
theorem val1 (l : List UInt8) (c0 : Nat) : val l c0 1 = c0 := rfl
theorem val2 (l : List UInt8) (c0 : Nat) : val l c0 2 = 64 * c0 + byte l 1 - 128 := rfl
theorem val3 (l : List UInt8) (c0 : Nat) : val l c0 3 = 64 * (64 * c0 + byte l 1 - 128) + byte l 2 - 128 := rfl
theorem val4 (l : List UInt8) (c0 : Nat) : val l c0 4 = 64 * (64 * (64 * c0 + byte l 1 - 128) + byte l 2 - 128) + byte l 3 - 128 := rfl
theorem val_le {l : List UInt8} {c0 k : Nat} (hc : c0 < 32) (hm : ∀ j, 1 ≤ j → j < k → 128 ≤ byte l j ∧ byte l j ≤ 191) (hk : k ≤ 4) : val l c0 k < 8388608 := by
  have h : k = 0 ∨ k = 1 ∨ k = 2 ∨ k = 3 ∨ k = 4 := by omega
  rcases h with rfl | rfl | rfl | rfl | rfl
  · rw [val0]; omega
  · rw [val1]; omega
  · have m1 := hm 1 (by omega) (by omega)
    rw [val2]; omega
  · have m1 := hm 1 (by omega) (by omega)
    have m2 := hm 2 (by omega) (by omega)
    rw [val3]; omega
  · have m1 := hm 1 (by omega) (by omega)
    have m2 := hm 2 (by omega) (by omega)
    have m3 := hm 3 (by omega) (by omega)
    rw [val4]; omega
/-- The bytes from the second one up to the k-th stand from 128 to 191. -/
def Mids (l : List UInt8) (k : Nat) : Prop := ∀ j, 1 ≤ j → j < k → 128 ≤ byte l j ∧ byte l j ≤ 191
theorem Mids.next {l : List UInt8} {k : Nat} (h : Mids l k) (h1 : 128 ≤ byte l k ∧ byte l k ≤ 191) : Mids l (k + 1) := fun j a b => by
  by_cases hj : j = k
  · subst hj; exact h1
  · exact h j a (by omega)
/-- The three kinds of first bytes: of how many bytes, what is taken off, the least number. -/
def Kind (c n off least : Nat) : Prop := (n = 2 ∧ off = 192 ∧ least = 128 ∧ 192 ≤ c ∧ c < 224) ∨ (n = 3 ∧ off = 224 ∧ least = 2048 ∧ 224 ≤ c ∧ c < 240) ∨ (n = 4 ∧ off = 240 ∧ least = 65536 ∧ 240 ≤ c ∧ c < 248)
theorem one_none {l : List UInt8} (h : (128 ≤ byte l 0 ∧ byte l 0 < 192) ∨ 248 ≤ byte l 0) : one l = 0 := by
  have hs : size (byte l 0) = 0 := by unfold size; (repeat' split) <;> omega
  unfold one
  rw [hs]
  repeat' split
  all_goals omega
theorem one_short {l : List UInt8} {n off least : Nat} (hk : Kind (byte l 0) n off least) (h : l.length < n) : one l = 0 := by
  unfold one
  have hs : size (byte l 0) = 0 ∨ size (byte l 0) = n := by
    unfold size
    rcases hk with ⟨rfl, _, _, h1, h2⟩ | ⟨rfl, _, _, h1, h2⟩ | ⟨rfl, _, _, h1, h2⟩ <;> (repeat' split) <;> omega
  rcases hk with ⟨rfl, _, _, h1, h2⟩ | ⟨rfl, _, _, h1, h2⟩ | ⟨rfl, _, _, h1, h2⟩ <;> (repeat' split) <;> omega
theorem one_mid {l : List UInt8} {n off least k : Nat} (hk : Kind (byte l 0) n off least) (h1 : 1 ≤ k) (h2 : k < n) (h : byte l k < 128 ∨ 191 < byte l k) : one l = 0 := by
  have hs : (size (byte l 0) = 0 ∨ size (byte l 0) = n) ∧ 128 ≤ lo (byte l 0) ∧ hi (byte l 0) ≤ 191 := by
    unfold size lo hi
    rcases hk with ⟨rfl, _, _, h1, h2⟩ | ⟨rfl, _, _, h1, h2⟩ | ⟨rfl, _, _, h1, h2⟩ <;> refine ⟨?_, ?_, ?_⟩ <;> (repeat' split) <;> omega
  obtain ⟨hs, hlo, hhi⟩ := hs
  have hge : 128 ≤ byte l 0 := by rcases hk with ⟨_, _, _, h1, h2⟩ | ⟨_, _, _, h1, h2⟩ | ⟨_, _, _, h1, h2⟩ <;> omega
  have hn : n ≤ 4 := by rcases hk with ⟨rfl, _⟩ | ⟨rfl, _⟩ | ⟨rfl, _⟩ <;> omega
  have hkk : k = 1 ∨ k = 2 ∨ k = 3 := by omega
  apply one_bad hge
  rcases hs with hs | hs
  · exact .inl hs
  · rcases hkk with rfl | rfl | rfl
    · rw [hs]; omega
    · rw [hs]; omega
    · rw [hs]; omega
theorem one_val {l : List UInt8} {n off least : Nat} (hk : Kind (byte l 0) n off least) (hl : n ≤ l.length) (hm : Mids l n) : one l = if val l (byte l 0 - off) n < least ∨ 1114111 < val l (byte l 0 - off) n ∨ (55296 ≤ val l (byte l 0 - off) n ∧ val l (byte l 0 - off) n ≤ 57343) then 0 else n := by
  have b0 := byte_lt l 0
  rcases hk with ⟨rfl, rfl, rfl, h1, h2⟩ | ⟨rfl, rfl, rfl, h1, h2⟩ | ⟨rfl, rfl, rfl, h1, h2⟩
  · have m1 := hm 1 (by omega) (by omega)
    rw [val2]
    unfold one size lo hi
    repeat' split
    all_goals omega
  · have m1 := hm 1 (by omega) (by omega)
    have m2 := hm 2 (by omega) (by omega)
    rw [val3]
    unfold one size lo hi
    repeat' split
    all_goals omega
  · have m1 := hm 1 (by omega) (by omega)
    have m2 := hm 2 (by omega) (by omega)
    have m3 := hm 3 (by omega) (by omega)
    rw [val4]
    have hs : (byte l 0 < 245 ∧ size (byte l 0) = 4) ∨ (245 ≤ byte l 0 ∧ size (byte l 0) = 0) := by unfold size; (repeat' split) <;> omega
    have hlo : (byte l 0 = 240 ∧ lo (byte l 0) = 144) ∨ (byte l 0 ≠ 240 ∧ lo (byte l 0) = 128) := by unfold lo; (repeat' split) <;> omega
    have hhi : (byte l 0 = 244 ∧ hi (byte l 0) = 143) ∨ (byte l 0 ≠ 244 ∧ hi (byte l 0) = 191) := by unfold hi; (repeat' split) <;> omega
    obtain ⟨v, hv⟩ : ∃ v, 64 * (64 * (64 * (byte l 0 - 240) + byte l 1 - 128) + byte l 2 - 128) + byte l 3 - 128 = v := ⟨_, rfl⟩
    rw [hv]
    have hv2 : v + 262144 * 240 + 4096 * 128 + 64 * 128 + 128 = 262144 * byte l 0 + 4096 * byte l 1 + 64 * byte l 2 + byte l 3 := by omega
    clear hv
    have hiff : (v < 65536 ∨ 1114111 < v ∨ 55296 ≤ v ∧ v ≤ 57343) ↔ (245 ≤ byte l 0 ∨ (byte l 0 = 240 ∧ byte l 1 < 144) ∨ (byte l 0 = 244 ∧ 143 < byte l 1)) := by omega
    split
    · next h =>
      rcases hiff.1 h with h | ⟨h, h'⟩ | ⟨h, h'⟩
      · exact one_bad (by omega) (.inl (by omega))
      · exact one_bad (by omega) (.inr (.inr (.inl (by omega))))
      · exact one_bad (by omega) (.inr (.inr (.inr (.inl (by omega)))))
    · next h =>
      have h' := fun x => h (hiff.2 x)
      have g1 : byte l 0 < 245 := by have := fun x => h' (.inl x); omega
      have g2 : byte l 0 = 240 → 144 ≤ byte l 1 := fun hx => by have := fun x => h' (.inr (.inl ⟨hx, x⟩)); omega
      have g3 : byte l 0 = 244 → byte l 1 ≤ 143 := fun hx => by have := fun x => h' (.inr (.inr ⟨hx, x⟩)); omega
      clear hiff h h' hv2
      have e4 : size (byte l 0) = 4 := by omega
      rw [one_good (by omega) (by omega) (by omega) (by omega) (fun _ => by omega) (fun _ => by omega), e4]
end U8
namespace Go.Proofs.YtgnbkfkiigcdgaaGreatDoor
open Go.RowKit
end Go.Proofs.YtgnbkfkiigcdgaaGreatDoor
/-
  The document's One and Valid: what they tell of any bytes.
-/
namespace Go.Proofs.YtgnbkfkiigcdgaaGreatDoor
open Go.RowKit
theorem Has.byteAt {w : World} {B : Nat} {ad : Addr} {l : List UInt8} (h : Has w B (some ad) l) {k : Nat} (hk : k < l.length) : w.cell? (ad.add k) = some (.int .u8 (U8.byte l k : Int)) := by
  obtain ⟨ad', h1, _, h3⟩ := h k (l.getD k 0) (by rw [List.getD_eq_getElem?_getD, List.getElem?_eq_getElem hk]; rfl)
  obtain rfl := Option.some.inj h1
  exact h3
def OnePost (l : List UInt8) (w : World) (e : Ending) (w' : World) : Prop := e = .returned (.int .i64 (U8.one l : Int)) ∧ w = w'
theorem onePost {l : List UInt8} {w : World} {a : Int} (h : (U8.one l : Int) = a) : OnePost l w (.returned (.int .i64 a)) w := ⟨by rw [h], rfl⟩
set_option maxRecDepth 100000 in
theorem one_low (ad : Addr) (l : List UInt8) (n c B : Nat) (w : World) (hn : n = l.length) (h0 : 0 < n) (hA : Has w B (some ad) l) (hlow : U8.byte l 0 < 128) :
    Calls Tryz.prog 67 #[.slice (some ad) n c] w (OnePost l w) := by
  have h1 : U8.one l = 1 := by unfold U8.one; rw [if_neg (by omega), if_pos hlow]
  have H1 := Lib.hid h1
  have c0 := hA.byte0 (by omega)
  have i0 : (0 : Int) < (n : Int) := by omega
  have hn1 : ¬ (n : Int) < 1 := by omega
  clear hn hA h1
  generalize U8.byte l 0 = b at *
  have hb : (b : Int) < 128 := by omega
  have hb1 : ¬ (1114111 < (b : Int)) := by omega
  have hb1' : decide ((1114111 : Int) < (b : Int)) = false := by simpa using hb1
  have hb2 : decide ((55296 : Int) ≤ (b : Int)) = false := by simp; omega
  have hb3 : ¬ ((b : Int) < 0) := by omega
  go_enter Tryz.func67, Tryz.ntmps67
  go_wp2_with fail
  go_loop [3, 6] (fun cv i => cv = .int .u32 (b : Int) ∧ i = .int .i64 1) (fun _ _ => 0)
  case atStart => exact ⟨rfl, rfl⟩
  case round =>
    obtain ⟨rfl, rfl⟩ := hrel
    go_wp2_with fail
    go_ret
    exact onePost (by rw [H1.out]; rfl)
theorem one_off (ad : Addr) (l : List UInt8) (n c B : Nat) (w : World) (hn : n = l.length) (h0 : 0 < n) (hA : Has w B (some ad) l) (hoff : (128 ≤ U8.byte l 0 ∧ U8.byte l 0 < 192) ∨ 248 ≤ U8.byte l 0) :
    Calls Tryz.prog 67 #[.slice (some ad) n c] w (OnePost l w) := by
  have H1 := Lib.hid (U8.one_none hoff)
  have c0 := hA.byte0 (by omega)
  have i0 : (0 : Int) < (n : Int) := by omega
  have hb0 := U8.byte_lt l 0
  clear hn hA
  generalize U8.byte l 0 = b at *
  rcases hoff with ⟨g1, g2⟩ | g1
  · have k1 : ¬ (b : Int) < 128 := by omega
    have k2 : decide ((192 : Int) ≤ (b : Int)) = false := by simp; omega
    have k3 : decide ((224 : Int) ≤ (b : Int)) = false := by simp; omega
    have k4 : decide ((240 : Int) ≤ (b : Int)) = false := by simp; omega
    go_enter Tryz.func67, Tryz.ntmps67
    go_wp2_with fail
    go_ret
    exact onePost (by rw [H1.out]; rfl)
  · have k1 : ¬ (b : Int) < 128 := by omega
    have k2 : (192 : Int) ≤ (b : Int) := by omega
    have k3 : (224 : Int) ≤ (b : Int) := by omega
    have k4 : (240 : Int) ≤ (b : Int) := by omega
    have k5 : decide ((b : Int) < 224) = false := by simp; omega
    have k6 : decide ((b : Int) < 240) = false := by simp; omega
    have k7 : decide ((b : Int) < 248) = false := by simp; omega
    go_enter Tryz.func67, Tryz.ntmps67
    go_wp2_with fail
    go_ret
    exact onePost (by rw [H1.out]; rfl)
set_option maxHeartbeats 2000000 in
theorem one_kind2 (ad : Addr) (l : List UInt8) (n c B : Nat) (w : World) (hn : n = l.length) (h0 : 0 < n) (hA : Has w B (some ad) l) (hlo : 192 ≤ U8.byte l 0) (hhi : U8.byte l 0 < 224) :
    Calls Tryz.prog 67 #[.slice (some ad) n c] w (OnePost l w) := by
  have hK : U8.Kind (U8.byte l 0) 2 192 128 := .inl ⟨rfl, rfl, rfl, hlo, hhi⟩
  have HK := Lib.hid hK
  have c0 := hA.byte0 (by omega)
  have i0 : (0 : Int) < (n : Int) := by omega
  have HA := Lib.hid hA
  have HN := Lib.hid hn
  clear hn hA hK
  obtain ⟨b, hb⟩ : ∃ b, U8.byte l 0 = b := ⟨_, rfl⟩
  rw [hb] at hlo hhi c0
  have HBB := Lib.hid hb
  clear hb
  have k1 : ¬ (b : Int) < 128 := by omega
  have k2 : (192 : Int) ≤ (b : Int) := by omega
  have k3 : (b : Int) < 224 := by omega
  have kw : IntKind.u32.wrap ((b : Int) - 192) = (b : Int) - 192 := IntWalk.u32_in _ (by omega)
  by_cases hs : n < 2
  · have H1 := Lib.hid (U8.one_short HK.out (by rw [← HN.out]; exact hs))
    have hs' : (n : Int) < 2 := by omega
    go_enter Tryz.func67, Tryz.ntmps67
    go_wp2_with fail
    go_ret
    exact onePost (by rw [H1.out]; rfl)
  · have hs' : ¬ (n : Int) < 2 := by omega
    go_enter Tryz.func67, Tryz.ntmps67
    go_wp2_with fail
    go_loop [3, 6] (fun cv i => ∃ k : Nat, 1 ≤ k ∧ k ≤ 2 ∧ i = .int .i64 (k : Int) ∧ cv = .int .u32 (U8.val l (b - 192) k : Int) ∧ Hid (U8.Mids l k)) (fun _ i => 2 - (intOf i).toNat)
    case atStart => exact ⟨1, by omega, by omega, rfl, by rw [U8.val1]; go_num, Lib.hid (fun j h1 h2 => by omega)⟩
    case round =>
      obtain ⟨k, hk1, hk2, rfl, rfl, HM⟩ := hrel
      have hv := U8.val_le (l := l) (c0 := b - 192) (k := k) (by omega) HM.out (by omega)
      by_cases hlt : k < 2
      · have hkn : k < n := by omega
        have hcell := HA.out.byteAt (k := k) (by rw [← HN.out]; exact hkn)
        have hcell2 := HA.out.byte (k := k) (by rw [← HN.out]; exact hkn) (by omega)
        have hnext := U8.val_next l (b - 192) k hk1
        have hbk := U8.byte_lt l k
        obtain ⟨x, hx⟩ : ∃ x, U8.byte l k = x := ⟨_, rfl⟩
        have HX := Lib.hid hx
        obtain ⟨v, hvv⟩ : ∃ v, U8.val l (b - 192) k = v := ⟨_, rfl⟩
        rw [hvv] at hv hnext
        rw [hx] at hnext hcell hcell2 hbk
        have HNX := Lib.hid hnext
        rw [hvv]
        clear hx hvv hnext
        have hki : (k : Int) < (n : Int) := by omega
        have hk0 : (0 : Int) ≤ (k : Int) := by omega
        have hk00 : ¬ k = 0 := by omega
        have hlti : (k : Int) < 2 := by omega
        by_cases h1 : x < 128
        · have H1 := Lib.hid (U8.one_mid HK.out hk1 hlt (by rw [HX.out]; exact .inl h1))
          have h1i : (x : Int) < 128 := by omega
          go_wp2_with fail
          go_ret
          exact onePost (by rw [H1.out]; rfl)
        · have h1i : decide ((x : Int) < 128) = false := by simp; omega
          by_cases h2 : 191 < x
          · have H1 := Lib.hid (U8.one_mid HK.out hk1 hlt (by rw [HX.out]; exact .inr h2))
            have h2i : (191 : Int) < (x : Int) := by omega
            go_wp2_with fail
            go_ret
            exact onePost (by rw [H1.out]; rfl)
          · have h2i : decide ((191 : Int) < (x : Int)) = false := by simp; omega
            have w1 : IntKind.u32.wrap (64 * (v : Int)) = 64 * (v : Int) := IntWalk.u32_in _ (by omega)
            have w2 : IntKind.u32.wrap (64 * (v : Int) + (x : Int)) = 64 * (v : Int) + (x : Int) := IntWalk.u32_in _ (by omega)
            have w3 : IntKind.u32.wrap (64 * (v : Int) + (x : Int) - 128) = 64 * (v : Int) + (x : Int) - 128 := IntWalk.u32_in _ (by omega)
            have HM2 := Lib.hid (HM.out.next (by rw [HX.out]; omega))
            go_wp2_with fail
            go_round
            case rel => exact ⟨k + 1, by omega, by omega, by go_num, by rw [HNX.out]; go_num, HM2⟩
            case measure => simp [intOf]; omega
      · obtain rfl : k = 2 := by omega
        have HV := Lib.hid (U8.one_val HK.out (by rw [← HN.out]; omega) HM.out)
        rw [HBB.out] at HV
        generalize U8.val l (b - 192) 2 = v at *
        by_cases h1 : v < 128
        · have H1 := Lib.hid (HV.out.trans (if_pos (.inl h1)))
          have h1i : (v : Int) < 128 := by omega
          go_wp2_with fail
          go_ret
          exact onePost (by rw [H1.out]; rfl)
        · have h1i : decide ((v : Int) < 128) = false := by simp; omega
          by_cases h2 : 1114111 < v
          · have H1 := Lib.hid (HV.out.trans (if_pos (.inr (.inl h2))))
            have h2i : (1114111 : Int) < (v : Int) := by omega
            go_wp2_with fail
            go_ret
            exact onePost (by rw [H1.out]; rfl)
          · have h2i : decide ((1114111 : Int) < (v : Int)) = false := by simp; omega
            by_cases h3 : 55296 ≤ v
            · have h3i : (55296 : Int) ≤ (v : Int) := by omega
              by_cases h4 : v ≤ 57343
              · have H1 := Lib.hid (HV.out.trans (if_pos (.inr (.inr ⟨h3, h4⟩))))
                have h4i : (v : Int) ≤ 57343 := by omega
                go_wp2_with fail
                go_ret
                exact onePost (by rw [H1.out]; rfl)
              · have H1 := Lib.hid (HV.out.trans (if_neg (by omega)))
                have h4i : decide ((v : Int) ≤ 57343) = false := by simp; omega
                go_wp2_with fail
                go_ret
                exact onePost (by rw [H1.out]; rfl)
            · have H1 := Lib.hid (HV.out.trans (if_neg (by omega)))
              have h3i : decide ((55296 : Int) ≤ (v : Int)) = false := by simp; omega
              go_wp2_with fail
              go_ret
              exact onePost (by rw [H1.out]; rfl)
set_option maxHeartbeats 2000000 in
theorem one_kind3 (ad : Addr) (l : List UInt8) (n c B : Nat) (w : World) (hn : n = l.length) (h0 : 0 < n) (hA : Has w B (some ad) l) (hlo : 224 ≤ U8.byte l 0) (hhi : U8.byte l 0 < 240) :
    Calls Tryz.prog 67 #[.slice (some ad) n c] w (OnePost l w) := by
  have hK : U8.Kind (U8.byte l 0) 3 224 2048 := .inr (.inl ⟨rfl, rfl, rfl, hlo, hhi⟩)
  have HK := Lib.hid hK
  have c0 := hA.byte0 (by omega)
  have i0 : (0 : Int) < (n : Int) := by omega
  have HA := Lib.hid hA
  have HN := Lib.hid hn
  clear hn hA hK
  obtain ⟨b, hb⟩ : ∃ b, U8.byte l 0 = b := ⟨_, rfl⟩
  rw [hb] at hlo hhi c0
  have HBB := Lib.hid hb
  clear hb
  have k1 : ¬ (b : Int) < 128 := by omega
  have k2 : (192 : Int) ≤ (b : Int) := by omega
  have k3 : decide ((b : Int) < 224) = false := by simp; omega
  have k4 : (224 : Int) ≤ (b : Int) := by omega
  have k5 : (b : Int) < 240 := by omega
  have kw : IntKind.u32.wrap ((b : Int) - 224) = (b : Int) - 224 := IntWalk.u32_in _ (by omega)
  by_cases hs : n < 3
  · have H1 := Lib.hid (U8.one_short HK.out (by rw [← HN.out]; exact hs))
    have hs' : (n : Int) < 3 := by omega
    go_enter Tryz.func67, Tryz.ntmps67
    go_wp2_with fail
    go_ret
    exact onePost (by rw [H1.out]; rfl)
  · have hs' : ¬ (n : Int) < 3 := by omega
    go_enter Tryz.func67, Tryz.ntmps67
    go_wp2_with fail
    go_loop [3, 6] (fun cv i => ∃ k : Nat, 1 ≤ k ∧ k ≤ 3 ∧ i = .int .i64 (k : Int) ∧ cv = .int .u32 (U8.val l (b - 224) k : Int) ∧ Hid (U8.Mids l k)) (fun _ i => 3 - (intOf i).toNat)
    case atStart => exact ⟨1, by omega, by omega, rfl, by rw [U8.val1]; go_num, Lib.hid (fun j h1 h2 => by omega)⟩
    case round =>
      obtain ⟨k, hk1, hk2, rfl, rfl, HM⟩ := hrel
      have hv := U8.val_le (l := l) (c0 := b - 224) (k := k) (by omega) HM.out (by omega)
      by_cases hlt : k < 3
      · have hkn : k < n := by omega
        have hcell := HA.out.byteAt (k := k) (by rw [← HN.out]; exact hkn)
        have hcell2 := HA.out.byte (k := k) (by rw [← HN.out]; exact hkn) (by omega)
        have hnext := U8.val_next l (b - 224) k hk1
        have hbk := U8.byte_lt l k
        obtain ⟨x, hx⟩ : ∃ x, U8.byte l k = x := ⟨_, rfl⟩
        have HX := Lib.hid hx
        obtain ⟨v, hvv⟩ : ∃ v, U8.val l (b - 224) k = v := ⟨_, rfl⟩
        rw [hvv] at hv hnext
        rw [hx] at hnext hcell hcell2 hbk
        have HNX := Lib.hid hnext
        rw [hvv]
        clear hx hvv hnext
        have hki : (k : Int) < (n : Int) := by omega
        have hk0 : (0 : Int) ≤ (k : Int) := by omega
        have hk00 : ¬ k = 0 := by omega
        have hlti : (k : Int) < 3 := by omega
        by_cases h1 : x < 128
        · have H1 := Lib.hid (U8.one_mid HK.out hk1 hlt (by rw [HX.out]; exact .inl h1))
          have h1i : (x : Int) < 128 := by omega
          go_wp2_with fail
          go_ret
          exact onePost (by rw [H1.out]; rfl)
        · have h1i : decide ((x : Int) < 128) = false := by simp; omega
          by_cases h2 : 191 < x
          · have H1 := Lib.hid (U8.one_mid HK.out hk1 hlt (by rw [HX.out]; exact .inr h2))
            have h2i : (191 : Int) < (x : Int) := by omega
            go_wp2_with fail
            go_ret
            exact onePost (by rw [H1.out]; rfl)
          · have h2i : decide ((191 : Int) < (x : Int)) = false := by simp; omega
            have w1 : IntKind.u32.wrap (64 * (v : Int)) = 64 * (v : Int) := IntWalk.u32_in _ (by omega)
            have w2 : IntKind.u32.wrap (64 * (v : Int) + (x : Int)) = 64 * (v : Int) + (x : Int) := IntWalk.u32_in _ (by omega)
            have w3 : IntKind.u32.wrap (64 * (v : Int) + (x : Int) - 128) = 64 * (v : Int) + (x : Int) - 128 := IntWalk.u32_in _ (by omega)
            have HM2 := Lib.hid (HM.out.next (by rw [HX.out]; omega))
            go_wp2_with fail
            go_round
            case rel => exact ⟨k + 1, by omega, by omega, by go_num, by rw [HNX.out]; go_num, HM2⟩
            case measure => simp [intOf]; omega
      · obtain rfl : k = 3 := by omega
        have HV := Lib.hid (U8.one_val HK.out (by rw [← HN.out]; omega) HM.out)
        rw [HBB.out] at HV
        generalize U8.val l (b - 224) 3 = v at *
        by_cases h1 : v < 2048
        · have H1 := Lib.hid (HV.out.trans (if_pos (.inl h1)))
          have h1i : (v : Int) < 2048 := by omega
          go_wp2_with fail
          go_ret
          exact onePost (by rw [H1.out]; rfl)
        · have h1i : decide ((v : Int) < 2048) = false := by simp; omega
          by_cases h2 : 1114111 < v
          · have H1 := Lib.hid (HV.out.trans (if_pos (.inr (.inl h2))))
            have h2i : (1114111 : Int) < (v : Int) := by omega
            go_wp2_with fail
            go_ret
            exact onePost (by rw [H1.out]; rfl)
          · have h2i : decide ((1114111 : Int) < (v : Int)) = false := by simp; omega
            by_cases h3 : 55296 ≤ v
            · have h3i : (55296 : Int) ≤ (v : Int) := by omega
              by_cases h4 : v ≤ 57343
              · have H1 := Lib.hid (HV.out.trans (if_pos (.inr (.inr ⟨h3, h4⟩))))
                have h4i : (v : Int) ≤ 57343 := by omega
                go_wp2_with fail
                go_ret
                exact onePost (by rw [H1.out]; rfl)
              · have H1 := Lib.hid (HV.out.trans (if_neg (by omega)))
                have h4i : decide ((v : Int) ≤ 57343) = false := by simp; omega
                go_wp2_with fail
                go_ret
                exact onePost (by rw [H1.out]; rfl)
            · have H1 := Lib.hid (HV.out.trans (if_neg (by omega)))
              have h3i : decide ((55296 : Int) ≤ (v : Int)) = false := by simp; omega
              go_wp2_with fail
              go_ret
              exact onePost (by rw [H1.out]; rfl)
set_option maxHeartbeats 2000000 in
theorem one_kind4 (ad : Addr) (l : List UInt8) (n c B : Nat) (w : World) (hn : n = l.length) (h0 : 0 < n) (hA : Has w B (some ad) l) (hlo : 240 ≤ U8.byte l 0) (hhi : U8.byte l 0 < 248) :
    Calls Tryz.prog 67 #[.slice (some ad) n c] w (OnePost l w) := by
  have hK : U8.Kind (U8.byte l 0) 4 240 65536 := .inr (.inr ⟨rfl, rfl, rfl, hlo, hhi⟩)
  have HK := Lib.hid hK
  have c0 := hA.byte0 (by omega)
  have i0 : (0 : Int) < (n : Int) := by omega
  have HA := Lib.hid hA
  have HN := Lib.hid hn
  clear hn hA hK
  obtain ⟨b, hb⟩ : ∃ b, U8.byte l 0 = b := ⟨_, rfl⟩
  rw [hb] at hlo hhi c0
  have HBB := Lib.hid hb
  clear hb
  have k1 : ¬ (b : Int) < 128 := by omega
  have k2 : (192 : Int) ≤ (b : Int) := by omega
  have k3 : decide ((b : Int) < 224) = false := by simp; omega
  have k4 : (224 : Int) ≤ (b : Int) := by omega
  have k5 : decide ((b : Int) < 240) = false := by simp; omega
  have k6 : (240 : Int) ≤ (b : Int) := by omega
  have k7 : (b : Int) < 248 := by omega
  have kw : IntKind.u32.wrap ((b : Int) - 240) = (b : Int) - 240 := IntWalk.u32_in _ (by omega)
  by_cases hs : n < 4
  · have H1 := Lib.hid (U8.one_short HK.out (by rw [← HN.out]; exact hs))
    have hs' : (n : Int) < 4 := by omega
    go_enter Tryz.func67, Tryz.ntmps67
    go_wp2_with fail
    go_ret
    exact onePost (by rw [H1.out]; rfl)
  · have hs' : ¬ (n : Int) < 4 := by omega
    go_enter Tryz.func67, Tryz.ntmps67
    go_wp2_with fail
    go_loop [3, 6] (fun cv i => ∃ k : Nat, 1 ≤ k ∧ k ≤ 4 ∧ i = .int .i64 (k : Int) ∧ cv = .int .u32 (U8.val l (b - 240) k : Int) ∧ Hid (U8.Mids l k)) (fun _ i => 4 - (intOf i).toNat)
    case atStart => exact ⟨1, by omega, by omega, rfl, by rw [U8.val1]; go_num, Lib.hid (fun j h1 h2 => by omega)⟩
    case round =>
      obtain ⟨k, hk1, hk2, rfl, rfl, HM⟩ := hrel
      have hv := U8.val_le (l := l) (c0 := b - 240) (k := k) (by omega) HM.out (by omega)
      by_cases hlt : k < 4
      · have hkn : k < n := by omega
        have hcell := HA.out.byteAt (k := k) (by rw [← HN.out]; exact hkn)
        have hcell2 := HA.out.byte (k := k) (by rw [← HN.out]; exact hkn) (by omega)
        have hnext := U8.val_next l (b - 240) k hk1
        have hbk := U8.byte_lt l k
        obtain ⟨x, hx⟩ : ∃ x, U8.byte l k = x := ⟨_, rfl⟩
        have HX := Lib.hid hx
        obtain ⟨v, hvv⟩ : ∃ v, U8.val l (b - 240) k = v := ⟨_, rfl⟩
        rw [hvv] at hv hnext
        rw [hx] at hnext hcell hcell2 hbk
        have HNX := Lib.hid hnext
        rw [hvv]
        clear hx hvv hnext
        have hki : (k : Int) < (n : Int) := by omega
        have hk0 : (0 : Int) ≤ (k : Int) := by omega
        have hk00 : ¬ k = 0 := by omega
        have hlti : (k : Int) < 4 := by omega
        by_cases h1 : x < 128
        · have H1 := Lib.hid (U8.one_mid HK.out hk1 hlt (by rw [HX.out]; exact .inl h1))
          have h1i : (x : Int) < 128 := by omega
          go_wp2_with fail
          go_ret
          exact onePost (by rw [H1.out]; rfl)
        · have h1i : decide ((x : Int) < 128) = false := by simp; omega
          by_cases h2 : 191 < x
          · have H1 := Lib.hid (U8.one_mid HK.out hk1 hlt (by rw [HX.out]; exact .inr h2))
            have h2i : (191 : Int) < (x : Int) := by omega
            go_wp2_with fail
            go_ret
            exact onePost (by rw [H1.out]; rfl)
          · have h2i : decide ((191 : Int) < (x : Int)) = false := by simp; omega
            have w1 : IntKind.u32.wrap (64 * (v : Int)) = 64 * (v : Int) := IntWalk.u32_in _ (by omega)
            have w2 : IntKind.u32.wrap (64 * (v : Int) + (x : Int)) = 64 * (v : Int) + (x : Int) := IntWalk.u32_in _ (by omega)
            have w3 : IntKind.u32.wrap (64 * (v : Int) + (x : Int) - 128) = 64 * (v : Int) + (x : Int) - 128 := IntWalk.u32_in _ (by omega)
            have HM2 := Lib.hid (HM.out.next (by rw [HX.out]; omega))
            go_wp2_with fail
            go_round
            case rel => exact ⟨k + 1, by omega, by omega, by go_num, by rw [HNX.out]; go_num, HM2⟩
            case measure => simp [intOf]; omega
      · obtain rfl : k = 4 := by omega
        have HV := Lib.hid (U8.one_val HK.out (by rw [← HN.out]; omega) HM.out)
        rw [HBB.out] at HV
        generalize U8.val l (b - 240) 4 = v at *
        by_cases h1 : v < 65536
        · have H1 := Lib.hid (HV.out.trans (if_pos (.inl h1)))
          have h1i : (v : Int) < 65536 := by omega
          go_wp2_with fail
          go_ret
          exact onePost (by rw [H1.out]; rfl)
        · have h1i : decide ((v : Int) < 65536) = false := by simp; omega
          by_cases h2 : 1114111 < v
          · have H1 := Lib.hid (HV.out.trans (if_pos (.inr (.inl h2))))
            have h2i : (1114111 : Int) < (v : Int) := by omega
            go_wp2_with fail
            go_ret
            exact onePost (by rw [H1.out]; rfl)
          · have h2i : decide ((1114111 : Int) < (v : Int)) = false := by simp; omega
            by_cases h3 : 55296 ≤ v
            · have h3i : (55296 : Int) ≤ (v : Int) := by omega
              by_cases h4 : v ≤ 57343
              · have H1 := Lib.hid (HV.out.trans (if_pos (.inr (.inr ⟨h3, h4⟩))))
                have h4i : (v : Int) ≤ 57343 := by omega
                go_wp2_with fail
                go_ret
                exact onePost (by rw [H1.out]; rfl)
              · have H1 := Lib.hid (HV.out.trans (if_neg (by omega)))
                have h4i : decide ((v : Int) ≤ 57343) = false := by simp; omega
                go_wp2_with fail
                go_ret
                exact onePost (by rw [H1.out]; rfl)
            · have H1 := Lib.hid (HV.out.trans (if_neg (by omega)))
              have h3i : decide ((55296 : Int) ≤ (v : Int)) = false := by simp; omega
              go_wp2_with fail
              go_ret
              exact onePost (by rw [H1.out]; rfl)
theorem one_any (ad : Addr) (l : List UInt8) (n c B : Nat) (w : World) (hn : n = l.length) (h0 : 0 < n) (hA : Has w B (some ad) l) : Calls Tryz.prog 67 #[.slice (some ad) n c] w (OnePost l w) := by
  by_cases h1 : U8.byte l 0 < 128
  · exact one_low ad l n c B w hn h0 hA h1
  · by_cases h2 : U8.byte l 0 < 192
    · exact one_off ad l n c B w hn h0 hA (.inl ⟨by omega, h2⟩)
    · by_cases h3 : U8.byte l 0 < 224
      · exact one_kind2 ad l n c B w hn h0 hA (by omega) h3
      · by_cases h4 : U8.byte l 0 < 240
        · exact one_kind3 ad l n c B w hn h0 hA (by omega) h4
        · by_cases h5 : U8.byte l 0 < 248
          · exact one_kind4 ad l n c B w hn h0 hA (by omega) h5
          · exact one_off ad l n c B w hn h0 hA (.inr (by omega))
end Go.Proofs.YtgnbkfkiigcdgaaGreatDoor
/-
  The document's Valid: it tells whether the bytes are a text, and leaves the world as it was.
-/
namespace Go.Proofs.YtgnbkfkiigcdgaaGreatDoor
open Go.RowKit
set_option maxHeartbeats 1000000 in
theorem rvalid_any (A : Option Addr) (l : List UInt8) (n c : Nat) (w : World) (hn : n = l.length) (hmax : n ≤ 1000000) (hc : n ≤ c) (hcm : c ≤ 9223372036854775807) (hA : Has w w.heap.size A l) :
    Calls Tryz.prog 39 #[.slice A n c] w fun e w' => e = .returned (.bool (U8.text l)) ∧ w = w' := by
  obtain ⟨ans, hans⟩ : ∃ b, U8.text l = b := ⟨_, rfl⟩
  rw [hans]
  have HANS := Lib.hid hans
  have HA := Lib.hid hA
  have HN := Lib.hid hn
  clear hn hA hans
  go_enter Tryz.func39, Tryz.ntmps39
  go_wp2_with fail
  go_loop [3] (fun i => ∃ k : Nat, k ≤ n ∧ i = .int .i64 (k : Int) ∧ Hid (U8.text (l.drop k) = ans)) (fun i => n - (intOf i).toNat)
  case atStart => exact ⟨0, by omega, rfl, HANS⟩
  case round =>
    obtain ⟨k, hk, rfl, HT⟩ := hrel
    by_cases hlt : k < n
    · obtain ⟨ad, rfl⟩ := HA.out.someAddr (by have := HN.out; omega)
      have hlti : (k : Int) < (n : Int) := by omega
      have hk0 : (0 : Int) ≤ (k : Int) := by omega
      have hkc : (k : Int) ≤ (c : Int) := by omega
      have hck : ¬ (c - k = 0) := by omega
      have hpos : 0 < (l.drop k).length := by have := HN.out; simp; omega
      go_wp2_with fail
      refine (one_any (ad.add k) (l.drop k) (n - k) (c - k) w.heap.size _ (by have := HN.out; simp; omega) (by omega) (HA.out.from k)).mono ?_
      rintro e w' ⟨rfl, rfl⟩
      have hle := U8.one_le (l.drop k)
      have hlen : (l.drop k).length = n - k := by have := HN.out; simp; omega
      rw [hlen] at hle
      clear hlen
      by_cases h0 : U8.one (l.drop k) = 0
      · have hans := HT.out
        rw [U8.text_no (by omega) h0] at hans
        subst hans
        have h0i : ((U8.one (l.drop k) : Nat) : Int) = 0 := by omega
        have h0b : (((U8.one (l.drop k) : Nat) : Int) == 0) = true := by simpa using h0
        generalize U8.one (l.drop k) = o at h0b h0i hle ⊢
        clear h0i h0
        go_wp2_with fail
        go_ret
        exact ⟨rfl, rfl⟩
      · have h0b : (((U8.one (l.drop k) : Nat) : Int) == 0) = false := by simpa using h0
        have hst := (U8.text_step h0).symm.trans HT.out
        rw [List.drop_drop] at hst
        have HST := Lib.hid hst
        clear hst
        generalize U8.one (l.drop k) = o at h0b h0 hle HST ⊢
        have ho : (o : Int) ≤ 1000000 := by omega
        go_wp2_with fail
        go_round
        case rel => exact ⟨k + o, by omega, by go_num, HST⟩
        case measure => simp [intOf]; omega
    · have h0 : U8.text (l.drop k) = true := U8.text_nil (by have := HN.out; simp; omega)
      have hans := HT.out
      rw [h0] at hans
      subst hans
      have hlti : ¬ (k : Int) < (n : Int) := by omega
      go_wp2_with fail
      go_ret
      exact ⟨rfl, rfl⟩
end Go.Proofs.YtgnbkfkiigcdgaaGreatDoor
