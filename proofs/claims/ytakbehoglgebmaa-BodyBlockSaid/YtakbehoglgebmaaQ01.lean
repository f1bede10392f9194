/-
  A slice that reads as bytes; rows of a call's own and literals, read as bytes; string(b).
-/
import Derived.Test.YtakbehoglgebmaaRows
import Derived.WalkKit
import Derived.RegionTactic
import Derived.Deep.QuietTactic
import Derived.BigQuiet
import Derived.Below
import Derived.Outline
import Derived.OwnWalk
import Derived.Lib.Hide
import Derived.Laws.AppendOwn
import Derived.Laws.BitsAllLaws
import Derived.IntWalk
import Derived.Lib.BitFns
import Derived.Laws.CopyOwn
namespace Go.Proofs.Ytakbehoglgebmaa
open Go.RowKit
/-- A slice (its address, as the model has it) reads as these bytes, and lies below block B. -/
def Has (w : World) (B : Nat) (A : Option Addr) (l : List UInt8) : Prop := ∀ (k : Nat) (x : UInt8), l[k]? = some x → ∃ ad, A = some ad ∧ ad.block < B ∧ w.cell? (ad.add k) = some (.int .u8 (x.toNat : Int))
theorem Has.keep {w w' : World} {B : Nat} {A : Option Addr} {l : List UInt8} (h : Has w B A l) (hk : ∀ p : Addr, p.block < B → w'.cell? p = w.cell? p) : Has w' B A l := fun k x hx => by
  obtain ⟨ad, h1, h2, h3⟩ := h k x hx
  have hb : (ad.add k).block = ad.block := by unfold Addr.add; split <;> rfl
  exact ⟨ad, h1, h2, (hk _ (by rw [hb]; exact h2)).trans h3⟩
theorem Has.more {w : World} {B B' : Nat} {A : Option Addr} {l : List UInt8} (h : Has w B A l) (hB : B ≤ B') : Has w B' A l := fun k x hx => by
  obtain ⟨ad, h1, h2, h3⟩ := h k x hx
  exact ⟨ad, h1, by omega, h3⟩
theorem Has.below {w w' : World} {B : Nat} {A : Option Addr} {l : List UInt8} (h : Has w B A l) (hb : Below B w w') : Has w' B A l := h.keep fun _ hp => hb.cell hp
/-- Behind a call that leaves what was there as it was. -/
theorem Has.on {w w' : World} {A : Option Addr} {l : List UInt8} (h : Has w w.heap.size A l) (hb : Below w.heap.size w w') : Has w' w'.heap.size A l := (h.below hb).more hb.size
theorem Has.alloc {w : World} {B : Nat} {A : Option Addr} {l : List UInt8} (h : Has w B A l) (hB : B ≤ w.heap.size) (o : Obj) : Has (w.alloc o) B A l := h.keep fun p hp => World.cell?_alloc_lt w o p (by omega)
theorem Has.nil (w : World) (B : Nat) (A : Option Addr) : Has w B A [] := fun k x hx => by simp at hx
theorem Below.dn {B : Nat} {a w : World} (h : Below B a w) (n : Nat) : Below B a (w.drewN n) := ⟨h.os, h.tape, h.output, h.size, h.block⟩
/-- The cells of bytes. -/
def bytesOf (l : List UInt8) : List Value := l.map fun x => .int .u8 (x.toNat : Int)
theorem bytesOf_length (l : List UInt8) : (bytesOf l).length = l.length := by simp [bytesOf]
theorem bytesOf_at {l : List UInt8} {k : Nat} {u : Value} (h : (bytesOf l)[k]? = some u) : ∃ x, l[k]? = some x ∧ u = .int .u8 (x.toNat : Int) := by
  simp only [bytesOf, List.getElem?_map, Option.map_eq_some_iff] at h
  obtain ⟨x, hx, rfl⟩ := h
  exact ⟨x, hx, rfl⟩
theorem bytesOf_one (l : List UInt8) : ∀ u ∈ bytesOf l, u.oneCell' = true := by
  intro u hu
  simp only [bytesOf, List.mem_map] at hu
  obtain ⟨x, _, rfl⟩ := hu
  rfl
theorem Has.cells {w : World} {B : Nat} {A : Option Addr} {l : List UInt8} (h : Has w B A l) (h0 : 0 < (bytesOf l).length) : ∃ ad, A = some ad ∧ ∀ j v, (bytesOf l)[j]? = some v → w.cell? (ad.add j) = some v := by
  rw [bytesOf_length] at h0
  obtain ⟨ad, hA, _, _⟩ := h 0 l[0] (List.getElem?_eq_getElem h0)
  refine ⟨ad, hA, fun j v hv => ?_⟩
  obtain ⟨x, hx, rfl⟩ := bytesOf_at hv
  obtain ⟨ad', hA', _, hc⟩ := h j x hx
  rw [hA] at hA'
  injection hA' with hA'
  subst hA'
  exact hc
theorem one_new (W : World) (x : Value) (t : TypeId) : ∀ (j : Nat) (u : Value), [x][j]? = some u → (W.alloc (.cells #[x] t)).cell? ((⟨W.heap.size, 0, none⟩ : Addr).add j) = some u := by
  intro j u h
  cases j with
  | zero => simp at h; subst h; simp [Addr.add]
  | succ j => simp at h
theorem own_ge {w : World} {base e size n : Nat} {v : Value} {xs : List Value} (h : w.ownsRow base e size v n xs) : ∀ k, v.ownBlock = some k → base ≤ k := by
  intro k hk
  rcases h.2 with ⟨rfl, _⟩ | ⟨g, cap, cur, rfl, hg, _⟩
  · simp [Value.ownBlock] at hk
  · simp [Value.ownBlock] at hk; omega
theorem bytesOf_append (a b : List UInt8) : bytesOf (a ++ b) = bytesOf a ++ bytesOf b := by simp [bytesOf]
theorem bytesOf_nat (x : Nat) (h : x < 256) (z : Int) (hz : z = (x : Int)) : bytesOf [UInt8.ofNat x] = [Value.int .u8 z] := by
  subst hz
  have : (UInt8.ofNat x).toNat = x := by rw [UInt8.toNat_ofNat']; exact Nat.mod_eq_of_lt h
  show [Value.int .u8 ((UInt8.ofNat x).toNat : Int)] = _
  rw [this]
theorem und22 : Try.prog.underlying 34 = some (.slice 5) := by kernel_rfl
theorem info5 : (Try.prog.info? 5).map (fun i => (i.zero, i.size, i.bytes)) = some (some (.int .u8 0), 1, 1) := by kernel_rfl
theorem Has.take {w : World} {B : Nat} {A : Option Addr} {l : List UInt8} (h : Has w B A l) (n : Nat) : Has w B A (l.take n) := fun k x hx => by
  rw [List.getElem?_take] at hx
  split at hx
  · exact h k x hx
  · simp at hx
theorem Has.of_own {w : World} {base n : Nat} {e : TypeId} {v : Value} {l : List UInt8} (h : w.ownsRow base e 1 v n (bytesOf l)) (hn : 1 ≤ n) : ∃ (ad : Addr) (c : Nat), v = .slice (some ad) n c ∧ n ≤ c ∧ n = l.length ∧ Has w w.heap.size (some ad) l := by
  have hl := h.1
  rw [bytesOf_length, Nat.mul_one] at hl
  rcases h.2 with ⟨_, h0⟩ | ⟨g, cap, cur, rfl, hg, hh, hnc, _, _, htk⟩
  · omega
  · have hlt : g < w.heap.size := by
      rcases Nat.lt_or_ge g w.heap.size with h | h
      · exact h
      · rw [Array.getElem?_eq_none h] at hh; cases hh
    refine ⟨⟨g, 0, none⟩, cap, rfl, hnc, hl.symm, fun k x hx => ⟨_, rfl, hlt, ?_⟩⟩
    have hkl : k < l.length := (List.getElem?_eq_some_iff.1 hx).1
    have e1 : (bytesOf l)[k]? = some (.int .u8 (x.toNat : Int)) := by simp [bytesOf, hx]
    rw [← htk, Nat.mul_one, List.getElem?_take, if_pos (by omega)] at e1
    have e2 : (⟨g, 0, none⟩ : Addr).add k = ⟨g, k, none⟩ := by
      unfold Addr.add; split <;> simp_all
    rw [e2, cell_of_row w g k cur e (0, 0) hh]
    simpa using e1
theorem und5 : Try.prog.underlying 5 = some (.int .u8) := by kernel_rfl
/-- A row of the call's own reads as its bytes. -/
theorem Has.own {w : World} {base n : Nat} {e : TypeId} {v : Value} {l : List UInt8} (h : w.ownsRow base e 1 v n (bytesOf l)) : ∃ (A : Option Addr) (c : Nat), v = .slice A n c ∧ n ≤ c ∧ n = l.length ∧ Has w w.heap.size A l := by
  by_cases hn : 1 ≤ n
  · obtain ⟨ad, c, h1, h2, h3, h4⟩ := Has.of_own h hn
    exact ⟨_, c, h1, h2, h3, h4⟩
  · have hl := h.1
    rw [bytesOf_length, Nat.mul_one] at hl
    have : l = [] := List.eq_nil_of_length_eq_zero (by omega)
    subst this
    rcases h.2 with ⟨rfl, h0⟩ | ⟨g, cap, cur, rfl, _, _, hc, _⟩
    · subst h0; exact ⟨none, 0, rfl, Nat.le_refl _, rfl, Has.nil _ _ _⟩
    · exact ⟨_, cap, rfl, hc, hl.symm, Has.nil _ _ _⟩
/-- A literal of bytes. -/
theorem Has.lit (w : World) (l : List UInt8) (t : TypeId) : Has (w.alloc (.cells (bytesOf l).toArray t)) (w.heap.size + 1) (some ⟨w.heap.size, 0, none⟩) l := fun k x hx => by
  refine ⟨_, rfl, Nat.lt_succ_self _, ?_⟩
  have e2 : (⟨w.heap.size, 0, none⟩ : Addr).add k = ⟨w.heap.size, k, none⟩ := by
    unfold Addr.add; split <;> simp_all
  rw [e2, World.cell?_alloc_new]
  simp [bytesOf, hx]
end Go.Proofs.Ytakbehoglgebmaa
/-
  append of bytes onto rows of the call's own, as equations of runs; []byte{} and two appends.
-/
namespace Go.Proofs.Ytakbehoglgebmaa
open Go.RowKit
set_option maxRecDepth 100000 in
theorem run_append_nil (w : World) (base n c : Nat) (v : Value) (xs : List Value) (hown : w.ownsRow base 5 1 v n xs) : (Builtin.append_ #[34, 34] 34 #[v, .slice none 0 c]).run Try.prog w = .ok v w := by
  obtain ⟨i0, hi, hz0, hz1, hz2⟩ := info_parts info5
  rcases hown.2 with ⟨rfl, rfl⟩ | ⟨g, cap, cur, rfl, _, _, hnc, _⟩
  · simp [Builtin.append_, run_underlying und22, sizeOf, typeInfo, hi, Builtin.lenOf, Builtin.firstCells]
  · simp [Builtin.append_, run_underlying und22, sizeOf, typeInfo, hi, Builtin.lenOf, Builtin.firstCells, hnc, storeCells]
theorem wpList_appends {P : Program} {w : World} {ops : Array Oper} {rest : List Oper} {o : Oper} {a : Act} {Q : Exit → Act → World → Prop} (hgd : o.guard = none) (s x : Operand) (t : TypeId)
    (ho : o.op = .call { callee := .builtin .append, args := #[s, x], argTypes := #[t, t] }) (v u r : Value) (w' : World) (hs : a.eval s = v) (hx : a.eval x = u)
    (hrun : (Builtin.append_ #[t, t] o.type #[v, u]).run P w = .ok r w') (h : wpList P ops Q rest (a.put o.dst r) w') : wpList P ops Q (o :: rest) a w := by
  refine wpList_plain hgd fun K hK => ?_
  unfold Oper.wp execOp
  simp only [ho, resolve, invoke, builtin, Sem.run_bind, Sem.run_pure, Result.andThen_ok, List.map_toArray, List.map_cons, List.map_nil, hs, hx, hrun]
  exact hK _ _ h
end Go.Proofs.Ytakbehoglgebmaa
/-
  Plain mathematics of numbers of variable length, over lists of bytes: how many bytes a number has, what they come to, unsigned.
-/
namespace Leb
/-- Of how many bytes is the number with which the bytes begin; 0: it does not end. -/
def run : List UInt8 → Nat
  | [] => 0
  | b :: r => if b.toNat < 128 then 1 else if run r = 0 then 0 else run r + 1
/-- The bytes' seven bits each, the lowest first. -/
def val : List UInt8 → Nat
  | [] => 0
  | b :: r => b.toNat % 128 + 128 * val r
/-- The value of the bytes that are used. -/
def used (l : List UInt8) : Nat := val (l.take (run l))

/-- The first k bytes all go on. -/
def big (l : List UInt8) (k : Nat) : Prop := ∀ x ∈ l.take k, 128 ≤ x.toNat
theorem run_at : ∀ {l : List UInt8} {k : Nat} {x : UInt8}, big l k → l[k]? = some x → x.toNat < 128 → run l = k + 1
  | [], _, _, _, h, _ => by simp at h
  | b :: r, 0, x, _, h, hx => by
    simp at h; subst h; unfold run; rw [if_pos hx]
  | b :: r, k + 1, x, hb, h, hx => by
    have h1 : 128 ≤ b.toNat := hb b (by simp)
    have h2 := run_at (l := r) (k := k) (x := x) (fun y hy => hb y (by simp [hy])) (by simpa using h) hx
    unfold run
    rw [if_neg (by omega), if_neg (by omega), h2]

/-- Whether the bytes begin with an unsigned number of so many bits. -/
def okU (l : List UInt8) (n : Int) : Bool := decide (1 ≤ n ∧ n ≤ 64 ∧ 1 ≤ run l ∧ 7 * ((run l : Int) - 1) < n ∧ (used l : Int) < 2 ^ n.toNat)
end Leb
/-
  Plain mathematics of numbers of variable length, over lists of bytes: signed ones.
-/
namespace Leb
open Go Go.RowKit
/-- What is used, as a signed number. -/
def sused (l : List UInt8) : Int := if 2 * used l < 128 ^ run l then (used l : Int) else (used l : Int) - (128 ^ run l : Nat)
def okS (l : List UInt8) (n : Int) : Bool := decide (1 ≤ n ∧ n ≤ 64 ∧ 1 ≤ run l ∧ 7 * ((run l : Int) - 1) < n ∧ -(2 ^ (n - 1).toNat) ≤ sused l ∧ sused l < 2 ^ (n - 1).toNat)
theorem ofInt_any (b : Int) : (BitVec.ofInt 64 b).toNat = (b % 18446744073709551616).toNat := by
  rw [BitVec.toNat_ofInt]; rfl
end Leb
/-
  Plain mathematics of numbers of variable length: the fewest bytes of a number, and what is taken of them.
-/
namespace Leb
open Go Go.RowKit
/-- The fewest bytes of an unsigned number. -/
def encU (n : Nat) : List UInt8 := if n < 128 then [UInt8.ofNat n] else UInt8.ofNat (n % 128 + 128) :: encU (n / 128)
termination_by n
theorem encU_small {n : Nat} (h : n < 128) : encU n = [UInt8.ofNat n] := by rw [encU, if_pos h]
theorem encU_big {n : Nat} (h : 128 ≤ n) : encU n = UInt8.ofNat (n % 128 + 128) :: encU (n / 128) := by rw [encU, if_neg (by omega)]
theorem byte_of (x : Nat) (h : x < 256) : (UInt8.ofNat x).toNat = x := by
  rw [UInt8.toNat_ofNat']; exact Nat.mod_eq_of_lt h
theorem encU_pos (n : Nat) : 1 ≤ (encU n).length := by
  rw [encU]; split <;> simp
theorem encU_le : ∀ (k n : Nat), 1 ≤ k → n < 2 ^ (7 * k) → (encU n).length ≤ k
  | 0, _, h, _ => by omega
  | k + 1, n, _, hn => by
    by_cases h : n < 128
    · rw [encU_small h]; simp
    · rw [encU_big (by omega)]
      have h1 : n / 128 < 2 ^ (7 * k) := by
        rw [Nat.div_lt_iff_lt_mul (by decide)]
        rw [Nat.mul_add, Nat.pow_add] at hn
        exact hn
      have hk : 1 ≤ k := by
        rcases Nat.eq_zero_or_pos k with h0 | h0
        · subst h0; simp at hn; omega
        · exact h0
      have := encU_le k (n / 128) hk h1
      simp; omega
theorem encU_le10 (n : Nat) (h : n < 18446744073709551616) : (encU n).length ≤ 10 :=
  encU_le 10 n (by decide) (Nat.lt_of_lt_of_le h (by decide))
/-- The fewest bytes of a signed number. -/
def encS (n : Int) : List UInt8 := if -64 ≤ n ∧ n ≤ 63 then [UInt8.ofNat (n % 128).toNat] else UInt8.ofNat ((n % 128).toNat + 128) :: encS (n / 128)
termination_by n.natAbs
decreasing_by omega
theorem encS_small {n : Int} (h : -64 ≤ n ∧ n ≤ 63) : encS n = [UInt8.ofNat (n % 128).toNat] := by rw [encS, if_pos h]
theorem encS_big {n : Int} (h : ¬ (-64 ≤ n ∧ n ≤ 63)) : encS n = UInt8.ofNat ((n % 128).toNat + 128) :: encS (n / 128) := by rw [encS, if_neg h]
theorem encS_pos (n : Int) : 1 ≤ (encS n).length := by
  rw [encS]; split <;> simp
theorem encS_le : ∀ (k : Nat) (n : Int), -(64 * 128 ^ k : Nat) ≤ n → n < (64 * 128 ^ k : Nat) → (encS n).length ≤ k + 1
  | 0, n, h1, h2 => by
    rw [encS_small (by simp at h1 h2; omega)]; simp
  | k + 1, n, h1, h2 => by
    by_cases h : -64 ≤ n ∧ n ≤ 63
    · rw [encS_small h]; simp
    · rw [encS_big h]
      rw [Nat.pow_succ, ← Nat.mul_assoc] at h1 h2
      have := encS_le k (n / 128) (by omega) (by omega)
      simp; omega
theorem encS_le10 (n : Int) (h0 : -9223372036854775808 ≤ n) (h1 : n ≤ 9223372036854775807) : (encS n).length ≤ 10 := by
  have e : (64 * 128 ^ 9 : Nat) = 590295810358705651712 := by decide
  exact encS_le 9 n (by rw [e]; omega) (by rw [e]; omega)
end Leb
/-
  Plain mathematics of numbers of variable length: their bits.
-/
namespace Leb
open Go Go.RowKit
/-- Bytes as a signed number. -/
def sval (l : List UInt8) : Int := if 2 * val l < 128 ^ l.length then (val l : Int) else (val l : Int) - (128 ^ l.length : Nat)
/-- Bytes as a number, of either kind. -/
def num (l : List UInt8) (sg : Bool) : Int := if sg = true then sval l else (val l : Int)
end Leb
/-
  Plain mathematics of numbers of variable length: how many bits they have, told by single bits.
-/
namespace Leb
open Go Go.RowKit
end Leb
/-
  Plain mathematics of numbers of variable length: their first bytes, and when these are the fewest.
-/
namespace Leb
open Go Go.RowKit
/-- The first k bytes of a number, each going on. -/
def pre : Int → Nat → List UInt8
  | _, 0 => []
  | x, k + 1 => UInt8.ofNat ((x % 128).toNat + 128) :: pre (x / 128) k
end Leb
/-
  Plain mathematics of numbers of variable length: a number in n bytes; when that is the number, and when these are the fewest.
-/
namespace Leb
open Go Go.RowKit
/-- A number that n bytes can hold, signed. -/
def inS (N : Int) (n : Nat) : Prop := -(64 * 128 ^ (n - 1)) ≤ N ∧ N < 64 * 128 ^ (n - 1)
end Leb
/-
  Plain mathematics of numbers of variable length: what was taken, taken again and appended.
-/
namespace Leb
open Go Go.RowKit
end Leb
/-
  Plain mathematics of numbers of variable length: what was appended is taken by as many bits as it has, by fewer not; cut it is not taken.
-/
namespace Leb
open Go Go.RowKit
end Leb
/-
  leb.grown's contract: a copy of the bytes that came in, in a new row of its own; all memory that was there is as it was.
-/
namespace Go.Proofs.Ytakbehoglgebmaa
open Go.RowKit
set_option maxHeartbeats 400000 in
/-- leb.grown: a copy, in a new row that has room. -/
theorem c22 (A : Option Addr) (l : List UInt8) (n c : Nat) (w : World) (hn : n = l.length) (hsz : n + 10 ≤ 140737488355328) (hA : Has w w.heap.size A l) :
    Calls Try.prog 86 #[.slice A n c] w fun e w' => ∃ v, e = .returned v ∧ w'.ownsRow w.heap.size 5 1 v n (bytesOf l) ∧ Below w.heap.size w w' := by
  obtain ⟨i0, hi, hz0, hz1, hz2⟩ := info_parts info5
  have HA := Lib.hid hA
  have HN := Lib.hid hn
  have hmk := fun W => run_make (P := Try.prog) W 34 5 i0 (.int .u8 0) und22 hi hz0 .i64 .i64 (n : Int) ((n : Int) + 10) (by omega) (by omega) (by rw [hz2]; omega) (by omega)
  clear hA hn
  go_enter Try.func86, Try.ntmps86
  go_wp2_with (with_reducible refine wpList_copy_splice rfl (.tmp 10) (.tmp 11) 34 34 rfl 5 und22 ?hsz1 (some ⟨w.heap.size, 0, none⟩) A n (n + 10) n c rfl rfl w.heap.size 0 (madeCells #[Value.int IntKind.u8 0] (n + 10)).toList 5 ?hg (bytesOf l) ?hn ?hpos ?hfit (bytesOf_one l) w.heap.size w ?hb (Nat.le_refl _) ?_)
  case hsz1 => rw [hi]; simp [hz1]
  case hg => simpa using heap_alloc_new w _
  case hn => rw [bytesOf_length, ← HN.out]; exact (Nat.min_self n).symm
  case hpos => exact fun h0 => (HA.out.alloc (Nat.le_refl _) _).cells h0
  case hfit => rw [bytesOf_length, ← HN.out]; simp [size_madeCells]
  case hb => exact (Below.refl _ _).alloc (Nat.le_refl _) _
  intro w' hrow hbel
  clear hmk
  go_wp2
  go_ret
  refine ⟨_, rfl, ⟨by rw [bytesOf_length, ← HN.out]; omega, .inr ⟨w.heap.size, n + 10, _, rfl, Nat.le_refl _, hrow.out, by omega, by unfold maxLen; omega, ?_, ?_⟩⟩, hbel⟩
  · simp [splice, size_madeCells, bytesOf_length, ← HN.out]
  · rw [Nat.mul_one, show n = (bytesOf l).length by rw [bytesOf_length]; exact HN.out]
    simp [splice]
end Go.Proofs.Ytakbehoglgebmaa
/-
  leb.AppendU's contract: the bytes that came in and behind them the fewest bytes of the number, in a row of the call's own; all memory that was there is as it was.
-/
namespace Go.Proofs.Ytakbehoglgebmaa
open Go.RowKit
theorem and127 (m : Nat) (h : m < 18446744073709551616) : bits .and .u64 (m : Int) 127 = (m : Int) % 128 := by
  have h1 : bits .and .u64 (m : Int) 127 = ((m &&& 127 : Nat) : Int) := u64_and_nat m 127 h (by decide)
  rw [h1, nat_mask7]; omega
theorem or128 (m : Nat) (h : m < 128) : bits .or .u8 (m : Int) 128 = (m : Int) + 128 := by
  have h1 : bits .or .u8 (m : Int) 128 = ((m ||| 128 : Nat) : Int) := u8_or_nat m 128 (by omega) (by decide)
  have h2 : 128 ||| m = 128 + m := nat_join 7 128 m (by decide) (by omega)
  rw [h1, Nat.or_comm, h2]; omega
set_option maxRecDepth 100000 in
set_option maxHeartbeats 1000000 in
theorem c11 (A : Option Addr) (l : List UInt8) (n c N : Nat) (w : World) (hn : n = l.length) (hsz : n + 10 ≤ 140737488355328) (hA : Has w w.heap.size A l) (hN : N < 18446744073709551616) :
    Calls Try.prog 85 #[.slice A n c, .int .u64 (N : Int)] w fun e w' => ∃ v, e = .returned v ∧ w'.ownsRow w.heap.size 5 1 v (n + (Leb.encU N).length) (bytesOf (l ++ Leb.encU N)) ∧ Below w.heap.size w w' := by
  obtain ⟨i0, hi, hz0, hz1, hz2⟩ := info_parts info5
  have HA := Lib.hid hA
  have HN := Lib.hid hn
  have HNN := Lib.hid hN
  clear hA hn hN
  go_enter Try.func85, Try.ntmps85
  go_wp2_with (go_at_call 86; refine (c22 A l n c _ HN.out hsz HA.out).mono ?_; rintro e w1 ⟨v, rfl, hown, hbel⟩)
  have HO := Lib.hid hown
  have HB := Lib.hid hbel
  clear hown hbel
  go_wp2_with fail
  go_loopw [1, 5] (fun nv v wr => ∃ (m : Nat) (done : List UInt8), nv = .int .u64 (m : Int) ∧ m ≤ 18446744073709551615 ∧ Hid (Leb.encU N = done ++ Leb.encU m) ∧ done.length ≤ 9 ∧ Hid (wr.ownsRow w.heap.size 5 1 v (n + done.length) (bytesOf (l ++ done))) ∧ Hid (Below w.heap.size w wr)) (fun nv _ _ => (intOf nv).toNat)
  case atStart => exact ⟨N, [], rfl, by have := HNN.out; omega, Lib.hid rfl, by simp, Lib.hid (by simpa using HO.out), HB⟩
  case round =>
    obtain ⟨m, done, rfl, hm, hE, hd, hown, hbel⟩ := hrel
    by_cases hbig : 127 < m
    · have ha := and127 m (by omega)
      have hob := or128 (m % 128) (by omega)
      rw [Int.natCast_emod] at hob
      have hw8 : IntKind.u8.wrap ((m : Int) % 128) = (m : Int) % 128 := IntWalk.u8_in _ (by omega)
      have hcast : ((128 : Nat) : Int) = 128 := rfl
      rw [hcast] at hob
      clear hcast
      have hE2 := Leb.encU_big (n := m) (by omega)
      have HE2 := Lib.hid hE2
      clear hE2
      go_wp2_with (at_builtin; refine wpList_append_own _ rfl _ _ 34 rfl w.heap.size 5 i0 (.int .u8 0) 1 1 und22 hi hz0 hz1 hz2 rfl (by decide) _ _ _ rfl (hown.out.alloc _) ⟨wr.heap.size, 0, none⟩ 1 1 [.int .u8 ((m : Int) % 128 + 128)] rfl rfl ?c1 ?c2 ?c3 ?c4 ?c5 ?_)
      case c1 => exact one_new wr _ 5
      case c2 => intro u hu; simp at hu; subst hu; rfl
      case c3 => unfold maxLen; omega
      case c4 => omega
      case c5 => have := hbel.out.size; simp; omega
      intro v' w' hown' hgrow hnil
      have hbel' := (hbel.out.alloc hbel.out.size _).grown hgrow (by have := hbel.out.size; simp; omega) (own_ge hown.out)
      have HO' := Lib.hid hown'
      have HB' := Lib.hid hbel'
      clear hown' hgrow hnil hbel' hown hbel
      go_wp2_with fail
      go_roundw
      case rel =>
        have e1 := Leb.encU_le10 N HNN.out
        have e2 := Leb.encU_pos (m / 128)
        refine ⟨m / 128, done ++ [UInt8.ofNat (m % 128 + 128)], by go_num, by omega, Lib.hid ?_, ?_, Lib.hid ?_, HB'⟩
        · rw [hE.out, HE2.out]; simp
        · rw [hE.out, HE2.out] at e1; simp at e1 ⊢; omega
        · have h := HO'.out
          have e3 : bytesOf (l ++ (done ++ [UInt8.ofNat (m % 128 + 128)])) = bytesOf (l ++ done) ++ [Value.int .u8 ((m : Int) % 128 + 128)] := by
            rw [← List.append_assoc, bytesOf_append, bytesOf_nat (m % 128 + 128) (by omega) ((m : Int) % 128 + 128) (by omega)]
          rw [e3, List.length_append]
          exact h
      case measure => simp [intOf]; omega
    · have hw8 : IntKind.u8.wrap (m : Int) = (m : Int) := IntWalk.u8_in _ (by omega)
      have HE2 := Lib.hid (Leb.encU_small (n := m) (by omega))
      go_wp2_with (at_builtin; refine wpList_append_own _ rfl _ _ 34 rfl w.heap.size 5 i0 (.int .u8 0) 1 1 und22 hi hz0 hz1 hz2 rfl (by decide) _ _ _ rfl (hown.out.alloc _) ⟨wr.heap.size, 0, none⟩ 1 1 [.int .u8 (m : Int)] rfl rfl ?c1 ?c2 ?c3 ?c4 ?c5 ?_)
      case c1 => exact one_new wr _ 5
      case c2 => intro u hu; simp at hu; subst hu; rfl
      case c3 => unfold maxLen; omega
      case c4 => omega
      case c5 => have := hbel.out.size; simp; omega
      intro v' w' hown' hgrow hnil
      have hbel' := (hbel.out.alloc hbel.out.size _).grown hgrow (by have := hbel.out.size; simp; omega) (own_ge hown.out)
      have HO' := Lib.hid hown'
      have HB' := Lib.hid hbel'
      clear hown' hgrow hnil hbel' hown hbel
      go_wp2_with fail
      go_ret
      refine ⟨_, rfl, ?_, HB'.out⟩
      have h := HO'.out
      have e3 : bytesOf (l ++ Leb.encU N) = bytesOf (l ++ done) ++ [Value.int .u8 (m : Int)] := by
        rw [hE.out, HE2.out, ← List.append_assoc, bytesOf_append, bytesOf_nat m (by omega) (m : Int) rfl]
      rw [e3, hE.out, HE2.out, List.length_append, ← Nat.add_assoc]
      exact h
end Go.Proofs.Ytakbehoglgebmaa
/-
  leb.AppendS's contract: the bytes that came in and behind them the fewest bytes of the number, in a row of the call's own; all memory that was there is as it was.
-/
namespace Go.Proofs.Ytakbehoglgebmaa
open Go.RowKit
theorem and127s (m : Int) : bits .and .i64 m 127 = m % 128 := by
  show IntKind.i64.wrap ((BitVec.ofInt 64 m &&& BitVec.ofInt 64 127).toNat : Int) = _
  have h2 : (BitVec.ofInt 64 127).toNat = 127 := by decide
  rw [BitVec.toNat_and, Leb.ofInt_any, h2, nat_mask7, IntKind.wrap_i64]
  omega
set_option maxRecDepth 100000 in
set_option maxHeartbeats 1000000 in
theorem c12 (A : Option Addr) (l : List UInt8) (n c : Nat) (N : Int) (w : World) (hn : n = l.length) (hsz : n + 10 ≤ 140737488355328) (hA : Has w w.heap.size A l) (hN : -9223372036854775808 ≤ N ∧ N ≤ 9223372036854775807) :
    Calls Try.prog 66 #[.slice A n c, .int .i64 N] w fun e w' => ∃ v, e = .returned v ∧ w'.ownsRow w.heap.size 5 1 v (n + (Leb.encS N).length) (bytesOf (l ++ Leb.encS N)) ∧ Below w.heap.size w w' := by
  obtain ⟨i0, hi, hz0, hz1, hz2⟩ := info_parts info5
  have HA := Lib.hid hA
  have HN := Lib.hid hn
  have HNN := Lib.hid hN
  clear hA hn hN
  go_enter Try.func66, Try.ntmps66
  go_wp2_with (go_at_call 86; refine (c22 A l n c _ HN.out hsz HA.out).mono ?_; rintro e w1 ⟨v, rfl, hown, hbel⟩)
  have HO := Lib.hid hown
  have HB := Lib.hid hbel
  clear hown hbel
  go_wp2_with fail
  go_loopw [1, 5] (fun nv v wr => ∃ (m : Int) (done : List UInt8), nv = .int .i64 m ∧ -9223372036854775808 ≤ m ∧ m ≤ 9223372036854775807 ∧ Hid (Leb.encS N = done ++ Leb.encS m) ∧ done.length ≤ 9 ∧ Hid (wr.ownsRow w.heap.size 5 1 v (n + done.length) (bytesOf (l ++ done))) ∧ Hid (Below w.heap.size w wr)) (fun nv _ _ => (intOf nv).natAbs)
  case atStart => exact ⟨N, [], rfl, HNN.out.1, HNN.out.2, Lib.hid rfl, by simp, Lib.hid (by simpa using HO.out), HB⟩
  case round =>
    obtain ⟨m, done, rfl, hm0, hm, hE, hd, hown, hbel⟩ := hrel
    have ha := and127s m
    have hw8 : IntKind.u8.wrap (m % 128) = m % 128 := IntWalk.u8_in _ (by omega)
    by_cases hbig : -64 ≤ m ∧ m ≤ 63
    · obtain ⟨hb1, hb2⟩ := hbig
      have HE2 := Lib.hid (Leb.encS_small (n := m) ⟨hb1, hb2⟩)
      go_wp2_with (at_builtin; refine wpList_append_own _ rfl _ _ 34 rfl w.heap.size 5 i0 (.int .u8 0) 1 1 und22 hi hz0 hz1 hz2 rfl (by decide) _ _ _ rfl (hown.out.alloc _) ⟨wr.heap.size, 0, none⟩ 1 1 [.int .u8 (m % 128)] rfl rfl ?c1 ?c2 ?c3 ?c4 ?c5 ?_)
      case c1 => exact one_new wr _ 5
      case c2 => intro u hu; simp at hu; subst hu; rfl
      case c3 => unfold maxLen; omega
      case c4 => omega
      case c5 => have := hbel.out.size; simp; omega
      intro v' w' hown' hgrow hnil
      have hbel' := (hbel.out.alloc hbel.out.size _).grown hgrow (by have := hbel.out.size; simp; omega) (own_ge hown.out)
      have HO' := Lib.hid hown'
      have HB' := Lib.hid hbel'
      clear hown' hgrow hnil hbel' hown hbel
      go_wp2_with fail
      go_ret
      refine ⟨_, rfl, ?_, HB'.out⟩
      have h := HO'.out
      have e3 : bytesOf (l ++ Leb.encS N) = bytesOf (l ++ done) ++ [Value.int .u8 (m % 128)] := by
        rw [hE.out, HE2.out, ← List.append_assoc, bytesOf_append, bytesOf_nat (m % 128).toNat (by omega) (m % 128) (by omega)]
      rw [e3, hE.out, HE2.out, List.length_append, ← Nat.add_assoc]
      exact h
    · have hob : bits .or .u8 (m % 128) 128 = m % 128 + 128 := by
        have h := or128 (m % 128).toNat (by omega)
        rwa [show (((m % 128).toNat : Nat) : Int) = m % 128 by omega] at h
      have HE2 := Lib.hid (Leb.encS_big (n := m) hbig)
      by_cases hlow : m < -64
      · clear hbig
        have hd1 : -9223372036854775808 ≤ m / 128 := by omega
        go_wp2_with (at_builtin; refine wpList_append_own _ rfl _ _ 34 rfl w.heap.size 5 i0 (.int .u8 0) 1 1 und22 hi hz0 hz1 hz2 rfl (by decide) _ _ _ rfl (hown.out.alloc _) ⟨wr.heap.size, 0, none⟩ 1 1 [.int .u8 (m % 128 + 128)] rfl rfl ?d1 ?d2 ?d3 ?d4 ?d5 ?_)
        case d1 => exact one_new wr _ 5
        case d2 => intro u hu; simp at hu; subst hu; rfl
        case d3 => unfold maxLen; omega
        case d4 => omega
        case d5 => have := hbel.out.size; simp; omega
        intro v' w' hown' hgrow hnil
        have hbel' := (hbel.out.alloc hbel.out.size _).grown hgrow (by have := hbel.out.size; simp; omega) (own_ge hown.out)
        have HO' := Lib.hid hown'
        have HB' := Lib.hid hbel'
        clear hown' hgrow hnil hbel' hown hbel
        go_wp2_with fail
        go_roundw
        case rel =>
          have e1 := Leb.encS_le10 N HNN.out.1 HNN.out.2
          have e2 := Leb.encS_pos (m / 128)
          refine ⟨m / 128, done ++ [UInt8.ofNat ((m % 128).toNat + 128)], by go_num, by omega, by omega, Lib.hid ?_, ?_, Lib.hid ?_, HB'⟩
          · rw [hE.out, HE2.out]; simp
          · rw [hE.out, HE2.out] at e1; simp at e1 ⊢; omega
          · have h := HO'.out
            have e3 : bytesOf (l ++ (done ++ [UInt8.ofNat ((m % 128).toNat + 128)])) = bytesOf (l ++ done) ++ [Value.int .u8 (m % 128 + 128)] := by
              rw [← List.append_assoc, bytesOf_append, bytesOf_nat ((m % 128).toNat + 128) (by omega) (m % 128 + 128) (by omega)]
            rw [e3, List.length_append]
            exact h
        case measure => simp [intOf]; omega
      · have hhi : 63 < m := by omega
        clear hbig
        have hd1 : -9223372036854775808 ≤ m / 128 := by omega
        go_wp2_with (at_builtin; refine wpList_append_own _ rfl _ _ 34 rfl w.heap.size 5 i0 (.int .u8 0) 1 1 und22 hi hz0 hz1 hz2 rfl (by decide) _ _ _ rfl (hown.out.alloc _) ⟨wr.heap.size, 0, none⟩ 1 1 [.int .u8 (m % 128 + 128)] rfl rfl ?kk1 ?kk2 ?kk3 ?kk4 ?kk5 ?_)
        case kk2 => rfl
        case kk3 => unfold maxLen; omega
        case kk4 => omega
        case kk5 => have := hbel.out.size; omega
        intro v' w' hown' hgrow hnil
        have hbel' := (hbel.out.alloc hbel.out.size _).grown hgrow (by have := hbel.out.size; simp; omega) (own_ge hown.out)
        have HO' := Lib.hid hown'
        have HB' := Lib.hid hbel'
        clear hown' hgrow hnil hbel' hown hbel
        go_wp2_with fail
        go_roundw
        case rel =>
          have e1 := Leb.encS_le10 N HNN.out.1 HNN.out.2
          have e2 := Leb.encS_pos (m / 128)
          refine ⟨m / 128, done ++ [UInt8.ofNat ((m % 128).toNat + 128)], by go_num, by omega, by omega, Lib.hid ?_, ?_, Lib.hid ?_, HB'⟩
          · rw [hE.out, HE2.out]; simp
          · rw [hE.out, HE2.out] at e1; simp at e1 ⊢; omega
          · have h := HO'.out
            have e3 : bytesOf (l ++ (done ++ [UInt8.ofNat ((m % 128).toNat + 128)])) = bytesOf (l ++ done) ++ [Value.int .u8 (m % 128 + 128)] := by
              rw [← List.append_assoc, bytesOf_append, bytesOf_nat ((m % 128).toNat + 128) (by omega) (m % 128 + 128) (by omega)]
            rw [e3, List.length_append]
            exact h
        case measure => simp [intOf]; omega
end Go.Proofs.Ytakbehoglgebmaa
