/-
  Plain mathematics of numbers of variable length, over lists of bytes: how many bytes a number has, what they come to, unsigned.
-/
import Derived.Laws.BitsAllLaws
import Derived.IntWalk
import Derived.Lib.BitFns
import Derived.Test.YthkglmkpnhhboaaGreatDoorR01
set_option maxRecDepth 100000
set_option maxHeartbeats 4000000
namespace Leb
def run : List UInt8 → Nat
 | [] => 0
 | b :: r => if b.toNat < 128 then 1 else if run r = 0 then 0 else run r + 1
def val : List UInt8 → Nat
 | [] => 0
 | b :: r => b.toNat % 128 + 128 * val r
def used (l : List UInt8) : Nat := val (l.take (run l))
theorem iL : ∀ l : List UInt8, val l < 128 ^ l.length
 | [] => by simp [val]
 | b :: r => by
  have := iL r
  have h2 : b.toNat % 128 < 128 := Nat.mod_lt _ (by decide)
  simp only [val, List.length_cons, Nat.pow_succ]
  omega
theorem gx : ∀ a b : List UInt8, val (a ++ b) = val a + 128 ^ a.length * val b
 | [], b => by simp [val]
 | x :: a, b => by
  simp only [List.cons_append, val, gx a b, List.length_cons, Nat.pow_succ, Nat.mul_add]
  rw [Nat.mul_comm (128 ^ a.length) 128, Nat.mul_assoc]
  omega
theorem hD {l : List UInt8} {k : Nat} {x : UInt8} (h : l[k]? = some x) : l.take (k + 1) = l.take k ++ [x] := by
 rw [List.take_add_one, h]; rfl
theorem cK {l : List UInt8} {k : Nat} {x : UInt8} (h : l[k]? = some x) : (l.take k).length = k := by
 have := (List.getElem?_eq_some_iff.1 h).1
 simp; omega
theorem val_take_succ {l : List UInt8} {k : Nat} {x : UInt8} (h : l[k]? = some x) : val (l.take (k + 1)) = val (l.take k) + 128 ^ k * (x.toNat % 128) := by
 rw [hD h, gx, cK h]; simp [val]
def big (l : List UInt8) (k : Nat) : Prop := ∀ x ∈ l.take k, 128 ≤ x.toNat
theorem big_zero (l : List UInt8) : big l 0 := by simp [big]
theorem big_succ {l : List UInt8} {k : Nat} {x : UInt8} (hb : big l k) (h : l[k]? = some x) (hx : 128 ≤ x.toNat) : big l (k + 1) := by
 intro y hy
 rw [hD h] at hy
 rcases List.mem_append.1 hy with hy | hy
 ·exact hb y hy
 ·simp at hy; subst hy; exact hx
theorem fD : ∀ {l : List UInt8} {k : Nat}, big l k → run l = 0 ∨ k < run l
 | [], _, _ => by simp [run]
 | b :: r, 0, _ => by
  unfold run; split
  ·omega
  ·split <;> omega
 | b :: r, k + 1, h => by
  have hb : 128 ≤ b.toNat := h b (by simp)
  have hr := fD (l := r) (k := k) (fun x hx => h x (by simp [hx]))
  unfold run
  rw [if_neg (by omega)]
  split <;> omega
theorem run_none {l : List UInt8} {k : Nat} (h : big l k) (hk : l.length ≤ k) : run l = 0 := by
 rcases fD h with h0 | h0
 ·exact h0
 ·exfalso
  have : ∀ l : List UInt8, run l ≤ l.length := by
   intro l
   induction l with
   | nil => simp [run]
   | cons b r ih => unfold run; simp only [List.length_cons]; split <;> (try split) <;> omega
  have := this l
  omega
theorem run_le : ∀ l : List UInt8, run l ≤ l.length := by
 intro l
 induction l with
 | nil => simp [run]
 | cons b r ih => unfold run; simp only [List.length_cons]; split <;> (try split) <;> omega
theorem run_at : ∀ {l : List UInt8} {k : Nat} {x : UInt8}, big l k → l[k]? = some x → x.toNat < 128 → run l = k + 1
 | [], _, _, _, h, _ => by simp at h
 | b :: r, 0, x, _, h, hx => by
  simp at h; subst h; unfold run; rw [if_pos hx]
 | b :: r, k + 1, x, hb, h, hx => by
  have h1 : 128 ≤ b.toNat := hb b (by simp)
  have h2 := run_at (l := r) (k := k) (x := x) (fun y hy => hb y (by simp [hy])) (by simpa using h) hx
  unfold run
  rw [if_neg (by omega), if_neg (by omega), h2]
theorem pow128 (k : Nat) : 128 ^ k = 2 ^ (7 * k) := by rw [Nat.pow_mul]
def okU (l : List UInt8) (n : Int) : Bool := decide (1 ≤ n ∧ n ≤ 64 ∧ 1 ≤ run l ∧ 7 * ((run l : Int) - 1) < n ∧ (used l : Int) < 2 ^ n.toNat)
def numU (l : List UInt8) (n : Int) : Int := if okU l n = true then (used l : Int) else 0
def cntU (l : List UInt8) (n : Int) : Int := if okU l n = true then (run l : Int) else 0
theorem okU_bits {l : List UInt8} {n : Int} (h : n < 1 ∨ 64 < n) : okU l n = false := by
 unfold okU; rw [decide_eq_false_iff_not]; omega
theorem okU_end {l : List UInt8} {n : Int} {k : Nat} (hb : big l k) (h : l.length ≤ k ∨ n ≤ 7 * (k : Int)) : okU l n = false := by
 unfold okU; rw [decide_eq_false_iff_not]
 rintro ⟨_, _, h1, h2, _⟩
 rcases h with h | h
 ·have := run_none hb h; omega
 ·rcases fD hb with h0 | h0 <;> omega
theorem used_at {l : List UInt8} {k : Nat} {x : UInt8} (hb : big l k) (h : l[k]? = some x) (hx : x.toNat < 128) : used l = val (l.take k) + 2 ^ (7 * k) * x.toNat := by
 unfold used
 rw [run_at hb h hx, val_take_succ h, pow128, Nat.mod_eq_of_lt hx]
theorem val_take_lt {l : List UInt8} {k : Nat} {x : UInt8} (h : l[k]? = some x) : val (l.take k) < 2 ^ (7 * k) := by
 have := iL (l.take k)
 rwa [cK h, pow128] at this
theorem okU_last {l : List UInt8} {n : Int} {k : Nat} {x : UInt8} (hb : big l k) (h : l[k]? = some x) (hx : x.toNat < 128) (h1 : 1 ≤ n) (h2 : n ≤ 64) (h3 : 7 * (k : Int) < n) :
  okU l n = decide ((x.toNat : Int) / 2 ^ min (n - 7 * (k : Int)).toNat 8 = 0) := by
 obtain ⟨m, rfl⟩ : ∃ m : Nat, n = m := ⟨n.toNat, by omega⟩
 have hm : ((m : Int) - 7 * (k : Int)).toNat = m - 7 * k := by omega
 have hr := run_at hb h hx
 have hu := used_at hb h hx
 have hv := val_take_lt h
 unfold okU
 rw [Bool.eq_iff_iff, decide_eq_true_iff, decide_eq_true_iff, hr, hm, hu]
 have e1 : ((x.toNat : Int) / 2 ^ min (m - 7 * k) 8) = ((x.toNat / 2 ^ min (m - 7 * k) 8 : Nat) : Int) := by simp
 have e2 : ((2 : Int) ^ (m : Int).toNat) = ((2 ^ m : Nat) : Int) := by simp
 rw [e1, e2]
 have e3 : (2 : Nat) ^ m = 2 ^ (7 * k) * 2 ^ (m - 7 * k) := by rw [← Nat.pow_add]; congr 1; omega
 have key : val (l.take k) + 2 ^ (7 * k) * x.toNat < 2 ^ m ↔ x.toNat < 2 ^ (m - 7 * k) := by
  rw [e3]
  constructor
  ·intro hlt
   apply Nat.lt_of_mul_lt_mul_left (a := 2 ^ (7 * k))
   omega
  ·intro hlt
   have : 2 ^ (7 * k) * (x.toNat + 1) ≤ 2 ^ (7 * k) * 2 ^ (m - 7 * k) := Nat.mul_le_mul_left _ hlt
   rw [Nat.mul_add, Nat.mul_one] at this
   omega
 have key2 : x.toNat / 2 ^ min (m - 7 * k) 8 = 0 ↔ x.toNat < 2 ^ (m - 7 * k) := by
  rw [Nat.div_eq_zero_iff_lt (Nat.pow_pos (by decide))]
  by_cases h8 : m - 7 * k ≤ 8
  ·rw [Nat.min_eq_left h8]
  ·rw [Nat.min_eq_right (by omega)]
   have : 2 ^ 8 ≤ 2 ^ (m - 7 * k) := Nat.pow_le_pow_right (by decide) (by omega)
   constructor <;> intro <;> omega
 constructor
 ·rintro ⟨_, _, _, _, h5⟩
  have h6 : val (l.take k) + 2 ^ (7 * k) * x.toNat < 2 ^ m := by exact_mod_cast h5
  have := key2.2 (key.1 h6)
  omega
 ·intro h5
  have h6 := key.2 (key2.1 (by omega))
  refine ⟨h1, h2, by omega, by omega, by exact_mod_cast h6⟩
theorem used_lt {l : List UInt8} {n : Int} (h : okU l n = true) : (used l : Int) < 18446744073709551616 := by
 unfold okU at h
 rw [decide_eq_true_iff] at h
 obtain ⟨h1, h2, _, _, h5⟩ := h
 have e2 : ((2 : Int) ^ n.toNat) = ((2 ^ n.toNat : Nat) : Int) := by simp
 rw [e2] at h5
 have h6 : (2 : Nat) ^ n.toNat ≤ 2 ^ 64 := Nat.pow_le_pow_right (by decide) (by omega)
 have h7 : (2 : Nat) ^ 64 = 18446744073709551616 := rfl
 omega
end Leb
namespace Leb
open Go Go.RowKit
def sused (l : List UInt8) : Int := if 2 * used l < 128 ^ run l then (used l : Int) else (used l : Int) - (128 ^ run l : Nat)
def okS (l : List UInt8) (n : Int) : Bool := decide (1 ≤ n ∧ n ≤ 64 ∧ 1 ≤ run l ∧ 7 * ((run l : Int) - 1) < n ∧ -(2 ^ (n - 1).toNat) ≤ sused l ∧ sused l < 2 ^ (n - 1).toNat)
def numS (l : List UInt8) (n : Int) : Int := if okS l n = true then sused l else 0
def cntS (l : List UInt8) (n : Int) : Int := if okS l n = true then (run l : Int) else 0
theorem okS_bits {l : List UInt8} {n : Int} (h : n < 1 ∨ 64 < n) : okS l n = false := by
 unfold okS; rw [decide_eq_false_iff_not]; omega
theorem okS_end {l : List UInt8} {n : Int} {k : Nat} (hb : big l k) (h : l.length ≤ k ∨ n ≤ 7 * (k : Int)) : okS l n = false := by
 unfold okS; rw [decide_eq_false_iff_not]
 rintro ⟨_, _, h1, h2, _⟩
 rcases h with h | h
 ·have := run_none hb h; omega
 ·rcases fD hb with h0 | h0 <;> omega
def top (x : Nat) : Int := if x < 64 then (x : Int) else (x : Int) - 128
theorem sused_at {l : List UInt8} {k : Nat} {x : UInt8} (hb : big l k) (h : l[k]? = some x) (hx : x.toNat < 128) : sused l = (val (l.take k) : Int) + (2 ^ (7 * k) : Nat) * top x.toNat := by
 have hr := run_at hb h hx
 have hu := used_at hb h hx
 have hv := val_take_lt h
 unfold sused top
 rw [hr, hu, Nat.pow_succ, pow128]
 generalize 2 ^ (7 * k) = P at *
 generalize val (l.take k) = v at *
 generalize x.toNat = y at *
 by_cases h6 : y < 64
 ·have h7 : P * (y + 1) ≤ P * 64 := Nat.mul_le_mul_left _ (by omega)
  rw [Nat.mul_add] at h7
  rw [if_pos (by omega), if_pos h6]
  simp
 ·have h7 : P * 64 ≤ P * y := Nat.mul_le_mul_left _ (by omega)
  rw [if_neg (by omega), if_neg h6, Int.mul_sub]
  simp; omega
theorem range_iff (v P E t : Int) (hP : 0 < P) (h0 : 0 ≤ v) (h1 : v < P) : (-(P * E) ≤ v + P * t ∧ v + P * t < P * E) ↔ (-E ≤ t ∧ t < E) := by
 constructor
 ·rintro ⟨h2, h3⟩
  constructor
  ·apply Int.not_lt.1; intro hlt
   have : P * t ≤ P * (-E - 1) := Int.mul_le_mul_of_nonneg_left (by omega) (by omega)
   rw [Int.mul_sub, Int.mul_neg, Int.mul_one] at this
   omega
  ·apply Int.not_le.1; intro hle
   have : P * E ≤ P * t := Int.mul_le_mul_of_nonneg_left hle (by omega)
   omega
 ·rintro ⟨h2, h3⟩
  have a1 : P * (-E) ≤ P * t := Int.mul_le_mul_of_nonneg_left h2 (by omega)
  have a2 : P * t ≤ P * (E - 1) := Int.mul_le_mul_of_nonneg_left (by omega) (by omega)
  rw [Int.mul_neg] at a1
  rw [Int.mul_sub, Int.mul_one] at a2
  omega
theorem above_iff (t E : Int) (hE : 0 < E) : (t / E = 0 ∨ t / E = -1) ↔ (-E ≤ t ∧ t < E) := by
 have h1 := Int.mul_ediv_add_emod t E
 have h2 := Int.emod_nonneg t (show E ≠ 0 by omega)
 have h3 := Int.emod_lt_of_pos t hE
 constructor
 ·rintro (h | h)
  ·rw [h] at h1; omega
  ·rw [h] at h1; omega
 ·rintro ⟨a, b⟩
  have l1 : -1 ≤ t / E := by
   apply Int.not_lt.1; intro hlt
   have : E * (t / E) ≤ E * (-2) := Int.mul_le_mul_of_nonneg_left (by omega) (by omega)
   omega
  have l2 : t / E ≤ 0 := by
   apply Int.not_lt.1; intro hlt
   have : E * 1 ≤ E * (t / E) := Int.mul_le_mul_of_nonneg_left (by omega) (by omega)
   omega
  omega
theorem top_range (x : Nat) (hx : x < 128) : -64 ≤ top x ∧ top x < 64 := by unfold top; split <;> omega
theorem okS_last {l : List UInt8} {n : Int} {k : Nat} {x : UInt8} (hb : big l k) (h : l[k]? = some x) (hx : x.toNat < 128) (h1 : 1 ≤ n) (h2 : n ≤ 64) (h3 : 7 * (k : Int) < n) (e : Nat) (he : (e : Int) = min (n - 7 * (k : Int)) 7 - 1) :
  okS l n = decide (top x.toNat / 2 ^ e = 0 ∨ top x.toNat / 2 ^ e = -1) := by
 obtain ⟨m, rfl⟩ : ∃ m : Nat, n = (m : Int) + 1 := ⟨(n - 1).toNat, by omega⟩
 have hr := run_at hb h hx
 have hu := sused_at hb h hx
 have hv := val_take_lt h
 have ht := top_range x.toNat hx
 have hm : ((m : Int) + 1 - 1).toNat = m := by omega
 unfold okS
 rw [Bool.eq_iff_iff, decide_eq_true_iff, decide_eq_true_iff, hr, hm, hu, above_iff _ _ (Int.pow_pos (by decide))]
 have e2 : ∀ j : Nat, ((2 : Int) ^ j) = ((2 ^ j : Nat) : Int) := fun j => by simp
 have hP : (0 : Int) < ((2 ^ (7 * k) : Nat) : Int) := by have := Nat.pow_pos (n := 7 * k) (show 0 < 2 by decide); omega
 have key := range_iff (val (l.take k) : Int) ((2 ^ (7 * k) : Nat) : Int) ((2 ^ (m - 7 * k) : Nat) : Int) (top x.toNat) hP (by omega) (by omega)
 have e3 : (2 : Int) ^ m = ((2 ^ (7 * k) : Nat) : Int) * ((2 ^ (m - 7 * k) : Nat) : Int) := by
  rw [← Int.natCast_mul, ← Nat.pow_add, show 7 * k + (m - 7 * k) = m by omega]; exact e2 m
 rw [e3, e2 e]
 by_cases h7 : m - 7 * k ≤ 6
 ·have : e = m - 7 * k := by omega
  subst this
  constructor
  ·rintro ⟨_, _, _, _, h5⟩; exact key.1 h5
  ·intro h5; exact ⟨h1, h2, by omega, by omega, key.2 h5⟩
 ·have h8 : e = 6 := by omega
  subst h8
  have h9 : (2 : Nat) ^ 6 ≤ 2 ^ (m - 7 * k) := Nat.pow_le_pow_right (by decide) (by omega)
  have h10 : (2 : Nat) ^ 6 = 64 := rfl
  constructor
  ·intro _; omega
  ·intro _; exact ⟨h1, h2, by omega, by omega, key.2 (by omega)⟩
theorem sused_lt {l : List UInt8} {n : Int} (h : okS l n = true) : -9223372036854775808 ≤ sused l ∧ sused l ≤ 9223372036854775807 := by
 unfold okS at h
 rw [decide_eq_true_iff] at h
 obtain ⟨h1, h2, _, _, h5, h6⟩ := h
 have e2 : ((2 : Int) ^ (n - 1).toNat) = ((2 ^ (n - 1).toNat : Nat) : Int) := by simp
 rw [e2] at h5 h6
 have h7 : (2 : Nat) ^ (n - 1).toNat ≤ 2 ^ 63 := Nat.pow_le_pow_right (by decide) (by omega)
 have h8 : (2 : Nat) ^ 63 = 9223372036854775808 := rfl
 omega
theorem ofInt_any (b : Int) : (BitVec.ofInt 64 b).toNat = (b % 18446744073709551616).toNat := by
 rw [BitVec.toNat_ofInt]; rfl
theorem or_i64 (v s : Nat) (t : Int) (hs : s ≤ 63) (hv : v < 2 ^ s) : bits .or .i64 (v : Int) (wrap64 (t * 2 ^ s)) = wrap64 ((v : Int) + ((2 ^ s : Nat) : Int) * t) := by
 have hp : (2 : Nat) ^ s ≤ 2 ^ 63 := Nat.pow_le_pow_right (by decide) hs
 have hp' : (2 : Nat) ^ 63 = 9223372036854775808 := rfl
 show IntKind.i64.wrap ((BitVec.ofInt 64 (v : Int) ||| BitVec.ofInt 64 (wrap64 (t * 2 ^ s))).toNat : Int) = _
 rw [BitVec.toNat_or, ofInt_any, ofInt_any, IntKind.wrap_i64]
 have e0 : ((v : Int) % 18446744073709551616).toNat = v := by omega
 have e1 : (wrap64 (t * 2 ^ s) % 18446744073709551616) = (((2 ^ s : Nat) : Int) * t) % 18446744073709551616 := by
  have : t * 2 ^ s = ((2 ^ s : Nat) : Int) * t := by rw [Int.mul_comm]; simp
  rw [this]; unfold wrap64; omega
 rw [e0, e1]
 have hd : (2 : Nat) ^ s ∣ 18446744073709551616 := by
  rw [show (18446744073709551616 : Nat) = 2 ^ 64 from rfl]; exact Nat.pow_dvd_pow 2 (by omega)
 have hm : ((((2 ^ s : Nat) : Int) * t) % 18446744073709551616).toNat % 2 ^ s = 0 := by
  have h1 : (((2 ^ s : Nat) : Int)) ∣ ((((2 ^ s : Nat) : Int) * t) % 18446744073709551616) := by
   have hd' : (((2 ^ s : Nat) : Int)) ∣ (18446744073709551616 : Int) := Int.natCast_dvd_natCast.2 hd
   rw [Int.emod_def]
   exact Int.dvd_sub (Int.dvd_mul_right _ _) (Int.dvd_trans hd' (Int.dvd_mul_right _ _))
  have h2 : 0 ≤ ((((2 ^ s : Nat) : Int) * t) % 18446744073709551616) := Int.emod_nonneg _ (by decide)
  obtain ⟨r, hr⟩ := Int.eq_ofNat_of_zero_le h2
  rw [hr] at h1 ⊢
  have h3 : (2 ^ s) ∣ r := Int.natCast_dvd_natCast.1 h1
  simpa using Nat.mod_eq_zero_of_dvd h3
 rw [Nat.or_comm, nat_join s _ v hm hv]
 have h2 : 0 ≤ ((((2 ^ s : Nat) : Int) * t) % 18446744073709551616) := Int.emod_nonneg _ (by decide)
 generalize ((2 ^ s : Nat) : Int) * t = z at *
 unfold wrap64
 omega
def encU (n : Nat) : List UInt8 := if n < 128 then [UInt8.ofNat n] else UInt8.ofNat (n % 128 + 128) :: encU (n / 128)
termination_by n
theorem encU_small {n : Nat} (h : n < 128) : encU n = [UInt8.ofNat n] := by rw [encU, if_pos h]
theorem encU_big {n : Nat} (h : 128 ≤ n) : encU n = UInt8.ofNat (n % 128 + 128) :: encU (n / 128) := by rw [encU, if_neg (by omega)]
theorem ci (x : Nat) (h : x < 256) : (UInt8.ofNat x).toNat = x := by
 rw [UInt8.toNat_ofNat']; exact Nat.mod_eq_of_lt h
theorem encU_pos (n : Nat) : 1 ≤ (encU n).length := by
 rw [encU]; split <;> simp
theorem fx : ∀ (k n : Nat), 1 ≤ k → n < 2 ^ (7 * k) → (encU n).length ≤ k
 | 0, _, h, _ => by omega
 | k + 1, n, _, hn => by
  by_cases h : n < 128
  ·rw [encU_small h]; simp
  ·rw [encU_big (by omega)]
   have h1 : n / 128 < 2 ^ (7 * k) := by
    rw [Nat.div_lt_iff_lt_mul (by decide)]
    rw [Nat.mul_add, Nat.pow_add] at hn
    exact hn
   have hk : 1 ≤ k := by
    rcases Nat.eq_zero_or_pos k with h0 | h0
    ·subst h0; simp at hn; omega
    ·exact h0
   have := fx k (n / 128) hk h1
   simp; omega
theorem encU_le10 (n : Nat) (h : n < 18446744073709551616) : (encU n).length ≤ 10 :=
 fx 10 n (by decide) (Nat.lt_of_lt_of_le h (by decide))
theorem dr (n : Nat) (r : List UInt8) : run (encU n ++ r) = (encU n).length := by
 induction n using Nat.strongRecOn with
 | ind n ih =>
  by_cases h : n < 128
  ·rw [encU_small h]; simp [run, ci n (by omega), h]
  ·rw [encU_big (by omega)]
   have h1 := ih (n / 128) (by omega)
   have h2 := encU_pos (n / 128)
   rw [List.cons_append, run, ci _ (by omega), if_neg (by omega), h1, if_neg (by omega)]
   rfl
theorem val_encU (n : Nat) : val (encU n) = n := by
 induction n using Nat.strongRecOn with
 | ind n ih =>
  by_cases h : n < 128
  ·rw [encU_small h]; simp [val, ci n (by omega)]; omega
  ·rw [encU_big (by omega), val, ih (n / 128) (by omega), ci _ (by omega)]
   omega
theorem dL (n : Nat) (r : List UInt8) : used (encU n ++ r) = n := by
 unfold used
 rw [dr, List.take_left, val_encU]
def encS (n : Int) : List UInt8 := if -64 ≤ n ∧ n ≤ 63 then [UInt8.ofNat (n % 128).toNat] else UInt8.ofNat ((n % 128).toNat + 128) :: encS (n / 128)
termination_by n.natAbs
decreasing_by omega
theorem encS_small {n : Int} (h : -64 ≤ n ∧ n ≤ 63) : encS n = [UInt8.ofNat (n % 128).toNat] := by rw [encS, if_pos h]
theorem encS_big {n : Int} (h : ¬ (-64 ≤ n ∧ n ≤ 63)) : encS n = UInt8.ofNat ((n % 128).toNat + 128) :: encS (n / 128) := by rw [encS, if_neg h]
theorem encS_pos (n : Int) : 1 ≤ (encS n).length := by
 rw [encS]; split <;> simp
theorem fA : ∀ (k : Nat) (n : Int), -(64 * 128 ^ k : Nat) ≤ n → n < (64 * 128 ^ k : Nat) → (encS n).length ≤ k + 1
 | 0, n, h1, h2 => by
  rw [encS_small (by simp at h1 h2; omega)]; simp
 | k + 1, n, h1, h2 => by
  by_cases h : -64 ≤ n ∧ n ≤ 63
  ·rw [encS_small h]; simp
  ·rw [encS_big h]
   rw [Nat.pow_succ, ← Nat.mul_assoc] at h1 h2
   have := fA k (n / 128) (by omega) (by omega)
   simp; omega
theorem encS_le10 (n : Int) (h0 : -9223372036854775808 ≤ n) (h1 : n ≤ 9223372036854775807) : (encS n).length ≤ 10 := by
 have e : (64 * 128 ^ 9 : Nat) = 590295810358705651712 := by decide
 exact fA 9 n (by rw [e]; omega) (by rw [e]; omega)
theorem gI (n : Int) (r : List UInt8) : run (encS n ++ r) = (encS n).length := by
 induction h : n.natAbs using Nat.strongRecOn generalizing n with
 | ind m ih =>
  by_cases h : -64 ≤ n ∧ n ≤ 63
  ·rw [encS_small h, List.cons_append, run, ci _ (by omega), if_pos (by omega)]; rfl
  ·rw [encS_big h]
   have h1 := ih (n / 128).natAbs (by omega) (n / 128) rfl
   have h2 := encS_pos (n / 128)
   rw [List.cons_append, run, ci _ (by omega), if_neg (by omega), h1, if_neg (by omega)]
   rfl
theorem emod_two (n P : Int) (hP : 0 < P) : n % (P * 128) = n % 128 + 128 * (n / 128 % P) := by
 have h1 := Int.mul_ediv_add_emod n 128
 have h2 := Int.mul_ediv_add_emod (n / 128) P
 have h3 := Int.emod_nonneg (n / 128) (show P ≠ 0 by omega)
 have h4 := Int.emod_lt_of_pos (n / 128) hP
 have e : n = (n % 128 + 128 * (n / 128 % P)) + (P * 128) * (n / 128 / P) := by
  rw [Int.mul_assoc, Int.mul_left_comm]
  omega
 conv => lhs; rw [e]
 rw [Int.add_mul_emod_self_left, Int.emod_eq_of_lt (by omega) (by omega)]
theorem even128 (k : Nat) (h : 1 ≤ k) : 128 ^ k % 2 = 0 := by
 obtain ⟨j, rfl⟩ : ∃ j, k = j + 1 := ⟨k - 1, by omega⟩
 rw [Nat.pow_succ]; omega
theorem val_encS (n : Int) : (val (encS n) : Int) = n % (128 ^ (encS n).length : Nat) ∧ -(128 ^ (encS n).length : Nat) ≤ 2 * n ∧ 2 * n < (128 ^ (encS n).length : Nat) := by
 induction h : n.natAbs using Nat.strongRecOn generalizing n with
 | ind m ih =>
  by_cases h : -64 ≤ n ∧ n ≤ 63
  ·rw [encS_small h]
   simp [val, ci _ (show (n % 128).toNat < 256 by omega)]
   omega
  ·rw [encS_big h]
   obtain ⟨h1, h2, h3⟩ := ih (n / 128).natAbs (by omega) (n / 128) rfl
   simp only [val, List.length_cons, Nat.pow_succ, ci _ (show (n % 128).toNat + 128 < 256 by omega)]
   have hE := even128 _ (encS_pos (n / 128))
   generalize 128 ^ (encS (n / 128)).length = P at *
   have hP : 0 < P := by omega
   generalize val (encS (n / 128)) = v at *
   refine ⟨?_, by omega, by omega⟩
   have e1 : n % ((P * 128 : Nat) : Int) = n % 128 + 128 * (n / 128 % (P : Int)) := by
    rw [Int.natCast_mul]
    exact emod_two n P (by omega)
   rw [e1, ← h1]
   omega
theorem fP (n : Int) (r : List UInt8) : sused (encS n ++ r) = n := by
 obtain ⟨h1, h2, h3⟩ := val_encS n
 unfold sused used
 rw [gI, List.take_left]
 generalize 128 ^ (encS n).length = P at *
 generalize val (encS n) = v at *
 have hP : (0 : Int) < P := by omega
 by_cases hn : 0 ≤ n
 ·rw [Int.emod_eq_of_lt hn (by omega)] at h1
  rw [if_pos (by omega)]; exact h1
 ·have : n % (P : Int) = n + P := by
   have e := Int.add_emod_right n P
   rw [← e, Int.emod_eq_of_lt (by omega) (by omega)]
  rw [this] at h1
  rw [if_neg (by omega)]; omega
def sval (l : List UInt8) : Int := if 2 * val l < 128 ^ l.length then (val l : Int) else (val l : Int) - (128 ^ l.length : Nat)
theorem cD (l : List UInt8) : (l.take (run l)).length = run l := by
 rw [List.length_take]; exact Nat.min_eq_left (run_le l)
theorem sused_eq (l : List UInt8) : sused l = sval (l.take (run l)) := by
 unfold sused sval used; rw [cD]
def num (l : List UInt8) (sg : Bool) : Int := if sg = true then sval l else (val l : Int)
theorem sval_range (l : List UInt8) (h : 1 ≤ l.length) : -((2 ^ (7 * l.length - 1) : Nat) : Int) ≤ sval l ∧ sval l < ((2 ^ (7 * l.length - 1) : Nat) : Int) := by
 have hv := iL l
 rw [pow128] at hv
 have e : (2 : Nat) ^ (7 * l.length) = 2 * 2 ^ (7 * l.length - 1) := by rw [← Nat.pow_succ']; congr 1; omega
 unfold sval
 rw [pow128]
 generalize 2 ^ (7 * l.length - 1) = P at *
 generalize 2 ^ (7 * l.length) = R at *
 split <;> omega
theorem used_lt7 (l : List UInt8) : used l < 2 ^ (7 * run l) := by
 have := iL (l.take (run l))
 rwa [cD, pow128] at this
def pre : Int → Nat → List UInt8
 | _, 0 => []
 | x, k + 1 => UInt8.ofNat ((x % 128).toNat + 128) :: pre (x / 128) k
theorem okU_run1 {l : List UInt8} {b : Int} (h : okU l b = true) : 1 ≤ run l ∧ 1 ≤ b ∧ b ≤ 64 := by
 unfold okU at h; rw [decide_eq_true_iff] at h; exact ⟨h.2.2.1, h.1, h.2.1⟩
theorem okS_run1 {l : List UInt8} {b : Int} (h : okS l b = true) : 1 ≤ run l ∧ 1 ≤ b ∧ b ≤ 64 := by
 unfold okS at h; rw [decide_eq_true_iff] at h; exact ⟨h.2.2.1, h.1, h.2.1⟩
theorem shortU {l : List UInt8} (h : 1 ≤ run l) : (encU (used l)).length ≤ run l := fx (run l) (used l) h (used_lt7 l)
theorem shortS {l : List UInt8} (h : 1 ≤ run l) : (encS (sused l)).length ≤ run l := by
 have hr := sval_range (l.take (run l)) (by rw [cD]; exact h)
 rw [← sused_eq, cD] at hr
 have e : (2 : Nat) ^ (7 * run l - 1) = 64 * 128 ^ (run l - 1) := by
  obtain ⟨k, hk⟩ : ∃ k, run l = k + 1 := ⟨run l - 1, by omega⟩
  rw [hk, Nat.add_sub_cancel, pow128, show 7 * (k + 1) - 1 = 6 + 7 * k by omega, Nat.pow_add]
 rw [e] at hr
 have := fA (run l - 1) (sused l) hr.1 hr.2
 omega
theorem ed : ∀ (f x k : Nat), x < 2 ^ f → Lib.bitLenAux f x ≤ k → x < 2 ^ k
 | 0, x, k, h, _ => by
  have : x = 0 := by simp at h; omega
  subst this; exact Nat.pow_pos (by decide)
 | f + 1, x, k, h, hk => by
  unfold Lib.bitLenAux at hk
  by_cases h0 : x = 0
  ·subst h0; exact Nat.pow_pos (by decide)
  ·rw [if_neg h0] at hk
   obtain ⟨j, rfl⟩ : ∃ j, k = j + 1 := ⟨k - 1, by omega⟩
   rw [Nat.pow_succ] at h ⊢
   have := ed f (x / 2) j (by omega) (by omega)
   omega
theorem bQ (x k : Nat) (hx : x < 18446744073709551616) (hk : k ≤ 64) : Lib.bitLen x ≤ k ↔ x < 2 ^ k :=
 ⟨fun h => ed 64 x k hx h, fun h => Lib.bitLen_le x k hk h⟩
theorem okU_encU (X : Nat) (r : List UInt8) (b : Int) (hX : X < 18446744073709551616) (h1 : 1 ≤ b) (h64 : b ≤ 64) : okU (encU X ++ r) b = decide (max (Lib.bitLen X : Int) 1 ≤ b) := by
 obtain ⟨m, rfl⟩ : ∃ m : Nat, b = m := ⟨b.toNat, by omega⟩
 have hi := bQ X m hX (by omega)
 have e2 : ((2 : Int) ^ (m : Int).toNat) = ((2 ^ m : Nat) : Int) := by simp
 unfold okU
 rw [Bool.eq_iff_iff, decide_eq_true_iff, decide_eq_true_iff, dr, dL, e2]
 have hp := encU_pos X
 constructor
 ·rintro ⟨_, _, _, _, h5⟩
  have := hi.2 (by omega)
  omega
 ·intro h
  have h2 : X < 2 ^ m := hi.1 (by omega)
  have h3 : (2 : Nat) ^ m ≤ 2 ^ (7 * ((m + 6) / 7)) := Nat.pow_le_pow_right (by decide) (by omega)
  have h4 := fx ((m + 6) / 7) X (by omega) (by omega)
  exact ⟨h1, h64, hp, by omega, by omega⟩
def mag (N : Int) : Nat := if 0 ≤ N then N.toNat else (-N - 1).toNat
theorem mag_iff (N : Int) (k : Nat) : mag N < 2 ^ k ↔ (-((2 ^ k : Nat) : Int) ≤ N ∧ N < ((2 ^ k : Nat) : Int)) := by
 have hp : 0 < (2 : Nat) ^ k := Nat.pow_pos (by decide)
 generalize (2 : Nat) ^ k = P at *
 unfold mag
 split <;> omega
theorem mag_lt (N : Int) (h0 : -9223372036854775808 ≤ N) (h1 : N ≤ 9223372036854775807) : mag N < 9223372036854775808 := by
 unfold mag; split <;> omega
theorem okS_encS (N : Int) (r : List UInt8) (b : Int) (hN0 : -9223372036854775808 ≤ N) (hN1 : N ≤ 9223372036854775807) (h1 : 1 ≤ b) (h64 : b ≤ 64) : okS (encS N ++ r) b = decide ((Lib.bitLen (mag N) : Int) + 1 ≤ b) := by
 obtain ⟨m, rfl⟩ : ∃ m : Nat, b = (m : Int) + 1 := ⟨(b - 1).toNat, by omega⟩
 have hm := mag_lt N hN0 hN1
 have hi := bQ (mag N) m (by omega) (by omega)
 have e2 : ((2 : Int) ^ ((m : Int) + 1 - 1).toNat) = ((2 ^ m : Nat) : Int) := by
  rw [show ((m : Int) + 1 - 1).toNat = m by omega]; simp
 unfold okS
 rw [Bool.eq_iff_iff, decide_eq_true_iff, decide_eq_true_iff, gI, fP, e2]
 have hp := encS_pos N
 have hq := mag_iff N m
 constructor
 ·rintro ⟨_, _, _, _, h5⟩
  have := hi.2 (hq.2 h5)
  omega
 ·intro h
  have h2 := hq.1 (hi.1 (by omega))
  have e3 : (2 : Nat) ^ (6 + 7 * (m / 7)) = 64 * 128 ^ (m / 7) := by rw [Nat.pow_add, pow128]
  have h3 : (2 : Nat) ^ m ≤ 2 ^ (6 + 7 * (m / 7)) := Nat.pow_le_pow_right (by decide) (by omega)
  have h4 := fA (m / 7) N (by omega) (by omega)
  exact ⟨h1, h64, hp, by omega, h2⟩
end Leb
namespace Ins
open Leb
structure I where
 op : Nat
 a : Nat
 b : Nat
 c : Int
 l : List Nat
deriving DecidableEq
def I.wf (x : I) : Prop := x.op < 256 ∧ x.a < 4294967296 ∧ x.b < 4294967296 ∧ -9223372036854775808 ≤ x.c ∧ x.c ≤ 9223372036854775807 ∧ ∀ n ∈ x.l, n < 4294967296
def blockB (a : Nat) : Bool := a == 64 || a == 127 || a == 126
def hasA (f : Int) : Bool := f == 1 || f == 2 || f == 3 || f == 4 || f == 5 || f == 6
def in32 (c : Int) : Bool := decide (-2147483648 ≤ c) && decide (c ≤ 2147483647)
def mayF (f : Int) (x : I) : Bool :=
 (x.a == 0 || hasA f) && (x.b == 0 || f == 6) && (x.c == 0 || (f == 8 || f == 9)) && (x.l.isEmpty || f == 3) && (f != 1 || blockB x.a) && (f != 8 || in32 x.c)
def may (x : I) : Bool := Opc.known x.op && mayF (Opc.form x.op) x
def labs (l : List Nat) : List UInt8 := l.flatMap encU
def tailF (f : Int) (x : I) : List UInt8 :=
 if f = 1 then [UInt8.ofNat x.a]
 else if f = 2 ∨ f = 4 then encU x.a
 else if f = 3 then encU x.l.length ++ labs x.l ++ encU x.a
 else if f = 5 then encU x.a ++ [0]
 else if f = 6 then encU x.a ++ encU x.b
 else if f = 7 then [0]
 else if f = 8 ∨ f = 9 then encS x.c
 else []
def enc (x : I) : List UInt8 := UInt8.ofNat x.op :: tailF (Opc.form x.op) x
def encAll (xs : List I) : List UInt8 := xs.flatMap enc
def exprEnc (xs : List I) : List UInt8 := encAll xs ++ [11]
def rdNum (l : List UInt8) : Except Nat (Nat × Nat) := if okU l 32 = true then .ok (used l, run l) else .error 60
def rdConst (l : List UInt8) (bits : Int) : Except Nat (Int × Nat) := if okS l bits = true then .ok (sused l, run l) else .error 60
def rdByte (l : List UInt8) : Except Nat (Nat × Nat) := match l with
 | [] => .error 60
 | x :: _ => .ok (x.toNat, 1)
def rdZero (l : List UInt8) : Except Nat Nat := match rdByte l with
 | .error e => .error e
 | .ok (x, k) => if x = 0 then .ok k else .error 60
def rdBlock (l : List UInt8) : Except Nat (Nat × Nat) := match rdByte l with
 | .error e => .error e
 | .ok (x, k) => if x = 125 ∨ x = 124 then .error 61 else if blockB x = true then .ok (x, k) else .error 60
def rdOp (l : List UInt8) : Except Nat (Nat × Nat) := match rdByte l with
 | .error e => .error e
 | .ok (x, k) => if Opc.float x = true then .error 61 else if Opc.known x = true then .ok (x, k) else .error 60
def onto {α : Type} (xs : List α) (k : Nat) (r : Except Nat (List α × Nat)) : Except Nat (List α × Nat) := match r with
 | .error e => .error e
 | .ok (ys, m) => .ok (xs ++ ys, k + m)
def rdMany : Nat → List UInt8 → Except Nat (List Nat × Nat)
 | 0, _ => .ok ([], 0)
 | n + 1, l => match rdNum l with
  | .error e => .error e
  | .ok (x, k) => onto [x] k (rdMany n (l.drop k))
def rdLabels (l : List UInt8) : Except Nat (List Nat × Nat) := match rdNum l with
 | .error e => .error e
 | .ok (n, k) => onto [] k (rdMany n (l.drop k))
def rdF (f : Int) (op : Nat) (l : List UInt8) : Except Nat (I × Nat) :=
 if f = 1 then match rdBlock l with
  | .error e => .error e
  | .ok (a, k) => .ok (⟨op, a, 0, 0, []⟩, k)
 else if f = 2 ∨ f = 4 then match rdNum l with
  | .error e => .error e
  | .ok (a, k) => .ok (⟨op, a, 0, 0, []⟩, k)
 else if f = 3 then match rdLabels l with
  | .error e => .error e
  | .ok (xs, k) => match rdNum (l.drop k) with
   | .error e => .error e
   | .ok (a, m) => .ok (⟨op, a, 0, 0, xs⟩, k + m)
 else if f = 5 then match rdNum l with
  | .error e => .error e
  | .ok (a, k) => match rdZero (l.drop k) with
   | .error e => .error e
   | .ok m => .ok (⟨op, a, 0, 0, []⟩, k + m)
 else if f = 6 then match rdNum l with
  | .error e => .error e
  | .ok (a, k) => match rdNum (l.drop k) with
   | .error e => .error e
   | .ok (b, m) => .ok (⟨op, a, b, 0, []⟩, k + m)
 else if f = 7 then match rdZero l with
  | .error e => .error e
  | .ok k => .ok (⟨op, 0, 0, 0, []⟩, k)
 else if f = 8 then match rdConst l 32 with
  | .error e => .error e
  | .ok (c, k) => .ok (⟨op, 0, 0, c, []⟩, k)
 else if f = 9 then match rdConst l 64 with
  | .error e => .error e
  | .ok (c, k) => .ok (⟨op, 0, 0, c, []⟩, k)
 else .ok (⟨op, 0, 0, 0, []⟩, 0)
def rdInstr (l : List UInt8) : Except Nat (I × Nat) := match rdOp l with
 | .error e => .error e
 | .ok (op, k) => match rdF (Opc.form op) op (l.drop k) with
  | .error e => .error e
  | .ok (x, m) => .ok (x, k + m)
def step (o : List Bool) (op : Nat) : Option (List Bool) :=
 if op = 2 ∨ op = 3 then some (o ++ [false])
 else if op = 4 then some (o ++ [true])
 else if op = 5 then (if o.getLast? = some true then some (o.dropLast ++ [false]) else none)
 else if op = 11 then (if o = [] then none else some o.dropLast)
 else some o
def steps : List Bool → List I → Option (List Bool)
 | o, [] => some o
 | o, x :: xs => match step o x.op with
  | none => none
  | some o' => steps o' xs
def rdExpr : Nat → List Bool → List UInt8 → Except Nat (List I × Nat)
 | 0, _, _ => .error 60
 | n + 1, o, l => match rdInstr l with
  | .error e => .error e
  | .ok (x, k) => if x.op = 11 ∧ o = [] then .ok ([], k) else match step o x.op with
   | none => .error 60
   | some o' => onto [x] k (rdExpr n o' (l.drop k))
def exprB (xs : List I) : Bool := xs.all may && (steps [] xs == some [])
theorem okU_enc (n : Nat) (r : List UInt8) (h : n < 4294967296) : okU (encU n ++ r) 32 = true := by
 rw [okU_encU n r 32 (by omega) (by decide) (by decide)]
 have := (bQ n 32 (by omega) (by decide)).2 (by omega)
 exact decide_eq_true (by omega)
theorem okS_enc (c : Int) (r : List UInt8) (bits : Int) (h0 : -9223372036854775808 ≤ c) (h1 : c ≤ 9223372036854775807) (h : bits = 64 ∨ bits = 32 ∧ in32 c = true) : okS (encS c ++ r) bits = true := by
 rcases h with rfl | ⟨rfl, h⟩
 ·rw [okS_encS c r 64 h0 h1 (by decide) (by decide)]
  have h2 := mag_lt c h0 h1
  have := (bQ (mag c) 63 (by omega) (by decide)).2 (by omega)
  exact decide_eq_true (by omega)
 ·simp only [in32, Bool.and_eq_true, decide_eq_true_eq] at h
  rw [okS_encS c r 32 h0 h1 (by decide) (by decide)]
  have h2 : mag c < 2 ^ 31 := (mag_iff c 31).2 (by omega)
  have := (bQ (mag c) 31 (by omega) (by decide)).2 h2
  exact decide_eq_true (by omega)
theorem bA (n : Nat) (r : List UInt8) (h : n < 4294967296) : rdNum (encU n ++ r) = .ok (n, (encU n).length) := by
 unfold rdNum; rw [if_pos (okU_enc n r h), dL, dr]
theorem eY (c : Int) (r : List UInt8) (bits : Int) (h0 : -9223372036854775808 ≤ c) (h1 : c ≤ 9223372036854775807) (h : bits = 64 ∨ bits = 32 ∧ in32 c = true) : rdConst (encS c ++ r) bits = .ok (c, (encS c).length) := by
 unfold rdConst; rw [if_pos (okS_enc c r bits h0 h1 h), fP, gI]
theorem gw : ∀ (l : List Nat) (r : List UInt8), (∀ n ∈ l, n < 4294967296) → rdMany l.length (labs l ++ r) = .ok (l, (labs l).length)
 | [], r, _ => by simp [rdMany, labs]
 | x :: l, r, h => by
  have ih := gw l r (fun n hn => h n (by simp [hn]))
  simp only [List.length_cons, rdMany, labs, List.flatMap_cons, List.append_assoc]
  rw [bA x _ (h x (by simp))]
  simp only [List.drop_left]
  simp only [labs] at ih
  rw [ih]
  simp [onto]
theorem byteNat (n : Nat) (h : n < 256) : (UInt8.ofNat n).toNat = n := ci n h
theorem gY {a : Nat} (h : blockB a = true) : a < 256 ∧ ¬ (a = 125 ∨ a = 124) := by
 simp [blockB] at h; omega
theorem bP (n : Int) : Opc.form n = 0 ∨ Opc.form n = 1 ∨ Opc.form n = 2 ∨ Opc.form n = 3 ∨ Opc.form n = 4 ∨ Opc.form n = 5 ∨ Opc.form n = 6 ∨ Opc.form n = 7 ∨ Opc.form n = 8 ∨ Opc.form n = 9 := by
 unfold Opc.form
 (repeat' split) <;> simp
theorem rdF_enc (f : Int) (hf : f = 0 ∨ f = 1 ∨ f = 2 ∨ f = 3 ∨ f = 4 ∨ f = 5 ∨ f = 6 ∨ f = 7 ∨ f = 8 ∨ f = 9) (x : I) (hm : mayF f x = true) (hw : x.wf) (hl : x.l.length < 4294967296) (r : List UInt8) :
  rdF f x.op (tailF f x ++ r) = .ok (x, (tailF f x).length) := by
 obtain ⟨op, a, b, c, l⟩ := x
 obtain ⟨h1, h2, h3, h4, h5, h6⟩ := hw
 simp only at h1 h2 h3 h4 h5 h6 hl
 rcases hf with rfl | rfl | rfl | rfl | rfl | rfl | rfl | rfl | rfl | rfl <;> simp [mayF, hasA] at hm
 ·obtain ⟨⟨⟨rfl, rfl⟩, rfl⟩, rfl⟩ := hm; simp [rdF, tailF]
 ·obtain ⟨⟨⟨rfl, rfl⟩, rfl⟩, hb⟩ := hm
  obtain ⟨ha, hn⟩ := gY hb
  simp [rdF, tailF, rdBlock, rdByte, byteNat a ha, hn, hb]
 ·obtain ⟨⟨rfl, rfl⟩, rfl⟩ := hm; simp [rdF, tailF, bA a r h2]
 ·obtain ⟨rfl, rfl⟩ := hm
  simp only [rdF, tailF, rdLabels, List.append_assoc]
  simp [bA _ _ hl, gw l _ h6, onto, bA a r h2]
  omega
 ·obtain ⟨⟨rfl, rfl⟩, rfl⟩ := hm; simp [rdF, tailF, bA a r h2]
 ·obtain ⟨⟨rfl, rfl⟩, rfl⟩ := hm; simp [rdF, tailF, bA a _ h2, rdZero, rdByte]
 ·obtain ⟨rfl, rfl⟩ := hm; simp [rdF, tailF, bA a _ h2, bA b _ h3]
 ·obtain ⟨⟨⟨rfl, rfl⟩, rfl⟩, rfl⟩ := hm; simp [rdF, tailF, rdZero, rdByte]
 ·obtain ⟨⟨⟨rfl, rfl⟩, rfl⟩, hc⟩ := hm; simp [rdF, tailF, eY c r 32 h4 h5 (.inr ⟨rfl, hc⟩)]
 ·obtain ⟨⟨rfl, rfl⟩, rfl⟩ := hm; simp [rdF, tailF, eY c r 64 h4 h5 (.inl rfl)]
theorem known_float (n : Nat) (h : n < 256) (hk : Opc.known n = true) : Opc.float n = false := by
 have : ∀ n : Nat, n < 256 → Opc.known n = true → Opc.float n = false := by decide +kernel
 exact this n h hk
theorem eZ (x : I) (hm : may x = true) (hw : x.wf) (hl : x.l.length < 4294967296) (r : List UInt8) : rdInstr (enc x ++ r) = .ok (x, (enc x).length) := by
 simp only [may, Bool.and_eq_true] at hm
 have h := rdF_enc _ (bP x.op) x hm.2 hw hl r
 simp [rdInstr, enc, rdOp, rdByte, byteNat x.op hw.1, known_float x.op hw.1 hm.1, hm.1, h]
 omega
theorem okU_60 {l : List UInt8} (h : okU l 32 = true) : used l < 4294967296 ∧ 1 ≤ run l ∧ run l ≤ l.length ∧ (encU (used l)).length ≤ run l := by
 have h1 := (okU_run1 h).1
 refine ⟨?_, h1, run_le l, shortU h1⟩
 unfold okU at h
 rw [decide_eq_true_iff] at h
 have h5 := h.2.2.2.2
 have e : ((2 : Int) ^ (32 : Int).toNat) = 4294967296 := by decide
 rw [e] at h5
 omega
theorem aB {l : List UInt8} {n k : Nat} (h : rdNum l = .ok (n, k)) : n < 4294967296 ∧ 1 ≤ k ∧ k ≤ l.length ∧ (encU n).length ≤ k := by
 unfold rdNum at h
 split at h
 ·next h1 => simp only [Except.ok.injEq, Prod.mk.injEq] at h; obtain ⟨rfl, rfl⟩ := h; exact okU_60 h1
 ·cases h
theorem bk {l : List UInt8} {e : Nat} (h : rdNum l = .error e) : e = 60 := by
 unfold rdNum at h
 split at h
 ·cases h
 ·simp only [Except.error.injEq] at h; exact h.symm
theorem cA {l : List UInt8} {bits c : Int} {k : Nat} (h : rdConst l bits = .ok (c, k)) : -9223372036854775808 ≤ c ∧ c ≤ 9223372036854775807 ∧ (bits = 32 → in32 c = true) ∧ 1 ≤ k ∧ k ≤ l.length ∧ (encS c).length ≤ k := by
 unfold rdConst at h
 split at h
 ·next h1 =>
  simp only [Except.ok.injEq, Prod.mk.injEq] at h; obtain ⟨rfl, rfl⟩ := h
  have h2 := (okS_run1 h1).1
  obtain ⟨h3, h4⟩ := sused_lt h1
  refine ⟨h3, h4, fun hb => ?_, h2, run_le l, shortS h2⟩
  subst hb
  unfold okS at h1
  rw [decide_eq_true_iff] at h1
  have e : ((2 : Int) ^ ((32 : Int) - 1).toNat) = 2147483648 := by decide
  rw [e] at h1
  simp only [in32, Bool.and_eq_true, decide_eq_true_eq]
  omega
 ·cases h
theorem fc {l : List UInt8} {bits : Int} {e : Nat} (h : rdConst l bits = .error e) : e = 60 := by
 unfold rdConst at h
 split at h
 ·cases h
 ·simp only [Except.error.injEq] at h; exact h.symm
theorem ck {l : List UInt8} {n k : Nat} (h : rdByte l = .ok (n, k)) : n < 256 ∧ k = 1 ∧ 1 ≤ l.length := by
 unfold rdByte at h
 split at h
 ·cases h
 ·next x r => simp only [Except.ok.injEq, Prod.mk.injEq] at h; obtain ⟨rfl, rfl⟩ := h; exact ⟨x.toNat_lt, rfl, by simp⟩
theorem de {l : List UInt8} {e : Nat} (h : rdByte l = .error e) : e = 60 ∧ l = [] := by
 unfold rdByte at h
 split at h
 ·simp only [Except.error.injEq] at h; exact ⟨h.symm, rfl⟩
 ·cases h
theorem ib : ∀ (n : Nat) (l : List UInt8) (xs : List Nat) (k : Nat), rdMany n l = .ok (xs, k) → xs.length = n ∧ (∀ x ∈ xs, x < 4294967296) ∧ k ≤ l.length ∧ (labs xs).length ≤ k
 | 0, l, xs, k, h => by simp only [rdMany, Except.ok.injEq, Prod.mk.injEq] at h; obtain ⟨rfl, rfl⟩ := h; simp [labs]
 | n + 1, l, xs, k, h => by
  simp only [rdMany] at h
  cases h1 : rdNum l with
  | error e => rw [h1] at h; cases h
  | ok p =>
   obtain ⟨x, k1⟩ := p
   rw [h1] at h
   obtain ⟨a1, a2, a3, a4⟩ := aB h1
   cases h2 : rdMany n (l.drop k1) with
   | error e => simp only [h2, onto] at h; cases h
   | ok q =>
    obtain ⟨ys, k2⟩ := q
    simp only [h2, onto, Except.ok.injEq, Prod.mk.injEq] at h
    obtain ⟨rfl, rfl⟩ := h
    obtain ⟨b1, b2, b3, b4⟩ := ib n _ ys k2 h2
    rw [List.length_drop] at b3
    refine ⟨by simp [b1], fun y hy => ?_, by omega, ?_⟩
    ·rcases List.mem_append.1 hy with hy | hy
     ·simp at hy; subst hy; exact a1
     ·exact b2 y hy
    ·simp only [labs, List.flatMap_append, List.length_append, List.flatMap_cons, List.flatMap_nil, List.append_nil] at b4 ⊢; omega
theorem gg : ∀ (n : Nat) (l : List UInt8) (e : Nat), rdMany n l = .error e → e = 60
 | 0, l, e, h => by simp [rdMany] at h
 | n + 1, l, e, h => by
  simp only [rdMany] at h
  cases h1 : rdNum l with
  | error e' => rw [h1] at h; simp only [Except.error.injEq] at h; subst h; exact bk h1
  | ok p =>
   obtain ⟨x, k1⟩ := p
   rw [h1] at h
   cases h2 : rdMany n (l.drop k1) with
   | error e' => simp only [h2, onto, Except.error.injEq] at h; subst h; exact gg n _ _ h2
   | ok q => simp only [h2, onto] at h; cases h
theorem rdLabels_ok {l : List UInt8} {xs : List Nat} {k : Nat} (h : rdLabels l = .ok (xs, k)) : xs.length < 4294967296 ∧ (∀ x ∈ xs, x < 4294967296) ∧ k ≤ l.length ∧ (encU xs.length).length + (labs xs).length ≤ k := by
 unfold rdLabels at h
 cases h1 : rdNum l with
 | error e => rw [h1] at h; cases h
 | ok p =>
  obtain ⟨n, k1⟩ := p
  rw [h1] at h
  obtain ⟨a1, a2, a3, a4⟩ := aB h1
  cases h2 : rdMany n (l.drop k1) with
  | error e => simp only [h2, onto] at h; cases h
  | ok q =>
   obtain ⟨ys, k2⟩ := q
   simp only [h2, onto, Except.ok.injEq, Prod.mk.injEq, List.nil_append] at h
   obtain ⟨rfl, rfl⟩ := h
   obtain ⟨b1, b2, b3, b4⟩ := ib n _ ys k2 h2
   rw [List.length_drop] at b3
   subst b1
   exact ⟨a1, b2, by omega, by omega⟩
theorem iG {l : List UInt8} {e : Nat} (h : rdLabels l = .error e) : e = 60 := by
 unfold rdLabels at h
 cases h1 : rdNum l with
 | error e' => rw [h1] at h; simp only [Except.error.injEq] at h; subst h; exact bk h1
 | ok p =>
  obtain ⟨n, k1⟩ := p
  rw [h1] at h
  cases h2 : rdMany n (l.drop k1) with
  | error e' => simp only [h2, onto, Except.error.injEq] at h; subst h; exact gg n _ _ h2
  | ok q => simp only [h2, onto] at h; cases h
theorem hZ {l : List UInt8} {k : Nat} (h : rdZero l = .ok k) : k = 1 ∧ 1 ≤ l.length := by
 unfold rdZero at h
 cases h1 : rdByte l with
 | error e => rw [h1] at h; cases h
 | ok p =>
  obtain ⟨x, k1⟩ := p
  rw [h1] at h
  simp only at h
  split at h
  ·simp only [Except.ok.injEq] at h; subst h; exact (ck h1).2
  ·cases h
theorem f7 {l : List UInt8} {e : Nat} (h : rdZero l = .error e) : e = 60 := by
 unfold rdZero at h
 cases h1 : rdByte l with
 | error e' => rw [h1] at h; simp only [Except.error.injEq] at h; subst h; exact (de h1).1
 | ok p =>
  obtain ⟨x, k1⟩ := p
  rw [h1] at h
  simp only at h
  split at h
  ·cases h
  ·simp only [Except.error.injEq] at h; exact h.symm
theorem rdBlock_ok {l : List UInt8} {a k : Nat} (h : rdBlock l = .ok (a, k)) : blockB a = true ∧ a < 256 ∧ k = 1 ∧ 1 ≤ l.length := by
 unfold rdBlock at h
 cases h1 : rdByte l with
 | error e => rw [h1] at h; cases h
 | ok p =>
  obtain ⟨x, k1⟩ := p
  rw [h1] at h
  simp only at h
  split at h
  ·cases h
  ·split at h
   ·next h2 => simp only [Except.ok.injEq, Prod.mk.injEq] at h; obtain ⟨rfl, rfl⟩ := h; exact ⟨h2, (ck h1).1, (ck h1).2⟩
   ·cases h
theorem rdBlock_err {l : List UInt8} {e : Nat} (h : rdBlock l = .error e) : e = 60 ∨ e = 61 := by
 unfold rdBlock at h
 cases h1 : rdByte l with
 | error e' => rw [h1] at h; simp only [Except.error.injEq] at h; subst h; exact .inl (de h1).1
 | ok p =>
  obtain ⟨x, k1⟩ := p
  rw [h1] at h
  simp only at h
  split at h
  ·simp only [Except.error.injEq] at h; exact .inr h.symm
  ·split at h
   ·cases h
   ·simp only [Except.error.injEq] at h; exact .inl h.symm
theorem rdOp_ok {l : List UInt8} {op k : Nat} (h : rdOp l = .ok (op, k)) : Opc.known op = true ∧ op < 256 ∧ k = 1 ∧ 1 ≤ l.length := by
 unfold rdOp at h
 cases h1 : rdByte l with
 | error e => rw [h1] at h; cases h
 | ok p =>
  obtain ⟨x, k1⟩ := p
  rw [h1] at h
  simp only at h
  split at h
  ·cases h
  ·split at h
   ·next h2 => simp only [Except.ok.injEq, Prod.mk.injEq] at h; obtain ⟨rfl, rfl⟩ := h; exact ⟨h2, (ck h1).1, (ck h1).2⟩
   ·cases h
theorem rdOp_err {l : List UInt8} {e : Nat} (h : rdOp l = .error e) : e = 60 ∨ e = 61 := by
 unfold rdOp at h
 cases h1 : rdByte l with
 | error e' => rw [h1] at h; simp only [Except.error.injEq] at h; subst h; exact .inl (de h1).1
 | ok p =>
  obtain ⟨x, k1⟩ := p
  rw [h1] at h
  simp only at h
  split at h
  ·simp only [Except.error.injEq] at h; exact .inr h.symm
  ·split at h
   ·cases h
   ·simp only [Except.error.injEq] at h; exact .inl h.symm
theorem rdF_ok (f : Int) (hf : f = 0 ∨ f = 1 ∨ f = 2 ∨ f = 3 ∨ f = 4 ∨ f = 5 ∨ f = 6 ∨ f = 7 ∨ f = 8 ∨ f = 9) {op : Nat} (ho : op < 256) {l : List UInt8} {x : I} {k : Nat} (h : rdF f op l = .ok (x, k)) :
  x.op = op ∧ mayF f x = true ∧ x.wf ∧ x.l.length < 4294967296 ∧ k ≤ l.length ∧ (tailF f x).length ≤ k := by
 rcases hf with rfl | rfl | rfl | rfl | rfl | rfl | rfl | rfl | rfl | rfl
 ·simp [rdF] at h; obtain ⟨rfl, rfl⟩ := h; simp [mayF, tailF, I.wf, ho]
 ·simp only [rdF, if_true] at h
  cases h1 : rdBlock l with
  | error e => rw [h1] at h; cases h
  | ok p =>
   obtain ⟨a, k1⟩ := p
   rw [h1] at h
   simp only [Except.ok.injEq, Prod.mk.injEq] at h
   obtain ⟨rfl, rfl⟩ := h
   obtain ⟨a1, a2, a3, a4⟩ := rdBlock_ok h1
   refine ⟨rfl, by simp [mayF, hasA, a1], ⟨ho, by simp only; omega, by simp, by simp, by simp, by simp⟩, by simp, by omega, by simp [tailF]; omega⟩
 ·simp only [rdF, if_true, Int.reduceEq, if_false, true_or] at h
  cases h1 : rdNum l with
  | error e => rw [h1] at h; cases h
  | ok p =>
   obtain ⟨a, k1⟩ := p
   rw [h1] at h
   simp only [Except.ok.injEq, Prod.mk.injEq] at h
   obtain ⟨rfl, rfl⟩ := h
   obtain ⟨a1, a2, a3, a4⟩ := aB h1
   exact ⟨rfl, by simp [mayF, hasA], ⟨ho, a1, by simp, by simp, by simp, by simp⟩, by simp, a3, by simpa [tailF] using a4⟩
 ·simp only [rdF, if_true, Int.reduceEq, if_false, or_self] at h
  cases h1 : rdLabels l with
  | error e => rw [h1] at h; cases h
  | ok p =>
   obtain ⟨xs, k1⟩ := p
   rw [h1] at h
   simp only at h
   cases h2 : rdNum (l.drop k1) with
   | error e => rw [h2] at h; cases h
   | ok q =>
    obtain ⟨a, k2⟩ := q
    rw [h2] at h
    simp only [Except.ok.injEq, Prod.mk.injEq] at h
    obtain ⟨rfl, rfl⟩ := h
    obtain ⟨a1, a2, a3, a4⟩ := rdLabels_ok h1
    obtain ⟨b1, b2, b3, b4⟩ := aB h2
    rw [List.length_drop] at b3
    exact ⟨rfl, by simp [mayF, hasA], ⟨ho, b1, by simp, by simp, by simp, a2⟩, a1, by omega, by simp [tailF]; omega⟩
 ·simp only [rdF, if_true, Int.reduceEq, if_false, or_true] at h
  cases h1 : rdNum l with
  | error e => rw [h1] at h; cases h
  | ok p =>
   obtain ⟨a, k1⟩ := p
   rw [h1] at h
   simp only [Except.ok.injEq, Prod.mk.injEq] at h
   obtain ⟨rfl, rfl⟩ := h
   obtain ⟨a1, a2, a3, a4⟩ := aB h1
   exact ⟨rfl, by simp [mayF, hasA], ⟨ho, a1, by simp, by simp, by simp, by simp⟩, by simp, a3, by simpa [tailF] using a4⟩
 ·simp only [rdF, if_true, Int.reduceEq, if_false, or_self] at h
  cases h1 : rdNum l with
  | error e => rw [h1] at h; cases h
  | ok p =>
   obtain ⟨a, k1⟩ := p
   rw [h1] at h
   simp only at h
   cases h2 : rdZero (l.drop k1) with
   | error e => rw [h2] at h; cases h
   | ok k2 =>
    rw [h2] at h
    simp only [Except.ok.injEq, Prod.mk.injEq] at h
    obtain ⟨rfl, rfl⟩ := h
    obtain ⟨a1, a2, a3, a4⟩ := aB h1
    obtain ⟨b1, b2⟩ := hZ h2
    rw [List.length_drop] at b2
    exact ⟨rfl, by simp [mayF, hasA], ⟨ho, a1, by simp, by simp, by simp, by simp⟩, by simp, by omega, by simp [tailF]; omega⟩
 ·simp only [rdF, if_true, Int.reduceEq, if_false, or_self] at h
  cases h1 : rdNum l with
  | error e => rw [h1] at h; cases h
  | ok p =>
   obtain ⟨a, k1⟩ := p
   rw [h1] at h
   simp only at h
   cases h2 : rdNum (l.drop k1) with
   | error e => rw [h2] at h; cases h
   | ok q =>
    obtain ⟨b, k2⟩ := q
    rw [h2] at h
    simp only [Except.ok.injEq, Prod.mk.injEq] at h
    obtain ⟨rfl, rfl⟩ := h
    obtain ⟨a1, a2, a3, a4⟩ := aB h1
    obtain ⟨b1, b2, b3, b4⟩ := aB h2
    rw [List.length_drop] at b3
    exact ⟨rfl, by simp [mayF, hasA], ⟨ho, a1, b1, by simp, by simp, by simp⟩, by simp, by omega, by simp [tailF]; omega⟩
 ·simp only [rdF, if_true, Int.reduceEq, if_false, or_self] at h
  cases h1 : rdZero l with
  | error e => rw [h1] at h; cases h
  | ok k1 =>
   rw [h1] at h
   simp only [Except.ok.injEq, Prod.mk.injEq] at h
   obtain ⟨rfl, rfl⟩ := h
   obtain ⟨b1, b2⟩ := hZ h1
   exact ⟨rfl, by simp [mayF], ⟨ho, by simp, by simp, by simp, by simp, by simp⟩, by simp, by omega, by simp [tailF]; omega⟩
 ·simp only [rdF, if_true, Int.reduceEq, if_false, or_self] at h
  cases h1 : rdConst l 32 with
  | error e => rw [h1] at h; cases h
  | ok p =>
   obtain ⟨c, k1⟩ := p
   rw [h1] at h
   simp only [Except.ok.injEq, Prod.mk.injEq] at h
   obtain ⟨rfl, rfl⟩ := h
   obtain ⟨a1, a2, a3, a4, a5, a6⟩ := cA h1
   exact ⟨rfl, by simp [mayF, a3 rfl], ⟨ho, by simp, by simp, a1, a2, by simp⟩, by simp, by omega, by simpa [tailF] using a6⟩
 ·simp only [rdF, if_true, Int.reduceEq, if_false, or_self] at h
  cases h1 : rdConst l 64 with
  | error e => rw [h1] at h; cases h
  | ok p =>
   obtain ⟨c, k1⟩ := p
   rw [h1] at h
   simp only [Except.ok.injEq, Prod.mk.injEq] at h
   obtain ⟨rfl, rfl⟩ := h
   obtain ⟨a1, a2, a3, a4, a5, a6⟩ := cA h1
   exact ⟨rfl, by simp [mayF], ⟨ho, by simp, by simp, a1, a2, by simp⟩, by simp, by omega, by simpa [tailF] using a6⟩
theorem rdF_err (f : Int) {op : Nat} {l : List UInt8} {e : Nat} (h : rdF f op l = .error e) : e = 60 ∨ e = 61 := by
 unfold rdF at h
 split at h
 ·cases h1 : rdBlock l with
  | error e' => rw [h1] at h; simp only [Except.error.injEq] at h; subst h; exact rdBlock_err h1
  | ok p => rw [h1] at h; cases h
 split at h
 ·cases h1 : rdNum l with
  | error e' => rw [h1] at h; simp only [Except.error.injEq] at h; subst h; exact .inl (bk h1)
  | ok p => rw [h1] at h; cases h
 split at h
 ·cases h1 : rdLabels l with
  | error e' => rw [h1] at h; simp only [Except.error.injEq] at h; subst h; exact .inl (iG h1)
  | ok p =>
   rw [h1] at h; simp only at h
   cases h2 : rdNum (l.drop p.2) with
   | error e' => rw [h2] at h; simp only [Except.error.injEq] at h; subst h; exact .inl (bk h2)
   | ok q => rw [h2] at h; cases h
 split at h
 ·cases h1 : rdNum l with
  | error e' => rw [h1] at h; simp only [Except.error.injEq] at h; subst h; exact .inl (bk h1)
  | ok p =>
   rw [h1] at h; simp only at h
   cases h2 : rdZero (l.drop p.2) with
   | error e' => rw [h2] at h; simp only [Except.error.injEq] at h; subst h; exact .inl (f7 h2)
   | ok q => rw [h2] at h; cases h
 split at h
 ·cases h1 : rdNum l with
  | error e' => rw [h1] at h; simp only [Except.error.injEq] at h; subst h; exact .inl (bk h1)
  | ok p =>
   rw [h1] at h; simp only at h
   cases h2 : rdNum (l.drop p.2) with
   | error e' => rw [h2] at h; simp only [Except.error.injEq] at h; subst h; exact .inl (bk h2)
   | ok q => rw [h2] at h; cases h
 split at h
 ·cases h1 : rdZero l with
  | error e' => rw [h1] at h; simp only [Except.error.injEq] at h; subst h; exact .inl (f7 h1)
  | ok p => rw [h1] at h; cases h
 split at h
 ·cases h1 : rdConst l 32 with
  | error e' => rw [h1] at h; simp only [Except.error.injEq] at h; subst h; exact .inl (fc h1)
  | ok p => rw [h1] at h; cases h
 split at h
 ·cases h1 : rdConst l 64 with
  | error e' => rw [h1] at h; simp only [Except.error.injEq] at h; subst h; exact .inl (fc h1)
  | ok p => rw [h1] at h; cases h
 ·cases h
theorem aK {l : List UInt8} {x : I} {k : Nat} (h : rdInstr l = .ok (x, k)) : may x = true ∧ x.wf ∧ x.l.length < 4294967296 ∧ 1 ≤ k ∧ k ≤ l.length ∧ (enc x).length ≤ k := by
 unfold rdInstr at h
 cases h1 : rdOp l with
 | error e => rw [h1] at h; cases h
 | ok p =>
  obtain ⟨op, k1⟩ := p
  rw [h1] at h
  simp only at h
  obtain ⟨a1, a2, a3, a4⟩ := rdOp_ok h1
  cases h2 : rdF (Opc.form op) op (l.drop k1) with
  | error e => rw [h2] at h; cases h
  | ok q =>
   obtain ⟨y, k2⟩ := q
   rw [h2] at h
   simp only [Except.ok.injEq, Prod.mk.injEq] at h
   obtain ⟨rfl, rfl⟩ := h
   obtain ⟨b1, b2, b3, b4, b5, b6⟩ := rdF_ok _ (bP op) a2 h2
   rw [List.length_drop] at b5
   refine ⟨by simp [may, b1, a1, b2], b3, b4, by omega, by omega, ?_⟩
   simp [enc, b1]; omega
theorem rdInstr_err {l : List UInt8} {e : Nat} (h : rdInstr l = .error e) : e = 60 ∨ e = 61 := by
 unfold rdInstr at h
 cases h1 : rdOp l with
 | error e' => rw [h1] at h; simp only [Except.error.injEq] at h; subst h; exact rdOp_err h1
 | ok p =>
  rw [h1] at h; simp only at h
  cases h2 : rdF (Opc.form p.1) p.1 (l.drop p.2) with
  | error e' => rw [h2] at h; simp only [Except.error.injEq] at h; subst h; exact rdF_err _ h2
  | ok q => rw [h2] at h; cases h
theorem cU : ∀ (n : Nat) (o : List Bool) (l : List UInt8) (e : Nat), rdExpr n o l = .error e → e = 60 ∨ e = 61
 | 0, o, l, e, h => by simp only [rdExpr, Except.error.injEq] at h; exact .inl h.symm
 | n + 1, o, l, e, h => by
  simp only [rdExpr] at h
  cases h1 : rdInstr l with
  | error e' => rw [h1] at h; simp only [Except.error.injEq] at h; subst h; exact rdInstr_err h1
  | ok p =>
   obtain ⟨x, k⟩ := p
   rw [h1] at h; simp only at h
   split at h
   ·cases h
   ·cases h2 : step o x.op with
    | none => rw [h2] at h; simp only [Except.error.injEq] at h; exact .inl h.symm
    | some o' =>
     rw [h2] at h; simp only at h
     cases h3 : rdExpr n o' (l.drop k) with
     | error e' => rw [h3] at h; simp only [onto, Except.error.injEq] at h; subst h; exact cU n _ _ _ h3
     | ok q => rw [h3] at h; simp only [onto] at h; cases h
theorem gz : ∀ (xs : List I) (o : List Bool) (n : Nat) (r : List UInt8), xs.all may = true → (∀ x ∈ xs, x.wf ∧ x.l.length < 4294967296) → steps o xs = some [] → xs.length < n → rdExpr n o (exprEnc xs ++ r) = .ok (xs, (exprEnc xs).length)
 | [], o, 0, r, _, _, _, h => by omega
 | x :: xs, o, 0, r, _, _, _, h => by omega
 | [], o, n + 1, r, _, _, hs, _ => by
  simp only [steps, Option.some.injEq] at hs
  subst hs
  have hm : may ⟨11, 0, 0, 0, []⟩ = true := by decide
  have h := eZ ⟨11, 0, 0, 0, []⟩ hm ⟨by decide, by decide, by decide, by decide, by decide, by simp⟩ (by decide) r
  have e : enc ⟨11, 0, 0, 0, []⟩ = [11] := by decide
  rw [e] at h
  simp only [rdExpr, exprEnc, encAll, List.flatMap_nil, List.nil_append]
  rw [h]
  simp
 | x :: xs, o, n + 1, r, hm, hw, hs, hn => by
  simp only [List.all_cons, Bool.and_eq_true] at hm
  have hx := hw x (by simp)
  simp only [steps] at hs
  cases h2 : step o x.op with
  | none => rw [h2] at hs; cases hs
  | some o' =>
   rw [h2] at hs
   simp only at hs
   have ih := gz xs o' n r hm.2 (fun y hy => hw y (by simp [hy])) hs (by simp at hn; omega)
   have hi := eZ x hm.1 hx.1 hx.2 (exprEnc xs ++ r)
   have e : exprEnc (x :: xs) ++ r = enc x ++ (exprEnc xs ++ r) := by simp [exprEnc, encAll]
   have hne : ¬ (x.op = 11 ∧ o = []) := by
    rintro ⟨h3, rfl⟩
    rw [h3] at h2
    simp [step] at h2
   simp only [rdExpr]
   rw [e, hi]
   simp only [if_neg hne, h2, List.drop_left]
   rw [ih]
   simp [onto, exprEnc, encAll]
theorem bS : ∀ (n : Nat) (o : List Bool) (l : List UInt8) (xs : List I) (k : Nat), rdExpr n o l = .ok (xs, k) → xs.all may = true ∧ (∀ x ∈ xs, x.wf ∧ x.l.length < 4294967296) ∧ steps o xs = some [] ∧ k ≤ l.length ∧ (exprEnc xs).length ≤ k
 | 0, o, l, xs, k, h => by simp [rdExpr] at h
 | n + 1, o, l, xs, k, h => by
  simp only [rdExpr] at h
  cases h1 : rdInstr l with
  | error e => rw [h1] at h; cases h
  | ok p =>
   obtain ⟨x, k1⟩ := p
   rw [h1] at h; simp only at h
   obtain ⟨a1, a2, a3, a4, a5, a6⟩ := aK h1
   split at h
   ·next hc =>
    simp only [Except.ok.injEq, Prod.mk.injEq] at h
    obtain ⟨rfl, rfl⟩ := h
    obtain ⟨_, rfl⟩ := hc
    exact ⟨rfl, by simp, rfl, a5, by simp [exprEnc, encAll]; omega⟩
   ·cases h2 : step o x.op with
    | none => rw [h2] at h; cases h
    | some o' =>
     rw [h2] at h; simp only at h
     cases h3 : rdExpr n o' (l.drop k1) with
     | error e => rw [h3] at h; simp only [onto] at h; cases h
     | ok q =>
      obtain ⟨ys, k2⟩ := q
      rw [h3] at h
      simp only [onto, Except.ok.injEq, Prod.mk.injEq] at h
      obtain ⟨rfl, rfl⟩ := h
      obtain ⟨b1, b2, b3, b4, b5⟩ := bS n o' _ ys k2 h3
      rw [List.length_drop] at b4
      refine ⟨by simp [a1, b1], fun y hy => ?_, by simp [steps, h2, b3], by omega, ?_⟩
      ·rcases List.mem_append.1 hy with hy | hy
       ·simp at hy; subst hy; exact ⟨a2, a3⟩
       ·exact b2 y hy
      ·simp only [exprEnc, encAll, List.length_append, List.flatMap_append, List.flatMap_cons, List.flatMap_nil, List.append_nil] at b5 ⊢; omega
theorem take_left {α : Type} {a b : List α} {i : Nat} (h : i ≤ a.length) : (a ++ b).take i = a.take i := by
 rw [List.take_append, show i - a.length = 0 by omega]; simp
def tot : List I → Nat
 | [] => 0
 | x :: xs => x.l.length + 5 + tot xs
theorem dU : ∀ (a b : List I), tot (a ++ b) = tot a + tot b
 | [], b => by simp [tot]
 | x :: a, b => by simp only [List.cons_append, tot, dU a b]; omega
theorem iZ : ∀ (xs : List I), 5 * xs.length ≤ tot xs
 | [] => by simp [tot]
 | x :: xs => by have := iZ xs; simp only [tot, List.length_cons]; omega
theorem tot_take {xs : List I} {j : Nat} {x : I} (h : xs[j]? = some x) : tot (xs.take (j + 1)) = tot (xs.take j) + (x.l.length + 5) := by
 rw [List.take_add_one, h, dU]; simp [tot]
theorem fa (xs : List I) (j : Nat) : tot (xs.take j) ≤ tot xs := by
 have h := dU (xs.take j) (xs.drop j)
 rw [List.take_append_drop] at h
 omega
theorem labs_le : ∀ (q : List Nat), (∀ x ∈ q, x < 4294967296) → (labs q).length ≤ 10 * q.length
 | [], _ => by simp [labs]
 | x :: q, hq => by
  have h1 := labs_le q (fun y hy => hq y (by simp [hy]))
  have h2 := encU_le10 x (by have := hq x (by simp); omega)
  have e : labs (x :: q) = encU x ++ labs q := by simp [labs]
  rw [e, List.length_append, List.length_cons]
  omega
theorem enc_le (x : I) (hw : x.wf) (hl : x.l.length < 4294967296) : (enc x).length ≤ 10 * (x.l.length + 5) := by
 obtain ⟨op, a, b, c, l⟩ := x
 obtain ⟨h1, h2, h3, h4, h5, h6⟩ := hw
 simp only at h1 h2 h3 h4 h5 h6 hl
 have ea := encU_le10 a (by omega)
 have eb := encU_le10 b (by omega)
 have ec := encS_le10 c h4 h5
 have el := encU_le10 l.length (by omega)
 have eL := labs_le l h6
 simp only [enc, List.length_cons]
 rcases bP op with hf | hf | hf | hf | hf | hf | hf | hf | hf | hf <;> rw [hf] <;> simp [tailF] <;> omega
theorem bW (a b : List I) : encAll (a ++ b) = encAll a ++ encAll b := by simp [encAll]
theorem dg {xs : List I} {j : Nat} {x : I} (h : xs[j]? = some x) : encAll (xs.take (j + 1)) = encAll (xs.take j) ++ enc x := by
 rw [List.take_add_one, h, bW]; simp [encAll]
theorem cW : ∀ (a b : List I) (o o' : List Bool), steps o a = some o' → steps o (a ++ b) = steps o' b
 | [], b, o, o', h => by simp only [steps, Option.some.injEq] at h; subst h; rfl
 | x :: a, b, o, o', h => by
  simp only [steps, List.cons_append] at h ⊢
  cases hs : step o x.op with
  | none => rw [hs] at h; cases h
  | some o1 => rw [hs] at h; simp only at h ⊢; exact cW a b o1 o' h
theorem steps_take {xs : List I} {j : Nat} {x : I} {o : List Bool} (h : steps [] (xs.take j) = some o) (hx : xs[j]? = some x) : steps [] xs = steps o (x :: xs.drop (j + 1)) := by
 have hj : j < xs.length := (List.getElem?_eq_some_iff.1 hx).1
 have e : xs = xs.take j ++ (x :: xs.drop (j + 1)) := by
  have h2 : xs.drop j = x :: xs.drop (j + 1) := by
   rw [List.drop_eq_getElem_cons hj]
   have := (List.getElem?_eq_some_iff.1 hx).2
   rw [this]
  rw [← h2, List.take_append_drop]
 conv => lhs; rw [e]
 exact cW _ _ _ _ h
theorem steps_next {xs : List I} {j : Nat} {x : I} {o o' : List Bool} (h : steps [] (xs.take j) = some o) (hx : xs[j]? = some x) (hs : step o x.op = some o') : steps [] (xs.take (j + 1)) = some o' := by
 rw [List.take_add_one, hx, cW _ _ _ _ h]
 simp [steps, hs]
theorem exprB_may {xs : List I} {j : Nat} {x : I} (hx : xs[j]? = some x) (hm : may x = false) : exprB xs = false := by
 unfold exprB
 have : xs.all may = false := List.all_eq_false.2 ⟨x, List.mem_of_getElem? hx, by simp [hm]⟩
 rw [this]; rfl
theorem exprB_step {xs : List I} {j : Nat} {x : I} {o : List Bool} (h : steps [] (xs.take j) = some o) (hx : xs[j]? = some x) (hs : step o x.op = none) : exprB xs = false := by
 unfold exprB
 rw [steps_take h hx]
 simp [steps, hs]
theorem all_take {xs : List I} {j : Nat} {x : I} (h : (xs.take j).all may = true) (hx : xs[j]? = some x) (hm : may x = true) : (xs.take (j + 1)).all may = true := by
 rw [List.take_add_one, hx]; simp only [Option.toList_some, List.all_append, h, Bool.true_and]; simp [hm]
end Ins
