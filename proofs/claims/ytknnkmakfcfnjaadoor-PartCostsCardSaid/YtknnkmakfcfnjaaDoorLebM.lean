/-
  Plain mathematics of numbers of variable length, over lists of bytes: how many bytes a number has, what they come to, unsigned.
-/
import Derived.Laws.BitsAllLaws
import Derived.IntWalk
import Derived.Lib.BitFns
namespace Leb
/-- Of how many bytes is the number with which the bytes begin; 0: it does not end. -/
def run : List UInt8 → Nat
  | [] => 0
  | b :: r => if b.toNat < 128 then 1 else if run r = 0 then 0 else run r + 1
/-- The bytes' seven bits each, the lowest first. -/
def val : List UInt8 → Nat
  | [] => 0
  | b :: r => b.toNat % 128 + 128 * val r
/-- The value of the bytes that are used. -/
def used (l : List UInt8) : Nat := val (l.take (run l))

theorem val_lt : ∀ l : List UInt8, val l < 128 ^ l.length
  | [] => by simp [val]
  | b :: r => by
    have := val_lt r
    have h2 : b.toNat % 128 < 128 := Nat.mod_lt _ (by decide)
    simp only [val, List.length_cons, Nat.pow_succ]
    omega
theorem val_append : ∀ a b : List UInt8, val (a ++ b) = val a + 128 ^ a.length * val b
  | [], b => by simp [val]
  | x :: a, b => by
    simp only [List.cons_append, val, val_append a b, List.length_cons, Nat.pow_succ, Nat.mul_add]
    rw [Nat.mul_comm (128 ^ a.length) 128, Nat.mul_assoc]
    omega
theorem take_snoc {l : List UInt8} {k : Nat} {x : UInt8} (h : l[k]? = some x) : l.take (k + 1) = l.take k ++ [x] := by
  rw [List.take_add_one, h]; rfl
theorem length_take_some {l : List UInt8} {k : Nat} {x : UInt8} (h : l[k]? = some x) : (l.take k).length = k := by
  have := (List.getElem?_eq_some_iff.1 h).1
  simp; omega
theorem val_take_succ {l : List UInt8} {k : Nat} {x : UInt8} (h : l[k]? = some x) : val (l.take (k + 1)) = val (l.take k) + 128 ^ k * (x.toNat % 128) := by
  rw [take_snoc h, val_append, length_take_some h]; simp [val]

/-- The first k bytes all go on. -/
def big (l : List UInt8) (k : Nat) : Prop := ∀ x ∈ l.take k, 128 ≤ x.toNat
theorem big_zero (l : List UInt8) : big l 0 := by simp [big]
theorem big_succ {l : List UInt8} {k : Nat} {x : UInt8} (hb : big l k) (h : l[k]? = some x) (hx : 128 ≤ x.toNat) : big l (k + 1) := by
  intro y hy
  rw [take_snoc h] at hy
  rcases List.mem_append.1 hy with hy | hy
  · exact hb y hy
  · simp at hy; subst hy; exact hx
theorem run_big : ∀ {l : List UInt8} {k : Nat}, big l k → run l = 0 ∨ k < run l
  | [], _, _ => by simp [run]
  | b :: r, 0, _ => by
    unfold run; split
    · omega
    · split <;> omega
  | b :: r, k + 1, h => by
    have hb : 128 ≤ b.toNat := h b (by simp)
    have hr := run_big (l := r) (k := k) (fun x hx => h x (by simp [hx]))
    unfold run
    rw [if_neg (by omega)]
    split <;> omega
theorem run_none {l : List UInt8} {k : Nat} (h : big l k) (hk : l.length ≤ k) : run l = 0 := by
  rcases run_big h with h0 | h0
  · exact h0
  · exfalso
    have : ∀ l : List UInt8, run l ≤ l.length := by
      intro l
      induction l with
      | nil => simp [run]
      | cons b r ih => unfold run; simp only [List.length_cons]; split <;> (try split) <;> omega
    have := this l
    omega
theorem run_le : ∀ l : List UInt8, run l ≤ l.length := by
  intro l
  induction l with
  | nil => simp [run]
  | cons b r ih => unfold run; simp only [List.length_cons]; split <;> (try split) <;> omega
theorem run_at : ∀ {l : List UInt8} {k : Nat} {x : UInt8}, big l k → l[k]? = some x → x.toNat < 128 → run l = k + 1
  | [], _, _, _, h, _ => by simp at h
  | b :: r, 0, x, _, h, hx => by
    simp at h; subst h; unfold run; rw [if_pos hx]
  | b :: r, k + 1, x, hb, h, hx => by
    have h1 : 128 ≤ b.toNat := hb b (by simp)
    have h2 := run_at (l := r) (k := k) (x := x) (fun y hy => hb y (by simp [hy])) (by simpa using h) hx
    unfold run
    rw [if_neg (by omega), if_neg (by omega), h2]

theorem pow128 (k : Nat) : 128 ^ k = 2 ^ (7 * k) := by rw [Nat.pow_mul]

/-- Whether the bytes begin with an unsigned number of so many bits. -/
def okU (l : List UInt8) (n : Int) : Bool := decide (1 ≤ n ∧ n ≤ 64 ∧ 1 ≤ run l ∧ 7 * ((run l : Int) - 1) < n ∧ (used l : Int) < 2 ^ n.toNat)
def numU (l : List UInt8) (n : Int) : Int := if okU l n = true then (used l : Int) else 0
def cntU (l : List UInt8) (n : Int) : Int := if okU l n = true then (run l : Int) else 0

theorem okU_bits {l : List UInt8} {n : Int} (h : n < 1 ∨ 64 < n) : okU l n = false := by
  unfold okU; rw [decide_eq_false_iff_not]; omega
theorem okU_end {l : List UInt8} {n : Int} {k : Nat} (hb : big l k) (h : l.length ≤ k ∨ n ≤ 7 * (k : Int)) : okU l n = false := by
  unfold okU; rw [decide_eq_false_iff_not]
  rintro ⟨_, _, h1, h2, _⟩
  rcases h with h | h
  · have := run_none hb h; omega
  · rcases run_big hb with h0 | h0 <;> omega
theorem used_at {l : List UInt8} {k : Nat} {x : UInt8} (hb : big l k) (h : l[k]? = some x) (hx : x.toNat < 128) : used l = val (l.take k) + 2 ^ (7 * k) * x.toNat := by
  unfold used
  rw [run_at hb h hx, val_take_succ h, pow128, Nat.mod_eq_of_lt hx]
theorem val_take_lt {l : List UInt8} {k : Nat} {x : UInt8} (h : l[k]? = some x) : val (l.take k) < 2 ^ (7 * k) := by
  have := val_lt (l.take k)
  rwa [length_take_some h, pow128] at this
/-- The last byte, of an unsigned number. -/
theorem okU_last {l : List UInt8} {n : Int} {k : Nat} {x : UInt8} (hb : big l k) (h : l[k]? = some x) (hx : x.toNat < 128) (h1 : 1 ≤ n) (h2 : n ≤ 64) (h3 : 7 * (k : Int) < n) :
    okU l n = decide ((x.toNat : Int) / 2 ^ min (n - 7 * (k : Int)).toNat 8 = 0) := by
  obtain ⟨m, rfl⟩ : ∃ m : Nat, n = m := ⟨n.toNat, by omega⟩
  have hm : ((m : Int) - 7 * (k : Int)).toNat = m - 7 * k := by omega
  have hr := run_at hb h hx
  have hu := used_at hb h hx
  have hv := val_take_lt h
  unfold okU
  rw [Bool.eq_iff_iff, decide_eq_true_iff, decide_eq_true_iff, hr, hm, hu]
  have e1 : ((x.toNat : Int) / 2 ^ min (m - 7 * k) 8) = ((x.toNat / 2 ^ min (m - 7 * k) 8 : Nat) : Int) := by simp
  have e2 : ((2 : Int) ^ (m : Int).toNat) = ((2 ^ m : Nat) : Int) := by simp
  rw [e1, e2]
  have e3 : (2 : Nat) ^ m = 2 ^ (7 * k) * 2 ^ (m - 7 * k) := by rw [← Nat.pow_add]; congr 1; omega
  have key : val (l.take k) + 2 ^ (7 * k) * x.toNat < 2 ^ m ↔ x.toNat < 2 ^ (m - 7 * k) := by
    rw [e3]
    constructor
    · intro hlt
      apply Nat.lt_of_mul_lt_mul_left (a := 2 ^ (7 * k))
      omega
    · intro hlt
      have : 2 ^ (7 * k) * (x.toNat + 1) ≤ 2 ^ (7 * k) * 2 ^ (m - 7 * k) := Nat.mul_le_mul_left _ hlt
      rw [Nat.mul_add, Nat.mul_one] at this
      omega
  have key2 : x.toNat / 2 ^ min (m - 7 * k) 8 = 0 ↔ x.toNat < 2 ^ (m - 7 * k) := by
    rw [Nat.div_eq_zero_iff_lt (Nat.pow_pos (by decide))]
    by_cases h8 : m - 7 * k ≤ 8
    · rw [Nat.min_eq_left h8]
    · rw [Nat.min_eq_right (by omega)]
      have : 2 ^ 8 ≤ 2 ^ (m - 7 * k) := Nat.pow_le_pow_right (by decide) (by omega)
      constructor <;> intro <;> omega
  constructor
  · rintro ⟨_, _, _, _, h5⟩
    have h6 : val (l.take k) + 2 ^ (7 * k) * x.toNat < 2 ^ m := by exact_mod_cast h5
    have := key2.2 (key.1 h6)
    omega
  · intro h5
    have h6 := key.2 (key2.1 (by omega))
    refine ⟨h1, h2, by omega, by omega, by exact_mod_cast h6⟩
theorem used_lt {l : List UInt8} {n : Int} (h : okU l n = true) : (used l : Int) < 18446744073709551616 := by
  unfold okU at h
  rw [decide_eq_true_iff] at h
  obtain ⟨h1, h2, _, _, h5⟩ := h
  have e2 : ((2 : Int) ^ n.toNat) = ((2 ^ n.toNat : Nat) : Int) := by simp
  rw [e2] at h5
  have h6 : (2 : Nat) ^ n.toNat ≤ 2 ^ 64 := Nat.pow_le_pow_right (by decide) (by omega)
  have h7 : (2 : Nat) ^ 64 = 18446744073709551616 := rfl
  omega
end Leb
/-
  Plain mathematics of numbers of variable length, over lists of bytes: signed ones.
-/
namespace Leb
open Go Go.RowKit
/-- What is used, as a signed number. -/
def sused (l : List UInt8) : Int := if 2 * used l < 128 ^ run l then (used l : Int) else (used l : Int) - (128 ^ run l : Nat)
def okS (l : List UInt8) (n : Int) : Bool := decide (1 ≤ n ∧ n ≤ 64 ∧ 1 ≤ run l ∧ 7 * ((run l : Int) - 1) < n ∧ -(2 ^ (n - 1).toNat) ≤ sused l ∧ sused l < 2 ^ (n - 1).toNat)
def numS (l : List UInt8) (n : Int) : Int := if okS l n = true then sused l else 0
def cntS (l : List UInt8) (n : Int) : Int := if okS l n = true then (run l : Int) else 0
theorem okS_bits {l : List UInt8} {n : Int} (h : n < 1 ∨ 64 < n) : okS l n = false := by
  unfold okS; rw [decide_eq_false_iff_not]; omega
theorem okS_end {l : List UInt8} {n : Int} {k : Nat} (hb : big l k) (h : l.length ≤ k ∨ n ≤ 7 * (k : Int)) : okS l n = false := by
  unfold okS; rw [decide_eq_false_iff_not]
  rintro ⟨_, _, h1, h2, _⟩
  rcases h with h | h
  · have := run_none hb h; omega
  · rcases run_big hb with h0 | h0 <;> omega
/-- The last byte's seven bits, as a signed number. -/
def top (x : Nat) : Int := if x < 64 then (x : Int) else (x : Int) - 128
theorem sused_at {l : List UInt8} {k : Nat} {x : UInt8} (hb : big l k) (h : l[k]? = some x) (hx : x.toNat < 128) : sused l = (val (l.take k) : Int) + (2 ^ (7 * k) : Nat) * top x.toNat := by
  have hr := run_at hb h hx
  have hu := used_at hb h hx
  have hv := val_take_lt h
  unfold sused top
  rw [hr, hu, Nat.pow_succ, pow128]
  generalize 2 ^ (7 * k) = P at *
  generalize val (l.take k) = v at *
  generalize x.toNat = y at *
  by_cases h6 : y < 64
  · have h7 : P * (y + 1) ≤ P * 64 := Nat.mul_le_mul_left _ (by omega)
    rw [Nat.mul_add] at h7
    rw [if_pos (by omega), if_pos h6]
    simp
  · have h7 : P * 64 ≤ P * y := Nat.mul_le_mul_left _ (by omega)
    rw [if_neg (by omega), if_neg h6, Int.mul_sub]
    simp; omega
theorem range_iff (v P E t : Int) (hP : 0 < P) (h0 : 0 ≤ v) (h1 : v < P) : (-(P * E) ≤ v + P * t ∧ v + P * t < P * E) ↔ (-E ≤ t ∧ t < E) := by
  constructor
  · rintro ⟨h2, h3⟩
    constructor
    · apply Int.not_lt.1; intro hlt
      have : P * t ≤ P * (-E - 1) := Int.mul_le_mul_of_nonneg_left (by omega) (by omega)
      rw [Int.mul_sub, Int.mul_neg, Int.mul_one] at this
      omega
    · apply Int.not_le.1; intro hle
      have : P * E ≤ P * t := Int.mul_le_mul_of_nonneg_left hle (by omega)
      omega
  · rintro ⟨h2, h3⟩
    have a1 : P * (-E) ≤ P * t := Int.mul_le_mul_of_nonneg_left h2 (by omega)
    have a2 : P * t ≤ P * (E - 1) := Int.mul_le_mul_of_nonneg_left (by omega) (by omega)
    rw [Int.mul_neg] at a1
    rw [Int.mul_sub, Int.mul_one] at a2
    omega
theorem above_iff (t E : Int) (hE : 0 < E) : (t / E = 0 ∨ t / E = -1) ↔ (-E ≤ t ∧ t < E) := by
  have h1 := Int.mul_ediv_add_emod t E
  have h2 := Int.emod_nonneg t (show E ≠ 0 by omega)
  have h3 := Int.emod_lt_of_pos t hE
  constructor
  · rintro (h | h)
    · rw [h] at h1; omega
    · rw [h] at h1; omega
  · rintro ⟨a, b⟩
    have l1 : -1 ≤ t / E := by
      apply Int.not_lt.1; intro hlt
      have : E * (t / E) ≤ E * (-2) := Int.mul_le_mul_of_nonneg_left (by omega) (by omega)
      omega
    have l2 : t / E ≤ 0 := by
      apply Int.not_lt.1; intro hlt
      have : E * 1 ≤ E * (t / E) := Int.mul_le_mul_of_nonneg_left (by omega) (by omega)
      omega
    omega
theorem top_range (x : Nat) (hx : x < 128) : -64 ≤ top x ∧ top x < 64 := by unfold top; split <;> omega
theorem okS_last {l : List UInt8} {n : Int} {k : Nat} {x : UInt8} (hb : big l k) (h : l[k]? = some x) (hx : x.toNat < 128) (h1 : 1 ≤ n) (h2 : n ≤ 64) (h3 : 7 * (k : Int) < n) (e : Nat) (he : (e : Int) = min (n - 7 * (k : Int)) 7 - 1) :
    okS l n = decide (top x.toNat / 2 ^ e = 0 ∨ top x.toNat / 2 ^ e = -1) := by
  obtain ⟨m, rfl⟩ : ∃ m : Nat, n = (m : Int) + 1 := ⟨(n - 1).toNat, by omega⟩
  have hr := run_at hb h hx
  have hu := sused_at hb h hx
  have hv := val_take_lt h
  have ht := top_range x.toNat hx
  have hm : ((m : Int) + 1 - 1).toNat = m := by omega
  unfold okS
  rw [Bool.eq_iff_iff, decide_eq_true_iff, decide_eq_true_iff, hr, hm, hu, above_iff _ _ (Int.pow_pos (by decide))]
  have e2 : ∀ j : Nat, ((2 : Int) ^ j) = ((2 ^ j : Nat) : Int) := fun j => by simp
  have hP : (0 : Int) < ((2 ^ (7 * k) : Nat) : Int) := by have := Nat.pow_pos (n := 7 * k) (show 0 < 2 by decide); omega
  have key := range_iff (val (l.take k) : Int) ((2 ^ (7 * k) : Nat) : Int) ((2 ^ (m - 7 * k) : Nat) : Int) (top x.toNat) hP (by omega) (by omega)
  have e3 : (2 : Int) ^ m = ((2 ^ (7 * k) : Nat) : Int) * ((2 ^ (m - 7 * k) : Nat) : Int) := by
    rw [← Int.natCast_mul, ← Nat.pow_add, show 7 * k + (m - 7 * k) = m by omega]; exact e2 m
  rw [e3, e2 e]
  by_cases h7 : m - 7 * k ≤ 6
  · have : e = m - 7 * k := by omega
    subst this
    constructor
    · rintro ⟨_, _, _, _, h5⟩; exact key.1 h5
    · intro h5; exact ⟨h1, h2, by omega, by omega, key.2 h5⟩
  · have h8 : e = 6 := by omega
    subst h8
    have h9 : (2 : Nat) ^ 6 ≤ 2 ^ (m - 7 * k) := Nat.pow_le_pow_right (by decide) (by omega)
    have h10 : (2 : Nat) ^ 6 = 64 := rfl
    constructor
    · intro _; omega
    · intro _; exact ⟨h1, h2, by omega, by omega, key.2 (by omega)⟩
theorem sused_lt {l : List UInt8} {n : Int} (h : okS l n = true) : -9223372036854775808 ≤ sused l ∧ sused l ≤ 9223372036854775807 := by
  unfold okS at h
  rw [decide_eq_true_iff] at h
  obtain ⟨h1, h2, _, _, h5, h6⟩ := h
  have e2 : ((2 : Int) ^ (n - 1).toNat) = ((2 ^ (n - 1).toNat : Nat) : Int) := by simp
  rw [e2] at h5 h6
  have h7 : (2 : Nat) ^ (n - 1).toNat ≤ 2 ^ 63 := Nat.pow_le_pow_right (by decide) (by omega)
  have h8 : (2 : Nat) ^ 63 = 9223372036854775808 := rfl
  omega
theorem ofInt_any (b : Int) : (BitVec.ofInt 64 b).toNat = (b % 18446744073709551616).toNat := by
  rw [BitVec.toNat_ofInt]; rfl
theorem or_i64 (v s : Nat) (t : Int) (hs : s ≤ 63) (hv : v < 2 ^ s) : bits .or .i64 (v : Int) (wrap64 (t * 2 ^ s)) = wrap64 ((v : Int) + ((2 ^ s : Nat) : Int) * t) := by
  have hp : (2 : Nat) ^ s ≤ 2 ^ 63 := Nat.pow_le_pow_right (by decide) hs
  have hp' : (2 : Nat) ^ 63 = 9223372036854775808 := rfl
  show IntKind.i64.wrap ((BitVec.ofInt 64 (v : Int) ||| BitVec.ofInt 64 (wrap64 (t * 2 ^ s))).toNat : Int) = _
  rw [BitVec.toNat_or, ofInt_any, ofInt_any, IntKind.wrap_i64]
  have e0 : ((v : Int) % 18446744073709551616).toNat = v := by omega
  have e1 : (wrap64 (t * 2 ^ s) % 18446744073709551616) = (((2 ^ s : Nat) : Int) * t) % 18446744073709551616 := by
    have : t * 2 ^ s = ((2 ^ s : Nat) : Int) * t := by rw [Int.mul_comm]; simp
    rw [this]; unfold wrap64; omega
  rw [e0, e1]
  have hd : (2 : Nat) ^ s ∣ 18446744073709551616 := by
    rw [show (18446744073709551616 : Nat) = 2 ^ 64 from rfl]; exact Nat.pow_dvd_pow 2 (by omega)
  have hm : ((((2 ^ s : Nat) : Int) * t) % 18446744073709551616).toNat % 2 ^ s = 0 := by
    have h1 : (((2 ^ s : Nat) : Int)) ∣ ((((2 ^ s : Nat) : Int) * t) % 18446744073709551616) := by
      have hd' : (((2 ^ s : Nat) : Int)) ∣ (18446744073709551616 : Int) := Int.natCast_dvd_natCast.2 hd
      rw [Int.emod_def]
      exact Int.dvd_sub (Int.dvd_mul_right _ _) (Int.dvd_trans hd' (Int.dvd_mul_right _ _))
    have h2 : 0 ≤ ((((2 ^ s : Nat) : Int) * t) % 18446744073709551616) := Int.emod_nonneg _ (by decide)
    obtain ⟨r, hr⟩ := Int.eq_ofNat_of_zero_le h2
    rw [hr] at h1 ⊢
    have h3 : (2 ^ s) ∣ r := Int.natCast_dvd_natCast.1 h1
    simpa using Nat.mod_eq_zero_of_dvd h3
  rw [Nat.or_comm, nat_join s _ v hm hv]
  have h2 : 0 ≤ ((((2 ^ s : Nat) : Int) * t) % 18446744073709551616) := Int.emod_nonneg _ (by decide)
  generalize ((2 ^ s : Nat) : Int) * t = z at *
  unfold wrap64
  omega
end Leb
/-
  Plain mathematics of numbers of variable length: the fewest bytes of a number, and what is taken of them.
-/
namespace Leb
open Go Go.RowKit
/-- The fewest bytes of an unsigned number. -/
def encU (n : Nat) : List UInt8 := if n < 128 then [UInt8.ofNat n] else UInt8.ofNat (n % 128 + 128) :: encU (n / 128)
termination_by n
theorem encU_small {n : Nat} (h : n < 128) : encU n = [UInt8.ofNat n] := by rw [encU, if_pos h]
theorem encU_big {n : Nat} (h : 128 ≤ n) : encU n = UInt8.ofNat (n % 128 + 128) :: encU (n / 128) := by rw [encU, if_neg (by omega)]
theorem byte_of (x : Nat) (h : x < 256) : (UInt8.ofNat x).toNat = x := by
  rw [UInt8.toNat_ofNat']; exact Nat.mod_eq_of_lt h
theorem encU_pos (n : Nat) : 1 ≤ (encU n).length := by
  rw [encU]; split <;> simp
theorem encU_le : ∀ (k n : Nat), 1 ≤ k → n < 2 ^ (7 * k) → (encU n).length ≤ k
  | 0, _, h, _ => by omega
  | k + 1, n, _, hn => by
    by_cases h : n < 128
    · rw [encU_small h]; simp
    · rw [encU_big (by omega)]
      have h1 : n / 128 < 2 ^ (7 * k) := by
        rw [Nat.div_lt_iff_lt_mul (by decide)]
        rw [Nat.mul_add, Nat.pow_add] at hn
        exact hn
      have hk : 1 ≤ k := by
        rcases Nat.eq_zero_or_pos k with h0 | h0
        · subst h0; simp at hn; omega
        · exact h0
      have := encU_le k (n / 128) hk h1
      simp; omega
theorem encU_le10 (n : Nat) (h : n < 18446744073709551616) : (encU n).length ≤ 10 :=
  encU_le 10 n (by decide) (Nat.lt_of_lt_of_le h (by decide))
/-- What is appended begins with just that number, whatever stands behind. -/
theorem run_encU (n : Nat) (r : List UInt8) : run (encU n ++ r) = (encU n).length := by
  induction n using Nat.strongRecOn with
  | ind n ih =>
    by_cases h : n < 128
    · rw [encU_small h]; simp [run, byte_of n (by omega), h]
    · rw [encU_big (by omega)]
      have h1 := ih (n / 128) (by omega)
      have h2 := encU_pos (n / 128)
      rw [List.cons_append, run, byte_of _ (by omega), if_neg (by omega), h1, if_neg (by omega)]
      rfl
theorem val_encU (n : Nat) : val (encU n) = n := by
  induction n using Nat.strongRecOn with
  | ind n ih =>
    by_cases h : n < 128
    · rw [encU_small h]; simp [val, byte_of n (by omega)]; omega
    · rw [encU_big (by omega), val, ih (n / 128) (by omega), byte_of _ (by omega)]
      omega
theorem used_encU (n : Nat) (r : List UInt8) : used (encU n ++ r) = n := by
  unfold used
  rw [run_encU, List.take_left, val_encU]
/-- The fewest bytes of a signed number. -/
def encS (n : Int) : List UInt8 := if -64 ≤ n ∧ n ≤ 63 then [UInt8.ofNat (n % 128).toNat] else UInt8.ofNat ((n % 128).toNat + 128) :: encS (n / 128)
termination_by n.natAbs
decreasing_by omega
theorem encS_small {n : Int} (h : -64 ≤ n ∧ n ≤ 63) : encS n = [UInt8.ofNat (n % 128).toNat] := by rw [encS, if_pos h]
theorem encS_big {n : Int} (h : ¬ (-64 ≤ n ∧ n ≤ 63)) : encS n = UInt8.ofNat ((n % 128).toNat + 128) :: encS (n / 128) := by rw [encS, if_neg h]
theorem encS_pos (n : Int) : 1 ≤ (encS n).length := by
  rw [encS]; split <;> simp
theorem encS_le : ∀ (k : Nat) (n : Int), -(64 * 128 ^ k : Nat) ≤ n → n < (64 * 128 ^ k : Nat) → (encS n).length ≤ k + 1
  | 0, n, h1, h2 => by
    rw [encS_small (by simp at h1 h2; omega)]; simp
  | k + 1, n, h1, h2 => by
    by_cases h : -64 ≤ n ∧ n ≤ 63
    · rw [encS_small h]; simp
    · rw [encS_big h]
      rw [Nat.pow_succ, ← Nat.mul_assoc] at h1 h2
      have := encS_le k (n / 128) (by omega) (by omega)
      simp; omega
theorem encS_le10 (n : Int) (h0 : -9223372036854775808 ≤ n) (h1 : n ≤ 9223372036854775807) : (encS n).length ≤ 10 := by
  have e : (64 * 128 ^ 9 : Nat) = 590295810358705651712 := by decide
  exact encS_le 9 n (by rw [e]; omega) (by rw [e]; omega)
theorem run_encS (n : Int) (r : List UInt8) : run (encS n ++ r) = (encS n).length := by
  induction h : n.natAbs using Nat.strongRecOn generalizing n with
  | ind m ih =>
    by_cases h : -64 ≤ n ∧ n ≤ 63
    · rw [encS_small h, List.cons_append, run, byte_of _ (by omega), if_pos (by omega)]; rfl
    · rw [encS_big h]
      have h1 := ih (n / 128).natAbs (by omega) (n / 128) rfl
      have h2 := encS_pos (n / 128)
      rw [List.cons_append, run, byte_of _ (by omega), if_neg (by omega), h1, if_neg (by omega)]
      rfl
theorem emod_two (n P : Int) (hP : 0 < P) : n % (P * 128) = n % 128 + 128 * (n / 128 % P) := by
  have h1 := Int.mul_ediv_add_emod n 128
  have h2 := Int.mul_ediv_add_emod (n / 128) P
  have h3 := Int.emod_nonneg (n / 128) (show P ≠ 0 by omega)
  have h4 := Int.emod_lt_of_pos (n / 128) hP
  have e : n = (n % 128 + 128 * (n / 128 % P)) + (P * 128) * (n / 128 / P) := by
    rw [Int.mul_assoc, Int.mul_left_comm]
    omega
  conv => lhs; rw [e]
  rw [Int.add_mul_emod_self_left, Int.emod_eq_of_lt (by omega) (by omega)]
theorem even128 (k : Nat) (h : 1 ≤ k) : 128 ^ k % 2 = 0 := by
  obtain ⟨j, rfl⟩ : ∃ j, k = j + 1 := ⟨k - 1, by omega⟩
  rw [Nat.pow_succ]; omega
theorem val_encS (n : Int) : (val (encS n) : Int) = n % (128 ^ (encS n).length : Nat) ∧ -(128 ^ (encS n).length : Nat) ≤ 2 * n ∧ 2 * n < (128 ^ (encS n).length : Nat) := by
  induction h : n.natAbs using Nat.strongRecOn generalizing n with
  | ind m ih =>
    by_cases h : -64 ≤ n ∧ n ≤ 63
    · rw [encS_small h]
      simp [val, byte_of _ (show (n % 128).toNat < 256 by omega)]
      omega
    · rw [encS_big h]
      obtain ⟨h1, h2, h3⟩ := ih (n / 128).natAbs (by omega) (n / 128) rfl
      simp only [val, List.length_cons, Nat.pow_succ, byte_of _ (show (n % 128).toNat + 128 < 256 by omega)]
      have hE := even128 _ (encS_pos (n / 128))
      generalize 128 ^ (encS (n / 128)).length = P at *
      have hP : 0 < P := by omega
      generalize val (encS (n / 128)) = v at *
      refine ⟨?_, by omega, by omega⟩
      have e1 : n % ((P * 128 : Nat) : Int) = n % 128 + 128 * (n / 128 % (P : Int)) := by
        rw [Int.natCast_mul]
        exact emod_two n P (by omega)
      rw [e1, ← h1]
      omega
theorem sused_encS (n : Int) (r : List UInt8) : sused (encS n ++ r) = n := by
  obtain ⟨h1, h2, h3⟩ := val_encS n
  unfold sused used
  rw [run_encS, List.take_left]
  generalize 128 ^ (encS n).length = P at *
  generalize val (encS n) = v at *
  have hP : (0 : Int) < P := by omega
  by_cases hn : 0 ≤ n
  · rw [Int.emod_eq_of_lt hn (by omega)] at h1
    rw [if_pos (by omega)]; exact h1
  · have : n % (P : Int) = n + P := by
      have e := Int.add_emod_right n P
      rw [← e, Int.emod_eq_of_lt (by omega) (by omega)]
    rw [this] at h1
    rw [if_neg (by omega)]; omega
end Leb
/-
  Plain mathematics of numbers of variable length: their bits.
-/
namespace Leb
open Go Go.RowKit
/-- Bytes as a signed number. -/
def sval (l : List UInt8) : Int := if 2 * val l < 128 ^ l.length then (val l : Int) else (val l : Int) - (128 ^ l.length : Nat)
theorem length_used (l : List UInt8) : (l.take (run l)).length = run l := by
  rw [List.length_take]; exact Nat.min_eq_left (run_le l)
theorem sused_eq (l : List UInt8) : sused l = sval (l.take (run l)) := by
  unfold sused sval used; rw [length_used]
/-- Bytes as a number, of either kind. -/
def num (l : List UInt8) (sg : Bool) : Int := if sg = true then sval l else (val l : Int)
theorem val_bit : ∀ (l : List UInt8) (a : Nat) (x : UInt8), l[a / 7]? = some x → val l / 2 ^ a % 2 = x.toNat / 2 ^ (a % 7) % 2
  | [], a, x, h => by simp at h
  | b :: r, a, x, h => by
    by_cases ha : a < 7
    · have h0 : a / 7 = 0 := by omega
      rw [h0] at h
      simp at h
      subst h
      have hm : a % 7 = a := by omega
      rw [hm, val]
      have : a = 0 ∨ a = 1 ∨ a = 2 ∨ a = 3 ∨ a = 4 ∨ a = 5 ∨ a = 6 := by omega
      rcases this with h | h | h | h | h | h | h <;> subst h <;> simp <;> omega
    · obtain ⟨j, rfl⟩ : ∃ j, a = j + 7 := ⟨a - 7, by omega⟩
      have h1 : (j + 7) / 7 = j / 7 + 1 := by omega
      have h2 : (j + 7) % 7 = j % 7 := by omega
      rw [h1] at h
      have ih := val_bit r j x (by simpa using h)
      rw [h2, ← ih, val, Nat.add_comm j 7, Nat.pow_add, ← Nat.div_div_eq_div_mul]
      congr 2
      have : (2 : Nat) ^ 7 = 128 := rfl
      omega
theorem two_dvd (a m : Nat) (h : a < m) : ∃ q : Nat, (2 : Nat) ^ m = 2 ^ a * (2 * q) := by
  refine ⟨2 ^ (m - a - 1), ?_⟩
  rw [← Nat.mul_assoc, ← Nat.pow_succ, ← Nat.pow_add]; congr 1; omega
theorem sval_lo (l : List UInt8) (a : Nat) (h : a < 7 * l.length) : sval l / 2 ^ a % 2 = ((val l / 2 ^ a % 2 : Nat) : Int) := by
  have e2 : ((2 : Int) ^ a) = ((2 ^ a : Nat) : Int) := by simp
  unfold sval
  split
  · rw [e2]; omega
  · rw [pow128]
    obtain ⟨q, hq⟩ := two_dvd a (7 * l.length) h
    rw [hq, e2]
    have hp : (0 : Int) < ((2 ^ a : Nat) : Int) := by have := Nat.pow_pos (n := a) (show 0 < 2 by decide); omega
    have : (val l : Int) - ((2 ^ a * (2 * q) : Nat) : Int) = (val l : Int) + ((2 ^ a : Nat) : Int) * (-(2 * (q : Int))) := by
      rw [Int.natCast_mul, Int.mul_neg]; simp; omega
    rw [this, Int.add_mul_ediv_left _ _ (by omega)]
    omega
theorem num_lo (l : List UInt8) (a : Nat) (sg : Bool) (h : a < 7 * l.length) : num l sg / 2 ^ a % 2 = ((val l / 2 ^ a % 2 : Nat) : Int) := by
  have e2 : ((2 : Int) ^ a) = ((2 ^ a : Nat) : Int) := by simp
  unfold num
  cases sg
  · simp
  · rw [if_pos rfl]; exact sval_lo l a h
theorem val_hi (l : List UInt8) (a : Nat) (h : 7 * l.length ≤ a) : num l false / 2 ^ a % 2 = 0 := by
  have e2 : ((2 : Int) ^ a) = ((2 ^ a : Nat) : Int) := by simp
  have := val_lt l
  rw [pow128] at this
  have h2 : (2 : Nat) ^ (7 * l.length) ≤ 2 ^ a := Nat.pow_le_pow_right (by decide) h
  have h3 : val l / 2 ^ a = 0 := Nat.div_eq_of_lt (by omega)
  unfold num
  rw [if_neg (by simp), e2]
  omega
theorem sval_range (l : List UInt8) (h : 1 ≤ l.length) : -((2 ^ (7 * l.length - 1) : Nat) : Int) ≤ sval l ∧ sval l < ((2 ^ (7 * l.length - 1) : Nat) : Int) := by
  have hv := val_lt l
  rw [pow128] at hv
  have e : (2 : Nat) ^ (7 * l.length) = 2 * 2 ^ (7 * l.length - 1) := by rw [← Nat.pow_succ']; congr 1; omega
  unfold sval
  rw [pow128]
  generalize 2 ^ (7 * l.length - 1) = P at *
  generalize 2 ^ (7 * l.length) = R at *
  split <;> omega
theorem ediv_neg_one (x P : Int) (hP : 0 < P) (h0 : -P ≤ x) (h1 : x < 0) : x / P = -1 := by
  have h := (above_iff x P hP).2 ⟨h0, by omega⟩
  rcases h with h | h
  · have h1 := Int.mul_ediv_add_emod x P
    have h2 := Int.emod_nonneg x (show P ≠ 0 by omega)
    rw [h] at h1; omega
  · exact h
theorem sval_hi (l : List UInt8) (a : Nat) (hl : 1 ≤ l.length) (h : 7 * l.length ≤ a) : sval l / 2 ^ a % 2 = sval l / 2 ^ (7 * l.length - 1) % 2 := by
  have e2 : ∀ j : Nat, ((2 : Int) ^ j) = ((2 ^ j : Nat) : Int) := fun j => by simp
  obtain ⟨h1, h2⟩ := sval_range l hl
  have h3 : (2 : Nat) ^ (7 * l.length - 1) ≤ 2 ^ a := Nat.pow_le_pow_right (by decide) (by omega)
  have hp : 0 < (2 : Nat) ^ (7 * l.length - 1) := Nat.pow_pos (by decide)
  rw [e2, e2]
  generalize (2 : Nat) ^ (7 * l.length - 1) = P at *
  generalize (2 : Nat) ^ a = R at *
  by_cases hn : 0 ≤ sval l
  · rw [Int.ediv_eq_zero_of_lt hn (by omega), Int.ediv_eq_zero_of_lt hn (by omega)]
  · rw [ediv_neg_one _ _ (by omega) (by omega) (by omega), ediv_neg_one _ _ (by omega) (by omega) (by omega)]
/-- All bits from b up to m are 0: the number has b bits. -/
theorem low_of_bits (x b : Nat) : ∀ m, b ≤ m → x < 2 ^ m → (∀ j, b ≤ j → j < m → x / 2 ^ j % 2 = 0) → x < 2 ^ b
  | 0, h, hx, _ => by
    obtain rfl : b = 0 := by omega
    exact hx
  | m + 1, h, hx, hb => by
    by_cases e : b = m + 1
    · subst e; exact hx
    · have h1 := hb m (by omega) (by omega)
      have h2 : x < 2 ^ m := by
        rw [Nat.pow_succ] at hx
        have h3 : x / 2 ^ m < 2 := by
          rw [Nat.div_lt_iff_lt_mul (Nat.pow_pos (by decide)), Nat.mul_comm]; exact hx
        have h4 : x / 2 ^ m = 0 := by
          generalize x / 2 ^ m = q at h1 h3
          omega
        rwa [Nat.div_eq_zero_iff_lt (Nat.pow_pos (by decide))] at h4
      exact low_of_bits x b m (by omega) h2 (fun j hj hjm => hb j hj (by omega))
theorem bits_of_low (x b j : Nat) (h : x < 2 ^ b) (hj : b ≤ j) : x / 2 ^ j % 2 = 0 := by
  have : (2 : Nat) ^ b ≤ 2 ^ j := Nat.pow_le_pow_right (by decide) hj
  rw [Nat.div_eq_of_lt (by omega)]
/-- The same of a signed one: what is above the bit b is like it. -/
theorem slow_of_bits (x : Int) (b : Nat) : ∀ m : Nat, b ≤ m → (x / 2 ^ m = 0 ∨ x / 2 ^ m = -1) → (∀ j, b < j → j ≤ m → x / 2 ^ j % 2 = x / 2 ^ b % 2) → (x / 2 ^ b = 0 ∨ x / 2 ^ b = -1)
  | 0, h, hx, _ => by
    obtain rfl : b = 0 := by omega
    exact hx
  | m + 1, h, hx, hb => by
    by_cases e : b = m + 1
    · subst e; exact hx
    · have h1 := hb (m + 1) (by omega) (by omega)
      have h2 : x / 2 ^ (m + 1) = x / 2 ^ m / 2 := by
        rw [Int.pow_succ, Int.ediv_ediv_of_nonneg]
        exact Int.pow_nonneg (by decide)
      have h3 : x / 2 ^ m % 2 = x / 2 ^ b % 2 := by
        by_cases e : b = m
        · subst e; rfl
        · exact hb m (by omega) (by omega)
      exact slow_of_bits x b m (by omega) (by omega) (fun j hj hjm => hb j hj (by omega))
theorem sbits_of_low (x : Int) (b j : Nat) (h : x / 2 ^ b = 0 ∨ x / 2 ^ b = -1) (hj : b ≤ j) : x / 2 ^ j % 2 = x / 2 ^ b % 2 := by
  obtain ⟨d, rfl⟩ : ∃ d, j = b + d := ⟨j - b, by omega⟩
  have e2 : ∀ j : Nat, ((2 : Int) ^ j) = ((2 ^ j : Nat) : Int) := fun j => by simp
  have hp : 0 < (2 : Nat) ^ d := Nat.pow_pos (by decide)
  rw [Int.pow_add, ← Int.ediv_ediv_of_nonneg (Int.pow_nonneg (by decide))]
  rcases h with h | h
  · rw [h]; simp
  · rw [h, ediv_neg_one (-1) _ (Int.pow_pos (by decide)) (by have := Int.pow_pos (n := 2) (m := d) (by decide); omega) (by omega)]
end Leb
/-
  Plain mathematics of numbers of variable length: how many bits they have, told by single bits.
-/
namespace Leb
open Go Go.RowKit
theorem num_used (l : List UInt8) : num (l.take (run l)) false = (used l : Int) := by unfold num used; simp
theorem num_sused (l : List UInt8) : num (l.take (run l)) true = sused l := by rw [sused_eq]; unfold num; simp
theorem used_lt7 (l : List UInt8) : used l < 2 ^ (7 * run l) := by
  have := val_lt (l.take (run l))
  rwa [length_used, pow128] at this
theorem int_nat_bit (x j : Nat) : ((x : Int) / 2 ^ j % 2) = ((x / 2 ^ j % 2 : Nat) : Int) := by simp
/-- A bit that is too much. -/
theorem okU_bit {l : List UInt8} {n : Int} {a : Nat} (h : n ≤ a) (hb : (used l : Int) / 2 ^ a % 2 ≠ 0) : okU l n = false := by
  unfold okU; rw [decide_eq_false_iff_not]
  rintro ⟨h1, h2, _, _, h5⟩
  obtain ⟨m, rfl⟩ : ∃ m : Nat, n = m := ⟨n.toNat, by omega⟩
  rw [Int.toNat_natCast] at h5
  have e2 : ((2 : Int) ^ m) = ((2 ^ m : Nat) : Int) := by simp
  rw [e2] at h5
  have h6 := bits_of_low (used l) m a (by omega) (by omega)
  rw [int_nat_bit, h6] at hb
  exact hb rfl
theorem okU_all {l : List UInt8} {n : Int} (h1 : 1 ≤ n) (h2 : n ≤ 64) (h3 : 1 ≤ run l) (h4 : 7 * (run l : Int) ≤ n + 6) (hb : ∀ j : Nat, n ≤ j → j < 7 * run l → (used l : Int) / 2 ^ j % 2 = 0) : okU l n = true := by
  unfold okU; rw [decide_eq_true_iff]
  obtain ⟨m, rfl⟩ : ∃ m : Nat, n = m := ⟨n.toNat, by omega⟩
  refine ⟨h1, h2, h3, by omega, ?_⟩
  have e2 : ((2 : Int) ^ m) = ((2 ^ m : Nat) : Int) := by simp
  rw [Int.toNat_natCast, e2]
  have hu := used_lt7 l
  have : used l < 2 ^ m := by
    by_cases h : m ≤ 7 * run l
    · refine low_of_bits (used l) m (7 * run l) h hu (fun j hj hjm => ?_)
      have := hb j (by omega) hjm
      rw [int_nat_bit] at this
      omega
    · have : (2 : Nat) ^ (7 * run l) ≤ 2 ^ m := Nat.pow_le_pow_right (by decide) (by omega)
      omega
  omega
theorem above_sused {l : List UInt8} (b : Nat) : (sused l / 2 ^ b = 0 ∨ sused l / 2 ^ b = -1) ↔ (-(2 ^ b) ≤ sused l ∧ sused l < 2 ^ b) := above_iff _ _ (Int.pow_pos (by decide))
theorem okS_bit {l : List UInt8} {n : Int} {a : Nat} (h : n ≤ a) (hb : sused l / 2 ^ a % 2 ≠ sused l / 2 ^ (n - 1).toNat % 2) : okS l n = false := by
  unfold okS; rw [decide_eq_false_iff_not]
  rintro ⟨h1, h2, _, _, h5⟩
  exact hb (sbits_of_low _ _ a ((above_sused _).2 h5) (by omega))
theorem okS_all {l : List UInt8} {n : Int} (h1 : 1 ≤ n) (h2 : n ≤ 64) (h3 : 1 ≤ run l) (h4 : 7 * (run l : Int) ≤ n + 6) (hb : ∀ j : Nat, n ≤ j → j < 7 * run l → sused l / 2 ^ j % 2 = sused l / 2 ^ (n - 1).toNat % 2) : okS l n = true := by
  unfold okS; rw [decide_eq_true_iff]
  refine ⟨h1, h2, h3, by omega, (above_sused _).1 ?_⟩
  have hr := sval_range (l.take (run l)) (by rw [length_used]; exact h3)
  rw [← sused_eq, length_used] at hr
  have e2 : ∀ j : Nat, ((2 : Int) ^ j) = ((2 ^ j : Nat) : Int) := fun j => by simp
  by_cases h : n ≤ 7 * (run l : Int)
  · refine slow_of_bits (sused l) (n - 1).toNat (7 * run l - 1) (by omega) ?_ (fun j hj hjm => hb j (by omega) (by omega))
    rw [above_sused, e2]; exact hr
  · rw [above_sused, e2]
    have : (2 : Nat) ^ (7 * run l - 1) ≤ 2 ^ (n - 1).toNat := Nat.pow_le_pow_right (by decide) (by omega)
    omega
theorem okU_run {l : List UInt8} {n : Int} (h : run l = 0 ∨ (n + 6) / 7 < (run l : Int)) : okU l n = false := by
  unfold okU; rw [decide_eq_false_iff_not]; omega
theorem okS_run {l : List UInt8} {n : Int} (h : run l = 0 ∨ (n + 6) / 7 < (run l : Int)) : okS l n = false := by
  unfold okS; rw [decide_eq_false_iff_not]; omega
/-- One bit more, from above. -/
theorem more_bits (x : Int) (t : Nat) (ht : t < 64) : (x / 2 ^ (63 - t)) % 2 ^ (t + 1) = 2 * (x / 2 ^ (64 - t) % 2 ^ t) + x / 2 ^ (63 - t) % 2 := by
  have h1 : x / 2 ^ (64 - t) = x / 2 ^ (63 - t) / 2 := by
    rw [show 64 - t = (63 - t) + 1 by omega, Int.pow_succ, Int.ediv_ediv_of_nonneg]
    exact Int.pow_nonneg (by decide)
  rw [h1]
  generalize x / 2 ^ (63 - t) = y
  have hP : (0 : Int) < 2 ^ t := Int.pow_pos (by decide)
  rw [Int.pow_succ]
  generalize (2 : Int) ^ t = P at *
  have a1 := Int.mul_ediv_add_emod y 2
  have a2 := Int.mul_ediv_add_emod (y / 2) P
  have a3 := Int.emod_nonneg (y / 2) (show P ≠ 0 by omega)
  have a4 := Int.emod_lt_of_pos (y / 2) hP
  have e : y = (2 * (y / 2 % P) + y % 2) + (P * 2) * (y / 2 / P) := by
    rw [Int.mul_assoc, Int.mul_left_comm]
    omega
  conv => lhs; rw [e]
  rw [Int.add_mul_emod_self_left, Int.emod_eq_of_lt (by omega) (by omega)]
theorem bits_bound (x : Int) (t : Nat) (ht : t < 64) : 0 ≤ x / 2 ^ (64 - t) % 2 ^ t ∧ x / 2 ^ (64 - t) % 2 ^ t ≤ 9223372036854775807 := by
  have hP : (0 : Int) < 2 ^ t := Int.pow_pos (by decide)
  have h1 := Int.emod_nonneg (x / 2 ^ (64 - t)) (show (2 : Int) ^ t ≠ 0 by omega)
  have h2 := Int.emod_lt_of_pos (x / 2 ^ (64 - t)) hP
  have e2 : ((2 : Int) ^ t) = ((2 ^ t : Nat) : Int) := by simp
  have h3 : (2 : Nat) ^ t ≤ 2 ^ 63 := Nat.pow_le_pow_right (by decide) (by omega)
  have h4 : (2 : Nat) ^ 63 = 9223372036854775808 := rfl
  rw [e2] at h2 h1 ⊢
  omega
end Leb
/-
  Plain mathematics of numbers of variable length: their first bytes, and when these are the fewest.
-/
namespace Leb
open Go Go.RowKit
/-- The first k bytes of a number, each going on. -/
def pre : Int → Nat → List UInt8
  | _, 0 => []
  | x, k + 1 => UInt8.ofNat ((x % 128).toNat + 128) :: pre (x / 128) k
theorem pre_length : ∀ (k : Nat) (x : Int), (pre x k).length = k
  | 0, _ => rfl
  | k + 1, x => by simp [pre, pre_length k]
theorem pre_snoc : ∀ (k : Nat) (x : Int), pre x (k + 1) = pre x k ++ [UInt8.ofNat ((x / 128 ^ k % 128).toNat + 128)]
  | 0, x => by simp [pre]
  | k + 1, x => by
    rw [pre, pre_snoc k (x / 128), pre, List.cons_append, Int.ediv_ediv_of_nonneg (by decide), Int.pow_succ, Int.mul_comm 128]
theorem run_pre : ∀ (k : Nat) (x : Int) (b : UInt8) (r : List UInt8), b.toNat < 128 → run (pre x k ++ b :: r) = k + 1
  | 0, x, b, r, hb => by simp [pre, run, hb]
  | k + 1, x, b, r, hb => by
    rw [pre, List.cons_append, run, byte_of _ (by omega), if_neg (by omega), run_pre k _ b r hb, if_neg (by omega)]
theorem val_pre : ∀ (k : Nat) (x : Int) (b : UInt8), b.toNat < 128 → (val (pre x k ++ [b]) : Int) = x % 128 ^ k + 128 ^ k * (b.toNat : Int)
  | 0, x, b, hb => by simp [pre, val]; omega
  | k + 1, x, b, hb => by
    rw [pre, List.cons_append, val, byte_of _ (by omega)]
    have ih := val_pre k (x / 128) b hb
    have e := emod_two x (128 ^ k) (Int.pow_pos (by decide))
    rw [Int.pow_succ, e]
    have e3 : (128 : Int) ^ k * 128 * (b.toNat : Int) = 128 * (128 ^ k * (b.toNat : Int)) := by rw [Int.mul_comm ((128 : Int) ^ k) 128, Int.mul_assoc]
    rw [e3]
    generalize (128 : Int) ^ k * (b.toNat : Int) = q at *
    generalize x / 128 % 128 ^ k = s at *
    omega
theorem pre_congr : ∀ (k : Nat) (x y : Int), x % 128 ^ k = y % 128 ^ k → pre x k = pre y k
  | 0, _, _, _ => rfl
  | k + 1, x, y, h => by
    rw [Int.pow_succ, emod_two x _ (Int.pow_pos (by decide)), emod_two y _ (Int.pow_pos (by decide))] at h
    have hx0 := Int.emod_nonneg (x / 128) (show (128 : Int) ^ k ≠ 0 from Int.ne_of_gt (Int.pow_pos (by decide)))
    have hy0 := Int.emod_nonneg (y / 128) (show (128 : Int) ^ k ≠ 0 from Int.ne_of_gt (Int.pow_pos (by decide)))
    have h1 : x % 128 = y % 128 := by omega
    have h2 : x / 128 % 128 ^ k = y / 128 % 128 ^ k := by omega
    rw [pre, pre, h1, pre_congr k _ _ h2]
theorem encU_pre : ∀ (k x : Nat), x < 128 ^ (k + 1) → (k = 0 ∨ 128 ^ k ≤ x) → encU x = pre (x : Int) k ++ [UInt8.ofNat (x / 128 ^ k)]
  | 0, x, h, _ => by
    rw [encU_small (by simpa using h)]; simp [pre]
  | k + 1, x, h, h2 => by
    have h3 : 128 ^ (k + 1) ≤ x := by omega
    rw [Nat.pow_succ] at h
    have hp : 1 ≤ 128 ^ k := Nat.pow_pos (by decide)
    have h128 : 128 ≤ x := by rw [Nat.pow_succ] at h3; omega
    rw [encU_big h128, pre, List.cons_append]
    have ih := encU_pre k (x / 128) (by omega) (by
      right
      rw [Nat.pow_succ] at h3
      omega)
    rw [ih]
    have e1 : ((x : Int) % 128).toNat = x % 128 := by omega
    have e2 : ((x : Int) / 128) = ((x / 128 : Nat) : Int) := by omega
    rw [e1, e2, Nat.div_div_eq_div_mul, Nat.pow_succ, Nat.mul_comm 128]
theorem encS_pre : ∀ (k : Nat) (x : Int), -(64 * 128 ^ k) ≤ x → x < 64 * 128 ^ k → (k = 0 ∨ ¬ (-(64 * 128 ^ (k - 1)) ≤ x ∧ x < 64 * 128 ^ (k - 1))) → encS x = pre x k ++ [UInt8.ofNat (x / 128 ^ k % 128).toNat]
  | 0, x, h, h1, _ => by
    rw [encS_small (by simp at h h1; omega)]; simp [pre]
  | k + 1, x, h, h1, h2 => by
    rw [Nat.add_sub_cancel] at h2
    have hp : (1 : Int) ≤ 128 ^ k := Int.pow_pos (by decide)
    have hbig : ¬ (-64 ≤ x ∧ x ≤ 63) := by omega
    rw [Int.pow_succ] at h h1
    rw [encS_big hbig, pre, List.cons_append]
    have ih := encS_pre k (x / 128) (by omega) (by omega) (by
      rcases Nat.eq_zero_or_pos k with hk | hk
      · left; exact hk
      · right
        obtain ⟨j, rfl⟩ : ∃ j, k = j + 1 := ⟨k - 1, by omega⟩
        rw [Nat.add_sub_cancel]
        rw [Int.pow_succ] at h2
        omega)
    rw [ih, Int.ediv_ediv_of_nonneg (by decide), Int.pow_succ, Int.mul_comm 128]
end Leb
/-
  Plain mathematics of numbers of variable length: a number in n bytes; when that is the number, and when these are the fewest.
-/
namespace Leb
open Go Go.RowKit
/-- The last byte of n bytes. -/
def lastB (X n : Nat) (sg : Bool) : Nat := if n = 10 ∧ sg = true ∧ X / 128 ^ 9 % 128 = 1 then 127 else X / 128 ^ (n - 1) % 128
/-- A number's lowest bits, in n bytes. -/
def allB (X n : Nat) (sg : Bool) : List UInt8 := pre (X : Int) (n - 1) ++ [UInt8.ofNat (lastB X n sg)]
theorem lastB_lt (X n : Nat) (sg : Bool) : lastB X n sg < 128 := by unfold lastB; split <;> omega
theorem allB_length (X n : Nat) (sg : Bool) (h : 1 ≤ n) : (allB X n sg).length = n := by
  unfold allB; rw [List.length_append, pre_length]; simp; omega
theorem run_allB (X n : Nat) (sg : Bool) (h : 1 ≤ n) : run (allB X n sg) = n := by
  unfold allB
  have hb := lastB_lt X n sg
  rw [run_pre _ _ _ [] (by rw [byte_of _ (by omega)]; exact hb)]
  omega
theorem emod_mul (n a b : Int) (ha : 0 < a) (hb : 0 < b) : n % (a * b) = n % a + a * (n / a % b) := by
  have h1 := Int.mul_ediv_add_emod n a
  have h2 := Int.mul_ediv_add_emod (n / a) b
  have h3 := Int.emod_nonneg (n / a) (show b ≠ 0 by omega)
  have h4 := Int.emod_lt_of_pos (n / a) hb
  have h5 := Int.emod_nonneg n (show a ≠ 0 by omega)
  have h6 := Int.emod_lt_of_pos n ha
  have e : n = (n % a + a * (n / a % b)) + (a * b) * (n / a / b) := by
    rw [Int.mul_assoc]
    have : a * (n / a) = a * (b * (n / a / b)) + a * (n / a % b) := by rw [← Int.mul_add, h2]
    omega
  conv => lhs; rw [e]
  have h7 : a * (n / a % b) ≤ a * (b - 1) := Int.mul_le_mul_of_nonneg_left (by omega) (by omega)
  have h8 : 0 ≤ a * (n / a % b) := Int.mul_nonneg (by omega) h3
  rw [Int.mul_sub, Int.mul_one] at h7
  rw [Int.add_mul_emod_self_left, Int.emod_eq_of_lt (by omega) (by omega)]
theorem lastB_low (X n : Nat) (sg : Bool) (h : n ≤ 9 ∨ sg = false) : lastB X n sg = X / 128 ^ (n - 1) % 128 := by
  unfold lastB
  rw [if_neg]
  rintro ⟨h1, h2, _⟩
  rcases h with h | h
  · omega
  · rw [h] at h2; exact absurd h2 (by simp)
theorem val_allB (X n : Nat) (sg : Bool) (h1 : 1 ≤ n) (h : n ≤ 9 ∨ sg = false) : val (allB X n sg) = X % 128 ^ n := by
  obtain ⟨k, rfl⟩ : ∃ k, n = k + 1 := ⟨n - 1, by omega⟩
  have hb := lastB_lt X (k + 1) sg
  unfold allB
  have hv := val_pre k (X : Int) (UInt8.ofNat (lastB X (k + 1) sg)) (by rw [byte_of _ (by omega)]; exact hb)
  rw [byte_of _ (by omega), lastB_low X (k + 1) sg h] at hv
  rw [Nat.add_sub_cancel] at hv ⊢
  have e : (128 : Int) ^ k = ((128 ^ k : Nat) : Int) := by simp
  have e2 : ((X / 128 ^ k % 128 : Nat) : Int) = (X : Int) / (128 : Int) ^ k % 128 := by simp
  rw [e2] at hv
  rw [← emod_mul (X : Int) (128 ^ k) 128 (Int.pow_pos (by decide)) (by decide), ← Int.pow_succ] at hv
  rw [lastB_low X (k + 1) sg h, Nat.add_sub_cancel]
  have e3 : (X : Int) % 128 ^ (k + 1) = ((X % 128 ^ (k + 1) : Nat) : Int) := by simp
  rw [e3] at hv
  omega
theorem used_allB (X n : Nat) (sg : Bool) (h1 : 1 ≤ n) (h : n ≤ 9 ∨ sg = false) : used (allB X n sg) = X % 128 ^ n := by
  unfold used
  rw [run_allB X n sg h1]
  have hl := allB_length X n sg h1
  rw [List.take_of_length_le (by omega), val_allB X n sg h1 h]
theorem pow9 (n : Nat) (h : n ≤ 9) : 128 ^ n ≤ 9223372036854775808 := by
  have := Nat.pow_le_pow_right (n := 128) (by decide) h
  have e : 128 ^ 9 = 9223372036854775808 := by decide
  omega
theorem okU_allB (X n : Nat) (h1 : 1 ≤ n) (h9 : n ≤ 9) : okU (allB X n false) 64 = true := by
  unfold okU
  rw [decide_eq_true_iff, run_allB X n false h1, used_allB X n false h1 (.inr rfl)]
  have hp := pow9 n h9
  have hm : X % 128 ^ n < 128 ^ n := Nat.mod_lt _ (Nat.pow_pos (by decide))
  have e : ((2 : Int) ^ (64 : Int).toNat) = 18446744073709551616 := by decide
  rw [e]
  refine ⟨by decide, by decide, by omega, by omega, by omega⟩
/-- Of n bytes, n from 1 to 9, the document's Take gives the number back, or another one. -/
theorem numU_allB (X n : Nat) (h1 : 1 ≤ n) (h9 : n ≤ 9) : numU (allB X n false) 64 = ((X % 128 ^ n : Nat) : Int) ∧ cntU (allB X n false) 64 = (n : Int) := by
  unfold numU cntU
  rw [okU_allB X n h1 h9, if_pos rfl, if_pos rfl, used_allB X n false h1 (.inr rfl), run_allB X n false h1]
  exact ⟨rfl, rfl⟩
theorem encU_allB (X n : Nat) (h1 : 1 ≤ n) (h : X < 128 ^ n) (h2 : n = 1 ∨ 128 ^ (n - 1) ≤ X) : encU X = allB X n false := by
  obtain ⟨k, rfl⟩ : ∃ k, n = k + 1 := ⟨n - 1, by omega⟩
  rw [Nat.add_sub_cancel] at h2
  rw [encU_pre k X h (by omega), allB, lastB_low _ _ _ (.inr rfl), Nat.add_sub_cancel]
  have : X / 128 ^ k < 128 := by
    rw [Nat.div_lt_iff_lt_mul (Nat.pow_pos (by decide)), Nat.mul_comm, ← Nat.pow_succ]; exact h
  rw [Nat.mod_eq_of_lt this]
/-- A number that n bytes can hold, signed. -/
def inS (N : Int) (n : Nat) : Prop := -(64 * 128 ^ (n - 1)) ≤ N ∧ N < 64 * 128 ^ (n - 1)
theorem wrap_mod (X n : Nat) (h : n ≤ 9) : wrap64 (X : Int) % ((128 ^ n : Nat) : Int) = (X : Int) % ((128 ^ n : Nat) : Int) := by
  have hd : 128 ^ n ∣ 18446744073709551616 := by
    rw [pow128, show (18446744073709551616 : Nat) = 2 ^ 64 from rfl]; exact Nat.pow_dvd_pow 2 (by omega)
  obtain ⟨q, hq⟩ := hd
  have e : wrap64 (X : Int) = (X : Int) + ((128 ^ n : Nat) : Int) * ((q : Int) * (-(((X : Int) + 9223372036854775808) / 18446744073709551616))) := by
    rw [← Int.mul_assoc, ← Int.natCast_mul, ← hq]
    unfold wrap64
    omega
  rw [e, Int.add_mul_emod_self_left]
theorem sused_allB (X n : Nat) (h1 : 1 ≤ n) (h9 : n ≤ 9) : -(64 * 128 ^ (n - 1)) ≤ sused (allB X n true) ∧ sused (allB X n true) < 64 * 128 ^ (n - 1) ∧ sused (allB X n true) % ((128 ^ n : Nat) : Int) = (X : Int) % ((128 ^ n : Nat) : Int) := by
  unfold sused
  rw [run_allB X n true h1, used_allB X n true h1 (.inl h9)]
  have hm : X % 128 ^ n < 128 ^ n := Nat.mod_lt _ (Nat.pow_pos (by decide))
  have e1 : (128 : Nat) ^ n = 2 * (64 * 128 ^ (n - 1)) := by
    obtain ⟨k, rfl⟩ : ∃ k, n = k + 1 := ⟨n - 1, by omega⟩
    rw [Nat.add_sub_cancel, Nat.pow_succ]; omega
  have e2 : (64 * (128 : Int) ^ (n - 1)) = ((64 * 128 ^ (n - 1) : Nat) : Int) := by simp
  have e3 : ((X % 128 ^ n : Nat) : Int) = (X : Int) % ((128 ^ n : Nat) : Int) := by simp
  rw [e2]
  generalize 64 * 128 ^ (n - 1) = H at *
  generalize 128 ^ n = P at *
  have h5 := Int.emod_emod_of_dvd (X : Int) (Int.dvd_refl (P : Int))
  split
  · refine ⟨by omega, by omega, ?_⟩
    rw [e3]; exact h5
  · refine ⟨by omega, by omega, ?_⟩
    rw [Int.sub_emod_right, e3]; exact h5
theorem pow9i (n : Nat) (h1 : 1 ≤ n) (h : n ≤ 9) : (64 * (128 : Int) ^ (n - 1)) ≤ 4611686018427387904 := by
  have := pow9 n h
  have e1 : (128 : Nat) ^ n = 2 * (64 * 128 ^ (n - 1)) := by
    obtain ⟨k, rfl⟩ : ∃ k, n = k + 1 := ⟨n - 1, by omega⟩
    rw [Nat.add_sub_cancel, Nat.pow_succ]; omega
  have e2 : (64 * (128 : Int) ^ (n - 1)) = ((64 * 128 ^ (n - 1) : Nat) : Int) := by simp
  rw [e2]; omega
theorem okS_allB (X n : Nat) (h1 : 1 ≤ n) (h9 : n ≤ 9) : okS (allB X n true) 64 = true := by
  unfold okS
  obtain ⟨a, b, _⟩ := sused_allB X n h1 h9
  have hp := pow9i n h1 h9
  rw [decide_eq_true_iff, run_allB X n true h1]
  have e : ((2 : Int) ^ ((64 : Int) - 1).toNat) = 9223372036854775808 := by decide
  rw [e]
  refine ⟨by decide, by decide, by omega, by omega, by omega, by omega⟩
/-- Two numbers in one range of P numbers that are alike modulo P are one. -/
theorem same_mod (x y P H : Int) (hP : P = 2 * H) (h : x % P = y % P) (a : -H ≤ x) (b : x < H) (c : -H ≤ y) (d : y < H) : x = y := by
  have h1 := Int.mul_ediv_add_emod x P
  have h2 := Int.mul_ediv_add_emod y P
  have h3 : x - y = P * (x / P - y / P) := by rw [Int.mul_sub]; omega
  by_cases hz : x / P - y / P = 0
  · rw [hz] at h3; omega
  · exfalso
    rcases Int.lt_or_gt_of_ne hz with hlt | hgt
    · have : P * (x / P - y / P) ≤ P * (-1) := Int.mul_le_mul_of_nonneg_left (by omega) (by omega)
      omega
    · have : P * 1 ≤ P * (x / P - y / P) := Int.mul_le_mul_of_nonneg_left (by omega) (by omega)
      omega
theorem wrap_emod (X : Nat) (h : X < 18446744073709551616) : wrap64 (X : Int) % 18446744073709551616 = (X : Int) := by
  unfold wrap64; omega
theorem wrap_of_emod (X : Nat) (S : Int) (h : S % 18446744073709551616 = (X : Int)) (a : -9223372036854775808 ≤ S) (b : S ≤ 9223372036854775807) : wrap64 (X : Int) = S := by
  unfold wrap64; omega
theorem numS_allB (X n : Nat) (hX : X < 18446744073709551616) (h1 : 1 ≤ n) (h9 : n ≤ 9) :
    (numS (allB X n true) 64 % 18446744073709551616 = (X : Int) ↔ inS (wrap64 (X : Int)) n) ∧ cntS (allB X n true) 64 = (n : Int) := by
  unfold numS cntS
  rw [okS_allB X n h1 h9, if_pos rfl, if_pos rfl, run_allB X n true h1]
  refine ⟨?_, rfl⟩
  obtain ⟨a, b, c⟩ := sused_allB X n h1 h9
  have hp := pow9i n h1 h9
  have hw := wrap_mod X n h9
  have e1 : (((128 : Nat) ^ n : Nat) : Int) = 2 * (64 * 128 ^ (n - 1)) := by
    have e1 : (128 : Nat) ^ n = 2 * (64 * 128 ^ (n - 1)) := by
      obtain ⟨k, rfl⟩ : ∃ k, n = k + 1 := ⟨n - 1, by omega⟩
      rw [Nat.add_sub_cancel, Nat.pow_succ]; omega
    rw [e1]; simp
  unfold inS
  generalize (64 * (128 : Int) ^ (n - 1)) = H at *
  generalize sused (allB X n true) = S at *
  constructor
  · intro h
    rw [wrap_of_emod X S h (by omega) (by omega)]; exact ⟨a, b⟩
  · rintro ⟨h2, h3⟩
    have : S = wrap64 (X : Int) := same_mod S (wrap64 (X : Int)) _ H e1 (c.trans hw.symm) a b h2 h3
    rw [this]; exact wrap_emod X hX
theorem encS_allB (X n : Nat) (hX : X < 18446744073709551616) (h1 : 1 ≤ n) (h10 : n ≤ 10) (h : n = 10 ∨ inS (wrap64 (X : Int)) n) (h2 : n = 1 ∨ ¬ inS (wrap64 (X : Int)) (n - 1)) : encS (wrap64 (X : Int)) = allB X n true := by
  obtain ⟨k, rfl⟩ : ∃ k, n = k + 1 := ⟨n - 1, by omega⟩
  rw [Nat.add_sub_cancel] at h2
  have hN : -9223372036854775808 ≤ wrap64 (X : Int) ∧ wrap64 (X : Int) ≤ 9223372036854775807 := by unfold wrap64; omega
  have hrange : -(64 * 128 ^ k) ≤ wrap64 (X : Int) ∧ wrap64 (X : Int) < 64 * 128 ^ k := by
    rcases h with h | h
    · obtain rfl : k = 9 := by omega
      have e : (64 * (128 : Int) ^ 9) = 590295810358705651712 := by decide
      rw [e]; omega
    · exact h
  rw [encS_pre k _ hrange.1 hrange.2 (by
    rcases h2 with h2 | h2
    · left; omega
    · rcases Nat.eq_zero_or_pos k with h3 | h3
      · left; exact h3
      · right; exact h2)]
  have e0 : ∀ j : Nat, (128 : Int) ^ j = ((128 ^ j : Nat) : Int) := fun j => by simp
  have hpre : pre (wrap64 (X : Int)) k = pre (X : Int) k := pre_congr k _ _ (by rw [e0]; exact wrap_mod X k (by omega))
  unfold allB
  rw [Nat.add_sub_cancel, hpre]
  congr 3
  by_cases h9 : k ≤ 8
  · rw [lastB_low X (k + 1) true (.inl (by omega)), Nat.add_sub_cancel]
    have hw := wrap_mod X (k + 1) (by omega)
    rw [← e0, Int.pow_succ, emod_mul _ _ _ (Int.pow_pos (by decide)) (by decide), emod_mul _ _ _ (Int.pow_pos (by decide)) (by decide)] at hw
    have hw2 := wrap_mod X k (by omega)
    rw [← e0] at hw2
    rw [hw2] at hw
    have hp : (0 : Int) < 128 ^ k := Int.pow_pos (by decide)
    have h5 : wrap64 (X : Int) / 128 ^ k % 128 = (X : Int) / 128 ^ k % 128 := Int.eq_of_mul_eq_mul_left (Int.ne_of_gt hp) (by omega)
    rw [h5]
    have e2 : ((X / 128 ^ k % 128 : Nat) : Int) = (X : Int) / (128 : Int) ^ k % 128 := by simp
    rw [← e2]; rfl
  · obtain rfl : k = 9 := by omega
    have e : ((128 : Int) ^ 9) = 9223372036854775808 := by decide
    have e' : ((128 : Nat) ^ 9) = 9223372036854775808 := by decide
    unfold lastB
    rw [e, Nat.add_sub_cancel, e']
    by_cases hx : X < 9223372036854775808
    · have : wrap64 (X : Int) = X := by unfold wrap64; omega
      rw [this, if_neg (by omega)]; omega
    · have : wrap64 (X : Int) = (X : Int) - 18446744073709551616 := by unfold wrap64; omega
      rw [this, if_pos (by refine ⟨rfl, rfl, by omega⟩)]; omega
end Leb
/-
  Plain mathematics of numbers of variable length: what was taken, taken again and appended.
-/
namespace Leb
open Go Go.RowKit
theorem run_take : ∀ (l : List UInt8), 1 ≤ run l → run (l.take (run l)) = run l
  | [], h => by simp [run] at h
  | b :: r, h => by
    by_cases hb : b.toNat < 128
    · have e : run (b :: r) = 1 := by rw [run, if_pos hb]
      rw [e]; simp [hb, run]
    · by_cases hr : run r = 0
      · rw [run, if_neg hb, if_pos hr] at h; omega
      · have e : run (b :: r) = run r + 1 := by rw [run, if_neg hb, if_neg hr]
        rw [e, List.take_succ_cons, run, if_neg hb, run_take r (by omega), if_neg hr]
theorem used_take (l : List UInt8) (h : 1 ≤ run l) : used (l.take (run l)) = used l := by
  unfold used
  rw [run_take l h, List.take_take, Nat.min_self]
theorem sused_take (l : List UInt8) (h : 1 ≤ run l) : sused (l.take (run l)) = sused l := by
  unfold sused
  rw [used_take l h, run_take l h]
theorem okU_run1 {l : List UInt8} {b : Int} (h : okU l b = true) : 1 ≤ run l ∧ 1 ≤ b ∧ b ≤ 64 := by
  unfold okU at h; rw [decide_eq_true_iff] at h; exact ⟨h.2.2.1, h.1, h.2.1⟩
theorem okS_run1 {l : List UInt8} {b : Int} (h : okS l b = true) : 1 ≤ run l ∧ 1 ≤ b ∧ b ≤ 64 := by
  unfold okS at h; rw [decide_eq_true_iff] at h; exact ⟨h.2.2.1, h.1, h.2.1⟩
theorem okU_take {l : List UInt8} {b : Int} (h : 1 ≤ run l) : okU (l.take (run l)) b = okU l b := by
  unfold okU; rw [run_take l h, used_take l h]
theorem okS_take {l : List UInt8} {b : Int} (h : 1 ≤ run l) : okS (l.take (run l)) b = okS l b := by
  unfold okS; rw [run_take l h, sused_take l h]
theorem shortU {l : List UInt8} (h : 1 ≤ run l) : (encU (used l)).length ≤ run l := encU_le (run l) (used l) h (used_lt7 l)
theorem shortS {l : List UInt8} (h : 1 ≤ run l) : (encS (sused l)).length ≤ run l := by
  have hr := sval_range (l.take (run l)) (by rw [length_used]; exact h)
  rw [← sused_eq, length_used] at hr
  have e : (2 : Nat) ^ (7 * run l - 1) = 64 * 128 ^ (run l - 1) := by
    obtain ⟨k, hk⟩ : ∃ k, run l = k + 1 := ⟨run l - 1, by omega⟩
    rw [hk, Nat.add_sub_cancel, pow128, show 7 * (k + 1) - 1 = 6 + 7 * k by omega, Nat.pow_add]
  rw [e] at hr
  have := encS_le (run l - 1) (sused l) hr.1 hr.2
  omega
theorem fitsU {l : List UInt8} {b : Int} (h : okU l b = true) : (used l : Int) / 2 ^ b.toNat = 0 := by
  unfold okU at h; rw [decide_eq_true_iff] at h
  exact Int.ediv_eq_zero_of_lt (by omega) h.2.2.2.2
theorem fitsS {l : List UInt8} {b : Int} (h : okS l b = true) : sused l / 2 ^ (b - 1).toNat = 0 ∨ sused l / 2 ^ (b - 1).toNat = -1 := by
  unfold okS at h; rw [decide_eq_true_iff] at h
  exact (above_sused _).2 h.2.2.2.2
end Leb
/-
  Plain mathematics of numbers of variable length: what was appended is taken by as many bits as it has, by fewer not; cut it is not taken.
-/
namespace Leb
open Go Go.RowKit
theorem bitLenAux_lt : ∀ (f x k : Nat), x < 2 ^ f → Lib.bitLenAux f x ≤ k → x < 2 ^ k
  | 0, x, k, h, _ => by
    have : x = 0 := by simp at h; omega
    subst this; exact Nat.pow_pos (by decide)
  | f + 1, x, k, h, hk => by
    unfold Lib.bitLenAux at hk
    by_cases h0 : x = 0
    · subst h0; exact Nat.pow_pos (by decide)
    · rw [if_neg h0] at hk
      obtain ⟨j, rfl⟩ : ∃ j, k = j + 1 := ⟨k - 1, by omega⟩
      rw [Nat.pow_succ] at h ⊢
      have := bitLenAux_lt f (x / 2) j (by omega) (by omega)
      omega
theorem bitLen_iff (x k : Nat) (hx : x < 18446744073709551616) (hk : k ≤ 64) : Lib.bitLen x ≤ k ↔ x < 2 ^ k :=
  ⟨fun h => bitLenAux_lt 64 x k hx h, fun h => Lib.bitLen_le x k hk h⟩
theorem bitLen_64 (x : Nat) (hx : x < 18446744073709551616) : Lib.bitLen x ≤ 64 := Lib.bitLen_le x 64 (Nat.le_refl _) hx
theorem run_take_lt : ∀ (l : List UInt8) (i : Nat), i < run l → run (l.take i) = 0
  | [], i, h => by simp [run] at h
  | b :: r, 0, h => by simp [run]
  | b :: r, i + 1, h => by
    rw [List.take_succ_cons]
    unfold run at h ⊢
    by_cases hb : b.toNat < 128
    · rw [if_pos hb] at h; omega
    · rw [if_neg hb] at h ⊢
      by_cases hr : run r = 0
      · rw [if_pos hr] at h; omega
      · rw [if_neg hr] at h
        rw [run_take_lt r i (by omega), if_pos rfl]
theorem okU_cut {X i : Nat} (h : i < (encU X).length) (b : Int) : okU ((encU X).take i) b = false := by
  apply okU_run
  left
  apply run_take_lt
  have := run_encU X []
  rw [List.append_nil] at this
  omega
/-- What was appended is taken by as many bits as it has. -/
theorem okU_encU (X : Nat) (r : List UInt8) (b : Int) (hX : X < 18446744073709551616) (h1 : 1 ≤ b) (h64 : b ≤ 64) : okU (encU X ++ r) b = decide (max (Lib.bitLen X : Int) 1 ≤ b) := by
  obtain ⟨m, rfl⟩ : ∃ m : Nat, b = m := ⟨b.toNat, by omega⟩
  have hi := bitLen_iff X m hX (by omega)
  have e2 : ((2 : Int) ^ (m : Int).toNat) = ((2 ^ m : Nat) : Int) := by simp
  unfold okU
  rw [Bool.eq_iff_iff, decide_eq_true_iff, decide_eq_true_iff, run_encU, used_encU, e2]
  have hp := encU_pos X
  constructor
  · rintro ⟨_, _, _, _, h5⟩
    have := hi.2 (by omega)
    omega
  · intro h
    have h2 : X < 2 ^ m := hi.1 (by omega)
    have h3 : (2 : Nat) ^ m ≤ 2 ^ (7 * ((m + 6) / 7)) := Nat.pow_le_pow_right (by decide) (by omega)
    have h4 := encU_le ((m + 6) / 7) X (by omega) (by omega)
    exact ⟨h1, h64, hp, by omega, by omega⟩
/-- A signed number's bits, without the sign. -/
def mag (N : Int) : Nat := if 0 ≤ N then N.toNat else (-N - 1).toNat
theorem mag_iff (N : Int) (k : Nat) : mag N < 2 ^ k ↔ (-((2 ^ k : Nat) : Int) ≤ N ∧ N < ((2 ^ k : Nat) : Int)) := by
  have hp : 0 < (2 : Nat) ^ k := Nat.pow_pos (by decide)
  generalize (2 : Nat) ^ k = P at *
  unfold mag
  split <;> omega
theorem mag_lt (N : Int) (h0 : -9223372036854775808 ≤ N) (h1 : N ≤ 9223372036854775807) : mag N < 9223372036854775808 := by
  unfold mag; split <;> omega
theorem okS_encS (N : Int) (r : List UInt8) (b : Int) (hN0 : -9223372036854775808 ≤ N) (hN1 : N ≤ 9223372036854775807) (h1 : 1 ≤ b) (h64 : b ≤ 64) : okS (encS N ++ r) b = decide ((Lib.bitLen (mag N) : Int) + 1 ≤ b) := by
  obtain ⟨m, rfl⟩ : ∃ m : Nat, b = (m : Int) + 1 := ⟨(b - 1).toNat, by omega⟩
  have hm := mag_lt N hN0 hN1
  have hi := bitLen_iff (mag N) m (by omega) (by omega)
  have e2 : ((2 : Int) ^ ((m : Int) + 1 - 1).toNat) = ((2 ^ m : Nat) : Int) := by
    rw [show ((m : Int) + 1 - 1).toNat = m by omega]; simp
  unfold okS
  rw [Bool.eq_iff_iff, decide_eq_true_iff, decide_eq_true_iff, run_encS, sused_encS, e2]
  have hp := encS_pos N
  have hq := mag_iff N m
  constructor
  · rintro ⟨_, _, _, _, h5⟩
    have := hi.2 (hq.2 h5)
    omega
  · intro h
    have h2 := hq.1 (hi.1 (by omega))
    have e3 : (2 : Nat) ^ (6 + 7 * (m / 7)) = 64 * 128 ^ (m / 7) := by rw [Nat.pow_add, pow128]
    have h3 : (2 : Nat) ^ m ≤ 2 ^ (6 + 7 * (m / 7)) := Nat.pow_le_pow_right (by decide) (by omega)
    have h4 := encS_le (m / 7) N (by omega) (by omega)
    exact ⟨h1, h64, hp, by omega, h2⟩
end Leb
