/-
  Words that the walks over layer 1 share: a slice that reads as bytes; bits of one byte.
-/
import Derived.Test.YtknnkmakfcfnjaaDoorRows
import Derived.Test.YtknnkmakfcfnjaaDoorBytes
import Derived.WalkKit
import Derived.RegionTactic
import Derived.Deep.QuietTactic
import Derived.BigQuiet
import Derived.Below
import Derived.Outline
import Derived.Lib.Hide
import Derived.Test.YtknnkmakfcfnjaaDoorLebM
namespace Go.Proofs.YtknnkmakfcfnjaaDoor
open Go.RowKit
theorem x_top (x : Nat) (h : x ≤ 255) : (bits .and .u8 (x : Int) 128 != 0) = decide (128 ≤ x) := by
  have h1 := u8_and_nat x 128 (by omega) (by decide)
  have h2 : bits .and .u8 (x : Int) 128 = ((x &&& 128 : Nat) : Int) := h1
  rw [h2, show (128 : Nat) = 2 ^ 7 from rfl, nat_bit 7 x]
  by_cases hx : 128 ≤ x
  · have : x / 2 ^ 7 % 2 = 1 := by omega
    rw [this]; simp [hx]
  · have : x / 2 ^ 7 % 2 = 0 := by omega
    rw [this]; simp [hx]
/-- A byte's seven bits laid in above those that stand there. -/
theorem or_u64 (v low s : Nat) (hs : s ≤ 63) (hv : v < 2 ^ s) :
    bits .or .u64 ((v : Int) % 18446744073709551616) (IntKind.u64.wrap ((low : Int) * 2 ^ min s 64)) = ((v + 2 ^ s * low : Nat) : Int) % 18446744073709551616 := by
  have hp : (2 : Nat) ^ s ≤ 2 ^ 63 := Nat.pow_le_pow_right (by decide) hs
  have hv' : v < 18446744073709551616 := Nat.lt_of_lt_of_le hv (Nat.le_trans hp (by decide))
  have e1 : ((v : Int) % 18446744073709551616) = (v : Int) := Int.emod_eq_of_lt (by omega) (by omega)
  have e2 : IntKind.u64.wrap ((low : Int) * 2 ^ min s 64) = ((low * 2 ^ s % 18446744073709551616 : Nat) : Int) := by
    rw [Nat.min_eq_left (by omega)]
    simp [IntKind.wrap, IntKind.bits, IntKind.signed]
  rw [e1, e2, u64_or_nat _ _ hv' (Nat.mod_lt _ (by decide))]
  have hd : (2 : Nat) ^ s ∣ 18446744073709551616 := by
    rw [show (18446744073709551616 : Nat) = 2 ^ 64 from rfl]; exact Nat.pow_dvd_pow 2 (by omega)
  have hm : low * 2 ^ s % 18446744073709551616 % 2 ^ s = 0 := by
    rw [Nat.mod_mod_of_dvd _ hd, Nat.mul_mod_left]
  rw [Nat.or_comm, nat_join s _ v hm hv]
  obtain ⟨q, hq⟩ := hd
  have hmul : low * 2 ^ s % 18446744073709551616 = 2 ^ s * (low % q) := by
    rw [hq, Nat.mul_comm low, Nat.mul_mod_mul_left]
  have hq0 : 0 < q := by
    rcases Nat.eq_zero_or_pos q with h | h
    · subst h; simp at hq
    · exact h
  have hlq : low % q + 1 ≤ q := Nat.mod_lt _ hq0
  have hlt : v + 2 ^ s * (low % q) < 18446744073709551616 := by
    have h3 : 2 ^ s * (low % q + 1) ≤ 2 ^ s * q := Nat.mul_le_mul_left _ hlq
    rw [Nat.mul_add, Nat.mul_one, ← hq] at h3
    omega
  have h5 : (v + 2 ^ s * low) % 18446744073709551616 = v + 2 ^ s * (low % q) := by
    rw [Nat.add_mod, Nat.mul_comm (2 ^ s) low, hmul, Nat.mod_eq_of_lt hv', Nat.mod_eq_of_lt hlt]
  have h6 : ((v + 2 ^ s * low : Nat) : Int) % 18446744073709551616 = (((v + 2 ^ s * low) % 18446744073709551616 : Nat) : Int) := by omega
  rw [h6, h5, hmul, Nat.add_comm]
theorem or_u64' (v x s : Nat) (hs : s ≤ 63) (hv : v < 2 ^ s) :
    bits .or .u64 ((v : Int) % 18446744073709551616) (IntKind.u64.wrap ((x : Int) % 128 * 2 ^ s)) = ((v + 2 ^ s * (x % 128) : Nat) : Int) % 18446744073709551616 := by
  have h := or_u64 v (x % 128) s hs hv
  rw [Nat.min_eq_left (by omega)] at h
  exact h
theorem ret3 {k : IntKind} {a a' b b' : Int} {c c' : Bool} (h1 : a = a') (h2 : b = b') (h3 : c = c') :
    Ending.returned (.tuple #[.int k a, .int .i64 b, .bool c]) = .returned (.tuple #[.int k a', .int .i64 b', .bool c']) := by rw [h1, h2, h3]
theorem x_and (x : Int) (h₀ : 0 ≤ x) (h₁ : x ≤ 255) : bits .and .u8 x 127 = x % 128 := bits_mask .u8 8 (by decide) wraps_u8 7 (by decide) x h₀ (by omega)
end Go.Proofs.YtknnkmakfcfnjaaDoor
/-
  The walks over leb.take at uint64 and its closure; leb.TakeU's contract: for every slice of bytes and every int it answers what the plain functions numU, cntU, okU say, and leaves all memory that was there as it was.
-/
namespace Go.Proofs.YtknnkmakfcfnjaaDoor
open Go.RowKit
end Go.Proofs.YtknnkmakfcfnjaaDoor
/-
  The walks over leb.take at int64 and its closure; leb.TakeS's contract: for every slice of bytes and every int it answers what the plain functions numS, cntS, okS say, and leaves all memory that was there as it was.
-/
namespace Go.Proofs.YtknnkmakfcfnjaaDoor
open Go.RowKit
theorem top_wrap (low : Nat) (h1 : (low : Int) ≤ 127) : wrap64 (IntKind.i8.wrap ((low : Int) * 2) / 2) = Leb.top low := by
  have e : IntKind.i8.wrap ((low : Int) * 2) = if low < 64 then (low : Int) * 2 else (low : Int) * 2 - 256 := by
    simp [IntKind.wrap, IntKind.bits, IntKind.signed]
    omega
  rw [e, Leb.top]
  by_cases h : low < 64
  · rw [if_pos h, if_pos h, IntWalk.wrap64_in _ (by omega)]; omega
  · rw [if_neg h, if_neg h, IntWalk.wrap64_in _ (by omega)]; omega
theorem ret2b {k : IntKind} {a : Int} {c c' : Bool} (h : c = c') : Ending.returned (.tuple #[.int k a, .bool c]) = .returned (.tuple #[.int k a, .bool c']) := by rw [h]
theorem or_dec (a : Int) : (a == 0 || a == -1) = decide (a = 0 ∨ a = -1) := by
  rw [Bool.eq_iff_iff]; simp
theorem or_low (v x s : Nat) (hs : s ≤ 63) (hv : v < 2 ^ s) : bits .or .i64 (wrap64 (v : Int)) (wrap64 ((x : Int) % 128 * 2 ^ s)) = wrap64 ((v + 2 ^ s * (x % 128) : Nat) : Int) := by
  have hp : (2 : Nat) ^ s ≤ 2 ^ 63 := Nat.pow_le_pow_right (by decide) hs
  have hp' : (2 : Nat) ^ 63 = 9223372036854775808 := rfl
  rw [IntWalk.wrap64_in (v : Int) (by omega)]
  have h := Leb.or_i64 v s ((x : Int) % 128) hs hv
  rw [h]
  simp
theorem or_top (v s : Nat) (t : Int) (hs : s ≤ 63) (hv : v < 2 ^ s) : bits .or .i64 (wrap64 (v : Int)) (wrap64 (t * 2 ^ s)) = wrap64 ((v : Int) + ((2 ^ s : Nat) : Int) * t) := by
  have hp : (2 : Nat) ^ s ≤ 2 ^ 63 := Nat.pow_le_pow_right (by decide) hs
  have hp' : (2 : Nat) ^ 63 = 9223372036854775808 := rfl
  rw [IntWalk.wrap64_in (v : Int) (by omega)]
  exact Leb.or_i64 v s t hs hv
end Go.Proofs.YtknnkmakfcfnjaaDoor
