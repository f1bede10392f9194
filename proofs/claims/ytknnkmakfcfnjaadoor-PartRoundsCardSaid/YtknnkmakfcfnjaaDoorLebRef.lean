/-
  The document's run, most and bit: their contracts, for every slice of bytes.
-/
import Derived.Test.YtknnkmakfcfnjaaDoorLebTk
import Derived.Test.YtknnkmakfcfnjaaDoorLebM
import Derived.Test.YtknnkmakfcfnjaaDoorLebApp
import Derived.OwnWalk
namespace Go.Proofs.YtknnkmakfcfnjaaDoor
open Go.RowKit
theorem half_pow (c : Int) (k : Nat) : c / 2 ^ k / 2 = c / 2 ^ (k + 1) := by
  rw [Int.pow_succ, Int.ediv_ediv_of_nonneg]
  exact Int.pow_nonneg (by decide)
end Go.Proofs.YtknnkmakfcfnjaaDoor
/-
  The document's Take: its contract, of unsigned and of signed numbers: it answers what the plain functions say.
-/
namespace Go.Proofs.YtknnkmakfcfnjaaDoor
open Go.RowKit
theorem ret2i {k : IntKind} {a a' b b' : Int} (h1 : a = a') (h2 : b = b') : Ending.returned (.tuple #[.int k a, .int .i64 b]) = .returned (.tuple #[.int k a', .int .i64 b']) := by rw [h1, h2]
end Go.Proofs.YtknnkmakfcfnjaaDoor
/-
  The document's all: its contract: a number's lowest bits, in n bytes, in a row of the call's own.
-/
namespace Go.Proofs.YtknnkmakfcfnjaaDoor
open Go.RowKit
open Leb (lastB allB lastB_lt)
def partB (X n : Nat) (sg : Bool) (k : Nat) : List UInt8 := if k < n then Leb.pre (X : Int) k else allB X n sg
theorem part_step {X n k q : Nat} {sg : Bool} (h : k + 1 < n) (hq : q = X / 128 ^ k) : bytesOf (partB X n sg (k + 1)) = bytesOf (partB X n sg k) ++ [Value.int .u8 ((q : Int) % 128 + 128)] := by
  have e : ((X : Int) / 128 ^ k % 128).toNat = q % 128 := by
    have : (X : Int) / 128 ^ k = ((X / 128 ^ k : Nat) : Int) := by simp
    rw [this, ← hq]; omega
  unfold partB
  rw [if_pos h, if_pos (by omega), Leb.pre_snoc, bytesOf_append, e, bytesOf_nat (q % 128 + 128) (by omega) ((q : Int) % 128 + 128) (by omega)]
theorem part_last {X k n y : Nat} {sg : Bool} {z : Int} (hn : n = k + 1) (h : lastB X (k + 1) sg = y) (hz : z = (y : Int)) : bytesOf (partB X n sg (k + 1)) = bytesOf (partB X n sg k) ++ [Value.int .u8 z] := by
  subst hn
  have := lastB_lt X (k + 1) sg
  unfold partB
  rw [if_neg (by omega), if_pos (by omega), allB, Nat.add_sub_cancel, bytesOf_append, h, bytesOf_nat y (by omega) z hz]
theorem lastB_plain (X k : Nat) (sg : Bool) (q : Nat) (hq : q = X / 128 ^ k) (h : k = 9 → sg = true → q % 128 ≠ 1) : lastB X (k + 1) sg = q % 128 := by
  unfold lastB
  rw [if_neg, Nat.add_sub_cancel, hq]
  rintro ⟨h1, h2, h3⟩
  obtain rfl : k = 9 := by omega
  exact h rfl h2 (by rw [hq]; exact h3)
theorem lastB_127 (X k q : Nat) (hk : k = 9) (hq : q = X / 128 ^ k) (h : q % 128 = 1) : lastB X (k + 1) true = 127 := by
  subst hk
  unfold lastB
  rw [if_pos ⟨rfl, rfl, by rw [← hq]; exact h⟩]
end Go.Proofs.YtknnkmakfcfnjaaDoor
/-
  The document's Fewest: its contract, of unsigned and of signed numbers.
-/
namespace Go.Proofs.YtknnkmakfcfnjaaDoor
open Go.RowKit
end Go.Proofs.YtknnkmakfcfnjaaDoor
