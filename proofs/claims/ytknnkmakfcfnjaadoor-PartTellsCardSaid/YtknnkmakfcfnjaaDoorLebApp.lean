/-
  leb.grown's contract: a copy of the bytes that came in, in a new row of its own; all memory that was there is as it was.
-/
import Derived.Test.YtknnkmakfcfnjaaDoorLebTk
import Derived.Laws.CopyOwn
import Derived.Test.YtknnkmakfcfnjaaDoorLebM
import Derived.OwnWalk
namespace Go.Proofs.YtknnkmakfcfnjaaDoor
open Go.RowKit
end Go.Proofs.YtknnkmakfcfnjaaDoor
/-
  leb.AppendU's contract: the bytes that came in and behind them the fewest bytes of the number, in a row of the call's own; all memory that was there is as it was.
-/
namespace Go.Proofs.YtknnkmakfcfnjaaDoor
open Go.RowKit
theorem and127 (m : Nat) (h : m < 18446744073709551616) : bits .and .u64 (m : Int) 127 = (m : Int) % 128 := by
  have h1 : bits .and .u64 (m : Int) 127 = ((m &&& 127 : Nat) : Int) := u64_and_nat m 127 h (by decide)
  rw [h1, nat_mask7]; omega
theorem or128 (m : Nat) (h : m < 128) : bits .or .u8 (m : Int) 128 = (m : Int) + 128 := by
  have h1 : bits .or .u8 (m : Int) 128 = ((m ||| 128 : Nat) : Int) := u8_or_nat m 128 (by omega) (by decide)
  have h2 : 128 ||| m = 128 + m := nat_join 7 128 m (by decide) (by omega)
  rw [h1, Nat.or_comm, h2]; omega
end Go.Proofs.YtknnkmakfcfnjaaDoor
/-
  leb.AppendS's contract: the bytes that came in and behind them the fewest bytes of the number, in a row of the call's own; all memory that was there is as it was.
-/
namespace Go.Proofs.YtknnkmakfcfnjaaDoor
open Go.RowKit
theorem and127s (m : Int) : bits .and .i64 m 127 = m % 128 := by
  show IntKind.i64.wrap ((BitVec.ofInt 64 m &&& BitVec.ofInt 64 127).toNat : Int) = _
  have h2 : (BitVec.ofInt 64 127).toNat = 127 := by decide
  rw [BitVec.toNat_and, Leb.ofInt_any, h2, nat_mask7, IntKind.wrap_i64]
  omega
end Go.Proofs.YtknnkmakfcfnjaaDoor
