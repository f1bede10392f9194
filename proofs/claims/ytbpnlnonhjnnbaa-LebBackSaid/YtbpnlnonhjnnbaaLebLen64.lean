/-
  math/bits.Len64's contract: how many bits a number has.
-/
import Derived.Test.YtbpnlnonhjnnbaaLebKnown
import Derived.Lib.BitFns
import Derived.Lib.Tables
namespace Go.Proofs.Ytbpnlnonhjnnbaa
open Go.RowKit
theorem len8_at (i : Nat) (h : i < Lib.len8tab.size) : ((Lib.len8tab[i].toNat : Nat) : Int) = (Lib.bitLen i : Int) := by
  have hs := Lib.len8tab_size
  have e := Lib.len8_of (i : Int) (by omega) (by omega)
  rw [Int.toNat_natCast] at e
  rw [← e]
  unfold Lib.len8
  rw [Int.toNat_natCast]
  simp [h]
theorem wrap_len (c : Int) (i : Nat) (h : i < Lib.len8tab.size) (hc0 : 0 ≤ c) (hc1 : c ≤ 100) : wrap64 (c + wrap64 ((Lib.len8tab[i].toNat : Nat) : Int)) = c + (Lib.bitLen i : Int) := by
  have hs := Lib.len8tab_size
  have hl := Lib.bitLen_le8 ⟨i, by omega⟩
  simp only at hl
  rw [len8_at i h]
  unfold wrap64
  omega
theorem len_done (c i m : Nat) (hc : c ≤ 100) (hm : Lib.bitLen m = c + Lib.bitLen i) (h : i < Lib.len8tab.size) : wrap64 ((c : Int) + wrap64 ((Lib.len8tab[i].toNat : Nat) : Int)) = (Lib.bitLen m : Int) := by
  rw [wrap_len c i h (by omega) (by omega), hm]; omega
theorem len_done0 (i : Nat) (h : i < Lib.len8tab.size) : wrap64 (wrap64 ((Lib.len8tab[i].toNat : Nat) : Int)) = (Lib.bitLen i : Int) := by
  have := wrap_len 0 i h (by omega) (by omega)
  simpa using this
set_option maxRecDepth 1000000 in
set_option maxHeartbeats 4000000 in
theorem c14 (x : Int) (w : World) (h0 : 0 ≤ x) (h1 : x ≤ 18446744073709551615) :
    Calls Try.prog 14 #[.int .u64 x] w fun e w' => e = .returned (.int .i64 (Lib.bitLen x.toNat : Int)) ∧ w = w' := by
  have hts := Lib.len8tab_size
  go_enter Try.func14, Try.ntmps14
  go_wp2
  all_goals (go_ret; refine ⟨congrArg Ending.returned (congrArg (Value.int IntKind.i64) ?_), rfl⟩)
  · have e : (x / 4294967296 / 65536 / 256).toNat = x.toNat / 72057594037927936 := by omega
    refine (len_done 56 (x / 4294967296 / 65536 / 256).toNat x.toNat (by omega) ?_ _)
    rw [e]; exact Lib.bitLen_shift56 x.toNat (by omega) (by omega)
  · have e : (x / 4294967296 / 65536).toNat = x.toNat / 281474976710656 := by omega
    refine (len_done 48 (x / 4294967296 / 65536).toNat x.toNat (by omega) ?_ _)
    rw [e]; exact Lib.bitLen_shift48 x.toNat (by omega) (by omega)
  · have e : (x / 4294967296 / 256).toNat = x.toNat / 1099511627776 := by omega
    refine (len_done 40 (x / 4294967296 / 256).toNat x.toNat (by omega) ?_ _)
    rw [e]; exact Lib.bitLen_shift40 x.toNat (by omega) (by omega)
  · have e : (x / 4294967296).toNat = x.toNat / 4294967296 := by omega
    refine (len_done 32 (x / 4294967296).toNat x.toNat (by omega) ?_ _)
    rw [e]; exact Lib.bitLen_shift32 x.toNat (by omega) (by omega)
  · have e : (x / 65536 / 256).toNat = x.toNat / 16777216 := by omega
    refine (len_done 24 (x / 65536 / 256).toNat x.toNat (by omega) ?_ _)
    rw [e]; exact Lib.bitLen_shift24 x.toNat (by omega) (by omega)
  · have e : (x / 65536).toNat = x.toNat / 65536 := by omega
    refine (len_done 16 (x / 65536).toNat x.toNat (by omega) ?_ _)
    rw [e]; exact Lib.bitLen_shift16 x.toNat (by omega) (by omega)
  · have e : (x / 256).toNat = x.toNat / 256 := by omega
    refine (len_done 8 (x / 256).toNat x.toNat (by omega) ?_ _)
    rw [e]; exact Lib.bitLen_shift8 x.toNat (by omega) (by omega)
  · exact len_done0 x.toNat _
end Go.Proofs.Ytbpnlnonhjnnbaa
