/-
  The library's utf8.word over bytes: the number that eight bytes spell; no bit of the mask stands in it just if all eight are below 128.
-/
import Derived.Test.YtaloenmpidbhlaaDoorBytes
import Derived.Test.YtaloenmpidbhlaaDoorU8Math
import Derived.Lib.EndianBits
import Derived.Laws.BitsAllLaws
import Derived.Deep.QuietTactic
import Derived.BigQuiet
namespace U8
def num (l : List UInt8) : Nat := byte l 0 + byte l 1 * 256 + byte l 2 * 65536 + byte l 3 * 16777216 + byte l 4 * 4294967296 + byte l 5 * 1099511627776 + byte l 6 * 281474976710656 + byte l 7 * 72057594037927936
def mask : Nat := 9259542123273814144
theorem num_lt (l : List UInt8) : num l < 18446744073709551616 := by
  have h0 := byte_lt l 0; have h1 := byte_lt l 1; have h2 := byte_lt l 2; have h3 := byte_lt l 3
  have h4 := byte_lt l 4; have h5 := byte_lt l 5; have h6 := byte_lt l 6; have h7 := byte_lt l 7
  unfold num; omega
theorem bit_of_and {v m i : Nat} (h : v &&& m = 0) (hm : m.testBit i = true) : v / 2 ^ i % 2 = 0 := by
  have h1 : (v &&& m).testBit i = false := by rw [h]; simp
  rw [Nat.testBit_and, hm, Bool.and_true] at h1
  have h2 := Nat.testBit_eq_decide_div_mod_eq (x := v) (i := i)
  rw [h1] at h2
  have h3 := of_decide_eq_false h2.symm
  omega
theorem num_low {l : List UInt8} (h8 : 8 ≤ l.length) (h : num l &&& mask = 0) : Low l 8 := by
  have h0 := byte_lt l 0; have h1 := byte_lt l 1; have h2 := byte_lt l 2; have h3 := byte_lt l 3
  have h4 := byte_lt l 4; have h5 := byte_lt l 5; have h6 := byte_lt l 6; have h7 := byte_lt l 7
  have b0 := bit_of_and (i := 7) h (by decide)
  have b1 := bit_of_and (i := 15) h (by decide)
  have b2 := bit_of_and (i := 23) h (by decide)
  have b3 := bit_of_and (i := 31) h (by decide)
  have b4 := bit_of_and (i := 39) h (by decide)
  have b5 := bit_of_and (i := 47) h (by decide)
  have b6 := bit_of_and (i := 55) h (by decide)
  have b7 := bit_of_and (i := 63) h (by decide)
  unfold num at b0 b1 b2 b3 b4 b5 b6 b7
  refine ⟨h8, fun j hj => ?_⟩
  have : j = 0 ∨ j = 1 ∨ j = 2 ∨ j = 3 ∨ j = 4 ∨ j = 5 ∨ j = 6 ∨ j = 7 := by omega
  rcases this with rfl | rfl | rfl | rfl | rfl | rfl | rfl | rfl <;> omega
theorem or_zero {a b m : Nat} (h : (a ||| b) &&& m = 0) : a &&& m = 0 ∧ b &&& m = 0 := by
  rw [Nat.and_or_distrib_right] at h
  exact ⟨Nat.eq_zero_of_le_zero (by rw [← h]; exact Nat.left_le_or), Nat.eq_zero_of_le_zero (by rw [← h]; exact Nat.right_le_or)⟩
end U8
namespace Go.Proofs.YtaloenmpidbhlaaDoor
open Go.RowKit
theorem Has.byte0 {w : World} {B : Nat} {ad : Addr} {l : List UInt8} (h : Has w B (some ad) l) (hk : 0 < l.length) : w.cell? ad = some (.int .u8 (U8.byte l 0 : Int)) := by
  obtain ⟨ad', h1, _, h3⟩ := h 0 (l.getD 0 0) (by rw [List.getD_eq_getElem?_getD, List.getElem?_eq_getElem hk]; rfl)
  obtain rfl := Option.some.inj h1
  rw [Addr.add, if_pos rfl] at h3
  exact h3
theorem Has.byte {w : World} {B : Nat} {ad : Addr} {l : List UInt8} (h : Has w B (some ad) l) {k : Nat} (hk : k < l.length) (h0 : k ≠ 0) : w.cell? ⟨ad.block, ad.off + k, none⟩ = some (.int .u8 (U8.byte l k : Int)) := by
  obtain ⟨ad', h1, _, h3⟩ := h k (l.getD k 0) (by rw [List.getD_eq_getElem?_getD, List.getElem?_eq_getElem hk]; rfl)
  obtain rfl := Option.some.inj h1
  rw [Addr.add, if_neg h0] at h3
  exact h3
set_option maxHeartbeats 4000000 in
set_option maxRecDepth 100000 in
theorem word_any (ad : Addr) (l : List UInt8) (n c B : Nat) (w : World) (hn : n = l.length) (h8 : 8 ≤ n) (hA : Has w B (some ad) l) :
    Calls Tryd.prog 74 #[.slice (some ad) n c] w fun e w' => e = .returned (.int .u64 (U8.num l : Int)) ∧ ∃ q, w' = w.drewN q := by
  have c0 := hA.byte0 (by omega)
  have c1 := hA.byte (k := 1) (by omega) (by decide)
  have c2 := hA.byte (k := 2) (by omega) (by decide)
  have c3 := hA.byte (k := 3) (by omega) (by decide)
  have c4 := hA.byte (k := 4) (by omega) (by decide)
  have c5 := hA.byte (k := 5) (by omega) (by decide)
  have c6 := hA.byte (k := 6) (by omega) (by decide)
  have c7 := hA.byte (k := 7) (by omega) (by decide)
  have i0 : (0 : Int) < (n : Int) ∧ (1 : Int) < (n : Int) ∧ (2 : Int) < (n : Int) ∧ (3 : Int) < (n : Int) ∧ (4 : Int) < (n : Int) ∧ (5 : Int) < (n : Int) ∧ (6 : Int) < (n : Int) ∧ (7 : Int) < (n : Int) := by omega
  obtain ⟨i0, i1, i2, i3, i4, i5, i6, i7⟩ := i0
  have n0 : 0 < n ∧ 1 < n ∧ 2 < n ∧ 3 < n ∧ 4 < n ∧ 5 < n ∧ 6 < n ∧ 7 < n := by omega
  obtain ⟨n0, n1, n2, n3, n4, n5, n6, n7⟩ := n0
  have l0 := U8.byte_lt l 0; have l1 := U8.byte_lt l 1; have l2 := U8.byte_lt l 2; have l3 := U8.byte_lt l 3
  have l4 := U8.byte_lt l 4; have l5 := U8.byte_lt l 5; have l6 := U8.byte_lt l 6; have l7 := U8.byte_lt l 7
  have HV : Hid ((U8.num l : Int) = (U8.byte l 0 : Int) + (U8.byte l 1 : Int) * 256 + (U8.byte l 2 : Int) * 65536 + (U8.byte l 3 : Int) * 16777216 + (U8.byte l 4 : Int) * 4294967296 + (U8.byte l 5 : Int) * 1099511627776 + (U8.byte l 6 : Int) * 281474976710656 + (U8.byte l 7 : Int) * 72057594037927936) := Lib.hid (by unfold U8.num; omega)
  have HN := Lib.hid hn
  clear hn hA
  have mixed : Tryd.prog.follows Departure.mixedOrders = true := by kernel_rfl
  go_enter Tryd.func74, Tryd.ntmps74
  go_wp2
  go_quiet (fail)
  go_wp2
  go_ret
  refine ⟨?_, _, rfl⟩
  rw [HV.out]
  simp (disch := omega) only [u64_or8, u64_or16, u64_or24, u64_or32, u64_or40, u64_or48, u64_or56]
  rfl
end Go.Proofs.YtaloenmpidbhlaaDoor
