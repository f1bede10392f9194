/-
  The library's utf8.word over bytes: the number that eight bytes spell; no bit of the mask stands in it just if all eight are below 128.
-/
import Derived.Test.YthkglmkpnhhboaaGreatDoorR01
import Derived.Test.YthkglmkpnhhboaaGreatDoorR04
import Derived.Test.YthkglmkpnhhboaaGreatDoorR08
import Derived.Lib.EndianBits
import Derived.Laws.BitsAllLaws
import Derived.Deep.QuietTactic
import Derived.BigQuiet
import Derived.IntWalk
import Derived.Deep.LoopGhost
set_option maxRecDepth 100000
set_option maxHeartbeats 4000000
namespace U8
def num (l : List UInt8) : Nat := byte l 0 + byte l 1 * 256 + byte l 2 * 65536 + byte l 3 * 16777216 + byte l 4 * 4294967296 + byte l 5 * 1099511627776 + byte l 6 * 281474976710656 + byte l 7 * 72057594037927936
def mask : Nat := 9259542123273814144
theorem num_lt (l : List UInt8) : num l < 18446744073709551616 := by
 have h0 := byte_lt l 0; have h1 := byte_lt l 1; have h2 := byte_lt l 2; have h3 := byte_lt l 3
 have h4 := byte_lt l 4; have h5 := byte_lt l 5; have h6 := byte_lt l 6; have h7 := byte_lt l 7
 unfold num; omega
theorem bu {v m i : Nat} (h : v &&& m = 0) (hm : m.testBit i = true) : v / 2 ^ i % 2 = 0 := by
 have h1 : (v &&& m).testBit i = false := by rw [h]; simp
 rw [Nat.testBit_and, hm, Bool.and_true] at h1
 have h2 := Nat.testBit_eq_decide_div_mod_eq (x := v) (i := i)
 rw [h1] at h2
 have h3 := of_decide_eq_false h2.symm
 omega
theorem num_low {l : List UInt8} (h8 : 8 ≤ l.length) (h : num l &&& mask = 0) : Low l 8 := by
 have h0 := byte_lt l 0; have h1 := byte_lt l 1; have h2 := byte_lt l 2; have h3 := byte_lt l 3
 have h4 := byte_lt l 4; have h5 := byte_lt l 5; have h6 := byte_lt l 6; have h7 := byte_lt l 7
 have b0 := bu (i := 7) h (by decide)
 have b1 := bu (i := 15) h (by decide)
 have b2 := bu (i := 23) h (by decide)
 have b3 := bu (i := 31) h (by decide)
 have b4 := bu (i := 39) h (by decide)
 have b5 := bu (i := 47) h (by decide)
 have b6 := bu (i := 55) h (by decide)
 have b7 := bu (i := 63) h (by decide)
 unfold num at b0 b1 b2 b3 b4 b5 b6 b7
 refine ⟨h8, fun j hj => ?_⟩
 have : j = 0 ∨ j = 1 ∨ j = 2 ∨ j = 3 ∨ j = 4 ∨ j = 5 ∨ j = 6 ∨ j = 7 := by omega
 rcases this with rfl | rfl | rfl | rfl | rfl | rfl | rfl | rfl <;> omega
theorem or_zero {a b m : Nat} (h : (a ||| b) &&& m = 0) : a &&& m = 0 ∧ b &&& m = 0 := by
 rw [Nat.and_or_distrib_right] at h
 exact ⟨Nat.eq_zero_of_le_zero (by rw [← h]; exact Nat.left_le_or), Nat.eq_zero_of_le_zero (by rw [← h]; exact Nat.right_le_or)⟩
end U8
namespace Go.Proofs.YthkglmkpnhhboaaGreatDoor
open Go.RowKit
theorem Has.byte0 {w : World} {B : Nat} {ad : Addr} {l : List UInt8} (h : Has w B (some ad) l) (hk : 0 < l.length) : w.cell? ad = some (.int .u8 (U8.byte l 0 : Int)) := by
 obtain ⟨ad', h1, _, h3⟩ := h 0 (l.getD 0 0) (by rw [List.getD_eq_getElem?_getD, List.getElem?_eq_getElem hk]; rfl)
 obtain rfl := Option.some.inj h1
 rw [Addr.add, if_pos rfl] at h3
 exact h3
theorem Has.byte {w : World} {B : Nat} {ad : Addr} {l : List UInt8} (h : Has w B (some ad) l) {k : Nat} (hk : k < l.length) (h0 : k ≠ 0) : w.cell? ⟨ad.block, ad.off + k, none⟩ = some (.int .u8 (U8.byte l k : Int)) := by
 obtain ⟨ad', h1, _, h3⟩ := h k (l.getD k 0) (by rw [List.getD_eq_getElem?_getD, List.getElem?_eq_getElem hk]; rfl)
 obtain rfl := Option.some.inj h1
 rw [Addr.add, if_neg h0] at h3
 exact h3
theorem cy (ad : Addr) (l : List UInt8) (n c B : Nat) (w : World) (hn : n = l.length) (h8 : 8 ≤ n) (hA : Has w B (some ad) l) :
  Calls Tryz.prog 143 #[.slice (some ad) n c] w fun e w' => e = .returned (.int .u64 (U8.num l : Int)) ∧ ∃ q, w' = w.drewN q := by
 have c0 := hA.byte0 (by omega)
 have c1 := hA.byte (k := 1) (by omega) (by decide)
 have c2 := hA.byte (k := 2) (by omega) (by decide)
 have c3 := hA.byte (k := 3) (by omega) (by decide)
 have c4 := hA.byte (k := 4) (by omega) (by decide)
 have c5 := hA.byte (k := 5) (by omega) (by decide)
 have c6 := hA.byte (k := 6) (by omega) (by decide)
 have c7 := hA.byte (k := 7) (by omega) (by decide)
 have i0 : (0 : Int) < (n : Int) ∧ (1 : Int) < (n : Int) ∧ (2 : Int) < (n : Int) ∧ (3 : Int) < (n : Int) ∧ (4 : Int) < (n : Int) ∧ (5 : Int) < (n : Int) ∧ (6 : Int) < (n : Int) ∧ (7 : Int) < (n : Int) := by omega
 obtain ⟨i0, i1, i2, i3, i4, i5, i6, i7⟩ := i0
 have n0 : 0 < n ∧ 1 < n ∧ 2 < n ∧ 3 < n ∧ 4 < n ∧ 5 < n ∧ 6 < n ∧ 7 < n := by omega
 obtain ⟨n0, n1, n2, n3, n4, n5, n6, n7⟩ := n0
 have l0 := U8.byte_lt l 0; have l1 := U8.byte_lt l 1; have l2 := U8.byte_lt l 2; have l3 := U8.byte_lt l 3
 have l4 := U8.byte_lt l 4; have l5 := U8.byte_lt l 5; have l6 := U8.byte_lt l 6; have l7 := U8.byte_lt l 7
 have HV : Hid ((U8.num l : Int) = (U8.byte l 0 : Int) + (U8.byte l 1 : Int) * 256 + (U8.byte l 2 : Int) * 65536 + (U8.byte l 3 : Int) * 16777216 + (U8.byte l 4 : Int) * 4294967296 + (U8.byte l 5 : Int) * 1099511627776 + (U8.byte l 6 : Int) * 281474976710656 + (U8.byte l 7 : Int) * 72057594037927936) := Y (by unfold U8.num; omega)
 have HN := Y hn
 clear hn hA
 have mixed : Tryz.prog.follows Departure.mixedOrders = true := by kernel_rfl
 go_enter Tryz.func143, Tryz.ntmps143
 go_wp2
 go_quiet (fail)
 go_wp2
 go_ret
 refine ⟨?_, _, rfl⟩
 rw [HV.out]
 simp (disch := omega) only [u64_or8, u64_or16, u64_or24, u64_or32, u64_or40, u64_or48, u64_or56]
 rfl
end Go.Proofs.YthkglmkpnhhboaaGreatDoor
namespace U8
def val (l : List UInt8) (c0 : Nat) : Nat → Nat
 | 0 => 0
 | 1 => c0
 | k + 2 => 64 * val l c0 (k + 1) + byte l (k + 1) - 128
def Mids (l : List UInt8) (k : Nat) : Prop := ∀ j, 1 ≤ j → j < k → 128 ≤ byte l j ∧ byte l j ≤ 191
theorem Mids.next {l : List UInt8} {k : Nat} (h : Mids l k) (h1 : 128 ≤ byte l k ∧ byte l k ≤ 191) : Mids l (k + 1) := fun j a b => by
 by_cases hj : j = k
 ·subst hj; exact h1
 ·exact h j a (by omega)
end U8
namespace Go.Proofs.YthkglmkpnhhboaaGreatDoor
open Go.RowKit
def lenOf : Value → Nat
 | .slice _ n _ => n
 | _ => 0
def Left (w0 : World) (ans : Bool) (p : Value) (wr : World) : Prop :=
 ∃ (A : Option Addr) (n : Nat) (l : List UInt8), p = .slice A n n ∧ n ≤ 9223372036854775807 ∧ Hid (n = l.length) ∧ Hid (Has wr w0.heap.size A l) ∧ Hid (U8.text l = ans) ∧ Hid (Below w0.heap.size w0 wr)
theorem Has.drop {w : World} {B : Nat} {ad : Addr} {l : List UInt8} (h : Has w B (some ad) l) (k : Nat) (h0 : k ≠ 0) : Has w B (some ⟨ad.block, ad.off + k, none⟩) (l.drop k) := fun j x hx => by
 rw [List.getElem?_drop] at hx
 obtain ⟨ad', h1, h2, h3⟩ := h (k + j) x hx
 obtain rfl := Option.some.inj h1
 refine ⟨_, rfl, h2, ?_⟩
 have e : (⟨ad.block, ad.off + k, none⟩ : Addr).add j = ad.add (k + j) := by
  unfold Addr.add
  rw [if_neg (show ¬ k + j = 0 by omega)]
  split
  ·next hj => subst hj; rfl
  ·simp [Nat.add_assoc]
 rw [e]
 exact h3
theorem Has.addr {w : World} {B : Nat} {A : Option Addr} {l : List UInt8} (h : Has w B A l) (hk : 0 < l.length) : ∃ ad, A = some ad ∧ ad.block < B := by
 obtain ⟨ad, h1, h2, _⟩ := h 0 _ (List.getElem?_eq_getElem hk)
 exact ⟨ad, h1, h2⟩
def InRow (w0 : World) (n1 : Nat) (ans : Bool) (p : Value) (wi : World) : Prop :=
 ∃ (ad : Addr) (m : Nat) (l : List UInt8), p = .slice (some ad) m m ∧ 0 < m ∧ m < n1 ∧ m ≤ 9223372036854775807 ∧ Hid (m = l.length) ∧ Hid (Has wi w0.heap.size (some ad) l) ∧ Hid (U8.text l = ans) ∧ Hid (Below w0.heap.size w0 wi)
theorem et {w0 wr : World} {ans : Bool} {A : Option Addr} {l : List UInt8} (k : Nat) (hk : l.length ≤ k) (ht : U8.text (l.drop k) = ans) (hb : Below w0.heap.size w0 wr) : Left w0 ans (.slice A 0 0) wr := by
 have h0 : l.drop k = [] := List.drop_eq_nil_of_le hk
 exact ⟨A, 0, l.drop k, rfl, by omega, Y (by rw [h0]; rfl), Y (by rw [h0]; exact Has.nil _ _ _), Y ht, Y hb⟩
theorem fz {w0 wr : World} {ans : Bool} {ad : Addr} {l : List UInt8} {n : Nat} (k m : Nat) (h0 : k ≠ 0) (hn : n = l.length) (hmax : n ≤ 9223372036854775807) (hm : m = n - k) (hA : Has wr w0.heap.size (some ad) l) (ht : U8.text (l.drop k) = ans) (hb : Below w0.heap.size w0 wr) : Left w0 ans (.slice (some ⟨ad.block, ad.off + k, none⟩) m m) wr :=
 ⟨_, m, l.drop k, rfl, by omega, Y (by rw [List.length_drop]; omega), Y (hA.drop k h0), Y ht, Y hb⟩
theorem Left.draw {w0 wr : World} {ans : Bool} {p : Value} (h : Left w0 ans p wr) (q : Nat) : Left w0 ans p (wr.drewN q) := by
 obtain ⟨A, n, l, h1, h2, h3, h4, h5, h6⟩ := h
 exact ⟨A, n, l, h1, h2, h3, h4, h5, Y (Below.dn h6.out q)⟩
set_option maxHeartbeats 8000000 in
theorem valid_any (A : Option Addr) (l : List UInt8) (n c : Nat) (w : World) (hn : n = l.length) (hmax : n ≤ 9223372036854775807) (hc : n ≤ c) (hA : Has w w.heap.size A l) (hT : Lib.Utf8Tabs 0 1 w) (hB : 2 ≤ w.heap.size) :
  Calls Tryz.prog 123 #[.slice A n c] w fun e w' => e = .returned (.bool (U8.text l)) ∧ Below w.heap.size w w' := by
 obtain ⟨ans, hans⟩ : ∃ b, U8.text l = b := ⟨_, rfl⟩
 rw [hans]
 have H0 : Left w ans (.slice A n n) w := ⟨A, n, l, rfl, hmax, Y hn, Y hA, Y hans, Y (Below.refl _ _)⟩
 have HT := Y hT
 clear hn hA hans hT
 have mixed : Tryz.prog.follows Departure.mixedOrders = true := by kernel_rfl
 go_enter Tryz.func123, Tryz.ntmps123
 go_wp2
 go_loopw [0] (fun p wr => Left w ans p wr) (fun p _ => lenOf p)
 case atStart => exact H0
 case round =>
  obtain ⟨A1, n1, l1, rfl, hmax1, HN, HA, HANS, HB⟩ := hrel
  clear H0
  by_cases h0 : n1 = 0
  ·subst h0
   have hans := HANS.out
   rw [U8.text_nil HN.out.symm] at hans
   subst hans
   go_wp2_with fail
   go_ret
   exact ⟨rfl, HB.out⟩
  obtain ⟨ad, rfl, had⟩ := HA.out.addr (by have := HN.out; omega)
  have c0 := HA.out.byte0 (by have := HN.out; omega)
  have i0 : (0 : Int) < (n1 : Int) := by omega
  have n0 : 0 < n1 := by omega
  have b0 := U8.byte_lt l1 0
  by_cases hlow : U8.byte l1 0 < 128
  ·as_aux_lemma =>
   have hlow' : ((U8.byte l1 0 : Nat) : Int) < 128 := by omega
   by_cases h1 : n1 = 1
   ·have HT1 := Y ((U8.text_low (l := l1) (by have := HN.out; omega) hlow).symm.trans HANS.out)
    have HL1 := Y (show 0 = (l1.drop 1).length by have := HN.out; simp; omega)
    subst h1
    go_wp2_with fail
    go_roundw
    case rel => exact et 1 (by have := HN.out; omega) HT1.out HB.out
    case measure => simp [lenOf]
   ·obtain ⟨m1, hm1⟩ : ∃ m, n1 - 1 = m := ⟨_, rfl⟩
    have hm1' : ¬ m1 = 0 := by omega
    have hr1 : (1 : Int) ≤ (n1 : Int) := by omega
    have hL1 : Left w ans (.slice (some ⟨ad.block, ad.off + 1, none⟩) m1 m1) wr := fz 1 m1 (by decide) HN.out hmax1 hm1.symm HA.out ((U8.text_low (l := l1) (by have := HN.out; omega) hlow).symm.trans HANS.out) HB.out
    have HL1 := Y hL1
    have hA1 : Has wr w.heap.size (some ⟨ad.block, ad.off + 1, none⟩) (l1.drop 1) := HA.out.drop 1 (by decide)
    have HA1 := Y hA1
    have HN1 := Y (show m1 = (l1.drop 1).length by have := HN.out; simp; omega)
    have HX1 := Y ((U8.text_low (l := l1) (by have := HN.out; omega) hlow).symm.trans HANS.out)
    have hmm1 : m1 ≤ 9223372036854775807 := by omega
    have hlt1 : m1 < n1 := by omega
    clear hL1 hA1
    generalize l1.drop 1 = l2 at HA1 HN1 HX1
    by_cases h8 : (8 : Int) < (m1 : Int)
    ·go_wp2_with fail
     refine (cy _ l2 m1 m1 _ _ HN1.out (by omega) HA1.out).mono ?_
     rintro e w2 ⟨rfl, q, rfl⟩
     have HA2 : Hid (Has (wr.drewN q) w.heap.size (some ⟨ad.block, ad.off + 1, none⟩) l2) := Y HA1.out
     have HB2 := Y (Below.dn HB.out q)
     have HL2 := Y (HL1.out.draw q)
     generalize wr.drewN q = w3 at HA2 HB2 HL2 ⊢
     have hnum : bits .and .u64 (U8.num l2 : Int) 9259542123273814144 = ((U8.num l2 &&& U8.mask : Nat) : Int) := u64_and_nat _ _ (U8.num_lt l2) (by decide)
     by_cases hz : U8.num l2 &&& U8.mask = 0
     ·have hlow8 := U8.num_low (by have := HN1.out; omega) hz
      rw [hz] at hnum
      generalize U8.num l2 = nu at hnum ⊢
      clear hz
      obtain ⟨m2, hm2⟩ : ∃ m, m1 - 8 = m := ⟨_, rfl⟩
      have hm2' : ¬ m2 = 0 := by omega
      have hr2 : (8 : Int) ≤ (m1 : Int) := by omega
      have hlt2 : m2 < n1 := by omega
      have hmm2 : m2 ≤ 9223372036854775807 := by omega
      have HX2 := Y ((U8.text_lows 8 hlow8).symm.trans HX1.out)
      have HN2 := Y (show m2 = (l2.drop 8).length by have := HN1.out; simp; omega)
      have hA3 : Has w3 w.heap.size (some ⟨ad.block, ad.off + 1 + 8, none⟩) (l2.drop 8) := HA2.out.drop 8 (by decide)
      have HA3 := Y hA3
      generalize l2.drop 8 = l3 at HA3 HN2 HX2
      have HL3 : Hid (Left w ans (.slice (some ⟨ad.block, ad.off + 1 + 8, none⟩) m2 m2) w3) := Y ⟨_, m2, l3, rfl, hmm2, HN2, HA3, HX2, HB2⟩
      clear hlow8 hA3
      go_wp2_with fail
      clear hnum hm2
      generalize (⟨ad.block, ad.off + 1 + 8, none⟩ : Addr) = ad3 at HA3 HL3 ⊢
      by_cases h16 : (16 : Int) < (m2 : Int)
      ·obtain ⟨m3, hm3⟩ : ∃ m, m2 - 8 = m := ⟨_, rfl⟩
       obtain ⟨m4, hm4⟩ : ∃ m, m2 - 16 = m := ⟨_, rfl⟩
       have hm3' : ¬ m3 = 0 := by omega
       have hm4' : ¬ m4 = 0 := by omega
       have hr3 : (8 : Int) ≤ (m2 : Int) := by omega
       have hr4 : (16 : Int) ≤ (m2 : Int) := by omega
       have hnum : bits .and .u64 (bits .or .u64 (U8.num l3 : Int) (U8.num (l3.drop 8) : Int)) 9259542123273814144 = (((U8.num l3 ||| U8.num (l3.drop 8)) &&& U8.mask : Nat) : Int) := by
        rw [u64_or_nat _ _ (U8.num_lt _) (U8.num_lt _)]
        exact u64_and_nat _ _ (Nat.or_lt_two_pow (n := 64) (U8.num_lt _) (U8.num_lt _)) (by decide)
       have HC1 := Y (fun W (h : Has W w.heap.size (some ad3) l3) => cy ad3 l3 m2 m2 w.heap.size W HN2.out (by omega) h)
       have HC2 := Y (fun W (h : Has W w.heap.size (some ⟨ad3.block, ad3.off + 8, none⟩) (l3.drop 8)) => cy ⟨ad3.block, ad3.off + 8, none⟩ (l3.drop 8) m3 m3 w.heap.size W (by have := HN2.out; simp; omega) (by omega) h)
       by_cases hz : (U8.num l3 ||| U8.num (l3.drop 8)) &&& U8.mask = 0
       ·have hlow8 : U8.Low l3 16 := (U8.num_low (by have := HN2.out; omega) (U8.or_zero hz).1).more (U8.num_low (by have := HN2.out; simp; omega) (U8.or_zero hz).2)
        rw [hz] at hnum
        have HX4 := Y ((U8.text_lows 16 hlow8).symm.trans HX2.out)
        have HN4 := Y (show m4 = (l3.drop 16).length by have := HN2.out; simp; omega)
        clear hz hlow8
        go_quiet ((first | (go_at_call_of 143 m2; exact Calls.quiet_of (HC1.out _ HA3.out)) | (go_at_call_of 143 m3; exact Calls.quiet_of (HC2.out _ (HA3.out.drop 8 (by decide))))))
        generalize U8.num l3 = nu1 at hnum HC1
        generalize U8.num (l3.drop 8) = nu2 at hnum HC2
        go_wp2_with fail
        have hlt4 : m4 < n1 := by omega
        have hmm4 : m4 ≤ 9223372036854775807 := by omega
        clear hnum hm3 hm4 HC1 HC2
        have hA5 : Has (w3.drewN nq) w.heap.size (some ⟨ad3.block, ad3.off + 16, none⟩) (l3.drop 16) := HA3.out.drop 16 (by decide)
        have HA5 := Y hA5
        have HB5 := Y (Below.dn HB2.out nq)
        clear hA5
        generalize l3.drop 16 = l5 at HA5 HN4 HX4
        generalize (⟨ad3.block, ad3.off + 16, none⟩ : Addr) = ad5 at HA5 ⊢
        generalize w3.drewN nq = w5 at HA5 HB5 ⊢
        obtain ⟨wo, hwo⟩ : ∃ wo : World, wo = wr := ⟨_, rfl⟩
        subst hwo
        go_loopw [0] (fun p wi => InRow w n1 ans p wi) (fun p _ => lenOf p)
        case atStart => exact ⟨ad5, m4, l5, rfl, by omega, hlt4, hmm4, HN4, HA5, HX4, HB5⟩
        case round =>
         obtain ⟨adi, mi, li, rfl, hp, hlt, hmx, HNi, HAi, HXi, HBi⟩ := hrel
         by_cases h32 : (32 : Int) < (mi : Int)
         ·obtain ⟨k1, hk1⟩ : ∃ m, mi - 8 = m := ⟨_, rfl⟩
          obtain ⟨k2, hk2⟩ : ∃ m, mi - 16 = m := ⟨_, rfl⟩
          obtain ⟨k3, hk3⟩ : ∃ m, mi - 24 = m := ⟨_, rfl⟩
          obtain ⟨k4, hk4⟩ : ∃ m, mi - 32 = m := ⟨_, rfl⟩
          have hk : ¬ k1 = 0 ∧ ¬ k2 = 0 ∧ ¬ k3 = 0 ∧ ¬ k4 = 0 := by omega
          obtain ⟨hk1', hk2', hk3', hk4'⟩ := hk
          have hr : (8 : Int) ≤ (mi : Int) ∧ (16 : Int) ≤ (mi : Int) ∧ (24 : Int) ≤ (mi : Int) ∧ (32 : Int) ≤ (mi : Int) := by omega
          obtain ⟨hr1, hr2, hr3, hr4⟩ := hr
          have D1 := Y (fun W (h : Has W w.heap.size (some adi) li) => cy adi li mi mi w.heap.size W (HNi.out) (by omega) h)
          have D2 := Y (fun W (h : Has W w.heap.size (some ⟨adi.block, adi.off + 8, none⟩) (li.drop 8)) => cy ⟨adi.block, adi.off + 8, none⟩ (li.drop 8) k1 k1 w.heap.size W (by have := HNi.out; simp; omega) (by omega) h)
          have D3 := Y (fun W (h : Has W w.heap.size (some ⟨adi.block, adi.off + 16, none⟩) (li.drop 16)) => cy ⟨adi.block, adi.off + 16, none⟩ (li.drop 16) k2 k2 w.heap.size W (by have := HNi.out; simp; omega) (by omega) h)
          have D4 := Y (fun W (h : Has W w.heap.size (some ⟨adi.block, adi.off + 24, none⟩) (li.drop 24)) => cy ⟨adi.block, adi.off + 24, none⟩ (li.drop 24) k3 k3 w.heap.size W (by have := HNi.out; simp; omega) (by omega) h)
          have hnum : bits .and .u64 (bits .or .u64 (bits .or .u64 (U8.num li : Int) (U8.num (li.drop 8) : Int)) (bits .or .u64 (U8.num (li.drop 16) : Int) (U8.num (li.drop 24) : Int))) 9259542123273814144 = ((((U8.num li ||| U8.num (li.drop 8)) ||| (U8.num (li.drop 16) ||| U8.num (li.drop 24))) &&& U8.mask : Nat) : Int) := by
           have o1 := Nat.or_lt_two_pow (n := 64) (U8.num_lt li) (U8.num_lt (li.drop 8))
           have o2 := Nat.or_lt_two_pow (n := 64) (U8.num_lt (li.drop 16)) (U8.num_lt (li.drop 24))
           rw [u64_or_nat _ _ (U8.num_lt _) (U8.num_lt _), u64_or_nat _ _ (U8.num_lt _) (U8.num_lt _), u64_or_nat _ _ o1 o2]
           exact u64_and_nat _ _ (Nat.or_lt_two_pow (n := 64) o1 o2) (by decide)
          by_cases hz : ((U8.num li ||| U8.num (li.drop 8)) ||| (U8.num (li.drop 16) ||| U8.num (li.drop 24))) &&& U8.mask = 0
          ·have hlow : U8.Low li 32 := by
            obtain ⟨z1, z2⟩ := U8.or_zero hz
            obtain ⟨z3, z4⟩ := U8.or_zero z1
            obtain ⟨z5, z6⟩ := U8.or_zero z2
            have l1 := U8.num_low (by have := HNi.out; omega) z3
            have l2 := U8.num_low (l := li.drop 8) (by have := HNi.out; simp; omega) z4
            have l3 := U8.num_low (l := li.drop 16) (by have := HNi.out; simp; omega) z5
            have l4 := U8.num_low (l := li.drop 24) (by have := HNi.out; simp; omega) z6
            exact ((l1.more l2).more l3).more l4
           rw [hz] at hnum
           have HX6 := Y ((U8.text_lows 32 hlow).symm.trans HXi.out)
           have HN6 := Y (show k4 = (li.drop 32).length by have := HNi.out; simp; omega)
           have hk5 : k4 < n1 := by omega
           have hk6 : k4 < mi := by omega
           clear hz hlow
           go_wp2_with fail
           go_quiet ((first | (go_at_call_of 143 mi; exact Calls.quiet_of (D1.out _ HAi.out)) | (go_at_call_of 143 k1; exact Calls.quiet_of (D2.out _ (HAi.out.drop 8 (by decide)))) | (go_at_call_of 143 k2; exact Calls.quiet_of (D3.out _ (HAi.out.drop 16 (by decide)))) | (go_at_call_of 143 k3; exact Calls.quiet_of (D4.out _ (HAi.out.drop 24 (by decide))))))
           generalize U8.num li = nu1 at hnum ⊢
           generalize U8.num (li.drop 8) = nu2 at hnum ⊢
           generalize U8.num (li.drop 16) = nu3 at hnum ⊢
           generalize U8.num (li.drop 24) = nu4 at hnum ⊢
           go_wp2_with fail
           go_roundw
           case rel => exact ⟨_, k4, li.drop 32, rfl, by omega, hk5, by omega, HN6, Y (HAi.out.drop 32 (by decide)), HX6, Y (Below.dn HBi.out _)⟩
           case measure => simp [lenOf]; omega
          ·have hz' : (((((U8.num li ||| U8.num (li.drop 8)) ||| (U8.num (li.drop 16) ||| U8.num (li.drop 24))) &&& U8.mask : Nat) : Int) == 0) = false := by simp; omega
           generalize ((U8.num li ||| U8.num (li.drop 8)) ||| (U8.num (li.drop 16) ||| U8.num (li.drop 24))) &&& U8.mask = z at hnum hz'
           clear hz
           go_wp2_with fail
           go_quiet ((first | (go_at_call_of 143 mi; exact Calls.quiet_of (D1.out _ HAi.out)) | (go_at_call_of 143 k1; exact Calls.quiet_of (D2.out _ (HAi.out.drop 8 (by decide)))) | (go_at_call_of 143 k2; exact Calls.quiet_of (D3.out _ (HAi.out.drop 16 (by decide)))) | (go_at_call_of 143 k3; exact Calls.quiet_of (D4.out _ (HAi.out.drop 24 (by decide))))))
           generalize U8.num li = nu1 at hnum ⊢
           generalize U8.num (li.drop 8) = nu2 at hnum ⊢
           generalize U8.num (li.drop 16) = nu3 at hnum ⊢
           generalize U8.num (li.drop 24) = nu4 at hnum ⊢
           go_wp2_with fail
           go_roundw
           case rel => exact ⟨some adi, mi, li, rfl, hmx, HNi, Y HAi.out, HXi, Y (Below.dn HBi.out _)⟩
           case measure => simp [lenOf]; omega
         ·have h32' : decide ((32 : Int) < (mi : Int)) = false := by simpa using h32
          go_wp2_with fail
          go_quiet (fail)
          go_wp2_with fail
          go_roundw
          case rel => exact ⟨some adi, mi, li, rfl, hmx, HNi, Y HAi.out, HXi, Y (Below.dn HBi.out _)⟩
          case measure => simp [lenOf]; omega
       ·have hz' : ((((U8.num l3 ||| U8.num (l3.drop 8)) &&& U8.mask : Nat) : Int) == 0) = false := by simp; omega
        generalize (U8.num l3 ||| U8.num (l3.drop 8)) &&& U8.mask = z at hnum hz'
        clear hz
        go_quiet ((first | (go_at_call_of 143 m2; exact Calls.quiet_of (HC1.out _ HA3.out)) | (go_at_call_of 143 m3; exact Calls.quiet_of (HC2.out _ (HA3.out.drop 8 (by decide))))))
        generalize U8.num l3 = nu1 at hnum ⊢
        generalize U8.num (l3.drop 8) = nu2 at hnum ⊢
        go_wp2_with fail
        go_roundw
        case rel => exact HL3.out.draw _
        case measure => simp [lenOf]; omega
      ·have h16' : decide ((16 : Int) < (m2 : Int)) = false := by simpa using h16
       go_quiet (fail)
       go_wp2_with fail
       go_roundw
       case rel => exact HL3.out.draw _
       case measure => simp [lenOf]; omega
     ·have hz' : (((U8.num l2 &&& U8.mask : Nat) : Int) == 0) = false := by simp; omega
      generalize U8.num l2 &&& U8.mask = z at hnum hz'
      generalize U8.num l2 = nu at hnum ⊢
      clear hz
      go_wp2_with fail
      go_roundw
      case rel => exact HL2.out
      case measure => simp [lenOf]; omega
    ·have h8' : decide ((8 : Int) < (m1 : Int)) = false := by simpa using h8
     go_wp2_with fail
     go_roundw
     case rel => exact HL1.out
     case measure => simp [lenOf]; omega
  ·have hge : 128 ≤ U8.byte l1 0 := by omega
   have hge' : ¬ ((U8.byte l1 0 : Nat) : Int) < 128 := by omega
   obtain ⟨t1, t2, t3, t4⟩ := U8.table_at hge b0
   have cx : wr.cell? ⟨0, U8.byte l1 0, none⟩ = some (.int .u8 (Lib.firstT (U8.byte l1 0) : Int)) := (HB.out.cell (p := ⟨0, U8.byte l1 0, none⟩) (by simp; omega)).trans (HT.out.1 _ b0)
   have ca : wr.cell? ⟨1, Lib.firstT (U8.byte l1 0) / 16 * 2, none⟩ = some (.int .u8 (Lib.accLo (Lib.firstT (U8.byte l1 0) / 16) : Int)) := by
    rw [Nat.mul_comm]; exact (HB.out.cell (p := ⟨1, _, none⟩) (by simp; omega)).trans (HT.out.2 _ t3).1
   have cb : wr.cell? ⟨1, Lib.firstT (U8.byte l1 0) / 16 * 2 + 1, none⟩ = some (.int .u8 (Lib.accHi (Lib.firstT (U8.byte l1 0) / 16) : Int)) := by
    rw [Nat.mul_comm]; exact (HB.out.cell (p := ⟨1, _, none⟩) (by simp; omega)).trans (HT.out.2 _ t3).2
   have hand : bits .and .u8 (Lib.firstT (U8.byte l1 0) : Int) 7 = ((Lib.firstT (U8.byte l1 0) % 8 : Nat) : Int) := by
    rw [show (7 : Int) = ((7 : Nat) : Int) from rfl, u8_and_nat _ _ t2 (by decide)]
    congr 1
    exact Nat.and_two_pow_sub_one_eq_mod _ 3
   rw [t1] at hand
   clear t1 hlow
   generalize hf : Lib.firstT (U8.byte l1 0) = x at *
   clear hf
   obtain ⟨b, hb⟩ : ∃ b, U8.byte l1 0 = b := ⟨_, rfl⟩
   rw [hb] at hge hge' b0 c0 cx hand t4
   have HC := Y hb
   clear hb
   have hsz := U8.size_cases b
   obtain ⟨lo, hlo⟩ : ∃ k, Lib.accLo (x / 16) = k := ⟨_, rfl⟩
   obtain ⟨hi, hhi⟩ : ∃ k, Lib.accHi (x / 16) = k := ⟨_, rfl⟩
   rw [hlo] at ca t4
   rw [hhi] at cb t4
   clear hlo hhi
   obtain ⟨b1, hb1⟩ : ∃ k, U8.byte l1 1 = k := ⟨_, rfl⟩
   obtain ⟨b2, hb2⟩ : ∃ k, U8.byte l1 2 = k := ⟨_, rfl⟩
   obtain ⟨b3, hb3⟩ : ∃ k, U8.byte l1 3 = k := ⟨_, rfl⟩
   have H1 := Y hb1
   have H2 := Y hb2
   have H3 := Y hb3
   clear hb1 hb2 hb3
   have HBA := Y (HB.out.alloc HB.out.size (.cells #[.int .u8 (lo : Int), .int .u8 (hi : Int)] 220))
   have HAA := Y (HA.out.alloc HB.out.size (.cells #[.int .u8 (lo : Int), .int .u8 (hi : Int)] 220))
   rcases hsz with hsz | hsz | hsz | hsz
   ·rw [hsz] at hand
    have hans := HANS.out
    rw [U8.text_no (by have := HN.out; omega) (U8.one_bad (by rw [HC.out]; exact hge) (by rw [HC.out]; exact .inl hsz))] at hans
    subst hans
    simp only [if_true] at hand
    clear hsz t4
    have hand1 : bits .and .u8 (x : Int) 7 = 1 := hand
    clear hand
    go_wp2_with fail
    go_ret
    exact ⟨rfl, HBA.out⟩
   ·as_aux_lemma =>
    rw [hsz] at hand t4
    have hand1 : bits .and .u8 (x : Int) 7 = 2 := hand
    have HSZ := Y hsz
    have HLO := Y (show lo = U8.lo b by exact (t4.resolve_left (by decide)).1)
    have HHI := Y (show hi = U8.hi b by exact (t4.resolve_left (by decide)).2)
    clear hand hsz t4
    go_wp2_with fail
    have cl : (wr.alloc (.cells #[.int .u8 (lo : Int), .int .u8 (hi : Int)] 220)).cell? ⟨wr.heap.size, 0, none⟩ = some (.int .u8 (lo : Int)) := by simp [go_sem]
    have ch : (wr.alloc (.cells #[.int .u8 (lo : Int), .int .u8 (hi : Int)] 220)).cell? ⟨wr.heap.size, 1, none⟩ = some (.int .u8 (hi : Int)) := by simp [go_sem]
    clear cx ca cb
    generalize wr.alloc (.cells #[.int .u8 (lo : Int), .int .u8 (hi : Int)] 220) = w2 at HBA HAA cl ch ⊢
    generalize wr.heap.size = gb at cl ch ⊢
    have HA2 := HAA
    have HB2 := HBA
    clear HAA HBA
    by_cases hn : n1 < 2
    ·have hni : ((n1 : Nat) : Int) < 2 := by omega
     have hnb : decide (((n1 : Nat) : Int) < 2) = true := by simpa using hni
     have hnc : decide (n1 < 2) = true := by simpa using hn
     have hans := HANS.out
     rw [U8.text_no (by have := HN.out; omega) (U8.one_bad (by rw [HC.out]; exact hge) (by rw [HC.out, HSZ.out, ← HLO.out, ← HHI.out, H1.out, ← HN.out]; omega))] at hans
     subst hans
     go_quiet (fail)
     go_wp2_with fail
     go_ret
     exact ⟨rfl, Below.dn HB2.out _⟩
    ·have hni : ¬ ((n1 : Nat) : Int) < 2 := by omega
     have hnb : decide (((n1 : Nat) : Int) < 2) = false := by simpa using hni
     have hnc : decide (n1 < 2) = false := by simpa using hn
     have q1 : (1 : Int) < (n1 : Int) := by omega
     have p1 : 1 < n1 := by omega
     have cb1 : w2.cell? ⟨ad.block, ad.off + 1, none⟩ = some (.int .u8 (b1 : Int)) := by rw [← H1.out]; exact HA2.out.byte (k := 1) (by have := HN.out; omega) (by decide)
     by_cases h1 : b1 < lo
     ·have h1i : ((b1 : Nat) : Int) < ((lo : Nat) : Int) := by omega
      have h1b : decide (((b1 : Nat) : Int) < ((lo : Nat) : Int)) = true := by simpa using h1i
      have h1c : decide (b1 < lo) = true := by simpa using h1
      have hans := HANS.out
      rw [U8.text_no (by have := HN.out; omega) (U8.one_bad (by rw [HC.out]; exact hge) (by rw [HC.out, HSZ.out, ← HLO.out, ← HHI.out, H1.out, ← HN.out]; omega))] at hans
      subst hans
      go_quiet (fail)
      go_wp2_with fail
      go_ret
      exact ⟨rfl, Below.dn HB2.out _⟩
     ·have h1i : ¬ ((b1 : Nat) : Int) < ((lo : Nat) : Int) := by omega
      have h1b : decide (((b1 : Nat) : Int) < ((lo : Nat) : Int)) = false := by simpa using h1i
      have h1c : decide (b1 < lo) = false := by simpa using h1
      by_cases h2 : hi < b1
      ·have h2i : ((hi : Nat) : Int) < ((b1 : Nat) : Int) := by omega
       have h2b : decide (((hi : Nat) : Int) < ((b1 : Nat) : Int)) = true := by simpa using h2i
       have h2c : decide (hi < b1) = true := by simpa using h2
       have hans := HANS.out
       rw [U8.text_no (by have := HN.out; omega) (U8.one_bad (by rw [HC.out]; exact hge) (by rw [HC.out, HSZ.out, ← HLO.out, ← HHI.out, H1.out, ← HN.out]; omega))] at hans
       subst hans
       go_quiet (fail)
       go_wp2_with fail
       go_ret
       exact ⟨rfl, Below.dn HB2.out _⟩
      ·have h2i : ¬ ((hi : Nat) : Int) < ((b1 : Nat) : Int) := by omega
       have h2b : decide (((hi : Nat) : Int) < ((b1 : Nat) : Int)) = false := by simpa using h2i
       have h2c : decide (hi < b1) = false := by simpa using h2
       have HX := Y (show U8.text (l1.drop 2) = ans by
        have h1 := U8.one_good (l := l1) (by rw [HC.out]; exact hge) (by rw [HC.out, HSZ.out]; omega) (by rw [HC.out, HSZ.out, ← HN.out]; omega) (by rw [HC.out, ← HLO.out, ← HHI.out, H1.out]; omega) (fun h => by rw [HC.out, HSZ.out] at h; omega) (fun h => by rw [HC.out, HSZ.out] at h; omega)
        rw [HC.out, HSZ.out] at h1
        rw [← HANS.out, U8.text_step (l := l1) (by omega), h1])
       obtain ⟨m, hm⟩ : ∃ m, n1 - 2 = m := ⟨_, rfl⟩
       have hr : (2 : Int) ≤ (n1 : Int) := by omega
       by_cases hm0 : m = 0
       ·have hnsz : n1 = 2 := by omega
        subst hnsz
        go_quiet (fail)
        go_wp2_with fail
        go_roundw
        case rel => exact et 2 (by have := HN.out; omega) HX.out (Below.dn HB2.out _)
        case measure => simp [lenOf]
       ·have HL : Hid (Left w ans (.slice (some ⟨ad.block, ad.off + 2, none⟩) m m) w2) := Y (fz 2 m (by decide) HN.out hmax1 hm.symm HA2.out HX.out HB2.out)
        have hmlt : m < n1 := by omega
        go_quiet (fail)
        go_wp2_with fail
        go_roundw
        case rel => exact HL.out.draw _
        case measure => simp [lenOf]; omega
   ·as_aux_lemma =>
    rw [hsz] at hand t4
    have hand1 : bits .and .u8 (x : Int) 7 = 3 := hand
    have HSZ := Y hsz
    have HLO := Y (show lo = U8.lo b by exact (t4.resolve_left (by decide)).1)
    have HHI := Y (show hi = U8.hi b by exact (t4.resolve_left (by decide)).2)
    clear hand hsz t4
    go_wp2_with fail
    have cl : (wr.alloc (.cells #[.int .u8 (lo : Int), .int .u8 (hi : Int)] 220)).cell? ⟨wr.heap.size, 0, none⟩ = some (.int .u8 (lo : Int)) := by simp [go_sem]
    have ch : (wr.alloc (.cells #[.int .u8 (lo : Int), .int .u8 (hi : Int)] 220)).cell? ⟨wr.heap.size, 1, none⟩ = some (.int .u8 (hi : Int)) := by simp [go_sem]
    clear cx ca cb
    generalize wr.alloc (.cells #[.int .u8 (lo : Int), .int .u8 (hi : Int)] 220) = w2 at HBA HAA cl ch ⊢
    generalize wr.heap.size = gb at cl ch ⊢
    have HA2 := HAA
    have HB2 := HBA
    clear HAA HBA
    by_cases hn : n1 < 3
    ·have hni : ((n1 : Nat) : Int) < 3 := by omega
     have hnb : decide (((n1 : Nat) : Int) < 3) = true := by simpa using hni
     have hnc : decide (n1 < 3) = true := by simpa using hn
     have hans := HANS.out
     rw [U8.text_no (by have := HN.out; omega) (U8.one_bad (by rw [HC.out]; exact hge) (by rw [HC.out, HSZ.out, ← HLO.out, ← HHI.out, H1.out, ← HN.out, H2.out]; omega))] at hans
     subst hans
     go_quiet (fail)
     go_wp2_with fail
     go_ret
     exact ⟨rfl, Below.dn HB2.out _⟩
    ·have hni : ¬ ((n1 : Nat) : Int) < 3 := by omega
     have hnb : decide (((n1 : Nat) : Int) < 3) = false := by simpa using hni
     have hnc : decide (n1 < 3) = false := by simpa using hn
     have q1 : (1 : Int) < (n1 : Int) := by omega
     have p1 : 1 < n1 := by omega
     have cb1 : w2.cell? ⟨ad.block, ad.off + 1, none⟩ = some (.int .u8 (b1 : Int)) := by rw [← H1.out]; exact HA2.out.byte (k := 1) (by have := HN.out; omega) (by decide)
     have q2 : (2 : Int) < (n1 : Int) := by omega
     have p2 : 2 < n1 := by omega
     have cb2 : w2.cell? ⟨ad.block, ad.off + 2, none⟩ = some (.int .u8 (b2 : Int)) := by rw [← H2.out]; exact HA2.out.byte (k := 2) (by have := HN.out; omega) (by decide)
     by_cases h1 : b1 < lo
     ·have h1i : ((b1 : Nat) : Int) < ((lo : Nat) : Int) := by omega
      have h1b : decide (((b1 : Nat) : Int) < ((lo : Nat) : Int)) = true := by simpa using h1i
      have h1c : decide (b1 < lo) = true := by simpa using h1
      have hans := HANS.out
      rw [U8.text_no (by have := HN.out; omega) (U8.one_bad (by rw [HC.out]; exact hge) (by rw [HC.out, HSZ.out, ← HLO.out, ← HHI.out, H1.out, ← HN.out, H2.out]; omega))] at hans
      subst hans
      go_quiet (fail)
      go_wp2_with fail
      go_ret
      exact ⟨rfl, Below.dn HB2.out _⟩
     ·have h1i : ¬ ((b1 : Nat) : Int) < ((lo : Nat) : Int) := by omega
      have h1b : decide (((b1 : Nat) : Int) < ((lo : Nat) : Int)) = false := by simpa using h1i
      have h1c : decide (b1 < lo) = false := by simpa using h1
      by_cases h2 : hi < b1
      ·have h2i : ((hi : Nat) : Int) < ((b1 : Nat) : Int) := by omega
       have h2b : decide (((hi : Nat) : Int) < ((b1 : Nat) : Int)) = true := by simpa using h2i
       have h2c : decide (hi < b1) = true := by simpa using h2
       have hans := HANS.out
       rw [U8.text_no (by have := HN.out; omega) (U8.one_bad (by rw [HC.out]; exact hge) (by rw [HC.out, HSZ.out, ← HLO.out, ← HHI.out, H1.out, ← HN.out, H2.out]; omega))] at hans
       subst hans
       go_quiet (fail)
       go_wp2_with fail
       go_ret
       exact ⟨rfl, Below.dn HB2.out _⟩
      ·have h2i : ¬ ((hi : Nat) : Int) < ((b1 : Nat) : Int) := by omega
       have h2b : decide (((hi : Nat) : Int) < ((b1 : Nat) : Int)) = false := by simpa using h2i
       have h2c : decide (hi < b1) = false := by simpa using h2
       by_cases h3 : b2 < 128
       ·have h3i : ((b2 : Nat) : Int) < 128 := by omega
        have h3b : decide (((b2 : Nat) : Int) < 128) = true := by simpa using h3i
        have h3c : decide (b2 < 128) = true := by simpa using h3
        have hans := HANS.out
        rw [U8.text_no (by have := HN.out; omega) (U8.one_bad (by rw [HC.out]; exact hge) (by rw [HC.out, HSZ.out, ← HLO.out, ← HHI.out, H1.out, ← HN.out, H2.out]; omega))] at hans
        subst hans
        go_quiet (fail)
        go_wp2_with fail
        go_ret
        exact ⟨rfl, Below.dn HB2.out _⟩
       ·have h3i : ¬ ((b2 : Nat) : Int) < 128 := by omega
        have h3b : decide (((b2 : Nat) : Int) < 128) = false := by simpa using h3i
        have h3c : decide (b2 < 128) = false := by simpa using h3
        by_cases h4 : 191 < b2
        ·have h4i : (191 : Int) < ((b2 : Nat) : Int) := by omega
         have h4b : decide ((191 : Int) < ((b2 : Nat) : Int)) = true := by simpa using h4i
         have h4c : decide (191 < b2) = true := by simpa using h4
         have hans := HANS.out
         rw [U8.text_no (by have := HN.out; omega) (U8.one_bad (by rw [HC.out]; exact hge) (by rw [HC.out, HSZ.out, ← HLO.out, ← HHI.out, H1.out, ← HN.out, H2.out]; omega))] at hans
         subst hans
         go_quiet (fail)
         go_wp2_with fail
         go_ret
         exact ⟨rfl, Below.dn HB2.out _⟩
        ·have h4i : ¬ (191 : Int) < ((b2 : Nat) : Int) := by omega
         have h4b : decide ((191 : Int) < ((b2 : Nat) : Int)) = false := by simpa using h4i
         have h4c : decide (191 < b2) = false := by simpa using h4
         have HX := Y (show U8.text (l1.drop 3) = ans by
          have h1 := U8.one_good (l := l1) (by rw [HC.out]; exact hge) (by rw [HC.out, HSZ.out]; omega) (by rw [HC.out, HSZ.out, ← HN.out]; omega) (by rw [HC.out, ← HLO.out, ← HHI.out, H1.out]; omega) (fun _ => by rw [H2.out]; omega) (fun h => by rw [HC.out, HSZ.out] at h; omega)
          rw [HC.out, HSZ.out] at h1
          rw [← HANS.out, U8.text_step (l := l1) (by omega), h1])
         obtain ⟨m, hm⟩ : ∃ m, n1 - 3 = m := ⟨_, rfl⟩
         have hr : (3 : Int) ≤ (n1 : Int) := by omega
         by_cases hm0 : m = 0
         ·have hnsz : n1 = 3 := by omega
          subst hnsz
          go_quiet (fail)
          go_wp2_with fail
          go_roundw
          case rel => exact et 3 (by have := HN.out; omega) HX.out (Below.dn HB2.out _)
          case measure => simp [lenOf]
         ·have HL : Hid (Left w ans (.slice (some ⟨ad.block, ad.off + 3, none⟩) m m) w2) := Y (fz 3 m (by decide) HN.out hmax1 hm.symm HA2.out HX.out HB2.out)
          have hmlt : m < n1 := by omega
          go_quiet (fail)
          go_wp2_with fail
          go_roundw
          case rel => exact HL.out.draw _
          case measure => simp [lenOf]; omega
   ·as_aux_lemma =>
    rw [hsz] at hand t4
    have hand1 : bits .and .u8 (x : Int) 7 = 4 := hand
    have HSZ := Y hsz
    have HLO := Y (show lo = U8.lo b by exact (t4.resolve_left (by decide)).1)
    have HHI := Y (show hi = U8.hi b by exact (t4.resolve_left (by decide)).2)
    clear hand hsz t4
    go_wp2_with fail
    have cl : (wr.alloc (.cells #[.int .u8 (lo : Int), .int .u8 (hi : Int)] 220)).cell? ⟨wr.heap.size, 0, none⟩ = some (.int .u8 (lo : Int)) := by simp [go_sem]
    have ch : (wr.alloc (.cells #[.int .u8 (lo : Int), .int .u8 (hi : Int)] 220)).cell? ⟨wr.heap.size, 1, none⟩ = some (.int .u8 (hi : Int)) := by simp [go_sem]
    clear cx ca cb
    generalize wr.alloc (.cells #[.int .u8 (lo : Int), .int .u8 (hi : Int)] 220) = w2 at HBA HAA cl ch ⊢
    generalize wr.heap.size = gb at cl ch ⊢
    have HA2 := HAA
    have HB2 := HBA
    clear HAA HBA
    by_cases hn : n1 < 4
    ·have hni : ((n1 : Nat) : Int) < 4 := by omega
     have hnb : decide (((n1 : Nat) : Int) < 4) = true := by simpa using hni
     have hnc : decide (n1 < 4) = true := by simpa using hn
     have hans := HANS.out
     rw [U8.text_no (by have := HN.out; omega) (U8.one_bad (by rw [HC.out]; exact hge) (by rw [HC.out, HSZ.out, ← HLO.out, ← HHI.out, H1.out, ← HN.out, H2.out, H3.out]; omega))] at hans
     subst hans
     go_quiet (fail)
     go_wp2_with fail
     go_ret
     exact ⟨rfl, Below.dn HB2.out _⟩
    ·have hni : ¬ ((n1 : Nat) : Int) < 4 := by omega
     have hnb : decide (((n1 : Nat) : Int) < 4) = false := by simpa using hni
     have hnc : decide (n1 < 4) = false := by simpa using hn
     have q1 : (1 : Int) < (n1 : Int) := by omega
     have p1 : 1 < n1 := by omega
     have cb1 : w2.cell? ⟨ad.block, ad.off + 1, none⟩ = some (.int .u8 (b1 : Int)) := by rw [← H1.out]; exact HA2.out.byte (k := 1) (by have := HN.out; omega) (by decide)
     have q2 : (2 : Int) < (n1 : Int) := by omega
     have p2 : 2 < n1 := by omega
     have cb2 : w2.cell? ⟨ad.block, ad.off + 2, none⟩ = some (.int .u8 (b2 : Int)) := by rw [← H2.out]; exact HA2.out.byte (k := 2) (by have := HN.out; omega) (by decide)
     have q3 : (3 : Int) < (n1 : Int) := by omega
     have p3 : 3 < n1 := by omega
     have cb3 : w2.cell? ⟨ad.block, ad.off + 3, none⟩ = some (.int .u8 (b3 : Int)) := by rw [← H3.out]; exact HA2.out.byte (k := 3) (by have := HN.out; omega) (by decide)
     by_cases h1 : b1 < lo
     ·have h1i : ((b1 : Nat) : Int) < ((lo : Nat) : Int) := by omega
      have h1b : decide (((b1 : Nat) : Int) < ((lo : Nat) : Int)) = true := by simpa using h1i
      have h1c : decide (b1 < lo) = true := by simpa using h1
      have hans := HANS.out
      rw [U8.text_no (by have := HN.out; omega) (U8.one_bad (by rw [HC.out]; exact hge) (by rw [HC.out, HSZ.out, ← HLO.out, ← HHI.out, H1.out, ← HN.out, H2.out, H3.out]; omega))] at hans
      subst hans
      go_quiet (fail)
      go_wp2_with fail
      go_ret
      exact ⟨rfl, Below.dn HB2.out _⟩
     ·have h1i : ¬ ((b1 : Nat) : Int) < ((lo : Nat) : Int) := by omega
      have h1b : decide (((b1 : Nat) : Int) < ((lo : Nat) : Int)) = false := by simpa using h1i
      have h1c : decide (b1 < lo) = false := by simpa using h1
      by_cases h2 : hi < b1
      ·have h2i : ((hi : Nat) : Int) < ((b1 : Nat) : Int) := by omega
       have h2b : decide (((hi : Nat) : Int) < ((b1 : Nat) : Int)) = true := by simpa using h2i
       have h2c : decide (hi < b1) = true := by simpa using h2
       have hans := HANS.out
       rw [U8.text_no (by have := HN.out; omega) (U8.one_bad (by rw [HC.out]; exact hge) (by rw [HC.out, HSZ.out, ← HLO.out, ← HHI.out, H1.out, ← HN.out, H2.out, H3.out]; omega))] at hans
       subst hans
       go_quiet (fail)
       go_wp2_with fail
       go_ret
       exact ⟨rfl, Below.dn HB2.out _⟩
      ·have h2i : ¬ ((hi : Nat) : Int) < ((b1 : Nat) : Int) := by omega
       have h2b : decide (((hi : Nat) : Int) < ((b1 : Nat) : Int)) = false := by simpa using h2i
       have h2c : decide (hi < b1) = false := by simpa using h2
       by_cases h3 : b2 < 128
       ·have h3i : ((b2 : Nat) : Int) < 128 := by omega
        have h3b : decide (((b2 : Nat) : Int) < 128) = true := by simpa using h3i
        have h3c : decide (b2 < 128) = true := by simpa using h3
        have hans := HANS.out
        rw [U8.text_no (by have := HN.out; omega) (U8.one_bad (by rw [HC.out]; exact hge) (by rw [HC.out, HSZ.out, ← HLO.out, ← HHI.out, H1.out, ← HN.out, H2.out, H3.out]; omega))] at hans
        subst hans
        go_quiet (fail)
        go_wp2_with fail
        go_ret
        exact ⟨rfl, Below.dn HB2.out _⟩
       ·have h3i : ¬ ((b2 : Nat) : Int) < 128 := by omega
        have h3b : decide (((b2 : Nat) : Int) < 128) = false := by simpa using h3i
        have h3c : decide (b2 < 128) = false := by simpa using h3
        by_cases h4 : 191 < b2
        ·have h4i : (191 : Int) < ((b2 : Nat) : Int) := by omega
         have h4b : decide ((191 : Int) < ((b2 : Nat) : Int)) = true := by simpa using h4i
         have h4c : decide (191 < b2) = true := by simpa using h4
         have hans := HANS.out
         rw [U8.text_no (by have := HN.out; omega) (U8.one_bad (by rw [HC.out]; exact hge) (by rw [HC.out, HSZ.out, ← HLO.out, ← HHI.out, H1.out, ← HN.out, H2.out, H3.out]; omega))] at hans
         subst hans
         go_quiet (fail)
         go_wp2_with fail
         go_ret
         exact ⟨rfl, Below.dn HB2.out _⟩
        ·have h4i : ¬ (191 : Int) < ((b2 : Nat) : Int) := by omega
         have h4b : decide ((191 : Int) < ((b2 : Nat) : Int)) = false := by simpa using h4i
         have h4c : decide (191 < b2) = false := by simpa using h4
         by_cases h5 : b3 < 128
         ·have h5i : ((b3 : Nat) : Int) < 128 := by omega
          have h5b : decide (((b3 : Nat) : Int) < 128) = true := by simpa using h5i
          have h5c : decide (b3 < 128) = true := by simpa using h5
          have hans := HANS.out
          rw [U8.text_no (by have := HN.out; omega) (U8.one_bad (by rw [HC.out]; exact hge) (by rw [HC.out, HSZ.out, ← HLO.out, ← HHI.out, H1.out, ← HN.out, H2.out, H3.out]; omega))] at hans
          subst hans
          go_quiet (fail)
          go_wp2_with fail
          go_ret
          exact ⟨rfl, Below.dn HB2.out _⟩
         ·have h5i : ¬ ((b3 : Nat) : Int) < 128 := by omega
          have h5b : decide (((b3 : Nat) : Int) < 128) = false := by simpa using h5i
          have h5c : decide (b3 < 128) = false := by simpa using h5
          by_cases h6 : 191 < b3
          ·have h6i : (191 : Int) < ((b3 : Nat) : Int) := by omega
           have h6b : decide ((191 : Int) < ((b3 : Nat) : Int)) = true := by simpa using h6i
           have h6c : decide (191 < b3) = true := by simpa using h6
           have hans := HANS.out
           rw [U8.text_no (by have := HN.out; omega) (U8.one_bad (by rw [HC.out]; exact hge) (by rw [HC.out, HSZ.out, ← HLO.out, ← HHI.out, H1.out, ← HN.out, H2.out, H3.out]; omega))] at hans
           subst hans
           go_quiet (fail)
           go_wp2_with fail
           go_ret
           exact ⟨rfl, Below.dn HB2.out _⟩
          ·have h6i : ¬ (191 : Int) < ((b3 : Nat) : Int) := by omega
           have h6b : decide ((191 : Int) < ((b3 : Nat) : Int)) = false := by simpa using h6i
           have h6c : decide (191 < b3) = false := by simpa using h6
           have HX := Y (show U8.text (l1.drop 4) = ans by
            have h1 := U8.one_good (l := l1) (by rw [HC.out]; exact hge) (by rw [HC.out, HSZ.out]; omega) (by rw [HC.out, HSZ.out, ← HN.out]; omega) (by rw [HC.out, ← HLO.out, ← HHI.out, H1.out]; omega) (fun _ => by rw [H2.out]; omega) (fun _ => by rw [H3.out]; omega)
            rw [HC.out, HSZ.out] at h1
            rw [← HANS.out, U8.text_step (l := l1) (by omega), h1])
           obtain ⟨m, hm⟩ : ∃ m, n1 - 4 = m := ⟨_, rfl⟩
           have hr : (4 : Int) ≤ (n1 : Int) := by omega
           by_cases hm0 : m = 0
           ·have hnsz : n1 = 4 := by omega
            subst hnsz
            go_quiet (fail)
            go_wp2_with fail
            go_roundw
            case rel => exact et 4 (by have := HN.out; omega) HX.out (Below.dn HB2.out _)
            case measure => simp [lenOf]
           ·have HL : Hid (Left w ans (.slice (some ⟨ad.block, ad.off + 4, none⟩) m m) w2) := Y (fz 4 m (by decide) HN.out hmax1 hm.symm HA2.out HX.out HB2.out)
            have hmlt : m < n1 := by omega
            go_quiet (fail)
            go_wp2_with fail
            go_roundw
            case rel => exact HL.out.draw _
            case measure => simp [lenOf]; omega
end Go.Proofs.YthkglmkpnhhboaaGreatDoor
