/-
  Layer 10's program: asks: which method an opcode has. (gen/body/asks.py)
-/
import Derived.Test.YtelcdmkbaegjoaaGreatLq01
import Derived.Test.YtelcdmkbaegjoaaGreatLq37
import Derived.Lib.BitFns
import Derived.Lib.Tables
import Derived.Test.YtelcdmkbaegjoaaGreatLq39
set_option maxRecDepth 100000
set_option maxHeartbeats 4000000
namespace Go.Proofs.YtelcdmkbaegjoaaGreat
open Go.RowKit Ins Bin Sp
theorem asks2_any (R : Nat) (w : World) : Calls Tryz.prog 48 #[.pointer (some ⟨R, 0, none⟩), .int .u8 2] w fun e w' => e = .returned (.func (.func 71) #[.pointer (some ⟨R, 0, none⟩)] #[]) ∧ w = w' := by
 go_enter Tryz.func48, Tryz.ntmps48
 go_wp2_with fail
 go_ret
 exact ⟨rfl, rfl⟩
theorem asks3_any (R : Nat) (w : World) : Calls Tryz.prog 48 #[.pointer (some ⟨R, 0, none⟩), .int .u8 3] w fun e w' => e = .returned (.func (.func 71) #[.pointer (some ⟨R, 0, none⟩)] #[]) ∧ w = w' := by
 go_enter Tryz.func48, Tryz.ntmps48
 go_wp2_with fail
 go_ret
 exact ⟨rfl, rfl⟩
theorem asks4_any (R : Nat) (w : World) : Calls Tryz.prog 48 #[.pointer (some ⟨R, 0, none⟩), .int .u8 4] w fun e w' => e = .returned (.func (.func 71) #[.pointer (some ⟨R, 0, none⟩)] #[]) ∧ w = w' := by
 go_enter Tryz.func48, Tryz.ntmps48
 go_wp2_with fail
 go_ret
 exact ⟨rfl, rfl⟩
theorem asks5_any (R : Nat) (w : World) : Calls Tryz.prog 48 #[.pointer (some ⟨R, 0, none⟩), .int .u8 5] w fun e w' => e = .returned (.func (.func 72) #[.pointer (some ⟨R, 0, none⟩)] #[]) ∧ w = w' := by
 go_enter Tryz.func48, Tryz.ntmps48
 go_wp2_with fail
 go_ret
 exact ⟨rfl, rfl⟩
theorem asks11_any (R : Nat) (w : World) : Calls Tryz.prog 48 #[.pointer (some ⟨R, 0, none⟩), .int .u8 11] w fun e w' => e = .returned (.func (.func 73) #[.pointer (some ⟨R, 0, none⟩)] #[]) ∧ w = w' := by
 go_enter Tryz.func48, Tryz.ntmps48
 go_wp2_with fail
 go_ret
 exact ⟨rfl, rfl⟩
theorem asks12_any (R : Nat) (w : World) : Calls Tryz.prog 48 #[.pointer (some ⟨R, 0, none⟩), .int .u8 12] w fun e w' => e = .returned (.func (.func 74) #[.pointer (some ⟨R, 0, none⟩)] #[]) ∧ w = w' := by
 go_enter Tryz.func48, Tryz.ntmps48
 go_wp2_with fail
 go_ret
 exact ⟨rfl, rfl⟩
theorem asks13_any (R : Nat) (w : World) : Calls Tryz.prog 48 #[.pointer (some ⟨R, 0, none⟩), .int .u8 13] w fun e w' => e = .returned (.func (.func 75) #[.pointer (some ⟨R, 0, none⟩)] #[]) ∧ w = w' := by
 go_enter Tryz.func48, Tryz.ntmps48
 go_wp2_with fail
 go_ret
 exact ⟨rfl, rfl⟩
theorem asks14_any (R : Nat) (w : World) : Calls Tryz.prog 48 #[.pointer (some ⟨R, 0, none⟩), .int .u8 14] w fun e w' => e = .returned (.func (.func 76) #[.pointer (some ⟨R, 0, none⟩)] #[]) ∧ w = w' := by
 go_enter Tryz.func48, Tryz.ntmps48
 go_wp2_with fail
 go_ret
 exact ⟨rfl, rfl⟩
theorem asks15_any (R : Nat) (w : World) : Calls Tryz.prog 48 #[.pointer (some ⟨R, 0, none⟩), .int .u8 15] w fun e w' => e = .returned (.func (.func 77) #[.pointer (some ⟨R, 0, none⟩)] #[]) ∧ w = w' := by
 go_enter Tryz.func48, Tryz.ntmps48
 go_wp2_with fail
 go_ret
 exact ⟨rfl, rfl⟩
theorem asks0_any (R : Nat) (w : World) : Calls Tryz.prog 48 #[.pointer (some ⟨R, 0, none⟩), .int .u8 0] w fun e w' => e = .returned (.func (.func 78) #[.pointer (some ⟨R, 0, none⟩)] #[]) ∧ w = w' := by
 go_enter Tryz.func48, Tryz.ntmps48
 go_wp2_with fail
 go_ret
 exact ⟨rfl, rfl⟩
theorem asks16_any (R : Nat) (w : World) : Calls Tryz.prog 48 #[.pointer (some ⟨R, 0, none⟩), .int .u8 16] w fun e w' => e = .returned (.func (.func 79) #[.pointer (some ⟨R, 0, none⟩)] #[]) ∧ w = w' := by
 go_enter Tryz.func48, Tryz.ntmps48
 go_wp2_with fail
 go_ret
 exact ⟨rfl, rfl⟩
theorem asks17_any (R : Nat) (w : World) : Calls Tryz.prog 48 #[.pointer (some ⟨R, 0, none⟩), .int .u8 17] w fun e w' => e = .returned (.func (.func 80) #[.pointer (some ⟨R, 0, none⟩)] #[]) ∧ w = w' := by
 go_enter Tryz.func48, Tryz.ntmps48
 go_wp2_with fail
 go_ret
 exact ⟨rfl, rfl⟩
theorem asks26_any (R : Nat) (w : World) : Calls Tryz.prog 48 #[.pointer (some ⟨R, 0, none⟩), .int .u8 26] w fun e w' => e = .returned (.func (.func 81) #[.pointer (some ⟨R, 0, none⟩)] #[]) ∧ w = w' := by
 go_enter Tryz.func48, Tryz.ntmps48
 go_wp2_with fail
 go_ret
 exact ⟨rfl, rfl⟩
theorem asks27_any (R : Nat) (w : World) : Calls Tryz.prog 48 #[.pointer (some ⟨R, 0, none⟩), .int .u8 27] w fun e w' => e = .returned (.func (.func 82) #[.pointer (some ⟨R, 0, none⟩)] #[]) ∧ w = w' := by
 go_enter Tryz.func48, Tryz.ntmps48
 go_wp2_with fail
 go_ret
 exact ⟨rfl, rfl⟩
theorem asks32_any (R : Nat) (w : World) : Calls Tryz.prog 48 #[.pointer (some ⟨R, 0, none⟩), .int .u8 32] w fun e w' => e = .returned (.func (.func 83) #[.pointer (some ⟨R, 0, none⟩)] #[]) ∧ w = w' := by
 go_enter Tryz.func48, Tryz.ntmps48
 go_wp2_with fail
 go_ret
 exact ⟨rfl, rfl⟩
theorem asks33_any (R : Nat) (w : World) : Calls Tryz.prog 48 #[.pointer (some ⟨R, 0, none⟩), .int .u8 33] w fun e w' => e = .returned (.func (.func 83) #[.pointer (some ⟨R, 0, none⟩)] #[]) ∧ w = w' := by
 go_enter Tryz.func48, Tryz.ntmps48
 go_wp2_with fail
 go_ret
 exact ⟨rfl, rfl⟩
theorem asks34_any (R : Nat) (w : World) : Calls Tryz.prog 48 #[.pointer (some ⟨R, 0, none⟩), .int .u8 34] w fun e w' => e = .returned (.func (.func 83) #[.pointer (some ⟨R, 0, none⟩)] #[]) ∧ w = w' := by
 go_enter Tryz.func48, Tryz.ntmps48
 go_wp2_with fail
 go_ret
 exact ⟨rfl, rfl⟩
theorem asks35_any (R : Nat) (w : World) : Calls Tryz.prog 48 #[.pointer (some ⟨R, 0, none⟩), .int .u8 35] w fun e w' => e = .returned (.func (.func 84) #[.pointer (some ⟨R, 0, none⟩)] #[]) ∧ w = w' := by
 go_enter Tryz.func48, Tryz.ntmps48
 go_wp2_with fail
 go_ret
 exact ⟨rfl, rfl⟩
theorem asks36_any (R : Nat) (w : World) : Calls Tryz.prog 48 #[.pointer (some ⟨R, 0, none⟩), .int .u8 36] w fun e w' => e = .returned (.func (.func 85) #[.pointer (some ⟨R, 0, none⟩)] #[]) ∧ w = w' := by
 go_enter Tryz.func48, Tryz.ntmps48
 go_wp2_with fail
 go_ret
 exact ⟨rfl, rfl⟩
theorem asks63_any (R : Nat) (w : World) : Calls Tryz.prog 48 #[.pointer (some ⟨R, 0, none⟩), .int .u8 63] w fun e w' => e = .returned (.func (.func 86) #[.pointer (some ⟨R, 0, none⟩)] #[]) ∧ w = w' := by
 go_enter Tryz.func48, Tryz.ntmps48
 go_wp2_with fail
 go_ret
 exact ⟨rfl, rfl⟩
theorem asks64_any (R : Nat) (w : World) : Calls Tryz.prog 48 #[.pointer (some ⟨R, 0, none⟩), .int .u8 64] w fun e w' => e = .returned (.func (.func 86) #[.pointer (some ⟨R, 0, none⟩)] #[]) ∧ w = w' := by
 go_enter Tryz.func48, Tryz.ntmps48
 go_wp2_with fail
 go_ret
 exact ⟨rfl, rfl⟩
theorem asksAcc_any (R op : Nat) (h0 : ¬ op = 0) (h2 : ¬ op = 2) (h3 : ¬ op = 3) (h4 : ¬ op = 4) (h5 : ¬ op = 5) (h11 : ¬ op = 11) (h12 : ¬ op = 12) (h13 : ¬ op = 13) (h14 : ¬ op = 14) (h15 : ¬ op = 15) (h16 : ¬ op = 16) (h17 : ¬ op = 17) (h26 : ¬ op = 26) (h27 : ¬ op = 27) (h32 : ¬ op = 32) (h33 : ¬ op = 33) (h34 : ¬ op = 34) (h35 : ¬ op = 35) (h36 : ¬ op = 36) (h63 : ¬ op = 63) (h64 : ¬ op = 64) (hw : 0 < Opc.width op) (w : World) : Calls Tryz.prog 48 #[.pointer (some ⟨R, 0, none⟩), .int .u8 (op : Int)] w fun e w' => e = .returned (.func (.func 88) #[.pointer (some ⟨R, 0, none⟩)] #[]) ∧ w = w' := by
 have i0 : ((op : Int) == 0) = false := by rw [beq_eq_false_iff_ne]; omega
 have j0 : ¬ ((op : Int) = 0) := by omega
 have i2 : ((op : Int) == 2) = false := by rw [beq_eq_false_iff_ne]; omega
 have j2 : ¬ ((op : Int) = 2) := by omega
 have i3 : ((op : Int) == 3) = false := by rw [beq_eq_false_iff_ne]; omega
 have j3 : ¬ ((op : Int) = 3) := by omega
 have i4 : ((op : Int) == 4) = false := by rw [beq_eq_false_iff_ne]; omega
 have j4 : ¬ ((op : Int) = 4) := by omega
 have i5 : ((op : Int) == 5) = false := by rw [beq_eq_false_iff_ne]; omega
 have j5 : ¬ ((op : Int) = 5) := by omega
 have i11 : ((op : Int) == 11) = false := by rw [beq_eq_false_iff_ne]; omega
 have j11 : ¬ ((op : Int) = 11) := by omega
 have i12 : ((op : Int) == 12) = false := by rw [beq_eq_false_iff_ne]; omega
 have j12 : ¬ ((op : Int) = 12) := by omega
 have i13 : ((op : Int) == 13) = false := by rw [beq_eq_false_iff_ne]; omega
 have j13 : ¬ ((op : Int) = 13) := by omega
 have i14 : ((op : Int) == 14) = false := by rw [beq_eq_false_iff_ne]; omega
 have j14 : ¬ ((op : Int) = 14) := by omega
 have i15 : ((op : Int) == 15) = false := by rw [beq_eq_false_iff_ne]; omega
 have j15 : ¬ ((op : Int) = 15) := by omega
 have i16 : ((op : Int) == 16) = false := by rw [beq_eq_false_iff_ne]; omega
 have j16 : ¬ ((op : Int) = 16) := by omega
 have i17 : ((op : Int) == 17) = false := by rw [beq_eq_false_iff_ne]; omega
 have j17 : ¬ ((op : Int) = 17) := by omega
 have i26 : ((op : Int) == 26) = false := by rw [beq_eq_false_iff_ne]; omega
 have j26 : ¬ ((op : Int) = 26) := by omega
 have i27 : ((op : Int) == 27) = false := by rw [beq_eq_false_iff_ne]; omega
 have j27 : ¬ ((op : Int) = 27) := by omega
 have i32 : ((op : Int) == 32) = false := by rw [beq_eq_false_iff_ne]; omega
 have j32 : ¬ ((op : Int) = 32) := by omega
 have i33 : ((op : Int) == 33) = false := by rw [beq_eq_false_iff_ne]; omega
 have j33 : ¬ ((op : Int) = 33) := by omega
 have i34 : ((op : Int) == 34) = false := by rw [beq_eq_false_iff_ne]; omega
 have j34 : ¬ ((op : Int) = 34) := by omega
 have i35 : ((op : Int) == 35) = false := by rw [beq_eq_false_iff_ne]; omega
 have j35 : ¬ ((op : Int) = 35) := by omega
 have i36 : ((op : Int) == 36) = false := by rw [beq_eq_false_iff_ne]; omega
 have j36 : ¬ ((op : Int) = 36) := by omega
 have i63 : ((op : Int) == 63) = false := by rw [beq_eq_false_iff_ne]; omega
 have j63 : ¬ ((op : Int) = 63) := by omega
 have i64 : ((op : Int) == 64) = false := by rw [beq_eq_false_iff_ne]; omega
 have j64 : ¬ ((op : Int) = 64) := by omega
 have HWD : Hid (∀ W, Calls Tryz.prog 87 #[.int .u8 (op : Int)] W fun e w' => e = .returned (.int .i64 (Opc.width op)) ∧ W = w') := J (fun W => cj (op : Int) W)
 generalize Opc.width op = wd at HWD hw
 have hwd : decide (0 < wd) = true := decide_eq_true hw
 go_enter Tryz.func48, Tryz.ntmps48
 go_wp2_with (go_at_call 87; refine (HWD.out _).mono ?_; rintro e w9 ⟨rfl, rfl⟩)
 go_ret
 exact ⟨rfl, rfl⟩
theorem asksPln_any (R op : Nat) (h0 : ¬ op = 0) (h2 : ¬ op = 2) (h3 : ¬ op = 3) (h4 : ¬ op = 4) (h5 : ¬ op = 5) (h11 : ¬ op = 11) (h12 : ¬ op = 12) (h13 : ¬ op = 13) (h14 : ¬ op = 14) (h15 : ¬ op = 15) (h16 : ¬ op = 16) (h17 : ¬ op = 17) (h26 : ¬ op = 26) (h27 : ¬ op = 27) (h32 : ¬ op = 32) (h33 : ¬ op = 33) (h34 : ¬ op = 34) (h35 : ¬ op = 35) (h36 : ¬ op = 36) (h63 : ¬ op = 63) (h64 : ¬ op = 64) (hw : ¬ 0 < Opc.width op) (w : World) : Calls Tryz.prog 48 #[.pointer (some ⟨R, 0, none⟩), .int .u8 (op : Int)] w fun e w' => e = .returned (.func (.func 89) #[.pointer (some ⟨R, 0, none⟩)] #[]) ∧ w = w' := by
 have i0 : ((op : Int) == 0) = false := by rw [beq_eq_false_iff_ne]; omega
 have j0 : ¬ ((op : Int) = 0) := by omega
 have i2 : ((op : Int) == 2) = false := by rw [beq_eq_false_iff_ne]; omega
 have j2 : ¬ ((op : Int) = 2) := by omega
 have i3 : ((op : Int) == 3) = false := by rw [beq_eq_false_iff_ne]; omega
 have j3 : ¬ ((op : Int) = 3) := by omega
 have i4 : ((op : Int) == 4) = false := by rw [beq_eq_false_iff_ne]; omega
 have j4 : ¬ ((op : Int) = 4) := by omega
 have i5 : ((op : Int) == 5) = false := by rw [beq_eq_false_iff_ne]; omega
 have j5 : ¬ ((op : Int) = 5) := by omega
 have i11 : ((op : Int) == 11) = false := by rw [beq_eq_false_iff_ne]; omega
 have j11 : ¬ ((op : Int) = 11) := by omega
 have i12 : ((op : Int) == 12) = false := by rw [beq_eq_false_iff_ne]; omega
 have j12 : ¬ ((op : Int) = 12) := by omega
 have i13 : ((op : Int) == 13) = false := by rw [beq_eq_false_iff_ne]; omega
 have j13 : ¬ ((op : Int) = 13) := by omega
 have i14 : ((op : Int) == 14) = false := by rw [beq_eq_false_iff_ne]; omega
 have j14 : ¬ ((op : Int) = 14) := by omega
 have i15 : ((op : Int) == 15) = false := by rw [beq_eq_false_iff_ne]; omega
 have j15 : ¬ ((op : Int) = 15) := by omega
 have i16 : ((op : Int) == 16) = false := by rw [beq_eq_false_iff_ne]; omega
 have j16 : ¬ ((op : Int) = 16) := by omega
 have i17 : ((op : Int) == 17) = false := by rw [beq_eq_false_iff_ne]; omega
 have j17 : ¬ ((op : Int) = 17) := by omega
 have i26 : ((op : Int) == 26) = false := by rw [beq_eq_false_iff_ne]; omega
 have j26 : ¬ ((op : Int) = 26) := by omega
 have i27 : ((op : Int) == 27) = false := by rw [beq_eq_false_iff_ne]; omega
 have j27 : ¬ ((op : Int) = 27) := by omega
 have i32 : ((op : Int) == 32) = false := by rw [beq_eq_false_iff_ne]; omega
 have j32 : ¬ ((op : Int) = 32) := by omega
 have i33 : ((op : Int) == 33) = false := by rw [beq_eq_false_iff_ne]; omega
 have j33 : ¬ ((op : Int) = 33) := by omega
 have i34 : ((op : Int) == 34) = false := by rw [beq_eq_false_iff_ne]; omega
 have j34 : ¬ ((op : Int) = 34) := by omega
 have i35 : ((op : Int) == 35) = false := by rw [beq_eq_false_iff_ne]; omega
 have j35 : ¬ ((op : Int) = 35) := by omega
 have i36 : ((op : Int) == 36) = false := by rw [beq_eq_false_iff_ne]; omega
 have j36 : ¬ ((op : Int) = 36) := by omega
 have i63 : ((op : Int) == 63) = false := by rw [beq_eq_false_iff_ne]; omega
 have j63 : ¬ ((op : Int) = 63) := by omega
 have i64 : ((op : Int) == 64) = false := by rw [beq_eq_false_iff_ne]; omega
 have j64 : ¬ ((op : Int) = 64) := by omega
 have HWD : Hid (∀ W, Calls Tryz.prog 87 #[.int .u8 (op : Int)] W fun e w' => e = .returned (.int .i64 (Opc.width op)) ∧ W = w') := J (fun W => cj (op : Int) W)
 generalize Opc.width op = wd at HWD hw
 have hwd : decide (0 < wd) = false := decide_eq_false hw
 go_enter Tryz.func48, Tryz.ntmps48
 go_wp2_with (go_at_call 87; refine (HWD.out _).mono ?_; rintro e w9 ⟨rfl, rfl⟩)
 go_ret
 exact ⟨rfl, rfl⟩
theorem len8_at (i : Nat) (h : i < Lib.len8tab.size) : ((Lib.len8tab[i].toNat : Nat) : Int) = (Lib.bitLen i : Int) := by
 have hs := Lib.len8tab_size
 have e := Lib.len8_of (i : Int) (by omega) (by omega)
 rw [Int.toNat_natCast] at e
 rw [← e]
 unfold Lib.len8
 rw [Int.toNat_natCast]
 simp [h]
theorem wrap_len (c : Int) (i : Nat) (h : i < Lib.len8tab.size) (hc0 : 0 ≤ c) (hc1 : c ≤ 100) : wrap64 (c + wrap64 ((Lib.len8tab[i].toNat : Nat) : Int)) = c + (Lib.bitLen i : Int) := by
 have hs := Lib.len8tab_size
 have hl := Lib.bitLen_le8 ⟨i, by omega⟩
 simp only at hl
 rw [len8_at i h]
 unfold wrap64
 omega
theorem bn (c i m : Nat) (hc : c ≤ 100) (hm : Lib.bitLen m = c + Lib.bitLen i) (h : i < Lib.len8tab.size) : wrap64 ((c : Int) + wrap64 ((Lib.len8tab[i].toNat : Nat) : Int)) = (Lib.bitLen m : Int) := by
 rw [wrap_len c i h (by omega) (by omega), hm]; omega
theorem len_done0 (i : Nat) (h : i < Lib.len8tab.size) : wrap64 (wrap64 ((Lib.len8tab[i].toNat : Nat) : Int)) = (Lib.bitLen i : Int) := by
 have := wrap_len 0 i h (by omega) (by omega)
 simpa using this
theorem c14 (x : Int) (w : World) (h0 : 0 ≤ x) (h1 : x ≤ 18446744073709551615) :
  Calls Tryz.prog 123 #[.int .u64 x] w fun e w' => e = .returned (.int .i64 (Lib.bitLen x.toNat : Int)) ∧ w = w' := by
 have hts := Lib.len8tab_size
 go_enter Tryz.func123, Tryz.ntmps123
 go_wp2
 all_goals (go_ret; refine ⟨congrArg Ending.returned (congrArg (Value.int IntKind.i64) ?_), rfl⟩)
 ·have e : (x / 4294967296 / 65536 / 256).toNat = x.toNat / 72057594037927936 := by omega
  refine (bn 56 (x / 4294967296 / 65536 / 256).toNat x.toNat (by omega) ?_ _)
  rw [e]; exact Lib.bitLen_shift56 x.toNat (by omega) (by omega)
 ·have e : (x / 4294967296 / 65536).toNat = x.toNat / 281474976710656 := by omega
  refine (bn 48 (x / 4294967296 / 65536).toNat x.toNat (by omega) ?_ _)
  rw [e]; exact Lib.bitLen_shift48 x.toNat (by omega) (by omega)
 ·have e : (x / 4294967296 / 256).toNat = x.toNat / 1099511627776 := by omega
  refine (bn 40 (x / 4294967296 / 256).toNat x.toNat (by omega) ?_ _)
  rw [e]; exact Lib.bitLen_shift40 x.toNat (by omega) (by omega)
 ·have e : (x / 4294967296).toNat = x.toNat / 4294967296 := by omega
  refine (bn 32 (x / 4294967296).toNat x.toNat (by omega) ?_ _)
  rw [e]; exact Lib.bitLen_shift32 x.toNat (by omega) (by omega)
 ·have e : (x / 65536 / 256).toNat = x.toNat / 16777216 := by omega
  refine (bn 24 (x / 65536 / 256).toNat x.toNat (by omega) ?_ _)
  rw [e]; exact Lib.bitLen_shift24 x.toNat (by omega) (by omega)
 ·have e : (x / 65536).toNat = x.toNat / 65536 := by omega
  refine (bn 16 (x / 65536).toNat x.toNat (by omega) ?_ _)
  rw [e]; exact Lib.bitLen_shift16 x.toNat (by omega) (by omega)
 ·have e : (x / 256).toNat = x.toNat / 256 := by omega
  refine (bn 8 (x / 256).toNat x.toNat (by omega) ?_ _)
  rw [e]; exact Lib.bitLen_shift8 x.toNat (by omega) (by omega)
 ·exact len_done0 x.toNat _
theorem blen_any (x : Int) (w : World) (h0 : 0 ≤ x) (h1 : x ≤ 18446744073709551615) :
  Calls Tryz.prog 112 #[.int .u64 x] w fun e w' => e = .returned (.int .i64 (Lib.bitLen x.toNat : Int)) ∧ w = w' := by
 have HC := J (fun W => c14 x W h0 h1)
 clear h0 h1
 go_enter Tryz.func112, Tryz.ntmps112
 go_wp2_with (go_at_call 123; refine (HC.out _).mono ?_; rintro e w1 ⟨rfl, rfl⟩)
 go_ret
 exact ⟨rfl, rfl⟩
theorem width_bits (op : Nat) (h : 0 < Opc.width op) : (Lib.bitLen (Opc.width op).toNat = Bo.blen (Opc.width op)) ∧ 0 ≤ Opc.width op ∧ Opc.width op ≤ 8 := by
 unfold Opc.width at h ⊢
 (repeat' split) <;> first
  | exact ⟨by decide, by decide, by decide⟩
  | (exfalso; revert h; simp_all)
theorem cV {C : Ctx} {R P n : Nat} {w : World} {G : Nat → Prop} {s : Ty.T} {o : List Bool} (hC : C.Good) (h : Wk C R P w G s o) (hs : s.sm n) (hn : n ≤ 400000000) (op a b : Nat) (c : Int) (A4 : Option Addr) (l4 c4 : Nat) (ha : a < 4294967296) :
  Calls Tryz.prog 83 #[.pointer (some ⟨R, 0, none⟩), .agg #[.int .u8 (op : Int), .int .u32 (a : Int), .int .u32 (b : Int), .int .i64 c, .slice A4 l4 c4]] w (ak C R P G o w (Bo.locl C.env op a s)) := by
 have HX0 := J (heap_alloc_new w (.cells #[.int .u8 (op : Int), .int .u32 (a : Int), .int .u32 (b : Int), .int .i64 c, .slice A4 l4 c4] 57))
 have HB0 : Hid (Below w.heap.size w (w.alloc (.cells #[.int .u8 (op : Int), .int .u32 (a : Int), .int .u32 (b : Int), .int .i64 c, .slice A4 l4 c4] 57))) := J ((Below.refl _ _).alloc (Nat.le_refl _) _)
 have H0 := J (h.on HB0.out)
 have HN0 : Hid (Nxt G w G (w.alloc (.cells #[.int .u8 (op : Int), .int .u32 (a : Int), .int .u32 (b : Int), .int .i64 c, .slice A4 l4 c4] 57))) := J (Nxt.of_below HB0.out)
 have HGX : Hid (¬ G w.heap.size ∧ w.heap.size < (w.alloc (.cells #[.int .u8 (op : Int), .int .u32 (a : Int), .int .u32 (b : Int), .int .i64 c, .slice A4 l4 c4] 57)).heap.size) := J ⟨fun hg => Nat.lt_irrefl _ (h.out _ hg).2, by simp⟩
 have HLO := J (fun (W : World) (hW : Wk C R P W G s o) => blocal_any C.ps C.ls C.v1 C.v2 C.v3 C.v4 a ha W (hC.ps.grow hW.base) (hC.ls.grow hW.base) hC.lp hC.ll)
 clear h
 go_enter Tryz.func83, Tryz.ntmps83
 go_upto_region 1 with fail
 generalize (w.alloc (.cells #[.int .u8 (op : Int), .int .u32 (a : Int), .int .u32 (b : Int), .int .i64 c, .slice A4 l4 c4] 57)) = w0 at HX0 HB0 H0 HN0 HGX ⊢
 obtain ⟨X, hX⟩ : ∃ X, w.heap.size = X := ⟨_, rfl⟩
 rw [hX] at HX0 HGX
 simp only [hX]
 clear hX HB0
 obtain ⟨z0, z1, z2, z3, z4⟩ := cells5 HX0.out
 obtain ⟨q0, q1, q2, q3, q4, q5⟩ := H0.out.cells
 have HCC := J (fun W (hb : Below w0.heap.size w0 W) => And.intro (cells5 ((hb.block X HGX.out.2).trans HX0.out)) (H0.out.on hb).cells)
 clear z0 z1 z2 z3 z4 q0 q1 q2 q3 q4 q5
 have HLO := J (fun W (hb : Below w0.heap.size w0 W) => HLO.out W (H0.out.on hb))
 obtain ⟨A11, c11, e11, _⟩ := hC.ps
 obtain ⟨A12, c12, e12, _⟩ := hC.rs
 obtain ⟨A13, c13, e13, _⟩ := hC.ls
 clear hC
 rw [e11, e12, e13] at HCC
 rw [e11, e12, e13] at HLO
 cases hx : Bo.local' C.ps C.ls a with
 | none =>
  have HLO : Hid (∀ W, Below w0.heap.size w0 W → Calls Tryz.prog 110 #[.agg #[.slice A11 C.ps.length c11, .slice A12 C.rs.length c12], .agg #[.slice A13 C.ls.length c13, C.v4], .int .u32 (a : Int)] W fun e w' => e = .returned (.tuple #[.int .u8 0, .bool false]) ∧ Below W.heap.size W w') := J (fun W hb => by
   have h := HLO.out W hb
   rw [hx] at h
   exact h)
  have HT : Hid (Bo.locl C.env op a s = .error 80) := J (by unfold Bo.locl Ctx.env; dsimp only; rw [hx])
  clear hx hs hn ha e11 e12 e13
  generalize C.ps.length = n1 at HLO HCC
  generalize C.rs.length = n2 at HLO HCC
  generalize C.ls.length = n3 at HLO HCC
  generalize C.v4 = v4 at HLO HCC
  go_upto_region 1 with fail
  refine wp_region_held_drew (S := fun W' => Below w0.heap.size w0 W') (by kernel_rfl) (Below.drew (Below.refl _ _)) (fun hHeld => ?_)
  refine dt 0 rfl (v := ?_) ?_ ?_
  rotate_left
  ·(intro wy hSw; obtain ⟨⟨z0, z1, z2, z3, z4⟩, q0, q1, q2, q3, q4, q5⟩ := HCC.out wy hSw; go_simp; try with_reducible rfl)
  simp only [Act.put, O]
  refine dt 1 rfl (v := ?_) ?_ ?_
  rotate_left
  ·(intro wy hSw; obtain ⟨⟨z0, z1, z2, z3, z4⟩, q0, q1, q2, q3, q4, q5⟩ := HCC.out wy hSw; go_simp; try with_reducible rfl)
  simp only [Act.put, O]
  refine dt 2 rfl (v := ?_) ?_ ?_
  rotate_left
  ·(intro wy hSw; obtain ⟨⟨z0, z1, z2, z3, z4⟩, q0, q1, q2, q3, q4, q5⟩ := HCC.out wy hSw; go_simp; try with_reducible rfl)
  simp only [Act.put, O]
  refine dt 3 rfl (v := ?_) ?_ ?_
  rotate_left
  ·(intro wy hSw; obtain ⟨⟨z0, z1, z2, z3, z4⟩, q0, q1, q2, q3, q4, q5⟩ := HCC.out wy hSw; go_simp; try with_reducible rfl)
  simp only [Act.put, O]
  refine dt 4 rfl (v := ?_) ?_ ?_
  rotate_left
  ·(intro wy hSw; obtain ⟨⟨z0, z1, z2, z3, z4⟩, q0, q1, q2, q3, q4, q5⟩ := HCC.out wy hSw; go_simp; try with_reducible rfl)
  simp only [Act.put, O]
  refine dt 5 rfl (v := ?_) ?_ ?_
  rotate_left
  ·(intro wy hSw; obtain ⟨⟨z0, z1, z2, z3, z4⟩, q0, q1, q2, q3, q4, q5⟩ := HCC.out wy hSw; go_simp; try with_reducible rfl)
  simp only [Act.put, O]
  refine dt 6 rfl (v := ?_) ?_ ?_
  rotate_left
  ·(intro wy hSw; obtain ⟨⟨z0, z1, z2, z3, z4⟩, q0, q1, q2, q3, q4, q5⟩ := HCC.out wy hSw; go_simp; try with_reducible rfl)
  simp only [Act.put, O]
  refine dt 7 rfl (v := ?_) ?_ ?_
  rotate_left
  ·(intro wy hSw; obtain ⟨⟨z0, z1, z2, z3, z4⟩, q0, q1, q2, q3, q4, q5⟩ := HCC.out wy hSw; go_simp; try with_reducible rfl)
  simp only [Act.put, O]
  refine dt 8 rfl (v := ?_) ?_ ?_
  rotate_left
  ·(intro wy hSw; obtain ⟨⟨z0, z1, z2, z3, z4⟩, q0, q1, q2, q3, q4, q5⟩ := HCC.out wy hSw; go_simp; try with_reducible rfl)
  simp only [Act.put, O]
  refine dt 9 rfl (v := ?_) ?_ ?_
  rotate_left
  ·(intro wy hSw; obtain ⟨⟨z0, z1, z2, z3, z4⟩, q0, q1, q2, q3, q4, q5⟩ := HCC.out wy hSw; go_simp; try with_reducible rfl)
  simp only [Act.put, O]
  refine aa 10 rfl (by kernel_rfl) (fun K hK => ?_)
  try (rw [if_pos]; case hc => rfl)
  go_simp
  refine (HLO.out _ hHeld).mono ?_
  rintro e w1 ⟨rfl, hb⟩
  have hH : Below w0.heap.size w0 w1 := hHeld.trans (hb.mono hHeld.size)
  have HW1 := J hH
  clear hb
  go_wp2_with fail
  refine hK.out _ _ (hH) (fun hHeld2 => ?_)
  clear hK K hHeld
  have hHeld := hHeld2
  clear hHeld2
  refine dv 11 rfl ?_
  refine dv 12 rfl ?_
  refine dv 13 rfl ?_
  refine dv 14 rfl ?_
  refine dv 15 rfl ?_
  refine wpAnyH_done (by kernel_rfl) ?_ _
  go_wp2_with fail
  go_ret
  exact ak.err HT.out (H0.out.on HW1.out).base
 | some t =>
  have HLO : Hid (∀ W, Below w0.heap.size w0 W → Calls Tryz.prog 110 #[.agg #[.slice A11 C.ps.length c11, .slice A12 C.rs.length c12], .agg #[.slice A13 C.ls.length c13, C.v4], .int .u32 (a : Int)] W fun e w' => e = .returned (.tuple #[.int .u8 (t.toNat : Int), .bool true]) ∧ Below W.heap.size W w') := J (fun W hb => by
   have h := HLO.out W hb
   rw [hx] at h
   exact h)
  have HT : Hid (Bo.locl C.env op a s = if op = 32 then Bo.turned s [] [t] else if op = 33 then Bo.turned s [t] [] else Bo.turned s [t] [t]) := J (by unfold Bo.locl Ctx.env; dsimp only; rw [hx])
  have HT1 := J (fun W v1 (hW : Wk C R P W G s o) (h1 : ab W (Apt W G) [t] v1) => aI hW hs hn [] [t] (.slice none 0 0) v1 (ab.nil _ _) h1 (by simp) (by simp))
  have HT2 := J (fun W v1 (hW : Wk C R P W G s o) (h1 : ab W (Apt W G) [t] v1) => aI hW hs hn [t] [] v1 (.slice none 0 0) h1 (ab.nil _ _) (by simp) (by simp))
  have HT3 := J (fun W v1 (hW : Wk C R P W G s o) (h1 : ab W (Apt W G) [t] v1) => aI hW hs hn [t] [t] v1 v1 h1 h1 (by simp) (by simp))
  clear hx hs hn ha e11 e12 e13
  generalize C.ps.length = n1 at HLO HCC
  generalize C.rs.length = n2 at HLO HCC
  generalize C.ls.length = n3 at HLO HCC
  generalize C.v4 = v4 at HLO HCC
  go_upto_region 1 with fail
  refine wp_region_held_drew (S := fun W' => Below w0.heap.size w0 W') (by kernel_rfl) (Below.drew (Below.refl _ _)) (fun hHeld => ?_)
  refine dt 0 rfl (v := ?_) ?_ ?_
  rotate_left
  ·(intro wy hSw; obtain ⟨⟨z0, z1, z2, z3, z4⟩, q0, q1, q2, q3, q4, q5⟩ := HCC.out wy hSw; go_simp; try with_reducible rfl)
  simp only [Act.put, O]
  refine dt 1 rfl (v := ?_) ?_ ?_
  rotate_left
  ·(intro wy hSw; obtain ⟨⟨z0, z1, z2, z3, z4⟩, q0, q1, q2, q3, q4, q5⟩ := HCC.out wy hSw; go_simp; try with_reducible rfl)
  simp only [Act.put, O]
  refine dt 2 rfl (v := ?_) ?_ ?_
  rotate_left
  ·(intro wy hSw; obtain ⟨⟨z0, z1, z2, z3, z4⟩, q0, q1, q2, q3, q4, q5⟩ := HCC.out wy hSw; go_simp; try with_reducible rfl)
  simp only [Act.put, O]
  refine dt 3 rfl (v := ?_) ?_ ?_
  rotate_left
  ·(intro wy hSw; obtain ⟨⟨z0, z1, z2, z3, z4⟩, q0, q1, q2, q3, q4, q5⟩ := HCC.out wy hSw; go_simp; try with_reducible rfl)
  simp only [Act.put, O]
  refine dt 4 rfl (v := ?_) ?_ ?_
  rotate_left
  ·(intro wy hSw; obtain ⟨⟨z0, z1, z2, z3, z4⟩, q0, q1, q2, q3, q4, q5⟩ := HCC.out wy hSw; go_simp; try with_reducible rfl)
  simp only [Act.put, O]
  refine dt 5 rfl (v := ?_) ?_ ?_
  rotate_left
  ·(intro wy hSw; obtain ⟨⟨z0, z1, z2, z3, z4⟩, q0, q1, q2, q3, q4, q5⟩ := HCC.out wy hSw; go_simp; try with_reducible rfl)
  simp only [Act.put, O]
  refine dt 6 rfl (v := ?_) ?_ ?_
  rotate_left
  ·(intro wy hSw; obtain ⟨⟨z0, z1, z2, z3, z4⟩, q0, q1, q2, q3, q4, q5⟩ := HCC.out wy hSw; go_simp; try with_reducible rfl)
  simp only [Act.put, O]
  refine dt 7 rfl (v := ?_) ?_ ?_
  rotate_left
  ·(intro wy hSw; obtain ⟨⟨z0, z1, z2, z3, z4⟩, q0, q1, q2, q3, q4, q5⟩ := HCC.out wy hSw; go_simp; try with_reducible rfl)
  simp only [Act.put, O]
  refine dt 8 rfl (v := ?_) ?_ ?_
  rotate_left
  ·(intro wy hSw; obtain ⟨⟨z0, z1, z2, z3, z4⟩, q0, q1, q2, q3, q4, q5⟩ := HCC.out wy hSw; go_simp; try with_reducible rfl)
  simp only [Act.put, O]
  refine dt 9 rfl (v := ?_) ?_ ?_
  rotate_left
  ·(intro wy hSw; obtain ⟨⟨z0, z1, z2, z3, z4⟩, q0, q1, q2, q3, q4, q5⟩ := HCC.out wy hSw; go_simp; try with_reducible rfl)
  simp only [Act.put, O]
  refine aa 10 rfl (by kernel_rfl) (fun K hK => ?_)
  try (rw [if_pos]; case hc => rfl)
  go_simp
  refine (HLO.out _ hHeld).mono ?_
  rintro e w1 ⟨rfl, hb⟩
  have hH : Below w0.heap.size w0 w1 := hHeld.trans (hb.mono hHeld.size)
  have HW1 := J hH
  clear hb
  go_wp2_with fail
  refine hK.out _ _ (hH) (fun hHeld2 => ?_)
  clear hK K hHeld
  have hHeld := hHeld2
  clear hHeld2
  refine dv 11 rfl ?_
  refine dv 12 rfl ?_
  refine dv 13 rfl ?_
  refine dv 14 rfl ?_
  refine dv 15 rfl ?_
  refine wpAnyH_done (by kernel_rfl) ?_ _
  obtain ⟨hl1, hl2, hl3⟩ := (H0.out.on HW1.out).lit t
  have HL1 := J hl1
  have HL2 := J hl2
  have HL3 := J hl3
  clear hl1 hl2 hl3
  obtain ⟨⟨x0, x1, x2, x3, x4⟩, _⟩ := HCC.out (w1.alloc (.cells #[.int .u8 (t.toNat : Int)] 5)) (HW1.out.alloc HW1.out.size _)
  by_cases h32 : op = 32
  ·subst h32
   have HTE : Hid (Bo.locl C.env 32 a s = Bo.turned s [] [t]) := J (HT.out.trans (if_pos rfl))
   have HTU := HT1
   clear HT2 HT3 HT1
   go_wp2_with (go_at_call 108; refine (HTU.out _ _ HL1.out HL3.out).mono ?_; rintro e w9 he; obtain ⟨k, rfl, hk⟩ := he.num; have HK := J hk; clear he hk)
   go_ret
   rw [HTE.out]
   exact ((HK.out.ahead HL2.out).ahead (Nxt.of_below HW1.out)).ahead HN0.out
  ·have h32i : ((op : Int) == 32) = false := by rw [beq_eq_false_iff_ne]; omega
   have h32j : ¬ ((op : Int) = 32) := by omega
   by_cases h33 : op = 33
   ·subst h33
    have HTE : Hid (Bo.locl C.env 33 a s = Bo.turned s [t] []) := J ((HT.out.trans (if_neg (by decide))).trans (if_pos rfl))
    have HTU := HT2
    clear HT1 HT3 HT2
    go_wp2_with (go_at_call 108; refine (HTU.out _ _ HL1.out HL3.out).mono ?_; rintro e w9 he; obtain ⟨k, rfl, hk⟩ := he.num; have HK := J hk; clear he hk)
    go_ret
    rw [HTE.out]
    exact ((HK.out.ahead HL2.out).ahead (Nxt.of_below HW1.out)).ahead HN0.out
   ·have h33i : ((op : Int) == 33) = false := by rw [beq_eq_false_iff_ne]; omega
    have h33j : ¬ ((op : Int) = 33) := by omega
    have HTU := HT3
    clear HT1 HT2 HT3
    go_wp2_with (go_at_call 108; refine (HTU.out _ _ HL1.out HL3.out).mono ?_; rintro e w9 he; obtain ⟨k, rfl, hk⟩ := he.num; have HK := J hk; clear he hk)
    go_ret
    rw [HT.out, if_neg h32, if_neg h33]
    exact ((HK.out.ahead HL2.out).ahead (Nxt.of_below HW1.out)).ahead HN0.out
theorem baccess_any {C : Ctx} {R P n : Nat} {w : World} {G : Nat → Prop} {s : Ty.T} {o : List Bool} (hC : C.Good) (h : Wk C R P w G s o) (hs : s.sm n) (hn : n ≤ 400000000) (op a b : Nat) (c : Int) (A4 : Option Addr) (l4 c4 : Nat) (hwd : 0 < Opc.width op) :
  Calls Tryz.prog 88 #[.pointer (some ⟨R, 0, none⟩), .agg #[.int .u8 (op : Int), .int .u32 (a : Int), .int .u32 (b : Int), .int .i64 c, .slice A4 l4 c4]] w (ak C R P G o w (Bo.access C.env op a s)) := by
 have HX0 := J (heap_alloc_new w (.cells #[.int .u8 (op : Int), .int .u32 (a : Int), .int .u32 (b : Int), .int .i64 c, .slice A4 l4 c4] 57))
 have HB0 : Hid (Below w.heap.size w (w.alloc (.cells #[.int .u8 (op : Int), .int .u32 (a : Int), .int .u32 (b : Int), .int .i64 c, .slice A4 l4 c4] 57))) := J ((Below.refl _ _).alloc (Nat.le_refl _) _)
 have H0 := J (h.on HB0.out)
 have HN0 : Hid (Nxt G w G (w.alloc (.cells #[.int .u8 (op : Int), .int .u32 (a : Int), .int .u32 (b : Int), .int .i64 c, .slice A4 l4 c4] 57))) := J (Nxt.of_below HB0.out)
 have HGX : Hid (¬ G w.heap.size ∧ w.heap.size < (w.alloc (.cells #[.int .u8 (op : Int), .int .u32 (a : Int), .int .u32 (b : Int), .int .i64 c, .slice A4 l4 c4] 57)).heap.size) := J ⟨fun hg => Nat.lt_irrefl _ (h.out _ hg).2, by simp⟩
 have HM := J (fun (W : World) (hW : Wk C R P W G s o) => dC (some ⟨C.sp, 0, none⟩) C.m 0 W (.inl ⟨C.sp, rfl, hC.space.grow hW.base⟩) (Lots.some hC.few) (by omega))
 have HPL : Hid (∀ W G1, Wk C R P W G1 s o → Calls Tryz.prog 89 #[.pointer (some ⟨R, 0, none⟩), .agg #[.int .u8 (op : Int), .int .u32 (a : Int), .int .u32 (b : Int), .int .i64 c, .slice A4 l4 c4]] W (ak C R P G1 o W (Bo.plain op s))) := J (fun W G1 hW => cy hW hs hn op a b c A4 l4 c4)
 clear h hs hn hC
 go_enter Tryz.func88, Tryz.ntmps88
 go_upto_region 1 with fail
 generalize (w.alloc (.cells #[.int .u8 (op : Int), .int .u32 (a : Int), .int .u32 (b : Int), .int .i64 c, .slice A4 l4 c4] 57)) = w0 at HX0 HB0 H0 HN0 HGX ⊢
 obtain ⟨X, hX⟩ : ∃ X, w.heap.size = X := ⟨_, rfl⟩
 rw [hX] at HX0 HGX
 simp only [hX]
 clear hX HB0
 obtain ⟨z0, z1, z2, z3, z4⟩ := cells5 HX0.out
 obtain ⟨q0, q1, q2, q3, q4, q5⟩ := H0.out.cells
 have hm := HM.out _ H0.out
 clear HM
 unfold bC at hm
 have HE : Hid (C.env.mem = ((mems C.m)[0]?).isSome) := J rfl
 obtain ⟨y1, y2, hy⟩ : ∃ y1 y2 : Int, limArr (((mems C.m)[0]?).getD ⟨0, 0⟩) = #[.int .u32 y1, .int .i64 y2] := ⟨_, _, rfl⟩
 rw [hy] at hm
 clear hy
 obtain ⟨hbl, hw0, hw8⟩ := width_bits op hwd
 have HWD : Hid (∀ W, Calls Tryz.prog 87 #[.int .u8 (op : Int)] W fun e w' => e = .returned (.int .i64 (Opc.width op)) ∧ W = w') := J (fun W => cj (op : Int) W)
 have HLN : Hid (∀ W, Calls Tryz.prog 112 #[.int .u64 (Opc.width op)] W fun e w' => e = .returned (.int .i64 (Bo.blen (Opc.width op) : Int)) ∧ W = w') := J (fun W => by
  have h := blen_any (Opc.width op) W hw0 (by omega)
  rw [hbl] at h
  exact h)
 have hb4 : Bo.blen (Opc.width op) ≤ 4 := by unfold Bo.blen; (repeat' split) <;> omega
 cases hp : ((mems C.m)[0]?).isSome with
 | false =>
  rw [hp] at hm HE
  have HT : Hid (Bo.access C.env op a s = .error 80) := J (by unfold Bo.access; rw [HE.out]; rfl)
  have HM := J hm
  clear hm hp hbl hw0 hw8 hwd hb4 HWD HLN
  go_wp2_with (go_at_call 58; refine HM.out.mono ?_; rintro e w1 ⟨rfl, hb⟩; have hb2 : Below w0.heap.size w0 (w1.alloc (.cells #[.int .u32 y1, .int .i64 y2] 65)) := hb.alloc hb.size _; obtain ⟨x0, x1, x2, x3, x4⟩ := cells5 ((hb2.block X HGX.out.2).trans HX0.out); have HB1 := J hb2; clear hb hb2)
  go_ret
  exact ak.err HT.out (H0.out.on HB1.out).base
 | true =>
  rw [hp] at hm HE
  have HT : Hid (Bo.access C.env op a s = if Bo.blen (Opc.width op) ≤ a then .error 100 else Bo.plain op s) := J (by unfold Bo.access; rw [HE.out]; rfl)
  have HM := J hm
  clear hm hp hbl hwd
  generalize Opc.width op = wd at HWD HLN HT hw0 hw8 hb4
  generalize Bo.blen wd = bl at HLN HT hb4
  have hwu : IntKind.u64.wrap wd = wd := by simp [IntKind.wrap, IntKind.bits, IntKind.signed]; omega
  have hwv : IntKind.u32.wrap (bl : Int) = (bl : Int) := by simp [IntKind.wrap, IntKind.bits, IntKind.signed]; omega
  by_cases hle : bl ≤ a
  ·have hlei : (bl : Int) ≤ (a : Int) := by omega
   go_upto_region 4 with (go_at_call 58; refine HM.out.mono ?_; rintro e w1 ⟨rfl, hb⟩; have hb2 : Below w0.heap.size w0 (w1.alloc (.cells #[.int .u32 y1, .int .i64 y2] 65)) := hb.alloc hb.size _; obtain ⟨x0, x1, x2, x3, x4⟩ := cells5 ((hb2.block X HGX.out.2).trans HX0.out); have HB1 := J hb2; clear hb hb2)
   generalize w1.alloc (.cells #[.int .u32 y1, .int .i64 y2] 65) = wm at HB1 x0 x1 x2 x3 x4 ⊢
   refine wp_region_held_drew (S := fun W' => W'.cell? ⟨X, 0, none⟩ = some (.int .u8 (op : Int)) ∧ W'.cell? ⟨X, 1, none⟩ = some (.int .u32 (a : Int))) (by kernel_rfl) (⟨x0, x1⟩) (fun hHeld => ?_)
   refine dt 0 rfl (v := ?_) ?_ ?_
   rotate_left
   ·(intro wy hSw; obtain ⟨h0, h1⟩ := hSw; go_simp; try with_reducible rfl)
   simp only [Act.put, O]
   refine dt 1 rfl (v := ?_) ?_ ?_
   rotate_left
   ·(intro wy hSw; obtain ⟨h0, h1⟩ := hSw; go_simp; try with_reducible rfl)
   simp only [Act.put, O]
   refine dt 2 rfl (v := ?_) ?_ ?_
   rotate_left
   ·(intro wy hSw; obtain ⟨h0, h1⟩ := hSw; go_simp; try with_reducible rfl)
   simp only [Act.put, O]
   refine dt 3 rfl (v := ?_) ?_ ?_
   rotate_left
   ·(intro wy hSw; obtain ⟨h0, h1⟩ := hSw; go_simp; try with_reducible rfl)
   simp only [Act.put, O]
   refine aa 4 rfl (by kernel_rfl) (fun K hK => ?_)
   try (rw [if_pos]; case hc => rfl)
   go_simp
   refine (HWD.out _).mono ?_
   rintro e w9 ⟨rfl, rfl⟩
   go_wp2_with fail
   refine hK.out _ _ (hHeld) (fun hHeld2 => ?_)
   clear hK K hHeld
   have hHeld := hHeld2
   clear hHeld2
   refine dv 5 rfl ?_
   refine aa 6 rfl (by kernel_rfl) (fun K hK => ?_)
   try (rw [if_pos]; case hc => rfl)
   go_simp
   refine (HLN.out _).mono ?_
   rintro e w9 ⟨rfl, rfl⟩
   go_wp2_with fail
   refine hK.out _ _ (hHeld) (fun hHeld2 => ?_)
   clear hK K hHeld
   have hHeld := hHeld2
   clear hHeld2
   refine dv 7 rfl ?_
   refine dv 8 rfl ?_
   refine wpAnyH_done (by kernel_rfl) ?_ _
   have HBD : Hid (Below w0.heap.size w0 wm.drew) := J (Below.drew HB1.out)
   obtain ⟨d0, d1, d2, d3, d4⟩ := cells5 ((HBD.out.block X HGX.out.2).trans HX0.out)
   generalize wm.drew = wn at HBD d0 d1 d2 d3 d4 ⊢
   go_wp2_with fail
   go_ret
   exact ak.err (by rw [HT.out, if_pos hle]) (H0.out.on HBD.out).base
  ·have hlei : decide ((bl : Int) ≤ (a : Int)) = false := decide_eq_false (by omega)
   have hlej : decide (bl ≤ a) = false := decide_eq_false hle
   go_upto_region 4 with (go_at_call 58; refine HM.out.mono ?_; rintro e w1 ⟨rfl, hb⟩; have hb2 : Below w0.heap.size w0 (w1.alloc (.cells #[.int .u32 y1, .int .i64 y2] 65)) := hb.alloc hb.size _; obtain ⟨x0, x1, x2, x3, x4⟩ := cells5 ((hb2.block X HGX.out.2).trans HX0.out); have HB1 := J hb2; clear hb hb2)
   generalize w1.alloc (.cells #[.int .u32 y1, .int .i64 y2] 65) = wm at HB1 x0 x1 x2 x3 x4 ⊢
   refine wp_region_held_drew (S := fun W' => W'.cell? ⟨X, 0, none⟩ = some (.int .u8 (op : Int)) ∧ W'.cell? ⟨X, 1, none⟩ = some (.int .u32 (a : Int))) (by kernel_rfl) (⟨x0, x1⟩) (fun hHeld => ?_)
   refine dt 0 rfl (v := ?_) ?_ ?_
   rotate_left
   ·(intro wy hSw; obtain ⟨h0, h1⟩ := hSw; go_simp; try with_reducible rfl)
   simp only [Act.put, O]
   refine dt 1 rfl (v := ?_) ?_ ?_
   rotate_left
   ·(intro wy hSw; obtain ⟨h0, h1⟩ := hSw; go_simp; try with_reducible rfl)
   simp only [Act.put, O]
   refine dt 2 rfl (v := ?_) ?_ ?_
   rotate_left
   ·(intro wy hSw; obtain ⟨h0, h1⟩ := hSw; go_simp; try with_reducible rfl)
   simp only [Act.put, O]
   refine dt 3 rfl (v := ?_) ?_ ?_
   rotate_left
   ·(intro wy hSw; obtain ⟨h0, h1⟩ := hSw; go_simp; try with_reducible rfl)
   simp only [Act.put, O]
   refine aa 4 rfl (by kernel_rfl) (fun K hK => ?_)
   try (rw [if_pos]; case hc => rfl)
   go_simp
   refine (HWD.out _).mono ?_
   rintro e w9 ⟨rfl, rfl⟩
   go_wp2_with fail
   refine hK.out _ _ (hHeld) (fun hHeld2 => ?_)
   clear hK K hHeld
   have hHeld := hHeld2
   clear hHeld2
   refine dv 5 rfl ?_
   refine aa 6 rfl (by kernel_rfl) (fun K hK => ?_)
   try (rw [if_pos]; case hc => rfl)
   go_simp
   refine (HLN.out _).mono ?_
   rintro e w9 ⟨rfl, rfl⟩
   go_wp2_with fail
   refine hK.out _ _ (hHeld) (fun hHeld2 => ?_)
   clear hK K hHeld
   have hHeld := hHeld2
   clear hHeld2
   refine dv 7 rfl ?_
   refine dv 8 rfl ?_
   refine wpAnyH_done (by kernel_rfl) ?_ _
   have HBD : Hid (Below w0.heap.size w0 wm.drew) := J (Below.drew HB1.out)
   obtain ⟨d0, d1, d2, d3, d4⟩ := cells5 ((HBD.out.block X HGX.out.2).trans HX0.out)
   generalize wm.drew = wn at HBD d0 d1 d2 d3 d4 ⊢
   go_wp2_with (go_at_call 89; refine (HPL.out _ _ (H0.out.on HBD.out)).mono ?_; rintro e w9 he; obtain ⟨k, rfl, hk⟩ := he.num; have HK := J hk; clear he hk)
   go_ret
   rw [HT.out, if_neg hle]
   exact (HK.out.ahead (Nxt.of_below HBD.out)).ahead HN0.out
end Go.Proofs.YtelcdmkbaegjoaaGreat
