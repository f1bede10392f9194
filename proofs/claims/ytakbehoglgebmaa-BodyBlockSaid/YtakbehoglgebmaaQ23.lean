/-
  Layer 10's program: asks: which method an opcode has. (gen/body/asks.py)
-/
import Derived.Test.YtakbehoglgebmaaQ22
namespace Go.Proofs.Ytakbehoglgebmaa
open Go.RowKit Ins Bin Sp
set_option maxRecDepth 100000 in
set_option maxHeartbeats 4000000 in
theorem asks2_any (R : Nat) (w : World) : Calls Try.prog 28 #[.pointer (some ⟨R, 0, none⟩), .int .u8 2] w fun e w' => e = .returned (.func (.func 37) #[.pointer (some ⟨R, 0, none⟩)] #[]) ∧ w = w' := by
  go_enter Try.func28, Try.ntmps28
  go_wp2_with fail
  go_ret
  exact ⟨rfl, rfl⟩
set_option maxRecDepth 100000 in
set_option maxHeartbeats 4000000 in
theorem asks3_any (R : Nat) (w : World) : Calls Try.prog 28 #[.pointer (some ⟨R, 0, none⟩), .int .u8 3] w fun e w' => e = .returned (.func (.func 37) #[.pointer (some ⟨R, 0, none⟩)] #[]) ∧ w = w' := by
  go_enter Try.func28, Try.ntmps28
  go_wp2_with fail
  go_ret
  exact ⟨rfl, rfl⟩
set_option maxRecDepth 100000 in
set_option maxHeartbeats 4000000 in
theorem asks4_any (R : Nat) (w : World) : Calls Try.prog 28 #[.pointer (some ⟨R, 0, none⟩), .int .u8 4] w fun e w' => e = .returned (.func (.func 37) #[.pointer (some ⟨R, 0, none⟩)] #[]) ∧ w = w' := by
  go_enter Try.func28, Try.ntmps28
  go_wp2_with fail
  go_ret
  exact ⟨rfl, rfl⟩
set_option maxRecDepth 100000 in
set_option maxHeartbeats 4000000 in
theorem asks5_any (R : Nat) (w : World) : Calls Try.prog 28 #[.pointer (some ⟨R, 0, none⟩), .int .u8 5] w fun e w' => e = .returned (.func (.func 38) #[.pointer (some ⟨R, 0, none⟩)] #[]) ∧ w = w' := by
  go_enter Try.func28, Try.ntmps28
  go_wp2_with fail
  go_ret
  exact ⟨rfl, rfl⟩
set_option maxRecDepth 100000 in
set_option maxHeartbeats 4000000 in
theorem asks11_any (R : Nat) (w : World) : Calls Try.prog 28 #[.pointer (some ⟨R, 0, none⟩), .int .u8 11] w fun e w' => e = .returned (.func (.func 39) #[.pointer (some ⟨R, 0, none⟩)] #[]) ∧ w = w' := by
  go_enter Try.func28, Try.ntmps28
  go_wp2_with fail
  go_ret
  exact ⟨rfl, rfl⟩
set_option maxRecDepth 100000 in
set_option maxHeartbeats 4000000 in
theorem asks12_any (R : Nat) (w : World) : Calls Try.prog 28 #[.pointer (some ⟨R, 0, none⟩), .int .u8 12] w fun e w' => e = .returned (.func (.func 40) #[.pointer (some ⟨R, 0, none⟩)] #[]) ∧ w = w' := by
  go_enter Try.func28, Try.ntmps28
  go_wp2_with fail
  go_ret
  exact ⟨rfl, rfl⟩
set_option maxRecDepth 100000 in
set_option maxHeartbeats 4000000 in
theorem asks13_any (R : Nat) (w : World) : Calls Try.prog 28 #[.pointer (some ⟨R, 0, none⟩), .int .u8 13] w fun e w' => e = .returned (.func (.func 41) #[.pointer (some ⟨R, 0, none⟩)] #[]) ∧ w = w' := by
  go_enter Try.func28, Try.ntmps28
  go_wp2_with fail
  go_ret
  exact ⟨rfl, rfl⟩
set_option maxRecDepth 100000 in
set_option maxHeartbeats 4000000 in
theorem asks14_any (R : Nat) (w : World) : Calls Try.prog 28 #[.pointer (some ⟨R, 0, none⟩), .int .u8 14] w fun e w' => e = .returned (.func (.func 42) #[.pointer (some ⟨R, 0, none⟩)] #[]) ∧ w = w' := by
  go_enter Try.func28, Try.ntmps28
  go_wp2_with fail
  go_ret
  exact ⟨rfl, rfl⟩
set_option maxRecDepth 100000 in
set_option maxHeartbeats 4000000 in
theorem asks15_any (R : Nat) (w : World) : Calls Try.prog 28 #[.pointer (some ⟨R, 0, none⟩), .int .u8 15] w fun e w' => e = .returned (.func (.func 43) #[.pointer (some ⟨R, 0, none⟩)] #[]) ∧ w = w' := by
  go_enter Try.func28, Try.ntmps28
  go_wp2_with fail
  go_ret
  exact ⟨rfl, rfl⟩
set_option maxRecDepth 100000 in
set_option maxHeartbeats 4000000 in
theorem asks0_any (R : Nat) (w : World) : Calls Try.prog 28 #[.pointer (some ⟨R, 0, none⟩), .int .u8 0] w fun e w' => e = .returned (.func (.func 44) #[.pointer (some ⟨R, 0, none⟩)] #[]) ∧ w = w' := by
  go_enter Try.func28, Try.ntmps28
  go_wp2_with fail
  go_ret
  exact ⟨rfl, rfl⟩
set_option maxRecDepth 100000 in
set_option maxHeartbeats 4000000 in
theorem asks16_any (R : Nat) (w : World) : Calls Try.prog 28 #[.pointer (some ⟨R, 0, none⟩), .int .u8 16] w fun e w' => e = .returned (.func (.func 45) #[.pointer (some ⟨R, 0, none⟩)] #[]) ∧ w = w' := by
  go_enter Try.func28, Try.ntmps28
  go_wp2_with fail
  go_ret
  exact ⟨rfl, rfl⟩
set_option maxRecDepth 100000 in
set_option maxHeartbeats 4000000 in
theorem asks17_any (R : Nat) (w : World) : Calls Try.prog 28 #[.pointer (some ⟨R, 0, none⟩), .int .u8 17] w fun e w' => e = .returned (.func (.func 46) #[.pointer (some ⟨R, 0, none⟩)] #[]) ∧ w = w' := by
  go_enter Try.func28, Try.ntmps28
  go_wp2_with fail
  go_ret
  exact ⟨rfl, rfl⟩
set_option maxRecDepth 100000 in
set_option maxHeartbeats 4000000 in
theorem asks26_any (R : Nat) (w : World) : Calls Try.prog 28 #[.pointer (some ⟨R, 0, none⟩), .int .u8 26] w fun e w' => e = .returned (.func (.func 47) #[.pointer (some ⟨R, 0, none⟩)] #[]) ∧ w = w' := by
  go_enter Try.func28, Try.ntmps28
  go_wp2_with fail
  go_ret
  exact ⟨rfl, rfl⟩
set_option maxRecDepth 100000 in
set_option maxHeartbeats 4000000 in
theorem asks27_any (R : Nat) (w : World) : Calls Try.prog 28 #[.pointer (some ⟨R, 0, none⟩), .int .u8 27] w fun e w' => e = .returned (.func (.func 48) #[.pointer (some ⟨R, 0, none⟩)] #[]) ∧ w = w' := by
  go_enter Try.func28, Try.ntmps28
  go_wp2_with fail
  go_ret
  exact ⟨rfl, rfl⟩
set_option maxRecDepth 100000 in
set_option maxHeartbeats 4000000 in
theorem asks32_any (R : Nat) (w : World) : Calls Try.prog 28 #[.pointer (some ⟨R, 0, none⟩), .int .u8 32] w fun e w' => e = .returned (.func (.func 49) #[.pointer (some ⟨R, 0, none⟩)] #[]) ∧ w = w' := by
  go_enter Try.func28, Try.ntmps28
  go_wp2_with fail
  go_ret
  exact ⟨rfl, rfl⟩
set_option maxRecDepth 100000 in
set_option maxHeartbeats 4000000 in
theorem asks33_any (R : Nat) (w : World) : Calls Try.prog 28 #[.pointer (some ⟨R, 0, none⟩), .int .u8 33] w fun e w' => e = .returned (.func (.func 49) #[.pointer (some ⟨R, 0, none⟩)] #[]) ∧ w = w' := by
  go_enter Try.func28, Try.ntmps28
  go_wp2_with fail
  go_ret
  exact ⟨rfl, rfl⟩
set_option maxRecDepth 100000 in
set_option maxHeartbeats 4000000 in
theorem asks34_any (R : Nat) (w : World) : Calls Try.prog 28 #[.pointer (some ⟨R, 0, none⟩), .int .u8 34] w fun e w' => e = .returned (.func (.func 49) #[.pointer (some ⟨R, 0, none⟩)] #[]) ∧ w = w' := by
  go_enter Try.func28, Try.ntmps28
  go_wp2_with fail
  go_ret
  exact ⟨rfl, rfl⟩
set_option maxRecDepth 100000 in
set_option maxHeartbeats 4000000 in
theorem asks35_any (R : Nat) (w : World) : Calls Try.prog 28 #[.pointer (some ⟨R, 0, none⟩), .int .u8 35] w fun e w' => e = .returned (.func (.func 50) #[.pointer (some ⟨R, 0, none⟩)] #[]) ∧ w = w' := by
  go_enter Try.func28, Try.ntmps28
  go_wp2_with fail
  go_ret
  exact ⟨rfl, rfl⟩
set_option maxRecDepth 100000 in
set_option maxHeartbeats 4000000 in
theorem asks36_any (R : Nat) (w : World) : Calls Try.prog 28 #[.pointer (some ⟨R, 0, none⟩), .int .u8 36] w fun e w' => e = .returned (.func (.func 51) #[.pointer (some ⟨R, 0, none⟩)] #[]) ∧ w = w' := by
  go_enter Try.func28, Try.ntmps28
  go_wp2_with fail
  go_ret
  exact ⟨rfl, rfl⟩
set_option maxRecDepth 100000 in
set_option maxHeartbeats 4000000 in
theorem asks63_any (R : Nat) (w : World) : Calls Try.prog 28 #[.pointer (some ⟨R, 0, none⟩), .int .u8 63] w fun e w' => e = .returned (.func (.func 52) #[.pointer (some ⟨R, 0, none⟩)] #[]) ∧ w = w' := by
  go_enter Try.func28, Try.ntmps28
  go_wp2_with fail
  go_ret
  exact ⟨rfl, rfl⟩
set_option maxRecDepth 100000 in
set_option maxHeartbeats 4000000 in
theorem asks64_any (R : Nat) (w : World) : Calls Try.prog 28 #[.pointer (some ⟨R, 0, none⟩), .int .u8 64] w fun e w' => e = .returned (.func (.func 52) #[.pointer (some ⟨R, 0, none⟩)] #[]) ∧ w = w' := by
  go_enter Try.func28, Try.ntmps28
  go_wp2_with fail
  go_ret
  exact ⟨rfl, rfl⟩
set_option maxRecDepth 100000 in
set_option maxHeartbeats 4000000 in
theorem asksAcc_any (R op : Nat) (h0 : ¬ op = 0) (h2 : ¬ op = 2) (h3 : ¬ op = 3) (h4 : ¬ op = 4) (h5 : ¬ op = 5) (h11 : ¬ op = 11) (h12 : ¬ op = 12) (h13 : ¬ op = 13) (h14 : ¬ op = 14) (h15 : ¬ op = 15) (h16 : ¬ op = 16) (h17 : ¬ op = 17) (h26 : ¬ op = 26) (h27 : ¬ op = 27) (h32 : ¬ op = 32) (h33 : ¬ op = 33) (h34 : ¬ op = 34) (h35 : ¬ op = 35) (h36 : ¬ op = 36) (h63 : ¬ op = 63) (h64 : ¬ op = 64) (hw : 0 < Opc.width op) (w : World) : Calls Try.prog 28 #[.pointer (some ⟨R, 0, none⟩), .int .u8 (op : Int)] w fun e w' => e = .returned (.func (.func 54) #[.pointer (some ⟨R, 0, none⟩)] #[]) ∧ w = w' := by
  have i0 : ((op : Int) == 0) = false := by rw [beq_eq_false_iff_ne]; omega
  have j0 : ¬ ((op : Int) = 0) := by omega
  have i2 : ((op : Int) == 2) = false := by rw [beq_eq_false_iff_ne]; omega
  have j2 : ¬ ((op : Int) = 2) := by omega
  have i3 : ((op : Int) == 3) = false := by rw [beq_eq_false_iff_ne]; omega
  have j3 : ¬ ((op : Int) = 3) := by omega
  have i4 : ((op : Int) == 4) = false := by rw [beq_eq_false_iff_ne]; omega
  have j4 : ¬ ((op : Int) = 4) := by omega
  have i5 : ((op : Int) == 5) = false := by rw [beq_eq_false_iff_ne]; omega
  have j5 : ¬ ((op : Int) = 5) := by omega
  have i11 : ((op : Int) == 11) = false := by rw [beq_eq_false_iff_ne]; omega
  have j11 : ¬ ((op : Int) = 11) := by omega
  have i12 : ((op : Int) == 12) = false := by rw [beq_eq_false_iff_ne]; omega
  have j12 : ¬ ((op : Int) = 12) := by omega
  have i13 : ((op : Int) == 13) = false := by rw [beq_eq_false_iff_ne]; omega
  have j13 : ¬ ((op : Int) = 13) := by omega
  have i14 : ((op : Int) == 14) = false := by rw [beq_eq_false_iff_ne]; omega
  have j14 : ¬ ((op : Int) = 14) := by omega
  have i15 : ((op : Int) == 15) = false := by rw [beq_eq_false_iff_ne]; omega
  have j15 : ¬ ((op : Int) = 15) := by omega
  have i16 : ((op : Int) == 16) = false := by rw [beq_eq_false_iff_ne]; omega
  have j16 : ¬ ((op : Int) = 16) := by omega
  have i17 : ((op : Int) == 17) = false := by rw [beq_eq_false_iff_ne]; omega
  have j17 : ¬ ((op : Int) = 17) := by omega
  have i26 : ((op : Int) == 26) = false := by rw [beq_eq_false_iff_ne]; omega
  have j26 : ¬ ((op : Int) = 26) := by omega
  have i27 : ((op : Int) == 27) = false := by rw [beq_eq_false_iff_ne]; omega
  have j27 : ¬ ((op : Int) = 27) := by omega
  have i32 : ((op : Int) == 32) = false := by rw [beq_eq_false_iff_ne]; omega
  have j32 : ¬ ((op : Int) = 32) := by omega
  have i33 : ((op : Int) == 33) = false := by rw [beq_eq_false_iff_ne]; omega
  have j33 : ¬ ((op : Int) = 33) := by omega
  have i34 : ((op : Int) == 34) = false := by rw [beq_eq_false_iff_ne]; omega
  have j34 : ¬ ((op : Int) = 34) := by omega
  have i35 : ((op : Int) == 35) = false := by rw [beq_eq_false_iff_ne]; omega
  have j35 : ¬ ((op : Int) = 35) := by omega
  have i36 : ((op : Int) == 36) = false := by rw [beq_eq_false_iff_ne]; omega
  have j36 : ¬ ((op : Int) = 36) := by omega
  have i63 : ((op : Int) == 63) = false := by rw [beq_eq_false_iff_ne]; omega
  have j63 : ¬ ((op : Int) = 63) := by omega
  have i64 : ((op : Int) == 64) = false := by rw [beq_eq_false_iff_ne]; omega
  have j64 : ¬ ((op : Int) = 64) := by omega
  have HWD : Hid (∀ W, Calls Try.prog 53 #[.int .u8 (op : Int)] W fun e w' => e = .returned (.int .i64 (Opc.width op)) ∧ W = w') := Lib.hid (fun W => width_any (op : Int) W)
  generalize Opc.width op = wd at HWD hw
  have hwd : decide (0 < wd) = true := decide_eq_true hw
  go_enter Try.func28, Try.ntmps28
  go_wp2_with (go_at_call 53; refine (HWD.out _).mono ?_; rintro e w9 ⟨rfl, rfl⟩)
  go_ret
  exact ⟨rfl, rfl⟩
set_option maxRecDepth 100000 in
set_option maxHeartbeats 4000000 in
theorem asksPln_any (R op : Nat) (h0 : ¬ op = 0) (h2 : ¬ op = 2) (h3 : ¬ op = 3) (h4 : ¬ op = 4) (h5 : ¬ op = 5) (h11 : ¬ op = 11) (h12 : ¬ op = 12) (h13 : ¬ op = 13) (h14 : ¬ op = 14) (h15 : ¬ op = 15) (h16 : ¬ op = 16) (h17 : ¬ op = 17) (h26 : ¬ op = 26) (h27 : ¬ op = 27) (h32 : ¬ op = 32) (h33 : ¬ op = 33) (h34 : ¬ op = 34) (h35 : ¬ op = 35) (h36 : ¬ op = 36) (h63 : ¬ op = 63) (h64 : ¬ op = 64) (hw : ¬ 0 < Opc.width op) (w : World) : Calls Try.prog 28 #[.pointer (some ⟨R, 0, none⟩), .int .u8 (op : Int)] w fun e w' => e = .returned (.func (.func 55) #[.pointer (some ⟨R, 0, none⟩)] #[]) ∧ w = w' := by
  have i0 : ((op : Int) == 0) = false := by rw [beq_eq_false_iff_ne]; omega
  have j0 : ¬ ((op : Int) = 0) := by omega
  have i2 : ((op : Int) == 2) = false := by rw [beq_eq_false_iff_ne]; omega
  have j2 : ¬ ((op : Int) = 2) := by omega
  have i3 : ((op : Int) == 3) = false := by rw [beq_eq_false_iff_ne]; omega
  have j3 : ¬ ((op : Int) = 3) := by omega
  have i4 : ((op : Int) == 4) = false := by rw [beq_eq_false_iff_ne]; omega
  have j4 : ¬ ((op : Int) = 4) := by omega
  have i5 : ((op : Int) == 5) = false := by rw [beq_eq_false_iff_ne]; omega
  have j5 : ¬ ((op : Int) = 5) := by omega
  have i11 : ((op : Int) == 11) = false := by rw [beq_eq_false_iff_ne]; omega
  have j11 : ¬ ((op : Int) = 11) := by omega
  have i12 : ((op : Int) == 12) = false := by rw [beq_eq_false_iff_ne]; omega
  have j12 : ¬ ((op : Int) = 12) := by omega
  have i13 : ((op : Int) == 13) = false := by rw [beq_eq_false_iff_ne]; omega
  have j13 : ¬ ((op : Int) = 13) := by omega
  have i14 : ((op : Int) == 14) = false := by rw [beq_eq_false_iff_ne]; omega
  have j14 : ¬ ((op : Int) = 14) := by omega
  have i15 : ((op : Int) == 15) = false := by rw [beq_eq_false_iff_ne]; omega
  have j15 : ¬ ((op : Int) = 15) := by omega
  have i16 : ((op : Int) == 16) = false := by rw [beq_eq_false_iff_ne]; omega
  have j16 : ¬ ((op : Int) = 16) := by omega
  have i17 : ((op : Int) == 17) = false := by rw [beq_eq_false_iff_ne]; omega
  have j17 : ¬ ((op : Int) = 17) := by omega
  have i26 : ((op : Int) == 26) = false := by rw [beq_eq_false_iff_ne]; omega
  have j26 : ¬ ((op : Int) = 26) := by omega
  have i27 : ((op : Int) == 27) = false := by rw [beq_eq_false_iff_ne]; omega
  have j27 : ¬ ((op : Int) = 27) := by omega
  have i32 : ((op : Int) == 32) = false := by rw [beq_eq_false_iff_ne]; omega
  have j32 : ¬ ((op : Int) = 32) := by omega
  have i33 : ((op : Int) == 33) = false := by rw [beq_eq_false_iff_ne]; omega
  have j33 : ¬ ((op : Int) = 33) := by omega
  have i34 : ((op : Int) == 34) = false := by rw [beq_eq_false_iff_ne]; omega
  have j34 : ¬ ((op : Int) = 34) := by omega
  have i35 : ((op : Int) == 35) = false := by rw [beq_eq_false_iff_ne]; omega
  have j35 : ¬ ((op : Int) = 35) := by omega
  have i36 : ((op : Int) == 36) = false := by rw [beq_eq_false_iff_ne]; omega
  have j36 : ¬ ((op : Int) = 36) := by omega
  have i63 : ((op : Int) == 63) = false := by rw [beq_eq_false_iff_ne]; omega
  have j63 : ¬ ((op : Int) = 63) := by omega
  have i64 : ((op : Int) == 64) = false := by rw [beq_eq_false_iff_ne]; omega
  have j64 : ¬ ((op : Int) = 64) := by omega
  have HWD : Hid (∀ W, Calls Try.prog 53 #[.int .u8 (op : Int)] W fun e w' => e = .returned (.int .i64 (Opc.width op)) ∧ W = w') := Lib.hid (fun W => width_any (op : Int) W)
  generalize Opc.width op = wd at HWD hw
  have hwd : decide (0 < wd) = false := decide_eq_false hw
  go_enter Try.func28, Try.ntmps28
  go_wp2_with (go_at_call 53; refine (HWD.out _).mono ?_; rintro e w9 ⟨rfl, rfl⟩)
  go_ret
  exact ⟨rfl, rfl⟩
end Go.Proofs.Ytakbehoglgebmaa
