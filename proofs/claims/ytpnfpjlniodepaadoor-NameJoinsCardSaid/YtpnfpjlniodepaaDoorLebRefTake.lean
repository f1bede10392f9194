/-
  The document's Take: its contract, of unsigned and of signed numbers: it answers what the plain functions say.
-/
import Derived.Test.YtpnfpjlniodepaaDoorLebRefBit
import Derived.Test.YtpnfpjlniodepaaDoorLebFits
namespace Go.Proofs.YtpnfpjlniodepaaDoor
open Go.RowKit
theorem ret2i {k : IntKind} {a a' b b' : Int} (h1 : a = a') (h2 : b = b') : Ending.returned (.tuple #[.int k a, .int .i64 b]) = .returned (.tuple #[.int k a', .int .i64 b']) := by rw [h1, h2]
set_option maxHeartbeats 2000000 in
/-- the document's 'Take', of an unsigned number. -/
theorem c9u (A : Option Addr) (l : List UInt8) (n c : Nat) (b : Int) (w : World) (hn : n = l.length) (hmax : n ≤ 1000000) (hnc : n ≤ c) (hA : Has w w.heap.size A l) :
   Calls Tryd.prog 15 #[.slice A n c, .int .i64 b, .bool false] w fun e w' => e = .returned (.tuple #[.int .u64 (Leb.numU l b), .int .i64 (Leb.cntU l b)]) ∧ w = w' := by
  have HA := Lib.hid hA
  have HN := Lib.hid hn
  have hrl := Leb.run_le l
  rw [← hn] at hrl
  clear hA hn
  by_cases hb1 : b < 1
  · have hf := Lib.hid (Leb.okU_bits (l := l) (.inl hb1))
    go_enter Tryd.func15, Tryd.ntmps15
    go_wp2_with (go_at_call 22; refine (c17 A l n c w.heap.size _ HN.out (by omega) HA.out).mono ?_; rintro e w' ⟨rfl, rfl⟩)
    go_ret2
    exact ⟨by simp [Leb.numU, Leb.cntU, hf.out], rfl⟩
  by_cases hb2 : 64 < b
  · have hf := Lib.hid (Leb.okU_bits (l := l) (.inr hb2))
    go_enter Tryd.func15, Tryd.ntmps15
    go_wp2_with (go_at_call 22; refine (c17 A l n c w.heap.size _ HN.out (by omega) HA.out).mono ?_; rintro e w' ⟨rfl, rfl⟩)
    go_ret2
    exact ⟨by simp [Leb.numU, Leb.cntU, hf.out], rfl⟩
  by_cases hr0 : Leb.run l = 0
  · have hf := Lib.hid (Leb.okU_run (l := l) (n := b) (.inl hr0))
    have HR := Lib.hid hr0
    clear hr0
    go_enter Tryd.func15, Tryd.ntmps15
    go_wp2_with (go_at_call 22; refine (c17 A l n c w.heap.size _ HN.out (by omega) HA.out).mono ?_; rw [HR.out]; rintro e w' ⟨rfl, rfl⟩)
    go_ret2
    exact ⟨by simp [Leb.numU, Leb.cntU, hf.out], rfl⟩
  have hr1 : 1 ≤ Leb.run l := by omega
  have hrb : ((Leb.run l : Int) == 0) = false := by simp; omega
  by_cases hm : (b + 6) / 7 < (Leb.run l : Int)
  · have hf := Lib.hid (Leb.okU_run (l := l) (n := b) (.inr hm))
    go_enter Tryd.func15, Tryd.ntmps15
    go_wp2_with (first | (go_at_call 22; refine (c17 A l n c w.heap.size _ HN.out (by omega) HA.out).mono ?_; rintro e w' ⟨rfl, rfl⟩) | (go_at_call 23; refine (c18 _ _ (by omega) (by omega)).mono ?_; rintro e w' ⟨rfl, rfl⟩))
    go_ret2
    exact ⟨by simp [Leb.numU, Leb.cntU, hf.out], rfl⟩
  obtain ⟨m, hbm⟩ : ∃ m : Nat, b = m := ⟨b.toNat, by omega⟩
  subst hbm
  have HL := Lib.hid (Leb.length_used l)
  have HT := Lib.hid (HA.out.take (Leb.run l))
  have HU := Lib.hid (Leb.num_used l)
  generalize hR : Leb.run l = R at *
  have HR := Lib.hid hR
  clear hR hr0
  have hd1 : decide ((m : Int) < 1) = false := by simpa using hb1
  have hd2 : decide (64 < (m : Int)) = false := by simpa using hb2
  have hd3 : decide (((m : Int) + 6) / 7 < (R : Int)) = false := by simpa using hm
  go_enter Tryd.func15, Tryd.ntmps15
  go_wp2_with (first | (go_at_call 22; refine (c17 A l n c w.heap.size _ HN.out (by omega) HA.out).mono ?_; rw [HR.out]; rintro e w' ⟨rfl, rfl⟩) | (go_at_call 23; refine (c18 _ _ (by omega) (by omega)).mono ?_; rintro e w' ⟨rfl, rfl⟩))
  go_loop [10] (fun i => ∃ a : Nat, m ≤ a ∧ a ≤ m + 6 ∧ i = .int .i64 (a : Int) ∧ Hid (∀ j : Nat, m ≤ j → j < a → (Leb.used l : Int) / 2 ^ j % 2 = 0)) (fun i => m + 6 - (intOf i).toNat)
  case atStart => exact ⟨m, by omega, by omega, rfl, Lib.hid (fun j h1 h2 => by omega)⟩
  case round =>
    obtain ⟨a, ham, ham6, rfl, HZ⟩ := hrel
    by_cases hlt : (a : Int) < 7 * (R : Int)
    · by_cases hbit : (Leb.used l : Int) / 2 ^ a % 2 = 0
      · have hbb : ((Leb.used l : Int) / 2 ^ a % 2 != 0) = false := by simp [hbit]
        have HBit := Lib.hid hbit
        clear hbit
        go_wp2_with (go_at_call 24; refine (c19 A (l.take R) R c w.heap.size _ false _ HL.out.symm hr1 (by omega) HT.out (by omega)).mono ?_; rw [HU.out, Int.toNat_natCast]; rintro e w' ⟨rfl, rfl⟩)
        go_round
        case rel =>
          refine ⟨a + 1, by omega, by omega, by go_num, Lib.hid (fun j h1 h2 => ?_)⟩
          by_cases hj : j = a
          · subst hj; exact HBit.out
          · exact HZ.out j h1 (by omega)
        case measure => simp [intOf]; omega
      · have hbb : ((Leb.used l : Int) / 2 ^ a % 2 != 0) = true := by simpa using hbit
        have hf := Lib.hid (Leb.okU_bit (l := l) (n := (m : Int)) (a := a) (by omega) hbit)
        clear hbit
        go_wp2_with (go_at_call 24; refine (c19 A (l.take R) R c w.heap.size _ false _ HL.out.symm hr1 (by omega) HT.out (by omega)).mono ?_; rw [HU.out, Int.toNat_natCast]; rintro e w' ⟨rfl, rfl⟩)
        go_ret2
        exact ⟨by simp [Leb.numU, Leb.cntU, hf.out], rfl⟩
    · have hok : Leb.okU l (m : Int) = true := by
        refine Leb.okU_all (by omega) (by omega) (by rw [HR.out]; exact hr1) (by rw [HR.out]; omega) (fun j h1 h2 => HZ.out j (by omega) ?_)
        rw [HR.out] at h2
        omega
      have HOk := Lib.hid hok
      clear hok HZ
      go_wp2
      go_loop [11, 12] (fun x i => ∃ t : Nat, t ≤ 64 ∧ i = .int .i64 (63 - (t : Int)) ∧ x = .int .u64 ((Leb.used l : Int) / 2 ^ (64 - t) % 2 ^ t)) (fun _ i => (intOf i + 1).toNat)
      case atStart => exact ⟨0, by omega, rfl, by simp⟩
      case round =>
        obtain ⟨t, ht, rfl, rfl⟩ := hrel
        by_cases ht64 : t < 64
        · obtain ⟨hx0, hx1⟩ := Leb.bits_bound (Leb.used l : Int) t ht64
          have hmore := Leb.more_bits (Leb.used l : Int) t ht64
          have hto : (63 - (t : Int)).toNat = 63 - t := by omega
          obtain ⟨z, hz⟩ : ∃ z : Int, z = (Leb.used l : Int) / 2 ^ (63 - t) % 2 := ⟨_, rfl⟩
          rw [← hz] at hmore
          have hz0 : 0 ≤ z := by omega
          have hz1 : z ≤ 1 := by omega
          generalize (Leb.used l : Int) / 2 ^ (64 - t) % 2 ^ t = y at *
          have HM := Lib.hid hmore
          have HZ := Lib.hid hz
          have HTo := Lib.hid hto
          clear hmore hz hto
          go_wp2_with (go_at_call 24; refine (c19 A (l.take R) R c w.heap.size _ false _ HL.out.symm hr1 (by omega) HT.out (by omega)).mono ?_; rw [HU.out, HTo.out, ← HZ.out]; rintro e w' ⟨rfl, rfl⟩)
          go_round
          case rel => exact ⟨t + 1, by omega, by go_num, by rw [show 64 - (t + 1) = 63 - t by omega, HM.out]⟩
          case measure => simp [intOf]; omega
        · obtain rfl : t = 64 := by omega
          go_wp2
          go_ret2
          refine ⟨ret2i ?_ ?_, rfl⟩
          · rw [Leb.numU, if_pos HOk.out]
            have := Leb.used_lt HOk.out
            exact Int.emod_eq_of_lt (by omega) (by omega)
          · rw [Leb.cntU, if_pos HOk.out, HR.out]
set_option maxHeartbeats 2000000 in
/-- the document's 'Take', of a signed number. -/
theorem c9s (A : Option Addr) (l : List UInt8) (n c : Nat) (b : Int) (w : World) (hn : n = l.length) (hmax : n ≤ 1000000) (hnc : n ≤ c) (hA : Has w w.heap.size A l) :
   Calls Tryd.prog 15 #[.slice A n c, .int .i64 b, .bool true] w fun e w' => e = .returned (.tuple #[.int .u64 (Leb.numS l b % 18446744073709551616), .int .i64 (Leb.cntS l b)]) ∧ w = w' := by
  have HA := Lib.hid hA
  have HN := Lib.hid hn
  have hrl := Leb.run_le l
  rw [← hn] at hrl
  clear hA hn
  by_cases hb1 : b < 1
  · have hf := Lib.hid (Leb.okS_bits (l := l) (.inl hb1))
    go_enter Tryd.func15, Tryd.ntmps15
    go_wp2_with (go_at_call 22; refine (c17 A l n c w.heap.size _ HN.out (by omega) HA.out).mono ?_; rintro e w' ⟨rfl, rfl⟩)
    go_ret2
    exact ⟨by simp [Leb.numS, Leb.cntS, hf.out], rfl⟩
  by_cases hb2 : 64 < b
  · have hf := Lib.hid (Leb.okS_bits (l := l) (.inr hb2))
    go_enter Tryd.func15, Tryd.ntmps15
    go_wp2_with (go_at_call 22; refine (c17 A l n c w.heap.size _ HN.out (by omega) HA.out).mono ?_; rintro e w' ⟨rfl, rfl⟩)
    go_ret2
    exact ⟨by simp [Leb.numS, Leb.cntS, hf.out], rfl⟩
  by_cases hr0 : Leb.run l = 0
  · have hf := Lib.hid (Leb.okS_run (l := l) (n := b) (.inl hr0))
    have HR := Lib.hid hr0
    clear hr0
    go_enter Tryd.func15, Tryd.ntmps15
    go_wp2_with (go_at_call 22; refine (c17 A l n c w.heap.size _ HN.out (by omega) HA.out).mono ?_; rw [HR.out]; rintro e w' ⟨rfl, rfl⟩)
    go_ret2
    exact ⟨by simp [Leb.numS, Leb.cntS, hf.out], rfl⟩
  have hr1 : 1 ≤ Leb.run l := by omega
  have hrb : ((Leb.run l : Int) == 0) = false := by simp; omega
  by_cases hm : (b + 6) / 7 < (Leb.run l : Int)
  · have hf := Lib.hid (Leb.okS_run (l := l) (n := b) (.inr hm))
    go_enter Tryd.func15, Tryd.ntmps15
    go_wp2_with (first | (go_at_call 22; refine (c17 A l n c w.heap.size _ HN.out (by omega) HA.out).mono ?_; rintro e w' ⟨rfl, rfl⟩) | (go_at_call 23; refine (c18 _ _ (by omega) (by omega)).mono ?_; rintro e w' ⟨rfl, rfl⟩))
    go_ret2
    exact ⟨by simp [Leb.numS, Leb.cntS, hf.out], rfl⟩
  obtain ⟨m, hbm⟩ : ∃ m : Nat, b = m := ⟨b.toNat, by omega⟩
  subst hbm
  have HL := Lib.hid (Leb.length_used l)
  have HT := Lib.hid (HA.out.take (Leb.run l))
  have HU := Lib.hid (Leb.num_sused l)
  generalize hR : Leb.run l = R at *
  have HR := Lib.hid hR
  clear hR hr0
  have HM1 : Hid (((m : Int) - 1).toNat = m - 1) := Lib.hid (by omega)
  have hd1 : decide ((m : Int) < 1) = false := by simpa using hb1
  have hd2 : decide (64 < (m : Int)) = false := by simpa using hb2
  have hd3 : decide (((m : Int) + 6) / 7 < (R : Int)) = false := by simpa using hm
  go_enter Tryd.func15, Tryd.ntmps15
  go_wp2_with (first | (go_at_call 22; refine (c17 A l n c w.heap.size _ HN.out (by omega) HA.out).mono ?_; rw [HR.out]; rintro e w' ⟨rfl, rfl⟩) | (go_at_call 23; refine (c18 _ _ (by omega) (by omega)).mono ?_; rintro e w' ⟨rfl, rfl⟩))
  go_loop [10] (fun i => ∃ a : Nat, m ≤ a ∧ a ≤ m + 6 ∧ i = .int .i64 (a : Int) ∧ Hid (∀ j : Nat, m ≤ j → j < a → Leb.sused l / 2 ^ j % 2 = Leb.sused l / 2 ^ (m - 1) % 2)) (fun i => m + 6 - (intOf i).toNat)
  case atStart => exact ⟨m, by omega, by omega, rfl, Lib.hid (fun j h1 h2 => by omega)⟩
  case round =>
    obtain ⟨a, ham, ham6, rfl, HZ⟩ := hrel
    by_cases hlt : (a : Int) < 7 * (R : Int)
    · by_cases hbit : Leb.sused l / 2 ^ a % 2 = Leb.sused l / 2 ^ (m - 1) % 2
      · have hbb : (Leb.sused l / 2 ^ a % 2 != Leb.sused l / 2 ^ (m - 1) % 2) = false := by simp [hbit]
        have HBit := Lib.hid hbit
        clear hbit
        go_wp2_with (go_at_call 24; refine (c19 A (l.take R) R c w.heap.size _ true _ HL.out.symm hr1 (by omega) HT.out (by omega)).mono ?_; rw [HU.out]; rintro e w' ⟨rfl, rfl⟩)
        go_round
        case rel =>
          refine ⟨a + 1, by omega, by omega, by go_num, Lib.hid (fun j h1 h2 => ?_)⟩
          by_cases hj : j = a
          · subst hj; exact HBit.out
          · exact HZ.out j h1 (by omega)
        case measure => simp [intOf]; omega
      · have hbb : (Leb.sused l / 2 ^ a % 2 != Leb.sused l / 2 ^ (m - 1) % 2) = true := by simpa using hbit
        have hf := Lib.hid (Leb.okS_bit (l := l) (n := (m : Int)) (a := a) (by omega) (by rw [HM1.out]; exact hbit))
        clear hbit
        go_wp2_with (go_at_call 24; refine (c19 A (l.take R) R c w.heap.size _ true _ HL.out.symm hr1 (by omega) HT.out (by omega)).mono ?_; rw [HU.out]; rintro e w' ⟨rfl, rfl⟩)
        go_ret2
        exact ⟨by simp [Leb.numS, Leb.cntS, hf.out], rfl⟩
    · have hok : Leb.okS l (m : Int) = true := by
        refine Leb.okS_all (by omega) (by omega) (by rw [HR.out]; exact hr1) (by rw [HR.out]; omega) (fun j h1 h2 => (HZ.out j (by omega) ?_).trans (by rw [HM1.out]))
        rw [HR.out] at h2
        omega
      have HOk := Lib.hid hok
      clear hok HZ
      go_wp2
      go_loop [11, 12] (fun x i => ∃ t : Nat, t ≤ 64 ∧ i = .int .i64 (63 - (t : Int)) ∧ x = .int .u64 (Leb.sused l / 2 ^ (64 - t) % 2 ^ t)) (fun _ i => (intOf i + 1).toNat)
      case atStart => exact ⟨0, by omega, rfl, by simp⟩
      case round =>
        obtain ⟨t, ht, rfl, rfl⟩ := hrel
        by_cases ht64 : t < 64
        · obtain ⟨hx0, hx1⟩ := Leb.bits_bound (Leb.sused l) t ht64
          have hmore := Leb.more_bits (Leb.sused l) t ht64
          have hto : (63 - (t : Int)).toNat = 63 - t := by omega
          obtain ⟨z, hz⟩ : ∃ z : Int, z = Leb.sused l / 2 ^ (63 - t) % 2 := ⟨_, rfl⟩
          rw [← hz] at hmore
          have hz0 : 0 ≤ z := by omega
          have hz1 : z ≤ 1 := by omega
          generalize Leb.sused l / 2 ^ (64 - t) % 2 ^ t = y at *
          have HM := Lib.hid hmore
          have HZ := Lib.hid hz
          have HTo := Lib.hid hto
          clear hmore hz hto
          go_wp2_with (go_at_call 24; refine (c19 A (l.take R) R c w.heap.size _ true _ HL.out.symm hr1 (by omega) HT.out (by omega)).mono ?_; rw [HU.out, HTo.out, ← HZ.out]; rintro e w' ⟨rfl, rfl⟩)
          go_round
          case rel => exact ⟨t + 1, by omega, by go_num, by rw [show 64 - (t + 1) = 63 - t by omega, HM.out]⟩
          case measure => simp [intOf]; omega
        · obtain rfl : t = 64 := by omega
          go_wp2
          go_ret2
          refine ⟨ret2i ?_ ?_, rfl⟩
          · rw [Leb.numS, if_pos HOk.out]
          · rw [Leb.cntS, if_pos HOk.out, HR.out]
end Go.Proofs.YtpnfpjlniodepaaDoor
