/-
  The document's run, most and bit: their contracts, for every slice of bytes.
-/
import Derived.Test.YtgnbkfkiigcdgaaGreatDoorP03
import Derived.Test.YtgnbkfkiigcdgaaGreatDoorP02
import Derived.OwnWalk
import Derived.Test.YtgnbkfkiigcdgaaGreatDoorP01
import Derived.Laws.OwnMore
import Derived.WalkSmall
namespace Go.Proofs.YtgnbkfkiigcdgaaGreatDoor
open Go.RowKit
set_option maxHeartbeats 400000 in
/-- the document's 'run'. -/
theorem c17 (A : Option Addr) (l : List UInt8) (n c B : Nat) (w : World) (hn : n = l.length) (hmax : n ≤ 9223372036854775807) (hA : Has w B A l) :
   Calls Tryz.prog 110 #[.slice A n c] w fun e w' => e = .returned (.int .i64 (Leb.run l : Int)) ∧ w = w' := by
  have HN := Lib.hid hn
  have HA := Lib.hid hA
  clear hn hA
  go_enter Tryz.func110, Tryz.ntmps110
  go_wp2
  go_loop [3] (fun i => ∃ k : Nat, k ≤ n ∧ i = .int .i64 k ∧ Hid (Leb.big l k)) (fun i => n - (intOf i).toNat)
  case atStart => exact ⟨0, by omega, rfl, Lib.hid (Leb.big_zero l)⟩
  case round =>
    obtain ⟨k, hk, rfl, HB⟩ := hrel
    by_cases hlt : k < n
    · obtain ⟨x, hx⟩ : ∃ x, l[k]? = some x := by
        have : k < l.length := by rw [← HN.out]; exact hlt
        exact ⟨l[k], List.getElem?_eq_getElem this⟩
      obtain ⟨ad, hAad, hadB, hcell⟩ := HA.out k x hx
      have HX := Lib.hid hx
      clear hx
      subst hAad
      have hx0 : (0 : Int) ≤ (x.toNat : Int) := by omega
      have hx1 : (x.toNat : Int) ≤ 255 := by have := x.toNat_lt; omega
      by_cases hsm : (x.toNat : Int) < 128
      · go_wp2
        go_ret
        exact ⟨by rw [Leb.run_at HB.out HX.out (by omega)]; rfl, rfl⟩
      · go_wp2
        go_round
        case rel => exact ⟨k + 1, by omega, by go_num, Lib.hid (Leb.big_succ HB.out HX.out (by omega))⟩
        case measure => simp [intOf]; omega
    · go_wp2
      go_ret
      exact ⟨by rw [Leb.run_none HB.out (by rw [← HN.out]; omega)]; rfl, rfl⟩
/-- the document's 'most'. -/
theorem c18 (b : Int) (w : World) (h0 : 0 ≤ b) (h1 : b ≤ 1000000) : Calls Tryz.prog 111 #[.int .i64 b] w fun e w' => e = .returned (.int .i64 ((b + 6) / 7)) ∧ w = w' := by
  go_enter Tryz.func111, Tryz.ntmps111
  go_wp2
  go_ret
  exact ⟨rfl, rfl⟩
theorem half_pow (c : Int) (k : Nat) : c / 2 ^ k / 2 = c / 2 ^ (k + 1) := by
  rw [Int.pow_succ, Int.ediv_ediv_of_nonneg]
  exact Int.pow_nonneg (by decide)
set_option maxHeartbeats 400000 in
/-- the document's 'bit', of a place that is there. -/
theorem c19lo (A : Option Addr) (l : List UInt8) (n c B a : Nat) (sg : Bool) (w : World) (hn : n = l.length) (hmax : n ≤ 1000000) (hA : Has w B A l) (ha : a < 7 * n) :
   Calls Tryz.prog 112 #[.slice A n c, .int .i64 (a : Int), .bool sg] w fun e w' => e = .returned (.int .i64 (Leb.num l sg / 2 ^ a % 2)) ∧ w = w' := by
  obtain ⟨x, hx⟩ : ∃ x, l[a / 7]? = some x := by
    have : a / 7 < l.length := by omega
    exact ⟨l[a / 7], List.getElem?_eq_getElem this⟩
  obtain ⟨ad, hAad, hadB, hcell⟩ := hA (a / 7) x hx
  have hfin := (Leb.num_lo l a sg (by omega)).trans (congrArg _ (Leb.val_bit l a x hx))
  have HF := Lib.hid hfin
  clear hfin hx hA hn
  subst hAad
  have hx0 : (0 : Int) ≤ (x.toNat : Int) := by omega
  have hx1 : (x.toNat : Int) ≤ 255 := by have := x.toNat_lt; omega
  have ha' : ¬ ((7 : Int) * (n : Int) ≤ (a : Int)) := by omega
  go_enter Tryz.func112, Tryz.ntmps112
  go_wp2
  go_loop [7, 8] (fun cv i => ∃ k : Nat, k ≤ a % 7 ∧ i = .int .i64 k ∧ cv = .int .i64 ((x.toNat : Int) / 2 ^ k)) (fun _ i => a % 7 - (intOf i).toNat)
  case atStart => exact ⟨0, by omega, rfl, by simp⟩
  case round =>
    obtain ⟨k, hk, rfl, rfl⟩ := hrel
    have hq0 : 0 ≤ (x.toNat : Int) / 2 ^ k := Int.ediv_nonneg hx0 (Int.pow_nonneg (by decide))
    have hq1 : (x.toNat : Int) / 2 ^ k ≤ 255 := Int.le_trans (Int.ediv_le_self _ hx0) hx1
    by_cases hlt : k < a % 7
    · go_wp2
      go_round
      case rel => exact ⟨k + 1, by omega, by go_num, by rw [half_pow]⟩
      case measure => simp [intOf]; omega
    · go_wp2
      go_ret
      obtain rfl : k = a % 7 := by omega
      refine ⟨?_, rfl⟩
      rw [HF.out]
      simp
set_option maxHeartbeats 400000 in
theorem c19hiU (A : Option Addr) (l : List UInt8) (n c a : Nat) (w : World) (hn : n = l.length) (hmax : n ≤ 1000000) (ha : 7 * n ≤ a) :
   Calls Tryz.prog 112 #[.slice A n c, .int .i64 (a : Int), .bool false] w fun e w' => e = .returned (.int .i64 (Leb.num l false / 2 ^ a % 2)) ∧ w = w' := by
  have HF := Lib.hid (Leb.val_hi l a (by omega))
  clear hn
  have ha' : (7 : Int) * (n : Int) ≤ (a : Int) := by omega
  go_enter Tryz.func112, Tryz.ntmps112
  go_wp2
  go_ret
  exact ⟨by rw [HF.out]; rfl, rfl⟩
set_option maxHeartbeats 400000 in
theorem c19hiS (A : Option Addr) (l : List UInt8) (n c B a : Nat) (w : World) (hn : n = l.length) (hn1 : 1 ≤ n) (hmax : n ≤ 1000000) (hA : Has w B A l) (ha : 7 * n ≤ a) :
   Calls Tryz.prog 112 #[.slice A n c, .int .i64 (a : Int), .bool true] w fun e w' => e = .returned (.int .i64 (Leb.num l true / 2 ^ a % 2)) ∧ w = w' := by
  obtain ⟨x, hx⟩ : ∃ x, l[(7 * n - 1) / 7]? = some x := by
    have : (7 * n - 1) / 7 < l.length := by omega
    exact ⟨l[(7 * n - 1) / 7], List.getElem?_eq_getElem this⟩
  obtain ⟨ad, hAad, hadB, hcell⟩ := hA ((7 * n - 1) / 7) x hx
  have hhi := Leb.sval_hi l a (by omega) (by omega)
  rw [← hn] at hhi
  have hfin := hhi.trans ((Leb.num_lo l (7 * n - 1) true (by omega)).trans (congrArg _ (Leb.val_bit l (7 * n - 1) x hx)))
  have HF : Hid (Leb.num l true / 2 ^ a % 2 = _) := hfin
  clear hfin hx hA hn hhi
  subst hAad
  have hx0 : (0 : Int) ≤ (x.toNat : Int) := by omega
  have hx1 : (x.toNat : Int) ≤ 255 := by have := x.toNat_lt; omega
  have ha' : (7 : Int) * (n : Int) ≤ (a : Int) := by omega
  go_enter Tryz.func112, Tryz.ntmps112
  go_wp2
  go_loop [7, 8] (fun cv i => ∃ k : Nat, k ≤ (7 * n - 1) % 7 ∧ i = .int .i64 k ∧ cv = .int .i64 ((x.toNat : Int) / 2 ^ k)) (fun _ i => (7 * n - 1) % 7 - (intOf i).toNat)
  case atStart => exact ⟨0, by omega, rfl, by simp⟩
  case round =>
    obtain ⟨k, hk, rfl, rfl⟩ := hrel
    have hq0 : 0 ≤ (x.toNat : Int) / 2 ^ k := Int.ediv_nonneg hx0 (Int.pow_nonneg (by decide))
    have hq1 : (x.toNat : Int) / 2 ^ k ≤ 255 := Int.le_trans (Int.ediv_le_self _ hx0) hx1
    by_cases hlt : k < (7 * n - 1) % 7
    · go_wp2
      go_round
      case rel => exact ⟨k + 1, by omega, by go_num, by rw [half_pow]⟩
      case measure => simp [intOf]; omega
    · go_wp2
      go_ret
      obtain rfl : k = (7 * n - 1) % 7 := by omega
      refine ⟨?_, rfl⟩
      rw [HF.out]
      simp
/-- the document's 'bit'. -/
theorem c19 (A : Option Addr) (l : List UInt8) (n c B : Nat) (a : Int) (sg : Bool) (w : World) (hn : n = l.length) (hn1 : 1 ≤ n) (hmax : n ≤ 1000000) (hA : Has w B A l) (ha : 0 ≤ a) :
   Calls Tryz.prog 112 #[.slice A n c, .int .i64 a, .bool sg] w fun e w' => e = .returned (.int .i64 (Leb.num l sg / 2 ^ a.toNat % 2)) ∧ w = w' := by
  obtain ⟨k, rfl⟩ := Int.eq_ofNat_of_zero_le ha
  rw [Int.toNat_natCast]
  by_cases h : k < 7 * n
  · exact c19lo A l n c B k sg w hn hmax hA h
  · cases sg
    · exact c19hiU A l n c k w hn hmax (by omega)
    · exact c19hiS A l n c B k w hn hn1 hmax hA (by omega)
end Go.Proofs.YtgnbkfkiigcdgaaGreatDoor
/-
  The document's Take: its contract, of unsigned and of signed numbers: it answers what the plain functions say.
-/
namespace Go.Proofs.YtgnbkfkiigcdgaaGreatDoor
open Go.RowKit
theorem ret2i {k : IntKind} {a a' b b' : Int} (h1 : a = a') (h2 : b = b') : Ending.returned (.tuple #[.int k a, .int .i64 b]) = .returned (.tuple #[.int k a', .int .i64 b']) := by rw [h1, h2]
set_option maxHeartbeats 2000000 in
/-- the document's 'Take', of an unsigned number. -/
theorem c9u (A : Option Addr) (l : List UInt8) (n c : Nat) (b : Int) (w : World) (hn : n = l.length) (hmax : n ≤ 1000000) (hnc : n ≤ c) (hA : Has w w.heap.size A l) :
   Calls Tryz.prog 62 #[.slice A n c, .int .i64 b, .bool false] w fun e w' => e = .returned (.tuple #[.int .u64 (Leb.numU l b), .int .i64 (Leb.cntU l b)]) ∧ w = w' := by
  have HA := Lib.hid hA
  have HN := Lib.hid hn
  have hrl := Leb.run_le l
  rw [← hn] at hrl
  clear hA hn
  by_cases hb1 : b < 1
  · have hf := Lib.hid (Leb.okU_bits (l := l) (.inl hb1))
    go_enter Tryz.func62, Tryz.ntmps62
    go_wp2_with (go_at_call 110; refine (c17 A l n c w.heap.size _ HN.out (by omega) HA.out).mono ?_; rintro e w' ⟨rfl, rfl⟩)
    go_ret2
    exact ⟨by simp [Leb.numU, Leb.cntU, hf.out], rfl⟩
  by_cases hb2 : 64 < b
  · have hf := Lib.hid (Leb.okU_bits (l := l) (.inr hb2))
    go_enter Tryz.func62, Tryz.ntmps62
    go_wp2_with (go_at_call 110; refine (c17 A l n c w.heap.size _ HN.out (by omega) HA.out).mono ?_; rintro e w' ⟨rfl, rfl⟩)
    go_ret2
    exact ⟨by simp [Leb.numU, Leb.cntU, hf.out], rfl⟩
  by_cases hr0 : Leb.run l = 0
  · have hf := Lib.hid (Leb.okU_run (l := l) (n := b) (.inl hr0))
    have HR := Lib.hid hr0
    clear hr0
    go_enter Tryz.func62, Tryz.ntmps62
    go_wp2_with (go_at_call 110; refine (c17 A l n c w.heap.size _ HN.out (by omega) HA.out).mono ?_; rw [HR.out]; rintro e w' ⟨rfl, rfl⟩)
    go_ret2
    exact ⟨by simp [Leb.numU, Leb.cntU, hf.out], rfl⟩
  have hr1 : 1 ≤ Leb.run l := by omega
  have hrb : ((Leb.run l : Int) == 0) = false := by simp; omega
  by_cases hm : (b + 6) / 7 < (Leb.run l : Int)
  · have hf := Lib.hid (Leb.okU_run (l := l) (n := b) (.inr hm))
    go_enter Tryz.func62, Tryz.ntmps62
    go_wp2_with (first | (go_at_call 110; refine (c17 A l n c w.heap.size _ HN.out (by omega) HA.out).mono ?_; rintro e w' ⟨rfl, rfl⟩) | (go_at_call 111; refine (c18 _ _ (by omega) (by omega)).mono ?_; rintro e w' ⟨rfl, rfl⟩))
    go_ret2
    exact ⟨by simp [Leb.numU, Leb.cntU, hf.out], rfl⟩
  obtain ⟨m, hbm⟩ : ∃ m : Nat, b = m := ⟨b.toNat, by omega⟩
  subst hbm
  have HL := Lib.hid (Leb.length_used l)
  have HT := Lib.hid (HA.out.take (Leb.run l))
  have HU := Lib.hid (Leb.num_used l)
  generalize hR : Leb.run l = R at *
  have HR := Lib.hid hR
  clear hR hr0
  have hd1 : decide ((m : Int) < 1) = false := by simpa using hb1
  have hd2 : decide (64 < (m : Int)) = false := by simpa using hb2
  have hd3 : decide (((m : Int) + 6) / 7 < (R : Int)) = false := by simpa using hm
  go_enter Tryz.func62, Tryz.ntmps62
  go_wp2_with (first | (go_at_call 110; refine (c17 A l n c w.heap.size _ HN.out (by omega) HA.out).mono ?_; rw [HR.out]; rintro e w' ⟨rfl, rfl⟩) | (go_at_call 111; refine (c18 _ _ (by omega) (by omega)).mono ?_; rintro e w' ⟨rfl, rfl⟩))
  go_loop [10] (fun i => ∃ a : Nat, m ≤ a ∧ a ≤ m + 6 ∧ i = .int .i64 (a : Int) ∧ Hid (∀ j : Nat, m ≤ j → j < a → (Leb.used l : Int) / 2 ^ j % 2 = 0)) (fun i => m + 6 - (intOf i).toNat)
  case atStart => exact ⟨m, by omega, by omega, rfl, Lib.hid (fun j h1 h2 => by omega)⟩
  case round =>
    obtain ⟨a, ham, ham6, rfl, HZ⟩ := hrel
    by_cases hlt : (a : Int) < 7 * (R : Int)
    · by_cases hbit : (Leb.used l : Int) / 2 ^ a % 2 = 0
      · have hbb : ((Leb.used l : Int) / 2 ^ a % 2 != 0) = false := by simp [hbit]
        have HBit := Lib.hid hbit
        clear hbit
        go_wp2_with (go_at_call 112; refine (c19 A (l.take R) R c w.heap.size _ false _ HL.out.symm hr1 (by omega) HT.out (by omega)).mono ?_; rw [HU.out, Int.toNat_natCast]; rintro e w' ⟨rfl, rfl⟩)
        go_round
        case rel =>
          refine ⟨a + 1, by omega, by omega, by go_num, Lib.hid (fun j h1 h2 => ?_)⟩
          by_cases hj : j = a
          · subst hj; exact HBit.out
          · exact HZ.out j h1 (by omega)
        case measure => simp [intOf]; omega
      · have hbb : ((Leb.used l : Int) / 2 ^ a % 2 != 0) = true := by simpa using hbit
        have hf := Lib.hid (Leb.okU_bit (l := l) (n := (m : Int)) (a := a) (by omega) hbit)
        clear hbit
        go_wp2_with (go_at_call 112; refine (c19 A (l.take R) R c w.heap.size _ false _ HL.out.symm hr1 (by omega) HT.out (by omega)).mono ?_; rw [HU.out, Int.toNat_natCast]; rintro e w' ⟨rfl, rfl⟩)
        go_ret2
        exact ⟨by simp [Leb.numU, Leb.cntU, hf.out], rfl⟩
    · have hok : Leb.okU l (m : Int) = true := by
        refine Leb.okU_all (by omega) (by omega) (by rw [HR.out]; exact hr1) (by rw [HR.out]; omega) (fun j h1 h2 => HZ.out j (by omega) ?_)
        rw [HR.out] at h2
        omega
      have HOk := Lib.hid hok
      clear hok HZ
      go_wp2
      go_loop [11, 12] (fun x i => ∃ t : Nat, t ≤ 64 ∧ i = .int .i64 (63 - (t : Int)) ∧ x = .int .u64 ((Leb.used l : Int) / 2 ^ (64 - t) % 2 ^ t)) (fun _ i => (intOf i + 1).toNat)
      case atStart => exact ⟨0, by omega, rfl, by simp⟩
      case round =>
        obtain ⟨t, ht, rfl, rfl⟩ := hrel
        by_cases ht64 : t < 64
        · obtain ⟨hx0, hx1⟩ := Leb.bits_bound (Leb.used l : Int) t ht64
          have hmore := Leb.more_bits (Leb.used l : Int) t ht64
          have hto : (63 - (t : Int)).toNat = 63 - t := by omega
          obtain ⟨z, hz⟩ : ∃ z : Int, z = (Leb.used l : Int) / 2 ^ (63 - t) % 2 := ⟨_, rfl⟩
          rw [← hz] at hmore
          have hz0 : 0 ≤ z := by omega
          have hz1 : z ≤ 1 := by omega
          generalize (Leb.used l : Int) / 2 ^ (64 - t) % 2 ^ t = y at *
          have HM := Lib.hid hmore
          have HZ := Lib.hid hz
          have HTo := Lib.hid hto
          clear hmore hz hto
          go_wp2_with (go_at_call 112; refine (c19 A (l.take R) R c w.heap.size _ false _ HL.out.symm hr1 (by omega) HT.out (by omega)).mono ?_; rw [HU.out, HTo.out, ← HZ.out]; rintro e w' ⟨rfl, rfl⟩)
          go_round
          case rel => exact ⟨t + 1, by omega, by go_num, by rw [show 64 - (t + 1) = 63 - t by omega, HM.out]⟩
          case measure => simp [intOf]; omega
        · obtain rfl : t = 64 := by omega
          go_wp2
          go_ret2
          refine ⟨ret2i ?_ ?_, rfl⟩
          · rw [Leb.numU, if_pos HOk.out]
            have := Leb.used_lt HOk.out
            exact Int.emod_eq_of_lt (by omega) (by omega)
          · rw [Leb.cntU, if_pos HOk.out, HR.out]
set_option maxHeartbeats 2000000 in
/-- the document's 'Take', of a signed number. -/
theorem c9s (A : Option Addr) (l : List UInt8) (n c : Nat) (b : Int) (w : World) (hn : n = l.length) (hmax : n ≤ 1000000) (hnc : n ≤ c) (hA : Has w w.heap.size A l) :
   Calls Tryz.prog 62 #[.slice A n c, .int .i64 b, .bool true] w fun e w' => e = .returned (.tuple #[.int .u64 (Leb.numS l b % 18446744073709551616), .int .i64 (Leb.cntS l b)]) ∧ w = w' := by
  have HA := Lib.hid hA
  have HN := Lib.hid hn
  have hrl := Leb.run_le l
  rw [← hn] at hrl
  clear hA hn
  by_cases hb1 : b < 1
  · have hf := Lib.hid (Leb.okS_bits (l := l) (.inl hb1))
    go_enter Tryz.func62, Tryz.ntmps62
    go_wp2_with (go_at_call 110; refine (c17 A l n c w.heap.size _ HN.out (by omega) HA.out).mono ?_; rintro e w' ⟨rfl, rfl⟩)
    go_ret2
    exact ⟨by simp [Leb.numS, Leb.cntS, hf.out], rfl⟩
  by_cases hb2 : 64 < b
  · have hf := Lib.hid (Leb.okS_bits (l := l) (.inr hb2))
    go_enter Tryz.func62, Tryz.ntmps62
    go_wp2_with (go_at_call 110; refine (c17 A l n c w.heap.size _ HN.out (by omega) HA.out).mono ?_; rintro e w' ⟨rfl, rfl⟩)
    go_ret2
    exact ⟨by simp [Leb.numS, Leb.cntS, hf.out], rfl⟩
  by_cases hr0 : Leb.run l = 0
  · have hf := Lib.hid (Leb.okS_run (l := l) (n := b) (.inl hr0))
    have HR := Lib.hid hr0
    clear hr0
    go_enter Tryz.func62, Tryz.ntmps62
    go_wp2_with (go_at_call 110; refine (c17 A l n c w.heap.size _ HN.out (by omega) HA.out).mono ?_; rw [HR.out]; rintro e w' ⟨rfl, rfl⟩)
    go_ret2
    exact ⟨by simp [Leb.numS, Leb.cntS, hf.out], rfl⟩
  have hr1 : 1 ≤ Leb.run l := by omega
  have hrb : ((Leb.run l : Int) == 0) = false := by simp; omega
  by_cases hm : (b + 6) / 7 < (Leb.run l : Int)
  · have hf := Lib.hid (Leb.okS_run (l := l) (n := b) (.inr hm))
    go_enter Tryz.func62, Tryz.ntmps62
    go_wp2_with (first | (go_at_call 110; refine (c17 A l n c w.heap.size _ HN.out (by omega) HA.out).mono ?_; rintro e w' ⟨rfl, rfl⟩) | (go_at_call 111; refine (c18 _ _ (by omega) (by omega)).mono ?_; rintro e w' ⟨rfl, rfl⟩))
    go_ret2
    exact ⟨by simp [Leb.numS, Leb.cntS, hf.out], rfl⟩
  obtain ⟨m, hbm⟩ : ∃ m : Nat, b = m := ⟨b.toNat, by omega⟩
  subst hbm
  have HL := Lib.hid (Leb.length_used l)
  have HT := Lib.hid (HA.out.take (Leb.run l))
  have HU := Lib.hid (Leb.num_sused l)
  generalize hR : Leb.run l = R at *
  have HR := Lib.hid hR
  clear hR hr0
  have HM1 : Hid (((m : Int) - 1).toNat = m - 1) := Lib.hid (by omega)
  have hd1 : decide ((m : Int) < 1) = false := by simpa using hb1
  have hd2 : decide (64 < (m : Int)) = false := by simpa using hb2
  have hd3 : decide (((m : Int) + 6) / 7 < (R : Int)) = false := by simpa using hm
  go_enter Tryz.func62, Tryz.ntmps62
  go_wp2_with (first | (go_at_call 110; refine (c17 A l n c w.heap.size _ HN.out (by omega) HA.out).mono ?_; rw [HR.out]; rintro e w' ⟨rfl, rfl⟩) | (go_at_call 111; refine (c18 _ _ (by omega) (by omega)).mono ?_; rintro e w' ⟨rfl, rfl⟩))
  go_loop [10] (fun i => ∃ a : Nat, m ≤ a ∧ a ≤ m + 6 ∧ i = .int .i64 (a : Int) ∧ Hid (∀ j : Nat, m ≤ j → j < a → Leb.sused l / 2 ^ j % 2 = Leb.sused l / 2 ^ (m - 1) % 2)) (fun i => m + 6 - (intOf i).toNat)
  case atStart => exact ⟨m, by omega, by omega, rfl, Lib.hid (fun j h1 h2 => by omega)⟩
  case round =>
    obtain ⟨a, ham, ham6, rfl, HZ⟩ := hrel
    by_cases hlt : (a : Int) < 7 * (R : Int)
    · by_cases hbit : Leb.sused l / 2 ^ a % 2 = Leb.sused l / 2 ^ (m - 1) % 2
      · have hbb : (Leb.sused l / 2 ^ a % 2 != Leb.sused l / 2 ^ (m - 1) % 2) = false := by simp [hbit]
        have HBit := Lib.hid hbit
        clear hbit
        go_wp2_with (go_at_call 112; refine (c19 A (l.take R) R c w.heap.size _ true _ HL.out.symm hr1 (by omega) HT.out (by omega)).mono ?_; rw [HU.out]; rintro e w' ⟨rfl, rfl⟩)
        go_round
        case rel =>
          refine ⟨a + 1, by omega, by omega, by go_num, Lib.hid (fun j h1 h2 => ?_)⟩
          by_cases hj : j = a
          · subst hj; exact HBit.out
          · exact HZ.out j h1 (by omega)
        case measure => simp [intOf]; omega
      · have hbb : (Leb.sused l / 2 ^ a % 2 != Leb.sused l / 2 ^ (m - 1) % 2) = true := by simpa using hbit
        have hf := Lib.hid (Leb.okS_bit (l := l) (n := (m : Int)) (a := a) (by omega) (by rw [HM1.out]; exact hbit))
        clear hbit
        go_wp2_with (go_at_call 112; refine (c19 A (l.take R) R c w.heap.size _ true _ HL.out.symm hr1 (by omega) HT.out (by omega)).mono ?_; rw [HU.out]; rintro e w' ⟨rfl, rfl⟩)
        go_ret2
        exact ⟨by simp [Leb.numS, Leb.cntS, hf.out], rfl⟩
    · have hok : Leb.okS l (m : Int) = true := by
        refine Leb.okS_all (by omega) (by omega) (by rw [HR.out]; exact hr1) (by rw [HR.out]; omega) (fun j h1 h2 => (HZ.out j (by omega) ?_).trans (by rw [HM1.out]))
        rw [HR.out] at h2
        omega
      have HOk := Lib.hid hok
      clear hok HZ
      go_wp2
      go_loop [11, 12] (fun x i => ∃ t : Nat, t ≤ 64 ∧ i = .int .i64 (63 - (t : Int)) ∧ x = .int .u64 (Leb.sused l / 2 ^ (64 - t) % 2 ^ t)) (fun _ i => (intOf i + 1).toNat)
      case atStart => exact ⟨0, by omega, rfl, by simp⟩
      case round =>
        obtain ⟨t, ht, rfl, rfl⟩ := hrel
        by_cases ht64 : t < 64
        · obtain ⟨hx0, hx1⟩ := Leb.bits_bound (Leb.sused l) t ht64
          have hmore := Leb.more_bits (Leb.sused l) t ht64
          have hto : (63 - (t : Int)).toNat = 63 - t := by omega
          obtain ⟨z, hz⟩ : ∃ z : Int, z = Leb.sused l / 2 ^ (63 - t) % 2 := ⟨_, rfl⟩
          rw [← hz] at hmore
          have hz0 : 0 ≤ z := by omega
          have hz1 : z ≤ 1 := by omega
          generalize Leb.sused l / 2 ^ (64 - t) % 2 ^ t = y at *
          have HM := Lib.hid hmore
          have HZ := Lib.hid hz
          have HTo := Lib.hid hto
          clear hmore hz hto
          go_wp2_with (go_at_call 112; refine (c19 A (l.take R) R c w.heap.size _ true _ HL.out.symm hr1 (by omega) HT.out (by omega)).mono ?_; rw [HU.out, HTo.out, ← HZ.out]; rintro e w' ⟨rfl, rfl⟩)
          go_round
          case rel => exact ⟨t + 1, by omega, by go_num, by rw [show 64 - (t + 1) = 63 - t by omega, HM.out]⟩
          case measure => simp [intOf]; omega
        · obtain rfl : t = 64 := by omega
          go_wp2
          go_ret2
          refine ⟨ret2i ?_ ?_, rfl⟩
          · rw [Leb.numS, if_pos HOk.out]
          · rw [Leb.cntS, if_pos HOk.out, HR.out]
end Go.Proofs.YtgnbkfkiigcdgaaGreatDoor
/-
  The document's all: its contract: a number's lowest bits, in n bytes, in a row of the call's own.
-/
namespace Go.Proofs.YtgnbkfkiigcdgaaGreatDoor
open Go.RowKit
open Leb (lastB allB lastB_lt)
def partB (X n : Nat) (sg : Bool) (k : Nat) : List UInt8 := if k < n then Leb.pre (X : Int) k else allB X n sg
theorem part_step {X n k q : Nat} {sg : Bool} (h : k + 1 < n) (hq : q = X / 128 ^ k) : bytesOf (partB X n sg (k + 1)) = bytesOf (partB X n sg k) ++ [Value.int .u8 ((q : Int) % 128 + 128)] := by
  have e : ((X : Int) / 128 ^ k % 128).toNat = q % 128 := by
    have : (X : Int) / 128 ^ k = ((X / 128 ^ k : Nat) : Int) := by simp
    rw [this, ← hq]; omega
  unfold partB
  rw [if_pos h, if_pos (by omega), Leb.pre_snoc, bytesOf_append, e, bytesOf_nat (q % 128 + 128) (by omega) ((q : Int) % 128 + 128) (by omega)]
theorem part_last {X k n y : Nat} {sg : Bool} {z : Int} (hn : n = k + 1) (h : lastB X (k + 1) sg = y) (hz : z = (y : Int)) : bytesOf (partB X n sg (k + 1)) = bytesOf (partB X n sg k) ++ [Value.int .u8 z] := by
  subst hn
  have := lastB_lt X (k + 1) sg
  unfold partB
  rw [if_neg (by omega), if_pos (by omega), allB, Nat.add_sub_cancel, bytesOf_append, h, bytesOf_nat y (by omega) z hz]
theorem lastB_plain (X k : Nat) (sg : Bool) (q : Nat) (hq : q = X / 128 ^ k) (h : k = 9 → sg = true → q % 128 ≠ 1) : lastB X (k + 1) sg = q % 128 := by
  unfold lastB
  rw [if_neg, Nat.add_sub_cancel, hq]
  rintro ⟨h1, h2, h3⟩
  obtain rfl : k = 9 := by omega
  exact h rfl h2 (by rw [hq]; exact h3)
theorem lastB_127 (X k q : Nat) (hk : k = 9) (hq : q = X / 128 ^ k) (h : q % 128 = 1) : lastB X (k + 1) true = 127 := by
  subst hk
  unfold lastB
  rw [if_pos ⟨rfl, rfl, by rw [← hq]; exact h⟩]
set_option maxRecDepth 100000 in
set_option maxHeartbeats 2000000 in
theorem c23 (X n : Nat) (sg : Bool) (w : World) (hX : X < 18446744073709551616) (hn1 : 1 ≤ n) (hn : n ≤ 10) :
    Calls Tryz.prog 61 #[.int .u64 (X : Int), .int .i64 (n : Int), .bool sg] w fun e w' => ∃ v, e = .returned v ∧ w'.ownsRow w.heap.size 5 1 v n (bytesOf (allB X n sg)) ∧ Below w.heap.size w w' := by
  obtain ⟨i0, hi, hz0, hz1, hz2⟩ := info_parts info5
  go_enter Tryz.func61, Tryz.ntmps61
  go_wp2_with fail
  go_loopw [0, 7, 8] (fun x v i wr => ∃ (k q : Nat), k ≤ n ∧ i = .int .i64 (k : Int) ∧ x = .int .u64 (q : Int) ∧ q ≤ 18446744073709551615 ∧ Hid (q = X / 128 ^ k) ∧ Hid (wr.ownsRow w.heap.size 5 1 v k (bytesOf (partB X n sg k))) ∧ Hid (Below w.heap.size w wr)) (fun _ _ i _ => n - (intOf i).toNat)
  case atStart =>
    refine ⟨0, X, by omega, rfl, rfl, by omega, Lib.hid (by simp), Lib.hid ?_, Lib.hid (Below.refl _ _)⟩
    refine ⟨?_, .inl ⟨rfl, rfl⟩⟩
    simp [partB, Leb.pre, bytesOf, show 0 < n by omega]
  case round =>
    obtain ⟨k, q, hk, rfl, rfl, hq, HQ, hown, hbel⟩ := hrel
    have hw8 : IntKind.u8.wrap ((q : Int) % 128) = (q : Int) % 128 := IntWalk.u8_in _ (by omega)
    by_cases hlt : k < n
    · have HD : Hid (q / 128 = X / 128 ^ (k + 1)) := Lib.hid (by rw [HQ.out, Nat.div_div_eq_div_mul, Nat.pow_succ])
      by_cases hla : k + 1 < n
      · have h9 : ((k : Int) == 9) = false := by simp; omega
        go_wp2_with (at_builtin; refine wpList_append_own _ rfl _ _ 36 rfl w.heap.size 5 i0 (.int .u8 0) 1 1 und22 hi hz0 hz1 hz2 rfl (by decide) _ _ _ rfl (hown.out.alloc _) ⟨wr.heap.size, 0, none⟩ 1 1 [.int .u8 ((q : Int) % 128 + 128)] rfl rfl ?a1 ?a2 ?a3 ?a4 ?a5 ?_)
        any_goals (first | with_reducible rfl | exact one_new wr _ 5 | (intro u hu; simp at hu; subst hu; rfl) | (unfold maxLen; omega) | omega | (have := hbel.out.size; simp; omega))
        intro v' w' hown' hgrow hnil
        have hbel' := (hbel.out.alloc hbel.out.size _).grown hgrow (by have := hbel.out.size; simp; omega) (own_ge hown.out)
        have HO' := Lib.hid hown'
        have HB' := Lib.hid hbel'
        clear hown' hgrow hnil hbel' hown hbel
        go_wp2_with fail
        go_roundw
        case rel =>
          refine ⟨k + 1, q / 128, by omega, by go_num, by go_num, by omega, HD, Lib.hid ?_, HB'⟩
          rw [part_step hla HQ.out]
          exact HO'.out
        case measure => simp [intOf]; omega
      · have HK : Hid (n = k + 1) := Lib.hid (by omega)
        by_cases hk9 : k = 9
        · have h9 : ((k : Int) == 9) = true := by simp; omega
          have HK9 := Lib.hid hk9
          clear hk9
          cases sg
          · have HLB := Lib.hid (lastB_plain X k false q HQ.out (by simp))
            go_wp2_with (at_builtin; refine wpList_append_own _ rfl _ _ 36 rfl w.heap.size 5 i0 (.int .u8 0) 1 1 und22 hi hz0 hz1 hz2 rfl (by decide) _ _ _ rfl (hown.out.alloc _) ⟨wr.heap.size, 0, none⟩ 1 1 [.int .u8 ((q : Int) % 128)] rfl rfl ?b1 ?b2 ?b3 ?b4 ?b5 ?_)
            any_goals (first | with_reducible rfl | exact one_new wr _ 5 | (intro u hu; simp at hu; subst hu; rfl) | (unfold maxLen; omega) | omega | (have := hbel.out.size; simp; omega))
            intro v' w' hown' hgrow hnil
            have hbel' := (hbel.out.alloc hbel.out.size _).grown hgrow (by have := hbel.out.size; simp; omega) (own_ge hown.out)
            have HO' := Lib.hid hown'
            have HB' := Lib.hid hbel'
            clear hown' hgrow hnil hbel' hown hbel
            go_wp2_with fail
            go_roundw
            case rel =>
              refine ⟨k + 1, q / 128, by omega, by go_num, by go_num, by omega, HD, Lib.hid ?_, HB'⟩
              rw [part_last (z := (q : Int) % 128) HK.out HLB.out (by omega)]
              exact HO'.out
            case measure => simp [intOf]; omega
          · by_cases hq1 : q % 128 = 1
            · have HLB := Lib.hid (lastB_127 X k q HK9.out HQ.out hq1)
              have hqe : ((q : Int) % 128 == 1) = true := by simp; omega
              clear hq1
              go_wp2_with (at_builtin; refine wpList_append_own _ rfl _ _ 36 rfl w.heap.size 5 i0 (.int .u8 0) 1 1 und22 hi hz0 hz1 hz2 rfl (by decide) _ _ _ rfl (hown.out.alloc _) ⟨wr.heap.size, 0, none⟩ 1 1 [.int .u8 (127)] rfl rfl ?c1 ?c2 ?c3 ?c4 ?c5 ?_)
              any_goals (first | with_reducible rfl | exact one_new wr _ 5 | (intro u hu; simp at hu; subst hu; rfl) | (unfold maxLen; omega) | omega | (have := hbel.out.size; simp; omega))
              intro v' w' hown' hgrow hnil
              have hbel' := (hbel.out.alloc hbel.out.size _).grown hgrow (by have := hbel.out.size; simp; omega) (own_ge hown.out)
              have HO' := Lib.hid hown'
              have HB' := Lib.hid hbel'
              clear hown' hgrow hnil hbel' hown hbel
              go_wp2_with fail
              go_roundw
              case rel =>
                refine ⟨k + 1, q / 128, by omega, by go_num, by go_num, by omega, HD, Lib.hid ?_, HB'⟩
                rw [part_last HK.out HLB.out rfl]
                exact HO'.out
              case measure => simp [intOf]; omega
            · have HLB := Lib.hid (lastB_plain X k true q HQ.out (fun _ _ => hq1))
              have hqe : ((q : Int) % 128 == 1) = false := by simp; omega
              clear hq1
              go_wp2_with (at_builtin; refine wpList_append_own _ rfl _ _ 36 rfl w.heap.size 5 i0 (.int .u8 0) 1 1 und22 hi hz0 hz1 hz2 rfl (by decide) _ _ _ rfl (hown.out.alloc _) ⟨wr.heap.size, 0, none⟩ 1 1 [.int .u8 ((q : Int) % 128)] rfl rfl ?d1 ?d2 ?d3 ?d4 ?d5 ?_)
              any_goals (first | with_reducible rfl | exact one_new wr _ 5 | (intro u hu; simp at hu; subst hu; rfl) | (unfold maxLen; omega) | omega | (have := hbel.out.size; simp; omega))
              intro v' w' hown' hgrow hnil
              have hbel' := (hbel.out.alloc hbel.out.size _).grown hgrow (by have := hbel.out.size; simp; omega) (own_ge hown.out)
              have HO' := Lib.hid hown'
              have HB' := Lib.hid hbel'
              clear hown' hgrow hnil hbel' hown hbel
              go_wp2_with fail
              go_roundw
              case rel =>
                refine ⟨k + 1, q / 128, by omega, by go_num, by go_num, by omega, HD, Lib.hid ?_, HB'⟩
                rw [part_last (z := (q : Int) % 128) HK.out HLB.out (by omega)]
                exact HO'.out
              case measure => simp [intOf]; omega
        · have HLB := Lib.hid (lastB_plain X k sg q HQ.out (fun h => absurd h hk9))
          have h9 : ((k : Int) == 9) = false := by simp; omega
          clear hk9
          go_wp2_with (at_builtin; refine wpList_append_own _ rfl _ _ 36 rfl w.heap.size 5 i0 (.int .u8 0) 1 1 und22 hi hz0 hz1 hz2 rfl (by decide) _ _ _ rfl (hown.out.alloc _) ⟨wr.heap.size, 0, none⟩ 1 1 [.int .u8 ((q : Int) % 128)] rfl rfl ?e1 ?e2 ?e3 ?e4 ?e5 ?_)
          any_goals (first | with_reducible rfl | exact one_new wr _ 5 | (intro u hu; simp at hu; subst hu; rfl) | (unfold maxLen; omega) | omega | (have := hbel.out.size; simp; omega))
          intro v' w' hown' hgrow hnil
          have hbel' := (hbel.out.alloc hbel.out.size _).grown hgrow (by have := hbel.out.size; simp; omega) (own_ge hown.out)
          have HO' := Lib.hid hown'
          have HB' := Lib.hid hbel'
          clear hown' hgrow hnil hbel' hown hbel
          go_wp2_with fail
          go_roundw
          case rel =>
            refine ⟨k + 1, q / 128, by omega, by go_num, by go_num, by omega, HD, Lib.hid ?_, HB'⟩
            rw [part_last (z := (q : Int) % 128) HK.out HLB.out (by omega)]
            exact HO'.out
          case measure => simp [intOf]; omega
    · go_wp2_with fail
      go_ret
      obtain rfl : k = n := by omega
      refine ⟨_, rfl, ?_, hbel.out⟩
      have h := hown.out
      rwa [show partB X k sg k = allB X k sg by simp [partB]] at h
end Go.Proofs.YtgnbkfkiigcdgaaGreatDoor
/-
  The document's Fewest: its contract, of unsigned and of signed numbers.
-/
namespace Go.Proofs.YtgnbkfkiigcdgaaGreatDoor
open Go.RowKit
set_option maxRecDepth 100000 in
set_option maxHeartbeats 2000000 in
/-- the document's 'Fewest', of an unsigned number. -/
theorem c13u (X : Nat) (w : World) (hX : X < 18446744073709551616) :
    Calls Tryz.prog 32 #[.int .u64 (X : Int), .bool false] w fun e w' => ∃ v, e = .returned v ∧ w'.ownsRow w.heap.size 5 1 v (Leb.encU X).length (bytesOf (Leb.encU X)) ∧ Below w.heap.size w w' := by
  go_enter Tryz.func32, Tryz.ntmps32
  go_wp2_with fail
  go_loopw [5] (fun i wr => ∃ k : Nat, 1 ≤ k ∧ k ≤ 10 ∧ i = .int .i64 (k : Int) ∧ Hid (k = 1 ∨ 128 ^ (k - 1) ≤ X) ∧ Hid (Below w.heap.size w wr)) (fun i _ => 10 - (intOf i).toNat)
  case atStart => exact ⟨1, by omega, by omega, rfl, Lib.hid (.inl rfl), Lib.hid (Below.refl _ _)⟩
  case round =>
    obtain ⟨k, hk1, hk10, rfl, HK, hbel⟩ := hrel
    by_cases hlt : k < 10
    · go_wp2_with fail
      refine (c23 X k false _ hX hk1 (by omega)).mono ?_
      rintro e w1 ⟨v, rfl, hown, hb1⟩
      obtain ⟨ad, c, rfl, hc, hlen, hhas⟩ := Has.of_own hown hk1
      obtain ⟨hnum, hcnt⟩ := Leb.numU_allB X k hk1 (by omega)
      have hbel1 := hbel.out.trans (hb1.mono hbel.out.size)
      have hown1 : w1.ownsRow w.heap.size 5 1 (.slice (some ad) k c) k (bytesOf (Leb.allB X k false)) := ⟨hown.1, hown.2.imp id (fun ⟨g, cap, cur, a, b, r⟩ => ⟨g, cap, cur, a, Nat.le_trans hbel.out.size b, r⟩)⟩
      have HH := Lib.hid hhas
      have HLn := Lib.hid hlen
      have HNum := Lib.hid hnum
      have HCnt := Lib.hid hcnt
      have HO := Lib.hid hown1
      have HB := Lib.hid hbel1
      clear hown hb1 hhas hlen hnum hcnt hbel1 hown1 hbel
      have hkk : ((k : Int) == (k : Int)) = true := by simp
      by_cases hX2 : X < 128 ^ k
      · have hm : ((X : Int) == (X : Int)) = true := by simp
        have HX2 := Lib.hid hX2
        have HMod : Hid (X % 128 ^ k = X) := Lib.hid (Nat.mod_eq_of_lt hX2)
        clear hX2
        go_wp2_with (go_at_call 62; refine (c9u (some ad) (Leb.allB X k false) k c 64 _ HLn.out (by omega) hc HH.out).mono ?_; rw [HNum.out, HCnt.out, HMod.out]; rintro e w' ⟨rfl, rfl⟩)
        go_ret
        refine ⟨_, rfl, ?_, HB.out⟩
        have e := Leb.encU_allB X k hk1 HX2.out HK.out
        rw [e, ← HLn.out]
        exact HO.out
      · obtain ⟨y, hy⟩ : ∃ y : Nat, y = X % 128 ^ k := ⟨_, rfl⟩
        have hm : ((y : Int) == (X : Int)) = false := by
          have := Nat.mod_lt X (Nat.pow_pos (n := k) (show 0 < 128 by decide))
          simp; omega
        have HX2 := Lib.hid hX2
        have HY := Lib.hid hy
        clear hX2 hy
        go_wp2_with (go_at_call 62; refine (c9u (some ad) (Leb.allB X k false) k c 64 _ HLn.out (by omega) hc HH.out).mono ?_; rw [HNum.out, HCnt.out, ← HY.out]; rintro e w' ⟨rfl, rfl⟩)
        go_roundw
        case rel => exact ⟨k + 1, by omega, by omega, by go_num, Lib.hid (.inr (by have := HX2.out; rw [Nat.add_sub_cancel]; omega)), HB⟩
        case measure => simp [intOf]; omega
    · have HK10 : Hid (k = 10) := Lib.hid (by omega)
      go_wp2_with fail
      refine (c23 X 10 false _ hX (by omega) (by omega)).mono ?_
      rintro e w1 ⟨v, rfl, hown, hb1⟩
      have hbel1 := hbel.out.trans (hb1.mono hbel.out.size)
      have hown1 : w1.ownsRow w.heap.size 5 1 v 10 (bytesOf (Leb.allB X 10 false)) := ⟨hown.1, hown.2.imp id (fun ⟨g, cap, cur, a, b, r⟩ => ⟨g, cap, cur, a, Nat.le_trans hbel.out.size b, r⟩)⟩
      have HO := Lib.hid hown1
      have HB := Lib.hid hbel1
      clear hown hb1 hbel1 hown1 hbel
      go_wp2_with fail
      go_ret
      refine ⟨_, rfl, ?_, HB.out⟩
      have h128 : (128 : Nat) ^ 10 = 1180591620717411303424 := by decide
      have hK := HK.out
      rw [HK10.out] at hK
      have e := Leb.encU_allB X 10 (by omega) (by omega) hK
      rw [e, Leb.allB_length X 10 false (by omega)]
      exact HO.out
set_option maxRecDepth 100000 in
set_option maxHeartbeats 2000000 in
/-- the document's 'Fewest', of a signed number. -/
theorem c13s (X : Nat) (w : World) (hX : X < 18446744073709551616) :
    Calls Tryz.prog 32 #[.int .u64 (X : Int), .bool true] w fun e w' => ∃ v, e = .returned v ∧ w'.ownsRow w.heap.size 5 1 v (Leb.encS (wrap64 (X : Int))).length (bytesOf (Leb.encS (wrap64 (X : Int)))) ∧ Below w.heap.size w w' := by
  go_enter Tryz.func32, Tryz.ntmps32
  go_wp2_with fail
  go_loopw [5] (fun i wr => ∃ k : Nat, 1 ≤ k ∧ k ≤ 10 ∧ i = .int .i64 (k : Int) ∧ Hid (k = 1 ∨ ¬ Leb.inS (wrap64 (X : Int)) (k - 1)) ∧ Hid (Below w.heap.size w wr)) (fun i _ => 10 - (intOf i).toNat)
  case atStart => exact ⟨1, by omega, by omega, rfl, Lib.hid (.inl rfl), Lib.hid (Below.refl _ _)⟩
  case round =>
    obtain ⟨k, hk1, hk10, rfl, HK, hbel⟩ := hrel
    by_cases hlt : k < 10
    · go_wp2_with fail
      refine (c23 X k true _ hX hk1 (by omega)).mono ?_
      rintro e w1 ⟨v, rfl, hown, hb1⟩
      obtain ⟨ad, c, rfl, hc, hlen, hhas⟩ := Has.of_own hown hk1
      obtain ⟨hnum, hcnt⟩ := Leb.numS_allB X k hX hk1 (by omega)
      have hbel1 := hbel.out.trans (hb1.mono hbel.out.size)
      have hown1 : w1.ownsRow w.heap.size 5 1 (.slice (some ad) k c) k (bytesOf (Leb.allB X k true)) := ⟨hown.1, hown.2.imp id (fun ⟨g, cap, cur, a, b, r⟩ => ⟨g, cap, cur, a, Nat.le_trans hbel.out.size b, r⟩)⟩
      have HH := Lib.hid hhas
      have HLn := Lib.hid hlen
      have HNum := Lib.hid hnum
      have HCnt := Lib.hid hcnt
      have HO := Lib.hid hown1
      have HB := Lib.hid hbel1
      clear hown hb1 hhas hlen hnum hcnt hbel1 hown1 hbel
      have hkk : ((k : Int) == (k : Int)) = true := by simp
      by_cases hX2 : Leb.inS (wrap64 (X : Int)) k
      · have hm : ((X : Int) == (X : Int)) = true := by simp
        have HX2 := Lib.hid hX2
        have HMod := Lib.hid (HNum.out.2 hX2)
        clear hX2
        go_wp2_with (go_at_call 62; refine (c9s (some ad) (Leb.allB X k true) k c 64 _ HLn.out (by omega) hc HH.out).mono ?_; rw [HMod.out, HCnt.out]; rintro e w' ⟨rfl, rfl⟩)
        go_ret
        refine ⟨_, rfl, ?_, HB.out⟩
        have e := Leb.encS_allB X k hX hk1 hk10 (.inr HX2.out) HK.out
        rw [e, ← HLn.out]
        exact HO.out
      · obtain ⟨y, hy⟩ : ∃ y : Int, y = Leb.numS (Leb.allB X k true) 64 % 18446744073709551616 := ⟨_, rfl⟩
        have hm : (y == (X : Int)) = false := by
          rw [beq_eq_false_iff_ne, hy]
          exact fun h => hX2 (HNum.out.1 h)
        have HX2 := Lib.hid hX2
        have HY := Lib.hid hy
        clear hX2 hy
        go_wp2_with (go_at_call 62; refine (c9s (some ad) (Leb.allB X k true) k c 64 _ HLn.out (by omega) hc HH.out).mono ?_; rw [← HY.out, HCnt.out]; rintro e w' ⟨rfl, rfl⟩)
        go_roundw
        case rel => exact ⟨k + 1, by omega, by omega, by go_num, Lib.hid (.inr (by rw [Nat.add_sub_cancel]; exact HX2.out)), HB⟩
        case measure => simp [intOf]; omega
    · have HK10 : Hid (k = 10) := Lib.hid (by omega)
      go_wp2_with fail
      refine (c23 X 10 true _ hX (by omega) (by omega)).mono ?_
      rintro e w1 ⟨v, rfl, hown, hb1⟩
      have hbel1 := hbel.out.trans (hb1.mono hbel.out.size)
      have hown1 : w1.ownsRow w.heap.size 5 1 v 10 (bytesOf (Leb.allB X 10 true)) := ⟨hown.1, hown.2.imp id (fun ⟨g, cap, cur, a, b, r⟩ => ⟨g, cap, cur, a, Nat.le_trans hbel.out.size b, r⟩)⟩
      have HO := Lib.hid hown1
      have HB := Lib.hid hbel1
      clear hown hb1 hbel1 hown1 hbel
      go_wp2_with fail
      go_ret
      refine ⟨_, rfl, ?_, HB.out⟩
      have hK := HK.out
      rw [HK10.out] at hK
      have e := Leb.encS_allB X 10 hX (by omega) (by omega) (.inl rfl) hK
      rw [e, Leb.allB_length X 10 true (by omega)]
      exact HO.out
end Go.Proofs.YtgnbkfkiigcdgaaGreatDoor
/-
  What a call has changed, block by block; bytes laid behind a row of the call's own; what the document's Fewest tells laid so.
-/
namespace Go.Proofs.YtgnbkfkiigcdgaaGreatDoor
open Go.RowKit
/-- Of the blocks that were there a call has changed those of T alone. -/
structure Mod (T : Nat → Prop) (w w' : World) : Prop where
  os : w'.os = w.os
  tape : w'.tape = w.tape
  output : w'.output = w.output
  size : w.heap.size ≤ w'.heap.size
  block : ∀ k, k < w.heap.size → ¬ T k → w'.heap[k]? = w.heap[k]?
theorem Mod.refl (T : Nat → Prop) (w : World) : Mod T w w := ⟨rfl, rfl, rfl, Nat.le_refl _, fun _ _ _ => rfl⟩
theorem Mod.trans {T T' : Nat → Prop} {a b c : World} (h : Mod T a b) (h' : Mod T' b c) (hs : ∀ k, k < a.heap.size → T' k → T k) : Mod T a c :=
  ⟨h'.os.trans h.os, h'.tape.trans h.tape, h'.output.trans h.output, Nat.le_trans h.size h'.size, fun k hk ht =>
    (h'.block k (Nat.lt_of_lt_of_le hk h.size) (fun ht' => ht (hs k hk ht'))).trans (h.block k hk ht)⟩
theorem Mod.more {T T' : Nat → Prop} {a b : World} (h : Mod T a b) (hs : ∀ k, k < a.heap.size → T k → T' k) : Mod T' a b :=
  ⟨h.os, h.tape, h.output, h.size, fun k hk ht => h.block k hk (fun ht' => ht (hs k hk ht'))⟩
theorem Mod.of_below {T : Nat → Prop} {w w' : World} (h : Below w.heap.size w w') : Mod T w w' := ⟨h.os, h.tape, h.output, h.size, fun k hk _ => h.block k hk⟩
theorem Mod.of_base {B : Nat} {w w' : World} (h : Below B w w') : Mod (B ≤ ·) w w' := ⟨h.os, h.tape, h.output, h.size, fun k _ ht => h.block k (Nat.lt_of_not_le ht)⟩
theorem Mod.of_grown {T : Nat → Prop} {w w' : World} {row : Option Nat} (h : w.grownBy w' row) (hr : ∀ k, row = some k → T k) : Mod T w w' :=
  ⟨h.os, h.tape, h.output, h.size, fun k hk ht => h.block k hk (fun e => ht (hr k e.symm))⟩
theorem Mod.below {T : Nat → Prop} {B : Nat} {w w' : World} (h : Mod T w w') (hB : B ≤ w.heap.size) (ht : ∀ k, k < B → ¬ T k) : Below B w w' :=
  ⟨h.os, h.tape, h.output, h.size, fun k hk => h.block k (by omega) (ht k hk)⟩
theorem Mod.none {w w' : World} (h : Mod (fun _ => False) w w') : Below w.heap.size w w' := h.below (Nat.le_refl _) (fun _ _ h => h)
theorem Mod.heap {T : Nat → Prop} {w w' : World} (h : Mod T w w') {k : Nat} {o : Obj} (hk : w.heap[k]? = some o) (ht : ¬ T k) : w'.heap[k]? = some o :=
  (h.block k (Array.getElem?_eq_some_iff.1 hk).1 ht).trans hk
theorem Mod.cell {T : Nat → Prop} {w w' : World} (h : Mod T w w') {a : Addr} {v : Value} (hk : w.cell? a = some v) (ht : ¬ T a.block) : w'.cell? a = some v :=
  (World.cell?_of_block (h.block a.block (World.block_lt_of_cell? w a hk) ht)).trans hk
theorem Mod.own {T : Nat → Prop} {w w' : World} (h : Mod T w w') {base e size n : Nat} {v : Value} {xs : List Value} (ho : w.ownsRow base e size v n xs) (ht : ∀ k, v.ownBlock = some k → ¬ T k) : w'.ownsRow base e size v n xs := by
  refine ⟨ho.1, ?_⟩
  rcases ho.2 with hn | ⟨g, cap, cur, rfl, hb, hgg, rest⟩
  · exact .inl hn
  · exact .inr ⟨g, cap, cur, rfl, hb, h.heap hgg (ht g rfl), rest⟩
theorem Mod.has {T : Nat → Prop} {w w' : World} (h : Mod T w w') {B : Nat} {A : Option Addr} {l : List UInt8} (hA : Has w B A l) (ht : ∀ k, k < B → ¬ T k) : Has w' B A l := fun k x hx => by
  obtain ⟨ad, h1, h2, h3⟩ := hA k x hx
  have hb : (ad.add k).block = ad.block := by unfold Addr.add; split <;> rfl
  exact ⟨ad, h1, h2, h.cell h3 (by rw [hb]; exact ht _ h2)⟩
theorem Mod.alloc {T : Nat → Prop} {a w : World} (h : Mod T a w) (o : Obj) : Mod T a (w.alloc o) := h.trans (T' := fun _ => False) (Mod.of_below ((Below.refl _ _).alloc (Nat.le_refl _) o)) (fun _ _ h => h.elim)
theorem Mod.setCell {T : Nat → Prop} {a w : World} (h : Mod T a w) {p : Addr} (hp : p.block < a.heap.size → T p.block) (u : Value) : Mod T a (w.setCell p u) :=
  h.trans (T' := fun k => k = p.block) ⟨rfl, rfl, rfl, by simp [World.setCell], fun k _ ht => Below.heap_setCell _ _ _ _ ht⟩ (fun k hk e => by subst e; exact hp hk)
theorem Mod.drewN {T : Nat → Prop} {a w : World} (h : Mod T a w) (n : Nat) : Mod T a (w.drewN n) := ⟨h.os, h.tape, h.output, h.size, h.block⟩
theorem Mod.drew {T : Nat → Prop} {a w : World} (h : Mod T a w) : Mod T a w.drew := ⟨h.os, h.tape, h.output, h.size, h.block⟩
theorem own_lt {w : World} {base e size n : Nat} {v : Value} {xs : List Value} (h : w.ownsRow base e size v n xs) : ∀ k, v.ownBlock = some k → k < w.heap.size := fun k hk => (h.lt k hk).2
theorem own_base {w : World} {base base' e size n : Nat} {v : Value} {xs : List Value} (h : w.ownsRow base e size v n xs) (hb : base' ≤ base) : w.ownsRow base' e size v n xs :=
  ⟨h.1, h.2.imp id (fun ⟨g, cap, cur, a, b, r⟩ => ⟨g, cap, cur, a, Nat.le_trans hb b, r⟩)⟩
theorem own_form {w : World} {base e size n : Nat} {v : Value} {xs : List Value} (h : w.ownsRow base e size v n xs) : ∃ A c, v = .slice A n c ∧ n ≤ c ∧ c ≤ maxLen := by
  rcases h.2 with ⟨rfl, rfl⟩ | ⟨g, cap, cur, rfl, _, _, h1, h2, _⟩
  · exact ⟨none, 0, rfl, Nat.le_refl _, by unfold maxLen; omega⟩
  · exact ⟨_, cap, rfl, h1, h2⟩
theorem own_form1 {w : World} {base e size n : Nat} {v : Value} {xs : List Value} (h : w.ownsRow base e size v n xs) (hn : 0 < n) : ∃ g c, v = .slice (some ⟨g, 0, none⟩) n c ∧ n ≤ c ∧ c ≤ maxLen ∧ base ≤ g := by
  rcases h.2 with ⟨rfl, rfl⟩ | ⟨g, cap, cur, rfl, hb, _, h1, h2, _⟩
  · omega
  · exact ⟨g, cap, rfl, h1, h2, hb⟩
/-- An append leaves the row where it was, or lays a new one. -/
theorem append_tight {P : Program} (w : World) (base : Nat) (t ty e : TypeId) (i : TypeInfo) (z : Value) (size bytes : Nat) (ht : P.underlying t = some (.slice e)) (hi : P.info? e = some i) (hz : i.zero = some z)
    (hsize : i.size = size) (hby : i.bytes = bytes) (v : Value) (n : Nat) (xs : List Value) (hown : w.ownsRow base e size v n xs)
    (a : Addr) (m c : Nat) (news : List Value) (hl : news.length = m * size) (hnews : ∀ j u, news[j]? = some u → w.cell? (a.add j) = some u) (h1 : ∀ u ∈ news, u.oneCell' = true) (hm : 0 < m)
    (h63 : n + m ≤ maxLen) (hbytes : (n + m) * bytes ≤ 140737488355328) {v' : Value} {w' : World} (hrun : (Builtin.append_ #[t, t] ty #[v, .slice (some a) m c]).run P w = .ok v' w') :
    ∀ g, v'.ownBlock = some g → v.ownBlock = some g ∨ w.heap.size ≤ g := by
  subst hsize
  subst hby
  have hsmall : n + m ≤ 9223372036854775807 := by simp only [maxLen] at h63; omega
  intro g' hg'
  rcases hown.2 with ⟨rfl, rfl⟩ | ⟨g, cap, cur, rfl, hbg, hg, hnc, hcm, hcs, htake⟩
  · have hr := Go.run_append_nil (P := P) w t ty e i z ht hi hz a m c news hl hnews hm (by omega) (by have hb := hbytes; simp only [Nat.zero_add] at hb; omega)
    rw [hr] at hrun
    injection hrun with h1 h2
    subst h1
    simp [Value.ownBlock] at hg'
    omega
  · by_cases hroom : n + m ≤ cap
    · have hfit : n * i.size + news.length ≤ cur.size := by rw [hl, hcs, ← Nat.add_mul]; exact Nat.mul_le_mul_right _ hroom
      have hr := run_append_room (P := P) w t ty e i ht hi g n cap cur hg a m c news hl hnews h1 hroom hfit
      rw [hr] at hrun
      injection hrun with h1 h2
      subst h1
      exact .inl hg'
    · have holds : ∀ j u, xs[j]? = some u → w.cell? ((⟨g, 0, none⟩ : Addr).add j) = some u := hown.cells (g := g) rfl
      have hr := run_append_grow (P := P) w t ty e i z ht hi hz ⟨g, 0, none⟩ n cap xs hown.1 holds a m c news hl hnews (by omega) (by omega) (growslice_fits (by omega) hbytes)
      rw [hr] at hrun
      injection hrun with h1 h2
      subst h1
      simp [Value.ownBlock] at hg'
      omega
/-- From one world to another a row of bytes of the call's own has become another one: that row alone has changed, or a new one is laid. -/
def Adds (base : Nat) (w : World) (v : Value) (w' : World) (v' : Value) (l' : List UInt8) : Prop :=
  w'.ownsRow base 5 1 v' l'.length (bytesOf l') ∧ Mod (fun g => v.ownBlock = some g) w w' ∧ ∀ g, v'.ownBlock = some g → v.ownBlock = some g ∨ w.heap.size ≤ g
theorem Adds.trans {base : Nat} {w w1 w2 : World} {v v1 v2 : Value} {l1 l2 : List UInt8} (h : Adds base w v w1 v1 l1) (h2 : Adds base w1 v1 w2 v2 l2) : Adds base w v w2 v2 l2 := by
  refine ⟨h2.1, h.2.1.trans h2.2.1 (fun g hg h3 => ?_), fun g hg => ?_⟩
  · rcases h.2.2 g h3 with h4 | h4
    · exact h4
    · omega
  · rcases h2.2.2 g hg with h3 | h3
    · exact h.2.2 g h3
    · have := h.2.1.size
      exact .inr (by omega)
/-- A call that leaves all as it was comes ahead. -/
theorem Adds.behind {base : Nat} {w w1 w2 : World} {v v2 : Value} {l2 : List UInt8} (hb : Below w.heap.size w w1) (h2 : Adds base w1 v w2 v2 l2) : Adds base w v w2 v2 l2 := by
  refine ⟨h2.1, (Mod.of_below hb).trans h2.2.1 (fun g _ h3 => h3), fun g hg => ?_⟩
  rcases h2.2.2 g hg with h3 | h3
  · exact .inl h3
  · have := hb.size
    exact .inr (by omega)
theorem Adds.below {base : Nat} {w w' : World} {v v' : Value} {l' : List UInt8} (h : Adds base w v w' v' l') (hv : ∀ g, v.ownBlock = some g → base ≤ g) (hb : base ≤ w.heap.size) : Below base w w' := h.2.1.below hb (fun k hk e => by have := hv k e; omega)
/-- What a call that lays bytes behind a row comes to. -/
def PutPost (base : Nat) (v : Value) (l' : List UInt8) (w : World) (e : Ending) (w' : World) : Prop := ∃ v', e = .returned v' ∧ Adds base w v w' v' l'
set_option maxRecDepth 100000 in
theorem appends_has (w : World) (base n m c : Nat) (v : Value) (l1 l2 : List UInt8) (A : Option Addr) (hown : w.ownsRow base 5 1 v n (bytesOf l1)) (hA : Has w w.heap.size A l2) (hm : m = l2.length) (hsz : n + m ≤ 140737488355328) (hb : base ≤ w.heap.size) :
    ∃ v' w', (Builtin.append_ #[36, 36] 36 #[v, .slice A m c]).run Tryz.prog w = .ok v' w' ∧ w'.ownsRow base 5 1 v' (n + m) (bytesOf (l1 ++ l2)) ∧ Mod (fun g => v.ownBlock = some g) w w' ∧ ∀ g, v'.ownBlock = some g → v.ownBlock = some g ∨ w.heap.size ≤ g := by
  obtain ⟨i0, hi, hz0, hz1, hz2⟩ := info_parts info5
  by_cases h0 : l2 = []
  · subst h0
    have hm0 : m = 0 := hm
    subst hm0
    cases A with
    | none => exact ⟨v, w, run_append_nil w base n c v _ hown, by simpa using hown, Mod.refl _ _, fun g hg => .inl hg⟩
    | some a =>
      obtain ⟨v', w', hrun, h2, h3, h4⟩ := run_append_own (P := Tryz.prog) w base 36 36 5 i0 (.int .u8 0) 1 1 und22 hi hz0 hz1 hz2 rfl (by decide) v n (bytesOf l1) hown a 0 c [] rfl (fun j u h => by simp at h) (by simp) (by unfold maxLen; omega) (by omega) hb
      refine ⟨v', w', hrun, by simpa using h2, Mod.of_grown h3 (fun _ h => h), fun g hg => ?_⟩
      rcases hown.2 with ⟨rfl, rfl⟩ | ⟨g0, cap, cur, rfl, hbg, hg0, hnc, hcm, hcs, htake⟩
      · have := h4.2 ⟨rfl, rfl⟩
        subst this
        exact .inl hg
      · have hr := run_append_room (P := Tryz.prog) w 36 36 5 i0 und22 hi g0 n cap cur hg0 a 0 c [] (by simp) (fun j u h => by simp at h) (by simp) (by omega) (by simp [hz1]; omega)
        rw [hr] at hrun
        injection hrun with h1 h2
        subst h1
        exact .inl hg
  · cases A with
    | none =>
      exfalso
      cases l2 with
      | nil => exact h0 rfl
      | cons x r =>
        obtain ⟨ad, h, _⟩ := hA 0 x (by simp)
        cases h
    | some a =>
      have hl : 0 < m := by rw [hm]; exact List.length_pos_iff.2 h0
      have hnews : ∀ j u, (bytesOf l2)[j]? = some u → w.cell? (a.add j) = some u := by
        intro j u hu
        have h0 : 0 < (bytesOf l2).length := by have := (List.getElem?_eq_some_iff.1 hu).1; omega
        obtain ⟨ad, h, hc⟩ := hA.cells h0
        injection h with h
        subst h
        exact hc j u hu
      obtain ⟨v', w', hrun, h2, h3, _⟩ := run_append_own (P := Tryz.prog) w base 36 36 5 i0 (.int .u8 0) 1 1 und22 hi hz0 hz1 hz2 rfl (by decide) v n (bytesOf l1) hown a m c (bytesOf l2) (by rw [bytesOf_length, Nat.mul_one, hm]) hnews (bytesOf_one l2) (by unfold maxLen; omega) (by omega) hb
      exact ⟨v', w', hrun, by rw [bytesOf_append]; exact h2, Mod.of_grown h3 (fun _ h => h), append_tight (P := Tryz.prog) w base 36 36 5 i0 (.int .u8 0) 1 1 und22 hi hz0 hz1 hz2 v n (bytesOf l1) hown a m c (bytesOf l2) (by rw [bytesOf_length, Nat.mul_one, hm]) hnews (bytesOf_one l2) hl (by unfold maxLen; omega) (by omega) hrun⟩
theorem appends_adds (w : World) (base m c : Nat) (v : Value) (l1 l2 : List UInt8) (A : Option Addr) (hown : w.ownsRow base 5 1 v l1.length (bytesOf l1)) (hA : Has w w.heap.size A l2) (hm : m = l2.length) (hsz : l1.length + l2.length ≤ 140737488355328) (hb : base ≤ w.heap.size) :
    ∃ v' w', (Builtin.append_ #[36, 36] 36 #[v, .slice A m c]).run Tryz.prog w = .ok v' w' ∧ Adds base w v w' v' (l1 ++ l2) := by
  obtain ⟨v', w', h1, h2, h3, h4⟩ := appends_has w base l1.length m c v l1 l2 A hown hA hm (by omega) hb
  exact ⟨v', w', h1, by rw [List.length_append, ← hm]; exact h2, h3, h4⟩
theorem append1_adds (w : World) (base : Nat) (v : Value) (l : List UInt8) (x : UInt8) (hown : w.ownsRow base 5 1 v l.length (bytesOf l)) (hsz : l.length + 1 ≤ 140737488355328) (hb : base ≤ w.heap.size) :
    ∃ v' w', (Builtin.append_ #[36, 36] 36 #[v, .slice (some ⟨w.heap.size, 0, none⟩) 1 1]).run Tryz.prog (w.alloc (.cells #[.int .u8 (x.toNat : Int)] 5)) = .ok v' w' ∧ Adds base w v w' v' (l ++ [x]) := by
  have hlit : Has (w.alloc (.cells #[.int .u8 (x.toNat : Int)] 5)) (w.heap.size + 1) (some ⟨w.heap.size, 0, none⟩) [x] := Has.lit w [x] 5
  obtain ⟨v', w', h1, h2⟩ := appends_adds _ base 1 1 v l [x] _ (hown.alloc _) (hlit.more (by simp)) rfl (by simpa using hsz) (by simp; omega)
  exact ⟨v', w', h1, Adds.behind ((Below.refl _ _).alloc (Nat.le_refl _) _) h2⟩
theorem cells_new (w : World) (cs : List Value) (t : TypeId) : ∀ (j : Nat) (u : Value), cs[j]? = some u → (w.alloc (.cells cs.toArray t)).cell? ((⟨w.heap.size, 0, none⟩ : Addr).add j) = some u := by
  intro j u h
  have e2 : (⟨w.heap.size, 0, none⟩ : Addr).add j = ⟨w.heap.size, j, none⟩ := by
    unfold Addr.add; split <;> simp_all
  rw [e2, World.cell?_alloc_new]
  simpa using h
/-- The document's Fewest, and what it tells laid behind bytes. -/
theorem fewU_adds (base : Nat) (v : Value) (l : List UInt8) (X : Nat) (W : World) (hO : W.ownsRow base 5 1 v l.length (bytesOf l)) (hB : base ≤ W.heap.size) (hX : X < 18446744073709551616) (hL : l.length ≤ 100000000000000) :
    Calls Tryz.prog 32 #[.int .u64 (X : Int), .bool false] W fun e w1 => ∃ A c m w2 v2, e = .returned (.slice A m c) ∧ (Builtin.append_ #[36, 36] 36 #[v, .slice A m c]).run Tryz.prog w1 = .ok v2 w2 ∧ Adds base W v w2 v2 (l ++ Leb.encU X) := by
  have hle := Leb.encU_le10 X hX
  refine (c13u X W hX).mono ?_
  rintro e w1 ⟨v1, rfl, ho1, hb1⟩
  obtain ⟨A1, c1, rfl, _, hn1, hh1⟩ := Has.own ho1
  obtain ⟨v2, w2, hr2, ha2⟩ := appends_adds w1 base (Leb.encU X).length c1 v l (Leb.encU X) A1 ((Mod.of_below (T := fun _ => False) hb1).own hO (fun _ _ h => h)) hh1 hn1 (by omega) (Nat.le_trans hB hb1.size)
  exact ⟨A1, c1, _, w2, v2, rfl, hr2, Adds.behind hb1 ha2⟩
theorem fewS_adds (base : Nat) (v : Value) (l : List UInt8) (n : Int) (X : Nat) (W : World) (hO : W.ownsRow base 5 1 v l.length (bytesOf l)) (hB : base ≤ W.heap.size) (hX : X < 18446744073709551616) (hn : wrap64 (X : Int) = n) (h0 : -9223372036854775808 ≤ n) (h1 : n ≤ 9223372036854775807) (hL : l.length ≤ 100000000000000) :
    Calls Tryz.prog 32 #[.int .u64 (X : Int), .bool true] W fun e w1 => ∃ A c m w2 v2, e = .returned (.slice A m c) ∧ (Builtin.append_ #[36, 36] 36 #[v, .slice A m c]).run Tryz.prog w1 = .ok v2 w2 ∧ Adds base W v w2 v2 (l ++ Leb.encS n) := by
  have hle := Leb.encS_le10 n h0 h1
  refine (c13s X W hX).mono ?_
  rw [hn]
  rintro e w1 ⟨v1, rfl, ho1, hb1⟩
  obtain ⟨A1, c1, rfl, _, hn1, hh1⟩ := Has.own ho1
  obtain ⟨v2, w2, hr2, ha2⟩ := appends_adds w1 base (Leb.encS n).length c1 v l (Leb.encS n) A1 ((Mod.of_below (T := fun _ => False) hb1).own hO (fun _ _ h => h)) hh1 hn1 (by omega) (Nat.le_trans hB hb1.size)
  exact ⟨A1, c1, _, w2, v2, rfl, hr2, Adds.behind hb1 ha2⟩
theorem own_sl {w : World} {base n : Nat} {e : TypeId} {v : Value} {l : List UInt8} (h : w.ownsRow base e 1 v n (bytesOf l)) : ∃ (A : Option Addr) (c : Nat), v = .slice A n c ∧ n = l.length ∧ n ≤ c ∧ c ≤ maxLen ∧ (A = none → c = 0) ∧ Has w w.heap.size A l := by
  obtain ⟨A, c, rfl, h1, h2, h3⟩ := Has.own h
  refine ⟨A, c, rfl, h2, h1, ?_, ?_, h3⟩
  · rcases h.2 with ⟨h, _⟩ | ⟨g, cap, cur, h, _, _, _, hcm, _⟩
    · injection h with _ _ h; omega
    · injection h with _ _ h; omega
  · rintro rfl
    rcases h.2 with ⟨h, _⟩ | ⟨g, cap, cur, h, _⟩
    · injection h
    · injection h with h _ _; cases h
end Go.Proofs.YtgnbkfkiigcdgaaGreatDoor
