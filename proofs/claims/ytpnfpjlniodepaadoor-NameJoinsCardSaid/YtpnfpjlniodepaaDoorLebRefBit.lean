/-
  The document's run, most and bit: their contracts, for every slice of bytes.
-/
import Derived.Test.YtpnfpjlniodepaaDoorLebWords
import Derived.Test.YtpnfpjlniodepaaDoorLebBits
namespace Go.Proofs.YtpnfpjlniodepaaDoor
open Go.RowKit
set_option maxHeartbeats 400000 in
/-- the document's 'run'. -/
theorem c17 (A : Option Addr) (l : List UInt8) (n c B : Nat) (w : World) (hn : n = l.length) (hmax : n ≤ 9223372036854775807) (hA : Has w B A l) :
   Calls Tryd.prog 22 #[.slice A n c] w fun e w' => e = .returned (.int .i64 (Leb.run l : Int)) ∧ w = w' := by
  have HN := Lib.hid hn
  have HA := Lib.hid hA
  clear hn hA
  go_enter Tryd.func22, Tryd.ntmps22
  go_wp2
  go_loop [3] (fun i => ∃ k : Nat, k ≤ n ∧ i = .int .i64 k ∧ Hid (Leb.big l k)) (fun i => n - (intOf i).toNat)
  case atStart => exact ⟨0, by omega, rfl, Lib.hid (Leb.big_zero l)⟩
  case round =>
    obtain ⟨k, hk, rfl, HB⟩ := hrel
    by_cases hlt : k < n
    · obtain ⟨x, hx⟩ : ∃ x, l[k]? = some x := by
        have : k < l.length := by rw [← HN.out]; exact hlt
        exact ⟨l[k], List.getElem?_eq_getElem this⟩
      obtain ⟨ad, hAad, hadB, hcell⟩ := HA.out k x hx
      have HX := Lib.hid hx
      clear hx
      subst hAad
      have hx0 : (0 : Int) ≤ (x.toNat : Int) := by omega
      have hx1 : (x.toNat : Int) ≤ 255 := by have := x.toNat_lt; omega
      by_cases hsm : (x.toNat : Int) < 128
      · go_wp2
        go_ret
        exact ⟨by rw [Leb.run_at HB.out HX.out (by omega)]; rfl, rfl⟩
      · go_wp2
        go_round
        case rel => exact ⟨k + 1, by omega, by go_num, Lib.hid (Leb.big_succ HB.out HX.out (by omega))⟩
        case measure => simp [intOf]; omega
    · go_wp2
      go_ret
      exact ⟨by rw [Leb.run_none HB.out (by rw [← HN.out]; omega)]; rfl, rfl⟩
/-- the document's 'most'. -/
theorem c18 (b : Int) (w : World) (h0 : 0 ≤ b) (h1 : b ≤ 1000000) : Calls Tryd.prog 23 #[.int .i64 b] w fun e w' => e = .returned (.int .i64 ((b + 6) / 7)) ∧ w = w' := by
  go_enter Tryd.func23, Tryd.ntmps23
  go_wp2
  go_ret
  exact ⟨rfl, rfl⟩
theorem half_pow (c : Int) (k : Nat) : c / 2 ^ k / 2 = c / 2 ^ (k + 1) := by
  rw [Int.pow_succ, Int.ediv_ediv_of_nonneg]
  exact Int.pow_nonneg (by decide)
set_option maxHeartbeats 400000 in
/-- the document's 'bit', of a place that is there. -/
theorem c19lo (A : Option Addr) (l : List UInt8) (n c B a : Nat) (sg : Bool) (w : World) (hn : n = l.length) (hmax : n ≤ 1000000) (hA : Has w B A l) (ha : a < 7 * n) :
   Calls Tryd.prog 24 #[.slice A n c, .int .i64 (a : Int), .bool sg] w fun e w' => e = .returned (.int .i64 (Leb.num l sg / 2 ^ a % 2)) ∧ w = w' := by
  obtain ⟨x, hx⟩ : ∃ x, l[a / 7]? = some x := by
    have : a / 7 < l.length := by omega
    exact ⟨l[a / 7], List.getElem?_eq_getElem this⟩
  obtain ⟨ad, hAad, hadB, hcell⟩ := hA (a / 7) x hx
  have hfin := (Leb.num_lo l a sg (by omega)).trans (congrArg _ (Leb.val_bit l a x hx))
  have HF := Lib.hid hfin
  clear hfin hx hA hn
  subst hAad
  have hx0 : (0 : Int) ≤ (x.toNat : Int) := by omega
  have hx1 : (x.toNat : Int) ≤ 255 := by have := x.toNat_lt; omega
  have ha' : ¬ ((7 : Int) * (n : Int) ≤ (a : Int)) := by omega
  go_enter Tryd.func24, Tryd.ntmps24
  go_wp2
  go_loop [7, 8] (fun cv i => ∃ k : Nat, k ≤ a % 7 ∧ i = .int .i64 k ∧ cv = .int .i64 ((x.toNat : Int) / 2 ^ k)) (fun _ i => a % 7 - (intOf i).toNat)
  case atStart => exact ⟨0, by omega, rfl, by simp⟩
  case round =>
    obtain ⟨k, hk, rfl, rfl⟩ := hrel
    have hq0 : 0 ≤ (x.toNat : Int) / 2 ^ k := Int.ediv_nonneg hx0 (Int.pow_nonneg (by decide))
    have hq1 : (x.toNat : Int) / 2 ^ k ≤ 255 := Int.le_trans (Int.ediv_le_self _ hx0) hx1
    by_cases hlt : k < a % 7
    · go_wp2
      go_round
      case rel => exact ⟨k + 1, by omega, by go_num, by rw [half_pow]⟩
      case measure => simp [intOf]; omega
    · go_wp2
      go_ret
      obtain rfl : k = a % 7 := by omega
      refine ⟨?_, rfl⟩
      rw [HF.out]
      simp
set_option maxHeartbeats 400000 in
theorem c19hiU (A : Option Addr) (l : List UInt8) (n c a : Nat) (w : World) (hn : n = l.length) (hmax : n ≤ 1000000) (ha : 7 * n ≤ a) :
   Calls Tryd.prog 24 #[.slice A n c, .int .i64 (a : Int), .bool false] w fun e w' => e = .returned (.int .i64 (Leb.num l false / 2 ^ a % 2)) ∧ w = w' := by
  have HF := Lib.hid (Leb.val_hi l a (by omega))
  clear hn
  have ha' : (7 : Int) * (n : Int) ≤ (a : Int) := by omega
  go_enter Tryd.func24, Tryd.ntmps24
  go_wp2
  go_ret
  exact ⟨by rw [HF.out]; rfl, rfl⟩
set_option maxHeartbeats 400000 in
theorem c19hiS (A : Option Addr) (l : List UInt8) (n c B a : Nat) (w : World) (hn : n = l.length) (hn1 : 1 ≤ n) (hmax : n ≤ 1000000) (hA : Has w B A l) (ha : 7 * n ≤ a) :
   Calls Tryd.prog 24 #[.slice A n c, .int .i64 (a : Int), .bool true] w fun e w' => e = .returned (.int .i64 (Leb.num l true / 2 ^ a % 2)) ∧ w = w' := by
  obtain ⟨x, hx⟩ : ∃ x, l[(7 * n - 1) / 7]? = some x := by
    have : (7 * n - 1) / 7 < l.length := by omega
    exact ⟨l[(7 * n - 1) / 7], List.getElem?_eq_getElem this⟩
  obtain ⟨ad, hAad, hadB, hcell⟩ := hA ((7 * n - 1) / 7) x hx
  have hhi := Leb.sval_hi l a (by omega) (by omega)
  rw [← hn] at hhi
  have hfin := hhi.trans ((Leb.num_lo l (7 * n - 1) true (by omega)).trans (congrArg _ (Leb.val_bit l (7 * n - 1) x hx)))
  have HF : Hid (Leb.num l true / 2 ^ a % 2 = _) := hfin
  clear hfin hx hA hn hhi
  subst hAad
  have hx0 : (0 : Int) ≤ (x.toNat : Int) := by omega
  have hx1 : (x.toNat : Int) ≤ 255 := by have := x.toNat_lt; omega
  have ha' : (7 : Int) * (n : Int) ≤ (a : Int) := by omega
  go_enter Tryd.func24, Tryd.ntmps24
  go_wp2
  go_loop [7, 8] (fun cv i => ∃ k : Nat, k ≤ (7 * n - 1) % 7 ∧ i = .int .i64 k ∧ cv = .int .i64 ((x.toNat : Int) / 2 ^ k)) (fun _ i => (7 * n - 1) % 7 - (intOf i).toNat)
  case atStart => exact ⟨0, by omega, rfl, by simp⟩
  case round =>
    obtain ⟨k, hk, rfl, rfl⟩ := hrel
    have hq0 : 0 ≤ (x.toNat : Int) / 2 ^ k := Int.ediv_nonneg hx0 (Int.pow_nonneg (by decide))
    have hq1 : (x.toNat : Int) / 2 ^ k ≤ 255 := Int.le_trans (Int.ediv_le_self _ hx0) hx1
    by_cases hlt : k < (7 * n - 1) % 7
    · go_wp2
      go_round
      case rel => exact ⟨k + 1, by omega, by go_num, by rw [half_pow]⟩
      case measure => simp [intOf]; omega
    · go_wp2
      go_ret
      obtain rfl : k = (7 * n - 1) % 7 := by omega
      refine ⟨?_, rfl⟩
      rw [HF.out]
      simp
/-- the document's 'bit'. -/
theorem c19 (A : Option Addr) (l : List UInt8) (n c B : Nat) (a : Int) (sg : Bool) (w : World) (hn : n = l.length) (hn1 : 1 ≤ n) (hmax : n ≤ 1000000) (hA : Has w B A l) (ha : 0 ≤ a) :
   Calls Tryd.prog 24 #[.slice A n c, .int .i64 a, .bool sg] w fun e w' => e = .returned (.int .i64 (Leb.num l sg / 2 ^ a.toNat % 2)) ∧ w = w' := by
  obtain ⟨k, rfl⟩ := Int.eq_ofNat_of_zero_le ha
  rw [Int.toNat_natCast]
  by_cases h : k < 7 * n
  · exact c19lo A l n c B k sg w hn hmax hA h
  · cases sg
    · exact c19hiU A l n c k w hn hmax (by omega)
    · exact c19hiS A l n c B k w hn hn1 hmax hA (by omega)
end Go.Proofs.YtpnfpjlniodepaaDoor
