/-
  The document's Fewest: its contract, of unsigned and of signed numbers.
-/
import Derived.Test.YtpnfpjlniodepaaDoorLebRefAll
import Derived.Test.YtpnfpjlniodepaaDoorLebRefTake
namespace Go.Proofs.YtpnfpjlniodepaaDoor
open Go.RowKit
set_option maxHeartbeats 2000000 in
/-- the document's 'Fewest', of an unsigned number. -/
theorem c13u (X : Nat) (w : World) (hX : X < 18446744073709551616) :
    Calls Tryd.prog 13 #[.int .u64 (X : Int), .bool false] w fun e w' => ∃ v, e = .returned v ∧ w'.ownsRow w.heap.size 5 1 v (Leb.encU X).length (bytesOf (Leb.encU X)) ∧ Below w.heap.size w w' := by
  go_enter Tryd.func13, Tryd.ntmps13
  go_wp2_with fail
  go_loopw [5] (fun i wr => ∃ k : Nat, 1 ≤ k ∧ k ≤ 10 ∧ i = .int .i64 (k : Int) ∧ Hid (k = 1 ∨ 128 ^ (k - 1) ≤ X) ∧ Hid (Below w.heap.size w wr)) (fun i _ => 10 - (intOf i).toNat)
  case atStart => exact ⟨1, by omega, by omega, rfl, Lib.hid (.inl rfl), Lib.hid (Below.refl _ _)⟩
  case round =>
    obtain ⟨k, hk1, hk10, rfl, HK, hbel⟩ := hrel
    by_cases hlt : k < 10
    · go_wp2_with fail
      refine (c23 X k false _ hX hk1 (by omega)).mono ?_
      rintro e w1 ⟨v, rfl, hown, hb1⟩
      obtain ⟨ad, c, rfl, hc, hlen, hhas⟩ := Has.of_own hown hk1
      obtain ⟨hnum, hcnt⟩ := Leb.numU_allB X k hk1 (by omega)
      have hbel1 := hbel.out.trans (hb1.mono hbel.out.size)
      have hown1 : w1.ownsRow w.heap.size 5 1 (.slice (some ad) k c) k (bytesOf (Leb.allB X k false)) := ⟨hown.1, hown.2.imp id (fun ⟨g, cap, cur, a, b, r⟩ => ⟨g, cap, cur, a, Nat.le_trans hbel.out.size b, r⟩)⟩
      have HH := Lib.hid hhas
      have HLn := Lib.hid hlen
      have HNum := Lib.hid hnum
      have HCnt := Lib.hid hcnt
      have HO := Lib.hid hown1
      have HB := Lib.hid hbel1
      clear hown hb1 hhas hlen hnum hcnt hbel1 hown1 hbel
      have hkk : ((k : Int) == (k : Int)) = true := by simp
      by_cases hX2 : X < 128 ^ k
      · have hm : ((X : Int) == (X : Int)) = true := by simp
        have HX2 := Lib.hid hX2
        have HMod : Hid (X % 128 ^ k = X) := Lib.hid (Nat.mod_eq_of_lt hX2)
        clear hX2
        go_wp2_with (go_at_call 15; refine (c9u (some ad) (Leb.allB X k false) k c 64 _ HLn.out (by omega) hc HH.out).mono ?_; rw [HNum.out, HCnt.out, HMod.out]; rintro e w' ⟨rfl, rfl⟩)
        go_ret
        refine ⟨_, rfl, ?_, HB.out⟩
        have e := Leb.encU_allB X k hk1 HX2.out HK.out
        rw [e, ← HLn.out]
        exact HO.out
      · obtain ⟨y, hy⟩ : ∃ y : Nat, y = X % 128 ^ k := ⟨_, rfl⟩
        have hm : ((y : Int) == (X : Int)) = false := by
          have := Nat.mod_lt X (Nat.pow_pos (n := k) (show 0 < 128 by decide))
          simp; omega
        have HX2 := Lib.hid hX2
        have HY := Lib.hid hy
        clear hX2 hy
        go_wp2_with (go_at_call 15; refine (c9u (some ad) (Leb.allB X k false) k c 64 _ HLn.out (by omega) hc HH.out).mono ?_; rw [HNum.out, HCnt.out, ← HY.out]; rintro e w' ⟨rfl, rfl⟩)
        go_roundw
        case rel => exact ⟨k + 1, by omega, by omega, by go_num, Lib.hid (.inr (by have := HX2.out; rw [Nat.add_sub_cancel]; omega)), HB⟩
        case measure => simp [intOf]; omega
    · have HK10 : Hid (k = 10) := Lib.hid (by omega)
      go_wp2_with fail
      refine (c23 X 10 false _ hX (by omega) (by omega)).mono ?_
      rintro e w1 ⟨v, rfl, hown, hb1⟩
      have hbel1 := hbel.out.trans (hb1.mono hbel.out.size)
      have hown1 : w1.ownsRow w.heap.size 5 1 v 10 (bytesOf (Leb.allB X 10 false)) := ⟨hown.1, hown.2.imp id (fun ⟨g, cap, cur, a, b, r⟩ => ⟨g, cap, cur, a, Nat.le_trans hbel.out.size b, r⟩)⟩
      have HO := Lib.hid hown1
      have HB := Lib.hid hbel1
      clear hown hb1 hbel1 hown1 hbel
      go_wp2_with fail
      go_ret
      refine ⟨_, rfl, ?_, HB.out⟩
      have h128 : (128 : Nat) ^ 10 = 1180591620717411303424 := by decide
      have hK := HK.out
      rw [HK10.out] at hK
      have e := Leb.encU_allB X 10 (by omega) (by omega) hK
      rw [e, Leb.allB_length X 10 false (by omega)]
      exact HO.out
set_option maxHeartbeats 2000000 in
/-- the document's 'Fewest', of a signed number. -/
theorem c13s (X : Nat) (w : World) (hX : X < 18446744073709551616) :
    Calls Tryd.prog 13 #[.int .u64 (X : Int), .bool true] w fun e w' => ∃ v, e = .returned v ∧ w'.ownsRow w.heap.size 5 1 v (Leb.encS (wrap64 (X : Int))).length (bytesOf (Leb.encS (wrap64 (X : Int)))) ∧ Below w.heap.size w w' := by
  go_enter Tryd.func13, Tryd.ntmps13
  go_wp2_with fail
  go_loopw [5] (fun i wr => ∃ k : Nat, 1 ≤ k ∧ k ≤ 10 ∧ i = .int .i64 (k : Int) ∧ Hid (k = 1 ∨ ¬ Leb.inS (wrap64 (X : Int)) (k - 1)) ∧ Hid (Below w.heap.size w wr)) (fun i _ => 10 - (intOf i).toNat)
  case atStart => exact ⟨1, by omega, by omega, rfl, Lib.hid (.inl rfl), Lib.hid (Below.refl _ _)⟩
  case round =>
    obtain ⟨k, hk1, hk10, rfl, HK, hbel⟩ := hrel
    by_cases hlt : k < 10
    · go_wp2_with fail
      refine (c23 X k true _ hX hk1 (by omega)).mono ?_
      rintro e w1 ⟨v, rfl, hown, hb1⟩
      obtain ⟨ad, c, rfl, hc, hlen, hhas⟩ := Has.of_own hown hk1
      obtain ⟨hnum, hcnt⟩ := Leb.numS_allB X k hX hk1 (by omega)
      have hbel1 := hbel.out.trans (hb1.mono hbel.out.size)
      have hown1 : w1.ownsRow w.heap.size 5 1 (.slice (some ad) k c) k (bytesOf (Leb.allB X k true)) := ⟨hown.1, hown.2.imp id (fun ⟨g, cap, cur, a, b, r⟩ => ⟨g, cap, cur, a, Nat.le_trans hbel.out.size b, r⟩)⟩
      have HH := Lib.hid hhas
      have HLn := Lib.hid hlen
      have HNum := Lib.hid hnum
      have HCnt := Lib.hid hcnt
      have HO := Lib.hid hown1
      have HB := Lib.hid hbel1
      clear hown hb1 hhas hlen hnum hcnt hbel1 hown1 hbel
      have hkk : ((k : Int) == (k : Int)) = true := by simp
      by_cases hX2 : Leb.inS (wrap64 (X : Int)) k
      · have hm : ((X : Int) == (X : Int)) = true := by simp
        have HX2 := Lib.hid hX2
        have HMod := Lib.hid (HNum.out.2 hX2)
        clear hX2
        go_wp2_with (go_at_call 15; refine (c9s (some ad) (Leb.allB X k true) k c 64 _ HLn.out (by omega) hc HH.out).mono ?_; rw [HMod.out, HCnt.out]; rintro e w' ⟨rfl, rfl⟩)
        go_ret
        refine ⟨_, rfl, ?_, HB.out⟩
        have e := Leb.encS_allB X k hX hk1 hk10 (.inr HX2.out) HK.out
        rw [e, ← HLn.out]
        exact HO.out
      · obtain ⟨y, hy⟩ : ∃ y : Int, y = Leb.numS (Leb.allB X k true) 64 % 18446744073709551616 := ⟨_, rfl⟩
        have hm : (y == (X : Int)) = false := by
          rw [beq_eq_false_iff_ne, hy]
          exact fun h => hX2 (HNum.out.1 h)
        have HX2 := Lib.hid hX2
        have HY := Lib.hid hy
        clear hX2 hy
        go_wp2_with (go_at_call 15; refine (c9s (some ad) (Leb.allB X k true) k c 64 _ HLn.out (by omega) hc HH.out).mono ?_; rw [← HY.out, HCnt.out]; rintro e w' ⟨rfl, rfl⟩)
        go_roundw
        case rel => exact ⟨k + 1, by omega, by omega, by go_num, Lib.hid (.inr (by rw [Nat.add_sub_cancel]; exact HX2.out)), HB⟩
        case measure => simp [intOf]; omega
    · have HK10 : Hid (k = 10) := Lib.hid (by omega)
      go_wp2_with fail
      refine (c23 X 10 true _ hX (by omega) (by omega)).mono ?_
      rintro e w1 ⟨v, rfl, hown, hb1⟩
      have hbel1 := hbel.out.trans (hb1.mono hbel.out.size)
      have hown1 : w1.ownsRow w.heap.size 5 1 v 10 (bytesOf (Leb.allB X 10 true)) := ⟨hown.1, hown.2.imp id (fun ⟨g, cap, cur, a, b, r⟩ => ⟨g, cap, cur, a, Nat.le_trans hbel.out.size b, r⟩)⟩
      have HO := Lib.hid hown1
      have HB := Lib.hid hbel1
      clear hown hb1 hbel1 hown1 hbel
      go_wp2_with fail
      go_ret
      refine ⟨_, rfl, ?_, HB.out⟩
      have hK := HK.out
      rw [HK10.out] at hK
      have e := Leb.encS_allB X 10 hX (by omega) (by omega) (.inl rfl) hK
      rw [e, Leb.allB_length X 10 true (by omega)]
      exact HO.out
end Go.Proofs.YtpnfpjlniodepaaDoor
