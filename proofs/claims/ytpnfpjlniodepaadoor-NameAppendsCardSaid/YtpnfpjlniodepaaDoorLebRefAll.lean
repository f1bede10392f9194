/-
  The document's all: its contract: a number's lowest bits, in n bytes, in a row of the call's own.
-/
import Derived.Test.YtpnfpjlniodepaaDoorLebGrown
import Derived.Test.YtpnfpjlniodepaaDoorLebFew
import Derived.OwnWalk
namespace Go.Proofs.YtpnfpjlniodepaaDoor
open Go.RowKit
open Leb (lastB allB lastB_lt)
def partB (X n : Nat) (sg : Bool) (k : Nat) : List UInt8 := if k < n then Leb.pre (X : Int) k else allB X n sg
theorem part_step {X n k q : Nat} {sg : Bool} (h : k + 1 < n) (hq : q = X / 128 ^ k) : bytesOf (partB X n sg (k + 1)) = bytesOf (partB X n sg k) ++ [Value.int .u8 ((q : Int) % 128 + 128)] := by
  have e : ((X : Int) / 128 ^ k % 128).toNat = q % 128 := by
    have : (X : Int) / 128 ^ k = ((X / 128 ^ k : Nat) : Int) := by simp
    rw [this, ← hq]; omega
  unfold partB
  rw [if_pos h, if_pos (by omega), Leb.pre_snoc, bytesOf_append, e, bytesOf_nat (q % 128 + 128) (by omega) ((q : Int) % 128 + 128) (by omega)]
theorem part_last {X k n y : Nat} {sg : Bool} {z : Int} (hn : n = k + 1) (h : lastB X (k + 1) sg = y) (hz : z = (y : Int)) : bytesOf (partB X n sg (k + 1)) = bytesOf (partB X n sg k) ++ [Value.int .u8 z] := by
  subst hn
  have := lastB_lt X (k + 1) sg
  unfold partB
  rw [if_neg (by omega), if_pos (by omega), allB, Nat.add_sub_cancel, bytesOf_append, h, bytesOf_nat y (by omega) z hz]
theorem lastB_plain (X k : Nat) (sg : Bool) (q : Nat) (hq : q = X / 128 ^ k) (h : k = 9 → sg = true → q % 128 ≠ 1) : lastB X (k + 1) sg = q % 128 := by
  unfold lastB
  rw [if_neg, Nat.add_sub_cancel, hq]
  rintro ⟨h1, h2, h3⟩
  obtain rfl : k = 9 := by omega
  exact h rfl h2 (by rw [hq]; exact h3)
theorem lastB_127 (X k q : Nat) (hk : k = 9) (hq : q = X / 128 ^ k) (h : q % 128 = 1) : lastB X (k + 1) true = 127 := by
  subst hk
  unfold lastB
  rw [if_pos ⟨rfl, rfl, by rw [← hq]; exact h⟩]
set_option maxHeartbeats 2000000 in
theorem c23 (X n : Nat) (sg : Bool) (w : World) (hX : X < 18446744073709551616) (hn1 : 1 ≤ n) (hn : n ≤ 10) :
    Calls Tryd.prog 19 #[.int .u64 (X : Int), .int .i64 (n : Int), .bool sg] w fun e w' => ∃ v, e = .returned v ∧ w'.ownsRow w.heap.size 5 1 v n (bytesOf (allB X n sg)) ∧ Below w.heap.size w w' := by
  obtain ⟨i0, hi, hz0, hz1, hz2⟩ := info_parts info5
  go_enter Tryd.func19, Tryd.ntmps19
  go_wp2_with fail
  go_loopw [0, 7, 8] (fun x v i wr => ∃ (k q : Nat), k ≤ n ∧ i = .int .i64 (k : Int) ∧ x = .int .u64 (q : Int) ∧ q ≤ 18446744073709551615 ∧ Hid (q = X / 128 ^ k) ∧ Hid (wr.ownsRow w.heap.size 5 1 v k (bytesOf (partB X n sg k))) ∧ Hid (Below w.heap.size w wr)) (fun _ _ i _ => n - (intOf i).toNat)
  case atStart =>
    refine ⟨0, X, by omega, rfl, rfl, by omega, Lib.hid (by simp), Lib.hid ?_, Lib.hid (Below.refl _ _)⟩
    refine ⟨?_, .inl ⟨rfl, rfl⟩⟩
    simp [partB, Leb.pre, bytesOf, show 0 < n by omega]
  case round =>
    obtain ⟨k, q, hk, rfl, rfl, hq, HQ, hown, hbel⟩ := hrel
    have hw8 : IntKind.u8.wrap ((q : Int) % 128) = (q : Int) % 128 := IntWalk.u8_in _ (by omega)
    by_cases hlt : k < n
    · have HD : Hid (q / 128 = X / 128 ^ (k + 1)) := Lib.hid (by rw [HQ.out, Nat.div_div_eq_div_mul, Nat.pow_succ])
      by_cases hla : k + 1 < n
      · have h9 : ((k : Int) == 9) = false := by simp; omega
        go_wp2_with (at_builtin; refine wpList_append_own _ rfl _ _ 22 rfl w.heap.size 5 i0 (.int .u8 0) 1 1 und22 hi hz0 hz1 hz2 rfl (by decide) _ _ _ rfl (hown.out.alloc _) ⟨wr.heap.size, 0, none⟩ 1 1 [.int .u8 ((q : Int) % 128 + 128)] rfl rfl ?a1 ?a2 ?a3 ?a4 ?a5 ?_)
        any_goals (first | with_reducible rfl | exact one_new wr _ 5 | (intro u hu; simp at hu; subst hu; rfl) | (unfold maxLen; omega) | omega | (have := hbel.out.size; simp; omega))
        intro v' w' hown' hgrow hnil
        have hbel' := (hbel.out.alloc hbel.out.size _).grown hgrow (by have := hbel.out.size; simp; omega) (own_ge hown.out)
        have HO' := Lib.hid hown'
        have HB' := Lib.hid hbel'
        clear hown' hgrow hnil hbel' hown hbel
        go_wp2_with fail
        go_roundw
        case rel =>
          refine ⟨k + 1, q / 128, by omega, by go_num, by go_num, by omega, HD, Lib.hid ?_, HB'⟩
          rw [part_step hla HQ.out]
          exact HO'.out
        case measure => simp [intOf]; omega
      · have HK : Hid (n = k + 1) := Lib.hid (by omega)
        by_cases hk9 : k = 9
        · have h9 : ((k : Int) == 9) = true := by simp; omega
          have HK9 := Lib.hid hk9
          clear hk9
          cases sg
          · have HLB := Lib.hid (lastB_plain X k false q HQ.out (by simp))
            go_wp2_with (at_builtin; refine wpList_append_own _ rfl _ _ 22 rfl w.heap.size 5 i0 (.int .u8 0) 1 1 und22 hi hz0 hz1 hz2 rfl (by decide) _ _ _ rfl (hown.out.alloc _) ⟨wr.heap.size, 0, none⟩ 1 1 [.int .u8 ((q : Int) % 128)] rfl rfl ?b1 ?b2 ?b3 ?b4 ?b5 ?_)
            any_goals (first | with_reducible rfl | exact one_new wr _ 5 | (intro u hu; simp at hu; subst hu; rfl) | (unfold maxLen; omega) | omega | (have := hbel.out.size; simp; omega))
            intro v' w' hown' hgrow hnil
            have hbel' := (hbel.out.alloc hbel.out.size _).grown hgrow (by have := hbel.out.size; simp; omega) (own_ge hown.out)
            have HO' := Lib.hid hown'
            have HB' := Lib.hid hbel'
            clear hown' hgrow hnil hbel' hown hbel
            go_wp2_with fail
            go_roundw
            case rel =>
              refine ⟨k + 1, q / 128, by omega, by go_num, by go_num, by omega, HD, Lib.hid ?_, HB'⟩
              rw [part_last (z := (q : Int) % 128) HK.out HLB.out (by omega)]
              exact HO'.out
            case measure => simp [intOf]; omega
          · by_cases hq1 : q % 128 = 1
            · have HLB := Lib.hid (lastB_127 X k q HK9.out HQ.out hq1)
              have hqe : ((q : Int) % 128 == 1) = true := by simp; omega
              clear hq1
              go_wp2_with (at_builtin; refine wpList_append_own _ rfl _ _ 22 rfl w.heap.size 5 i0 (.int .u8 0) 1 1 und22 hi hz0 hz1 hz2 rfl (by decide) _ _ _ rfl (hown.out.alloc _) ⟨wr.heap.size, 0, none⟩ 1 1 [.int .u8 (127)] rfl rfl ?c1 ?c2 ?c3 ?c4 ?c5 ?_)
              any_goals (first | with_reducible rfl | exact one_new wr _ 5 | (intro u hu; simp at hu; subst hu; rfl) | (unfold maxLen; omega) | omega | (have := hbel.out.size; simp; omega))
              intro v' w' hown' hgrow hnil
              have hbel' := (hbel.out.alloc hbel.out.size _).grown hgrow (by have := hbel.out.size; simp; omega) (own_ge hown.out)
              have HO' := Lib.hid hown'
              have HB' := Lib.hid hbel'
              clear hown' hgrow hnil hbel' hown hbel
              go_wp2_with fail
              go_roundw
              case rel =>
                refine ⟨k + 1, q / 128, by omega, by go_num, by go_num, by omega, HD, Lib.hid ?_, HB'⟩
                rw [part_last HK.out HLB.out rfl]
                exact HO'.out
              case measure => simp [intOf]; omega
            · have HLB := Lib.hid (lastB_plain X k true q HQ.out (fun _ _ => hq1))
              have hqe : ((q : Int) % 128 == 1) = false := by simp; omega
              clear hq1
              go_wp2_with (at_builtin; refine wpList_append_own _ rfl _ _ 22 rfl w.heap.size 5 i0 (.int .u8 0) 1 1 und22 hi hz0 hz1 hz2 rfl (by decide) _ _ _ rfl (hown.out.alloc _) ⟨wr.heap.size, 0, none⟩ 1 1 [.int .u8 ((q : Int) % 128)] rfl rfl ?d1 ?d2 ?d3 ?d4 ?d5 ?_)
              any_goals (first | with_reducible rfl | exact one_new wr _ 5 | (intro u hu; simp at hu; subst hu; rfl) | (unfold maxLen; omega) | omega | (have := hbel.out.size; simp; omega))
              intro v' w' hown' hgrow hnil
              have hbel' := (hbel.out.alloc hbel.out.size _).grown hgrow (by have := hbel.out.size; simp; omega) (own_ge hown.out)
              have HO' := Lib.hid hown'
              have HB' := Lib.hid hbel'
              clear hown' hgrow hnil hbel' hown hbel
              go_wp2_with fail
              go_roundw
              case rel =>
                refine ⟨k + 1, q / 128, by omega, by go_num, by go_num, by omega, HD, Lib.hid ?_, HB'⟩
                rw [part_last (z := (q : Int) % 128) HK.out HLB.out (by omega)]
                exact HO'.out
              case measure => simp [intOf]; omega
        · have HLB := Lib.hid (lastB_plain X k sg q HQ.out (fun h => absurd h hk9))
          have h9 : ((k : Int) == 9) = false := by simp; omega
          clear hk9
          go_wp2_with (at_builtin; refine wpList_append_own _ rfl _ _ 22 rfl w.heap.size 5 i0 (.int .u8 0) 1 1 und22 hi hz0 hz1 hz2 rfl (by decide) _ _ _ rfl (hown.out.alloc _) ⟨wr.heap.size, 0, none⟩ 1 1 [.int .u8 ((q : Int) % 128)] rfl rfl ?e1 ?e2 ?e3 ?e4 ?e5 ?_)
          any_goals (first | with_reducible rfl | exact one_new wr _ 5 | (intro u hu; simp at hu; subst hu; rfl) | (unfold maxLen; omega) | omega | (have := hbel.out.size; simp; omega))
          intro v' w' hown' hgrow hnil
          have hbel' := (hbel.out.alloc hbel.out.size _).grown hgrow (by have := hbel.out.size; simp; omega) (own_ge hown.out)
          have HO' := Lib.hid hown'
          have HB' := Lib.hid hbel'
          clear hown' hgrow hnil hbel' hown hbel
          go_wp2_with fail
          go_roundw
          case rel =>
            refine ⟨k + 1, q / 128, by omega, by go_num, by go_num, by omega, HD, Lib.hid ?_, HB'⟩
            rw [part_last (z := (q : Int) % 128) HK.out HLB.out (by omega)]
            exact HO'.out
          case measure => simp [intOf]; omega
    · go_wp2_with fail
      go_ret
      obtain rfl : k = n := by omega
      refine ⟨_, rfl, ?_, hbel.out⟩
      have h := hown.out
      rwa [show partB X k sg k = allB X k sg by simp [partB]] at h
end Go.Proofs.YtpnfpjlniodepaaDoor
