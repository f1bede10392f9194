/-
  leb.AppendS's contract: the bytes that came in and behind them the fewest bytes of the number, in a row of the call's own; all memory that was there is as it was.
-/
import Derived.Test.YtnechkmdmjhhbaaLebAppend
namespace Go.Proofs.Ytnechkmdmjhhbaa
open Go.RowKit
theorem and127s (m : Int) : bits .and .i64 m 127 = m % 128 := by
  show IntKind.i64.wrap ((BitVec.ofInt 64 m &&& BitVec.ofInt 64 127).toNat : Int) = _
  have h2 : (BitVec.ofInt 64 127).toNat = 127 := by decide
  rw [BitVec.toNat_and, Leb.ofInt_any, h2, nat_mask7, IntKind.wrap_i64]
  omega
set_option maxRecDepth 100000 in
set_option maxHeartbeats 1000000 in
theorem c12 (A : Option Addr) (l : List UInt8) (n c : Nat) (N : Int) (w : World) (hn : n = l.length) (hsz : n + 10 ≤ 140737488355328) (hA : Has w w.heap.size A l) (hN : -9223372036854775808 ≤ N ∧ N ≤ 9223372036854775807) :
    Calls Try.prog 35 #[.slice A n c, .int .i64 N] w fun e w' => ∃ v, e = .returned v ∧ w'.ownsRow w.heap.size 5 1 v (n + (Leb.encS N).length) (bytesOf (l ++ Leb.encS N)) ∧ Below w.heap.size w w' := by
  obtain ⟨i0, hi, hz0, hz1, hz2⟩ := info_parts info5
  have HA := Lib.hid hA
  have HN := Lib.hid hn
  have HNN := Lib.hid hN
  clear hA hn hN
  go_enter Try.func35, Try.ntmps35
  go_wp2_with (go_at_call 53; refine (c22 A l n c _ HN.out hsz HA.out).mono ?_; rintro e w1 ⟨v, rfl, hown, hbel⟩)
  have HO := Lib.hid hown
  have HB := Lib.hid hbel
  clear hown hbel
  go_wp2_with fail
  go_loopw [1, 5] (fun nv v wr => ∃ (m : Int) (done : List UInt8), nv = .int .i64 m ∧ -9223372036854775808 ≤ m ∧ m ≤ 9223372036854775807 ∧ Hid (Leb.encS N = done ++ Leb.encS m) ∧ done.length ≤ 9 ∧ Hid (wr.ownsRow w.heap.size 5 1 v (n + done.length) (bytesOf (l ++ done))) ∧ Hid (Below w.heap.size w wr)) (fun nv _ _ => (intOf nv).natAbs)
  case atStart => exact ⟨N, [], rfl, HNN.out.1, HNN.out.2, Lib.hid rfl, by simp, Lib.hid (by simpa using HO.out), HB⟩
  case round =>
    obtain ⟨m, done, rfl, hm0, hm, hE, hd, hown, hbel⟩ := hrel
    have ha := and127s m
    have hw8 : IntKind.u8.wrap (m % 128) = m % 128 := IntWalk.u8_in _ (by omega)
    by_cases hbig : -64 ≤ m ∧ m ≤ 63
    · obtain ⟨hb1, hb2⟩ := hbig
      have HE2 := Lib.hid (Leb.encS_small (n := m) ⟨hb1, hb2⟩)
      go_wp2_with (at_builtin; refine wpList_append_own _ rfl _ _ 22 rfl w.heap.size 5 i0 (.int .u8 0) 1 1 und22 hi hz0 hz1 hz2 rfl (by decide) _ _ _ rfl (hown.out.alloc _) ⟨wr.heap.size, 0, none⟩ 1 1 [.int .u8 (m % 128)] rfl rfl ?c1 ?c2 ?c3 ?c4 ?c5 ?_)
      case c1 => exact one_new wr _ 5
      case c2 => intro u hu; simp at hu; subst hu; rfl
      case c3 => unfold maxLen; omega
      case c4 => omega
      case c5 => have := hbel.out.size; simp; omega
      intro v' w' hown' hgrow hnil
      have hbel' := (hbel.out.alloc hbel.out.size _).grown hgrow (by have := hbel.out.size; simp; omega) (own_ge hown.out)
      have HO' := Lib.hid hown'
      have HB' := Lib.hid hbel'
      clear hown' hgrow hnil hbel' hown hbel
      go_wp2_with fail
      go_ret
      refine ⟨_, rfl, ?_, HB'.out⟩
      have h := HO'.out
      have e3 : bytesOf (l ++ Leb.encS N) = bytesOf (l ++ done) ++ [Value.int .u8 (m % 128)] := by
        rw [hE.out, HE2.out, ← List.append_assoc, bytesOf_append, bytesOf_nat (m % 128).toNat (by omega) (m % 128) (by omega)]
      rw [e3, hE.out, HE2.out, List.length_append, ← Nat.add_assoc]
      exact h
    · have hob : bits .or .u8 (m % 128) 128 = m % 128 + 128 := by
        have h := or128 (m % 128).toNat (by omega)
        rwa [show (((m % 128).toNat : Nat) : Int) = m % 128 by omega] at h
      have HE2 := Lib.hid (Leb.encS_big (n := m) hbig)
      by_cases hlow : m < -64
      · clear hbig
        have hd1 : -9223372036854775808 ≤ m / 128 := by omega
        go_wp2_with (at_builtin; refine wpList_append_own _ rfl _ _ 22 rfl w.heap.size 5 i0 (.int .u8 0) 1 1 und22 hi hz0 hz1 hz2 rfl (by decide) _ _ _ rfl (hown.out.alloc _) ⟨wr.heap.size, 0, none⟩ 1 1 [.int .u8 (m % 128 + 128)] rfl rfl ?d1 ?d2 ?d3 ?d4 ?d5 ?_)
        case d1 => exact one_new wr _ 5
        case d2 => intro u hu; simp at hu; subst hu; rfl
        case d3 => unfold maxLen; omega
        case d4 => omega
        case d5 => have := hbel.out.size; simp; omega
        intro v' w' hown' hgrow hnil
        have hbel' := (hbel.out.alloc hbel.out.size _).grown hgrow (by have := hbel.out.size; simp; omega) (own_ge hown.out)
        have HO' := Lib.hid hown'
        have HB' := Lib.hid hbel'
        clear hown' hgrow hnil hbel' hown hbel
        go_wp2_with fail
        go_roundw
        case rel =>
          have e1 := Leb.encS_le10 N HNN.out.1 HNN.out.2
          have e2 := Leb.encS_pos (m / 128)
          refine ⟨m / 128, done ++ [UInt8.ofNat ((m % 128).toNat + 128)], by go_num, by omega, by omega, Lib.hid ?_, ?_, Lib.hid ?_, HB'⟩
          · rw [hE.out, HE2.out]; simp
          · rw [hE.out, HE2.out] at e1; simp at e1 ⊢; omega
          · have h := HO'.out
            have e3 : bytesOf (l ++ (done ++ [UInt8.ofNat ((m % 128).toNat + 128)])) = bytesOf (l ++ done) ++ [Value.int .u8 (m % 128 + 128)] := by
              rw [← List.append_assoc, bytesOf_append, bytesOf_nat ((m % 128).toNat + 128) (by omega) (m % 128 + 128) (by omega)]
            rw [e3, List.length_append]
            exact h
        case measure => simp [intOf]; omega
      · have hhi : 63 < m := by omega
        clear hbig
        have hd1 : -9223372036854775808 ≤ m / 128 := by omega
        go_wp2_with (at_builtin; refine wpList_append_own _ rfl _ _ 22 rfl w.heap.size 5 i0 (.int .u8 0) 1 1 und22 hi hz0 hz1 hz2 rfl (by decide) _ _ _ rfl (hown.out.alloc _) ⟨wr.heap.size, 0, none⟩ 1 1 [.int .u8 (m % 128 + 128)] rfl rfl ?kk1 ?kk2 ?kk3 ?kk4 ?kk5 ?_)
        case kk2 => rfl
        case kk3 => unfold maxLen; omega
        case kk4 => omega
        case kk5 => have := hbel.out.size; omega
        intro v' w' hown' hgrow hnil
        have hbel' := (hbel.out.alloc hbel.out.size _).grown hgrow (by have := hbel.out.size; simp; omega) (own_ge hown.out)
        have HO' := Lib.hid hown'
        have HB' := Lib.hid hbel'
        clear hown' hgrow hnil hbel' hown hbel
        go_wp2_with fail
        go_roundw
        case rel =>
          have e1 := Leb.encS_le10 N HNN.out.1 HNN.out.2
          have e2 := Leb.encS_pos (m / 128)
          refine ⟨m / 128, done ++ [UInt8.ofNat ((m % 128).toNat + 128)], by go_num, by omega, by omega, Lib.hid ?_, ?_, Lib.hid ?_, HB'⟩
          · rw [hE.out, HE2.out]; simp
          · rw [hE.out, HE2.out] at e1; simp at e1 ⊢; omega
          · have h := HO'.out
            have e3 : bytesOf (l ++ (done ++ [UInt8.ofNat ((m % 128).toNat + 128)])) = bytesOf (l ++ done) ++ [Value.int .u8 (m % 128 + 128)] := by
              rw [← List.append_assoc, bytesOf_append, bytesOf_nat ((m % 128).toNat + 128) (by omega) (m % 128 + 128) (by omega)]
            rw [e3, List.length_append]
            exact h
        case measure => simp [intOf]; omega
end Go.Proofs.Ytnechkmdmjhhbaa
