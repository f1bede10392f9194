/-
  The walk over the statement LebShort: for every slice of bytes and every int it answers true and leaves all memory that was there as it was.
-/
import Derived.Test.YtbpnlnonhjnnbaaLebKnown
import Derived.Test.YtbpnlnonhjnnbaaLebAgain
namespace Go.Proofs.Ytbpnlnonhjnnbaa
open Go.RowKit
set_option maxHeartbeats 4000000 in
theorem walk6 (A : Option Addr) (l : List UInt8) (n c : Nat) (b : Int) (w : World) (hn : n = l.length) (hmax : n ≤ 9223372036854775807) (hnc : n ≤ c) (hA : Has w w.heap.size A l) :
    Calls Try.prog 6 #[.slice A n c, .int .i64 b] w fun e w' => e = .returned (.bool true) ∧ Below w.heap.size w w' := by
  have HA := Lib.hid hA
  have HN := Lib.hid hn
  clear hA hn
  by_cases hbig : 1000 < n
  · go_enter Try.func6, Try.ntmps6
    go_wp2_with (go_at_call 7; refine (c7 _).mono ?_; rintro e w1 ⟨rfl, hb1⟩)
    go_ret
    exact ⟨rfl, hb1⟩
  · go_enter Try.func6, Try.ntmps6
    go_wp2_with fail
    refine (c7 _).mono ?_
    rintro e w1 ⟨rfl, hb1⟩
    have HA1 := Lib.hid (HA.out.on hb1)
    have HB1 := Lib.hid hb1
    clear hb1
    go_wp2_with fail
    refine (c8 A l n c b _ HN.out hmax HA1.out).mono ?_
    rintro e w2 ⟨rfl, hb2⟩
    have HA2 := Lib.hid (HA1.out.on hb2)
    have HB2 := Lib.hid (HB1.out.trans (hb2.mono HB1.out.size))
    clear hb2
    cases hok : Leb.okU l b
    · have HOk := Lib.hid hok
      clear hok
      go_wp2_with fail
      refine (c10 A l n c b _ HN.out hmax HA2.out).mono ?_
      rintro e wa ⟨rfl, hba⟩
      have HAa := Lib.hid (HA2.out.on hba)
      have HBa := Lib.hid (HB2.out.trans (hba.mono HB2.out.size))
      clear hba
      cases hokS : Leb.okS l b
      · clear hokS
        go_wp2_with fail
        go_ret
        exact ⟨rfl, HBa.out⟩
      · obtain ⟨hs1, hsb1, hsb64⟩ := Leb.okS_run1 hokS
        have hrl : Leb.run l ≤ n := by rw [HN.out]; exact Leb.run_le l
        have hnum : Leb.numS l b = Leb.sused l := by rw [Leb.numS, if_pos hokS]
        have hcnt : Leb.cntS l b = (Leb.run l : Int) := by rw [Leb.cntS, if_pos hokS]
        obtain ⟨hu0, hu1⟩ := Leb.sused_lt hokS
        have HE := Lib.hid (Leb.shortS hs1)
        have hfit := Leb.fitsS hokS
        have HTok := Lib.hid ((Leb.okS_take (l := l) (b := b) hs1).trans hokS)
        have HTn : Hid (Leb.numS (l.take (Leb.run l)) b = Leb.sused l) := Lib.hid (by rw [Leb.numS, if_pos HTok.out, Leb.sused_take l hs1])
        have HTc : Hid (Leb.cntS (l.take (Leb.run l)) b = (Leb.run l : Int)) := Lib.hid (by rw [Leb.cntS, if_pos HTok.out, Leb.run_take l hs1])
        have HLn := Lib.hid (Leb.length_used l)
        rw [hnum, hcnt]
        clear hnum hcnt hokS
        generalize Leb.sused l = S at *
        generalize Leb.run l = Q at *
        go_wp2_with fail
        refine (c12 none [] 0 0 S _ rfl (by omega) (Has.nil _ _ _) ⟨hu0, hu1⟩).mono ?_
        rintro e wb ⟨v, rfl, hown, hbb⟩
        obtain ⟨A2, k2, rfl, hk2, _, _⟩ := Has.own hown
        have HAb := Lib.hid (HAa.out.on hbb)
        have HBb := Lib.hid (HBa.out.trans (hbb.mono HBa.out.size))
        have hE := HE.out
        have hE1 := Leb.encS_pos S
        clear hown hbb HE
        simp only [Nat.zero_add] at hk2 ⊢
        generalize (Leb.encS S).length = E at *
        go_wp2_with fail
        refine (c10 A (l.take Q) Q Q b _ HLn.out.symm (by omega) (HAb.out.take Q)).mono ?_
        rw [HTn.out, HTc.out, HTok.out]
        rintro e wc ⟨rfl, hbc⟩
        have HBc := Lib.hid (HBb.out.trans (hbc.mono HBb.out.size))
        clear hbc
        have hd1 : decide ((Q : Int) < 1) = false := by simp; omega
        have hd2 : decide (n < Q) = false := by simp; omega
        have hd3 : decide (Q < E) = false := by simp; omega
        rw [show (b - 1).toNat = b.toNat - 1 by omega] at hfit
        generalize hG : b.toNat - 1 = G at *
        rcases hfit with hfit | hfit
        · have hn0 : (S / 2 ^ G != 0) = false := by simp [hfit]
          have HFa := Lib.hid hfit
          subst hG
          clear hfit
          go_wp2_with fail
          go_ret
          exact ⟨rfl, HBc.out⟩
        · have hn0 : (S / 2 ^ G != 0) = true := by simp [hfit]
          have hn1 : (S / 2 ^ G != -1) = false := by simp [hfit]
          have HFa := Lib.hid hfit
          subst hG
          clear hfit
          go_wp2_with fail
          go_ret
          exact ⟨rfl, HBc.out⟩
    · obtain ⟨hr1, hb1, hb64⟩ := Leb.okU_run1 hok
      have hrl : Leb.run l ≤ n := by rw [HN.out]; exact Leb.run_le l
      have hnum : Leb.numU l b = (Leb.used l : Int) := by rw [Leb.numU, if_pos hok]
      have hcnt : Leb.cntU l b = (Leb.run l : Int) := by rw [Leb.cntU, if_pos hok]
      have hu := Leb.used_lt hok
      have HS := Lib.hid (Leb.shortU hr1)
      have HF := Lib.hid (Leb.fitsU hok)
      have HTok := Lib.hid ((Leb.okU_take (l := l) (b := b) hr1).trans hok)
      have HTn : Hid (Leb.numU (l.take (Leb.run l)) b = (Leb.used l : Int)) := Lib.hid (by rw [Leb.numU, if_pos HTok.out, Leb.used_take l hr1])
      have HTc : Hid (Leb.cntU (l.take (Leb.run l)) b = (Leb.run l : Int)) := Lib.hid (by rw [Leb.cntU, if_pos HTok.out, Leb.run_take l hr1])
      have HLn := Lib.hid (Leb.length_used l)
      rw [hnum, hcnt]
      clear hnum hcnt hok
      generalize Leb.used l = U at *
      generalize hR : Leb.run l = R at *
      have HR := Lib.hid hR
      clear hR
      go_wp2_with fail
      refine (c11 none [] 0 0 U _ rfl (by omega) (Has.nil _ _ _) (by omega)).mono ?_
      rintro e w3 ⟨v, rfl, hown, hb3⟩
      obtain ⟨A1, k1, rfl, hk1, _, _⟩ := Has.own hown
      have HA3 := Lib.hid (HA2.out.on hb3)
      have HB3 := Lib.hid (HB2.out.trans (hb3.mono HB2.out.size))
      have hE := HS.out
      have hE1 := Leb.encU_pos U
      clear hown hb3 HS
      simp only [Nat.zero_add] at hk1 ⊢
      generalize (Leb.encU U).length = E at *
      go_wp2_with fail
      refine (c8 A (l.take R) R R b _ HLn.out.symm (by omega) (HA3.out.take R)).mono ?_
      rw [HTn.out, HTc.out, HTok.out]
      rintro e w4 ⟨rfl, hb4⟩
      have HA4 := Lib.hid (HA3.out.on hb4)
      have HB4 := Lib.hid (HB3.out.trans (hb4.mono HB3.out.size))
      clear hb4
      have hd1 : decide ((R : Int) < 1) = false := by simp; omega
      have hd2 : decide (n < R) = false := by simp; omega
      have hd3 : decide (R < E) = false := by simp; omega
      have hfz : ((U : Int) / 2 ^ b.toNat != 0) = false := by simp [HF.out]
      by_cases h64 : b < 64
      · have hd4 : decide (b < 64) = true := by simpa using h64
        go_wp2_with fail
        clear hd1 hd2 hd3 hd4 hfz HF HTok HTc HLn HTn hE hE1 hk1 hu hr1 hrl HR
        refine (c10 A l n c b _ HN.out hmax HA4.out).mono ?_
        rintro e wa ⟨rfl, hba⟩
        have HAa := Lib.hid (HA4.out.on hba)
        have HBa := Lib.hid (HB4.out.trans (hba.mono HB4.out.size))
        clear hba
        cases hokS : Leb.okS l b
        · clear hokS
          go_wp2_with fail
          go_ret
          exact ⟨rfl, HBa.out⟩
        · obtain ⟨hs1, hsb1, hsb64⟩ := Leb.okS_run1 hokS
          have hrl : Leb.run l ≤ n := by rw [HN.out]; exact Leb.run_le l
          have hnum : Leb.numS l b = Leb.sused l := by rw [Leb.numS, if_pos hokS]
          have hcnt : Leb.cntS l b = (Leb.run l : Int) := by rw [Leb.cntS, if_pos hokS]
          obtain ⟨hu0, hu1⟩ := Leb.sused_lt hokS
          have HE := Lib.hid (Leb.shortS hs1)
          have hfit := Leb.fitsS hokS
          have HTok := Lib.hid ((Leb.okS_take (l := l) (b := b) hs1).trans hokS)
          have HTn : Hid (Leb.numS (l.take (Leb.run l)) b = Leb.sused l) := Lib.hid (by rw [Leb.numS, if_pos HTok.out, Leb.sused_take l hs1])
          have HTc : Hid (Leb.cntS (l.take (Leb.run l)) b = (Leb.run l : Int)) := Lib.hid (by rw [Leb.cntS, if_pos HTok.out, Leb.run_take l hs1])
          have HLn := Lib.hid (Leb.length_used l)
          rw [hnum, hcnt]
          clear hnum hcnt hokS
          generalize Leb.sused l = S at *
          generalize Leb.run l = Q at *
          go_wp2_with fail
          refine (c12 none [] 0 0 S _ rfl (by omega) (Has.nil _ _ _) ⟨hu0, hu1⟩).mono ?_
          rintro e wb ⟨v, rfl, hown, hbb⟩
          obtain ⟨A2, k2, rfl, hk2, _, _⟩ := Has.own hown
          have HAb := Lib.hid (HAa.out.on hbb)
          have HBb := Lib.hid (HBa.out.trans (hbb.mono HBa.out.size))
          have hE := HE.out
          have hE1 := Leb.encS_pos S
          clear hown hbb HE
          simp only [Nat.zero_add] at hk2 ⊢
          generalize (Leb.encS S).length = E at *
          go_wp2_with fail
          refine (c10 A (l.take Q) Q Q b _ HLn.out.symm (by omega) (HAb.out.take Q)).mono ?_
          rw [HTn.out, HTc.out, HTok.out]
          rintro e wc ⟨rfl, hbc⟩
          have HBc := Lib.hid (HBb.out.trans (hbc.mono HBb.out.size))
          clear hbc
          have hd1 : decide ((Q : Int) < 1) = false := by simp; omega
          have hd2 : decide (n < Q) = false := by simp; omega
          have hd3 : decide (Q < E) = false := by simp; omega
          rw [show (b - 1).toNat = b.toNat - 1 by omega] at hfit
          generalize hG : b.toNat - 1 = G at *
          rcases hfit with hfit | hfit
          · have hn0 : (S / 2 ^ G != 0) = false := by simp [hfit]
            have HFa := Lib.hid hfit
            subst hG
            clear hfit
            go_wp2_with fail
            go_ret
            exact ⟨rfl, HBc.out⟩
          · have hn0 : (S / 2 ^ G != 0) = true := by simp [hfit]
            have hn1 : (S / 2 ^ G != -1) = false := by simp [hfit]
            have HFa := Lib.hid hfit
            subst hG
            clear hfit
            go_wp2_with fail
            go_ret
            exact ⟨rfl, HBc.out⟩
      · have hd4 : decide (b < 64) = false := by simpa using h64
        go_wp2_with fail
        clear hd1 hd2 hd3 hd4 hfz HF HTok HTc HLn HTn hE hE1 hk1 hu hr1 hrl HR
        refine (c10 A l n c b _ HN.out hmax HA4.out).mono ?_
        rintro e wa ⟨rfl, hba⟩
        have HAa := Lib.hid (HA4.out.on hba)
        have HBa := Lib.hid (HB4.out.trans (hba.mono HB4.out.size))
        clear hba
        cases hokS : Leb.okS l b
        · clear hokS
          go_wp2_with fail
          go_ret
          exact ⟨rfl, HBa.out⟩
        · obtain ⟨hs1, hsb1, hsb64⟩ := Leb.okS_run1 hokS
          have hrl : Leb.run l ≤ n := by rw [HN.out]; exact Leb.run_le l
          have hnum : Leb.numS l b = Leb.sused l := by rw [Leb.numS, if_pos hokS]
          have hcnt : Leb.cntS l b = (Leb.run l : Int) := by rw [Leb.cntS, if_pos hokS]
          obtain ⟨hu0, hu1⟩ := Leb.sused_lt hokS
          have HE := Lib.hid (Leb.shortS hs1)
          have hfit := Leb.fitsS hokS
          have HTok := Lib.hid ((Leb.okS_take (l := l) (b := b) hs1).trans hokS)
          have HTn : Hid (Leb.numS (l.take (Leb.run l)) b = Leb.sused l) := Lib.hid (by rw [Leb.numS, if_pos HTok.out, Leb.sused_take l hs1])
          have HTc : Hid (Leb.cntS (l.take (Leb.run l)) b = (Leb.run l : Int)) := Lib.hid (by rw [Leb.cntS, if_pos HTok.out, Leb.run_take l hs1])
          have HLn := Lib.hid (Leb.length_used l)
          rw [hnum, hcnt]
          clear hnum hcnt hokS
          generalize Leb.sused l = S at *
          generalize Leb.run l = Q at *
          go_wp2_with fail
          refine (c12 none [] 0 0 S _ rfl (by omega) (Has.nil _ _ _) ⟨hu0, hu1⟩).mono ?_
          rintro e wb ⟨v, rfl, hown, hbb⟩
          obtain ⟨A2, k2, rfl, hk2, _, _⟩ := Has.own hown
          have HAb := Lib.hid (HAa.out.on hbb)
          have HBb := Lib.hid (HBa.out.trans (hbb.mono HBa.out.size))
          have hE := HE.out
          have hE1 := Leb.encS_pos S
          clear hown hbb HE
          simp only [Nat.zero_add] at hk2 ⊢
          generalize (Leb.encS S).length = E at *
          go_wp2_with fail
          refine (c10 A (l.take Q) Q Q b _ HLn.out.symm (by omega) (HAb.out.take Q)).mono ?_
          rw [HTn.out, HTc.out, HTok.out]
          rintro e wc ⟨rfl, hbc⟩
          have HBc := Lib.hid (HBb.out.trans (hbc.mono HBb.out.size))
          clear hbc
          have hd1 : decide ((Q : Int) < 1) = false := by simp; omega
          have hd2 : decide (n < Q) = false := by simp; omega
          have hd3 : decide (Q < E) = false := by simp; omega
          rw [show (b - 1).toNat = b.toNat - 1 by omega] at hfit
          generalize hG : b.toNat - 1 = G at *
          rcases hfit with hfit | hfit
          · have hn0 : (S / 2 ^ G != 0) = false := by simp [hfit]
            have HFa := Lib.hid hfit
            subst hG
            clear hfit
            go_wp2_with fail
            go_ret
            exact ⟨rfl, HBc.out⟩
          · have hn0 : (S / 2 ^ G != 0) = true := by simp [hfit]
            have hn1 : (S / 2 ^ G != -1) = false := by simp [hfit]
            have HFa := Lib.hid hfit
            subst hG
            clear hfit
            go_wp2_with fail
            go_ret
            exact ⟨rfl, HBc.out⟩
end Go.Proofs.Ytbpnlnonhjnnbaa
