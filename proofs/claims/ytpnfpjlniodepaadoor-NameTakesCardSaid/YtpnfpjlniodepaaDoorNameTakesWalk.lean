/-
  The walk over the statement NameTakes: for every slice of bytes it answers true and leaves all memory that was there as it was.
-/
import Derived.Test.YtpnfpjlniodepaaDoorNmKnown
import Derived.Test.YtpnfpjlniodepaaDoorNmRTake
namespace Go.Proofs.YtpnfpjlniodepaaDoor
open Go.RowKit
set_option maxHeartbeats 1000000 in
theorem takes_walk (A : Option Addr) (l : List UInt8) (n c : Nat) (w : World) (hn : n = l.length) (hc : n ≤ c) (hcm : c ≤ 9223372036854775807) (hA : Has w w.heap.size A l) (hT : Tb w) :
    Calls Tryd.prog 3 #[.slice A n c] w fun e w' => e = .returned (.bool true) ∧ Below w.heap.size w w' := by
  have HA := Lib.hid hA
  have HN := Lib.hid hn
  have HT := Lib.hid hT
  clear hA hn hT
  by_cases hbig : 5000 < n
  · have hbi : (5000 : Int) < (n : Int) := by omega
    go_enter Tryd.func3, Tryd.ntmps3
    go_wp2_with fail
    refine (rows_any _ HT.out).mono ?_
    rintro e w1 ⟨rfl, hb⟩
    have HB := Lib.hid hb
    clear hb
    go_wp2_with fail
    go_ret
    exact ⟨rfl, HB.out⟩
  · have hbi : ¬ (5000 : Int) < (n : Int) := by omega
    go_enter Tryd.func3, Tryd.ntmps3
    go_wp2_with fail
    refine (rows_any _ HT.out).mono ?_
    rintro e w1 ⟨rfl, hb⟩
    have HB1 := Lib.hid hb
    have HA1 := Lib.hid (HA.out.on hb)
    have HT1 := Lib.hid (HT.out.on hb)
    clear hb
    go_wp2_with fail
    refine (ntake_any A l n c _ HN.out (by omega) hc hcm HA1.out HT1.out).mono ?_
    rintro e w2 ⟨rfl, hb⟩
    have HB2 := Lib.hid (HB1.out.trans (hb.mono HB1.out.size))
    have HA2 := Lib.hid (HA1.out.on hb)
    have HT2 := Lib.hid (HT1.out.on hb)
    clear hb
    have CR := Lib.hid (rtake_any A l n c w2 HN.out (by omega) hc hcm HA2.out)
    unfold RTakePost at CR
    generalize (⟨(Nm.str l).toArray⟩ : ByteArray) = s at CR ⊢
    generalize Nm.cnt l = k at CR ⊢
    generalize Nm.ok l = b at CR ⊢
    go_wp2_with fail
    refine CR.out.mono ?_
    rintro e w2' ⟨rfl, rfl⟩
    clear CR
    go_wp2_with fail
    refine (nvalid_any A l n c _ HN.out (by omega) hc HA2.out HT2.out).mono ?_
    rintro e w3 ⟨rfl, hb⟩
    have HB3 := Lib.hid (HB2.out.trans (hb.mono HB2.out.size))
    have HA3 := Lib.hid (HA2.out.on hb)
    clear hb
    have CV := Lib.hid (rvalid_any A l n c w3 HN.out (by omega) hc hcm HA3.out)
    generalize U8.text l = t at CV ⊢
    go_wp2_with fail
    refine CV.out.mono ?_
    rintro e w3' ⟨rfl, rfl⟩
    clear CV
    go_wp2_with fail
    go_ret
    exact ⟨by simp, HB3.out⟩
end Go.Proofs.YtpnfpjlniodepaaDoor
