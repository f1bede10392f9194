/-
  The walk over SectSplits, given what Split and Join do.
-/
import Derived.Test.YtanhgpdeoffmfaaDoorSecKnown
import Derived.Test.YtanhgpdeoffmfaaDoorSecRSplit
import Derived.Test.YtanhgpdeoffmfaaDoorSecRJoin
namespace Go.Proofs.YtanhgpdeoffmfaaDoor
open Go.RowKit Sec
set_option maxRecDepth 100000 in
set_option maxHeartbeats 4000000 in
theorem splits_any (hs : SplitOk) (hj : JoinOk) (A : Option Addr) (l : List UInt8) (n c : Nat) (w : World) (hA : Has w w.heap.size A l) (hn : n = l.length) (hnc : n ≤ c) (hcm : c ≤ maxLen) (hAc : A = none → c = 0) (hT : Tb w) :
    Calls Tryd.prog 3 #[.slice A n c] w fun e w' => e = .returned (.bool true) ∧ Below w.heap.size w w' := by
  by_cases hbig : 5000 < n
  · have hbi : (5000 : Int) < (n : Int) := by omega
    go_enter Tryd.func3, Tryd.ntmps3
    go_wp2_with fail
    refine (rows5 hs hj w hT).mono ?_
    rintro e w1 ⟨rfl, hb⟩
    have HB := Lib.hid hb
    clear hb hs hj hA hT hn hnc hcm hAc hbig
    go_wp2_with fail
    go_ret
    exact ⟨rfl, HB.out⟩
  have hbi : ¬ (5000 : Int) < (n : Int) := by omega
  have HR := Lib.hid (rows5 hs hj w hT)
  have HS := Lib.hid (fun W (hb : Below w.heap.size w W) => hs A l n c W (hA.on hb) hn (by omega) hnc hcm hAc (hT.on hb))
  have HRS := Lib.hid (fun W (hb : Below w.heap.size w W) => rsplit_any A l n c W (hA.on hb) hn (by omega) hnc hcm)
  have hlen : ∀ xs, split l = some xs → xs.length ≤ 1000000 := fun xs h => by
    obtain ⟨_, _, h3, _⟩ := split_back h
    have h4 := len_encAll xs
    have : (join xs).length = 8 + (encAll xs).length := by simp [join, begin8]; omega
    omega
  unfold SPost at HS
  unfold RSPost at HRS
  clear hs hj hA hT hn hnc hcm hAc hbig
  cases hsp : split l with
  | none =>
    rw [hsp] at HS HRS
    simp only at HS HRS
    clear hlen hsp
    go_enter Tryd.func3, Tryd.ntmps3
    go_wp2_with fail
    refine HR.out.mono ?_
    rintro e w1 ⟨rfl, hb⟩
    have HB1 := Lib.hid hb
    clear hb
    go_wp2_with (first | (go_at_call 9; refine (HS.out _ HB1.out).mono ?_; rintro e w2 ⟨hb2, A2, c2, rfl⟩; have HB2 := Lib.hid (HB1.out.trans (hb2.mono HB1.out.size)); clear hb2) | (go_at_call 10; refine (HRS.out _ HB2.out).mono ?_; rintro e w3 ⟨hb3, rfl⟩; have HB3 := Lib.hid (HB2.out.trans (hb3.mono HB2.out.size)); clear hb3) | (go_at_call 11; refine (same5_any A2 [] 0 c2 none [] 0 0 _ (HasS.nil _ _ _) rfl (HasS.nil _ _ _) rfl (by omega)).mono ?_; rintro e w4 ⟨he, hb4⟩; obtain rfl : e = .returned (.bool true) := (by rw [he]; simp); have HB4 := Lib.hid (HB3.out.trans (hb4.mono HB3.out.size)); clear hb4) | (go_at_call 12; refine (e_any _ _ _).mono ?_; rintro e w5 ⟨he, rfl⟩; obtain rfl : e = .returned (.int .i64 60) := he))
    go_ret
    exact ⟨rfl, HB4.out⟩
  | some xs =>
    rw [hsp] at HS HRS
    simp only at HS HRS
    have hx := hlen xs hsp
    clear hlen hsp
    go_enter Tryd.func3, Tryd.ntmps3
    go_wp2_with fail
    refine HR.out.mono ?_
    rintro e w1 ⟨rfl, hb⟩
    have HB1 := Lib.hid hb
    clear hb
    go_wp2_with (first | (go_at_call 9; refine (HS.out _ HB1.out).mono ?_; rintro e w2 ⟨hb2, A2, c2, rfl, _, _, hx2⟩; have HB2 := Lib.hid (HB1.out.trans (hb2.mono HB1.out.size)); have HX2 := Lib.hid hx2; clear hb2 hx2) | (go_at_call 10; refine (HRS.out _ HB2.out).mono ?_; rintro e w3 ⟨hb3, v3, rfl, ho3⟩; obtain ⟨A3, c3, rfl, _, _, hx3⟩ := ho3.tell; have HB3 := Lib.hid (HB2.out.trans (hb3.mono HB2.out.size)); have HX3 := Lib.hid hx3; have HX23 := Lib.hid (HX2.out.on hb3); clear hb3 ho3 hx3) | (go_at_call 11; refine (same5_any A2 xs xs.length c2 A3 xs xs.length c3 _ HX23.out rfl HX3.out rfl (by omega)).mono ?_; rintro e w4 ⟨he, hb4⟩; obtain rfl : e = .returned (.bool true) := (by rw [he]; simp); have HB4 := Lib.hid (HB3.out.trans (hb4.mono HB3.out.size)); clear hb4) | (go_at_call 12; refine (e_any _ _ _).mono ?_; rintro e w5 ⟨he, rfl⟩; obtain rfl : e = .returned (.int .i64 0) := he))
    go_ret
    exact ⟨rfl, HB4.out⟩
end Go.Proofs.YtanhgpdeoffmfaaDoor
