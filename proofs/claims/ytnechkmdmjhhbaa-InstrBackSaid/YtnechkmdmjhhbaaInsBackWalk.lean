/-
  The walk over InstrBack. (gen/backwalk.py)
-/
import Derived.Test.YtnechkmdmjhhbaaInsBack
import Derived.Test.YtnechkmdmjhhbaaInsKnown2
namespace Go.Proofs.Ytnechkmdmjhhbaa
open Go.RowKit Ins
set_option maxRecDepth 100000 in
set_option maxHeartbeats 4000000 in
theorem back_great (B : Option Addr) (xs : List I) (n cx : Nat) (A : Option Addr) (m c : Nat) (w : World) (hX : HasI w (· < w.heap.size) B xs) (hn : n = xs.length) (hnn : n ≤ 140737488355328) (hl : ∀ x ∈ xs, x.l.length ≤ 140737488355328) (h : 2000 < m ∨ 3000 < many xs) :
    Calls Try.prog 4 #[.slice B n cx, .slice A m c] w fun e w' => e = .returned (.bool true) ∧ Below w.heap.size w w' := by
  have HG := Lib.hid (fun W (hb : Below w.heap.size w W) => great_any _ B xs cx W (hX.mod (Mod.of_below (T := fun _ => False) hb) (fun _ _ _ h => h)) (by omega) hl)
  rw [← hn] at HG
  clear hX hn hnn hl
  by_cases hm : 2000 < m
  · have hmi : (2000 : Int) < (m : Int) := by omega
    clear h HG
    go_enter Try.func4, Try.ntmps4
    go_wp2_with fail
    refine (rows_hold w).mono ?_
    rintro e w1 ⟨rfl, hb⟩
    have HB1 := Lib.hid hb
    clear hb
    go_wp2_with fail
    go_ret
    exact ⟨rfl, HB1.out⟩
  · have hmi : ¬ (2000 : Int) < (m : Int) := by omega
    have hd : decide (3000 < many xs) = true := decide_eq_true (by omega)
    rw [hd] at HG
    clear h hd
    go_enter Try.func4, Try.ntmps4
    go_wp2_with fail
    refine (rows_hold w).mono ?_
    rintro e w1 ⟨rfl, hb⟩
    have HB1 := Lib.hid hb
    clear hb
    go_wp2_with (go_at_call 7; refine (HG.out _ HB1.out).mono ?_; rintro e w2 ⟨rfl, rfl⟩)
    go_ret
    exact ⟨rfl, HB1.out⟩
set_option maxRecDepth 100000 in
set_option maxHeartbeats 4000000 in
theorem back_yes_err (B : Option Addr) (xs : List I) (n cx : Nat) (A : Option Addr) (p : List UInt8) (m c : Nat) (w : World) (hX : HasI w (· < w.heap.size) B xs) (hn : n = xs.length) (hA : Has w w.heap.size A p) (hm : m = p.length) (hmc : m ≤ c) (hcm : c ≤ maxLen) (hAc : A = none → c = 0) (h2 : m ≤ 2000) (h3 : many xs ≤ 3000) (hx : exprB xs = true) (q : Nat) (hq : takeExpr p = .error q) :
    Calls Try.prog 4 #[.slice B n cx, .slice A m c] w fun e w' => e = .returned (.bool true) ∧ Below w.heap.size w w' := by
  have hwf := hX.wf
  have hl3 : ∀ x ∈ xs, x.l.length ≤ 140737488355328 := fun x h => by have := many_len h; omega
  have hl4 : ∀ x ∈ xs, x.wf ∧ x.l.length < 4294967296 := fun x h => ⟨hwf x h, by have := many_len h; omega⟩
  have hxn := len_many xs
  have HX := Lib.hid (fun W (hb : Below w.heap.size w W) => hX.mod (Mod.of_below (T := fun _ => False) hb) (fun _ _ _ h => h))
  have HG := Lib.hid (fun W (hb : Below w.heap.size w W) => great_any _ B xs cx W (HX.out W hb) (by omega) hl3)
  rw [← hn] at HG
  have hd : decide (3000 < many xs) = false := decide_eq_false (by omega)
  rw [hd] at HG
  have HA := Lib.hid hA
  have hmi : ¬ (2000 : Int) < (m : Int) := by omega
  have HE := Lib.hid (fun W (hb : Below w.heap.size w W) => appE_yes B xs n cx W ((HX.out W hb).more (fun k _ h => Nat.lt_of_lt_of_le h hb.size)) hn (by omega) hx)
  have htk := takeExpr_enc xs p hx hl4
  have hel : (exprEnc xs).length ≤ 200000 := by
    have h1 := exprEnc_le xs hl4
    have h2 := tot_many xs
    omega
  generalize exprEnc xs = E at HE htk hel
  obtain ⟨k, hk⟩ : ∃ k, E.length = k := ⟨_, rfl⟩
  rw [hk] at HE htk hel
  have HTK := Lib.hid htk
  have HKL := Lib.hid hk
  have ekk : ((k : Int) == (k : Int)) = true := by simp
  clear htk hk
  have hke : q = 60 ∨ q = 61 := rdExpr_err _ _ _ _ hq
  have HQ := Lib.hid hq
  have HN := Lib.hid hn
  have HM := Lib.hid hm
  have HL3 := Lib.hid hl3
  have HMC := Lib.hid hmc
  have HCM := Lib.hid hcm
  have HAC := Lib.hid hAc
  have hn3 : n ≤ 3000 := by omega
  clear hX hn hA hm hmc hcm hAc hd hxn hl3 hl4 hwf hx h3
  go_enter Try.func4, Try.ntmps4
  go_wp2_with fail
  refine (rows_hold w).mono ?_
  rintro e w1 ⟨rfl, hb⟩
  have HB1 := Lib.hid hb
  clear hb
  go_wp2_with (go_at_call 7; refine (HG.out _ HB1.out).mono ?_; rintro e w2 ⟨rfl, rfl⟩)
  refine (HE.out _ HB1.out).mono ?_
  rintro e w2 ⟨A2, c2, rfl, hc2, hm2, hn2, hh2, hb⟩
  have HB2 := Lib.hid (HB1.out.trans (hb.mono HB1.out.size))
  have HA2 := Lib.hid (HA.out.on HB2.out)
  clear hb HB1
  obtain ⟨v3, w3, C3, c3, w4, hr3, hr4, hc3, hm3, hn3', hh4, hb⟩ := joined2 w2 A2 A E p k m c2 c hh2 HA2.out HKL.out.symm HM.out (by omega)
  have HR3 := Lib.hid hr3
  have HR4 := Lib.hid hr4
  have HB4 := Lib.hid (HB2.out.trans (hb.mono HB2.out.size))
  have HT4 := Lib.hid (takeE_ok C3 (E ++ p) (k + m) c3 w4 hh4 (by rw [List.length_append, HKL.out, ← HM.out]) (by omega) hc3 hm3 hn3' xs k n HN.out HTK.out)
  clear hb hr3 hr4 hh4 HB2 hh2 hc2 hm2 hn2 hc3 hm3 hn3'
  go_wp2_with (first | (at_builtin; refine wpList_appends rfl (.tmp 34) (.tmp 35) 22 rfl _ _ _ w3 rfl rfl HR3.out ?_) | (at_builtin; refine wpList_appends rfl (.tmp 36) (.tmp 37) 22 rfl _ _ _ w4 rfl rfl HR4.out ?_))
  refine HT4.out.mono ?_
  rintro e w5 ⟨A5, c5, rfl, hi5, hb⟩
  have HB5 := Lib.hid (HB4.out.trans (hb.mono HB4.out.size))
  have HS5 := Lib.hid (fun W (hb : Below w5.heap.size w5 W) => sameAll_any _ _ xs B A5 cx c5 W (HX.out _ (HB5.out.trans (hb.mono HB5.out.size))) (hi5.mod (Mod.of_below (T := fun _ => False) hb) (fun _ _ _ h => h)) (by rw [← HN.out]; omega) HL3.out)
  rw [← HN.out] at HS5
  clear hb hi5 HB4 HR3 HR4 HT4
  go_wp2_with (go_at_call 14; refine (HS5.out _ (Below.refl _ _)).mono ?_; rintro e w6 ⟨rfl, hb⟩; have HBA := Lib.hid (HB5.out.trans (hb.mono HB5.out.size)); clear hb)
  have HAA := Lib.hid (HA.out.on HBA.out)
  clear HS5 HB5
  refine (takeE_no A p m c _ HAA.out HM.out (by omega) HMC.out HCM.out HAC.out q HQ.out).mono ?_
  rintro e w7 ⟨rfl, hb⟩
  have HB7 := Lib.hid (HBA.out.trans (hb.mono HBA.out.size))
  clear hb HBA HAA HQ
  rcases hke with rfl | rfl
  · go_wp2_with fail
    go_ret
    exact ⟨rfl, HB7.out⟩
  · go_wp2_with fail
    go_ret
    exact ⟨rfl, HB7.out⟩
set_option maxRecDepth 100000 in
set_option maxHeartbeats 4000000 in
theorem back_yes_ok (B : Option Addr) (xs : List I) (n cx : Nat) (A : Option Addr) (p : List UInt8) (m c : Nat) (w : World) (hX : HasI w (· < w.heap.size) B xs) (hn : n = xs.length) (hA : Has w w.heap.size A p) (hm : m = p.length) (hmc : m ≤ c) (hcm : c ≤ maxLen) (hAc : A = none → c = 0) (h2 : m ≤ 2000) (h3 : many xs ≤ 3000) (hx : exprB xs = true) (ys : List I) (t : Nat) (hq : takeExpr p = .ok (ys, t)) :
    Calls Try.prog 4 #[.slice B n cx, .slice A m c] w fun e w' => e = .returned (.bool true) ∧ Below w.heap.size w w' := by
  have hwf := hX.wf
  have hl3 : ∀ x ∈ xs, x.l.length ≤ 140737488355328 := fun x h => by have := many_len h; omega
  have hl4 : ∀ x ∈ xs, x.wf ∧ x.l.length < 4294967296 := fun x h => ⟨hwf x h, by have := many_len h; omega⟩
  have hxn := len_many xs
  have HX := Lib.hid (fun W (hb : Below w.heap.size w W) => hX.mod (Mod.of_below (T := fun _ => False) hb) (fun _ _ _ h => h))
  have HG := Lib.hid (fun W (hb : Below w.heap.size w W) => great_any _ B xs cx W (HX.out W hb) (by omega) hl3)
  rw [← hn] at HG
  have hd : decide (3000 < many xs) = false := decide_eq_false (by omega)
  rw [hd] at HG
  have HA := Lib.hid hA
  have hmi : ¬ (2000 : Int) < (m : Int) := by omega
  have HE := Lib.hid (fun W (hb : Below w.heap.size w W) => appE_yes B xs n cx W ((HX.out W hb).more (fun k _ h => Nat.lt_of_lt_of_le h hb.size)) hn (by omega) hx)
  have htk := takeExpr_enc xs p hx hl4
  have hel : (exprEnc xs).length ≤ 200000 := by
    have h1 := exprEnc_le xs hl4
    have h2 := tot_many xs
    omega
  generalize exprEnc xs = E at HE htk hel
  obtain ⟨k, hk⟩ : ∃ k, E.length = k := ⟨_, rfl⟩
  rw [hk] at HE htk hel
  have HTK := Lib.hid htk
  have HKL := Lib.hid hk
  have ekk : ((k : Int) == (k : Int)) = true := by simp
  clear htk hk
  obtain ⟨hy, hyw, hyl, hyt, hym⟩ := takeExpr_back p ys t hq
  have hyn := len_many ys
  have hly : ∀ x ∈ ys, x.l.length ≤ 140737488355328 := fun x h => by have := (hyw x h).2; omega
  have hfm : many ys ≤ 100000 := by omega
  have hback := takeExpr_enc ys [] hy hyw
  rw [List.append_nil] at hback
  have HE2 := Lib.hid (fun (B : Option Addr) (n cx : Nat) W hX hn => appE_yes B ys n cx W hX hn hfm hy)
  have HQ := Lib.hid hq
  generalize exprEnc ys = F at HE2 hback hyl
  obtain ⟨f, hf⟩ : ∃ f, F.length = f := ⟨_, rfl⟩
  rw [hf] at HE2 hback hyl
  have HBK := Lib.hid hback
  have HFL := Lib.hid hf
  obtain ⟨r, hr⟩ : ∃ r, ys.length = r := ⟨_, rfl⟩
  have HR := Lib.hid hr
  have HLY := Lib.hid hly
  have hft : (f : Int) ≤ (t : Int) := by omega
  have hrn : r ≤ 2000 := by omega
  have hf2 : f ≤ 2000 := by omega
  have eff : ((f : Int) == (f : Int)) = true := by simp
  clear hback hf hr hy hyw hyl hyt hym hyn hly hfm hq
  have HN := Lib.hid hn
  have HM := Lib.hid hm
  have HL3 := Lib.hid hl3
  have HMC := Lib.hid hmc
  have HCM := Lib.hid hcm
  have HAC := Lib.hid hAc
  have hn3 : n ≤ 3000 := by omega
  clear hX hn hA hm hmc hcm hAc hd hxn hl3 hl4 hwf hx h3
  go_enter Try.func4, Try.ntmps4
  go_wp2_with fail
  refine (rows_hold w).mono ?_
  rintro e w1 ⟨rfl, hb⟩
  have HB1 := Lib.hid hb
  clear hb
  go_wp2_with (go_at_call 7; refine (HG.out _ HB1.out).mono ?_; rintro e w2 ⟨rfl, rfl⟩)
  refine (HE.out _ HB1.out).mono ?_
  rintro e w2 ⟨A2, c2, rfl, hc2, hm2, hn2, hh2, hb⟩
  have HB2 := Lib.hid (HB1.out.trans (hb.mono HB1.out.size))
  have HA2 := Lib.hid (HA.out.on HB2.out)
  clear hb HB1
  obtain ⟨v3, w3, C3, c3, w4, hr3, hr4, hc3, hm3, hn3', hh4, hb⟩ := joined2 w2 A2 A E p k m c2 c hh2 HA2.out HKL.out.symm HM.out (by omega)
  have HR3 := Lib.hid hr3
  have HR4 := Lib.hid hr4
  have HB4 := Lib.hid (HB2.out.trans (hb.mono HB2.out.size))
  have HT4 := Lib.hid (takeE_ok C3 (E ++ p) (k + m) c3 w4 hh4 (by rw [List.length_append, HKL.out, ← HM.out]) (by omega) hc3 hm3 hn3' xs k n HN.out HTK.out)
  clear hb hr3 hr4 hh4 HB2 hh2 hc2 hm2 hn2 hc3 hm3 hn3'
  go_wp2_with (first | (at_builtin; refine wpList_appends rfl (.tmp 34) (.tmp 35) 22 rfl _ _ _ w3 rfl rfl HR3.out ?_) | (at_builtin; refine wpList_appends rfl (.tmp 36) (.tmp 37) 22 rfl _ _ _ w4 rfl rfl HR4.out ?_))
  refine HT4.out.mono ?_
  rintro e w5 ⟨A5, c5, rfl, hi5, hb⟩
  have HB5 := Lib.hid (HB4.out.trans (hb.mono HB4.out.size))
  have HS5 := Lib.hid (fun W (hb : Below w5.heap.size w5 W) => sameAll_any _ _ xs B A5 cx c5 W (HX.out _ (HB5.out.trans (hb.mono HB5.out.size))) (hi5.mod (Mod.of_below (T := fun _ => False) hb) (fun _ _ _ h => h)) (by rw [← HN.out]; omega) HL3.out)
  rw [← HN.out] at HS5
  clear hb hi5 HB4 HR3 HR4 HT4
  go_wp2_with (go_at_call 14; refine (HS5.out _ (Below.refl _ _)).mono ?_; rintro e w6 ⟨rfl, hb⟩; have HBA := Lib.hid (HB5.out.trans (hb.mono HB5.out.size)); clear hb)
  have HAA := Lib.hid (HA.out.on HBA.out)
  clear HS5 HB5
  refine (takeE_ok A p m c _ HAA.out HM.out (by omega) HMC.out HCM.out HAC.out ys t r HR.out.symm HQ.out).mono ?_
  rintro e w7 ⟨A7, c7, rfl, hi7, hb⟩
  have HB7 := Lib.hid (HBA.out.trans (hb.mono HBA.out.size))
  have HI7 := Lib.hid (fun W (hb : Below w7.heap.size w7 W) => hi7.mod (Mod.of_below (T := fun _ => False) hb) (fun _ _ _ h => h))
  have HL7 := Lib.hid (hi7.in_heap)
  clear hb HBA HAA HQ hi7
  go_wp2_with fail
  refine (HE2.out A7 r c7 _ HL7.out HR.out.symm).mono ?_
  rintro e w8 ⟨A8, c8, rfl, hc8, hm8, hn8, hh8, hb⟩
  have HB8 := Lib.hid (HB7.out.trans (hb.mono HB7.out.size))
  have HI8 := Lib.hid (HI7.out _ hb)
  have HT8 := Lib.hid (takeE_ok A8 F f c8 w8 hh8 HFL.out.symm (by omega) hc8 hm8 hn8 ys f r HR.out.symm HBK.out)
  clear hb hh8 hc8 hm8 hn8 HB7 HI7
  go_wp2_with fail
  refine HT8.out.mono ?_
  rintro e w9 ⟨A9, c9, rfl, hi9, hb⟩
  have HB9 := Lib.hid (HB8.out.trans (hb.mono HB8.out.size))
  have HS9 := Lib.hid (sameAll_any _ _ ys A9 A7 c9 c7 w9 hi9 (HI8.out.mod (Mod.of_below (T := fun _ => False) hb) (fun _ _ _ h => h)) (by rw [HR.out]; omega) HLY.out)
  rw [HR.out] at HS9
  clear hb hi9 HT8 HB8
  go_wp2_with (go_at_call 14; refine HS9.out.mono ?_; rintro e w10 ⟨rfl, hb⟩; have HBZ := Lib.hid (HB9.out.trans (hb.mono HB9.out.size)); clear hb)
  go_ret
  exact ⟨rfl, HBZ.out⟩
set_option maxRecDepth 100000 in
set_option maxHeartbeats 4000000 in
theorem back_no_err (B : Option Addr) (xs : List I) (n cx : Nat) (A : Option Addr) (p : List UInt8) (m c : Nat) (w : World) (hX : HasI w (· < w.heap.size) B xs) (hn : n = xs.length) (hA : Has w w.heap.size A p) (hm : m = p.length) (hmc : m ≤ c) (hcm : c ≤ maxLen) (hAc : A = none → c = 0) (h2 : m ≤ 2000) (h3 : many xs ≤ 3000) (hx : exprB xs = false) (q : Nat) (hq : takeExpr p = .error q) :
    Calls Try.prog 4 #[.slice B n cx, .slice A m c] w fun e w' => e = .returned (.bool true) ∧ Below w.heap.size w w' := by
  have hwf := hX.wf
  have hl3 : ∀ x ∈ xs, x.l.length ≤ 140737488355328 := fun x h => by have := many_len h; omega
  have hl4 : ∀ x ∈ xs, x.wf ∧ x.l.length < 4294967296 := fun x h => ⟨hwf x h, by have := many_len h; omega⟩
  have hxn := len_many xs
  have HX := Lib.hid (fun W (hb : Below w.heap.size w W) => hX.mod (Mod.of_below (T := fun _ => False) hb) (fun _ _ _ h => h))
  have HG := Lib.hid (fun W (hb : Below w.heap.size w W) => great_any _ B xs cx W (HX.out W hb) (by omega) hl3)
  rw [← hn] at HG
  have hd : decide (3000 < many xs) = false := decide_eq_false (by omega)
  rw [hd] at HG
  have HA := Lib.hid hA
  have hmi : ¬ (2000 : Int) < (m : Int) := by omega
  have HE := Lib.hid (fun W (hb : Below w.heap.size w W) => appE_no B xs n cx W ((HX.out W hb).more (fun k _ h => Nat.lt_of_lt_of_le h hb.size)) hn (by omega) hx)
  have hke : q = 60 ∨ q = 61 := rdExpr_err _ _ _ _ hq
  have HQ := Lib.hid hq
  have HN := Lib.hid hn
  have HM := Lib.hid hm
  have HL3 := Lib.hid hl3
  have HMC := Lib.hid hmc
  have HCM := Lib.hid hcm
  have HAC := Lib.hid hAc
  have hn3 : n ≤ 3000 := by omega
  clear hX hn hA hm hmc hcm hAc hd hxn hl3 hl4 hwf hx h3
  go_enter Try.func4, Try.ntmps4
  go_wp2_with fail
  refine (rows_hold w).mono ?_
  rintro e w1 ⟨rfl, hb⟩
  have HB1 := Lib.hid hb
  clear hb
  go_wp2_with (go_at_call 7; refine (HG.out _ HB1.out).mono ?_; rintro e w2 ⟨rfl, rfl⟩)
  refine (HE.out _ HB1.out).mono ?_
  rintro e w6 ⟨rfl, hb⟩
  have HBA := Lib.hid (HB1.out.trans (hb.mono HB1.out.size))
  have HAA := Lib.hid (HA.out.on HBA.out)
  clear hb HB1
  go_wp2_with fail
  refine (takeE_no A p m c _ HAA.out HM.out (by omega) HMC.out HCM.out HAC.out q HQ.out).mono ?_
  rintro e w7 ⟨rfl, hb⟩
  have HB7 := Lib.hid (HBA.out.trans (hb.mono HBA.out.size))
  clear hb HBA HAA HQ
  rcases hke with rfl | rfl
  · go_wp2_with fail
    go_ret
    exact ⟨rfl, HB7.out⟩
  · go_wp2_with fail
    go_ret
    exact ⟨rfl, HB7.out⟩
set_option maxRecDepth 100000 in
set_option maxHeartbeats 4000000 in
theorem back_no_ok (B : Option Addr) (xs : List I) (n cx : Nat) (A : Option Addr) (p : List UInt8) (m c : Nat) (w : World) (hX : HasI w (· < w.heap.size) B xs) (hn : n = xs.length) (hA : Has w w.heap.size A p) (hm : m = p.length) (hmc : m ≤ c) (hcm : c ≤ maxLen) (hAc : A = none → c = 0) (h2 : m ≤ 2000) (h3 : many xs ≤ 3000) (hx : exprB xs = false) (ys : List I) (t : Nat) (hq : takeExpr p = .ok (ys, t)) :
    Calls Try.prog 4 #[.slice B n cx, .slice A m c] w fun e w' => e = .returned (.bool true) ∧ Below w.heap.size w w' := by
  have hwf := hX.wf
  have hl3 : ∀ x ∈ xs, x.l.length ≤ 140737488355328 := fun x h => by have := many_len h; omega
  have hl4 : ∀ x ∈ xs, x.wf ∧ x.l.length < 4294967296 := fun x h => ⟨hwf x h, by have := many_len h; omega⟩
  have hxn := len_many xs
  have HX := Lib.hid (fun W (hb : Below w.heap.size w W) => hX.mod (Mod.of_below (T := fun _ => False) hb) (fun _ _ _ h => h))
  have HG := Lib.hid (fun W (hb : Below w.heap.size w W) => great_any _ B xs cx W (HX.out W hb) (by omega) hl3)
  rw [← hn] at HG
  have hd : decide (3000 < many xs) = false := decide_eq_false (by omega)
  rw [hd] at HG
  have HA := Lib.hid hA
  have hmi : ¬ (2000 : Int) < (m : Int) := by omega
  have HE := Lib.hid (fun W (hb : Below w.heap.size w W) => appE_no B xs n cx W ((HX.out W hb).more (fun k _ h => Nat.lt_of_lt_of_le h hb.size)) hn (by omega) hx)
  obtain ⟨hy, hyw, hyl, hyt, hym⟩ := takeExpr_back p ys t hq
  have hyn := len_many ys
  have hly : ∀ x ∈ ys, x.l.length ≤ 140737488355328 := fun x h => by have := (hyw x h).2; omega
  have hfm : many ys ≤ 100000 := by omega
  have hback := takeExpr_enc ys [] hy hyw
  rw [List.append_nil] at hback
  have HE2 := Lib.hid (fun (B : Option Addr) (n cx : Nat) W hX hn => appE_yes B ys n cx W hX hn hfm hy)
  have HQ := Lib.hid hq
  generalize exprEnc ys = F at HE2 hback hyl
  obtain ⟨f, hf⟩ : ∃ f, F.length = f := ⟨_, rfl⟩
  rw [hf] at HE2 hback hyl
  have HBK := Lib.hid hback
  have HFL := Lib.hid hf
  obtain ⟨r, hr⟩ : ∃ r, ys.length = r := ⟨_, rfl⟩
  have HR := Lib.hid hr
  have HLY := Lib.hid hly
  have hft : (f : Int) ≤ (t : Int) := by omega
  have hrn : r ≤ 2000 := by omega
  have hf2 : f ≤ 2000 := by omega
  have eff : ((f : Int) == (f : Int)) = true := by simp
  clear hback hf hr hy hyw hyl hyt hym hyn hly hfm hq
  have HN := Lib.hid hn
  have HM := Lib.hid hm
  have HL3 := Lib.hid hl3
  have HMC := Lib.hid hmc
  have HCM := Lib.hid hcm
  have HAC := Lib.hid hAc
  have hn3 : n ≤ 3000 := by omega
  clear hX hn hA hm hmc hcm hAc hd hxn hl3 hl4 hwf hx h3
  go_enter Try.func4, Try.ntmps4
  go_wp2_with fail
  refine (rows_hold w).mono ?_
  rintro e w1 ⟨rfl, hb⟩
  have HB1 := Lib.hid hb
  clear hb
  go_wp2_with (go_at_call 7; refine (HG.out _ HB1.out).mono ?_; rintro e w2 ⟨rfl, rfl⟩)
  refine (HE.out _ HB1.out).mono ?_
  rintro e w6 ⟨rfl, hb⟩
  have HBA := Lib.hid (HB1.out.trans (hb.mono HB1.out.size))
  have HAA := Lib.hid (HA.out.on HBA.out)
  clear hb HB1
  go_wp2_with fail
  refine (takeE_ok A p m c _ HAA.out HM.out (by omega) HMC.out HCM.out HAC.out ys t r HR.out.symm HQ.out).mono ?_
  rintro e w7 ⟨A7, c7, rfl, hi7, hb⟩
  have HB7 := Lib.hid (HBA.out.trans (hb.mono HBA.out.size))
  have HI7 := Lib.hid (fun W (hb : Below w7.heap.size w7 W) => hi7.mod (Mod.of_below (T := fun _ => False) hb) (fun _ _ _ h => h))
  have HL7 := Lib.hid (hi7.in_heap)
  clear hb HBA HAA HQ hi7
  go_wp2_with fail
  refine (HE2.out A7 r c7 _ HL7.out HR.out.symm).mono ?_
  rintro e w8 ⟨A8, c8, rfl, hc8, hm8, hn8, hh8, hb⟩
  have HB8 := Lib.hid (HB7.out.trans (hb.mono HB7.out.size))
  have HI8 := Lib.hid (HI7.out _ hb)
  have HT8 := Lib.hid (takeE_ok A8 F f c8 w8 hh8 HFL.out.symm (by omega) hc8 hm8 hn8 ys f r HR.out.symm HBK.out)
  clear hb hh8 hc8 hm8 hn8 HB7 HI7
  go_wp2_with fail
  refine HT8.out.mono ?_
  rintro e w9 ⟨A9, c9, rfl, hi9, hb⟩
  have HB9 := Lib.hid (HB8.out.trans (hb.mono HB8.out.size))
  have HS9 := Lib.hid (sameAll_any _ _ ys A9 A7 c9 c7 w9 hi9 (HI8.out.mod (Mod.of_below (T := fun _ => False) hb) (fun _ _ _ h => h)) (by rw [HR.out]; omega) HLY.out)
  rw [HR.out] at HS9
  clear hb hi9 HT8 HB8
  go_wp2_with (go_at_call 14; refine HS9.out.mono ?_; rintro e w10 ⟨rfl, hb⟩; have HBZ := Lib.hid (HB9.out.trans (hb.mono HB9.out.size)); clear hb)
  go_ret
  exact ⟨rfl, HBZ.out⟩
theorem back_any (B : Option Addr) (xs : List I) (n cx : Nat) (A : Option Addr) (p : List UInt8) (m c : Nat) (w : World) (hX : HasI w (· < w.heap.size) B xs) (hn : n = xs.length) (hnn : n ≤ 140737488355328) (hl : ∀ x ∈ xs, x.l.length ≤ 140737488355328) (hA : Has w w.heap.size A p) (hm : m = p.length) (hmc : m ≤ c) (hcm : c ≤ maxLen) (hAc : A = none → c = 0) :
    Calls Try.prog 4 #[.slice B n cx, .slice A m c] w fun e w' => e = .returned (.bool true) ∧ Below w.heap.size w w' := by
  by_cases h : 2000 < m ∨ 3000 < many xs
  · exact back_great B xs n cx A m c w hX hn hnn hl h
  · have h2 : m ≤ 2000 := by omega
    have h3 : many xs ≤ 3000 := by omega
    cases hx : exprB xs with
    | true =>
      cases hq : takeExpr p with
      | error q => exact back_yes_err B xs n cx A p m c w hX hn hA hm hmc hcm hAc h2 h3 hx q hq
      | ok q => exact back_yes_ok B xs n cx A p m c w hX hn hA hm hmc hcm hAc h2 h3 hx q.1 q.2 hq
    | false =>
      cases hq : takeExpr p with
      | error q => exact back_no_err B xs n cx A p m c w hX hn hA hm hmc hcm hAc h2 h3 hx q hq
      | ok q => exact back_no_ok B xs n cx A p m c w hX hn hA hm hmc hcm hAc h2 h3 hx q.1 q.2 hq
end Go.Proofs.Ytnechkmdmjhhbaa
