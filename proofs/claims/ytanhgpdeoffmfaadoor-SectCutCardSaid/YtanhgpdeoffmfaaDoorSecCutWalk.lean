/-
  The walk over SectCut, given what Split and Join do. (gen/seccut.py)
-/
import Derived.Test.YtanhgpdeoffmfaaDoorSecKnown
import Derived.Test.YtanhgpdeoffmfaaDoorSecCutMath
namespace Go.Proofs.YtanhgpdeoffmfaaDoor
open Go.RowKit Sec
set_option maxRecDepth 100000 in
set_option maxHeartbeats 4000000 in
theorem cut5_any (hs : SplitOk) (hj : JoinOk) (A : Option Addr) (l : List UInt8) (n c : Nat) (z : Int) (w : World) (hA : Has w w.heap.size A l) (hn : n = l.length) (hnn : n ≤ 140737488355328) (hnc : n ≤ c) (hcm : c ≤ maxLen) (hAc : A = none → c = 0) (hT : Tb w) :
    Calls Tryd.prog 7 #[.slice A n c, .int .i64 z] w fun e w' => e = .returned (.bool true) ∧ Below w.heap.size w w' := by
  have HR := Lib.hid (rows5 hs hj w hT)
  have HS := Lib.hid (fun W (hb : Below w.heap.size w W) => hs A l n c W (hA.on hb) hn hnn hnc hcm hAc (hT.on hb))
  unfold SPost at HS
  cases hsp : split l with
  | none =>
    rw [hsp] at HS
    simp only at HS
    clear hs hj hA hT hsp hn hAc
    by_cases hbig : 3000 < n
    · have hbi : (3000 : Int) < (n : Int) := by omega
      go_enter Tryd.func7, Tryd.ntmps7
      go_wp2_with fail
      refine HR.out.mono ?_
      rintro e w1 ⟨rfl, hb⟩
      have HB1 := Lib.hid hb
      clear hb HR
      go_wp2_with (go_at_call 9; refine (HS.out _ HB1.out).mono ?_; rintro e w2 ⟨hb2, A2, c2, rfl⟩; have HB2 := Lib.hid (HB1.out.trans (hb2.mono HB1.out.size)); clear hb2)
      go_ret
      exact ⟨rfl, HB2.out⟩
    · have hbi : decide ((3000 : Int) < (n : Int)) = false := decide_eq_false (by omega)
      go_enter Tryd.func7, Tryd.ntmps7
      go_wp2_with fail
      refine HR.out.mono ?_
      rintro e w1 ⟨rfl, hb⟩
      have HB1 := Lib.hid hb
      clear hb HR
      go_wp2_with (go_at_call 9; refine (HS.out _ HB1.out).mono ?_; rintro e w2 ⟨hb2, A2, c2, rfl⟩; have HB2 := Lib.hid (HB1.out.trans (hb2.mono HB1.out.size)); clear hb2)
      go_ret
      exact ⟨rfl, HB2.out⟩
  | some xs =>
    rw [hsp] at HS
    simp only at HS
    by_cases hbig : 3000 < n
    · have hbi : (3000 : Int) < (n : Int) := by omega
      clear hs hj hA hT hsp hn hAc
      go_enter Tryd.func7, Tryd.ntmps7
      go_wp2_with fail
      refine HR.out.mono ?_
      rintro e w1 ⟨rfl, hb⟩
      have HB1 := Lib.hid hb
      clear hb HR
      go_wp2_with (go_at_call 9; refine (HS.out _ HB1.out).mono ?_; rintro e w2 ⟨hb2, A2, c2, rfl, h21, h22, hx2⟩; have HB2 := Lib.hid (HB1.out.trans (hb2.mono HB1.out.size)); have HX2 := Lib.hid hx2; clear hb2 hx2)
      go_ret
      exact ⟨rfl, HB2.out⟩
    have hbi : decide ((3000 : Int) < (n : Int)) = false := decide_eq_false (by omega)
    by_cases hz0 : z < 0
    · clear hs hj hA hT hsp hn hAc
      go_enter Tryd.func7, Tryd.ntmps7
      go_wp2_with fail
      refine HR.out.mono ?_
      rintro e w1 ⟨rfl, hb⟩
      have HB1 := Lib.hid hb
      clear hb HR
      go_wp2_with (go_at_call 9; refine (HS.out _ HB1.out).mono ?_; rintro e w2 ⟨hb2, A2, c2, rfl, h21, h22, hx2⟩; have HB2 := Lib.hid (HB1.out.trans (hb2.mono HB1.out.size)); have HX2 := Lib.hid hx2; clear hb2 hx2)
      go_ret
      exact ⟨rfl, HB2.out⟩
    obtain ⟨cut, rfl⟩ := Int.eq_ofNat_of_zero_le (show (0 : Int) ≤ z by omega)
    have hz0i : decide ((cut : Int) < 0) = false := decide_eq_false hz0
    by_cases hzn : n < cut
    · have hzi : (n : Int) < (cut : Int) := by omega
      clear hs hj hA hT hsp hn hAc
      go_enter Tryd.func7, Tryd.ntmps7
      go_wp2_with fail
      refine HR.out.mono ?_
      rintro e w1 ⟨rfl, hb⟩
      have HB1 := Lib.hid hb
      clear hb HR
      go_wp2_with (go_at_call 9; refine (HS.out _ HB1.out).mono ?_; rintro e w2 ⟨hb2, A2, c2, rfl, h21, h22, hx2⟩; have HB2 := Lib.hid (HB1.out.trans (hb2.mono HB1.out.size)); have HX2 := Lib.hid hx2; clear hb2 hx2)
      go_ret
      exact ⟨rfl, HB2.out⟩
    have hzi : decide ((n : Int) < (cut : Int)) = false := decide_eq_false (by omega)
    have hzin : decide (n < cut) = false := decide_eq_false hzn
    have h8 : 8 ≤ n := by
      by_cases h8 : 8 ≤ n
      · exact h8
      · rw [split_short (by omega)] at hsp; cases hsp
    obtain ⟨ad, rfl⟩ := hA.someAddr (by omega)
    obtain ⟨_, _, _, hbeg⟩ := split_back hsp
    have HSP := Lib.hid hsp
    have HA := Lib.hid (fun W (hb : Below w.heap.size w W) => hA.on hb)
    have HN := Lib.hid hn
    have HST0 := Lib.hid (st_zero hbeg)
    have HCT0 := Lib.hid (ct_zero hbeg cut)
    have hcutn : cut ≤ n := by omega
    have HSC := Lib.hid (fun W (hb : Below w.heap.size w W) => hs (some ad) (l.take cut) cut c W ((hA.on hb).take cut) (by rw [List.length_take]; omega) (by omega) (by omega) hcm (by intro h; cases h) (hT.on hb))
    have hcutc : (cut : Int) ≤ (c : Int) := by omega
    have hc0 : ¬ c = 0 := by omega
    unfold SPost at HSC
    unfold maxLen at hcm
    clear hs hj hA hT hsp hn hbeg hz0 hzn hbig hAc
    go_enter Tryd.func7, Tryd.ntmps7
    go_wp2_with fail
    refine HR.out.mono ?_
    rintro e w1 ⟨rfl, hb⟩
    have HB1 := Lib.hid hb
    clear hb HR
    go_wp2_with (go_at_call 9; refine (HS.out _ HB1.out).mono ?_; rintro e w2 ⟨hb2, A2, c2, rfl, h21, h22, hx2⟩; have HB2 := Lib.hid (HB1.out.trans (hb2.mono HB1.out.size)); have HX2 := Lib.hid hx2; clear hb2 hx2)
    clear HS
    go_loopw [7, 8, 9] (fun at_ wh co wr => ∃ (p k : Nat) (b : Bool) (ys : List S), p ≤ n ∧ at_ = .int .i64 (p : Int) ∧ wh = .bool b ∧ co = .int .i64 (ys.length : Int) ∧ ys.length ≤ p ∧ Hid (b = decide (p = cut)) ∧ Hid (st l ys k p) ∧ Hid (ct l ys k p cut) ∧ Hid (Below w2.heap.size w2 wr)) (fun at_ _ _ _ => n - (intOf at_).toNat)
    case atStart => exact ⟨8, 0, _, [], h8, rfl, rfl, rfl, by simp, Lib.hid (by rw [Bool.eq_iff_iff]; simp; omega), HST0, HCT0, Lib.hid (Below.refl _ _)⟩
    case round =>
      obtain ⟨p, k, b, ys, hp, rfl, rfl, rfl, hyl, HBB, HST, HCT, HB⟩ := hrel
      have HBW := Lib.hid (HB2.out.trans (HB.out.mono HB2.out.size))
      by_cases hgo : p < n ∧ p < cut
      · obtain ⟨hpn, hpc⟩ := hgo
        obtain ⟨x, hx⟩ : ∃ x, l[p]? = some x := ⟨_, List.getElem?_eq_getElem (by have := HN.out; omega)⟩
        have hcell : ∀ W, Below w.heap.size w W → W.cell? (ad.add p) = some (.int .u8 (x.toNat : Int)) := fun W hb => by
          obtain ⟨ad2, e1, _, e3⟩ := HA.out W hb p x hx
          injection e1 with e1
          subst e1
          exact e3
        have HCELL := Lib.hid hcell
        have hx256 := x.toNat_lt
        obtain ⟨h1, h2, h3, h4⟩ := cut_step HSP.out HST.out HCT.out hx hpc
        obtain ⟨r, hr⟩ : ∃ r, l.drop (p + 1) = r := ⟨_, rfl⟩
        rw [hr] at h1 h2 h3 h4
        have hrl : r.length = n - (p + 1) := by rw [← hr, List.length_drop, HN.out]
        obtain ⟨hu32, hr1, hr2, _⟩ := okU_32 h1
        have HC := Lib.hid (fun W (hb : Below w.heap.size w W) => c8 (some (ad.add (p + 1))) r (n - (p + 1)) (c - (p + 1)) 32 W hrl.symm (by omega) (by rw [← hr]; exact (HA.out W hb).from (p + 1)))
        have e1 : Leb.numU r 32 = (Leb.used r : Int) := by unfold Leb.numU; rw [h1]; rfl
        have e2 : Leb.cntU r 32 = (Leb.run r : Int) := by unfold Leb.cntU; rw [h1]; rfl
        rw [e1, e2, h1] at HC
        obtain ⟨R, hR⟩ : ∃ R, Leb.run r = R := ⟨_, rfl⟩
        obtain ⟨U, hU⟩ : ∃ U, Leb.used r = U := ⟨_, rfl⟩
        rw [hR, hU] at HC h2 h3 h4
        rw [hU] at hu32
        rw [hR] at hr1 hr2
        have hpni : (p : Int) < (n : Int) := by omega
        have hpci : (p : Int) < (cut : Int) := by omega
        have hp1 : (p : Int) + 1 ≤ (n : Int) := by omega
        have hck : ¬ (c = p + 1) := by omega
        have hck2 : ¬ (c - (p + 1) = 0) := by omega
        have hUw : IntKind.i64.wrap (U : Int) = (U : Int) := IntWalk.i64_in _ (by omega)
        have hn2 := HN.out
        have hq2 : (p : Int) + (1 + (R : Int) + (U : Int)) ≤ (n : Int) := by omega
        have hq1 : (p : Int) + 1 + (R : Int) + (U : Int) ≤ (n : Int) := by omega
        have H3 := Lib.hid h3
        have H4 := Lib.hid h4
        clear e1 e2 hR hU hr hrl hx h1 h3 h4 hr2 hn2 hcell h2
        have k0 := HCELL.out _ HBW.out
        by_cases h0 : x.toNat = 0
        · have h0i : decide ((0 : Int) < (x.toNat : Int)) = false := decide_eq_false (by omega)
          have h0n : ¬ 0 < x.toNat := by omega
          have h0z : x.toNat = 0 := h0
          obtain ⟨s1, s2⟩ := H3.out h0
          have HS1 := Lib.hid s1
          have HS2 := Lib.hid s2
          clear s1 s2 H3 H4 h0
          generalize x.toNat = id at *
          clear h0z
          go_wp2_with (go_at_call 19; refine (HC.out _ HBW.out).mono ?_; rintro e w5 ⟨rfl, hb5⟩; have HB5 := Lib.hid (HB.out.trans (hb5.mono HB.out.size)); have HBX := Lib.hid (HBW.out.trans (hb5.mono HBW.out.size)); have k5 := HCELL.out _ HBX.out; clear hb5)
          go_roundw
          case rel => exact ⟨p + 1 + R + U, k, _, ys, by omega, by go_num, rfl, rfl, by omega, Lib.hid (by rw [Bool.eq_iff_iff]; simp; omega), HS1, HS2, HB5⟩
          case measure => simp [intOf]; omega
        · have h0i : decide ((0 : Int) < (x.toNat : Int)) = true := decide_eq_true (by omega)
          have h0n : 0 < x.toNat := by omega
          obtain ⟨own, s1, s2⟩ := H4.out h0
          have HS1 := Lib.hid s1
          have HS2 := Lib.hid s2
          clear s1 s2 H3 H4 h0
          generalize x.toNat = id at *
          have hzl : (ys ++ [(⟨id, own⟩ : S)]).length = ys.length + 1 := by simp
          generalize ys ++ [(⟨id, own⟩ : S)] = zs at HS1 HS2 hzl
          go_wp2_with (go_at_call 19; refine (HC.out _ HBW.out).mono ?_; rintro e w5 ⟨rfl, hb5⟩; have HB5 := Lib.hid (HB.out.trans (hb5.mono HB.out.size)); have HBX := Lib.hid (HBW.out.trans (hb5.mono HBW.out.size)); have k5 := HCELL.out _ HBX.out; clear hb5)
          go_roundw
          case rel => exact ⟨p + 1 + R + U, id, _, zs, by omega, by go_num, rfl, by go_num, by omega, Lib.hid (by rw [Bool.eq_iff_iff]; simp; omega), HS1, HS2, HB5⟩
          case measure => simp [intOf]; omega
      · have hpge : cut ≤ p := by
          by_cases h1 : p < n
          · by_cases h2 : p < cut
            · exact absurd ⟨h1, h2⟩ hgo
            · omega
          · omega
        clear hgo HST0 HCT0
        by_cases hpn : p < n
        · have hpni : (p : Int) < (n : Int) := by omega
          have hpci : decide ((p : Int) < (cut : Int)) = false := decide_eq_false (by omega)
          have hpcn : decide (p < cut) = false := decide_eq_false (by omega)
          by_cases hpc : p = cut
          · obtain rfl : b = true := by rw [HBB.out]; exact decide_eq_true hpc
            have hct := HCT.out
            rw [hpc] at hct
            have hys := ct_eq hct
            rw [hys] at HSC
            simp only at HSC
            obtain ⟨zs, _, hxz⟩ := st_some HST.out HSP.out
            have hlen : ys.length ≤ xs.length := by rw [hxz, List.length_append]; omega
            have hleni : ¬ (xs.length : Int) < (ys.length : Int) := by omega
            have hlenn : ¬ xs.length < ys.length := by omega
            have HXZ := Lib.hid hxz
            clear hct hys hxz hpc HBB HST HCT hpge
            go_wp2_with (go_at_call 9; refine (HSC.out _ HBW.out).mono ?_; rintro e w6 ⟨hb6, A6, c6, rfl, h61, h62, hx6⟩; have HB6 := Lib.hid (HB.out.trans (hb6.mono HB.out.size)); have HX6 := Lib.hid hx6; have HBV := Lib.hid (HBW.out.trans (hb6.mono HBW.out.size)); clear hb6 hx6)
            go_loopw [111] (fun i wr => ∃ j : Nat, j ≤ ys.length ∧ i = .int .i64 (j : Int) ∧ Hid (Below w6.heap.size w6 wr)) (fun i _ => ys.length - (intOf i).toNat)
            case atStart => exact ⟨0, by omega, rfl, Lib.hid (Below.refl _ _)⟩
            case round =>
              obtain ⟨j, hj, rfl, HBJ⟩ := hrel
              by_cases hjn : j < ys.length
              · obtain ⟨x, hx⟩ : ∃ x, ys[j]? = some x := ⟨_, List.getElem?_eq_getElem hjn⟩
                have hx2 : xs[j]? = some x := by rw [HXZ.out, List.getElem?_append_left hjn]; exact hx
                obtain ⟨g, oo, A4, c4, rfl, hgB, _, _, _, _, hh, k0', k1'⟩ := HX6.out j x hx
                obtain ⟨g2, oo2, A5, c5, rfl, hgB2, _, _, _, _, hh2, l0', l1'⟩ := HX2.out j x hx2
                have hji : (j : Int) < (ys.length : Int) := by omega
                have hji2 : (j : Int) < (xs.length : Int) := by omega
                have hws := HBJ.out.size
                have k0 := (HBJ.out.cell (p := ⟨g, oo + j * 2, none⟩) hgB).trans k0'
                have k1 := (HBJ.out.cell (p := ⟨g, oo + j * 2 + 1, none⟩) hgB).trans k1'
                have hbj2 : ∀ W, Below w6.heap.size w6 W → Below w2.heap.size w2 W := fun W hb => HB6.out.trans (hb.mono HB6.out.size)
                have HL := Lib.hid (fun W (hb : Below w6.heap.size w6 W) => (⟨((hbj2 W hb).cell (p := ⟨g2, oo2 + j * 2, none⟩) hgB2).trans l0', ((hbj2 W hb).cell (p := ⟨g2, oo2 + j * 2 + 1, none⟩) hgB2).trans l1', run_str (hh.on hb) rfl c4, run_str (hh2.on (hbj2 W hb)) rfl c5⟩ : W.cell? ⟨g2, oo2 + j * 2, none⟩ = some (.int .u8 (x.id : Int)) ∧ W.cell? ⟨g2, oo2 + j * 2 + 1, none⟩ = some (.slice A5 x.b.length c5) ∧ (convert 22 9 (.slice A4 x.b.length c4)).run Tryd.prog W = .ok (.string ⟨x.b.toArray⟩) W ∧ (convert 22 9 (.slice A5 x.b.length c5)).run Tryd.prog W = .ok (.string ⟨x.b.toArray⟩) W))
                clear hbj2 hx hx2 hh hh2 k0' k1' l0' l1'
                obtain ⟨xi, xb⟩ := x
                simp only at HL k0 k1
                generalize hq : xb.length = q at HL k1
                clear hq
                have HX3 : Hid ((wr.alloc (.cells #[.int .u8 (xi : Int), .slice A4 q c4] 35)).heap[wr.heap.size]? = some (.cells #[.int .u8 (xi : Int), .slice A4 q c4] 35 (0, 0))) := Lib.hid (heap_alloc_new wr _)
                have HB3 : Hid (Below w6.heap.size w6 (wr.alloc (.cells #[.int .u8 (xi : Int), .slice A4 q c4] 35))) := Lib.hid (HBJ.out.alloc hws _)
                go_upto_region 23 with (fail)
                generalize wr.alloc (.cells #[.int .u8 (xi : Int), .slice A4 q c4] 35) = w3 at HX3 HB3 ⊢
                obtain ⟨z0, z1⟩ := cells2 HX3.out
                have hdr : Below w6.heap.size w6 w3.drew := HB3.out.drew
                obtain ⟨l0, l1, cv1, cv2⟩ := HL.out w3.drew hdr
                have HBD := Lib.hid hdr
                obtain ⟨X, hX⟩ : ∃ X, X = wr.heap.size := ⟨_, rfl⟩
                rw [← hX] at z0 z1 ⊢
                clear HX3 HL hX hdr
                refine wp_region_held_drew (S := (fun w' => w'.cell? ⟨X, 0, none⟩ = some (.int .u8 (xi : Int)) ∧ w'.cell? ⟨X, 1, none⟩ = some (.slice A4 q c4) ∧ w'.cell? ⟨g2, oo2 + j * 2, none⟩ = some (.int .u8 (xi : Int)) ∧ w'.cell? ⟨g2, oo2 + j * 2 + 1, none⟩ = some (.slice A5 q c5) ∧ (convert 22 9 (.slice A4 q c4)).run Tryd.prog w' = .ok (.string ⟨xb.toArray⟩) w' ∧ (convert 22 9 (.slice A5 q c5)).run Tryd.prog w' = .ok (.string ⟨xb.toArray⟩) w')) (by kernel_rfl) (⟨z0, z1, l0, l1, cv1, cv2⟩) (fun hHeld => ?_)
                refine drawn_take 0 rfl (by kernel_rfl) (by kernel_rfl) (by kernel_rfl) (fun _ _ _ h => h) (by rfl) (by assumption) (v := ?_) ?_ ?_
                rotate_left
                · (intro wy hSw; (try dsimp only at hSw); go_simp; try with_reducible rfl)
                simp only [Act.put, List.setIfInBounds_toArray, List.set_cons_zero, List.set_cons_succ]
                refine drawn_take 1 rfl (by kernel_rfl) (by kernel_rfl) (by kernel_rfl) (fun _ _ _ h => h) (by rfl) (by assumption) (v := ?_) ?_ ?_
                rotate_left
                · (intro wy hSw; (try dsimp only at hSw); go_simp; try with_reducible rfl)
                simp only [Act.put, List.setIfInBounds_toArray, List.set_cons_zero, List.set_cons_succ]
                refine drawn_take 2 rfl (by kernel_rfl) (by kernel_rfl) (by kernel_rfl) (fun _ _ _ h => h) (by rfl) (by assumption) (v := ?_) ?_ ?_
                rotate_left
                · (intro wy hSw; (try dsimp only at hSw); go_simp; try with_reducible rfl)
                simp only [Act.put, List.setIfInBounds_toArray, List.set_cons_zero, List.set_cons_succ]
                refine drawn_take 3 rfl (by kernel_rfl) (by kernel_rfl) (by kernel_rfl) (fun _ _ _ h => h) (by rfl) (by assumption) (v := ?_) ?_ ?_
                rotate_left
                · (intro wy hSw; (try dsimp only at hSw); go_simp; try with_reducible rfl)
                simp only [Act.put, List.setIfInBounds_toArray, List.set_cons_zero, List.set_cons_succ]
                refine drawn_take 4 rfl (by kernel_rfl) (by kernel_rfl) (by kernel_rfl) (fun _ _ _ h => h) (by rfl) (by assumption) (v := ?_) ?_ ?_
                rotate_left
                · (intro wy hSw; (try dsimp only at hSw); go_simp; try with_reducible rfl)
                simp only [Act.put, List.setIfInBounds_toArray, List.set_cons_zero, List.set_cons_succ]
                refine drawn_take 5 rfl (by kernel_rfl) (by kernel_rfl) (by kernel_rfl) (fun _ _ _ h => h) (by rfl) (by assumption) (v := ?_) ?_ ?_
                rotate_left
                · (intro wy hSw; (try dsimp only at hSw); go_simp; try with_reducible rfl)
                simp only [Act.put, List.setIfInBounds_toArray, List.set_cons_zero, List.set_cons_succ]
                refine drawn_take 6 rfl (by kernel_rfl) (by kernel_rfl) (by kernel_rfl) (fun _ _ _ h => h) (by rfl) (by assumption) (v := ?_) ?_ ?_
                rotate_left
                · (intro wy hSw; (try dsimp only at hSw); go_simp; try with_reducible rfl)
                simp only [Act.put, List.setIfInBounds_toArray, List.set_cons_zero, List.set_cons_succ]
                refine drawn_take 7 rfl (by kernel_rfl) (by kernel_rfl) (by kernel_rfl) (fun _ _ _ h => h) (by rfl) (by assumption) (v := ?_) ?_ ?_
                rotate_left
                · (intro wy hSw; (try dsimp only at hSw); go_simp; try with_reducible rfl)
                simp only [Act.put, List.setIfInBounds_toArray, List.set_cons_zero, List.set_cons_succ]
                refine drawn_take 8 rfl (by kernel_rfl) (by kernel_rfl) (by kernel_rfl) (fun _ _ _ h => h) (by rfl) (by assumption) (v := ?_) ?_ ?_
                rotate_left
                · (intro wy hSw; (try dsimp only at hSw); go_simp; try with_reducible rfl)
                simp only [Act.put, List.setIfInBounds_toArray, List.set_cons_zero, List.set_cons_succ]
                refine drawn_take 9 rfl (by kernel_rfl) (by kernel_rfl) (by kernel_rfl) (fun _ _ _ h => h) (by rfl) (by assumption) (v := ?_) ?_ ?_
                rotate_left
                · (intro wy hSw; (try dsimp only at hSw); go_simp; try with_reducible rfl)
                simp only [Act.put, List.setIfInBounds_toArray, List.set_cons_zero, List.set_cons_succ]
                refine drawn_take 10 rfl (by kernel_rfl) (by kernel_rfl) (by kernel_rfl) (fun _ _ _ h => h) (by rfl) (by assumption) (v := ?_) ?_ ?_
                rotate_left
                · (intro wy hSw; (try dsimp only at hSw); go_simp; try with_reducible rfl)
                simp only [Act.put, List.setIfInBounds_toArray, List.set_cons_zero, List.set_cons_succ]
                refine drawn_take 11 rfl (by kernel_rfl) (by kernel_rfl) (by kernel_rfl) (fun _ _ _ h => h) (by rfl) (by assumption) (v := ?_) ?_ ?_
                rotate_left
                · (intro wy hSw; (try dsimp only at hSw); go_simp; try with_reducible rfl)
                simp only [Act.put, List.setIfInBounds_toArray, List.set_cons_zero, List.set_cons_succ]
                refine drawn_take 12 rfl (by kernel_rfl) (by kernel_rfl) (by kernel_rfl) (fun _ _ _ h => h) (by rfl) (by assumption) (v := ?_) ?_ ?_
                rotate_left
                · (intro wy hSw; (try dsimp only at hSw); go_simp; try with_reducible rfl)
                simp only [Act.put, List.setIfInBounds_toArray, List.set_cons_zero, List.set_cons_succ]
                refine drawn_take 13 rfl (by kernel_rfl) (by kernel_rfl) (by kernel_rfl) (fun _ _ _ h => h) (by rfl) (by assumption) (v := ?_) ?_ ?_
                rotate_left
                · (intro wy hSw; (try dsimp only at hSw); go_simp; try with_reducible rfl)
                simp only [Act.put, List.setIfInBounds_toArray, List.set_cons_zero, List.set_cons_succ]
                refine drawn_take 14 rfl (by kernel_rfl) (by kernel_rfl) (by kernel_rfl) (fun _ _ _ h => h) (by rfl) (by assumption) (v := ?_) ?_ ?_
                rotate_left
                · (intro wy hSw; (try dsimp only at hSw); go_simp; try with_reducible rfl)
                simp only [Act.put, List.setIfInBounds_toArray, List.set_cons_zero, List.set_cons_succ]
                refine drawn_take 15 rfl (by kernel_rfl) (by kernel_rfl) (by kernel_rfl) (fun _ _ _ h => h) (by rfl) (by assumption) (v := ?_) ?_ ?_
                rotate_left
                · (intro wy hSw; (try dsimp only at hSw); go_simp; try with_reducible rfl)
                simp only [Act.put, List.setIfInBounds_toArray, List.set_cons_zero, List.set_cons_succ]
                refine drawn_take 16 rfl (by kernel_rfl) (by kernel_rfl) (by kernel_rfl) (fun _ _ _ h => h) (by rfl) (by assumption) (v := ?_) ?_ ?_
                rotate_left
                · (intro wy hSw; (try dsimp only at hSw); go_simp; try with_reducible rfl)
                simp only [Act.put, List.setIfInBounds_toArray, List.set_cons_zero, List.set_cons_succ]
                refine drawn_take 17 rfl (by kernel_rfl) (by kernel_rfl) (by kernel_rfl) (fun _ _ _ h => h) (by rfl) (by assumption) (v := ?_) ?_ ?_
                rotate_left
                · (intro wy hSw; (try dsimp only at hSw); go_simp; try with_reducible rfl)
                simp only [Act.put, List.setIfInBounds_toArray, List.set_cons_zero, List.set_cons_succ]
                refine drawn_take 18 rfl (by kernel_rfl) (by kernel_rfl) (by kernel_rfl) (fun _ _ _ h => h) (by rfl) (by assumption) (v := ?_) ?_ ?_
                rotate_left
                · (intro wy hSw; (try dsimp only at hSw); go_simp; try with_reducible rfl)
                simp only [Act.put, List.setIfInBounds_toArray, List.set_cons_zero, List.set_cons_succ]
                refine drawn_take 19 rfl (by kernel_rfl) (by kernel_rfl) (by kernel_rfl) (fun _ _ _ h => h) (by rfl) (by assumption) (v := ?_) ?_ ?_
                rotate_left
                · (intro wy hSw; (try dsimp only at hSw); go_simp; try with_reducible rfl)
                simp only [Act.put, List.setIfInBounds_toArray, List.set_cons_zero, List.set_cons_succ]
                refine wpAnyH_done (by kernel_rfl) ?_ _
                go_wp2_with fail
                go_roundw
                case rel => exact ⟨j + 1, by omega, by go_num, HBD⟩
                case measure => simp [intOf]; omega
              · obtain rfl : j = ys.length := by omega
                go_wp2_with fail
                go_ret
                exact ⟨rfl, HBV.out.trans (HBJ.out.mono HBV.out.size)⟩
          · obtain rfl : b = false := by rw [HBB.out]; exact decide_eq_false hpc
            have hno := ct_gt HCT.out (by omega)
            rw [hno] at HSC
            simp only at HSC
            clear hno HBB HST HCT hpc hpge
            go_wp2_with (go_at_call 9; refine (HSC.out _ HBW.out).mono ?_; rintro e w6 ⟨hb6, A6, c6, rfl⟩; have HB6 := Lib.hid (HBW.out.trans (hb6.mono HBW.out.size)); clear hb6)
            go_ret
            exact ⟨rfl, HB6.out⟩
        · have hpni : decide ((p : Int) < (n : Int)) = false := decide_eq_false (by omega)
          have hpnn : decide (p < n) = false := decide_eq_false (by omega)
          by_cases hpc : p = cut
          · obtain rfl : b = true := by rw [HBB.out]; exact decide_eq_true hpc
            have hct := HCT.out
            rw [hpc] at hct
            have hys := ct_eq hct
            rw [hys] at HSC
            simp only at HSC
            obtain ⟨zs, _, hxz⟩ := st_some HST.out HSP.out
            have hlen : ys.length ≤ xs.length := by rw [hxz, List.length_append]; omega
            have hleni : ¬ (xs.length : Int) < (ys.length : Int) := by omega
            have hlenn : ¬ xs.length < ys.length := by omega
            have HXZ := Lib.hid hxz
            clear hct hys hxz hpc HBB HST HCT hpge
            go_wp2_with (go_at_call 9; refine (HSC.out _ HBW.out).mono ?_; rintro e w6 ⟨hb6, A6, c6, rfl, h61, h62, hx6⟩; have HB6 := Lib.hid (HB.out.trans (hb6.mono HB.out.size)); have HX6 := Lib.hid hx6; have HBV := Lib.hid (HBW.out.trans (hb6.mono HBW.out.size)); clear hb6 hx6)
            go_loopw [111] (fun i wr => ∃ j : Nat, j ≤ ys.length ∧ i = .int .i64 (j : Int) ∧ Hid (Below w6.heap.size w6 wr)) (fun i _ => ys.length - (intOf i).toNat)
            case atStart => exact ⟨0, by omega, rfl, Lib.hid (Below.refl _ _)⟩
            case round =>
              obtain ⟨j, hj, rfl, HBJ⟩ := hrel
              by_cases hjn : j < ys.length
              · obtain ⟨x, hx⟩ : ∃ x, ys[j]? = some x := ⟨_, List.getElem?_eq_getElem hjn⟩
                have hx2 : xs[j]? = some x := by rw [HXZ.out, List.getElem?_append_left hjn]; exact hx
                obtain ⟨g, oo, A4, c4, rfl, hgB, _, _, _, _, hh, k0', k1'⟩ := HX6.out j x hx
                obtain ⟨g2, oo2, A5, c5, rfl, hgB2, _, _, _, _, hh2, l0', l1'⟩ := HX2.out j x hx2
                have hji : (j : Int) < (ys.length : Int) := by omega
                have hji2 : (j : Int) < (xs.length : Int) := by omega
                have hws := HBJ.out.size
                have k0 := (HBJ.out.cell (p := ⟨g, oo + j * 2, none⟩) hgB).trans k0'
                have k1 := (HBJ.out.cell (p := ⟨g, oo + j * 2 + 1, none⟩) hgB).trans k1'
                have hbj2 : ∀ W, Below w6.heap.size w6 W → Below w2.heap.size w2 W := fun W hb => HB6.out.trans (hb.mono HB6.out.size)
                have HL := Lib.hid (fun W (hb : Below w6.heap.size w6 W) => (⟨((hbj2 W hb).cell (p := ⟨g2, oo2 + j * 2, none⟩) hgB2).trans l0', ((hbj2 W hb).cell (p := ⟨g2, oo2 + j * 2 + 1, none⟩) hgB2).trans l1', run_str (hh.on hb) rfl c4, run_str (hh2.on (hbj2 W hb)) rfl c5⟩ : W.cell? ⟨g2, oo2 + j * 2, none⟩ = some (.int .u8 (x.id : Int)) ∧ W.cell? ⟨g2, oo2 + j * 2 + 1, none⟩ = some (.slice A5 x.b.length c5) ∧ (convert 22 9 (.slice A4 x.b.length c4)).run Tryd.prog W = .ok (.string ⟨x.b.toArray⟩) W ∧ (convert 22 9 (.slice A5 x.b.length c5)).run Tryd.prog W = .ok (.string ⟨x.b.toArray⟩) W))
                clear hbj2 hx hx2 hh hh2 k0' k1' l0' l1'
                obtain ⟨xi, xb⟩ := x
                simp only at HL k0 k1
                generalize hq : xb.length = q at HL k1
                clear hq
                have HX3 : Hid ((wr.alloc (.cells #[.int .u8 (xi : Int), .slice A4 q c4] 35)).heap[wr.heap.size]? = some (.cells #[.int .u8 (xi : Int), .slice A4 q c4] 35 (0, 0))) := Lib.hid (heap_alloc_new wr _)
                have HB3 : Hid (Below w6.heap.size w6 (wr.alloc (.cells #[.int .u8 (xi : Int), .slice A4 q c4] 35))) := Lib.hid (HBJ.out.alloc hws _)
                go_upto_region 23 with (fail)
                generalize wr.alloc (.cells #[.int .u8 (xi : Int), .slice A4 q c4] 35) = w3 at HX3 HB3 ⊢
                obtain ⟨z0, z1⟩ := cells2 HX3.out
                have hdr : Below w6.heap.size w6 w3.drew := HB3.out.drew
                obtain ⟨l0, l1, cv1, cv2⟩ := HL.out w3.drew hdr
                have HBD := Lib.hid hdr
                obtain ⟨X, hX⟩ : ∃ X, X = wr.heap.size := ⟨_, rfl⟩
                rw [← hX] at z0 z1 ⊢
                clear HX3 HL hX hdr
                refine wp_region_held_drew (S := (fun w' => w'.cell? ⟨X, 0, none⟩ = some (.int .u8 (xi : Int)) ∧ w'.cell? ⟨X, 1, none⟩ = some (.slice A4 q c4) ∧ w'.cell? ⟨g2, oo2 + j * 2, none⟩ = some (.int .u8 (xi : Int)) ∧ w'.cell? ⟨g2, oo2 + j * 2 + 1, none⟩ = some (.slice A5 q c5) ∧ (convert 22 9 (.slice A4 q c4)).run Tryd.prog w' = .ok (.string ⟨xb.toArray⟩) w' ∧ (convert 22 9 (.slice A5 q c5)).run Tryd.prog w' = .ok (.string ⟨xb.toArray⟩) w')) (by kernel_rfl) (⟨z0, z1, l0, l1, cv1, cv2⟩) (fun hHeld => ?_)
                refine drawn_take 0 rfl (by kernel_rfl) (by kernel_rfl) (by kernel_rfl) (fun _ _ _ h => h) (by rfl) (by assumption) (v := ?_) ?_ ?_
                rotate_left
                · (intro wy hSw; (try dsimp only at hSw); go_simp; try with_reducible rfl)
                simp only [Act.put, List.setIfInBounds_toArray, List.set_cons_zero, List.set_cons_succ]
                refine drawn_take 1 rfl (by kernel_rfl) (by kernel_rfl) (by kernel_rfl) (fun _ _ _ h => h) (by rfl) (by assumption) (v := ?_) ?_ ?_
                rotate_left
                · (intro wy hSw; (try dsimp only at hSw); go_simp; try with_reducible rfl)
                simp only [Act.put, List.setIfInBounds_toArray, List.set_cons_zero, List.set_cons_succ]
                refine drawn_take 2 rfl (by kernel_rfl) (by kernel_rfl) (by kernel_rfl) (fun _ _ _ h => h) (by rfl) (by assumption) (v := ?_) ?_ ?_
                rotate_left
                · (intro wy hSw; (try dsimp only at hSw); go_simp; try with_reducible rfl)
                simp only [Act.put, List.setIfInBounds_toArray, List.set_cons_zero, List.set_cons_succ]
                refine drawn_take 3 rfl (by kernel_rfl) (by kernel_rfl) (by kernel_rfl) (fun _ _ _ h => h) (by rfl) (by assumption) (v := ?_) ?_ ?_
                rotate_left
                · (intro wy hSw; (try dsimp only at hSw); go_simp; try with_reducible rfl)
                simp only [Act.put, List.setIfInBounds_toArray, List.set_cons_zero, List.set_cons_succ]
                refine drawn_take 4 rfl (by kernel_rfl) (by kernel_rfl) (by kernel_rfl) (fun _ _ _ h => h) (by rfl) (by assumption) (v := ?_) ?_ ?_
                rotate_left
                · (intro wy hSw; (try dsimp only at hSw); go_simp; try with_reducible rfl)
                simp only [Act.put, List.setIfInBounds_toArray, List.set_cons_zero, List.set_cons_succ]
                refine drawn_take 5 rfl (by kernel_rfl) (by kernel_rfl) (by kernel_rfl) (fun _ _ _ h => h) (by rfl) (by assumption) (v := ?_) ?_ ?_
                rotate_left
                · (intro wy hSw; (try dsimp only at hSw); go_simp; try with_reducible rfl)
                simp only [Act.put, List.setIfInBounds_toArray, List.set_cons_zero, List.set_cons_succ]
                refine drawn_take 6 rfl (by kernel_rfl) (by kernel_rfl) (by kernel_rfl) (fun _ _ _ h => h) (by rfl) (by assumption) (v := ?_) ?_ ?_
                rotate_left
                · (intro wy hSw; (try dsimp only at hSw); go_simp; try with_reducible rfl)
                simp only [Act.put, List.setIfInBounds_toArray, List.set_cons_zero, List.set_cons_succ]
                refine drawn_take 7 rfl (by kernel_rfl) (by kernel_rfl) (by kernel_rfl) (fun _ _ _ h => h) (by rfl) (by assumption) (v := ?_) ?_ ?_
                rotate_left
                · (intro wy hSw; (try dsimp only at hSw); go_simp; try with_reducible rfl)
                simp only [Act.put, List.setIfInBounds_toArray, List.set_cons_zero, List.set_cons_succ]
                refine drawn_take 8 rfl (by kernel_rfl) (by kernel_rfl) (by kernel_rfl) (fun _ _ _ h => h) (by rfl) (by assumption) (v := ?_) ?_ ?_
                rotate_left
                · (intro wy hSw; (try dsimp only at hSw); go_simp; try with_reducible rfl)
                simp only [Act.put, List.setIfInBounds_toArray, List.set_cons_zero, List.set_cons_succ]
                refine drawn_take 9 rfl (by kernel_rfl) (by kernel_rfl) (by kernel_rfl) (fun _ _ _ h => h) (by rfl) (by assumption) (v := ?_) ?_ ?_
                rotate_left
                · (intro wy hSw; (try dsimp only at hSw); go_simp; try with_reducible rfl)
                simp only [Act.put, List.setIfInBounds_toArray, List.set_cons_zero, List.set_cons_succ]
                refine drawn_take 10 rfl (by kernel_rfl) (by kernel_rfl) (by kernel_rfl) (fun _ _ _ h => h) (by rfl) (by assumption) (v := ?_) ?_ ?_
                rotate_left
                · (intro wy hSw; (try dsimp only at hSw); go_simp; try with_reducible rfl)
                simp only [Act.put, List.setIfInBounds_toArray, List.set_cons_zero, List.set_cons_succ]
                refine drawn_take 11 rfl (by kernel_rfl) (by kernel_rfl) (by kernel_rfl) (fun _ _ _ h => h) (by rfl) (by assumption) (v := ?_) ?_ ?_
                rotate_left
                · (intro wy hSw; (try dsimp only at hSw); go_simp; try with_reducible rfl)
                simp only [Act.put, List.setIfInBounds_toArray, List.set_cons_zero, List.set_cons_succ]
                refine drawn_take 12 rfl (by kernel_rfl) (by kernel_rfl) (by kernel_rfl) (fun _ _ _ h => h) (by rfl) (by assumption) (v := ?_) ?_ ?_
                rotate_left
                · (intro wy hSw; (try dsimp only at hSw); go_simp; try with_reducible rfl)
                simp only [Act.put, List.setIfInBounds_toArray, List.set_cons_zero, List.set_cons_succ]
                refine drawn_take 13 rfl (by kernel_rfl) (by kernel_rfl) (by kernel_rfl) (fun _ _ _ h => h) (by rfl) (by assumption) (v := ?_) ?_ ?_
                rotate_left
                · (intro wy hSw; (try dsimp only at hSw); go_simp; try with_reducible rfl)
                simp only [Act.put, List.setIfInBounds_toArray, List.set_cons_zero, List.set_cons_succ]
                refine drawn_take 14 rfl (by kernel_rfl) (by kernel_rfl) (by kernel_rfl) (fun _ _ _ h => h) (by rfl) (by assumption) (v := ?_) ?_ ?_
                rotate_left
                · (intro wy hSw; (try dsimp only at hSw); go_simp; try with_reducible rfl)
                simp only [Act.put, List.setIfInBounds_toArray, List.set_cons_zero, List.set_cons_succ]
                refine drawn_take 15 rfl (by kernel_rfl) (by kernel_rfl) (by kernel_rfl) (fun _ _ _ h => h) (by rfl) (by assumption) (v := ?_) ?_ ?_
                rotate_left
                · (intro wy hSw; (try dsimp only at hSw); go_simp; try with_reducible rfl)
                simp only [Act.put, List.setIfInBounds_toArray, List.set_cons_zero, List.set_cons_succ]
                refine drawn_take 16 rfl (by kernel_rfl) (by kernel_rfl) (by kernel_rfl) (fun _ _ _ h => h) (by rfl) (by assumption) (v := ?_) ?_ ?_
                rotate_left
                · (intro wy hSw; (try dsimp only at hSw); go_simp; try with_reducible rfl)
                simp only [Act.put, List.setIfInBounds_toArray, List.set_cons_zero, List.set_cons_succ]
                refine drawn_take 17 rfl (by kernel_rfl) (by kernel_rfl) (by kernel_rfl) (fun _ _ _ h => h) (by rfl) (by assumption) (v := ?_) ?_ ?_
                rotate_left
                · (intro wy hSw; (try dsimp only at hSw); go_simp; try with_reducible rfl)
                simp only [Act.put, List.setIfInBounds_toArray, List.set_cons_zero, List.set_cons_succ]
                refine drawn_take 18 rfl (by kernel_rfl) (by kernel_rfl) (by kernel_rfl) (fun _ _ _ h => h) (by rfl) (by assumption) (v := ?_) ?_ ?_
                rotate_left
                · (intro wy hSw; (try dsimp only at hSw); go_simp; try with_reducible rfl)
                simp only [Act.put, List.setIfInBounds_toArray, List.set_cons_zero, List.set_cons_succ]
                refine drawn_take 19 rfl (by kernel_rfl) (by kernel_rfl) (by kernel_rfl) (fun _ _ _ h => h) (by rfl) (by assumption) (v := ?_) ?_ ?_
                rotate_left
                · (intro wy hSw; (try dsimp only at hSw); go_simp; try with_reducible rfl)
                simp only [Act.put, List.setIfInBounds_toArray, List.set_cons_zero, List.set_cons_succ]
                refine wpAnyH_done (by kernel_rfl) ?_ _
                go_wp2_with fail
                go_roundw
                case rel => exact ⟨j + 1, by omega, by go_num, HBD⟩
                case measure => simp [intOf]; omega
              · obtain rfl : j = ys.length := by omega
                go_wp2_with fail
                go_ret
                exact ⟨rfl, HBV.out.trans (HBJ.out.mono HBV.out.size)⟩
          · obtain rfl : b = false := by rw [HBB.out]; exact decide_eq_false hpc
            have hno := ct_gt HCT.out (by omega)
            rw [hno] at HSC
            simp only at HSC
            clear hno HBB HST HCT hpc hpge
            go_wp2_with (go_at_call 9; refine (HSC.out _ HBW.out).mono ?_; rintro e w6 ⟨hb6, A6, c6, rfl⟩; have HB6 := Lib.hid (HBW.out.trans (hb6.mono HBW.out.size)); clear hb6)
            go_ret
            exact ⟨rfl, HB6.out⟩
end Go.Proofs.YtanhgpdeoffmfaaDoor
