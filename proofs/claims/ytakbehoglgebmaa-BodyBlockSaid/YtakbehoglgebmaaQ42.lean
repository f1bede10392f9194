/-
  The walk over BodyBlock. (gen/body/law2.py)
-/
import Derived.Test.YtakbehoglgebmaaQ41
namespace Go.Proofs.Ytakbehoglgebmaa
open Go.RowKit Ins Bin Sp
theorem blk_ok {t : Nat} (h : t < 4294967296) : (Bo.blk t).wf ∧ (Bo.blk t).l = [] := ⟨⟨by simp [Bo.blk], h, by simp [Bo.blk], by simp [Bo.blk], by simp [Bo.blk], by simp [Bo.blk]⟩, rfl⟩
theorem ret_cells : insCells Bo.ret none 0 = [.int .u8 15, .int .u32 0, .int .u32 0, .int .i64 0, .slice none 0 0] := rfl
theorem ret_one : (#[.int .u8 15, .int .u32 0, .int .u32 0, .int .i64 0, .slice none 0 0] : Array Value).all (·.oneCell') = true := all_oneCell_toArray (by simp [Value.oneCell'])
theorem ret_ok : Bo.ret.wf ∧ Bo.ret.l = [] := wfB_of (xs := [Bo.ret]) (by decide) _ (by simp)
theorem tot_rets : ∀ (xs : List I) (d : Nat), tot (Bo.rets d xs) ≤ tot xs
  | [], _ => Nat.le_refl _
  | y :: xs, d => by
    rw [Bo.rets]
    have := tot_rets xs (Bo.deepN d y.op)
    simp only [tot]
    split
    · have e : Bo.ret.l.length = 0 := rfl
      rw [e]; omega
    · omega
set_option maxRecDepth 100000 in
set_option maxHeartbeats 40000000 in
theorem bodyBlock_any (m : M) (v1 v2 v3 v4 v5 v6 v7 v8 v9 v10 : Value) (t : FT) (u1 u2 : Value) (cd : Cd) (u3 u4 : Value) (w : World) (hM : RepM w (· < w.heap.size) m v1 v2 v3 v4 v5 v6 v7 v8 v9 v10) (hB : BigM m)
    (h1 : SliceV w (· < w.heap.size) t.params u1) (h2 : SliceV w (· < w.heap.size) t.results u2) (h3 : SliceV w (· < w.heap.size) cd.locals u3) (h4 : SliceV w (· < w.heap.size) cd.body u4) (l1 : t.params.length ≤ 140737488355328) (l2 : t.results.length ≤ 140737488355328) (l3 : cd.locals.length ≤ 140737488355328) (l4 : cd.body.length ≤ 140737488355328) (l5 : ∀ x ∈ cd.body, x.l.length ≤ 140737488355328) :
    Calls Try.prog 4 #[.agg (modCells m v1 v2 v3 v4 v5 v6 v7 v8 v9 v10), .agg #[u1, u2], .agg #[u3, u4]] w fun e w' => e = .returned (.bool true) ∧ Below w.heap.size w w' := by
  have hft : ∀ t ∈ funs m, t < 4294967296 := rep_funs hM
  generalize hcs : modCells m v1 v2 v3 v4 v5 v6 v7 v8 v9 v10 = cs
  have HG : Hid (∀ W, Below w.heap.size w W → Calls Try.prog 6 #[.agg cs, .agg #[u1, u2], .agg #[u3, u4]] W (GrPost W (Few m) (many cd.body) (t.params.length + t.results.length + cd.locals.length))) := Lib.hid (fun W hb => by
    subst hcs
    exact bgreat_any m _ _ _ _ _ _ _ _ _ _ _ _ _ _ u1 u2 u3 u4 W (hM.grow hb) hB (h1.grow hb) (h2.grow hb) (h3.grow hb) (h4.grow hb) l1 l2 l3 l4 l5)
  have HOF : Hid (Few m → ∀ W, Below w.heap.size w W → Calls Try.prog 7 #[.agg cs] W fun e w' => ∃ P, e = .returned (.pointer (some ⟨P, 0, none⟩)) ∧ SpaceV w' P m ∧ Below W.heap.size W w') := Lib.hid (fun hF W hb => by
    subst hcs
    exact sof_any m _ _ _ _ _ _ _ _ _ _ W (hM.grow hb) hF)
  have HCK : Hid (Few m → t.params.length + t.results.length + cd.locals.length ≤ 500 → ∀ W P ys v, Below w.heap.size w W → SpaceV W P m → SliceV W (· < W.heap.size) ys v → ys.length ≤ 10000 → tot ys ≤ 100000000 → Calls Try.prog 8 #[.pointer (some ⟨P, 0, none⟩), .agg #[u1, u2], .agg #[u3, v]] W fun e w' => e = chkE (Bo.chk (envOf m t.params t.results cd.locals) (Bo.locB cd.locals) ys) ∧ Below W.heap.size W w') := Lib.hid (fun hF hl W P ys v hb hS hv q1 q2 =>
    check_at m P t.params t.results cd.locals ys u1 u2 u3 v W hS hF hft (h1.grow hb) (h2.grow hb) (h3.grow hb) hv (by omega) (by omega) (by omega) q1 q2)
  have HLC : Hid (t.params.length + t.results.length + cd.locals.length ≤ 500 → ∀ W, Below w.heap.size w W → Calls Try.prog 9 #[.agg #[u1, u2], .agg #[u3, u4], .int .u32 4294967295] W fun e w' => e = .returned (.tuple #[.int .u8 (((Bo.local' t.params cd.locals 4294967295).getD 0).toNat : Int), .bool (Bo.local' t.params cd.locals 4294967295).isSome]) ∧ Below W.heap.size W w') := Lib.hid (fun hl W hb =>
    blocal_any t.params cd.locals u1 u2 u3 u4 4294967295 (by decide) W (h1.grow hb) (h3.grow hb) (by omega) (by omega))
  have HLX : Hid (∀ W, Below w.heap.size w W → SliceV W (· < W.heap.size) cd.body u4) := Lib.hid (fun W hb => h4.grow hb)
  have HLO : Hid (∃ A c, u4 = .slice A cd.body.length c ∧ cd.body.length ≤ c ∧ c ≤ maxLen ∧ (A = none → c = 0) ∧ HasL w (· < w.heap.size) A cd.body) := Lib.hid h4
  obtain ⟨A1, c1, rfl, _⟩ := h1
  obtain ⟨A2, c2, rfl, _, _, _, hL2⟩ := h2
  have HL2 := Lib.hid hL2
  clear hL2
  obtain ⟨A3, c3, rfl, _⟩ := h3
  obtain ⟨A4, c4, rfl, hcap, hcm, hnil, hL4⟩ := h4
  clear HLO
  have HL4 := Lib.hid hL4
  have HNL := Lib.hid hnil
  unfold modCells at hcs
  generalize m.hasStart = hs at hcs
  generalize (m.start : Int) = st at hcs
  subst hcs
  obtain ⟨xs, hxs⟩ : ∃ xs, cd.body = xs := ⟨_, rfl⟩
  obtain ⟨ls, hls⟩ : ∃ xs, cd.locals = xs := ⟨_, rfl⟩
  obtain ⟨ps, hps⟩ : ∃ xs, t.params = xs := ⟨_, rfl⟩
  obtain ⟨rs, hrs⟩ : ∃ xs, t.results = xs := ⟨_, rfl⟩
  rw [hxs] at HL4 HLX HG HLC hcap l4 ⊢
  rw [hls] at HCK HLC HG l3 ⊢
  rw [hps] at HCK HLC HG l1 ⊢
  rw [hrs] at HCK HLC HG HL2 l2 ⊢
  rw [hxs] at l5
  obtain ⟨n1, hn1⟩ : ∃ n, ps.length = n := ⟨_, rfl⟩
  obtain ⟨n2, hn2⟩ : ∃ n, rs.length = n := ⟨_, rfl⟩
  obtain ⟨n3, hn3⟩ : ∃ n, ls.length = n := ⟨_, rfl⟩
  obtain ⟨n4, hn4⟩ : ∃ n, xs.length = n := ⟨_, rfl⟩
  rw [hn1] at HCK HLC HG l1 ⊢
  rw [hn2] at HCK HLC HG l2 ⊢
  rw [hn3] at HCK HLC HG l3 ⊢
  rw [hn4] at HLX HG HLC hcap l4 ⊢
  have HN4 := Lib.hid hn4
  have HRL := Lib.hid hn2
  obtain ⟨lc, hlc0⟩ : ∃ lc, Bo.local' ps ls 4294967295 = lc := ⟨_, rfl⟩
  rw [hlc0] at HLC
  obtain ⟨tv, htv⟩ : ∃ v : Int, ((lc.getD 0).toNat : Int) = v := ⟨_, rfl⟩
  obtain ⟨tb, htb⟩ : ∃ b, lc.isSome = b := ⟨_, rfl⟩
  rw [htv, htb] at HLC
  have HLC0 := Lib.hid (loc_none m rs hlc0 htb)
  clear hlc0 htv htb
  unfold maxLen at hcm
  clear hxs hls hps hrs hn1 hn2 hn3 hn4 hM hB hnil hL4 l1 l2 l3 l5 hft
  obtain ⟨t0, t1, t2, t3⟩ := three_new w (.cells #[v1, v2, v3, v4, v5, v6, v7, .bool hs, .int .u32 st, v8, v9, v10] 33) (.cells #[.slice A1 n1 c1, .slice A2 n2 c2] 36) (.cells #[.slice A3 n3 c3, .slice A4 n4 c4] 40)
  have HX0 := Lib.hid t0
  have HX1 := Lib.hid t1
  have HX2 := Lib.hid t2
  have HB0 := Lib.hid t3
  clear t0 t1 t2 t3
  go_enter Try.func4, Try.ntmps4
  go_upto_region 1 with fail
  generalize ((w.alloc (.cells #[v1, v2, v3, v4, v5, v6, v7, .bool hs, .int .u32 st, v8, v9, v10] 33)).alloc (.cells #[.slice A1 n1 c1, .slice A2 n2 c2] 36)).alloc (.cells #[.slice A3 n3 c3, .slice A4 n4 c4] 40) = w0 at HX0 HX1 HX2 HB0 ⊢
  obtain ⟨X0, hX0⟩ : ∃ X, w.heap.size = X := ⟨_, rfl⟩
  obtain ⟨X1, hX1⟩ : ∃ X, w.heap.size + 1 = X := ⟨_, rfl⟩
  obtain ⟨X2, hX2⟩ : ∃ X, w.heap.size + 2 = X := ⟨_, rfl⟩
  simp only [hX2] at HX2 ⊢
  simp only [hX1] at HX1 ⊢
  simp only [hX0] at HX0 ⊢
  have HXW : Hid (w.heap.size ≤ X2) := Lib.hid (by omega)
  clear hX0 hX1 hX2
  have HAL := Lib.hid (fun W (hW : Below w0.heap.size w0 W) => And.intro (cells12 HX0.out hW) (And.intro (two_cells ((hW.block X1 (Array.getElem?_eq_some_iff.1 HX1.out).1).trans HX1.out)) (two_cells ((hW.block X2 (Array.getElem?_eq_some_iff.1 HX2.out).1).trans HX2.out))))
  go_upto_region 3 with (go_at_call 5; refine (known10 _).mono ?_; rintro e w1 ⟨rfl, hb⟩; have HW1 := Lib.hid hb; clear hb)
  have HB1 := Lib.hid (HB0.out.trans (HW1.out.mono HB0.out.size))
  obtain ⟨⟨a0, a1, a2, a3, a4, a5, a6, a7, a8, a9, a10, a11⟩, ⟨b0, b1⟩, ⟨b2, b3⟩⟩ := HAL.out _ HW1.out
  go_cut [51] from 22 to 51 (fun t wx => ∃ b : Bool, t = .bool b ∧ Hid (Below w0.heap.size w0 wx) ∧ Hid (b = false → Few m ∧ many xs ≤ 3000 ∧ n1 + n2 + n3 ≤ 500 ∧ n2 ≤ 1 ∧ (n2 = 1 → ∃ x, rs = [x] ∧ (x = 127 ∨ x = 126))))
  case first =>
    as_aux_lemma =>
      by_cases hc1 : 1 < n2
      · have hc1i : (1 : Int) < (n2 : Int) := by omega
        clear hc1
        go_wp2_with (go_at_call 6; refine (HG.out _ HB1.out).mono ?_; rintro e w2 ⟨g, rfl, hb, hsm⟩; obtain ⟨_, ⟨y0, y1⟩, ⟨y2, y3⟩⟩ := HAL.out _ (HW1.out.trans (hb.mono HW1.out.size)); have HW2 := Lib.hid (HW1.out.trans (hb.mono HW1.out.size)); have HSM := Lib.hid hsm; clear a0 a1 a2 a3 a4 a5 a6 a7 a8 a9 a10 a11 b0 b1 b2 b3 hb hsm)
        all_goals (go_meet; case rel => exact ⟨true, rfl, HW2, Lib.hid (fun h => by cases h)⟩)
      by_cases hc0 : n2 = 0
      · subst hc0
        clear hc1
        go_wp2_with (go_at_call 6; refine (HG.out _ HB1.out).mono ?_; rintro e w2 ⟨g, rfl, hb, hsm⟩; obtain ⟨_, ⟨y0, y1⟩, ⟨y2, y3⟩⟩ := HAL.out _ (HW1.out.trans (hb.mono HW1.out.size)); have HW2 := Lib.hid (HW1.out.trans (hb.mono HW1.out.size)); have HSM := Lib.hid hsm; clear a0 a1 a2 a3 a4 a5 a6 a7 a8 a9 a10 a11 b0 b1 b2 b3 hb hsm)
        all_goals (go_meet; case rel => first | exact ⟨true, rfl, HW2, Lib.hid (fun h => by cases h)⟩ | exact ⟨false, rfl, HW2, Lib.hid (fun _ => by obtain ⟨q1, q2, q3⟩ := HSM.out (by first | rfl | assumption | simp_all); exact ⟨q1, q2, q3, by omega, fun e => by omega⟩)⟩)
      obtain rfl : n2 = 1 := by omega
      clear hc1 hc0
      obtain ⟨x, hx⟩ : ∃ x, rs = [x] := by
        have := HRL.out
        match rs, this with
        | [x], _ => exact ⟨x, rfl⟩
      subst hx
      obtain ⟨g2, o2, rfl, hg2, hcx⟩ := by_at HL2.out (show ([x] : List UInt8)[0]? = some x from rfl)
      simp only [Nat.add_zero] at hcx
      have HRS := Lib.hid (fun W (hb : Below w.heap.size w W) => (hb.cell (p := ⟨g2, o2, none⟩) hg2).trans hcx)
      have hx1 := @UInt8.toNat_inj x 127
      have hx2 := @UInt8.toNat_inj x 126
      rw [show (127 : UInt8).toNat = 127 from rfl] at hx1
      rw [show (126 : UInt8).toNat = 126 from rfl] at hx2
      have HXX := Lib.hid (And.intro hx1 hx2)
      clear hcx hx1 hx2
      generalize hxn : x.toNat = xn at HRS HXX
      clear hxn
      by_cases q1 : xn = 127
      · subst q1
        have hxe := HXX.out.1.1 rfl
        have HXE := Lib.hid hxe
        clear hxe
        go_wp2_with (go_at_call 6; refine (HG.out _ HB1.out).mono ?_; rintro e w2 ⟨g, rfl, hb, hsm⟩; obtain ⟨_, ⟨y0, y1⟩, ⟨y2, y3⟩⟩ := HAL.out _ (HW1.out.trans (hb.mono HW1.out.size)); have HW2 := Lib.hid (HW1.out.trans (hb.mono HW1.out.size)); have rsc := HRS.out _ (HB0.out.trans (HW1.out.trans (hb.mono HW1.out.size) |>.mono HB0.out.size)); have HSM := Lib.hid hsm; clear a0 a1 a2 a3 a4 a5 a6 a7 a8 a9 a10 a11 b0 b1 b2 b3 hb hsm)
        all_goals (go_meet; case rel => first | exact ⟨true, rfl, HW2, Lib.hid (fun h => by cases h)⟩ | exact ⟨false, rfl, HW2, Lib.hid (fun _ => by obtain ⟨q1, q2, q3⟩ := HSM.out (by first | rfl | assumption | simp_all); exact ⟨q1, q2, q3, by omega, fun _ => ⟨x, rfl, .inl HXE.out⟩⟩)⟩)
      · have q1i : ((xn : Int) == 127) = false := by rw [beq_eq_false_iff_ne]; omega
        have q1j : ((xn : Int) != 127) = true := by rw [bne, q1i]; rfl
        have q1k : ¬ ((xn : Int) = 127) := by omega
        clear q1
        by_cases q2 : xn = 126
        · subst q2
          have hxe := HXX.out.2.1 rfl
          have HXE := Lib.hid hxe
          clear hxe
          go_wp2_with (go_at_call 6; refine (HG.out _ HB1.out).mono ?_; rintro e w2 ⟨g, rfl, hb, hsm⟩; obtain ⟨_, ⟨y0, y1⟩, ⟨y2, y3⟩⟩ := HAL.out _ (HW1.out.trans (hb.mono HW1.out.size)); have HW2 := Lib.hid (HW1.out.trans (hb.mono HW1.out.size)); have rsc := HRS.out _ (HB0.out.trans (HW1.out.trans (hb.mono HW1.out.size) |>.mono HB0.out.size)); have HSM := Lib.hid hsm; clear a0 a1 a2 a3 a4 a5 a6 a7 a8 a9 a10 a11 b0 b1 b2 b3 hb hsm)
          all_goals (go_meet; case rel => first | exact ⟨true, rfl, HW2, Lib.hid (fun h => by cases h)⟩ | exact ⟨false, rfl, HW2, Lib.hid (fun _ => by obtain ⟨q1, q2, q3⟩ := HSM.out (by first | rfl | assumption | simp_all); exact ⟨q1, q2, q3, by omega, fun _ => ⟨x, rfl, .inr HXE.out⟩⟩)⟩)
        · have q2i : ((xn : Int) == 126) = false := by rw [beq_eq_false_iff_ne]; omega
          have q2j : ((xn : Int) != 126) = true := by rw [bne, q2i]; rfl
          have q2k : ¬ ((xn : Int) = 126) := by omega
          clear q2
          go_wp2_with (go_at_call 6; refine (HG.out _ HB1.out).mono ?_; rintro e w2 ⟨g, rfl, hb, hsm⟩; obtain ⟨_, ⟨y0, y1⟩, ⟨y2, y3⟩⟩ := HAL.out _ (HW1.out.trans (hb.mono HW1.out.size)); have HW2 := Lib.hid (HW1.out.trans (hb.mono HW1.out.size)); have rsc := HRS.out _ (HB0.out.trans (HW1.out.trans (hb.mono HW1.out.size) |>.mono HB0.out.size)); have HSM := Lib.hid hsm; clear a0 a1 a2 a3 a4 a5 a6 a7 a8 a9 a10 a11 b0 b1 b2 b3 hb hsm)
          all_goals (go_meet; case rel => exact ⟨true, rfl, HW2, Lib.hid (fun h => by cases h)⟩)
  case rest =>
  obtain ⟨b, rfl, HW2, HSM⟩ := hcut
  clear a0 a1 a2 a3 a4 a5 a6 a7 a8 a9 a10 a11 b0 b1 b2 b3 HG
  have HB2 := Lib.hid (HB0.out.trans (HW2.out.mono HB0.out.size))
  cases b with
  | true =>
    go_wp2_with fail
    go_ret
    exact ⟨rfl, HB2.out⟩
  | false =>
  have HF := Lib.hid (HSM.out rfl).1
  have hmany := (HSM.out rfl).2.1
  have hsum := (HSM.out rfl).2.2.1
  have hn2 := (HSM.out rfl).2.2.2.1
  have HRX := Lib.hid (HSM.out rfl).2.2.2.2
  have HOF := Lib.hid (HOF.out HF.out)
  have HCK := Lib.hid (HCK.out HF.out hsum)
  have hn4b : n4 ≤ 3000 := by have := many_len' xs; have := HN4.out; omega
  have HTT : Hid (tot xs ≤ 15000) := Lib.hid (by have := tot_many xs; omega)
  clear HSM HF hmany hsum HLC HLC0
  obtain ⟨⟨a0, a1, a2, a3, a4, a5, a6, a7, a8, a9, a10, a11⟩, ⟨b0, b1⟩, ⟨b2, b3⟩⟩ := HAL.out _ HW2.out
  go_upto_region 6 with (go_at_call 7; refine (HOF.out _ HB2.out).mono ?_; rintro e wP ⟨P, rfl, hs, hb⟩; have HS := Lib.hid hs; have HBP := Lib.hid (HB2.out.trans (hb.mono HB2.out.size)); have HWP := Lib.hid (HW2.out.trans (hb.mono HW2.out.size)); clear hs hb)
  clear a0 a1 a2 a3 a4 a5 a6 a7 a8 a9 a10 a11 b0 b1 b2 b3
  have HAL := Lib.hid (fun W (hW : Below wP.heap.size wP W) => (HAL.out W (HWP.out.trans (hW.mono HWP.out.size))).2)
  have HOL := Lib.hid (fun W (hW : Below wP.heap.size wP W) => HBP.out.trans (hW.mono HBP.out.size))
  have HCK := Lib.hid (fun W ys v (hW : Below wP.heap.size wP W) (hv : SliceV W (· < W.heap.size) ys v) q1 q2 => HCK.out W P ys v (HOL.out W hW) (HS.out.grow hW) hv q1 q2)
  obtain ⟨ra, rb, hr⟩ := chkE_form (Bo.chk (envOf m ps rs ls) (Bo.locB ls) xs)
  have HR := Lib.hid hr
  clear hr
  have HC1 := HCK.out wP xs (.slice A4 n4 c4) (Below.refl _ _) (HLX.out _ HBP.out) (by have := HN4.out; omega) (by have := HTT.out; omega)
  rw [HR.out] at HC1
  have HC1 := Lib.hid HC1
  obtain ⟨⟨b0, b1⟩, ⟨b2, b3⟩⟩ := HAL.out _ (Below.refl _ _)
  go_upto_region 7 with (go_at_call 8; refine HC1.out.mono ?_; rintro e w3 ⟨rfl, hb⟩; have HP3 := Lib.hid hb; clear hb)
  clear b0 b1 b2 b3 HC1
  obtain ⟨tt, htt⟩ : ∃ tt : Nat, tt < 4294967296 ∧ Ins.blockB tt = true ∧ Bo.ends tt = rs ∧ (n2 = 0 → tt = 64) ∧ (n2 = 1 → ∃ g2 o2, A2 = some ⟨g2, o2, none⟩ ∧ ∀ W, Below w.heap.size w W → W.cell? ⟨g2, o2, none⟩ = some (.int .u8 (tt : Int))) := by
    rcases (by omega : n2 = 0 ∨ n2 = 1) with h | h
    · refine ⟨64, by decide, rfl, ?_, fun _ => rfl, fun e => by omega⟩
      have := HRL.out
      rw [h] at this
      rw [List.eq_nil_of_length_eq_zero this]
      rfl
    · obtain ⟨x, hx, hx2⟩ := HRX.out h
      subst hx
      obtain ⟨g2, o2, e2, hg2, hcx⟩ := by_at HL2.out (show ([x] : List UInt8)[0]? = some x from rfl)
      simp only [Nat.add_zero] at hcx
      refine ⟨x.toNat, by have := x.toNat_lt; omega, ?_, ?_, fun e => by omega, fun _ => ⟨g2, o2, e2, fun W hb => (hb.cell (p := ⟨g2, o2, none⟩) hg2).trans hcx⟩⟩
      · rcases hx2 with rfl | rfl <;> rfl
      · rcases hx2 with rfl | rfl <;> rfl
  have HTK := Lib.hid htt
  have htl := htt.1
  clear htt
  obtain ⟨⟨b0, b1⟩, ⟨b2, b3⟩⟩ := HAL.out _ HP3.out
  go_upto_if 64 with fail
  go_cut [10] from 65 to 69 (fun t wx => t = .int .u32 (tt : Int) ∧ wx = w3)
  case first =>
    as_aux_lemma =>
      rcases (by omega : n2 = 0 ∨ n2 = 1) with h | h
      · subst h
        have H64 := Lib.hid (HTK.out.2.2.2.1 rfl)
        go_wp2_with fail
        go_meet
        case rel => exact ⟨by rw [H64.out]; rfl, rfl⟩
      · subst h
        obtain ⟨g2, o2, rfl, hg2⟩ := HTK.out.2.2.2.2 rfl
        have k2 := hg2 _ (HOL.out _ HP3.out)
        have htb : tt < 256 := by
          obtain ⟨x, hx, hx2⟩ := HRX.out rfl
          have h1 := HTK.out.2.1
          unfold Ins.blockB at h1
          simp at h1
          omega
        go_wp2_with fail
        go_meet
        case rel => exact ⟨rfl, rfl⟩
  case rest =>
  obtain ⟨rfl, hwe⟩ := hcut
  subst hwe
  clear b0 b1 b2 b3 HRX HL2
  obtain ⟨⟨b0, b1⟩, ⟨b2, b3⟩⟩ := HAL.out _ HP3.out
  go_upto_region 11 with fail
  clear b0 b1 b2 b3
  have HZ0 := Lib.hid (heap_alloc_new wc (.cells #[.slice A3 n3 c3, .slice A4 n4 c4] 40))
  have HPZ : Hid (Below wP.heap.size wP (wc.alloc (.cells #[.slice A3 n3 c3, .slice A4 n4 c4] 40))) := Lib.hid (HP3.out.alloc HP3.out.size _)
  have HZL : Hid (wP.heap.size ≤ wc.heap.size) := Lib.hid HP3.out.size
  generalize wc.alloc (.cells #[.slice A3 n3 c3, .slice A4 n4 c4] 40) = wz at HZ0 HPZ ⊢
  obtain ⟨Z, hZ⟩ : ∃ Z, wc.heap.size = Z := ⟨_, rfl⟩
  rw [hZ] at HZ0 HZL
  simp only [hZ]
  clear hZ HP3
  have HWW : Hid (w.heap.size ≤ wz.heap.size ∧ Z < wz.heap.size ∧ w.heap.size ≤ Z) := Lib.hid ⟨(HOL.out _ HPZ.out).size, (Array.getElem?_eq_some_iff.1 HZ0.out).1, Nat.le_trans HBP.out.size HZL.out⟩
  have hbE : Below wz.heap.size wz (wz.alloc (.cells (insCells (Bo.blk tt) none 0).toArray 49)) := (Below.refl _ _).alloc (Nat.le_refl _) _
  have hszE : (wz.alloc (.cells (insCells (Bo.blk tt) none 0).toArray 49)).heap.size = wz.heap.size + 1 := by simp
  have hPE := HPZ.out.trans (hbE.mono HPZ.out.size)
  obtain ⟨B5, d5, w5, hr5, hm5, hb5⟩ := (Made.lit1 wz wz.heap.size w.heap.size (Nat.le_refl _) HWW.out.1 (Bo.blk tt) (blk_ok htl)).app (by rw [hszE]; omega) (by rw [hszE]; have := HWW.out.1; omega) A4 c4 (HL4.out.old (HOL.out _ hPE) rfl) (n := n4) HN4.out.symm (by simp; omega)
  simp only [List.length_cons, List.length_nil, Nat.zero_add] at hr5 hm5
  have hbw5 := hbE.trans hb5
  have hP5 := HPZ.out.trans (hbw5.mono HPZ.out.size)
  have hba : Below w5.heap.size w5 (w5.alloc (.cells (insCells Bo.endI none 0).toArray 49)) := (Below.refl _ _).alloc (Nat.le_refl _) _
  have hlt5 : ∀ j, (Value.slice B5 (1 + n4) d5).ownBlock = some j → j < w5.heap.size := by
    obtain ⟨S, q1, _⟩ := hm5
    exact fun j hj => (q1.lt j hj).2
  obtain ⟨B6, d6, w6, hr6, hm6, hb6⟩ := (hm5.on hba).app1 (Nat.le_trans hbw5.size hba.size) (Nat.le_trans (Nat.le_trans HWW.out.1 hbw5.size) hba.size) Bo.endI endI_ok w5.heap.size (heap_alloc_new w5 _) hbw5.size (fun e => by have := hlt5 _ e; omega) (by simp [HN4.out]; omega)
  rw [show ([Bo.blk tt] ++ xs).length = 1 + n4 by simp [HN4.out]; omega] at hr6 hm6
  have hbw6 := (hbw5.trans (hba.mono hbw5.size)).trans hb6
  have hP6 := HPZ.out.trans (hbw6.mono HPZ.out.size)
  have hY6 := (hbw6.block Z HWW.out.2.1).trans HZ0.out
  have k1 : (wz.alloc (.cells #[.int .u8 2, .int .u32 (tt : Int), .int .u32 0, .int .i64 0, .slice none 0 0] 49)).cell? ⟨X2, 1, none⟩ = some (.slice A4 n4 c4) := (HAL.out _ hPE).2.2
  have k2 : w6.cell? ⟨Z, 1, none⟩ = some (.slice A4 n4 c4) := (two_cells hY6).2
  have k3 : w6.frozen? ⟨Z, 1, none⟩ = false := frozen_of_row w6 Z 1 _ _ hY6
  have HR5 : Hid ((Builtin.append_ #[38, 38] 38 #[.slice (some ⟨wz.heap.size, 0, none⟩) 1 1, .slice A4 n4 c4]).run Try.prog (wz.alloc (.cells #[.int .u8 2, .int .u32 (tt : Int), .int .u32 0, .int .i64 0, .slice none 0 0] 49)) = .ok (.slice B5 (1 + n4) d5) w5) := Lib.hid hr5
  have HR6 : Hid ((Builtin.append_ #[38, 38] 38 #[.slice B5 (1 + n4) d5, .slice (some ⟨w5.heap.size, 0, none⟩) 1 1]).run Try.prog (w5.alloc (.cells #[.int .u8 11, .int .u32 0, .int .u32 0, .int .i64 0, .slice none 0 0] 49)) = .ok (.slice B6 (1 + n4 + 1) d6) w6) := Lib.hid hr6
  have hM7 : Mod (· = Z) w6 (w6.setCell ⟨Z, 1, none⟩ (.slice B6 (1 + n4 + 1) d6)) := Mod.setCell (T := (· = Z)) (Mod.refl _ w6) (fun _ => rfl) _
  have HM7 := Lib.hid (hm6.store hM7 HWW.out.2.2 HWW.out.2.1)
  have HP7 : Hid (Below wP.heap.size wP (w6.setCell ⟨Z, 1, none⟩ (.slice B6 (1 + n4 + 1) d6))) := Lib.hid (hP6.trans (hM7.below hP6.size (fun j hj e => by have := HZL.out; omega)))
  have HY7 : Hid ((w6.setCell ⟨Z, 1, none⟩ (.slice B6 (1 + n4 + 1) d6)).heap[Z]? = some (.cells #[.slice A3 n3 c3, .slice B6 (1 + n4 + 1) d6] 40 (0, 0))) := Lib.hid (by rw [heap_setCell_same w6 Z 1 _ _ _ hY6]; rfl)
  clear hbE hszE hPE hr5 hm5 hb5 hbw5 hP5 hba hlt5 hr6 hm6 hb6 hbw6 hP6 hY6 hM7
  go_upto_region 12 with (first | (at_builtin; refine wpList_appends rfl (.tmp 73) (.tmp 75) 38 rfl _ _ _ w5 rfl rfl HR5.out ?_) | (at_builtin; refine wpList_appends rfl (.tmp 76) (.tmp 78) 38 rfl _ _ _ w6 rfl rfl HR6.out ?_))
  clear k1 k2 k3 HR5 HR6
  generalize w6.setCell ⟨Z, 1, none⟩ (.slice B6 (1 + n4 + 1) d6) = w7 at HM7 HP7 HY7 ⊢
  have HBLK : Hid ([Bo.blk tt] ++ xs ++ [Bo.endI] = Bo.blk tt :: (xs ++ [Bo.endI])) := Lib.hid (by simp)
  obtain ⟨ka, kb, hk⟩ := chkE_form (Bo.chk (envOf m ps rs ls) (Bo.locB ls) (Bo.blk tt :: (xs ++ [Bo.endI])))
  have hc2 := HCK.out _ _ _ HP7.out HM7.out.slice (by simp [HN4.out]; omega) (by rw [tot_append, tot_append]; have h3 : tot [Bo.blk tt] = 5 := rfl; have h4 : tot [Bo.endI] = 5 := rfl; have := HTT.out; omega)
  rw [HBLK.out, hk] at hc2
  have HC2 := Lib.hid hc2
  have HKK : Hid (∀ h, Bo.chk (envOf m ps rs ls) (Bo.locB ls) xs = .ok h → ka = ((max h n2 : Nat) : Int) ∧ kb = 0) := Lib.hid (fun h hh => by
    have h1 := Bo.chk_block hh HTK.out.2.1 (HTK.out.2.2.1.trans rfl)
    rw [h1] at hk
    obtain ⟨q1, q2⟩ := chkE_ok hk
    refine ⟨?_, q2⟩
    rw [q1]
    have e : (envOf m ps rs ls).res.length = n2 := HRL.out
    rw [e])
  clear hc2 hk HBLK
  obtain ⟨⟨b0, b1⟩, ⟨b2, b3⟩⟩ := HAL.out _ HP7.out
  obtain ⟨z0, z1⟩ := two_cells HY7.out
  go_upto_region 13 with (go_at_call 8; refine HC2.out.mono ?_; rintro e w9 ⟨rfl, hb⟩; have HP9 := Lib.hid (HP7.out.trans (hb.mono HP7.out.size)); clear hb)
  clear b0 b1 b2 b3 z0 z1 HC2
  obtain ⟨⟨b0, b1⟩, ⟨b2, b3⟩⟩ := HAL.out _ HP9.out
  go_cut [102] from 88 to 102 (fun t wx => t = .bool false ∧ wx = w9)
  case first =>
    as_aux_lemma =>
      cases hres : Bo.chk (envOf m ps rs ls) (Bo.locB ls) xs with
      | error nn =>
        have hne := Bo.chk_err hres
        have hr := HR.out
        rw [hres] at hr
        obtain ⟨rfl, rfl⟩ := chkE_err hr
        have hni : ((nn : Int) == 0) = false := by rw [beq_eq_false_iff_ne]; omega
        have hnk : ¬ ((nn : Int) = 0) := by omega
        clear hres hr hne HR HKK
        go_wp2_with fail
        go_meet
        case rel => exact ⟨rfl, rfl⟩
      | ok hh =>
        have hr := HR.out
        rw [hres] at hr
        obtain ⟨rfl, rfl⟩ := chkE_ok hr
        obtain ⟨hka, rfl⟩ := HKK.out hh hres
        clear hres hr HR HKK
        by_cases hmx : hh < n2
        · have hmi : (hh : Int) < (n2 : Int) := by omega
          have e : ((max hh n2 : Nat) : Int) = (n2 : Int) := by omega
          rw [e] at hka
          subst hka
          clear e hmx
          go_wp2_with fail
          go_meet
          case rel => exact ⟨by rw [show max (hh : Int) (n2 : Int) = (n2 : Int) by omega]; simp, rfl⟩
        · have hmi : decide ((hh : Int) < (n2 : Int)) = false := decide_eq_false (by omega)
          have hmj : (n2 : Int) ≤ (hh : Int) := by omega
          have e : ((max hh n2 : Nat) : Int) = (hh : Int) := by omega
          rw [e] at hka
          subst hka
          clear e hmx
          go_wp2_with fail
          go_meet
          case rel => exact ⟨by rw [show max (hh : Int) (n2 : Int) = (hh : Int) by omega]; simp, rfl⟩
  case rest =>
  obtain ⟨rfl, hwe⟩ := hcut
  subst hwe
  clear b0 b1 b2 b3 HKK HTK
  obtain ⟨⟨b0, b1⟩, ⟨b2, b3⟩⟩ := HAL.out _ HP9.out
  go_upto_region 16 with fail
  clear b0 b1 b2 b3
  have HYA := Lib.hid (heap_alloc_new wc (.cells #[.slice A3 n3 c3, .slice A4 n4 c4] 40))
  have HPY : Hid (Below wP.heap.size wP (wc.alloc (.cells #[.slice A3 n3 c3, .slice A4 n4 c4] 40))) := Lib.hid (HP9.out.alloc HP9.out.size _)
  have HYL : Hid (wP.heap.size ≤ wc.heap.size) := Lib.hid HP9.out.size
  generalize wc.alloc (.cells #[.slice A3 n3 c3, .slice A4 n4 c4] 40) = wy at HYA HPY ⊢
  obtain ⟨Y, hY⟩ : ∃ Y, wc.heap.size = Y := ⟨_, rfl⟩
  rw [hY] at HYA HYL
  simp only [hY]
  clear hY HP9
  have HWY : Hid (w.heap.size ≤ wy.heap.size ∧ Y < wy.heap.size ∧ w.heap.size ≤ Y) := Lib.hid ⟨(HOL.out _ HPY.out).size, (Array.getElem?_eq_some_iff.1 HYA.out).1, Nat.le_trans HBP.out.size HYL.out⟩
  have hbE : Below wy.heap.size wy (wy.alloc (.cells #[] 49)) := (Below.refl _ _).alloc (Nat.le_refl _) _
  have hszE : (wy.alloc (.cells #[] 49)).heap.size = wy.heap.size + 1 := by simp
  have hPE := HPY.out.trans (hbE.mono HPY.out.size)
  obtain ⟨E5, f5, x5, hr5, hM5, hmod5, hT5⟩ := (Mine.lit0 wy w.heap.size HWY.out.1).app A4 n4 c4 (HL4.out.old (HOL.out _ hPE) rfl) HN4.out.symm (by simp; omega) (by rw [hszE]; have := HWY.out.1; omega)
  simp only [List.length_nil, Nat.zero_add, List.nil_append] at hr5 hM5 hT5
  have hown5 : ∀ k, (Value.slice E5 n4 f5).ownBlock = some k → wy.heap.size ≤ k := fun k hk => by
    rcases hT5 k hk with h | h
    · simp [Value.ownBlock] at h; omega
    · rw [hszE] at h; omega
  have hb5 : Below wy.heap.size wy x5 := hbE.trans (hmod5.below (by rw [hszE]; omega) (fun k hk e => by simp [Value.ownBlock] at e; omega))
  have hP5 := HPY.out.trans (hb5.mono HPY.out.size)
  have hY5 := (hb5.block Y HWY.out.2.1).trans HYA.out
  have hra5 := rowA_of hM5 hown5
  obtain ⟨_, _, e5, hcap5, hcm5, hnil5, _⟩ := hM5.slice
  injection e5 with e5a e5b e5c
  subst e5a e5c
  rw [HN4.out] at hcap5
  have HCAP := Lib.hid (And.intro hcap5 (And.intro hcm5 hnil5))
  have k1 : (wy.alloc (.cells #[] 49)).cell? ⟨X2, 1, none⟩ = some (.slice A4 n4 c4) := (HAL.out _ hPE).2.2
  have k2 : x5.cell? ⟨Y, 1, none⟩ = some (.slice A4 n4 c4) := (two_cells hY5).2
  have k3 : x5.frozen? ⟨Y, 1, none⟩ = false := frozen_of_row x5 Y 1 _ _ hY5
  have HR5 := Lib.hid hr5
  have hM6 : Mod (· = Y) x5 (x5.setCell ⟨Y, 1, none⟩ (.slice E5 n4 f5)) := Mod.setCell (T := (· = Y)) (Mod.refl _ x5) (fun _ => rfl) _
  have HRA := Lib.hid (hra5.store hM6 HWY.out.2.2 HWY.out.2.1)
  have HPL : Hid (Below wP.heap.size wP (x5.setCell ⟨Y, 1, none⟩ (.slice E5 n4 f5))) := Lib.hid (hP5.trans (hM6.below hP5.size (fun j hj e => by have := HYL.out; omega)))
  have HYC : Hid ((x5.setCell ⟨Y, 1, none⟩ (.slice E5 n4 f5)).heap[Y]? = some (.cells #[.slice A3 n3 c3, .slice E5 n4 f5] 40 (0, 0))) := Lib.hid (by rw [heap_setCell_same x5 Y 1 _ _ _ hY5]; rfl)
  clear hbE hszE hPE hr5 hM5 hmod5 hT5 hown5 hb5 hP5 hY5 hra5 hcap5 hcm5 hnil5 e5b hM6
  go_upto_region 17 with (at_builtin; refine wpList_appends rfl (.tmp 104) (.tmp 106) 38 rfl _ _ _ x5 rfl rfl HR5.out ?_)
  clear k1 k2 k3 HR5
  generalize x5.setCell ⟨Y, 1, none⟩ (.slice E5 n4 f5) = x6 at HRA HPL HYC ⊢
  have HNP : Hid (wP.heap.size ≤ wy.heap.size) := Lib.hid HPY.out.size
  obtain ⟨z0, z1⟩ := two_cells HYC.out
  go_wp2_with fail
  clear z0 z1
  go_loopw [15, 112] (fun dv iv wr => ∃ (j d : Nat) (ys : List I), j ≤ n4 ∧ iv = .int .i64 (j : Int) ∧ dv = .int .u32 (d : Int) ∧ d < 4294967296 ∧ Hid (RowA wy.heap.size w.heap.size wr E5 ys) ∧ Hid (ys.length = xs.length ∧ ys.drop j = xs.drop j ∧ Bo.rets 0 xs = ys.take j ++ Bo.rets d (xs.drop j)) ∧ Hid (Below wP.heap.size wP wr) ∧ Hid (wr.heap[Y]? = some (.cells #[.slice A3 n3 c3, .slice E5 n4 f5] 40 (0, 0)))) (fun _ iv _ => n4 - (intOf iv).toNat)
  case atStart => exact ⟨0, 0, xs, by omega, rfl, rfl, by omega, HRA, Lib.hid ⟨rfl, rfl, by simp⟩, HPL, HYC⟩
  case round =>
    obtain ⟨j, d, ys, hj, rfl, rfl, hd, HRW, HLS, HPW, HYW⟩ := hrel
    by_cases hjn : j < n4
    · obtain ⟨x, hx⟩ : ∃ x, xs[j]? = some x := ⟨_, List.getElem?_eq_getElem (by have := HN4.out; omega)⟩
      obtain ⟨g, A', c', rfl, hNg, hBg, hgs, hwf, _, _, _, hra, hth⟩ := HRW.out j x (Bo.drop_get HLS.out.2.1 hx)
      have hji : (j : Int) < (n4 : Int) := by omega
      have HKP := Lib.hid (Bo.loop_keep hx HLS.out)
      have HST := Lib.hid (Bo.loop_set hx HLS.out)
      have HJL : Hid (j < ys.length) := Lib.hid (by rw [HLS.out.1, HN4.out]; exact hjn)
      obtain ⟨op, xa, xb, xc, xl⟩ := x
      obtain ⟨hw1, hw2, _⟩ := hwf
      dsimp only at hw1 hw2 HKP HST
      have k0 : World.cell? _ ⟨g, j * 5, none⟩ = some (.int .u8 (op : Int)) := hra 0 _ rfl
      have k1 : World.cell? _ ⟨g, j * 5 + 1, none⟩ = some (.int .u32 (xa : Int)) := hra 1 _ rfl
      have k2 : World.cell? _ ⟨g, j * 5 + 2, none⟩ = some (.int .u32 (xb : Int)) := hra 2 _ rfl
      have k3 : World.cell? _ ⟨g, j * 5 + 3, none⟩ = some (.int .i64 xc) := hra 3 _ rfl
      have k4 : World.cell? _ ⟨g, j * 5 + 4, none⟩ = some (.slice A' xl.length c') := hra 4 _ rfl
      generalize xl.length = xll at k4
      have HTH := Lib.hid hth
      have HGN : Hid (wy.heap.size ≤ g ∧ w.heap.size ≤ g) := Lib.hid ⟨hNg, hBg⟩
      clear hx hra hth hNg hBg hgs
      go_upto_region 21 with fail
      clear k0 k1 k2 k3 k4
      have HXC := Lib.hid (cells5 (heap_alloc_new wr (.cells #[.int .u8 (op : Int), .int .u32 (xa : Int), .int .u32 (xb : Int), .int .i64 xc, .slice A' xll c'] 49)))
      have HXB : Hid (Below wr.heap.size wr (wr.alloc (.cells #[.int .u8 (op : Int), .int .u32 (xa : Int), .int .u32 (xb : Int), .int .i64 xc, .slice A' xll c'] 49))) := Lib.hid ((Below.refl _ _).alloc (Nat.le_refl _) _)
      have HRX := Lib.hid (HRW.out.on HXB.out)
      have HPX := Lib.hid (HPW.out.trans (HXB.out.mono HPW.out.size))
      have HYX := Lib.hid ((HXB.out.block Y (Array.getElem?_eq_some_iff.1 HYW.out).1).trans HYW.out)
      have HTX : Hid ((wr.alloc (.cells #[.int .u8 (op : Int), .int .u32 (xa : Int), .int .u32 (xb : Int), .int .i64 xc, .slice A' xll c'] 49)).there g (j * 5) 5) := Lib.hid (World.there_alloc HTH.out _)
      generalize wr.alloc (.cells #[.int .u8 (op : Int), .int .u32 (xa : Int), .int .u32 (xb : Int), .int .i64 xc, .slice A' xll c'] 49) = wx at HXC HXB HRX HPX HYX HTX ⊢
      obtain ⟨X, hX⟩ : ∃ X, wr.heap.size = X := ⟨_, rfl⟩
      simp only [hX] at HXC ⊢
      clear hX HTH
      obtain ⟨z0, z1, z2, z3, z4⟩ := HXC.out
      clear HXC HXB
      by_cases hop : op = 2 ∨ op = 3 ∨ op = 4
      · have HKE : Hid (ys.length = xs.length ∧ ys.drop (j + 1) = xs.drop (j + 1) ∧ Bo.rets 0 xs = ys.take (j + 1) ++ Bo.rets ((d + 1) % 4294967296) (xs.drop (j + 1))) := Lib.hid (by
          have h := HKP.out (by omega)
          rw [show Bo.deepN d op = (d + 1) % 4294967296 by unfold Bo.deepN; rw [if_pos hop]] at h
          exact h)
        rcases hop with rfl | rfl | rfl
        all_goals
          as_aux_lemma =>
            go_wp2_with fail
            go_roundw
            case rel => exact ⟨j + 1, (d + 1) % 4294967296, ys, by omega, by go_num, congrArg (Value.int .u32) (by omega), by omega, HRX, HKE, HPX, HYX⟩
            case measure => simp [intOf]; omega
      have n2' : ¬ ((op : Int) = 2) := by omega
      have n3' : ¬ ((op : Int) = 3) := by omega
      have n4' : ¬ ((op : Int) = 4) := by omega
      have m2' : ((op : Int) == 2) = false := by rw [beq_eq_false_iff_ne]; exact n2'
      have m3' : ((op : Int) == 3) = false := by rw [beq_eq_false_iff_ne]; exact n3'
      have m4' : ((op : Int) == 4) = false := by rw [beq_eq_false_iff_ne]; exact n4'
      by_cases hop2 : op = 11
      · subst hop2
        have HKE : Hid (ys.length = xs.length ∧ ys.drop (j + 1) = xs.drop (j + 1) ∧ Bo.rets 0 xs = ys.take (j + 1) ++ Bo.rets ((d + 4294967295) % 4294967296) (xs.drop (j + 1))) := Lib.hid (by
          have h := HKP.out (by omega)
          rw [show Bo.deepN d 11 = (d + 4294967295) % 4294967296 by unfold Bo.deepN; rw [if_neg (by decide), if_pos rfl]] at h
          exact h)
        as_aux_lemma =>
          clear n2' n3' n4' m2' m3' m4' hop
          go_wp2_with fail
          go_roundw
          case rel => exact ⟨j + 1, (d + 4294967295) % 4294967296, ys, by omega, by go_num, congrArg (Value.int .u32) (by omega), by omega, HRX, HKE, HPX, HYX⟩
          case measure => simp [intOf]; omega
      have n11 : ¬ ((op : Int) = 11) := by omega
      have m11 : ((op : Int) == 11) = false := by rw [beq_eq_false_iff_ne]; exact n11
      have hdeep : Bo.deepN d op = d := by unfold Bo.deepN; rw [if_neg hop, if_neg hop2]
      by_cases hop3 : op = 12
      · subst hop3
        clear n2' n3' n4' m2' m3' m4' hop hop2 n11 m11
        by_cases had : xa = d
        · subst had
          as_aux_lemma =>
            have HKE := Lib.hid (HST.out ⟨rfl, rfl⟩)
            have hrz := HRX.out.set (j := j) HGN.out.2 HJL.out ret_ok
            have hbz := below_setCells10 HGN.out.1 (insCells Bo.ret none 0) (j * 5) wx
            rw [ret_cells] at hrz hbz
            have hpz := HPX.out.trans (hbz.mono HNP.out)
            have hyz := (hbz.block Y HWY.out.2.1).trans HYX.out
            obtain ⟨wv, hwv⟩ : ∃ wv, wx.setCells g (j * 5) [.int .u8 15, .int .u32 0, .int .u32 0, .int .i64 0, .slice none 0 0] = wv := ⟨_, rfl⟩
            rw [hwv] at hrz hpz hyz
            have HRZ := Lib.hid hrz
            have HPZ2 := Lib.hid hpz
            have HYZ2 := Lib.hid hyz
            obtain ⟨y0, y1⟩ := two_cells HYX.out
            clear hbz hrz hpz hyz hdeep
            go_wp2_with (refine wpList_store_mid rfl 49 (.tmp 139) (.tmp 138) rfl g (j * 5) #[.int .u8 15, .int .u32 0, .int .u32 0, .int .i64 0, .slice none 0 0] rfl rfl HTX.out siz_sins ret_one ?_; rw [show World.setCells wx g (j * 5) (Array.toList #[.int .u8 15, .int .u32 0, .int .u32 0, .int .i64 0, .slice none 0 0]) = wv from hwv]; clear hwv)
            go_roundw
            case rel => exact ⟨j + 1, xa, ys.set j Bo.ret, by omega, by go_num, rfl, by omega, HRZ, HKE, HPZ2, HYZ2⟩
            case measure => simp [intOf]; omega
        · have HKE : Hid (ys.length = xs.length ∧ ys.drop (j + 1) = xs.drop (j + 1) ∧ Bo.rets 0 xs = ys.take (j + 1) ++ Bo.rets d (xs.drop (j + 1))) := Lib.hid (HKP.out (by omega))
          as_aux_lemma =>
            have hadi : ¬ ((xa : Int) = (d : Int)) := by omega
            have hadj : ((xa : Int) == (d : Int)) = false := by rw [beq_eq_false_iff_ne]; exact hadi
            clear hdeep
            go_wp2_with fail
            go_roundw
            case rel => exact ⟨j + 1, d, ys, by omega, by go_num, rfl, by omega, HRX, HKE, HPX, HYX⟩
            case measure => simp [intOf]; omega
      · have HKE : Hid (ys.length = xs.length ∧ ys.drop (j + 1) = xs.drop (j + 1) ∧ Bo.rets 0 xs = ys.take (j + 1) ++ Bo.rets d (xs.drop (j + 1))) := Lib.hid (by
          have h := HKP.out (by omega)
          rw [hdeep] at h
          exact h)
        as_aux_lemma =>
          have n12 : ¬ ((op : Int) = 12) := by omega
          have m12 : ((op : Int) == 12) = false := by rw [beq_eq_false_iff_ne]; exact n12
          clear hdeep hop hop2 hop3
          go_wp2_with fail
          go_roundw
          case rel => exact ⟨j + 1, d, ys, by omega, by go_num, rfl, by omega, HRX, HKE, HPX, HYX⟩
          case measure => simp [intOf]; omega
    · as_aux_lemma =>
        obtain rfl : j = n4 := by omega
        have hji : decide ((j : Int) < (j : Int)) = false := decide_eq_false (by omega)
        have hjn2 : decide (j < j) = false := decide_eq_false hjn
        have HYE : Hid (Bo.rets 0 xs = ys) := Lib.hid (Bo.loop_end HN4.out HLS.out)
        have hsl := HRW.out.slice (n := j) (c := f5) (by rw [HLS.out.1, HN4.out]) HCAP.out.1 HCAP.out.2.1 HCAP.out.2.2
        have htl := tot_rets xs 0
        rw [HYE.out] at htl
        have hc5 := HCK.out _ ys (.slice E5 j f5) HPW.out hsl (by rw [HLS.out.1, HN4.out]; omega) (by have := HTT.out; omega)
        obtain ⟨⟨b0, b1⟩, ⟨b2, b3⟩⟩ := HAL.out _ HPW.out
        obtain ⟨z0, z1⟩ := two_cells HYW.out
        clear hjn hsl htl
        cases hex : Ins.exprB xs with
        | false =>
          have hres : Bo.chk (envOf m ps rs ls) (Bo.locB ls) xs = .error 2 := by unfold Bo.chk; rw [hex]; rfl
          have hr := HR.out
          rw [hres] at hr
          obtain ⟨rfl, rfl⟩ := chkE_err hr
          obtain ⟨qa, qb, hq⟩ := chkE_form (Bo.chk (envOf m ps rs ls) (Bo.locB ls) ys)
          rw [hq] at hc5
          have HC5 := Lib.hid hc5
          clear hex hres hr hq hc5 HR
          go_wp2_with (go_at_call 8; refine HC5.out.mono ?_; rintro e w11 ⟨rfl, hb⟩; have HPE := Lib.hid (HPW.out.trans (hb.mono HPW.out.size)); clear hb)
          go_ret
          exact ⟨rfl, HOL.out _ HPE.out⟩
        | true =>
          have hre := Bo.chk_rets (E := envOf m ps rs ls) (lb := Bo.locB ls) hex (by rw [HN4.out]; omega)
          rw [HYE.out] at hre
          rw [hre, HR.out] at hc5
          have HC5 := Lib.hid hc5
          clear hex hre hc5
          by_cases hb2 : rb = 2
          · subst hb2
            go_wp2_with (go_at_call 8; refine HC5.out.mono ?_; rintro e w11 ⟨rfl, hb⟩; have HPE := Lib.hid (HPW.out.trans (hb.mono HPW.out.size)); clear hb)
            go_ret
            exact ⟨rfl, HOL.out _ HPE.out⟩
          · have hb2i : (rb == 2) = false := by rw [beq_eq_false_iff_ne]; exact hb2
            go_wp2_with (go_at_call 8; refine HC5.out.mono ?_; rintro e w11 ⟨rfl, hb⟩; have HPE := Lib.hid (HPW.out.trans (hb.mono HPW.out.size)); clear hb)
            go_ret
            exact ⟨rfl, HOL.out _ HPE.out⟩
end Go.Proofs.Ytakbehoglgebmaa
