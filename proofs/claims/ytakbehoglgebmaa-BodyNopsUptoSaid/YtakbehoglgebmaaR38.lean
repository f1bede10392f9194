/-
  The walk over BodyNops. (gen/body/law1.py)
-/
import Derived.Test.YtakbehoglgebmaaR37
namespace Bo
theorem run_err {E : Env} : ∀ (xs : List Ins.I) (o o' : List Bool) (s : Ty.T) (m : Nat), Ins.steps o xs = some o' → run E o xs s = .error m → eNum m
  | [], _, _, _, _, _, h => by rw [run] at h; cases h
  | x :: xs, o, o', s, m, hs, h => by
    rw [run] at h
    rw [Ins.steps] at hs
    split at h
    · next e he =>
      injection h with h
      subst h
      exact e_one he
    · next s1 h1 =>
      split at h
      · next hn => rw [hn] at hs; cases hs
      · next o1 ho =>
        rw [ho] at hs
        exact run_err xs o1 o' s1 m hs h
theorem chk_err {E : Env} {lb : Bool} {xs : List Ins.I} {m : Nat} (h : chk E lb xs = .error m) : m ≠ 0 := by
  unfold chk at h
  split at h
  · next hx =>
    split at h
    · split at h
      · next e he =>
        injection h with h
        subst h
        rcases run_err xs [] _ _ _ (exprB_parts hx).2 he with e | e | e <;> omega
      · split at h
        · cases h
        · injection h with h; omega
    · injection h with h; omega
  · injection h with h; omega
end Bo
namespace Go.Proofs.Ytakbehoglgebmaa
open Go.RowKit Ins Bin Sp
theorem rep_funs {w : World} {S : Nat → Prop} {m : M} {v1 v2 v3 v4 v5 v6 v7 v8 v9 v10 : Value} (hM : RepM w S m v1 v2 v3 v4 v5 v6 v7 v8 v9 v10) : ∀ t ∈ funs m, t < 4294967296 := fun t ht => by
  unfold funs at ht
  rcases List.mem_append.1 ht with h | h
  · obtain ⟨x, hx, rfl⟩ := List.mem_map.1 h
    have hx' := (List.mem_filter.1 hx).1
    obtain ⟨_, _, _, _, _, _, hL⟩ := hM.imports
    obtain ⟨j, hj⟩ := List.mem_iff_getElem?.1 hx'
    obtain ⟨_, _, _, _, _, h5, _⟩ := imp_at hL hj
    exact h5
  · obtain ⟨_, _, _, _, _, _, hL⟩ := hM.funcs
    obtain ⟨j, hj⟩ := List.mem_iff_getElem?.1 h
    obtain ⟨_, _, _, _, _, h5⟩ := nat_at hL hj
    exact h5
theorem loc_none (m : M) (rs : List UInt8) {ps : List UInt8} {ls : List Lc} {i : Nat} {lc : Option UInt8} {tb : Bool} (h : Bo.local' ps ls i = lc) (hb : lc.isSome = tb) : tb = false → (envOf m ps rs ls).loc i = none := fun e => by
  show Bo.local' ps ls i = none
  rw [h]
  subst e
  exact Option.isSome_eq_false_iff.1 hb |> Option.isNone_iff_eq_none.1
theorem chkE_form (r : Except Nat Nat) : ∃ a b : Int, chkE r = .returned (.tuple #[.int .i64 a, .int .i64 b]) := by
  cases r with
  | error n => exact ⟨0, n, rfl⟩
  | ok h => exact ⟨h, 0, rfl⟩
theorem chkE_err {n : Nat} {a b : Int} (h : chkE (.error n) = .returned (.tuple #[.int .i64 a, .int .i64 b])) : a = 0 ∧ b = (n : Int) := by
  unfold chkE at h
  simp only [Ending.returned.injEq, Value.tuple.injEq, Array.mk.injEq, List.cons.injEq, Value.int.injEq, true_and, and_true] at h
  exact ⟨h.1.symm, h.2.symm⟩
theorem chkE_ok {n : Nat} {a b : Int} (h : chkE (.ok n) = .returned (.tuple #[.int .i64 a, .int .i64 b])) : a = (n : Int) ∧ b = 0 := by
  unfold chkE at h
  simp only [Ending.returned.injEq, Value.tuple.injEq, Array.mk.injEq, List.cons.injEq, Value.int.injEq, true_and, and_true] at h
  exact ⟨h.1.symm, h.2.symm⟩
theorem many_len' : ∀ (xs : List I), xs.length ≤ Ins.many xs
  | [] => by simp
  | x :: xs => by have := many_len' xs; simp only [Ins.many, List.length_cons]; omega
set_option maxRecDepth 100000 in
set_option maxHeartbeats 4000000 in
theorem bodyNops_any (m : M) (v1 v2 v3 v4 v5 v6 v7 v8 v9 v10 : Value) (t : FT) (u1 u2 : Value) (cd : Cd) (u3 u4 : Value) (at_ : Int) (bh : List I) (A5 : Option Addr) (n5 c5 : Nat) (w : World) (hM : RepM w (· < w.heap.size) m v1 v2 v3 v4 v5 v6 v7 v8 v9 v10) (hB : BigM m)
    (h1 : SliceV w (· < w.heap.size) t.params u1) (h2 : SliceV w (· < w.heap.size) t.results u2) (h3 : SliceV w (· < w.heap.size) cd.locals u3) (h4 : SliceV w (· < w.heap.size) cd.body u4) (l1 : t.params.length ≤ 140737488355328) (l2 : t.results.length ≤ 140737488355328) (l3 : cd.locals.length ≤ 140737488355328) (l4 : cd.body.length ≤ 140737488355328) (l5 : ∀ x ∈ cd.body, x.l.length ≤ 140737488355328) (p1 : -9223372036854775808 ≤ at_) (p2 : at_ ≤ 9223372036854775807) (h5 : HasI w (· < w.heap.size) A5 bh) (h6 : n5 = bh.length) (p3 : tot bh ≤ 2000000) :
    Calls Try.prog 3 #[.agg (modCells m v1 v2 v3 v4 v5 v6 v7 v8 v9 v10), .agg #[u1, u2], .agg #[u3, u4], .int .i64 at_, .slice A5 n5 c5] w fun e w' => e = .returned (.bool true) ∧ Below w.heap.size w w' := by
  have hft : ∀ t ∈ funs m, t < 4294967296 := rep_funs hM
  generalize hcs : modCells m v1 v2 v3 v4 v5 v6 v7 v8 v9 v10 = cs
  have HG : Hid (∀ W, Below w.heap.size w W → Calls Try.prog 6 #[.agg cs, .agg #[u1, u2], .agg #[u3, u4]] W (GrPost W (Few m) (many cd.body) (t.params.length + t.results.length + cd.locals.length))) := Lib.hid (fun W hb => by
    subst hcs
    exact bgreat_any m _ _ _ _ _ _ _ _ _ _ _ _ _ _ u1 u2 u3 u4 W (hM.grow hb) hB (h1.grow hb) (h2.grow hb) (h3.grow hb) (h4.grow hb) l1 l2 l3 l4 l5)
  have HOF : Hid (Few m → ∀ W, Below w.heap.size w W → Calls Try.prog 7 #[.agg cs] W fun e w' => ∃ P, e = .returned (.pointer (some ⟨P, 0, none⟩)) ∧ SpaceV w' P m ∧ Below W.heap.size W w') := Lib.hid (fun hF W hb => by
    subst hcs
    exact sof_any m _ _ _ _ _ _ _ _ _ _ W (hM.grow hb) hF)
  have HCK : Hid (Few m → t.params.length + t.results.length + cd.locals.length ≤ 500 → ∀ W P ys v, Below w.heap.size w W → SpaceV W P m → SliceV W (· < W.heap.size) ys v → ys.length ≤ 10000 → tot ys ≤ 100000000 → Calls Try.prog 8 #[.pointer (some ⟨P, 0, none⟩), .agg #[u1, u2], .agg #[u3, v]] W fun e w' => e = chkE (Bo.chk (envOf m t.params t.results cd.locals) (Bo.locB cd.locals) ys) ∧ Below W.heap.size W w') := Lib.hid (fun hF hl W P ys v hb hS hv q1 q2 =>
    check_at m P t.params t.results cd.locals ys u1 u2 u3 v W hS hF hft (h1.grow hb) (h2.grow hb) (h3.grow hb) hv (by omega) (by omega) (by omega) q1 q2)
  have HLC : Hid (t.params.length + t.results.length + cd.locals.length ≤ 500 → ∀ W, Below w.heap.size w W → Calls Try.prog 9 #[.agg #[u1, u2], .agg #[u3, u4], .int .u32 4294967295] W fun e w' => e = .returned (.tuple #[.int .u8 (((Bo.local' t.params cd.locals 4294967295).getD 0).toNat : Int), .bool (Bo.local' t.params cd.locals 4294967295).isSome]) ∧ Below W.heap.size W w') := Lib.hid (fun hl W hb =>
    blocal_any t.params cd.locals u1 u2 u3 u4 4294967295 (by decide) W (h1.grow hb) (h3.grow hb) (by omega) (by omega))
  have HLX : Hid (∀ W, Below w.heap.size w W → SliceV W (· < W.heap.size) cd.body u4) := Lib.hid (fun W hb => h4.grow hb)
  have HLO : Hid (∃ A c, u4 = .slice A cd.body.length c ∧ cd.body.length ≤ c ∧ c ≤ maxLen ∧ (A = none → c = 0) ∧ HasL w (· < w.heap.size) A cd.body) := Lib.hid h4
  have hbn : bh.length = n5 := h6.symm
  have HBL : Hid (HasL w (· < w.heap.size) A5 bh) := Lib.hid (fun k x hk => by
    obtain ⟨g, o, A', c, q1, q2, q3, q4, q5, q6, q7⟩ := h5 k x hk
    exact ⟨g, o, insCells x A' c, q1, q2, q2, ⟨A', c, rfl, q3, q4, q5, q6⟩, fun j u hj => q7 j u hj⟩)
  have HBN := Lib.hid hbn
  have HP3 := Lib.hid p3
  have hn5 : n5 ≤ 400000 := by have := tot_len bh; omega
  clear h5 h6 hbn p3
  obtain ⟨A1, c1, rfl, _⟩ := h1
  obtain ⟨A2, c2, rfl, _⟩ := h2
  obtain ⟨A3, c3, rfl, _⟩ := h3
  obtain ⟨A4, c4, rfl, hcap, hcm, hnil, hL4⟩ := h4
  clear HLO
  have HL4 := Lib.hid hL4
  have HNL := Lib.hid hnil
  unfold modCells at hcs
  generalize m.hasStart = hs at hcs
  generalize (m.start : Int) = st at hcs
  subst hcs
  obtain ⟨xs, hxs⟩ : ∃ xs, cd.body = xs := ⟨_, rfl⟩
  obtain ⟨ls, hls⟩ : ∃ xs, cd.locals = xs := ⟨_, rfl⟩
  obtain ⟨ps, hps⟩ : ∃ xs, t.params = xs := ⟨_, rfl⟩
  obtain ⟨rs, hrs⟩ : ∃ xs, t.results = xs := ⟨_, rfl⟩
  rw [hxs] at HL4 HLX HG HLC hcap l4 ⊢
  rw [hls] at HCK HLC HG l3 ⊢
  rw [hps] at HCK HLC HG l1 ⊢
  rw [hrs] at HCK HLC HG l2 ⊢
  rw [hxs] at l5
  obtain ⟨n1, hn1⟩ : ∃ n, ps.length = n := ⟨_, rfl⟩
  obtain ⟨n2, hn2⟩ : ∃ n, rs.length = n := ⟨_, rfl⟩
  obtain ⟨n3, hn3⟩ : ∃ n, ls.length = n := ⟨_, rfl⟩
  obtain ⟨n4, hn4⟩ : ∃ n, xs.length = n := ⟨_, rfl⟩
  rw [hn1] at HCK HLC HG l1 ⊢
  rw [hn2] at HCK HLC HG l2 ⊢
  rw [hn3] at HCK HLC HG l3 ⊢
  rw [hn4] at HLX HG HLC hcap l4 ⊢
  have HN4 := Lib.hid hn4
  have HRL := Lib.hid hn2
  obtain ⟨lc, hlc0⟩ : ∃ lc, Bo.local' ps ls 4294967295 = lc := ⟨_, rfl⟩
  rw [hlc0] at HLC
  obtain ⟨tv, htv⟩ : ∃ v : Int, ((lc.getD 0).toNat : Int) = v := ⟨_, rfl⟩
  obtain ⟨tb, htb⟩ : ∃ b, lc.isSome = b := ⟨_, rfl⟩
  rw [htv, htb] at HLC
  have HLC0 := Lib.hid (loc_none m rs hlc0 htb)
  clear hlc0 htv htb
  unfold maxLen at hcm
  clear hxs hls hps hrs hn1 hn2 hn3 hn4 hM hB hnil hL4 l1 l2 l3 l5 hft
  obtain ⟨t0, t1, t2, t3⟩ := three_new w (.cells #[v1, v2, v3, v4, v5, v6, v7, .bool hs, .int .u32 st, v8, v9, v10] 33) (.cells #[.slice A1 n1 c1, .slice A2 n2 c2] 36) (.cells #[.slice A3 n3 c3, .slice A4 n4 c4] 40)
  have HX0 := Lib.hid t0
  have HX1 := Lib.hid t1
  have HX2 := Lib.hid t2
  have HB0 := Lib.hid t3
  clear t0 t1 t2 t3
  go_enter Try.func3, Try.ntmps3
  go_upto_region 1 with fail
  generalize ((w.alloc (.cells #[v1, v2, v3, v4, v5, v6, v7, .bool hs, .int .u32 st, v8, v9, v10] 33)).alloc (.cells #[.slice A1 n1 c1, .slice A2 n2 c2] 36)).alloc (.cells #[.slice A3 n3 c3, .slice A4 n4 c4] 40) = w0 at HX0 HX1 HX2 HB0 ⊢
  obtain ⟨X0, hX0⟩ : ∃ X, w.heap.size = X := ⟨_, rfl⟩
  obtain ⟨X1, hX1⟩ : ∃ X, w.heap.size + 1 = X := ⟨_, rfl⟩
  obtain ⟨X2, hX2⟩ : ∃ X, w.heap.size + 2 = X := ⟨_, rfl⟩
  simp only [hX2] at HX2 ⊢
  simp only [hX1] at HX1 ⊢
  simp only [hX0] at HX0 ⊢
  have HXW : Hid (w.heap.size ≤ X2) := Lib.hid (by omega)
  clear hX0 hX1 hX2
  have HAL := Lib.hid (fun W (hW : Below w0.heap.size w0 W) => And.intro (cells12 HX0.out hW) (And.intro (two_cells ((hW.block X1 (Array.getElem?_eq_some_iff.1 HX1.out).1).trans HX1.out)) (two_cells ((hW.block X2 (Array.getElem?_eq_some_iff.1 HX2.out).1).trans HX2.out))))
  go_upto_region 3 with (go_at_call 5; refine (known10 _).mono ?_; rintro e w1 ⟨rfl, hb⟩; have HW1 := Lib.hid hb; clear hb)
  have HB1 := Lib.hid (HB0.out.trans (HW1.out.mono HB0.out.size))
  obtain ⟨⟨a0, a1, a2, a3, a4, a5, a6, a7, a8, a9, a10, a11⟩, ⟨b0, b1⟩, ⟨b2, b3⟩⟩ := HAL.out _ HW1.out
  by_cases hc1 : 100 < n5
  · have hc1i : (100 : Int) < (n5 : Int) := by omega
    go_wp2_with (go_at_call 6; refine (HG.out _ HB1.out).mono ?_; rintro e w2 ⟨g, rfl, hb, hsm⟩; obtain ⟨_, ⟨y0, y1⟩, ⟨y2, y3⟩⟩ := HAL.out _ (HW1.out.trans (hb.mono HW1.out.size)); have HW2 := Lib.hid (HW1.out.trans (hb.mono HW1.out.size)); have HSM := Lib.hid hsm; clear a0 a1 a2 a3 a4 a5 a6 a7 a8 a9 a10 a11 b0 b1 b2 b3 hb hsm)
    all_goals (go_ret; exact ⟨rfl, HB0.out.trans (HW2.out.mono HB0.out.size)⟩)
  have hc1i : decide ((100 : Int) < (n5 : Int)) = false := decide_eq_false (by omega)
  have hc1j : decide (100 < n5) = false := decide_eq_false hc1
  by_cases hc2 : at_ < 0
  · go_wp2_with (go_at_call 6; refine (HG.out _ HB1.out).mono ?_; rintro e w2 ⟨g, rfl, hb, hsm⟩; obtain ⟨_, ⟨y0, y1⟩, ⟨y2, y3⟩⟩ := HAL.out _ (HW1.out.trans (hb.mono HW1.out.size)); have HW2 := Lib.hid (HW1.out.trans (hb.mono HW1.out.size)); have HSM := Lib.hid hsm; clear a0 a1 a2 a3 a4 a5 a6 a7 a8 a9 a10 a11 b0 b1 b2 b3 hb hsm)
    all_goals (go_ret; exact ⟨rfl, HB0.out.trans (HW2.out.mono HB0.out.size)⟩)
  have hc2i : decide (at_ < 0) = false := decide_eq_false hc2
  obtain ⟨k, rfl⟩ := Int.eq_ofNat_of_zero_le (show 0 ≤ at_ by omega)
  by_cases hc3 : n4 < k
  · have hc3i : (n4 : Int) < (k : Int) := by omega
    go_wp2_with (go_at_call 6; refine (HG.out _ HB1.out).mono ?_; rintro e w2 ⟨g, rfl, hb, hsm⟩; obtain ⟨_, ⟨y0, y1⟩, ⟨y2, y3⟩⟩ := HAL.out _ (HW1.out.trans (hb.mono HW1.out.size)); have HW2 := Lib.hid (HW1.out.trans (hb.mono HW1.out.size)); have HSM := Lib.hid hsm; clear a0 a1 a2 a3 a4 a5 a6 a7 a8 a9 a10 a11 b0 b1 b2 b3 hb hsm)
    all_goals (go_ret; exact ⟨rfl, HB0.out.trans (HW2.out.mono HB0.out.size)⟩)
  have hc3i : decide ((n4 : Int) < (k : Int)) = false := decide_eq_false (by omega)
  have hc3j : decide (n4 < k) = false := decide_eq_false hc3
  have hkn : k ≤ n4 := by omega
  have hn5b : n5 ≤ 100 := by omega
  have hk0 : decide ((k : Int) < 0) = false := decide_eq_false (by omega)
  clear hc1 hc2 hc3
  go_cut [43] from 24 to 43 (fun t wx => ∃ b : Bool, t = .bool b ∧ Hid (Below w0.heap.size w0 wx) ∧ Hid (b = false → Few m ∧ many xs ≤ 3000 ∧ n1 + n2 + n3 ≤ 500))
  case first =>
    go_wp2_with (go_at_call 6; refine (HG.out _ HB1.out).mono ?_; rintro e w2 ⟨g, rfl, hb, hsm⟩; obtain ⟨_, ⟨y0, y1⟩, ⟨y2, y3⟩⟩ := HAL.out _ (HW1.out.trans (hb.mono HW1.out.size)); have HW2 := Lib.hid (HW1.out.trans (hb.mono HW1.out.size)); have HSM := Lib.hid hsm; clear a0 a1 a2 a3 a4 a5 a6 a7 a8 a9 a10 a11 b0 b1 b2 b3 hb hsm)
    all_goals (go_meet; case rel => first | exact ⟨true, rfl, HW2, Lib.hid (fun h => by cases h)⟩ | exact ⟨false, rfl, HW2, Lib.hid (fun _ => HSM.out (by first | rfl | assumption | simp_all))⟩)
  case rest =>
  obtain ⟨b, rfl, HW2, HSM⟩ := hcut
  clear a0 a1 a2 a3 a4 a5 a6 a7 a8 a9 a10 a11 b0 b1 b2 b3 HG hc1i hc1j hc2i hc3i hc3j
  have HB2 := Lib.hid (HB0.out.trans (HW2.out.mono HB0.out.size))
  cases b with
  | true =>
    go_wp2_with fail
    go_ret
    exact ⟨rfl, HB2.out⟩
  | false =>
  have HF := Lib.hid (HSM.out rfl).1
  have hmany := (HSM.out rfl).2.1
  have hsum := (HSM.out rfl).2.2
  have HOF := Lib.hid (HOF.out HF.out)
  have HCK := Lib.hid (HCK.out HF.out hsum)
  have HLC := Lib.hid (HLC.out hsum)
  have hn4b : n4 ≤ 3000 := by have := many_len' xs; have := HN4.out; omega
  have HTT : Hid (tot xs ≤ 15000) := Lib.hid (by have := tot_many xs; omega)
  clear HSM HF hmany hsum
  obtain ⟨⟨a0, a1, a2, a3, a4, a5, a6, a7, a8, a9, a10, a11⟩, ⟨b0, b1⟩, ⟨b2, b3⟩⟩ := HAL.out _ HW2.out
  go_upto_region 6 with (go_at_call 7; refine (HOF.out _ HB2.out).mono ?_; rintro e wP ⟨P, rfl, hs, hb⟩; have HS := Lib.hid hs; have HBP := Lib.hid (HB2.out.trans (hb.mono HB2.out.size)); have HWP := Lib.hid (HW2.out.trans (hb.mono HW2.out.size)); clear hs hb)
  clear a0 a1 a2 a3 a4 a5 a6 a7 a8 a9 a10 a11 b0 b1 b2 b3
  have HAL := Lib.hid (fun W (hW : Below wP.heap.size wP W) => (HAL.out W (HWP.out.trans (hW.mono HWP.out.size))).2)
  have HOL := Lib.hid (fun W (hW : Below wP.heap.size wP W) => HBP.out.trans (hW.mono HBP.out.size))
  have HCK := Lib.hid (fun W ys v (hW : Below wP.heap.size wP W) (hv : SliceV W (· < W.heap.size) ys v) q1 q2 => HCK.out W P ys v (HOL.out W hW) (HS.out.grow hW) hv q1 q2)
  obtain ⟨ra, rb, hr⟩ := chkE_form (Bo.chk (envOf m ps rs ls) (Bo.locB ls) xs)
  have HR := Lib.hid hr
  clear hr
  have HC1 := HCK.out wP xs (.slice A4 n4 c4) (Below.refl _ _) (HLX.out _ HBP.out) (by have := HN4.out; omega) (by have := HTT.out; omega)
  rw [HR.out] at HC1
  have HC1 := Lib.hid HC1
  obtain ⟨⟨b0, b1⟩, ⟨b2, b3⟩⟩ := HAL.out _ (Below.refl _ _)
  go_upto_region 7 with (go_at_call 8; refine HC1.out.mono ?_; rintro e w3 ⟨rfl, hb⟩; have HP3 := Lib.hid hb; clear hb)
  clear b0 b1 b2 b3 HC1
  obtain ⟨⟨b0, b1⟩, ⟨b2, b3⟩⟩ := HAL.out _ HP3.out
  go_upto_region 8 with fail
  clear b0 b1 b2 b3
  have HZ0 := Lib.hid (heap_alloc_new w3 (.cells #[.slice A3 n3 c3, .slice A4 n4 c4] 40))
  have HPZ : Hid (Below wP.heap.size wP (w3.alloc (.cells #[.slice A3 n3 c3, .slice A4 n4 c4] 40))) := Lib.hid (HP3.out.alloc HP3.out.size _)
  have HZL : Hid (wP.heap.size ≤ w3.heap.size) := Lib.hid HP3.out.size
  generalize w3.alloc (.cells #[.slice A3 n3 c3, .slice A4 n4 c4] 40) = wz at HZ0 HPZ ⊢
  obtain ⟨Z, hZ⟩ : ∃ Z, w3.heap.size = Z := ⟨_, rfl⟩
  rw [hZ] at HZ0 HZL
  simp only [hZ]
  clear hZ HP3
  have hkc : k ≤ c4 := by omega
  have hkci : (k : Int) ≤ (c4 : Int) := by omega
  have hkni : (k : Int) ≤ (n4 : Int) := by omega
  go_cut [54] from 54 to 68 (fun _ wx => ∃ A7 c7, Hid (Below wP.heap.size wP wx) ∧ Hid (wx.heap[Z]? = some (.cells #[.slice A3 n3 c3, .slice A7 (n4 + 1) c7] 40 (0, 0))) ∧ Hid (SliceV wx (· < wx.heap.size) (xs.take k ++ [Bo.nop] ++ xs.drop k) (.slice A7 (n4 + 1) c7)))
  case first =>
    by_cases hck : c4 = k
    · obtain rfl : n4 = k := by omega
      subst hck
      have HPR : Hid (HasL w (· < w.heap.size) A4 (xs.take c4)) := Lib.hid (HL4.out.upto c4)
      have HSU : Hid (HasL w (· < w.heap.size) A4 (xs.drop c4)) := Lib.hid ((by rw [List.drop_eq_nil_of_le (by have := HN4.out; omega)]; exact HasL.nil _ _ _))
      have HLP : Hid (c4 = (xs.take c4).length ∧ 0 = (xs.drop c4).length) := Lib.hid ⟨by rw [List.length_take]; have := HN4.out; omega, by rw [List.length_drop]; have := HN4.out; omega⟩
      have HWW : Hid (w.heap.size ≤ wz.heap.size ∧ Z < wz.heap.size) := Lib.hid ⟨(HOL.out _ HPZ.out).size, (Array.getElem?_eq_some_iff.1 HZ0.out).1⟩
      have HS0 : Hid (wz.drew.cell? ⟨X2, 1, none⟩ = some (.slice A4 c4 c4)) := Lib.hid (HAL.out wz HPZ.out).2.2
      refine wp_region_held_drew (S := fun W' => W'.cell? ⟨X2, 1, none⟩ = some (.slice A4 c4 c4)) (by kernel_rfl) (HS0.out) (fun hHeld => ?_)
      refine drawn_take 1 rfl (by kernel_rfl) (by kernel_rfl) (by kernel_rfl) (fun _ _ _ h => h) (by rfl) (by assumption) (v := ?_) ?_ ?_
      rotate_left
      · (intro wy hSw; go_simp; try with_reducible rfl)
      simp only [Act.put, List.setIfInBounds_toArray, List.set_cons_zero, List.set_cons_succ]
      refine drawn_take 2 rfl (by kernel_rfl) (by kernel_rfl) (by kernel_rfl) (fun _ _ _ h => h) (by rfl) (by assumption) (v := ?_) ?_ ?_
      rotate_left
      · (intro wy hSw; go_simp; try with_reducible rfl)
      simp only [Act.put, List.setIfInBounds_toArray, List.set_cons_zero, List.set_cons_succ]
      refine drawn_take 3 rfl (by kernel_rfl) (by kernel_rfl) (by kernel_rfl) (fun _ _ _ h => h) (by rfl) (by assumption) (v := ?_) ?_ ?_
      rotate_left
      · (intro wy hSw; go_simp; try with_reducible rfl)
      simp only [Act.put, List.setIfInBounds_toArray, List.set_cons_zero, List.set_cons_succ]
      refine drawn_take 4 rfl (by kernel_rfl) (by kernel_rfl) (by kernel_rfl) (fun _ _ _ h => h) (by rfl) (by assumption) (v := ?_) ?_ ?_
      rotate_left
      · (intro wy hSw; go_simp; try with_reducible rfl)
      simp only [Act.put, List.setIfInBounds_toArray, List.set_cons_zero, List.set_cons_succ]
      refine drawn_take 6 rfl (by kernel_rfl) (by kernel_rfl) (by kernel_rfl) (fun _ _ _ h => h) (by rfl) (by assumption) (v := ?_) ?_ ?_
      rotate_left
      · (intro wy hSw; go_simp; try with_reducible rfl)
      simp only [Act.put, List.setIfInBounds_toArray, List.set_cons_zero, List.set_cons_succ]
      refine drawn_take 9 rfl (by kernel_rfl) (by kernel_rfl) (by kernel_rfl) (fun _ _ _ h => h) (by rfl) (by assumption) (v := ?_) ?_ ?_
      rotate_left
      · (intro wy hSw; go_simp; try with_reducible rfl)
      simp only [Act.put, List.setIfInBounds_toArray, List.set_cons_zero, List.set_cons_succ]
      refine drawn_take 10 rfl (by kernel_rfl) (by kernel_rfl) (by kernel_rfl) (fun _ _ _ h => h) (by rfl) (by assumption) (v := ?_) ?_ ?_
      rotate_left
      · (intro wy hSw; go_simp; try with_reducible rfl)
      simp only [Act.put, List.setIfInBounds_toArray, List.set_cons_zero, List.set_cons_succ]
      refine drawn_take 11 rfl (by kernel_rfl) (by kernel_rfl) (by kernel_rfl) (fun _ _ _ h => h) (by rfl) (by assumption) (v := ?_) ?_ ?_
      rotate_left
      · (intro wy hSw; go_simp; try with_reducible rfl)
      simp only [Act.put, List.setIfInBounds_toArray, List.set_cons_zero, List.set_cons_succ]
      refine drawn_take 12 rfl (by kernel_rfl) (by kernel_rfl) (by kernel_rfl) (fun _ _ _ h => h) (by rfl) (by assumption) (v := ?_) ?_ ?_
      rotate_left
      · (intro wy hSw; go_simp; try with_reducible rfl)
      simp only [Act.put, List.setIfInBounds_toArray, List.set_cons_zero, List.set_cons_succ]
      refine drawn_pair 0 7 rfl rfl (by kernel_rfl) (fun K hK => ?_) (fun K hK => ?_)
      · have hbE : Below wz.heap.size wz (wz.drew.alloc (.cells #[] 49)) := (Below.drew (Below.refl _ _)).alloc (Nat.le_refl _) _
        have hmE := Made.lit0 wz.drew wz.heap.size w.heap.size (Nat.le_refl _) HWW.out.1
        have hszE : (wz.drew.alloc (.cells #[] 49)).heap.size = wz.heap.size + 1 := by simp
        have HSE : Hid ((wz.drew.alloc (.cells #[] 49)).cell? ⟨X2, 1, none⟩ = some (.slice A4 c4 c4)) := Lib.hid (HAL.out _ (HPZ.out.trans (hbE.mono HPZ.out.size))).2.2
        try (rw [if_pos]; case hc => rfl)
        go_simp
        refine hK.out _ _ (HSE.out) (fun hHeld2 => ?_)
        clear hK K hHeld
        have hHeld := hHeld2
        clear hHeld2
        refine drawn_pair 5 7 rfl rfl (by kernel_rfl) (fun K hK => ?_) (fun K hK => ?_)
        · obtain ⟨B5, d5, w5, B6, d6, w6, A7, c7, w7, hr5, hr6, hr7, hm7, hb5, hb6, hb7⟩ := chain_mid (c1 := c4) (c2 := 0) hmE (by rw [hszE]; omega) (by rw [hszE]; have := HWW.out.1; omega) nop_ok ((HPR.out.old (HOL.out _ (HPZ.out.trans (hbE.mono HPZ.out.size))) rfl)) HLP.out.1 HLP.out.2 (by omega) HWW.out.1 ((HSU.out.old (HOL.out _ (HPZ.out.trans (hbE.mono HPZ.out.size))) rfl))
          replace hb5 := hbE.trans hb5
          replace hb6 := hbE.trans hb6
          replace hb7 := hbE.trans hb7
          have HSL : Hid ((w5.alloc (.cells #[.int .u8 1, .int .u32 0, .int .u32 0, .int .i64 0, .slice none 0 0] 49)).cell? ⟨X2, 1, none⟩ = some (.slice A4 c4 c4)) := Lib.hid (HAL.out _ ((HPZ.out.trans (hb5.mono HPZ.out.size)).alloc (HPZ.out.trans (hb5.mono HPZ.out.size)).size _)).2.2
          have HBW7 := Lib.hid hb7
          have HM7 := Lib.hid hm7
          have HR5 := Lib.hid hr5
          have HR6 := Lib.hid hr6
          have HR7 := Lib.hid hr7
          have HB5 := Lib.hid hb5
          have HB6 := Lib.hid hb6
          clear hb7 hm7 hr5 hr6 hr7 hb5 hb6
          rw [if_pos]
          case hc => rfl
          refine wp_appendX (.tmp 54) (.tmp 58) 38 rfl _ _ _ _ rfl rfl HR5.out ?_
          refine hK.out _ _ ((HAL.out _ (HPZ.out.trans (HB5.out.mono HPZ.out.size))).2.2) (fun hHeld2 => ?_)
          clear hK K hHeld
          have hHeld := hHeld2
          clear hHeld2
          try simp only [Act.put, List.setIfInBounds_toArray, List.set_cons_zero, List.set_cons_succ]
          refine drawn_sole 7 rfl (by kernel_rfl) (fun K hK => ?_)
          try (rw [if_pos]; case hc => rfl)
          go_simp
          refine hK.out _ _ (HSL.out) (fun hHeld2 => ?_)
          clear hK K hHeld
          have hHeld := hHeld2
          clear hHeld2
          refine drawn_sole 8 rfl (by kernel_rfl) (fun K hK => ?_)
          rw [if_pos]
          case hc => rfl
          refine wp_appendX (.tmp 59) (.tmp 61) 38 rfl _ _ _ _ rfl rfl HR6.out ?_
          refine hK.out _ _ ((HAL.out _ (HPZ.out.trans (HB6.out.mono HPZ.out.size))).2.2) (fun hHeld2 => ?_)
          clear hK K hHeld
          have hHeld := hHeld2
          clear hHeld2
          try simp only [Act.put, List.setIfInBounds_toArray, List.set_cons_zero, List.set_cons_succ]
          refine drawn_sole 13 rfl (by kernel_rfl) (fun K hK => ?_)
          rw [if_pos]
          case hc => rfl
          refine wp_appendX (.tmp 62) (.tmp 66) 38 rfl _ _ _ _ rfl rfl HR7.out ?_
          refine hK.out _ _ ((HAL.out _ (HPZ.out.trans (HBW7.out.mono HPZ.out.size))).2.2) (fun hHeld2 => ?_)
          clear hK K hHeld
          have hHeld := hHeld2
          clear hHeld2
          try simp only [Act.put, List.setIfInBounds_toArray, List.set_cons_zero, List.set_cons_succ]
          have hbz := HBW7.out
          have HZ7 : Hid (w7.heap[Z]? = some (.cells #[.slice A3 n3 c3, .slice A4 c4 c4] 40 (0, 0))) := Lib.hid ((hbz.block Z HWW.out.2).trans HZ0.out)
          have HM8 : Hid (Mod (· = Z) w7 (w7.setCell ⟨Z, 1, none⟩ (.slice A7 (c4 + 1 + 0) c7))) := Lib.hid (Mod.setCell (T := (· = Z)) (Mod.refl _ w7) (fun _ => rfl) _)
          have HP7 : Hid (Below wP.heap.size wP w7) := Lib.hid (HPZ.out.trans (hbz.mono HPZ.out.size))
          have HP8 : Hid (Below wP.heap.size wP (w7.setCell ⟨Z, 1, none⟩ (.slice A7 (c4 + 1 + 0) c7))) := Lib.hid (HP7.out.trans (HM8.out.below HP7.out.size (fun j hj e => by have := HZL.out; omega)))
          have HZ8 : Hid ((w7.setCell ⟨Z, 1, none⟩ (.slice A7 (c4 + 1 + 0) c7)).heap[Z]? = some (.cells #[.slice A3 n3 c3, .slice A7 (c4 + 1 + 0) c7] 40 (0, 0))) := Lib.hid (by rw [heap_setCell_same w7 Z 1 _ _ _ HZ7.out]; rfl)
          have HV8 := Lib.hid ((HM7.out.store HM8.out (Nat.le_trans (HOL.out _ HPZ.out |>.size |> fun _ => HBP.out.size) HZL.out) HWW.out.2).slice)
          have HC7 : Hid (w7.cell? ⟨Z, 1, none⟩ = some (.slice A4 c4 c4)) := Lib.hid (two_cells HZ7.out).2
          have HF7 : Hid (w7.frozen? ⟨Z, 1, none⟩ = false) := Lib.hid (frozen_of_row w7 Z 1 _ _ HZ7.out)
          refine drawn_take 14 rfl (by kernel_rfl) (by kernel_rfl) (by kernel_rfl) (fun _ _ _ h => h) (by rfl) (by assumption) (v := ?_) ?_ ?_
          rotate_left
          · (intro wy hSw; go_simp; try with_reducible rfl)
          simp only [Act.put, List.setIfInBounds_toArray, List.set_cons_zero, List.set_cons_succ]
          refine drawn_sole 15 rfl (by kernel_rfl) (fun K hK => ?_)
          have hl := HC7.out
          have gl := HF7.out
          try (rw [if_pos]; case hc => rfl)
          go_simp
          clear hl gl
          refine hK.out _ _ (HAL.out _ HP8.out).2.2 (fun hHeld2 => ?_)
          clear hK K hHeld
          have hHeld := hHeld2
          clear hHeld2
          refine wpAnyH_done (by kernel_rfl) ?_ _
          have hlen : c4 + 1 + 0 = c4 + 1 := by omega
          have hz8 := HZ8.out
          have hv8 := HV8.out
          have hp8 := HP8.out
          simp only [hlen] at hz8 hv8 hp8 ⊢
          go_wp2_with fail
          go_meet
          case rel => exact ⟨A7, c7, Lib.hid hp8, Lib.hid hz8, Lib.hid hv8⟩
        · have hbL : Below wz.heap.size wz ((wz.drew.alloc (.cells #[] 49)).alloc (.cells #[.int .u8 1, .int .u32 0, .int .u32 0, .int .i64 0, .slice none 0 0] 49)) := hbE.alloc (by rw [hszE]; omega) _
          have hlL := heap_alloc_new (wz.drew.alloc (.cells #[] 49)) (.cells #[.int .u8 1, .int .u32 0, .int .u32 0, .int .i64 0, .slice none 0 0] 49)
          rw [hszE] at hlL
          have hszL : ((wz.drew.alloc (.cells #[] 49)).alloc (.cells #[.int .u8 1, .int .u32 0, .int .u32 0, .int .i64 0, .slice none 0 0] 49)).heap.size = wz.heap.size + 2 := by simp
          obtain ⟨B5, d5, w5, B6, d6, w6, A7, c7, w7, hr5, hr6, hr7, hm7, hb5, hb6, hb7⟩ := chain_two (c1 := c4) (c2 := 0) (hmE.on ((Below.refl _ _).alloc (Nat.le_refl _) (.cells #[.int .u8 1, .int .u32 0, .int .u32 0, .int .i64 0, .slice none 0 0] 49))) (by rw [hszL]; omega) (by rw [hszL]; have := HWW.out.1; omega) nop_ok ((HPR.out.old (HOL.out _ (HPZ.out.trans (hbL.mono HPZ.out.size))) rfl)) HLP.out.1 HLP.out.2 (by omega) HWW.out.1 ((HSU.out.old (HOL.out _ (HPZ.out.trans (hbL.mono HPZ.out.size))) rfl)) hlL (by omega) (fun e => by simp [Value.ownBlock] at e)
          replace hb5 := hbL.trans hb5
          replace hb6 := hbL.trans hb6
          replace hb7 := hbL.trans hb7
          have HSL : Hid (((wz.drew.alloc (.cells #[] 49)).alloc (.cells #[.int .u8 1, .int .u32 0, .int .u32 0, .int .i64 0, .slice none 0 0] 49)).cell? ⟨X2, 1, none⟩ = some (.slice A4 c4 c4)) := Lib.hid (HAL.out _ (HPZ.out.trans (hbL.mono HPZ.out.size))).2.2
          have HBW7 := Lib.hid hb7
          have HM7 := Lib.hid hm7
          have HR5 := Lib.hid hr5
          have HR6 := Lib.hid hr6
          have HR7 := Lib.hid hr7
          have HB5 := Lib.hid hb5
          have HB6 := Lib.hid hb6
          clear hb7 hm7 hr5 hr6 hr7 hb5 hb6
          try (rw [if_pos]; case hc => rfl)
          go_simp
          refine hK.out _ _ (HSL.out) (fun hHeld2 => ?_)
          clear hK K hHeld
          have hHeld := hHeld2
          clear hHeld2
          refine drawn_sole 5 rfl (by kernel_rfl) (fun K hK => ?_)
          rw [if_pos]
          case hc => rfl
          refine wp_appendX (.tmp 54) (.tmp 58) 38 rfl _ _ _ _ rfl rfl HR5.out ?_
          refine hK.out _ _ ((HAL.out _ (HPZ.out.trans (HB5.out.mono HPZ.out.size))).2.2) (fun hHeld2 => ?_)
          clear hK K hHeld
          have hHeld := hHeld2
          clear hHeld2
          try simp only [Act.put, List.setIfInBounds_toArray, List.set_cons_zero, List.set_cons_succ]
          refine drawn_sole 8 rfl (by kernel_rfl) (fun K hK => ?_)
          rw [if_pos]
          case hc => rfl
          refine wp_appendX (.tmp 59) (.tmp 61) 38 rfl _ _ _ _ rfl rfl HR6.out ?_
          refine hK.out _ _ ((HAL.out _ (HPZ.out.trans (HB6.out.mono HPZ.out.size))).2.2) (fun hHeld2 => ?_)
          clear hK K hHeld
          have hHeld := hHeld2
          clear hHeld2
          try simp only [Act.put, List.setIfInBounds_toArray, List.set_cons_zero, List.set_cons_succ]
          refine drawn_sole 13 rfl (by kernel_rfl) (fun K hK => ?_)
          rw [if_pos]
          case hc => rfl
          refine wp_appendX (.tmp 62) (.tmp 66) 38 rfl _ _ _ _ rfl rfl HR7.out ?_
          refine hK.out _ _ ((HAL.out _ (HPZ.out.trans (HBW7.out.mono HPZ.out.size))).2.2) (fun hHeld2 => ?_)
          clear hK K hHeld
          have hHeld := hHeld2
          clear hHeld2
          try simp only [Act.put, List.setIfInBounds_toArray, List.set_cons_zero, List.set_cons_succ]
          have hbz := HBW7.out
          have HZ7 : Hid (w7.heap[Z]? = some (.cells #[.slice A3 n3 c3, .slice A4 c4 c4] 40 (0, 0))) := Lib.hid ((hbz.block Z HWW.out.2).trans HZ0.out)
          have HM8 : Hid (Mod (· = Z) w7 (w7.setCell ⟨Z, 1, none⟩ (.slice A7 (c4 + 1 + 0) c7))) := Lib.hid (Mod.setCell (T := (· = Z)) (Mod.refl _ w7) (fun _ => rfl) _)
          have HP7 : Hid (Below wP.heap.size wP w7) := Lib.hid (HPZ.out.trans (hbz.mono HPZ.out.size))
          have HP8 : Hid (Below wP.heap.size wP (w7.setCell ⟨Z, 1, none⟩ (.slice A7 (c4 + 1 + 0) c7))) := Lib.hid (HP7.out.trans (HM8.out.below HP7.out.size (fun j hj e => by have := HZL.out; omega)))
          have HZ8 : Hid ((w7.setCell ⟨Z, 1, none⟩ (.slice A7 (c4 + 1 + 0) c7)).heap[Z]? = some (.cells #[.slice A3 n3 c3, .slice A7 (c4 + 1 + 0) c7] 40 (0, 0))) := Lib.hid (by rw [heap_setCell_same w7 Z 1 _ _ _ HZ7.out]; rfl)
          have HV8 := Lib.hid ((HM7.out.store HM8.out (Nat.le_trans (HOL.out _ HPZ.out |>.size |> fun _ => HBP.out.size) HZL.out) HWW.out.2).slice)
          have HC7 : Hid (w7.cell? ⟨Z, 1, none⟩ = some (.slice A4 c4 c4)) := Lib.hid (two_cells HZ7.out).2
          have HF7 : Hid (w7.frozen? ⟨Z, 1, none⟩ = false) := Lib.hid (frozen_of_row w7 Z 1 _ _ HZ7.out)
          refine drawn_take 14 rfl (by kernel_rfl) (by kernel_rfl) (by kernel_rfl) (fun _ _ _ h => h) (by rfl) (by assumption) (v := ?_) ?_ ?_
          rotate_left
          · (intro wy hSw; go_simp; try with_reducible rfl)
          simp only [Act.put, List.setIfInBounds_toArray, List.set_cons_zero, List.set_cons_succ]
          refine drawn_sole 15 rfl (by kernel_rfl) (fun K hK => ?_)
          have hl := HC7.out
          have gl := HF7.out
          try (rw [if_pos]; case hc => rfl)
          go_simp
          clear hl gl
          refine hK.out _ _ (HAL.out _ HP8.out).2.2 (fun hHeld2 => ?_)
          clear hK K hHeld
          have hHeld := hHeld2
          clear hHeld2
          refine wpAnyH_done (by kernel_rfl) ?_ _
          have hlen : c4 + 1 + 0 = c4 + 1 := by omega
          have hz8 := HZ8.out
          have hv8 := HV8.out
          have hp8 := HP8.out
          simp only [hlen] at hz8 hv8 hp8 ⊢
          go_wp2_with fail
          go_meet
          case rel => exact ⟨A7, c7, Lib.hid hp8, Lib.hid hz8, Lib.hid hv8⟩
      · have hbN : Below wz.heap.size wz (wz.drew.alloc (.cells #[.int .u8 1, .int .u32 0, .int .u32 0, .int .i64 0, .slice none 0 0] 49)) := (Below.drew (Below.refl _ _)).alloc (Nat.le_refl _) _
        have hszN : (wz.drew.alloc (.cells #[.int .u8 1, .int .u32 0, .int .u32 0, .int .i64 0, .slice none 0 0] 49)).heap.size = wz.heap.size + 1 := by simp
        have hbL : Below wz.heap.size wz ((wz.drew.alloc (.cells #[.int .u8 1, .int .u32 0, .int .u32 0, .int .i64 0, .slice none 0 0] 49)).alloc (.cells #[] 49)) := hbN.alloc (by rw [hszN]; omega) _
        have hlN := (Below.heap_alloc (wz.drew.alloc (.cells #[.int .u8 1, .int .u32 0, .int .u32 0, .int .i64 0, .slice none 0 0] 49)) (.cells #[] 49) wz.heap.size (by rw [hszN]; omega)).trans (heap_alloc_new wz.drew (.cells #[.int .u8 1, .int .u32 0, .int .u32 0, .int .i64 0, .slice none 0 0] 49))
        have hmE := Made.lit0 (wz.drew.alloc (.cells #[.int .u8 1, .int .u32 0, .int .u32 0, .int .i64 0, .slice none 0 0] 49)) wz.heap.size w.heap.size (by rw [hszN]; omega) (by rw [hszN]; have := HWW.out.1; omega)
        rw [hszN] at hmE
        have hszL : ((wz.drew.alloc (.cells #[.int .u8 1, .int .u32 0, .int .u32 0, .int .i64 0, .slice none 0 0] 49)).alloc (.cells #[] 49)).heap.size = wz.heap.size + 2 := by simp
        obtain ⟨B5, d5, w5, B6, d6, w6, A7, c7, w7, hr5, hr6, hr7, hm7, hb5, hb6, hb7⟩ := chain_two (c1 := c4) (c2 := 0) hmE (by rw [hszL]; omega) (by rw [hszL]; have := HWW.out.1; omega) nop_ok ((HPR.out.old (HOL.out _ (HPZ.out.trans (hbL.mono HPZ.out.size))) rfl)) HLP.out.1 HLP.out.2 (by omega) HWW.out.1 ((HSU.out.old (HOL.out _ (HPZ.out.trans (hbL.mono HPZ.out.size))) rfl)) hlN (Nat.le_refl _) (fun e => by simp [Value.ownBlock] at e)
        replace hb5 := hbL.trans hb5
        replace hb6 := hbL.trans hb6
        replace hb7 := hbL.trans hb7
        have HSN : Hid ((wz.drew.alloc (.cells #[.int .u8 1, .int .u32 0, .int .u32 0, .int .i64 0, .slice none 0 0] 49)).cell? ⟨X2, 1, none⟩ = some (.slice A4 c4 c4)) := Lib.hid (HAL.out _ (HPZ.out.trans (hbN.mono HPZ.out.size))).2.2
        have HSL : Hid (((wz.drew.alloc (.cells #[.int .u8 1, .int .u32 0, .int .u32 0, .int .i64 0, .slice none 0 0] 49)).alloc (.cells #[] 49)).cell? ⟨X2, 1, none⟩ = some (.slice A4 c4 c4)) := Lib.hid (HAL.out _ (HPZ.out.trans (hbL.mono HPZ.out.size))).2.2
        have HBW7 := Lib.hid hb7
        have HM7 := Lib.hid hm7
        have HR5 := Lib.hid hr5
        have HR6 := Lib.hid hr6
        have HR7 := Lib.hid hr7
        have HB5 := Lib.hid hb5
        have HB6 := Lib.hid hb6
        clear hb7 hm7 hr5 hr6 hr7 hb5 hb6
        try (rw [if_pos]; case hc => rfl)
        go_simp
        refine hK.out _ _ (HSN.out) (fun hHeld2 => ?_)
        clear hK K hHeld
        have hHeld := hHeld2
        clear hHeld2
        refine drawn_sole 0 rfl (by kernel_rfl) (fun K hK => ?_)
        try (rw [if_pos]; case hc => rfl)
        go_simp
        refine hK.out _ _ (HSL.out) (fun hHeld2 => ?_)
        clear hK K hHeld
        have hHeld := hHeld2
        clear hHeld2
        refine drawn_sole 5 rfl (by kernel_rfl) (fun K hK => ?_)
        rw [if_pos]
        case hc => rfl
        refine wp_appendX (.tmp 54) (.tmp 58) 38 rfl _ _ _ _ rfl rfl HR5.out ?_
        refine hK.out _ _ ((HAL.out _ (HPZ.out.trans (HB5.out.mono HPZ.out.size))).2.2) (fun hHeld2 => ?_)
        clear hK K hHeld
        have hHeld := hHeld2
        clear hHeld2
        try simp only [Act.put, List.setIfInBounds_toArray, List.set_cons_zero, List.set_cons_succ]
        refine drawn_sole 8 rfl (by kernel_rfl) (fun K hK => ?_)
        rw [if_pos]
        case hc => rfl
        refine wp_appendX (.tmp 59) (.tmp 61) 38 rfl _ _ _ _ rfl rfl HR6.out ?_
        refine hK.out _ _ ((HAL.out _ (HPZ.out.trans (HB6.out.mono HPZ.out.size))).2.2) (fun hHeld2 => ?_)
        clear hK K hHeld
        have hHeld := hHeld2
        clear hHeld2
        try simp only [Act.put, List.setIfInBounds_toArray, List.set_cons_zero, List.set_cons_succ]
        refine drawn_sole 13 rfl (by kernel_rfl) (fun K hK => ?_)
        rw [if_pos]
        case hc => rfl
        refine wp_appendX (.tmp 62) (.tmp 66) 38 rfl _ _ _ _ rfl rfl HR7.out ?_
        refine hK.out _ _ ((HAL.out _ (HPZ.out.trans (HBW7.out.mono HPZ.out.size))).2.2) (fun hHeld2 => ?_)
        clear hK K hHeld
        have hHeld := hHeld2
        clear hHeld2
        try simp only [Act.put, List.setIfInBounds_toArray, List.set_cons_zero, List.set_cons_succ]
        have hbz := HBW7.out
        have HZ7 : Hid (w7.heap[Z]? = some (.cells #[.slice A3 n3 c3, .slice A4 c4 c4] 40 (0, 0))) := Lib.hid ((hbz.block Z HWW.out.2).trans HZ0.out)
        have HM8 : Hid (Mod (· = Z) w7 (w7.setCell ⟨Z, 1, none⟩ (.slice A7 (c4 + 1 + 0) c7))) := Lib.hid (Mod.setCell (T := (· = Z)) (Mod.refl _ w7) (fun _ => rfl) _)
        have HP7 : Hid (Below wP.heap.size wP w7) := Lib.hid (HPZ.out.trans (hbz.mono HPZ.out.size))
        have HP8 : Hid (Below wP.heap.size wP (w7.setCell ⟨Z, 1, none⟩ (.slice A7 (c4 + 1 + 0) c7))) := Lib.hid (HP7.out.trans (HM8.out.below HP7.out.size (fun j hj e => by have := HZL.out; omega)))
        have HZ8 : Hid ((w7.setCell ⟨Z, 1, none⟩ (.slice A7 (c4 + 1 + 0) c7)).heap[Z]? = some (.cells #[.slice A3 n3 c3, .slice A7 (c4 + 1 + 0) c7] 40 (0, 0))) := Lib.hid (by rw [heap_setCell_same w7 Z 1 _ _ _ HZ7.out]; rfl)
        have HV8 := Lib.hid ((HM7.out.store HM8.out (Nat.le_trans (HOL.out _ HPZ.out |>.size |> fun _ => HBP.out.size) HZL.out) HWW.out.2).slice)
        have HC7 : Hid (w7.cell? ⟨Z, 1, none⟩ = some (.slice A4 c4 c4)) := Lib.hid (two_cells HZ7.out).2
        have HF7 : Hid (w7.frozen? ⟨Z, 1, none⟩ = false) := Lib.hid (frozen_of_row w7 Z 1 _ _ HZ7.out)
        refine drawn_take 14 rfl (by kernel_rfl) (by kernel_rfl) (by kernel_rfl) (fun _ _ _ h => h) (by rfl) (by assumption) (v := ?_) ?_ ?_
        rotate_left
        · (intro wy hSw; go_simp; try with_reducible rfl)
        simp only [Act.put, List.setIfInBounds_toArray, List.set_cons_zero, List.set_cons_succ]
        refine drawn_sole 15 rfl (by kernel_rfl) (fun K hK => ?_)
        have hl := HC7.out
        have gl := HF7.out
        try (rw [if_pos]; case hc => rfl)
        go_simp
        clear hl gl
        refine hK.out _ _ (HAL.out _ HP8.out).2.2 (fun hHeld2 => ?_)
        clear hK K hHeld
        have hHeld := hHeld2
        clear hHeld2
        refine wpAnyH_done (by kernel_rfl) ?_ _
        have hlen : c4 + 1 + 0 = c4 + 1 := by omega
        have hz8 := HZ8.out
        have hv8 := HV8.out
        have hp8 := HP8.out
        simp only [hlen] at hz8 hv8 hp8 ⊢
        go_wp2_with fail
        go_meet
        case rel => exact ⟨A7, c7, Lib.hid hp8, Lib.hid hz8, Lib.hid hv8⟩
    by_cases hn0 : n4 = 0
    · obtain rfl : k = 0 := by omega
      subst hn0
      have HPR : Hid (HasL w (· < w.heap.size) A4 (xs.take 0)) := Lib.hid (HL4.out.upto 0)
      have HSU : Hid (HasL w (· < w.heap.size) A4 (xs.drop 0)) := Lib.hid ((by rw [List.drop_eq_nil_of_le (by have := HN4.out; omega)]; exact HasL.nil _ _ _))
      have HLP : Hid (0 = (xs.take 0).length ∧ 0 = (xs.drop 0).length) := Lib.hid ⟨by rw [List.length_take]; have := HN4.out; omega, by rw [List.length_drop]; have := HN4.out; omega⟩
      have HWW : Hid (w.heap.size ≤ wz.heap.size ∧ Z < wz.heap.size) := Lib.hid ⟨(HOL.out _ HPZ.out).size, (Array.getElem?_eq_some_iff.1 HZ0.out).1⟩
      have HS0 : Hid (wz.drew.cell? ⟨X2, 1, none⟩ = some (.slice A4 0 c4)) := Lib.hid (HAL.out wz HPZ.out).2.2
      refine wp_region_held_drew (S := fun W' => W'.cell? ⟨X2, 1, none⟩ = some (.slice A4 0 c4)) (by kernel_rfl) (HS0.out) (fun hHeld => ?_)
      refine drawn_take 1 rfl (by kernel_rfl) (by kernel_rfl) (by kernel_rfl) (fun _ _ _ h => h) (by rfl) (by assumption) (v := ?_) ?_ ?_
      rotate_left
      · (intro wy hSw; go_simp; try with_reducible rfl)
      simp only [Act.put, List.setIfInBounds_toArray, List.set_cons_zero, List.set_cons_succ]
      refine drawn_take 2 rfl (by kernel_rfl) (by kernel_rfl) (by kernel_rfl) (fun _ _ _ h => h) (by rfl) (by assumption) (v := ?_) ?_ ?_
      rotate_left
      · (intro wy hSw; go_simp; try with_reducible rfl)
      simp only [Act.put, List.setIfInBounds_toArray, List.set_cons_zero, List.set_cons_succ]
      refine drawn_take 3 rfl (by kernel_rfl) (by kernel_rfl) (by kernel_rfl) (fun _ _ _ h => h) (by rfl) (by assumption) (v := ?_) ?_ ?_
      rotate_left
      · (intro wy hSw; go_simp; try with_reducible rfl)
      simp only [Act.put, List.setIfInBounds_toArray, List.set_cons_zero, List.set_cons_succ]
      refine drawn_take 4 rfl (by kernel_rfl) (by kernel_rfl) (by kernel_rfl) (fun _ _ _ h => h) (by rfl) (by assumption) (v := ?_) ?_ ?_
      rotate_left
      · (intro wy hSw; go_simp; try with_reducible rfl)
      simp only [Act.put, List.setIfInBounds_toArray, List.set_cons_zero, List.set_cons_succ]
      refine drawn_take 6 rfl (by kernel_rfl) (by kernel_rfl) (by kernel_rfl) (fun _ _ _ h => h) (by rfl) (by assumption) (v := ?_) ?_ ?_
      rotate_left
      · (intro wy hSw; go_simp; try with_reducible rfl)
      simp only [Act.put, List.setIfInBounds_toArray, List.set_cons_zero, List.set_cons_succ]
      refine drawn_take 9 rfl (by kernel_rfl) (by kernel_rfl) (by kernel_rfl) (fun _ _ _ h => h) (by rfl) (by assumption) (v := ?_) ?_ ?_
      rotate_left
      · (intro wy hSw; go_simp; try with_reducible rfl)
      simp only [Act.put, List.setIfInBounds_toArray, List.set_cons_zero, List.set_cons_succ]
      refine drawn_take 10 rfl (by kernel_rfl) (by kernel_rfl) (by kernel_rfl) (fun _ _ _ h => h) (by rfl) (by assumption) (v := ?_) ?_ ?_
      rotate_left
      · (intro wy hSw; go_simp; try with_reducible rfl)
      simp only [Act.put, List.setIfInBounds_toArray, List.set_cons_zero, List.set_cons_succ]
      refine drawn_take 11 rfl (by kernel_rfl) (by kernel_rfl) (by kernel_rfl) (fun _ _ _ h => h) (by rfl) (by assumption) (v := ?_) ?_ ?_
      rotate_left
      · (intro wy hSw; go_simp; try with_reducible rfl)
      simp only [Act.put, List.setIfInBounds_toArray, List.set_cons_zero, List.set_cons_succ]
      refine drawn_take 12 rfl (by kernel_rfl) (by kernel_rfl) (by kernel_rfl) (fun _ _ _ h => h) (by rfl) (by assumption) (v := ?_) ?_ ?_
      rotate_left
      · (intro wy hSw; go_simp; try with_reducible rfl)
      simp only [Act.put, List.setIfInBounds_toArray, List.set_cons_zero, List.set_cons_succ]
      refine drawn_pair 0 7 rfl rfl (by kernel_rfl) (fun K hK => ?_) (fun K hK => ?_)
      · have hbE : Below wz.heap.size wz (wz.drew.alloc (.cells #[] 49)) := (Below.drew (Below.refl _ _)).alloc (Nat.le_refl _) _
        have hmE := Made.lit0 wz.drew wz.heap.size w.heap.size (Nat.le_refl _) HWW.out.1
        have hszE : (wz.drew.alloc (.cells #[] 49)).heap.size = wz.heap.size + 1 := by simp
        have HSE : Hid ((wz.drew.alloc (.cells #[] 49)).cell? ⟨X2, 1, none⟩ = some (.slice A4 0 c4)) := Lib.hid (HAL.out _ (HPZ.out.trans (hbE.mono HPZ.out.size))).2.2
        try (rw [if_pos]; case hc => rfl)
        go_simp
        refine hK.out _ _ (HSE.out) (fun hHeld2 => ?_)
        clear hK K hHeld
        have hHeld := hHeld2
        clear hHeld2
        refine drawn_pair 5 7 rfl rfl (by kernel_rfl) (fun K hK => ?_) (fun K hK => ?_)
        · obtain ⟨B5, d5, w5, B6, d6, w6, A7, c7, w7, hr5, hr6, hr7, hm7, hb5, hb6, hb7⟩ := chain_mid (c1 := c4) (c2 := c4) hmE (by rw [hszE]; omega) (by rw [hszE]; have := HWW.out.1; omega) nop_ok ((HPR.out.old (HOL.out _ (HPZ.out.trans (hbE.mono HPZ.out.size))) rfl)) HLP.out.1 HLP.out.2 (by omega) HWW.out.1 ((HSU.out.old (HOL.out _ (HPZ.out.trans (hbE.mono HPZ.out.size))) rfl))
          replace hb5 := hbE.trans hb5
          replace hb6 := hbE.trans hb6
          replace hb7 := hbE.trans hb7
          have HSL : Hid ((w5.alloc (.cells #[.int .u8 1, .int .u32 0, .int .u32 0, .int .i64 0, .slice none 0 0] 49)).cell? ⟨X2, 1, none⟩ = some (.slice A4 0 c4)) := Lib.hid (HAL.out _ ((HPZ.out.trans (hb5.mono HPZ.out.size)).alloc (HPZ.out.trans (hb5.mono HPZ.out.size)).size _)).2.2
          have HBW7 := Lib.hid hb7
          have HM7 := Lib.hid hm7
          have HR5 := Lib.hid hr5
          have HR6 := Lib.hid hr6
          have HR7 := Lib.hid hr7
          have HB5 := Lib.hid hb5
          have HB6 := Lib.hid hb6
          clear hb7 hm7 hr5 hr6 hr7 hb5 hb6
          rw [if_pos]
          case hc => rfl
          refine wp_appendX (.tmp 54) (.tmp 58) 38 rfl _ _ _ _ rfl rfl HR5.out ?_
          refine hK.out _ _ ((HAL.out _ (HPZ.out.trans (HB5.out.mono HPZ.out.size))).2.2) (fun hHeld2 => ?_)
          clear hK K hHeld
          have hHeld := hHeld2
          clear hHeld2
          try simp only [Act.put, List.setIfInBounds_toArray, List.set_cons_zero, List.set_cons_succ]
          refine drawn_sole 7 rfl (by kernel_rfl) (fun K hK => ?_)
          try (rw [if_pos]; case hc => rfl)
          go_simp
          refine hK.out _ _ (HSL.out) (fun hHeld2 => ?_)
          clear hK K hHeld
          have hHeld := hHeld2
          clear hHeld2
          refine drawn_sole 8 rfl (by kernel_rfl) (fun K hK => ?_)
          rw [if_pos]
          case hc => rfl
          refine wp_appendX (.tmp 59) (.tmp 61) 38 rfl _ _ _ _ rfl rfl HR6.out ?_
          refine hK.out _ _ ((HAL.out _ (HPZ.out.trans (HB6.out.mono HPZ.out.size))).2.2) (fun hHeld2 => ?_)
          clear hK K hHeld
          have hHeld := hHeld2
          clear hHeld2
          try simp only [Act.put, List.setIfInBounds_toArray, List.set_cons_zero, List.set_cons_succ]
          refine drawn_sole 13 rfl (by kernel_rfl) (fun K hK => ?_)
          rw [if_pos]
          case hc => rfl
          refine wp_appendX (.tmp 62) (.tmp 66) 38 rfl _ _ _ _ rfl rfl HR7.out ?_
          refine hK.out _ _ ((HAL.out _ (HPZ.out.trans (HBW7.out.mono HPZ.out.size))).2.2) (fun hHeld2 => ?_)
          clear hK K hHeld
          have hHeld := hHeld2
          clear hHeld2
          try simp only [Act.put, List.setIfInBounds_toArray, List.set_cons_zero, List.set_cons_succ]
          have hbz := HBW7.out
          have HZ7 : Hid (w7.heap[Z]? = some (.cells #[.slice A3 n3 c3, .slice A4 0 c4] 40 (0, 0))) := Lib.hid ((hbz.block Z HWW.out.2).trans HZ0.out)
          have HM8 : Hid (Mod (· = Z) w7 (w7.setCell ⟨Z, 1, none⟩ (.slice A7 (0 + 1 + 0) c7))) := Lib.hid (Mod.setCell (T := (· = Z)) (Mod.refl _ w7) (fun _ => rfl) _)
          have HP7 : Hid (Below wP.heap.size wP w7) := Lib.hid (HPZ.out.trans (hbz.mono HPZ.out.size))
          have HP8 : Hid (Below wP.heap.size wP (w7.setCell ⟨Z, 1, none⟩ (.slice A7 (0 + 1 + 0) c7))) := Lib.hid (HP7.out.trans (HM8.out.below HP7.out.size (fun j hj e => by have := HZL.out; omega)))
          have HZ8 : Hid ((w7.setCell ⟨Z, 1, none⟩ (.slice A7 (0 + 1 + 0) c7)).heap[Z]? = some (.cells #[.slice A3 n3 c3, .slice A7 (0 + 1 + 0) c7] 40 (0, 0))) := Lib.hid (by rw [heap_setCell_same w7 Z 1 _ _ _ HZ7.out]; rfl)
          have HV8 := Lib.hid ((HM7.out.store HM8.out (Nat.le_trans (HOL.out _ HPZ.out |>.size |> fun _ => HBP.out.size) HZL.out) HWW.out.2).slice)
          have HC7 : Hid (w7.cell? ⟨Z, 1, none⟩ = some (.slice A4 0 c4)) := Lib.hid (two_cells HZ7.out).2
          have HF7 : Hid (w7.frozen? ⟨Z, 1, none⟩ = false) := Lib.hid (frozen_of_row w7 Z 1 _ _ HZ7.out)
          refine drawn_take 14 rfl (by kernel_rfl) (by kernel_rfl) (by kernel_rfl) (fun _ _ _ h => h) (by rfl) (by assumption) (v := ?_) ?_ ?_
          rotate_left
          · (intro wy hSw; go_simp; try with_reducible rfl)
          simp only [Act.put, List.setIfInBounds_toArray, List.set_cons_zero, List.set_cons_succ]
          refine drawn_sole 15 rfl (by kernel_rfl) (fun K hK => ?_)
          have hl := HC7.out
          have gl := HF7.out
          try (rw [if_pos]; case hc => rfl)
          go_simp
          clear hl gl
          refine hK.out _ _ (HAL.out _ HP8.out).2.2 (fun hHeld2 => ?_)
          clear hK K hHeld
          have hHeld := hHeld2
          clear hHeld2
          refine wpAnyH_done (by kernel_rfl) ?_ _
          have hlen : 0 + 1 + 0 = 0 + 1 := by omega
          have hz8 := HZ8.out
          have hv8 := HV8.out
          have hp8 := HP8.out
          simp only [hlen] at hz8 hv8 hp8 ⊢
          go_wp2_with fail
          go_meet
          case rel => exact ⟨A7, c7, Lib.hid hp8, Lib.hid hz8, Lib.hid hv8⟩
        · have hbL : Below wz.heap.size wz ((wz.drew.alloc (.cells #[] 49)).alloc (.cells #[.int .u8 1, .int .u32 0, .int .u32 0, .int .i64 0, .slice none 0 0] 49)) := hbE.alloc (by rw [hszE]; omega) _
          have hlL := heap_alloc_new (wz.drew.alloc (.cells #[] 49)) (.cells #[.int .u8 1, .int .u32 0, .int .u32 0, .int .i64 0, .slice none 0 0] 49)
          rw [hszE] at hlL
          have hszL : ((wz.drew.alloc (.cells #[] 49)).alloc (.cells #[.int .u8 1, .int .u32 0, .int .u32 0, .int .i64 0, .slice none 0 0] 49)).heap.size = wz.heap.size + 2 := by simp
          obtain ⟨B5, d5, w5, B6, d6, w6, A7, c7, w7, hr5, hr6, hr7, hm7, hb5, hb6, hb7⟩ := chain_two (c1 := c4) (c2 := c4) (hmE.on ((Below.refl _ _).alloc (Nat.le_refl _) (.cells #[.int .u8 1, .int .u32 0, .int .u32 0, .int .i64 0, .slice none 0 0] 49))) (by rw [hszL]; omega) (by rw [hszL]; have := HWW.out.1; omega) nop_ok ((HPR.out.old (HOL.out _ (HPZ.out.trans (hbL.mono HPZ.out.size))) rfl)) HLP.out.1 HLP.out.2 (by omega) HWW.out.1 ((HSU.out.old (HOL.out _ (HPZ.out.trans (hbL.mono HPZ.out.size))) rfl)) hlL (by omega) (fun e => by simp [Value.ownBlock] at e)
          replace hb5 := hbL.trans hb5
          replace hb6 := hbL.trans hb6
          replace hb7 := hbL.trans hb7
          have HSL : Hid (((wz.drew.alloc (.cells #[] 49)).alloc (.cells #[.int .u8 1, .int .u32 0, .int .u32 0, .int .i64 0, .slice none 0 0] 49)).cell? ⟨X2, 1, none⟩ = some (.slice A4 0 c4)) := Lib.hid (HAL.out _ (HPZ.out.trans (hbL.mono HPZ.out.size))).2.2
          have HBW7 := Lib.hid hb7
          have HM7 := Lib.hid hm7
          have HR5 := Lib.hid hr5
          have HR6 := Lib.hid hr6
          have HR7 := Lib.hid hr7
          have HB5 := Lib.hid hb5
          have HB6 := Lib.hid hb6
          clear hb7 hm7 hr5 hr6 hr7 hb5 hb6
          try (rw [if_pos]; case hc => rfl)
          go_simp
          refine hK.out _ _ (HSL.out) (fun hHeld2 => ?_)
          clear hK K hHeld
          have hHeld := hHeld2
          clear hHeld2
          refine drawn_sole 5 rfl (by kernel_rfl) (fun K hK => ?_)
          rw [if_pos]
          case hc => rfl
          refine wp_appendX (.tmp 54) (.tmp 58) 38 rfl _ _ _ _ rfl rfl HR5.out ?_
          refine hK.out _ _ ((HAL.out _ (HPZ.out.trans (HB5.out.mono HPZ.out.size))).2.2) (fun hHeld2 => ?_)
          clear hK K hHeld
          have hHeld := hHeld2
          clear hHeld2
          try simp only [Act.put, List.setIfInBounds_toArray, List.set_cons_zero, List.set_cons_succ]
          refine drawn_sole 8 rfl (by kernel_rfl) (fun K hK => ?_)
          rw [if_pos]
          case hc => rfl
          refine wp_appendX (.tmp 59) (.tmp 61) 38 rfl _ _ _ _ rfl rfl HR6.out ?_
          refine hK.out _ _ ((HAL.out _ (HPZ.out.trans (HB6.out.mono HPZ.out.size))).2.2) (fun hHeld2 => ?_)
          clear hK K hHeld
          have hHeld := hHeld2
          clear hHeld2
          try simp only [Act.put, List.setIfInBounds_toArray, List.set_cons_zero, List.set_cons_succ]
          refine drawn_sole 13 rfl (by kernel_rfl) (fun K hK => ?_)
          rw [if_pos]
          case hc => rfl
          refine wp_appendX (.tmp 62) (.tmp 66) 38 rfl _ _ _ _ rfl rfl HR7.out ?_
          refine hK.out _ _ ((HAL.out _ (HPZ.out.trans (HBW7.out.mono HPZ.out.size))).2.2) (fun hHeld2 => ?_)
          clear hK K hHeld
          have hHeld := hHeld2
          clear hHeld2
          try simp only [Act.put, List.setIfInBounds_toArray, List.set_cons_zero, List.set_cons_succ]
          have hbz := HBW7.out
          have HZ7 : Hid (w7.heap[Z]? = some (.cells #[.slice A3 n3 c3, .slice A4 0 c4] 40 (0, 0))) := Lib.hid ((hbz.block Z HWW.out.2).trans HZ0.out)
          have HM8 : Hid (Mod (· = Z) w7 (w7.setCell ⟨Z, 1, none⟩ (.slice A7 (0 + 1 + 0) c7))) := Lib.hid (Mod.setCell (T := (· = Z)) (Mod.refl _ w7) (fun _ => rfl) _)
          have HP7 : Hid (Below wP.heap.size wP w7) := Lib.hid (HPZ.out.trans (hbz.mono HPZ.out.size))
          have HP8 : Hid (Below wP.heap.size wP (w7.setCell ⟨Z, 1, none⟩ (.slice A7 (0 + 1 + 0) c7))) := Lib.hid (HP7.out.trans (HM8.out.below HP7.out.size (fun j hj e => by have := HZL.out; omega)))
          have HZ8 : Hid ((w7.setCell ⟨Z, 1, none⟩ (.slice A7 (0 + 1 + 0) c7)).heap[Z]? = some (.cells #[.slice A3 n3 c3, .slice A7 (0 + 1 + 0) c7] 40 (0, 0))) := Lib.hid (by rw [heap_setCell_same w7 Z 1 _ _ _ HZ7.out]; rfl)
          have HV8 := Lib.hid ((HM7.out.store HM8.out (Nat.le_trans (HOL.out _ HPZ.out |>.size |> fun _ => HBP.out.size) HZL.out) HWW.out.2).slice)
          have HC7 : Hid (w7.cell? ⟨Z, 1, none⟩ = some (.slice A4 0 c4)) := Lib.hid (two_cells HZ7.out).2
          have HF7 : Hid (w7.frozen? ⟨Z, 1, none⟩ = false) := Lib.hid (frozen_of_row w7 Z 1 _ _ HZ7.out)
          refine drawn_take 14 rfl (by kernel_rfl) (by kernel_rfl) (by kernel_rfl) (fun _ _ _ h => h) (by rfl) (by assumption) (v := ?_) ?_ ?_
          rotate_left
          · (intro wy hSw; go_simp; try with_reducible rfl)
          simp only [Act.put, List.setIfInBounds_toArray, List.set_cons_zero, List.set_cons_succ]
          refine drawn_sole 15 rfl (by kernel_rfl) (fun K hK => ?_)
          have hl := HC7.out
          have gl := HF7.out
          try (rw [if_pos]; case hc => rfl)
          go_simp
          clear hl gl
          refine hK.out _ _ (HAL.out _ HP8.out).2.2 (fun hHeld2 => ?_)
          clear hK K hHeld
          have hHeld := hHeld2
          clear hHeld2
          refine wpAnyH_done (by kernel_rfl) ?_ _
          have hlen : 0 + 1 + 0 = 0 + 1 := by omega
          have hz8 := HZ8.out
          have hv8 := HV8.out
          have hp8 := HP8.out
          simp only [hlen] at hz8 hv8 hp8 ⊢
          go_wp2_with fail
          go_meet
          case rel => exact ⟨A7, c7, Lib.hid hp8, Lib.hid hz8, Lib.hid hv8⟩
      · have hbN : Below wz.heap.size wz (wz.drew.alloc (.cells #[.int .u8 1, .int .u32 0, .int .u32 0, .int .i64 0, .slice none 0 0] 49)) := (Below.drew (Below.refl _ _)).alloc (Nat.le_refl _) _
        have hszN : (wz.drew.alloc (.cells #[.int .u8 1, .int .u32 0, .int .u32 0, .int .i64 0, .slice none 0 0] 49)).heap.size = wz.heap.size + 1 := by simp
        have hbL : Below wz.heap.size wz ((wz.drew.alloc (.cells #[.int .u8 1, .int .u32 0, .int .u32 0, .int .i64 0, .slice none 0 0] 49)).alloc (.cells #[] 49)) := hbN.alloc (by rw [hszN]; omega) _
        have hlN := (Below.heap_alloc (wz.drew.alloc (.cells #[.int .u8 1, .int .u32 0, .int .u32 0, .int .i64 0, .slice none 0 0] 49)) (.cells #[] 49) wz.heap.size (by rw [hszN]; omega)).trans (heap_alloc_new wz.drew (.cells #[.int .u8 1, .int .u32 0, .int .u32 0, .int .i64 0, .slice none 0 0] 49))
        have hmE := Made.lit0 (wz.drew.alloc (.cells #[.int .u8 1, .int .u32 0, .int .u32 0, .int .i64 0, .slice none 0 0] 49)) wz.heap.size w.heap.size (by rw [hszN]; omega) (by rw [hszN]; have := HWW.out.1; omega)
        rw [hszN] at hmE
        have hszL : ((wz.drew.alloc (.cells #[.int .u8 1, .int .u32 0, .int .u32 0, .int .i64 0, .slice none 0 0] 49)).alloc (.cells #[] 49)).heap.size = wz.heap.size + 2 := by simp
        obtain ⟨B5, d5, w5, B6, d6, w6, A7, c7, w7, hr5, hr6, hr7, hm7, hb5, hb6, hb7⟩ := chain_two (c1 := c4) (c2 := c4) hmE (by rw [hszL]; omega) (by rw [hszL]; have := HWW.out.1; omega) nop_ok ((HPR.out.old (HOL.out _ (HPZ.out.trans (hbL.mono HPZ.out.size))) rfl)) HLP.out.1 HLP.out.2 (by omega) HWW.out.1 ((HSU.out.old (HOL.out _ (HPZ.out.trans (hbL.mono HPZ.out.size))) rfl)) hlN (Nat.le_refl _) (fun e => by simp [Value.ownBlock] at e)
        replace hb5 := hbL.trans hb5
        replace hb6 := hbL.trans hb6
        replace hb7 := hbL.trans hb7
        have HSN : Hid ((wz.drew.alloc (.cells #[.int .u8 1, .int .u32 0, .int .u32 0, .int .i64 0, .slice none 0 0] 49)).cell? ⟨X2, 1, none⟩ = some (.slice A4 0 c4)) := Lib.hid (HAL.out _ (HPZ.out.trans (hbN.mono HPZ.out.size))).2.2
        have HSL : Hid (((wz.drew.alloc (.cells #[.int .u8 1, .int .u32 0, .int .u32 0, .int .i64 0, .slice none 0 0] 49)).alloc (.cells #[] 49)).cell? ⟨X2, 1, none⟩ = some (.slice A4 0 c4)) := Lib.hid (HAL.out _ (HPZ.out.trans (hbL.mono HPZ.out.size))).2.2
        have HBW7 := Lib.hid hb7
        have HM7 := Lib.hid hm7
        have HR5 := Lib.hid hr5
        have HR6 := Lib.hid hr6
        have HR7 := Lib.hid hr7
        have HB5 := Lib.hid hb5
        have HB6 := Lib.hid hb6
        clear hb7 hm7 hr5 hr6 hr7 hb5 hb6
        try (rw [if_pos]; case hc => rfl)
        go_simp
        refine hK.out _ _ (HSN.out) (fun hHeld2 => ?_)
        clear hK K hHeld
        have hHeld := hHeld2
        clear hHeld2
        refine drawn_sole 0 rfl (by kernel_rfl) (fun K hK => ?_)
        try (rw [if_pos]; case hc => rfl)
        go_simp
        refine hK.out _ _ (HSL.out) (fun hHeld2 => ?_)
        clear hK K hHeld
        have hHeld := hHeld2
        clear hHeld2
        refine drawn_sole 5 rfl (by kernel_rfl) (fun K hK => ?_)
        rw [if_pos]
        case hc => rfl
        refine wp_appendX (.tmp 54) (.tmp 58) 38 rfl _ _ _ _ rfl rfl HR5.out ?_
        refine hK.out _ _ ((HAL.out _ (HPZ.out.trans (HB5.out.mono HPZ.out.size))).2.2) (fun hHeld2 => ?_)
        clear hK K hHeld
        have hHeld := hHeld2
        clear hHeld2
        try simp only [Act.put, List.setIfInBounds_toArray, List.set_cons_zero, List.set_cons_succ]
        refine drawn_sole 8 rfl (by kernel_rfl) (fun K hK => ?_)
        rw [if_pos]
        case hc => rfl
        refine wp_appendX (.tmp 59) (.tmp 61) 38 rfl _ _ _ _ rfl rfl HR6.out ?_
        refine hK.out _ _ ((HAL.out _ (HPZ.out.trans (HB6.out.mono HPZ.out.size))).2.2) (fun hHeld2 => ?_)
        clear hK K hHeld
        have hHeld := hHeld2
        clear hHeld2
        try simp only [Act.put, List.setIfInBounds_toArray, List.set_cons_zero, List.set_cons_succ]
        refine drawn_sole 13 rfl (by kernel_rfl) (fun K hK => ?_)
        rw [if_pos]
        case hc => rfl
        refine wp_appendX (.tmp 62) (.tmp 66) 38 rfl _ _ _ _ rfl rfl HR7.out ?_
        refine hK.out _ _ ((HAL.out _ (HPZ.out.trans (HBW7.out.mono HPZ.out.size))).2.2) (fun hHeld2 => ?_)
        clear hK K hHeld
        have hHeld := hHeld2
        clear hHeld2
        try simp only [Act.put, List.setIfInBounds_toArray, List.set_cons_zero, List.set_cons_succ]
        have hbz := HBW7.out
        have HZ7 : Hid (w7.heap[Z]? = some (.cells #[.slice A3 n3 c3, .slice A4 0 c4] 40 (0, 0))) := Lib.hid ((hbz.block Z HWW.out.2).trans HZ0.out)
        have HM8 : Hid (Mod (· = Z) w7 (w7.setCell ⟨Z, 1, none⟩ (.slice A7 (0 + 1 + 0) c7))) := Lib.hid (Mod.setCell (T := (· = Z)) (Mod.refl _ w7) (fun _ => rfl) _)
        have HP7 : Hid (Below wP.heap.size wP w7) := Lib.hid (HPZ.out.trans (hbz.mono HPZ.out.size))
        have HP8 : Hid (Below wP.heap.size wP (w7.setCell ⟨Z, 1, none⟩ (.slice A7 (0 + 1 + 0) c7))) := Lib.hid (HP7.out.trans (HM8.out.below HP7.out.size (fun j hj e => by have := HZL.out; omega)))
        have HZ8 : Hid ((w7.setCell ⟨Z, 1, none⟩ (.slice A7 (0 + 1 + 0) c7)).heap[Z]? = some (.cells #[.slice A3 n3 c3, .slice A7 (0 + 1 + 0) c7] 40 (0, 0))) := Lib.hid (by rw [heap_setCell_same w7 Z 1 _ _ _ HZ7.out]; rfl)
        have HV8 := Lib.hid ((HM7.out.store HM8.out (Nat.le_trans (HOL.out _ HPZ.out |>.size |> fun _ => HBP.out.size) HZL.out) HWW.out.2).slice)
        have HC7 : Hid (w7.cell? ⟨Z, 1, none⟩ = some (.slice A4 0 c4)) := Lib.hid (two_cells HZ7.out).2
        have HF7 : Hid (w7.frozen? ⟨Z, 1, none⟩ = false) := Lib.hid (frozen_of_row w7 Z 1 _ _ HZ7.out)
        refine drawn_take 14 rfl (by kernel_rfl) (by kernel_rfl) (by kernel_rfl) (fun _ _ _ h => h) (by rfl) (by assumption) (v := ?_) ?_ ?_
        rotate_left
        · (intro wy hSw; go_simp; try with_reducible rfl)
        simp only [Act.put, List.setIfInBounds_toArray, List.set_cons_zero, List.set_cons_succ]
        refine drawn_sole 15 rfl (by kernel_rfl) (fun K hK => ?_)
        have hl := HC7.out
        have gl := HF7.out
        try (rw [if_pos]; case hc => rfl)
        go_simp
        clear hl gl
        refine hK.out _ _ (HAL.out _ HP8.out).2.2 (fun hHeld2 => ?_)
        clear hK K hHeld
        have hHeld := hHeld2
        clear hHeld2
        refine wpAnyH_done (by kernel_rfl) ?_ _
        have hlen : 0 + 1 + 0 = 0 + 1 := by omega
        have hz8 := HZ8.out
        have hv8 := HV8.out
        have hp8 := HP8.out
        simp only [hlen] at hz8 hv8 hp8 ⊢
        go_wp2_with fail
        go_meet
        case rel => exact ⟨A7, c7, Lib.hid hp8, Lib.hid hz8, Lib.hid hv8⟩
    obtain ⟨x0, hx0⟩ : ∃ x, xs[0]? = some x := ⟨_, List.getElem?_eq_getElem (by have := HN4.out; omega)⟩
    obtain ⟨g4, o4, cs4, rfl, _⟩ := HL4.out 0 x0 hx0
    clear hx0
    have hck2 : ¬ (c4 - k = 0) := by omega
    have HPR : Hid (HasL w (· < w.heap.size) (some ⟨g4, o4, none⟩) (xs.take k)) := Lib.hid (HL4.out.upto k)
    have HSU : Hid (HasL w (· < w.heap.size) (some ⟨g4, o4 + k * 5, none⟩) (xs.drop k)) := Lib.hid (HL4.out.from k)
    have HLP : Hid (k = (xs.take k).length ∧ (n4 - k) = (xs.drop k).length) := Lib.hid ⟨by rw [List.length_take]; have := HN4.out; omega, by rw [List.length_drop]; have := HN4.out; omega⟩
    have HWW : Hid (w.heap.size ≤ wz.heap.size ∧ Z < wz.heap.size) := Lib.hid ⟨(HOL.out _ HPZ.out).size, (Array.getElem?_eq_some_iff.1 HZ0.out).1⟩
    have HS0 : Hid (wz.drew.cell? ⟨X2, 1, none⟩ = some (.slice (some ⟨g4, o4, none⟩) n4 c4)) := Lib.hid (HAL.out wz HPZ.out).2.2
    refine wp_region_held_drew (S := fun W' => W'.cell? ⟨X2, 1, none⟩ = some (.slice (some ⟨g4, o4, none⟩) n4 c4)) (by kernel_rfl) (HS0.out) (fun hHeld => ?_)
    refine drawn_take 1 rfl (by kernel_rfl) (by kernel_rfl) (by kernel_rfl) (fun _ _ _ h => h) (by rfl) (by assumption) (v := ?_) ?_ ?_
    rotate_left
    · (intro wy hSw; go_simp; try with_reducible rfl)
    simp only [Act.put, List.setIfInBounds_toArray, List.set_cons_zero, List.set_cons_succ]
    refine drawn_take 2 rfl (by kernel_rfl) (by kernel_rfl) (by kernel_rfl) (fun _ _ _ h => h) (by rfl) (by assumption) (v := ?_) ?_ ?_
    rotate_left
    · (intro wy hSw; go_simp; try with_reducible rfl)
    simp only [Act.put, List.setIfInBounds_toArray, List.set_cons_zero, List.set_cons_succ]
    refine drawn_take 3 rfl (by kernel_rfl) (by kernel_rfl) (by kernel_rfl) (fun _ _ _ h => h) (by rfl) (by assumption) (v := ?_) ?_ ?_
    rotate_left
    · (intro wy hSw; go_simp; try with_reducible rfl)
    simp only [Act.put, List.setIfInBounds_toArray, List.set_cons_zero, List.set_cons_succ]
    refine drawn_take 4 rfl (by kernel_rfl) (by kernel_rfl) (by kernel_rfl) (fun _ _ _ h => h) (by rfl) (by assumption) (v := ?_) ?_ ?_
    rotate_left
    · (intro wy hSw; go_simp; try with_reducible rfl)
    simp only [Act.put, List.setIfInBounds_toArray, List.set_cons_zero, List.set_cons_succ]
    refine drawn_take 6 rfl (by kernel_rfl) (by kernel_rfl) (by kernel_rfl) (fun _ _ _ h => h) (by rfl) (by assumption) (v := ?_) ?_ ?_
    rotate_left
    · (intro wy hSw; go_simp; try with_reducible rfl)
    simp only [Act.put, List.setIfInBounds_toArray, List.set_cons_zero, List.set_cons_succ]
    refine drawn_take 9 rfl (by kernel_rfl) (by kernel_rfl) (by kernel_rfl) (fun _ _ _ h => h) (by rfl) (by assumption) (v := ?_) ?_ ?_
    rotate_left
    · (intro wy hSw; go_simp; try with_reducible rfl)
    simp only [Act.put, List.setIfInBounds_toArray, List.set_cons_zero, List.set_cons_succ]
    refine drawn_take 10 rfl (by kernel_rfl) (by kernel_rfl) (by kernel_rfl) (fun _ _ _ h => h) (by rfl) (by assumption) (v := ?_) ?_ ?_
    rotate_left
    · (intro wy hSw; go_simp; try with_reducible rfl)
    simp only [Act.put, List.setIfInBounds_toArray, List.set_cons_zero, List.set_cons_succ]
    refine drawn_take 11 rfl (by kernel_rfl) (by kernel_rfl) (by kernel_rfl) (fun _ _ _ h => h) (by rfl) (by assumption) (v := ?_) ?_ ?_
    rotate_left
    · (intro wy hSw; go_simp; try with_reducible rfl)
    simp only [Act.put, List.setIfInBounds_toArray, List.set_cons_zero, List.set_cons_succ]
    refine drawn_take 12 rfl (by kernel_rfl) (by kernel_rfl) (by kernel_rfl) (fun _ _ _ h => h) (by rfl) (by assumption) (v := ?_) ?_ ?_
    rotate_left
    · (intro wy hSw; go_simp; try with_reducible rfl)
    simp only [Act.put, List.setIfInBounds_toArray, List.set_cons_zero, List.set_cons_succ]
    refine drawn_pair 0 7 rfl rfl (by kernel_rfl) (fun K hK => ?_) (fun K hK => ?_)
    · have hbE : Below wz.heap.size wz (wz.drew.alloc (.cells #[] 49)) := (Below.drew (Below.refl _ _)).alloc (Nat.le_refl _) _
      have hmE := Made.lit0 wz.drew wz.heap.size w.heap.size (Nat.le_refl _) HWW.out.1
      have hszE : (wz.drew.alloc (.cells #[] 49)).heap.size = wz.heap.size + 1 := by simp
      have HSE : Hid ((wz.drew.alloc (.cells #[] 49)).cell? ⟨X2, 1, none⟩ = some (.slice (some ⟨g4, o4, none⟩) n4 c4)) := Lib.hid (HAL.out _ (HPZ.out.trans (hbE.mono HPZ.out.size))).2.2
      try (rw [if_pos]; case hc => rfl)
      go_simp
      refine hK.out _ _ (HSE.out) (fun hHeld2 => ?_)
      clear hK K hHeld
      have hHeld := hHeld2
      clear hHeld2
      refine drawn_pair 5 7 rfl rfl (by kernel_rfl) (fun K hK => ?_) (fun K hK => ?_)
      · obtain ⟨B5, d5, w5, B6, d6, w6, A7, c7, w7, hr5, hr6, hr7, hm7, hb5, hb6, hb7⟩ := chain_mid (c1 := c4) (c2 := (c4 - k)) hmE (by rw [hszE]; omega) (by rw [hszE]; have := HWW.out.1; omega) nop_ok ((HPR.out.old (HOL.out _ (HPZ.out.trans (hbE.mono HPZ.out.size))) rfl)) HLP.out.1 HLP.out.2 (by omega) HWW.out.1 ((HSU.out.old (HOL.out _ (HPZ.out.trans (hbE.mono HPZ.out.size))) rfl))
        replace hb5 := hbE.trans hb5
        replace hb6 := hbE.trans hb6
        replace hb7 := hbE.trans hb7
        have HSL : Hid ((w5.alloc (.cells #[.int .u8 1, .int .u32 0, .int .u32 0, .int .i64 0, .slice none 0 0] 49)).cell? ⟨X2, 1, none⟩ = some (.slice (some ⟨g4, o4, none⟩) n4 c4)) := Lib.hid (HAL.out _ ((HPZ.out.trans (hb5.mono HPZ.out.size)).alloc (HPZ.out.trans (hb5.mono HPZ.out.size)).size _)).2.2
        have HBW7 := Lib.hid hb7
        have HM7 := Lib.hid hm7
        have HR5 := Lib.hid hr5
        have HR6 := Lib.hid hr6
        have HR7 := Lib.hid hr7
        have HB5 := Lib.hid hb5
        have HB6 := Lib.hid hb6
        clear hb7 hm7 hr5 hr6 hr7 hb5 hb6
        rw [if_pos]
        case hc => rfl
        refine wp_appendX (.tmp 54) (.tmp 58) 38 rfl _ _ _ _ rfl rfl HR5.out ?_
        refine hK.out _ _ ((HAL.out _ (HPZ.out.trans (HB5.out.mono HPZ.out.size))).2.2) (fun hHeld2 => ?_)
        clear hK K hHeld
        have hHeld := hHeld2
        clear hHeld2
        try simp only [Act.put, List.setIfInBounds_toArray, List.set_cons_zero, List.set_cons_succ]
        refine drawn_sole 7 rfl (by kernel_rfl) (fun K hK => ?_)
        try (rw [if_pos]; case hc => rfl)
        go_simp
        refine hK.out _ _ (HSL.out) (fun hHeld2 => ?_)
        clear hK K hHeld
        have hHeld := hHeld2
        clear hHeld2
        refine drawn_sole 8 rfl (by kernel_rfl) (fun K hK => ?_)
        rw [if_pos]
        case hc => rfl
        refine wp_appendX (.tmp 59) (.tmp 61) 38 rfl _ _ _ _ rfl rfl HR6.out ?_
        refine hK.out _ _ ((HAL.out _ (HPZ.out.trans (HB6.out.mono HPZ.out.size))).2.2) (fun hHeld2 => ?_)
        clear hK K hHeld
        have hHeld := hHeld2
        clear hHeld2
        try simp only [Act.put, List.setIfInBounds_toArray, List.set_cons_zero, List.set_cons_succ]
        refine drawn_sole 13 rfl (by kernel_rfl) (fun K hK => ?_)
        rw [if_pos]
        case hc => rfl
        refine wp_appendX (.tmp 62) (.tmp 66) 38 rfl _ _ _ _ rfl rfl HR7.out ?_
        refine hK.out _ _ ((HAL.out _ (HPZ.out.trans (HBW7.out.mono HPZ.out.size))).2.2) (fun hHeld2 => ?_)
        clear hK K hHeld
        have hHeld := hHeld2
        clear hHeld2
        try simp only [Act.put, List.setIfInBounds_toArray, List.set_cons_zero, List.set_cons_succ]
        have hbz := HBW7.out
        have HZ7 : Hid (w7.heap[Z]? = some (.cells #[.slice A3 n3 c3, .slice (some ⟨g4, o4, none⟩) n4 c4] 40 (0, 0))) := Lib.hid ((hbz.block Z HWW.out.2).trans HZ0.out)
        have HM8 : Hid (Mod (· = Z) w7 (w7.setCell ⟨Z, 1, none⟩ (.slice A7 (k + 1 + (n4 - k)) c7))) := Lib.hid (Mod.setCell (T := (· = Z)) (Mod.refl _ w7) (fun _ => rfl) _)
        have HP7 : Hid (Below wP.heap.size wP w7) := Lib.hid (HPZ.out.trans (hbz.mono HPZ.out.size))
        have HP8 : Hid (Below wP.heap.size wP (w7.setCell ⟨Z, 1, none⟩ (.slice A7 (k + 1 + (n4 - k)) c7))) := Lib.hid (HP7.out.trans (HM8.out.below HP7.out.size (fun j hj e => by have := HZL.out; omega)))
        have HZ8 : Hid ((w7.setCell ⟨Z, 1, none⟩ (.slice A7 (k + 1 + (n4 - k)) c7)).heap[Z]? = some (.cells #[.slice A3 n3 c3, .slice A7 (k + 1 + (n4 - k)) c7] 40 (0, 0))) := Lib.hid (by rw [heap_setCell_same w7 Z 1 _ _ _ HZ7.out]; rfl)
        have HV8 := Lib.hid ((HM7.out.store HM8.out (Nat.le_trans (HOL.out _ HPZ.out |>.size |> fun _ => HBP.out.size) HZL.out) HWW.out.2).slice)
        have HC7 : Hid (w7.cell? ⟨Z, 1, none⟩ = some (.slice (some ⟨g4, o4, none⟩) n4 c4)) := Lib.hid (two_cells HZ7.out).2
        have HF7 : Hid (w7.frozen? ⟨Z, 1, none⟩ = false) := Lib.hid (frozen_of_row w7 Z 1 _ _ HZ7.out)
        refine drawn_take 14 rfl (by kernel_rfl) (by kernel_rfl) (by kernel_rfl) (fun _ _ _ h => h) (by rfl) (by assumption) (v := ?_) ?_ ?_
        rotate_left
        · (intro wy hSw; go_simp; try with_reducible rfl)
        simp only [Act.put, List.setIfInBounds_toArray, List.set_cons_zero, List.set_cons_succ]
        refine drawn_sole 15 rfl (by kernel_rfl) (fun K hK => ?_)
        have hl := HC7.out
        have gl := HF7.out
        try (rw [if_pos]; case hc => rfl)
        go_simp
        clear hl gl
        refine hK.out _ _ (HAL.out _ HP8.out).2.2 (fun hHeld2 => ?_)
        clear hK K hHeld
        have hHeld := hHeld2
        clear hHeld2
        refine wpAnyH_done (by kernel_rfl) ?_ _
        have hlen : k + 1 + (n4 - k) = n4 + 1 := by omega
        have hz8 := HZ8.out
        have hv8 := HV8.out
        have hp8 := HP8.out
        simp only [hlen] at hz8 hv8 hp8 ⊢
        go_wp2_with fail
        go_meet
        case rel => exact ⟨A7, c7, Lib.hid hp8, Lib.hid hz8, Lib.hid hv8⟩
      · have hbL : Below wz.heap.size wz ((wz.drew.alloc (.cells #[] 49)).alloc (.cells #[.int .u8 1, .int .u32 0, .int .u32 0, .int .i64 0, .slice none 0 0] 49)) := hbE.alloc (by rw [hszE]; omega) _
        have hlL := heap_alloc_new (wz.drew.alloc (.cells #[] 49)) (.cells #[.int .u8 1, .int .u32 0, .int .u32 0, .int .i64 0, .slice none 0 0] 49)
        rw [hszE] at hlL
        have hszL : ((wz.drew.alloc (.cells #[] 49)).alloc (.cells #[.int .u8 1, .int .u32 0, .int .u32 0, .int .i64 0, .slice none 0 0] 49)).heap.size = wz.heap.size + 2 := by simp
        obtain ⟨B5, d5, w5, B6, d6, w6, A7, c7, w7, hr5, hr6, hr7, hm7, hb5, hb6, hb7⟩ := chain_two (c1 := c4) (c2 := (c4 - k)) (hmE.on ((Below.refl _ _).alloc (Nat.le_refl _) (.cells #[.int .u8 1, .int .u32 0, .int .u32 0, .int .i64 0, .slice none 0 0] 49))) (by rw [hszL]; omega) (by rw [hszL]; have := HWW.out.1; omega) nop_ok ((HPR.out.old (HOL.out _ (HPZ.out.trans (hbL.mono HPZ.out.size))) rfl)) HLP.out.1 HLP.out.2 (by omega) HWW.out.1 ((HSU.out.old (HOL.out _ (HPZ.out.trans (hbL.mono HPZ.out.size))) rfl)) hlL (by omega) (fun e => by simp [Value.ownBlock] at e)
        replace hb5 := hbL.trans hb5
        replace hb6 := hbL.trans hb6
        replace hb7 := hbL.trans hb7
        have HSL : Hid (((wz.drew.alloc (.cells #[] 49)).alloc (.cells #[.int .u8 1, .int .u32 0, .int .u32 0, .int .i64 0, .slice none 0 0] 49)).cell? ⟨X2, 1, none⟩ = some (.slice (some ⟨g4, o4, none⟩) n4 c4)) := Lib.hid (HAL.out _ (HPZ.out.trans (hbL.mono HPZ.out.size))).2.2
        have HBW7 := Lib.hid hb7
        have HM7 := Lib.hid hm7
        have HR5 := Lib.hid hr5
        have HR6 := Lib.hid hr6
        have HR7 := Lib.hid hr7
        have HB5 := Lib.hid hb5
        have HB6 := Lib.hid hb6
        clear hb7 hm7 hr5 hr6 hr7 hb5 hb6
        try (rw [if_pos]; case hc => rfl)
        go_simp
        refine hK.out _ _ (HSL.out) (fun hHeld2 => ?_)
        clear hK K hHeld
        have hHeld := hHeld2
        clear hHeld2
        refine drawn_sole 5 rfl (by kernel_rfl) (fun K hK => ?_)
        rw [if_pos]
        case hc => rfl
        refine wp_appendX (.tmp 54) (.tmp 58) 38 rfl _ _ _ _ rfl rfl HR5.out ?_
        refine hK.out _ _ ((HAL.out _ (HPZ.out.trans (HB5.out.mono HPZ.out.size))).2.2) (fun hHeld2 => ?_)
        clear hK K hHeld
        have hHeld := hHeld2
        clear hHeld2
        try simp only [Act.put, List.setIfInBounds_toArray, List.set_cons_zero, List.set_cons_succ]
        refine drawn_sole 8 rfl (by kernel_rfl) (fun K hK => ?_)
        rw [if_pos]
        case hc => rfl
        refine wp_appendX (.tmp 59) (.tmp 61) 38 rfl _ _ _ _ rfl rfl HR6.out ?_
        refine hK.out _ _ ((HAL.out _ (HPZ.out.trans (HB6.out.mono HPZ.out.size))).2.2) (fun hHeld2 => ?_)
        clear hK K hHeld
        have hHeld := hHeld2
        clear hHeld2
        try simp only [Act.put, List.setIfInBounds_toArray, List.set_cons_zero, List.set_cons_succ]
        refine drawn_sole 13 rfl (by kernel_rfl) (fun K hK => ?_)
        rw [if_pos]
        case hc => rfl
        refine wp_appendX (.tmp 62) (.tmp 66) 38 rfl _ _ _ _ rfl rfl HR7.out ?_
        refine hK.out _ _ ((HAL.out _ (HPZ.out.trans (HBW7.out.mono HPZ.out.size))).2.2) (fun hHeld2 => ?_)
        clear hK K hHeld
        have hHeld := hHeld2
        clear hHeld2
        try simp only [Act.put, List.setIfInBounds_toArray, List.set_cons_zero, List.set_cons_succ]
        have hbz := HBW7.out
        have HZ7 : Hid (w7.heap[Z]? = some (.cells #[.slice A3 n3 c3, .slice (some ⟨g4, o4, none⟩) n4 c4] 40 (0, 0))) := Lib.hid ((hbz.block Z HWW.out.2).trans HZ0.out)
        have HM8 : Hid (Mod (· = Z) w7 (w7.setCell ⟨Z, 1, none⟩ (.slice A7 (k + 1 + (n4 - k)) c7))) := Lib.hid (Mod.setCell (T := (· = Z)) (Mod.refl _ w7) (fun _ => rfl) _)
        have HP7 : Hid (Below wP.heap.size wP w7) := Lib.hid (HPZ.out.trans (hbz.mono HPZ.out.size))
        have HP8 : Hid (Below wP.heap.size wP (w7.setCell ⟨Z, 1, none⟩ (.slice A7 (k + 1 + (n4 - k)) c7))) := Lib.hid (HP7.out.trans (HM8.out.below HP7.out.size (fun j hj e => by have := HZL.out; omega)))
        have HZ8 : Hid ((w7.setCell ⟨Z, 1, none⟩ (.slice A7 (k + 1 + (n4 - k)) c7)).heap[Z]? = some (.cells #[.slice A3 n3 c3, .slice A7 (k + 1 + (n4 - k)) c7] 40 (0, 0))) := Lib.hid (by rw [heap_setCell_same w7 Z 1 _ _ _ HZ7.out]; rfl)
        have HV8 := Lib.hid ((HM7.out.store HM8.out (Nat.le_trans (HOL.out _ HPZ.out |>.size |> fun _ => HBP.out.size) HZL.out) HWW.out.2).slice)
        have HC7 : Hid (w7.cell? ⟨Z, 1, none⟩ = some (.slice (some ⟨g4, o4, none⟩) n4 c4)) := Lib.hid (two_cells HZ7.out).2
        have HF7 : Hid (w7.frozen? ⟨Z, 1, none⟩ = false) := Lib.hid (frozen_of_row w7 Z 1 _ _ HZ7.out)
        refine drawn_take 14 rfl (by kernel_rfl) (by kernel_rfl) (by kernel_rfl) (fun _ _ _ h => h) (by rfl) (by assumption) (v := ?_) ?_ ?_
        rotate_left
        · (intro wy hSw; go_simp; try with_reducible rfl)
        simp only [Act.put, List.setIfInBounds_toArray, List.set_cons_zero, List.set_cons_succ]
        refine drawn_sole 15 rfl (by kernel_rfl) (fun K hK => ?_)
        have hl := HC7.out
        have gl := HF7.out
        try (rw [if_pos]; case hc => rfl)
        go_simp
        clear hl gl
        refine hK.out _ _ (HAL.out _ HP8.out).2.2 (fun hHeld2 => ?_)
        clear hK K hHeld
        have hHeld := hHeld2
        clear hHeld2
        refine wpAnyH_done (by kernel_rfl) ?_ _
        have hlen : k + 1 + (n4 - k) = n4 + 1 := by omega
        have hz8 := HZ8.out
        have hv8 := HV8.out
        have hp8 := HP8.out
        simp only [hlen] at hz8 hv8 hp8 ⊢
        go_wp2_with fail
        go_meet
        case rel => exact ⟨A7, c7, Lib.hid hp8, Lib.hid hz8, Lib.hid hv8⟩
    · have hbN : Below wz.heap.size wz (wz.drew.alloc (.cells #[.int .u8 1, .int .u32 0, .int .u32 0, .int .i64 0, .slice none 0 0] 49)) := (Below.drew (Below.refl _ _)).alloc (Nat.le_refl _) _
      have hszN : (wz.drew.alloc (.cells #[.int .u8 1, .int .u32 0, .int .u32 0, .int .i64 0, .slice none 0 0] 49)).heap.size = wz.heap.size + 1 := by simp
      have hbL : Below wz.heap.size wz ((wz.drew.alloc (.cells #[.int .u8 1, .int .u32 0, .int .u32 0, .int .i64 0, .slice none 0 0] 49)).alloc (.cells #[] 49)) := hbN.alloc (by rw [hszN]; omega) _
      have hlN := (Below.heap_alloc (wz.drew.alloc (.cells #[.int .u8 1, .int .u32 0, .int .u32 0, .int .i64 0, .slice none 0 0] 49)) (.cells #[] 49) wz.heap.size (by rw [hszN]; omega)).trans (heap_alloc_new wz.drew (.cells #[.int .u8 1, .int .u32 0, .int .u32 0, .int .i64 0, .slice none 0 0] 49))
      have hmE := Made.lit0 (wz.drew.alloc (.cells #[.int .u8 1, .int .u32 0, .int .u32 0, .int .i64 0, .slice none 0 0] 49)) wz.heap.size w.heap.size (by rw [hszN]; omega) (by rw [hszN]; have := HWW.out.1; omega)
      rw [hszN] at hmE
      have hszL : ((wz.drew.alloc (.cells #[.int .u8 1, .int .u32 0, .int .u32 0, .int .i64 0, .slice none 0 0] 49)).alloc (.cells #[] 49)).heap.size = wz.heap.size + 2 := by simp
      obtain ⟨B5, d5, w5, B6, d6, w6, A7, c7, w7, hr5, hr6, hr7, hm7, hb5, hb6, hb7⟩ := chain_two (c1 := c4) (c2 := (c4 - k)) hmE (by rw [hszL]; omega) (by rw [hszL]; have := HWW.out.1; omega) nop_ok ((HPR.out.old (HOL.out _ (HPZ.out.trans (hbL.mono HPZ.out.size))) rfl)) HLP.out.1 HLP.out.2 (by omega) HWW.out.1 ((HSU.out.old (HOL.out _ (HPZ.out.trans (hbL.mono HPZ.out.size))) rfl)) hlN (Nat.le_refl _) (fun e => by simp [Value.ownBlock] at e)
      replace hb5 := hbL.trans hb5
      replace hb6 := hbL.trans hb6
      replace hb7 := hbL.trans hb7
      have HSN : Hid ((wz.drew.alloc (.cells #[.int .u8 1, .int .u32 0, .int .u32 0, .int .i64 0, .slice none 0 0] 49)).cell? ⟨X2, 1, none⟩ = some (.slice (some ⟨g4, o4, none⟩) n4 c4)) := Lib.hid (HAL.out _ (HPZ.out.trans (hbN.mono HPZ.out.size))).2.2
      have HSL : Hid (((wz.drew.alloc (.cells #[.int .u8 1, .int .u32 0, .int .u32 0, .int .i64 0, .slice none 0 0] 49)).alloc (.cells #[] 49)).cell? ⟨X2, 1, none⟩ = some (.slice (some ⟨g4, o4, none⟩) n4 c4)) := Lib.hid (HAL.out _ (HPZ.out.trans (hbL.mono HPZ.out.size))).2.2
      have HBW7 := Lib.hid hb7
      have HM7 := Lib.hid hm7
      have HR5 := Lib.hid hr5
      have HR6 := Lib.hid hr6
      have HR7 := Lib.hid hr7
      have HB5 := Lib.hid hb5
      have HB6 := Lib.hid hb6
      clear hb7 hm7 hr5 hr6 hr7 hb5 hb6
      try (rw [if_pos]; case hc => rfl)
      go_simp
      refine hK.out _ _ (HSN.out) (fun hHeld2 => ?_)
      clear hK K hHeld
      have hHeld := hHeld2
      clear hHeld2
      refine drawn_sole 0 rfl (by kernel_rfl) (fun K hK => ?_)
      try (rw [if_pos]; case hc => rfl)
      go_simp
      refine hK.out _ _ (HSL.out) (fun hHeld2 => ?_)
      clear hK K hHeld
      have hHeld := hHeld2
      clear hHeld2
      refine drawn_sole 5 rfl (by kernel_rfl) (fun K hK => ?_)
      rw [if_pos]
      case hc => rfl
      refine wp_appendX (.tmp 54) (.tmp 58) 38 rfl _ _ _ _ rfl rfl HR5.out ?_
      refine hK.out _ _ ((HAL.out _ (HPZ.out.trans (HB5.out.mono HPZ.out.size))).2.2) (fun hHeld2 => ?_)
      clear hK K hHeld
      have hHeld := hHeld2
      clear hHeld2
      try simp only [Act.put, List.setIfInBounds_toArray, List.set_cons_zero, List.set_cons_succ]
      refine drawn_sole 8 rfl (by kernel_rfl) (fun K hK => ?_)
      rw [if_pos]
      case hc => rfl
      refine wp_appendX (.tmp 59) (.tmp 61) 38 rfl _ _ _ _ rfl rfl HR6.out ?_
      refine hK.out _ _ ((HAL.out _ (HPZ.out.trans (HB6.out.mono HPZ.out.size))).2.2) (fun hHeld2 => ?_)
      clear hK K hHeld
      have hHeld := hHeld2
      clear hHeld2
      try simp only [Act.put, List.setIfInBounds_toArray, List.set_cons_zero, List.set_cons_succ]
      refine drawn_sole 13 rfl (by kernel_rfl) (fun K hK => ?_)
      rw [if_pos]
      case hc => rfl
      refine wp_appendX (.tmp 62) (.tmp 66) 38 rfl _ _ _ _ rfl rfl HR7.out ?_
      refine hK.out _ _ ((HAL.out _ (HPZ.out.trans (HBW7.out.mono HPZ.out.size))).2.2) (fun hHeld2 => ?_)
      clear hK K hHeld
      have hHeld := hHeld2
      clear hHeld2
      try simp only [Act.put, List.setIfInBounds_toArray, List.set_cons_zero, List.set_cons_succ]
      have hbz := HBW7.out
      have HZ7 : Hid (w7.heap[Z]? = some (.cells #[.slice A3 n3 c3, .slice (some ⟨g4, o4, none⟩) n4 c4] 40 (0, 0))) := Lib.hid ((hbz.block Z HWW.out.2).trans HZ0.out)
      have HM8 : Hid (Mod (· = Z) w7 (w7.setCell ⟨Z, 1, none⟩ (.slice A7 (k + 1 + (n4 - k)) c7))) := Lib.hid (Mod.setCell (T := (· = Z)) (Mod.refl _ w7) (fun _ => rfl) _)
      have HP7 : Hid (Below wP.heap.size wP w7) := Lib.hid (HPZ.out.trans (hbz.mono HPZ.out.size))
      have HP8 : Hid (Below wP.heap.size wP (w7.setCell ⟨Z, 1, none⟩ (.slice A7 (k + 1 + (n4 - k)) c7))) := Lib.hid (HP7.out.trans (HM8.out.below HP7.out.size (fun j hj e => by have := HZL.out; omega)))
      have HZ8 : Hid ((w7.setCell ⟨Z, 1, none⟩ (.slice A7 (k + 1 + (n4 - k)) c7)).heap[Z]? = some (.cells #[.slice A3 n3 c3, .slice A7 (k + 1 + (n4 - k)) c7] 40 (0, 0))) := Lib.hid (by rw [heap_setCell_same w7 Z 1 _ _ _ HZ7.out]; rfl)
      have HV8 := Lib.hid ((HM7.out.store HM8.out (Nat.le_trans (HOL.out _ HPZ.out |>.size |> fun _ => HBP.out.size) HZL.out) HWW.out.2).slice)
      have HC7 : Hid (w7.cell? ⟨Z, 1, none⟩ = some (.slice (some ⟨g4, o4, none⟩) n4 c4)) := Lib.hid (two_cells HZ7.out).2
      have HF7 : Hid (w7.frozen? ⟨Z, 1, none⟩ = false) := Lib.hid (frozen_of_row w7 Z 1 _ _ HZ7.out)
      refine drawn_take 14 rfl (by kernel_rfl) (by kernel_rfl) (by kernel_rfl) (fun _ _ _ h => h) (by rfl) (by assumption) (v := ?_) ?_ ?_
      rotate_left
      · (intro wy hSw; go_simp; try with_reducible rfl)
      simp only [Act.put, List.setIfInBounds_toArray, List.set_cons_zero, List.set_cons_succ]
      refine drawn_sole 15 rfl (by kernel_rfl) (fun K hK => ?_)
      have hl := HC7.out
      have gl := HF7.out
      try (rw [if_pos]; case hc => rfl)
      go_simp
      clear hl gl
      refine hK.out _ _ (HAL.out _ HP8.out).2.2 (fun hHeld2 => ?_)
      clear hK K hHeld
      have hHeld := hHeld2
      clear hHeld2
      refine wpAnyH_done (by kernel_rfl) ?_ _
      have hlen : k + 1 + (n4 - k) = n4 + 1 := by omega
      have hz8 := HZ8.out
      have hv8 := HV8.out
      have hp8 := HP8.out
      simp only [hlen] at hz8 hv8 hp8 ⊢
      go_wp2_with fail
      go_meet
      case rel => exact ⟨A7, c7, Lib.hid hp8, Lib.hid hz8, Lib.hid hv8⟩
  case rest =>
  obtain ⟨A7, c7, HP8, HZ8, HV8⟩ := hcut
  clear hkc hkci hkni hk0 HZ0 HPZ
  have HLK : Hid (k ≤ n4) := Lib.hid hkn
  obtain ⟨⟨b0, b1⟩, ⟨b2, b3⟩⟩ := HAL.out _ HP8.out
  obtain ⟨z0, z1⟩ := two_cells HZ8.out
  have hc2 := HCK.out _ _ _ HP8.out HV8.out (by simp only [List.length_append, List.length_take, List.length_drop, List.length_cons, List.length_nil]; have := HN4.out; omega) (by
    have h1 := HTT.out
    have h2 : tot (xs.take k) + tot (xs.drop k) = tot xs := by rw [← tot_append, List.take_append_drop]
    rw [tot_append, tot_append]
    have h3 : tot [Bo.nop] = 5 := rfl
    omega)
  rw [show xs.take k ++ [Bo.nop] ++ xs.drop k = xs.take k ++ Bo.nop :: xs.drop k by simp, Bo.chk_nop, List.take_append_drop, HR.out] at hc2
  have HC2 := Lib.hid hc2
  clear hc2 hkn
  cases hres : Bo.chk (envOf m ps rs ls) (Bo.locB ls) xs with
  | error nn =>
    have hne := Bo.chk_err hres
    have hr := HR.out
    rw [hres] at hr
    obtain ⟨rfl, rfl⟩ := chkE_err hr
    have hni : ((nn : Int) == 0) = false := by rw [beq_eq_false_iff_ne]; omega
    have hnj : ((nn : Int) != 0) = true := by rw [bne, hni]; rfl
    have hnk : ¬ ((nn : Int) = 0) := by omega
    clear hres hr hne HR
    go_wp2_with (go_at_call 8; refine HC2.out.mono ?_; rintro e w9 ⟨rfl, hb⟩; have HP9 := Lib.hid (HP8.out.trans (hb.mono HP8.out.size)); clear hb)
    go_ret
    exact ⟨rfl, HOL.out _ HP9.out⟩
  | ok hh =>
    have hr := HR.out
    rw [hres] at hr
    obtain ⟨rfl, rfl⟩ := chkE_ok hr
    have hge : decide ((hh : Int) < 0) = false := decide_eq_false (by omega)
    have HRES := Lib.hid hres
    clear hres hr HR
    go_upto_region 10 with (go_at_call 8; refine HC2.out.mono ?_; rintro e w9 ⟨rfl, hb⟩; have HP9 := Lib.hid (HP8.out.trans (hb.mono HP8.out.size)); clear hb)
    clear b0 b1 b2 b3 z0 z1 HC2
    obtain ⟨⟨b0, b1⟩, ⟨b2, b3⟩⟩ := HAL.out _ HP9.out
    go_upto_region 15 with fail
    clear b0 b1 b2 b3 hge
    have HY0 := Lib.hid (heap_alloc_new w9 (.cells #[.slice A3 n3 c3, .slice A4 n4 c4] 40))
    have HPY : Hid (Below wP.heap.size wP (w9.alloc (.cells #[.slice A3 n3 c3, .slice A4 n4 c4] 40))) := Lib.hid (HP9.out.alloc HP9.out.size _)
    have HYL : Hid (wP.heap.size ≤ w9.heap.size) := Lib.hid HP9.out.size
    generalize w9.alloc (.cells #[.slice A3 n3 c3, .slice A4 n4 c4] 40) = wy at HY0 HPY ⊢
    obtain ⟨Y, hY⟩ : ∃ Y, w9.heap.size = Y := ⟨_, rfl⟩
    rw [hY] at HY0 HYL
    simp only [hY]
    clear hY HP9
    have HWY : Hid (w.heap.size ≤ wy.heap.size ∧ Y < wy.heap.size ∧ w.heap.size ≤ Y) := Lib.hid ⟨(HOL.out _ HPY.out).size, (Array.getElem?_eq_some_iff.1 HY0.out).1, Nat.le_trans HBP.out.size HYL.out⟩
    have hbE : Below wy.heap.size wy (wy.alloc (.cells #[] 49)) := (Below.refl _ _).alloc (Nat.le_refl _) _
    have hszE : (wy.alloc (.cells #[] 49)).heap.size = wy.heap.size + 1 := by simp
    have hPE := HPY.out.trans (hbE.mono HPY.out.size)
    obtain ⟨B5, d5, w5, hr5, hm5, hb5⟩ := (Made.lit0 wy wy.heap.size w.heap.size (Nat.le_refl _) HWY.out.1).app (by rw [hszE]; omega) (by rw [hszE]; have := HWY.out.1; omega) A4 c4 (HL4.out.old (HOL.out _ hPE) rfl) (n := n4) HN4.out.symm (by simp; omega)
    simp only [List.length_nil, Nat.zero_add, List.nil_append] at hr5 hm5
    have hbw5 := hbE.trans hb5
    have hP5 := HPY.out.trans (hbw5.mono HPY.out.size)
    have hba : Below w5.heap.size w5 (w5.alloc (.cells (insCells Bo.bad none 0).toArray 49)) := (Below.refl _ _).alloc (Nat.le_refl _) _
    have hlt5 : ∀ j, (Value.slice B5 n4 d5).ownBlock = some j → j < w5.heap.size := by
      obtain ⟨S, q1, _⟩ := hm5
      exact fun j hj => (q1.lt j hj).2
    obtain ⟨B6, d6, w6, hr6, hm6, hb6⟩ := (hm5.on hba).app1 (Nat.le_trans hbw5.size hba.size) (Nat.le_trans (Nat.le_trans HWY.out.1 hbw5.size) hba.size) Bo.bad bad_ok w5.heap.size (heap_alloc_new w5 _) hbw5.size (fun e => by have := hlt5 _ e; omega) (by have := HN4.out; omega)
    rw [HN4.out] at hr6 hm6
    have hbw6 := (hbw5.trans (hba.mono hbw5.size)).trans hb6
    have hP6 := HPY.out.trans (hbw6.mono HPY.out.size)
    have hY6 := (hbw6.block Y HWY.out.2.1).trans HY0.out
    have k1 : (wy.alloc (.cells #[] 49)).cell? ⟨X2, 1, none⟩ = some (.slice A4 n4 c4) := (HAL.out _ hPE).2.2
    have k2 : w6.cell? ⟨Y, 1, none⟩ = some (.slice A4 n4 c4) := (two_cells hY6).2
    have k3 : w6.frozen? ⟨Y, 1, none⟩ = false := frozen_of_row w6 Y 1 _ _ hY6
    have HR5 := Lib.hid hr5
    have HR6 : Hid ((Builtin.append_ #[38, 38] 38 #[.slice B5 n4 d5, .slice (some ⟨w5.heap.size, 0, none⟩) 1 1]).run Try.prog (w5.alloc (.cells #[.int .u8 32, .int .u32 4294967295, .int .u32 0, .int .i64 0, .slice none 0 0] 49)) = .ok (.slice B6 (n4 + 1) d6) w6) := Lib.hid hr6
    have hM7 : Mod (· = Y) w6 (w6.setCell ⟨Y, 1, none⟩ (.slice B6 (n4 + 1) d6)) := Mod.setCell (T := (· = Y)) (Mod.refl _ w6) (fun _ => rfl) _
    have HM7 := Lib.hid (hm6.store hM7 HWY.out.2.2 HWY.out.2.1)
    have HP7 : Hid (Below wP.heap.size wP (w6.setCell ⟨Y, 1, none⟩ (.slice B6 (n4 + 1) d6))) := Lib.hid (hP6.trans (hM7.below hP6.size (fun j hj e => by have := HYL.out; omega)))
    have HY7 : Hid ((w6.setCell ⟨Y, 1, none⟩ (.slice B6 (n4 + 1) d6)).heap[Y]? = some (.cells #[.slice A3 n3 c3, .slice B6 (n4 + 1) d6] 40 (0, 0))) := Lib.hid (by rw [heap_setCell_same w6 Y 1 _ _ _ hY6]; rfl)
    have HSZ7 : Hid (wy.heap.size ≤ (w6.setCell ⟨Y, 1, none⟩ (.slice B6 (n4 + 1) d6)).heap.size) := Lib.hid (Nat.le_trans hbw6.size hM7.size)
    clear hbE hszE hPE hr5 hm5 hb5 hbw5 hP5 hba hlt5 hr6 hm6 hb6 hbw6 hP6 hY6 hM7
    go_upto_region 16 with (first | (at_builtin; refine wpList_appends rfl (.tmp 99) (.tmp 101) 38 rfl _ _ _ w5 rfl rfl HR5.out ?_) | (at_builtin; refine wpList_appends rfl (.tmp 102) (.tmp 104) 38 rfl _ _ _ w6 rfl rfl HR6.out ?_))
    clear k1 k2 k3 HR5 HR6
    generalize w6.setCell ⟨Y, 1, none⟩ (.slice B6 (n4 + 1) d6) = w7 at HM7 HP7 HY7 HSZ7 ⊢
    obtain ⟨⟨b0, b1⟩, ⟨b2, b3⟩⟩ := HAL.out _ HP7.out
    obtain ⟨z0, z1⟩ := two_cells HY7.out
    have HTB : Hid (tot (xs ++ [Bo.bad]) ≤ 20000) := Lib.hid (by rw [tot_append]; have h3 : tot [Bo.bad] = 5 := rfl; have := HTT.out; omega)
    have HLB : Hid ((xs ++ [Bo.bad]).length = n4 + 1) := Lib.hid (by simp [HN4.out])
    have hc3 := HCK.out _ _ _ HP7.out HM7.out.slice (by rw [HLB.out]; omega) (by have := HTB.out; omega)
    have HC4 : Hid (∀ W A c, Below wP.heap.size wP W → SliceV W (· < W.heap.size) (xs ++ [Bo.bad] ++ bh) (.slice A (n4 + 1 + n5) c) → _) := Lib.hid (fun W A c hW hv => HCK.out W _ _ hW hv (by rw [List.length_append, HLB.out, HBN.out]; omega) (by rw [tot_append]; have := HTB.out; have := HP3.out; omega))
    have HWPY : Hid (wP.heap.size ≤ wy.heap.size) := Lib.hid HPY.out.size
    have HYS : Hid (∀ W, Below wP.heap.size wP W → W.heap[Y]? = some (.cells #[.slice A3 n3 c3, .slice B6 (n4 + 1) d6] 40 (0, 0)) → Below w7.heap.size w7 W → wy.heap.size ≤ W.heap.size) := Lib.hid (fun W _ _ hb => Nat.le_trans HSZ7.out hb.size)
    cases tb with
    | true =>
      obtain ⟨g1, g2, hg⟩ := chkE_form (Bo.chk (envOf m ps rs ls) (Bo.locB ls) (xs ++ [Bo.bad]))
      obtain ⟨x1, x2, hx2⟩ := chkE_form (Bo.chk (envOf m ps rs ls) (Bo.locB ls) (xs ++ [Bo.bad] ++ bh))
      rw [hg] at hc3
      have HC3 := Lib.hid hc3
      have HX2 := Lib.hid hx2
      clear hc3 hg hx2
      go_upto_region 17 with (go_at_call 8; refine HC3.out.mono ?_; rintro e w8 ⟨rfl, hb⟩; have HP8b := Lib.hid (HP7.out.trans (hb.mono HP7.out.size)); have HM8b := Lib.hid (HM7.out.on hb); have HY8b := Lib.hid ((hb.block Y (Array.getElem?_eq_some_iff.1 HY7.out).1).trans HY7.out); have HB8b := Lib.hid hb; clear hb)
      clear b0 b1 b2 b3 z0 z1 HC3
      have hwy : w.heap.size ≤ w8.heap.size := (HOL.out _ HP8b.out).size
      have hwz : wy.heap.size ≤ w8.heap.size := HYS.out w8 HP8b.out HY8b.out HB8b.out
      obtain ⟨B9, d9, w9b, hr9, hm9, hb9⟩ := HM8b.out.app hwz hwy A5 c5 (HBL.out.old (HOL.out _ HP8b.out) rfl) (n := n5) HBN.out.symm (by rw [HLB.out]; omega)
      rw [HLB.out] at hr9 hm9
      have hP9 : Below wP.heap.size wP w9b := HP8b.out.trans (hb9.mono HWPY.out)
      have hY9 : w9b.heap[Y]? = _ := (hb9.block Y HWY.out.2.1).trans HY8b.out
      obtain ⟨z0, z1⟩ := two_cells HY8b.out
      have k2 : w9b.cell? ⟨Y, 1, none⟩ = some (.slice B6 (n4 + 1) d6) := (two_cells hY9).2
      have k3 : w9b.frozen? ⟨Y, 1, none⟩ = false := frozen_of_row w9b Y 1 _ _ hY9
      have HR9 := Lib.hid hr9
      have hM10 : Mod (· = Y) w9b (w9b.setCell ⟨Y, 1, none⟩ (.slice B9 (n4 + 1 + n5) d9)) := Mod.setCell (T := (· = Y)) (Mod.refl _ w9b) (fun _ => rfl) _
      have HM10 := Lib.hid (hm9.store hM10 HWY.out.2.2 HWY.out.2.1)
      have HP10 : Hid (Below wP.heap.size wP (w9b.setCell ⟨Y, 1, none⟩ (.slice B9 (n4 + 1 + n5) d9))) := Lib.hid (hP9.trans (hM10.below hP9.size (fun j hj e => by have := HYL.out; omega)))
      have HY10 : Hid ((w9b.setCell ⟨Y, 1, none⟩ (.slice B9 (n4 + 1 + n5) d9)).heap[Y]? = some (.cells #[.slice A3 n3 c3, .slice B9 (n4 + 1 + n5) d9] 40 (0, 0))) := Lib.hid (by rw [heap_setCell_same w9b Y 1 _ _ _ hY9]; rfl)
      clear hwy hwz hr9 hm9 hb9 hP9 hY9 hM10
      go_upto_region 18 with (at_builtin; refine wpList_appends rfl (.tmp 115) (.tmp 116) 38 rfl _ _ _ w9b rfl rfl HR9.out ?_)
      clear z0 z1 k2 k3 HR9
      generalize w9b.setCell ⟨Y, 1, none⟩ (.slice B9 (n4 + 1 + n5) d9) = w10 at HM10 HP10 HY10 ⊢
      obtain ⟨⟨b0, b1⟩, ⟨b2, b3⟩⟩ := HAL.out _ HP10.out
      obtain ⟨z0, z1⟩ := two_cells HY10.out
      have hc4 := HC4.out _ _ _ HP10.out HM10.out.slice
      rw [HX2.out] at hc4
      have HC4 := Lib.hid hc4
      clear hc4
      go_upto_region 19 with (go_at_call 8; refine HC4.out.mono ?_; rintro e w11 ⟨rfl, hb⟩; have HP11 := Lib.hid (HP10.out.trans (hb.mono HP10.out.size)); clear hb)
      clear b0 b1 b2 b3 z0 z1
      obtain ⟨⟨b0, b1⟩, ⟨b2, b3⟩⟩ := HAL.out _ HP11.out
      go_wp2_with (go_at_call 9; refine (HLC.out _ (HOL.out _ HP11.out)).mono ?_; rintro e w12 ⟨rfl, hb⟩; have HP12 := Lib.hid (HP11.out.trans (hb.mono HP11.out.size)); clear hb)
      go_ret
      exact ⟨rfl, HOL.out _ HP12.out⟩
    | false =>
      have hloc := HLC0.out rfl
      have hb1 := Bo.chk_bad1 HRES.out hloc
      rw [hb1] at hc3
      have HC3 : Hid (Calls Try.prog 8 #[.pointer (some ⟨P, 0, none⟩), .agg #[.slice A1 n1 c1, .slice A2 n2 c2], .agg #[.slice A3 n3 c3, .slice B6 (n4 + 1) d6]] w7 fun e w' => e = .returned (.tuple #[.int .i64 0, .int .i64 80]) ∧ Below w7.heap.size w7 w') := Lib.hid hc3
      have hb2 := Bo.chk_bad (ys := bh) HRES.out hloc
      rw [show xs ++ Bo.bad :: bh = xs ++ [Bo.bad] ++ bh by simp] at hb2
      clear hc3 hb1 hloc
      rcases hb2 with hb2 | hb2
      · have HX2 : Hid (chkE (Bo.chk (envOf m ps rs ls) (Bo.locB ls) (xs ++ [Bo.bad] ++ bh)) = .returned (.tuple #[.int .i64 0, .int .i64 80])) := Lib.hid (by rw [hb2]; rfl)
        clear hb2
        go_upto_region 17 with (go_at_call 8; refine HC3.out.mono ?_; rintro e w8 ⟨rfl, hb⟩; have HP8b := Lib.hid (HP7.out.trans (hb.mono HP7.out.size)); have HM8b := Lib.hid (HM7.out.on hb); have HY8b := Lib.hid ((hb.block Y (Array.getElem?_eq_some_iff.1 HY7.out).1).trans HY7.out); have HB8b := Lib.hid hb; clear hb)
        clear b0 b1 b2 b3 z0 z1 HC3
        have hwy : w.heap.size ≤ w8.heap.size := (HOL.out _ HP8b.out).size
        have hwz : wy.heap.size ≤ w8.heap.size := HYS.out w8 HP8b.out HY8b.out HB8b.out
        obtain ⟨B9, d9, w9b, hr9, hm9, hb9⟩ := HM8b.out.app hwz hwy A5 c5 (HBL.out.old (HOL.out _ HP8b.out) rfl) (n := n5) HBN.out.symm (by rw [HLB.out]; omega)
        rw [HLB.out] at hr9 hm9
        have hP9 : Below wP.heap.size wP w9b := HP8b.out.trans (hb9.mono HWPY.out)
        have hY9 : w9b.heap[Y]? = _ := (hb9.block Y HWY.out.2.1).trans HY8b.out
        obtain ⟨z0, z1⟩ := two_cells HY8b.out
        have k2 : w9b.cell? ⟨Y, 1, none⟩ = some (.slice B6 (n4 + 1) d6) := (two_cells hY9).2
        have k3 : w9b.frozen? ⟨Y, 1, none⟩ = false := frozen_of_row w9b Y 1 _ _ hY9
        have HR9 := Lib.hid hr9
        have hM10 : Mod (· = Y) w9b (w9b.setCell ⟨Y, 1, none⟩ (.slice B9 (n4 + 1 + n5) d9)) := Mod.setCell (T := (· = Y)) (Mod.refl _ w9b) (fun _ => rfl) _
        have HM10 := Lib.hid (hm9.store hM10 HWY.out.2.2 HWY.out.2.1)
        have HP10 : Hid (Below wP.heap.size wP (w9b.setCell ⟨Y, 1, none⟩ (.slice B9 (n4 + 1 + n5) d9))) := Lib.hid (hP9.trans (hM10.below hP9.size (fun j hj e => by have := HYL.out; omega)))
        have HY10 : Hid ((w9b.setCell ⟨Y, 1, none⟩ (.slice B9 (n4 + 1 + n5) d9)).heap[Y]? = some (.cells #[.slice A3 n3 c3, .slice B9 (n4 + 1 + n5) d9] 40 (0, 0))) := Lib.hid (by rw [heap_setCell_same w9b Y 1 _ _ _ hY9]; rfl)
        clear hwy hwz hr9 hm9 hb9 hP9 hY9 hM10
        go_upto_region 18 with (at_builtin; refine wpList_appends rfl (.tmp 115) (.tmp 116) 38 rfl _ _ _ w9b rfl rfl HR9.out ?_)
        clear z0 z1 k2 k3 HR9
        generalize w9b.setCell ⟨Y, 1, none⟩ (.slice B9 (n4 + 1 + n5) d9) = w10 at HM10 HP10 HY10 ⊢
        obtain ⟨⟨b0, b1⟩, ⟨b2, b3⟩⟩ := HAL.out _ HP10.out
        obtain ⟨z0, z1⟩ := two_cells HY10.out
        have hc4 := HC4.out _ _ _ HP10.out HM10.out.slice
        rw [HX2.out] at hc4
        have HC4 := Lib.hid hc4
        clear hc4
        go_upto_region 19 with (go_at_call 8; refine HC4.out.mono ?_; rintro e w11 ⟨rfl, hb⟩; have HP11 := Lib.hid (HP10.out.trans (hb.mono HP10.out.size)); clear hb)
        clear b0 b1 b2 b3 z0 z1
        obtain ⟨⟨b0, b1⟩, ⟨b2, b3⟩⟩ := HAL.out _ HP11.out
        go_wp2_with (go_at_call 9; refine (HLC.out _ (HOL.out _ HP11.out)).mono ?_; rintro e w12 ⟨rfl, hb⟩; have HP12 := Lib.hid (HP11.out.trans (hb.mono HP11.out.size)); clear hb)
        go_ret
        exact ⟨rfl, HOL.out _ HP12.out⟩
      · have HX2 : Hid (chkE (Bo.chk (envOf m ps rs ls) (Bo.locB ls) (xs ++ [Bo.bad] ++ bh)) = .returned (.tuple #[.int .i64 0, .int .i64 2])) := Lib.hid (by rw [hb2]; rfl)
        clear hb2
        go_upto_region 17 with (go_at_call 8; refine HC3.out.mono ?_; rintro e w8 ⟨rfl, hb⟩; have HP8b := Lib.hid (HP7.out.trans (hb.mono HP7.out.size)); have HM8b := Lib.hid (HM7.out.on hb); have HY8b := Lib.hid ((hb.block Y (Array.getElem?_eq_some_iff.1 HY7.out).1).trans HY7.out); have HB8b := Lib.hid hb; clear hb)
        clear b0 b1 b2 b3 z0 z1 HC3
        have hwy : w.heap.size ≤ w8.heap.size := (HOL.out _ HP8b.out).size
        have hwz : wy.heap.size ≤ w8.heap.size := HYS.out w8 HP8b.out HY8b.out HB8b.out
        obtain ⟨B9, d9, w9b, hr9, hm9, hb9⟩ := HM8b.out.app hwz hwy A5 c5 (HBL.out.old (HOL.out _ HP8b.out) rfl) (n := n5) HBN.out.symm (by rw [HLB.out]; omega)
        rw [HLB.out] at hr9 hm9
        have hP9 : Below wP.heap.size wP w9b := HP8b.out.trans (hb9.mono HWPY.out)
        have hY9 : w9b.heap[Y]? = _ := (hb9.block Y HWY.out.2.1).trans HY8b.out
        obtain ⟨z0, z1⟩ := two_cells HY8b.out
        have k2 : w9b.cell? ⟨Y, 1, none⟩ = some (.slice B6 (n4 + 1) d6) := (two_cells hY9).2
        have k3 : w9b.frozen? ⟨Y, 1, none⟩ = false := frozen_of_row w9b Y 1 _ _ hY9
        have HR9 := Lib.hid hr9
        have hM10 : Mod (· = Y) w9b (w9b.setCell ⟨Y, 1, none⟩ (.slice B9 (n4 + 1 + n5) d9)) := Mod.setCell (T := (· = Y)) (Mod.refl _ w9b) (fun _ => rfl) _
        have HM10 := Lib.hid (hm9.store hM10 HWY.out.2.2 HWY.out.2.1)
        have HP10 : Hid (Below wP.heap.size wP (w9b.setCell ⟨Y, 1, none⟩ (.slice B9 (n4 + 1 + n5) d9))) := Lib.hid (hP9.trans (hM10.below hP9.size (fun j hj e => by have := HYL.out; omega)))
        have HY10 : Hid ((w9b.setCell ⟨Y, 1, none⟩ (.slice B9 (n4 + 1 + n5) d9)).heap[Y]? = some (.cells #[.slice A3 n3 c3, .slice B9 (n4 + 1 + n5) d9] 40 (0, 0))) := Lib.hid (by rw [heap_setCell_same w9b Y 1 _ _ _ hY9]; rfl)
        clear hwy hwz hr9 hm9 hb9 hP9 hY9 hM10
        go_upto_region 18 with (at_builtin; refine wpList_appends rfl (.tmp 115) (.tmp 116) 38 rfl _ _ _ w9b rfl rfl HR9.out ?_)
        clear z0 z1 k2 k3 HR9
        generalize w9b.setCell ⟨Y, 1, none⟩ (.slice B9 (n4 + 1 + n5) d9) = w10 at HM10 HP10 HY10 ⊢
        obtain ⟨⟨b0, b1⟩, ⟨b2, b3⟩⟩ := HAL.out _ HP10.out
        obtain ⟨z0, z1⟩ := two_cells HY10.out
        have hc4 := HC4.out _ _ _ HP10.out HM10.out.slice
        rw [HX2.out] at hc4
        have HC4 := Lib.hid hc4
        clear hc4
        go_upto_region 19 with (go_at_call 8; refine HC4.out.mono ?_; rintro e w11 ⟨rfl, hb⟩; have HP11 := Lib.hid (HP10.out.trans (hb.mono HP10.out.size)); clear hb)
        clear b0 b1 b2 b3 z0 z1
        obtain ⟨⟨b0, b1⟩, ⟨b2, b3⟩⟩ := HAL.out _ HP11.out
        go_wp2_with (go_at_call 9; refine (HLC.out _ (HOL.out _ HP11.out)).mono ?_; rintro e w12 ⟨rfl, hb⟩; have HP12 := Lib.hid (HP11.out.trans (hb.mono HP11.out.size)); clear hb)
        go_ret
        exact ⟨rfl, HOL.out _ HP12.out⟩
end Go.Proofs.Ytakbehoglgebmaa
