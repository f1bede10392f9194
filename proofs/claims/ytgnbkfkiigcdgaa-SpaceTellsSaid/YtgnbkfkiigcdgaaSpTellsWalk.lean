/-
  The walk over SpaceTells. (gen/space/law2.py)
-/
import Derived.Test.YtgnbkfkiigcdgaaSpKnown2
namespace Go.Proofs.Ytgnbkfkiigcdgaa
open Go.RowKit Ins Bin Sp
theorem rsame_self (xs ys : List UInt8) (n1 n2 : Nat) (A1 A2 A3 A4 : Option Addr) (c1 c2 c3 c4 : Nat) (w : World) (h1 : SliceV w (· < w.heap.size) xs (.slice A1 n1 c1)) (h2 : SliceV w (· < w.heap.size) ys (.slice A2 n2 c2)) (h3 : SliceV w (· < w.heap.size) xs (.slice A3 n1 c3)) (h4 : SliceV w (· < w.heap.size) ys (.slice A4 n2 c4)) :
    Calls Try.prog 13 #[.agg #[.slice A1 n1 c1, .slice A2 n2 c2], .agg #[.slice A3 n1 c3, .slice A4 n2 c4]] w fun e w' => e = .returned (.bool true) ∧ Below w.heap.size w w' := by
  have h := rsame_any ⟨xs, ys⟩ ⟨xs, ys⟩ _ _ _ _ w h1 h2 h3 h4
  rw [decide_eq_true rfl] at h
  exact h
theorem bne_self' (b : Bool) : (b != b) = false := by cases b <;> rfl
set_option maxRecDepth 100000 in
set_option maxHeartbeats 4000000 in
theorem spaceTells_any (m : M) (v1 v2 v3 v4 v5 v6 v7 v8 v9 v10 : Value) (i : Nat) (hi : i < 4294967296) (k : Nat) (hk : k < 256) (nm : List UInt8) (w : World) (hM : RepM w (· < w.heap.size) m v1 v2 v3 v4 v5 v6 v7 v8 v9 v10) (hB : BigM m) :
    Calls Try.prog 3 #[.agg (modCells m v1 v2 v3 v4 v5 v6 v7 v8 v9 v10), .int .u32 (i : Int), .int .u8 (k : Int), .string ⟨nm.toArray⟩] w fun e w' => e = .returned (.bool true) ∧ Below w.heap.size w w' := by
  have HTY : Hid (∀ W, Below w.heap.size w W → SliceV W (· < W.heap.size) m.types v1) := Lib.hid (fun W hb => (hM.grow hb).types)
  obtain ⟨A1, c1, rfl, _⟩ := hM.types
  obtain ⟨n1, hn1⟩ : ∃ n, m.types.length = n := ⟨_, rfl⟩
  have hn1b : n1 ≤ 140737488355328 := by rw [← hn1]; exact hB.types.1
  have hN1 := Lib.hid hn1
  have hft : ∀ t ∈ funs m, t < 4294967296 := fun t ht => by
    unfold funs at ht
    rcases List.mem_append.1 ht with h | h
    · obtain ⟨x, hx, rfl⟩ := List.mem_map.1 h
      have hx' := (List.mem_filter.1 hx).1
      obtain ⟨_, _, _, _, _, _, hL⟩ := hM.imports
      obtain ⟨j, hj⟩ := List.mem_iff_getElem?.1 hx'
      obtain ⟨_, _, _, _, _, h5, _⟩ := imp_at hL hj
      exact h5
    · obtain ⟨_, _, _, _, _, _, hL⟩ := hM.funcs
      obtain ⟨j, hj⟩ := List.mem_iff_getElem?.1 h
      obtain ⟨_, _, _, _, _, h5⟩ := nat_at hL hj
      exact h5
  generalize hcs : modCells m (.slice A1 m.types.length c1) v2 v3 v4 v5 v6 v7 v8 v9 v10 = cs
  obtain ⟨oF, hoF⟩ : ∃ o, func m i = o := ⟨_, rfl⟩
  obtain ⟨oG, hoG⟩ : ∃ o, (globs m)[i]? = o := ⟨_, rfl⟩
  obtain ⟨oT, hoT⟩ : ∃ o, (tabs m)[i]? = o := ⟨_, rfl⟩
  obtain ⟨oM, hoM⟩ : ∃ o, (mems m)[i]? = o := ⟨_, rfl⟩
  obtain ⟨oE, hoE⟩ : ∃ o, expo m nm k = o := ⟨_, rfl⟩
  obtain ⟨ct, hct⟩ : ∃ c, count m k = c := ⟨_, rfl⟩
  obtain ⟨ci, hci⟩ : ∃ c, imported m k = c := ⟨_, rfl⟩
  have HG : Hid (∀ W, Below w.heap.size w W → Calls Try.prog 7 #[.agg cs] W fun e w' => ∃ g : Bool, e = .returned (.bool g) ∧ Below W.heap.size W w' ∧ (g = false → Few m)) := Lib.hid (fun W hb => by
    subst hcs
    exact rgreat_any m _ _ _ _ _ _ _ _ _ _ W (hM.grow hb) hB)
  have HOF : Hid (Few m → ∀ W, Below w.heap.size w W → Calls Try.prog 8 #[.agg cs] W fun e w' => ∃ P, e = .returned (.pointer (some ⟨P, 0, none⟩)) ∧ SpaceV w' P m ∧ Below W.heap.size W w') := Lib.hid (fun hF W hb => by
    subst hcs
    exact sof_any m _ _ _ _ _ _ _ _ _ _ W (hM.grow hb) hF)
  obtain ⟨xs, hxs⟩ : ∃ x, (oF.getD ⟨[], []⟩).params = x := ⟨_, rfl⟩
  obtain ⟨ys, hys⟩ : ∃ x, (oF.getD ⟨[], []⟩).results = x := ⟨_, rfl⟩
  obtain ⟨f1, hf1⟩ : ∃ x, xs.length = x := ⟨_, rfl⟩
  obtain ⟨f2, hf2⟩ : ∃ x, ys.length = x := ⟨_, rfl⟩
  obtain ⟨fb, hfb⟩ : ∃ x, oF.isSome = x := ⟨_, rfl⟩
  obtain ⟨gt, hgt⟩ : ∃ x, (oG.getD ⟨0, false⟩).t.toNat = x := ⟨_, rfl⟩
  obtain ⟨gm, hgm⟩ : ∃ x, (oG.getD ⟨0, false⟩).mu = x := ⟨_, rfl⟩
  obtain ⟨gb, hgb⟩ : ∃ x, oG.isSome = x := ⟨_, rfl⟩
  obtain ⟨tn, htn⟩ : ∃ x, (oT.getD ⟨0, 0⟩).min = x := ⟨_, rfl⟩
  obtain ⟨tx, htx⟩ : ∃ x, (oT.getD ⟨0, 0⟩).max = x := ⟨_, rfl⟩
  obtain ⟨tb, htb⟩ : ∃ x, oT.isSome = x := ⟨_, rfl⟩
  obtain ⟨mn, hmn⟩ : ∃ x, (oM.getD ⟨0, 0⟩).min = x := ⟨_, rfl⟩
  obtain ⟨mx, hmx⟩ : ∃ x, (oM.getD ⟨0, 0⟩).max = x := ⟨_, rfl⟩
  obtain ⟨mb, hmb⟩ : ∃ x, oM.isSome = x := ⟨_, rfl⟩
  obtain ⟨en, hen⟩ : ∃ x, (oE.map (·.index)).getD 0 = x := ⟨_, rfl⟩
  obtain ⟨eb, heb⟩ : ∃ x, oE.isSome = x := ⟨_, rfl⟩
  have HRF : Hid (Few m → ∀ W, Below w.heap.size w W → Calls Try.prog 10 #[.agg cs, .int .u32 (i : Int)] W fun e w' => KF xs ys f1 f2 fb W e w') := Lib.hid (fun hF W hb => by
    subst hcs
    exact (rfunc_any m _ _ _ _ _ _ _ _ _ _ W (hM.grow hb) hF i hi).mono fun e w' hq => FuncPost.kf (by rw [hoF] at hq; exact hq) hxs hys hf1 hf2 hfb)
  have HRG : Hid (Few m → ∀ W, Below w.heap.size w W → Calls Try.prog 12 #[.agg cs, .int .u32 (i : Int)] W fun e w' => e = .returned (.tuple #[.agg #[.int .u8 (gt : Int), .bool gm], .bool gb]) ∧ Below W.heap.size W w') := Lib.hid (fun hF W hb => by
    subst hcs
    exact (rglobs_any m _ _ _ _ _ _ _ _ _ _ W (hM.grow hb) hF i hi).mono fun e w' hq => by
      rw [hoG] at hq
      rw [← hgt, ← hgm, ← hgb]
      exact hq)
  have HRT : Hid (Few m → ∀ W, Below w.heap.size w W → Calls Try.prog 15 #[.agg cs, .int .u8 1, .int .u32 (i : Int)] W fun e w' => e = .returned (.tuple #[.agg #[.int .u32 (tn : Int), .int .i64 tx], .bool tb]) ∧ Below W.heap.size W w') := Lib.hid (fun hF W hb => by
    subst hcs
    exact (rtabs_any m _ _ _ _ _ _ _ _ _ _ W (hM.grow hb) hF i hi).mono fun e w' hq => by
      rw [hoT] at hq
      rw [← htn, ← htx, ← htb]
      exact hq)
  have HRM : Hid (Few m → ∀ W, Below w.heap.size w W → Calls Try.prog 15 #[.agg cs, .int .u8 2, .int .u32 (i : Int)] W fun e w' => e = .returned (.tuple #[.agg #[.int .u32 (mn : Int), .int .i64 mx], .bool mb]) ∧ Below W.heap.size W w') := Lib.hid (fun hF W hb => by
    subst hcs
    exact (rmems_any m _ _ _ _ _ _ _ _ _ _ W (hM.grow hb) hF i hi).mono fun e w' hq => by
      rw [hoM] at hq
      rw [← hmn, ← hmx, ← hmb]
      exact hq)
  have HRE : Hid (Few m → ∀ W, Below w.heap.size w W → Calls Try.prog 19 #[.agg cs, .string ⟨nm.toArray⟩, .int .u8 (k : Int)] W fun e w' => e = .returned (.tuple #[.int .u32 (en : Int), .bool eb]) ∧ Below W.heap.size W w') := Lib.hid (fun hF W hb => by
    subst hcs
    exact (rexp_any m _ _ _ _ _ _ _ _ _ _ W (hM.grow hb) hF nm k hk).mono fun e w' hq => by
      rw [hoE] at hq
      rw [← hen, ← heb]
      exact hq)
  have HRC : Hid (Few m → ∀ W, Below w.heap.size w W → Calls Try.prog 21 #[.agg cs, .int .u8 (k : Int)] W fun e w' => e = .returned (.int .i64 (ct : Int)) ∧ Below W.heap.size W w') := Lib.hid (fun hF W hb => by
    subst hcs
    exact by
      rw [← hct]
      exact rcount_any m _ _ _ _ _ _ _ _ _ _ W (hM.grow hb) hF k hk)
  have HRI : Hid (Few m → ∀ W, Below w.heap.size w W → Calls Try.prog 23 #[.agg cs, .int .u8 (k : Int)] W fun e w' => e = .returned (.int .i64 (ci : Int)) ∧ Below W.heap.size W w') := Lib.hid (fun hF W hb => by
    subst hcs
    exact by
      rw [← hci]
      exact rimported_any m _ _ _ _ _ _ _ _ _ _ W (hM.grow hb) hF.imports k hk)
  have HSF : Hid (Few m → ∀ p W, Recv W p m → Calls Try.prog 9 #[.pointer p, .int .u32 (i : Int)] W fun e w' => KF xs ys f1 f2 fb W e w') := Lib.hid (fun hF p W hr => (sfunc_any p m i W hr (Few.some hF) hi hft).mono fun e w' hq => FuncPost.kf (by rw [hoF] at hq; exact hq) hxs hys hf1 hf2 hfb)
  have HSG : Hid (Few m → ∀ p W, Recv W p m → Calls Try.prog 11 #[.pointer p, .int .u32 (i : Int)] W fun e w' => e = .returned (.tuple #[.agg #[.int .u8 (gt : Int), .bool gm], .bool gb]) ∧ Below W.heap.size W w') := Lib.hid (fun hF p W hr => (sglobal_any p m i W hr (Few.some hF) hi).mono fun e w' hq => by
      rw [hoG] at hq
      rw [← hgt, ← hgm, ← hgb]
      exact hq)
  have HST : Hid (Few m → ∀ p W, Recv W p m → Calls Try.prog 14 #[.pointer p, .int .u32 (i : Int)] W fun e w' => e = .returned (.tuple #[.agg #[.int .u32 (tn : Int), .int .i64 tx], .bool tb]) ∧ Below W.heap.size W w') := Lib.hid (fun hF p W hr => (stable_any p m i W hr (Few.some hF) hi).mono fun e w' hq => by
      rw [hoT] at hq
      rw [← htn, ← htx, ← htb]
      exact hq)
  have HSM : Hid (Few m → ∀ p W, Recv W p m → Calls Try.prog 16 #[.pointer p, .int .u32 (i : Int)] W fun e w' => e = .returned (.tuple #[.agg #[.int .u32 (mn : Int), .int .i64 mx], .bool mb]) ∧ Below W.heap.size W w') := Lib.hid (fun hF p W hr => (smem_any p m i W hr (Few.some hF) hi).mono fun e w' hq => by
      rw [hoM] at hq
      rw [← hmn, ← hmx, ← hmb]
      exact hq)
  have HSE : Hid (Few m → ∀ p W, Recv W p m → Calls Try.prog 18 #[.pointer p, .string ⟨nm.toArray⟩, .int .u8 (k : Int)] W fun e w' => e = .returned (.tuple #[.int .u32 (en : Int), .bool eb]) ∧ Below W.heap.size W w') := Lib.hid (fun hF p W hr => (sexport_any p m nm k hk W hr (Few.some hF)).mono fun e w' hq => by
      rw [hoE] at hq
      rw [← hen, ← heb]
      exact hq)
  have HSC : Hid (Few m → ∀ p W, Recv W p m → Calls Try.prog 20 #[.pointer p, .int .u8 (k : Int)] W fun e w' => e = .returned (.int .i64 (ct : Int)) ∧ Below W.heap.size W w') := Lib.hid (fun hF p W hr => by
      rw [← hct]
      exact scount_any p m k hk W hr (Few.some hF))
  have HSI : Hid (Few m → ∀ p W, Recv W p m → Calls Try.prog 22 #[.pointer p, .int .u8 (k : Int)] W fun e w' => e = .returned (.int .i64 (ci : Int)) ∧ Below W.heap.size W w') := Lib.hid (fun hF p W hr => by
      rw [← hci]
      exact simported_any p m k hk W hr (Few.some hF))
  have HSY : Hid (Few m → ∀ p W, Recv W p m → Calls Try.prog 17 #[.pointer p, .int .u32 (i : Int)] W fun e w' => TypePost (m.types[i]?) W e w') := Lib.hid (fun hF p W hr => stype_any p m i W hr (Few.some hF) hi)
  clear hoF hoG hoT hoM hoE hct hci hxs hys hf1 hf2 hfb hgt hgm hgb htn htx htb hmn hmx hmb hen heb hft hM hB
  generalize (⟨nm.toArray⟩ : ByteArray) = NB at HRE HSE ⊢
  unfold modCells at hcs
  rw [hn1] at hcs HTY
  generalize m.hasStart = hs at hcs
  generalize (m.start : Int) = st at hcs
  subst hcs
  clear hn1
  have HX0 := Lib.hid (heap_alloc_new w (.cells #[.slice A1 n1 c1, v2, v3, v4, v5, v6, v7, .bool hs, .int .u32 st, v8, v9, v10] 33))
  have HB0 : Hid (Below w.heap.size w (w.alloc (.cells #[.slice A1 n1 c1, v2, v3, v4, v5, v6, v7, .bool hs, .int .u32 st, v8, v9, v10] 33))) := Lib.hid ((Below.refl _ _).alloc (Nat.le_refl _) _)
  go_enter Try.func3, Try.ntmps3
  go_upto_region 1 with fail
  generalize w.alloc (.cells #[.slice A1 n1 c1, v2, v3, v4, v5, v6, v7, .bool hs, .int .u32 st, v8, v9, v10] 33) = w0 at HX0 HB0 ⊢
  obtain ⟨X, hX⟩ : ∃ X, w.heap.size = X := ⟨_, rfl⟩
  rw [hX] at HX0
  rw [hX]
  clear hX
  have HALL := Lib.hid (fun W (hW : Below w0.heap.size w0 W) => cells12 HX0.out hW)
  have HCUR := HB0
  clear HX0 HB0
  go_upto_region 3 with (go_at_call 6; refine (known8 _).mono ?_; rintro e w1 ⟨rfl, hb⟩; have HCUR := Lib.hid (HCUR.out.trans (hb.mono HCUR.out.size)); have HALL := Lib.hid (fun W (hW : Below _ _ W) => HALL.out W (hb.trans (hW.mono hb.size))); clear hb)
  obtain ⟨a0, a1, a2, a3, a4, a5, a6, a7, a8, a9, a10, a11⟩ := ((HALL.out _ (Below.refl _ _)))
  go_cut [31] from 30 to 31 (fun t wx => ∃ g : Bool, t = .bool g ∧ Hid (Below w1.heap.size w1 wx) ∧ Hid (g = false → Few m))
  case first =>
    go_wp2_with (go_at_call 7; refine (HG.out _ HCUR.out).mono ?_; rintro e w2 ⟨g, rfl, hb, hsm⟩; have HB2 := Lib.hid hb; have HSM := Lib.hid hsm; clear a0 a1 a2 a3 a4 a5 a6 a7 a8 a9 a10 a11 hb hsm)
    go_meet
    case rel => exact ⟨g, rfl, HB2, HSM⟩
  case rest =>
  obtain ⟨g, rfl, HB2, HSM⟩ := hcut
  clear a0 a1 a2 a3 a4 a5 a6 a7 a8 a9 a10 a11 HG
  have HCUR := Lib.hid (HCUR.out.trans (HB2.out.mono HCUR.out.size))
  have HALL := Lib.hid (fun W (hW : Below wc.heap.size wc W) => HALL.out W (HB2.out.trans (hW.mono HB2.out.size)))
  cases g with
  | true =>
    go_wp2_with fail
    go_ret
    exact ⟨rfl, HCUR.out⟩
  | false =>
  have HF := Lib.hid (HSM.out rfl)
  clear HSM HB2
  have HOF := Lib.hid (HOF.out HF.out)
  have HRF := Lib.hid (HRF.out HF.out)
  have HRG := Lib.hid (HRG.out HF.out)
  have HRT := Lib.hid (HRT.out HF.out)
  have HRM := Lib.hid (HRM.out HF.out)
  have HRE := Lib.hid (HRE.out HF.out)
  have HRC := Lib.hid (HRC.out HF.out)
  have HRI := Lib.hid (HRI.out HF.out)
  have HSF := Lib.hid (HSF.out HF.out)
  have HSG := Lib.hid (HSG.out HF.out)
  have HST := Lib.hid (HST.out HF.out)
  have HSM := Lib.hid (HSM.out HF.out)
  have HSE := Lib.hid (HSE.out HF.out)
  have HSC := Lib.hid (HSC.out HF.out)
  have HSI := Lib.hid (HSI.out HF.out)
  have HSY := Lib.hid (HSY.out HF.out)
  obtain ⟨a0, a1, a2, a3, a4, a5, a6, a7, a8, a9, a10, a11⟩ := ((HALL.out _ (Below.refl _ _)))
  go_upto_region 6 with (go_at_call 8; refine (HOF.out _ HCUR.out).mono ?_; rintro e x0 ⟨P, rfl, hs, hb⟩; have HS := Lib.hid hs; have hB := Lib.hid hb; clear hs hb)
  clear a0 a1 a2 a3 a4 a5 a6 a7 a8 a9 a10 a11
  have HCUR := Lib.hid (HCUR.out.trans (hB.out.mono HCUR.out.size))
  have HALL := Lib.hid (fun W (hW : Below x0.heap.size x0 W) => And.intro (HALL.out W (hB.out.trans (hW.mono hB.out.size))) ((.inl ⟨P, rfl, HS.out.grow hW⟩ : Recv W (some ⟨P, 0, none⟩) m)))
  clear HS hB
  go_upto_region 7 with (go_at_call 9; refine (HSF.out _ _ ((HALL.out _ (Below.refl _ _)).2)).mono ?_; rintro e x1 hq; obtain ⟨A1x, c1x, B1x, d1x, rfl, hs1, hs2, hb⟩ := hq; have HP1 := Lib.hid hs1; have HQ1 := Lib.hid hs2; have HCUR := Lib.hid (HCUR.out.trans (hb.mono HCUR.out.size)); have HALL := Lib.hid (fun W (hW : Below _ _ W) => HALL.out W (hb.trans (hW.mono hb.size))); clear hb hs1 hs2)
  have hba : Below x1.heap.size x1 (x1.alloc (.cells #[.slice A1x f1 c1x, .slice B1x f2 d1x] 40)) := (Below.refl _ _).alloc (Nat.le_refl _) _
  have hva := Lib.hid (heap_alloc_new x1 (.cells #[.slice A1x f1 c1x, .slice B1x f2 d1x] 40))
  have HCUR := Lib.hid (HCUR.out.trans (hba.mono HCUR.out.size))
  have HALL := Lib.hid (fun W (hW : Below (x1.alloc (.cells #[.slice A1x f1 c1x, .slice B1x f2 d1x] 40)).heap.size (x1.alloc (.cells #[.slice A1x f1 c1x, .slice B1x f2 d1x] 40)) W) => And.intro (HALL.out W (hba.trans (hW.mono hba.size))) (And.intro (two_cells ((hW.block _ (Array.getElem?_eq_some_iff.1 hva.out).1).trans hva.out)) (And.intro ((HP1.out.grow hba).grow hW) ((HQ1.out.grow hba).grow hW))))
  obtain ⟨V1, hV1⟩ : ∃ V, x1.heap.size = V := ⟨_, rfl⟩
  generalize x1.alloc (.cells #[.slice A1x f1 c1x, .slice B1x f2 d1x] 40) = y1 at HALL HCUR ⊢
  rw [hV1] at HALL
  simp only [hV1]
  clear hba hva hV1 HP1 HQ1
  obtain ⟨a0, a1, a2, a3, a4, a5, a6, a7, a8, a9, a10, a11⟩ := ((HALL.out _ (Below.refl _ _)).1.1)
  go_upto_region 8 with (go_at_call 10; refine (HRF.out _ HCUR.out).mono ?_; rintro e x2 hq; obtain ⟨A2x, c2x, B2x, d2x, rfl, hs1, hs2, hb⟩ := hq; have HP2 := Lib.hid hs1; have HQ2 := Lib.hid hs2; have HCUR := Lib.hid (HCUR.out.trans (hb.mono HCUR.out.size)); have HALL := Lib.hid (fun W (hW : Below _ _ W) => HALL.out W (hb.trans (hW.mono hb.size))); clear hb hs1 hs2 a0 a1 a2 a3 a4 a5 a6 a7 a8 a9 a10 a11)
  have hba : Below x2.heap.size x2 (x2.alloc (.cells #[.slice A2x f1 c2x, .slice B2x f2 d2x] 40)) := (Below.refl _ _).alloc (Nat.le_refl _) _
  have hva := Lib.hid (heap_alloc_new x2 (.cells #[.slice A2x f1 c2x, .slice B2x f2 d2x] 40))
  have HCUR := Lib.hid (HCUR.out.trans (hba.mono HCUR.out.size))
  have HALL := Lib.hid (fun W (hW : Below (x2.alloc (.cells #[.slice A2x f1 c2x, .slice B2x f2 d2x] 40)).heap.size (x2.alloc (.cells #[.slice A2x f1 c2x, .slice B2x f2 d2x] 40)) W) => And.intro (HALL.out W (hba.trans (hW.mono hba.size))) (And.intro (two_cells ((hW.block _ (Array.getElem?_eq_some_iff.1 hva.out).1).trans hva.out)) (And.intro ((HP2.out.grow hba).grow hW) ((HQ2.out.grow hba).grow hW))))
  obtain ⟨V2, hV2⟩ : ∃ V, x2.heap.size = V := ⟨_, rfl⟩
  generalize x2.alloc (.cells #[.slice A2x f1 c2x, .slice B2x f2 d2x] 40) = y2 at HALL HCUR ⊢
  rw [hV2] at HALL
  simp only [hV2]
  clear hba hva hV2 HP2 HQ2
  go_upto_region 9 with (go_at_call 11; refine (HSG.out _ _ ((HALL.out _ (Below.refl _ _)).1.1.2)).mono ?_; rintro e x3 ⟨rfl, hb⟩; have HCUR := Lib.hid (HCUR.out.trans (hb.mono HCUR.out.size)); have HALL := Lib.hid (fun W (hW : Below _ _ W) => HALL.out W (hb.trans (hW.mono hb.size))); clear hb)
  have hba : Below x3.heap.size x3 (x3.alloc (.cells #[.int .u8 (gt : Int), .bool gm] 45)) := (Below.refl _ _).alloc (Nat.le_refl _) _
  have hva := Lib.hid (heap_alloc_new x3 (.cells #[.int .u8 (gt : Int), .bool gm] 45))
  have HCUR := Lib.hid (HCUR.out.trans (hba.mono HCUR.out.size))
  have HALL := Lib.hid (fun W (hW : Below (x3.alloc (.cells #[.int .u8 (gt : Int), .bool gm] 45)).heap.size (x3.alloc (.cells #[.int .u8 (gt : Int), .bool gm] 45)) W) => And.intro (HALL.out W (hba.trans (hW.mono hba.size))) (two_cells ((hW.block _ (Array.getElem?_eq_some_iff.1 hva.out).1).trans hva.out)))
  obtain ⟨V3, hV3⟩ : ∃ V, x3.heap.size = V := ⟨_, rfl⟩
  generalize x3.alloc (.cells #[.int .u8 (gt : Int), .bool gm] 45) = y3 at HALL HCUR ⊢
  rw [hV3] at HALL
  simp only [hV3]
  clear hba hva hV3
  obtain ⟨a0, a1, a2, a3, a4, a5, a6, a7, a8, a9, a10, a11⟩ := ((HALL.out _ (Below.refl _ _)).1.1.1.1)
  go_upto_region 10 with (go_at_call 12; refine (HRG.out _ HCUR.out).mono ?_; rintro e x4 ⟨rfl, hb⟩; have HCUR := Lib.hid (HCUR.out.trans (hb.mono HCUR.out.size)); have HALL := Lib.hid (fun W (hW : Below _ _ W) => HALL.out W (hb.trans (hW.mono hb.size))); clear hb a0 a1 a2 a3 a4 a5 a6 a7 a8 a9 a10 a11)
  have hba : Below x4.heap.size x4 (x4.alloc (.cells #[.int .u8 (gt : Int), .bool gm] 45)) := (Below.refl _ _).alloc (Nat.le_refl _) _
  have hva := Lib.hid (heap_alloc_new x4 (.cells #[.int .u8 (gt : Int), .bool gm] 45))
  have HCUR := Lib.hid (HCUR.out.trans (hba.mono HCUR.out.size))
  have HALL := Lib.hid (fun W (hW : Below (x4.alloc (.cells #[.int .u8 (gt : Int), .bool gm] 45)).heap.size (x4.alloc (.cells #[.int .u8 (gt : Int), .bool gm] 45)) W) => And.intro (HALL.out W (hba.trans (hW.mono hba.size))) (two_cells ((hW.block _ (Array.getElem?_eq_some_iff.1 hva.out).1).trans hva.out)))
  obtain ⟨V4, hV4⟩ : ∃ V, x4.heap.size = V := ⟨_, rfl⟩
  generalize x4.alloc (.cells #[.int .u8 (gt : Int), .bool gm] 45) = y4 at HALL HCUR ⊢
  rw [hV4] at HALL
  simp only [hV4]
  clear hba hva hV4
  obtain ⟨qf0, qf1⟩ := ((HALL.out _ (Below.refl _ _)).1.1.1.2).1
  obtain ⟨qg0, qg1⟩ := ((HALL.out _ (Below.refl _ _)).1.1.2).1
  obtain ⟨qx0, qx1⟩ := ((HALL.out _ (Below.refl _ _)).1.2)
  obtain ⟨qy0, qy1⟩ := ((HALL.out _ (Below.refl _ _)).2)
  have r1 : (fb != fb) = false := bne_self' fb
  have r2 : (gb != gb) = false := bne_self' gb
  have r3 : ((gt : Int) == (gt : Int)) = true := by simp
  have r4 : (gm == gm) = true := by cases gm <;> rfl
  go_upto_region 12 with (go_at_call 13; refine (rsame_self xs ys f1 f2 _ _ _ _ _ _ _ _ _ ((HALL.out _ (Below.refl _ _)).1.1.1.2).2.1 ((HALL.out _ (Below.refl _ _)).1.1.1.2).2.2 ((HALL.out _ (Below.refl _ _)).1.1.2).2.1 ((HALL.out _ (Below.refl _ _)).1.1.2).2.2).mono ?_; rintro e x5 ⟨rfl, hb⟩; have HCUR := Lib.hid (HCUR.out.trans (hb.mono HCUR.out.size)); have HALL := Lib.hid (fun W (hW : Below _ _ W) => HALL.out W (hb.trans (hW.mono hb.size))); clear hb qf0 qf1 qg0 qg1 qx0 qx1 qy0 qy1; obtain ⟨qx0, qx1⟩ := ((HALL.out _ (Below.refl _ _)).1.2); obtain ⟨qy0, qy1⟩ := ((HALL.out _ (Below.refl _ _)).2))
  clear qx0 qx1 qy0 qy1 r1 r2 r3 r4
  go_upto_region 13 with (go_at_call 14; refine (HST.out _ _ ((HALL.out _ (Below.refl _ _)).1.1.1.1.2)).mono ?_; rintro e x6 ⟨rfl, hb⟩; have HCUR := Lib.hid (HCUR.out.trans (hb.mono HCUR.out.size)); have HALL := Lib.hid (fun W (hW : Below _ _ W) => HALL.out W (hb.trans (hW.mono hb.size))); clear hb)
  have hba : Below x6.heap.size x6 (x6.alloc (.cells #[.int .u32 (tn : Int), .int .i64 tx] 51)) := (Below.refl _ _).alloc (Nat.le_refl _) _
  have hva := Lib.hid (heap_alloc_new x6 (.cells #[.int .u32 (tn : Int), .int .i64 tx] 51))
  have HCUR := Lib.hid (HCUR.out.trans (hba.mono HCUR.out.size))
  have HALL := Lib.hid (fun W (hW : Below (x6.alloc (.cells #[.int .u32 (tn : Int), .int .i64 tx] 51)).heap.size (x6.alloc (.cells #[.int .u32 (tn : Int), .int .i64 tx] 51)) W) => And.intro (HALL.out W (hba.trans (hW.mono hba.size))) (two_cells ((hW.block _ (Array.getElem?_eq_some_iff.1 hva.out).1).trans hva.out)))
  obtain ⟨V6, hV6⟩ : ∃ V, x6.heap.size = V := ⟨_, rfl⟩
  generalize x6.alloc (.cells #[.int .u32 (tn : Int), .int .i64 tx] 51) = y6 at HALL HCUR ⊢
  rw [hV6] at HALL
  simp only [hV6]
  clear hba hva hV6
  obtain ⟨a0, a1, a2, a3, a4, a5, a6, a7, a8, a9, a10, a11⟩ := ((HALL.out _ (Below.refl _ _)).1.1.1.1.1.1)
  go_upto_region 14 with (go_at_call 15; refine (HRT.out _ HCUR.out).mono ?_; rintro e x7 ⟨rfl, hb⟩; have HCUR := Lib.hid (HCUR.out.trans (hb.mono HCUR.out.size)); have HALL := Lib.hid (fun W (hW : Below _ _ W) => HALL.out W (hb.trans (hW.mono hb.size))); clear hb a0 a1 a2 a3 a4 a5 a6 a7 a8 a9 a10 a11)
  have hba : Below x7.heap.size x7 (x7.alloc (.cells #[.int .u32 (tn : Int), .int .i64 tx] 51)) := (Below.refl _ _).alloc (Nat.le_refl _) _
  have hva := Lib.hid (heap_alloc_new x7 (.cells #[.int .u32 (tn : Int), .int .i64 tx] 51))
  have HCUR := Lib.hid (HCUR.out.trans (hba.mono HCUR.out.size))
  have HALL := Lib.hid (fun W (hW : Below (x7.alloc (.cells #[.int .u32 (tn : Int), .int .i64 tx] 51)).heap.size (x7.alloc (.cells #[.int .u32 (tn : Int), .int .i64 tx] 51)) W) => And.intro (HALL.out W (hba.trans (hW.mono hba.size))) (two_cells ((hW.block _ (Array.getElem?_eq_some_iff.1 hva.out).1).trans hva.out)))
  obtain ⟨V7, hV7⟩ : ∃ V, x7.heap.size = V := ⟨_, rfl⟩
  generalize x7.alloc (.cells #[.int .u32 (tn : Int), .int .i64 tx] 51) = y7 at HALL HCUR ⊢
  rw [hV7] at HALL
  simp only [hV7]
  clear hba hva hV7
  go_upto_region 15 with (go_at_call 16; refine (HSM.out _ _ ((HALL.out _ (Below.refl _ _)).1.1.1.1.1.1.2)).mono ?_; rintro e x8 ⟨rfl, hb⟩; have HCUR := Lib.hid (HCUR.out.trans (hb.mono HCUR.out.size)); have HALL := Lib.hid (fun W (hW : Below _ _ W) => HALL.out W (hb.trans (hW.mono hb.size))); clear hb)
  have hba : Below x8.heap.size x8 (x8.alloc (.cells #[.int .u32 (mn : Int), .int .i64 mx] 51)) := (Below.refl _ _).alloc (Nat.le_refl _) _
  have hva := Lib.hid (heap_alloc_new x8 (.cells #[.int .u32 (mn : Int), .int .i64 mx] 51))
  have HCUR := Lib.hid (HCUR.out.trans (hba.mono HCUR.out.size))
  have HALL := Lib.hid (fun W (hW : Below (x8.alloc (.cells #[.int .u32 (mn : Int), .int .i64 mx] 51)).heap.size (x8.alloc (.cells #[.int .u32 (mn : Int), .int .i64 mx] 51)) W) => And.intro (HALL.out W (hba.trans (hW.mono hba.size))) (two_cells ((hW.block _ (Array.getElem?_eq_some_iff.1 hva.out).1).trans hva.out)))
  obtain ⟨V8, hV8⟩ : ∃ V, x8.heap.size = V := ⟨_, rfl⟩
  generalize x8.alloc (.cells #[.int .u32 (mn : Int), .int .i64 mx] 51) = y8 at HALL HCUR ⊢
  rw [hV8] at HALL
  simp only [hV8]
  clear hba hva hV8
  obtain ⟨a0, a1, a2, a3, a4, a5, a6, a7, a8, a9, a10, a11⟩ := ((HALL.out _ (Below.refl _ _)).1.1.1.1.1.1.1.1)
  go_upto_region 16 with (go_at_call 15; refine (HRM.out _ HCUR.out).mono ?_; rintro e x9 ⟨rfl, hb⟩; have HCUR := Lib.hid (HCUR.out.trans (hb.mono HCUR.out.size)); have HALL := Lib.hid (fun W (hW : Below _ _ W) => HALL.out W (hb.trans (hW.mono hb.size))); clear hb a0 a1 a2 a3 a4 a5 a6 a7 a8 a9 a10 a11)
  have hba : Below x9.heap.size x9 (x9.alloc (.cells #[.int .u32 (mn : Int), .int .i64 mx] 51)) := (Below.refl _ _).alloc (Nat.le_refl _) _
  have hva := Lib.hid (heap_alloc_new x9 (.cells #[.int .u32 (mn : Int), .int .i64 mx] 51))
  have HCUR := Lib.hid (HCUR.out.trans (hba.mono HCUR.out.size))
  have HALL := Lib.hid (fun W (hW : Below (x9.alloc (.cells #[.int .u32 (mn : Int), .int .i64 mx] 51)).heap.size (x9.alloc (.cells #[.int .u32 (mn : Int), .int .i64 mx] 51)) W) => And.intro (HALL.out W (hba.trans (hW.mono hba.size))) (two_cells ((hW.block _ (Array.getElem?_eq_some_iff.1 hva.out).1).trans hva.out)))
  obtain ⟨V9, hV9⟩ : ∃ V, x9.heap.size = V := ⟨_, rfl⟩
  generalize x9.alloc (.cells #[.int .u32 (mn : Int), .int .i64 mx] 51) = y9 at HALL HCUR ⊢
  rw [hV9] at HALL
  simp only [hV9]
  clear hba hva hV9
  obtain ⟨qt0, qt1⟩ := ((HALL.out _ (Below.refl _ _)).1.1.1.2)
  obtain ⟨qu0, qu1⟩ := ((HALL.out _ (Below.refl _ _)).1.1.2)
  obtain ⟨qm0, qm1⟩ := ((HALL.out _ (Below.refl _ _)).1.2)
  obtain ⟨qn0, qn1⟩ := ((HALL.out _ (Below.refl _ _)).2)
  have r1 : (tb != tb) = false := bne_self' tb
  have r2 : (mb != mb) = false := bne_self' mb
  have r3 : ((tn : Int) == (tn : Int)) = true := by simp
  have r4 : (tx == tx) = true := by simp
  have r5 : ((mn : Int) == (mn : Int)) = true := by simp
  have r6 : (mx == mx) = true := by simp
  go_upto_region 18 with fail
  clear qt0 qt1 qu0 qu1 qm0 qm1 qn0 qn1 r1 r2 r3 r4 r5 r6
  have re : ((en : Int) == (en : Int)) = true := by simp
  have rb : (eb == eb) = true := by cases eb <;> rfl
  have rc : ((ct : Int) == (ct : Int)) = true := by simp
  have ri : ((ci : Int) == (ci : Int)) = true := by simp
  have RE := Lib.hid re
  have RB := Lib.hid rb
  have RC := Lib.hid rc
  have RI := Lib.hid ri
  clear re rb rc ri
  cases hx : m.types[i]? with
  | none =>
    rw [hx] at HSY
    have hlt : decide ((i : Int) < (n1 : Int)) = false := decide_eq_false (by have := List.getElem?_eq_none_iff.1 hx; have := hN1.out; omega)
    have hltn : decide (i < n1) = false := decide_eq_false (by have := List.getElem?_eq_none_iff.1 hx; have := hN1.out; omega)
    clear hx
    have HKY := Lib.hid (fun p W hr => (HSY.out p W hr).mono fun e w' hq => FuncPost.kf (xs := []) (ys := []) (n1 := 0) (n2 := 0) (b := false) hq.func rfl rfl rfl rfl rfl)
    clear HSY
    go_upto_region 19 with (go_at_call 17; refine (HKY.out _ _ ((HALL.out _ (Below.refl _ _)).1.1.1.1.1.1.1.1.2)).mono ?_; rintro e x10 hq; obtain ⟨A10x, c10x, B10x, d10x, rfl, hs1, hs2, hb⟩ := hq; have HP10 := Lib.hid hs1; have HQ10 := Lib.hid hs2; have HCUR := Lib.hid (HCUR.out.trans (hb.mono HCUR.out.size)); have HALL := Lib.hid (fun W (hW : Below _ _ W) => HALL.out W (hb.trans (hW.mono hb.size))); clear hb hs1 hs2)
    have hba : Below x10.heap.size x10 (x10.alloc (.cells #[.slice A10x 0 c10x, .slice B10x 0 d10x] 40)) := (Below.refl _ _).alloc (Nat.le_refl _) _
    have hva := Lib.hid (heap_alloc_new x10 (.cells #[.slice A10x 0 c10x, .slice B10x 0 d10x] 40))
    have HCUR := Lib.hid (HCUR.out.trans (hba.mono HCUR.out.size))
    have HALL := Lib.hid (fun W (hW : Below (x10.alloc (.cells #[.slice A10x 0 c10x, .slice B10x 0 d10x] 40)).heap.size (x10.alloc (.cells #[.slice A10x 0 c10x, .slice B10x 0 d10x] 40)) W) => And.intro (HALL.out W (hba.trans (hW.mono hba.size))) (And.intro (two_cells ((hW.block _ (Array.getElem?_eq_some_iff.1 hva.out).1).trans hva.out)) (And.intro ((HP10.out.grow hba).grow hW) ((HQ10.out.grow hba).grow hW))))
    obtain ⟨V10, hV10⟩ : ∃ V, x10.heap.size = V := ⟨_, rfl⟩
    generalize x10.alloc (.cells #[.slice A10x 0 c10x, .slice B10x 0 d10x] 40) = y10 at HALL HCUR ⊢
    rw [hV10] at HALL
    simp only [hV10]
    clear hba hva hV10 HP10 HQ10
    have hba : Below y10.heap.size y10 (y10.alloc (.cells #[.slice none 0 0, .slice none 0 0] 40)) := (Below.refl _ _).alloc (Nat.le_refl _) _
    have HZ := Lib.hid (heap_alloc_new y10 (.cells #[.slice none 0 0, .slice none 0 0] 40))
    have HBA := Lib.hid hba
    clear hba
    go_upto_region 20 with fail
    obtain ⟨V, hV⟩ : ∃ V, y10.heap.size = V := ⟨_, rfl⟩
    generalize y10.alloc (.cells #[.slice none 0 0, .slice none 0 0] 40) = z0 at HZ HBA ⊢
    rw [hV] at HZ
    simp only [hV]
    clear hV
    have HALL := Lib.hid (fun W (hW : Below z0.heap.size z0 W) => And.intro (HALL.out W (HBA.out.trans (hW.mono HBA.out.size))) (two_cells ((hW.block _ (Array.getElem?_eq_some_iff.1 HZ.out).1).trans HZ.out)))
    have HCUR := Lib.hid (HCUR.out.trans (HBA.out.mono HCUR.out.size))
    clear HZ HBA
    have a0 := ((HALL.out _ (Below.refl _ _)).1.1.1.1.1.1.1.1.1.1.1).b0
    go_upto_region 23 with fail
    clear a0 hlt hltn
    go_upto_region 24 with (go_at_call 18; refine (HSE.out _ _ ((HALL.out _ (Below.refl _ _)).1.1.1.1.1.1.1.1.1.1.2)).mono ?_; rintro e x11 ⟨rfl, hb⟩; have HCUR := Lib.hid (HCUR.out.trans (hb.mono HCUR.out.size)); have HALL := Lib.hid (fun W (hW : Below _ _ W) => HALL.out W (hb.trans (hW.mono hb.size))); clear hb)
    obtain ⟨a0, a1, a2, a3, a4, a5, a6, a7, a8, a9, a10, a11⟩ := ((HALL.out _ (Below.refl _ _)).1.1.1.1.1.1.1.1.1.1.1)
    go_upto_region 25 with (go_at_call 19; refine (HRE.out _ HCUR.out).mono ?_; rintro e x12 ⟨rfl, hb⟩; have HCUR := Lib.hid (HCUR.out.trans (hb.mono HCUR.out.size)); have HALL := Lib.hid (fun W (hW : Below _ _ W) => HALL.out W (hb.trans (hW.mono hb.size))); clear hb a0 a1 a2 a3 a4 a5 a6 a7 a8 a9 a10 a11)
    have re := RE.out
    have rb := RB.out
    have rc := RC.out
    have ri := RI.out
    refine wp_region_held_drew (S := fun W' => Below x12.heap.size x12 W') (by kernel_rfl) (Below.drew (Below.refl _ _)) (fun hHeld => ?_)
    refine drawn_take 0 rfl (by kernel_rfl) (by kernel_rfl) (by kernel_rfl) (fun _ _ _ h => h) (by rfl) (by assumption) (v := ?_) ?_ ?_
    rotate_left
    · (intro wy hSw; obtain ⟨a0, a1, a2, a3, a4, a5, a6, a7, a8, a9, a10, a11⟩ := (HALL.out wy hSw).1.1.1.1.1.1.1.1.1.1.1; obtain ⟨qt0, qt1⟩ := (HALL.out wy hSw).1.2.1; obtain ⟨qw0, qw1⟩ := (HALL.out wy hSw).2; go_simp; try with_reducible rfl)
    simp only [Act.put, List.setIfInBounds_toArray, List.set_cons_zero, List.set_cons_succ]
    refine drawn_take 1 rfl (by kernel_rfl) (by kernel_rfl) (by kernel_rfl) (fun _ _ _ h => h) (by rfl) (by assumption) (v := ?_) ?_ ?_
    rotate_left
    · (intro wy hSw; obtain ⟨a0, a1, a2, a3, a4, a5, a6, a7, a8, a9, a10, a11⟩ := (HALL.out wy hSw).1.1.1.1.1.1.1.1.1.1.1; obtain ⟨qt0, qt1⟩ := (HALL.out wy hSw).1.2.1; obtain ⟨qw0, qw1⟩ := (HALL.out wy hSw).2; go_simp; try with_reducible rfl)
    simp only [Act.put, List.setIfInBounds_toArray, List.set_cons_zero, List.set_cons_succ]
    refine drawn_sole 2 rfl (by kernel_rfl) (fun K hK => ?_)
    try (rw [if_pos]; case hc => rfl)
    go_simp
    refine (rsame_self ([] : List UInt8) ([] : List UInt8) 0 0 _ _ _ _ _ _ _ _ _ ((HALL.out _ hHeld).1.2).2.1 ((HALL.out _ hHeld).1.2).2.2 (SliceV.nil _ _) (SliceV.nil _ _)).mono ?_
    rintro e s1 ⟨rfl, hb⟩
    have hH : Below x12.heap.size x12 s1 := hHeld.trans (hb.mono hHeld.size)
    clear hb
    go_wp2_with fail
    refine hK.out _ _ hH (fun hHeld2 => ?_)
    clear hK K hHeld hH
    have hHeld := hHeld2
    clear hHeld2
    refine drawn_take 3 rfl (by kernel_rfl) (by kernel_rfl) (by kernel_rfl) (fun _ _ _ h => h) (by rfl) (by assumption) (v := ?_) ?_ ?_
    rotate_left
    · (intro wy hSw; go_simp; try with_reducible rfl)
    simp only [Act.put, List.setIfInBounds_toArray, List.set_cons_zero, List.set_cons_succ]
    refine drawn_take 4 rfl (by kernel_rfl) (by kernel_rfl) (by kernel_rfl) (fun _ _ _ h => h) (by rfl) (by assumption) (v := ?_) ?_ ?_
    rotate_left
    · (intro wy hSw; go_simp; try with_reducible rfl)
    simp only [Act.put, List.setIfInBounds_toArray, List.set_cons_zero, List.set_cons_succ]
    refine drawn_take 5 rfl (by kernel_rfl) (by kernel_rfl) (by kernel_rfl) (fun _ _ _ h => h) (by rfl) (by assumption) (v := ?_) ?_ ?_
    rotate_left
    · (intro wy hSw; go_simp; try with_reducible rfl)
    simp only [Act.put, List.setIfInBounds_toArray, List.set_cons_zero, List.set_cons_succ]
    refine drawn_take 6 rfl (by kernel_rfl) (by kernel_rfl) (by kernel_rfl) (fun _ _ _ h => h) (by rfl) (by assumption) (v := ?_) ?_ ?_
    rotate_left
    · (intro wy hSw; go_simp; try with_reducible rfl)
    simp only [Act.put, List.setIfInBounds_toArray, List.set_cons_zero, List.set_cons_succ]
    refine drawn_take 7 rfl (by kernel_rfl) (by kernel_rfl) (by kernel_rfl) (fun _ _ _ h => h) (by rfl) (by assumption) (v := ?_) ?_ ?_
    rotate_left
    · (intro wy hSw; go_simp; try with_reducible rfl)
    simp only [Act.put, List.setIfInBounds_toArray, List.set_cons_zero, List.set_cons_succ]
    refine drawn_take 8 rfl (by kernel_rfl) (by kernel_rfl) (by kernel_rfl) (fun _ _ _ h => h) (by rfl) (by assumption) (v := ?_) ?_ ?_
    rotate_left
    · (intro wy hSw; go_simp; try with_reducible rfl)
    simp only [Act.put, List.setIfInBounds_toArray, List.set_cons_zero, List.set_cons_succ]
    refine drawn_take 9 rfl (by kernel_rfl) (by kernel_rfl) (by kernel_rfl) (fun _ _ _ h => h) (by rfl) (by assumption) (v := ?_) ?_ ?_
    rotate_left
    · (intro wy hSw; go_simp; try with_reducible rfl)
    simp only [Act.put, List.setIfInBounds_toArray, List.set_cons_zero, List.set_cons_succ]
    refine drawn_take 10 rfl (by kernel_rfl) (by kernel_rfl) (by kernel_rfl) (fun _ _ _ h => h) (by rfl) (by assumption) (v := ?_) ?_ ?_
    rotate_left
    · (intro wy hSw; go_simp; try with_reducible rfl)
    simp only [Act.put, List.setIfInBounds_toArray, List.set_cons_zero, List.set_cons_succ]
    refine drawn_take 11 rfl (by kernel_rfl) (by kernel_rfl) (by kernel_rfl) (fun _ _ _ h => h) (by rfl) (by assumption) (v := ?_) ?_ ?_
    rotate_left
    · (intro wy hSw; go_simp; try with_reducible rfl)
    simp only [Act.put, List.setIfInBounds_toArray, List.set_cons_zero, List.set_cons_succ]
    refine drawn_take 12 rfl (by kernel_rfl) (by kernel_rfl) (by kernel_rfl) (fun _ _ _ h => h) (by rfl) (by assumption) (v := ?_) ?_ ?_
    rotate_left
    · (intro wy hSw; go_simp; try with_reducible rfl)
    simp only [Act.put, List.setIfInBounds_toArray, List.set_cons_zero, List.set_cons_succ]
    refine drawn_take 13 rfl (by kernel_rfl) (by kernel_rfl) (by kernel_rfl) (fun _ _ _ h => h) (by rfl) (by assumption) (v := ?_) ?_ ?_
    rotate_left
    · (intro wy hSw; go_simp; try with_reducible rfl)
    simp only [Act.put, List.setIfInBounds_toArray, List.set_cons_zero, List.set_cons_succ]
    refine drawn_take 14 rfl (by kernel_rfl) (by kernel_rfl) (by kernel_rfl) (fun _ _ _ h => h) (by rfl) (by assumption) (v := ?_) ?_ ?_
    rotate_left
    · (intro wy hSw; go_simp; try with_reducible rfl)
    simp only [Act.put, List.setIfInBounds_toArray, List.set_cons_zero, List.set_cons_succ]
    refine drawn_take 15 rfl (by kernel_rfl) (by kernel_rfl) (by kernel_rfl) (fun _ _ _ h => h) (by rfl) (by assumption) (v := ?_) ?_ ?_
    rotate_left
    · (intro wy hSw; go_simp; try with_reducible rfl)
    simp only [Act.put, List.setIfInBounds_toArray, List.set_cons_zero, List.set_cons_succ]
    refine drawn_take 16 rfl (by kernel_rfl) (by kernel_rfl) (by kernel_rfl) (fun _ _ _ h => h) (by rfl) (by assumption) (v := ?_) ?_ ?_
    rotate_left
    · (intro wy hSw; go_simp; try with_reducible rfl)
    simp only [Act.put, List.setIfInBounds_toArray, List.set_cons_zero, List.set_cons_succ]
    refine drawn_take 17 rfl (by kernel_rfl) (by kernel_rfl) (by kernel_rfl) (fun _ _ _ h => h) (by rfl) (by assumption) (v := ?_) ?_ ?_
    rotate_left
    · (intro wy hSw; go_simp; try with_reducible rfl)
    simp only [Act.put, List.setIfInBounds_toArray, List.set_cons_zero, List.set_cons_succ]
    refine drawn_take 18 rfl (by kernel_rfl) (by kernel_rfl) (by kernel_rfl) (fun _ _ _ h => h) (by rfl) (by assumption) (v := ?_) ?_ ?_
    rotate_left
    · (intro wy hSw; go_simp; try with_reducible rfl)
    simp only [Act.put, List.setIfInBounds_toArray, List.set_cons_zero, List.set_cons_succ]
    refine drawn_take 19 rfl (by kernel_rfl) (by kernel_rfl) (by kernel_rfl) (fun _ _ _ h => h) (by rfl) (by assumption) (v := ?_) ?_ ?_
    rotate_left
    · (intro wy hSw; go_simp; try with_reducible rfl)
    simp only [Act.put, List.setIfInBounds_toArray, List.set_cons_zero, List.set_cons_succ]
    refine drawn_take 20 rfl (by kernel_rfl) (by kernel_rfl) (by kernel_rfl) (fun _ _ _ h => h) (by rfl) (by assumption) (v := ?_) ?_ ?_
    rotate_left
    · (intro wy hSw; go_simp; try with_reducible rfl)
    simp only [Act.put, List.setIfInBounds_toArray, List.set_cons_zero, List.set_cons_succ]
    refine drawn_take 22 rfl (by kernel_rfl) (by kernel_rfl) (by kernel_rfl) (fun _ _ _ h => h) (by rfl) (by assumption) (v := ?_) ?_ ?_
    rotate_left
    · (intro wy hSw; obtain ⟨a0, a1, a2, a3, a4, a5, a6, a7, a8, a9, a10, a11⟩ := (HALL.out wy hSw).1.1.1.1.1.1.1.1.1.1.1; obtain ⟨qt0, qt1⟩ := (HALL.out wy hSw).1.2.1; obtain ⟨qw0, qw1⟩ := (HALL.out wy hSw).2; go_simp; try with_reducible rfl)
    simp only [Act.put, List.setIfInBounds_toArray, List.set_cons_zero, List.set_cons_succ]
    refine drawn_take 23 rfl (by kernel_rfl) (by kernel_rfl) (by kernel_rfl) (fun _ _ _ h => h) (by rfl) (by assumption) (v := ?_) ?_ ?_
    rotate_left
    · (intro wy hSw; go_simp; try with_reducible rfl)
    simp only [Act.put, List.setIfInBounds_toArray, List.set_cons_zero, List.set_cons_succ]
    refine drawn_sole 21 rfl (by kernel_rfl) (fun K hK => ?_)
    try (rw [if_pos]; case hc => rfl)
    go_simp
    refine (HSC.out _ _ ((HALL.out _ hHeld).1.1.1.1.1.1.1.1.1.1.2)).mono ?_
    rintro e s2 ⟨rfl, hb⟩
    have hH : Below x12.heap.size x12 s2 := hHeld.trans (hb.mono hHeld.size)
    clear hb
    go_wp2_with fail
    refine hK.out _ _ hH (fun hHeld2 => ?_)
    clear hK K hHeld hH
    have hHeld := hHeld2
    clear hHeld2
    refine drawn_sole 24 rfl (by kernel_rfl) (fun K hK => ?_)
    try (rw [if_pos]; case hc => rfl)
    go_simp
    refine (HRC.out _ (HCUR.out.trans (hHeld.mono HCUR.out.size))).mono ?_
    rintro e s3 ⟨rfl, hb⟩
    have hH : Below x12.heap.size x12 s3 := hHeld.trans (hb.mono hHeld.size)
    clear hb
    go_wp2_with fail
    refine hK.out _ _ hH (fun hHeld2 => ?_)
    clear hK K hHeld hH
    have hHeld := hHeld2
    clear hHeld2
    refine drawn_take 25 rfl (by kernel_rfl) (by kernel_rfl) (by kernel_rfl) (fun _ _ _ h => h) (by rfl) (by assumption) (v := ?_) ?_ ?_
    rotate_left
    · (intro wy hSw; go_simp; try with_reducible rfl)
    simp only [Act.put, List.setIfInBounds_toArray, List.set_cons_zero, List.set_cons_succ]
    refine drawn_take 26 rfl (by kernel_rfl) (by kernel_rfl) (by kernel_rfl) (fun _ _ _ h => h) (by rfl) (by assumption) (v := ?_) ?_ ?_
    rotate_left
    · (intro wy hSw; go_simp; try with_reducible rfl)
    simp only [Act.put, List.setIfInBounds_toArray, List.set_cons_zero, List.set_cons_succ]
    refine drawn_take 27 rfl (by kernel_rfl) (by kernel_rfl) (by kernel_rfl) (fun _ _ _ h => h) (by rfl) (by assumption) (v := ?_) ?_ ?_
    rotate_left
    · (intro wy hSw; go_simp; try with_reducible rfl)
    simp only [Act.put, List.setIfInBounds_toArray, List.set_cons_zero, List.set_cons_succ]
    refine drawn_take 28 rfl (by kernel_rfl) (by kernel_rfl) (by kernel_rfl) (fun _ _ _ h => h) (by rfl) (by assumption) (v := ?_) ?_ ?_
    rotate_left
    · (intro wy hSw; go_simp; try with_reducible rfl)
    simp only [Act.put, List.setIfInBounds_toArray, List.set_cons_zero, List.set_cons_succ]
    refine drawn_take 29 rfl (by kernel_rfl) (by kernel_rfl) (by kernel_rfl) (fun _ _ _ h => h) (by rfl) (by assumption) (v := ?_) ?_ ?_
    rotate_left
    · (intro wy hSw; go_simp; try with_reducible rfl)
    simp only [Act.put, List.setIfInBounds_toArray, List.set_cons_zero, List.set_cons_succ]
    refine drawn_take 31 rfl (by kernel_rfl) (by kernel_rfl) (by kernel_rfl) (fun _ _ _ h => h) (by rfl) (by assumption) (v := ?_) ?_ ?_
    rotate_left
    · (intro wy hSw; obtain ⟨a0, a1, a2, a3, a4, a5, a6, a7, a8, a9, a10, a11⟩ := (HALL.out wy hSw).1.1.1.1.1.1.1.1.1.1.1; obtain ⟨qt0, qt1⟩ := (HALL.out wy hSw).1.2.1; obtain ⟨qw0, qw1⟩ := (HALL.out wy hSw).2; go_simp; try with_reducible rfl)
    simp only [Act.put, List.setIfInBounds_toArray, List.set_cons_zero, List.set_cons_succ]
    refine drawn_take 32 rfl (by kernel_rfl) (by kernel_rfl) (by kernel_rfl) (fun _ _ _ h => h) (by rfl) (by assumption) (v := ?_) ?_ ?_
    rotate_left
    · (intro wy hSw; go_simp; try with_reducible rfl)
    simp only [Act.put, List.setIfInBounds_toArray, List.set_cons_zero, List.set_cons_succ]
    refine drawn_sole 30 rfl (by kernel_rfl) (fun K hK => ?_)
    try (rw [if_pos]; case hc => rfl)
    go_simp
    refine (HSI.out _ _ ((HALL.out _ hHeld).1.1.1.1.1.1.1.1.1.1.2)).mono ?_
    rintro e s4 ⟨rfl, hb⟩
    have hH : Below x12.heap.size x12 s4 := hHeld.trans (hb.mono hHeld.size)
    clear hb
    go_wp2_with fail
    refine hK.out _ _ hH (fun hHeld2 => ?_)
    clear hK K hHeld hH
    have hHeld := hHeld2
    clear hHeld2
    refine drawn_sole 33 rfl (by kernel_rfl) (fun K hK => ?_)
    try (rw [if_pos]; case hc => rfl)
    go_simp
    refine (HRI.out _ (HCUR.out.trans (hHeld.mono HCUR.out.size))).mono ?_
    rintro e s5 ⟨rfl, hb⟩
    have hH : Below x12.heap.size x12 s5 := hHeld.trans (hb.mono hHeld.size)
    clear hb
    go_wp2_with fail
    refine hK.out _ _ hH (fun hHeld2 => ?_)
    clear hK K hHeld hH
    have hHeld := hHeld2
    clear hHeld2
    refine drawn_take 34 rfl (by kernel_rfl) (by kernel_rfl) (by kernel_rfl) (fun _ _ _ h => h) (by rfl) (by assumption) (v := ?_) ?_ ?_
    rotate_left
    · (intro wy hSw; go_simp; try with_reducible rfl)
    simp only [Act.put, List.setIfInBounds_toArray, List.set_cons_zero, List.set_cons_succ]
    refine drawn_take 35 rfl (by kernel_rfl) (by kernel_rfl) (by kernel_rfl) (fun _ _ _ h => h) (by rfl) (by assumption) (v := ?_) ?_ ?_
    rotate_left
    · (intro wy hSw; go_simp; try with_reducible rfl)
    simp only [Act.put, List.setIfInBounds_toArray, List.set_cons_zero, List.set_cons_succ]
    refine drawn_take 36 rfl (by kernel_rfl) (by kernel_rfl) (by kernel_rfl) (fun _ _ _ h => h) (by rfl) (by assumption) (v := ?_) ?_ ?_
    rotate_left
    · (intro wy hSw; go_simp; try with_reducible rfl)
    simp only [Act.put, List.setIfInBounds_toArray, List.set_cons_zero, List.set_cons_succ]
    refine wpAnyH_done (by kernel_rfl) ?_ _
    have HEND := Lib.hid (HCUR.out.trans (hHeld.mono HCUR.out.size))
    clear hHeld
    go_wp2_with fail
    go_ret
    exact ⟨rfl, HEND.out⟩
  | some x =>
    rw [hx] at HSY
    have hlt : (i : Int) < (n1 : Int) := by have := (List.getElem?_eq_some_iff.1 hx).1; have := hN1.out; omega
    have hltn : i < n1 := by omega
    obtain ⟨p1, hp1⟩ : ∃ p, x.params.length = p := ⟨_, rfl⟩
    obtain ⟨p2, hp2⟩ : ∃ p, x.results.length = p := ⟨_, rfl⟩
    have HX := Lib.hid hx
    have HP1 := Lib.hid hp1
    have HP2 := Lib.hid hp2
    have HKY := Lib.hid (fun p W hr => (HSY.out p W hr).mono fun e w' hq => FuncPost.kf (xs := x.params) (ys := x.results) (n1 := p1) (n2 := p2) (b := true) hq.func rfl rfl hp1 hp2 rfl)
    clear HSY hx hp1 hp2
    go_upto_region 19 with (go_at_call 17; refine (HKY.out _ _ ((HALL.out _ (Below.refl _ _)).1.1.1.1.1.1.1.1.2)).mono ?_; rintro e x10 hq; obtain ⟨A10x, c10x, B10x, d10x, rfl, hs1, hs2, hb⟩ := hq; have HP10 := Lib.hid hs1; have HQ10 := Lib.hid hs2; have HCUR := Lib.hid (HCUR.out.trans (hb.mono HCUR.out.size)); have HALL := Lib.hid (fun W (hW : Below _ _ W) => HALL.out W (hb.trans (hW.mono hb.size))); clear hb hs1 hs2)
    have hba : Below x10.heap.size x10 (x10.alloc (.cells #[.slice A10x p1 c10x, .slice B10x p2 d10x] 40)) := (Below.refl _ _).alloc (Nat.le_refl _) _
    have hva := Lib.hid (heap_alloc_new x10 (.cells #[.slice A10x p1 c10x, .slice B10x p2 d10x] 40))
    have HCUR := Lib.hid (HCUR.out.trans (hba.mono HCUR.out.size))
    have HALL := Lib.hid (fun W (hW : Below (x10.alloc (.cells #[.slice A10x p1 c10x, .slice B10x p2 d10x] 40)).heap.size (x10.alloc (.cells #[.slice A10x p1 c10x, .slice B10x p2 d10x] 40)) W) => And.intro (HALL.out W (hba.trans (hW.mono hba.size))) (And.intro (two_cells ((hW.block _ (Array.getElem?_eq_some_iff.1 hva.out).1).trans hva.out)) (And.intro ((HP10.out.grow hba).grow hW) ((HQ10.out.grow hba).grow hW))))
    obtain ⟨V10, hV10⟩ : ∃ V, x10.heap.size = V := ⟨_, rfl⟩
    generalize x10.alloc (.cells #[.slice A10x p1 c10x, .slice B10x p2 d10x] 40) = y10 at HALL HCUR ⊢
    rw [hV10] at HALL
    simp only [hV10]
    clear hba hva hV10 HP10 HQ10
    have hba : Below y10.heap.size y10 (y10.alloc (.cells #[.slice none 0 0, .slice none 0 0] 40)) := (Below.refl _ _).alloc (Nat.le_refl _) _
    have HZ := Lib.hid (heap_alloc_new y10 (.cells #[.slice none 0 0, .slice none 0 0] 40))
    have HBA := Lib.hid hba
    clear hba
    obtain ⟨A', c', e, _, _, _, hL⟩ := HTY.out y10 HCUR.out
    injection e with e1 e2 e3
    subst e1
    clear e2 e3
    obtain ⟨g, o, D1, d1, D2, d2, rfl, hg, hc0, hc1, hs1, hs2⟩ := ft_at hL HX.out
    rw [HP1.out] at hc0 hs1
    rw [HP2.out] at hc1 hs2
    have z0 := (HBA.out.cell (p := ⟨g, o + i * 2, none⟩) hg).trans hc0
    have z1 := (HBA.out.cell (p := ⟨g, o + i * 2 + 1, none⟩) hg).trans hc1
    have HW1 := Lib.hid hs1
    have HW2 := Lib.hid hs2
    clear hL hc0 hc1 hs1 hs2 hg
    go_upto_region 20 with fail
    obtain ⟨V, hV⟩ : ∃ V, y10.heap.size = V := ⟨_, rfl⟩
    have HVB : Hid (y10.heap.size ≤ V) := Lib.hid (by omega)
    generalize y10.alloc (.cells #[.slice none 0 0, .slice none 0 0] 40) = zz at HZ HBA z0 z1 ⊢
    rw [hV] at HZ
    simp only [hV]
    clear hV
    have a0 : zz.cell? ⟨X, 0, none⟩ = _ := (HALL.out zz HBA.out).1.1.1.1.1.1.1.1.1.1.b0
    go_upto_region 23 with (refine wpList_store_to rfl 40 (.tmp 24) (.tmp 138) rfl rfl V #[.slice D1 p1 d1, .slice D2 p2 d2] rfl rfl 40 #[.slice none 0 0, .slice none 0 0] HZ.out siz_sft rfl (by simp [Value.oneCell']) ?_)
    clear a0 z0 z1 hlt hltn
    have hzz := setRow_heap zz V #[.slice none 0 0, .slice none 0 0] #[.slice D1 p1 d1, .slice D2 p2 d2] _ _ HZ.out
    have hbz : Below y10.heap.size y10 (zz.setRow V #[.slice D1 p1 d1, .slice D2 p2 d2]) := below_setRow HBA.out HVB.out _
    have HZZ := Lib.hid hzz
    have HBZ := Lib.hid hbz
    clear hzz hbz HZ HBA
    generalize zz.setRow V #[.slice D1 p1 d1, .slice D2 p2 d2] = z0 at HZZ HBZ ⊢
    have HALL := Lib.hid (fun W (hW : Below z0.heap.size z0 W) => And.intro (HALL.out W (HBZ.out.trans (hW.mono HBZ.out.size))) (And.intro (two_cells ((hW.block _ (Array.getElem?_eq_some_iff.1 HZZ.out).1).trans HZZ.out)) (And.intro ((HW1.out.grow HBZ.out).grow hW) ((HW2.out.grow HBZ.out).grow hW))))
    have HCUR := Lib.hid (HCUR.out.trans (HBZ.out.mono HCUR.out.size))
    clear HZZ HBZ HW1 HW2
    go_upto_region 24 with (go_at_call 18; refine (HSE.out _ _ ((HALL.out _ (Below.refl _ _)).1.1.1.1.1.1.1.1.1.1.2)).mono ?_; rintro e x11 ⟨rfl, hb⟩; have HCUR := Lib.hid (HCUR.out.trans (hb.mono HCUR.out.size)); have HALL := Lib.hid (fun W (hW : Below _ _ W) => HALL.out W (hb.trans (hW.mono hb.size))); clear hb)
    obtain ⟨a0, a1, a2, a3, a4, a5, a6, a7, a8, a9, a10, a11⟩ := ((HALL.out _ (Below.refl _ _)).1.1.1.1.1.1.1.1.1.1.1)
    go_upto_region 25 with (go_at_call 19; refine (HRE.out _ HCUR.out).mono ?_; rintro e x12 ⟨rfl, hb⟩; have HCUR := Lib.hid (HCUR.out.trans (hb.mono HCUR.out.size)); have HALL := Lib.hid (fun W (hW : Below _ _ W) => HALL.out W (hb.trans (hW.mono hb.size))); clear hb a0 a1 a2 a3 a4 a5 a6 a7 a8 a9 a10 a11)
    have re := RE.out
    have rb := RB.out
    have rc := RC.out
    have ri := RI.out
    refine wp_region_held_drew (S := fun W' => Below x12.heap.size x12 W') (by kernel_rfl) (Below.drew (Below.refl _ _)) (fun hHeld => ?_)
    refine drawn_take 0 rfl (by kernel_rfl) (by kernel_rfl) (by kernel_rfl) (fun _ _ _ h => h) (by rfl) (by assumption) (v := ?_) ?_ ?_
    rotate_left
    · (intro wy hSw; obtain ⟨a0, a1, a2, a3, a4, a5, a6, a7, a8, a9, a10, a11⟩ := (HALL.out wy hSw).1.1.1.1.1.1.1.1.1.1.1; obtain ⟨qt0, qt1⟩ := (HALL.out wy hSw).1.2.1; obtain ⟨qw0, qw1⟩ := (HALL.out wy hSw).2.1; go_simp; try with_reducible rfl)
    simp only [Act.put, List.setIfInBounds_toArray, List.set_cons_zero, List.set_cons_succ]
    refine drawn_take 1 rfl (by kernel_rfl) (by kernel_rfl) (by kernel_rfl) (fun _ _ _ h => h) (by rfl) (by assumption) (v := ?_) ?_ ?_
    rotate_left
    · (intro wy hSw; obtain ⟨a0, a1, a2, a3, a4, a5, a6, a7, a8, a9, a10, a11⟩ := (HALL.out wy hSw).1.1.1.1.1.1.1.1.1.1.1; obtain ⟨qt0, qt1⟩ := (HALL.out wy hSw).1.2.1; obtain ⟨qw0, qw1⟩ := (HALL.out wy hSw).2.1; go_simp; try with_reducible rfl)
    simp only [Act.put, List.setIfInBounds_toArray, List.set_cons_zero, List.set_cons_succ]
    refine drawn_sole 2 rfl (by kernel_rfl) (fun K hK => ?_)
    try (rw [if_pos]; case hc => rfl)
    go_simp
    refine (rsame_self x.params x.results p1 p2 _ _ _ _ _ _ _ _ _ ((HALL.out _ hHeld).1.2).2.1 ((HALL.out _ hHeld).1.2).2.2 ((HALL.out _ hHeld).2).2.1 ((HALL.out _ hHeld).2).2.2).mono ?_
    rintro e s1 ⟨rfl, hb⟩
    have hH : Below x12.heap.size x12 s1 := hHeld.trans (hb.mono hHeld.size)
    clear hb
    go_wp2_with fail
    refine hK.out _ _ hH (fun hHeld2 => ?_)
    clear hK K hHeld hH
    have hHeld := hHeld2
    clear hHeld2
    refine drawn_take 3 rfl (by kernel_rfl) (by kernel_rfl) (by kernel_rfl) (fun _ _ _ h => h) (by rfl) (by assumption) (v := ?_) ?_ ?_
    rotate_left
    · (intro wy hSw; go_simp; try with_reducible rfl)
    simp only [Act.put, List.setIfInBounds_toArray, List.set_cons_zero, List.set_cons_succ]
    refine drawn_take 4 rfl (by kernel_rfl) (by kernel_rfl) (by kernel_rfl) (fun _ _ _ h => h) (by rfl) (by assumption) (v := ?_) ?_ ?_
    rotate_left
    · (intro wy hSw; go_simp; try with_reducible rfl)
    simp only [Act.put, List.setIfInBounds_toArray, List.set_cons_zero, List.set_cons_succ]
    refine drawn_take 5 rfl (by kernel_rfl) (by kernel_rfl) (by kernel_rfl) (fun _ _ _ h => h) (by rfl) (by assumption) (v := ?_) ?_ ?_
    rotate_left
    · (intro wy hSw; go_simp; try with_reducible rfl)
    simp only [Act.put, List.setIfInBounds_toArray, List.set_cons_zero, List.set_cons_succ]
    refine drawn_take 6 rfl (by kernel_rfl) (by kernel_rfl) (by kernel_rfl) (fun _ _ _ h => h) (by rfl) (by assumption) (v := ?_) ?_ ?_
    rotate_left
    · (intro wy hSw; go_simp; try with_reducible rfl)
    simp only [Act.put, List.setIfInBounds_toArray, List.set_cons_zero, List.set_cons_succ]
    refine drawn_take 7 rfl (by kernel_rfl) (by kernel_rfl) (by kernel_rfl) (fun _ _ _ h => h) (by rfl) (by assumption) (v := ?_) ?_ ?_
    rotate_left
    · (intro wy hSw; go_simp; try with_reducible rfl)
    simp only [Act.put, List.setIfInBounds_toArray, List.set_cons_zero, List.set_cons_succ]
    refine drawn_take 8 rfl (by kernel_rfl) (by kernel_rfl) (by kernel_rfl) (fun _ _ _ h => h) (by rfl) (by assumption) (v := ?_) ?_ ?_
    rotate_left
    · (intro wy hSw; go_simp; try with_reducible rfl)
    simp only [Act.put, List.setIfInBounds_toArray, List.set_cons_zero, List.set_cons_succ]
    refine drawn_take 9 rfl (by kernel_rfl) (by kernel_rfl) (by kernel_rfl) (fun _ _ _ h => h) (by rfl) (by assumption) (v := ?_) ?_ ?_
    rotate_left
    · (intro wy hSw; go_simp; try with_reducible rfl)
    simp only [Act.put, List.setIfInBounds_toArray, List.set_cons_zero, List.set_cons_succ]
    refine drawn_take 10 rfl (by kernel_rfl) (by kernel_rfl) (by kernel_rfl) (fun _ _ _ h => h) (by rfl) (by assumption) (v := ?_) ?_ ?_
    rotate_left
    · (intro wy hSw; go_simp; try with_reducible rfl)
    simp only [Act.put, List.setIfInBounds_toArray, List.set_cons_zero, List.set_cons_succ]
    refine drawn_take 11 rfl (by kernel_rfl) (by kernel_rfl) (by kernel_rfl) (fun _ _ _ h => h) (by rfl) (by assumption) (v := ?_) ?_ ?_
    rotate_left
    · (intro wy hSw; go_simp; try with_reducible rfl)
    simp only [Act.put, List.setIfInBounds_toArray, List.set_cons_zero, List.set_cons_succ]
    refine drawn_take 12 rfl (by kernel_rfl) (by kernel_rfl) (by kernel_rfl) (fun _ _ _ h => h) (by rfl) (by assumption) (v := ?_) ?_ ?_
    rotate_left
    · (intro wy hSw; go_simp; try with_reducible rfl)
    simp only [Act.put, List.setIfInBounds_toArray, List.set_cons_zero, List.set_cons_succ]
    refine drawn_take 13 rfl (by kernel_rfl) (by kernel_rfl) (by kernel_rfl) (fun _ _ _ h => h) (by rfl) (by assumption) (v := ?_) ?_ ?_
    rotate_left
    · (intro wy hSw; go_simp; try with_reducible rfl)
    simp only [Act.put, List.setIfInBounds_toArray, List.set_cons_zero, List.set_cons_succ]
    refine drawn_take 14 rfl (by kernel_rfl) (by kernel_rfl) (by kernel_rfl) (fun _ _ _ h => h) (by rfl) (by assumption) (v := ?_) ?_ ?_
    rotate_left
    · (intro wy hSw; go_simp; try with_reducible rfl)
    simp only [Act.put, List.setIfInBounds_toArray, List.set_cons_zero, List.set_cons_succ]
    refine drawn_take 15 rfl (by kernel_rfl) (by kernel_rfl) (by kernel_rfl) (fun _ _ _ h => h) (by rfl) (by assumption) (v := ?_) ?_ ?_
    rotate_left
    · (intro wy hSw; go_simp; try with_reducible rfl)
    simp only [Act.put, List.setIfInBounds_toArray, List.set_cons_zero, List.set_cons_succ]
    refine drawn_take 16 rfl (by kernel_rfl) (by kernel_rfl) (by kernel_rfl) (fun _ _ _ h => h) (by rfl) (by assumption) (v := ?_) ?_ ?_
    rotate_left
    · (intro wy hSw; go_simp; try with_reducible rfl)
    simp only [Act.put, List.setIfInBounds_toArray, List.set_cons_zero, List.set_cons_succ]
    refine drawn_take 17 rfl (by kernel_rfl) (by kernel_rfl) (by kernel_rfl) (fun _ _ _ h => h) (by rfl) (by assumption) (v := ?_) ?_ ?_
    rotate_left
    · (intro wy hSw; go_simp; try with_reducible rfl)
    simp only [Act.put, List.setIfInBounds_toArray, List.set_cons_zero, List.set_cons_succ]
    refine drawn_take 18 rfl (by kernel_rfl) (by kernel_rfl) (by kernel_rfl) (fun _ _ _ h => h) (by rfl) (by assumption) (v := ?_) ?_ ?_
    rotate_left
    · (intro wy hSw; go_simp; try with_reducible rfl)
    simp only [Act.put, List.setIfInBounds_toArray, List.set_cons_zero, List.set_cons_succ]
    refine drawn_take 19 rfl (by kernel_rfl) (by kernel_rfl) (by kernel_rfl) (fun _ _ _ h => h) (by rfl) (by assumption) (v := ?_) ?_ ?_
    rotate_left
    · (intro wy hSw; go_simp; try with_reducible rfl)
    simp only [Act.put, List.setIfInBounds_toArray, List.set_cons_zero, List.set_cons_succ]
    refine drawn_take 20 rfl (by kernel_rfl) (by kernel_rfl) (by kernel_rfl) (fun _ _ _ h => h) (by rfl) (by assumption) (v := ?_) ?_ ?_
    rotate_left
    · (intro wy hSw; go_simp; try with_reducible rfl)
    simp only [Act.put, List.setIfInBounds_toArray, List.set_cons_zero, List.set_cons_succ]
    refine drawn_take 22 rfl (by kernel_rfl) (by kernel_rfl) (by kernel_rfl) (fun _ _ _ h => h) (by rfl) (by assumption) (v := ?_) ?_ ?_
    rotate_left
    · (intro wy hSw; obtain ⟨a0, a1, a2, a3, a4, a5, a6, a7, a8, a9, a10, a11⟩ := (HALL.out wy hSw).1.1.1.1.1.1.1.1.1.1.1; obtain ⟨qt0, qt1⟩ := (HALL.out wy hSw).1.2.1; obtain ⟨qw0, qw1⟩ := (HALL.out wy hSw).2.1; go_simp; try with_reducible rfl)
    simp only [Act.put, List.setIfInBounds_toArray, List.set_cons_zero, List.set_cons_succ]
    refine drawn_take 23 rfl (by kernel_rfl) (by kernel_rfl) (by kernel_rfl) (fun _ _ _ h => h) (by rfl) (by assumption) (v := ?_) ?_ ?_
    rotate_left
    · (intro wy hSw; go_simp; try with_reducible rfl)
    simp only [Act.put, List.setIfInBounds_toArray, List.set_cons_zero, List.set_cons_succ]
    refine drawn_sole 21 rfl (by kernel_rfl) (fun K hK => ?_)
    try (rw [if_pos]; case hc => rfl)
    go_simp
    refine (HSC.out _ _ ((HALL.out _ hHeld).1.1.1.1.1.1.1.1.1.1.2)).mono ?_
    rintro e s2 ⟨rfl, hb⟩
    have hH : Below x12.heap.size x12 s2 := hHeld.trans (hb.mono hHeld.size)
    clear hb
    go_wp2_with fail
    refine hK.out _ _ hH (fun hHeld2 => ?_)
    clear hK K hHeld hH
    have hHeld := hHeld2
    clear hHeld2
    refine drawn_sole 24 rfl (by kernel_rfl) (fun K hK => ?_)
    try (rw [if_pos]; case hc => rfl)
    go_simp
    refine (HRC.out _ (HCUR.out.trans (hHeld.mono HCUR.out.size))).mono ?_
    rintro e s3 ⟨rfl, hb⟩
    have hH : Below x12.heap.size x12 s3 := hHeld.trans (hb.mono hHeld.size)
    clear hb
    go_wp2_with fail
    refine hK.out _ _ hH (fun hHeld2 => ?_)
    clear hK K hHeld hH
    have hHeld := hHeld2
    clear hHeld2
    refine drawn_take 25 rfl (by kernel_rfl) (by kernel_rfl) (by kernel_rfl) (fun _ _ _ h => h) (by rfl) (by assumption) (v := ?_) ?_ ?_
    rotate_left
    · (intro wy hSw; go_simp; try with_reducible rfl)
    simp only [Act.put, List.setIfInBounds_toArray, List.set_cons_zero, List.set_cons_succ]
    refine drawn_take 26 rfl (by kernel_rfl) (by kernel_rfl) (by kernel_rfl) (fun _ _ _ h => h) (by rfl) (by assumption) (v := ?_) ?_ ?_
    rotate_left
    · (intro wy hSw; go_simp; try with_reducible rfl)
    simp only [Act.put, List.setIfInBounds_toArray, List.set_cons_zero, List.set_cons_succ]
    refine drawn_take 27 rfl (by kernel_rfl) (by kernel_rfl) (by kernel_rfl) (fun _ _ _ h => h) (by rfl) (by assumption) (v := ?_) ?_ ?_
    rotate_left
    · (intro wy hSw; go_simp; try with_reducible rfl)
    simp only [Act.put, List.setIfInBounds_toArray, List.set_cons_zero, List.set_cons_succ]
    refine drawn_take 28 rfl (by kernel_rfl) (by kernel_rfl) (by kernel_rfl) (fun _ _ _ h => h) (by rfl) (by assumption) (v := ?_) ?_ ?_
    rotate_left
    · (intro wy hSw; go_simp; try with_reducible rfl)
    simp only [Act.put, List.setIfInBounds_toArray, List.set_cons_zero, List.set_cons_succ]
    refine drawn_take 29 rfl (by kernel_rfl) (by kernel_rfl) (by kernel_rfl) (fun _ _ _ h => h) (by rfl) (by assumption) (v := ?_) ?_ ?_
    rotate_left
    · (intro wy hSw; go_simp; try with_reducible rfl)
    simp only [Act.put, List.setIfInBounds_toArray, List.set_cons_zero, List.set_cons_succ]
    refine drawn_take 31 rfl (by kernel_rfl) (by kernel_rfl) (by kernel_rfl) (fun _ _ _ h => h) (by rfl) (by assumption) (v := ?_) ?_ ?_
    rotate_left
    · (intro wy hSw; obtain ⟨a0, a1, a2, a3, a4, a5, a6, a7, a8, a9, a10, a11⟩ := (HALL.out wy hSw).1.1.1.1.1.1.1.1.1.1.1; obtain ⟨qt0, qt1⟩ := (HALL.out wy hSw).1.2.1; obtain ⟨qw0, qw1⟩ := (HALL.out wy hSw).2.1; go_simp; try with_reducible rfl)
    simp only [Act.put, List.setIfInBounds_toArray, List.set_cons_zero, List.set_cons_succ]
    refine drawn_take 32 rfl (by kernel_rfl) (by kernel_rfl) (by kernel_rfl) (fun _ _ _ h => h) (by rfl) (by assumption) (v := ?_) ?_ ?_
    rotate_left
    · (intro wy hSw; go_simp; try with_reducible rfl)
    simp only [Act.put, List.setIfInBounds_toArray, List.set_cons_zero, List.set_cons_succ]
    refine drawn_sole 30 rfl (by kernel_rfl) (fun K hK => ?_)
    try (rw [if_pos]; case hc => rfl)
    go_simp
    refine (HSI.out _ _ ((HALL.out _ hHeld).1.1.1.1.1.1.1.1.1.1.2)).mono ?_
    rintro e s4 ⟨rfl, hb⟩
    have hH : Below x12.heap.size x12 s4 := hHeld.trans (hb.mono hHeld.size)
    clear hb
    go_wp2_with fail
    refine hK.out _ _ hH (fun hHeld2 => ?_)
    clear hK K hHeld hH
    have hHeld := hHeld2
    clear hHeld2
    refine drawn_sole 33 rfl (by kernel_rfl) (fun K hK => ?_)
    try (rw [if_pos]; case hc => rfl)
    go_simp
    refine (HRI.out _ (HCUR.out.trans (hHeld.mono HCUR.out.size))).mono ?_
    rintro e s5 ⟨rfl, hb⟩
    have hH : Below x12.heap.size x12 s5 := hHeld.trans (hb.mono hHeld.size)
    clear hb
    go_wp2_with fail
    refine hK.out _ _ hH (fun hHeld2 => ?_)
    clear hK K hHeld hH
    have hHeld := hHeld2
    clear hHeld2
    refine drawn_take 34 rfl (by kernel_rfl) (by kernel_rfl) (by kernel_rfl) (fun _ _ _ h => h) (by rfl) (by assumption) (v := ?_) ?_ ?_
    rotate_left
    · (intro wy hSw; go_simp; try with_reducible rfl)
    simp only [Act.put, List.setIfInBounds_toArray, List.set_cons_zero, List.set_cons_succ]
    refine drawn_take 35 rfl (by kernel_rfl) (by kernel_rfl) (by kernel_rfl) (fun _ _ _ h => h) (by rfl) (by assumption) (v := ?_) ?_ ?_
    rotate_left
    · (intro wy hSw; go_simp; try with_reducible rfl)
    simp only [Act.put, List.setIfInBounds_toArray, List.set_cons_zero, List.set_cons_succ]
    refine drawn_take 36 rfl (by kernel_rfl) (by kernel_rfl) (by kernel_rfl) (fun _ _ _ h => h) (by rfl) (by assumption) (v := ?_) ?_ ?_
    rotate_left
    · (intro wy hSw; go_simp; try with_reducible rfl)
    simp only [Act.put, List.setIfInBounds_toArray, List.set_cons_zero, List.set_cons_succ]
    refine wpAnyH_done (by kernel_rfl) ?_ _
    have HEND := Lib.hid (HCUR.out.trans (hHeld.mono HCUR.out.size))
    clear hHeld
    go_wp2_with fail
    go_ret
    exact ⟨rfl, HEND.out⟩
end Go.Proofs.Ytgnbkfkiigcdgaa
