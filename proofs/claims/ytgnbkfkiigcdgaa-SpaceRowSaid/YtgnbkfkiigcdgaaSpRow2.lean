/-
  The walk over SpaceRow, kind 2. (gen/space/law3.py)
-/
import Derived.Test.YtgnbkfkiigcdgaaSpKnown2
import Derived.Test.YtgnbkfkiigcdgaaSpMore
namespace Go.Proofs.Ytgnbkfkiigcdgaa
open Go.RowKit Ins Bin Sp
set_option maxRecDepth 100000 in
set_option maxHeartbeats 40000000 in
theorem spaceRow2_any (m : M) (v1 v2 v3 v4 v5 v6 v7 v8 v9 v10 : Value) (i : Nat) (hi : i < 4294967296) (w : World) (hM : RepM w (· < w.heap.size) m v1 v2 v3 v4 v5 v6 v7 v8 v9 v10) (hB : BigM m) :
    Calls Try.prog 5 #[.agg (modCells m v1 v2 v3 v4 v5 v6 v7 v8 v9 v10), .int .u32 (i : Int), .int .u8 2] w fun e w' => e = .returned (.bool true) ∧ Below w.heap.size w w' := by
  have HIM : Hid (∀ W, Below w.heap.size w W → SliceV W (· < W.heap.size) m.imports v2) := Lib.hid (fun W hb => (hM.grow hb).imports)
  obtain ⟨A1, c1, rfl, _⟩ := hM.types
  obtain ⟨A2, c2, rfl, _⟩ := hM.imports
  obtain ⟨n1, hn1⟩ : ∃ n, m.types.length = n := ⟨_, rfl⟩
  obtain ⟨n2, hn2⟩ : ∃ n, m.imports.length = n := ⟨_, rfl⟩
  have hN2 := Lib.hid hn2
  have HONE : Hid (∀ (hs : Bool) (st : Int), (#[.slice A1 n1 c1, .slice A2 n2 c2, v3, v4, v5, v6, v7, .bool hs, .int .u32 st, v8, v9, v10] : Array Value).all (·.oneCell') = true) := Lib.hid (by
    obtain ⟨_, _, rfl, _⟩ := hM.funcs
    obtain ⟨_, _, rfl, _⟩ := hM.tables
    obtain ⟨_, _, rfl, _⟩ := hM.mems
    obtain ⟨_, _, rfl, _⟩ := hM.globals
    obtain ⟨_, _, rfl, _⟩ := hM.exports
    obtain ⟨_, _, rfl, _⟩ := hM.elems
    obtain ⟨_, _, rfl, _⟩ := hM.codes
    obtain ⟨_, _, rfl, _⟩ := hM.datas
    intro hs st
    simp [Value.oneCell'])
  have hft : ∀ t ∈ funs m, t < 4294967296 := fun t ht => by
    unfold funs at ht
    rcases List.mem_append.1 ht with h | h
    · obtain ⟨x, hx, rfl⟩ := List.mem_map.1 h
      have hx' := (List.mem_filter.1 hx).1
      obtain ⟨_, _, _, _, _, _, hL⟩ := hM.imports
      obtain ⟨j, hj⟩ := List.mem_iff_getElem?.1 hx'
      obtain ⟨_, _, _, _, _, h5, _⟩ := imp_at hL hj
      exact h5
    · obtain ⟨_, _, _, _, _, _, hL⟩ := hM.funcs
      obtain ⟨j, hj⟩ := List.mem_iff_getElem?.1 h
      obtain ⟨_, _, _, _, _, h5⟩ := nat_at hL hj
      exact h5
  obtain ⟨z, hz⟩ : ∃ z : Imp, z = ⟨[], [], 2, 1, ⟨99, 0⟩, ⟨126, true⟩⟩ := ⟨_, rfl⟩
  have hzk : z.kind.toNat = 2 := by subst hz; rfl
  have hft2 : ∀ t ∈ funs (more m z), t < 4294967296 := fun t ht => by
    by_cases hz0 : z.kind.toNat = 0
    · unfold funs at ht
      rw [imps_yes m hz0, List.map_append] at ht
      simp only [List.mem_append, List.map_cons, List.map_nil, List.mem_singleton] at ht
      rcases ht with (h | h) | h
      · exact hft t (by unfold funs; exact List.mem_append.2 (.inl h))
      · subst hz; rw [h]; decide
      · exact hft t (by unfold funs; exact List.mem_append.2 (.inr h))
    · unfold funs at ht
      rw [imps_other m hz0] at ht
      exact hft t ht
  generalize hcs : modCells m (.slice A1 m.types.length c1) (.slice A2 m.imports.length c2) v3 v4 v5 v6 v7 v8 v9 v10 = cs
  have HG : Hid (∀ W, Below w.heap.size w W → Calls Try.prog 7 #[.agg cs] W fun e w' => ∃ g : Bool, e = .returned (.bool g) ∧ Below W.heap.size W w' ∧ (g = false → Few m ∧ m.imports.length ≤ 3000)) := Lib.hid (fun W hb => by
    subst hcs
    exact rgreat_any m _ _ _ _ _ _ _ _ _ _ W (hM.grow hb) hB)
  obtain ⟨ct, hct⟩ : ∃ c, count m 2 = c := ⟨_, rfl⟩
  obtain ⟨ci, hci⟩ : ∃ c, imported m 2 = c := ⟨_, rfl⟩
  have hcl : ci ≤ ct := by rw [← hct, ← hci]; unfold count; omega
  have HCB : Hid (Few m → ct ≤ 1000000) := Lib.hid (fun hF => by rw [← hct, ← mems_len]; exact (Few.some hF).mems)
  have HOF : Hid (Few m → ∀ W, Below w.heap.size w W → Calls Try.prog 8 #[.agg cs] W fun e w' => ∃ P, e = .returned (.pointer (some ⟨P, 0, none⟩)) ∧ SpaceV w' P m ∧ Below W.heap.size W w') := Lib.hid (fun hF W hb => by
    subst hcs
    exact sof_any m _ _ _ _ _ _ _ _ _ _ W (hM.grow hb) hF)
  have HOF2 : Hid (Few m ∧ m.imports.length ≤ 3000 → ∀ W v, Below w.heap.size w W → SliceV W (· < W.heap.size) (more m z).imports v → Calls Try.prog 8 #[.agg (modCells m (.slice A1 m.types.length c1) v v3 v4 v5 v6 v7 v8 v9 v10)] W fun e w' => ∃ P, e = .returned (.pointer (some ⟨P, 0, none⟩)) ∧ SpaceV w' P (more m z) ∧ Below W.heap.size W w') := Lib.hid (fun hF W v hb hv => by
    have h := hM.grow hb
    exact sof_any (more m z) _ _ _ _ _ _ _ _ _ _ W ⟨h.types, hv, h.funcs, h.tables, h.mems, h.globals, h.exports, h.start, h.elems, h.codes, h.datas⟩ (Few.more hF.1 hF.2 z))
  have HSC : Hid (Few m → ∀ p W, Recv W p m → Calls Try.prog 20 #[.pointer p, .int .u8 2] W fun e w' => e = .returned (.int .i64 (ct : Int)) ∧ Below W.heap.size W w') := Lib.hid (fun hF p W hr => by
      rw [← hct]
      exact scount_any p m 2 (by decide) W hr (Few.some hF))
  have HSI : Hid (Few m → ∀ p W, Recv W p m → Calls Try.prog 22 #[.pointer p, .int .u8 2] W fun e w' => e = .returned (.int .i64 (ci : Int)) ∧ Below W.heap.size W w') := Lib.hid (fun hF p W hr => by
      rw [← hci]
      exact simported_any p m 2 (by decide) W hr (Few.some hF))
  have HSC2 : Hid (Few m ∧ m.imports.length ≤ 3000 → ∀ p W, Recv W p (more m z) → Calls Try.prog 20 #[.pointer p, .int .u8 2] W fun e w' => e = .returned (.int .i64 ((ct : Int) + 1)) ∧ Below W.heap.size W w') := Lib.hid (fun hF p W hr => by
      have h := scount_any p (more m z) 2 (by decide) W hr (Few.some (Few.more hF.1 hF.2 z))
      rw [count_more m hzk (by decide), hct] at h
      exact h)
  have HSI2 : Hid (Few m ∧ m.imports.length ≤ 3000 → ∀ p W, Recv W p (more m z) → Calls Try.prog 22 #[.pointer p, .int .u8 2] W fun e w' => e = .returned (.int .i64 ((ci : Int) + 1)) ∧ Below W.heap.size W w') := Lib.hid (fun hF p W hr => by
      have h := simported_any p (more m z) 2 (by decide) W hr (Few.some (Few.more hF.1 hF.2 z))
      rw [imported_more m hzk (by decide), hci] at h
      exact h)
  obtain ⟨oF, hoF⟩ : ∃ o, func m i = o := ⟨_, rfl⟩
  obtain ⟨oG, hoG⟩ : ∃ o, (globs m)[i]? = o := ⟨_, rfl⟩
  obtain ⟨oT, hoT⟩ : ∃ o, (tabs m)[i]? = o := ⟨_, rfl⟩
  obtain ⟨oM, hoM⟩ : ∃ o, (mems m)[i]? = o := ⟨_, rfl⟩
  have HTH : Hid (oM.isSome = decide (i < ct)) := Lib.hid (by rw [← hoM]; exact there_iff (mems m) i ct (by rw [mems_len, hct]))
  have HFL : Hid (Few m → (oF.getD ⟨[], []⟩).params.length ≤ 1000000 ∧ (oF.getD ⟨[], []⟩).results.length ≤ 1000000) := Lib.hid (fun hF => by
    cases hx : oF with
    | none => simp
    | some x =>
      have h1 := hoF.trans hx
      unfold func at h1
      obtain ⟨t, _, h2⟩ := Option.bind_eq_some_iff.1 h1
      exact (Few.some hF).each x (List.mem_of_getElem? h2))
  obtain ⟨xs, hxs⟩ : ∃ x, (oF.getD ⟨[], []⟩).params = x := ⟨_, rfl⟩
  obtain ⟨ys, hys⟩ : ∃ x, (oF.getD ⟨[], []⟩).results = x := ⟨_, rfl⟩
  rw [hxs, hys] at HFL
  obtain ⟨f1, hf1⟩ : ∃ x, xs.length = x := ⟨_, rfl⟩
  obtain ⟨f2, hf2⟩ : ∃ x, ys.length = x := ⟨_, rfl⟩
  obtain ⟨fb, hfb⟩ : ∃ x, oF.isSome = x := ⟨_, rfl⟩
  obtain ⟨gt, hgt⟩ : ∃ x, (oG.getD ⟨0, false⟩).t.toNat = x := ⟨_, rfl⟩
  obtain ⟨gm, hgm⟩ : ∃ x, (oG.getD ⟨0, false⟩).mu = x := ⟨_, rfl⟩
  obtain ⟨gb, hgb⟩ : ∃ x, oG.isSome = x := ⟨_, rfl⟩
  obtain ⟨tn, htn⟩ : ∃ x, (oT.getD ⟨0, 0⟩).min = x := ⟨_, rfl⟩
  obtain ⟨tx, htx⟩ : ∃ x, (oT.getD ⟨0, 0⟩).max = x := ⟨_, rfl⟩
  obtain ⟨tb, htb⟩ : ∃ x, oT.isSome = x := ⟨_, rfl⟩
  obtain ⟨mn, hmn⟩ : ∃ x, (oM.getD ⟨0, 0⟩).min = x := ⟨_, rfl⟩
  obtain ⟨mx, hmx⟩ : ∃ x, (oM.getD ⟨0, 0⟩).max = x := ⟨_, rfl⟩
  obtain ⟨mb, hmb⟩ : ∃ x, oM.isSome = x := ⟨_, rfl⟩
  rw [hmb] at HTH
  have HSF : Hid (Few m → ∀ p W, Recv W p m → Calls Try.prog 9 #[.pointer p, .int .u32 (i : Int)] W fun e w' => KF xs ys f1 f2 fb W e w') := Lib.hid (fun hF p W hr => (sfunc_any p m i W hr (Few.some hF) hi hft).mono fun e w' hq => FuncPost.kf (by rw [hoF] at hq; exact hq) hxs hys hf1 hf2 hfb)
  have HSG : Hid (Few m → ∀ p W, Recv W p m → Calls Try.prog 11 #[.pointer p, .int .u32 (i : Int)] W fun e w' => e = .returned (.tuple #[.agg #[.int .u8 (gt : Int), .bool gm], .bool gb]) ∧ Below W.heap.size W w') := Lib.hid (fun hF p W hr => (sglobal_any p m i W hr (Few.some hF) hi).mono fun e w' hq => by
      rw [hoG] at hq
      rw [← hgt, ← hgm, ← hgb]
      exact hq)
  have HST : Hid (Few m → ∀ p W, Recv W p m → Calls Try.prog 14 #[.pointer p, .int .u32 (i : Int)] W fun e w' => e = .returned (.tuple #[.agg #[.int .u32 (tn : Int), .int .i64 tx], .bool tb]) ∧ Below W.heap.size W w') := Lib.hid (fun hF p W hr => (stable_any p m i W hr (Few.some hF) hi).mono fun e w' hq => by
      rw [hoT] at hq
      rw [← htn, ← htx, ← htb]
      exact hq)
  have HSM : Hid (Few m → ∀ p W, Recv W p m → Calls Try.prog 16 #[.pointer p, .int .u32 (i : Int)] W fun e w' => e = .returned (.tuple #[.agg #[.int .u32 (mn : Int), .int .i64 mx], .bool mb]) ∧ Below W.heap.size W w') := Lib.hid (fun hF p W hr => (smem_any p m i W hr (Few.some hF) hi).mono fun e w' hq => by
      rw [hoM] at hq
      rw [← hmn, ← hmx, ← hmb]
      exact hq)
  have HSF2 : Hid (Few m ∧ m.imports.length ≤ 3000 → ∀ (j : Nat), j < 4294967296 → True → ∀ p W, Recv W p (more m z) → Calls Try.prog 9 #[.pointer p, .int .u32 (j : Int)] W fun e w' => ∃ (a b : List UInt8) (l1 l2 : Nat) (bb : Bool), KF a b l1 l2 bb W e w') := Lib.hid (fun hF j hj hjj p W hr => (sfunc_any p (more m z) j W hr (Few.some (Few.more hF.1 hF.2 z)) hj hft2).mono fun e w' hq => ⟨_, _, _, _, _, FuncPost.kf hq rfl rfl rfl rfl rfl⟩)
  have HSG2 : Hid (Few m ∧ m.imports.length ≤ 3000 → ∀ (j : Nat), j < 4294967296 → True → ∀ p W, Recv W p (more m z) → Calls Try.prog 11 #[.pointer p, .int .u32 (j : Int)] W fun e w' => ∃ (a : Nat) (b c : Bool), e = .returned (.tuple #[.agg #[.int .u8 (a : Int), .bool b], .bool c]) ∧ Below W.heap.size W w') := Lib.hid (fun hF j hj hjj p W hr => (sglobal_any p (more m z) j W hr (Few.some (Few.more hF.1 hF.2 z)) hj).mono fun e w' hq => ⟨_, _, _, hq⟩)
  have HZR : Hid (∀ (W : World) (S : Nat → Prop), Lay.rep W S z [.string ⟨#[]⟩, .string ⟨#[]⟩, .int .u8 2, .int .u32 1, .int .u32 99, .int .i64 0, .int .u8 126, .bool true]) := Lib.hid (fun W S => by subst hz; exact ⟨rfl, by decide, by unfold Lim.wf; decide⟩)
  have HMI : Hid ((more m z).imports = m.imports ++ [z]) := Lib.hid rfl
  clear hoF hoG hoT hoM hct hci hxs hys hf1 hf2 hfb hgt hgm hgb htn htx htb hmn hmx hmb hft hft2 hM hB hz hzk
  unfold modCells at hcs
  rw [hn1, hn2] at hcs
  rw [hn2] at HIM
  have HOF3 : Hid (Few m ∧ m.imports.length ≤ 3000 → ∀ W v, Below w.heap.size w W → SliceV W (· < W.heap.size) (more m z).imports v → Calls Try.prog 8 #[.agg #[.slice A1 n1 c1, v, v3, v4, v5, v6, v7, .bool m.hasStart, .int .u32 (m.start : Int), v8, v9, v10]] W fun e w' => ∃ P, e = .returned (.pointer (some ⟨P, 0, none⟩)) ∧ SpaceV w' P (more m z) ∧ Below W.heap.size W w') := Lib.hid (fun hF W v hb hv => by
    have h := HOF2.out hF W v hb hv
    unfold modCells at h
    rw [hn1] at h
    exact h)
  clear HOF2
  generalize m.hasStart = hs at hcs HOF3
  generalize (m.start : Int) = st at hcs HOF3
  subst hcs
  clear hn1 hn2
  have HX0 := Lib.hid (heap_alloc_new w (.cells #[.slice A1 n1 c1, .slice A2 n2 c2, v3, v4, v5, v6, v7, .bool hs, .int .u32 st, v8, v9, v10] 33))
  have HB0 : Hid (Below w.heap.size w (w.alloc (.cells #[.slice A1 n1 c1, .slice A2 n2 c2, v3, v4, v5, v6, v7, .bool hs, .int .u32 st, v8, v9, v10] 33))) := Lib.hid ((Below.refl _ _).alloc (Nat.le_refl _) _)
  go_enter Try.func5, Try.ntmps5
  go_upto_region 1 with fail
  generalize w.alloc (.cells #[.slice A1 n1 c1, .slice A2 n2 c2, v3, v4, v5, v6, v7, .bool hs, .int .u32 st, v8, v9, v10] 33) = w0 at HX0 HB0 ⊢
  obtain ⟨X, hX⟩ : ∃ X, w.heap.size = X := ⟨_, rfl⟩
  rw [hX] at HX0
  rw [hX]
  clear hX
  have HALL := Lib.hid (fun W (hW : Below w0.heap.size w0 W) => cells12 HX0.out hW)
  have HCUR := HB0
  clear HX0 HB0
  go_upto_region 3 with (go_at_call 6; refine (known8 _).mono ?_; rintro e w1 ⟨rfl, hb⟩; have HCUR := Lib.hid (HCUR.out.trans (hb.mono HCUR.out.size)); have HALL := Lib.hid (fun W (hW : Below _ _ W) => HALL.out W (hb.trans (hW.mono hb.size))); clear hb)
  obtain ⟨a0, a1, a2, a3, a4, a5, a6, a7, a8, a9, a10, a11⟩ := ((HALL.out _ (Below.refl _ _)))
  go_cut [34] from 29 to 34 (fun t wx => ∃ g : Bool, t = .bool g ∧ Hid (Below w1.heap.size w1 wx) ∧ Hid (g = false → Few m ∧ m.imports.length ≤ 3000))
  case first =>
    go_wp2_with fail
    refine (HG.out _ HCUR.out).mono ?_
    rintro e w2 ⟨g, rfl, hb, hsm⟩
    have HB2 := Lib.hid hb
    have HSM := Lib.hid hsm
    clear hb hsm a0 a1 a2 a3 a4 a5 a6 a7 a8 a9 a10 a11
    cases g
    · go_wp2_with fail
      go_meet
      case rel => exact ⟨false, rfl, HB2, Lib.hid (fun _ => HSM.out (by first | rfl | trivial))⟩
    · go_wp2_with fail
      go_meet
      case rel => exact ⟨true, rfl, HB2, Lib.hid (fun h => by cases h)⟩
  case rest =>
  obtain ⟨g, rfl, HB2, HSM'⟩ := hcut
  clear a0 a1 a2 a3 a4 a5 a6 a7 a8 a9 a10 a11 HG
  have HCUR := Lib.hid (HCUR.out.trans (HB2.out.mono HCUR.out.size))
  have HALL := Lib.hid (fun W (hW : Below wc.heap.size wc W) => HALL.out W (HB2.out.trans (hW.mono HB2.out.size)))
  cases g with
  | true =>
    go_wp2_with fail
    go_ret
    exact ⟨rfl, HCUR.out⟩
  | false =>
  have HF := Lib.hid (HSM'.out rfl)
  clear HSM' HB2
  have HOF := Lib.hid (HOF.out HF.out.1)
  have HSC := Lib.hid (HSC.out HF.out.1)
  have HSI := Lib.hid (HSI.out HF.out.1)
  have HSF := Lib.hid (HSF.out HF.out.1)
  have HSG := Lib.hid (HSG.out HF.out.1)
  have HST := Lib.hid (HST.out HF.out.1)
  have HSM := Lib.hid (HSM.out HF.out.1)
  have HCB := Lib.hid (HCB.out HF.out.1)
  have HFL := Lib.hid (HFL.out HF.out.1)
  have HOF3 := Lib.hid (HOF3.out HF.out)
  have HSC2 := Lib.hid (HSC2.out HF.out)
  have HSI2 := Lib.hid (HSI2.out HF.out)
  have HSF2 := Lib.hid (HSF2.out HF.out)
  have HSG2 := Lib.hid (HSG2.out HF.out)
  have hctb : ct ≤ 1000000 := HCB.out
  obtain ⟨a0, a1, a2, a3, a4, a5, a6, a7, a8, a9, a10, a11⟩ := ((HALL.out _ (Below.refl _ _)))
  go_upto_region 6 with (go_at_call 8; refine (HOF.out _ HCUR.out).mono ?_; rintro e x0 ⟨P, rfl, hs, hb⟩; have HS := Lib.hid hs; have hB := Lib.hid hb; clear hs hb)
  clear a0 a1 a2 a3 a4 a5 a6 a7 a8 a9 a10 a11
  have HCUR := Lib.hid (HCUR.out.trans (hB.out.mono HCUR.out.size))
  have HALL := Lib.hid (fun W (hW : Below x0.heap.size x0 W) => And.intro (HALL.out W (hB.out.trans (hW.mono hB.out.size))) ((.inl ⟨P, rfl, HS.out.grow hW⟩ : Recv W (some ⟨P, 0, none⟩) m)))
  clear HS hB HOF
  go_upto_region 7 with (go_at_call 20; refine (HSC.out _ _ ((HALL.out _ (Below.refl _ _)).2)).mono ?_; rintro e x1 ⟨rfl, hb⟩; have HCUR := Lib.hid (HCUR.out.trans (hb.mono HCUR.out.size)); have HALL := Lib.hid (fun W (hW : Below _ _ W) => HALL.out W (hb.trans (hW.mono hb.size))); clear hb)
  go_upto_region 8 with (go_at_call 11; refine (HSG.out _ _ ((HALL.out _ (Below.refl _ _)).2)).mono ?_; rintro e x2 ⟨rfl, hb⟩; have HCUR := Lib.hid (HCUR.out.trans (hb.mono HCUR.out.size)); have HALL := Lib.hid (fun W (hW : Below _ _ W) => HALL.out W (hb.trans (hW.mono hb.size))); clear hb)
  have hba : Below x2.heap.size x2 (x2.alloc (.cells #[.int .u8 (gt : Int), .bool gm] 45)) := (Below.refl _ _).alloc (Nat.le_refl _) _
  have hva := Lib.hid (heap_alloc_new x2 (.cells #[.int .u8 (gt : Int), .bool gm] 45))
  have HCUR := Lib.hid (HCUR.out.trans (hba.mono HCUR.out.size))
  have HALL := Lib.hid (fun W (hW : Below (x2.alloc (.cells #[.int .u8 (gt : Int), .bool gm] 45)).heap.size (x2.alloc (.cells #[.int .u8 (gt : Int), .bool gm] 45)) W) => And.intro (HALL.out W (hba.trans (hW.mono hba.size))) (two_cells ((hW.block _ (Array.getElem?_eq_some_iff.1 hva.out).1).trans hva.out)))
  obtain ⟨V2, hV2⟩ : ∃ V, x2.heap.size = V := ⟨_, rfl⟩
  generalize x2.alloc (.cells #[.int .u8 (gt : Int), .bool gm] 45) = y2 at HALL HCUR ⊢
  rw [hV2] at HALL
  simp only [hV2]
  clear hba hva hV2
  go_upto_region 9 with (go_at_call 14; refine (HST.out _ _ ((HALL.out _ (Below.refl _ _)).1.2)).mono ?_; rintro e x3 ⟨rfl, hb⟩; have HCUR := Lib.hid (HCUR.out.trans (hb.mono HCUR.out.size)); have HALL := Lib.hid (fun W (hW : Below _ _ W) => HALL.out W (hb.trans (hW.mono hb.size))); clear hb)
  have hba : Below x3.heap.size x3 (x3.alloc (.cells #[.int .u32 (tn : Int), .int .i64 tx] 51)) := (Below.refl _ _).alloc (Nat.le_refl _) _
  have hva := Lib.hid (heap_alloc_new x3 (.cells #[.int .u32 (tn : Int), .int .i64 tx] 51))
  have HCUR := Lib.hid (HCUR.out.trans (hba.mono HCUR.out.size))
  have HALL := Lib.hid (fun W (hW : Below (x3.alloc (.cells #[.int .u32 (tn : Int), .int .i64 tx] 51)).heap.size (x3.alloc (.cells #[.int .u32 (tn : Int), .int .i64 tx] 51)) W) => And.intro (HALL.out W (hba.trans (hW.mono hba.size))) (two_cells ((hW.block _ (Array.getElem?_eq_some_iff.1 hva.out).1).trans hva.out)))
  obtain ⟨V3, hV3⟩ : ∃ V, x3.heap.size = V := ⟨_, rfl⟩
  generalize x3.alloc (.cells #[.int .u32 (tn : Int), .int .i64 tx] 51) = y3 at HALL HCUR ⊢
  rw [hV3] at HALL
  simp only [hV3]
  clear hba hva hV3
  go_upto_region 10 with (go_at_call 16; refine (HSM.out _ _ ((HALL.out _ (Below.refl _ _)).1.1.2)).mono ?_; rintro e x4 ⟨rfl, hb⟩; have HCUR := Lib.hid (HCUR.out.trans (hb.mono HCUR.out.size)); have HALL := Lib.hid (fun W (hW : Below _ _ W) => HALL.out W (hb.trans (hW.mono hb.size))); clear hb)
  have hba : Below x4.heap.size x4 (x4.alloc (.cells #[.int .u32 (mn : Int), .int .i64 mx] 51)) := (Below.refl _ _).alloc (Nat.le_refl _) _
  have hva := Lib.hid (heap_alloc_new x4 (.cells #[.int .u32 (mn : Int), .int .i64 mx] 51))
  have HCUR := Lib.hid (HCUR.out.trans (hba.mono HCUR.out.size))
  have HALL := Lib.hid (fun W (hW : Below (x4.alloc (.cells #[.int .u32 (mn : Int), .int .i64 mx] 51)).heap.size (x4.alloc (.cells #[.int .u32 (mn : Int), .int .i64 mx] 51)) W) => And.intro (HALL.out W (hba.trans (hW.mono hba.size))) (two_cells ((hW.block _ (Array.getElem?_eq_some_iff.1 hva.out).1).trans hva.out)))
  obtain ⟨V4, hV4⟩ : ∃ V, x4.heap.size = V := ⟨_, rfl⟩
  generalize x4.alloc (.cells #[.int .u32 (mn : Int), .int .i64 mx] 51) = y4 at HALL HCUR ⊢
  rw [hV4] at HALL
  simp only [hV4]
  clear hba hva hV4
  obtain ⟨td, htd⟩ : ∃ td, decide (i < ct) = td := ⟨_, rfl⟩
  have htd2 : decide ((i : Int) < (ct : Int)) = td := by rw [← htd]; simp only [decide_eq_decide]; omega
  go_upto_region 11 with fail
  have htt : mb = td := HTH.out.trans htd
  clear htd htd2 HTH
  subst htt
  have hbn : (mb != mb) = false := bne_own mb
  have hcc : decide ((ct : Int) < (ci : Int)) = false := decide_eq_false (by omega)
  have hccn : decide (ct < ci) = false := decide_eq_false (by omega)
  go_upto_region 27 with (go_at_call 22; refine (HSI.out _ _ ((HALL.out _ (Below.refl _ _)).1.1.1.2)).mono ?_; rintro e x5 ⟨rfl, hb⟩; have HCUR := Lib.hid (HCUR.out.trans (hb.mono HCUR.out.size)); have HALL := Lib.hid (fun W (hW : Below _ _ W) => HALL.out W (hb.trans (hW.mono hb.size))); clear hb)
  clear hcc hccn hbn
  obtain ⟨a0, a1, a2, a3, a4, a5, a6, a7, a8, a9, a10, a11⟩ := ((HALL.out _ (Below.refl _ _)).1.1.1.1)
  have hba : Below x5.heap.size x5 (x5.alloc (.cells #[.slice none 0 0, .slice none 0 0, .slice none 0 0, .slice none 0 0, .slice none 0 0, .slice none 0 0, .slice none 0 0, .bool false, .int .u32 0, .slice none 0 0, .slice none 0 0, .slice none 0 0] 33)) := (Below.refl _ _).alloc (Nat.le_refl _) _
  have HZ0 := Lib.hid (heap_alloc_new x5 (.cells #[.slice none 0 0, .slice none 0 0, .slice none 0 0, .slice none 0 0, .slice none 0 0, .slice none 0 0, .slice none 0 0, .bool false, .int .u32 0, .slice none 0 0, .slice none 0 0, .slice none 0 0] 33))
  go_upto_region 28 with (refine wpList_store_to rfl 33 (.tmp 18) (.tmp 97) rfl rfl x5.heap.size #[.slice A1 n1 c1, .slice A2 n2 c2, v3, v4, v5, v6, v7, .bool hs, .int .u32 st, v8, v9, v10] rfl rfl 33 #[.slice none 0 0, .slice none 0 0, .slice none 0 0, .slice none 0 0, .slice none 0 0, .slice none 0 0, .slice none 0 0, .bool false, .int .u32 0, .slice none 0 0, .slice none 0 0, .slice none 0 0] HZ0.out siz_smod rfl (HONE.out _ _) ?_)
  have hzz := setRow_heap (x5.alloc (.cells #[.slice none 0 0, .slice none 0 0, .slice none 0 0, .slice none 0 0, .slice none 0 0, .slice none 0 0, .slice none 0 0, .bool false, .int .u32 0, .slice none 0 0, .slice none 0 0, .slice none 0 0] 33)) x5.heap.size #[.slice none 0 0, .slice none 0 0, .slice none 0 0, .slice none 0 0, .slice none 0 0, .slice none 0 0, .slice none 0 0, .bool false, .int .u32 0, .slice none 0 0, .slice none 0 0, .slice none 0 0] #[.slice A1 n1 c1, .slice A2 n2 c2, v3, v4, v5, v6, v7, .bool hs, .int .u32 st, v8, v9, v10] _ _ HZ0.out
  have hbz : Below x5.heap.size x5 ((x5.alloc (.cells #[.slice none 0 0, .slice none 0 0, .slice none 0 0, .slice none 0 0, .slice none 0 0, .slice none 0 0, .slice none 0 0, .bool false, .int .u32 0, .slice none 0 0, .slice none 0 0, .slice none 0 0] 33)).setRow x5.heap.size #[.slice A1 n1 c1, .slice A2 n2 c2, v3, v4, v5, v6, v7, .bool hs, .int .u32 st, v8, v9, v10]) := below_setRow hba (Nat.le_refl _) _
  have HY := Lib.hid hzz
  have HBY := Lib.hid hbz
  have HYX := Lib.hid ((HALL.out _ hbz).1.1.1.1)
  clear hba hzz hbz HZ0 HONE a0 a1 a2 a3 a4 a5 a6 a7 a8 a9 a10 a11
  obtain ⟨Y, hY⟩ : ∃ Y, x5.heap.size = Y := ⟨_, rfl⟩
  have HYB : Hid (x5.heap.size ≤ Y) := Lib.hid (by omega)
  generalize (x5.alloc (.cells #[.slice none 0 0, .slice none 0 0, .slice none 0 0, .slice none 0 0, .slice none 0 0, .slice none 0 0, .slice none 0 0, .bool false, .int .u32 0, .slice none 0 0, .slice none 0 0, .slice none 0 0] 33)).setRow x5.heap.size #[.slice A1 n1 c1, .slice A2 n2 c2, v3, v4, v5, v6, v7, .bool hs, .int .u32 st, v8, v9, v10] = ya at HBY HY HYX ⊢
  rw [hY] at HY
  simp only [hY]
  clear hY
  have hyl : Y < ya.heap.size := (Array.getElem?_eq_some_iff.1 HY.out).1
  have HYL := Lib.hid hyl
  clear hyl
  have hb1 : Below ya.heap.size ya (ya.alloc (.cells #[] 63)) := (Below.refl _ _).alloc (Nat.le_refl _) _
  have HCY := Lib.hid (HCUR.out.trans (HBY.out.mono HCUR.out.size))
  obtain ⟨A', c', e, _, _, _, hL⟩ := HIM.out ya HCY.out
  injection e with e1 e2 e3
  subst e1
  clear e2 e3
  obtain ⟨v51, w51, hrun1, hO1, hM1, hT1⟩ := appendL undImp infImp (by decide) rfl (by decide) (ya.alloc (.cells #[] 63)) ya.heap.size (· < ya.heap.size) (.slice (some ⟨ya.heap.size, 0, none⟩) 0 0) [] m.imports A2 n2 c2 (OwnL.lit0 _ _ _ _ (Nat.le_refl _)) (hL.mod (T := fun _ => False) (Mod.of_below hb1) (fun _ _ _ h => h)) hN2.out.symm (by have := HF.out.2; simp; omega) hb1.size (fun g _ hg e => by simp [Value.ownBlock] at e; omega)
  have hO1 := hO1.flat (S' := (· < ya.heap.size))
  have hbw1 : Below ya.heap.size ya w51 := hb1.trans (hM1.below hb1.size (fun g hg e => by simp [Value.ownBlock] at e; omega))
  obtain ⟨v52, w52, hrun2, hO2, hM2, hT2⟩ := append1L undImp infImp (by decide) rfl (by decide) w51 ya.heap.size (· < ya.heap.size) v51 _ z [.string ⟨#[]⟩, .string ⟨#[]⟩, .int .u8 2, .int .u32 1, .int .u32 99, .int .i64 0, .int .u8 126, .bool true] hO1 (by have := HF.out.2; simp; omega) hbw1.size (HZR.out _ _) (by simp [Value.oneCell']) (fun g _ hg e => by have := (hO1.lt g e).1; omega)
  have hO2 := hO2.flat (S' := (· < ya.heap.size))
  have hbw2 : Below ya.heap.size ya w52 := hbw1.trans (hM2.below hbw1.size (fun g hg e => by have := (hO1.lt g e).1; omega))
  obtain ⟨B7, d7, e7, _, _⟩ := hO2.form
  obtain ⟨n7', hn7⟩ : ∃ n, ([] ++ m.imports ++ [z]).length = n := ⟨_, rfl⟩
  rw [hn7] at e7
  subst e7
  have HR1 := Lib.hid hrun1
  have HR2 := Lib.hid hrun2
  have HB52 := Lib.hid hbw2
  have HSL : Hid (SliceV w52 (ya.heap.size ≤ ·) (more m z).imports (.slice B7 n7' d7)) := Lib.hid (by rw [HMI.out]; exact hO2.slice)
  have HY5 := Lib.hid ((hbw2.block Y HYL.out).trans HY.out)
  clear hb1 hL hrun1 hO1 hM1 hT1 hbw1 hrun2 hO2 hM2 hT2 hbw2 hn7
  have y1 := HYX.out.b1
  have y1' : (ya.alloc (.cells #[] 63)).cell? ⟨X, 1, none⟩ = some (.slice A2 n2 c2) := (World.cell?_alloc_lt _ _ _ (World.block_lt_of_cell? ya _ y1)).trans y1
  clear y1
  have g1 : w52.frozen? ⟨Y, 1, none⟩ = false := frozen_of_row w52 Y 1 _ _ HY5.out
  have y2 : w52.cell? ⟨Y, 1, none⟩ = some (.slice A2 n2 c2) := by rw [cell_of_row w52 Y 1 _ _ (0, 0) HY5.out]; rfl
  go_upto_region 29 with (at_builtin; (first | (refine wpList_appends rfl (.tmp 98) (.tmp 100) 23 rfl _ _ _ w51 rfl rfl HR1.out ?_) | (refine wpList_appends rfl (.tmp 101) (.tmp 106) 23 rfl _ _ _ w52 rfl rfl HR2.out ?_)))
  clear y1' g1 y2
  have hms : Mod (· = Y) w52 (w52.setCell ⟨Y, 1, none⟩ (.slice B7 n7' d7)) := Mod.setCell (T := (· = Y)) (Mod.refl _ w52) (fun _ => rfl) _
  have HYZ := Lib.hid (heap_setCell_same w52 Y 1 _ _ (.slice B7 n7' d7) HY5.out)
  have HSZ : Hid (SliceV (w52.setCell ⟨Y, 1, none⟩ (.slice B7 n7' d7)) (· < (w52.setCell ⟨Y, 1, none⟩ (.slice B7 n7' d7)).heap.size) (more m z).imports (.slice B7 n7' d7)) := Lib.hid ((HSL.out.mod hms (fun g _ hg e => by have := HYL.out; have e' : g = Y := e; have hg' : ya.heap.size ≤ g := hg; omega)).more (fun k hk _ => hk))
  have HBZ : Hid (Below x5.heap.size x5 (w52.setCell ⟨Y, 1, none⟩ (.slice B7 n7' d7))) := Lib.hid ((HBY.out.trans (HB52.out.mono HBY.out.size)).trans (hms.below (HBY.out.trans (HB52.out.mono HBY.out.size)).size (fun k hk e => by have := HYB.out; have e' : k = Y := e; omega)))
  clear hms HR1 HR2 HB52 HSL HY5 HY HYX HBY HCY
  generalize w52.setCell ⟨Y, 1, none⟩ (.slice B7 n7' d7) = z0 at HYZ HSZ HBZ ⊢
  have HCUR := Lib.hid (HCUR.out.trans (HBZ.out.mono HCUR.out.size))
  have HALL := Lib.hid (fun W (hW : Below z0.heap.size z0 W) => And.intro (HALL.out W (HBZ.out.trans (hW.mono HBZ.out.size))) (cells12 HYZ.out hW))
  obtain ⟨a0, a1, a2, a3, a4, a5, a6, a7, a8, a9, a10, a11⟩ := ((HALL.out _ (Below.refl _ _)).2)
  go_upto_region 30 with (go_at_call 8; refine (HOF3.out _ _ HCUR.out HSZ.out).mono ?_; rintro e xx ⟨P2, rfl, hs, hb⟩; have HS := Lib.hid hs; have hB := Lib.hid hb; clear hs hb)
  clear a0 a1 a2 a3 a4 a5 a6 a7 a8 a9 a10 a11
  have HCUR := Lib.hid (HCUR.out.trans (hB.out.mono HCUR.out.size))
  have HALL := Lib.hid (fun W (hW : Below xx.heap.size xx W) => And.intro (HALL.out W (hB.out.trans (hW.mono hB.out.size))) ((.inl ⟨P2, rfl, HS.out.grow hW⟩ : Recv W (some ⟨P2, 0, none⟩) (more m z))))
  clear HS hB HOF3 HSZ HBZ HYZ
  have tokI : True := trivial
  have hcib : ci ≤ 1000000 := by omega
  have q1 : (((ct : Int) + 1) != ((ct : Int) + 1)) = false := by simp
  have q2 : (((ci : Int) + 1) != ((ci : Int) + 1)) = false := by simp
  go_upto_region 32 with (first | (go_at_call 20; refine (HSC2.out _ _ ((HALL.out _ (Below.refl _ _)).2)).mono ?_; rintro e x6 ⟨rfl, hb⟩; have HCUR := Lib.hid (HCUR.out.trans (hb.mono HCUR.out.size)); have HALL := Lib.hid (fun W (hW : Below _ _ W) => HALL.out W (hb.trans (hW.mono hb.size))); clear hb) | (go_at_call 22; clear tokI; refine (HSI2.out _ _ ((HALL.out _ (Below.refl _ _)).2)).mono ?_; rintro e x7 ⟨rfl, hb⟩; have HCUR := Lib.hid (HCUR.out.trans (hb.mono HCUR.out.size)); have HALL := Lib.hid (fun W (hW : Below _ _ W) => HALL.out W (hb.trans (hW.mono hb.size))); clear hb) | (go_at_call 22; refine (HSI.out _ _ ((HALL.out _ (Below.refl _ _)).1.1.1.1.1.2)).mono ?_; rintro e x8 ⟨rfl, hb⟩; have HCUR := Lib.hid (HCUR.out.trans (hb.mono HCUR.out.size)); have HALL := Lib.hid (fun W (hW : Below _ _ W) => HALL.out W (hb.trans (hW.mono hb.size))); clear hb))
  clear q1 q2
  by_cases hmx' : i = 4294967295
  · subst hmx'
    go_wp2_with fail
    go_ret
    exact ⟨rfl, HCUR.out⟩
  · have hme : ((i : Int) == 4294967295) = false := by rw [beq_eq_false_iff_ne]; omega
    have hil : i + 1 < 4294967296 := by omega
    have HIL := Lib.hid hil
    clear hil hmx'
    by_cases hii : i < ci
    · skip
      have hcmp : decide ((ci : Int) ≤ (i : Int)) = false := decide_eq_false (by omega)
      have hcmpn : decide (ci ≤ i) = false := decide_eq_false (by omega)
      have HLI := Lib.hid hii
      clear hii
      have hib : i ≤ 4294967294 := by have := HIL.out; omega
      go_upto_region 37 with (go_at_call 22; refine (HSI.out _ _ ((HALL.out _ (Below.refl _ _)).1.1.1.1.1.2)).mono ?_; rintro e x9 ⟨rfl, hb⟩; have HCUR := Lib.hid (HCUR.out.trans (hb.mono HCUR.out.size)); have HALL := Lib.hid (fun W (hW : Below _ _ W) => HALL.out W (hb.trans (hW.mono hb.size))); clear hb)
      clear hcmp hcmpn hme
      go_upto_region 38 with (go_at_call 9; refine (HSF.out _ _ ((HALL.out _ (Below.refl _ _)).1.1.1.1.1.2)).mono ?_; rintro e x10 hq; obtain ⟨A10x, c10x, B10x, d10x, rfl, hs1, hs2, hb⟩ := hq; have HP10 := Lib.hid hs1; have HQ10 := Lib.hid hs2; have HCUR := Lib.hid (HCUR.out.trans (hb.mono HCUR.out.size)); have HALL := Lib.hid (fun W (hW : Below _ _ W) => HALL.out W (hb.trans (hW.mono hb.size))); clear hb hs1 hs2)
      have hba : Below x10.heap.size x10 (x10.alloc (.cells #[.slice A10x f1 c10x, .slice B10x f2 d10x] 40)) := (Below.refl _ _).alloc (Nat.le_refl _) _
      have hva := Lib.hid (heap_alloc_new x10 (.cells #[.slice A10x f1 c10x, .slice B10x f2 d10x] 40))
      have HCUR := Lib.hid (HCUR.out.trans (hba.mono HCUR.out.size))
      have HALL := Lib.hid (fun W (hW : Below (x10.alloc (.cells #[.slice A10x f1 c10x, .slice B10x f2 d10x] 40)).heap.size (x10.alloc (.cells #[.slice A10x f1 c10x, .slice B10x f2 d10x] 40)) W) => And.intro (HALL.out W (hba.trans (hW.mono hba.size))) (And.intro (two_cells ((hW.block _ (Array.getElem?_eq_some_iff.1 hva.out).1).trans hva.out)) (And.intro ((HP10.out.grow hba).grow hW) ((HQ10.out.grow hba).grow hW))))
      obtain ⟨V10, hV10⟩ : ∃ V, x10.heap.size = V := ⟨_, rfl⟩
      generalize x10.alloc (.cells #[.slice A10x f1 c10x, .slice B10x f2 d10x] 40) = y10 at HALL HCUR ⊢
      rw [hV10] at HALL
      simp only [hV10]
      clear hba hva hV10 HP10 HQ10
      go_upto_region 39 with (go_at_call 9; refine (HSF2.out i (by have := HIL.out; omega) trivial _ _ ((HALL.out _ (Below.refl _ _)).1.2)).mono ?_; rintro e x11 hq; obtain ⟨xa11, xb11, l11a, l11b, bb11, hq⟩ := hq; obtain ⟨A11x, c11x, B11x, d11x, rfl, hs1, hs2, hb⟩ := hq; have HP11 := Lib.hid hs1; have HQ11 := Lib.hid hs2; have HCUR := Lib.hid (HCUR.out.trans (hb.mono HCUR.out.size)); have HALL := Lib.hid (fun W (hW : Below _ _ W) => HALL.out W (hb.trans (hW.mono hb.size))); clear hb hs1 hs2)
      have hba : Below x11.heap.size x11 (x11.alloc (.cells #[.slice A11x l11a c11x, .slice B11x l11b d11x] 40)) := (Below.refl _ _).alloc (Nat.le_refl _) _
      have hva := Lib.hid (heap_alloc_new x11 (.cells #[.slice A11x l11a c11x, .slice B11x l11b d11x] 40))
      have HCUR := Lib.hid (HCUR.out.trans (hba.mono HCUR.out.size))
      have HALL := Lib.hid (fun W (hW : Below (x11.alloc (.cells #[.slice A11x l11a c11x, .slice B11x l11b d11x] 40)).heap.size (x11.alloc (.cells #[.slice A11x l11a c11x, .slice B11x l11b d11x] 40)) W) => And.intro (HALL.out W (hba.trans (hW.mono hba.size))) (And.intro (two_cells ((hW.block _ (Array.getElem?_eq_some_iff.1 hva.out).1).trans hva.out)) (And.intro ((HP11.out.grow hba).grow hW) ((HQ11.out.grow hba).grow hW))))
      obtain ⟨V11, hV11⟩ : ∃ V, x11.heap.size = V := ⟨_, rfl⟩
      generalize x11.alloc (.cells #[.slice A11x l11a c11x, .slice B11x l11b d11x] 40) = y11 at HALL HCUR ⊢
      rw [hV11] at HALL
      simp only [hV11]
      clear hba hva hV11 HP11 HQ11
      go_upto_region 42 with (go_at_call 11; refine (HSG.out _ _ ((HALL.out _ (Below.refl _ _)).1.1.1.1.1.1.1.2)).mono ?_; rintro e x12 ⟨rfl, hb⟩; have HCUR := Lib.hid (HCUR.out.trans (hb.mono HCUR.out.size)); have HALL := Lib.hid (fun W (hW : Below _ _ W) => HALL.out W (hb.trans (hW.mono hb.size))); clear hb)
      have hba : Below x12.heap.size x12 (x12.alloc (.cells #[.int .u8 (gt : Int), .bool gm] 45)) := (Below.refl _ _).alloc (Nat.le_refl _) _
      have hva := Lib.hid (heap_alloc_new x12 (.cells #[.int .u8 (gt : Int), .bool gm] 45))
      have HCUR := Lib.hid (HCUR.out.trans (hba.mono HCUR.out.size))
      have HALL := Lib.hid (fun W (hW : Below (x12.alloc (.cells #[.int .u8 (gt : Int), .bool gm] 45)).heap.size (x12.alloc (.cells #[.int .u8 (gt : Int), .bool gm] 45)) W) => And.intro (HALL.out W (hba.trans (hW.mono hba.size))) (two_cells ((hW.block _ (Array.getElem?_eq_some_iff.1 hva.out).1).trans hva.out)))
      obtain ⟨V12, hV12⟩ : ∃ V, x12.heap.size = V := ⟨_, rfl⟩
      generalize x12.alloc (.cells #[.int .u8 (gt : Int), .bool gm] 45) = y12 at HALL HCUR ⊢
      rw [hV12] at HALL
      simp only [hV12]
      clear hba hva hV12
      go_upto_region 43 with (go_at_call 11; refine (HSG2.out i (by have := HIL.out; omega) trivial _ _ ((HALL.out _ (Below.refl _ _)).1.1.1.2)).mono ?_; rintro e x13 ⟨ga13, gb13, gc13, rfl, hb⟩; have HCUR := Lib.hid (HCUR.out.trans (hb.mono HCUR.out.size)); have HALL := Lib.hid (fun W (hW : Below _ _ W) => HALL.out W (hb.trans (hW.mono hb.size))); clear hb)
      have hba : Below x13.heap.size x13 (x13.alloc (.cells #[.int .u8 (ga13 : Int), .bool gb13] 45)) := (Below.refl _ _).alloc (Nat.le_refl _) _
      have hva := Lib.hid (heap_alloc_new x13 (.cells #[.int .u8 (ga13 : Int), .bool gb13] 45))
      have HCUR := Lib.hid (HCUR.out.trans (hba.mono HCUR.out.size))
      have HALL := Lib.hid (fun W (hW : Below (x13.alloc (.cells #[.int .u8 (ga13 : Int), .bool gb13] 45)).heap.size (x13.alloc (.cells #[.int .u8 (ga13 : Int), .bool gb13] 45)) W) => And.intro (HALL.out W (hba.trans (hW.mono hba.size))) (two_cells ((hW.block _ (Array.getElem?_eq_some_iff.1 hva.out).1).trans hva.out)))
      obtain ⟨V13, hV13⟩ : ∃ V, x13.heap.size = V := ⟨_, rfl⟩
      generalize x13.alloc (.cells #[.int .u8 (ga13 : Int), .bool gb13] 45) = y13 at HALL HCUR ⊢
      rw [hV13] at HALL
      simp only [hV13]
      clear hba hva hV13
      go_wp2_with fail
      go_ret
      exact ⟨rfl, HCUR.out⟩
    · have hii : ci ≤ i := by omega
      have hcmp : (ci : Int) ≤ (i : Int) := by omega
      have hcmpn : ci ≤ i := by omega
      have HLI := Lib.hid hii
      clear hii
      have hib : i ≤ 4294967294 := by have := HIL.out; omega
      go_upto_region 37 with (go_at_call 22; refine (HSI.out _ _ ((HALL.out _ (Below.refl _ _)).1.1.1.1.1.2)).mono ?_; rintro e x9 ⟨rfl, hb⟩; have HCUR := Lib.hid (HCUR.out.trans (hb.mono HCUR.out.size)); have HALL := Lib.hid (fun W (hW : Below _ _ W) => HALL.out W (hb.trans (hW.mono hb.size))); clear hb)
      clear hcmp hcmpn hme
      go_upto_region 38 with (go_at_call 9; refine (HSF.out _ _ ((HALL.out _ (Below.refl _ _)).1.1.1.1.1.2)).mono ?_; rintro e x10 hq; obtain ⟨A10x, c10x, B10x, d10x, rfl, hs1, hs2, hb⟩ := hq; have HP10 := Lib.hid hs1; have HQ10 := Lib.hid hs2; have HCUR := Lib.hid (HCUR.out.trans (hb.mono HCUR.out.size)); have HALL := Lib.hid (fun W (hW : Below _ _ W) => HALL.out W (hb.trans (hW.mono hb.size))); clear hb hs1 hs2)
      have hba : Below x10.heap.size x10 (x10.alloc (.cells #[.slice A10x f1 c10x, .slice B10x f2 d10x] 40)) := (Below.refl _ _).alloc (Nat.le_refl _) _
      have hva := Lib.hid (heap_alloc_new x10 (.cells #[.slice A10x f1 c10x, .slice B10x f2 d10x] 40))
      have HCUR := Lib.hid (HCUR.out.trans (hba.mono HCUR.out.size))
      have HALL := Lib.hid (fun W (hW : Below (x10.alloc (.cells #[.slice A10x f1 c10x, .slice B10x f2 d10x] 40)).heap.size (x10.alloc (.cells #[.slice A10x f1 c10x, .slice B10x f2 d10x] 40)) W) => And.intro (HALL.out W (hba.trans (hW.mono hba.size))) (And.intro (two_cells ((hW.block _ (Array.getElem?_eq_some_iff.1 hva.out).1).trans hva.out)) (And.intro ((HP10.out.grow hba).grow hW) ((HQ10.out.grow hba).grow hW))))
      obtain ⟨V10, hV10⟩ : ∃ V, x10.heap.size = V := ⟨_, rfl⟩
      generalize x10.alloc (.cells #[.slice A10x f1 c10x, .slice B10x f2 d10x] 40) = y10 at HALL HCUR ⊢
      rw [hV10] at HALL
      simp only [hV10]
      clear hba hva hV10 HP10 HQ10
      go_upto_region 39 with (go_at_call 9; refine (HSF2.out (i + 1) HIL.out trivial _ _ ((HALL.out _ (Below.refl _ _)).1.2)).mono ?_; rintro e x11 hq; obtain ⟨xa11, xb11, l11a, l11b, bb11, hq⟩ := hq; obtain ⟨A11x, c11x, B11x, d11x, rfl, hs1, hs2, hb⟩ := hq; have HP11 := Lib.hid hs1; have HQ11 := Lib.hid hs2; have HCUR := Lib.hid (HCUR.out.trans (hb.mono HCUR.out.size)); have HALL := Lib.hid (fun W (hW : Below _ _ W) => HALL.out W (hb.trans (hW.mono hb.size))); clear hb hs1 hs2)
      have hba : Below x11.heap.size x11 (x11.alloc (.cells #[.slice A11x l11a c11x, .slice B11x l11b d11x] 40)) := (Below.refl _ _).alloc (Nat.le_refl _) _
      have hva := Lib.hid (heap_alloc_new x11 (.cells #[.slice A11x l11a c11x, .slice B11x l11b d11x] 40))
      have HCUR := Lib.hid (HCUR.out.trans (hba.mono HCUR.out.size))
      have HALL := Lib.hid (fun W (hW : Below (x11.alloc (.cells #[.slice A11x l11a c11x, .slice B11x l11b d11x] 40)).heap.size (x11.alloc (.cells #[.slice A11x l11a c11x, .slice B11x l11b d11x] 40)) W) => And.intro (HALL.out W (hba.trans (hW.mono hba.size))) (And.intro (two_cells ((hW.block _ (Array.getElem?_eq_some_iff.1 hva.out).1).trans hva.out)) (And.intro ((HP11.out.grow hba).grow hW) ((HQ11.out.grow hba).grow hW))))
      obtain ⟨V11, hV11⟩ : ∃ V, x11.heap.size = V := ⟨_, rfl⟩
      generalize x11.alloc (.cells #[.slice A11x l11a c11x, .slice B11x l11b d11x] 40) = y11 at HALL HCUR ⊢
      rw [hV11] at HALL
      simp only [hV11]
      clear hba hva hV11 HP11 HQ11
      go_upto_region 42 with (go_at_call 11; refine (HSG.out _ _ ((HALL.out _ (Below.refl _ _)).1.1.1.1.1.1.1.2)).mono ?_; rintro e x12 ⟨rfl, hb⟩; have HCUR := Lib.hid (HCUR.out.trans (hb.mono HCUR.out.size)); have HALL := Lib.hid (fun W (hW : Below _ _ W) => HALL.out W (hb.trans (hW.mono hb.size))); clear hb)
      have hba : Below x12.heap.size x12 (x12.alloc (.cells #[.int .u8 (gt : Int), .bool gm] 45)) := (Below.refl _ _).alloc (Nat.le_refl _) _
      have hva := Lib.hid (heap_alloc_new x12 (.cells #[.int .u8 (gt : Int), .bool gm] 45))
      have HCUR := Lib.hid (HCUR.out.trans (hba.mono HCUR.out.size))
      have HALL := Lib.hid (fun W (hW : Below (x12.alloc (.cells #[.int .u8 (gt : Int), .bool gm] 45)).heap.size (x12.alloc (.cells #[.int .u8 (gt : Int), .bool gm] 45)) W) => And.intro (HALL.out W (hba.trans (hW.mono hba.size))) (two_cells ((hW.block _ (Array.getElem?_eq_some_iff.1 hva.out).1).trans hva.out)))
      obtain ⟨V12, hV12⟩ : ∃ V, x12.heap.size = V := ⟨_, rfl⟩
      generalize x12.alloc (.cells #[.int .u8 (gt : Int), .bool gm] 45) = y12 at HALL HCUR ⊢
      rw [hV12] at HALL
      simp only [hV12]
      clear hba hva hV12
      go_upto_region 43 with (go_at_call 11; refine (HSG2.out (i + 1) HIL.out trivial _ _ ((HALL.out _ (Below.refl _ _)).1.1.1.2)).mono ?_; rintro e x13 ⟨ga13, gb13, gc13, rfl, hb⟩; have HCUR := Lib.hid (HCUR.out.trans (hb.mono HCUR.out.size)); have HALL := Lib.hid (fun W (hW : Below _ _ W) => HALL.out W (hb.trans (hW.mono hb.size))); clear hb)
      have hba : Below x13.heap.size x13 (x13.alloc (.cells #[.int .u8 (ga13 : Int), .bool gb13] 45)) := (Below.refl _ _).alloc (Nat.le_refl _) _
      have hva := Lib.hid (heap_alloc_new x13 (.cells #[.int .u8 (ga13 : Int), .bool gb13] 45))
      have HCUR := Lib.hid (HCUR.out.trans (hba.mono HCUR.out.size))
      have HALL := Lib.hid (fun W (hW : Below (x13.alloc (.cells #[.int .u8 (ga13 : Int), .bool gb13] 45)).heap.size (x13.alloc (.cells #[.int .u8 (ga13 : Int), .bool gb13] 45)) W) => And.intro (HALL.out W (hba.trans (hW.mono hba.size))) (two_cells ((hW.block _ (Array.getElem?_eq_some_iff.1 hva.out).1).trans hva.out)))
      obtain ⟨V13, hV13⟩ : ∃ V, x13.heap.size = V := ⟨_, rfl⟩
      generalize x13.alloc (.cells #[.int .u8 (ga13 : Int), .bool gb13] 45) = y13 at HALL HCUR ⊢
      rw [hV13] at HALL
      simp only [hV13]
      clear hba hva hV13
      go_wp2_with fail
      go_ret
      exact ⟨rfl, HCUR.out⟩
end Go.Proofs.Ytgnbkfkiigcdgaa
