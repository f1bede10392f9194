/-
  Layer 11's program: Check does as the document asks. (gen/valid/ok.py)
-/
import Derived.Test.YtelcdmkbaegjoaaGreatTq01
import Derived.Test.YtelcdmkbaegjoaaGreatTq51
import Derived.Carry
import Derived.Deep.CutRange
set_option maxRecDepth 100000
set_option maxHeartbeats 4000000
namespace Go.Proofs.YtelcdmkbaegjoaaGreat
open Go.RowKit Ins Bin Sp
theorem names_new {w : World} {mp : Nat} (h : w.heap[mp]? = some (.map #[] 0)) : bO w mp [] :=
 ⟨.map [], ⟨#[], 0, h, ⟨by simp, MapKept.stamped_empty 0, by simp⟩, Nat.le_refl _, rfl⟩, fun s => by simp [Maps.has]⟩
theorem valid_ok : bi := by
 intro m v1 v2 v3 v4 v5 v6 v7 v8 v9 v10 w hM hF
 have HSO := J (fun W (hb : Below w.heap.size w W) => sofL_any m v1 v2 v3 v4 v5 v6 v7 v8 v9 v10 W (hM.grow hb) hF.lots)
 have HX0 := J (heap_alloc_new w (.cells #[v1, v2, v3, v4, v5, v6, v7, .bool m.hasStart, .int .u32 (m.start : Int), v8, v9, v10] 33))
 have HB0 : Hid (Below w.heap.size w (w.alloc (.cells #[v1, v2, v3, v4, v5, v6, v7, .bool m.hasStart, .int .u32 (m.start : Int), v8, v9, v10] 33))) := J ((Below.refl _ _).alloc (Nat.le_refl _) _)
 have HM := J hM
 have HF := J hF
 obtain ⟨A1, c1, e1, l1, m1, _, _⟩ := hM.types
 obtain ⟨A2, c2, e2, l2, m2, _, _⟩ := hM.imports
 obtain ⟨A3, c3, e3, l3, m3, _, _⟩ := hM.funcs
 obtain ⟨A6, c6, e6, l6, m6, _, _⟩ := hM.globals
 obtain ⟨A7, c7, e7, l7, m7, _, _⟩ := hM.exports
 obtain ⟨A8, c8, e8, l8, m8, _, _⟩ := hM.elems
 obtain ⟨A9, c9, e9, l9, m9, _, _⟩ := hM.codes
 obtain ⟨A10, c10, e10, l10, m10, _, _⟩ := hM.datas
 have E1 := J e1
 have E2 := J e2
 have E3 := J e3
 have E6 := J e6
 have E7 := J e7
 have E8 := J e8
 have E9 := J e9
 have E10 := J e10
 clear e1 e2 e3 e6 e7 e8 e9 e10 l1 l2 l3 l6 l7 l8 l9 l10 m1 m2 m3 m6 m7 m8 m9 m10 hM hF
 unfold modCells at HSO ⊢
 go_enter Tryz.func6, Tryz.ntmps6
 go_upto_region 1 with fail
 generalize w.alloc (.cells #[v1, v2, v3, v4, v5, v6, v7, .bool m.hasStart, .int .u32 (m.start : Int), v8, v9, v10] 33) = w0 at HX0 HB0 ⊢
 obtain ⟨X, hX⟩ : ∃ X, w.heap.size = X := ⟨_, rfl⟩
 rw [hX] at HX0
 have HXW := J hX
 simp only [hX]
 clear hX
 have HXL : Hid (X < w0.heap.size) := J (Array.getElem?_eq_some_iff.1 HX0.out).1
 have HCC := J (fun W (hb : Below w0.heap.size w0 W) => cells12 HX0.out hb)
 have HSO := J (fun W (hb : Below w0.heap.size w0 W) => HSO.out W (HB0.out.trans (hb.mono HB0.out.size)))
 go_cut [4] from 7 to 12 (fun s wx => ∃ W1 sp mp, s = .pointer (some ⟨W1.heap.size, 0, none⟩) ∧ wx = W1.alloc (.cells #[v1, v2, v3, v4, v5, v6, v7, .bool m.hasStart, .int .u32 (m.start : Int), v8, v9, v10, .pointer (some ⟨sp, 0, none⟩), .map (some mp), .slice none 0 0] 71) ∧ Hid (Below w0.heap.size w0 W1) ∧ Hid (aI W1 sp m) ∧ Hid (W1.heap[mp]? = some (.map #[] 0)) ∧ Hid (w0.heap.size ≤ mp))
 case first =>
  refine wp_region_held_drew (S := fun W' => Below w0.heap.size w0 W') (by kernel_rfl) (Below.drew (Below.refl _ _)) (fun hHeld => ?_)
  refine dt 0 rfl (v := ?_) ?_ ?_
  rotate_left
  ·(intro wy hSw; obtain ⟨q0, q1, q2, q3, q4, q5, q6, q7, q8, q9, q10, q11⟩ := HCC.out wy hSw; go_simp; try with_reducible rfl)
  simp only [Act.put, O]
  refine dt 1 rfl (v := ?_) ?_ ?_
  rotate_left
  ·(intro wy hSw; obtain ⟨q0, q1, q2, q3, q4, q5, q6, q7, q8, q9, q10, q11⟩ := HCC.out wy hSw; go_simp; try with_reducible rfl)
  simp only [Act.put, O]
  refine ah 2 3 rfl rfl (by kernel_rfl) (fun K hK => ?_) (fun K hK => ?_)
  ·try (rw [if_pos]; case hc => rfl)
   go_simp
   refine (HSO.out _ hHeld).mono ?_
   rintro e w1 ⟨sp, rfl, hS, hb⟩
   have hH : Below w0.heap.size w0 w1 := hHeld.trans (hb.mono hHeld.size)
   go_wp2_with fail
   refine hK.out _ _ hH (fun hHeld2 => ?_)
   clear hK K hHeld
   have hHeld := hHeld2
   clear hHeld2
   have hH2 : Below w0.heap.size w0 (w1.alloc (.map #[] 0)) := hHeld.alloc hHeld.size _
   have HBW := J hH2
   have HSP : Hid (aI (w1.alloc (.map #[] 0)) sp m) := J (hS.grow ((Below.refl _ _).alloc (Nat.le_refl _) _))
   have HMP : Hid ((w1.alloc (.map #[] 0)).heap[w1.heap.size]? = some (.map #[] 0)) := J (heap_alloc_new w1 _)
   have HMG : Hid (w0.heap.size ≤ w1.heap.size) := J hH.size
   clear hS hb
   refine aa 3 rfl (by kernel_rfl) (fun K hK => ?_)
   try (rw [if_pos]; case hc => rfl)
   go_simp
   refine hK.out _ _ hH2 (fun hHeld2 => ?_)
   clear hK K hHeld
   have hHeld := hHeld2
   clear hHeld2
   generalize hw9 : w1.alloc (.map #[] 0) = w9 at *
   refine dv 4 rfl ?_
   refine aa 5 rfl (by kernel_rfl) (fun K hK => ?_)
   try (rw [if_pos]; case hc => rfl)
   go_simp
   refine hK.out _ _ (HBW.out.alloc HBW.out.size _) (fun hHeld2 => ?_)
   clear hK K hHeld
   have hHeld := hHeld2
   clear hHeld2
   refine dv 6 rfl ?_
   refine wpAnyH_done (by kernel_rfl) ?_ _
   go_wp2_with fail
   go_meet
   case rel => exact ⟨w9, sp, w1.heap.size, rfl, rfl, HBW, HSP, HMP, HMG⟩
  ·try (rw [if_pos]; case hc => rfl)
   go_simp
   have hB0 : Below w0.heap.size w0 (w0.drew.alloc (.map #[] 0)) := hHeld.alloc hHeld.size _
   have hM0 : (w0.drew.alloc (.map #[] 0)).heap[w0.heap.size]? = some (.map #[] 0) := heap_alloc_new w0.drew _
   have hl0 : w0.heap.size < (w0.drew.alloc (.map #[] 0)).heap.size := by simp
   refine hK.out _ _ hB0 (fun hHeld2 => ?_)
   clear hK K hHeld
   have hHeld := hHeld2
   clear hHeld2
   refine aa 2 rfl (by kernel_rfl) (fun K hK => ?_)
   try (rw [if_pos]; case hc => rfl)
   go_simp
   refine (HSO.out _ hB0).mono ?_
   rintro e w1 ⟨sp, rfl, hS, hb⟩
   have hH : Below w0.heap.size w0 w1 := hB0.trans (hb.mono hB0.size)
   have HBW := J hH
   have HSP := J hS
   have HMP : Hid (w1.heap[w0.heap.size]? = some (.map #[] 0)) := J ((hb.block _ hl0).trans hM0)
   have HMG : Hid (w0.heap.size ≤ w0.heap.size) := J (Nat.le_refl _)
   clear hS hb hl0 hM0 hB0
   go_wp2_with fail
   refine hK.out _ _ hH (fun hHeld2 => ?_)
   clear hK K hHeld
   have hHeld := hHeld2
   clear hHeld2
   refine dv 4 rfl ?_
   refine aa 5 rfl (by kernel_rfl) (fun K hK => ?_)
   try (rw [if_pos]; case hc => rfl)
   go_simp
   refine hK.out _ _ (HBW.out.alloc HBW.out.size _) (fun hHeld2 => ?_)
   clear hK K hHeld
   have hHeld := hHeld2
   clear hHeld2
   refine dv 6 rfl ?_
   refine wpAnyH_done (by kernel_rfl) ?_ _
   go_wp2_with fail
   go_meet
   case rel => exact ⟨w1, sp, w0.heap.size, rfl, rfl, HBW, HSP, HMP, HMG⟩
 case rest =>
 obtain ⟨W1, sp, mp, rfl, hwc, HBW, HSP, HMP, HMG⟩ := hcut
 subst hwc
 have HGD : Hid (VC.Good ⟨W1, m, sp, mp, W1.heap.size, W1.heap.size + 1, v1, v2, v3, v4, v5, v6, v7, v8, v9, v10⟩) := J
  ⟨repM_more (HM.out.on (HB0.out.trans (HBW.out.mono HB0.out.size))) (fun k hk hs => ⟨hk, fun e => by have e' : k = mp := e; have hs' : k < w.heap.size := hs; have := HMG.out; have := HB0.out.size; omega⟩), HSP.out.off HMP.out, HF.out, (Array.getElem?_eq_some_iff.1 HMP.out).1, Nat.le_refl _, Nat.lt_succ_self _⟩
 have HXN : Hid (W1.heap[X]? = some (.cells #[v1, v2, v3, v4, v5, v6, v7, .bool m.hasStart, .int .u32 (m.start : Int), v8, v9, v10] 33 (0, 0)) ∧ X ≠ mp) := J ⟨(HBW.out.block X HXL.out).trans HX0.out, fun e => by have := HMG.out; have := HXL.out; omega⟩
 have HBB : Hid (Below w.heap.size w W1 ∧ w.heap.size ≤ mp) := J ⟨HB0.out.trans (HBW.out.mono HB0.out.size), by have := HMG.out; have := HB0.out.size; omega⟩
 have HS0 : Hid (VSt ⟨W1, m, sp, mp, W1.heap.size, W1.heap.size + 1, v1, v2, v3, v4, v5, v6, v7, v8, v9, v10⟩ ((W1.alloc (.cells #[v1, v2, v3, v4, v5, v6, v7, .bool m.hasStart, .int .u32 (m.start : Int), v8, v9, v10, .pointer (some ⟨sp, 0, none⟩), .map (some mp), .slice none 0 0] 71)).alloc (.cells #[.int .i64 (0 : Int)] 36)) [] []) := J
  ⟨((Mod.refl _ W1).alloc _).alloc _, by simp, (names_new HMP.out).on (((Below.heap_alloc _ _ _ (by show mp < (W1.alloc _).heap.size; have := (Array.getElem?_eq_some_iff.1 HMP.out).1; simp; omega)).trans (Below.heap_alloc _ _ _ (Array.getElem?_eq_some_iff.1 HMP.out).1))), ⟨.slice none 0 0, (Below.heap_alloc _ _ _ (by simp)).trans (heap_alloc_new W1 _), OwnL.nil _ _ _ _⟩⟩
 have HT0 : Hid (Told ⟨W1, m, sp, mp, W1.heap.size, W1.heap.size + 1, v1, v2, v3, v4, v5, v6, v7, v8, v9, v10⟩ ((W1.alloc (.cells #[v1, v2, v3, v4, v5, v6, v7, .bool m.hasStart, .int .u32 (m.start : Int), v8, v9, v10, .pointer (some ⟨sp, 0, none⟩), .map (some mp), .slice none 0 0] 71)).alloc (.cells #[.int .i64 (0 : Int)] 36)) 0) := J (by
  have h := heap_alloc_new (W1.alloc (.cells #[v1, v2, v3, v4, v5, v6, v7, .bool m.hasStart, .int .u32 (m.start : Int), v8, v9, v10, .pointer (some ⟨sp, 0, none⟩), .map (some mp), .slice none 0 0] 71)) (.cells #[.int .i64 (0 : Int)] 36)
  have e : (W1.alloc (.cells #[v1, v2, v3, v4, v5, v6, v7, .bool m.hasStart, .int .u32 (m.start : Int), v8, v9, v10, .pointer (some ⟨sp, 0, none⟩), .map (some mp), .slice none 0 0] 71)).heap.size = W1.heap.size + 1 := by simp
  rw [e] at h
  exact h)
 have HV1 : True := trivial
 clear HM HF HB0 HBW HSP HMG HX0 HXL HCC HSO
 have hsz : (W1.alloc (.cells #[v1, v2, v3, v4, v5, v6, v7, .bool m.hasStart, .int .u32 (m.start : Int), v8, v9, v10, .pointer (some ⟨sp, 0, none⟩), .map (some mp), .slice none 0 0] 71)).heap.size = W1.heap.size + 1 := by simp
 go_upto_region 3 with (go_at_call 18; refine (first_any _).mono ?_; rintro e w3 ⟨rfl, rfl⟩)
 (try simp only [hsz])
 clear hsz
 generalize (W1.alloc (.cells #[v1, v2, v3, v4, v5, v6, v7, .bool m.hasStart, .int .u32 (m.start : Int), v8, v9, v10, .pointer (some ⟨sp, 0, none⟩), .map (some mp), .slice none 0 0] 71)).alloc (.cells #[.int .i64 (0 : Int)] 36) = u0 at HS0 HT0 ⊢
 obtain ⟨C, hC⟩ : ∃ C : VC, C = ⟨W1, m, sp, mp, W1.heap.size, W1.heap.size + 1, v1, v2, v3, v4, v5, v6, v7, v8, v9, v10⟩ := ⟨_, rfl⟩
 rw [← hC] at HGD HS0 HT0
 obtain ⟨P, hP⟩ : ∃ P, W1.heap.size = P := ⟨_, rfl⟩
 obtain ⟨E, hE⟩ : ∃ E, W1.heap.size + 1 = E := ⟨_, rfl⟩
 have HQ : Hid (C.P = P ∧ C.E = E ∧ C.m = m ∧ C.w1 = W1 ∧ C.mp = mp ∧ C.sp = sp) := J ⟨by rw [hC]; exact hP, by rw [hC]; exact hE, by rw [hC], by rw [hC], by rw [hC], by rw [hC]⟩
 simp only [hE]
 simp only [hP]
 clear hP hE hC HV1
 obtain ⟨rfl, rfl, rfl, rfl, rfl, rfl⟩ := HQ.out
 clear HQ HMP
 have HSTP : Hid (Stp C u0 0 [] []) := J ⟨⟨[], [], HS0.out⟩, HT0.out, fun _ => HS0.out⟩
 clear HS0 HT0
 have HXX : Hid (∀ W e ns hs, Stp C W e ns hs → W.heap[X]? = some (.cells #[v1, v2, v3, v4, v5, v6, v7, .bool C.m.hasStart, .int .u32 (C.m.start : Int), v8, v9, v10] 33 (0, 0))) := J (fun W e ns hs h => h.mod.heap HXN.out.1 HXN.out.2)
 have HCN : Hid (∀ (k : Nat) W e ns hs, k < 256 → Stp C W e ns hs → Calls Tryz.prog 10 #[.pointer (some ⟨C.sp, 0, none⟩), .int .u8 (k : Int)] W fun x W' => x = .returned (.int .i64 (count C.m k : Int)) ∧ Stp C W' e ns hs ∧ W'.cell? ⟨C.P, 12, none⟩ = some (.pointer (some ⟨C.sp, 0, none⟩))) := J (fun k W e ns hs hk h => by
  obtain ⟨hv, hin⟩ := h.vin HGD.out
  refine (aW (some ⟨C.sp, 0, none⟩) C.m k hk W hin.recv (Lots.some HGD.out.fit.lots)).mono ?_
  rintro x W' ⟨hx, hb⟩
  exact ⟨hx, h.on HGD.out hb, cell15 (hin.grow hb).cells 12 _ rfl⟩)
 clear HXN
 obtain ⟨s1, hs1⟩ : ∃ s, Va.orE 0 (Va.shapeE C.m) = s := ⟨_, rfl⟩
 obtain ⟨s2, hs2⟩ : ∃ s, Va.orE s1 (Va.first Va.typE C.m.types) = s := ⟨_, rfl⟩
 obtain ⟨s3, hs3⟩ : ∃ s, Va.orE s2 (Va.first (Va.impE C.m) C.m.imports) = s := ⟨_, rfl⟩
 obtain ⟨s4, hs4⟩ : ∃ s, Va.orE s3 (Va.first (Va.funE C.m) C.m.funcs) = s := ⟨_, rfl⟩
 obtain ⟨s5, hs5⟩ : ∃ s, Va.orE s4 (Va.countE C.m) = s := ⟨_, rfl⟩
 obtain ⟨s6, hs6⟩ : ∃ s, Va.orE s5 (Va.first (Va.limE 4294967295) (tabs C.m)) = s := ⟨_, rfl⟩
 obtain ⟨s7, hs7⟩ : ∃ s, Va.orE s6 (Va.first (Va.limE 65536) (mems C.m)) = s := ⟨_, rfl⟩
 obtain ⟨s8, hs8⟩ : ∃ s, Va.orE s7 (Va.first (Va.globE C.m) C.m.globals) = s := ⟨_, rfl⟩
 obtain ⟨s9, hs9⟩ : ∃ s, Va.orE s8 (Va.expE C.m [] C.m.exports) = s := ⟨_, rfl⟩
 obtain ⟨s10, hs10⟩ : ∃ s, Va.orE s9 (Va.startE C.m) = s := ⟨_, rfl⟩
 obtain ⟨s11, hs11⟩ : ∃ s, Va.orE s10 (Va.first (Va.elemE C.m) C.m.elems) = s := ⟨_, rfl⟩
 obtain ⟨s12, hs12⟩ : ∃ s, Va.orE s11 ((if s11 = 0 then Va.codesE C.m else 0)) = s := ⟨_, rfl⟩
 obtain ⟨s13, hs13⟩ : ∃ s, Va.orE s12 (Va.first (Va.datE C.m) C.m.datas) = s := ⟨_, rfl⟩
 have HPRE : Hid (s11 = 0 → Va.pre C.m = 0) := J (fun h => by
  have e : Va.pre C.m = s11 := by
   rw [← hs11, ← hs10, ← hs9, ← hs8, ← hs7, ← hs6, ← hs5, ← hs4, ← hs3, ← hs2, ← hs1]
   simp only [Va.orE_assoc]
   rfl
  rw [e]; exact h)
 have HALL : Hid (Va.num (Va.check C.m) = s13) := J (by
  have e : Va.pre C.m = s11 := by
   rw [← hs11, ← hs10, ← hs9, ← hs8, ← hs7, ← hs6, ← hs5, ← hs4, ← hs3, ← hs2, ← hs1]
   simp only [Va.orE_assoc]
   rfl
  rw [Va.num_check, e, ← hs13, ← hs12, Va.orE_assoc]
  by_cases h : s11 = 0
  ·rw [if_pos h]
  ·rw [Va.orE_ne h, Va.orE_ne h])
 have HSTEP1 := J hs1
 clear hs1
 go_upto_region 4 with (go_at_call 52; refine (t_shape HGD.out HSTP.out _ HSTEP1.out).mono ?_; rintro e u1 ⟨rfl, hst⟩; have HSTQ := J hst; clear hst)
 clear HSTP HSTEP1
 have HSTP := HSTQ
 clear HSTQ
 have HSTEP2 := J hs2
 clear hs2
 have xx := cell15 (HXX.out _ _ _ _ HSTP.out) 0 _ (congrArg some E1.out)
 go_upto_region 5 with (go_at_call 52; refine (t_types HGD.out HSTP.out _ HSTEP2.out).mono ?_; rintro e u2 ⟨rfl, hst⟩; have HSTQ := J hst; clear hst)
 clear xx
 clear HSTP HSTEP2
 have HSTP := HSTQ
 clear HSTQ
 have HSTEP3 := J hs3
 clear hs3
 have xx := cell15 (HXX.out _ _ _ _ HSTP.out) 1 _ (congrArg some E2.out)
 go_upto_region 6 with (go_at_call 52; refine (t_imports HGD.out HSTP.out _ HSTEP3.out).mono ?_; rintro e u3 ⟨rfl, hst⟩; have HSTQ := J hst; clear hst)
 clear xx
 clear HSTP HSTEP3
 have HSTP := HSTQ
 clear HSTQ
 have HSTEP4 := J hs4
 clear hs4
 have xx := cell15 (HXX.out _ _ _ _ HSTP.out) 2 _ (congrArg some E3.out)
 go_upto_region 7 with (go_at_call 52; refine (t_funcs HGD.out HSTP.out _ HSTEP4.out).mono ?_; rintro e u4 ⟨rfl, hst⟩; have HSTQ := J hst; clear hst)
 clear xx
 clear HSTP HSTEP4
 have HSTP := HSTQ
 clear HSTQ
 have HSTEP5 := J hs5
 clear hs5
 go_upto_region 8 with (go_at_call 52; refine (t_counts HGD.out HSTP.out _ HSTEP5.out).mono ?_; rintro e u5 ⟨rfl, hst⟩; have HSTQ := J hst; clear hst)
 clear HSTP HSTEP5
 have HSTP := HSTQ
 clear HSTQ
 have HSTEP6 := J hs6
 clear hs6
 obtain ⟨hv0, hin0⟩ := HSTP.out.vin HGD.out
 have xx := cell15 hin0.cells 12 _ rfl
 clear hin0
 have HCN6 := J (HCN.out 1 _ _ _ _ (by decide) HSTP.out)
 go_upto_region 9 with (first | (go_at_call 10; refine HCN6.out.mono ?_; rintro e w9 ⟨rfl, hst, _⟩; have HSTP := J hst; clear hst) | (go_at_call 52; refine (t_tables HGD.out HSTP.out _ HSTEP6.out).mono ?_; rintro e u6 ⟨rfl, hst⟩; have HSTQ := J hst; clear hst))
 clear xx HCN6
 clear HSTP HSTEP6
 have HSTP := HSTQ
 clear HSTQ
 have HSTEP7 := J hs7
 clear hs7
 obtain ⟨hv0, hin0⟩ := HSTP.out.vin HGD.out
 have xx := cell15 hin0.cells 12 _ rfl
 clear hin0
 have HCN7 := J (HCN.out 2 _ _ _ _ (by decide) HSTP.out)
 go_upto_region 10 with (first | (go_at_call 10; refine HCN7.out.mono ?_; rintro e w9 ⟨rfl, hst, _⟩; have HSTP := J hst; clear hst) | (go_at_call 52; refine (t_mems HGD.out HSTP.out _ HSTEP7.out).mono ?_; rintro e u7 ⟨rfl, hst⟩; have HSTQ := J hst; clear hst))
 clear xx HCN7
 clear HSTP HSTEP7
 have HSTP := HSTQ
 clear HSTQ
 have HSTEP8 := J hs8
 clear hs8
 have xx := cell15 (HXX.out _ _ _ _ HSTP.out) 5 _ (congrArg some E6.out)
 go_upto_region 11 with (go_at_call 52; refine (t_globals HGD.out HSTP.out _ HSTEP8.out).mono ?_; rintro e u8 ⟨rfl, hst⟩; have HSTQ := J hst; clear hst)
 clear xx
 clear HSTP HSTEP8
 have HSTP := HSTQ
 clear HSTQ
 have HSTEP9 := J hs9
 clear hs9
 have xx := cell15 (HXX.out _ _ _ _ HSTP.out) 6 _ (congrArg some E7.out)
 go_upto_region 12 with (go_at_call 52; refine (t_exports HGD.out HSTP.out _ HSTEP9.out).mono ?_; rintro e u9 ⟨rfl, hst⟩; have HSTQ := J hst; clear hst)
 clear xx
 clear HSTP HSTEP9
 have HSTP := HSTQ
 clear HSTQ
 have HSTEP10 := J hs10
 clear hs10
 go_upto_region 13 with (go_at_call 52; refine (t_start HGD.out HSTP.out _ HSTEP10.out).mono ?_; rintro e u10 ⟨rfl, hst⟩; have HSTQ := J hst; clear hst)
 clear HSTP HSTEP10
 have HSTP := HSTQ
 clear HSTQ
 have HSTEP11 := J hs11
 clear hs11
 have xx := cell15 (HXX.out _ _ _ _ HSTP.out) 9 _ (congrArg some E8.out)
 go_upto_region 14 with (go_at_call 52; refine (t_elems HGD.out HSTP.out _ HSTEP11.out).mono ?_; rintro e u11 ⟨rfl, hst⟩; have HSTQ := J hst; clear hst)
 clear xx
 clear HSTP HSTEP11
 have HSTP := HSTQ
 clear HSTQ
 have HSTEP12 := J hs12
 clear hs12
 have xx := cell15 (HXX.out _ _ _ _ HSTP.out) 10 _ (congrArg some E9.out)
 go_upto_region 15 with (go_at_call 52; refine (t_codes HGD.out HSTP.out (fun h => HPRE.out h) _ HSTEP12.out).mono ?_; rintro e u12 ⟨rfl, hst⟩; have HSTQ := J hst; clear hst)
 clear xx
 clear HSTP HSTEP12
 have HSTP := HSTQ
 clear HSTQ
 have HSTEP13 := J hs13
 clear hs13
 have xx := cell15 (HXX.out _ _ _ _ HSTP.out) 11 _ (congrArg some E10.out)
 go_upto_region 16 with (go_at_call 52; refine (t_datas HGD.out HSTP.out _ HSTEP13.out).mono ?_; rintro e u13 ⟨rfl, hst⟩; have HSTQ := J hst; clear hst)
 clear xx
 clear HSTP HSTEP13
 have HSTP := HSTQ
 clear HSTQ
 have HB13 : Hid (Below w.heap.size w u13) := J (HBB.out.1.trans (HSTP.out.mod.below HBB.out.1.size (fun k hk e => by have := HBB.out.2; omega)))
 by_cases hz : s13 = 0
 ·subst hz
  have HV := J (HSTP.out.2.2 rfl)
  obtain ⟨hv, hcell, hown⟩ := HV.out.all
  have x14 := cell15 hcell 14 _ rfl
  have HOWN := J hown
  have HCK : Hid (Va.hts (Va.check C.m) = ((List.range C.m.codes.length).map fun i => Va.valR (Va.codeAt C.m i)).map Va.Ht.mk) := J (by
   obtain ⟨hs, hg⟩ := Va.num_zero.1 HALL.out
   rw [Va.check_ok.2 hg]
   have h1 := hg.codes
   have h2 := (Va.codesE_upTo (Va.pre_parts hg.pre).1.symm).2 (by unfold Va.codesE; rw [h1])
   rw [h1] at h2
   injection h2 with h2
   rw [h2]
   rfl)
  obtain ⟨A, c, hve, _, _⟩ := hown.form
  obtain ⟨l0, hl0⟩ : ∃ n, (((List.range C.m.codes.length).map fun i => Va.valR (Va.codeAt C.m i)).map Va.Ht.mk).length = n := ⟨_, rfl⟩
  rw [hl0] at hve
  clear hl0 hcell hown
  subst hve
  go_wp2_with fail
  go_ret2
  refine ⟨_, by rw [HALL.out]; rfl, ?_, HB13.out⟩
  rw [HCK.out]
  exact (HOWN.out.tell (fun _ h => h.elim)).more (fun k hk _ => hk)
 ·have hq : ((s13 : Int) == 0) = false := by rw [beq_eq_false_iff_ne]; omega
  have hq2 : ((s13 : Int) != 0) = true := by rw [bne, hq]; rfl
  have hq3 : ¬ ((s13 : Int) = 0) := by omega
  have HH : Hid (Va.hts (Va.check C.m) = []) := J (Va.hts_err (by rw [HALL.out]; exact hz))
  clear hz
  go_wp2_with fail
  go_ret2
  refine ⟨_, by rw [HALL.out]; rfl, ?_, HB13.out⟩
  rw [HH.out]
  exact ab.nil _ _
end Go.Proofs.YtelcdmkbaegjoaaGreat
