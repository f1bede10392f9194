/-
  Layer 10's program: Check. (gen/body/check.py)
-/
import Derived.Test.YtelcdmkbaegjoaaGreatTq01
import Derived.Test.YtelcdmkbaegjoaaGreatTq43
import Derived.Test.YtelcdmkbaegjoaaGreatTq02
import Derived.Test.YtelcdmkbaegjoaaGreatTq16
set_option maxRecDepth 100000
set_option maxHeartbeats 4000000
namespace Go.Proofs.YtelcdmkbaegjoaaGreat
open Go.RowKit Ins Bin Sp
def chkE : Except Nat Nat → Ending
 | .error n => .returned (.tuple #[.int .i64 0, .int .i64 (n : Int)])
 | .ok h => .returned (.tuple #[.int .i64 (h : Int), .int .i64 0])
theorem wk_most {C : Ctx} {R P : Nat} {w : World} {G : Nat → Prop} {s : Ty.T} {o : List Bool} (h : Wk C R P w G s o) :
  Calls Tryz.prog 50 #[.pointer (some ⟨P, 0, none⟩)] w fun e w' => w' = w ∧ e = .returned (.int .i64 (s.most : Int)) := by
 obtain ⟨F, vo, h1, h2, _⟩ := h.all
 exact at_most h2
theorem wk_start (C : Ctx) (w1 : World) (P : Nat) (F : Nat → Prop) (hb : Below C.B C.w0 w1) (ha : AtF w1 F P (Ty.T.new C.rs)) (hF : ∀ k, F k → C.B ≤ k) :
  Wk C w1.heap.size P (w1.alloc (.cells #[.pointer (some ⟨C.sp, 0, none⟩), C.v1, C.v2, C.v3, C.v4, .pointer (some ⟨P, 0, none⟩), .slice none 0 0] 119)) (fun k => F k ∨ k = w1.heap.size) (Ty.T.new C.rs) [] := by
 have hb1 : Below w1.heap.size w1 (w1.alloc (.cells #[.pointer (some ⟨C.sp, 0, none⟩), C.v1, C.v2, C.v3, C.v4, .pointer (some ⟨P, 0, none⟩), .slice none 0 0] 119)) := (Below.refl _ _).alloc (Nat.le_refl _) _
 refine ⟨hb.trans (hb1.mono hb.size), ⟨F, _, heap_alloc_new w1 _, ha.on hb1, OwnL.nil _ _ _ _, fun k hk => ⟨.inl hk, fun e => ?_, fun e => by cases e⟩, fun k hk => by cases hk⟩, .inr rfl, fun k hk => ?_⟩
 ·have := ha.2.2 k hk; omega
 ·rcases hk with hk | rfl
  ·exact ⟨hF k hk, Nat.lt_of_lt_of_le (ha.2.2 k hk) hb1.size⟩
  ·exact ⟨hb.size, by simp⟩
theorem Bo.env_k {C : Ctx} {K : Nat} (h1 : ∀ t ∈ C.m.types, t.results.length ≤ K) (h2 : C.rs.length ≤ K) (h3 : 2 ≤ K) : Bo.EnvK C.env K where
 func i t ht := by
  unfold Ctx.env at ht
  dsimp only at ht
  rw [Option.map_eq_some_iff] at ht
  obtain ⟨f, hf, rfl⟩ := ht
  unfold Sp.func at hf
  rw [Option.bind_eq_some_iff] at hf
  obtain ⟨k, _, hk⟩ := hf
  exact h1 f (List.mem_of_getElem? hk)
 typ i t ht := by
  unfold Ctx.env at ht
  dsimp only at ht
  rw [Option.map_eq_some_iff] at ht
  obtain ⟨f, hf, rfl⟩ := ht
  exact h1 f (List.mem_of_getElem? hf)
 res := h2
 two := h3
theorem bcheck_any (C : Ctx) (hC : C.Good) (xs : List I) (hx : ab C.w0 (· < C.w0.heap.size) xs C.v4) (K : Nat) (hK1 : ∀ t ∈ C.m.types, t.results.length ≤ K) (hK2 : C.rs.length ≤ K) (hK3 : 2 ≤ K) (hK4 : K ≤ 4000) (hK5 : K * (xs.length + 2) ≤ 350000000) (hl1 : xs.length ≤ 1050000) (hl2 : ∀ x ∈ xs, x.l.length ≤ 100000000) (hl3 : tot xs ≤ 100000000)
  (w : World) (v1 : Value) (A2 A3 A4 : Option Addr) (n2 n3 n4 c2 c3 c4 : Nat) (e0 : C.w0 = w) (e1 : C.v1 = v1) (e2 : C.v2 = .slice A2 n2 c2) (e3 : C.v3 = .slice A3 n3 c3) (e4 : C.v4 = .slice A4 n4 c4) :
  Calls Tryz.prog 13 #[.pointer (some ⟨C.sp, 0, none⟩), .agg #[v1, .slice A2 n2 c2], .agg #[.slice A3 n3 c3, .slice A4 n4 c4]] w fun e w' => e = chkE (Bo.chk C.env (Bo.locB C.ls) xs) ∧ Below w.heap.size w w' := by
 have hn4 : xs.length = n4 := by
  obtain ⟨A, c, e, _⟩ := hx
  rw [e4] at e
  injection e with _ e _
  exact e.symm
 have HAE : Hid (∀ W, Below w.heap.size w W → Calls Tryz.prog 45 #[.slice none 0 0, .slice A4 n4 c4] W (cq [] xs W)) := J (fun W hb => by
  have hx' := hx
  rw [e0, e4] at hx'
  obtain ⟨A, c, e, _, _, _, hL⟩ := hx'.grow hb
  injection e with q1 q2 q3
  subst q1 q3
  rw [← hn4]
  exact dl none [] 0 A4 xs c4 W (Has.nil _ _ _) hL.ins (fun x hm => by have := hl2 x hm; omega) (by simp; omega))
 have HWH : Hid (∀ W, Below w.heap.size w W → Calls Tryz.prog 46 #[.slice A3 n3 c3] W fun e w' => e = .returned (.bool (Bo.locB C.ls)) ∧ Below W.heap.size W w') := J (fun W hb => by
  have h := hC.ls
  rw [e0, e3] at h
  exact bwhole_any C.ls _ W (h.grow hb) hC.ll)
 have HNW : Hid (∀ W, Below w.heap.size w W → Calls Tryz.prog 47 #[.slice A2 n2 c2] W fun r w' => ∃ P F, r = .returned (.pointer (some ⟨P, 0, none⟩)) ∧ AtF w' F P (Ty.T.new C.rs) ∧ (∀ k, F k → W.heap.size ≤ k) ∧ Below W.heap.size W w') := J (fun W hb => by
  have h := hC.rs
  rw [e0, e2] at h
  exact at_new C.rs _ W (h.grow hb) (by have := hC.lr; omega))
 have HST : Hid (∀ w1 P F, Below w.heap.size w w1 → AtF w1 F P (Ty.T.new C.rs) → (∀ k, F k → w.heap.size ≤ k) → Wk C w1.heap.size P (w1.alloc (.cells #[.pointer (some ⟨C.sp, 0, none⟩), v1, .slice A2 n2 c2, .slice A3 n3 c3, .slice A4 n4 c4, .pointer (some ⟨P, 0, none⟩), .slice none 0 0] 119)) (fun k => F k ∨ k = w1.heap.size) (Ty.T.new C.rs) []) := J (fun w1 P F hb ha hF => by
  have h := wk_start C w1 P F (by unfold Ctx.B; rw [e0]; exact hb) ha (by unfold Ctx.B; rw [e0]; exact hF)
  rw [e1, e2, e3, e4] at h
  exact h)
 have HXI : Hid (HasI w (· < w.heap.size) A4 xs) := J (by
  have hx' := hx
  rw [e0, e4] at hx'
  obtain ⟨A, c, e, _, _, _, hL⟩ := hx'
  injection e with q1 q2 q3
  subst q1
  exact hL.ins)
 have HB : Hid (C.B = w.heap.size ∧ C.w0 = w) := J ⟨by unfold Ctx.B; rw [e0], e0⟩
 have HC := J hC
 have HL2 := J hl2
 have HN4 := J hn4
 have HEK := J (Bo.env_k hK1 hK2 hK3)
 have HKN : Hid (∀ j, j ≤ n4 → K * (j + 1) + K ≤ 350000000) := J (fun j hj => by
  have h1 : K * (j + 1) + K = K * (j + 2) := rfl
  have h2 : K * (j + 2) ≤ K * (xs.length + 2) := Nat.mul_le_mul_left _ (by omega)
  omega)
 have HK3 := J hK3
 clear hK1 hK2 hK3 hK5
 obtain ⟨t0, t1, t2⟩ := two_new w v1 (.slice A2 n2 c2) (.slice A3 n3 c3) (.slice A4 n4 c4) 51 48
 have HX0 := J t0
 have HX1 := J t1
 have HB0 := J t2
 have hn4b : n4 ≤ 1050000 := by omega
 clear hC hx hl1 hl2 hl3 e0 e1 e2 e3 e4 t0 t1 t2 hn4
 generalize C.sp = sp at HST ⊢
 go_enter Tryz.func13, Tryz.ntmps13
 go_upto_region 1 with fail
 generalize (w.alloc (.cells #[v1, .slice A2 n2 c2] 51)).alloc (.cells #[.slice A3 n3 c3, .slice A4 n4 c4] 48) = w0 at HX0 HX1 HB0 ⊢
 obtain ⟨X0, hX0⟩ : ∃ X0, w.heap.size = X0 := ⟨_, rfl⟩
 obtain ⟨X1, hX1⟩ : ∃ X1, w.heap.size + 1 = X1 := ⟨_, rfl⟩
 simp only [hX1] at HX1 ⊢
 simp only [hX0] at HX0 ⊢
 have HXX : Hid (w.heap.size = X0) := J hX0
 clear hX0 hX1
 have HXL : Hid (X0 < w0.heap.size ∧ X1 < w0.heap.size) := J ⟨(Array.getElem?_eq_some_iff.1 HX0.out).1, (Array.getElem?_eq_some_iff.1 HX1.out).1⟩
 have HCC := J (fun W (hb : Below w0.heap.size w0 W) => And.intro (ae ((hb.block X0 HXL.out.1).trans HX0.out)) (ae ((hb.block X1 HXL.out.2).trans HX1.out)))
 obtain ⟨⟨y0, y1⟩, y2, y3⟩ := HCC.out w0 (Below.refl _ _)
 cases hex : exprB xs with
 | false =>
  have HT : Hid (Bo.chk C.env (Bo.locB C.ls) xs = .error 2) := J (by unfold Bo.chk; rw [hex]; rfl)
  have HEX := J hex
  clear hex
  go_wp2_with (go_at_call 45; refine (HAE.out _ HB0.out).mono ?_; rintro e w1 he; unfold cq at he; rw [HEX.out] at he; obtain ⟨rfl, hb⟩ : e = .returned (.tuple #[.slice none 0 0, .int .i64 2]) ∧ Below w0.heap.size w0 w1 := he; have HB1 := J (HB0.out.trans (hb.mono HB0.out.size)); clear hb)
  go_ret2
  rw [HT.out]
  exact ⟨rfl, HB1.out⟩
 | true =>
  have HEX := J hex
  have HMS := J (Bo.exprB_parts hex)
  go_upto_region 6 with (go_at_call 45; refine (HAE.out _ HB0.out).mono ?_; rintro e w1 he; unfold cq at he; rw [HEX.out, if_pos rfl] at he; obtain ⟨va, rfl, _, hb⟩ := he; have HB1 := J (HB0.out.trans (hb.mono HB0.out.size)); have HW1 := J hb; clear hb)
  clear hex y0 y1 y2 y3
  obtain ⟨⟨y0, y1⟩, y2, y3⟩ := HCC.out w1 HW1.out
  cases hlb : Bo.locB C.ls with
  | false =>
   have HT : Hid (Bo.chk C.env false xs = .error 100) := J (by unfold Bo.chk; rw [HEX.out]; rfl)
   rw [hlb] at HWH
   go_wp2_with (go_at_call 46; refine (HWH.out _ HB1.out).mono ?_; rintro e w2 ⟨rfl, hb⟩; have HB2 := J (HB1.out.trans (hb.mono HB1.out.size)); clear hb)
   go_ret2
   rw [hlb, HT.out]
   exact ⟨rfl, HB2.out⟩
  | true =>
   have HT : Hid (Bo.chk C.env true xs = match Bo.run C.env [] xs (Ty.T.new C.rs) with
    | .error e => .error e
    | .ok s => if s.closeA.isSome = true then .ok s.most else .error 100) := J (by unfold Bo.chk; rw [HEX.out]; rfl)
   rw [hlb] at HWH
   have HLB := J hlb
   clear hlb
   go_upto_region 8 with (go_at_call 46; refine (HWH.out _ HB1.out).mono ?_; rintro e w2 ⟨rfl, hb⟩; have HB2 := J (HB1.out.trans (hb.mono HB1.out.size)); have HW2 := J (HW1.out.trans (hb.mono HW1.out.size)); clear hb)
   clear y0 y1 y2 y3
   have HC8 := J (fun W (hb : Below w2.heap.size w2 W) => HCC.out W (HW2.out.trans (hb.mono HW2.out.size)))
   refine wp_region_held_drew (S := fun W' => Below w2.heap.size w2 W') (by kernel_rfl) (Below.drew (Below.refl _ _)) (fun hHeld => ?_)
   refine dt 0 rfl (v := ?_) ?_ ?_
   rotate_left
   ·(intro wy hSw; obtain ⟨⟨z0, z1⟩, z2, z3⟩ := HC8.out wy hSw; go_simp; try with_reducible rfl)
   simp only [Act.put, O]
   refine dt 1 rfl (v := ?_) ?_ ?_
   rotate_left
   ·(intro wy hSw; obtain ⟨⟨z0, z1⟩, z2, z3⟩ := HC8.out wy hSw; go_simp; try with_reducible rfl)
   simp only [Act.put, O]
   refine dt 2 rfl (v := ?_) ?_ ?_
   rotate_left
   ·(intro wy hSw; obtain ⟨⟨z0, z1⟩, z2, z3⟩ := HC8.out wy hSw; go_simp; try with_reducible rfl)
   simp only [Act.put, O]
   refine dt 3 rfl (v := ?_) ?_ ?_
   rotate_left
   ·(intro wy hSw; obtain ⟨⟨z0, z1⟩, z2, z3⟩ := HC8.out wy hSw; go_simp; try with_reducible rfl)
   simp only [Act.put, O]
   refine dt 4 rfl (v := ?_) ?_ ?_
   rotate_left
   ·(intro wy hSw; obtain ⟨⟨z0, z1⟩, z2, z3⟩ := HC8.out wy hSw; go_simp; try with_reducible rfl)
   simp only [Act.put, O]
   refine aa 5 rfl (by kernel_rfl) (fun K hK => ?_)
   try (rw [if_pos]; case hc => rfl)
   go_simp
   have hz := hHeld.size
   refine (HNW.out _ (HB2.out.trans (hHeld.mono HB2.out.size))).mono ?_
   rintro e w3 ⟨P, F, rfl, ha, hF, hb⟩
   have hH : Below w2.heap.size w2 w3 := hHeld.trans (hb.mono hz)
   have HB3 := J (HB2.out.trans (hH.mono HB2.out.size))
   have hk := HST.out w3 P F HB3.out ha (fun k hk => Nat.le_trans (Nat.le_trans HB2.out.size hz) (hF k hk))
   have HK := J hk
   clear ha hF hb hz hk
   go_wp2_with fail
   refine hK.out _ _ (hH) (fun hHeld2 => ?_)
   clear hK K hHeld
   have hHeld := hHeld2
   clear hHeld2
   refine dv 6 rfl ?_
   have HW3 : Hid (Below w2.heap.size w2 (w3.alloc (.cells #[.pointer (some ⟨sp, 0, none⟩), v1, .slice A2 n2 c2, .slice A3 n3 c3, .slice A4 n4 c4, .pointer (some ⟨P, 0, none⟩), .slice none 0 0] 119))) := J (hHeld.alloc hHeld.size _)
   refine aa 7 rfl (by kernel_rfl) (fun K hK => ?_)
   try (rw [if_pos]; case hc => rfl)
   go_simp
   refine hK.out _ _ HW3.out (fun hHeld2 => ?_)
   clear hK K hHeld
   have hHeld := hHeld2
   clear hHeld2
   refine dv 8 rfl ?_
   refine wpAnyH_done (by kernel_rfl) ?_ _
   have HWK : Hid (Below w0.heap.size w0 (w3.alloc (.cells #[.pointer (some ⟨sp, 0, none⟩), v1, .slice A2 n2 c2, .slice A3 n3 c3, .slice A4 n4 c4, .pointer (some ⟨P, 0, none⟩), .slice none 0 0] 119))) := J (HW2.out.trans (HW3.out.mono HW2.out.size))
   generalize w3.alloc (.cells #[.pointer (some ⟨sp, 0, none⟩), v1, .slice A2 n2 c2, .slice A3 n3 c3, .slice A4 n4 c4, .pointer (some ⟨P, 0, none⟩), .slice none 0 0] 119) = wk at HWK HK ⊢
   clear HW3 HNW HST hHeld
   obtain ⟨R, hR⟩ : ∃ R, w3.heap.size = R := ⟨_, rfl⟩
   simp only [hR] at HK ⊢
   clear hR
   obtain ⟨⟨y0, y1⟩, y2, y3⟩ := HCC.out wk HWK.out
   go_wp2_with fail
   clear y0 y1 y2 y3
   go_loopw [41] (fun iv wr => ∃ (j : Nat) (s : Ty.T) (ob : List Bool) (G : Nat → Prop), j ≤ n4 ∧ iv = .int .i64 (j : Int) ∧ Hid (Wk C R P wr G s ob) ∧ Hid (Bo.Sz K (K * (j + 1)) s) ∧ Hid (Bo.run C.env [] xs (Ty.T.new C.rs) = Bo.run C.env ob (xs.drop j) s) ∧ Hid (Ins.steps [] (xs.take j) = some ob) ∧ ob.length ≤ j) (fun iv _ => n4 - (intOf iv).toNat)
   case atStart => exact ⟨0, _, [], _, by omega, rfl, HK, J (Bo.sz_new HEK.out.res HK3.out), J (by rw [List.drop_zero]), J rfl, by simp⟩
   case round =>
    obtain ⟨j, s, ob, G, hj, rfl, HW, HSZ, HRUN, HSTP, hob⟩ := hrel
    by_cases hjn : j < n4
    ·obtain ⟨x, hx⟩ : ∃ x, xs[j]? = some x := ⟨_, List.getElem?_eq_getElem (by have := HN4.out; omega)⟩
     obtain ⟨g, oo, A5, c5, rfl, hg, hwf, _, _, hU, hcells⟩ := HXI.out j x hx
     have hxl := HL2.out x (List.mem_of_getElem? hx)
     have HRA := J (HRUN.out.trans (Bo.run_at hx))
     have HSN := J (fun (h : Ins.step ob x.op = none) => Ins.exprB_step HSTP.out hx h)
     have HSS := J (fun (o' : List Bool) (h : Ins.step ob x.op = some o') => Ins.steps_next HSTP.out hx h)
     have hji : (j : Int) < (n4 : Int) := by omega
     have HWB : Hid (Below w.heap.size w _) := J (by have h := HW.out.base; rw [HB.out.1, HB.out.2] at h; exact h)
     clear hx
     obtain ⟨op, xa, xb, xc, xl⟩ := x
     obtain ⟨hw1, hw2, hw3, hw4, hw5, hw6⟩ := hwf
     dsimp only at hxl hw1 hw2 hw3 hw4 hw5 hw6 hU
     have k0 : World.cell? _ ⟨g, oo + j * 5, none⟩ = some (.int .u8 (op : Int)) := (HWB.out.cell (p := ⟨g, oo + j * 5, none⟩) hg).trans (hcells 0 _ rfl)
     have k1 : World.cell? _ ⟨g, oo + j * 5 + 1, none⟩ = some (.int .u32 (xa : Int)) := (HWB.out.cell (p := ⟨g, oo + j * 5 + 1, none⟩) hg).trans (hcells 1 _ rfl)
     have k2 : World.cell? _ ⟨g, oo + j * 5 + 2, none⟩ = some (.int .u32 (xb : Int)) := (HWB.out.cell (p := ⟨g, oo + j * 5 + 2, none⟩) hg).trans (hcells 2 _ rfl)
     have k3 : World.cell? _ ⟨g, oo + j * 5 + 3, none⟩ = some (.int .i64 xc) := (HWB.out.cell (p := ⟨g, oo + j * 5 + 3, none⟩) hg).trans (hcells 3 _ rfl)
     have k4 : World.cell? _ ⟨g, oo + j * 5 + 4, none⟩ = some (.slice A5 xl.length c5) := (HWB.out.cell (p := ⟨g, oo + j * 5 + 4, none⟩) hg).trans (hcells 4 _ rfl)
     obtain ⟨o', ho'⟩ : ∃ o', Ins.step ob op = some o' := by
      cases h : Ins.step ob op with
      | none =>
       have h1 := HSN.out h
       rw [HEX.out] at h1
       cases h1
      | some o' => exact ⟨o', rfl⟩
     have HSP := J (HSS.out o' ho')
     have HOL := J (Bo.step_length' ho')
     obtain ⟨k, hd1, hd2, hd3⟩ := disp_any op
     have HASK := J hd2
     have HU5 : Hid (HasU C.w0 (· < C.w0.heap.size) A5 xl) := J (by rw [HB.out.2]; exact hU)
     have HME := J (fun W G1 (hW : Wk C R P W G1 s ob) => hd3 C R P _ W G1 s ob o' xa xb xc A5 c5 xl HC.out hW (Bo.sz_sm HSZ.out) (by have := HKN.out j hj; omega) (fun k l hl => by have := Bo.sz_label HSZ.out hl; omega) (by omega) hw2 hw6 HU5.out (by omega) ho')
     have HCF := J hd1
     clear hcells hU hd1 hd2 hd3 hw2 hw3 hw4 hw5 hw6 HSN HSS hxl
     have HRA : Hid (Bo.run C.env [] xs (Ty.T.new C.rs) = match Bo.one C.env (Bo.isIf ob) ⟨op, xa, xb, xc, xl⟩ s with
      | .error e => .error e
      | .ok s' => Bo.run C.env o' (xs.drop (j + 1)) s') := J (by
       rw [HRA.out]
       cases Bo.one C.env (Bo.isIf ob) ⟨op, xa, xb, xc, xl⟩ s with
       | error e => rfl
       | ok s' => simp only [ho'])
     have HSO := J (fun s' (h : Bo.one C.env (Bo.isIf ob) ⟨op, xa, xb, xc, xl⟩ s = .ok s') => Bo.sz_one HEK.out HSZ.out h)
     have HEO := J (fun m (h : Bo.one C.env (Bo.isIf ob) ⟨op, xa, xb, xc, xl⟩ s = .error m) => Bo.e_one h)
     generalize Bo.one C.env (Bo.isIf ob) ⟨op, xa, xb, xc, xl⟩ s = r at HRA HME HSO HEO
     generalize xl.length = xll at HME k4
     clear ho' hw1
     go_upto_region 12 with fail
     clear k0 k1 k2 k3 k4
     have HXB : Hid (Below wr.heap.size wr (wr.alloc (.cells #[.int .u8 (op : Int), .int .u32 (xa : Int), .int .u32 (xb : Int), .int .i64 xc, .slice A5 xll c5] 57))) := J ((Below.refl _ _).alloc (Nat.le_refl _) _)
     have HXH := J (heap_alloc_new wr (.cells #[.int .u8 (op : Int), .int .u32 (xa : Int), .int .u32 (xb : Int), .int .i64 xc, .slice A5 xll c5] 57))
     have HWX := J (HW.out.on (HXB.out.drew))
     generalize wr.alloc (.cells #[.int .u8 (op : Int), .int .u32 (xa : Int), .int .u32 (xb : Int), .int .i64 xc, .slice A5 xll c5] 57) = wx at HXB HXH HWX ⊢
     obtain ⟨X, hX⟩ : ∃ X, wr.heap.size = X := ⟨_, rfl⟩
     simp only [hX] at HXH ⊢
     clear hX
     have HCX : Hid (wx.drew.cell? ⟨X, 0, none⟩ = some (.int .u8 (op : Int)) ∧ wx.drew.cell? ⟨X, 1, none⟩ = some (.int .u32 (xa : Int)) ∧ wx.drew.cell? ⟨X, 2, none⟩ = some (.int .u32 (xb : Int)) ∧ wx.drew.cell? ⟨X, 3, none⟩ = some (.int .i64 xc) ∧ wx.drew.cell? ⟨X, 4, none⟩ = some (.slice A5 xll c5)) := J (cells5 (w := wx.drew) HXH.out)
     cases r with
     | error m =>
      have hm := HEO.out m rfl
      have HTE : Hid (Bo.chk C.env true xs = .error m) := J (by rw [HT.out, HRA.out])
      have hmi : ((m : Int) == 0) = false := by rw [beq_eq_false_iff_ne]; rcases hm with rfl | rfl | rfl <;> decide
      have hmj : ((m : Int) != 0) = true := by rw [bne, hmi]; rfl
      have hmk : ¬ ((m : Int) = 0) := by rcases hm with rfl | rfl | rfl <;> decide
      clear hm
      refine wp_region_held_drew (S := fun _ => True) (by kernel_rfl) (trivial) (fun hHeld => ?_)
      refine dv 0 rfl ?_
      refine dv 1 rfl ?_
      refine ah 2 4 rfl rfl (by kernel_rfl) (fun K hK => ?_) (fun K hK => ?_)
      ·obtain ⟨d0, d1, d2, d3, d4⟩ := HCX.out
       try (rw [if_pos]; case hc => rfl)
       go_simp
       clear d0 d1 d2 d3 d4
       refine hK.out _ _ trivial (fun hHeld2 => ?_)
       clear hK K hHeld
       have hHeld := hHeld2
       clear hHeld2
       refine ah 3 4 rfl rfl (by kernel_rfl) (fun K hK => ?_) (fun K hK => ?_)
       ·try (rw [if_pos]; case hc => rfl)
        go_simp
        refine (HASK.out R _).mono ?_
        rintro e w9 ⟨rfl, rfl⟩
        go_wp2_with fail
        refine hK.out _ _ trivial (fun hHeld2 => ?_)
        clear hK K hHeld
        have hHeld := hHeld2
        clear hHeld2
        refine aa 4 rfl (by kernel_rfl) (fun K hK => ?_)
        obtain ⟨d0, d1, d2, d3, d4⟩ := HCX.out
        try (rw [if_pos]; case hc => rfl)
        go_simp
        clear d0 d1 d2 d3 d4
        refine hK.out _ _ trivial (fun hHeld2 => ?_)
        clear hK K hHeld
        have hHeld := hHeld2
        clear hHeld2
        refine aa 5 rfl (by kernel_rfl) (fun K hK => ?_)
        try (rw [if_pos]; case hc => rfl)
        have hcf := HCF.out
        go_simp
        clear hcf
        refine (HME.out _ _ HWX.out).mono ?_
        rintro e w5 ⟨rfl, hb⟩
        have HB5 := J hb
        clear hb
        go_wp2_with fail
        refine hK.out _ _ trivial (fun hHeld2 => ?_)
        clear hK K hHeld
        have hHeld := hHeld2
        clear hHeld2
        refine dv 6 rfl ?_
        refine wpAnyH_done (by kernel_rfl) ?_ _
        go_wp2_with fail
        go_ret2
        rw [HLB.out, HTE.out]
        exact ⟨rfl, by have h := HB5.out; rw [HB.out.1, HB.out.2] at h; exact h⟩
       ·obtain ⟨d0, d1, d2, d3, d4⟩ := HCX.out
        try (rw [if_pos]; case hc => rfl)
        go_simp
        clear d0 d1 d2 d3 d4
        refine hK.out _ _ trivial (fun hHeld2 => ?_)
        clear hK K hHeld
        have hHeld := hHeld2
        clear hHeld2
        refine aa 3 rfl (by kernel_rfl) (fun K hK => ?_)
        try (rw [if_pos]; case hc => rfl)
        go_simp
        refine (HASK.out R _).mono ?_
        rintro e w9 ⟨rfl, rfl⟩
        go_wp2_with fail
        refine hK.out _ _ trivial (fun hHeld2 => ?_)
        clear hK K hHeld
        have hHeld := hHeld2
        clear hHeld2
        refine aa 5 rfl (by kernel_rfl) (fun K hK => ?_)
        try (rw [if_pos]; case hc => rfl)
        have hcf := HCF.out
        go_simp
        clear hcf
        refine (HME.out _ _ HWX.out).mono ?_
        rintro e w5 ⟨rfl, hb⟩
        have HB5 := J hb
        clear hb
        go_wp2_with fail
        refine hK.out _ _ trivial (fun hHeld2 => ?_)
        clear hK K hHeld
        have hHeld := hHeld2
        clear hHeld2
        refine dv 6 rfl ?_
        refine wpAnyH_done (by kernel_rfl) ?_ _
        go_wp2_with fail
        go_ret2
        rw [HLB.out, HTE.out]
        exact ⟨rfl, by have h := HB5.out; rw [HB.out.1, HB.out.2] at h; exact h⟩
      ·obtain ⟨d0, d1, d2, d3, d4⟩ := HCX.out
       try (rw [if_pos]; case hc => rfl)
       go_simp
       clear d0 d1 d2 d3 d4
       refine hK.out _ _ trivial (fun hHeld2 => ?_)
       clear hK K hHeld
       have hHeld := hHeld2
       clear hHeld2
       refine aa 2 rfl (by kernel_rfl) (fun K hK => ?_)
       obtain ⟨d0, d1, d2, d3, d4⟩ := HCX.out
       try (rw [if_pos]; case hc => rfl)
       go_simp
       clear d0 d1 d2 d3 d4
       refine hK.out _ _ trivial (fun hHeld2 => ?_)
       clear hK K hHeld
       have hHeld := hHeld2
       clear hHeld2
       refine aa 3 rfl (by kernel_rfl) (fun K hK => ?_)
       try (rw [if_pos]; case hc => rfl)
       go_simp
       refine (HASK.out R _).mono ?_
       rintro e w9 ⟨rfl, rfl⟩
       go_wp2_with fail
       refine hK.out _ _ trivial (fun hHeld2 => ?_)
       clear hK K hHeld
       have hHeld := hHeld2
       clear hHeld2
       refine aa 5 rfl (by kernel_rfl) (fun K hK => ?_)
       try (rw [if_pos]; case hc => rfl)
       have hcf := HCF.out
       go_simp
       clear hcf
       refine (HME.out _ _ HWX.out).mono ?_
       rintro e w5 ⟨rfl, hb⟩
       have HB5 := J hb
       clear hb
       go_wp2_with fail
       refine hK.out _ _ trivial (fun hHeld2 => ?_)
       clear hK K hHeld
       have hHeld := hHeld2
       clear hHeld2
       refine dv 6 rfl ?_
       refine wpAnyH_done (by kernel_rfl) ?_ _
       go_wp2_with fail
       go_ret2
       rw [HLB.out, HTE.out]
       exact ⟨rfl, by have h := HB5.out; rw [HB.out.1, HB.out.2] at h; exact h⟩
     | ok s' =>
      have HSO2 := J (HSO.out s' rfl)
      have HRN : Hid (Bo.run C.env [] xs (Ty.T.new C.rs) = Bo.run C.env o' (xs.drop (j + 1)) s') := HRA
      refine wp_region_held_drew (S := fun _ => True) (by kernel_rfl) (trivial) (fun hHeld => ?_)
      refine dv 0 rfl ?_
      refine dv 1 rfl ?_
      refine ah 2 4 rfl rfl (by kernel_rfl) (fun K hK => ?_) (fun K hK => ?_)
      ·obtain ⟨d0, d1, d2, d3, d4⟩ := HCX.out
       try (rw [if_pos]; case hc => rfl)
       go_simp
       clear d0 d1 d2 d3 d4
       refine hK.out _ _ trivial (fun hHeld2 => ?_)
       clear hK K hHeld
       have hHeld := hHeld2
       clear hHeld2
       refine ah 3 4 rfl rfl (by kernel_rfl) (fun K hK => ?_) (fun K hK => ?_)
       ·try (rw [if_pos]; case hc => rfl)
        go_simp
        refine (HASK.out R _).mono ?_
        rintro e w9 ⟨rfl, rfl⟩
        go_wp2_with fail
        refine hK.out _ _ trivial (fun hHeld2 => ?_)
        clear hK K hHeld
        have hHeld := hHeld2
        clear hHeld2
        refine aa 4 rfl (by kernel_rfl) (fun K hK => ?_)
        obtain ⟨d0, d1, d2, d3, d4⟩ := HCX.out
        try (rw [if_pos]; case hc => rfl)
        go_simp
        clear d0 d1 d2 d3 d4
        refine hK.out _ _ trivial (fun hHeld2 => ?_)
        clear hK K hHeld
        have hHeld := hHeld2
        clear hHeld2
        refine aa 5 rfl (by kernel_rfl) (fun K hK => ?_)
        try (rw [if_pos]; case hc => rfl)
        have hcf := HCF.out
        go_simp
        clear hcf
        refine (HME.out _ _ HWX.out).mono ?_
        rintro e w5 ⟨rfl, G5, h5, n5⟩
        have H5 := J h5
        clear h5 n5
        go_wp2_with fail
        refine hK.out _ _ trivial (fun hHeld2 => ?_)
        clear hK K hHeld
        have hHeld := hHeld2
        clear hHeld2
        refine dv 6 rfl ?_
        refine wpAnyH_done (by kernel_rfl) ?_ _
        go_wp2_with fail
        go_roundw
        case rel => exact ⟨j + 1, s', o', G5, by omega, by go_num, H5, J (Bo.sz_up HSO2.out (Nat.le_of_eq (Nat.mul_succ _ _).symm)), HRN, HSP, by have := HOL.out; omega⟩
        case measure => simp [intOf]; omega
       ·obtain ⟨d0, d1, d2, d3, d4⟩ := HCX.out
        try (rw [if_pos]; case hc => rfl)
        go_simp
        clear d0 d1 d2 d3 d4
        refine hK.out _ _ trivial (fun hHeld2 => ?_)
        clear hK K hHeld
        have hHeld := hHeld2
        clear hHeld2
        refine aa 3 rfl (by kernel_rfl) (fun K hK => ?_)
        try (rw [if_pos]; case hc => rfl)
        go_simp
        refine (HASK.out R _).mono ?_
        rintro e w9 ⟨rfl, rfl⟩
        go_wp2_with fail
        refine hK.out _ _ trivial (fun hHeld2 => ?_)
        clear hK K hHeld
        have hHeld := hHeld2
        clear hHeld2
        refine aa 5 rfl (by kernel_rfl) (fun K hK => ?_)
        try (rw [if_pos]; case hc => rfl)
        have hcf := HCF.out
        go_simp
        clear hcf
        refine (HME.out _ _ HWX.out).mono ?_
        rintro e w5 ⟨rfl, G5, h5, n5⟩
        have H5 := J h5
        clear h5 n5
        go_wp2_with fail
        refine hK.out _ _ trivial (fun hHeld2 => ?_)
        clear hK K hHeld
        have hHeld := hHeld2
        clear hHeld2
        refine dv 6 rfl ?_
        refine wpAnyH_done (by kernel_rfl) ?_ _
        go_wp2_with fail
        go_roundw
        case rel => exact ⟨j + 1, s', o', G5, by omega, by go_num, H5, J (Bo.sz_up HSO2.out (Nat.le_of_eq (Nat.mul_succ _ _).symm)), HRN, HSP, by have := HOL.out; omega⟩
        case measure => simp [intOf]; omega
      ·obtain ⟨d0, d1, d2, d3, d4⟩ := HCX.out
       try (rw [if_pos]; case hc => rfl)
       go_simp
       clear d0 d1 d2 d3 d4
       refine hK.out _ _ trivial (fun hHeld2 => ?_)
       clear hK K hHeld
       have hHeld := hHeld2
       clear hHeld2
       refine aa 2 rfl (by kernel_rfl) (fun K hK => ?_)
       obtain ⟨d0, d1, d2, d3, d4⟩ := HCX.out
       try (rw [if_pos]; case hc => rfl)
       go_simp
       clear d0 d1 d2 d3 d4
       refine hK.out _ _ trivial (fun hHeld2 => ?_)
       clear hK K hHeld
       have hHeld := hHeld2
       clear hHeld2
       refine aa 3 rfl (by kernel_rfl) (fun K hK => ?_)
       try (rw [if_pos]; case hc => rfl)
       go_simp
       refine (HASK.out R _).mono ?_
       rintro e w9 ⟨rfl, rfl⟩
       go_wp2_with fail
       refine hK.out _ _ trivial (fun hHeld2 => ?_)
       clear hK K hHeld
       have hHeld := hHeld2
       clear hHeld2
       refine aa 5 rfl (by kernel_rfl) (fun K hK => ?_)
       try (rw [if_pos]; case hc => rfl)
       have hcf := HCF.out
       go_simp
       clear hcf
       refine (HME.out _ _ HWX.out).mono ?_
       rintro e w5 ⟨rfl, G5, h5, n5⟩
       have H5 := J h5
       clear h5 n5
       go_wp2_with fail
       refine hK.out _ _ trivial (fun hHeld2 => ?_)
       clear hK K hHeld
       have hHeld := hHeld2
       clear hHeld2
       refine dv 6 rfl ?_
       refine wpAnyH_done (by kernel_rfl) ?_ _
       go_wp2_with fail
       go_roundw
       case rel => exact ⟨j + 1, s', o', G5, by omega, by go_num, H5, J (Bo.sz_up HSO2.out (Nat.le_of_eq (Nat.mul_succ _ _).symm)), HRN, HSP, by have := HOL.out; omega⟩
       case measure => simp [intOf]; omega
    ·obtain rfl : j = n4 := by omega
     have hji : decide ((j : Int) < (j : Int)) = false := decide_eq_false (by omega)
     have hjn2 : decide (j < j) = false := decide_eq_false hjn
     have hdr : xs.drop j = [] := List.drop_eq_nil_of_le (by have := HN4.out; omega)
     have HRE : Hid (Bo.run C.env [] xs (Ty.T.new C.rs) = .ok s) := J (by rw [HRUN.out, hdr, Bo.run])
     clear hdr hjn
     obtain ⟨_, _, _, _, _, q5⟩ := HW.out.cells
     have hcl := dK HW.out (Bo.sz_sm HSZ.out) (by have := HKN.out j (Nat.le_refl _); omega)
     cases hc : s.closeA with
     | none =>
      rw [hc] at hcl
      have HCL := J hcl
      have HTE : Hid (Bo.chk C.env true xs = .error 100) := J (by rw [HT.out, HRE.out]; dsimp only; rw [hc]; rfl)
      clear hc hcl
      go_wp2_with (go_at_call 49; refine HCL.out.mono ?_; rintro e w5 ⟨he, G5, h5, n5⟩; obtain rfl : e = .returned (.tuple #[.slice none 0 0, .bool false]) := he; have H5 := J h5; clear h5 n5)
      go_ret2
      rw [HLB.out, HTE.out]
      exact ⟨rfl, by have h := H5.out.base; rw [HB.out.1, HB.out.2] at h; exact h⟩
     | some ee =>
      rw [hc] at hcl
      have HCL := J hcl
      have HTE : Hid (Bo.chk C.env true xs = .ok s.close.most) := J (by rw [HT.out, HRE.out]; dsimp only; rw [hc, Bo.close_most hc]; rfl)
      generalize ee.length = el at HCL
      clear hc hcl
      go_wp2_with (first | (go_at_call 49; refine HCL.out.mono ?_; rintro e w5 ⟨⟨A9, c9, rfl, hv⟩, G5, h5, n5⟩; have H5 := J h5; obtain ⟨_, _, _, _, _, u5⟩ := h5.cells; have hmo := wk_most h5; have HMO := J hmo; clear h5 n5 hv hmo) | (go_at_call 50; refine HMO.out.mono ?_; rintro e w6 ⟨rfl, rfl⟩))
      go_ret2
      rw [HLB.out, HTE.out]
      exact ⟨rfl, by have h := H5.out.base; rw [HB.out.1, HB.out.2] at h; exact h⟩
theorem env_eq (C : Ctx) : C.env = Bo.envOf C.m C.ps C.rs C.ls := rfl
open _root_.Bo (envOf)
theorem dp (m : M) (P : Nat) (ps rs : List UInt8) (ls : List Lc) (xs : List I) (u1 u2 u3 u4 : Value) (w : World) (hS : aI w P m) (hF : Lots m) (hf : ∀ t ∈ funs m, t < 4294967296)
  (h1 : ab w (· < w.heap.size) ps u1) (h2 : ab w (· < w.heap.size) rs u2) (h3 : ab w (· < w.heap.size) ls u3) (h4 : ab w (· < w.heap.size) xs u4) (l1 : ps.length ≤ 1050000) (l2 : rs.length ≤ 1050000) (l3 : ls.length ≤ 1050000) (K : Nat) (hK1 : ∀ t ∈ m.types, t.results.length ≤ K) (hK2 : rs.length ≤ K) (hK3 : 2 ≤ K) (hK4 : K ≤ 4000) (hK5 : K * (xs.length + 2) ≤ 350000000) (l4 : xs.length ≤ 1050000) (l5 : tot xs ≤ 100000000) :
  Calls Tryz.prog 13 #[.pointer (some ⟨P, 0, none⟩), .agg #[u1, u2], .agg #[u3, u4]] w fun e w' => e = chkE (Bo.chk (envOf m ps rs ls) (Bo.locB ls) xs) ∧ Below w.heap.size w w' := by
 obtain ⟨A2, c2, e2, _⟩ := id h2
 obtain ⟨A3, c3, e3, _⟩ := id h3
 obtain ⟨A4, c4, e4, _⟩ := id h4
 have h := bcheck_any ⟨w, P, m, ps, rs, ls, u1, u2, u3, u4⟩ ⟨hS, hF, hf, h1, h2, h3, l1, l2, l3⟩ xs h4 K hK1 hK2 hK3 hK4 hK5 l4 (fun x hx => by have := tot_mem hx; omega) l5 w u1 A2 A3 A4 rs.length ls.length xs.length c2 c3 c4 rfl rfl e2 e3 e4
 rw [env_eq] at h
 rw [e2, e3, e4]
 exact h
end Go.Proofs.YtelcdmkbaegjoaaGreat
