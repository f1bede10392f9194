/-
  Layer 10's program: Check. (gen/body/check.py)
-/
import Derived.Test.YtmpelmihdpomjaaGreatSo01
import Derived.Test.YtmpelmihdpomjaaGreatSo40
import Derived.Test.YtmpelmihdpomjaaGreatSo02
import Derived.Test.YtmpelmihdpomjaaGreatSo15
import Derived.Test.YtmpelmihdpomjaaGreatSo36
import Derived.Test.YtmpelmihdpomjaaGreatSo37
set_option maxRecDepth 100000
set_option maxHeartbeats 4000000
namespace Go.Proofs.YtmpelmihdpomjaaGreat
open Go.RowKit Ins Bin Sp
def chkE:Except Nat Nat → Ending
 | .error n=>.returned (.tuple #[.int .i64 0,.int .i64 ↑n])
 | .ok h=>.returned (.tuple #[.int .i64 ↑h,.int .i64 0])
theorem wk_most {C:Ctx} {R P:Nat} {w:World} {G:Nat → Prop} {s:Ty.T} {o:List Bool} (h:Wk C R P w G s o) :
  Calls Tryz.prog 92 #[.pointer (some ⟨P,0,none⟩)] w fun e w'=>w' = w ∧ e = .returned (.int .i64 ↑s.most):=by
 obtain ⟨F,vo,h1,h2,_⟩:=h.all
 exact at_most h2
theorem wk_start (C:Ctx) (w1:World) (P:Nat) (F:Nat → Prop) (hb:Below C.B C.w0 w1) (ha:AtF w1 F P (Ty.T.new C.rs)) (hF:∀ k,F k → C.B ≤ k) :
  Wk C w1.heap.size P (w1.alloc (.cells #[.pointer (some ⟨C.sp,0,none⟩),C.v1,C.v2,C.v3,C.v4,.pointer (some ⟨P,0,none⟩),.slice none 0 0] 166)) (fun k=>F k ∨ k = w1.heap.size) (Ty.T.new C.rs) []:=by
 have hb1:Below w1.heap.size w1 (w1.alloc (.cells #[.pointer (some ⟨C.sp,0,none⟩),C.v1,C.v2,C.v3,C.v4,.pointer (some ⟨P,0,none⟩),.slice none 0 0] 166)):=bA
 refine ⟨hb.trans (hb1.mono hb.size),⟨F,_,heap_alloc_new w1 _,ha.on hb1,OwnL.nil _ _ _ _,fun k hk=>⟨.inl hk,fun e=>?_,fun e=>by cases e⟩,fun k hk=>by cases hk⟩,.inr rfl,fun k hk=>?_⟩
 ·have:=ha.2.2 k hk;omega
 ·rcases hk with hk | rfl
  ·exact ⟨hF k hk,Nat.lt_of_lt_of_le (ha.2.2 k hk) hb1.size⟩
  ·exact ⟨hb.size,by simp⟩
theorem Bo.env_k {C:Ctx} {K:Nat} (h1:∀ t ∈ C.m.types,t.results.length ≤ K) (h2:C.rs.length ≤ K) (h3:2 ≤ K):Bo.EnvK C.env K where
 func i t ht:=by
  unfold Ctx.env at ht
  dsimp only at ht
  rw [Option.map_eq_some_iff] at ht
  obtain ⟨f,hf,rfl⟩:=ht
  unfold Sp.func at hf
  rw [Option.bind_eq_some_iff] at hf
  obtain ⟨k,_,hk⟩:=hf
  exact h1 f (List.mem_of_getElem? hk)
 typ i t ht:=by
  unfold Ctx.env at ht
  dsimp only at ht
  rw [Option.map_eq_some_iff] at ht
  obtain ⟨f,hf,rfl⟩:=ht
  exact h1 f (List.mem_of_getElem? hf)
 res:=h2
 two:=h3
theorem bcheck_any (C:Ctx) (hC:C.Good) (xs:List I) (hx:aa C.w0 (· < C.w0.heap.size) xs C.v4) (K:Nat) (hK1:∀ t ∈ C.m.types,t.results.length ≤ K) (hK2:C.rs.length ≤ K) (hK3:2 ≤ K) (hK4:K ≤ 4000) (hK5:K * (xs.length + 2) ≤ 350000000) (hl1:xs.length ≤ 1050000) (hl2:∀ x ∈ xs,x.l.length ≤ 100000000) (hl3:tot xs ≤ 100000000)
  (w:World) (v1:Value) (A2 A3 A4:Option Addr) (n2 n3 n4 c2 c3 c4:Nat) (e0:C.w0 = w) (e1:C.v1 = v1) (e2:C.v2 = .slice A2 n2 c2) (e3:C.v3 = .slice A3 n3 c3) (e4:C.v4 = .slice A4 n4 c4) :
  Calls Tryz.prog 68 #[.pointer (some ⟨C.sp,0,none⟩),.agg #[v1,.slice A2 n2 c2],.agg #[.slice A3 n3 c3,.slice A4 n4 c4]] w fun e w'=>e = chkE (Bo.chk C.env (Bo.locB C.ls) xs) ∧ Below w.heap.size w w':=by
 have hn4:xs.length = n4:=by
  obtain ⟨A,c,e,_⟩:=hx
  rw [e4] at e
  injection e with _ e _
  exact e.symm
 have HAE:Hid (∀ W,Below w.heap.size w W → Calls Tryz.prog 87 #[.slice none 0 0,.slice A4 n4 c4] W (cS [] xs W)):=J (fun W hb=>by
  have hx':=hx
  rw [e0,e4] at hx'
  obtain ⟨A,c,e,_,_,_,hL⟩:=hx'.grow hb
  injection e with q1 q2 q3
  subst q1 q3
  rw [← hn4]
  exact dY none [] 0 A4 xs c4 W (Has.nil _ _ _) hL.ins (fun x hm=>by have:=hl2 x hm;omega) (by simp;omega))
 have HWH:Hid (∀ W,Below w.heap.size w W → Calls Tryz.prog 88 #[.slice A3 n3 c3] W fun e w'=>e = .returned (.bool (Bo.locB C.ls)) ∧ Below W.heap.size W w'):=J (fun W hb=>by
  have h:=hC.ls
  rw [e0,e3] at h
  exact bwhole_any C.ls _ W (h.grow hb) hC.ll)
 have HNW:Hid (∀ W,Below w.heap.size w W → Calls Tryz.prog 89 #[.slice A2 n2 c2] W fun r w'=>∃ P F,r = .returned (.pointer (some ⟨P,0,none⟩)) ∧ AtF w' F P (Ty.T.new C.rs) ∧ (∀ k,F k → W.heap.size ≤ k) ∧ Below W.heap.size W w'):=J (fun W hb=>by
  have h:=hC.rs
  rw [e0,e2] at h
  exact at_new C.rs _ W (h.grow hb) (by have:=hC.lr;omega))
 have HST:Hid (∀ w1 P F,Below w.heap.size w w1 → AtF w1 F P (Ty.T.new C.rs) → (∀ k,F k → w.heap.size ≤ k) → Wk C w1.heap.size P (w1.alloc (.cells #[.pointer (some ⟨C.sp,0,none⟩),v1,.slice A2 n2 c2,.slice A3 n3 c3,.slice A4 n4 c4,.pointer (some ⟨P,0,none⟩),.slice none 0 0] 166)) (fun k=>F k ∨ k = w1.heap.size) (Ty.T.new C.rs) []):=J (fun w1 P F hb ha hF=>by
  have h:=wk_start C w1 P F (by unfold Ctx.B;rw [e0];exact hb) ha (by unfold Ctx.B;rw [e0];exact hF)
  rw [e1,e2,e3,e4] at h
  exact h)
 have HXI:Hid (HasI w (· < w.heap.size) A4 xs):=J (by
  have hx':=hx
  rw [e0,e4] at hx'
  obtain ⟨A,c,e,_,_,_,hL⟩:=hx'
  injection e with q1 q2 q3
  subst q1
  exact hL.ins)
 have HB:Hid (C.B = w.heap.size ∧ C.w0 = w):=J ⟨by unfold Ctx.B;rw [e0],e0⟩
 have HC:=J hC
 have HL2:=J hl2
 have HN4:=J hn4
 have HEK:=J (Bo.env_k hK1 hK2 hK3)
 have HKN:Hid (∀ j,j ≤ n4 → K * (j + 1) + K ≤ 350000000):=J (fun j hj=>by
  have h1:K * (j + 1) + K = K * (j + 2):=rfl
  have h2:K * (j + 2) ≤ K * (xs.length + 2):=Nat.mul_le_mul_left _ (by omega)
  omega)
 have HK3:=J hK3
 clear hK1 hK2 hK3 hK5
 obtain ⟨t0,t1,t2⟩:=two_new w v1 (.slice A2 n2 c2) (.slice A3 n3 c3) (.slice A4 n4 c4) 29 64
 have HX0:=J t0
 have HX1:=J t1
 have HB0:=J t2
 have hn4b:n4 ≤ 1050000:=by omega
 clear hC hx hl1 hl2 hl3 e0 e1 e2 e3 e4 t0 t1 t2 hn4
 generalize C.sp = sp at HST ⊢
 go_enter Tryz.func68,Tryz.ntmps68
 go_upto_region 1 with fail
 generalize (w.alloc (.cells #[v1,.slice A2 n2 c2] 29)).alloc (.cells #[.slice A3 n3 c3,.slice A4 n4 c4] 64) = w0 at HX0 HX1 HB0 ⊢
 obtain ⟨X0,hX0⟩:∃ X0,w.heap.size = X0:=⟨_,rfl⟩
 obtain ⟨X1,hX1⟩:∃ X1,w.heap.size + 1 = X1:=⟨_,rfl⟩
 simp only [hX1] at HX1 ⊢
 simp only [hX0] at HX0 ⊢
 have HXX:Hid (w.heap.size = X0):=J hX0
 clear hX0 hX1
 have HXL:Hid (X0 < w0.heap.size ∧ X1 < w0.heap.size):=J ⟨(gL HX0.out),(gL HX1.out)⟩
 have HCC:=J (fun W (hb:Below w0.heap.size w0 W)=>And.intro (ae ((hb.block X0 HXL.out.1).trans HX0.out)) (ae ((hb.block X1 HXL.out.2).trans HX1.out)))
 obtain ⟨⟨y0,y1⟩,y2,y3⟩:=HCC.out w0 (Below.refl _ _)
 cases hex:exprB xs with
 | false =>
  have HT:Hid (Bo.chk C.env (Bo.locB C.ls) xs = .error 2):=J (by unfold Bo.chk;rw [hex];rfl)
  have HEX:=J hex
  clear hex
  go_wp2_with (go_at_call 87;refine (HAE.out _ HB0.out).mono ?_;rintro e w1 he;unfold cS at he;rw [HEX.out] at he;obtain ⟨rfl,hb⟩:e = .returned (.tuple #[.slice none 0 0,.int .i64 2]) ∧ Below w0.heap.size w0 w1:=he;have HB1:=J (HB0.out.trans (hb.mono HB0.out.size));clear hb)
  go_ret2
  rw [HT.out]
  exact ⟨rfl,HB1.out⟩
 | true =>
  have HEX:=J hex
  have HMS:=J (Bo.exprB_parts hex)
  go_upto_region 6 with (go_at_call 87;refine (HAE.out _ HB0.out).mono ?_;rintro e w1 he;unfold cS at he;rw [HEX.out,if_pos rfl] at he;obtain ⟨va,rfl,_,hb⟩:=he;have HB1:=J (HB0.out.trans (hb.mono HB0.out.size));have HW1:=J hb;clear hb)
  clear hex y0 y1 y2 y3
  obtain ⟨⟨y0,y1⟩,y2,y3⟩:=HCC.out w1 HW1.out
  cases hlb:Bo.locB C.ls with
  | false =>
   have HT:Hid (Bo.chk C.env false xs = .error 100):=J (by unfold Bo.chk;rw [HEX.out];rfl)
   rw [hlb] at HWH
   go_wp2_with (go_at_call 88;refine (HWH.out _ HB1.out).mono ?_;rintro e w2 ⟨rfl,hb⟩;have HB2:=J (HB1.out.trans (hb.mono HB1.out.size));clear hb)
   go_ret2
   rw [hlb,HT.out]
   exact ⟨rfl,HB2.out⟩
  | true =>
   have HT:Hid (Bo.chk C.env true xs = match Bo.run C.env [] xs (Ty.T.new C.rs) with
    | .error e=>.error e
    | .ok s=>if s.closeA.isSome = true then .ok s.most else .error 100):=J (by unfold Bo.chk;rw [HEX.out];rfl)
   rw [hlb] at HWH
   have HLB:=J hlb
   clear hlb
   go_upto_region 8 with (go_at_call 88;refine (HWH.out _ HB1.out).mono ?_;rintro e w2 ⟨rfl,hb⟩;have HB2:=J (HB1.out.trans (hb.mono HB1.out.size));have HW2:=J (HW1.out.trans (hb.mono HW1.out.size));clear hb)
   clear y0 y1 y2 y3
   have HC8:=J (fun W (hb:Below w2.heap.size w2 W)=>HCC.out W (HW2.out.trans (hb.mono HW2.out.size)))
   refine wp_region_held_drew (S:=fun W'=>Below w2.heap.size w2 W') (by kernel_rfl) (Below.drew (Below.refl _ _)) (fun hHeld=>?_)
   refine dV 0 rfl (by intro wy hSw;obtain ⟨⟨z0,z1⟩,z2,z3⟩:=HC8.out wy hSw;go_simp;try with_reducible rfl) ?_
   refine dV 1 rfl (by intro wy hSw;obtain ⟨⟨z0,z1⟩,z2,z3⟩:=HC8.out wy hSw;go_simp;try with_reducible rfl) ?_
   refine dV 2 rfl (by intro wy hSw;obtain ⟨⟨z0,z1⟩,z2,z3⟩:=HC8.out wy hSw;go_simp;try with_reducible rfl) ?_
   refine dV 3 rfl (by intro wy hSw;obtain ⟨⟨z0,z1⟩,z2,z3⟩:=HC8.out wy hSw;go_simp;try with_reducible rfl) ?_
   refine dV 4 rfl (by intro wy hSw;obtain ⟨⟨z0,z1⟩,z2,z3⟩:=HC8.out wy hSw;go_simp;try with_reducible rfl) ?_
   refine dA 5 rfl fun K hK=>?_
   go_simp
   have hz:=hHeld.size
   refine (HNW.out _ (HB2.out.trans (hHeld.mono HB2.out.size))).mono ?_
   rintro e w3 ⟨P,F,rfl,ha,hF,hb⟩
   have hH:Below w2.heap.size w2 w3:=hHeld.trans (hb.mono hz)
   have HB3:=J (HB2.out.trans (hH.mono HB2.out.size))
   have hk:=HST.out w3 P F HB3.out ha (fun k hk=>Nat.le_trans (Nat.le_trans HB2.out.size hz) (hF k hk))
   have HK:=J hk
   clear ha hF hb hz hk
   go_wp2_with fail
   refine hK.out _ _ (hH) fun hHeld=>?_
   clear hK K
   refine dW 6 rfl ?_
   have HW3:Hid (Below w2.heap.size w2 (w3.alloc (.cells #[.pointer (some ⟨sp,0,none⟩),v1,.slice A2 n2 c2,.slice A3 n3 c3,.slice A4 n4 c4,.pointer (some ⟨P,0,none⟩),.slice none 0 0] 166))):=J (hHeld.alloc hHeld.size _)
   refine dA 7 rfl fun K hK=>?_
   go_simp
   refine hK.out _ _ HW3.out fun hHeld=>?_
   clear hK K
   refine dW 8 rfl ?_
   refine dN ?_
   have HWK:Hid (Below w0.heap.size w0 (w3.alloc (.cells #[.pointer (some ⟨sp,0,none⟩),v1,.slice A2 n2 c2,.slice A3 n3 c3,.slice A4 n4 c4,.pointer (some ⟨P,0,none⟩),.slice none 0 0] 166))):=J (HW2.out.trans (HW3.out.mono HW2.out.size))
   generalize w3.alloc (.cells #[.pointer (some ⟨sp,0,none⟩),v1,.slice A2 n2 c2,.slice A3 n3 c3,.slice A4 n4 c4,.pointer (some ⟨P,0,none⟩),.slice none 0 0] 166) = wk at HWK HK ⊢
   clear HW3 HNW HST hHeld
   obtain ⟨R,hR⟩:∃ R,w3.heap.size = R:=⟨_,rfl⟩
   simp only [hR] at HK ⊢
   clear hR
   obtain ⟨⟨y0,y1⟩,y2,y3⟩:=HCC.out wk HWK.out
   go_wp2_with fail
   clear y0 y1 y2 y3
   go_loopw [41] (fun iv wr=>∃ (j:Nat) (s:Ty.T) (ob:List Bool) (G:Nat → Prop),j ≤ n4 ∧ iv = .int .i64 ↑j ∧ Hid (Wk C R P wr G s ob) ∧ Hid (Bo.Sz K (K * (j + 1)) s) ∧ Hid (Bo.run C.env [] xs (Ty.T.new C.rs) = Bo.run C.env ob (xs.drop j) s) ∧ Hid (Ins.steps [] (xs.take j) = some ob) ∧ ob.length ≤ j) (fun iv _=>n4 - (intOf iv).toNat)
   case atStart=>exact ⟨0,_,[],_,by omega,rfl,HK,J (Bo.sz_new HEK.out.res HK3.out),J (by rw [List.drop_zero]),J rfl,by simp⟩
   case round =>
    obtain ⟨j,s,ob,G,hj,rfl,HW,HSZ,HRUN,HSTP,hob⟩:=hrel
    by_cases hjn:j < n4
    ·obtain ⟨x,hx⟩:∃ x,xs[j]? = some x:=⟨_,List.getElem?_eq_getElem (by have:=HN4.out;omega)⟩
     obtain ⟨g,oo,A5,c5,rfl,hg,hwf,_,_,hU,hcells⟩:=HXI.out j x hx
     have hxl:=HL2.out x (List.mem_of_getElem? hx)
     have HRA:=J (HRUN.out.trans (Bo.run_at hx))
     have HSN:=J (fun (h:Ins.step ob x.op = none)=>Ins.exprB_step HSTP.out hx h)
     have HSS:=J (fun (o':List Bool) (h:Ins.step ob x.op = some o')=>Ins.steps_next HSTP.out hx h)
     have hji:(j:Int) < (n4:Int):=by omega
     have HWB:Hid (Below w.heap.size w _):=J (by have h:=HW.out.base;rw [HB.out.1,HB.out.2] at h;exact h)
     clear hx
     obtain ⟨op,xa,xb,xc,xl⟩:=x
     obtain ⟨hw1,hw2,hw3,hw4,hw5,hw6⟩:=hwf
     dsimp only at hxl hw1 hw2 hw3 hw4 hw5 hw6 hU
     have k0:World.cell? _ ⟨g,oo + j * 5,none⟩ = some (.int .u8 ↑op):=(HWB.out.cell (p:=⟨g,oo + j * 5,none⟩) hg).trans (hcells 0 _ rfl)
     have k1:World.cell? _ ⟨g,oo + j * 5 + 1,none⟩ = some (.int .u32 ↑xa):=(HWB.out.cell (p:=⟨g,oo + j * 5 + 1,none⟩) hg).trans (hcells 1 _ rfl)
     have k2:World.cell? _ ⟨g,oo + j * 5 + 2,none⟩ = some (.int .u32 ↑xb):=(HWB.out.cell (p:=⟨g,oo + j * 5 + 2,none⟩) hg).trans (hcells 2 _ rfl)
     have k3:World.cell? _ ⟨g,oo + j * 5 + 3,none⟩ = some (.int .i64 xc):=(HWB.out.cell (p:=⟨g,oo + j * 5 + 3,none⟩) hg).trans (hcells 3 _ rfl)
     have k4:World.cell? _ ⟨g,oo + j * 5 + 4,none⟩ = some (.slice A5 xl.length c5):=(HWB.out.cell (p:=⟨g,oo + j * 5 + 4,none⟩) hg).trans (hcells 4 _ rfl)
     obtain ⟨o',ho'⟩:∃ o',Ins.step ob op = some o':=by
      cases h:Ins.step ob op with
      | none =>
       have h1:=HSN.out h
       rw [HEX.out] at h1
       cases h1
      | some o'=>exact ⟨o',rfl⟩
     have HSP:=J (HSS.out o' ho')
     have HOL:=J (Bo.step_length' ho')
     obtain ⟨k,hd1,hd2,hd3⟩:=disp_any op
     have HASK:=J hd2
     have HU5:Hid (HasU C.w0 (· < C.w0.heap.size) A5 xl):=J (by rw [HB.out.2];exact hU)
     have HME:=J (fun W G1 (hW:Wk C R P W G1 s ob)=>hd3 C R P _ W G1 s ob o' xa xb xc A5 c5 xl HC.out hW (Bo.sz_sm HSZ.out) (by have:=HKN.out j hj;omega) (fun k l hl=>by have:=Bo.sz_label HSZ.out hl;omega) (by omega) hw2 hw6 HU5.out (by omega) ho')
     have HCF:=J hd1
     clear hcells hU hd1 hd2 hd3 hw2 hw3 hw4 hw5 hw6 HSN HSS hxl
     have HRA:Hid (Bo.run C.env [] xs (Ty.T.new C.rs) = match Bo.one C.env (Bo.isIf ob) ⟨op,xa,xb,xc,xl⟩ s with
      | .error e=>.error e
      | .ok s'=>Bo.run C.env o' (xs.drop (j + 1)) s'):=J (by
       rw [HRA.out]
       cases Bo.one C.env (Bo.isIf ob) ⟨op,xa,xb,xc,xl⟩ s with
       | error e=>rfl
       | ok s'=>simp only [ho'])
     have HSO:=J (fun s' (h:Bo.one C.env (Bo.isIf ob) ⟨op,xa,xb,xc,xl⟩ s = .ok s')=>Bo.sz_one HEK.out HSZ.out h)
     have HEO:=J (fun m (h:Bo.one C.env (Bo.isIf ob) ⟨op,xa,xb,xc,xl⟩ s = .error m)=>Bo.e_one h)
     generalize Bo.one C.env (Bo.isIf ob) ⟨op,xa,xb,xc,xl⟩ s = r at HRA HME HSO HEO
     generalize xl.length = xll at HME k4
     clear ho' hw1
     go_upto_region 12 with fail
     clear k0 k1 k2 k3 k4
     have HXB:Hid (Below wr.heap.size wr (wr.alloc (.cells #[.int .u8 ↑op,.int .u32 ↑xa,.int .u32 ↑xb,.int .i64 xc,.slice A5 xll c5] 56))):=J bA
     have HXH:=J (heap_alloc_new wr (.cells #[.int .u8 ↑op,.int .u32 ↑xa,.int .u32 ↑xb,.int .i64 xc,.slice A5 xll c5] 56))
     have HWX:=J (HW.out.on (HXB.out.drew))
     generalize wr.alloc (.cells #[.int .u8 ↑op,.int .u32 ↑xa,.int .u32 ↑xb,.int .i64 xc,.slice A5 xll c5] 56) = wx at HXB HXH HWX ⊢
     obtain ⟨X,hX⟩:∃ X,wr.heap.size = X:=⟨_,rfl⟩
     simp only [hX] at HXH ⊢
     clear hX
     have HCX:Hid (wx.drew.cell? ⟨X,0,none⟩ = some (.int .u8 ↑op) ∧ wx.drew.cell? ⟨X,1,none⟩ = some (.int .u32 ↑xa) ∧ wx.drew.cell? ⟨X,2,none⟩ = some (.int .u32 ↑xb) ∧ wx.drew.cell? ⟨X,3,none⟩ = some (.int .i64 xc) ∧ wx.drew.cell? ⟨X,4,none⟩ = some (.slice A5 xll c5)):=J (cells5 (w:=wx.drew) HXH.out)
     cases r with
     | error m =>
      have hm:=HEO.out m rfl
      have HTE:Hid (Bo.chk C.env true xs = .error m):=J (by rw [HT.out,HRA.out])
      have hmi:((m:Int) == 0) = false:=by rw [beq_eq_false_iff_ne];rcases hm with rfl | rfl | rfl <;> decide
      have hmj:((m:Int) != 0) = true:=by rw [bne,hmi];rfl
      have hmk:¬ ((m:Int) = 0):=by rcases hm with rfl | rfl | rfl <;> decide
      clear hm
      refine wp_region_held_drew (S:=fun _=>True) (by kernel_rfl) (trivial) (fun hHeld=>?_)
      refine dW 0 rfl ?_
      refine dW 1 rfl ?_
      refine ai 2 4 rfl rfl (by kernel_rfl) (fun K hK=>?_) (fun K hK=>?_)
      ·obtain ⟨d0,d1,d2,d3,d4⟩:=HCX.out
       try (rw [if_pos];case hc=>rfl)
       go_simp
       clear d0 d1 d2 d3 d4
       refine hK.out _ _ trivial fun hHeld=>?_
       clear hK K
       refine ai 3 4 rfl rfl (by kernel_rfl) (fun K hK=>?_) (fun K hK=>?_)
       ·try (rw [if_pos];case hc=>rfl)
        go_simp
        refine (HASK.out R _).mono ?_
        rintro e w9 ⟨rfl,rfl⟩
        go_wp2_with fail
        refine hK.out _ _ trivial fun hHeld=>?_
        clear hK K
        refine ac 4 rfl (by kernel_rfl) (fun K hK=>?_)
        obtain ⟨d0,d1,d2,d3,d4⟩:=HCX.out
        try (rw [if_pos];case hc=>rfl)
        go_simp
        clear d0 d1 d2 d3 d4
        refine hK.out _ _ trivial fun hHeld=>?_
        clear hK K
        refine dA 5 rfl fun K hK=>?_
        have hcf:=HCF.out
        go_simp
        clear hcf
        refine (HME.out _ _ HWX.out).mono ?_
        rintro e w5 ⟨rfl,hb⟩
        have HB5:=J hb
        clear hb
        go_wp2_with fail
        refine hK.out _ _ trivial fun hHeld=>?_
        clear hK K
        refine dW 6 rfl ?_
        refine dN ?_
        go_wp2_with fail
        go_ret2
        rw [HLB.out,HTE.out]
        exact ⟨rfl,by have h:=HB5.out;rw [HB.out.1,HB.out.2] at h;exact h⟩
       ·obtain ⟨d0,d1,d2,d3,d4⟩:=HCX.out
        try (rw [if_pos];case hc=>rfl)
        go_simp
        clear d0 d1 d2 d3 d4
        refine hK.out _ _ trivial fun hHeld=>?_
        clear hK K
        refine dA 3 rfl fun K hK=>?_
        go_simp
        refine (HASK.out R _).mono ?_
        rintro e w9 ⟨rfl,rfl⟩
        go_wp2_with fail
        refine hK.out _ _ trivial fun hHeld=>?_
        clear hK K
        refine dA 5 rfl fun K hK=>?_
        have hcf:=HCF.out
        go_simp
        clear hcf
        refine (HME.out _ _ HWX.out).mono ?_
        rintro e w5 ⟨rfl,hb⟩
        have HB5:=J hb
        clear hb
        go_wp2_with fail
        refine hK.out _ _ trivial fun hHeld=>?_
        clear hK K
        refine dW 6 rfl ?_
        refine dN ?_
        go_wp2_with fail
        go_ret2
        rw [HLB.out,HTE.out]
        exact ⟨rfl,by have h:=HB5.out;rw [HB.out.1,HB.out.2] at h;exact h⟩
      ·obtain ⟨d0,d1,d2,d3,d4⟩:=HCX.out
       try (rw [if_pos];case hc=>rfl)
       go_simp
       clear d0 d1 d2 d3 d4
       refine hK.out _ _ trivial fun hHeld=>?_
       clear hK K
       refine ac 2 rfl (by kernel_rfl) (fun K hK=>?_)
       obtain ⟨d0,d1,d2,d3,d4⟩:=HCX.out
       try (rw [if_pos];case hc=>rfl)
       go_simp
       clear d0 d1 d2 d3 d4
       refine hK.out _ _ trivial fun hHeld=>?_
       clear hK K
       refine dA 3 rfl fun K hK=>?_
       go_simp
       refine (HASK.out R _).mono ?_
       rintro e w9 ⟨rfl,rfl⟩
       go_wp2_with fail
       refine hK.out _ _ trivial fun hHeld=>?_
       clear hK K
       refine dA 5 rfl fun K hK=>?_
       have hcf:=HCF.out
       go_simp
       clear hcf
       refine (HME.out _ _ HWX.out).mono ?_
       rintro e w5 ⟨rfl,hb⟩
       have HB5:=J hb
       clear hb
       go_wp2_with fail
       refine hK.out _ _ trivial fun hHeld=>?_
       clear hK K
       refine dW 6 rfl ?_
       refine dN ?_
       go_wp2_with fail
       go_ret2
       rw [HLB.out,HTE.out]
       exact ⟨rfl,by have h:=HB5.out;rw [HB.out.1,HB.out.2] at h;exact h⟩
     | ok s' =>
      have HSO2:=J (HSO.out s' rfl)
      have HRN:Hid (Bo.run C.env [] xs (Ty.T.new C.rs) = Bo.run C.env o' (xs.drop (j + 1)) s'):=HRA
      refine wp_region_held_drew (S:=fun _=>True) (by kernel_rfl) (trivial) (fun hHeld=>?_)
      refine dW 0 rfl ?_
      refine dW 1 rfl ?_
      refine ai 2 4 rfl rfl (by kernel_rfl) (fun K hK=>?_) (fun K hK=>?_)
      ·obtain ⟨d0,d1,d2,d3,d4⟩:=HCX.out
       try (rw [if_pos];case hc=>rfl)
       go_simp
       clear d0 d1 d2 d3 d4
       refine hK.out _ _ trivial fun hHeld=>?_
       clear hK K
       refine ai 3 4 rfl rfl (by kernel_rfl) (fun K hK=>?_) (fun K hK=>?_)
       ·try (rw [if_pos];case hc=>rfl)
        go_simp
        refine (HASK.out R _).mono ?_
        rintro e w9 ⟨rfl,rfl⟩
        go_wp2_with fail
        refine hK.out _ _ trivial fun hHeld=>?_
        clear hK K
        refine ac 4 rfl (by kernel_rfl) (fun K hK=>?_)
        obtain ⟨d0,d1,d2,d3,d4⟩:=HCX.out
        try (rw [if_pos];case hc=>rfl)
        go_simp
        clear d0 d1 d2 d3 d4
        refine hK.out _ _ trivial fun hHeld=>?_
        clear hK K
        refine dA 5 rfl fun K hK=>?_
        have hcf:=HCF.out
        go_simp
        clear hcf
        refine (HME.out _ _ HWX.out).mono ?_
        rintro e w5 ⟨rfl,G5,h5,n5⟩
        have H5:=J h5
        clear h5 n5
        go_wp2_with fail
        refine hK.out _ _ trivial fun hHeld=>?_
        clear hK K
        refine dW 6 rfl ?_
        refine dN ?_
        go_wp2_with fail
        go_roundw
        case rel=>exact ⟨j + 1,s',o',G5,by omega,by go_num,H5,J (Bo.sz_up HSO2.out (Nat.le_of_eq (Nat.mul_succ _ _).symm)),HRN,HSP,by have:=HOL.out;omega⟩
        case measure=>simp [intOf];omega
       ·obtain ⟨d0,d1,d2,d3,d4⟩:=HCX.out
        try (rw [if_pos];case hc=>rfl)
        go_simp
        clear d0 d1 d2 d3 d4
        refine hK.out _ _ trivial fun hHeld=>?_
        clear hK K
        refine dA 3 rfl fun K hK=>?_
        go_simp
        refine (HASK.out R _).mono ?_
        rintro e w9 ⟨rfl,rfl⟩
        go_wp2_with fail
        refine hK.out _ _ trivial fun hHeld=>?_
        clear hK K
        refine dA 5 rfl fun K hK=>?_
        have hcf:=HCF.out
        go_simp
        clear hcf
        refine (HME.out _ _ HWX.out).mono ?_
        rintro e w5 ⟨rfl,G5,h5,n5⟩
        have H5:=J h5
        clear h5 n5
        go_wp2_with fail
        refine hK.out _ _ trivial fun hHeld=>?_
        clear hK K
        refine dW 6 rfl ?_
        refine dN ?_
        go_wp2_with fail
        go_roundw
        case rel=>exact ⟨j + 1,s',o',G5,by omega,by go_num,H5,J (Bo.sz_up HSO2.out (Nat.le_of_eq (Nat.mul_succ _ _).symm)),HRN,HSP,by have:=HOL.out;omega⟩
        case measure=>simp [intOf];omega
      ·obtain ⟨d0,d1,d2,d3,d4⟩:=HCX.out
       try (rw [if_pos];case hc=>rfl)
       go_simp
       clear d0 d1 d2 d3 d4
       refine hK.out _ _ trivial fun hHeld=>?_
       clear hK K
       refine ac 2 rfl (by kernel_rfl) (fun K hK=>?_)
       obtain ⟨d0,d1,d2,d3,d4⟩:=HCX.out
       try (rw [if_pos];case hc=>rfl)
       go_simp
       clear d0 d1 d2 d3 d4
       refine hK.out _ _ trivial fun hHeld=>?_
       clear hK K
       refine dA 3 rfl fun K hK=>?_
       go_simp
       refine (HASK.out R _).mono ?_
       rintro e w9 ⟨rfl,rfl⟩
       go_wp2_with fail
       refine hK.out _ _ trivial fun hHeld=>?_
       clear hK K
       refine dA 5 rfl fun K hK=>?_
       have hcf:=HCF.out
       go_simp
       clear hcf
       refine (HME.out _ _ HWX.out).mono ?_
       rintro e w5 ⟨rfl,G5,h5,n5⟩
       have H5:=J h5
       clear h5 n5
       go_wp2_with fail
       refine hK.out _ _ trivial fun hHeld=>?_
       clear hK K
       refine dW 6 rfl ?_
       refine dN ?_
       go_wp2_with fail
       go_roundw
       case rel=>exact ⟨j + 1,s',o',G5,by omega,by go_num,H5,J (Bo.sz_up HSO2.out (Nat.le_of_eq (Nat.mul_succ _ _).symm)),HRN,HSP,by have:=HOL.out;omega⟩
       case measure=>simp [intOf];omega
    ·obtain rfl:j = n4:=by omega
     have hji:decide ((j:Int) < (j:Int)) = false:=decide_eq_false (by omega)
     have hjn2:decide (j < j) = false:=decide_eq_false hjn
     have hdr:xs.drop j = []:=List.drop_eq_nil_of_le (by have:=HN4.out;omega)
     have HRE:Hid (Bo.run C.env [] xs (Ty.T.new C.rs) = .ok s):=J (by rw [HRUN.out,hdr,Bo.run])
     clear hdr hjn
     obtain ⟨_,_,_,_,_,q5⟩:=HW.out.cells
     have hcl:=ey HW.out (Bo.sz_sm HSZ.out) (by have:=HKN.out j (Nat.le_refl _);omega)
     cases hc:s.closeA with
     | none =>
      rw [hc] at hcl
      have HCL:=J hcl
      have HTE:Hid (Bo.chk C.env true xs = .error 100):=J (by rw [HT.out,HRE.out];dsimp only;rw [hc];rfl)
      clear hc hcl
      go_wp2_with (go_at_call 91;refine HCL.out.mono ?_;rintro e w5 ⟨he,G5,h5,n5⟩;obtain rfl:e = .returned (.tuple #[.slice none 0 0,.bool false]):=he;have H5:=J h5;clear h5 n5)
      go_ret2
      rw [HLB.out,HTE.out]
      exact ⟨rfl,by have h:=H5.out.base;rw [HB.out.1,HB.out.2] at h;exact h⟩
     | some ee =>
      rw [hc] at hcl
      have HCL:=J hcl
      have HTE:Hid (Bo.chk C.env true xs = .ok s.close.most):=J (by rw [HT.out,HRE.out];dsimp only;rw [hc,Bo.close_most hc];rfl)
      generalize ee.length = el at HCL
      clear hc hcl
      go_wp2_with (first | (go_at_call 91;refine HCL.out.mono ?_;rintro e w5 ⟨⟨A9,c9,rfl,hv⟩,G5,h5,n5⟩;have H5:=J h5;obtain ⟨_,_,_,_,_,u5⟩:=h5.cells;have hmo:=wk_most h5;have HMO:=J hmo;clear h5 n5 hv hmo) | (go_at_call 92;refine HMO.out.mono ?_;rintro e w6 ⟨rfl,rfl⟩))
      go_ret2
      rw [HLB.out,HTE.out]
      exact ⟨rfl,by have h:=H5.out.base;rw [HB.out.1,HB.out.2] at h;exact h⟩
theorem env_eq (C:Ctx):C.env = Bo.envOf C.m C.ps C.rs C.ls:=rfl
open _root_.Bo (envOf)
theorem check_lots (m:M) (P:Nat) (ps rs:List UInt8) (ls:List Lc) (xs:List I) (u1 u2 u3 u4:Value) (w:World) (hS:aC w P m) (hF:Lots m) (hf:∀ t ∈ funs m,t < 4294967296)
  (h1:aa w (· < w.heap.size) ps u1) (h2:aa w (· < w.heap.size) rs u2) (h3:aa w (· < w.heap.size) ls u3) (h4:aa w (· < w.heap.size) xs u4) (l1:ps.length ≤ 1050000) (l2:rs.length ≤ 1050000) (l3:ls.length ≤ 1050000) (K:Nat) (hK1:∀ t ∈ m.types,t.results.length ≤ K) (hK2:rs.length ≤ K) (hK3:2 ≤ K) (hK4:K ≤ 4000) (hK5:K * (xs.length + 2) ≤ 350000000) (l4:xs.length ≤ 1050000) (l5:tot xs ≤ 100000000) :
  Calls Tryz.prog 68 #[.pointer (some ⟨P,0,none⟩),.agg #[u1,u2],.agg #[u3,u4]] w fun e w'=>e = chkE (Bo.chk (envOf m ps rs ls) (Bo.locB ls) xs) ∧ Below w.heap.size w w':=by
 obtain ⟨A2,c2,e2,_⟩:=id h2
 obtain ⟨A3,c3,e3,_⟩:=id h3
 obtain ⟨A4,c4,e4,_⟩:=id h4
 have h:=bcheck_any ⟨w,P,m,ps,rs,ls,u1,u2,u3,u4⟩ ⟨hS,hF,hf,h1,h2,h3,l1,l2,l3⟩ xs h4 K hK1 hK2 hK3 hK4 hK5 l4 (fun x hx=>by have:=fH hx;omega) l5 w u1 A2 A3 A4 rs.length ls.length xs.length c2 c3 c4 rfl rfl e2 e3 e4
 rw [env_eq] at h
 rw [e2,e3,e4]
 exact h
end Go.Proofs.YtmpelmihdpomjaaGreat
namespace Va
open Bin Sp Ins
def expA (m:M) (ns:List (List UInt8)) (x:Exp):Nat:=if x.index < count m x.kind.toNat then (if x.name ∈ ns then 111 else 0) else 80
theorem eN {m:M} (A:Nat → Nat):∀ (xs:List Exp) (seen:List (List UInt8)) (j:Nat),(∀ i x,xs[i]? = some x → A (j + i) = expA m (seen ++ (xs.take i).map (·.name)) x) → upTo A j xs.length = expE m seen xs
 | [],_,_,_=>rfl
 | x :: xs,seen,j,h=>by
  have h0:=h 0 x rfl
  simp only [List.take_zero,List.map_nil,List.append_nil,Nat.add_zero] at h0
  rw [List.length_cons,upTo,expE,h0]
  have ih:=eN (m:=m) A xs (seen ++ [x.name]) (j + 1) (fun i y hy=>by
   have:=h (i + 1) y hy
   rw [show j + 1 + i = j + (i + 1) from by omega,this]
   simp [List.take_succ_cons])
  unfold expA
  split
  ·split
   ·rfl
   ·rw [orE_at rfl,ih]
  ·rfl
def numR:Except Nat Nat → Nat
 | .error e=>e
 | .ok _=>0
def valR:Except Nat Nat → Nat
 | .error _=>0
 | .ok h=>h
theorem startE_none {m:M} (hs:m.hasStart = true) (h:func m m.start = none):startE m = 113:=by
 unfold startE;rw [if_pos hs,h]
theorem startE_some {m:M} {t:FT} (hs:m.hasStart = true) (h:func m m.start = some t):startE m = okE (decide (t = ⟨[],[]⟩)) 113:=by
 unfold startE;rw [if_pos hs,h]
 obtain ⟨p,r⟩:=t
 cases p <;> cases r <;> simp
theorem startE_no {m:M} (hs:m.hasStart = false):startE m = 0:=by
 unfold startE;rw [if_neg (by rw [hs];decide)]
end Va
namespace Go.Proofs.YtmpelmihdpomjaaGreat
open Go.RowKit Ins Bin Sp
section
variable {w:World} {P sp mp:Nat} {m:M} {v1 v2 v3 v4 v5 v6 v7 v8 v9 v10 hv:Value}
theorem vstart_any (h:VIn w P sp mp m v1 v2 v3 v4 v5 v6 v7 v8 v9 v10 hv) (i:Nat) :
  Calls Tryz.prog 34 #[.pointer (some ⟨P,0,none⟩),.int .i64 ↑i] w fun e w'=>e = .returned (.int .i64 ((Va.startE m:Nat):Int)) ∧ Below w.heap.size w w':=by
 have x7:=cell15 h.cells 7 _ rfl
 cases hst:m.hasStart with
 | false =>
  have HT:=J (Va.startE_no hst)
  rw [hst] at x7
  clear hst h
  go_enter Tryz.func34,Tryz.ntmps34
  go_wp2_with fail
  go_ret
  rw [HT.out]
  exact ⟨rfl,Below.refl _ _⟩
 | true =>
  rw [hst] at x7
  have HCC:Hid (∀ W,Below w.heap.size w W → W.cell? ⟨P,12,none⟩ = some (.pointer (some ⟨sp,0,none⟩)) ∧ W.cell? ⟨P,8,none⟩ = some (.int .u32 ↑m.start)):=J (fun W hb=>⟨cell15 (h.grow hb).cells 12 _ rfl,cell15 (h.grow hb).cells 8 _ rfl⟩)
  have HFN:=J (fun W (hb:Below w.heap.size w W)=>cX (some ⟨sp,0,none⟩) m m.start W (h.grow hb).recv (Lots.some h.fit.lots) h.rep.start (dq h.rep))
  cases hx:func m m.start with
  | none =>
   have HT:=J (Va.startE_none hst hx)
   rw [hx] at HFN
   clear hst hx h
   generalize m.start = st at *
   obtain ⟨w0,hw0⟩:∃ w0,w0 = w:=⟨_,rfl⟩
   subst hw0
   go_enter Tryz.func34,Tryz.ntmps34
   go_upto_region 3 with fail
   refine wp_region_held_drew (S:=fun W'=>Below w0.heap.size w0 W') (by kernel_rfl) (Below.drew (Below.refl _ _)) (fun hHeld=>?_)
   refine dk1 0 rfl ?_
   refine dk1 1 rfl ?_
   refine dk1 2 rfl ?_
   refine dk1 3 rfl ?_
   refine dk1 4 rfl ?_
   refine dk1 5 rfl ?_
   refine dk1 6 rfl ?_
   refine dk1 7 rfl ?_
   refine dk1 8 rfl ?_
   refine ai 9 13 rfl rfl (by kernel_rfl) (fun K hK=>?_) (fun K hK=>?_)
   ·try (rw [if_pos];case hc=>rfl)
    go_simp
    refine (HFN.out _ hHeld).mono ?_
    rintro e w1 he
    obtain ⟨A1,c1,A2,c2,rfl,hb⟩:=he.no
    have hH:Below w0.heap.size w0 w1:=hHeld.trans (hb.mono hHeld.size)
    have hz1:w0.heap.size ≤ w1.heap.size:=hH.size
    go_wp2_with fail
    refine hK.out _ _ hH fun hHeld=>?_
    clear hK K
    refine dW 10 rfl ?_
    refine dW 11 rfl ?_
    refine dW 12 rfl ?_
    have HB1:Hid (Below w0.heap.size w0 (w1.alloc (.cells #[.slice none 0 0,.slice none 0 0] 29))):=J (hHeld.alloc hHeld.size _)
    have HZ1:=J (heap_alloc_new w1 (.cells #[.slice none 0 0,.slice none 0 0] 29))
    have HY1:Hid (w0.heap.size ≤ w1.heap.size):=J hz1
    refine dA 13 rfl fun K hK=>?_
    go_simp
    refine hK.out _ _ HB1.out fun hHeld=>?_
    clear hK K
    refine dA 14 rfl fun K hK=>?_
    refine wp_store_row 29 (.tmp 5) (.tmp 24) rfl w1.heap.size #[.slice A1 0 c1,.slice A2 0 c2] rfl rfl 29 #[.slice none 0 0,.slice none 0 0] HZ1.out ak rfl (by simp [Value.oneCell']) ?_
    refine hK.out _ _ (ab HB1.out HY1.out _) fun hHeld=>?_
    clear hK K
    refine dW 15 rfl ?_
    refine dN ?_
    have HBF:Hid (Below w0.heap.size w0 ((w1.alloc (.cells #[.slice none 0 0,.slice none 0 0] 29)).setRow w1.heap.size #[.slice A1 0 c1,.slice A2 0 c2])):=J hHeld
    have HYH:Hid (((w1.alloc (.cells #[.slice none 0 0,.slice none 0 0] 29)).setRow w1.heap.size #[.slice A1 0 c1,.slice A2 0 c2]).heap[w1.heap.size]? = some (.cells #[.slice A1 0 c1,.slice A2 0 c2] 29 (0,0))):=J (setRow_heap _ _ #[.slice none 0 0,.slice none 0 0] #[.slice A1 0 c1,.slice A2 0 c2] _ _ HZ1.out)
    generalize (w1.alloc (.cells #[.slice none 0 0,.slice none 0 0] 29)).setRow w1.heap.size #[.slice A1 0 c1,.slice A2 0 c2] = wf at HBF HYH ⊢
    generalize w1.heap.size = Y at HYH ⊢
    obtain ⟨y0,y1⟩:=ae HYH.out
    go_wp2_with (go_at_call 56;refine (al false 113 113 _ rfl).mono ?_;rintro e w2 ⟨rfl,rfl⟩)
    go_ret
    rw [HT.out]
    exact ⟨rfl,HBF.out⟩
   ·try (rw [if_pos];case hc=>rfl)
    go_simp
    have hB0:Below w0.heap.size w0 (w0.drew.alloc (.cells #[.slice none 0 0,.slice none 0 0] 29)):=hHeld.alloc hHeld.size _
    have hZ0:=heap_alloc_new w0.drew (.cells #[.slice none 0 0,.slice none 0 0] 29)
    have hl0:w0.heap.size < (w0.drew.alloc (.cells #[.slice none 0 0,.slice none 0 0] 29)).heap.size:=by simp
    refine hK.out _ _ hB0 fun hHeld=>?_
    clear hK K
    refine dA 9 rfl fun K hK=>?_
    go_simp
    refine (HFN.out _ hB0).mono ?_
    rintro e w1 he
    obtain ⟨A1,c1,A2,c2,rfl,hb⟩:=he.no
    have hH:Below w0.heap.size w0 w1:=hB0.trans (hb.mono hB0.size)
    have HB1:Hid (Below w0.heap.size w0 w1):=J hH
    have HZ1:Hid (w1.heap[w0.heap.size]? = some (.cells #[.slice none 0 0,.slice none 0 0] 29 (0,0))):=J ((hb.block _ hl0).trans hZ0)
    have HY1:Hid (w0.heap.size ≤ w0.heap.size):=J (Nat.le_refl _)
    go_wp2_with fail
    refine hK.out _ _ hH fun hHeld=>?_
    clear hK K
    refine dW 10 rfl ?_
    refine dW 11 rfl ?_
    refine dW 12 rfl ?_
    refine dA 14 rfl fun K hK=>?_
    refine wp_store_row 29 (.tmp 5) (.tmp 24) rfl w0.heap.size #[.slice A1 0 c1,.slice A2 0 c2] rfl rfl 29 #[.slice none 0 0,.slice none 0 0] HZ1.out ak rfl (by simp [Value.oneCell']) ?_
    refine hK.out _ _ (ab HB1.out HY1.out _) fun hHeld=>?_
    clear hK K
    refine dW 15 rfl ?_
    refine dN ?_
    have HBF:Hid (Below w0.heap.size w0 (w1.setRow w0.heap.size #[.slice A1 0 c1,.slice A2 0 c2])):=J hHeld
    have HYH:Hid ((w1.setRow w0.heap.size #[.slice A1 0 c1,.slice A2 0 c2]).heap[w0.heap.size]? = some (.cells #[.slice A1 0 c1,.slice A2 0 c2] 29 (0,0))):=J (setRow_heap _ _ #[.slice none 0 0,.slice none 0 0] #[.slice A1 0 c1,.slice A2 0 c2] _ _ HZ1.out)
    generalize w1.setRow w0.heap.size #[.slice A1 0 c1,.slice A2 0 c2] = wf at HBF HYH ⊢
    obtain ⟨Y,hY⟩:∃ Y,w0.heap.size = Y:=⟨_,rfl⟩
    rw [hY] at HYH
    simp only [hY]
    obtain ⟨y0,y1⟩:=ae HYH.out
    go_wp2_with (go_at_call 56;refine (al false 113 113 _ rfl).mono ?_;rintro e w2 ⟨rfl,rfl⟩)
    go_ret
    rw [HT.out]
    exact ⟨rfl,HBF.out⟩
  | some t =>
   have HT:=J (Va.startE_some hst hx)
   rw [hx] at HFN
   obtain ⟨hl1,hl2⟩:=few_func h.fit.lots hx
   clear hst hx h
   generalize m.start = st at *
   obtain ⟨w0,hw0⟩:∃ w0,w0 = w:=⟨_,rfl⟩
   subst hw0
   go_enter Tryz.func34,Tryz.ntmps34
   go_upto_region 3 with fail
   refine wp_region_held_drew (S:=fun W'=>Below w0.heap.size w0 W') (by kernel_rfl) (Below.drew (Below.refl _ _)) (fun hHeld=>?_)
   refine dk1 0 rfl ?_
   refine dk1 1 rfl ?_
   refine dk1 2 rfl ?_
   refine dk1 3 rfl ?_
   refine dk1 4 rfl ?_
   refine dk1 5 rfl ?_
   refine dk1 6 rfl ?_
   refine dk1 7 rfl ?_
   refine dk1 8 rfl ?_
   refine ai 9 13 rfl rfl (by kernel_rfl) (fun K hK=>?_) (fun K hK=>?_)
   ·try (rw [if_pos];case hc=>rfl)
    go_simp
    refine (HFN.out _ hHeld).mono ?_
    rintro e w1 he
    obtain ⟨A1,c1,A2,c2,rfl,s1,s2,hb⟩:=he.yes
    have hH:Below w0.heap.size w0 w1:=hHeld.trans (hb.mono hHeld.size)
    have hz1:w0.heap.size ≤ w1.heap.size:=hH.size
    have HS1:Hid (aa w1 (fun k=>k ≠ w1.heap.size) t.params (.slice A1 t.params.length c1)):=J (s1.more (fun k hk h=>by omega))
    have HS2:Hid (aa w1 (fun k=>k ≠ w1.heap.size) t.results (.slice A2 t.results.length c2)):=J (s2.more (fun k hk h=>by omega))
    clear s1 s2
    go_wp2_with fail
    refine hK.out _ _ hH fun hHeld=>?_
    clear hK K
    refine dW 10 rfl ?_
    refine dW 11 rfl ?_
    refine dW 12 rfl ?_
    have HB1:Hid (Below w0.heap.size w0 (w1.alloc (.cells #[.slice none 0 0,.slice none 0 0] 29))):=J (hHeld.alloc hHeld.size _)
    have HZ1:=J (heap_alloc_new w1 (.cells #[.slice none 0 0,.slice none 0 0] 29))
    have HY1:Hid (w0.heap.size ≤ w1.heap.size):=J hz1
    refine dA 13 rfl fun K hK=>?_
    go_simp
    refine hK.out _ _ HB1.out fun hHeld=>?_
    clear hK K
    refine dA 14 rfl fun K hK=>?_
    refine wp_store_row 29 (.tmp 5) (.tmp 24) rfl w1.heap.size #[.slice A1 t.params.length c1,.slice A2 t.results.length c2] rfl rfl 29 #[.slice none 0 0,.slice none 0 0] HZ1.out ak rfl (by simp [Value.oneCell']) ?_
    refine hK.out _ _ (ab HB1.out HY1.out _) fun hHeld=>?_
    clear hK K
    refine dW 15 rfl ?_
    refine dN ?_
    have HBF:Hid (Below w0.heap.size w0 ((w1.alloc (.cells #[.slice none 0 0,.slice none 0 0] 29)).setRow w1.heap.size #[.slice A1 t.params.length c1,.slice A2 t.results.length c2])):=J hHeld
    have HYH:Hid (((w1.alloc (.cells #[.slice none 0 0,.slice none 0 0] 29)).setRow w1.heap.size #[.slice A1 t.params.length c1,.slice A2 t.results.length c2]).heap[w1.heap.size]? = some (.cells #[.slice A1 t.params.length c1,.slice A2 t.results.length c2] 29 (0,0))):=J (setRow_heap _ _ #[.slice none 0 0,.slice none 0 0] #[.slice A1 t.params.length c1,.slice A2 t.results.length c2] _ _ HZ1.out)
    have HV1:=J ((av (HS1.out.mod (T:=fun _=>False) (Mod.of_below bA) (fun _ _ _ h=>h)) #[.slice A1 t.params.length c1,.slice A2 t.results.length c2] (fun k _ hs=>hs)).more (S':=(· < ((w1.alloc (.cells #[.slice none 0 0,.slice none 0 0] 29)).setRow w1.heap.size #[.slice A1 t.params.length c1,.slice A2 t.results.length c2]).heap.size)) (fun k hk _=>hk))
    have HV2:=J ((av (HS2.out.mod (T:=fun _=>False) (Mod.of_below bA) (fun _ _ _ h=>h)) #[.slice A1 t.params.length c1,.slice A2 t.results.length c2] (fun k _ hs=>hs)).more (S':=(· < ((w1.alloc (.cells #[.slice none 0 0,.slice none 0 0] 29)).setRow w1.heap.size #[.slice A1 t.params.length c1,.slice A2 t.results.length c2]).heap.size)) (fun k hk _=>hk))
    generalize (w1.alloc (.cells #[.slice none 0 0,.slice none 0 0] 29)).setRow w1.heap.size #[.slice A1 t.params.length c1,.slice A2 t.results.length c2] = wf at HBF HYH HV1 HV2 ⊢
    generalize w1.heap.size = Y at HYH ⊢
    obtain ⟨y0,y1⟩:=ae HYH.out
    have HSA:=J (cJ t ⟨[],[]⟩ _ _ (.slice none 0 0) (.slice none 0 0) wf HV1.out HV2.out (aa.nil _ _) (aa.nil _ _) ⟨by omega,by omega⟩ ⟨by simp,by simp⟩)
    clear HV1 HV2
    generalize decide (t = ⟨[],[]⟩) = b at HSA HT
    go_wp2_with (first | (go_at_call 53;refine HSA.out.mono ?_;rintro e w4 ⟨rfl,hb⟩;have HB4:=J (HBF.out.trans (hb.mono HBF.out.size));clear hb) | (go_at_call 56;refine (al _ 113 113 _ rfl).mono ?_;rintro e w2 ⟨rfl,rfl⟩))
    go_ret
    rw [HT.out]
    exact ⟨rfl,HB4.out⟩
   ·try (rw [if_pos];case hc=>rfl)
    go_simp
    have hB0:Below w0.heap.size w0 (w0.drew.alloc (.cells #[.slice none 0 0,.slice none 0 0] 29)):=hHeld.alloc hHeld.size _
    have hZ0:=heap_alloc_new w0.drew (.cells #[.slice none 0 0,.slice none 0 0] 29)
    have hl0:w0.heap.size < (w0.drew.alloc (.cells #[.slice none 0 0,.slice none 0 0] 29)).heap.size:=by simp
    refine hK.out _ _ hB0 fun hHeld=>?_
    clear hK K
    refine dA 9 rfl fun K hK=>?_
    go_simp
    refine (HFN.out _ hB0).mono ?_
    rintro e w1 he
    obtain ⟨A1,c1,A2,c2,rfl,s1,s2,hb⟩:=he.yes
    have hH:Below w0.heap.size w0 w1:=hB0.trans (hb.mono hB0.size)
    have HB1:Hid (Below w0.heap.size w0 w1):=J hH
    have HZ1:Hid (w1.heap[w0.heap.size]? = some (.cells #[.slice none 0 0,.slice none 0 0] 29 (0,0))):=J ((hb.block _ hl0).trans hZ0)
    have HY1:Hid (w0.heap.size ≤ w0.heap.size):=J (Nat.le_refl _)
    have HS1:Hid (aa w1 (fun k=>k ≠ w0.heap.size) t.params (.slice A1 t.params.length c1)):=J (s1.more (fun k hk h=>by have h':(w0.drew.alloc (.cells #[.slice none 0 0,.slice none 0 0] 29)).heap.size ≤ k:=h;simp at h';omega))
    have HS2:Hid (aa w1 (fun k=>k ≠ w0.heap.size) t.results (.slice A2 t.results.length c2)):=J (s2.more (fun k hk h=>by have h':(w0.drew.alloc (.cells #[.slice none 0 0,.slice none 0 0] 29)).heap.size ≤ k:=h;simp at h';omega))
    clear s1 s2
    go_wp2_with fail
    refine hK.out _ _ hH fun hHeld=>?_
    clear hK K
    refine dW 10 rfl ?_
    refine dW 11 rfl ?_
    refine dW 12 rfl ?_
    refine dA 14 rfl fun K hK=>?_
    refine wp_store_row 29 (.tmp 5) (.tmp 24) rfl w0.heap.size #[.slice A1 t.params.length c1,.slice A2 t.results.length c2] rfl rfl 29 #[.slice none 0 0,.slice none 0 0] HZ1.out ak rfl (by simp [Value.oneCell']) ?_
    refine hK.out _ _ (ab HB1.out HY1.out _) fun hHeld=>?_
    clear hK K
    refine dW 15 rfl ?_
    refine dN ?_
    have HBF:Hid (Below w0.heap.size w0 (w1.setRow w0.heap.size #[.slice A1 t.params.length c1,.slice A2 t.results.length c2])):=J hHeld
    have HYH:Hid ((w1.setRow w0.heap.size #[.slice A1 t.params.length c1,.slice A2 t.results.length c2]).heap[w0.heap.size]? = some (.cells #[.slice A1 t.params.length c1,.slice A2 t.results.length c2] 29 (0,0))):=J (setRow_heap _ _ #[.slice none 0 0,.slice none 0 0] #[.slice A1 t.params.length c1,.slice A2 t.results.length c2] _ _ HZ1.out)
    have HV1:=J ((av HS1.out #[.slice A1 t.params.length c1,.slice A2 t.results.length c2] (fun k _ hs=>hs)).more (S':=(· < (w1.setRow w0.heap.size #[.slice A1 t.params.length c1,.slice A2 t.results.length c2]).heap.size)) (fun k hk _=>hk))
    have HV2:=J ((av HS2.out #[.slice A1 t.params.length c1,.slice A2 t.results.length c2] (fun k _ hs=>hs)).more (S':=(· < (w1.setRow w0.heap.size #[.slice A1 t.params.length c1,.slice A2 t.results.length c2]).heap.size)) (fun k hk _=>hk))
    generalize w1.setRow w0.heap.size #[.slice A1 t.params.length c1,.slice A2 t.results.length c2] = wf at HBF HYH HV1 HV2 ⊢
    obtain ⟨Y,hY⟩:∃ Y,w0.heap.size = Y:=⟨_,rfl⟩
    rw [hY] at HYH
    simp only [hY]
    obtain ⟨y0,y1⟩:=ae HYH.out
    have HSA:=J (cJ t ⟨[],[]⟩ _ _ (.slice none 0 0) (.slice none 0 0) wf HV1.out HV2.out (aa.nil _ _) (aa.nil _ _) ⟨by omega,by omega⟩ ⟨by simp,by simp⟩)
    clear HV1 HV2
    generalize decide (t = ⟨[],[]⟩) = b at HSA HT
    go_wp2_with (first | (go_at_call 53;refine HSA.out.mono ?_;rintro e w4 ⟨rfl,hb⟩;have HB4:=J (HBF.out.trans (hb.mono HBF.out.size));clear hb) | (go_at_call 56;refine (al _ 113 113 _ rfl).mono ?_;rintro e w2 ⟨rfl,rfl⟩))
    go_ret
    rw [HT.out]
    exact ⟨rfl,HB4.out⟩
end
theorem vaStr:Tryz.prog.underlying 9 = some .string:=by kernel_rfl
theorem vaInt:Tryz.prog.underlying 3 = some (.int .i64):=by kernel_rfl
theorem vaMap:Tryz.prog.underlying 89 = some (.map 9 3):=by kernel_rfl
theorem vaZero (w:World):(zeroValue 3).run Tryz.prog w = .ok (.int .i64 0) w:=by kernel_rfl
theorem vaInts:Tryz.prog.underlying 71 = some (.slice 3):=by kernel_rfl
theorem vaInfo:(Tryz.prog.info? 3).map (fun i=>(i.zero,i.size,i.bytes)) = some (some (.int .i64 0),1,8):=by kernel_rfl
section
variable {C:VC} {w w':World} {ns:List (List UInt8)} {hs:List Nat}
theorem cj.look {mp:Nat} (h:cj w mp ns) (s:List UInt8) (hs:s.length ≤ 1050000):∃ c:Int,(Instr.lookup 89 (.map (some mp)) (.string ⟨s.toArray⟩) true).run Tryz.prog w = .ok (.tuple #[.int .i64 c,.bool (decide (s ∈ ns))]) w:=by
 obtain ⟨D,hown,hhas⟩:=h
 have hk:keyOf Tryz.prog 9 (.string ⟨s.toArray⟩) = some (.string s):=by
  rw [WideMaps.keyOf_string_mk vaStr (by show s.toArray.size ≤ maxLen;unfold maxLen;simp;omega)]
 obtain ⟨v,ps,hrun,hv⟩:=hown.look_ok (Maps.string_keyed vaStr) vaMap (vaZero w) (plainElem_int vaInt (by decide)) hk
 obtain ⟨c,rfl,_,_⟩:=plainElem_int_inv vaInt hv
 exact ⟨c,by rw [hrun,hhas]⟩
theorem cj.put {mp:Nat} (h:cj w mp ns) (s:List UInt8) (hs:s.length ≤ 1050000) (i:Nat) (hi:i < 1000000000) (hl:ns.length ≤ 2000000):∃ w',(Instr.mapUpdate 89 (.map (some mp)) (.string ⟨s.toArray⟩) (.int .i64 ↑i)).run Tryz.prog w = .ok () w' ∧ cj w' mp (ns ++ [s]) ∧ Mod (· = mp) w w':=by
 obtain ⟨D,hown,hhas⟩:=h
 have hk:keyOf Tryz.prog 9 (.string ⟨s.toArray⟩) = some (.string s):=by
  rw [WideMaps.keyOf_string_mk vaStr (by show s.toArray.size ≤ maxLen;unfold maxLen;simp;omega)]
 have hw:(Lit.int .i64 ↑i).wf = true:=by
  simp only [Lit.wf,IntKind.min,IntKind.max,IntKind.signed,IntKind.bits,Bool.and_eq_true,decide_eq_true_eq,if_true]
  omega
 obtain ⟨w',hrun,h1,h2⟩:=hown.store (Maps.string_keyed vaStr) vaMap (by unfold maxLen;omega) hk (plainElem_int vaInt hw)
 refine ⟨w',hrun,⟨_,by rw [List.length_append];exact h1,fun t=>?_⟩,Mod.of_grown h2.grown (fun k e=>(Option.some.inj e).symm)⟩
 by_cases ht:t = s
 ·subst ht
  rw [Maps.has_put_same hown.isMap (by trivial)]
  simp
 ·rw [Maps.has_put_other (fun e=>ht (by injection e)),hhas]
  simp [ht]
theorem VSt.name (h:VSt C w ns hs) (hC:C.Good) {s:List UInt8} (hn:cj w' C.mp (ns ++ [s])) (hm:Mod (· = C.mp) w w'):VSt C w' (ns ++ [s]) hs ∧ w'.heap[C.E]? = w.heap[C.E]?:=by
 obtain ⟨hv,h1,h2⟩:=h.all
 have hmp:=hC.lt
 have hP:=hC.hP
 have hE:=hC.hE
 refine ⟨⟨h.mod.trans hm (fun _ _ e=>e),Nat.lt_of_lt_of_le h.top hm.size,hn,hv,hm.heap h1 (by omega),h2.mod hm (fun g hg e=>by have:=(h2.lt g hg).1;omega) (fun _ _ h=>h.elim)⟩,hm.block _ h.top (by omega)⟩
theorem VSt.height (h:VSt C w ns hs) (hC:C.Good) {hv v':Value} {n:Nat} (h1:w.heap[C.P]? = some (.cells #[C.v1,C.v2,C.v3,C.v4,C.v5,C.v6,C.v7,.bool C.m.hasStart,.int .u32 ↑C.m.start,C.v8,C.v9,C.v10,.pointer (some ⟨C.sp,0,none⟩),.map (some C.mp),hv] 91 (0,0)))
  (hO:OwnL 3 w (C.E + 1) (fun _=>False) hv (hs.map Va.Ht.mk)) (hO':OwnL 3 w' (C.E + 1) (fun g=>False ∧ v'.ownBlock ≠ some g) v' (hs.map Va.Ht.mk ++ [⟨n⟩])) (hM:Mod (fun g=>hv.ownBlock = some g) w w') :
  w'.heap[C.P]? = some (.cells #[C.v1,C.v2,C.v3,C.v4,C.v5,C.v6,C.v7,.bool C.m.hasStart,.int .u32 ↑C.m.start,C.v8,C.v9,C.v10,.pointer (some ⟨C.sp,0,none⟩),.map (some C.mp),hv] 91 (0,0)) ∧
  VSt C (w'.setCell ⟨C.P,14,none⟩ v') ns (hs ++ [n]) ∧ (w'.setCell ⟨C.P,14,none⟩ v').heap[C.E]? = w.heap[C.E]?:=by
 have hmp:=hC.lt
 have hP:=hC.hP
 have hE:=hC.hE
 have ht:=h.top
 have hlt:=fun g hg=>(hO.lt g hg).1
 have hP':=hM.heap h1 (fun e=>by have:=hlt _ e;omega)
 have hsz:=h.mod.size
 refine ⟨hP',⟨(h.mod.trans hM (fun k hk e=>by have:=hlt _ e;omega)).setCell (fun hk=>by have:C.P < C.w1.heap.size:=hk;omega) v',by simpa [World.setCell] using Nat.lt_of_lt_of_le h.top hM.size,?_,v',heap_setCell_same w' C.P 14 _ _ v' hP',?_⟩,?_⟩
 ·exact (h.names.on (hM.block _ (by omega) (fun e=>by have:=hlt _ e;omega))).on (Below.heap_setCell _ _ _ _ (by show C.mp ≠ C.P;omega))
 ·rw [List.map_append]
  exact (hO'.mod (T:=(· = C.P)) (Mod.setCell (T:=(· = C.P)) (Mod.refl _ w') (p:=⟨C.P,14,none⟩) (fun _=>rfl) v') (fun g hg e=>by have:=(hO'.lt g hg).1;omega) (fun _ _ h=>h.1.elim)).more (fun _ _ h=>h.1)
 ·exact (Below.heap_setCell _ _ _ _ (by show C.E ≠ C.P;omega)).trans (hM.block _ ht (fun e=>by have:=hlt _ e;omega))
theorem vexport_any (hC:C.Good) (h:VSt C w ns hs) (hl:ns.length ≤ 2000000) (i:Nat) (x:Exp) (hx:C.m.exports[i]? = some x) :
  Calls Tryz.prog 33 #[.pointer (some ⟨C.P,0,none⟩),.int .i64 ↑i] w fun e w'=>e = .returned (.int .i64 ((Va.expA C.m ns x:Nat):Int)) ∧ (Va.expA C.m ns x = 0 → VSt C w' (ns ++ [x.name]) hs) ∧ VF C w' ∧ w'.heap[C.E]? = w.heap[C.E]?:=by
 obtain ⟨hv,hin,_⟩:=h.vin hC
 have hlx:=hC.fit.lots.exports
 have hln:=hC.fit.names x (List.mem_of_getElem? hx)
 have hi:=(List.getElem?_eq_some_iff.1 hx).1
 obtain ⟨A,c,hA,hc,_,_,hL⟩:=hin.rep.exports
 have x6:=cell15 hin.cells 6 _ rfl
 rw [hA] at x6
 obtain ⟨g,o,cs,rfl,_,hg,⟨rfl,hxi⟩,hcs⟩:=hL i x hx
 have HTH:=J (fun W (hb:Below w.heap.size w W)=>bL (hin.grow hb) x.kind.toNat x.index x.kind.toNat_lt hxi)
 have k0:w.cell? ⟨g,o + i * 3,none⟩ = some (strV x.name):=hcs 0 _ rfl
 have k1:w.cell? ⟨g,o + i * 3 + 1,none⟩ = some (.int .u8 ↑x.kind.toNat):=hcs 1 _ rfl
 have k2:w.cell? ⟨g,o + i * 3 + 2,none⟩ = some (.int .u32 ↑x.index):=hcs 2 _ rfl
 have H13:Hid (∀ W,Below w.heap.size w W → W.cell? ⟨C.P,13,none⟩ = some (.map (some C.mp))):=J (fun W hb=>cell15 (hin.grow hb).cells 13 _ rfl)
 have HT:Hid (Va.expA C.m ns x = if x.index < count C.m x.kind.toNat then (if x.name ∈ ns then 111 else 0) else 80):=J rfl
 have HST:=J (fun W (hb:Below w.heap.size w W)=>h.on hC hb)
 have HEE:Hid (∀ W,Below w.heap.size w W → W.heap[C.E]? = w.heap[C.E]?):=J (fun W hb=>hb.block _ h.top)
 have HGD:=J hC
 have HLN:=J hln
 have HLL:=J hl
 have HNP:Hid (¬ C.P = C.mp):=J (by have:=hC.hP;have:=hC.lt;omega)
 have HNX:Hid (¬ w.heap.size = C.mp):=J (by have:=hC.lt;have:=h.mod.size;omega)
 clear hin h hC hL hcs hxi hA hln hx hl
 obtain ⟨n,e⟩:∃ n,C.m.exports.length = n:=⟨_,rfl⟩
 rw [e] at x6 hi hlx hc
 clear e
 have hii:(i:Int) < (n:Int):=by omega
 unfold strV at k0
 obtain ⟨b1,hb1⟩:∃ b,decide (x.index < count C.m x.kind.toNat) = b:=⟨_,rfl⟩
 rw [hb1] at HTH
 have HD1:=J hb1
 clear hb1
 generalize x.kind.toNat = kd at *
 generalize x.index = ix at *
 have HB0:Hid (Below w.heap.size w (w.alloc (.cells #[.string ⟨x.name.toArray⟩,.int .u8 ↑kd,.int .u32 ↑ix] 52))):=J bA
 have HZ:=J (heap_alloc_new w (.cells #[.string ⟨x.name.toArray⟩,.int .u8 ↑kd,.int .u32 ↑ix] 52))
 go_enter Tryz.func33,Tryz.ntmps33
 go_upto_region 2 with fail
 generalize w.alloc (.cells #[.string ⟨x.name.toArray⟩,.int .u8 ↑kd,.int .u32 ↑ix] 52) = w0 at HB0 HZ ⊢
 obtain ⟨z0,z1,z2⟩:=aN HZ.out
 have HZC:=J (fun W (hb:Below w0.heap.size w0 W)=>aN ((hb.block _ (gL HZ.out)).trans HZ.out))
 cases b1 with
 | false =>
  have HTT:Hid (Va.expA C.m ns x = 80):=J (by rw [HT.out,if_neg (of_decide_eq_false HD1.out)])
  clear HT HD1
  go_wp2_with (go_at_call 65;refine (HTH.out _ HB0.out).mono ?_;rintro e w1 ⟨rfl,hb⟩;have HB1:=J (HB0.out.trans (hb.mono HB0.out.size));have HBZ:=J hb;clear hb)
  go_ret
  rw [HTT.out]
  exact ⟨rfl,fun h=>absurd h (by decide),⟨_,_,HST.out _ HB1.out⟩,HEE.out _ HB1.out⟩
 | true =>
  have HTT:Hid (Va.expA C.m ns x = if x.name ∈ ns then 111 else 0):=J (by rw [HT.out,if_pos (of_decide_eq_true HD1.out)])
  clear HT HD1
  go_upto_region 4 with (go_at_call 65;refine (HTH.out _ HB0.out).mono ?_;rintro e w1 ⟨rfl,hb⟩;have HB1:=J (HB0.out.trans (hb.mono HB0.out.size));have HBZ:=J hb;clear hb)
  clear z0 z1 z2
  obtain ⟨y0,y1,y2⟩:=HZC.out _ HBZ.out
  have y13:=H13.out _ HB1.out
  obtain ⟨cc,hrun⟩:=((HST.out _ HB1.out).names.on (w':=w1.drew) rfl).look x.name HLN.out
  obtain ⟨was,hwas⟩:∃ b,decide (x.name ∈ ns) = b:=⟨_,rfl⟩
  rw [hwas] at hrun
  have HWAS:=J hwas
  clear hwas
  refine wp_region_held_drew (S:=fun W'=>w1.drew = W') (by kernel_rfl) (rfl) (fun hHeld=>?_)
  refine df1 0 rfl ?_
  refine df1 1 rfl ?_
  refine df1 2 rfl ?_
  refine df1 3 rfl ?_
  refine df1 4 rfl ?_
  refine df1 5 rfl ?_
  refine df1 6 rfl ?_
  refine df1 7 rfl ?_
  refine df1 8 rfl ?_
  refine df1 9 rfl ?_
  refine df1 10 rfl ?_
  refine df1 11 rfl ?_
  refine dN ?_
  cases was with
  | true =>
   have HT2:Hid (Va.expA C.m ns x = 111):=J (by rw [HTT.out,if_pos (of_decide_eq_true HWAS.out)])
   clear hrun
   have HBD:=J (Below.drew HB1.out)
   go_wp2_with fail
   go_ret
   rw [HT2.out]
   exact ⟨rfl,fun h=>absurd h (by decide),⟨_,_,HST.out _ HBD.out⟩,HEE.out _ HBD.out⟩
  | false =>
   have HT2:Hid (Va.expA C.m ns x = 0):=J (by rw [HTT.out,if_neg (of_decide_eq_false HWAS.out)])
   clear hrun
   have HBD:=J (Below.drew HB1.out)
   have HS2:=J (HST.out _ HBD.out)
   have HE2:=J (HEE.out _ HBD.out)
   have HBZ2:Hid (Below w0.heap.size w0 w1.drew):=J (Below.drew HBZ.out)
   have y13:=H13.out _ HBD.out
   obtain ⟨y0,y1,y2⟩:=HZC.out _ HBZ2.out
   generalize w1.drew = w2 at HS2 HE2 y0 y1 y2 y13 ⊢
   go_upto_region 7 with fail
   obtain ⟨w3,hrun3,hn3,hm3⟩:=(HS2.out.names.on (w':=w2.drew) rfl).put x.name HLN.out i (by omega) HLL.out
   have hm3':Mod (· = C.mp) w2 w3:=(Mod.drew (Mod.refl _ w2)).trans hm3 (fun _ _ e=>e)
   obtain ⟨hq,he⟩:=HS2.out.name HGD.out hn3 hm3'
   have HQ:=J hq
   have HE3:=J (he.trans HE2.out)
   have HM3:=J hm3'
   clear hn3 hm3 hm3' hq he
   have HCC3:Hid (∀ W,(w2.drew = W ∨ w3 = W) → W.cell? ⟨C.P,13,none⟩ = some (.map (some C.mp)) ∧ W.cell? ⟨w.heap.size,0,none⟩ = some (.string ⟨x.name.toArray⟩)):=J (fun W hW=>by
    rcases hW with rfl | rfl
    ·exact ⟨y13,y0⟩
    ·exact ⟨HM3.out.cell y13 HNP.out,HM3.out.cell y0 HNX.out⟩)
   refine wp_region_held_drew (S:=fun W'=>w2.drew = W' ∨ w3 = W') (by kernel_rfl) (.inl rfl) (fun hHeld=>?_)
   refine dV 0 rfl (by intro wy hSw;obtain ⟨q0,q1⟩:=HCC3.out wy hSw;go_simp;try with_reducible rfl) ?_
   refine dV 1 rfl (by intro wy hSw;obtain ⟨q0,q1⟩:=HCC3.out wy hSw;go_simp;try with_reducible rfl) ?_
   refine dV 2 rfl (by intro wy hSw;obtain ⟨q0,q1⟩:=HCC3.out wy hSw;go_simp;try with_reducible rfl) ?_
   refine dV 3 rfl (by intro wy hSw;obtain ⟨q0,q1⟩:=HCC3.out wy hSw;go_simp;try with_reducible rfl) ?_
   refine dV 4 rfl (by intro wy hSw;obtain ⟨q0,q1⟩:=HCC3.out wy hSw;go_simp;try with_reducible rfl) ?_
   refine dV 5 rfl (by intro wy hSw;obtain ⟨q0,q1⟩:=HCC3.out wy hSw;go_simp;try with_reducible rfl) ?_
   refine dV 6 rfl (by intro wy hSw;obtain ⟨q0,q1⟩:=HCC3.out wy hSw;go_simp;try with_reducible rfl) ?_
   refine dA 7 rfl fun K hK=>?_
   go_simp
   refine hK.out _ _ (.inr rfl) fun hHeld=>?_
   clear hK K
   refine dN ?_
   go_wp2_with fail
   go_ret
   rw [HT2.out]
   exact ⟨rfl,fun _=>HQ.out,⟨_,_,HQ.out⟩,HE3.out⟩
end
end Go.Proofs.YtmpelmihdpomjaaGreat
