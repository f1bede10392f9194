/-
  Layer 12's program: whether something of a module is too much. (gen/rule/much.py)
-/
import Derived.Test.YtmpelmihdpomjaaGreatSq01
import Derived.Test.YtmpelmihdpomjaaGreatSq43
import Derived.Test.YtmpelmihdpomjaaGreatSq41
set_option maxRecDepth 100000
set_option maxHeartbeats 4000000
namespace Ru
open Bin Sp Ins Go.Proofs.YtmpelmihdpomjaaGreat
def codeAtN (m:M) (hs:List Nat) (i:Nat):Bool:=match m.codes[i]?,hs[i]? with
 | some c,some h=>codeN ((func m (imported m 0 + i)).getD ⟨[],[]⟩).params.length c h
 | _,_=>false
def muchN (m:M) (hs:List Nat):Bool :=
 ((((((((((((((false || decide (256 < m.types.length)) || decide (64 < m.imports.length)) || decide (512 < m.funcs.length)) || decide (128 < count m 3)) || decide (128 < m.exports.length)) || decide (64 < m.elems.length)) || decide (64 < m.datas.length)) || m.types.any typN) || m.imports.any impN) || m.exports.any expN) || m.elems.any eleN) || (tabs m).any tabN) || (mems m).any memN) || (List.range m.codes.length).any (codeAtN m hs))
theorem eA {m:M} {hsAll:List Nat}:∀ (ts:List Nat) (cs:List Cd) (hs:List Nat) (k:Nat),ts.length = cs.length → hs.length = cs.length → (∀ (i:Nat) (t:Nat) (c:Cd) (h:Nat),ts[i]? = some t → cs[i]? = some c → hs[i]? = some h → codeAtN m hsAll (k + i) = codeN ((m.types[t]?).getD ⟨[],[]⟩).params.length c h) → codesB m ts cs hs = !((List.range cs.length).any fun i=>codeAtN m hsAll (k + i))
 | [],[],[],_,_,_,_=>rfl
 | t :: ts,c :: cs,h :: hs,k,h1,h2,hx=>by
  rw [codesB,codeN_not,eA ts cs hs (k + 1) (by simpa using h1) (by simpa using h2) (fun i t c h a b d=>by
   have:=hx (i + 1) t c h a b d
   rw [← this]
   congr 1
   omega),← hx 0 t c h rfl rfl rfl,List.length_cons,List.range_succ_eq_map,List.any_cons,List.any_map,Bool.not_or]
  congr 3
  funext i
  simp only [Function.comp]
  congr 1
  omega
 | [],_ :: _,_,_,h,_,_=>by simp at h
 | _ :: _,[],_,_,h,_,_=>by simp at h
 | [],[],_ :: _,_,_,h,_=>by simp at h
 | _ :: _,_ :: _,[],_,_,h,_=>by simp at h
theorem dx {α:Type} {p q:α → Bool} (h:∀ x,p x = !q x) (l:List α):l.all p = !l.any q:=by
 induction l with
 | nil=>rfl
 | cons x l ih=>rw [List.all_cons,List.any_cons,h,ih,Bool.not_or]
theorem cg (n k:Nat):decide (n ≤ k) = !decide (k < n):=by
 by_cases h:n ≤ k
 ·rw [decide_eq_true h,decide_eq_false (by omega)];rfl
 ·rw [decide_eq_false h,decide_eq_true (by omega)];rfl
theorem one_note {l:List Lim} (h:l.length ≤ 1) (k:Nat):(l[0]?).all (fun x=>decide (x.min ≤ k)) = !l.any (fun x=>decide (k < x.min)):=by
 match l,h with
 | [],_=>rfl
 | [x],_=>simp [cg]
theorem much_not {m:M} {hs:List Nat} (hg:Va.Good m hs):sizesB m hs = !muchN m hs:=by
 have hc:codesB m m.funcs m.codes hs = !((List.range m.codes.length).any (codeAtN m hs)):=by
  have:=eA (m:=m) (hsAll:=hs) m.funcs m.codes hs 0 hg.shape.1.symm hg.len (fun i t c h a b d=>by
   unfold codeAtN
   rw [Nat.zero_add,b,d]
   have e:func m (imported m 0 + i) = m.types[t]?:=by
    unfold func funs
    rw [aE (by decide),List.getElem?_append_right (by simp),List.length_map,Nat.add_sub_cancel_left,a]
    rfl
   rw [e])
  rw [this]
  simp only [Nat.zero_add]
 have ht:=one_note (l:=tabs m) (by rw [bu];exact hg.few.1) 1024
 have hm:=one_note (l:=mems m) (by rw [bq];exact hg.few.2) 16
 unfold sizesB listsB muchN
 rw [hc,ht,hm,dx (q:=typN) (fun x=>cg _ _),dx (q:=impN) (fun x=>by unfold impN;rw [cg,cg,Bool.not_or]),dx (q:=expN) (fun x=>cg _ _),dx (q:=eleN) (fun x=>cg _ _)]
 simp only [cg]
 show _ = !((((((((((((((false || decide (256 < m.types.length)) || decide (64 < m.imports.length)) || decide (512 < m.funcs.length)) || decide (128 < count m 3)) || decide (128 < m.exports.length)) || decide (64 < m.elems.length)) || decide (64 < m.datas.length)) || m.types.any typN) || m.imports.any impN) || m.exports.any expN) || m.elems.any eleN) || (tabs m).any (fun x=>decide (1024 < x.min))) || (mems m).any (fun x=>decide (16 < x.min))) || (List.range m.codes.length).any (codeAtN m hs))
 generalize decide (256 < m.types.length) = a1
 generalize decide (64 < m.imports.length) = a2
 generalize decide (512 < m.funcs.length) = a3
 generalize decide (128 < count m 3) = a4
 generalize decide (128 < m.exports.length) = a5
 generalize decide (64 < m.elems.length) = a6
 generalize decide (64 < m.datas.length) = a7
 generalize m.types.any typN = a8
 generalize m.imports.any impN = a9
 generalize m.exports.any expN = a10
 generalize m.elems.any eleN = a11
 generalize (tabs m).any (fun x=>decide (1024 < x.min)) = a12
 generalize (mems m).any (fun x=>decide (16 < x.min)) = a13
 generalize (List.range m.codes.length).any (codeAtN m hs) = a14
 cases a1 <;> cases a2 <;> cases a3 <;> cases a4 <;> cases a5 <;> cases a6 <;> cases a7 <;> simp <;> (try (cases a8 <;> cases a9 <;> cases a10 <;> cases a11 <;> cases a12 <;> cases a13 <;> cases a14 <;> rfl))
end Ru
namespace Go.Proofs.YtmpelmihdpomjaaGreat
open Go.RowKit Ins Bin Sp
theorem rmuch_any (m:M) (v1 v2 v3 v4 v5 v6 v7 v8 v9 v10 hv:Value) (hs:List Nat) (sp:Nat) (w:World) (hM:RepM w (· < w.heap.size) m v1 v2 v3 v4 v5 v6 v7 v8 v9 v10) (hF:FitR m) (hS:aD w sp m) (hH:aa w (· < w.heap.size) (hs.map Va.Ht.mk) hv) (hg:Va.Good m hs) :
  Calls Tryz.prog 19 #[.agg #[v1,v2,v3,v4,v5,v6,v7,.bool m.hasStart,.int .u32 ↑m.start,v8,v9,v10],.pointer (some ⟨sp,0,none⟩),hv] w fun e w'=>e = .returned (.bool (Ru.muchN m hs)) ∧ Below w.heap.size w w':=by
 obtain ⟨Ah,ch,eh,_⟩:=id hH
 rw [List.length_map] at eh
 obtain ⟨A9,c9,e9,_⟩:=id hM.codes
 have hcl:=hF.1.codes.1
 have HB0:Hid (Below w.heap.size w (w.alloc (.cells #[v1,v2,v3,v4,v5,v6,v7,.bool m.hasStart,.int .u32 ↑m.start,v8,v9,v10] 49))):=J bA
 have HX0:=J (heap_alloc_new w (.cells #[v1,v2,v3,v4,v5,v6,v7,.bool m.hasStart,.int .u32 ↑m.start,v8,v9,v10] 49))
 have HMU:Hid (Ru.muchN m hs = ((((((((((((((false || decide (256 < m.types.length)) || decide (64 < m.imports.length)) || decide (512 < m.funcs.length)) || decide (128 < count m 3)) || decide (128 < m.exports.length)) || decide (64 < m.elems.length)) || decide (64 < m.datas.length)) || m.types.any typN) || m.imports.any impN) || m.exports.any expN) || m.elems.any eleN) || (tabs m).any tabN) || (mems m).any memN) || (List.range m.codes.length).any (Ru.codeAtN m hs))):=J rfl
 have HCODE:Hid (∀ (C:RC),C.Good → C.m = m → C.hs = hs → ∀ (W0 W:World) (b:Bool) (i:Nat),i < m.codes.length → Nt C W0 W b → Calls Tryz.prog 51 #[.pointer (some ⟨C.X,0,none⟩),.int .i64 ↑i] W fun e W'=>e = .returned (.tuple #[]) ∧ Nt C W0 W' (b || Ru.codeAtN m hs i)):=J (fun C hC hm hhs W0 W b i hi hn=>by
  subst hm hhs
  obtain ⟨c,hc⟩:∃ c,C.m.codes[i]? = some c:=⟨_,List.getElem?_eq_getElem hi⟩
  obtain ⟨f,h,h1,h2,h3,h4,h5⟩:=Ru.good_code hC.good hc
  have e:Ru.codeAtN C.m C.hs i = Ru.codeN f.params.length c h:=by
   unfold Ru.codeAtN
   rw [hc,h3,h1]
   rfl
  rw [e]
  exact rcode_any hC hn i c hc f h1 h2 h h3 h4 h5)
 have HG:Hid (∀ X Y,w.heap.size ≤ X → w.heap.size ≤ Y → X ≠ Y → (⟨w,m,sp,X,Y,v1,v2,v3,v4,v5,v6,v7,v8,v9,v10,hv,hs⟩:RC).Good):=J (fun X Y hX hY hn=>⟨hM,hS,hH,hF,hg,hX,hY,hn⟩)
 obtain ⟨n9,f9⟩:∃ n,m.codes.length = n:=⟨_,rfl⟩
 rw [f9] at e9 hcl HCODE HMU
 have HE9:=J e9
 clear hM hF hS hH hg f9
 obtain ⟨nh,fnh⟩:∃ n,hs.length = n:=⟨_,rfl⟩
 rw [fnh] at eh
 subst eh
 clear e9 fnh
 generalize hmh:m.hasStart = ms at *
 generalize hms:(m.start:Int) = mi at *
 have HMH:=J hmh
 have HMS:=J hms
 clear hmh hms
 go_enter Tryz.func19,Tryz.ntmps19
 go_upto_region 1 with fail
 generalize w.alloc (.cells #[v1,v2,v3,v4,v5,v6,v7,.bool ms,.int .u32 mi,v8,v9,v10] 49) = w0 at HB0 HX0 ⊢
 obtain ⟨B,hB⟩:∃ B,w.heap.size = B:=⟨_,rfl⟩
 rw [hB] at HX0
 have HBW:Hid (w.heap.size = B):=J hB
 simp only [hB]
 clear hB
 have HB1:Hid (Below w.heap.size w (w0.alloc (.cells #[.bool false] 4))):=J (HB0.out.alloc HB0.out.size _)
 have HX1:Hid ((w0.alloc (.cells #[.bool false] 4)).heap[B]? = _):=J ((Below.heap_alloc w0 _ _ (gL HX0.out)).trans HX0.out)
 have HY1:=J (heap_alloc_new w0 (.cells #[.bool false] 4))
 have HYL:Hid (B < w0.heap.size):=J (gL HX0.out)
 have HYW:Hid (w.heap.size ≤ w0.heap.size):=J HB0.out.size
 go_upto_region 2 with fail
 obtain ⟨Y,hY⟩:∃ Y,w0.heap.size = Y:=⟨_,rfl⟩
 rw [hY] at HY1 HYL HYW
 simp only [hY]
 clear hY
 generalize w0.alloc (.cells #[.bool false] 4) = w1 at HB1 HX1 HY1 ⊢
 clear HB0 HX0
 have x0:=cellV HX1.out 0 _ rfl
 have x1:=cellV HX1.out 1 _ rfl
 have x2:=cellV HX1.out 2 _ rfl
 have x3:=cellV HX1.out 3 _ rfl
 have x4:=cellV HX1.out 4 _ rfl
 have x5:=cellV HX1.out 5 _ rfl
 have x6:=cellV HX1.out 6 _ rfl
 have x7:=cellV HX1.out 7 _ rfl
 have x8:=cellV HX1.out 8 _ rfl
 have x9:=cellV HX1.out 9 _ rfl
 have x10:=cellV HX1.out 10 _ rfl
 have x11:=cellV HX1.out 11 _ rfl
 have HB2:Hid (Below w.heap.size w (w1.alloc (.cells #[v1,v2,v3,v4,v5,v6,v7,.bool ms,.int .u32 mi,v8,v9,v10,.pointer (some ⟨sp,0,none⟩),.slice Ah nh ch,.func (.func 47) #[] #[.pointer (some ⟨Y,0,none⟩)]] 122))):=J (HB1.out.alloc HB1.out.size _)
 have HX2:Hid ((w1.alloc (.cells #[v1,v2,v3,v4,v5,v6,v7,.bool ms,.int .u32 mi,v8,v9,v10,.pointer (some ⟨sp,0,none⟩),.slice Ah nh ch,.func (.func 47) #[] #[.pointer (some ⟨Y,0,none⟩)]] 122)).heap[B]? = _):=J ((Below.heap_alloc w1 _ _ (gL HX1.out)).trans HX1.out)
 have HY2:Hid ((w1.alloc (.cells #[v1,v2,v3,v4,v5,v6,v7,.bool ms,.int .u32 mi,v8,v9,v10,.pointer (some ⟨sp,0,none⟩),.slice Ah nh ch,.func (.func 47) #[] #[.pointer (some ⟨Y,0,none⟩)]] 122)).heap[Y]? = _):=J ((Below.heap_alloc w1 _ _ (gL HY1.out)).trans HY1.out)
 have HZ2:=J (heap_alloc_new w1 (.cells #[v1,v2,v3,v4,v5,v6,v7,.bool ms,.int .u32 mi,v8,v9,v10,.pointer (some ⟨sp,0,none⟩),.slice Ah nh ch,.func (.func 47) #[] #[.pointer (some ⟨Y,0,none⟩)]] 122))
 have HXY:Hid (w1.heap.size ≠ Y):=J (fun e=>by have:=(gL HY1.out);omega)
 have HXW:Hid (w.heap.size ≤ w1.heap.size):=J HB1.out.size
 go_upto_region 3 with fail
 obtain ⟨X,hX⟩:∃ X,w1.heap.size = X:=⟨_,rfl⟩
 rw [hX] at HZ2 HXY HXW
 simp only [hX]
 clear hX x0 x1 x2 x3 x4 x5 x6 x7 x8 x9 x10 x11
 generalize w1.alloc (.cells #[v1,v2,v3,v4,v5,v6,v7,.bool ms,.int .u32 mi,v8,v9,v10,.pointer (some ⟨sp,0,none⟩),.slice Ah nh ch,.func (.func 47) #[] #[.pointer (some ⟨Y,0,none⟩)]] 122) = w2 at HB2 HX2 HY2 HZ2 ⊢
 clear HB1 HX1 HY1
 have hgd:=HG.out X Y HXW.out HYW.out HXY.out
 obtain ⟨C,hC⟩:∃ C:RC,C = ⟨w,m,sp,X,Y,v1,v2,v3,v4,v5,v6,v7,v8,v9,v10,.slice Ah nh ch,hs⟩:=⟨_,rfl⟩
 have hcm:C.m = m:=by rw [hC]
 have hch:C.hs = hs:=by rw [hC]
 have hcX:C.X = X:=by rw [hC]
 have hcY:C.Y = Y:=by rw [hC]
 have hcw:C.w = w:=by rw [hC]
 have hgd2:C.Good:=by rw [hC];exact hgd
 have hn0:Nt C w2 w2 false:=by
  rw [hC]
  exact ⟨Mod.refl _ _,HB2.out,by rw [← HMH.out,← HMS.out] at HZ2;exact HZ2.out,HY2.out⟩
 have HN:=J hn0
 have HCB:Hid (B ≠ C.Y):=J (by rw [hcY];have:=HYL.out;omega)
 have HL:=J (fun (W:World) (b:Bool) (hq:Nt C w2 W b)=>rlists_any hgd2 hq)
 have HE:=J (fun (W:World) (b:Bool) (hq:Nt C w2 W b)=>gk hgd2 hq)
 have HLI:=J (fun (W:World) (b:Bool) (hq:Nt C w2 W b)=>rlimits_any hgd2 hq)
 have HCO:=J (fun (W:World) (b:Bool) (i:Nat) (hi:i < n9) (hq:Nt C w2 W b)=>HCODE.out C hgd2 hcm hch w2 W b i hi hq)
 rw [hcX,hcm] at HL HE HLI
 rw [hcX] at HCO
 have HCY:=J hcY
 have HCW:=J hcw
 clear HG HCODE hgd hC hcm hch hcX hcY hcw hgd2 hn0 HZ2 HY2 HB2
 go_upto_region 4 with (go_at_call 48;refine (HL.out _ _ HN.out).mono ?_;rintro e wk ⟨rfl,hn⟩;have HN2:=J hn;clear HN hn;have HN:=HN2;clear HN2)
 obtain ⟨b1,hb1⟩:∃ q,(((((((false || decide (256 < m.types.length)) || decide (64 < m.imports.length)) || decide (512 < m.funcs.length)) || decide (128 < count m 3)) || decide (128 < m.exports.length)) || decide (64 < m.elems.length)) || decide (64 < m.datas.length)) = q:=⟨_,rfl⟩
 rw [hb1] at HN HMU
 clear hb1 HL
 go_upto_region 5 with (go_at_call 49;refine (HE.out _ _ HN.out).mono ?_;rintro e wk ⟨rfl,hn⟩;have HN2:=J hn;clear HN hn;have HN:=HN2;clear HN2)
 obtain ⟨b2,hb2⟩:∃ q,((((b1 || m.types.any typN) || m.imports.any impN) || m.exports.any expN) || m.elems.any eleN) = q:=⟨_,rfl⟩
 rw [hb2] at HN HMU
 clear hb2 HE
 go_upto_region 6 with (go_at_call 50;refine (HLI.out _ _ HN.out).mono ?_;rintro e wk ⟨rfl,hn⟩;have HN2:=J hn;clear HN hn;have HN:=HN2;clear HN2)
 obtain ⟨b3,hb3⟩:∃ q,((b2 || (tabs m).any tabN) || (mems m).any memN) = q:=⟨_,rfl⟩
 rw [hb3] at HN HMU
 clear hb3 HLI
 have x10:=cellV (HN.out.md.heap HX2.out HCB.out) 10 (.slice A9 n9 c9) (by show some v9 = _;rw [HE9.out])
 go_upto_region 7 with fail
 clear x10
 go_loopw [25] (fun iv wr=>∃ j:Nat,j ≤ n9 ∧ iv = .int .i64 ↑j ∧ Hid (Nt C w2 wr (b3 || (List.range j).any (Ru.codeAtN m hs)))) (fun iv _=>n9 - (intOf iv).toNat)
 case atStart=>exact ⟨0,Nat.zero_le _,rfl,J (by rw [List.range_zero,List.any_nil,Bool.or_false];exact HN.out)⟩
 case round =>
  clear HN
  obtain ⟨j,hj,rfl,HN⟩:=hrel
  by_cases hlt:j < n9
  ·have hlti:(j:Int) < (n9:Int):=by omega
   go_wp2_with (go_at_call 51;refine (HCO.out _ _ _ hlt HN.out).mono ?_;rintro e wk ⟨rfl,hn⟩;have HN2:=J hn;clear HN hn;have HN:=HN2;clear HN2)
   go_roundw
   case rel=>exact ⟨j + 1,by omega,by go_num,J (by rw [List.range_succ,List.any_append,← Bool.or_assoc];simpa using HN.out)⟩
   case measure=>simp [intOf];omega
  ·have hlti:decide ((j:Int) < (n9:Int)) = false:=decide_eq_false (by omega)
   have hjn:j = n9:=by omega
   have HM2:Hid (Ru.muchN m hs = (b3 || (List.range j).any (Ru.codeAtN m hs))):=J (by rw [hjn];exact HMU.out)
   clear hjn HMU
   obtain ⟨b4,hb4⟩:∃ q,(b3 || (List.range j).any (Ru.codeAtN m hs)) = q:=⟨_,rfl⟩
   rw [hb4] at HN HM2
   clear hb4
   have hy:wr.heap[Y]? = some (.cells #[.bool b4] 4 (0,0)):=by have:=HN.out.cy;rw [HCY.out] at this;exact this
   have y0:=cellV hy 0 _ rfl
   clear hy
   go_wp2_with fail
   go_ret
   rw [HM2.out]
   refine ⟨rfl,?_⟩
   have:=HN.out.bel
   rw [HCW.out] at this
   exact this
end Go.Proofs.YtmpelmihdpomjaaGreat
namespace Ru
open Bin Sp Ins
theorem check_err {m:M} (h:Va.num (Va.check m) ≠ 0):check m = Va.num (Va.check m):=by
 unfold check
 cases hc:Va.check m with
 | error e=>rfl
 | ok hs=>rw [hc] at h;exact absurd rfl h
theorem check_good {m:M} {hs:List Nat} (hg:Va.Good m hs):check m = if muchN m hs = true then 122 else (if m.imports.all (impB m) = true then (if expsB m = true then 0 else 121) else 120):=by
 unfold check
 rw [Va.check_ok.2 hg]
 dsimp only
 rw [much_not hg]
 cases muchN m hs <;> simp
end Ru
namespace Go.Proofs.YtmpelmihdpomjaaGreat
open Go.RowKit Ins Bin Sp
theorem rule_ok:fV:=by
 intro m v1 v2 v3 v4 v5 v6 v7 v8 v9 v10 w hM hF
 have HV:=J (fun W (hb:Below w.heap.size w W)=>valid_ok m v1 v2 v3 v4 v5 v6 v7 v8 v9 v10 W (hM.grow hb) hF.1)
 have HSO:=J (fun W (hb:Below w.heap.size w W)=>sofL_any m v1 v2 v3 v4 v5 v6 v7 v8 v9 v10 W (hM.grow hb) hF.1.lots)
 have HTM:=J (fun (hs:List Nat) (hg:Va.Good m hs) (sp:Nat) (hv:Value) W (hb:Below w.heap.size w W) (hS:aD W sp m) (hH:aa W (· < W.heap.size) (hs.map Va.Ht.mk) hv)=>rmuch_any m v1 v2 v3 v4 v5 v6 v7 v8 v9 v10 hv hs sp W (hM.grow hb) hF hS hH hg)
 have HIM:=J (fun (hs:List Nat) (hg:Va.Good m hs) (sp:Nat) W (hb:Below w.heap.size w W) (hS:aD W sp m)=>rimps_any m v1 v2 v3 v4 v5 v6 v7 v8 v9 v10 hs sp W (hM.grow hb) hF hS hg)
 have HEX:=J (fun (sp:Nat) W (hb:Below w.heap.size w W) (hS:aD W sp m)=>rexps_any m v1 v2 v3 v4 v5 v6 v7 v8 v9 v10 sp W (hM.grow hb) hF hS)
 unfold modCells at HV HSO ⊢
 have HB0:Hid (Below w.heap.size w (w.alloc (.cells #[v1,v2,v3,v4,v5,v6,v7,.bool m.hasStart,.int .u32 ↑m.start,v8,v9,v10] 49))):=J bA
 have HX0:=J (heap_alloc_new w (.cells #[v1,v2,v3,v4,v5,v6,v7,.bool m.hasStart,.int .u32 ↑m.start,v8,v9,v10] 49))
 clear hM hF
 obtain ⟨R,hR⟩:∃ R,Ru.check m = R:=⟨_,rfl⟩
 have HR:=J hR
 rw [hR]
 clear hR
 generalize m.hasStart = ms at *
 generalize (m.start:Int) = mi at *
 go_enter Tryz.func13,Tryz.ntmps13
 go_upto_region 1 with fail
 generalize w.alloc (.cells #[v1,v2,v3,v4,v5,v6,v7,.bool ms,.int .u32 mi,v8,v9,v10] 49) = w0 at HB0 HX0 ⊢
 obtain ⟨B,hB⟩:∃ B,w.heap.size = B:=⟨_,rfl⟩
 rw [hB] at HX0
 simp only [hB]
 clear hB
 have HXC:=J (fun W (hb:Below w0.heap.size w0 W)=>cells12 HX0.out hb)
 obtain ⟨x0,x1,x2,x3,x4,x5,x6,x7,x8,x9,x10,x11⟩:=HXC.out _ (Below.refl _ _)
 have HVV:Hid (Calls Tryz.prog 15 #[.agg #[v1,v2,v3,v4,v5,v6,v7,.bool ms,.int .u32 mi,v8,v9,v10]] w0 fun e w'=>∃ A n c,e = .returned (.tuple #[.slice A n c,.int .i64 (Va.num (Va.check m):Int)]) ∧ aa w' (· < w'.heap.size) (Va.hts (Va.check m)) (.slice A n c) ∧ Below w0.heap.size w0 w'):=J ((HV.out w0 HB0.out).mono (fun e w' hq=>by
  obtain ⟨v,h1,h2,h3⟩:=hq
  obtain ⟨A,c,rfl,_⟩:=id h2
  exact ⟨A,_,c,h1,h2,h3⟩))
 clear HV
 obtain ⟨q,hq⟩:∃ q,Va.num (Va.check m) = q:=⟨_,rfl⟩
 rw [hq] at HVV
 have HQ:=J hq
 clear hq
 go_upto_region 2 with (go_at_call 15;refine HVV.out.mono ?_;rintro e w1 ⟨A,n,c,rfl,hh,hb⟩;have HB1:=J hb;have HH:=J hh;clear hb hh)
 clear x0 x1 x2 x3 x4 x5 x6 x7 x8 x9 x10 x11 HVV
 by_cases h0:q = 0
 ·have hq0:((q:Int) == 0) = true:=by rw [beq_iff_eq];omega
  have hq1:(!((q:Int) == 0)) = false:=by rw [hq0];rfl
  obtain ⟨hs,hg⟩:=Va.num_zero.1 (HQ.out.trans h0)
  have HG:=J hg
  have HH2:Hid (aa w1 (· < w1.heap.size) (hs.map Va.Ht.mk) (.slice A n c)):=J (by have:=HH.out;rw [Va.check_ok.2 hg] at this;exact this)
  have HRG:=J (HR.out.symm.trans (Ru.check_good hg))
  clear HH hg HR
  obtain ⟨x0,x1,x2,x3,x4,x5,x6,x7,x8,x9,x10,x11⟩:=HXC.out _ HB1.out
  have HSS:=J (HSO.out w1 (HB0.out.trans (HB1.out.mono HB0.out.size)))
  go_upto_region 5 with (go_at_call 18;refine HSS.out.mono ?_;rintro e w2 ⟨sp,rfl,hS,hb⟩;have HB2:=J (HB1.out.trans (hb.mono HB1.out.size));have HS:=J hS;have HH3:=J (HH2.out.grow hb);clear hb hS)
  clear x0 x1 x2 x3 x4 x5 x6 x7 x8 x9 x10 x11 HSS HSO
  obtain ⟨x0,x1,x2,x3,x4,x5,x6,x7,x8,x9,x10,x11⟩:=HXC.out _ HB2.out
  have HT:=J (HTM.out hs HG.out sp _ w2 (HB0.out.trans (HB2.out.mono HB0.out.size)) HS.out HH3.out)
  clear HTM
  obtain ⟨bm,hbm⟩:∃ b,Ru.muchN m hs = b:=⟨_,rfl⟩
  rw [hbm] at HT HRG
  clear hbm
  obtain ⟨bi,hbi⟩:∃ b,m.imports.all (Ru.impB m) = b:=⟨_,rfl⟩
  rw [hbi] at HRG
  have HBI:=J hbi
  clear hbi
  obtain ⟨be,hbe⟩:∃ b,Ru.expsB m = b:=⟨_,rfl⟩
  rw [hbe] at HRG
  have HBE:=J hbe
  clear hbe
  cases bm with
  | true =>
   have HR2:Hid (R = 122):=J (by rw [HRG.out];rfl)
   go_wp2_with (go_at_call 19;refine HT.out.mono ?_;rintro e w3 ⟨rfl,hb⟩;have HB3:=J (HB2.out.trans (hb.mono HB2.out.size));clear hb)
   go_ret
   rw [HR2.out]
   exact ⟨rfl,HB0.out.trans (HB3.out.mono HB0.out.size)⟩
  | false =>
   go_upto_region 7 with (go_at_call 19;refine HT.out.mono ?_;rintro e w3 ⟨rfl,hb⟩;have HB3:=J (HB2.out.trans (hb.mono HB2.out.size));have HS3:=J (HS.out.grow hb);clear hb)
   clear x0 x1 x2 x3 x4 x5 x6 x7 x8 x9 x10 x11 HT
   obtain ⟨x0,x1,x2,x3,x4,x5,x6,x7,x8,x9,x10,x11⟩:=HXC.out _ HB3.out
   have HI:=J (HIM.out hs HG.out sp w3 (HB0.out.trans (HB3.out.mono HB0.out.size)) HS3.out)
   rw [HBI.out] at HI
   clear HIM
   cases bi with
   | false =>
    have HR2:Hid (R = 120):=J (by rw [HRG.out];rfl)
    go_wp2_with (go_at_call 20;refine HI.out.mono ?_;rintro e w4 ⟨rfl,hb⟩;have HB4:=J (HB3.out.trans (hb.mono HB3.out.size));clear hb)
    go_ret
    rw [HR2.out]
    exact ⟨rfl,HB0.out.trans (HB4.out.mono HB0.out.size)⟩
   | true =>
    go_upto_region 9 with (go_at_call 20;refine HI.out.mono ?_;rintro e w4 ⟨rfl,hb⟩;have HB4:=J (HB3.out.trans (hb.mono HB3.out.size));have HS4:=J (HS3.out.grow hb);clear hb)
    clear x0 x1 x2 x3 x4 x5 x6 x7 x8 x9 x10 x11 HI
    obtain ⟨x0,x1,x2,x3,x4,x5,x6,x7,x8,x9,x10,x11⟩:=HXC.out _ HB4.out
    have HE:=J (HEX.out sp w4 (HB0.out.trans (HB4.out.mono HB0.out.size)) HS4.out)
    rw [HBE.out] at HE
    clear HEX
    cases be with
    | false =>
     have HR2:Hid (R = 121):=J (by rw [HRG.out];rfl)
     go_wp2_with (go_at_call 21;refine HE.out.mono ?_;rintro e w5 ⟨rfl,hb⟩;have HB5:=J (HB4.out.trans (hb.mono HB4.out.size));clear hb)
     go_ret
     rw [HR2.out]
     exact ⟨rfl,HB0.out.trans (HB5.out.mono HB0.out.size)⟩
    | true =>
     have HR2:Hid (R = 0):=J (by rw [HRG.out];rfl)
     go_wp2_with (go_at_call 21;refine HE.out.mono ?_;rintro e w5 ⟨rfl,hb⟩;have HB5:=J (HB4.out.trans (hb.mono HB4.out.size));clear hb)
     go_ret
     rw [HR2.out]
     exact ⟨rfl,HB0.out.trans (HB5.out.mono HB0.out.size)⟩
 ·have hq0:((q:Int) == 0) = false:=nB (by omega)
  have hq1:(!((q:Int) == 0)) = true:=by rw [hq0];rfl
  have HR2:Hid (R = q):=J (by rw [← HR.out,← HQ.out];exact Ru.check_err (by rw [HQ.out];exact h0))
  go_wp2_with fail
  go_ret
  rw [HR2.out]
  exact ⟨rfl,HB0.out.trans (HB1.out.mono HB0.out.size)⟩
end Go.Proofs.YtmpelmihdpomjaaGreat
