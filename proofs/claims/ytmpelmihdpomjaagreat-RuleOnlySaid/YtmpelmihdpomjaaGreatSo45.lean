/-
  Layer 12's program: whether something of a module is too much. (gen/rule/much.py)
-/
import Derived.Test.YtmpelmihdpomjaaGreatSo01
import Derived.Test.YtmpelmihdpomjaaGreatSo44
import Derived.Test.YtmpelmihdpomjaaGreatSo42
import Derived.Test.YtmpelmihdpomjaaGreatSo23
set_option maxRecDepth 100000
set_option maxHeartbeats 4000000
namespace Ru
open Bin Sp Ins Go.Proofs.YtmpelmihdpomjaaGreat
def codeAtN (m:M) (hs:List Nat) (i:Nat):Bool:=match m.codes[i]?,hs[i]? with
 | some c,some h=>codeN ((func m (imported m 0 + i)).getD ⟨[],[]⟩).params.length c h
 | _,_=>false
def muchN (m:M) (hs:List Nat):Bool :=
 ((((((((((((((false || decide (256 < m.types.length)) || decide (64 < m.imports.length)) || decide (512 < m.funcs.length)) || decide (128 < count m 3)) || decide (128 < m.exports.length)) || decide (64 < m.elems.length)) || decide (64 < m.datas.length)) || m.types.any typN) || m.imports.any impN) || m.exports.any expN) || m.elems.any eleN) || (tabs m).any tabN) || (mems m).any memN) || (List.range m.codes.length).any (codeAtN m hs))
theorem d8 {m:M} {hsAll:List Nat}:∀ (ts:List Nat) (cs:List Cd) (hs:List Nat) (k:Nat),ts.length = cs.length → hs.length = cs.length → (∀ (i:Nat) (t:Nat) (c:Cd) (h:Nat),ts[i]? = some t → cs[i]? = some c → hs[i]? = some h → codeAtN m hsAll (k + i) = codeN ((m.types[t]?).getD ⟨[],[]⟩).params.length c h) → codesB m ts cs hs = !((List.range cs.length).any fun i=>codeAtN m hsAll (k + i))
 | [],[],[],_,_,_,_=>rfl
 | t :: ts,c :: cs,h :: hs,k,h1,h2,hx=>by
  rw [codesB,codeN_not,d8 ts cs hs (k + 1) (by simpa using h1) (by simpa using h2) (fun i t c h a b d=>by
   have:=hx (i + 1) t c h a b d
   rw [← this]
   congr 1
   omega),← hx 0 t c h rfl rfl rfl,List.length_cons,List.range_succ_eq_map,List.any_cons,List.any_map,Bool.not_or]
  congr 3
  funext i
  simp only [Function.comp]
  congr 1
  omega
 | [],_ :: _,_,_,h,_,_=>by simp at h
 | _ :: _,[],_,_,h,_,_=>by simp at h
 | [],[],_ :: _,_,_,h,_=>by simp at h
 | _ :: _,_ :: _,[],_,_,h,_=>by simp at h
theorem df {α:Type} {p q:α → Bool} (h:∀ x,p x = !q x) (l:List α):l.all p = !l.any q:=by
 induction l with
 | nil=>rfl
 | cons x l ih=>rw [List.all_cons,List.any_cons,h,ih,Bool.not_or]
theorem bX (n k:Nat):decide (n ≤ k) = !decide (k < n):=by
 by_cases h:n ≤ k
 ·rw [decide_eq_true h,decide_eq_false (by omega)];rfl
 ·rw [decide_eq_false h,decide_eq_true (by omega)];rfl
theorem one_note {l:List Lim} (h:l.length ≤ 1) (k:Nat):(l[0]?).all (fun x=>decide (x.min ≤ k)) = !l.any (fun x=>decide (k < x.min)):=by
 match l,h with
 | [],_=>rfl
 | [x],_=>simp [bX]
theorem much_not {m:M} {hs:List Nat} (hg:Va.Good m hs):sizesB m hs = !muchN m hs:=by
 have hc:codesB m m.funcs m.codes hs = !((List.range m.codes.length).any (codeAtN m hs)):=by
  have:=d8 (m:=m) (hsAll:=hs) m.funcs m.codes hs 0 hg.shape.1.symm hg.len (fun i t c h a b d=>by
   unfold codeAtN
   rw [Nat.zero_add,b,d]
   have e:func m (imported m 0 + i) = m.types[t]?:=by
    unfold func funs
    rw [aE (by decide),List.getElem?_append_right (by simp),List.length_map,Nat.add_sub_cancel_left,a]
    rfl
   rw [e])
  rw [this]
  simp only [Nat.zero_add]
 have ht:=one_note (l:=tabs m) (by rw [bk];exact hg.few.1) 1024
 have hm:=one_note (l:=mems m) (by rw [bj];exact hg.few.2) 16
 unfold sizesB listsB muchN
 rw [hc,ht,hm,df (q:=typN) (fun x=>bX _ _),df (q:=impN) (fun x=>by unfold impN;rw [bX,bX,Bool.not_or]),df (q:=expN) (fun x=>bX _ _),df (q:=eleN) (fun x=>bX _ _)]
 simp only [bX]
 show _ = !((((((((((((((false || decide (256 < m.types.length)) || decide (64 < m.imports.length)) || decide (512 < m.funcs.length)) || decide (128 < count m 3)) || decide (128 < m.exports.length)) || decide (64 < m.elems.length)) || decide (64 < m.datas.length)) || m.types.any typN) || m.imports.any impN) || m.exports.any expN) || m.elems.any eleN) || (tabs m).any (fun x=>decide (1024 < x.min))) || (mems m).any (fun x=>decide (16 < x.min))) || (List.range m.codes.length).any (codeAtN m hs))
 generalize decide (256 < m.types.length) = a1
 generalize decide (64 < m.imports.length) = a2
 generalize decide (512 < m.funcs.length) = a3
 generalize decide (128 < count m 3) = a4
 generalize decide (128 < m.exports.length) = a5
 generalize decide (64 < m.elems.length) = a6
 generalize decide (64 < m.datas.length) = a7
 generalize m.types.any typN = a8
 generalize m.imports.any impN = a9
 generalize m.exports.any expN = a10
 generalize m.elems.any eleN = a11
 generalize (tabs m).any (fun x=>decide (1024 < x.min)) = a12
 generalize (mems m).any (fun x=>decide (16 < x.min)) = a13
 generalize (List.range m.codes.length).any (codeAtN m hs) = a14
 cases a1 <;> cases a2 <;> cases a3 <;> cases a4 <;> cases a5 <;> cases a6 <;> cases a7 <;> simp <;> (try (cases a8 <;> cases a9 <;> cases a10 <;> cases a11 <;> cases a12 <;> cases a13 <;> cases a14 <;> rfl))
end Ru
namespace Go.Proofs.YtmpelmihdpomjaaGreat
open Go.RowKit Ins Bin Sp
theorem rmuch_any (m:M) (v1 v2 v3 v4 v5 v6 v7 v8 v9 v10 hv:Value) (hs:List Nat) (sp:Nat) (w:World) (hM:RepM w (· < w.heap.size) m v1 v2 v3 v4 v5 v6 v7 v8 v9 v10) (hF:FitR m) (hS:aC w sp m) (hH:aa w (· < w.heap.size) (hs.map Va.Ht.mk) hv) (hg:Va.Good m hs) :
  Calls Tryz.prog 19 #[.agg #[v1,v2,v3,v4,v5,v6,v7,.bool m.hasStart,.int .u32 ↑m.start,v8,v9,v10],.pointer (some ⟨sp,0,none⟩),hv] w fun e w'=>e = .returned (.bool (Ru.muchN m hs)) ∧ Below w.heap.size w w':=by
 obtain ⟨Ah,ch,eh,_⟩:=id hH
 rw [List.length_map] at eh
 obtain ⟨A9,c9,e9,_⟩:=id hM.codes
 have hcl:=hF.1.codes.1
 have HB0:Hid (Below w.heap.size w (w.alloc (.cells #[v1,v2,v3,v4,v5,v6,v7,.bool m.hasStart,.int .u32 ↑m.start,v8,v9,v10] 49))):=J bA
 have HX0:=J (heap_alloc_new w (.cells #[v1,v2,v3,v4,v5,v6,v7,.bool m.hasStart,.int .u32 ↑m.start,v8,v9,v10] 49))
 have HMU:Hid (Ru.muchN m hs = ((((((((((((((false || decide (256 < m.types.length)) || decide (64 < m.imports.length)) || decide (512 < m.funcs.length)) || decide (128 < count m 3)) || decide (128 < m.exports.length)) || decide (64 < m.elems.length)) || decide (64 < m.datas.length)) || m.types.any typN) || m.imports.any impN) || m.exports.any expN) || m.elems.any eleN) || (tabs m).any tabN) || (mems m).any memN) || (List.range m.codes.length).any (Ru.codeAtN m hs))):=J rfl
 have HCODE:Hid (∀ (C:RC),C.Good → C.m = m → C.hs = hs → ∀ (W0 W:World) (b:Bool) (i:Nat),i < m.codes.length → Nt C W0 W b → Calls Tryz.prog 51 #[.pointer (some ⟨C.X,0,none⟩),.int .i64 ↑i] W fun e W'=>e = .returned (.tuple #[]) ∧ Nt C W0 W' (b || Ru.codeAtN m hs i)):=J (fun C hC hm hhs W0 W b i hi hn=>by
  subst hm hhs
  obtain ⟨c,hc⟩:∃ c,C.m.codes[i]? = some c:=⟨_,List.getElem?_eq_getElem hi⟩
  obtain ⟨f,h,h1,h2,h3,h4,h5⟩:=Ru.good_code hC.good hc
  have e:Ru.codeAtN C.m C.hs i = Ru.codeN f.params.length c h:=by
   unfold Ru.codeAtN
   rw [hc,h3,h1]
   rfl
  rw [e]
  exact rcode_any hC hn i c hc f h1 h2 h h3 h4 h5)
 have HG:Hid (∀ X Y,w.heap.size ≤ X → w.heap.size ≤ Y → X ≠ Y → (⟨w,m,sp,X,Y,v1,v2,v3,v4,v5,v6,v7,v8,v9,v10,hv,hs⟩:RC).Good):=J (fun X Y hX hY hn=>⟨hM,hS,hH,hF,hg,hX,hY,hn⟩)
 obtain ⟨n9,f9⟩:∃ n,m.codes.length = n:=⟨_,rfl⟩
 rw [f9] at e9 hcl HCODE HMU
 have HE9:=J e9
 clear hM hF hS hH hg f9
 obtain ⟨nh,fnh⟩:∃ n,hs.length = n:=⟨_,rfl⟩
 rw [fnh] at eh
 subst eh
 clear e9 fnh
 generalize hmh:m.hasStart = ms at *
 generalize hms:(m.start:Int) = mi at *
 have HMH:=J hmh
 have HMS:=J hms
 clear hmh hms
 go_enter Tryz.func19,Tryz.ntmps19
 go_upto_region 1 with fail
 generalize w.alloc (.cells #[v1,v2,v3,v4,v5,v6,v7,.bool ms,.int .u32 mi,v8,v9,v10] 49) = w0 at HB0 HX0 ⊢
 obtain ⟨B,hB⟩:∃ B,w.heap.size = B:=⟨_,rfl⟩
 rw [hB] at HX0
 have HBW:Hid (w.heap.size = B):=J hB
 simp only [hB]
 clear hB
 have HB1:Hid (Below w.heap.size w (w0.alloc (.cells #[.bool false] 4))):=J (HB0.out.alloc HB0.out.size _)
 have HX1:Hid ((w0.alloc (.cells #[.bool false] 4)).heap[B]? = _):=J ((Below.heap_alloc w0 _ _ (gL HX0.out)).trans HX0.out)
 have HY1:=J (heap_alloc_new w0 (.cells #[.bool false] 4))
 have HYL:Hid (B < w0.heap.size):=J (gL HX0.out)
 have HYW:Hid (w.heap.size ≤ w0.heap.size):=J HB0.out.size
 go_upto_region 2 with fail
 obtain ⟨Y,hY⟩:∃ Y,w0.heap.size = Y:=⟨_,rfl⟩
 rw [hY] at HY1 HYL HYW
 simp only [hY]
 clear hY
 generalize w0.alloc (.cells #[.bool false] 4) = w1 at HB1 HX1 HY1 ⊢
 clear HB0 HX0
 have x0:=cellV HX1.out 0 _ rfl
 have x1:=cellV HX1.out 1 _ rfl
 have x2:=cellV HX1.out 2 _ rfl
 have x3:=cellV HX1.out 3 _ rfl
 have x4:=cellV HX1.out 4 _ rfl
 have x5:=cellV HX1.out 5 _ rfl
 have x6:=cellV HX1.out 6 _ rfl
 have x7:=cellV HX1.out 7 _ rfl
 have x8:=cellV HX1.out 8 _ rfl
 have x9:=cellV HX1.out 9 _ rfl
 have x10:=cellV HX1.out 10 _ rfl
 have x11:=cellV HX1.out 11 _ rfl
 have HB2:Hid (Below w.heap.size w (w1.alloc (.cells #[v1,v2,v3,v4,v5,v6,v7,.bool ms,.int .u32 mi,v8,v9,v10,.pointer (some ⟨sp,0,none⟩),.slice Ah nh ch,.func (.func 47) #[] #[.pointer (some ⟨Y,0,none⟩)]] 122))):=J (HB1.out.alloc HB1.out.size _)
 have HX2:Hid ((w1.alloc (.cells #[v1,v2,v3,v4,v5,v6,v7,.bool ms,.int .u32 mi,v8,v9,v10,.pointer (some ⟨sp,0,none⟩),.slice Ah nh ch,.func (.func 47) #[] #[.pointer (some ⟨Y,0,none⟩)]] 122)).heap[B]? = _):=J ((Below.heap_alloc w1 _ _ (gL HX1.out)).trans HX1.out)
 have HY2:Hid ((w1.alloc (.cells #[v1,v2,v3,v4,v5,v6,v7,.bool ms,.int .u32 mi,v8,v9,v10,.pointer (some ⟨sp,0,none⟩),.slice Ah nh ch,.func (.func 47) #[] #[.pointer (some ⟨Y,0,none⟩)]] 122)).heap[Y]? = _):=J ((Below.heap_alloc w1 _ _ (gL HY1.out)).trans HY1.out)
 have HZ2:=J (heap_alloc_new w1 (.cells #[v1,v2,v3,v4,v5,v6,v7,.bool ms,.int .u32 mi,v8,v9,v10,.pointer (some ⟨sp,0,none⟩),.slice Ah nh ch,.func (.func 47) #[] #[.pointer (some ⟨Y,0,none⟩)]] 122))
 have HXY:Hid (w1.heap.size ≠ Y):=J (fun e=>by have:=(gL HY1.out);omega)
 have HXW:Hid (w.heap.size ≤ w1.heap.size):=J HB1.out.size
 go_upto_region 3 with fail
 obtain ⟨X,hX⟩:∃ X,w1.heap.size = X:=⟨_,rfl⟩
 rw [hX] at HZ2 HXY HXW
 simp only [hX]
 clear hX x0 x1 x2 x3 x4 x5 x6 x7 x8 x9 x10 x11
 generalize w1.alloc (.cells #[v1,v2,v3,v4,v5,v6,v7,.bool ms,.int .u32 mi,v8,v9,v10,.pointer (some ⟨sp,0,none⟩),.slice Ah nh ch,.func (.func 47) #[] #[.pointer (some ⟨Y,0,none⟩)]] 122) = w2 at HB2 HX2 HY2 HZ2 ⊢
 clear HB1 HX1 HY1
 have hgd:=HG.out X Y HXW.out HYW.out HXY.out
 obtain ⟨C,hC⟩:∃ C:RC,C = ⟨w,m,sp,X,Y,v1,v2,v3,v4,v5,v6,v7,v8,v9,v10,.slice Ah nh ch,hs⟩:=⟨_,rfl⟩
 have hcm:C.m = m:=by rw [hC]
 have hch:C.hs = hs:=by rw [hC]
 have hcX:C.X = X:=by rw [hC]
 have hcY:C.Y = Y:=by rw [hC]
 have hcw:C.w = w:=by rw [hC]
 have hgd2:C.Good:=by rw [hC];exact hgd
 have hn0:Nt C w2 w2 false:=by
  rw [hC]
  exact ⟨Mod.refl _ _,HB2.out,by rw [← HMH.out,← HMS.out] at HZ2;exact HZ2.out,HY2.out⟩
 have HN:=J hn0
 have HCB:Hid (B ≠ C.Y):=J (by rw [hcY];have:=HYL.out;omega)
 have HL:=J (fun (W:World) (b:Bool) (hq:Nt C w2 W b)=>rlists_any hgd2 hq)
 have HE:=J (fun (W:World) (b:Bool) (hq:Nt C w2 W b)=>fz hgd2 hq)
 have HLI:=J (fun (W:World) (b:Bool) (hq:Nt C w2 W b)=>rlimits_any hgd2 hq)
 have HCO:=J (fun (W:World) (b:Bool) (i:Nat) (hi:i < n9) (hq:Nt C w2 W b)=>HCODE.out C hgd2 hcm hch w2 W b i hi hq)
 rw [hcX,hcm] at HL HE HLI
 rw [hcX] at HCO
 have HCY:=J hcY
 have HCW:=J hcw
 clear HG HCODE hgd hC hcm hch hcX hcY hcw hgd2 hn0 HZ2 HY2 HB2
 go_upto_region 4 with (go_at_call 48;refine (HL.out _ _ HN.out).mono ?_;rintro e wk ⟨rfl,hn⟩;have HN2:=J hn;clear HN hn;have HN:=HN2;clear HN2)
 obtain ⟨b1,hb1⟩:∃ q,(((((((false || decide (256 < m.types.length)) || decide (64 < m.imports.length)) || decide (512 < m.funcs.length)) || decide (128 < count m 3)) || decide (128 < m.exports.length)) || decide (64 < m.elems.length)) || decide (64 < m.datas.length)) = q:=⟨_,rfl⟩
 rw [hb1] at HN HMU
 clear hb1 HL
 go_upto_region 5 with (go_at_call 49;refine (HE.out _ _ HN.out).mono ?_;rintro e wk ⟨rfl,hn⟩;have HN2:=J hn;clear HN hn;have HN:=HN2;clear HN2)
 obtain ⟨b2,hb2⟩:∃ q,((((b1 || m.types.any typN) || m.imports.any impN) || m.exports.any expN) || m.elems.any eleN) = q:=⟨_,rfl⟩
 rw [hb2] at HN HMU
 clear hb2 HE
 go_upto_region 6 with (go_at_call 50;refine (HLI.out _ _ HN.out).mono ?_;rintro e wk ⟨rfl,hn⟩;have HN2:=J hn;clear HN hn;have HN:=HN2;clear HN2)
 obtain ⟨b3,hb3⟩:∃ q,((b2 || (tabs m).any tabN) || (mems m).any memN) = q:=⟨_,rfl⟩
 rw [hb3] at HN HMU
 clear hb3 HLI
 have x10:=cellV (HN.out.md.heap HX2.out HCB.out) 10 (.slice A9 n9 c9) (by show some v9 = _;rw [HE9.out])
 go_upto_region 7 with fail
 clear x10
 go_loopw [25] (fun iv wr=>∃ j:Nat,j ≤ n9 ∧ iv = .int .i64 ↑j ∧ Hid (Nt C w2 wr (b3 || (List.range j).any (Ru.codeAtN m hs)))) (fun iv _=>n9 - (intOf iv).toNat)
 case atStart=>exact ⟨0,Nat.zero_le _,rfl,J (by rw [List.range_zero,List.any_nil,Bool.or_false];exact HN.out)⟩
 case round =>
  clear HN
  obtain ⟨j,hj,rfl,HN⟩:=hrel
  by_cases hlt:j < n9
  ·have hlti:(j:Int) < (n9:Int):=by omega
   go_wp2_with (go_at_call 51;refine (HCO.out _ _ _ hlt HN.out).mono ?_;rintro e wk ⟨rfl,hn⟩;have HN2:=J hn;clear HN hn;have HN:=HN2;clear HN2)
   go_roundw
   case rel=>exact ⟨j + 1,by omega,by go_num,J (by rw [List.range_succ,List.any_append,← Bool.or_assoc];simpa using HN.out)⟩
   case measure=>simp [intOf];omega
  ·have hlti:decide ((j:Int) < (n9:Int)) = false:=decide_eq_false (by omega)
   have hjn:j = n9:=by omega
   have HM2:Hid (Ru.muchN m hs = (b3 || (List.range j).any (Ru.codeAtN m hs))):=J (by rw [hjn];exact HMU.out)
   clear hjn HMU
   obtain ⟨b4,hb4⟩:∃ q,(b3 || (List.range j).any (Ru.codeAtN m hs)) = q:=⟨_,rfl⟩
   rw [hb4] at HN HM2
   clear hb4
   have hy:wr.heap[Y]? = some (.cells #[.bool b4] 4 (0,0)):=by have:=HN.out.cy;rw [HCY.out] at this;exact this
   have y0:=cellV hy 0 _ rfl
   clear hy
   go_wp2_with fail
   go_ret
   rw [HM2.out]
   refine ⟨rfl,?_⟩
   have:=HN.out.bel
   rw [HCW.out] at this
   exact this
end Go.Proofs.YtmpelmihdpomjaaGreat
namespace Ru
open Bin Sp Ins
theorem check_err {m:M} (h:Va.num (Va.check m) ≠ 0):check m = Va.num (Va.check m):=by
 unfold check
 cases hc:Va.check m with
 | error e=>rfl
 | ok hs=>rw [hc] at h;exact absurd rfl h
theorem check_good {m:M} {hs:List Nat} (hg:Va.Good m hs):check m = if muchN m hs = true then 122 else (if m.imports.all (impB m) = true then (if expsB m = true then 0 else 121) else 120):=by
 unfold check
 rw [Va.check_ok.2 hg]
 dsimp only
 rw [much_not hg]
 cases muchN m hs <;> simp
end Ru
namespace Go.Proofs.YtmpelmihdpomjaaGreat
open Go.RowKit Ins Bin Sp
theorem dr:RuleOk:=by
 intro m v1 v2 v3 v4 v5 v6 v7 v8 v9 v10 w hM hF
 have HV:=J (fun W (hb:Below w.heap.size w W)=>valid_ok m v1 v2 v3 v4 v5 v6 v7 v8 v9 v10 W (hM.grow hb) hF.1)
 have HSO:=J (fun W (hb:Below w.heap.size w W)=>sofL_any m v1 v2 v3 v4 v5 v6 v7 v8 v9 v10 W (hM.grow hb) hF.1.lots)
 have HTM:=J (fun (hs:List Nat) (hg:Va.Good m hs) (sp:Nat) (hv:Value) W (hb:Below w.heap.size w W) (hS:aC W sp m) (hH:aa W (· < W.heap.size) (hs.map Va.Ht.mk) hv)=>rmuch_any m v1 v2 v3 v4 v5 v6 v7 v8 v9 v10 hv hs sp W (hM.grow hb) hF hS hH hg)
 have HIM:=J (fun (hs:List Nat) (hg:Va.Good m hs) (sp:Nat) W (hb:Below w.heap.size w W) (hS:aC W sp m)=>rimps_any m v1 v2 v3 v4 v5 v6 v7 v8 v9 v10 hs sp W (hM.grow hb) hF hS hg)
 have HEX:=J (fun (sp:Nat) W (hb:Below w.heap.size w W) (hS:aC W sp m)=>rexps_any m v1 v2 v3 v4 v5 v6 v7 v8 v9 v10 sp W (hM.grow hb) hF hS)
 unfold modCells at HV HSO ⊢
 have HB0:Hid (Below w.heap.size w (w.alloc (.cells #[v1,v2,v3,v4,v5,v6,v7,.bool m.hasStart,.int .u32 ↑m.start,v8,v9,v10] 49))):=J bA
 have HX0:=J (heap_alloc_new w (.cells #[v1,v2,v3,v4,v5,v6,v7,.bool m.hasStart,.int .u32 ↑m.start,v8,v9,v10] 49))
 clear hM hF
 obtain ⟨R,hR⟩:∃ R,Ru.check m = R:=⟨_,rfl⟩
 have HR:=J hR
 rw [hR]
 clear hR
 generalize m.hasStart = ms at *
 generalize (m.start:Int) = mi at *
 go_enter Tryz.func13,Tryz.ntmps13
 go_upto_region 1 with fail
 generalize w.alloc (.cells #[v1,v2,v3,v4,v5,v6,v7,.bool ms,.int .u32 mi,v8,v9,v10] 49) = w0 at HB0 HX0 ⊢
 obtain ⟨B,hB⟩:∃ B,w.heap.size = B:=⟨_,rfl⟩
 rw [hB] at HX0
 simp only [hB]
 clear hB
 have HXC:=J (fun W (hb:Below w0.heap.size w0 W)=>cells12 HX0.out hb)
 obtain ⟨x0,x1,x2,x3,x4,x5,x6,x7,x8,x9,x10,x11⟩:=HXC.out _ (Below.refl _ _)
 have HVV:Hid (Calls Tryz.prog 15 #[.agg #[v1,v2,v3,v4,v5,v6,v7,.bool ms,.int .u32 mi,v8,v9,v10]] w0 fun e w'=>∃ A n c,e = .returned (.tuple #[.slice A n c,.int .i64 (Va.num (Va.check m):Int)]) ∧ aa w' (· < w'.heap.size) (Va.hts (Va.check m)) (.slice A n c) ∧ Below w0.heap.size w0 w'):=J ((HV.out w0 HB0.out).mono (fun e w' hq=>by
  obtain ⟨v,h1,h2,h3⟩:=hq
  obtain ⟨A,c,rfl,_⟩:=id h2
  exact ⟨A,_,c,h1,h2,h3⟩))
 clear HV
 obtain ⟨q,hq⟩:∃ q,Va.num (Va.check m) = q:=⟨_,rfl⟩
 rw [hq] at HVV
 have HQ:=J hq
 clear hq
 go_upto_region 2 with (go_at_call 15;refine HVV.out.mono ?_;rintro e w1 ⟨A,n,c,rfl,hh,hb⟩;have HB1:=J hb;have HH:=J hh;clear hb hh)
 clear x0 x1 x2 x3 x4 x5 x6 x7 x8 x9 x10 x11 HVV
 by_cases h0:q = 0
 ·have hq0:((q:Int) == 0) = true:=by rw [beq_iff_eq];omega
  have hq1:(!((q:Int) == 0)) = false:=by rw [hq0];rfl
  obtain ⟨hs,hg⟩:=Va.num_zero.1 (HQ.out.trans h0)
  have HG:=J hg
  have HH2:Hid (aa w1 (· < w1.heap.size) (hs.map Va.Ht.mk) (.slice A n c)):=J (by have:=HH.out;rw [Va.check_ok.2 hg] at this;exact this)
  have HRG:=J (HR.out.symm.trans (Ru.check_good hg))
  clear HH hg HR
  obtain ⟨x0,x1,x2,x3,x4,x5,x6,x7,x8,x9,x10,x11⟩:=HXC.out _ HB1.out
  have HSS:=J (HSO.out w1 (HB0.out.trans (HB1.out.mono HB0.out.size)))
  go_upto_region 5 with (go_at_call 18;refine HSS.out.mono ?_;rintro e w2 ⟨sp,rfl,hS,hb⟩;have HB2:=J (HB1.out.trans (hb.mono HB1.out.size));have HS:=J hS;have HH3:=J (HH2.out.grow hb);clear hb hS)
  clear x0 x1 x2 x3 x4 x5 x6 x7 x8 x9 x10 x11 HSS HSO
  obtain ⟨x0,x1,x2,x3,x4,x5,x6,x7,x8,x9,x10,x11⟩:=HXC.out _ HB2.out
  have HT:=J (HTM.out hs HG.out sp _ w2 (HB0.out.trans (HB2.out.mono HB0.out.size)) HS.out HH3.out)
  clear HTM
  obtain ⟨bm,hbm⟩:∃ b,Ru.muchN m hs = b:=⟨_,rfl⟩
  rw [hbm] at HT HRG
  clear hbm
  obtain ⟨bi,hbi⟩:∃ b,m.imports.all (Ru.impB m) = b:=⟨_,rfl⟩
  rw [hbi] at HRG
  have HBI:=J hbi
  clear hbi
  obtain ⟨be,hbe⟩:∃ b,Ru.expsB m = b:=⟨_,rfl⟩
  rw [hbe] at HRG
  have HBE:=J hbe
  clear hbe
  cases bm with
  | true =>
   have HR2:Hid (R = 122):=J (by rw [HRG.out];rfl)
   go_wp2_with (go_at_call 19;refine HT.out.mono ?_;rintro e w3 ⟨rfl,hb⟩;have HB3:=J (HB2.out.trans (hb.mono HB2.out.size));clear hb)
   go_ret
   rw [HR2.out]
   exact ⟨rfl,HB0.out.trans (HB3.out.mono HB0.out.size)⟩
  | false =>
   go_upto_region 7 with (go_at_call 19;refine HT.out.mono ?_;rintro e w3 ⟨rfl,hb⟩;have HB3:=J (HB2.out.trans (hb.mono HB2.out.size));have HS3:=J (HS.out.grow hb);clear hb)
   clear x0 x1 x2 x3 x4 x5 x6 x7 x8 x9 x10 x11 HT
   obtain ⟨x0,x1,x2,x3,x4,x5,x6,x7,x8,x9,x10,x11⟩:=HXC.out _ HB3.out
   have HI:=J (HIM.out hs HG.out sp w3 (HB0.out.trans (HB3.out.mono HB0.out.size)) HS3.out)
   rw [HBI.out] at HI
   clear HIM
   cases bi with
   | false =>
    have HR2:Hid (R = 120):=J (by rw [HRG.out];rfl)
    go_wp2_with (go_at_call 20;refine HI.out.mono ?_;rintro e w4 ⟨rfl,hb⟩;have HB4:=J (HB3.out.trans (hb.mono HB3.out.size));clear hb)
    go_ret
    rw [HR2.out]
    exact ⟨rfl,HB0.out.trans (HB4.out.mono HB0.out.size)⟩
   | true =>
    go_upto_region 9 with (go_at_call 20;refine HI.out.mono ?_;rintro e w4 ⟨rfl,hb⟩;have HB4:=J (HB3.out.trans (hb.mono HB3.out.size));have HS4:=J (HS3.out.grow hb);clear hb)
    clear x0 x1 x2 x3 x4 x5 x6 x7 x8 x9 x10 x11 HI
    obtain ⟨x0,x1,x2,x3,x4,x5,x6,x7,x8,x9,x10,x11⟩:=HXC.out _ HB4.out
    have HE:=J (HEX.out sp w4 (HB0.out.trans (HB4.out.mono HB0.out.size)) HS4.out)
    rw [HBE.out] at HE
    clear HEX
    cases be with
    | false =>
     have HR2:Hid (R = 121):=J (by rw [HRG.out];rfl)
     go_wp2_with (go_at_call 21;refine HE.out.mono ?_;rintro e w5 ⟨rfl,hb⟩;have HB5:=J (HB4.out.trans (hb.mono HB4.out.size));clear hb)
     go_ret
     rw [HR2.out]
     exact ⟨rfl,HB0.out.trans (HB5.out.mono HB0.out.size)⟩
    | true =>
     have HR2:Hid (R = 0):=J (by rw [HRG.out];rfl)
     go_wp2_with (go_at_call 21;refine HE.out.mono ?_;rintro e w5 ⟨rfl,hb⟩;have HB5:=J (HB4.out.trans (hb.mono HB4.out.size));clear hb)
     go_ret
     rw [HR2.out]
     exact ⟨rfl,HB0.out.trans (HB5.out.mono HB0.out.size)⟩
 ·have hq0:((q:Int) == 0) = false:=nB (by omega)
  have hq1:(!((q:Int) == 0)) = true:=by rw [hq0];rfl
  have HR2:Hid (R = q):=J (by rw [← HR.out,← HQ.out];exact Ru.check_err (by rw [HQ.out];exact h0))
  go_wp2_with fail
  go_ret
  rw [HR2.out]
  exact ⟨rfl,HB0.out.trans (HB1.out.mono HB0.out.size)⟩
end Go.Proofs.YtmpelmihdpomjaaGreat
namespace Ru
open Go.Proofs.YtmpelmihdpomjaaGreat
theorem find_self {j:Nat} (h:j < 16):∃ x,hosts[j]? = some x ∧ find x.name = some j:=by
 have hl:j < hosts.length:=h
 refine ⟨hosts[j],List.getElem?_eq_getElem hl,?_⟩
 have:∀ i:Fin 16,find (hosts[i.val]'(i.isLt)).name = some i.val:=by decide
 exact this ⟨j,h⟩
end Ru
namespace Go.Proofs.YtmpelmihdpomjaaGreat
open Go.RowKit Ins Bin Sp
theorem roffers_any (nm:List UInt8) (w:World):Calls Tryz.prog 3 #[strV nm] w fun e w'=>e = .returned (.bool true) ∧ Below w.heap.size w w':=by
 have HKN:=J (known12 dr bx w)
 have HFA:=J (fun W=>bx nm W)
 have HDA:=J (fun W=>dfind_any nm W)
 unfold strV at HFA HDA ⊢
 generalize (⟨nm.toArray⟩:ByteArray) = NB at HFA HDA ⊢
 obtain ⟨fo,hfo⟩:∃ q,Ru.find nm = q:=⟨_,rfl⟩
 rw [hfo] at HFA HDA
 clear hfo
 obtain ⟨nH,hnH⟩:∃ k,Ru.hosts.length = k:=⟨_,rfl⟩
 have HNH:=J hnH
 have hn16:nH ≤ 16:=by rw [← hnH,Ru.hosts_len];exact Nat.le_refl _
 clear hnH
 go_enter Tryz.func3,Tryz.ntmps3
 go_upto_region 3 with (go_at_call 6;refine HKN.out.mono ?_;rintro e w1 ⟨rfl,hb⟩;have HB1:=J hb;clear hb)
 go_wp2_with fail
 refine (bZ w1).mono ?_
 rintro e w2 ⟨v,rfl,hs1,hb⟩
 have HB2:=J (HB1.out.trans (hb.mono HB1.out.size))
 obtain ⟨AL,cL,eL,hcL,_⟩:=id hs1
 rw [HNH.out] at eL hcL
 subst eL
 have HS1:=J hs1
 clear hs1 hb
 go_wp2_with fail
 refine (eg w2).mono ?_
 rintro e w3 ⟨v,rfl,hs2,hb⟩
 have HB3:=J (HB2.out.trans (hb.mono HB2.out.size))
 obtain ⟨AD,cD,eD,hcD,_⟩:=id hs2
 rw [HNH.out] at eD hcD
 subst eD
 have HLL:Hid (HasL w3 (· < w3.heap.size) AL Ru.hosts):=J (dl ((HS1.out.more (S':=(· < w2.heap.size)) (fun _ h _=>h)).grow hb))
 have HLD:Hid (HasL w3 (· < w3.heap.size) AD Ru.hosts):=J (dl (hs2.more (S':=(· < w3.heap.size)) (fun _ h _=>h)))
 clear hs2 hb HS1
 go_upto_region 7 with fail
 go_loopw [23] (fun iv wr=>∃ j:Nat,j ≤ nH ∧ iv = .int .i64 ↑j ∧ Hid (Below w3.heap.size w3 wr)) (fun iv _=>nH - (intOf iv).toNat)
 case atStart=>exact ⟨0,Nat.zero_le _,rfl,J (Below.refl _ _)⟩
 case round =>
  obtain ⟨j,hj,rfl,HB⟩:=hrel
  by_cases hlt:j < nH
  ·have hlti:(j:Int) < (nH:Int):=by omega
   obtain ⟨x,hx,hfx⟩:=Ru.find_self (j:=j) (by omega)
   have hxs:=Ru.host_small hx
   obtain ⟨g,o,A1,c1,A2,c2,rfl,_,hg,hc0,hc1,hc2,hu,hv⟩:=cF HLL.out hx
   obtain ⟨gd,od,A3,c3,A4,c4,rfl,_,hgd,hd0,hd1,hd2,hud,hvd⟩:=cF HLD.out hx
   have z0:=(HB.out.cell (p:=⟨g,o + j * 3,none⟩) hg).trans hc0
   have z1:=(HB.out.cell (p:=⟨g,o + j * 3 + 1,none⟩) hg).trans hc1
   have z2:=(HB.out.cell (p:=⟨g,o + j * 3 + 2,none⟩) hg).trans hc2
   have HSD:Hid (∀ W,Below w3.heap.size w3 W → W.cell? ⟨gd,od + j * 3,none⟩ = some (.string ⟨x.name.toArray⟩) ∧ W.cell? ⟨gd,od + j * 3 + 1,none⟩ = some (.slice A3 x.type.params.length c3) ∧ W.cell? ⟨gd,od + j * 3 + 2,none⟩ = some (.slice A4 x.type.results.length c4)):=J (fun W hb=>⟨(hb.cell (p:=⟨gd,od + j * 3,none⟩) hgd).trans hd0,(hb.cell (p:=⟨gd,od + j * 3 + 1,none⟩) hgd).trans hd1,(hb.cell (p:=⟨gd,od + j * 3 + 2,none⟩) hgd).trans hd2⟩)
   have HSA:Hid (∀ W,Below w3.heap.size w3 W → Calls Tryz.prog 9 #[.agg #[.slice A1 x.type.params.length c1,.slice A2 x.type.results.length c2],.agg #[.slice A3 x.type.params.length c3,.slice A4 x.type.results.length c4]] W fun e w'=>e = .returned (.bool true) ∧ Below W.heap.size W w'):=J (fun W hb=>by
    have h:=rsame_any x.type x.type (.slice A1 x.type.params.length c1) (.slice A2 x.type.results.length c2) (.slice A3 x.type.params.length c3) (.slice A4 x.type.results.length c4) W (hu.grow hb) (hv.grow hb) (hud.grow hb) (hvd.grow hb)
    rw [show decide (x.type = x.type) = true from decide_eq_true rfl] at h
    exact h)
   have HFX:Hid (∀ W,Calls Tryz.prog 10 #[.string ⟨x.name.toArray⟩] W fun e w'=>e = .returned (.tuple #[.int .i64 ↑j,.bool true]) ∧ Below W.heap.size W w'):=J (fun W=>by
    have h:=bx x.name W
    rw [hfx] at h
    exact h)
   obtain ⟨n1,e1⟩:∃ n,x.type.params.length = n:=⟨_,rfl⟩
   obtain ⟨n2,e2⟩:∃ n,x.type.results.length = n:=⟨_,rfl⟩
   obtain ⟨S,eS⟩:∃ s:ByteArray,(⟨x.name.toArray⟩:ByteArray) = s:=⟨_,rfl⟩
   rw [eS] at z0 HSD HFX
   rw [e1] at z1 HSD HSA
   rw [e2] at z2 HSD HSA
   clear hx hfx hxs hg hc0 hc1 hc2 hu hv hgd hd0 hd1 hd2 hud hvd e1 e2 eS
   have HZ0:=J (heap_alloc_new wr (.cells #[.string S,.slice A1 n1 c1,.slice A2 n2 c2] 31))
   have HNA:Hid (Below w3.heap.size w3 (wr.alloc (.cells #[.string S,.slice A1 n1 c1,.slice A2 n2 c2] 31))):=J (HB.out.alloc HB.out.size _)
   go_upto_region 9 with fail
   generalize wr.alloc (.cells #[.string S,.slice A1 n1 c1,.slice A2 n2 c2] 31) = wa at HZ0 HNA ⊢
   clear z0 z1 z2
   obtain ⟨Z,hZ⟩:∃ Z,wr.heap.size = Z:=⟨_,rfl⟩
   rw [hZ] at HZ0
   simp only [hZ]
   clear hZ
   have HSH:Hid (∀ W,Below wa.heap.size wa W → (W.cell? ⟨gd,od + j * 3,none⟩ = some (.string S) ∧ W.cell? ⟨gd,od + j * 3 + 1,none⟩ = some (.slice A3 n1 c3) ∧ W.cell? ⟨gd,od + j * 3 + 2,none⟩ = some (.slice A4 n2 c4)) ∧ W.heap[Z]? = some (.cells #[.string S,.slice A1 n1 c1,.slice A2 n2 c2] 31 (0,0))):=J (fun W hb=>⟨HSD.out W (HNA.out.trans (hb.mono HNA.out.size)),(hb.block Z (gL HZ0.out)).trans HZ0.out⟩)
   have HSM:Hid (∀ W,Below wa.heap.size wa W → Calls Tryz.prog 9 #[.agg #[.slice A1 n1 c1,.slice A2 n2 c2],.agg #[.slice A3 n1 c3,.slice A4 n2 c4]] W fun e w'=>e = .returned (.bool true) ∧ Below W.heap.size W w'):=J (fun W hb=>HSA.out W (HNA.out.trans (hb.mono HNA.out.size)))
   refine wp_region_held_drew (S:=fun W'=>Below wa.heap.size wa W') (by kernel_rfl) (Below.drew (Below.refl _ _)) (fun hHeld=>?_)
   refine dl1 0 rfl ?_
   refine dl1 1 rfl ?_
   refine dl1 2 rfl ?_
   refine dl1 3 rfl ?_
   refine dl1 4 rfl ?_
   refine dl1 5 rfl ?_
   refine dl1 6 rfl ?_
   refine dl1 7 rfl ?_
   refine dl1 8 rfl ?_
   refine dl1 9 rfl ?_
   refine dl1 10 rfl ?_
   refine dl1 11 rfl ?_
   refine dl1 12 rfl ?_
   refine dl1 13 rfl ?_
   refine dl1 14 rfl ?_
   refine dl1 15 rfl ?_
   refine ac 16 rfl (by kernel_rfl) (fun K hK=>?_)
   rw [if_pos]
   case hc=>rfl
   go_simp
   go_at_call 9
   refine (HSM.out _ hHeld).mono ?_
   rintro e w5 ⟨rfl,hb⟩
   refine hK.out _ _ (hHeld.trans (hb.mono hHeld.size)) fun hHeld=>?_
   clear hK K
   refine dW 17 rfl ?_
   refine dW 18 rfl ?_
   refine dN ?_
   obtain ⟨⟨_,_,_⟩,q3⟩:=HSH.out _ hHeld
   obtain ⟨r0,r1,r2⟩:=bn q3
   have HB5:Hid (Below w3.heap.size w3 w5):=J (HNA.out.trans (hHeld.mono HNA.out.size))
   clear hHeld q3
   go_wp2_with (go_at_call 10;refine (HFX.out _).mono ?_;rintro e w6 ⟨rfl,hb⟩;have HB6:=J (HB5.out.trans (hb.mono HB5.out.size));clear hb)
   go_roundw
   case rel=>exact ⟨j + 1,by omega,by go_num,HB6⟩
   case measure=>simp [intOf];omega
  ·have hlti:decide ((j:Int) < (nH:Int)) = false:=decide_eq_false (by omega)
   have HB7:Hid (Below w.heap.size w wr):=J (HB3.out.trans (HB.out.mono HB3.out.size))
   cases fo with
   | none =>
    go_wp2_with (first | (go_at_call 10;refine (HFA.out _).mono ?_;rintro e w6 ⟨rfl,hb⟩;have HB8:=J (HB7.out.trans (hb.mono HB7.out.size));clear hb) | (go_at_call 11;refine (HDA.out _).mono ?_;rintro e w7 ⟨rfl,hb⟩;have HB9:=J (HB8.out.trans (hb.mono HB8.out.size));clear hb))
    go_ret
    exact ⟨rfl,HB9.out⟩
   | some q =>
    have hq0:(0:Int) ≤ (q:Int):=by omega
    have hqm:max (q:Int) 0 = (q:Int):=by omega
    go_wp2_with (first | (go_at_call 10;refine (HFA.out _).mono ?_;rintro e w6 ⟨rfl,hb⟩;have HB8:=J (HB7.out.trans (hb.mono HB7.out.size));clear hb) | (go_at_call 11;refine (HDA.out _).mono ?_;rintro e w7 ⟨rfl,hb⟩;have HB9:=J (HB8.out.trans (hb.mono HB8.out.size));clear hb))
    go_ret
    exact ⟨rfl,HB9.out⟩
theorem roffers_str (s:ByteArray) (w:World):Calls Tryz.prog 3 #[.string s] w fun e w'=>e = .returned (.bool true) ∧ Below w.heap.size w w':=by
 have h:=roffers_any s.data.toList w
 unfold strV at h
 rwa [Array.toArray_toList] at h
end Go.Proofs.YtmpelmihdpomjaaGreat
