/-
  Layer 12's program: whether what is imported is offered. (gen/rule/impexp.py)
-/
import Derived.Test.YtmpelmihdpomjaaGreatSo01
import Derived.Test.YtmpelmihdpomjaaGreatSo28
import Derived.Test.YtmpelmihdpomjaaGreatSo43
import Derived.Test.YtmpelmihdpomjaaGreatSo26
import Derived.Test.YtmpelmihdpomjaaGreatSo34
import Derived.Test.YtmpelmihdpomjaaGreatSo36
import Derived.Test.YtmpelmihdpomjaaGreatSo02
import Derived.Test.YtmpelmihdpomjaaGreatSo08
import Derived.Deep.CutRange
set_option maxRecDepth 100000
set_option maxHeartbeats 4000000
namespace Ru
open Bin Sp Ins
theorem impB_none {m:M} {x:Imp} (h:find x.name = none):impB m x = false:=by unfold impB;rw [h];simp
theorem impB_kind {m:M} {x:Imp} (h:¬ x.kind.toNat = 0):impB m x = false:=by
 unfold impB
 rw [show (x.kind == 0) = false from by rw [beq_eq_false_iff_ne];intro e;rw [e] at h;exact h rfl]
 rfl
theorem impB_mod {m:M} {x:Imp} (h:¬ x.mod = env):impB m x = false:=by
 unfold impB
 rw [show (x.mod == env) = false from by rw [beq_eq_false_iff_ne];exact h]
 simp
theorem impB_type {m:M} {x:Imp} {n:Nat} {t u:FT} (h1:find x.name = some n) (h2:x.kind.toNat = 0) (h3:x.mod = env) (h4:m.types[x.type]? = some t) (h5:(host[n]?).map (·.2) = some u):impB m x = decide (t = u):=by
 unfold impB
 rw [h1,h3,show (x.kind == 0) = true from by rw [beq_iff_eq];exact UInt8.toNat_inj.1 h2]
 simp only [beq_self_eq_true,Bool.true_and]
 rw [h4,h5]
 simp
theorem imp_type {m:M} {hs:List Nat} (hg:Va.Good m hs) {x:Imp} (hx:x ∈ m.imports) (h:x.kind.toNat = 0):∃ t,m.types[x.type]? = some t:=by
 have h1:=Va.first_zero.1 hg.steps.2.2.1 x hx
 unfold Va.impE at h1
 rw [if_pos h,Va.okE_zero (by decide)] at h1
 exact ⟨_,List.getElem?_eq_getElem (of_decide_eq_true h1)⟩
theorem find_lt {nm:List UInt8} {n:Nat} (h:find nm = some n):n < 16:=by
 obtain ⟨hl,_⟩:=List.findIdx?_eq_some_iff_getElem.1 h
 exact hl
theorem host_type {n:Nat} {y:Hst} (h:hosts[n]? = some y):(host[n]?).map (·.2) = some y.type:=by
 unfold hosts at h
 rw [List.getElem?_map] at h
 obtain ⟨z,h1,rfl⟩:=Option.map_eq_some_iff.1 h
 rw [h1]
 rfl
theorem host_small {n:Nat} {y:Hst} (h:hosts[n]? = some y):y.type.params.length ≤ 4000000 ∧ y.type.results.length ≤ 4000000:=by
 have hm:=List.mem_of_getElem? h
 have:∀ y ∈ hosts,y.type.params.length ≤ 4000000 ∧ y.type.results.length ≤ 4000000:=by decide
 exact this y hm
end Ru
namespace Go.Proofs.YtmpelmihdpomjaaGreat
open Go.RowKit Ins Bin Sp
theorem rimps_any (m:M) (v1 v2 v3 v4 v5 v6 v7 v8 v9 v10:Value) (hs:List Nat) (sp:Nat) (w:World) (hM:RepM w (· < w.heap.size) m v1 v2 v3 v4 v5 v6 v7 v8 v9 v10) (hF:FitR m) (hS:aC w sp m) (hg:Va.Good m hs) :
  Calls Tryz.prog 20 #[.agg #[v1,v2,v3,v4,v5,v6,v7,.bool m.hasStart,.int .u32 ↑m.start,v8,v9,v10],.pointer (some ⟨sp,0,none⟩)] w fun e w'=>e = .returned (.bool (m.imports.all (Ru.impB m))) ∧ Below w.heap.size w w':=by
 obtain ⟨A2,c2,e2,_,_,_,hL⟩:=hM.imports
 have hil:=hF.1.lots.imports
 have HL:=J hL
 have HF:=J hF
 have HG:=J hg
 have HS6:=J (Lots.some hF.1.lots)
 have HREC:Hid (∀ W,Below w.heap.size w W → Recv W (some ⟨sp,0,none⟩) m):=J (fun W hb=>.inl ⟨sp,rfl,hS.grow hb⟩)
 obtain ⟨n,hn⟩:∃ n,m.imports.length = n:=⟨_,rfl⟩
 rw [hn] at e2 hil
 have HNL:=J hn
 subst e2
 have HB0:Hid (Below w.heap.size w (w.alloc (.cells #[v1,.slice A2 n c2,v3,v4,v5,v6,v7,.bool m.hasStart,.int .u32 ↑m.start,v8,v9,v10] 49))):=J bA
 have HX0:=J (heap_alloc_new w (.cells #[v1,.slice A2 n c2,v3,v4,v5,v6,v7,.bool m.hasStart,.int .u32 ↑m.start,v8,v9,v10] 49))
 clear hM hL hF hS hg hn
 generalize m.hasStart = ms at *
 generalize (m.start:Int) = mi at *
 go_enter Tryz.func20,Tryz.ntmps20
 go_upto_region 1 with fail
 generalize w.alloc (.cells #[v1,.slice A2 n c2,v3,v4,v5,v6,v7,.bool ms,.int .u32 mi,v8,v9,v10] 49) = w0 at HB0 HX0 ⊢
 obtain ⟨B,hB⟩:∃ B,w.heap.size = B:=⟨_,rfl⟩
 rw [hB] at HX0
 have HBW:Hid (w.heap.size = B):=J hB
 simp only [hB]
 clear hB
 have HX1:Hid (∀ W,Below w0.heap.size w0 W → W.cell? ⟨B,1,none⟩ = some (.slice A2 n c2)):=J (fun W hb=>cellV ((hb.block B (gL HX0.out)).trans HX0.out) 1 _ rfl)
 go_upto_region 2 with (go_at_call 7;refine (bZ w0).mono ?_;rintro e w1 ⟨v,rfl,hs1,hb⟩;have HB1:=J (HB0.out.trans (hb.mono HB0.out.size));obtain ⟨AH,cH,eH,hcH,_,_,hLH⟩:=hs1;obtain ⟨nH,hnH⟩:∃ k,Ru.hosts.length = k:=⟨_,rfl⟩;rw [hnH] at eH hcH;have HNH:=J hnH;have HLH:=J hLH;subst eH;have x1:=HX1.out _ hb;clear hb hLH hcH hnH)
 go_upto_region 3 with fail
 clear x1
 go_loopw [16] (fun iv wr=>∃ j:Nat,j ≤ n ∧ iv = .int .i64 ↑j ∧ Hid (bS (fun x=>!Ru.impB m x) m.imports j) ∧ Hid (Below w1.heap.size w1 wr)) (fun iv _=>n - (intOf iv).toNat)
 case atStart=>exact ⟨0,Nat.zero_le _,rfl,J (bE _ _),J (Below.refl _ _)⟩
 case round =>
  obtain ⟨j,hj,rfl,HNO,HBR⟩:=hrel
  by_cases hlt:j < n
  ·have hlti:(j:Int) < (n:Int):=by omega
   obtain ⟨x,hx⟩:∃ x,m.imports[j]? = some x:=⟨_,List.getElem?_eq_getElem (by rw [HNL.out];exact hlt)⟩
   have HX:=J hx
   have HXM:=J (List.mem_of_getElem? hx)
   have HB3:Hid (Below w.heap.size w wr):=J (HB1.out.trans (HBR.out.mono HB1.out.size))
   obtain ⟨g,o,cs,rfl,_,hg,⟨rfl,hty,_⟩,hcs⟩:=HL.out j x hx
   have z0:wr.cell? ⟨g,o + j * 8,none⟩ = some (.string ⟨x.mod.toArray⟩):=(HB3.out.cell (p:=⟨g,o + j * 8,none⟩) hg).trans (hcs 0 _ rfl)
   have z1:wr.cell? ⟨g,o + j * 8 + 1,none⟩ = some (.string ⟨x.name.toArray⟩):=(HB3.out.cell (p:=⟨g,o + j * 8 + 1,none⟩) hg).trans (hcs 1 _ rfl)
   have z2:wr.cell? ⟨g,o + j * 8 + 2,none⟩ = some (.int .u8 ↑x.kind.toNat):=(HB3.out.cell (p:=⟨g,o + j * 8 + 2,none⟩) hg).trans (hcs 2 _ rfl)
   have z3:wr.cell? ⟨g,o + j * 8 + 3,none⟩ = some (.int .u32 ↑x.type):=(HB3.out.cell (p:=⟨g,o + j * 8 + 3,none⟩) hg).trans (hcs 3 _ rfl)
   have z4:wr.cell? ⟨g,o + j * 8 + 4,none⟩ = some (.int .u32 ↑x.lim.min):=(HB3.out.cell (p:=⟨g,o + j * 8 + 4,none⟩) hg).trans (hcs 4 _ rfl)
   have z5:wr.cell? ⟨g,o + j * 8 + 5,none⟩ = some (.int .i64 x.lim.max):=(HB3.out.cell (p:=⟨g,o + j * 8 + 5,none⟩) hg).trans (hcs 5 _ rfl)
   have z6:wr.cell? ⟨g,o + j * 8 + 6,none⟩ = some (.int .u8 ↑x.glob.t.toNat):=(HB3.out.cell (p:=⟨g,o + j * 8 + 6,none⟩) hg).trans (hcs 6 _ rfl)
   have z7:wr.cell? ⟨g,o + j * 8 + 7,none⟩ = some (.bool x.glob.mu):=(HB3.out.cell (p:=⟨g,o + j * 8 + 7,none⟩) hg).trans (hcs 7 _ rfl)
   obtain ⟨S1,e1⟩:∃ s:ByteArray,(⟨x.mod.toArray⟩:ByteArray) = s:=⟨_,rfl⟩
   have hS1:S1.toList = x.mod:=by rw [← e1,ByteArray.toList_eq]
   have hS2:(⟨x.name.toArray⟩:ByteArray) = ⟨x.name.toArray⟩:=rfl
   rw [e1] at z0
   have HS1:=J hS1
   clear hcs hg e1 hS1 hS2 hx
   have HFALSE:Hid (Ru.impB m x = false → m.imports.all (Ru.impB m) = false):=J (fun h=>by
    rw [List.all_eq_false]
    exact ⟨x,HXM.out,by rw [h];simp⟩)
   have HTYX:Hid (x.kind.toNat = 0 → ∃ t,m.types[x.type]? = some t):=J (fun h=>Ru.imp_type HG.out HXM.out h)
   have HK0:Hid (¬ x.kind.toNat = 0 → Ru.impB m x = false):=J Ru.impB_kind
   have HMO:Hid (¬ x.mod = Ru.env → Ru.impB m x = false):=J Ru.impB_mod
   have HFN:Hid (Ru.find x.name = none → Ru.impB m x = false):=J Ru.impB_none
   have HTT:Hid (∀ k t u,Ru.find x.name = some k → x.kind.toNat = 0 → x.mod = Ru.env → m.types[x.type]? = some t → (Ru.host[k]?).map (·.2) = some u → Ru.impB m x = decide (t = u)):=J (fun k t u a b c d e=>Ru.impB_type a b c d e)
   generalize x.lim.max = mx at *
   generalize (x.lim.min:Int) = mn at *
   generalize (x.glob.t.toNat:Int) = gt at *
   generalize x.glob.mu = mu at *
   obtain ⟨kd,ekd⟩:∃ k,x.kind.toNat = k:=⟨_,rfl⟩
   obtain ⟨ty,ety⟩:∃ k,x.type = k:=⟨_,rfl⟩
   rw [ekd] at z2 HTYX HK0 HTT
   rw [ety] at z3 hty HTYX HTT
   clear ekd ety
   obtain ⟨fo,efo⟩:∃ q,Ru.find x.name = q:=⟨_,rfl⟩
   have HFO:=J efo
   rw [efo] at HFN HTT
   clear efo
   obtain ⟨S2,e2⟩:∃ s:ByteArray,(⟨x.name.toArray⟩:ByteArray) = s:=⟨_,rfl⟩
   rw [e2] at z1
   have HFI:Hid (∀ W,Calls Tryz.prog 10 #[.string S2] W fun e w'=>e = .returned (.tuple #[.int .i64 ((fo.getD 0:Nat):Int),.bool fo.isSome]) ∧ Below W.heap.size W w'):=J (fun W=>by rw [← e2,← HFO.out];exact bx x.name W)
   clear e2
   have HZ0:=J (heap_alloc_new wr (.cells #[.string S1,.string S2,.int .u8 ↑kd,.int .u32 ↑ty,.int .u32 mn,.int .i64 mx,.int .u8 gt,.bool mu] 75))
   have HNA:Hid (Below w1.heap.size w1 (wr.alloc (.cells #[.string S1,.string S2,.int .u8 ↑kd,.int .u32 ↑ty,.int .u32 mn,.int .i64 mx,.int .u8 gt,.bool mu] 75))):=J (HBR.out.alloc HBR.out.size _)
   go_upto_region 5 with fail
   generalize wr.alloc (.cells #[.string S1,.string S2,.int .u8 ↑kd,.int .u32 ↑ty,.int .u32 mn,.int .i64 mx,.int .u8 gt,.bool mu] 75) = wa at HZ0 HNA ⊢
   clear z0 z1 z2 z3 z4 z5 z6 z7
   obtain ⟨p0,p1,p2,p3,p4,p5,p6,p7⟩:=aD HZ0.out
   cases fo with
   | none =>
    have HR:Hid (m.imports.all (Ru.impB m) = false):=J (HFALSE.out (HFN.out rfl))
    clear p0 p2 p3 p4 p5 p6 p7
    go_wp2_with (go_at_call 10;refine (HFI.out _).mono ?_;rintro e w2 ⟨rfl,hb⟩;have HB2:=J (HNA.out.trans (hb.mono HNA.out.size));have HZ2:=J ((hb.block _ (gL HZ0.out)).trans HZ0.out);clear hb)
    go_ret
    rw [HR.out]
    exact ⟨rfl,HB1.out.trans (HB2.out.mono HB1.out.size)⟩
   | some k =>
    have hk16:k < 16:=Ru.find_lt HFO.out
    have HK16:=J hk16
    clear hk16
    go_upto_region 6 with (go_at_call 10;refine (HFI.out _).mono ?_;rintro e w2 ⟨rfl,hb⟩;have HB2:=J (HNA.out.trans (hb.mono HNA.out.size));have HZ2:=J ((hb.block _ (gL HZ0.out)).trans HZ0.out);clear hb)
    clear p0 p1 p2 p3 p4 p5 p6 p7
    obtain ⟨p0,p1,p2,p3,p4,p5,p6,p7⟩:=aD HZ2.out
    by_cases hkd:kd = 0
    ·by_cases hmd:x.mod = Ru.env
     ·have hke:((kd:Int) == 0) = true:=by rw [beq_iff_eq];omega
      have hkn:(!((kd:Int) == 0)) = false:=by rw [hke];rfl
      have hse:(S1.toList == [101,110,118]) = true:=by rw [HS1.out,hmd];rfl
      obtain ⟨t,ht⟩:=HTYX.out hkd
      obtain ⟨y,hy⟩:∃ y,Ru.hosts[k]? = some y:=⟨_,List.getElem?_eq_getElem (by rw [Ru.hosts_len];exact HK16.out)⟩
      have HIM:Hid (Ru.impB m x = decide (t = y.type)):=J (HTT.out k t y.type rfl hkd hmd ht (Ru.host_type hy))
      have hys:=Ru.host_small hy
      have htm:=HF.out.1.lots.each t (List.mem_of_getElem? ht)
      obtain ⟨gh,oh,A3,c3,A4,c4,rfl,_,hgl,hq0,hq1,hq2,hq3,hq4⟩:=cF HLH.out hy
      have HQ1:Hid (∀ W,Below w1.heap.size w1 W → W.cell? ⟨gh,oh + k * 3 + 1,none⟩ = some (.slice A3 y.type.params.length c3) ∧ W.cell? ⟨gh,oh + k * 3 + 2,none⟩ = some (.slice A4 y.type.results.length c4)):=J (fun W hb=>⟨(hb.cell (p:=⟨gh,oh + k * 3 + 1,none⟩) hgl).trans hq1,(hb.cell (p:=⟨gh,oh + k * 3 + 2,none⟩) hgl).trans hq2⟩)
      have HQ3:Hid (∀ W,Below w1.heap.size w1 W → aa W (· < W.heap.size) y.type.params (.slice A3 y.type.params.length c3) ∧ aa W (· < W.heap.size) y.type.results (.slice A4 y.type.results.length c4)):=J (fun W hb=>⟨((hq3.mod (T:=fun _=>False) (Mod.of_below hb) (fun _ _ _ h=>h)).more (fun _ h _=>h)),((hq4.mod (T:=fun _=>False) (Mod.of_below hb) (fun _ _ _ h=>h)).more (fun _ h _=>h))⟩)
      have HTY:Hid (∀ W,Below w1.heap.size w1 W → Calls Tryz.prog 52 #[.pointer (some ⟨sp,0,none⟩),.int .u32 ↑ty] W fun e w'=>∃ A5 c5 A6 c6,e = .returned (.tuple #[.agg #[.slice A5 t.params.length c5,.slice A6 t.results.length c6],.bool true]) ∧ aa w' (· < w'.heap.size) t.params (.slice A5 t.params.length c5) ∧ aa w' (· < w'.heap.size) t.results (.slice A6 t.results.length c6) ∧ Below W.heap.size W w'):=J (fun W hb=>(cK _ m ty W (HREC.out W (HB1.out.trans (hb.mono HB1.out.size))) HS6.out hty).mono (fun e w' hq=>by
       rw [ht] at hq
       obtain ⟨u,v,h1,h2,h3,h4⟩:=hq
       obtain ⟨A5,c5,rfl,_⟩:=id h2
       obtain ⟨A6,c6,rfl,_⟩:=id h3
       exact ⟨A5,c5,A6,c6,h1,h2.more (fun _ h _=>h),h3.more (fun _ h _=>h),h4⟩))
      have HSM:Hid (∀ (W:World) (u1 u2 u3 u4:Value),aa W (· < W.heap.size) t.params u1 → aa W (· < W.heap.size) t.results u2 → aa W (· < W.heap.size) y.type.params u3 → aa W (· < W.heap.size) y.type.results u4 → Calls Tryz.prog 53 #[.agg #[u1,u2],.agg #[u3,u4]] W fun e w'=>e = .returned (.bool (decide (t = y.type))) ∧ Below W.heap.size W w'):=J (fun W u1 u2 u3 u4 a b c d=>cJ t y.type u1 u2 u3 u4 W a b c d ⟨by omega,by omega⟩ hys)
      clear ht hy hys htm hq0 hq1 hq2 hq3 hq4 hgl hmd HTYX HTT HK0 HMO HFN HFI
      have hki:(0:Int) ≤ (k:Int):=by omega
      obtain ⟨np,fnp⟩:∃ q,t.params.length = q:=⟨_,rfl⟩
      obtain ⟨nr,fnr⟩:∃ q,t.results.length = q:=⟨_,rfl⟩
      obtain ⟨nq,fnq⟩:∃ q,y.type.params.length = q:=⟨_,rfl⟩
      obtain ⟨ns,fns⟩:∃ q,y.type.results.length = q:=⟨_,rfl⟩
      rw [fnp,fnr] at HTY
      rw [fnq,fns] at HQ1 HQ3
      clear fnp fnr fnq fns
      have hkh:(k:Int) < (nH:Int):=by have h1:=HNH.out;rw [Ru.hosts_len] at h1;have:=HK16.out;omega
      obtain ⟨dd,hdd⟩:∃ q,decide (t = y.type) = q:=⟨_,rfl⟩
      rw [hdd] at HIM HSM
      clear hdd
      go_upto_region 9 with (go_at_call 52;refine (HTY.out _ HB2.out).mono ?_;rintro e w3 ⟨A5,c5,A6,c6,rfl,ht1,ht2,hb⟩;have HB4:=J (HB2.out.trans (hb.mono HB2.out.size));have HT1:=J ht1;have HT2:=J ht2;clear hb ht1 ht2)
      clear p0 p1 p2 p3 p4 p5 p6 p7
      have hb5:Below w1.heap.size w1 (w3.alloc (.cells #[.slice A5 np c5,.slice A6 nr c6] 29)):=HB4.out.alloc HB4.out.size _
      have hb6:Below w3.heap.size w3 (w3.alloc (.cells #[.slice A5 np c5,.slice A6 nr c6] 29)):=bA
      have HB5:=J hb5
      have HT3:=J (HT1.out.grow hb6)
      have HT4:=J (HT2.out.grow hb6)
      have HZ5:=J (heap_alloc_new w3 (.cells #[.slice A5 np c5,.slice A6 nr c6] 29))
      clear hb5 hb6 HT1 HT2
      generalize w3.alloc (.cells #[.slice A5 np c5,.slice A6 nr c6] 29) = w4 at HB5 HT3 HT4 HZ5 ⊢
      obtain ⟨Z,hZ⟩:∃ Z,w3.heap.size = Z:=⟨_,rfl⟩
      rw [hZ] at HZ5
      simp only [hZ]
      clear hZ
      have HSH:Hid (∀ W,Below w4.heap.size w4 W → (W.cell? ⟨gh,oh + k * 3 + 1,none⟩ = some (.slice A3 nq c3) ∧ W.cell? ⟨gh,oh + k * 3 + 2,none⟩ = some (.slice A4 ns c4)) ∧ W.heap[Z]? = some (.cells #[.slice A5 np c5,.slice A6 nr c6] 29 (0,0))):=J (fun W hb=>⟨HQ1.out W (HB5.out.trans (hb.mono HB5.out.size)),(hb.block Z (gL HZ5.out)).trans HZ5.out⟩)
      have HCA:Hid (∀ W,Below w4.heap.size w4 W → Calls Tryz.prog 53 #[.agg #[.slice A5 np c5,.slice A6 nr c6],.agg #[.slice A3 nq c3,.slice A4 ns c4]] W fun e w'=>e = .returned (.bool dd) ∧ Below W.heap.size W w'):=J (fun W hb=>HSM.out W _ _ _ _ (HT3.out.grow hb) (HT4.out.grow hb) (HQ3.out W (HB5.out.trans (hb.mono HB5.out.size))).1 (HQ3.out W (HB5.out.trans (hb.mono HB5.out.size))).2)
      go_wp2_with fail
      refine wp_region_held_drew (S:=fun W'=>Below w4.heap.size w4 W') (by kernel_rfl) (Below.drew (Below.refl _ _)) (fun hHeld=>?_)
      refine dV 0 rfl (by intro wy hSw;obtain ⟨⟨q1,q2⟩,q3⟩:=HSH.out wy hSw;obtain ⟨r0,r1⟩:=ae q3;go_simp;try with_reducible rfl) ?_
      refine dV 1 rfl (by intro wy hSw;obtain ⟨⟨q1,q2⟩,q3⟩:=HSH.out wy hSw;obtain ⟨r0,r1⟩:=ae q3;go_simp;try with_reducible rfl) ?_
      refine dV 2 rfl (by intro wy hSw;obtain ⟨⟨q1,q2⟩,q3⟩:=HSH.out wy hSw;obtain ⟨r0,r1⟩:=ae q3;go_simp;try with_reducible rfl) ?_
      refine dV 3 rfl (by intro wy hSw;obtain ⟨⟨q1,q2⟩,q3⟩:=HSH.out wy hSw;obtain ⟨r0,r1⟩:=ae q3;go_simp;try with_reducible rfl) ?_
      refine dV 4 rfl (by intro wy hSw;obtain ⟨⟨q1,q2⟩,q3⟩:=HSH.out wy hSw;obtain ⟨r0,r1⟩:=ae q3;go_simp;try with_reducible rfl) ?_
      refine dV 5 rfl (by intro wy hSw;obtain ⟨⟨q1,q2⟩,q3⟩:=HSH.out wy hSw;obtain ⟨r0,r1⟩:=ae q3;go_simp;try with_reducible rfl) ?_
      refine dA 6 rfl fun K hK=>?_
      go_simp
      go_at_call 53
      refine (HCA.out _ hHeld).mono ?_
      rintro e w5 ⟨rfl,hb⟩
      refine hK.out _ _ (hHeld.trans (hb.mono hHeld.size)) fun hHeld=>?_
      clear hK K
      refine dW 7 rfl ?_
      refine dN ?_
      cases dd with
      | false =>
       have HR:Hid (m.imports.all (Ru.impB m) = false):=J (HFALSE.out HIM.out)
       go_wp2_with fail
       go_ret
       rw [HR.out]
       exact ⟨rfl,(HB1.out.trans (HB5.out.mono HB1.out.size)).trans (hHeld.mono (HB1.out.trans (HB5.out.mono HB1.out.size)).size)⟩
      | true =>
       have HNX:=J (bg HX.out (p:=fun x=>!Ru.impB m x) (by rw [HIM.out];rfl) HNO.out)
       go_wp2_with fail
       go_roundw
       case rel=>exact ⟨j + 1,by omega,by go_num,HNX,J (HB5.out.trans (hHeld.mono HB5.out.size))⟩
       case measure=>simp [intOf];omega
     ·have hke:((kd:Int) == 0) = true:=by rw [beq_iff_eq];omega
      have hkn:(!((kd:Int) == 0)) = false:=by rw [hke];rfl
      have hse:(S1.toList == [101,110,118]) = false:=by rw [HS1.out];exact beq_eq_false_iff_ne.2 hmd
      have HR:Hid (m.imports.all (Ru.impB m) = false):=J (HFALSE.out (HMO.out hmd))
      clear hmd
      go_wp2_with fail
      go_ret
      rw [HR.out]
      exact ⟨rfl,HB1.out.trans (HB2.out.mono HB1.out.size)⟩
    ·have hke:((kd:Int) == 0) = false:=nB (by omega)
     have hkn:(!((kd:Int) == 0)) = true:=by rw [hke];rfl
     have HR:Hid (m.imports.all (Ru.impB m) = false):=J (HFALSE.out (HK0.out hkd))
     go_wp2_with fail
     go_ret
     rw [HR.out]
     exact ⟨rfl,HB1.out.trans (HB2.out.mono HB1.out.size)⟩
  ·have hlti:decide ((j:Int) < (n:Int)) = false:=decide_eq_false (by omega)
   have HR:Hid (m.imports.all (Ru.impB m) = true):=J (by
    rw [List.all_eq_true]
    intro x hx
    obtain ⟨k,hk⟩:=List.mem_iff_getElem?.1 hx
    have h1:=HNO.out k x (by have:=(List.getElem?_eq_some_iff.1 hk).1;have:=HNL.out;omega) hk
    simpa using h1)
   go_wp2_with fail
   go_ret
   rw [HR.out]
   exact ⟨rfl,HB1.out.trans (HBR.out.mono HB1.out.size)⟩
end Go.Proofs.YtmpelmihdpomjaaGreat
namespace Ru
open Bin Sp Ins
def codeN (np:Nat) (c:Cd) (h:Nat):Bool:=((decide (256 < np + runs c.locals) || decide (8192 < c.body.length)) || decide (512 < h)) || noteB 0 c.body
theorem codeN_not (np:Nat) (c:Cd) (h:Nat):codeB np c h = !codeN np c h:=by
 unfold codeB codeN
 rw [eP _ _ (Nat.zero_le _)]
 by_cases h1:np + runs c.locals ≤ 256 <;> by_cases h2:c.body.length ≤ 8192 <;> by_cases h3:h ≤ 512 <;> cases noteB 0 c.body <;> simp [h1,h2,h3] <;> omega
theorem runs_take {ls:List Lc} {j:Nat} {x:Lc} (hx:ls[j]? = some x):runs (ls.take (j + 1)) = runs (ls.take j) + x.n:=by
 obtain ⟨hj,rfl⟩:=List.getElem?_eq_some_iff.1 hx
 rw [List.take_succ_eq_append_getElem hj]
 generalize ls.take j = l
 generalize ls[j] = y
 induction l with
 | nil=>simp [runs]
 | cons z l ih=>simp only [List.cons_append,runs,ih];omega
theorem runs_le:∀ (ls:List Lc),(∀ x ∈ ls,x.n < 4294967296) → runs ls ≤ ls.length * 4294967296
 | [],_=>by simp [runs]
 | x :: l,h=>by
  have h1:=runs_le l (fun y hy=>h y (by simp [hy]))
  have h2:=h x (by simp)
  simp only [runs,List.length_cons]
  omega
theorem run_sz {E:Bo.Env} {K:Nat} (hE:Bo.EnvK E K):∀ (xs:List I) (o:List Bool) (s s':Ty.T) (n:Nat),Bo.run E o xs s = .ok s' → Bo.Sz K n s → Bo.Sz K (n + K * xs.length) s'
 | [],_,s,s',n,h,hs=>by
  rw [Bo.run] at h
  injection h with h
  subst h
  simpa using hs
 | x :: xs,o,s,s',n,h,hs=>by
  rw [Bo.run] at h
  split at h
  ·cases h
  ·next s1 h1 =>
   split at h
   ·cases h
   ·next o1 h2 =>
    have:=run_sz hE xs o1 s1 s' (n + K) h (Bo.sz_one hE hs h1)
    rw [List.length_cons,Nat.mul_add,Nat.mul_one]
    exact Bo.sz_up this (by omega)
theorem func_mem {m:M} {i:Nat} {f:FT} (h:func m i = some f):f ∈ m.types:=by
 unfold func at h
 obtain ⟨t,_,h2⟩:=Option.bind_eq_some_iff.1 h
 exact List.mem_of_getElem? h2
theorem env_two {m:M} {hs:List Nat} (hg:Va.Good m hs) {f:FT} (hf:f ∈ m.types) (ls:List Lc):Bo.EnvK (Bo.envOf m f.params f.results ls) 2:=by
 refine ⟨fun i t ht=>?_,fun i t ht=>?_,Nat.le_trans (hg.types f hf) (by decide),Nat.le_refl _⟩
 ·obtain ⟨f',h1,rfl⟩:=Option.map_eq_some_iff.1 ht
  exact Nat.le_trans (hg.types f' (func_mem h1)) (by decide)
 ·obtain ⟨f',h1,rfl⟩:=Option.map_eq_some_iff.1 ht
  exact Nat.le_trans (hg.types f' (List.mem_of_getElem? h1)) (by decide)
theorem good_code {m:M} {hs:List Nat} (hg:Va.Good m hs) {i:Nat} {c:Cd} (hc:m.codes[i]? = some c):∃ f h,func m (imported m 0 + i) = some f ∧ f ∈ m.types ∧ hs[i]? = some h ∧ steps [] c.body = some [] ∧ h ≤ 2 + 2 * c.body.length:=by
 obtain ⟨f,n,h1,h2,h3⟩:=hg.code hc
 obtain ⟨h4,_,s,h5,_,h6⟩:=Bo.chk_parts h2
 have hm:=func_mem h1
 refine ⟨f,n,h1,hm,h3,?_,?_⟩
 ·unfold exprB at h4
  rw [Bool.and_eq_true] at h4
  simpa using h4.2
 ·have:=run_sz (env_two hg hm c.locals) _ _ _ _ _ h5 (Bo.sz_new (Nat.le_trans (hg.types f hm) (by decide)) (by decide))
  rw [← h6]
  have:=this.2.1
  omega
end Ru
namespace Go.Proofs.YtmpelmihdpomjaaGreat
open Go.RowKit Ins Bin Sp
section
variable {C:RC} {W0 W W':World} {b:Bool}
theorem rcode_any (hC:C.Good) (h:Nt C W0 W b) (i:Nat) (c:Cd) (hc:C.m.codes[i]? = some c) (f:FT) (hf:func C.m (imported C.m 0 + i) = some f) (hfm:f ∈ C.m.types) (hh:Nat) (hhs:C.hs[i]? = some hh) (hst:steps [] c.body = some []) (hhb:hh ≤ 2 + 2 * c.body.length) :
  Calls Tryz.prog 51 #[.pointer (some ⟨C.X,0,none⟩),.int .i64 ↑i] W fun e W'=>e = .returned (.tuple #[]) ∧ Nt C W0 W' (b || Ru.codeN f.params.length c hh):=by
 have HN:=J h
 have HC:=J hC
 have HS6:=J (Lots.some hC.fit.1.lots)
 have HEN:Hid (Ru.codeN f.params.length c hh = (((decide (256 < f.params.length + Ru.runs c.locals) || decide (8192 < c.body.length)) || decide (512 < hh)) || Ru.noteB 0 c.body)):=J rfl
 have hil:=(List.getElem?_eq_some_iff.1 hc).1
 have hcl:=hC.fit.1.codes.1
 obtain ⟨hlb,hbf⟩:=hC.fit.1.codes.2 c (List.mem_of_getElem? hc)
 have hbl:=hbf.1
 have HBF:=J hbf
 have hpl:=(hC.fit.1.lots.each f hfm).1
 have hni:imported C.m 0 ≤ 1050000:=Nat.le_trans (imported_le _ _) hC.fit.1.lots.imports
 obtain ⟨A9,c9,e9,_,_,_,h9⟩:=hC.rep.codes
 obtain ⟨g,o,cs,rfl,_,hg,⟨u,v,rfl,hu,hv⟩,hcs⟩:=h9 i c hc
 obtain ⟨Au,cu,rfl,_⟩:=id hu
 obtain ⟨Av,cv,rfl,_⟩:=id hv
 have HLU:=J (dl hu)
 have HLV:=J (dl hv)
 have z0:W.cell? ⟨g,o + i * 2,none⟩ = some (.slice Au c.locals.length cu):=(h.bel.cell (p:=⟨g,o + i * 2,none⟩) hg).trans (hcs 0 _ rfl)
 have z1:W.cell? ⟨g,o + i * 2 + 1,none⟩ = some (.slice Av c.body.length cv):=(h.bel.cell (p:=⟨g,o + i * 2 + 1,none⟩) hg).trans (hcs 1 _ rfl)
 obtain ⟨Ah,ch,eh,_,_,_,hhL⟩:=hC.hts
 have hhx:(C.hs.map Va.Ht.mk)[i]? = some ⟨hh⟩:=by rw [List.getElem?_map,hhs];rfl
 obtain ⟨gh,oh,hcs2,rfl,_,hgh,rfl,hcc⟩:=hhL i ⟨hh⟩ hhx
 have HCH:Hid (∀ W',Below C.w.heap.size C.w W' → W'.cell? ⟨gh,oh + i,none⟩ = some (.int .i64 ↑hh)):=J (fun W' hb=>(hb.cell (p:=⟨gh,oh + i,none⟩) hgh).trans (by have:=hcc 0 _ rfl;rw [show Lay.size Va.Ht = 1 from rfl,Nat.mul_one] at this;exact this))
 have hihl:i < C.hs.length:=(List.getElem?_eq_some_iff.1 hhs).1
 rw [List.length_map] at eh
 obtain ⟨nh,hnh⟩:∃ n,C.hs.length = n:=⟨_,rfl⟩
 rw [hnh] at eh hihl
 have HEH:=J eh
 have hihi:(i:Int) < (nh:Int):=by omega
 have HRL:=J (Ru.runs_le c.locals (fun x hx=>by
  obtain ⟨k,hk⟩:=List.mem_iff_getElem?.1 hx
  obtain ⟨_,_,_,_,_,_,⟨_,hq⟩,_⟩:=(dl hu) k x hk
  exact hq))
 obtain ⟨n9,f9⟩:∃ n,C.m.codes.length = n:=⟨_,rfl⟩
 rw [f9] at e9 hil hcl
 have hili:(i:Int) < (n9:Int):=by omega
 have q10:W.cell? ⟨C.X,10,none⟩ = some (.slice (some ⟨g,o,none⟩) n9 c9):=cellV h.cx 10 _ (by show some C.v9 = _;rw [e9])
 obtain ⟨ni,fni⟩:∃ n,imported C.m 0 = n:=⟨_,rfl⟩
 rw [fni] at hf hni
 have HNI:=J fni
 have hwni:IntKind.i64.wrap ((ni:Int) + (i:Int)) = ((ni + i:Nat):Int):=by rw [IntWalk.i64_in _ (by omega)];omega
 have hwnu:IntKind.u32.wrap ((ni + i:Nat):Int) = ((ni + i:Nat):Int):=IntWalk.u32_in _ (by omega)
 have hwnv:IntKind.u32.wrap ((ni:Int) + (i:Int)) = ((ni + i:Nat):Int):=by rw [IntWalk.u32_in _ (by omega)];omega
 have hwhh:IntKind.u64.wrap (hh:Int) = (hh:Int):=IntWalk.u64_in _ (by omega)
 obtain ⟨np,fnp⟩:∃ n,f.params.length = n:=⟨_,rfl⟩
 obtain ⟨n2,fn2⟩:∃ n,f.results.length = n:=⟨_,rfl⟩
 obtain ⟨nu,fnu⟩:∃ n,c.locals.length = n:=⟨_,rfl⟩
 obtain ⟨nv,fnv⟩:∃ n,c.body.length = n:=⟨_,rfl⟩
 have HBODY:Hid (∀ (W1:World) (b1:Bool),Nt C W0 W1 b1 → Calls Tryz.prog 78 #[.pointer (some ⟨C.X,0,none⟩),.slice Av nv cv] W1 fun e W'=>e = .returned (.tuple #[]) ∧ Nt C W0 W' (b1 || Ru.noteB 0 c.body)):=J (fun W1 b1 hq=>by
  have:=rbody_any hC hq c.body Av cv HLV.out hst hbf
  rw [fnv] at this
  exact this)
 have HFP:=J fnp
 have HF2:=J fn2
 rw [fnp] at HEN hpl
 rw [fnu] at z0 hlb HRL
 rw [fnv] at z1 HEN hbl hhb
 have HNU:=J fnu
 have hpl2:np ≤ 4000000:=by omega
 have HPL:=J hpl2
 have HVL:Hid (nv ≤ 4000000):=J (by omega)
 obtain ⟨rl,frl⟩:∃ r,r = Ru.runs c.locals:=⟨_,rfl⟩
 rw [← frl] at HEN HRL
 have HR:=J frl
 have hZY:¬ W.heap.size = C.Y:=fun e=>by have:=(gL h.cy);omega
 have HZ0:=J (heap_alloc_new W (.cells #[.slice Au nu cu,.slice Av nv cv] 64))
 have HNA:=J (h.on ((Below.refl _ _).alloc (Nat.le_refl _) (.cells #[.slice Au nu cu,.slice Av nv cv] 64)))
 have HF0:=J (fun (W1:World) (b1:Bool) (hq:Nt C W0 W1 b1)=>eU (some ⟨C.sp,0,none⟩) C.m (ni + i) W1 (hq.recv hC) HS6.out (by omega) (dq hC.rep))
 rw [hf] at HF0
 clear h hC hc hf hfm hhs hst hbf hcs h9 hu hv e9 f9 eh hcc hhx hhL hnh hgh hg fni fn2 fnp fnu fnv frl
 go_enter Tryz.func51,Tryz.ntmps51
 go_upto_region 1 with fail
 generalize W.alloc (.cells #[.slice Au nu cu,.slice Av nv cv] 64) = wa at HZ0 HNA ⊢
 clear HN z0 z1 q10
 have HN:=HNA
 clear HNA
 obtain ⟨Z4,hZ⟩:∃ Z,W.heap.size = Z:=⟨_,rfl⟩
 rw [hZ] at HZ0 hZY
 simp only [hZ]
 clear hZ
 have HZ4:=HZ0
 have HZY:=J hZY
 clear HZ0 hZY
 have HFN:Hid (∀ W1,Below wa.heap.size wa W1 → Calls Tryz.prog 66 #[.pointer (some ⟨C.sp,0,none⟩),.int .u32 ((ni + i:Nat):Int)] W1 fun e W2=>∃ A1 c1 A2 c2,e = .returned (.tuple #[.agg #[.slice A1 np c1,.slice A2 n2 c2],.bool true]) ∧ Below W1.heap.size W1 W2):=J (fun W1 hb=>(HF0.out W1 b (HN.out.on hb)).mono (fun e W2 hq=>by
  obtain ⟨u,v,h1,h2,h3,h4⟩:=hq
  obtain ⟨A1,c1,rfl,_⟩:=id h2
  obtain ⟨A2,c2,rfl,_⟩:=id h3
  rw [show (Option.getD (some f) (⟨[],[]⟩:FT)) = f from rfl] at h1
  exact ⟨A1,c1,A2,c2,by rw [h1,HFP.out,HF2.out];rfl,h4⟩
  ))
 clear HF0
 go_wp2_with fail
 go_cut [5] from 6 to 33 (fun pv wz=>∃ Z5 A1 c1 A2 n2 c2,pv = .pointer (some ⟨Z5,0,none⟩) ∧ wz.heap[Z5]? = some (.cells #[.slice A1 np c1,.slice A2 n2 c2] 29 (0,0)) ∧ ¬ Z5 = C.Y ∧ wz.heap[Z4]? = some (.cells #[.slice Au nu cu,.slice Av nv cv] 64 (0,0)) ∧ Nt C W0 wz b)
 case first =>
  have HBY:Hid (Below wa.heap.size wa (World.drew wa)):=J (Below.drew (Below.refl _ _))
  refine wp_region_held_drew (S:=fun W'=>Below wa.heap.size wa W') (by kernel_rfl) (HBY.out) (fun hHeld=>?_)
  generalize World.drew wa = y0 at HBY hHeld ⊢
  refine dg1 0 rfl ?_
  refine dg1 1 rfl ?_
  refine dg1 2 rfl ?_
  refine dg1 3 rfl ?_
  refine dg1 4 rfl ?_
  refine dg1 5 rfl ?_
  refine dg1 6 rfl ?_
  refine dg1 7 rfl ?_
  refine dg1 9 rfl ?_
  refine ai 8 16 rfl rfl (by kernel_rfl) (fun K hK=>?_) (fun K hK=>?_)
  ·try (rw [if_pos];case hc=>rfl)
   go_simp
   go_at_call 67
   refine (bq _ C.m 0 (by decide) _ ((HN.out.on HBY.out).recv HC.out) HS6.out).mono ?_
   rintro e y1 ⟨rfl,hb⟩
   rw [HNI.out]
   have HB1:=J (HBY.out.trans (hb.mono HBY.out.size))
   clear HBY hb
   have HBY:=HB1
   clear HB1
   refine hK.out _ _ HBY.out fun hHeld=>?_
   clear hK K
   refine dg1 10 rfl ?_
   refine dg1 11 rfl ?_
   refine ai 12 16 rfl rfl (by kernel_rfl) (fun K hK=>?_) (fun K hK=>?_)
   ·try (rw [if_pos];case hc=>rfl)
    go_simp
    go_at_call 66
    refine (HFN.out _ HBY.out).mono ?_
    rintro e y2 ⟨A1,c1,A2,c2,rfl,hb⟩
    have HB1:=J (HBY.out.trans (hb.mono HBY.out.size))
    clear HBY hb
    have HBY:=HB1
    clear HB1
    refine hK.out _ _ HBY.out fun hHeld=>?_
    clear hK K
    refine dg1 13 rfl ?_
    refine dg1 14 rfl ?_
    refine dg1 15 rfl ?_
    refine ac 16 rfl (by kernel_rfl) (fun K hK=>?_)
    have HB1:Hid (Below wa.heap.size wa (y2.alloc (.cells #[.slice none 0 0,.slice none 0 0] 29))):=J (HBY.out.alloc HBY.out.size _)
    try (rw [if_pos];case hc=>rfl)
    go_simp
    refine hK.out _ _ HB1.out fun hHeld=>?_
    clear hK K
    have HZ5:Hid ((y2.alloc (.cells #[.slice none 0 0,.slice none 0 0] 29)).heap[y2.heap.size]? = _):=J (heap_alloc_new y2 (.cells #[.slice none 0 0,.slice none 0 0] 29))
    have HZ5L:Hid (wa.heap.size ≤ y2.heap.size):=J HBY.out.size
    have HZ5Y:Hid (¬ y2.heap.size = C.Y):=J (fun e=>by have h1:=(gL HN.out.cy);have h2:=HBY.out.size;omega)
    obtain ⟨Z5,hz5⟩:∃ Z,y2.heap.size = Z:=⟨_,rfl⟩
    rw [hz5] at HZ5 HZ5L HZ5Y
    simp only [hz5]
    clear hz5
    generalize y2.alloc (.cells #[.slice none 0 0,.slice none 0 0] 29) = y3 at HB1 HZ5 ⊢
    clear HBY
    have HBY:=HB1
    clear HB1
    refine dA 17 rfl fun K hK=>?_
    refine wp_store_row 29 (.tmp 5) (.tmp 32) rfl Z5 #[.slice A1 np c1,.slice A2 n2 c2] rfl rfl 29 #[.slice none 0 0,.slice none 0 0] HZ5.out ak rfl (by simp [Value.oneCell']) ?_
    have HB1:Hid (Below wa.heap.size wa (y3.setRow Z5 #[.slice A1 np c1,.slice A2 n2 c2])):=J (ab HBY.out HZ5L.out _)
    have HZ6:Hid ((y3.setRow Z5 #[.slice A1 np c1,.slice A2 n2 c2]).heap[Z5]? = some (.cells #[.slice A1 np c1,.slice A2 n2 c2] 29 (0,0))):=J (setRow_heap _ _ #[.slice none 0 0,.slice none 0 0] #[.slice A1 np c1,.slice A2 n2 c2] _ _ HZ5.out)
    refine hK.out _ _ HB1.out fun hHeld=>?_
    clear hK K
    simp only [Act.put]
    refine dg1 18 rfl ?_
    refine dN ?_
    go_wp2_with fail
    go_meet
    case rel=>exact ⟨Z5,A1,c1,A2,n2,c2,rfl,HZ6.out,HZ5Y.out,(HB1.out.block Z4 (gL HZ4.out)).trans HZ4.out,HN.out.on HB1.out⟩
   ·have HB1:Hid (Below wa.heap.size wa (y1.alloc (.cells #[.slice none 0 0,.slice none 0 0] 29))):=J (HBY.out.alloc HBY.out.size _)
    try (rw [if_pos];case hc=>rfl)
    go_simp
    refine hK.out _ _ HB1.out fun hHeld=>?_
    clear hK K
    have HZ5:Hid ((y1.alloc (.cells #[.slice none 0 0,.slice none 0 0] 29)).heap[y1.heap.size]? = _):=J (heap_alloc_new y1 (.cells #[.slice none 0 0,.slice none 0 0] 29))
    have HZ5L:Hid (wa.heap.size ≤ y1.heap.size):=J HBY.out.size
    have HZ5Y:Hid (¬ y1.heap.size = C.Y):=J (fun e=>by have h1:=(gL HN.out.cy);have h2:=HBY.out.size;omega)
    obtain ⟨Z5,hz5⟩:∃ Z,y1.heap.size = Z:=⟨_,rfl⟩
    rw [hz5] at HZ5 HZ5L HZ5Y
    simp only [hz5]
    clear hz5
    generalize y1.alloc (.cells #[.slice none 0 0,.slice none 0 0] 29) = y2 at HB1 HZ5 ⊢
    clear HBY
    have HBY:=HB1
    clear HB1
    refine dA 12 rfl fun K hK=>?_
    go_simp
    go_at_call 66
    refine (HFN.out _ HBY.out).mono ?_
    rintro e y3 ⟨A1,c1,A2,c2,rfl,hb⟩
    have HB1:=J (HBY.out.trans (hb.mono HBY.out.size))
    have HZ5N:=J ((hb.block Z5 (gL HZ5.out)).trans HZ5.out)
    clear HZ5
    have HZ5:=HZ5N
    clear HZ5N
    clear HBY hb
    have HBY:=HB1
    clear HB1
    refine hK.out _ _ HBY.out fun hHeld=>?_
    clear hK K
    refine dg1 13 rfl ?_
    refine dg1 14 rfl ?_
    refine dg1 15 rfl ?_
    refine dA 17 rfl fun K hK=>?_
    refine wp_store_row 29 (.tmp 5) (.tmp 32) rfl Z5 #[.slice A1 np c1,.slice A2 n2 c2] rfl rfl 29 #[.slice none 0 0,.slice none 0 0] HZ5.out ak rfl (by simp [Value.oneCell']) ?_
    have HB1:Hid (Below wa.heap.size wa (y3.setRow Z5 #[.slice A1 np c1,.slice A2 n2 c2])):=J (ab HBY.out HZ5L.out _)
    have HZ6:Hid ((y3.setRow Z5 #[.slice A1 np c1,.slice A2 n2 c2]).heap[Z5]? = some (.cells #[.slice A1 np c1,.slice A2 n2 c2] 29 (0,0))):=J (setRow_heap _ _ #[.slice none 0 0,.slice none 0 0] #[.slice A1 np c1,.slice A2 n2 c2] _ _ HZ5.out)
    refine hK.out _ _ HB1.out fun hHeld=>?_
    clear hK K
    simp only [Act.put]
    refine dg1 18 rfl ?_
    refine dN ?_
    go_wp2_with fail
    go_meet
    case rel=>exact ⟨Z5,A1,c1,A2,n2,c2,rfl,HZ6.out,HZ5Y.out,(HB1.out.block Z4 (gL HZ4.out)).trans HZ4.out,HN.out.on HB1.out⟩
  ·have HB1:Hid (Below wa.heap.size wa (y0.alloc (.cells #[.slice none 0 0,.slice none 0 0] 29))):=J (HBY.out.alloc HBY.out.size _)
   try (rw [if_pos];case hc=>rfl)
   go_simp
   refine hK.out _ _ HB1.out fun hHeld=>?_
   clear hK K
   have HZ5:Hid ((y0.alloc (.cells #[.slice none 0 0,.slice none 0 0] 29)).heap[y0.heap.size]? = _):=J (heap_alloc_new y0 (.cells #[.slice none 0 0,.slice none 0 0] 29))
   have HZ5L:Hid (wa.heap.size ≤ y0.heap.size):=J HBY.out.size
   have HZ5Y:Hid (¬ y0.heap.size = C.Y):=J (fun e=>by have h1:=(gL HN.out.cy);have h2:=HBY.out.size;omega)
   obtain ⟨Z5,hz5⟩:∃ Z,y0.heap.size = Z:=⟨_,rfl⟩
   rw [hz5] at HZ5 HZ5L HZ5Y
   simp only [hz5]
   clear hz5
   generalize y0.alloc (.cells #[.slice none 0 0,.slice none 0 0] 29) = y1 at HB1 HZ5 ⊢
   clear HBY
   have HBY:=HB1
   clear HB1
   refine dA 8 rfl fun K hK=>?_
   go_simp
   go_at_call 67
   refine (bq _ C.m 0 (by decide) _ ((HN.out.on HBY.out).recv HC.out) HS6.out).mono ?_
   rintro e y2 ⟨rfl,hb⟩
   rw [HNI.out]
   have HB1:=J (HBY.out.trans (hb.mono HBY.out.size))
   have HZ5N:=J ((hb.block Z5 (gL HZ5.out)).trans HZ5.out)
   clear HZ5
   have HZ5:=HZ5N
   clear HZ5N
   clear HBY hb
   have HBY:=HB1
   clear HB1
   refine hK.out _ _ HBY.out fun hHeld=>?_
   clear hK K
   refine dg1 10 rfl ?_
   refine dg1 11 rfl ?_
   refine dA 12 rfl fun K hK=>?_
   go_simp
   go_at_call 66
   refine (HFN.out _ HBY.out).mono ?_
   rintro e y3 ⟨A1,c1,A2,c2,rfl,hb⟩
   have HB1:=J (HBY.out.trans (hb.mono HBY.out.size))
   have HZ5N:=J ((hb.block Z5 (gL HZ5.out)).trans HZ5.out)
   clear HZ5
   have HZ5:=HZ5N
   clear HZ5N
   clear HBY hb
   have HBY:=HB1
   clear HB1
   refine hK.out _ _ HBY.out fun hHeld=>?_
   clear hK K
   refine dg1 13 rfl ?_
   refine dg1 14 rfl ?_
   refine dg1 15 rfl ?_
   refine dA 17 rfl fun K hK=>?_
   refine wp_store_row 29 (.tmp 5) (.tmp 32) rfl Z5 #[.slice A1 np c1,.slice A2 n2 c2] rfl rfl 29 #[.slice none 0 0,.slice none 0 0] HZ5.out ak rfl (by simp [Value.oneCell']) ?_
   have HB1:Hid (Below wa.heap.size wa (y3.setRow Z5 #[.slice A1 np c1,.slice A2 n2 c2])):=J (ab HBY.out HZ5L.out _)
   have HZ6:Hid ((y3.setRow Z5 #[.slice A1 np c1,.slice A2 n2 c2]).heap[Z5]? = some (.cells #[.slice A1 np c1,.slice A2 n2 c2] 29 (0,0))):=J (setRow_heap _ _ #[.slice none 0 0,.slice none 0 0] #[.slice A1 np c1,.slice A2 n2 c2] _ _ HZ5.out)
   refine hK.out _ _ HB1.out fun hHeld=>?_
   clear hK K
   simp only [Act.put]
   refine dg1 18 rfl ?_
   refine dN ?_
   go_wp2_with fail
   go_meet
   case rel=>exact ⟨Z5,A1,c1,A2,n2,c2,rfl,HZ6.out,HZ5Y.out,(HB1.out.block Z4 (gL HZ4.out)).trans HZ4.out,HN.out.on HB1.out⟩
 case rest =>
  obtain ⟨Z5,A1,c1,A2,n2',c2,rfl,hz5,hz5y,hz4,hn⟩:=hcut
  clear HN HZ4 HFN
  have HN:=J hn
  have HZ:=J hz4
  have x0:=cellV hz5 0 _ rfl
  have x1:=cellV hz4 0 _ rfl
  clear hz5 hz4 hn hz5y
  go_upto_region 4 with (go_at_call 76;refine (cP _ _ _ HPL.out _).mono ?_;rintro e w1 ⟨rfl,rfl⟩)
  clear x0 x1
  go_loopw [40,7] (fun iv lv wr=>∃ j l:Nat,j ≤ nu ∧ iv = .int .i64 ↑j ∧ lv = .int .u64 ↑l ∧ Hid (l = np + Ru.runs (c.locals.take j)) ∧ Hid (Nt C W0 wr b) ∧ Hid (wr.heap[Z4]? = some (.cells #[.slice Au nu cu,.slice Av nv cv] 64 (0,0)))) (fun iv _ _=>nu - (intOf iv).toNat)
  case atStart=>exact ⟨0,np,Nat.zero_le _,rfl,rfl,J rfl,HN,HZ⟩
  case round =>
   clear HN HZ
   obtain ⟨j,l,hj,rfl,rfl,HLL,HN,HZ⟩:=hrel
   by_cases hlt:j < nu
   ·have hlti:(j:Int) < (nu:Int):=by omega
    obtain ⟨x,hx⟩:∃ x,c.locals[j]? = some x:=⟨_,List.getElem?_eq_getElem (by rw [HNU.out];exact hlt)⟩
    obtain ⟨gl,ol,cs,rfl,_,hgl,⟨rfl,hxn⟩,hcs⟩:=HLU.out j x hx
    have z0:wr.cell? ⟨gl,ol + j * 2,none⟩ = some (.int .u32 ↑x.n):=(HN.out.bel.cell (p:=⟨gl,ol + j * 2,none⟩) hgl).trans (hcs 0 _ rfl)
    have z1:wr.cell? ⟨gl,ol + j * 2 + 1,none⟩ = some (.int .u8 ↑x.t.toNat):=(HN.out.bel.cell (p:=⟨gl,ol + j * 2 + 1,none⟩) hgl).trans (hcs 1 _ rfl)
    have HLN:Hid (np + Ru.runs (c.locals.take (j + 1)) = l + x.n):=J (by rw [Ru.runs_take hx,HLL.out];omega)
    have hll:l ≤ 1050000 + 1050000 * 4294967296:=by
     have h1:Ru.runs (c.locals.take j) ≤ (c.locals.take j).length * 4294967296:=Ru.runs_le _ (fun y hy=>by
      obtain ⟨k,hk⟩:=List.mem_iff_getElem?.1 (List.mem_of_mem_take hy)
      obtain ⟨_,_,_,_,_,_,⟨_,hq⟩,_⟩:=HLU.out k y hk
      exact hq)
     have h2:(c.locals.take j).length ≤ 1050000:=by rw [List.length_take];omega
     have h3:=Nat.mul_le_mul_right 4294967296 h2
     have h4:=HLL.out
     omega
    clear hcs hgl hx
    generalize (x.t.toNat:Int) = lt at *
    obtain ⟨ln,hln⟩:∃ n,x.n = n:=⟨_,rfl⟩
    rw [hln] at z0 HLN hxn
    clear hln
    have hw1:IntKind.u64.wrap (ln:Int) = (ln:Int):=IntWalk.u64_in _ (by omega)
    have hw2:IntKind.u64.wrap ((l:Int) + (ln:Int)) = ((l + ln:Nat):Int):=by rw [IntWalk.u64_in _ (by omega)];omega
    have hb0:Below wr.heap.size wr (wr.alloc (.cells #[.int .u32 ↑ln,.int .u8 lt] 61)):=bA
    have HNA:=J (HN.out.on hb0)
    have HZA:=J ((hb0.block Z4 (gL HZ.out)).trans HZ.out)
    have HZL:=J (heap_alloc_new wr (.cells #[.int .u32 ↑ln,.int .u8 lt] 61))
    clear hb0
    go_upto_region 6 with fail
    generalize wr.alloc (.cells #[.int .u32 ↑ln,.int .u8 lt] 61) = wl at HNA HZA HZL ⊢
    clear z0 z1
    have p0:=cellV HZL.out 0 _ rfl
    go_wp2_with fail
    go_roundw
    case rel=>exact ⟨j + 1,l + ln,by omega,by go_num,rfl,J HLN.out.symm,HNA,HZA⟩
    case measure=>simp [intOf];omega
   ·have hlti:decide ((j:Int) < (nu:Int)) = false:=decide_eq_false (by omega)
    have HL2:Hid (l = np + rl):=J (by rw [HLL.out,List.take_of_length_le (by rw [HNU.out];omega),HR.out])
    clear HLL
    go_upto_region 8 with fail
    have q14:=cellV HN.out.cx 14 _ rfl
    go_upto_region 9 with (go_at_call 47;refine (aq HC.out l 256 HN.out).mono ?_;rintro e w2 ⟨rfl,hn2,hm2⟩;have HN2:=J hn2;have HZ2:=J (hm2.heap HZ.out HZY.out);clear HN HZ hn2 hm2;have HN:=HN2;have HZ:=HZ2;clear HN2 HZ2)
    clear q14
    have HN2:=J (HN.out.on (Below.drew (Below.refl _ _)))
    clear HN
    have HN:=HN2
    clear HN2
    refine wp_region_held_drew (S:=fun W'=>W'.heap[C.X]? = some (.cells #[C.v1,C.v2,C.v3,C.v4,C.v5,C.v6,C.v7,.bool C.m.hasStart,.int .u32 ↑C.m.start,C.v8,C.v9,C.v10,.pointer (some ⟨C.sp,0,none⟩),C.hv,.func (.func 47) #[] #[.pointer (some ⟨C.Y,0,none⟩)]] 122 (0,0)) ∧ W'.heap[Z4]? = some (.cells #[.slice Au nu cu,.slice Av nv cv] 64 (0,0))) (by kernel_rfl) (⟨HN.out.cx,HZ.out⟩) (fun hHeld=>?_)
    refine dn1 0 rfl ?_
    refine dn1 1 rfl ?_
    refine dn1 2 rfl ?_
    refine dn1 3 rfl ?_
    refine dn1 4 rfl ?_
    refine dn1 5 rfl ?_
    refine dA 6 rfl fun K hK=>?_
    go_simp
    go_at_call 77
    refine (eB _ _ _ HVL.out _).mono ?_
    rintro e w1 ⟨rfl,rfl⟩
    refine hK.out _ _ (hHeld) fun hHeld=>?_
    clear hK K
    refine dA 7 rfl fun K hK=>?_
    go_simp
    go_at_call 47
    refine (aq HC.out nv 8192 HN.out).mono ?_
    rintro e w2 ⟨rfl,hn2,hm2⟩
    have HN2:=J hn2
    have HZ2:=J (hm2.heap HZ.out HZY.out)
    clear HN hn2 hm2
    have HN:=HN2
    clear HN2
    clear HZ
    have HZ:=HZ2
    clear HZ2
    refine hK.out _ _ (⟨HN.out.cx,HZ.out⟩) fun hHeld=>?_
    clear hK K
    refine dN ?_
    go_wp2_with fail
    have HN2:=J (HN.out.on (Below.drew (Below.refl _ _)))
    clear HN
    have HN:=HN2
    clear HN2
    refine wp_region_held_drew (S:=fun W'=>W'.heap[C.X]? = some (.cells #[C.v1,C.v2,C.v3,C.v4,C.v5,C.v6,C.v7,.bool C.m.hasStart,.int .u32 ↑C.m.start,C.v8,C.v9,C.v10,.pointer (some ⟨C.sp,0,none⟩),C.hv,.func (.func 47) #[] #[.pointer (some ⟨C.Y,0,none⟩)]] 122 (0,0)) ∧ W'.cell? ⟨gh,oh + i,none⟩ = some (.int .i64 ↑hh)) (by kernel_rfl) (⟨HN.out.cx,HCH.out _ HN.out.bel⟩) (fun hHeld=>?_)
    refine dp1 0 rfl ?_
    refine dp1 1 rfl ?_
    refine dp1 2 rfl ?_
    refine dp1 3 rfl ?_
    refine dp1 4 rfl ?_
    refine dp1 5 rfl ?_
    refine dp1 6 rfl ?_
    refine dp1 7 rfl ?_
    refine dp1 8 rfl ?_
    refine dp1 9 rfl ?_
    refine dp1 10 rfl ?_
    refine dp1 11 rfl ?_
    refine dA 12 rfl fun K hK=>?_
    go_simp
    go_at_call 47
    refine (aq HC.out hh 512 HN.out).mono ?_
    rintro e w2 ⟨rfl,hn2,hm2⟩
    have HN2:=J hn2
    have HZ2:=J (hm2.heap HZ.out HZY.out)
    clear HN hn2 hm2
    have HN:=HN2
    clear HN2
    clear HZ
    have HZ:=HZ2
    clear HZ2
    refine hK.out _ _ (⟨HN.out.cx,HCH.out _ HN.out.bel⟩) fun hHeld=>?_
    clear hK K
    refine dN ?_
    have x4:=cellV HZ.out 1 _ rfl
    go_wp2_with (go_at_call 78;refine (HBODY.out _ _ HN.out).mono ?_;rintro e w2 ⟨rfl,hn2⟩;have HN2:=J hn2;clear HN hn2;have HN:=HN2;clear HN2)
    go_end0
    refine ⟨rfl,?_⟩
    rw [HFP.out,HEN.out,← HL2.out]
    simp only [← Bool.or_assoc]
    exact HN.out
end
end Go.Proofs.YtmpelmihdpomjaaGreat
namespace Ru
open Bin Sp Ins
def runB (m:M) (x:Exp):Bool:=x.kind == 0 && match func m x.index with
 | none=>false
 | some f=>f.params.isEmpty && f.results.isEmpty
theorem expB_run (m:M) (x:Exp):expB m x = (!(x.name == main || x.name == init) || runB m x):=rfl
theorem runB_none {m:M} {x:Exp} (h:func m x.index = none):runB m x = false:=by unfold runB;rw [h];simp
theorem runB_kind {m:M} {x:Exp} (h:¬ x.kind.toNat = 0):runB m x = false:=by
 unfold runB
 rw [show (x.kind == 0) = false from by rw [beq_eq_false_iff_ne];intro e;rw [e] at h;exact h rfl]
 rfl
theorem runB_some {m:M} {x:Exp} {f:FT} (h1:func m x.index = some f) (h2:x.kind.toNat = 0):runB m x = decide (f = ⟨[],[]⟩):=by
 unfold runB
 rw [h1,show (x.kind == 0) = true from by rw [beq_iff_eq];exact UInt8.toNat_inj.1 h2]
 obtain ⟨a,b⟩:=f
 cases a <;> cases b <;> simp
end Ru
namespace Go.Proofs.YtmpelmihdpomjaaGreat
open Go.RowKit Ins Bin Sp
theorem bn {w:World} {X:Nat} {a b c:Value} {t:TypeId} (h:w.heap[X]? = some (.cells #[a,b,c] t (0,0))):w.cell? ⟨X,0,none⟩ = some a ∧ w.cell? ⟨X,1,none⟩ = some b ∧ w.cell? ⟨X,2,none⟩ = some c:=⟨by rw [cell_of_row w X 0 _ _ (0,0) h];rfl,by rw [cell_of_row w X 1 _ _ (0,0) h];rfl,by rw [cell_of_row w X 2 _ _ (0,0) h];rfl⟩
theorem rruns_any (m:M) (x:Exp) (sp:Nat) (S:ByteArray) (w:World) (hR:Recv w (some ⟨sp,0,none⟩) m) (hl:cg m) (hF:∀ t ∈ funs m,t < 4294967296) (hx:x.index < 4294967296) :
  Calls Tryz.prog 54 #[.agg #[.string S,.int .u8 ↑x.kind.toNat,.int .u32 ↑x.index],.pointer (some ⟨sp,0,none⟩)] w fun e w'=>e = .returned (.bool (Ru.runB m x)) ∧ Below w.heap.size w w':=by
 have HFN:=J (fun W (hb:Below w.heap.size w W)=>eU (some ⟨sp,0,none⟩) m x.index W (hR.grow hb) hl hx hF)
 have HL:=J hl
 obtain ⟨R,hR1⟩:∃ R,Ru.runB m x = R:=⟨_,rfl⟩
 rw [hR1]
 have HNO:Hid (func m x.index = none → R = false):=J (fun h=>by rw [← hR1];exact Ru.runB_none h)
 have HKD:Hid (¬ x.kind.toNat = 0 → R = false):=J (fun h=>by rw [← hR1];exact Ru.runB_kind h)
 have HSO:Hid (∀ f,func m x.index = some f → x.kind.toNat = 0 → R = decide (f = ⟨[],[]⟩)):=J (fun f h1 h2=>by rw [← hR1];exact Ru.runB_some h1 h2)
 clear hR hl hF hR1 hx
 obtain ⟨ix,eix⟩:∃ k,x.index = k:=⟨_,rfl⟩
 rw [eix] at HFN HNO HSO ⊢
 clear eix
 obtain ⟨kd,ekd⟩:∃ k,x.kind.toNat = k:=⟨_,rfl⟩
 rw [ekd] at HKD HSO ⊢
 clear ekd
 obtain ⟨fo,efo⟩:∃ q,func m ix = q:=⟨_,rfl⟩
 have HFO:=J efo
 rw [efo] at HFN HNO HSO
 clear efo
 have HB0:Hid (Below w.heap.size w (w.alloc (.cells #[.string S,.int .u8 ↑kd,.int .u32 ↑ix] 52))):=J bA
 have HX0:=J (heap_alloc_new w (.cells #[.string S,.int .u8 ↑kd,.int .u32 ↑ix] 52))
 go_enter Tryz.func54,Tryz.ntmps54
 go_upto_region 1 with fail
 generalize w.alloc (.cells #[.string S,.int .u8 ↑kd,.int .u32 ↑ix] 52) = w0 at HB0 HX0 ⊢
 obtain ⟨B,hB⟩:∃ B,w.heap.size = B:=⟨_,rfl⟩
 rw [hB] at HX0
 simp only [hB]
 clear hB
 obtain ⟨p0,p1,p2⟩:=bn HX0.out
 have HP:Hid (∀ W,Below w0.heap.size w0 W → W.cell? ⟨B,1,none⟩ = some (.int .u8 ↑kd)):=J (fun W hb=>cellV ((hb.block B (gL HX0.out)).trans HX0.out) 1 _ rfl)
 have HFM:Hid (∀ W,Below w0.heap.size w0 W → Calls Tryz.prog 66 #[.pointer (some ⟨sp,0,none⟩),.int .u32 ↑ix] W fun e w'=>∃ A5 c5 A6 c6,e = .returned (.tuple #[.agg #[.slice A5 (fo.getD ⟨[],[]⟩).params.length c5,.slice A6 (fo.getD ⟨[],[]⟩).results.length c6],.bool fo.isSome]) ∧ aa w' (· < w'.heap.size) (fo.getD ⟨[],[]⟩).params (.slice A5 (fo.getD ⟨[],[]⟩).params.length c5) ∧ aa w' (· < w'.heap.size) (fo.getD ⟨[],[]⟩).results (.slice A6 (fo.getD ⟨[],[]⟩).results.length c6) ∧ Below W.heap.size W w'):=J (fun W hb=>(HFN.out W (HB0.out.trans (hb.mono HB0.out.size))).mono (fun e w' hq=>by
  obtain ⟨u,v,h1,h2,h3,h4⟩:=hq
  obtain ⟨A5,c5,rfl,_⟩:=id h2
  obtain ⟨A6,c6,rfl,_⟩:=id h3
  exact ⟨A5,c5,A6,c6,h1,h2,h3,h4⟩))
 clear HFN
 go_upto_region 2 with (go_at_call 66;refine (HFM.out _ (Below.refl _ _)).mono ?_;rintro e w3 ⟨A5,c5,A6,c6,rfl,ht1,ht2,hb⟩;have HB1:=J hb;have HT1:=J ht1;have HT2:=J ht2;clear hb ht1 ht2)
 clear p0 p1 p2
 obtain ⟨f,ef⟩:∃ f,fo.getD (⟨[],[]⟩:FT) = f:=⟨_,rfl⟩
 rw [ef] at HT1 HT2
 simp only [ef]
 have HEF:=J ef
 clear ef
 have hb6:Below w3.heap.size w3 (w3.alloc (.cells #[.slice A5 f.params.length c5,.slice A6 f.results.length c6] 29)):=bA
 have HB5:=J (HB1.out.trans (hb6.mono HB1.out.size))
 have HT3:=J (HT1.out.grow hb6)
 have HT4:=J (HT2.out.grow hb6)
 have HZ5:=J (heap_alloc_new w3 (.cells #[.slice A5 f.params.length c5,.slice A6 f.results.length c6] 29))
 clear hb6 HT1 HT2 HB1
 generalize w3.alloc (.cells #[.slice A5 f.params.length c5,.slice A6 f.results.length c6] 29) = w4 at HB5 HT3 HT4 HZ5 ⊢
 obtain ⟨Z,hZ⟩:∃ Z,w3.heap.size = Z:=⟨_,rfl⟩
 rw [hZ] at HZ5
 simp only [hZ]
 clear hZ
 cases fo with
 | none =>
  have HRR:Hid (R = false):=J (HNO.out rfl)
  go_wp2_with fail
  go_ret
  rw [HRR.out]
  exact ⟨rfl,HB0.out.trans (HB5.out.mono HB0.out.size)⟩
 | some f' =>
  have hfe:f' = f:=HEF.out
  subst hfe
  have k1:=HP.out _ HB5.out
  by_cases hkd:kd = 0
  ·have hke:((kd:Int) == 0) = true:=by rw [beq_iff_eq];omega
   obtain ⟨q0,q1⟩:=ae HZ5.out
   have hfm:=HL.out.each f' (Ru.func_mem HFO.out)
   have HS:Hid (Calls Tryz.prog 53 #[.agg #[.slice A5 f'.params.length c5,.slice A6 f'.results.length c6],.agg #[.slice none 0 0,.slice none 0 0]] w4 fun e w'=>e = .returned (.bool (decide (f' = ⟨[],[]⟩))) ∧ Below w4.heap.size w4 w'):=J (cJ f' ⟨[],[]⟩ _ _ _ _ w4 HT3.out HT4.out (aa.nil _ _) (aa.nil _ _) hfm ⟨by decide,by decide⟩)
   have HRR:=J (HSO.out f' rfl hkd)
   clear hfm
   obtain ⟨dd,hdd⟩:∃ q,decide (f' = ⟨[],[]⟩) = q:=⟨_,rfl⟩
   rw [hdd] at HS HRR
   clear hdd
   go_wp2_with (go_at_call 53;refine HS.out.mono ?_;rintro e w5 ⟨rfl,hb⟩;have HB7:=J (HB5.out.trans (hb.mono HB5.out.size));clear hb)
   go_ret
   rw [HRR.out]
   exact ⟨rfl,HB0.out.trans (HB7.out.mono HB0.out.size)⟩
  ·have hke:((kd:Int) == 0) = false:=nB (by omega)
   have HRR:Hid (R = false):=J (HKD.out hkd)
   go_wp2_with fail
   go_ret
   rw [HRR.out]
   exact ⟨rfl,HB0.out.trans (HB5.out.mono HB0.out.size)⟩
theorem rexps_any (m:M) (v1 v2 v3 v4 v5 v6 v7 v8 v9 v10:Value) (sp:Nat) (w:World) (hM:RepM w (· < w.heap.size) m v1 v2 v3 v4 v5 v6 v7 v8 v9 v10) (hF:FitR m) (hS:aC w sp m) :
  Calls Tryz.prog 21 #[.agg #[v1,v2,v3,v4,v5,v6,v7,.bool m.hasStart,.int .u32 ↑m.start,v8,v9,v10],.pointer (some ⟨sp,0,none⟩)] w fun e w'=>e = .returned (.bool (Ru.expsB m)) ∧ Below w.heap.size w w':=by
 have HRF:=J (dq hM)
 obtain ⟨A7,c7,e7,_,_,_,hL⟩:=hM.exports
 have hil:=hF.1.lots.exports
 have HL:=J hL
 have HS6:=J (Lots.some hF.1.lots)
 have HREC:Hid (∀ W,Below w.heap.size w W → Recv W (some ⟨sp,0,none⟩) m):=J (fun W hb=>.inl ⟨sp,rfl,hS.grow hb⟩)
 obtain ⟨n,hn⟩:∃ n,m.exports.length = n:=⟨_,rfl⟩
 rw [hn] at e7 hil
 have HNL:=J hn
 subst e7
 have HB0:Hid (Below w.heap.size w (w.alloc (.cells #[v1,v2,v3,v4,v5,v6,.slice A7 n c7,.bool m.hasStart,.int .u32 ↑m.start,v8,v9,v10] 49))):=J bA
 have HX0:=J (heap_alloc_new w (.cells #[v1,v2,v3,v4,v5,v6,.slice A7 n c7,.bool m.hasStart,.int .u32 ↑m.start,v8,v9,v10] 49))
 have HEX:Hid (Ru.expsB m = (m.exports.all (Ru.expB m) && m.exports.any fun x=>x.name == Ru.main)):=J rfl
 clear hM hL hF hS hn
 generalize m.hasStart = ms at *
 generalize (m.start:Int) = mi at *
 go_enter Tryz.func21,Tryz.ntmps21
 go_upto_region 1 with fail
 generalize w.alloc (.cells #[v1,v2,v3,v4,v5,v6,.slice A7 n c7,.bool ms,.int .u32 mi,v8,v9,v10] 49) = w0 at HB0 HX0 ⊢
 obtain ⟨B,hB⟩:∃ B,w.heap.size = B:=⟨_,rfl⟩
 rw [hB] at HX0
 simp only [hB]
 clear hB
 have x6:=cellV HX0.out 6 _ rfl
 go_upto_region 3 with fail
 clear x6
 go_loopw [11,5] (fun iv fv wr=>∃ (j:Nat) (fl:Bool),j ≤ n ∧ iv = .int .i64 ↑j ∧ fv = .bool fl ∧ Hid (fl = (m.exports.take j).any fun x=>x.name == Ru.main) ∧ Hid (bS (fun x=>!Ru.expB m x) m.exports j) ∧ Hid (Below w0.heap.size w0 wr)) (fun iv _ _=>n - (intOf iv).toNat)
 case atStart=>exact ⟨0,false,Nat.zero_le _,rfl,rfl,J rfl,J (bE _ _),J (Below.refl _ _)⟩
 case round =>
  obtain ⟨j,fl,hj,rfl,rfl,HFL,HNO,HBR⟩:=hrel
  by_cases hlt:j < n
  ·have hlti:(j:Int) < (n:Int):=by omega
   obtain ⟨x,hx⟩:∃ x,m.exports[j]? = some x:=⟨_,List.getElem?_eq_getElem (by rw [HNL.out];exact hlt)⟩
   have HX:=J hx
   have HXM:=J (List.mem_of_getElem? hx)
   have HB3:Hid (Below w.heap.size w wr):=J (HB0.out.trans (HBR.out.mono HB0.out.size))
   obtain ⟨g,o,cs,rfl,_,hg,⟨rfl,hix⟩,hcs⟩:=HL.out j x hx
   have z0:wr.cell? ⟨g,o + j * 3,none⟩ = some (.string ⟨x.name.toArray⟩):=(HB3.out.cell (p:=⟨g,o + j * 3,none⟩) hg).trans (hcs 0 _ rfl)
   have z1:wr.cell? ⟨g,o + j * 3 + 1,none⟩ = some (.int .u8 ↑x.kind.toNat):=(HB3.out.cell (p:=⟨g,o + j * 3 + 1,none⟩) hg).trans (hcs 1 _ rfl)
   have z2:wr.cell? ⟨g,o + j * 3 + 2,none⟩ = some (.int .u32 ↑x.index):=(HB3.out.cell (p:=⟨g,o + j * 3 + 2,none⟩) hg).trans (hcs 2 _ rfl)
   obtain ⟨S,eS⟩:∃ s:ByteArray,(⟨x.name.toArray⟩:ByteArray) = s:=⟨_,rfl⟩
   have hS1:S.toList = x.name:=by rw [← eS,ByteArray.toList_eq]
   rw [eS] at z0
   have HS1:=J hS1
   have HRUN:Hid (∀ W,Below w0.heap.size w0 W → Calls Tryz.prog 54 #[.agg #[.string S,.int .u8 ↑x.kind.toNat,.int .u32 ↑x.index],.pointer (some ⟨sp,0,none⟩)] W fun e w'=>e = .returned (.bool (Ru.runB m x)) ∧ Below W.heap.size W w'):=J (fun W hb=>rruns_any m x sp S W (HREC.out W (HB0.out.trans (hb.mono HB0.out.size))) HS6.out HRF.out hix)
   have HEB:Hid (Ru.expB m x = (!(x.name == Ru.main || x.name == Ru.init) || Ru.runB m x)):=J (Ru.expB_run m x)
   have HFALSE:Hid (Ru.expB m x = false → Ru.expsB m = false):=J (fun h=>by
    rw [HEX.out,Bool.and_eq_false_iff]
    left
    rw [List.all_eq_false]
    exact ⟨x,HXM.out,by rw [h];simp⟩)
   have HFN:Hid (((m.exports.take (j + 1)).any fun x=>x.name == Ru.main) = (fl || (x.name == Ru.main))):=J (by rw [bB hx,← HFL.out])
   clear hcs hg eS hS1 hx hix
   obtain ⟨rb,hrb⟩:∃ q,Ru.runB m x = q:=⟨_,rfl⟩
   rw [hrb] at HRUN HEB
   clear hrb
   generalize (x.kind.toNat:Int) = kd at *
   generalize (x.index:Int) = ix at *
   have HZ0:=J (heap_alloc_new wr (.cells #[.string S,.int .u8 kd,.int .u32 ix] 52))
   have HNA:Hid (Below w0.heap.size w0 (wr.alloc (.cells #[.string S,.int .u8 kd,.int .u32 ix] 52))):=J (HBR.out.alloc HBR.out.size _)
   go_upto_region 5 with fail
   generalize wr.alloc (.cells #[.string S,.int .u8 kd,.int .u32 ix] 52) = wa at HZ0 HNA ⊢
   clear z0 z1 z2
   obtain ⟨p0,p1,p2⟩:=bn HZ0.out
   obtain ⟨Z,hZ⟩:∃ Z,wr.heap.size = Z:=⟨_,rfl⟩
   rw [hZ] at HZ0 p0 p1 p2
   simp only [hZ]
   clear hZ
   have HPZ:Hid (∀ W,Below wa.heap.size wa W → W.cell? ⟨Z,0,none⟩ = some (.string S)):=J (fun W hb=>cellV ((hb.block Z (gL HZ0.out)).trans HZ0.out) 0 _ rfl)
   by_cases hmn:x.name = Ru.main
   ·have hs1:(S.toList == [109,97,105,110]) = true:=by rw [HS1.out,hmn];rfl
    have HE2:Hid (Ru.expB m x = rb):=J (by rw [HEB.out,hmn];simp)
    have HF2:Hid ((fl || (x.name == Ru.main)) = true):=J (by rw [hmn];simp)
    clear hmn
    cases rb with
    | false =>
     have HR:Hid (Ru.expsB m = false):=J (HFALSE.out HE2.out)
     go_wp2_with (go_at_call 54;refine (HRUN.out _ HNA.out).mono ?_;rintro e w5 ⟨rfl,hb⟩;have HB7:=J (HNA.out.trans (hb.mono HNA.out.size));clear hb)
     go_ret
     rw [HR.out]
     exact ⟨rfl,HB0.out.trans (HB7.out.mono HB0.out.size)⟩
    | true =>
     have HNX:=J (bg HX.out (p:=fun x=>!Ru.expB m x) (by rw [HE2.out];rfl) HNO.out)
     go_upto_region 8 with (go_at_call 54;refine (HRUN.out _ HNA.out).mono ?_;rintro e w5 ⟨rfl,hb⟩;have HB7:=J (HNA.out.trans (hb.mono HNA.out.size));have y0:=HPZ.out _ hb;clear hb)
     clear p0 p1 p2
     cases fl with
     | true =>
      go_wp2_with fail
      go_roundw
      case rel=>exact ⟨j + 1,true,by omega,by go_num,rfl,J (by rw [HFN.out];rfl),HNX,HB7⟩
      case measure=>simp [intOf];omega
     | false =>
      go_wp2_with fail
      go_roundw
      case rel=>exact ⟨j + 1,true,by omega,by go_num,rfl,J (by rw [HFN.out,HF2.out]),HNX,HB7⟩
      case measure=>simp [intOf];omega
   have hs1:(S.toList == [109,97,105,110]) = false:=by rw [HS1.out];exact beq_eq_false_iff_ne.2 hmn
   have HF2:Hid ((fl || (x.name == Ru.main)) = fl):=J (by rw [show (x.name == Ru.main) = false from beq_eq_false_iff_ne.2 hmn,Bool.or_false])
   by_cases hin:x.name = Ru.init
   ·have hs2:(S.toList == [105,110,105,116]) = true:=by rw [HS1.out,hin];rfl
    have HE2:Hid (Ru.expB m x = rb):=J (by rw [HEB.out,hin];simp)
    clear hmn hin
    cases rb with
    | false =>
     have HR:Hid (Ru.expsB m = false):=J (HFALSE.out HE2.out)
     go_wp2_with (go_at_call 54;refine (HRUN.out _ HNA.out).mono ?_;rintro e w5 ⟨rfl,hb⟩;have HB7:=J (HNA.out.trans (hb.mono HNA.out.size));clear hb)
     go_ret
     rw [HR.out]
     exact ⟨rfl,HB0.out.trans (HB7.out.mono HB0.out.size)⟩
    | true =>
     have HNX:=J (bg HX.out (p:=fun x=>!Ru.expB m x) (by rw [HE2.out];rfl) HNO.out)
     go_upto_region 8 with (go_at_call 54;refine (HRUN.out _ HNA.out).mono ?_;rintro e w5 ⟨rfl,hb⟩;have HB7:=J (HNA.out.trans (hb.mono HNA.out.size));have y0:=HPZ.out _ hb;clear hb)
     clear p0 p1 p2
     cases fl with
     | true =>
      go_wp2_with fail
      go_roundw
      case rel=>exact ⟨j + 1,true,by omega,by go_num,rfl,J (by rw [HFN.out];rfl),HNX,HB7⟩
      case measure=>simp [intOf];omega
     | false =>
      go_wp2_with fail
      go_roundw
      case rel=>exact ⟨j + 1,false,by omega,by go_num,rfl,J (by rw [HFN.out,HF2.out]),HNX,HB7⟩
      case measure=>simp [intOf];omega
   have hs2:(S.toList == [105,110,105,116]) = false:=by rw [HS1.out];exact beq_eq_false_iff_ne.2 hin
   have HE2:Hid (Ru.expB m x = true):=J (by rw [HEB.out,show (x.name == Ru.main) = false from beq_eq_false_iff_ne.2 hmn,show (x.name == Ru.init) = false from beq_eq_false_iff_ne.2 hin];rfl)
   have HNX:=J (bg HX.out (p:=fun x=>!Ru.expB m x) (by rw [HE2.out];rfl) HNO.out)
   clear hmn hin
   go_wp2_with fail
   go_roundw
   case rel=>exact ⟨j + 1,fl,by omega,by go_num,rfl,J (by rw [HFN.out,HF2.out]),HNX,HNA⟩
   case measure=>simp [intOf];omega
  ·have hlti:decide ((j:Int) < (n:Int)) = false:=decide_eq_false (by omega)
   have HR:Hid (Ru.expsB m = fl):=J (by
    have h1:m.exports.all (Ru.expB m) = true:=by
     rw [List.all_eq_true]
     intro x hx
     obtain ⟨k,hk⟩:=List.mem_iff_getElem?.1 hx
     have h1:=HNO.out k x (by have:=(List.getElem?_eq_some_iff.1 hk).1;have:=HNL.out;omega) hk
     simpa using h1
    rw [HEX.out,h1,HFL.out,List.take_of_length_le (by rw [HNL.out];omega)]
    rfl)
   go_wp2_with fail
   go_ret
   rw [HR.out]
   exact ⟨rfl,HB0.out.trans (HBR.out.mono HB0.out.size)⟩
end Go.Proofs.YtmpelmihdpomjaaGreat
