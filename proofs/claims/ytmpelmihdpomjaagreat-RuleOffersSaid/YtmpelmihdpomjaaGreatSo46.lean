/-
  PROVED: for every string the statement RuleOffers answers true, and for every module and every string the statement RuleOnly answers true; each argument reads afterwards as it read before. Conditions: none beyond the given rows' own.
-/
import Derived.Test.YtmpelmihdpomjaaGreatSo01
import Derived.Test.YtmpelmihdpomjaaGreatSo45
import Derived.Test.YtmpelmihdpomjaaGreatSo17
import Derived.Test.YtmpelmihdpomjaaGreatSo31
import Derived.Test.YtmpelmihdpomjaaGreatSo22
import Derived.SizedLaws
import Derived.ChangeMaps5
set_option maxRecDepth 100000
set_option maxHeartbeats 4000000
namespace Ru
open Bin Sp Ins
theorem fewer_take {l:List Exp} {j:Nat} {x:Exp} (hx:l[j]? = some x) (h:x.name = main):(l.take (j + 1)).filter (fun x=>x.name != main) = (l.take j).filter (fun x=>x.name != main):=by
 have hj:=(List.getElem?_eq_some_iff.1 hx)
 rw [List.take_succ_eq_append_getElem hj.1,List.filter_append,hj.2]
 simp [h]
theorem more_take {l:List Exp} {j:Nat} {x:Exp} (hx:l[j]? = some x) (h:¬ x.name = main):(l.take (j + 1)).filter (fun x=>x.name != main) = (l.take j).filter (fun x=>x.name != main) ++ [x]:=by
 have hj:=(List.getElem?_eq_some_iff.1 hx)
 rw [List.take_succ_eq_append_getElem hj.1,List.filter_append,hj.2]
 simp [h]
theorem offered_at {m:M} (h:∀ x ∈ m.imports,impB m x = true) {j:Nat} {x:Imp} (hx:m.imports[j]? = some x):∃ k t y,x.kind = 0 ∧ x.mod = env ∧ find x.name = some k ∧ m.types[x.type]? = some t ∧ hosts[k]? = some y ∧ y.type = t ∧ k < 16:=by
 obtain ⟨h1,h2,n,t,h3,h4,h5⟩:=offered (h x (List.mem_of_getElem? hx))
 refine ⟨n,t,⟨x.name,t⟩,h1,h2,h3,h4,?_,rfl,find_lt h3⟩
 unfold hosts
 rw [List.getElem?_map,h5]
 rfl
end Ru
namespace Go.Proofs.YtmpelmihdpomjaaGreat
open Go.RowKit Ins Bin Sp
instance onesImp:Ones Imp:=⟨fun h u hu=>by
 have h':=h.1
 subst h'
 simp [impCells,strV] at hu
 rcases hu with rfl | rfl | rfl | rfl | rfl | rfl | rfl | rfl <;> rfl⟩
theorem modV_one {w:World} {S:Nat → Prop} {m:M} {v1 v2 v3 v4 v5 v6 v7 v8 v9 v10:Value} (h:RepM w S m v1 v2 v3 v4 v5 v6 v7 v8 v9 v10):(modCells m v1 v2 v3 v4 v5 v6 v7 v8 v9 v10).all (·.oneCell') = true:=by
 obtain ⟨_,_,rfl,_⟩:=h.types
 obtain ⟨_,_,rfl,_⟩:=h.imports
 obtain ⟨_,_,rfl,_⟩:=h.funcs
 obtain ⟨_,_,rfl,_⟩:=h.tables
 obtain ⟨_,_,rfl,_⟩:=h.mems
 obtain ⟨_,_,rfl,_⟩:=h.globals
 obtain ⟨_,_,rfl,_⟩:=h.exports
 obtain ⟨_,_,rfl,_⟩:=h.elems
 obtain ⟨_,_,rfl,_⟩:=h.codes
 obtain ⟨_,_,rfl,_⟩:=h.datas
 unfold modCells
 exact all_oneCell_toArray (by simp [Value.oneCell'])
theorem expV_at {w:World} {S:Nat → Prop} {A:Option Addr} {xs:List Exp} {k:Nat} {x:Exp} (h:HasL w S A xs) (hx:xs[k]? = some x):∃ g o,A = some ⟨g,o,none⟩ ∧ x.index < 4294967296 ∧ w.cell? ⟨g,o + k * 3,none⟩ = some (strV x.name) ∧ w.cell? ⟨g,o + k * 3 + 1,none⟩ = some (.int .u8 ↑x.kind.toNat) ∧ w.cell? ⟨g,o + k * 3 + 2,none⟩ = some (.int .u32 ↑x.index):=by
 obtain ⟨g,o,cs,rfl,_,_,⟨rfl,hi⟩,hc⟩:=h k x hx
 exact ⟨g,o,rfl,hi,hc 0 _ rfl,hc 1 _ rfl,hc 2 _ rfl⟩
theorem dU {W:World} {A:Option Addr} {l:List UInt8} {n c:Nat} (h:aa W (· < W.heap.size) l (.slice A n c)):Has W W.heap.size A l:=fun k x hk=>by
 obtain ⟨A',c',h1,_,_,_,h5⟩:=h
 simp only [Value.slice.injEq] at h1
 obtain ⟨rfl,_,_⟩:=h1
 obtain ⟨g,o,cs,hA,_,hlt,rfl,hc⟩:=h5 k x hk
 refine ⟨⟨g,o,none⟩,hA,hlt,?_⟩
 have:=hc 0 _ rfl
 rw [Nat.add_zero,show Lay.size UInt8 = 1 from rfl,Nat.mul_one] at this
 rw [show (⟨g,o,none⟩:Addr).add k = ⟨g,o + k,none⟩ from by unfold Addr.add;split;(rename_i h;rw [h];rfl);rfl]
 exact this
theorem fitR_fewer {m:M} (hF:FitR m) {es:List Exp} (he:es.Sublist m.exports):FitR { m with exports:=es } :=
 ⟨⟨⟨hF.1.lots.imports,hF.1.lots.funcs,hF.1.lots.tables,hF.1.lots.mems,hF.1.lots.globals,Nat.le_trans he.length_le hF.1.lots.exports,hF.1.lots.types,hF.1.lots.each⟩,fun y hy=>hF.1.names y (he.subset hy),hF.1.globals,hF.1.elems,hF.1.codes,hF.1.datas⟩,hF.2⟩
theorem fitR_extra {m:M} (hF:FitR m) {x:Imp} (hl:m.imports.length < 64) (hx:x.mod.length ≤ 1050000 ∧ x.name.length ≤ 1050000):FitR { m with imports:=m.imports ++ [x] } :=
 ⟨⟨⟨by show (m.imports ++ [x]).length ≤ 1050000;simp;omega,hF.1.lots.funcs,hF.1.lots.tables,hF.1.lots.mems,hF.1.lots.globals,hF.1.lots.exports,hF.1.lots.types,hF.1.lots.each⟩,hF.1.names,hF.1.globals,hF.1.elems,hF.1.codes,hF.1.datas⟩,fun y hy=>by
  rcases List.mem_append.1 hy with h | h
  ·exact hF.2 y h
  ·simp at h;subst h;exact hx⟩
theorem aM.nilV {α:Type} [Lay α] (t:TypeId) (N B:Nat) (w:World):aM t N B w (.slice none 0 0) ([]:List α):=⟨OwnL.nil _ _ _ _,fun k hk=>by simp [Value.ownBlock] at hk⟩
theorem aM.imp {N B:Nat} {w:World} {v:Value} {xs:List Imp} (h:aM 75 N B w v xs) (hN:N ≤ w.heap.size) (hBN:B ≤ N) (x:Imp) (L:Nat) (hx:Lay.rep w (· = L) x (impCells x)) (hL:w.heap[L]? = some (.cells (impCells x).toArray 75 (0,0))) (hne:v.ownBlock ≠ some L) (hsz:xs.length + 1 ≤ 1000000000) :
  ∃ A' c' w',(Builtin.append_ #[39,39] 39 #[v,.slice (some ⟨L,0,none⟩) 1 1]).run Tryz.prog w = .ok (.slice A' (xs.length + 1) c') w' ∧ aM 75 N B w' (.slice A' (xs.length + 1) c') (xs ++ [x]) ∧ Below N w w':=by
 have hA:HasL w (· = L) (some ⟨L,0,none⟩) [x]:=fun k y hk=>by
  cases k with
  | zero =>
   simp at hk
   subst hk
   refine ⟨L,0,impCells x,rfl,rfl,(gL hL),hx,fun j u hj=>?_⟩
   rw [cell_of_row w L _ _ _ (0,0) hL]
   simpa using hj
  | succ k=>simp at hk
 obtain ⟨⟨ys,h0,h1,h2⟩,hb⟩:=h
 obtain ⟨v',w',hrun,hO,hM,hT⟩:=appendL undImp infImp (by decide) rfl (by decide) w B (· = L) v xs [x] (some ⟨L,0,none⟩) 1 1 ⟨ys,h0,h1,fun y hy=>h2 y hy⟩ hA rfl (by simp;omega) (by omega) (fun g _ hg e=>by subst hg;exact hne e)
 obtain ⟨A',c',e,_⟩:=bQ hO
 rw [List.length_append] at e
 subst e
 obtain ⟨zs,g0,g1,g2⟩:=hO
 exact ⟨A',c',w',hrun,⟨⟨zs,g0,g1,fun y hy=>g2 y hy⟩,fun k hk=>by
  rcases hT k hk with h' | h'
  ·exact hb k h'
  ·omega⟩,hM.below hN (fun k hk e=>by have:=hb k e;omega)⟩
theorem ronly_any (m:M) (v1 v2 v3 v4 v5 v6 v7 v8 v9 v10:Value) (nm:List UInt8) (w:World) (hM:RepM w (· < w.heap.size) m v1 v2 v3 v4 v5 v6 v7 v8 v9 v10) (hB:BigM m):Calls Tryz.prog 5 #[.agg (modCells m v1 v2 v3 v4 v5 v6 v7 v8 v9 v10),strV nm] w fun e w'=>e = .returned (.bool true) ∧ Below w.heap.size w w':=by
 have HKN:=J (fun W=>known12 dr bx W)
 have HG:Hid (∀ W,Below w.heap.size w W → Calls Tryz.prog 14 #[.agg (modCells m v1 v2 v3 v4 v5 v6 v7 v8 v9 v10)] W fun e w'=>∃ g:Bool,e = .returned (.bool g) ∧ Below W.heap.size W w' ∧ (g = false → Small m)):=J (fun W hb=>bgreat_any m v1 v2 v3 v4 v5 v6 v7 v8 v9 v10 W (hM.grow hb) hB)
 have HCK:Hid (FitR m → ∀ W,Below w.heap.size w W → Calls Tryz.prog 13 #[.agg (modCells m v1 v2 v3 v4 v5 v6 v7 v8 v9 v10)] W fun e w'=>e = .returned (.int .i64 (Ru.check m:Int)) ∧ Below W.heap.size W w'):=J (fun hF W hb=>dr m v1 v2 v3 v4 v5 v6 v7 v8 v9 v10 W (hM.grow hb) hF)
 have HVC:Hid (FitR m → Va.num (Va.check m) = 0 → ∀ W,Below w.heap.size w W → Calls Tryz.prog 15 #[.agg (modCells m v1 v2 v3 v4 v5 v6 v7 v8 v9 v10)] W fun e w'=>∃ A n c,e = .returned (.tuple #[.slice A n c,.int .i64 0]) ∧ Below W.heap.size W w'):=J (fun hF h0 W hb=>(valid_ok m v1 v2 v3 v4 v5 v6 v7 v8 v9 v10 W (hM.grow hb) hF.1).mono (fun e w' hq=>by
  obtain ⟨A,k,c,h1,h2,_,h4⟩:=vpost_form hq
  rw [h0] at h1
  exact ⟨A,_,c,h1,h4⟩))
 have hone:=modV_one hM
 have HM:=J hM
 obtain ⟨A1,c1,rfl,_,_,_,hL1⟩:=hM.types
 obtain ⟨A2,c2,rfl,_,hm2,_,hL2⟩:=hM.imports
 obtain ⟨A6,c6,rfl,_⟩:=hM.globals
 obtain ⟨A7,c7,rfl,_,hm7,_,hL7⟩:=hM.exports
 have HL1:=J hL1
 have HL2:=J hL2
 have HL7:=J hL7
 obtain ⟨n1,hn1⟩:∃ n,m.types.length = n:=⟨_,rfl⟩
 obtain ⟨n2,hn2⟩:∃ n,m.imports.length = n:=⟨_,rfl⟩
 obtain ⟨n6,hn6⟩:∃ n,m.globals.length = n:=⟨_,rfl⟩
 obtain ⟨n7,hn7⟩:∃ n,m.exports.length = n:=⟨_,rfl⟩
 unfold modCells at HG HCK HVC hone ⊢
 obtain ⟨hst,ehs⟩:∃ b,m.hasStart = b:=⟨_,rfl⟩
 obtain ⟨sti,est⟩:∃ b,(m.start:Int) = b:=⟨_,rfl⟩
 rw [hn1,hn2,hn6,hn7,ehs,est] at HG HCK HVC hone ⊢
 have HN1:=J hn1
 have HN2:=J hn2
 have HN6:=J hn6
 have HN7:=J hn7
 have HHS:=J ehs
 have HST:=J est
 have HONE:=J hone
 clear hM hL1 hL2 hL7 hm2 hm7 hone hB hn1 hn2 hn6 hn7 ehs est
 obtain ⟨R,hR⟩:∃ R,Ru.check m = R:=⟨_,rfl⟩
 rw [hR] at HCK
 have HR:=J hR
 clear hR
 unfold strV
 obtain ⟨NB,hNB⟩:∃ s:ByteArray,(⟨nm.toArray⟩:ByteArray) = s:=⟨_,rfl⟩
 have HNB:=J hNB
 have HNL:Hid (NB.size = nm.length):=J (by rw [← hNB];simp [ByteArray.size])
 rw [hNB]
 clear hNB
 have HX0:=J (heap_alloc_new w (.cells #[.slice A1 n1 c1,.slice A2 n2 c2,v3,v4,v5,.slice A6 n6 c6,.slice A7 n7 c7,.bool hst,.int .u32 sti,v8,v9,v10] 49))
 have HB0:Hid (Below w.heap.size w (w.alloc (.cells #[.slice A1 n1 c1,.slice A2 n2 c2,v3,v4,v5,.slice A6 n6 c6,.slice A7 n7 c7,.bool hst,.int .u32 sti,v8,v9,v10] 49))):=J bA
 go_enter Tryz.func5,Tryz.ntmps5
 go_upto_region 1 with fail
 generalize w.alloc (.cells #[.slice A1 n1 c1,.slice A2 n2 c2,v3,v4,v5,.slice A6 n6 c6,.slice A7 n7 c7,.bool hst,.int .u32 sti,v8,v9,v10] 49) = w0 at HX0 HB0 ⊢
 obtain ⟨X,hX⟩:∃ X,w.heap.size = X:=⟨_,rfl⟩
 rw [hX] at HX0
 have HXW:Hid (w.heap.size ≤ X):=J (by omega)
 simp only [hX]
 clear hX
 have HXL:Hid (X < w0.heap.size):=J (gL HX0.out)
 have HAL:=J (fun W (hW:Below w0.heap.size w0 W)=>cells12 HX0.out hW)
 have HOL:=J (fun W (hW:Below w0.heap.size w0 W)=>HB0.out.trans (hW.mono HB0.out.size))
 go_upto_region 3 with (go_at_call 6;refine (HKN.out _).mono ?_;rintro e w1 ⟨rfl,hb⟩;have HW1:=J hb;clear hb)
 obtain ⟨a0,a1,a2,a3,a4,a5,a6,a7,a8,a9,a10,a11⟩:=HAL.out _ HW1.out
 go_wp2_with fail
 refine (HG.out _ (HOL.out _ HW1.out)).mono ?_
 rintro e w2 ⟨g,rfl,hb,hsm⟩
 have HW2:=J (HW1.out.trans (hb.mono HW1.out.size))
 clear a0 a1 a2 a3 a4 a5 a6 a7 a8 a9 a10 a11 hb
 cases g with
 | true =>
  go_wp2_with fail
  go_ret
  exact ⟨rfl,HOL.out _ HW2.out⟩
 | false =>
 have HFR:Hid (FitR m):=J (fitR_small (hsm rfl))
 clear hsm
 have hn2b:n2 ≤ 1050000:=by rw [← HN2.out];exact HFR.out.1.lots.imports
 have hn7b:n7 ≤ 1050000:=by rw [← HN7.out];exact HFR.out.1.lots.exports
 obtain ⟨a0,a1,a2,a3,a4,a5,a6,a7,a8,a9,a10,a11⟩:=HAL.out _ HW2.out
 go_wp2_with fail
 refine (HCK.out HFR.out _ (HOL.out _ HW2.out)).mono ?_
 rintro e w3 ⟨rfl,hb⟩
 have HW3:=J (HW2.out.trans (hb.mono HW2.out.size))
 clear a0 a1 a2 a3 a4 a5 a6 a7 a8 a9 a10 a11 hb
 by_cases h0:R = 0
 case neg =>
  have hq0:((R:Int) == 0) = false:=nB (by omega)
  have hq1:(!((R:Int) == 0)) = true:=by rw [hq0];rfl
  go_wp2_with fail
  go_ret
  exact ⟨rfl,HOL.out _ HW3.out⟩
 case pos =>
 subst h0
 obtain ⟨hh,hgood,_,himp,_⟩:=Ru.check_zero.1 HR.out
 have HIMP:=J himp
 have HV0:Hid (Va.num (Va.check m) = 0):=J (Va.num_zero.2 ⟨hh,hgood⟩)
 clear himp hgood
 obtain ⟨a0,a1,a2,a3,a4,a5,a6,a7,a8,a9,a10,a11⟩:=HAL.out _ HW3.out
 go_wp2_with fail
 refine (HVC.out HFR.out HV0.out _ (HOL.out _ HW3.out)).mono ?_
 rintro e w4 ⟨Ah,nh,ch,rfl,hb⟩
 have HW4:=J (HW3.out.trans (hb.mono HW3.out.size))
 clear a0 a1 a2 a3 a4 a5 a6 a7 a8 a9 a10 a11 hb HV0 HVC HG
 go_wp2_with fail
 refine (bZ w4).mono ?_
 rintro e w5 ⟨v,rfl,hs1,hb⟩
 have HW5:=J (HW4.out.trans (hb.mono HW4.out.size))
 obtain ⟨AH,cH,eH,hcH,_,_,hLH⟩:=hs1
 obtain ⟨nH,hnH⟩:∃ k,Ru.hosts.length = k:=⟨_,rfl⟩
 rw [hnH] at eH hcH
 rw [Ru.hosts_len] at hnH
 subst hnH
 have HLH:Hid (HasL w5 (fun k=>k < w5.heap.size) AH Ru.hosts):=J (fun k x hx=>by
  obtain ⟨g,o,cs,q1,q2,q3,q4,q5⟩:=hLH k x hx
  exact ⟨g,o,cs,q1,q3,q3,Lay.more q4 (fun g hg _=>hg),q5⟩)
 subst eH
 clear hb hcH hLH HW1 HW2 HW3 HW4
 obtain ⟨a0,a1,a2,a3,a4,a5,a6,a7,a8,a9,a10,a11⟩:=HAL.out _ HW5.out
 go_upto_region 10 with fail
 clear a0 a1 a2 a3 a4 a5 a6 a7 a8 a9 a10 a11
 go_loopw [36] (fun iv wr=>∃ j:Nat,j ≤ n2 ∧ iv = .int .i64 ↑j ∧ Hid (Below w5.heap.size w5 wr)) (fun iv _=>n2 - (intOf iv).toNat)
 case atStart=>exact ⟨0,Nat.zero_le _,rfl,J (Below.refl _ _)⟩
 case round =>
  obtain ⟨j,hj,rfl,HBR⟩:=hrel
  have HWR:=J (HW5.out.trans (HBR.out.mono HW5.out.size))
  by_cases hlt:j < n2
  ·have HLT:=J hlt
   have hlti:(j:Int) < (n2:Int):=by omega
   obtain ⟨x,hx⟩:∃ x,m.imports[j]? = some x:=⟨_,List.getElem?_eq_getElem (by rw [HN2.out];exact hlt)⟩
   obtain ⟨k,t,y,hkd,hmd,hfx,htx,hyx,hyt,hk16⟩:=Ru.offered_at HIMP.out hx
   obtain ⟨g,o,cs,rfl,_,hg,⟨rfl,hty,_⟩,hcs⟩:=HL2.out j x hx
   have hgw:=(HOL.out _ HWR.out)
   have z0:=(hgw.cell (p:=⟨g,o + j * 8,none⟩) hg).trans (hcs 0 _ rfl)
   have z1:=(hgw.cell (p:=⟨g,o + j * 8 + 1,none⟩) hg).trans (hcs 1 _ rfl)
   have z2:=(hgw.cell (p:=⟨g,o + j * 8 + 2,none⟩) hg).trans (hcs 2 _ rfl)
   have z3:=(hgw.cell (p:=⟨g,o + j * 8 + 3,none⟩) hg).trans (hcs 3 _ rfl)
   have z4:=(hgw.cell (p:=⟨g,o + j * 8 + 4,none⟩) hg).trans (hcs 4 _ rfl)
   have z5:=(hgw.cell (p:=⟨g,o + j * 8 + 5,none⟩) hg).trans (hcs 5 _ rfl)
   have z6:=(hgw.cell (p:=⟨g,o + j * 8 + 6,none⟩) hg).trans (hcs 6 _ rfl)
   have z7:=(hgw.cell (p:=⟨g,o + j * 8 + 7,none⟩) hg).trans (hcs 7 _ rfl)
   have hS1:(⟨x.mod.toArray⟩:ByteArray) = ⟨#[101,110,118]⟩:=by rw [hmd];rfl
   unfold strV at z0 z1
   rw [hS1] at z0
   rw [show ((x.kind.toNat:Nat):Int) = 0 by rw [hkd];rfl] at z2
   have HTL:Hid (x.type < n1):=J (by rw [← HN1.out];exact (List.getElem?_eq_some_iff.1 htx).1)
   clear hcs hg hS1 hkd hmd hx
   generalize x.lim.max = mx at *
   generalize (x.lim.min:Int) = mn at *
   generalize (x.glob.t.toNat:Int) = gt at *
   generalize x.glob.mu = mu at *
   obtain ⟨S2,e2⟩:∃ s:ByteArray,(⟨x.name.toArray⟩:ByteArray) = s:=⟨_,rfl⟩
   rw [e2] at z1
   have HFX:Hid (∀ W,Calls Tryz.prog 10 #[.string S2] W fun e w'=>e = .returned (.tuple #[.int .i64 ↑k,.bool true]) ∧ Below W.heap.size W w'):=J (fun W=>by
    have h:=bx x.name W
    rw [hfx] at h
    unfold strV at h
    rw [e2] at h
    exact h)
   obtain ⟨ty,ety⟩:∃ k,x.type = k:=⟨_,rfl⟩
   rw [ety] at z3 hty htx HTL
   clear hfx e2 ety
   obtain ⟨gt0,ot0,D1,d1,D2,d2,rfl,hgt,ht0,ht1,ht2,ht3⟩:=ft_at HL1.out htx
   obtain ⟨gh,oh,A3,c3,A4,c4,rfl,_,hgl,_,hq1,hq2,hq3,hq4⟩:=cF HLH.out hyx
   rw [hyt] at hq1 hq2 hq3 hq4
   obtain ⟨np,enp⟩:∃ q,t.params.length = q:=⟨_,rfl⟩
   obtain ⟨nr,enr⟩:∃ q,t.results.length = q:=⟨_,rfl⟩
   obtain ⟨SP,eSP⟩:∃ s:ByteArray,(⟨t.params.toArray⟩:ByteArray) = s:=⟨_,rfl⟩
   obtain ⟨SR,eSR⟩:∃ s:ByteArray,(⟨t.results.toArray⟩:ByteArray) = s:=⟨_,rfl⟩
   have HS5:Hid (∀ W,Below w5.heap.size w5 W → (W.cell? ⟨gt0,ot0 + ty * 2,none⟩ = some (.slice D1 np d1) ∧ W.cell? ⟨gt0,ot0 + ty * 2 + 1,none⟩ = some (.slice D2 nr d2) ∧ W.cell? ⟨gh,oh + k * 3 + 1,none⟩ = some (.slice A3 np c3) ∧ W.cell? ⟨gh,oh + k * 3 + 2,none⟩ = some (.slice A4 nr c4) ∧ (convert 27 9 (.slice D1 np d1)).run Tryz.prog W = .ok (.string SP) W ∧ (convert 27 9 (.slice D2 nr d2)).run Tryz.prog W = .ok (.string SR) W ∧ (convert 27 9 (.slice A3 np c3)).run Tryz.prog W = .ok (.string SP) W ∧ (convert 27 9 (.slice A4 nr c4)).run Tryz.prog W = .ok (.string SR) W)):=J (fun W hb=>by
    have hw:=HOL.out _ (HW5.out.trans (hb.mono HW5.out.size))
    subst enp enr eSP eSR
    exact ⟨(hw.cell (p:=⟨gt0,ot0 + ty * 2,none⟩) hgt).trans ht0,(hw.cell (p:=⟨gt0,ot0 + ty * 2 + 1,none⟩) hgt).trans ht1,(hb.cell (p:=⟨gh,oh + k * 3 + 1,none⟩) hgl).trans hq1,(hb.cell (p:=⟨gh,oh + k * 3 + 2,none⟩) hgl).trans hq2,
     bH (dU (ht2.grow hw)) rfl d1,bH (dU (ht3.grow hw)) rfl d2,bH (dU (hq3.grow hb)) rfl c3,bH (dU (hq4.grow hb)) rfl c4⟩)
   clear hgt ht0 ht1 ht2 ht3 hgl hq1 hq2 hq3 hq4 enp enr eSP eSR hyx hyt htx hgw
   have HZ0:=J (heap_alloc_new wr (.cells #[.string ⟨#[101,110,118]⟩,.string S2,.int .u8 0,.int .u32 ↑ty,.int .u32 mn,.int .i64 mx,.int .u8 gt,.bool mu] 75))
   have HNA:Hid (Below w5.heap.size w5 (wr.alloc (.cells #[.string ⟨#[101,110,118]⟩,.string S2,.int .u8 0,.int .u32 ↑ty,.int .u32 mn,.int .i64 mx,.int .u8 gt,.bool mu] 75))):=J (HBR.out.alloc HBR.out.size _)
   go_upto_region 12 with fail
   generalize wr.alloc (.cells #[.string ⟨#[101,110,118]⟩,.string S2,.int .u8 0,.int .u32 ↑ty,.int .u32 mn,.int .i64 mx,.int .u8 gt,.bool mu] 75) = wa at HZ0 HNA ⊢
   clear z0 z1 z2 z3 z4 z5 z6 z7
   obtain ⟨Z,hZ⟩:∃ Z,wr.heap.size = Z:=⟨_,rfl⟩
   rw [hZ] at HZ0
   simp only [hZ]
   clear hZ
   obtain ⟨p0,p1,p2,p3,p4,p5,p6,p7⟩:=aD HZ0.out
   go_wp2_with fail
   refine (HFX.out wa).mono ?_
   rintro e w6 ⟨rfl,hb⟩
   have HB6:=J (HNA.out.trans (hb.mono HNA.out.size))
   have HZ6:=J ((hb.block Z (gL HZ0.out)).trans HZ0.out)
   clear p0 p1 p2 p3 p4 p5 p6 p7 hb
   have HSF:Hid (∀ W,Below w6.heap.size w6 W → (W.heap[Z]? = some (.cells #[.string ⟨#[101,110,118]⟩,.string S2,.int .u8 0,.int .u32 ↑ty,.int .u32 mn,.int .i64 mx,.int .u8 gt,.bool mu] 75 (0,0)) ∧ W.cell? ⟨X,0,none⟩ = some (.slice (some ⟨gt0,ot0,none⟩) n1 c1) ∧ W.cell? ⟨gt0,ot0 + ty * 2,none⟩ = some (.slice D1 np d1) ∧ W.cell? ⟨gt0,ot0 + ty * 2 + 1,none⟩ = some (.slice D2 nr d2) ∧ W.cell? ⟨gh,oh + k * 3 + 1,none⟩ = some (.slice A3 np c3) ∧ W.cell? ⟨gh,oh + k * 3 + 2,none⟩ = some (.slice A4 nr c4) ∧ (convert 27 9 (.slice D1 np d1)).run Tryz.prog W = .ok (.string SP) W ∧ (convert 27 9 (.slice D2 nr d2)).run Tryz.prog W = .ok (.string SR) W ∧ (convert 27 9 (.slice A3 np c3)).run Tryz.prog W = .ok (.string SP) W ∧ (convert 27 9 (.slice A4 nr c4)).run Tryz.prog W = .ok (.string SR) W)):=J (fun W hb=>by
    have h5:=HB6.out.trans (hb.mono HB6.out.size)
    have hx:=HAL.out _ (HW5.out.trans (h5.mono HW5.out.size))
    exact ⟨(hb.block Z (gL HZ6.out)).trans HZ6.out,hx.1,HS5.out W h5⟩)
   have hwt:IntKind.i64.wrap (ty:Int) = (ty:Int):=IntWalk.i64_in _ (by omega)
   have htl:=HTL.out
   have hti:(ty:Int) < (n1:Int):=by omega
   have hti2:decide (n1 ≤ ty) = false:=decide_eq_false (by omega)
   have hki:(k:Int) < (16:Int):=by omega
   have hp:(SP.toList == SP.toList) = true:=beq_self_eq_true _
   have hr:(SR.toList == SR.toList) = true:=beq_self_eq_true _
   clear htl HS5 HFX HTL hty
   go_wp2_with fail
   refine wp_region_held_drew (S:=fun W'=>Below w6.heap.size w6 W') (by kernel_rfl) (Below.drew (Below.refl _ _)) (fun hHeld=>?_)
   refine dc1 0 rfl ?_
   refine dc1 1 rfl ?_
   refine dc1 2 rfl ?_
   refine dc1 3 rfl ?_
   refine dc1 4 rfl ?_
   refine dc1 5 rfl ?_
   refine dc1 6 rfl ?_
   refine dc1 7 rfl ?_
   refine dc1 8 rfl ?_
   refine dc1 9 rfl ?_
   refine dc1 10 rfl ?_
   refine dc1 11 rfl ?_
   refine dc1 12 rfl ?_
   refine dc1 13 rfl ?_
   refine dc1 14 rfl ?_
   refine dc1 15 rfl ?_
   refine dc1 16 rfl ?_
   refine dc1 17 rfl ?_
   refine dc1 18 rfl ?_
   refine dc1 19 rfl ?_
   refine dc1 20 rfl ?_
   refine dc1 21 rfl ?_
   refine dc1 22 rfl ?_
   refine dc1 23 rfl ?_
   refine dc1 24 rfl ?_
   refine dc1 25 rfl ?_
   refine dc1 26 rfl ?_
   refine dc1 27 rfl ?_
   refine dc1 28 rfl ?_
   refine dc1 29 rfl ?_
   refine dc1 30 rfl ?_
   refine dc1 31 rfl ?_
   refine dc1 32 rfl ?_
   refine dc1 33 rfl ?_
   refine dc1 34 rfl ?_
   refine dc1 35 rfl ?_
   refine dc1 36 rfl ?_
   refine dc1 37 rfl ?_
   refine dc1 38 rfl ?_
   refine dc1 39 rfl ?_
   refine dc1 40 rfl ?_
   refine dc1 41 rfl ?_
   refine dc1 42 rfl ?_
   refine dc1 43 rfl ?_
   refine dc1 44 rfl ?_
   refine dc1 45 rfl ?_
   refine dc1 46 rfl ?_
   refine dc1 47 rfl ?_
   refine dc1 48 rfl ?_
   refine dc1 49 rfl ?_
   refine dc1 50 rfl ?_
   refine dc1 51 rfl ?_
   refine dc1 52 rfl ?_
   refine dc1 53 rfl ?_
   refine dc1 54 rfl ?_
   refine dc1 55 rfl ?_
   refine dc1 56 rfl ?_
   refine dN ?_
   have HB7:=J (HB6.out.trans (hHeld.mono HB6.out.size))
   go_wp2_with fail
   go_roundw
   case rel=>exact ⟨j + 1,by have:=HLT.out;omega,by go_num,HB7⟩
   case measure=>have:=HLT.out;simp [intOf];omega
  ·have hlti:decide ((j:Int) < (n2:Int)) = false:=decide_eq_false (by omega)
   have HW7:=J (HW5.out.trans (HBR.out.mono HW5.out.size))
   clear HBR HW5 HLH HL1 HIMP
   obtain ⟨wc,rfl⟩:∃ q,q = wr:=⟨wr,rfl⟩
   obtain ⟨a0,a1,a2,a3,a4,a5,a6,a7,a8,a9,a10,a11⟩:=HAL.out _ HW7.out
   have hbz:Below wc.heap.size wc (wc.alloc (.cells #[.slice none 0 0,.slice none 0 0,.slice none 0 0,.slice none 0 0,.slice none 0 0,.slice none 0 0,.slice none 0 0,.bool false,.int .u32 0,.slice none 0 0,.slice none 0 0,.slice none 0 0] 49)):=bA
   have HZA:=J (heap_alloc_new wc (.cells #[.slice none 0 0,.slice none 0 0,.slice none 0 0,.slice none 0 0,.slice none 0 0,.slice none 0 0,.slice none 0 0,.bool false,.int .u32 0,.slice none 0 0,.slice none 0 0,.slice none 0 0] 49))
   go_upto_region 17 with (refine ah rfl 49 (.tmp 12) (.tmp 104) rfl rfl wc.heap.size #[.slice A1 n1 c1,.slice A2 n2 c2,v3,v4,v5,.slice A6 n6 c6,.slice A7 n7 c7,.bool hst,.int .u32 sti,v8,v9,v10] rfl rfl 49 #[.slice none 0 0,.slice none 0 0,.slice none 0 0,.slice none 0 0,.slice none 0 0,.slice none 0 0,.slice none 0 0,.bool false,.int .u32 0,.slice none 0 0,.slice none 0 0,.slice none 0 0] HZA.out cr rfl HONE.out ?_)
   have HZ0:=J (setRow_heap _ _ #[.slice none 0 0,.slice none 0 0,.slice none 0 0,.slice none 0 0,.slice none 0 0,.slice none 0 0,.slice none 0 0,.bool false,.int .u32 0,.slice none 0 0,.slice none 0 0,.slice none 0 0] #[.slice A1 n1 c1,.slice A2 n2 c2,v3,v4,v5,.slice A6 n6 c6,.slice A7 n7 c7,.bool hst,.int .u32 sti,v8,v9,v10] _ _ HZA.out)
   have HWZ:Hid (Below w0.heap.size w0 ((wc.alloc (.cells #[.slice none 0 0,.slice none 0 0,.slice none 0 0,.slice none 0 0,.slice none 0 0,.slice none 0 0,.slice none 0 0,.bool false,.int .u32 0,.slice none 0 0,.slice none 0 0,.slice none 0 0] 49)).setRow wc.heap.size #[.slice A1 n1 c1,.slice A2 n2 c2,v3,v4,v5,.slice A6 n6 c6,.slice A7 n7 c7,.bool hst,.int .u32 sti,v8,v9,v10])):=J (HW7.out.trans ((ab hbz (Nat.le_refl _) #[.slice A1 n1 c1,.slice A2 n2 c2,v3,v4,v5,.slice A6 n6 c6,.slice A7 n7 c7,.bool hst,.int .u32 sti,v8,v9,v10]).mono HW7.out.size))
   have HZL:Hid (w0.heap.size ≤ wc.heap.size):=J HW7.out.size
   clear hlti hlt hbz HZA a0 a1 a2 a3 a4 a5 a6 a7 a8 a9 a10 a11
   generalize (wc.alloc (.cells #[.slice none 0 0,.slice none 0 0,.slice none 0 0,.slice none 0 0,.slice none 0 0,.slice none 0 0,.slice none 0 0,.bool false,.int .u32 0,.slice none 0 0,.slice none 0 0,.slice none 0 0] 49)).setRow wc.heap.size #[.slice A1 n1 c1,.slice A2 n2 c2,v3,v4,v5,.slice A6 n6 c6,.slice A7 n7 c7,.bool hst,.int .u32 sti,v8,v9,v10] = wz at HZ0 HWZ ⊢
   obtain ⟨Z,hZ⟩:∃ Z,wc.heap.size = Z:=⟨_,rfl⟩
   rw [hZ] at HZ0 HZL
   simp only [hZ]
   clear hZ HW7
   have HWW:Hid (w.heap.size ≤ w0.heap.size ∧ w0.heap.size ≤ Z ∧ Z < wz.heap.size):=J ⟨HB0.out.size,HZL.out,(gL HZ0.out)⟩
   have z6:=cellV HZ0.out 6 _ rfl
   have f6:=frozen_of_row wz Z 6 _ _ HZ0.out
   go_upto_region 18 with fail
   clear z6 f6
   have HM1:Hid (Mod (· = Z) wz (wz.setCell ⟨Z,6,none⟩ (.slice none 0 0))):=J ((Mod.refl _ wz).setCell (T:=(· = Z)) (p:=⟨Z,6,none⟩) (fun _=>rfl) _)
   have HZ1:Hid ((wz.setCell ⟨Z,6,none⟩ (.slice none 0 0)).heap[Z]? = some (.cells #[.slice A1 n1 c1,.slice A2 n2 c2,v3,v4,v5,.slice A6 n6 c6,.slice none 0 0,.bool hst,.int .u32 sti,v8,v9,v10] 49 (0,0))):=J (heap_setCell_same wz Z 6 _ _ (.slice none 0 0) HZ0.out)
   have HW8:Hid (Below w0.heap.size w0 (wz.setCell ⟨Z,6,none⟩ (.slice none 0 0))):=J (HM1.out.below HWZ.out.size (fun k hk e=>by have:=HWW.out;omega) |> fun h=>HWZ.out.trans h)
   generalize wz.setCell ⟨Z,6,none⟩ (.slice none 0 0) = wl at HZ1 HW8 HM1 ⊢
   have HZN:Hid (Z < wl.heap.size):=J (gL HZ1.out)
   obtain ⟨N,hN⟩:∃ N,wl.heap.size = N:=⟨_,rfl⟩
   have HN:=J hN
   clear hN HZ0 HWZ HM1
   obtain ⟨a0,a1,a2,a3,a4,a5,a6,a7,a8,a9,a10,a11⟩:=HAL.out _ HW8.out
   go_upto_region 19 with fail
   clear a0 a1 a2 a3 a4 a5 a6 a7 a8 a9 a10 a11
   go_loopw [109] (fun iv wr=>∃ (j:Nat) (v:Value),j ≤ n7 ∧ iv = .int .i64 ↑j ∧ Hid (Below w0.heap.size w0 wr) ∧ Hid (wr.heap[Z]? = some (.cells #[.slice A1 n1 c1,.slice A2 n2 c2,v3,v4,v5,.slice A6 n6 c6,v,.bool hst,.int .u32 sti,v8,v9,v10] 49 (0,0))) ∧ Hid (N ≤ wr.heap.size) ∧ Hid (aM 52 N w.heap.size wr v ((m.exports.take j).filter (fun x=>x.name != Ru.main)))) (fun iv _=>n7 - (intOf iv).toNat)
   case atStart=>exact ⟨0,_,Nat.zero_le _,rfl,HW8,HZ1,J (Nat.le_of_eq HN.out.symm),J (aM.nilV _ _ _ _)⟩
   case round =>
    obtain ⟨j,v,hj,rfl,HWR,HZR,HNR,HMR⟩:=hrel
    by_cases hlt:j < n7
    ·have HLT:=J hlt
     have hlti:(j:Int) < (n7:Int):=by omega
     obtain ⟨x,hx⟩:∃ x,m.exports[j]? = some x:=⟨_,List.getElem?_eq_getElem (by rw [HN7.out];exact hlt)⟩
     have HX:=J hx
     obtain ⟨g,o,rfl,hxi,hc0,hc1,hc2⟩:=expV_at HL7.out hx
     have hgw:=HOL.out _ HWR.out
     have hgl:=fi hc0
     have z0:=(hgw.cell (p:=⟨g,o + j * 3,none⟩) hgl).trans hc0
     have z1:=(hgw.cell (p:=⟨g,o + j * 3 + 1,none⟩) hgl).trans hc1
     have z2:=(hgw.cell (p:=⟨g,o + j * 3 + 2,none⟩) hgl).trans hc2
     have HXI:=J hxi
     unfold strV at z0
     generalize hXB:(⟨x.name.toArray⟩:ByteArray) = XB at z0
     have HXB:=J hXB
     have HXN:Hid (XB.toList = x.name):=J (by rw [← hXB,ByteArray.toList_eq])
     have hkk:x.kind.toNat = x.kind.toNat:=rfl
     obtain ⟨kk,ekk⟩:∃ q,(x.kind.toNat:Int) = q:=⟨_,rfl⟩
     obtain ⟨xi,exi⟩:∃ q,(x.index:Int) = q:=⟨_,rfl⟩
     rw [ekk] at z1
     rw [exi] at z2
     have HKK:=J ekk
     have HXX:=J exi
     clear hx hxi hc0 hc1 hc2 hgw hgl hXB hkk ekk exi
     have HA:=J (heap_alloc_new wr (.cells #[.string XB,.int .u8 kk,.int .u32 xi] 52))
     have HBA:Hid (Below wr.heap.size wr (wr.alloc (.cells #[.string XB,.int .u8 kk,.int .u32 xi] 52))):=J bA
     go_upto_region 21 with fail
     generalize wr.alloc (.cells #[.string XB,.int .u8 kk,.int .u32 xi] 52) = wa at HA HBA ⊢
     clear z0 z1 z2
     obtain ⟨E,hE⟩:∃ E,wr.heap.size = E:=⟨_,rfl⟩
     rw [hE] at HA
     have HE:=J hE
     simp only [hE]
     clear hE
     have HWA:=J (HWR.out.trans (HBA.out.mono HWR.out.size))
     have HZS:=J ((HBA.out.block Z (gL HZR.out)).trans HZR.out)
     have HMA:=J (HMR.out.on HBA.out)
     have HNA:Hid (N ≤ wa.heap.size):=J (Nat.le_trans HNR.out HBA.out.size)
     obtain ⟨p0,p1,p2⟩:=bn HA.out
     clear HWR HZR HMR HNR
     by_cases hnm:x.name = Ru.main
     ·have hne:(XB.toList == [109,97,105,110]) = true:=by rw [HXN.out,hnm];rfl
      have HF:=J (Ru.fewer_take HX.out hnm)
      clear hnm
      go_wp2_with fail
      go_roundw
      case rel=>exact ⟨j + 1,_,by have:=HLT.out;omega,by go_num,HWA,HZS,HNA,J (by rw [HF.out];exact HMA.out)⟩
      case measure=>have:=HLT.out;simp [intOf];omega
     ·have hne:(XB.toList == [109,97,105,110]) = false:=by rw [HXN.out];exact beq_eq_false_iff_ne.2 hnm
      have HF:=J (Ru.more_take HX.out hnm)
      obtain ⟨es,hes⟩:∃ es,(m.exports.take j).filter (fun x=>x.name != Ru.main) = es:=⟨_,rfl⟩
      rw [hes] at HMA HF
      have HEL:Hid (es.length ≤ 100000000):=J (by
       rw [← hes]
       have h1:=List.length_filter_le (fun x:Exp=>x.name != Ru.main) (m.exports.take j)
       have h2:(m.exports.take j).length ≤ m.exports.length:=by rw [List.length_take];omega
       have h3:=HFR.out.1.lots.exports
       omega)
      clear hes hnm
      have hbl:Below wa.heap.size wa (wa.alloc (.cells #[.string XB,.int .u8 kk,.int .u32 xi] 52)):=bA
      obtain ⟨A',c',w7,hrun,hM7,hb7⟩:=(HMA.out.on hbl).exp (Nat.le_trans HNA.out hbl.size) (by have:=HWW.out;have:=HZN.out;have:=HN.out;omega) x HXI.out wa.heap.size (by unfold strV;rw [HXB.out,HKK.out,HXX.out];exact heap_alloc_new wa _) (fun e=>by have:=(HMA.out.lt _ e).2;omega) (by have:=HEL.out;omega)
      obtain ⟨A0,c0,ev,_⟩:=bQ HMA.out.1
      have HNZ:Hid (Z < N):=J (by have:=HZN.out;have:=HN.out;omega)
      have hz7:w7.heap[Z]? = _:=(hb7.block Z HNZ.out).trans ((hbl.block Z (gL HZS.out)).trans HZS.out)
      have HM7:=J hM7
      have HW9:Hid (Below w0.heap.size w0 w7):=J (HWA.out.trans ((hbl.mono HWA.out.size).trans (hb7.mono (by have:=HWW.out;have:=HNZ.out;omega))))
      have HN7':Hid (N ≤ w7.heap.size):=J (Nat.le_trans HNA.out (Nat.le_trans hbl.size hb7.size))
      have k6:=cellV hz7 6 _ rfl
      have f6:=frozen_of_row w7 Z 6 _ _ hz7
      have HZ7:=J hz7
      have b6:=cellV HZS.out 6 _ rfl
      clear hM7 hb7 hz7 hbl
      subst ev
      obtain ⟨el,eel⟩:∃ q,es.length = q:=⟨_,rfl⟩
      rw [eel] at hrun HM7;try rw [eel] at b6;try rw [eel] at HZ7
      go_wp2_with (at_builtin;refine Lib.wpList_append_run _ rfl (.tmp 117) (.tmp 119) _ _ rfl _ _ rfl rfl _ _ hrun ?_)
      go_roundw
      case rel =>
       have hm:Mod (· = Z) w7 (w7.setCell ⟨Z,6,none⟩ (.slice A' (el + 1) c')):=(Mod.refl _ w7).setCell (T:=(· = Z)) (p:=⟨Z,6,none⟩) (fun _=>rfl) _
       exact ⟨j + 1,_,by have:=HLT.out;omega,by go_num,J (HW9.out.trans (hm.below HW9.out.size (fun k hk e=>by have:=HWW.out;omega))),J (heap_setCell_same w7 Z 6 _ _ _ HZ7.out),J (Nat.le_trans HN7'.out hm.size),J (by rw [HF.out];exact HM7.out.mod hm (fun k hk e=>by have:=HWW.out;omega) (fun k hk e=>by have:=HM7.out.2 k hk;have:=HNZ.out;omega))⟩
      case measure=>have:=HLT.out;simp [intOf];omega
    ·have hlti:decide ((j:Int) < (n7:Int)) = false:=decide_eq_false (by omega)
     have HFIN:Hid ((m.exports.take j).filter (fun x=>x.name != Ru.main) = m.exports.filter (fun x=>x.name != Ru.main)):=J (by rw [List.take_of_length_le (by rw [HN7.out];omega)])
     rw [HFIN.out] at HMR
     obtain ⟨A0,c0,ev,_⟩:=bQ HMR.out.1
     obtain ⟨el,eel⟩:∃ q,(m.exports.filter (fun x=>x.name != Ru.main)).length = q:=⟨_,rfl⟩
     rw [eel] at ev
     subst ev
     have HCL:Hid (Calls Tryz.prog 13 #[.agg #[.slice A1 n1 c1,.slice A2 n2 c2,v3,v4,v5,.slice A6 n6 c6,.slice A0 el c0,.bool hst,.int .u32 sti,v8,v9,v10]] wr fun e w'=>e = .returned (.int .i64 121) ∧ Below wr.heap.size wr w'):=J (by
      have hr:=HM.out.grow (HOL.out wr HWR.out)
      have h:=dr { m with exports:=m.exports.filter (fun x=>x.name != Ru.main) } (.slice A1 m.types.length c1) (.slice A2 m.imports.length c2) v3 v4 v5 (.slice A6 m.globals.length c6) (.slice A0 el c0) v8 v9 v10 wr ⟨hr.types,hr.imports,hr.funcs,hr.tables,hr.mems,hr.globals,HMR.out.slice,hr.start,hr.elems,hr.codes,hr.datas⟩ (fitR_fewer HFR.out List.filter_sublist)
      rw [Ru.no_main HR.out] at h
      unfold modCells at h
      dsimp only at h
      rw [HN1.out,HN2.out,HN6.out,HHS.out,HST.out] at h
      exact h)
     clear HMR HFIN eel
     obtain ⟨z0,z1,z2,z3,z4,z5,z6,z7,z8,z9,z10,z11⟩:=cells12 HZR.out (Below.refl _ _)
     go_wp2_with fail
     refine HCL.out.mono ?_
     rintro e w10 ⟨rfl,hb⟩
     have HW10:=J (HWR.out.trans (hb.mono HWR.out.size))
     clear hb z0 z1 z2 z3 z4 z5 z6 z7 z8 z9 z10 z11 HCL HZR HWR hlti
     obtain ⟨a0,a1,a2,a3,a4,a5,a6,a7,a8,a9,a10,a11⟩:=HAL.out _ HW10.out
     by_cases h64:64 ≤ n2
     ·have h64i:(64:Int) ≤ (n2:Int):=by omega
      have h64d:decide (64 ≤ n2) = true:=decide_eq_true h64
      go_wp2_with fail
      go_ret
      exact ⟨rfl,HOL.out _ HW10.out⟩
     have h64d:decide (64 ≤ n2) = false:=decide_eq_false h64
     have h64e:decide ((64:Int) ≤ (n2:Int)) = false:=decide_eq_false (by omega)
     have H64:Hid (n2 < 64):=J (by omega)
     by_cases hnl:64 < NB.size
     ·have hnli:(64:Int) < (NB.size:Int):=by omega
      go_wp2_with fail
      go_ret
      exact ⟨rfl,HOL.out _ HW10.out⟩
     have hnld:decide ((64:Int) < (NB.size:Int)) = false:=decide_eq_false (by omega)
     have hnle:decide (64 < NB.size) = false:=decide_eq_false hnl
     have HNML:Hid (nm.length ≤ 64):=J (by have:=HNL.out;omega)
     clear h64 hnl
     have hbz:Below w10.heap.size w10 (w10.alloc (.cells #[.slice none 0 0,.slice none 0 0,.slice none 0 0,.slice none 0 0,.slice none 0 0,.slice none 0 0,.slice none 0 0,.bool false,.int .u32 0,.slice none 0 0,.slice none 0 0,.slice none 0 0] 49)):=bA
     have HZB:=J (heap_alloc_new w10 (.cells #[.slice none 0 0,.slice none 0 0,.slice none 0 0,.slice none 0 0,.slice none 0 0,.slice none 0 0,.slice none 0 0,.bool false,.int .u32 0,.slice none 0 0,.slice none 0 0,.slice none 0 0] 49))
     go_upto_region 29 with (refine ah rfl 49 (.tmp 15) (.tmp 135) rfl rfl w10.heap.size #[.slice A1 n1 c1,.slice A2 n2 c2,v3,v4,v5,.slice A6 n6 c6,.slice A7 n7 c7,.bool hst,.int .u32 sti,v8,v9,v10] rfl rfl 49 #[.slice none 0 0,.slice none 0 0,.slice none 0 0,.slice none 0 0,.slice none 0 0,.slice none 0 0,.slice none 0 0,.bool false,.int .u32 0,.slice none 0 0,.slice none 0 0,.slice none 0 0] HZB.out cr rfl HONE.out ?_)
     clear a0 a1 a2 a3 a4 a5 a6 a7 a8 a9 a10 a11
     have HY0:=J (setRow_heap _ _ #[.slice none 0 0,.slice none 0 0,.slice none 0 0,.slice none 0 0,.slice none 0 0,.slice none 0 0,.slice none 0 0,.bool false,.int .u32 0,.slice none 0 0,.slice none 0 0,.slice none 0 0] #[.slice A1 n1 c1,.slice A2 n2 c2,v3,v4,v5,.slice A6 n6 c6,.slice A7 n7 c7,.bool hst,.int .u32 sti,v8,v9,v10] _ _ HZB.out)
     have HWY:Hid (Below w0.heap.size w0 ((w10.alloc (.cells #[.slice none 0 0,.slice none 0 0,.slice none 0 0,.slice none 0 0,.slice none 0 0,.slice none 0 0,.slice none 0 0,.bool false,.int .u32 0,.slice none 0 0,.slice none 0 0,.slice none 0 0] 49)).setRow w10.heap.size #[.slice A1 n1 c1,.slice A2 n2 c2,v3,v4,v5,.slice A6 n6 c6,.slice A7 n7 c7,.bool hst,.int .u32 sti,v8,v9,v10])):=J (HW10.out.trans ((ab hbz (Nat.le_refl _) #[.slice A1 n1 c1,.slice A2 n2 c2,v3,v4,v5,.slice A6 n6 c6,.slice A7 n7 c7,.bool hst,.int .u32 sti,v8,v9,v10]).mono HW10.out.size))
     have HYL:Hid (w0.heap.size ≤ w10.heap.size):=J HW10.out.size
     clear hbz HZB
     generalize (w10.alloc (.cells #[.slice none 0 0,.slice none 0 0,.slice none 0 0,.slice none 0 0,.slice none 0 0,.slice none 0 0,.slice none 0 0,.bool false,.int .u32 0,.slice none 0 0,.slice none 0 0,.slice none 0 0] 49)).setRow w10.heap.size #[.slice A1 n1 c1,.slice A2 n2 c2,v3,v4,v5,.slice A6 n6 c6,.slice A7 n7 c7,.bool hst,.int .u32 sti,v8,v9,v10] = wy at HY0 HWY ⊢
     obtain ⟨Y,hY⟩:∃ Y,w10.heap.size = Y:=⟨_,rfl⟩
     rw [hY] at HY0 HYL
     simp only [hY]
     clear hY HW10
     have HYY:Hid (w.heap.size ≤ w0.heap.size ∧ w0.heap.size ≤ Y ∧ Y < wy.heap.size):=J ⟨HB0.out.size,HYL.out,(gL HY0.out)⟩
     have hwB:w.heap.size ≤ wy.heap.size:=by have:=HYY.out;omega
     have hbE:Below wy.heap.size wy (wy.alloc (.cells #[] 75)):=bA
     have hmE:=aM.lit0 (α:=Imp) 75 wy wy.heap.size w.heap.size (Nat.le_refl _) hwB
     have hWE:=HWY.out.trans (hbE.mono HWY.out.size)
     obtain ⟨A5,c5,w5,hr5,hM5,hb5⟩:=hmE.app undImp infImp (by decide) rfl (by decide) hbE.size hwB A2 n2 c2 m.imports (hasV_old HL2.out (HOL.out _ hWE) rfl) HN2.out.symm (by simp;omega)
     simp only [List.length_nil,Nat.zero_add,List.nil_append] at hr5 hM5
     have hlit:(impCells (Ru.extra nm)).toArray = #[.string ⟨#[101,110,118]⟩,.string NB,.int .u8 3,.int .u32 0,.int .u32 0,.int .i64 0,.int .u8 127,.bool false]:=by
      unfold impCells strV
      show #[Value.string ⟨#[101,110,118]⟩,Value.string ⟨nm.toArray⟩,_,_,_,_,_,_] = _
      rw [HNB.out]
      rfl
     have hs5:wy.heap.size ≤ w5.heap.size:=Nat.le_trans hbE.size hb5.size
     have hba:Below w5.heap.size w5 (w5.alloc (.cells #[.string ⟨#[101,110,118]⟩,.string NB,.int .u8 3,.int .u32 0,.int .u32 0,.int .i64 0,.int .u8 127,.bool false] 75)):=bA
     obtain ⟨AM,cM,w6,hr6,hM6,hb6⟩:=(hM5.on hba).imp (Nat.le_trans hs5 hba.size) hwB (Ru.extra nm) w5.heap.size ⟨rfl,by show (0:Nat) < 4294967296;decide,by show (0:Nat) < 4294967296 ∧ (-9223372036854775808:Int) ≤ 0 ∧ (0:Int) ≤ 9223372036854775807;decide⟩ (by rw [hlit];exact heap_alloc_new w5 _) (fun e=>by have:=(hM5.lt _ e).2;omega) (by rw [HN2.out];have:=H64.out;omega)
     rw [HN2.out] at hr6 hM6
     have hy6:w6.heap[Y]? = some (.cells #[.slice A1 n1 c1,.slice A2 n2 c2,v3,v4,v5,.slice A6 n6 c6,.slice A7 n7 c7,.bool hst,.int .u32 sti,v8,v9,v10] 49 (0,0)):=(hb6.block Y HYY.out.2.2).trans ((hba.block Y (Nat.lt_of_lt_of_le HYY.out.2.2 hs5)).trans ((hb5.block Y HYY.out.2.2).trans ((hbE.block Y HYY.out.2.2).trans HY0.out)))
     have HW6:Hid (Below w0.heap.size w0 w6):=J (HWY.out.trans (((hbE.trans hb5).trans ((hba.mono hs5).trans hb6)).mono HWY.out.size))
     have HM6:=J hM6
     have HY6:=J hy6
     have c1':=cellV hy6 1 _ rfl
     have f1':=frozen_of_row w6 Y 1 _ _ hy6
     obtain ⟨a0,a1,a2,a3,a4,a5,a6,a7,a8,a9,a10,a11⟩:=HAL.out _ hWE
     have HHM:Hid (Mod (· = Y) w6 (w6.setCell ⟨Y,1,none⟩ (.slice AM (n2 + 1) cM))):=J ((Mod.refl _ w6).setCell (T:=(· = Y)) (p:=⟨Y,1,none⟩) (fun _=>rfl) _)
     have HYN:Hid ((w6.setCell ⟨Y,1,none⟩ (.slice AM (n2 + 1) cM)).heap[Y]? = some (.cells #[.slice A1 n1 c1,.slice AM (n2 + 1) cM,v3,v4,v5,.slice A6 n6 c6,.slice A7 n7 c7,.bool hst,.int .u32 sti,v8,v9,v10] 49 (0,0))):=J (heap_setCell_same w6 Y 1 _ _ _ HY6.out)
     have HWN:Hid (Below w0.heap.size w0 (w6.setCell ⟨Y,1,none⟩ (.slice AM (n2 + 1) cM))):=J (HW6.out.trans (HHM.out.below HW6.out.size (fun k hk e=>by have:=HYY.out;omega)))
     have HMN:Hid (aa (w6.setCell ⟨Y,1,none⟩ (.slice AM (n2 + 1) cM)) (· < (w6.setCell ⟨Y,1,none⟩ (.slice AM (n2 + 1) cM)).heap.size) (m.imports ++ [Ru.extra nm]) (.slice AM (n2 + 1) cM)):=J (HM6.out.mod HHM.out (fun k hk e=>by have:=HYY.out;omega) (fun k hk e=>by have:=HM6.out.2 k hk;have:=HYY.out;omega)).slice
     clear hmE hWE hM5 hlit hba hM6 hb6 hy6 hs5 hb5 hbE hwB
     go_upto_region 30 with (first | (at_builtin;refine Lib.wpList_append_run _ rfl (.tmp 136) (.tmp 138) _ _ rfl _ _ rfl rfl _ _ hr5 ?_) | (at_builtin;refine Lib.wpList_append_run _ rfl (.tmp 139) (.tmp 143) _ _ rfl _ _ rfl rfl _ _ hr6 ?_))
     clear a0 a1 a2 a3 a4 a5 a6 a7 a8 a9 a10 a11 c1' f1' hr5 hr6
     generalize w6.setCell ⟨Y,1,none⟩ (.slice AM (n2 + 1) cM) = wn at HYN HWN HMN HHM ⊢
     clear HM6 HY6 HW6 HHM
     obtain ⟨a0,a1,a2,a3,a4,a5,a6,a7,a8,a9,a10,a11⟩:=HAL.out _ HWN.out
     by_cases hg:0 < n6
     ·have hgi:(0:Int) < (n6:Int):=by omega
      go_wp2_with fail
      go_ret
      exact ⟨rfl,HOL.out _ HWN.out⟩
     have hn60:n6 = 0:=by omega
     have HG0:Hid (m.globals = []):=J (List.eq_nil_of_length_eq_zero (by rw [HN6.out];exact hn60))
     have HCM:Hid (Calls Tryz.prog 13 #[.agg #[.slice A1 n1 c1,.slice AM (n2 + 1) cM,v3,v4,v5,.slice A6 n6 c6,.slice A7 n7 c7,.bool hst,.int .u32 sti,v8,v9,v10]] wn fun e w'=>e = .returned (.int .i64 120) ∧ Below wn.heap.size wn w'):=J (by
      have hr:=HM.out.grow (HOL.out wn HWN.out)
      have h:=dr { m with imports:=m.imports ++ [Ru.extra nm] } (.slice A1 m.types.length c1) (.slice AM (n2 + 1) cM) v3 v4 v5 (.slice A6 m.globals.length c6) (.slice A7 m.exports.length c7) v8 v9 v10 wn ⟨hr.types,HMN.out,hr.funcs,hr.tables,hr.mems,hr.globals,hr.exports,hr.start,hr.elems,hr.codes,hr.datas⟩ (fitR_extra HFR.out (by rw [HN2.out];exact H64.out) ⟨by show Ru.env.length ≤ 1050000;decide,by show nm.length ≤ 1050000;have:=HNML.out;omega⟩)
      rw [Ru.one_more HR.out nm HNML.out (by rw [HN2.out];exact H64.out) HG0.out] at h
      unfold modCells at h
      dsimp only at h
      rw [HN1.out,HN6.out,HN7.out,HHS.out,HST.out] at h
      exact h)
     subst hn60
     clear HMN HM
     obtain ⟨z0,z1,z2,z3,z4,z5,z6,z7,z8,z9,z10,z11⟩:=cells12 HYN.out (Below.refl _ _)
     go_wp2_with fail
     refine HCM.out.mono ?_
     rintro e w12 ⟨rfl,hb⟩
     have HW12:=J (HWN.out.trans (hb.mono HWN.out.size))
     clear hb
     go_wp2_with fail
     go_ret
     exact ⟨rfl,HOL.out _ HW12.out⟩
theorem ronly_str (m:M) (v1 v2 v3 v4 v5 v6 v7 v8 v9 v10:Value) (s:ByteArray) (w:World) (hM:RepM w (· < w.heap.size) m v1 v2 v3 v4 v5 v6 v7 v8 v9 v10) (hB:BigM m):Calls Tryz.prog 5 #[.agg (modCells m v1 v2 v3 v4 v5 v6 v7 v8 v9 v10),.string s] w fun e w'=>e = .returned (.bool true) ∧ Below w.heap.size w w':=by
 have h:=ronly_any m v1 v2 v3 v4 v5 v6 v7 v8 v9 v10 s.data.toList w hM hB
 unfold strV at h
 rwa [Array.toArray_toList] at h
end Go.Proofs.YtmpelmihdpomjaaGreat
namespace Go.Proofs.YtmpelmihdpomjaaGreat
open Go.RowKit Ins Bin Sp
open Go.ChangeShapes Go.WideShapes Go.ChangeAt
theorem liftedRuleOffers (os:Os) (started:os.Started) (H:Type) (enc:TypeId × Value → H) :
  ReturnsInHanded {} Tryz.checked os 3 .any (Rows.ruleOffersSpec.pre6 enc Tryz.prog Tryz.f3 Rows.ruleOffersRow.domain false) (Rows.ruleOffersSpec.post enc Tryz.prog Tryz.f3 false true false false):=by
 refine returnsInHanded_of_change_sized (C:=Tryz.checked) own started (by kernel_rfl) Tryz.func3
  (ChangeSpec.witness6 (enc:=enc) (C:=Tryz.checked) false ⟨#[],#[.string ⟨#[]⟩],[]⟩ 8 (by kernel_rfl) (by kernel_rfl) (by kernel_rfl) (by kernel_rfl)) ?_
 intro W base args ds gs before hval0 hW _ hsz _
 have hval:∀ (j:Nat) t v,Tryz.f3.params[j]? = some t → args[j]? = some v → Value.okWide Tryz.prog W .any base t v:=hval0
 have hW':=hW
 obtain ⟨p,q,hA0,hV,rfl,hfz,hnd⟩:=hW
 have hA:DataW.TrodAll enc Tryz.prog W 0 (fun _=>true) true Tryz.f3.params.toList args.toList ds p:=hA0
 rw [Tryz.params3] at hA hval
 obtain ⟨v0,vs0,d0,ds0,p0,q0,hargs,rfl,rfl,h0,r0⟩:=trodAll_cons hA
 obtain ⟨rfl,rfl,rfl⟩:=trodAll_nil r0
 obtain rfl:args = #[v0]:=by cases args;simp_all
 obtain ⟨s0,rfl,rfl,rfl,ws0⟩:=Go.ChangeMaps.open_string und9 (hval 0 9 v0 rfl rfl) h0
 refine (roffers_str s0 W).mono fun e W' ⟨he,hb⟩=>?_
 subst he
 exact ⟨_,rfl,law_post (P:=Tryz.prog) (f:=Tryz.f3) (s:=Rows.ruleOffersSpec) laid (by kernel_rfl) rfl rfl und4 hW' rfl hb⟩
theorem overRuleOffers:Rows.ruleOffersRow.holds Tryz.pinned (OpenSpec.ofChange Rows.ruleOffersSpec) :=
 OpenClaim.holds_of_wide 3 Tryz.f3 rfl rfl rfl rfl rfl rfl rfl ⟨rfl,rfl,rfl,rfl,rfl⟩ rfl rfl rfl rfl rfl (by kernel_rfl) Tryz.func3 (by kernel_rfl)
  (of_decide_eq_true (by kernel_rfl)) (by unfold Func.isWrapper;first | (rw [if_pos (by decide +kernel)];kernel_rfl) | (rw [if_neg (by decide +kernel)];exact ⟨rfl,rfl⟩))
  (fun os started H enc _=>liftedRuleOffers os started H enc)
theorem ruleOffers_holds:Rows.RuleOffersSaid:=overRuleOffers
#print axioms ruleOffers_holds
theorem liftedRuleOnly (os:Os) (started:os.Started) (H:Type) (enc:TypeId × Value → H) :
  ReturnsInHanded {} Tryz.checked os 5 .any (Rows.ruleOnlySpec.pre6 enc Tryz.prog Tryz.f5 Rows.ruleOnlyRow.domain false) (Rows.ruleOnlySpec.post enc Tryz.prog Tryz.f5 false true false false):=by
 refine returnsInHanded_of_change_sized (C:=Tryz.checked) own started (by kernel_rfl) Tryz.func5
  (ChangeSpec.witness6 (enc:=enc) (C:=Tryz.checked) false ⟨#[],#[.agg #[.slice none 0 0,.slice none 0 0,.slice none 0 0,.slice none 0 0,.slice none 0 0,.slice none 0 0,.slice none 0 0,.bool false,.int .u32 0,.slice none 0 0,.slice none 0 0,.slice none 0 0],.string ⟨#[]⟩],[]⟩ 8 (by kernel_rfl) (by kernel_rfl) (by kernel_rfl) (by kernel_rfl)) ?_
 intro W base args ds gs before hval0 hW _ hsz _
 have hval:∀ (j:Nat) t v,Tryz.f5.params[j]? = some t → args[j]? = some v → Value.okWide Tryz.prog W .any base t v:=hval0
 have hW':=hW
 obtain ⟨p,q,hA0,hV,rfl,hfz,hnd⟩:=hW
 have hA:DataW.TrodAll enc Tryz.prog W 0 (fun _=>true) true Tryz.f5.params.toList args.toList ds p:=hA0
 rw [Tryz.params5] at hA hval
 obtain ⟨v0,vs0,d0,ds0,p0,q0,hargs,rfl,rfl,h0,r0⟩:=trodAll_cons hA
 obtain ⟨v1,vs1,d1,ds1,p1,q1,rfl,rfl,rfl,h1,r1⟩:=trodAll_cons r0
 obtain ⟨rfl,rfl,rfl⟩:=trodAll_nil r1
 obtain rfl:args = #[v0,v1]:=by cases args;simp_all
 obtain ⟨m0,u1,u2,u3,u4,u5,u6,u7,u8,u9,u10,rfl,hM0,hB0⟩:=open_mod (hval 0 49 v0 rfl rfl) h0 (fun k hk=>by
  have h:=List.all_eq_true.1 hsz k (DataW.weights_mem_each (j:=0) (t:=49) rfl rfl k hk)
  simpa using h)
 obtain ⟨s1,rfl,rfl,rfl,ws1⟩:=Go.ChangeMaps.open_string und9 (hval 1 9 v1 rfl rfl) h1
 refine (ronly_str m0 u1 u2 u3 u4 u5 u6 u7 u8 u9 u10 s1 _ hM0 hB0).mono fun e W' ⟨he,hb⟩=>?_
 subst he
 exact ⟨_,rfl,law_post (P:=Tryz.prog) (f:=Tryz.f5) (s:=Rows.ruleOnlySpec) laid (by kernel_rfl) rfl rfl und4 hW' rfl hb⟩
theorem overRuleOnly:Rows.ruleOnlyRow.holds Tryz.pinned (OpenSpec.ofChange Rows.ruleOnlySpec) :=
 OpenClaim.holds_of_wide 5 Tryz.f5 rfl rfl rfl rfl rfl rfl rfl ⟨rfl,rfl,rfl,rfl,rfl⟩ rfl rfl rfl rfl rfl (by kernel_rfl) Tryz.func5 (by kernel_rfl)
  (of_decide_eq_true (by kernel_rfl)) (by unfold Func.isWrapper;first | (rw [if_pos (by decide +kernel)];kernel_rfl) | (rw [if_neg (by decide +kernel)];exact ⟨rfl,rfl⟩))
  (fun os started H enc _=>liftedRuleOnly os started H enc)
theorem ruleOnly_holds:Rows.RuleOnlySaid:=overRuleOnly
#print axioms ruleOnly_holds
end Go.Proofs.YtmpelmihdpomjaaGreat
