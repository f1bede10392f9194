/-
  What the statements of layer 7 go through: Great. (gen/enc/great2.py)
-/
import Derived.Test.YtmpelmihdpomjaaGreatSo01
import Derived.Test.YtmpelmihdpomjaaGreatSo30
set_option maxRecDepth 100000
set_option maxHeartbeats 4000000
namespace Go.Proofs.YtmpelmihdpomjaaGreat
open Go.RowKit Ins Bin
structure CellsB (W:World) (B:Nat) (A1 A2 A3 A4 A5 A6 A7 A9 A10 A11:Option Addr) (n1 c1 n2 c2 n3 c3 n4 c4 n5 c5 n6 c6 n7 c7 n9 c9 n10 c10 n11 c11:Nat):Prop where
 c1:W.cell? ⟨B,0,none⟩ = some (.slice A1 n1 c1)
 c2:W.cell? ⟨B,1,none⟩ = some (.slice A2 n2 c2)
 c3:W.cell? ⟨B,2,none⟩ = some (.slice A3 n3 c3)
 c4:W.cell? ⟨B,3,none⟩ = some (.slice A4 n4 c4)
 c5:W.cell? ⟨B,4,none⟩ = some (.slice A5 n5 c5)
 c6:W.cell? ⟨B,5,none⟩ = some (.slice A6 n6 c6)
 c7:W.cell? ⟨B,6,none⟩ = some (.slice A7 n7 c7)
 c9:W.cell? ⟨B,9,none⟩ = some (.slice A9 n9 c9)
 c10:W.cell? ⟨B,10,none⟩ = some (.slice A10 n10 c10)
 c11:W.cell? ⟨B,11,none⟩ = some (.slice A11 n11 c11)
set_option maxHeartbeats 16000000 in
theorem bgreat_any (m:M) (v1 v2 v3 v4 v5 v6 v7 v8 v9 v10:Value) (w:World) (hM:RepM w (· < w.heap.size) m v1 v2 v3 v4 v5 v6 v7 v8 v9 v10) (hB:BigM m) :
  Calls Tryz.prog 14 #[.agg (modCells m v1 v2 v3 v4 v5 v6 v7 v8 v9 v10)] w fun e w'=>∃ g:Bool,e = .returned (.bool g) ∧ Below w.heap.size w w' ∧ (g = false → Small m):=by
 obtain ⟨A1,c1,rfl,_,_,_,hL1⟩:=hM.types
 have HL1:=J hL1
 clear hL1
 obtain ⟨A2,c2,rfl,_,_,_,hL2⟩:=hM.imports
 have HL2:=J hL2
 clear hL2
 obtain ⟨A3,c3,rfl,_,_,_,hL3⟩:=hM.funcs
 have HL3:=J hL3
 clear hL3
 obtain ⟨A4,c4,rfl,_,_,_,hL4⟩:=hM.tables
 have HL4:=J hL4
 clear hL4
 obtain ⟨A5,c5,rfl,_,_,_,hL5⟩:=hM.mems
 have HL5:=J hL5
 clear hL5
 obtain ⟨A6,c6,rfl,_,_,_,hL6⟩:=hM.globals
 have HL6:=J hL6
 clear hL6
 obtain ⟨A7,c7,rfl,_,_,_,hL7⟩:=hM.exports
 have HL7:=J hL7
 clear hL7
 obtain ⟨A9,c9,rfl,_,_,_,hL9⟩:=hM.elems
 have HL9:=J hL9
 clear hL9
 obtain ⟨A10,c10,rfl,_,_,_,hL10⟩:=hM.codes
 have HL10:=J hL10
 clear hL10
 obtain ⟨A11,c11,rfl,_,_,_,hL11⟩:=hM.datas
 have HL11:=J hL11
 clear hL11
 clear hM
 have HBIG:=J hB
 generalize hcs:modCells m (.slice A1 m.types.length c1) (.slice A2 m.imports.length c2) (.slice A3 m.funcs.length c3) (.slice A4 m.tables.length c4) (.slice A5 m.mems.length c5) (.slice A6 m.globals.length c6) (.slice A7 m.exports.length c7) (.slice A9 m.elems.length c9) (.slice A10 m.codes.length c10) (.slice A11 m.datas.length c11) = cs
 unfold modCells at hcs
 obtain ⟨n1,hn1⟩:∃ n,m.types.length = n:=⟨_,rfl⟩
 have hb1:n1 ≤ 140737488355328:=by rw [← hn1];exact hB.types.1
 have HN1:=J hn1
 rw [hn1] at hcs
 clear hn1
 obtain ⟨n2,hn2⟩:∃ n,m.imports.length = n:=⟨_,rfl⟩
 have hb2:n2 ≤ 140737488355328:=by rw [← hn2];exact hB.imports.1
 have HN2:=J hn2
 rw [hn2] at hcs
 clear hn2
 obtain ⟨n3,hn3⟩:∃ n,m.funcs.length = n:=⟨_,rfl⟩
 have hb3:n3 ≤ 140737488355328:=by rw [← hn3];exact hB.funcs
 have HN3:=J hn3
 rw [hn3] at hcs
 clear hn3
 obtain ⟨n4,hn4⟩:∃ n,m.tables.length = n:=⟨_,rfl⟩
 have hb4:n4 ≤ 140737488355328:=by rw [← hn4];exact hB.tables
 have HN4:=J hn4
 rw [hn4] at hcs
 clear hn4
 obtain ⟨n5,hn5⟩:∃ n,m.mems.length = n:=⟨_,rfl⟩
 have hb5:n5 ≤ 140737488355328:=by rw [← hn5];exact hB.mems
 have HN5:=J hn5
 rw [hn5] at hcs
 clear hn5
 obtain ⟨n6,hn6⟩:∃ n,m.globals.length = n:=⟨_,rfl⟩
 have hb6:n6 ≤ 140737488355328:=by rw [← hn6];exact hB.globals.1
 have HN6:=J hn6
 rw [hn6] at hcs
 clear hn6
 obtain ⟨n7,hn7⟩:∃ n,m.exports.length = n:=⟨_,rfl⟩
 have hb7:n7 ≤ 140737488355328:=by rw [← hn7];exact hB.exports.1
 have HN7:=J hn7
 rw [hn7] at hcs
 clear hn7
 obtain ⟨n9,hn9⟩:∃ n,m.elems.length = n:=⟨_,rfl⟩
 have hb9:n9 ≤ 140737488355328:=by rw [← hn9];exact hB.elems.1
 have HN9:=J hn9
 rw [hn9] at hcs
 clear hn9
 obtain ⟨n10,hn10⟩:∃ n,m.codes.length = n:=⟨_,rfl⟩
 have hb10:n10 ≤ 140737488355328:=by rw [← hn10];exact hB.codes.1
 have HN10:=J hn10
 rw [hn10] at hcs
 clear hn10
 obtain ⟨n11,hn11⟩:∃ n,m.datas.length = n:=⟨_,rfl⟩
 have hb11:n11 ≤ 140737488355328:=by rw [← hn11];exact hB.datas.1
 have HN11:=J hn11
 rw [hn11] at hcs
 clear hn11
 generalize m.hasStart = hs at hcs
 generalize (m.start:Int) = st at hcs
 subst hcs
 clear hB
 have HFIN:Hid (((((((((n1 + n2 + n3 + n4 + n5 + n6 + n7 + n9 + n10 + n11 ≤ 4000) ∧ ∀ x ∈ m.types,x.params.length ≤ 1000000 ∧ x.results.length ≤ 1000000) ∧ ∀ x ∈ m.imports,x.mod.length ≤ 1000000 ∧ x.name.length ≤ 1000000) ∧ ∀ x ∈ m.exports,x.name.length ≤ 1000000) ∧ ∀ x ∈ m.globals,Ins.many x.init ≤ 200000) ∧ ∀ x ∈ m.elems,Ins.many x.off ≤ 200000 ∧ x.funcs.length ≤ 100000) ∧ ∀ x ∈ m.codes,x.locals.length ≤ 100000 ∧ Ins.many x.body ≤ 200000) ∧ ∀ x ∈ m.datas,Ins.many x.off ≤ 200000 ∧ x.b.length ≤ 1000000) → Small m):=J (fun h=>by
  obtain ⟨⟨⟨⟨⟨⟨⟨h0,h1⟩,h2⟩,h3⟩,h4⟩,h5⟩,h6⟩,h7⟩:=h
  have e1:=HN1.out
  have e2:=HN2.out
  have e3:=HN3.out
  have e4:=HN4.out
  have e5:=HN5.out
  have e6:=HN6.out
  have e7:=HN7.out
  have e9:=HN9.out
  have e10:=HN10.out
  have e11:=HN11.out
  exact ⟨by omega,h1,h2,h4,h3,h5,h6,h7⟩)
 have hs1:IntKind.i64.wrap ((n1:Int) + (n2:Int)) = (n1:Int) + (n2:Int):=IntWalk.i64_in _ ⟨by omega,by omega⟩
 have hs2:IntKind.i64.wrap ((n1:Int) + (n2:Int) + (n3:Int)) = (n1:Int) + (n2:Int) + (n3:Int):=IntWalk.i64_in _ ⟨by omega,by omega⟩
 have hs3:IntKind.i64.wrap ((n1:Int) + (n2:Int) + (n3:Int) + (n4:Int)) = (n1:Int) + (n2:Int) + (n3:Int) + (n4:Int):=IntWalk.i64_in _ ⟨by omega,by omega⟩
 have hs4:IntKind.i64.wrap ((n1:Int) + (n2:Int) + (n3:Int) + (n4:Int) + (n5:Int)) = (n1:Int) + (n2:Int) + (n3:Int) + (n4:Int) + (n5:Int):=IntWalk.i64_in _ ⟨by omega,by omega⟩
 have hs5:IntKind.i64.wrap ((n1:Int) + (n2:Int) + (n3:Int) + (n4:Int) + (n5:Int) + (n6:Int)) = (n1:Int) + (n2:Int) + (n3:Int) + (n4:Int) + (n5:Int) + (n6:Int):=IntWalk.i64_in _ ⟨by omega,by omega⟩
 have hs6:IntKind.i64.wrap ((n1:Int) + (n2:Int) + (n3:Int) + (n4:Int) + (n5:Int) + (n6:Int) + (n7:Int)) = (n1:Int) + (n2:Int) + (n3:Int) + (n4:Int) + (n5:Int) + (n6:Int) + (n7:Int):=IntWalk.i64_in _ ⟨by omega,by omega⟩
 have hs7:IntKind.i64.wrap ((n1:Int) + (n2:Int) + (n3:Int) + (n4:Int) + (n5:Int) + (n6:Int) + (n7:Int) + (n9:Int)) = (n1:Int) + (n2:Int) + (n3:Int) + (n4:Int) + (n5:Int) + (n6:Int) + (n7:Int) + (n9:Int):=IntWalk.i64_in _ ⟨by omega,by omega⟩
 have hs8:IntKind.i64.wrap ((n1:Int) + (n2:Int) + (n3:Int) + (n4:Int) + (n5:Int) + (n6:Int) + (n7:Int) + (n9:Int) + (n10:Int)) = (n1:Int) + (n2:Int) + (n3:Int) + (n4:Int) + (n5:Int) + (n6:Int) + (n7:Int) + (n9:Int) + (n10:Int):=IntWalk.i64_in _ ⟨by omega,by omega⟩
 have hs9:IntKind.i64.wrap ((n1:Int) + (n2:Int) + (n3:Int) + (n4:Int) + (n5:Int) + (n6:Int) + (n7:Int) + (n9:Int) + (n10:Int) + (n11:Int)) = (n1:Int) + (n2:Int) + (n3:Int) + (n4:Int) + (n5:Int) + (n6:Int) + (n7:Int) + (n9:Int) + (n10:Int) + (n11:Int):=IntWalk.i64_in _ ⟨by omega,by omega⟩
 have HX0:=J (heap_alloc_new w (.cells #[.slice A1 n1 c1,.slice A2 n2 c2,.slice A3 n3 c3,.slice A4 n4 c4,.slice A5 n5 c5,.slice A6 n6 c6,.slice A7 n7 c7,.bool hs,.int .u32 st,.slice A9 n9 c9,.slice A10 n10 c10,.slice A11 n11 c11] 49))
 have HB0:Hid (Below w.heap.size w (w.alloc (.cells #[.slice A1 n1 c1,.slice A2 n2 c2,.slice A3 n3 c3,.slice A4 n4 c4,.slice A5 n5 c5,.slice A6 n6 c6,.slice A7 n7 c7,.bool hs,.int .u32 st,.slice A9 n9 c9,.slice A10 n10 c10,.slice A11 n11 c11] 49))):=J bA
 have HS0:Hid ((w.alloc (.cells #[.slice A1 n1 c1,.slice A2 n2 c2,.slice A3 n3 c3,.slice A4 n4 c4,.slice A5 n5 c5,.slice A6 n6 c6,.slice A7 n7 c7,.bool hs,.int .u32 st,.slice A9 n9 c9,.slice A10 n10 c10,.slice A11 n11 c11] 49)).heap.size = w.heap.size + 1):=J (by simp)
 go_enter Tryz.func14,Tryz.ntmps14
 go_upto_region 1 with fail
 generalize w.alloc (.cells #[.slice A1 n1 c1,.slice A2 n2 c2,.slice A3 n3 c3,.slice A4 n4 c4,.slice A5 n5 c5,.slice A6 n6 c6,.slice A7 n7 c7,.bool hs,.int .u32 st,.slice A9 n9 c9,.slice A10 n10 c10,.slice A11 n11 c11] 49) = w0 at HX0 HB0 HS0 ⊢
 obtain ⟨B,hBB⟩:∃ B,w.heap.size = B:=⟨_,rfl⟩
 have HXB:Hid (∀ W,Below w0.heap.size w0 W → CellsB W B A1 A2 A3 A4 A5 A6 A7 A9 A10 A11 n1 c1 n2 c2 n3 c3 n4 c4 n5 c5 n6 c6 n7 c7 n9 c9 n10 c10 n11 c11):=J (fun W hb=>by
  have h:=(hb.block w.heap.size (by have:=HS0.out;omega)).trans HX0.out
  rw [hBB] at h
  exact ⟨by rw [cell_of_row W _ 0 _ _ (0,0) h];rfl,by rw [cell_of_row W _ 1 _ _ (0,0) h];rfl,by rw [cell_of_row W _ 2 _ _ (0,0) h];rfl,by rw [cell_of_row W _ 3 _ _ (0,0) h];rfl,by rw [cell_of_row W _ 4 _ _ (0,0) h];rfl,by rw [cell_of_row W _ 5 _ _ (0,0) h];rfl,by rw [cell_of_row W _ 6 _ _ (0,0) h];rfl,by rw [cell_of_row W _ 9 _ _ (0,0) h];rfl,by rw [cell_of_row W _ 10 _ _ (0,0) h];rfl,by rw [cell_of_row W _ 11 _ _ (0,0) h];rfl⟩)
 have HBB:=J hBB
 obtain ⟨m1,m2,m3,m4,m5,m6,m7,m9,m10,m11⟩:=HXB.out w0 (Below.refl _ _)
 clear HX0 HS0
 simp only [hBB]
 clear hBB
 go_upto_region 3 with fail
 clear m1 m2 m3 m4 m5 m6 m7 m9 m10 m11 hs1 hs2 hs3 hs4 hs5 hs6 hs7 hs8 hs9
 go_loopw [3,4] (fun u i wr=>∃ j N:Nat,j ≤ n1 ∧ i = .int .i64 ↑j ∧ u = .int .i64 ↑N ∧ N ≤ 4503599627370496 ∧ Hid (N ≤ 4000 → (n1 + n2 + n3 + n4 + n5 + n6 + n7 + n9 + n10 + n11 ≤ 4000) ∧ ∀ x ∈ m.types.take j,x.params.length ≤ 1000000 ∧ x.results.length ≤ 1000000) ∧ Hid (Below w0.heap.size w0 wr)) (fun _ i _=>n1 - (intOf i).toNat)
 case atStart=>exact ⟨0,n1 + n2 + n3 + n4 + n5 + n6 + n7 + n9 + n10 + n11,by omega,rfl,by go_num,by omega,J (fun h=>⟨h,by simp⟩),J (Below.refl _ _)⟩
 case round =>
  obtain ⟨j,N,hj,rfl,rfl,hN,HS,HB⟩:=hrel
  obtain ⟨m1,m2,m3,m4,m5,m6,m7,m9,m10,m11⟩:=HXB.out wr HB.out
  clear m2 m3 m4 m5 m6 m7 m9 m10 m11
  go_upto_region 3 with fail
  go_cut [58] from 50 to 58 (fun s wx=>s = .bool (decide (j < n1 ∧ N ≤ 4000)) ∧ wx = wr)
  case first =>
   by_cases q1:j < n1
   ·have q1i:(j:Int) < (n1:Int):=by omega
    by_cases q2:N ≤ 4000
    ·have q2i:(N:Int) ≤ 4000:=by omega
     have q3:decide (j < n1 ∧ N ≤ 4000) = true:=by simp [q1,q2]
     have HQ3:=J q3
     clear q3
     go_wp2_with fail
     go_meet
     case rel=>exact ⟨congrArg Value.bool HQ3.out.symm,rfl⟩
    ·have q2i:¬ (N:Int) ≤ 4000:=by omega
     have q3:decide (j < n1 ∧ N ≤ 4000) = false:=by simp [q2]
     have HQ3:=J q3
     clear q3
     go_wp2_with fail
     go_meet
     case rel=>exact ⟨congrArg Value.bool HQ3.out.symm,rfl⟩
   ·have q1i:¬ (j:Int) < (n1:Int):=by omega
    have q3:decide (j < n1 ∧ N ≤ 4000) = false:=by simp [q1]
    have HQ3:=J q3
    clear q3
    go_wp2_with fail
    go_meet
    case rel=>exact ⟨congrArg Value.bool HQ3.out.symm,rfl⟩
  case rest =>
   obtain ⟨rfl,rfl⟩:=hcut
   by_cases hc:j < n1 ∧ N ≤ 4000
   ·obtain ⟨x,hx⟩:∃ x,m.types[j]? = some x:=⟨_,List.getElem?_eq_getElem (by rw [HN1.out];exact hc.1)⟩
    have hxm:=List.mem_of_getElem? hx
    obtain ⟨g,o,cs,hA,_,hg,hrep,hcell⟩:=HL1.out j x hx
    subst hA
    obtain ⟨_,_,rfl,⟨D1,d1,rfl,_,_,_,_⟩,⟨D2,d2,rfl,_,_,_,_⟩⟩:=hrep
    have hsz:Lay.size FT = 2:=rfl
    rw [hsz] at hcell
    have k0:w.cell? ⟨g,o + j * 2,none⟩ = some (.slice D1 x.params.length d1):=hcell 0 _ rfl
    have k1:w.cell? ⟨g,o + j * 2 + 1,none⟩ = some (.slice D2 x.results.length d2):=hcell 1 _ rfl
    have HALL:Hid (∀ W,Below w0.heap.size w0 W → W.cell? ⟨B,0,none⟩ = some (.slice (some ⟨g,o,none⟩) n1 c1) ∧ W.cell? ⟨g,o + j * 2,none⟩ = some (.slice D1 x.params.length d1) ∧ W.cell? ⟨g,o + j * 2 + 1,none⟩ = some (.slice D2 x.results.length d2)):=J (fun W hb=>by
     have h:=HB0.out.trans (hb.mono HB0.out.size)
     exact ⟨(HXB.out W hb).c1,(h.cell (p:=⟨g,o + j * 2,none⟩) hg).trans k0,(h.cell (p:=⟨g,o + j * 2 + 1,none⟩) hg).trans k1⟩)
    have hbig:=HBIG.out.types.2 x hxm
    have hb0:x.params.length ≤ 140737488355328 ∧ x.results.length ≤ 140737488355328:=hbig
    obtain ⟨hb1,hb2⟩:=hb0
    have HTK:Hid (∀ y ∈ m.types.take (j + 1),y ∈ m.types.take j ∨ y = x):=J (fun y hy=>by
     rw [List.take_add_one,hx] at hy
     simpa using hy)
    have hji:(j:Int) < (n1:Int):=by omega
    have hc2:=hc.2
    have hc1:=hc.1
    rw [decide_eq_true hc]
    obtain ⟨y0,y1,y2⟩:=HALL.out wc HB.out
    obtain ⟨q1,hq1⟩:∃ q,x.params.length = q:=⟨_,rfl⟩
    obtain ⟨q2,hq2⟩:∃ q,x.results.length = q:=⟨_,rfl⟩
    rw [hq1] at y1 HALL hb1
    have HQ1:=J hq1
    clear hq1
    rw [hq2] at y2 HALL hb2
    have HQ2:=J hq2
    clear hq2
    clear hx hxm hcell hsz hg hc hbig k0 k1
    clear m1
    have hw1:IntKind.i64.wrap ((N:Int) + (q1:Int)) = (N:Int) + (q1:Int):=IntWalk.i64_in _ ⟨by omega,by omega⟩
    have hw2:IntKind.i64.wrap ((N:Int) + (q1:Int) + (q2:Int)) = (N:Int) + (q1:Int) + (q2:Int):=IntWalk.i64_in _ ⟨by omega,by omega⟩
    have HBD:Hid (Below w0.heap.size w0 wc.drew):=J HB.out.drew
    go_upto_region 5 with fail
    refine wp_region_held_drew (S:=(fun W=>W.cell? ⟨B,0,none⟩ = some (.slice (some ⟨g,o,none⟩) n1 c1) ∧ W.cell? ⟨g,o + j * 2,none⟩ = some (.slice D1 q1 d1) ∧ W.cell? ⟨g,o + j * 2 + 1,none⟩ = some (.slice D2 q2 d2))) (by kernel_rfl) (HALL.out _ HBD.out) (fun hHeld=>?_)
    refine dW 0 rfl ?_
    refine dW 1 rfl ?_
    refine dh1 2 rfl ?_
    refine dW 3 rfl ?_
    refine dW 4 rfl ?_
    refine dW 5 rfl ?_
    refine dh1 6 rfl ?_
    refine dW 7 rfl ?_
    refine dW 8 rfl ?_
    refine dW 9 rfl ?_
    refine dh1 10 rfl ?_
    refine dW 11 rfl ?_
    refine dW 12 rfl ?_
    refine dW 13 rfl ?_
    refine dh1 14 rfl ?_
    refine dW 15 rfl ?_
    refine dW 16 rfl ?_
    refine dW 17 rfl ?_
    refine dN ?_
    go_wp2_with fail
    go_roundw
    case rel =>
     refine ⟨j + 1,N + q1 + q2,by omega,by go_num,by go_num,by omega,J (fun h=>⟨(HS.out (by omega)).1,fun y hy=>?_⟩),HBD⟩
     rcases HTK.out y hy with hy | rfl
     ·exact (HS.out (by omega)).2 y hy
     ·exact ⟨by have:=HQ1.out;omega,by have:=HQ2.out;omega⟩
    case measure=>simp [intOf];omega
   ·as_aux_lemma =>
     have HP:Hid (N ≤ 4000 → (n1 + n2 + n3 + n4 + n5 + n6 + n7 + n9 + n10 + n11 ≤ 4000) ∧ ∀ x ∈ m.types,x.params.length ≤ 1000000 ∧ x.results.length ≤ 1000000):=J (fun h=>by
      have hjn:j = n1:=by omega
      have hs:=HS.out h
      rw [hjn,List.take_of_length_le (by have:=HN1.out;omega)] at hs
      exact hs)
     rw [decide_eq_false hc]
     clear hc HS m1
     go_upto_region 7 with fail
     go_loopw [3,5] (fun u i wr=>∃ j N:Nat,j ≤ n2 ∧ i = .int .i64 ↑j ∧ u = .int .i64 ↑N ∧ N ≤ 4503599627370496 ∧ Hid (N ≤ 4000 → ((n1 + n2 + n3 + n4 + n5 + n6 + n7 + n9 + n10 + n11 ≤ 4000) ∧ ∀ x ∈ m.types,x.params.length ≤ 1000000 ∧ x.results.length ≤ 1000000) ∧ ∀ x ∈ m.imports.take j,x.mod.length ≤ 1000000 ∧ x.name.length ≤ 1000000) ∧ Hid (Below w0.heap.size w0 wr)) (fun _ i _=>n2 - (intOf i).toNat)
     case atStart=>exact ⟨0,N,by omega,rfl,rfl,by omega,J (fun h=>⟨HP.out h,by simp⟩),HB⟩
     case round =>
      obtain ⟨j,N,hj,rfl,rfl,hN,HS,HB⟩:=hrel
      obtain ⟨m1,m2,m3,m4,m5,m6,m7,m9,m10,m11⟩:=HXB.out wr HB.out
      clear m1 m3 m4 m5 m6 m7 m9 m10 m11
      go_upto_region 7 with fail
      go_cut [86] from 78 to 86 (fun s wx=>s = .bool (decide (j < n2 ∧ N ≤ 4000)) ∧ wx = wr)
      case first =>
       by_cases q1:j < n2
       ·have q1i:(j:Int) < (n2:Int):=by omega
        by_cases q2:N ≤ 4000
        ·have q2i:(N:Int) ≤ 4000:=by omega
         have q3:decide (j < n2 ∧ N ≤ 4000) = true:=by simp [q1,q2]
         have HQ3:=J q3
         clear q3
         go_wp2_with fail
         go_meet
         case rel=>exact ⟨congrArg Value.bool HQ3.out.symm,rfl⟩
        ·have q2i:¬ (N:Int) ≤ 4000:=by omega
         have q3:decide (j < n2 ∧ N ≤ 4000) = false:=by simp [q2]
         have HQ3:=J q3
         clear q3
         go_wp2_with fail
         go_meet
         case rel=>exact ⟨congrArg Value.bool HQ3.out.symm,rfl⟩
       ·have q1i:¬ (j:Int) < (n2:Int):=by omega
        have q3:decide (j < n2 ∧ N ≤ 4000) = false:=by simp [q1]
        have HQ3:=J q3
        clear q3
        go_wp2_with fail
        go_meet
        case rel=>exact ⟨congrArg Value.bool HQ3.out.symm,rfl⟩
      case rest =>
       obtain ⟨rfl,rfl⟩:=hcut
       by_cases hc:j < n2 ∧ N ≤ 4000
       ·obtain ⟨x,hx⟩:∃ x,m.imports[j]? = some x:=⟨_,List.getElem?_eq_getElem (by rw [HN2.out];exact hc.1)⟩
        have hxm:=List.mem_of_getElem? hx
        obtain ⟨g,o,cs,hA,_,hg,hrep,hcell⟩:=HL2.out j x hx
        subst hA
        obtain ⟨rfl,_⟩:=hrep
        have hsz:Lay.size Imp = 8:=rfl
        rw [hsz] at hcell
        obtain ⟨E1,hE1⟩:∃ E:ByteArray,E = ⟨x.mod.toArray⟩:=⟨_,rfl⟩
        have hs1:E1.size = x.mod.length:=by rw [hE1];simp [ByteArray.size]
        obtain ⟨E2,hE2⟩:∃ E:ByteArray,E = ⟨x.name.toArray⟩:=⟨_,rfl⟩
        have hs2:E2.size = x.name.length:=by rw [hE2];simp [ByteArray.size]
        have k0:w.cell? ⟨g,o + j * 8,none⟩ = some (.string E1):=by
         rw [hE1]
         exact hcell 0 _ rfl
        have k1:w.cell? ⟨g,o + j * 8 + 1,none⟩ = some (.string E2):=by
         rw [hE2]
         exact hcell 1 _ rfl
        have HALL:Hid (∀ W,Below w0.heap.size w0 W → W.cell? ⟨B,1,none⟩ = some (.slice (some ⟨g,o,none⟩) n2 c2) ∧ W.cell? ⟨g,o + j * 8,none⟩ = some (.string E1) ∧ W.cell? ⟨g,o + j * 8 + 1,none⟩ = some (.string E2)):=J (fun W hb=>by
         have h:=HB0.out.trans (hb.mono HB0.out.size)
         exact ⟨(HXB.out W hb).c2,(h.cell (p:=⟨g,o + j * 8,none⟩) hg).trans k0,(h.cell (p:=⟨g,o + j * 8 + 1,none⟩) hg).trans k1⟩)
        have hbig:=HBIG.out.imports.2 x hxm
        have hb0:x.mod.length ≤ 140737488355328 ∧ x.name.length ≤ 140737488355328:=hbig
        obtain ⟨hb1,hb2⟩:=hb0
        have HTK:Hid (∀ y ∈ m.imports.take (j + 1),y ∈ m.imports.take j ∨ y = x):=J (fun y hy=>by
         rw [List.take_add_one,hx] at hy
         simpa using hy)
        have hji:(j:Int) < (n2:Int):=by omega
        have hc2:=hc.2
        have hc1:=hc.1
        rw [decide_eq_true hc]
        obtain ⟨y0,y1,y2⟩:=HALL.out wc HB.out
        have HQ1:=J hs1
        rw [← hs1] at hb1
        clear hs1 hE1
        have HQ2:=J hs2
        rw [← hs2] at hb2
        clear hs2 hE2
        clear hx hxm hcell hsz hg hc hbig k0 k1
        clear m2
        have hw1:IntKind.i64.wrap ((N:Int) + (E1.size:Int)) = (N:Int) + (E1.size:Int):=IntWalk.i64_in _ ⟨by omega,by omega⟩
        have hw2:IntKind.i64.wrap ((N:Int) + (E1.size:Int) + (E2.size:Int)) = (N:Int) + (E1.size:Int) + (E2.size:Int):=IntWalk.i64_in _ ⟨by omega,by omega⟩
        have HBD:Hid (Below w0.heap.size w0 wc.drew):=J HB.out.drew
        go_upto_region 9 with fail
        refine wp_region_held_drew (S:=(fun W=>W.cell? ⟨B,1,none⟩ = some (.slice (some ⟨g,o,none⟩) n2 c2) ∧ W.cell? ⟨g,o + j * 8,none⟩ = some (.string E1) ∧ W.cell? ⟨g,o + j * 8 + 1,none⟩ = some (.string E2))) (by kernel_rfl) (HALL.out _ HBD.out) (fun hHeld=>?_)
        refine dW 0 rfl ?_
        refine dW 1 rfl ?_
        refine dh1 2 rfl ?_
        refine dW 3 rfl ?_
        refine dW 4 rfl ?_
        refine dW 5 rfl ?_
        refine dh1 6 rfl ?_
        refine dW 7 rfl ?_
        refine dW 8 rfl ?_
        refine dW 9 rfl ?_
        refine dh1 10 rfl ?_
        refine dW 11 rfl ?_
        refine dW 12 rfl ?_
        refine dW 13 rfl ?_
        refine dh1 14 rfl ?_
        refine dW 15 rfl ?_
        refine dW 16 rfl ?_
        refine dW 17 rfl ?_
        refine dN ?_
        go_wp2_with fail
        go_roundw
        case rel =>
         refine ⟨j + 1,N + E1.size + E2.size,by omega,by go_num,by go_num,by omega,J (fun h=>⟨(HS.out (by omega)).1,fun y hy=>?_⟩),HBD⟩
         rcases HTK.out y hy with hy | rfl
         ·exact (HS.out (by omega)).2 y hy
         ·exact ⟨by have:=HQ1.out;omega,by have:=HQ2.out;omega⟩
        case measure=>simp [intOf];omega
       ·as_aux_lemma =>
         have HP:Hid (N ≤ 4000 → ((n1 + n2 + n3 + n4 + n5 + n6 + n7 + n9 + n10 + n11 ≤ 4000) ∧ ∀ x ∈ m.types,x.params.length ≤ 1000000 ∧ x.results.length ≤ 1000000) ∧ ∀ x ∈ m.imports,x.mod.length ≤ 1000000 ∧ x.name.length ≤ 1000000):=J (fun h=>by
          have hjn:j = n2:=by omega
          have hs:=HS.out h
          rw [hjn,List.take_of_length_le (by have:=HN2.out;omega)] at hs
          exact hs)
         rw [decide_eq_false hc]
         clear hc HS m2
         go_upto_region 11 with fail
         go_loopw [3,6] (fun u i wr=>∃ j N:Nat,j ≤ n7 ∧ i = .int .i64 ↑j ∧ u = .int .i64 ↑N ∧ N ≤ 4503599627370496 ∧ Hid (N ≤ 4000 → (((n1 + n2 + n3 + n4 + n5 + n6 + n7 + n9 + n10 + n11 ≤ 4000) ∧ ∀ x ∈ m.types,x.params.length ≤ 1000000 ∧ x.results.length ≤ 1000000) ∧ ∀ x ∈ m.imports,x.mod.length ≤ 1000000 ∧ x.name.length ≤ 1000000) ∧ ∀ x ∈ m.exports.take j,x.name.length ≤ 1000000) ∧ Hid (Below w0.heap.size w0 wr)) (fun _ i _=>n7 - (intOf i).toNat)
         case atStart=>exact ⟨0,N,by omega,rfl,rfl,by omega,J (fun h=>⟨HP.out h,by simp⟩),HB⟩
         case round =>
          obtain ⟨j,N,hj,rfl,rfl,hN,HS,HB⟩:=hrel
          obtain ⟨m1,m2,m3,m4,m5,m6,m7,m9,m10,m11⟩:=HXB.out wr HB.out
          clear m1 m2 m3 m4 m5 m6 m9 m10 m11
          go_upto_region 11 with fail
          go_cut [114] from 106 to 114 (fun s wx=>s = .bool (decide (j < n7 ∧ N ≤ 4000)) ∧ wx = wr)
          case first =>
           by_cases q1:j < n7
           ·have q1i:(j:Int) < (n7:Int):=by omega
            by_cases q2:N ≤ 4000
            ·have q2i:(N:Int) ≤ 4000:=by omega
             have q3:decide (j < n7 ∧ N ≤ 4000) = true:=by simp [q1,q2]
             have HQ3:=J q3
             clear q3
             go_wp2_with fail
             go_meet
             case rel=>exact ⟨congrArg Value.bool HQ3.out.symm,rfl⟩
            ·have q2i:¬ (N:Int) ≤ 4000:=by omega
             have q3:decide (j < n7 ∧ N ≤ 4000) = false:=by simp [q2]
             have HQ3:=J q3
             clear q3
             go_wp2_with fail
             go_meet
             case rel=>exact ⟨congrArg Value.bool HQ3.out.symm,rfl⟩
           ·have q1i:¬ (j:Int) < (n7:Int):=by omega
            have q3:decide (j < n7 ∧ N ≤ 4000) = false:=by simp [q1]
            have HQ3:=J q3
            clear q3
            go_wp2_with fail
            go_meet
            case rel=>exact ⟨congrArg Value.bool HQ3.out.symm,rfl⟩
          case rest =>
           obtain ⟨rfl,rfl⟩:=hcut
           by_cases hc:j < n7 ∧ N ≤ 4000
           ·obtain ⟨x,hx⟩:∃ x,m.exports[j]? = some x:=⟨_,List.getElem?_eq_getElem (by rw [HN7.out];exact hc.1)⟩
            have hxm:=List.mem_of_getElem? hx
            obtain ⟨g,o,cs,hA,_,hg,hrep,hcell⟩:=HL7.out j x hx
            subst hA
            obtain ⟨rfl,_⟩:=hrep
            have hsz:Lay.size Exp = 3:=rfl
            rw [hsz] at hcell
            obtain ⟨E1,hE1⟩:∃ E:ByteArray,E = ⟨x.name.toArray⟩:=⟨_,rfl⟩
            have hs1:E1.size = x.name.length:=by rw [hE1];simp [ByteArray.size]
            have k0:w.cell? ⟨g,o + j * 3,none⟩ = some (.string E1):=by
             rw [hE1]
             exact hcell 0 _ rfl
            have HALL:Hid (∀ W,Below w0.heap.size w0 W → W.cell? ⟨B,6,none⟩ = some (.slice (some ⟨g,o,none⟩) n7 c7) ∧ W.cell? ⟨g,o + j * 3,none⟩ = some (.string E1)):=J (fun W hb=>by
             have h:=HB0.out.trans (hb.mono HB0.out.size)
             exact ⟨(HXB.out W hb).c7,(h.cell (p:=⟨g,o + j * 3,none⟩) hg).trans k0⟩)
            have hbig:=HBIG.out.exports.2 x hxm
            have hb1:x.name.length ≤ 140737488355328:=hbig
            have HTK:Hid (∀ y ∈ m.exports.take (j + 1),y ∈ m.exports.take j ∨ y = x):=J (fun y hy=>by
             rw [List.take_add_one,hx] at hy
             simpa using hy)
            have hji:(j:Int) < (n7:Int):=by omega
            have hc2:=hc.2
            have hc1:=hc.1
            rw [decide_eq_true hc]
            obtain ⟨y0,y1⟩:=HALL.out wc HB.out
            have HQ1:=J hs1
            rw [← hs1] at hb1
            clear hs1 hE1
            clear hx hxm hcell hsz hg hc hbig k0
            clear m7
            have hw1:IntKind.i64.wrap ((N:Int) + (E1.size:Int)) = (N:Int) + (E1.size:Int):=IntWalk.i64_in _ ⟨by omega,by omega⟩
            go_wp2_with fail
            go_roundw
            case rel =>
             refine ⟨j + 1,N + E1.size,by omega,by go_num,by go_num,by omega,J (fun h=>⟨(HS.out (by omega)).1,fun y hy=>?_⟩),HB⟩
             rcases HTK.out y hy with hy | rfl
             ·exact (HS.out (by omega)).2 y hy
             ·exact (by have:=HQ1.out;omega)
            case measure=>simp [intOf];omega
           ·as_aux_lemma =>
             have HP:Hid (N ≤ 4000 → (((n1 + n2 + n3 + n4 + n5 + n6 + n7 + n9 + n10 + n11 ≤ 4000) ∧ ∀ x ∈ m.types,x.params.length ≤ 1000000 ∧ x.results.length ≤ 1000000) ∧ ∀ x ∈ m.imports,x.mod.length ≤ 1000000 ∧ x.name.length ≤ 1000000) ∧ ∀ x ∈ m.exports,x.name.length ≤ 1000000):=J (fun h=>by
              have hjn:j = n7:=by omega
              have hs:=HS.out h
              rw [hjn,List.take_of_length_le (by have:=HN7.out;omega)] at hs
              exact hs)
             rw [decide_eq_false hc]
             clear hc HS m7
             go_upto_region 15 with fail
             go_loopw [3,7] (fun u i wr=>∃ j N:Nat,j ≤ n6 ∧ i = .int .i64 ↑j ∧ u = .int .i64 ↑N ∧ N ≤ 4503599627370496 ∧ Hid (N ≤ 4000 → ((((n1 + n2 + n3 + n4 + n5 + n6 + n7 + n9 + n10 + n11 ≤ 4000) ∧ ∀ x ∈ m.types,x.params.length ≤ 1000000 ∧ x.results.length ≤ 1000000) ∧ ∀ x ∈ m.imports,x.mod.length ≤ 1000000 ∧ x.name.length ≤ 1000000) ∧ ∀ x ∈ m.exports,x.name.length ≤ 1000000) ∧ ∀ x ∈ m.globals.take j,Ins.many x.init ≤ 200000) ∧ Hid (Below w0.heap.size w0 wr)) (fun _ i _=>n6 - (intOf i).toNat)
             case atStart=>exact ⟨0,N,by omega,rfl,rfl,by omega,J (fun h=>⟨HP.out h,by simp⟩),HB⟩
             case round =>
              obtain ⟨j,N,hj,rfl,rfl,hN,HS,HB⟩:=hrel
              obtain ⟨m1,m2,m3,m4,m5,m6,m7,m9,m10,m11⟩:=HXB.out wr HB.out
              clear m1 m2 m3 m4 m5 m7 m9 m10 m11
              go_upto_region 15 with fail
              go_cut [134] from 126 to 134 (fun s wx=>s = .bool (decide (j < n6 ∧ N ≤ 4000)) ∧ wx = wr)
              case first =>
               by_cases q1:j < n6
               ·have q1i:(j:Int) < (n6:Int):=by omega
                by_cases q2:N ≤ 4000
                ·have q2i:(N:Int) ≤ 4000:=by omega
                 have q3:decide (j < n6 ∧ N ≤ 4000) = true:=by simp [q1,q2]
                 have HQ3:=J q3
                 clear q3
                 go_wp2_with fail
                 go_meet
                 case rel=>exact ⟨congrArg Value.bool HQ3.out.symm,rfl⟩
                ·have q2i:¬ (N:Int) ≤ 4000:=by omega
                 have q3:decide (j < n6 ∧ N ≤ 4000) = false:=by simp [q2]
                 have HQ3:=J q3
                 clear q3
                 go_wp2_with fail
                 go_meet
                 case rel=>exact ⟨congrArg Value.bool HQ3.out.symm,rfl⟩
               ·have q1i:¬ (j:Int) < (n6:Int):=by omega
                have q3:decide (j < n6 ∧ N ≤ 4000) = false:=by simp [q1]
                have HQ3:=J q3
                clear q3
                go_wp2_with fail
                go_meet
                case rel=>exact ⟨congrArg Value.bool HQ3.out.symm,rfl⟩
              case rest =>
               obtain ⟨rfl,rfl⟩:=hcut
               by_cases hc:j < n6 ∧ N ≤ 4000
               ·obtain ⟨x,hx⟩:∃ x,m.globals[j]? = some x:=⟨_,List.getElem?_eq_getElem (by rw [HN6.out];exact hc.1)⟩
                have hxm:=List.mem_of_getElem? hx
                obtain ⟨g,o,cs,hA,_,hg,hrep,hcell⟩:=HL6.out j x hx
                subst hA
                obtain ⟨_,rfl,⟨D1,d1,rfl,_,_,_,hL⟩⟩:=hrep
                have hsz:Lay.size GV = 3:=rfl
                rw [hsz] at hcell
                have k2:w.cell? ⟨g,o + j * 3 + 2,none⟩ = some (.slice D1 x.init.length d1):=hcell 2 _ rfl
                have HALL:Hid (∀ W,Below w0.heap.size w0 W → W.cell? ⟨B,5,none⟩ = some (.slice (some ⟨g,o,none⟩) n6 c6) ∧ W.cell? ⟨g,o + j * 3 + 2,none⟩ = some (.slice D1 x.init.length d1)):=J (fun W hb=>by
                 have h:=HB0.out.trans (hb.mono HB0.out.size)
                 exact ⟨(HXB.out W hb).c6,(h.cell (p:=⟨g,o + j * 3 + 2,none⟩) hg).trans k2⟩)
                have hbig:=HBIG.out.globals.2 x hxm
                have hb1:bigE x.init:=hbig
                have HC:=J (fun W (hb:Below w0.heap.size w0 W)=>bT (· < w.heap.size) D1 x.init _ d1 W (hL.mod (T:=fun _=>False) (Mod.of_below (HB0.out.trans (hb.mono HB0.out.size))) (fun _ _ _ h=>h)) rfl hb1.1 hb1.2)
                have HTK:Hid (∀ y ∈ m.globals.take (j + 1),y ∈ m.globals.take j ∨ y = x):=J (fun y hy=>by
                 rw [List.take_add_one,hx] at hy
                 simpa using hy)
                have hji:(j:Int) < (n6:Int):=by omega
                have hc2:=hc.2
                have hc1:=hc.1
                rw [decide_eq_true hc]
                obtain ⟨y0,y3⟩:=HALL.out wc HB.out
                obtain ⟨q1,hq1⟩:∃ q,x.init.length = q:=⟨_,rfl⟩
                rw [hq1] at y3 HALL HC
                have HQ1:=J hq1
                clear hq1
                clear hx hxm hcell hsz hg hc hbig k2 hb1 hL
                clear m6
                go_wp2_with (go_at_call 22;refine (HC.out _ HB.out).mono ?_;rintro e w2 ⟨N2,rfl,hn2,hh,hbl⟩;have HH:=J hh;have HB2:=J (HB.out.trans (hbl.mono HB.out.size));clear hh hbl;have hw1:IntKind.i64.wrap ((N:Int) + (N2:Int)) = (N:Int) + (N2:Int):=IntWalk.i64_in _ ⟨by omega,by omega⟩)
                go_roundw
                case rel =>
                 refine ⟨j + 1,N + N2,by omega,by go_num,by go_num,by omega,J (fun h=>⟨(HS.out (by omega)).1,fun y hy=>?_⟩),HB2⟩
                 rcases HTK.out y hy with hy | rfl
                 ·exact (HS.out (by omega)).2 y hy
                 ·exact (by have:=HH.out (by omega);omega)
                case measure=>simp [intOf];omega
               ·as_aux_lemma =>
                 have HP:Hid (N ≤ 4000 → ((((n1 + n2 + n3 + n4 + n5 + n6 + n7 + n9 + n10 + n11 ≤ 4000) ∧ ∀ x ∈ m.types,x.params.length ≤ 1000000 ∧ x.results.length ≤ 1000000) ∧ ∀ x ∈ m.imports,x.mod.length ≤ 1000000 ∧ x.name.length ≤ 1000000) ∧ ∀ x ∈ m.exports,x.name.length ≤ 1000000) ∧ ∀ x ∈ m.globals,Ins.many x.init ≤ 200000):=J (fun h=>by
                  have hjn:j = n6:=by omega
                  have hs:=HS.out h
                  rw [hjn,List.take_of_length_le (by have:=HN6.out;omega)] at hs
                  exact hs)
                 rw [decide_eq_false hc]
                 clear hc HS m6
                 go_upto_region 19 with fail
                 go_loopw [3,8] (fun u i wr=>∃ j N:Nat,j ≤ n9 ∧ i = .int .i64 ↑j ∧ u = .int .i64 ↑N ∧ N ≤ 4503599627370496 ∧ Hid (N ≤ 4000 → (((((n1 + n2 + n3 + n4 + n5 + n6 + n7 + n9 + n10 + n11 ≤ 4000) ∧ ∀ x ∈ m.types,x.params.length ≤ 1000000 ∧ x.results.length ≤ 1000000) ∧ ∀ x ∈ m.imports,x.mod.length ≤ 1000000 ∧ x.name.length ≤ 1000000) ∧ ∀ x ∈ m.exports,x.name.length ≤ 1000000) ∧ ∀ x ∈ m.globals,Ins.many x.init ≤ 200000) ∧ ∀ x ∈ m.elems.take j,Ins.many x.off ≤ 200000 ∧ x.funcs.length ≤ 100000) ∧ Hid (Below w0.heap.size w0 wr)) (fun _ i _=>n9 - (intOf i).toNat)
                 case atStart=>exact ⟨0,N,by omega,rfl,rfl,by omega,J (fun h=>⟨HP.out h,by simp⟩),HB⟩
                 case round =>
                  obtain ⟨j,N,hj,rfl,rfl,hN,HS,HB⟩:=hrel
                  obtain ⟨m1,m2,m3,m4,m5,m6,m7,m9,m10,m11⟩:=HXB.out wr HB.out
                  clear m1 m2 m3 m4 m5 m6 m7 m10 m11
                  go_upto_region 19 with fail
                  go_cut [154] from 146 to 154 (fun s wx=>s = .bool (decide (j < n9 ∧ N ≤ 4000)) ∧ wx = wr)
                  case first =>
                   by_cases q1:j < n9
                   ·have q1i:(j:Int) < (n9:Int):=by omega
                    by_cases q2:N ≤ 4000
                    ·have q2i:(N:Int) ≤ 4000:=by omega
                     have q3:decide (j < n9 ∧ N ≤ 4000) = true:=by simp [q1,q2]
                     have HQ3:=J q3
                     clear q3
                     go_wp2_with fail
                     go_meet
                     case rel=>exact ⟨congrArg Value.bool HQ3.out.symm,rfl⟩
                    ·have q2i:¬ (N:Int) ≤ 4000:=by omega
                     have q3:decide (j < n9 ∧ N ≤ 4000) = false:=by simp [q2]
                     have HQ3:=J q3
                     clear q3
                     go_wp2_with fail
                     go_meet
                     case rel=>exact ⟨congrArg Value.bool HQ3.out.symm,rfl⟩
                   ·have q1i:¬ (j:Int) < (n9:Int):=by omega
                    have q3:decide (j < n9 ∧ N ≤ 4000) = false:=by simp [q1]
                    have HQ3:=J q3
                    clear q3
                    go_wp2_with fail
                    go_meet
                    case rel=>exact ⟨congrArg Value.bool HQ3.out.symm,rfl⟩
                  case rest =>
                   obtain ⟨rfl,rfl⟩:=hcut
                   by_cases hc:j < n9 ∧ N ≤ 4000
                   ·obtain ⟨x,hx⟩:∃ x,m.elems[j]? = some x:=⟨_,List.getElem?_eq_getElem (by rw [HN9.out];exact hc.1)⟩
                    have hxm:=List.mem_of_getElem? hx
                    obtain ⟨g,o,cs,hA,_,hg,hrep,hcell⟩:=HL9.out j x hx
                    subst hA
                    obtain ⟨_,_,rfl,_,⟨D1,d1,rfl,_,_,_,hL⟩,⟨D2,d2,rfl,_,_,_,_⟩⟩:=hrep
                    have hsz:Lay.size El = 3:=rfl
                    rw [hsz] at hcell
                    have k1:w.cell? ⟨g,o + j * 3 + 1,none⟩ = some (.slice D1 x.off.length d1):=hcell 1 _ rfl
                    have k2:w.cell? ⟨g,o + j * 3 + 2,none⟩ = some (.slice D2 x.funcs.length d2):=hcell 2 _ rfl
                    have HALL:Hid (∀ W,Below w0.heap.size w0 W → W.cell? ⟨B,9,none⟩ = some (.slice (some ⟨g,o,none⟩) n9 c9) ∧ W.cell? ⟨g,o + j * 3 + 1,none⟩ = some (.slice D1 x.off.length d1) ∧ W.cell? ⟨g,o + j * 3 + 2,none⟩ = some (.slice D2 x.funcs.length d2)):=J (fun W hb=>by
                     have h:=HB0.out.trans (hb.mono HB0.out.size)
                     exact ⟨(HXB.out W hb).c9,(h.cell (p:=⟨g,o + j * 3 + 1,none⟩) hg).trans k1,(h.cell (p:=⟨g,o + j * 3 + 2,none⟩) hg).trans k2⟩)
                    have hbig:=HBIG.out.elems.2 x hxm
                    have hb0:bigE x.off ∧ x.funcs.length ≤ most:=hbig
                    have hb1:=hb0.1
                    have hb2:x.funcs.length ≤ 140737488355328:=hb0.2
                    have HC:=J (fun W (hb:Below w0.heap.size w0 W)=>bT (· < w.heap.size) D1 x.off _ d1 W (hL.mod (T:=fun _=>False) (Mod.of_below (HB0.out.trans (hb.mono HB0.out.size))) (fun _ _ _ h=>h)) rfl hb1.1 hb1.2)
                    have HTK:Hid (∀ y ∈ m.elems.take (j + 1),y ∈ m.elems.take j ∨ y = x):=J (fun y hy=>by
                     rw [List.take_add_one,hx] at hy
                     simpa using hy)
                    have hji:(j:Int) < (n9:Int):=by omega
                    have hc2:=hc.2
                    have hc1:=hc.1
                    rw [decide_eq_true hc]
                    obtain ⟨y0,y2,y3⟩:=HALL.out wc HB.out
                    obtain ⟨q1,hq1⟩:∃ q,x.off.length = q:=⟨_,rfl⟩
                    obtain ⟨q2,hq2⟩:∃ q,x.funcs.length = q:=⟨_,rfl⟩
                    rw [hq1] at y2 HALL HC
                    have HQ1:=J hq1
                    clear hq1
                    rw [hq2] at y3 HALL hb2
                    have HQ2:=J hq2
                    clear hq2
                    clear hx hxm hcell hsz hg hc hbig k1 k2 hb0 hb1 hL
                    clear m9
                    have HBD:Hid (Below w0.heap.size w0 wc.drew):=J HB.out.drew
                    go_upto_region 21 with fail
                    refine wp_region_held_drew (S:=(fun W=>W.cell? ⟨B,9,none⟩ = some (.slice (some ⟨g,o,none⟩) n9 c9) ∧ W.cell? ⟨g,o + j * 3 + 1,none⟩ = some (.slice D1 q1 d1) ∧ W.cell? ⟨g,o + j * 3 + 2,none⟩ = some (.slice D2 q2 d2))) (by kernel_rfl) (HALL.out _ HBD.out) (fun hHeld=>?_)
                    refine dW 0 rfl ?_
                    refine dW 1 rfl ?_
                    refine dh1 2 rfl ?_
                    refine dW 3 rfl ?_
                    refine dW 4 rfl ?_
                    refine dW 5 rfl ?_
                    refine dh1 6 rfl ?_
                    refine dW 9 rfl ?_
                    refine dh1 10 rfl ?_
                    refine dW 11 rfl ?_
                    refine dW 12 rfl ?_
                    refine dW 13 rfl ?_
                    refine dh1 14 rfl ?_
                    refine dW 15 rfl ?_
                    refine dA 7 rfl fun K hK=>?_
                    go_simp
                    go_at_call 22
                    refine (HC.out _ HBD.out).mono ?_
                    rintro e w2 ⟨N2,rfl,hn2,hh,hbl⟩
                    have HH:=J hh
                    have HB2:=J (HBD.out.trans (hbl.mono HBD.out.size))
                    clear hh hbl
                    refine hK.out _ _ (HALL.out _ HB2.out) fun hHeld=>?_
                    clear hK K
                    try simp only [Act.put,O]
                    have hw1:IntKind.i64.wrap ((N:Int) + (N2:Int)) = (N:Int) + (N2:Int):=IntWalk.i64_in _ ⟨by omega,by omega⟩
                    have hw2:IntKind.i64.wrap ((N:Int) + (N2:Int) + (q2:Int)) = (N:Int) + (N2:Int) + (q2:Int):=IntWalk.i64_in _ ⟨by omega,by omega⟩
                    refine dW 8 rfl ?_
                    refine dW 16 rfl ?_
                    refine dW 17 rfl ?_
                    refine dN ?_
                    clear hHeld
                    go_wp2_with fail
                    go_roundw
                    case rel =>
                     refine ⟨j + 1,N + N2 + q2,by omega,by go_num,by go_num,by omega,J (fun h=>⟨(HS.out (by omega)).1,fun y hy=>?_⟩),HB2⟩
                     rcases HTK.out y hy with hy | rfl
                     ·exact (HS.out (by omega)).2 y hy
                     ·exact ⟨by have:=HH.out (by omega);omega,by have:=HQ2.out;omega⟩
                    case measure=>simp [intOf];omega
                   ·as_aux_lemma =>
                     have HP:Hid (N ≤ 4000 → (((((n1 + n2 + n3 + n4 + n5 + n6 + n7 + n9 + n10 + n11 ≤ 4000) ∧ ∀ x ∈ m.types,x.params.length ≤ 1000000 ∧ x.results.length ≤ 1000000) ∧ ∀ x ∈ m.imports,x.mod.length ≤ 1000000 ∧ x.name.length ≤ 1000000) ∧ ∀ x ∈ m.exports,x.name.length ≤ 1000000) ∧ ∀ x ∈ m.globals,Ins.many x.init ≤ 200000) ∧ ∀ x ∈ m.elems,Ins.many x.off ≤ 200000 ∧ x.funcs.length ≤ 100000):=J (fun h=>by
                      have hjn:j = n9:=by omega
                      have hs:=HS.out h
                      rw [hjn,List.take_of_length_le (by have:=HN9.out;omega)] at hs
                      exact hs)
                     rw [decide_eq_false hc]
                     clear hc HS m9
                     go_upto_region 23 with fail
                     go_loopw [3,9] (fun u i wr=>∃ j N:Nat,j ≤ n10 ∧ i = .int .i64 ↑j ∧ u = .int .i64 ↑N ∧ N ≤ 4503599627370496 ∧ Hid (N ≤ 4000 → ((((((n1 + n2 + n3 + n4 + n5 + n6 + n7 + n9 + n10 + n11 ≤ 4000) ∧ ∀ x ∈ m.types,x.params.length ≤ 1000000 ∧ x.results.length ≤ 1000000) ∧ ∀ x ∈ m.imports,x.mod.length ≤ 1000000 ∧ x.name.length ≤ 1000000) ∧ ∀ x ∈ m.exports,x.name.length ≤ 1000000) ∧ ∀ x ∈ m.globals,Ins.many x.init ≤ 200000) ∧ ∀ x ∈ m.elems,Ins.many x.off ≤ 200000 ∧ x.funcs.length ≤ 100000) ∧ ∀ x ∈ m.codes.take j,x.locals.length ≤ 100000 ∧ Ins.many x.body ≤ 200000) ∧ Hid (Below w0.heap.size w0 wr)) (fun _ i _=>n10 - (intOf i).toNat)
                     case atStart=>exact ⟨0,N,by omega,rfl,rfl,by omega,J (fun h=>⟨HP.out h,by simp⟩),HB⟩
                     case round =>
                      obtain ⟨j,N,hj,rfl,rfl,hN,HS,HB⟩:=hrel
                      obtain ⟨m1,m2,m3,m4,m5,m6,m7,m9,m10,m11⟩:=HXB.out wr HB.out
                      clear m1 m2 m3 m4 m5 m6 m7 m9 m11
                      go_upto_region 23 with fail
                      go_cut [182] from 174 to 182 (fun s wx=>s = .bool (decide (j < n10 ∧ N ≤ 4000)) ∧ wx = wr)
                      case first =>
                       by_cases q1:j < n10
                       ·have q1i:(j:Int) < (n10:Int):=by omega
                        by_cases q2:N ≤ 4000
                        ·have q2i:(N:Int) ≤ 4000:=by omega
                         have q3:decide (j < n10 ∧ N ≤ 4000) = true:=by simp [q1,q2]
                         have HQ3:=J q3
                         clear q3
                         go_wp2_with fail
                         go_meet
                         case rel=>exact ⟨congrArg Value.bool HQ3.out.symm,rfl⟩
                        ·have q2i:¬ (N:Int) ≤ 4000:=by omega
                         have q3:decide (j < n10 ∧ N ≤ 4000) = false:=by simp [q2]
                         have HQ3:=J q3
                         clear q3
                         go_wp2_with fail
                         go_meet
                         case rel=>exact ⟨congrArg Value.bool HQ3.out.symm,rfl⟩
                       ·have q1i:¬ (j:Int) < (n10:Int):=by omega
                        have q3:decide (j < n10 ∧ N ≤ 4000) = false:=by simp [q1]
                        have HQ3:=J q3
                        clear q3
                        go_wp2_with fail
                        go_meet
                        case rel=>exact ⟨congrArg Value.bool HQ3.out.symm,rfl⟩
                      case rest =>
                       obtain ⟨rfl,rfl⟩:=hcut
                       by_cases hc:j < n10 ∧ N ≤ 4000
                       ·obtain ⟨x,hx⟩:∃ x,m.codes[j]? = some x:=⟨_,List.getElem?_eq_getElem (by rw [HN10.out];exact hc.1)⟩
                        have hxm:=List.mem_of_getElem? hx
                        obtain ⟨g,o,cs,hA,_,hg,hrep,hcell⟩:=HL10.out j x hx
                        subst hA
                        obtain ⟨_,_,rfl,⟨D2,d2,rfl,_,_,_,_⟩,⟨D1,d1,rfl,_,_,_,hL⟩⟩:=hrep
                        have hsz:Lay.size Cd = 2:=rfl
                        rw [hsz] at hcell
                        have k0:w.cell? ⟨g,o + j * 2,none⟩ = some (.slice D2 x.locals.length d2):=hcell 0 _ rfl
                        have k1:w.cell? ⟨g,o + j * 2 + 1,none⟩ = some (.slice D1 x.body.length d1):=hcell 1 _ rfl
                        have HALL:Hid (∀ W,Below w0.heap.size w0 W → W.cell? ⟨B,10,none⟩ = some (.slice (some ⟨g,o,none⟩) n10 c10) ∧ W.cell? ⟨g,o + j * 2,none⟩ = some (.slice D2 x.locals.length d2) ∧ W.cell? ⟨g,o + j * 2 + 1,none⟩ = some (.slice D1 x.body.length d1)):=J (fun W hb=>by
                         have h:=HB0.out.trans (hb.mono HB0.out.size)
                         exact ⟨(HXB.out W hb).c10,(h.cell (p:=⟨g,o + j * 2,none⟩) hg).trans k0,(h.cell (p:=⟨g,o + j * 2 + 1,none⟩) hg).trans k1⟩)
                        have hbig:=HBIG.out.codes.2 x hxm
                        have hb0:x.locals.length ≤ most ∧ bigE x.body:=hbig
                        have hb1:=hb0.2
                        have hb2:x.locals.length ≤ 140737488355328:=hb0.1
                        have HC:=J (fun W (hb:Below w0.heap.size w0 W)=>bT (· < w.heap.size) D1 x.body _ d1 W (hL.mod (T:=fun _=>False) (Mod.of_below (HB0.out.trans (hb.mono HB0.out.size))) (fun _ _ _ h=>h)) rfl hb1.1 hb1.2)
                        have HTK:Hid (∀ y ∈ m.codes.take (j + 1),y ∈ m.codes.take j ∨ y = x):=J (fun y hy=>by
                         rw [List.take_add_one,hx] at hy
                         simpa using hy)
                        have hji:(j:Int) < (n10:Int):=by omega
                        have hc2:=hc.2
                        have hc1:=hc.1
                        rw [decide_eq_true hc]
                        obtain ⟨y0,y1,y2⟩:=HALL.out wc HB.out
                        obtain ⟨q1,hq1⟩:∃ q,x.body.length = q:=⟨_,rfl⟩
                        obtain ⟨q2,hq2⟩:∃ q,x.locals.length = q:=⟨_,rfl⟩
                        rw [hq1] at y2 HALL HC
                        have HQ1:=J hq1
                        clear hq1
                        rw [hq2] at y1 HALL hb2
                        have HQ2:=J hq2
                        clear hq2
                        clear hx hxm hcell hsz hg hc hbig k1 k0 hb0 hb1 hL
                        clear m10
                        have HBD:Hid (Below w0.heap.size w0 wc.drew):=J HB.out.drew
                        go_upto_region 25 with fail
                        refine wp_region_held_drew (S:=(fun W=>W.cell? ⟨B,10,none⟩ = some (.slice (some ⟨g,o,none⟩) n10 c10) ∧ W.cell? ⟨g,o + j * 2,none⟩ = some (.slice D2 q2 d2) ∧ W.cell? ⟨g,o + j * 2 + 1,none⟩ = some (.slice D1 q1 d1))) (by kernel_rfl) (HALL.out _ HBD.out) (fun hHeld=>?_)
                        refine dW 0 rfl ?_
                        refine dW 1 rfl ?_
                        refine dh1 2 rfl ?_
                        refine dW 3 rfl ?_
                        refine dW 4 rfl ?_
                        refine dW 5 rfl ?_
                        refine dh1 6 rfl ?_
                        refine dW 9 rfl ?_
                        refine dh1 10 rfl ?_
                        refine dW 11 rfl ?_
                        refine dW 12 rfl ?_
                        refine dW 13 rfl ?_
                        refine dh1 14 rfl ?_
                        refine dW 15 rfl ?_
                        refine dA 7 rfl fun K hK=>?_
                        go_simp
                        go_at_call 22
                        refine (HC.out _ HBD.out).mono ?_
                        rintro e w2 ⟨N2,rfl,hn2,hh,hbl⟩
                        have HH:=J hh
                        have HB2:=J (HBD.out.trans (hbl.mono HBD.out.size))
                        clear hh hbl
                        refine hK.out _ _ (HALL.out _ HB2.out) fun hHeld=>?_
                        clear hK K
                        try simp only [Act.put,O]
                        have hw1:IntKind.i64.wrap ((N:Int) + (N2:Int)) = (N:Int) + (N2:Int):=IntWalk.i64_in _ ⟨by omega,by omega⟩
                        have hw2:IntKind.i64.wrap ((N:Int) + (N2:Int) + (q2:Int)) = (N:Int) + (N2:Int) + (q2:Int):=IntWalk.i64_in _ ⟨by omega,by omega⟩
                        refine dW 8 rfl ?_
                        refine dW 16 rfl ?_
                        refine dW 17 rfl ?_
                        refine dN ?_
                        clear hHeld
                        go_wp2_with fail
                        go_roundw
                        case rel =>
                         refine ⟨j + 1,N + N2 + q2,by omega,by go_num,by go_num,by omega,J (fun h=>⟨(HS.out (by omega)).1,fun y hy=>?_⟩),HB2⟩
                         rcases HTK.out y hy with hy | rfl
                         ·exact (HS.out (by omega)).2 y hy
                         ·exact ⟨by have:=HQ2.out;omega,by have:=HH.out (by omega);omega⟩
                        case measure=>simp [intOf];omega
                       ·as_aux_lemma =>
                         have HP:Hid (N ≤ 4000 → ((((((n1 + n2 + n3 + n4 + n5 + n6 + n7 + n9 + n10 + n11 ≤ 4000) ∧ ∀ x ∈ m.types,x.params.length ≤ 1000000 ∧ x.results.length ≤ 1000000) ∧ ∀ x ∈ m.imports,x.mod.length ≤ 1000000 ∧ x.name.length ≤ 1000000) ∧ ∀ x ∈ m.exports,x.name.length ≤ 1000000) ∧ ∀ x ∈ m.globals,Ins.many x.init ≤ 200000) ∧ ∀ x ∈ m.elems,Ins.many x.off ≤ 200000 ∧ x.funcs.length ≤ 100000) ∧ ∀ x ∈ m.codes,x.locals.length ≤ 100000 ∧ Ins.many x.body ≤ 200000):=J (fun h=>by
                          have hjn:j = n10:=by omega
                          have hs:=HS.out h
                          rw [hjn,List.take_of_length_le (by have:=HN10.out;omega)] at hs
                          exact hs)
                         rw [decide_eq_false hc]
                         clear hc HS m10
                         go_upto_region 27 with fail
                         go_loopw [3,10] (fun u i wr=>∃ j N:Nat,j ≤ n11 ∧ i = .int .i64 ↑j ∧ u = .int .i64 ↑N ∧ N ≤ 4503599627370496 ∧ Hid (N ≤ 4000 → (((((((n1 + n2 + n3 + n4 + n5 + n6 + n7 + n9 + n10 + n11 ≤ 4000) ∧ ∀ x ∈ m.types,x.params.length ≤ 1000000 ∧ x.results.length ≤ 1000000) ∧ ∀ x ∈ m.imports,x.mod.length ≤ 1000000 ∧ x.name.length ≤ 1000000) ∧ ∀ x ∈ m.exports,x.name.length ≤ 1000000) ∧ ∀ x ∈ m.globals,Ins.many x.init ≤ 200000) ∧ ∀ x ∈ m.elems,Ins.many x.off ≤ 200000 ∧ x.funcs.length ≤ 100000) ∧ ∀ x ∈ m.codes,x.locals.length ≤ 100000 ∧ Ins.many x.body ≤ 200000) ∧ ∀ x ∈ m.datas.take j,Ins.many x.off ≤ 200000 ∧ x.b.length ≤ 1000000) ∧ Hid (Below w0.heap.size w0 wr)) (fun _ i _=>n11 - (intOf i).toNat)
                         case atStart=>exact ⟨0,N,by omega,rfl,rfl,by omega,J (fun h=>⟨HP.out h,by simp⟩),HB⟩
                         case round =>
                          obtain ⟨j,N,hj,rfl,rfl,hN,HS,HB⟩:=hrel
                          obtain ⟨m1,m2,m3,m4,m5,m6,m7,m9,m10,m11⟩:=HXB.out wr HB.out
                          clear m1 m2 m3 m4 m5 m6 m7 m9 m10
                          go_upto_region 27 with fail
                          go_cut [210] from 202 to 210 (fun s wx=>s = .bool (decide (j < n11 ∧ N ≤ 4000)) ∧ wx = wr)
                          case first =>
                           by_cases q1:j < n11
                           ·have q1i:(j:Int) < (n11:Int):=by omega
                            by_cases q2:N ≤ 4000
                            ·have q2i:(N:Int) ≤ 4000:=by omega
                             have q3:decide (j < n11 ∧ N ≤ 4000) = true:=by simp [q1,q2]
                             have HQ3:=J q3
                             clear q3
                             go_wp2_with fail
                             go_meet
                             case rel=>exact ⟨congrArg Value.bool HQ3.out.symm,rfl⟩
                            ·have q2i:¬ (N:Int) ≤ 4000:=by omega
                             have q3:decide (j < n11 ∧ N ≤ 4000) = false:=by simp [q2]
                             have HQ3:=J q3
                             clear q3
                             go_wp2_with fail
                             go_meet
                             case rel=>exact ⟨congrArg Value.bool HQ3.out.symm,rfl⟩
                           ·have q1i:¬ (j:Int) < (n11:Int):=by omega
                            have q3:decide (j < n11 ∧ N ≤ 4000) = false:=by simp [q1]
                            have HQ3:=J q3
                            clear q3
                            go_wp2_with fail
                            go_meet
                            case rel=>exact ⟨congrArg Value.bool HQ3.out.symm,rfl⟩
                          case rest =>
                           obtain ⟨rfl,rfl⟩:=hcut
                           by_cases hc:j < n11 ∧ N ≤ 4000
                           ·obtain ⟨x,hx⟩:∃ x,m.datas[j]? = some x:=⟨_,List.getElem?_eq_getElem (by rw [HN11.out];exact hc.1)⟩
                            have hxm:=List.mem_of_getElem? hx
                            obtain ⟨g,o,cs,hA,_,hg,hrep,hcell⟩:=HL11.out j x hx
                            subst hA
                            obtain ⟨_,_,rfl,_,⟨D1,d1,rfl,_,_,_,hL⟩,⟨D2,d2,rfl,_,_,_,_⟩⟩:=hrep
                            have hsz:Lay.size Da = 3:=rfl
                            rw [hsz] at hcell
                            have k1:w.cell? ⟨g,o + j * 3 + 1,none⟩ = some (.slice D1 x.off.length d1):=hcell 1 _ rfl
                            have k2:w.cell? ⟨g,o + j * 3 + 2,none⟩ = some (.slice D2 x.b.length d2):=hcell 2 _ rfl
                            have HALL:Hid (∀ W,Below w0.heap.size w0 W → W.cell? ⟨B,11,none⟩ = some (.slice (some ⟨g,o,none⟩) n11 c11) ∧ W.cell? ⟨g,o + j * 3 + 1,none⟩ = some (.slice D1 x.off.length d1) ∧ W.cell? ⟨g,o + j * 3 + 2,none⟩ = some (.slice D2 x.b.length d2)):=J (fun W hb=>by
                             have h:=HB0.out.trans (hb.mono HB0.out.size)
                             exact ⟨(HXB.out W hb).c11,(h.cell (p:=⟨g,o + j * 3 + 1,none⟩) hg).trans k1,(h.cell (p:=⟨g,o + j * 3 + 2,none⟩) hg).trans k2⟩)
                            have hbig:=HBIG.out.datas.2 x hxm
                            have hb0:bigE x.off ∧ x.b.length ≤ most:=hbig
                            have hb1:=hb0.1
                            have hb2:x.b.length ≤ 140737488355328:=hb0.2
                            have HC:=J (fun W (hb:Below w0.heap.size w0 W)=>bT (· < w.heap.size) D1 x.off _ d1 W (hL.mod (T:=fun _=>False) (Mod.of_below (HB0.out.trans (hb.mono HB0.out.size))) (fun _ _ _ h=>h)) rfl hb1.1 hb1.2)
                            have HTK:Hid (∀ y ∈ m.datas.take (j + 1),y ∈ m.datas.take j ∨ y = x):=J (fun y hy=>by
                             rw [List.take_add_one,hx] at hy
                             simpa using hy)
                            have hji:(j:Int) < (n11:Int):=by omega
                            have hc2:=hc.2
                            have hc1:=hc.1
                            rw [decide_eq_true hc]
                            obtain ⟨y0,y2,y3⟩:=HALL.out wc HB.out
                            obtain ⟨q1,hq1⟩:∃ q,x.off.length = q:=⟨_,rfl⟩
                            obtain ⟨q2,hq2⟩:∃ q,x.b.length = q:=⟨_,rfl⟩
                            rw [hq1] at y2 HALL HC
                            have HQ1:=J hq1
                            clear hq1
                            rw [hq2] at y3 HALL hb2
                            have HQ2:=J hq2
                            clear hq2
                            clear hx hxm hcell hsz hg hc hbig k1 k2 hb0 hb1 hL
                            clear m11
                            have HBD:Hid (Below w0.heap.size w0 wc.drew):=J HB.out.drew
                            go_upto_region 29 with fail
                            refine wp_region_held_drew (S:=(fun W=>W.cell? ⟨B,11,none⟩ = some (.slice (some ⟨g,o,none⟩) n11 c11) ∧ W.cell? ⟨g,o + j * 3 + 1,none⟩ = some (.slice D1 q1 d1) ∧ W.cell? ⟨g,o + j * 3 + 2,none⟩ = some (.slice D2 q2 d2))) (by kernel_rfl) (HALL.out _ HBD.out) (fun hHeld=>?_)
                            refine dW 0 rfl ?_
                            refine dW 1 rfl ?_
                            refine dh1 2 rfl ?_
                            refine dW 3 rfl ?_
                            refine dW 4 rfl ?_
                            refine dW 5 rfl ?_
                            refine dh1 6 rfl ?_
                            refine dW 9 rfl ?_
                            refine dh1 10 rfl ?_
                            refine dW 11 rfl ?_
                            refine dW 12 rfl ?_
                            refine dW 13 rfl ?_
                            refine dh1 14 rfl ?_
                            refine dW 15 rfl ?_
                            refine dW 16 rfl ?_
                            refine dA 7 rfl fun K hK=>?_
                            go_simp
                            go_at_call 22
                            refine (HC.out _ HBD.out).mono ?_
                            rintro e w2 ⟨N2,rfl,hn2,hh,hbl⟩
                            have HH:=J hh
                            have HB2:=J (HBD.out.trans (hbl.mono HBD.out.size))
                            clear hh hbl
                            refine hK.out _ _ (HALL.out _ HB2.out) fun hHeld=>?_
                            clear hK K
                            try simp only [Act.put,O]
                            have hwq:IntKind.i64.wrap ((q2:Int) / 32) = (q2:Int) / 32:=IntWalk.i64_in _ ⟨by omega,by omega⟩
                            have hw1:IntKind.i64.wrap ((N:Int) + (N2:Int)) = (N:Int) + (N2:Int):=IntWalk.i64_in _ ⟨by omega,by omega⟩
                            have hw2:IntKind.i64.wrap ((N:Int) + (N2:Int) + (q2:Int) / 32) = (N:Int) + (N2:Int) + (q2:Int) / 32:=IntWalk.i64_in _ ⟨by omega,by omega⟩
                            refine dW 8 rfl ?_
                            refine dW 17 rfl ?_
                            refine dW 18 rfl ?_
                            refine dN ?_
                            clear hHeld
                            go_wp2_with fail
                            go_roundw
                            case rel =>
                             refine ⟨j + 1,N + N2 + q2 / 32,by omega,by go_num,by first | go_num | (simp only [hwq,hw2];go_num) | (rw [hwq];go_num),by omega,J (fun h=>⟨(HS.out (by omega)).1,fun y hy=>?_⟩),HB2⟩
                             rcases HTK.out y hy with hy | rfl
                             ·exact (HS.out (by omega)).2 y hy
                             ·exact ⟨by have:=HH.out (by omega);omega,by have:=HQ2.out;omega⟩
                            case measure=>simp [intOf];omega
                           ·as_aux_lemma =>
                             have HP:Hid (N ≤ 4000 → (((((((n1 + n2 + n3 + n4 + n5 + n6 + n7 + n9 + n10 + n11 ≤ 4000) ∧ ∀ x ∈ m.types,x.params.length ≤ 1000000 ∧ x.results.length ≤ 1000000) ∧ ∀ x ∈ m.imports,x.mod.length ≤ 1000000 ∧ x.name.length ≤ 1000000) ∧ ∀ x ∈ m.exports,x.name.length ≤ 1000000) ∧ ∀ x ∈ m.globals,Ins.many x.init ≤ 200000) ∧ ∀ x ∈ m.elems,Ins.many x.off ≤ 200000 ∧ x.funcs.length ≤ 100000) ∧ ∀ x ∈ m.codes,x.locals.length ≤ 100000 ∧ Ins.many x.body ≤ 200000) ∧ ∀ x ∈ m.datas,Ins.many x.off ≤ 200000 ∧ x.b.length ≤ 1000000):=J (fun h=>by
                              have hjn:j = n11:=by omega
                              have hs:=HS.out h
                              rw [hjn,List.take_of_length_le (by have:=HN11.out;omega)] at hs
                              exact hs)
                             rw [decide_eq_false hc]
                             clear hc HS m11
                             by_cases hg:N ≤ 4000
                             ·have hgi:¬ (4000:Int) < (N:Int):=by omega
                              have HSM:=J (HFIN.out (HP.out hg))
                              clear HP
                              go_wp2_with fail
                              go_ret
                              first | exact ⟨false,rfl,HB0.out.trans (HB.out.mono HB0.out.size),fun _=>HSM.out⟩ | exact .inl ⟨rfl,HB0.out.trans (HB.out.mono HB0.out.size),HSM.out⟩
                             ·have hgi:(4000:Int) < (N:Int):=by omega
                              clear HP
                              go_wp2_with fail
                              go_ret
                              first | exact ⟨true,rfl,HB0.out.trans (HB.out.mono HB0.out.size),fun h=>by cases h⟩ | exact .inr ⟨rfl,HB0.out.trans (HB.out.mono HB0.out.size)⟩
end Go.Proofs.YtmpelmihdpomjaaGreat
