/-
  Layer 8's program: a module's space in memory; Of. (gen/space/of4.py)
-/
import Derived.Test.YtmpelmihdpomjaaGreatSo01
import Derived.Test.YtmpelmihdpomjaaGreatSo24
import Derived.Test.YtmpelmihdpomjaaGreatSo06
import Derived.Deep.Cut
set_option maxRecDepth 100000
set_option maxHeartbeats 4000000
namespace Go.Proofs.YtmpelmihdpomjaaGreat
open Go.RowKit Ins Bin Sp
def aC (w:World) (P:Nat) (m:M):Prop :=
 ∃ A1 d1 A2 d2 A3 d3 A4 d4 A5 d5 A6 d6,w.heap[P]? = some (.cells #[.slice A1 m.types.length d1,.slice A2 (funs m).length d2,.int .i64 ((imps m 0).length:Int),.slice A3 (tabs m).length d3,.int .i64 ((imps m 1).length:Int),.slice A4 (mems m).length d4,.int .i64 ((imps m 2).length:Int),.slice A5 (globs m).length d5,.int .i64 ((imps m 3).length:Int),.slice A6 m.exports.length d6] 116 (0,0)) ∧
  aa w (· < w.heap.size) m.types (.slice A1 m.types.length d1) ∧ aa w (· < w.heap.size) (funs m) (.slice A2 (funs m).length d2) ∧ aa w (· < w.heap.size) (tabs m) (.slice A3 (tabs m).length d3) ∧ aa w (· < w.heap.size) (mems m) (.slice A4 (mems m).length d4) ∧ aa w (· < w.heap.size) (globs m) (.slice A5 (globs m).length d5) ∧ aa w (· < w.heap.size) m.exports (.slice A6 m.exports.length d6)
theorem aC.grow {w w':World} {P:Nat} {m:M} (h:aC w P m) (hb:Below w.heap.size w w'):aC w' P m:=by
 obtain ⟨A1,d1,A2,d2,A3,d3,A4,d4,A5,d5,A6,d6,h0,h1,h2,h3,h4,h5,h6⟩:=h
 exact ⟨A1,d1,A2,d2,A3,d3,A4,d4,A5,d5,A6,d6,(hb.block P (gL h0)).trans h0,h1.grow hb,h2.grow hb,h3.grow hb,h4.grow hb,h5.grow hb,h6.grow hb⟩
theorem sofL_any (m:M) (v1 v2 v3 v4 v5 v6 v7 v8 v9 v10:Value) (w:World) (hM:RepM w (· < w.heap.size) m v1 v2 v3 v4 v5 v6 v7 v8 v9 v10) (hF:Lots m) :
  Calls Tryz.prog 18 #[.agg (modCells m v1 v2 v3 v4 v5 v6 v7 v8 v9 v10)] w fun e w'=>∃ P,e = .returned (.pointer (some ⟨P,0,none⟩)) ∧ aC w' P m ∧ Below w.heap.size w w':=by
 obtain ⟨r0,hr0⟩:∃ r,(funs m).length = r:=⟨_,rfl⟩
 obtain ⟨q0,hq0⟩:∃ r,(imps m 0).length = r:=⟨_,rfl⟩
 have HR0:Hid (∀ W,Below w.heap.size w W → Calls Tryz.prog 38 #[v2,.int .u8 0,.func (.func 39) #[] #[],v3] W fun e w'=>∃ A c,e = .returned (.agg #[.slice A r0 c,.int .i64 ↑q0]) ∧ aa w' (W.heap.size ≤ ·) (funs m) (.slice A r0 c) ∧ Below W.heap.size W w'):=J (fun W hb=>by
  rw [← hr0,← hq0]
  exact srow0_any m.imports m.funcs v2 v3 0 (by decide) W (hM.grow hb).imports (hM.grow hb).funcs hF.imports hF.funcs)
 have HRL0:=J hr0
 have HQL0:=J hq0
 clear hr0 hq0
 obtain ⟨r1,hr1⟩:∃ r,(tabs m).length = r:=⟨_,rfl⟩
 obtain ⟨q1,hq1⟩:∃ r,(imps m 1).length = r:=⟨_,rfl⟩
 have HR1:Hid (∀ W,Below w.heap.size w W → Calls Tryz.prog 40 #[v2,.int .u8 1,.func (.func 41) #[] #[],v4] W fun e w'=>∃ A c,e = .returned (.agg #[.slice A r1 c,.int .i64 ↑q1]) ∧ aa w' (W.heap.size ≤ ·) (tabs m) (.slice A r1 c) ∧ Below W.heap.size W w'):=J (fun W hb=>by
  rw [← hr1,← hq1]
  exact eZ m.imports m.tables v2 v4 1 (by decide) W (hM.grow hb).imports (hM.grow hb).tables hF.imports hF.tables)
 have HRL1:=J hr1
 have HQL1:=J hq1
 clear hr1 hq1
 obtain ⟨r2,hr2⟩:∃ r,(mems m).length = r:=⟨_,rfl⟩
 obtain ⟨q2,hq2⟩:∃ r,(imps m 2).length = r:=⟨_,rfl⟩
 have HR2:Hid (∀ W,Below w.heap.size w W → Calls Tryz.prog 40 #[v2,.int .u8 2,.func (.func 41) #[] #[],v5] W fun e w'=>∃ A c,e = .returned (.agg #[.slice A r2 c,.int .i64 ↑q2]) ∧ aa w' (W.heap.size ≤ ·) (mems m) (.slice A r2 c) ∧ Below W.heap.size W w'):=J (fun W hb=>by
  rw [← hr2,← hq2]
  exact eZ m.imports m.mems v2 v5 2 (by decide) W (hM.grow hb).imports (hM.grow hb).mems hF.imports hF.mems)
 have HRL2:=J hr2
 have HQL2:=J hq2
 clear hr2 hq2
 obtain ⟨r3,hr3⟩:∃ r,(globs m).length = r:=⟨_,rfl⟩
 obtain ⟨q3,hq3⟩:∃ r,(imps m 3).length = r:=⟨_,rfl⟩
 have HR3:Hid (∀ W u,Below w.heap.size w W → aa W (· < W.heap.size) (m.globals.map (·.type)) u → Calls Tryz.prog 42 #[v2,.int .u8 3,.func (.func 43) #[] #[],u] W fun e w'=>∃ A c,e = .returned (.agg #[.slice A r3 c,.int .i64 ↑q3]) ∧ aa w' (W.heap.size ≤ ·) (globs m) (.slice A r3 c) ∧ Below W.heap.size W w'):=J (fun W u hb hu=>by
  rw [← hr3,← hq3]
  exact srow3_any m.imports (m.globals.map (·.type)) v2 u 3 (by decide) W (hM.grow hb).imports hu hF.imports (by simpa using hF.globals))
 have HRL3:=J hr3
 have HQL3:=J hq3
 clear hr3 hq3
 have HGT:=J (fun W (hb:Below w.heap.size w W)=>sgtypes_any m.globals v6 W (hM.grow hb).globals hF.globals)
 have HCE:=J (fun W (hb:Below w.heap.size w W)=>scloneE_any m.exports v7 W (hM.grow hb).exports (by have:=hF.exports;omega))
 have HTY:Hid (∀ W,Below w.heap.size w W → aa W (· < W.heap.size) m.types v1):=J (fun W hb=>(hM.grow hb).types)
 have HTL:Hid (m.types.length ≤ 1050000 ∧ ∀ x ∈ m.types,x.params.length ≤ 1050000 ∧ x.results.length ≤ 1050000):=J ⟨hF.types,hF.each⟩
 have HEL:=J hF.exports
 clear hF
 obtain ⟨A1,c1,rfl,_,_,_,_⟩:=hM.types
 obtain ⟨A2,c2,rfl,_,_,_,_⟩:=hM.imports
 obtain ⟨A3,c3,rfl,_,_,_,_⟩:=hM.funcs
 obtain ⟨A4,c4,rfl,_,_,_,_⟩:=hM.tables
 obtain ⟨A5,c5,rfl,_,_,_,_⟩:=hM.mems
 obtain ⟨A6,c6,rfl,_,_,_,_⟩:=hM.globals
 obtain ⟨A7,c7,rfl,_,_,_,_⟩:=hM.exports
 clear hM
 generalize hcs:modCells m (.slice A1 m.types.length c1) (.slice A2 m.imports.length c2) (.slice A3 m.funcs.length c3) (.slice A4 m.tables.length c4) (.slice A5 m.mems.length c5) (.slice A6 m.globals.length c6) (.slice A7 m.exports.length c7) v8 v9 v10 = cs
 unfold modCells at hcs
 obtain ⟨n1,hn1⟩:∃ n,m.types.length = n:=⟨_,rfl⟩
 have HN1:=J hn1
 rw [hn1] at hcs HTY HTL
 clear hn1
 obtain ⟨n2,hn2⟩:∃ n,m.imports.length = n:=⟨_,rfl⟩
 have HN2:=J hn2
 rw [hn2] at hcs HR0 HR1 HR2 HR3
 clear hn2
 obtain ⟨n3,hn3⟩:∃ n,m.funcs.length = n:=⟨_,rfl⟩
 have HN3:=J hn3
 rw [hn3] at hcs HR0
 clear hn3
 obtain ⟨n4,hn4⟩:∃ n,m.tables.length = n:=⟨_,rfl⟩
 have HN4:=J hn4
 rw [hn4] at hcs HR1
 clear hn4
 obtain ⟨n5,hn5⟩:∃ n,m.mems.length = n:=⟨_,rfl⟩
 have HN5:=J hn5
 rw [hn5] at hcs HR2
 clear hn5
 obtain ⟨n6,hn6⟩:∃ n,m.globals.length = n:=⟨_,rfl⟩
 have HN6:=J hn6
 rw [hn6] at hcs HGT
 clear hn6
 obtain ⟨n7,hn7⟩:∃ n,m.exports.length = n:=⟨_,rfl⟩
 have HN7:=J hn7
 rw [hn7] at hcs HCE HEL
 clear hn7
 generalize m.hasStart = hs at hcs
 generalize (m.start:Int) = st at hcs
 subst hcs
 have HX0:=J (heap_alloc_new w (.cells #[.slice A1 n1 c1,.slice A2 n2 c2,.slice A3 n3 c3,.slice A4 n4 c4,.slice A5 n5 c5,.slice A6 n6 c6,.slice A7 n7 c7,.bool hs,.int .u32 st,v8,v9,v10] 49))
 have HB0:Hid (Below w.heap.size w (w.alloc (.cells #[.slice A1 n1 c1,.slice A2 n2 c2,.slice A3 n3 c3,.slice A4 n4 c4,.slice A5 n5 c5,.slice A6 n6 c6,.slice A7 n7 c7,.bool hs,.int .u32 st,v8,v9,v10] 49))):=J bA
 go_enter Tryz.func18,Tryz.ntmps18
 go_upto_region 1 with fail
 generalize w.alloc (.cells #[.slice A1 n1 c1,.slice A2 n2 c2,.slice A3 n3 c3,.slice A4 n4 c4,.slice A5 n5 c5,.slice A6 n6 c6,.slice A7 n7 c7,.bool hs,.int .u32 st,v8,v9,v10] 49) = w0 at HX0 HB0 ⊢
 obtain ⟨X,hX⟩:∃ X,w.heap.size = X:=⟨_,rfl⟩
 rw [hX] at HX0
 rw [hX]
 have HC:=J (fun W (hb:Below w0.heap.size w0 W)=>cells12 HX0.out hb)
 clear HX0 hX
 refine wp_region_held_drew (S:=fun W'=>Below w0.heap.size w0 W') (by kernel_rfl) (Below.drew (Below.refl _ _)) (fun hHeld=>?_)
 refine di1 0 rfl ?_
 refine di1 1 rfl ?_
 refine di1 2 rfl ?_
 refine di1 3 rfl ?_
 refine di1 5 rfl ?_
 refine di1 6 rfl ?_
 refine di1 7 rfl ?_
 refine di1 8 rfl ?_
 refine di1 10 rfl ?_
 refine di1 11 rfl ?_
 refine di1 12 rfl ?_
 refine di1 13 rfl ?_
 refine di1 15 rfl ?_
 refine di1 16 rfl ?_
 refine di1 17 rfl ?_
 refine di1 18 rfl ?_
 refine di1 21 rfl ?_
 refine di1 22 rfl ?_
 refine ac 4 rfl (by kernel_rfl) (fun K hK=>?_)
 go_simp
 refine (HR0.out _ (HB0.out.trans (hHeld.mono HB0.out.size))).mono ?_
 rintro e w1 ⟨B0,e0,rfl,hs0,hb⟩
 have HS0:=J (hs0.more (S':=(· < w1.heap.size)) (fun _ hk _=>hk))
 clear hs0
 have hH:Below w0.heap.size w0 w1:=hHeld.trans (hb.mono hHeld.size)
 clear hb
 go_wp2_with fail
 refine hK.out _ _ hH (fun hHeld2=>?_)
 clear hK K hHeld hH
 have hHeld:=hHeld2
 clear hHeld2
 refine ac 9 rfl (by kernel_rfl) (fun K hK=>?_)
 go_simp
 refine (HR1.out _ (HB0.out.trans (hHeld.mono HB0.out.size))).mono ?_
 rintro e w2 ⟨B1,e1,rfl,hs1,hb⟩
 have HS1:=J (hs1.more (S':=(· < w2.heap.size)) (fun _ hk _=>hk))
 clear hs1
 have HS0:=J (HS0.out.grow hb)
 have hH:Below w0.heap.size w0 w2:=hHeld.trans (hb.mono hHeld.size)
 clear hb
 go_wp2_with fail
 refine hK.out _ _ hH (fun hHeld2=>?_)
 clear hK K hHeld hH
 have hHeld:=hHeld2
 clear hHeld2
 refine ac 14 rfl (by kernel_rfl) (fun K hK=>?_)
 go_simp
 refine (HR2.out _ (HB0.out.trans (hHeld.mono HB0.out.size))).mono ?_
 rintro e w3 ⟨B2,e2,rfl,hs2,hb⟩
 have HS2:=J (hs2.more (S':=(· < w3.heap.size)) (fun _ hk _=>hk))
 clear hs2
 have HS0:=J (HS0.out.grow hb)
 have HS1:=J (HS1.out.grow hb)
 have hH:Below w0.heap.size w0 w3:=hHeld.trans (hb.mono hHeld.size)
 clear hb
 go_wp2_with fail
 refine hK.out _ _ hH (fun hHeld2=>?_)
 clear hK K hHeld hH
 have hHeld:=hHeld2
 clear hHeld2
 refine ac 19 rfl (by kernel_rfl) (fun K hK=>?_)
 go_simp
 refine (HGT.out _ (HB0.out.trans (hHeld.mono HB0.out.size))).mono ?_
 rintro e w4 ⟨u,rfl,hsu,hb⟩
 have HSU:=J (hsu.more (S':=(· < w4.heap.size)) (fun _ hk _=>hk))
 clear hsu
 have HS0:=J (HS0.out.grow hb)
 have HS1:=J (HS1.out.grow hb)
 have HS2:=J (HS2.out.grow hb)
 have hH:Below w0.heap.size w0 w4:=hHeld.trans (hb.mono hHeld.size)
 clear hb
 go_wp2_with fail
 refine hK.out _ _ hH (fun hHeld2=>?_)
 clear hK K hHeld hH
 have hHeld:=hHeld2
 clear hHeld2
 refine ac 20 rfl (by kernel_rfl) (fun K hK=>?_)
 go_simp
 refine (HR3.out _ u (HB0.out.trans (hHeld.mono HB0.out.size)) HSU.out).mono ?_
 rintro e w5 ⟨B3,e3,rfl,hs3,hb⟩
 have HS3:=J (hs3.more (S':=(· < w5.heap.size)) (fun _ hk _=>hk))
 clear hs3
 have HS0:=J (HS0.out.grow hb)
 have HS1:=J (HS1.out.grow hb)
 have HS2:=J (HS2.out.grow hb)
 have hH:Below w0.heap.size w0 w5:=hHeld.trans (hb.mono hHeld.size)
 clear hb
 go_wp2_with fail
 refine hK.out _ _ hH (fun hHeld2=>?_)
 clear hK K hHeld hH
 have hHeld:=hHeld2
 clear hHeld2
 refine ac 23 rfl (by kernel_rfl) (fun K hK=>?_)
 go_simp
 refine (HCE.out _ (HB0.out.trans (hHeld.mono HB0.out.size))).mono ?_
 rintro e w6 ⟨ue,rfl,hO6,hb,_⟩
 obtain ⟨B6,e6,rfl,_,_⟩:=hO6.form
 rw [HN7.out] at hO6
 rw [HN7.out]
 have HS6:=J (hO6.slice.more (S':=(· < w6.heap.size)) (fun _ hk _=>hk))
 clear hO6
 have HS0:=J (HS0.out.grow hb)
 have HS1:=J (HS1.out.grow hb)
 have HS2:=J (HS2.out.grow hb)
 have HS3:=J (HS3.out.grow hb)
 have hH:Below w0.heap.size w0 w6:=hHeld.trans (hb.mono hHeld.size)
 clear hb
 go_wp2_with fail
 refine hK.out _ _ hH (fun hHeld2=>?_)
 clear hK K hHeld hH
 have hHeld:=hHeld2
 clear hHeld2
 refine dW 24 rfl ?_
 refine ac 25 rfl (by kernel_rfl) (fun K hK=>?_)
 go_simp
 have HW6:Hid (Below w0.heap.size w0 w6):=J hHeld
 have HP0:=J (heap_alloc_new w6 (.cells #[.slice none 0 0,.slice B0 r0 e0,.int .i64 ↑q0,.slice B1 r1 e1,.int .i64 ↑q1,.slice B2 r2 e2,.int .i64 ↑q2,.slice B3 r3 e3,.int .i64 ↑q3,.slice B6 n7 e6] 116))
 have hH:Below w0.heap.size w0 (w6.alloc (.cells #[.slice none 0 0,.slice B0 r0 e0,.int .i64 ↑q0,.slice B1 r1 e1,.int .i64 ↑q1,.slice B2 r2 e2,.int .i64 ↑q2,.slice B3 r3 e3,.int .i64 ↑q3,.slice B6 n7 e6] 116)):=hHeld.alloc hHeld.size _
 have hba:Below w6.heap.size w6 (w6.alloc (.cells #[.slice none 0 0,.slice B0 r0 e0,.int .i64 ↑q0,.slice B1 r1 e1,.int .i64 ↑q1,.slice B2 r2 e2,.int .i64 ↑q2,.slice B3 r3 e3,.int .i64 ↑q3,.slice B6 n7 e6] 116)):=bA
 have HS0:=J (HS0.out.mod (T:=fun _=>False) (Mod.of_below hba) (fun _ _ _ h=>h))
 have HS1:=J (HS1.out.mod (T:=fun _=>False) (Mod.of_below hba) (fun _ _ _ h=>h))
 have HS2:=J (HS2.out.mod (T:=fun _=>False) (Mod.of_below hba) (fun _ _ _ h=>h))
 have HS3:=J (HS3.out.mod (T:=fun _=>False) (Mod.of_below hba) (fun _ _ _ h=>h))
 have HS6:=J (HS6.out.mod (T:=fun _=>False) (Mod.of_below hba) (fun _ _ _ h=>h))
 clear hba
 refine hK.out _ _ hH (fun hHeld2=>?_)
 clear hK K hHeld hH
 have hHeld:=hHeld2
 clear hHeld2
 refine dW 26 rfl ?_
 refine dN ?_
 have HW7:=J hHeld
 clear hHeld
 generalize w6.alloc (.cells #[.slice none 0 0,.slice B0 r0 e0,.int .i64 ↑q0,.slice B1 r1 e1,.int .i64 ↑q1,.slice B2 r2 e2,.int .i64 ↑q2,.slice B3 r3 e3,.int .i64 ↑q3,.slice B6 n7 e6] 116) = w7 at HP0 HS0 HS1 HS2 HS3 HS6 HW7 ⊢
 have hpw:w.heap.size ≤ w6.heap.size:=Nat.le_trans HB0.out.size HW6.out.size
 have hp7:w6.heap.size < w7.heap.size:=(gL HP0.out)
 obtain ⟨P,hP⟩:∃ P,w6.heap.size = P:=⟨_,rfl⟩
 rw [hP] at HP0 HS0 HS1 HS2 HS3 HS6 hpw hp7
 rw [hP]
 have HPW:=J hpw
 have HP7:=J hp7
 clear hP hpw hp7
 have HB7:=J (HB0.out.trans (HW7.out.mono HB0.out.size))
 have y0:=(HC.out w7 HW7.out).b0
 go_upto_region 3 with fail
 clear y0
 go_loopw [35] (fun i wr=>∃ (j:Nat) (l:Value),j ≤ n1 ∧ i = .int .i64 ↑j ∧ Hid (wr.heap[P]? = some (.cells #[l,.slice B0 r0 e0,.int .i64 ↑q0,.slice B1 r1 e1,.int .i64 ↑q1,.slice B2 r2 e2,.int .i64 ↑q2,.slice B3 r3 e3,.int .i64 ↑q3,.slice B6 n7 e6] 116 (0,0))) ∧ Hid (OwnL 29 wr w7.heap.size (fun g=>w7.heap.size ≤ g ∧ l.ownBlock ≠ some g) l (m.types.take j)) ∧ Hid (Mod (· = P) w7 wr)) (fun i _=>n1 - (intOf i).toNat)
 case atStart=>exact ⟨0,.slice none 0 0,Nat.zero_le _,rfl,HP0,J (OwnL.nil _ _ _ _),J (Mod.refl _ _)⟩
 case round =>
  obtain ⟨j,l,hj,rfl,HP,HO,HM⟩:=hrel
  have HBR:Hid (Below w.heap.size w wr):=J (HB7.out.trans (HM.out.below HB7.out.size (fun k hk e=>by have:=HPW.out;omega)))
  by_cases hlt:j < n1
  ·have HJN:=J hlt
   have hn13:n1 ≤ 1050000:=HTL.out.1
   have hlti:(j:Int) < (n1:Int):=by omega
   obtain ⟨x,hx⟩:∃ x,m.types[j]? = some x:=⟨_,List.getElem?_eq_getElem (by rw [HN1.out];exact hlt)⟩
   obtain ⟨hx1,hx2⟩:=HTL.out.2 x (List.mem_of_getElem? hx)
   have HTK:Hid (m.types.take (j + 1) = m.types.take j ++ [x]):=J (by rw [List.take_add_one,hx];rfl)
   have HJL:Hid ((m.types.take j).length ≤ 1050000):=J (by have:=HTL.out.1;have:=List.length_take_le j m.types;omega)
   obtain ⟨A',c',e,_,_,_,hL⟩:=HTY.out wr HBR.out
   injection e with e1 e2 e3
   subst e1
   clear e2 e3
   obtain ⟨g,o,D1,d1,D2,d2,rfl,hg,hc0,hc1,hs1,hs2⟩:=ft_at hL hx
   obtain ⟨p1,hp1⟩:∃ p,x.params.length = p:=⟨_,rfl⟩
   obtain ⟨p2,hp2⟩:∃ p,x.results.length = p:=⟨_,rfl⟩
   rw [hp1] at hc0 hs1
   rw [hp2] at hc1 hs2
   have HCP:Hid (∀ W,Below wr.heap.size wr W → Calls Tryz.prog 46 #[.agg #[.slice D1 p1 d1,.slice D2 p2 d2]] W fun e w'=>∃ A c A' c',e = .returned (.agg #[.slice A p1 c,.slice A' p2 c']) ∧ aa w' (W.heap.size ≤ ·) x.params (.slice A p1 c) ∧ aa w' (W.heap.size ≤ ·) x.results (.slice A' p2 c') ∧ Below W.heap.size W w'):=J (fun W hb=>by
    have h:=eT x _ _ W (hs1.grow hb) (hs2.grow hb) (by omega) (by omega)
    rw [hp1,hp2] at h
    exact h)
   have HT:=J (heap_alloc_new wr (.cells #[.slice D1 p1 d1,.slice D2 p2 d2] 29))
   have HBA:Hid (Below wr.heap.size wr (wr.alloc (.cells #[.slice D1 p1 d1,.slice D2 p2 d2] 29))):=J bA
   have HPL:Hid (P < wr.heap.size):=J (gL HP.out)
   have HX:=J hx
   clear hx hx1 hx2 hL hs1 hs2 hp1 hp2 hg
   go_upto_region 5 with fail
   generalize wr.alloc (.cells #[.slice D1 p1 d1,.slice D2 p2 d2] 29) = wa at HT HBA ⊢
   clear hc0 hc1
   have hla:wa.cell? ⟨P,0,none⟩ = some l:=by rw [cell_of_row wa P 0 _ _ (0,0) ((HBA.out.block P HPL.out).trans HP.out)];rfl
   have HLA:=J hla
   clear hla
   refine wp_region_held_drew (S:=fun W'=>W'.cell? ⟨wr.heap.size,0,none⟩ = some (.slice D1 p1 d1) ∧ W'.cell? ⟨wr.heap.size,1,none⟩ = some (.slice D2 p2 d2)) (by kernel_rfl) (ae HT.out) (fun hHeld=>?_)
   refine dV 0 rfl (by intro wy hSw;obtain ⟨a0,a1⟩:=hSw;go_simp;try with_reducible rfl) ?_
   refine dV 1 rfl (by intro wy hSw;obtain ⟨a0,a1⟩:=hSw;go_simp;try with_reducible rfl) ?_
   refine dV 2 rfl (by intro wy hSw;obtain ⟨a0,a1⟩:=hSw;go_simp;try with_reducible rfl) ?_
   refine dV 3 rfl (by intro wy hSw;obtain ⟨a0,a1⟩:=hSw;go_simp;try with_reducible rfl) ?_
   refine dV 5 rfl (by intro wy hSw;obtain ⟨a0,a1⟩:=hSw;go_simp;try with_reducible rfl) ?_
   refine ai 4 6 rfl rfl (by kernel_rfl) (fun K hK=>?_) (fun K hK=>?_)
   ·have hl:wa.drew.cell? ⟨P,0,none⟩ = some l:=HLA.out
    go_simp
    clear hl
    refine hK.out _ _ hHeld fun hHeld=>?_
    clear hK K
    refine ac 6 rfl (by kernel_rfl) (fun K hK=>?_)
    go_simp
    refine (HCP.out _ HBA.out.drew).mono ?_
    rintro e w2 ⟨E1,f1,E2,f2,rfl,hv1,hv2,hb⟩
    have hba:Below wa.heap.size wa w2:=(Below.drew (Below.refl _ _)).trans hb
    have HB2:Hid (Below wr.heap.size wr w2):=J (HBA.out.trans (hba.mono HBA.out.size))
    have HT2:=J ((hba.block _ (gL HT.out)).trans HT.out)
    have HP2:=J ((HB2.out.block P HPL.out).trans HP.out)
    have HL2:Hid (w2.cell? ⟨P,0,none⟩ = some l):=J (by rw [cell_of_row w2 P 0 _ _ (0,0) HP2.out];rfl)
    have hO2:=HO.out.mod (T:=fun _=>False) (Mod.of_below HB2.out) (fun _ _ h=>h) (fun _ _ _ h=>h)
    have hrep:Lay.rep w2 (fun g=>w7.heap.size ≤ g ∧ l.ownBlock ≠ some g) x [.slice E1 p1 f1,.slice E2 p2 f2]:=⟨_,_,rfl,hv1.more (fun g' hg' h'=>⟨Nat.le_trans HM.out.size (Nat.le_trans HBA.out.size h'),fun e'=>by have:=(HO.out.lt g' e').2;have:=HBA.out.size;have h'':wa.heap.size ≤ g':=h';omega⟩),hv2.more (fun g' hg' h'=>⟨Nat.le_trans HM.out.size (Nat.le_trans HBA.out.size h'),fun e'=>by have:=(HO.out.lt g' e').2;have:=HBA.out.size;have h'':wa.heap.size ≤ g':=h';omega⟩)⟩
    obtain ⟨v5,w5,hrun,hO5,hM5,hT5⟩:=append1L undFT infFT (by decide) rfl (by decide) w2 w7.heap.size _ l _ x [.slice E1 p1 f1,.slice E2 p2 f2] hO2 (by have:=HJL.out;omega) (Nat.le_trans HM.out.size HB2.out.size) hrep (by simp [Value.oneCell']) (fun g' _ h'=>h'.2)
    obtain ⟨G5,k5,e5,_,_⟩:=hO5.form
    obtain ⟨n5,hn5⟩:∃ n,(m.types.take j ++ [x]).length = n:=⟨_,rfl⟩
    rw [hn5] at e5
    subst e5
    clear hn5
    have HRUN:=J hrun
    have HO5:=J hO5
    have HM5:=J hM5
    have HP5:=J (hM5.heap HP2.out (fun e'=>by have:=(HO.out.lt P e').1;have:=HP7.out;omega))
    have HT5:=J (hM5.heap HT2.out (fun e'=>by have:=(HO.out.lt _ e').2;omega))
    have HL3:Hid ((w2.alloc (.cells #[.slice E1 p1 f1,.slice E2 p2 f2] 29)).cell? ⟨P,0,none⟩ = some l):=J ((World.cell?_alloc_lt _ _ _ (Nat.lt_of_lt_of_le HPL.out HB2.out.size)).trans HL2.out)
    have HT3:Hid ((w2.alloc (.cells #[.slice E1 p1 f1,.slice E2 p2 f2] 29)).heap[wr.heap.size]? = _):=J ((Below.heap_alloc w2 _ _ (gL HT2.out)).trans HT2.out)
    clear hv1 hv2 hb hba hO2 hrep hrun hO5 hM5 hT5
    go_wp2_with fail
    refine hK.out _ _ (ae HT2.out) fun hHeld=>?_
    clear hK K
    refine ac 7 rfl (by kernel_rfl) (fun K hK=>?_)
    go_simp
    refine hK.out _ _ (ae HT3.out) fun hHeld=>?_
    clear hK K
    refine dA 8 rfl fun K hK=>?_
    refine am (.tmp 43) (.tmp 46) 38 rfl _ _ _ w5 rfl rfl HRUN.out ?_
    refine hK.out _ _ (ae HT5.out) fun hHeld=>?_
    clear hK K
    try simp only [Act.put,O]
    refine dV 9 rfl (by intro wy hSw;obtain ⟨a0,a1⟩:=hSw;go_simp;try with_reducible rfl) ?_
    refine dV 10 rfl (by intro wy hSw;obtain ⟨a0,a1⟩:=hSw;go_simp;try with_reducible rfl) ?_
    refine ac 11 rfl (by kernel_rfl) (fun K hK=>?_)
    have hl:w5.cell? ⟨P,0,none⟩ = some l:=by rw [cell_of_row w5 P 0 _ _ (0,0) HP5.out];rfl
    have gl:w5.frozen? ⟨P,0,none⟩ = false:=frozen_of_row w5 P 0 _ _ HP5.out
    go_simp
    clear hl gl
    have hms:Mod (· = P) w5 (w5.setCell ⟨P,0,none⟩ (.slice G5 n5 k5)):=Mod.setCell (T:=(· = P)) (Mod.refl _ w5) (fun _=>rfl) _
    have HTZ:=J (hms.heap HT5.out (fun e=>by have:=HPL.out;omega))
    have HPZ:=J (heap_setCell_same w5 P 0 _ _ (.slice G5 n5 k5) HP5.out)
    have HMZ:Hid (Mod (· = P) w7 (w5.setCell ⟨P,0,none⟩ (.slice G5 n5 k5))):=J (((HM.out.trans (T':=fun _=>False) (Mod.of_below HB2.out) (fun _ _ h=>h.elim)).trans HM5.out (fun k hk e=>by have:=(HO.out.lt k e).1;omega)).trans hms (fun _ _ h=>h))
    have HOZ:=J ((HO5.out.more (S':=fun g=>w7.heap.size ≤ g ∧ (Value.slice G5 n5 k5).ownBlock ≠ some g) (fun _ _ h=>⟨h.1.1,h.2⟩)).mod hms (fun g hg e=>by have:=(HO5.out.lt g hg).1;have:=HP7.out;omega) (fun g _ hg e=>by have:=hg.1;have:=HP7.out;omega))
    refine hK.out _ _ (ae HTZ.out) (fun hHeld2=>?_)
    clear hK K hHeld hHeld2 hms
    refine dN ?_
    go_wp2_with fail
    go_roundw
    case rel=>exact ⟨j + 1,_,by have:=HJN.out;omega,by go_num,HPZ,J (by rw [HTK.out];exact HOZ.out),HMZ⟩
    case measure=>have:=HJN.out;simp [intOf];omega
   ·skip
    go_simp
    refine (HCP.out _ HBA.out.drew).mono ?_
    rintro e w2 ⟨E1,f1,E2,f2,rfl,hv1,hv2,hb⟩
    have hba:Below wa.heap.size wa w2:=(Below.drew (Below.refl _ _)).trans hb
    have HB2:Hid (Below wr.heap.size wr w2):=J (HBA.out.trans (hba.mono HBA.out.size))
    have HT2:=J ((hba.block _ (gL HT.out)).trans HT.out)
    have HP2:=J ((HB2.out.block P HPL.out).trans HP.out)
    have HL2:Hid (w2.cell? ⟨P,0,none⟩ = some l):=J (by rw [cell_of_row w2 P 0 _ _ (0,0) HP2.out];rfl)
    have hO2:=HO.out.mod (T:=fun _=>False) (Mod.of_below HB2.out) (fun _ _ h=>h) (fun _ _ _ h=>h)
    have hrep:Lay.rep w2 (fun g=>w7.heap.size ≤ g ∧ l.ownBlock ≠ some g) x [.slice E1 p1 f1,.slice E2 p2 f2]:=⟨_,_,rfl,hv1.more (fun g' hg' h'=>⟨Nat.le_trans HM.out.size (Nat.le_trans HBA.out.size h'),fun e'=>by have:=(HO.out.lt g' e').2;have:=HBA.out.size;have h'':wa.heap.size ≤ g':=h';omega⟩),hv2.more (fun g' hg' h'=>⟨Nat.le_trans HM.out.size (Nat.le_trans HBA.out.size h'),fun e'=>by have:=(HO.out.lt g' e').2;have:=HBA.out.size;have h'':wa.heap.size ≤ g':=h';omega⟩)⟩
    obtain ⟨v5,w5,hrun,hO5,hM5,hT5⟩:=append1L undFT infFT (by decide) rfl (by decide) w2 w7.heap.size _ l _ x [.slice E1 p1 f1,.slice E2 p2 f2] hO2 (by have:=HJL.out;omega) (Nat.le_trans HM.out.size HB2.out.size) hrep (by simp [Value.oneCell']) (fun g' _ h'=>h'.2)
    obtain ⟨G5,k5,e5,_,_⟩:=hO5.form
    obtain ⟨n5,hn5⟩:∃ n,(m.types.take j ++ [x]).length = n:=⟨_,rfl⟩
    rw [hn5] at e5
    subst e5
    clear hn5
    have HRUN:=J hrun
    have HO5:=J hO5
    have HM5:=J hM5
    have HP5:=J (hM5.heap HP2.out (fun e'=>by have:=(HO.out.lt P e').1;have:=HP7.out;omega))
    have HT5:=J (hM5.heap HT2.out (fun e'=>by have:=(HO.out.lt _ e').2;omega))
    have HL3:Hid ((w2.alloc (.cells #[.slice E1 p1 f1,.slice E2 p2 f2] 29)).cell? ⟨P,0,none⟩ = some l):=J ((World.cell?_alloc_lt _ _ _ (Nat.lt_of_lt_of_le HPL.out HB2.out.size)).trans HL2.out)
    have HT3:Hid ((w2.alloc (.cells #[.slice E1 p1 f1,.slice E2 p2 f2] 29)).heap[wr.heap.size]? = _):=J ((Below.heap_alloc w2 _ _ (gL HT2.out)).trans HT2.out)
    clear hv1 hv2 hb hba hO2 hrep hrun hO5 hM5 hT5
    go_wp2_with fail
    refine hK.out _ _ (ae HT2.out) fun hHeld=>?_
    clear hK K
    refine ai 4 7 rfl rfl (by kernel_rfl) (fun K hK=>?_) (fun K hK=>?_)
    ·have hl:w2.cell? ⟨P,0,none⟩ = some l:=HL2.out
     go_simp
     clear hl
     refine hK.out _ _ hHeld fun hHeld=>?_
     clear hK K
     refine ac 7 rfl (by kernel_rfl) (fun K hK=>?_)
     go_simp
     refine hK.out _ _ (ae HT3.out) fun hHeld=>?_
     clear hK K
     refine dA 8 rfl fun K hK=>?_
     refine am (.tmp 43) (.tmp 46) 38 rfl _ _ _ w5 rfl rfl HRUN.out ?_
     refine hK.out _ _ (ae HT5.out) fun hHeld=>?_
     clear hK K
     try simp only [Act.put,O]
     refine dV 9 rfl (by intro wy hSw;obtain ⟨a0,a1⟩:=hSw;go_simp;try with_reducible rfl) ?_
     refine dV 10 rfl (by intro wy hSw;obtain ⟨a0,a1⟩:=hSw;go_simp;try with_reducible rfl) ?_
     refine ac 11 rfl (by kernel_rfl) (fun K hK=>?_)
     have hl:w5.cell? ⟨P,0,none⟩ = some l:=by rw [cell_of_row w5 P 0 _ _ (0,0) HP5.out];rfl
     have gl:w5.frozen? ⟨P,0,none⟩ = false:=frozen_of_row w5 P 0 _ _ HP5.out
     go_simp
     clear hl gl
     have hms:Mod (· = P) w5 (w5.setCell ⟨P,0,none⟩ (.slice G5 n5 k5)):=Mod.setCell (T:=(· = P)) (Mod.refl _ w5) (fun _=>rfl) _
     have HTZ:=J (hms.heap HT5.out (fun e=>by have:=HPL.out;omega))
     have HPZ:=J (heap_setCell_same w5 P 0 _ _ (.slice G5 n5 k5) HP5.out)
     have HMZ:Hid (Mod (· = P) w7 (w5.setCell ⟨P,0,none⟩ (.slice G5 n5 k5))):=J (((HM.out.trans (T':=fun _=>False) (Mod.of_below HB2.out) (fun _ _ h=>h.elim)).trans HM5.out (fun k hk e=>by have:=(HO.out.lt k e).1;omega)).trans hms (fun _ _ h=>h))
     have HOZ:=J ((HO5.out.more (S':=fun g=>w7.heap.size ≤ g ∧ (Value.slice G5 n5 k5).ownBlock ≠ some g) (fun _ _ h=>⟨h.1.1,h.2⟩)).mod hms (fun g hg e=>by have:=(HO5.out.lt g hg).1;have:=HP7.out;omega) (fun g _ hg e=>by have:=hg.1;have:=HP7.out;omega))
     refine hK.out _ _ (ae HTZ.out) (fun hHeld2=>?_)
     clear hK K hHeld hHeld2 hms
     refine dN ?_
     go_wp2_with fail
     go_roundw
     case rel=>exact ⟨j + 1,_,by have:=HJN.out;omega,by go_num,HPZ,J (by rw [HTK.out];exact HOZ.out),HMZ⟩
     case measure=>have:=HJN.out;simp [intOf];omega
    ·skip
     go_simp
     refine hK.out _ _ (ae HT3.out) fun hHeld=>?_
     clear hK K
     refine ac 4 rfl (by kernel_rfl) (fun K hK=>?_)
     have hl:(w2.alloc (.cells #[.slice E1 p1 f1,.slice E2 p2 f2] 29)).cell? ⟨P,0,none⟩ = some l:=HL3.out
     go_simp
     clear hl
     refine hK.out _ _ hHeld fun hHeld=>?_
     clear hK K
     refine dA 8 rfl fun K hK=>?_
     refine am (.tmp 43) (.tmp 46) 38 rfl _ _ _ w5 rfl rfl HRUN.out ?_
     refine hK.out _ _ (ae HT5.out) fun hHeld=>?_
     clear hK K
     try simp only [Act.put,O]
     refine dV 9 rfl (by intro wy hSw;obtain ⟨a0,a1⟩:=hSw;go_simp;try with_reducible rfl) ?_
     refine dV 10 rfl (by intro wy hSw;obtain ⟨a0,a1⟩:=hSw;go_simp;try with_reducible rfl) ?_
     refine ac 11 rfl (by kernel_rfl) (fun K hK=>?_)
     have hl:w5.cell? ⟨P,0,none⟩ = some l:=by rw [cell_of_row w5 P 0 _ _ (0,0) HP5.out];rfl
     have gl:w5.frozen? ⟨P,0,none⟩ = false:=frozen_of_row w5 P 0 _ _ HP5.out
     go_simp
     clear hl gl
     have hms:Mod (· = P) w5 (w5.setCell ⟨P,0,none⟩ (.slice G5 n5 k5)):=Mod.setCell (T:=(· = P)) (Mod.refl _ w5) (fun _=>rfl) _
     have HTZ:=J (hms.heap HT5.out (fun e=>by have:=HPL.out;omega))
     have HPZ:=J (heap_setCell_same w5 P 0 _ _ (.slice G5 n5 k5) HP5.out)
     have HMZ:Hid (Mod (· = P) w7 (w5.setCell ⟨P,0,none⟩ (.slice G5 n5 k5))):=J (((HM.out.trans (T':=fun _=>False) (Mod.of_below HB2.out) (fun _ _ h=>h.elim)).trans HM5.out (fun k hk e=>by have:=(HO.out.lt k e).1;omega)).trans hms (fun _ _ h=>h))
     have HOZ:=J ((HO5.out.more (S':=fun g=>w7.heap.size ≤ g ∧ (Value.slice G5 n5 k5).ownBlock ≠ some g) (fun _ _ h=>⟨h.1.1,h.2⟩)).mod hms (fun g hg e=>by have:=(HO5.out.lt g hg).1;have:=HP7.out;omega) (fun g _ hg e=>by have:=hg.1;have:=HP7.out;omega))
     refine hK.out _ _ (ae HTZ.out) (fun hHeld2=>?_)
     clear hK K hHeld hHeld2 hms
     refine dN ?_
     go_wp2_with fail
     go_roundw
     case rel=>exact ⟨j + 1,_,by have:=HJN.out;omega,by go_num,HPZ,J (by rw [HTK.out];exact HOZ.out),HMZ⟩
     case measure=>have:=HJN.out;simp [intOf];omega
  ·have hlti:decide ((j:Int) < (n1:Int)) = false:=decide_eq_false (by omega)
   have HA:Hid (m.types.take j = m.types):=J (List.take_of_length_le (by rw [HN1.out];omega))
   go_wp2_with fail
   go_ret
   have hO:=HO.out
   rw [HA.out] at hO
   obtain ⟨A8,c8,rfl,_,_⟩:=hO.form
   have hT:=hO.tell (fun _ h=>h.1)
   have hz:=HM.out.size
   have f {α:Type} [Lay α] {zs:List α} {v:Value} (h:aa w7 (· < P) zs v):aa wr (· < wr.heap.size) zs v:=(h.mod HM.out (fun k _ hk e=>by omega)).more (fun k hk _=>hk)
   refine ⟨P,rfl,⟨A8,c8,B0,e0,B1,e1,B2,e2,B3,e3,B6,e6,?_,hT.more (fun k hk _=>hk),?_,?_,?_,?_,?_⟩,HBR.out⟩
   ·rw [HRL0.out,HRL1.out,HRL2.out,HRL3.out,HQL0.out,HQL1.out,HQL2.out,HQL3.out,HN7.out]
    exact HP.out
   ·rw [HRL0.out];exact f HS0.out
   ·rw [HRL1.out];exact f HS1.out
   ·rw [HRL2.out];exact f HS2.out
   ·rw [HRL3.out];exact f HS3.out
   ·rw [HN7.out];exact f HS6.out
def noM:M:=⟨[],[],[],[],[],[],[],false,0,[],[],[]⟩
def Recv (w:World) (p:Option Addr) (m:M):Prop:=(∃ P,p = some ⟨P,0,none⟩ ∧ aC w P m) ∨ (p = none ∧ m = noM)
theorem Recv.grow {w w':World} {p:Option Addr} {m:M} (h:Recv w p m) (hb:Below w.heap.size w w'):Recv w' p m:=by
 rcases h with ⟨P,rfl,h⟩ | h
 ·exact .inl ⟨P,rfl,h.grow hb⟩
 ·exact .inr h
theorem aJ (p:Option Addr) (m:M) (w:World) (h:Recv w p m) :
  Calls Tryz.prog 59 #[.pointer p] w fun e w'=>∃ P,e = .returned (.pointer (some ⟨P,0,none⟩)) ∧ aC w' P m ∧ Below w.heap.size w w':=by
 rcases h with ⟨P,rfl,h⟩ | ⟨rfl,rfl⟩
 ·have HS:=J h
  clear h
  go_enter Tryz.func59,Tryz.ntmps59
  go_wp2
  go_ret
  exact ⟨P,rfl,HS.out,Below.refl _ _⟩
 ·go_enter Tryz.func59,Tryz.ntmps59
  go_wp2
  go_ret
  refine ⟨w.heap.size,rfl,⟨none,0,none,0,none,0,none,0,none,0,none,0,heap_alloc_new w _,aa.nil _ _,aa.nil _ _,aa.nil _ _,aa.nil _ _,aa.nil _ _,aa.nil _ _⟩,bA⟩
theorem satU_any (xs:List Nat) (v:Value) (i:Nat) (w:World) (hv:aa w (· < w.heap.size) xs v) (hi:i < 4294967296) (hl:xs.length ≤ 4000000) :
  Calls Tryz.prog 86 #[v,.int .u32 ↑i] w fun e w'=>e = .returned (.tuple #[.int .u32 ((xs[i]?.getD 0:Nat):Int),.bool (xs[i]?).isSome]) ∧ w' = w:=by
 obtain ⟨A,c,rfl,_,_,_,hL⟩:=hv
 have HL:=J hL
 obtain ⟨n,hn⟩:∃ n,xs.length = n:=⟨_,rfl⟩
 rw [hn] at hl ⊢
 clear hL
 cases hx:xs[i]? with
 | none =>
  have hge:(n:Int) ≤ (i:Int):=by have:=List.getElem?_eq_none_iff.1 hx;omega
  have hgen:n ≤ i:=by omega
  clear hx hn
  go_enter Tryz.func86,Tryz.ntmps86
  go_wp2
  go_ret2
  exact ⟨rfl,rfl⟩
 | some x =>
  have hge:decide ((n:Int) ≤ (i:Int)) = false:=decide_eq_false (by have:=(List.getElem?_eq_some_iff.1 hx).1;omega)
  have hgen:decide (n ≤ i) = false:=decide_eq_false (by have:=(List.getElem?_eq_some_iff.1 hx).1;omega)
  have hlt:(i:Int) < (n:Int):=by have:=(List.getElem?_eq_some_iff.1 hx).1;omega
  obtain ⟨g,o,rfl,hg,hc,hxl⟩:=fk HL.out hx
  clear hx hn
  go_enter Tryz.func86,Tryz.ntmps86
  go_wp2
  go_ret2
  exact ⟨rfl,rfl⟩
theorem satL_any (xs:List Lim) (v:Value) (i:Nat) (w:World) (hv:aa w (· < w.heap.size) xs v) (hi:i < 4294967296) (hl:xs.length ≤ 4000000) :
  Calls Tryz.prog 84 #[v,.int .u32 ↑i] w fun e w'=>e = .returned (.tuple #[.agg (limArr (xs[i]?.getD ⟨0,0⟩)),.bool (xs[i]?).isSome]) ∧ Below w.heap.size w w':=by
 obtain ⟨D,hu,hd⟩:=descOf di
 have HU:=J hu
 have HD:=J hd
 clear hu hd
 obtain ⟨A,c,rfl,_,_,_,hL⟩:=hv
 have HL:=J hL
 obtain ⟨n,hn⟩:∃ n,xs.length = n:=⟨_,rfl⟩
 rw [hn] at hl ⊢
 clear hL
 have HZ0:=J (heap_alloc_new w (.cells #[.int .u32 0,.int .i64 0] 66))
 have HB0:Hid (Below w.heap.size w (w.alloc (.cells #[.int .u32 0,.int .i64 0] 66))):=J bA
 cases hx:xs[i]? with
 | none =>
  have hge:(n:Int) ≤ (i:Int):=by have:=List.getElem?_eq_none_iff.1 hx;omega
  have hgen:n ≤ i:=by omega
  clear hx hn
  go_enter Tryz.func84,Tryz.ntmps84
  go_upto_region 1 with fail
  generalize w.alloc (.cells #[.int .u32 0,.int .i64 0] 66) = w0 at HZ0 HB0 ⊢
  obtain ⟨Y,hY⟩:∃ Y,w.heap.size = Y:=⟨_,rfl⟩
  rw [hY] at HZ0
  have HY:Hid (w.heap.size ≤ Y):=J (by omega)
  simp only [hY]
  clear hY
  have HB1:Hid (Below w.heap.size w (w0.alloc (.cells #[.int .u32 0,.int .i64 0] 66))):=J (HB0.out.alloc HB0.out.size _)
  have HZ1:Hid ((w0.alloc (.cells #[.int .u32 0,.int .i64 0] 66)).heap[Y]? = some (.cells #[.int .u32 0,.int .i64 0] 66 (0,0))):=J ((Below.heap_alloc w0 _ _ (gL HZ0.out)).trans HZ0.out)
  have HN1:=J (heap_alloc_new w0 (.cells #[.int .u32 0,.int .i64 0] 66))
  go_upto_region 3 with fail
  generalize w0.alloc (.cells #[.int .u32 0,.int .i64 0] 66) = w1 at HZ1 HB1 HN1 ⊢
  obtain ⟨n0,n1⟩:=ae HN1.out
  go_wp2_with (refine ah rfl 66 (.tmp 4) (.tmp 13) rfl rfl Y #[.int .u32 0,.int .i64 0] rfl rfl 66 #[.int .u32 0,.int .i64 0] HZ1.out aY rfl (by simp [Value.oneCell']) ?_)
  refine bodyPost_ret (v:=.tuple #[.agg #[.int .u32 0,.int .i64 0],.bool false]) (au (p:=4) (q:=5) (ty:=66) (by kernel_rfl) _ _ Y 66 #[.int .u32 0,.int .i64 0] (0,0) D rfl (setRow_heap _ _ #[.int .u32 0,.int .i64 0] _ _ _ HZ1.out) HU.out HD.out aY (.bool false) rfl) rfl ?_
  exact ⟨rfl,ab HB1.out HY.out _⟩
 | some x =>
  have hge:decide ((n:Int) ≤ (i:Int)) = false:=decide_eq_false (by have:=(List.getElem?_eq_some_iff.1 hx).1;omega)
  have hgen:decide (n ≤ i) = false:=decide_eq_false (by have:=(List.getElem?_eq_some_iff.1 hx).1;omega)
  have hlt:(i:Int) < (n:Int):=by have:=(List.getElem?_eq_some_iff.1 hx).1;omega
  obtain ⟨g,o,rfl,hg,hc0,hc1⟩:=lim_at HL.out hx
  have z0:=(HB0.out.cell (p:=⟨g,o + i * 2,none⟩) hg).trans hc0
  have z1:=(HB0.out.cell (p:=⟨g,o + i * 2 + 1,none⟩) hg).trans hc1
  clear hx hn hc0 hc1
  go_enter Tryz.func84,Tryz.ntmps84
  go_upto_region 1 with fail
  generalize w.alloc (.cells #[.int .u32 0,.int .i64 0] 66) = w0 at HZ0 HB0 z0 z1 ⊢
  obtain ⟨Y,hY⟩:∃ Y,w.heap.size = Y:=⟨_,rfl⟩
  rw [hY] at HZ0
  have HY:Hid (w.heap.size ≤ Y):=J (by omega)
  simp only [hY]
  clear hY
  go_wp2_with (refine ah rfl 66 (.tmp 4) (.tmp 17) rfl rfl Y #[.int .u32 ↑x.min,.int .i64 x.max] rfl rfl 66 #[.int .u32 0,.int .i64 0] HZ0.out aY rfl (by simp [Value.oneCell']) ?_)
  refine bodyPost_ret (v:=.tuple #[.agg #[.int .u32 ↑x.min,.int .i64 x.max],.bool true]) (au (p:=4) (q:=5) (ty:=66) (by kernel_rfl) _ _ Y 66 #[.int .u32 ↑x.min,.int .i64 x.max] (0,0) D rfl (setRow_heap _ _ #[.int .u32 0,.int .i64 0] _ _ _ HZ0.out) HU.out HD.out aY (.bool true) rfl) rfl ?_
  exact ⟨rfl,ab HB0.out HY.out _⟩
theorem glob_at {w:World} {S:Nat → Prop} {A:Option Addr} {xs:List Glob} {k:Nat} {x:Glob} (h:HasL w S A xs) (hx:xs[k]? = some x):∃ g o,A = some ⟨g,o,none⟩ ∧ g < w.heap.size ∧ w.cell? ⟨g,o + k * 2,none⟩ = some (.int .u8 ↑x.t.toNat) ∧ w.cell? ⟨g,o + k * 2 + 1,none⟩ = some (.bool x.mu):=by
 obtain ⟨g,o,cs,h1,_,h3,h4,h6⟩:=h k x hx
 have h4':cs = globCells x:=h4
 subst h4'
 exact ⟨g,o,h1,h3,h6 0 _ rfl,h6 1 _ rfl⟩
theorem satG_any (xs:List Glob) (v:Value) (i:Nat) (w:World) (hv:aa w (· < w.heap.size) xs v) (hi:i < 4294967296) (hl:xs.length ≤ 4000000) :
  Calls Tryz.prog 122 #[v,.int .u32 ↑i] w fun e w'=>e = .returned (.tuple #[.agg (globArr (xs[i]?.getD ⟨0,false⟩)),.bool (xs[i]?).isSome]) ∧ Below w.heap.size w w':=by
 obtain ⟨D,hu,hd⟩:=descOf dG
 have HU:=J hu
 have HD:=J hd
 clear hu hd
 obtain ⟨A,c,rfl,_,_,_,hL⟩:=hv
 have HL:=J hL
 obtain ⟨n,hn⟩:∃ n,xs.length = n:=⟨_,rfl⟩
 rw [hn] at hl ⊢
 clear hL
 have HZ0:=J (heap_alloc_new w (.cells #[.int .u8 0,.bool false] 54))
 have HB0:Hid (Below w.heap.size w (w.alloc (.cells #[.int .u8 0,.bool false] 54))):=J bA
 cases hx:xs[i]? with
 | none =>
  have hge:(n:Int) ≤ (i:Int):=by have:=List.getElem?_eq_none_iff.1 hx;omega
  have hgen:n ≤ i:=by omega
  clear hx hn
  go_enter Tryz.func122,Tryz.ntmps122
  go_upto_region 1 with fail
  generalize w.alloc (.cells #[.int .u8 0,.bool false] 54) = w0 at HZ0 HB0 ⊢
  obtain ⟨Y,hY⟩:∃ Y,w.heap.size = Y:=⟨_,rfl⟩
  rw [hY] at HZ0
  have HY:Hid (w.heap.size ≤ Y):=J (by omega)
  simp only [hY]
  clear hY
  have HB1:Hid (Below w.heap.size w (w0.alloc (.cells #[.int .u8 0,.bool false] 54))):=J (HB0.out.alloc HB0.out.size _)
  have HZ1:Hid ((w0.alloc (.cells #[.int .u8 0,.bool false] 54)).heap[Y]? = some (.cells #[.int .u8 0,.bool false] 54 (0,0))):=J ((Below.heap_alloc w0 _ _ (gL HZ0.out)).trans HZ0.out)
  have HN1:=J (heap_alloc_new w0 (.cells #[.int .u8 0,.bool false] 54))
  go_upto_region 3 with fail
  generalize w0.alloc (.cells #[.int .u8 0,.bool false] 54) = w1 at HZ1 HB1 HN1 ⊢
  obtain ⟨n0,n1⟩:=ae HN1.out
  go_wp2_with (refine ah rfl 54 (.tmp 4) (.tmp 13) rfl rfl Y #[.int .u8 0,.bool false] rfl rfl 54 #[.int .u8 0,.bool false] HZ1.out ao rfl (by simp [Value.oneCell']) ?_)
  refine bodyPost_ret (v:=.tuple #[.agg #[.int .u8 0,.bool false],.bool false]) (au (p:=4) (q:=5) (ty:=54) (by kernel_rfl) _ _ Y 54 #[.int .u8 0,.bool false] (0,0) D rfl (setRow_heap _ _ #[.int .u8 0,.bool false] _ _ _ HZ1.out) HU.out HD.out ao (.bool false) rfl) rfl ?_
  exact ⟨rfl,ab HB1.out HY.out _⟩
 | some x =>
  have hge:decide ((n:Int) ≤ (i:Int)) = false:=decide_eq_false (by have:=(List.getElem?_eq_some_iff.1 hx).1;omega)
  have hgen:decide (n ≤ i) = false:=decide_eq_false (by have:=(List.getElem?_eq_some_iff.1 hx).1;omega)
  have hlt:(i:Int) < (n:Int):=by have:=(List.getElem?_eq_some_iff.1 hx).1;omega
  obtain ⟨g,o,rfl,hg,hc0,hc1⟩:=glob_at HL.out hx
  have z0:=(HB0.out.cell (p:=⟨g,o + i * 2,none⟩) hg).trans hc0
  have z1:=(HB0.out.cell (p:=⟨g,o + i * 2 + 1,none⟩) hg).trans hc1
  clear hx hn hc0 hc1
  go_enter Tryz.func122,Tryz.ntmps122
  go_upto_region 1 with fail
  generalize w.alloc (.cells #[.int .u8 0,.bool false] 54) = w0 at HZ0 HB0 z0 z1 ⊢
  obtain ⟨Y,hY⟩:∃ Y,w.heap.size = Y:=⟨_,rfl⟩
  rw [hY] at HZ0
  have HY:Hid (w.heap.size ≤ Y):=J (by omega)
  simp only [hY]
  clear hY
  go_wp2_with (refine ah rfl 54 (.tmp 4) (.tmp 17) rfl rfl Y #[.int .u8 ↑x.t.toNat,.bool x.mu] rfl rfl 54 #[.int .u8 0,.bool false] HZ0.out ao rfl (by simp [Value.oneCell']) ?_)
  refine bodyPost_ret (v:=.tuple #[.agg #[.int .u8 ↑x.t.toNat,.bool x.mu],.bool true]) (au (p:=4) (q:=5) (ty:=54) (by kernel_rfl) _ _ Y 54 #[.int .u8 ↑x.t.toNat,.bool x.mu] (0,0) D rfl (setRow_heap _ _ #[.int .u8 0,.bool false] _ _ _ HZ0.out) HU.out HD.out ao (.bool true) rfl) rfl ?_
  exact ⟨rfl,ab HB0.out HY.out _⟩
theorem satF_any (xs:List FT) (v:Value) (i:Nat) (w:World) (hv:aa w (· < w.heap.size) xs v) (hi:i < 4294967296) (hl:xs.length ≤ 4000000) :
  Calls Tryz.prog 79 #[v,.int .u32 ↑i] w fun e w'=>∃ A c A' c',e = .returned (.tuple #[.agg #[.slice A ((xs[i]?).getD ⟨[],[]⟩).params.length c,.slice A' ((xs[i]?).getD ⟨[],[]⟩).results.length c'],.bool (xs[i]?).isSome]) ∧ aa w' (· < w'.heap.size) ((xs[i]?).getD ⟨[],[]⟩).params (.slice A ((xs[i]?).getD ⟨[],[]⟩).params.length c) ∧ aa w' (· < w'.heap.size) ((xs[i]?).getD ⟨[],[]⟩).results (.slice A' ((xs[i]?).getD ⟨[],[]⟩).results.length c') ∧ Below w.heap.size w w':=by
 obtain ⟨D,hu,hd⟩:=descOf bU
 have HU:=J hu
 have HD:=J hd
 clear hu hd
 obtain ⟨A,c,rfl,_,_,_,hL⟩:=hv
 have HL:=J hL
 obtain ⟨n,hn⟩:∃ n,xs.length = n:=⟨_,rfl⟩
 rw [hn] at hl ⊢
 clear hL
 have HZ0:=J (heap_alloc_new w (.cells #[.slice none 0 0,.slice none 0 0] 29))
 have HB0:Hid (Below w.heap.size w (w.alloc (.cells #[.slice none 0 0,.slice none 0 0] 29))):=J bA
 cases hx:xs[i]? with
 | none =>
  have hge:(n:Int) ≤ (i:Int):=by have:=List.getElem?_eq_none_iff.1 hx;omega
  have hgen:n ≤ i:=by omega
  clear hx hn
  go_enter Tryz.func79,Tryz.ntmps79
  go_upto_region 1 with fail
  generalize w.alloc (.cells #[.slice none 0 0,.slice none 0 0] 29) = w0 at HZ0 HB0 ⊢
  obtain ⟨Y,hY⟩:∃ Y,w.heap.size = Y:=⟨_,rfl⟩
  rw [hY] at HZ0
  have HY:Hid (w.heap.size ≤ Y):=J (by omega)
  simp only [hY]
  clear hY
  have HB1:Hid (Below w.heap.size w (w0.alloc (.cells #[.slice none 0 0,.slice none 0 0] 29))):=J (HB0.out.alloc HB0.out.size _)
  have HZ1:Hid ((w0.alloc (.cells #[.slice none 0 0,.slice none 0 0] 29)).heap[Y]? = some (.cells #[.slice none 0 0,.slice none 0 0] 29 (0,0))):=J ((Below.heap_alloc w0 _ _ (gL HZ0.out)).trans HZ0.out)
  have HN1:=J (heap_alloc_new w0 (.cells #[.slice none 0 0,.slice none 0 0] 29))
  go_upto_region 3 with fail
  generalize w0.alloc (.cells #[.slice none 0 0,.slice none 0 0] 29) = w1 at HZ1 HB1 HN1 ⊢
  obtain ⟨n0,n1⟩:=ae HN1.out
  go_wp2_with (refine ah rfl 29 (.tmp 4) (.tmp 13) rfl rfl Y #[.slice none 0 0,.slice none 0 0] rfl rfl 29 #[.slice none 0 0,.slice none 0 0] HZ1.out ak rfl (by simp [Value.oneCell']) ?_)
  refine bodyPost_ret (v:=.tuple #[.agg #[.slice none 0 0,.slice none 0 0],.bool false]) (au (p:=4) (q:=5) (ty:=29) (by kernel_rfl) _ _ Y 29 #[.slice none 0 0,.slice none 0 0] (0,0) D rfl (setRow_heap _ _ #[.slice none 0 0,.slice none 0 0] _ _ _ HZ1.out) HU.out HD.out ak (.bool false) rfl) rfl ?_
  exact ⟨none,0,none,0,rfl,aa.nil _ _,aa.nil _ _,ab HB1.out HY.out _⟩
 | some x =>
  have hge:decide ((n:Int) ≤ (i:Int)) = false:=decide_eq_false (by have:=(List.getElem?_eq_some_iff.1 hx).1;omega)
  have hgen:decide (n ≤ i) = false:=decide_eq_false (by have:=(List.getElem?_eq_some_iff.1 hx).1;omega)
  have hlt:(i:Int) < (n:Int):=by have:=(List.getElem?_eq_some_iff.1 hx).1;omega
  obtain ⟨g,o,D1,d1,D2,d2,rfl,hg,hc0,hc1,hs1,hs2⟩:=ft_at HL.out hx
  obtain ⟨p1,hp1⟩:∃ p,x.params.length = p:=⟨_,rfl⟩
  obtain ⟨p2,hp2⟩:∃ p,x.results.length = p:=⟨_,rfl⟩
  rw [hp1] at hc0 hs1
  rw [hp2] at hc1 hs2
  have HP1:=J hp1
  have HP2:=J hp2
  have HS1:=J hs1
  have HS2:=J hs2
  clear hp1 hp2 hs1 hs2
  have z0:=(HB0.out.cell (p:=⟨g,o + i * 2,none⟩) hg).trans hc0
  have z1:=(HB0.out.cell (p:=⟨g,o + i * 2 + 1,none⟩) hg).trans hc1
  clear hx hn hc0 hc1
  go_enter Tryz.func79,Tryz.ntmps79
  go_upto_region 1 with fail
  generalize w.alloc (.cells #[.slice none 0 0,.slice none 0 0] 29) = w0 at HZ0 HB0 z0 z1 ⊢
  obtain ⟨Y,hY⟩:∃ Y,w.heap.size = Y:=⟨_,rfl⟩
  rw [hY] at HZ0
  have HY:Hid (w.heap.size ≤ Y):=J (by omega)
  simp only [hY]
  clear hY
  go_wp2_with (refine ah rfl 29 (.tmp 4) (.tmp 17) rfl rfl Y #[.slice D1 p1 d1,.slice D2 p2 d2] rfl rfl 29 #[.slice none 0 0,.slice none 0 0] HZ0.out ak rfl (by simp [Value.oneCell']) ?_)
  refine bodyPost_ret (v:=.tuple #[.agg #[.slice D1 p1 d1,.slice D2 p2 d2],.bool true]) (au (p:=4) (q:=5) (ty:=29) (by kernel_rfl) _ _ Y 29 #[.slice D1 p1 d1,.slice D2 p2 d2] (0,0) D rfl (setRow_heap _ _ #[.slice none 0 0,.slice none 0 0] _ _ _ HZ0.out) HU.out HD.out ak (.bool true) rfl) rfl ?_
  have hbz:=ab HB0.out HY.out #[.slice D1 p1 d1,.slice D2 p2 d2]
  refine ⟨D1,d1,D2,d2,?_,?_,?_,hbz⟩
  ·simp only [Option.getD_some,Option.isSome_some,HP1.out,HP2.out]
  ·simp only [Option.getD_some,HP1.out];exact HS1.out.grow hbz
  ·simp only [Option.getD_some,HP2.out];exact HS2.out.grow hbz
end Go.Proofs.YtmpelmihdpomjaaGreat
