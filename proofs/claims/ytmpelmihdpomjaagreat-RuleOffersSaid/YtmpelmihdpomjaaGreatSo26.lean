/-
  Layer 8's program: what a space is asked: Global, Table, Mem, Type, Func. (gen/space/ask2.py)
-/
import Derived.Test.YtmpelmihdpomjaaGreatSo01
import Derived.Test.YtmpelmihdpomjaaGreatSo25
import Derived.Test.YtmpelmihdpomjaaGreatSo20
import Derived.Test.YtmpelmihdpomjaaGreatSo04
import Derived.Test.YtmpelmihdpomjaaGreatSo08
set_option maxRecDepth 100000
set_option maxHeartbeats 4000000
namespace Go.Proofs.YtmpelmihdpomjaaGreat
open Go.RowKit Ins Bin Sp
theorem aV {w:World} {X:Nat} {x0 x1 x2 x3 x4 x5 x6 x7 x8 x9:Value} {t:TypeId} (h:w.heap[X]? = some (.cells #[x0,x1,x2,x3,x4,x5,x6,x7,x8,x9] t (0,0))):w.cell? ⟨X,0,none⟩ = some x0 ∧ w.cell? ⟨X,1,none⟩ = some x1 ∧ w.cell? ⟨X,2,none⟩ = some x2 ∧ w.cell? ⟨X,3,none⟩ = some x3 ∧ w.cell? ⟨X,4,none⟩ = some x4 ∧ w.cell? ⟨X,5,none⟩ = some x5 ∧ w.cell? ⟨X,6,none⟩ = some x6 ∧ w.cell? ⟨X,7,none⟩ = some x7 ∧ w.cell? ⟨X,8,none⟩ = some x8 ∧ w.cell? ⟨X,9,none⟩ = some x9:=by
 refine ⟨?_,?_,?_,?_,?_,?_,?_,?_,?_,?_⟩ <;> (rw [cell_of_row w X _ _ t (0,0) h];rfl)
structure cg (m:M):Prop where
 types:m.types.length ≤ 4000000
 each:∀ x ∈ m.types,x.params.length ≤ 4000000 ∧ x.results.length ≤ 4000000
 funs:(funs m).length ≤ 4000000
 tabs:(tabs m).length ≤ 4000000
 mems:(mems m).length ≤ 4000000
 globs:(globs m).length ≤ 4000000
 exports:m.exports.length ≤ 4000000
theorem Lots.some {m:M} (h:Lots m):cg m where
 types:=Nat.le_trans h.types (by decide)
 each x hx:=⟨Nat.le_trans (h.each x hx).1 (by decide),Nat.le_trans (h.each x hx).2 (by decide)⟩
 funs:=by have:=bW m 0;have:=h.imports;have:=h.funcs;simp [Sp.funs];omega
 tabs:=by have:=bW m 1;have:=h.imports;have:=h.tables;simp [Sp.tabs];omega
 mems:=by have:=bW m 2;have:=h.imports;have:=h.mems;simp [Sp.mems];omega
 globs:=by have:=bW m 3;have:=h.imports;have:=h.globals;simp [Sp.globs];omega
 exports:=Nat.le_trans h.exports (by decide)
theorem Few.some {m:M} (h:Few m):cg m:=Lots.some h.lots
def bt (o:Option FT) (w:World) (e:Ending) (w':World):Prop:=∃ u v,e = .returned (.tuple #[.agg #[u,v],.bool o.isSome]) ∧ aa w' (w.heap.size ≤ ·) (o.getD ⟨[],[]⟩).params u ∧ aa w' (w.heap.size ≤ ·) (o.getD ⟨[],[]⟩).results v ∧ Below w.heap.size w w'
theorem bt.func {o:Option FT} {w w':World} {e:Ending} (h:bt o w e w'):FuncPost o w e w':=by
 obtain ⟨u,v,h1,h2,h3,h4⟩:=h
 exact ⟨u,v,h1,h2.more (fun k hk _=>hk),h3.more (fun k hk _=>hk),h4⟩
theorem cq (p:Option Addr) (m:M) (i:Nat) (w:World) (h:Recv w p m) (hl:cg m) (hi:i < 4294967296) :
  Calls Tryz.prog 93 #[.pointer p,.int .u32 ↑i] w fun e w'=>bP ((globs m)[i]?) w e w':=by
 obtain ⟨D,hu,hd⟩:=descOf dG
 have HU:=J hu
 have HD:=J hd
 clear hu hd
 have HL:=J hl.globs
 have HZ0:=J (heap_alloc_new w (.cells #[.int .u8 0,.bool false] 54))
 have HB0:Hid (Below w.heap.size w (w.alloc (.cells #[.int .u8 0,.bool false] 54))):=J bA
 have HR:=J (h.grow HB0.out)
 clear h hl
 go_enter Tryz.func93,Tryz.ntmps93
 go_upto_region 1 with fail
 generalize w.alloc (.cells #[.int .u8 0,.bool false] 54) = w0 at HZ0 HB0 HR ⊢
 obtain ⟨Y,hY⟩:∃ Y,w.heap.size = Y:=⟨_,rfl⟩
 rw [hY] at HZ0
 have HY:Hid (w.heap.size ≤ Y):=J (by omega)
 simp only [hY]
 clear hY
 go_wp2_with (first | (go_at_call 59;refine (aJ p m w0 HR.out).mono ?_;rintro e w1 ⟨P,rfl,hs,hb⟩;have HB1:=J (HB0.out.trans (hb.mono HB0.out.size));have HZ1:=J ((hb.block Y (gL HZ0.out)).trans HZ0.out);obtain ⟨A1,d1,A2,d2,A3,d3,A4,d4,A5,d5,A6,d6,h0,h1,h2,h3,h4,h5,h6⟩:=hs;obtain ⟨b0,b1,b2,b3,b4,b5,b6,b7,b8,b9⟩:=aV h0;have HS:=J h5;clear hb h0 h1 h2 h3 h4 h5 h6) | (go_at_call 122;refine (satG_any (globs m) _ i w1 HS.out hi HL.out).mono ?_;rintro e w2 ⟨rfl,hb⟩;have HB2:=J (HB1.out.trans (hb.mono HB1.out.size));have HZ2:=J ((hb.block Y (gL HZ1.out)).trans HZ1.out);clear hb b0 b1 b2 b3 b4 b5 b6 b7 b8 b9) | (refine ah rfl 54 (.tmp 4) (.tmp 14) rfl rfl Y (globArr (((globs m)[i]?).getD ⟨0,false⟩)) rfl rfl 54 #[.int .u8 0,.bool false] HZ2.out ao rfl (by simp [globArr,Value.oneCell']) ?_))
 refine bodyPost_ret (v:=.tuple #[.agg (globArr (((globs m)[i]?).getD ⟨0,false⟩)),.bool ((globs m)[i]?).isSome]) (au (p:=4) (q:=5) (ty:=54) (by kernel_rfl) _ _ Y 54 (globArr (((globs m)[i]?).getD ⟨0,false⟩)) (0,0) D rfl (setRow_heap _ _ #[.int .u8 0,.bool false] _ _ _ HZ2.out) HU.out HD.out ao (.bool ((globs m)[i]?).isSome) rfl) rfl ?_
 exact ⟨rfl,ab HB2.out HY.out _⟩
theorem cY (p:Option Addr) (m:M) (i:Nat) (w:World) (h:Recv w p m) (hl:cg m) (hi:i < 4294967296) :
  Calls Tryz.prog 61 #[.pointer p,.int .u32 ↑i] w fun e w'=>bR ((tabs m)[i]?) w e w':=by
 obtain ⟨D,hu,hd⟩:=descOf di
 have HU:=J hu
 have HD:=J hd
 clear hu hd
 have HL:=J hl.tabs
 have HZ0:=J (heap_alloc_new w (.cells #[.int .u32 0,.int .i64 0] 66))
 have HB0:Hid (Below w.heap.size w (w.alloc (.cells #[.int .u32 0,.int .i64 0] 66))):=J bA
 have HR:=J (h.grow HB0.out)
 clear h hl
 go_enter Tryz.func61,Tryz.ntmps61
 go_upto_region 1 with fail
 generalize w.alloc (.cells #[.int .u32 0,.int .i64 0] 66) = w0 at HZ0 HB0 HR ⊢
 obtain ⟨Y,hY⟩:∃ Y,w.heap.size = Y:=⟨_,rfl⟩
 rw [hY] at HZ0
 have HY:Hid (w.heap.size ≤ Y):=J (by omega)
 simp only [hY]
 clear hY
 go_wp2_with (first | (go_at_call 59;refine (aJ p m w0 HR.out).mono ?_;rintro e w1 ⟨P,rfl,hs,hb⟩;have HB1:=J (HB0.out.trans (hb.mono HB0.out.size));have HZ1:=J ((hb.block Y (gL HZ0.out)).trans HZ0.out);obtain ⟨A1,d1,A2,d2,A3,d3,A4,d4,A5,d5,A6,d6,h0,h1,h2,h3,h4,h5,h6⟩:=hs;obtain ⟨b0,b1,b2,b3,b4,b5,b6,b7,b8,b9⟩:=aV h0;have HS:=J h3;clear hb h0 h1 h2 h3 h4 h5 h6) | (go_at_call 84;refine (satL_any (tabs m) _ i w1 HS.out hi HL.out).mono ?_;rintro e w2 ⟨rfl,hb⟩;have HB2:=J (HB1.out.trans (hb.mono HB1.out.size));have HZ2:=J ((hb.block Y (gL HZ1.out)).trans HZ1.out);clear hb b0 b1 b2 b3 b4 b5 b6 b7 b8 b9) | (refine ah rfl 66 (.tmp 4) (.tmp 14) rfl rfl Y (limArr (((tabs m)[i]?).getD ⟨0,0⟩)) rfl rfl 66 #[.int .u32 0,.int .i64 0] HZ2.out aY rfl (by simp [limArr,Value.oneCell']) ?_))
 refine bodyPost_ret (v:=.tuple #[.agg (limArr (((tabs m)[i]?).getD ⟨0,0⟩)),.bool ((tabs m)[i]?).isSome]) (au (p:=4) (q:=5) (ty:=66) (by kernel_rfl) _ _ Y 66 (limArr (((tabs m)[i]?).getD ⟨0,0⟩)) (0,0) D rfl (setRow_heap _ _ #[.int .u32 0,.int .i64 0] _ _ _ HZ2.out) HU.out HD.out aY (.bool ((tabs m)[i]?).isSome) rfl) rfl ?_
 exact ⟨rfl,ab HB2.out HY.out _⟩
theorem dw (p:Option Addr) (m:M) (i:Nat) (w:World) (h:Recv w p m) (hl:cg m) (hi:i < 4294967296) :
  Calls Tryz.prog 63 #[.pointer p,.int .u32 ↑i] w fun e w'=>bR ((mems m)[i]?) w e w':=by
 obtain ⟨D,hu,hd⟩:=descOf di
 have HU:=J hu
 have HD:=J hd
 clear hu hd
 have HL:=J hl.mems
 have HZ0:=J (heap_alloc_new w (.cells #[.int .u32 0,.int .i64 0] 66))
 have HB0:Hid (Below w.heap.size w (w.alloc (.cells #[.int .u32 0,.int .i64 0] 66))):=J bA
 have HR:=J (h.grow HB0.out)
 clear h hl
 go_enter Tryz.func63,Tryz.ntmps63
 go_upto_region 1 with fail
 generalize w.alloc (.cells #[.int .u32 0,.int .i64 0] 66) = w0 at HZ0 HB0 HR ⊢
 obtain ⟨Y,hY⟩:∃ Y,w.heap.size = Y:=⟨_,rfl⟩
 rw [hY] at HZ0
 have HY:Hid (w.heap.size ≤ Y):=J (by omega)
 simp only [hY]
 clear hY
 go_wp2_with (first | (go_at_call 59;refine (aJ p m w0 HR.out).mono ?_;rintro e w1 ⟨P,rfl,hs,hb⟩;have HB1:=J (HB0.out.trans (hb.mono HB0.out.size));have HZ1:=J ((hb.block Y (gL HZ0.out)).trans HZ0.out);obtain ⟨A1,d1,A2,d2,A3,d3,A4,d4,A5,d5,A6,d6,h0,h1,h2,h3,h4,h5,h6⟩:=hs;obtain ⟨b0,b1,b2,b3,b4,b5,b6,b7,b8,b9⟩:=aV h0;have HS:=J h4;clear hb h0 h1 h2 h3 h4 h5 h6) | (go_at_call 84;refine (satL_any (mems m) _ i w1 HS.out hi HL.out).mono ?_;rintro e w2 ⟨rfl,hb⟩;have HB2:=J (HB1.out.trans (hb.mono HB1.out.size));have HZ2:=J ((hb.block Y (gL HZ1.out)).trans HZ1.out);clear hb b0 b1 b2 b3 b4 b5 b6 b7 b8 b9) | (refine ah rfl 66 (.tmp 4) (.tmp 14) rfl rfl Y (limArr (((mems m)[i]?).getD ⟨0,0⟩)) rfl rfl 66 #[.int .u32 0,.int .i64 0] HZ2.out aY rfl (by simp [limArr,Value.oneCell']) ?_))
 refine bodyPost_ret (v:=.tuple #[.agg (limArr (((mems m)[i]?).getD ⟨0,0⟩)),.bool ((mems m)[i]?).isSome]) (au (p:=4) (q:=5) (ty:=66) (by kernel_rfl) _ _ Y 66 (limArr (((mems m)[i]?).getD ⟨0,0⟩)) (0,0) D rfl (setRow_heap _ _ #[.int .u32 0,.int .i64 0] _ _ _ HZ2.out) HU.out HD.out aY (.bool ((mems m)[i]?).isSome) rfl) rfl ?_
 exact ⟨rfl,ab HB2.out HY.out _⟩
theorem cK (p:Option Addr) (m:M) (i:Nat) (w:World) (h:Recv w p m) (hl:cg m) (hi:i < 4294967296) :
  Calls Tryz.prog 52 #[.pointer p,.int .u32 ↑i] w fun e w'=>bt (m.types[i]?) w e w':=by
 have HL:=J hl.types
 have HE:Hid (((m.types[i]?).getD ⟨[],[]⟩).params.length ≤ 4294967296 ∧ ((m.types[i]?).getD ⟨[],[]⟩).results.length ≤ 4294967296):=J (by
  cases hx:m.types[i]? with
  | none=>simp
  | some x=>have:=hl.each x (List.mem_of_getElem? hx);simp;omega)
 have HAT:=J (fun W v (hv:aa W (· < W.heap.size) m.types v)=>satF_any m.types v i W hv hi HL.out)
 generalize m.types[i]? = o at HE HAT ⊢
 obtain ⟨x,hx⟩:∃ x,o.getD ⟨[],[]⟩ = x:=⟨_,rfl⟩
 have HX:=J hx
 rw [hx] at HE HAT
 clear hx
 generalize hbb:o.isSome = bb at HAT
 have HBB:=J hbb
 clear hbb
 obtain ⟨p1,hp1⟩:∃ p,x.params.length = p:=⟨_,rfl⟩
 obtain ⟨p2,hp2⟩:∃ p,x.results.length = p:=⟨_,rfl⟩
 have HCP:=J (fun W u v (hu:aa W (· < W.heap.size) x.params u) (hv:aa W (· < W.heap.size) x.results v)=>eT x u v W hu hv HE.out.1 HE.out.2)
 simp only [hp1,hp2] at HAT HCP
 clear hp1 hp2
 obtain ⟨D,hu,hd⟩:=descOf bU
 have HU:=J hu
 have HD:=J hd
 clear hu hd
 have HZ0:=J (heap_alloc_new w (.cells #[.slice none 0 0,.slice none 0 0] 29))
 have HB0:Hid (Below w.heap.size w (w.alloc (.cells #[.slice none 0 0,.slice none 0 0] 29))):=J bA
 have HR:=J (h.grow HB0.out)
 clear h hl
 go_enter Tryz.func52,Tryz.ntmps52
 go_upto_region 1 with fail
 generalize w.alloc (.cells #[.slice none 0 0,.slice none 0 0] 29) = w0 at HZ0 HB0 HR ⊢
 obtain ⟨Y,hY⟩:∃ Y,w.heap.size = Y:=⟨_,rfl⟩
 rw [hY] at HZ0
 have HY:Hid (w.heap.size ≤ Y):=J (by omega)
 simp only [hY]
 clear hY
 go_upto_region 2 with (first | (go_at_call 59;refine (aJ p m w0 HR.out).mono ?_;rintro e w1 ⟨P,rfl,hs,hb⟩;have HB1:=J (HB0.out.trans (hb.mono HB0.out.size));have HZ1:=J ((hb.block Y (gL HZ0.out)).trans HZ0.out);have HR1:=J (HR.out.grow hb);obtain ⟨A1,d1,A2,d2,A3,d3,A4,d4,A5,d5,A6,d6,h0,h1,h2,h3,h4,h5,h6⟩:=hs;obtain ⟨b0,b1,b2,b3,b4,b5,b6,b7,b8,b9⟩:=aV h0;have HS:=J h1;clear hb h0 h1 h2 h3 h4 h5 h6) | (go_at_call 79;refine (HAT.out w1 _ HS.out).mono ?_;rintro e w2 ⟨E1,f1,E2,f2,rfl,hs1,hs2,hb⟩;have HB2:=J (HB1.out.trans (hb.mono HB1.out.size));have HZ2:=J ((hb.block Y (gL HZ1.out)).trans HZ1.out);have HS1:=J hs1;have HS2:=J hs2;clear hb hs1 hs2 b0 b1 b2 b3 b4 b5 b6 b7 b8 b9))
 have hba:Below w2.heap.size w2 (w2.alloc (.cells #[.slice E1 p1 f1,.slice E2 p2 f2] 29)):=bA
 have HT:=J (heap_alloc_new w2 (.cells #[.slice E1 p1 f1,.slice E2 p2 f2] 29))
 have HB3:=J (HB2.out.trans (hba.mono HB2.out.size))
 have HZ3:=J ((hba.block Y (gL HZ2.out)).trans HZ2.out)
 have HS1:=J (HS1.out.grow hba)
 have HS2:=J (HS2.out.grow hba)
 clear hba
 generalize w2.alloc (.cells #[.slice E1 p1 f1,.slice E2 p2 f2] 29) = w3 at HT HB3 HZ3 HS1 HS2 ⊢
 obtain ⟨t0,t1⟩:=ae HT.out
 go_wp2_with fail
 refine (HCP.out w3 _ _ HS1.out HS2.out).mono ?_
 rintro e w4 ⟨G1,k1,G2,k2,rfl,hs1,hs2,hb⟩
 have HB4:=J (HB3.out.trans (hb.mono HB3.out.size))
 have HZ4:=J ((hb.block Y (gL HZ3.out)).trans HZ3.out)
 have HS1:=J (hs1.more (S':=(· < w4.heap.size)) (fun k hk _=>hk))
 have HS2:=J (hs2.more (S':=(· < w4.heap.size)) (fun k hk _=>hk))
 have HS3:=J hs1
 have HS4:=J hs2
 have HYL:Hid (Y < w3.heap.size):=J (gL HZ3.out)
 clear hb hs1 hs2 t0 t1
 go_wp2_with (refine ah rfl 29 (.tmp 4) (.tmp 19) rfl rfl Y #[.slice G1 p1 k1,.slice G2 p2 k2] rfl rfl 29 #[.slice none 0 0,.slice none 0 0] HZ4.out ak rfl (by simp [Value.oneCell']) ?_)
 refine bodyPost_ret (v:=.tuple #[.agg #[.slice G1 p1 k1,.slice G2 p2 k2],.bool bb]) (au (p:=4) (q:=5) (ty:=29) (by kernel_rfl) _ _ Y 29 #[.slice G1 p1 k1,.slice G2 p2 k2] (0,0) D rfl (setRow_heap _ _ #[.slice none 0 0,.slice none 0 0] _ _ _ (HZ4.out)) HU.out HD.out ak (.bool bb) rfl) rfl ?_
 have hms:Mod (· = Y) w4 (w4.setRow Y #[.slice G1 p1 k1,.slice G2 p2 k2]):=⟨rfl,rfl,rfl,by simp,fun k _ ht=>setRow_other w4 Y k _ ht⟩
 refine ⟨_,_,by rw [HBB.out],?_,?_,ab HB4.out HY.out _⟩
 ·rw [HX.out]
  exact (HS3.out.mod hms (fun g _ hg e=>by have:=HYL.out;have e':g = Y:=e;have hg':w3.heap.size ≤ g:=hg;omega)).more (fun k hk hg=>Nat.le_trans HB3.out.size hg)
 ·rw [HX.out]
  exact (HS4.out.mod hms (fun g _ hg e=>by have:=HYL.out;have e':g = Y:=e;have hg':w3.heap.size ≤ g:=hg;omega)).more (fun k hk hg=>Nat.le_trans HB3.out.size hg)
theorem eU (p:Option Addr) (m:M) (i:Nat) (w:World) (h:Recv w p m) (hl:cg m) (hi:i < 4294967296) (hF:∀ t ∈ funs m,t < 4294967296) :
  Calls Tryz.prog 66 #[.pointer p,.int .u32 ↑i] w fun e w'=>FuncPost (func m i) w e w':=by
 have HL:=J hl.funs
 have HTP:=J (fun t (ht:t < 4294967296) W (hr:Recv W p m)=>cK p m t W hr hl ht)
 have HAT:=J (fun W v (hv:aa W (· < W.heap.size) (funs m) v)=>satU_any (funs m) v i W hv hi HL.out)
 cases hx:(funs m)[i]? with
 | none =>
  rw [hx] at HAT
  have HFN:Hid (func m i = none):=J (by unfold func;rw [hx];rfl)
  clear hx
  obtain ⟨D,hu,hd⟩:=descOf bU
  have HU:=J hu
  have HD:=J hd
  clear hu hd
  have HZ0:=J (heap_alloc_new w (.cells #[.slice none 0 0,.slice none 0 0] 29))
  have HB0:Hid (Below w.heap.size w (w.alloc (.cells #[.slice none 0 0,.slice none 0 0] 29))):=J bA
  have HR:=J (h.grow HB0.out)
  clear h hl
  go_enter Tryz.func66,Tryz.ntmps66
  go_upto_region 1 with fail
  generalize w.alloc (.cells #[.slice none 0 0,.slice none 0 0] 29) = w0 at HZ0 HB0 HR ⊢
  obtain ⟨Y,hY⟩:∃ Y,w.heap.size = Y:=⟨_,rfl⟩
  rw [hY] at HZ0
  have HY:Hid (w.heap.size ≤ Y):=J (by omega)
  simp only [hY]
  clear hY
  go_wp2_with (first | (go_at_call 59;refine (aJ p m w0 HR.out).mono ?_;rintro e w1 ⟨P,rfl,hs,hb⟩;have HB1:=J (HB0.out.trans (hb.mono HB0.out.size));have HZ1:=J ((hb.block Y (gL HZ0.out)).trans HZ0.out);have HR1:=J (HR.out.grow hb);obtain ⟨A1,d1,A2,d2,A3,d3,A4,d4,A5,d5,A6,d6,h0,h1,h2,h3,h4,h5,h6⟩:=hs;obtain ⟨b0,b1,b2,b3,b4,b5,b6,b7,b8,b9⟩:=aV h0;have HS:=J h2;clear hb h0 h1 h2 h3 h4 h5 h6) | (go_at_call 86;refine (HAT.out w1 _ HS.out).mono ?_;rintro e w2 ⟨rfl,rfl⟩;clear b0 b1 b2 b3 b4 b5 b6 b7 b8 b9) | (refine ah rfl 29 (.tmp 4) (.tmp 21) rfl rfl Y #[.slice none 0 0,.slice none 0 0] rfl rfl 29 #[.slice none 0 0,.slice none 0 0] HZ1.out ak rfl (by simp [Value.oneCell']) ?_))
  refine bodyPost_ret (v:=.tuple #[.agg #[.slice none 0 0,.slice none 0 0],.bool false]) (au (p:=4) (q:=5) (ty:=29) (by kernel_rfl) _ _ Y 29 #[.slice none 0 0,.slice none 0 0] (0,0) D rfl (setRow_heap _ _ #[.slice none 0 0,.slice none 0 0] _ _ _ (HZ1.out)) HU.out HD.out ak (.bool false) rfl) rfl ?_
  rw [HFN.out]
  exact ⟨_,_,rfl,aa.nil _ _,aa.nil _ _,ab HB1.out HY.out _⟩
 | some t =>
  rw [hx] at HAT
  have HFN:Hid (func m i = m.types[t]?):=J (by unfold func;rw [hx];rfl)
  have ht:t < 4294967296:=hF t (List.mem_of_getElem? hx)
  clear hx
  obtain ⟨D,hu,hd⟩:=descOf bU
  have HU:=J hu
  have HD:=J hd
  clear hu hd
  have HZ0:=J (heap_alloc_new w (.cells #[.slice none 0 0,.slice none 0 0] 29))
  have HB0:Hid (Below w.heap.size w (w.alloc (.cells #[.slice none 0 0,.slice none 0 0] 29))):=J bA
  have HR:=J (h.grow HB0.out)
  clear h hl
  go_enter Tryz.func66,Tryz.ntmps66
  go_upto_region 1 with fail
  generalize w.alloc (.cells #[.slice none 0 0,.slice none 0 0] 29) = w0 at HZ0 HB0 HR ⊢
  obtain ⟨Y,hY⟩:∃ Y,w.heap.size = Y:=⟨_,rfl⟩
  rw [hY] at HZ0
  have HY:Hid (w.heap.size ≤ Y):=J (by omega)
  simp only [hY]
  clear hY
  go_wp2_with (first | (go_at_call 59;refine (aJ p m w0 HR.out).mono ?_;rintro e w1 ⟨P,rfl,hs,hb⟩;have HB1:=J (HB0.out.trans (hb.mono HB0.out.size));have HZ1:=J ((hb.block Y (gL HZ0.out)).trans HZ0.out);have HR1:=J (HR.out.grow hb);obtain ⟨A1,d1,A2,d2,A3,d3,A4,d4,A5,d5,A6,d6,h0,h1,h2,h3,h4,h5,h6⟩:=hs;obtain ⟨b0,b1,b2,b3,b4,b5,b6,b7,b8,b9⟩:=aV h0;have HS:=J h2;clear hb h0 h1 h2 h3 h4 h5 h6) | (go_at_call 86;refine (HAT.out w1 _ HS.out).mono ?_;rintro e w2 ⟨rfl,rfl⟩;clear b0 b1 b2 b3 b4 b5 b6 b7 b8 b9) | (go_at_call 52;refine (HTP.out t ht _ HR1.out).mono ?_;rintro e w3 hq;obtain ⟨u,v,rfl,hs1,hs2,hb⟩:=hq;obtain ⟨E1,f1,e1,_⟩:=id hs1;obtain ⟨E2,f2,e2,_⟩:=id hs2;have HS1:=J hs1;have HS2:=J hs2;have HB3:=J (HB1.out.trans (hb.mono HB1.out.size));have HZ3:=J ((hb.block Y (gL HZ1.out)).trans HZ1.out);clear hb hs1 hs2;generalize hq1:(Option.getD m.types[t]? ⟨[],[]⟩).params.length = p1 at e1;generalize hq2:(Option.getD m.types[t]? ⟨[],[]⟩).results.length = p2 at e2;subst e1 e2;clear hq1 hq2) | (refine ah rfl 29 (.tmp 4) (.tmp 25) rfl rfl Y #[.slice E1 p1 f1,.slice E2 p2 f2] rfl rfl 29 #[.slice none 0 0,.slice none 0 0] HZ3.out ak rfl (by simp [Value.oneCell']) ?_))
  refine bodyPost_ret (v:=.tuple #[.agg #[.slice E1 p1 f1,.slice E2 p2 f2],.bool (m.types[t]?).isSome]) (au (p:=4) (q:=5) (ty:=29) (by kernel_rfl) _ _ Y 29 #[.slice E1 p1 f1,.slice E2 p2 f2] (0,0) D rfl (setRow_heap _ _ #[.slice none 0 0,.slice none 0 0] _ _ _ (HZ3.out)) HU.out HD.out ak (.bool (m.types[t]?).isSome) rfl) rfl ?_
  rw [HFN.out]
  have hms:Mod (· = Y) w3 (w3.setRow Y #[.slice E1 p1 f1,.slice E2 p2 f2]):=⟨rfl,rfl,rfl,by simp,fun k _ ht=>setRow_other w3 Y k _ ht⟩
  have hbz:=ab HB3.out HY.out #[.slice E1 p1 f1,.slice E2 p2 f2]
  have hyl:Y < w2.heap.size:=(gL HZ1.out)
  have f {α:Type} [Lay α] {zs:List α} {v:Value} (h:aa w3 (w2.heap.size ≤ ·) zs v):aa (w3.setRow Y #[.slice E1 p1 f1,.slice E2 p2 f2]) (· < (w3.setRow Y #[.slice E1 p1 f1,.slice E2 p2 f2]).heap.size) zs v:=(h.mod hms (fun g _ hg e=>by have e':g = Y:=e;have hg':w2.heap.size ≤ g:=hg;omega)).more (fun k hk _=>hk)
  exact ⟨_,_,rfl,f HS1.out,f HS2.out,hbz⟩
theorem u8_at {w:World} {S:Nat → Prop} {A:Option Addr} {xs:List UInt8} {k:Nat} {x:UInt8} (h:HasL w S A xs) (hx:xs[k]? = some x):∃ g o,A = some ⟨g,o,none⟩ ∧ g < w.heap.size ∧ w.cell? ⟨g,o + k,none⟩ = some (.int .u8 ↑x.toNat):=by
 obtain ⟨g,o,cs,h1,_,h3,h4,h6⟩:=h k x hx
 have h4':cs = [.int .u8 ↑x.toNat]:=h4
 subst h4'
 have e:=h6 0 _ rfl
 rw [show Lay.size UInt8 = 1 from rfl,Nat.mul_one,Nat.add_zero] at e
 exact ⟨g,o,h1,h3,e⟩
theorem bp (xs ys:List UInt8) (u v:Value) (w:World) (hu:aa w (· < w.heap.size) xs u) (hv:aa w (· < w.heap.size) ys v) (hl:xs.length ≤ 4000000) (hl2:ys.length ≤ 4000000) :
  Calls Tryz.prog 80 #[u,v] w fun e w'=>e = .returned (.bool (decide (xs = ys))) ∧ Below w.heap.size w w':=by
 obtain ⟨A1,c1,rfl,_,_,_,hL1⟩:=hu
 obtain ⟨A2,c2,rfl,_,_,_,hL2⟩:=hv
 have HL1:=J hL1
 have HL2:=J hL2
 obtain ⟨n1,hn1⟩:∃ n,xs.length = n:=⟨_,rfl⟩
 obtain ⟨n2,hn2⟩:∃ n,ys.length = n:=⟨_,rfl⟩
 rw [hn1] at hl ⊢
 rw [hn2] at hl2 ⊢
 have HN1:=J hn1
 have HN2:=J hn2
 clear hL1 hL2 hn1 hn2
 by_cases hq:n1 = n2
 ·subst hq
  have hqe:((n1:Int) == (n1:Int)) = true:=by simp
  have hqn:((n1:Int) != (n1:Int)) = false:=by simp
  go_enter Tryz.func80,Tryz.ntmps80
  go_upto_region 4 with fail
  go_loopw [13] (fun i wr=>∃ j:Nat,j ≤ n1 ∧ i = .int .i64 ↑j ∧ Hid (xs.take j = ys.take j) ∧ Hid (Below w.heap.size w wr)) (fun i _=>n1 - (intOf i).toNat)
  case atStart=>exact ⟨0,Nat.zero_le _,rfl,J rfl,J (Below.refl _ _)⟩
  case round =>
   obtain ⟨j,hj,rfl,HE,HB⟩:=hrel
   by_cases hlt:j < n1
   ·have hlti:(j:Int) < (n1:Int):=by omega
    obtain ⟨x,hx⟩:∃ x,xs[j]? = some x:=⟨_,List.getElem?_eq_getElem (by rw [HN1.out];exact hlt)⟩
    obtain ⟨y,hy⟩:∃ y,ys[j]? = some y:=⟨_,List.getElem?_eq_getElem (by rw [HN2.out];exact hlt)⟩
    obtain ⟨g,o,rfl,hg,hc⟩:=u8_at HL1.out hx
    obtain ⟨g2,o2,rfl,hg2,hc2⟩:=u8_at HL2.out hy
    have z0:=(HB.out.cell (p:=⟨g,o + j,none⟩) hg).trans hc
    have z1:=(HB.out.cell (p:=⟨g2,o2 + j,none⟩) hg2).trans hc2
    have HX:=J hx
    have HY:=J hy
    have hxk:=x.toNat_lt
    have hyk:=y.toNat_lt
    clear hx hy hc hc2 hg hg2
    by_cases hxy:x = y
    ·subst hxy
     have HT:Hid (xs.take (j + 1) = ys.take (j + 1)):=J (by rw [List.take_add_one,List.take_add_one,HX.out,HY.out,HE.out])
     have e1:((x.toNat:Int) != (x.toNat:Int)) = false:=by simp
     go_upto_region 6 with fail
     go_quiet (fail)
     go_wp2_with fail
     go_roundw
     case rel=>exact ⟨j + 1,by omega,by go_num,HT,J (Below.dn HB.out _)⟩
     case measure=>simp [intOf];omega
    ·have hne:¬ x.toNat = y.toNat:=fun e=>hxy (UInt8.toNat_inj.1 e)
     have e1:((x.toNat:Int) != (y.toNat:Int)) = true:=by rw [bne_iff_ne];omega
     have HF:Hid (decide (xs = ys) = false):=J (decide_eq_false (fun e=>hxy (by
      have h1:=HX.out
      rw [e,HY.out] at h1
      exact (Option.some.inj h1).symm)))
     clear hxy hne
     go_upto_region 6 with fail
     go_quiet (fail)
     go_wp2_with fail
     go_ret
     exact ⟨by rw [HF.out];rfl,Below.dn HB.out _⟩
   ·have hlti:decide ((j:Int) < (n1:Int)) = false:=decide_eq_false (by omega)
    have HF:Hid (decide (xs = ys) = true):=J (decide_eq_true (by
     have h1:=HE.out
     rw [List.take_of_length_le (by rw [HN1.out];omega),List.take_of_length_le (by rw [HN2.out];omega)] at h1
     exact h1))
    go_wp2_with fail
    go_ret
    exact ⟨by rw [HF.out];rfl,HB.out⟩
 ·have hqe:((n1:Int) == (n2:Int)) = false:=nB (by omega)
  have hqn:((n1:Int) != (n2:Int)) = true:=by rw [bne_iff_ne];omega
  have HF:Hid (decide (xs = ys) = false):=J (decide_eq_false (fun e=>hq (by rw [← HN1.out,← HN2.out,e])))
  clear hq
  go_enter Tryz.func80,Tryz.ntmps80
  go_wp2_with fail
  go_ret
  exact ⟨by rw [HF.out];rfl,Below.refl _ _⟩
theorem src0_any (A:Option Addr) (n c k:Nat) (w:World) (_hn:n ≤ 4000000):Calls Tryz.prog 81 #[.agg #[.slice A n c,.int .i64 ↑k]] w fun e w'=>e = .returned (.tuple #[.int .i64 ↑n,.int .i64 ↑k]) ∧ Below w.heap.size w w':=by
 have HX0:=J (heap_alloc_new w (.cells #[.slice A n c,.int .i64 ↑k] 97))
 have HB0:Hid (Below w.heap.size w (w.alloc (.cells #[.slice A n c,.int .i64 ↑k] 97))):=J bA
 go_enter Tryz.func81,Tryz.ntmps81
 go_upto_region 1 with fail
 generalize w.alloc (.cells #[.slice A n c,.int .i64 ↑k] 97) = w0 at HX0 HB0 ⊢
 obtain ⟨y0,y1⟩:=ae HX0.out
 go_quiet (fail)
 go_wp2_with fail
 go_ret2
 exact ⟨rfl,Below.dn HB0.out _⟩
theorem src1_any (A:Option Addr) (n c k:Nat) (w:World) (_hn:n ≤ 4000000):Calls Tryz.prog 82 #[.agg #[.slice A n c,.int .i64 ↑k]] w fun e w'=>e = .returned (.tuple #[.int .i64 ↑n,.int .i64 ↑k]) ∧ Below w.heap.size w w':=by
 have HX0:=J (heap_alloc_new w (.cells #[.slice A n c,.int .i64 ↑k] 103))
 have HB0:Hid (Below w.heap.size w (w.alloc (.cells #[.slice A n c,.int .i64 ↑k] 103))):=J bA
 go_enter Tryz.func82,Tryz.ntmps82
 go_upto_region 1 with fail
 generalize w.alloc (.cells #[.slice A n c,.int .i64 ↑k] 103) = w0 at HX0 HB0 ⊢
 obtain ⟨y0,y1⟩:=ae HX0.out
 go_quiet (fail)
 go_wp2_with fail
 go_ret2
 exact ⟨rfl,Below.dn HB0.out _⟩
theorem src3_any (A:Option Addr) (n c k:Nat) (w:World) (_hn:n ≤ 4000000):Calls Tryz.prog 83 #[.agg #[.slice A n c,.int .i64 ↑k]] w fun e w'=>e = .returned (.tuple #[.int .i64 ↑n,.int .i64 ↑k]) ∧ Below w.heap.size w w':=by
 have HX0:=J (heap_alloc_new w (.cells #[.slice A n c,.int .i64 ↑k] 109))
 have HB0:Hid (Below w.heap.size w (w.alloc (.cells #[.slice A n c,.int .i64 ↑k] 109))):=J bA
 go_enter Tryz.func83,Tryz.ntmps83
 go_upto_region 1 with fail
 generalize w.alloc (.cells #[.slice A n c,.int .i64 ↑k] 109) = w0 at HX0 HB0 ⊢
 obtain ⟨y0,y1⟩:=ae HX0.out
 go_quiet (fail)
 go_wp2_with fail
 go_ret2
 exact ⟨rfl,Below.dn HB0.out _⟩
theorem dQ (P:Nat) (m:M) (k:Nat) (hk:k < 256) (w:World) (hs:aC w P m) (hl:cg m) :
  Calls Tryz.prog 60 #[.pointer (some ⟨P,0,none⟩),.int .u8 ↑k] w fun e w'=>e = .returned (.tuple #[.int .i64 (count m k:Int),.int .i64 (imported m k:Int)]) ∧ Below w.heap.size w w':=by
 obtain ⟨A1,d1,A2,d2,A3,d3,A4,d4,A5,d5,A6,d6,h0,h1,h2,h3,h4,h5,h6⟩:=hs
 obtain ⟨b0,b1,b2,b3,b4,b5,b6,b7,b8,b9⟩:=aV h0
 clear h0 h1 h2 h3 h4 h5 h6 b0 b9
 rw [ek] at b1
 rw [bk] at b3
 rw [bj] at b5
 rw [cE] at b7
 have l0:count m 0 ≤ 4000000:=by rw [← ek];exact hl.funs
 have l1:count m 1 ≤ 4000000:=by rw [← bk];exact hl.tabs
 have l2:count m 2 ≤ 4000000:=by rw [← bj];exact hl.mems
 have l3:count m 3 ≤ 4000000:=by rw [← cE];exact hl.globs
 have HL0:=J l0
 have HL1:=J l1
 have HL2:=J l2
 have HL3:=J l3
 clear l0 l1 l2 l3 hl
 rcases (by omega:k = 0 ∨ k = 1 ∨ k = 2 ∨ k = 3 ∨ 4 ≤ k) with rfl | rfl | rfl | rfl | h4
 ·have hi:imported m 0 = (imps m 0).length:=aE (by decide)
  rw [hi]
  generalize (imps m 0).length = q at *
  generalize count m 0 = ct at *
  clear hi
  go_enter Tryz.func60,Tryz.ntmps60
  go_wp2_with (go_at_call 81;refine (src0_any _ _ _ _ w HL0.out).mono ?_;rintro e w1 ⟨rfl,hb⟩;have HB:=J hb;clear hb)
  go_ret2
  exact ⟨rfl,HB.out⟩
 ·have hi:imported m 1 = (imps m 1).length:=aE (by decide)
  rw [hi]
  generalize (imps m 1).length = q at *
  generalize count m 1 = ct at *
  clear hi
  go_enter Tryz.func60,Tryz.ntmps60
  go_wp2_with (go_at_call 82;refine (src1_any _ _ _ _ w HL1.out).mono ?_;rintro e w1 ⟨rfl,hb⟩;have HB:=J hb;clear hb)
  go_ret2
  exact ⟨rfl,HB.out⟩
 ·have hi:imported m 2 = (imps m 2).length:=aE (by decide)
  rw [hi]
  generalize (imps m 2).length = q at *
  generalize count m 2 = ct at *
  clear hi
  go_enter Tryz.func60,Tryz.ntmps60
  go_wp2_with (go_at_call 82;refine (src1_any _ _ _ _ w HL2.out).mono ?_;rintro e w1 ⟨rfl,hb⟩;have HB:=J hb;clear hb)
  go_ret2
  exact ⟨rfl,HB.out⟩
 ·have hi:imported m 3 = (imps m 3).length:=aE (by decide)
  rw [hi]
  generalize (imps m 3).length = q at *
  generalize count m 3 = ct at *
  clear hi
  go_enter Tryz.func60,Tryz.ntmps60
  go_wp2_with (go_at_call 83;refine (src3_any _ _ _ _ w HL3.out).mono ?_;rintro e w1 ⟨rfl,hb⟩;have HB:=J hb;clear hb)
  go_ret2
  exact ⟨rfl,HB.out⟩
 ·have q0:((k:Int) == 0) = false:=nB (by omega)
  have q1:((k:Int) == 1) = false:=nB (by omega)
  have q2:((k:Int) == 2) = false:=nB (by omega)
  have q3:((k:Int) == 3) = false:=nB (by omega)
  have hi:imported m k = 0:=imported_no (by omega)
  have hm:mine m k = 0:=by unfold mine;rw [if_neg (by omega),if_neg (by omega),if_neg (by omega),if_neg (by omega)]
  have hc:count m k = 0:=by unfold count;rw [hi,hm]
  rw [hi,hc]
  clear h4 hi hm hc
  go_enter Tryz.func60,Tryz.ntmps60
  go_wp2_with fail
  go_ret2
  exact ⟨rfl,Below.refl _ _⟩
theorem bc (p:Option Addr) (m:M) (k:Nat) (hk:k < 256) (w:World) (h:Recv w p m) (hl:cg m) :
  Calls Tryz.prog 29 #[.pointer p,.int .u8 ↑k] w fun e w'=>e = .returned (.int .i64 (count m k:Int)) ∧ Below w.heap.size w w':=by
 have HR:=J h
 have HC:=J (fun P W (hs:aC W P m)=>dQ P m k hk W hs hl)
 clear h hl
 generalize count m k = ct at HC ⊢
 generalize imported m k = ci at HC
 go_enter Tryz.func29,Tryz.ntmps29
 go_wp2_with (first | (go_at_call 59;refine (aJ p m w HR.out).mono ?_;rintro e w1 ⟨P,rfl,hs,hb⟩;have HS:=J hs;have HB1:=J hb;clear hs hb) | (go_at_call 60;refine (HC.out P w1 HS.out).mono ?_;rintro e w2 ⟨rfl,hb⟩;have HB2:=J (HB1.out.trans (hb.mono HB1.out.size));clear hb))
 go_ret
 exact ⟨rfl,HB2.out⟩
theorem bq (p:Option Addr) (m:M) (k:Nat) (hk:k < 256) (w:World) (h:Recv w p m) (hl:cg m) :
  Calls Tryz.prog 67 #[.pointer p,.int .u8 ↑k] w fun e w'=>e = .returned (.int .i64 (imported m k:Int)) ∧ Below w.heap.size w w':=by
 have HR:=J h
 have HC:=J (fun P W (hs:aC W P m)=>dQ P m k hk W hs hl)
 clear h hl
 generalize count m k = ct at HC
 generalize imported m k = ci at HC ⊢
 go_enter Tryz.func67,Tryz.ntmps67
 go_wp2_with (first | (go_at_call 59;refine (aJ p m w HR.out).mono ?_;rintro e w1 ⟨P,rfl,hs,hb⟩;have HS:=J hs;have HB1:=J hb;clear hs hb) | (go_at_call 60;refine (HC.out P w1 HS.out).mono ?_;rintro e w2 ⟨rfl,hb⟩;have HB2:=J (HB1.out.trans (hb.mono HB1.out.size));clear hb))
 go_ret
 exact ⟨rfl,HB2.out⟩
theorem cJ (x y:FT) (u1 u2 v1 v2:Value) (w:World) (hu1:aa w (· < w.heap.size) x.params u1) (hu2:aa w (· < w.heap.size) x.results u2) (hv1:aa w (· < w.heap.size) y.params v1) (hv2:aa w (· < w.heap.size) y.results v2)
  (hx:x.params.length ≤ 4000000 ∧ x.results.length ≤ 4000000) (hy:y.params.length ≤ 4000000 ∧ y.results.length ≤ 4000000) :
  Calls Tryz.prog 53 #[.agg #[u1,u2],.agg #[v1,v2]] w fun e w'=>e = .returned (.bool (decide (x = y))) ∧ Below w.heap.size w w':=by
 have HQ1:=J (fun W (hb:Below w.heap.size w W)=>bp x.params y.params u1 v1 W (hu1.grow hb) (hv1.grow hb) hx.1 hy.1)
 have HQ2:=J (fun W (hb:Below w.heap.size w W)=>bp x.results y.results u2 v2 W (hu2.grow hb) (hv2.grow hb) hx.2 hy.2)
 have HXY:Hid ((x = y) = (x.params = y.params ∧ x.results = y.results)):=J (by cases x;cases y;simp)
 obtain ⟨A1,c1,rfl,_⟩:=hu1
 obtain ⟨A2,c2,rfl,_⟩:=hu2
 obtain ⟨A3,c3,rfl,_⟩:=hv1
 obtain ⟨A4,c4,rfl,_⟩:=hv2
 generalize x.params.length = n1 at *
 generalize x.results.length = n2 at *
 generalize y.params.length = n3 at *
 generalize y.results.length = n4 at *
 clear hx hy
 have HX0:Hid (((w.alloc (.cells #[.slice A1 n1 c1,.slice A2 n2 c2] 29)).alloc (.cells #[.slice A3 n3 c3,.slice A4 n4 c4] 29)).heap[w.heap.size]? = some (.cells #[.slice A1 n1 c1,.slice A2 n2 c2] 29 (0,0))):=J ((Below.heap_alloc _ _ _ (by simp)).trans (heap_alloc_new w _))
 have HX1:Hid (((w.alloc (.cells #[.slice A1 n1 c1,.slice A2 n2 c2] 29)).alloc (.cells #[.slice A3 n3 c3,.slice A4 n4 c4] 29)).heap[w.heap.size + 1]? = some (.cells #[.slice A3 n3 c3,.slice A4 n4 c4] 29 (0,0))):=J (by have:=heap_alloc_new (w.alloc (.cells #[.slice A1 n1 c1,.slice A2 n2 c2] 29)) (.cells #[.slice A3 n3 c3,.slice A4 n4 c4] 29);simpa using this)
 have HB0:Hid (Below w.heap.size w ((w.alloc (.cells #[.slice A1 n1 c1,.slice A2 n2 c2] 29)).alloc (.cells #[.slice A3 n3 c3,.slice A4 n4 c4] 29))):=J (bA.alloc (by simp) _)
 have HDEC:Hid (decide (x = y) = (decide (x.params = y.params) && decide (x.results = y.results))):=J (by rw [← Bool.decide_and];simp only [HXY.out])
 clear HXY
 generalize decide (x = y) = dd at HDEC ⊢
 generalize decide (x.params = y.params) = e1 at HQ1 HDEC
 generalize decide (x.results = y.results) = e2 at HQ2 HDEC
 go_enter Tryz.func53,Tryz.ntmps53
 go_upto_region 1 with fail
 generalize (w.alloc (.cells #[.slice A1 n1 c1,.slice A2 n2 c2] 29)).alloc (.cells #[.slice A3 n3 c3,.slice A4 n4 c4] 29) = w0 at HX0 HX1 HB0 ⊢
 obtain ⟨y0,y1⟩:=ae HX0.out
 obtain ⟨y2,y3⟩:=ae HX1.out
 cases e1 with
 | false =>
  have tok1:True:=trivial
  go_wp2_with (go_at_call 80;clear tok1;refine (HQ1.out w0 HB0.out).mono ?_;rintro e w1 ⟨rfl,hb⟩;have HB1:=J (HB0.out.trans (hb.mono HB0.out.size));clear hb)
  go_ret
  exact ⟨by rw [HDEC.out];rfl,HB1.out⟩
 | true =>
  have tok1:True:=trivial
  go_wp2_with (first | (go_at_call 80;clear tok1;refine (HQ1.out w0 HB0.out).mono ?_;rintro e w1 ⟨rfl,hb⟩;have HB1:=J (HB0.out.trans (hb.mono HB0.out.size));obtain ⟨y0,y1⟩:=ae ((hb.block _ (gL HX0.out)).trans HX0.out);obtain ⟨y2,y3⟩:=ae ((hb.block _ (gL HX1.out)).trans HX1.out);clear hb) | (go_at_call 80;refine (HQ2.out w1 HB1.out).mono ?_;rintro e w2 ⟨rfl,hb⟩;have HB2:=J (HB1.out.trans (hb.mono HB1.out.size));clear hb))
  go_ret
  exact ⟨by rw [HDEC.out];cases e2 <;> rfl,HB2.out⟩
end Go.Proofs.YtmpelmihdpomjaaGreat
namespace Bo
theorem sz_sm {K n:Nat} {s:Ty.T} (h:Sz K n s):s.sm (n + K):=⟨by have:=h.1;omega,by have:=h.2.1;omega,by have:=h.2.2.1;omega,fun f hf=>⟨by have:=(h.2.2.2 f hf).1;omega,by have:=(h.2.2.2 f hf).2;omega⟩⟩
end Bo
namespace Go.Proofs.YtmpelmihdpomjaaGreat
open Go.RowKit Ins Bin Sp
instance : Lay Bool where
 size:=1
 rep _ _ x cs:=cs = [.bool x]
 len h:=by rw [h];rfl
 mod h _ _:=h
 more h _:=h
structure Ctx where
 w0:World
 sp:Nat
 m:M
 ps:List UInt8
 rs:List UInt8
 ls:List Lc
 v1:Value
 v2:Value
 v3:Value
 v4:Value
def Ctx.B (C:Ctx):Nat:=C.w0.heap.size
structure Ctx.Good (C:Ctx):Prop where
 space:aC C.w0 C.sp C.m
 few:Lots C.m
 funs:∀ t ∈ funs C.m,t < 4294967296
 ps:aa C.w0 (· < C.w0.heap.size) C.ps C.v1
 rs:aa C.w0 (· < C.w0.heap.size) C.rs C.v2
 ls:aa C.w0 (· < C.w0.heap.size) C.ls C.v3
 lp:C.ps.length ≤ 1050000
 lr:C.rs.length ≤ 1050000
 ll:C.ls.length ≤ 1050000
def Ctx.env (C:Ctx):Bo.Env:=⟨fun i=>(func C.m i).map Bo.ftP,((tabs C.m)[0]?).isSome,fun i=>(C.m.types[i]?).map Bo.ftP,fun i=>Bo.local' C.ps C.ls i,fun i=>((globs C.m)[i]?).map fun g=>(g.t,g.mu),((mems C.m)[0]?).isSome,C.rs⟩
structure Wk (C:Ctx) (R P:Nat) (w:World) (G:Nat → Prop) (s:Ty.T) (o:List Bool):Prop where
 base:Below C.B C.w0 w
 all:∃ F vo,w.heap[R]? = some (.cells #[.pointer (some ⟨C.sp,0,none⟩),C.v1,C.v2,C.v3,C.v4,.pointer (some ⟨P,0,none⟩),vo] 166 (0,0)) ∧
  AtF w F P s ∧ OwnL 4 w C.B (fun _=>False) vo o ∧ (∀ k,F k → G k ∧ k ≠ R ∧ vo.ownBlock ≠ some k) ∧ (∀ k,vo.ownBlock = some k → G k ∧ k ≠ R)
 inR:G R
 out:∀ k,G k → C.B ≤ k ∧ k < w.heap.size
def Apt (w:World) (G:Nat → Prop):Nat → Prop:=fun k=>¬ G k ∧ k < w.heap.size
theorem Apt.next {α:Type} [Lay α] {w w':World} {G G':Nat → Prop} {xs:List α} {v:Value} (h:aa w (Apt w G) xs v) (hn:Nxt G w G' w'):aa w' (Apt w' G') xs v :=
 (h.mod hn.2 (fun _ _ hk=>hk.1)).more (fun k _ hk=>⟨fun hg=>by
  rcases hn.1 k hg with h | h
  ·exact hk.1 h
  ·have:=hk.2;omega,Nat.lt_of_lt_of_le hk.2 hn.2.size⟩)
theorem Nxt.refl (G:Nat → Prop) (w:World):Nxt G w G w:=⟨fun _ h=>.inl h,Mod.refl _ _⟩
theorem Nxt.of_below {G:Nat → Prop} {w w':World} (hb:Below w.heap.size w w'):Nxt G w G w':=⟨fun _ h=>.inl h,Mod.of_below hb⟩
theorem Nxt.trans {G G1 G2:Nat → Prop} {w w1 w2:World} (h:Nxt G w G1 w1) (h':Nxt G1 w1 G2 w2):Nxt G w G2 w2 :=
 ⟨fun k hk=>by
  rcases h'.1 k hk with h1 | h1
  ·exact h.1 k h1
  ·exact .inr (Nat.le_trans h.2.size h1),h.2.trans h'.2 (fun k hk hg=>by
  rcases h.1 k hg with h1 | h1
  ·exact h1
  ·omega)⟩
section
variable {C:Ctx} {R P n:Nat} {w:World} {G:Nat → Prop} {s:Ty.T} {o:List Bool}
theorem Wk.old {α:Type} [Lay α] {xs:List α} {v:Value} (h:Wk C R P w G s o) (hs:aa C.w0 (· < C.w0.heap.size) xs v):aa w (Apt w G) xs v :=
 (hs.mod (Mod.of_base h.base) (fun k _ hk e=>by have hk':k < C.w0.heap.size:=hk;have e':C.w0.heap.size ≤ k:=e;omega)).more (fun k hk hk2=>⟨fun hg=>by have:=(h.out k hg).1;have hk3:k < C.w0.heap.size:=hk2;unfold Ctx.B at this;omega,hk⟩)
theorem Wk.fresh {α:Type} [Lay α] {w':World} {xs:List α} {v:Value} (h:Wk C R P w G s o) (_hb:Below w.heap.size w w') (hs:aa w' (w.heap.size ≤ ·) xs v):aa w' (Apt w' G) xs v :=
 hs.more (fun k hk hk2=>⟨fun hg=>by have:=(h.out k hg).2;have hk3:w.heap.size ≤ k:=hk2;omega,hk⟩)
theorem Wk.on {w':World} (h:Wk C R P w G s o) (hb:Below w.heap.size w w'):Wk C R P w' G s o:=by
 obtain ⟨F,vo,h1,h2,h3,h4,h5⟩:=h.all
 refine ⟨h.base.trans (hb.mono h.base.size),⟨F,vo,(hb.block R (gL h1)).trans h1,h2.on hb,h3.mod (T:=fun _=>False) (Mod.of_below hb) (fun _ _ h=>h) (fun _ _ _ h=>h),h4,h5⟩,h.inR,fun k hk=>⟨(h.out k hk).1,Nat.lt_of_lt_of_le (h.out k hk).2 hb.size⟩⟩
theorem Wk.lt (h:Wk C R P w G s o):R < w.heap.size:=(h.out R h.inR).2
theorem Wk.cells (h:Wk C R P w G s o):w.cell? ⟨R,0,none⟩ = some (.pointer (some ⟨C.sp,0,none⟩)) ∧ w.cell? ⟨R,1,none⟩ = some C.v1 ∧ w.cell? ⟨R,2,none⟩ = some C.v2 ∧ w.cell? ⟨R,3,none⟩ = some C.v3 ∧ w.cell? ⟨R,4,none⟩ = some C.v4 ∧ w.cell? ⟨R,5,none⟩ = some (.pointer (some ⟨P,0,none⟩)):=by
 obtain ⟨F,vo,h1,_⟩:=h.all
 refine ⟨?_,?_,?_,?_,?_,?_⟩ <;> (rw [cell_of_row w R _ _ _ (0,0) h1];rfl)
theorem Wk.below (h:Wk C R P w G s o) {w':World} {G':Nat → Prop} (hn:Nxt G w G' w'):Below C.B C.w0 w' :=
 h.base.trans (hn.2.below h.base.size (fun k hk hg=>by have:=(h.out k hg).1;omega))
theorem Wk.stk {w':World} {s':Ty.T} {F F':Nat → Prop} {vo:Value} (h:Wk C R P w G s o)
  (h1:w.heap[R]? = some (.cells #[.pointer (some ⟨C.sp,0,none⟩),C.v1,C.v2,C.v3,C.v4,.pointer (some ⟨P,0,none⟩),vo] 166 (0,0)))
  (h3:OwnL 4 w C.B (fun _=>False) vo o) (h4:∀ k,F k → G k ∧ k ≠ R ∧ vo.ownBlock ≠ some k) (h5:∀ k,vo.ownBlock = some k → G k ∧ k ≠ R)
  (ha:AtF w' F' P s') (hn:Nxt F w F' w'):∃ G',Wk C R P w' G' s' o ∧ Nxt G w G' w':=by
 have hb:Nxt G w (fun k=>G k ∨ F' k) w':=⟨fun k hk=>by
  rcases hk with h | h
  ·exact .inl h
  ·exact (hn.1 k h).imp (fun h=>(h4 k h).1) id,hn.2.more (fun k _ hf=>(h4 k hf).1)⟩
 refine ⟨fun k=>G k ∨ F' k,⟨h.below hb,⟨F',vo,hn.2.heap h1 (fun hf=>(h4 R hf).2.1 rfl),ha,h3.mod hn.2 (fun g hg hf=>(h4 g hf).2.2 hg) (fun _ _ h=>h.elim),fun k hk=>⟨.inr hk,?_,?_⟩,fun k hk=>⟨.inl (h5 k hk).1,(h5 k hk).2⟩⟩,.inl h.inR,fun k hk=>?_⟩,hb⟩
 ·rcases hn.1 k hk with hf | hf
  ·exact (h4 k hf).2.1
  ·have:=h.lt;omega
 ·rcases hn.1 k hk with hf | hf
  ·exact (h4 k hf).2.2
  ·intro e
   have:=(h3.lt k e).2
   omega
 ·rcases hk with hk | hk
  ·exact ⟨(h.out k hk).1,Nat.lt_of_lt_of_le (h.out k hk).2 hn.2.size⟩
  ·refine ⟨?_,ha.2.2 k hk⟩
   rcases hn.1 k hk with hf | hf
   ·exact (h.out k (h4 k hf).1).1
   ·exact Nat.le_trans h.base.size hf
theorem aa.form {w:World} {S:Nat → Prop} {l:List UInt8} {v:Value} (h:aa w S l v):∃ A c,v = .slice A l.length c ∧ Has w w.heap.size A l:=by
 obtain ⟨A,c,h1,_,_,_,h5⟩:=h
 exact ⟨A,c,h1,h5.has⟩
theorem wk_push (h:Wk C R P w G s o) (hs:s.sm n) (hn:n ≤ 500000000) (l:List UInt8) (v:Value) (hv:aa w (Apt w G) l v) (hl:l.length ≤ 400000000) :
  Calls Tryz.prog 131 #[.pointer (some ⟨P,0,none⟩),v] w fun e w'=>e = .returned (.tuple #[]) ∧ ∃ G',Wk C R P w' G' (s.push l) o ∧ Nxt G w G' w':=by
 obtain ⟨F,vo,h1,h2,h3,h4,h5⟩:=h.all
 obtain ⟨A,c,rfl,hA⟩:=hv.form
 refine (at_push h2 hs hn l A c hA hl).mono ?_
 rintro e w' ⟨rfl,F',q1,q2⟩
 exact ⟨rfl,h.stk h1 h3 h4 h5 q1 q2⟩
theorem fJ (h:Wk C R P w G s o) (hs:s.sm n) (hn:n ≤ 500000000) (l:List UInt8) (v:Value) (hv:aa w (Apt w G) l v) (hl:l.length ≤ 400000000) :
  Calls Tryz.prog 130 #[.pointer (some ⟨P,0,none⟩),v] w fun e w'=>e = .returned (.bool (s.wantA l)) ∧ ∃ G',Wk C R P w' G' (s.want l) o ∧ Nxt G w G' w':=by
 obtain ⟨F,vo,h1,h2,h3,h4,h5⟩:=h.all
 obtain ⟨A,c,rfl,hA⟩:=hv.form
 refine (at_want h2 hs hn l A c hA hl).mono ?_
 rintro e w' ⟨rfl,F',q1,q2⟩
 exact ⟨rfl,h.stk h1 h3 h4 h5 q1 q2⟩
theorem wk_pop (h:Wk C R P w G s o) (hs:s.sm n) (hn:n ≤ 500000000) :
  Calls Tryz.prog 135 #[.pointer (some ⟨P,0,none⟩)] w fun e w'=>e = .returned (.tuple #[.int .u8 ↑s.popA.1.toNat,.bool s.popA.2]) ∧ ∃ G',Wk C R P w' G' s.pop o ∧ Nxt G w G' w':=by
 obtain ⟨F,vo,h1,h2,h3,h4,h5⟩:=h.all
 refine (at_pop h2 hs hn).mono ?_
 rintro e w' ⟨rfl,F',q1,q2⟩
 exact ⟨rfl,h.stk h1 h3 h4 h5 q1 q2⟩
theorem wk_dead (h:Wk C R P w G s o) (hs:s.sm n) (hn:n ≤ 500000000) :
  Calls Tryz.prog 145 #[.pointer (some ⟨P,0,none⟩)] w fun e w'=>e = .returned (.tuple #[]) ∧ ∃ G',Wk C R P w' G' s.kill o ∧ Nxt G w G' w':=by
 obtain ⟨F,vo,h1,h2,h3,h4,h5⟩:=h.all
 refine (at_dead h2 hs hn).mono ?_
 rintro e w' ⟨rfl,F',q1,q2⟩
 exact ⟨rfl,h.stk h1 h3 h4 h5 q1 q2⟩
theorem cO (h:Wk C R P w G s o) (hs:s.sm n) (hn:n ≤ 500000000) (a b:List UInt8) (va vb:Value) (ha:aa w (Apt w G) a va) (hb:aa w (Apt w G) b vb) (hl1:a.length ≤ 400000000) (hl2:b.length ≤ 400000000) :
  Calls Tryz.prog 98 #[.pointer (some ⟨P,0,none⟩),va,vb] w fun e w'=>e = .returned (.tuple #[]) ∧ ∃ G',Wk C R P w' G' (s.op a b) o ∧ Nxt G w G' w':=by
 obtain ⟨F,vo,h1,h2,h3,h4,h5⟩:=h.all
 refine (at_open h2 hs hn a b va vb (ha.more (fun _ hk _=>hk)) (hb.more (fun _ hk _=>hk)) hl1 hl2).mono ?_
 rintro e w' ⟨rfl,F',q1,q2⟩
 exact ⟨rfl,h.stk h1 h3 h4 h5 q1 q2⟩
theorem cB (h:Wk C R P w G s o) (hs:s.sm n) (hn:n ≤ 500000000) (k:Nat) (hk:k < 4294967296) :
  Calls Tryz.prog 132 #[.pointer (some ⟨P,0,none⟩),.int .u32 ↑k] w fun e w'=>ansS (w.heap.size ≤ ·) (s.labelA k) e w' ∧ Below w.heap.size w w':=by
 obtain ⟨F,vo,h1,h2,h3,h4,h5⟩:=h.all
 exact at_label h2 hs hn k hk
end
def aj (C:Ctx) (R P:Nat) (G:Nat → Prop) (o':List Bool) (w:World) (r:Bo.R) (e:Ending) (w':World):Prop :=
 match r with
 | .error n=>e = .returned (.int .i64 ↑n) ∧ Below C.B C.w0 w'
 | .ok s'=>e = .returned (.int .i64 0) ∧ ∃ G',Wk C R P w' G' s' o' ∧ Nxt G w G' w'
theorem aj.ahead {C:Ctx} {R P:Nat} {G G1:Nat → Prop} {o':List Bool} {w w1 w':World} {r:Bo.R} {e:Ending} (hn:Nxt G w G1 w1) (h:aj C R P G1 o' w1 r e w'):aj C R P G o' w r e w':=by
 cases r with
 | error n=>exact h
 | ok s' =>
  obtain ⟨h1,G',h2,h3⟩:=h
  exact ⟨h1,G',h2,hn.trans h3⟩
theorem Nxt.keep {G G':Nat → Prop} {w w':World} {X:Nat} {ob:Obj} (hn:Nxt G w G' w') (hX:w.heap[X]? = some ob) (hg:¬ G X ∧ X < w.heap.size):w'.heap[X]? = some ob ∧ ¬ G' X ∧ X < w'.heap.size :=
 ⟨hn.2.heap hX hg.1,fun hg'=>by
  rcases hn.1 X hg' with h | h
  ·exact hg.1 h
  ·omega,Nat.lt_of_lt_of_le hg.2 hn.2.size⟩
theorem aP {C:Ctx} {R P n:Nat} {w:World} {G:Nat → Prop} {s:Ty.T} {o:List Bool} (h:Wk C R P w G s o) (hs:s.sm n) (hn:n ≤ 400000000) (a b:List UInt8) (va vb:Value) (ha:aa w (Apt w G) a va) (hb:aa w (Apt w G) b vb) (hla:a.length ≤ 400000000) (hlb:b.length ≤ 400000000) :
  Calls Tryz.prog 134 #[.pointer (some ⟨R,0,none⟩),va,vb] w (aj C R P G o w (Bo.turned s a b)):=by
 obtain ⟨_,_,_,_,_,q5⟩:=h.cells
 have HW:=fJ h hs (by omega) a va ha hla
 cases hw:s.wantA a with
 | false =>
  rw [hw] at HW
  have HT:Hid (Bo.turned s a b = .error 100):=J (by unfold Bo.turned;rw [hw];rfl)
  have HH:=J h
  have HC:=J HW
  obtain ⟨A1,c1,rfl,_⟩:=ha
  obtain ⟨A2,c2,rfl,_⟩:=hb
  generalize a.length = n1 at HC ⊢
  generalize b.length = n2 at ⊢
  clear HW hw h hs hn hla hlb
  go_enter Tryz.func134,Tryz.ntmps134
  go_wp2_with (go_at_call 130;refine HC.out.mono ?_;rintro e w1 ⟨rfl,G1,h1,n1⟩;have HN1:=J n1;clear h1 n1)
  go_ret
  rw [HT.out]
  exact ⟨rfl,HH.out.below HN1.out⟩
 | true =>
  rw [hw] at HW
  have HT:Hid (Bo.turned s a b = .ok ((s.want a).push b)):=J (by unfold Bo.turned;rw [hw];rfl)
  have HC:=J HW
  have HP:Hid (∀ W G1,Wk C R P W G1 (s.want a) o → Nxt G w G1 W → Calls Tryz.prog 131 #[.pointer (some ⟨P,0,none⟩),vb] W fun e w'=>e = .returned (.tuple #[]) ∧ ∃ G',Wk C R P w' G' ((s.want a).push b) o ∧ Nxt G1 W G' w'):=J (fun W G1 h1 hn1=>wk_push h1 (Ty.sm_want hs a) (by omega) b vb (Apt.next hb hn1) hlb)
  obtain ⟨A1,c1,rfl,_⟩:=ha
  obtain ⟨A2,c2,rfl,_⟩:=hb
  generalize a.length = n1 at HC ⊢
  generalize b.length = n2 at HP ⊢
  clear HW hw h hs hn hla hlb
  go_enter Tryz.func134,Tryz.ntmps134
  go_wp2_with (first | (go_at_call 130;refine HC.out.mono ?_;rintro e w1 ⟨rfl,G1,h1,n1⟩;have H1:=J h1;have HN1:=J n1;obtain ⟨_,_,_,_,_,y5⟩:=h1.cells;clear h1 n1) | (go_at_call 131;refine (HP.out _ _ H1.out HN1.out).mono ?_;rintro e w2 ⟨rfl,G2,h2,n2⟩;have H2:=J h2;have HN2:=J n2;clear h2 n2))
  go_ret
  rw [HT.out]
  exact ⟨rfl,_,H2.out,HN1.out.trans HN2.out⟩
theorem dk {C:Ctx} {R P n:Nat} {w:World} {G:Nat → Prop} {s:Ty.T} {o:List Bool} (h:Wk C R P w G s o) (hs:s.sm n) (hn:n ≤ 400000000) (a:List UInt8) (va:Value) (ha:aa w (Apt w G) a va) (hla:a.length ≤ 400000000) :
  Calls Tryz.prog 133 #[.pointer (some ⟨R,0,none⟩),va] w (aj C R P G o w (Bo.goes s a)):=by
 obtain ⟨_,_,_,_,_,q5⟩:=h.cells
 have HW:=fJ h hs (by omega) a va ha hla
 cases hw:s.wantA a with
 | false =>
  rw [hw] at HW
  have HT:Hid (Bo.goes s a = .error 100):=J (by unfold Bo.goes;rw [hw];rfl)
  have HH:=J h
  have HC:=J HW
  obtain ⟨A1,c1,rfl,_⟩:=ha
  generalize a.length = n1 at HC ⊢
  clear HW hw h hs hn hla
  go_enter Tryz.func133,Tryz.ntmps133
  go_wp2_with (go_at_call 130;refine HC.out.mono ?_;rintro e w1 ⟨rfl,G1,h1,n1⟩;have HN1:=J n1;clear h1 n1)
  go_ret
  rw [HT.out]
  exact ⟨rfl,HH.out.below HN1.out⟩
 | true =>
  rw [hw] at HW
  have HT:Hid (Bo.goes s a = .ok (s.want a).kill):=J (by unfold Bo.goes;rw [hw];rfl)
  have HC:=J HW
  have HP:Hid (∀ W G1,Wk C R P W G1 (s.want a) o → Calls Tryz.prog 145 #[.pointer (some ⟨P,0,none⟩)] W fun e w'=>e = .returned (.tuple #[]) ∧ ∃ G',Wk C R P w' G' (s.want a).kill o ∧ Nxt G1 W G' w'):=J (fun W G1 h1=>wk_dead h1 (Ty.sm_want hs a) (by omega))
  obtain ⟨A1,c1,rfl,_⟩:=ha
  generalize a.length = n1 at HC ⊢
  clear HW hw h hs hn hla
  go_enter Tryz.func133,Tryz.ntmps133
  go_wp2_with (first | (go_at_call 130;refine HC.out.mono ?_;rintro e w1 ⟨rfl,G1,h1,n1⟩;have H1:=J h1;have HN1:=J n1;obtain ⟨_,_,_,_,_,y5⟩:=h1.cells;clear h1 n1) | (go_at_call 145;refine (HP.out _ _ H1.out).mono ?_;rintro e w2 ⟨rfl,G2,h2,n2⟩;have H2:=J h2;have HN2:=J n2;clear h2 n2))
  go_ret
  rw [HT.out]
  exact ⟨rfl,_,H2.out,HN1.out.trans HN2.out⟩
theorem litN (w:World) (l:List UInt8) (vs:Array Value) (hv:vs = (bytesOf l).toArray) (n:Nat) (hn:n = l.length) (hl:l.length ≤ 1000) :
  aa (w.alloc (.cells vs 5)) (w.heap.size ≤ ·) l (.slice (some ⟨w.heap.size,0,none⟩) n n):=by
 subst hv hn
 refine ⟨_,l.length,rfl,Nat.le_refl _,by unfold maxLen;omega,fun e=>(by cases e),fun k x hk=>⟨w.heap.size,0,[.int .u8 ↑x.toNat],rfl,Nat.le_refl _,by simp,rfl,fun j u hj=>?_⟩⟩
 cases j with
 | zero =>
  simp at hj
  subst hj
  obtain ⟨ad,e,_,hc⟩:=Has.lit w l 5 k x hk
  injection e with e
  subst e
  have e2:(⟨w.heap.size,0,none⟩:Addr).add k = ⟨w.heap.size,0 + k * 1 + 0,none⟩:=by
   unfold Addr.add;split <;> simp_all
  rw [e2] at hc
  exact hc
 | succ j=>simp at hj
theorem lit1 (w:World) (x:UInt8):aa (w.alloc (.cells #[.int .u8 ↑x.toNat] 5)) (w.heap.size ≤ ·) [x] (.slice (some ⟨w.heap.size,0,none⟩) 1 1):=litN w [x] _ rfl 1 rfl (by simp)
def ck (p r:List UInt8) (ok:Bool) (w:World) (e:Ending) (w':World):Prop :=
 ∃ A B,e = .returned (.tuple #[.slice A p.length p.length,.slice B r.length r.length,.bool ok]) ∧ aa w' (w.heap.size ≤ ·) p (.slice A p.length p.length) ∧ aa w' (w.heap.size ≤ ·) r (.slice B r.length r.length) ∧ Below w.heap.size w w'
theorem bz (p r:List UInt8) (p' r':List UInt8) (w:World) (t:TypeId) (e:Ending) (w':World) (hp:p' = p) (hr:r' = r)
  (he:e = .returned (.tuple #[.slice (some ⟨w.heap.size,0,none⟩) p.length p.length,.slice (some ⟨w.heap.size + 1,0,none⟩) r.length r.length,.bool true]))
  (hw:w' = (w.alloc (.cells (bytesOf p).toArray t)).alloc (.cells (bytesOf r).toArray t)) (ok:Bool) (hok:ok = true) (ht:t = 5:=by rfl) (h1:p.length ≤ 1000:=by simp) (h2:r.length ≤ 1000:=by simp):ck p' r' ok w e w':=by
 subst hp hr he hw hok ht
 refine ⟨_,_,rfl,?_,?_,bA.alloc (by simp) _⟩
 ·exact (litN w p' _ rfl _ rfl h1).mod (T:=fun _=>False) (Mod.of_below bA) (fun _ _ _ h=>h)
 ·have h:=litN (w.alloc (.cells (bytesOf p').toArray 5)) r' _ rfl _ rfl h2
  simp only [World.alloc,Array.size_push] at h
  exact h.more (fun k _ hk=>by have hk':w.heap.size + 1 ≤ k:=hk;show w.heap.size ≤ k;omega)
theorem sigV_left (p:List UInt8) (p' r':List UInt8) (w:World) (t:TypeId) (e:Ending) (w':World) (hp:p' = p) (hr:r' = [])
  (he:e = .returned (.tuple #[.slice (some ⟨w.heap.size,0,none⟩) p.length p.length,.slice none 0 0,.bool true]))
  (hw:w' = w.alloc (.cells (bytesOf p).toArray t)) (ok:Bool) (hok:ok = true) (ht:t = 5:=by rfl) (h1:p.length ≤ 1000:=by simp):ck p' r' ok w e w':=by
 subst hp hr he hw hok ht
 exact ⟨_,_,rfl,litN w p' _ rfl _ rfl h1,aa.nil _ _,bA⟩
theorem sigV_right (r:List UInt8) (p' r':List UInt8) (w:World) (t:TypeId) (e:Ending) (w':World) (hp:p' = []) (hr:r' = r)
  (he:e = .returned (.tuple #[.slice none 0 0,.slice (some ⟨w.heap.size,0,none⟩) r.length r.length,.bool true]))
  (hw:w' = w.alloc (.cells (bytesOf r).toArray t)) (ok:Bool) (hok:ok = true) (ht:t = 5:=by rfl) (h1:r.length ≤ 1000:=by simp):ck p' r' ok w e w':=by
 subst hp hr he hw hok ht
 exact ⟨_,_,rfl,aa.nil _ _,litN w r' _ rfl _ rfl h1,bA⟩
theorem eV (p' r':List UInt8) (w:World) (hp:p' = []) (hr:r' = []) (ok:Bool) (hok:ok = false):ck p' r' ok w (.returned (.tuple #[.slice none 0 0,.slice none 0 0,.bool false])) w:=by
 subst hp hr hok
 exact ⟨_,_,rfl,aa.nil _ _,aa.nil _ _,Below.refl _ _⟩
theorem sigV_any (x:Int) (w:World):Calls Tryz.prog 138 #[.int .u8 x] w (ck (Opc.sigP x) (Opc.sigR x) (Opc.plain x) w):=by
 by_cases h40:x < 40
 ·have hp:=J (show Opc.plain x = false by simp [Opc.plain];omega)
  have h40b:decide (x < 40) = true:=by simpa using h40
  go_enter Tryz.func138,Tryz.ntmps138
  go_wp2_with fail
  go_ret3
  exact eV _ _ _ (by simp [Opc.sigP,hp.out]) (by simp [Opc.sigR,hp.out]) _ hp.out
 have h40b:decide (x < 40) = false:=by simpa using h40
 cases hk:Opc.known x
 ·have hp:=J (show Opc.plain x = false by simp [Opc.plain,hk])
  go_enter Tryz.func138,Tryz.ntmps138
  go_wp2_with (go_at_call 124;refine (dI _ _).mono ?_;rintro e w' ⟨rfl,rfl⟩)
  go_ret3
  exact eV _ _ _ (by simp [Opc.sigP,hp.out]) (by simp [Opc.sigR,hp.out]) _ hp.out
 have hp:=J (show Opc.plain x = true by simp [Opc.plain,hk];omega)
 go_enter Tryz.func138,Tryz.ntmps138
 go_wp2_with (first | (go_at_call 124;refine (dI _ _).mono ?_;rintro e w' ⟨rfl,rfl⟩) | (go_at_call 148;refine (typeU_any _ _).mono ?_;rintro e w' ⟨rfl,rfl⟩) | (go_at_call 141;refine (aA _ _ _ _).mono ?_;rintro e w' ⟨rfl,rfl⟩))
 all_goals go_ret3
 all_goals first
  | exact bz [127] [Opc.typeU x] _ _ _ 5 _ _ (by have:=hp.out;simp_all [Opc.sigP] <;> (repeat rw [if_neg (by omega)])) (by have:=hp.out;simp_all [Opc.sigR] <;> (repeat rw [if_neg (by omega)])) rfl rfl _ hp.out
  | exact sigV_left [127,Opc.typeU x] _ _ _ 5 _ _ (by have:=hp.out;simp_all [Opc.sigP] <;> (repeat rw [if_neg (by omega)])) (by have:=hp.out;simp_all [Opc.sigR] <;> (repeat rw [if_neg (by omega)])) rfl rfl _ hp.out
  | exact sigV_right [Opc.typeU x] _ _ _ 5 _ _ (by have:=hp.out;simp_all [Opc.sigP] <;> (repeat rw [if_neg (by omega)])) (by have:=hp.out;simp_all [Opc.sigR] <;> (repeat rw [if_neg (by omega)])) rfl rfl _ hp.out
  | exact bz [Opc.typeU x] [127] _ _ _ 5 _ _ (by have:=hp.out;simp_all [Opc.sigP] <;> (repeat rw [if_neg (by omega)])) (by have:=hp.out;simp_all [Opc.sigR] <;> (repeat rw [if_neg (by omega)])) rfl rfl _ hp.out
  | exact bz [Opc.typeU x,Opc.typeU x] [127] _ _ _ 5 _ _ (by have:=hp.out;simp_all [Opc.sigP] <;> (repeat rw [if_neg (by omega)])) (by have:=hp.out;simp_all [Opc.sigR] <;> (repeat rw [if_neg (by omega)])) rfl rfl _ hp.out
  | exact bz [Opc.typeU x] [Opc.typeU x] _ _ _ 5 _ _ (by have:=hp.out;simp_all [Opc.sigP] <;> (repeat rw [if_neg (by omega)])) (by have:=hp.out;simp_all [Opc.sigR] <;> (repeat rw [if_neg (by omega)])) rfl rfl _ hp.out
  | exact bz [Opc.typeU x,Opc.typeU x] [Opc.typeU x] _ _ _ 5 _ _ (by have:=hp.out;simp_all [Opc.sigP] <;> (repeat rw [if_neg (by omega)])) (by have:=hp.out;simp_all [Opc.sigR] <;> (repeat rw [if_neg (by omega)])) rfl rfl _ hp.out
  | exact bz [126] [Opc.typeU x] _ _ _ 5 _ _ (by have:=hp.out;simp_all [Opc.sigP] <;> (repeat rw [if_neg (by omega)])) (by have:=hp.out;simp_all [Opc.sigR] <;> (repeat rw [if_neg (by omega)])) rfl rfl _ hp.out
end Go.Proofs.YtmpelmihdpomjaaGreat
