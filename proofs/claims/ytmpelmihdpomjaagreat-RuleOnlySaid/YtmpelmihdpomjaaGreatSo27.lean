/-
  Layer 10's program: a space's function, what is told in blocks of the call's own.
-/
import Derived.Test.YtmpelmihdpomjaaGreatSo01
import Derived.Test.YtmpelmihdpomjaaGreatSo26
set_option maxRecDepth 100000
set_option maxHeartbeats 4000000
namespace Go.Proofs.YtmpelmihdpomjaaGreat
open Go.RowKit Ins Bin Sp
theorem cX (p:Option Addr) (m:M) (i:Nat) (w:World) (h:Recv w p m) (hl:cg m) (hi:i < 4294967296) (hF:∀ t ∈ funs m,t < 4294967296) :
  Calls Tryz.prog 66 #[.pointer p,.int .u32 ↑i] w fun e w'=>bt (func m i) w e w':=by
 have HL:=J hl.funs
 have HTP:=J (fun t (ht:t < 4294967296) W (hr:Recv W p m)=>cK p m t W hr hl ht)
 have HAT:=J (fun W v (hv:aa W (· < W.heap.size) (funs m) v)=>satU_any (funs m) v i W hv hi HL.out)
 cases hx:(funs m)[i]? with
 | none =>
  rw [hx] at HAT
  have HFN:Hid (func m i = none):=J (by unfold func;rw [hx];rfl)
  clear hx
  obtain ⟨D,hu,hd⟩:=descOf bU
  have HU:=J hu
  have HD:=J hd
  clear hu hd
  have HZ0:=J (heap_alloc_new w (.cells #[.slice none 0 0,.slice none 0 0] 29))
  have HB0:Hid (Below w.heap.size w (w.alloc (.cells #[.slice none 0 0,.slice none 0 0] 29))):=J bA
  have HR:=J (h.grow HB0.out)
  clear h hl
  go_enter Tryz.func66,Tryz.ntmps66
  go_upto_region 1 with fail
  generalize w.alloc (.cells #[.slice none 0 0,.slice none 0 0] 29) = w0 at HZ0 HB0 HR ⊢
  obtain ⟨Y,hY⟩:∃ Y,w.heap.size = Y:=⟨_,rfl⟩
  rw [hY] at HZ0
  have HY:Hid (w.heap.size ≤ Y):=J (by omega)
  simp only [hY]
  clear hY
  go_wp2_with (first | (go_at_call 59;refine (aJ p m w0 HR.out).mono ?_;rintro e w1 ⟨P,rfl,hs,hb⟩;have HB1:=J (HB0.out.trans (hb.mono HB0.out.size));have HZ1:=J ((hb.block Y (gL HZ0.out)).trans HZ0.out);have HR1:=J (HR.out.grow hb);obtain ⟨A1,d1,A2,d2,A3,d3,A4,d4,A5,d5,A6,d6,h0,h1,h2,h3,h4,h5,h6⟩:=hs;obtain ⟨b0,b1,b2,b3,b4,b5,b6,b7,b8,b9⟩:=aV h0;have HS:=J h2;clear hb h0 h1 h2 h3 h4 h5 h6) | (go_at_call 86;refine (HAT.out w1 _ HS.out).mono ?_;rintro e w2 ⟨rfl,rfl⟩;clear b0 b1 b2 b3 b4 b5 b6 b7 b8 b9) | (refine ah rfl 29 (.tmp 4) (.tmp 21) rfl rfl Y #[.slice none 0 0,.slice none 0 0] rfl rfl 29 #[.slice none 0 0,.slice none 0 0] HZ1.out ak rfl (by simp [Value.oneCell']) ?_))
  refine bodyPost_ret (v:=.tuple #[.agg #[.slice none 0 0,.slice none 0 0],.bool false]) (au (p:=4) (q:=5) (ty:=29) (by kernel_rfl) _ _ Y 29 #[.slice none 0 0,.slice none 0 0] (0,0) D rfl (setRow_heap _ _ #[.slice none 0 0,.slice none 0 0] _ _ _ (HZ1.out)) HU.out HD.out ak (.bool false) rfl) rfl ?_
  rw [HFN.out]
  exact ⟨_,_,rfl,aa.nil _ _,aa.nil _ _,ab HB1.out HY.out _⟩
 | some t =>
  rw [hx] at HAT
  have HFN:Hid (func m i = m.types[t]?):=J (by unfold func;rw [hx];rfl)
  have ht:t < 4294967296:=hF t (List.mem_of_getElem? hx)
  clear hx
  obtain ⟨D,hu,hd⟩:=descOf bU
  have HU:=J hu
  have HD:=J hd
  clear hu hd
  have HZ0:=J (heap_alloc_new w (.cells #[.slice none 0 0,.slice none 0 0] 29))
  have HB0:Hid (Below w.heap.size w (w.alloc (.cells #[.slice none 0 0,.slice none 0 0] 29))):=J bA
  have HR:=J (h.grow HB0.out)
  clear h hl
  go_enter Tryz.func66,Tryz.ntmps66
  go_upto_region 1 with fail
  generalize w.alloc (.cells #[.slice none 0 0,.slice none 0 0] 29) = w0 at HZ0 HB0 HR ⊢
  obtain ⟨Y,hY⟩:∃ Y,w.heap.size = Y:=⟨_,rfl⟩
  rw [hY] at HZ0
  have HY:Hid (w.heap.size ≤ Y):=J (by omega)
  simp only [hY]
  clear hY
  go_wp2_with (first | (go_at_call 59;refine (aJ p m w0 HR.out).mono ?_;rintro e w1 ⟨P,rfl,hs,hb⟩;have HB1:=J (HB0.out.trans (hb.mono HB0.out.size));have HZ1:=J ((hb.block Y (gL HZ0.out)).trans HZ0.out);have HR1:=J (HR.out.grow hb);obtain ⟨A1,d1,A2,d2,A3,d3,A4,d4,A5,d5,A6,d6,h0,h1,h2,h3,h4,h5,h6⟩:=hs;obtain ⟨b0,b1,b2,b3,b4,b5,b6,b7,b8,b9⟩:=aV h0;have HS:=J h2;clear hb h0 h1 h2 h3 h4 h5 h6) | (go_at_call 86;refine (HAT.out w1 _ HS.out).mono ?_;rintro e w2 ⟨rfl,rfl⟩;clear b0 b1 b2 b3 b4 b5 b6 b7 b8 b9) | (go_at_call 52;refine (HTP.out t ht _ HR1.out).mono ?_;rintro e w3 hq;obtain ⟨u,v,rfl,hs1,hs2,hb⟩:=hq;obtain ⟨E1,f1,e1,_⟩:=id hs1;obtain ⟨E2,f2,e2,_⟩:=id hs2;have HS1:=J hs1;have HS2:=J hs2;have HB3:=J (HB1.out.trans (hb.mono HB1.out.size));have HZ3:=J ((hb.block Y (gL HZ1.out)).trans HZ1.out);clear hb hs1 hs2;generalize hq1:(Option.getD m.types[t]? ⟨[],[]⟩).params.length = p1 at e1;generalize hq2:(Option.getD m.types[t]? ⟨[],[]⟩).results.length = p2 at e2;subst e1 e2;clear hq1 hq2) | (refine ah rfl 29 (.tmp 4) (.tmp 25) rfl rfl Y #[.slice E1 p1 f1,.slice E2 p2 f2] rfl rfl 29 #[.slice none 0 0,.slice none 0 0] HZ3.out ak rfl (by simp [Value.oneCell']) ?_))
  refine bodyPost_ret (v:=.tuple #[.agg #[.slice E1 p1 f1,.slice E2 p2 f2],.bool (m.types[t]?).isSome]) (au (p:=4) (q:=5) (ty:=29) (by kernel_rfl) _ _ Y 29 #[.slice E1 p1 f1,.slice E2 p2 f2] (0,0) D rfl (setRow_heap _ _ #[.slice none 0 0,.slice none 0 0] _ _ _ (HZ3.out)) HU.out HD.out ak (.bool (m.types[t]?).isSome) rfl) rfl ?_
  rw [HFN.out]
  have hms:Mod (· = Y) w3 (w3.setRow Y #[.slice E1 p1 f1,.slice E2 p2 f2]):=⟨rfl,rfl,rfl,by simp,fun k _ ht=>setRow_other w3 Y k _ ht⟩
  have hbz:=ab HB3.out HY.out #[.slice E1 p1 f1,.slice E2 p2 f2]
  have hyl:Y < w2.heap.size:=(gL HZ1.out)
  have hwz:w.heap.size ≤ w2.heap.size:=HB1.out.size
  have f {α:Type} [Lay α] {zs:List α} {v:Value} (h:aa w3 (w2.heap.size ≤ ·) zs v):aa (w3.setRow Y #[.slice E1 p1 f1,.slice E2 p2 f2]) (w.heap.size ≤ ·) zs v:=(h.mod hms (fun g _ hg e=>by have e':g = Y:=e;have hg':w2.heap.size ≤ g:=hg;omega)).more (fun k _ hk=>Nat.le_trans hwz hk)
  exact ⟨_,_,rfl,f HS1.out,f HS2.out,hbz⟩
end Go.Proofs.YtmpelmihdpomjaaGreat
