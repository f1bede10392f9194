/-
  Layer 10's program: br_table. (gen/body/meth8.py)
-/
import Derived.Test.YtmpelmihdpomjaaGreatSo01
import Derived.Test.YtmpelmihdpomjaaGreatSo32
import Derived.Test.YtmpelmihdpomjaaGreatSo26
import Derived.Test.YtmpelmihdpomjaaGreatSo37
import Derived.Test.YtmpelmihdpomjaaGreatSo39
set_option maxRecDepth 100000
set_option maxHeartbeats 4000000
namespace Bo
theorem all_take1 {α:Type} {l:List α} {j:Nat} {x:α} (h:l[j]? = some x) (p:α → Bool):(l.take (j + 1)).all p = ((l.take j).all p && p x):=by
 rw [List.take_add_one,h,List.all_append]
 simp
end Bo
namespace Go.Proofs.YtmpelmihdpomjaaGreat
open Go.RowKit Ins Bin Sp
theorem ff {C:Ctx} {R P n:Nat} {w:World} {G:Nat → Prop} {s:Ty.T} {o:List Bool} (h:Wk C R P w G s o) (hs:s.sm n) (hn:n ≤ 400000000) (op a b:Nat) (c:Int) (A4:Option Addr) (l4 c4:Nat) (ha:a < 4294967296) (l:List Nat) (hl4:l4 = l.length) (hlw:∀ n ∈ l,n < 4294967296) (hU:HasU C.w0 (· < C.w0.heap.size) A4 l) (hlab:∀ k l,s.labelA k = some l → l.length ≤ 4000000) (hl5:l4 ≤ 1000000000) :
  Calls Tryz.prog 104 #[.pointer (some ⟨R,0,none⟩),.agg #[.int .u8 ↑op,.int .u32 ↑a,.int .u32 ↑b,.int .i64 c,.slice A4 l4 c4]] w (aj C R P G o w (Bo.brTable a l s)):=by
 have HX0:=J (heap_alloc_new w (.cells #[.int .u8 ↑op,.int .u32 ↑a,.int .u32 ↑b,.int .i64 c,.slice A4 l4 c4] 56))
 have HB0:Hid (Below w.heap.size w (w.alloc (.cells #[.int .u8 ↑op,.int .u32 ↑a,.int .u32 ↑b,.int .i64 c,.slice A4 l4 c4] 56))):=J bA
 have H0:=J (h.on HB0.out)
 have HN0:Hid (Nxt G w G (w.alloc (.cells #[.int .u8 ↑op,.int .u32 ↑a,.int .u32 ↑b,.int .i64 c,.slice A4 l4 c4] 56))):=J (Nxt.of_below HB0.out)
 have HGX:Hid (¬ G w.heap.size ∧ w.heap.size < (w.alloc (.cells #[.int .u8 ↑op,.int .u32 ↑a,.int .u32 ↑b,.int .i64 c,.slice A4 l4 c4] 56)).heap.size):=J ⟨fun hg=>Nat.lt_irrefl _ (h.out _ hg).2,by simp⟩
 have HU:=J hU
 have HN4:=J hl4
 have HLW:=J hlw
 clear h hU hl4 hlw
 go_enter Tryz.func104,Tryz.ntmps104
 go_upto_region 1 with fail
 generalize (w.alloc (.cells #[.int .u8 ↑op,.int .u32 ↑a,.int .u32 ↑b,.int .i64 c,.slice A4 l4 c4] 56)) = w0 at HX0 HB0 H0 HN0 HGX ⊢
 obtain ⟨X,hX⟩:∃ X,w.heap.size = X:=⟨_,rfl⟩
 rw [hX] at HX0 HGX
 simp only [hX]
 clear hX HB0
 obtain ⟨z0,z1,z2,z3,z4⟩:=cells5 HX0.out
 obtain ⟨q0,q1,q2,q3,q4,q5⟩:=H0.out.cells
 have HCC:=J (fun W (hb:Below w0.heap.size w0 W)=>And.intro (cells5 ((hb.block X HGX.out.2).trans HX0.out)) (H0.out.on hb).cells)
 clear z0 z1 z2 z3 z4 q0 q1 q2 q3 q4 q5
 have HLB:=J (fun W (hb:Below w0.heap.size w0 W)=>cB (H0.out.on hb) hs (by omega) a ha)
 cases hl:s.labelA a with
 | none =>
  rw [hl] at HLB
  have HLAB:=J hl
  clear hl ha
  have HLL:Hid (([]:List UInt8).length ≤ 4000000):=J (by simp)
  go_upto_region 1 with fail
  refine wp_region_held_drew (S:=fun W'=>Below w0.heap.size w0 W') (by kernel_rfl) (Below.drew (Below.refl _ _)) (fun hHeld=>?_)
  refine da1 0 rfl ?_
  refine da1 1 rfl ?_
  refine da1 2 rfl ?_
  refine da1 3 rfl ?_
  refine da1 4 rfl ?_
  refine da1 5 rfl ?_
  refine dA 6 rfl fun K hK=>?_
  go_simp
  refine (HLB.out _ hHeld).mono ?_
  rintro e w1 ⟨he,hb⟩
  obtain rfl:e = .returned (.tuple #[.slice none 0 0,.bool false]):=he
  have hH:Below w0.heap.size w0 w1:=hHeld.trans (hb.mono hHeld.size)
  have HW1:=J hH
  clear hb
  go_wp2_with fail
  refine hK.out _ _ (hH) fun hHeld=>?_
  clear hK K
  refine dW 7 rfl ?_
  refine dW 8 rfl ?_
  refine dW 9 rfl ?_
  refine dW 10 rfl ?_
  refine dW 11 rfl ?_
  refine dN ?_
  have H1:=J (H0.out.on HW1.out)
  have HN01:=J (HN0.out.trans (Nxt.of_below HW1.out))
  have HCD:=J (fun W (hb:Below w1.heap.size w1 W)=>HCC.out W (HW1.out.trans (hb.mono HW1.out.size)))
  have HVL:Hid (∀ W,Below w1.heap.size w1 W → aa W (· < W.heap.size) ([]:List UInt8) (.slice none 0 0)):=J (fun W _=>aa.nil _ _)
  obtain ⟨⟨x0,x1,x2,x3,x4⟩,y0,y1,y2,y3,y4,y5⟩:=HCD.out w1 (Below.refl _ _)
  go_wp2_with fail
  clear x0 x1 x2 x3 x4 y0 y1 y2 y3 y4 y5
  go_loopw [6,7,25] (fun okv samev iv wr=>∃ (j:Nat) (b1 b2:Bool),j ≤ l4 ∧ iv = .int .i64 ↑j ∧ okv = .bool b1 ∧ samev = .bool b2 ∧ Hid (b1 = (false && (l.take j).all fun n=>(s.labelA n).isSome)) ∧ Hid (b2 = ((l.take j).all fun n=>decide ((s.labelA n).getD [] = ([]:List UInt8)))) ∧ Hid (Below w1.heap.size w1 wr)) (fun _ _ iv _=>l4 - (intOf iv).toNat)
  case atStart=>exact ⟨0,false,true,by omega,rfl,rfl,rfl,J rfl,J rfl,J (Below.refl _ _)⟩
  case round =>
   obtain ⟨j,b1,b2,hj,rfl,rfl,rfl,HQ1,HQ2,HBW⟩:=hrel
   obtain ⟨_,y0,y1,y2,y3,y4,y5⟩:=HCD.out _ HBW.out
   by_cases hjn:j < l4
   ·obtain ⟨x,hx⟩:∃ x,l[j]? = some x:=⟨_,List.getElem?_eq_getElem (by have:=HN4.out;omega)⟩
    have hxl:=HLW.out x (List.mem_of_getElem? hx)
    obtain ⟨g,oo,rfl,hg,hc⟩:=HU.out j x hx
    have k0:World.cell? _ ⟨g,oo + j,none⟩ = some (.int .u32 ↑x):=((H1.out.on HBW.out).base.cell (p:=⟨g,oo + j,none⟩) hg).trans hc
    have hji:(j:Int) < (l4:Int):=by omega
    have hlx:=cB (H1.out.on HBW.out) hs (by omega) x hxl
    have he1:=Bo.all_take1 hx (fun n=>(s.labelA n).isSome)
    have he2:=Bo.all_take1 hx (fun n=>decide ((s.labelA n).getD [] = ([]:List UInt8)))
    clear hx hc hxl
    cases hl9:s.labelA x with
    | none =>
     rw [hl9] at hlx he1 he2
     have HLX:=J hlx
     have HEQ:=J (fun W (hv:aa W (· < W.heap.size) ([]:List UInt8) (.slice none 0 0)) (hb:Below w1.heap.size w1 W)=>bp [] ([]:List UInt8) (.slice none 0 0) (.slice none 0 0) W hv (HVL.out W hb) (by simp) HLL.out)
     rw [Option.getD_none] at he2
     have hd:decide (([]:List UInt8) = ([]:List UInt8)) = true:=by decide
     rw [hd] at HEQ he2
     have HE1:Hid ((false && (l.take (j + 1)).all fun n=>(s.labelA n).isSome) = (b1 && false)):=J (by rw [he1,← Bool.and_assoc,← HQ1.out];rfl)
     have HE2:Hid (((l.take (j + 1)).all fun n=>decide ((s.labelA n).getD [] = ([]:List UInt8))) = (b2 && true)):=J (by rw [he2,← HQ2.out])
     clear hlx he1 he2 hd hl9
     cases b1 with
     | false =>
      cases b2 with
      | false =>
       go_wp2_with (go_at_call 132;refine HLX.out.mono ?_;rintro e w2 ⟨he,hb⟩;obtain rfl:e = .returned (.tuple #[.slice none 0 0,.bool false]):=he;have HB2:=J (HBW.out.trans (hb.mono HBW.out.size));have HV2:Hid (aa w2 (· < w2.heap.size) ([]:List UInt8) (.slice none 0 0)):=J (aa.nil _ _);clear hb)
       go_roundw
       case rel=>exact ⟨j + 1,false,false,by omega,by go_num,rfl,rfl,J (show false = _ from HE1.out.symm),J (show false = _ from HE2.out.symm),HB2⟩
       case measure=>simp [intOf];omega
      | true =>
       go_wp2_with (first | (go_at_call 132;refine HLX.out.mono ?_;rintro e w2 ⟨he,hb⟩;obtain rfl:e = .returned (.tuple #[.slice none 0 0,.bool false]):=he;have HB2:=J (HBW.out.trans (hb.mono HBW.out.size));have HV2:Hid (aa w2 (· < w2.heap.size) ([]:List UInt8) (.slice none 0 0)):=J (aa.nil _ _);clear hb) | (go_at_call 80;refine (HEQ.out _ HV2.out HB2.out).mono ?_;rintro e w3 ⟨rfl,hb⟩;have HB3:=J (HB2.out.trans (hb.mono HB2.out.size));clear hb))
       go_roundw
       case rel=>exact ⟨j + 1,false,true,by omega,by go_num,rfl,rfl,J (show false = _ from HE1.out.symm),J (show true = _ from HE2.out.symm),HB3⟩
       case measure=>simp [intOf];omega
     | true =>
      cases b2 with
      | false =>
       go_wp2_with (go_at_call 132;refine HLX.out.mono ?_;rintro e w2 ⟨he,hb⟩;obtain rfl:e = .returned (.tuple #[.slice none 0 0,.bool false]):=he;have HB2:=J (HBW.out.trans (hb.mono HBW.out.size));have HV2:Hid (aa w2 (· < w2.heap.size) ([]:List UInt8) (.slice none 0 0)):=J (aa.nil _ _);clear hb)
       go_roundw
       case rel=>exact ⟨j + 1,false,false,by omega,by go_num,rfl,rfl,J (show false = _ from HE1.out.symm),J (show false = _ from HE2.out.symm),HB2⟩
       case measure=>simp [intOf];omega
      | true =>
       go_wp2_with (first | (go_at_call 132;refine HLX.out.mono ?_;rintro e w2 ⟨he,hb⟩;obtain rfl:e = .returned (.tuple #[.slice none 0 0,.bool false]):=he;have HB2:=J (HBW.out.trans (hb.mono HBW.out.size));have HV2:Hid (aa w2 (· < w2.heap.size) ([]:List UInt8) (.slice none 0 0)):=J (aa.nil _ _);clear hb) | (go_at_call 80;refine (HEQ.out _ HV2.out HB2.out).mono ?_;rintro e w3 ⟨rfl,hb⟩;have HB3:=J (HB2.out.trans (hb.mono HB2.out.size));clear hb))
       go_roundw
       case rel=>exact ⟨j + 1,false,true,by omega,by go_num,rfl,rfl,J (show false = _ from HE1.out.symm),J (show true = _ from HE2.out.symm),HB3⟩
       case measure=>simp [intOf];omega
    | some lx =>
     rw [hl9] at hlx he1 he2
     have hll:=hlab x lx hl9
     have HLX:=J hlx
     have HEQ:=J (fun W A9 c9 (hv:aa W (· < W.heap.size) lx (.slice A9 lx.length c9)) (hb:Below w1.heap.size w1 W)=>bp lx ([]:List UInt8) (.slice A9 lx.length c9) (.slice none 0 0) W hv (HVL.out W hb) (by omega) HLL.out)
     rw [Option.getD_some] at he2
     obtain ⟨d,hd⟩:∃ d,decide (lx = ([]:List UInt8)) = d:=⟨_,rfl⟩
     simp only [hd] at HEQ he2
     have HE1:Hid ((false && (l.take (j + 1)).all fun n=>(s.labelA n).isSome) = (b1 && true)):=J (by rw [he1,← Bool.and_assoc,← HQ1.out];rfl)
     have HE2:Hid (((l.take (j + 1)).all fun n=>decide ((s.labelA n).getD [] = ([]:List UInt8))) = (b2 && d)):=J (by rw [he2,← HQ2.out])
     clear hlx he1 he2 hd hl9 hll
     cases b1 with
     | false =>
      cases b2 with
      | false =>
       go_wp2_with (go_at_call 132;refine HLX.out.mono ?_;rintro e w2 ⟨⟨A9,c9,rfl,hv⟩,hb⟩;have HB2:=J (HBW.out.trans (hb.mono HBW.out.size));have HV2:Hid (aa w2 (· < w2.heap.size) lx (.slice A9 lx.length c9)):=J (hv.more (fun k hk _=>hk));clear hb hv)
       go_roundw
       case rel=>exact ⟨j + 1,false,false,by omega,by go_num,rfl,rfl,J (show false = _ from HE1.out.symm),J (show false = _ from HE2.out.symm),HB2⟩
       case measure=>simp [intOf];omega
      | true =>
       go_wp2_with (first | (go_at_call 132;refine HLX.out.mono ?_;rintro e w2 ⟨⟨A9,c9,rfl,hv⟩,hb⟩;have HB2:=J (HBW.out.trans (hb.mono HBW.out.size));have HV2:Hid (aa w2 (· < w2.heap.size) lx (.slice A9 lx.length c9)):=J (hv.more (fun k hk _=>hk));clear hb hv) | (go_at_call 80;refine (HEQ.out _ _ _ HV2.out HB2.out).mono ?_;rintro e w3 ⟨rfl,hb⟩;have HB3:=J (HB2.out.trans (hb.mono HB2.out.size));clear hb))
       go_roundw
       case rel=>exact ⟨j + 1,false,d,by omega,by go_num,rfl,rfl,J (show false = _ from HE1.out.symm),J (show d = _ from HE2.out.symm),HB3⟩
       case measure=>simp [intOf];omega
     | true =>
      cases b2 with
      | false =>
       go_wp2_with (go_at_call 132;refine HLX.out.mono ?_;rintro e w2 ⟨⟨A9,c9,rfl,hv⟩,hb⟩;have HB2:=J (HBW.out.trans (hb.mono HBW.out.size));have HV2:Hid (aa w2 (· < w2.heap.size) lx (.slice A9 lx.length c9)):=J (hv.more (fun k hk _=>hk));clear hb hv)
       go_roundw
       case rel=>exact ⟨j + 1,true,false,by omega,by go_num,rfl,rfl,J (show true = _ from HE1.out.symm),J (show false = _ from HE2.out.symm),HB2⟩
       case measure=>simp [intOf];omega
      | true =>
       go_wp2_with (first | (go_at_call 132;refine HLX.out.mono ?_;rintro e w2 ⟨⟨A9,c9,rfl,hv⟩,hb⟩;have HB2:=J (HBW.out.trans (hb.mono HBW.out.size));have HV2:Hid (aa w2 (· < w2.heap.size) lx (.slice A9 lx.length c9)):=J (hv.more (fun k hk _=>hk));clear hb hv) | (go_at_call 80;refine (HEQ.out _ _ _ HV2.out HB2.out).mono ?_;rintro e w3 ⟨rfl,hb⟩;have HB3:=J (HB2.out.trans (hb.mono HB2.out.size));clear hb))
       go_roundw
       case rel=>exact ⟨j + 1,true,d,by omega,by go_num,rfl,rfl,J (show true = _ from HE1.out.symm),J (show d = _ from HE2.out.symm),HB3⟩
       case measure=>simp [intOf];omega
   ·obtain rfl:j = l4:=by omega
    have hji:decide ((j:Int) < (j:Int)) = false:=decide_eq_false (by omega)
    have hjn2:decide (j < j) = false:=decide_eq_false hjn
    have htk:l.take j = l:=List.take_of_length_le (by have:=HN4.out;omega)
    have HQ1:=J (HQ1.out.trans (by rw [htk]))
    have HQ2:=J (HQ2.out.trans (by rw [htk]))
    clear htk hjn
    have HTE:Hid (Bo.brTable a l s = .error 101):=J (by unfold Bo.brTable;rw [HLAB.out])
    cases b1 with
    | true=>exact absurd HQ1.out (by simp)
    | false =>
     go_wp2_with fail
     go_ret
     exact aj.err HTE.out (H1.out.on HBW.out).base
 | some la =>
  rw [hl] at HLB
  have HLAB:=J hl
  have hll:=hlab a la hl
  have HLL:Hid (la.length ≤ 4000000):=J (by omega)
  clear hl ha hll
  go_upto_region 1 with fail
  refine wp_region_held_drew (S:=fun W'=>Below w0.heap.size w0 W') (by kernel_rfl) (Below.drew (Below.refl _ _)) (fun hHeld=>?_)
  refine da1 0 rfl ?_
  refine da1 1 rfl ?_
  refine da1 2 rfl ?_
  refine da1 3 rfl ?_
  refine da1 4 rfl ?_
  refine da1 5 rfl ?_
  refine dA 6 rfl fun K hK=>?_
  go_simp
  have hz:=hHeld.size
  refine (HLB.out _ hHeld).mono ?_
  rintro e w1 ⟨⟨A1,c1,rfl,hv⟩,hb⟩
  have hH:Below w0.heap.size w0 w1:=hHeld.trans (hb.mono hHeld.size)
  have HW1:=J hH
  have HV1:Hid (aa w1 (Apt w1 G) la (.slice A1 la.length c1)):=J (H0.out.fresh hH (hv.more (fun k _ hk=>Nat.le_trans hz hk)))
  clear hb hv hz
  go_wp2_with fail
  refine hK.out _ _ (hH) fun hHeld=>?_
  clear hK K
  refine dW 7 rfl ?_
  refine dW 8 rfl ?_
  refine dW 9 rfl ?_
  refine dW 10 rfl ?_
  refine dW 11 rfl ?_
  refine dN ?_
  have H1:=J (H0.out.on HW1.out)
  have HN01:=J (HN0.out.trans (Nxt.of_below HW1.out))
  have HCD:=J (fun W (hb:Below w1.heap.size w1 W)=>HCC.out W (HW1.out.trans (hb.mono HW1.out.size)))
  have HVA:Hid (∀ W,Below w1.heap.size w1 W → aa W (Apt W G) la (.slice A1 la.length c1)):=J (fun W hb=>(HV1.out.mod (T:=fun _=>False) (Mod.of_below hb) (fun _ _ _ h=>h)).more (fun k hk hs=>⟨hs.1,hk⟩))
  have HVL:Hid (∀ W,Below w1.heap.size w1 W → aa W (· < W.heap.size) la (.slice A1 la.length c1)):=J (fun W hb=>(HVA.out W hb).more (fun _ hk _=>hk))
  obtain ⟨⟨x0,x1,x2,x3,x4⟩,y0,y1,y2,y3,y4,y5⟩:=HCD.out w1 (Below.refl _ _)
  go_wp2_with fail
  clear x0 x1 x2 x3 x4 y0 y1 y2 y3 y4 y5
  go_loopw [6,7,25] (fun okv samev iv wr=>∃ (j:Nat) (b1 b2:Bool),j ≤ l4 ∧ iv = .int .i64 ↑j ∧ okv = .bool b1 ∧ samev = .bool b2 ∧ Hid (b1 = (true && (l.take j).all fun n=>(s.labelA n).isSome)) ∧ Hid (b2 = ((l.take j).all fun n=>decide ((s.labelA n).getD [] = la))) ∧ Hid (Below w1.heap.size w1 wr)) (fun _ _ iv _=>l4 - (intOf iv).toNat)
  case atStart=>exact ⟨0,true,true,by omega,rfl,rfl,rfl,J rfl,J rfl,J (Below.refl _ _)⟩
  case round =>
   obtain ⟨j,b1,b2,hj,rfl,rfl,rfl,HQ1,HQ2,HBW⟩:=hrel
   obtain ⟨_,y0,y1,y2,y3,y4,y5⟩:=HCD.out _ HBW.out
   by_cases hjn:j < l4
   ·obtain ⟨x,hx⟩:∃ x,l[j]? = some x:=⟨_,List.getElem?_eq_getElem (by have:=HN4.out;omega)⟩
    have hxl:=HLW.out x (List.mem_of_getElem? hx)
    obtain ⟨g,oo,rfl,hg,hc⟩:=HU.out j x hx
    have k0:World.cell? _ ⟨g,oo + j,none⟩ = some (.int .u32 ↑x):=((H1.out.on HBW.out).base.cell (p:=⟨g,oo + j,none⟩) hg).trans hc
    have hji:(j:Int) < (l4:Int):=by omega
    have hlx:=cB (H1.out.on HBW.out) hs (by omega) x hxl
    have he1:=Bo.all_take1 hx (fun n=>(s.labelA n).isSome)
    have he2:=Bo.all_take1 hx (fun n=>decide ((s.labelA n).getD [] = la))
    clear hx hc hxl
    cases hl9:s.labelA x with
    | none =>
     rw [hl9] at hlx he1 he2
     have HLX:=J hlx
     have HEQ:=J (fun W (hv:aa W (· < W.heap.size) ([]:List UInt8) (.slice none 0 0)) (hb:Below w1.heap.size w1 W)=>bp [] la (.slice none 0 0) (.slice A1 la.length c1) W hv (HVL.out W hb) (by simp) HLL.out)
     rw [Option.getD_none] at he2
     obtain ⟨d,hd⟩:∃ d,decide (([]:List UInt8) = la) = d:=⟨_,rfl⟩
     simp only [hd] at HEQ he2
     have HE1:Hid ((true && (l.take (j + 1)).all fun n=>(s.labelA n).isSome) = (b1 && false)):=J (by rw [he1,← Bool.and_assoc,← HQ1.out];rfl)
     have HE2:Hid (((l.take (j + 1)).all fun n=>decide ((s.labelA n).getD [] = la)) = (b2 && d)):=J (by rw [he2,← HQ2.out])
     clear hlx he1 he2 hd hl9
     cases b1 with
     | false =>
      cases b2 with
      | false =>
       go_wp2_with (go_at_call 132;refine HLX.out.mono ?_;rintro e w2 ⟨he,hb⟩;obtain rfl:e = .returned (.tuple #[.slice none 0 0,.bool false]):=he;have HB2:=J (HBW.out.trans (hb.mono HBW.out.size));have HV2:Hid (aa w2 (· < w2.heap.size) ([]:List UInt8) (.slice none 0 0)):=J (aa.nil _ _);clear hb)
       go_roundw
       case rel=>exact ⟨j + 1,false,false,by omega,by go_num,rfl,rfl,J (show false = _ from HE1.out.symm),J (show false = _ from HE2.out.symm),HB2⟩
       case measure=>simp [intOf];omega
      | true =>
       go_wp2_with (first | (go_at_call 132;refine HLX.out.mono ?_;rintro e w2 ⟨he,hb⟩;obtain rfl:e = .returned (.tuple #[.slice none 0 0,.bool false]):=he;have HB2:=J (HBW.out.trans (hb.mono HBW.out.size));have HV2:Hid (aa w2 (· < w2.heap.size) ([]:List UInt8) (.slice none 0 0)):=J (aa.nil _ _);clear hb) | (go_at_call 80;refine (HEQ.out _ HV2.out HB2.out).mono ?_;rintro e w3 ⟨rfl,hb⟩;have HB3:=J (HB2.out.trans (hb.mono HB2.out.size));clear hb))
       go_roundw
       case rel=>exact ⟨j + 1,false,d,by omega,by go_num,rfl,rfl,J (show false = _ from HE1.out.symm),J (show d = _ from HE2.out.symm),HB3⟩
       case measure=>simp [intOf];omega
     | true =>
      cases b2 with
      | false =>
       go_wp2_with (go_at_call 132;refine HLX.out.mono ?_;rintro e w2 ⟨he,hb⟩;obtain rfl:e = .returned (.tuple #[.slice none 0 0,.bool false]):=he;have HB2:=J (HBW.out.trans (hb.mono HBW.out.size));have HV2:Hid (aa w2 (· < w2.heap.size) ([]:List UInt8) (.slice none 0 0)):=J (aa.nil _ _);clear hb)
       go_roundw
       case rel=>exact ⟨j + 1,false,false,by omega,by go_num,rfl,rfl,J (show false = _ from HE1.out.symm),J (show false = _ from HE2.out.symm),HB2⟩
       case measure=>simp [intOf];omega
      | true =>
       go_wp2_with (first | (go_at_call 132;refine HLX.out.mono ?_;rintro e w2 ⟨he,hb⟩;obtain rfl:e = .returned (.tuple #[.slice none 0 0,.bool false]):=he;have HB2:=J (HBW.out.trans (hb.mono HBW.out.size));have HV2:Hid (aa w2 (· < w2.heap.size) ([]:List UInt8) (.slice none 0 0)):=J (aa.nil _ _);clear hb) | (go_at_call 80;refine (HEQ.out _ HV2.out HB2.out).mono ?_;rintro e w3 ⟨rfl,hb⟩;have HB3:=J (HB2.out.trans (hb.mono HB2.out.size));clear hb))
       go_roundw
       case rel=>exact ⟨j + 1,false,d,by omega,by go_num,rfl,rfl,J (show false = _ from HE1.out.symm),J (show d = _ from HE2.out.symm),HB3⟩
       case measure=>simp [intOf];omega
    | some lx =>
     rw [hl9] at hlx he1 he2
     have hll:=hlab x lx hl9
     have HLX:=J hlx
     have HEQ:=J (fun W A9 c9 (hv:aa W (· < W.heap.size) lx (.slice A9 lx.length c9)) (hb:Below w1.heap.size w1 W)=>bp lx la (.slice A9 lx.length c9) (.slice A1 la.length c1) W hv (HVL.out W hb) (by omega) HLL.out)
     rw [Option.getD_some] at he2
     obtain ⟨d,hd⟩:∃ d,decide (lx = la) = d:=⟨_,rfl⟩
     simp only [hd] at HEQ he2
     have HE1:Hid ((true && (l.take (j + 1)).all fun n=>(s.labelA n).isSome) = (b1 && true)):=J (by rw [he1,← Bool.and_assoc,← HQ1.out];rfl)
     have HE2:Hid (((l.take (j + 1)).all fun n=>decide ((s.labelA n).getD [] = la)) = (b2 && d)):=J (by rw [he2,← HQ2.out])
     clear hlx he1 he2 hd hl9 hll
     cases b1 with
     | false =>
      cases b2 with
      | false =>
       go_wp2_with (go_at_call 132;refine HLX.out.mono ?_;rintro e w2 ⟨⟨A9,c9,rfl,hv⟩,hb⟩;have HB2:=J (HBW.out.trans (hb.mono HBW.out.size));have HV2:Hid (aa w2 (· < w2.heap.size) lx (.slice A9 lx.length c9)):=J (hv.more (fun k hk _=>hk));clear hb hv)
       go_roundw
       case rel=>exact ⟨j + 1,false,false,by omega,by go_num,rfl,rfl,J (show false = _ from HE1.out.symm),J (show false = _ from HE2.out.symm),HB2⟩
       case measure=>simp [intOf];omega
      | true =>
       go_wp2_with (first | (go_at_call 132;refine HLX.out.mono ?_;rintro e w2 ⟨⟨A9,c9,rfl,hv⟩,hb⟩;have HB2:=J (HBW.out.trans (hb.mono HBW.out.size));have HV2:Hid (aa w2 (· < w2.heap.size) lx (.slice A9 lx.length c9)):=J (hv.more (fun k hk _=>hk));clear hb hv) | (go_at_call 80;refine (HEQ.out _ _ _ HV2.out HB2.out).mono ?_;rintro e w3 ⟨rfl,hb⟩;have HB3:=J (HB2.out.trans (hb.mono HB2.out.size));clear hb))
       go_roundw
       case rel=>exact ⟨j + 1,false,d,by omega,by go_num,rfl,rfl,J (show false = _ from HE1.out.symm),J (show d = _ from HE2.out.symm),HB3⟩
       case measure=>simp [intOf];omega
     | true =>
      cases b2 with
      | false =>
       go_wp2_with (go_at_call 132;refine HLX.out.mono ?_;rintro e w2 ⟨⟨A9,c9,rfl,hv⟩,hb⟩;have HB2:=J (HBW.out.trans (hb.mono HBW.out.size));have HV2:Hid (aa w2 (· < w2.heap.size) lx (.slice A9 lx.length c9)):=J (hv.more (fun k hk _=>hk));clear hb hv)
       go_roundw
       case rel=>exact ⟨j + 1,true,false,by omega,by go_num,rfl,rfl,J (show true = _ from HE1.out.symm),J (show false = _ from HE2.out.symm),HB2⟩
       case measure=>simp [intOf];omega
      | true =>
       go_wp2_with (first | (go_at_call 132;refine HLX.out.mono ?_;rintro e w2 ⟨⟨A9,c9,rfl,hv⟩,hb⟩;have HB2:=J (HBW.out.trans (hb.mono HBW.out.size));have HV2:Hid (aa w2 (· < w2.heap.size) lx (.slice A9 lx.length c9)):=J (hv.more (fun k hk _=>hk));clear hb hv) | (go_at_call 80;refine (HEQ.out _ _ _ HV2.out HB2.out).mono ?_;rintro e w3 ⟨rfl,hb⟩;have HB3:=J (HB2.out.trans (hb.mono HB2.out.size));clear hb))
       go_roundw
       case rel=>exact ⟨j + 1,true,d,by omega,by go_num,rfl,rfl,J (show true = _ from HE1.out.symm),J (show d = _ from HE2.out.symm),HB3⟩
       case measure=>simp [intOf];omega
   ·obtain rfl:j = l4:=by omega
    have hji:decide ((j:Int) < (j:Int)) = false:=decide_eq_false (by omega)
    have hjn2:decide (j < j) = false:=decide_eq_false hjn
    have htk:l.take j = l:=List.take_of_length_le (by have:=HN4.out;omega)
    have HQ1:=J (HQ1.out.trans (by rw [htk]))
    have HQ2:=J (HQ2.out.trans (by rw [htk]))
    clear htk hjn
    cases b1 with
    | false =>
     have HTE:Hid (Bo.brTable a l s = .error 101):=J (by
      unfold Bo.brTable
      rw [HLAB.out]
      dsimp only
      have h:=HQ1.out
      rw [Bool.true_and] at h
      rw [← h]
      rfl)
     go_wp2_with fail
     go_ret
     exact aj.err HTE.out (H1.out.on HBW.out).base
    | true =>
     have hall:(l.all fun n=>(s.labelA n).isSome) = true:=by
      have h:=HQ1.out
      rw [Bool.true_and] at h
      exact h.symm
     cases b2 with
     | false =>
      have HTE:Hid (Bo.brTable a l s = .error 100):=J (by
       unfold Bo.brTable
       rw [HLAB.out]
       dsimp only
       rw [if_pos hall,if_neg (by rw [← HQ2.out];simp)])
      clear hall
      go_wp2_with fail
      go_ret
      exact aj.err HTE.out (H1.out.on HBW.out).base
     | true =>
      have HTE:Hid (Bo.brTable a l s = if s.wantA [127] = true then Bo.goes (s.want [127]) la else .error 100):=J (by
       unfold Bo.brTable
       rw [HLAB.out]
       dsimp only
       rw [if_pos hall,← HQ2.out]
       simp)
      clear hall
      have hwa:=(H1.out.on HBW.out).i32 hs (by omega)
      cases hw:s.wantA [127] with
      | false =>
       rw [hw] at hwa
       have HWA:=J hwa
       have HTF:Hid (Bo.brTable a l s = .error 100):=J (by rw [HTE.out,hw];rfl)
       clear hw hwa
       go_wp2_with (go_at_call 130;refine HWA.out.mono ?_;rintro e w5 ⟨rfl,G5,h5,n5⟩;have HN5:=J n5;clear h5 n5)
       go_ret
       exact aj.err HTF.out ((H1.out.on HBW.out).below HN5.out)
      | true =>
       rw [hw] at hwa
       have HWA:=J hwa
       have HTF:Hid (Bo.brTable a l s = Bo.goes (s.want [127]) la):=J (by rw [HTE.out,hw];rfl)
       have HVW:=J (HVA.out _ HBW.out)
       have HGO:=J (fun W G5 v (hW:Wk C R P W G5 (s.want [127]) o) (hv:aa W (Apt W G5) la v)=>dk hW (Ty.sm_want hs _) hn la v hv (by have:=HLL.out;omega))
       clear hw hwa
       go_wp2_with (first | (go_at_call 130;refine HWA.out.mono ?_;rintro e w5 ⟨rfl,G5,h5,n5⟩;have H5:=J h5;have HN5:=J n5;clear h5 n5) | (go_at_call 133;refine (HGO.out _ _ _ H5.out (Apt.next HVW.out HN5.out)).mono ?_;rintro e w9 he;obtain ⟨k,rfl,hk⟩:=he.num;have HK:=J hk;clear he hk))
       go_ret
       rw [HTF.out]
       exact ((HK.out.ahead HN5.out).ahead (Nxt.of_below HBW.out)).ahead HN01.out
end Go.Proofs.YtmpelmihdpomjaaGreat
namespace Bo
theorem step_same {o o':List Bool} {op:Nat} (h:Ins.step o op = some o') (h1:¬ (op = 2 ∨ op = 3 ∨ op = 4)) (h2:op ≠ 5) (h3:op ≠ 11):o' = o:=(dx h).2.2.2 h1 h2 h3
theorem step_block {o o':List Bool} {op:Nat} (h:Ins.step o op = some o') (h1:op = 2 ∨ op = 3 ∨ op = 4):o' = o ++ [decide (op = 4)]:=by
 rcases h1 with rfl | rfl | rfl <;> (unfold Ins.step at h;simp at h;rw [← h];rfl)
theorem step_else {o o':List Bool} (h:Ins.step o 5 = some o'):∃ i f,o = i ++ [f] ∧ o' = i ++ [false]:=by
 unfold Ins.step at h
 simp only [show ¬ (5 = 2 ∨ 5 = 3) by decide,show ¬ (5 = 4) by decide,if_false,if_true] at h
 split at h
 ·next hg =>
  injection h with h
  subst h
  rcases List.eq_nil_or_concat o with e | ⟨i,f,e⟩
  ·subst e;simp at hg
  ·have e':o = i ++ [f]:=by simpa using e
   subst e'
   exact ⟨i,f,rfl,by simp⟩
 ·cases h
theorem step_end {o o':List Bool} (h:Ins.step o 11 = some o'):∃ f,o = o' ++ [f] ∧ isIf o = f:=by
 unfold Ins.step at h
 simp only [show ¬ (11 = 2 ∨ 11 = 3) by decide,show ¬ (11 = 4) by decide,show ¬ (11 = 5) by decide,if_false,if_true] at h
 split at h
 ·cases h
 ·next hg =>
  injection h with h
  subst h
  rcases List.eq_nil_or_concat o with e | ⟨i,f,e⟩
  ·exact absurd e hg
  ·have e':o = i ++ [f]:=by simpa using e
   subst e'
   exact ⟨f,by simp,by unfold isIf;simp⟩
theorem one_memo {E:Env} {b:Bool} {x:Ins.I} {s:Ty.T} (h0:¬ x.op = 0) (h2:¬ x.op = 2) (h3:¬ x.op = 3) (h4:¬ x.op = 4) (h5:¬ x.op = 5) (h11:¬ x.op = 11) (h12:¬ x.op = 12) (h13:¬ x.op = 13) (h14:¬ x.op = 14) (h15:¬ x.op = 15) (h16:¬ x.op = 16) (h17:¬ x.op = 17) (h26:¬ x.op = 26) (h27:¬ x.op = 27) (h32:¬ x.op = 32) (h33:¬ x.op = 33) (h34:¬ x.op = 34) (h35:¬ x.op = 35) (h36:¬ x.op = 36) (h63:¬ x.op = 63) (h64:¬ x.op = 64):one E b x s = memo E x s:=by
 unfold one
 rw [if_neg (by omega),if_neg (by omega),if_neg (by omega)]
 unfold flow
 rw [if_neg (by omega),if_neg (by omega),if_neg (by omega),if_neg (by omega),if_neg (by omega),if_neg (by omega),if_neg (by omega)]
 unfold vari
 rw [if_neg (by omega),if_neg (by omega),if_neg (by omega),if_neg (by omega),if_neg (by omega)]
end Bo
namespace Go.Proofs.YtmpelmihdpomjaaGreat
open Go.RowKit Ins Bin Sp
def Disp (op k:Nat):Prop :=
 (∀ (a:Array Value) (w:World),(callFunc k a).run Tryz.prog w = .ok (.enter k a) w) ∧
 (∀ (R:Nat) (w:World),Calls Tryz.prog 90 #[.pointer (some ⟨R,0,none⟩),.int .u8 ↑op] w fun e w'=>e = .returned (.func (.func k) #[.pointer (some ⟨R,0,none⟩)] #[]) ∧ w = w') ∧
 ∀ (C:Ctx) (R P n:Nat) (w:World) (G:Nat → Prop) (s:Ty.T) (o o':List Bool) (a b:Nat) (c:Int) (A4:Option Addr) (c4:Nat) (l:List Nat),C.Good → Wk C R P w G s o → s.sm n → n ≤ 400000000 → (∀ k l,s.labelA k = some l → l.length ≤ 4000000) → o.length ≤ 2000000 → a < 4294967296 → (∀ n ∈ l,n < 4294967296) → HasU C.w0 (· < C.w0.heap.size) A4 l → l.length ≤ 1000000000 → Ins.step o op = some o' →
  Calls Tryz.prog k #[.pointer (some ⟨R,0,none⟩),.agg #[.int .u8 ↑op,.int .u32 ↑a,.int .u32 ↑b,.int .i64 c,.slice A4 l.length c4]] w (aj C R P G o' w (Bo.one C.env (Bo.isIf o) ⟨op,a,b,c,l⟩ s))
theorem disp2:Disp 2 99:=by
 refine ⟨fun a w=>by kernel_rfl,fun R w=>asks2_any R w,?_⟩
 intro C R P n w G s o o' a b c A4 c4 l hC h hs hn hlab ho ha hlw hU hl5 hst
 obtain rfl:=Bo.step_block hst (by decide)
 exact cU h hs hn 2 a b c A4 l.length c4 ho
theorem disp3:Disp 3 99:=by
 refine ⟨fun a w=>by kernel_rfl,fun R w=>asks3_any R w,?_⟩
 intro C R P n w G s o o' a b c A4 c4 l hC h hs hn hlab ho ha hlw hU hl5 hst
 obtain rfl:=Bo.step_block hst (by decide)
 exact cU h hs hn 3 a b c A4 l.length c4 ho
theorem disp4:Disp 4 99:=by
 refine ⟨fun a w=>by kernel_rfl,fun R w=>asks4_any R w,?_⟩
 intro C R P n w G s o o' a b c A4 c4 l hC h hs hn hlab ho ha hlw hU hl5 hst
 obtain rfl:=Bo.step_block hst (by decide)
 exact cU h hs hn 4 a b c A4 l.length c4 ho
theorem disp5:Disp 5 100:=by
 refine ⟨fun a w=>by kernel_rfl,fun R w=>asks5_any R w,?_⟩
 intro C R P n w G s o o' a b c A4 c4 l hC h hs hn hlab ho ha hlw hU hl5 hst
 obtain ⟨i,f,hi,rfl⟩:=Bo.step_else hst
 exact bother_any h hs hn 5 a b c A4 l.length c4 i f hi
theorem disp11:Disp 11 101:=by
 refine ⟨fun a w=>by kernel_rfl,fun R w=>asks11_any R w,?_⟩
 intro C R P n w G s o o' a b c A4 c4 l hC h hs hn hlab ho ha hlw hU hl5 hst
 obtain ⟨f,hi,hf⟩:=Bo.step_end hst
 rw [hf]
 exact bend_any h hs hn 11 a b c A4 l.length c4 o' f hi
theorem disp12:Disp 12 102:=by
 refine ⟨fun a w=>by kernel_rfl,fun R w=>asks12_any R w,?_⟩
 intro C R P n w G s o o' a b c A4 c4 l hC h hs hn hlab ho ha hlw hU hl5 hst
 obtain rfl:=Bo.step_same hst (by decide) (by decide) (by decide)
 exact bbr_any h hs hn 12 a b c A4 l.length c4 ha
theorem disp13:Disp 13 103:=by
 refine ⟨fun a w=>by kernel_rfl,fun R w=>asks13_any R w,?_⟩
 intro C R P n w G s o o' a b c A4 c4 l hC h hs hn hlab ho ha hlw hU hl5 hst
 obtain rfl:=Bo.step_same hst (by decide) (by decide) (by decide)
 exact bbrIf_any h hs hn 13 a b c A4 l.length c4 ha
theorem disp14:Disp 14 104:=by
 refine ⟨fun a w=>by kernel_rfl,fun R w=>asks14_any R w,?_⟩
 intro C R P n w G s o o' a b c A4 c4 l hC h hs hn hlab ho ha hlw hU hl5 hst
 obtain rfl:=Bo.step_same hst (by decide) (by decide) (by decide)
 exact ff h hs hn 14 a b c A4 l.length c4 ha l rfl hlw hU hlab hl5
theorem disp15:Disp 15 105:=by
 refine ⟨fun a w=>by kernel_rfl,fun R w=>asks15_any R w,?_⟩
 intro C R P n w G s o o' a b c A4 c4 l hC h hs hn hlab ho ha hlw hU hl5 hst
 obtain rfl:=Bo.step_same hst (by decide) (by decide) (by decide)
 exact bleave_any hC h hs hn 15 a b c A4 l.length c4
theorem disp0:Disp 0 106:=by
 refine ⟨fun a w=>by kernel_rfl,fun R w=>asks0_any R w,?_⟩
 intro C R P n w G s o o' a b c A4 c4 l hC h hs hn hlab ho ha hlw hU hl5 hst
 obtain rfl:=Bo.step_same hst (by decide) (by decide) (by decide)
 exact fg h hs hn 0 a b c A4 l.length c4
theorem disp16:Disp 16 107:=by
 refine ⟨fun a w=>by kernel_rfl,fun R w=>asks16_any R w,?_⟩
 intro C R P n w G s o o' a b c A4 c4 l hC h hs hn hlab ho ha hlw hU hl5 hst
 obtain rfl:=Bo.step_same hst (by decide) (by decide) (by decide)
 exact bcall_any hC h hs hn 16 a b c A4 l.length c4 ha
theorem disp17:Disp 17 108:=by
 refine ⟨fun a w=>by kernel_rfl,fun R w=>asks17_any R w,?_⟩
 intro C R P n w G s o o' a b c A4 c4 l hC h hs hn hlab ho ha hlw hU hl5 hst
 obtain rfl:=Bo.step_same hst (by decide) (by decide) (by decide)
 exact bcallI_any hC h hs hn 17 a b c A4 l.length c4 ha
theorem disp26:Disp 26 109:=by
 refine ⟨fun a w=>by kernel_rfl,fun R w=>asks26_any R w,?_⟩
 intro C R P n w G s o o' a b c A4 c4 l hC h hs hn hlab ho ha hlw hU hl5 hst
 obtain rfl:=Bo.step_same hst (by decide) (by decide) (by decide)
 exact bdrop_any h hs hn 26 a b c A4 l.length c4
theorem disp27:Disp 27 110:=by
 refine ⟨fun a w=>by kernel_rfl,fun R w=>asks27_any R w,?_⟩
 intro C R P n w G s o o' a b c A4 c4 l hC h hs hn hlab ho ha hlw hU hl5 hst
 obtain rfl:=Bo.step_same hst (by decide) (by decide) (by decide)
 exact bchoose_any h hs hn 27 a b c A4 l.length c4
theorem disp32:Disp 32 111:=by
 refine ⟨fun a w=>by kernel_rfl,fun R w=>asks32_any R w,?_⟩
 intro C R P n w G s o o' a b c A4 c4 l hC h hs hn hlab ho ha hlw hU hl5 hst
 obtain rfl:=Bo.step_same hst (by decide) (by decide) (by decide)
 exact dE hC h hs hn 32 a b c A4 l.length c4 ha
theorem disp33:Disp 33 111:=by
 refine ⟨fun a w=>by kernel_rfl,fun R w=>asks33_any R w,?_⟩
 intro C R P n w G s o o' a b c A4 c4 l hC h hs hn hlab ho ha hlw hU hl5 hst
 obtain rfl:=Bo.step_same hst (by decide) (by decide) (by decide)
 exact dE hC h hs hn 33 a b c A4 l.length c4 ha
theorem disp34:Disp 34 111:=by
 refine ⟨fun a w=>by kernel_rfl,fun R w=>asks34_any R w,?_⟩
 intro C R P n w G s o o' a b c A4 c4 l hC h hs hn hlab ho ha hlw hU hl5 hst
 obtain rfl:=Bo.step_same hst (by decide) (by decide) (by decide)
 exact dE hC h hs hn 34 a b c A4 l.length c4 ha
theorem disp35:Disp 35 112:=by
 refine ⟨fun a w=>by kernel_rfl,fun R w=>asks35_any R w,?_⟩
 intro C R P n w G s o o' a b c A4 c4 l hC h hs hn hlab ho ha hlw hU hl5 hst
 obtain rfl:=Bo.step_same hst (by decide) (by decide) (by decide)
 exact bgget_any hC h hs hn 35 a b c A4 l.length c4 ha
theorem disp36:Disp 36 113:=by
 refine ⟨fun a w=>by kernel_rfl,fun R w=>asks36_any R w,?_⟩
 intro C R P n w G s o o' a b c A4 c4 l hC h hs hn hlab ho ha hlw hU hl5 hst
 obtain rfl:=Bo.step_same hst (by decide) (by decide) (by decide)
 exact bgset_any hC h hs hn 36 a b c A4 l.length c4 ha
theorem disp63:Disp 63 114:=by
 refine ⟨fun a w=>by kernel_rfl,fun R w=>asks63_any R w,?_⟩
 intro C R P n w G s o o' a b c A4 c4 l hC h hs hn hlab ho ha hlw hU hl5 hst
 obtain rfl:=Bo.step_same hst (by decide) (by decide) (by decide)
 exact dZ hC h hs hn 63 a b c A4 l.length c4
theorem disp64:Disp 64 114:=by
 refine ⟨fun a w=>by kernel_rfl,fun R w=>asks64_any R w,?_⟩
 intro C R P n w G s o o' a b c A4 c4 l hC h hs hn hlab ho ha hlw hU hl5 hst
 obtain rfl:=Bo.step_same hst (by decide) (by decide) (by decide)
 exact dZ hC h hs hn 64 a b c A4 l.length c4
theorem dispAcc (op:Nat) (h0:¬ op = 0) (h2:¬ op = 2) (h3:¬ op = 3) (h4:¬ op = 4) (h5:¬ op = 5) (h11:¬ op = 11) (h12:¬ op = 12) (h13:¬ op = 13) (h14:¬ op = 14) (h15:¬ op = 15) (h16:¬ op = 16) (h17:¬ op = 17) (h26:¬ op = 26) (h27:¬ op = 27) (h32:¬ op = 32) (h33:¬ op = 33) (h34:¬ op = 34) (h35:¬ op = 35) (h36:¬ op = 36) (h63:¬ op = 63) (h64:¬ op = 64) (hw:0 < Opc.width op):Disp op 116:=by
 refine ⟨fun a w=>by kernel_rfl,fun R w=>asksAcc_any R op h0 h2 h3 h4 h5 h11 h12 h13 h14 h15 h16 h17 h26 h27 h32 h33 h34 h35 h36 h63 h64 hw w,?_⟩
 intro C R P n w G s o o' a b c A4 c4 l hC h hs hn hlab ho ha hlw hU hl5 hst
 obtain rfl:=Bo.step_same hst (by omega) h5 h11
 have e:Bo.one C.env (Bo.isIf o') ⟨op,a,b,c,l⟩ s = Bo.access C.env op a s:=by
  rw [Bo.one_memo h0 h2 h3 h4 h5 h11 h12 h13 h14 h15 h16 h17 h26 h27 h32 h33 h34 h35 h36 h63 h64]
  unfold Bo.memo
  rw [if_neg (by simp only;omega),if_pos hw]
 rw [e]
 exact baccess_any hC h hs hn op a b c A4 l.length c4 hw
theorem dispPln (op:Nat) (h0:¬ op = 0) (h2:¬ op = 2) (h3:¬ op = 3) (h4:¬ op = 4) (h5:¬ op = 5) (h11:¬ op = 11) (h12:¬ op = 12) (h13:¬ op = 13) (h14:¬ op = 14) (h15:¬ op = 15) (h16:¬ op = 16) (h17:¬ op = 17) (h26:¬ op = 26) (h27:¬ op = 27) (h32:¬ op = 32) (h33:¬ op = 33) (h34:¬ op = 34) (h35:¬ op = 35) (h36:¬ op = 36) (h63:¬ op = 63) (h64:¬ op = 64) (hw:¬ 0 < Opc.width op):Disp op 117:=by
 refine ⟨fun a w=>by kernel_rfl,fun R w=>asksPln_any R op h0 h2 h3 h4 h5 h11 h12 h13 h14 h15 h16 h17 h26 h27 h32 h33 h34 h35 h36 h63 h64 hw w,?_⟩
 intro C R P n w G s o o' a b c A4 c4 l hC h hs hn hlab ho ha hlw hU hl5 hst
 obtain rfl:=Bo.step_same hst (by omega) h5 h11
 have e:Bo.one C.env (Bo.isIf o') ⟨op,a,b,c,l⟩ s = Bo.plain op s:=by
  rw [Bo.one_memo h0 h2 h3 h4 h5 h11 h12 h13 h14 h15 h16 h17 h26 h27 h32 h33 h34 h35 h36 h63 h64]
  unfold Bo.memo
  rw [if_neg (by simp only;omega),if_neg hw]
 rw [e]
 exact cV h hs hn op a b c A4 l.length c4
theorem disp_any (op:Nat):∃ k,Disp op k:=by
 by_cases h0:op = 0
 ·subst h0;exact ⟨_,disp0⟩
 by_cases h2:op = 2
 ·subst h2;exact ⟨_,disp2⟩
 by_cases h3:op = 3
 ·subst h3;exact ⟨_,disp3⟩
 by_cases h4:op = 4
 ·subst h4;exact ⟨_,disp4⟩
 by_cases h5:op = 5
 ·subst h5;exact ⟨_,disp5⟩
 by_cases h11:op = 11
 ·subst h11;exact ⟨_,disp11⟩
 by_cases h12:op = 12
 ·subst h12;exact ⟨_,disp12⟩
 by_cases h13:op = 13
 ·subst h13;exact ⟨_,disp13⟩
 by_cases h14:op = 14
 ·subst h14;exact ⟨_,disp14⟩
 by_cases h15:op = 15
 ·subst h15;exact ⟨_,disp15⟩
 by_cases h16:op = 16
 ·subst h16;exact ⟨_,disp16⟩
 by_cases h17:op = 17
 ·subst h17;exact ⟨_,disp17⟩
 by_cases h26:op = 26
 ·subst h26;exact ⟨_,disp26⟩
 by_cases h27:op = 27
 ·subst h27;exact ⟨_,disp27⟩
 by_cases h32:op = 32
 ·subst h32;exact ⟨_,disp32⟩
 by_cases h33:op = 33
 ·subst h33;exact ⟨_,disp33⟩
 by_cases h34:op = 34
 ·subst h34;exact ⟨_,disp34⟩
 by_cases h35:op = 35
 ·subst h35;exact ⟨_,disp35⟩
 by_cases h36:op = 36
 ·subst h36;exact ⟨_,disp36⟩
 by_cases h63:op = 63
 ·subst h63;exact ⟨_,disp63⟩
 by_cases h64:op = 64
 ·subst h64;exact ⟨_,disp64⟩
 by_cases hw:0 < Opc.width op
 ·exact ⟨_,dispAcc op h0 h2 h3 h4 h5 h11 h12 h13 h14 h15 h16 h17 h26 h27 h32 h33 h34 h35 h36 h63 h64 hw⟩
 ·exact ⟨_,dispPln op h0 h2 h3 h4 h5 h11 h12 h13 h14 h15 h16 h17 h26 h27 h32 h33 h34 h35 h36 h63 h64 hw⟩
end Go.Proofs.YtmpelmihdpomjaaGreat
