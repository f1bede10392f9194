/-
  Layer 10's program: call, call_indirect, global.get, global.set. (gen/body/meth3.py)
-/
import Derived.Test.YtmpelmihdpomjaaGreatSo01
import Derived.Test.YtmpelmihdpomjaaGreatSo32
import Derived.Test.YtmpelmihdpomjaaGreatSo27
import Derived.Test.YtmpelmihdpomjaaGreatSo22
import Derived.Test.YtmpelmihdpomjaaGreatSo26
set_option maxRecDepth 100000
set_option maxHeartbeats 4000000
namespace Sp
theorem few_func {m:Bin.M} {i:Nat} {t:Bin.FT} (hF:Lots m) (h:func m i = some t):t.params.length ≤ 1050000 ∧ t.results.length ≤ 1050000:=by
 unfold func at h
 cases hx:(funs m)[i]? with
 | none=>rw [hx] at h;cases h
 | some k =>
  rw [hx] at h
  exact hF.each t (List.mem_of_getElem? h)
end Sp
namespace Go.Proofs.YtmpelmihdpomjaaGreat
open Go.RowKit Ins Bin Sp
theorem bt.no {w w':World} {e:Ending} (h:bt none w e w'):∃ A1 c1 A2 c2,e = .returned (.tuple #[.agg #[.slice A1 0 c1,.slice A2 0 c2],.bool false]) ∧ Below w.heap.size w w':=by
 obtain ⟨u,v,rfl,⟨A1,c1,rfl,_⟩,⟨A2,c2,rfl,_⟩,hb⟩:=h
 exact ⟨A1,c1,A2,c2,rfl,hb⟩
theorem bt.yes {w w':World} {e:Ending} {t:FT} (h:bt (some t) w e w'):∃ A1 c1 A2 c2,e = .returned (.tuple #[.agg #[.slice A1 t.params.length c1,.slice A2 t.results.length c2],.bool true]) ∧ aa w' (w.heap.size ≤ ·) t.params (.slice A1 t.params.length c1) ∧ aa w' (w.heap.size ≤ ·) t.results (.slice A2 t.results.length c2) ∧ Below w.heap.size w w':=by
 obtain ⟨u,v,rfl,h1,h2,hb⟩:=h
 obtain ⟨A1,c1,rfl,_⟩:=id h1
 obtain ⟨A2,c2,rfl,_⟩:=id h2
 exact ⟨A1,c1,A2,c2,rfl,h1,h2,hb⟩
theorem bP.no {w w':World} {e:Ending} (h:bP none w e w'):e = .returned (.tuple #[.agg #[.int .u8 0,.bool false],.bool false]) ∧ Below w.heap.size w w':=h
theorem bP.yes {w w':World} {e:Ending} {g:Glob} (h:bP (some g) w e w'):e = .returned (.tuple #[.agg #[.int .u8 ↑g.t.toNat,.bool g.mu],.bool true]) ∧ Below w.heap.size w w':=h
theorem av {α:Type} [Lay α] {w:World} {S:Nat → Prop} {xs:List α} {v:Value} {Y:Nat} (h:aa w S xs v) (cs:Array Value) (hy:∀ k,k < w.heap.size → S k → k ≠ Y):aa (w.setRow Y cs) S xs v :=
 h.mod (T:=(· = Y)) ⟨rfl,rfl,rfl,by simp,fun k _ ht=>setRow_other w Y k _ ht⟩ (fun k hk hs e=>hy k hk hs e)
theorem bcall_any {C:Ctx} {R P n:Nat} {w:World} {G:Nat → Prop} {s:Ty.T} {o:List Bool} (hC:C.Good) (h:Wk C R P w G s o) (hs:s.sm n) (hn:n ≤ 400000000) (op a b:Nat) (c:Int) (A4:Option Addr) (l4 c4:Nat) (ha:a < 4294967296) :
  Calls Tryz.prog 107 #[.pointer (some ⟨R,0,none⟩),.agg #[.int .u8 ↑op,.int .u32 ↑a,.int .u32 ↑b,.int .i64 c,.slice A4 l4 c4]] w (aj C R P G o w (Bo.call C.env a s)):=by
 have HX0:=J (heap_alloc_new w (.cells #[.int .u8 ↑op,.int .u32 ↑a,.int .u32 ↑b,.int .i64 c,.slice A4 l4 c4] 56))
 have HB0:Hid (Below w.heap.size w (w.alloc (.cells #[.int .u8 ↑op,.int .u32 ↑a,.int .u32 ↑b,.int .i64 c,.slice A4 l4 c4] 56))):=J bA
 have H0:=J (h.on HB0.out)
 have HN0:Hid (Nxt G w G (w.alloc (.cells #[.int .u8 ↑op,.int .u32 ↑a,.int .u32 ↑b,.int .i64 c,.slice A4 l4 c4] 56))):=J (Nxt.of_below HB0.out)
 have HGX:Hid (¬ G w.heap.size ∧ w.heap.size < (w.alloc (.cells #[.int .u8 ↑op,.int .u32 ↑a,.int .u32 ↑b,.int .i64 c,.slice A4 l4 c4] 56)).heap.size):=J ⟨fun hg=>Nat.lt_irrefl _ (h.out _ hg).2,by simp⟩
 have HFN:=J (fun W (hW:Wk C R P W G s o)=>cX (some ⟨C.sp,0,none⟩) C.m a W (.inl ⟨C.sp,rfl,hC.space.grow hW.base⟩) (Lots.some hC.few) ha hC.funs)
 have HLN:=J (fun t (ht:func C.m a = some t)=>few_func hC.few ht)
 clear h hC
 go_enter Tryz.func107,Tryz.ntmps107
 go_upto_region 1 with fail
 generalize (w.alloc (.cells #[.int .u8 ↑op,.int .u32 ↑a,.int .u32 ↑b,.int .i64 c,.slice A4 l4 c4] 56)) = w0 at HX0 HB0 H0 HN0 HGX ⊢
 obtain ⟨X,hX⟩:∃ X,w.heap.size = X:=⟨_,rfl⟩
 rw [hX] at HX0 HGX
 simp only [hX]
 clear hX HB0
 obtain ⟨z0,z1,z2,z3,z4⟩:=cells5 HX0.out
 obtain ⟨q0,q1,q2,q3,q4,q5⟩:=H0.out.cells
 have HCC:=J (fun W (hb:Below w0.heap.size w0 W)=>And.intro (cells5 ((hb.block X HGX.out.2).trans HX0.out)) (H0.out.on hb).cells)
 clear z0 z1 z2 z3 z4 q0 q1 q2 q3 q4 q5
 have HFN:=J (fun W (hb:Below w0.heap.size w0 W)=>HFN.out W (H0.out.on hb))
 cases hx:func C.m a with
 | none =>
  rw [hx] at HFN
  have HT:Hid (Bo.call C.env a s = .error 80):=J (by unfold Bo.call Ctx.env;dsimp only;rw [hx];rfl)
  clear hx hs hn ha
  go_upto_region 1 with fail
  refine wp_region_held_drew (S:=fun W'=>Below w0.heap.size w0 W') (by kernel_rfl) (Below.drew (Below.refl _ _)) (fun hHeld=>?_)
  refine da1 0 rfl ?_
  refine da1 1 rfl ?_
  refine da1 2 rfl ?_
  refine da1 3 rfl ?_
  refine da1 4 rfl ?_
  refine da1 5 rfl ?_
  refine ai 6 10 rfl rfl (by kernel_rfl) (fun K hK=>?_) (fun K hK=>?_)
  ·try (rw [if_pos];case hc=>rfl)
   go_simp
   refine (HFN.out _ hHeld).mono ?_
   rintro e w1 he
   obtain ⟨A1,c1,A2,c2,rfl,hb⟩:=he.no
   have hH:Below w0.heap.size w0 w1:=hHeld.trans (hb.mono hHeld.size)
   have hz1:w0.heap.size ≤ w1.heap.size:=hH.size
   go_wp2_with fail
   refine hK.out _ _ hH fun hHeld=>?_
   clear hK K
   refine dW 7 rfl ?_
   refine dW 8 rfl ?_
   refine dW 9 rfl ?_
   have HB1:Hid (Below w0.heap.size w0 (w1.alloc (.cells #[.slice none 0 0,.slice none 0 0] 29))):=J (hHeld.alloc hHeld.size _)
   have HZ1:=J (heap_alloc_new w1 (.cells #[.slice none 0 0,.slice none 0 0] 29))
   have HY1:Hid (w0.heap.size ≤ w1.heap.size):=J hz1
   refine dA 10 rfl fun K hK=>?_
   go_simp
   refine hK.out _ _ HB1.out fun hHeld=>?_
   clear hK K
   refine dA 11 rfl fun K hK=>?_
   refine wp_store_row 29 (.tmp 5) (.tmp 15) rfl w1.heap.size #[.slice A1 0 c1,.slice A2 0 c2] rfl rfl 29 #[.slice none 0 0,.slice none 0 0] HZ1.out ak rfl (by simp [Value.oneCell']) ?_
   refine hK.out _ _ (ab HB1.out HY1.out _) fun hHeld=>?_
   clear hK K
   refine dW 12 rfl ?_
   refine dN ?_
   have HBF:Hid (Below w0.heap.size w0 ((w1.alloc (.cells #[.slice none 0 0,.slice none 0 0] 29)).setRow w1.heap.size #[.slice A1 0 c1,.slice A2 0 c2])):=J hHeld
   go_wp2_with fail
   go_ret
   exact aj.err HT.out (H0.out.on HBF.out).base
  ·try (rw [if_pos];case hc=>rfl)
   go_simp
   have hB0:Below w0.heap.size w0 (w0.drew.alloc (.cells #[.slice none 0 0,.slice none 0 0] 29)):=hHeld.alloc hHeld.size _
   have hZ0:=heap_alloc_new w0.drew (.cells #[.slice none 0 0,.slice none 0 0] 29)
   have hl0:w0.heap.size < (w0.drew.alloc (.cells #[.slice none 0 0,.slice none 0 0] 29)).heap.size:=by simp
   refine hK.out _ _ hB0 fun hHeld=>?_
   clear hK K
   refine dA 6 rfl fun K hK=>?_
   go_simp
   refine (HFN.out _ hB0).mono ?_
   rintro e w1 he
   obtain ⟨A1,c1,A2,c2,rfl,hb⟩:=he.no
   have hH:Below w0.heap.size w0 w1:=hB0.trans (hb.mono hB0.size)
   have HB1:Hid (Below w0.heap.size w0 w1):=J hH
   have HZ1:Hid (w1.heap[w0.heap.size]? = some (.cells #[.slice none 0 0,.slice none 0 0] 29 (0,0))):=J ((hb.block _ hl0).trans hZ0)
   have HY1:Hid (w0.heap.size ≤ w0.heap.size):=J (Nat.le_refl _)
   go_wp2_with fail
   refine hK.out _ _ hH fun hHeld=>?_
   clear hK K
   refine dW 7 rfl ?_
   refine dW 8 rfl ?_
   refine dW 9 rfl ?_
   refine dA 11 rfl fun K hK=>?_
   refine wp_store_row 29 (.tmp 5) (.tmp 15) rfl w0.heap.size #[.slice A1 0 c1,.slice A2 0 c2] rfl rfl 29 #[.slice none 0 0,.slice none 0 0] HZ1.out ak rfl (by simp [Value.oneCell']) ?_
   refine hK.out _ _ (ab HB1.out HY1.out _) fun hHeld=>?_
   clear hK K
   refine dW 12 rfl ?_
   refine dN ?_
   have HBF:Hid (Below w0.heap.size w0 (w1.setRow w0.heap.size #[.slice A1 0 c1,.slice A2 0 c2])):=J hHeld
   go_wp2_with fail
   go_ret
   exact aj.err HT.out (H0.out.on HBF.out).base
 | some t =>
  rw [hx] at HFN
  obtain ⟨hl1,hl2⟩:=HLN.out t hx
  have HT:Hid (Bo.call C.env a s = Bo.turned s t.params t.results):=J (by unfold Bo.call Ctx.env;dsimp only;rw [hx];rfl)
  have HTU:=J (fun W v1 v2 (hW:Below w0.heap.size w0 W) (h1:aa W (Apt W G) t.params v1) (h2:aa W (Apt W G) t.results v2)=>aP (H0.out.on hW) hs hn _ _ v1 v2 h1 h2 (by omega) (by omega))
  clear hx hs hn ha hl1 hl2 HLN
  go_upto_region 1 with fail
  refine wp_region_held_drew (S:=fun W'=>Below w0.heap.size w0 W') (by kernel_rfl) (Below.drew (Below.refl _ _)) (fun hHeld=>?_)
  refine da1 0 rfl ?_
  refine da1 1 rfl ?_
  refine da1 2 rfl ?_
  refine da1 3 rfl ?_
  refine da1 4 rfl ?_
  refine da1 5 rfl ?_
  refine ai 6 10 rfl rfl (by kernel_rfl) (fun K hK=>?_) (fun K hK=>?_)
  ·try (rw [if_pos];case hc=>rfl)
   go_simp
   refine (HFN.out _ hHeld).mono ?_
   rintro e w1 he
   obtain ⟨A1,c1,A2,c2,rfl,s1,s2,hb⟩:=he.yes
   have hH:Below w0.heap.size w0 w1:=hHeld.trans (hb.mono hHeld.size)
   have hz1:w0.heap.size ≤ w1.heap.size:=hH.size
   have HS1:Hid (aa w1 (fun k=>w0.heap.size ≤ k ∧ k ≠ w1.heap.size) t.params (.slice A1 t.params.length c1)):=J (s1.more (fun k hk h=>⟨h,by omega⟩))
   have HS2:Hid (aa w1 (fun k=>w0.heap.size ≤ k ∧ k ≠ w1.heap.size) t.results (.slice A2 t.results.length c2)):=J (s2.more (fun k hk h=>⟨h,by omega⟩))
   clear s1 s2
   go_wp2_with fail
   refine hK.out _ _ hH fun hHeld=>?_
   clear hK K
   refine dW 7 rfl ?_
   refine dW 8 rfl ?_
   refine dW 9 rfl ?_
   have HB1:Hid (Below w0.heap.size w0 (w1.alloc (.cells #[.slice none 0 0,.slice none 0 0] 29))):=J (hHeld.alloc hHeld.size _)
   have HZ1:=J (heap_alloc_new w1 (.cells #[.slice none 0 0,.slice none 0 0] 29))
   have HY1:Hid (w0.heap.size ≤ w1.heap.size):=J hz1
   refine dA 10 rfl fun K hK=>?_
   go_simp
   refine hK.out _ _ HB1.out fun hHeld=>?_
   clear hK K
   refine dA 11 rfl fun K hK=>?_
   refine wp_store_row 29 (.tmp 5) (.tmp 15) rfl w1.heap.size #[.slice A1 t.params.length c1,.slice A2 t.results.length c2] rfl rfl 29 #[.slice none 0 0,.slice none 0 0] HZ1.out ak rfl (by simp [Value.oneCell']) ?_
   refine hK.out _ _ (ab HB1.out HY1.out _) fun hHeld=>?_
   clear hK K
   refine dW 12 rfl ?_
   refine dN ?_
   have HBF:Hid (Below w0.heap.size w0 ((w1.alloc (.cells #[.slice none 0 0,.slice none 0 0] 29)).setRow w1.heap.size #[.slice A1 t.params.length c1,.slice A2 t.results.length c2])):=J hHeld
   obtain ⟨y0,y1⟩:=ae (setRow_heap _ _ #[.slice none 0 0,.slice none 0 0] #[.slice A1 t.params.length c1,.slice A2 t.results.length c2] _ _ HZ1.out)
   have HV1:=J ((av (HS1.out.mod (T:=fun _=>False) (Mod.of_below bA) (fun _ _ _ h=>h)) #[.slice A1 t.params.length c1,.slice A2 t.results.length c2] (fun k _ hs=>hs.2)).more (S':=Apt ((w1.alloc (.cells #[.slice none 0 0,.slice none 0 0] 29)).setRow w1.heap.size #[.slice A1 t.params.length c1,.slice A2 t.results.length c2]) G) (fun k hk hs=>⟨fun hg=>by have:=(H0.out.out k hg).2;have:=hs.1;omega,hk⟩))
   have HV2:=J ((av (HS2.out.mod (T:=fun _=>False) (Mod.of_below bA) (fun _ _ _ h=>h)) #[.slice A1 t.params.length c1,.slice A2 t.results.length c2] (fun k _ hs=>hs.2)).more (S':=Apt ((w1.alloc (.cells #[.slice none 0 0,.slice none 0 0] 29)).setRow w1.heap.size #[.slice A1 t.params.length c1,.slice A2 t.results.length c2]) G) (fun k hk hs=>⟨fun hg=>by have:=(H0.out.out k hg).2;have:=hs.1;omega,hk⟩))
   generalize (w1.alloc (.cells #[.slice none 0 0,.slice none 0 0] 29)).setRow w1.heap.size #[.slice A1 t.params.length c1,.slice A2 t.results.length c2] = wf at HBF y0 y1 HV1 HV2 ⊢
   go_wp2_with (go_at_call 134;refine (HTU.out _ _ _ HBF.out HV1.out HV2.out).mono ?_;rintro e w9 he;obtain ⟨k,rfl,hk⟩:=he.num;have HK:=J hk;clear he hk)
   go_ret
   rw [HT.out]
   exact (HK.out.ahead (Nxt.of_below HBF.out)).ahead HN0.out
  ·try (rw [if_pos];case hc=>rfl)
   go_simp
   have hB0:Below w0.heap.size w0 (w0.drew.alloc (.cells #[.slice none 0 0,.slice none 0 0] 29)):=hHeld.alloc hHeld.size _
   have hZ0:=heap_alloc_new w0.drew (.cells #[.slice none 0 0,.slice none 0 0] 29)
   have hl0:w0.heap.size < (w0.drew.alloc (.cells #[.slice none 0 0,.slice none 0 0] 29)).heap.size:=by simp
   refine hK.out _ _ hB0 fun hHeld=>?_
   clear hK K
   refine dA 6 rfl fun K hK=>?_
   go_simp
   refine (HFN.out _ hB0).mono ?_
   rintro e w1 he
   obtain ⟨A1,c1,A2,c2,rfl,s1,s2,hb⟩:=he.yes
   have hH:Below w0.heap.size w0 w1:=hB0.trans (hb.mono hB0.size)
   have HB1:Hid (Below w0.heap.size w0 w1):=J hH
   have HZ1:Hid (w1.heap[w0.heap.size]? = some (.cells #[.slice none 0 0,.slice none 0 0] 29 (0,0))):=J ((hb.block _ hl0).trans hZ0)
   have HY1:Hid (w0.heap.size ≤ w0.heap.size):=J (Nat.le_refl _)
   have HS1:Hid (aa w1 (fun k=>w0.heap.size ≤ k ∧ k ≠ w0.heap.size) t.params (.slice A1 t.params.length c1)):=J (s1.more (fun k hk h=>by have h':(w0.drew.alloc (.cells #[.slice none 0 0,.slice none 0 0] 29)).heap.size ≤ k:=h;simp at h';exact ⟨by omega,by omega⟩))
   have HS2:Hid (aa w1 (fun k=>w0.heap.size ≤ k ∧ k ≠ w0.heap.size) t.results (.slice A2 t.results.length c2)):=J (s2.more (fun k hk h=>by have h':(w0.drew.alloc (.cells #[.slice none 0 0,.slice none 0 0] 29)).heap.size ≤ k:=h;simp at h';exact ⟨by omega,by omega⟩))
   clear s1 s2
   go_wp2_with fail
   refine hK.out _ _ hH fun hHeld=>?_
   clear hK K
   refine dW 7 rfl ?_
   refine dW 8 rfl ?_
   refine dW 9 rfl ?_
   refine dA 11 rfl fun K hK=>?_
   refine wp_store_row 29 (.tmp 5) (.tmp 15) rfl w0.heap.size #[.slice A1 t.params.length c1,.slice A2 t.results.length c2] rfl rfl 29 #[.slice none 0 0,.slice none 0 0] HZ1.out ak rfl (by simp [Value.oneCell']) ?_
   refine hK.out _ _ (ab HB1.out HY1.out _) fun hHeld=>?_
   clear hK K
   refine dW 12 rfl ?_
   refine dN ?_
   have HBF:Hid (Below w0.heap.size w0 (w1.setRow w0.heap.size #[.slice A1 t.params.length c1,.slice A2 t.results.length c2])):=J hHeld
   obtain ⟨y0,y1⟩:=ae (setRow_heap _ _ #[.slice none 0 0,.slice none 0 0] #[.slice A1 t.params.length c1,.slice A2 t.results.length c2] _ _ HZ1.out)
   have HV1:=J ((av HS1.out #[.slice A1 t.params.length c1,.slice A2 t.results.length c2] (fun k _ hs=>hs.2)).more (S':=Apt (w1.setRow w0.heap.size #[.slice A1 t.params.length c1,.slice A2 t.results.length c2]) G) (fun k hk hs=>⟨fun hg=>by have:=(H0.out.out k hg).2;have:=hs.1;omega,hk⟩))
   have HV2:=J ((av HS2.out #[.slice A1 t.params.length c1,.slice A2 t.results.length c2] (fun k _ hs=>hs.2)).more (S':=Apt (w1.setRow w0.heap.size #[.slice A1 t.params.length c1,.slice A2 t.results.length c2]) G) (fun k hk hs=>⟨fun hg=>by have:=(H0.out.out k hg).2;have:=hs.1;omega,hk⟩))
   generalize w1.setRow w0.heap.size #[.slice A1 t.params.length c1,.slice A2 t.results.length c2] = wf at HBF y0 y1 HV1 HV2 ⊢
   go_wp2_with (go_at_call 134;refine (HTU.out _ _ _ HBF.out HV1.out HV2.out).mono ?_;rintro e w9 he;obtain ⟨k,rfl,hk⟩:=he.num;have HK:=J hk;clear he hk)
   go_ret
   rw [HT.out]
   exact (HK.out.ahead (Nxt.of_below HBF.out)).ahead HN0.out
theorem bgget_any {C:Ctx} {R P n:Nat} {w:World} {G:Nat → Prop} {s:Ty.T} {o:List Bool} (hC:C.Good) (h:Wk C R P w G s o) (hs:s.sm n) (hn:n ≤ 400000000) (op a b:Nat) (c:Int) (A4:Option Addr) (l4 c4:Nat) (ha:a < 4294967296) :
  Calls Tryz.prog 112 #[.pointer (some ⟨R,0,none⟩),.agg #[.int .u8 ↑op,.int .u32 ↑a,.int .u32 ↑b,.int .i64 c,.slice A4 l4 c4]] w (aj C R P G o w (Bo.gget C.env a s)):=by
 have HX0:=J (heap_alloc_new w (.cells #[.int .u8 ↑op,.int .u32 ↑a,.int .u32 ↑b,.int .i64 c,.slice A4 l4 c4] 56))
 have HB0:Hid (Below w.heap.size w (w.alloc (.cells #[.int .u8 ↑op,.int .u32 ↑a,.int .u32 ↑b,.int .i64 c,.slice A4 l4 c4] 56))):=J bA
 have H0:=J (h.on HB0.out)
 have HN0:Hid (Nxt G w G (w.alloc (.cells #[.int .u8 ↑op,.int .u32 ↑a,.int .u32 ↑b,.int .i64 c,.slice A4 l4 c4] 56))):=J (Nxt.of_below HB0.out)
 have HGX:Hid (¬ G w.heap.size ∧ w.heap.size < (w.alloc (.cells #[.int .u8 ↑op,.int .u32 ↑a,.int .u32 ↑b,.int .i64 c,.slice A4 l4 c4] 56)).heap.size):=J ⟨fun hg=>Nat.lt_irrefl _ (h.out _ hg).2,by simp⟩
 have HFN:=J (fun W (hW:Wk C R P W G s o)=>cq (some ⟨C.sp,0,none⟩) C.m a W (.inl ⟨C.sp,rfl,hC.space.grow hW.base⟩) (Lots.some hC.few) ha)
 clear h hC
 go_enter Tryz.func112,Tryz.ntmps112
 go_upto_region 1 with fail
 generalize (w.alloc (.cells #[.int .u8 ↑op,.int .u32 ↑a,.int .u32 ↑b,.int .i64 c,.slice A4 l4 c4] 56)) = w0 at HX0 HB0 H0 HN0 HGX ⊢
 obtain ⟨X,hX⟩:∃ X,w.heap.size = X:=⟨_,rfl⟩
 rw [hX] at HX0 HGX
 simp only [hX]
 clear hX HB0
 obtain ⟨z0,z1,z2,z3,z4⟩:=cells5 HX0.out
 obtain ⟨q0,q1,q2,q3,q4,q5⟩:=H0.out.cells
 have HCC:=J (fun W (hb:Below w0.heap.size w0 W)=>And.intro (cells5 ((hb.block X HGX.out.2).trans HX0.out)) (H0.out.on hb).cells)
 clear z0 z1 z2 z3 z4 q0 q1 q2 q3 q4 q5
 have HFN:=J (fun W (hb:Below w0.heap.size w0 W)=>HFN.out W (H0.out.on hb))
 cases hx:(globs C.m)[a]? with
 | none =>
  rw [hx] at HFN
  have HT:Hid (Bo.gget C.env a s = .error 80):=J (by unfold Bo.gget Ctx.env;dsimp only;rw [hx];rfl)
  clear hx hs hn ha
  go_upto_region 1 with fail
  refine wp_region_held_drew (S:=fun W'=>Below w0.heap.size w0 W') (by kernel_rfl) (Below.drew (Below.refl _ _)) (fun hHeld=>?_)
  refine da1 0 rfl ?_
  refine da1 1 rfl ?_
  refine da1 2 rfl ?_
  refine da1 3 rfl ?_
  refine da1 4 rfl ?_
  refine da1 5 rfl ?_
  refine ai 6 10 rfl rfl (by kernel_rfl) (fun K hK=>?_) (fun K hK=>?_)
  ·try (rw [if_pos];case hc=>rfl)
   go_simp
   refine (HFN.out _ hHeld).mono ?_
   rintro e w1 he
   obtain ⟨rfl,hb⟩:=he.no
   have hH:Below w0.heap.size w0 w1:=hHeld.trans (hb.mono hHeld.size)
   have hz1:w0.heap.size ≤ w1.heap.size:=hH.size
   go_wp2_with fail
   refine hK.out _ _ hH fun hHeld=>?_
   clear hK K
   refine dW 7 rfl ?_
   refine dW 8 rfl ?_
   refine dW 9 rfl ?_
   have HB1:Hid (Below w0.heap.size w0 (w1.alloc (.cells #[.int .u8 0,.bool false] 54))):=J (hHeld.alloc hHeld.size _)
   have HZ1:=J (heap_alloc_new w1 (.cells #[.int .u8 0,.bool false] 54))
   have HY1:Hid (w0.heap.size ≤ w1.heap.size):=J hz1
   refine dA 10 rfl fun K hK=>?_
   go_simp
   refine hK.out _ _ HB1.out fun hHeld=>?_
   clear hK K
   refine dA 11 rfl fun K hK=>?_
   refine wp_store_row 54 (.tmp 5) (.tmp 15) rfl w1.heap.size #[.int .u8 0,.bool false] rfl rfl 54 #[.int .u8 0,.bool false] HZ1.out ao rfl (by simp [Value.oneCell']) ?_
   refine hK.out _ _ (ab HB1.out HY1.out _) fun hHeld=>?_
   clear hK K
   refine dW 12 rfl ?_
   refine dN ?_
   have HBF:Hid (Below w0.heap.size w0 ((w1.alloc (.cells #[.int .u8 0,.bool false] 54)).setRow w1.heap.size #[.int .u8 0,.bool false])):=J hHeld
   go_wp2_with fail
   go_ret
   exact aj.err HT.out (H0.out.on HBF.out).base
  ·try (rw [if_pos];case hc=>rfl)
   go_simp
   have hB0:Below w0.heap.size w0 (w0.drew.alloc (.cells #[.int .u8 0,.bool false] 54)):=hHeld.alloc hHeld.size _
   have hZ0:=heap_alloc_new w0.drew (.cells #[.int .u8 0,.bool false] 54)
   have hl0:w0.heap.size < (w0.drew.alloc (.cells #[.int .u8 0,.bool false] 54)).heap.size:=by simp
   refine hK.out _ _ hB0 fun hHeld=>?_
   clear hK K
   refine dA 6 rfl fun K hK=>?_
   go_simp
   refine (HFN.out _ hB0).mono ?_
   rintro e w1 he
   obtain ⟨rfl,hb⟩:=he.no
   have hH:Below w0.heap.size w0 w1:=hB0.trans (hb.mono hB0.size)
   have HB1:Hid (Below w0.heap.size w0 w1):=J hH
   have HZ1:Hid (w1.heap[w0.heap.size]? = some (.cells #[.int .u8 0,.bool false] 54 (0,0))):=J ((hb.block _ hl0).trans hZ0)
   have HY1:Hid (w0.heap.size ≤ w0.heap.size):=J (Nat.le_refl _)
   go_wp2_with fail
   refine hK.out _ _ hH fun hHeld=>?_
   clear hK K
   refine dW 7 rfl ?_
   refine dW 8 rfl ?_
   refine dW 9 rfl ?_
   refine dA 11 rfl fun K hK=>?_
   refine wp_store_row 54 (.tmp 5) (.tmp 15) rfl w0.heap.size #[.int .u8 0,.bool false] rfl rfl 54 #[.int .u8 0,.bool false] HZ1.out ao rfl (by simp [Value.oneCell']) ?_
   refine hK.out _ _ (ab HB1.out HY1.out _) fun hHeld=>?_
   clear hK K
   refine dW 12 rfl ?_
   refine dN ?_
   have HBF:Hid (Below w0.heap.size w0 (w1.setRow w0.heap.size #[.int .u8 0,.bool false])):=J hHeld
   go_wp2_with fail
   go_ret
   exact aj.err HT.out (H0.out.on HBF.out).base
 | some g =>
  rw [hx] at HFN
  have HT:Hid (Bo.gget C.env a s = Bo.turned s [] [g.t]):=J (by unfold Bo.gget Ctx.env;dsimp only;rw [hx];rfl)
  have HTU:=J (fun W v1 (hW:Wk C R P W G s o) (h1:aa W (Apt W G) [g.t] v1)=>aP hW hs hn [] [g.t] (.slice none 0 0) v1 (aa.nil _ _) h1 (by simp) (by simp))
  clear hx hs hn ha
  go_upto_region 1 with fail
  refine wp_region_held_drew (S:=fun W'=>Below w0.heap.size w0 W') (by kernel_rfl) (Below.drew (Below.refl _ _)) (fun hHeld=>?_)
  refine da1 0 rfl ?_
  refine da1 1 rfl ?_
  refine da1 2 rfl ?_
  refine da1 3 rfl ?_
  refine da1 4 rfl ?_
  refine da1 5 rfl ?_
  refine ai 6 10 rfl rfl (by kernel_rfl) (fun K hK=>?_) (fun K hK=>?_)
  ·try (rw [if_pos];case hc=>rfl)
   go_simp
   refine (HFN.out _ hHeld).mono ?_
   rintro e w1 he
   obtain ⟨rfl,hb⟩:=he.yes
   have hH:Below w0.heap.size w0 w1:=hHeld.trans (hb.mono hHeld.size)
   have hz1:w0.heap.size ≤ w1.heap.size:=hH.size
   go_wp2_with fail
   refine hK.out _ _ hH fun hHeld=>?_
   clear hK K
   refine dW 7 rfl ?_
   refine dW 8 rfl ?_
   refine dW 9 rfl ?_
   have HB1:Hid (Below w0.heap.size w0 (w1.alloc (.cells #[.int .u8 0,.bool false] 54))):=J (hHeld.alloc hHeld.size _)
   have HZ1:=J (heap_alloc_new w1 (.cells #[.int .u8 0,.bool false] 54))
   have HY1:Hid (w0.heap.size ≤ w1.heap.size):=J hz1
   refine dA 10 rfl fun K hK=>?_
   go_simp
   refine hK.out _ _ HB1.out fun hHeld=>?_
   clear hK K
   refine dA 11 rfl fun K hK=>?_
   refine wp_store_row 54 (.tmp 5) (.tmp 15) rfl w1.heap.size #[.int .u8 ↑g.t.toNat,.bool g.mu] rfl rfl 54 #[.int .u8 0,.bool false] HZ1.out ao rfl (by simp [Value.oneCell']) ?_
   refine hK.out _ _ (ab HB1.out HY1.out _) fun hHeld=>?_
   clear hK K
   refine dW 12 rfl ?_
   refine dN ?_
   have HBF:Hid (Below w0.heap.size w0 ((w1.alloc (.cells #[.int .u8 0,.bool false] 54)).setRow w1.heap.size #[.int .u8 ↑g.t.toNat,.bool g.mu])):=J hHeld
   obtain ⟨y0,y1⟩:=ae (setRow_heap _ _ #[.int .u8 0,.bool false] #[.int .u8 ↑g.t.toNat,.bool g.mu] _ _ HZ1.out)
   generalize (w1.alloc (.cells #[.int .u8 0,.bool false] 54)).setRow w1.heap.size #[.int .u8 ↑g.t.toNat,.bool g.mu] = wf at HBF y0 y1 ⊢
   obtain ⟨hl1,hl2,hl3⟩:=(H0.out.on HBF.out).lit g.t
   have HL1:=J hl1
   have HL2:=J hl2
   have HL3:=J hl3
   clear hl1 hl2 hl3
   go_wp2_with (go_at_call 134;refine (HTU.out _ _ HL1.out HL3.out).mono ?_;rintro e w9 he;obtain ⟨k,rfl,hk⟩:=he.num;have HK:=J hk;clear he hk)
   go_ret
   rw [HT.out]
   exact ((HK.out.ahead HL2.out).ahead (Nxt.of_below HBF.out)).ahead HN0.out
  ·try (rw [if_pos];case hc=>rfl)
   go_simp
   have hB0:Below w0.heap.size w0 (w0.drew.alloc (.cells #[.int .u8 0,.bool false] 54)):=hHeld.alloc hHeld.size _
   have hZ0:=heap_alloc_new w0.drew (.cells #[.int .u8 0,.bool false] 54)
   have hl0:w0.heap.size < (w0.drew.alloc (.cells #[.int .u8 0,.bool false] 54)).heap.size:=by simp
   refine hK.out _ _ hB0 fun hHeld=>?_
   clear hK K
   refine dA 6 rfl fun K hK=>?_
   go_simp
   refine (HFN.out _ hB0).mono ?_
   rintro e w1 he
   obtain ⟨rfl,hb⟩:=he.yes
   have hH:Below w0.heap.size w0 w1:=hB0.trans (hb.mono hB0.size)
   have HB1:Hid (Below w0.heap.size w0 w1):=J hH
   have HZ1:Hid (w1.heap[w0.heap.size]? = some (.cells #[.int .u8 0,.bool false] 54 (0,0))):=J ((hb.block _ hl0).trans hZ0)
   have HY1:Hid (w0.heap.size ≤ w0.heap.size):=J (Nat.le_refl _)
   go_wp2_with fail
   refine hK.out _ _ hH fun hHeld=>?_
   clear hK K
   refine dW 7 rfl ?_
   refine dW 8 rfl ?_
   refine dW 9 rfl ?_
   refine dA 11 rfl fun K hK=>?_
   refine wp_store_row 54 (.tmp 5) (.tmp 15) rfl w0.heap.size #[.int .u8 ↑g.t.toNat,.bool g.mu] rfl rfl 54 #[.int .u8 0,.bool false] HZ1.out ao rfl (by simp [Value.oneCell']) ?_
   refine hK.out _ _ (ab HB1.out HY1.out _) fun hHeld=>?_
   clear hK K
   refine dW 12 rfl ?_
   refine dN ?_
   have HBF:Hid (Below w0.heap.size w0 (w1.setRow w0.heap.size #[.int .u8 ↑g.t.toNat,.bool g.mu])):=J hHeld
   obtain ⟨y0,y1⟩:=ae (setRow_heap _ _ #[.int .u8 0,.bool false] #[.int .u8 ↑g.t.toNat,.bool g.mu] _ _ HZ1.out)
   generalize w1.setRow w0.heap.size #[.int .u8 ↑g.t.toNat,.bool g.mu] = wf at HBF y0 y1 ⊢
   obtain ⟨hl1,hl2,hl3⟩:=(H0.out.on HBF.out).lit g.t
   have HL1:=J hl1
   have HL2:=J hl2
   have HL3:=J hl3
   clear hl1 hl2 hl3
   go_wp2_with (go_at_call 134;refine (HTU.out _ _ HL1.out HL3.out).mono ?_;rintro e w9 he;obtain ⟨k,rfl,hk⟩:=he.num;have HK:=J hk;clear he hk)
   go_ret
   rw [HT.out]
   exact ((HK.out.ahead HL2.out).ahead (Nxt.of_below HBF.out)).ahead HN0.out
theorem bgset_any {C:Ctx} {R P n:Nat} {w:World} {G:Nat → Prop} {s:Ty.T} {o:List Bool} (hC:C.Good) (h:Wk C R P w G s o) (hs:s.sm n) (hn:n ≤ 400000000) (op a b:Nat) (c:Int) (A4:Option Addr) (l4 c4:Nat) (ha:a < 4294967296) :
  Calls Tryz.prog 113 #[.pointer (some ⟨R,0,none⟩),.agg #[.int .u8 ↑op,.int .u32 ↑a,.int .u32 ↑b,.int .i64 c,.slice A4 l4 c4]] w (aj C R P G o w (Bo.gset C.env a s)):=by
 have HX0:=J (heap_alloc_new w (.cells #[.int .u8 ↑op,.int .u32 ↑a,.int .u32 ↑b,.int .i64 c,.slice A4 l4 c4] 56))
 have HB0:Hid (Below w.heap.size w (w.alloc (.cells #[.int .u8 ↑op,.int .u32 ↑a,.int .u32 ↑b,.int .i64 c,.slice A4 l4 c4] 56))):=J bA
 have H0:=J (h.on HB0.out)
 have HN0:Hid (Nxt G w G (w.alloc (.cells #[.int .u8 ↑op,.int .u32 ↑a,.int .u32 ↑b,.int .i64 c,.slice A4 l4 c4] 56))):=J (Nxt.of_below HB0.out)
 have HGX:Hid (¬ G w.heap.size ∧ w.heap.size < (w.alloc (.cells #[.int .u8 ↑op,.int .u32 ↑a,.int .u32 ↑b,.int .i64 c,.slice A4 l4 c4] 56)).heap.size):=J ⟨fun hg=>Nat.lt_irrefl _ (h.out _ hg).2,by simp⟩
 have HFN:=J (fun W (hW:Wk C R P W G s o)=>cq (some ⟨C.sp,0,none⟩) C.m a W (.inl ⟨C.sp,rfl,hC.space.grow hW.base⟩) (Lots.some hC.few) ha)
 clear h hC
 go_enter Tryz.func113,Tryz.ntmps113
 go_upto_region 1 with fail
 generalize (w.alloc (.cells #[.int .u8 ↑op,.int .u32 ↑a,.int .u32 ↑b,.int .i64 c,.slice A4 l4 c4] 56)) = w0 at HX0 HB0 H0 HN0 HGX ⊢
 obtain ⟨X,hX⟩:∃ X,w.heap.size = X:=⟨_,rfl⟩
 rw [hX] at HX0 HGX
 simp only [hX]
 clear hX HB0
 obtain ⟨z0,z1,z2,z3,z4⟩:=cells5 HX0.out
 obtain ⟨q0,q1,q2,q3,q4,q5⟩:=H0.out.cells
 have HCC:=J (fun W (hb:Below w0.heap.size w0 W)=>And.intro (cells5 ((hb.block X HGX.out.2).trans HX0.out)) (H0.out.on hb).cells)
 clear z0 z1 z2 z3 z4 q0 q1 q2 q3 q4 q5
 have HFN:=J (fun W (hb:Below w0.heap.size w0 W)=>HFN.out W (H0.out.on hb))
 cases hx:(globs C.m)[a]? with
 | none =>
  rw [hx] at HFN
  have HT:Hid (Bo.gset C.env a s = .error 80):=J (by unfold Bo.gset Ctx.env;dsimp only;rw [hx];rfl)
  clear hx hs hn ha
  go_upto_region 1 with fail
  refine wp_region_held_drew (S:=fun W'=>Below w0.heap.size w0 W') (by kernel_rfl) (Below.drew (Below.refl _ _)) (fun hHeld=>?_)
  refine da1 0 rfl ?_
  refine da1 1 rfl ?_
  refine da1 2 rfl ?_
  refine da1 3 rfl ?_
  refine da1 4 rfl ?_
  refine da1 5 rfl ?_
  refine ai 6 10 rfl rfl (by kernel_rfl) (fun K hK=>?_) (fun K hK=>?_)
  ·try (rw [if_pos];case hc=>rfl)
   go_simp
   refine (HFN.out _ hHeld).mono ?_
   rintro e w1 he
   obtain ⟨rfl,hb⟩:=he.no
   have hH:Below w0.heap.size w0 w1:=hHeld.trans (hb.mono hHeld.size)
   have hz1:w0.heap.size ≤ w1.heap.size:=hH.size
   go_wp2_with fail
   refine hK.out _ _ hH fun hHeld=>?_
   clear hK K
   refine dW 7 rfl ?_
   refine dW 8 rfl ?_
   refine dW 9 rfl ?_
   have HB1:Hid (Below w0.heap.size w0 (w1.alloc (.cells #[.int .u8 0,.bool false] 54))):=J (hHeld.alloc hHeld.size _)
   have HZ1:=J (heap_alloc_new w1 (.cells #[.int .u8 0,.bool false] 54))
   have HY1:Hid (w0.heap.size ≤ w1.heap.size):=J hz1
   refine dA 10 rfl fun K hK=>?_
   go_simp
   refine hK.out _ _ HB1.out fun hHeld=>?_
   clear hK K
   refine dA 11 rfl fun K hK=>?_
   refine wp_store_row 54 (.tmp 5) (.tmp 15) rfl w1.heap.size #[.int .u8 0,.bool false] rfl rfl 54 #[.int .u8 0,.bool false] HZ1.out ao rfl (by simp [Value.oneCell']) ?_
   refine hK.out _ _ (ab HB1.out HY1.out _) fun hHeld=>?_
   clear hK K
   refine dW 12 rfl ?_
   refine dN ?_
   have HBF:Hid (Below w0.heap.size w0 ((w1.alloc (.cells #[.int .u8 0,.bool false] 54)).setRow w1.heap.size #[.int .u8 0,.bool false])):=J hHeld
   go_wp2_with fail
   go_ret
   exact aj.err HT.out (H0.out.on HBF.out).base
  ·try (rw [if_pos];case hc=>rfl)
   go_simp
   have hB0:Below w0.heap.size w0 (w0.drew.alloc (.cells #[.int .u8 0,.bool false] 54)):=hHeld.alloc hHeld.size _
   have hZ0:=heap_alloc_new w0.drew (.cells #[.int .u8 0,.bool false] 54)
   have hl0:w0.heap.size < (w0.drew.alloc (.cells #[.int .u8 0,.bool false] 54)).heap.size:=by simp
   refine hK.out _ _ hB0 fun hHeld=>?_
   clear hK K
   refine dA 6 rfl fun K hK=>?_
   go_simp
   refine (HFN.out _ hB0).mono ?_
   rintro e w1 he
   obtain ⟨rfl,hb⟩:=he.no
   have hH:Below w0.heap.size w0 w1:=hB0.trans (hb.mono hB0.size)
   have HB1:Hid (Below w0.heap.size w0 w1):=J hH
   have HZ1:Hid (w1.heap[w0.heap.size]? = some (.cells #[.int .u8 0,.bool false] 54 (0,0))):=J ((hb.block _ hl0).trans hZ0)
   have HY1:Hid (w0.heap.size ≤ w0.heap.size):=J (Nat.le_refl _)
   go_wp2_with fail
   refine hK.out _ _ hH fun hHeld=>?_
   clear hK K
   refine dW 7 rfl ?_
   refine dW 8 rfl ?_
   refine dW 9 rfl ?_
   refine dA 11 rfl fun K hK=>?_
   refine wp_store_row 54 (.tmp 5) (.tmp 15) rfl w0.heap.size #[.int .u8 0,.bool false] rfl rfl 54 #[.int .u8 0,.bool false] HZ1.out ao rfl (by simp [Value.oneCell']) ?_
   refine hK.out _ _ (ab HB1.out HY1.out _) fun hHeld=>?_
   clear hK K
   refine dW 12 rfl ?_
   refine dN ?_
   have HBF:Hid (Below w0.heap.size w0 (w1.setRow w0.heap.size #[.int .u8 0,.bool false])):=J hHeld
   go_wp2_with fail
   go_ret
   exact aj.err HT.out (H0.out.on HBF.out).base
 | some g =>
  rw [hx] at HFN
  obtain ⟨gt,gm⟩:=g
  cases gm with
  | false =>
   have HT:Hid (Bo.gset C.env a s = .error 100):=J (by unfold Bo.gset Ctx.env;dsimp only;rw [hx];rfl)
   clear hx hs hn ha
   go_upto_region 1 with fail
   refine wp_region_held_drew (S:=fun W'=>Below w0.heap.size w0 W') (by kernel_rfl) (Below.drew (Below.refl _ _)) (fun hHeld=>?_)
   refine da1 0 rfl ?_
   refine da1 1 rfl ?_
   refine da1 2 rfl ?_
   refine da1 3 rfl ?_
   refine da1 4 rfl ?_
   refine da1 5 rfl ?_
   refine ai 6 10 rfl rfl (by kernel_rfl) (fun K hK=>?_) (fun K hK=>?_)
   ·try (rw [if_pos];case hc=>rfl)
    go_simp
    refine (HFN.out _ hHeld).mono ?_
    rintro e w1 he
    obtain ⟨rfl,hb⟩:=he.yes
    have hH:Below w0.heap.size w0 w1:=hHeld.trans (hb.mono hHeld.size)
    have hz1:w0.heap.size ≤ w1.heap.size:=hH.size
    go_wp2_with fail
    refine hK.out _ _ hH fun hHeld=>?_
    clear hK K
    refine dW 7 rfl ?_
    refine dW 8 rfl ?_
    refine dW 9 rfl ?_
    have HB1:Hid (Below w0.heap.size w0 (w1.alloc (.cells #[.int .u8 0,.bool false] 54))):=J (hHeld.alloc hHeld.size _)
    have HZ1:=J (heap_alloc_new w1 (.cells #[.int .u8 0,.bool false] 54))
    have HY1:Hid (w0.heap.size ≤ w1.heap.size):=J hz1
    refine dA 10 rfl fun K hK=>?_
    go_simp
    refine hK.out _ _ HB1.out fun hHeld=>?_
    clear hK K
    refine dA 11 rfl fun K hK=>?_
    refine wp_store_row 54 (.tmp 5) (.tmp 15) rfl w1.heap.size #[.int .u8 ↑gt.toNat,.bool false] rfl rfl 54 #[.int .u8 0,.bool false] HZ1.out ao rfl (by simp [Value.oneCell']) ?_
    refine hK.out _ _ (ab HB1.out HY1.out _) fun hHeld=>?_
    clear hK K
    refine dW 12 rfl ?_
    refine dN ?_
    have HBF:Hid (Below w0.heap.size w0 ((w1.alloc (.cells #[.int .u8 0,.bool false] 54)).setRow w1.heap.size #[.int .u8 ↑gt.toNat,.bool false])):=J hHeld
    obtain ⟨y0,y1⟩:=ae (setRow_heap _ _ #[.int .u8 0,.bool false] #[.int .u8 ↑gt.toNat,.bool false] _ _ HZ1.out)
    generalize (w1.alloc (.cells #[.int .u8 0,.bool false] 54)).setRow w1.heap.size #[.int .u8 ↑gt.toNat,.bool false] = wf at HBF y0 y1 ⊢
    obtain ⟨hl1,hl2,hl3⟩:=(H0.out.on HBF.out).lit gt
    have HL1:=J hl1
    have HL2:=J hl2
    have HL3:=J hl3
    clear hl1 hl2 hl3
    go_wp2_with fail
    go_ret
    exact aj.err HT.out (H0.out.on HBF.out).base
   ·try (rw [if_pos];case hc=>rfl)
    go_simp
    have hB0:Below w0.heap.size w0 (w0.drew.alloc (.cells #[.int .u8 0,.bool false] 54)):=hHeld.alloc hHeld.size _
    have hZ0:=heap_alloc_new w0.drew (.cells #[.int .u8 0,.bool false] 54)
    have hl0:w0.heap.size < (w0.drew.alloc (.cells #[.int .u8 0,.bool false] 54)).heap.size:=by simp
    refine hK.out _ _ hB0 fun hHeld=>?_
    clear hK K
    refine dA 6 rfl fun K hK=>?_
    go_simp
    refine (HFN.out _ hB0).mono ?_
    rintro e w1 he
    obtain ⟨rfl,hb⟩:=he.yes
    have hH:Below w0.heap.size w0 w1:=hB0.trans (hb.mono hB0.size)
    have HB1:Hid (Below w0.heap.size w0 w1):=J hH
    have HZ1:Hid (w1.heap[w0.heap.size]? = some (.cells #[.int .u8 0,.bool false] 54 (0,0))):=J ((hb.block _ hl0).trans hZ0)
    have HY1:Hid (w0.heap.size ≤ w0.heap.size):=J (Nat.le_refl _)
    go_wp2_with fail
    refine hK.out _ _ hH fun hHeld=>?_
    clear hK K
    refine dW 7 rfl ?_
    refine dW 8 rfl ?_
    refine dW 9 rfl ?_
    refine dA 11 rfl fun K hK=>?_
    refine wp_store_row 54 (.tmp 5) (.tmp 15) rfl w0.heap.size #[.int .u8 ↑gt.toNat,.bool false] rfl rfl 54 #[.int .u8 0,.bool false] HZ1.out ao rfl (by simp [Value.oneCell']) ?_
    refine hK.out _ _ (ab HB1.out HY1.out _) fun hHeld=>?_
    clear hK K
    refine dW 12 rfl ?_
    refine dN ?_
    have HBF:Hid (Below w0.heap.size w0 (w1.setRow w0.heap.size #[.int .u8 ↑gt.toNat,.bool false])):=J hHeld
    obtain ⟨y0,y1⟩:=ae (setRow_heap _ _ #[.int .u8 0,.bool false] #[.int .u8 ↑gt.toNat,.bool false] _ _ HZ1.out)
    generalize w1.setRow w0.heap.size #[.int .u8 ↑gt.toNat,.bool false] = wf at HBF y0 y1 ⊢
    obtain ⟨hl1,hl2,hl3⟩:=(H0.out.on HBF.out).lit gt
    have HL1:=J hl1
    have HL2:=J hl2
    have HL3:=J hl3
    clear hl1 hl2 hl3
    go_wp2_with fail
    go_ret
    exact aj.err HT.out (H0.out.on HBF.out).base
  | true =>
   have HT:Hid (Bo.gset C.env a s = Bo.turned s [gt] []):=J (by unfold Bo.gset Ctx.env;dsimp only;rw [hx];rfl)
   have HTU:=J (fun W v1 (hW:Wk C R P W G s o) (h1:aa W (Apt W G) [gt] v1)=>aP hW hs hn [gt] [] v1 (.slice none 0 0) h1 (aa.nil _ _) (by simp) (by simp))
   clear hx hs hn ha
   go_upto_region 1 with fail
   refine wp_region_held_drew (S:=fun W'=>Below w0.heap.size w0 W') (by kernel_rfl) (Below.drew (Below.refl _ _)) (fun hHeld=>?_)
   refine da1 0 rfl ?_
   refine da1 1 rfl ?_
   refine da1 2 rfl ?_
   refine da1 3 rfl ?_
   refine da1 4 rfl ?_
   refine da1 5 rfl ?_
   refine ai 6 10 rfl rfl (by kernel_rfl) (fun K hK=>?_) (fun K hK=>?_)
   ·try (rw [if_pos];case hc=>rfl)
    go_simp
    refine (HFN.out _ hHeld).mono ?_
    rintro e w1 he
    obtain ⟨rfl,hb⟩:=he.yes
    have hH:Below w0.heap.size w0 w1:=hHeld.trans (hb.mono hHeld.size)
    have hz1:w0.heap.size ≤ w1.heap.size:=hH.size
    go_wp2_with fail
    refine hK.out _ _ hH fun hHeld=>?_
    clear hK K
    refine dW 7 rfl ?_
    refine dW 8 rfl ?_
    refine dW 9 rfl ?_
    have HB1:Hid (Below w0.heap.size w0 (w1.alloc (.cells #[.int .u8 0,.bool false] 54))):=J (hHeld.alloc hHeld.size _)
    have HZ1:=J (heap_alloc_new w1 (.cells #[.int .u8 0,.bool false] 54))
    have HY1:Hid (w0.heap.size ≤ w1.heap.size):=J hz1
    refine dA 10 rfl fun K hK=>?_
    go_simp
    refine hK.out _ _ HB1.out fun hHeld=>?_
    clear hK K
    refine dA 11 rfl fun K hK=>?_
    refine wp_store_row 54 (.tmp 5) (.tmp 15) rfl w1.heap.size #[.int .u8 ↑gt.toNat,.bool true] rfl rfl 54 #[.int .u8 0,.bool false] HZ1.out ao rfl (by simp [Value.oneCell']) ?_
    refine hK.out _ _ (ab HB1.out HY1.out _) fun hHeld=>?_
    clear hK K
    refine dW 12 rfl ?_
    refine dN ?_
    have HBF:Hid (Below w0.heap.size w0 ((w1.alloc (.cells #[.int .u8 0,.bool false] 54)).setRow w1.heap.size #[.int .u8 ↑gt.toNat,.bool true])):=J hHeld
    obtain ⟨y0,y1⟩:=ae (setRow_heap _ _ #[.int .u8 0,.bool false] #[.int .u8 ↑gt.toNat,.bool true] _ _ HZ1.out)
    generalize (w1.alloc (.cells #[.int .u8 0,.bool false] 54)).setRow w1.heap.size #[.int .u8 ↑gt.toNat,.bool true] = wf at HBF y0 y1 ⊢
    obtain ⟨hl1,hl2,hl3⟩:=(H0.out.on HBF.out).lit gt
    have HL1:=J hl1
    have HL2:=J hl2
    have HL3:=J hl3
    clear hl1 hl2 hl3
    go_wp2_with (go_at_call 134;refine (HTU.out _ _ HL1.out HL3.out).mono ?_;rintro e w9 he;obtain ⟨k,rfl,hk⟩:=he.num;have HK:=J hk;clear he hk)
    go_ret
    rw [HT.out]
    exact ((HK.out.ahead HL2.out).ahead (Nxt.of_below HBF.out)).ahead HN0.out
   ·try (rw [if_pos];case hc=>rfl)
    go_simp
    have hB0:Below w0.heap.size w0 (w0.drew.alloc (.cells #[.int .u8 0,.bool false] 54)):=hHeld.alloc hHeld.size _
    have hZ0:=heap_alloc_new w0.drew (.cells #[.int .u8 0,.bool false] 54)
    have hl0:w0.heap.size < (w0.drew.alloc (.cells #[.int .u8 0,.bool false] 54)).heap.size:=by simp
    refine hK.out _ _ hB0 fun hHeld=>?_
    clear hK K
    refine dA 6 rfl fun K hK=>?_
    go_simp
    refine (HFN.out _ hB0).mono ?_
    rintro e w1 he
    obtain ⟨rfl,hb⟩:=he.yes
    have hH:Below w0.heap.size w0 w1:=hB0.trans (hb.mono hB0.size)
    have HB1:Hid (Below w0.heap.size w0 w1):=J hH
    have HZ1:Hid (w1.heap[w0.heap.size]? = some (.cells #[.int .u8 0,.bool false] 54 (0,0))):=J ((hb.block _ hl0).trans hZ0)
    have HY1:Hid (w0.heap.size ≤ w0.heap.size):=J (Nat.le_refl _)
    go_wp2_with fail
    refine hK.out _ _ hH fun hHeld=>?_
    clear hK K
    refine dW 7 rfl ?_
    refine dW 8 rfl ?_
    refine dW 9 rfl ?_
    refine dA 11 rfl fun K hK=>?_
    refine wp_store_row 54 (.tmp 5) (.tmp 15) rfl w0.heap.size #[.int .u8 ↑gt.toNat,.bool true] rfl rfl 54 #[.int .u8 0,.bool false] HZ1.out ao rfl (by simp [Value.oneCell']) ?_
    refine hK.out _ _ (ab HB1.out HY1.out _) fun hHeld=>?_
    clear hK K
    refine dW 12 rfl ?_
    refine dN ?_
    have HBF:Hid (Below w0.heap.size w0 (w1.setRow w0.heap.size #[.int .u8 ↑gt.toNat,.bool true])):=J hHeld
    obtain ⟨y0,y1⟩:=ae (setRow_heap _ _ #[.int .u8 0,.bool false] #[.int .u8 ↑gt.toNat,.bool true] _ _ HZ1.out)
    generalize w1.setRow w0.heap.size #[.int .u8 ↑gt.toNat,.bool true] = wf at HBF y0 y1 ⊢
    obtain ⟨hl1,hl2,hl3⟩:=(H0.out.on HBF.out).lit gt
    have HL1:=J hl1
    have HL2:=J hl2
    have HL3:=J hl3
    clear hl1 hl2 hl3
    go_wp2_with (go_at_call 134;refine (HTU.out _ _ HL1.out HL3.out).mono ?_;rintro e w9 he;obtain ⟨k,rfl,hk⟩:=he.num;have HK:=J hk;clear he hk)
    go_ret
    rw [HT.out]
    exact ((HK.out.ahead HL2.out).ahead (Nxt.of_below HBF.out)).ahead HN0.out
end Go.Proofs.YtmpelmihdpomjaaGreat
namespace Bo
theorem runs_step {l:List Bin.Lc} {j i:Nat} {x:Bin.Lc} (h:l[j]? = some x):runs (l.drop j) i = if i < x.n then some x.t else runs (l.drop (j + 1)) (i - x.n):=by
 obtain ⟨hj,e⟩:=List.getElem?_eq_some_iff.1 h
 rw [List.drop_eq_getElem_cons hj,e,runs]
theorem runs_end {l:List Bin.Lc} {j i:Nat} (h:l.length ≤ j):runs (l.drop j) i = none:=by
 rw [List.drop_eq_nil_of_le h,runs]
theorem locB_take {l:List Bin.Lc} {j:Nat} {x:Bin.Lc} (h:l[j]? = some x):locB (l.take (j + 1)) = (locB (l.take j) && (x.n == 0 || (x.t == 127 || x.t == 126))):=by
 unfold locB
 rw [List.take_add_one,h,List.all_append]
 simp
theorem locB_no {l:List Bin.Lc} {j:Nat} {x:Bin.Lc} (h:l[j]? = some x) (hx:(x.n == 0 || (x.t == 127 || x.t == 126)) = false):locB l = false:=by
 unfold locB
 rw [List.all_eq_false]
 exact ⟨x,List.mem_of_getElem? h,by simp [hx]⟩
end Bo
namespace Go.Proofs.YtmpelmihdpomjaaGreat
open Go.RowKit Ins Bin Sp
theorem lc_at {w:World} {S:Nat → Prop} {A:Option Addr} {xs:List Lc} {k:Nat} {x:Lc} (h:HasL w S A xs) (hx:xs[k]? = some x):∃ g o,A = some ⟨g,o,none⟩ ∧ g < w.heap.size ∧ x.n < 4294967296 ∧ w.cell? ⟨g,o + k * 2,none⟩ = some (.int .u32 ↑x.n) ∧ w.cell? ⟨g,o + k * 2 + 1,none⟩ = some (.int .u8 ↑x.t.toNat):=by
 obtain ⟨g,o,cs,h1,_,h3,⟨rfl,hn⟩,h6⟩:=h k x hx
 exact ⟨g,o,h1,h3,hn,h6 0 _ rfl,h6 1 _ rfl⟩
theorem by_at {w:World} {S:Nat → Prop} {A:Option Addr} {xs:List UInt8} {k:Nat} {x:UInt8} (h:HasL w S A xs) (hx:xs[k]? = some x):∃ g o,A = some ⟨g,o,none⟩ ∧ g < w.heap.size ∧ w.cell? ⟨g,o + k,none⟩ = some (.int .u8 ↑x.toNat):=by
 obtain ⟨g,o,cs,h1,_,h3,hcs,h6⟩:=h k x hx
 have h':cs = [.int .u8 ↑x.toNat]:=hcs
 subst h'
 refine ⟨g,o,h1,h3,?_⟩
 have:=h6 0 _ rfl
 have e:Lay.size UInt8 = 1:=rfl
 rw [e,Nat.mul_one] at this
 exact this
theorem two_new (w:World) (x0 x1 y0 y1:Value) (t u:TypeId):((w.alloc (.cells #[x0,x1] t)).alloc (.cells #[y0,y1] u)).heap[w.heap.size]? = some (.cells #[x0,x1] t (0,0)) ∧ ((w.alloc (.cells #[x0,x1] t)).alloc (.cells #[y0,y1] u)).heap[w.heap.size + 1]? = some (.cells #[y0,y1] u (0,0)) ∧ Below w.heap.size w ((w.alloc (.cells #[x0,x1] t)).alloc (.cells #[y0,y1] u)):=by
 refine ⟨(Below.heap_alloc _ _ _ (by simp)).trans (heap_alloc_new w _),?_,bA.alloc (by simp) _⟩
 have h:=heap_alloc_new (w.alloc (.cells #[x0,x1] t)) (.cells #[y0,y1] u)
 have e:(w.alloc (.cells #[x0,x1] t)).heap.size = w.heap.size + 1:=by simp
 rw [e] at h
 exact h
theorem blocal_any (ps:List UInt8) (ls:List Lc) (v1 v2 v3 v4:Value) (i:Nat) (hi:i < 4294967296) (w:World) (hp:aa w (· < w.heap.size) ps v1) (hl:aa w (· < w.heap.size) ls v3) (h1:ps.length ≤ 1050000) (h2:ls.length ≤ 1050000) :
  Calls Tryz.prog 136 #[.agg #[v1,v2],.agg #[v3,v4],.int .u32 ↑i] w fun e w'=>e = .returned (.tuple #[.int .u8 (((Bo.local' ps ls i).getD 0).toNat:Int),.bool (Bo.local' ps ls i).isSome]) ∧ Below w.heap.size w w':=by
 obtain ⟨A1,c1,rfl,_,_,_,hP⟩:=hp
 obtain ⟨A3,c3,rfl,_,_,_,hL⟩:=hl
 obtain ⟨n1,hn1⟩:∃ n,ps.length = n:=⟨_,rfl⟩
 obtain ⟨n3,hn3⟩:∃ n,ls.length = n:=⟨_,rfl⟩
 rw [hn1] at h1 ⊢
 rw [hn3] at h2 ⊢
 have HN1:=J hn1
 have HN3:=J hn3
 have HP:=J hP
 have HL:=J hL
 obtain ⟨t0,t1,t2⟩:=two_new w (.slice A1 n1 c1) v2 (.slice A3 n3 c3) v4 29 64
 have HX0:=J t0
 have HX1:=J t1
 have HB0:=J t2
 clear t0 t1 t2 hP hL
 by_cases hip:i < n1
 ·obtain ⟨x,hx⟩:∃ x,ps[i]? = some x:=⟨_,List.getElem?_eq_getElem (by omega)⟩
  have HA:Hid (Bo.local' ps ls i = some x):=J (by unfold Bo.local';rw [if_pos (by omega),hx])
  obtain ⟨g,oo,rfl,hg,hc⟩:=by_at HP.out hx
  have hii:(i:Int) < (n1:Int):=by omega
  clear hx hn1 hn3 HP HL
  go_enter Tryz.func136,Tryz.ntmps136
  go_upto_region 1 with fail
  generalize (w.alloc (.cells #[.slice (some ⟨g,oo,none⟩) n1 c1,v2] 29)).alloc (.cells #[.slice A3 n3 c3,v4] 64) = w0 at HX0 HX1 HB0 ⊢
  have hc0:=(HB0.out.cell (p:=⟨g,oo + i,none⟩) hg).trans hc
  obtain ⟨y0,y1⟩:=ae HX0.out
  clear hc
  go_wp2_with fail
  go_ret2
  rw [HA.out]
  exact ⟨rfl,HB0.out⟩
 ·have hii:decide ((i:Int) < (n1:Int)) = false:=decide_eq_false (by omega)
  have hii2:decide (i < n1) = false:=decide_eq_false hip
  have hge:(n1:Int) ≤ (i:Int):=by omega
  have HA:Hid (Bo.local' ps ls i = Bo.runs (ls.drop 0) (i - n1)):=J (by unfold Bo.local';rw [if_neg (by omega),hn1,List.drop_zero])
  clear hn1 hn3 HP
  go_enter Tryz.func136,Tryz.ntmps136
  go_upto_region 1 with fail
  generalize (w.alloc (.cells #[.slice A1 n1 c1,v2] 29)).alloc (.cells #[.slice A3 n3 c3,v4] 64) = w0 at HX0 HX1 HB0 ⊢
  obtain ⟨y0,y1⟩:=ae HX0.out
  obtain ⟨y2,y3⟩:=ae HX1.out
  go_wp2_with fail
  go_loopw [8,33] (fun lv iv wr=>∃ j left:Nat,j ≤ n3 ∧ iv = .int .i64 ↑j ∧ lv = .int .u64 ↑left ∧ left < 4294967296 ∧ Hid (Bo.local' ps ls i = Bo.runs (ls.drop j) left) ∧ Hid (Below w.heap.size w wr)) (fun _ iv _=>n3 - (intOf iv).toNat)
  case atStart=>exact ⟨0,i - n1,by omega,rfl,by congr 1;omega,by omega,HA,HB0⟩
  case round =>
   obtain ⟨j,left,hj,rfl,rfl,hleft,HQ,HBW⟩:=hrel
   by_cases hjn:j < n3
   ·obtain ⟨x,hx⟩:∃ x,ls[j]? = some x:=⟨_,List.getElem?_eq_getElem (by have:=HN3.out;omega)⟩
    obtain ⟨g,oo,rfl,hg,hxn,hc0,hc1⟩:=lc_at HL.out hx
    have hji:(j:Int) < (n3:Int):=by omega
    have k0:=(HBW.out.cell (p:=⟨g,oo + j * 2,none⟩) hg).trans hc0
    have k1:=(HBW.out.cell (p:=⟨g,oo + j * 2 + 1,none⟩) hg).trans hc1
    have HST:=J (Bo.runs_step (i:=left) hx)
    clear hx hc0 hc1
    obtain ⟨xn,xt⟩:=x
    dsimp only at hxn k0 k1 HST
    by_cases hlx:left < xn
    ·have hlxi:(left:Int) < (xn:Int):=by omega
     have HRES:Hid (Bo.local' ps ls i = some xt):=J (by rw [HQ.out,HST.out,if_pos hlx])
     go_wp2_with fail
     go_ret2
     rw [HRES.out]
     exact ⟨rfl,HBW.out.alloc HBW.out.size _⟩
    ·have hlxi:decide ((left:Int) < (xn:Int)) = false:=decide_eq_false (by omega)
     have hlx2:decide (left < xn) = false:=decide_eq_false hlx
     have hge2:(xn:Int) ≤ (left:Int):=by omega
     have HRES:Hid (Bo.local' ps ls i = Bo.runs (ls.drop (j + 1)) (left - xn)):=J (by rw [HQ.out,HST.out,if_neg hlx])
     clear hlx
     go_wp2_with fail
     go_roundw
     case rel=>exact ⟨j + 1,left - xn,by omega,by go_num,by congr 1;omega,by omega,HRES,J (HBW.out.alloc HBW.out.size _)⟩
     case measure=>simp [intOf];omega
   ·have hji:decide ((j:Int) < (n3:Int)) = false:=decide_eq_false (by omega)
    have hjn2:decide (j < n3) = false:=decide_eq_false hjn
    have HRES:Hid (Bo.local' ps ls i = none):=J (by rw [HQ.out,Bo.runs_end (by have:=HN3.out;omega)])
    go_wp2_with fail
    go_ret2
    rw [HRES.out]
    exact ⟨rfl,HBW.out⟩
theorem bwhole_any (ls:List Lc) (v3:Value) (w:World) (hl:aa w (· < w.heap.size) ls v3) (h2:ls.length ≤ 1050000) :
  Calls Tryz.prog 88 #[v3] w fun e w'=>e = .returned (.bool (Bo.locB ls)) ∧ Below w.heap.size w w':=by
 obtain ⟨A3,c3,rfl,_,_,_,hL⟩:=hl
 obtain ⟨n3,hn3⟩:∃ n,ls.length = n:=⟨_,rfl⟩
 rw [hn3] at h2 ⊢
 have HN3:=J hn3
 have HL:=J hL
 clear hL hn3
 go_enter Tryz.func88,Tryz.ntmps88
 go_wp2_with fail
 go_loopw [7] (fun iv wr=>∃ j:Nat,j ≤ n3 ∧ iv = .int .i64 ↑j ∧ Hid (Bo.locB (ls.take j) = true) ∧ Hid (Below w.heap.size w wr)) (fun iv _=>n3 - (intOf iv).toNat)
 case atStart=>exact ⟨0,by omega,rfl,J rfl,J (Below.refl _ _)⟩
 case round =>
  obtain ⟨j,hj,rfl,HQ,HBW⟩:=hrel
  by_cases hjn:j < n3
  ·obtain ⟨x,hx⟩:∃ x,ls[j]? = some x:=⟨_,List.getElem?_eq_getElem (by have:=HN3.out;omega)⟩
   obtain ⟨g,oo,rfl,hg,hxn,hc0,hc1⟩:=lc_at HL.out hx
   have hji:(j:Int) < (n3:Int):=by omega
   have k0:=(HBW.out.cell (p:=⟨g,oo + j * 2,none⟩) hg).trans hc0
   have k1:=(HBW.out.cell (p:=⟨g,oo + j * 2 + 1,none⟩) hg).trans hc1
   have HST:=J (Bo.locB_take hx)
   have HNO:=J (Bo.locB_no hx)
   clear hx hc0 hc1
   obtain ⟨xn,xt⟩:=x
   dsimp only at hxn k0 k1 HST HNO
   cases hb:(xn == 0 || (xt == 127 || xt == 126)) with
   | true =>
    have HTR:Hid (Bo.locB (ls.take (j + 1)) = true):=J (by rw [HST.out,HQ.out,hb];rfl)
    clear HNO HST
    by_cases h0:xn = 0
    ·subst h0
     clear hb
     go_wp2_with fail
     go_roundw
     case rel=>exact ⟨j + 1,by omega,by go_num,HTR,J (HBW.out.alloc HBW.out.size _)⟩
     case measure=>simp [intOf];omega
    ·have hpos:(0:Int) < (xn:Int):=by omega
     have hxt:xt = 127 ∨ xt = 126:=by
      rw [Bool.or_eq_true,beq_iff_eq] at hb
      rcases hb with hb | hb
      ·exact absurd hb h0
      ·rw [Bool.or_eq_true,beq_iff_eq,beq_iff_eq] at hb
       exact hb
     clear hb h0
     rcases hxt with rfl | rfl
     ·go_wp2_with fail
      go_roundw
      case rel=>exact ⟨j + 1,by omega,by go_num,HTR,J (HBW.out.alloc HBW.out.size _)⟩
      case measure=>simp [intOf];omega
     ·go_wp2_with fail
      go_roundw
      case rel=>exact ⟨j + 1,by omega,by go_num,HTR,J (HBW.out.alloc HBW.out.size _)⟩
      case measure=>simp [intOf];omega
   | false =>
    have HFL:=J (HNO.out hb)
    rw [Bool.or_eq_false_iff,Bool.or_eq_false_iff,beq_eq_false_iff_ne,beq_eq_false_iff_ne,beq_eq_false_iff_ne] at hb
    obtain ⟨h0,h1,h2'⟩:=hb
    have hpos:(0:Int) < (xn:Int):=by omega
    obtain ⟨t,ht⟩:∃ t,xt.toNat = t:=⟨_,rfl⟩
    have ht1:((t:Int) == 127) = false:=by
     rw [beq_eq_false_iff_ne];intro e
     exact h1 (UInt8.toNat_inj.1 (by have h9:t = 127:=(by omega);rw [ht,h9];rfl))
    have ht2:((t:Int) == 126) = false:=by
     rw [beq_eq_false_iff_ne];intro e
     exact h2' (UInt8.toNat_inj.1 (by have h9:t = 126:=(by omega);rw [ht,h9];rfl))
    rw [ht] at k1
    have ht3:((t:Int) != 127) = true:=by rw [bne,ht1];rfl
    have ht4:((t:Int) != 126) = true:=by rw [bne,ht2];rfl
    have ht5:¬ ((t:Int) = 127):=by intro e;rw [e] at ht1;exact absurd ht1 (by decide)
    have ht6:¬ ((t:Int) = 126):=by intro e;rw [e] at ht2;exact absurd ht2 (by decide)
    have hp0:0 < xn:=by omega
    clear HNO HST h0 h1 h2' ht
    go_wp2_with fail
    go_ret
    rw [HFL.out]
    exact ⟨rfl,HBW.out.alloc HBW.out.size _⟩
  ·have hji:decide ((j:Int) < (n3:Int)) = false:=decide_eq_false (by omega)
   have hjn2:decide (j < n3) = false:=decide_eq_false hjn
   have HTR:Hid (Bo.locB ls = true):=J (by
    have h:=HQ.out
    rw [List.take_of_length_le (by have:=HN3.out;omega)] at h
    exact h)
   go_wp2_with fail
   go_ret
   rw [HTR.out]
   exact ⟨rfl,HBW.out⟩
structure VIn (w:World) (P sp mp:Nat) (m:M) (v1 v2 v3 v4 v5 v6 v7 v8 v9 v10 hv:Value):Prop where
 cells:w.heap[P]? = some (.cells #[v1,v2,v3,v4,v5,v6,v7,.bool m.hasStart,.int .u32 ↑m.start,v8,v9,v10,.pointer (some ⟨sp,0,none⟩),.map (some mp),hv] 91 (0,0))
 rep:RepM w (· < w.heap.size) m v1 v2 v3 v4 v5 v6 v7 v8 v9 v10
 space:aC w sp m
 fit:FitV m
theorem VIn.grow {w w':World} {P sp mp:Nat} {m:M} {v1 v2 v3 v4 v5 v6 v7 v8 v9 v10 hv:Value} (h:VIn w P sp mp m v1 v2 v3 v4 v5 v6 v7 v8 v9 v10 hv) (hb:Below w.heap.size w w'):VIn w' P sp mp m v1 v2 v3 v4 v5 v6 v7 v8 v9 v10 hv :=
 ⟨(hb.block P (gL h.cells)).trans h.cells,h.rep.grow hb,h.space.grow hb,h.fit⟩
theorem VIn.recv {w:World} {P sp mp:Nat} {m:M} {v1 v2 v3 v4 v5 v6 v7 v8 v9 v10 hv:Value} (h:VIn w P sp mp m v1 v2 v3 v4 v5 v6 v7 v8 v9 v10 hv):Recv w (some ⟨sp,0,none⟩) m:=.inl ⟨sp,rfl,h.space⟩
theorem cell15 {w:World} {P:Nat} {cs:Array Value} {t:TypeId} (h:w.heap[P]? = some (.cells cs t (0,0))) (k:Nat) (u:Value) (hk:cs[k]? = some u):w.cell? ⟨P,k,none⟩ = some u:=by
 rw [cell_of_row w P k _ _ (0,0) h];exact hk
theorem al (b:Bool) (n:Nat) (z:Int) (w:World) (hz:z = (n:Int)) :
  Calls Tryz.prog 56 #[.bool b,.int .i64 z] w fun e w'=>e = .returned (.int .i64 ((Va.okE b n:Nat):Int)) ∧ w = w':=by
 subst hz
 cases b
 ·go_enter Tryz.func56,Tryz.ntmps56
  go_wp2
  go_ret
  exact ⟨rfl,rfl⟩
 ·go_enter Tryz.func56,Tryz.ntmps56
  go_wp2
  go_ret
  exact ⟨rfl,rfl⟩
theorem wholeB_take {l:List UInt8} {j:Nat} {x:UInt8} (h:l[j]? = some x):Va.wholeB (l.take (j + 1)) = (Va.wholeB (l.take j) && (x == 127 || x == 126)):=by
 unfold Va.wholeB
 rw [List.take_add_one,h,List.all_append]
 simp
theorem wholeB_no {l:List UInt8} {j:Nat} {x:UInt8} (h:l[j]? = some x) (hx:(x == 127 || x == 126) = false):Va.wholeB l = false:=by
 unfold Va.wholeB
 rw [List.all_eq_false]
 exact ⟨x,List.mem_of_getElem? h,by simp [hx]⟩
theorem not127 {x:UInt8} {t:Nat} (ht:x.toNat = t) (h:¬ x = 127):((t:Int) == 127) = false ∧ ((t:Int) != 127) = true ∧ ¬ ((t:Int) = 127):=by
 have h0:¬ t = 127:=fun e=>h (UInt8.toNat_inj.1 (by rw [ht,e];rfl))
 have h1:((t:Int) == 127) = false:=nB (by omega)
 exact ⟨h1,by rw [bne,h1];rfl,by omega⟩
theorem not126 {x:UInt8} {t:Nat} (ht:x.toNat = t) (h:¬ x = 126):((t:Int) == 126) = false ∧ ((t:Int) != 126) = true ∧ ¬ ((t:Int) = 126):=by
 have h0:¬ t = 126:=fun e=>h (UInt8.toNat_inj.1 (by rw [ht,e];rfl))
 have h1:((t:Int) == 126) = false:=nB (by omega)
 exact ⟨h1,by rw [bne,h1];rfl,by omega⟩
theorem de (l:List UInt8) (v:Value) (w:World) (h:aa w (· < w.heap.size) l v) (hl:l.length ≤ 1050000) :
  Calls Tryz.prog 57 #[v] w fun e w'=>e = .returned (.bool (Va.wholeB l)) ∧ w = w':=by
 obtain ⟨A3,c3,rfl,_,_,_,hL⟩:=h
 obtain ⟨n3,hn3⟩:∃ n,l.length = n:=⟨_,rfl⟩
 rw [hn3] at hl ⊢
 have HN3:=J hn3
 have HL:=J hL
 clear hL hn3
 go_enter Tryz.func57,Tryz.ntmps57
 go_wp2_with fail
 go_loop [7] (fun iv=>∃ j:Nat,j ≤ n3 ∧ iv = .int .i64 ↑j ∧ Hid (Va.wholeB (l.take j) = true)) (fun iv=>n3 - (intOf iv).toNat)
 case atStart=>exact ⟨0,by omega,rfl,J rfl⟩
 case round =>
  obtain ⟨j,hj,rfl,HQ⟩:=hrel
  by_cases hjn:j < n3
  ·obtain ⟨x,hx⟩:∃ x,l[j]? = some x:=⟨_,List.getElem?_eq_getElem (by have:=HN3.out;omega)⟩
   obtain ⟨g,oo,rfl,hg,k0⟩:=by_at HL.out hx
   have hji:(j:Int) < (n3:Int):=by omega
   have HST:=J (wholeB_take hx)
   have HNO:=J (wholeB_no hx)
   clear hx
   cases hb:(x == 127 || x == 126) with
   | true =>
    have HTR:Hid (Va.wholeB (l.take (j + 1)) = true):=J (by rw [HST.out,HQ.out,hb];rfl)
    clear HNO HST
    have hxt:x = 127 ∨ x = 126:=by
     rw [Bool.or_eq_true,beq_iff_eq,beq_iff_eq] at hb
     exact hb
    clear hb
    rcases hxt with rfl | rfl
    ·go_wp2_with fail
     go_round
     case rel=>exact ⟨j + 1,by omega,by go_num,HTR⟩
     case measure=>simp [intOf];omega
    ·go_wp2_with fail
     go_round
     case rel=>exact ⟨j + 1,by omega,by go_num,HTR⟩
     case measure=>simp [intOf];omega
   | false =>
    have HFL:=J (HNO.out hb)
    rw [Bool.or_eq_false_iff,beq_eq_false_iff_ne,beq_eq_false_iff_ne] at hb
    obtain ⟨h1,h2⟩:=hb
    obtain ⟨t,ht⟩:∃ t,x.toNat = t:=⟨_,rfl⟩
    obtain ⟨ht1,ht3,ht5⟩:=not127 ht h1
    obtain ⟨ht2,ht4,ht6⟩:=not126 ht h2
    rw [ht] at k0
    clear HNO HST h1 h2 ht
    go_wp2_with fail
    go_ret
    rw [HFL.out]
    exact ⟨rfl,rfl⟩
  ·have hji:decide ((j:Int) < (n3:Int)) = false:=decide_eq_false (by omega)
   have hjn2:decide (j < n3) = false:=decide_eq_false hjn
   have HTR:Hid (Va.wholeB l = true):=J (by
    have h:=HQ.out
    rw [List.take_of_length_le (by have:=HN3.out;omega)] at h
    exact h)
   go_wp2_with fail
   go_ret
   rw [HTR.out]
   exact ⟨rfl,rfl⟩
def mayB (l:Lim):Bool:=decide (l.max = -1) || (decide ((l.min:Int) ≤ l.max) && decide (l.max ≤ 4294967295))
theorem eO (l:Lim) (hl:Lim.wf l) (w:World) :
  Calls Tryz.prog 62 #[.agg #[.int .u32 ↑l.min,.int .i64 l.max]] w fun e w'=>e = .returned (.bool (mayB l)) ∧ Below w.heap.size w w':=by
 obtain ⟨a,b⟩:=l
 obtain ⟨h1,h2,h3⟩:=hl
 dsimp only at h1 h2 h3
 unfold mayB
 dsimp only
 have HB0:Hid (Below w.heap.size w (w.alloc (.cells #[.int .u32 ↑a,.int .i64 b] 66))):=J bA
 by_cases hb:b = -1
 ·subst hb
  go_enter Tryz.func62,Tryz.ntmps62
  go_wp2_with fail
  go_ret
  exact ⟨rfl,HB0.out⟩
 ·have hb1:(b == -1) = false:=by rw [beq_eq_false_iff_ne];exact hb
  have hb2:decide (b = -1) = false:=decide_eq_false hb
  have hw:IntKind.i64.wrap (a:Int) = (a:Int):=IntWalk.i64_in _ (by omega)
  rw [hb2,Bool.false_or]
  by_cases hab:(a:Int) ≤ b
  ·have hab2:decide ((a:Int) ≤ b) = true:=decide_eq_true hab
   rw [hab2,Bool.true_and]
   by_cases hm:b ≤ 4294967295
   ·have hm2:decide (b ≤ 4294967295) = true:=decide_eq_true hm
    rw [hm2]
    go_enter Tryz.func62,Tryz.ntmps62
    go_wp2_with fail
    go_ret
    exact ⟨rfl,HB0.out⟩
   ·have hm2:decide (b ≤ 4294967295) = false:=decide_eq_false hm
    rw [hm2]
    go_enter Tryz.func62,Tryz.ntmps62
    go_wp2_with fail
    go_ret
    exact ⟨rfl,HB0.out⟩
  ·have hab2:decide ((a:Int) ≤ b) = false:=decide_eq_false hab
   rw [hab2,Bool.false_and]
   go_enter Tryz.func62,Tryz.ntmps62
   go_wp2_with fail
   go_ret
   exact ⟨rfl,HB0.out⟩
end Go.Proofs.YtmpelmihdpomjaaGreat
