/-
  Layer 10's program: call_indirect, select. (gen/body/meth7.py)
-/
import Derived.Test.YtmpelmihdpomjaaGreatSo01
import Derived.Test.YtmpelmihdpomjaaGreatSo37
import Derived.Test.YtmpelmihdpomjaaGreatSo38
set_option maxRecDepth 100000
set_option maxHeartbeats 4000000
namespace Go.Proofs.YtmpelmihdpomjaaGreat
open Go.RowKit Ins Bin Sp
theorem Wk.litV {C:Ctx} {R P:Nat} {w:World} {G:Nat → Prop} {s:Ty.T} {o:List Bool} (h:Wk C R P w G s o) (x:UInt8) (v:Int) (hv:v = (x.toNat:Int)):Wk C R P (w.alloc (.cells #[.int .u8 v] 5)) G s o ∧ Nxt G w G (w.alloc (.cells #[.int .u8 v] 5)) ∧ aa (w.alloc (.cells #[.int .u8 v] 5)) (Apt (w.alloc (.cells #[.int .u8 v] 5)) G) [x] (.slice (some ⟨w.heap.size,0,none⟩) 1 1):=by
 subst hv
 exact h.lit x
theorem bcallI_any {C:Ctx} {R P n:Nat} {w:World} {G:Nat → Prop} {s:Ty.T} {o:List Bool} (hC:C.Good) (h:Wk C R P w G s o) (hs:s.sm n) (hn:n ≤ 400000000) (op a b:Nat) (c:Int) (A4:Option Addr) (l4 c4:Nat) (ha:a < 4294967296) :
  Calls Tryz.prog 108 #[.pointer (some ⟨R,0,none⟩),.agg #[.int .u8 ↑op,.int .u32 ↑a,.int .u32 ↑b,.int .i64 c,.slice A4 l4 c4]] w (aj C R P G o w (Bo.callI C.env a s)):=by
 have HX0:=J (heap_alloc_new w (.cells #[.int .u8 ↑op,.int .u32 ↑a,.int .u32 ↑b,.int .i64 c,.slice A4 l4 c4] 56))
 have HB0:Hid (Below w.heap.size w (w.alloc (.cells #[.int .u8 ↑op,.int .u32 ↑a,.int .u32 ↑b,.int .i64 c,.slice A4 l4 c4] 56))):=J bA
 have H0:=J (h.on HB0.out)
 have HN0:Hid (Nxt G w G (w.alloc (.cells #[.int .u8 ↑op,.int .u32 ↑a,.int .u32 ↑b,.int .i64 c,.slice A4 l4 c4] 56))):=J (Nxt.of_below HB0.out)
 have HGX:Hid (¬ G w.heap.size ∧ w.heap.size < (w.alloc (.cells #[.int .u8 ↑op,.int .u32 ↑a,.int .u32 ↑b,.int .i64 c,.slice A4 l4 c4] 56)).heap.size):=J ⟨fun hg=>Nat.lt_irrefl _ (h.out _ hg).2,by simp⟩
 have HFN0:=J (fun W (hW:Wk C R P W G s o)=>cK (some ⟨C.sp,0,none⟩) C.m a W (.inl ⟨C.sp,rfl,hC.space.grow hW.base⟩) (Lots.some hC.few) ha)
 have HTB0:=J (fun (W:World) (hW:Wk C R P W G s o)=>cY (some ⟨C.sp,0,none⟩) C.m 0 W (.inl ⟨C.sp,rfl,hC.space.grow hW.base⟩) (Lots.some hC.few) (by omega))
 have HLN:=J (fun t (ht:C.m.types[a]? = some t)=>hC.few.each t (List.mem_of_getElem? ht))
 clear h hC
 go_enter Tryz.func108,Tryz.ntmps108
 go_upto_region 1 with fail
 generalize (w.alloc (.cells #[.int .u8 ↑op,.int .u32 ↑a,.int .u32 ↑b,.int .i64 c,.slice A4 l4 c4] 56)) = w0 at HX0 HB0 H0 HN0 HGX ⊢
 obtain ⟨X,hX⟩:∃ X,w.heap.size = X:=⟨_,rfl⟩
 rw [hX] at HX0 HGX
 simp only [hX]
 clear hX HB0
 obtain ⟨z0,z1,z2,z3,z4⟩:=cells5 HX0.out
 obtain ⟨q0,q1,q2,q3,q4,q5⟩:=H0.out.cells
 have HCC:=J (fun W (hb:Below w0.heap.size w0 W)=>And.intro (cells5 ((hb.block X HGX.out.2).trans HX0.out)) (H0.out.on hb).cells)
 clear z1 z2 z3 z4 q1 q2 q3 q4 q5
 have htb:=HTB0.out _ H0.out
 clear HTB0
 unfold bR at htb
 obtain ⟨y1,y2,hy⟩:∃ y1 y2:Int,limArr (((tabs C.m)[0]?).getD ⟨0,0⟩) = #[.int .u32 y1,.int .i64 y2]:=⟨_,_,rfl⟩
 rw [hy] at htb
 clear hy
 cases hp:((tabs C.m)[0]?).isSome with
 | false =>
  rw [hp] at htb
  have HTB:=J htb
  clear htb
  cases hx:C.m.types[a]? with
  | none =>
   rw [hx] at HFN0
   have HT:Hid (Bo.callI C.env a s = .error 80):=J (by unfold Bo.callI Ctx.env;dsimp only;rw [hx,hp];rfl)
   clear hx hp hs hn ha HLN
   go_upto_region 2 with (go_at_call 61;refine HTB.out.mono ?_;rintro e wq ⟨rfl,hb⟩;have HBT:Hid (Below w0.heap.size w0 (wq.alloc (.cells #[.int .u32 y1,.int .i64 y2] 66))):=J (hb.alloc hb.size _);clear hb)
   generalize wq.alloc (.cells #[.int .u32 y1,.int .i64 y2] 66) = wt at HBT ⊢
   have HT0:=J (H0.out.on HBT.out)
   have HCD:=J (fun W (hb:Below wt.heap.size wt W)=>HCC.out W (HBT.out.trans (hb.mono HBT.out.size)))
   have HFN:=J (fun W (hb:Below wt.heap.size wt W)=>HFN0.out W (HT0.out.on hb))
   clear q0 z0
   refine wp_region_held_drew (S:=fun W'=>Below wt.heap.size wt W') (by kernel_rfl) (Below.drew (Below.refl _ _)) (fun hHeld=>?_)
   refine de1 0 rfl ?_
   refine de1 1 rfl ?_
   refine de1 2 rfl ?_
   refine de1 3 rfl ?_
   refine de1 4 rfl ?_
   refine de1 5 rfl ?_
   refine ai 6 10 rfl rfl (by kernel_rfl) (fun K hK=>?_) (fun K hK=>?_)
   ·try (rw [if_pos];case hc=>rfl)
    go_simp
    refine (HFN.out _ hHeld).mono ?_
    rintro e w1 he
    obtain ⟨A1,c1,A2,c2,rfl,hb⟩:=he.no
    have hH:Below wt.heap.size wt w1:=hHeld.trans (hb.mono hHeld.size)
    have hz1:wt.heap.size ≤ w1.heap.size:=hH.size
    go_wp2_with fail
    refine hK.out _ _ hH fun hHeld=>?_
    clear hK K
    refine dW 7 rfl ?_
    refine dW 8 rfl ?_
    refine dW 9 rfl ?_
    have HB1:Hid (Below wt.heap.size wt (w1.alloc (.cells #[.slice none 0 0,.slice none 0 0] 29))):=J (hHeld.alloc hHeld.size _)
    have HZ1:=J (heap_alloc_new w1 (.cells #[.slice none 0 0,.slice none 0 0] 29))
    have HY1:Hid (wt.heap.size ≤ w1.heap.size):=J hz1
    refine dA 10 rfl fun K hK=>?_
    go_simp
    refine hK.out _ _ HB1.out fun hHeld=>?_
    clear hK K
    refine dA 11 rfl fun K hK=>?_
    refine wp_store_row 29 (.tmp 7) (.tmp 25) rfl w1.heap.size #[.slice A1 0 c1,.slice A2 0 c2] rfl rfl 29 #[.slice none 0 0,.slice none 0 0] HZ1.out ak rfl (by simp [Value.oneCell']) ?_
    refine hK.out _ _ (ab HB1.out HY1.out _) fun hHeld=>?_
    clear hK K
    refine dW 12 rfl ?_
    refine dN ?_
    have HBF:Hid (Below wt.heap.size wt ((w1.alloc (.cells #[.slice none 0 0,.slice none 0 0] 29)).setRow w1.heap.size #[.slice A1 0 c1,.slice A2 0 c2])):=J hHeld
    go_wp2_with fail
    go_ret
    exact aj.err HT.out (HT0.out.on HBF.out).base
   ·try (rw [if_pos];case hc=>rfl)
    go_simp
    have hB0:Below wt.heap.size wt (wt.drew.alloc (.cells #[.slice none 0 0,.slice none 0 0] 29)):=hHeld.alloc hHeld.size _
    have hZ0:=heap_alloc_new wt.drew (.cells #[.slice none 0 0,.slice none 0 0] 29)
    have hl0:wt.heap.size < (wt.drew.alloc (.cells #[.slice none 0 0,.slice none 0 0] 29)).heap.size:=by simp
    refine hK.out _ _ hB0 fun hHeld=>?_
    clear hK K
    refine dA 6 rfl fun K hK=>?_
    go_simp
    refine (HFN.out _ hB0).mono ?_
    rintro e w1 he
    obtain ⟨A1,c1,A2,c2,rfl,hb⟩:=he.no
    have hH:Below wt.heap.size wt w1:=hB0.trans (hb.mono hB0.size)
    have HB1:Hid (Below wt.heap.size wt w1):=J hH
    have HZ1:Hid (w1.heap[wt.heap.size]? = some (.cells #[.slice none 0 0,.slice none 0 0] 29 (0,0))):=J ((hb.block _ hl0).trans hZ0)
    have HY1:Hid (wt.heap.size ≤ wt.heap.size):=J (Nat.le_refl _)
    go_wp2_with fail
    refine hK.out _ _ hH fun hHeld=>?_
    clear hK K
    refine dW 7 rfl ?_
    refine dW 8 rfl ?_
    refine dW 9 rfl ?_
    refine dA 11 rfl fun K hK=>?_
    refine wp_store_row 29 (.tmp 7) (.tmp 25) rfl wt.heap.size #[.slice A1 0 c1,.slice A2 0 c2] rfl rfl 29 #[.slice none 0 0,.slice none 0 0] HZ1.out ak rfl (by simp [Value.oneCell']) ?_
    refine hK.out _ _ (ab HB1.out HY1.out _) fun hHeld=>?_
    clear hK K
    refine dW 12 rfl ?_
    refine dN ?_
    have HBF:Hid (Below wt.heap.size wt (w1.setRow wt.heap.size #[.slice A1 0 c1,.slice A2 0 c2])):=J hHeld
    go_wp2_with fail
    go_ret
    exact aj.err HT.out (HT0.out.on HBF.out).base
  | some t =>
   rw [hx] at HFN0
   have HT:Hid (Bo.callI C.env a s = .error 80):=J (by unfold Bo.callI Ctx.env;dsimp only;rw [hx,hp];rfl)
   clear hx hp hs hn ha HLN
   go_upto_region 2 with (go_at_call 61;refine HTB.out.mono ?_;rintro e wq ⟨rfl,hb⟩;have HBT:Hid (Below w0.heap.size w0 (wq.alloc (.cells #[.int .u32 y1,.int .i64 y2] 66))):=J (hb.alloc hb.size _);clear hb)
   generalize wq.alloc (.cells #[.int .u32 y1,.int .i64 y2] 66) = wt at HBT ⊢
   have HT0:=J (H0.out.on HBT.out)
   have HCD:=J (fun W (hb:Below wt.heap.size wt W)=>HCC.out W (HBT.out.trans (hb.mono HBT.out.size)))
   have HFN:=J (fun W (hb:Below wt.heap.size wt W)=>HFN0.out W (HT0.out.on hb))
   clear q0 z0
   refine wp_region_held_drew (S:=fun W'=>Below wt.heap.size wt W') (by kernel_rfl) (Below.drew (Below.refl _ _)) (fun hHeld=>?_)
   refine de1 0 rfl ?_
   refine de1 1 rfl ?_
   refine de1 2 rfl ?_
   refine de1 3 rfl ?_
   refine de1 4 rfl ?_
   refine de1 5 rfl ?_
   refine ai 6 10 rfl rfl (by kernel_rfl) (fun K hK=>?_) (fun K hK=>?_)
   ·try (rw [if_pos];case hc=>rfl)
    go_simp
    refine (HFN.out _ hHeld).mono ?_
    rintro e w1 he
    obtain ⟨A1,c1,A2,c2,rfl,_,_,hb⟩:=he.yes
    have hH:Below wt.heap.size wt w1:=hHeld.trans (hb.mono hHeld.size)
    have hz1:wt.heap.size ≤ w1.heap.size:=hH.size
    go_wp2_with fail
    refine hK.out _ _ hH fun hHeld=>?_
    clear hK K
    refine dW 7 rfl ?_
    refine dW 8 rfl ?_
    refine dW 9 rfl ?_
    have HB1:Hid (Below wt.heap.size wt (w1.alloc (.cells #[.slice none 0 0,.slice none 0 0] 29))):=J (hHeld.alloc hHeld.size _)
    have HZ1:=J (heap_alloc_new w1 (.cells #[.slice none 0 0,.slice none 0 0] 29))
    have HY1:Hid (wt.heap.size ≤ w1.heap.size):=J hz1
    refine dA 10 rfl fun K hK=>?_
    go_simp
    refine hK.out _ _ HB1.out fun hHeld=>?_
    clear hK K
    refine dA 11 rfl fun K hK=>?_
    refine wp_store_row 29 (.tmp 7) (.tmp 25) rfl w1.heap.size #[.slice A1 t.params.length c1,.slice A2 t.results.length c2] rfl rfl 29 #[.slice none 0 0,.slice none 0 0] HZ1.out ak rfl (by simp [Value.oneCell']) ?_
    refine hK.out _ _ (ab HB1.out HY1.out _) fun hHeld=>?_
    clear hK K
    refine dW 12 rfl ?_
    refine dN ?_
    have HBF:Hid (Below wt.heap.size wt ((w1.alloc (.cells #[.slice none 0 0,.slice none 0 0] 29)).setRow w1.heap.size #[.slice A1 t.params.length c1,.slice A2 t.results.length c2])):=J hHeld
    go_wp2_with fail
    go_ret
    exact aj.err HT.out (HT0.out.on HBF.out).base
   ·try (rw [if_pos];case hc=>rfl)
    go_simp
    have hB0:Below wt.heap.size wt (wt.drew.alloc (.cells #[.slice none 0 0,.slice none 0 0] 29)):=hHeld.alloc hHeld.size _
    have hZ0:=heap_alloc_new wt.drew (.cells #[.slice none 0 0,.slice none 0 0] 29)
    have hl0:wt.heap.size < (wt.drew.alloc (.cells #[.slice none 0 0,.slice none 0 0] 29)).heap.size:=by simp
    refine hK.out _ _ hB0 fun hHeld=>?_
    clear hK K
    refine dA 6 rfl fun K hK=>?_
    go_simp
    refine (HFN.out _ hB0).mono ?_
    rintro e w1 he
    obtain ⟨A1,c1,A2,c2,rfl,_,_,hb⟩:=he.yes
    have hH:Below wt.heap.size wt w1:=hB0.trans (hb.mono hB0.size)
    have HB1:Hid (Below wt.heap.size wt w1):=J hH
    have HZ1:Hid (w1.heap[wt.heap.size]? = some (.cells #[.slice none 0 0,.slice none 0 0] 29 (0,0))):=J ((hb.block _ hl0).trans hZ0)
    have HY1:Hid (wt.heap.size ≤ wt.heap.size):=J (Nat.le_refl _)
    go_wp2_with fail
    refine hK.out _ _ hH fun hHeld=>?_
    clear hK K
    refine dW 7 rfl ?_
    refine dW 8 rfl ?_
    refine dW 9 rfl ?_
    refine dA 11 rfl fun K hK=>?_
    refine wp_store_row 29 (.tmp 7) (.tmp 25) rfl wt.heap.size #[.slice A1 t.params.length c1,.slice A2 t.results.length c2] rfl rfl 29 #[.slice none 0 0,.slice none 0 0] HZ1.out ak rfl (by simp [Value.oneCell']) ?_
    refine hK.out _ _ (ab HB1.out HY1.out _) fun hHeld=>?_
    clear hK K
    refine dW 12 rfl ?_
    refine dN ?_
    have HBF:Hid (Below wt.heap.size wt (w1.setRow wt.heap.size #[.slice A1 t.params.length c1,.slice A2 t.results.length c2])):=J hHeld
    go_wp2_with fail
    go_ret
    exact aj.err HT.out (HT0.out.on HBF.out).base
 | true =>
  rw [hp] at htb
  have HTB:=J htb
  clear htb
  cases hx:C.m.types[a]? with
  | none =>
   rw [hx] at HFN0
   have HT:Hid (Bo.callI C.env a s = .error 80):=J (by unfold Bo.callI Ctx.env;dsimp only;rw [hx,hp];rfl)
   clear hx hp hs hn ha HLN
   go_upto_region 2 with (go_at_call 61;refine HTB.out.mono ?_;rintro e wq ⟨rfl,hb⟩;have HBT:Hid (Below w0.heap.size w0 (wq.alloc (.cells #[.int .u32 y1,.int .i64 y2] 66))):=J (hb.alloc hb.size _);clear hb)
   generalize wq.alloc (.cells #[.int .u32 y1,.int .i64 y2] 66) = wt at HBT ⊢
   have HT0:=J (H0.out.on HBT.out)
   have HCD:=J (fun W (hb:Below wt.heap.size wt W)=>HCC.out W (HBT.out.trans (hb.mono HBT.out.size)))
   have HFN:=J (fun W (hb:Below wt.heap.size wt W)=>HFN0.out W (HT0.out.on hb))
   clear q0 z0
   refine wp_region_held_drew (S:=fun W'=>Below wt.heap.size wt W') (by kernel_rfl) (Below.drew (Below.refl _ _)) (fun hHeld=>?_)
   refine de1 0 rfl ?_
   refine de1 1 rfl ?_
   refine de1 2 rfl ?_
   refine de1 3 rfl ?_
   refine de1 4 rfl ?_
   refine de1 5 rfl ?_
   refine ai 6 10 rfl rfl (by kernel_rfl) (fun K hK=>?_) (fun K hK=>?_)
   ·try (rw [if_pos];case hc=>rfl)
    go_simp
    refine (HFN.out _ hHeld).mono ?_
    rintro e w1 he
    obtain ⟨A1,c1,A2,c2,rfl,hb⟩:=he.no
    have hH:Below wt.heap.size wt w1:=hHeld.trans (hb.mono hHeld.size)
    have hz1:wt.heap.size ≤ w1.heap.size:=hH.size
    go_wp2_with fail
    refine hK.out _ _ hH fun hHeld=>?_
    clear hK K
    refine dW 7 rfl ?_
    refine dW 8 rfl ?_
    refine dW 9 rfl ?_
    have HB1:Hid (Below wt.heap.size wt (w1.alloc (.cells #[.slice none 0 0,.slice none 0 0] 29))):=J (hHeld.alloc hHeld.size _)
    have HZ1:=J (heap_alloc_new w1 (.cells #[.slice none 0 0,.slice none 0 0] 29))
    have HY1:Hid (wt.heap.size ≤ w1.heap.size):=J hz1
    refine dA 10 rfl fun K hK=>?_
    go_simp
    refine hK.out _ _ HB1.out fun hHeld=>?_
    clear hK K
    refine dA 11 rfl fun K hK=>?_
    refine wp_store_row 29 (.tmp 7) (.tmp 25) rfl w1.heap.size #[.slice A1 0 c1,.slice A2 0 c2] rfl rfl 29 #[.slice none 0 0,.slice none 0 0] HZ1.out ak rfl (by simp [Value.oneCell']) ?_
    refine hK.out _ _ (ab HB1.out HY1.out _) fun hHeld=>?_
    clear hK K
    refine dW 12 rfl ?_
    refine dN ?_
    have HBF:Hid (Below wt.heap.size wt ((w1.alloc (.cells #[.slice none 0 0,.slice none 0 0] 29)).setRow w1.heap.size #[.slice A1 0 c1,.slice A2 0 c2])):=J hHeld
    go_wp2_with fail
    go_ret
    exact aj.err HT.out (HT0.out.on HBF.out).base
   ·try (rw [if_pos];case hc=>rfl)
    go_simp
    have hB0:Below wt.heap.size wt (wt.drew.alloc (.cells #[.slice none 0 0,.slice none 0 0] 29)):=hHeld.alloc hHeld.size _
    have hZ0:=heap_alloc_new wt.drew (.cells #[.slice none 0 0,.slice none 0 0] 29)
    have hl0:wt.heap.size < (wt.drew.alloc (.cells #[.slice none 0 0,.slice none 0 0] 29)).heap.size:=by simp
    refine hK.out _ _ hB0 fun hHeld=>?_
    clear hK K
    refine dA 6 rfl fun K hK=>?_
    go_simp
    refine (HFN.out _ hB0).mono ?_
    rintro e w1 he
    obtain ⟨A1,c1,A2,c2,rfl,hb⟩:=he.no
    have hH:Below wt.heap.size wt w1:=hB0.trans (hb.mono hB0.size)
    have HB1:Hid (Below wt.heap.size wt w1):=J hH
    have HZ1:Hid (w1.heap[wt.heap.size]? = some (.cells #[.slice none 0 0,.slice none 0 0] 29 (0,0))):=J ((hb.block _ hl0).trans hZ0)
    have HY1:Hid (wt.heap.size ≤ wt.heap.size):=J (Nat.le_refl _)
    go_wp2_with fail
    refine hK.out _ _ hH fun hHeld=>?_
    clear hK K
    refine dW 7 rfl ?_
    refine dW 8 rfl ?_
    refine dW 9 rfl ?_
    refine dA 11 rfl fun K hK=>?_
    refine wp_store_row 29 (.tmp 7) (.tmp 25) rfl wt.heap.size #[.slice A1 0 c1,.slice A2 0 c2] rfl rfl 29 #[.slice none 0 0,.slice none 0 0] HZ1.out ak rfl (by simp [Value.oneCell']) ?_
    refine hK.out _ _ (ab HB1.out HY1.out _) fun hHeld=>?_
    clear hK K
    refine dW 12 rfl ?_
    refine dN ?_
    have HBF:Hid (Below wt.heap.size wt (w1.setRow wt.heap.size #[.slice A1 0 c1,.slice A2 0 c2])):=J hHeld
    go_wp2_with fail
    go_ret
    exact aj.err HT.out (HT0.out.on HBF.out).base
  | some t =>
   rw [hx] at HFN0
   obtain ⟨hl1,hl2⟩:=HLN.out t hx
   have hwa:=fun W (hW:Wk C R P W G s o)=>hW.i32 hs (by omega)
   cases hw:s.wantA [127] with
   | false =>
    rw [hw] at hwa
    have HWA0:=J hwa
    have HT:Hid (Bo.callI C.env a s = .error 100):=J (by unfold Bo.callI Ctx.env;dsimp only;rw [hx,hp,hw];rfl)
    clear hx hp hs hn ha HLN hl1 hl2 hw hwa
    go_upto_region 2 with (go_at_call 61;refine HTB.out.mono ?_;rintro e wq ⟨rfl,hb⟩;have HBT:Hid (Below w0.heap.size w0 (wq.alloc (.cells #[.int .u32 y1,.int .i64 y2] 66))):=J (hb.alloc hb.size _);clear hb)
    generalize wq.alloc (.cells #[.int .u32 y1,.int .i64 y2] 66) = wt at HBT ⊢
    have HT0:=J (H0.out.on HBT.out)
    have HCD:=J (fun W (hb:Below wt.heap.size wt W)=>HCC.out W (HBT.out.trans (hb.mono HBT.out.size)))
    have HFN:=J (fun W (hb:Below wt.heap.size wt W)=>HFN0.out W (HT0.out.on hb))
    clear q0 z0
    have HWA:=J (fun W (hb:Below wt.heap.size wt W)=>HWA0.out W (HT0.out.on hb))
    refine wp_region_held_drew (S:=fun W'=>Below wt.heap.size wt W') (by kernel_rfl) (Below.drew (Below.refl _ _)) (fun hHeld=>?_)
    refine de1 0 rfl ?_
    refine de1 1 rfl ?_
    refine de1 2 rfl ?_
    refine de1 3 rfl ?_
    refine de1 4 rfl ?_
    refine de1 5 rfl ?_
    refine ai 6 10 rfl rfl (by kernel_rfl) (fun K hK=>?_) (fun K hK=>?_)
    ·try (rw [if_pos];case hc=>rfl)
     go_simp
     refine (HFN.out _ hHeld).mono ?_
     rintro e w1 he
     obtain ⟨A1,c1,A2,c2,rfl,s1,s2,hb⟩:=he.yes
     have hH:Below wt.heap.size wt w1:=hHeld.trans (hb.mono hHeld.size)
     have hz1:wt.heap.size ≤ w1.heap.size:=hH.size
     have HS1:Hid (aa w1 (fun k=>wt.heap.size ≤ k ∧ k ≠ w1.heap.size) t.params (.slice A1 t.params.length c1)):=J (s1.more (fun k hk h=>⟨h,by omega⟩))
     have HS2:Hid (aa w1 (fun k=>wt.heap.size ≤ k ∧ k ≠ w1.heap.size) t.results (.slice A2 t.results.length c2)):=J (s2.more (fun k hk h=>⟨h,by omega⟩))
     clear s1 s2
     go_wp2_with fail
     refine hK.out _ _ hH fun hHeld=>?_
     clear hK K
     refine dW 7 rfl ?_
     refine dW 8 rfl ?_
     refine dW 9 rfl ?_
     have HB1:Hid (Below wt.heap.size wt (w1.alloc (.cells #[.slice none 0 0,.slice none 0 0] 29))):=J (hHeld.alloc hHeld.size _)
     have HZ1:=J (heap_alloc_new w1 (.cells #[.slice none 0 0,.slice none 0 0] 29))
     have HY1:Hid (wt.heap.size ≤ w1.heap.size):=J hz1
     refine dA 10 rfl fun K hK=>?_
     go_simp
     refine hK.out _ _ HB1.out fun hHeld=>?_
     clear hK K
     refine dA 11 rfl fun K hK=>?_
     refine wp_store_row 29 (.tmp 7) (.tmp 25) rfl w1.heap.size #[.slice A1 t.params.length c1,.slice A2 t.results.length c2] rfl rfl 29 #[.slice none 0 0,.slice none 0 0] HZ1.out ak rfl (by simp [Value.oneCell']) ?_
     refine hK.out _ _ (ab HB1.out HY1.out _) fun hHeld=>?_
     clear hK K
     refine dW 12 rfl ?_
     refine dN ?_
     have HBF:Hid (Below wt.heap.size wt ((w1.alloc (.cells #[.slice none 0 0,.slice none 0 0] 29)).setRow w1.heap.size #[.slice A1 t.params.length c1,.slice A2 t.results.length c2])):=J hHeld
     have HYF:=J (setRow_heap _ _ #[.slice none 0 0,.slice none 0 0] #[.slice A1 t.params.length c1,.slice A2 t.results.length c2] _ _ HZ1.out)
     have HGY:Hid (¬ G w1.heap.size ∧ w1.heap.size < ((w1.alloc (.cells #[.slice none 0 0,.slice none 0 0] 29)).setRow w1.heap.size #[.slice A1 t.params.length c1,.slice A2 t.results.length c2]).heap.size):=J ⟨fun hg=>by have:=(HT0.out.out _ hg).2;have:=HY1.out;omega,(gL HYF.out)⟩
     have HV1:=J ((av (HS1.out.mod (T:=fun _=>False) (Mod.of_below bA) (fun _ _ _ h=>h)) #[.slice A1 t.params.length c1,.slice A2 t.results.length c2] (fun k _ hs=>hs.2)).more (S':=Apt ((w1.alloc (.cells #[.slice none 0 0,.slice none 0 0] 29)).setRow w1.heap.size #[.slice A1 t.params.length c1,.slice A2 t.results.length c2]) G) (fun k hk hs=>⟨fun hg=>by have:=(HT0.out.out k hg).2;have:=hs.1;omega,hk⟩))
     have HV2:=J ((av (HS2.out.mod (T:=fun _=>False) (Mod.of_below bA) (fun _ _ _ h=>h)) #[.slice A1 t.params.length c1,.slice A2 t.results.length c2] (fun k _ hs=>hs.2)).more (S':=Apt ((w1.alloc (.cells #[.slice none 0 0,.slice none 0 0] 29)).setRow w1.heap.size #[.slice A1 t.params.length c1,.slice A2 t.results.length c2]) G) (fun k hk hs=>⟨fun hg=>by have:=(HT0.out.out k hg).2;have:=hs.1;omega,hk⟩))
     generalize (w1.alloc (.cells #[.slice none 0 0,.slice none 0 0] 29)).setRow w1.heap.size #[.slice A1 t.params.length c1,.slice A2 t.results.length c2] = wf at HBF HYF HGY HV1 HV2 ⊢
     obtain ⟨_,y0,y1,y2,y3,y4,y5⟩:=HCD.out wf HBF.out
     go_wp2_with (go_at_call 130;refine (HWA.out _ HBF.out).mono ?_;rintro e w2 ⟨rfl,G2,h2,n2⟩;have H2:=J h2;have HN2:=J n2;obtain ⟨r0,r1⟩:=ae (Nxt.keep n2 HYF.out HGY.out).1;clear h2 n2)
     go_ret
     exact aj.err HT.out ((HT0.out.on HBF.out).below HN2.out)
    ·try (rw [if_pos];case hc=>rfl)
     go_simp
     have hB0:Below wt.heap.size wt (wt.drew.alloc (.cells #[.slice none 0 0,.slice none 0 0] 29)):=hHeld.alloc hHeld.size _
     have hZ0:=heap_alloc_new wt.drew (.cells #[.slice none 0 0,.slice none 0 0] 29)
     have hl0:wt.heap.size < (wt.drew.alloc (.cells #[.slice none 0 0,.slice none 0 0] 29)).heap.size:=by simp
     refine hK.out _ _ hB0 fun hHeld=>?_
     clear hK K
     refine dA 6 rfl fun K hK=>?_
     go_simp
     refine (HFN.out _ hB0).mono ?_
     rintro e w1 he
     obtain ⟨A1,c1,A2,c2,rfl,s1,s2,hb⟩:=he.yes
     have hH:Below wt.heap.size wt w1:=hB0.trans (hb.mono hB0.size)
     have HB1:Hid (Below wt.heap.size wt w1):=J hH
     have HZ1:Hid (w1.heap[wt.heap.size]? = some (.cells #[.slice none 0 0,.slice none 0 0] 29 (0,0))):=J ((hb.block _ hl0).trans hZ0)
     have HY1:Hid (wt.heap.size ≤ wt.heap.size):=J (Nat.le_refl _)
     have HS1:Hid (aa w1 (fun k=>wt.heap.size ≤ k ∧ k ≠ wt.heap.size) t.params (.slice A1 t.params.length c1)):=J (s1.more (fun k hk h=>by have h':(wt.drew.alloc (.cells #[.slice none 0 0,.slice none 0 0] 29)).heap.size ≤ k:=h;simp at h';exact ⟨by omega,by omega⟩))
     have HS2:Hid (aa w1 (fun k=>wt.heap.size ≤ k ∧ k ≠ wt.heap.size) t.results (.slice A2 t.results.length c2)):=J (s2.more (fun k hk h=>by have h':(wt.drew.alloc (.cells #[.slice none 0 0,.slice none 0 0] 29)).heap.size ≤ k:=h;simp at h';exact ⟨by omega,by omega⟩))
     clear s1 s2
     go_wp2_with fail
     refine hK.out _ _ hH fun hHeld=>?_
     clear hK K
     refine dW 7 rfl ?_
     refine dW 8 rfl ?_
     refine dW 9 rfl ?_
     refine dA 11 rfl fun K hK=>?_
     refine wp_store_row 29 (.tmp 7) (.tmp 25) rfl wt.heap.size #[.slice A1 t.params.length c1,.slice A2 t.results.length c2] rfl rfl 29 #[.slice none 0 0,.slice none 0 0] HZ1.out ak rfl (by simp [Value.oneCell']) ?_
     refine hK.out _ _ (ab HB1.out HY1.out _) fun hHeld=>?_
     clear hK K
     refine dW 12 rfl ?_
     refine dN ?_
     have HBF:Hid (Below wt.heap.size wt (w1.setRow wt.heap.size #[.slice A1 t.params.length c1,.slice A2 t.results.length c2])):=J hHeld
     have HYF:=J (setRow_heap _ _ #[.slice none 0 0,.slice none 0 0] #[.slice A1 t.params.length c1,.slice A2 t.results.length c2] _ _ HZ1.out)
     have HGY:Hid (¬ G wt.heap.size ∧ wt.heap.size < (w1.setRow wt.heap.size #[.slice A1 t.params.length c1,.slice A2 t.results.length c2]).heap.size):=J ⟨fun hg=>by have:=(HT0.out.out _ hg).2;have:=HY1.out;omega,(gL HYF.out)⟩
     have HV1:=J ((av HS1.out #[.slice A1 t.params.length c1,.slice A2 t.results.length c2] (fun k _ hs=>hs.2)).more (S':=Apt (w1.setRow wt.heap.size #[.slice A1 t.params.length c1,.slice A2 t.results.length c2]) G) (fun k hk hs=>⟨fun hg=>by have:=(HT0.out.out k hg).2;have:=hs.1;omega,hk⟩))
     have HV2:=J ((av HS2.out #[.slice A1 t.params.length c1,.slice A2 t.results.length c2] (fun k _ hs=>hs.2)).more (S':=Apt (w1.setRow wt.heap.size #[.slice A1 t.params.length c1,.slice A2 t.results.length c2]) G) (fun k hk hs=>⟨fun hg=>by have:=(HT0.out.out k hg).2;have:=hs.1;omega,hk⟩))
     generalize w1.setRow wt.heap.size #[.slice A1 t.params.length c1,.slice A2 t.results.length c2] = wf at HBF HYF HGY HV1 HV2 ⊢
     obtain ⟨_,y0,y1,y2,y3,y4,y5⟩:=HCD.out wf HBF.out
     go_wp2_with (go_at_call 130;refine (HWA.out _ HBF.out).mono ?_;rintro e w2 ⟨rfl,G2,h2,n2⟩;have H2:=J h2;have HN2:=J n2;obtain ⟨r0,r1⟩:=ae (Nxt.keep n2 HYF.out HGY.out).1;clear h2 n2)
     go_ret
     exact aj.err HT.out ((HT0.out.on HBF.out).below HN2.out)
   | true =>
    rw [hw] at hwa
    have HWA0:=J hwa
    have HT:Hid (Bo.callI C.env a s = Bo.turned (s.want [127]) t.params t.results):=J (by unfold Bo.callI Ctx.env;dsimp only;rw [hx,hp,hw];rfl)
    have HTU:=J (fun W G2 v1 v2 (hW:Wk C R P W G2 (s.want [127]) o) (h1:aa W (Apt W G2) t.params v1) (h2:aa W (Apt W G2) t.results v2)=>aP hW (Ty.sm_want hs _) hn _ _ v1 v2 h1 h2 (by omega) (by omega))
    clear hx hp hs hn ha HLN hl1 hl2 hw hwa
    go_upto_region 2 with (go_at_call 61;refine HTB.out.mono ?_;rintro e wq ⟨rfl,hb⟩;have HBT:Hid (Below w0.heap.size w0 (wq.alloc (.cells #[.int .u32 y1,.int .i64 y2] 66))):=J (hb.alloc hb.size _);clear hb)
    generalize wq.alloc (.cells #[.int .u32 y1,.int .i64 y2] 66) = wt at HBT ⊢
    have HT0:=J (H0.out.on HBT.out)
    have HCD:=J (fun W (hb:Below wt.heap.size wt W)=>HCC.out W (HBT.out.trans (hb.mono HBT.out.size)))
    have HFN:=J (fun W (hb:Below wt.heap.size wt W)=>HFN0.out W (HT0.out.on hb))
    clear q0 z0
    have HWA:=J (fun W (hb:Below wt.heap.size wt W)=>HWA0.out W (HT0.out.on hb))
    refine wp_region_held_drew (S:=fun W'=>Below wt.heap.size wt W') (by kernel_rfl) (Below.drew (Below.refl _ _)) (fun hHeld=>?_)
    refine de1 0 rfl ?_
    refine de1 1 rfl ?_
    refine de1 2 rfl ?_
    refine de1 3 rfl ?_
    refine de1 4 rfl ?_
    refine de1 5 rfl ?_
    refine ai 6 10 rfl rfl (by kernel_rfl) (fun K hK=>?_) (fun K hK=>?_)
    ·try (rw [if_pos];case hc=>rfl)
     go_simp
     refine (HFN.out _ hHeld).mono ?_
     rintro e w1 he
     obtain ⟨A1,c1,A2,c2,rfl,s1,s2,hb⟩:=he.yes
     have hH:Below wt.heap.size wt w1:=hHeld.trans (hb.mono hHeld.size)
     have hz1:wt.heap.size ≤ w1.heap.size:=hH.size
     have HS1:Hid (aa w1 (fun k=>wt.heap.size ≤ k ∧ k ≠ w1.heap.size) t.params (.slice A1 t.params.length c1)):=J (s1.more (fun k hk h=>⟨h,by omega⟩))
     have HS2:Hid (aa w1 (fun k=>wt.heap.size ≤ k ∧ k ≠ w1.heap.size) t.results (.slice A2 t.results.length c2)):=J (s2.more (fun k hk h=>⟨h,by omega⟩))
     clear s1 s2
     go_wp2_with fail
     refine hK.out _ _ hH fun hHeld=>?_
     clear hK K
     refine dW 7 rfl ?_
     refine dW 8 rfl ?_
     refine dW 9 rfl ?_
     have HB1:Hid (Below wt.heap.size wt (w1.alloc (.cells #[.slice none 0 0,.slice none 0 0] 29))):=J (hHeld.alloc hHeld.size _)
     have HZ1:=J (heap_alloc_new w1 (.cells #[.slice none 0 0,.slice none 0 0] 29))
     have HY1:Hid (wt.heap.size ≤ w1.heap.size):=J hz1
     refine dA 10 rfl fun K hK=>?_
     go_simp
     refine hK.out _ _ HB1.out fun hHeld=>?_
     clear hK K
     refine dA 11 rfl fun K hK=>?_
     refine wp_store_row 29 (.tmp 7) (.tmp 25) rfl w1.heap.size #[.slice A1 t.params.length c1,.slice A2 t.results.length c2] rfl rfl 29 #[.slice none 0 0,.slice none 0 0] HZ1.out ak rfl (by simp [Value.oneCell']) ?_
     refine hK.out _ _ (ab HB1.out HY1.out _) fun hHeld=>?_
     clear hK K
     refine dW 12 rfl ?_
     refine dN ?_
     have HBF:Hid (Below wt.heap.size wt ((w1.alloc (.cells #[.slice none 0 0,.slice none 0 0] 29)).setRow w1.heap.size #[.slice A1 t.params.length c1,.slice A2 t.results.length c2])):=J hHeld
     have HYF:=J (setRow_heap _ _ #[.slice none 0 0,.slice none 0 0] #[.slice A1 t.params.length c1,.slice A2 t.results.length c2] _ _ HZ1.out)
     have HGY:Hid (¬ G w1.heap.size ∧ w1.heap.size < ((w1.alloc (.cells #[.slice none 0 0,.slice none 0 0] 29)).setRow w1.heap.size #[.slice A1 t.params.length c1,.slice A2 t.results.length c2]).heap.size):=J ⟨fun hg=>by have:=(HT0.out.out _ hg).2;have:=HY1.out;omega,(gL HYF.out)⟩
     have HV1:=J ((av (HS1.out.mod (T:=fun _=>False) (Mod.of_below bA) (fun _ _ _ h=>h)) #[.slice A1 t.params.length c1,.slice A2 t.results.length c2] (fun k _ hs=>hs.2)).more (S':=Apt ((w1.alloc (.cells #[.slice none 0 0,.slice none 0 0] 29)).setRow w1.heap.size #[.slice A1 t.params.length c1,.slice A2 t.results.length c2]) G) (fun k hk hs=>⟨fun hg=>by have:=(HT0.out.out k hg).2;have:=hs.1;omega,hk⟩))
     have HV2:=J ((av (HS2.out.mod (T:=fun _=>False) (Mod.of_below bA) (fun _ _ _ h=>h)) #[.slice A1 t.params.length c1,.slice A2 t.results.length c2] (fun k _ hs=>hs.2)).more (S':=Apt ((w1.alloc (.cells #[.slice none 0 0,.slice none 0 0] 29)).setRow w1.heap.size #[.slice A1 t.params.length c1,.slice A2 t.results.length c2]) G) (fun k hk hs=>⟨fun hg=>by have:=(HT0.out.out k hg).2;have:=hs.1;omega,hk⟩))
     generalize (w1.alloc (.cells #[.slice none 0 0,.slice none 0 0] 29)).setRow w1.heap.size #[.slice A1 t.params.length c1,.slice A2 t.results.length c2] = wf at HBF HYF HGY HV1 HV2 ⊢
     obtain ⟨_,y0,y1,y2,y3,y4,y5⟩:=HCD.out wf HBF.out
     go_wp2_with (first | (go_at_call 130;refine (HWA.out _ HBF.out).mono ?_;rintro e w2 ⟨rfl,G2,h2,n2⟩;have H2:=J h2;have HN2:=J n2;obtain ⟨r0,r1⟩:=ae (Nxt.keep n2 HYF.out HGY.out).1;clear h2 n2) | (go_at_call 134;refine (HTU.out _ _ _ _ H2.out (Apt.next HV1.out HN2.out) (Apt.next HV2.out HN2.out)).mono ?_;rintro e w9 he;obtain ⟨k,rfl,hk⟩:=he.num;have HK:=J hk;clear he hk))
     go_ret
     rw [HT.out]
     exact (((HK.out.ahead HN2.out).ahead (Nxt.of_below HBF.out)).ahead (Nxt.of_below HBT.out)).ahead HN0.out
    ·try (rw [if_pos];case hc=>rfl)
     go_simp
     have hB0:Below wt.heap.size wt (wt.drew.alloc (.cells #[.slice none 0 0,.slice none 0 0] 29)):=hHeld.alloc hHeld.size _
     have hZ0:=heap_alloc_new wt.drew (.cells #[.slice none 0 0,.slice none 0 0] 29)
     have hl0:wt.heap.size < (wt.drew.alloc (.cells #[.slice none 0 0,.slice none 0 0] 29)).heap.size:=by simp
     refine hK.out _ _ hB0 fun hHeld=>?_
     clear hK K
     refine dA 6 rfl fun K hK=>?_
     go_simp
     refine (HFN.out _ hB0).mono ?_
     rintro e w1 he
     obtain ⟨A1,c1,A2,c2,rfl,s1,s2,hb⟩:=he.yes
     have hH:Below wt.heap.size wt w1:=hB0.trans (hb.mono hB0.size)
     have HB1:Hid (Below wt.heap.size wt w1):=J hH
     have HZ1:Hid (w1.heap[wt.heap.size]? = some (.cells #[.slice none 0 0,.slice none 0 0] 29 (0,0))):=J ((hb.block _ hl0).trans hZ0)
     have HY1:Hid (wt.heap.size ≤ wt.heap.size):=J (Nat.le_refl _)
     have HS1:Hid (aa w1 (fun k=>wt.heap.size ≤ k ∧ k ≠ wt.heap.size) t.params (.slice A1 t.params.length c1)):=J (s1.more (fun k hk h=>by have h':(wt.drew.alloc (.cells #[.slice none 0 0,.slice none 0 0] 29)).heap.size ≤ k:=h;simp at h';exact ⟨by omega,by omega⟩))
     have HS2:Hid (aa w1 (fun k=>wt.heap.size ≤ k ∧ k ≠ wt.heap.size) t.results (.slice A2 t.results.length c2)):=J (s2.more (fun k hk h=>by have h':(wt.drew.alloc (.cells #[.slice none 0 0,.slice none 0 0] 29)).heap.size ≤ k:=h;simp at h';exact ⟨by omega,by omega⟩))
     clear s1 s2
     go_wp2_with fail
     refine hK.out _ _ hH fun hHeld=>?_
     clear hK K
     refine dW 7 rfl ?_
     refine dW 8 rfl ?_
     refine dW 9 rfl ?_
     refine dA 11 rfl fun K hK=>?_
     refine wp_store_row 29 (.tmp 7) (.tmp 25) rfl wt.heap.size #[.slice A1 t.params.length c1,.slice A2 t.results.length c2] rfl rfl 29 #[.slice none 0 0,.slice none 0 0] HZ1.out ak rfl (by simp [Value.oneCell']) ?_
     refine hK.out _ _ (ab HB1.out HY1.out _) fun hHeld=>?_
     clear hK K
     refine dW 12 rfl ?_
     refine dN ?_
     have HBF:Hid (Below wt.heap.size wt (w1.setRow wt.heap.size #[.slice A1 t.params.length c1,.slice A2 t.results.length c2])):=J hHeld
     have HYF:=J (setRow_heap _ _ #[.slice none 0 0,.slice none 0 0] #[.slice A1 t.params.length c1,.slice A2 t.results.length c2] _ _ HZ1.out)
     have HGY:Hid (¬ G wt.heap.size ∧ wt.heap.size < (w1.setRow wt.heap.size #[.slice A1 t.params.length c1,.slice A2 t.results.length c2]).heap.size):=J ⟨fun hg=>by have:=(HT0.out.out _ hg).2;have:=HY1.out;omega,(gL HYF.out)⟩
     have HV1:=J ((av HS1.out #[.slice A1 t.params.length c1,.slice A2 t.results.length c2] (fun k _ hs=>hs.2)).more (S':=Apt (w1.setRow wt.heap.size #[.slice A1 t.params.length c1,.slice A2 t.results.length c2]) G) (fun k hk hs=>⟨fun hg=>by have:=(HT0.out.out k hg).2;have:=hs.1;omega,hk⟩))
     have HV2:=J ((av HS2.out #[.slice A1 t.params.length c1,.slice A2 t.results.length c2] (fun k _ hs=>hs.2)).more (S':=Apt (w1.setRow wt.heap.size #[.slice A1 t.params.length c1,.slice A2 t.results.length c2]) G) (fun k hk hs=>⟨fun hg=>by have:=(HT0.out.out k hg).2;have:=hs.1;omega,hk⟩))
     generalize w1.setRow wt.heap.size #[.slice A1 t.params.length c1,.slice A2 t.results.length c2] = wf at HBF HYF HGY HV1 HV2 ⊢
     obtain ⟨_,y0,y1,y2,y3,y4,y5⟩:=HCD.out wf HBF.out
     go_wp2_with (first | (go_at_call 130;refine (HWA.out _ HBF.out).mono ?_;rintro e w2 ⟨rfl,G2,h2,n2⟩;have H2:=J h2;have HN2:=J n2;obtain ⟨r0,r1⟩:=ae (Nxt.keep n2 HYF.out HGY.out).1;clear h2 n2) | (go_at_call 134;refine (HTU.out _ _ _ _ H2.out (Apt.next HV1.out HN2.out) (Apt.next HV2.out HN2.out)).mono ?_;rintro e w9 he;obtain ⟨k,rfl,hk⟩:=he.num;have HK:=J hk;clear he hk))
     go_ret
     rw [HT.out]
     exact (((HK.out.ahead HN2.out).ahead (Nxt.of_below HBF.out)).ahead (Nxt.of_below HBT.out)).ahead HN0.out
theorem bchoose_any {C:Ctx} {R P n:Nat} {w:World} {G:Nat → Prop} {s:Ty.T} {o:List Bool} (h:Wk C R P w G s o) (hs:s.sm n) (hn:n ≤ 400000000) (op a b:Nat) (c:Int) (A4:Option Addr) (l4 c4:Nat) :
  Calls Tryz.prog 110 #[.pointer (some ⟨R,0,none⟩),.agg #[.int .u8 ↑op,.int .u32 ↑a,.int .u32 ↑b,.int .i64 c,.slice A4 l4 c4]] w (aj C R P G o w (Bo.choose s)):=by
 have HX0:=J (heap_alloc_new w (.cells #[.int .u8 ↑op,.int .u32 ↑a,.int .u32 ↑b,.int .i64 c,.slice A4 l4 c4] 56))
 have HB0:Hid (Below w.heap.size w (w.alloc (.cells #[.int .u8 ↑op,.int .u32 ↑a,.int .u32 ↑b,.int .i64 c,.slice A4 l4 c4] 56))):=J bA
 have H0:=J (h.on HB0.out)
 have HN0:Hid (Nxt G w G (w.alloc (.cells #[.int .u8 ↑op,.int .u32 ↑a,.int .u32 ↑b,.int .i64 c,.slice A4 l4 c4] 56))):=J (Nxt.of_below HB0.out)
 have HGX:Hid (¬ G w.heap.size ∧ w.heap.size < (w.alloc (.cells #[.int .u8 ↑op,.int .u32 ↑a,.int .u32 ↑b,.int .i64 c,.slice A4 l4 c4] 56)).heap.size):=J ⟨fun hg=>Nat.lt_irrefl _ (h.out _ hg).2,by simp⟩
 clear h
 go_enter Tryz.func110,Tryz.ntmps110
 go_upto_region 1 with fail
 generalize (w.alloc (.cells #[.int .u8 ↑op,.int .u32 ↑a,.int .u32 ↑b,.int .i64 c,.slice A4 l4 c4] 56)) = w0 at HX0 HB0 H0 HN0 HGX ⊢
 obtain ⟨X,hX⟩:∃ X,w.heap.size = X:=⟨_,rfl⟩
 rw [hX] at HX0 HGX
 simp only [hX]
 clear hX HB0
 obtain ⟨z0,z1,z2,z3,z4⟩:=cells5 HX0.out
 obtain ⟨q0,q1,q2,q3,q4,q5⟩:=H0.out.cells
 have hwa:=H0.out.i32 hs (by omega)
 cases hw:s.wantA [127] with
 | false =>
  rw [hw] at hwa
  have HWA:=J hwa
  have HT:Hid (Bo.choose s = .error 100):=J (by unfold Bo.choose;rw [hw];rfl)
  clear hw hwa hs hn
  go_wp2_with (go_at_call 130;refine HWA.out.mono ?_;rintro e w1 ⟨rfl,G1,h1,n1⟩;have HN1:=J n1;clear h1 n1)
  go_ret
  exact aj.err HT.out (H0.out.below HN1.out)
 | true =>
  rw [hw] at hwa
  have HWA:=J hwa
  have HT:Hid (Bo.choose s = if (s.want [127]).popA.2 = true ∧ (s.want [127]).pop.popA.2 = true ∧ Ty.fit (s.want [127]).popA.1 (s.want [127]).pop.popA.1 = true
   then .ok ((s.want [127]).pop.pop.push [Bo.umax (s.want [127]).popA.1 (s.want [127]).pop.popA.1]) else .error 100):=J (by unfold Bo.choose;rw [hw];rfl)
  have hs1:=Ty.sm_want hs [127]
  have HPO1:=J (fun W G1 (hW:Wk C R P W G1 (s.want [127]) o)=>wk_pop hW hs1 (by omega))
  have HPO2:=J (fun W G1 (hW:Wk C R P W G1 (s.want [127]).pop o)=>wk_pop hW (Ty.sm_pop hs1) (by omega))
  have HPU:=J (fun x W G1 v (hW:Wk C R P W G1 (s.want [127]).pop.pop o) (hv:aa W (Apt W G1) [x] v)=>wk_push hW (Ty.sm_pop (Ty.sm_pop hs1)) (by omega) [x] v hv (by simp))
  generalize (s.want [127]).pop.pop = s3 at HT HPO2 HPU
  generalize (s.want [127]).pop.popA = pb at HT HPO2
  generalize (s.want [127]).pop = s2 at HPO1 HPO2
  generalize (s.want [127]).popA = pa at HT HPO1
  generalize s.want [127] = s1 at HWA HPO1
  clear hw hwa hs hn hs1
  obtain ⟨ua,oa⟩:=pa
  obtain ⟨ub,ob⟩:=pb
  dsimp only at HT HPO1 HPO2
  have hua:=ua.toNat_lt
  have hub:=ub.toNat_lt
  have hab:=@UInt8.toNat_inj ua ub
  have ha0:=@UInt8.toNat_inj ua 0
  have hb0:=@UInt8.toNat_inj ub 0
  rw [show (0:UInt8).toNat = 0 from rfl] at ha0 hb0
  have HFIT:Hid (Ty.fit ua ub = (decide (ua.toNat = ub.toNat) || (decide (ua.toNat = 0) || decide (ub.toNat = 0)))):=J (by
   unfold Ty.fit
   rw [Bool.eq_iff_iff]
   simp [hab,ha0,hb0])
  have HMX:Hid ((Bo.umax ua ub).toNat = if ua.toNat < ub.toNat then ub.toNat else ua.toNat):=J (by unfold Bo.umax;split <;> rfl)
  generalize Bo.umax ua ub = um at HT HMX
  generalize Ty.fit ua ub = ft at HT HFIT
  clear hab ha0 hb0
  generalize ua.toNat = na at HPO1 HFIT HMX hua
  generalize ub.toNat = nb at HPO2 HFIT HMX hub
  have tok1:True:=trivial
  go_upto_region 5 with (first | (go_at_call 130;refine HWA.out.mono ?_;rintro e w1 ⟨rfl,G1,h1,n1⟩;have H1:=J h1;have HN1:=J n1;obtain ⟨_,_,_,_,_,r5⟩:=h1.cells;clear h1 n1) | (clear tok1;go_at_call 135;refine (HPO1.out _ _ H1.out).mono ?_;rintro e w2 ⟨rfl,G2,h2,n2⟩;have H2:=J h2;have HN2:=J n2;obtain ⟨_,_,_,_,_,u5⟩:=h2.cells;clear h2 n2) | (go_at_call 135;refine (HPO2.out _ _ H2.out).mono ?_;rintro e w3 ⟨rfl,G3,h3,n3⟩;have H3:=J h3;have HN3:=J n3;obtain ⟨_,_,_,_,_,v5⟩:=h3.cells;clear h3 n3))
  cases oa with
  | false =>
   have HTE:Hid (Bo.choose s = .error 100):=J (HT.out.trans (if_neg (by simp)))
   go_wp2_with fail
   go_ret
   exact aj.err HTE.out (H2.out.below HN3.out)
  | true =>
   cases ob with
   | false =>
    have HTE:Hid (Bo.choose s = .error 100):=J (HT.out.trans (if_neg (by simp)))
    go_wp2_with fail
    go_ret
    exact aj.err HTE.out (H2.out.below HN3.out)
   | true =>
    have hfit:=HFIT.out
    have hmx:=HMX.out
    clear HFIT HMX
    by_cases hE:na = nb
    ·subst hE
     have HTE:Hid (Bo.choose s = .ok (s3.push [um])):=J (HT.out.trans (if_pos ⟨rfl,rfl,by rw [hfit];simp⟩))
     have HMX:Hid (um.toNat = na):=J (by rw [hmx];simp)
     clear hfit hmx HT
     obtain ⟨ql1,ql2,ql3⟩:=H3.out.litV um (na:Int) (by rw [HMX.out])
     have HPUQ:=J (HPU.out um _ _ _ ql1 ql3)
     have HNL:=J ql2
     clear ql1 ql2 ql3
     go_wp2_with (go_at_call 131;refine HPUQ.out.mono ?_;rintro e w4 ⟨rfl,G4,h4,n4⟩;have H4:=J h4;have HN4:=J n4;clear h4 n4)
     go_ret
     exact aj.ok HTE.out H4.out (HN0.out.trans (HN1.out.trans (HN2.out.trans (HN3.out.trans (HNL.out.trans HN4.out)))))
    ·have hEi:((na:Int) == (nb:Int)) = false:=nB (by omega)
     have hEj:¬ ((na:Int) = (nb:Int)):=by omega
     have hEk:((na:Int) != (nb:Int)) = true:=by rw [bne,hEi];rfl
     by_cases hA0:na = 0
     ·subst hA0
      have hpos:(0:Int) < (nb:Int):=by omega
      have HTE:Hid (Bo.choose s = .ok (s3.push [um])):=J (HT.out.trans (if_pos ⟨rfl,rfl,by rw [hfit];simp⟩))
      have HMX:Hid (um.toNat = nb):=J (by rw [hmx,if_pos (by omega)])
      clear hfit hmx HT
      obtain ⟨ql1,ql2,ql3⟩:=H3.out.litV um (nb:Int) (by rw [HMX.out])
      have HPUQ:=J (HPU.out um _ _ _ ql1 ql3)
      have HNL:=J ql2
      clear ql1 ql2 ql3
      go_wp2_with (go_at_call 131;refine HPUQ.out.mono ?_;rintro e w4 ⟨rfl,G4,h4,n4⟩;have H4:=J h4;have HN4:=J n4;clear h4 n4)
      go_ret
      exact aj.ok HTE.out H4.out (HN0.out.trans (HN1.out.trans (HN2.out.trans (HN3.out.trans (HNL.out.trans HN4.out)))))
     ·have hA0i:((na:Int) == 0) = false:=nB (by omega)
      have hA0j:¬ ((na:Int) = 0):=by omega
      have hA0k:((na:Int) != 0) = true:=by rw [bne,hA0i];rfl
      by_cases hB0:nb = 0
      ·subst hB0
       have hpos:(0:Int) < (na:Int):=by omega
       have HTE:Hid (Bo.choose s = .ok (s3.push [um])):=J (HT.out.trans (if_pos ⟨rfl,rfl,by rw [hfit];simp⟩))
       have HMX:Hid (um.toNat = na):=J (by rw [hmx,if_neg (by omega)])
       clear hfit hmx HT
       obtain ⟨ql1,ql2,ql3⟩:=H3.out.litV um (na:Int) (by rw [HMX.out])
       have HPUQ:=J (HPU.out um _ _ _ ql1 ql3)
       have HNL:=J ql2
       clear ql1 ql2 ql3
       go_wp2_with (go_at_call 131;refine HPUQ.out.mono ?_;rintro e w4 ⟨rfl,G4,h4,n4⟩;have H4:=J h4;have HN4:=J n4;clear h4 n4)
       go_ret
       exact aj.ok HTE.out H4.out (HN0.out.trans (HN1.out.trans (HN2.out.trans (HN3.out.trans (HNL.out.trans HN4.out)))))
      ·have hB0i:((nb:Int) == 0) = false:=nB (by omega)
       have hB0j:¬ ((nb:Int) = 0):=by omega
       have hB0k:((nb:Int) != 0) = true:=by rw [bne,hB0i];rfl
       have HTE:Hid (Bo.choose s = .error 100):=J (HT.out.trans (if_neg (by rw [hfit];simp;omega)))
       clear hfit hmx
       go_wp2_with fail
       go_ret
       exact aj.err HTE.out (H2.out.below HN3.out)
end Go.Proofs.YtmpelmihdpomjaaGreat
