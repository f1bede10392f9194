/-
  Layer 11's program: codes, asked one by one. (gen/valid/step5.py)
-/
import Derived.Test.YtmpelmihdpomjaaGreatSo01
import Derived.Test.YtmpelmihdpomjaaGreatSo41
import Derived.Deep.CutRange
import Derived.Carry
set_option maxRecDepth 100000
set_option maxHeartbeats 4000000
namespace Go.Proofs.YtmpelmihdpomjaaGreat
open Go.RowKit Ins Bin Sp
theorem chkE_val (r:Except Nat Nat):chkE r = .returned (.tuple #[.int .i64 (Va.valR r:Int),.int .i64 (Va.numR r:Int)]):=by
 cases r <;> rfl
theorem cd_at {w:World} {S:Nat → Prop} {A:Option Addr} {xs:List Cd} {k:Nat} {x:Cd} (h:HasL w S A xs) (hx:xs[k]? = some x):∃ g o A3 c3 A4 c4,A = some ⟨g,o,none⟩ ∧ g < w.heap.size ∧ w.cell? ⟨g,o + k * 2,none⟩ = some (.slice A3 x.locals.length c3) ∧ w.cell? ⟨g,o + k * 2 + 1,none⟩ = some (.slice A4 x.body.length c4) ∧ aa w S x.locals (.slice A3 x.locals.length c3) ∧ aa w S x.body (.slice A4 x.body.length c4):=by
 obtain ⟨g,o,cs,h1,_,h3,⟨u,v,rfl,h4,h5⟩,h6⟩:=h k x hx
 obtain ⟨A3,c3,rfl,_⟩:=id h4
 obtain ⟨A4,c4,rfl,_⟩:=id h5
 exact ⟨g,o,A3,c3,A4,c4,h1,h3,h6 0 _ rfl,h6 1 _ rfl,h4,h5⟩
section
variable {C:VC} {w w':World} {ns:List (List UInt8)} {hs:List Nat}
theorem vcode_any (hC:C.Good) (h:VSt C w ns hs) (hl:hs.length ≤ 2000000) (i:Nat) (x:Cd) (hx:C.m.codes[i]? = some x) (f:FT) (s:Nat) (hs0:s = imported C.m 0 + i) (hf:func C.m s = some f) (hsl:s < 4294967296) (hK:∀ t ∈ C.m.types,t.results.length ≤ 2) :
  Calls Tryz.prog 36 #[.pointer (some ⟨C.P,0,none⟩),.int .i64 ↑i] w fun e w'=>e = .returned (.int .i64 ((Va.numR (Bo.chk (Bo.envOf C.m f.params f.results x.locals) (Bo.locB x.locals) x.body):Nat):Int)) ∧ VSt C w' ns (hs ++ [Va.valR (Bo.chk (Bo.envOf C.m f.params f.results x.locals) (Bo.locB x.locals) x.body)]) ∧ w'.heap[C.E]? = w.heap[C.E]?:=by
 obtain ⟨hv,hin,_⟩:=h.vin hC
 have hlx:=hC.fit.codes.1
 obtain ⟨hlc,hfx1,hfx2⟩:=hC.fit.codes.2 x (List.mem_of_getElem? hx)
 have hi:=(List.getElem?_eq_some_iff.1 hx).1
 have hft:∀ t ∈ funs C.m,t < 4294967296:=dq hin.rep
 have hfm:f ∈ C.m.types:=by
  unfold func at hf
  cases hq:(funs C.m)[s]? with
  | none=>rw [hq] at hf;cases hf
  | some t=>rw [hq] at hf;exact List.mem_of_getElem? hf
 have hfe:=hC.fit.lots.each f hfm
 have hK2:=hK f hfm
 obtain ⟨A,c,hA,hc,_,_,hL⟩:=hin.rep.codes
 obtain ⟨g,o,A3,c3,A4,c4,rfl,hg,k0,k1,hv3,hv4⟩:=cd_at hL hx
 have HCK:=J (fun W u1 u2 (hb:Below w.heap.size w W) (h1:aa W (· < W.heap.size) f.params u1) (h2:aa W (· < W.heap.size) f.results u2) =>
  check_lots C.m C.sp f.params f.results x.locals x.body u1 u2 (.slice A3 x.locals.length c3) (.slice A4 x.body.length c4) W (hin.grow hb).space hC.fit.lots hft h1 h2 (hv3.grow hb) (hv4.grow hb) hfe.1 hfe.2 hlc 2 hK hK2 (by decide) (by decide) (by have:=hfx1;omega) hfx1 hfx2)
 have HIM:=J (fun W (hb:Below w.heap.size w W)=>bq (some ⟨C.sp,0,none⟩) C.m 0 (by decide) W (hin.grow hb).recv (Lots.some hC.fit.lots))
 have HFN:Hid (∀ W,Below w.heap.size w W → Calls Tryz.prog 66 #[.pointer (some ⟨C.sp,0,none⟩),.int .u32 ↑s] W fun e w'=>∃ A1 c1 A2 c2,e = .returned (.tuple #[.agg #[.slice A1 f.params.length c1,.slice A2 f.results.length c2],.bool true]) ∧ aa w' (W.heap.size ≤ ·) f.params (.slice A1 f.params.length c1) ∧ aa w' (W.heap.size ≤ ·) f.results (.slice A2 f.results.length c2) ∧ Below W.heap.size W w'):=J (fun W hb=>by
  have h:=cX (some ⟨C.sp,0,none⟩) C.m s W (hin.grow hb).recv (Lots.some hC.fit.lots) hsl hft
  rw [hf] at h
  exact h.mono fun e w' he=>he.yes)
 have HCC:Hid (∀ W,Below w.heap.size w W → W.cell? ⟨C.P,12,none⟩ = some (.pointer (some ⟨C.sp,0,none⟩)) ∧ W.cell? ⟨C.P,10,none⟩ = some (.slice (some ⟨g,o,none⟩) C.m.codes.length c) ∧ W.cell? ⟨g,o + i * 2,none⟩ = some (.slice A3 x.locals.length c3) ∧ W.cell? ⟨g,o + i * 2 + 1,none⟩ = some (.slice A4 x.body.length c4)):=J (fun W hb =>
  ⟨cell15 (hin.grow hb).cells 12 _ rfl,cell15 (hin.grow hb).cells 10 _ (congrArg some hA),(hb.cell (p:=⟨g,o + i * 2,none⟩) hg).trans k0,(hb.cell (p:=⟨g,o + i * 2 + 1,none⟩) hg).trans k1⟩)
 have HST:=J (fun W (hb:Below w.heap.size w W)=>h.on hC hb)
 have HEE:Hid (∀ W,Below w.heap.size w W → W.heap[C.E]? = w.heap[C.E]?):=J (fun W hb=>hb.block _ h.top)
 have HGD:=J hC
 have HLL:=J hl
 have hn0:imported C.m 0 ≤ 2100000:=Nat.le_trans (by unfold count;omega) (ed hC.fit 0)
 obtain ⟨n0,e0⟩:∃ n,imported C.m 0 = n:=⟨_,rfl⟩
 rw [e0] at hs0 HIM hn0
 have hwA:IntKind.i64.wrap (s:Int) = (s:Int):=IntWalk.i64_in _ (by omega)
 have hwB:IntKind.u32.wrap (s:Int) = (s:Int):=IntWalk.u32_in _ (by omega)
 have hwC:(n0:Int) + (i:Int) = (s:Int):=by omega
 clear h hC hL k0 k1 hv3 hv4 hA hx hl hf hfm hft hs0 hsl hn0 e0 hfx1 hfx2 hlc hfe hK2 hK hin
 generalize Bo.chk (Bo.envOf C.m f.params f.results x.locals) (Bo.locB x.locals) x.body = r at *
 have HCV:=J (chkE_val r)
 obtain ⟨rh,hrh⟩:∃ n,Va.valR r = n:=⟨_,rfl⟩
 obtain ⟨rn,hrn⟩:∃ n,Va.numR r = n:=⟨_,rfl⟩
 rw [hrh,hrn] at HCV ⊢
 clear hrh hrn
 generalize chkE r = re at HCK HCV
 obtain rfl:=HCV.out
 clear HCV
 obtain ⟨n,e⟩:∃ n,C.m.codes.length = n:=⟨_,rfl⟩
 rw [e] at HCC hi hlx hc
 clear e
 have hii:(i:Int) < (n:Int):=by omega
 generalize f.params.length = n1 at *
 generalize f.results.length = n2 at *
 generalize x.locals.length = n3 at *
 generalize x.body.length = n4 at *
 obtain ⟨w0,hw0⟩:∃ w0,w0 = w:=⟨_,rfl⟩
 subst hw0
 have H12:=J (fun W hb=>(HCC.out W hb).1)
 go_enter Tryz.func36,Tryz.ntmps36
 go_upto_region 1 with fail
 go_cut [5] from 6 to 24 (fun s wx=>∃ Y A1 c1 A2 c2,s = .pointer (some ⟨Y,0,none⟩) ∧ Hid (Below w0.heap.size w0 wx) ∧ Hid (wx.heap[Y]? = some (.cells #[.slice A1 n1 c1,.slice A2 n2 c2] 29 (0,0))) ∧ Hid (aa wx (· < wx.heap.size) f.params (.slice A1 n1 c1)) ∧ Hid (aa wx (· < wx.heap.size) f.results (.slice A2 n2 c2)))
 case first =>
  as_aux_lemma =>
   refine wp_region_held_drew (S:=fun W'=>Below w0.heap.size w0 W') (by kernel_rfl) (Below.drew (Below.refl _ _)) (fun hHeld=>?_)
   refine dV 0 rfl (by intro wy hSw;have q0:=H12.out wy hSw;go_simp;try with_reducible rfl) ?_
   refine dV 1 rfl (by intro wy hSw;have q0:=H12.out wy hSw;go_simp;try with_reducible rfl) ?_
   refine dV 2 rfl (by intro wy hSw;have q0:=H12.out wy hSw;go_simp;try with_reducible rfl) ?_
   refine dV 3 rfl (by intro wy hSw;have q0:=H12.out wy hSw;go_simp;try with_reducible rfl) ?_
   refine dV 4 rfl (by intro wy hSw;have q0:=H12.out wy hSw;go_simp;try with_reducible rfl) ?_
   refine dV 5 rfl (by intro wy hSw;have q0:=H12.out wy hSw;go_simp;try with_reducible rfl) ?_
   refine dV 6 rfl (by intro wy hSw;have q0:=H12.out wy hSw;go_simp;try with_reducible rfl) ?_
   refine dV 7 rfl (by intro wy hSw;have q0:=H12.out wy hSw;go_simp;try with_reducible rfl) ?_
   refine dV 9 rfl (by intro wy hSw;have q0:=H12.out wy hSw;go_simp;try with_reducible rfl) ?_
   refine ai 8 16 rfl rfl (by kernel_rfl) (fun K hK=>?_) (fun K hK=>?_)
   ·try (rw [if_pos];case hc=>rfl)
    go_simp
    refine (HIM.out _ hHeld).mono ?_
    rintro e w5 ⟨rfl,hb⟩
    have hH:Below w0.heap.size w0 w5:=hHeld.trans (hb.mono hHeld.size)
    clear hb
    go_wp2_with fail
    refine hK.out _ _ hH (fun hHeld2=>?_)
    clear hH
    clear hK K hHeld
    have hHeld:=hHeld2
    clear hHeld2
    refine dW 10 rfl ?_
    refine dW 11 rfl ?_
    refine ai 12 16 rfl rfl (by kernel_rfl) (fun K hK=>?_) (fun K hK=>?_)
    ·try (rw [if_pos];case hc=>rfl)
     go_simp
     refine (HFN.out _ hHeld).mono ?_
     rintro e w1 he
     obtain ⟨A1,c1,A2,c2,rfl,s1,s2,hb⟩:=he
     have hH:Below w0.heap.size w0 w1:=hHeld.trans (hb.mono hHeld.size)
     have hz1:w0.heap.size ≤ w1.heap.size:=hH.size
     have HS1:Hid (aa w1 (fun k=>k ≠ w1.heap.size) f.params (.slice A1 n1 c1)):=J (s1.more (fun k hk h=>by omega))
     have HS2:Hid (aa w1 (fun k=>k ≠ w1.heap.size) f.results (.slice A2 n2 c2)):=J (s2.more (fun k hk h=>by omega))
     clear s1 s2
     go_wp2_with fail
     refine hK.out _ _ hH fun hHeld=>?_
     clear hK K
     refine dW 13 rfl ?_
     refine dW 14 rfl ?_
     refine dW 15 rfl ?_
     have HB1:Hid (Below w0.heap.size w0 (w1.alloc (.cells #[.slice none 0 0,.slice none 0 0] 29))):=J (hHeld.alloc hHeld.size _)
     have HZ1:=J (heap_alloc_new w1 (.cells #[.slice none 0 0,.slice none 0 0] 29))
     have HY1:Hid (w0.heap.size ≤ w1.heap.size):=J hz1
     refine dA 16 rfl fun K hK=>?_
     go_simp
     refine hK.out _ _ HB1.out fun hHeld=>?_
     clear hK K
     refine dA 17 rfl fun K hK=>?_
     refine wp_store_row 29 (.tmp 5) (.tmp 23) rfl w1.heap.size #[.slice A1 n1 c1,.slice A2 n2 c2] rfl rfl 29 #[.slice none 0 0,.slice none 0 0] HZ1.out ak rfl (by simp [Value.oneCell']) ?_
     refine hK.out _ _ (ab HB1.out HY1.out _) fun hHeld=>?_
     clear hK K
     refine dW 18 rfl ?_
     refine dN ?_
     have HBF:Hid (Below w0.heap.size w0 ((w1.alloc (.cells #[.slice none 0 0,.slice none 0 0] 29)).setRow w1.heap.size #[.slice A1 n1 c1,.slice A2 n2 c2])):=J hHeld
     have HYH:Hid (((w1.alloc (.cells #[.slice none 0 0,.slice none 0 0] 29)).setRow w1.heap.size #[.slice A1 n1 c1,.slice A2 n2 c2]).heap[w1.heap.size]? = some (.cells #[.slice A1 n1 c1,.slice A2 n2 c2] 29 (0,0))):=J (setRow_heap _ _ #[.slice none 0 0,.slice none 0 0] #[.slice A1 n1 c1,.slice A2 n2 c2] _ _ HZ1.out)
     have HV1:=J ((av (HS1.out.mod (T:=fun _=>False) (Mod.of_below bA) (fun _ _ _ h=>h)) #[.slice A1 n1 c1,.slice A2 n2 c2] (fun k _ hs=>hs)).more (S':=(· < ((w1.alloc (.cells #[.slice none 0 0,.slice none 0 0] 29)).setRow w1.heap.size #[.slice A1 n1 c1,.slice A2 n2 c2]).heap.size)) (fun k hk _=>hk))
     have HV2:=J ((av (HS2.out.mod (T:=fun _=>False) (Mod.of_below bA) (fun _ _ _ h=>h)) #[.slice A1 n1 c1,.slice A2 n2 c2] (fun k _ hs=>hs)).more (S':=(· < ((w1.alloc (.cells #[.slice none 0 0,.slice none 0 0] 29)).setRow w1.heap.size #[.slice A1 n1 c1,.slice A2 n2 c2]).heap.size)) (fun k hk _=>hk))
     generalize (w1.alloc (.cells #[.slice none 0 0,.slice none 0 0] 29)).setRow w1.heap.size #[.slice A1 n1 c1,.slice A2 n2 c2] = wf at HBF HYH HV1 HV2 ⊢
     obtain ⟨Y,hY⟩:∃ Y,w1.heap.size = Y:=⟨_,rfl⟩
     rw [hY] at HYH
     simp only [hY]
     clear hY hHeld
     go_wp2_with fail
     go_meet
     case rel=>exact ⟨Y,A1,c1,A2,c2,rfl,HBF,HYH,HV1,HV2⟩
    ·try (rw [if_pos];case hc=>rfl)
     go_simp
     have hB0:Below w0.heap.size w0 (w5.alloc (.cells #[.slice none 0 0,.slice none 0 0] 29)):=hHeld.alloc hHeld.size _
     have hZ0:=heap_alloc_new w5 (.cells #[.slice none 0 0,.slice none 0 0] 29)
     have hl0:w5.heap.size < (w5.alloc (.cells #[.slice none 0 0,.slice none 0 0] 29)).heap.size:=by simp
     have hlw:w0.heap.size ≤ w5.heap.size:=hHeld.size
     refine hK.out _ _ hB0 fun hHeld=>?_
     clear hK K
     refine dA 12 rfl fun K hK=>?_
     go_simp
     refine (HFN.out _ hB0).mono ?_
     rintro e w1 he
     obtain ⟨A1,c1,A2,c2,rfl,s1,s2,hb⟩:=he
     have hH:Below w0.heap.size w0 w1:=hB0.trans (hb.mono hB0.size)
     have HB1:Hid (Below w0.heap.size w0 w1):=J hH
     have HZ1:Hid (w1.heap[w5.heap.size]? = some (.cells #[.slice none 0 0,.slice none 0 0] 29 (0,0))):=J ((hb.block _ hl0).trans hZ0)
     have HY1:Hid (w0.heap.size ≤ w5.heap.size):=J hlw
     have HS1:Hid (aa w1 (fun k=>k ≠ w5.heap.size) f.params (.slice A1 n1 c1)):=J (s1.more (fun k hk h=>by have h':(w5.alloc (.cells #[.slice none 0 0,.slice none 0 0] 29)).heap.size ≤ k:=h;simp at h';omega))
     have HS2:Hid (aa w1 (fun k=>k ≠ w5.heap.size) f.results (.slice A2 n2 c2)):=J (s2.more (fun k hk h=>by have h':(w5.alloc (.cells #[.slice none 0 0,.slice none 0 0] 29)).heap.size ≤ k:=h;simp at h';omega))
     clear s1 s2
     go_wp2_with fail
     refine hK.out _ _ hH fun hHeld=>?_
     clear hK K
     refine dW 13 rfl ?_
     refine dW 14 rfl ?_
     refine dW 15 rfl ?_
     refine dA 17 rfl fun K hK=>?_
     refine wp_store_row 29 (.tmp 5) (.tmp 23) rfl w5.heap.size #[.slice A1 n1 c1,.slice A2 n2 c2] rfl rfl 29 #[.slice none 0 0,.slice none 0 0] HZ1.out ak rfl (by simp [Value.oneCell']) ?_
     refine hK.out _ _ (ab HB1.out HY1.out _) fun hHeld=>?_
     clear hK K
     refine dW 18 rfl ?_
     refine dN ?_
     have HBF:Hid (Below w0.heap.size w0 (w1.setRow w5.heap.size #[.slice A1 n1 c1,.slice A2 n2 c2])):=J hHeld
     have HYH:Hid ((w1.setRow w5.heap.size #[.slice A1 n1 c1,.slice A2 n2 c2]).heap[w5.heap.size]? = some (.cells #[.slice A1 n1 c1,.slice A2 n2 c2] 29 (0,0))):=J (setRow_heap _ _ #[.slice none 0 0,.slice none 0 0] #[.slice A1 n1 c1,.slice A2 n2 c2] _ _ HZ1.out)
     have HV1:=J ((av HS1.out #[.slice A1 n1 c1,.slice A2 n2 c2] (fun k _ hs=>hs)).more (S':=(· < (w1.setRow w5.heap.size #[.slice A1 n1 c1,.slice A2 n2 c2]).heap.size)) (fun k hk _=>hk))
     have HV2:=J ((av HS2.out #[.slice A1 n1 c1,.slice A2 n2 c2] (fun k _ hs=>hs)).more (S':=(· < (w1.setRow w5.heap.size #[.slice A1 n1 c1,.slice A2 n2 c2]).heap.size)) (fun k hk _=>hk))
     generalize w1.setRow w5.heap.size #[.slice A1 n1 c1,.slice A2 n2 c2] = wf at HBF HYH HV1 HV2 ⊢
     obtain ⟨Y,hY⟩:∃ Y,w5.heap.size = Y:=⟨_,rfl⟩
     rw [hY] at HYH
     simp only [hY]
     clear hY hHeld
     go_wp2_with fail
     go_meet
     case rel=>exact ⟨Y,A1,c1,A2,c2,rfl,HBF,HYH,HV1,HV2⟩
   ·try (rw [if_pos];case hc=>rfl)
    go_simp
    have hB0:Below w0.heap.size w0 (w0.drew.alloc (.cells #[.slice none 0 0,.slice none 0 0] 29)):=hHeld.alloc hHeld.size _
    have hZ0:=heap_alloc_new w0.drew (.cells #[.slice none 0 0,.slice none 0 0] 29)
    have hl0:w0.heap.size < (w0.drew.alloc (.cells #[.slice none 0 0,.slice none 0 0] 29)).heap.size:=by simp
    refine hK.out _ _ hB0 fun hHeld=>?_
    clear hK K
    refine dA 8 rfl fun K hK=>?_
    go_simp
    refine (HIM.out _ hB0).mono ?_
    rintro e w5 ⟨rfl,hb⟩
    have hH:Below w0.heap.size w0 w5:=hB0.trans (hb.mono hB0.size)
    have HZ5:Hid (w5.heap[w0.heap.size]? = some (.cells #[.slice none 0 0,.slice none 0 0] 29 (0,0))):=J ((hb.block _ hl0).trans hZ0)
    have HL5:Hid (w0.heap.size < w5.heap.size):=J (Nat.lt_of_lt_of_le hl0 hb.size)
    clear hb
    go_wp2_with fail
    refine hK.out _ _ hH (fun hHeld2=>?_)
    clear hH hl0 hZ0 hB0
    clear hK K hHeld
    have hHeld:=hHeld2
    clear hHeld2
    refine dW 10 rfl ?_
    refine dW 11 rfl ?_
    refine dA 12 rfl fun K hK=>?_
    go_simp
    refine (HFN.out _ hHeld).mono ?_
    rintro e w1 he
    obtain ⟨A1,c1,A2,c2,rfl,s1,s2,hb⟩:=he
    have hH:Below w0.heap.size w0 w1:=hHeld.trans (hb.mono hHeld.size)
    have HB1:Hid (Below w0.heap.size w0 w1):=J hH
    have HZ1:Hid (w1.heap[w0.heap.size]? = some (.cells #[.slice none 0 0,.slice none 0 0] 29 (0,0))):=J ((hb.block _ HL5.out).trans HZ5.out)
    have HY1:Hid (w0.heap.size ≤ w0.heap.size):=J (Nat.le_refl _)
    have HS1:Hid (aa w1 (fun k=>k ≠ w0.heap.size) f.params (.slice A1 n1 c1)):=J (s1.more (fun k hk h=>by have h':w5.heap.size ≤ k:=h;have:=HL5.out;omega))
    have HS2:Hid (aa w1 (fun k=>k ≠ w0.heap.size) f.results (.slice A2 n2 c2)):=J (s2.more (fun k hk h=>by have h':w5.heap.size ≤ k:=h;have:=HL5.out;omega))
    clear s1 s2
    go_wp2_with fail
    refine hK.out _ _ hH fun hHeld=>?_
    clear hK K
    refine dW 13 rfl ?_
    refine dW 14 rfl ?_
    refine dW 15 rfl ?_
    refine dA 17 rfl fun K hK=>?_
    refine wp_store_row 29 (.tmp 5) (.tmp 23) rfl w0.heap.size #[.slice A1 n1 c1,.slice A2 n2 c2] rfl rfl 29 #[.slice none 0 0,.slice none 0 0] HZ1.out ak rfl (by simp [Value.oneCell']) ?_
    refine hK.out _ _ (ab HB1.out HY1.out _) fun hHeld=>?_
    clear hK K
    refine dW 18 rfl ?_
    refine dN ?_
    have HBF:Hid (Below w0.heap.size w0 (w1.setRow w0.heap.size #[.slice A1 n1 c1,.slice A2 n2 c2])):=J hHeld
    have HYH:Hid ((w1.setRow w0.heap.size #[.slice A1 n1 c1,.slice A2 n2 c2]).heap[w0.heap.size]? = some (.cells #[.slice A1 n1 c1,.slice A2 n2 c2] 29 (0,0))):=J (setRow_heap _ _ #[.slice none 0 0,.slice none 0 0] #[.slice A1 n1 c1,.slice A2 n2 c2] _ _ HZ1.out)
    have HV1:=J ((av HS1.out #[.slice A1 n1 c1,.slice A2 n2 c2] (fun k _ hs=>hs)).more (S':=(· < (w1.setRow w0.heap.size #[.slice A1 n1 c1,.slice A2 n2 c2]).heap.size)) (fun k hk _=>hk))
    have HV2:=J ((av HS2.out #[.slice A1 n1 c1,.slice A2 n2 c2] (fun k _ hs=>hs)).more (S':=(· < (w1.setRow w0.heap.size #[.slice A1 n1 c1,.slice A2 n2 c2]).heap.size)) (fun k hk _=>hk))
    generalize w1.setRow w0.heap.size #[.slice A1 n1 c1,.slice A2 n2 c2] = wf at HBF HYH HV1 HV2 ⊢
    obtain ⟨Y,hY⟩:∃ Y,w0.heap.size = Y:=⟨_,rfl⟩
    rw [hY] at HYH
    simp only [hY]
    clear hY hHeld
    go_wp2_with fail
    go_meet
    case rel=>exact ⟨Y,A1,c1,A2,c2,rfl,HBF,HYH,HV1,HV2⟩
 case rest =>
 obtain ⟨Y,A1,c1,A2,c2,rfl,HBF,HYH,HV1,HV2⟩:=hcut
 clear HIM HFN hwA hwB hwC
 generalize wc = wf at *
 go_upto_region 2 with fail
 have HCF:=J (fun W (hb:Below wf.heap.size wf W)=>And.intro (HCC.out W (HBF.out.trans (hb.mono HBF.out.size))) (ae ((hb.block Y (gL HYH.out)).trans HYH.out)))
 have HCK0:=J (fun W (hb:Below wf.heap.size wf W)=>HCK.out W (.slice A1 n1 c1) (.slice A2 n2 c2) (HBF.out.trans (hb.mono HBF.out.size)) (HV1.out.grow hb) (HV2.out.grow hb))
 refine wp_region_held_drew (S:=fun W'=>Below wf.heap.size wf W') (by kernel_rfl) (Below.drew (Below.refl _ _)) (fun hHeld=>?_)
 refine do1 0 rfl ?_
 refine do1 1 rfl ?_
 refine do1 2 rfl ?_
 refine do1 3 rfl ?_
 refine do1 4 rfl ?_
 refine do1 5 rfl ?_
 refine do1 6 rfl ?_
 refine do1 7 rfl ?_
 refine do1 8 rfl ?_
 refine do1 9 rfl ?_
 refine do1 10 rfl ?_
 refine do1 11 rfl ?_
 refine do1 12 rfl ?_
 refine dA 13 rfl fun K hK=>?_
 go_simp
 refine (HCK0.out _ hHeld).mono ?_
 rintro e w6 ⟨rfl,hb⟩
 have hH:Below wf.heap.size wf w6:=hHeld.trans (hb.mono hHeld.size)
 clear hb
 go_wp2_with fail
 refine hK.out _ _ hH (fun hHeld2=>?_)
 clear hH
 clear hK K hHeld
 have hHeld:=hHeld2
 clear hHeld2
 refine dW 14 rfl ?_
 refine dW 15 rfl ?_
 refine dW 16 rfl ?_
 refine dW 17 rfl ?_
 refine dW 18 rfl ?_
 refine dN ?_
 have HB6:=J (HBF.out.trans (hHeld.mono HBF.out.size))
 clear hHeld HCF HCK0 HCK HV1 HV2
 have HS6:=J (HST.out _ HB6.out)
 have HE6:=J (HEE.out _ HB6.out)
 obtain ⟨hv6,hcell6,hown6⟩:=HS6.out.all
 obtain ⟨A9,c9,hv6e,_,_⟩:=hown6.form
 obtain ⟨v7,w7,hrun,hO7,hM7,_⟩:=append1L vaInts vaInfo (by decide) rfl (by decide) w6 (C.E + 1) (fun _=>False) hv6 (hs.map Va.Ht.mk) (⟨rh⟩:Va.Ht) [.int .i64 ↑rh] hown6 (by have:=HLL.out;simp;omega) (by have:=HS6.out.top;omega) rfl (by simp [Value.oneCell']) (fun _ _ h=>h.elim)
 obtain ⟨A8,c8,hv7e,_,_⟩:=hO7.form
 obtain ⟨hP7,hS8,hE8⟩:=HS6.out.height HGD.out hcell6 hown6 hO7 hM7
 have HRUN:=J hrun
 have HS8:=J hS8
 have HE8:=J (hE8.trans HE6.out)
 have x14:=cell15 hcell6 14 _ rfl
 have y14:=cell15 hP7 14 _ rfl
 have f14:=frozen_of_row w7 C.P 14 _ _ hP7
 clear hrun hO7 hM7 hS8 hE8 hown6 hcell6 hP7
 obtain ⟨l6,e6⟩:∃ n,(hs.map Va.Ht.mk).length = n:=⟨_,rfl⟩
 obtain ⟨l7,e7⟩:∃ n,(hs.map Va.Ht.mk ++ [(⟨rh⟩:Va.Ht)]).length = n:=⟨_,rfl⟩
 rw [e6] at hv6e
 rw [e7] at hv7e
 clear e6 e7
 subst hv6e hv7e
 go_wp2_with (at_builtin;refine ag rfl (.tmp 46) (.tmp 48) 71 rfl _ _ _ w7 rfl rfl HRUN.out ?_)
 go_ret
 exact ⟨rfl,HS8.out,HE8.out⟩
end
end Go.Proofs.YtmpelmihdpomjaaGreat
namespace Va
open Bin Sp Ins
theorem upTo_one (A:Nat → Nat):upTo A 0 1 = A 0:=by
 unfold upTo upTo orE
 split
 ·next h=>exact h.symm
 ·rfl
def atL {α:Type} (f:α → Nat) (xs:List α) (i:Nat):Nat:=match xs[i]? with
 | some x=>f x
 | none=>0
theorem atL_some {α:Type} {f:α → Nat} {xs:List α} {i:Nat} {x:α} (h:xs[i]? = some x):atL f xs i = f x:=by
 unfold atL
 rw [h]
theorem upTo_list {α:Type} (f:α → Nat) (xs:List α):upTo (atL f xs) 0 xs.length = first f xs :=
 ew f _ xs 0 (fun i x hx=>by rw [Nat.zero_add];exact atL_some hx)
def numAt (B:Nat → Except Nat Nat) (i:Nat):Nat:=numR (B i)
def expAt (m:M) (i:Nat):Nat:=match m.exports[i]? with
 | some x=>expA m ((m.exports.take i).map (·.name)) x
 | none=>0
theorem upTo_exp {m:M}:upTo (expAt m) 0 m.exports.length = expE m [] m.exports:=by
 refine eN _ _ _ 0 (fun i x hx=>?_)
 unfold expAt
 rw [Nat.zero_add]
 simp only [hx,List.nil_append]
def codeAt (m:M) (i:Nat):Except Nat Nat:=match m.funcs[i]?,m.codes[i]? with
 | some t,some c=>codeR m t c
 | _,_=>.ok 0
def codesE (m:M):Nat:=match codesR m m.funcs m.codes with
 | .error e=>e
 | .ok _=>0
theorem d9 {m:M} (B:Nat → Except Nat Nat) (hz:∀ i e,B i = .error e → e ≠ 0):∀ (ts:List Nat) (cs:List Cd) (j:Nat),ts.length = cs.length → (∀ i t c,ts[i]? = some t → cs[i]? = some c → B (j + i) = codeR m t c) →
  (match codesR m ts cs with | .error e=>e | .ok _=>0) = upTo (numAt B) j cs.length ∧ (upTo (numAt B) j cs.length = 0 → codesR m ts cs = .ok ((List.range cs.length).map fun i=>valR (B (j + i))))
 | [],[],j,_,_=>⟨rfl,fun _=>rfl⟩
 | [],_ :: _,_,h,_=>by simp at h
 | _ :: _,[],_,h,_=>by simp at h
 | t :: ts,c :: cs,j,h,hB=>by
  have h0:=hB 0 t c rfl rfl
  rw [Nat.add_zero] at h0
  obtain ⟨i1,i2⟩:=d9 B hz ts cs (j + 1) (by simpa using h) (fun i t c ht hc=>by
   have:=hB (i + 1) t c ht hc
   rw [← this];congr 1;omega)
  rw [codesR,List.length_cons,upTo,← h0]
  cases hb:B j with
  | error e =>
   have e0:numAt B j = e:=by unfold numAt;rw [hb];rfl
   rw [e0,orE_ne (hz j e hb)]
   exact ⟨rfl,fun hx=>absurd hx (hz j e hb)⟩
  | ok v =>
   have e0:numAt B j = 0:=by unfold numAt;rw [hb];rfl
   rw [e0,orE_at rfl]
   refine ⟨?_,fun hx=>?_⟩
   ·rw [← i1]
    cases codesR m ts cs <;> rfl
   ·rw [i2 hx]
    simp only [List.range_succ_eq_map,List.map_cons,List.map_map,Nat.add_zero,hb,valR]
    congr 2
    refine List.map_congr_left (fun i _=>?_)
    simp only [Function.comp]
    congr 2
    omega
theorem codeAt_err {m:M} {i e:Nat} (h:codeAt m i = .error e):e ≠ 0:=by
 unfold codeAt at h
 split at h
 ·unfold codeR at h
  exact Bo.chk_err h
 ·cases h
theorem codesE_upTo {m:M} (hl:m.funcs.length = m.codes.length):codesE m = upTo (numAt (codeAt m)) 0 m.codes.length ∧ (codesE m = 0 → codesR m m.funcs m.codes = .ok ((List.range m.codes.length).map fun i=>valR (codeAt m i))):=by
 obtain ⟨h1,h2⟩:=d9 (m:=m) (codeAt m) (fun i e=>codeAt_err) m.funcs m.codes 0 hl (fun i t c ht hc=>by
  unfold codeAt
  rw [Nat.zero_add,ht,hc])
 refine ⟨h1,fun h=>?_⟩
 have:=h2 (by rw [← h1];exact h)
 simpa using this
theorem num_check (m:M):num (check m) = orE (pre m) (orE (codesE m) (first (datE m) m.datas)):=by
 unfold check codesE
 by_cases hp:pre m = 0
 ·rw [if_pos hp,orE_at hp]
  cases h:codesR m m.funcs m.codes with
  | error e =>
   dsimp only
   rw [orE_ne (cW h)]
   rfl
  | ok hs =>
   dsimp only
   rw [orE_at rfl]
   by_cases hd:first (datE m) m.datas = 0
   ·rw [if_pos hd,hd];rfl
   ·rw [if_neg hd];rfl
 ·rw [if_neg hp,orE_ne hp]
  rfl
theorem pre_parts {m:M} (h:pre m = 0):m.codes.length = m.funcs.length ∧ (∀ t ∈ m.types,t.results.length ≤ 2) ∧ ∀ t ∈ m.funcs,t < m.types.length:=by
 unfold pre at h
 simp only [orE_zero] at h
 obtain ⟨h1,h2,_,h4,_⟩:=h
 unfold shapeE at h1
 rw [okE_zero (by decide)] at h1
 simp only [Bool.and_eq_true,beq_iff_eq] at h1
 refine ⟨h1.1.1,fun t ht=>?_,fun t ht=>?_⟩
 ·have:=first_zero.1 h2 t ht
  unfold typE at this
  rw [okE_zero (by decide)] at this
  simp only [Bool.and_eq_true,decide_eq_true_eq] at this
  omega
 ·have:=first_zero.1 h4 t ht
  unfold funE at this
  rw [okE_zero (by decide)] at this
  simpa using this
end Va
namespace Go.Proofs.YtmpelmihdpomjaaGreat
open Go.RowKit Ins Bin Sp
def Stp (C:VC) (w:World) (e:Nat) (ns:List (List UInt8)) (hs:List Nat):Prop:=VF C w ∧ Told C w e ∧ (e = 0 → VSt C w ns hs)
section
variable {C:VC} {w w':World} {ns:List (List UInt8)} {hs:List Nat} {e:Nat}
theorem Stp.on (h:Stp C w e ns hs) (hC:C.Good) (hb:Below w.heap.size w w'):Stp C w' e ns hs:=by
 obtain ⟨⟨ns',hs',h1⟩,h2,h3⟩:=h
 exact ⟨⟨ns',hs',h1.on hC hb⟩,(hb.block _ h1.top).trans h2,fun h=>(h3 h).on hC hb⟩
theorem Stp.vin (h:Stp C w e ns hs) (hC:C.Good):∃ hv,VIn w C.P C.sp C.mp C.m C.v1 C.v2 C.v3 C.v4 C.v5 C.v6 C.v7 C.v8 C.v9 C.v10 hv:=by
 obtain ⟨⟨ns',hs',h1⟩,_⟩:=h
 obtain ⟨hv,h,_⟩:=h1.vin hC
 exact ⟨hv,h⟩
theorem Stp.mod (h:Stp C w e ns hs):Mod (· = C.mp) C.w1 w:=by
 obtain ⟨⟨ns',hs',h1⟩,_⟩:=h
 exact h1.mod
def Step (C:VC) (w:World) (e s:Nat) (n K:Nat) (ns:List (List UInt8)) (hs:List Nat):Prop :=
 ∀ r,Va.orE e s = r → Calls Tryz.prog 55 #[.int .i64 ↑n,.func (.func K) #[.pointer (some ⟨C.P,0,none⟩)] #[],.pointer (some ⟨C.E,0,none⟩)] w fun x w'=>x = .returned (.int .i64 ↑r) ∧ Stp C w' r ns hs
theorem aL (hC:C.Good) (h:Stp C w e ns hs) (n:Nat) (hn:n ≤ 4000000000) (K:Nat) (hcf:∀ (a:Array Value) (w:World),(callFunc K a).run Tryz.prog w = .ok (.enter K a) w) (A:Nat → Nat) (s:Nat) (hs0:Va.upTo A 0 n = s)
  (hask:e = 0 → ∀ j w hv,j < n → VIn w C.P C.sp C.mp C.m C.v1 C.v2 C.v3 C.v4 C.v5 C.v6 C.v7 C.v8 C.v9 C.v10 hv → Calls Tryz.prog K #[.pointer (some ⟨C.P,0,none⟩),.int .i64 ↑j] w fun x w'=>x = .returned (.int .i64 (A j:Int)) ∧ Below w.heap.size w w') :
  Step C w e s n K ns hs:=by
 intro r hr
 subst hs0 hr
 refine (eu C hC n hn K hcf A (fun _ w=>VSt C w ns hs) e w (fun j w u h=>h.setE hC u) (fun he j w hj h=>?_) h.2.2 h.1 h.2.1).mono ?_
 ·obtain ⟨hv,hin,_⟩:=h.vin hC
  refine (hask he j w hv hj hin).mono ?_
  rintro x w' ⟨hx,hb⟩
  exact ⟨hx,fun _=>h.on hC hb,⟨ns,hs,h.on hC hb⟩,hb.block _ h.top⟩
 ·rintro x w' ⟨hx,h1,h2,h3⟩
  exact ⟨hx,h2,h3,h1⟩
theorem t_shape (hC:C.Good) (h:Stp C w e ns hs):Step C w e (Va.shapeE C.m) 1 24 ns hs:=by
 refine aL hC h 1 (by decide) _ (fun a w=>by kernel_rfl) (fun _=>Va.shapeE C.m) _ (Va.upTo_one _) (fun _ j w hv _ hin=>?_)
 exact vshape_any hin j
theorem t_types (hC:C.Good) (h:Stp C w e ns hs):Step C w e (Va.first (Va.typE) (C.m.types)) (C.m.types.length) 25 ns hs:=by
 have hl:=hC.fit.lots.types
 refine aL hC h _ (by omega) _ (fun a w=>by kernel_rfl) (Va.atL (Va.typE) (C.m.types)) _ (by exact Va.upTo_list _ _) (fun _ j w hv hj hin=>?_)
 obtain ⟨x,hx⟩:∃ x,(C.m.types)[j]? = some x:=⟨_,List.getElem?_eq_getElem (by omega)⟩
 rw [Va.atL_some hx]
 exact eE hin j x hx
theorem t_imports (hC:C.Good) (h:Stp C w e ns hs):Step C w e (Va.first (Va.impE C.m) (C.m.imports)) (C.m.imports.length) 26 ns hs:=by
 have hl:=hC.fit.lots.imports
 refine aL hC h _ (by omega) _ (fun a w=>by kernel_rfl) (Va.atL (Va.impE C.m) (C.m.imports)) _ (by exact Va.upTo_list _ _) (fun _ j w hv hj hin=>?_)
 obtain ⟨x,hx⟩:∃ x,(C.m.imports)[j]? = some x:=⟨_,List.getElem?_eq_getElem (by omega)⟩
 rw [Va.atL_some hx]
 exact eG hin j x hx
theorem t_funcs (hC:C.Good) (h:Stp C w e ns hs):Step C w e (Va.first (Va.funE C.m) (C.m.funcs)) (C.m.funcs.length) 27 ns hs:=by
 have hl:=hC.fit.lots.funcs
 refine aL hC h _ (by omega) _ (fun a w=>by kernel_rfl) (Va.atL (Va.funE C.m) (C.m.funcs)) _ (by exact Va.upTo_list _ _) (fun _ j w hv hj hin=>?_)
 obtain ⟨x,hx⟩:∃ x,(C.m.funcs)[j]? = some x:=⟨_,List.getElem?_eq_getElem (by omega)⟩
 rw [Va.atL_some hx]
 exact eF hin j x hx
theorem t_counts (hC:C.Good) (h:Stp C w e ns hs):Step C w e (Va.countE C.m) 1 28 ns hs:=by
 refine aL hC h 1 (by decide) _ (fun a w=>by kernel_rfl) (fun _=>Va.countE C.m) _ (Va.upTo_one _) (fun _ j w hv _ hin=>?_)
 exact vcounts_any hin j
theorem t_tables (hC:C.Good) (h:Stp C w e ns hs):Step C w e (Va.first (Va.limE 4294967295) (tabs C.m)) (count C.m 1) 30 ns hs:=by
 have hl:=(Lots.some hC.fit.lots).tabs
 refine aL hC h _ (by have:=bk C.m;omega) _ (fun a w=>by kernel_rfl) (Va.atL (Va.limE 4294967295) (tabs C.m)) _ (by rw [← bk C.m];exact Va.upTo_list _ _) (fun _ j w hv hj hin=>?_)
 obtain ⟨x,hx⟩:∃ x,(tabs C.m)[j]? = some x:=⟨_,List.getElem?_eq_getElem (by have:=bk C.m;omega)⟩
 rw [Va.atL_some hx]
 exact vtable_any hin j x hx
theorem t_mems (hC:C.Good) (h:Stp C w e ns hs):Step C w e (Va.first (Va.limE 65536) (mems C.m)) (count C.m 2) 31 ns hs:=by
 have hl:=(Lots.some hC.fit.lots).mems
 refine aL hC h _ (by have:=bj C.m;omega) _ (fun a w=>by kernel_rfl) (Va.atL (Va.limE 65536) (mems C.m)) _ (by rw [← bj C.m];exact Va.upTo_list _ _) (fun _ j w hv hj hin=>?_)
 obtain ⟨x,hx⟩:∃ x,(mems C.m)[j]? = some x:=⟨_,List.getElem?_eq_getElem (by have:=bj C.m;omega)⟩
 rw [Va.atL_some hx]
 exact vmemory_any hin j x hx
theorem t_globals (hC:C.Good) (h:Stp C w e ns hs):Step C w e (Va.first (Va.globE C.m) (C.m.globals)) (C.m.globals.length) 32 ns hs:=by
 have hl:=hC.fit.lots.globals
 refine aL hC h _ (by omega) _ (fun a w=>by kernel_rfl) (Va.atL (Va.globE C.m) (C.m.globals)) _ (by exact Va.upTo_list _ _) (fun _ j w hv hj hin=>?_)
 obtain ⟨x,hx⟩:∃ x,(C.m.globals)[j]? = some x:=⟨_,List.getElem?_eq_getElem (by omega)⟩
 rw [Va.atL_some hx]
 exact vglobal_any hin j x hx
theorem t_start (hC:C.Good) (h:Stp C w e ns hs):Step C w e (Va.startE C.m) 1 34 ns hs:=by
 refine aL hC h 1 (by decide) _ (fun a w=>by kernel_rfl) (fun _=>Va.startE C.m) _ (Va.upTo_one _) (fun _ j w hv _ hin=>?_)
 exact vstart_any hin j
theorem t_elems (hC:C.Good) (h:Stp C w e ns hs):Step C w e (Va.first (Va.elemE C.m) (C.m.elems)) (C.m.elems.length) 35 ns hs:=by
 have hl:=hC.fit.elems.1
 refine aL hC h _ (by omega) _ (fun a w=>by kernel_rfl) (Va.atL (Va.elemE C.m) (C.m.elems)) _ (by exact Va.upTo_list _ _) (fun _ j w hv hj hin=>?_)
 obtain ⟨x,hx⟩:∃ x,(C.m.elems)[j]? = some x:=⟨_,List.getElem?_eq_getElem (by omega)⟩
 rw [Va.atL_some hx]
 exact fI hin j x hx
theorem t_datas (hC:C.Good) (h:Stp C w e ns hs):Step C w e (Va.first (Va.datE C.m) (C.m.datas)) (C.m.datas.length) 37 ns hs:=by
 have hl:=hC.fit.datas.1
 refine aL hC h _ (by omega) _ (fun a w=>by kernel_rfl) (Va.atL (Va.datE C.m) (C.m.datas)) _ (by exact Va.upTo_list _ _) (fun _ j w hv hj hin=>?_)
 obtain ⟨x,hx⟩:∃ x,(C.m.datas)[j]? = some x:=⟨_,List.getElem?_eq_getElem (by omega)⟩
 rw [Va.atL_some hx]
 exact vdata_any hin j x hx
theorem t_exports (hC:C.Good) (h:Stp C w e [] hs):Step C w e (Va.expE C.m [] C.m.exports) C.m.exports.length 33 (C.m.exports.map (fun x:Exp=>x.name)) hs:=by
 intro r hr
 rw [← Va.upTo_exp] at hr
 subst hr
 have hl:=hC.fit.lots.exports
 refine (eu C hC _ (by omega) 33 (fun a w=>by kernel_rfl) (Va.expAt C.m) (fun j w=>VSt C w ((C.m.exports.take j).map (fun x:Exp=>x.name)) hs) e w (fun j w u h=>h.setE hC u) (fun _ j w hj h=>?_) (fun he=>by rw [List.take_zero];exact h.2.2 he) h.1 h.2.1).mono ?_
 ·obtain ⟨x,hx⟩:∃ x,C.m.exports[j]? = some x:=⟨_,List.getElem?_eq_getElem hj⟩
  refine (vexport_any hC h (by simp;omega) j x hx).mono ?_
  have hA:Va.expAt C.m j = Va.expA C.m ((C.m.exports.take j).map (fun x:Exp=>x.name)) x:=by unfold Va.expAt;rw [hx]
  rw [hA]
  rintro y w' ⟨h1,h2,h3,h4⟩
  refine ⟨h1,fun h0=>?_,h3,h4⟩
  rw [List.take_add_one,hx,List.map_append]
  exact h2 h0
 ·rintro x w' ⟨hx,h1,h2,h3⟩
  refine ⟨hx,h2,h3,fun h0=>?_⟩
  have:=h1 h0
  rw [List.take_length] at this
  exact this
theorem t_codes (hC:C.Good) (h:Stp C w e ns []) (he:e = 0 → Va.pre C.m = 0):Step C w e (if e = 0 then Va.codesE C.m else 0) C.m.codes.length 36 ns ((List.range C.m.codes.length).map fun i=>Va.valR (Va.codeAt C.m i)):=by
 intro r hr
 have hl:=hC.fit.codes.1
 have hrr:Va.orE e (Va.upTo (Va.numAt (Va.codeAt C.m)) 0 C.m.codes.length) = r:=by
  rw [← hr]
  by_cases h0:e = 0
  ·rw [if_pos h0,(Va.codesE_upTo (Va.pre_parts (he h0)).1.symm).1]
  ·rw [Va.orE_ne h0,Va.orE_ne h0]
 clear hr
 subst hrr
 refine (eu C hC _ (by omega) 36 (fun a w=>by kernel_rfl) (Va.numAt (Va.codeAt C.m)) (fun j w=>VSt C w ns ((List.range j).map fun i=>Va.valR (Va.codeAt C.m i))) e w (fun j w u h=>h.setE hC u) (fun h0 j w hj h=>?_) (fun he=>h.2.2 he) h.1 h.2.1).mono ?_
 ·obtain ⟨p1,p2,p3⟩:=Va.pre_parts (he h0)
  obtain ⟨x,hx⟩:∃ x,C.m.codes[j]? = some x:=⟨_,List.getElem?_eq_getElem hj⟩
  obtain ⟨t,ht⟩:∃ t,C.m.funcs[j]? = some t:=⟨_,List.getElem?_eq_getElem (by omega)⟩
  have htl:=p3 t (List.mem_of_getElem? ht)
  obtain ⟨f,hf⟩:∃ f,C.m.types[t]? = some f:=⟨_,List.getElem?_eq_getElem htl⟩
  have hfn:func C.m (imported C.m 0 + j) = some f:=by
   unfold func Sp.funs
   rw [row_own (by rw [aE (by decide)];omega),aE (by decide),Nat.add_sub_cancel_left,ht]
   exact hf
  have hn0:imported C.m 0 ≤ 2100000:=Nat.le_trans (by unfold count;omega) (ed hC.fit 0)
  have hA:Va.codeAt C.m j = Bo.chk (Bo.envOf C.m f.params f.results x.locals) (Bo.locB x.locals) x.body:=by
   unfold Va.codeAt
   rw [ht,hx]
   show Va.codeR C.m t x = _
   unfold Va.codeR
   rw [hf]
   rfl
  have hA2:Va.numAt (Va.codeAt C.m) j = Va.numR (Va.codeAt C.m j):=rfl
  rw [hA2]
  refine (vcode_any hC h (by simp;omega) j x hx f _ rfl hfn (by omega) p2).mono ?_
  rw [← hA]
  rintro y w' ⟨h1,h2,h3⟩
  refine ⟨h1,fun _=>?_,⟨_,_,h2⟩,h3⟩
  rw [List.range_succ,List.map_append]
  exact h2
 ·rintro x w' ⟨hx,h1,h2,h3⟩
  exact ⟨hx,h2,h3,h1⟩
end
theorem names_new {w:World} {mp:Nat} (h:w.heap[mp]? = some (.map #[] 0)):cj w mp [] :=
 ⟨.map [],⟨#[],0,h,⟨by simp,MapKept.stamped_empty 0,by simp⟩,Nat.le_refl _,rfl⟩,fun s=>by simp [Maps.has]⟩
theorem valid_ok:ValidOk:=by
 intro m v1 v2 v3 v4 v5 v6 v7 v8 v9 v10 w hM hF
 have HSO:=J (fun W (hb:Below w.heap.size w W)=>sofL_any m v1 v2 v3 v4 v5 v6 v7 v8 v9 v10 W (hM.grow hb) hF.lots)
 have HX0:=J (heap_alloc_new w (.cells #[v1,v2,v3,v4,v5,v6,v7,.bool m.hasStart,.int .u32 ↑m.start,v8,v9,v10] 49))
 have HB0:Hid (Below w.heap.size w (w.alloc (.cells #[v1,v2,v3,v4,v5,v6,v7,.bool m.hasStart,.int .u32 ↑m.start,v8,v9,v10] 49))):=J bA
 have HM:=J hM
 have HF:=J hF
 obtain ⟨A1,c1,e1,l1,m1,_,_⟩:=hM.types
 obtain ⟨A2,c2,e2,l2,m2,_,_⟩:=hM.imports
 obtain ⟨A3,c3,e3,l3,m3,_,_⟩:=hM.funcs
 obtain ⟨A6,c6,e6,l6,m6,_,_⟩:=hM.globals
 obtain ⟨A7,c7,e7,l7,m7,_,_⟩:=hM.exports
 obtain ⟨A8,c8,e8,l8,m8,_,_⟩:=hM.elems
 obtain ⟨A9,c9,e9,l9,m9,_,_⟩:=hM.codes
 obtain ⟨A10,c10,e10,l10,m10,_,_⟩:=hM.datas
 have E1:=J e1
 have E2:=J e2
 have E3:=J e3
 have E6:=J e6
 have E7:=J e7
 have E8:=J e8
 have E9:=J e9
 have E10:=J e10
 clear e1 e2 e3 e6 e7 e8 e9 e10 l1 l2 l3 l6 l7 l8 l9 l10 m1 m2 m3 m6 m7 m8 m9 m10 hM hF
 unfold modCells at HSO ⊢
 go_enter Tryz.func15,Tryz.ntmps15
 go_upto_region 1 with fail
 generalize w.alloc (.cells #[v1,v2,v3,v4,v5,v6,v7,.bool m.hasStart,.int .u32 ↑m.start,v8,v9,v10] 49) = w0 at HX0 HB0 ⊢
 obtain ⟨X,hX⟩:∃ X,w.heap.size = X:=⟨_,rfl⟩
 rw [hX] at HX0
 have HXW:=J hX
 simp only [hX]
 clear hX
 have HXL:Hid (X < w0.heap.size):=J (gL HX0.out)
 have HCC:=J (fun W (hb:Below w0.heap.size w0 W)=>cells12 HX0.out hb)
 have HSO:=J (fun W (hb:Below w0.heap.size w0 W)=>HSO.out W (HB0.out.trans (hb.mono HB0.out.size)))
 go_cut [4] from 7 to 12 (fun s wx=>∃ W1 sp mp,s = .pointer (some ⟨W1.heap.size,0,none⟩) ∧ wx = W1.alloc (.cells #[v1,v2,v3,v4,v5,v6,v7,.bool m.hasStart,.int .u32 ↑m.start,v8,v9,v10,.pointer (some ⟨sp,0,none⟩),.map (some mp),.slice none 0 0] 91) ∧ Hid (Below w0.heap.size w0 W1) ∧ Hid (aC W1 sp m) ∧ Hid (W1.heap[mp]? = some (.map #[] 0)) ∧ Hid (w0.heap.size ≤ mp))
 case first =>
  refine wp_region_held_drew (S:=fun W'=>Below w0.heap.size w0 W') (by kernel_rfl) (Below.drew (Below.refl _ _)) (fun hHeld=>?_)
  refine dV 0 rfl (by intro wy hSw;obtain ⟨q0,q1,q2,q3,q4,q5,q6,q7,q8,q9,q10,q11⟩:=HCC.out wy hSw;go_simp;try with_reducible rfl) ?_
  refine dV 1 rfl (by intro wy hSw;obtain ⟨q0,q1,q2,q3,q4,q5,q6,q7,q8,q9,q10,q11⟩:=HCC.out wy hSw;go_simp;try with_reducible rfl) ?_
  refine ai 2 3 rfl rfl (by kernel_rfl) (fun K hK=>?_) (fun K hK=>?_)
  ·try (rw [if_pos];case hc=>rfl)
   go_simp
   refine (HSO.out _ hHeld).mono ?_
   rintro e w1 ⟨sp,rfl,hS,hb⟩
   have hH:Below w0.heap.size w0 w1:=hHeld.trans (hb.mono hHeld.size)
   go_wp2_with fail
   refine hK.out _ _ hH fun hHeld=>?_
   clear hK K
   have hH2:Below w0.heap.size w0 (w1.alloc (.map #[] 0)):=hHeld.alloc hHeld.size _
   have HBW:=J hH2
   have HSP:Hid (aC (w1.alloc (.map #[] 0)) sp m):=J (hS.grow bA)
   have HMP:Hid ((w1.alloc (.map #[] 0)).heap[w1.heap.size]? = some (.map #[] 0)):=J (heap_alloc_new w1 _)
   have HMG:Hid (w0.heap.size ≤ w1.heap.size):=J hH.size
   clear hS hb
   refine dA 3 rfl fun K hK=>?_
   go_simp
   refine hK.out _ _ hH2 fun hHeld=>?_
   clear hK K
   generalize hw9:w1.alloc (.map #[] 0) = w9 at *
   refine dW 4 rfl ?_
   refine dA 5 rfl fun K hK=>?_
   go_simp
   refine hK.out _ _ (HBW.out.alloc HBW.out.size _) fun hHeld=>?_
   clear hK K
   refine dW 6 rfl ?_
   refine dN ?_
   go_wp2_with fail
   go_meet
   case rel=>exact ⟨w9,sp,w1.heap.size,rfl,rfl,HBW,HSP,HMP,HMG⟩
  ·try (rw [if_pos];case hc=>rfl)
   go_simp
   have hB0:Below w0.heap.size w0 (w0.drew.alloc (.map #[] 0)):=hHeld.alloc hHeld.size _
   have hM0:(w0.drew.alloc (.map #[] 0)).heap[w0.heap.size]? = some (.map #[] 0):=heap_alloc_new w0.drew _
   have hl0:w0.heap.size < (w0.drew.alloc (.map #[] 0)).heap.size:=by simp
   refine hK.out _ _ hB0 fun hHeld=>?_
   clear hK K
   refine dA 2 rfl fun K hK=>?_
   go_simp
   refine (HSO.out _ hB0).mono ?_
   rintro e w1 ⟨sp,rfl,hS,hb⟩
   have hH:Below w0.heap.size w0 w1:=hB0.trans (hb.mono hB0.size)
   have HBW:=J hH
   have HSP:=J hS
   have HMP:Hid (w1.heap[w0.heap.size]? = some (.map #[] 0)):=J ((hb.block _ hl0).trans hM0)
   have HMG:Hid (w0.heap.size ≤ w0.heap.size):=J (Nat.le_refl _)
   clear hS hb hl0 hM0 hB0
   go_wp2_with fail
   refine hK.out _ _ hH fun hHeld=>?_
   clear hK K
   refine dW 4 rfl ?_
   refine dA 5 rfl fun K hK=>?_
   go_simp
   refine hK.out _ _ (HBW.out.alloc HBW.out.size _) fun hHeld=>?_
   clear hK K
   refine dW 6 rfl ?_
   refine dN ?_
   go_wp2_with fail
   go_meet
   case rel=>exact ⟨w1,sp,w0.heap.size,rfl,rfl,HBW,HSP,HMP,HMG⟩
 case rest =>
 obtain ⟨W1,sp,mp,rfl,hwc,HBW,HSP,HMP,HMG⟩:=hcut
 subst hwc
 have HGD:Hid (VC.Good ⟨W1,m,sp,mp,W1.heap.size,W1.heap.size + 1,v1,v2,v3,v4,v5,v6,v7,v8,v9,v10⟩):=J
  ⟨repM_more (HM.out.on (HB0.out.trans (HBW.out.mono HB0.out.size))) (fun k hk hs=>⟨hk,fun e=>by have e':k = mp:=e;have hs':k < w.heap.size:=hs;have:=HMG.out;have:=HB0.out.size;omega⟩),HSP.out.off HMP.out,HF.out,(gL HMP.out),Nat.le_refl _,Nat.lt_succ_self _⟩
 have HXN:Hid (W1.heap[X]? = some (.cells #[v1,v2,v3,v4,v5,v6,v7,.bool m.hasStart,.int .u32 ↑m.start,v8,v9,v10] 49 (0,0)) ∧ X ≠ mp):=J ⟨(HBW.out.block X HXL.out).trans HX0.out,fun e=>by have:=HMG.out;have:=HXL.out;omega⟩
 have HBB:Hid (Below w.heap.size w W1 ∧ w.heap.size ≤ mp):=J ⟨HB0.out.trans (HBW.out.mono HB0.out.size),by have:=HMG.out;have:=HB0.out.size;omega⟩
 have HS0:Hid (VSt ⟨W1,m,sp,mp,W1.heap.size,W1.heap.size + 1,v1,v2,v3,v4,v5,v6,v7,v8,v9,v10⟩ ((W1.alloc (.cells #[v1,v2,v3,v4,v5,v6,v7,.bool m.hasStart,.int .u32 ↑m.start,v8,v9,v10,.pointer (some ⟨sp,0,none⟩),.map (some mp),.slice none 0 0] 91)).alloc (.cells #[.int .i64 (0:Int)] 67)) [] []):=J
  ⟨((Mod.refl _ W1).alloc _).alloc _,by simp,(names_new HMP.out).on (((Below.heap_alloc _ _ _ (by show mp < (W1.alloc _).heap.size;have:=(gL HMP.out);simp;omega)).trans (Below.heap_alloc _ _ _ (gL HMP.out)))),⟨.slice none 0 0,(Below.heap_alloc _ _ _ (by simp)).trans (heap_alloc_new W1 _),OwnL.nil _ _ _ _⟩⟩
 have HT0:Hid (Told ⟨W1,m,sp,mp,W1.heap.size,W1.heap.size + 1,v1,v2,v3,v4,v5,v6,v7,v8,v9,v10⟩ ((W1.alloc (.cells #[v1,v2,v3,v4,v5,v6,v7,.bool m.hasStart,.int .u32 ↑m.start,v8,v9,v10,.pointer (some ⟨sp,0,none⟩),.map (some mp),.slice none 0 0] 91)).alloc (.cells #[.int .i64 (0:Int)] 67)) 0):=J (by
  have h:=heap_alloc_new (W1.alloc (.cells #[v1,v2,v3,v4,v5,v6,v7,.bool m.hasStart,.int .u32 ↑m.start,v8,v9,v10,.pointer (some ⟨sp,0,none⟩),.map (some mp),.slice none 0 0] 91)) (.cells #[.int .i64 (0:Int)] 67)
  have e:(W1.alloc (.cells #[v1,v2,v3,v4,v5,v6,v7,.bool m.hasStart,.int .u32 ↑m.start,v8,v9,v10,.pointer (some ⟨sp,0,none⟩),.map (some mp),.slice none 0 0] 91)).heap.size = W1.heap.size + 1:=by simp
  rw [e] at h
  exact h)
 have HV1:True:=trivial
 clear HM HF HB0 HBW HSP HMG HX0 HXL HCC HSO
 have hsz:(W1.alloc (.cells #[v1,v2,v3,v4,v5,v6,v7,.bool m.hasStart,.int .u32 ↑m.start,v8,v9,v10,.pointer (some ⟨sp,0,none⟩),.map (some mp),.slice none 0 0] 91)).heap.size = W1.heap.size + 1:=by simp
 go_upto_region 3 with (go_at_call 23;refine (first_any _).mono ?_;rintro e w3 ⟨rfl,rfl⟩)
 (try simp only [hsz])
 clear hsz
 generalize (W1.alloc (.cells #[v1,v2,v3,v4,v5,v6,v7,.bool m.hasStart,.int .u32 ↑m.start,v8,v9,v10,.pointer (some ⟨sp,0,none⟩),.map (some mp),.slice none 0 0] 91)).alloc (.cells #[.int .i64 (0:Int)] 67) = u0 at HS0 HT0 ⊢
 obtain ⟨C,hC⟩:∃ C:VC,C = ⟨W1,m,sp,mp,W1.heap.size,W1.heap.size + 1,v1,v2,v3,v4,v5,v6,v7,v8,v9,v10⟩:=⟨_,rfl⟩
 rw [← hC] at HGD HS0 HT0
 obtain ⟨P,hP⟩:∃ P,W1.heap.size = P:=⟨_,rfl⟩
 obtain ⟨E,hE⟩:∃ E,W1.heap.size + 1 = E:=⟨_,rfl⟩
 have HQ:Hid (C.P = P ∧ C.E = E ∧ C.m = m ∧ C.w1 = W1 ∧ C.mp = mp ∧ C.sp = sp):=J ⟨by rw [hC];exact hP,by rw [hC];exact hE,by rw [hC],by rw [hC],by rw [hC],by rw [hC]⟩
 simp only [hE]
 simp only [hP]
 clear hP hE hC HV1
 obtain ⟨rfl,rfl,rfl,rfl,rfl,rfl⟩:=HQ.out
 clear HQ HMP
 have HSTP:Hid (Stp C u0 0 [] []):=J ⟨⟨[],[],HS0.out⟩,HT0.out,fun _=>HS0.out⟩
 clear HS0 HT0
 have HXX:Hid (∀ W e ns hs,Stp C W e ns hs → W.heap[X]? = some (.cells #[v1,v2,v3,v4,v5,v6,v7,.bool C.m.hasStart,.int .u32 ↑C.m.start,v8,v9,v10] 49 (0,0))):=J (fun W e ns hs h=>h.mod.heap HXN.out.1 HXN.out.2)
 have HCN:Hid (∀ (k:Nat) W e ns hs,k < 256 → Stp C W e ns hs → Calls Tryz.prog 29 #[.pointer (some ⟨C.sp,0,none⟩),.int .u8 ↑k] W fun x W'=>x = .returned (.int .i64 (count C.m k:Int)) ∧ Stp C W' e ns hs ∧ W'.cell? ⟨C.P,12,none⟩ = some (.pointer (some ⟨C.sp,0,none⟩))):=J (fun k W e ns hs hk h=>by
  obtain ⟨hv,hin⟩:=h.vin HGD.out
  refine (bc (some ⟨C.sp,0,none⟩) C.m k hk W hin.recv (Lots.some HGD.out.fit.lots)).mono ?_
  rintro x W' ⟨hx,hb⟩
  exact ⟨hx,h.on HGD.out hb,cell15 (hin.grow hb).cells 12 _ rfl⟩)
 clear HXN
 obtain ⟨s1,hs1⟩:∃ s,Va.orE 0 (Va.shapeE C.m) = s:=⟨_,rfl⟩
 obtain ⟨s2,hs2⟩:∃ s,Va.orE s1 (Va.first Va.typE C.m.types) = s:=⟨_,rfl⟩
 obtain ⟨s3,hs3⟩:∃ s,Va.orE s2 (Va.first (Va.impE C.m) C.m.imports) = s:=⟨_,rfl⟩
 obtain ⟨s4,hs4⟩:∃ s,Va.orE s3 (Va.first (Va.funE C.m) C.m.funcs) = s:=⟨_,rfl⟩
 obtain ⟨s5,hs5⟩:∃ s,Va.orE s4 (Va.countE C.m) = s:=⟨_,rfl⟩
 obtain ⟨s6,hs6⟩:∃ s,Va.orE s5 (Va.first (Va.limE 4294967295) (tabs C.m)) = s:=⟨_,rfl⟩
 obtain ⟨s7,hs7⟩:∃ s,Va.orE s6 (Va.first (Va.limE 65536) (mems C.m)) = s:=⟨_,rfl⟩
 obtain ⟨s8,hs8⟩:∃ s,Va.orE s7 (Va.first (Va.globE C.m) C.m.globals) = s:=⟨_,rfl⟩
 obtain ⟨s9,hs9⟩:∃ s,Va.orE s8 (Va.expE C.m [] C.m.exports) = s:=⟨_,rfl⟩
 obtain ⟨s10,hs10⟩:∃ s,Va.orE s9 (Va.startE C.m) = s:=⟨_,rfl⟩
 obtain ⟨s11,hs11⟩:∃ s,Va.orE s10 (Va.first (Va.elemE C.m) C.m.elems) = s:=⟨_,rfl⟩
 obtain ⟨s12,hs12⟩:∃ s,Va.orE s11 ((if s11 = 0 then Va.codesE C.m else 0)) = s:=⟨_,rfl⟩
 obtain ⟨s13,hs13⟩:∃ s,Va.orE s12 (Va.first (Va.datE C.m) C.m.datas) = s:=⟨_,rfl⟩
 have HPRE:Hid (s11 = 0 → Va.pre C.m = 0):=J (fun h=>by
  have e:Va.pre C.m = s11:=by
   rw [← hs11,← hs10,← hs9,← hs8,← hs7,← hs6,← hs5,← hs4,← hs3,← hs2,← hs1]
   simp only [Va.orE_assoc]
   rfl
  rw [e];exact h)
 have HALL:Hid (Va.num (Va.check C.m) = s13):=J (by
  have e:Va.pre C.m = s11:=by
   rw [← hs11,← hs10,← hs9,← hs8,← hs7,← hs6,← hs5,← hs4,← hs3,← hs2,← hs1]
   simp only [Va.orE_assoc]
   rfl
  rw [Va.num_check,e,← hs13,← hs12,Va.orE_assoc]
  by_cases h:s11 = 0
  ·rw [if_pos h]
  ·rw [Va.orE_ne h,Va.orE_ne h])
 have HSTEP1:=J hs1
 clear hs1
 go_upto_region 4 with (go_at_call 55;refine (t_shape HGD.out HSTP.out _ HSTEP1.out).mono ?_;rintro e u1 ⟨rfl,hst⟩;have HSTQ:=J hst;clear hst)
 clear HSTP HSTEP1
 have HSTP:=HSTQ
 clear HSTQ
 have HSTEP2:=J hs2
 clear hs2
 have xx:=cell15 (HXX.out _ _ _ _ HSTP.out) 0 _ (congrArg some E1.out)
 go_upto_region 5 with (go_at_call 55;refine (t_types HGD.out HSTP.out _ HSTEP2.out).mono ?_;rintro e u2 ⟨rfl,hst⟩;have HSTQ:=J hst;clear hst)
 clear xx
 clear HSTP HSTEP2
 have HSTP:=HSTQ
 clear HSTQ
 have HSTEP3:=J hs3
 clear hs3
 have xx:=cell15 (HXX.out _ _ _ _ HSTP.out) 1 _ (congrArg some E2.out)
 go_upto_region 6 with (go_at_call 55;refine (t_imports HGD.out HSTP.out _ HSTEP3.out).mono ?_;rintro e u3 ⟨rfl,hst⟩;have HSTQ:=J hst;clear hst)
 clear xx
 clear HSTP HSTEP3
 have HSTP:=HSTQ
 clear HSTQ
 have HSTEP4:=J hs4
 clear hs4
 have xx:=cell15 (HXX.out _ _ _ _ HSTP.out) 2 _ (congrArg some E3.out)
 go_upto_region 7 with (go_at_call 55;refine (t_funcs HGD.out HSTP.out _ HSTEP4.out).mono ?_;rintro e u4 ⟨rfl,hst⟩;have HSTQ:=J hst;clear hst)
 clear xx
 clear HSTP HSTEP4
 have HSTP:=HSTQ
 clear HSTQ
 have HSTEP5:=J hs5
 clear hs5
 go_upto_region 8 with (go_at_call 55;refine (t_counts HGD.out HSTP.out _ HSTEP5.out).mono ?_;rintro e u5 ⟨rfl,hst⟩;have HSTQ:=J hst;clear hst)
 clear HSTP HSTEP5
 have HSTP:=HSTQ
 clear HSTQ
 have HSTEP6:=J hs6
 clear hs6
 obtain ⟨hv0,hin0⟩:=HSTP.out.vin HGD.out
 have xx:=cell15 hin0.cells 12 _ rfl
 clear hin0
 have HCN6:=J (HCN.out 1 _ _ _ _ (by decide) HSTP.out)
 go_upto_region 9 with (first | (go_at_call 29;refine HCN6.out.mono ?_;rintro e w9 ⟨rfl,hst,_⟩;have HSTP:=J hst;clear hst) | (go_at_call 55;refine (t_tables HGD.out HSTP.out _ HSTEP6.out).mono ?_;rintro e u6 ⟨rfl,hst⟩;have HSTQ:=J hst;clear hst))
 clear xx HCN6
 clear HSTP HSTEP6
 have HSTP:=HSTQ
 clear HSTQ
 have HSTEP7:=J hs7
 clear hs7
 obtain ⟨hv0,hin0⟩:=HSTP.out.vin HGD.out
 have xx:=cell15 hin0.cells 12 _ rfl
 clear hin0
 have HCN7:=J (HCN.out 2 _ _ _ _ (by decide) HSTP.out)
 go_upto_region 10 with (first | (go_at_call 29;refine HCN7.out.mono ?_;rintro e w9 ⟨rfl,hst,_⟩;have HSTP:=J hst;clear hst) | (go_at_call 55;refine (t_mems HGD.out HSTP.out _ HSTEP7.out).mono ?_;rintro e u7 ⟨rfl,hst⟩;have HSTQ:=J hst;clear hst))
 clear xx HCN7
 clear HSTP HSTEP7
 have HSTP:=HSTQ
 clear HSTQ
 have HSTEP8:=J hs8
 clear hs8
 have xx:=cell15 (HXX.out _ _ _ _ HSTP.out) 5 _ (congrArg some E6.out)
 go_upto_region 11 with (go_at_call 55;refine (t_globals HGD.out HSTP.out _ HSTEP8.out).mono ?_;rintro e u8 ⟨rfl,hst⟩;have HSTQ:=J hst;clear hst)
 clear xx
 clear HSTP HSTEP8
 have HSTP:=HSTQ
 clear HSTQ
 have HSTEP9:=J hs9
 clear hs9
 have xx:=cell15 (HXX.out _ _ _ _ HSTP.out) 6 _ (congrArg some E7.out)
 go_upto_region 12 with (go_at_call 55;refine (t_exports HGD.out HSTP.out _ HSTEP9.out).mono ?_;rintro e u9 ⟨rfl,hst⟩;have HSTQ:=J hst;clear hst)
 clear xx
 clear HSTP HSTEP9
 have HSTP:=HSTQ
 clear HSTQ
 have HSTEP10:=J hs10
 clear hs10
 go_upto_region 13 with (go_at_call 55;refine (t_start HGD.out HSTP.out _ HSTEP10.out).mono ?_;rintro e u10 ⟨rfl,hst⟩;have HSTQ:=J hst;clear hst)
 clear HSTP HSTEP10
 have HSTP:=HSTQ
 clear HSTQ
 have HSTEP11:=J hs11
 clear hs11
 have xx:=cell15 (HXX.out _ _ _ _ HSTP.out) 9 _ (congrArg some E8.out)
 go_upto_region 14 with (go_at_call 55;refine (t_elems HGD.out HSTP.out _ HSTEP11.out).mono ?_;rintro e u11 ⟨rfl,hst⟩;have HSTQ:=J hst;clear hst)
 clear xx
 clear HSTP HSTEP11
 have HSTP:=HSTQ
 clear HSTQ
 have HSTEP12:=J hs12
 clear hs12
 have xx:=cell15 (HXX.out _ _ _ _ HSTP.out) 10 _ (congrArg some E9.out)
 go_upto_region 15 with (go_at_call 55;refine (t_codes HGD.out HSTP.out (fun h=>HPRE.out h) _ HSTEP12.out).mono ?_;rintro e u12 ⟨rfl,hst⟩;have HSTQ:=J hst;clear hst)
 clear xx
 clear HSTP HSTEP12
 have HSTP:=HSTQ
 clear HSTQ
 have HSTEP13:=J hs13
 clear hs13
 have xx:=cell15 (HXX.out _ _ _ _ HSTP.out) 11 _ (congrArg some E10.out)
 go_upto_region 16 with (go_at_call 55;refine (t_datas HGD.out HSTP.out _ HSTEP13.out).mono ?_;rintro e u13 ⟨rfl,hst⟩;have HSTQ:=J hst;clear hst)
 clear xx
 clear HSTP HSTEP13
 have HSTP:=HSTQ
 clear HSTQ
 have HB13:Hid (Below w.heap.size w u13):=J (HBB.out.1.trans (HSTP.out.mod.below HBB.out.1.size (fun k hk e=>by have:=HBB.out.2;omega)))
 by_cases hz:s13 = 0
 ·subst hz
  have HV:=J (HSTP.out.2.2 rfl)
  obtain ⟨hv,hcell,hown⟩:=HV.out.all
  have x14:=cell15 hcell 14 _ rfl
  have HOWN:=J hown
  have HCK:Hid (Va.hts (Va.check C.m) = ((List.range C.m.codes.length).map fun i=>Va.valR (Va.codeAt C.m i)).map Va.Ht.mk):=J (by
   obtain ⟨hs,hg⟩:=Va.num_zero.1 HALL.out
   rw [Va.check_ok.2 hg]
   have h1:=hg.codes
   have h2:=(Va.codesE_upTo (Va.pre_parts hg.pre).1.symm).2 (by unfold Va.codesE;rw [h1])
   rw [h1] at h2
   injection h2 with h2
   rw [h2]
   rfl)
  obtain ⟨A,c,hve,_,_⟩:=hown.form
  obtain ⟨l0,hl0⟩:∃ n,(((List.range C.m.codes.length).map fun i=>Va.valR (Va.codeAt C.m i)).map Va.Ht.mk).length = n:=⟨_,rfl⟩
  rw [hl0] at hve
  clear hl0 hcell hown
  subst hve
  go_wp2_with fail
  go_ret2
  refine ⟨_,by rw [HALL.out];rfl,?_,HB13.out⟩
  rw [HCK.out]
  exact (HOWN.out.tell (fun _ h=>h.elim)).more (fun k hk _=>hk)
 ·have hq:((s13:Int) == 0) = false:=nB (by omega)
  have hq2:((s13:Int) != 0) = true:=by rw [bne,hq];rfl
  have hq3:¬ ((s13:Int) = 0):=by omega
  have HH:Hid (Va.hts (Va.check C.m) = []):=J (Va.hts_err (by rw [HALL.out];exact hz))
  clear hz
  go_wp2_with fail
  go_ret2
  refine ⟨_,by rw [HALL.out];rfl,?_,HB13.out⟩
  rw [HH.out]
  exact aa.nil _ _
end Go.Proofs.YtmpelmihdpomjaaGreat
