/-
  Layer 11's program: typeThere, there, what a constant expression gives.
-/
import Derived.Test.YtmpelmihdpomjaaGreatSo01
import Derived.Test.YtmpelmihdpomjaaGreatSo33
import Derived.Test.YtmpelmihdpomjaaGreatSo06
import Derived.Test.YtmpelmihdpomjaaGreatSo29
import Derived.Test.YtmpelmihdpomjaaGreatSo28
import Derived.Test.YtmpelmihdpomjaaGreatSo26
import Derived.Laws.EntriesVeiled
set_option maxRecDepth 100000
set_option maxHeartbeats 4000000
namespace Va
open Bin Sp Ins
def giveE (m:M) (op a:Nat):UInt8 × Nat :=
 if op = 35 then (match (imps m 3)[a]? with
  | none=>(0,80)
  | some g=>if g.glob.mu = true then (0,110) else (g.glob.t,0))
 else if op = 65 then (127,0)
 else if op = 66 then (126,0)
 else (0,110)
theorem constE_one (m:M) (x:I) (t:UInt8):constE m [x] t = if (giveE m x.op x.a).2 = 0 then okE (decide ((giveE m x.op x.a).1 = t)) 100 else (giveE m x.op x.a).2:=by
 unfold constE giveE okE
 dsimp only
 split
 ·cases (imps m 3)[x.a]? with
  | none=>rfl
  | some g =>
   dsimp only
   split
   ·rfl
   ·simp
 ·split
  ·simp [eq_comm]
  ·split
   ·simp [eq_comm]
   ·rfl
theorem glob_imp {m:M} {i:Nat} {g:Imp} (h:(imps m 3)[i]? = some g):(globs m)[i]? = some g.glob:=by
 unfold globs
 rw [List.getElem?_append_left (by simpa using (List.getElem?_eq_some_iff.1 h).1),List.getElem?_map,h]
 rfl
end Va
namespace Go.Proofs.YtmpelmihdpomjaaGreat
open Go.RowKit Ins Bin Sp
section
variable {w:World} {P sp mp:Nat} {m:M} {v1 v2 v3 v4 v5 v6 v7 v8 v9 v10 hv:Value}
theorem cR (h:VIn w P sp mp m v1 v2 v3 v4 v5 v6 v7 v8 v9 v10 hv) (t:Nat) (ht:t < 4294967296) :
  Calls Tryz.prog 58 #[.pointer (some ⟨P,0,none⟩),.int .u32 ↑t] w fun e w'=>e = .returned (.int .i64 ((Va.okE (decide (t < m.types.length)) 80:Nat):Int)) ∧ w = w':=by
 obtain ⟨A,c,hv1,_⟩:=h.rep.types
 have x0:=cell15 h.cells 0 _ rfl
 rw [hv1] at x0
 have hn:=h.fit.lots.types
 clear h hv1
 obtain ⟨n,e⟩:∃ n,m.types.length = n:=⟨_,rfl⟩
 rw [e] at x0 hn ⊢
 clear e
 have hw1:IntKind.u64.wrap (t:Int) = (t:Int):=IntWalk.u64_in _ (by omega)
 have hw2:IntKind.u64.wrap (n:Int) = (n:Int):=IntWalk.u64_in _ (by omega)
 by_cases hlt:t < n
 ·have hi:(t:Int) < (n:Int):=by omega
  have hi2:decide ((t:Int) < (n:Int)) = true:=decide_eq_true hi
  have hd:decide (t < n) = true:=decide_eq_true hlt
  rw [hd]
  go_enter Tryz.func58,Tryz.ntmps58
  go_wp2_with (go_at_call 56;refine (al true 80 80 _ rfl).mono ?_;rintro e w' ⟨rfl,rfl⟩)
  go_ret
  exact ⟨rfl,rfl⟩
 ·have hi2:decide ((t:Int) < (n:Int)) = false:=decide_eq_false (by omega)
  have hd:decide (t < n) = false:=decide_eq_false hlt
  rw [hd]
  go_enter Tryz.func58,Tryz.ntmps58
  go_wp2_with (go_at_call 56;refine (al false 80 80 _ rfl).mono ?_;rintro e w' ⟨rfl,rfl⟩)
  go_ret
  exact ⟨rfl,rfl⟩
theorem ed (h:FitV m) (k:Nat):count m k ≤ 2100000:=by
 have h1:=bW m k
 have h2:=h.lots
 have:=h2.imports
 have:=h2.funcs
 have:=h2.tables
 have:=h2.mems
 have:=h2.globals
 unfold count imported mine
 (repeat' split) <;> omega
theorem bL (h:VIn w P sp mp m v1 v2 v3 v4 v5 v6 v7 v8 v9 v10 hv) (k t:Nat) (hk:k < 256) (ht:t < 4294967296) :
  Calls Tryz.prog 65 #[.pointer (some ⟨P,0,none⟩),.int .u8 ↑k,.int .u32 ↑t] w fun e w'=>e = .returned (.bool (decide (t < count m k))) ∧ Below w.heap.size w w':=by
 have x12:=cell15 h.cells 12 _ rfl
 have HC:=J (bc (some ⟨sp,0,none⟩) m k hk w h.recv (Lots.some h.fit.lots))
 have hn:=ed h.fit k
 clear h
 obtain ⟨n,e⟩:∃ n,count m k = n:=⟨_,rfl⟩
 rw [e] at HC hn ⊢
 clear e
 have hw1:IntKind.u64.wrap (t:Int) = (t:Int):=IntWalk.u64_in _ (by omega)
 have hw2:IntKind.u64.wrap (n:Int) = (n:Int):=IntWalk.u64_in _ (by omega)
 by_cases hlt:t < n
 ·have hi:(t:Int) < (n:Int):=by omega
  have hi2:decide ((t:Int) < (n:Int)) = true:=decide_eq_true hi
  have hd:decide (t < n) = true:=decide_eq_true hlt
  rw [hd]
  go_enter Tryz.func65,Tryz.ntmps65
  go_wp2_with (go_at_call 29;refine HC.out.mono ?_;rintro e w' ⟨rfl,hb⟩;have HB:=J hb;clear hb)
  go_ret
  exact ⟨rfl,HB.out⟩
 ·have hi2:decide ((t:Int) < (n:Int)) = false:=decide_eq_false (by omega)
  have hd:decide (t < n) = false:=decide_eq_false hlt
  rw [hd]
  go_enter Tryz.func65,Tryz.ntmps65
  go_wp2_with (go_at_call 29;refine HC.out.mono ?_;rintro e w' ⟨rfl,hb⟩;have HB:=J hb;clear hb)
  go_ret
  exact ⟨rfl,HB.out⟩
end
section
variable {w:World} {P sp mp:Nat} {m:M} {v1 v2 v3 v4 v5 v6 v7 v8 v9 v10 hv:Value}
theorem vgives_any (h:VIn w P sp mp m v1 v2 v3 v4 v5 v6 v7 v8 v9 v10 hv) (op a b:Nat) (c:Int) (A4:Option Addr) (l4 c4:Nat) (ha:a < 4294967296) :
  Calls Tryz.prog 85 #[.pointer (some ⟨P,0,none⟩),.agg #[.int .u8 ↑op,.int .u32 ↑a,.int .u32 ↑b,.int .i64 c,.slice A4 l4 c4]] w fun e w'=>e = .returned (.tuple #[.int .u8 ((Va.giveE m op a).1.toNat:Int),.int .i64 ((Va.giveE m op a).2:Int)]) ∧ Below w.heap.size w w':=by
 have HX0:=J (heap_alloc_new w (.cells #[.int .u8 ↑op,.int .u32 ↑a,.int .u32 ↑b,.int .i64 c,.slice A4 l4 c4] 56))
 have HB0:Hid (Below w.heap.size w (w.alloc (.cells #[.int .u8 ↑op,.int .u32 ↑a,.int .u32 ↑b,.int .i64 c,.slice A4 l4 c4] 56))):=J bA
 have H12:Hid (∀ W,Below w.heap.size w W → W.cell? ⟨P,12,none⟩ = some (.pointer (some ⟨sp,0,none⟩))):=J (fun W hb=>cell15 (h.grow hb).cells 12 _ rfl)
 have HFN:=J (fun W (hb:Below w.heap.size w W)=>cq (some ⟨sp,0,none⟩) m a W (h.grow hb).recv (Lots.some h.fit.lots) ha)
 have HIM:=J (fun W (hb:Below w.heap.size w W)=>bq (some ⟨sp,0,none⟩) m 3 (by decide) W (h.grow hb).recv (Lots.some h.fit.lots))
 have hn3:(imps m 3).length ≤ 1050000:=Nat.le_trans (bW m 3) h.fit.lots.imports
 rw [show imported m 3 = (imps m 3).length from aE (by decide)] at HIM
 clear h
 obtain ⟨n3,hl3⟩:∃ n,(imps m 3).length = n:=⟨_,rfl⟩
 rw [hl3] at HIM hn3
 have hw1:IntKind.u64.wrap (a:Int) = (a:Int):=IntWalk.u64_in _ (by omega)
 have hw2:IntKind.u64.wrap (n3:Int) = (n3:Int):=IntWalk.u64_in _ (by omega)
 by_cases h65:op = 65
 ·subst h65
  rw [show Va.giveE m 65 a = (127,0) from by unfold Va.giveE;simp]
  clear hl3
  go_enter Tryz.func85,Tryz.ntmps85
  go_wp2_with fail
  go_ret2
  exact ⟨rfl,HB0.out⟩
 by_cases h66:op = 66
 ·subst h66
  rw [show Va.giveE m 66 a = (126,0) from by unfold Va.giveE;simp]
  clear hl3 h65
  go_enter Tryz.func85,Tryz.ntmps85
  go_wp2_with fail
  go_ret2
  exact ⟨rfl,HB0.out⟩
 have e65:((op:Int) == 65) = false:=nB (by omega)
 have e66:((op:Int) == 66) = false:=nB (by omega)
 by_cases h35:op = 35
 ·have e35:((op:Int) == 35) = true:=by rw [beq_iff_eq];omega
  have H35:=J h35
  clear h65 h66 h35
  obtain ⟨G,hG⟩:∃ G,((globs m)[a]?).getD ⟨0,false⟩ = G:=⟨_,rfl⟩
  obtain ⟨gb,hgb⟩:∃ b,((globs m)[a]?).isSome = b:=⟨_,rfl⟩
  unfold bP at HFN
  rw [hG,hgb] at HFN
  clear hgb
  have HRES:Hid (n3 ≤ a → Va.giveE m op a = (0,80)):=J (fun h=>by
   unfold Va.giveE
   rw [if_pos H35.out,List.getElem?_eq_none (by omega)])
  have HRES2:Hid (a < n3 → G.mu = true → Va.giveE m op a = (0,110)):=J (fun h hm=>by
   obtain ⟨g,hg⟩:∃ g,(imps m 3)[a]? = some g:=⟨_,List.getElem?_eq_getElem (by omega)⟩
   rw [Va.glob_imp hg] at hG
   obtain rfl:g.glob = G:=hG
   unfold Va.giveE
   rw [if_pos H35.out,hg]
   simp [hm])
  have HRES3:Hid (a < n3 → G.mu = false → Va.giveE m op a = (G.t,0)):=J (fun h hm=>by
   obtain ⟨g,hg⟩:∃ g,(imps m 3)[a]? = some g:=⟨_,List.getElem?_eq_getElem (by omega)⟩
   rw [Va.glob_imp hg] at hG
   obtain rfl:g.glob = G:=hG
   unfold Va.giveE
   rw [if_pos H35.out,hg]
   simp [hm])
  clear hG hl3
  obtain ⟨G1,gm⟩:=G
  obtain ⟨gt,hgt⟩:∃ t,G1.toNat = t:=⟨_,rfl⟩
  unfold globArr at HFN
  dsimp only at HFN HRES2 HRES3
  rw [hgt] at HFN
  have HGT:=J hgt
  clear hgt
  by_cases hlt:a < n3
  ·have hd:decide ((n3:Int) ≤ (a:Int)) = false:=decide_eq_false (by omega)
   have hd2:decide (n3 ≤ a) = false:=decide_eq_false (by omega)
   cases gm with
   | true =>
    have HR:=J (HRES2.out hlt rfl)
    clear HRES HRES2 HRES3 hlt
    go_enter Tryz.func85,Tryz.ntmps85
    go_upto_region 1 with fail
    generalize (w.alloc (.cells #[.int .u8 ↑op,.int .u32 ↑a,.int .u32 ↑b,.int .i64 c,.slice A4 l4 c4] 56)) = w0 at HX0 HB0 ⊢
    obtain ⟨X,hX⟩:∃ X,w.heap.size = X:=⟨_,rfl⟩
    rw [hX] at HX0
    have hXl:X < w0.heap.size:=(gL HX0.out)
    simp only [hX]
    obtain ⟨z0,z1,z2,z3,z4⟩:=cells5 HX0.out
    have HCC:=J (fun W (hb:Below w0.heap.size w0 W)=>And.intro (cells5 ((hb.block X hXl).trans HX0.out)) (H12.out W (HB0.out.trans (hb.mono HB0.out.size))))
    have HFN0:=J (fun W (hb:Below w0.heap.size w0 W)=>HFN.out W (HB0.out.trans (hb.mono HB0.out.size)))
    have HIM0:=J (fun W (hb:Below w0.heap.size w0 W)=>HIM.out W (HB0.out.trans (hb.mono HB0.out.size)))
    clear HFN HIM hXl
    have HFN:=HFN0
    clear HFN0 hX
    go_upto_region 7 with fail
    clear z0 z1 z2 z3 z4
    refine wp_region_held_drew (S:=fun W'=>Below w0.heap.size w0 W') (by kernel_rfl) (Below.drew (Below.refl _ _)) (fun hHeld=>?_)
    refine dj1 0 rfl ?_
    refine dj1 1 rfl ?_
    refine dj1 2 rfl ?_
    refine dj1 3 rfl ?_
    refine dj1 4 rfl ?_
    refine dj1 5 rfl ?_
    refine ai 6 10 rfl rfl (by kernel_rfl) (fun K hK=>?_) (fun K hK=>?_)
    ·try (rw [if_pos];case hc=>rfl)
     go_simp
     refine (HFN.out _ hHeld).mono ?_
     rintro e w1 ⟨rfl,hb⟩
     have hH:Below w0.heap.size w0 w1:=hHeld.trans (hb.mono hHeld.size)
     have hz1:w0.heap.size ≤ w1.heap.size:=hH.size
     go_wp2_with fail
     refine hK.out _ _ hH fun hHeld=>?_
     clear hK K
     refine dW 7 rfl ?_
     refine dW 8 rfl ?_
     refine dW 9 rfl ?_
     have HB1:Hid (Below w0.heap.size w0 (w1.alloc (.cells #[.int .u8 0,.bool false] 54))):=J (hHeld.alloc hHeld.size _)
     have HZ1:=J (heap_alloc_new w1 (.cells #[.int .u8 0,.bool false] 54))
     have HY1:Hid (w0.heap.size ≤ w1.heap.size):=J hz1
     refine dA 10 rfl fun K hK=>?_
     go_simp
     refine hK.out _ _ HB1.out fun hHeld=>?_
     clear hK K
     refine dA 11 rfl fun K hK=>?_
     refine wp_store_row 54 (.tmp 6) (.tmp 24) rfl w1.heap.size #[.int .u8 ↑gt,.bool true] rfl rfl 54 #[.int .u8 0,.bool false] HZ1.out ao rfl (by simp [Value.oneCell']) ?_
     refine hK.out _ _ (ab HB1.out HY1.out _) fun hHeld=>?_
     clear hK K
     refine dW 12 rfl ?_
     refine dN ?_
     have HBF:Hid (Below w0.heap.size w0 ((w1.alloc (.cells #[.int .u8 0,.bool false] 54)).setRow w1.heap.size #[.int .u8 ↑gt,.bool true])):=J hHeld
     obtain ⟨y0,y1⟩:=ae (setRow_heap _ _ #[.int .u8 0,.bool false] #[.int .u8 ↑gt,.bool true] _ _ HZ1.out)
     have HYY:Hid (∀ W,Below ((w1.alloc (.cells #[.int .u8 0,.bool false] 54)).setRow w1.heap.size #[.int .u8 ↑gt,.bool true]).heap.size ((w1.alloc (.cells #[.int .u8 0,.bool false] 54)).setRow w1.heap.size #[.int .u8 ↑gt,.bool true]) W → W.cell? ⟨w1.heap.size,0,none⟩ = some (.int .u8 ↑gt) ∧ W.cell? ⟨w1.heap.size,1,none⟩ = some (.bool true)):=J (fun W hb=>⟨(hb.cell (p:=⟨w1.heap.size,0,none⟩) (World.block_lt_of_cell? _ _ y0)).trans y0,(hb.cell (p:=⟨w1.heap.size,1,none⟩) (World.block_lt_of_cell? _ _ y1)).trans y1⟩)
     generalize (w1.alloc (.cells #[.int .u8 0,.bool false] 54)).setRow w1.heap.size #[.int .u8 ↑gt,.bool true] = wf at HBF HYY y0 y1 ⊢
     clear y0 y1 hHeld
     go_upto_region 8 with fail
     have HCF:=J (fun W (hb:Below wf.heap.size wf W)=>HCC.out W (HBF.out.trans (hb.mono HBF.out.size)))
     refine wp_region_held_drew (S:=fun W'=>Below wf.heap.size wf W') (by kernel_rfl) (Below.drew (Below.refl _ _)) (fun hHeld=>?_)
     refine db1 0 rfl ?_
     refine db1 1 rfl ?_
     refine db1 2 rfl ?_
     refine db1 3 rfl ?_
     refine db1 4 rfl ?_
     refine db1 5 rfl ?_
     refine db1 6 rfl ?_
     refine dA 7 rfl fun K hK=>?_
     go_simp
     refine (HIM0.out _ (HBF.out.trans (hHeld.mono HBF.out.size))).mono ?_
     rintro e w3 ⟨rfl,hb⟩
     have hH:Below wf.heap.size wf w3:=hHeld.trans (hb.mono hHeld.size)
     clear hb
     go_wp2_with fail
     refine hK.out _ _ hH (fun hHeld2=>?_)
     clear hH
     clear hK K hHeld
     have hHeld:=hHeld2
     clear hHeld2
     refine db1 8 rfl ?_
     refine db1 9 rfl ?_
     refine db1 10 rfl ?_
     refine dN ?_
     obtain ⟨y0,y1⟩:=HYY.out _ hHeld
     have HBB:=J (HB0.out.trans ((HBF.out.trans (hHeld.mono HBF.out.size)).mono HB0.out.size))
     clear hHeld
     go_wp2_with fail
     go_ret2
     rw [HR.out]
     exact ⟨rfl,HBB.out⟩
    ·try (rw [if_pos];case hc=>rfl)
     go_simp
     have hB0:Below w0.heap.size w0 (w0.drew.alloc (.cells #[.int .u8 0,.bool false] 54)):=hHeld.alloc hHeld.size _
     have hZ0:=heap_alloc_new w0.drew (.cells #[.int .u8 0,.bool false] 54)
     have hl0:w0.heap.size < (w0.drew.alloc (.cells #[.int .u8 0,.bool false] 54)).heap.size:=by simp
     refine hK.out _ _ hB0 fun hHeld=>?_
     clear hK K
     refine dA 6 rfl fun K hK=>?_
     go_simp
     refine (HFN.out _ hB0).mono ?_
     rintro e w1 ⟨rfl,hb⟩
     have hH:Below w0.heap.size w0 w1:=hB0.trans (hb.mono hB0.size)
     have HB1:Hid (Below w0.heap.size w0 w1):=J hH
     have HZ1:Hid (w1.heap[w0.heap.size]? = some (.cells #[.int .u8 0,.bool false] 54 (0,0))):=J ((hb.block _ hl0).trans hZ0)
     have HY1:Hid (w0.heap.size ≤ w0.heap.size):=J (Nat.le_refl _)
     go_wp2_with fail
     refine hK.out _ _ hH fun hHeld=>?_
     clear hK K
     refine dW 7 rfl ?_
     refine dW 8 rfl ?_
     refine dW 9 rfl ?_
     refine dA 11 rfl fun K hK=>?_
     refine wp_store_row 54 (.tmp 6) (.tmp 24) rfl w0.heap.size #[.int .u8 ↑gt,.bool true] rfl rfl 54 #[.int .u8 0,.bool false] HZ1.out ao rfl (by simp [Value.oneCell']) ?_
     refine hK.out _ _ (ab HB1.out HY1.out _) fun hHeld=>?_
     clear hK K
     refine dW 12 rfl ?_
     refine dN ?_
     have HBF:Hid (Below w0.heap.size w0 (w1.setRow w0.heap.size #[.int .u8 ↑gt,.bool true])):=J hHeld
     obtain ⟨y0,y1⟩:=ae (setRow_heap _ _ #[.int .u8 0,.bool false] #[.int .u8 ↑gt,.bool true] _ _ HZ1.out)
     have HYY:Hid (∀ W,Below (w1.setRow w0.heap.size #[.int .u8 ↑gt,.bool true]).heap.size (w1.setRow w0.heap.size #[.int .u8 ↑gt,.bool true]) W → W.cell? ⟨w0.heap.size,0,none⟩ = some (.int .u8 ↑gt) ∧ W.cell? ⟨w0.heap.size,1,none⟩ = some (.bool true)):=J (fun W hb=>⟨(hb.cell (p:=⟨w0.heap.size,0,none⟩) (World.block_lt_of_cell? _ _ y0)).trans y0,(hb.cell (p:=⟨w0.heap.size,1,none⟩) (World.block_lt_of_cell? _ _ y1)).trans y1⟩)
     generalize w1.setRow w0.heap.size #[.int .u8 ↑gt,.bool true] = wf at HBF HYY y0 y1 ⊢
     clear y0 y1 hHeld
     go_upto_region 8 with fail
     have HCF:=J (fun W (hb:Below wf.heap.size wf W)=>HCC.out W (HBF.out.trans (hb.mono HBF.out.size)))
     refine wp_region_held_drew (S:=fun W'=>Below wf.heap.size wf W') (by kernel_rfl) (Below.drew (Below.refl _ _)) (fun hHeld=>?_)
     refine db1 0 rfl ?_
     refine db1 1 rfl ?_
     refine db1 2 rfl ?_
     refine db1 3 rfl ?_
     refine db1 4 rfl ?_
     refine db1 5 rfl ?_
     refine db1 6 rfl ?_
     refine dA 7 rfl fun K hK=>?_
     go_simp
     refine (HIM0.out _ (HBF.out.trans (hHeld.mono HBF.out.size))).mono ?_
     rintro e w3 ⟨rfl,hb⟩
     have hH:Below wf.heap.size wf w3:=hHeld.trans (hb.mono hHeld.size)
     clear hb
     go_wp2_with fail
     refine hK.out _ _ hH (fun hHeld2=>?_)
     clear hH
     clear hK K hHeld
     have hHeld:=hHeld2
     clear hHeld2
     refine db1 8 rfl ?_
     refine db1 9 rfl ?_
     refine db1 10 rfl ?_
     refine dN ?_
     obtain ⟨y0,y1⟩:=HYY.out _ hHeld
     have HBB:=J (HB0.out.trans ((HBF.out.trans (hHeld.mono HBF.out.size)).mono HB0.out.size))
     clear hHeld
     go_wp2_with fail
     go_ret2
     rw [HR.out]
     exact ⟨rfl,HBB.out⟩
   | false =>
    have HR:=J (HRES3.out hlt rfl)
    clear HRES HRES2 HRES3 hlt
    go_enter Tryz.func85,Tryz.ntmps85
    go_upto_region 1 with fail
    generalize (w.alloc (.cells #[.int .u8 ↑op,.int .u32 ↑a,.int .u32 ↑b,.int .i64 c,.slice A4 l4 c4] 56)) = w0 at HX0 HB0 ⊢
    obtain ⟨X,hX⟩:∃ X,w.heap.size = X:=⟨_,rfl⟩
    rw [hX] at HX0
    have hXl:X < w0.heap.size:=(gL HX0.out)
    simp only [hX]
    obtain ⟨z0,z1,z2,z3,z4⟩:=cells5 HX0.out
    have HCC:=J (fun W (hb:Below w0.heap.size w0 W)=>And.intro (cells5 ((hb.block X hXl).trans HX0.out)) (H12.out W (HB0.out.trans (hb.mono HB0.out.size))))
    have HFN0:=J (fun W (hb:Below w0.heap.size w0 W)=>HFN.out W (HB0.out.trans (hb.mono HB0.out.size)))
    have HIM0:=J (fun W (hb:Below w0.heap.size w0 W)=>HIM.out W (HB0.out.trans (hb.mono HB0.out.size)))
    clear HFN HIM hXl
    have HFN:=HFN0
    clear HFN0 hX
    go_upto_region 7 with fail
    clear z0 z1 z2 z3 z4
    refine wp_region_held_drew (S:=fun W'=>Below w0.heap.size w0 W') (by kernel_rfl) (Below.drew (Below.refl _ _)) (fun hHeld=>?_)
    refine dj1 0 rfl ?_
    refine dj1 1 rfl ?_
    refine dj1 2 rfl ?_
    refine dj1 3 rfl ?_
    refine dj1 4 rfl ?_
    refine dj1 5 rfl ?_
    refine ai 6 10 rfl rfl (by kernel_rfl) (fun K hK=>?_) (fun K hK=>?_)
    ·try (rw [if_pos];case hc=>rfl)
     go_simp
     refine (HFN.out _ hHeld).mono ?_
     rintro e w1 ⟨rfl,hb⟩
     have hH:Below w0.heap.size w0 w1:=hHeld.trans (hb.mono hHeld.size)
     have hz1:w0.heap.size ≤ w1.heap.size:=hH.size
     go_wp2_with fail
     refine hK.out _ _ hH fun hHeld=>?_
     clear hK K
     refine dW 7 rfl ?_
     refine dW 8 rfl ?_
     refine dW 9 rfl ?_
     have HB1:Hid (Below w0.heap.size w0 (w1.alloc (.cells #[.int .u8 0,.bool false] 54))):=J (hHeld.alloc hHeld.size _)
     have HZ1:=J (heap_alloc_new w1 (.cells #[.int .u8 0,.bool false] 54))
     have HY1:Hid (w0.heap.size ≤ w1.heap.size):=J hz1
     refine dA 10 rfl fun K hK=>?_
     go_simp
     refine hK.out _ _ HB1.out fun hHeld=>?_
     clear hK K
     refine dA 11 rfl fun K hK=>?_
     refine wp_store_row 54 (.tmp 6) (.tmp 24) rfl w1.heap.size #[.int .u8 ↑gt,.bool false] rfl rfl 54 #[.int .u8 0,.bool false] HZ1.out ao rfl (by simp [Value.oneCell']) ?_
     refine hK.out _ _ (ab HB1.out HY1.out _) fun hHeld=>?_
     clear hK K
     refine dW 12 rfl ?_
     refine dN ?_
     have HBF:Hid (Below w0.heap.size w0 ((w1.alloc (.cells #[.int .u8 0,.bool false] 54)).setRow w1.heap.size #[.int .u8 ↑gt,.bool false])):=J hHeld
     obtain ⟨y0,y1⟩:=ae (setRow_heap _ _ #[.int .u8 0,.bool false] #[.int .u8 ↑gt,.bool false] _ _ HZ1.out)
     have HYY:Hid (∀ W,Below ((w1.alloc (.cells #[.int .u8 0,.bool false] 54)).setRow w1.heap.size #[.int .u8 ↑gt,.bool false]).heap.size ((w1.alloc (.cells #[.int .u8 0,.bool false] 54)).setRow w1.heap.size #[.int .u8 ↑gt,.bool false]) W → W.cell? ⟨w1.heap.size,0,none⟩ = some (.int .u8 ↑gt) ∧ W.cell? ⟨w1.heap.size,1,none⟩ = some (.bool false)):=J (fun W hb=>⟨(hb.cell (p:=⟨w1.heap.size,0,none⟩) (World.block_lt_of_cell? _ _ y0)).trans y0,(hb.cell (p:=⟨w1.heap.size,1,none⟩) (World.block_lt_of_cell? _ _ y1)).trans y1⟩)
     generalize (w1.alloc (.cells #[.int .u8 0,.bool false] 54)).setRow w1.heap.size #[.int .u8 ↑gt,.bool false] = wf at HBF HYY y0 y1 ⊢
     clear y0 y1 hHeld
     go_upto_region 8 with fail
     have HCF:=J (fun W (hb:Below wf.heap.size wf W)=>HCC.out W (HBF.out.trans (hb.mono HBF.out.size)))
     refine wp_region_held_drew (S:=fun W'=>Below wf.heap.size wf W') (by kernel_rfl) (Below.drew (Below.refl _ _)) (fun hHeld=>?_)
     refine db1 0 rfl ?_
     refine db1 1 rfl ?_
     refine db1 2 rfl ?_
     refine db1 3 rfl ?_
     refine db1 4 rfl ?_
     refine db1 5 rfl ?_
     refine db1 6 rfl ?_
     refine dA 7 rfl fun K hK=>?_
     go_simp
     refine (HIM0.out _ (HBF.out.trans (hHeld.mono HBF.out.size))).mono ?_
     rintro e w3 ⟨rfl,hb⟩
     have hH:Below wf.heap.size wf w3:=hHeld.trans (hb.mono hHeld.size)
     clear hb
     go_wp2_with fail
     refine hK.out _ _ hH (fun hHeld2=>?_)
     clear hH
     clear hK K hHeld
     have hHeld:=hHeld2
     clear hHeld2
     refine db1 8 rfl ?_
     refine db1 9 rfl ?_
     refine db1 10 rfl ?_
     refine dN ?_
     obtain ⟨y0,y1⟩:=HYY.out _ hHeld
     have HBB:=J (HB0.out.trans ((HBF.out.trans (hHeld.mono HBF.out.size)).mono HB0.out.size))
     clear hHeld
     go_wp2_with fail
     go_ret2
     rw [HR.out]
     dsimp only
     rw [HGT.out]
     exact ⟨rfl,HBB.out⟩
    ·try (rw [if_pos];case hc=>rfl)
     go_simp
     have hB0:Below w0.heap.size w0 (w0.drew.alloc (.cells #[.int .u8 0,.bool false] 54)):=hHeld.alloc hHeld.size _
     have hZ0:=heap_alloc_new w0.drew (.cells #[.int .u8 0,.bool false] 54)
     have hl0:w0.heap.size < (w0.drew.alloc (.cells #[.int .u8 0,.bool false] 54)).heap.size:=by simp
     refine hK.out _ _ hB0 fun hHeld=>?_
     clear hK K
     refine dA 6 rfl fun K hK=>?_
     go_simp
     refine (HFN.out _ hB0).mono ?_
     rintro e w1 ⟨rfl,hb⟩
     have hH:Below w0.heap.size w0 w1:=hB0.trans (hb.mono hB0.size)
     have HB1:Hid (Below w0.heap.size w0 w1):=J hH
     have HZ1:Hid (w1.heap[w0.heap.size]? = some (.cells #[.int .u8 0,.bool false] 54 (0,0))):=J ((hb.block _ hl0).trans hZ0)
     have HY1:Hid (w0.heap.size ≤ w0.heap.size):=J (Nat.le_refl _)
     go_wp2_with fail
     refine hK.out _ _ hH fun hHeld=>?_
     clear hK K
     refine dW 7 rfl ?_
     refine dW 8 rfl ?_
     refine dW 9 rfl ?_
     refine dA 11 rfl fun K hK=>?_
     refine wp_store_row 54 (.tmp 6) (.tmp 24) rfl w0.heap.size #[.int .u8 ↑gt,.bool false] rfl rfl 54 #[.int .u8 0,.bool false] HZ1.out ao rfl (by simp [Value.oneCell']) ?_
     refine hK.out _ _ (ab HB1.out HY1.out _) fun hHeld=>?_
     clear hK K
     refine dW 12 rfl ?_
     refine dN ?_
     have HBF:Hid (Below w0.heap.size w0 (w1.setRow w0.heap.size #[.int .u8 ↑gt,.bool false])):=J hHeld
     obtain ⟨y0,y1⟩:=ae (setRow_heap _ _ #[.int .u8 0,.bool false] #[.int .u8 ↑gt,.bool false] _ _ HZ1.out)
     have HYY:Hid (∀ W,Below (w1.setRow w0.heap.size #[.int .u8 ↑gt,.bool false]).heap.size (w1.setRow w0.heap.size #[.int .u8 ↑gt,.bool false]) W → W.cell? ⟨w0.heap.size,0,none⟩ = some (.int .u8 ↑gt) ∧ W.cell? ⟨w0.heap.size,1,none⟩ = some (.bool false)):=J (fun W hb=>⟨(hb.cell (p:=⟨w0.heap.size,0,none⟩) (World.block_lt_of_cell? _ _ y0)).trans y0,(hb.cell (p:=⟨w0.heap.size,1,none⟩) (World.block_lt_of_cell? _ _ y1)).trans y1⟩)
     generalize w1.setRow w0.heap.size #[.int .u8 ↑gt,.bool false] = wf at HBF HYY y0 y1 ⊢
     clear y0 y1 hHeld
     go_upto_region 8 with fail
     have HCF:=J (fun W (hb:Below wf.heap.size wf W)=>HCC.out W (HBF.out.trans (hb.mono HBF.out.size)))
     refine wp_region_held_drew (S:=fun W'=>Below wf.heap.size wf W') (by kernel_rfl) (Below.drew (Below.refl _ _)) (fun hHeld=>?_)
     refine db1 0 rfl ?_
     refine db1 1 rfl ?_
     refine db1 2 rfl ?_
     refine db1 3 rfl ?_
     refine db1 4 rfl ?_
     refine db1 5 rfl ?_
     refine db1 6 rfl ?_
     refine dA 7 rfl fun K hK=>?_
     go_simp
     refine (HIM0.out _ (HBF.out.trans (hHeld.mono HBF.out.size))).mono ?_
     rintro e w3 ⟨rfl,hb⟩
     have hH:Below wf.heap.size wf w3:=hHeld.trans (hb.mono hHeld.size)
     clear hb
     go_wp2_with fail
     refine hK.out _ _ hH (fun hHeld2=>?_)
     clear hH
     clear hK K hHeld
     have hHeld:=hHeld2
     clear hHeld2
     refine db1 8 rfl ?_
     refine db1 9 rfl ?_
     refine db1 10 rfl ?_
     refine dN ?_
     obtain ⟨y0,y1⟩:=HYY.out _ hHeld
     have HBB:=J (HB0.out.trans ((HBF.out.trans (hHeld.mono HBF.out.size)).mono HB0.out.size))
     clear hHeld
     go_wp2_with fail
     go_ret2
     rw [HR.out]
     dsimp only
     rw [HGT.out]
     exact ⟨rfl,HBB.out⟩
  ·have hd:(n3:Int) ≤ (a:Int):=by omega
   have hd2:n3 ≤ a:=by omega
   have HR:=J (HRES.out hd2)
   clear HRES HRES2 HRES3 hlt
   go_enter Tryz.func85,Tryz.ntmps85
   go_upto_region 1 with fail
   generalize (w.alloc (.cells #[.int .u8 ↑op,.int .u32 ↑a,.int .u32 ↑b,.int .i64 c,.slice A4 l4 c4] 56)) = w0 at HX0 HB0 ⊢
   obtain ⟨X,hX⟩:∃ X,w.heap.size = X:=⟨_,rfl⟩
   rw [hX] at HX0
   have hXl:X < w0.heap.size:=(gL HX0.out)
   simp only [hX]
   obtain ⟨z0,z1,z2,z3,z4⟩:=cells5 HX0.out
   have HCC:=J (fun W (hb:Below w0.heap.size w0 W)=>And.intro (cells5 ((hb.block X hXl).trans HX0.out)) (H12.out W (HB0.out.trans (hb.mono HB0.out.size))))
   have HFN0:=J (fun W (hb:Below w0.heap.size w0 W)=>HFN.out W (HB0.out.trans (hb.mono HB0.out.size)))
   have HIM0:=J (fun W (hb:Below w0.heap.size w0 W)=>HIM.out W (HB0.out.trans (hb.mono HB0.out.size)))
   clear HFN HIM hXl
   have HFN:=HFN0
   clear HFN0 hX
   go_upto_region 7 with fail
   clear z0 z1 z2 z3 z4
   refine wp_region_held_drew (S:=fun W'=>Below w0.heap.size w0 W') (by kernel_rfl) (Below.drew (Below.refl _ _)) (fun hHeld=>?_)
   refine dj1 0 rfl ?_
   refine dj1 1 rfl ?_
   refine dj1 2 rfl ?_
   refine dj1 3 rfl ?_
   refine dj1 4 rfl ?_
   refine dj1 5 rfl ?_
   refine ai 6 10 rfl rfl (by kernel_rfl) (fun K hK=>?_) (fun K hK=>?_)
   ·try (rw [if_pos];case hc=>rfl)
    go_simp
    refine (HFN.out _ hHeld).mono ?_
    rintro e w1 ⟨rfl,hb⟩
    have hH:Below w0.heap.size w0 w1:=hHeld.trans (hb.mono hHeld.size)
    have hz1:w0.heap.size ≤ w1.heap.size:=hH.size
    go_wp2_with fail
    refine hK.out _ _ hH fun hHeld=>?_
    clear hK K
    refine dW 7 rfl ?_
    refine dW 8 rfl ?_
    refine dW 9 rfl ?_
    have HB1:Hid (Below w0.heap.size w0 (w1.alloc (.cells #[.int .u8 0,.bool false] 54))):=J (hHeld.alloc hHeld.size _)
    have HZ1:=J (heap_alloc_new w1 (.cells #[.int .u8 0,.bool false] 54))
    have HY1:Hid (w0.heap.size ≤ w1.heap.size):=J hz1
    refine dA 10 rfl fun K hK=>?_
    go_simp
    refine hK.out _ _ HB1.out fun hHeld=>?_
    clear hK K
    refine dA 11 rfl fun K hK=>?_
    refine wp_store_row 54 (.tmp 6) (.tmp 24) rfl w1.heap.size #[.int .u8 ↑gt,.bool gm] rfl rfl 54 #[.int .u8 0,.bool false] HZ1.out ao rfl (by simp [Value.oneCell']) ?_
    refine hK.out _ _ (ab HB1.out HY1.out _) fun hHeld=>?_
    clear hK K
    refine dW 12 rfl ?_
    refine dN ?_
    have HBF:Hid (Below w0.heap.size w0 ((w1.alloc (.cells #[.int .u8 0,.bool false] 54)).setRow w1.heap.size #[.int .u8 ↑gt,.bool gm])):=J hHeld
    obtain ⟨y0,y1⟩:=ae (setRow_heap _ _ #[.int .u8 0,.bool false] #[.int .u8 ↑gt,.bool gm] _ _ HZ1.out)
    have HYY:Hid (∀ W,Below ((w1.alloc (.cells #[.int .u8 0,.bool false] 54)).setRow w1.heap.size #[.int .u8 ↑gt,.bool gm]).heap.size ((w1.alloc (.cells #[.int .u8 0,.bool false] 54)).setRow w1.heap.size #[.int .u8 ↑gt,.bool gm]) W → W.cell? ⟨w1.heap.size,0,none⟩ = some (.int .u8 ↑gt) ∧ W.cell? ⟨w1.heap.size,1,none⟩ = some (.bool gm)):=J (fun W hb=>⟨(hb.cell (p:=⟨w1.heap.size,0,none⟩) (World.block_lt_of_cell? _ _ y0)).trans y0,(hb.cell (p:=⟨w1.heap.size,1,none⟩) (World.block_lt_of_cell? _ _ y1)).trans y1⟩)
    generalize (w1.alloc (.cells #[.int .u8 0,.bool false] 54)).setRow w1.heap.size #[.int .u8 ↑gt,.bool gm] = wf at HBF HYY y0 y1 ⊢
    clear y0 y1 hHeld
    go_upto_region 8 with fail
    have HCF:=J (fun W (hb:Below wf.heap.size wf W)=>HCC.out W (HBF.out.trans (hb.mono HBF.out.size)))
    refine wp_region_held_drew (S:=fun W'=>Below wf.heap.size wf W') (by kernel_rfl) (Below.drew (Below.refl _ _)) (fun hHeld=>?_)
    refine db1 0 rfl ?_
    refine db1 1 rfl ?_
    refine db1 2 rfl ?_
    refine db1 3 rfl ?_
    refine db1 4 rfl ?_
    refine db1 5 rfl ?_
    refine db1 6 rfl ?_
    refine dA 7 rfl fun K hK=>?_
    go_simp
    refine (HIM0.out _ (HBF.out.trans (hHeld.mono HBF.out.size))).mono ?_
    rintro e w3 ⟨rfl,hb⟩
    have hH:Below wf.heap.size wf w3:=hHeld.trans (hb.mono hHeld.size)
    clear hb
    go_wp2_with fail
    refine hK.out _ _ hH (fun hHeld2=>?_)
    clear hH
    clear hK K hHeld
    have hHeld:=hHeld2
    clear hHeld2
    refine db1 8 rfl ?_
    refine db1 9 rfl ?_
    refine db1 10 rfl ?_
    refine dN ?_
    obtain ⟨y0,y1⟩:=HYY.out _ hHeld
    have HBB:=J (HB0.out.trans ((HBF.out.trans (hHeld.mono HBF.out.size)).mono HB0.out.size))
    clear hHeld
    go_wp2_with fail
    go_ret2
    rw [HR.out]
    exact ⟨rfl,HBB.out⟩
   ·try (rw [if_pos];case hc=>rfl)
    go_simp
    have hB0:Below w0.heap.size w0 (w0.drew.alloc (.cells #[.int .u8 0,.bool false] 54)):=hHeld.alloc hHeld.size _
    have hZ0:=heap_alloc_new w0.drew (.cells #[.int .u8 0,.bool false] 54)
    have hl0:w0.heap.size < (w0.drew.alloc (.cells #[.int .u8 0,.bool false] 54)).heap.size:=by simp
    refine hK.out _ _ hB0 fun hHeld=>?_
    clear hK K
    refine dA 6 rfl fun K hK=>?_
    go_simp
    refine (HFN.out _ hB0).mono ?_
    rintro e w1 ⟨rfl,hb⟩
    have hH:Below w0.heap.size w0 w1:=hB0.trans (hb.mono hB0.size)
    have HB1:Hid (Below w0.heap.size w0 w1):=J hH
    have HZ1:Hid (w1.heap[w0.heap.size]? = some (.cells #[.int .u8 0,.bool false] 54 (0,0))):=J ((hb.block _ hl0).trans hZ0)
    have HY1:Hid (w0.heap.size ≤ w0.heap.size):=J (Nat.le_refl _)
    go_wp2_with fail
    refine hK.out _ _ hH fun hHeld=>?_
    clear hK K
    refine dW 7 rfl ?_
    refine dW 8 rfl ?_
    refine dW 9 rfl ?_
    refine dA 11 rfl fun K hK=>?_
    refine wp_store_row 54 (.tmp 6) (.tmp 24) rfl w0.heap.size #[.int .u8 ↑gt,.bool gm] rfl rfl 54 #[.int .u8 0,.bool false] HZ1.out ao rfl (by simp [Value.oneCell']) ?_
    refine hK.out _ _ (ab HB1.out HY1.out _) fun hHeld=>?_
    clear hK K
    refine dW 12 rfl ?_
    refine dN ?_
    have HBF:Hid (Below w0.heap.size w0 (w1.setRow w0.heap.size #[.int .u8 ↑gt,.bool gm])):=J hHeld
    obtain ⟨y0,y1⟩:=ae (setRow_heap _ _ #[.int .u8 0,.bool false] #[.int .u8 ↑gt,.bool gm] _ _ HZ1.out)
    have HYY:Hid (∀ W,Below (w1.setRow w0.heap.size #[.int .u8 ↑gt,.bool gm]).heap.size (w1.setRow w0.heap.size #[.int .u8 ↑gt,.bool gm]) W → W.cell? ⟨w0.heap.size,0,none⟩ = some (.int .u8 ↑gt) ∧ W.cell? ⟨w0.heap.size,1,none⟩ = some (.bool gm)):=J (fun W hb=>⟨(hb.cell (p:=⟨w0.heap.size,0,none⟩) (World.block_lt_of_cell? _ _ y0)).trans y0,(hb.cell (p:=⟨w0.heap.size,1,none⟩) (World.block_lt_of_cell? _ _ y1)).trans y1⟩)
    generalize w1.setRow w0.heap.size #[.int .u8 ↑gt,.bool gm] = wf at HBF HYY y0 y1 ⊢
    clear y0 y1 hHeld
    go_upto_region 8 with fail
    have HCF:=J (fun W (hb:Below wf.heap.size wf W)=>HCC.out W (HBF.out.trans (hb.mono HBF.out.size)))
    refine wp_region_held_drew (S:=fun W'=>Below wf.heap.size wf W') (by kernel_rfl) (Below.drew (Below.refl _ _)) (fun hHeld=>?_)
    refine db1 0 rfl ?_
    refine db1 1 rfl ?_
    refine db1 2 rfl ?_
    refine db1 3 rfl ?_
    refine db1 4 rfl ?_
    refine db1 5 rfl ?_
    refine db1 6 rfl ?_
    refine dA 7 rfl fun K hK=>?_
    go_simp
    refine (HIM0.out _ (HBF.out.trans (hHeld.mono HBF.out.size))).mono ?_
    rintro e w3 ⟨rfl,hb⟩
    have hH:Below wf.heap.size wf w3:=hHeld.trans (hb.mono hHeld.size)
    clear hb
    go_wp2_with fail
    refine hK.out _ _ hH (fun hHeld2=>?_)
    clear hH
    clear hK K hHeld
    have hHeld:=hHeld2
    clear hHeld2
    refine db1 8 rfl ?_
    refine db1 9 rfl ?_
    refine db1 10 rfl ?_
    refine dN ?_
    obtain ⟨y0,y1⟩:=HYY.out _ hHeld
    have HBB:=J (HB0.out.trans ((HBF.out.trans (hHeld.mono HBF.out.size)).mono HB0.out.size))
    clear hHeld
    go_wp2_with fail
    go_ret2
    rw [HR.out]
    exact ⟨rfl,HBB.out⟩
 ·have e35:((op:Int) == 35) = false:=nB (by omega)
  rw [show Va.giveE m op a = (0,110) from by unfold Va.giveE;rw [if_neg h35,if_neg h65,if_neg h66]]
  clear hl3 h65 h66 h35
  go_enter Tryz.func85,Tryz.ntmps85
  go_wp2_with fail
  go_ret2
  exact ⟨rfl,HB0.out⟩
theorem dc (h:VIn w P sp mp m v1 v2 v3 v4 v5 v6 v7 v8 v9 v10 hv) (xs:List I) (v:Value) (hxs:aa w (· < w.heap.size) xs v) (t:UInt8) (tn:Nat) (htn:t.toNat = tn) :
  Calls Tryz.prog 64 #[.pointer (some ⟨P,0,none⟩),v,.int .u8 ↑tn] w fun e w'=>e = .returned (.int .i64 ((Va.constE m xs t:Nat):Int)) ∧ Below w.heap.size w w':=by
 obtain ⟨A,c,rfl,hc,hcm,_,hL⟩:=hxs
 by_cases hn:xs.length = 1
 ·obtain ⟨x,rfl⟩:∃ x,xs = [x]:=List.length_eq_one_iff.1 hn
  obtain ⟨g,o,cs,rfl,_,hg,⟨A4,c4,rfl,hwf,_,_,_⟩,hcs⟩:=hL 0 x rfl
  have k0:w.cell? ⟨g,o,none⟩ = some (.int .u8 ↑x.op):=hcs 0 _ rfl
  have k1:w.cell? ⟨g,o + 1,none⟩ = some (.int .u32 ↑x.a):=hcs 1 _ rfl
  have k2:w.cell? ⟨g,o + 2,none⟩ = some (.int .u32 ↑x.b):=hcs 2 _ rfl
  have k3:w.cell? ⟨g,o + 3,none⟩ = some (.int .i64 x.c):=hcs 3 _ rfl
  have k4:w.cell? ⟨g,o + 4,none⟩ = some (.slice A4 x.l.length c4):=hcs 4 _ rfl
  have HG:=J (vgives_any h x.op x.a x.b x.c A4 x.l.length c4 hwf.2.1)
  have HR:=J (Va.constE_one m x t)
  clear h hcs hL hn hwf
  generalize Va.giveE m x.op x.a = G at HG HR
  obtain ⟨gt,ge⟩:=G
  dsimp only at HG HR
  obtain ⟨gn,hgn⟩:∃ n,gt.toNat = n:=⟨_,rfl⟩
  rw [hgn] at HG
  obtain ⟨op,a,b,cc,l⟩:=x
  dsimp only at k0 k1 k2 k3 k4 HG HR
  generalize l.length = ll at k4 HG
  by_cases he:ge = 0
  ·subst he
   rw [if_pos rfl] at HR
   have hi:(1:Int) ≤ (c:Int):=by simp at hc;omega
   by_cases heq:gt = t
   ·subst heq
    have:gn = tn:=by omega
    subst this
    have HR2:Hid (Va.constE m [⟨op,a,b,cc,l⟩] gt = 0):=J (by rw [HR.out];simp [Va.okE])
    have hq:((gn:Int) == (gn:Int)) = true:=by simp
    clear hgn htn HR hc
    go_enter Tryz.func64,Tryz.ntmps64
    go_wp2_with (first | (go_at_call 85;refine HG.out.mono ?_;rintro e w1 ⟨rfl,hb⟩;have HB:=J hb;clear hb) | (go_at_call 56;refine (al true 100 100 _ rfl).mono ?_;rintro e w2 ⟨rfl,rfl⟩))
    go_ret
    rw [HR2.out]
    exact ⟨rfl,HB.out⟩
   ·have hne:¬ gn = tn:=fun e=>heq (UInt8.toNat_inj.1 (by omega))
    have HR2:Hid (Va.constE m [⟨op,a,b,cc,l⟩] t = 100):=J (by rw [HR.out];simp [Va.okE,heq])
    have hq:((gn:Int) == (tn:Int)) = false:=nB (by omega)
    clear hgn htn HR heq hne hc
    go_enter Tryz.func64,Tryz.ntmps64
    go_wp2_with (first | (go_at_call 85;refine HG.out.mono ?_;rintro e w1 ⟨rfl,hb⟩;have HB:=J hb;clear hb) | (go_at_call 56;refine (al false 100 100 _ rfl).mono ?_;rintro e w2 ⟨rfl,rfl⟩))
    go_ret
    rw [HR2.out]
    exact ⟨rfl,HB.out⟩
  ·rw [if_neg he] at HR
   have hq:((ge:Int) == 0) = false:=nB (by omega)
   have hq2:((ge:Int) != 0) = true:=by rw [bne,hq];rfl
   have hq3:¬ ((ge:Int) = 0):=by omega
   clear hgn htn he hc
   go_enter Tryz.func64,Tryz.ntmps64
   go_wp2_with (first | (go_at_call 85;refine HG.out.mono ?_;rintro e w1 ⟨rfl,hb⟩;have HB:=J hb;clear hb) | (go_at_call 56;refine (al true 100 100 _ rfl).mono ?_;rintro e w2 ⟨rfl,rfl⟩))
   go_ret
   rw [HR.out]
   exact ⟨rfl,HB.out⟩
 ·have HR:Hid (Va.constE m xs t = 110):=J (by
   unfold Va.constE
   split
   ·simp at hn
   ·rfl)
  obtain ⟨n,e⟩:∃ n,xs.length = n:=⟨_,rfl⟩
  rw [e] at hn ⊢
  have hq:((n:Int) == 1) = false:=nB (by omega)
  have hq2:((n:Int) != 1) = true:=by rw [bne,hq];rfl
  have hq3:¬ ((n:Int) = 1):=by omega
  clear e hL h hc
  go_enter Tryz.func64,Tryz.ntmps64
  go_wp2_with fail
  go_ret
  rw [HR.out]
  exact ⟨rfl,Below.refl _ _⟩
end
structure RC where
 w:World
 m:M
 sp:Nat
 X:Nat
 Y:Nat
 v1:Value
 v2:Value
 v3:Value
 v4:Value
 v5:Value
 v6:Value
 v7:Value
 v8:Value
 v9:Value
 v10:Value
 hv:Value
 hs:List Nat
structure RC.Good (C:RC):Prop where
 rep:RepM C.w (· < C.w.heap.size) C.m C.v1 C.v2 C.v3 C.v4 C.v5 C.v6 C.v7 C.v8 C.v9 C.v10
 space:aC C.w C.sp C.m
 hts:aa C.w (· < C.w.heap.size) (C.hs.map Va.Ht.mk) C.hv
 fit:FitR C.m
 good:Va.Good C.m C.hs
 hX:C.w.heap.size ≤ C.X
 hY:C.w.heap.size ≤ C.Y
 ne:C.X ≠ C.Y
structure Nt (C:RC) (W0 W:World) (b:Bool):Prop where
 md:Mod (· = C.Y) W0 W
 bel:Below C.w.heap.size C.w W
 cx:W.heap[C.X]? = some (.cells #[C.v1,C.v2,C.v3,C.v4,C.v5,C.v6,C.v7,.bool C.m.hasStart,.int .u32 ↑C.m.start,C.v8,C.v9,C.v10,.pointer (some ⟨C.sp,0,none⟩),C.hv,.func (.func 47) #[] #[.pointer (some ⟨C.Y,0,none⟩)]] 122 (0,0))
 cy:W.heap[C.Y]? = some (.cells #[.bool b] 4 (0,0))
section
variable {C:RC} {W0 W W':World} {b:Bool}
theorem Nt.on (h:Nt C W0 W b) (hb:Below W.heap.size W W'):Nt C W0 W' b :=
 ⟨h.md.trans (T':=fun _=>False) (Mod.of_below hb) (fun _ _ h=>h.elim),h.bel.trans (hb.mono h.bel.size),(hb.block _ (gL h.cx)).trans h.cx,(hb.block _ (gL h.cy)).trans h.cy⟩
theorem Nt.put (h:Nt C W0 W b) (hC:C.Good) (b':Bool):Nt C W0 (W.setCell ⟨C.Y,0,none⟩ (.bool b')) b':=by
 have hm:Mod (· = C.Y) W (W.setCell ⟨C.Y,0,none⟩ (.bool b')):=(Mod.refl _ W).setCell (T:=(· = C.Y)) (p:=⟨C.Y,0,none⟩) (fun _=>rfl) _
 exact ⟨h.md.setCell (p:=⟨C.Y,0,none⟩) (fun _=>rfl) _,h.bel.trans (hm.below h.bel.size (fun k hk e=>by have:=hC.hY;omega)),hm.heap h.cx hC.ne,heap_setCell_same W C.Y 0 _ _ _ h.cy⟩
theorem Nt.rep (h:Nt C W0 W b) (hC:C.Good):RepM W (· < W.heap.size) C.m C.v1 C.v2 C.v3 C.v4 C.v5 C.v6 C.v7 C.v8 C.v9 C.v10:=hC.rep.grow h.bel
theorem Nt.recv (h:Nt C W0 W b) (hC:C.Good):Recv W (some ⟨C.sp,0,none⟩) C.m:=.inl ⟨C.sp,rfl,hC.space.grow h.bel⟩
theorem aq (hC:C.Good) (n k:Nat) (h:Nt C W0 W b) :
  Calls Tryz.prog 47 #[.int .u64 ↑n,.int .u64 ↑k,.pointer (some ⟨C.Y,0,none⟩)] W fun e W'=>e = .returned (.tuple #[]) ∧ Nt C W0 W' (b || decide (k < n)) ∧ Mod (· = C.Y) W W':=by
 have HM:=J ((Mod.refl _ W).setCell (T:=(· = C.Y)) (p:=⟨C.Y,0,none⟩) (fun _=>rfl) (.bool (b || decide (k < n))))
 have z0:=cellV h.cy 0 _ rfl
 have f0:=frozen_of_row _ C.Y 0 _ _ h.cy
 have HP:=J (h.put hC (b || decide (k < n)))
 clear h hC
 cases b with
 | true =>
  go_enter Tryz.func47,Tryz.ntmps47
  go_wp2_with fail
  go_end0
  exact ⟨rfl,HP.out,HM.out⟩
 | false =>
  by_cases hkn:k < n
  ·have h1:(k:Int) < (n:Int):=by omega
   rw [decide_eq_true hkn] at HP HM
   have h2:decide (k < n) = true:=decide_eq_true hkn
   go_enter Tryz.func47,Tryz.ntmps47
   go_wp2_with fail
   go_end0
   rw [h2]
   exact ⟨rfl,HP.out,HM.out⟩
  ·have h1:decide ((k:Int) < (n:Int)) = false:=decide_eq_false (by omega)
   rw [decide_eq_false hkn] at HP HM
   have h2:decide (k < n) = false:=decide_eq_false hkn
   go_enter Tryz.func47,Tryz.ntmps47
   go_wp2_with fail
   go_end0
   rw [h2]
   exact ⟨rfl,HP.out,HM.out⟩
theorem dK (A:Option Addr) (n c:Nat) (hn:n ≤ 4000000) (w:World):Calls Tryz.prog 70 #[.slice A n c] w fun e w'=>e = .returned (.int .u64 ↑n) ∧ w = w':=by
 have hw:IntKind.u64.wrap (n:Int) = (n:Int):=IntWalk.u64_in _ (by omega)
 go_enter Tryz.func70,Tryz.ntmps70
 go_wp2_with fail
 go_ret
 exact ⟨rfl,rfl⟩
theorem eo (A:Option Addr) (n c:Nat) (hn:n ≤ 4000000) (w:World):Calls Tryz.prog 71 #[.slice A n c] w fun e w'=>e = .returned (.int .u64 ↑n) ∧ w = w':=by
 have hw:IntKind.u64.wrap (n:Int) = (n:Int):=IntWalk.u64_in _ (by omega)
 go_enter Tryz.func71,Tryz.ntmps71
 go_wp2_with fail
 go_ret
 exact ⟨rfl,rfl⟩
theorem cp (A:Option Addr) (n c:Nat) (hn:n ≤ 4000000) (w:World):Calls Tryz.prog 72 #[.slice A n c] w fun e w'=>e = .returned (.int .u64 ↑n) ∧ w = w':=by
 have hw:IntKind.u64.wrap (n:Int) = (n:Int):=IntWalk.u64_in _ (by omega)
 go_enter Tryz.func72,Tryz.ntmps72
 go_wp2_with fail
 go_ret
 exact ⟨rfl,rfl⟩
theorem en (A:Option Addr) (n c:Nat) (hn:n ≤ 4000000) (w:World):Calls Tryz.prog 73 #[.slice A n c] w fun e w'=>e = .returned (.int .u64 ↑n) ∧ w = w':=by
 have hw:IntKind.u64.wrap (n:Int) = (n:Int):=IntWalk.u64_in _ (by omega)
 go_enter Tryz.func73,Tryz.ntmps73
 go_wp2_with fail
 go_ret
 exact ⟨rfl,rfl⟩
theorem fw (A:Option Addr) (n c:Nat) (hn:n ≤ 4000000) (w:World):Calls Tryz.prog 74 #[.slice A n c] w fun e w'=>e = .returned (.int .u64 ↑n) ∧ w = w':=by
 have hw:IntKind.u64.wrap (n:Int) = (n:Int):=IntWalk.u64_in _ (by omega)
 go_enter Tryz.func74,Tryz.ntmps74
 go_wp2_with fail
 go_ret
 exact ⟨rfl,rfl⟩
theorem fu (A:Option Addr) (n c:Nat) (hn:n ≤ 4000000) (w:World):Calls Tryz.prog 75 #[.slice A n c] w fun e w'=>e = .returned (.int .u64 ↑n) ∧ w = w':=by
 have hw:IntKind.u64.wrap (n:Int) = (n:Int):=IntWalk.u64_in _ (by omega)
 go_enter Tryz.func75,Tryz.ntmps75
 go_wp2_with fail
 go_ret
 exact ⟨rfl,rfl⟩
theorem cP (A:Option Addr) (n c:Nat) (hn:n ≤ 4000000) (w:World):Calls Tryz.prog 76 #[.slice A n c] w fun e w'=>e = .returned (.int .u64 ↑n) ∧ w = w':=by
 have hw:IntKind.u64.wrap (n:Int) = (n:Int):=IntWalk.u64_in _ (by omega)
 go_enter Tryz.func76,Tryz.ntmps76
 go_wp2_with fail
 go_ret
 exact ⟨rfl,rfl⟩
theorem eB (A:Option Addr) (n c:Nat) (hn:n ≤ 4000000) (w:World):Calls Tryz.prog 77 #[.slice A n c] w fun e w'=>e = .returned (.int .u64 ↑n) ∧ w = w':=by
 have hw:IntKind.u64.wrap (n:Int) = (n:Int):=IntWalk.u64_in _ (by omega)
 go_enter Tryz.func77,Tryz.ntmps77
 go_wp2_with fail
 go_ret
 exact ⟨rfl,rfl⟩
theorem rlists_any (hC:C.Good) (h:Nt C W0 W b) :
  Calls Tryz.prog 48 #[.pointer (some ⟨C.X,0,none⟩)] W fun e W'=>e = .returned (.tuple #[]) ∧ Nt C W0 W' (((((((b || decide (256 < C.m.types.length)) || decide (64 < C.m.imports.length)) || decide (512 < C.m.funcs.length)) || decide (128 < count C.m 3)) || decide (128 < C.m.exports.length)) || decide (64 < C.m.elems.length)) || decide (64 < C.m.datas.length)):=by
 have HN:=J h
 have HC:=J hC
 have HS6:=J (Lots.some hC.fit.1.lots)
 have hcg:count C.m 3 ≤ 4000000:=by rw [← cE];exact HS6.out.globs
 obtain ⟨A_types,c_types,e_types,_⟩:=hC.rep.types
 have hl_types:C.m.types.length ≤ 4000000:=Nat.le_trans hC.fit.1.lots.types (by decide)
 obtain ⟨n_types,f_types⟩:∃ n,C.m.types.length = n:=⟨_,rfl⟩
 rw [f_types] at e_types hl_types ⊢
 have HL_types:=J hl_types
 have HE_types:=J e_types
 obtain ⟨A_imports,c_imports,e_imports,_⟩:=hC.rep.imports
 have hl_imports:C.m.imports.length ≤ 4000000:=Nat.le_trans hC.fit.1.lots.imports (by decide)
 obtain ⟨n_imports,f_imports⟩:∃ n,C.m.imports.length = n:=⟨_,rfl⟩
 rw [f_imports] at e_imports hl_imports ⊢
 have HL_imports:=J hl_imports
 have HE_imports:=J e_imports
 obtain ⟨A_funcs,c_funcs,e_funcs,_⟩:=hC.rep.funcs
 have hl_funcs:C.m.funcs.length ≤ 4000000:=Nat.le_trans hC.fit.1.lots.funcs (by decide)
 obtain ⟨n_funcs,f_funcs⟩:∃ n,C.m.funcs.length = n:=⟨_,rfl⟩
 rw [f_funcs] at e_funcs hl_funcs ⊢
 have HL_funcs:=J hl_funcs
 have HE_funcs:=J e_funcs
 obtain ⟨n_globs,e_globs⟩:∃ n,count C.m 3 = n:=⟨_,rfl⟩
 have HCN:=J e_globs
 rw [e_globs] at hcg ⊢
 obtain ⟨A_exports,c_exports,e_exports,_⟩:=hC.rep.exports
 have hl_exports:C.m.exports.length ≤ 4000000:=Nat.le_trans hC.fit.1.lots.exports (by decide)
 obtain ⟨n_exports,f_exports⟩:∃ n,C.m.exports.length = n:=⟨_,rfl⟩
 rw [f_exports] at e_exports hl_exports ⊢
 have HL_exports:=J hl_exports
 have HE_exports:=J e_exports
 obtain ⟨A_elems,c_elems,e_elems,_⟩:=hC.rep.elems
 have hl_elems:C.m.elems.length ≤ 4000000:=Nat.le_trans hC.fit.1.elems.1 (by decide)
 obtain ⟨n_elems,f_elems⟩:∃ n,C.m.elems.length = n:=⟨_,rfl⟩
 rw [f_elems] at e_elems hl_elems ⊢
 have HL_elems:=J hl_elems
 have HE_elems:=J e_elems
 obtain ⟨A_datas,c_datas,e_datas,_⟩:=hC.rep.datas
 have hl_datas:C.m.datas.length ≤ 4000000:=Nat.le_trans hC.fit.1.datas.1 (by decide)
 obtain ⟨n_datas,f_datas⟩:∃ n,C.m.datas.length = n:=⟨_,rfl⟩
 rw [f_datas] at e_datas hl_datas ⊢
 have HL_datas:=J hl_datas
 have HE_datas:=J e_datas
 have hwg:IntKind.u64.wrap (n_globs:Int) = (n_globs:Int):=IntWalk.u64_in _ (by omega)
 clear h hC hcg e_globs hl_types f_types e_types hl_imports f_imports e_imports hl_funcs f_funcs e_funcs hl_exports f_exports e_exports hl_elems f_elems e_elems hl_datas f_datas e_datas
 go_enter Tryz.func48,Tryz.ntmps48
 go_wp2_with fail
 have HN2:=J (HN.out.on (Below.drew (Below.refl _ _)))
 clear HN
 have HN:=HN2
 clear HN2
 refine wp_region_held_drew (S:=fun W'=>W'.heap[C.X]? = some (.cells #[C.v1,C.v2,C.v3,C.v4,C.v5,C.v6,C.v7,.bool C.m.hasStart,.int .u32 ↑C.m.start,C.v8,C.v9,C.v10,.pointer (some ⟨C.sp,0,none⟩),C.hv,.func (.func 47) #[] #[.pointer (some ⟨C.Y,0,none⟩)]] 122 (0,0))) (by kernel_rfl) (HN.out.cx) (fun hHeld=>?_)
 refine dq1 0 rfl ?_
 refine dq1 1 rfl ?_
 refine dq1 2 rfl ?_
 refine dq1 3 rfl ?_
 refine dq1 4 rfl ?_
 refine dq1 5 rfl ?_
 refine dq1 6 rfl ?_
 refine dq1 7 rfl ?_
 refine dq1 8 rfl ?_
 refine dA 9 rfl fun K hK=>?_
 go_simp
 go_at_call 70
 refine (dK _ _ _ HL_types.out _).mono ?_
 rintro e w1 ⟨rfl,rfl⟩
 refine hK.out _ _ (hHeld) fun hHeld=>?_
 clear hK K
 refine dA 10 rfl fun K hK=>?_
 go_simp
 go_at_call 47
 refine (aq HC.out n_types 256 HN.out).mono ?_
 rintro e w2 ⟨rfl,hn2,hm2⟩
 have HN2:=J hn2
 clear HN hn2 hm2
 have HN:=HN2
 clear HN2
 refine hK.out _ _ (HN.out.cx) fun hHeld=>?_
 clear hK K
 refine dN ?_
 go_wp2_with fail
 have HN2:=J (HN.out.on (Below.drew (Below.refl _ _)))
 clear HN
 have HN:=HN2
 clear HN2
 refine wp_region_held_drew (S:=fun W'=>W'.heap[C.X]? = some (.cells #[C.v1,C.v2,C.v3,C.v4,C.v5,C.v6,C.v7,.bool C.m.hasStart,.int .u32 ↑C.m.start,C.v8,C.v9,C.v10,.pointer (some ⟨C.sp,0,none⟩),C.hv,.func (.func 47) #[] #[.pointer (some ⟨C.Y,0,none⟩)]] 122 (0,0))) (by kernel_rfl) (HN.out.cx) (fun hHeld=>?_)
 refine dr1 0 rfl ?_
 refine dr1 1 rfl ?_
 refine dr1 2 rfl ?_
 refine dr1 3 rfl ?_
 refine dr1 4 rfl ?_
 refine dr1 5 rfl ?_
 refine dr1 6 rfl ?_
 refine dr1 7 rfl ?_
 refine dr1 8 rfl ?_
 refine dA 9 rfl fun K hK=>?_
 go_simp
 go_at_call 71
 refine (eo _ _ _ HL_imports.out _).mono ?_
 rintro e w1 ⟨rfl,rfl⟩
 refine hK.out _ _ (hHeld) fun hHeld=>?_
 clear hK K
 refine dA 10 rfl fun K hK=>?_
 go_simp
 go_at_call 47
 refine (aq HC.out n_imports 64 HN.out).mono ?_
 rintro e w2 ⟨rfl,hn2,hm2⟩
 have HN2:=J hn2
 clear HN hn2 hm2
 have HN:=HN2
 clear HN2
 refine hK.out _ _ (HN.out.cx) fun hHeld=>?_
 clear hK K
 refine dN ?_
 go_wp2_with fail
 have HN2:=J (HN.out.on (Below.drew (Below.refl _ _)))
 clear HN
 have HN:=HN2
 clear HN2
 refine wp_region_held_drew (S:=fun W'=>W'.heap[C.X]? = some (.cells #[C.v1,C.v2,C.v3,C.v4,C.v5,C.v6,C.v7,.bool C.m.hasStart,.int .u32 ↑C.m.start,C.v8,C.v9,C.v10,.pointer (some ⟨C.sp,0,none⟩),C.hv,.func (.func 47) #[] #[.pointer (some ⟨C.Y,0,none⟩)]] 122 (0,0))) (by kernel_rfl) (HN.out.cx) (fun hHeld=>?_)
 refine ds1 0 rfl ?_
 refine ds1 1 rfl ?_
 refine ds1 2 rfl ?_
 refine ds1 3 rfl ?_
 refine ds1 4 rfl ?_
 refine ds1 5 rfl ?_
 refine ds1 6 rfl ?_
 refine ds1 7 rfl ?_
 refine ds1 8 rfl ?_
 refine dA 9 rfl fun K hK=>?_
 go_simp
 go_at_call 72
 refine (cp _ _ _ HL_funcs.out _).mono ?_
 rintro e w1 ⟨rfl,rfl⟩
 refine hK.out _ _ (hHeld) fun hHeld=>?_
 clear hK K
 refine dA 10 rfl fun K hK=>?_
 go_simp
 go_at_call 47
 refine (aq HC.out n_funcs 512 HN.out).mono ?_
 rintro e w2 ⟨rfl,hn2,hm2⟩
 have HN2:=J hn2
 clear HN hn2 hm2
 have HN:=HN2
 clear HN2
 refine hK.out _ _ (HN.out.cx) fun hHeld=>?_
 clear hK K
 refine dN ?_
 go_wp2_with fail
 have HN2:=J (HN.out.on (Below.drew (Below.refl _ _)))
 clear HN
 have HN:=HN2
 clear HN2
 refine wp_region_held_drew (S:=fun W'=>W'.heap[C.X]? = some (.cells #[C.v1,C.v2,C.v3,C.v4,C.v5,C.v6,C.v7,.bool C.m.hasStart,.int .u32 ↑C.m.start,C.v8,C.v9,C.v10,.pointer (some ⟨C.sp,0,none⟩),C.hv,.func (.func 47) #[] #[.pointer (some ⟨C.Y,0,none⟩)]] 122 (0,0))) (by kernel_rfl) (HN.out.cx) (fun hHeld=>?_)
 refine dt1 0 rfl ?_
 refine dt1 1 rfl ?_
 refine dt1 2 rfl ?_
 refine dt1 3 rfl ?_
 refine dt1 4 rfl ?_
 refine dt1 5 rfl ?_
 refine dt1 6 rfl ?_
 refine dt1 7 rfl ?_
 refine dA 8 rfl fun K hK=>?_
 go_simp
 go_at_call 29
 refine (bc _ C.m 3 (by decide) _ (HN.out.recv HC.out) HS6.out).mono ?_
 rintro e w1 ⟨rfl,hb1⟩
 have HN2:=J (HN.out.on hb1)
 clear HN hb1
 have HN:=HN2
 clear HN2
 rw [HCN.out]
 refine hK.out _ _ (HN.out.cx) fun hHeld=>?_
 clear hK K
 refine dt1 9 rfl ?_
 refine dA 10 rfl fun K hK=>?_
 go_simp
 go_at_call 47
 refine (aq HC.out n_globs 128 HN.out).mono ?_
 rintro e w2 ⟨rfl,hn2,hm2⟩
 have HN2:=J hn2
 clear HN hn2 hm2
 have HN:=HN2
 clear HN2
 refine hK.out _ _ (HN.out.cx) fun hHeld=>?_
 clear hK K
 refine dN ?_
 go_wp2_with fail
 have HN2:=J (HN.out.on (Below.drew (Below.refl _ _)))
 clear HN
 have HN:=HN2
 clear HN2
 refine wp_region_held_drew (S:=fun W'=>W'.heap[C.X]? = some (.cells #[C.v1,C.v2,C.v3,C.v4,C.v5,C.v6,C.v7,.bool C.m.hasStart,.int .u32 ↑C.m.start,C.v8,C.v9,C.v10,.pointer (some ⟨C.sp,0,none⟩),C.hv,.func (.func 47) #[] #[.pointer (some ⟨C.Y,0,none⟩)]] 122 (0,0))) (by kernel_rfl) (HN.out.cx) (fun hHeld=>?_)
 refine du1 0 rfl ?_
 refine du1 1 rfl ?_
 refine du1 2 rfl ?_
 refine du1 3 rfl ?_
 refine du1 4 rfl ?_
 refine du1 5 rfl ?_
 refine du1 6 rfl ?_
 refine du1 7 rfl ?_
 refine du1 8 rfl ?_
 refine dA 9 rfl fun K hK=>?_
 go_simp
 go_at_call 73
 refine (en _ _ _ HL_exports.out _).mono ?_
 rintro e w1 ⟨rfl,rfl⟩
 refine hK.out _ _ (hHeld) fun hHeld=>?_
 clear hK K
 refine dA 10 rfl fun K hK=>?_
 go_simp
 go_at_call 47
 refine (aq HC.out n_exports 128 HN.out).mono ?_
 rintro e w2 ⟨rfl,hn2,hm2⟩
 have HN2:=J hn2
 clear HN hn2 hm2
 have HN:=HN2
 clear HN2
 refine hK.out _ _ (HN.out.cx) fun hHeld=>?_
 clear hK K
 refine dN ?_
 go_wp2_with fail
 have HN2:=J (HN.out.on (Below.drew (Below.refl _ _)))
 clear HN
 have HN:=HN2
 clear HN2
 refine wp_region_held_drew (S:=fun W'=>W'.heap[C.X]? = some (.cells #[C.v1,C.v2,C.v3,C.v4,C.v5,C.v6,C.v7,.bool C.m.hasStart,.int .u32 ↑C.m.start,C.v8,C.v9,C.v10,.pointer (some ⟨C.sp,0,none⟩),C.hv,.func (.func 47) #[] #[.pointer (some ⟨C.Y,0,none⟩)]] 122 (0,0))) (by kernel_rfl) (HN.out.cx) (fun hHeld=>?_)
 refine dv1 0 rfl ?_
 refine dv1 1 rfl ?_
 refine dv1 2 rfl ?_
 refine dv1 3 rfl ?_
 refine dv1 4 rfl ?_
 refine dv1 5 rfl ?_
 refine dv1 6 rfl ?_
 refine dv1 7 rfl ?_
 refine dv1 8 rfl ?_
 refine dA 9 rfl fun K hK=>?_
 go_simp
 go_at_call 74
 refine (fw _ _ _ HL_elems.out _).mono ?_
 rintro e w1 ⟨rfl,rfl⟩
 refine hK.out _ _ (hHeld) fun hHeld=>?_
 clear hK K
 refine dA 10 rfl fun K hK=>?_
 go_simp
 go_at_call 47
 refine (aq HC.out n_elems 64 HN.out).mono ?_
 rintro e w2 ⟨rfl,hn2,hm2⟩
 have HN2:=J hn2
 clear HN hn2 hm2
 have HN:=HN2
 clear HN2
 refine hK.out _ _ (HN.out.cx) fun hHeld=>?_
 clear hK K
 refine dN ?_
 go_wp2_with fail
 have HN2:=J (HN.out.on (Below.drew (Below.refl _ _)))
 clear HN
 have HN:=HN2
 clear HN2
 refine wp_region_held_drew (S:=fun W'=>W'.heap[C.X]? = some (.cells #[C.v1,C.v2,C.v3,C.v4,C.v5,C.v6,C.v7,.bool C.m.hasStart,.int .u32 ↑C.m.start,C.v8,C.v9,C.v10,.pointer (some ⟨C.sp,0,none⟩),C.hv,.func (.func 47) #[] #[.pointer (some ⟨C.Y,0,none⟩)]] 122 (0,0))) (by kernel_rfl) (HN.out.cx) (fun hHeld=>?_)
 refine dw1 0 rfl ?_
 refine dw1 1 rfl ?_
 refine dw1 2 rfl ?_
 refine dw1 3 rfl ?_
 refine dw1 4 rfl ?_
 refine dw1 5 rfl ?_
 refine dw1 6 rfl ?_
 refine dw1 7 rfl ?_
 refine dw1 8 rfl ?_
 refine dA 9 rfl fun K hK=>?_
 go_simp
 go_at_call 75
 refine (fu _ _ _ HL_datas.out _).mono ?_
 rintro e w1 ⟨rfl,rfl⟩
 refine hK.out _ _ (hHeld) fun hHeld=>?_
 clear hK K
 refine dA 10 rfl fun K hK=>?_
 go_simp
 go_at_call 47
 refine (aq HC.out n_datas 64 HN.out).mono ?_
 rintro e w2 ⟨rfl,hn2,hm2⟩
 have HN2:=J hn2
 clear HN hn2 hm2
 have HN:=HN2
 clear HN2
 refine hK.out _ _ (HN.out.cx) fun hHeld=>?_
 clear hK K
 refine dN ?_
 go_wp2_with fail
 go_end0
 exact ⟨rfl,HN.out⟩
end
end Go.Proofs.YtmpelmihdpomjaaGreat
