/-
  Layer 8's program: what it copies (Clone, copyOf), and what it asks an import. (gen/space/of1.py)
-/
import Derived.Test.YtmpelmihdpomjaaGreatSo18
import Derived.Test.YtmpelmihdpomjaaGreatSo01
import Derived.Test.YtmpelmihdpomjaaGreatSo23
import Derived.Test.YtmpelmihdpomjaaGreatSo06
import Derived.Laws.EntriesVeiled
import Derived.Lib.SliceRun
set_option maxRecDepth 100000
set_option maxHeartbeats 4000000
namespace Go.Proofs.YtmpelmihdpomjaaGreat
open Go.RowKit Ins Bin Sp
theorem scloneE_any (xs:List Exp) (v:Value) (w:World) (hv:aa w (· < w.heap.size) xs v) (hl:xs.length ≤ 4294967296) :
  Calls Tryz.prog 45 #[v] w fun e w'=>∃ u,e = .returned u ∧ OwnL 52 w' w.heap.size (· < w'.heap.size) u xs ∧ Below w.heap.size w w' ∧ ∀ g,u.ownBlock = some g → w.heap.size ≤ g:=by
 obtain ⟨A,c,rfl,h1,h2,h3,hL⟩:=hv
 cases A with
 | none =>
  obtain rfl:=h3 rfl
  have hx:xs = []:=List.eq_nil_of_length_eq_zero (by omega)
  subst hx
  clear h1 h2 h3 hL hl
  have heq:=Lib.run_eql_slice_nil (P:=Tryz.prog) w 43 52 none 0 0 0 0 undExp
  simp only [List.length_nil]
  go_enter Tryz.func45,Tryz.ntmps45
  go_wp2_with fail
  go_ret
  exact ⟨_,rfl,OwnL.nil _ _ _ _,Below.refl _ _,fun g hg=>by simp [Value.ownBlock] at hg⟩
 | some a =>
  have hb0:Below w.heap.size w (w.alloc (.cells #[] 52)):=bA
  have hO:=OwnL.lit0 (α:=Exp) 52 w w.heap.size (fun k=>k < w.heap.size) (Nat.le_refl _)
  obtain ⟨v5,w5,hrun,hO5,hM5,hT5⟩:=appendL undExp infExp (by decide) rfl (by decide) (w.alloc (.cells #[] 52)) w.heap.size (fun k=>k < w.heap.size) (.slice (some ⟨w.heap.size,0,none⟩) 0 0) [] xs (some a) xs.length c hO (hL.mod (T:=fun _=>False) (Mod.of_below hb0) (fun _ _ _ h=>h)) rfl (by simpa using hl) hb0.size (fun g _ hg e=>by simp [Value.ownBlock] at e;omega)
  have HRUN:=J hrun
  have hB:Below w.heap.size w w5:=hb0.trans (hM5.below hb0.size (fun k hk e=>by simp [Value.ownBlock] at e;omega))
  have HO:=J ((hO5.more (S':=(· < w5.heap.size)) (fun g _ hg=>Nat.lt_of_lt_of_le hg.1 hB.size)))
  have HB:=J hB
  have HG:Hid (∀ g,v5.ownBlock = some g → w.heap.size ≤ g):=J (fun g hg=>by
   rcases hT5 g hg with h | h
   ·simp [Value.ownBlock] at h;omega
   ·simp at h;omega)
  obtain ⟨n,hn⟩:∃ n,xs.length = n:=⟨_,rfl⟩
  rw [hn] at HRUN
  rw [hn]
  clear hn hrun hO5 hM5 hT5 hB hO hb0 hL h1 h2 h3 hl
  have heq:=Lib.run_eql_slice_nil (P:=Tryz.prog) w 43 52 (some a) n c 0 0 undExp
  go_enter Tryz.func45,Tryz.ntmps45
  go_wp2_with (at_builtin;refine ag rfl (.tmp 5) (.tmp 6) 43 rfl _ _ _ w5 rfl rfl HRUN.out ?_)
  go_ret
  exact ⟨_,rfl,HO.out,HB.out,HG.out⟩
theorem sask0_any (x:Imp) (w:World):Calls Tryz.prog 39 #[.agg #[.string ⟨x.mod.toArray⟩,.string ⟨x.name.toArray⟩,.int .u8 ↑x.kind.toNat,.int .u32 ↑x.type,.int .u32 ↑x.lim.min,.int .i64 x.lim.max,.int .u8 ↑x.glob.t.toNat,.bool x.glob.mu]] w fun e w'=>e = .returned (.int .u32 ↑x.type) ∧ Below w.heap.size w w':=by
 have HX0:=J (heap_alloc_new w (.cells #[.string ⟨x.mod.toArray⟩,.string ⟨x.name.toArray⟩,.int .u8 ↑x.kind.toNat,.int .u32 ↑x.type,.int .u32 ↑x.lim.min,.int .i64 x.lim.max,.int .u8 ↑x.glob.t.toNat,.bool x.glob.mu] 101))
 have HB0:Hid (Below w.heap.size w (w.alloc (.cells #[.string ⟨x.mod.toArray⟩,.string ⟨x.name.toArray⟩,.int .u8 ↑x.kind.toNat,.int .u32 ↑x.type,.int .u32 ↑x.lim.min,.int .i64 x.lim.max,.int .u8 ↑x.glob.t.toNat,.bool x.glob.mu] 101))):=J bA
 go_enter Tryz.func39,Tryz.ntmps39
 go_upto_region 1 with fail
 generalize w.alloc (.cells #[.string ⟨x.mod.toArray⟩,.string ⟨x.name.toArray⟩,.int .u8 ↑x.kind.toNat,.int .u32 ↑x.type,.int .u32 ↑x.lim.min,.int .i64 x.lim.max,.int .u8 ↑x.glob.t.toNat,.bool x.glob.mu] 101) = w0 at HX0 HB0 ⊢
 have y3:w0.cell? ⟨w.heap.size,3,none⟩ = some (.int .u32 ↑x.type):=by rw [cell_of_row w0 _ 3 _ _ (0,0) HX0.out];rfl
 go_wp2_with fail
 go_ret
 exact ⟨rfl,HB0.out⟩
theorem sask1_any (x:Imp) (w:World):Calls Tryz.prog 41 #[.agg #[.string ⟨x.mod.toArray⟩,.string ⟨x.name.toArray⟩,.int .u8 ↑x.kind.toNat,.int .u32 ↑x.type,.int .u32 ↑x.lim.min,.int .i64 x.lim.max,.int .u8 ↑x.glob.t.toNat,.bool x.glob.mu]] w fun e w'=>e = .returned (.agg #[.int .u32 ↑x.lim.min,.int .i64 x.lim.max]) ∧ Below w.heap.size w w':=by
 obtain ⟨D,hu,hd⟩:=descOf di
 have HU:=J hu
 have HD:=J hd
 clear hu hd
 have HX0:Hid (((w.alloc (.cells #[.string ⟨x.mod.toArray⟩,.string ⟨x.name.toArray⟩,.int .u8 ↑x.kind.toNat,.int .u32 ↑x.type,.int .u32 ↑x.lim.min,.int .i64 x.lim.max,.int .u8 ↑x.glob.t.toNat,.bool x.glob.mu] 101)).alloc (.cells #[.int .u32 0,.int .i64 0] 66)).heap[w.heap.size]? = some (.cells #[.string ⟨x.mod.toArray⟩,.string ⟨x.name.toArray⟩,.int .u8 ↑x.kind.toNat,.int .u32 ↑x.type,.int .u32 ↑x.lim.min,.int .i64 x.lim.max,.int .u8 ↑x.glob.t.toNat,.bool x.glob.mu] 101 (0,0))):=J ((Below.heap_alloc _ _ _ (by simp)).trans (heap_alloc_new w _))
 have HZ0:Hid (((w.alloc (.cells #[.string ⟨x.mod.toArray⟩,.string ⟨x.name.toArray⟩,.int .u8 ↑x.kind.toNat,.int .u32 ↑x.type,.int .u32 ↑x.lim.min,.int .i64 x.lim.max,.int .u8 ↑x.glob.t.toNat,.bool x.glob.mu] 101)).alloc (.cells #[.int .u32 0,.int .i64 0] 66)).heap[w.heap.size + 1]? = some (.cells #[.int .u32 0,.int .i64 0] 66 (0,0))):=J (by have:=heap_alloc_new (w.alloc (.cells #[.string ⟨x.mod.toArray⟩,.string ⟨x.name.toArray⟩,.int .u8 ↑x.kind.toNat,.int .u32 ↑x.type,.int .u32 ↑x.lim.min,.int .i64 x.lim.max,.int .u8 ↑x.glob.t.toNat,.bool x.glob.mu] 101)) (.cells #[.int .u32 0,.int .i64 0] 66);simpa using this)
 have HB0:Hid (Below w.heap.size w ((w.alloc (.cells #[.string ⟨x.mod.toArray⟩,.string ⟨x.name.toArray⟩,.int .u8 ↑x.kind.toNat,.int .u32 ↑x.type,.int .u32 ↑x.lim.min,.int .i64 x.lim.max,.int .u8 ↑x.glob.t.toNat,.bool x.glob.mu] 101)).alloc (.cells #[.int .u32 0,.int .i64 0] 66))):=J (bA.alloc (by simp) _)
 go_enter Tryz.func41,Tryz.ntmps41
 go_upto_region 1 with fail
 generalize (w.alloc (.cells #[.string ⟨x.mod.toArray⟩,.string ⟨x.name.toArray⟩,.int .u8 ↑x.kind.toNat,.int .u32 ↑x.type,.int .u32 ↑x.lim.min,.int .i64 x.lim.max,.int .u8 ↑x.glob.t.toNat,.bool x.glob.mu] 101)).alloc (.cells #[.int .u32 0,.int .i64 0] 66) = w0 at HX0 HZ0 HB0 ⊢
 have y0:w0.cell? ⟨w.heap.size,4,none⟩ = some (.int .u32 ↑x.lim.min):=by rw [cell_of_row w0 _ 4 _ _ (0,0) HX0.out];rfl
 have y1:w0.cell? ⟨w.heap.size,5,none⟩ = some (.int .i64 x.lim.max):=by rw [cell_of_row w0 _ 5 _ _ (0,0) HX0.out];rfl
 obtain ⟨Y,hY⟩:∃ Y,w.heap.size + 1 = Y:=⟨_,rfl⟩
 rw [hY] at HZ0
 have HY:Hid (w.heap.size ≤ Y):=J (by omega)
 simp only [hY]
 clear hY
 go_wp2_with (refine ah rfl 66 (.tmp 2) (.tmp 4) rfl rfl Y #[.int .u32 ↑x.lim.min,.int .i64 x.lim.max] rfl rfl 66 #[.int .u32 0,.int .i64 0] HZ0.out aY rfl (by simp [Value.oneCell']) ?_)
 refine bodyPost_ret (v:=.agg #[.int .u32 ↑x.lim.min,.int .i64 x.lim.max]) (bv (p:=2) (ty:=66) (by kernel_rfl) _ _ Y 66 #[.int .u32 ↑x.lim.min,.int .i64 x.lim.max] (0,0) D rfl (setRow_heap _ _ #[.int .u32 0,.int .i64 0] _ _ _ HZ0.out) HU.out HD.out aY) rfl ?_
 exact ⟨rfl,ab HB0.out HY.out _⟩
theorem sask3_any (x:Imp) (w:World):Calls Tryz.prog 43 #[.agg #[.string ⟨x.mod.toArray⟩,.string ⟨x.name.toArray⟩,.int .u8 ↑x.kind.toNat,.int .u32 ↑x.type,.int .u32 ↑x.lim.min,.int .i64 x.lim.max,.int .u8 ↑x.glob.t.toNat,.bool x.glob.mu]] w fun e w'=>e = .returned (.agg #[.int .u8 ↑x.glob.t.toNat,.bool x.glob.mu]) ∧ Below w.heap.size w w':=by
 obtain ⟨D,hu,hd⟩:=descOf dG
 have HU:=J hu
 have HD:=J hd
 clear hu hd
 have HX0:Hid (((w.alloc (.cells #[.string ⟨x.mod.toArray⟩,.string ⟨x.name.toArray⟩,.int .u8 ↑x.kind.toNat,.int .u32 ↑x.type,.int .u32 ↑x.lim.min,.int .i64 x.lim.max,.int .u8 ↑x.glob.t.toNat,.bool x.glob.mu] 101)).alloc (.cells #[.int .u8 0,.bool false] 54)).heap[w.heap.size]? = some (.cells #[.string ⟨x.mod.toArray⟩,.string ⟨x.name.toArray⟩,.int .u8 ↑x.kind.toNat,.int .u32 ↑x.type,.int .u32 ↑x.lim.min,.int .i64 x.lim.max,.int .u8 ↑x.glob.t.toNat,.bool x.glob.mu] 101 (0,0))):=J ((Below.heap_alloc _ _ _ (by simp)).trans (heap_alloc_new w _))
 have HZ0:Hid (((w.alloc (.cells #[.string ⟨x.mod.toArray⟩,.string ⟨x.name.toArray⟩,.int .u8 ↑x.kind.toNat,.int .u32 ↑x.type,.int .u32 ↑x.lim.min,.int .i64 x.lim.max,.int .u8 ↑x.glob.t.toNat,.bool x.glob.mu] 101)).alloc (.cells #[.int .u8 0,.bool false] 54)).heap[w.heap.size + 1]? = some (.cells #[.int .u8 0,.bool false] 54 (0,0))):=J (by have:=heap_alloc_new (w.alloc (.cells #[.string ⟨x.mod.toArray⟩,.string ⟨x.name.toArray⟩,.int .u8 ↑x.kind.toNat,.int .u32 ↑x.type,.int .u32 ↑x.lim.min,.int .i64 x.lim.max,.int .u8 ↑x.glob.t.toNat,.bool x.glob.mu] 101)) (.cells #[.int .u8 0,.bool false] 54);simpa using this)
 have HB0:Hid (Below w.heap.size w ((w.alloc (.cells #[.string ⟨x.mod.toArray⟩,.string ⟨x.name.toArray⟩,.int .u8 ↑x.kind.toNat,.int .u32 ↑x.type,.int .u32 ↑x.lim.min,.int .i64 x.lim.max,.int .u8 ↑x.glob.t.toNat,.bool x.glob.mu] 101)).alloc (.cells #[.int .u8 0,.bool false] 54))):=J (bA.alloc (by simp) _)
 go_enter Tryz.func43,Tryz.ntmps43
 go_upto_region 1 with fail
 generalize (w.alloc (.cells #[.string ⟨x.mod.toArray⟩,.string ⟨x.name.toArray⟩,.int .u8 ↑x.kind.toNat,.int .u32 ↑x.type,.int .u32 ↑x.lim.min,.int .i64 x.lim.max,.int .u8 ↑x.glob.t.toNat,.bool x.glob.mu] 101)).alloc (.cells #[.int .u8 0,.bool false] 54) = w0 at HX0 HZ0 HB0 ⊢
 have y0:w0.cell? ⟨w.heap.size,6,none⟩ = some (.int .u8 ↑x.glob.t.toNat):=by rw [cell_of_row w0 _ 6 _ _ (0,0) HX0.out];rfl
 have y1:w0.cell? ⟨w.heap.size,7,none⟩ = some (.bool x.glob.mu):=by rw [cell_of_row w0 _ 7 _ _ (0,0) HX0.out];rfl
 obtain ⟨Y,hY⟩:∃ Y,w.heap.size + 1 = Y:=⟨_,rfl⟩
 rw [hY] at HZ0
 have HY:Hid (w.heap.size ≤ Y):=J (by omega)
 simp only [hY]
 clear hY
 go_wp2_with (refine ah rfl 54 (.tmp 2) (.tmp 4) rfl rfl Y #[.int .u8 ↑x.glob.t.toNat,.bool x.glob.mu] rfl rfl 54 #[.int .u8 0,.bool false] HZ0.out ao rfl (by simp [Value.oneCell']) ?_)
 refine bodyPost_ret (v:=.agg #[.int .u8 ↑x.glob.t.toNat,.bool x.glob.mu]) (bv (p:=2) (ty:=54) (by kernel_rfl) _ _ Y 54 #[.int .u8 ↑x.glob.t.toNat,.bool x.glob.mu] (0,0) D rfl (setRow_heap _ _ #[.int .u8 0,.bool false] _ _ _ HZ0.out) HU.out HD.out ao) rfl ?_
 exact ⟨rfl,ab HB0.out HY.out _⟩
class Flat (α:Type) [Lay α]:Prop where
 flat:∀ {w w':World} {S S':Nat → Prop} {x:α} {cs:List Value},Lay.rep w S x cs → Lay.rep w' S' x cs
instance : Flat UInt8:=⟨fun h=>h⟩
instance : Flat Nat:=⟨fun h=>h⟩
instance : Flat Lim:=⟨fun h=>h⟩
instance : Flat Glob:=⟨fun h=>h⟩
instance : Flat Exp:=⟨fun h=>h⟩
theorem OwnL.flat {α:Type} [Lay α] [Flat α] {t:TypeId} {w:World} {base:Nat} {S S':Nat → Prop} {v:Value} {xs:List α} (h:OwnL t w base S v xs):OwnL t w base S' v xs:=by
 obtain ⟨ys,h0,h1,h2⟩:=h
 exact ⟨ys,h0,h1,fun y hy=>Flat.flat (h2 y hy)⟩
theorem OwnL.slice {α:Type} [Lay α] [Flat α] {t:TypeId} {w:World} {base:Nat} {S:Nat → Prop} {v:Value} {xs:List α} (h:OwnL t w base S v xs):aa w (base ≤ ·) xs v:=(h.flat (S':=fun _=>False)).tell (fun _ h=>h.elim)
theorem OwnL.form {α:Type} [Lay α] {t:TypeId} {w:World} {base:Nat} {S:Nat → Prop} {v:Value} {xs:List α} (h:OwnL t w base S v xs):∃ A c,v = .slice A xs.length c ∧ xs.length ≤ c ∧ c ≤ maxLen:=by
 obtain ⟨ys,_,h1,_⟩:=h
 exact aH h1
theorem ae {w:World} {X:Nat} {a b:Value} {t:TypeId} (h:w.heap[X]? = some (.cells #[a,b] t (0,0))):w.cell? ⟨X,0,none⟩ = some a ∧ w.cell? ⟨X,1,none⟩ = some b:=⟨by rw [cell_of_row w X 0 _ _ (0,0) h];rfl,by rw [cell_of_row w X 1 _ _ (0,0) h];rfl⟩
theorem aa.at {α:Type} [Lay α] {w W:World} {xs:List α} {v:Value} (h:aa w (· < w.heap.size) xs v) (hb:Below w.heap.size w W):aa W (· < W.heap.size) xs v:=h.grow hb
theorem eT (t:FT) (u v:Value) (w:World) (hu0:aa w (· < w.heap.size) t.params u) (hv0:aa w (· < w.heap.size) t.results v) (h1:t.params.length ≤ 4294967296) (h2:t.results.length ≤ 4294967296) :
  Calls Tryz.prog 46 #[.agg #[u,v]] w fun e w'=>∃ A c A' c',e = .returned (.agg #[.slice A t.params.length c,.slice A' t.results.length c']) ∧ aa w' (w.heap.size ≤ ·) t.params (.slice A t.params.length c) ∧ aa w' (w.heap.size ≤ ·) t.results (.slice A' t.results.length c') ∧ Below w.heap.size w w':=by
 obtain ⟨D,hu,hd⟩:=descOf bU
 have HU:=J hu
 have HD:=J hd
 clear hu hd
 have HC1:=J (fun W (hb:Below w.heap.size w W)=>bI t.params u W (hu0.grow hb) h1)
 have HC2:=J (fun W (hb:Below w.heap.size w W)=>bI t.results v W (hv0.grow hb) h2)
 obtain ⟨A1,c1,rfl,_⟩:=hu0
 obtain ⟨A2,c2,rfl,_⟩:=hv0
 clear h1 h2
 obtain ⟨n1,hn1⟩:∃ n,t.params.length = n:=⟨_,rfl⟩
 obtain ⟨n2,hn2⟩:∃ n,t.results.length = n:=⟨_,rfl⟩
 rw [hn1] at HC1 ⊢
 rw [hn2] at HC2 ⊢
 have HN1:=J hn1
 have HN2:=J hn2
 clear hn1 hn2
 have HX0:Hid (((w.alloc (.cells #[.slice A1 n1 c1,.slice A2 n2 c2] 29)).alloc (.cells #[.slice none 0 0,.slice none 0 0] 29)).heap[w.heap.size]? = some (.cells #[.slice A1 n1 c1,.slice A2 n2 c2] 29 (0,0))):=J ((Below.heap_alloc _ _ _ (by simp)).trans (heap_alloc_new w _))
 have HZ0:Hid (((w.alloc (.cells #[.slice A1 n1 c1,.slice A2 n2 c2] 29)).alloc (.cells #[.slice none 0 0,.slice none 0 0] 29)).heap[w.heap.size + 1]? = some (.cells #[.slice none 0 0,.slice none 0 0] 29 (0,0))):=J (by have:=heap_alloc_new (w.alloc (.cells #[.slice A1 n1 c1,.slice A2 n2 c2] 29)) (.cells #[.slice none 0 0,.slice none 0 0] 29);simpa using this)
 have HB0:Hid (Below w.heap.size w ((w.alloc (.cells #[.slice A1 n1 c1,.slice A2 n2 c2] 29)).alloc (.cells #[.slice none 0 0,.slice none 0 0] 29))):=J (bA.alloc (by simp) _)
 go_enter Tryz.func46,Tryz.ntmps46
 go_upto_region 1 with fail
 generalize (w.alloc (.cells #[.slice A1 n1 c1,.slice A2 n2 c2] 29)).alloc (.cells #[.slice none 0 0,.slice none 0 0] 29) = w0 at HX0 HZ0 HB0 ⊢
 obtain ⟨X,hX⟩:∃ X,w.heap.size = X:=⟨_,rfl⟩
 obtain ⟨Y,hY⟩:∃ Y,w.heap.size + 1 = Y:=⟨_,rfl⟩
 rw [hX] at HX0
 rw [hY] at HZ0
 have HXY:Hid (X ≠ Y ∧ w.heap.size ≤ Y):=J ⟨by omega,by omega⟩
 simp only [hY]
 simp only [hX]
 clear hX hY
 have HXW:=J (fun W (hb:Below w0.heap.size w0 W)=>(hb.block X (gL HX0.out)).trans HX0.out)
 have HZW:=J (fun W (hb:Below w0.heap.size w0 W)=>(hb.block Y (gL HZ0.out)).trans HZ0.out)
 have HZL:Hid (Y < w0.heap.size):=J (gL HZ0.out)
 clear HX0 HZ0
 refine wp_region_held_drew (S:=fun W'=>W'.heap[X]? = some (.cells #[.slice A1 n1 c1,.slice A2 n2 c2] 29 (0,0))) (by kernel_rfl) (HXW.out _ (Below.drew (Below.refl _ _))) (fun hHeld=>?_)
 refine dV 0 rfl (by intro wy hSw;obtain ⟨q0,q1⟩:=ae hSw;go_simp;try with_reducible rfl) ?_
 refine dV 1 rfl (by intro wy hSw;obtain ⟨q0,q1⟩:=ae hSw;go_simp;try with_reducible rfl) ?_
 refine dV 3 rfl (by intro wy hSw;obtain ⟨q0,q1⟩:=ae hSw;go_simp;try with_reducible rfl) ?_
 refine dV 4 rfl (by intro wy hSw;obtain ⟨q0,q1⟩:=ae hSw;go_simp;try with_reducible rfl) ?_
 refine ac 2 rfl (by kernel_rfl) (fun K hK=>?_)
 go_simp
 refine (HC1.out _ HB0.out.drew).mono ?_
 rintro e w1 ⟨a,rfl,hO1,hb1,_⟩
 obtain ⟨E1,f1,rfl,_⟩:=hO1.form
 rw [HN1.out] at hO1
 rw [HN1.out]
 have HO1:=J hO1
 have HB1:Hid (Below w0.heap.size w0 w1):=J ((Below.drew (Below.refl _ _)).trans hb1)
 clear hb1 hO1
 go_wp2_with fail
 refine hK.out _ _ (HXW.out w1 HB1.out) fun hHeld=>?_
 clear hK K
 refine ac 5 rfl (by kernel_rfl) (fun K hK=>?_)
 go_simp
 refine (HC2.out _ (HB0.out.trans (HB1.out.mono HB0.out.size))).mono ?_
 rintro e w2 ⟨b,rfl,hO2,hb2,_⟩
 obtain ⟨E2,f2,rfl,_⟩:=hO2.form
 rw [HN2.out] at hO2
 rw [HN2.out]
 have HO2:=J hO2
 have HO1:=J (HO1.out.mod (T:=fun _=>False) (Mod.of_below hb2) (fun _ _ h=>h) (fun _ _ _ h=>h))
 have HBB:=J hb2
 have HB2:Hid (Below w0.heap.size w0 w2):=J (HB1.out.trans (hb2.mono HB1.out.size))
 clear hb2 hO2
 go_wp2_with fail
 refine hK.out _ _ (HXW.out w2 HB2.out) fun hHeld=>?_
 clear hK K
 refine dW 6 rfl ?_
 refine dA 7 rfl fun K hK=>?_
 refine wp_store_row 29 (.tmp 2) (.tmp 9) rfl Y #[.slice E1 n1 f1,.slice E2 n2 f2] rfl rfl 29 #[.slice none 0 0,.slice none 0 0] (HZW.out w2 HB2.out) ak rfl (by simp [Value.oneCell']) ?_
 refine hK.out _ _ ((setRow_other w2 Y X _ HXY.out.1).trans (HXW.out w2 HB2.out)) (fun hHeld2=>?_)
 clear hK K hHeld hHeld2
 refine dN ?_
 have HZZ:=setRow_heap w2 Y #[.slice none 0 0,.slice none 0 0] #[.slice E1 n1 f1,.slice E2 n2 f2] _ _ (HZW.out w2 HB2.out)
 have hbe:Below w.heap.size w (w2.setRow Y #[.slice E1 n1 f1,.slice E2 n2 f2]):=ab (HB0.out.trans (HB2.out.mono HB0.out.size)) HXY.out.2 _
 have hms:Mod (· = Y) w2 (w2.setRow Y #[.slice E1 n1 f1,.slice E2 n2 f2]):=⟨rfl,rfl,rfl,by simp,fun k _ ht=>setRow_other w2 Y k _ ht⟩
 go_wp2_with fail
 refine bodyPost_ret (v:=.agg #[.slice E1 n1 f1,.slice E2 n2 f2]) (bv (p:=2) (ty:=29) (by kernel_rfl) _ _ Y 29 #[.slice E1 n1 f1,.slice E2 n2 f2] (0,0) D rfl HZZ HU.out HD.out ak) rfl ?_
 refine ⟨E1,f1,E2,f2,rfl,?_,?_,hbe⟩
 ·exact ((HO1.out.slice.more (S':=fun g=>w0.heap.size ≤ g) (fun g _ hg=>hg)).mod hms (fun g _ hg e=>by have:=HZL.out;omega)).more (fun g _ hg=>Nat.le_trans HB0.out.size hg)
 ·exact ((HO2.out.slice.more (S':=fun g=>w0.heap.size ≤ g) (fun g _ hg=>Nat.le_trans HB1.out.size hg)).mod hms (fun g _ hg e=>by have:=HZL.out;omega)).more (fun g _ hg=>Nat.le_trans HB0.out.size hg)
def fc {α:Type} [Lay α] (zs:List α) (k:Nat) (w:World) (e:Ending) (w':World):Prop :=
 ∃ A c,e = .returned (.agg #[.slice A zs.length c,.int .i64 ↑k]) ∧ aa w' (w.heap.size ≤ ·) zs (.slice A zs.length c) ∧ Below w.heap.size w w'
theorem aD {w:World} {X:Nat} {x0 x1 x2 x3 x4 x5 x6 x7:Value} {t:TypeId} (h:w.heap[X]? = some (.cells #[x0,x1,x2,x3,x4,x5,x6,x7] t (0,0))):w.cell? ⟨X,0,none⟩ = some x0 ∧ w.cell? ⟨X,1,none⟩ = some x1 ∧ w.cell? ⟨X,2,none⟩ = some x2 ∧ w.cell? ⟨X,3,none⟩ = some x3 ∧ w.cell? ⟨X,4,none⟩ = some x4 ∧ w.cell? ⟨X,5,none⟩ = some x5 ∧ w.cell? ⟨X,6,none⟩ = some x6 ∧ w.cell? ⟨X,7,none⟩ = some x7:=by
 refine ⟨?_,?_,?_,?_,?_,?_,?_,?_⟩ <;> (rw [cell_of_row w X _ _ t (0,0) h];rfl)
theorem des_srow0:(Tryz.prog.underlying 97).map aggS = some true:=by kernel_rfl
theorem eW:(Tryz.prog.info? 97).map (·.size) = some 2:=by kernel_rfl
theorem des_srow1:(Tryz.prog.underlying 103).map aggS = some true:=by kernel_rfl
theorem eX:(Tryz.prog.info? 103).map (·.size) = some 2:=by kernel_rfl
theorem des_srow3:(Tryz.prog.underlying 109).map aggS = some true:=by kernel_rfl
theorem eY:(Tryz.prog.info? 109).map (·.size) = some 2:=by kernel_rfl
theorem srow0_any (xs:List Imp) (ys:List Nat) (vx vy:Value) (k:Nat) (_hk:k < 256) (w:World) (hx0:aa w (· < w.heap.size) xs vx) (hy0:aa w (· < w.heap.size) ys vy) (hlx:xs.length ≤ 1050000) (hly:ys.length ≤ 1050000) :
  Calls Tryz.prog 38 #[vx,.int .u8 ↑k,.func (.func 39) #[] #[],vy] w (fc ((xs.filter fun x=>x.kind.toNat == k).map (·.type) ++ ys) (xs.filter fun x=>x.kind.toNat == k).length w):=by
 obtain ⟨D,hu,hd⟩:=descOf des_srow0
 have HU:=J hu
 have HD:=J hd
 clear hu hd
 have HY0:=J hy0
 obtain ⟨A1,c1,rfl,_,_,_,hLx⟩:=hx0
 have HLX:=J hLx
 obtain ⟨A2,c2,rfl,_⟩:=hy0
 clear hLx
 obtain ⟨n1,hn1⟩:∃ n,xs.length = n:=⟨_,rfl⟩
 obtain ⟨n2,hn2⟩:∃ n,ys.length = n:=⟨_,rfl⟩
 rw [hn1] at hlx ⊢
 rw [hn2] at hly HY0 ⊢
 have HN1:=J hn1
 have HN2:=J hn2
 clear hn1 hn2
 obtain ⟨is,his⟩:∃ is,xs.filter (fun x:Imp=>x.kind.toNat == k) = is:=⟨_,rfl⟩
 rw [his]
 have HIS:=J his
 clear his
 obtain ⟨q,hqq⟩:∃ q,is.length = q:=⟨_,rfl⟩
 rw [hqq]
 have HQQ:=J hqq
 clear hqq
 have HZ0:=J (heap_alloc_new w (.cells #[.slice none 0 0,.int .i64 0] 97))
 have HB0:Hid (Below w.heap.size w (w.alloc (.cells #[.slice none 0 0,.int .i64 0] 97))):=J bA
 go_enter Tryz.func38,Tryz.ntmps38
 go_upto_region 1 with fail
 generalize w.alloc (.cells #[.slice none 0 0,.int .i64 0] 97) = w0 at HZ0 HB0 ⊢
 obtain ⟨Y,hY⟩:∃ Y,w.heap.size = Y:=⟨_,rfl⟩
 rw [hY] at HZ0
 have HY:Hid (w.heap.size ≤ Y):=J (by omega)
 have HYL:Hid (Y < w0.heap.size):=J (gL HZ0.out)
 simp only [hY]
 clear hY
 go_upto_region 3 with fail
 go_loopw [9,14] (fun l i wr=>∃ j:Nat,j ≤ n1 ∧ i = .int .i64 ↑j ∧ Hid (OwnL 44 wr w0.heap.size (· < w0.heap.size) l (((xs.take j).filter fun x=>x.kind.toNat == k).map (·.type))) ∧ Hid (Below w0.heap.size w0 wr)) (fun _ i _=>n1 - (intOf i).toNat)
 case atStart=>exact ⟨0,Nat.zero_le _,rfl,J (OwnL.nil _ _ _ _),J (Below.refl _ _)⟩
 case round =>
  obtain ⟨j,hj,rfl,HO,HB⟩:=hrel
  have hle:=fC (fun x:Imp=>x.kind.toNat == k) xs j
  by_cases hlt:j < n1
  ·have hlti:(j:Int) < (n1:Int):=by omega
   obtain ⟨x,hx⟩:∃ x,xs[j]? = some x:=⟨_,List.getElem?_eq_getElem (by rw [HN1.out];exact hlt)⟩
   obtain ⟨g,o,rfl,hg,_,hxt,hxl,hc⟩:=dH HLX.out hx
   have hbw:=HB0.out.trans (HB.out.mono HB0.out.size)
   have HCC:=J (fun (z:Nat) (u:Value) (h:(impCells x)[z]? = some u)=>(hbw.cell (p:=⟨g,o + j * 8 + z,none⟩) hg).trans (hc z u h))
   have k0:wr.cell? ⟨g,o + j * 8,none⟩ = some (strV x.mod):=HCC.out 0 _ rfl
   have k1:wr.cell? ⟨g,o + j * 8 + 1,none⟩ = some (strV x.name):=HCC.out 1 _ rfl
   have k2:wr.cell? ⟨g,o + j * 8 + 2,none⟩ = some (.int .u8 ↑x.kind.toNat):=HCC.out 2 _ rfl
   have k3:wr.cell? ⟨g,o + j * 8 + 3,none⟩ = some (.int .u32 ↑x.type):=HCC.out 3 _ rfl
   have k4:wr.cell? ⟨g,o + j * 8 + 4,none⟩ = some (.int .u32 ↑x.lim.min):=HCC.out 4 _ rfl
   have k5:wr.cell? ⟨g,o + j * 8 + 5,none⟩ = some (.int .i64 x.lim.max):=HCC.out 5 _ rfl
   have k6:wr.cell? ⟨g,o + j * 8 + 6,none⟩ = some (.int .u8 ↑x.glob.t.toNat):=HCC.out 6 _ rfl
   have k7:wr.cell? ⟨g,o + j * 8 + 7,none⟩ = some (.bool x.glob.mu):=HCC.out 7 _ rfl
   unfold strV at k0 k1
   have hxk:=x.kind.toNat_lt
   have HBA:Hid (Below w0.heap.size w0 (wr.alloc (.cells #[.string ⟨x.mod.toArray⟩,.string ⟨x.name.toArray⟩,.int .u8 ↑x.kind.toNat,.int .u32 ↑x.type,.int .u32 ↑x.lim.min,.int .i64 x.lim.max,.int .u8 ↑x.glob.t.toNat,.bool x.glob.mu] 75))):=J (HB.out.alloc HB.out.size _)
   have HA:=J (heap_alloc_new wr (.cells #[.string ⟨x.mod.toArray⟩,.string ⟨x.name.toArray⟩,.int .u8 ↑x.kind.toNat,.int .u32 ↑x.type,.int .u32 ↑x.lim.min,.int .i64 x.lim.max,.int .u8 ↑x.glob.t.toNat,.bool x.glob.mu] 75))
   have HMA:Hid (Mod (fun _=>False) wr (wr.alloc (.cells #[.string ⟨x.mod.toArray⟩,.string ⟨x.name.toArray⟩,.int .u8 ↑x.kind.toNat,.int .u32 ↑x.type,.int .u32 ↑x.lim.min,.int .i64 x.lim.max,.int .u8 ↑x.glob.t.toNat,.bool x.glob.mu] 75))):=J ((Mod.refl _ wr).alloc _)
   have HAL:Hid (wr.heap.size < (wr.alloc (.cells #[.string ⟨x.mod.toArray⟩,.string ⟨x.name.toArray⟩,.int .u8 ↑x.kind.toNat,.int .u32 ↑x.type,.int .u32 ↑x.lim.min,.int .i64 x.lim.max,.int .u8 ↑x.glob.t.toNat,.bool x.glob.mu] 75)).heap.size):=J (by simp)
   have HXL:=J hxl
   by_cases hq:x.kind.toNat = k
   ·have HS:=J (et (p:=fun x:Imp=>x.kind.toNat == k) hx (by simp [hq]))
    have hqe:((x.kind.toNat:Int) == (k:Int)) = true:=by simp [hq]
    clear hc hx hq hbw hg hxl
    go_upto_region 5 with fail
    generalize wr.alloc (.cells #[.string ⟨x.mod.toArray⟩,.string ⟨x.name.toArray⟩,.int .u8 ↑x.kind.toNat,.int .u32 ↑x.type,.int .u32 ↑x.lim.min,.int .i64 x.lim.max,.int .u8 ↑x.glob.t.toNat,.bool x.glob.mu] 75) = wa at HBA HA HMA HAL ⊢
    clear k0 k1 k2 k3 k4 k5 k6 k7
    obtain ⟨a0,a1,a2,a3,a4,a5,a6,a7⟩:=aD HA.out
    go_wp2_with fail
    refine (sask0_any x _).mono ?_
    rintro e w2 ⟨rfl,hb2⟩
    have HB2:=J (HBA.out.trans (hb2.mono HBA.out.size))
    have hO2:OwnL 44 w2 w0.heap.size (· < w0.heap.size) u9 _:=HO.out.mod (HMA.out.trans (Mod.of_below (T:=fun _=>False) hb2) (fun _ _ h=>h)) (fun _ _ h=>h) (fun _ _ _ h=>h)
    obtain ⟨v5,w5,hrun,hO5,hM5,hT5⟩:=append1L undNat infNat (by decide) rfl (by decide) w2 w0.heap.size (· < w0.heap.size) u9 _ (x.type) [.int .u32 ↑x.type] hO2 (by simp;omega) HB2.out.size ⟨rfl,hxt⟩ (by simp [Value.oneCell']) (fun g' _ hg' e=>by have:=(HO.out.lt g' e).1;omega)
    have HRUN:=J hrun
    have HO5:=J (hO5.flat (S':=(· < w0.heap.size)))
    have HB5:Hid (Below w0.heap.size w0 w5):=J (HB2.out.trans (hM5.below HB2.out.size (fun g' hg' e=>by have:=(HO.out.lt g' e).1;omega)))
    clear hb2 hO2 hrun hO5 hM5 hT5 a0 a1 a2 a3 a4 a5 a6 a7
    go_wp2_with (at_builtin;refine ag rfl (.tmp 22) (.tmp 26) 40 rfl _ _ _ w5 rfl rfl HRUN.out ?_)
    go_roundw
    case rel=>exact ⟨j + 1,by omega,by go_num,J (by rw [HS.out,List.map_append];exact HO5.out),HB5⟩
    case measure=>simp [intOf];omega
   ·have HS:=J (fD (p:=fun x:Imp=>x.kind.toNat == k) hx (by simp [hq]))
    have hqe:((x.kind.toNat:Int) == (k:Int)) = false:=nB (by omega)
    clear hc hx hq hbw hg hxl
    go_upto_region 5 with fail
    generalize wr.alloc (.cells #[.string ⟨x.mod.toArray⟩,.string ⟨x.name.toArray⟩,.int .u8 ↑x.kind.toNat,.int .u32 ↑x.type,.int .u32 ↑x.lim.min,.int .i64 x.lim.max,.int .u8 ↑x.glob.t.toNat,.bool x.glob.mu] 75) = wa at HBA HA HMA HAL ⊢
    clear k0 k1 k2 k3 k4 k5 k6 k7
    obtain ⟨a0,a1,a2,a3,a4,a5,a6,a7⟩:=aD HA.out
    go_wp2_with fail
    go_roundw
    case rel=>exact ⟨j + 1,by omega,by go_num,J (by rw [HS.out];exact HO.out.mod HMA.out (fun _ _ h=>h) (fun _ _ _ h=>h)),HBA⟩
    case measure=>simp [intOf];omega
  ·have hlti:decide ((j:Int) < (n1:Int)) = false:=decide_eq_false (by omega)
   have HA:=J (er (p:=fun x:Imp=>x.kind.toNat == k) (xs:=xs) (k:=j) (by rw [HN1.out];omega))
   have hO:=HO.out
   rw [HA.out,HIS.out] at hO hle
   obtain ⟨B,d,rfl,hq1,hq2⟩:=hO.form
   have hbw:=HB0.out.trans (HB.out.mono HB0.out.size)
   have hY1:=HY0.out
   have hYs:HasL wr (· < w0.heap.size) A2 ys:=by
    obtain ⟨A',c',e,_,_,_,hL⟩:=hY1
    injection e with e1 e2 e3
    subst e1
    exact (hL.mod (T:=fun _=>False) (Mod.of_below hbw) (fun _ _ _ h=>h)).more (fun _ _ hk=>Nat.lt_of_lt_of_le hk HB0.out.size)
   obtain ⟨v5,w5,hrun,hO5,hM5,hT5⟩:=appendL undNat infNat (by decide) rfl (by decide) wr w0.heap.size (· < w0.heap.size) _ _ ys A2 n2 c2 hO hYs HN2.out.symm (by simp;have:=HN2.out;omega) HB.out.size (fun g' _ hg' e=>by have:=(hO.lt g' e).1;omega)
   have hO6:=hO5.flat (S':=(· < w0.heap.size))
   obtain ⟨B5,d5,rfl,_,_⟩:=hO6.form
   have HRUN:=J hrun
   have HSL:=J hO6.slice
   have HB5:Hid (Below w0.heap.size w0 w5):=J (HB.out.trans (hM5.below HB.out.size (fun g' hg' e=>by have:=(hO.lt g' e).1;omega)))
   have hZ5:=(HB5.out.block Y HYL.out).trans HZ0.out
   have HZ5:=J hZ5
   simp only [List.length_map] at HRUN hq1 hq2 ⊢
   have hqq:=HQQ.out
   obtain ⟨r,hrr⟩:∃ r,(is.map (·.type) ++ ys).length = r:=⟨_,rfl⟩
   rw [hqq] at HRUN hle hq1 ⊢
   rw [hrr] at HRUN HSL
   have HRR:=J hrr
   clear hqq hrr hrun hO5 hM5 hT5 hO6 hZ5 hY1 hYs hbw hO HA HO
   go_wp2_with (first | (at_builtin;refine ag rfl (.tmp 29) (.tmp 30) 40 rfl _ _ _ w5 rfl rfl HRUN.out ?_) | (refine ah rfl 97 (.tmp 8) (.tmp 34) rfl rfl Y #[.slice B5 r d5,.int .i64 ↑q] rfl rfl 97 #[.slice none 0 0,.int .i64 0] HZ5.out eW rfl (by simp [Value.oneCell']) ?_))
   have HZZ:=setRow_heap w5 Y #[.slice none 0 0,.int .i64 0] #[.slice B5 r d5,.int .i64 ↑q] _ _ HZ5.out
   refine bodyPost_ret (v:=.agg #[.slice B5 r d5,.int .i64 ↑q]) (bv (p:=8) (ty:=97) (by kernel_rfl) _ _ Y 97 #[.slice B5 r d5,.int .i64 ↑q] (0,0) D rfl HZZ HU.out HD.out eW) rfl ?_
   have hms:Mod (· = Y) w5 (w5.setRow Y #[.slice B5 r d5,.int .i64 ↑q]):=⟨rfl,rfl,rfl,by simp,fun k _ ht=>setRow_other w5 Y k _ ht⟩
   refine ⟨B5,d5,by rw [HRR.out],?_,ab (HB0.out.trans (HB5.out.mono HB0.out.size)) HY.out _⟩
   rw [HRR.out]
   exact (HSL.out.mod hms (fun g _ hg e=>by have:=HYL.out;omega)).more (fun g _ hg=>Nat.le_trans HB0.out.size hg)
theorem eZ (xs:List Imp) (ys:List Lim) (vx vy:Value) (k:Nat) (_hk:k < 256) (w:World) (hx0:aa w (· < w.heap.size) xs vx) (hy0:aa w (· < w.heap.size) ys vy) (hlx:xs.length ≤ 1050000) (hly:ys.length ≤ 1050000) :
  Calls Tryz.prog 40 #[vx,.int .u8 ↑k,.func (.func 41) #[] #[],vy] w (fc ((xs.filter fun x=>x.kind.toNat == k).map (·.lim) ++ ys) (xs.filter fun x=>x.kind.toNat == k).length w):=by
 obtain ⟨D,hu,hd⟩:=descOf des_srow1
 have HU:=J hu
 have HD:=J hd
 clear hu hd
 have HY0:=J hy0
 obtain ⟨A1,c1,rfl,_,_,_,hLx⟩:=hx0
 have HLX:=J hLx
 obtain ⟨A2,c2,rfl,_⟩:=hy0
 clear hLx
 obtain ⟨n1,hn1⟩:∃ n,xs.length = n:=⟨_,rfl⟩
 obtain ⟨n2,hn2⟩:∃ n,ys.length = n:=⟨_,rfl⟩
 rw [hn1] at hlx ⊢
 rw [hn2] at hly HY0 ⊢
 have HN1:=J hn1
 have HN2:=J hn2
 clear hn1 hn2
 obtain ⟨is,his⟩:∃ is,xs.filter (fun x:Imp=>x.kind.toNat == k) = is:=⟨_,rfl⟩
 rw [his]
 have HIS:=J his
 clear his
 obtain ⟨q,hqq⟩:∃ q,is.length = q:=⟨_,rfl⟩
 rw [hqq]
 have HQQ:=J hqq
 clear hqq
 have HZ0:=J (heap_alloc_new w (.cells #[.slice none 0 0,.int .i64 0] 103))
 have HB0:Hid (Below w.heap.size w (w.alloc (.cells #[.slice none 0 0,.int .i64 0] 103))):=J bA
 go_enter Tryz.func40,Tryz.ntmps40
 go_upto_region 1 with fail
 generalize w.alloc (.cells #[.slice none 0 0,.int .i64 0] 103) = w0 at HZ0 HB0 ⊢
 obtain ⟨Y,hY⟩:∃ Y,w.heap.size = Y:=⟨_,rfl⟩
 rw [hY] at HZ0
 have HY:Hid (w.heap.size ≤ Y):=J (by omega)
 have HYL:Hid (Y < w0.heap.size):=J (gL HZ0.out)
 simp only [hY]
 clear hY
 go_upto_region 3 with fail
 go_loopw [9,14] (fun l i wr=>∃ j:Nat,j ≤ n1 ∧ i = .int .i64 ↑j ∧ Hid (OwnL 66 wr w0.heap.size (· < w0.heap.size) l (((xs.take j).filter fun x=>x.kind.toNat == k).map (·.lim))) ∧ Hid (Below w0.heap.size w0 wr)) (fun _ i _=>n1 - (intOf i).toNat)
 case atStart=>exact ⟨0,Nat.zero_le _,rfl,J (OwnL.nil _ _ _ _),J (Below.refl _ _)⟩
 case round =>
  obtain ⟨j,hj,rfl,HO,HB⟩:=hrel
  have hle:=fC (fun x:Imp=>x.kind.toNat == k) xs j
  by_cases hlt:j < n1
  ·have hlti:(j:Int) < (n1:Int):=by omega
   obtain ⟨x,hx⟩:∃ x,xs[j]? = some x:=⟨_,List.getElem?_eq_getElem (by rw [HN1.out];exact hlt)⟩
   obtain ⟨g,o,rfl,hg,_,hxt,hxl,hc⟩:=dH HLX.out hx
   have hbw:=HB0.out.trans (HB.out.mono HB0.out.size)
   have HCC:=J (fun (z:Nat) (u:Value) (h:(impCells x)[z]? = some u)=>(hbw.cell (p:=⟨g,o + j * 8 + z,none⟩) hg).trans (hc z u h))
   have k0:wr.cell? ⟨g,o + j * 8,none⟩ = some (strV x.mod):=HCC.out 0 _ rfl
   have k1:wr.cell? ⟨g,o + j * 8 + 1,none⟩ = some (strV x.name):=HCC.out 1 _ rfl
   have k2:wr.cell? ⟨g,o + j * 8 + 2,none⟩ = some (.int .u8 ↑x.kind.toNat):=HCC.out 2 _ rfl
   have k3:wr.cell? ⟨g,o + j * 8 + 3,none⟩ = some (.int .u32 ↑x.type):=HCC.out 3 _ rfl
   have k4:wr.cell? ⟨g,o + j * 8 + 4,none⟩ = some (.int .u32 ↑x.lim.min):=HCC.out 4 _ rfl
   have k5:wr.cell? ⟨g,o + j * 8 + 5,none⟩ = some (.int .i64 x.lim.max):=HCC.out 5 _ rfl
   have k6:wr.cell? ⟨g,o + j * 8 + 6,none⟩ = some (.int .u8 ↑x.glob.t.toNat):=HCC.out 6 _ rfl
   have k7:wr.cell? ⟨g,o + j * 8 + 7,none⟩ = some (.bool x.glob.mu):=HCC.out 7 _ rfl
   unfold strV at k0 k1
   have hxk:=x.kind.toNat_lt
   have HBA:Hid (Below w0.heap.size w0 (wr.alloc (.cells #[.string ⟨x.mod.toArray⟩,.string ⟨x.name.toArray⟩,.int .u8 ↑x.kind.toNat,.int .u32 ↑x.type,.int .u32 ↑x.lim.min,.int .i64 x.lim.max,.int .u8 ↑x.glob.t.toNat,.bool x.glob.mu] 75))):=J (HB.out.alloc HB.out.size _)
   have HA:=J (heap_alloc_new wr (.cells #[.string ⟨x.mod.toArray⟩,.string ⟨x.name.toArray⟩,.int .u8 ↑x.kind.toNat,.int .u32 ↑x.type,.int .u32 ↑x.lim.min,.int .i64 x.lim.max,.int .u8 ↑x.glob.t.toNat,.bool x.glob.mu] 75))
   have HMA:Hid (Mod (fun _=>False) wr (wr.alloc (.cells #[.string ⟨x.mod.toArray⟩,.string ⟨x.name.toArray⟩,.int .u8 ↑x.kind.toNat,.int .u32 ↑x.type,.int .u32 ↑x.lim.min,.int .i64 x.lim.max,.int .u8 ↑x.glob.t.toNat,.bool x.glob.mu] 75))):=J ((Mod.refl _ wr).alloc _)
   have HAL:Hid (wr.heap.size < (wr.alloc (.cells #[.string ⟨x.mod.toArray⟩,.string ⟨x.name.toArray⟩,.int .u8 ↑x.kind.toNat,.int .u32 ↑x.type,.int .u32 ↑x.lim.min,.int .i64 x.lim.max,.int .u8 ↑x.glob.t.toNat,.bool x.glob.mu] 75)).heap.size):=J (by simp)
   have HXL:=J hxl
   by_cases hq:x.kind.toNat = k
   ·have HS:=J (et (p:=fun x:Imp=>x.kind.toNat == k) hx (by simp [hq]))
    have hqe:((x.kind.toNat:Int) == (k:Int)) = true:=by simp [hq]
    clear hc hx hq hbw hg hxl
    go_upto_region 5 with fail
    generalize wr.alloc (.cells #[.string ⟨x.mod.toArray⟩,.string ⟨x.name.toArray⟩,.int .u8 ↑x.kind.toNat,.int .u32 ↑x.type,.int .u32 ↑x.lim.min,.int .i64 x.lim.max,.int .u8 ↑x.glob.t.toNat,.bool x.glob.mu] 75) = wa at HBA HA HMA HAL ⊢
    clear k0 k1 k2 k3 k4 k5 k6 k7
    obtain ⟨a0,a1,a2,a3,a4,a5,a6,a7⟩:=aD HA.out
    go_wp2_with fail
    refine (sask1_any x _).mono ?_
    rintro e w2 ⟨rfl,hb2⟩
    have HB2:=J (HBA.out.trans (hb2.mono HBA.out.size))
    have hO2:OwnL 66 w2 w0.heap.size (· < w0.heap.size) u9 _:=HO.out.mod (HMA.out.trans (Mod.of_below (T:=fun _=>False) hb2) (fun _ _ h=>h)) (fun _ _ h=>h) (fun _ _ _ h=>h)
    obtain ⟨v5,w5,hrun,hO5,hM5,hT5⟩:=append1L undLim infLim (by decide) rfl (by decide) w2 w0.heap.size (· < w0.heap.size) u9 _ (x.lim) [.int .u32 ↑x.lim.min,.int .i64 x.lim.max] hO2 (by simp;omega) HB2.out.size ⟨rfl,HXL.out⟩ (by simp [Value.oneCell']) (fun g' _ hg' e=>by have:=(HO.out.lt g' e).1;omega)
    have HRUN:=J hrun
    have HO5:=J (hO5.flat (S':=(· < w0.heap.size)))
    have HB5:Hid (Below w0.heap.size w0 w5):=J (HB2.out.trans (hM5.below HB2.out.size (fun g' hg' e=>by have:=(HO.out.lt g' e).1;omega)))
    clear hb2 hO2 hrun hO5 hM5 hT5 a0 a1 a2 a3 a4 a5 a6 a7
    go_wp2_with (at_builtin;refine ag rfl (.tmp 22) (.tmp 26) 41 rfl _ _ _ w5 rfl rfl HRUN.out ?_)
    go_roundw
    case rel=>exact ⟨j + 1,by omega,by go_num,J (by rw [HS.out,List.map_append];exact HO5.out),HB5⟩
    case measure=>simp [intOf];omega
   ·have HS:=J (fD (p:=fun x:Imp=>x.kind.toNat == k) hx (by simp [hq]))
    have hqe:((x.kind.toNat:Int) == (k:Int)) = false:=nB (by omega)
    clear hc hx hq hbw hg hxl
    go_upto_region 5 with fail
    generalize wr.alloc (.cells #[.string ⟨x.mod.toArray⟩,.string ⟨x.name.toArray⟩,.int .u8 ↑x.kind.toNat,.int .u32 ↑x.type,.int .u32 ↑x.lim.min,.int .i64 x.lim.max,.int .u8 ↑x.glob.t.toNat,.bool x.glob.mu] 75) = wa at HBA HA HMA HAL ⊢
    clear k0 k1 k2 k3 k4 k5 k6 k7
    obtain ⟨a0,a1,a2,a3,a4,a5,a6,a7⟩:=aD HA.out
    go_wp2_with fail
    go_roundw
    case rel=>exact ⟨j + 1,by omega,by go_num,J (by rw [HS.out];exact HO.out.mod HMA.out (fun _ _ h=>h) (fun _ _ _ h=>h)),HBA⟩
    case measure=>simp [intOf];omega
  ·have hlti:decide ((j:Int) < (n1:Int)) = false:=decide_eq_false (by omega)
   have HA:=J (er (p:=fun x:Imp=>x.kind.toNat == k) (xs:=xs) (k:=j) (by rw [HN1.out];omega))
   have hO:=HO.out
   rw [HA.out,HIS.out] at hO hle
   obtain ⟨B,d,rfl,hq1,hq2⟩:=hO.form
   have hbw:=HB0.out.trans (HB.out.mono HB0.out.size)
   have hY1:=HY0.out
   have hYs:HasL wr (· < w0.heap.size) A2 ys:=by
    obtain ⟨A',c',e,_,_,_,hL⟩:=hY1
    injection e with e1 e2 e3
    subst e1
    exact (hL.mod (T:=fun _=>False) (Mod.of_below hbw) (fun _ _ _ h=>h)).more (fun _ _ hk=>Nat.lt_of_lt_of_le hk HB0.out.size)
   obtain ⟨v5,w5,hrun,hO5,hM5,hT5⟩:=appendL undLim infLim (by decide) rfl (by decide) wr w0.heap.size (· < w0.heap.size) _ _ ys A2 n2 c2 hO hYs HN2.out.symm (by simp;have:=HN2.out;omega) HB.out.size (fun g' _ hg' e=>by have:=(hO.lt g' e).1;omega)
   have hO6:=hO5.flat (S':=(· < w0.heap.size))
   obtain ⟨B5,d5,rfl,_,_⟩:=hO6.form
   have HRUN:=J hrun
   have HSL:=J hO6.slice
   have HB5:Hid (Below w0.heap.size w0 w5):=J (HB.out.trans (hM5.below HB.out.size (fun g' hg' e=>by have:=(hO.lt g' e).1;omega)))
   have hZ5:=(HB5.out.block Y HYL.out).trans HZ0.out
   have HZ5:=J hZ5
   simp only [List.length_map] at HRUN hq1 hq2 ⊢
   have hqq:=HQQ.out
   obtain ⟨r,hrr⟩:∃ r,(is.map (·.lim) ++ ys).length = r:=⟨_,rfl⟩
   rw [hqq] at HRUN hle hq1 ⊢
   rw [hrr] at HRUN HSL
   have HRR:=J hrr
   clear hqq hrr hrun hO5 hM5 hT5 hO6 hZ5 hY1 hYs hbw hO HA HO
   go_wp2_with (first | (at_builtin;refine ag rfl (.tmp 29) (.tmp 30) 41 rfl _ _ _ w5 rfl rfl HRUN.out ?_) | (refine ah rfl 103 (.tmp 8) (.tmp 34) rfl rfl Y #[.slice B5 r d5,.int .i64 ↑q] rfl rfl 103 #[.slice none 0 0,.int .i64 0] HZ5.out eX rfl (by simp [Value.oneCell']) ?_))
   have HZZ:=setRow_heap w5 Y #[.slice none 0 0,.int .i64 0] #[.slice B5 r d5,.int .i64 ↑q] _ _ HZ5.out
   refine bodyPost_ret (v:=.agg #[.slice B5 r d5,.int .i64 ↑q]) (bv (p:=8) (ty:=103) (by kernel_rfl) _ _ Y 103 #[.slice B5 r d5,.int .i64 ↑q] (0,0) D rfl HZZ HU.out HD.out eX) rfl ?_
   have hms:Mod (· = Y) w5 (w5.setRow Y #[.slice B5 r d5,.int .i64 ↑q]):=⟨rfl,rfl,rfl,by simp,fun k _ ht=>setRow_other w5 Y k _ ht⟩
   refine ⟨B5,d5,by rw [HRR.out],?_,ab (HB0.out.trans (HB5.out.mono HB0.out.size)) HY.out _⟩
   rw [HRR.out]
   exact (HSL.out.mod hms (fun g _ hg e=>by have:=HYL.out;omega)).more (fun g _ hg=>Nat.le_trans HB0.out.size hg)
theorem srow3_any (xs:List Imp) (ys:List Glob) (vx vy:Value) (k:Nat) (_hk:k < 256) (w:World) (hx0:aa w (· < w.heap.size) xs vx) (hy0:aa w (· < w.heap.size) ys vy) (hlx:xs.length ≤ 1050000) (hly:ys.length ≤ 1050000) :
  Calls Tryz.prog 42 #[vx,.int .u8 ↑k,.func (.func 43) #[] #[],vy] w (fc ((xs.filter fun x=>x.kind.toNat == k).map (·.glob) ++ ys) (xs.filter fun x=>x.kind.toNat == k).length w):=by
 obtain ⟨D,hu,hd⟩:=descOf des_srow3
 have HU:=J hu
 have HD:=J hd
 clear hu hd
 have HY0:=J hy0
 obtain ⟨A1,c1,rfl,_,_,_,hLx⟩:=hx0
 have HLX:=J hLx
 obtain ⟨A2,c2,rfl,_⟩:=hy0
 clear hLx
 obtain ⟨n1,hn1⟩:∃ n,xs.length = n:=⟨_,rfl⟩
 obtain ⟨n2,hn2⟩:∃ n,ys.length = n:=⟨_,rfl⟩
 rw [hn1] at hlx ⊢
 rw [hn2] at hly HY0 ⊢
 have HN1:=J hn1
 have HN2:=J hn2
 clear hn1 hn2
 obtain ⟨is,his⟩:∃ is,xs.filter (fun x:Imp=>x.kind.toNat == k) = is:=⟨_,rfl⟩
 rw [his]
 have HIS:=J his
 clear his
 obtain ⟨q,hqq⟩:∃ q,is.length = q:=⟨_,rfl⟩
 rw [hqq]
 have HQQ:=J hqq
 clear hqq
 have HZ0:=J (heap_alloc_new w (.cells #[.slice none 0 0,.int .i64 0] 109))
 have HB0:Hid (Below w.heap.size w (w.alloc (.cells #[.slice none 0 0,.int .i64 0] 109))):=J bA
 go_enter Tryz.func42,Tryz.ntmps42
 go_upto_region 1 with fail
 generalize w.alloc (.cells #[.slice none 0 0,.int .i64 0] 109) = w0 at HZ0 HB0 ⊢
 obtain ⟨Y,hY⟩:∃ Y,w.heap.size = Y:=⟨_,rfl⟩
 rw [hY] at HZ0
 have HY:Hid (w.heap.size ≤ Y):=J (by omega)
 have HYL:Hid (Y < w0.heap.size):=J (gL HZ0.out)
 simp only [hY]
 clear hY
 go_upto_region 3 with fail
 go_loopw [9,14] (fun l i wr=>∃ j:Nat,j ≤ n1 ∧ i = .int .i64 ↑j ∧ Hid (OwnL 54 wr w0.heap.size (· < w0.heap.size) l (((xs.take j).filter fun x=>x.kind.toNat == k).map (·.glob))) ∧ Hid (Below w0.heap.size w0 wr)) (fun _ i _=>n1 - (intOf i).toNat)
 case atStart=>exact ⟨0,Nat.zero_le _,rfl,J (OwnL.nil _ _ _ _),J (Below.refl _ _)⟩
 case round =>
  obtain ⟨j,hj,rfl,HO,HB⟩:=hrel
  have hle:=fC (fun x:Imp=>x.kind.toNat == k) xs j
  by_cases hlt:j < n1
  ·have hlti:(j:Int) < (n1:Int):=by omega
   obtain ⟨x,hx⟩:∃ x,xs[j]? = some x:=⟨_,List.getElem?_eq_getElem (by rw [HN1.out];exact hlt)⟩
   obtain ⟨g,o,rfl,hg,_,hxt,hxl,hc⟩:=dH HLX.out hx
   have hbw:=HB0.out.trans (HB.out.mono HB0.out.size)
   have HCC:=J (fun (z:Nat) (u:Value) (h:(impCells x)[z]? = some u)=>(hbw.cell (p:=⟨g,o + j * 8 + z,none⟩) hg).trans (hc z u h))
   have k0:wr.cell? ⟨g,o + j * 8,none⟩ = some (strV x.mod):=HCC.out 0 _ rfl
   have k1:wr.cell? ⟨g,o + j * 8 + 1,none⟩ = some (strV x.name):=HCC.out 1 _ rfl
   have k2:wr.cell? ⟨g,o + j * 8 + 2,none⟩ = some (.int .u8 ↑x.kind.toNat):=HCC.out 2 _ rfl
   have k3:wr.cell? ⟨g,o + j * 8 + 3,none⟩ = some (.int .u32 ↑x.type):=HCC.out 3 _ rfl
   have k4:wr.cell? ⟨g,o + j * 8 + 4,none⟩ = some (.int .u32 ↑x.lim.min):=HCC.out 4 _ rfl
   have k5:wr.cell? ⟨g,o + j * 8 + 5,none⟩ = some (.int .i64 x.lim.max):=HCC.out 5 _ rfl
   have k6:wr.cell? ⟨g,o + j * 8 + 6,none⟩ = some (.int .u8 ↑x.glob.t.toNat):=HCC.out 6 _ rfl
   have k7:wr.cell? ⟨g,o + j * 8 + 7,none⟩ = some (.bool x.glob.mu):=HCC.out 7 _ rfl
   unfold strV at k0 k1
   have hxk:=x.kind.toNat_lt
   have HBA:Hid (Below w0.heap.size w0 (wr.alloc (.cells #[.string ⟨x.mod.toArray⟩,.string ⟨x.name.toArray⟩,.int .u8 ↑x.kind.toNat,.int .u32 ↑x.type,.int .u32 ↑x.lim.min,.int .i64 x.lim.max,.int .u8 ↑x.glob.t.toNat,.bool x.glob.mu] 75))):=J (HB.out.alloc HB.out.size _)
   have HA:=J (heap_alloc_new wr (.cells #[.string ⟨x.mod.toArray⟩,.string ⟨x.name.toArray⟩,.int .u8 ↑x.kind.toNat,.int .u32 ↑x.type,.int .u32 ↑x.lim.min,.int .i64 x.lim.max,.int .u8 ↑x.glob.t.toNat,.bool x.glob.mu] 75))
   have HMA:Hid (Mod (fun _=>False) wr (wr.alloc (.cells #[.string ⟨x.mod.toArray⟩,.string ⟨x.name.toArray⟩,.int .u8 ↑x.kind.toNat,.int .u32 ↑x.type,.int .u32 ↑x.lim.min,.int .i64 x.lim.max,.int .u8 ↑x.glob.t.toNat,.bool x.glob.mu] 75))):=J ((Mod.refl _ wr).alloc _)
   have HAL:Hid (wr.heap.size < (wr.alloc (.cells #[.string ⟨x.mod.toArray⟩,.string ⟨x.name.toArray⟩,.int .u8 ↑x.kind.toNat,.int .u32 ↑x.type,.int .u32 ↑x.lim.min,.int .i64 x.lim.max,.int .u8 ↑x.glob.t.toNat,.bool x.glob.mu] 75)).heap.size):=J (by simp)
   have HXL:=J hxl
   by_cases hq:x.kind.toNat = k
   ·have HS:=J (et (p:=fun x:Imp=>x.kind.toNat == k) hx (by simp [hq]))
    have hqe:((x.kind.toNat:Int) == (k:Int)) = true:=by simp [hq]
    clear hc hx hq hbw hg hxl
    go_upto_region 5 with fail
    generalize wr.alloc (.cells #[.string ⟨x.mod.toArray⟩,.string ⟨x.name.toArray⟩,.int .u8 ↑x.kind.toNat,.int .u32 ↑x.type,.int .u32 ↑x.lim.min,.int .i64 x.lim.max,.int .u8 ↑x.glob.t.toNat,.bool x.glob.mu] 75) = wa at HBA HA HMA HAL ⊢
    clear k0 k1 k2 k3 k4 k5 k6 k7
    obtain ⟨a0,a1,a2,a3,a4,a5,a6,a7⟩:=aD HA.out
    go_wp2_with fail
    refine (sask3_any x _).mono ?_
    rintro e w2 ⟨rfl,hb2⟩
    have HB2:=J (HBA.out.trans (hb2.mono HBA.out.size))
    have hO2:OwnL 54 w2 w0.heap.size (· < w0.heap.size) u9 _:=HO.out.mod (HMA.out.trans (Mod.of_below (T:=fun _=>False) hb2) (fun _ _ h=>h)) (fun _ _ h=>h) (fun _ _ _ h=>h)
    obtain ⟨v5,w5,hrun,hO5,hM5,hT5⟩:=append1L undGlob infGlob (by decide) rfl (by decide) w2 w0.heap.size (· < w0.heap.size) u9 _ (x.glob) [.int .u8 ↑x.glob.t.toNat,.bool x.glob.mu] hO2 (by simp;omega) HB2.out.size rfl (by simp [Value.oneCell']) (fun g' _ hg' e=>by have:=(HO.out.lt g' e).1;omega)
    have HRUN:=J hrun
    have HO5:=J (hO5.flat (S':=(· < w0.heap.size)))
    have HB5:Hid (Below w0.heap.size w0 w5):=J (HB2.out.trans (hM5.below HB2.out.size (fun g' hg' e=>by have:=(HO.out.lt g' e).1;omega)))
    clear hb2 hO2 hrun hO5 hM5 hT5 a0 a1 a2 a3 a4 a5 a6 a7
    go_wp2_with (at_builtin;refine ag rfl (.tmp 22) (.tmp 26) 107 rfl _ _ _ w5 rfl rfl HRUN.out ?_)
    go_roundw
    case rel=>exact ⟨j + 1,by omega,by go_num,J (by rw [HS.out,List.map_append];exact HO5.out),HB5⟩
    case measure=>simp [intOf];omega
   ·have HS:=J (fD (p:=fun x:Imp=>x.kind.toNat == k) hx (by simp [hq]))
    have hqe:((x.kind.toNat:Int) == (k:Int)) = false:=nB (by omega)
    clear hc hx hq hbw hg hxl
    go_upto_region 5 with fail
    generalize wr.alloc (.cells #[.string ⟨x.mod.toArray⟩,.string ⟨x.name.toArray⟩,.int .u8 ↑x.kind.toNat,.int .u32 ↑x.type,.int .u32 ↑x.lim.min,.int .i64 x.lim.max,.int .u8 ↑x.glob.t.toNat,.bool x.glob.mu] 75) = wa at HBA HA HMA HAL ⊢
    clear k0 k1 k2 k3 k4 k5 k6 k7
    obtain ⟨a0,a1,a2,a3,a4,a5,a6,a7⟩:=aD HA.out
    go_wp2_with fail
    go_roundw
    case rel=>exact ⟨j + 1,by omega,by go_num,J (by rw [HS.out];exact HO.out.mod HMA.out (fun _ _ h=>h) (fun _ _ _ h=>h)),HBA⟩
    case measure=>simp [intOf];omega
  ·have hlti:decide ((j:Int) < (n1:Int)) = false:=decide_eq_false (by omega)
   have HA:=J (er (p:=fun x:Imp=>x.kind.toNat == k) (xs:=xs) (k:=j) (by rw [HN1.out];omega))
   have hO:=HO.out
   rw [HA.out,HIS.out] at hO hle
   obtain ⟨B,d,rfl,hq1,hq2⟩:=hO.form
   have hbw:=HB0.out.trans (HB.out.mono HB0.out.size)
   have hY1:=HY0.out
   have hYs:HasL wr (· < w0.heap.size) A2 ys:=by
    obtain ⟨A',c',e,_,_,_,hL⟩:=hY1
    injection e with e1 e2 e3
    subst e1
    exact (hL.mod (T:=fun _=>False) (Mod.of_below hbw) (fun _ _ _ h=>h)).more (fun _ _ hk=>Nat.lt_of_lt_of_le hk HB0.out.size)
   obtain ⟨v5,w5,hrun,hO5,hM5,hT5⟩:=appendL undGlob infGlob (by decide) rfl (by decide) wr w0.heap.size (· < w0.heap.size) _ _ ys A2 n2 c2 hO hYs HN2.out.symm (by simp;have:=HN2.out;omega) HB.out.size (fun g' _ hg' e=>by have:=(hO.lt g' e).1;omega)
   have hO6:=hO5.flat (S':=(· < w0.heap.size))
   obtain ⟨B5,d5,rfl,_,_⟩:=hO6.form
   have HRUN:=J hrun
   have HSL:=J hO6.slice
   have HB5:Hid (Below w0.heap.size w0 w5):=J (HB.out.trans (hM5.below HB.out.size (fun g' hg' e=>by have:=(hO.lt g' e).1;omega)))
   have hZ5:=(HB5.out.block Y HYL.out).trans HZ0.out
   have HZ5:=J hZ5
   simp only [List.length_map] at HRUN hq1 hq2 ⊢
   have hqq:=HQQ.out
   obtain ⟨r,hrr⟩:∃ r,(is.map (·.glob) ++ ys).length = r:=⟨_,rfl⟩
   rw [hqq] at HRUN hle hq1 ⊢
   rw [hrr] at HRUN HSL
   have HRR:=J hrr
   clear hqq hrr hrun hO5 hM5 hT5 hO6 hZ5 hY1 hYs hbw hO HA HO
   go_wp2_with (first | (at_builtin;refine ag rfl (.tmp 29) (.tmp 30) 107 rfl _ _ _ w5 rfl rfl HRUN.out ?_) | (refine ah rfl 109 (.tmp 8) (.tmp 34) rfl rfl Y #[.slice B5 r d5,.int .i64 ↑q] rfl rfl 109 #[.slice none 0 0,.int .i64 0] HZ5.out eY rfl (by simp [Value.oneCell']) ?_))
   have HZZ:=setRow_heap w5 Y #[.slice none 0 0,.int .i64 0] #[.slice B5 r d5,.int .i64 ↑q] _ _ HZ5.out
   refine bodyPost_ret (v:=.agg #[.slice B5 r d5,.int .i64 ↑q]) (bv (p:=8) (ty:=109) (by kernel_rfl) _ _ Y 109 #[.slice B5 r d5,.int .i64 ↑q] (0,0) D rfl HZZ HU.out HD.out eY) rfl ?_
   have hms:Mod (· = Y) w5 (w5.setRow Y #[.slice B5 r d5,.int .i64 ↑q]):=⟨rfl,rfl,rfl,by simp,fun k _ ht=>setRow_other w5 Y k _ ht⟩
   refine ⟨B5,d5,by rw [HRR.out],?_,ab (HB0.out.trans (HB5.out.mono HB0.out.size)) HY.out _⟩
   rw [HRR.out]
   exact (HSL.out.mod hms (fun g _ hg e=>by have:=HYL.out;omega)).more (fun g _ hg=>Nat.le_trans HB0.out.size hg)
theorem gv_at3 {w:World} {S:Nat → Prop} {A:Option Addr} {xs:List GV} {k:Nat} {x:GV} (h:HasL w S A xs) (hx:xs[k]? = some x):∃ g o D n d,A = some ⟨g,o,none⟩ ∧ g < w.heap.size ∧ w.cell? ⟨g,o + k * 3,none⟩ = some (.int .u8 ↑x.type.t.toNat) ∧ w.cell? ⟨g,o + k * 3 + 1,none⟩ = some (.bool x.type.mu) ∧ w.cell? ⟨g,o + k * 3 + 2,none⟩ = some (.slice D n d):=by
 obtain ⟨g,o,cs,h1,_,h3,⟨v,rfl,D,d,rfl,_⟩,h6⟩:=h k x hx
 exact ⟨g,o,D,_,d,h1,h3,h6 0 _ rfl,h6 1 _ rfl,h6 2 _ rfl⟩
theorem sgtypes_any (xs:List GV) (vx:Value) (w:World) (hx0:aa w (· < w.heap.size) xs vx) (hlx:xs.length ≤ 1050000) :
  Calls Tryz.prog 44 #[vx] w fun e w'=>∃ u,e = .returned u ∧ aa w' (w.heap.size ≤ ·) (xs.map (·.type)) u ∧ Below w.heap.size w w':=by
 obtain ⟨A1,c1,rfl,_,_,_,hLx⟩:=hx0
 have HLX:=J hLx
 clear hLx
 obtain ⟨n1,hn1⟩:∃ n,xs.length = n:=⟨_,rfl⟩
 rw [hn1] at hlx ⊢
 have HN1:=J hn1
 clear hn1
 go_enter Tryz.func44,Tryz.ntmps44
 go_upto_region 3 with fail
 go_loopw [3,8] (fun l i wr=>∃ j:Nat,j ≤ n1 ∧ i = .int .i64 ↑j ∧ Hid (OwnL 54 wr w.heap.size (· < w.heap.size) l ((xs.take j).map (·.type))) ∧ Hid (Below w.heap.size w wr)) (fun _ i _=>n1 - (intOf i).toNat)
 case atStart=>exact ⟨0,Nat.zero_le _,rfl,J (OwnL.nil _ _ _ _),J (Below.refl _ _)⟩
 case round =>
  obtain ⟨j,hj,rfl,HO,HB⟩:=hrel
  by_cases hlt:j < n1
  ·have hlti:(j:Int) < (n1:Int):=by omega
   obtain ⟨x,hx⟩:∃ x,xs[j]? = some x:=⟨_,List.getElem?_eq_getElem (by rw [HN1.out];exact hlt)⟩
   obtain ⟨g,o,D,ni,d,rfl,hg,hc0,hc1,hc2⟩:=gv_at3 HLX.out hx
   have z0:=(HB.out.cell (p:=⟨g,o + j * 3,none⟩) hg).trans hc0
   have z1:=(HB.out.cell (p:=⟨g,o + j * 3 + 1,none⟩) hg).trans hc1
   have z2:=(HB.out.cell (p:=⟨g,o + j * 3 + 2,none⟩) hg).trans hc2
   have HTK:Hid (xs.take (j + 1) = xs.take j ++ [x]):=J (by rw [List.take_add_one,hx];rfl)
   have htl:(xs.take j).length ≤ j:=List.length_take_le _ _
   have HBA:Hid (Below w.heap.size w (wr.alloc (.cells #[.int .u8 ↑x.type.t.toNat,.bool x.type.mu,.slice D ni d] 59))):=J (HB.out.alloc HB.out.size _)
   have HA:=J (heap_alloc_new wr (.cells #[.int .u8 ↑x.type.t.toNat,.bool x.type.mu,.slice D ni d] 59))
   have HMA:Hid (Mod (fun _=>False) wr (wr.alloc (.cells #[.int .u8 ↑x.type.t.toNat,.bool x.type.mu,.slice D ni d] 59))):=J ((Mod.refl _ wr).alloc _)
   obtain ⟨v5,w5,hrun,hO5,hM5,hT5⟩:=append1L undGlob infGlob (by decide) rfl (by decide) (wr.alloc (.cells #[.int .u8 ↑x.type.t.toNat,.bool x.type.mu,.slice D ni d] 59)) w.heap.size (· < w.heap.size) u3 _ x.type [.int .u8 ↑x.type.t.toNat,.bool x.type.mu] (HO.out.mod HMA.out (fun _ _ h=>h) (fun _ _ _ h=>h)) (by simp;omega) HBA.out.size rfl (by simp [Value.oneCell']) (fun g' _ hg' e=>by have:=(HO.out.lt g' e).1;omega)
   have HRUN:=J hrun
   have HO5:=J (hO5.flat (S':=(· < w.heap.size)))
   have HB5:Hid (Below w.heap.size w w5):=J (HBA.out.trans (hM5.below HBA.out.size (fun g' hg' e=>by have:=(HO.out.lt g' e).1;omega)))
   clear hrun hO5 hM5 hT5 hc0 hc1 hc2 hx hg
   go_upto_region 5 with fail
   generalize wr.alloc (.cells #[.int .u8 ↑x.type.t.toNat,.bool x.type.mu,.slice D ni d] 59) = wa at HBA HA HMA HRUN ⊢
   clear z0 z1 z2
   obtain ⟨a0,a1⟩:wa.cell? ⟨wr.heap.size,0,none⟩ = some (.int .u8 ↑x.type.t.toNat) ∧ wa.cell? ⟨wr.heap.size,1,none⟩ = some (.bool x.type.mu):=⟨by rw [cell_of_row wa _ 0 _ _ (0,0) HA.out];rfl,by rw [cell_of_row wa _ 1 _ _ (0,0) HA.out];rfl⟩
   go_wp2_with (at_builtin;refine ag rfl (.tmp 12) (.tmp 15) 107 rfl _ _ _ w5 rfl rfl HRUN.out ?_)
   go_roundw
   case rel=>exact ⟨j + 1,by omega,by go_num,J (by rw [HTK.out,List.map_append];exact HO5.out),HB5⟩
   case measure=>simp [intOf];omega
  ·have hlti:decide ((j:Int) < (n1:Int)) = false:=decide_eq_false (by omega)
   have HA:Hid (xs.take j = xs):=J (List.take_of_length_le (by rw [HN1.out];omega))
   go_wp2_with fail
   go_ret
   have hO:=HO.out
   rw [HA.out] at hO
   exact ⟨_,rfl,hO.slice,HB.out⟩
end Go.Proofs.YtmpelmihdpomjaaGreat
