/-
  Layer 12's sizes: as many zero records laid behind a slice that has no room; records of which the first ones have been turned to nops.
-/
import Derived.Test.YtmpelmihdpomjaaGreatSq01
import Derived.Test.YtmpelmihdpomjaaGreatSq29
import Derived.Lib.AppendZerosOnto
set_option maxRecDepth 100000
set_option maxHeartbeats 4000000
namespace Go.Proofs.YtmpelmihdpomjaaGreat
open Go.RowKit Ins Bin Sp
theorem zero_at (z:Array Value) (k i:Nat) (hi:i < k * z.size):(Builtin.zeroCells z k)[i]? = some z[i % z.size]!:=by
 unfold Builtin.zeroCells
 rw [Array.getElem?_map,Array.getElem?_eq_getElem (by simpa using hi)]
 simp
theorem zero_row (z:Array Value) (k q j:Nat) (u:Value) (hq:q < k) (hj:z[j]? = some u):(Builtin.zeroCells z k)[q * z.size + j]? = some u:=by
 have hlt:=(gL hj)
 have h1:(q + 1) * z.size ≤ k * z.size:=Nat.mul_le_mul_right _ hq
 rw [Nat.succ_mul] at h1
 rw [zero_at z k _ (by omega),Nat.mul_comm,Nat.mul_add_mod,Nat.mod_eq_of_lt hlt,getElem!_def,hj]
theorem appendZ {α:Type} [Lay α] {st t tn:TypeId} {z:Value} {by':Nat} (hu:Tryz.prog.underlying st = some (.slice t)) (htn:Tryz.prog.underlying tn = some (.int .i64)) (hi0:(Tryz.prog.info? t).map (fun i=>(i.zero,i.size,i.bytes)) = some (some z,Lay.size α,by')) (hby:by' ≤ 4096) (hzs:z.cells.size = Lay.size α) (hpos:0 < Lay.size α)
  (w:World) (S:Nat → Prop) (g n:Nat) (cs:Array Value) (tt:TypeId) (xs:List α) (x0:α) (hg:w.heap[g]? = some (.cells cs tt (0,0))) (hcs:cs.size = n * Lay.size α) (hl:xs.length = n) (hx:HasL w S (some ⟨g,0,none⟩) xs) (hz0:∀ (W:World) (S:Nat → Prop),Lay.rep W S x0 z.cells.toList) (k:Nat) (hk:n + k ≤ 100000) :
  ∃ b c w',(Builtin.append_ #[st,tn] st #[.slice (some ⟨g,0,none⟩) n n,.int .i64 ↑k]).run Tryz.prog w = .ok (.slice (some ⟨b,0,none⟩) (n + k) c) w' ∧ aa w' (fun q=>S q ∨ q = b) (xs ++ List.replicate k x0) (.slice (some ⟨b,0,none⟩) (n + k) c) ∧ Below w.heap.size w w' ∧ (b = g ∨ b = w.heap.size):=by
 obtain ⟨i0,hi,hz,hz1,hz2⟩:=info_parts hi0
 have hgl:=(gL hg)
 rcases Nat.eq_zero_or_pos k with rfl | hk0
 ·refine ⟨g,n,w,?_,⟨some ⟨g,0,none⟩,n,by simp [hl],by simp [hl],by unfold maxLen;omega,(fun e=>by cases e),?_⟩,Below.refl _ _,.inl rfl⟩
  ·have hw:IntKind.i64.wrap 0 = 0:=by decide
   simp [Builtin.append_,run_underlying hu,run_underlying htn,sizeOf,typeInfo,hi,asInt,asIntOf,hw,storeCells]
  ·simpa using hx.more (S':=fun q=>S q ∨ q = g) (fun _ _ h=>Or.inl h)
 ·have hold:(Builtin.firstCells i0.size n (.slice (some ⟨g,0,none⟩) n n)).run Tryz.prog w.drew = .ok cs.toList.toArray w.drew:=run_firstCells_some (P:=Tryz.prog) w.drew i0.size n ⟨g,0,none⟩ n n cs.toList (by rw [hz1];simpa using hcs) (fun j v hj=>by
   rw [addr_at,Nat.zero_add]
   rw [show w.drew.cell? ⟨g,j,none⟩ = w.cell? ⟨g,j,none⟩ from rfl,cell_of_row w g j _ _ (0,0) hg]
   simpa using hj)
  have hbytes:(n + k) * i0.bytes ≤ 140737488355328:=by
   have:(n + k) * i0.bytes ≤ 100000 * 4096:=Nat.mul_le_mul hk (by omega)
   omega
  have hb2:k * i0.bytes ≤ (n + k) * i0.bytes:=Nat.mul_le_mul_right _ (by omega)
  have hrun:=Lib.run_append_grow_zeros (P:=Tryz.prog) w st tn st t i0 z .i64 .i64 hu htn hi hz (some ⟨g,0,none⟩) n n cs.toList hold k hk0 (by omega) (by omega) (by omega) (by omega) (growslice_fits (by omega) hbytes)
  have hcge:=grownCap_ge w (n + k) n t
  have hcle:=grownCap_le_maxLen w (n + k) n t (by unfold maxLen;omega)
  generalize grownCap w (n + k) n t = c at hrun hcge hcle
  obtain ⟨A,hA⟩:∃ A,A = cs.toList.toArray ++ Builtin.zeroCells z.cells k ++ Builtin.zeroCells z.cells (c - (n + k)):=⟨_,rfl⟩
  rw [← hA] at hrun
  have hbel:Below w.heap.size w (w.drew.alloc (.cells A t)):=(Below.drew (Below.refl _ w)).alloc (Nat.le_refl _) _
  have hnew:(w.drew.alloc (.cells A t)).heap[w.heap.size]? = some (.cells A t (0,0)):=heap_alloc_new w.drew (.cells A t)
  refine ⟨w.heap.size,c,_,hrun,⟨some ⟨w.heap.size,0,none⟩,c,by simp [hl],by simp [hl];omega,hcle,(fun e=>by cases e),fun q x hq=>?_⟩,hbel,.inr rfl⟩
  have hzsz:(Builtin.zeroCells z.cells k).size = k * Lay.size α:=by simp [Builtin.zeroCells,hzs]
  by_cases hqn:q < n
  ·rw [List.getElem?_append_left (by omega)] at hq
   obtain ⟨g',o',cx,e,hSg,_,hr,hc⟩:=hx q x hq
   injection e with e
   injection e with e1 e2 _
   subst e1 e2
   refine ⟨w.heap.size,0,cx,rfl,.inr rfl,(gL hnew),Lay.more (Lay.mod hr (T:=fun _=>False) (Mod.of_below hbel) (fun _ _ _ h=>h)) (fun _ _ h=>Or.inl h),fun j u hj=>?_⟩
   have h1:=hc j u hj
   rw [cell_of_row w g _ _ _ (0,0) hg] at h1
   rw [cell_of_row _ w.heap.size _ _ _ (0,0) hnew,hA]
   have hlt:=(gL h1)
   rw [Array.getElem?_append_left (by simp;omega),Array.getElem?_append_left (by simpa using hlt)]
   simpa using h1
  ·rw [List.getElem?_append_right (by omega)] at hq
   have hy:x = x0:=List.eq_of_mem_replicate (List.mem_of_getElem? hq)
   have hqk:q - n < k:=by have:=(List.getElem?_eq_some_iff.1 hq).1;simp at this;omega
   subst hy
   refine ⟨w.heap.size,0,z.cells.toList,rfl,.inr rfl,(gL hnew),hz0 _ _,fun j u hj=>?_⟩
   have hj':z.cells[j]? = some u:=by simpa using hj
   have hjl:=(gL hj')
   have hrow:=zero_row z.cells k (q - n) j u hqk hj'
   rw [hzs] at hrow
   have h2:q * Lay.size α = n * Lay.size α + (q - n) * Lay.size α:=by rw [← Nat.add_mul];congr 1;omega
   have hlt2:=(gL hrow)
   rw [cell_of_row _ w.heap.size _ _ _ (0,0) hnew,hA,Array.getElem?_append_left (by simp;omega),Array.getElem?_append_right (by simp;omega)]
   rw [show 0 + q * Lay.size α + j - cs.toList.toArray.size = (q - n) * Lay.size α + j from by simp;omega]
   exact hrow
def nopC (i k:Nat):Array Value:=(Array.range (k * 5)).map fun q=>if q % 5 = 0 then (if q / 5 < i then .int .u8 1 else .int .u8 0) else if q % 5 = 1 then .int .u32 0 else if q % 5 = 2 then .int .u32 0 else if q % 5 = 3 then .int .i64 0 else .slice none 0 0
theorem dF (i k q:Nat) (hq:q < k * 5):(nopC i k)[q]? = some (if q % 5 = 0 then (if q / 5 < i then .int .u8 1 else .int .u8 0) else if q % 5 = 1 then .int .u32 0 else if q % 5 = 2 then .int .u32 0 else if q % 5 = 3 then .int .i64 0 else .slice none 0 0):=by
 unfold nopC
 rw [Array.getElem?_map,Array.getElem?_eq_getElem (by simpa using hq)]
 simp
theorem cR (i k:Nat):(nopC i k).size = k * 5:=by simp [nopC]
theorem nopC_zero (k:Nat):madeCells #[.int .u8 0,.int .u32 0,.int .u32 0,.int .i64 0,.slice none 0 0] (k * 5) = nopC 0 k:=by
 apply Array.ext (by simp [madeCells,nopC])
 intro q h1 h2
 have hq:q < k * 5:=by rwa [cR] at h2
 have e:=dF 0 k q hq
 rw [Array.getElem?_eq_getElem h2] at e
 injection e with e
 rw [e]
 simp only [madeCells,Array.getElem_map,Array.getElem_range]
 rcases (show q % 5 = 0 ∨ q % 5 = 1 ∨ q % 5 = 2 ∨ q % 5 = 3 ∨ q % 5 = 4 by omega) with h | h | h | h | h <;> simp [h]
theorem nopC_step (i k:Nat):(nopC i k).setIfInBounds (i * 5) (.int .u8 1) = nopC (i + 1) k:=by
 apply Array.ext (by simp [nopC])
 intro q h1 h2
 have hq:q < k * 5:=by rwa [cR] at h2
 have e:=dF (i + 1) k q hq
 have e0:=dF i k q hq
 rw [Array.getElem?_eq_getElem h2] at e
 rw [Array.getElem?_eq_getElem (by rw [cR];exact hq)] at e0
 injection e with e
 injection e0 with e0
 rw [e,Array.getElem_setIfInBounds (by rw [cR];exact hq)]
 by_cases hqi:i * 5 = q
 ·rw [if_pos hqi]
  subst hqi
  simp
 ·rw [if_neg hqi,e0]
  by_cases h5:q % 5 = 0
  ·simp only [h5,if_true]
   by_cases h6:q / 5 < i
   ·rw [if_pos h6,if_pos (by omega)]
   ·rw [if_neg h6,if_neg (by omega)]
  ·simp [h5]
theorem nopC_all {W:World} {S:Nat → Prop} {b k:Nat} {t:TypeId} (h:W.heap[b]? = some (.cells (nopC k k) t (0,0))) (hb:S b) (hk:k ≤ 100000):aa W S (List.replicate k Bo.nop) (.slice (some ⟨b,0,none⟩) k k):=by
 refine ⟨some ⟨b,0,none⟩,k,by simp,by simp,by unfold maxLen;omega,(fun e=>by cases e),fun q x hq=>?_⟩
 have hqk:q < k:=by have:=(List.getElem?_eq_some_iff.1 hq).1;simpa using this
 have hy:x = Bo.nop:=List.eq_of_mem_replicate (List.mem_of_getElem? hq)
 subst hy
 refine ⟨b,0,[.int .u8 1,.int .u32 0,.int .u32 0,.int .i64 0,.slice none 0 0],rfl,hb,(gL h),⟨none,0,rfl,⟨by decide,by decide,by decide,by decide,by decide,nofun⟩,Nat.le_refl _,Nat.zero_le _,HasU.nil _ _ _⟩,fun j u hj=>?_⟩
 have hj5:j < 5:=by have:=(List.getElem?_eq_some_iff.1 hj).1;simpa using this
 rw [cell_of_row W b _ _ _ (0,0) h,show Lay.size I = 5 from rfl,dF k k _ (by omega),Nat.zero_add,← hj]
 have e5:(q * 5 + j) % 5 = j:=by omega
 have e6:(q * 5 + j) / 5 = q:=by omega
 rw [e5,e6]
 rcases (show j = 0 ∨ j = 1 ∨ j = 2 ∨ j = 3 ∨ j = 4 by omega) with rfl | rfl | rfl | rfl | rfl <;> simp [hqk]
theorem undIZ:Tryz.prog.underlying 57 = some (.slice 56):=by kernel_rfl
theorem infIZ:(Tryz.prog.info? 56).map (fun i=>(i.zero,i.size,i.bytes)) = some (some (.agg #[.int .u8 0,.int .u32 0,.int .u32 0,.int .i64 0,.slice none 0 0]),5,48):=by kernel_rfl
theorem made_nops (W:World) (k:Nat) (hk:k ≤ 100000):(Instr.makeSlice 57 (.int .i64 ↑k) (.int .i64 ↑k)).run Tryz.prog W = .ok (.slice (some ⟨W.heap.size,0,none⟩) k k) (W.alloc (.cells (nopC 0 k) 56)):=by
 obtain ⟨i,hi,hz,hs,hb⟩:=info_parts infIZ
 have h:=run_make (P:=Tryz.prog) W 57 56 i _ undIZ hi hz .i64 .i64 k k (by omega) (Int.le_refl _) (by rw [hb];omega) (by omega)
 rw [h,hs,← nopC_zero]
 simp only [Int.toNat_natCast]
 rfl
theorem undFZ:Tryz.prog.underlying 38 = some (.slice 29):=by kernel_rfl
theorem infFZ:(Tryz.prog.info? 29).map (fun i=>(i.zero,i.size,i.bytes)) = some (some (.agg #[.slice none 0 0,.slice none 0 0]),Lay.size FT,48):=by kernel_rfl
theorem undUZ:Tryz.prog.underlying 40 = some (.slice 44):=by kernel_rfl
theorem infUZ:(Tryz.prog.info? 44).map (fun i=>(i.zero,i.size,i.bytes)) = some (some (.int .u32 0),Lay.size Nat,4):=by kernel_rfl
theorem undCZ:Tryz.prog.underlying 46 = some (.slice 64):=by kernel_rfl
theorem infCZ:(Tryz.prog.info? 64).map (fun i=>(i.zero,i.size,i.bytes)) = some (some (.agg #[.slice none 0 0,.slice none 0 0]),Lay.size Cd,48):=by kernel_rfl
theorem undNZ:Tryz.prog.underlying 3 = some (.int .i64):=by kernel_rfl
theorem bJ {α:Type} [Lay α] {w:World} {S:Nat → Prop} {xs:List α} {A:Option Addr} {n c:Nat} (h:aa w S xs (.slice A n c)):HasL w S A xs:=by
 obtain ⟨A',c',e,_,_,_,hL⟩:=h
 injection e with e1 e2 e3
 subst e1
 exact hL
section
variable {W:World} {g:Nat} {S:Nat → Prop}
theorem lg_typesS (h0:W.heap[g]? = some (.cells #[.int .u8 126] 5 (0,0))) (h1:W.heap[g + 1]? = some (.cells #[.int .u8 127] 5 (0,0))) (h2:W.heap[g + 2]? = some (.cells #[.slice none 0 0,.slice none 0 0,.slice (some ⟨g,0,none⟩) 1 1,.slice none 0 0,.slice (some ⟨g + 1,0,none⟩) 1 1,.slice none 0 0] 29 (0,0))) (q0:S g) (q1:S (g + 1)) (q2:S (g + 2)):aa W S Ru.lt (.slice (some ⟨g + 2,0,none⟩) 3 3):=by
 have s0:aa W S ([126]:List UInt8) (.slice (some ⟨g,0,none⟩) 1 1):=litV (α:=UInt8) [(126,[.int .u8 126])] h0 q0 (by intro y hy;simp at hy;subst hy;rfl) rfl rfl 1 rfl (by decide)
 have s1:aa W S ([127]:List UInt8) (.slice (some ⟨g + 1,0,none⟩) 1 1):=litV (α:=UInt8) [(127,[.int .u8 127])] h1 q1 (by intro y hy;simp at hy;subst hy;rfl) rfl rfl 1 rfl (by decide)
 exact litV (α:=FT) [(⟨[],[]⟩,[.slice none 0 0,.slice none 0 0]),(⟨[126],[]⟩,[.slice (some ⟨g,0,none⟩) 1 1,.slice none 0 0]),(⟨[127],[]⟩,[.slice (some ⟨g + 1,0,none⟩) 1 1,.slice none 0 0])] h2 q2 (by intro y hy;simp at hy;rcases hy with rfl | rfl | rfl;exact ⟨_,_,rfl,aa.nil _ _,aa.nil _ _⟩;exact ⟨_,_,rfl,s0,aa.nil _ _⟩;exact ⟨_,_,rfl,s1,aa.nil _ _⟩) rfl rfl 3 rfl (by decide)
theorem dZ (h:W.heap[g]? = some (.cells #[.int .u32 0] 44 (0,0))) (q:S g):aa W S ([0]:List Nat) (.slice (some ⟨g,0,none⟩) 1 1) :=
 litV (α:=Nat) [(0,[.int .u32 0])] h q (by intro y hy;simp at hy;subst hy;exact ⟨rfl,by decide⟩) rfl rfl 1 rfl (by decide)
theorem lg_codesS (h:W.heap[g]? = some (.cells #[.slice none 0 0,.slice none 0 0] 64 (0,0))) (q:S g):aa W S ([⟨[],[]⟩]:List Cd) (.slice (some ⟨g,0,none⟩) 1 1) :=
 litV (α:=Cd) [(⟨[],[]⟩,[.slice none 0 0,.slice none 0 0])] h q (by intro y hy;simp at hy;subst hy;exact ⟨_,_,rfl,aa.nil _ _,aa.nil _ _⟩) rfl rfl 1 rfl (by decide)
end
structure G7 (wx:World) (g:Nat) (xs:List I) (W:World) (v:Value):Prop where
 md:Mod (fun k=>k = g + 4) wx W
 c4:W.heap[g + 4]? = some (.cells #[.slice none 0 0,v] 64 (0,0))
 sl:aa W (wx.heap.size ≤ ·) xs v
instance : Ones I:=⟨fun h u hu=>by
 obtain ⟨A,c,rfl,_⟩:=h
 simp [insCells] at hu
 rcases hu with rfl | rfl | rfl | rfl | rfl <;> rfl⟩
theorem one_own {W:World} {S:Nat → Prop} {B p t:Nat} (ht:t < 4294967296) {op:Nat} (ho:op < 256) (hp:W.heap[p]? = some (.cells #[.int .u8 ↑op,.int .u32 ↑t,.int .u32 0,.int .i64 0,.slice none 0 0] 56 (0,0))) (hB:B ≤ p):OwnL 56 W B S (.slice (some ⟨p,0,none⟩) 1 1) ([⟨op,t,0,0,[]⟩]:List I) :=
 ⟨[(⟨op,t,0,0,[]⟩,[.int .u8 ↑op,.int .u32 ↑t,.int .u32 0,.int .i64 0,.slice none 0 0])],rfl,⟨rfl,.inr ⟨p,1,_,rfl,hB,hp,Nat.le_refl _,(by unfold maxLen;omega),rfl,rfl⟩⟩,fun y hy=>by
  simp at hy;subst hy
  exact ⟨none,0,rfl,⟨ho,ht,by show 0 < 4294967296;decide,by show (-9223372036854775808:Int) ≤ 0;decide,by show (0:Int) ≤ 9223372036854775807;decide,nofun⟩,Nat.le_refl _,Nat.zero_le _,HasU.nil _ _ _⟩⟩
theorem app9 {wx wr W:World} {v:Value} {xs:List I} {p:Nat} (hsl:aa wr (wx.heap.size ≤ ·) xs v) (hb:Below wr.heap.size wr W) (hle:wx.heap.size ≤ wr.heap.size) (hp:W.heap[p]? = some (.cells #[.int .u8 2,.int .u32 64,.int .u32 0,.int .i64 0,.slice none 0 0] 56 (0,0))) (hp2:wr.heap.size ≤ p) (hl:xs.length ≤ 1000) :
  ∃ A c W',(Builtin.append_ #[57,57] 57 #[.slice (some ⟨p,0,none⟩) 1 1,v]).run Tryz.prog W = .ok (.slice A (xs.length + 1) c) W' ∧ OwnL 56 W' wx.heap.size (fun q=>wx.heap.size ≤ q ∧ q < wr.heap.size) (.slice A (xs.length + 1) c) (Bo.blk 64 :: xs) ∧ Below wr.heap.size wr W' ∧
   (∀ q,q < W.heap.size → q ≠ p → W'.heap[q]? = W.heap[q]?) ∧ ∀ q,(Value.slice A (xs.length + 1) c).ownBlock = some q → q = p ∨ W.heap.size ≤ q:=by
 obtain ⟨A,c,rfl,hc,hm,hn,hL⟩:=hsl
 have hL2:HasL W (fun q=>wx.heap.size ≤ q ∧ q < wr.heap.size) A xs:=(hL.more (S':=fun q=>wx.heap.size ≤ q ∧ q < wr.heap.size) (fun q hq hs=>⟨hs,hq⟩)).mod (T:=fun _=>False) (Mod.of_below hb) (fun _ _ _ h=>h)
 have hO:OwnL 56 W wx.heap.size (fun q=>wx.heap.size ≤ q ∧ q < wr.heap.size) (.slice (some ⟨p,0,none⟩) 1 1) [Bo.blk 64]:=one_own (by decide) (by decide) hp (by omega)
 obtain ⟨v',w',hrun,h1,h2,h3⟩:=appendL undIZ infIZ (by decide) rfl (by decide) W wx.heap.size (fun q=>wx.heap.size ≤ q ∧ q < wr.heap.size) _ [Bo.blk 64] xs A xs.length c hO hL2 rfl (by simp;omega) (Nat.le_trans hle hb.size) (fun q _ hs e=>by simp [Value.ownBlock] at e;omega)
 obtain ⟨A5,c5,e5,_⟩:=id (h1.tell (fun _ h=>h.1.1))
 have hlen:([Bo.blk 64] ++ xs).length = xs.length + 1:=by simp
 rw [hlen] at e5
 subst e5
 refine ⟨A5,c5,w',hrun,h1.more (fun _ _ h=>h.1),?_,fun q hq hne=>h2.block _ hq (fun e=>hne (by simp [Value.ownBlock] at e;exact e.symm)),fun q hq=>?_⟩
 ·exact hb.trans (h2.below hb.size (fun q _ e=>by simp [Value.ownBlock] at e;omega))
 ·rcases h3 q hq with e | e
  ·simp [Value.ownBlock] at e;exact .inl e.symm
  ·exact .inr e
theorem app12 {wx wr W:World} {ys:List I} {A:Option Addr} {n c q:Nat} (hO:OwnL 56 W wx.heap.size (fun q=>wx.heap.size ≤ q ∧ q < wr.heap.size) (.slice A n c) ys) (hb:Below wr.heap.size wr W) (hle:wx.heap.size ≤ wr.heap.size) (hq:W.heap[q]? = some (.cells #[.int .u8 11,.int .u32 0,.int .u32 0,.int .i64 0,.slice none 0 0] 56 (0,0))) (hq2:wr.heap.size ≤ q)
  (hne:(Value.slice A n c).ownBlock ≠ some q) (hown:∀ k,(Value.slice A n c).ownBlock = some k → wr.heap.size ≤ k) (hl:ys.length ≤ 2000) :
  ∃ A' c' W',(Builtin.append_ #[57,57] 57 #[.slice A n c,.slice (some ⟨q,0,none⟩) 1 1]).run Tryz.prog W = .ok (.slice A' (ys.length + 1) c') W' ∧ aa W' (wx.heap.size ≤ ·) (ys ++ [Bo.endI]) (.slice A' (ys.length + 1) c') ∧ Below wr.heap.size wr W':=by
 have hE:HasL W (fun k=>(wx.heap.size ≤ k ∧ k < wr.heap.size) ∨ k = q) (some ⟨q,0,none⟩) [Bo.endI]:=(bJ (litV (α:=I) [(Bo.endI,[.int .u8 11,.int .u32 0,.int .u32 0,.int .i64 0,.slice none 0 0])] hq (S:=fun k=>(wx.heap.size ≤ k ∧ k < wr.heap.size) ∨ k = q) (.inr rfl) (by intro y hy;simp at hy;subst hy;exact ⟨none,0,rfl,⟨by decide,by decide,by decide,by decide,by decide,nofun⟩,Nat.le_refl _,Nat.zero_le _,HasU.nil _ _ _⟩) rfl rfl 1 rfl (by decide)))
 obtain ⟨v',w',hrun,h1,h2,h3⟩:=appendL undIZ infIZ (by decide) rfl (by decide) W wx.heap.size (fun k=>(wx.heap.size ≤ k ∧ k < wr.heap.size) ∨ k = q) _ ys [Bo.endI] _ 1 1 (hO.more (fun _ _ h=>.inl h)) hE rfl (by simp;omega) (Nat.le_trans hle hb.size) (fun k _ hs e=>by
  rcases hs with hs | rfl
  ·have:=hown k e;omega
  ·exact hne e)
 obtain ⟨A5,c5,e5,_⟩:=id (h1.tell (fun k h=>by rcases h.1 with h | rfl;exact h.1;omega))
 have hlen:(ys ++ [Bo.endI]).length = ys.length + 1:=by simp
 rw [hlen] at e5
 subst e5
 refine ⟨A5,c5,w',hrun,h1.tell (fun k h=>by rcases h.1 with h | rfl;exact h.1;omega),?_⟩
 exact hb.trans (h2.below hb.size (fun k hk e=>by have:=hown k e;omega))
theorem lit7 {wr y:World} (o:Obj) (hb:Below wr.heap.size wr y):∃ p v,Hid (y.heap.size = p) ∧ Hid (y.alloc o = v) ∧ Hid (Below wr.heap.size wr v) ∧ Hid (v.heap[p]? = some o) ∧ Hid (wr.heap.size ≤ p) ∧ Hid (Below y.heap.size y v) :=
 ⟨_,_,J rfl,J rfl,J (hb.alloc hb.size _),J (heap_alloc_new y o),J hb.size,J bA⟩
theorem gl7 {α:Type} {a:Array α} {i:Nat} {x:α} (h:a[i]? = some x):i < a.size:=(gL h)
end Go.Proofs.YtmpelmihdpomjaaGreat
