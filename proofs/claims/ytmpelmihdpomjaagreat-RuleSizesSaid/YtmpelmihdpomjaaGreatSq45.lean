/-
  Layer 12: the walk over RuleSizes, given what Check and Find do. (gen/rule/sizes.py)
-/
import Derived.Test.YtmpelmihdpomjaaGreatSq01
import Derived.Test.YtmpelmihdpomjaaGreatSq29
import Derived.Test.YtmpelmihdpomjaaGreatSq42
import Derived.Deep.CutRange
import Derived.Deep.CutBlock
import Derived.Deep.OwnRows
set_option maxRecDepth 100000
set_option maxHeartbeats 4000000
namespace Go.Proofs.YtmpelmihdpomjaaGreat
open Go.RowKit Ins Bin Sp
theorem aI {ts:List FT} {fs:List Nat} {tb ms:List Lim} {gs:List GV} {es:List Exp} {cs:List Cd} (h1:ts.length ≤ 10000 ∧ ∀ t ∈ ts,t = ⟨[],[]⟩) (h2:fs.length ≤ 10000) (h3:tb.length ≤ 10000) (h4:ms.length ≤ 10000) (h5:gs.length ≤ 10000 ∧ ∀ g ∈ gs,g = Ru.oneG)
  (h6:es.length ≤ 10000 ∧ ∀ x ∈ es,x.name.length ≤ 10000) (h7:cs.length ≤ 20000 ∧ ∀ x ∈ cs,x.locals.length ≤ 10000 ∧ FewI x.body):FitR (Ru.sized ts fs tb ms gs es cs):=by
 have e1:(Ru.sized ts fs tb ms gs es cs).types.length = 3 + ts.length:=by show (Ru.lt ++ ts).length = _;simp [Ru.lt];omega
 refine ⟨⟨⟨by show (0:Nat) ≤ 1050000;decide,by show fs.length + 1 ≤ 1050000;omega,by show tb.length ≤ 1050000;omega,by show ms.length ≤ 1050000;omega,by show gs.length ≤ 1050000;omega,by show es.length + 1 ≤ 1050000;omega,by rw [e1];omega,fun x hx=>?_⟩,fun x hx=>?_,fun g hg=>?_,⟨by show (0:Nat) ≤ 1050000;decide,fun x hx=>by cases hx⟩,⟨by show cs.length ≤ 1050000;omega,fun x hx=>?_⟩,⟨by show (0:Nat) ≤ 1050000;decide,fun x hx=>by cases hx⟩⟩,fun x hx=>by cases hx⟩
 ·have hx':x ∈ Ru.lt ++ ts:=hx
  rcases List.mem_append.1 hx' with h | h
  ·simp [Ru.lt] at h
   rcases h with rfl | rfl | rfl <;> exact ⟨by decide,by decide⟩
  ·rw [h1.2 x h];exact ⟨by decide,by decide⟩
 ·have hx':x ∈ (⟨Ru.main,0,0⟩:Exp) :: es:=hx
  rcases List.mem_cons.1 hx' with rfl | h
  ·decide
  ·have:=h6.2 x h;omega
 ·rw [h5.2 g hg]
  exact ⟨by decide,by decide⟩
 ·exact ⟨by have:=(h7.2 x hx).1;omega,(h7.2 x hx).2⟩
theorem bE:FewI []:=⟨by decide,by decide⟩
theorem bN {c:Cd} (h1:c.locals.length ≤ 10000) (h2:FewI c.body):([c]:List Cd).length ≤ 20000 ∧ ∀ x ∈ ([c]:List Cd),x.locals.length ≤ 10000 ∧ FewI x.body:=⟨by simp,fun x hx=>by simp at hx;subst hx;exact ⟨h1,h2⟩⟩
theorem madeV {α:Type} [Lay α] {W:World} {S:Nat → Prop} {g n:Nat} {x:α} {z:Array Value} {t:TypeId} (h:W.heap[g]? = some (.cells (madeCells z (n * Lay.size α)) t (0,0))) (hg:S g) (hr:Lay.rep W S x z.toList) (hn:n ≤ maxLen):aa W S (List.replicate n x) (.slice (some ⟨g,0,none⟩) n n):=by
 refine ⟨some ⟨g,0,none⟩,n,by rw [List.length_replicate],by rw [List.length_replicate];exact Nat.le_refl _,hn,(fun e=>by cases e),fun k y hk=>?_⟩
 have hk1:k < n:=by have:=(List.getElem?_eq_some_iff.1 hk).1;simpa using this
 have hy:y = x:=List.eq_of_mem_replicate (List.mem_of_getElem? hk)
 subst hy
 have hz:z.size = Lay.size α:=by have:=Lay.len hr;simpa using this
 refine ⟨g,0,z.toList,rfl,hg,(gL h),hr,fun j u hj=>?_⟩
 have hj2:j < z.size:=by have:=(List.getElem?_eq_some_iff.1 hj).1;simpa using this
 have hlt:k * Lay.size α + j < n * Lay.size α:=by
  have:=Nat.mul_le_mul_right (Lay.size α) (show k + 1 ≤ n by omega)
  rw [Nat.add_mul,Nat.one_mul] at this
  omega
 have hmod:(k * Lay.size α + j) % z.size = j:=by rw [hz,Nat.mul_comm,Nat.mul_add_mod,Nat.mod_eq_of_lt (by omega)]
 rw [cell_of_row W g _ _ _ (0,0) h,Nat.zero_add]
 have hu:z[j]? = some u:=by simpa using hj
 have hu2:z[j]! = u:=by rw [getElem!_def,hu]
 simp only [madeCells,Array.getElem?_map]
 rw [Array.getElem?_eq_getElem (by simpa using hlt)]
 simp only [Array.getElem_range,Option.map_some]
 rw [hmod,hu2]
theorem sund32:Tryz.prog.underlying 40 = some (.slice 44):=by kernel_rfl
theorem sinf32:(Tryz.prog.info? 44).map (fun i=>(i.zero,i.size,i.bytes)) = some (some (.int .u32 0),1,4):=by kernel_rfl
theorem hasU_of {W:World} {S:Nat → Prop} {A:Option Addr} {l:List Nat} {n c:Nat} (h:aa W S l (.slice A n c)):HasU W S A l:=fun k x hk=>by
 obtain ⟨A',c',h1,_,_,_,h5⟩:=h
 simp only [Value.slice.injEq] at h1
 obtain ⟨rfl,_,_⟩:=h1
 obtain ⟨g,o,cs,hA,hg,_,⟨rfl,_⟩,hc⟩:=h5 k x hk
 refine ⟨g,o,hA,hg,?_⟩
 have:=hc 0 _ rfl
 rwa [Nat.add_zero,show Lay.size Nat = 1 from rfl,Nat.mul_one] at this
theorem has_of {W:World} {A:Option Addr} {l:List UInt8} {n c:Nat} (h:aa W (· < W.heap.size) l (.slice A n c)):Has W W.heap.size A l:=fun k x hk=>by
 obtain ⟨A',c',h1,_,_,_,h5⟩:=h
 simp only [Value.slice.injEq] at h1
 obtain ⟨rfl,_,_⟩:=h1
 obtain ⟨g,o,cs,hA,_,hlt,rfl,hc⟩:=h5 k x hk
 refine ⟨⟨g,o,none⟩,hA,hlt,?_⟩
 have:=hc 0 _ rfl
 rw [Nat.add_zero,show Lay.size UInt8 = 1 from rfl,Nat.mul_one] at this
 rw [show (⟨g,o,none⟩:Addr).add k = ⟨g,o + k,none⟩ from by unfold Addr.add;split;(rename_i h;rw [h];rfl);rfl]
 exact this
theorem sundI:Tryz.prog.underlying 57 = some (.slice 56):=by kernel_rfl
theorem sinfI:(Tryz.prog.info? 56).map (fun i=>(i.zero,i.size,i.bytes)) = some (some (.agg #[.int .u8 0,.int .u32 0,.int .u32 0,.int .i64 0,.slice none 0 0]),Lay.size I,48):=by kernel_rfl
theorem gy {x:I} (hx:x.l = []):∀ k:Nat,tot (List.replicate k x) = 5 * k
 | 0=>rfl
 | k + 1=>by rw [List.replicate_succ];show x.l.length + 5 + tot (List.replicate k x) = _;rw [gy hx k,hx];simp;omega
theorem fewI_csts {k:Nat} (h:k ≤ 10000):FewI (List.replicate k Ru.cst ++ [Ru.unr]):=by
 constructor
 ·simp;omega
 ·rw [bQ,gy rfl]
  simp [tot,Ru.unr]
  omega
theorem tot_deep:∀ k:Nat,tot (Ru.deep k) = 10 * k
 | 0=>rfl
 | k + 1=>by
  rw [Ru.deep]
  show (Bo.blk 64).l.length + 5 + tot (Ru.deep k ++ [Bo.endI]) = _
  rw [bQ,tot_deep k]
  simp [tot,Bo.blk,Bo.endI]
  omega
theorem fewI_deep {k:Nat} (h:(Ru.deep k).length ≤ 400):FewI (Ru.deep k):=by
 rw [Ru.deep_len] at h
 exact ⟨by rw [Ru.deep_len];omega,by rw [tot_deep];omega⟩
theorem fY {P:Program} {ops:Array Oper} {Q:Exit → Act → World → Prop} {md:Region.Mode} {S:World → Prop} (i j k:Nat) {d:Option Tmp} {op:Op} {ty:TypeId} {pos:String} {af:Array Edge} {g:Option (Nat × Bool)}
  {d2:Option Tmp} {op2:Op} {ty2:TypeId} {pos2:String} {af2:Array Edge} {g2:Option (Nat × Bool)} {d3:Option Tmp} {op3:Op} {ty3:TypeId} {pos3:String} {af3:Array Edge} {g3:Option (Nat × Bool)} {fuel:Nat} {listed:Array Bool} {a:Act} {w:World} (hi:ops[i]? = some ⟨d,op,ty,pos,af,g⟩) (hj:ops[j]? = some ⟨d2,op2,ty2,pos2,af2,g2⟩) (hk:ops[k]? = some ⟨d3,op3,ty3,pos3,af3,g3⟩)
  (hr:Region.ready md ops listed = [i,j,k])
  (h:∀ K':Act → World → Prop,Shut (∀ a w,S w → (S w → wpAnyH P md ops Q S fuel (listed.setIfInBounds i true) a w) → K' a w) → if Region.wanted ⟨d,op,ty,pos,af,g⟩ (yielded ops a.tmps) = true then Oper.wp P ⟨d,op,ty,pos,af,g⟩ a w K' Q else K' (a.put d undef) w)
  (h2:∀ K':Act → World → Prop,Shut (∀ a w,S w → (S w → wpAnyH P md ops Q S fuel (listed.setIfInBounds j true) a w) → K' a w) → if Region.wanted ⟨d2,op2,ty2,pos2,af2,g2⟩ (yielded ops a.tmps) = true then Oper.wp P ⟨d2,op2,ty2,pos2,af2,g2⟩ a w K' Q else K' (a.put d2 undef) w)
  (h3:∀ K':Act → World → Prop,Shut (∀ a w,S w → (S w → wpAnyH P md ops Q S fuel (listed.setIfInBounds k true) a w) → K' a w) → if Region.wanted ⟨d3,op3,ty3,pos3,af3,g3⟩ (yielded ops a.tmps) = true then Oper.wp P ⟨d3,op3,ty3,pos3,af3,g3⟩ a w K' Q else K' (a.put d3 undef) w) :
  wpAnyH P md ops Q S (fuel + 1) listed a w :=
 wpAnyH_ready hr (by simp) (AllReadyH.cons hi h (AllReadyH.cons hj h2 (AllReadyH.cons hk h3 AllReadyH.nil)))
theorem fewI_nops {k:Nat} (h:k ≤ 10000):FewI (List.replicate k Bo.nop):=by
 constructor
 ·simp;omega
 ·rw [gy rfl]
  omega
theorem fewI_br {k:Nat} (h:k ≤ 10000):FewI [Ru.cst,Ru.brT k]:=by
 constructor
 ·simp
 ·simp [tot,Ru.cst,Ru.brT]
  try omega
theorem bg {wx W:World} {g X:Nat} (h:dc wx g) (hX:g + 5 < X) (hm:Mod (fun k=>k = X ∨ k = g + 4) wx W):aa W (· < W.heap.size) Ru.lt (.slice (some ⟨g + 2,0,none⟩) 3 3) ∧ aa W (· < W.heap.size) ([0]:List Nat) (.slice (some ⟨g + 3,0,none⟩) 1 1) ∧ aa W (· < W.heap.size) ([⟨Ru.main,0,0⟩]:List Exp) (.slice (some ⟨g + 5,0,none⟩) 1 1) :=
 ⟨dE (hm.heap h.h0 (by omega)) (hm.heap h.h1 (by omega)) (hm.heap h.h2 (by omega)),dD (hm.heap h.h3 (by omega)),lg_exps (hm.heap h.h5 (by omega))⟩
structure G8 (wx:World) (g:Nat) (xs:List I) (W:World) (v:Value):Prop where
 md:Mod (fun k=>k = g + 4) wx W
 c4:W.heap[g + 4]? = some (.cells #[.slice none 0 0,v] 64 (0,0))
 own:OwnL 56 W wx.heap.size (fun _=>False) v xs
theorem G8.step {wx W:World} {g:Nat} {xs:List I} {v:Value} (h:G8 wx g xs W v) (hg:g + 4 < wx.heap.size) (hl:xs.length ≤ 10000) (op:Nat) (ho:op < 256) :
  ∃ A c w5,(Builtin.append_ #[57,57] 57 #[v,.slice (some ⟨W.heap.size,0,none⟩) 1 1]).run Tryz.prog (World.drew (W.alloc (.cells #[.int .u8 ↑op,.int .u32 0,.int .u32 0,.int .i64 0,.slice none 0 0] 56))) = .ok (.slice A (xs.length + 1) c) w5 ∧ w5.heap[g + 4]? = some (.cells #[.slice none 0 0,v] 64 (0,0)) ∧ Mod (fun k=>k = g + 4) wx w5 ∧ G8 wx g (xs ++ [⟨op,0,0,0,[]⟩]) (w5.setCell ⟨g + 4,1,none⟩ (.slice A (xs.length + 1) c)) (.slice A (xs.length + 1) c):=by
 have hd:Mod (fun _=>False) W (World.drew W):=Mod.of_below (Below.drew (Below.refl _ W))
 obtain ⟨v',w5,hrun,hO5,hM5,hT5⟩:=append1L sundI sinfI (by decide) rfl (by decide) (World.drew W) wx.heap.size (fun _=>False) v xs ⟨op,0,0,0,[]⟩ [.int .u8 ↑op,.int .u32 0,.int .u32 0,.int .i64 0,.slice none 0 0] (h.own.mod hd (fun _ _ h=>h) (fun _ _ _ h=>h)) (by omega) (by have:=h.md.size;exact this) ⟨none,0,rfl,⟨ho,by show 0 < 4294967296;decide,by show 0 < 4294967296;decide,by show (-9223372036854775808:Int) ≤ 0;decide,by show (0:Int) ≤ 9223372036854775807;decide,nofun⟩,Nat.le_refl _,Nat.zero_le _,HasU.nil _ _ _⟩ (by simp [Value.oneCell']) (fun _ _ h=>h.elim)
 obtain ⟨A,c,e5,_⟩:=id (hO5.tell (fun _ h=>h.1.elim))
 rw [List.length_append] at e5
 have e6:v' = .slice A (xs.length + 1) c:=e5
 subst e6
 have hov:∀ q,v.ownBlock = some q → ¬ q = g + 4:=fun q hq e=>by have:=(h.own.lt q hq).1;omega
 have hov2:∀ q,(Value.slice A (xs.length + 1) c).ownBlock = some q → ¬ q = g + 4:=fun q hq e=>by
  have:=(hO5.lt q hq).1
  omega
 have hc:w5.heap[g + 4]? = some (.cells #[.slice none 0 0,v] 64 (0,0)):=hM5.heap (w:=World.drew W) h.c4 (fun e=>hov _ e rfl)
 have hm:Mod (fun k=>k = g + 4) wx w5:=(h.md.trans (hd.more (fun _ _ h=>h.elim)) (fun _ _ h=>h)).trans hM5 (fun q hq e=>by have:=(h.own.lt q e).1;omega)
 refine ⟨A,c,w5,hrun,hc,hm,⟨hm.setCell (fun _=>rfl) _,heap_setCell_same w5 (g + 4) 1 _ _ _ hc,?_⟩⟩
 exact (hO5.mod ((Mod.refl _ w5).setCell (T:=(· = g + 4)) (p:=⟨g + 4,1,none⟩) (fun _=>rfl) _) hov2 (fun q _ h=>h.1.elim)).more (fun q _ h=>h.1)
structure G3 (wx:World) (X g:Nat) (xs:List GV) (W:World) (v:Value):Prop where
 md:Mod (fun k=>k = X) wx W
 cx:W.heap[X]? = some (.cells #[.slice (some ⟨g + 2,0,none⟩) 3 3,.slice none 0 0,.slice (some ⟨g + 3,0,none⟩) 1 1,.slice none 0 0,.slice none 0 0,v,.slice (some ⟨g + 5,0,none⟩) 1 1,.bool false,.int .u32 0,.slice none 0 0,.slice (some ⟨g + 4,0,none⟩) 1 1,.slice none 0 0] 49 (0,0))
 own:OwnL 59 W wx.heap.size (fun q=>wx.heap.size ≤ q ∧ v.ownBlock ≠ some q) v xs
theorem G3.step {wx W:World} {X g:Nat} {xs:List GV} {v:Value} (h:G3 wx X g xs W v) (hX:X < wx.heap.size) (hl:xs.length ≤ 10000) :
  ∃ A c w5,(Builtin.append_ #[42,42] 42 #[v,.slice (some ⟨W.heap.size + 1,0,none⟩) 1 1]).run Tryz.prog ((W.alloc (.cells #[.int .u8 65,.int .u32 0,.int .u32 0,.int .i64 0,.slice none 0 0] 56)).alloc (.cells #[.int .u8 127,.bool false,.slice (some ⟨W.heap.size,0,none⟩) 1 1] 59)) = .ok (.slice A (xs.length + 1) c) w5 ∧ w5.heap[X]? = some (.cells #[.slice (some ⟨g + 2,0,none⟩) 3 3,.slice none 0 0,.slice (some ⟨g + 3,0,none⟩) 1 1,.slice none 0 0,.slice none 0 0,v,.slice (some ⟨g + 5,0,none⟩) 1 1,.bool false,.int .u32 0,.slice none 0 0,.slice (some ⟨g + 4,0,none⟩) 1 1,.slice none 0 0] 49 (0,0)) ∧ G3 wx X g (xs ++ [Ru.oneG]) (w5.setCell ⟨X,5,none⟩ (.slice A (xs.length + 1) c)) (.slice A (xs.length + 1) c):=by
 have hsz:=h.md.size
 have hba:Below W.heap.size W (W.alloc (.cells #[.int .u8 65,.int .u32 0,.int .u32 0,.int .i64 0,.slice none 0 0] 56)):=bA
 have hg0:=heap_alloc_new W (.cells #[.int .u8 65,.int .u32 0,.int .u32 0,.int .i64 0,.slice none 0 0] 56)
 have hsz2:(W.alloc (.cells #[.int .u8 65,.int .u32 0,.int .u32 0,.int .i64 0,.slice none 0 0] 56)).heap.size = W.heap.size + 1:=by simp
 obtain ⟨v',w5,hrun,hO5,hM5,hT5⟩:=append1L undGV infGV (by decide) rfl (by decide) (W.alloc (.cells #[.int .u8 65,.int .u32 0,.int .u32 0,.int .i64 0,.slice none 0 0] 56)) wx.heap.size (fun q=>wx.heap.size ≤ q ∧ v.ownBlock ≠ some q) v xs Ru.oneG [.int .u8 127,.bool false,.slice (some ⟨W.heap.size,0,none⟩) 1 1] (h.own.mod (T:=fun _=>False) (Mod.of_below hba) (fun _ _ h=>h) (fun _ _ _ h=>h)) (by omega) (by omega) ⟨_,rfl,litV (α:=I) [(Ru.cst,[.int .u8 65,.int .u32 0,.int .u32 0,.int .i64 0,.slice none 0 0])] hg0 ⟨hsz,fun e=>by have:=(h.own.lt _ e).2;omega⟩ (by intro y hy;simp at hy;subst hy;exact ⟨none,0,rfl,⟨by decide,by decide,by decide,by decide,by decide,nofun⟩,Nat.le_refl _,Nat.zero_le _,HasU.nil _ _ _⟩) rfl rfl 1 rfl (by decide)⟩ (by simp [Value.oneCell']) (fun _ _ h=>h.2)
 obtain ⟨A,c,e5,_⟩:=id (hO5.tell (fun _ h=>h.1.1))
 rw [List.length_append] at e5
 have e6:v' = .slice A (xs.length + 1) c:=e5
 subst e6
 rw [hsz2] at hrun
 have hov:∀ q,v.ownBlock = some q → ¬ q = X:=fun q hq e=>by have:=(h.own.lt q hq).1;omega
 have hov2:∀ q,(Value.slice A (xs.length + 1) c).ownBlock = some q → ¬ q = X:=fun q hq e=>by
  have:=(hO5.lt q hq).1
  omega
 have hc:w5.heap[X]? = some (.cells #[.slice (some ⟨g + 2,0,none⟩) 3 3,.slice none 0 0,.slice (some ⟨g + 3,0,none⟩) 1 1,.slice none 0 0,.slice none 0 0,v,.slice (some ⟨g + 5,0,none⟩) 1 1,.bool false,.int .u32 0,.slice none 0 0,.slice (some ⟨g + 4,0,none⟩) 1 1,.slice none 0 0] 49 (0,0)):=hM5.heap ((hba.block X (by omega)).trans h.cx) (fun e=>hov _ e rfl)
 have hm:Mod (fun k=>k = X) wx w5:=(h.md.alloc _).trans hM5 (fun q hq e=>by have:=(h.own.lt q e).1;omega)
 refine ⟨A,c,w5,hrun,hc,⟨hm.setCell (fun _=>rfl) _,heap_setCell_same w5 X 5 _ _ _ hc,?_⟩⟩
 exact (hO5.mod ((Mod.refl _ w5).setCell (T:=(· = X)) (p:=⟨X,5,none⟩) (fun _=>rfl) _) hov2 (fun q _ h e=>by have:=h.1.1;omega)).more (fun q _ h=>⟨h.1.1,h.2⟩)
theorem nm_str (W:World) (i:Nat) (hi:i ≤ 9000):(convert 27 9 (.slice (some ⟨W.heap.size,0,none⟩) 4 4)).run Tryz.prog (W.alloc (.cells #[.int .u8 120,.int .u8 (97 + (i:Int) % 26),.int .u8 (97 + (i:Int) / 26 % 26),.int .u8 (97 + (i:Int) / 676)] 5)) = .ok (.string ⟨(Ru.nmA i).toArray⟩) (W.alloc (.cells #[.int .u8 120,.int .u8 (97 + (i:Int) % 26),.int .u8 (97 + (i:Int) / 26 % 26),.int .u8 (97 + (i:Int) / 676)] 5)):=by
 have hg0:=heap_alloc_new W (.cells #[.int .u8 120,.int .u8 (97 + (i:Int) % 26),.int .u8 (97 + (i:Int) / 26 % 26),.int .u8 (97 + (i:Int) / 676)] 5)
 have hu:∀ n:Nat,n < 256 → ((UInt8.ofNat n).toNat:Int) = (n:Int):=fun n hn=>by simp only [UInt8.toNat_ofNat'];omega
 have hsv:=litV (α:=UInt8) (S:=(· < (W.alloc (.cells #[.int .u8 120,.int .u8 (97 + (i:Int) % 26),.int .u8 (97 + (i:Int) / 26 % 26),.int .u8 (97 + (i:Int) / 676)] 5)).heap.size)) [(120,[.int .u8 120]),(UInt8.ofNat (97 + i % 26),[.int .u8 (97 + (i:Int) % 26)]),(UInt8.ofNat (97 + i / 26 % 26),[.int .u8 (97 + (i:Int) / 26 % 26)]),(UInt8.ofNat (97 + i / 676),[.int .u8 (97 + (i:Int) / 676)])] hg0 (Array.getElem?_eq_some_iff.1 hg0).1 (by
  intro y hy
  simp only [List.mem_cons,List.not_mem_nil,or_false] at hy
  rcases hy with rfl | rfl | rfl | rfl
  ·rfl
  ·show [Value.int .u8 (97 + (i:Int) % 26)] = [Value.int .u8 ((UInt8.ofNat (97 + i % 26)).toNat:Int)]
   rw [hu _ (by omega)];simp
  ·show [Value.int .u8 (97 + (i:Int) / 26 % 26)] = [Value.int .u8 ((UInt8.ofNat (97 + i / 26 % 26)).toNat:Int)]
   rw [hu _ (by omega)];simp
  ·show [Value.int .u8 (97 + (i:Int) / 676)] = [Value.int .u8 ((UInt8.ofNat (97 + i / 676)).toNat:Int)]
   rw [hu _ (by omega)];simp) rfl (xs:=Ru.nmA i) rfl 4 rfl (by decide)
 exact run_str (has_of hsv) (by unfold Ru.nmA;rfl) 4
structure G1 (wx:World) (X g:Nat) (xs:List Exp) (W:World) (v:Value):Prop where
 md:Mod (fun k=>k = X ∨ k = g + 5) wx W
 cx:W.heap[X]? = some (.cells #[.slice (some ⟨g + 2,0,none⟩) 3 3,.slice none 0 0,.slice (some ⟨g + 3,0,none⟩) 1 1,.slice none 0 0,.slice none 0 0,.slice none 0 0,v,.bool false,.int .u32 0,.slice none 0 0,.slice (some ⟨g + 4,0,none⟩) 1 1,.slice none 0 0] 49 (0,0))
 own:OwnL 52 W 0 (fun _=>False) v xs
 ob:∀ q,v.ownBlock = some q → q = g + 5 ∨ wx.heap.size ≤ q
theorem G1.step {wx W:World} {X g:Nat} {xs:List Exp} {v:Value} (h:G1 wx X g xs W v) (hX:X < wx.heap.size) (hg:g + 5 < X) (hl:xs.length ≤ 10000) (l:List UInt8) (BO:Obj) :
  ∃ A c w5,(Builtin.append_ #[43,43] 43 #[v,.slice (some ⟨W.heap.size + 1,0,none⟩) 1 1]).run Tryz.prog ((W.alloc BO).alloc (.cells #[.string ⟨l.toArray⟩,.int .u8 0,.int .u32 0] 52)) = .ok (.slice A (xs.length + 1) c) w5 ∧ w5.heap[X]? = some (.cells #[.slice (some ⟨g + 2,0,none⟩) 3 3,.slice none 0 0,.slice (some ⟨g + 3,0,none⟩) 1 1,.slice none 0 0,.slice none 0 0,.slice none 0 0,v,.bool false,.int .u32 0,.slice none 0 0,.slice (some ⟨g + 4,0,none⟩) 1 1,.slice none 0 0] 49 (0,0)) ∧ G1 wx X g (xs ++ [⟨l,0,0⟩]) (w5.setCell ⟨X,6,none⟩ (.slice A (xs.length + 1) c)) (.slice A (xs.length + 1) c):=by
 have hsz:=h.md.size
 have hba:Below W.heap.size W (W.alloc BO):=bA
 have hsz2:(W.alloc BO).heap.size = W.heap.size + 1:=by simp
 obtain ⟨v',w5,hrun,hO5,hM5,hT5⟩:=append1L undExp infExp (by decide) rfl (by decide) (W.alloc BO) 0 (fun _=>False) v xs ⟨l,0,0⟩ [.string ⟨l.toArray⟩,.int .u8 0,.int .u32 0] (h.own.mod (T:=fun _=>False) (Mod.of_below hba) (fun _ _ h=>h) (fun _ _ _ h=>h)) (by omega) (Nat.zero_le _) ⟨rfl,by show 0 < 4294967296;decide⟩ (by simp [Value.oneCell']) (fun _ _ h=>h.elim)
 obtain ⟨A,c,e5,_⟩:=id (hO5.tell (fun _ h=>h.1.elim))
 rw [List.length_append] at e5
 have e6:v' = .slice A (xs.length + 1) c:=e5
 subst e6
 rw [hsz2] at hrun hT5
 have hov:∀ q,v.ownBlock = some q → ¬ q = X:=fun q hq e=>by rcases h.ob q hq with h | h <;> omega
 have hob:∀ q,(Value.slice A (xs.length + 1) c).ownBlock = some q → q = g + 5 ∨ wx.heap.size ≤ q:=fun q hq=>by
  rcases hT5 q hq with h5 | h5
  ·exact h.ob q h5
  ·exact .inr (by omega)
 have hc:w5.heap[X]? = some (.cells #[.slice (some ⟨g + 2,0,none⟩) 3 3,.slice none 0 0,.slice (some ⟨g + 3,0,none⟩) 1 1,.slice none 0 0,.slice none 0 0,.slice none 0 0,v,.bool false,.int .u32 0,.slice none 0 0,.slice (some ⟨g + 4,0,none⟩) 1 1,.slice none 0 0] 49 (0,0)):=hM5.heap ((hba.block X (by omega)).trans h.cx) (fun e=>hov _ e rfl)
 have hm:Mod (fun k=>k = X ∨ k = g + 5) wx w5:=(h.md.alloc _).trans hM5 (fun q hq e=>by rcases h.ob q e with h | h;exact .inr h;omega)
 refine ⟨A,c,w5,hrun,hc,⟨hm.setCell (fun _=>.inl rfl) _,heap_setCell_same w5 X 6 _ _ _ hc,?_,hob⟩⟩
 exact (hO5.mod ((Mod.refl _ w5).setCell (T:=(· = X)) (p:=⟨X,6,none⟩) (fun _=>rfl) _) (fun q hq e=>by rcases hob q hq with h | h <;> omega) (fun q _ h=>h.1.elim)).more (fun q _ h=>h.1)
def Szd (n:Nat) (X:Nat) (w w':World) (lv ov:Value):Prop:=∃ (m:M) (limit own:Nat) (v1 v2 v3 v4 v5 v6 v7 v8 v9 v10:Value),lv = .int .i64 ↑limit ∧ ov = .int .i64 ↑own ∧ limit ≤ 10000 ∧ own ≤ 10 ∧
 w'.heap[X]? = some (.cells #[v1,v2,v3,v4,v5,v6,v7,.bool m.hasStart,.int .u32 ↑m.start,v8,v9,v10] 49 (0,0)) ∧ RepM w' (· < w'.heap.size) m v1 v2 v3 v4 v5 v6 v7 v8 v9 v10 ∧ FitR m ∧ Ru.check m = (if n + own ≤ limit then 0 else 122) ∧ Below w.heap.size w w'
theorem rsizes_any (hr:fV) (hf:fT) (kind:Nat) (hk:kind < 256) (n:Int) (hn1:-9223372036854775808 ≤ n) (hn2:n ≤ 9223372036854775807) (w:World):Calls Tryz.prog 4 #[.int .u8 ↑kind,.int .i64 n] w fun e w'=>e = .returned (.bool true) ∧ Below w.heap.size w w':=by
 have HKN:=J (known12 hr hf w)
 have HR:=J hr
 clear hr hf
 by_cases hlo:n < 0
 ·go_enter Tryz.func4,Tryz.ntmps4
  go_wp2_with (go_at_call 6;refine HKN.out.mono ?_;rintro e w1 ⟨rfl,hb⟩;have HB1:=J hb;clear hb)
  go_ret
  exact ⟨rfl,HB1.out⟩
 have hlo2:decide (n < 0) = false:=decide_eq_false hlo
 by_cases hhi:9000 < n
 ·go_enter Tryz.func4,Tryz.ntmps4
  go_wp2_with (go_at_call 6;refine HKN.out.mono ?_;rintro e w1 ⟨rfl,hb⟩;have HB1:=J hb;clear hb)
  go_ret
  exact ⟨rfl,HB1.out⟩
 have hhi2:decide (9000 < n) = false:=decide_eq_false hhi
 obtain ⟨k,rfl⟩:=Int.eq_ofNat_of_zero_le (show 0 ≤ n by omega)
 have hk9:k ≤ 9000:=by omega
 go_enter Tryz.func4,Tryz.ntmps4
 go_upto_region 5 with (go_at_call 6;refine HKN.out.mono ?_;rintro e w1 ⟨rfl,hb⟩;have HB1:=J hb;clear hb)
 clear hlo hlo2 hhi hhi2 hn1 hn2 HKN
 go_wp2_with fail
 refine (eY _).mono ?_
 rintro e w2 ⟨g,rfl,hgw,hl,hb⟩
 have HL:=J hl
 have HB2:=J (HB1.out.trans (hb.mono HB1.out.size))
 have HGW:Hid (w.heap.size ≤ g):=J (Nat.le_trans HB1.out.size hgw)
 have HZ:=J (heap_alloc_new w2 (.cells #[.slice none 0 0,.slice none 0 0,.slice none 0 0,.slice none 0 0,.slice none 0 0,.slice none 0 0,.slice none 0 0,.bool false,.int .u32 0,.slice none 0 0,.slice none 0 0,.slice none 0 0] 49))
 clear hl hb hgw HB1
 go_upto_region 7 with (refine ai rfl 49 (.tmp 5) (.tmp 19) rfl rfl w2.heap.size #[.slice (some ⟨g + 2,0,none⟩) 3 3,.slice none 0 0,.slice (some ⟨g + 3,0,none⟩) 1 1,.slice none 0 0,.slice none 0 0,.slice none 0 0,.slice (some ⟨g + 5,0,none⟩) 1 1,.bool false,.int .u32 0,.slice none 0 0,.slice (some ⟨g + 4,0,none⟩) 1 1,.slice none 0 0] rfl rfl 49 #[.slice none 0 0,.slice none 0 0,.slice none 0 0,.slice none 0 0,.slice none 0 0,.slice none 0 0,.slice none 0 0,.bool false,.int .u32 0,.slice none 0 0,.slice none 0 0,.slice none 0 0] HZ.out dK rfl (by simp [Value.oneCell']) ?_)
 have HX1:=J (setRow_heap _ _ #[.slice none 0 0,.slice none 0 0,.slice none 0 0,.slice none 0 0,.slice none 0 0,.slice none 0 0,.slice none 0 0,.bool false,.int .u32 0,.slice none 0 0,.slice none 0 0,.slice none 0 0] #[.slice (some ⟨g + 2,0,none⟩) 3 3,.slice none 0 0,.slice (some ⟨g + 3,0,none⟩) 1 1,.slice none 0 0,.slice none 0 0,.slice none 0 0,.slice (some ⟨g + 5,0,none⟩) 1 1,.bool false,.int .u32 0,.slice none 0 0,.slice (some ⟨g + 4,0,none⟩) 1 1,.slice none 0 0] _ _ HZ.out)
 have HB3:Hid (Below w.heap.size w ((w2.alloc (.cells #[.slice none 0 0,.slice none 0 0,.slice none 0 0,.slice none 0 0,.slice none 0 0,.slice none 0 0,.slice none 0 0,.bool false,.int .u32 0,.slice none 0 0,.slice none 0 0,.slice none 0 0] 49)).setRow w2.heap.size #[.slice (some ⟨g + 2,0,none⟩) 3 3,.slice none 0 0,.slice (some ⟨g + 3,0,none⟩) 1 1,.slice none 0 0,.slice none 0 0,.slice none 0 0,.slice (some ⟨g + 5,0,none⟩) 1 1,.bool false,.int .u32 0,.slice none 0 0,.slice (some ⟨g + 4,0,none⟩) 1 1,.slice none 0 0])):=J (ac (HB2.out.alloc HB2.out.size _) HB2.out.size _)
 have HBX:Hid (Below w2.heap.size w2 ((w2.alloc (.cells #[.slice none 0 0,.slice none 0 0,.slice none 0 0,.slice none 0 0,.slice none 0 0,.slice none 0 0,.slice none 0 0,.bool false,.int .u32 0,.slice none 0 0,.slice none 0 0,.slice none 0 0] 49)).setRow w2.heap.size #[.slice (some ⟨g + 2,0,none⟩) 3 3,.slice none 0 0,.slice (some ⟨g + 3,0,none⟩) 1 1,.slice none 0 0,.slice none 0 0,.slice none 0 0,.slice (some ⟨g + 5,0,none⟩) 1 1,.bool false,.int .u32 0,.slice none 0 0,.slice (some ⟨g + 4,0,none⟩) 1 1,.slice none 0 0])):=J (ac bA (Nat.le_refl _) _)
 have HLG:=J (HL.out.on (fun k hk=>HBX.out.block _ (by have:=HL.out.lt;omega)))
 have HXL:Hid (w2.heap.size < ((w2.alloc (.cells #[.slice none 0 0,.slice none 0 0,.slice none 0 0,.slice none 0 0,.slice none 0 0,.slice none 0 0,.slice none 0 0,.bool false,.int .u32 0,.slice none 0 0,.slice none 0 0,.slice none 0 0] 49)).setRow w2.heap.size #[.slice (some ⟨g + 2,0,none⟩) 3 3,.slice none 0 0,.slice (some ⟨g + 3,0,none⟩) 1 1,.slice none 0 0,.slice none 0 0,.slice none 0 0,.slice (some ⟨g + 5,0,none⟩) 1 1,.bool false,.int .u32 0,.slice none 0 0,.slice (some ⟨g + 4,0,none⟩) 1 1,.slice none 0 0]).heap.size):=J (gL HX1.out)
 have HGX:Hid (g + 5 < w2.heap.size):=J HL.out.lt
 clear HL HZ HB2 HBX
 generalize (w2.alloc (.cells #[.slice none 0 0,.slice none 0 0,.slice none 0 0,.slice none 0 0,.slice none 0 0,.slice none 0 0,.slice none 0 0,.bool false,.int .u32 0,.slice none 0 0,.slice none 0 0,.slice none 0 0] 49)).setRow w2.heap.size #[.slice (some ⟨g + 2,0,none⟩) 3 3,.slice none 0 0,.slice (some ⟨g + 3,0,none⟩) 1 1,.slice none 0 0,.slice none 0 0,.slice none 0 0,.slice (some ⟨g + 5,0,none⟩) 1 1,.bool false,.int .u32 0,.slice none 0 0,.slice (some ⟨g + 4,0,none⟩) 1 1,.slice none 0 0] = wx at HX1 HB3 HLG HXL ⊢
 obtain ⟨X,hX⟩:∃ X,w2.heap.size = X:=⟨_,rfl⟩
 rw [hX] at HX1 HXL HGX
 simp only [hX]
 clear hX
 go_upto_block 0 with fail
 go_cut [6,7] from 8 to 209 (fun lv ov wz=>Szd k X w wz lv ov)
 case first =>
  rcases (show kind = 0 ∨ kind = 1 ∨ kind = 2 ∨ kind = 3 ∨ kind = 4 ∨ kind = 5 ∨ kind = 6 ∨ kind = 7 ∨ kind = 8 ∨ kind = 9 ∨ kind = 10 ∨ kind = 11 ∨ 12 ≤ kind by omega) with rfl | rfl | rfl | rfl | rfl | rfl | rfl | rfl | rfl | rfl | rfl | rfl | hbig
  ·have hL:=bJ (lg_typesS (S:=(· < X)) HLG.out.h0 HLG.out.h1 HLG.out.h2 (by have:=HGX.out;omega) (by have:=HGX.out;omega) (by have:=HGX.out;omega))
   obtain ⟨b,c,w5,hrun,hs5,hb5,hbb⟩:=appendZ (α:=FT) undFZ undNZ infFZ (by decide) rfl (by decide) wx (· < X) (g + 2) 3 _ _ Ru.lt ⟨[],[]⟩ HLG.out.h2 rfl rfl hL (fun W S=>⟨_,_,rfl,aa.nil _ _,aa.nil _ _⟩) k (by omega)
   have z0:=cellV HX1.out 0 _ rfl
   have hx5:w5.heap[X]? = _:=(hb5.block X HXL.out).trans HX1.out
   have z2:=cellV hx5 0 _ rfl
   have f2:=frozen_of_row _ X 0 _ _ hx5
   have HX5:=J hx5
   have HS5:=J hs5
   have HB5:=J hb5
   have HBB:Hid (¬ b = X):=J (by have:=HGX.out;have:=HXL.out;omega)
   clear hx5 hs5 hb5 hbb hL
   go_wp2_with (at_builtin;refine Lib.wpList_append_run _ rfl (.tmp 24) (.tmp 25) _ _ rfl _ _ rfl rfl _ _ hrun ?_)
   go_meet
   case rel =>
    have HKX:Hid ((w5.setCell ⟨X,0,none⟩ (.slice (some ⟨b,0,none⟩) (3 + k) c)).heap[X]? = _):=J (heap_setCell_same _ X 0 _ _ (.slice (some ⟨b,0,none⟩) (3 + k) c) HX5.out)
    have hmx:Mod (· = X) w5 (w5.setCell ⟨X,0,none⟩ (.slice (some ⟨b,0,none⟩) (3 + k) c)):=(Mod.refl _ w5).setCell (T:=(· = X)) (p:=⟨X,0,none⟩) (fun _=>rfl) (.slice (some ⟨b,0,none⟩) (3 + k) c)
    have hts:aa (w5.setCell ⟨X,0,none⟩ (.slice (some ⟨b,0,none⟩) (3 + k) c)) (· < (w5.setCell ⟨X,0,none⟩ (.slice (some ⟨b,0,none⟩) (3 + k) c)).heap.size) (Ru.lt ++ List.replicate k ⟨[],[]⟩) (.slice (some ⟨b,0,none⟩) (3 + k) c):=(HS5.out.mod hmx (fun q _ h e=>by have:=HBB.out;rcases h with h | h <;> omega)).more (fun q hq _=>hq)
    have hcd:=aT (c:=⟨[],[]⟩) (hmx.heap ((HB5.out.block (g + 4) (by have:=HGX.out;have:=HXL.out;omega)).trans HLG.out.h4) (by have:=HGX.out;omega)) (aa.nil (w5.setCell ⟨X,0,none⟩ (.slice (some ⟨b,0,none⟩) (3 + k) c)) _) (aa.nil (w5.setCell ⟨X,0,none⟩ (.slice (some ⟨b,0,none⟩) (3 + k) c)) _)
    have hm:Mod (fun k=>k = X ∨ k = g + 4) wx (w5.setCell ⟨X,0,none⟩ (.slice (some ⟨b,0,none⟩) (3 + k) c)):=(Mod.of_below HB5.out).setCell (fun _=>.inl rfl) _
    have h3:=bg HLG.out HGX.out hm
    exact ⟨Ru.sized (List.replicate k ⟨[],[]⟩) [] [] [] [] [] [⟨[],[]⟩],256,3,_,_,_,_,_,_,_,_,_,_,rfl,rfl,by decide,by decide,HKX.out.trans rfl,⟨hts,aa.nil _ _,h3.2.1,aa.nil _ _,aa.nil _ _,aa.nil _ _,h3.2.2,(by show (0:Nat) < 4294967296;decide),aa.nil _ _,hcd,aa.nil _ _⟩,aI ⟨by simp;omega,fun t ht=>List.eq_of_mem_replicate ht⟩ (by simp) (by simp) (by simp) ⟨by simp,nofun⟩ ⟨by simp,nofun⟩ (bN (by decide) bE),Ru.rs0 k,HB3.out.trans (hm.below HB3.out.size (fun k hk e=>by have:=HGW.out;have:=HGX.out;omega))⟩
  ·have h8:((1:Nat):Int) = 1:=rfl
   simp only [h8]
   clear h8
   go_wp2_with fail
   go_loopw [31] (fun iv wr=>∃ (i:Nat) (v:Value),i ≤ k ∧ iv = .int .i64 ↑i ∧ Hid (G1 wx X g (⟨Ru.main,0,0⟩ :: Ru.esA i) wr v)) (fun iv _=>k - (intOf iv).toNat)
   case atStart=>exact ⟨0,_,by omega,rfl,J ⟨Mod.refl _ _,HX1.out,⟨[(⟨Ru.main,0,0⟩,[.string ⟨#[109,97,105,110]⟩,.int .u8 0,.int .u32 0])],rfl,⟨rfl,.inr ⟨g + 5,1,_,rfl,Nat.zero_le _,HLG.out.h5,Nat.le_refl _,(by unfold maxLen;omega),rfl,rfl⟩⟩,fun y hy=>by simp at hy;subst hy;exact ⟨rfl,by decide⟩⟩,fun q hq=>by simp [Value.ownBlock] at hq;exact .inl hq.symm⟩⟩
   case round =>
    obtain ⟨i,v,hi,rfl,HG⟩:=hrel
    by_cases hin:i < k
    ·have hini:(i:Int) < (k:Int):=by omega
     have x1:=cellV HG.out.cx 6 _ rfl
     obtain ⟨l,hl⟩:∃ l,l = Ru.nmA i:=⟨_,rfl⟩
     have hcv:=nm_str wr i (by omega)
     rw [← hl] at hcv
     have hlen:((⟨Ru.main,0,0⟩:Exp) :: Ru.esA i).length = i + 1:=by simp [Ru.esA]
     obtain ⟨A5,c5,w5,hrun,hc5,hg5⟩:=HG.out.step HXL.out HGX.out (by rw [hlen];omega) l (.cells #[.int .u8 120,.int .u8 (97 + (i:Int) % 26),.int .u8 (97 + (i:Int) / 26 % 26),.int .u8 (97 + (i:Int) / 676)] 5)
     rw [hlen] at hrun hg5
     have hnx:((⟨Ru.main,0,0⟩:Exp) :: Ru.esA i) ++ [⟨l,0,0⟩] = ⟨Ru.main,0,0⟩ :: Ru.esA (i + 1):=by rw [hl];simp [Ru.esA,List.range_succ]
     rw [hnx] at hg5
     have z2:=cellV hc5 6 _ rfl
     have f2:=frozen_of_row _ X 6 _ _ hc5
     have HG5:=J hg5
     clear hc5 hg5 hnx hlen hl
     go_wp2_with (at_builtin;refine ag rfl (.tmp 35) (.tmp 52) 43 rfl _ _ _ w5 rfl rfl hrun ?_)
     go_roundw
     case rel=>exact ⟨i + 1,_,by omega,by go_num,HG5⟩
     case measure=>simp [intOf];omega
    ·obtain rfl:i = k:=by omega
     have hkk:decide ((i:Int) < (i:Int)) = false:=decide_eq_false (by omega)
     go_wp2_with fail
     go_meet
     case rel =>
      have hm:=HG.out.md
      have hn:∀ q,q < g + 5 → ¬ (q = X ∨ q = g + 5):=fun q hq=>by have:=HGX.out;omega
      exact ⟨Ru.sized [] [] [] [] [] (Ru.esA i) [⟨[],[]⟩],128,1,_,_,_,_,_,_,_,_,_,_,rfl,rfl,by decide,by decide,HG.out.cx.trans rfl,⟨dE (hm.heap HLG.out.h0 (hn _ (by omega))) (hm.heap HLG.out.h1 (hn _ (by omega))) (hm.heap HLG.out.h2 (hn _ (by omega))),aa.nil _ _,dD (hm.heap HLG.out.h3 (hn _ (by omega))),aa.nil _ _,aa.nil _ _,aa.nil _ _,(HG.out.own.tell (fun _ h=>h.elim)).more (fun q hq _=>hq),(by show (0:Nat) < 4294967296;decide),aa.nil _ _,aT (c:=⟨[],[]⟩) (hm.heap HLG.out.h4 (hn _ (by omega))) (aa.nil _ _) (aa.nil _ _),aa.nil _ _⟩,aI ⟨by simp,nofun⟩ (by simp) (by simp) (by simp) ⟨by simp,nofun⟩ ⟨by simp [Ru.esA];omega,fun x hx=>by
       obtain ⟨j,_,rfl⟩:=List.mem_map.1 hx
       show (Ru.nmA j).length ≤ 10000
       unfold Ru.nmA
       simp⟩ (bN (by simp) bE),by exact Ru.rs1 i (by omega),HB3.out.trans (hm.below HB3.out.size (fun q hq e=>by have:=HGW.out;have:=HGX.out;omega))⟩
  ·have HXA:Hid (∀ W,Below wx.heap.size wx W → ∀ (j:Nat) (u:Value),(#[.slice (some ⟨g + 2,0,none⟩) 3 3,.slice none 0 0,.slice (some ⟨g + 3,0,none⟩) 1 1,.slice none 0 0,.slice none 0 0,.slice none 0 0,.slice (some ⟨g + 5,0,none⟩) 1 1,.bool false,.int .u32 0,.slice none 0 0,.slice (some ⟨g + 4,0,none⟩) 1 1,.slice none 0 0]:Array Value)[j]? = some u → W.cell? ⟨X,j,none⟩ = some u):=J (fun W hb j u hj=>cellV ((hb.block X HXL.out).trans HX1.out) j u hj)
   have HB:Hid (Below wx.heap.size wx (World.drew wx)):=J (Below.drew (Below.refl _ _))
   go_wp2_with fail
   refine wp_region_held_drew (S:=fun _=>True) (by kernel_rfl) (trivial) (fun hHeld=>?_)
   refine dW 0 rfl ?_
   refine dW 2 rfl ?_
   refine dW 4 rfl ?_
   refine dW 6 rfl ?_
   refine ah 1 5 rfl rfl (by kernel_rfl) (fun K hK=>?_) (fun K hK=>?_)
   focus
    have y1:=HXA.out _ HB.out 2 _ rfl
    try (rw [if_pos];case hc=>rfl)
    go_simp
    refine hK.out _ _ trivial fun hHeld=>?_
    clear hK K
    clear y1
    refine ah 3 5 rfl rfl (by kernel_rfl) (fun K hK=>?_) (fun K hK=>?_)
    focus
     obtain ⟨b1,c1,w5,hrun,hs5,hb5,hbb⟩:=appendZ (α:=Nat) undUZ undNZ infUZ (by decide) rfl (by decide) (World.drew wx) (· < X) (g + 3) 1 _ _ [0] 0 ((HB.out.block (g + 3) (by have:=HGX.out;have:=HXL.out;omega)).trans HLG.out.h3) rfl rfl (bJ (dZ (S:=(· < X)) ((HB.out.block (g + 3) (by have:=HGX.out;have:=HXL.out;omega)).trans HLG.out.h3) (by have:=HGX.out;omega))) (fun W S=>⟨rfl,by decide⟩) k (by omega)
     rw [if_pos]
     case hc=>rfl
     refine Lib.wp_append_run _ (.tmp 59) (.tmp 60) _ _ rfl _ _ rfl rfl _ _ hrun ?_
     refine hK.out _ _ trivial fun hHeld=>?_
     clear hK K
     simp only [Act.put,O]
     have HS1:=J hs5
     have HBB1:Hid (¬ b1 = X):=J (by have:=HGX.out;have:=HXL.out;have:=HB.out.size;omega)
     have HB2:=J (HB.out.trans (hb5.mono HB.out.size))
     clear hrun hs5 hb5 hbb HB
     have HB:=HB2
     clear HB2
     refine ab 5 rfl (by kernel_rfl) (fun K hK=>?_)
     have y5:=HXA.out _ HB.out 10 _ rfl
     try (rw [if_pos];case hc=>rfl)
     go_simp
     refine hK.out _ _ trivial fun hHeld=>?_
     clear hK K
     clear y5
    rotate_left
    focus
     have y5:=HXA.out _ HB.out 10 _ rfl
     try (rw [if_pos];case hc=>rfl)
     go_simp
     refine hK.out _ _ trivial fun hHeld=>?_
     clear hK K
     clear y5
     refine ab 3 rfl (by kernel_rfl) (fun K hK=>?_)
     obtain ⟨b1,c1,w5,hrun,hs5,hb5,hbb⟩:=appendZ (α:=Nat) undUZ undNZ infUZ (by decide) rfl (by decide) (World.drew wx) (· < X) (g + 3) 1 _ _ [0] 0 ((HB.out.block (g + 3) (by have:=HGX.out;have:=HXL.out;omega)).trans HLG.out.h3) rfl rfl (bJ (dZ (S:=(· < X)) ((HB.out.block (g + 3) (by have:=HGX.out;have:=HXL.out;omega)).trans HLG.out.h3) (by have:=HGX.out;omega))) (fun W S=>⟨rfl,by decide⟩) k (by omega)
     rw [if_pos]
     case hc=>rfl
     refine Lib.wp_append_run _ (.tmp 59) (.tmp 60) _ _ rfl _ _ rfl rfl _ _ hrun ?_
     refine hK.out _ _ trivial fun hHeld=>?_
     clear hK K
     simp only [Act.put,O]
     have HS1:=J hs5
     have HBB1:Hid (¬ b1 = X):=J (by have:=HGX.out;have:=HXL.out;have:=HB.out.size;omega)
     have HB2:=J (HB.out.trans (hb5.mono HB.out.size))
     clear hrun hs5 hb5 hbb HB
     have HB:=HB2
     clear HB2
    rotate_left
   rotate_left 2
   focus
    have y5:=HXA.out _ HB.out 10 _ rfl
    try (rw [if_pos];case hc=>rfl)
    go_simp
    refine hK.out _ _ trivial fun hHeld=>?_
    clear hK K
    clear y5
    refine ab 1 rfl (by kernel_rfl) (fun K hK=>?_)
    have y1:=HXA.out _ HB.out 2 _ rfl
    try (rw [if_pos];case hc=>rfl)
    go_simp
    refine hK.out _ _ trivial fun hHeld=>?_
    clear hK K
    clear y1
    refine ab 3 rfl (by kernel_rfl) (fun K hK=>?_)
    obtain ⟨b1,c1,w5,hrun,hs5,hb5,hbb⟩:=appendZ (α:=Nat) undUZ undNZ infUZ (by decide) rfl (by decide) (World.drew wx) (· < X) (g + 3) 1 _ _ [0] 0 ((HB.out.block (g + 3) (by have:=HGX.out;have:=HXL.out;omega)).trans HLG.out.h3) rfl rfl (bJ (dZ (S:=(· < X)) ((HB.out.block (g + 3) (by have:=HGX.out;have:=HXL.out;omega)).trans HLG.out.h3) (by have:=HGX.out;omega))) (fun W S=>⟨rfl,by decide⟩) k (by omega)
    rw [if_pos]
    case hc=>rfl
    refine Lib.wp_append_run _ (.tmp 59) (.tmp 60) _ _ rfl _ _ rfl rfl _ _ hrun ?_
    refine hK.out _ _ trivial fun hHeld=>?_
    clear hK K
    simp only [Act.put,O]
    have HS1:=J hs5
    have HBB1:Hid (¬ b1 = X):=J (by have:=HGX.out;have:=HXL.out;have:=HB.out.size;omega)
    have HB2:=J (HB.out.trans (hb5.mono HB.out.size))
    clear hrun hs5 hb5 hbb HB
    have HB:=HB2
    clear HB2
   rotate_left
   all_goals
    refine dW 8 rfl ?_
    refine ab 7 rfl (by kernel_rfl) (fun K hK=>?_)
    obtain ⟨b2,c2,w6,hrun,hs5,hb5,hbb⟩:=appendZ (α:=Cd) undCZ undNZ infCZ (by decide) rfl (by decide) w5 (· < X) (g + 4) 1 _ _ [⟨[],[]⟩] ⟨[],[]⟩ ((HB.out.block (g + 4) (by have:=HGX.out;have:=HXL.out;omega)).trans HLG.out.h4) rfl rfl (bJ (lg_codesS (S:=(· < X)) ((HB.out.block (g + 4) (by have:=HGX.out;have:=HXL.out;omega)).trans HLG.out.h4) (by have:=HGX.out;omega))) (fun W S=>⟨_,_,rfl,aa.nil _ _,aa.nil _ _⟩) k (by omega)
    rw [if_pos]
    case hc=>rfl
    refine Lib.wp_append_run _ (.tmp 63) (.tmp 64) _ _ rfl _ _ rfl rfl _ _ hrun ?_
    refine hK.out _ _ trivial fun hHeld=>?_
    clear hK K
    simp only [Act.put,O]
    have HS2:=J hs5
    have HS3:=J (HS1.out.mod (T:=fun _=>False) (Mod.of_below hb5) (fun _ _ _ h=>h))
    have HBB2:Hid (¬ b2 = X):=J (by have:=HGX.out;have:=HXL.out;have:=HB.out.size;omega)
    have HB2:=J (HB.out.trans (hb5.mono HB.out.size))
    clear hrun hs5 hb5 hbb HB HS1
    have HB:=HB2
    clear HB2
    have hx6:w6.heap[X]? = _:=(HB.out.block X HXL.out).trans HX1.out
    have HX6:=J hx6
    have z6:=cellV hx6 2 _ rfl
    have f6:=frozen_of_row _ X 2 _ _ hx6
    clear hx6
    refine dA 9 rfl fun K hK=>?_
    go_simp
    refine hK.out _ _ trivial fun hHeld=>?_
    clear hK K
    have HX7:Hid ((w6.setCell ⟨X,2,none⟩ (.slice (some ⟨b1,0,none⟩) (1 + k) c1)).heap[X]? = _):=J (heap_setCell_same _ X 2 _ _ (.slice (some ⟨b1,0,none⟩) (1 + k) c1) HX6.out)
    have HM7:Hid (Mod (· = X) w6 (w6.setCell ⟨X,2,none⟩ (.slice (some ⟨b1,0,none⟩) (1 + k) c1))):=J ((Mod.refl _ w6).setCell (T:=(· = X)) (p:=⟨X,2,none⟩) (fun _=>rfl) (.slice (some ⟨b1,0,none⟩) (1 + k) c1))
    clear z6 f6
    generalize w6.setCell ⟨X,2,none⟩ (.slice (some ⟨b1,0,none⟩) (1 + k) c1) = w7 at HX7 HM7 ⊢
    refine dW 10 rfl ?_
    have z7:=cellV HX7.out 10 _ rfl
    have f7:=frozen_of_row _ X 10 _ _ HX7.out
    refine dA 11 rfl fun K hK=>?_
    go_simp
    refine hK.out _ _ trivial fun hHeld=>?_
    clear hK K
    have HX8:Hid ((w7.setCell ⟨X,10,none⟩ (.slice (some ⟨b2,0,none⟩) (1 + k) c2)).heap[X]? = _):=J (heap_setCell_same _ X 10 _ _ (.slice (some ⟨b2,0,none⟩) (1 + k) c2) HX7.out)
    have HM8:Hid (Mod (· = X) w6 (w7.setCell ⟨X,10,none⟩ (.slice (some ⟨b2,0,none⟩) (1 + k) c2))):=J (HM7.out.setCell (p:=⟨X,10,none⟩) (fun _=>rfl) (.slice (some ⟨b2,0,none⟩) (1 + k) c2))
    clear z7 f7
    generalize w7.setCell ⟨X,10,none⟩ (.slice (some ⟨b2,0,none⟩) (1 + k) c2) = w8 at HX8 HM8 ⊢
    refine dW 12 rfl ?_
    refine dW 13 rfl ?_
    refine dN ?_
    go_wp2_with fail
    go_meet
    case rel =>
     have HKX:=HX8
     have hfs:aa w8 (· < w8.heap.size) ([0] ++ List.replicate k 0) (.slice (some ⟨b1,0,none⟩) (1 + k) c1):=(HS3.out.mod HM8.out (fun q _ h e=>by have:=HBB1.out;rcases h with h | h <;> omega)).more (fun q hq _=>hq)
     have hcd:aa w8 (· < w8.heap.size) (([⟨[],[]⟩]:List Cd) ++ List.replicate k ⟨[],[]⟩) (.slice (some ⟨b2,0,none⟩) (1 + k) c2):=(HS2.out.mod HM8.out (fun q _ h e=>by have:=HBB2.out;rcases h with h | h <;> omega)).more (fun q hq _=>hq)
     have hm:Mod (fun k=>k = X ∨ k = g + 4) wx w8:=((Mod.of_below HB.out).trans HM8.out (fun q hq e=>.inl e))
     have h3:=bg HLG.out HGX.out hm
     exact ⟨Ru.sized [] (List.replicate k 0) [] [] [] [] ((⟨[],[]⟩:Cd) :: List.replicate k ⟨[],[]⟩),512,1,_,_,_,_,_,_,_,_,_,_,rfl,rfl,by decide,by decide,HKX.out.trans rfl,⟨h3.1,aa.nil _ _,hfs,aa.nil _ _,aa.nil _ _,aa.nil _ _,h3.2.2,(by show (0:Nat) < 4294967296;decide),aa.nil _ _,hcd,aa.nil _ _⟩,aI ⟨by simp,nofun⟩ (by simp;omega) (by simp) (by simp) ⟨by simp,nofun⟩ ⟨by simp,nofun⟩ ⟨by simp;omega,fun x hx=>by
       have e:x = ⟨[],[]⟩:=by
        rcases List.mem_cons.1 hx with h | h
        ·exact h
        ·exact List.eq_of_mem_replicate h
       rw [e]
       exact ⟨by decide,bE⟩⟩,Ru.rs2 k,HB3.out.trans (hm.below HB3.out.size (fun k hk e=>by have:=HGW.out;have:=HGX.out;omega))⟩
  ·have h8:((3:Nat):Int) = 3:=rfl
   simp only [h8]
   clear h8
   go_wp2_with fail
   go_loopw [71] (fun iv wr=>∃ (i:Nat) (v:Value),i ≤ k ∧ iv = .int .i64 ↑i ∧ Hid (G3 wx X g (List.replicate i Ru.oneG) wr v)) (fun iv _=>k - (intOf iv).toNat)
   case atStart=>exact ⟨0,_,by omega,rfl,J ⟨Mod.refl _ _,HX1.out,OwnL.nil _ _ _ _⟩⟩
   case round =>
    obtain ⟨i,v,hi,rfl,HG⟩:=hrel
    by_cases hin:i < k
    ·have hini:(i:Int) < (k:Int):=by omega
     have x1:=cellV HG.out.cx 5 _ rfl
     obtain ⟨A5,c5,w5,hrun,hc5,hg5⟩:=HG.out.step HXL.out (by rw [List.length_replicate];omega)
     rw [List.length_replicate] at hrun hg5
     have z2:=cellV hc5 5 _ rfl
     have f2:=frozen_of_row _ X 5 _ _ hc5
     have HG5:=J hg5
     clear hc5 hg5
     go_wp2_with (at_builtin;refine ag rfl (.tmp 74) (.tmp 79) 42 rfl _ _ _ w5 rfl rfl hrun ?_)
     go_roundw
     case rel=>exact ⟨i + 1,_,by omega,by go_num,J (by rw [show List.replicate (i + 1) Ru.oneG = List.replicate i Ru.oneG ++ [Ru.oneG] from List.replicate_succ'];exact HG5.out)⟩
     case measure=>simp [intOf];omega
    ·obtain rfl:i = k:=by omega
     have hkk:decide ((i:Int) < (i:Int)) = false:=decide_eq_false (by omega)
     go_wp2_with fail
     go_meet
     case rel =>
      have HKX:=HG.out.cx
      have hm:Mod (fun k=>k = X ∨ k = g + 4) wx wr:=HG.out.md.more (fun _ _ h=>.inl h)
      have h3:=bg HLG.out HGX.out hm
      exact ⟨Ru.sized [] [] [] [] (List.replicate i Ru.oneG) [] [⟨[],[]⟩],128,0,_,_,_,_,_,_,_,_,_,_,rfl,rfl,by decide,by decide,HKX.trans rfl,⟨h3.1,aa.nil _ _,h3.2.1,aa.nil _ _,aa.nil _ _,(HG.out.own.tell (fun _ h=>h.1)).more (fun q hq _=>hq),h3.2.2,(by show (0:Nat) < 4294967296;decide),aa.nil _ _,aT (c:=⟨[],[]⟩) (HG.out.md.heap HLG.out.h4 (by have:=HGX.out;omega)) (aa.nil _ _) (aa.nil _ _),aa.nil _ _⟩,aI ⟨by simp,nofun⟩ (by simp) (by simp) (by simp) ⟨by simp;omega,fun x hx=>List.eq_of_mem_replicate hx⟩ ⟨by simp,nofun⟩ (bN (by simp) bE),by rw [Nat.add_zero];exact Ru.rs3 i,HB3.out.trans (hm.below HB3.out.size (fun q hq e=>by have:=HGW.out;have:=HGX.out;omega))⟩
  ·obtain ⟨l,hl⟩:∃ l:List UInt8,l = List.replicate k 0:=⟨_,rfl⟩
   have hmk:=run_make_row' (P:=Tryz.prog) 27 5 (.int .u8 0) 1 und22 info5 rfl .i64 .i64 k (by omega) (by omega)
   have hG0:(World.drew (wx.alloc (.cells (madeCells #[.int .u8 0] k) 5))).heap[wx.heap.size]? = some (.cells (madeCells #[.int .u8 0] k) 5):=aU _ _ _ (by simp)
   have hsv:aa (World.drew (wx.alloc (.cells (madeCells #[.int .u8 0] k) 5))) (· < (World.drew (wx.alloc (.cells (madeCells #[.int .u8 0] k) 5))).heap.size) (List.replicate k (0:UInt8)) (.slice (some ⟨wx.heap.size,0,none⟩) k k):=madeV (α:=UInt8) (z:=#[.int .u8 0]) (t:=5) (by rw [show Lay.size UInt8 = 1 from rfl,Nat.mul_one];exact hG0) (gL hG0) rfl (by unfold maxLen;omega)
   rw [← hl] at hsv
   have hcv:(convert 27 9 (.slice (some ⟨wx.heap.size,0,none⟩) k k)).run Tryz.prog (World.drew (wx.alloc (.cells (madeCells #[.int .u8 0] k) 5))) = .ok (.string ⟨l.toArray⟩) (World.drew (wx.alloc (.cells (madeCells #[.int .u8 0] k) 5))):=run_str (has_of hsv) (by rw [hl];simp) k
   clear hsv
   have hG5:(World.drew (wx.alloc (.cells (madeCells #[.int .u8 0] k) 5))).heap[g + 5]? = _:=(Below.heap_alloc _ _ _ (by have:=HGX.out;have:=HXL.out;omega)).trans HLG.out.h5
   have hGX:(World.drew (wx.alloc (.cells (madeCells #[.int .u8 0] k) 5))).heap[X]? = _:=(Below.heap_alloc _ _ _ HXL.out).trans HX1.out
   have hown:OwnL 52 (World.drew (wx.alloc (.cells (madeCells #[.int .u8 0] k) 5))) 0 (fun _=>False) (.slice (some ⟨g + 5,0,none⟩) 1 1) [(⟨Ru.main,0,0⟩:Exp)]:=⟨[(⟨Ru.main,0,0⟩,[.string ⟨#[109,97,105,110]⟩,.int .u8 0,.int .u32 0])],rfl,⟨rfl,.inr ⟨g + 5,1,_,rfl,Nat.zero_le _,hG5,Nat.le_refl _,(by unfold maxLen;omega),rfl,rfl⟩⟩,fun y hy=>by simp at hy;subst hy;exact ⟨rfl,by decide⟩⟩
   obtain ⟨v',w5,hrun,hO5,hM5,hT5⟩:=append1L undExp infExp (by decide) rfl (by decide) (World.drew (wx.alloc (.cells (madeCells #[.int .u8 0] k) 5))) 0 (fun _=>False) _ [(⟨Ru.main,0,0⟩:Exp)] ⟨l,0,0⟩ [.string ⟨l.toArray⟩,.int .u8 0,.int .u32 0] hown (by simp) (Nat.zero_le _) ⟨rfl,by show 0 < 4294967296;decide⟩ (by simp [Value.oneCell']) (fun _ _ h=>h.elim)
   obtain ⟨A5,c5,e5,_⟩:=id (hO5.tell (fun _ h=>h.1.elim))
   have e6:v' = .slice A5 2 c5:=e5
   subst e6
   clear e5
   have hwm:(World.drew (wx.alloc (.cells (madeCells #[.int .u8 0] k) 5))).heap.size = wx.heap.size + 1:=by show (wx.alloc _).heap.size = _;simp
   rw [hwm] at hrun hT5
   have HOB:Hid (∀ q,(Value.slice A5 2 c5).ownBlock = some q → ¬ q = X):=J (fun q hq e=>by have:=HGX.out;have:=HXL.out;rcases hT5 q hq with h | h;(simp [Value.ownBlock] at h;omega);omega)
   have hrun2:(Builtin.append_ #[43,43] 43 #[(.slice (some ⟨g + 5,0,none⟩) 1 1),.slice (some ⟨wx.heap.size + 1,0,none⟩) 1 1]).run Tryz.prog (World.drew ((wx.alloc (.cells (madeCells #[.int .u8 0] k) 5)).alloc (.cells #[.string ⟨l.toArray⟩,.int .u8 0,.int .u32 0] 52))) = .ok (.slice A5 2 c5) w5:=hrun
   have hm0:Mod (fun k=>k = X ∨ k = g + 5) wx w5:=(Mod.of_below (Below.drew ((Below.refl _ wx).alloc (Nat.le_refl _) (.cells (madeCells #[.int .u8 0] k) 5)))).trans hM5 (fun k _ h=>by simp [Value.ownBlock] at h;exact .inr h.symm)
   have hx5:w5.heap[X]? = _:=hM5.heap hGX (by simp [Value.ownBlock];have:=HGX.out;omega)
   have HX5:=J hx5
   have HO5:=J hO5
   have HM0:=J hm0
   have z0:(World.drew wx).cell? ⟨X,6,none⟩ = _:=cellV HX1.out 6 _ rfl
   have z0m:(World.drew (wx.alloc (.cells (madeCells #[.int .u8 0] k) 5))).cell? ⟨X,6,none⟩ = _:=cellV hGX 6 _ rfl
   have z0r:(World.drew ((wx.alloc (.cells (madeCells #[.int .u8 0] k) 5)).alloc (.cells #[.string ⟨l.toArray⟩,.int .u8 0,.int .u32 0] 52))).cell? ⟨X,6,none⟩ = _:=cellV ((Below.heap_alloc _ _ _ (gL hGX)).trans hGX) 6 _ rfl
   have HL9:=J hl
   clear hrun hO5 hM5 hT5 hm0 hx5 hown hG5 hG0 hwm hGX hl
   go_wp2_with fail
   refine wp_region_held_drew (S:=fun _=>True) (by kernel_rfl) (trivial) (fun hHeld=>?_)
   refine dW 0 rfl ?_
   refine dW 2 rfl ?_
   refine ah 1 3 rfl rfl (by kernel_rfl) (fun K hK=>?_) (fun K hK=>?_)
   focus
    try (rw [if_pos];case hc=>rfl)
    go_simp
    refine hK.out _ _ trivial fun hHeld=>?_
    clear hK K
    refine dA 3 rfl fun K hK=>?_
    go_simp
    refine hK.out _ _ trivial fun hHeld=>?_
    clear hK K
    refine dA 4 rfl fun K hK=>?_
    go_simp
    refine hK.out _ _ trivial fun hHeld=>?_
    clear hK K
    refine dW 5 rfl ?_
    refine dA 6 rfl fun K hK=>?_
    go_simp
    refine hK.out _ _ trivial fun hHeld=>?_
    clear hK K
   rotate_left
   focus
    try (rw [if_pos];case hc=>rfl)
    go_simp
    refine hK.out _ _ trivial fun hHeld=>?_
    clear hK K
    refine ah 1 4 rfl rfl (by kernel_rfl) (fun K hK=>?_) (fun K hK=>?_)
    focus
     try (rw [if_pos];case hc=>rfl)
     go_simp
     refine hK.out _ _ trivial fun hHeld=>?_
     clear hK K
     refine dA 4 rfl fun K hK=>?_
     go_simp
     refine hK.out _ _ trivial fun hHeld=>?_
     clear hK K
     refine dW 5 rfl ?_
     refine dA 6 rfl fun K hK=>?_
     go_simp
     refine hK.out _ _ trivial fun hHeld=>?_
     clear hK K
    rotate_left
    focus
     try (rw [if_pos];case hc=>rfl)
     go_simp
     refine hK.out _ _ trivial fun hHeld=>?_
     clear hK K
     refine dW 5 rfl ?_
     refine ah 1 6 rfl rfl (by kernel_rfl) (fun K hK=>?_) (fun K hK=>?_)
     focus
      try (rw [if_pos];case hc=>rfl)
      go_simp
      refine hK.out _ _ trivial fun hHeld=>?_
      clear hK K
      refine dA 6 rfl fun K hK=>?_
      go_simp
      refine hK.out _ _ trivial fun hHeld=>?_
      clear hK K
     rotate_left
     focus
      try (rw [if_pos];case hc=>rfl)
      go_simp
      refine hK.out _ _ trivial fun hHeld=>?_
      clear hK K
      refine dA 1 rfl fun K hK=>?_
      go_simp
      refine hK.out _ _ trivial fun hHeld=>?_
      clear hK K
     rotate_left
    rotate_left 2
   rotate_left 3
   all_goals
    refine dA 7 rfl fun K hK=>?_
    refine al (.tmp 86) (.tmp 91) 43 rfl (.slice (some ⟨g + 5,0,none⟩) 1 1) (.slice (some ⟨wx.heap.size + 1,0,none⟩) 1 1) (.slice A5 2 c5) w5 rfl rfl hrun2 ?_
    refine hK.out _ _ trivial fun hHeld=>?_
    clear hK K
    simp only [Act.put,O]
    refine dW 8 rfl ?_
    have z2:=cellV HX5.out 6 _ rfl
    have f2:=frozen_of_row _ X 6 _ _ HX5.out
    refine dA 9 rfl fun K hK=>?_
    go_simp
    refine hK.out _ _ trivial fun hHeld=>?_
    clear hK K
    refine dW 10 rfl ?_
    refine dN ?_
    go_wp2_with fail
    go_meet
    case rel =>
     have HKX:Hid ((w5.setCell ⟨X,6,none⟩ (.slice A5 2 c5)).heap[X]? = _):=J (heap_setCell_same _ X 6 _ _ (.slice A5 2 c5) HX5.out)
     have hm:Mod (fun k=>k = X ∨ k = g + 5) wx (w5.setCell ⟨X,6,none⟩ (.slice A5 2 c5)):=HM0.out.setCell (fun _=>.inl rfl) _
     have hO6:=HO5.out.mod ((Mod.refl _ w5).setCell (T:=(· = X)) (p:=⟨X,6,none⟩) (fun _=>rfl) (.slice A5 2 c5)) (fun q hq e=>HOB.out q hq e) (fun q _ h=>h.1.elim)
     have hE6:=(hO6.tell (fun _ h=>h.1.elim)).more (S':=(· < (w5.setCell ⟨X,6,none⟩ (.slice A5 2 c5)).heap.size)) (fun q hq _=>hq)
     have HMD:=J hm
     have HE6:=J hE6
     clear hm hO6 hE6 z2 f2 z0 z0m z0r hHeld
     generalize w5.setCell ⟨X,6,none⟩ (.slice A5 2 c5) = wf at HKX HMD HE6 ⊢
     have hn:∀ q,q < g + 5 → ¬ (q = X ∨ q = g + 5):=fun q hq=>by have:=HGX.out;omega
     exact ⟨Ru.sized [] [] [] [] [] [⟨l,0,0⟩] [⟨[],[]⟩],64,0,_,_,_,_,_,_,_,_,_,_,rfl,rfl,by decide,by decide,HKX.out.trans rfl,⟨dE (HMD.out.heap HLG.out.h0 (hn _ (by omega))) (HMD.out.heap HLG.out.h1 (hn _ (by omega))) (HMD.out.heap HLG.out.h2 (hn _ (by omega))),aa.nil _ _,dD (HMD.out.heap HLG.out.h3 (hn _ (by omega))),aa.nil _ _,aa.nil _ _,aa.nil _ _,HE6.out,(by show (0:Nat) < 4294967296;decide),aa.nil _ _,aT (c:=⟨[],[]⟩) (HMD.out.heap HLG.out.h4 (hn _ (by omega))) (aa.nil _ _) (aa.nil _ _),aa.nil _ _⟩,aI ⟨by simp,nofun⟩ (by simp) (by simp) (by simp) ⟨by simp,nofun⟩ ⟨by simp,fun x hx=>by simp at hx;subst hx;show l.length ≤ 10000;rw [HL9.out];simp;omega⟩ (bN (by simp) bE),by rw [HL9.out,Nat.add_zero];exact Ru.rs4 k,HB3.out.trans (HMD.out.below HB3.out.size (fun q hq e=>by have:=HGW.out;have:=HGX.out;omega))⟩
  ·have hw:IntKind.u32.wrap (k:Int) = (k:Int):=IntWalk.u32_in _ (by omega)
   obtain ⟨t0,t1⟩:=oneV wx (.cells #[.int .u32 ↑k,.int .u8 126] 61)
   have HN:=J t0
   have HK:=J ((t1.block X HXL.out).trans HX1.out)
   have HC4:=J ((t1.block (g + 4) (by have:=HGX.out;have:=HXL.out;omega)).trans HLG.out.h4)
   clear t0 t1
   have z0:=cellV HX1.out 10 _ rfl
   have z1:=cellV HK.out 10 _ rfl
   have z2:=cellV HC4.out 0 _ rfl
   have f2:=frozen_of_row _ (g + 4) 0 _ _ HC4.out
   go_wp2_with fail
   go_meet
   case rel =>
    have HKX:Hid (((wx.alloc (.cells #[.int .u32 ↑k,.int .u8 126] 61)).setCell ⟨g + 4,0,none⟩ (.slice (some ⟨wx.heap.size,0,none⟩) 1 1)).heap[X]? = _):=J ((Below.heap_setCell _ _ _ _ (by show X ≠ g + 4;have:=HGX.out;omega)).trans HK.out)
    have HROW:Hid (((wx.alloc (.cells #[.int .u32 ↑k,.int .u8 126] 61)).setCell ⟨g + 4,0,none⟩ (.slice (some ⟨wx.heap.size,0,none⟩) 1 1)).heap[wx.heap.size]? = _):=J ((Below.heap_setCell _ _ _ _ (by show wx.heap.size ≠ g + 4;have:=HXL.out;have:=HGX.out;omega)).trans HN.out)
    have HC5:Hid (((wx.alloc (.cells #[.int .u32 ↑k,.int .u8 126] 61)).setCell ⟨g + 4,0,none⟩ (.slice (some ⟨wx.heap.size,0,none⟩) 1 1)).heap[g + 4]? = some (.cells #[.slice (some ⟨wx.heap.size,0,none⟩) 1 1,.slice none 0 0] 64 (0,0))):=J (heap_setCell_same _ (g + 4) 0 _ _ (.slice (some ⟨wx.heap.size,0,none⟩) 1 1) HC4.out)
    have hcd:=aT (c:=⟨[⟨k,126⟩],[]⟩) HC5.out (litV (α:=Lc) [(⟨k,126⟩,[.int .u32 ↑k,.int .u8 126])] HROW.out (Array.getElem?_eq_some_iff.1 HROW.out).1 (by intro y hy;simp at hy;subst hy;exact ⟨rfl,by show k < 4294967296;omega⟩) rfl rfl 1 rfl (by decide)) (aa.nil ((wx.alloc (.cells #[.int .u32 ↑k,.int .u8 126] 61)).setCell ⟨g + 4,0,none⟩ (.slice (some ⟨wx.heap.size,0,none⟩) 1 1)) _)
    have hm:Mod (fun k=>k = X ∨ k = g + 4) wx ((wx.alloc (.cells #[.int .u32 ↑k,.int .u8 126] 61)).setCell ⟨g + 4,0,none⟩ (.slice (some ⟨wx.heap.size,0,none⟩) 1 1)):=((Mod.refl _ wx).alloc _).setCell (fun _=>.inr rfl) _
    have h3:=bg HLG.out HGX.out hm
    exact ⟨Ru.sized [] [] [] [] [] [] [⟨[⟨k,126⟩],[]⟩],256,0,_,_,_,_,_,_,_,_,_,_,rfl,rfl,by decide,by decide,HKX.out,⟨h3.1,aa.nil _ _,h3.2.1,aa.nil _ _,aa.nil _ _,aa.nil _ _,h3.2.2,(by show (0:Nat) < 4294967296;decide),aa.nil _ _,hcd,aa.nil _ _⟩,aI ⟨by simp,nofun⟩ (by simp) (by simp) (by simp) ⟨by simp,nofun⟩ ⟨by simp,nofun⟩ (bN (by simp) bE),by rw [Nat.add_zero];exact Ru.rs5 k,HB3.out.trans (hm.below HB3.out.size (fun k hk e=>by have:=HGW.out;have:=HGX.out;omega))⟩
  ·have hmk:=made_nops wx.drew k (by omega)
   have HM:Hid ((wx.drew.alloc (.cells (nopC 0 k) 56)).heap[wx.heap.size]? = _):=J (heap_alloc_new wx.drew (.cells (nopC 0 k) 56))
   have HC4:Hid ((wx.drew.alloc (.cells (nopC 0 k) 56)).heap[g + 4]? = _):=J ((Below.heap_alloc wx.drew _ _ (by have:=HGX.out;have:=HXL.out;show g + 4 < wx.heap.size;omega)).trans HLG.out.h4)
   have HX2:Hid ((wx.drew.alloc (.cells (nopC 0 k) 56)).heap[X]? = _):=J ((Below.heap_alloc wx.drew _ _ HXL.out).trans HX1.out)
   have z0:=cellV HX1.out 10 _ rfl
   go_wp2_with fail
   refine wp_region_held_drew (S:=fun W'=>W'.cell? ⟨X,10,none⟩ = some (.slice (some ⟨g + 4,0,none⟩) 1 1)) (by kernel_rfl) (z0) (fun hHeld=>?_)
   refine dW 0 rfl ?_
   refine dW 1 rfl ?_
   refine dW 2 rfl ?_
   refine dA 3 rfl fun K hK=>?_
   go_simp
   refine hK.out _ _ (cellV HX2.out 10 _ rfl) fun hHeld=>?_
   clear hK K
   refine dW 4 rfl ?_
   refine dW 5 rfl ?_
   have z2:(World.drew (wx.alloc (.cells (nopC 0 k) 56))).cell? _ = _:=cellV HC4.out 1 _ rfl
   have f2:(World.drew (wx.alloc (.cells (nopC 0 k) 56))).frozen? _ = _:=frozen_of_row _ (g + 4) 1 _ _ HC4.out
   have HKX:Hid (((wx.drew.alloc (.cells (nopC 0 k) 56)).setCell ⟨g + 4,1,none⟩ (.slice (some ⟨wx.heap.size,0,none⟩) k k)).heap[X]? = _):=J ((Below.heap_setCell _ _ _ _ (by show X ≠ g + 4;have:=HGX.out;omega)).trans HX2.out)
   refine dA 6 rfl fun K hK=>?_
   go_simp
   refine hK.out _ _ (cellV HKX.out 10 _ rfl) fun hHeld=>?_
   clear hK K
   refine dW 7 rfl ?_
   refine dN ?_
   have hm:Mod (fun k=>k = X ∨ k = g + 4) wx (World.drew ((wx.alloc (.cells (nopC 0 k) 56)).setCell ⟨g + 4,1,none⟩ (.slice (some ⟨wx.heap.size,0,none⟩) k k))):=((Mod.of_below (Below.drew (Below.refl _ wx))).alloc _).setCell (fun _=>.inr rfl) _
   have hx0:(World.drew ((wx.alloc (.cells (nopC 0 k) 56)).setCell ⟨g + 4,1,none⟩ (.slice (some ⟨wx.heap.size,0,none⟩) k k))).heap[X]? = _:=HKX.out
   have hb0:(World.drew ((wx.alloc (.cells (nopC 0 k) 56)).setCell ⟨g + 4,1,none⟩ (.slice (some ⟨wx.heap.size,0,none⟩) k k))).heap[wx.heap.size]? = _:=(Below.heap_setCell _ _ _ _ (by show wx.heap.size ≠ g + 4;have:=HXL.out;have:=HGX.out;omega)).trans HM.out
   have hc0:(World.drew ((wx.alloc (.cells (nopC 0 k) 56)).setCell ⟨g + 4,1,none⟩ (.slice (some ⟨wx.heap.size,0,none⟩) k k))).heap[g + 4]? = some (.cells #[.slice none 0 0,(.slice (some ⟨wx.heap.size,0,none⟩) k k)] 64 (0,0)):=heap_setCell_same _ (g + 4) 1 _ _ (.slice (some ⟨wx.heap.size,0,none⟩) k k) HC4.out
   have HKX2:=J hx0
   have HBK:=J hb0
   have HC5:=J hc0
   have HMD:=J hm
   have HBL:Hid (X < wx.heap.size):=HXL
   clear hm hx0 hb0 hc0 z2 f2 z0 hHeld HX2 HM HC4 HKX hmk
   generalize (World.drew ((wx.alloc (.cells (nopC 0 k) 56)).setCell ⟨g + 4,1,none⟩ (.slice (some ⟨wx.heap.size,0,none⟩) k k))) = wf at HKX2 HBK HC5 HMD ⊢
   obtain ⟨B,hB⟩:∃ B,wx.heap.size = B:=⟨_,rfl⟩
   rw [hB] at HBK HC5
   have HBX:Hid (X < B ∧ g + 4 < B ∧ wx.heap.size = B):=J ⟨by rw [← hB];exact HXL.out,by have:=HGX.out;have:=HXL.out;omega,hB⟩
   simp only [hB]
   clear hB
   go_wp2_with fail
   go_loopw [113] (fun iv wr=>∃ i:Nat,i ≤ k ∧ iv = .int .i64 ↑i ∧ Hid (Mod (fun k=>k = X ∨ k = g + 4) wx wr) ∧ Hid (wr.heap[X]? = wf.heap[X]?) ∧ Hid (wr.heap[g + 4]? = wf.heap[g + 4]?) ∧ Hid (wr.heap[B]? = some (.cells (nopC i k) 56 (0,0)))) (fun iv _=>k - (intOf iv).toNat)
   case atStart=>exact ⟨0,by omega,rfl,HMD,J rfl,J rfl,HBK⟩
   case round =>
    obtain ⟨i,hi,rfl,HMI,HXI,HCI,HBI⟩:=hrel
    have hxi:=HXI.out.trans HKX2.out
    have hci:=HCI.out.trans HC5.out
    by_cases hin:i < k
    ·have hini:(i:Int) < (k:Int):=by omega
     have x1:=cellV hxi 10 _ rfl
     have x2:=cellV hci 1 _ rfl
     have x3:wr.cell? ⟨B,i * 5,none⟩ = some (.int .u8 0):=cellV HBI.out (i * 5) _ (by rw [dF i k _ (by omega),show i * 5 % 5 = 0 from by omega,show i * 5 / 5 = i from by omega];simp)
     have f3:=frozen_of_row _ B (i * 5) _ _ HBI.out
     have HB7:Hid ((wr.setCell ⟨B,i * 5,none⟩ (.int .u8 1)).heap[B]? = some (.cells (nopC (i + 1) k) 56 (0,0))):=J (by rw [heap_setCell_same wr B (i * 5) _ _ _ HBI.out,nopC_step])
     have HM7:Hid (Mod (fun k=>k = X ∨ k = g + 4) wx (wr.setCell ⟨B,i * 5,none⟩ (.int .u8 1))):=J (HMI.out.setCell (fun hk=>by have h1:B < wx.heap.size:=hk;have:=HBX.out.2.2;omega) _)
     have HX7:Hid ((wr.setCell ⟨B,i * 5,none⟩ (.int .u8 1)).heap[X]? = wf.heap[X]?):=J ((Below.heap_setCell _ _ _ _ (by show X ≠ B;have:=HBX.out.1;omega)).trans HXI.out)
     have HC7:Hid ((wr.setCell ⟨B,i * 5,none⟩ (.int .u8 1)).heap[g + 4]? = wf.heap[g + 4]?):=J ((Below.heap_setCell _ _ _ _ (by show g + 4 ≠ B;have:=HBX.out.2.1;omega)).trans HCI.out)
     clear hxi hci
     go_wp2_with fail
     go_roundw
     case rel=>exact ⟨i + 1,by omega,by go_num,HM7,HX7,HC7,HB7⟩
     case measure=>simp [intOf];omega
    ·obtain rfl:i = k:=by omega
     have hkk:decide ((i:Int) < (i:Int)) = false:=decide_eq_false (by omega)
     have HKX:=J hxi
     have HCX:=J hci
     clear hxi hci
     go_wp2_with fail
     go_meet
     case rel =>
      have hcd:=aT (c:=⟨[],List.replicate i Bo.nop⟩) HCX.out (aa.nil wr _) (nopC_all HBI.out (gL HBI.out) (by omega))
      have hm:Mod (fun k=>k = X ∨ k = g + 4) wx wr:=HMI.out
      have h3:=bg HLG.out HGX.out hm
      exact ⟨Ru.sized [] [] [] [] [] [] [⟨[],List.replicate i Bo.nop⟩],8192,0,_,_,_,_,_,_,_,_,_,_,rfl,rfl,by decide,by decide,HKX.out.trans rfl,⟨h3.1,aa.nil _ _,h3.2.1,aa.nil _ _,aa.nil _ _,aa.nil _ _,h3.2.2,(by show (0:Nat) < 4294967296;decide),aa.nil _ _,hcd,aa.nil _ _⟩,aI ⟨by simp,nofun⟩ (by simp) (by simp) (by simp) ⟨by simp,nofun⟩ ⟨by simp,nofun⟩ (bN (by simp) (fewI_nops (by omega))),(by rw [Nat.add_zero];exact Ru.rs6 i),HB3.out.trans (hm.below HB3.out.size (fun k hk e=>by have:=HGW.out;have:=HGX.out;omega))⟩
  ·have h8:((7:Nat):Int) = 7:=rfl
   simp only [h8]
   clear h8
   go_wp2_with fail
   go_loopw [128] (fun iv wr=>∃ (i:Nat) (v:Value),i ≤ k ∧ iv = .int .i64 ↑i ∧ Hid (G7 wx g (Ru.deep i) wr v) ∧ Hid ((Ru.deep i).length ≤ 400)) (fun iv _=>k - (intOf iv).toNat)
   case atStart=>exact ⟨0,_,by omega,rfl,J ⟨Mod.refl _ _,HLG.out.h4,aa.nil _ _⟩,J (by simp [Ru.deep])⟩
   case round =>
    obtain ⟨i,v,hi,rfl,HG,HLE⟩:=hrel
    by_cases hin:i < k
    ·have hini:(i:Int) < (k:Int):=by omega
     have HSM:Hid (∀ W,Mod (fun k=>k = g + 4) wx W → W.cell? ⟨X,10,none⟩ = some (.slice (some ⟨g + 4,0,none⟩) 1 1)):=J (fun W hW=>cellV (hW.heap HX1.out (by have:=HGX.out;omega)) 10 _ rfl)
     have HSX:Hid (∀ W,Below wr.heap.size wr W → W.cell? ⟨X,10,none⟩ = some (.slice (some ⟨g + 4,0,none⟩) 1 1)):=J (fun W hW=>HSM.out W (HG.out.md.trans (T':=fun _=>False) (Mod.of_below hW) (fun _ _ h=>h.elim)))
     have HGR:Hid (g + 4 < wr.heap.size):=J (gL HG.out.c4)
     have HWX:Hid (wx.heap.size ≤ wr.heap.size):=J HG.out.md.size
     have HGW0:Hid (g + 4 < wx.heap.size):=J (by have:=HGX.out;have:=HXL.out;omega)
     obtain ⟨xs,hxs⟩:∃ xs,xs = Ru.deep i:=⟨_,rfl⟩
     rw [← hxs] at HG HLE
     have HXS:=J hxs
     clear hxs
     have HSV:=J HG.out.sl
     obtain ⟨Av,cv,hv,_⟩:=id HG.out.sl
     obtain ⟨n,hn⟩:∃ n,xs.length = n:=⟨_,rfl⟩
     rw [hn] at hv HLE
     have HN:=J hn
     have hn4:=HLE.out
     clear hn
     subst hv
     have HB:Hid (Below wr.heap.size wr (World.drew wr)):=J (Below.drew (Below.refl _ _))
     go_wp2_with fail
     refine wp_region_held_drew (S:=fun W'=>W'.cell? ⟨X,10,none⟩ = some (.slice (some ⟨g + 4,0,none⟩) 1 1)) (by kernel_rfl) (HSX.out _ HB.out) (fun hHeld=>?_)
     generalize World.drew wr = y0 at HB hHeld ⊢
     refine dW 0 rfl ?_
     refine dW 1 rfl ?_
     refine dW 2 rfl ?_
     refine dW 4 rfl ?_
     refine dW 5 rfl ?_
     refine dW 6 rfl ?_
     refine dW 7 rfl ?_
     refine dW 10 rfl ?_
     refine fY 3 8 11 rfl rfl rfl (by kernel_rfl) (fun K hK=>?_) (fun K hK=>?_) (fun K hK=>?_)
     focus
      obtain ⟨p,y1,HPE,HV,HB1,HP,HLP0,HYB⟩:=lit7 (.cells #[.int .u8 2,.int .u32 64,.int .u32 0,.int .i64 0,.slice none 0 0] 56) HB.out
      try (rw [if_pos];case hc=>rfl)
      go_simp
      refine hK.out _ _ (by rw [HV.out];exact HSX.out _ HB1.out) fun hHeld=>?_
      clear hK K
      simp only [HV.out,HPE.out] at hHeld ⊢
      clear HB HPE HV HYB
      have HB:=HB1
      clear HB1
      refine ah 8 11 rfl rfl (by kernel_rfl) (fun K hK=>?_) (fun K hK=>?_)
      focus
       have x8:=cellV ((HB.out.block (g + 4) HGR.out).trans HG.out.c4) 1 _ rfl
       try (rw [if_pos];case hc=>rfl)
       go_simp
       refine hK.out _ _ (HSX.out _ HB.out) fun hHeld=>?_
       clear hK K
       clear x8
       refine ah 9 11 rfl rfl (by kernel_rfl) (fun K hK=>?_) (fun K hK=>?_)
       focus
        obtain ⟨A9,c9,y2,hrun,hO,hb9,hkeep,hown⟩:=app9 HSV.out HB.out HWX.out HP.out HLP0.out (by rw [HN.out];omega)
        rw [HN.out] at hrun hO hown
        rw [if_pos]
        case hc=>rfl
        refine al (.tmp 133) (.tmp 138) 57 rfl _ _ (.slice A9 (n + 1) c9) y2 rfl rfl hrun ?_
        refine hK.out _ _ (HSX.out _ hb9) fun hHeld=>?_
        clear hK K
        simp only [Act.put,O]
        have HO:=J hO
        have HOW:Hid (∀ k,(Value.slice A9 (n + 1) c9).ownBlock = some k → wr.heap.size ≤ k):=J (fun k hk=>by have h1:=HLP0.out;have h2:=HB.out.size;rcases hown k hk with e | e <;> omega)
        have HB1:=J hb9
        clear HB hb9 hrun hO hkeep hown
        have HB:=HB1
        clear HB1
        refine ab 11 rfl (by kernel_rfl) (fun K hK=>?_)
        obtain ⟨q,y3,HPE,HV,HB1,HQ,HLQ0,HYB⟩:=lit7 (.cells #[.int .u8 11,.int .u32 0,.int .u32 0,.int .i64 0,.slice none 0 0] 56) HB.out
        try (rw [if_pos];case hc=>rfl)
        go_simp
        refine hK.out _ _ (by rw [HV.out];exact HSX.out _ HB1.out) fun hHeld=>?_
        clear hK K
        simp only [HV.out,HPE.out] at hHeld ⊢
        have HO2:=J (HO.out.mod (T:=fun _=>False) (Mod.of_below HYB.out) (fun _ _ h=>h) (fun _ _ _ h=>h))
        have HNE:Hid (∀ q',(Value.slice A9 (n + 1) c9).ownBlock = some q' → q' ≠ q):=J (fun q' hq e=>by have h1:=(HO.out.lt q' hq).2;rw [HPE.out] at h1;omega)
        clear HO
        have HO:=HO2
        clear HO2
        clear HB HPE HV HYB
        have HB:=HB1
        clear HB1
        have HNE0:Hid ((Value.slice A9 (n + 1) c9).ownBlock ≠ some q):=J (fun e=>HNE.out q e rfl)
        clear HNE
       rotate_left
       focus
        obtain ⟨q,y2,HPE,HV,HB1,HQ,HLQ0,HYB⟩:=lit7 (.cells #[.int .u8 11,.int .u32 0,.int .u32 0,.int .i64 0,.slice none 0 0] 56) HB.out
        try (rw [if_pos];case hc=>rfl)
        go_simp
        refine hK.out _ _ (by rw [HV.out];exact HSX.out _ HB1.out) fun hHeld=>?_
        clear hK K
        simp only [HV.out,HPE.out] at hHeld ⊢
        have HP2:=J ((HYB.out.block _ (gl7 HP.out)).trans HP.out)
        have HPQ:Hid (p < q):=J (by have h1:=gl7 HP.out;rw [HPE.out] at h1;exact h1)
        clear HP
        have HP:=HP2
        clear HP2
        clear HB HPE HV HYB
        have HB:=HB1
        clear HB1
        refine ab 9 rfl (by kernel_rfl) (fun K hK=>?_)
        obtain ⟨A9,c9,y3,hrun,hO,hb9,hkeep,hown⟩:=app9 HSV.out HB.out HWX.out HP.out HLP0.out (by rw [HN.out];omega)
        rw [HN.out] at hrun hO hown
        rw [if_pos]
        case hc=>rfl
        refine al (.tmp 133) (.tmp 138) 57 rfl _ _ (.slice A9 (n + 1) c9) y3 rfl rfl hrun ?_
        refine hK.out _ _ (HSX.out _ hb9) fun hHeld=>?_
        clear hK K
        simp only [Act.put,O]
        have HO:=J hO
        have HOW:Hid (∀ k,(Value.slice A9 (n + 1) c9).ownBlock = some k → wr.heap.size ≤ k):=J (fun k hk=>by have h1:=HLP0.out;have h2:=HB.out.size;rcases hown k hk with e | e <;> omega)
        have HQ2:=J ((hkeep q (gl7 HQ.out) (by have:=HPQ.out;omega)).trans HQ.out)
        have HNE0:Hid ((Value.slice A9 (n + 1) c9).ownBlock ≠ some q):=J (fun e=>by have h1:=gl7 HQ.out;have h2:=HPQ.out;rcases hown q e with e | e <;> omega)
        clear HQ
        have HQ:=HQ2
        clear HQ2
        have HB1:=J hb9
        clear HB hb9 hrun hO hkeep hown
        have HB:=HB1
        clear HB1
       rotate_left
      rotate_left 2
      focus
       obtain ⟨q,y2,HPE,HV,HB1,HQ,HLQ0,HYB⟩:=lit7 (.cells #[.int .u8 11,.int .u32 0,.int .u32 0,.int .i64 0,.slice none 0 0] 56) HB.out
       try (rw [if_pos];case hc=>rfl)
       go_simp
       refine hK.out _ _ (by rw [HV.out];exact HSX.out _ HB1.out) fun hHeld=>?_
       clear hK K
       simp only [HV.out,HPE.out] at hHeld ⊢
       have HP2:=J ((HYB.out.block _ (gl7 HP.out)).trans HP.out)
       have HPQ:Hid (p < q):=J (by have h1:=gl7 HP.out;rw [HPE.out] at h1;exact h1)
       clear HP
       have HP:=HP2
       clear HP2
       clear HB HPE HV HYB
       have HB:=HB1
       clear HB1
       refine ab 8 rfl (by kernel_rfl) (fun K hK=>?_)
       have x8:=cellV ((HB.out.block (g + 4) HGR.out).trans HG.out.c4) 1 _ rfl
       try (rw [if_pos];case hc=>rfl)
       go_simp
       refine hK.out _ _ (HSX.out _ HB.out) fun hHeld=>?_
       clear hK K
       clear x8
       refine ab 9 rfl (by kernel_rfl) (fun K hK=>?_)
       obtain ⟨A9,c9,y3,hrun,hO,hb9,hkeep,hown⟩:=app9 HSV.out HB.out HWX.out HP.out HLP0.out (by rw [HN.out];omega)
       rw [HN.out] at hrun hO hown
       rw [if_pos]
       case hc=>rfl
       refine al (.tmp 133) (.tmp 138) 57 rfl _ _ (.slice A9 (n + 1) c9) y3 rfl rfl hrun ?_
       refine hK.out _ _ (HSX.out _ hb9) fun hHeld=>?_
       clear hK K
       simp only [Act.put,O]
       have HO:=J hO
       have HOW:Hid (∀ k,(Value.slice A9 (n + 1) c9).ownBlock = some k → wr.heap.size ≤ k):=J (fun k hk=>by have h1:=HLP0.out;have h2:=HB.out.size;rcases hown k hk with e | e <;> omega)
       have HQ2:=J ((hkeep q (gl7 HQ.out) (by have:=HPQ.out;omega)).trans HQ.out)
       have HNE0:Hid ((Value.slice A9 (n + 1) c9).ownBlock ≠ some q):=J (fun e=>by have h1:=gl7 HQ.out;have h2:=HPQ.out;rcases hown q e with e | e <;> omega)
       clear HQ
       have HQ:=HQ2
       clear HQ2
       have HB1:=J hb9
       clear HB hb9 hrun hO hkeep hown
       have HB:=HB1
       clear HB1
      rotate_left
     rotate_left 3
     focus
      have x8:=cellV ((HB.out.block (g + 4) HGR.out).trans HG.out.c4) 1 _ rfl
      try (rw [if_pos];case hc=>rfl)
      go_simp
      refine hK.out _ _ (HSX.out _ HB.out) fun hHeld=>?_
      clear hK K
      clear x8
      refine ah 3 11 rfl rfl (by kernel_rfl) (fun K hK=>?_) (fun K hK=>?_)
      focus
       obtain ⟨p,y1,HPE,HV,HB1,HP,HLP0,HYB⟩:=lit7 (.cells #[.int .u8 2,.int .u32 64,.int .u32 0,.int .i64 0,.slice none 0 0] 56) HB.out
       try (rw [if_pos];case hc=>rfl)
       go_simp
       refine hK.out _ _ (by rw [HV.out];exact HSX.out _ HB1.out) fun hHeld=>?_
       clear hK K
       simp only [HV.out,HPE.out] at hHeld ⊢
       clear HB HPE HV HYB
       have HB:=HB1
       clear HB1
       refine ah 9 11 rfl rfl (by kernel_rfl) (fun K hK=>?_) (fun K hK=>?_)
       focus
        obtain ⟨A9,c9,y2,hrun,hO,hb9,hkeep,hown⟩:=app9 HSV.out HB.out HWX.out HP.out HLP0.out (by rw [HN.out];omega)
        rw [HN.out] at hrun hO hown
        rw [if_pos]
        case hc=>rfl
        refine al (.tmp 133) (.tmp 138) 57 rfl _ _ (.slice A9 (n + 1) c9) y2 rfl rfl hrun ?_
        refine hK.out _ _ (HSX.out _ hb9) fun hHeld=>?_
        clear hK K
        simp only [Act.put,O]
        have HO:=J hO
        have HOW:Hid (∀ k,(Value.slice A9 (n + 1) c9).ownBlock = some k → wr.heap.size ≤ k):=J (fun k hk=>by have h1:=HLP0.out;have h2:=HB.out.size;rcases hown k hk with e | e <;> omega)
        have HB1:=J hb9
        clear HB hb9 hrun hO hkeep hown
        have HB:=HB1
        clear HB1
        refine ab 11 rfl (by kernel_rfl) (fun K hK=>?_)
        obtain ⟨q,y3,HPE,HV,HB1,HQ,HLQ0,HYB⟩:=lit7 (.cells #[.int .u8 11,.int .u32 0,.int .u32 0,.int .i64 0,.slice none 0 0] 56) HB.out
        try (rw [if_pos];case hc=>rfl)
        go_simp
        refine hK.out _ _ (by rw [HV.out];exact HSX.out _ HB1.out) fun hHeld=>?_
        clear hK K
        simp only [HV.out,HPE.out] at hHeld ⊢
        have HO2:=J (HO.out.mod (T:=fun _=>False) (Mod.of_below HYB.out) (fun _ _ h=>h) (fun _ _ _ h=>h))
        have HNE:Hid (∀ q',(Value.slice A9 (n + 1) c9).ownBlock = some q' → q' ≠ q):=J (fun q' hq e=>by have h1:=(HO.out.lt q' hq).2;rw [HPE.out] at h1;omega)
        clear HO
        have HO:=HO2
        clear HO2
        clear HB HPE HV HYB
        have HB:=HB1
        clear HB1
        have HNE0:Hid ((Value.slice A9 (n + 1) c9).ownBlock ≠ some q):=J (fun e=>HNE.out q e rfl)
        clear HNE
       rotate_left
       focus
        obtain ⟨q,y2,HPE,HV,HB1,HQ,HLQ0,HYB⟩:=lit7 (.cells #[.int .u8 11,.int .u32 0,.int .u32 0,.int .i64 0,.slice none 0 0] 56) HB.out
        try (rw [if_pos];case hc=>rfl)
        go_simp
        refine hK.out _ _ (by rw [HV.out];exact HSX.out _ HB1.out) fun hHeld=>?_
        clear hK K
        simp only [HV.out,HPE.out] at hHeld ⊢
        have HP2:=J ((HYB.out.block _ (gl7 HP.out)).trans HP.out)
        have HPQ:Hid (p < q):=J (by have h1:=gl7 HP.out;rw [HPE.out] at h1;exact h1)
        clear HP
        have HP:=HP2
        clear HP2
        clear HB HPE HV HYB
        have HB:=HB1
        clear HB1
        refine ab 9 rfl (by kernel_rfl) (fun K hK=>?_)
        obtain ⟨A9,c9,y3,hrun,hO,hb9,hkeep,hown⟩:=app9 HSV.out HB.out HWX.out HP.out HLP0.out (by rw [HN.out];omega)
        rw [HN.out] at hrun hO hown
        rw [if_pos]
        case hc=>rfl
        refine al (.tmp 133) (.tmp 138) 57 rfl _ _ (.slice A9 (n + 1) c9) y3 rfl rfl hrun ?_
        refine hK.out _ _ (HSX.out _ hb9) fun hHeld=>?_
        clear hK K
        simp only [Act.put,O]
        have HO:=J hO
        have HOW:Hid (∀ k,(Value.slice A9 (n + 1) c9).ownBlock = some k → wr.heap.size ≤ k):=J (fun k hk=>by have h1:=HLP0.out;have h2:=HB.out.size;rcases hown k hk with e | e <;> omega)
        have HQ2:=J ((hkeep q (gl7 HQ.out) (by have:=HPQ.out;omega)).trans HQ.out)
        have HNE0:Hid ((Value.slice A9 (n + 1) c9).ownBlock ≠ some q):=J (fun e=>by have h1:=gl7 HQ.out;have h2:=HPQ.out;rcases hown q e with e | e <;> omega)
        clear HQ
        have HQ:=HQ2
        clear HQ2
        have HB1:=J hb9
        clear HB hb9 hrun hO hkeep hown
        have HB:=HB1
        clear HB1
       rotate_left
      rotate_left 2
      focus
       obtain ⟨q,y1,HPE,HV,HB1,HQ,HLQ0,HYB⟩:=lit7 (.cells #[.int .u8 11,.int .u32 0,.int .u32 0,.int .i64 0,.slice none 0 0] 56) HB.out
       try (rw [if_pos];case hc=>rfl)
       go_simp
       refine hK.out _ _ (by rw [HV.out];exact HSX.out _ HB1.out) fun hHeld=>?_
       clear hK K
       simp only [HV.out,HPE.out] at hHeld ⊢
       clear HB HPE HV HYB
       have HB:=HB1
       clear HB1
       refine ab 3 rfl (by kernel_rfl) (fun K hK=>?_)
       obtain ⟨p,y2,HPE,HV,HB1,HP,HLP0,HYB⟩:=lit7 (.cells #[.int .u8 2,.int .u32 64,.int .u32 0,.int .i64 0,.slice none 0 0] 56) HB.out
       try (rw [if_pos];case hc=>rfl)
       go_simp
       refine hK.out _ _ (by rw [HV.out];exact HSX.out _ HB1.out) fun hHeld=>?_
       clear hK K
       simp only [HV.out,HPE.out] at hHeld ⊢
       have HQ2:=J ((HYB.out.block _ (gl7 HQ.out)).trans HQ.out)
       have HPQ:Hid (q < p):=J (by have h1:=gl7 HQ.out;rw [HPE.out] at h1;exact h1)
       clear HQ
       have HQ:=HQ2
       clear HQ2
       clear HB HPE HV HYB
       have HB:=HB1
       clear HB1
       refine ab 9 rfl (by kernel_rfl) (fun K hK=>?_)
       obtain ⟨A9,c9,y3,hrun,hO,hb9,hkeep,hown⟩:=app9 HSV.out HB.out HWX.out HP.out HLP0.out (by rw [HN.out];omega)
       rw [HN.out] at hrun hO hown
       rw [if_pos]
       case hc=>rfl
       refine al (.tmp 133) (.tmp 138) 57 rfl _ _ (.slice A9 (n + 1) c9) y3 rfl rfl hrun ?_
       refine hK.out _ _ (HSX.out _ hb9) fun hHeld=>?_
       clear hK K
       simp only [Act.put,O]
       have HO:=J hO
       have HOW:Hid (∀ k,(Value.slice A9 (n + 1) c9).ownBlock = some k → wr.heap.size ≤ k):=J (fun k hk=>by have h1:=HLP0.out;have h2:=HB.out.size;rcases hown k hk with e | e <;> omega)
       have HQ2:=J ((hkeep q (gl7 HQ.out) (by have:=HPQ.out;omega)).trans HQ.out)
       have HNE0:Hid ((Value.slice A9 (n + 1) c9).ownBlock ≠ some q):=J (fun e=>by have h1:=gl7 HQ.out;have h2:=HPQ.out;rcases hown q e with e | e <;> omega)
       clear HQ
       have HQ:=HQ2
       clear HQ2
       have HB1:=J hb9
       clear HB hb9 hrun hO hkeep hown
       have HB:=HB1
       clear HB1
      rotate_left
     rotate_left 3
     focus
      obtain ⟨q,y1,HPE,HV,HB1,HQ,HLQ0,HYB⟩:=lit7 (.cells #[.int .u8 11,.int .u32 0,.int .u32 0,.int .i64 0,.slice none 0 0] 56) HB.out
      try (rw [if_pos];case hc=>rfl)
      go_simp
      refine hK.out _ _ (by rw [HV.out];exact HSX.out _ HB1.out) fun hHeld=>?_
      clear hK K
      simp only [HV.out,HPE.out] at hHeld ⊢
      clear HB HPE HV HYB
      have HB:=HB1
      clear HB1
      refine ah 3 8 rfl rfl (by kernel_rfl) (fun K hK=>?_) (fun K hK=>?_)
      focus
       obtain ⟨p,y2,HPE,HV,HB1,HP,HLP0,HYB⟩:=lit7 (.cells #[.int .u8 2,.int .u32 64,.int .u32 0,.int .i64 0,.slice none 0 0] 56) HB.out
       try (rw [if_pos];case hc=>rfl)
       go_simp
       refine hK.out _ _ (by rw [HV.out];exact HSX.out _ HB1.out) fun hHeld=>?_
       clear hK K
       simp only [HV.out,HPE.out] at hHeld ⊢
       have HQ2:=J ((HYB.out.block _ (gl7 HQ.out)).trans HQ.out)
       have HPQ:Hid (q < p):=J (by have h1:=gl7 HQ.out;rw [HPE.out] at h1;exact h1)
       clear HQ
       have HQ:=HQ2
       clear HQ2
       clear HB HPE HV HYB
       have HB:=HB1
       clear HB1
       refine ab 8 rfl (by kernel_rfl) (fun K hK=>?_)
       have x8:=cellV ((HB.out.block (g + 4) HGR.out).trans HG.out.c4) 1 _ rfl
       try (rw [if_pos];case hc=>rfl)
       go_simp
       refine hK.out _ _ (HSX.out _ HB.out) fun hHeld=>?_
       clear hK K
       clear x8
       refine ab 9 rfl (by kernel_rfl) (fun K hK=>?_)
       obtain ⟨A9,c9,y3,hrun,hO,hb9,hkeep,hown⟩:=app9 HSV.out HB.out HWX.out HP.out HLP0.out (by rw [HN.out];omega)
       rw [HN.out] at hrun hO hown
       rw [if_pos]
       case hc=>rfl
       refine al (.tmp 133) (.tmp 138) 57 rfl _ _ (.slice A9 (n + 1) c9) y3 rfl rfl hrun ?_
       refine hK.out _ _ (HSX.out _ hb9) fun hHeld=>?_
       clear hK K
       simp only [Act.put,O]
       have HO:=J hO
       have HOW:Hid (∀ k,(Value.slice A9 (n + 1) c9).ownBlock = some k → wr.heap.size ≤ k):=J (fun k hk=>by have h1:=HLP0.out;have h2:=HB.out.size;rcases hown k hk with e | e <;> omega)
       have HQ2:=J ((hkeep q (gl7 HQ.out) (by have:=HPQ.out;omega)).trans HQ.out)
       have HNE0:Hid ((Value.slice A9 (n + 1) c9).ownBlock ≠ some q):=J (fun e=>by have h1:=gl7 HQ.out;have h2:=HPQ.out;rcases hown q e with e | e <;> omega)
       clear HQ
       have HQ:=HQ2
       clear HQ2
       have HB1:=J hb9
       clear HB hb9 hrun hO hkeep hown
       have HB:=HB1
       clear HB1
      rotate_left
      focus
       have x8:=cellV ((HB.out.block (g + 4) HGR.out).trans HG.out.c4) 1 _ rfl
       try (rw [if_pos];case hc=>rfl)
       go_simp
       refine hK.out _ _ (HSX.out _ HB.out) fun hHeld=>?_
       clear hK K
       clear x8
       refine ab 3 rfl (by kernel_rfl) (fun K hK=>?_)
       obtain ⟨p,y2,HPE,HV,HB1,HP,HLP0,HYB⟩:=lit7 (.cells #[.int .u8 2,.int .u32 64,.int .u32 0,.int .i64 0,.slice none 0 0] 56) HB.out
       try (rw [if_pos];case hc=>rfl)
       go_simp
       refine hK.out _ _ (by rw [HV.out];exact HSX.out _ HB1.out) fun hHeld=>?_
       clear hK K
       simp only [HV.out,HPE.out] at hHeld ⊢
       have HQ2:=J ((HYB.out.block _ (gl7 HQ.out)).trans HQ.out)
       have HPQ:Hid (q < p):=J (by have h1:=gl7 HQ.out;rw [HPE.out] at h1;exact h1)
       clear HQ
       have HQ:=HQ2
       clear HQ2
       clear HB HPE HV HYB
       have HB:=HB1
       clear HB1
       refine ab 9 rfl (by kernel_rfl) (fun K hK=>?_)
       obtain ⟨A9,c9,y3,hrun,hO,hb9,hkeep,hown⟩:=app9 HSV.out HB.out HWX.out HP.out HLP0.out (by rw [HN.out];omega)
       rw [HN.out] at hrun hO hown
       rw [if_pos]
       case hc=>rfl
       refine al (.tmp 133) (.tmp 138) 57 rfl _ _ (.slice A9 (n + 1) c9) y3 rfl rfl hrun ?_
       refine hK.out _ _ (HSX.out _ hb9) fun hHeld=>?_
       clear hK K
       simp only [Act.put,O]
       have HO:=J hO
       have HOW:Hid (∀ k,(Value.slice A9 (n + 1) c9).ownBlock = some k → wr.heap.size ≤ k):=J (fun k hk=>by have h1:=HLP0.out;have h2:=HB.out.size;rcases hown k hk with e | e <;> omega)
       have HQ2:=J ((hkeep q (gl7 HQ.out) (by have:=HPQ.out;omega)).trans HQ.out)
       have HNE0:Hid ((Value.slice A9 (n + 1) c9).ownBlock ≠ some q):=J (fun e=>by have h1:=gl7 HQ.out;have h2:=HPQ.out;rcases hown q e with e | e <;> omega)
       clear HQ
       have HQ:=HQ2
       clear HQ2
       have HB1:=J hb9
       clear HB hb9 hrun hO hkeep hown
       have HB:=HB1
       clear HB1
      rotate_left
     rotate_left 2
     all_goals
      refine ab 12 rfl (by kernel_rfl) (fun K hK=>?_)
      obtain ⟨A5,c5,w5,hrun,hs5,hb5⟩:=app12 HO.out HB.out HWX.out HQ.out HLQ0.out HNE0.out HOW.out (by rw [List.length_cons,HN.out];omega)
      rw [show (Bo.blk 64 :: xs).length = n + 1 from by rw [List.length_cons,HN.out]] at hrun hs5
      rw [if_pos]
      case hc=>rfl
      refine al (.tmp 139) (.tmp 141) 57 rfl _ _ (.slice A5 (n + 1 + 1) c5) w5 rfl rfl hrun ?_
      refine hK.out _ _ (HSX.out _ hb5) fun hHeld=>?_
      clear hK K
      simp only [Act.put,O]
      have HS5:=J hs5
      have HB5:=J hb5
      have hc5:w5.heap[g + 4]? = _:=(hb5.block (g + 4) HGR.out).trans HG.out.c4
      have HC5:=J hc5
      have z2:=cellV hc5 1 _ rfl
      have f2:=frozen_of_row _ (g + 4) 1 _ _ hc5
      clear hrun hs5 hb5 hc5
      refine dW 13 rfl ?_
      refine dW 14 rfl ?_
      have HM6:Hid (Mod (fun k=>k = g + 4) wx (w5.setCell ⟨g + 4,1,none⟩ (.slice A5 (n + 1 + 1) c5))):=J ((HG.out.md.trans (T':=fun _=>False) (Mod.of_below HB5.out) (fun _ _ h=>h.elim)).setCell (fun _=>rfl) _)
      refine dA 15 rfl fun K hK=>?_
      go_simp
      refine hK.out _ _ (HSM.out _ HM6.out) fun hHeld=>?_
      clear hK K
      refine dN ?_
      have HG6:Hid (G7 wx g (Bo.blk 64 :: xs ++ [Bo.endI]) (w5.setCell ⟨g + 4,1,none⟩ (.slice A5 (n + 1 + 1) c5)) (.slice A5 (n + 1 + 1) c5)):=J ⟨HM6.out,heap_setCell_same w5 (g + 4) 1 _ _ _ HC5.out,HS5.out.mod ((Mod.refl _ w5).setCell (T:=(· = g + 4)) (p:=⟨g + 4,1,none⟩) (fun _=>rfl) _) (fun k _ h e=>by have:=HGW0.out;omega)⟩
      generalize w5.setCell ⟨g + 4,1,none⟩ (.slice A5 (n + 1 + 1) c5) = w6 at HG6 HM6 ⊢
      clear z2 f2 hHeld HS5 HB5 HC5 HO HB HQ HP
      have x10:=HSM.out _ HM6.out
      have x4:=cellV HG6.out.c4 1 _ rfl
      by_cases h400:400 < n + 1 + 1
      ·have h4:(400:Int) < ((n + 1 + 1:Nat):Int):=by omega
       have h4b:(400:Int) < (n:Int) + 1 + 1:=by omega
       go_wp2_with fail
       go_ret
       exact ⟨rfl,HB3.out.trans (HM6.out.below HB3.out.size (fun q hq e=>by have:=HGW.out;omega))⟩
      ·have h4:decide ((400:Int) < ((n + 1 + 1:Nat):Int)) = false:=decide_eq_false (by omega)
       have h4b:decide ((400:Int) < (n:Int) + 1 + 1) = false:=decide_eq_false (by omega)
       go_wp2_with fail
       go_roundw
       case rel=>exact ⟨i + 1,_,by omega,by go_num,J (by rw [Ru.deep,← HXS.out];exact HG6.out),J (by rw [Ru.deep_len];have:=HN.out;rw [HXS.out,Ru.deep_len] at this;omega)⟩
       case measure=>simp [intOf];omega
    ·obtain rfl:i = k:=by omega
     have hkk:decide ((i:Int) < (i:Int)) = false:=decide_eq_false (by omega)
     go_wp2_with fail
     go_meet
     case rel =>
      have HKX:Hid (wr.heap[X]? = _):=J (HG.out.md.heap HX1.out (by have:=HGX.out;omega))
      have hcd:=aT (c:=⟨[],Ru.deep i⟩) HG.out.c4 (aa.nil wr _) (HG.out.sl.more (fun q hq _=>hq))
      have hm:Mod (fun k=>k = X ∨ k = g + 4) wx wr:=HG.out.md.more (fun _ _ h=>.inr h)
      have h3:=bg HLG.out HGX.out hm
      exact ⟨Ru.sized [] [] [] [] [] [] [⟨[],Ru.deep i⟩],64,0,_,_,_,_,_,_,_,_,_,_,rfl,rfl,by decide,by decide,HKX.out.trans rfl,⟨h3.1,aa.nil _ _,h3.2.1,aa.nil _ _,aa.nil _ _,aa.nil _ _,h3.2.2,(by show (0:Nat) < 4294967296;decide),aa.nil _ _,hcd,aa.nil _ _⟩,aI ⟨by simp,nofun⟩ (by simp) (by simp) (by simp) ⟨by simp,nofun⟩ ⟨by simp,nofun⟩ (bN (by simp) (fewI_deep HLE.out)),(by rw [Nat.add_zero];exact Ru.rs7 i (by have:=HLE.out;rw [Ru.deep_len] at this;omega)),HB3.out.trans (hm.below HB3.out.size (fun k hk e=>by have:=HGW.out;have:=HGX.out;omega))⟩
  ·have h8:((8:Nat):Int) = 8:=rfl
   simp only [h8]
   clear h8
   go_wp2_with fail
   go_loopw [156] (fun iv wr=>∃ (i:Nat) (v:Value),i ≤ k ∧ iv = .int .i64 ↑i ∧ Hid (G8 wx g (List.replicate i Ru.cst) wr v)) (fun iv _=>k - (intOf iv).toNat)
   case atStart=>exact ⟨0,_,by omega,rfl,J ⟨Mod.refl _ _,HLG.out.h4,OwnL.nil _ _ _ _⟩⟩
   case round =>
    obtain ⟨i,v,hi,rfl,HG⟩:=hrel
    by_cases hin:i < k
    ·have hini:(i:Int) < (k:Int):=by omega
     have hX10:∀ W,Mod (fun k=>k = g + 4) wx W → W.cell? ⟨X,10,none⟩ = some (.slice (some ⟨g + 4,0,none⟩) 1 1):=fun W hW=>cellV (hW.heap HX1.out (by have:=HGX.out;omega)) 10 _ rfl
     have x1:(World.drew wr).cell? ⟨g + 4,1,none⟩ = some v:=cellV HG.out.c4 1 _ rfl
     have x2:(World.drew (wr.alloc (.cells #[.int .u8 65,.int .u32 0,.int .u32 0,.int .i64 0,.slice none 0 0] 56))).cell? ⟨g + 4,1,none⟩ = some v:=cellV ((Below.heap_alloc _ _ _ (gL HG.out.c4)).trans HG.out.c4) 1 _ rfl
     have hsx0:(World.drew wr).cell? ⟨X,10,none⟩ = _:=hX10 wr HG.out.md
     have hsx1:(World.drew (wr.alloc (.cells #[.int .u8 65,.int .u32 0,.int .u32 0,.int .i64 0,.slice none 0 0] 56))).cell? ⟨X,10,none⟩ = _:=hX10 (wr.alloc (.cells #[.int .u8 65,.int .u32 0,.int .u32 0,.int .i64 0,.slice none 0 0] 56)) (HG.out.md.alloc (.cells #[.int .u8 65,.int .u32 0,.int .u32 0,.int .i64 0,.slice none 0 0] 56))
     obtain ⟨A5,c5,w5,hrun,hc5,hm5,hg5⟩:=HG.out.step (by have:=HGX.out;have:=HXL.out;omega) (by rw [List.length_replicate];omega) 65 (by decide)
     rw [List.length_replicate] at hrun hg5
     have HM5:=J hm5
     have HG5:=J hg5
     have HC5:=J hc5
     clear hm5 hg5 hc5
     go_upto_region 49 with fail
     refine wp_region_held_drew (S:=fun W'=>W'.cell? ⟨X,10,none⟩ = some (.slice (some ⟨g + 4,0,none⟩) 1 1)) (by kernel_rfl) (hsx0) (fun hHeld=>?_)
     refine dW 0 rfl ?_
     refine dW 1 rfl ?_
     refine dW 2 rfl ?_
     refine dW 3 rfl ?_
     refine dW 4 rfl ?_
     refine dW 5 rfl ?_
     refine dW 7 rfl ?_
     refine ah 6 8 rfl rfl (by kernel_rfl) (fun K hK=>?_) (fun K hK=>?_)
     focus
      try (rw [if_pos];case hc=>rfl)
      go_simp
      refine hK.out _ _ (hsx0) fun hHeld=>?_
      clear hK K
      refine dA 8 rfl fun K hK=>?_
      go_simp
      refine hK.out _ _ (hsx1) fun hHeld=>?_
      clear hK K
     rotate_left
     focus
      try (rw [if_pos];case hc=>rfl)
      go_simp
      refine hK.out _ _ (hsx1) fun hHeld=>?_
      clear hK K
      refine dA 6 rfl fun K hK=>?_
      go_simp
      refine hK.out _ _ (hsx1) fun hHeld=>?_
      clear hK K
     rotate_left
     all_goals
      refine dA 9 rfl fun K hK=>?_
      refine al (.tmp 164) (.tmp 166) 57 rfl v (.slice (some ⟨wr.heap.size,0,none⟩) 1 1) (.slice A5 (i + 1) c5) w5 rfl rfl hrun ?_
      refine hK.out _ _ (hX10 _ HM5.out) fun hHeld=>?_
      clear hK K
      simp only [Act.put,O]
      refine dW 10 rfl ?_
      refine dW 11 rfl ?_
      have z2:=cellV HC5.out 1 _ rfl
      have f2:=frozen_of_row _ (g + 4) 1 _ _ HC5.out
      refine dA 12 rfl fun K hK=>?_
      go_simp
      refine hK.out _ _ (hX10 _ HG5.out.md) fun hHeld=>?_
      clear hK K
      refine dN ?_
      go_wp2_with fail
      go_roundw
      case rel=>exact ⟨i + 1,_,by omega,by go_num,J (by rw [show List.replicate (i + 1) Ru.cst = List.replicate i Ru.cst ++ [Ru.cst] from List.replicate_succ'];exact HG5.out)⟩
      case measure=>simp [intOf];omega
    ·obtain rfl:i = k:=by omega
     have hkk:decide ((i:Int) < (i:Int)) = false:=decide_eq_false (by omega)
     have hX10:∀ W,Mod (fun k=>k = g + 4) wx W → W.cell? ⟨X,10,none⟩ = some (.slice (some ⟨g + 4,0,none⟩) 1 1):=fun W hW=>cellV (hW.heap HX1.out (by have:=HGX.out;omega)) 10 _ rfl
     have x1:(World.drew wr).cell? ⟨g + 4,1,none⟩ = some v:=cellV HG.out.c4 1 _ rfl
     have x2:(World.drew (wr.alloc (.cells #[.int .u8 0,.int .u32 0,.int .u32 0,.int .i64 0,.slice none 0 0] 56))).cell? ⟨g + 4,1,none⟩ = some v:=cellV ((Below.heap_alloc _ _ _ (gL HG.out.c4)).trans HG.out.c4) 1 _ rfl
     have hsx0:(World.drew wr).cell? ⟨X,10,none⟩ = _:=hX10 wr HG.out.md
     have hsx1:(World.drew (wr.alloc (.cells #[.int .u8 0,.int .u32 0,.int .u32 0,.int .i64 0,.slice none 0 0] 56))).cell? ⟨X,10,none⟩ = _:=hX10 (wr.alloc (.cells #[.int .u8 0,.int .u32 0,.int .u32 0,.int .i64 0,.slice none 0 0] 56)) (HG.out.md.alloc (.cells #[.int .u8 0,.int .u32 0,.int .u32 0,.int .i64 0,.slice none 0 0] 56))
     obtain ⟨A5,c5,w5,hrun,hc5,hm5,hg5⟩:=HG.out.step (by have:=HGX.out;have:=HXL.out;omega) (by rw [List.length_replicate];omega) 0 (by decide)
     rw [List.length_replicate] at hrun hg5
     have HM5:=J hm5
     have HG5:=J hg5
     have HC5:=J hc5
     clear hm5 hg5 hc5
     go_wp2_with fail
     refine wp_region_held_drew (S:=fun W'=>W'.cell? ⟨X,10,none⟩ = some (.slice (some ⟨g + 4,0,none⟩) 1 1)) (by kernel_rfl) (hsx0) (fun hHeld=>?_)
     refine dW 0 rfl ?_
     refine dW 1 rfl ?_
     refine dW 2 rfl ?_
     refine dW 3 rfl ?_
     refine dW 4 rfl ?_
     refine dW 5 rfl ?_
     refine dW 7 rfl ?_
     refine ah 6 8 rfl rfl (by kernel_rfl) (fun K hK=>?_) (fun K hK=>?_)
     focus
      try (rw [if_pos];case hc=>rfl)
      go_simp
      refine hK.out _ _ (hsx0) fun hHeld=>?_
      clear hK K
      refine dA 8 rfl fun K hK=>?_
      go_simp
      refine hK.out _ _ (hsx1) fun hHeld=>?_
      clear hK K
     rotate_left
     focus
      try (rw [if_pos];case hc=>rfl)
      go_simp
      refine hK.out _ _ (hsx1) fun hHeld=>?_
      clear hK K
      refine dA 6 rfl fun K hK=>?_
      go_simp
      refine hK.out _ _ (hsx1) fun hHeld=>?_
      clear hK K
     rotate_left
     all_goals
      refine dA 9 rfl fun K hK=>?_
      refine al (.tmp 177) (.tmp 179) 57 rfl v (.slice (some ⟨wr.heap.size,0,none⟩) 1 1) (.slice A5 (i + 1) c5) w5 rfl rfl hrun ?_
      refine hK.out _ _ (hX10 _ HM5.out) fun hHeld=>?_
      clear hK K
      simp only [Act.put,O]
      refine dW 10 rfl ?_
      refine dW 11 rfl ?_
      have z2:=cellV HC5.out 1 _ rfl
      have f2:=frozen_of_row _ (g + 4) 1 _ _ HC5.out
      refine dA 12 rfl fun K hK=>?_
      go_simp
      refine hK.out _ _ (hX10 _ HG5.out.md) fun hHeld=>?_
      clear hK K
      refine dN ?_
      by_cases h4:4000 < i
      ·have h4i:(4000:Int) < (i:Int):=by omega
       go_wp2_with fail
       go_ret
       exact ⟨rfl,HB3.out.trans (HG5.out.md.below HB3.out.size (fun q hq e=>by have:=HGW.out;omega))⟩
      ·have h4i:decide ((4000:Int) < (i:Int)) = false:=decide_eq_false (by omega)
       go_wp2_with fail
       go_meet
       case rel =>
        have HKX:Hid ((w5.setCell ⟨g + 4,1,none⟩ (.slice A5 (i + 1) c5)).heap[X]? = _):=J (HG5.out.md.heap HX1.out (by have:=HGX.out;omega))
        have hcd:=aT (c:=⟨[],List.replicate i Ru.cst ++ [Ru.unr]⟩) HG5.out.c4 (aa.nil (w5.setCell ⟨g + 4,1,none⟩ (.slice A5 (i + 1) c5)) _) ((HG5.out.own.tell (fun _ h=>h.elim)).more (fun q hq _=>hq))
        have hm:Mod (fun k=>k = X ∨ k = g + 4) wx (w5.setCell ⟨g + 4,1,none⟩ (.slice A5 (i + 1) c5)):=HG5.out.md.more (fun _ _ h=>.inr h)
        have h3:=bg HLG.out HGX.out hm
        exact ⟨Ru.sized [] [] [] [] [] [] [⟨[],List.replicate i Ru.cst ++ [Ru.unr]⟩],512,0,_,_,_,_,_,_,_,_,_,_,rfl,rfl,by decide,by decide,HKX.out.trans rfl,⟨h3.1,aa.nil _ _,h3.2.1,aa.nil _ _,aa.nil _ _,aa.nil _ _,h3.2.2,(by show (0:Nat) < 4294967296;decide),aa.nil _ _,hcd,aa.nil _ _⟩,aI ⟨by simp,nofun⟩ (by simp) (by simp) (by simp) ⟨by simp,nofun⟩ ⟨by simp,nofun⟩ (bN (by simp) (fewI_csts (by omega))),by rw [Nat.add_zero];exact Ru.rs8 i (by omega),HB3.out.trans (hm.below HB3.out.size (fun k hk e=>by have:=HGW.out;have:=HGX.out;omega))⟩
  ·have hmk:=run_make_row' (P:=Tryz.prog) 40 44 (.int .u32 0) 4 sund32 sinf32 rfl .i64 .i64 k (by omega) (by omega)
   obtain ⟨t0,t1,t2⟩:=twoV wx.drew (.cells (madeCells #[.int .u32 0] k) 44) (.cells #[.int .u8 65,.int .u32 0,.int .u32 0,.int .i64 0,.slice none 0 0,.int .u8 14,.int .u32 0,.int .u32 0,.int .i64 0,.slice (some ⟨wx.heap.size,0,none⟩) k k] 56)
   have HM:Hid (((wx.drew.alloc (.cells (madeCells #[.int .u32 0] k) 44)).alloc (.cells #[.int .u8 65,.int .u32 0,.int .u32 0,.int .i64 0,.slice none 0 0,.int .u8 14,.int .u32 0,.int .u32 0,.int .i64 0,.slice (some ⟨wx.heap.size,0,none⟩) k k] 56)).heap[wx.heap.size]? = _):=J t0
   have HN:Hid (((wx.drew.alloc (.cells (madeCells #[.int .u32 0] k) 44)).alloc (.cells #[.int .u8 65,.int .u32 0,.int .u32 0,.int .i64 0,.slice none 0 0,.int .u8 14,.int .u32 0,.int .u32 0,.int .i64 0,.slice (some ⟨wx.heap.size,0,none⟩) k k] 56)).heap[wx.heap.size + 1]? = _):=J t1
   have HC4:Hid (((wx.drew.alloc (.cells (madeCells #[.int .u32 0] k) 44)).alloc (.cells #[.int .u8 65,.int .u32 0,.int .u32 0,.int .i64 0,.slice none 0 0,.int .u8 14,.int .u32 0,.int .u32 0,.int .i64 0,.slice (some ⟨wx.heap.size,0,none⟩) k k] 56)).heap[g + 4]? = _):=J ((t2.block (g + 4) (by have:=HGX.out;have:=HXL.out;show g + 4 < wx.heap.size;omega)).trans HLG.out.h4)
   have HX2:Hid (((wx.drew.alloc (.cells (madeCells #[.int .u32 0] k) 44)).alloc (.cells #[.int .u8 65,.int .u32 0,.int .u32 0,.int .i64 0,.slice none 0 0,.int .u8 14,.int .u32 0,.int .u32 0,.int .i64 0,.slice (some ⟨wx.heap.size,0,none⟩) k k] 56)).heap[X]? = _):=J ((t2.block X HXL.out).trans HX1.out)
   have HXM:Hid ((wx.drew.alloc (.cells (madeCells #[.int .u32 0] k) 44)).heap[X]? = _):=J ((Below.heap_alloc _ _ _ HXL.out).trans HX1.out)
   clear t0 t1 t2
   have z0:=cellV HX1.out 10 _ rfl
   go_wp2_with fail
   refine wp_region_held_drew (S:=fun W'=>W'.cell? ⟨X,10,none⟩ = some (.slice (some ⟨g + 4,0,none⟩) 1 1)) (by kernel_rfl) (z0) (fun hHeld=>?_)
   refine dW 0 rfl ?_
   refine dW 1 rfl ?_
   refine dW 2 rfl ?_
   refine dW 3 rfl ?_
   refine dA 4 rfl fun K hK=>?_
   go_simp
   refine hK.out _ _ (cellV HXM.out 10 _ rfl) fun hHeld=>?_
   clear hK K
   refine dW 5 rfl ?_
   refine dA 6 rfl fun K hK=>?_
   go_simp
   refine hK.out _ _ (cellV HX2.out 10 _ rfl) fun hHeld=>?_
   clear hK K
   refine dW 7 rfl ?_
   refine dW 8 rfl ?_
   have HKX:Hid ((((wx.drew.alloc (.cells (madeCells #[.int .u32 0] k) 44)).alloc (.cells #[.int .u8 65,.int .u32 0,.int .u32 0,.int .i64 0,.slice none 0 0,.int .u8 14,.int .u32 0,.int .u32 0,.int .i64 0,.slice (some ⟨wx.heap.size,0,none⟩) k k] 56)).setCell ⟨g + 4,1,none⟩ (.slice (some ⟨wx.heap.size + 1,0,none⟩) 2 2)).heap[X]? = _):=J ((Below.heap_setCell _ _ _ _ (by show X ≠ g + 4;have:=HGX.out;omega)).trans HX2.out)
   have z2:(World.drew ((wx.alloc (.cells (madeCells #[.int .u32 0] k) 44)).alloc (.cells #[.int .u8 65,.int .u32 0,.int .u32 0,.int .i64 0,.slice none 0 0,.int .u8 14,.int .u32 0,.int .u32 0,.int .i64 0,.slice (some ⟨wx.heap.size,0,none⟩) k k] 56))).cell? _ = _:=cellV HC4.out 1 _ rfl
   have f2:(World.drew ((wx.alloc (.cells (madeCells #[.int .u32 0] k) 44)).alloc (.cells #[.int .u8 65,.int .u32 0,.int .u32 0,.int .i64 0,.slice none 0 0,.int .u8 14,.int .u32 0,.int .u32 0,.int .i64 0,.slice (some ⟨wx.heap.size,0,none⟩) k k] 56))).frozen? _ = _:=frozen_of_row _ (g + 4) 1 _ _ HC4.out
   refine dA 9 rfl fun K hK=>?_
   go_simp
   refine hK.out _ _ (cellV HKX.out 10 _ rfl) fun hHeld=>?_
   clear hK K
   refine dW 10 rfl ?_
   refine dN ?_
   go_wp2_with fail
   go_meet
   case rel =>
    have hm:Mod (fun k=>k = X ∨ k = g + 4) wx (World.drew (((wx.alloc (.cells (madeCells #[.int .u32 0] k) 44)).alloc (.cells #[.int .u8 65,.int .u32 0,.int .u32 0,.int .i64 0,.slice none 0 0,.int .u8 14,.int .u32 0,.int .u32 0,.int .i64 0,.slice (some ⟨wx.heap.size,0,none⟩) k k] 56)).setCell ⟨g + 4,1,none⟩ (.slice (some ⟨wx.heap.size + 1,0,none⟩) 2 2))):=(((Mod.of_below (Below.drew (Below.refl _ wx))).alloc _).alloc _).setCell (fun _=>.inr rfl) _
    have hx0:(World.drew (((wx.alloc (.cells (madeCells #[.int .u32 0] k) 44)).alloc (.cells #[.int .u8 65,.int .u32 0,.int .u32 0,.int .i64 0,.slice none 0 0,.int .u8 14,.int .u32 0,.int .u32 0,.int .i64 0,.slice (some ⟨wx.heap.size,0,none⟩) k k] 56)).setCell ⟨g + 4,1,none⟩ (.slice (some ⟨wx.heap.size + 1,0,none⟩) 2 2))).heap[X]? = _:=HKX.out
    have HKX:=J hx0
    have HR_O:Hid ((World.drew (((wx.alloc (.cells (madeCells #[.int .u32 0] k) 44)).alloc (.cells #[.int .u8 65,.int .u32 0,.int .u32 0,.int .i64 0,.slice none 0 0,.int .u8 14,.int .u32 0,.int .u32 0,.int .i64 0,.slice (some ⟨wx.heap.size,0,none⟩) k k] 56)).setCell ⟨g + 4,1,none⟩ (.slice (some ⟨wx.heap.size + 1,0,none⟩) 2 2))).heap[wx.heap.size + 1]? = _):=J ((Below.heap_setCell _ _ _ _ (by show wx.heap.size + 1 ≠ g + 4;have:=HXL.out;have:=HGX.out;omega)).trans HN.out)
    have HMK:Hid ((World.drew (((wx.alloc (.cells (madeCells #[.int .u32 0] k) 44)).alloc (.cells #[.int .u8 65,.int .u32 0,.int .u32 0,.int .i64 0,.slice none 0 0,.int .u8 14,.int .u32 0,.int .u32 0,.int .i64 0,.slice (some ⟨wx.heap.size,0,none⟩) k k] 56)).setCell ⟨g + 4,1,none⟩ (.slice (some ⟨wx.heap.size + 1,0,none⟩) 2 2))).heap[wx.heap.size]? = _):=J ((Below.heap_setCell _ _ _ _ (by show wx.heap.size ≠ g + 4;have:=HXL.out;have:=HGX.out;omega)).trans HM.out)
    have HC5:Hid ((World.drew (((wx.alloc (.cells (madeCells #[.int .u32 0] k) 44)).alloc (.cells #[.int .u8 65,.int .u32 0,.int .u32 0,.int .i64 0,.slice none 0 0,.int .u8 14,.int .u32 0,.int .u32 0,.int .i64 0,.slice (some ⟨wx.heap.size,0,none⟩) k k] 56)).setCell ⟨g + 4,1,none⟩ (.slice (some ⟨wx.heap.size + 1,0,none⟩) 2 2))).heap[g + 4]? = some (.cells #[.slice none 0 0,(.slice (some ⟨wx.heap.size + 1,0,none⟩) 2 2)] 64 (0,0))):=J (heap_setCell_same _ (g + 4) 1 _ _ (.slice (some ⟨wx.heap.size + 1,0,none⟩) 2 2) HC4.out)
    have HMD:=J hm
    clear hm hx0 z2 f2 z0 hHeld HX2 HXM HM HN HC4
    generalize (World.drew (((wx.alloc (.cells (madeCells #[.int .u32 0] k) 44)).alloc (.cells #[.int .u8 65,.int .u32 0,.int .u32 0,.int .i64 0,.slice none 0 0,.int .u8 14,.int .u32 0,.int .u32 0,.int .i64 0,.slice (some ⟨wx.heap.size,0,none⟩) k k] 56)).setCell ⟨g + 4,1,none⟩ (.slice (some ⟨wx.heap.size + 1,0,none⟩) 2 2))) = wf at HKX HR_O HMK HC5 HMD ⊢
    have hU:HasU wf (· < wf.heap.size) (some ⟨wx.heap.size,0,none⟩) (List.replicate k 0):=hasU_of (madeV (α:=Nat) (x:=0) (by rw [show Lay.size Nat = 1 from rfl,Nat.mul_one];exact HMK.out) (gL HMK.out) ⟨rfl,by decide⟩ (by unfold maxLen;omega))
    have hcd:=aT (c:=⟨[],[Ru.cst,Ru.brT k]⟩) HC5.out (aa.nil wf _) (litV (α:=I) [(Ru.cst,[.int .u8 65,.int .u32 0,.int .u32 0,.int .i64 0,.slice none 0 0]),(Ru.brT k,[.int .u8 14,.int .u32 0,.int .u32 0,.int .i64 0,.slice (some ⟨wx.heap.size,0,none⟩) k k])] HR_O.out (Array.getElem?_eq_some_iff.1 HR_O.out).1 (by
     intro y hy
     simp only [List.mem_cons,List.not_mem_nil,or_false] at hy
     rcases hy with rfl | rfl
     ·exact ⟨none,0,rfl,⟨by decide,by decide,by decide,by decide,by decide,nofun⟩,Nat.le_refl _,Nat.zero_le _,HasU.nil _ _ _⟩
     ·exact ⟨some ⟨wx.heap.size,0,none⟩,k,by show _ = insCells (Ru.brT k) _ _;simp [insCells,Ru.brT],⟨by show 14 < 256;decide,by show 0 < 4294967296;decide,by show 0 < 4294967296;decide,by show (-9223372036854775808:Int) ≤ 0;decide,by show (0:Int) ≤ 9223372036854775807;decide,fun n hn=>by rw [List.eq_of_mem_replicate hn];decide⟩,by simp [Ru.brT],by unfold maxLen;omega,hU⟩) rfl rfl 2 rfl (by decide))
    have hm:Mod (fun k=>k = X ∨ k = g + 4) wx wf:=HMD.out
    have h3:=bg HLG.out HGX.out hm
    exact ⟨Ru.sized [] [] [] [] [] [] [⟨[],[Ru.cst,Ru.brT k]⟩],256,0,_,_,_,_,_,_,_,_,_,_,rfl,rfl,by decide,by decide,HKX.out.trans rfl,⟨h3.1,aa.nil _ _,h3.2.1,aa.nil _ _,aa.nil _ _,aa.nil _ _,h3.2.2,(by show (0:Nat) < 4294967296;decide),aa.nil _ _,hcd,aa.nil _ _⟩,aI ⟨by simp,nofun⟩ (by simp) (by simp) (by simp) ⟨by simp,nofun⟩ ⟨by simp,nofun⟩ (bN (by simp) (fewI_br (by omega))),by rw [Nat.add_zero];exact Ru.rs9 k,HB3.out.trans (hm.below HB3.out.size (fun k hk e=>by have:=HGW.out;have:=HGX.out;omega))⟩
  ·have hw:IntKind.u32.wrap (k:Int) = (k:Int):=IntWalk.u32_in _ (by omega)
   obtain ⟨t0,t1⟩:=oneV wx (.cells #[.int .u32 ↑k,.int .i64 (-1)] 66)
   have HN:=J t0
   have HK:=J ((t1.block X HXL.out).trans HX1.out)
   clear t0 t1
   have z0:=cellV HK.out 3 _ rfl
   have f0:=frozen_of_row _ X 3 _ _ HK.out
   go_wp2_with fail
   go_meet
   case rel =>
    have HKX:Hid (((wx.alloc (.cells #[.int .u32 ↑k,.int .i64 (-1)] 66)).setCell ⟨X,3,none⟩ (.slice (some ⟨wx.heap.size,0,none⟩) 1 1)).heap[X]? = some (.cells #[.slice (some ⟨g + 2,0,none⟩) 3 3,.slice none 0 0,.slice (some ⟨g + 3,0,none⟩) 1 1,.slice (some ⟨wx.heap.size,0,none⟩) 1 1,.slice none 0 0,.slice none 0 0,.slice (some ⟨g + 5,0,none⟩) 1 1,.bool false,.int .u32 0,.slice none 0 0,.slice (some ⟨g + 4,0,none⟩) 1 1,.slice none 0 0] 49 (0,0))):=J (heap_setCell_same _ X 3 _ _ (.slice (some ⟨wx.heap.size,0,none⟩) 1 1) HK.out)
    have HROW:Hid (((wx.alloc (.cells #[.int .u32 ↑k,.int .i64 (-1)] 66)).setCell ⟨X,3,none⟩ (.slice (some ⟨wx.heap.size,0,none⟩) 1 1)).heap[wx.heap.size]? = _):=J ((Below.heap_setCell _ _ _ _ (by show wx.heap.size ≠ X;have:=HXL.out;omega)).trans HN.out)
    have hcd:=aT (c:=⟨[],[]⟩) ((Below.heap_setCell _ _ _ _ (by show g + 4 ≠ X;have:=HGX.out;omega)).trans ((Below.heap_alloc _ _ _ (by have:=HGX.out;have:=HXL.out;omega)).trans HLG.out.h4)) (aa.nil ((wx.alloc (.cells #[.int .u32 ↑k,.int .i64 (-1)] 66)).setCell ⟨X,3,none⟩ (.slice (some ⟨wx.heap.size,0,none⟩) 1 1)) _) (aa.nil ((wx.alloc (.cells #[.int .u32 ↑k,.int .i64 (-1)] 66)).setCell ⟨X,3,none⟩ (.slice (some ⟨wx.heap.size,0,none⟩) 1 1)) _)
    have hm:Mod (fun k=>k = X ∨ k = g + 4) wx ((wx.alloc (.cells #[.int .u32 ↑k,.int .i64 (-1)] 66)).setCell ⟨X,3,none⟩ (.slice (some ⟨wx.heap.size,0,none⟩) 1 1)):=((Mod.refl _ wx).alloc _).setCell (fun _=>.inl rfl) _
    have h3:=bg HLG.out HGX.out hm
    exact ⟨Ru.sized [] [] [⟨k,-1⟩] [] [] [] [⟨[],[]⟩],1024,0,_,_,_,_,_,_,_,_,_,_,rfl,rfl,by decide,by decide,HKX.out,⟨h3.1,aa.nil _ _,h3.2.1,litV (α:=Lim) [(⟨k,-1⟩,[.int .u32 ↑k,.int .i64 (-1)])] HROW.out (Array.getElem?_eq_some_iff.1 HROW.out).1 (by intro y hy;simp at hy;subst hy;exact ⟨rfl,by show k < 4294967296;omega,by show (-9223372036854775808:Int) ≤ -1;decide,by show (-1:Int) ≤ 9223372036854775807;decide⟩) rfl rfl 1 rfl (by decide),aa.nil _ _,aa.nil _ _,h3.2.2,(by show (0:Nat) < 4294967296;decide),aa.nil _ _,hcd,aa.nil _ _⟩,aI ⟨by simp,nofun⟩ (by simp) (by simp) (by simp) ⟨by simp,nofun⟩ ⟨by simp,nofun⟩ (bN (by decide) bE),by rw [Nat.add_zero];exact Ru.rs10 k hk9,HB3.out.trans (hm.below HB3.out.size (fun k hk e=>by have:=HGW.out;have:=HGX.out;omega))⟩
  ·have hw:IntKind.u32.wrap (k:Int) = (k:Int):=IntWalk.u32_in _ (by omega)
   obtain ⟨t0,t1⟩:=oneV wx (.cells #[.int .u32 ↑k,.int .i64 (-1)] 66)
   have HN:=J t0
   have HK:=J ((t1.block X HXL.out).trans HX1.out)
   clear t0 t1
   have z0:=cellV HK.out 4 _ rfl
   have f0:=frozen_of_row _ X 4 _ _ HK.out
   go_wp2_with fail
   go_meet
   case rel =>
    have HKX:Hid (((wx.alloc (.cells #[.int .u32 ↑k,.int .i64 (-1)] 66)).setCell ⟨X,4,none⟩ (.slice (some ⟨wx.heap.size,0,none⟩) 1 1)).heap[X]? = some (.cells #[.slice (some ⟨g + 2,0,none⟩) 3 3,.slice none 0 0,.slice (some ⟨g + 3,0,none⟩) 1 1,.slice none 0 0,.slice (some ⟨wx.heap.size,0,none⟩) 1 1,.slice none 0 0,.slice (some ⟨g + 5,0,none⟩) 1 1,.bool false,.int .u32 0,.slice none 0 0,.slice (some ⟨g + 4,0,none⟩) 1 1,.slice none 0 0] 49 (0,0))):=J (heap_setCell_same _ X 4 _ _ (.slice (some ⟨wx.heap.size,0,none⟩) 1 1) HK.out)
    have HROW:Hid (((wx.alloc (.cells #[.int .u32 ↑k,.int .i64 (-1)] 66)).setCell ⟨X,4,none⟩ (.slice (some ⟨wx.heap.size,0,none⟩) 1 1)).heap[wx.heap.size]? = _):=J ((Below.heap_setCell _ _ _ _ (by show wx.heap.size ≠ X;have:=HXL.out;omega)).trans HN.out)
    have hcd:=aT (c:=⟨[],[]⟩) ((Below.heap_setCell _ _ _ _ (by show g + 4 ≠ X;have:=HGX.out;omega)).trans ((Below.heap_alloc _ _ _ (by have:=HGX.out;have:=HXL.out;omega)).trans HLG.out.h4)) (aa.nil ((wx.alloc (.cells #[.int .u32 ↑k,.int .i64 (-1)] 66)).setCell ⟨X,4,none⟩ (.slice (some ⟨wx.heap.size,0,none⟩) 1 1)) _) (aa.nil ((wx.alloc (.cells #[.int .u32 ↑k,.int .i64 (-1)] 66)).setCell ⟨X,4,none⟩ (.slice (some ⟨wx.heap.size,0,none⟩) 1 1)) _)
    have hm:Mod (fun k=>k = X ∨ k = g + 4) wx ((wx.alloc (.cells #[.int .u32 ↑k,.int .i64 (-1)] 66)).setCell ⟨X,4,none⟩ (.slice (some ⟨wx.heap.size,0,none⟩) 1 1)):=((Mod.refl _ wx).alloc _).setCell (fun _=>.inl rfl) _
    have h3:=bg HLG.out HGX.out hm
    exact ⟨Ru.sized [] [] [] [⟨k,-1⟩] [] [] [⟨[],[]⟩],16,0,_,_,_,_,_,_,_,_,_,_,rfl,rfl,by decide,by decide,HKX.out,⟨h3.1,aa.nil _ _,h3.2.1,aa.nil _ _,litV (α:=Lim) [(⟨k,-1⟩,[.int .u32 ↑k,.int .i64 (-1)])] HROW.out (Array.getElem?_eq_some_iff.1 HROW.out).1 (by intro y hy;simp at hy;subst hy;exact ⟨rfl,by show k < 4294967296;omega,by show (-9223372036854775808:Int) ≤ -1;decide,by show (-1:Int) ≤ 9223372036854775807;decide⟩) rfl rfl 1 rfl (by decide),aa.nil _ _,h3.2.2,(by show (0:Nat) < 4294967296;decide),aa.nil _ _,hcd,aa.nil _ _⟩,aI ⟨by simp,nofun⟩ (by simp) (by simp) (by simp) ⟨by simp,nofun⟩ ⟨by simp,nofun⟩ (bN (by decide) bE),by rw [Nat.add_zero];exact Ru.rs11 k hk9,HB3.out.trans (hm.below HB3.out.size (fun k hk e=>by have:=HGW.out;have:=HGX.out;omega))⟩
  ·have q0:((kind:Int) == 0) = false:=nB (by omega)
   have q1:((kind:Int) == 1) = false:=nB (by omega)
   have q2:((kind:Int) == 2) = false:=nB (by omega)
   have q3:((kind:Int) == 3) = false:=nB (by omega)
   have q4:((kind:Int) == 4) = false:=nB (by omega)
   have q5:((kind:Int) == 5) = false:=nB (by omega)
   have q6:((kind:Int) == 6) = false:=nB (by omega)
   have q7:((kind:Int) == 7) = false:=nB (by omega)
   have q8:((kind:Int) == 8) = false:=nB (by omega)
   have q9:((kind:Int) == 9) = false:=nB (by omega)
   have q10:((kind:Int) == 10) = false:=nB (by omega)
   have q11:((kind:Int) == 11) = false:=nB (by omega)
   go_wp2_with fail
   go_ret
   exact ⟨rfl,HB3.out⟩
 case rest =>
 obtain ⟨m,limit,own,v1,v2,v3,v4,v5,v6,v7,v8,v9,v10,rfl,rfl,hlim,hown,hx,hM,hF,hc,hb⟩:=hcut
 have hz:=J (cells12 hx (Below.refl _ _))
 have HC:=J (dh HR.out hc hF hM)
 have HBZ:=J hb
 clear hc hF hM hx hb hk
 obtain ⟨y0,y1,y2,y3,y4,y5,y6,y7,y8,y9,y10,y11⟩:=hz.out
 have hsum:IntKind.i64.wrap ((k:Int) + (own:Int)) = (k:Int) + (own:Int):=IntWalk.i64_in _ (by omega)
 by_cases hle:k + own ≤ limit
 ·rw [if_pos hle] at HC
  have h1:decide ((limit:Int) < (k:Int) + (own:Int)) = false:=decide_eq_false (by omega)
  go_wp2_with (go_at_call 13;refine HC.out.mono ?_;rintro e w8 ⟨rfl,hb8⟩;have HB8:=J (HBZ.out.trans (hb8.mono HBZ.out.size));clear hb8)
  go_ret
  exact ⟨rfl,HB8.out⟩
 ·rw [if_neg hle] at HC
  have h1:(limit:Int) < (k:Int) + (own:Int):=by omega
  go_wp2_with (go_at_call 13;refine HC.out.mono ?_;rintro e w8 ⟨rfl,hb8⟩;have HB8:=J (HBZ.out.trans (hb8.mono HBZ.out.size));clear hb8)
  go_ret
  exact ⟨rfl,HB8.out⟩
end Go.Proofs.YtmpelmihdpomjaaGreat
