/-
  Layer 9's program: Delete, Close, Label. (gen/typing/close.py)
-/
import Derived.Test.YtmpelmihdpomjaaGreatSo01
import Derived.Test.YtmpelmihdpomjaaGreatSo19
import Derived.Deep.RegionLaw
set_option maxRecDepth 100000
set_option maxHeartbeats 4000000
namespace Go.Proofs.YtmpelmihdpomjaaGreat
open Go.RowKit Ins Bin
theorem zTFr:∀ w,(zeroValue 186).run Tryz.prog w = .ok (.agg #[.slice none 0 0,.slice none 0 0,.int .i64 0,.bool false]) w:=fun w=>by
 obtain ⟨i0,hi,hz0,_,_⟩:=info_parts infTFr
 simp [zeroValue,typeInfo,hi,hz0]
theorem du (b:Nat) (t:TypeId):∀ (vs:List Value) (o:Nat) (w:World) (cur:Array Value),w.heap[b]? = some (.cells cur t (0,0)) →
  ∃ cur',(w.setCells b o vs).heap[b]? = some (.cells cur' t (0,0)) ∧ cur'.size = cur.size ∧ (∀ j,j < o → cur'[j]? = cur[j]?) ∧ Mod (· = b) w (w.setCells b o vs)
 | [],o,w,cur,h=>⟨cur,h,rfl,fun _ _=>rfl,Mod.refl _ _⟩
 | v :: vs,o,w,cur,h=>by
  obtain ⟨cur',h1,h2,h3,h4⟩:=du b t vs (o + 1) (w.setCell ⟨b,o,none⟩ v) _ (heap_setCell_same w b o _ _ v h)
  refine ⟨cur',h1,h2.trans (by simp),fun j hj=>(h3 j (by omega)).trans (by rw [Array.getElem?_setIfInBounds_ne (by omega)]),?_⟩
  exact (Mod.setCell (T:=(· = b)) (Mod.refl _ w) (fun _=>rfl) v).trans h4 (fun _ _ h=>h)
theorem tdelete_any (g m c:Nat) (cur:Array Value) (w:World) (hg:w.heap[g]? = some (.cells cur 186 (0,0))) (hsz:cur.size = c * 4) (hm:m + 1 ≤ c) (hc:c ≤ maxLen) (hl:m ≤ 1000000000) :
  Calls Tryz.prog 121 #[.slice (some ⟨g,0,none⟩) (m + 1) c,.int .i64 ↑m,.int .i64 ((m:Int) + 1)] w fun e w'=>e = .returned (.slice (some ⟨g,0,none⟩) m c) ∧
   ∃ cur',w'.heap[g]? = some (.cells cur' 186 (0,0)) ∧ cur'.size = cur.size ∧ (∀ j,j < m * 4 → cur'[j]? = cur[j]?) ∧ Mod (· = g) w w':=by
 have HRUN:Hid (∀ (X:Addr) (c':Nat),(Builtin.append_ #[178,178] 178 #[.slice (some ⟨g,0,none⟩) m c,.slice (some X) 0 c']).run Tryz.prog w.drew = .ok (.slice (some ⟨g,0,none⟩) m c) w.drew):=J (fun X c'=>by
  obtain ⟨i0,hi,hz0,hz1,hz2⟩:=info_parts infTFr
  have h:=run_append_room_cells (P:=Tryz.prog) w.drew 178 178 186 i0 undTFr hi g 0 m c X 0 c' [] (by simp) (by simp) (by simp) (by omega) (by simp) (by simp)
  exact h)
 have f1:(m:Int) + 1 ≤ (c:Int):=by omega
 have f2:(m:Int) ≤ (c:Int):=by omega
 have f3:((m:Int) == (m:Int) + 1) = false:=nB (by omega)
 have f4:m ≤ c:=by omega
 have f6:(0:Int) ≤ (m:Int) + 1:=by omega
 have f7:(m:Int) ≤ (m:Int) + 1:=by omega
 unfold maxLen at hc
 have hcel:∀ j,j < 4 → (w.drew.cell? ⟨g,m * 4 + j,none⟩).isSome = true:=fun j hj=>by
  show (w.cell? ⟨g,m * 4 + j,none⟩).isSome = true
  rw [cell_of_row w g _ _ _ (0,0) hg,Array.getElem?_eq_getElem (by rw [hsz];omega)]
  rfl
 have hclr:∀ c',(Builtin.clear_ #[178] 0 #[.slice (some ⟨g,m * 4,none⟩) 1 c']).run Tryz.prog w.drew = .ok (.tuple #[]) (w.drew.setCells g (m * 4) [.slice none 0 0,.slice none 0 0,.int .i64 0,.bool false]):=fun c' =>
  eC w.drew 178 186 0 (.agg #[.slice none 0 0,.slice none 0 0,.int .i64 0,.bool false]) undTFr zTFr (by decide) g (m * 4) c' hcel (fun j _=>frozen_of_row w.drew g _ _ _ hg)
 obtain ⟨cur',hr1,hr2,hr3,hr4⟩:=du g 186 [.slice none 0 0,.slice none 0 0,.int .i64 0,.bool false] (m * 4) w.drew cur hg
 have HR:Hid (∃ cur',(w.drew.setCells g (m * 4) [.slice none 0 0,.slice none 0 0,.int .i64 0,.bool false]).heap[g]? = some (.cells cur' 186 (0,0)) ∧ cur'.size = cur.size ∧ (∀ j,j < m * 4 → cur'[j]? = cur[j]?) ∧ Mod (· = g) w (w.drew.setCells g (m * 4) [.slice none 0 0,.slice none 0 0,.int .i64 0,.bool false])):=J ⟨cur',hr1,hr2,hr3,((Mod.refl (· = g) w).drew).trans hr4 (fun _ _ h=>h)⟩
 generalize w.drew.setCells g (m * 4) [.slice none 0 0,.slice none 0 0,.int .i64 0,.bool false] = W5 at hclr HR
 clear hcel hr1 hr2 hr3 hr4 hg hsz
 have f5:¬ (c - m = 0):=by omega
 by_cases hcm:c = m + 1
 ·subst hcm
  have hcl:=hclr 1
  clear hclr
  go_enter Tryz.func121,Tryz.ntmps121
  go_wp2_with fail
  refine wp_region_held_drew (S:=fun _=>True) (by kernel_rfl) (trivial) (fun hHeld=>?_)
  refine dW 0 rfl ?_
  refine dW 1 rfl ?_
  refine dW 2 rfl ?_
  refine dW 3 rfl ?_
  refine dW 4 rfl ?_
  refine dW 5 rfl ?_
  refine dA 6 rfl fun K hK=>?_
  refine am (.tmp 22) (.tmp 25) 178 rfl _ _ _ _ rfl rfl (HRUN.out ⟨g,0,none⟩ 0) ?_
  refine hK.out _ _ trivial (fun hHeld2=>?_)
  clear hK K hHeld hHeld2
  have hHeld:True:=trivial
  try simp only [Act.put,O]
  refine bV 7 rfl (by kernel_rfl) (by kernel_rfl) (by kernel_rfl) (fun _ _ _ h=>h) (by rfl) (by assumption) (v:=?_) ?_ ?_
  rotate_left
  ·(intro wy hSw;go_simp;try with_reducible rfl)
  simp only [Act.put,List.setIfInBounds_toArray,List.set_cons_zero]
  refine dN ?_
  clear hHeld
  go_wp2_with fail
  go_ret
  exact ⟨rfl,HR.out⟩
 ·have hcm2:¬ (c - (m + 1) = 0):=by omega
  have hcl:=hclr (c - m)
  clear hclr
  go_enter Tryz.func121,Tryz.ntmps121
  go_wp2_with fail
  refine wp_region_held_drew (S:=fun _=>True) (by kernel_rfl) (trivial) (fun hHeld=>?_)
  refine dW 0 rfl ?_
  refine dW 1 rfl ?_
  refine dW 2 rfl ?_
  refine dW 3 rfl ?_
  refine dW 4 rfl ?_
  refine dW 5 rfl ?_
  refine dA 6 rfl fun K hK=>?_
  refine am (.tmp 22) (.tmp 25) 178 rfl _ _ _ _ rfl rfl (HRUN.out ⟨g,(m + 1) * 4,none⟩ (c - (m + 1))) ?_
  refine hK.out _ _ trivial (fun hHeld2=>?_)
  clear hK K hHeld hHeld2
  have hHeld:True:=trivial
  try simp only [Act.put,O]
  refine bV 7 rfl (by kernel_rfl) (by kernel_rfl) (by kernel_rfl) (fun _ _ _ h=>h) (by rfl) (by assumption) (v:=?_) ?_ ?_
  rotate_left
  ·(intro wy hSw;go_simp;try with_reducible rfl)
  simp only [Act.put,List.setIfInBounds_toArray,List.set_cons_zero]
  refine dN ?_
  clear hHeld
  go_wp2_with fail
  go_ret
  exact ⟨rfl,HR.out⟩
theorem drawn_three {P:Program} {ops:Array Oper} {Q:Exit → Act → World → Prop} {md:Region.Mode} {S:World → Prop} (i j k:Nat) {d:Option Tmp} {op:Op} {ty:TypeId} {pos:String} {af:Array Edge} {g:Option (Nat × Bool)}
  {d2:Option Tmp} {op2:Op} {ty2:TypeId} {pos2:String} {af2:Array Edge} {g2:Option (Nat × Bool)} {d3:Option Tmp} {op3:Op} {ty3:TypeId} {pos3:String} {af3:Array Edge} {g3:Option (Nat × Bool)} {fuel:Nat} {listed:Array Bool} {a:Act} {w:World}
  (hi:ops[i]? = some ⟨d,op,ty,pos,af,g⟩) (hj:ops[j]? = some ⟨d2,op2,ty2,pos2,af2,g2⟩) (hk:ops[k]? = some ⟨d3,op3,ty3,pos3,af3,g3⟩) (hr:Region.ready md ops listed = [i,j,k])
  (h:∀ K':Act → World → Prop,Shut (∀ a w,S w → (S w → wpAnyH P md ops Q S fuel (listed.setIfInBounds i true) a w) → K' a w) → if Region.wanted ⟨d,op,ty,pos,af,g⟩ (yielded ops a.tmps) = true then Oper.wp P ⟨d,op,ty,pos,af,g⟩ a w K' Q else K' (a.put d undef) w)
  (h2:∀ K':Act → World → Prop,Shut (∀ a w,S w → (S w → wpAnyH P md ops Q S fuel (listed.setIfInBounds j true) a w) → K' a w) → if Region.wanted ⟨d2,op2,ty2,pos2,af2,g2⟩ (yielded ops a.tmps) = true then Oper.wp P ⟨d2,op2,ty2,pos2,af2,g2⟩ a w K' Q else K' (a.put d2 undef) w)
  (h3:∀ K':Act → World → Prop,Shut (∀ a w,S w → (S w → wpAnyH P md ops Q S fuel (listed.setIfInBounds k true) a w) → K' a w) → if Region.wanted ⟨d3,op3,ty3,pos3,af3,g3⟩ (yielded ops a.tmps) = true then Oper.wp P ⟨d3,op3,ty3,pos3,af3,g3⟩ a w K' Q else K' (a.put d3 undef) w) :
  wpAnyH P md ops Q S (fuel + 1) listed a w :=
 wpAnyH_ready hr (by simp) (AllReadyH.cons hi h (AllReadyH.cons hj h2 (AllReadyH.cons hk h3 AllReadyH.nil)))
theorem Stk.closed {w2 w3:World} {F:Nat → Prop} {P:Nat} {s:Ty.T} {vo:Value} {i:List Ty.Fr} {f:Ty.Fr} {g c:Nat} {cur':Array Value} (h:Stk w2 F P s vo (.slice (some ⟨g,0,none⟩) (i.length + 1) c)) (hf:s.frs = i ++ [f])
  (h3:w3.heap[g]? = some (.cells cur' 186 (0,0))) (hsz:∀ cur,w2.heap[g]? = some (.cells cur 186 (0,0)) → cur'.size = cur.size ∧ ∀ j,j < i.length * 4 → cur'[j]? = cur[j]?) (hm:Mod (· = g) w2 w3) :
  w3.cell? ⟨P,1,none⟩ = some (.slice (some ⟨g,0,none⟩) (i.length + 1) c) ∧ w3.frozen? ⟨P,1,none⟩ = false ∧ Stk (w3.setCell ⟨P,1,none⟩ (.slice (some ⟨g,0,none⟩) i.length c)) F P ⟨s.ops,i,s.most⟩ vo (.slice (some ⟨g,0,none⟩) i.length c):=by
 have hne:=h.neF
 have hPg:P ≠ g:=fun e=>hne (by rw [e];rfl)
 have hl:=h.frs
 rw [hf] at hl
 obtain ⟨g',c',cur,cs,e,h2,_,_,h5,_,_,_,h9⟩:=hl.last
 injection e with e1 _ e3
 injection e1 with e1
 injection e1 with e1 _ _
 subst e1 e3
 obtain ⟨q1,q2⟩:=hsz cur h5
 have hd:=(h9 w3 cur' h3 q1 q2 hm (fun k _ hs e=>hs.2.2.2 (by rw [e];rfl))).1
 have hblk:=hm.heap h.blk hPg
 have hS:Mod (· = P) w3 (w3.setCell ⟨P,1,none⟩ (.slice (some ⟨g,0,none⟩) i.length c)):=Mod.setCell (T:=(· = P)) (Mod.refl _ w3) (fun _=>rfl) _
 refine ⟨by rw [cell_of_row w3 P 1 _ _ (0,0) hblk];rfl,frozen_of_row w3 P 1 _ _ hblk,⟨by rw [heap_setCell_same w3 P 1 _ _ _ hblk];rfl,?_,?_,h.inP,h.inO,fun k e=>h.inF k e⟩⟩
 ·exact hS.own (hm.own h.ops (fun k hk e=>h.neOF k hk (by rw [e];rfl))) (fun k hk e=>h.neO (by rw [hk,e]))
 ·exact OwnL.mod hd hS (fun k hk e=>hne (by rw [← e];exact hk)) (fun k _ hs e=>hs.2.1 e)
def ansS (S:Nat → Prop) (o:Option (List UInt8)) (e:Ending) (w':World):Prop :=
 match o with
 | none=>e = .returned (.tuple #[.slice none 0 0,.bool false])
 | some l=>∃ A c,e = .returned (.tuple #[.slice A l.length c,.bool true]) ∧ aa w' S l (.slice A l.length c)
theorem tclose_any {w:World} {F:Nat → Prop} {P:Nat} {s:Ty.T} {vo vf:Value} (h:Stk w F P s vo vf) (hok:s.ok) (h1:s.ops.length ≤ 1000000000) (h2:∀ f ∈ s.frs,f.ends.length ≤ 1000000000) (h3:s.frs.length ≤ 1000000000) :
  Calls Tryz.prog 91 #[.pointer (some ⟨P,0,none⟩)] w fun e w'=>ansS F s.closeA e w' ∧ aG F w P s.close w':=by
 have HS:=J h
 rcases Ty.parts s with hn | ⟨i,f,hf⟩
 ·have HK:Hid (s.close = s ∧ s.closeA = none):=J (by unfold Ty.T.close Ty.T.closeA;rw [Ty.last_nil hn];exact ⟨rfl,rfl⟩)
  have HC:=J (bJ h hn)
  rw [HK.out.1,HK.out.2]
  clear h hok h1 h2 h3 hn
  go_enter Tryz.func91,Tryz.ntmps91
  go_wp2_with (go_at_call 118;refine HC.out.mono ?_;rintro e w1 ⟨rfl,rfl⟩)
  go_ret2
  exact ⟨rfl,HS.out.same (Below.refl _ _)⟩
 ·obtain ⟨g,cf,u,v,rfl,hcf1,hcf2,hFg,hg,hcell,_,hv⟩:=h.inner hf
  have hil:i.length ≤ 1000000000:=by rw [hf] at h3;simp at h3;omega
  have hfh:=Ty.last_h hok hf
  have hel:f.ends.length ≤ 1000000000:=h2 f (by rw [hf];simp)
  have HC:=J (bK h hf hil)
  have hv0:=hv
  obtain ⟨A,c,rfl,_,_,_,hvl⟩:=hv0
  have hA:Has w w.heap.size A f.ends:=hvl.has
  have HG:Hid (∀ W,Below w.heap.size w W → W.cell? ⟨g,i.length * 4 + 1,none⟩ = some (.slice A f.ends.length c) ∧ W.cell? ⟨g,i.length * 4 + 2,none⟩ = some (.int .i64 ↑f.h)):=J (fun W hb=>⟨(hcell W (hb.block g hg)).2.1,(hcell W (hb.block g hg)).2.2.1⟩)
  have hw0:s.wout f.ends = Ty.without s.ops f f.ends:=by unfold Ty.T.wout;rw [Ty.last_of hf]
  have hwo:∀ W,Below w.heap.size w W → Calls Tryz.prog 119 #[.pointer (some ⟨P,0,none⟩),.slice A f.ends.length c] W fun e w'=>e = .returned (woV (Ty.without s.ops f f.ends)) ∧ Below W.heap.size W w':=fun W hb=>by
   have:=dy (h.on hb) hok f.ends A c (hA.on hb) h1 hel h3
   rwa [hw0] at this
  cases hw:Ty.without s.ops f f.ends with
  | none =>
   have HK:Hid (s.close = s ∧ s.closeA = none):=J (by unfold Ty.T.close Ty.T.closeA;rw [Ty.last_of hf];dsimp only;rw [hw];exact ⟨rfl,rfl⟩)
   rw [HK.out.1,HK.out.2]
   rw [hw] at hwo
   have HW:Hid (∀ W,Below w.heap.size w W → Calls Tryz.prog 119 #[.pointer (some ⟨P,0,none⟩),.slice A f.ends.length c] W fun e w'=>e = .returned (.tuple #[.int .i64 0,.bool false]) ∧ Below W.heap.size W w'):=J hwo
   obtain ⟨I,hI⟩:∃ I,i.length * 4 = I:=⟨_,rfl⟩
   rw [hI] at HC HG
   obtain ⟨n,hn⟩:∃ n,f.ends.length = n:=⟨_,rfl⟩
   rw [hn] at HG HW
   clear h hok h1 h2 h3 hf hcf1 hcf2 hFg hg hcell hil hfh hel hA hv hvl hw0 hwo hw hI hn
   go_enter Tryz.func91,Tryz.ntmps91
   go_wp2_with (first | (go_at_call 118;refine HC.out.mono ?_;rintro e w1 ⟨hb,rfl⟩;obtain ⟨q1,q2⟩:=HG.out w1 hb;have HB:=J hb;clear hb) | (go_at_call 119;refine (HW.out _ HB.out).mono ?_;rintro e w2 ⟨rfl,hb⟩;have HB2:=J (HB.out.trans (hb.mono HB.out.size));clear hb q1 q2))
   go_ret2
   exact ⟨rfl,HS.out.same HB2.out⟩
  | some k =>
   rw [hw] at hwo
   have HW:Hid (∀ W,Below w.heap.size w W → Calls Tryz.prog 119 #[.pointer (some ⟨P,0,none⟩),.slice A f.ends.length c] W fun e w'=>e = .returned (.tuple #[.int .i64 ↑k,.bool true]) ∧ Below W.heap.size W w'):=J hwo
   obtain ⟨hk1,hk2⟩:=Ty.without_ge hfh hw
   by_cases hle:k ≤ f.h
   ·have HK:Hid (s.close = ⟨s.ops.take k,i,s.most⟩ ∧ s.closeA = some f.ends):=J (by unfold Ty.T.close Ty.T.closeA;rw [Ty.last_of hf];dsimp only;rw [hw];dsimp only;rw [if_pos hle,if_pos hle,hf];exact ⟨by simp,rfl⟩)
    have HL:Hid (∀ W,Below w.heap.size w W → Calls Tryz.prog 120 #[.pointer (some ⟨P,0,none⟩),.int .i64 ↑k] W fun e w'=>e = .returned (.tuple #[]) ∧ ∃ vo',Stk w' F P (s.cutTo k) vo' (.slice (some ⟨g,0,none⟩) (i.length + 1) cf) ∧ Mod (· = P) W w'):=J (fun W hb=>cd (h.on hb) k hk2)
    have HD:Hid (∀ W vo',Stk W F P (s.cutTo k) vo' (.slice (some ⟨g,0,none⟩) (i.length + 1) cf) → W.cell? ⟨P,1,none⟩ = some (.slice (some ⟨g,0,none⟩) (i.length + 1) cf) ∧ Calls Tryz.prog 121 #[.slice (some ⟨g,0,none⟩) (i.length + 1) cf,.int .i64 ↑i.length,.int .i64 ((i.length:Int) + 1)] W.drew fun e w'=>e = .returned (.slice (some ⟨g,0,none⟩) i.length cf) ∧
      w'.cell? ⟨P,1,none⟩ = some (.slice (some ⟨g,0,none⟩) (i.length + 1) cf) ∧ w'.frozen? ⟨P,1,none⟩ = false ∧ Stk (w'.setCell ⟨P,1,none⟩ (.slice (some ⟨g,0,none⟩) i.length cf)) F P ⟨s.ops.take k,i,s.most⟩ vo' (.slice (some ⟨g,0,none⟩) i.length cf) ∧ Mod (fun k=>k = P ∨ k = g) W (w'.setCell ⟨P,1,none⟩ (.slice (some ⟨g,0,none⟩) i.length cf))):=J (fun W vo' hs=>by
     refine ⟨hs.cell1,?_⟩
     have hl:=hs.frs
     rw [show (s.cutTo k).frs = i ++ [f] from hf] at hl
     obtain ⟨g',c',cur,cs,e,_,_,_,h5,h6,_,_,_⟩:=hl.last
     injection e with e1 _ e3
     injection e1 with e1
     injection e1 with e1 _ _
     subst e1 e3
     refine (tdelete_any g i.length cf cur W.drew h5 h6 hcf1 hcf2 hil).mono ?_
     rintro e w' ⟨rfl,cur',r1,r2,r3,r4⟩
     have r5:Mod (· = g) W w':=((Mod.refl (· = g) W).drew).trans r4 (fun _ _ h=>h)
     obtain ⟨t1,t2,t3⟩:=hs.closed (show (s.cutTo k).frs = i ++ [f] from hf) r1 (fun cur2 hc=>by
      rw [h5] at hc
      injection hc with hc
      injection hc with hc _
      subst hc
      exact ⟨r2,r3⟩) r5
     exact ⟨rfl,t1,t2,t3,(r5.more (T':=fun k=>k = P ∨ k = g) (fun k _ e=>.inr e)).setCell (fun _=>.inl rfl) _⟩)
    have HEND:Hid (∀ W,Mod (fun k=>k = P ∨ k = g) w W → aa W F f.ends (.slice A f.ends.length c)):=J (fun W hm=>(hv.mod hm (fun k _ hs e=>by
      rcases e with e | e
      ·exact hs.2.1 e
      ·exact hs.2.2.2 (by rw [e];rfl))).more (fun k _ hs=>hs.1))
    have HFG:Hid (F g ∧ P < w.heap.size ∧ g < w.heap.size):=J ⟨hFg,h.lt,hg⟩
    obtain ⟨I,hI⟩:∃ I,i.length * 4 = I:=⟨_,rfl⟩
    rw [hI] at HC HG
    obtain ⟨n,hn⟩:∃ n,f.ends.length = n:=⟨_,rfl⟩
    rw [hn] at HG HW
    have HN:=J hn
    obtain ⟨m,hm⟩:∃ m,i.length = m:=⟨_,rfl⟩
    rw [hm] at HL HD
    have hml:m ≤ 1000000000:=by omega
    rw [HK.out.1,HK.out.2]
    have hle2:¬ ((f.h:Int) < (k:Int)):=by omega
    have hle3:decide ((f.h:Int) < (k:Int)) = false:=decide_eq_false hle2
    have hle4:decide (f.h < k) = false:=decide_eq_false (by omega)
    generalize f.h = fh at *
    clear h hok h1 h2 h3 hf hcf1 hcf2 hFg hg hcell hil hfh hel hA hv hvl hw0 hwo hw hI hn hm hle hk1 hk2 hle2
    go_enter Tryz.func91,Tryz.ntmps91
    go_upto_region 9 with (first | (go_at_call 118;refine HC.out.mono ?_;rintro e w1 ⟨hb,rfl⟩;obtain ⟨q1,q2⟩:=HG.out w1 hb;have HB:=J hb;clear hb) | (go_at_call 119;refine (HW.out _ HB.out).mono ?_;rintro e w2 ⟨rfl,hb⟩;have HB2:=J (HB.out.trans (hb.mono HB.out.size));clear hb q1 q2;obtain ⟨q1,q2⟩:=HG.out w2 HB2.out) | (go_at_call 120;refine (HL.out _ HB2.out).mono ?_;rintro e w3 ⟨rfl,vo3,hs,hm⟩;have HS3:=J hs;have HM3:=J hm;clear hs hm q1 q2))
    obtain ⟨hd1,hd2⟩:=HD.out w3 vo3 HS3.out
    have HL1:=J hd1
    have HDL:=J hd2
    clear hd1 hd2
    refine wp_region_held_drew (S:=fun _=>True) (by kernel_rfl) (trivial) (fun hHeld=>?_)
    refine dW 0 rfl ?_
    refine dW 1 rfl ?_
    refine dW 2 rfl ?_
    refine dW 3 rfl ?_
    refine dW 5 rfl ?_
    refine dW 6 rfl ?_
    refine dW 7 rfl ?_
    refine dW 11 rfl ?_
    refine dW 12 rfl ?_
    refine dW 13 rfl ?_
    refine drawn_three 4 8 14 rfl rfl rfl (by kernel_rfl) (fun K hK=>?_) (fun K hK=>?_) (fun K hK=>?_)
    ·have hl:w3.drew.cell? ⟨P,1,none⟩ = some (.slice (some ⟨g,0,none⟩) (m + 1) cf):=HL1.out
     go_simp
     clear hl
     refine hK.out _ _ trivial (fun hHeld2=>?_)
     clear hK K hHeld hHeld2
     have hHeld:True:=trivial
     refine ai 8 14 rfl rfl (by kernel_rfl) (fun K hK=>?_) (fun K hK=>?_)
     ·have hl:w3.drew.cell? ⟨P,1,none⟩ = some (.slice (some ⟨g,0,none⟩) (m + 1) cf):=HL1.out
      go_simp
      clear hl
      refine hK.out _ _ trivial (fun hHeld2=>?_)
      clear hK K hHeld hHeld2
      have hHeld:True:=trivial
      refine dW 9 rfl ?_
      refine dW 10 rfl ?_
      refine ac 14 rfl (by kernel_rfl) (fun K hK=>?_)
      have hl:w3.drew.cell? ⟨P,1,none⟩ = some (.slice (some ⟨g,0,none⟩) (m + 1) cf):=HL1.out
      go_simp
      clear hl
      refine hK.out _ _ trivial (fun hHeld2=>?_)
      clear hK K hHeld hHeld2
      have hHeld:True:=trivial
      refine dW 15 rfl ?_
      refine ac 16 rfl (by kernel_rfl) (fun K hK=>?_)
      go_simp
      rw [show IntKind.i64.wrap (m:Int) = (m:Int) from IntWalk.i64_in _ (by omega)]
      refine HDL.out.mono ?_
      rintro e w4 ⟨rfl,hc4,hf4,hs4,hm4⟩
      have HC4:=J hc4
      have HF4:=J hf4
      have HS4:=J hs4
      have HM4:=J hm4
      clear hc4 hf4 hs4 hm4
      go_wp2_with fail
      refine hK.out _ _ trivial (fun hHeld2=>?_)
      clear hK K hHeld hHeld2
      have hHeld:True:=trivial
      refine dW 17 rfl ?_
      refine dW 18 rfl ?_
      refine ac 19 rfl (by kernel_rfl) (fun K hK=>?_)
      have hl:=HC4.out
      have gl:=HF4.out
      go_simp
      clear hl gl
      refine hK.out _ _ trivial (fun hHeld2=>?_)
      clear hK K hHeld hHeld2
      have hHeld:True:=trivial
      refine dN ?_
      clear hHeld
      go_wp2_with fail
      go_ret2
      have hp:=HFG.out
      have hMM:Mod (fun k=>k = P ∨ k = g) w (w4.setCell ⟨P,1,none⟩ (.slice (some ⟨g,0,none⟩) m cf)):=((Mod.of_below (T:=fun k=>k = P ∨ k = g) HB2.out).trans HM3.out (fun k _ e=>.inl e)).trans HM4.out (fun _ _ h=>h)
      exact ⟨⟨A,c,by rw [HN.out];rfl,HEND.out _ hMM⟩,aG.of HS4.out (hMM.more (fun k _ e=>by rcases e with e | e <;> rw [e] <;> first | exact HS.out.inP | exact hp.1))⟩
     ·have hl:w3.drew.cell? ⟨P,1,none⟩ = some (.slice (some ⟨g,0,none⟩) (m + 1) cf):=HL1.out
      go_simp
      clear hl
      refine hK.out _ _ trivial (fun hHeld2=>?_)
      clear hK K hHeld hHeld2
      have hHeld:True:=trivial
      refine dW 15 rfl ?_
      refine ac 8 rfl (by kernel_rfl) (fun K hK=>?_)
      have hl:w3.drew.cell? ⟨P,1,none⟩ = some (.slice (some ⟨g,0,none⟩) (m + 1) cf):=HL1.out
      go_simp
      clear hl
      refine hK.out _ _ trivial (fun hHeld2=>?_)
      clear hK K hHeld hHeld2
      have hHeld:True:=trivial
      refine dW 9 rfl ?_
      refine dW 10 rfl ?_
      refine ac 16 rfl (by kernel_rfl) (fun K hK=>?_)
      go_simp
      rw [show IntKind.i64.wrap (m:Int) = (m:Int) from IntWalk.i64_in _ (by omega)]
      refine HDL.out.mono ?_
      rintro e w4 ⟨rfl,hc4,hf4,hs4,hm4⟩
      have HC4:=J hc4
      have HF4:=J hf4
      have HS4:=J hs4
      have HM4:=J hm4
      clear hc4 hf4 hs4 hm4
      go_wp2_with fail
      refine hK.out _ _ trivial (fun hHeld2=>?_)
      clear hK K hHeld hHeld2
      have hHeld:True:=trivial
      refine dW 17 rfl ?_
      refine dW 18 rfl ?_
      refine ac 19 rfl (by kernel_rfl) (fun K hK=>?_)
      have hl:=HC4.out
      have gl:=HF4.out
      go_simp
      clear hl gl
      refine hK.out _ _ trivial (fun hHeld2=>?_)
      clear hK K hHeld hHeld2
      have hHeld:True:=trivial
      refine dN ?_
      clear hHeld
      go_wp2_with fail
      go_ret2
      have hp:=HFG.out
      have hMM:Mod (fun k=>k = P ∨ k = g) w (w4.setCell ⟨P,1,none⟩ (.slice (some ⟨g,0,none⟩) m cf)):=((Mod.of_below (T:=fun k=>k = P ∨ k = g) HB2.out).trans HM3.out (fun k _ e=>.inl e)).trans HM4.out (fun _ _ h=>h)
      exact ⟨⟨A,c,by rw [HN.out];rfl,HEND.out _ hMM⟩,aG.of HS4.out (hMM.more (fun k _ e=>by rcases e with e | e <;> rw [e] <;> first | exact HS.out.inP | exact hp.1))⟩
    ·have hl:w3.drew.cell? ⟨P,1,none⟩ = some (.slice (some ⟨g,0,none⟩) (m + 1) cf):=HL1.out
     go_simp
     clear hl
     refine hK.out _ _ trivial (fun hHeld2=>?_)
     clear hK K hHeld hHeld2
     have hHeld:True:=trivial
     refine dW 9 rfl ?_
     refine dW 10 rfl ?_
     refine ai 4 14 rfl rfl (by kernel_rfl) (fun K hK=>?_) (fun K hK=>?_)
     ·have hl:w3.drew.cell? ⟨P,1,none⟩ = some (.slice (some ⟨g,0,none⟩) (m + 1) cf):=HL1.out
      go_simp
      clear hl
      refine hK.out _ _ trivial (fun hHeld2=>?_)
      clear hK K hHeld hHeld2
      have hHeld:True:=trivial
      refine ac 14 rfl (by kernel_rfl) (fun K hK=>?_)
      have hl:w3.drew.cell? ⟨P,1,none⟩ = some (.slice (some ⟨g,0,none⟩) (m + 1) cf):=HL1.out
      go_simp
      clear hl
      refine hK.out _ _ trivial (fun hHeld2=>?_)
      clear hK K hHeld hHeld2
      have hHeld:True:=trivial
      refine dW 15 rfl ?_
      refine ac 16 rfl (by kernel_rfl) (fun K hK=>?_)
      go_simp
      rw [show IntKind.i64.wrap (m:Int) = (m:Int) from IntWalk.i64_in _ (by omega)]
      refine HDL.out.mono ?_
      rintro e w4 ⟨rfl,hc4,hf4,hs4,hm4⟩
      have HC4:=J hc4
      have HF4:=J hf4
      have HS4:=J hs4
      have HM4:=J hm4
      clear hc4 hf4 hs4 hm4
      go_wp2_with fail
      refine hK.out _ _ trivial (fun hHeld2=>?_)
      clear hK K hHeld hHeld2
      have hHeld:True:=trivial
      refine dW 17 rfl ?_
      refine dW 18 rfl ?_
      refine ac 19 rfl (by kernel_rfl) (fun K hK=>?_)
      have hl:=HC4.out
      have gl:=HF4.out
      go_simp
      clear hl gl
      refine hK.out _ _ trivial (fun hHeld2=>?_)
      clear hK K hHeld hHeld2
      have hHeld:True:=trivial
      refine dN ?_
      clear hHeld
      go_wp2_with fail
      go_ret2
      have hp:=HFG.out
      have hMM:Mod (fun k=>k = P ∨ k = g) w (w4.setCell ⟨P,1,none⟩ (.slice (some ⟨g,0,none⟩) m cf)):=((Mod.of_below (T:=fun k=>k = P ∨ k = g) HB2.out).trans HM3.out (fun k _ e=>.inl e)).trans HM4.out (fun _ _ h=>h)
      exact ⟨⟨A,c,by rw [HN.out];rfl,HEND.out _ hMM⟩,aG.of HS4.out (hMM.more (fun k _ e=>by rcases e with e | e <;> rw [e] <;> first | exact HS.out.inP | exact hp.1))⟩
     ·have hl:w3.drew.cell? ⟨P,1,none⟩ = some (.slice (some ⟨g,0,none⟩) (m + 1) cf):=HL1.out
      go_simp
      clear hl
      refine hK.out _ _ trivial (fun hHeld2=>?_)
      clear hK K hHeld hHeld2
      have hHeld:True:=trivial
      refine dW 15 rfl ?_
      refine ac 4 rfl (by kernel_rfl) (fun K hK=>?_)
      have hl:w3.drew.cell? ⟨P,1,none⟩ = some (.slice (some ⟨g,0,none⟩) (m + 1) cf):=HL1.out
      go_simp
      clear hl
      refine hK.out _ _ trivial (fun hHeld2=>?_)
      clear hK K hHeld hHeld2
      have hHeld:True:=trivial
      refine ac 16 rfl (by kernel_rfl) (fun K hK=>?_)
      go_simp
      rw [show IntKind.i64.wrap (m:Int) = (m:Int) from IntWalk.i64_in _ (by omega)]
      refine HDL.out.mono ?_
      rintro e w4 ⟨rfl,hc4,hf4,hs4,hm4⟩
      have HC4:=J hc4
      have HF4:=J hf4
      have HS4:=J hs4
      have HM4:=J hm4
      clear hc4 hf4 hs4 hm4
      go_wp2_with fail
      refine hK.out _ _ trivial (fun hHeld2=>?_)
      clear hK K hHeld hHeld2
      have hHeld:True:=trivial
      refine dW 17 rfl ?_
      refine dW 18 rfl ?_
      refine ac 19 rfl (by kernel_rfl) (fun K hK=>?_)
      have hl:=HC4.out
      have gl:=HF4.out
      go_simp
      clear hl gl
      refine hK.out _ _ trivial (fun hHeld2=>?_)
      clear hK K hHeld hHeld2
      have hHeld:True:=trivial
      refine dN ?_
      clear hHeld
      go_wp2_with fail
      go_ret2
      have hp:=HFG.out
      have hMM:Mod (fun k=>k = P ∨ k = g) w (w4.setCell ⟨P,1,none⟩ (.slice (some ⟨g,0,none⟩) m cf)):=((Mod.of_below (T:=fun k=>k = P ∨ k = g) HB2.out).trans HM3.out (fun k _ e=>.inl e)).trans HM4.out (fun _ _ h=>h)
      exact ⟨⟨A,c,by rw [HN.out];rfl,HEND.out _ hMM⟩,aG.of HS4.out (hMM.more (fun k _ e=>by rcases e with e | e <;> rw [e] <;> first | exact HS.out.inP | exact hp.1))⟩
    ·have hl:w3.drew.cell? ⟨P,1,none⟩ = some (.slice (some ⟨g,0,none⟩) (m + 1) cf):=HL1.out
     go_simp
     clear hl
     refine hK.out _ _ trivial (fun hHeld2=>?_)
     clear hK K hHeld hHeld2
     have hHeld:True:=trivial
     refine dW 15 rfl ?_
     refine ai 4 8 rfl rfl (by kernel_rfl) (fun K hK=>?_) (fun K hK=>?_)
     ·have hl:w3.drew.cell? ⟨P,1,none⟩ = some (.slice (some ⟨g,0,none⟩) (m + 1) cf):=HL1.out
      go_simp
      clear hl
      refine hK.out _ _ trivial (fun hHeld2=>?_)
      clear hK K hHeld hHeld2
      have hHeld:True:=trivial
      refine ac 8 rfl (by kernel_rfl) (fun K hK=>?_)
      have hl:w3.drew.cell? ⟨P,1,none⟩ = some (.slice (some ⟨g,0,none⟩) (m + 1) cf):=HL1.out
      go_simp
      clear hl
      refine hK.out _ _ trivial (fun hHeld2=>?_)
      clear hK K hHeld hHeld2
      have hHeld:True:=trivial
      refine dW 9 rfl ?_
      refine dW 10 rfl ?_
      refine ac 16 rfl (by kernel_rfl) (fun K hK=>?_)
      go_simp
      rw [show IntKind.i64.wrap (m:Int) = (m:Int) from IntWalk.i64_in _ (by omega)]
      refine HDL.out.mono ?_
      rintro e w4 ⟨rfl,hc4,hf4,hs4,hm4⟩
      have HC4:=J hc4
      have HF4:=J hf4
      have HS4:=J hs4
      have HM4:=J hm4
      clear hc4 hf4 hs4 hm4
      go_wp2_with fail
      refine hK.out _ _ trivial (fun hHeld2=>?_)
      clear hK K hHeld hHeld2
      have hHeld:True:=trivial
      refine dW 17 rfl ?_
      refine dW 18 rfl ?_
      refine ac 19 rfl (by kernel_rfl) (fun K hK=>?_)
      have hl:=HC4.out
      have gl:=HF4.out
      go_simp
      clear hl gl
      refine hK.out _ _ trivial (fun hHeld2=>?_)
      clear hK K hHeld hHeld2
      have hHeld:True:=trivial
      refine dN ?_
      clear hHeld
      go_wp2_with fail
      go_ret2
      have hp:=HFG.out
      have hMM:Mod (fun k=>k = P ∨ k = g) w (w4.setCell ⟨P,1,none⟩ (.slice (some ⟨g,0,none⟩) m cf)):=((Mod.of_below (T:=fun k=>k = P ∨ k = g) HB2.out).trans HM3.out (fun k _ e=>.inl e)).trans HM4.out (fun _ _ h=>h)
      exact ⟨⟨A,c,by rw [HN.out];rfl,HEND.out _ hMM⟩,aG.of HS4.out (hMM.more (fun k _ e=>by rcases e with e | e <;> rw [e] <;> first | exact HS.out.inP | exact hp.1))⟩
     ·have hl:w3.drew.cell? ⟨P,1,none⟩ = some (.slice (some ⟨g,0,none⟩) (m + 1) cf):=HL1.out
      go_simp
      clear hl
      refine hK.out _ _ trivial (fun hHeld2=>?_)
      clear hK K hHeld hHeld2
      have hHeld:True:=trivial
      refine dW 9 rfl ?_
      refine dW 10 rfl ?_
      refine ac 4 rfl (by kernel_rfl) (fun K hK=>?_)
      have hl:w3.drew.cell? ⟨P,1,none⟩ = some (.slice (some ⟨g,0,none⟩) (m + 1) cf):=HL1.out
      go_simp
      clear hl
      refine hK.out _ _ trivial (fun hHeld2=>?_)
      clear hK K hHeld hHeld2
      have hHeld:True:=trivial
      refine ac 16 rfl (by kernel_rfl) (fun K hK=>?_)
      go_simp
      rw [show IntKind.i64.wrap (m:Int) = (m:Int) from IntWalk.i64_in _ (by omega)]
      refine HDL.out.mono ?_
      rintro e w4 ⟨rfl,hc4,hf4,hs4,hm4⟩
      have HC4:=J hc4
      have HF4:=J hf4
      have HS4:=J hs4
      have HM4:=J hm4
      clear hc4 hf4 hs4 hm4
      go_wp2_with fail
      refine hK.out _ _ trivial (fun hHeld2=>?_)
      clear hK K hHeld hHeld2
      have hHeld:True:=trivial
      refine dW 17 rfl ?_
      refine dW 18 rfl ?_
      refine ac 19 rfl (by kernel_rfl) (fun K hK=>?_)
      have hl:=HC4.out
      have gl:=HF4.out
      go_simp
      clear hl gl
      refine hK.out _ _ trivial (fun hHeld2=>?_)
      clear hK K hHeld hHeld2
      have hHeld:True:=trivial
      refine dN ?_
      clear hHeld
      go_wp2_with fail
      go_ret2
      have hp:=HFG.out
      have hMM:Mod (fun k=>k = P ∨ k = g) w (w4.setCell ⟨P,1,none⟩ (.slice (some ⟨g,0,none⟩) m cf)):=((Mod.of_below (T:=fun k=>k = P ∨ k = g) HB2.out).trans HM3.out (fun k _ e=>.inl e)).trans HM4.out (fun _ _ h=>h)
      exact ⟨⟨A,c,by rw [HN.out];rfl,HEND.out _ hMM⟩,aG.of HS4.out (hMM.more (fun k _ e=>by rcases e with e | e <;> rw [e] <;> first | exact HS.out.inP | exact hp.1))⟩
   ·have HK:Hid (s.close = s ∧ s.closeA = none):=J (by unfold Ty.T.close Ty.T.closeA;rw [Ty.last_of hf];dsimp only;rw [hw];dsimp only;rw [if_neg hle,if_neg hle];exact ⟨rfl,rfl⟩)
    rw [HK.out.1,HK.out.2]
    obtain ⟨I,hI⟩:∃ I,i.length * 4 = I:=⟨_,rfl⟩
    rw [hI] at HC HG
    obtain ⟨n,hn⟩:∃ n,f.ends.length = n:=⟨_,rfl⟩
    rw [hn] at HG HW
    have hle2:(f.h:Int) < (k:Int):=by omega
    have hle3:f.h < k:=by omega
    generalize f.h = fh at *
    clear h hok h1 h2 h3 hf hcf1 hcf2 hFg hg hcell hil hfh hel hA hv hvl hw0 hwo hw hI hn hle hk1 hk2
    go_enter Tryz.func91,Tryz.ntmps91
    go_wp2_with (first | (go_at_call 118;refine HC.out.mono ?_;rintro e w1 ⟨hb,rfl⟩;obtain ⟨q1,q2⟩:=HG.out w1 hb;have HB:=J hb;clear hb) | (go_at_call 119;refine (HW.out _ HB.out).mono ?_;rintro e w2 ⟨rfl,hb⟩;have HB2:=J (HB.out.trans (hb.mono HB.out.size));clear hb q1 q2;obtain ⟨q1,q2⟩:=HG.out w2 HB2.out))
    go_ret2
    exact ⟨rfl,HS.out.same HB2.out⟩
theorem Stk.labelAt {w:World} {F:Nat → Prop} {P:Nat} {s:Ty.T} {vo vf:Value} (h:Stk w F P s vo vf) (k:Nat) (f:Ty.Fr) (hk:s.frs[k]? = some f) :
  ∃ g c u,vf = .slice (some ⟨g,0,none⟩) s.frs.length c ∧ (∀ W,Below w.heap.size w W → W.cell? ⟨g,k * 4,none⟩ = some u) ∧ ∀ W,Below w.heap.size w W → aa W (· < W.heap.size) f.label u:=by
 have hkl:=(List.getElem?_eq_some_iff.1 hk).1
 obtain ⟨A,c,rfl,_,_,_,hL⟩:=h.frs.tell (fun _ _=>Nat.zero_le _)
 obtain ⟨g,o,cs,rfl,_,hg,⟨u,v,rfl,h1,_⟩,hc⟩:=hL k f hk
 have ho:o = 0:=by
  obtain ⟨ys,_,hy,_⟩:=h.frs
  obtain ⟨g',c',e,_⟩:=cI hy (by omega)
  injection e with e _ _
  injection e with e
  injection e with _ e _
 subst ho
 refine ⟨g,c,u,rfl,fun W hW=>?_,fun W hW=>?_⟩
 ·have h0:=hW.cell (p:=⟨g,0 + k * Lay.size Ty.Fr + 0,none⟩) hg
  have h2:=h0.trans (hc 0 u rfl)
  have e:0 + k * Lay.size Ty.Fr + 0 = k * 4:=by show 0 + k * 4 + 0 = k * 4;omega
  rwa [e] at h2
 ·exact (h1.more (S':=(· < w.heap.size)) (fun k hk _=>hk)).grow hW
theorem tlabel_any {w:World} {F:Nat → Prop} {P:Nat} {s:Ty.T} {vo vf:Value} (h:Stk w F P s vo vf) (n:Nat) (hn:n < 4294967296) (h2:∀ f ∈ s.frs,f.label.length ≤ 1000000000) (h3:s.frs.length ≤ 1000000000) :
  Calls Tryz.prog 132 #[.pointer (some ⟨P,0,none⟩),.int .u32 ↑n] w fun e w'=>ansS (w.heap.size ≤ ·) (s.labelA n) e w' ∧ Below w.heap.size w w':=by
 have HC:=J (cw h)
 by_cases hlt:n < s.frs.length
 ·have hrev:s.frs.reverse[n]? = s.frs[s.frs.length - 1 - n]?:=by rw [List.getElem?_reverse hlt]
  obtain ⟨f,hf⟩:∃ f,s.frs[s.frs.length - 1 - n]? = some f:=⟨_,List.getElem?_eq_getElem (by omega)⟩
  have HA:Hid (s.labelA n = some f.label):=J (by unfold Ty.T.labelA;rw [hrev,hf];rfl)
  rw [HA.out]
  obtain ⟨g,c,u,rfl,hc,hsl⟩:=h.labelAt _ f hf
  have hfl:=h2 f (List.mem_of_getElem? hf)
  have HCL:Hid (∀ W,Below w.heap.size w W → Calls Tryz.prog 69 #[u] W fun e w'=>∃ A c,e = .returned (.slice A f.label.length c) ∧ aa w' (W.heap.size ≤ ·) f.label (.slice A f.label.length c) ∧ Below W.heap.size W w'):=J (fun W hW=>cZ f.label u W (hsl W hW) hfl)
  obtain ⟨m,hm⟩:∃ m,s.frs.length = m:=⟨_,rfl⟩
  have HCELL:Hid (∀ W,Below w.heap.size w W → W.cell? ⟨P,1,none⟩ = some (.slice (some ⟨g,0,none⟩) m c) ∧ W.cell? ⟨g,(m - 1 - n) * 4,none⟩ = some u):=J (fun W hW=>⟨by rw [← hm];exact (h.on hW).cell1,by rw [← hm];exact hc W hW⟩)
  obtain ⟨A,c1,rfl,_⟩:=hsl w (Below.refl _ _)
  obtain ⟨fl,hfl'⟩:∃ x,f.label.length = x:=⟨_,rfl⟩
  rw [hfl'] at HCL HCELL
  have HFL:=J hfl'
  rw [hm] at hlt h3 HC
  clear h hrev hf h2 hc hsl hfl hm hfl'
  have e1:IntKind.u64.wrap (n:Int) = (n:Int):=IntWalk.u64_in _ (by omega)
  have e2:IntKind.u64.wrap (m:Int) = (m:Int):=IntWalk.u64_in _ (by omega)
  have e3:IntKind.i64.wrap (n:Int) = (n:Int):=IntWalk.i64_in _ (by omega)
  have e4:(n:Int) < (m:Int):=by omega
  have e5:decide ((m:Int) ≤ (n:Int)) = false:=decide_eq_false (by omega)
  have e6:decide (m ≤ n) = false:=decide_eq_false (by omega)
  have HB0:Hid (Below w.heap.size w w.drew):=J (Below.drew (Below.refl _ _))
  go_enter Tryz.func132,Tryz.ntmps132
  go_upto_region 3 with (go_at_call 139;refine HC.out.mono ?_;rintro e w1 ⟨hw1,rfl⟩;obtain rfl:w = w1:=hw1.symm)
  clear e1 e2 e5 e6
  have e7:IntKind.i64.wrap ((m:Int) - 1) = (m:Int) - 1:=IntWalk.i64_in _ (by omega)
  have e8:IntKind.i64.wrap ((m:Int) - 1 - (n:Int)) = ((m - 1 - n:Nat):Int):=by rw [IntWalk.i64_in _ (by omega)];omega
  have e9:m - 1 - n < m:=by omega
  refine wp_region_held_drew (S:=fun W'=>Below w.heap.size w W') (by kernel_rfl) (HB0.out) (fun hHeld=>?_)
  refine dm1 0 rfl ?_
  refine dm1 1 rfl ?_
  refine dm1 2 rfl ?_
  refine dm1 3 rfl ?_
  refine dm1 4 rfl ?_
  refine dm1 5 rfl ?_
  refine dm1 6 rfl ?_
  refine dm1 7 rfl ?_
  refine dm1 8 rfl ?_
  refine dm1 9 rfl ?_
  refine dm1 10 rfl ?_
  refine dm1 11 rfl ?_
  refine dm1 12 rfl ?_
  refine dm1 13 rfl ?_
  refine dm1 14 rfl ?_
  refine dm1 15 rfl ?_
  refine ac 16 rfl (by kernel_rfl) (fun K hK=>?_)
  go_simp
  refine (HCL.out _ HB0.out).mono ?_
  rintro e w1 ⟨A1,d1,rfl,hs1,hb⟩
  have HB1:Hid (Below w.heap.size w w1):=J (HB0.out.trans (hb.mono HB0.out.size))
  have HS1:=J hs1
  clear hs1 hb
  go_wp2_with fail
  refine hK.out _ _ HB1.out fun hHeld=>?_
  clear hK K
  refine dW 17 rfl ?_
  refine dW 18 rfl ?_
  refine dN ?_
  clear hHeld
  go_wp2_with fail
  go_ret2
  refine ⟨⟨A1,d1,by rw [HFL.out];rfl,?_⟩,HB1.out⟩
  rw [HFL.out]
  exact HS1.out
 ·have HA:Hid (s.labelA n = none):=J (by unfold Ty.T.labelA;rw [List.getElem?_eq_none (by simp;omega)];rfl)
  rw [HA.out]
  obtain ⟨m,hm⟩:∃ m,s.frs.length = m:=⟨_,rfl⟩
  rw [hm] at hlt h3 HC
  clear h h2 hm
  have e1:IntKind.u64.wrap (n:Int) = (n:Int):=IntWalk.u64_in _ (by omega)
  have e2:IntKind.u64.wrap (m:Int) = (m:Int):=IntWalk.u64_in _ (by omega)
  have e4:(m:Int) ≤ (n:Int):=by omega
  have e5:m ≤ n:=by omega
  go_enter Tryz.func132,Tryz.ntmps132
  go_wp2_with (go_at_call 139;refine HC.out.mono ?_;rintro e w1 ⟨hw1,rfl⟩;obtain rfl:w = w1:=hw1.symm)
  go_ret2
  exact ⟨rfl,Below.refl _ _⟩
end Go.Proofs.YtmpelmihdpomjaaGreat
namespace Ty
def T.sm (s:T) (n:Nat):Prop:=s.ops.length ≤ n ∧ s.most ≤ n ∧ s.frs.length ≤ n ∧ ∀ f ∈ s.frs,f.label.length ≤ n ∧ f.ends.length ≤ n
theorem sm_cut {s:T} {n:Nat} (h:s.sm n) (k:Nat):(s.cutTo k).sm n:=⟨by have:=h.1;simp [T.cutTo];omega,h.2.1,h.2.2.1,h.2.2.2⟩
theorem sm_pop {s:T} {n:Nat} (h:s.sm n):s.pop.sm n:=by
 unfold T.pop
 cases s.last with
 | none=>exact h
 | some f =>
  dsimp only
  split
  ·exact h
  ·exact ⟨by have:=h.1;simp;omega,h.2.1,h.2.2.1,h.2.2.2⟩
theorem sm_want {s:T} {n:Nat} (h:s.sm n) (l:List UInt8):(s.want l).sm n:=by
 unfold T.want
 cases s.wout l with
 | none=>exact h
 | some k=>exact sm_cut h k
theorem sm_close {s:T} {n:Nat} (h:s.sm n):s.close.sm n:=by
 unfold T.close
 cases s.last with
 | none=>exact h
 | some f =>
  dsimp only
  cases without s.ops f f.ends with
  | none=>exact h
  | some k =>
   dsimp only
   split
   ·exact ⟨by have:=h.1;simp;omega,h.2.1,by have:=h.2.2.1;simp;omega,fun g hg=>h.2.2.2 g ((List.dropLast_sublist _).subset hg)⟩
   ·exact h
end Ty
namespace Go.Proofs.YtmpelmihdpomjaaGreat
open Go.RowKit Ins Bin
def AtF (w:World) (F:Nat → Prop) (P:Nat) (s:Ty.T):Prop:=(∃ vo vf,Stk w F P s vo vf) ∧ s.ok ∧ ∀ k,F k → k < w.heap.size
def Nxt (F:Nat → Prop) (w:World) (F':Nat → Prop) (w':World):Prop:=(∀ k,F' k → F k ∨ w.heap.size ≤ k) ∧ Mod F w w'
theorem aG.at {F:Nat → Prop} {w w':World} {P:Nat} {s':Ty.T} (h:aG F w P s' w') (hok:s'.ok):∃ F',AtF w' F' P s' ∧ Nxt F w F' w':=by
 obtain ⟨F',vo,vf,h1,h2,h3⟩:=h
 have hO:=own_lt h1.ops
 have hF:=h1.frs.lt
 refine ⟨fun k=>F' k ∧ k < w'.heap.size,⟨⟨vo,vf,⟨h1.blk,h1.ops,h1.frs.more (fun k hk hs=>⟨⟨hs.1,hk⟩,hs.2⟩),⟨h1.inP,h1.lt⟩,fun k e=>⟨h1.inO k e,hO k e⟩,fun k e=>⟨h1.inF k e,(hF k e).2⟩⟩⟩,hok,fun k hk=>hk.2⟩,fun k hk=>h2 k hk.1,h3⟩
theorem AtF.on {w w':World} {F:Nat → Prop} {P:Nat} {s:Ty.T} (h:AtF w F P s) (hb:Below w.heap.size w w'):AtF w' F P s:=by
 obtain ⟨⟨vo,vf,h1⟩,h2,h3⟩:=h
 exact ⟨⟨vo,vf,h1.on hb⟩,h2,fun k hk=>Nat.lt_of_lt_of_le (h3 k hk) hb.size⟩
theorem AtF.mod {w w':World} {F T:Nat → Prop} {P:Nat} {s:Ty.T} (h:AtF w F P s) (hm:Mod T w w') (ht:∀ k,F k → ¬ T k):AtF w' F P s:=by
 obtain ⟨⟨vo,vf,h1⟩,h2,h3⟩:=h
 exact ⟨⟨vo,vf,h1.mod hm (fun k _ hk=>ht k hk)⟩,h2,fun k hk=>Nat.lt_of_lt_of_le (h3 k hk) hm.size⟩
section
variable {w:World} {F:Nat → Prop} {P n:Nat} {s:Ty.T}
theorem at_push (h:AtF w F P s) (hs:s.sm n) (hn:n ≤ 500000000) (l:List UInt8) (A:Option Addr) (c:Nat) (hA:Has w w.heap.size A l) (hl:l.length ≤ 400000000) :
  Calls Tryz.prog 131 #[.pointer (some ⟨P,0,none⟩),.slice A l.length c] w fun e w'=>e = .returned (.tuple #[]) ∧ ∃ F',AtF w' F' P (s.push l) ∧ Nxt F w F' w':=by
 obtain ⟨⟨vo,vf,h1⟩,h2,h3⟩:=h
 refine (tpush_any h1 l A c hA (by have:=hs.1;omega) (by have:=hs.2.1;omega)).mono ?_
 rintro e w' ⟨rfl,ht⟩
 exact ⟨rfl,ht.at (Ty.ok_push h2 l)⟩
theorem at_want (h:AtF w F P s) (hs:s.sm n) (hn:n ≤ 500000000) (l:List UInt8) (A:Option Addr) (c:Nat) (hA:Has w w.heap.size A l) (hl:l.length ≤ 400000000) :
  Calls Tryz.prog 130 #[.pointer (some ⟨P,0,none⟩),.slice A l.length c] w fun e w'=>e = .returned (.bool (s.wantA l)) ∧ ∃ F',AtF w' F' P (s.want l) ∧ Nxt F w F' w':=by
 obtain ⟨⟨vo,vf,h1⟩,h2,h3⟩:=h
 refine (twant_any h1 h2 l A c hA (by have:=hs.1;omega) (by omega) (by have:=hs.2.2.1;omega)).mono ?_
 rintro e w' ⟨rfl,ht⟩
 exact ⟨rfl,ht.at (Ty.ok_want h2 l)⟩
theorem at_pop (h:AtF w F P s) (hs:s.sm n) (hn:n ≤ 500000000) :
  Calls Tryz.prog 135 #[.pointer (some ⟨P,0,none⟩)] w fun e w'=>e = .returned (.tuple #[.int .u8 ↑s.popA.1.toNat,.bool s.popA.2]) ∧ ∃ F',AtF w' F' P s.pop ∧ Nxt F w F' w':=by
 obtain ⟨⟨vo,vf,h1⟩,h2,h3⟩:=h
 refine (tpop_any h1 h2 (by have:=hs.1;omega) (by have:=hs.2.2.1;omega)).mono ?_
 rintro e w' ⟨rfl,ht⟩
 exact ⟨rfl,ht.at (Ty.ok_pop h2)⟩
theorem at_dead (h:AtF w F P s) (hs:s.sm n) (hn:n ≤ 500000000) :
  Calls Tryz.prog 145 #[.pointer (some ⟨P,0,none⟩)] w fun e w'=>e = .returned (.tuple #[]) ∧ ∃ F',AtF w' F' P s.kill ∧ Nxt F w F' w':=by
 obtain ⟨⟨vo,vf,h1⟩,h2,h3⟩:=h
 refine (tdead_any h1 h2 (by have:=hs.2.2.1;omega)).mono ?_
 rintro e w' ⟨rfl,ht⟩
 exact ⟨rfl,ht.at (Ty.ok_kill h2)⟩
theorem at_open (h:AtF w F P s) (hs:s.sm n) (hn:n ≤ 500000000) (a b:List UInt8) (va vb:Value) (ha:aa w (· < w.heap.size) a va) (hb:aa w (· < w.heap.size) b vb) (hl1:a.length ≤ 400000000) (hl2:b.length ≤ 400000000) :
  Calls Tryz.prog 98 #[.pointer (some ⟨P,0,none⟩),va,vb] w fun e w'=>e = .returned (.tuple #[]) ∧ ∃ F',AtF w' F' P (s.op a b) ∧ Nxt F w F' w':=by
 obtain ⟨⟨vo,vf,h1⟩,h2,h3⟩:=h
 refine (fb h1 a b va vb ha hb (by omega) (by omega) (by have:=hs.2.2.1;omega)).mono ?_
 rintro e w' ⟨rfl,ht⟩
 exact ⟨rfl,ht.at (Ty.ok_op h2 a b)⟩
theorem at_close (h:AtF w F P s) (hs:s.sm n) (hn:n ≤ 500000000) :
  Calls Tryz.prog 91 #[.pointer (some ⟨P,0,none⟩)] w fun e w'=>ansS F s.closeA e w' ∧ ∃ F',AtF w' F' P s.close ∧ Nxt F w F' w':=by
 obtain ⟨⟨vo,vf,h1⟩,h2,h3⟩:=h
 refine (tclose_any h1 h2 (by have:=hs.1;omega) (fun f hf=>by have:=(hs.2.2.2 f hf).2;omega) (by have:=hs.2.2.1;omega)).mono ?_
 rintro e w' ⟨ha,ht⟩
 exact ⟨ha,ht.at (Ty.ok_close h2)⟩
theorem at_label (h:AtF w F P s) (hs:s.sm n) (hn:n ≤ 500000000) (k:Nat) (hk:k < 4294967296) :
  Calls Tryz.prog 132 #[.pointer (some ⟨P,0,none⟩),.int .u32 ↑k] w fun e w'=>ansS (w.heap.size ≤ ·) (s.labelA k) e w' ∧ Below w.heap.size w w':=by
 obtain ⟨⟨vo,vf,h1⟩,h2,h3⟩:=h
 exact tlabel_any h1 k hk (fun f hf=>by have:=(hs.2.2.2 f hf).1;omega) (by have:=hs.2.2.1;omega)
theorem at_most (h:AtF w F P s):Calls Tryz.prog 92 #[.pointer (some ⟨P,0,none⟩)] w fun e w'=>w' = w ∧ e = .returned (.int .i64 ↑s.most):=by
 obtain ⟨⟨vo,vf,h1⟩,_⟩:=h
 exact tmost_any h1
theorem at_new (e:List UInt8) (ve:Value) (w:World) (he:aa w (· < w.heap.size) e ve) (h1:e.length ≤ 400000000) :
  Calls Tryz.prog 89 #[ve] w fun r w'=>∃ P F,r = .returned (.pointer (some ⟨P,0,none⟩)) ∧ AtF w' F P (Ty.T.new e) ∧ (∀ k,F k → w.heap.size ≤ k) ∧ Below w.heap.size w w':=by
 refine (tnew_any e ve w he (by omega)).mono ?_
 rintro r w' ⟨P,F,vo,vf,rfl,q1,q2,q3⟩
 have hO:=own_lt q1.ops
 have hF:=q1.frs.lt
 exact ⟨P,fun k=>F k ∧ k < w'.heap.size,rfl,⟨⟨vo,vf,⟨q1.blk,q1.ops,q1.frs.more (fun k hk hs=>⟨⟨hs.1,hk⟩,hs.2⟩),⟨q1.inP,q1.lt⟩,fun k e=>⟨q1.inO k e,hO k e⟩,fun k e=>⟨q1.inF k e,(hF k e).2⟩⟩⟩,Ty.ok_new e,fun k hk=>hk.2⟩,fun k hk=>q2 k hk.1,q3⟩
end
def One (w0 w:World) (P:Nat) (s:Ty.T):Prop:=∃ F,AtF w F P s ∧ (∀ k,F k → w0.heap.size ≤ k) ∧ Below w0.heap.size w0 w
theorem One.next {w0 w w':World} {F F':Nat → Prop} {P:Nat} {s':Ty.T} (h1:∀ k,F k → w0.heap.size ≤ k) (h2:Below w0.heap.size w0 w) (h3:AtF w' F' P s') (h4:Nxt F w F' w'):One w0 w' P s' :=
 ⟨F',h3,fun k hk=>by
  rcases h4.1 k hk with h | h
  ·exact h1 k h
  ·exact Nat.le_trans h2.size h,h2.trans (h4.2.below h2.size (fun k hk hf=>by have:=h1 k hf;omega))⟩
theorem One.on {w0 w w':World} {P:Nat} {s:Ty.T} (h:One w0 w P s) (hb:Below w.heap.size w w'):One w0 w' P s:=by
 obtain ⟨F,h1,h2,h3⟩:=h
 exact ⟨F,h1.on hb,h2,h3.trans (hb.mono h3.size)⟩
theorem One.below {w0 w:World} {P:Nat} {s:Ty.T} (h:One w0 w P s):Below w0.heap.size w0 w:=by
 obtain ⟨_,_,_,h⟩:=h
 exact h
section
variable {w0 w:World} {P n:Nat} {s:Ty.T}
def ansH (o:Option (List UInt8)) (e:Ending) (w':World):Prop :=
 match o with
 | none=>e = .returned (.tuple #[.slice none 0 0,.bool false])
 | some l=>∃ A c,e = .returned (.tuple #[.slice A l.length c,.bool true]) ∧ l.length ≤ c ∧ c ≤ maxLen ∧ (A = none → c = 0) ∧ Has w' w'.heap.size A l
theorem ansS.h {S:Nat → Prop} {o:Option (List UInt8)} {e:Ending} {w':World} (h:ansS S o e w'):ansH o e w':=by
 cases o with
 | none=>exact h
 | some l =>
  obtain ⟨A,c,rfl,A',c',e1,h1,h2,h3,h4⟩:=h
  injection e1 with e1 _ e2
  subst e1 e2
  exact ⟨A,c,rfl,h1,h2,h3,h4.has⟩
end
end Go.Proofs.YtmpelmihdpomjaaGreat
