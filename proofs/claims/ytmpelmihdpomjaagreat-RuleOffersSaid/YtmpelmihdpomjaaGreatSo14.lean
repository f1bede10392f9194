/-
  The reader's instruction: by its form what stands behind its opcode, in a struct of the call's own.
-/
import Derived.Test.YtmpelmihdpomjaaGreatSo01
import Derived.Test.YtmpelmihdpomjaaGreatSo13
import Derived.Test.YtmpelmihdpomjaaGreatSo04
import Derived.Deep.Cut
import Derived.Test.YtmpelmihdpomjaaGreatSo02
import Derived.Deep.RegionHeld3
import Derived.Test.YtmpelmihdpomjaaGreatSo09
import Derived.OwnWalk
import Derived.Deep.LoopGhost
import Derived.Test.YtmpelmihdpomjaaGreatSo05
import Derived.Test.YtmpelmihdpomjaaGreatSo11
set_option maxRecDepth 100000
set_option maxHeartbeats 4000000
namespace Go.Proofs.YtmpelmihdpomjaaGreat
open Go.RowKit Ins
theorem cells5 {w:World} {X:Nat} {x0 x1 x2 x3 x4:Value} {t:TypeId} (h:w.heap[X]? = some (.cells #[x0,x1,x2,x3,x4] t (0,0))) :
  w.cell? ⟨X,0,none⟩ = some x0 ∧ w.cell? ⟨X,1,none⟩ = some x1 ∧ w.cell? ⟨X,2,none⟩ = some x2 ∧ w.cell? ⟨X,3,none⟩ = some x3 ∧ w.cell? ⟨X,4,none⟩ = some x4:=by
 refine ⟨?_,?_,?_,?_,?_⟩ <;> (rw [cell_of_row w X _ _ t (0,0) h];rfl)
end Go.Proofs.YtmpelmihdpomjaaGreat
namespace Ins
def many:List I → Nat
 | []=>0
 | x :: xs=>1 + x.l.length + many xs
theorem dP:∀ (a b:List I),many (a ++ b) = many a + many b
 | [],b=>by simp [many]
 | x :: a,b=>by simp only [List.cons_append,many,dP a b];omega
theorem many_take {xs:List I} {j:Nat} {x:I} (h:xs[j]? = some x):many (xs.take (j + 1)) = many (xs.take j) + (1 + x.l.length):=by
 rw [List.take_add_one,h,dP];simp [many]
theorem tot_many:∀ (xs:List I),tot xs ≤ 5 * many xs
 | []=>by simp [tot]
 | x :: xs=>by have:=tot_many xs;simp only [tot,many];omega
end Ins
namespace Go.Proofs.YtmpelmihdpomjaaGreat
open Go.RowKit Ins
def bools (l:List Bool):List Value:=l.map Value.bool
theorem aO (l:List Bool):(bools l).length = l.length:=by simp [bools]
theorem dg (a b:List Bool):bools (a ++ b) = bools a ++ bools b:=by simp [bools]
theorem eJ (l:List Bool):∀ u ∈ bools l,u.oneCell' = true:=by
 intro u hu
 simp only [bools,List.mem_map] at hu
 obtain ⟨x,_,rfl⟩:=hu
 rfl
theorem und57:Tryz.prog.underlying 174 = some (.slice 4):=by kernel_rfl
theorem info4:(Tryz.prog.info? 4).map (fun i=>(i.zero,i.size,i.bytes)) = some (some (.bool false),1,1):=by kernel_rfl
def aW (w:World) (K base:Nat) (o:List Bool) (own:Option Nat):Prop :=
 ∃ v m,w.heap[K]? = some (.cells #[v] 174 (0,0)) ∧ w.ownsRow base 4 1 v m (bools o) ∧ own = v.ownBlock ∧ own ≠ some K
def aR (K base:Nat) (o:List Bool) (own:Option Nat) (op:Nat) (w:World) (e:Ending) (w':World):Prop :=
 (e = .returned (.bool (Ins.step o op).isSome)) ∧ Mod (fun g=>g = K ∨ own = some g) w w' ∧
  ∀ o',Ins.step o op = some o' → ∃ own',aW w' K base o' own' ∧ ∀ g,own' = some g → own = some g ∨ w.heap.size ≤ g
theorem append1b (w:World) (base n:Nat) (v:Value) (l:List Bool) (x:Bool) (hown:w.ownsRow base 4 1 v n (bools l)) (hsz:n + 1 ≤ 140737488355328) (hb:base ≤ w.heap.size) :
  ∃ v' w',(Builtin.append_ #[174,174] 174 #[v,.slice (some ⟨w.heap.size,0,none⟩) 1 1]).run Tryz.prog (w.alloc (.cells #[.bool x] 4)) = .ok v' w' ∧ w'.ownsRow base 4 1 v' (n + 1) (bools (l ++ [x])) ∧ Mod (fun g=>v.ownBlock = some g) w w' ∧ ∀ g,v'.ownBlock = some g → v.ownBlock = some g ∨ w.heap.size ≤ g:=by
 obtain ⟨i0,hi,hz0,hz1,hz2⟩:=info_parts info4
 have hown1:=hown.alloc (.cells #[.bool x] 4)
 obtain ⟨v',w',hrun,h2,h3,_⟩:=run_append_own (P:=Tryz.prog) (w.alloc (.cells #[.bool x] 4)) base 174 174 4 i0 (.bool false) 1 1 und57 hi hz0 hz1 hz2 rfl (by decide) v n (bools l) hown1 ⟨w.heap.size,0,none⟩ 1 1 (bools [x]) rfl (cG w _ _) (eJ [x]) (by unfold maxLen;omega) (by omega) (by simp;omega)
 have ht:=bw (P:=Tryz.prog) _ base 174 174 4 i0 (.bool false) 1 1 und57 hi hz0 hz1 hz2 v n (bools l) hown1 ⟨w.heap.size,0,none⟩ 1 1 (bools [x]) rfl (cG w _ _) (eJ [x]) (by omega) (by unfold maxLen;omega) (by omega) hrun
 refine ⟨v',w',hrun,by rw [dg];exact h2,((Mod.refl _ w).alloc _).trans (T':=fun g=>v.ownBlock = some g) (Mod.of_grown h3 (fun _ h=>h)) (fun _ _ h=>h),fun g hg=>?_⟩
 rcases ht g hg with h | h
 ·exact .inl h
 ·exact .inr (by simp at h;omega)
theorem eI {o:List Bool} {d:Nat} (h:o.length = d + 1):o.getLast? = o[d]?:=by
 rw [List.getLast?_eq_getElem?,h];rfl
theorem pass_push (K base:Nat) (o:List Bool) (own:Option Nat) (op:Nat) (w:World) (h:aW w K base o own) (hb:base ≤ w.heap.size) (hlen:o.length < 1000000000000) (hop:op = 2 ∨ op = 3 ∨ op = 4) :
  Calls Tryz.prog 96 #[.pointer (some ⟨K,0,none⟩),.int .u8 ↑op] w (aR K base o own op w):=by
 obtain ⟨v,m,hK,hO,rfl,hne⟩:=h
 obtain ⟨A,c,rfl,hmc,hcm⟩:=aH hO
 have hm:m = o.length:=by have:=hO.1;rw [aO] at this;omega
 unfold maxLen at hcm
 obtain ⟨x,hx⟩:∃ x:Bool,x = ((op:Int) == 4):=⟨_,rfl⟩
 have hst:Ins.step o op = some (o ++ [x]):=by
  rcases hop with rfl | rfl | rfl <;> subst hx <;> simp [Ins.step]
 have HST:=J hst
 obtain ⟨v',w',hrun,ho',hm',ht'⟩:=append1b w base m (.slice A m c) o x hO (by omega) hb
 obtain ⟨A',c',rfl,_,_⟩:=aH ho'
 have k0:w.cell? ⟨K,0,none⟩ = some (.slice A m c):=by rw [cell_of_row w K 0 _ _ (0,0) hK];rfl
 have hK':=hm'.heap hK (fun e=>hne e)
 have kf':w'.frozen? ⟨K,0,none⟩ = false:=frozen_of_row w' K 0 _ _ hK'
 have k0':w'.cell? ⟨K,0,none⟩ = some (.slice A m c):=by rw [cell_of_row w' K 0 _ _ (0,0) hK'];rfl
 have HK:=J hK'
 have HRUN:=J hrun
 have HO:=J ho'
 have HM:=J hm'
 have HT:=J ht'
 have HNE:=J hne
 have HKL:=J (gL hK)
 clear hrun ho' hm' ht' hne hK hO hst hK' hm
 have fin:∀ w2,w2 = w'.setCell ⟨K,0,none⟩ (.slice A' (m + 1) c') → aR K base o (Value.slice A m c).ownBlock op w (.returned (.bool true)) w2:=by
  rintro w2 rfl
  refine ⟨by rw [HST.out];rfl,Mod.setCell (HM.out.more (fun g _ hg=>.inr hg)) (fun _=>.inl rfl) _,fun o' ho'=>?_⟩
  rw [HST.out] at ho'
  injection ho' with ho'
  subst ho'
  have hneK:(Value.slice A' (m + 1) c').ownBlock ≠ some K:=fun e=>by
   rcases HT.out K e with h | h
   ·exact HNE.out h
   ·have:=HKL.out;omega
  exact ⟨(Value.slice A' (m + 1) c').ownBlock,⟨_,m + 1,by rw [heap_setCell_same w' K 0 _ _ _ HK.out];rfl,(Mod.setCell (T:=(· = K)) (Mod.refl _ w') (fun _=>rfl) _).own HO.out (fun g hg e=>hneK (by rw [hg];exact congrArg some e)),rfl,hneK⟩,HT.out⟩
 have FIN:=J fin
 clear fin
 rcases hop with rfl | rfl | rfl
 ·obtain rfl:x = false:=hx
  go_enter Tryz.func96,Tryz.ntmps96
  go_wp2_with (at_builtin;refine ag rfl (.tmp 19) (.tmp 22) 174 rfl _ _ _ w' rfl rfl HRUN.out ?_)
  go_ret
  exact FIN.out _ rfl
 ·obtain rfl:x = false:=hx
  go_enter Tryz.func96,Tryz.ntmps96
  go_wp2_with (at_builtin;refine ag rfl (.tmp 19) (.tmp 22) 174 rfl _ _ _ w' rfl rfl HRUN.out ?_)
  go_ret
  exact FIN.out _ rfl
 ·obtain rfl:x = true:=hx
  go_enter Tryz.func96,Tryz.ntmps96
  go_wp2_with (at_builtin;refine ag rfl (.tmp 19) (.tmp 22) 174 rfl _ _ _ w' rfl rfl HRUN.out ?_)
  go_ret
  exact FIN.out _ rfl
theorem eR (K base:Nat) (o:List Bool) (own:Option Nat) (op:Nat) (w:World) (h:aW w K base o own) (hop:op = 5 ∨ op = 11) (hst:Ins.step o op = none) :
  Calls Tryz.prog 96 #[.pointer (some ⟨K,0,none⟩),.int .u8 ↑op] w (aR K base o own op w):=by
 obtain ⟨v,m,hK,hO,rfl,hne⟩:=h
 have hm:m = o.length:=by have:=hO.1;rw [aO] at this;omega
 have fin:aR K base o v.ownBlock op w (.returned (.bool false)) w:=⟨by rw [hst];rfl,Mod.refl _ _,fun o' ho'=>by rw [hst] at ho';cases ho'⟩
 have FIN:=J fin
 clear fin
 by_cases h0:m = 0
 ·subst h0
  obtain ⟨A,c,rfl,hmc,hcm⟩:=aH hO
  have k0:w.cell? ⟨K,0,none⟩ = some (.slice A 0 c):=by rw [cell_of_row w K 0 _ _ (0,0) hK];rfl
  clear hK hO hne hst hm
  rcases hop with rfl | rfl
  all_goals
   go_enter Tryz.func96,Tryz.ntmps96
   go_wp2
   go_ret
   exact FIN.out
 ·obtain ⟨d,rfl⟩:∃ d,m = d + 1:=⟨m - 1,by omega⟩
  obtain ⟨g,c,rfl,hmc,hcm,hbg⟩:=cI hO (by omega)
  unfold maxLen at hcm
  have k0:w.cell? ⟨K,0,none⟩ = some (.slice (some ⟨g,0,none⟩) (d + 1) c):=by rw [cell_of_row w K 0 _ _ (0,0) hK];rfl
  have hb5:op = 5:=by
   rcases hop with h | rfl
   ·exact h
   ·simp only [Ins.step] at hst
    simp at hst
    subst hst
    simp at hm
  subst hb5
  have hlast:o[d]? = some false:=by
   simp only [Ins.step] at hst
   simp at hst
   rw [eI hm.symm] at hst
   have hd:d < o.length:=by omega
   rw [List.getElem?_eq_getElem hd] at hst ⊢
   simp at hst
   rw [hst]
  have kd:w.cell? ⟨g,d,none⟩ = some (.bool false):=by
   have:=hO.cells (g:=g) rfl d (.bool false) (by simp [bools,hlast])
   have e2:(⟨g,0,none⟩:Addr).add d = ⟨g,d,none⟩:=by unfold Addr.add;split <;> simp_all
   rwa [e2] at this
  have hi:(d:Int) < ((d + 1:Nat):Int):=by omega
  clear hK hO hne hst hm hop hlast
  go_enter Tryz.func96,Tryz.ntmps96
  go_wp2
  go_ret
  exact FIN.out
theorem pass_else (K base:Nat) (o:List Bool) (own:Option Nat) (w:World) (h:aW w K base o own) (hl:o.getLast? = some true) :
  Calls Tryz.prog 96 #[.pointer (some ⟨K,0,none⟩),.int .u8 5] w (aR K base o own 5 w):=by
 obtain ⟨v,m,hK,hO,rfl,hne⟩:=h
 have hm:m = o.length:=by have:=hO.1;rw [aO] at this;omega
 have h0:m ≠ 0:=by
  rintro rfl
  have:o = []:=List.eq_nil_of_length_eq_zero hm.symm
  subst this
  cases hl
 obtain ⟨d,rfl⟩:∃ d,m = d + 1:=⟨m - 1,by omega⟩
 obtain ⟨g,c,rfl,hmc,hcm,hbg⟩:=cI hO (by omega)
 unfold maxLen at hcm
 have k0:w.cell? ⟨K,0,none⟩ = some (.slice (some ⟨g,0,none⟩) (d + 1) c):=by rw [cell_of_row w K 0 _ _ (0,0) hK];rfl
 have hst:Ins.step o 5 = some (o.dropLast ++ [false]):=by simp [Ins.step,hl]
 have hld:o[d]? = some true:=by rw [← eI hm.symm];exact hl
 have kd:w.cell? ⟨g,d,none⟩ = some (.bool true):=by
  have:=hO.cells (g:=g) rfl d (.bool true) (by simp [bools,hld])
  have e2:(⟨g,0,none⟩:Addr).add d = ⟨g,d,none⟩:=by unfold Addr.add;split <;> simp_all
  rwa [e2] at this
 have kf:=hO.frozenAt d
 obtain ⟨ho2,hg2⟩:=hO.stored d (.bool false)
 have hset:(bools o).set d (.bool false) = bools (o.dropLast ++ [false]):=by
  apply List.ext_getElem?
  intro j
  have hd:d < o.length:=by omega
  rw [List.getElem?_set,aO]
  simp only [bools,List.getElem?_map]
  by_cases hj:d = j
  ·subst hj
   rw [if_pos rfl,if_pos hd,List.getElem?_append_right (by simp;omega)]
   simp
   rw [show d - (o.length - 1) = 0 by omega]
   rfl
  ·rw [if_neg hj]
   by_cases hjd:j < d
   ·rw [List.getElem?_append_left (by simp;omega),List.getElem?_dropLast,if_pos (by omega)]
   ·rw [List.getElem?_eq_none (by omega),List.getElem?_eq_none (by simp;omega)]
 rw [hset] at ho2
 have hgK:g ≠ K:=fun e=>hne (by subst e;rfl)
 have fin:∀ w2,w2 = w.setCell ⟨g,d,none⟩ (.bool false) → aR K base o (Value.slice (some ⟨g,0,none⟩) (d + 1) c).ownBlock 5 w (.returned (.bool true)) w2:=by
  rintro w2 rfl
  refine ⟨by rw [hst];rfl,(Mod.of_grown hg2 (fun k hk=>.inr hk)),fun o' ho'=>?_⟩
  rw [hst] at ho'
  injection ho' with ho'
  subst ho'
  exact ⟨_,⟨_,d + 1,(heap_setCell_other w ⟨g,d,none⟩ K _ (fun e=>hgK e.symm)).trans hK,ho2,rfl,hne⟩,fun g hg=>.inl hg⟩
 have FIN:=J fin
 clear fin hK hO hne hst hm hl hld ho2 hg2 hset hgK
 go_enter Tryz.func96,Tryz.ntmps96
 go_wp2
 go_ret
 exact FIN.out _ rfl
theorem pass_end (K base:Nat) (o:List Bool) (own:Option Nat) (w:World) (h:aW w K base o own) (hl:o ≠ []) :
  Calls Tryz.prog 96 #[.pointer (some ⟨K,0,none⟩),.int .u8 11] w (aR K base o own 11 w):=by
 obtain ⟨v,m,hK,hO,rfl,hne⟩:=h
 have hm:m = o.length:=by have:=hO.1;rw [aO] at this;omega
 have h0:m ≠ 0:=by
  rintro rfl
  exact hl (List.eq_nil_of_length_eq_zero hm.symm)
 obtain ⟨d,rfl⟩:∃ d,m = d + 1:=⟨m - 1,by omega⟩
 obtain ⟨g,c,rfl,hmc,hcm,hbg⟩:=cI hO (by omega)
 unfold maxLen at hcm
 have k0:w.cell? ⟨K,0,none⟩ = some (.slice (some ⟨g,0,none⟩) (d + 1) c):=by rw [cell_of_row w K 0 _ _ (0,0) hK];rfl
 have kf:w.frozen? ⟨K,0,none⟩ = false:=frozen_of_row w K 0 _ _ hK
 have hst:Ins.step o 11 = some o.dropLast:=by simp [Ins.step,hl]
 have hlast:bools o = bools o.dropLast ++ bools [o.getLast hl]:=by rw [← dg,List.dropLast_concat_getLast]
 rw [hlast] at hO
 have ho2:=ownsRow_pop (by rw [aO];simp;omega) hO
 have hgK:g ≠ K:=fun e=>hne (by subst e;rfl)
 have fin:∀ w2,w2 = w.setCell ⟨K,0,none⟩ (.slice (some ⟨g,0,none⟩) d c) → aR K base o (Value.slice (some ⟨g,0,none⟩) (d + 1) c).ownBlock 11 w (.returned (.bool true)) w2:=by
  rintro w2 rfl
  refine ⟨by rw [hst];rfl,Mod.setCell (Mod.refl _ _) (fun _=>.inl rfl) _,fun o' ho'=>?_⟩
  rw [hst] at ho'
  injection ho' with ho'
  subst ho'
  exact ⟨some g,⟨.slice (some ⟨g,0,none⟩) d c,d,by rw [heap_setCell_same w K 0 _ _ _ hK];rfl,(Mod.setCell (T:=(· = K)) (Mod.refl _ w) (fun _=>rfl) _).own ho2 (fun k hk e=>hgK ((Option.some.inj hk).trans e)),rfl,hne⟩,fun g hg=>.inl hg⟩
 have FIN:=J fin
 have hdc:d ≤ c:=by omega
 clear fin hK hO hne hst hm hl ho2 hgK hlast
 go_enter Tryz.func96,Tryz.ntmps96
 go_wp2
 go_ret
 exact FIN.out _ rfl
theorem pass_other (K base:Nat) (o:List Bool) (own:Option Nat) (op:Nat) (w:World) (h:aW w K base o own) (h2:op ≠ 2) (h3:op ≠ 3) (h4:op ≠ 4) (h5:op ≠ 5) (h11:op ≠ 11) :
  Calls Tryz.prog 96 #[.pointer (some ⟨K,0,none⟩),.int .u8 ↑op] w (aR K base o own op w):=by
 have hst:Ins.step o op = some o:=by simp [Ins.step,h2,h3,h4,h5,h11]
 have fin:aR K base o own op w (.returned (.bool true)) w:=⟨by rw [hst];rfl,Mod.refl _ _,fun o' ho'=>by rw [hst] at ho';injection ho' with ho';subst ho';exact ⟨own,h,fun g hg=>.inl hg⟩⟩
 obtain ⟨v,m,hK,hO,rfl,hne⟩:=h
 obtain ⟨A,c,rfl,hmc,hcm⟩:=aH hO
 unfold maxLen at hcm
 have k0:w.cell? ⟨K,0,none⟩ = some (.slice A m c):=by rw [cell_of_row w K 0 _ _ (0,0) hK];rfl
 have FIN:=J fin
 have e2:((op:Int) == 2) = false:=by simp;omega
 have e3:((op:Int) == 3) = false:=by simp;omega
 have e4:((op:Int) == 4) = false:=by simp;omega
 have e5:((op:Int) == 5) = false:=by simp;omega
 have e11:((op:Int) == 11) = false:=by simp;omega
 clear fin hK hO hne hst h2 h3 h4 h5 h11
 go_enter Tryz.func96,Tryz.ntmps96
 go_wp2
 go_ret
 exact FIN.out
theorem pass_any (K base:Nat) (o:List Bool) (own:Option Nat) (op:Nat) (w:World) (h:aW w K base o own) (hb:base ≤ w.heap.size) (hlen:o.length < 1000000000000) :
  Calls Tryz.prog 96 #[.pointer (some ⟨K,0,none⟩),.int .u8 ↑op] w (aR K base o own op w):=by
 by_cases h1:op = 2 ∨ op = 3 ∨ op = 4
 ·exact pass_push K base o own op w h hb hlen h1
 ·by_cases h5:op = 5
  ·subst h5
   by_cases hl:o.getLast? = some true
   ·exact pass_else K base o own w h hl
   ·exact eR K base o own 5 w h (.inl rfl) (by simp [Ins.step,hl])
  ·by_cases h11:op = 11
   ·subst h11
    by_cases hl:o = []
    ·exact eR K base o own 11 w h (.inr rfl) (by simp [Ins.step,hl])
    ·exact pass_end K base o own w h hl
   ·exact pass_other K base o own op w h (by omega) (by omega) (by omega) h5 h11
def rowI (ys:List (I × Option Addr × Nat)):List Value:=ys.flatMap fun y=>insCells y.1 y.2.1 y.2.2
theorem rowI_length (ys:List (I × Option Addr × Nat)):(rowI ys).length = ys.length * 5:=by
 induction ys with
 | nil=>rfl
 | cons y ys ih=>simp only [rowI,List.flatMap_cons,List.length_append,List.length_cons] at ih ⊢;rw [ih];simp [insCells];omega
theorem rowI_at:∀ (ys:List (I × Option Addr × Nat)) (k:Nat) (y:I × Option Addr × Nat),ys[k]? = some y → ∀ j u,(insCells y.1 y.2.1 y.2.2)[j]? = some u → (rowI ys)[k * 5 + j]? = some u
 | [],k,y,h,_,_,_=>by simp at h
 | z :: ys,0,y,h,j,u,hj=>by
  simp at h;subst h
  simp only [rowI,List.flatMap_cons,Nat.zero_mul,Nat.zero_add]
  rw [List.getElem?_append_left (by exact (List.getElem?_eq_some_iff.1 hj).1)]
  exact hj
 | z :: ys,k + 1,y,h,j,u,hj=>by
  have ih:=rowI_at ys k y (by simpa using h) j u hj
  simp only [rowI,List.flatMap_cons] at ih ⊢
  rw [List.getElem?_append_right (by simp [insCells];omega),← ih]
  congr 1
  simp [insCells];omega
def OwnI (w:World) (base:Nat) (S:Nat → Prop) (v:Value) (n:Nat) (xs:List I):Prop :=
 ∃ ys,ys.map (·.1) = xs ∧ w.ownsRow base 56 5 v n (rowI ys) ∧ ∀ y ∈ ys,y.1.wf ∧ y.1.l.length ≤ y.2.2 ∧ y.2.2 ≤ maxLen ∧ HasU w S y.2.1 y.1.l
theorem OwnI.len {w:World} {base:Nat} {S:Nat → Prop} {v:Value} {n:Nat} {xs:List I} (h:OwnI w base S v n xs):n = xs.length:=by
 obtain ⟨ys,rfl,h1,_⟩:=h
 have:=h1.1
 rw [rowI_length] at this
 simp;omega
theorem OwnI.mod {w w':World} {T:Nat → Prop} {base:Nat} {S:Nat → Prop} {v:Value} {n:Nat} {xs:List I} (h:OwnI w base S v n xs) (hm:Mod T w w') (hv:∀ g,v.ownBlock = some g → ¬ T g) (hs:∀ g,g < w.heap.size → S g → ¬ T g):OwnI w' base S v n xs:=by
 obtain ⟨ys,h0,h1,h2⟩:=h
 exact ⟨ys,h0,hm.own h1 hv,fun y hy=>⟨(h2 y hy).1,(h2 y hy).2.1,(h2 y hy).2.2.1,(h2 y hy).2.2.2.mod hm hs⟩⟩
theorem OwnI.more {w:World} {base:Nat} {S S':Nat → Prop} {v:Value} {n:Nat} {xs:List I} (h:OwnI w base S v n xs) (hs:∀ g,g < w.heap.size → S g → S' g):OwnI w base S' v n xs:=by
 obtain ⟨ys,h0,h1,h2⟩:=h
 exact ⟨ys,h0,h1,fun y hy=>⟨(h2 y hy).1,(h2 y hy).2.1,(h2 y hy).2.2.1,(h2 y hy).2.2.2.more hs⟩⟩
theorem OwnI.nil (w:World) (base:Nat) (S:Nat → Prop):OwnI w base S (.slice none 0 0) 0 []:=⟨[],rfl,World.ownsRow_nil _ _ _ _,by simp⟩
def InsL (B:Nat) (w:World) (v:Value) (xs:List I):Prop:=∃ A c,v = .slice A xs.length c ∧ xs.length ≤ c ∧ (c ≤ maxLen ∧ (A = none → c = 0)) ∧ HasI w (B ≤ ·) A xs
theorem OwnI.tell {w:World} {base:Nat} {S:Nat → Prop} {v:Value} {n:Nat} {xs:List I} (h:OwnI w base S v n xs) (hs:∀ g,S g → base ≤ g):InsL base w v xs:=by
 have hn:=h.len
 obtain ⟨ys,h0,h1,h2⟩:=h
 subst hn
 rcases h1.2 with ⟨rfl,h3⟩ | ⟨g,cap,cur,rfl,hb,hh,hc,hm,_,htk⟩
 ·have:xs = []:=List.eq_nil_of_length_eq_zero h3
  subst this
  exact ⟨none,0,rfl,Nat.le_refl _,⟨by unfold maxLen;omega,fun _=>rfl⟩,HasI.nil _ _ _⟩
 ·refine ⟨_,cap,rfl,hc,⟨hm,fun e=>by cases e⟩,fun k x hk=>?_⟩
  rw [← h0,List.getElem?_map,Option.map_eq_some_iff] at hk
  obtain ⟨y,hy,rfl⟩:=hk
  obtain ⟨q1,q2,q3,q4⟩:=h2 y (List.mem_of_getElem? hy)
  refine ⟨g,0,y.2.1,y.2.2,rfl,hb,q1,q2,q3,q4.more (fun g _=>hs g),fun j u hj=>?_⟩
  have:=h1.cells (g:=g) rfl (k * 5 + j) u (rowI_at ys k y hy j u hj)
  have e2:(⟨g,0,none⟩:Addr).add (k * 5 + j) = ⟨g,0 + k * 5 + j,none⟩:=by
   unfold Addr.add;split
   ·next h=>simp at h;simp
   ·simp
  rwa [e2] at this
end Go.Proofs.YtmpelmihdpomjaaGreat
namespace Ins
theorem step_length {o o':List Bool} {op:Nat} (h:step o op = some o'):o'.length ≤ o.length + 1:=by
 unfold step at h
 split at h
 ·injection h with h;subst h;simp
 split at h
 ·injection h with h;subst h;simp
 split at h
 ·split at h
  ·injection h with h;subst h;simp
  ·cases h
 split at h
 ·split at h
  ·cases h
  ·injection h with h;subst h;simp;omega
 ·injection h with h;subst h;omega
end Ins
namespace Go.Proofs.YtmpelmihdpomjaaGreat
open Go.RowKit Ins
theorem blocks_cell {w:World} {K base:Nat} {o:List Bool} {own:Option Nat} (h:aW w K base o own):∃ A c,w.cell? ⟨K,0,none⟩ = some (.slice A o.length c) ∧ o.length ≤ c ∧ c ≤ maxLen:=by
 obtain ⟨v,m,hK,hO,_,_⟩:=h
 have hm:m = o.length:=by have:=hO.1;rw [aO] at this;omega
 subst hm
 obtain ⟨A,c,rfl,h1,h2⟩:=aH hO
 exact ⟨A,c,by rw [cell_of_row w K 0 _ _ (0,0) hK];rfl,h1,h2⟩
theorem aW.mod {w w':World} {T:Nat → Prop} {K base:Nat} {o:List Bool} {own:Option Nat} (h:aW w K base o own) (hm:Mod T w w') (hK:¬ T K) (ho:∀ g,own = some g → ¬ T g):aW w' K base o own:=by
 obtain ⟨v,m,h1,h2,h3,h4⟩:=h
 exact ⟨v,m,hm.heap h1 hK,hm.own h2 (fun g hg=>ho g (by rw [h3];exact hg)),h3,h4⟩
theorem aW.own_lt {w:World} {K base:Nat} {o:List Bool} {own:Option Nat} (h:aW w K base o own):K < w.heap.size ∧ ∀ g,own = some g → base ≤ g ∧ g < w.heap.size:=by
 obtain ⟨v,m,h1,h2,h3,h4⟩:=h
 exact ⟨(gL h1),fun g hg=>h2.lt g (by rw [← h3];exact hg)⟩
def OwnPost (l:List UInt8) (w:World) (e:Ending) (w':World):Prop:=∃ v',e = .returned v' ∧ w'.ownsRow w.heap.size 5 1 v' l.length (bytesOf l) ∧ Below w.heap.size w w'
theorem own_any (A:Option Addr) (l:List UInt8) (c:Nat) (w:World) (hA:Has w w.heap.size A l) (hsz:l.length ≤ 140737488355328) :
  Calls Tryz.prog 94 #[.slice A l.length c] w (OwnPost l w):=by
 have hb0:Below w.heap.size w (w.alloc (.cells #[] 5)):=bA
 have hown0:(w.alloc (.cells #[] 5)).ownsRow w.heap.size 5 1 (.slice (some ⟨w.heap.size,0,none⟩) 0 0) 0 (bytesOf []) :=
  ⟨rfl,.inr ⟨w.heap.size,0,#[],rfl,Nat.le_refl _,heap_alloc_new w _,Nat.le_refl _,by unfold maxLen;omega,rfl,rfl⟩⟩
 obtain ⟨v',w',hrun,ho,hm,ht⟩:=dM (w.alloc (.cells #[] 5)) w.heap.size 0 l.length c _ [] l A hown0 (hA.on hb0) rfl (by omega) hb0.size
 have HR:=J hrun
 have HO:=J ho
 have HB:=J (hb0.trans (hm.below (by simp) (fun k hk e=>by simp [Value.ownBlock] at e;omega)))
 clear hrun ho hm ht hb0 hown0 hA
 go_enter Tryz.func94,Tryz.ntmps94
 go_wp2_with (at_builtin;refine ag rfl (.tmp 3) (.tmp 4) 27 rfl _ _ _ w' rfl rfl HR.out ?_)
 go_ret
 have h:=HO.out
 rw [Nat.zero_add,List.nil_append] at h
 exact ⟨_,rfl,h,HB.out⟩
theorem aF (base:Nat) (v:Value) (l:List UInt8) (N:Nat) (w:World) (hown:w.ownsRow base 5 1 v l.length (bytesOf l)) (hb:base ≤ w.heap.size) (hN:N < 4294967296) (hsz:l.length ≤ 100000000000000) :
  Calls Tryz.prog 127 #[v,.int .u32 ↑N] w (aw base v (l ++ Leb.encU N) w):=by
 have HC:=J (c11 none [] 0 0 N w rfl (by omega) (Has.nil _ _ _) (by omega))
 have HO:=J hown
 have hle:=Leb.encU_le10 N (by omega)
 have hw:IntKind.u64.wrap (N:Int) = (N:Int):=IntWalk.u64_in _ (by omega)
 clear hown
 generalize Leb.encU N = E at HC hle ⊢
 go_enter Tryz.func127,Tryz.ntmps127
 go_wp2_with fail
 refine HC.out.mono ?_
 rintro e w1 ⟨v1,rfl,ho1,hb1⟩
 rw [List.nil_append,Nat.zero_add] at ho1
 obtain ⟨A1,c1,rfl,_,hn1,hh1⟩:=Has.own ho1
 obtain ⟨v2,w2,hr2,ha2⟩:=bh w1 base E.length c1 v l E A1 ((Mod.of_below (T:=fun _=>False) hb1).own HO.out (fun _ _ h=>h)) hh1 hn1 (by omega) (Nat.le_trans hb hb1.size)
 have HR2:=J hr2
 have HA2:=J (Adds.behind hb1 ha2)
 clear ho1 hh1 hr2 ha2 hb1 hn1 HC HO hw
 go_wp2_with (at_builtin;refine ag rfl (.tmp 5) (.tmp 8) 27 rfl _ _ _ w2 rfl rfl HR2.out ?_)
 go_ret
 exact ⟨_,rfl,HA2.out⟩
theorem eA (base:Nat) (v:Value) (l:List UInt8) (S:Nat → Prop) (A:Option Addr) (c:Nat) (L:List Nat) (w:World) (hown:w.ownsRow base 5 1 v l.length (bytesOf l)) (hb:base ≤ w.heap.size) (hL:HasU w S A L) (hS:∀ g,S g → v.ownBlock ≠ some g) (hw:∀ n ∈ L,n < 4294967296)
  (hlen:L.length < 4294967296) (hsz:l.length + 10 * (L.length + 1) ≤ 100000000000000) :
  Calls Tryz.prog 128 #[v,.slice A L.length c] w (aw base v (l ++ (Leb.encU L.length ++ labs L)) w):=by
 obtain ⟨n,hn⟩:∃ n,L.length = n:=⟨_,rfl⟩
 have HN:=J hn
 have HC:=J (aF base v l n w hown hb (by omega) (by omega))
 have HW:=J hw
 have HS:=J hS
 have HL:=J hL
 have HOV:=J (own_lt hown)
 have hle:=Leb.encU_le10 n (by omega)
 have hwr:IntKind.u32.wrap (n:Int) = (n:Int):=IntWalk.u32_in _ (by omega)
 rw [hn] at hlen hsz ⊢
 clear hown hL hS hw hn
 generalize Leb.encU n = E at HC hle ⊢
 go_enter Tryz.func128,Tryz.ntmps128
 go_wp2_with (go_at_call 127;refine HC.out.mono ?_;rintro e w1 ⟨v1,rfl,ha1⟩;have HA1:=J ha1;clear ha1)
 clear HC
 go_loopw [0,14] (fun u i wr=>∃ (j:Nat) (done:List UInt8),j ≤ n ∧ i = .int .i64 ↑j ∧ Hid (done = l ++ (E ++ labs (L.take j))) ∧ done.length ≤ l.length + 10 * (j + 1) ∧ Hid (Adds base w v wr u done)) (fun _ i _=>n - (intOf i).toNat)
 case atStart=>exact ⟨0,l ++ E,by omega,rfl,J (by simp [labs]),by simp;omega,HA1⟩
 case round =>
  obtain ⟨j,done,hj,rfl,HD,hdl,HA⟩:=hrel
  by_cases hjn:j < n
  ·obtain ⟨x,hx⟩:∃ x,L[j]? = some x:=⟨_,List.getElem?_eq_getElem (by have:=HN.out;omega)⟩
   have hLr:HasU wr S A L:=HL.out.mod HA.out.2.1 (fun g _ hg e=>HS.out g hg e)
   obtain ⟨g,o,rfl,_,hcell⟩:=hLr j x hx
   have hx32:x < 4294967296:=HW.out x (List.mem_of_getElem? hx)
   have HX:=J hx
   have hji:(j:Int) < (n:Int):=by omega
   have HP:=J (aF base _ done x wr HA.out.1 (Nat.le_trans hb HA.out.2.1.size) hx32 (by omega))
   have hle2:=Leb.encU_le10 x (by omega)
   have hlab:labs (L.take (j + 1)) = labs (L.take j) ++ Leb.encU x:=by rw [List.take_add_one,hx];simp [labs]
   have HLB:=J hlab
   clear hx hLr hlab
   generalize Leb.encU x = EX at HP hle2 HLB
   go_wp2_with (go_at_call 127;refine HP.out.mono ?_;rintro e w2 ⟨v2,rfl,ha2⟩;have HA2:=J ha2;clear ha2)
   go_roundw
   case rel=>exact ⟨j + 1,done ++ EX,by omega,by go_num,J (by rw [HD.out,HLB.out];simp),by simp;omega,J (HA.out.trans HA2.out)⟩
   case measure=>simp [intOf];omega
  ·obtain rfl:j = n:=by omega
   go_wp2_with fail
   go_ret
   have h:=HD.out
   rw [← HN.out,List.take_length] at h
   rw [← h]
   exact ⟨_,rfl,HA.out⟩
end Go.Proofs.YtmpelmihdpomjaaGreat
