/-
  Layer 9's rows: a frame in cells; the last record of a row, changed or left out; a row of bytes cut; clear of records.
-/
import Derived.Test.YtmpelmihdpomjaaGreatSo01
import Derived.Test.YtmpelmihdpomjaaGreatSo17
import Derived.Test.YtmpelmihdpomjaaGreatSo02
import Derived.Test.YtmpelmihdpomjaaGreatSo06
import Derived.Laws.EntriesVeiled
import Derived.Lib.SliceRun
set_option maxRecDepth 100000
set_option maxHeartbeats 4000000
namespace Go.Proofs.YtmpelmihdpomjaaGreat
open Go.RowKit Ins Bin
theorem HasL.grow {α:Type} [Lay α] {w w':World} {A:Option Addr} {xs:List α} (h:HasL w (· < w.heap.size) A xs) (hb:Below w.heap.size w w'):HasL w' (· < w'.heap.size) A xs:=(h.mod (T:=fun _=>False) (Mod.of_below hb) (fun _ _ _ h=>h)).more (fun _ _ hk=>Nat.lt_of_lt_of_le hk hb.size)
theorem aa.grow {α:Type} [Lay α] {w w':World} {xs:List α} {v:Value} (h:aa w (· < w.heap.size) xs v) (hb:Below w.heap.size w w'):aa w' (· < w'.heap.size) xs v:=(h.mod (T:=fun _=>False) (Mod.of_below hb) (fun _ _ _ h=>h)).more (fun _ _ hk=>Nat.lt_of_lt_of_le hk hb.size)
instance : Lay Ty.Fr where
 size:=4
 rep w S x cs:=∃ u v,cs = [u,v,.int .i64 ↑x.h,.bool x.dead] ∧ aa w S x.label u ∧ aa w S x.ends v
 len h:=by obtain ⟨u,v,rfl,_⟩:=h;rfl
 mod h hm hd:=by obtain ⟨u,v,h1,h2,h3⟩:=h;exact ⟨u,v,h1,h2.mod hm hd,h3.mod hm hd⟩
 more h hs:=by obtain ⟨u,v,h1,h2,h3⟩:=h;exact ⟨u,v,h1,h2.more hs,h3.more hs⟩
instance : Ones Ty.Fr:=⟨fun h u hu=>by
 obtain ⟨a,b,rfl,h1,h2⟩:=h
 simp at hu;rcases hu with rfl | rfl | rfl | rfl
 ·exact h1.one
 ·exact h2.one
 ·rfl
 ·rfl⟩
theorem own_cut {w:World} {base n m c:Nat} {e:TypeId} {A:Option Addr} {l:List UInt8} (h:w.ownsRow base e 1 (.slice A n c) n (bytesOf l)) (hm:m ≤ n):w.ownsRow base e 1 (.slice A m c) m (bytesOf (l.take m)):=by
 have hl:=h.1
 rw [ap,Nat.mul_one] at hl
 refine ⟨by rw [ap,List.length_take];omega,?_⟩
 rcases h.2 with ⟨h1,h2⟩ | ⟨g,cap,cur,h1,h2,h3,h4,h5,h6,h7⟩
 ·injection h1 with h1 _ h3
  subst h1 h3
  exact .inl ⟨by rw [show m = 0 by omega],by omega⟩
 ·injection h1 with h1 _ h3
  subst h1 h3
  refine .inr ⟨g,c,cur,rfl,h2,h3,by omega,h5,h6,?_⟩
  have h8:(cur.toList.take (n * 1)).take m = (bytesOf l).take m:=by rw [h7]
  rw [List.take_take,Nat.min_eq_left (by omega)] at h8
  rw [Nat.mul_one,h8,bytesOf,bytesOf,List.map_take]
theorem take_get {l xs:List Value} (h:∀ (j:Nat) (u:Value),xs[j]? = some u → l[j]? = some u):l.take xs.length = xs:=by
 apply List.ext_getElem?
 intro j
 rw [List.getElem?_take]
 by_cases hj:j < xs.length
 ·rw [if_pos hj,h j xs[j] (List.getElem?_eq_getElem hj),List.getElem?_eq_getElem hj]
 ·rw [if_neg hj,List.getElem?_eq_none (by omega)]
theorem OwnL.last {α:Type} [Lay α] {t:TypeId} {w:World} {base:Nat} {S:Nat → Prop} {v:Value} {i:List α} {f:α} (h:OwnL t w base S v (i ++ [f])) :
  ∃ g c cur cs,v = .slice (some ⟨g,0,none⟩) (i.length + 1) c ∧ i.length + 1 ≤ c ∧ c ≤ maxLen ∧ base ≤ g ∧ w.heap[g]? = some (.cells cur t (0,0)) ∧ cur.size = c * Lay.size α ∧ Lay.rep w S f cs ∧ (∀ j u,cs[j]? = some u → cur[i.length * Lay.size α + j]? = some u) ∧
   ∀ (w':World) (cur':Array Value),w'.heap[g]? = some (.cells cur' t (0,0)) → cur'.size = cur.size → (∀ j,j < i.length * Lay.size α → cur'[j]? = cur[j]?) → Mod (· = g) w w' → (∀ k,k < w.heap.size → S k → k ≠ g) →
    OwnL t w' base S (.slice (some ⟨g,0,none⟩) i.length c) i ∧ ∀ f' cs',Lay.rep w' S f' cs' → (∀ j u,cs'[j]? = some u → cur'[i.length * Lay.size α + j]? = some u) → OwnL t w' base S (.slice (some ⟨g,0,none⟩) (i.length + 1) c) (i ++ [f']):=by
 obtain ⟨ys,h0,h1,h2⟩:=h
 have hys:∃ yi cs,ys = yi ++ [(f,cs)] ∧ yi.map (·.1) = i:=by
  rcases List.eq_nil_or_concat ys with h | ⟨yi,y,h⟩
  ·rw [h] at h0;simp at h0
  ·have h':ys = yi ++ [y]:=by simpa using h
   rw [h'] at h0
   simp only [List.map_append,List.map_cons,List.map_nil] at h0
   obtain ⟨e1,e2⟩:=List.append_inj' h0 rfl
   simp at e2
   exact ⟨yi,y.2,by rw [h',← e2],e1⟩
 obtain ⟨yi,cs,rfl,hyi⟩:=hys
 have hil:yi.length = i.length:=by rw [← hyi];simp
 have hfl:=cn yi (fun y hy=>h2 y (by simp [hy]))
 rw [hil] at hfl
 have hcs:cs.length = Lay.size α:=Lay.len (h2 (f,cs) (by simp))
 have hlen:(i ++ [f]).length = i.length + 1:=by simp
 rw [hlen] at h1
 rcases h1.2 with ⟨_,h3⟩ | ⟨g,c,cur,rfl,h3,h4,h5,h6,h7,h8⟩
 ·omega
 ·have hget:∀ j,j < (i.length + 1) * Lay.size α → cur[j]? = (yi.flatMap (·.2) ++ cs)[j]?:=fun j hj=>by
   have:=congrArg (fun l=>l[j]?) h8
   simp only [List.getElem?_take,if_pos hj,Array.getElem?_toList] at this
   rw [this];simp
  refine ⟨g,c,cur,cs,rfl,h5,h6,h3,h4,h7,h2 (f,cs) (by simp),fun j u hj=>?_,fun w' cur' k1 k2 k3 k4 k5=>?_⟩
  ·have hjl:=(List.getElem?_eq_some_iff.1 hj).1
   rw [hget _ (by rw [Nat.succ_mul];omega),List.getElem?_append_right (by omega),hfl,Nat.add_sub_cancel_left]
   exact hj
  ·have hrep:∀ y ∈ yi,Lay.rep w' S y.1 y.2:=fun y hy=>Lay.mod (h2 y (by simp [hy])) k4 (fun k hk hs=>k5 k hk hs)
   have hcap:(i.length + 1) * Lay.size α ≤ c * Lay.size α:=Nat.mul_le_mul_right _ h5
   rw [Nat.succ_mul] at hcap
   have hpre:∀ j u,(yi.flatMap (·.2))[j]? = some u → cur'.toList[j]? = some u:=fun j u hj=>by
    have hjl:=(List.getElem?_eq_some_iff.1 hj).1
    rw [Array.getElem?_toList,k3 j (by omega),hget j (by rw [Nat.succ_mul];omega),List.getElem?_append_left hjl]
    exact hj
   refine ⟨⟨yi,hyi,⟨hfl,.inr ⟨g,c,cur',rfl,h3,k1,by omega,h6,k2.trans h7,?_⟩⟩,hrep⟩,fun f' cs' q1 q2=>?_⟩
   ·rw [← hfl]
    exact take_get hpre
   ·have hcs':cs'.length = Lay.size α:=Lay.len q1
    refine ⟨yi ++ [(f',cs')],by simp [hyi],?_,fun y hy=>?_⟩
    ·rw [show (i ++ [f']).length = i.length + 1 by simp]
     have hf2:((yi ++ [(f',cs')]).flatMap (·.2)) = yi.flatMap (·.2) ++ cs':=by simp
     have hl2:(yi.flatMap (·.2) ++ cs').length = (i.length + 1) * Lay.size α:=by rw [List.length_append,hfl,hcs',Nat.succ_mul]
     rw [hf2]
     refine ⟨hl2,.inr ⟨g,c,cur',rfl,h3,k1,h5,h6,k2.trans h7,?_⟩⟩
     rw [← hl2]
     refine take_get (fun j u hj=>?_)
     by_cases hjl:j < (yi.flatMap (·.2)).length
     ·rw [List.getElem?_append_left hjl] at hj
      exact hpre j u hj
     ·rw [List.getElem?_append_right (by omega),hfl] at hj
      have:=q2 _ _ hj
      rw [hfl] at hjl
      rw [Array.getElem?_toList]
      rwa [show i.length * Lay.size α + (j - i.length * Lay.size α) = j by omega] at this
    ·rcases List.mem_append.1 hy with hy | hy
     ·exact hrep y hy
     ·simp at hy;subst hy;exact q1
theorem OwnL.setLast {α:Type} [Lay α] {t:TypeId} {w:World} {base g c:Nat} {S:Nat → Prop} {i:List α} {f:α} (h:OwnL t w base S (.slice (some ⟨g,0,none⟩) (i.length + 1) c) (i ++ [f])) (hS:∀ k,k < w.heap.size → S k → k ≠ g) (j:Nat) (z:Value) (f':α)
  (hrep:∀ cs,Lay.rep w S f cs → Lay.rep w S f' (cs.set j z)):OwnL t (w.setCell ⟨g,i.length * Lay.size α + j,none⟩ z) base S (.slice (some ⟨g,0,none⟩) (i.length + 1) c) (i ++ [f']):=by
 obtain ⟨g',c',cur,cs,e,h2,h3,h4,h5,h6,h7,h8,h9⟩:=h.last
 injection e with e1 _ e3
 injection e1 with e1
 injection e1 with e1 _ _
 subst e1 e3
 have hM:Mod (· = g) w (w.setCell ⟨g,i.length * Lay.size α + j,none⟩ z):=Mod.setCell (T:=(· = g)) (Mod.refl _ w) (fun _=>rfl) _
 have hr:=hrep cs h7
 refine (h9 _ _ (heap_setCell_same w g _ _ _ _ h5) (by simp) (fun k hk=>?_) hM hS).2 f' _ (Lay.mod hr hM (fun k hk hs e=>hS k hk hs e)) (fun k u hk=>?_)
 ·rw [Array.getElem?_setIfInBounds_ne (by omega)]
 ·have hlen:cs.length = Lay.size α:=Lay.len h7
  have hcap:(i.length + 1) * Lay.size α ≤ c * Lay.size α:=Nat.mul_le_mul_right _ h2
  rw [Nat.succ_mul] at hcap
  rw [List.getElem?_set] at hk
  by_cases hkj:j = k
  ·subst hkj
   rw [if_pos rfl] at hk
   split at hk
   ·next hlt =>
    rw [Array.getElem?_setIfInBounds_self_of_lt (by omega)]
    exact hk
   ·cases hk
  ·rw [if_neg hkj] at hk
   rw [Array.getElem?_setIfInBounds_ne (by omega)]
   exact h8 k u hk
theorem OwnL.dropLast {α:Type} [Lay α] {t:TypeId} {w:World} {base g c:Nat} {S:Nat → Prop} {i:List α} {f:α} (h:OwnL t w base S (.slice (some ⟨g,0,none⟩) (i.length + 1) c) (i ++ [f])) (hS:∀ k,k < w.heap.size → S k → k ≠ g):OwnL t w base S (.slice (some ⟨g,0,none⟩) i.length c) i:=by
 obtain ⟨g',c',cur,cs,e,h2,h3,h4,h5,h6,h7,h8,h9⟩:=h.last
 injection e with e1 _ e3
 injection e1 with e1
 injection e1 with e1 _ _
 subst e1 e3
 exact (h9 w cur h5 rfl (fun _ _=>rfl) (Mod.refl _ w) hS).1
theorem bI (xs:List UInt8) (v:Value) (w:World) (hv:aa w (· < w.heap.size) xs v) (hl:xs.length ≤ 4294967296) :
  Calls Tryz.prog 69 #[v] w fun e w'=>∃ u,e = .returned u ∧ OwnL 5 w' w.heap.size (· < w'.heap.size) u xs ∧ Below w.heap.size w w' ∧ ∀ g,u.ownBlock = some g → w.heap.size ≤ g:=by
 obtain ⟨A,c,rfl,h1,h2,h3,hL⟩:=hv
 cases A with
 | none =>
  obtain rfl:=h3 rfl
  have hx:xs = []:=List.eq_nil_of_length_eq_zero (by omega)
  subst hx
  clear h1 h2 h3 hL hl
  have heq:=Lib.run_eql_slice_nil (P:=Tryz.prog) w 27 5 none 0 0 0 0 undUInt8
  simp only [List.length_nil]
  go_enter Tryz.func69,Tryz.ntmps69
  go_wp2_with fail
  go_ret
  exact ⟨_,rfl,OwnL.nil _ _ _ _,Below.refl _ _,fun g hg=>by simp [Value.ownBlock] at hg⟩
 | some a =>
  have hb0:Below w.heap.size w (w.alloc (.cells #[] 5)):=bA
  have hO:=OwnL.lit0 (α:=UInt8) 5 w w.heap.size (fun k=>k < w.heap.size) (Nat.le_refl _)
  obtain ⟨v5,w5,hrun,hO5,hM5,hT5⟩:=appendL undUInt8 infUInt8 (by decide) rfl (by decide) (w.alloc (.cells #[] 5)) w.heap.size (fun k=>k < w.heap.size) (.slice (some ⟨w.heap.size,0,none⟩) 0 0) [] xs (some a) xs.length c hO (hL.mod (T:=fun _=>False) (Mod.of_below hb0) (fun _ _ _ h=>h)) rfl (by simpa using hl) hb0.size (fun g _ hg e=>by simp [Value.ownBlock] at e;omega)
  have HRUN:=J hrun
  have hB:Below w.heap.size w w5:=hb0.trans (hM5.below hb0.size (fun k hk e=>by simp [Value.ownBlock] at e;omega))
  have HO:=J ((hO5.more (S':=(· < w5.heap.size)) (fun g _ hg=>Nat.lt_of_lt_of_le hg.1 hB.size)))
  have HB:=J hB
  have HG:Hid (∀ g,v5.ownBlock = some g → w.heap.size ≤ g):=J (fun g hg=>by
   rcases hT5 g hg with h | h
   ·simp [Value.ownBlock] at h;omega
   ·simp at h;omega)
  obtain ⟨n,hn⟩:∃ n,xs.length = n:=⟨_,rfl⟩
  rw [hn] at HRUN
  rw [hn]
  clear hn hrun hO5 hM5 hT5 hB hO hb0 hL h1 h2 h3 hl
  have heq:=Lib.run_eql_slice_nil (P:=Tryz.prog) w 27 5 (some a) n c 0 0 undUInt8
  go_enter Tryz.func69,Tryz.ntmps69
  go_wp2_with (at_builtin;refine ag rfl (.tmp 5) (.tmp 6) 27 rfl _ _ _ w5 rfl rfl HRUN.out ?_)
  go_ret
  exact ⟨_,rfl,HO.out,HB.out,HG.out⟩
theorem eC {P:Program} (w:World) (t e ty:TypeId) (z:Value) (ht:P.underlying t = some (.slice e)) (hv:∀ w,(zeroValue e).run P w = .ok z w) (hz:z.cells.toList.all (·.oneCell') = true) (b o c:Nat)
  (hc:∀ j,j < z.cells.size → (w.cell? ⟨b,o + j,none⟩).isSome = true) (hf:∀ j,j < z.cells.size → w.frozen? ⟨b,o + j,none⟩ = false) :
  (Builtin.clear_ #[t] ty #[.slice (some ⟨b,o,none⟩) 1 c]).run P w = .ok (.tuple #[]) (w.setCells b o z.cells.toList):=by
 have hzc:(Builtin.zeroCells z.cells 1).toList = z.cells.toList:=by
  simp [Builtin.zeroCells]
  apply List.ext_getElem
  ·simp
  ·intro i h1 h2
   simp at h1
   simp [Nat.mod_eq_of_lt h1,getElem!_pos z.cells i h1]
 have hst:=run_storeCells_cells (P:=P) b o z.cells.toList 0 w (by simpa using hc) (by simpa using hf) (by intro v hv';exact List.all_eq_true.1 hz v hv')
 simp only [Nat.add_zero] at hst
 simp [Builtin.clear_,run_underlying ht,hv,hzc,hst]
def inS (F:Nat → Prop) (P:Nat) (vo vf:Value):Nat → Prop:=fun k=>F k ∧ k ≠ P ∧ vo.ownBlock ≠ some k ∧ vf.ownBlock ≠ some k
structure Stk (w:World) (F:Nat → Prop) (P:Nat) (s:Ty.T) (vo vf:Value):Prop where
 blk:w.heap[P]? = some (.cells #[vo,vf,.int .i64 ↑s.most] 180 (0,0))
 ops:w.ownsRow 0 5 1 vo s.ops.length (bytesOf s.ops)
 frs:OwnL 186 w 0 (inS F P vo vf) vf s.frs
 inP:F P
 inO:∀ k,vo.ownBlock = some k → F k
 inF:∀ k,vf.ownBlock = some k → F k
theorem dJ {w:World} {base e size n g:Nat} {v:Value} {xs:List Value} (h:w.ownsRow base e size v n xs) (hg:v.ownBlock = some g):∃ cur,w.heap[g]? = some (.cells cur e (0,0)):=by
 rcases h.2 with ⟨rfl,_⟩ | ⟨g',cap,cur,rfl,_,hh,_⟩
 ·cases hg
 ·injection hg with hg
  subst hg
  exact ⟨cur,hh⟩
theorem OwnL.block {α:Type} [Lay α] {t:TypeId} {w:World} {base g:Nat} {S:Nat → Prop} {v:Value} {xs:List α} (h:OwnL t w base S v xs) (hg:v.ownBlock = some g):∃ cur,w.heap[g]? = some (.cells cur t (0,0)):=by
 obtain ⟨ys,_,h1,_⟩:=h
 exact dJ h1 hg
section
variable {w:World} {F:Nat → Prop} {P:Nat} {s:Ty.T} {vo vf:Value}
theorem Stk.neO (h:Stk w F P s vo vf):vo.ownBlock ≠ some P:=fun e=>by
 obtain ⟨cur,hc⟩:=dJ h.ops e
 rw [h.blk] at hc
 injection hc with hc
 injection hc with _ hc
 exact absurd hc (by decide)
theorem Stk.neF (h:Stk w F P s vo vf):vf.ownBlock ≠ some P:=fun e=>by
 obtain ⟨cur,hc⟩:=h.frs.block e
 rw [h.blk] at hc
 injection hc with hc
 injection hc with _ hc
 exact absurd hc (by decide)
theorem Stk.neOF (h:Stk w F P s vo vf):∀ k,vo.ownBlock = some k → vf.ownBlock ≠ some k:=fun k e1 e2=>by
 obtain ⟨c1,h1⟩:=dJ h.ops e1
 obtain ⟨c2,h2⟩:=h.frs.block e2
 rw [h1] at h2
 injection h2 with h2
 injection h2 with _ h2
 exact absurd h2 (by decide)
theorem Stk.lt (h:Stk w F P s vo vf):P < w.heap.size:=(gL h.blk)
theorem Stk.mod {w':World} {T:Nat → Prop} (h:Stk w F P s vo vf) (hm:Mod T w w') (ht:∀ k,k < w.heap.size → F k → ¬ T k):Stk w' F P s vo vf:=by
 have hO:=own_lt h.ops
 have hF:=h.frs.lt
 exact ⟨hm.heap h.blk (ht P h.lt h.inP),hm.own h.ops (fun k hk=>ht k (hO k hk) (h.inO k hk)),h.frs.mod hm (fun k hk=>ht k (hF k hk).2 (h.inF k hk)) (fun k hk hs=>ht k hk hs.1),h.inP,h.inO,h.inF⟩
theorem Stk.on {w':World} (h:Stk w F P s vo vf) (hb:Below w.heap.size w w'):Stk w' F P s vo vf:=h.mod (T:=fun _=>False) (Mod.of_below hb) (fun _ _ _ h=>h)
theorem Stk.more {F':Nat → Prop} (h:Stk w F P s vo vf) (hf:∀ k,F k → F' k):Stk w F' P s vo vf :=
 ⟨h.blk,h.ops,h.frs.more (fun _ _ hs=>⟨hf _ hs.1,hs.2⟩),hf _ h.inP,fun k e=>hf _ (h.inO k e),fun k e=>hf _ (h.inF k e)⟩
theorem Stk.cell0 (h:Stk w F P s vo vf):w.cell? ⟨P,0,none⟩ = some vo:=by rw [cell_of_row w P 0 _ _ (0,0) h.blk];rfl
theorem Stk.cell1 (h:Stk w F P s vo vf):w.cell? ⟨P,1,none⟩ = some vf:=by rw [cell_of_row w P 1 _ _ (0,0) h.blk];rfl
theorem Stk.cell2 (h:Stk w F P s vo vf):w.cell? ⟨P,2,none⟩ = some (.int .i64 ↑s.most):=by rw [cell_of_row w P 2 _ _ (0,0) h.blk];rfl
theorem Stk.frozen (h:Stk w F P s vo vf) (j:Nat):w.frozen? ⟨P,j,none⟩ = false:=frozen_of_row w P j _ _ h.blk
theorem Stk.leave {A:Option Addr} {m c n:Nat} (h:Stk w F P s (.slice A m c) vf) (hm:m = s.ops.length) (hn:n ≤ s.ops.length):Stk (w.setCell ⟨P,0,none⟩ (.slice A n c)) F P (s.cutTo n) (.slice A n c) vf:=by
 subst hm
 have hM:Mod (· = P) w (w.setCell ⟨P,0,none⟩ (.slice A n c)):=Mod.setCell (T:=(· = P)) (Mod.refl _ w) (fun _=>rfl) _
 have hO:w.ownsRow 0 5 1 (.slice A n c) (s.cutTo n).ops.length (bytesOf (s.cutTo n).ops):=by
  have:=own_cut h.ops hn
  rw [show (s.cutTo n).ops.length = n by simp [Ty.T.cutTo];omega]
  exact this
 have e:(Value.slice A n c).ownBlock = (Value.slice A s.ops.length c).ownBlock:=by cases A <;> rfl
 have hn1:=h.neO
 have hn2:=h.neF
 refine ⟨?_,hM.own hO (fun g hg e'=>hn1 (by rw [← e,hg,e'])),?_,h.inP,fun k hk=>h.inO k (by rw [← e];exact hk),h.inF⟩
 ·rw [heap_setCell_same w P 0 _ _ _ h.blk];rfl
 ·have:=h.frs.mod hM (fun g hg e'=>hn2 (by rw [hg,e'])) (fun g _ hs e'=>hs.2.1 e')
  unfold inS at this ⊢
  rw [e]
  exact this
end
theorem cw {w:World} {F:Nat → Prop} {P:Nat} {s:Ty.T} {vo vf:Value} (h:Stk w F P s vo vf) :
  Calls Tryz.prog 139 #[.pointer (some ⟨P,0,none⟩)] w fun e w'=>w' = w ∧ e = .returned (.int .i64 ↑s.frs.length):=by
 have h0:=h.cell1
 obtain ⟨ys,_,h1,_⟩:=h.frs
 obtain ⟨A,c,rfl,_,_⟩:=aH h1
 clear h1 h
 obtain ⟨m,hm⟩:∃ m,s.frs.length = m:=⟨_,rfl⟩
 rw [hm] at h0
 rw [hm]
 clear hm
 go_enter Tryz.func139,Tryz.ntmps139
 go_wp2_with fail
 go_ret
 exact ⟨rfl,rfl⟩
theorem tmost_any {w:World} {F:Nat → Prop} {P:Nat} {s:Ty.T} {vo vf:Value} (h:Stk w F P s vo vf) :
  Calls Tryz.prog 92 #[.pointer (some ⟨P,0,none⟩)] w fun e w'=>w' = w ∧ e = .returned (.int .i64 ↑s.most):=by
 have h0:=h.cell2
 clear h
 go_enter Tryz.func92,Tryz.ntmps92
 go_wp2_with fail
 go_ret
 exact ⟨rfl,rfl⟩
theorem cd {w:World} {F:Nat → Prop} {P:Nat} {s:Ty.T} {vo vf:Value} (h:Stk w F P s vo vf) (n:Nat) (hn:n ≤ s.ops.length) :
  Calls Tryz.prog 120 #[.pointer (some ⟨P,0,none⟩),.int .i64 ↑n] w fun e w'=>e = .returned (.tuple #[]) ∧ ∃ vo',Stk w' F P (s.cutTo n) vo' vf ∧ Mod (· = P) w w':=by
 obtain ⟨A,c,rfl,hnc,hcm⟩:=aH h.ops
 have h0:=h.cell0
 have hf:=h.frozen 0
 have HR:=J (h.leave rfl hn)
 have HM:Hid (Mod (· = P) w (w.setCell ⟨P,0,none⟩ (.slice A n c))):=J (Mod.setCell (T:=(· = P)) (Mod.refl _ w) (fun _=>rfl) _)
 clear h
 unfold maxLen at hcm
 have h1:(n:Int) ≤ (c:Int):=by omega
 have h2:n ≤ c:=by omega
 obtain ⟨m,hm⟩:∃ m,s.ops.length = m:=⟨_,rfl⟩
 rw [hm] at h0 hn hnc
 clear hm
 go_enter Tryz.func120,Tryz.ntmps120
 go_wp2_with fail
 go_end0
 exact ⟨rfl,_,HR.out,HM.out⟩
theorem bJ {w:World} {F:Nat → Prop} {P:Nat} {s:Ty.T} {vo vf:Value} (h:Stk w F P s vo vf) (hn:s.frs = []) :
  Calls Tryz.prog 118 #[.pointer (some ⟨P,0,none⟩)] w fun e w'=>w' = w ∧ e = .returned (.pointer none):=by
 have HC:=J (cw h)
 rw [hn] at HC
 simp only [List.length_nil] at HC
 clear h hn
 go_enter Tryz.func118,Tryz.ntmps118
 go_wp2_with (go_at_call 139;refine HC.out.mono ?_;rintro e w1 ⟨rfl,rfl⟩)
 go_ret
 exact ⟨rfl,rfl⟩
theorem bK {w:World} {F:Nat → Prop} {P:Nat} {s:Ty.T} {vo:Value} {i:List Ty.Fr} {f:Ty.Fr} {g c:Nat} (h:Stk w F P s vo (.slice (some ⟨g,0,none⟩) (i.length + 1) c)) (hf:s.frs = i ++ [f]) (hl:i.length ≤ 1000000000) :
  Calls Tryz.prog 118 #[.pointer (some ⟨P,0,none⟩)] w fun e w'=>Below w.heap.size w w' ∧ e = .returned (.pointer (some ⟨g,i.length * 4,none⟩)):=by
 have HC:=J (cw h)
 have hlen:s.frs.length = i.length + 1:=by rw [hf];simp
 rw [hlen] at HC
 have h0:=h.cell1
 obtain ⟨m,hm⟩:∃ m,i.length = m:=⟨_,rfl⟩
 rw [hm] at h0 HC hl
 rw [hm]
 clear h hf hlen hm
 have hne:((m:Int) + 1 == 0) = false:=by simp;omega
 go_enter Tryz.func118,Tryz.ntmps118
 go_wp2_with (go_at_call 139;refine HC.out.mono ?_;rintro e w1 ⟨rfl,rfl⟩)
 go_quiet (fail)
 go_wp2_with fail
 go_ret
 exact ⟨Below.dn (Below.refl _ _) _,rfl⟩
end Go.Proofs.YtmpelmihdpomjaaGreat
