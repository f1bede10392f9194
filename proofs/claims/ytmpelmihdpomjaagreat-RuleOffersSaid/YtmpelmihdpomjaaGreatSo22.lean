/-
  How a slice of sections that came in is opened: to sections, each one's bytes opened too; and how long they are at most.
-/
import Derived.Test.YtmpelmihdpomjaaGreatSo01
import Derived.Test.YtmpelmihdpomjaaGreatSo17
import Derived.Test.YtmpelmihdpomjaaGreatSo06
import Derived.Deep.Cut
import Derived.IntWalk
import Derived.Test.YtmpelmihdpomjaaGreatSo10
import Derived.Deep.Slices
import Derived.Deep.Fields
import Derived.ChangeSame
import Derived.SizedLaws
import Derived.Test.YtmpelmihdpomjaaGreatSo16
import Derived.Test.YtmpelmihdpomjaaGreatSo08
import Derived.Test.YtmpelmihdpomjaaGreatSo04
set_option maxRecDepth 100000
set_option maxHeartbeats 4000000
namespace Go.Proofs.YtmpelmihdpomjaaGreat
open Go.RowKit Sec
open Go.ChangeShapes Go.WideShapes Go.ChangeAt Go.Deep
section
variable {H:Type} {enc:TypeId × Value → H} {W:World}
end
end Go.Proofs.YtmpelmihdpomjaaGreat
namespace Go.Proofs.YtmpelmihdpomjaaGreat
open Go.RowKit Ins Bin
open Go.ChangeShapes Go.WideShapes Go.ChangeAt Go.Deep
noncomputable def spots (T:TypeId):List (TypeId × Nat × Nat):=match Tryz.prog.underlying T with
 | some (.struct fs)=>fs.toList.map fun f=>(f.type,f.offset,Tryz.prog.cellsOf f.type)
 | _=>[]
section
variable {H:Type} {enc:TypeId × Value → H} {W:World}
def Rdg (W:World) (enc:TypeId × Value → H) (n:Nat) (T:TypeId) (cs:List Value) (d:DataW H):Prop :=
 (∃ p,DataW.trod enc Tryz.prog W 0 (fun _=>true) true n T cs = some (d,p)) ∧ ∀ k ∈ d.weights Tryz.prog T,k ≤ reachBytes
theorem cA {P:Program}:∀ {ts:List TypeId} {ds:List (DataW H)} {j:Nat} {t:TypeId} {d:DataW H},ts[j]? = some t → ds[j]? = some d → ∀ k ∈ d.weights P t,k ∈ DataW.weightsEach P ts ds
 | [],_,_,_,_,h,_,_,_=>by simp at h
 | _ :: _,[],_,_,_,_,h,_,_=>by simp at h
 | u :: ts,e :: ds,0,t,d,h1,h2,k,hk=>by
  simp at h1 h2
  subst h1 h2
  simp only [DataW.weightsEach,List.mem_append]
  exact .inl hk
 | u :: ts,e :: ds,j + 1,t,d,h1,h2,k,hk=>by
  simp only [DataW.weightsEach,List.mem_append]
  exact .inr (cA (ts:=ts) (ds:=ds) (by simpa using h1) (by simpa using h2) k hk)
theorem aI {T:TypeId} {L:List (TypeId × Nat × Nat)} (hL:spots T = L) (h0:L ≠ []) {n:Nat} {cs:List Value} {d:DataW H} (h:Rdg W enc n T cs d) :
  cs.length = Tryz.prog.cellsOf T ∧ ∃ ds:List (DataW H),ds.length = L.length ∧ Rows.uptoBulkAll ds + 1 ≤ Rows.uptoBulk d ∧ ∀ (j:Nat) (t:TypeId) (o c:Nat),L[j]? = some (t,o,c) → ∃ n' d',ds[j]? = some d' ∧ Rdg W enc n' t ((cs.drop o).take c) d':=by
 obtain ⟨⟨p,hp⟩,hw⟩:=h
 unfold spots at hL
 split at hL
 ·next fs hu =>
  obtain ⟨ys,n',_,hx,hcl,hyl,hf⟩:=DataW.trod_struct hu hp
  injection hx with hx _
  refine ⟨hcl,ys.map (·.1),?_,?_,fun j t o c hj=>?_⟩
  ·subst hL
   simp [hyl]
  ·rw [hx]
   simp only [Rows.uptoBulk]
   exact Nat.le_refl _
  subst hL
  rw [List.getElem?_map,Option.map_eq_some_iff] at hj
  obtain ⟨f,hfj,he⟩:=hj
  injection he with e1 he
  injection he with e2 e3
  subst e1 e2 e3
  have hfj':fs[j]? = some f:=by rw [← Array.getElem?_toList];exact hfj
  have hlt:j < ys.length:=by
   rw [hyl]
   exact (gL hfj')
  have hy:=hf j f hfj'
  refine ⟨n',(ys[j]).1,by rw [List.getElem?_map,List.getElem?_eq_getElem hlt];rfl,⟨(ys[j]).2,?_⟩,fun k hk=>hw k ?_⟩
  ·rw [hy,List.getElem?_eq_getElem hlt]
  ·rw [hx]
   simp only [DataW.weights,hu]
   exact cA (j:=j) (t:=f.type) (d:=(ys[j]).1) (by rw [List.getElem?_map,hfj];rfl) (by rw [List.getElem?_map,List.getElem?_eq_getElem hlt];rfl) k hk
 ·exact absurd hL.symm h0
theorem bY {T:TypeId} {L:List (TypeId × Nat × Nat)} (hL:spots T = L) (h0:L ≠ []) {n:Nat} {cs:List Value} {d:DataW H} (h:Rdg W enc n T cs d) :
  cs.length = Tryz.prog.cellsOf T ∧ ∀ (j:Nat) (t:TypeId) (o c:Nat),L[j]? = some (t,o,c) → ∃ n' d',Rdg W enc n' t ((cs.drop o).take c) d':=by
 obtain ⟨h1,ds,_,_,h2⟩:=aI hL h0 h
 exact ⟨h1,fun j t o c hj=>by
  obtain ⟨n',d',_,hr⟩:=h2 j t o c hj
  exact ⟨n',d',hr⟩⟩
end
class Opn (α:Type) [Lay α] where
 T:TypeId
 big:α → Prop
 wt:α → Nat
 openW:∀ {H:Type} {enc:TypeId × Value → H} {W:World} {n:Nat} {cs:List Value} {d:DataW H},Rdg W enc n T cs d → ∃ x:α,Lay.rep W (· < W.heap.size) x cs ∧ big x ∧ wt x ≤ Rows.uptoBulk d
 cells:Tryz.prog.cellsOf T = Lay.size α
 pos:0 < Lay.size α
 bytes:1 ≤ Tryz.prog.bytesOf T
def wts {α:Type} [Lay α] [Opn α] (xs:List α):Nat:=(xs.map Opn.wt).sum
theorem wts_bulk {α:Type} [Lay α] [Opn α] {H:Type}:∀ (xs:List α) (ds:List (DataW H)),xs.length = ds.length → (∀ (k:Nat) x d,xs[k]? = some x → ds[k]? = some d → Opn.wt x ≤ Rows.uptoBulk d) → wts xs ≤ Rows.uptoBulkAll ds
 | [],_,_,_=>by simp [wts]
 | x :: xs,[],h,_=>by simp at h
 | x :: xs,d :: ds,h,hk=>by
  have h1:=wts_bulk xs ds (by simpa using h) (fun k y e h1 h2=>hk (k + 1) y e (by simpa using h1) (by simpa using h2))
  have h2:=hk 0 x d rfl rfl
  simp only [wts,Rows.uptoBulkAll,List.map_cons,List.sum_cons] at h1 ⊢
  omega
theorem ay {α:Type} [Lay α] [Opn α] {ST:TypeId} (hu:Tryz.prog.underlying ST = some (.slice (Opn.T α))) {H:Type} {enc:TypeId × Value → H} {W:World} {n:Nat} {v:Value} {d:DataW H} (h:Rdg W enc n ST [v] d) :
  ∃ xs:List α,aa W (· < W.heap.size) xs v ∧ xs.length ≤ 140737488355328 ∧ (∀ x ∈ xs,Opn.big x) ∧ wts xs + 1 ≤ Rows.uptoBulk d:=by
 obtain ⟨⟨p,hp⟩,hs⟩:=h
 have hrb:=reachBytes_lt
 rcases open_slice hu hp with ⟨hcs,hx⟩ | ⟨a,len,cap,m,n',D,Pl,hcs,_,hl,hm,hmm,hx,hi⟩
 ·obtain rfl:v = .slice none 0 0:=by simpa using hcs
  injection hx with hx _
  exact ⟨[],aa.nil _ _,by simp,by simp,by rw [hx];simp [wts,Rows.uptoBulk]⟩
 ·obtain rfl:v = .slice (some a) len cap:=by simpa using hcs
  simp only [if_true] at hmm
  injection hx with hx _
  subst hx
  have hw:=hs ((len + (m - len)) * Tryz.prog.bytesOf (Opn.T α)) (by
   simp only [DataW.weights,hu,List.mem_cons]
   left
   simp)
  have hlen:len ≤ 140737488355328:=by
   have h1:len * 1 ≤ (len + (m - len)) * Tryz.prog.bytesOf (Opn.T α):=Nat.mul_le_mul (by omega) Opn.bytes
   omega
  have hE:∀ i,i < len → ∃ x:α,(Opn.big x ∧ Opn.wt x ≤ Rows.uptoBulk (D i)) ∧ ∃ cs:List Value,Lay.rep W (· < W.heap.size) x cs ∧ ∀ (j:Nat) (u:Value),cs[j]? = some u → W.cell? ((a.add (i * Lay.size α)).add j) = some u:=by
   intro i hil
   obtain ⟨cs',hc,ht⟩:=hi i (by omega)
   rw [Opn.cells] at hc
   obtain ⟨_,hcl,hat⟩:=World.cells?_some hc
   obtain ⟨x,h1,h2⟩:=Opn.openW (α:=α) (enc:=enc) (W:=W) (n:=n') (cs:=cs') (d:=D i) ⟨⟨_,ht⟩,fun k hk=>hs k (by
    simp only [DataW.weights,hu,List.mem_cons,List.mem_append]
    right;left
    exact cz (List.mem_map.2 ⟨i,List.mem_range.2 hil,rfl⟩) hk)⟩
   refine ⟨x,h2,cs',h1,fun j u hj=>?_⟩
   have hj5:j < Lay.size α:=by
    have:=(List.getElem?_eq_some_iff.1 hj).1
    omega
   rw [hat j hj5]
   exact hj
  obtain ⟨xs,hxl,hxs⟩:=dO len hE
  refine ⟨xs,⟨some a,cap,by rw [hxl],by omega,hm,(fun e=>by cases e),fun k x hk=>?_⟩,by omega,fun x hx=>?_,?_⟩
  ·obtain ⟨_,cs,h1,h2⟩:=hxs k x hk
   have hpos:0 < len:=by
    have:=(List.getElem?_eq_some_iff.1 hk).1
    omega
   obtain ⟨x0,_,cs0,h10,h20⟩:=hE 0 hpos
   have hcl:=Lay.len h10
   obtain ⟨u0,hu0⟩:∃ u,cs0[0]? = some u:=⟨_,List.getElem?_eq_getElem (by have:=Opn.pos (α:=α);omega)⟩
   have hc0:=h20 0 u0 hu0
   have hsp:=dL hc0
   obtain ⟨g,o,sp⟩:=a
   obtain rfl:sp = none:=by simpa [Addr.add] using hsp
   have hb:g < W.heap.size:=by
    have:=fi hc0
    rwa [dC,dC] at this
   refine ⟨g,o,cs,rfl,hb,hb,h1,fun j u hj=>?_⟩
   have:=h2 j u hj
   rwa [dC,dC] at this
  ·obtain ⟨k,hk⟩:=List.mem_iff_getElem?.1 hx
   exact (hxs k x hk).1.1
  ·have hb:=wts_bulk xs ((List.range len).map D) (by simp [hxl]) (fun k x d h1 h2=>by
    have hk:k < len:=by rw [← hxl];exact (List.getElem?_eq_some_iff.1 h1).1
    have e:d = D k:=by
     rw [List.getElem?_map,List.getElem?_range hk] at h2
     exact (Option.some.inj h2).symm
    rw [e]
    exact (hxs k x h1).1.2)
   simp only [Rows.uptoBulk]
   omega
section
variable {H:Type} {enc:TypeId × Value → H} {W:World}
theorem o_undstr:Tryz.prog.underlying 9 = some .string:=by kernel_rfl
theorem ep {n:Nat} {v:Value} {d:DataW H} (h:Rdg W enc n 5 [v] d):∃ x:UInt8,v = .int .u8 ↑x.toNat:=by
 obtain ⟨⟨p,hp⟩,_⟩:=h
 obtain ⟨m,e,_,w⟩:=DataW.trod_int und5 hp
 have b:=bounds_u8 w
 refine ⟨UInt8.ofNat m.toNat,?_⟩
 have e':v = .int .u8 m:=by simpa using e
 rw [e',UInt8.toNat_ofNat']
 congr 1
 omega
theorem bF {n:Nat} {v:Value} {d:DataW H} (h:Rdg W enc n 44 [v] d):∃ x:Nat,v = .int .u32 ↑x ∧ x < 4294967296:=by
 obtain ⟨⟨p,hp⟩,_⟩:=h
 obtain ⟨m,e,_,w⟩:=DataW.trod_int co hp
 have b:=bounds_u32 w
 refine ⟨m.toNat,?_,by omega⟩
 have e':v = .int .u32 m:=by simpa using e
 rw [e']
 congr 1
 omega
theorem rdg_i64 {n:Nat} {v:Value} {d:DataW H} (h:Rdg W enc n 2 [v] d):∃ x:Int,v = .int .i64 x ∧ -9223372036854775808 ≤ x ∧ x ≤ 9223372036854775807:=by
 obtain ⟨⟨p,hp⟩,_⟩:=h
 obtain ⟨m,e,_,w⟩:=DataW.trod_int o_und2i hp
 have b:=bounds_i64 w
 exact ⟨m,by simpa using e,b.1,b.2⟩
theorem rdg_bool {n:Nat} {v:Value} {d:DataW H} (h:Rdg W enc n 4 [v] d):∃ x:Bool,v = .bool x:=by
 obtain ⟨⟨p,hp⟩,_⟩:=h
 obtain ⟨m,e,_⟩:=DataW.trod_bool und4 hp
 exact ⟨m,by simpa using e⟩
theorem fx {n:Nat} {v:Value} {d:DataW H} (h:Rdg W enc n 9 [v] d):∃ l:List UInt8,v = strV l ∧ l.length ≤ 140737488355328 ∧ l.length + 1 ≤ Rows.uptoBulk d:=by
 obtain ⟨⟨p,hp⟩,hw⟩:=h
 obtain ⟨s,e,hx,_⟩:=DataW.trod_string o_undstr hp
 injection hx with hx _
 subst hx
 have:=hw s.data.toList.length (by simp [DataW.weights])
 have hrb:=reachBytes_lt
 refine ⟨s.data.toList,?_,by omega,by simp [Rows.uptoBulk]⟩
 have e':v = .string s:=by simpa using e
 rw [e']
 unfold strV
 simp
theorem rdg_glob {n:Nat} {c0 c1:Value} {d:DataW H} (h:Rdg W enc n 54 [c0,c1] d):∃ g:Glob,c0 = .int .u8 ↑g.t.toNat ∧ c1 = .bool g.mu:=by
 obtain ⟨_,hf⟩:=bY (L:=[(5,0,1),(4,1,1)]) (by kernel_rfl) (by simp) h
 obtain ⟨_,_,h0⟩:=hf 0 _ _ _ rfl
 obtain ⟨_,_,h1⟩:=hf 1 _ _ _ rfl
 obtain ⟨x,e0⟩:=ep (v:=c0) h0
 obtain ⟨b,e1⟩:=rdg_bool (v:=c1) h1
 exact ⟨⟨x,b⟩,e0,e1⟩
theorem rdg_lim {n:Nat} {c0 c1:Value} {d:DataW H} (h:Rdg W enc n 66 [c0,c1] d):∃ x:Lim,c0 = .int .u32 ↑x.min ∧ c1 = .int .i64 x.max ∧ Lim.wf x:=by
 obtain ⟨_,hf⟩:=bY (L:=[(44,0,1),(2,1,1)]) (by kernel_rfl) (by simp) h
 obtain ⟨_,_,h0⟩:=hf 0 _ _ _ rfl
 obtain ⟨_,_,h1⟩:=hf 1 _ _ _ rfl
 obtain ⟨x,e0,g0⟩:=bF (v:=c0) h0
 obtain ⟨y,e1,g1,g2⟩:=rdg_i64 (v:=c1) h1
 exact ⟨⟨x,y⟩,e0,e1,g0,g1,g2⟩
end
theorem db {α:Type} {l:List α} (h:l.length = 2):∃ a b,l = [a,b]:=by
 match l,h with
 | [a,b],_=>exact ⟨a,b,rfl⟩
theorem bD {α:Type} {l:List α} (h:l.length = 3):∃ a b c,l = [a,b,c]:=by
 match l,h with
 | [a,b,c],_=>exact ⟨a,b,c,rfl⟩
theorem list_6 {α:Type} {l:List α} (h:l.length = 6):∃ x0 x1 x2 x3 x4 x5,l = [x0,x1,x2,x3,x4,x5]:=by
 match l,h with
 | [x0,x1,x2,x3,x4,x5],_=>exact ⟨x0,x1,x2,x3,x4,x5,rfl⟩
theorem list_12 {α:Type} {l:List α} (h:l.length = 12):∃ x0 x1 x2 x3 x4 x5 x6 x7 x8 x9 x10 x11,l = [x0,x1,x2,x3,x4,x5,x6,x7,x8,x9,x10,x11]:=by
 match l,h with
 | [x0,x1,x2,x3,x4,x5,x6,x7,x8,x9,x10,x11],_=>exact ⟨x0,x1,x2,x3,x4,x5,x6,x7,x8,x9,x10,x11,rfl⟩
instance : Opn UInt8 where
 T:=5
 big _:=True
 wt _:=1
 openW {_ _ _ _ cs _} h:=by
  have h0:=h
  obtain ⟨⟨p,hp⟩,_⟩:=h
  obtain ⟨m,e,_,w⟩:=DataW.trod_int und5 hp
  subst e
  obtain ⟨x,e⟩:=ep h0
  exact ⟨x,by rw [e];rfl,trivial,aX _⟩
 cells:=by kernel_rfl
 pos:=by decide
 bytes:=by rw [show Tryz.prog.bytesOf 5 = 1 by kernel_rfl];omega
instance : Opn Nat where
 T:=44
 big _:=True
 wt _:=1
 openW {_ _ _ _ cs _} h:=by
  have h0:=h
  obtain ⟨⟨p,hp⟩,_⟩:=h
  obtain ⟨m,e,_,w⟩:=DataW.trod_int co hp
  subst e
  obtain ⟨x,e,hx⟩:=bF h0
  exact ⟨x,⟨by rw [e],hx⟩,trivial,aX _⟩
 cells:=by kernel_rfl
 pos:=by decide
 bytes:=by rw [show Tryz.prog.bytesOf 44 = 4 by kernel_rfl];omega
def most:Nat:=140737488355328
instance : Opn I where
 T:=56
 big x:=x.l.length ≤ most
 wt x:=x.l.length + 5
 openW h:=by
  obtain ⟨⟨p,hp⟩,hw⟩:=h
  obtain ⟨A,c,x,e,h1,h2,h3,h4,h5,h6⟩:=open_cells hp hw
  exact ⟨x,⟨A,c,e,h1,h2,h3,h5⟩,h4,h6⟩
 cells:=by kernel_rfl
 pos:=by decide
 bytes:=by rw [show Tryz.prog.bytesOf 56 = 48 by kernel_rfl];omega
instance : Opn Lim where
 T:=66
 big _:=True
 wt _:=1
 openW {_ _ _ _ cs _} h:=by
  have hl:=(bY (L:=[(44,0,1),(2,1,1)]) (by kernel_rfl) (by simp) h).1
  obtain ⟨a,b,rfl⟩:=db (hl.trans (by kernel_rfl))
  obtain ⟨x,rfl,rfl,hx⟩:=rdg_lim h
  exact ⟨x,⟨rfl,hx⟩,trivial,aX _⟩
 cells:=by kernel_rfl
 pos:=by decide
 bytes:=by rw [show Tryz.prog.bytesOf 66 = 16 by kernel_rfl];omega
theorem fm:Tryz.prog.underlying 27 = some (.slice (Opn.T UInt8)):=by kernel_rfl
theorem dp:Tryz.prog.underlying 57 = some (.slice (Opn.T I)):=by kernel_rfl
theorem o_undNs:Tryz.prog.underlying 40 = some (.slice (Opn.T Nat)):=by kernel_rfl
theorem wts_u8 (l:List UInt8):wts l = l.length:=by
 induction l with
 | nil=>rfl
 | cons x l ih=>show 1 + wts l = l.length + 1;omega
theorem wts_nat (l:List Nat):wts l = l.length:=by
 induction l with
 | nil=>rfl
 | cons x l ih=>show 1 + wts l = l.length + 1;omega
theorem dz:∀ (l:List I),wts l = tot l
 | []=>rfl
 | x :: l=>by show x.l.length + 5 + wts l = tot (x :: l);rw [dz l];rfl
instance : Opn FT where
 T:=29
 big x:=x.params.length ≤ most ∧ x.results.length ≤ most
 wt x:=x.params.length + x.results.length + 1
 openW {_ _ _ _ cs _} h:=by
  obtain ⟨hl,ds,hdl,hbk,hf⟩:=aI (L:=[(27,0,1),(27,1,1)]) (by kernel_rfl) (by simp) h
  obtain ⟨e0,e1,rfl⟩:=db hdl
  simp only [Rows.uptoBulkAll] at hbk
  obtain ⟨a,b,rfl⟩:=db (hl.trans (by kernel_rfl))
  obtain ⟨_,_,y0,h0⟩:=hf 0 _ _ _ rfl
  obtain rfl:=Option.some.inj y0
  obtain ⟨_,_,y1,h1⟩:=hf 1 _ _ _ rfl
  obtain rfl:=Option.some.inj y1
  obtain ⟨xs,s0,l0,_,t0⟩:=ay (v:=a) fm h0
  obtain ⟨ys,s1,l1,_,t1⟩:=ay (v:=b) fm h1
  rw [wts_u8] at t0 t1
  exact ⟨⟨xs,ys⟩,⟨a,b,rfl,s0,s1⟩,⟨l0,l1⟩,by dsimp only;omega⟩
 cells:=by kernel_rfl
 pos:=by decide
 bytes:=by rw [show Tryz.prog.bytesOf 29 = 48 by kernel_rfl];omega
instance : Opn Imp where
 T:=75
 big x:=x.mod.length ≤ most ∧ x.name.length ≤ most
 wt x:=x.mod.length + x.name.length + 1
 openW {_ _ _ _ cs _} h:=by
  obtain ⟨hl,ds,hdl,hbk,hf⟩:=aI (L:=[(9,0,1),(9,1,1),(5,2,1),(44,3,1),(66,4,2),(54,6,2)]) (by kernel_rfl) (by simp) h
  obtain ⟨e0,e1,e2,e3,e4,e5,rfl⟩:=list_6 hdl
  simp only [Rows.uptoBulkAll] at hbk
  have hl8:cs.length = 8:=hl.trans (by kernel_rfl)
  match cs,hl8 with
  | [c0,c1,c2,c3,c4,c5,c6,c7],_ =>
   obtain ⟨_,_,y0,h0⟩:=hf 0 _ _ _ rfl
   obtain rfl:=Option.some.inj y0
   obtain ⟨_,_,y1,h1⟩:=hf 1 _ _ _ rfl
   obtain rfl:=Option.some.inj y1
   obtain ⟨_,_,y2,h2⟩:=hf 2 _ _ _ rfl
   obtain rfl:=Option.some.inj y2
   obtain ⟨_,_,y3,h3⟩:=hf 3 _ _ _ rfl
   obtain rfl:=Option.some.inj y3
   obtain ⟨_,_,y4,h4⟩:=hf 4 _ _ _ rfl
   obtain rfl:=Option.some.inj y4
   obtain ⟨_,_,y5,h5⟩:=hf 5 _ _ _ rfl
   obtain rfl:=Option.some.inj y5
   obtain ⟨a,rfl,la,t0⟩:=fx (v:=c0) h0
   obtain ⟨b,rfl,lb,t1⟩:=fx (v:=c1) h1
   obtain ⟨k,rfl⟩:=ep (v:=c2) h2
   obtain ⟨t,rfl,ht⟩:=bF (v:=c3) h3
   obtain ⟨li,rfl,rfl,hli⟩:=rdg_lim (c0:=c4) (c1:=c5) h4
   obtain ⟨g,rfl,rfl⟩:=rdg_glob (c0:=c6) (c1:=c7) h5
   exact ⟨⟨a,b,k,t,li,g⟩,⟨rfl,ht,hli⟩,⟨la,lb⟩,by dsimp only;omega⟩
 cells:=by kernel_rfl
 pos:=by decide
 bytes:=by rw [show Tryz.prog.bytesOf 75 = 64 by kernel_rfl];omega
def bigE (xs:List I):Prop:=xs.length ≤ most ∧ ∀ x ∈ xs,x.l.length ≤ most
instance : Opn GV where
 T:=59
 big x:=bigE x.init
 wt x:=tot x.init + 1
 openW {_ _ _ _ cs _} h:=by
  obtain ⟨hl,ds,hdl,hbk,hf⟩:=aI (L:=[(54,0,2),(57,2,1)]) (by kernel_rfl) (by simp) h
  obtain ⟨e0,e1,rfl⟩:=db hdl
  simp only [Rows.uptoBulkAll] at hbk
  obtain ⟨a,b,c,rfl⟩:=bD (hl.trans (by kernel_rfl))
  obtain ⟨_,_,y0,h0⟩:=hf 0 _ _ _ rfl
  obtain rfl:=Option.some.inj y0
  obtain ⟨_,_,y1,h1⟩:=hf 1 _ _ _ rfl
  obtain rfl:=Option.some.inj y1
  obtain ⟨g,rfl,rfl⟩:=rdg_glob (c0:=a) (c1:=b) h0
  obtain ⟨xs,s1,l1,l2,t1⟩:=ay (v:=c) dp h1
  rw [dz] at t1
  have:=aX e0
  exact ⟨⟨g,xs⟩,⟨c,rfl,s1⟩,⟨l1,l2⟩,by dsimp only;omega⟩
 cells:=by kernel_rfl
 pos:=by decide
 bytes:=by rw [show Tryz.prog.bytesOf 59 = 32 by kernel_rfl];omega
instance : Opn Exp where
 T:=52
 big x:=x.name.length ≤ most
 wt x:=x.name.length + 1
 openW {_ _ _ _ cs _} h:=by
  obtain ⟨hl,ds,hdl,hbk,hf⟩:=aI (L:=[(9,0,1),(5,1,1),(44,2,1)]) (by kernel_rfl) (by simp) h
  obtain ⟨e0,e1,e2,rfl⟩:=bD hdl
  simp only [Rows.uptoBulkAll] at hbk
  obtain ⟨a,b,c,rfl⟩:=bD (hl.trans (by kernel_rfl))
  obtain ⟨_,_,y0,h0⟩:=hf 0 _ _ _ rfl
  obtain rfl:=Option.some.inj y0
  obtain ⟨_,_,y1,h1⟩:=hf 1 _ _ _ rfl
  obtain rfl:=Option.some.inj y1
  obtain ⟨_,_,y2,h2⟩:=hf 2 _ _ _ rfl
  obtain rfl:=Option.some.inj y2
  obtain ⟨s,rfl,ls,t0⟩:=fx (v:=a) h0
  obtain ⟨k,rfl⟩:=ep (v:=b) h1
  obtain ⟨t,rfl,ht⟩:=bF (v:=c) h2
  exact ⟨⟨s,k,t⟩,⟨rfl,ht⟩,ls,by dsimp only;omega⟩
 cells:=by kernel_rfl
 pos:=by decide
 bytes:=by rw [show Tryz.prog.bytesOf 52 = 24 by kernel_rfl];omega
instance : Opn El where
 T:=85
 big x:=bigE x.off ∧ x.funcs.length ≤ most
 wt x:=tot x.off + x.funcs.length + 1
 openW {_ _ _ _ cs _} h:=by
  obtain ⟨hl,ds,hdl,hbk,hf⟩:=aI (L:=[(44,0,1),(57,1,1),(40,2,1)]) (by kernel_rfl) (by simp) h
  obtain ⟨e0,e1,e2,rfl⟩:=bD hdl
  simp only [Rows.uptoBulkAll] at hbk
  obtain ⟨a,b,c,rfl⟩:=bD (hl.trans (by kernel_rfl))
  obtain ⟨_,_,y0,h0⟩:=hf 0 _ _ _ rfl
  obtain rfl:=Option.some.inj y0
  obtain ⟨_,_,y1,h1⟩:=hf 1 _ _ _ rfl
  obtain rfl:=Option.some.inj y1
  obtain ⟨_,_,y2,h2⟩:=hf 2 _ _ _ rfl
  obtain rfl:=Option.some.inj y2
  obtain ⟨t,rfl,ht⟩:=bF (v:=a) h0
  obtain ⟨xs,s1,l1,l2,t1⟩:=ay (v:=b) dp h1
  obtain ⟨ys,s2,l3,_,t2⟩:=ay (v:=c) o_undNs h2
  rw [dz] at t1
  rw [wts_nat] at t2
  exact ⟨⟨t,xs,ys⟩,⟨b,c,rfl,ht,s1,s2⟩,⟨⟨l1,l2⟩,l3⟩,by dsimp only;omega⟩
 cells:=by kernel_rfl
 pos:=by decide
 bytes:=by rw [show Tryz.prog.bytesOf 85 = 56 by kernel_rfl];omega
instance : Opn Lc where
 T:=61
 big _:=True
 wt _:=1
 openW {_ _ _ _ cs _} h:=by
  obtain ⟨hl,hf⟩:=bY (L:=[(44,0,1),(5,1,1)]) (by kernel_rfl) (by simp) h
  obtain ⟨a,b,rfl⟩:=db (hl.trans (by kernel_rfl))
  obtain ⟨_,_,h0⟩:=hf 0 _ _ _ rfl
  obtain ⟨_,_,h1⟩:=hf 1 _ _ _ rfl
  obtain ⟨t,rfl,ht⟩:=bF (v:=a) h0
  obtain ⟨k,rfl⟩:=ep (v:=b) h1
  exact ⟨⟨t,k⟩,⟨rfl,ht⟩,trivial,aX _⟩
 cells:=by kernel_rfl
 pos:=by decide
 bytes:=by rw [show Tryz.prog.bytesOf 61 = 8 by kernel_rfl];omega
theorem wts_lc (l:List Lc):wts l = l.length:=by
 induction l with
 | nil=>rfl
 | cons x l ih=>show 1 + wts l = l.length + 1;omega
theorem o_undLs:Tryz.prog.underlying 62 = some (.slice (Opn.T Lc)):=by kernel_rfl
instance : Opn Cd where
 T:=64
 big x:=x.locals.length ≤ most ∧ bigE x.body
 wt x:=x.locals.length + tot x.body + 1
 openW {_ _ _ _ cs _} h:=by
  obtain ⟨hl,ds,hdl,hbk,hf⟩:=aI (L:=[(62,0,1),(57,1,1)]) (by kernel_rfl) (by simp) h
  obtain ⟨e0,e1,rfl⟩:=db hdl
  simp only [Rows.uptoBulkAll] at hbk
  obtain ⟨a,b,rfl⟩:=db (hl.trans (by kernel_rfl))
  obtain ⟨_,_,y0,h0⟩:=hf 0 _ _ _ rfl
  obtain rfl:=Option.some.inj y0
  obtain ⟨_,_,y1,h1⟩:=hf 1 _ _ _ rfl
  obtain rfl:=Option.some.inj y1
  obtain ⟨xs,s0,l0,_,t0⟩:=ay (v:=a) o_undLs h0
  obtain ⟨ys,s1,l1,l2,t1⟩:=ay (v:=b) dp h1
  rw [wts_lc] at t0
  rw [dz] at t1
  exact ⟨⟨xs,ys⟩,⟨a,b,rfl,s0,s1⟩,⟨l0,l1,l2⟩,by dsimp only;omega⟩
 cells:=by kernel_rfl
 pos:=by decide
 bytes:=by rw [show Tryz.prog.bytesOf 64 = 48 by kernel_rfl];omega
instance : Opn Da where
 T:=87
 big x:=bigE x.off ∧ x.b.length ≤ most
 wt x:=tot x.off + x.b.length + 1
 openW {_ _ _ _ cs _} h:=by
  obtain ⟨hl,ds,hdl,hbk,hf⟩:=aI (L:=[(44,0,1),(57,1,1),(27,2,1)]) (by kernel_rfl) (by simp) h
  obtain ⟨e0,e1,e2,rfl⟩:=bD hdl
  simp only [Rows.uptoBulkAll] at hbk
  obtain ⟨a,b,c,rfl⟩:=bD (hl.trans (by kernel_rfl))
  obtain ⟨_,_,y0,h0⟩:=hf 0 _ _ _ rfl
  obtain rfl:=Option.some.inj y0
  obtain ⟨_,_,y1,h1⟩:=hf 1 _ _ _ rfl
  obtain rfl:=Option.some.inj y1
  obtain ⟨_,_,y2,h2⟩:=hf 2 _ _ _ rfl
  obtain rfl:=Option.some.inj y2
  obtain ⟨t,rfl,ht⟩:=bF (v:=a) h0
  obtain ⟨xs,s1,l1,l2,t1⟩:=ay (v:=b) dp h1
  obtain ⟨ys,s2,l3,_,t2⟩:=ay (v:=c) fm h2
  rw [dz] at t1
  rw [wts_u8] at t2
  exact ⟨⟨t,xs,ys⟩,⟨b,c,rfl,ht,s1,s2⟩,⟨⟨l1,l2⟩,l3⟩,by dsimp only;omega⟩
 cells:=by kernel_rfl
 pos:=by decide
 bytes:=by rw [show Tryz.prog.bytesOf 87 = 56 by kernel_rfl];omega
structure BigM (m:M):Prop where
 types:m.types.length ≤ most ∧ ∀ x ∈ m.types,Opn.big x
 imports:m.imports.length ≤ most ∧ ∀ x ∈ m.imports,Opn.big x
 funcs:m.funcs.length ≤ most
 tables:m.tables.length ≤ most
 mems:m.mems.length ≤ most
 globals:m.globals.length ≤ most ∧ ∀ x ∈ m.globals,Opn.big x
 exports:m.exports.length ≤ most ∧ ∀ x ∈ m.exports,Opn.big x
 elems:m.elems.length ≤ most ∧ ∀ x ∈ m.elems,Opn.big x
 codes:m.codes.length ≤ most ∧ ∀ x ∈ m.codes,Opn.big x
 datas:m.datas.length ≤ most ∧ ∀ x ∈ m.datas,Opn.big x
theorem o_s1:Tryz.prog.underlying 38 = some (.slice (Opn.T FT)):=by kernel_rfl
theorem o_s2:Tryz.prog.underlying 39 = some (.slice (Opn.T Imp)):=by kernel_rfl
theorem o_s4:Tryz.prog.underlying 41 = some (.slice (Opn.T Lim)):=by kernel_rfl
theorem o_s6:Tryz.prog.underlying 42 = some (.slice (Opn.T GV)):=by kernel_rfl
theorem o_s7:Tryz.prog.underlying 43 = some (.slice (Opn.T Exp)):=by kernel_rfl
theorem o_s9:Tryz.prog.underlying 45 = some (.slice (Opn.T El)):=by kernel_rfl
theorem o_s10:Tryz.prog.underlying 46 = some (.slice (Opn.T Cd)):=by kernel_rfl
theorem o_s11:Tryz.prog.underlying 47 = some (.slice (Opn.T Da)):=by kernel_rfl
def wtM (m:M):Nat:=wts m.types + wts m.imports + wts m.funcs + wts m.tables + wts m.mems + wts m.globals + wts m.exports + wts m.elems + wts m.codes + wts m.datas
theorem fq {H:Type} {enc:TypeId × Value → H} {W:World} {n:Nat} {cs:List Value} {d:DataW H} (h:Rdg W enc n 49 cs d) :
  ∃ (m:M) (v1 v2 v3 v4 v5 v6 v7 v8 v9 v10:Value),cs = (modCells m v1 v2 v3 v4 v5 v6 v7 v8 v9 v10).toList ∧ RepM W (· < W.heap.size) m v1 v2 v3 v4 v5 v6 v7 v8 v9 v10 ∧ BigM m ∧ wtM m ≤ Rows.uptoBulk d:=by
 obtain ⟨hl,ds,hdl,hbk,hf⟩:=aI (L:=[(38,0,1),(39,1,1),(40,2,1),(41,3,1),(41,4,1),(42,5,1),(43,6,1),(4,7,1),(44,8,1),(45,9,1),(46,10,1),(47,11,1)]) (by kernel_rfl) (by simp) h
 obtain ⟨e0,e1,e2,e3,e4,e5,e6,e7,e8,e9,e10,e11,rfl⟩:=list_12 hdl
 simp only [Rows.uptoBulkAll] at hbk
 have hl12:cs.length = 12:=hl.trans (by kernel_rfl)
 match cs,hl12 with
 | [c0,c1,c2,c3,c4,c5,c6,c7,c8,c9,c10,c11],_ =>
  obtain ⟨_,_,y0,h0⟩:=hf 0 _ _ _ rfl
  obtain rfl:=Option.some.inj y0
  obtain ⟨_,_,y1,h1⟩:=hf 1 _ _ _ rfl
  obtain rfl:=Option.some.inj y1
  obtain ⟨_,_,y2,h2⟩:=hf 2 _ _ _ rfl
  obtain rfl:=Option.some.inj y2
  obtain ⟨_,_,y3,h3⟩:=hf 3 _ _ _ rfl
  obtain rfl:=Option.some.inj y3
  obtain ⟨_,_,y4,h4⟩:=hf 4 _ _ _ rfl
  obtain rfl:=Option.some.inj y4
  obtain ⟨_,_,y5,h5⟩:=hf 5 _ _ _ rfl
  obtain rfl:=Option.some.inj y5
  obtain ⟨_,_,y6,h6⟩:=hf 6 _ _ _ rfl
  obtain rfl:=Option.some.inj y6
  obtain ⟨_,_,y7,h7⟩:=hf 7 _ _ _ rfl
  obtain rfl:=Option.some.inj y7
  obtain ⟨_,_,y8,h8⟩:=hf 8 _ _ _ rfl
  obtain rfl:=Option.some.inj y8
  obtain ⟨_,_,y9,h9⟩:=hf 9 _ _ _ rfl
  obtain rfl:=Option.some.inj y9
  obtain ⟨_,_,y10,h10⟩:=hf 10 _ _ _ rfl
  obtain rfl:=Option.some.inj y10
  obtain ⟨_,_,y11,h11⟩:=hf 11 _ _ _ rfl
  obtain rfl:=Option.some.inj y11
  obtain ⟨a0,s0,l0,b0,t0⟩:=ay (v:=c0) o_s1 h0
  obtain ⟨a1,s1,l1,b1,t1⟩:=ay (v:=c1) o_s2 h1
  obtain ⟨a2,s2,l2,_,t2⟩:=ay (v:=c2) o_undNs h2
  obtain ⟨a3,s3,l3,_,t3⟩:=ay (v:=c3) o_s4 h3
  obtain ⟨a4,s4,l4,_,t4⟩:=ay (v:=c4) o_s4 h4
  obtain ⟨a5,s5,l5,b5,t5⟩:=ay (v:=c5) o_s6 h5
  obtain ⟨a6,s6,l6,b6,t6⟩:=ay (v:=c6) o_s7 h6
  obtain ⟨st,rfl⟩:=rdg_bool (v:=c7) h7
  obtain ⟨sn,rfl,hsn⟩:=bF (v:=c8) h8
  obtain ⟨a9,s9,l9,b9,t9⟩:=ay (v:=c9) o_s9 h9
  obtain ⟨a10,s10,l10,b10,t10⟩:=ay (v:=c10) o_s10 h10
  obtain ⟨a11,s11,l11,b11,t11⟩:=ay (v:=c11) o_s11 h11
  exact ⟨⟨a0,a1,a2,a3,a4,a5,a6,st,sn,a9,a10,a11⟩,c0,c1,c2,c3,c4,c5,c6,c9,c10,c11,rfl,⟨s0,s1,s2,s3,s4,s5,s6,hsn,s9,s10,s11⟩,⟨⟨l0,b0⟩,⟨l1,b1⟩,l2,l3,l4,⟨l5,b5⟩,⟨l6,b6⟩,⟨l9,b9⟩,⟨l10,b10⟩,⟨l11,b11⟩⟩,by unfold wtM;dsimp only;omega⟩
def isStructD:Option TypeDesc → Bool
 | some (.struct _)=>true
 | _=>false
theorem o_undM':isStructD (Tryz.prog.underlying 49) = true:=by kernel_rfl
theorem o_undM:∃ fs,Tryz.prog.underlying 49 = some (.struct fs):=by
 have h:=o_undM'
 generalize Tryz.prog.underlying 49 = x at h
 unfold isStructD at h
 split at h
 ·exact ⟨_,rfl⟩
 ·cases h
section
variable {H:Type} {enc:TypeId × Value → H} {W:World}
theorem open_modW {base:Nat} {v:Value} {d:DataW H} {p:List MemPlace} (hval:Value.okWide Tryz.prog W .any base 49 v) (h:DataW.Trod enc Tryz.prog W 0 (fun _=>true) true 49 v d p) (hs:∀ k ∈ d.weights Tryz.prog 49,k ≤ reachBytes) :
  ∃ (m:M) (v1 v2 v3 v4 v5 v6 v7 v8 v9 v10:Value),v = .agg (modCells m v1 v2 v3 v4 v5 v6 v7 v8 v9 v10) ∧ RepM W (· < W.heap.size) m v1 v2 v3 v4 v5 v6 v7 v8 v9 v10 ∧ BigM m ∧ wtM m ≤ Rows.uptoBulk d:=by
 obtain ⟨fs,hu⟩:=o_undM
 obtain ⟨cs,rfl,_⟩:=okWide_struct hu hval
 obtain ⟨fuel,hf⟩:=h
 obtain ⟨m,v1,v2,v3,v4,v5,v6,v7,v8,v9,v10,hcs,h1,h2⟩:=fq ⟨⟨p,hf⟩,hs⟩
 refine ⟨m,v1,v2,v3,v4,v5,v6,v7,v8,v9,v10,?_,h1,h2⟩
 have hc:cs.toList = (modCells m v1 v2 v3 v4 v5 v6 v7 v8 v9 v10).toList:=by rw [← hcs];simp [Value.cells]
 rw [Array.toList_inj.1 hc]
theorem open_mod {base:Nat} {v:Value} {d:DataW H} {p:List MemPlace} (hval:Value.okWide Tryz.prog W .any base 49 v) (h:DataW.Trod enc Tryz.prog W 0 (fun _=>true) true 49 v d p) (hs:∀ k ∈ d.weights Tryz.prog 49,k ≤ reachBytes) :
  ∃ (m:M) (v1 v2 v3 v4 v5 v6 v7 v8 v9 v10:Value),v = .agg (modCells m v1 v2 v3 v4 v5 v6 v7 v8 v9 v10) ∧ RepM W (· < W.heap.size) m v1 v2 v3 v4 v5 v6 v7 v8 v9 v10 ∧ BigM m:=by
 obtain ⟨m,v1,v2,v3,v4,v5,v6,v7,v8,v9,v10,h1,h2,h3,_⟩:=open_modW hval h hs
 exact ⟨m,v1,v2,v3,v4,v5,v6,v7,v8,v9,v10,h1,h2,h3⟩
end
end Go.Proofs.YtmpelmihdpomjaaGreat
namespace Va
structure Ht where
 h:Nat
def hts:Except Nat (List Nat) → List Ht
 | .error _=>[]
 | .ok hs=>hs.map Ht.mk
def num:Except Nat (List Nat) → Nat
 | .error e=>e
 | .ok _=>0
theorem num_zero {m:Bin.M}:num (check m) = 0 ↔ ∃ hs,Good m hs:=by
 cases h:check m with
 | error e =>
  have:=check_err h
  refine ⟨fun e0=>absurd e0 this,?_⟩
  rintro ⟨hs,hg⟩
  rw [check_ok.2 hg] at h
  cases h
 | ok hs=>exact ⟨fun _=>⟨hs,check_ok.1 h⟩,fun _=>rfl⟩
theorem hts_err {r:Except Nat (List Nat)} (h:num r ≠ 0):hts r = []:=by
 cases r with
 | error e=>rfl
 | ok hs=>exact absurd rfl h
end Va
namespace Go.Proofs.YtmpelmihdpomjaaGreat
open Go.RowKit Ins Bin Sp
instance : Lay Va.Ht where
 size:=1
 rep _ _ x cs:=cs = [.int .i64 ↑x.h]
 len h:=by rw [h];rfl
 mod h _ _:=h
 more h _:=h
def VPost (m:M) (w:World) (e:Ending) (w':World):Prop :=
 ∃ v,e = .returned (.tuple #[v,.int .i64 (Va.num (Va.check m):Int)]) ∧ aa w' (· < w'.heap.size) (Va.hts (Va.check m)) v ∧ Below w.heap.size w w'
def FewI (xs:List I):Prop:=xs.length ≤ 1050000 ∧ tot xs ≤ 100000000
structure FitV (m:M):Prop where
 lots:Lots m
 names:∀ x ∈ m.exports,x.name.length ≤ 1050000
 globals:∀ x ∈ m.globals,FewI x.init
 elems:m.elems.length ≤ 1050000 ∧ ∀ x ∈ m.elems,FewI x.off ∧ x.funcs.length ≤ 1050000
 codes:m.codes.length ≤ 1050000 ∧ ∀ x ∈ m.codes,x.locals.length ≤ 1050000 ∧ FewI x.body
 datas:m.datas.length ≤ 1050000 ∧ ∀ x ∈ m.datas,FewI x.off ∧ x.b.length ≤ 1050000
def ValidOk:Prop:=∀ (m:M) (v1 v2 v3 v4 v5 v6 v7 v8 v9 v10:Value) (w:World),RepM w (· < w.heap.size) m v1 v2 v3 v4 v5 v6 v7 v8 v9 v10 → FitV m → Calls Tryz.prog 15 #[.agg (modCells m v1 v2 v3 v4 v5 v6 v7 v8 v9 v10)] w (VPost m w)
theorem bM {α:Type} [Lay α] [Opn α]:∀ {xs:List α} {x:α},x ∈ xs → Opn.wt x ≤ wts xs
 | y :: xs,x,h=>by
  simp only [wts,List.map_cons,List.sum_cons]
  rcases List.mem_cons.1 h with rfl | h
  ·omega
  ·have h1:=bM (xs:=xs) h
   unfold wts at h1
   omega
theorem bo {α:Type} [Lay α] [Opn α]:∀ (xs:List α),(∀ x:α,1 ≤ Opn.wt x) → xs.length ≤ wts xs
 | [],_=>by simp
 | y :: xs,h=>by
  have h1:=bo xs h
  have h2:=h y
  simp only [wts,List.map_cons,List.sum_cons,List.length_cons] at h1 ⊢
  omega
theorem tot_len5:∀ (xs:List I),5 * xs.length ≤ tot xs
 | []=>by simp
 | y :: xs=>by
  have:=tot_len5 xs
  simp only [tot,List.length_cons]
  omega
theorem dS {xs:List I} (h:tot xs ≤ 1048576):FewI xs:=⟨by have:=tot_len5 xs;omega,by omega⟩
theorem fitV_of {m:M} (h:wtM m ≤ 1048576):FitV m:=by
 unfold wtM at h
 have h1:=bo m.types (fun x=>by show 1 ≤ x.params.length + x.results.length + 1;omega)
 have h2:=bo m.imports (fun x=>by show 1 ≤ x.mod.length + x.name.length + 1;omega)
 have h3:=bo m.funcs (fun x=>Nat.le_refl 1)
 have h4:=bo m.tables (fun x=>Nat.le_refl 1)
 have h5:=bo m.mems (fun x=>Nat.le_refl 1)
 have h6:=bo m.globals (fun x=>by show 1 ≤ tot x.init + 1;omega)
 have h7:=bo m.exports (fun x=>by show 1 ≤ x.name.length + 1;omega)
 have h8:=bo m.elems (fun x=>by show 1 ≤ tot x.off + x.funcs.length + 1;omega)
 have h9:=bo m.codes (fun x=>by show 1 ≤ x.locals.length + tot x.body + 1;omega)
 have h10:=bo m.datas (fun x=>by show 1 ≤ tot x.off + x.b.length + 1;omega)
 refine ⟨⟨by omega,by omega,by omega,by omega,by omega,by omega,by omega,fun x hx=>?_⟩,fun x hx=>?_,fun x hx=>?_,⟨by omega,fun x hx=>?_⟩,⟨by omega,fun x hx=>?_⟩,⟨by omega,fun x hx=>?_⟩⟩
 ·have e:x.params.length + x.results.length + 1 ≤ wts m.types:=bM hx
  omega
 ·have e:x.name.length + 1 ≤ wts m.exports:=bM hx
  omega
 ·have e:tot x.init + 1 ≤ wts m.globals:=bM hx
  exact dS (by omega)
 ·have e:tot x.off + x.funcs.length + 1 ≤ wts m.elems:=bM hx
  exact ⟨dS (by omega),by omega⟩
 ·have e:x.locals.length + tot x.body + 1 ≤ wts m.codes:=bM hx
  exact ⟨by omega,dS (by omega)⟩
 ·have e:tot x.off + x.b.length + 1 ≤ wts m.datas:=bM hx
  exact ⟨dS (by omega),by omega⟩
theorem dH {w:World} {S:Nat → Prop} {A:Option Addr} {xs:List Imp} {k:Nat} {x:Imp} (h:HasL w S A xs) (hx:xs[k]? = some x):∃ g o,A = some ⟨g,o,none⟩ ∧ g < w.heap.size ∧ S g ∧ x.type < 4294967296 ∧ Lim.wf x.lim ∧ ∀ (j:Nat) (u:Value),(impCells x)[j]? = some u → w.cell? ⟨g,o + k * 8 + j,none⟩ = some u:=by
 obtain ⟨g,o,cs,h1,h2,h3,⟨rfl,h4,h5⟩,h6⟩:=h k x hx
 exact ⟨g,o,h1,h3,h2,h4,h5,h6⟩
structure Cells12 (W:World) (X:Nat) (v1 v2 v3 v4 v5 v6 v7:Value) (hs:Bool) (st:Int) (v8 v9 v10:Value):Prop where
 b0:W.cell? ⟨X,0,none⟩ = some v1
 b1:W.cell? ⟨X,1,none⟩ = some v2
 b2:W.cell? ⟨X,2,none⟩ = some v3
 b3:W.cell? ⟨X,3,none⟩ = some v4
 b4:W.cell? ⟨X,4,none⟩ = some v5
 b5:W.cell? ⟨X,5,none⟩ = some v6
 b6:W.cell? ⟨X,6,none⟩ = some v7
 b7:W.cell? ⟨X,7,none⟩ = some (.bool hs)
 b8:W.cell? ⟨X,8,none⟩ = some (.int .u32 st)
 b9:W.cell? ⟨X,9,none⟩ = some v8
 b10:W.cell? ⟨X,10,none⟩ = some v9
 b11:W.cell? ⟨X,11,none⟩ = some v10
theorem cells12 {w W:World} {X:Nat} {v1 v2 v3 v4 v5 v6 v7:Value} {hs:Bool} {st:Int} {v8 v9 v10:Value} {t:TypeId} (h0:w.heap[X]? = some (.cells #[v1,v2,v3,v4,v5,v6,v7,.bool hs,.int .u32 st,v8,v9,v10] t (0,0))) (hb:Below w.heap.size w W):Cells12 W X v1 v2 v3 v4 v5 v6 v7 hs st v8 v9 v10:=by
 have h:=(hb.block X (gL h0)).trans h0
 exact ⟨by rw [cell_of_row W _ 0 _ _ (0,0) h];rfl,by rw [cell_of_row W _ 1 _ _ (0,0) h];rfl,by rw [cell_of_row W _ 2 _ _ (0,0) h];rfl,by rw [cell_of_row W _ 3 _ _ (0,0) h];rfl,by rw [cell_of_row W _ 4 _ _ (0,0) h];rfl,by rw [cell_of_row W _ 5 _ _ (0,0) h];rfl,by rw [cell_of_row W _ 6 _ _ (0,0) h];rfl,by rw [cell_of_row W _ 7 _ _ (0,0) h];rfl,by rw [cell_of_row W _ 8 _ _ (0,0) h];rfl,by rw [cell_of_row W _ 9 _ _ (0,0) h];rfl,by rw [cell_of_row W _ 10 _ _ (0,0) h];rfl,by rw [cell_of_row W _ 11 _ _ (0,0) h];rfl⟩
theorem RepM.grow {w w':World} {m:M} {v1 v2 v3 v4 v5 v6 v7 v8 v9 v10:Value} (h:RepM w (· < w.heap.size) m v1 v2 v3 v4 v5 v6 v7 v8 v9 v10) (hb:Below w.heap.size w w'):RepM w' (· < w'.heap.size) m v1 v2 v3 v4 v5 v6 v7 v8 v9 v10 :=
 let f {α:Type} [Lay α] {xs:List α} {v:Value} (h:aa w (· < w.heap.size) xs v):aa w' (· < w'.heap.size) xs v:=(h.mod (T:=fun _=>False) (Mod.of_below hb) (fun _ _ _ h=>h)).more (fun _ _ hk=>Nat.lt_of_lt_of_le hk hb.size)
 ⟨f h.types,f h.imports,f h.funcs,f h.tables,f h.mems,f h.globals,f h.exports,h.start,f h.elems,f h.codes,f h.datas⟩
def aggS:TypeDesc → Bool
 | .struct _=>true
 | .array _ _=>true
 | _=>false
theorem descOf {T:TypeId} (h:(Tryz.prog.underlying T).map aggS = some true):∃ d,Tryz.prog.underlying T = some d ∧ aggS d = true:=by
 obtain ⟨d,h1,h2⟩:=Option.map_eq_some_iff.1 h
 exact ⟨d,h1,h2⟩
theorem bv {P:Program} {fn:Func} {p:Tmp} {ty:TypeId} (h:fn.results = #[.cell p ty]) (tmps:Array Value) (w:World) (g:Nat) (t:TypeId) (cs:Array Value) (fr:Nat × Nat) (d:TypeDesc)
  (hp:tmps.getD p undef = .pointer (some ⟨g,0,none⟩)) (hg:w.heap[g]? = some (.cells cs t fr)) (hu:P.underlying ty = some d) (hd:aggS d = true) (hi:(P.info? ty).map (·.size) = some cs.size) :
  (results fn tmps).run P w = .ok (.agg cs) w:=by
 have hp':tmps[p]?.getD undef = .pointer (some ⟨g,0,none⟩):=by simpa using hp
 simp [results,h,hp',asAddr,run_loadVar_row w g t ty cs fr d hg hu (by cases d <;> first | rfl | cases hd) hi]
theorem au {P:Program} {fn:Func} {p q:Tmp} {ty:TypeId} (h:fn.results = #[.cell p ty,.tmp q]) (tmps:Array Value) (w:World) (g:Nat) (t:TypeId) (cs:Array Value) (fr:Nat × Nat) (d:TypeDesc)
  (hp:tmps.getD p undef = .pointer (some ⟨g,0,none⟩)) (hg:w.heap[g]? = some (.cells cs t fr)) (hu:P.underlying ty = some d) (hd:aggS d = true) (hi:(P.info? ty).map (·.size) = some cs.size) (b:Value) (hb:tmps.getD q undef = b) :
  (results fn tmps).run P w = .ok (.tuple #[.agg cs,b]) w:=by
 have hp':tmps[p]?.getD undef = .pointer (some ⟨g,0,none⟩):=by simpa using hp
 have hb':tmps[q]?.getD undef = b:=by simpa using hb
 simp [results,h,hp',hb',asAddr,run_loadVar_row w g t ty cs fr d hg hu (by cases d <;> first | rfl | cases hd) hi]
theorem di:(Tryz.prog.underlying 66).map aggS = some true:=by kernel_rfl
theorem aY:(Tryz.prog.info? 66).map (·.size) = some 2:=by kernel_rfl
theorem dG:(Tryz.prog.underlying 54).map aggS = some true:=by kernel_rfl
theorem ao:(Tryz.prog.info? 54).map (·.size) = some 2:=by kernel_rfl
theorem bU:(Tryz.prog.underlying 29).map aggS = some true:=by kernel_rfl
theorem ak:(Tryz.prog.info? 29).map (·.size) = some 2:=by kernel_rfl
end Go.Proofs.YtmpelmihdpomjaaGreat
namespace Va
open Bin
def nilM:M:=⟨[],[],[],[],[],[],[],false,0,[],[],[]⟩
def k2:M:=⟨[],[],[],[],[⟨0,-1⟩,⟨0,-1⟩],[],[],false,0,[],[],[]⟩
def k3:M:=⟨[],[],[],[],[⟨2,1⟩],[],[],false,0,[],[],[]⟩
def kB (x:Ins.I):M:=⟨[],[],[],[],[],[⟨⟨127,false⟩,[x]⟩],[],false,0,[],[],[]⟩
def kN (n:Nat):M:=⟨[⟨[],[]⟩],[],[0],[],[],[],[⟨[97],0,0⟩,⟨[97],0,n⟩],false,0,[],[⟨[],[]⟩],[]⟩
theorem n0:num (check nilM) = 0:=by rfl
theorem n2:num (check k2) = 112:=by rfl
theorem n3:num (check k3) = 112:=by rfl
theorem n4:num (check (kB ⟨66,0,0,0,[]⟩)) = 100:=by rfl
theorem n5:num (check (kB ⟨35,0,0,0,[]⟩)) = 80:=by rfl
theorem n6:num (check (kN 0)) = 111:=by rfl
theorem n7:num (check (kN 1)) = 80:=by rfl
end Va
namespace Go.Proofs.YtmpelmihdpomjaaGreat
open Go.RowKit Ins Bin Sp
theorem des_vmod:(Tryz.prog.underlying 49).map aggS = some true:=by kernel_rfl
theorem cr:(Tryz.prog.info? 49).map (·.size) = some 12:=by kernel_rfl
theorem litV {α:Type} [Lay α] {W:World} {S:Nat → Prop} {g:Nat} (ys:List (α × List Value)) {xs:List α} {cs:Array Value} {t:TypeId} (h:W.heap[g]? = some (.cells cs t (0,0))) (hg:S g) (hr:∀ y ∈ ys,Lay.rep W S y.1 y.2) (hc:(ys.flatMap (·.2)).toArray = cs) (hx:ys.map (·.1) = xs) (n:Nat) (hn:ys.length = n) (hl:n ≤ 1000):aa W S xs (.slice (some ⟨g,0,none⟩) n n):=by
 subst hx hc hn
 refine ⟨some ⟨g,0,none⟩,ys.length,by rw [List.length_map],by rw [List.length_map];exact Nat.le_refl _,by unfold maxLen;omega,(fun e=>by cases e),fun k x hk=>?_⟩
 rw [List.getElem?_map,Option.map_eq_some_iff] at hk
 obtain ⟨y,hy,rfl⟩:=hk
 refine ⟨g,0,y.2,rfl,hg,(gL h),hr y (List.mem_of_getElem? hy),fun j u hj=>?_⟩
 rw [cell_of_row W g _ _ _ (0,0) h,Nat.zero_add]
 simpa using dT ys hr k y hy j u hj
theorem vpost_form {m:M} {w w':World} {e:Ending} (h:VPost m w e w'):∃ A n c,e = .returned (.tuple #[.slice A n c,.int .i64 (Va.num (Va.check m):Int)]) ∧ n = (Va.hts (Va.check m)).length ∧ aa w' (· < w'.heap.size) (Va.hts (Va.check m)) (.slice A n c) ∧ Below w.heap.size w w':=by
 obtain ⟨v,rfl,h1,h2⟩:=h
 obtain ⟨A,c,rfl,_⟩:=id h1
 exact ⟨A,_,c,rfl,rfl,h1,h2⟩
theorem fit_nilM:FitV Va.nilM:=⟨⟨by simp [Va.nilM],by simp [Va.nilM],by simp [Va.nilM],by simp [Va.nilM],by simp [Va.nilM],by simp [Va.nilM],by simp [Va.nilM],nofun⟩,nofun,nofun,⟨by simp [Va.nilM],nofun⟩,⟨by simp [Va.nilM],nofun⟩,⟨by simp [Va.nilM],nofun⟩⟩
theorem aQ (W:World) (o:Obj) (n:Nat) (h:W.heap.size = n):(W.alloc o).heap[n]? = some o:=by subst h;exact heap_alloc_new W o
theorem fourV (w:World) (o0 o1 o2 o3:Obj):((((w.alloc o0).alloc o1).alloc o2).alloc o3).heap[w.heap.size]? = some o0 ∧ ((((w.alloc o0).alloc o1).alloc o2).alloc o3).heap[w.heap.size + 1]? = some o1 ∧ ((((w.alloc o0).alloc o1).alloc o2).alloc o3).heap[w.heap.size + 2]? = some o2 ∧ ((((w.alloc o0).alloc o1).alloc o2).alloc o3).heap[w.heap.size + 3]? = some o3 ∧ Below w.heap.size w ((((w.alloc o0).alloc o1).alloc o2).alloc o3):=by
 refine ⟨?_,?_,?_,?_,?_⟩
 ·exact (Below.heap_alloc _ _ _ (by simp <;> omega)).trans ((Below.heap_alloc _ _ _ (by simp <;> omega)).trans ((Below.heap_alloc _ _ _ (by simp <;> omega)).trans (aQ _ _ _ (by simp))))
 ·exact (Below.heap_alloc _ _ _ (by simp <;> omega)).trans ((Below.heap_alloc _ _ _ (by simp <;> omega)).trans (aQ _ _ _ (by simp)))
 ·exact (Below.heap_alloc _ _ _ (by simp <;> omega)).trans (aQ _ _ _ (by simp))
 ·exact aQ _ _ _ (by simp)
 ·exact ((bA.alloc (by simp) _).alloc (by simp;omega) _).alloc (by simp;omega) _
def limArr (x:Lim):Array Value:=#[.int .u32 ↑x.min,.int .i64 x.max]
def globArr (x:Glob):Array Value:=#[.int .u8 ↑x.t.toNat,.bool x.mu]
def bR (o:Option Lim) (w:World) (e:Ending) (w':World):Prop:=e = .returned (.tuple #[.agg (limArr (o.getD ⟨0,0⟩)),.bool o.isSome]) ∧ Below w.heap.size w w'
def bP (o:Option Glob) (w:World) (e:Ending) (w':World):Prop:=e = .returned (.tuple #[.agg (globArr (o.getD ⟨0,false⟩)),.bool o.isSome]) ∧ Below w.heap.size w w'
theorem lim_at {w:World} {S:Nat → Prop} {A:Option Addr} {xs:List Lim} {k:Nat} {x:Lim} (h:HasL w S A xs) (hx:xs[k]? = some x):∃ g o,A = some ⟨g,o,none⟩ ∧ g < w.heap.size ∧ w.cell? ⟨g,o + k * 2,none⟩ = some (.int .u32 ↑x.min) ∧ w.cell? ⟨g,o + k * 2 + 1,none⟩ = some (.int .i64 x.max):=by
 obtain ⟨g,o,cs,h1,_,h3,⟨rfl,_⟩,h6⟩:=h k x hx
 exact ⟨g,o,h1,h3,h6 0 _ rfl,h6 1 _ rfl⟩
end Go.Proofs.YtmpelmihdpomjaaGreat
