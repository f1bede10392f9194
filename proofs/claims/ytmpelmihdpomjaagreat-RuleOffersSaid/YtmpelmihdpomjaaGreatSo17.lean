/-
  Rows of records in memory: how a value is laid in cells; a module by value.
-/
import Derived.Test.YtmpelmihdpomjaaGreatSo01
import Derived.Test.YtmpelmihdpomjaaGreatSo09
import Derived.Test.YtmpelmihdpomjaaGreatSo08
set_option maxRecDepth 100000
set_option maxHeartbeats 4000000
namespace Go.Proofs.YtmpelmihdpomjaaGreat
open Go.RowKit Ins Bin
class Lay (α:Type) where
 size:Nat
 rep:World → (Nat → Prop) → α → List Value → Prop
 len:∀ {w:World} {S:Nat → Prop} {x:α} {cs:List Value},rep w S x cs → cs.length = size
 mod:∀ {T S:Nat → Prop} {w w':World} {x:α} {cs:List Value},rep w S x cs → Mod T w w' → (∀ k,k < w.heap.size → S k → ¬ T k) → rep w' S x cs
 more:∀ {w:World} {S S':Nat → Prop} {x:α} {cs:List Value},rep w S x cs → (∀ k,k < w.heap.size → S k → S' k) → rep w S' x cs
def HasL {α:Type} [Lay α] (w:World) (S:Nat → Prop) (A:Option Addr) (xs:List α):Prop :=
 ∀ (k:Nat) (x:α),xs[k]? = some x → ∃ g o cs,A = some ⟨g,o,none⟩ ∧ S g ∧ g < w.heap.size ∧ Lay.rep w S x cs ∧ ∀ (j:Nat) (u:Value),cs[j]? = some u → w.cell? ⟨g,o + k * Lay.size α + j,none⟩ = some u
theorem HasL.nil {α:Type} [Lay α] (w:World) (S:Nat → Prop) (A:Option Addr):HasL w S A ([]:List α):=fun k x hx=>by simp at hx
theorem HasL.mod {α:Type} [Lay α] {T S:Nat → Prop} {w w':World} {A:Option Addr} {xs:List α} (h:HasL w S A xs) (hm:Mod T w w') (hd:∀ k,k < w.heap.size → S k → ¬ T k):HasL w' S A xs:=fun k x hx=>by
 obtain ⟨g,o,cs,h1,h2,h3,h4,h5⟩:=h k x hx
 exact ⟨g,o,cs,h1,h2,Nat.lt_of_lt_of_le h3 hm.size,Lay.mod h4 hm hd,fun j u hj=>hm.cell (h5 j u hj) (hd g h3 h2)⟩
theorem HasL.more {α:Type} [Lay α] {w:World} {S S':Nat → Prop} {A:Option Addr} {xs:List α} (h:HasL w S A xs) (hs:∀ k,k < w.heap.size → S k → S' k):HasL w S' A xs:=fun k x hx=>by
 obtain ⟨g,o,cs,h1,h2,h3,h4,h5⟩:=h k x hx
 exact ⟨g,o,cs,h1,hs g h3 h2,h3,Lay.more h4 hs,h5⟩
def aa {α:Type} [Lay α] (w:World) (S:Nat → Prop) (xs:List α) (v:Value):Prop:=∃ A c,v = .slice A xs.length c ∧ xs.length ≤ c ∧ c ≤ maxLen ∧ (A = none → c = 0) ∧ HasL w S A xs
theorem aa.mod {α:Type} [Lay α] {T S:Nat → Prop} {w w':World} {xs:List α} {v:Value} (h:aa w S xs v) (hm:Mod T w w') (hd:∀ k,k < w.heap.size → S k → ¬ T k):aa w' S xs v:=by
 obtain ⟨A,c,h1,h2,h3,h4,h5⟩:=h
 exact ⟨A,c,h1,h2,h3,h4,h5.mod hm hd⟩
theorem aa.more {α:Type} [Lay α] {w:World} {S S':Nat → Prop} {xs:List α} {v:Value} (h:aa w S xs v) (hs:∀ k,k < w.heap.size → S k → S' k):aa w S' xs v:=by
 obtain ⟨A,c,h1,h2,h3,h4,h5⟩:=h
 exact ⟨A,c,h1,h2,h3,h4,h5.more hs⟩
theorem aa.nil {α:Type} [Lay α] (w:World) (S:Nat → Prop):aa w S ([]:List α) (.slice none 0 0):=⟨none,0,rfl,Nat.le_refl _,by unfold maxLen;omega,fun _=>rfl,HasL.nil _ _ _⟩
instance : Lay UInt8 where
 size:=1
 rep _ _ x cs:=cs = [.int .u8 ↑x.toNat]
 len h:=by rw [h];rfl
 mod h _ _:=h
 more h _:=h
instance : Lay Nat where
 size:=1
 rep _ _ x cs:=cs = [.int .u32 ↑x] ∧ x < 4294967296
 len h:=by rw [h.1];rfl
 mod h _ _:=h
 more h _:=h
instance : Lay I where
 size:=5
 rep w S x cs:=∃ A c,cs = insCells x A c ∧ x.wf ∧ x.l.length ≤ c ∧ c ≤ maxLen ∧ HasU w S A x.l
 len h:=by obtain ⟨A,c,rfl,_⟩:=h;rfl
 mod h hm hd:=by obtain ⟨A,c,h1,h2,h3,h4,h5⟩:=h;exact ⟨A,c,h1,h2,h3,h4,h5.mod hm hd⟩
 more h hs:=by obtain ⟨A,c,h1,h2,h3,h4,h5⟩:=h;exact ⟨A,c,h1,h2,h3,h4,h5.more hs⟩
instance : Lay FT where
 size:=2
 rep w S x cs:=∃ u v,cs = [u,v] ∧ aa w S x.params u ∧ aa w S x.results v
 len h:=by obtain ⟨u,v,rfl,_⟩:=h;rfl
 mod h hm hd:=by obtain ⟨u,v,h1,h2,h3⟩:=h;exact ⟨u,v,h1,h2.mod hm hd,h3.mod hm hd⟩
 more h hs:=by obtain ⟨u,v,h1,h2,h3⟩:=h;exact ⟨u,v,h1,h2.more hs,h3.more hs⟩
def Lim.wf (x:Lim):Prop:=x.min < 4294967296 ∧ -9223372036854775808 ≤ x.max ∧ x.max ≤ 9223372036854775807
instance : Lay Lim where
 size:=2
 rep _ _ x cs:=cs = [.int .u32 ↑x.min,.int .i64 x.max] ∧ Lim.wf x
 len h:=by rw [h.1];rfl
 mod h _ _:=h
 more h _:=h
def globCells (x:Glob):List Value:=[.int .u8 ↑x.t.toNat,.bool x.mu]
def strV (l:List UInt8):Value:=.string ⟨l.toArray⟩
def impCells (x:Imp):List Value:=[strV x.mod,strV x.name,.int .u8 ↑x.kind.toNat,.int .u32 ↑x.type,.int .u32 ↑x.lim.min,.int .i64 x.lim.max,.int .u8 ↑x.glob.t.toNat,.bool x.glob.mu]
instance : Lay Imp where
 size:=8
 rep _ _ x cs:=cs = impCells x ∧ x.type < 4294967296 ∧ Lim.wf x.lim
 len h:=by rw [h.1];rfl
 mod h _ _:=h
 more h _:=h
instance : Lay GV where
 size:=3
 rep w S x cs:=∃ v,cs = [.int .u8 ↑x.type.t.toNat,.bool x.type.mu,v] ∧ aa w S x.init v
 len h:=by obtain ⟨v,rfl,_⟩:=h;rfl
 mod h hm hd:=by obtain ⟨v,h1,h2⟩:=h;exact ⟨v,h1,h2.mod hm hd⟩
 more h hs:=by obtain ⟨v,h1,h2⟩:=h;exact ⟨v,h1,h2.more hs⟩
instance : Lay Exp where
 size:=3
 rep _ _ x cs:=cs = [strV x.name,.int .u8 ↑x.kind.toNat,.int .u32 ↑x.index] ∧ x.index < 4294967296
 len h:=by rw [h.1];rfl
 mod h _ _:=h
 more h _:=h
instance : Lay El where
 size:=3
 rep w S x cs:=∃ u v,cs = [.int .u32 ↑x.table,u,v] ∧ x.table < 4294967296 ∧ aa w S x.off u ∧ aa w S x.funcs v
 len h:=by obtain ⟨u,v,rfl,_⟩:=h;rfl
 mod h hm hd:=by obtain ⟨u,v,h1,h2,h3,h4⟩:=h;exact ⟨u,v,h1,h2,h3.mod hm hd,h4.mod hm hd⟩
 more h hs:=by obtain ⟨u,v,h1,h2,h3,h4⟩:=h;exact ⟨u,v,h1,h2,h3.more hs,h4.more hs⟩
instance : Lay Lc where
 size:=2
 rep _ _ x cs:=cs = [.int .u32 ↑x.n,.int .u8 ↑x.t.toNat] ∧ x.n < 4294967296
 len h:=by rw [h.1];rfl
 mod h _ _:=h
 more h _:=h
instance : Lay Cd where
 size:=2
 rep w S x cs:=∃ u v,cs = [u,v] ∧ aa w S x.locals u ∧ aa w S x.body v
 len h:=by obtain ⟨u,v,rfl,_⟩:=h;rfl
 mod h hm hd:=by obtain ⟨u,v,h1,h2,h3⟩:=h;exact ⟨u,v,h1,h2.mod hm hd,h3.mod hm hd⟩
 more h hs:=by obtain ⟨u,v,h1,h2,h3⟩:=h;exact ⟨u,v,h1,h2.more hs,h3.more hs⟩
instance : Lay Da where
 size:=3
 rep w S x cs:=∃ u v,cs = [.int .u32 ↑x.mem,u,v] ∧ x.mem < 4294967296 ∧ aa w S x.off u ∧ aa w S x.b v
 len h:=by obtain ⟨u,v,rfl,_⟩:=h;rfl
 mod h hm hd:=by obtain ⟨u,v,h1,h2,h3,h4⟩:=h;exact ⟨u,v,h1,h2,h3.mod hm hd,h4.mod hm hd⟩
 more h hs:=by obtain ⟨u,v,h1,h2,h3,h4⟩:=h;exact ⟨u,v,h1,h2,h3.more hs,h4.more hs⟩
structure RepM (w:World) (S:Nat → Prop) (m:M) (v1 v2 v3 v4 v5 v6 v7 v8 v9 v10:Value):Prop where
 types:aa w S m.types v1
 imports:aa w S m.imports v2
 funcs:aa w S m.funcs v3
 tables:aa w S m.tables v4
 mems:aa w S m.mems v5
 globals:aa w S m.globals v6
 exports:aa w S m.exports v7
 start:m.start < 4294967296
 elems:aa w S m.elems v8
 codes:aa w S m.codes v9
 datas:aa w S m.datas v10
def modCells (m:M) (v1 v2 v3 v4 v5 v6 v7 v8 v9 v10:Value):Array Value:=#[v1,v2,v3,v4,v5,v6,v7,.bool m.hasStart,.int .u32 ↑m.start,v8,v9,v10]
theorem RepM.mod {T S:Nat → Prop} {w w':World} {m:M} {v1 v2 v3 v4 v5 v6 v7 v8 v9 v10:Value} (h:RepM w S m v1 v2 v3 v4 v5 v6 v7 v8 v9 v10) (hm:Mod T w w') (hd:∀ k,k < w.heap.size → S k → ¬ T k):RepM w' S m v1 v2 v3 v4 v5 v6 v7 v8 v9 v10 :=
 ⟨h.types.mod hm hd,h.imports.mod hm hd,h.funcs.mod hm hd,h.tables.mod hm hd,h.mems.mod hm hd,h.globals.mod hm hd,h.exports.mod hm hd,h.start,h.elems.mod hm hd,h.codes.mod hm hd,h.datas.mod hm hd⟩
theorem RepM.on {S:Nat → Prop} {w w':World} {m:M} {v1 v2 v3 v4 v5 v6 v7 v8 v9 v10:Value} (h:RepM w S m v1 v2 v3 v4 v5 v6 v7 v8 v9 v10) (hb:Below w.heap.size w w'):RepM w' S m v1 v2 v3 v4 v5 v6 v7 v8 v9 v10 :=
 h.mod (T:=fun _=>False) (Mod.of_below hb) (fun _ _ _ h=>h)
def ModV (w:World) (S:Nat → Prop) (m:M) (v:Value):Prop:=∃ v1 v2 v3 v4 v5 v6 v7 v8 v9 v10,v = .agg (modCells m v1 v2 v3 v4 v5 v6 v7 v8 v9 v10) ∧ RepM w S m v1 v2 v3 v4 v5 v6 v7 v8 v9 v10
theorem ModV.on {S:Nat → Prop} {w w':World} {m:M} {v:Value} (h:ModV w S m v) (hb:Below w.heap.size w w'):ModV w' S m v:=by
 obtain ⟨v1,v2,v3,v4,v5,v6,v7,v8,v9,v10,h1,h2⟩:=h
 exact ⟨v1,v2,v3,v4,v5,v6,v7,v8,v9,v10,h1,h2.on hb⟩
theorem HasL.has {w:World} {S:Nat → Prop} {A:Option Addr} {l:List UInt8} (h:HasL w S A l):Has w w.heap.size A l:=fun k x hx=>by
 obtain ⟨g,o,cs,h1,_,h3,h4,h5⟩:=h k x hx
 have h4':cs = [.int .u8 ↑x.toNat]:=h4
 subst h4'
 refine ⟨⟨g,o,none⟩,h1,h3,?_⟩
 have e:(⟨g,o,none⟩:Addr).add k = ⟨g,o + k * 1 + 0,none⟩:=by
  unfold Addr.add
  split
  ·next h=>subst h;simp
  ·simp
 rw [e]
 exact h5 0 _ rfl
theorem HasL.ins {w:World} {S:Nat → Prop} {A:Option Addr} {xs:List I} (h:HasL w S A xs):HasI w S A xs:=fun k x hx=>by
 obtain ⟨g,o,cs,h1,h2,_,⟨A',c,h4,h5,h6,h7,h8⟩,h9⟩:=h k x hx
 subst h4
 exact ⟨g,o,A',c,h1,h2,h5,h6,h7,h8,h9⟩
def OwnL {α:Type} [Lay α] (t:TypeId) (w:World) (base:Nat) (S:Nat → Prop) (v:Value) (xs:List α):Prop :=
 ∃ ys:List (α × List Value),ys.map (·.1) = xs ∧ w.ownsRow base t (Lay.size α) v xs.length (ys.flatMap (·.2)) ∧ ∀ y ∈ ys,Lay.rep w S y.1 y.2
theorem OwnL.nil {α:Type} [Lay α] (t:TypeId) (w:World) (base:Nat) (S:Nat → Prop):OwnL t w base S (.slice none 0 0) ([]:List α):=⟨[],rfl,World.ownsRow_nil _ _ _ _,by simp⟩
theorem OwnL.mod {α:Type} [Lay α] {t:TypeId} {w w':World} {T:Nat → Prop} {base:Nat} {S:Nat → Prop} {v:Value} {xs:List α} (h:OwnL t w base S v xs) (hm:Mod T w w') (hv:∀ g,v.ownBlock = some g → ¬ T g) (hs:∀ g,g < w.heap.size → S g → ¬ T g):OwnL t w' base S v xs:=by
 obtain ⟨ys,h0,h1,h2⟩:=h
 exact ⟨ys,h0,hm.own h1 hv,fun y hy=>Lay.mod (h2 y hy) hm hs⟩
theorem OwnL.more {α:Type} [Lay α] {t:TypeId} {w:World} {base:Nat} {S S':Nat → Prop} {v:Value} {xs:List α} (h:OwnL t w base S v xs) (hs:∀ g,g < w.heap.size → S g → S' g):OwnL t w base S' v xs:=by
 obtain ⟨ys,h0,h1,h2⟩:=h
 exact ⟨ys,h0,h1,fun y hy=>Lay.more (h2 y hy) hs⟩
theorem OwnL.lt {α:Type} [Lay α] {t:TypeId} {w:World} {base:Nat} {S:Nat → Prop} {v:Value} {xs:List α} (h:OwnL t w base S v xs):∀ g,v.ownBlock = some g → base ≤ g ∧ g < w.heap.size:=by
 obtain ⟨ys,_,h1,_⟩:=h
 exact fun g hg=>h1.lt g hg
theorem dT {α:Type} [Lay α] {w:World} {S:Nat → Prop}:∀ (ys:List (α × List Value)),(∀ y ∈ ys,Lay.rep w S y.1 y.2) → ∀ (k:Nat) (y:α × List Value),ys[k]? = some y → ∀ j u,y.2[j]? = some u → (ys.flatMap (·.2))[k * Lay.size α + j]? = some u
 | [],_,k,y,h,_,_,_=>by simp at h
 | z :: ys,_,0,y,h,j,u,hj=>by
  simp at h;subst h
  simp only [List.flatMap_cons,Nat.zero_mul,Nat.zero_add]
  rw [List.getElem?_append_left (List.getElem?_eq_some_iff.1 hj).1]
  exact hj
 | z :: ys,hr,k + 1,y,h,j,u,hj=>by
  have ih:=dT ys (fun y hy=>hr y (by simp [hy])) k y (by simpa using h) j u hj
  have hz:z.2.length = Lay.size α:=Lay.len (hr z (by simp))
  simp only [List.flatMap_cons]
  rw [Nat.succ_mul,List.getElem?_append_right (by omega),← ih]
  congr 1
  omega
theorem OwnL.tell {α:Type} [Lay α] {t:TypeId} {w:World} {base:Nat} {S:Nat → Prop} {v:Value} {xs:List α} (h:OwnL t w base S v xs) (hs:∀ g,S g → base ≤ g):aa w (base ≤ ·) xs v:=by
 obtain ⟨ys,h0,h1,h2⟩:=h
 rcases h1.2 with ⟨rfl,h3⟩ | ⟨g,cap,cur,rfl,hb,hh,hc,hm,hcs,htk⟩
 ·have:xs = []:=List.eq_nil_of_length_eq_zero h3
  subst this
  exact aa.nil _ _
 ·refine ⟨_,cap,rfl,hc,hm,fun e=>(by cases e),fun k x hk=>?_⟩
  rw [← h0,List.getElem?_map,Option.map_eq_some_iff] at hk
  obtain ⟨y,hy,rfl⟩:=hk
  refine ⟨g,0,y.2,rfl,hb,(gL hh),Lay.more (h2 y (List.mem_of_getElem? hy)) (fun g _ hg=>hs g hg),fun j u hj=>?_⟩
  have:=h1.cells (g:=g) rfl (k * Lay.size α + j) u (dT ys h2 k y hy j u hj)
  have e2:(⟨g,0,none⟩:Addr).add (k * Lay.size α + j) = ⟨g,0 + k * Lay.size α + j,none⟩:=by
   unfold Addr.add;split
   ·next h=>simp at h;simp
   ·simp
  rwa [e2] at this
theorem append1L {α:Type} [Lay α] {st t:TypeId} {z:Value} {by':Nat} (hu:Tryz.prog.underlying st = some (.slice t)) (hi0:(Tryz.prog.info? t).map (fun i=>(i.zero,i.size,i.bytes)) = some (some z,Lay.size α,by')) (hby:by' ≤ 4096) (hzs:z.cells.size = Lay.size α) (hpos:0 < Lay.size α)
  (w:World) (base:Nat) (S:Nat → Prop) (v:Value) (xs:List α) (x:α) (cs:List Value) (hown:OwnL t w base S v xs) (hsz:xs.length ≤ 4294967296) (hb:base ≤ w.heap.size)
  (hx:Lay.rep w S x cs) (h1c:∀ u ∈ cs,u.oneCell' = true) (hs:∀ g,g < w.heap.size → S g → v.ownBlock ≠ some g) :
  ∃ v' w',(Builtin.append_ #[st,st] st #[v,.slice (some ⟨w.heap.size,0,none⟩) 1 1]).run Tryz.prog (w.alloc (.cells cs.toArray t)) = .ok v' w' ∧ OwnL t w' base (fun g=>S g ∧ v'.ownBlock ≠ some g) v' (xs ++ [x]) ∧ Mod (fun g=>v.ownBlock = some g) w w' ∧ ∀ g,v'.ownBlock = some g → v.ownBlock = some g ∨ w.heap.size ≤ g:=by
 obtain ⟨i0,hi,hz0,hz1,hz2⟩:=info_parts hi0
 obtain ⟨ys,h0,h1,h2⟩:=hown
 have hown1:=h1.alloc (.cells cs.toArray t)
 have hcl:cs.length = 1 * Lay.size α:=by rw [Lay.len hx,Nat.one_mul]
 have hbytes:(xs.length + 1) * by' ≤ 140737488355328:=by
  have:(xs.length + 1) * by' ≤ 4294967297 * 4096:=Nat.mul_le_mul (by omega) hby
  omega
 obtain ⟨v',w',hrun,h3,h4,_⟩:=run_append_own (P:=Tryz.prog) (w.alloc (.cells cs.toArray t)) base st st t i0 z (Lay.size α) by' hu hi hz0 hz1 hz2 hzs hpos v xs.length (ys.flatMap (·.2)) hown1 ⟨w.heap.size,0,none⟩ 1 1 cs hcl (eK w _ _) h1c (by unfold maxLen;omega) hbytes (by simp;omega)
 have ht:=bw (P:=Tryz.prog) _ base st st t i0 z (Lay.size α) by' hu hi hz0 hz1 hz2 v xs.length (ys.flatMap (·.2)) hown1 ⟨w.heap.size,0,none⟩ 1 1 cs hcl (eK w _ _) h1c (by omega) (by unfold maxLen;omega) hbytes hrun
 have hM:Mod (fun g=>v.ownBlock = some g) w w':=((Mod.refl _ w).alloc _).trans (T':=fun g=>v.ownBlock = some g) (Mod.of_grown h4 (fun _ h=>h)) (fun _ _ h=>h)
 have ht2:∀ g,v'.ownBlock = some g → v.ownBlock = some g ∨ w.heap.size ≤ g:=fun g hg=>by
  rcases ht g hg with h | h
  ·exact .inl h
  ·exact .inr (by simp at h;omega)
 have hS:∀ g,g < w.heap.size → S g → S g ∧ v'.ownBlock ≠ some g:=fun g hg hsg=>⟨hsg,fun e=>by
  rcases ht2 g e with h | h
  ·exact hs g hg hsg h
  ·omega⟩
 refine ⟨v',w',hrun,⟨ys ++ [(x,cs)],by simp [h0],by rw [List.flatMap_append,List.length_append];simpa using h3,fun y hy=>?_⟩,hM,ht2⟩
 rcases List.mem_append.1 hy with hy | hy
 ·exact Lay.mod (Lay.more (h2 y hy) hS) hM (fun g hg hsg=>hs g hg hsg.1)
 ·simp at hy;subst hy
  exact Lay.mod (Lay.more hx hS) hM (fun g hg hsg=>hs g hg hsg.1)
instance : Lay Glob where
 size:=2
 rep _ _ x cs:=cs = globCells x
 len h:=by rw [h];rfl
 mod h _ _:=h
 more h _:=h
class Ones (α:Type) [Lay α]:Prop where
 one:∀ {w:World} {S:Nat → Prop} {x:α} {cs:List Value},Lay.rep w S x cs → ∀ u ∈ cs,u.oneCell' = true
theorem aa.one {α:Type} [Lay α] {w:World} {S:Nat → Prop} {xs:List α} {v:Value} (h:aa w S xs v):v.oneCell' = true:=by
 obtain ⟨A,c,rfl,_⟩:=h
 rfl
instance : Ones UInt8:=⟨fun h u hu=>by
 have h':_ = _:=h
 subst h'
 simp at hu;subst hu;rfl⟩
instance : Ones Nat:=⟨fun h u hu=>by
 have h':=h.1
 subst h'
 simp at hu;subst hu;rfl⟩
instance : Ones Lim:=⟨fun h u hu=>by
 have h':=h.1
 subst h'
 simp at hu;rcases hu with rfl | rfl <;> rfl⟩
instance : Ones Glob:=⟨fun h u hu=>by
 have h':_ = _:=h
 subst h'
 simp [globCells] at hu;rcases hu with rfl | rfl <;> rfl⟩
instance : Ones Exp:=⟨fun h u hu=>by
 have h':=h.1
 subst h'
 simp at hu;rcases hu with rfl | rfl | rfl <;> rfl⟩
instance : Ones FT:=⟨fun h u hu=>by
 obtain ⟨a,b,rfl,h1,h2⟩:=h
 simp at hu;rcases hu with rfl | rfl
 ·exact h1.one
 ·exact h2.one⟩
theorem rows_of {α:Type} {E:Nat → α → Prop}:∀ (n:Nat),(∀ i,i < n → ∃ x,E i x) → ∃ xs:List α,xs.length = n ∧ ∀ i x,xs[i]? = some x → E i x
 | 0,_=>⟨[],rfl,fun i x h=>by simp at h⟩
 | n + 1,h=>by
  obtain ⟨xs,h1,h2⟩:=rows_of n (fun i hi=>h i (by omega))
  obtain ⟨x,hx⟩:=h n (by omega)
  refine ⟨xs ++ [x],by simp [h1],fun i y hy=>?_⟩
  by_cases hi:i < n
  ·rw [List.getElem?_append_left (by omega)] at hy
   exact h2 i y hy
  ·rw [List.getElem?_append_right (by omega)] at hy
   have h0:i - xs.length = 0:=by
    have:=(List.getElem?_eq_some_iff.1 hy).1
    simp at this;omega
   rw [h0] at hy
   simp at hy
   subst hy
   have:i = n:=by omega
   subst this
   exact hx
theorem cn {α:Type} [Lay α] {w:World} {S:Nat → Prop}:∀ (ys:List (α × List Value)),(∀ y ∈ ys,Lay.rep w S y.1 y.2) → (ys.flatMap (·.2)).length = ys.length * Lay.size α
 | [],_=>by simp
 | z :: ys,hr=>by
  have ih:=cn ys (fun y hy=>hr y (by simp [hy]))
  have hz:z.2.length = Lay.size α:=Lay.len (hr z (by simp))
  simp only [List.flatMap_cons,List.length_append,List.length_cons,Nat.succ_mul]
  omega
theorem append_nilL {st t:TypeId} {i0:TypeInfo} (hu:Tryz.prog.underlying st = some (.slice t)) (hi:Tryz.prog.info? t = some i0) (w:World) (base size n c:Nat) (v:Value) (xs:List Value) (hown:w.ownsRow base t size v n xs) :
  (Builtin.append_ #[st,st] st #[v,.slice none 0 c]).run Tryz.prog w = .ok v w:=by
 rcases hown.2 with ⟨rfl,rfl⟩ | ⟨g,cap,cur,rfl,_,_,hnc,_⟩
 ·simp [Builtin.append_,run_underlying hu,sizeOf,typeInfo,hi,Builtin.lenOf,Builtin.firstCells]
 ·simp [Builtin.append_,run_underlying hu,sizeOf,typeInfo,hi,Builtin.lenOf,Builtin.firstCells,hnc,storeCells]
theorem addr_at (g o k:Nat):(⟨g,o,none⟩:Addr).add k = ⟨g,o + k,none⟩:=by
 unfold Addr.add;split
 ·next h=>subst h;rfl
 ·rfl
theorem appendL {α:Type} [Lay α] [Ones α] {st t:TypeId} {z:Value} {by':Nat} (hu:Tryz.prog.underlying st = some (.slice t)) (hi0:(Tryz.prog.info? t).map (fun i=>(i.zero,i.size,i.bytes)) = some (some z,Lay.size α,by')) (hby:by' ≤ 4096) (hzs:z.cells.size = Lay.size α) (hpos:0 < Lay.size α)
  (w:World) (base:Nat) (S:Nat → Prop) (v:Value) (xs ys:List α) (A:Option Addr) (n c:Nat) (hown:OwnL t w base S v xs) (hA:HasL w S A ys) (hn:n = ys.length) (hsz:xs.length + ys.length ≤ 4294967296) (hb:base ≤ w.heap.size)
  (hs:∀ g,g < w.heap.size → S g → v.ownBlock ≠ some g) :
  ∃ v' w',(Builtin.append_ #[st,st] st #[v,.slice A n c]).run Tryz.prog w = .ok v' w' ∧ OwnL t w' base (fun g=>S g ∧ v'.ownBlock ≠ some g) v' (xs ++ ys) ∧ Mod (fun g=>v.ownBlock = some g) w w' ∧ ∀ g,v'.ownBlock = some g → v.ownBlock = some g ∨ w.heap.size ≤ g:=by
 obtain ⟨i0,hi,hz0,hz1,hz2⟩:=info_parts hi0
 subst hn
 obtain ⟨xc,h0,h1,h2⟩:=hown
 have hSv:∀ (v':Value) (w':World),Mod (fun g=>v.ownBlock = some g) w w' → (∀ g,v'.ownBlock = some g → v.ownBlock = some g ∨ w.heap.size ≤ g) → ∀ (x:α) (cs:List Value),Lay.rep w S x cs → Lay.rep w' (fun g=>S g ∧ v'.ownBlock ≠ some g) x cs:=fun v' w' hm ht x cs hr =>
  Lay.mod (Lay.more hr (fun g hg hsg=>⟨hsg,fun e=>by
   rcases ht g e with h | h
   ·exact hs g hg hsg h
   ·omega⟩)) hm (fun g hg hsg=>hs g hg hsg.1)
 by_cases hy:ys = []
 ·subst hy
  cases A with
  | none=>exact ⟨v,w,append_nilL hu hi w base _ _ c v _ h1,⟨xc,by simp [h0],by simpa using h1,fun y hy=>hSv v w (Mod.refl _ _) (fun g hg=>.inl hg) _ _ (h2 y hy)⟩,Mod.refl _ _,fun g hg=>.inl hg⟩
  | some a =>
   obtain ⟨v',w',hrun,h3,h4,h5⟩:=run_append_own (P:=Tryz.prog) w base st st t i0 z (Lay.size α) by' hu hi hz0 hz1 hz2 hzs hpos v xs.length _ h1 a 0 c [] (by simp) (fun j u h=>by simp at h) (by simp) (by unfold maxLen;simp at hsz;omega) (by
    have:(xs.length + 0) * by' ≤ 4294967296 * 4096:=Nat.mul_le_mul (by simp at hsz;omega) hby
    omega) hb
   have ht:∀ g,v'.ownBlock = some g → v.ownBlock = some g ∨ w.heap.size ≤ g:=fun g hg=>by
    rcases h1.2 with ⟨rfl,hx⟩ | ⟨g0,cap,cur,rfl,hbg,hg0,hnc,hcm,hcs,htake⟩
    ·have:=h5.2 ⟨rfl,rfl⟩
     subst this
     exact .inl hg
    ·have hr:=run_append_room (P:=Tryz.prog) w st st t i0 hu hi g0 xs.length cap cur hg0 a 0 c [] (by simp) (fun j u h=>by simp at h) (by simp) (by omega) (by rw [hcs,hz1];simp;exact Nat.mul_le_mul_right _ hnc)
     rw [hr] at hrun
     injection hrun with e1 e2
     subst e1
     exact .inl hg
   have hm:=Mod.of_grown (T:=fun g=>v.ownBlock = some g) h4 (fun _ h=>h)
   exact ⟨v',w',hrun,⟨xc,by simp [h0],by simpa using h3,fun y hy=>hSv v' w' hm ht _ _ (h2 y hy)⟩,hm,ht⟩
 ·have hl:0 < ys.length:=List.length_pos_iff.2 hy
  obtain ⟨g,o,cs0,rfl,hSg,hgl,_,_⟩:=hA 0 ys[0] (List.getElem?_eq_getElem hl)
  obtain ⟨zs,hzl,hzs2⟩:=rows_of (E:=fun k (p:α × List Value)=>ys[k]? = some p.1 ∧ Lay.rep w S p.1 p.2 ∧ ∀ (j:Nat) (u:Value),p.2[j]? = some u → w.cell? ⟨g,o + k * Lay.size α + j,none⟩ = some u) ys.length (fun i hil=>by
   obtain ⟨g',o',cs,e,_,_,hr,hc⟩:=hA i ys[i] (List.getElem?_eq_getElem hil)
   injection e with e
   injection e with e1 e2 _
   subst e1 e2
   exact ⟨(ys[i],cs),List.getElem?_eq_getElem hil,hr,hc⟩)
  have hzr:∀ y ∈ zs,Lay.rep w S y.1 y.2:=fun y hy=>by
   obtain ⟨k,hk⟩:=List.mem_iff_getElem?.1 hy
   exact (hzs2 k y hk).2.1
  have hzm:zs.map (·.1) = ys:=List.ext_getElem? (fun k=>by
   rw [List.getElem?_map]
   cases hk:zs[k]? with
   | none =>
    have:ys.length ≤ k:=by rw [← hzl];exact List.getElem?_eq_none_iff.1 hk
    simp [List.getElem?_eq_none this]
   | some p=>simp [(hzs2 k p hk).1])
  have hfl:=cn zs hzr
  rw [hzl] at hfl
  have hnews:∀ j u,(zs.flatMap (·.2))[j]? = some u → w.cell? ((⟨g,o,none⟩:Addr).add j) = some u:=fun j u hj=>by
   have hjl:=(List.getElem?_eq_some_iff.1 hj).1
   rw [hfl] at hjl
   have hk:j / Lay.size α < zs.length:=by rw [hzl];exact (Nat.div_lt_iff_lt_mul hpos).2 hjl
   have hzk:=List.getElem?_eq_getElem hk
   have hr:=hzs2 _ _ hzk
   have hlen:=Lay.len hr.2.1
   have hm:j % Lay.size α < (zs[j / Lay.size α]).2.length:=by rw [hlen];exact Nat.mod_lt _ hpos
   have hjk:j / Lay.size α * Lay.size α + j % Lay.size α = j:=by rw [Nat.mul_comm];exact Nat.div_add_mod j _
   have hat:=dT zs hzr _ _ hzk _ _ (List.getElem?_eq_getElem hm)
   rw [hjk,hj] at hat
   injection hat with hat
   have hc:=hr.2.2 _ _ (List.getElem?_eq_getElem hm)
   rw [addr_at,hat,← hc]
   congr 2
   omega
  have hones:∀ u ∈ zs.flatMap (·.2),u.oneCell' = true:=fun u hu=>by
   obtain ⟨y,hy,hu⟩:=List.mem_flatMap.1 hu
   exact Ones.one (hzr y hy) u hu
  have hbytes:(xs.length + ys.length) * by' ≤ 140737488355328:=by
   have:(xs.length + ys.length) * by' ≤ 4294967296 * 4096:=Nat.mul_le_mul hsz hby
   omega
  obtain ⟨v',w',hrun,h3,h4,_⟩:=run_append_own (P:=Tryz.prog) w base st st t i0 z (Lay.size α) by' hu hi hz0 hz1 hz2 hzs hpos v xs.length _ h1 ⟨g,o,none⟩ ys.length c (zs.flatMap (·.2)) hfl hnews hones (by unfold maxLen;omega) hbytes hb
  have ht:=bw (P:=Tryz.prog) w base st st t i0 z (Lay.size α) by' hu hi hz0 hz1 hz2 v xs.length _ h1 ⟨g,o,none⟩ ys.length c (zs.flatMap (·.2)) hfl hnews hones hl (by unfold maxLen;omega) hbytes hrun
  have hm:=Mod.of_grown (T:=fun g=>v.ownBlock = some g) h4 (fun _ h=>h)
  refine ⟨v',w',hrun,⟨xc ++ zs,by simp [h0,hzm],by rw [List.flatMap_append,List.length_append];exact h3,fun y hy=>?_⟩,hm,ht⟩
  rcases List.mem_append.1 hy with hy | hy
  ·exact hSv v' w' hm ht _ _ (h2 y hy)
  ·exact hSv v' w' hm ht _ _ (hzr y hy)
theorem OwnL.lit0 {α:Type} [Lay α] (t:TypeId) (w:World) (base:Nat) (S:Nat → Prop) (hb:base ≤ w.heap.size):OwnL t (w.alloc (.cells #[] t)) base S (.slice (some ⟨w.heap.size,0,none⟩) 0 0) ([]:List α) :=
 ⟨[],rfl,⟨by simp,.inr ⟨w.heap.size,0,#[],rfl,hb,heap_alloc_new w _,by simp,by unfold maxLen;omega,by simp,by simp⟩⟩,by simp⟩
theorem undUInt8:Tryz.prog.underlying 27 = some (.slice 5):=by kernel_rfl
theorem infUInt8:(Tryz.prog.info? 5).map (fun i=>(i.zero,i.size,i.bytes)) = some (some (.int .u8 0),Lay.size UInt8,1):=by kernel_rfl
theorem undNat:Tryz.prog.underlying 40 = some (.slice 44):=by kernel_rfl
theorem infNat:(Tryz.prog.info? 44).map (fun i=>(i.zero,i.size,i.bytes)) = some (some (.int .u32 0),Lay.size Nat,4):=by kernel_rfl
theorem undLim:Tryz.prog.underlying 41 = some (.slice 66):=by kernel_rfl
theorem infLim:(Tryz.prog.info? 66).map (fun i=>(i.zero,i.size,i.bytes)) = some (some (.agg #[.int .u32 0,.int .i64 0]),Lay.size Lim,16):=by kernel_rfl
theorem undGlob:Tryz.prog.underlying 107 = some (.slice 54):=by kernel_rfl
theorem infGlob:(Tryz.prog.info? 54).map (fun i=>(i.zero,i.size,i.bytes)) = some (some (.agg #[.int .u8 0,.bool false]),Lay.size Glob,2):=by kernel_rfl
theorem undFT:Tryz.prog.underlying 38 = some (.slice 29):=by kernel_rfl
theorem infFT:(Tryz.prog.info? 29).map (fun i=>(i.zero,i.size,i.bytes)) = some (some (.agg #[.slice none 0 0,.slice none 0 0]),Lay.size FT,48):=by kernel_rfl
theorem undImp:Tryz.prog.underlying 39 = some (.slice 75):=by kernel_rfl
theorem infImp:(Tryz.prog.info? 75).map (fun i=>(i.zero,i.size,i.bytes)) = some (some (.agg #[.string ⟨#[]⟩,.string ⟨#[]⟩,.int .u8 0,.int .u32 0,.int .u32 0,.int .i64 0,.int .u8 0,.bool false]),Lay.size Imp,64):=by kernel_rfl
theorem undExp:Tryz.prog.underlying 43 = some (.slice 52):=by kernel_rfl
theorem infExp:(Tryz.prog.info? 52).map (fun i=>(i.zero,i.size,i.bytes)) = some (some (.agg #[.string ⟨#[]⟩,.int .u8 0,.int .u32 0]),Lay.size Exp,24):=by kernel_rfl
end Go.Proofs.YtmpelmihdpomjaaGreat
namespace Go.Proofs.YtmpelmihdpomjaaGreat
open Go.RowKit Sec
def secCells (x:S) (A:Option Addr) (c:Nat):List Value:=[.int .u8 ↑x.id,.slice A x.b.length c]
def HasS (w:World) (B:Nat) (A:Option Addr) (xs:List S):Prop:=∀ (k:Nat) (x:S),xs[k]? = some x → ∃ g o A' c,A = some ⟨g,o,none⟩ ∧ g < B ∧ x.id < 256 ∧ x.b.length ≤ c ∧ c ≤ maxLen ∧ (A' = none → c = 0) ∧ Has w B A' x.b ∧
 w.cell? ⟨g,o + k * 2,none⟩ = some (.int .u8 ↑x.id) ∧ w.cell? ⟨g,o + k * 2 + 1,none⟩ = some (.slice A' x.b.length c)
theorem HasS.nil (w:World) (B:Nat) (A:Option Addr):HasS w B A []:=fun k x hx=>by simp at hx
theorem HasS.on {w w':World} {A:Option Addr} {xs:List S} (h:HasS w w.heap.size A xs) (hb:Below w.heap.size w w'):HasS w' w'.heap.size A xs:=fun k x hk=>by
 obtain ⟨g,o,A',c,h1,h2,h3,h4,h5,h6,h7,h8,h9⟩:=h k x hk
 exact ⟨g,o,A',c,h1,Nat.lt_of_lt_of_le h2 hb.size,h3,h4,h5,h6,h7.on hb,(hb.cell h2).trans h8,(hb.cell h2).trans h9⟩
theorem HasS.ids {w:World} {B:Nat} {A:Option Addr} {xs:List S} (h:HasS w B A xs):∀ x ∈ xs,x.id < 256:=fun x hx=>by
 obtain ⟨k,hk⟩:=List.mem_iff_getElem?.1 hx
 obtain ⟨_,_,_,_,_,_,h3,_⟩:=h k x hk
 exact h3
theorem HasS.take {w:World} {B:Nat} {A:Option Addr} {xs:List S} (h:HasS w B A xs) (n:Nat):HasS w B A (xs.take n):=fun k x hk=>by
 rw [List.getElem?_take] at hk
 split at hk
 ·exact h k x hk
 ·cases hk
def rowS (ys:List (S × Option Addr × Nat)):List Value:=ys.flatMap fun y=>secCells y.1 y.2.1 y.2.2
theorem rowS_length (ys:List (S × Option Addr × Nat)):(rowS ys).length = ys.length * 2:=by
 induction ys with
 | nil=>rfl
 | cons y ys ih=>simp only [rowS,List.flatMap_cons,List.length_append,List.length_cons] at ih ⊢;rw [ih];simp [secCells];omega
theorem fA:∀ (ys:List (S × Option Addr × Nat)) (k:Nat) (y:S × Option Addr × Nat),ys[k]? = some y → ∀ j u,(secCells y.1 y.2.1 y.2.2)[j]? = some u → (rowS ys)[k * 2 + j]? = some u
 | [],k,y,h,_,_,_=>by simp at h
 | z :: ys,0,y,h,j,u,hj=>by
  simp at h;subst h
  simp only [rowS,List.flatMap_cons,Nat.zero_mul,Nat.zero_add]
  rw [List.getElem?_append_left (by exact (List.getElem?_eq_some_iff.1 hj).1)]
  exact hj
 | z :: ys,k + 1,y,h,j,u,hj=>by
  have ih:=fA ys k y (by simpa using h) j u hj
  simp only [rowS,List.flatMap_cons] at ih ⊢
  rw [List.getElem?_append_right (by simp [secCells];omega),← ih]
  congr 1
  simp [secCells];omega
def OwnS (w:World) (T:TypeId) (base:Nat) (v:Value) (n:Nat) (xs:List S):Prop :=
 ∃ ys,ys.map (·.1) = xs ∧ w.ownsRow base T 2 v n (rowS ys) ∧ ∀ y ∈ ys,y.1.id < 256 ∧ y.1.b.length ≤ y.2.2 ∧ y.2.2 ≤ maxLen ∧ (y.2.1 = none → y.2.2 = 0) ∧ Has w w.heap.size y.2.1 y.1.b ∧ ∀ ad,y.2.1 = some ad → y.1.b ≠ [] → v.ownBlock ≠ some ad.block
theorem OwnS.len {w:World} {T:TypeId} {base:Nat} {v:Value} {n:Nat} {xs:List S} (h:OwnS w T base v n xs):n = xs.length:=by
 obtain ⟨ys,rfl,h1,_⟩:=h
 have:=h1.1
 rw [rowS_length] at this
 simp;omega
theorem OwnS.nil (w:World) (T:TypeId) (base:Nat):OwnS w T base (.slice none 0 0) 0 []:=⟨[],rfl,World.ownsRow_nil _ _ _ _,by simp⟩
theorem OwnS.on {w w':World} {T:TypeId} {base:Nat} {v:Value} {n:Nat} {xs:List S} (h:OwnS w T base v n xs) (hb:Below w.heap.size w w'):OwnS w' T base v n xs:=by
 obtain ⟨ys,h0,h1,h2⟩:=h
 exact ⟨ys,h0,(Mod.of_below (T:=fun _=>False) hb).own h1 (fun _ _ h=>h),fun y hy=>by
  obtain ⟨q1,q2,q3,q4,q5,q6⟩:=h2 y hy
  exact ⟨q1,q2,q3,q4,q5.on hb,q6⟩⟩
theorem add2 (g j:Nat):(⟨g,0,none⟩:Addr).add j = ⟨g,0 + j,none⟩:=by
 unfold Addr.add;split
 ·next h=>subst h;rfl
 ·simp
theorem OwnS.tell {w:World} {T:TypeId} {base:Nat} {v:Value} {n:Nat} {xs:List S} (h:OwnS w T base v n xs):∃ A c,v = .slice A xs.length c ∧ xs.length ≤ c ∧ c ≤ maxLen ∧ HasS w w.heap.size A xs:=by
 have hn:=h.len
 obtain ⟨ys,h0,h1,h2⟩:=h
 subst hn
 rcases h1.2 with ⟨rfl,h3⟩ | ⟨g,cap,cur,rfl,hb,hh,hc,hm,_,htk⟩
 ·have:xs = []:=List.eq_nil_of_length_eq_zero h3
  subst this
  exact ⟨none,0,rfl,Nat.le_refl _,by unfold maxLen;omega,HasS.nil _ _ _⟩
 ·refine ⟨_,cap,rfl,hc,hm,fun k x hk=>?_⟩
  rw [← h0,List.getElem?_map,Option.map_eq_some_iff] at hk
  obtain ⟨y,hy,rfl⟩:=hk
  obtain ⟨q1,q2,q3,q4,q5,q6⟩:=h2 y (List.mem_of_getElem? hy)
  have hg:g < w.heap.size:=(gL hh)
  refine ⟨g,0,y.2.1,y.2.2,rfl,hg,q1,q2,q3,q4,q5,?_,?_⟩
  ·have:=h1.cells (g:=g) rfl (k * 2 + 0) _ (fA ys k y hy 0 _ rfl)
   rwa [add2] at this
  ·have:=h1.cells (g:=g) rfl (k * 2 + 1) _ (fA ys k y hy 1 _ rfl)
   rw [add2] at this
   exact this
end Go.Proofs.YtmpelmihdpomjaaGreat
namespace Go.Proofs.YtmpelmihdpomjaaGreat
open Go.RowKit Ins Bin
instance : Ones El:=⟨fun h u hu=>by
 obtain ⟨a,b,rfl,_,h1,h2⟩:=h
 simp at hu
 rcases hu with rfl | rfl | rfl
 ·rfl
 ·exact aa.one h1
 ·exact aa.one h2⟩
theorem bQ {α:Type} [Lay α] {t:TypeId} {w:World} {base:Nat} {S:Nat → Prop} {v:Value} {xs:List α} (h:OwnL t w base S v xs):∃ A c,v = .slice A xs.length c ∧ xs.length ≤ c ∧ c ≤ maxLen:=by
 obtain ⟨ys,rfl,h1,_⟩:=h
 rcases h1.2 with ⟨rfl,h3⟩ | ⟨g,cap,cur,rfl,hb,hh,hc,hm,_⟩
 ·exact ⟨none,0,by rw [h3],by omega,by unfold maxLen;omega⟩
 ·exact ⟨_,cap,rfl,hc,hm⟩
def aM {α:Type} [Lay α] (t:TypeId) (N B:Nat) (w:World) (v:Value) (xs:List α):Prop:=OwnL t w B (· < B) v xs ∧ ∀ k,v.ownBlock = some k → N ≤ k
section
variable {α:Type} [Lay α] {t:TypeId} {N B:Nat} {w w':World} {v:Value} {xs:List α}
theorem aM.lit0 (t:TypeId) (w:World) (N B:Nat) (hN:N ≤ w.heap.size) (hB:B ≤ w.heap.size):aM t N B (w.alloc (.cells #[] t)) (.slice (some ⟨w.heap.size,0,none⟩) 0 0) ([]:List α) :=
 ⟨OwnL.lit0 _ _ _ _ hB,fun k hk=>by simp [Value.ownBlock] at hk;omega⟩
theorem aM.lt (h:aM t N B w v xs):∀ k,v.ownBlock = some k → N ≤ k ∧ k < w.heap.size:=fun k hk=>⟨h.2 k hk,(OwnL.lt h.1 k hk).2⟩
theorem aM.mod {T:Nat → Prop} (h:aM t N B w v xs) (hm:Mod T w w') (h1:∀ k,k < B → ¬ T k) (h2:∀ k,v.ownBlock = some k → ¬ T k):aM t N B w' v xs :=
 ⟨OwnL.mod h.1 hm h2 (fun g _ hg=>h1 g hg),h.2⟩
theorem aM.on (h:aM t N B w v xs) (hb:Below w.heap.size w w'):aM t N B w' v xs:=h.mod (T:=fun _=>False) (Mod.of_below hb) (fun _ _ h=>h) (fun _ _ h=>h)
theorem aM.slice (h:aM t N B w v xs):aa w (· < w.heap.size) xs v:=by
 obtain ⟨⟨ys,h0,h1,h2⟩,_⟩:=h
 have h':OwnL t w 0 (· < B) v xs:=⟨ys,h0,own_base h1 (Nat.zero_le _),h2⟩
 exact (h'.tell (fun _ _=>Nat.zero_le _)).more (fun k hk _=>hk)
theorem aM.app [Ones α] {st:TypeId} {z:Value} {by':Nat} (hu:Tryz.prog.underlying st = some (.slice t)) (hi0:(Tryz.prog.info? t).map (fun i=>(i.zero,i.size,i.bytes)) = some (some z,Lay.size α,by')) (hby:by' ≤ 4096) (hzs:z.cells.size = Lay.size α) (hpos:0 < Lay.size α)
  (h:aM t N B w v xs) (hN:N ≤ w.heap.size) (hBN:B ≤ N) (A:Option Addr) (n c:Nat) (ys:List α) (hA:HasL w (· < B) A ys) (hn:n = ys.length) (hsz:xs.length + n ≤ 1000000000) :
  ∃ A' c' w',(Builtin.append_ #[st,st] st #[v,.slice A n c]).run Tryz.prog w = .ok (.slice A' (xs.length + n) c') w' ∧ aM t N B w' (.slice A' (xs.length + n) c') (xs ++ ys) ∧ Below N w w':=by
 subst hn
 obtain ⟨v',w',hrun,hO,hM,hT⟩:=appendL hu hi0 hby hzs hpos w B (· < B) v xs ys A ys.length c h.1 hA rfl (by omega) (by omega) (fun g _ hg e=>by have:=h.2 g e;omega)
 obtain ⟨A',c',e,_⟩:=bQ hO
 rw [List.length_append] at e
 subst e
 exact ⟨A',c',w',hrun,⟨hO.more (fun g _ hg=>hg.1),fun k hk=>by
  rcases hT k hk with h' | h'
  ·exact h.2 k h'
  ·omega⟩,hM.below hN (fun k hk e=>by have:=h.2 k e;omega)⟩
end
theorem aM.exp {N B:Nat} {w:World} {v:Value} {xs:List Exp} (h:aM 52 N B w v xs) (hN:N ≤ w.heap.size) (hBN:B ≤ N) (x:Exp) (hx:x.index < 4294967296) (L:Nat) (hL:w.heap[L]? = some (.cells #[strV x.name,.int .u8 ↑x.kind.toNat,.int .u32 ↑x.index] 52 (0,0))) (hne:v.ownBlock ≠ some L) (hsz:xs.length + 1 ≤ 1000000000) :
  ∃ A' c' w',(Builtin.append_ #[43,43] 43 #[v,.slice (some ⟨L,0,none⟩) 1 1]).run Tryz.prog w = .ok (.slice A' (xs.length + 1) c') w' ∧ aM 52 N B w' (.slice A' (xs.length + 1) c') (xs ++ [x]) ∧ Below N w w':=by
 have hA:HasL w (· = L) (some ⟨L,0,none⟩) [x]:=fun k y hk=>by
  cases k with
  | zero =>
   simp at hk
   subst hk
   refine ⟨L,0,[strV x.name,.int .u8 ↑x.kind.toNat,.int .u32 ↑x.index],rfl,rfl,(gL hL),⟨rfl,hx⟩,fun j u hj=>?_⟩
   rw [cell_of_row w L _ _ _ (0,0) hL]
   simpa using hj
  | succ k=>simp at hk
 obtain ⟨⟨ys,h0,h1,h2⟩,hb⟩:=h
 obtain ⟨v',w',hrun,hO,hM,hT⟩:=appendL undExp infExp (by decide) rfl (by decide) w B (· = L) v xs [x] (some ⟨L,0,none⟩) 1 1 ⟨ys,h0,h1,fun y hy=>h2 y hy⟩ hA rfl (by simp;omega) (by omega) (fun g _ hg e=>by subst hg;exact hne e)
 obtain ⟨A',c',e,_⟩:=bQ hO
 rw [List.length_append] at e
 subst e
 obtain ⟨zs,g0,g1,g2⟩:=hO
 exact ⟨A',c',w',hrun,⟨⟨zs,g0,g1,fun y hy=>g2 y hy⟩,fun k hk=>by
  rcases hT k hk with h' | h'
  ·exact hb k h'
  ·omega⟩,hM.below hN (fun k hk e=>by have:=hb k e;omega)⟩
section
variable {N B n c:Nat} {W:World} {v:Value} {es:List Exp} {A:Option Addr} {x:Exp}
end
theorem hasV_old {α:Type} [Lay α] {w w':World} {B:Nat} {A:Option Addr} {xs:List α} (h:HasL w (· < w.heap.size) A xs) (hb:Below w.heap.size w w') (hB:B = w.heap.size):HasL w' (· < B) A xs:=by
 subst hB
 exact h.mod (T:=fun _=>False) (Mod.of_below hb) (fun _ _ _ h=>h)
end Go.Proofs.YtmpelmihdpomjaaGreat
