/-
  A slice that reads as bytes; rows of a call's own and literals, read as bytes; string(b).
-/
import Derived.Test.YtmpelmihdpomjaaGreatSo01
import Derived.Test.YtmpelmihdpomjaaGreatRows
import Derived.WalkKit
import Derived.RegionTactic
import Derived.Deep.QuietTactic
import Derived.BigQuiet
import Derived.Below
import Derived.Outline
import Derived.OwnWalk
import Derived.Lib.Hide
import Derived.Laws.AppendOwn
import Derived.Laws.Tables
import Derived.Laws.Rows
import Derived.Test.YtmpelmihdpomjaaGreatSo03
import Derived.Orders
set_option maxRecDepth 100000
set_option maxHeartbeats 4000000
namespace Go.Proofs.YtmpelmihdpomjaaGreat
open Go.RowKit
def Has (w:World) (B:Nat) (A:Option Addr) (l:List UInt8):Prop:=∀ (k:Nat) (x:UInt8),l[k]? = some x → ∃ ad,A = some ad ∧ ad.block < B ∧ w.cell? (ad.add k) = some (.int .u8 ↑x.toNat)
theorem gL {α:Type} {a:Array α} {i:Nat} {x:α} (h:a[i]? = some x):i < a.size:=(Array.getElem?_eq_some_iff.1 h).1
theorem nB {a b:Int} (h:a ≠ b):(a == b) = false:=by rw [beq_eq_false_iff_ne];exact h
theorem bA {w:World} {o:Obj}:RowKit.Below w.heap.size w (w.alloc o):=(RowKit.Below.refl _ _).alloc (Nat.le_refl _) _
theorem Has.keep {w w':World} {B:Nat} {A:Option Addr} {l:List UInt8} (h:Has w B A l) (hk:∀ p:Addr,p.block < B → w'.cell? p = w.cell? p):Has w' B A l:=fun k x hx=>by
 obtain ⟨ad,h1,h2,h3⟩:=h k x hx
 have hb:(ad.add k).block = ad.block:=by unfold Addr.add;split <;> rfl
 exact ⟨ad,h1,h2,(hk _ (by rw [hb];exact h2)).trans h3⟩
theorem Has.more {w:World} {B B':Nat} {A:Option Addr} {l:List UInt8} (h:Has w B A l) (hB:B ≤ B'):Has w B' A l:=fun k x hx=>by
 obtain ⟨ad,h1,h2,h3⟩:=h k x hx
 exact ⟨ad,h1,by omega,h3⟩
theorem Has.below {w w':World} {B:Nat} {A:Option Addr} {l:List UInt8} (h:Has w B A l) (hb:Below B w w'):Has w' B A l:=h.keep fun _ hp=>hb.cell hp
theorem Has.on {w w':World} {A:Option Addr} {l:List UInt8} (h:Has w w.heap.size A l) (hb:Below w.heap.size w w'):Has w' w'.heap.size A l:=(h.below hb).more hb.size
theorem Has.alloc {w:World} {B:Nat} {A:Option Addr} {l:List UInt8} (h:Has w B A l) (hB:B ≤ w.heap.size) (o:Obj):Has (w.alloc o) B A l:=h.keep fun p hp=>World.cell?_alloc_lt w o p (by omega)
theorem Has.nil (w:World) (B:Nat) (A:Option Addr):Has w B A []:=fun k x hx=>by simp at hx
theorem Below.dn {B:Nat} {a w:World} (h:Below B a w) (n:Nat):Below B a (w.drewN n):=⟨h.os,h.tape,h.output,h.size,h.block⟩
def bytesOf (l:List UInt8):List Value:=l.map fun x=>.int .u8 ↑x.toNat
theorem ap (l:List UInt8):(bytesOf l).length = l.length:=by simp [bytesOf]
theorem bytesOf_at {l:List UInt8} {k:Nat} {u:Value} (h:(bytesOf l)[k]? = some u):∃ x,l[k]? = some x ∧ u = .int .u8 ↑x.toNat:=by
 simp only [bytesOf,List.getElem?_map,Option.map_eq_some_iff] at h
 obtain ⟨x,hx,rfl⟩:=h
 exact ⟨x,hx,rfl⟩
theorem cm (l:List UInt8):∀ u ∈ bytesOf l,u.oneCell' = true:=by
 intro u hu
 simp only [bytesOf,List.mem_map] at hu
 obtain ⟨x,_,rfl⟩:=hu
 rfl
theorem Has.cells {w:World} {B:Nat} {A:Option Addr} {l:List UInt8} (h:Has w B A l) (h0:0 < (bytesOf l).length):∃ ad,A = some ad ∧ ∀ j v,(bytesOf l)[j]? = some v → w.cell? (ad.add j) = some v:=by
 rw [ap] at h0
 obtain ⟨ad,hA,_,_⟩:=h 0 l[0] (List.getElem?_eq_getElem h0)
 refine ⟨ad,hA,fun j v hv=>?_⟩
 obtain ⟨x,hx,rfl⟩:=bytesOf_at hv
 obtain ⟨ad',hA',_,hc⟩:=h j x hx
 rw [hA] at hA'
 injection hA' with hA'
 subst hA'
 exact hc
theorem cG (W:World) (x:Value) (t:TypeId):∀ (j:Nat) (u:Value),[x][j]? = some u → (W.alloc (.cells #[x] t)).cell? ((⟨W.heap.size,0,none⟩:Addr).add j) = some u:=by
 intro j u h
 cases j with
 | zero=>simp at h;subst h;simp [Addr.add]
 | succ j=>simp at h
theorem aZ {w:World} {base e size n:Nat} {v:Value} {xs:List Value} (h:w.ownsRow base e size v n xs):∀ k,v.ownBlock = some k → base ≤ k:=by
 intro k hk
 rcases h.2 with ⟨rfl,_⟩ | ⟨g,cap,cur,rfl,hg,_⟩
 ·simp [Value.ownBlock] at hk
 ·simp [Value.ownBlock] at hk;omega
theorem aK (a b:List UInt8):bytesOf (a ++ b) = bytesOf a ++ bytesOf b:=by simp [bytesOf]
theorem bu (x:Nat) (h:x < 256) (z:Int) (hz:z = (x:Int)):bytesOf [UInt8.ofNat x] = [Value.int .u8 z]:=by
 subst hz
 have:(UInt8.ofNat x).toNat = x:=by rw [UInt8.toNat_ofNat'];exact Nat.mod_eq_of_lt h
 show [Value.int .u8 ((UInt8.ofNat x).toNat:Int)] = _
 rw [this]
theorem und22:Tryz.prog.underlying 27 = some (.slice 5):=by kernel_rfl
theorem info5:(Tryz.prog.info? 5).map (fun i=>(i.zero,i.size,i.bytes)) = some (some (.int .u8 0),1,1):=by kernel_rfl
theorem Has.take {w:World} {B:Nat} {A:Option Addr} {l:List UInt8} (h:Has w B A l) (n:Nat):Has w B A (l.take n):=fun k x hx=>by
 rw [List.getElem?_take] at hx
 split at hx
 ·exact h k x hx
 ·simp at hx
theorem Has.of_own {w:World} {base n:Nat} {e:TypeId} {v:Value} {l:List UInt8} (h:w.ownsRow base e 1 v n (bytesOf l)) (hn:1 ≤ n):∃ (ad:Addr) (c:Nat),v = .slice (some ad) n c ∧ n ≤ c ∧ n = l.length ∧ Has w w.heap.size (some ad) l:=by
 have hl:=h.1
 rw [ap,Nat.mul_one] at hl
 rcases h.2 with ⟨_,h0⟩ | ⟨g,cap,cur,rfl,hg,hh,hnc,_,_,htk⟩
 ·omega
 ·have hlt:g < w.heap.size:=by
   rcases Nat.lt_or_ge g w.heap.size with h | h
   ·exact h
   ·rw [Array.getElem?_eq_none h] at hh;cases hh
  refine ⟨⟨g,0,none⟩,cap,rfl,hnc,hl.symm,fun k x hx=>⟨_,rfl,hlt,?_⟩⟩
  have hkl:k < l.length:=(List.getElem?_eq_some_iff.1 hx).1
  have e1:(bytesOf l)[k]? = some (.int .u8 ↑x.toNat):=by simp [bytesOf,hx]
  rw [← htk,Nat.mul_one,List.getElem?_take,if_pos (by omega)] at e1
  have e2:(⟨g,0,none⟩:Addr).add k = ⟨g,k,none⟩:=by
   unfold Addr.add;split <;> simp_all
  rw [e2,cell_of_row w g k cur e (0,0) hh]
  simpa using e1
theorem und5:Tryz.prog.underlying 5 = some (.int .u8):=by kernel_rfl
theorem und9:Tryz.prog.underlying 9 = some .string:=by kernel_rfl
theorem bH {w:World} {B n:Nat} {A:Option Addr} {l:List UInt8} (hA:Has w B A l) (hn:n = l.length) (c:Nat):(convert 27 9 (.slice A n c)).run Tryz.prog w = .ok (.string ⟨l.toArray⟩) w:=by
 subst hn
 cases A with
 | none =>
  have:l = []:=by
   cases l with
   | nil=>rfl
   | cons x r =>
    obtain ⟨ad,h,_⟩:=hA 0 x (by simp)
    cases h
  subst this
  exact (run_convert_bytes_string w 27 9 5 none 0 c und22 und5 und9).trans rfl
 | some a =>
  refine run_convert_bytes_back w 27 9 5 a c l und22 und5 und9 (fun j hj=>?_)
  obtain ⟨ad,h,_,hc⟩:=hA j l[j] (List.getElem?_eq_getElem hj)
  injection h with h
  subst h
  exact hc
theorem Has.own {w:World} {base n:Nat} {e:TypeId} {v:Value} {l:List UInt8} (h:w.ownsRow base e 1 v n (bytesOf l)):∃ (A:Option Addr) (c:Nat),v = .slice A n c ∧ n ≤ c ∧ n = l.length ∧ Has w w.heap.size A l:=by
 by_cases hn:1 ≤ n
 ·obtain ⟨ad,c,h1,h2,h3,h4⟩:=Has.of_own h hn
  exact ⟨_,c,h1,h2,h3,h4⟩
 ·have hl:=h.1
  rw [ap,Nat.mul_one] at hl
  have:l = []:=List.eq_nil_of_length_eq_zero (by omega)
  subst this
  rcases h.2 with ⟨rfl,h0⟩ | ⟨g,cap,cur,rfl,_,_,hc,_⟩
  ·subst h0;exact ⟨none,0,rfl,Nat.le_refl _,rfl,Has.nil _ _ _⟩
  ·exact ⟨_,cap,rfl,hc,hl.symm,Has.nil _ _ _⟩
theorem Has.lit (w:World) (l:List UInt8) (t:TypeId):Has (w.alloc (.cells (bytesOf l).toArray t)) (w.heap.size + 1) (some ⟨w.heap.size,0,none⟩) l:=fun k x hx=>by
 refine ⟨_,rfl,Nat.lt_succ_self _,?_⟩
 have e2:(⟨w.heap.size,0,none⟩:Addr).add k = ⟨w.heap.size,k,none⟩:=by
  unfold Addr.add;split <;> simp_all
 rw [e2,World.cell?_alloc_new]
 simp [bytesOf,hx]
theorem run_append_nil (w:World) (base n c:Nat) (v:Value) (xs:List Value) (hown:w.ownsRow base 5 1 v n xs):(Builtin.append_ #[27,27] 27 #[v,.slice none 0 c]).run Tryz.prog w = .ok v w:=by
 obtain ⟨i0,hi,hz0,hz1,hz2⟩:=info_parts info5
 rcases hown.2 with ⟨rfl,rfl⟩ | ⟨g,cap,cur,rfl,_,_,hnc,_⟩
 ·simp [Builtin.append_,run_underlying und22,sizeOf,typeInfo,hi,Builtin.lenOf,Builtin.firstCells]
 ·simp [Builtin.append_,run_underlying und22,sizeOf,typeInfo,hi,Builtin.lenOf,Builtin.firstCells,hnc,storeCells]
theorem ag {P:Program} {w:World} {ops:Array Oper} {rest:List Oper} {o:Oper} {a:Act} {Q:Exit → Act → World → Prop} (hgd:o.guard = none) (s x:Operand) (t:TypeId)
  (ho:o.op = .call { callee:=.builtin .append,args:=#[s,x],argTypes:=#[t,t] }) (v u r:Value) (w':World) (hs:a.eval s = v) (hx:a.eval x = u)
  (hrun:(Builtin.append_ #[t,t] o.type #[v,u]).run P w = .ok r w') (h:wpList P ops Q rest (a.put o.dst r) w'):wpList P ops Q (o :: rest) a w:=by
 refine wpList_plain hgd fun K hK=>?_
 unfold Oper.wp execOp
 simp only [ho,resolve,invoke,builtin,Sem.run_bind,Sem.run_pure,Result.andThen_ok,List.map_toArray,List.map_cons,List.map_nil,hs,hx,hrun]
 exact hK _ _ h
theorem Has.from {w:World} {B:Nat} {ad:Addr} {l:List UInt8} (h:Has w B (some ad) l) (k:Nat):Has w B (some (ad.add k)) (l.drop k):=by
 by_cases hk:k = 0
 ·subst hk;simpa [Addr.add] using h
 ·intro j x hx
  rw [List.getElem?_drop] at hx
  obtain ⟨ad',h1,h2,h3⟩:=h (k + j) x hx
  obtain rfl:=Option.some.inj h1
  rw [Addr.add,if_neg hk]
  refine ⟨_,rfl,h2,?_⟩
  have e:(⟨ad.block,ad.off + k,none⟩:Addr).add j = ad.add (k + j):=by
   unfold Addr.add
   rw [if_neg (show ¬ k + j = 0 by omega)]
   split
   ·next hj=>subst hj;rfl
   ·simp [Nat.add_assoc]
  rw [e]
  exact h3
theorem Has.someAddr {w:World} {B:Nat} {A:Option Addr} {l:List UInt8} (h:Has w B A l) (hk:0 < l.length):∃ ad,A = some ad:=by
 obtain ⟨ad,h1,_⟩:=h 0 _ (List.getElem?_eq_getElem hk)
 exact ⟨ad,h1⟩
theorem ah {P:Program} {ops:Array Oper} {rest:List Oper} {o:Oper} {a:Act} {w:World} {Q:Exit → Act → World → Prop} (hgd:o.guard = none) (ty:TypeId) (x y:Operand) (ho:o.op = .store ty x y)
  (hdst:o.dst = none)
  (g:Nat) (cells:Array Value) (hx:a.eval x = .pointer (some ⟨g,0,none⟩)) (hy:a.eval y = .agg cells)
  (t:TypeId) (old:Array Value) (hg:w.heap[g]? = some (.cells old t (0,0))) (hi:(P.info? ty).map (·.size) = some cells.size)
  (hold:old.size = cells.size) (h1:cells.all (·.oneCell') = true)
  (h:wpList P ops Q rest a (w.setRow g cells)):wpList P ops Q (o :: rest) a w :=
 wpList_store_row hgd ty x y ho g cells hx hy t old hg hi hold h1 (by rw [hdst];exact h)
theorem ab {B g:Nat} {a w:World} (h:Below B a w) (hg:B ≤ g) (cs:Array Value):Below B a (w.setRow g cs) :=
 ⟨h.os,h.tape,h.output,by simpa using h.size,fun b hb=>(setRow_other w g b cs (by omega)).trans (h.block b hb)⟩
theorem typeU_any (x:Int) (w:World):Calls Tryz.prog 148 #[.int .u8 x] w fun e w'=>e = .returned (.int .u8 ((Opc.typeU x).toNat:Int)) ∧ w = w':=by
 rw [Opc.typeU_toNat];exact type_any x w
theorem oper_mono {P:Program} {Q Q':Exit → Act → World → Prop} {o:Oper} {a:Act} {w:World} {K K':Act → World → Prop} (h:∀ a w,K a w → K' a w) (hp:∀ c a w,Q (.panic c) a w → Q' (.panic c) a w) (ho:LetsOut Q → LetsOut Q')
  (hh:o.wp P a w K Q):o.wp P a w K' Q':=by
 unfold Oper.wp at *
 generalize (execOp a.eval o).run P w = r at *
 cases r with
 | ok n w' =>
  cases n <;> simp only [Oper.upon] at hh ⊢ <;>
   first
    | exact h _ _ hh
    | exact Calls.mono hh (fun e w'' he=>by cases e <;> first | exact h _ _ he | exact hp _ _ _ he | exact ho he)
    | exact Rows.mono hh (fun _ _ he=>h _ _ he)
 | halt x w'=>cases x <;> simp only [Oper.upon] at hh ⊢ <;> exact hp _ _ _ hh
def CutPost (R:Act → World → Prop) (e:Exit) (a:Act) (w:World):Prop:=e = .normal ∧ R a w
theorem cutFin {a:Act} {F:(Nat → Value) → Act} (h:a = F (fun k=>a.tmps.getD k undef)):∃ t,a = F t:=⟨_,h⟩
theorem bd {P:Program} {ops:Array Oper} {Q:Exit → Act → World → Prop} (R:Act → World → Prop):∀ (n:Nat) (l:List Oper) (a:Act) (w:World),
  wpList P ops (CutPost R) (l.take n) a w → (∀ a w,R a w → wpList P ops Q (l.drop n) a w) → wpList P ops Q l a w
 | 0,l,a,w,h,hr=>by
  rw [List.take_zero] at h
  exact hr a w h.2
 | n + 1,[],a,w,h,hr=>hr a w h.2
 | n + 1,o :: l,a,w,h,hr=>by
  have hno:¬ LetsOut (CutPost R):=by
   rintro ⟨_,_,h,_⟩
   cases h
  rw [List.take_succ_cons] at h
  rw [List.drop_succ_cons] at hr
  unfold wpList at h ⊢
  split
  ·next hw =>
   rw [if_pos hw] at h
   rcases h with h | ⟨_,h⟩
   ·exact .inl (oper_mono (fun a w h=>bd R n l a w h hr) (fun c a w h=>by cases h.1) (fun h=>(hno h).elim) h)
   ·exact (hno h).elim
  ·next hw =>
   rw [if_neg hw] at h
   exact bd R n l _ _ h hr
def strip (o:Oper):Oper:={ dst:=o.dst,op:=o.op,type:=o.type,pos:=o.pos,after:=#[],guard:=o.guard }
def thin (o : Oper) : Oper := { dst := o.dst, op := .move (.const undef), type := 0, pos := "", after := #[], guard := none }
theorem eq (o:Oper) (ρ:Operand → Value):execOp ρ (strip o) = execOp ρ o:=by
 obtain ⟨d,op,t,p,af,g⟩:=o
 unfold strip
 cases op <;> rfl
theorem strip_wp (o:Oper) {P:Program} {a:Act} {w:World} {K:Act → World → Prop} {Q:Exit → Act → World → Prop} (h:(strip o).wp P a w K Q):o.wp P a w K Q:=by
 unfold Oper.wp at *
 rw [eq] at h
 exact h
theorem strip_asks (o:Oper) {P:Program} {a:Act} {w:World} (h:(strip o).asks P a w):o.asks P a w:=by
 unfold Oper.asks at *
 rw [eq] at h
 exact h
theorem fE (ops:Array Oper) (t:Array Value):yielded (ops.map thin) t = yielded ops t:=by
 funext j
 unfold yielded
 rw [Array.getElem?_map]
 cases ops[j]? <;> rfl
theorem ce {P:Program} {ops:Array Oper} {Q:Exit → Act → World → Prop}:∀ (l:List Oper) (a:Act) (w:World),wpList P (ops.map thin) Q (l.map strip) a w → wpList P ops Q l a w
 | [],_,_,h=>h
 | o :: l,a,w,h=>by
  rw [List.map_cons] at h
  unfold wpList at h ⊢
  rw [fE] at h
  have e:Region.wanted (strip o) (yielded ops a.tmps) = Region.wanted o (yielded ops a.tmps):=rfl
  rw [e] at h
  split
  ·next hw =>
   rw [if_pos hw] at h
   rcases h with h | ⟨h1,h2⟩
   ·exact .inl (Oper.wp_mono (fun a w h=>ce l a w h) (strip_wp o h))
   ·exact .inr ⟨strip_asks o h1,h2⟩
  ·next hw =>
   rw [if_neg hw] at h
   exact ce l _ w h
theorem fy {P:Program} {Q:Exit → Act → World → Prop} {a:Act} {w:World} {id:Nat} {l:List Oper} (h:wpList P (l.map thin).toArray Q (l.map strip) a w):(Code.region id l.toArray false).wp P Q a w :=
 wp_region_lit (ce l a w (by rw [List.map_toArray];exact h))
end Go.Proofs.YtmpelmihdpomjaaGreat
