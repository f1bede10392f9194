/-
  The document's types of functions, by number. (gen/space/ref3.py)
-/
import Derived.Test.YtmpelmihdpomjaaGreatSq01
import Derived.Test.YtmpelmihdpomjaaGreatSq22
import Derived.Deep.CutRange
set_option maxRecDepth 100000
set_option maxHeartbeats 4000000
namespace Go.Proofs.YtmpelmihdpomjaaGreat
open Go.RowKit Ins Bin Sp
def FuncPost (o:Option FT) (w:World) (e:Ending) (w':World):Prop:=∃ u v,e = .returned (.tuple #[.agg #[u,v],.bool o.isSome]) ∧ aa w' (· < w'.heap.size) (o.getD ⟨[],[]⟩).params u ∧ aa w' (· < w'.heap.size) (o.getD ⟨[],[]⟩).results v ∧ Below w.heap.size w w'
theorem ft_at {w:World} {S:Nat → Prop} {A:Option Addr} {xs:List FT} {k:Nat} {x:FT} (h:HasL w S A xs) (hx:xs[k]? = some x):∃ g o D1 d1 D2 d2,A = some ⟨g,o,none⟩ ∧ g < w.heap.size ∧ w.cell? ⟨g,o + k * 2,none⟩ = some (.slice D1 x.params.length d1) ∧ w.cell? ⟨g,o + k * 2 + 1,none⟩ = some (.slice D2 x.results.length d2) ∧ aa w S x.params (.slice D1 x.params.length d1) ∧ aa w S x.results (.slice D2 x.results.length d2):=by
 obtain ⟨g,o,cs,h1,_,h3,⟨u,v,rfl,hu,hv⟩,h6⟩:=h k x hx
 have hu2:=hu
 have hv2:=hv
 obtain ⟨D1,d1,rfl,_⟩:=hu
 obtain ⟨D2,d2,rfl,_⟩:=hv
 exact ⟨g,o,D1,d1,D2,d2,h1,h3,h6 0 _ rfl,h6 1 _ rfl,hu2,hv2⟩
theorem f8 {w:World} {S:Nat → Prop} {A:Option Addr} {xs:List Nat} {k:Nat} {x:Nat} (h:HasL w S A xs) (hx:xs[k]? = some x):∃ g o,A = some ⟨g,o,none⟩ ∧ g < w.heap.size ∧ w.cell? ⟨g,o + k,none⟩ = some (.int .u32 ↑x) ∧ x < 4294967296:=by
 obtain ⟨g,o,cs,h1,_,h3,⟨rfl,hlt⟩,h6⟩:=h k x hx
 have e:=h6 0 _ rfl
 rw [show Lay.size Nat = 1 from rfl,Nat.mul_one,Nat.add_zero] at e
 exact ⟨g,o,h1,h3,e,hlt⟩
theorem dI {w:World} {S:Nat → Prop} {m:M} {v1 v2 v3 v4 v5 v6 v7 v8 v9 v10:Value} (hM:RepM w S m v1 v2 v3 v4 v5 v6 v7 v8 v9 v10):∀ t ∈ funs m,t < 4294967296:=fun t ht=>by
 unfold funs at ht
 rcases List.mem_append.1 ht with h | h
 ·obtain ⟨x,hx,rfl⟩:=List.mem_map.1 h
  have hx':=(List.mem_filter.1 hx).1
  obtain ⟨_,_,_,_,_,_,hL⟩:=hM.imports
  obtain ⟨j,hj⟩:=List.mem_iff_getElem?.1 hx'
  obtain ⟨_,_,_,_,_,h5,_⟩:=dX hL hj
  exact h5
 ·obtain ⟨_,_,_,_,_,_,hL⟩:=hM.funcs
  obtain ⟨j,hj⟩:=List.mem_iff_getElem?.1 h
  obtain ⟨_,_,_,_,_,h5⟩:=f8 hL hj
  exact h5
end Go.Proofs.YtmpelmihdpomjaaGreat
