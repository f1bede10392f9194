/-
  The document's types of functions, by number. (gen/space/ref3.py)
-/
import Derived.Test.YtmpelmihdpomjaaGreatSo01
import Derived.Test.YtmpelmihdpomjaaGreatSo22
import Derived.Deep.CutRange
set_option maxRecDepth 100000
set_option maxHeartbeats 4000000
namespace Go.Proofs.YtmpelmihdpomjaaGreat
open Go.RowKit Ins Bin Sp
def FuncPost (o:Option FT) (w:World) (e:Ending) (w':World):Prop:=∃ u v,e = .returned (.tuple #[.agg #[u,v],.bool o.isSome]) ∧ aa w' (· < w'.heap.size) (o.getD ⟨[],[]⟩).params u ∧ aa w' (· < w'.heap.size) (o.getD ⟨[],[]⟩).results v ∧ Below w.heap.size w w'
theorem ft_at {w:World} {S:Nat → Prop} {A:Option Addr} {xs:List FT} {k:Nat} {x:FT} (h:HasL w S A xs) (hx:xs[k]? = some x):∃ g o D1 d1 D2 d2,A = some ⟨g,o,none⟩ ∧ g < w.heap.size ∧ w.cell? ⟨g,o + k * 2,none⟩ = some (.slice D1 x.params.length d1) ∧ w.cell? ⟨g,o + k * 2 + 1,none⟩ = some (.slice D2 x.results.length d2) ∧ aa w S x.params (.slice D1 x.params.length d1) ∧ aa w S x.results (.slice D2 x.results.length d2):=by
 obtain ⟨g,o,cs,h1,_,h3,⟨u,v,rfl,hu,hv⟩,h6⟩:=h k x hx
 have hu2:=hu
 have hv2:=hv
 obtain ⟨D1,d1,rfl,_⟩:=hu
 obtain ⟨D2,d2,rfl,_⟩:=hv
 exact ⟨g,o,D1,d1,D2,d2,h1,h3,h6 0 _ rfl,h6 1 _ rfl,hu2,hv2⟩
theorem fk {w:World} {S:Nat → Prop} {A:Option Addr} {xs:List Nat} {k:Nat} {x:Nat} (h:HasL w S A xs) (hx:xs[k]? = some x):∃ g o,A = some ⟨g,o,none⟩ ∧ g < w.heap.size ∧ w.cell? ⟨g,o + k,none⟩ = some (.int .u32 ↑x) ∧ x < 4294967296:=by
 obtain ⟨g,o,cs,h1,_,h3,⟨rfl,hlt⟩,h6⟩:=h k x hx
 have e:=h6 0 _ rfl
 rw [show Lay.size Nat = 1 from rfl,Nat.mul_one,Nat.add_zero] at e
 exact ⟨g,o,h1,h3,e,hlt⟩
theorem rsame_any (x y:FT) (u1 u2 v1 v2:Value) (w:World) (hu1:aa w (· < w.heap.size) x.params u1) (hu2:aa w (· < w.heap.size) x.results u2) (hv1:aa w (· < w.heap.size) y.params v1) (hv2:aa w (· < w.heap.size) y.results v2) :
  Calls Tryz.prog 9 #[.agg #[u1,u2],.agg #[v1,v2]] w fun e w'=>e = .returned (.bool (decide (x = y))) ∧ Below w.heap.size w w':=by
 obtain ⟨A1,c1,rfl,_,_,_,h1⟩:=hu1
 obtain ⟨A2,c2,rfl,_,_,_,h2⟩:=hu2
 obtain ⟨A3,c3,rfl,_,_,_,h3⟩:=hv1
 obtain ⟨A4,c4,rfl,_,_,_,h4⟩:=hv2
 have H1:=J h1
 have H2:=J h2
 have H3:=J h3
 have H4:=J h4
 clear h1 h2 h3 h4
 have HXY:Hid ((x = y) = (x.params = y.params ∧ x.results = y.results)):=J (by
  cases x;cases y;simp)
 obtain ⟨n1,hn1⟩:∃ n,x.params.length = n:=⟨_,rfl⟩
 obtain ⟨n2,hn2⟩:∃ n,x.results.length = n:=⟨_,rfl⟩
 obtain ⟨n3,hn3⟩:∃ n,y.params.length = n:=⟨_,rfl⟩
 obtain ⟨n4,hn4⟩:∃ n,y.results.length = n:=⟨_,rfl⟩
 rw [hn1,hn2,hn3,hn4]
 have HN1:=J hn1
 have HN2:=J hn2
 have HN3:=J hn3
 have HN4:=J hn4
 clear hn1 hn2 hn3 hn4
 have HX0:Hid (((w.alloc (.cells #[.slice A1 n1 c1,.slice A2 n2 c2] 29)).alloc (.cells #[.slice A3 n3 c3,.slice A4 n4 c4] 29)).heap[w.heap.size]? = some (.cells #[.slice A1 n1 c1,.slice A2 n2 c2] 29 (0,0))):=J ((Below.heap_alloc _ _ _ (by simp)).trans (heap_alloc_new w _))
 have HX1:Hid (((w.alloc (.cells #[.slice A1 n1 c1,.slice A2 n2 c2] 29)).alloc (.cells #[.slice A3 n3 c3,.slice A4 n4 c4] 29)).heap[w.heap.size + 1]? = some (.cells #[.slice A3 n3 c3,.slice A4 n4 c4] 29 (0,0))):=J (by have:=heap_alloc_new (w.alloc (.cells #[.slice A1 n1 c1,.slice A2 n2 c2] 29)) (.cells #[.slice A3 n3 c3,.slice A4 n4 c4] 29);simpa using this)
 have HB0:Hid (Below w.heap.size w ((w.alloc (.cells #[.slice A1 n1 c1,.slice A2 n2 c2] 29)).alloc (.cells #[.slice A3 n3 c3,.slice A4 n4 c4] 29))):=J (bA.alloc (by simp) _)
 go_enter Tryz.func9,Tryz.ntmps9
 go_upto_region 1 with fail
 generalize (w.alloc (.cells #[.slice A1 n1 c1,.slice A2 n2 c2] 29)).alloc (.cells #[.slice A3 n3 c3,.slice A4 n4 c4] 29) = w0 at HX0 HX1 HB0 ⊢
 have y0:w0.cell? ⟨w.heap.size,0,none⟩ = some (.slice A1 n1 c1):=by rw [cell_of_row w0 _ 0 _ _ (0,0) HX0.out];rfl
 have y1:w0.cell? ⟨w.heap.size,1,none⟩ = some (.slice A2 n2 c2):=by rw [cell_of_row w0 _ 1 _ _ (0,0) HX0.out];rfl
 have y2:w0.cell? ⟨w.heap.size + 1,0,none⟩ = some (.slice A3 n3 c3):=by rw [cell_of_row w0 _ 0 _ _ (0,0) HX1.out];rfl
 have y3:w0.cell? ⟨w.heap.size + 1,1,none⟩ = some (.slice A4 n4 c4):=by rw [cell_of_row w0 _ 1 _ _ (0,0) HX1.out];rfl
 have s1:=bH (H1.out.has.on HB0.out) HN1.out.symm c1
 have s2:=bH (H2.out.has.on HB0.out) HN2.out.symm c2
 have s3:=bH (H3.out.has.on HB0.out) HN3.out.symm c3
 have s4:=bH (H4.out.has.on HB0.out) HN4.out.symm c4
 have HE1:Hid (((⟨x.params.toArray⟩:ByteArray).toList = (⟨y.params.toArray⟩:ByteArray).toList) = (x.params = y.params)):=J (by rw [ByteArray.toList_eq,ByteArray.toList_eq])
 have HE2:Hid (((⟨x.results.toArray⟩:ByteArray).toList = (⟨y.results.toArray⟩:ByteArray).toList) = (x.results = y.results)):=J (by rw [ByteArray.toList_eq,ByteArray.toList_eq])
 generalize (⟨x.params.toArray⟩:ByteArray) = B1 at s1 HE1
 generalize (⟨x.results.toArray⟩:ByteArray) = B2 at s2 HE2
 generalize (⟨y.params.toArray⟩:ByteArray) = B3 at s3 HE1
 generalize (⟨y.results.toArray⟩:ByteArray) = B4 at s4 HE2
 by_cases q1:B1.toList = B3.toList
 ·by_cases q2:B2.toList = B4.toList
  ·have HR:Hid (decide (x = y) = true):=J (decide_eq_true (by rw [HXY.out];exact ⟨by rw [← HE1.out];exact q1,by rw [← HE2.out];exact q2⟩))
   go_wp2_with fail
   go_ret
   exact ⟨by rw [HR.out];rfl,HB0.out⟩
  ·have HR:Hid (decide (x = y) = false):=J (decide_eq_false (by rw [HXY.out];exact fun h=>q2 (by rw [HE2.out];exact h.2)))
   have hq2:(B2.toList == B4.toList) = false:=beq_eq_false_iff_ne.2 q2
   go_wp2_with fail
   go_ret
   exact ⟨by rw [HR.out];rfl,HB0.out⟩
 ·have HR:Hid (decide (x = y) = false):=J (decide_eq_false (by rw [HXY.out];exact fun h=>q1 (by rw [HE1.out];exact h.1)))
  go_wp2_with fail
  go_ret
  exact ⟨by rw [HR.out];rfl,HB0.out⟩
theorem dq {w:World} {S:Nat → Prop} {m:M} {v1 v2 v3 v4 v5 v6 v7 v8 v9 v10:Value} (hM:RepM w S m v1 v2 v3 v4 v5 v6 v7 v8 v9 v10):∀ t ∈ funs m,t < 4294967296:=fun t ht=>by
 unfold funs at ht
 rcases List.mem_append.1 ht with h | h
 ·obtain ⟨x,hx,rfl⟩:=List.mem_map.1 h
  have hx':=(List.mem_filter.1 hx).1
  obtain ⟨_,_,_,_,_,_,hL⟩:=hM.imports
  obtain ⟨j,hj⟩:=List.mem_iff_getElem?.1 hx'
  obtain ⟨_,_,_,_,_,h5,_⟩:=dH hL hj
  exact h5
 ·obtain ⟨_,_,_,_,_,_,hL⟩:=hM.funcs
  obtain ⟨j,hj⟩:=List.mem_iff_getElem?.1 h
  obtain ⟨_,_,_,_,_,h5⟩:=fk hL hj
  exact h5
end Go.Proofs.YtmpelmihdpomjaaGreat
