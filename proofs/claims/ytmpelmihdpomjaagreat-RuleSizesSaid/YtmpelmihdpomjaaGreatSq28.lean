/-
  Layer 12: what Check, Hosts and Find tell, as contracts; how great a module may be that the statements go through.
-/
import Derived.Test.YtmpelmihdpomjaaGreatSq01
import Derived.Test.YtmpelmihdpomjaaGreatSq09
import Derived.Test.YtmpelmihdpomjaaGreatSq22
import Derived.Test.YtmpelmihdpomjaaGreatSq15
set_option maxRecDepth 100000
set_option maxHeartbeats 4000000
namespace Ru
structure Hst where
 name:List UInt8
 type:Bin.FT
def hosts:List Hst:=host.map fun h=>⟨h.1,h.2⟩
end Ru
namespace Go.Proofs.YtmpelmihdpomjaaGreat
open Go.RowKit Ins Bin Sp
instance : Lay Ru.Hst where
 size:=3
 rep w S x cs:=∃ u v,cs = [strV x.name,u,v] ∧ aa w S x.type.params u ∧ aa w S x.type.results v
 len h:=by obtain ⟨u,v,rfl,_⟩:=h;rfl
 mod h hm hd:=by obtain ⟨u,v,h1,h2,h3⟩:=h;exact ⟨u,v,h1,h2.mod hm hd,h3.mod hm hd⟩
 more h hs:=by obtain ⟨u,v,h1,h2,h3⟩:=h;exact ⟨u,v,h1,h2.more hs,h3.more hs⟩
def FitR (m:M):Prop:=FitV m ∧ ∀ x ∈ m.imports,x.mod.length ≤ 1050000 ∧ x.name.length ≤ 1050000
def fV:Prop:=∀ (m:M) (v1 v2 v3 v4 v5 v6 v7 v8 v9 v10:Value) (w:World),RepM w (· < w.heap.size) m v1 v2 v3 v4 v5 v6 v7 v8 v9 v10 → FitR m → Calls Tryz.prog 13 #[.agg (modCells m v1 v2 v3 v4 v5 v6 v7 v8 v9 v10)] w fun e w'=>e = .returned (.int .i64 (Ru.check m:Int)) ∧ Below w.heap.size w w'
def fT:Prop:=∀ (nm:List UInt8) (w:World),Calls Tryz.prog 10 #[strV nm] w fun e w'=>e = .returned (.tuple #[.int .i64 (((Ru.find nm).getD 0:Nat):Int),.bool (Ru.find nm).isSome]) ∧ Below w.heap.size w w'
def HostsOk:Prop:=∀ (w:World),Calls Tryz.prog 7 #[] w fun e w'=>∃ v,e = .returned v ∧ aa w' (w.heap.size ≤ ·) Ru.hosts v ∧ Below w.heap.size w w'
theorem dB {m:M} (h:wtM m ≤ 1048576):FitR m:=⟨fitV_of h,fun x hx=>by
 have e:x.mod.length + x.name.length + 1 ≤ wts m.imports:=bW hx
 unfold wtM at h
 omega⟩
end Go.Proofs.YtmpelmihdpomjaaGreat
