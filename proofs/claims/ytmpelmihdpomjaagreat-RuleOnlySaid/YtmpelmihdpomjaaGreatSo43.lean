/-
  Layer 12's sizes: as many zero records laid behind a slice that has no room; records of which the first ones have been turned to nops.
-/
import Derived.Test.YtmpelmihdpomjaaGreatSo01
import Derived.Test.YtmpelmihdpomjaaGreatSo29
import Derived.Lib.AppendZerosOnto
set_option maxRecDepth 100000
set_option maxHeartbeats 4000000
namespace Go.Proofs.YtmpelmihdpomjaaGreat
open Go.RowKit Ins Bin Sp
theorem dl {α:Type} [Lay α] {w:World} {S:Nat → Prop} {xs:List α} {A:Option Addr} {n c:Nat} (h:aa w S xs (.slice A n c)):HasL w S A xs:=by
 obtain ⟨A',c',e,_,_,_,hL⟩:=h
 injection e with e1 e2 e3
 subst e1
 exact hL
section
variable {W:World} {g:Nat} {S:Nat → Prop}
end
instance : Ones I:=⟨fun h u hu=>by
 obtain ⟨A,c,rfl,_⟩:=h
 simp [insCells] at hu
 rcases hu with rfl | rfl | rfl | rfl | rfl <;> rfl⟩
end Go.Proofs.YtmpelmihdpomjaaGreat
