/-
  The reader: where it has come to, as the world has it; its byte.
-/
import Derived.Test.YtmpelmihdpomjaaGreatSo01
import Derived.Test.YtmpelmihdpomjaaGreatSo11
import Derived.Test.YtmpelmihdpomjaaGreatSo02
import Derived.Test.YtmpelmihdpomjaaGreatSo04
import Derived.WalkLawsBesides
import Derived.IntWalk
import Derived.Test.YtmpelmihdpomjaaGreatRows
import Derived.WalkKit
import Derived.RegionTactic
import Derived.Deep.QuietTactic
import Derived.BigQuiet
import Derived.Below
import Derived.Outline
import Derived.Lib.Hide
import Derived.Deep.RegionHeld3
import Derived.OwnWalk
set_option maxRecDepth 100000
set_option maxHeartbeats 4000000
namespace Go.Proofs.YtmpelmihdpomjaaGreat
open Go.RowKit Ins
end Go.Proofs.YtmpelmihdpomjaaGreat
namespace Ins
open Leb
end Ins
namespace Go.Proofs.YtmpelmihdpomjaaGreat
open Go.RowKit Ins
end Go.Proofs.YtmpelmihdpomjaaGreat
namespace Ins
end Ins
namespace Go.Proofs.YtmpelmihdpomjaaGreat
open Go.RowKit Ins
theorem HasU.own {w:World} {base n:Nat} {e:TypeId} {v:Value} {l:List Nat} (h:w.ownsRow base e 1 v n (u32s l)):∃ (A:Option Addr) (c:Nat),v = .slice A l.length c ∧ n = l.length ∧ l.length ≤ c ∧ c ≤ maxLen ∧ HasU w (base ≤ ·) A l:=by
 have hl:=h.1
 rw [u32s_length,Nat.mul_one] at hl
 subst hl
 rcases h.2 with ⟨rfl,h0⟩ | ⟨g,cap,cur,rfl,hb,hh,hc,hm,_,htk⟩
 ·have:l = []:=List.eq_nil_of_length_eq_zero h0
  subst this
  exact ⟨none,0,rfl,rfl,Nat.le_refl _,by unfold maxLen;omega,HasU.nil _ _ _⟩
 ·refine ⟨_,cap,rfl,rfl,hc,hm,fun k n hk=>⟨g,0,rfl,hb,?_⟩⟩
  have hkl:k < l.length:=(List.getElem?_eq_some_iff.1 hk).1
  have e1:=u32s_at hk
  rw [← htk,Nat.mul_one,List.getElem?_take,if_pos hkl] at e1
  rw [Nat.zero_add,cell_of_row w g k cur e (0,0) hh]
  simpa using e1
end Go.Proofs.YtmpelmihdpomjaaGreat
