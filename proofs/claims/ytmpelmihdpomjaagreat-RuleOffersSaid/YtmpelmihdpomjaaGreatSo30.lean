/-
  What the statements of layer 7 go through. (gen/enc/great.py)
-/
import Derived.Test.YtmpelmihdpomjaaGreatSo01
import Derived.Test.YtmpelmihdpomjaaGreatSo22
import Derived.Test.YtmpelmihdpomjaaGreatSo21
import Derived.Test.YtmpelmihdpomjaaGreatSo13
import Derived.Deep.Cut
import Derived.Deep.CutRange
set_option maxRecDepth 100000
set_option maxHeartbeats 4000000
namespace Go.Proofs.YtmpelmihdpomjaaGreat
open Go.RowKit Ins Bin
theorem bT (S:Nat → Prop) (A:Option Addr) (xs:List I) (n c:Nat) (w:World) (hX:HasL w S A xs) (hn:xs.length = n) (hb:n ≤ 140737488355328) (hl:∀ x ∈ xs,x.l.length ≤ 140737488355328) :
  Calls Tryz.prog 22 #[.slice A n c] w fun e w'=>∃ N:Nat,e = .returned (.int .i64 ↑N) ∧ N ≤ 281474976710656 ∧ (N ≤ 4000 → Ins.many xs ≤ 4000) ∧ Below w.heap.size w w':=by
 have HX:=J hX
 have HN:=J hn
 have HL:=J hl
 clear hX hn hl
 go_enter Tryz.func22,Tryz.ntmps22
 go_upto_region 3 with fail
 go_loopw [3,4] (fun u i wr=>∃ j N:Nat,j ≤ n ∧ i = .int .i64 ↑j ∧ u = .int .i64 ↑N ∧ N ≤ 281474976710656 ∧ Hid (N + j = n + Ins.many (xs.take j)) ∧ Hid (Below w.heap.size w wr)) (fun _ i _=>n - (intOf i).toNat)
 case atStart=>exact ⟨0,n,by omega,rfl,rfl,by omega,J (by simp [Ins.many]),J (Below.refl _ _)⟩
 case round =>
  obtain ⟨j,N,hj,rfl,rfl,hN,HS,HB⟩:=hrel
  go_upto_region 3 with fail
  go_cut [14] from 7 to 14 (fun s wx=>s = .bool (decide (j < n ∧ N ≤ 4000)) ∧ wx = wr)
  case first =>
   by_cases q1:j < n
   ·have q1i:(j:Int) < (n:Int):=by omega
    by_cases q2:N ≤ 4000
    ·have q2i:(N:Int) ≤ 4000:=by omega
     have q3:decide (j < n ∧ N ≤ 4000) = true:=by simp [q1,q2]
     have HQ3:=J q3
     clear q3
     go_wp2_with fail
     go_meet
     case rel=>exact ⟨congrArg Value.bool HQ3.out.symm,rfl⟩
    ·have q2i:¬ (N:Int) ≤ 4000:=by omega
     have q3:decide (j < n ∧ N ≤ 4000) = false:=by simp [q2]
     have HQ3:=J q3
     clear q3
     go_wp2_with fail
     go_meet
     case rel=>exact ⟨congrArg Value.bool HQ3.out.symm,rfl⟩
   ·have q1i:¬ (j:Int) < (n:Int):=by omega
    have q3:decide (j < n ∧ N ≤ 4000) = false:=by simp [q1]
    have HQ3:=J q3
    clear q3
    go_wp2_with fail
    go_meet
    case rel=>exact ⟨congrArg Value.bool HQ3.out.symm,rfl⟩
  case rest =>
   obtain ⟨rfl,rfl⟩:=hcut
   by_cases hc:j < n ∧ N ≤ 4000
   ·obtain ⟨x,hx⟩:∃ x,xs[j]? = some x:=⟨_,List.getElem?_eq_getElem (by rw [HN.out];exact hc.1)⟩
    obtain ⟨g,o,cs,rfl,_,hg,⟨A',c',rfl,_⟩,hcell⟩:=HX.out j x hx
    have hsz:Lay.size I = 5:=rfl
    rw [hsz] at hcell
    have hcl:=hcell 4 _ rfl
    have z4:wc.cell? ⟨g,o + j * 5 + 4,none⟩ = some (.slice A' x.l.length c'):=(HB.out.cell (p:=⟨g,o + j * 5 + 4,none⟩) hg).trans hcl
    have hll:=HL.out x (List.mem_of_getElem? hx)
    have HJ:=J (Ins.many_take hx)
    have hji:(j:Int) < (n:Int):=by omega
    rw [decide_eq_true hc]
    have hc2:=hc.2
    have hc1:=hc.1
    have hw:IntKind.i64.wrap ((N:Int) + (x.l.length:Int)) = (N:Int) + (x.l.length:Int):=IntWalk.i64_in _ ⟨by omega,by omega⟩
    clear hx hcell hsz hg hcl hc
    generalize x.l.length = q at z4 hll HJ hw
    go_wp2_with fail
    go_roundw
    case rel=>exact ⟨j + 1,N + q,by omega,by go_num,by go_num,by omega,J (by have:=HJ.out;have:=HS.out;omega),HB⟩
    case measure=>simp [intOf];omega
   ·have HQ:Hid (N ≤ 4000 → Ins.many xs ≤ 4000):=J (fun h=>by
     have hjn:j = n:=by omega
     have:=HS.out
     rw [hjn,List.take_of_length_le (by have:=HN.out;omega)] at this
     omega)
    rw [decide_eq_false hc]
    clear hc
    go_wp2_with fail
    go_ret
    exact ⟨N,rfl,hN,HQ.out,HB.out⟩
end Go.Proofs.YtmpelmihdpomjaaGreat
