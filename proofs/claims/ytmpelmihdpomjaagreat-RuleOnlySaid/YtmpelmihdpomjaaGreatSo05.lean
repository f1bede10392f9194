/-
  leb.grown's contract: a copy of the bytes that came in, in a new row of its own; all memory that was there is as it was.
-/
import Derived.Test.YtmpelmihdpomjaaGreatSo01
import Derived.Test.YtmpelmihdpomjaaGreatRows
import Derived.Test.YtmpelmihdpomjaaGreatSo04
import Derived.WalkKit
import Derived.RegionTactic
import Derived.Deep.QuietTactic
import Derived.BigQuiet
import Derived.Below
import Derived.Outline
import Derived.Lib.Hide
import Derived.Test.YtmpelmihdpomjaaGreatSo02
import Derived.Laws.CopyOwn
import Derived.OwnWalk
set_option maxRecDepth 100000
set_option maxHeartbeats 4000000
namespace Go.Proofs.YtmpelmihdpomjaaGreat
open Go.RowKit
theorem c22 (A:Option Addr) (l:List UInt8) (n c:Nat) (w:World) (hn:n = l.length) (hsz:n + 10 ≤ 140737488355328) (hA:Has w w.heap.size A l) :
  Calls Tryz.prog 144 #[.slice A n c] w fun e w'=>∃ v,e = .returned v ∧ w'.ownsRow w.heap.size 5 1 v n (bytesOf l) ∧ Below w.heap.size w w':=by
 obtain ⟨i0,hi,hz0,hz1,hz2⟩:=info_parts info5
 have HA:=J hA
 have HN:=J hn
 have hmk:=fun W=>run_make (P:=Tryz.prog) W 27 5 i0 (.int .u8 0) und22 hi hz0 .i64 .i64 (n:Int) ((n:Int) + 10) (by omega) (by omega) (by rw [hz2];omega) (by omega)
 clear hA hn
 go_enter Tryz.func144,Tryz.ntmps144
 go_wp2_with (with_reducible refine wpList_copy_splice rfl (.tmp 10) (.tmp 11) 27 27 rfl 5 und22 ?hsz1 (some ⟨w.heap.size,0,none⟩) A n (n + 10) n c rfl rfl w.heap.size 0 (madeCells #[Value.int IntKind.u8 0] (n + 10)).toList 5 ?hg (bytesOf l) ?hn ?hpos ?hfit (cm l) w.heap.size w ?hb (Nat.le_refl _) ?_)
 case hsz1=>rw [hi];simp [hz1]
 case hg=>simpa using heap_alloc_new w _
 case hn=>rw [ap,← HN.out];exact (Nat.min_self n).symm
 case hpos=>exact fun h0=>(HA.out.alloc (Nat.le_refl _) _).cells h0
 case hfit=>rw [ap,← HN.out];simp [size_madeCells]
 case hb=>exact bA
 intro w' hrow hbel
 clear hmk
 go_wp2
 go_ret
 refine ⟨_,rfl,⟨by rw [ap,← HN.out];omega,.inr ⟨w.heap.size,n + 10,_,rfl,Nat.le_refl _,hrow.out,by omega,by unfold maxLen;omega,?_,?_⟩⟩,hbel⟩
 ·simp [splice,size_madeCells,ap,← HN.out]
 ·rw [Nat.mul_one,show n = (bytesOf l).length by rw [ap];exact HN.out]
  simp [splice]
theorem and127 (m:Nat) (h:m < 18446744073709551616):bits .and .u64 (m:Int) 127 = (m:Int) % 128:=by
 have h1:bits .and .u64 (m:Int) 127 = ((m &&& 127:Nat):Int):=u64_and_nat m 127 h (by decide)
 rw [h1,nat_mask7];omega
theorem or128 (m:Nat) (h:m < 128):bits .or .u8 (m:Int) 128 = (m:Int) + 128:=by
 have h1:bits .or .u8 (m:Int) 128 = ((m ||| 128:Nat):Int):=u8_or_nat m 128 (by omega) (by decide)
 have h2:128 ||| m = 128 + m:=nat_join 7 128 m (by decide) (by omega)
 rw [h1,Nat.or_comm,h2];omega
theorem c11 (A:Option Addr) (l:List UInt8) (n c N:Nat) (w:World) (hn:n = l.length) (hsz:n + 10 ≤ 140737488355328) (hA:Has w w.heap.size A l) (hN:N < 18446744073709551616) :
  Calls Tryz.prog 143 #[.slice A n c,.int .u64 ↑N] w fun e w'=>∃ v,e = .returned v ∧ w'.ownsRow w.heap.size 5 1 v (n + (Leb.encU N).length) (bytesOf (l ++ Leb.encU N)) ∧ Below w.heap.size w w':=by
 obtain ⟨i0,hi,hz0,hz1,hz2⟩:=info_parts info5
 have HA:=J hA
 have HN:=J hn
 have HNN:=J hN
 clear hA hn hN
 go_enter Tryz.func143,Tryz.ntmps143
 go_wp2_with (go_at_call 144;refine (c22 A l n c _ HN.out hsz HA.out).mono ?_;rintro e w1 ⟨v,rfl,hown,hbel⟩)
 have HO:=J hown
 have HB:=J hbel
 clear hown hbel
 go_wp2_with fail
 go_loopw [1,5] (fun nv v wr=>∃ (m:Nat) (done:List UInt8),nv = .int .u64 ↑m ∧ m ≤ 18446744073709551615 ∧ Hid (Leb.encU N = done ++ Leb.encU m) ∧ done.length ≤ 9 ∧ Hid (wr.ownsRow w.heap.size 5 1 v (n + done.length) (bytesOf (l ++ done))) ∧ Hid (Below w.heap.size w wr)) (fun nv _ _=>(intOf nv).toNat)
 case atStart=>exact ⟨N,[],rfl,by have:=HNN.out;omega,J rfl,by simp,J (by simpa using HO.out),HB⟩
 case round =>
  obtain ⟨m,done,rfl,hm,hE,hd,hown,hbel⟩:=hrel
  by_cases hbig:127 < m
  ·have ha:=and127 m (by omega)
   have hob:=or128 (m % 128) (by omega)
   rw [Int.natCast_emod] at hob
   have hw8:IntKind.u8.wrap ((m:Int) % 128) = (m:Int) % 128:=IntWalk.u8_in _ (by omega)
   have hcast:((128:Nat):Int) = 128:=rfl
   rw [hcast] at hob
   clear hcast
   have hE2:=Leb.encU_big (n:=m) (by omega)
   have HE2:=J hE2
   clear hE2
   go_wp2_with (at_builtin;refine wpList_append_own _ rfl _ _ 27 rfl w.heap.size 5 i0 (.int .u8 0) 1 1 und22 hi hz0 hz1 hz2 rfl (by decide) _ _ _ rfl (hown.out.alloc _) ⟨wr.heap.size,0,none⟩ 1 1 [.int .u8 ((m:Int) % 128 + 128)] rfl rfl ?c1 ?c2 ?c3 ?c4 ?c5 ?_)
   case c1=>exact cG wr _ 5
   case c2=>intro u hu;simp at hu;subst hu;rfl
   case c3=>unfold maxLen;omega
   case c4=>omega
   case c5=>have:=hbel.out.size;simp;omega
   intro v' w' hown' hgrow hnil
   have hbel':=(hbel.out.alloc hbel.out.size _).grown hgrow (by have:=hbel.out.size;simp;omega) (aZ hown.out)
   have HO':=J hown'
   have HB':=J hbel'
   clear hown' hgrow hnil hbel' hown hbel
   go_wp2_with fail
   go_roundw
   case rel =>
    have e1:=Leb.encU_le10 N HNN.out
    have e2:=Leb.encU_pos (m / 128)
    refine ⟨m / 128,done ++ [UInt8.ofNat (m % 128 + 128)],by go_num,by omega,J ?_,?_,J ?_,HB'⟩
    ·rw [hE.out,HE2.out];simp
    ·rw [hE.out,HE2.out] at e1;simp at e1 ⊢;omega
    ·have h:=HO'.out
     have e3:bytesOf (l ++ (done ++ [UInt8.ofNat (m % 128 + 128)])) = bytesOf (l ++ done) ++ [Value.int .u8 ((m:Int) % 128 + 128)]:=by
      rw [← List.append_assoc,aK,bu (m % 128 + 128) (by omega) ((m:Int) % 128 + 128) (by omega)]
     rw [e3,List.length_append]
     exact h
   case measure=>simp [intOf];omega
  ·have hw8:IntKind.u8.wrap (m:Int) = (m:Int):=IntWalk.u8_in _ (by omega)
   have HE2:=J (Leb.encU_small (n:=m) (by omega))
   go_wp2_with (at_builtin;refine wpList_append_own _ rfl _ _ 27 rfl w.heap.size 5 i0 (.int .u8 0) 1 1 und22 hi hz0 hz1 hz2 rfl (by decide) _ _ _ rfl (hown.out.alloc _) ⟨wr.heap.size,0,none⟩ 1 1 [.int .u8 ↑m] rfl rfl ?c1 ?c2 ?c3 ?c4 ?c5 ?_)
   case c1=>exact cG wr _ 5
   case c2=>intro u hu;simp at hu;subst hu;rfl
   case c3=>unfold maxLen;omega
   case c4=>omega
   case c5=>have:=hbel.out.size;simp;omega
   intro v' w' hown' hgrow hnil
   have hbel':=(hbel.out.alloc hbel.out.size _).grown hgrow (by have:=hbel.out.size;simp;omega) (aZ hown.out)
   have HO':=J hown'
   have HB':=J hbel'
   clear hown' hgrow hnil hbel' hown hbel
   go_wp2_with fail
   go_ret
   refine ⟨_,rfl,?_,HB'.out⟩
   have h:=HO'.out
   have e3:bytesOf (l ++ Leb.encU N) = bytesOf (l ++ done) ++ [Value.int .u8 ↑m]:=by
    rw [hE.out,HE2.out,← List.append_assoc,aK,bu m (by omega) (m:Int) rfl]
   rw [e3,hE.out,HE2.out,List.length_append,← Nat.add_assoc]
   exact h
theorem and127s (m:Int):bits .and .i64 m 127 = m % 128:=by
 show IntKind.i64.wrap ((BitVec.ofInt 64 m &&& BitVec.ofInt 64 127).toNat:Int) = _
 have h2:(BitVec.ofInt 64 127).toNat = 127:=by decide
 rw [BitVec.toNat_and,Leb.ofInt_any,h2,nat_mask7,IntKind.wrap_i64]
 omega
theorem c12 (A:Option Addr) (l:List UInt8) (n c:Nat) (N:Int) (w:World) (hn:n = l.length) (hsz:n + 10 ≤ 140737488355328) (hA:Has w w.heap.size A l) (hN:-9223372036854775808 ≤ N ∧ N ≤ 9223372036854775807) :
  Calls Tryz.prog 129 #[.slice A n c,.int .i64 N] w fun e w'=>∃ v,e = .returned v ∧ w'.ownsRow w.heap.size 5 1 v (n + (Leb.encS N).length) (bytesOf (l ++ Leb.encS N)) ∧ Below w.heap.size w w':=by
 obtain ⟨i0,hi,hz0,hz1,hz2⟩:=info_parts info5
 have HA:=J hA
 have HN:=J hn
 have HNN:=J hN
 clear hA hn hN
 go_enter Tryz.func129,Tryz.ntmps129
 go_wp2_with (go_at_call 144;refine (c22 A l n c _ HN.out hsz HA.out).mono ?_;rintro e w1 ⟨v,rfl,hown,hbel⟩)
 have HO:=J hown
 have HB:=J hbel
 clear hown hbel
 go_wp2_with fail
 go_loopw [1,5] (fun nv v wr=>∃ (m:Int) (done:List UInt8),nv = .int .i64 m ∧ -9223372036854775808 ≤ m ∧ m ≤ 9223372036854775807 ∧ Hid (Leb.encS N = done ++ Leb.encS m) ∧ done.length ≤ 9 ∧ Hid (wr.ownsRow w.heap.size 5 1 v (n + done.length) (bytesOf (l ++ done))) ∧ Hid (Below w.heap.size w wr)) (fun nv _ _=>(intOf nv).natAbs)
 case atStart=>exact ⟨N,[],rfl,HNN.out.1,HNN.out.2,J rfl,by simp,J (by simpa using HO.out),HB⟩
 case round =>
  obtain ⟨m,done,rfl,hm0,hm,hE,hd,hown,hbel⟩:=hrel
  have ha:=and127s m
  have hw8:IntKind.u8.wrap (m % 128) = m % 128:=IntWalk.u8_in _ (by omega)
  by_cases hbig:-64 ≤ m ∧ m ≤ 63
  ·obtain ⟨hb1,hb2⟩:=hbig
   have HE2:=J (Leb.encS_small (n:=m) ⟨hb1,hb2⟩)
   go_wp2_with (at_builtin;refine wpList_append_own _ rfl _ _ 27 rfl w.heap.size 5 i0 (.int .u8 0) 1 1 und22 hi hz0 hz1 hz2 rfl (by decide) _ _ _ rfl (hown.out.alloc _) ⟨wr.heap.size,0,none⟩ 1 1 [.int .u8 (m % 128)] rfl rfl ?c1 ?c2 ?c3 ?c4 ?c5 ?_)
   case c1=>exact cG wr _ 5
   case c2=>intro u hu;simp at hu;subst hu;rfl
   case c3=>unfold maxLen;omega
   case c4=>omega
   case c5=>have:=hbel.out.size;simp;omega
   intro v' w' hown' hgrow hnil
   have hbel':=(hbel.out.alloc hbel.out.size _).grown hgrow (by have:=hbel.out.size;simp;omega) (aZ hown.out)
   have HO':=J hown'
   have HB':=J hbel'
   clear hown' hgrow hnil hbel' hown hbel
   go_wp2_with fail
   go_ret
   refine ⟨_,rfl,?_,HB'.out⟩
   have h:=HO'.out
   have e3:bytesOf (l ++ Leb.encS N) = bytesOf (l ++ done) ++ [Value.int .u8 (m % 128)]:=by
    rw [hE.out,HE2.out,← List.append_assoc,aK,bu (m % 128).toNat (by omega) (m % 128) (by omega)]
   rw [e3,hE.out,HE2.out,List.length_append,← Nat.add_assoc]
   exact h
  ·have hob:bits .or .u8 (m % 128) 128 = m % 128 + 128:=by
    have h:=or128 (m % 128).toNat (by omega)
    rwa [show (((m % 128).toNat:Nat):Int) = m % 128 by omega] at h
   have HE2:=J (Leb.encS_big (n:=m) hbig)
   by_cases hlow:m < -64
   ·clear hbig
    have hd1:-9223372036854775808 ≤ m / 128:=by omega
    go_wp2_with (at_builtin;refine wpList_append_own _ rfl _ _ 27 rfl w.heap.size 5 i0 (.int .u8 0) 1 1 und22 hi hz0 hz1 hz2 rfl (by decide) _ _ _ rfl (hown.out.alloc _) ⟨wr.heap.size,0,none⟩ 1 1 [.int .u8 (m % 128 + 128)] rfl rfl ?d1 ?d2 ?d3 ?d4 ?d5 ?_)
    case d1=>exact cG wr _ 5
    case d2=>intro u hu;simp at hu;subst hu;rfl
    case d3=>unfold maxLen;omega
    case d4=>omega
    case d5=>have:=hbel.out.size;simp;omega
    intro v' w' hown' hgrow hnil
    have hbel':=(hbel.out.alloc hbel.out.size _).grown hgrow (by have:=hbel.out.size;simp;omega) (aZ hown.out)
    have HO':=J hown'
    have HB':=J hbel'
    clear hown' hgrow hnil hbel' hown hbel
    go_wp2_with fail
    go_roundw
    case rel =>
     have e1:=Leb.encS_le10 N HNN.out.1 HNN.out.2
     have e2:=Leb.encS_pos (m / 128)
     refine ⟨m / 128,done ++ [UInt8.ofNat ((m % 128).toNat + 128)],by go_num,by omega,by omega,J ?_,?_,J ?_,HB'⟩
     ·rw [hE.out,HE2.out];simp
     ·rw [hE.out,HE2.out] at e1;simp at e1 ⊢;omega
     ·have h:=HO'.out
      have e3:bytesOf (l ++ (done ++ [UInt8.ofNat ((m % 128).toNat + 128)])) = bytesOf (l ++ done) ++ [Value.int .u8 (m % 128 + 128)]:=by
       rw [← List.append_assoc,aK,bu ((m % 128).toNat + 128) (by omega) (m % 128 + 128) (by omega)]
      rw [e3,List.length_append]
      exact h
    case measure=>simp [intOf];omega
   ·have hhi:63 < m:=by omega
    clear hbig
    have hd1:-9223372036854775808 ≤ m / 128:=by omega
    go_wp2_with (at_builtin;refine wpList_append_own _ rfl _ _ 27 rfl w.heap.size 5 i0 (.int .u8 0) 1 1 und22 hi hz0 hz1 hz2 rfl (by decide) _ _ _ rfl (hown.out.alloc _) ⟨wr.heap.size,0,none⟩ 1 1 [.int .u8 (m % 128 + 128)] rfl rfl ?kk1 ?kk2 ?kk3 ?kk4 ?kk5 ?_)
    case kk2=>rfl
    case kk3=>unfold maxLen;omega
    case kk4=>omega
    case kk5=>have:=hbel.out.size;omega
    intro v' w' hown' hgrow hnil
    have hbel':=(hbel.out.alloc hbel.out.size _).grown hgrow (by have:=hbel.out.size;simp;omega) (aZ hown.out)
    have HO':=J hown'
    have HB':=J hbel'
    clear hown' hgrow hnil hbel' hown hbel
    go_wp2_with fail
    go_roundw
    case rel =>
     have e1:=Leb.encS_le10 N HNN.out.1 HNN.out.2
     have e2:=Leb.encS_pos (m / 128)
     refine ⟨m / 128,done ++ [UInt8.ofNat ((m % 128).toNat + 128)],by go_num,by omega,by omega,J ?_,?_,J ?_,HB'⟩
     ·rw [hE.out,HE2.out];simp
     ·rw [hE.out,HE2.out] at e1;simp at e1 ⊢;omega
     ·have h:=HO'.out
      have e3:bytesOf (l ++ (done ++ [UInt8.ofNat ((m % 128).toNat + 128)])) = bytesOf (l ++ done) ++ [Value.int .u8 (m % 128 + 128)]:=by
       rw [← List.append_assoc,aK,bu ((m % 128).toNat + 128) (by omega) (m % 128 + 128) (by omega)]
      rw [e3,List.length_append]
      exact h
    case measure=>simp [intOf];omega
end Go.Proofs.YtmpelmihdpomjaaGreat
