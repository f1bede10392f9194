/-
  Layer 9's program: whether operands can be taken by types, and what is left then.
-/
import Derived.Test.YtmpelmihdpomjaaGreatSo01
import Derived.Test.YtmpelmihdpomjaaGreatSo18
import Derived.Test.YtmpelmihdpomjaaGreatSo04
import Derived.Test.YtmpelmihdpomjaaGreatSo02
import Derived.Deep.Cut
import Derived.Deep.CutRange
import Derived.Test.YtmpelmihdpomjaaGreatSo06
set_option maxRecDepth 100000
set_option maxHeartbeats 4000000
namespace Go.Proofs.YtmpelmihdpomjaaGreat
open Go.RowKit Ins Bin
theorem fa (x y:UInt8) (w:World):Calls Tryz.prog 140 #[.int .u8 ↑x.toNat,.int .u8 ↑y.toNat] w fun e w'=>e = .returned (.bool (Ty.fit x y)) ∧ w' = w:=by
 have hx:∀ a b:UInt8,((a.toNat:Int) == (b.toNat:Int)) = (a == b):=fun a b=>by
  by_cases h:a = b
  ·subst h;simp
  ·have h1:¬ a.toNat = b.toNat:=fun e=>h (UInt8.toNat_inj.1 e)
   have h2:((a.toNat:Int) == (b.toNat:Int)) = false:=nB (by omega)
   rw [h2,beq_eq_false_iff_ne.2 h]
 have h0:∀ a:UInt8,((a.toNat:Int) == 0) = (a == 0):=fun a=>hx a 0
 have e1:=hx x y
 have e2:=h0 x
 have e3:=h0 y
 clear hx h0
 unfold Ty.fit
 generalize (x == y) = p at *
 generalize (x == 0) = q at *
 generalize (y == 0) = r at *
 generalize (x.toNat:Int) = a at *
 generalize (y.toNat:Int) = b at *
 cases p with
 | true =>
  go_enter Tryz.func140,Tryz.ntmps140
  go_wp2_with fail
  go_ret
  exact ⟨rfl,rfl⟩
 | false =>
  cases q with
  | true =>
   go_enter Tryz.func140,Tryz.ntmps140
   go_wp2_with fail
   go_ret
   exact ⟨rfl,rfl⟩
  | false =>
   cases r with
   | true =>
    go_enter Tryz.func140,Tryz.ntmps140
    go_wp2_with fail
    go_ret
    exact ⟨rfl,rfl⟩
   | false =>
    go_enter Tryz.func140,Tryz.ntmps140
    go_wp2_with fail
    go_ret
    exact ⟨rfl,rfl⟩
def woV:Option Nat → Value
 | none=>.tuple #[.int .i64 0,.bool false]
 | some n=>.tuple #[.int .i64 ↑n,.bool true]
theorem Stk.inner {w:World} {F:Nat → Prop} {P:Nat} {s:Ty.T} {vo vf:Value} {i:List Ty.Fr} {f:Ty.Fr} (h:Stk w F P s vo vf) (hf:s.frs = i ++ [f]) :
  ∃ g c u v,vf = .slice (some ⟨g,0,none⟩) (i.length + 1) c ∧ i.length + 1 ≤ c ∧ c ≤ maxLen ∧ F g ∧ g < w.heap.size ∧ (∀ W:World,W.heap[g]? = w.heap[g]? → W.cell? ⟨g,i.length * 4,none⟩ = some u ∧ W.cell? ⟨g,i.length * 4 + 1,none⟩ = some v ∧ W.cell? ⟨g,i.length * 4 + 2,none⟩ = some (.int .i64 ↑f.h) ∧ W.cell? ⟨g,i.length * 4 + 3,none⟩ = some (.bool f.dead) ∧ ∀ j,W.frozen? ⟨g,j,none⟩ = false) ∧
   aa w (inS F P vo vf) f.label u ∧ aa w (inS F P vo vf) f.ends v:=by
 have h1:=h.frs
 rw [hf] at h1
 obtain ⟨g,c,cur,cs,rfl,h2,h3,h4,h5,h6,⟨u,v,rfl,h7,h8⟩,h9,_⟩:=h1.last
 refine ⟨g,c,u,v,rfl,h2,h3,h.inF g rfl,(gL h5),fun W hW=>?_,h7,h8⟩
 have hc:∀ (j:Nat) (z:Value),[u,v,.int .i64 ↑f.h,.bool f.dead][j]? = some z → W.cell? ⟨g,i.length * 4 + j,none⟩ = some z:=fun j z hj=>by
  rw [cell_of_row W g _ _ _ (0,0) (hW.trans h5)]
  exact h9 j z hj
 exact ⟨hc 0 _ rfl,hc 1 _ rfl,hc 2 _ rfl,hc 3 _ rfl,fun j=>frozen_of_row W g j _ _ (hW.trans h5)⟩
theorem dy {w:World} {F:Nat → Prop} {P:Nat} {s:Ty.T} {vo vf:Value} (h:Stk w F P s vo vf) (hok:s.ok) (l:List UInt8) (A:Option Addr) (c:Nat) (hA:Has w w.heap.size A l) (h1:s.ops.length ≤ 1000000000) (h2:l.length ≤ 1000000000) (h3:s.frs.length ≤ 1000000000) :
  Calls Tryz.prog 119 #[.pointer (some ⟨P,0,none⟩),.slice A l.length c] w fun e w'=>e = .returned (woV (s.wout l)) ∧ Below w.heap.size w w':=by
 rcases Ty.parts s with hn | ⟨i,f,hf⟩
 ·have hw:s.wout l = none:=by unfold Ty.T.wout;rw [Ty.last_nil hn]
  rw [hw]
  have HC:=J (bJ h hn)
  generalize l.length = n at *
  clear h hok hA h1 h2 h3 hn hw
  go_enter Tryz.func119,Tryz.ntmps119
  go_wp2_with (go_at_call 118;refine HC.out.mono ?_;rintro e w1 ⟨rfl,rfl⟩)
  go_ret2
  exact ⟨rfl,Below.refl _ _⟩
 ·have hw:s.wout l = Ty.without s.ops f l:=by unfold Ty.T.wout;rw [Ty.last_of hf]
  rw [hw]
  obtain ⟨g,cf,u,v,rfl,hcf1,hcf2,_,hg,hcell,_,_⟩:=h.inner hf
  have hil:i.length ≤ 1000000000:=by rw [hf] at h3;simp at h3;omega
  have hfh:=Ty.last_h hok hf
  have HC:=J (bK h hf hil)
  obtain ⟨B,c2,rfl,hc1,hc2⟩:=aH h.ops
  have hH0:Has w w.heap.size B s.ops:=by
   obtain ⟨A',c',e,_,_,_,_,hh⟩:=own_sl h.ops
   injection e with e1 _ _
   subst e1
   exact hh
  have hBn:B = none → c2 = 0:=by
   obtain ⟨A',c',e,_,_,_,q,_⟩:=own_sl h.ops
   injection e with e1 _ e3
   subst e1 e3
   exact q
  have HP:Hid (∀ W,Below w.heap.size w W → W.cell? ⟨P,0,none⟩ = some (.slice B s.ops.length c2)):=J (fun W hb=>(h.on hb).cell0)
  have HG:Hid (∀ W,Below w.heap.size w W → W.cell? ⟨g,i.length * 4 + 2,none⟩ = some (.int .i64 ↑f.h) ∧ W.cell? ⟨g,i.length * 4 + 3,none⟩ = some (.bool f.dead)):=J (fun W hb=>⟨(hcell W (hb.block g hg)).2.2.1,(hcell W (hb.block g hg)).2.2.2.1⟩)
  have HH0:=J hH0
  have HBN:=J hBn
  have HA:=J hA
  unfold Ty.without
  obtain ⟨I,hI⟩:∃ I,i.length * 4 = I:=⟨_,rfl⟩
  obtain ⟨S0,hS0⟩:∃ S0,s.ops = S0:=⟨_,rfl⟩
  rw [hS0] at hfh HP HH0 h1 hc1
  rw [hS0]
  clear hS0
  obtain ⟨m,hm⟩:∃ m,S0.length = m:=⟨_,rfl⟩
  obtain ⟨k,hk⟩:∃ k,m - f.h = k:=⟨_,rfl⟩
  obtain ⟨n,hn⟩:∃ n,l.length = n:=⟨_,rfl⟩
  rw [hm,hn]
  rw [hm] at HP
  rw [hI] at HG HC
  rw [hk]
  rw [hm] at hfh h1
  rw [hn] at h2
  obtain ⟨fh,hfh'⟩:∃ x,f.h = x:=⟨_,rfl⟩
  rw [hfh'] at hfh hk HG
  rw [hfh']
  obtain ⟨fd,hfd⟩:∃ x,f.dead = x:=⟨_,rfl⟩
  rw [hfd] at HG
  rw [hfd]
  generalize han:(if k < n ∧ fd = false then none else if Ty.fitAll (S0.drop fh) l = true then some (m - min k n) else none) = an
  have HAN:=J han
  have HM:=J hm
  have HN:=J hn
  have HK:=J hk
  have HFH:=J hfh'
  unfold maxLen at hc2
  have hmc:m ≤ c2:=by rw [← hm];exact hc1
  obtain ⟨bad,hbad⟩:∃ b,decide (k < n ∧ fd = false) = b:=⟨_,rfl⟩
  have HBAD:=J hbad
  have hkm:k ≤ m:=by omega
  clear h hok hA h3 hf hw hcf1 hcf2 hg hcell hil hc1 hH0 hBn hI hm hk hn hfh' hfd hbad han
  go_enter Tryz.func119,Tryz.ntmps119
  go_upto_region 4 with (go_at_call 118;refine HC.out.mono ?_;rintro e w1 ⟨hb1,rfl⟩;have HB1:=J hb1;have q0:=HP.out w1 hb1;obtain ⟨q1,q2⟩:=HG.out w1 hb1;clear hb1)
  go_cut [7] from 14 to 22 (fun s wx=>∃ A' c',s = .slice A' k c' ∧ k ≤ c' ∧ c' ≤ 9223372036854775807 ∧ Hid (Has wx wx.heap.size A' (S0.drop fh)) ∧ Hid (Below w.heap.size w wx))
  case first =>
   have f1:(fh:Int) ≤ (m:Int):=by omega
   have HLE:=J hmc
   have HLC:=J hc2
   clear HC HP HG HA HN HFH HBAD hmc hc2
   cases B with
   | none =>
    obtain rfl:c2 = 0:=HBN.out rfl
    obtain rfl:m = 0:=by have:=HLE.out;omega
    obtain rfl:fh = 0:=by omega
    obtain rfl:k = 0:=by have:=HK.out;omega
    have hs0:Hid (S0 = []):=J (List.eq_nil_of_length_eq_zero HM.out)
    clear f1
    go_quiet (fail)
    go_wp2_with fail
    go_meet
    case rel=>exact ⟨none,0,rfl,by omega,by omega,J (by rw [hs0.out];exact Has.nil _ _ _),J (Below.dn HB1.out _)⟩
   | some ad =>
    by_cases hcf:c2 = fh
    ·subst hcf
     obtain rfl:m = c2:=by have:=HLE.out;omega
     obtain rfl:k = 0:=by have:=HK.out;omega
     go_quiet (fail)
     go_wp2_with fail
     go_meet
     case rel=>exact ⟨_,_,rfl,by omega,by omega,J (by rw [List.drop_of_length_le (by rw [HM.out];exact Nat.le_refl _)];exact Has.nil _ _ _),J (Below.dn HB1.out _)⟩
    ·have hcf2:¬ (c2 - fh = 0):=by have:=HLE.out;omega
     go_quiet (fail)
     go_wp2_with fail
     go_meet
     case rel=>exact ⟨_,_,by rw [HK.out],by have:=HLE.out;have:=HK.out;omega,by have:=HLC.out;omega,J ((HH0.out.on (Below.dn HB1.out _)).from fh),J (Below.dn HB1.out _)⟩
  case rest =>
   obtain ⟨A',c',rfl,hkc,hc3,HO,HB2⟩:=hcut
   clear q0 q1 q2 HC HH0 HBN
   have q0:=HP.out wc HB2.out
   obtain ⟨q1,q2⟩:=HG.out wc HB2.out
   have hci:(k:Int) ≤ (c':Int):=by omega
   go_upto_region 5 with fail
   go_cut [34] from 23 to 34 (fun s wx=>s = .bool bad ∧ wx = wc)
   case first =>
    by_cases hkn:k < n
    ·have e1:(k:Int) < (n:Int):=by omega
     cases fd with
     | true =>
      obtain rfl:bad = false:=(HBAD.out).symm.trans (by simp)
      clear HBAD
      go_wp2_with fail
      go_meet
      case rel=>exact ⟨rfl,rfl⟩
     | false =>
      obtain rfl:bad = true:=(HBAD.out).symm.trans (by simp [hkn])
      clear HBAD
      go_wp2_with fail
      go_meet
      case rel=>exact ⟨rfl,rfl⟩
    ·have e1:decide ((k:Int) < (n:Int)) = false:=decide_eq_false (by omega)
     obtain rfl:bad = false:=(HBAD.out).symm.trans (by simp [hkn])
     clear HBAD
     go_wp2_with fail
     go_meet
     case rel=>exact ⟨rfl,rfl⟩
   case rest =>
    obtain ⟨rfl,rfl⟩:=hcut
    cases bad with
    | true =>
     have HBD:Hid (k < n ∧ fd = false):=J (by have:=HBAD.out;simpa using this)
     clear HBAD
     go_wp2_with fail
     go_ret2
     exact ⟨by rw [← HAN.out,if_pos HBD.out];rfl,HB2.out⟩
    | false =>
     have HBD:Hid (¬ (k < n ∧ fd = false)):=J (by have:=HBAD.out;simpa using this)
     clear HBAD
     obtain ⟨q,hq⟩:∃ q,min k n = q:=⟨_,rfl⟩
     have HQ:=J hq
     have hqk:q ≤ k:=by omega
     have hqn:q ≤ n:=by omega
     clear hq
     go_upto_region 7 with fail
     go_cut [8] from 35 to 39 (fun s wx=>s = .int .i64 ↑q ∧ wx = wc)
     case first =>
      go_wp2_with fail
      go_meet
      case rel =>
       have hq:=HQ.out
       refine ⟨?_,rfl⟩
       congr 1
       omega
     case rest =>
      obtain ⟨rfl,rfl⟩:=hcut
      clear q1 q2 HG
      by_cases hq0:q = 0
      ·subst hq0
       have HZ:Hid (Ty.fitAll (S0.drop fh) l = true):=J (by
        rw [← Ty.fitTo_all 0 (by rw [List.length_drop,HM.out,HN.out,HK.out];exact HQ.out.symm)]
        exact Ty.fitTo_zero _ _)
       go_wp2_with fail
       go_loopw [9] (fun j wr=>j = .int .i64 1 ∧ wr = wc) (fun j _=>0)
       case atStart=>exact ⟨rfl,rfl⟩
       case round =>
        obtain ⟨rfl,rfl⟩:=hrel
        go_wp2_with fail
        go_ret2
        exact ⟨by rw [← HAN.out,if_neg HBD.out,if_pos HZ.out,HQ.out];rfl,HB2.out⟩
      ·obtain ⟨a1,rfl⟩:=HO.out.someAddr (by rw [List.length_drop,HM.out,HK.out];omega)
       obtain ⟨a2,rfl⟩:=HA.out.someAddr (by rw [HN.out];omega)
       have HA2:Hid (Has wc wc.heap.size (some a2) l):=J (HA.out.on HB2.out)
       clear HA
       go_wp2_with fail
       go_loopw [9] (fun j wr=>∃ t:Nat,t ≤ q ∧ j = .int .i64 ((t:Int) + 1) ∧ Hid (Ty.fitTo (S0.drop fh) l t = true) ∧ Hid (Below wc.heap.size wc wr)) (fun j _=>q + 1 - (intOf j).toNat)
       case atStart=>exact ⟨0,by omega,rfl,J (Ty.fitTo_zero _ _),J (Below.refl _ _)⟩
       case round =>
        obtain ⟨t,ht,rfl,HF,HB⟩:=hrel
        by_cases htq:t < q
        ·have hl1:(S0.drop fh).length = k:=by rw [List.length_drop,HM.out,HK.out]
         obtain ⟨x,hx⟩:∃ x,(S0.drop fh)[k - 1 - t]? = some x:=⟨_,List.getElem?_eq_getElem (by omega)⟩
         obtain ⟨y,hy⟩:∃ y,l[n - 1 - t]? = some y:=⟨_,List.getElem?_eq_getElem (by have:=HN.out;omega)⟩
         obtain ⟨b1,e1,_,hc1⟩:=(HO.out.on HB.out) _ x hx
         obtain ⟨b2,e2,_,hc2⟩:=(HA2.out.on HB.out) _ y hy
         injection e1 with e1
         injection e2 with e2
         subst e1 e2
         have HNX:Hid (Ty.fitTo (S0.drop fh) l (t + 1) = Ty.fit x y):=J (by
          have hn2:=HN.out
          rw [Ty.fitTo_next t (by omega) (by omega),HF.out,Bool.true_and]
          have g1:(S0.drop fh)[(S0.drop fh).length - 1 - t]'(by omega) = x:=by
           rw [← Option.some.injEq,← List.getElem?_eq_getElem,hl1];exact hx
          have g2:l[l.length - 1 - t]'(by omega) = y:=by
           rw [← Option.some.injEq,← List.getElem?_eq_getElem,hn2];exact hy
          rw [g1,g2])
         have s0:(t:Int) + 1 ≤ (q:Int):=by omega
         have s5:(q:Int) ≤ 1000000000:=by omega
         have s1:IntKind.i64.wrap ((k:Int) - ((t:Int) + 1)) = ((k - 1 - t:Nat):Int):=by
          rw [IntWalk.i64_in _ (by omega)];omega
         have s2:IntKind.i64.wrap ((n:Int) - ((t:Int) + 1)) = ((n - 1 - t:Nat):Int):=by
          rw [IntWalk.i64_in _ (by omega)];omega
         have s3:k - 1 - t < k:=by omega
         have s4:n - 1 - t < n:=by omega
         have HT:=J htq
         have HQK:=J hqk
         have HQN:=J hqn
         clear hx hy hl1 htq hqk hqn
         by_cases hfit:Ty.fit x y = true
         ·have HFT:Hid (Ty.fitTo (S0.drop fh) l (t + 1) = true):=J (HNX.out.trans hfit)
          go_wp2_with fail
          go_quiet ((go_at_call 140;exact Calls.quiet_of_same (fa x y _)))
          clear s1 s2 s3 s4
          go_wp2_with fail
          go_roundw
          case rel=>exact ⟨t + 1,by have:=HT.out;omega,by go_num,HFT,J (Below.dn HB.out _)⟩
          case measure=>have:=HT.out;simp [intOf];omega
         ·have hfit2:Ty.fit x y = false:=by simpa using hfit
          have HZ:Hid (Ty.fitAll (S0.drop fh) l = false):=J (by
           have hn2:=HN.out
           have hl1:(S0.drop fh).length = k:=by rw [List.length_drop,HM.out,HK.out]
           have h1:=HNX.out.trans hfit2
           have hq1:=HT.out
           have hq2:=HQK.out
           have hq3:=HQN.out
           rw [Ty.fitTo_next t (by omega) (by omega),HF.out,Bool.true_and] at h1
           exact Ty.fit_no t (by omega) (by omega) h1)
          clear hfit
          go_wp2_with fail
          go_quiet ((go_at_call 140;exact Calls.quiet_of_same (fa x y _)))
          go_wp2_with fail
          go_ret2
          exact ⟨by rw [← HAN.out,if_neg HBD.out,if_neg (by rw [HZ.out];decide)];rfl,HB2.out.trans ((Below.dn HB.out _).mono HB2.out.size)⟩
        ·obtain rfl:t = q:=by omega
         have HZ:Hid (Ty.fitAll (S0.drop fh) l = true):=J (by
          rw [← Ty.fitTo_all t (by rw [List.length_drop,HM.out,HN.out,HK.out];exact HQ.out.symm)]
          exact HF.out)
         have q3:=HP.out wr (HB2.out.trans (HB.out.mono HB2.out.size))
         go_wp2_with fail
         go_ret2
         have hle:t ≤ m:=by omega
         exact ⟨by
          rw [← HAN.out,if_neg HBD.out,if_pos HZ.out,HQ.out]
          show _ = Ending.returned (.tuple #[.int .i64 ((m - t:Nat):Int),.bool true])
          rw [Int.ofNat_sub hle]
          rfl,HB2.out.trans (HB.out.mono HB2.out.size)⟩
def aG (F:Nat → Prop) (w:World) (P:Nat) (s':Ty.T) (w':World):Prop:=∃ F' vo' vf',Stk w' F' P s' vo' vf' ∧ (∀ k,F' k → F k ∨ w.heap.size ≤ k) ∧ Mod F w w'
theorem aG.ahead {F:Nat → Prop} {w w1 w':World} {P:Nat} {s':Ty.T} (hb:Below w.heap.size w w1) (h:aG F w1 P s' w'):aG F w P s' w':=by
 obtain ⟨F',vo',vf',h1,h2,h3⟩:=h
 exact ⟨F',vo',vf',h1,fun k hk=>(h2 k hk).imp id (fun h=>Nat.le_trans hb.size h),(Mod.of_below hb).trans h3 (fun _ _ h=>h)⟩
theorem aG.trans {F F1:Nat → Prop} {w w1 w':World} {P:Nat} {s':Ty.T} (hm:Mod F w w1) (hf:∀ k,F1 k → F k ∨ w.heap.size ≤ k) (h:aG F1 w1 P s' w'):aG F w P s' w':=by
 obtain ⟨F',vo',vf',h1,h2,h3⟩:=h
 refine ⟨F',vo',vf',h1,fun k hk=>?_,hm.trans h3 (fun k hk h=>?_)⟩
 ·rcases h2 k hk with h | h
  ·exact hf k h
  ·exact .inr (Nat.le_trans hm.size h)
 ·rcases hf k h with h | h
  ·exact h
  ·omega
theorem Stk.same {w w':World} {F:Nat → Prop} {P:Nat} {s:Ty.T} {vo vf:Value} (h:Stk w F P s vo vf) (hb:Below w.heap.size w w'):aG F w P s w':=⟨F,vo,vf,h.on hb,fun _ h=>.inl h,Mod.of_below hb⟩
theorem Stk.grown {w w1 w':World} {F:Nat → Prop} {P m':Nat} {s:Ty.T} {vo vf vo':Value} {l:List UInt8} (h:Stk w F P s vo vf) (ha:Adds 0 w vo w1 vo' (s.ops ++ l)) (hm:Mod (· = P) w1 w')
  (hc:w'.heap[P]? = some (.cells #[vo',vf,.int .i64 ↑m'] 180 (0,0))):aG F w P ⟨s.ops ++ l,s.frs,m'⟩ w':=by
 have hP:=h.lt
 obtain ⟨ha1,ha2,ha3⟩:=ha
 have hne:vo'.ownBlock ≠ some P:=fun e=>by
  rcases ha3 P e with e | e
  ·exact h.neO e
  ·omega
 refine ⟨fun k=>F k ∨ w.heap.size ≤ k,vo',vf,⟨hc,hm.own ha1 (fun g hg e=>hne (by rw [hg,e])),?_,.inl h.inP,fun k hk=>?_,fun k hk=>.inl (h.inF k hk)⟩,fun k hk=>hk,?_⟩
 ·have h1:=h.frs.more (S':=fun k=>inS F P vo vf k ∧ inS (fun k=>F k ∨ w.heap.size ≤ k) P vo' vf k) (fun k hk hs=>⟨hs,.inl hs.1,hs.2.1,fun e=>by
   rcases ha3 k e with e | e
   ·exact hs.2.2.1 e
   ·omega,hs.2.2.2⟩)
  have h2:=(h1.mod ha2 (fun k hk e=>h.neOF k e hk) (fun k _ hs e=>hs.1.2.2.1 e)).more (S':=inS (fun k=>F k ∨ w.heap.size ≤ k) P vo' vf) (fun _ _ hs=>hs.2)
  exact h2.mod hm (fun g hg e=>h.neF (by rw [hg,e])) (fun g _ hs e=>hs.2.1 e)
 ·rcases ha3 k hk with e | e
  ·exact .inl (h.inO k e)
  ·exact .inr e
 ·exact (ha2.more (fun k _ e=>h.inO k e)).trans hm (fun k _ e=>by rw [e];exact h.inP)
theorem tpush_any {w:World} {F:Nat → Prop} {P:Nat} {s:Ty.T} {vo vf:Value} (h:Stk w F P s vo vf) (l:List UInt8) (A:Option Addr) (c:Nat) (hA:Has w w.heap.size A l) (h1:s.ops.length + l.length ≤ 1000000000) (_h2:s.most ≤ 1000000000) :
  Calls Tryz.prog 131 #[.pointer (some ⟨P,0,none⟩),.slice A l.length c] w fun e w'=>e = .returned (.tuple #[]) ∧ aG F w P (s.push l) w':=by
 obtain ⟨vo',w1,hrun,ha⟩:=bh w 0 l.length c vo s.ops l A h.ops hA rfl (by omega) (Nat.zero_le _)
 have HRUN:=J hrun
 have HA:=J ha
 have h0:=h.cell0
 have hB1:Hid (w1.heap[P]? = some (.cells #[vo,vf,.int .i64 ↑s.most] 180 (0,0))):=J (ha.2.1.heap h.blk h.neO)
 obtain ⟨A',c',rfl,_,_⟩:=aH ha.1
 have hlen:(s.ops ++ l).length = s.ops.length + l.length:=List.length_append
 have HS:=J h
 obtain ⟨B,c2,rfl,_,_⟩:=aH h.ops
 unfold Ty.T.push
 obtain ⟨S0,hS0⟩:∃ S0,s.ops = S0:=⟨_,rfl⟩
 have hk1:=hB1.out
 have f0:w1.cell? ⟨P,0,none⟩ = some (.slice B s.ops.length c2):=by rw [cell_of_row w1 P 0 _ _ (0,0) hk1];rfl
 have f1:w1.frozen? ⟨P,0,none⟩ = false:=frozen_of_row w1 P 0 _ _ hk1
 have HP2:Hid ((w1.setCell ⟨P,0,none⟩ (.slice A' (s.ops ++ l).length c')).heap[P]? = some (.cells #[.slice A' (s.ops ++ l).length c',vf,.int .i64 ↑s.most] 180 (0,0))):=J (by rw [heap_setCell_same w1 P 0 _ _ _ hk1];rfl)
 have HM2:Hid (Mod (· = P) w1 (w1.setCell ⟨P,0,none⟩ (.slice A' (s.ops ++ l).length c'))):=J (Mod.setCell (T:=(· = P)) (Mod.refl _ w1) (fun _=>rfl) _)
 rw [hlen] at HRUN HP2 HM2
 obtain ⟨m,hm⟩:∃ m,s.ops.length = m:=⟨_,rfl⟩
 obtain ⟨n,hn⟩:∃ n,l.length = n:=⟨_,rfl⟩
 obtain ⟨mo,hmo⟩:∃ n,s.most = n:=⟨_,rfl⟩
 rw [hm] at h0 f0 h1
 rw [hm,hn] at HRUN HP2 HM2
 rw [hn] at h1
 rw [hmo] at HP2
 rw [hn]
 have HM:=J hm
 have HN:=J hn
 have HMO:=J hmo
 clear h hA hrun ha hB1 hk1 hlen hS0 hm hn hmo
 go_enter Tryz.func131,Tryz.ntmps131
 go_upto_region 2 with (at_builtin;refine ag rfl (.tmp 10) (.tmp 11) 27 rfl _ _ _ w1 rfl rfl HRUN.out ?_;clear h0)
 generalize w1.setCell ⟨P,0,none⟩ (.slice A' (m + n) c') = w2 at HP2 HM2 ⊢
 clear f0 f1
 have HC0:Hid (w2.cell? ⟨P,0,none⟩ = some (.slice A' (m + n) c')):=J (by rw [cell_of_row w2 P 0 _ _ (0,0) HP2.out];rfl)
 refine wp_region_held_drew (S:=fun W'=>W'.cell? ⟨P,0,none⟩ = some (.slice A' (m + n) c')) (by kernel_rfl) (HC0.out) (fun hHeld=>?_)
 refine dW 0 rfl ?_
 refine dW 1 rfl ?_
 refine dW 2 rfl ?_
 refine dW 3 rfl ?_
 refine dW 5 rfl ?_
 refine dW 6 rfl ?_
 refine dW 7 rfl ?_
 refine dW 8 rfl ?_
 refine dW 9 rfl ?_
 refine ac 4 rfl (by kernel_rfl) (fun K hK=>?_)
 have hl:w2.drew.cell? ⟨P,2,none⟩ = some (.int .i64 ↑mo):=by show w2.cell? _ = _;rw [cell_of_row w2 P 2 _ _ (0,0) HP2.out];rfl
 go_simp
 clear hl
 refine hK.out _ _ hHeld fun hHeld=>?_
 clear hK K
 refine dW 10 rfl ?_
 refine dW 11 rfl ?_
 refine dW 12 rfl ?_
 refine ac 13 rfl (by kernel_rfl) (fun K hK=>?_)
 have hf:w2.drew.frozen? ⟨P,2,none⟩ = false:=frozen_of_row w2 P 2 _ _ HP2.out
 have hl:w2.drew.cell? ⟨P,2,none⟩ = some (.int .i64 ↑mo):=by show w2.cell? _ = _;rw [cell_of_row w2 P 2 _ _ (0,0) HP2.out];rfl
 go_simp
 clear hl hf
 have hmx:max (mo:Int) ((m:Int) + (n:Int)) = ((max mo (m + n):Nat):Int):=by omega
 rw [hmx]
 clear hmx
 obtain ⟨mx,hmx⟩:∃ mx,max mo (m + n) = mx:=⟨_,rfl⟩
 rw [hmx]
 have HMX:=J hmx
 clear hmx
 have HP3:Hid (((w2.setCell ⟨P,2,none⟩ (.int .i64 ↑mx)).drew).heap[P]? = some (.cells #[.slice A' (m + n) c',vf,.int .i64 ↑mx] 180 (0,0))):=J (by show (w2.setCell ⟨P,2,none⟩ (.int .i64 ↑mx)).heap[P]? = _;rw [heap_setCell_same w2 P 2 _ _ _ HP2.out];rfl)
 have HM3:Hid (Mod (· = P) w1 (w2.setCell ⟨P,2,none⟩ (.int .i64 ↑mx)).drew):=J ((HM2.out.setCell (fun _=>rfl) _).drew)
 generalize (w2.setCell ⟨P,2,none⟩ (.int .i64 ↑mx)).drew = w3 at HP3 HM3 ⊢
 refine hK.out _ _ (by rw [cell_of_row w3 P 0 _ _ (0,0) HP3.out];rfl) (fun hHeld2=>?_)
 clear hK K hHeld hHeld2
 refine dN ?_
 go_wp2_with fail
 go_end0
 refine ⟨rfl,?_⟩
 have hg:=HS.out.grown HA.out HM3.out (m':=mx) (by rw [List.length_append,HM.out,HN.out];exact HP3.out)
 rw [← HMX.out] at hg
 rw [← HMO.out,← HM.out] at hg
 exact hg
theorem Stk.setLast {w:World} {F:Nat → Prop} {P:Nat} {s:Ty.T} {vo:Value} {i:List Ty.Fr} {f:Ty.Fr} {g c:Nat} (h:Stk w F P s vo (.slice (some ⟨g,0,none⟩) (i.length + 1) c)) (hf:s.frs = i ++ [f]) (j:Nat) (z:Value) (f':Ty.Fr)
  (hrep:∀ cs,Lay.rep w (inS F P vo (.slice (some ⟨g,0,none⟩) (i.length + 1) c)) f cs → Lay.rep w (inS F P vo (.slice (some ⟨g,0,none⟩) (i.length + 1) c)) f' (cs.set j z)) :
  Stk (w.setCell ⟨g,i.length * 4 + j,none⟩ z) F P ⟨s.ops,i ++ [f'],s.most⟩ vo (.slice (some ⟨g,0,none⟩) (i.length + 1) c):=by
 have hne:=h.neF
 have hl:=h.frs
 rw [hf] at hl
 have hM:Mod (· = g) w (w.setCell ⟨g,i.length * 4 + j,none⟩ z):=Mod.setCell (T:=(· = g)) (Mod.refl _ w) (fun _=>rfl) _
 refine ⟨(heap_setCell_other w _ P _ (fun e=>hne (by rw [e];rfl))).trans h.blk,hM.own h.ops (fun k hk e=>h.neOF k hk (by rw [e];rfl)),OwnL.setLast hl (fun k _ hs e=>hs.2.2.2 (by rw [e];rfl)) j z f' hrep,h.inP,h.inO,h.inF⟩
theorem aG.of {F:Nat → Prop} {w w':World} {P:Nat} {s':Ty.T} {vo vf:Value} (h:Stk w' F P s' vo vf) (hm:Mod F w w'):aG F w P s' w':=⟨F,vo,vf,h,fun _ h=>.inl h,hm⟩
theorem twant_any {w:World} {F:Nat → Prop} {P:Nat} {s:Ty.T} {vo vf:Value} (h:Stk w F P s vo vf) (hok:s.ok) (l:List UInt8) (A:Option Addr) (c:Nat) (hA:Has w w.heap.size A l) (h1:s.ops.length ≤ 1000000000) (h2:l.length ≤ 1000000000) (h3:s.frs.length ≤ 1000000000) :
  Calls Tryz.prog 130 #[.pointer (some ⟨P,0,none⟩),.slice A l.length c] w fun e w'=>e = .returned (.bool (s.wantA l)) ∧ aG F w P (s.want l) w':=by
 have hc:=dy h hok l A c hA h1 h2 h3
 have HS:=J h
 cases hw:s.wout l with
 | none =>
  rw [hw] at hc
  have HC:Hid (Calls Tryz.prog 119 #[.pointer (some ⟨P,0,none⟩),.slice A l.length c] w fun e w'=>e = .returned (.tuple #[.int .i64 0,.bool false]) ∧ Below w.heap.size w w'):=J hc
  have HW:=J hw
  obtain ⟨n,hn⟩:∃ n,l.length = n:=⟨_,rfl⟩
  rw [hn] at HC
  rw [hn]
  clear h hok hA h1 h2 h3 hc hw hn
  go_enter Tryz.func130,Tryz.ntmps130
  go_wp2_with (go_at_call 119;refine HC.out.mono ?_;rintro e w1 ⟨rfl,hb⟩;have HB:=J hb;clear hb)
  go_ret
  refine ⟨?_,?_⟩
  ·unfold Ty.T.wantA;rw [HW.out];rfl
  ·unfold Ty.T.want;rw [HW.out];exact HS.out.same HB.out
 | some k =>
  rw [hw] at hc
  have HC:Hid (Calls Tryz.prog 119 #[.pointer (some ⟨P,0,none⟩),.slice A l.length c] w fun e w'=>e = .returned (.tuple #[.int .i64 ↑k,.bool true]) ∧ Below w.heap.size w w'):=J hc
  have HW:=J hw
  have hk:k ≤ s.ops.length:=by
   unfold Ty.T.wout at hw
   rcases Ty.parts s with hn | ⟨i,f,hf⟩
   ·rw [Ty.last_nil hn] at hw;cases hw
   ·rw [Ty.last_of hf] at hw
    exact (Ty.without_ge (Ty.last_h hok hf) hw).2
  have HL:Hid (∀ W,Below w.heap.size w W → Calls Tryz.prog 120 #[.pointer (some ⟨P,0,none⟩),.int .i64 ↑k] W fun e w'=>e = .returned (.tuple #[]) ∧ ∃ vo',Stk w' F P (s.cutTo k) vo' vf ∧ Mod (· = P) W w'):=J (fun W hb=>cd (h.on hb) k hk)
  obtain ⟨n,hn⟩:∃ n,l.length = n:=⟨_,rfl⟩
  rw [hn] at HC
  rw [hn]
  clear h hok hA h1 h2 h3 hc hw hn hk
  go_enter Tryz.func130,Tryz.ntmps130
  go_wp2_with (first | (go_at_call 119;refine HC.out.mono ?_;rintro e w1 ⟨rfl,hb⟩;have HB:=J hb;clear hb) | (go_at_call 120;refine (HL.out _ HB.out).mono ?_;rintro e w2 ⟨rfl,vo2,hs,hm⟩;have HS2:=J hs;have HM2:=J hm;clear hs hm))
  go_ret
  refine ⟨?_,?_⟩
  ·unfold Ty.T.wantA;rw [HW.out];rfl
  ·unfold Ty.T.want;rw [HW.out]
   exact aG.ahead HB.out (aG.of HS2.out (HM2.out.more (fun k _ e=>by rw [e];exact HS.out.inP)))
theorem tdead_any {w:World} {F:Nat → Prop} {P:Nat} {s:Ty.T} {vo vf:Value} (h:Stk w F P s vo vf) (hok:s.ok) (h3:s.frs.length ≤ 1000000000) :
  Calls Tryz.prog 145 #[.pointer (some ⟨P,0,none⟩)] w fun e w'=>e = .returned (.tuple #[]) ∧ aG F w P s.kill w':=by
 have HS:=J h
 rcases Ty.parts s with hn | ⟨i,f,hf⟩
 ·have HK:Hid (s.kill = s):=J (by unfold Ty.T.kill;rw [Ty.last_nil hn])
  have HC:=J (bJ h hn)
  clear h hok h3 hn
  go_enter Tryz.func145,Tryz.ntmps145
  go_wp2_with (go_at_call 118;refine HC.out.mono ?_;rintro e w1 ⟨rfl,rfl⟩)
  go_end0
  refine ⟨rfl,?_⟩
  rw [HK.out]
  exact HS.out.same (Below.refl _ _)
 ·have HK:Hid (s.kill = ⟨s.ops.take f.h,i ++ [⟨f.label,f.ends,f.h,true⟩],s.most⟩):=J (by unfold Ty.T.kill;rw [Ty.last_of hf,hf];simp)
  obtain ⟨g,cf,u,v,rfl,hcf1,hcf2,hFg,hg,hcell,_,_⟩:=h.inner hf
  have hil:i.length ≤ 1000000000:=by rw [hf] at h3;simp at h3;omega
  have hfh:=Ty.last_h hok hf
  have HC:=J (bK h hf hil)
  have HG:Hid (∀ W,Below w.heap.size w W → W.cell? ⟨g,i.length * 4 + 2,none⟩ = some (.int .i64 ↑f.h)):=J (fun W hb=>(hcell W (hb.block g hg)).2.2.1)
  have HL:Hid (∀ W,Below w.heap.size w W → Calls Tryz.prog 120 #[.pointer (some ⟨P,0,none⟩),.int .i64 ↑f.h] W fun e w'=>e = .returned (.tuple #[]) ∧ ∃ vo',Stk w' F P (s.cutTo f.h) vo' (.slice (some ⟨g,0,none⟩) (i.length + 1) cf) ∧ Mod (· = P) W w'):=J (fun W hb=>cd (h.on hb) f.h hfh)
  have HD:Hid (∀ W vo',Stk W F P (s.cutTo f.h) vo' (.slice (some ⟨g,0,none⟩) (i.length + 1) cf) → W.cell? ⟨g,i.length * 4 + 3,none⟩ = some (.bool f.dead) ∧ W.frozen? ⟨g,i.length * 4 + 3,none⟩ = false ∧ Stk (W.setCell ⟨g,i.length * 4 + 3,none⟩ (.bool true)) F P s.kill vo' (.slice (some ⟨g,0,none⟩) (i.length + 1) cf)):=J (fun W vo' hs=>by
   obtain ⟨g',cf',u',v',e,_,_,_,_,hcell',_,_⟩:=hs.inner (show (s.cutTo f.h).frs = i ++ [f] from hf)
   injection e with e1 _ e3
   injection e1 with e1
   injection e1 with e1 _ _
   subst e1 e3
   obtain ⟨_,_,_,q3,q4⟩:=hcell' W rfl
   refine ⟨q3,q4 _,?_⟩
   rw [HK.out]
   exact hs.setLast (show (s.cutTo f.h).frs = i ++ [f] from hf) 3 (.bool true) ⟨f.label,f.ends,f.h,true⟩ (fun cs hr=>by
    obtain ⟨a,b,rfl,r1,r2⟩:=hr
    exact ⟨a,b,rfl,r1,r2⟩))
  have HFG:=J hFg
  obtain ⟨I,hI⟩:∃ I,i.length * 4 = I:=⟨_,rfl⟩
  rw [hI] at HC HG HD
  obtain ⟨fh,hfh'⟩:∃ x,f.h = x:=⟨_,rfl⟩
  rw [hfh'] at HG HL HD
  clear h hok h3 hf hcf1 hcf2 hFg hg hcell hil hfh hI hfh' HK
  go_enter Tryz.func145,Tryz.ntmps145
  go_wp2_with (first | (go_at_call 118;refine HC.out.mono ?_;rintro e w1 ⟨hb,rfl⟩;have q:=HG.out w1 hb;have HB:=J hb;clear hb) | (go_at_call 120;refine (HL.out _ HB.out).mono ?_;rintro e w2 ⟨rfl,vo2,hs,hm⟩;obtain ⟨p1,p2,p3⟩:=HD.out w2 vo2 hs;have HS2:=J p3;have HM2:=J hm;clear hs hm p3 q))
  go_end0
  refine ⟨rfl,aG.ahead HB.out (aG.of HS2.out ?_)⟩
  exact (HM2.out.more (fun k _ e=>by rw [e];exact HS.out.inP)).setCell (fun _=>HFG.out) _
theorem tpop_any {w:World} {F:Nat → Prop} {P:Nat} {s:Ty.T} {vo vf:Value} (h:Stk w F P s vo vf) (hok:s.ok) (h1:s.ops.length ≤ 1000000000) (h3:s.frs.length ≤ 1000000000) :
  Calls Tryz.prog 135 #[.pointer (some ⟨P,0,none⟩)] w fun e w'=>e = .returned (.tuple #[.int .u8 ↑s.popA.1.toNat,.bool s.popA.2]) ∧ aG F w P s.pop w':=by
 have HS:=J h
 rcases Ty.parts s with hn | ⟨i,f,hf⟩
 ·have HK:Hid (s.pop = s ∧ s.popA = (0,false)):=J (by unfold Ty.T.pop Ty.T.popA;rw [Ty.last_nil hn];exact ⟨rfl,rfl⟩)
  have HC:=J (bJ h hn)
  rw [HK.out.1,HK.out.2]
  clear h hok h1 h3 hn
  go_enter Tryz.func135,Tryz.ntmps135
  go_wp2_with (go_at_call 118;refine HC.out.mono ?_;rintro e w1 ⟨rfl,rfl⟩)
  go_ret2
  exact ⟨rfl,HS.out.same (Below.refl _ _)⟩
 ·obtain ⟨g,cf,u,v,rfl,hcf1,hcf2,hFg,hg,hcell,_,_⟩:=h.inner hf
  have hil:i.length ≤ 1000000000:=by rw [hf] at h3;simp at h3;omega
  have hfh:=Ty.last_h hok hf
  have HC:=J (bK h hf hil)
  have HG:Hid (∀ W,Below w.heap.size w W → W.cell? ⟨g,i.length * 4 + 2,none⟩ = some (.int .i64 ↑f.h) ∧ W.cell? ⟨g,i.length * 4 + 3,none⟩ = some (.bool f.dead)):=J (fun W hb=>⟨(hcell W (hb.block g hg)).2.2.1,(hcell W (hb.block g hg)).2.2.2.1⟩)
  obtain ⟨B,c2,rfl,hc1,hc2⟩:=aH h.ops
  have HP:Hid (∀ W,Below w.heap.size w W → W.cell? ⟨P,0,none⟩ = some (.slice B s.ops.length c2)):=J (fun W hb=>(h.on hb).cell0)
  obtain ⟨I,hI⟩:∃ I,i.length * 4 = I:=⟨_,rfl⟩
  rw [hI] at HC HG
  obtain ⟨fh,hfh'⟩:∃ x,f.h = x:=⟨_,rfl⟩
  obtain ⟨fd,hfd⟩:∃ x,f.dead = x:=⟨_,rfl⟩
  unfold Ty.T.pop Ty.T.popA
  rw [Ty.last_of hf]
  dsimp only
  rw [hfh'] at HG hfh
  rw [hfd] at HG
  rw [hfh',hfd]
  clear hI hfh' hfd
  by_cases hle:s.ops.length ≤ fh
  ·rw [if_pos hle,if_pos hle]
   obtain ⟨m,hm⟩:∃ x,s.ops.length = x:=⟨_,rfl⟩
   rw [hm] at HP hle h1
   have f1:(m:Int) - 1 < (fh:Int):=by omega
   clear h hok h3 hf hcf1 hcf2 hFg hg hcell hil hfh hc1 hc2 hm
   go_enter Tryz.func135,Tryz.ntmps135
   go_upto_region 6 with (go_at_call 118;refine HC.out.mono ?_;rintro e w1 ⟨hb,rfl⟩;obtain ⟨q1,q2⟩:=HG.out w1 hb;have q3:=HP.out w1 hb;have HB:=J hb;clear hb)
   go_quiet (fail)
   go_wp2_with fail
   go_ret2
   exact ⟨rfl,HS.out.same (Below.dn HB.out _)⟩
  ·rw [if_neg hle,if_neg hle]
   obtain ⟨p,hp⟩:∃ p,s.ops.length = p + 1:=⟨s.ops.length - 1,by omega⟩
   obtain ⟨x,hx⟩:∃ x,s.ops[p]? = some x:=⟨_,List.getElem?_eq_getElem (by omega)⟩
   have hlast:s.ops.getLast?.getD 0 = x:=by rw [List.getLast?_eq_getElem?,hp];simp [hx]
   have hH0:Has w w.heap.size B s.ops:=by
    obtain ⟨A',c',e,_,_,_,_,hh⟩:=own_sl h.ops
    injection e with e1 _ _
    subst e1
    exact hh
   obtain ⟨ad,rfl,_,hxc⟩:=hH0 p x hx
   have HX:Hid (∀ W,Below w.heap.size w W → W.cell? (ad.add p) = some (.int .u8 ↑x.toNat)):=J (fun W hb=>by
    obtain ⟨ad',e,_,hc⟩:=(hH0.on hb) p x hx
    injection e with e
    subst e
    exact hc)
   have HL:Hid (∀ W,Below w.heap.size w W → Calls Tryz.prog 120 #[.pointer (some ⟨P,0,none⟩),.int .i64 ↑p] W fun e w'=>e = .returned (.tuple #[]) ∧ ∃ vo',Stk w' F P (s.cutTo p) vo' (.slice (some ⟨g,0,none⟩) (i.length + 1) cf) ∧ Mod (· = P) W w'):=J (fun W hb=>cd (h.on hb) p (by omega))
   have HDL:Hid (s.ops.dropLast = s.ops.take p):=J (by rw [List.dropLast_eq_take,hp];rfl)
   rw [hlast]
   rw [hp] at HP h1 hle
   have f1:¬ ((p:Int) < (fh:Int)):=by omega
   have f2:decide ((p:Int) < (fh:Int)) = false:=decide_eq_false f1
   have f3:decide (p < fh) = false:=decide_eq_false (by omega)
   clear h hok h3 hf hcf1 hcf2 hFg hg hcell hil hfh hc1 hc2 hp hx hlast hH0 hxc hle f1
   go_enter Tryz.func135,Tryz.ntmps135
   go_wp2_with (first | (go_at_call 118;refine HC.out.mono ?_;rintro e w1 ⟨hb,rfl⟩;obtain ⟨q1,q2⟩:=HG.out w1 hb;have q3:=HP.out w1 hb;have q4:=HX.out w1 hb;have HB:=J hb;clear hb) | (go_at_call 120;refine (HL.out _ HB.out).mono ?_;rintro e w2 ⟨rfl,vo2,hs,hm⟩;have HS2:=J hs;have HM2:=J hm;clear hs hm q1 q2 q3 q4))
   go_ret2
   refine ⟨rfl,?_⟩
   rw [HDL.out]
   exact aG.ahead HB.out (aG.of HS2.out (HM2.out.more (fun k _ e=>by rw [e];exact HS.out.inP)))
theorem own8 {t:TypeId} {w:World} {base:Nat} {S S':Nat → Prop} {v:Value} {xs:List UInt8} (h:OwnL t w base S v xs):OwnL t w base S' v xs:=by
 obtain ⟨ys,h0,h1,h2⟩:=h
 exact ⟨ys,h0,h1,fun y hy=>h2 y hy⟩
theorem cZ (xs:List UInt8) (v:Value) (w:World) (hv:aa w (· < w.heap.size) xs v) (hl:xs.length ≤ 1000000000) :
  Calls Tryz.prog 69 #[v] w fun e w'=>∃ A c,e = .returned (.slice A xs.length c) ∧ aa w' (w.heap.size ≤ ·) xs (.slice A xs.length c) ∧ Below w.heap.size w w':=by
 refine (bI xs v w hv (by omega)).mono ?_
 rintro e w' ⟨u,rfl,h1,h2,h3⟩
 have h4:=(own8 (S':=(w.heap.size ≤ ·)) h1).tell (fun _ h=>h)
 obtain ⟨A,c,rfl,h5⟩:=h4
 exact ⟨A,c,rfl,⟨A,c,rfl,h5⟩,h2⟩
theorem undTFr:Tryz.prog.underlying 178 = some (.slice 186):=by kernel_rfl
theorem infTFr:(Tryz.prog.info? 186).map (fun i=>(i.zero,i.size,i.bytes)) = some (some (.agg #[.slice none 0 0,.slice none 0 0,.int .i64 0,.bool false]),Lay.size Ty.Fr,64):=by kernel_rfl
theorem Stk.opened {w w2:World} {F:Nat → Prop} {P:Nat} {s:Ty.T} {vo vf u1 u2:Value} {a b:List UInt8} (h:Stk w F P s vo vf) (hb:Below w.heap.size w w2) (h1:aa w2 (w.heap.size ≤ ·) a u1) (h2:aa w2 (w.heap.size ≤ ·) b u2) (hl:s.frs.length ≤ 1000000000) :
  ∃ G5 n5 k5 w5,(Builtin.append_ #[178,178] 178 #[vf,.slice (some ⟨w2.heap.size,0,none⟩) 1 1]).run Tryz.prog (w2.alloc (.cells #[u1,u2,.int .i64 ↑s.ops.length,.bool false] 186)) = .ok (.slice G5 n5 k5) w5 ∧
   w5.cell? ⟨P,0,none⟩ = some vo ∧ w5.cell? ⟨P,1,none⟩ = some vf ∧ w5.frozen? ⟨P,1,none⟩ = false ∧ (w5.setCell ⟨P,1,none⟩ (.slice G5 n5 k5)).cell? ⟨P,0,none⟩ = some vo ∧ aG F w P (s.op a b) (w5.setCell ⟨P,1,none⟩ (.slice G5 n5 k5)):=by
 have hP:=h.lt
 have hO:=own_lt h.ops
 have hF:=h.frs.lt
 have h':=h.on hb
 have hfr:OwnL 186 w2 0 (inS (fun k=>F k ∨ w.heap.size ≤ k) P vo vf) vf s.frs:=h'.frs.more (fun k _ hs=>⟨.inl hs.1,hs.2⟩)
 have hnew:∀ k,w.heap.size ≤ k → inS (fun k=>F k ∨ w.heap.size ≤ k) P vo vf k:=fun k hk=>⟨.inr hk,by omega,fun e=>by have:=hO k e;omega,fun e=>by have:=(hF k e).2;omega⟩
 have hrep:Lay.rep w2 (inS (fun k=>F k ∨ w.heap.size ≤ k) P vo vf) (⟨a,b,s.ops.length,false⟩:Ty.Fr) [u1,u2,.int .i64 ↑s.ops.length,.bool false]:=⟨u1,u2,rfl,h1.more (fun k _ hk=>hnew k hk),h2.more (fun k _ hk=>hnew k hk)⟩
 obtain ⟨v5,w5,hrun,hO5,hM5,hT5⟩:=append1L undTFr infTFr (by decide) rfl (by decide) w2 0 _ vf s.frs ⟨a,b,s.ops.length,false⟩ _ hfr (by omega) (Nat.zero_le _) hrep (fun u hu=>Ones.one hrep u hu) (fun g _ hs=>hs.2.2.2)
 have hblk:=hM5.heap h'.blk h'.neF
 have hne5:v5.ownBlock ≠ some P:=fun e=>by
  rcases hT5 P e with e | e
  ·exact h.neF e
  ·have:=hb.size;omega
 have hS:Mod (· = P) w5 (w5.setCell ⟨P,1,none⟩ v5):=Mod.setCell (T:=(· = P)) (Mod.refl _ w5) (fun _=>rfl) _
 have hblk6:(w5.setCell ⟨P,1,none⟩ v5).heap[P]? = some (.cells #[vo,v5,.int .i64 ↑s.most] 180 (0,0)):=by rw [heap_setCell_same w5 P 1 _ _ _ hblk];rfl
 have hO5':=hO5
 obtain ⟨ys5,_,hy5,_⟩:=hO5'
 obtain ⟨G5,k5,e5,_,_⟩:=aH hy5
 clear hy5
 generalize (s.frs ++ [(⟨a,b,s.ops.length,false⟩:Ty.Fr)]).length = n5 at e5
 subst e5
 refine ⟨G5,n5,k5,w5,hrun,by rw [cell_of_row w5 P 0 _ _ (0,0) hblk];rfl,by rw [cell_of_row w5 P 1 _ _ (0,0) hblk];rfl,frozen_of_row w5 P 1 _ _ hblk,by rw [cell_of_row _ P 0 _ _ (0,0) hblk6];rfl,?_⟩
 refine ⟨fun k=>F k ∨ w.heap.size ≤ k,vo,.slice G5 n5 k5,⟨hblk6,?_,?_,.inl h.inP,fun k e=>.inl (h.inO k e),fun k e=>?_⟩,fun k hk=>hk,?_⟩
 ·exact hS.own (hM5.own h'.ops (fun k hk e=>h.neOF k hk e)) (fun k hk e=>h.neO (by rw [hk,e]))
 ·exact (hO5.more (S':=inS (fun k=>F k ∨ w.heap.size ≤ k) P vo (.slice G5 n5 k5)) (fun k _ hs=>⟨hs.1.1,hs.1.2.1,hs.1.2.2.1,hs.2⟩)).mod hS (fun k hk e=>hne5 (by rw [hk,e])) (fun k _ hs e=>hs.2.1 e)
 ·rcases hT5 k e with e | e
  ·exact .inl (h.inF k e)
  ·exact .inr (Nat.le_trans hb.size e)
 ·exact ((Mod.of_below (T:=F) hb).trans hM5 (fun k _ e=>h.inF k e)).trans hS (fun k _ e=>by rw [e];exact h.inP)
theorem fb {w:World} {F:Nat → Prop} {P:Nat} {s:Ty.T} {vo vf:Value} (h:Stk w F P s vo vf) (a b:List UInt8) (va vb:Value) (ha:aa w (· < w.heap.size) a va) (hb:aa w (· < w.heap.size) b vb) (h1:a.length ≤ 1000000000) (h2:b.length ≤ 1000000000) (h3:s.frs.length ≤ 1000000000) :
  Calls Tryz.prog 98 #[.pointer (some ⟨P,0,none⟩),va,vb] w fun e w'=>e = .returned (.tuple #[]) ∧ aG F w P (s.op a b) w':=by
 have HCA:Hid (∀ W,Below w.heap.size w W → Calls Tryz.prog 69 #[va] W fun e w'=>∃ A c,e = .returned (.slice A a.length c) ∧ aa w' (W.heap.size ≤ ·) a (.slice A a.length c) ∧ Below W.heap.size W w'):=J (fun W hW=>cZ a va W (ha.grow hW) h1)
 have HCB:Hid (∀ W,Below w.heap.size w W → Calls Tryz.prog 69 #[vb] W fun e w'=>∃ A c,e = .returned (.slice A b.length c) ∧ aa w' (W.heap.size ≤ ·) b (.slice A b.length c) ∧ Below W.heap.size W w'):=J (fun W hW=>cZ b vb W (hb.grow hW) h2)
 have HEND:Hid (∀ w2 u1 u2,Below w.heap.size w w2 → aa w2 (w.heap.size ≤ ·) a u1 → aa w2 (w.heap.size ≤ ·) b u2 → _):=J (fun w2 u1 u2 hb q1 q2=>h.opened hb q1 q2 h3)
 have HC0:Hid (∀ W,Below w.heap.size w W → W.cell? ⟨P,0,none⟩ = some vo):=J (fun W hW=>(h.on hW).cell0)
 have HC1:Hid (∀ W,Below w.heap.size w W → W.cell? ⟨P,1,none⟩ = some vf):=J (fun W hW=>(h.on hW).cell1)
 obtain ⟨A0,c0,rfl,_,_⟩:=aH h.ops
 obtain ⟨ys,_,hys,_⟩:=h.frs
 obtain ⟨B0,d0,rfl,_,_⟩:=aH hys
 obtain ⟨A1,c1,rfl,_⟩:=ha
 obtain ⟨A2,c2,rfl,_⟩:=hb
 clear hys h h1 h2 h3
 obtain ⟨m,hm⟩:∃ m,s.ops.length = m:=⟨_,rfl⟩
 obtain ⟨fl,hfl⟩:∃ m,s.frs.length = m:=⟨_,rfl⟩
 obtain ⟨na,hna⟩:∃ m,a.length = m:=⟨_,rfl⟩
 obtain ⟨nb,hnb⟩:∃ m,b.length = m:=⟨_,rfl⟩
 rw [hna] at HCA
 rw [hna]
 rw [hnb] at HCB
 rw [hnb]
 rw [hm] at HC0 HEND
 rw [hfl] at HC1 HEND
 clear hm hfl hna hnb
 have HB0:Hid (Below w.heap.size w w.drew):=J (Below.drew (Below.refl _ _))
 go_enter Tryz.func98,Tryz.ntmps98
 go_upto_region 1 with fail
 refine wp_region_held_drew (S:=fun W'=>W'.cell? ⟨P,0,none⟩ = some (.slice A0 m c0)) (by kernel_rfl) ((HC0.out _ HB0.out)) (fun hHeld=>?_)
 refine dW 0 rfl ?_
 refine dW 1 rfl ?_
 refine dW 2 rfl ?_
 refine dW 3 rfl ?_
 refine dW 5 rfl ?_
 refine dW 7 rfl ?_
 refine dW 9 rfl ?_
 refine dW 10 rfl ?_
 refine dW 11 rfl ?_
 refine dW 12 rfl ?_
 refine dW 13 rfl ?_
 refine ai 4 6 rfl rfl (by kernel_rfl) (fun K hK=>?_) (fun K hK=>?_)
 ·have hl:=HC1.out w.drew HB0.out
  go_simp
  clear hl
  refine hK.out _ _ hHeld fun hHeld=>?_
  clear hK K
  refine ac 6 rfl (by kernel_rfl) (fun K hK=>?_)
  go_simp
  refine (HCA.out _ HB0.out).mono ?_
  rintro e w1 ⟨E1,f1,rfl,hs1,hb⟩
  have HB1:Hid (Below w.heap.size w w1):=J (Below.trans HB0.out (hb.mono (Below.size HB0.out)))
  have HS1:Hid (aa w1 (w.heap.size ≤ ·) a (.slice E1 na f1)):=J (hs1.more (fun k _ hk=>Nat.le_trans (Below.size HB0.out) hk))
  clear hs1 hb
  go_wp2_with fail
  refine hK.out _ _ (HC0.out _ HB1.out) fun hHeld=>?_
  clear hK K
  refine ac 8 rfl (by kernel_rfl) (fun K hK=>?_)
  go_simp
  refine (HCB.out _ HB1.out).mono ?_
  rintro e w2 ⟨E2,f2,rfl,hs2,hb⟩
  have HB2:Hid (Below w.heap.size w w2):=J (Below.trans HB1.out (hb.mono (Below.size HB1.out)))
  have HS2:Hid (aa w2 (w.heap.size ≤ ·) b (.slice E2 nb f2)):=J (hs2.more (fun k _ hk=>Nat.le_trans (Below.size HB1.out) hk))
  have HS1:Hid (aa w2 (w.heap.size ≤ ·) a (.slice E1 na f1)):=J (HS1.out.mod (T:=fun _=>False) (Mod.of_below hb) (fun _ _ _ h=>h))
  have HB3:Hid (Below w.heap.size w (w2.alloc (.cells #[.slice E1 na f1,.slice E2 nb f2,.int .i64 ↑m,.bool false] 186))):=J (HB2.out.alloc HB2.out.size _)
  obtain ⟨G5,n5,k5,w5,hrun,hc5,hc51,hf5,hc6,htp⟩:=HEND.out w2 _ _ HB2.out HS1.out HS2.out
  have HRUN:=J hrun
  have HC5:=J hc5
  have HC51:=J hc51
  have HF5:=J hf5
  have HC6:=J hc6
  have HTP:=J htp
  clear hs2 hb hrun hc5 hc51 hf5 hc6 htp
  go_wp2_with fail
  refine hK.out _ _ (HC0.out _ HB2.out) fun hHeld=>?_
  clear hK K
  refine dW 14 rfl ?_
  refine ac 15 rfl (by kernel_rfl) (fun K hK=>?_)
  go_simp
  refine hK.out _ _ (HC0.out _ HB3.out) fun hHeld=>?_
  clear hK K
  refine dA 16 rfl fun K hK=>?_
  refine am (.tmp 12) (.tmp 23) 178 rfl _ _ _ w5 rfl rfl HRUN.out ?_
  refine hK.out _ _ HC5.out fun hHeld=>?_
  clear hK K
  try simp only [Act.put,O]
  refine dW 17 rfl ?_
  refine dW 18 rfl ?_
  refine ac 19 rfl (by kernel_rfl) (fun K hK=>?_)
  have hl:=HC51.out
  have gl:=HF5.out
  go_simp
  clear hl gl
  refine hK.out _ _ HC6.out (fun hHeld2=>?_)
  clear hK K hHeld hHeld2
  refine dN ?_
  go_wp2_with fail
  go_end0
  exact ⟨rfl,HTP.out⟩
 ·go_simp
  refine (HCA.out _ HB0.out).mono ?_
  rintro e w1 ⟨E1,f1,rfl,hs1,hb⟩
  have HB1:Hid (Below w.heap.size w w1):=J (Below.trans HB0.out (hb.mono (Below.size HB0.out)))
  have HS1:Hid (aa w1 (w.heap.size ≤ ·) a (.slice E1 na f1)):=J (hs1.more (fun k _ hk=>Nat.le_trans (Below.size HB0.out) hk))
  clear hs1 hb
  go_wp2_with fail
  refine hK.out _ _ (HC0.out _ HB1.out) fun hHeld=>?_
  clear hK K
  refine ai 4 8 rfl rfl (by kernel_rfl) (fun K hK=>?_) (fun K hK=>?_)
  ·have hl:=HC1.out w1 HB1.out
   go_simp
   clear hl
   refine hK.out _ _ hHeld fun hHeld=>?_
   clear hK K
   refine ac 8 rfl (by kernel_rfl) (fun K hK=>?_)
   go_simp
   refine (HCB.out _ HB1.out).mono ?_
   rintro e w2 ⟨E2,f2,rfl,hs2,hb⟩
   have HB2:Hid (Below w.heap.size w w2):=J (Below.trans HB1.out (hb.mono (Below.size HB1.out)))
   have HS2:Hid (aa w2 (w.heap.size ≤ ·) b (.slice E2 nb f2)):=J (hs2.more (fun k _ hk=>Nat.le_trans (Below.size HB1.out) hk))
   have HS1:Hid (aa w2 (w.heap.size ≤ ·) a (.slice E1 na f1)):=J (HS1.out.mod (T:=fun _=>False) (Mod.of_below hb) (fun _ _ _ h=>h))
   have HB3:Hid (Below w.heap.size w (w2.alloc (.cells #[.slice E1 na f1,.slice E2 nb f2,.int .i64 ↑m,.bool false] 186))):=J (HB2.out.alloc HB2.out.size _)
   obtain ⟨G5,n5,k5,w5,hrun,hc5,hc51,hf5,hc6,htp⟩:=HEND.out w2 _ _ HB2.out HS1.out HS2.out
   have HRUN:=J hrun
   have HC5:=J hc5
   have HC51:=J hc51
   have HF5:=J hf5
   have HC6:=J hc6
   have HTP:=J htp
   clear hs2 hb hrun hc5 hc51 hf5 hc6 htp
   go_wp2_with fail
   refine hK.out _ _ (HC0.out _ HB2.out) fun hHeld=>?_
   clear hK K
   refine dW 14 rfl ?_
   refine ac 15 rfl (by kernel_rfl) (fun K hK=>?_)
   go_simp
   refine hK.out _ _ (HC0.out _ HB3.out) fun hHeld=>?_
   clear hK K
   refine dA 16 rfl fun K hK=>?_
   refine am (.tmp 12) (.tmp 23) 178 rfl _ _ _ w5 rfl rfl HRUN.out ?_
   refine hK.out _ _ HC5.out fun hHeld=>?_
   clear hK K
   try simp only [Act.put,O]
   refine dW 17 rfl ?_
   refine dW 18 rfl ?_
   refine ac 19 rfl (by kernel_rfl) (fun K hK=>?_)
   have hl:=HC51.out
   have gl:=HF5.out
   go_simp
   clear hl gl
   refine hK.out _ _ HC6.out (fun hHeld2=>?_)
   clear hK K hHeld hHeld2
   refine dN ?_
   go_wp2_with fail
   go_end0
   exact ⟨rfl,HTP.out⟩
  ·go_simp
   refine (HCB.out _ HB1.out).mono ?_
   rintro e w2 ⟨E2,f2,rfl,hs2,hb⟩
   have HB2:Hid (Below w.heap.size w w2):=J (Below.trans HB1.out (hb.mono (Below.size HB1.out)))
   have HS2:Hid (aa w2 (w.heap.size ≤ ·) b (.slice E2 nb f2)):=J (hs2.more (fun k _ hk=>Nat.le_trans (Below.size HB1.out) hk))
   have HS1:Hid (aa w2 (w.heap.size ≤ ·) a (.slice E1 na f1)):=J (HS1.out.mod (T:=fun _=>False) (Mod.of_below hb) (fun _ _ _ h=>h))
   have HB3:Hid (Below w.heap.size w (w2.alloc (.cells #[.slice E1 na f1,.slice E2 nb f2,.int .i64 ↑m,.bool false] 186))):=J (HB2.out.alloc HB2.out.size _)
   obtain ⟨G5,n5,k5,w5,hrun,hc5,hc51,hf5,hc6,htp⟩:=HEND.out w2 _ _ HB2.out HS1.out HS2.out
   have HRUN:=J hrun
   have HC5:=J hc5
   have HC51:=J hc51
   have HF5:=J hf5
   have HC6:=J hc6
   have HTP:=J htp
   clear hs2 hb hrun hc5 hc51 hf5 hc6 htp
   go_wp2_with fail
   refine hK.out _ _ (HC0.out _ HB2.out) fun hHeld=>?_
   clear hK K
   refine dW 14 rfl ?_
   refine ai 4 15 rfl rfl (by kernel_rfl) (fun K hK=>?_) (fun K hK=>?_)
   ·have hl:=HC1.out w2 HB2.out
    go_simp
    clear hl
    refine hK.out _ _ hHeld fun hHeld=>?_
    clear hK K
    refine ac 15 rfl (by kernel_rfl) (fun K hK=>?_)
    go_simp
    refine hK.out _ _ (HC0.out _ HB3.out) fun hHeld=>?_
    clear hK K
    refine dA 16 rfl fun K hK=>?_
    refine am (.tmp 12) (.tmp 23) 178 rfl _ _ _ w5 rfl rfl HRUN.out ?_
    refine hK.out _ _ HC5.out fun hHeld=>?_
    clear hK K
    try simp only [Act.put,O]
    refine dW 17 rfl ?_
    refine dW 18 rfl ?_
    refine ac 19 rfl (by kernel_rfl) (fun K hK=>?_)
    have hl:=HC51.out
    have gl:=HF5.out
    go_simp
    clear hl gl
    refine hK.out _ _ HC6.out (fun hHeld2=>?_)
    clear hK K hHeld hHeld2
    refine dN ?_
    go_wp2_with fail
    go_end0
    exact ⟨rfl,HTP.out⟩
   ·go_simp
    refine hK.out _ _ (HC0.out _ HB3.out) fun hHeld=>?_
    clear hK K
    refine ac 4 rfl (by kernel_rfl) (fun K hK=>?_)
    have hl:=HC1.out (w2.alloc (.cells #[.slice E1 na f1,.slice E2 nb f2,.int .i64 ↑m,.bool false] 186)) HB3.out
    go_simp
    clear hl
    refine hK.out _ _ hHeld fun hHeld=>?_
    clear hK K
    refine dA 16 rfl fun K hK=>?_
    refine am (.tmp 12) (.tmp 23) 178 rfl _ _ _ w5 rfl rfl HRUN.out ?_
    refine hK.out _ _ HC5.out fun hHeld=>?_
    clear hK K
    try simp only [Act.put,O]
    refine dW 17 rfl ?_
    refine dW 18 rfl ?_
    refine ac 19 rfl (by kernel_rfl) (fun K hK=>?_)
    have hl:=HC51.out
    have gl:=HF5.out
    go_simp
    clear hl gl
    refine hK.out _ _ HC6.out (fun hHeld2=>?_)
    clear hK K hHeld hHeld2
    refine dN ?_
    go_wp2_with fail
    go_end0
    exact ⟨rfl,HTP.out⟩
theorem tnew_any (e:List UInt8) (ve:Value) (w:World) (he:aa w (· < w.heap.size) e ve) (h1:e.length ≤ 1000000000) :
  Calls Tryz.prog 89 #[ve] w fun r w'=>∃ P F vo vf,r = .returned (.pointer (some ⟨P,0,none⟩)) ∧ Stk w' F P (Ty.T.new e) vo vf ∧ (∀ k,F k → w.heap.size ≤ k) ∧ Below w.heap.size w w':=by
 have hb0:Below w.heap.size w (w.alloc (.cells #[.slice none 0 0,.slice none 0 0,.int .i64 0] 180)):=bA
 have hS0:Stk (w.alloc (.cells #[.slice none 0 0,.slice none 0 0,.int .i64 0] 180)) (fun k=>k = w.heap.size) w.heap.size Ty.T.start (.slice none 0 0) (.slice none 0 0) :=
  ⟨heap_alloc_new w _,World.ownsRow_nil _ _ _ _,OwnL.nil _ _ _ _,rfl,fun k e=>(by cases e),fun k e=>(by cases e)⟩
 have HO:=J (fb hS0 e e ve ve (he.grow hb0) (he.grow hb0) h1 h1 (by simp [Ty.T.start]))
 have HB0:=J hb0
 obtain ⟨A,c,rfl,_⟩:=he
 obtain ⟨n,hn⟩:∃ n,e.length = n:=⟨_,rfl⟩
 rw [hn] at HO
 rw [hn]
 clear hS0 hb0 h1 hn
 obtain ⟨P,hP⟩:∃ P,w.heap.size = P:=⟨_,rfl⟩
 rw [hP] at HO
 have HP:=J hP
 have HX:Hid (∀ W,Below w.heap.size w W → W = W):=J (fun _ _=>rfl)
 obtain ⟨W0,hW0⟩:∃ W0,w.alloc (.cells #[.slice none 0 0,.slice none 0 0,.int .i64 0] 180) = W0:=⟨_,rfl⟩
 go_enter Tryz.func89,Tryz.ntmps89
 go_upto_region 2 with fail
 try simp only [hP]
 clear hP HX
 try rw [hW0]
 rw [hW0] at HO HB0
 have HZ:Hid (w.heap.size < W0.heap.size):=J (by rw [← hW0];simp)
 clear hW0
 go_wp2_with (go_at_call 98;refine HO.out.mono ?_;rintro r w1 ⟨rfl,F',vo',vf',q1,q2,q3⟩;have HS1:=J q1;have HF1:=J q2;have HM1:=J q3;clear q1 q2 q3)
 go_ret
 have hp:=HP.out
 have hz:=HZ.out
 have hq:=HB0.out.size
 refine ⟨P,F',vo',vf',rfl,HS1.out,fun k hk=>?_,HB0.out.trans (HM1.out.below hq (fun k hk e=>by omega))⟩
 rcases HF1.out k hk with e | e
 ·omega
 ·omega
end Go.Proofs.YtmpelmihdpomjaaGreat
