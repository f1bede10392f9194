/-
  Layer 10's plain mathematics (no program): how great a stack grows; a frame more below all; a block around all of a body; a branch to the outermost label.
-/
import Derived.Test.YtmpelmihdpomjaaGreatSq01
import Derived.Test.YtmpelmihdpomjaaGreatSq02
set_option maxRecDepth 100000
set_option maxHeartbeats 4000000
namespace Bo
open Ty
def Sz (K n:Nat) (s:T):Prop:=s.ops.length ≤ n ∧ s.most ≤ n ∧ s.frs.length ≤ n ∧ ∀ f ∈ s.frs,f.label.length ≤ K ∧ f.ends.length ≤ K
structure EnvK (E:Env) (K:Nat):Prop where
 func:∀ i t,E.func i = some t → t.2.length ≤ K
 typ:∀ i t,E.typ i = some t → t.2.length ≤ K
 res:E.res.length ≤ K
 two:2 ≤ K
theorem sig_len (x:Int):(Opc.sigP x).length ≤ 2 ∧ (Opc.sigR x).length ≤ 2:=by
 unfold Opc.sigP Opc.sigR
 constructor <;> ((repeat' split) <;> simp)
theorem ends_len (a:Nat):(ends a).length ≤ 1:=by
 unfold ends
 split <;> simp
section
variable {K n:Nat} {s:T}
theorem sz_up (h:Sz K n s) {m:Nat} (hm:n ≤ m):Sz K m s:=⟨by have:=h.1;omega,by have:=h.2.1;omega,by have:=h.2.2.1;omega,h.2.2.2⟩
theorem gq (h:Sz K n s) {l:List UInt8} (hl:l.length ≤ K):Sz K (n + K) (s.push l):=by
 obtain ⟨h1,h2,h3,h4⟩:=h
 exact ⟨by simp [T.push];omega,by simp [T.push];omega,by simp [T.push];omega,h4⟩
theorem sz_op (h:Sz K n s) {a b:List UInt8} (ha:a.length ≤ K) (hb:b.length ≤ K) (hk:2 ≤ K):Sz K (n + K) (s.op a b):=by
 obtain ⟨h1,h2,h3,h4⟩:=h
 refine ⟨by simp [T.op];omega,by simp [T.op];omega,by simp [T.op];omega,fun f hf=>?_⟩
 simp [T.op] at hf
 rcases hf with hf | rfl
 ·exact h4 f hf
 ·exact ⟨ha,hb⟩
theorem co (h:Sz K n s) (l:List UInt8):Sz K n (s.want l):=by
 obtain ⟨h1,h2,h3,h4⟩:=h
 unfold T.want
 split
 ·exact ⟨h1,h2,h3,h4⟩
 ·exact ⟨by simp [T.cutTo];omega,h2,h3,h4⟩
theorem sz_pop (h:Sz K n s):Sz K n s.pop:=by
 obtain ⟨h1,h2,h3,h4⟩:=h
 unfold T.pop
 split
 ·exact ⟨h1,h2,h3,h4⟩
 ·split
  ·exact ⟨h1,h2,h3,h4⟩
  ·exact ⟨by simp;omega,h2,h3,h4⟩
theorem sz_close (h:Sz K n s) {e:List UInt8} (hc:s.closeA = some e):Sz K n s.close ∧ e.length ≤ K:=by
 obtain ⟨h1,h2,h3,h4⟩:=h
 obtain ⟨i,g,k,hg,_,_,he,hcl⟩:=closeA_some hc
 rw [hcl,he]
 rw [hg] at h3 h4
 exact ⟨⟨by simp;omega,h2,by simp at h3 ⊢;omega,fun f hf=>h4 f (by simp [hf])⟩,(h4 g (by simp)).2⟩
theorem sz_kill (h:Sz K n s):Sz K n s.kill:=by
 obtain ⟨h1,h2,h3,h4⟩:=h
 unfold T.kill
 rcases parts s with hn | ⟨i,f,hf⟩
 ·rw [last_nil hn];exact ⟨h1,h2,h3,h4⟩
 ·rw [last_of hf]
  dsimp only
  rw [hf] at h3 h4 ⊢
  refine ⟨by simp;omega,h2,by simpa using h3,fun g hg=>?_⟩
  simp at hg
  rcases hg with hg | rfl
  ·exact h4 g (by simp [hg])
  ·exact h4 f (by simp)
theorem sz_label (h:Sz K n s) {k:Nat} {l:List UInt8} (hl:s.labelA k = some l):l.length ≤ K:=by
 unfold T.labelA at hl
 rw [Option.map_eq_some_iff] at hl
 obtain ⟨f,hf,rfl⟩:=hl
 exact (h.2.2.2 f (by have:=List.mem_of_getElem? hf;simpa using this)).1
theorem aY (h:Sz K n s) {a b:List UInt8} (hb:b.length ≤ K) {s':T} (hs:turned s a b = .ok s'):Sz K (n + K) s':=by
 unfold turned at hs
 split at hs
 ·injection hs with hs
  subst hs
  exact gq (co h a) hb
 ·cases hs
theorem eu (h:Sz K n s) {a:List UInt8} {s':T} (hs:goes s a = .ok s'):Sz K (n + K) s':=by
 unfold goes at hs
 split at hs
 ·injection hs with hs
  subst hs
  exact sz_up (sz_kill (co h a)) (by omega)
 ·cases hs
section
variable {E:Env} (hE:EnvK E K)
include hE
theorem sz_memo {x:Ins.I} {s':T} (h:Sz K n s) (hs:memo E x s = .ok s'):Sz K (n + K) s':=by
 have hp:∀ {s':T},plain x.op s = .ok s' → Sz K (n + K) s':=fun hs=>aY h (Nat.le_trans (sig_len _).2 hE.two) hs
 unfold memo at hs
 split at hs
 ·unfold pages at hs;split at hs
  ·exact hp hs
  ·cases hs
 ·split at hs
  ·unfold access at hs;split at hs
   ·split at hs
    ·cases hs
    ·exact hp hs
   ·cases hs
  ·exact hp hs
theorem sz_vari {x:Ins.I} {s':T} (h:Sz K n s) (hs:vari E x s = .ok s'):Sz K (n + K) s':=by
 have h1:∀ t:UInt8,[t].length ≤ K:=fun t=>by have:=hE.two;simp;omega
 unfold vari at hs
 split at hs
 ·unfold drop at hs;split at hs
  ·injection hs with hs;subst hs;exact sz_up (sz_pop h) (by omega)
  ·cases hs
 ·split at hs
  ·unfold choose at hs;split at hs
   ·split at hs
    ·injection hs with hs;subst hs;exact gq (sz_pop (sz_pop (co h _))) (h1 _)
    ·cases hs
   ·cases hs
  ·split at hs
   ·unfold locl at hs;split at hs
    ·cases hs
    ·split at hs
     ·exact aY h (h1 _) hs
     ·split at hs
      ·exact aY h (by simp) hs
      ·exact aY h (h1 _) hs
   ·split at hs
    ·unfold gget at hs;split at hs
     ·cases hs
     ·exact aY h (h1 _) hs
    ·split at hs
     ·unfold gset at hs;split at hs
      ·cases hs
      ·split at hs
       ·exact aY h (by simp) hs
       ·cases hs
     ·exact sz_memo hE h hs
theorem sz_flow {x:Ins.I} {s':T} (h:Sz K n s) (hs:flow E x s = .ok s'):Sz K (n + K) s':=by
 unfold flow at hs
 split at hs
 ·unfold br at hs;split at hs
  ·cases hs
  ·exact eu h hs
 ·split at hs
  ·unfold brIf at hs;split at hs
   ·cases hs
   ·next l hl =>
    split at hs
    ·exact aY (co h _) (sz_label h hl) hs
    ·cases hs
  ·split at hs
   ·unfold brTable at hs;split at hs
    ·cases hs
    ·split at hs
     ·split at hs
      ·exact eu (co h _) hs
      ·cases hs
     ·cases hs
   ·split at hs
    ·exact eu h hs
    ·split at hs
     ·exact eu h hs
     ·split at hs
      ·unfold call at hs;split at hs
       ·cases hs
       ·next t ht=>exact aY h (hE.func _ t ht) hs
      ·split at hs
       ·unfold callI at hs;split at hs
        ·cases hs
        ·next t ht =>
         split at hs
         ·split at hs
          ·exact aY (co h _) (hE.typ _ t ht) hs
          ·cases hs
         ·cases hs
       ·exact sz_vari hE h hs
theorem sz_one {b:Bool} {x:Ins.I} {s':T} (h:Sz K n s) (hs:one E b x s = .ok s'):Sz K (n + K) s':=by
 have h2:=hE.two
 have he:∀ a,(ends a).length ≤ K:=fun a=>by have:=ends_len a;omega
 unfold one at hs
 split at hs
 ·unfold block at hs
  split at hs
  ·split at hs
   ·injection hs with hs;subst hs;exact sz_op (co h _) (he _) (he _) h2
   ·cases hs
  ·injection hs with hs;subst hs
   refine sz_op h ?_ (he _) h2
   split
   ·simp
   ·exact he _
 ·split at hs
  ·unfold other at hs
   split at hs
   ·cases hs
   ·next e hc =>
    injection hs with hs;subst hs
    obtain ⟨q1,q2⟩:=sz_close h hc
    exact sz_op q1 q2 q2 h2
  ·split at hs
   ·unfold fin at hs
    split at hs
    ·cases hs
    ·next e hc =>
     obtain ⟨q1,q2⟩:=sz_close h hc
     split at hs
     ·cases hs
     ·injection hs with hs;subst hs;exact gq q1 q2
   ·exact sz_flow hE h hs
end
end
def lift (f0:Fr) (s:T):T:=⟨s.ops,f0 :: s.frs,s.most⟩
section
variable {f0:Fr} {s:T}
theorem fx (l:List UInt8):(lift f0 s).push l = lift f0 (s.push l):=rfl
theorem bK (h:s.frs ≠ []):(lift f0 s).last = s.last:=by
 unfold T.last lift
 cases hf:s.frs with
 | nil=>exact absurd hf h
 | cons x xs=>rfl
theorem fy (h:s.frs ≠ []) (l:List UInt8):(lift f0 s).wout l = s.wout l:=by
 unfold T.wout
 rw [bK h]
 rfl
theorem bj (h:s.frs ≠ []) (l:List UInt8):(lift f0 s).wantA l = s.wantA l:=by
 unfold T.wantA
 rw [fy h]
theorem bw (h:s.frs ≠ []) (l:List UInt8):(lift f0 s).want l = lift f0 (s.want l):=by
 unfold T.want
 rw [fy h]
 cases s.wout l <;> rfl
theorem d7 (h:s.frs ≠ []):(lift f0 s).popA = s.popA:=by
 unfold T.popA
 rw [bK h]
 rfl
theorem eF (h:s.frs ≠ []):(lift f0 s).pop = lift f0 s.pop:=by
 unfold T.pop
 rw [bK h]
 cases s.last with
 | none=>rfl
 | some f =>
  dsimp only
  have e:(lift f0 s).ops = s.ops:=rfl
  rw [e]
  split <;> rfl
theorem cD (h:s.frs ≠ []):(lift f0 s).closeA = s.closeA:=by
 unfold T.closeA
 rw [bK h]
 rfl
theorem fw (h:s.frs ≠ []):(f0 :: s.frs).dropLast = f0 :: s.frs.dropLast:=by
 cases hf:s.frs with
 | nil=>exact absurd hf h
 | cons x xs=>rfl
theorem dj (h:s.frs ≠ []):(lift f0 s).close = lift f0 s.close:=by
 unfold T.close
 rw [bK h]
 cases s.last with
 | none=>rfl
 | some f =>
  dsimp only
  have e:(lift f0 s).ops = s.ops:=rfl
  rw [e]
  cases without s.ops f f.ends with
  | none=>rfl
  | some n =>
   dsimp only
   split
   ·unfold lift
    dsimp only
    rw [fw h]
   ·rfl
theorem lift_kill (h:s.frs ≠ []):(lift f0 s).kill = lift f0 s.kill:=by
 unfold T.kill
 rw [bK h]
 cases s.last with
 | none=>rfl
 | some f =>
  dsimp only
  unfold lift
  dsimp only
  rw [fw h]
  rfl
theorem cj {n:Nat} {l:List UInt8} (h:s.labelA n = some l):(lift f0 s).labelA n = some l:=by
 unfold T.labelA at h ⊢
 rw [Option.map_eq_some_iff] at h
 obtain ⟨f,hf,rfl⟩:=h
 unfold lift
 dsimp only
 rw [List.reverse_cons,List.getElem?_append_left (List.getElem?_eq_some_iff.1 hf).1,hf]
 rfl
theorem bH (h:s.frs ≠ []) (l:List UInt8):(s.want l).frs ≠ []:=by rw [frs_want];exact h
theorem pop_frs (h:s.frs ≠ []):s.pop.frs ≠ []:=by rw [frs_pop];exact h
theorem aB (h:s.frs ≠ []) {a b:List UInt8} {s':T} (hs:turned s a b = .ok s'):turned (lift f0 s) a b = .ok (lift f0 s'):=by
 unfold turned at hs ⊢
 rw [bj h]
 split at hs
 ·next h1 =>
  injection hs with hs
  subst hs
  rw [if_pos h1,bw h,fx]
 ·cases hs
theorem cQ (h:s.frs ≠ []) {a:List UInt8} {s':T} (hs:goes s a = .ok s'):goes (lift f0 s) a = .ok (lift f0 s'):=by
 unfold goes at hs ⊢
 rw [bj h]
 split at hs
 ·next h1 =>
  injection hs with hs
  subst hs
  rw [if_pos h1,bw h,lift_kill (bH h a)]
 ·cases hs
theorem lift_memo {E:Env} {x:Ins.I} {s':T} (h:s.frs ≠ []) (hs:memo E x s = .ok s'):memo E x (lift f0 s) = .ok (lift f0 s'):=by
 unfold memo at hs ⊢
 split at hs
 ·next c1 =>
  rw [if_pos c1]
  unfold pages at hs ⊢
  split at hs
  ·next c=>rw [if_pos c];exact aB h hs
  ·cases hs
 ·next c1 =>
  rw [if_neg c1]
  split at hs
  ·next c2 =>
   rw [if_pos c2]
   unfold access at hs ⊢
   split at hs
   ·next c =>
    rw [if_pos c]
    split at hs
    ·cases hs
    ·next c3=>rw [if_neg c3];exact aB h hs
   ·cases hs
  ·next c2=>rw [if_neg c2];exact aB h hs
theorem lift_vari {E:Env} {x:Ins.I} {s':T} (h:s.frs ≠ []) (hs:vari E x s = .ok s'):vari E x (lift f0 s) = .ok (lift f0 s'):=by
 unfold vari at hs ⊢
 split at hs
 ·next c1 =>
  rw [if_pos c1]
  unfold drop at hs ⊢
  rw [d7 h]
  split at hs
  ·next c=>injection hs with hs;subst hs;rw [if_pos c,eF h]
  ·cases hs
 ·next c1 =>
  rw [if_neg c1]
  split at hs
  ·next c2 =>
   rw [if_pos c2]
   unfold choose at hs ⊢
   rw [bj h,bw h,d7 (bH h _),eF (bH h _),d7 (pop_frs (bH h _)),eF (pop_frs (bH h _))]
   split at hs
   ·next c =>
    rw [if_pos c]
    split at hs
    ·next c3=>injection hs with hs;subst hs;rw [if_pos c3];rfl
    ·cases hs
   ·cases hs
  ·next c2 =>
   rw [if_neg c2]
   split at hs
   ·next c3 =>
    rw [if_pos c3]
    unfold locl at hs ⊢
    split at hs
    ·cases hs
    ·next t ht =>
     (try rw [ht])
     (try dsimp only)
     split at hs
     ·next c=>rw [if_pos c];exact aB h hs
     ·next c =>
      rw [if_neg c]
      split at hs
      ·next c=>rw [if_pos c];exact aB h hs
      ·next c=>rw [if_neg c];exact aB h hs
   ·next c3 =>
    rw [if_neg c3]
    split at hs
    ·next c4 =>
     rw [if_pos c4]
     unfold gget at hs ⊢
     split at hs
     ·cases hs
     ·next t ht=>(try rw [ht]);exact aB h hs
    ·next c4 =>
     rw [if_neg c4]
     split at hs
     ·next c5 =>
      rw [if_pos c5]
      unfold gset at hs ⊢
      split at hs
      ·cases hs
      ·next t ht =>
       (try rw [ht])
       (try dsimp only)
       split at hs
       ·next c=>rw [if_pos c];exact aB h hs
       ·cases hs
     ·next c5=>rw [if_neg c5];exact lift_memo h hs
theorem lift_flow {E:Env} {x:Ins.I} {s':T} (h:s.frs ≠ []) (hs:flow E x s = .ok s'):flow E x (lift f0 s) = .ok (lift f0 s'):=by
 unfold flow at hs ⊢
 split at hs
 ·next c1 =>
  rw [if_pos c1]
  unfold br at hs ⊢
  split at hs
  ·cases hs
  ·next l hl=>rw [cj hl];exact cQ h hs
 ·next c1 =>
  rw [if_neg c1]
  split at hs
  ·next c2 =>
   rw [if_pos c2]
   unfold brIf at hs ⊢
   split at hs
   ·cases hs
   ·next l hl =>
    rw [cj hl]
    dsimp only
    rw [bj h,bw h]
    split at hs
    ·next c=>rw [if_pos c];exact aB (bH h _) hs
    ·cases hs
  ·next c2 =>
   rw [if_neg c2]
   split at hs
   ·next c3 =>
    rw [if_pos c3]
    unfold brTable at hs ⊢
    split at hs
    ·cases hs
    ·next l hl =>
     rw [cj hl]
     dsimp only
     split at hs
     ·next c =>
      have hall:∀ k ∈ x.l,(lift f0 s).labelA k = s.labelA k:=fun k hk=>by
       have:=List.all_eq_true.1 c k hk
       obtain ⟨l',hl'⟩:=Option.isSome_iff_exists.1 this
       rw [hl',cj hl']
      have c':(x.l.all fun n=>((lift f0 s).labelA n).isSome) = true:=List.all_eq_true.2 fun k hk=>by rw [hall k hk];exact List.all_eq_true.1 c k hk
      rw [if_pos c']
      split at hs
      ·next d =>
       have d':(x.l.all fun n=>decide (((lift f0 s).labelA n).getD [] = l)) = true:=List.all_eq_true.2 fun k hk=>by rw [hall k hk];exact List.all_eq_true.1 d.1 k hk
       rw [bj h,bw h,if_pos ⟨d',d.2⟩]
       exact cQ (bH h _) hs
      ·cases hs
     ·cases hs
   ·next c3 =>
    rw [if_neg c3]
    split at hs
    ·next c4=>rw [if_pos c4];exact cQ h hs
    ·next c4 =>
     rw [if_neg c4]
     split at hs
     ·next c5=>rw [if_pos c5];exact cQ h hs
     ·next c5 =>
      rw [if_neg c5]
      split at hs
      ·next c6 =>
       rw [if_pos c6]
       unfold call at hs ⊢
       split at hs
       ·cases hs
       ·next t ht=>(try rw [ht]);exact aB h hs
      ·next c6 =>
       rw [if_neg c6]
       split at hs
       ·next c7 =>
        rw [if_pos c7]
        unfold callI at hs ⊢
        split at hs
        ·cases hs
        ·next t ht =>
         (try rw [ht])
         (try dsimp only)
         rw [bj h,bw h]
         split at hs
         ·next c =>
          rw [if_pos c]
          split at hs
          ·next c=>rw [if_pos c];exact aB (bH h _) hs
          ·cases hs
         ·cases hs
       ·next c7=>rw [if_neg c7];exact lift_vari h hs
theorem lift_one {E:Env} {b:Bool} {x:Ins.I} {s':T} (h:s.frs ≠ []) (hs:one E b x s = .ok s'):one E b x (lift f0 s) = .ok (lift f0 s'):=by
 unfold one at hs ⊢
 split at hs
 ·next c1 =>
  rw [if_pos c1]
  unfold block at hs ⊢
  rw [bj h,bw h]
  split at hs
  ·next c =>
   rw [if_pos c]
   split at hs
   ·next c=>injection hs with hs;subst hs;rw [if_pos c];rfl
   ·cases hs
  ·next c=>injection hs with hs;subst hs;rw [if_neg c];rfl
 ·next c1 =>
  rw [if_neg c1]
  split at hs
  ·next c2 =>
   rw [if_pos c2]
   unfold other at hs ⊢
   rw [cD h,dj h]
   split at hs
   ·cases hs
   ·next e he=>injection hs with hs;subst hs;(try rw [he]);rfl
  ·next c2 =>
   rw [if_neg c2]
   split at hs
   ·next c3 =>
    rw [if_pos c3]
    unfold fin at hs ⊢
    rw [cD h,dj h]
    split at hs
    ·cases hs
    ·next e he =>
     (try rw [he])
     (try dsimp only)
     split at hs
     ·cases hs
     ·next c=>injection hs with hs;subst hs;rw [if_neg c];rfl
   ·next c3=>rw [if_neg c3];exact lift_flow h hs
end
theorem step_length' {o o':List Bool} {op:Nat} (h:Ins.step o op = some o'):o'.length ≤ o.length + 1:=by
 obtain ⟨l1,l2,l3,l4⟩:=cK h
 by_cases c:op = 2 ∨ op = 3 ∨ op = 4
 ·rw [l1 c];omega
 ·by_cases c2:op = 5
  ·rw [(l2 c2).1];omega
  ·by_cases c3:op = 11
   ·have:=l3 c3;omega
   ·rw [l4 c c2 c3];omega
theorem fP {o o':List Bool} {op:Nat} (h:Ins.step o op = some o'):Ins.step (false :: o) op = some (false :: o'):=by
 unfold Ins.step at h ⊢
 split at h
 ·next h1=>injection h with h;subst h;rw [if_pos h1];rfl
 ·next h1 =>
  rw [if_neg h1]
  split at h
  ·next h2=>injection h with h;subst h;rw [if_pos h2];rfl
  ·next h2 =>
   rw [if_neg h2]
   split at h
   ·next h3 =>
    rw [if_pos h3]
    split at h
    ·next h4 =>
     injection h with h;subst h
     cases o with
     | nil=>simp at h4
     | cons y ys=>rw [if_pos (by rw [List.getLast?_cons_cons];exact h4)];rfl
    ·cases h
   ·next h3 =>
    rw [if_neg h3]
    split at h
    ·next h4 =>
     rw [if_pos h4]
     split at h
     ·cases h
     ·next h5 =>
      injection h with h;subst h
      cases o with
      | nil=>exact absurd rfl h5
      | cons y ys=>rw [if_neg (by simp)];rfl
    ·next h4=>injection h with h;subst h;rw [if_neg h4]
theorem dp:∀ (xs:List Ins.I) (o o':List Bool),Ins.steps o xs = some o' → Ins.steps (false :: o) xs = some (false :: o')
 | [],o,o',h=>by
  rw [Ins.steps] at h ⊢
  injection h with h
  subst h
  rfl
 | x :: xs,o,o',h=>by
  rw [Ins.steps] at h ⊢
  split at h
  ·cases h
  ·next o1 h1 =>
   rw [fP h1]
   exact dp xs o1 o' h
theorem isIf_more (o:List Bool):isIf (false :: o) = isIf o:=by
 cases o with
 | nil=>rfl
 | cons y ys=>unfold isIf;rw [List.getLast?_cons_cons]
theorem run_lift {E:Env} {f0:Fr}:∀ (xs:List Ins.I) (o:List Bool) (s s':T),Sh E.res o.length s → run E o xs s = .ok s' → run E (false :: o) xs (lift f0 s) = .ok (lift f0 s')
 | [],o,s,s',_,h=>by
  rw [run] at h ⊢
  injection h with h
  subst h
  rfl
 | x :: xs,o,s,s',hh,h=>by
  rw [run] at h ⊢
  split at h
  ·cases h
  ·next s1 h1 =>
   split at h
   ·cases h
   ·next o1 ho =>
    rw [isIf_more,lift_one (sh_frs hh) h1]
    dsimp only
    rw [fP ho]
    exact run_lift xs o1 s1 s' (sh_one hh h1 ho) h
theorem run_sh {E:Env}:∀ (xs:List Ins.I) (o o':List Bool) (s s':T),Sh E.res o.length s → Ins.steps o xs = some o' → run E o xs s = .ok s' → Sh E.res o'.length s'
 | [],o,o',s,s',hh,hs,h=>by
  rw [run] at h
  rw [Ins.steps] at hs
  injection h with h
  injection hs with hs
  subst h hs
  exact hh
 | x :: xs,o,o',s,s',hh,hs,h=>by
  rw [run] at h
  rw [Ins.steps] at hs
  split at h
  ·cases h
  ·next s1 h1 =>
   split at h
   ·cases h
   ·next o1 ho =>
    rw [ho] at hs
    exact run_sh xs o1 o' s1 s' (sh_one hh h1 ho) hs h
def blk (t:Nat):Ins.I:=⟨2,t,0,0,[]⟩
def endI:Ins.I:=⟨11,0,0,0,[]⟩
theorem exprB_parts {xs:List Ins.I} (h:Ins.exprB xs = true):xs.all Ins.may = true ∧ Ins.steps [] xs = some []:=by
 unfold Ins.exprB at h
 rw [Bool.and_eq_true,beq_iff_eq] at h
 exact h
theorem exprB_block {xs:List Ins.I} {t:Nat} (h:Ins.exprB xs = true) (ht:Ins.blockB t = true):Ins.exprB (blk t :: (xs ++ [endI])) = true:=by
 obtain ⟨h1,h2⟩:=exprB_parts h
 unfold Ins.exprB
 rw [Bool.and_eq_true,beq_iff_eq]
 refine ⟨?_,?_⟩
 ·rw [List.all_cons,List.all_append,h1]
  have e1:Ins.may (blk t) = true:=by
   unfold Ins.may Ins.mayF blk
   rw [show Opc.known ((2:Nat):Int) = true by decide,show Opc.form ((2:Nat):Int) = 1 by decide]
   simp [ht,Ins.hasA]
  rw [e1]
  decide
 ·have e:Ins.steps [] (blk t :: (xs ++ [endI])) = Ins.steps [false] (xs ++ [endI]):=rfl
  rw [e,Ins.steps_append _ _ _ _ (dp xs [] [] h2)]
  rfl
theorem fitAll_self (l:List UInt8):Ty.fitAll l l = true:=by
 refine fit_yes fun i hi hl=>?_
 unfold fit
 simp
theorem closeA_res (res:List UInt8) (m:Nat):(⟨res,[⟨res,res,0,false⟩],m⟩:T).closeA = some res:=by
 unfold T.closeA
 rw [last_of (i:=[]) (f:=⟨res,res,0,false⟩) rfl]
 dsimp only
 have e:without res ⟨res,res,0,false⟩ res = some 0:=by
  unfold without
  dsimp only
  rw [if_neg (by omega),List.drop_zero,if_pos (fitAll_self res)]
  simp
 rw [e]
 dsimp only
 rw [if_pos (Nat.le_refl _)]
theorem chk_block {E:Env} {lb:Bool} {xs:List Ins.I} {h t:Nat} (hc:chk E lb xs = .ok h) (ht:Ins.blockB t = true) (he:ends t = E.res):chk E lb (blk t :: (xs ++ [endI])) = .ok (max h E.res.length):=by
 obtain ⟨h1,h2,s,h3,h4,h5⟩:=chk_parts hc
 have hst:=(exprB_parts h1).2
 have hsh:=run_sh xs [] [] _ s (sh_new E.res) hst h3
 obtain ⟨e,hce⟩:=Option.isSome_iff_exists.1 h4
 obtain ⟨i,f,n,hf,hw,hle,rfl,hcl⟩:=closeA_some hce
 obtain ⟨_,hmost,f',r,hfr,q1,q2,q3,q4⟩:=hsh
 have hi:i = [] ∧ f = f':=by
  rw [hf] at hfr
  cases i with
  | nil=>injection hfr with e1 e2;exact ⟨rfl,e1⟩
  | cons y ys =>
   injection hfr with e1 e2
   subst e2
   simp at q4
 obtain ⟨rfl,rfl⟩:=hi
 have hl:=run_lift (f0:=⟨E.res,E.res,0,false⟩) xs [] _ s (sh_new E.res) h3
 have hb:one E (isIf []) (blk t) (T.new E.res) = .ok (lift ⟨E.res,E.res,0,false⟩ (T.new E.res)):=by
  have e:one E (isIf []) (blk t) (T.new E.res) = .ok ((T.new E.res).op (ends t) (ends t)):=rfl
  rw [e,he]
  rfl
 obtain ⟨o',ho',hr⟩:=eN xs [endI] [false] _ _ hl
 have ho2:o' = [false]:=by
  have:=dp xs [] [] hst
  rw [this] at ho'
  injection ho' with ho'
  exact ho'.symm
 subst ho2
 have hne:s.frs ≠ []:=by rw [hf];simp
 have hend:one E (isIf [false]) endI (lift ⟨E.res,E.res,0,false⟩ s) = .ok (lift ⟨E.res,E.res,0,false⟩ (s.close.push E.res)):=by
  have e:one E (isIf [false]) endI (lift ⟨E.res,E.res,0,false⟩ s) = fin false (lift ⟨E.res,E.res,0,false⟩ s):=rfl
  rw [e]
  unfold fin
  rw [cD hne,hce,q2]
  dsimp only
  rw [if_neg (by simp),dj hne,fx]
 have hn0:n = 0:=by omega
 have hcp:lift ⟨E.res,E.res,0,false⟩ (s.close.push E.res) = ⟨E.res,[⟨E.res,E.res,0,false⟩],max h E.res.length⟩:=by
  rw [hcl,hn0]
  unfold lift T.push
  simp [h5]
 unfold chk
 rw [if_pos (exprB_block h1 ht),if_pos h2,run,hb]
 have hstep:Ins.step [] (blk t).op = some [false]:=rfl
 rw [hstep]
 dsimp only
 rw [hr,run,hend]
 have hstep2:Ins.step [false] endI.op = some []:=rfl
 rw [hstep2]
 dsimp only
 rw [run]
 dsimp only
 rw [hcp,closeA_res]
 rfl
def ret:Ins.I:=⟨15,0,0,0,[]⟩
def eNum (m:Nat):Prop:=m = 80 ∨ m = 100 ∨ m = 101
theorem aW {s:T} {a b:List UInt8} {m:Nat} (h:turned s a b = .error m):eNum m:=by
 unfold turned at h
 split at h
 ·cases h
 ·injection h with h;subst h;exact .inr (.inl rfl)
theorem fZ {s:T} {a:List UInt8} {m:Nat} (h:goes s a = .error m):eNum m:=by
 unfold goes at h
 split at h
 ·cases h
 ·injection h with h;subst h;exact .inr (.inl rfl)
section
variable {E:Env} {x:Ins.I} {s:T} {m:Nat}
theorem e_memo (h:memo E x s = .error m):eNum m:=by
 unfold memo at h
 split at h
 ·unfold pages at h;split at h
  ·exact aW h
  ·injection h with h;subst h;exact .inl rfl
 ·split at h
  ·unfold access at h;split at h
   ·split at h
    ·injection h with h;subst h;exact .inr (.inl rfl)
    ·exact aW h
   ·injection h with h;subst h;exact .inl rfl
  ·exact aW h
theorem e_vari (h:vari E x s = .error m):eNum m:=by
 unfold vari at h
 split at h
 ·unfold drop at h;split at h
  ·cases h
  ·injection h with h;subst h;exact .inr (.inl rfl)
 ·split at h
  ·unfold choose at h;split at h
   ·split at h
    ·cases h
    ·injection h with h;subst h;exact .inr (.inl rfl)
   ·injection h with h;subst h;exact .inr (.inl rfl)
  ·split at h
   ·unfold locl at h;split at h
    ·injection h with h;subst h;exact .inl rfl
    ·split at h
     ·exact aW h
     ·split at h
      ·exact aW h
      ·exact aW h
   ·split at h
    ·unfold gget at h;split at h
     ·injection h with h;subst h;exact .inl rfl
     ·exact aW h
    ·split at h
     ·unfold gset at h;split at h
      ·injection h with h;subst h;exact .inl rfl
      ·split at h
       ·exact aW h
       ·injection h with h;subst h;exact .inr (.inl rfl)
     ·exact e_memo h
theorem e_flow (h:flow E x s = .error m):eNum m:=by
 unfold flow at h
 split at h
 ·unfold br at h;split at h
  ·injection h with h;subst h;exact .inr (.inr rfl)
  ·exact fZ h
 ·split at h
  ·unfold brIf at h;split at h
   ·injection h with h;subst h;exact .inr (.inr rfl)
   ·split at h
    ·exact aW h
    ·injection h with h;subst h;exact .inr (.inl rfl)
  ·split at h
   ·unfold brTable at h;split at h
    ·injection h with h;subst h;exact .inr (.inr rfl)
    ·split at h
     ·split at h
      ·exact fZ h
      ·injection h with h;subst h;exact .inr (.inl rfl)
     ·injection h with h;subst h;exact .inr (.inr rfl)
   ·split at h
    ·exact fZ h
    ·split at h
     ·exact fZ h
     ·split at h
      ·unfold call at h;split at h
       ·injection h with h;subst h;exact .inl rfl
       ·exact aW h
      ·split at h
       ·unfold callI at h;split at h
        ·injection h with h;subst h;exact .inl rfl
        ·split at h
         ·split at h
          ·exact aW h
          ·injection h with h;subst h;exact .inr (.inl rfl)
         ·injection h with h;subst h;exact .inl rfl
       ·exact e_vari h
theorem e_one {b:Bool} (h:one E b x s = .error m):eNum m:=by
 unfold one at h
 split at h
 ·unfold block at h
  split at h
  ·split at h
   ·cases h
   ·injection h with h;subst h;exact .inr (.inl rfl)
  ·cases h
 ·split at h
  ·unfold other at h
   split at h
   ·injection h with h;subst h;exact .inr (.inl rfl)
   ·cases h
  ·split at h
   ·unfold fin at h
    split at h
    ·injection h with h;subst h;exact .inr (.inl rfl)
    ·split at h
     ·injection h with h;subst h;exact .inr (.inl rfl)
     ·cases h
   ·exact e_flow h
end
theorem close_most {s:T} {e:List UInt8} (h:s.closeA = some e):s.close.most = s.most:=by
 obtain ⟨i,f,n,_,_,_,_,hc⟩:=closeA_some h
 rw [hc]
theorem run_at {E:Env} {xs:List Ins.I} {j:Nat} {x:Ins.I} {o:List Bool} {s:T} (hx:xs[j]? = some x):run E o (xs.drop j) s = match one E (isIf o) x s with
  | .error e=>.error e
  | .ok s'=>match Ins.step o x.op with
   | none=>.error 0
   | some o'=>run E o' (xs.drop (j + 1)) s':=by
 obtain ⟨hj,e⟩:=List.getElem?_eq_some_iff.1 hx
 rw [List.drop_eq_getElem_cons hj,e,run]
 try rfl
theorem sz_new {K:Nat} {res:List UInt8} (h:res.length ≤ K) (h2:2 ≤ K):Sz K (K * (0 + 1)) (T.new res) :=
 ⟨by simp [T.new,T.op,T.start],by simp [T.new,T.op,T.start],by simp [T.new,T.op,T.start];omega,fun f hf=>by
  simp [T.new,T.op,T.start] at hf
  subst hf
  exact ⟨h,h⟩⟩
end Bo
namespace Ty
def T.top (s:T):Prop:=s.ops.length ≤ s.most
def fitTo (own l:List UInt8) (j:Nat):Bool:=((own.reverse.zip l.reverse).take j).all fun p=>fit p.1 p.2
theorem fitTo_zero (own l:List UInt8):fitTo own l 0 = true:=by simp [fitTo]
theorem fitTo_next {own l:List UInt8} (j:Nat) (hi:j < own.length) (hl:j < l.length):fitTo own l (j + 1) = (fitTo own l j && fit own[own.length - 1 - j] l[l.length - 1 - j]):=by
 unfold fitTo
 rw [List.take_add_one,fit_at j hi hl]
 simp
theorem fitTo_all {own l:List UInt8} (j:Nat) (h:j = min own.length l.length):fitTo own l j = fitAll own l:=by
 unfold fitTo fitAll
 rw [List.take_of_length_le (by simp;omega)]
end Ty
