/-
  Plain mathematics of numbers of variable length, over lists of bytes: how many bytes a number has, what they come to, unsigned.
-/
import Derived.Laws.BitsAllLaws
import Derived.IntWalk
import Derived.Lib.BitFns
import Derived.Test.YtmpelmihdpomjaaGreatSo01
set_option maxRecDepth 100000
set_option maxHeartbeats 4000000
namespace Leb
def run:List UInt8 → Nat
 | []=>0
 | b :: r=>if b.toNat < 128 then 1 else if run r = 0 then 0 else run r + 1
def val:List UInt8 → Nat
 | []=>0
 | b :: r=>b.toNat % 128 + 128 * val r
def used (l:List UInt8):Nat:=val (l.take (run l))
def big (l:List UInt8) (k:Nat):Prop:=∀ x ∈ l.take k,128 ≤ x.toNat
theorem run_at:∀ {l:List UInt8} {k:Nat} {x:UInt8},big l k → l[k]? = some x → x.toNat < 128 → run l = k + 1
 | [],_,_,_,h,_=>by simp at h
 | b :: r,0,x,_,h,hx=>by
  simp at h;subst h;unfold run;rw [if_pos hx]
 | b :: r,k + 1,x,hb,h,hx=>by
  have h1:128 ≤ b.toNat:=hb b (by simp)
  have h2:=run_at (l:=r) (k:=k) (x:=x) (fun y hy=>hb y (by simp [hy])) (by simpa using h) hx
  unfold run
  rw [if_neg (by omega),if_neg (by omega),h2]
def okU (l:List UInt8) (n:Int):Bool:=decide (1 ≤ n ∧ n ≤ 64 ∧ 1 ≤ run l ∧ 7 * ((run l:Int) - 1) < n ∧ (used l:Int) < 2 ^ n.toNat)
end Leb
namespace Leb
open Go Go.RowKit
def sused (l:List UInt8):Int:=if 2 * used l < 128 ^ run l then (used l:Int) else (used l:Int) - (128 ^ run l:Nat)
def okS (l:List UInt8) (n:Int):Bool:=decide (1 ≤ n ∧ n ≤ 64 ∧ 1 ≤ run l ∧ 7 * ((run l:Int) - 1) < n ∧ -(2 ^ (n - 1).toNat) ≤ sused l ∧ sused l < 2 ^ (n - 1).toNat)
def top (x:Nat):Int:=if x < 64 then (x:Int) else (x:Int) - 128
theorem ofInt_any (b:Int):(BitVec.ofInt 64 b).toNat = (b % 18446744073709551616).toNat:=by
 rw [BitVec.toNat_ofInt];rfl
def encU (n:Nat):List UInt8:=if n < 128 then [UInt8.ofNat n] else UInt8.ofNat (n % 128 + 128) :: encU (n / 128)
termination_by n
theorem encU_small {n:Nat} (h:n < 128):encU n = [UInt8.ofNat n]:=by rw [encU,if_pos h]
theorem encU_big {n:Nat} (h:128 ≤ n):encU n = UInt8.ofNat (n % 128 + 128) :: encU (n / 128):=by rw [encU,if_neg (by omega)]
theorem byte_of (x:Nat) (h:x < 256):(UInt8.ofNat x).toNat = x:=by
 rw [UInt8.toNat_ofNat'];exact Nat.mod_eq_of_lt h
theorem encU_pos (n:Nat):1 ≤ (encU n).length:=by
 rw [encU];split <;> simp
theorem encU_le:∀ (k n:Nat),1 ≤ k → n < 2 ^ (7 * k) → (encU n).length ≤ k
 | 0,_,h,_=>by omega
 | k + 1,n,_,hn=>by
  by_cases h:n < 128
  ·rw [encU_small h];simp
  ·rw [encU_big (by omega)]
   have h1:n / 128 < 2 ^ (7 * k):=by
    rw [Nat.div_lt_iff_lt_mul (by decide)]
    rw [Nat.mul_add,Nat.pow_add] at hn
    exact hn
   have hk:1 ≤ k:=by
    rcases Nat.eq_zero_or_pos k with h0 | h0
    ·subst h0;simp at hn;omega
    ·exact h0
   have:=encU_le k (n / 128) hk h1
   simp;omega
theorem encU_le10 (n:Nat) (h:n < 18446744073709551616):(encU n).length ≤ 10 :=
 encU_le 10 n (by decide) (Nat.lt_of_lt_of_le h (by decide))
def encS (n:Int):List UInt8:=if -64 ≤ n ∧ n ≤ 63 then [UInt8.ofNat (n % 128).toNat] else UInt8.ofNat ((n % 128).toNat + 128) :: encS (n / 128)
termination_by n.natAbs
decreasing_by omega
theorem encS_small {n:Int} (h:-64 ≤ n ∧ n ≤ 63):encS n = [UInt8.ofNat (n % 128).toNat]:=by rw [encS,if_pos h]
theorem encS_big {n:Int} (h:¬ (-64 ≤ n ∧ n ≤ 63)):encS n = UInt8.ofNat ((n % 128).toNat + 128) :: encS (n / 128):=by rw [encS,if_neg h]
theorem encS_pos (n:Int):1 ≤ (encS n).length:=by
 rw [encS];split <;> simp
theorem encS_le:∀ (k:Nat) (n:Int),-(64 * 128 ^ k:Nat) ≤ n → n < (64 * 128 ^ k:Nat) → (encS n).length ≤ k + 1
 | 0,n,h1,h2=>by
  rw [encS_small (by simp at h1 h2;omega)];simp
 | k + 1,n,h1,h2=>by
  by_cases h:-64 ≤ n ∧ n ≤ 63
  ·rw [encS_small h];simp
  ·rw [encS_big h]
   rw [Nat.pow_succ,← Nat.mul_assoc] at h1 h2
   have:=encS_le k (n / 128) (by omega) (by omega)
   simp;omega
theorem encS_le10 (n:Int) (h0:-9223372036854775808 ≤ n) (h1:n ≤ 9223372036854775807):(encS n).length ≤ 10:=by
 have e:(64 * 128 ^ 9:Nat) = 590295810358705651712:=by decide
 exact encS_le 9 n (by rw [e];omega) (by rw [e];omega)
def sval (l:List UInt8):Int:=if 2 * val l < 128 ^ l.length then (val l:Int) else (val l:Int) - (128 ^ l.length:Nat)
def num (l:List UInt8) (sg:Bool):Int:=if sg = true then sval l else (val l:Int)
def pre:Int → Nat → List UInt8
 | _,0=>[]
 | x,k + 1=>UInt8.ofNat ((x % 128).toNat + 128) :: pre (x / 128) k
def inS (N:Int) (n:Nat):Prop:=-(64 * 128 ^ (n - 1)) ≤ N ∧ N < 64 * 128 ^ (n - 1)
end Leb
namespace Ty
structure Fr where
 label:List UInt8
 ends:List UInt8
 h:Nat
 dead:Bool
structure T where
 ops:List UInt8
 frs:List Fr
 most:Nat
def fit (a b:UInt8):Bool:=a == b || (a == 0 || b == 0)
def fitAll (own l:List UInt8):Bool:=(own.reverse.zip l.reverse).all fun p=>fit p.1 p.2
def without (ops:List UInt8) (f:Fr) (l:List UInt8):Option Nat :=
 if ops.length - f.h < l.length ∧ f.dead = false then none
 else if fitAll (ops.drop f.h) l = true then some (ops.length - min (ops.length - f.h) l.length) else none
def T.last (s:T):Option Fr:=s.frs.getLast?
def T.start:T:=⟨[],[],0⟩
def T.push (s:T) (l:List UInt8):T:=⟨s.ops ++ l,s.frs,max s.most (s.ops.length + l.length)⟩
def T.op (s:T) (a b:List UInt8):T:=⟨s.ops,s.frs ++ [⟨a,b,s.ops.length,false⟩],s.most⟩
def T.new (e:List UInt8):T:=T.start.op e e
def T.popA (s:T):UInt8 × Bool :=
 match s.last with
 | none=>(0,false)
 | some f=>if s.ops.length ≤ f.h then (0,f.dead) else (s.ops.getLast?.getD 0,true)
def T.pop (s:T):T :=
 match s.last with
 | none=>s
 | some f=>if s.ops.length ≤ f.h then s else ⟨s.ops.dropLast,s.frs,s.most⟩
def T.wout (s:T) (l:List UInt8):Option Nat :=
 match s.last with
 | none=>none
 | some f=>without s.ops f l
def T.wantA (s:T) (l:List UInt8):Bool:=(s.wout l).isSome
def T.cutTo (s:T) (n:Nat):T:=⟨s.ops.take n,s.frs,s.most⟩
def T.want (s:T) (l:List UInt8):T :=
 match s.wout l with
 | none=>s
 | some n=>s.cutTo n
def T.closeA (s:T):Option (List UInt8) :=
 match s.last with
 | none=>none
 | some f=>match without s.ops f f.ends with
  | none=>none
  | some n=>if n ≤ f.h then some f.ends else none
def T.close (s:T):T :=
 match s.last with
 | none=>s
 | some f=>match without s.ops f f.ends with
  | none=>s
  | some n=>if n ≤ f.h then ⟨s.ops.take n,s.frs.dropLast,s.most⟩ else s
def T.kill (s:T):T :=
 match s.last with
 | none=>s
 | some f=>⟨s.ops.take f.h,s.frs.dropLast ++ [⟨f.label,f.ends,f.h,true⟩],s.most⟩
def T.labelA (s:T) (n:Nat):Option (List UInt8):=(s.frs.reverse[n]?).map (·.label)
def T.ok (s:T):Prop:=(∀ f ∈ s.frs,f.h ≤ s.ops.length) ∧ s.frs.Pairwise fun a b=>a.h ≤ b.h
theorem last_nil {s:T} (h:s.frs = []):s.last = none:=by unfold T.last;rw [h];rfl
theorem last_of {s:T} {i:List Fr} {f:Fr} (h:s.frs = i ++ [f]):s.last = some f:=by unfold T.last;rw [h];simp
theorem parts (s:T):s.frs = [] ∨ ∃ i f,s.frs = i ++ [f]:=by
 rcases List.eq_nil_or_concat s.frs with h | ⟨i,f,h⟩
 ·exact .inl h
 ·exact .inr ⟨i,f,by simpa using h⟩
theorem ok_start:T.start.ok:=⟨fun f h=>by simp [T.start] at h,by simp [T.start]⟩
theorem ok_push {s:T} (h:s.ok) (l:List UInt8):(s.push l).ok:=⟨fun f hf=>by have:=h.1 f hf;simp [T.push];omega,h.2⟩
theorem ok_op {s:T} (h:s.ok) (a b:List UInt8):(s.op a b).ok:=by
 refine ⟨fun f hf=>?_,?_⟩
 ·simp [T.op] at hf ⊢
  rcases hf with hf | rfl
  ·exact h.1 f hf
  ·exact Nat.le_refl _
 ·simp only [T.op,List.pairwise_append]
  exact ⟨h.2,by simp,fun a ha b hb=>by simp at hb;subst hb;exact h.1 a ha⟩
theorem ok_new (e:List UInt8):(T.new e).ok:=ok_op ok_start e e
theorem last_h {s:T} (h:s.ok) {i:List Fr} {f:Fr} (hf:s.frs = i ++ [f]):f.h ≤ s.ops.length:=h.1 f (by rw [hf];simp)
theorem below_last {s:T} (h:s.ok) {i:List Fr} {f:Fr} (hf:s.frs = i ++ [f]):∀ g ∈ s.frs,g.h ≤ f.h:=fun g hg=>by
 have h2:=h.2
 rw [hf,List.pairwise_append] at h2
 rw [hf] at hg
 rcases List.mem_append.1 hg with hg | hg
 ·exact h2.2.2 g hg f (by simp)
 ·simp at hg;subst hg;exact Nat.le_refl _
theorem fp {s:T} (h:s.ok) {i:List Fr} {f:Fr} (hf:s.frs = i ++ [f]) (n:Nat) (hn:f.h ≤ n):(s.cutTo n).ok:=⟨fun g hg=>by
 have h1:=below_last h hf g hg
 have h2:=h.1 g hg
 simp [T.cutTo];omega,h.2⟩
theorem without_ge {ops:List UInt8} {f:Fr} {l:List UInt8} {n:Nat} (hf:f.h ≤ ops.length) (h:without ops f l = some n):f.h ≤ n ∧ n ≤ ops.length:=by
 unfold without at h
 split at h
 ·cases h
 ·split at h
  ·injection h with h;omega
  ·cases h
theorem ok_pop {s:T} (h:s.ok):s.pop.ok:=by
 rcases parts s with hn | ⟨i,f,hf⟩
 ·unfold T.pop;rw [last_nil hn];exact h
 ·unfold T.pop;rw [last_of hf]
  dsimp only
  split
  ·exact h
  ·next hl =>
   have:=fp h hf (s.ops.length - 1) (by omega)
   unfold T.cutTo at this
   rwa [← List.dropLast_eq_take] at this
theorem ok_want {s:T} (h:s.ok) (l:List UInt8):(s.want l).ok:=by
 unfold T.want T.wout
 rcases parts s with hn | ⟨i,f,hf⟩
 ·rw [last_nil hn];exact h
 ·rw [last_of hf]
  dsimp only
  cases hw:without s.ops f l with
  | none=>exact h
  | some n=>exact fp h hf n (without_ge (last_h h hf) hw).1
theorem ok_close {s:T} (h:s.ok):s.close.ok:=by
 unfold T.close
 rcases parts s with hn | ⟨i,f,hf⟩
 ·rw [last_nil hn];exact h
 ·rw [last_of hf]
  dsimp only
  cases hw:without s.ops f f.ends with
  | none=>exact h
  | some n =>
   dsimp only
   split
   ·next hle =>
    have hc:=fp h hf n (without_ge (last_h h hf) hw).1
    refine ⟨fun g hg=>hc.1 g ((List.dropLast_sublist _).subset hg),?_⟩
    have h2:=h.2
    simp only [hf] at h2 ⊢
    rw [List.pairwise_append] at h2
    simpa using h2.1
   ·exact h
theorem ok_kill {s:T} (h:s.ok):s.kill.ok:=by
 unfold T.kill
 rcases parts s with hn | ⟨i,f,hf⟩
 ·rw [last_nil hn];exact h
 ·rw [last_of hf]
  dsimp only
  have hc:=fp h hf f.h (Nat.le_refl _)
  have h2:=h.2
  rw [hf,List.pairwise_append] at h2
  have hd:s.frs.dropLast = i:=by rw [hf];simp
  rw [hd]
  refine ⟨fun g hg=>?_,?_⟩
  ·simp at hg
   rcases hg with hg | rfl
   ·exact hc.1 g (by show g ∈ s.frs;rw [hf];simp [hg])
   ·exact hc.1 f (by show f ∈ s.frs;rw [hf];simp)
  ·simp only [List.pairwise_append]
   exact ⟨h2.1,by simp,fun a ha b hb=>by simp at hb;subst hb;exact h2.2.2 a ha f (by simp)⟩
theorem fit_at {own l:List UInt8} (i:Nat) (hi:i < own.length) (hl:i < l.length):(own.reverse.zip l.reverse)[i]? = some (own[own.length - 1 - i],l[l.length - 1 - i]):=by
 rw [List.getElem?_zip_eq_some]
 exact ⟨by rw [List.getElem?_reverse hi,List.getElem?_eq_getElem],by rw [List.getElem?_reverse hl,List.getElem?_eq_getElem]⟩
theorem fit_no {own l:List UInt8} (i:Nat) (hi:i < own.length) (hl:i < l.length) (h:fit own[own.length - 1 - i] l[l.length - 1 - i] = false):fitAll own l = false:=by
 unfold fitAll
 rw [List.all_eq_false]
 exact ⟨_,List.mem_of_getElem? (fit_at i hi hl),by simp [h]⟩
end Ty
namespace Ins
open Leb
structure I where
 op:Nat
 a:Nat
 b:Nat
 c:Int
 l:List Nat
deriving DecidableEq
def I.wf (x:I):Prop:=x.op < 256 ∧ x.a < 4294967296 ∧ x.b < 4294967296 ∧ -9223372036854775808 ≤ x.c ∧ x.c ≤ 9223372036854775807 ∧ ∀ n ∈ x.l,n < 4294967296
def blockB (a:Nat):Bool:=a == 64 || a == 127 || a == 126
def hasA (f:Int):Bool:=f == 1 || f == 2 || f == 3 || f == 4 || f == 5 || f == 6
def in32 (c:Int):Bool:=decide (-2147483648 ≤ c) && decide (c ≤ 2147483647)
def mayF (f:Int) (x:I):Bool :=
 (x.a == 0 || hasA f) && (x.b == 0 || f == 6) && (x.c == 0 || (f == 8 || f == 9)) && (x.l.isEmpty || f == 3) && (f != 1 || blockB x.a) && (f != 8 || in32 x.c)
def may (x:I):Bool:=Opc.known x.op && mayF (Opc.form x.op) x
def labs (l:List Nat):List UInt8:=l.flatMap encU
def tailF (f:Int) (x:I):List UInt8 :=
 if f = 1 then [UInt8.ofNat x.a]
 else if f = 2 ∨ f = 4 then encU x.a
 else if f = 3 then encU x.l.length ++ labs x.l ++ encU x.a
 else if f = 5 then encU x.a ++ [0]
 else if f = 6 then encU x.a ++ encU x.b
 else if f = 7 then [0]
 else if f = 8 ∨ f = 9 then encS x.c
 else []
def enc (x:I):List UInt8:=UInt8.ofNat x.op :: tailF (Opc.form x.op) x
def encAll (xs:List I):List UInt8:=xs.flatMap enc
def exprEnc (xs:List I):List UInt8:=encAll xs ++ [11]
def rdNum (l:List UInt8):Except Nat (Nat × Nat):=if okU l 32 = true then .ok (used l,run l) else .error 60
def rdConst (l:List UInt8) (bits:Int):Except Nat (Int × Nat):=if okS l bits = true then .ok (sused l,run l) else .error 60
def rdByte (l:List UInt8):Except Nat (Nat × Nat):=match l with
 | []=>.error 60
 | x :: _=>.ok (x.toNat,1)
def rdZero (l:List UInt8):Except Nat Nat:=match rdByte l with
 | .error e=>.error e
 | .ok (x,k)=>if x = 0 then .ok k else .error 60
def rdBlock (l:List UInt8):Except Nat (Nat × Nat):=match rdByte l with
 | .error e=>.error e
 | .ok (x,k)=>if x = 125 ∨ x = 124 then .error 61 else if blockB x = true then .ok (x,k) else .error 60
def rdOp (l:List UInt8):Except Nat (Nat × Nat):=match rdByte l with
 | .error e=>.error e
 | .ok (x,k)=>if Opc.float x = true then .error 61 else if Opc.known x = true then .ok (x,k) else .error 60
def onto {α:Type} (xs:List α) (k:Nat) (r:Except Nat (List α × Nat)):Except Nat (List α × Nat):=match r with
 | .error e=>.error e
 | .ok (ys,m)=>.ok (xs ++ ys,k + m)
def rdMany:Nat → List UInt8 → Except Nat (List Nat × Nat)
 | 0,_=>.ok ([],0)
 | n + 1,l=>match rdNum l with
  | .error e=>.error e
  | .ok (x,k)=>onto [x] k (rdMany n (l.drop k))
def rdLabels (l:List UInt8):Except Nat (List Nat × Nat):=match rdNum l with
 | .error e=>.error e
 | .ok (n,k)=>onto [] k (rdMany n (l.drop k))
def rdF (f:Int) (op:Nat) (l:List UInt8):Except Nat (I × Nat) :=
 if f = 1 then match rdBlock l with
  | .error e=>.error e
  | .ok (a,k)=>.ok (⟨op,a,0,0,[]⟩,k)
 else if f = 2 ∨ f = 4 then match rdNum l with
  | .error e=>.error e
  | .ok (a,k)=>.ok (⟨op,a,0,0,[]⟩,k)
 else if f = 3 then match rdLabels l with
  | .error e=>.error e
  | .ok (xs,k)=>match rdNum (l.drop k) with
   | .error e=>.error e
   | .ok (a,m)=>.ok (⟨op,a,0,0,xs⟩,k + m)
 else if f = 5 then match rdNum l with
  | .error e=>.error e
  | .ok (a,k)=>match rdZero (l.drop k) with
   | .error e=>.error e
   | .ok m=>.ok (⟨op,a,0,0,[]⟩,k + m)
 else if f = 6 then match rdNum l with
  | .error e=>.error e
  | .ok (a,k)=>match rdNum (l.drop k) with
   | .error e=>.error e
   | .ok (b,m)=>.ok (⟨op,a,b,0,[]⟩,k + m)
 else if f = 7 then match rdZero l with
  | .error e=>.error e
  | .ok k=>.ok (⟨op,0,0,0,[]⟩,k)
 else if f = 8 then match rdConst l 32 with
  | .error e=>.error e
  | .ok (c,k)=>.ok (⟨op,0,0,c,[]⟩,k)
 else if f = 9 then match rdConst l 64 with
  | .error e=>.error e
  | .ok (c,k)=>.ok (⟨op,0,0,c,[]⟩,k)
 else .ok (⟨op,0,0,0,[]⟩,0)
def rdInstr (l:List UInt8):Except Nat (I × Nat):=match rdOp l with
 | .error e=>.error e
 | .ok (op,k)=>match rdF (Opc.form op) op (l.drop k) with
  | .error e=>.error e
  | .ok (x,m)=>.ok (x,k + m)
def step (o:List Bool) (op:Nat):Option (List Bool) :=
 if op = 2 ∨ op = 3 then some (o ++ [false])
 else if op = 4 then some (o ++ [true])
 else if op = 5 then (if o.getLast? = some true then some (o.dropLast ++ [false]) else none)
 else if op = 11 then (if o = [] then none else some o.dropLast)
 else some o
def steps:List Bool → List I → Option (List Bool)
 | o,[]=>some o
 | o,x :: xs=>match step o x.op with
  | none=>none
  | some o'=>steps o' xs
def rdExpr:Nat → List Bool → List UInt8 → Except Nat (List I × Nat)
 | 0,_,_=>.error 60
 | n + 1,o,l=>match rdInstr l with
  | .error e=>.error e
  | .ok (x,k)=>if x.op = 11 ∧ o = [] then .ok ([],k) else match step o x.op with
   | none=>.error 60
   | some o'=>onto [x] k (rdExpr n o' (l.drop k))
def exprB (xs:List I):Bool:=xs.all may && (steps [] xs == some [])
theorem byteNat (n:Nat) (h:n < 256):(UInt8.ofNat n).toNat = n:=byte_of n h
theorem blockB_lt {a:Nat} (h:blockB a = true):a < 256 ∧ ¬ (a = 125 ∨ a = 124):=by
 simp [blockB] at h;omega
theorem ej (n:Int):Opc.form n = 0 ∨ Opc.form n = 1 ∨ Opc.form n = 2 ∨ Opc.form n = 3 ∨ Opc.form n = 4 ∨ Opc.form n = 5 ∨ Opc.form n = 6 ∨ Opc.form n = 7 ∨ Opc.form n = 8 ∨ Opc.form n = 9:=by
 unfold Opc.form
 (repeat' split) <;> simp
def tot:List I → Nat
 | []=>0
 | x :: xs=>x.l.length + 5 + tot xs
theorem da:∀ (a b:List I),tot (a ++ b) = tot a + tot b
 | [],b=>by simp [tot]
 | x :: a,b=>by simp only [List.cons_append,tot,da a b];omega
theorem fF:∀ (xs:List I),5 * xs.length ≤ tot xs
 | []=>by simp [tot]
 | x :: xs=>by have:=fF xs;simp only [tot,List.length_cons];omega
theorem tot_take {xs:List I} {j:Nat} {x:I} (h:xs[j]? = some x):tot (xs.take (j + 1)) = tot (xs.take j) + (x.l.length + 5):=by
 rw [List.take_add_one,h,da];simp [tot]
theorem dR (xs:List I) (j:Nat):tot (xs.take j) ≤ tot xs:=by
 have h:=da (xs.take j) (xs.drop j)
 rw [List.take_append_drop] at h
 omega
theorem labs_le:∀ (q:List Nat),(∀ x ∈ q,x < 4294967296) → (labs q).length ≤ 10 * q.length
 | [],_=>by simp [labs]
 | x :: q,hq=>by
  have h1:=labs_le q (fun y hy=>hq y (by simp [hy]))
  have h2:=encU_le10 x (by have:=hq x (by simp);omega)
  have e:labs (x :: q) = encU x ++ labs q:=by simp [labs]
  rw [e,List.length_append,List.length_cons]
  omega
theorem enc_le (x:I) (hw:x.wf) (hl:x.l.length < 4294967296):(enc x).length ≤ 10 * (x.l.length + 5):=by
 obtain ⟨op,a,b,c,l⟩:=x
 obtain ⟨h1,h2,h3,h4,h5,h6⟩:=hw
 simp only at h1 h2 h3 h4 h5 h6 hl
 have ea:=encU_le10 a (by omega)
 have eb:=encU_le10 b (by omega)
 have ec:=encS_le10 c h4 h5
 have el:=encU_le10 l.length (by omega)
 have eL:=labs_le l h6
 simp only [enc,List.length_cons]
 rcases ej op with hf | hf | hf | hf | hf | hf | hf | hf | hf | hf <;> rw [hf] <;> simp [tailF] <;> omega
theorem ez (a b:List I):encAll (a ++ b) = encAll a ++ encAll b:=by simp [encAll]
theorem encAll_take {xs:List I} {j:Nat} {x:I} (h:xs[j]? = some x):encAll (xs.take (j + 1)) = encAll (xs.take j) ++ enc x:=by
 rw [List.take_add_one,h,ez];simp [encAll]
theorem ca:∀ (a b:List I) (o o':List Bool),steps o a = some o' → steps o (a ++ b) = steps o' b
 | [],b,o,o',h=>by simp only [steps,Option.some.injEq] at h;subst h;rfl
 | x :: a,b,o,o',h=>by
  simp only [steps,List.cons_append] at h ⊢
  cases hs:step o x.op with
  | none=>rw [hs] at h;cases h
  | some o1=>rw [hs] at h;simp only at h ⊢;exact ca a b o1 o' h
theorem steps_take {xs:List I} {j:Nat} {x:I} {o:List Bool} (h:steps [] (xs.take j) = some o) (hx:xs[j]? = some x):steps [] xs = steps o (x :: xs.drop (j + 1)):=by
 have hj:j < xs.length:=(List.getElem?_eq_some_iff.1 hx).1
 have e:xs = xs.take j ++ (x :: xs.drop (j + 1)):=by
  have h2:xs.drop j = x :: xs.drop (j + 1):=by
   rw [List.drop_eq_getElem_cons hj]
   have:=(List.getElem?_eq_some_iff.1 hx).2
   rw [this]
  rw [← h2,List.take_append_drop]
 conv=>lhs;rw [e]
 exact ca _ _ _ _ h
theorem steps_next {xs:List I} {j:Nat} {x:I} {o o':List Bool} (h:steps [] (xs.take j) = some o) (hx:xs[j]? = some x) (hs:step o x.op = some o'):steps [] (xs.take (j + 1)) = some o':=by
 rw [List.take_add_one,hx,ca _ _ _ _ h]
 simp [steps,hs]
theorem exprB_may {xs:List I} {j:Nat} {x:I} (hx:xs[j]? = some x) (hm:may x = false):exprB xs = false:=by
 unfold exprB
 have:xs.all may = false:=List.all_eq_false.2 ⟨x,List.mem_of_getElem? hx,by simp [hm]⟩
 rw [this];rfl
theorem exprB_step {xs:List I} {j:Nat} {x:I} {o:List Bool} (h:steps [] (xs.take j) = some o) (hx:xs[j]? = some x) (hs:step o x.op = none):exprB xs = false:=by
 unfold exprB
 rw [steps_take h hx]
 simp [steps,hs]
theorem all_take {xs:List I} {j:Nat} {x:I} (h:(xs.take j).all may = true) (hx:xs[j]? = some x) (hm:may x = true):(xs.take (j + 1)).all may = true:=by
 rw [List.take_add_one,hx];simp only [Option.toList_some,List.all_append,h,Bool.true_and];simp [hm]
end Ins
namespace Bo
open Ty
structure Env where
 func:Nat → Option (List UInt8 × List UInt8)
 table:Bool
 typ:Nat → Option (List UInt8 × List UInt8)
 loc:Nat → Option UInt8
 glob:Nat → Option (UInt8 × Bool)
 mem:Bool
 res:List UInt8
abbrev R:=Except Nat T
def turned (s:T) (a b:List UInt8):R:=if s.wantA a = true then .ok ((s.want a).push b) else .error 100
def goes (s:T) (a:List UInt8):R:=if s.wantA a = true then .ok (s.want a).kill else .error 100
def ends (a:Nat):List UInt8:=if a = 64 then [] else [UInt8.ofNat a]
def block (op a:Nat) (s:T):R :=
 if op = 4 then (if s.wantA [127] = true then .ok ((s.want [127]).op (ends a) (ends a)) else .error 100)
 else .ok (s.op (if op = 3 then [] else ends a) (ends a))
def other (s:T):R:=match s.closeA with
 | none=>.error 100
 | some e=>.ok (s.close.op e e)
def fin (b:Bool) (s:T):R:=match s.closeA with
 | none=>.error 100
 | some e=>if (b && !e.isEmpty) = true then .error 100 else .ok (s.close.push e)
def br (a:Nat) (s:T):R:=match s.labelA a with
 | none=>.error 101
 | some l=>goes s l
def brIf (a:Nat) (s:T):R:=match s.labelA a with
 | none=>.error 101
 | some l=>if s.wantA [127] = true then turned (s.want [127]) l l else .error 100
def brTable (a:Nat) (ls:List Nat) (s:T):R:=match s.labelA a with
 | none=>.error 101
 | some l=>if (ls.all fun n=>(s.labelA n).isSome) = true then
   (if (ls.all fun n=>decide ((s.labelA n).getD [] = l)) = true ∧ s.wantA [127] = true then goes (s.want [127]) l else .error 100)
  else .error 101
def call (E:Env) (a:Nat) (s:T):R:=match E.func a with
 | none=>.error 80
 | some t=>turned s t.1 t.2
def callI (E:Env) (a:Nat) (s:T):R:=match E.typ a with
 | none=>.error 80
 | some t=>if E.table = true then (if s.wantA [127] = true then turned (s.want [127]) t.1 t.2 else .error 100) else .error 80
def drop (s:T):R:=if s.popA.2 = true then .ok s.pop else .error 100
def umax (a b:UInt8):UInt8:=if a.toNat < b.toNat then b else a
def choose (s:T):R :=
 if s.wantA [127] = true then
  (if (s.want [127]).popA.2 = true ∧ (s.want [127]).pop.popA.2 = true ∧ fit (s.want [127]).popA.1 (s.want [127]).pop.popA.1 = true
   then .ok ((s.want [127]).pop.pop.push [umax (s.want [127]).popA.1 (s.want [127]).pop.popA.1]) else .error 100)
 else .error 100
def locl (E:Env) (op a:Nat) (s:T):R:=match E.loc a with
 | none=>.error 80
 | some t=>if op = 32 then turned s [] [t] else if op = 33 then turned s [t] [] else turned s [t] [t]
def gget (E:Env) (a:Nat) (s:T):R:=match E.glob a with
 | none=>.error 80
 | some g=>turned s [] [g.1]
def gset (E:Env) (a:Nat) (s:T):R:=match E.glob a with
 | none=>.error 80
 | some g=>if g.2 = true then turned s [g.1] [] else .error 100
def plain (op:Nat) (s:T):R:=turned s (Opc.sigP op) (Opc.sigR op)
def blen (w:Int):Nat:=if w = 1 then 1 else if w = 2 then 2 else if w = 4 then 3 else 4
def access (E:Env) (op a:Nat) (s:T):R:=if E.mem = true then (if blen (Opc.width op) ≤ a then .error 100 else plain op s) else .error 80
def pages (E:Env) (op:Nat) (s:T):R:=if E.mem = true then plain op s else .error 80
def memo (E:Env) (x:Ins.I) (s:T):R :=
 if x.op = 63 ∨ x.op = 64 then pages E x.op s
 else if 0 < Opc.width x.op then access E x.op x.a s
 else plain x.op s
def vari (E:Env) (x:Ins.I) (s:T):R :=
 if x.op = 26 then drop s
 else if x.op = 27 then choose s
 else if x.op = 32 ∨ x.op = 33 ∨ x.op = 34 then locl E x.op x.a s
 else if x.op = 35 then gget E x.a s
 else if x.op = 36 then gset E x.a s
 else memo E x s
def flow (E:Env) (x:Ins.I) (s:T):R :=
 if x.op = 12 then br x.a s
 else if x.op = 13 then brIf x.a s
 else if x.op = 14 then brTable x.a x.l s
 else if x.op = 15 then goes s E.res
 else if x.op = 0 then goes s []
 else if x.op = 16 then call E x.a s
 else if x.op = 17 then callI E x.a s
 else vari E x s
def one (E:Env) (b:Bool) (x:Ins.I) (s:T):R :=
 if x.op = 2 ∨ x.op = 4 ∨ x.op = 3 then block x.op x.a s
 else if x.op = 5 then other s
 else if x.op = 11 then fin b s
 else flow E x s
def isIf (o:List Bool):Bool:=o.getLast?.getD false
def run (E:Env):List Bool → List Ins.I → T → R
 | _,[],s=>.ok s
 | o,x :: xs,s=>match one E (isIf o) x s with
  | .error e=>.error e
  | .ok s'=>match Ins.step o x.op with
   | none=>.error 0
   | some o'=>run E o' xs s'
def chk (E:Env) (lb:Bool) (xs:List Ins.I):Except Nat Nat :=
 if Ins.exprB xs = true then
  (if lb = true then
   match run E [] xs (T.new E.res) with
   | .error e=>.error e
   | .ok s=>if s.closeA.isSome = true then .ok s.most else .error 100
  else .error 100)
 else .error 2
theorem closeA_some {s:T} {e:List UInt8} (h:s.closeA = some e):∃ i f n,s.frs = i ++ [f] ∧ without s.ops f f.ends = some n ∧ n ≤ f.h ∧ e = f.ends ∧ s.close = ⟨s.ops.take n,i,s.most⟩:=by
 rcases parts s with hn | ⟨i,f,hf⟩
 ·unfold T.closeA at h
  rw [last_nil hn] at h
  cases h
 ·unfold T.closeA at h
  rw [last_of hf] at h
  dsimp only at h
  cases hw:without s.ops f f.ends with
  | none=>rw [hw] at h;cases h
  | some n =>
   rw [hw] at h
   dsimp only at h
   split at h
   ·next hle =>
    injection h with h
    refine ⟨i,f,n,hf,hw,hle,h.symm,?_⟩
    unfold T.close
    rw [last_of hf]
    dsimp only
    rw [hw]
    dsimp only
    rw [if_pos hle,hf]
    simp
   ·cases h
section
variable {res:List UInt8} {n:Nat} {s:T}
theorem dx {o o':List Bool} {op:Nat} (h:Ins.step o op = some o') :
  ((op = 2 ∨ op = 3 ∨ op = 4) → o'.length = o.length + 1) ∧ (op = 5 → o'.length = o.length ∧ o ≠ []) ∧ (op = 11 → o.length = o'.length + 1) ∧ (¬ (op = 2 ∨ op = 3 ∨ op = 4) → op ≠ 5 → op ≠ 11 → o' = o):=by
 unfold Ins.step at h
 split at h
 ·next h1=>injection h with h;subst h;exact ⟨fun _=>by simp,fun e=>by omega,fun e=>by omega,fun e=>by omega⟩
 ·split at h
  ·next h2=>injection h with h;subst h;exact ⟨fun _=>by simp,fun e=>by omega,fun e=>by omega,fun e=>by omega⟩
  ·split at h
   ·split at h
    ·next h3 =>
     injection h with h;subst h
     have hne:o ≠ []:=fun e=>by subst e;simp at h3
     have:=List.length_pos_iff.2 hne
     exact ⟨fun e=>by omega,fun _=>⟨by simp;omega,hne⟩,fun e=>by omega,fun _ e=>by omega⟩
    ·cases h
   ·split at h
    ·split at h
     ·cases h
     ·next h3 =>
      injection h with h;subst h
      have:=List.length_pos_iff.2 h3
      exact ⟨fun e=>by omega,fun e=>by omega,fun _=>by simp;omega,fun _ _ e=>by omega⟩
    ·injection h with h;subst h
     exact ⟨fun e=>by omega,fun e=>by omega,fun e=>by omega,fun _ _ _=>rfl⟩
end
theorem chk_parts {E:Env} {lb:Bool} {xs:List Ins.I} {h:Nat} (hc:chk E lb xs = .ok h):Ins.exprB xs = true ∧ lb = true ∧ ∃ s,run E [] xs (T.new E.res) = .ok s ∧ s.closeA.isSome = true ∧ s.most = h:=by
 unfold chk at hc
 split at hc
 ·next h1 =>
  split at hc
  ·next h2 =>
   split at hc
   ·cases hc
   ·next s hs =>
    split at hc
    ·next h3 =>
     injection hc with hc
     exact ⟨h1,h2,s,hs,h3,hc⟩
    ·cases hc
  ·cases hc
 ·cases hc
def bad:Ins.I:=⟨32,4294967295,0,0,[]⟩
def Sz (K n:Nat) (s:T):Prop:=s.ops.length ≤ n ∧ s.most ≤ n ∧ s.frs.length ≤ n ∧ ∀ f ∈ s.frs,f.label.length ≤ K ∧ f.ends.length ≤ K
structure EnvK (E:Env) (K:Nat):Prop where
 func:∀ i t,E.func i = some t → t.2.length ≤ K
 typ:∀ i t,E.typ i = some t → t.2.length ≤ K
 res:E.res.length ≤ K
 two:2 ≤ K
theorem sig_len (x:Int):(Opc.sigP x).length ≤ 2 ∧ (Opc.sigR x).length ≤ 2:=by
 unfold Opc.sigP Opc.sigR
 constructor <;> ((repeat' split) <;> simp)
theorem ends_len (a:Nat):(ends a).length ≤ 1:=by
 unfold ends
 split <;> simp
section
variable {K n:Nat} {s:T}
theorem sz_up (h:Sz K n s) {m:Nat} (hm:n ≤ m):Sz K m s:=⟨by have:=h.1;omega,by have:=h.2.1;omega,by have:=h.2.2.1;omega,h.2.2.2⟩
theorem fB (h:Sz K n s) {l:List UInt8} (hl:l.length ≤ K):Sz K (n + K) (s.push l):=by
 obtain ⟨h1,h2,h3,h4⟩:=h
 exact ⟨by simp [T.push];omega,by simp [T.push];omega,by simp [T.push];omega,h4⟩
theorem sz_op (h:Sz K n s) {a b:List UInt8} (ha:a.length ≤ K) (hb:b.length ≤ K) (hk:2 ≤ K):Sz K (n + K) (s.op a b):=by
 obtain ⟨h1,h2,h3,h4⟩:=h
 refine ⟨by simp [T.op];omega,by simp [T.op];omega,by simp [T.op];omega,fun f hf=>?_⟩
 simp [T.op] at hf
 rcases hf with hf | rfl
 ·exact h4 f hf
 ·exact ⟨ha,hb⟩
theorem cb (h:Sz K n s) (l:List UInt8):Sz K n (s.want l):=by
 obtain ⟨h1,h2,h3,h4⟩:=h
 unfold T.want
 split
 ·exact ⟨h1,h2,h3,h4⟩
 ·exact ⟨by simp [T.cutTo];omega,h2,h3,h4⟩
theorem sz_pop (h:Sz K n s):Sz K n s.pop:=by
 obtain ⟨h1,h2,h3,h4⟩:=h
 unfold T.pop
 split
 ·exact ⟨h1,h2,h3,h4⟩
 ·split
  ·exact ⟨h1,h2,h3,h4⟩
  ·exact ⟨by simp;omega,h2,h3,h4⟩
theorem sz_close (h:Sz K n s) {e:List UInt8} (hc:s.closeA = some e):Sz K n s.close ∧ e.length ≤ K:=by
 obtain ⟨h1,h2,h3,h4⟩:=h
 obtain ⟨i,g,k,hg,_,_,he,hcl⟩:=closeA_some hc
 rw [hcl,he]
 rw [hg] at h3 h4
 exact ⟨⟨by simp;omega,h2,by simp at h3 ⊢;omega,fun f hf=>h4 f (by simp [hf])⟩,(h4 g (by simp)).2⟩
theorem sz_kill (h:Sz K n s):Sz K n s.kill:=by
 obtain ⟨h1,h2,h3,h4⟩:=h
 unfold T.kill
 rcases parts s with hn | ⟨i,f,hf⟩
 ·rw [last_nil hn];exact ⟨h1,h2,h3,h4⟩
 ·rw [last_of hf]
  dsimp only
  rw [hf] at h3 h4 ⊢
  refine ⟨by simp;omega,h2,by simpa using h3,fun g hg=>?_⟩
  simp at hg
  rcases hg with hg | rfl
  ·exact h4 g (by simp [hg])
  ·exact h4 f (by simp)
theorem sz_label (h:Sz K n s) {k:Nat} {l:List UInt8} (hl:s.labelA k = some l):l.length ≤ K:=by
 unfold T.labelA at hl
 rw [Option.map_eq_some_iff] at hl
 obtain ⟨f,hf,rfl⟩:=hl
 exact (h.2.2.2 f (by have:=List.mem_of_getElem? hf;simpa using this)).1
theorem aU (h:Sz K n s) {a b:List UInt8} (hb:b.length ≤ K) {s':T} (hs:turned s a b = .ok s'):Sz K (n + K) s':=by
 unfold turned at hs
 split at hs
 ·injection hs with hs
  subst hs
  exact fB (cb h a) hb
 ·cases hs
theorem dX (h:Sz K n s) {a:List UInt8} {s':T} (hs:goes s a = .ok s'):Sz K (n + K) s':=by
 unfold goes at hs
 split at hs
 ·injection hs with hs
  subst hs
  exact sz_up (sz_kill (cb h a)) (by omega)
 ·cases hs
section
variable {E:Env} (hE:EnvK E K)
include hE
theorem sz_memo {x:Ins.I} {s':T} (h:Sz K n s) (hs:memo E x s = .ok s'):Sz K (n + K) s':=by
 have hp:∀ {s':T},plain x.op s = .ok s' → Sz K (n + K) s':=fun hs=>aU h (Nat.le_trans (sig_len _).2 hE.two) hs
 unfold memo at hs
 split at hs
 ·unfold pages at hs;split at hs
  ·exact hp hs
  ·cases hs
 ·split at hs
  ·unfold access at hs;split at hs
   ·split at hs
    ·cases hs
    ·exact hp hs
   ·cases hs
  ·exact hp hs
theorem sz_vari {x:Ins.I} {s':T} (h:Sz K n s) (hs:vari E x s = .ok s'):Sz K (n + K) s':=by
 have h1:∀ t:UInt8,[t].length ≤ K:=fun t=>by have:=hE.two;simp;omega
 unfold vari at hs
 split at hs
 ·unfold drop at hs;split at hs
  ·injection hs with hs;subst hs;exact sz_up (sz_pop h) (by omega)
  ·cases hs
 ·split at hs
  ·unfold choose at hs;split at hs
   ·split at hs
    ·injection hs with hs;subst hs;exact fB (sz_pop (sz_pop (cb h _))) (h1 _)
    ·cases hs
   ·cases hs
  ·split at hs
   ·unfold locl at hs;split at hs
    ·cases hs
    ·split at hs
     ·exact aU h (h1 _) hs
     ·split at hs
      ·exact aU h (by simp) hs
      ·exact aU h (h1 _) hs
   ·split at hs
    ·unfold gget at hs;split at hs
     ·cases hs
     ·exact aU h (h1 _) hs
    ·split at hs
     ·unfold gset at hs;split at hs
      ·cases hs
      ·split at hs
       ·exact aU h (by simp) hs
       ·cases hs
     ·exact sz_memo hE h hs
theorem sz_flow {x:Ins.I} {s':T} (h:Sz K n s) (hs:flow E x s = .ok s'):Sz K (n + K) s':=by
 unfold flow at hs
 split at hs
 ·unfold br at hs;split at hs
  ·cases hs
  ·exact dX h hs
 ·split at hs
  ·unfold brIf at hs;split at hs
   ·cases hs
   ·next l hl =>
    split at hs
    ·exact aU (cb h _) (sz_label h hl) hs
    ·cases hs
  ·split at hs
   ·unfold brTable at hs;split at hs
    ·cases hs
    ·split at hs
     ·split at hs
      ·exact dX (cb h _) hs
      ·cases hs
     ·cases hs
   ·split at hs
    ·exact dX h hs
    ·split at hs
     ·exact dX h hs
     ·split at hs
      ·unfold call at hs;split at hs
       ·cases hs
       ·next t ht=>exact aU h (hE.func _ t ht) hs
      ·split at hs
       ·unfold callI at hs;split at hs
        ·cases hs
        ·next t ht =>
         split at hs
         ·split at hs
          ·exact aU (cb h _) (hE.typ _ t ht) hs
          ·cases hs
         ·cases hs
       ·exact sz_vari hE h hs
theorem sz_one {b:Bool} {x:Ins.I} {s':T} (h:Sz K n s) (hs:one E b x s = .ok s'):Sz K (n + K) s':=by
 have h2:=hE.two
 have he:∀ a,(ends a).length ≤ K:=fun a=>by have:=ends_len a;omega
 unfold one at hs
 split at hs
 ·unfold block at hs
  split at hs
  ·split at hs
   ·injection hs with hs;subst hs;exact sz_op (cb h _) (he _) (he _) h2
   ·cases hs
  ·injection hs with hs;subst hs
   refine sz_op h ?_ (he _) h2
   split
   ·simp
   ·exact he _
 ·split at hs
  ·unfold other at hs
   split at hs
   ·cases hs
   ·next e hc =>
    injection hs with hs;subst hs
    obtain ⟨q1,q2⟩:=sz_close h hc
    exact sz_op q1 q2 q2 h2
  ·split at hs
   ·unfold fin at hs
    split at hs
    ·cases hs
    ·next e hc =>
     obtain ⟨q1,q2⟩:=sz_close h hc
     split at hs
     ·cases hs
     ·injection hs with hs;subst hs;exact fB q1 q2
   ·exact sz_flow hE h hs
end
end
section
variable {f0:Fr} {s:T}
end
theorem step_length' {o o':List Bool} {op:Nat} (h:Ins.step o op = some o'):o'.length ≤ o.length + 1:=by
 obtain ⟨l1,l2,l3,l4⟩:=dx h
 by_cases c:op = 2 ∨ op = 3 ∨ op = 4
 ·rw [l1 c];omega
 ·by_cases c2:op = 5
  ·rw [(l2 c2).1];omega
  ·by_cases c3:op = 11
   ·have:=l3 c3;omega
   ·rw [l4 c c2 c3];omega
def blk (t:Nat):Ins.I:=⟨2,t,0,0,[]⟩
theorem exprB_parts {xs:List Ins.I} (h:Ins.exprB xs = true):xs.all Ins.may = true ∧ Ins.steps [] xs = some []:=by
 unfold Ins.exprB at h
 rw [Bool.and_eq_true,beq_iff_eq] at h
 exact h
def ret:Ins.I:=⟨15,0,0,0,[]⟩
def eNum (m:Nat):Prop:=m = 80 ∨ m = 100 ∨ m = 101
theorem aS {s:T} {a b:List UInt8} {m:Nat} (h:turned s a b = .error m):eNum m:=by
 unfold turned at h
 split at h
 ·cases h
 ·injection h with h;subst h;exact .inr (.inl rfl)
theorem fj {s:T} {a:List UInt8} {m:Nat} (h:goes s a = .error m):eNum m:=by
 unfold goes at h
 split at h
 ·cases h
 ·injection h with h;subst h;exact .inr (.inl rfl)
section
variable {E:Env} {x:Ins.I} {s:T} {m:Nat}
theorem e_memo (h:memo E x s = .error m):eNum m:=by
 unfold memo at h
 split at h
 ·unfold pages at h;split at h
  ·exact aS h
  ·injection h with h;subst h;exact .inl rfl
 ·split at h
  ·unfold access at h;split at h
   ·split at h
    ·injection h with h;subst h;exact .inr (.inl rfl)
    ·exact aS h
   ·injection h with h;subst h;exact .inl rfl
  ·exact aS h
theorem e_vari (h:vari E x s = .error m):eNum m:=by
 unfold vari at h
 split at h
 ·unfold drop at h;split at h
  ·cases h
  ·injection h with h;subst h;exact .inr (.inl rfl)
 ·split at h
  ·unfold choose at h;split at h
   ·split at h
    ·cases h
    ·injection h with h;subst h;exact .inr (.inl rfl)
   ·injection h with h;subst h;exact .inr (.inl rfl)
  ·split at h
   ·unfold locl at h;split at h
    ·injection h with h;subst h;exact .inl rfl
    ·split at h
     ·exact aS h
     ·split at h
      ·exact aS h
      ·exact aS h
   ·split at h
    ·unfold gget at h;split at h
     ·injection h with h;subst h;exact .inl rfl
     ·exact aS h
    ·split at h
     ·unfold gset at h;split at h
      ·injection h with h;subst h;exact .inl rfl
      ·split at h
       ·exact aS h
       ·injection h with h;subst h;exact .inr (.inl rfl)
     ·exact e_memo h
theorem e_flow (h:flow E x s = .error m):eNum m:=by
 unfold flow at h
 split at h
 ·unfold br at h;split at h
  ·injection h with h;subst h;exact .inr (.inr rfl)
  ·exact fj h
 ·split at h
  ·unfold brIf at h;split at h
   ·injection h with h;subst h;exact .inr (.inr rfl)
   ·split at h
    ·exact aS h
    ·injection h with h;subst h;exact .inr (.inl rfl)
  ·split at h
   ·unfold brTable at h;split at h
    ·injection h with h;subst h;exact .inr (.inr rfl)
    ·split at h
     ·split at h
      ·exact fj h
      ·injection h with h;subst h;exact .inr (.inl rfl)
     ·injection h with h;subst h;exact .inr (.inr rfl)
   ·split at h
    ·exact fj h
    ·split at h
     ·exact fj h
     ·split at h
      ·unfold call at h;split at h
       ·injection h with h;subst h;exact .inl rfl
       ·exact aS h
      ·split at h
       ·unfold callI at h;split at h
        ·injection h with h;subst h;exact .inl rfl
        ·split at h
         ·split at h
          ·exact aS h
          ·injection h with h;subst h;exact .inr (.inl rfl)
         ·injection h with h;subst h;exact .inl rfl
       ·exact e_vari h
theorem e_one {b:Bool} (h:one E b x s = .error m):eNum m:=by
 unfold one at h
 split at h
 ·unfold block at h
  split at h
  ·split at h
   ·cases h
   ·injection h with h;subst h;exact .inr (.inl rfl)
  ·cases h
 ·split at h
  ·unfold other at h
   split at h
   ·injection h with h;subst h;exact .inr (.inl rfl)
   ·cases h
  ·split at h
   ·unfold fin at h
    split at h
    ·injection h with h;subst h;exact .inr (.inl rfl)
    ·split at h
     ·injection h with h;subst h;exact .inr (.inl rfl)
     ·cases h
   ·exact e_flow h
end
theorem close_most {s:T} {e:List UInt8} (h:s.closeA = some e):s.close.most = s.most:=by
 obtain ⟨i,f,n,_,_,_,_,hc⟩:=closeA_some h
 rw [hc]
theorem run_at {E:Env} {xs:List Ins.I} {j:Nat} {x:Ins.I} {o:List Bool} {s:T} (hx:xs[j]? = some x):run E o (xs.drop j) s = match one E (isIf o) x s with
  | .error e=>.error e
  | .ok s'=>match Ins.step o x.op with
   | none=>.error 0
   | some o'=>run E o' (xs.drop (j + 1)) s':=by
 obtain ⟨hj,e⟩:=List.getElem?_eq_some_iff.1 hx
 rw [List.drop_eq_getElem_cons hj,e,run]
 try rfl
theorem sz_new {K:Nat} {res:List UInt8} (h:res.length ≤ K) (h2:2 ≤ K):Sz K (K * (0 + 1)) (T.new res) :=
 ⟨by simp [T.new,T.op,T.start],by simp [T.new,T.op,T.start],by simp [T.new,T.op,T.start];omega,fun f hf=>by
  simp [T.new,T.op,T.start] at hf
  subst hf
  exact ⟨h,h⟩⟩
end Bo
namespace Ty
def T.top (s:T):Prop:=s.ops.length ≤ s.most
def fitTo (own l:List UInt8) (j:Nat):Bool:=((own.reverse.zip l.reverse).take j).all fun p=>fit p.1 p.2
theorem fitTo_zero (own l:List UInt8):fitTo own l 0 = true:=by simp [fitTo]
theorem fitTo_next {own l:List UInt8} (j:Nat) (hi:j < own.length) (hl:j < l.length):fitTo own l (j + 1) = (fitTo own l j && fit own[own.length - 1 - j] l[l.length - 1 - j]):=by
 unfold fitTo
 rw [List.take_add_one,fit_at j hi hl]
 simp
theorem fitTo_all {own l:List UInt8} (j:Nat) (h:j = min own.length l.length):fitTo own l j = fitAll own l:=by
 unfold fitTo fitAll
 rw [List.take_of_length_le (by simp;omega)]
end Ty
