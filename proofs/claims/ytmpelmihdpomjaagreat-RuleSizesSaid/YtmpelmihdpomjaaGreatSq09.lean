/-
  Plain mathematics of a binary's sections: what their bytes are, what bytes begin with, and that each is the other's way back; a custom section anywhere; a beginning of a binary's bytes.
-/
import Derived.Test.YtmpelmihdpomjaaGreatSq01
import Derived.Test.YtmpelmihdpomjaaGreatSq02
import Derived.Test.YtmpelmihdpomjaaGreatSq08
import Derived.Test.YtmpelmihdpomjaaGreatSq03
set_option maxRecDepth 100000
set_option maxHeartbeats 4000000
namespace Sec
open Leb
structure S where
 id:Nat
 b:List UInt8
deriving DecidableEq
def begin8:List UInt8:=[0,97,115,109,1,0,0,0]
def enc (s:S):List UInt8:=UInt8.ofNat s.id :: (encU s.b.length ++ s.b)
def encAll (xs:List S):List UInt8:=xs.flatMap enc
def named (l:List UInt8):Bool:=okU l 32 && decide (run l + used l ≤ l.length) && U8.text ((l.drop (run l)).take (used l))
def hd:List UInt8 → Option (Nat × List UInt8 × List UInt8)
 | []=>none
 | x :: r=>if okU r 32 = true ∧ run r + used r ≤ r.length then some (x.toNat,(r.drop (run r)).take (used r),r.drop (run r + used r)) else none
def rd:Nat → Nat → List UInt8 → Option (List S)
 | 0,_,l=>if l = [] then some [] else none
 | f + 1,k,l=>if l = [] then some [] else match hd l with
  | none=>none
  | some (id,own,rest)=>if id = 0 then (if named own = true then rd f k rest else none) else if k < id ∧ id ≤ 11 then (rd f id rest).map (⟨id,own⟩ :: ·) else none
def split (l:List UInt8):Option (List S):=if l.take 8 = begin8 then rd l.length 0 (l.drop 8) else none
def hlen (l:List UInt8):Nat:=1 + run (l.drop 1) + used (l.drop 1)
end Sec
namespace Bin
open Leb Ins Sec
structure FT where
 params:List UInt8
 results:List UInt8
deriving DecidableEq
structure Lim where
 min:Nat
 max:Int
deriving DecidableEq
structure Glob where
 t:UInt8
 mu:Bool
deriving DecidableEq
structure Imp where
 mod:List UInt8
 name:List UInt8
 kind:UInt8
 type:Nat
 lim:Lim
 glob:Glob
deriving DecidableEq
structure GV where
 type:Glob
 init:List I
deriving DecidableEq
structure Exp where
 name:List UInt8
 kind:UInt8
 index:Nat
deriving DecidableEq
structure El where
 table:Nat
 off:List I
 funcs:List Nat
deriving DecidableEq
structure Lc where
 n:Nat
 t:UInt8
deriving DecidableEq
structure Cd where
 locals:List Lc
 body:List I
deriving DecidableEq
structure Da where
 mem:Nat
 off:List I
 b:List UInt8
deriving DecidableEq
structure M where
 types:List FT
 imports:List Imp
 funcs:List Nat
 tables:List Lim
 mems:List Lim
 globals:List GV
 exports:List Exp
 hasStart:Bool
 start:Nat
 elems:List El
 codes:List Cd
 datas:List Da
deriving DecidableEq
def M.zero:M:=⟨[],[],[],[],[],[],[],false,0,[],[],[]⟩
abbrev P (α:Type):=List UInt8 → Except Nat (α × Nat)
def P.ret {α:Type} (a:α):P α:=fun _=>.ok (a,0)
def P.fail {α:Type} (e:Nat):P α:=fun _=>.error e
def P.then {α β:Type} (p:P α) (f:α → P β):P β:=fun l=>match p l with
 | .error e=>.error e
 | .ok (a,k)=>match f a (l.drop k) with
  | .error e=>.error e
  | .ok (b,j)=>.ok (b,k + j)
def many {α:Type} (p:P α):Nat → P (List α)
 | 0=>P.ret []
 | n + 1=>p.then fun x=>(many p n).then fun xs=>P.ret (x :: xs)
def byte:P UInt8:=fun l=>match l with
 | []=>.error 60
 | x :: _=>.ok (x,1)
def num:P Nat:=rdNum
def list {α:Type} (p:P α):P (List α):=num.then fun n=>many p n
def name:P (List UInt8):=fun l=>if named l = true then .ok ((l.drop (run l)).take (used l),run l + used l) else .error 60
def value:P UInt8:=byte.then fun t=>if t = 125 ∨ t = 124 then P.fail 61 else if t = 127 ∨ t = 126 then P.ret t else P.fail 60
def flag:P Bool:=byte.then fun t=>if t = 0 then P.ret false else if t = 1 then P.ret true else P.fail 60
def lim:P Lim:=flag.then fun f=>num.then fun a=>if f = true then num.then fun b=>P.ret ⟨a,b⟩ else P.ret ⟨a,-1⟩
def table:P Lim:=byte.then fun t=>if t = 112 then lim else P.fail 60
def glob:P Glob:=value.then fun t=>flag.then fun m=>P.ret ⟨t,m⟩
def expr:P (List I):=fun l=>rdExpr (l.length + 1) [] l
def ft:P FT:=byte.then fun t=>if t = 96 then (list value).then fun p=>(list value).then fun r=>P.ret ⟨p,r⟩ else P.fail 60
def imp:P Imp:=name.then fun a=>name.then fun b=>byte.then fun k =>
 if k = 0 then num.then fun t=>P.ret ⟨a,b,0,t,⟨0,0⟩,⟨0,false⟩⟩
 else if k = 1 then table.then fun t=>P.ret ⟨a,b,1,0,t,⟨0,false⟩⟩
 else if k = 2 then lim.then fun t=>P.ret ⟨a,b,2,0,t,⟨0,false⟩⟩
 else if k = 3 then glob.then fun t=>P.ret ⟨a,b,3,0,⟨0,0⟩,t⟩
 else P.fail 60
def el:P El:=num.then fun t=>expr.then fun e=>(list num).then fun f=>P.ret ⟨t,e,f⟩
def loc:P Lc:=num.then fun n=>value.then fun t=>P.ret ⟨n,t⟩
def part:P (List UInt8):=num.then fun n=>fun l=>if n ≤ l.length then .ok (l.take n,n) else .error 60
def M.of (f:Nat → M):M:=⟨(f 1).types,(f 2).imports,(f 3).funcs,(f 4).tables,(f 5).mems,(f 6).globals,(f 7).exports,(f 8).hasStart,(f 8).start,(f 9).elems,(f 10).codes,(f 11).datas⟩
def whole1 (t:UInt8):Bool:=t == 127 || t == 126
def plain (l:List I):Bool:=l.all fun x=>Opc.known x.op && !Opc.float x.op
def M.good (m:M):Bool:=m.types.all (fun t=>t.params.all whole1 && t.results.all whole1) && m.imports.all (fun x=>decide (x.kind.toNat ≤ 3) && (!(x.kind == 3) || whole1 x.glob.t)) &&
 m.globals.all (fun g=>whole1 g.type.t && plain g.init) && m.codes.all (fun c=>c.locals.all (fun l=>whole1 l.t) && plain c.body) && m.elems.all (fun x=>plain x.off) && m.datas.all (fun x=>plain x.off)
end Bin
namespace Sp
open Bin
def imps (m:M) (k:Nat):List Imp:=m.imports.filter (fun x=>x.kind.toNat == k)
def funs (m:M):List Nat:=(imps m 0).map (·.type) ++ m.funcs
def tabs (m:M):List Lim:=(imps m 1).map (·.lim) ++ m.tables
def mems (m:M):List Lim:=(imps m 2).map (·.lim) ++ m.mems
def globs (m:M):List Glob:=(imps m 3).map (·.glob) ++ m.globals.map (·.type)
def mine (m:M) (k:Nat):Nat:=if k = 0 then m.funcs.length else if k = 1 then m.tables.length else if k = 2 then m.mems.length else if k = 3 then m.globals.length else 0
def imported (m:M) (k:Nat):Nat:=if k < 4 then (imps m k).length else 0
def count (m:M) (k:Nat):Nat:=imported m k + mine m k
def func (m:M) (i:Nat):Option FT:=(funs m)[i]?.bind fun t=>m.types[t]?
structure Few (m:M):Prop where
 imports:m.imports.length ≤ 4000
 funcs:m.funcs.length ≤ 4000
 tables:m.tables.length ≤ 4000
 mems:m.mems.length ≤ 4000
 globals:m.globals.length ≤ 4000
 exports:m.exports.length ≤ 4000
 types:m.types.length ≤ 4000
 each:∀ x ∈ m.types,x.params.length ≤ 4000 ∧ x.results.length ≤ 4000
structure Lots (m:M):Prop where
 imports:m.imports.length ≤ 1050000
 funcs:m.funcs.length ≤ 1050000
 tables:m.tables.length ≤ 1050000
 mems:m.mems.length ≤ 1050000
 globals:m.globals.length ≤ 1050000
 exports:m.exports.length ≤ 1050000
 types:m.types.length ≤ 1050000
 each:∀ x ∈ m.types,x.params.length ≤ 1050000 ∧ x.results.length ≤ 1050000
theorem Few.lots {m:M} (h:Few m):Lots m :=
 ⟨Nat.le_trans h.imports (by decide),Nat.le_trans h.funcs (by decide),Nat.le_trans h.tables (by decide),Nat.le_trans h.mems (by decide),Nat.le_trans h.globals (by decide),Nat.le_trans h.exports (by decide),Nat.le_trans h.types (by decide),fun x hx=>⟨Nat.le_trans (h.each x hx).1 (by decide),Nat.le_trans (h.each x hx).2 (by decide)⟩⟩
section
variable {α:Type}
theorem eV {p:α → Bool} {xs:List α} {k:Nat} {x:α} (hx:xs[k]? = some x) (hp:p x = true):(xs.take (k + 1)).filter p = (xs.take k).filter p ++ [x]:=by
 rw [List.take_add_one,hx,List.filter_append]
 simp [hp]
theorem gu {p:α → Bool} {xs:List α} {k:Nat} {x:α} (hx:xs[k]? = some x) (hp:p x = false):(xs.take (k + 1)).filter p = (xs.take k).filter p:=by
 rw [List.take_add_one,hx,List.filter_append]
 simp [hp]
theorem gr (p:α → Bool) (xs:List α) (k:Nat):((xs.take k).filter p).length ≤ k:=by
 have:=List.length_filter_le p (xs.take k)
 have:=List.length_take_le k xs
 omega
theorem eU {p:α → Bool} {xs:List α} {k:Nat} (h:xs.length ≤ k):(xs.take k).filter p = xs.filter p:=by rw [List.take_of_length_le h]
def cz (p:α → Bool) (l:List α) (k:Nat):Prop:=∀ j r,j < k → l[j]? = some r → p r = false
theorem cE (p:α → Bool) (l:List α):cz p l 0:=fun _ _ h=>absurd h (Nat.not_lt_zero _)
theorem bF {p:α → Bool} {l:List α} {k:Nat} {r:α} (hr:l[k]? = some r) (h:p r = false) (hno:cz p l k):cz p l (k + 1):=fun j r' hj hr'=>by
 by_cases hjk:j = k
 ·subst hjk
  rw [hr] at hr'
  injection hr' with hr'
  subst hr'
  exact h
 ·exact hno j r' (by omega) hr'
end
theorem ce (m:M) (k:Nat):(imps m k).length ≤ m.imports.length:=List.length_filter_le _ _
theorem imported_le (m:M) (k:Nat):imported m k ≤ m.imports.length:=by
 unfold imported
 split
 ·exact ce m k
 ·exact Nat.zero_le _
theorem aE {m:M} {k:Nat} (h:k < 4):imported m k = (imps m k).length:=by unfold imported;rw [if_pos h]
theorem imported_no {m:M} {k:Nat} (h:¬ k < 4):imported m k = 0:=by unfold imported;rw [if_neg h]
theorem row_own {α β:Type} {f:α → β} {xs:List α} {ys:List β} {i:Nat} (h:xs.length ≤ i):(xs.map f ++ ys)[i]? = ys[i - xs.length]?:=by
 rw [List.getElem?_append_right (by simpa using h)]
 simp
theorem eE (m:M):(funs m).length = count m 0:=by simp [funs,count,imported,mine]
theorem bu (m:M):(tabs m).length = count m 1:=by simp [tabs,count,imported,mine]
theorem bq (m:M):(mems m).length = count m 2:=by simp [mems,count,imported,mine]
theorem dU (m:M):(globs m).length = count m 3:=by simp [globs,count,imported,mine]
end Sp
namespace Bo
def runs:List Bin.Lc → Nat → Option UInt8
 | [],_=>none
 | x :: l,i=>if i < x.n then some x.t else runs l (i - x.n)
def local' (ps:List UInt8) (l:List Bin.Lc) (i:Nat):Option UInt8:=if i < ps.length then ps[i]? else runs l (i - ps.length)
def locB (l:List Bin.Lc):Bool:=l.all fun x=>x.n == 0 || (x.t == 127 || x.t == 126)
def ftP (t:Bin.FT):List UInt8 × List UInt8:=(t.params,t.results)
def envOf (m:Bin.M) (ps rs:List UInt8) (ls:List Bin.Lc):Env:=⟨fun i=>(Sp.func m i).map ftP,((Sp.tabs m)[0]?).isSome,fun i=>(m.types[i]?).map ftP,fun i=>local' ps ls i,fun i=>((Sp.globs m)[i]?).map fun g=>(g.t,g.mu),((Sp.mems m)[0]?).isSome,rs⟩
theorem run_err {E:Env}:∀ (xs:List Ins.I) (o o':List Bool) (s:Ty.T) (m:Nat),Ins.steps o xs = some o' → run E o xs s = .error m → eNum m
 | [],_,_,_,_,_,h=>by rw [run] at h;cases h
 | x :: xs,o,o',s,m,hs,h=>by
  rw [run] at h
  rw [Ins.steps] at hs
  split at h
  ·next e he =>
   injection h with h
   subst h
   exact e_one he
  ·next s1 h1 =>
   split at h
   ·next hn=>rw [hn] at hs;cases hs
   ·next o1 ho =>
    rw [ho] at hs
    exact run_err xs o1 o' s1 m hs h
theorem chk_err {E:Env} {lb:Bool} {xs:List Ins.I} {m:Nat} (h:chk E lb xs = .error m):m ≠ 0:=by
 unfold chk at h
 split at h
 ·next hx =>
  split at h
  ·split at h
   ·next e he =>
    injection h with h
    subst h
    rcases run_err xs [] _ _ _ (exprB_parts hx).2 he with e | e | e <;> omega
   ·split at h
    ·cases h
    ·injection h with h;omega
  ·injection h with h;omega
 ·injection h with h;omega
end Bo
namespace Va
open Bin Sp Ins
def wholeB (l:List UInt8):Bool:=l.all fun t=>t == 127 || t == 126
def constE (m:M) (l:List I) (t:UInt8):Nat:=match l with
 | [x]=>if x.op = 35 then (match (imps m 3)[x.a]? with
   | none=>80
   | some g=>if g.glob.mu = true then 110 else if g.glob.t = t then 0 else 100)
  else if x.op = 65 then (if t = 127 then 0 else 100)
  else if x.op = 66 then (if t = 126 then 0 else 100)
  else 110
 | _=>110
def orE (a b:Nat):Nat:=if a = 0 then b else a
def first {α:Type} (f:α → Nat):List α → Nat
 | []=>0
 | x :: xs=>orE (f x) (first f xs)
def okE (b:Bool) (n:Nat):Nat:=if b = true then 0 else n
def shapeE (m:M):Nat:=okE (m.codes.length == m.funcs.length && (m.imports.all fun x=>decide (x.kind.toNat < 4)) && (m.exports.all fun x=>decide (x.kind.toNat < 4))) 2
def typE (t:FT):Nat:=okE (decide (t.results.length ≤ 1) && (wholeB t.params && wholeB t.results)) 100
def impE (m:M) (x:Imp):Nat :=
 if x.kind.toNat = 0 then okE (decide (x.type < m.types.length)) 80
 else if x.kind.toNat = 3 then okE (x.glob.t == 127 || x.glob.t == 126) 100
 else 0
def funE (m:M) (t:Nat):Nat:=okE (decide (t < m.types.length)) 80
def limE (most:Nat) (l:Lim):Nat:=okE (decide (l.min ≤ most) && (decide (l.max = -1) || (decide ((l.min:Int) ≤ l.max) && decide (l.max ≤ (most:Int))))) 112
def countE (m:M):Nat:=okE (decide (count m 1 ≤ 1) && decide (count m 2 ≤ 1)) 112
def globE (m:M) (g:GV):Nat:=if (g.type.t == 127 || g.type.t == 126) = true then constE m g.init g.type.t else 100
def expE (m:M):List (List UInt8) → List Exp → Nat
 | _,[]=>0
 | seen,x :: xs=>if x.index < count m x.kind.toNat then (if x.name ∈ seen then 111 else expE m (seen ++ [x.name]) xs) else 80
def startE (m:M):Nat:=if m.hasStart = true then (match func m m.start with
  | none=>113
  | some f=>okE (f.params.isEmpty && f.results.isEmpty) 113) else 0
def thereE (m:M) (k i:Nat):Nat:=okE (decide (i < count m k)) 80
def elemE (m:M) (x:El):Nat:=orE (thereE m 1 x.table) (orE (constE m x.off 127) (first (thereE m 0) x.funcs))
def datE (m:M) (x:Da):Nat:=orE (thereE m 2 x.mem) (constE m x.off 127)
def codeR (m:M) (t:Nat) (c:Cd):Except Nat Nat :=
 Bo.chk (Bo.envOf m ((m.types[t]?).getD ⟨[],[]⟩).params ((m.types[t]?).getD ⟨[],[]⟩).results c.locals) (Bo.locB c.locals) c.body
def codesR (m:M):List Nat → List Cd → Except Nat (List Nat)
 | t :: ts,c :: cs=>match codeR m t c with
  | .error e=>.error e
  | .ok h=>match codesR m ts cs with
   | .error e=>.error e
   | .ok hs=>.ok (h :: hs)
 | _,_=>.ok []
def pre (m:M):Nat :=
 orE (shapeE m) (orE (first typE m.types) (orE (first (impE m) m.imports) (orE (first (funE m) m.funcs) (orE (countE m) (orE (first (limE 4294967295) (tabs m)) (orE (first (limE 65536) (mems m))
  (orE (first (globE m) m.globals) (orE (expE m [] m.exports) (orE (startE m) (first (elemE m) m.elems))))))))))
def check (m:M):Except Nat (List Nat) :=
 if pre m = 0 then (match codesR m m.funcs m.codes with
  | .error e=>.error e
  | .ok hs=>if first (datE m) m.datas = 0 then .ok hs else .error (first (datE m) m.datas))
 else .error (pre m)
theorem cG {a b:Nat}:orE a b = 0 ↔ a = 0 ∧ b = 0:=by
 unfold orE
 split <;> simp_all
theorem orE_ne {a b:Nat} (h:a ≠ 0):orE a b = a:=by unfold orE;rw [if_neg h]
theorem orE_at {a b:Nat} (h:a = 0):orE a b = b:=by unfold orE;rw [if_pos h]
theorem okE_zero {b:Bool} {n:Nat} (hn:n ≠ 0):okE b n = 0 ↔ b = true:=by
 unfold okE
 split
 ·simp_all
 ·simp_all
theorem first_zero {α:Type} {f:α → Nat}:∀ {xs:List α},first f xs = 0 ↔ ∀ x ∈ xs,f x = 0
 | []=>by simp [first]
 | x :: xs=>by rw [first,cG,first_zero];simp
theorem first_step {α:Type} {f:α → Nat} {xs:List α} {j:Nat} {x:α} (h:xs[j]? = some x):first f (xs.drop j) = orE (f x) (first f (xs.drop (j + 1))):=by
 obtain ⟨hj,e⟩:=List.getElem?_eq_some_iff.1 h
 rw [List.drop_eq_getElem_cons hj,e,first]
theorem first_end {α:Type} {f:α → Nat} {xs:List α} {j:Nat} (h:xs.length ≤ j):first f (xs.drop j) = 0:=by rw [List.drop_eq_nil_of_le h];rfl
theorem expE_zero {m:M}:∀ {xs:List Exp} {seen:List (List UInt8)},expE m seen xs = 0 ↔ (∀ x ∈ xs,x.index < count m x.kind.toNat ∧ x.name ∉ seen) ∧ (xs.map (·.name)).Nodup
 | [],_=>by simp [expE]
 | x :: xs,seen=>by
  rw [expE]
  split
  ·next h1 =>
   split
   ·next h2 =>
    refine ⟨fun h=>absurd h (by decide),fun h=>?_⟩
    exact absurd h2 (h.1 x (by simp)).2
   ·next h2 =>
    rw [expE_zero]
    simp only [List.map_cons,List.nodup_cons]
    constructor
    ·rintro ⟨a,b⟩
     refine ⟨?_,?_,b⟩
     ·intro y hy
      rcases List.mem_cons.1 hy with rfl | hy
      ·exact ⟨h1,h2⟩
      ·exact ⟨(a y hy).1,fun e=>(a y hy).2 (List.mem_append_left _ e)⟩
     ·intro hm
      obtain ⟨y,hy,e⟩:=List.mem_map.1 hm
      exact (a y hy).2 (List.mem_append_right _ (by rw [e];simp))
    ·rintro ⟨a,b,c⟩
     refine ⟨fun y hy=>⟨(a y (List.mem_cons_of_mem _ hy)).1,fun e=>?_⟩,c⟩
     rcases List.mem_append.1 e with e | e
     ·exact (a y (List.mem_cons_of_mem _ hy)).2 e
     ·exact b (List.mem_map.2 ⟨y,hy,by simpa using e⟩)
  ·next h1 =>
   refine ⟨fun h=>absurd h (by decide),fun h=>?_⟩
   exact absurd (h.1 x (by simp)).1 h1
theorem ey {m:M}:∀ {ts:List Nat} {cs:List Cd} {hs:List Nat},codesR m ts cs = .ok hs → ts.length = cs.length → hs.length = cs.length
 | [],[],hs,h,_=>by rw [codesR] at h;injection h with h;subst h;rfl;simp
 | t :: ts,c :: cs,hs,h,hl=>by
  rw [codesR] at h
  split at h
  ·cases h
  ·split at h
   ·cases h
   ·next hs' h' =>
    injection h with h
    subst h
    simp [ey h' (by simpa using hl)]
 | [],_ :: _,_,_,hl=>by simp at hl
 | _ :: _,[],_,_,hl=>by simp at hl
theorem fq {m:M}:∀ {ts:List Nat} {cs:List Cd} {hs:List Nat} {i t:Nat} {c:Cd},codesR m ts cs = .ok hs → ts[i]? = some t → cs[i]? = some c → ∃ h,codeR m t c = .ok h ∧ hs[i]? = some h
 | [],_,_,_,_,_,_,ht,_=>by simp at ht
 | _ :: _,[],_,_,_,_,_,_,hc=>by simp at hc
 | t :: ts,c :: cs,hs,i,t',c',h,ht,hc=>by
  rw [codesR] at h
  split at h
  ·cases h
  ·next h0 e0 =>
   split at h
   ·cases h
   ·next hs' h' =>
    injection h with h
    subst h
    cases i with
    | zero =>
     simp at ht hc
     subst ht hc
     exact ⟨h0,e0,by simp⟩
    | succ i =>
     simp at ht hc
     obtain ⟨x,hx,hy⟩:=fq h' ht hc
     exact ⟨x,hx,by simpa using hy⟩
theorem di {m:M}:∀ {ts:List Nat} {cs:List Cd} {e:Nat},codesR m ts cs = .error e → e ≠ 0
 | [],_,_,h=>by simp [codesR] at h
 | _ :: _,[],_,h=>by simp [codesR] at h
 | t :: ts,c :: cs,e,h=>by
  rw [codesR] at h
  split at h
  ·next e' h' =>
   injection h with h
   subst h
   exact Bo.chk_err h'
  ·split at h
   ·next e' h' =>
    injection h with h
    subst h
    exact di h'
   ·cases h
structure Good (m:M) (hs:List Nat):Prop where
 pre:pre m = 0
 codes:codesR m m.funcs m.codes = .ok hs
 datas:first (datE m) m.datas = 0
theorem check_ok {m:M} {hs:List Nat}:check m = .ok hs ↔ Good m hs:=by
 unfold check
 constructor
 ·intro h
  split at h
  ·next hp =>
   split at h
   ·cases h
   ·next hs' hc =>
    split at h
    ·next hd =>
     injection h with h
     subst h
     exact ⟨hp,hc,hd⟩
    ·cases h
  ·cases h
 ·rintro ⟨hp,hc,hd⟩
  rw [if_pos hp,hc]
  simp [hd]
theorem check_err {m:M} {e:Nat} (h:check m = .error e):e ≠ 0:=by
 unfold check at h
 split at h
 ·split at h
  ·next e' hc =>
   injection h with h
   subst h
   exact di hc
  ·split at h
   ·cases h
   ·next hd =>
    injection h with h
    subst h
    exact hd
 ·next hp =>
  injection h with h
  subst h
  exact hp
section
variable {m:M} {hs:List Nat}
theorem Good.steps (h:Good m hs):shapeE m = 0 ∧ first typE m.types = 0 ∧ first (impE m) m.imports = 0 ∧ first (funE m) m.funcs = 0 ∧ countE m = 0 ∧ first (limE 4294967295) (tabs m) = 0 ∧ first (limE 65536) (mems m) = 0 ∧ first (globE m) m.globals = 0 ∧ expE m [] m.exports = 0 ∧ startE m = 0 ∧ first (elemE m) m.elems = 0:=by
 have:=h.pre
 unfold Va.pre at this
 simpa only [cG] using this
theorem Good.shape (h:Good m hs):m.codes.length = m.funcs.length ∧ (∀ x ∈ m.imports,x.kind.toNat < 4) ∧ ∀ x ∈ m.exports,x.kind.toNat < 4:=by
 have:=h.steps.1
 unfold shapeE at this
 rw [okE_zero (by decide)] at this
 simp only [Bool.and_eq_true,beq_iff_eq,List.all_eq_true,decide_eq_true_eq] at this
 exact ⟨this.1.1,this.1.2,this.2⟩
theorem Good.few (h:Good m hs):count m 1 ≤ 1 ∧ count m 2 ≤ 1:=by
 have:=h.steps.2.2.2.2.1
 unfold countE at this
 rw [okE_zero (by decide)] at this
 simpa using this
theorem Good.types (h:Good m hs):∀ t ∈ m.types,t.results.length ≤ 1:=fun t ht=>by
 have:=first_zero.1 h.steps.2.1 t ht
 unfold typE at this
 rw [okE_zero (by decide)] at this
 simp only [Bool.and_eq_true,decide_eq_true_eq] at this
 exact this.1
theorem Good.funs (h:Good m hs):∀ t ∈ m.funcs,t < m.types.length:=fun t ht=>by
 have:=first_zero.1 h.steps.2.2.2.1 t ht
 unfold funE at this
 rw [okE_zero (by decide)] at this
 simpa using this
theorem Good.len (h:Good m hs):hs.length = m.codes.length:=ey h.codes h.shape.1.symm
theorem Good.code (h:Good m hs) {i:Nat} {c:Cd} (hc:m.codes[i]? = some c) :
  ∃ f n,func m (imported m 0 + i) = some f ∧ Bo.chk (Bo.envOf m f.params f.results c.locals) (Bo.locB c.locals) c.body = .ok n ∧ hs[i]? = some n:=by
 have hi:i < m.funcs.length:=by rw [← h.shape.1];exact (List.getElem?_eq_some_iff.1 hc).1
 obtain ⟨t,ht⟩:∃ t,m.funcs[i]? = some t:=⟨_,List.getElem?_eq_getElem hi⟩
 obtain ⟨n,h1,h2⟩:=fq h.codes ht hc
 have htl:=h.funs t (List.mem_of_getElem? ht)
 refine ⟨m.types[t],n,?_,?_,h2⟩
 ·unfold func Sp.funs
  rw [row_own (by rw [aE (by decide)];omega),aE (by decide),Nat.add_sub_cancel_left,ht]
  simp [htl]
 ·unfold codeR at h1
  rw [List.getElem?_eq_getElem htl] at h1
  exact h1
theorem Good.elems (h:Good m hs):∀ x ∈ m.elems,x.table < count m 1 ∧ ∀ f ∈ x.funcs,f < count m 0:=fun x hx=>by
 have:=first_zero.1 h.steps.2.2.2.2.2.2.2.2.2.2 x hx
 unfold elemE at this
 rw [cG,cG,first_zero] at this
 unfold thereE at this
 rw [okE_zero (by decide)] at this
 refine ⟨by simpa using this.1,fun f hf=>?_⟩
 have h2:=this.2.2 f hf
 rw [okE_zero (by decide)] at h2
 simpa using h2
theorem Good.exports (h:Good m hs):∀ x ∈ m.exports,x.index < count m x.kind.toNat:=fun x hx=>((expE_zero.1 h.steps.2.2.2.2.2.2.2.2.1).1 x hx).1
theorem Good.start (h:Good m hs):m.hasStart = true → m.start < count m 0:=fun e=>by
 have:=h.steps.2.2.2.2.2.2.2.2.2.1
 unfold startE at this
 rw [if_pos e] at this
 split at this
 ·exact absurd this (by decide)
 ·next f hf =>
  unfold func at hf
  rw [Option.bind_eq_some_iff] at hf
  obtain ⟨k,hk,_⟩:=hf
  rw [← eE]
  exact (List.getElem?_eq_some_iff.1 hk).1
end
end Va
namespace Bo
section
variable {E:Env} (g:Nat → Option (UInt8 × Bool)) (hE:∀ i,E.glob i = none)
include hE
end
end Bo
namespace Ru
open Bin Sp Ins
def host:List (List UInt8 × FT):=[
 ([105,110,112,117,116,95,108,101,110],⟨[],[127]⟩),
 ([105,110,112,117,116],⟨[127,127,127],[]⟩),
 ([99,97,108,108,101,114],⟨[127],[]⟩),
 ([115,101,108,102],⟨[127],[]⟩),
 ([118,97,108,117,101],⟨[],[126]⟩),
 ([98,97,108,97,110,99,101],⟨[127],[126]⟩),
 ([114,101,97,100],⟨[127,127,127,127],[127]⟩),
 ([119,114,105,116,101],⟨[127,127,127,127],[]⟩),
 ([114,101,109,111,118,101],⟨[127,127],[127]⟩),
 ([101,109,105,116],⟨[127,127],[]⟩),
 ([99,97,108,108],⟨[127,126,126,127,127],[127]⟩),
 ([114,101,116,95,108,101,110],⟨[],[127]⟩),
 ([114,101,116],⟨[127,127,127],[]⟩),
 ([102,105,110,105,115,104],⟨[127,127],[]⟩),
 ([114,101,118,101,114,116],⟨[127,127],[]⟩),
 ([103,97,115,95,108,101,102,116],⟨[],[126]⟩)]
def env:List UInt8:=[101,110,118]
def main:List UInt8:=[109,97,105,110]
def init:List UInt8:=[105,110,105,116]
def find (nm:List UInt8):Option Nat:=host.findIdx? fun h=>h.1 == nm
def nestB:Nat → List I → Bool
 | _,[]=>true
 | o,x :: xs =>
  let o':=if 2 ≤ x.op ∧ x.op ≤ 4 then o + 1 else if x.op = 11 then o - 1 else o
  decide (o' ≤ 64) && (decide (x.op ≠ 14) || decide (x.l.length ≤ 256)) && nestB o' xs
def runs:List Lc → Nat
 | []=>0
 | x :: l=>x.n + runs l
def codeB (np:Nat) (c:Cd) (h:Nat):Bool:=decide (np + runs c.locals ≤ 256) && (decide (c.body.length ≤ 8192) && (decide (h ≤ 512) && nestB 0 c.body))
def codesB (m:M):List Nat → List Cd → List Nat → Bool
 | t :: ts,c :: cs,h :: hs=>codeB ((m.types[t]?).getD ⟨[],[]⟩).params.length c h && codesB m ts cs hs
 | _,_,_=>true
def listsB (m:M):Bool :=
 (decide (m.types.length ≤ 256) && m.types.all fun t=>decide (t.params.length ≤ 16)) &&
 ((decide (m.imports.length ≤ 64) && m.imports.all fun x=>decide (x.mod.length ≤ 64) && decide (x.name.length ≤ 64)) &&
 (decide (m.funcs.length ≤ 512) && (decide (count m 3 ≤ 128) &&
 ((decide (m.exports.length ≤ 128) && m.exports.all fun x=>decide (x.name.length ≤ 64)) &&
 ((decide (m.elems.length ≤ 64) && m.elems.all fun x=>decide (x.funcs.length ≤ 1024)) &&
 (decide (m.datas.length ≤ 64) && (((tabs m)[0]?).all (fun l=>decide (l.min ≤ 1024)) && ((mems m)[0]?).all (fun l=>decide (l.min ≤ 16)))))))))
def sizesB (m:M) (hs:List Nat):Bool:=listsB m && codesB m m.funcs m.codes hs
def impB (m:M) (x:Imp):Bool:=x.kind == 0 && (x.mod == env && match find x.name with
 | none=>false
 | some n=>decide (m.types[x.type]? = (host[n]?).map (·.2)))
def expB (m:M) (x:Exp):Bool:=!(x.name == main || x.name == init) || (x.kind == 0 && match func m x.index with
 | none=>false
 | some f=>f.params.isEmpty && f.results.isEmpty)
def expsB (m:M):Bool:=(m.exports.all (expB m)) && m.exports.any fun x=>x.name == main
def check (m:M):Nat:=match Va.check m with
 | .error e=>e
 | .ok hs=>if sizesB m hs = true then (if m.imports.all (impB m) = true then (if expsB m = true then 0 else 121) else 120) else 122
section
variable {m:M}
end
end Ru
namespace Bin
open Leb Ins Sec
def There {α:Type} (p:P α) (ok:α → Prop) (e:α → List UInt8):Prop:=∀ x r,ok x → (e x).length < 4294967296 → p (e x ++ r) = .ok (x,(e x).length)
theorem drop_left {α:Type} (a b:List α):(a ++ b).drop a.length = b:=by simp
theorem There.bind {α β:Type} {p:P α} {f:α → P β} {a:α} {b:β} {ea eb:List UInt8} (h1:∀ r,p (ea ++ r) = .ok (a,ea.length)) (h2:∀ r,f a (eb ++ r) = .ok (b,eb.length)) (r:List UInt8):(p.then f) (ea ++ eb ++ r) = .ok (b,(ea ++ eb).length):=by
 unfold P.then
 rw [List.append_assoc,h1]
 dsimp only
 rw [drop_left,h2]
 simp
theorem There.last {α β:Type} {p:P α} {f:α → β} {a:α} {ea:List UInt8} (h1:∀ r,p (ea ++ r) = .ok (a,ea.length)) (r:List UInt8):(p.then fun x=>P.ret (f x)) (ea ++ r) = .ok (f a,ea.length):=by
 unfold P.then
 rw [h1]
 rfl
def encList {α:Type} (e:α → List UInt8) (xs:List α):List UInt8:=encU xs.length ++ xs.flatMap e
theorem cC {α:Type} {e:α → List UInt8}:∀ (xs:List α),(∀ x ∈ xs,1 ≤ (e x).length) → xs.length ≤ (xs.flatMap e).length
 | [],_=>by simp
 | x :: xs,h=>by
  have:=cC xs (fun y hy=>h y (by simp [hy]))
  have:=h x (by simp)
  simp only [List.flatMap_cons,List.length_append,List.length_cons]
  omega
def encName (s:List UInt8):List UInt8:=encU s.length ++ s
def encFlag (b:Bool):List UInt8:=[if b then 1 else 0]
def encLim (x:Lim):List UInt8:=if x.max = -1 then 0 :: encU x.min else 1 :: (encU x.min ++ encU x.max.toNat)
def encGlob (g:Glob):List UInt8:=[g.t] ++ encFlag g.mu
def encVals (l:List UInt8):List UInt8:=encList (fun t=>[t]) l
def encNums (l:List Nat):List UInt8:=encList encU l
def encFT (t:FT):List UInt8:=[96] ++ (encVals t.params ++ encVals t.results)
def encMore (x:Imp):List UInt8:=if x.kind = 0 then encU x.type else if x.kind = 1 then [112] ++ encLim x.lim else if x.kind = 2 then encLim x.lim else encGlob x.glob
def encImp (x:Imp):List UInt8:=encName x.mod ++ (encName x.name ++ ([x.kind] ++ encMore x))
def encGV (g:GV):List UInt8:=encGlob g.type ++ exprEnc g.init
def encExp (x:Exp):List UInt8:=encName x.name ++ ([x.kind] ++ encU x.index)
def encEl (x:El):List UInt8:=encU x.table ++ (exprEnc x.off ++ encNums x.funcs)
def encLc (x:Lc):List UInt8:=encU x.n ++ [x.t]
def cdB (c:Cd):List UInt8:=encList encLc c.locals ++ exprEnc c.body
def encCd (c:Cd):List UInt8:=encU (cdB c).length ++ cdB c
def encDa (x:Da):List UInt8:=encU x.mem ++ (exprEnc x.off ++ (encU x.b.length ++ x.b))
def encTable (x:Lim):List UInt8:=[112] ++ encLim x
def body (m:M) (id:Nat):List UInt8 :=
 if id = 1 then encList encFT m.types else if id = 2 then encList encImp m.imports else if id = 3 then encList encU m.funcs else if id = 4 then encList encTable m.tables
 else if id = 5 then encList encLim m.mems else if id = 6 then encList encGV m.globals else if id = 7 then encList encExp m.exports else if id = 8 then encU m.start
 else if id = 9 then encList encEl m.elems else if id = 10 then encList encCd m.codes else encList encDa m.datas
def cnt (m:M) (id:Nat):Nat :=
 if id = 1 then m.types.length else if id = 2 then m.imports.length else if id = 3 then m.funcs.length else if id = 4 then m.tables.length
 else if id = 5 then m.mems.length else if id = 6 then m.globals.length else if id = 7 then m.exports.length else if id = 8 then (if m.hasStart = true then 1 else 0)
 else if id = 9 then m.elems.length else if id = 10 then m.codes.length else m.datas.length
def ids:List Nat:=[1,2,3,4,5,6,7,8,9,10,11]
def own (m:M):List Nat:=ids.filter fun i=>decide (0 < cnt m i)
def one (m:M) (id:Nat):M :=
 if id = 1 then ⟨m.types,[],[],[],[],[],[],false,0,[],[],[]⟩ else if id = 2 then ⟨[],m.imports,[],[],[],[],[],false,0,[],[],[]⟩
 else if id = 3 then ⟨[],[],m.funcs,[],[],[],[],false,0,[],[],[]⟩ else if id = 4 then ⟨[],[],[],m.tables,[],[],[],false,0,[],[],[]⟩
 else if id = 5 then ⟨[],[],[],[],m.mems,[],[],false,0,[],[],[]⟩ else if id = 6 then ⟨[],[],[],[],[],m.globals,[],false,0,[],[],[]⟩
 else if id = 7 then ⟨[],[],[],[],[],[],m.exports,false,0,[],[],[]⟩ else if id = 8 then ⟨[],[],[],[],[],[],[],true,m.start,[],[],[]⟩
 else if id = 9 then ⟨[],[],[],[],[],[],[],false,0,m.elems,[],[]⟩ else if id = 10 then ⟨[],[],[],[],[],[],[],false,0,[],m.codes,[]⟩
 else ⟨[],[],[],[],[],[],[],false,0,[],[],m.datas⟩
theorem own_sub (m:M):∀ i ∈ own m,i ∈ ids ∧ 0 < cnt m i:=fun i hi=>by
 unfold own at hi
 rw [List.mem_filter] at hi
 exact ⟨hi.1,by simpa using hi.2⟩
theorem bY {α:Type} {l:List α} (h:¬ 0 < l.length):l = []:=List.eq_nil_of_length_eq_zero (by omega)
theorem of_own {m:M} (hs:m.hasStart = false → m.start = 0) {f:Nat → M} (h1:∀ i ∈ own m,f i = one m i) (h2:∀ i,i ∉ own m → f i = M.zero):M.of f = m:=by
 have key:∀ i ∈ ids,f i = if 0 < cnt m i then one m i else M.zero:=fun i hi=>by
  by_cases hc:0 < cnt m i
  ·rw [if_pos hc]
   exact h1 i (List.mem_filter.2 ⟨hi,by simpa using hc⟩)
  ·rw [if_neg hc]
   exact h2 i (fun hm=>hc (own_sub m i hm).2)
 have k1:=key 1 (by decide)
 have k2:=key 2 (by decide)
 have k3:=key 3 (by decide)
 have k4:=key 4 (by decide)
 have k5:=key 5 (by decide)
 have k6:=key 6 (by decide)
 have k7:=key 7 (by decide)
 have k8:=key 8 (by decide)
 have k9:=key 9 (by decide)
 have k10:=key 10 (by decide)
 have k11:=key 11 (by decide)
 clear key h1 h2
 obtain ⟨a1,a2,a3,a4,a5,a6,a7,a8,b8,a9,a10,a11⟩:=m
 unfold M.of
 congr 1
 ·rw [k1]
  split
  ·rfl
  ·next h=>rw [bY (l:=a1) h];rfl
 ·rw [k2]
  split
  ·rfl
  ·next h=>rw [bY (l:=a2) h];rfl
 ·rw [k3]
  split
  ·rfl
  ·next h=>rw [bY (l:=a3) h];rfl
 ·rw [k4]
  split
  ·rfl
  ·next h=>rw [bY (l:=a4) h];rfl
 ·rw [k5]
  split
  ·rfl
  ·next h=>rw [bY (l:=a5) h];rfl
 ·rw [k6]
  split
  ·rfl
  ·next h=>rw [bY (l:=a6) h];rfl
 ·rw [k7]
  split
  ·rfl
  ·next h=>rw [bY (l:=a7) h];rfl
 ·rw [k8];cases a8 <;> rfl
 ·rw [k8];cases a8
  ·exact (hs rfl).symm
  ·rfl
 ·rw [k9]
  split
  ·rfl
  ·next h=>rw [bY (l:=a9) h];rfl
 ·rw [k10]
  split
  ·rfl
  ·next h=>rw [bY (l:=a10) h];rfl
 ·rw [k11]
  split
  ·rfl
  ·next h=>rw [bY (l:=a11) h];rfl
end Bin
namespace Ru
open Bin Sp Ins
def lt:List FT:=[⟨[],[]⟩,⟨[126],[]⟩,⟨[127],[]⟩]
def least:M:=⟨lt,[],[0],[],[],[],[⟨main,0,0⟩],false,0,[],[⟨[],[]⟩],[]⟩
def sized (ts:List FT) (fs:List Nat) (tb ms:List Lim) (gs:List GV) (es:List Exp) (cs:List Cd):M:=⟨lt ++ ts,[],0 :: fs,tb,ms,gs,⟨main,0,0⟩ :: es,false,0,[],cs,[]⟩
def oneG:GV:=⟨⟨127,false⟩,[⟨65,0,0,0,[]⟩]⟩
section
variable {ts:List FT} {fs:List Nat} {tb ms:List Lim} {gs:List GV} {es:List Exp} {cs:List Cd}
theorem eO:func (sized ts fs tb ms gs es cs) 0 = some ⟨[],[]⟩:=by
 unfold func funs imps sized lt
 simp
theorem dl:((sized ts fs tb ms gs es cs).types[0]?).getD ⟨[],[]⟩ = ⟨[],[]⟩:=by
 unfold sized lt
 simp
theorem en (k:Nat) (hk:k < 4):count (sized ts fs tb ms gs es cs) k = if k = 0 then fs.length + 1 else if k = 1 then tb.length else if k = 2 then ms.length else gs.length:=by
 unfold count imported mine imps sized
 rw [if_pos hk]
 simp only [List.filter_nil,List.length_nil,Nat.zero_add,List.length_cons]
 (repeat' split) <;> first | rfl | omega
theorem eR:tabs (sized ts fs tb ms gs es cs) = tb:=by unfold tabs imps sized;simp
theorem eQ:mems (sized ts fs tb ms gs es cs) = ms:=by unfold mems imps sized;simp
theorem eP (h1:∀ t ∈ ts,t = ⟨[],[]⟩) (h2:∀ t ∈ fs,t = 0) (h3:cs.length = fs.length + 1) (h4:tb.length ≤ 1) (h5:ms.length ≤ 1) (h6:∀ l ∈ tb,l.min ≤ 4294967295 ∧ l.max = -1) (h7:∀ l ∈ ms,l.min ≤ 65536 ∧ l.max = -1) (h8:∀ g ∈ gs,g = oneG)
  (h9:∀ x ∈ es,x.kind = 0 ∧ x.index = 0) (h10:(main :: es.map (·.name)).Nodup) {hs:List Nat} (h11:Va.codesR (sized ts fs tb ms gs es cs) (0 :: fs) cs = .ok hs):Va.Good (sized ts fs tb ms gs es cs) hs:=by
 have hf:=eO (ts:=ts) (fs:=fs) (tb:=tb) (ms:=ms) (gs:=gs) (es:=es) (cs:=cs)
 have hcn:=fun k hk=>en (ts:=ts) (fs:=fs) (tb:=tb) (ms:=ms) (gs:=gs) (es:=es) (cs:=cs) k hk
 have e1:Va.shapeE (sized ts fs tb ms gs es cs) = 0:=by
  unfold Va.shapeE
  rw [Va.okE_zero (by decide)]
  simp only [Bool.and_eq_true,beq_iff_eq,List.all_eq_true,decide_eq_true_eq]
  refine ⟨⟨by simp [sized,h3],by simp [sized]⟩,fun x hx=>?_⟩
  have hx':x ∈ (⟨main,0,0⟩:Exp) :: es:=hx
  rcases List.mem_cons.1 hx' with rfl | hx'
  ·decide
  ·rw [(h9 x hx').1];decide
 have e2:Va.first Va.typE (sized ts fs tb ms gs es cs).types = 0:=by
  rw [Va.first_zero]
  intro t ht
  have ht':t ∈ lt ++ ts:=ht
  rcases List.mem_append.1 ht' with ht' | ht'
  ·simp [lt] at ht'
   rcases ht' with rfl | rfl | rfl <;> rfl
  ·rw [h1 t ht'];rfl
 have e4:Va.first (Va.funE (sized ts fs tb ms gs es cs)) (sized ts fs tb ms gs es cs).funcs = 0:=by
  rw [Va.first_zero]
  intro t ht
  have ht':t ∈ 0 :: fs:=ht
  have t0:t = 0:=by
   rcases List.mem_cons.1 ht' with h | h
   ·exact h
   ·exact h2 t h
  subst t0
  unfold Va.funE
  rw [Va.okE_zero (by decide)]
  simp [sized,lt]
 have e5:Va.countE (sized ts fs tb ms gs es cs) = 0:=by
  unfold Va.countE
  rw [Va.okE_zero (by decide),hcn 1 (by decide),hcn 2 (by decide)]
  simp [h4,h5]
 have e6:Va.first (Va.limE 4294967295) (tabs (sized ts fs tb ms gs es cs)) = 0:=by
  rw [eR,Va.first_zero]
  intro l hl
  unfold Va.limE
  rw [Va.okE_zero (by decide),(h6 l hl).2]
  simp [(h6 l hl).1]
 have e7:Va.first (Va.limE 65536) (mems (sized ts fs tb ms gs es cs)) = 0:=by
  rw [eQ,Va.first_zero]
  intro l hl
  unfold Va.limE
  rw [Va.okE_zero (by decide),(h7 l hl).2]
  simp [(h7 l hl).1]
 have e8:Va.first (Va.globE (sized ts fs tb ms gs es cs)) (sized ts fs tb ms gs es cs).globals = 0:=by
  rw [Va.first_zero]
  intro g hg
  rw [h8 g hg]
  rfl
 have e9:Va.expE (sized ts fs tb ms gs es cs) [] (sized ts fs tb ms gs es cs).exports = 0:=by
  rw [Va.expE_zero]
  refine ⟨fun x hx=>?_,h10⟩
  have hx':x ∈ (⟨main,0,0⟩:Exp) :: es:=hx
  have:x.kind = 0 ∧ x.index = 0:=by
   rcases List.mem_cons.1 hx' with rfl | hx'
   ·exact ⟨rfl,rfl⟩
   ·exact h9 x hx'
  rw [this.1,this.2]
  refine ⟨?_,by simp⟩
  rw [show (0:UInt8).toNat = 0 from rfl,hcn 0 (by decide)]
  simp
 have e3:Va.first (Va.impE (sized ts fs tb ms gs es cs)) (sized ts fs tb ms gs es cs).imports = 0:=rfl
 have e10:Va.startE (sized ts fs tb ms gs es cs) = 0:=rfl
 refine ⟨?_,h11,rfl⟩
 unfold Va.pre
 rw [Va.orE_at e1,Va.orE_at e2,Va.orE_at e3,Va.orE_at e4,Va.orE_at e5,Va.orE_at e6,Va.orE_at e7,Va.orE_at e8,Va.orE_at e9,Va.orE_at e10]
 rfl
theorem em (h9:∀ x ∈ es,x.kind = 0 ∧ x.index = 0) {hs:List Nat} (hg:Va.Good (sized ts fs tb ms gs es cs) hs):check (sized ts fs tb ms gs es cs) = if sizesB (sized ts fs tb ms gs es cs) hs = true then 0 else 122:=by
 unfold check
 rw [Va.check_ok.2 hg]
 dsimp only
 have h1:(sized ts fs tb ms gs es cs).imports.all (impB (sized ts fs tb ms gs es cs)) = true:=rfl
 have h2:expsB (sized ts fs tb ms gs es cs) = true:=by
  unfold expsB
  rw [Bool.and_eq_true]
  refine ⟨?_,?_⟩
  ·rw [List.all_eq_true]
   intro x hx
   have hx':x ∈ (⟨main,0,0⟩:Exp) :: es:=hx
   have:x.kind = 0 ∧ x.index = 0:=by
    rcases List.mem_cons.1 hx' with rfl | hx'
    ·exact ⟨rfl,rfl⟩
    ·exact h9 x hx'
   unfold expB
   rw [this.1,this.2,eO]
   simp
  ·rw [List.any_eq_true]
   exact ⟨⟨main,0,0⟩,List.mem_cons_self,by simp⟩
 rw [if_pos h1,if_pos h2]
theorem ei (c:Cd):Va.codeR (sized ts fs tb ms gs es cs) 0 c = Bo.chk (Bo.envOf (sized ts fs tb ms gs es cs) [] [] c.locals) (Bo.locB c.locals) c.body:=by
 unfold Va.codeR
 rw [dl]
theorem codesR_one {c:Cd} {h:Nat} (hc:Bo.chk (Bo.envOf (sized ts [] tb ms gs es [c]) [] [] c.locals) (Bo.locB c.locals) c.body = .ok h):Va.codesR (sized ts [] tb ms gs es [c]) [0] [c] = .ok [h]:=by
 rw [Va.codesR,ei,hc]
 rfl
end
theorem bz {E:Bo.Env} (hE:E.res = []):Bo.chk E true [] = .ok 0:=by
 unfold Bo.chk
 rw [if_pos (by rfl),if_pos rfl,Bo.run,hE]
 rfl
theorem chk_nops {E:Bo.Env} (hE:E.res = []):∀ n,Bo.chk E true (List.replicate n Bo.nop) = .ok 0
 | 0=>bz hE
 | n + 1=>by
  have h:=Bo.chk_nop E true [] (List.replicate n Bo.nop)
  rw [List.nil_append,List.nil_append] at h
  rw [List.replicate_succ,h,chk_nops hE n]
def deep:Nat → List I
 | 0=>[]
 | n + 1=>Bo.blk 64 :: (deep n ++ [Bo.endI])
theorem deep_len:∀ n,(deep n).length = 2 * n
 | 0=>rfl
 | n + 1=>by rw [deep,List.length_cons,List.length_append,deep_len n];simp;omega
theorem chk_deep {E:Bo.Env} (hE:E.res = []):∀ n,Bo.chk E true (deep n) = .ok 0
 | 0=>bz hE
 | n + 1=>by
  rw [deep,Bo.chk_block (chk_deep hE n) (by decide) (by rw [hE];rfl),hE]
  rfl
def cst:I:=⟨65,0,0,0,[]⟩
def unr:I:=⟨0,0,0,0,[]⟩
def brT (n:Nat):I:=⟨14,0,0,0,List.replicate n 0⟩
theorem one_cst {E:Bo.Env} (b:Bool) (k m:Nat):Bo.one E b cst ⟨List.replicate k 127,[⟨[],[],0,false⟩],m⟩ = .ok ⟨List.replicate (k + 1) 127,[⟨[],[],0,false⟩],max m (k + 1)⟩:=by
 have e1:Bo.one E b cst ⟨List.replicate k 127,[⟨[],[],0,false⟩],m⟩ = Bo.turned ⟨List.replicate k 127,[⟨[],[],0,false⟩],m⟩ [] [127]:=rfl
 rw [e1]
 have hw:(⟨List.replicate k 127,[⟨[],[],0,false⟩],m⟩:Ty.T).wout [] = some k:=by
  unfold Ty.T.wout
  rw [Ty.last_of (i:=[]) (f:=⟨[],[],0,false⟩) rfl]
  dsimp only
  unfold Ty.without
  rw [if_neg (by simp),if_pos (by simp [Ty.fitAll])]
  simp
 unfold Bo.turned Ty.T.wantA Ty.T.want
 rw [hw]
 simp only [Option.isSome_some,if_true]
 unfold Ty.T.cutTo Ty.T.push
 simp only [List.take_of_length_le (Nat.le_of_eq (List.length_replicate (n:=k) (a:=(127:UInt8)))),List.length_replicate,List.length_cons,List.length_nil]
 rw [List.replicate_succ']
theorem run_csts {E:Bo.Env} (r:List I):∀ (n k m:Nat),m = k → Bo.run E [] (List.replicate n cst ++ r) ⟨List.replicate k 127,[⟨[],[],0,false⟩],m⟩ = Bo.run E [] r ⟨List.replicate (k + n) 127,[⟨[],[],0,false⟩],k + n⟩
 | 0,k,m,h=>by subst h;rfl
 | n + 1,k,m,h=>by
  subst h
  rw [List.replicate_succ,List.cons_append,Bo.run,one_cst]
  have hs:Ins.step [] cst.op = some []:=rfl
  rw [hs]
  dsimp only
  rw [show max m (m + 1) = m + 1 from by omega,run_csts r n (m + 1) (m + 1) rfl,show m + 1 + n = m + (n + 1) from by omega]
theorem cL:∀ (xs:List I) (o:List Bool),(∀ x ∈ xs,x.op = 65 ∨ x.op = 0 ∨ x.op = 14) → Ins.steps o xs = some o
 | [],_,_=>rfl
 | x :: xs,o,h=>by
  rw [Ins.steps]
  have:Ins.step o x.op = some o:=by
   unfold Ins.step
   rcases h x (by simp) with e | e | e <;> rw [e] <;> simp
  rw [this]
  exact cL xs o (fun y hy=>h y (by simp [hy]))
theorem run_unr {E:Bo.Env} (n:Nat):Bo.run E [] [unr] ⟨List.replicate n 127,[⟨[],[],0,false⟩],n⟩ = .ok ⟨[],[⟨[],[],0,true⟩],n⟩:=by
 have hw:(⟨List.replicate n 127,[⟨[],[],0,false⟩],n⟩:Ty.T).wout [] = some n:=by
  unfold Ty.T.wout
  rw [Ty.last_of (i:=[]) (f:=⟨[],[],0,false⟩) rfl]
  dsimp only
  unfold Ty.without
  rw [if_neg (by simp),if_pos (by simp [Ty.fitAll])]
  simp
 have e1:Bo.one E (Bo.isIf []) unr ⟨List.replicate n 127,[⟨[],[],0,false⟩],n⟩ = Bo.goes ⟨List.replicate n 127,[⟨[],[],0,false⟩],n⟩ []:=rfl
 have hs:Ins.step [] unr.op = some []:=rfl
 rw [Bo.run,e1]
 unfold Bo.goes Ty.T.wantA Ty.T.want
 rw [hw]
 simp only [Option.isSome_some,if_true]
 rw [hs]
 rfl
theorem chk_csts {E:Bo.Env} (hE:E.res = []) (n:Nat):Bo.chk E true (List.replicate n cst ++ [unr]) = .ok n:=by
 unfold Bo.chk
 have hx:Ins.exprB (List.replicate n cst ++ [unr]) = true:=by
  unfold Ins.exprB
  rw [Bool.and_eq_true,beq_iff_eq]
  refine ⟨?_,cL _ _ ?_⟩
  ·rw [List.all_eq_true]
   intro x hx
   rcases List.mem_append.1 hx with h | h
   ·rw [(List.mem_replicate.1 h).2];rfl
   ·simp at h;subst h;rfl
  ·intro x hx
   rcases List.mem_append.1 hx with h | h
   ·rw [(List.mem_replicate.1 h).2];exact .inl rfl
   ·simp at h;subst h;exact .inr (.inl rfl)
 rw [if_pos hx,if_pos rfl,hE]
 have e0:Ty.T.new [] = ⟨List.replicate 0 127,[⟨[],[],0,false⟩],0⟩:=rfl
 rw [e0,run_csts _ n 0 0 rfl,Nat.zero_add,run_unr]
 rfl
theorem chk_brT {E:Bo.Env} (hE:E.res = []) (n:Nat):Bo.chk E true [cst,brT n] = .ok 1:=by
 unfold Bo.chk
 have hx:Ins.exprB [cst,brT n] = true:=by
  unfold Ins.exprB
  rw [Bool.and_eq_true,beq_iff_eq]
  refine ⟨?_,cL _ _ ?_⟩
  ·rw [List.all_cons,List.all_cons]
   have e2:Ins.may (brT n) = true:=by
    unfold Ins.may Ins.mayF brT
    rw [show Opc.known ((14:Nat):Int) = true by decide,show Opc.form ((14:Nat):Int) = 3 by decide]
    simp
   rw [e2]
   rfl
  ·intro x hx
   simp at hx
   rcases hx with rfl | rfl
   ·exact .inl rfl
   ·exact .inr (.inr rfl)
 rw [if_pos hx,if_pos rfl,hE]
 have e0:Ty.T.new [] = ⟨List.replicate 0 127,[⟨[],[],0,false⟩],0⟩:=rfl
 have hs:Ins.step [] cst.op = some []:=rfl
 have hs2:Ins.step [] (brT n).op = some []:=rfl
 rw [e0,Bo.run,one_cst,hs]
 dsimp only
 rw [Bo.run]
 have e1:Bo.one E (Bo.isIf []) (brT n) ⟨List.replicate (0 + 1) 127,[⟨[],[],0,false⟩],max 0 (0 + 1)⟩ = Bo.brTable 0 (List.replicate n 0) ⟨[127],[⟨[],[],0,false⟩],1⟩:=rfl
 have hl:(⟨[127],[⟨[],[],0,false⟩],1⟩:Ty.T).labelA 0 = some []:=rfl
 have e2:Bo.brTable 0 (List.replicate n 0) ⟨[127],[⟨[],[],0,false⟩],1⟩ = .ok ⟨[],[⟨[],[],0,true⟩],1⟩:=by
  unfold Bo.brTable
  rw [hl]
  dsimp only
  rw [if_pos (by rw [List.all_eq_true];intro x hx;rw [(List.mem_replicate.1 hx).2,hl];rfl),if_pos ⟨by rw [List.all_eq_true];intro x hx;rw [(List.mem_replicate.1 hx).2,hl];rfl,by rfl⟩]
  rfl
 rw [e1,e2,hs2]
 rfl
theorem fB:∀ n,nestB 0 (List.replicate n Bo.nop) = true
 | 0=>rfl
 | n + 1=>by
  rw [List.replicate_succ,nestB]
  have h:=fB n
  simp only [Bo.nop] at h ⊢
  simp [h]
theorem fA (r:List I) (hr:nestB 0 r = true):∀ n,nestB 0 (List.replicate n cst ++ r) = true
 | 0=>hr
 | n + 1=>by
  rw [List.replicate_succ,List.cons_append,nestB]
  have h:=fA r hr n
  simp only [cst] at h ⊢
  simp [h]
theorem nest_append:∀ (a b:List I) (o:Nat) (n:Nat),a = deep n → nestB o (a ++ b) = (decide (n = 0 ∨ o + n ≤ 64) && nestB o b):=by
 intro a b o n
 induction n generalizing a b o with
 | zero =>
  intro h
  subst h
  simp [deep]
 | succ n ih =>
  intro h
  subst h
  rw [deep,List.cons_append,nestB]
  have e:deep n ++ [Bo.endI] ++ b = deep n ++ (Bo.endI :: b):=by simp
  rw [e]
  have h1:(if 2 ≤ (Bo.blk 64).op ∧ (Bo.blk 64).op ≤ 4 then o + 1 else if (Bo.blk 64).op = 11 then o - 1 else o) = o + 1:=rfl
  (try dsimp only)
  rw [h1,ih _ _ (o + 1) rfl,nestB]
  have h2:(if 2 ≤ Bo.endI.op ∧ Bo.endI.op ≤ 4 then o + 1 + 1 else if Bo.endI.op = 11 then o + 1 - 1 else o + 1) = o:=rfl
  (try dsimp only)
  rw [h2]
  have h3:decide ((Bo.blk 64).op ≠ 14) = true:=rfl
  have h4:decide (Bo.endI.op ≠ 14) = true:=rfl
  rw [h3,h4]
  by_cases q:o + (n + 1) ≤ 64
  ·have q1:decide (o + 1 ≤ 64) = true:=decide_eq_true (by omega)
   have q2:decide (n = 0 ∨ o + 1 + n ≤ 64) = true:=decide_eq_true (by omega)
   have q3:decide (o ≤ 64) = true:=decide_eq_true (by omega)
   have q4:decide (n + 1 = 0 ∨ o + (n + 1) ≤ 64) = true:=decide_eq_true (by omega)
   rw [q1,q2,q3,q4]
   simp
  ·have q4:decide (n + 1 = 0 ∨ o + (n + 1) ≤ 64) = false:=decide_eq_false (by omega)
   rw [q4,Bool.false_and]
   by_cases q1:o + 1 ≤ 64
   ·have q2:decide (n = 0 ∨ o + 1 + n ≤ 64) = false:=decide_eq_false (by omega)
    rw [q2]
    simp
   ·rw [decide_eq_false q1]
    simp
theorem nest_deep (n:Nat):nestB 0 (deep n) = decide (n ≤ 64):=by
 have h:=nest_append (deep n) [] 0 n rfl
 rw [List.append_nil] at h
 rw [h]
 have:nestB 0 [] = true:=rfl
 rw [this,Bool.and_true]
 by_cases q:n ≤ 64
 ·rw [decide_eq_true q,decide_eq_true (by omega)]
 ·rw [decide_eq_false q,decide_eq_false (by omega)]
section
variable {ts:List FT} {fs:List Nat} {tb ms:List Lim} {gs:List GV} {es:List Exp} {cs:List Cd}
theorem eo (h1:∀ t ∈ ts,t = ⟨[],[]⟩):listsB (sized ts fs tb ms gs es cs) = (decide (ts.length + 3 ≤ 256) && (decide (fs.length + 1 ≤ 512) && (decide (gs.length ≤ 128) && ((decide (es.length + 1 ≤ 128) && es.all fun x=>decide (x.name.length ≤ 64)) && ((tb[0]?).all (fun l=>decide (l.min ≤ 1024)) && (ms[0]?).all (fun l=>decide (l.min ≤ 16))))))):=by
 unfold listsB
 rw [eR,eQ,en 3 (by decide)]
 have e1:((sized ts fs tb ms gs es cs).types.all fun t=>decide (t.params.length ≤ 16)) = true:=by
  rw [List.all_eq_true]
  intro t ht
  have ht':t ∈ lt ++ ts:=ht
  rcases List.mem_append.1 ht' with ht' | ht'
  ·simp [lt] at ht'
   rcases ht' with rfl | rfl | rfl <;> rfl
  ·rw [h1 t ht'];rfl
 have e2:(sized ts fs tb ms gs es cs).types.length = ts.length + 3:=by simp [sized,lt]
 have e3:(sized ts fs tb ms gs es cs).imports = []:=rfl
 have e4:(sized ts fs tb ms gs es cs).funcs.length = fs.length + 1:=rfl
 have e5:(sized ts fs tb ms gs es cs).exports.length = es.length + 1:=rfl
 have e6:((sized ts fs tb ms gs es cs).exports.all fun x=>decide (x.name.length ≤ 64)) = es.all fun x=>decide (x.name.length ≤ 64):=by simp [sized,main]
 have e7:(sized ts fs tb ms gs es cs).elems = []:=rfl
 have e8:(sized ts fs tb ms gs es cs).datas = []:=rfl
 rw [e1,e2,e3,e4,e5,e6,e7,e8]
 simp
theorem codesB_one {m:M} {c:Cd} {h:Nat} (hm:((m.types[0]?).getD (⟨[],[]⟩:FT)).params = []):codesB m [0] [c] [h] = (decide (runs c.locals ≤ 256) && (decide (c.body.length ≤ 8192) && (decide (h ≤ 512) && nestB 0 c.body))):=by
 unfold codesB codeB
 rw [hm]
 simp [codesB]
theorem aM {c:Cd} {h:Nat} (h1:∀ t ∈ ts,t = ⟨[],[]⟩) (h4:tb.length ≤ 1) (h5:ms.length ≤ 1) (h6:∀ l ∈ tb,l.min ≤ 4294967295 ∧ l.max = -1) (h7:∀ l ∈ ms,l.min ≤ 65536 ∧ l.max = -1) (h8:∀ g ∈ gs,g = oneG)
  (h9:∀ x ∈ es,x.kind = 0 ∧ x.index = 0) (h10:(main :: es.map (·.name)).Nodup) (hc:Bo.chk (Bo.envOf (sized ts [] tb ms gs es [c]) [] [] c.locals) (Bo.locB c.locals) c.body = .ok h) (b:Bool)
  (hb:((decide (ts.length + 3 ≤ 256) && (decide (0 + 1 ≤ 512) && (decide (gs.length ≤ 128) && ((decide (es.length + 1 ≤ 128) && es.all fun x=>decide (x.name.length ≤ 64)) && ((tb[0]?).all (fun l=>decide (l.min ≤ 1024)) && (ms[0]?).all (fun l=>decide (l.min ≤ 16))))))) && (decide (runs c.locals ≤ 256) && (decide (c.body.length ≤ 8192) && (decide (h ≤ 512) && nestB 0 c.body)))) = b) :
  check (sized ts [] tb ms gs es [c]) = if b = true then 0 else 122:=by
 rw [em h9 (eP h1 (by simp) rfl h4 h5 h6 h7 h8 h9 h10 (codesR_one hc))]
 unfold sizesB
 rw [eo h1,show (sized ts [] tb ms gs es [c]).funcs = [0] from rfl,show (sized ts [] tb ms gs es [c]).codes = [c] from rfl,codesB_one (by rw [dl]),← hb]
 rfl
end
theorem aj {α:Type} {p:α → Prop}:∀ x ∈ ([]:List α),p x:=nofun
theorem nd1:(main :: ([]:List Exp).map (·.name)).Nodup:=by simp
theorem rs0 (n:Nat):check (sized (List.replicate n ⟨[],[]⟩) [] [] [] [] [] [⟨[],[]⟩]) = if n + 3 ≤ 256 then 0 else 122:=by
 rw [aM (h:=0) (b:=decide (n + 3 ≤ 256)) (fun t ht=>(List.mem_replicate.1 ht).2) (by simp) (by simp) aj aj aj aj nd1 (bz rfl) (by simp [runs,nestB])]
 simp
def nmA (i:Nat):List UInt8:=[120,UInt8.ofNat (97 + i % 26),UInt8.ofNat (97 + i / 26 % 26),UInt8.ofNat (97 + i / 676)]
theorem nmA_inj {i j:Nat} (hi:i < 9000) (hj:j < 9000) (h:nmA i = nmA j):i = j:=by
 unfold nmA at h
 simp only [List.cons.injEq,and_true,true_and] at h
 obtain ⟨h1,h2,h3⟩:=h
 have f:∀ {a b:Nat},a < 256 → b < 256 → UInt8.ofNat a = UInt8.ofNat b → a = b:=fun {a b} ha hb e=>by
  have:=congrArg UInt8.toNat e
  simp only [UInt8.toNat_ofNat'] at this
  omega
 have e1:=f (by omega) (by omega) h1
 have e2:=f (by omega) (by omega) h2
 have e3:=f (by omega) (by omega) h3
 omega
def esA (n:Nat):List Exp:=(List.range n).map fun i=>⟨nmA i,0,0⟩
theorem esA_nodup {n:Nat} (hn:n ≤ 9000):(main :: (esA n).map (·.name)).Nodup:=by
 unfold esA
 rw [List.map_map,List.nodup_cons]
 refine ⟨fun h=>?_,?_⟩
 ·obtain ⟨i,_,e⟩:=List.mem_map.1 h
  have e':nmA i = main:=e
  unfold nmA main at e'
  injection e' with e1 _
  cases e1
 ·refine List.Pairwise.map _ (R:=fun a b=>a < b ∧ a < 9000 ∧ b < 9000) (fun a b h e=>?_) ?_
  ·have:=nmA_inj h.2.1 h.2.2 e
   omega
  ·refine List.Pairwise.imp_of_mem (fun {a b} ha hb h=>⟨h,?_,?_⟩) List.pairwise_lt_range
   ·have:=List.mem_range.1 ha;omega
   ·have:=List.mem_range.1 hb;omega
theorem rs1 (n:Nat) (hn:n ≤ 9000):check (sized [] [] [] [] [] (esA n) [⟨[],[]⟩]) = if n + 1 ≤ 128 then 0 else 122:=by
 have hl:(esA n).length = n:=by unfold esA;simp
 have ha:((esA n).all fun x=>decide (x.name.length ≤ 64)) = true:=by
  unfold esA
  rw [List.all_eq_true]
  intro x hx
  obtain ⟨i,_,rfl⟩:=List.mem_map.1 hx
  rfl
 rw [aM (h:=0) (b:=decide (n + 1 ≤ 128)) aj (by simp) (by simp) aj aj aj (fun x hx=>by
  obtain ⟨i,_,rfl⟩:=List.mem_map.1 hx
  exact ⟨rfl,rfl⟩) (esA_nodup hn) (bz rfl) (by rw [hl,ha];simp [runs,nestB])]
 simp
theorem ez {ts:List FT} {fs:List Nat} {tb ms:List Lim} {gs:List GV} {es:List Exp} {cs:List Cd}:∀ k,Va.codesR (sized ts fs tb ms gs es cs) (List.replicate k 0) (List.replicate k ⟨[],[]⟩) = .ok (List.replicate k 0)
 | 0=>rfl
 | k + 1=>by
  rw [List.replicate_succ,List.replicate_succ,Va.codesR,ei,ez k]
  have h:=bz (E:=Bo.envOf (sized ts fs tb ms gs es cs) [] [] []) rfl
  have h2:Bo.locB [] = true:=rfl
  dsimp only
  rw [h2,h]
  try rfl
theorem ex {m:M} (hm:((m.types[0]?).getD (⟨[],[]⟩:FT)).params = []):∀ k,codesB m (List.replicate k 0) (List.replicate k ⟨[],[]⟩) (List.replicate k 0) = true
 | 0=>rfl
 | k + 1=>by
  rw [List.replicate_succ,List.replicate_succ,codesB,ex hm k,hm]
  rfl
theorem rs2 (n:Nat):check (sized [] (List.replicate n 0) [] [] [] [] (⟨[],[]⟩ :: List.replicate n ⟨[],[]⟩)) = if n + 1 ≤ 512 then 0 else 122:=by
 have hg:=eP (ts:=[]) (fs:=List.replicate n 0) (tb:=[]) (ms:=[]) (gs:=[]) (es:=[]) (cs:=⟨[],[]⟩ :: List.replicate n ⟨[],[]⟩) (hs:=List.replicate (n + 1) 0) aj (fun t ht=>(List.mem_replicate.1 ht).2) (by simp) (by simp) (by simp) aj aj aj aj nd1 (ez (n + 1))
 rw [em aj hg]
 unfold sizesB
 rw [eo aj]
 have e:codesB (sized [] (List.replicate n 0) [] [] [] [] (⟨[],[]⟩ :: List.replicate n ⟨[],[]⟩)) (sized [] (List.replicate n 0) [] [] [] [] (⟨[],[]⟩ :: List.replicate n ⟨[],[]⟩)).funcs (sized [] (List.replicate n 0) [] [] [] [] (⟨[],[]⟩ :: List.replicate n ⟨[],[]⟩)).codes (List.replicate (n + 1) 0) = true:=ex (by rw [dl]) (n + 1)
 rw [e]
 simp
theorem rs3 (n:Nat):check (sized [] [] [] [] (List.replicate n oneG) [] [⟨[],[]⟩]) = if n ≤ 128 then 0 else 122:=by
 rw [aM (h:=0) (b:=decide (n ≤ 128)) aj (by simp) (by simp) aj aj (fun g hg=>(List.mem_replicate.1 hg).2) aj nd1 (bz rfl) (by simp [runs,nestB])]
 simp
theorem rs4 (n:Nat):check (sized [] [] [] [] [] [⟨List.replicate n 0,0,0⟩] [⟨[],[]⟩]) = if n ≤ 64 then 0 else 122:=by
 rw [aM (h:=0) (b:=decide (n ≤ 64)) aj (by simp) (by simp) aj aj aj (fun x hx=>by simp at hx;subst hx;exact ⟨rfl,rfl⟩) (by
  simp only [List.map_cons,List.map_nil,List.nodup_cons,List.mem_singleton,List.not_mem_nil,not_false_eq_true,List.nodup_nil,and_true]
  intro e
  cases n with
  | zero=>cases e
  | succ n =>
   rw [List.replicate_succ] at e
   unfold main at e
   injection e with e1 _
   cases e1) (bz rfl) (by simp [runs,nestB])]
 simp
theorem rs5 (n:Nat):check (sized [] [] [] [] [] [] [⟨[⟨n,126⟩],[]⟩]) = if n ≤ 256 then 0 else 122:=by
 have hlb:Bo.locB [⟨n,126⟩] = true:=by simp [Bo.locB]
 rw [aM (h:=0) (b:=decide (n ≤ 256)) aj (by simp) (by simp) aj aj aj aj nd1 (by dsimp only;rw [hlb];exact bz rfl) (by simp [runs,nestB];rfl)]
 simp
theorem rs6 (n:Nat):check (sized [] [] [] [] [] [] [⟨[],List.replicate n Bo.nop⟩]) = if n ≤ 8192 then 0 else 122:=by
 rw [aM (h:=0) (b:=decide (n ≤ 8192)) aj (by simp) (by simp) aj aj aj aj nd1 (chk_nops rfl n) (by dsimp only;rw [fB];simp [runs])]
 simp
theorem rs7 (n:Nat) (hn:n ≤ 4000):check (sized [] [] [] [] [] [] [⟨[],deep n⟩]) = if n ≤ 64 then 0 else 122:=by
 rw [aM (h:=0) (b:=decide (n ≤ 64)) aj (by simp) (by simp) aj aj aj aj nd1 (chk_deep rfl n) (by dsimp only;rw [nest_deep,deep_len,decide_eq_true (show 2 * n ≤ 8192 by omega)];simp [runs])]
 simp
theorem rs8 (n:Nat) (hn:n ≤ 4000):check (sized [] [] [] [] [] [] [⟨[],List.replicate n cst ++ [unr]⟩]) = if n ≤ 512 then 0 else 122:=by
 rw [aM (h:=n) (b:=decide (n ≤ 512)) aj (by simp) (by simp) aj aj aj aj nd1 (chk_csts rfl n) (by
  dsimp only
  rw [fA _ (by rfl),decide_eq_true (show (List.replicate n cst ++ [unr]).length ≤ 8192 by simp;omega)]
  simp [runs])]
 simp
theorem rs9 (n:Nat):check (sized [] [] [] [] [] [] [⟨[],[cst,brT n]⟩]) = if n ≤ 256 then 0 else 122:=by
 rw [aM (h:=1) (b:=decide (n ≤ 256)) aj (by simp) (by simp) aj aj aj aj nd1 (chk_brT rfl n) (by simp [runs,nestB,cst,brT])]
 simp
theorem rs10 (n:Nat) (hn:n ≤ 9000):check (sized [] [] [⟨n,-1⟩] [] [] [] [⟨[],[]⟩]) = if n ≤ 1024 then 0 else 122:=by
 rw [aM (h:=0) (b:=decide (n ≤ 1024)) aj (by simp) (by simp) (fun l hl=>by simp at hl;subst hl;exact ⟨by show n ≤ 4294967295;omega,rfl⟩) aj aj aj nd1 (bz rfl) (by simp [runs,nestB])]
 simp
theorem rs11 (n:Nat) (hn:n ≤ 9000):check (sized [] [] [] [⟨n,-1⟩] [] [] [⟨[],[]⟩]) = if n ≤ 16 then 0 else 122:=by
 rw [aM (h:=0) (b:=decide (n ≤ 16)) aj (by simp) (by simp) aj (fun l hl=>by simp at hl;subst hl;exact ⟨by show n ≤ 65536;omega,rfl⟩) aj aj nd1 (bz rfl) (by simp [runs,nestB])]
 simp
end Ru
