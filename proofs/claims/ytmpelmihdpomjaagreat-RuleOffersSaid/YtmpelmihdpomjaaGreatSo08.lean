/-
  Plain mathematics of a binary's sections: what their bytes are, what bytes begin with, and that each is the other's way back; a custom section anywhere; a beginning of a binary's bytes.
-/
import Derived.Test.YtmpelmihdpomjaaGreatSo01
import Derived.Test.YtmpelmihdpomjaaGreatSo02
import Derived.Test.YtmpelmihdpomjaaGreatSo07
set_option maxRecDepth 100000
set_option maxHeartbeats 4000000
namespace Sec
open Leb
structure S where
 id:Nat
 b:List UInt8
deriving DecidableEq
def begin8:List UInt8:=[0,97,115,109,1,0,0,0]
def enc (s:S):List UInt8:=UInt8.ofNat s.id :: (encU s.b.length ++ s.b)
def encAll (xs:List S):List UInt8:=xs.flatMap enc
def named (l:List UInt8):Bool:=okU l 32 && decide (run l + used l ≤ l.length) && U8.text ((l.drop (run l)).take (used l))
def hd:List UInt8 → Option (Nat × List UInt8 × List UInt8)
 | []=>none
 | x :: r=>if okU r 32 = true ∧ run r + used r ≤ r.length then some (x.toNat,(r.drop (run r)).take (used r),r.drop (run r + used r)) else none
def rd:Nat → Nat → List UInt8 → Option (List S)
 | 0,_,l=>if l = [] then some [] else none
 | f + 1,k,l=>if l = [] then some [] else match hd l with
  | none=>none
  | some (id,own,rest)=>if id = 0 then (if named own = true then rd f k rest else none) else if k < id ∧ id ≤ 11 then (rd f id rest).map (⟨id,own⟩ :: ·) else none
def split (l:List UInt8):Option (List S):=if l.take 8 = begin8 then rd l.length 0 (l.drop 8) else none
def hlen (l:List UInt8):Nat:=1 + run (l.drop 1) + used (l.drop 1)
end Sec
namespace Bin
open Leb Ins Sec
structure FT where
 params:List UInt8
 results:List UInt8
deriving DecidableEq
structure Lim where
 min:Nat
 max:Int
deriving DecidableEq
structure Glob where
 t:UInt8
 mu:Bool
deriving DecidableEq
structure Imp where
 mod:List UInt8
 name:List UInt8
 kind:UInt8
 type:Nat
 lim:Lim
 glob:Glob
deriving DecidableEq
structure GV where
 type:Glob
 init:List I
deriving DecidableEq
structure Exp where
 name:List UInt8
 kind:UInt8
 index:Nat
deriving DecidableEq
structure El where
 table:Nat
 off:List I
 funcs:List Nat
deriving DecidableEq
structure Lc where
 n:Nat
 t:UInt8
deriving DecidableEq
structure Cd where
 locals:List Lc
 body:List I
deriving DecidableEq
structure Da where
 mem:Nat
 off:List I
 b:List UInt8
deriving DecidableEq
structure M where
 types:List FT
 imports:List Imp
 funcs:List Nat
 tables:List Lim
 mems:List Lim
 globals:List GV
 exports:List Exp
 hasStart:Bool
 start:Nat
 elems:List El
 codes:List Cd
 datas:List Da
deriving DecidableEq
def M.zero:M:=⟨[],[],[],[],[],[],[],false,0,[],[],[]⟩
abbrev P (α:Type):=List UInt8 → Except Nat (α × Nat)
def P.ret {α:Type} (a:α):P α:=fun _=>.ok (a,0)
def P.fail {α:Type} (e:Nat):P α:=fun _=>.error e
def P.then {α β:Type} (p:P α) (f:α → P β):P β:=fun l=>match p l with
 | .error e=>.error e
 | .ok (a,k)=>match f a (l.drop k) with
  | .error e=>.error e
  | .ok (b,j)=>.ok (b,k + j)
def many {α:Type} (p:P α):Nat → P (List α)
 | 0=>P.ret []
 | n + 1=>p.then fun x=>(many p n).then fun xs=>P.ret (x :: xs)
def byte:P UInt8:=fun l=>match l with
 | []=>.error 60
 | x :: _=>.ok (x,1)
def num:P Nat:=rdNum
def list {α:Type} (p:P α):P (List α):=num.then fun n=>many p n
def name:P (List UInt8):=fun l=>if named l = true then .ok ((l.drop (run l)).take (used l),run l + used l) else .error 60
def value:P UInt8:=byte.then fun t=>if t = 125 ∨ t = 124 then P.fail 61 else if t = 127 ∨ t = 126 then P.ret t else P.fail 60
def flag:P Bool:=byte.then fun t=>if t = 0 then P.ret false else if t = 1 then P.ret true else P.fail 60
def lim:P Lim:=flag.then fun f=>num.then fun a=>if f = true then num.then fun b=>P.ret ⟨a,b⟩ else P.ret ⟨a,-1⟩
def table:P Lim:=byte.then fun t=>if t = 112 then lim else P.fail 60
def glob:P Glob:=value.then fun t=>flag.then fun m=>P.ret ⟨t,m⟩
def expr:P (List I):=fun l=>rdExpr (l.length + 1) [] l
def ft:P FT:=byte.then fun t=>if t = 96 then (list value).then fun p=>(list value).then fun r=>P.ret ⟨p,r⟩ else P.fail 60
def imp:P Imp:=name.then fun a=>name.then fun b=>byte.then fun k =>
 if k = 0 then num.then fun t=>P.ret ⟨a,b,0,t,⟨0,0⟩,⟨0,false⟩⟩
 else if k = 1 then table.then fun t=>P.ret ⟨a,b,1,0,t,⟨0,false⟩⟩
 else if k = 2 then lim.then fun t=>P.ret ⟨a,b,2,0,t,⟨0,false⟩⟩
 else if k = 3 then glob.then fun t=>P.ret ⟨a,b,3,0,⟨0,0⟩,t⟩
 else P.fail 60
def exp:P Exp:=name.then fun a=>byte.then fun k=>if k.toNat ≤ 3 then num.then fun i=>P.ret ⟨a,k,i⟩ else P.fail 60
def el:P El:=num.then fun t=>expr.then fun e=>(list num).then fun f=>P.ret ⟨t,e,f⟩
def loc:P Lc:=num.then fun n=>value.then fun t=>P.ret ⟨n,t⟩
def part:P (List UInt8):=num.then fun n=>fun l=>if n ≤ l.length then .ok (l.take n,n) else .error 60
def M.of (f:Nat → M):M:=⟨(f 1).types,(f 2).imports,(f 3).funcs,(f 4).tables,(f 5).mems,(f 6).globals,(f 7).exports,(f 8).hasStart,(f 8).start,(f 9).elems,(f 10).codes,(f 11).datas⟩
def whole1 (t:UInt8):Bool:=t == 127 || t == 126
def plain (l:List I):Bool:=l.all fun x=>Opc.known x.op && !Opc.float x.op
def M.good (m:M):Bool:=m.types.all (fun t=>t.params.all whole1 && t.results.all whole1) && m.imports.all (fun x=>decide (x.kind.toNat ≤ 3) && (!(x.kind == 3) || whole1 x.glob.t)) &&
 m.globals.all (fun g=>whole1 g.type.t && plain g.init) && m.codes.all (fun c=>c.locals.all (fun l=>whole1 l.t) && plain c.body) && m.elems.all (fun x=>plain x.off) && m.datas.all (fun x=>plain x.off)
end Bin
namespace Sp
open Bin
def imps (m:M) (k:Nat):List Imp:=m.imports.filter (fun x=>x.kind.toNat == k)
def funs (m:M):List Nat:=(imps m 0).map (·.type) ++ m.funcs
def tabs (m:M):List Lim:=(imps m 1).map (·.lim) ++ m.tables
def mems (m:M):List Lim:=(imps m 2).map (·.lim) ++ m.mems
def globs (m:M):List Glob:=(imps m 3).map (·.glob) ++ m.globals.map (·.type)
def mine (m:M) (k:Nat):Nat:=if k = 0 then m.funcs.length else if k = 1 then m.tables.length else if k = 2 then m.mems.length else if k = 3 then m.globals.length else 0
def imported (m:M) (k:Nat):Nat:=if k < 4 then (imps m k).length else 0
def count (m:M) (k:Nat):Nat:=imported m k + mine m k
def func (m:M) (i:Nat):Option FT:=(funs m)[i]?.bind fun t=>m.types[t]?
structure Few (m:M):Prop where
 imports:m.imports.length ≤ 4000
 funcs:m.funcs.length ≤ 4000
 tables:m.tables.length ≤ 4000
 mems:m.mems.length ≤ 4000
 globals:m.globals.length ≤ 4000
 exports:m.exports.length ≤ 4000
 types:m.types.length ≤ 4000
 each:∀ x ∈ m.types,x.params.length ≤ 4000 ∧ x.results.length ≤ 4000
structure Lots (m:M):Prop where
 imports:m.imports.length ≤ 1050000
 funcs:m.funcs.length ≤ 1050000
 tables:m.tables.length ≤ 1050000
 mems:m.mems.length ≤ 1050000
 globals:m.globals.length ≤ 1050000
 exports:m.exports.length ≤ 1050000
 types:m.types.length ≤ 1050000
 each:∀ x ∈ m.types,x.params.length ≤ 1050000 ∧ x.results.length ≤ 1050000
theorem Few.lots {m:M} (h:Few m):Lots m :=
 ⟨Nat.le_trans h.imports (by decide),Nat.le_trans h.funcs (by decide),Nat.le_trans h.tables (by decide),Nat.le_trans h.mems (by decide),Nat.le_trans h.globals (by decide),Nat.le_trans h.exports (by decide),Nat.le_trans h.types (by decide),fun x hx=>⟨Nat.le_trans (h.each x hx).1 (by decide),Nat.le_trans (h.each x hx).2 (by decide)⟩⟩
section
variable {α:Type}
theorem et {p:α → Bool} {xs:List α} {k:Nat} {x:α} (hx:xs[k]? = some x) (hp:p x = true):(xs.take (k + 1)).filter p = (xs.take k).filter p ++ [x]:=by
 rw [List.take_add_one,hx,List.filter_append]
 simp [hp]
theorem fD {p:α → Bool} {xs:List α} {k:Nat} {x:α} (hx:xs[k]? = some x) (hp:p x = false):(xs.take (k + 1)).filter p = (xs.take k).filter p:=by
 rw [List.take_add_one,hx,List.filter_append]
 simp [hp]
theorem fC (p:α → Bool) (xs:List α) (k:Nat):((xs.take k).filter p).length ≤ k:=by
 have:=List.length_filter_le p (xs.take k)
 have:=List.length_take_le k xs
 omega
theorem er {p:α → Bool} {xs:List α} {k:Nat} (h:xs.length ≤ k):(xs.take k).filter p = xs.filter p:=by rw [List.take_of_length_le h]
def bS (p:α → Bool) (l:List α) (k:Nat):Prop:=∀ j r,j < k → l[j]? = some r → p r = false
theorem bE (p:α → Bool) (l:List α):bS p l 0:=fun _ _ h=>absurd h (Nat.not_lt_zero _)
theorem bg {p:α → Bool} {l:List α} {k:Nat} {r:α} (hr:l[k]? = some r) (h:p r = false) (hno:bS p l k):bS p l (k + 1):=fun j r' hj hr'=>by
 by_cases hjk:j = k
 ·subst hjk
  rw [hr] at hr'
  injection hr' with hr'
  subst hr'
  exact h
 ·exact hno j r' (by omega) hr'
end
theorem bW (m:M) (k:Nat):(imps m k).length ≤ m.imports.length:=List.length_filter_le _ _
theorem imported_le (m:M) (k:Nat):imported m k ≤ m.imports.length:=by
 unfold imported
 split
 ·exact bW m k
 ·exact Nat.zero_le _
theorem aE {m:M} {k:Nat} (h:k < 4):imported m k = (imps m k).length:=by unfold imported;rw [if_pos h]
theorem imported_no {m:M} {k:Nat} (h:¬ k < 4):imported m k = 0:=by unfold imported;rw [if_neg h]
theorem row_own {α β:Type} {f:α → β} {xs:List α} {ys:List β} {i:Nat} (h:xs.length ≤ i):(xs.map f ++ ys)[i]? = ys[i - xs.length]?:=by
 rw [List.getElem?_append_right (by simpa using h)]
 simp
theorem ek (m:M):(funs m).length = count m 0:=by simp [funs,count,imported,mine]
theorem bk (m:M):(tabs m).length = count m 1:=by simp [tabs,count,imported,mine]
theorem bj (m:M):(mems m).length = count m 2:=by simp [mems,count,imported,mine]
theorem cE (m:M):(globs m).length = count m 3:=by simp [globs,count,imported,mine]
end Sp
namespace Bo
def runs:List Bin.Lc → Nat → Option UInt8
 | [],_=>none
 | x :: l,i=>if i < x.n then some x.t else runs l (i - x.n)
def local' (ps:List UInt8) (l:List Bin.Lc) (i:Nat):Option UInt8:=if i < ps.length then ps[i]? else runs l (i - ps.length)
def locB (l:List Bin.Lc):Bool:=l.all fun x=>x.n == 0 || (x.t == 127 || x.t == 126)
def ftP (t:Bin.FT):List UInt8 × List UInt8:=(t.params,t.results)
def envOf (m:Bin.M) (ps rs:List UInt8) (ls:List Bin.Lc):Env:=⟨fun i=>(Sp.func m i).map ftP,((Sp.tabs m)[0]?).isSome,fun i=>(m.types[i]?).map ftP,fun i=>local' ps ls i,fun i=>((Sp.globs m)[i]?).map fun g=>(g.t,g.mu),((Sp.mems m)[0]?).isSome,rs⟩
theorem run_err {E:Env}:∀ (xs:List Ins.I) (o o':List Bool) (s:Ty.T) (m:Nat),Ins.steps o xs = some o' → run E o xs s = .error m → eNum m
 | [],_,_,_,_,_,h=>by rw [run] at h;cases h
 | x :: xs,o,o',s,m,hs,h=>by
  rw [run] at h
  rw [Ins.steps] at hs
  split at h
  ·next e he =>
   injection h with h
   subst h
   exact e_one he
  ·next s1 h1 =>
   split at h
   ·next hn=>rw [hn] at hs;cases hs
   ·next o1 ho =>
    rw [ho] at hs
    exact run_err xs o1 o' s1 m hs h
theorem chk_err {E:Env} {lb:Bool} {xs:List Ins.I} {m:Nat} (h:chk E lb xs = .error m):m ≠ 0:=by
 unfold chk at h
 split at h
 ·next hx =>
  split at h
  ·split at h
   ·next e he =>
    injection h with h
    subst h
    rcases run_err xs [] _ _ _ (exprB_parts hx).2 he with e | e | e <;> omega
   ·split at h
    ·cases h
    ·injection h with h;omega
  ·injection h with h;omega
 ·injection h with h;omega
end Bo
namespace Va
open Bin Sp Ins
def wholeB (l:List UInt8):Bool:=l.all fun t=>t == 127 || t == 126
def constE (m:M) (l:List I) (t:UInt8):Nat:=match l with
 | [x]=>if x.op = 35 then (match (imps m 3)[x.a]? with
   | none=>80
   | some g=>if g.glob.mu = true then 110 else if g.glob.t = t then 0 else 100)
  else if x.op = 65 then (if t = 127 then 0 else 100)
  else if x.op = 66 then (if t = 126 then 0 else 100)
  else 110
 | _=>110
def orE (a b:Nat):Nat:=if a = 0 then b else a
def first {α:Type} (f:α → Nat):List α → Nat
 | []=>0
 | x :: xs=>orE (f x) (first f xs)
def okE (b:Bool) (n:Nat):Nat:=if b = true then 0 else n
def shapeE (m:M):Nat:=okE (m.codes.length == m.funcs.length && (m.imports.all fun x=>decide (x.kind.toNat < 4)) && (m.exports.all fun x=>decide (x.kind.toNat < 4))) 2
def typE (t:FT):Nat:=okE (decide (t.results.length ≤ 1) && (wholeB t.params && wholeB t.results)) 100
def impE (m:M) (x:Imp):Nat :=
 if x.kind.toNat = 0 then okE (decide (x.type < m.types.length)) 80
 else if x.kind.toNat = 3 then okE (x.glob.t == 127 || x.glob.t == 126) 100
 else 0
def funE (m:M) (t:Nat):Nat:=okE (decide (t < m.types.length)) 80
def limE (most:Nat) (l:Lim):Nat:=okE (decide (l.min ≤ most) && (decide (l.max = -1) || (decide ((l.min:Int) ≤ l.max) && decide (l.max ≤ (most:Int))))) 112
def countE (m:M):Nat:=okE (decide (count m 1 ≤ 1) && decide (count m 2 ≤ 1)) 112
def globE (m:M) (g:GV):Nat:=if (g.type.t == 127 || g.type.t == 126) = true then constE m g.init g.type.t else 100
def expE (m:M):List (List UInt8) → List Exp → Nat
 | _,[]=>0
 | seen,x :: xs=>if x.index < count m x.kind.toNat then (if x.name ∈ seen then 111 else expE m (seen ++ [x.name]) xs) else 80
def startE (m:M):Nat:=if m.hasStart = true then (match func m m.start with
  | none=>113
  | some f=>okE (f.params.isEmpty && f.results.isEmpty) 113) else 0
def thereE (m:M) (k i:Nat):Nat:=okE (decide (i < count m k)) 80
def elemE (m:M) (x:El):Nat:=orE (thereE m 1 x.table) (orE (constE m x.off 127) (first (thereE m 0) x.funcs))
def datE (m:M) (x:Da):Nat:=orE (thereE m 2 x.mem) (constE m x.off 127)
def codeR (m:M) (t:Nat) (c:Cd):Except Nat Nat :=
 Bo.chk (Bo.envOf m ((m.types[t]?).getD ⟨[],[]⟩).params ((m.types[t]?).getD ⟨[],[]⟩).results c.locals) (Bo.locB c.locals) c.body
def codesR (m:M):List Nat → List Cd → Except Nat (List Nat)
 | t :: ts,c :: cs=>match codeR m t c with
  | .error e=>.error e
  | .ok h=>match codesR m ts cs with
   | .error e=>.error e
   | .ok hs=>.ok (h :: hs)
 | _,_=>.ok []
def pre (m:M):Nat :=
 orE (shapeE m) (orE (first typE m.types) (orE (first (impE m) m.imports) (orE (first (funE m) m.funcs) (orE (countE m) (orE (first (limE 4294967295) (tabs m)) (orE (first (limE 65536) (mems m))
  (orE (first (globE m) m.globals) (orE (expE m [] m.exports) (orE (startE m) (first (elemE m) m.elems))))))))))
def check (m:M):Except Nat (List Nat) :=
 if pre m = 0 then (match codesR m m.funcs m.codes with
  | .error e=>.error e
  | .ok hs=>if first (datE m) m.datas = 0 then .ok hs else .error (first (datE m) m.datas))
 else .error (pre m)
theorem orE_zero {a b:Nat}:orE a b = 0 ↔ a = 0 ∧ b = 0:=by
 unfold orE
 split <;> simp_all
theorem orE_ne {a b:Nat} (h:a ≠ 0):orE a b = a:=by unfold orE;rw [if_neg h]
theorem orE_at {a b:Nat} (h:a = 0):orE a b = b:=by unfold orE;rw [if_pos h]
theorem okE_zero {b:Bool} {n:Nat} (hn:n ≠ 0):okE b n = 0 ↔ b = true:=by
 unfold okE
 split
 ·simp_all
 ·simp_all
theorem first_zero {α:Type} {f:α → Nat}:∀ {xs:List α},first f xs = 0 ↔ ∀ x ∈ xs,f x = 0
 | []=>by simp [first]
 | x :: xs=>by rw [first,orE_zero,first_zero];simp
theorem first_step {α:Type} {f:α → Nat} {xs:List α} {j:Nat} {x:α} (h:xs[j]? = some x):first f (xs.drop j) = orE (f x) (first f (xs.drop (j + 1))):=by
 obtain ⟨hj,e⟩:=List.getElem?_eq_some_iff.1 h
 rw [List.drop_eq_getElem_cons hj,e,first]
theorem first_end {α:Type} {f:α → Nat} {xs:List α} {j:Nat} (h:xs.length ≤ j):first f (xs.drop j) = 0:=by rw [List.drop_eq_nil_of_le h];rfl
theorem expE_zero {m:M}:∀ {xs:List Exp} {seen:List (List UInt8)},expE m seen xs = 0 ↔ (∀ x ∈ xs,x.index < count m x.kind.toNat ∧ x.name ∉ seen) ∧ (xs.map (·.name)).Nodup
 | [],_=>by simp [expE]
 | x :: xs,seen=>by
  rw [expE]
  split
  ·next h1 =>
   split
   ·next h2 =>
    refine ⟨fun h=>absurd h (by decide),fun h=>?_⟩
    exact absurd h2 (h.1 x (by simp)).2
   ·next h2 =>
    rw [expE_zero]
    simp only [List.map_cons,List.nodup_cons]
    constructor
    ·rintro ⟨a,b⟩
     refine ⟨?_,?_,b⟩
     ·intro y hy
      rcases List.mem_cons.1 hy with rfl | hy
      ·exact ⟨h1,h2⟩
      ·exact ⟨(a y hy).1,fun e=>(a y hy).2 (List.mem_append_left _ e)⟩
     ·intro hm
      obtain ⟨y,hy,e⟩:=List.mem_map.1 hm
      exact (a y hy).2 (List.mem_append_right _ (by rw [e];simp))
    ·rintro ⟨a,b,c⟩
     refine ⟨fun y hy=>⟨(a y (List.mem_cons_of_mem _ hy)).1,fun e=>?_⟩,c⟩
     rcases List.mem_append.1 e with e | e
     ·exact (a y (List.mem_cons_of_mem _ hy)).2 e
     ·exact b (List.mem_map.2 ⟨y,hy,by simpa using e⟩)
  ·next h1 =>
   refine ⟨fun h=>absurd h (by decide),fun h=>?_⟩
   exact absurd (h.1 x (by simp)).1 h1
theorem d7 {m:M}:∀ {ts:List Nat} {cs:List Cd} {hs:List Nat},codesR m ts cs = .ok hs → ts.length = cs.length → hs.length = cs.length
 | [],[],hs,h,_=>by rw [codesR] at h;injection h with h;subst h;rfl;simp
 | t :: ts,c :: cs,hs,h,hl=>by
  rw [codesR] at h
  split at h
  ·cases h
  ·split at h
   ·cases h
   ·next hs' h' =>
    injection h with h
    subst h
    simp [d7 h' (by simpa using hl)]
 | [],_ :: _,_,_,hl=>by simp at hl
 | _ :: _,[],_,_,hl=>by simp at hl
theorem eM {m:M}:∀ {ts:List Nat} {cs:List Cd} {hs:List Nat} {i t:Nat} {c:Cd},codesR m ts cs = .ok hs → ts[i]? = some t → cs[i]? = some c → ∃ h,codeR m t c = .ok h ∧ hs[i]? = some h
 | [],_,_,_,_,_,_,ht,_=>by simp at ht
 | _ :: _,[],_,_,_,_,_,_,hc=>by simp at hc
 | t :: ts,c :: cs,hs,i,t',c',h,ht,hc=>by
  rw [codesR] at h
  split at h
  ·cases h
  ·next h0 e0 =>
   split at h
   ·cases h
   ·next hs' h' =>
    injection h with h
    subst h
    cases i with
    | zero =>
     simp at ht hc
     subst ht hc
     exact ⟨h0,e0,by simp⟩
    | succ i =>
     simp at ht hc
     obtain ⟨x,hx,hy⟩:=eM h' ht hc
     exact ⟨x,hx,by simpa using hy⟩
theorem cW {m:M}:∀ {ts:List Nat} {cs:List Cd} {e:Nat},codesR m ts cs = .error e → e ≠ 0
 | [],_,_,h=>by simp [codesR] at h
 | _ :: _,[],_,h=>by simp [codesR] at h
 | t :: ts,c :: cs,e,h=>by
  rw [codesR] at h
  split at h
  ·next e' h' =>
   injection h with h
   subst h
   exact Bo.chk_err h'
  ·split at h
   ·next e' h' =>
    injection h with h
    subst h
    exact cW h'
   ·cases h
structure Good (m:M) (hs:List Nat):Prop where
 pre:pre m = 0
 codes:codesR m m.funcs m.codes = .ok hs
 datas:first (datE m) m.datas = 0
theorem check_ok {m:M} {hs:List Nat}:check m = .ok hs ↔ Good m hs:=by
 unfold check
 constructor
 ·intro h
  split at h
  ·next hp =>
   split at h
   ·cases h
   ·next hs' hc =>
    split at h
    ·next hd =>
     injection h with h
     subst h
     exact ⟨hp,hc,hd⟩
    ·cases h
  ·cases h
 ·rintro ⟨hp,hc,hd⟩
  rw [if_pos hp,hc]
  simp [hd]
theorem check_err {m:M} {e:Nat} (h:check m = .error e):e ≠ 0:=by
 unfold check at h
 split at h
 ·split at h
  ·next e' hc =>
   injection h with h
   subst h
   exact cW hc
  ·split at h
   ·cases h
   ·next hd =>
    injection h with h
    subst h
    exact hd
 ·next hp =>
  injection h with h
  subst h
  exact hp
section
variable {m:M} {hs:List Nat}
theorem Good.steps (h:Good m hs):shapeE m = 0 ∧ first typE m.types = 0 ∧ first (impE m) m.imports = 0 ∧ first (funE m) m.funcs = 0 ∧ countE m = 0 ∧ first (limE 4294967295) (tabs m) = 0 ∧ first (limE 65536) (mems m) = 0 ∧ first (globE m) m.globals = 0 ∧ expE m [] m.exports = 0 ∧ startE m = 0 ∧ first (elemE m) m.elems = 0:=by
 have:=h.pre
 unfold Va.pre at this
 simpa only [orE_zero] using this
theorem Good.shape (h:Good m hs):m.codes.length = m.funcs.length ∧ (∀ x ∈ m.imports,x.kind.toNat < 4) ∧ ∀ x ∈ m.exports,x.kind.toNat < 4:=by
 have:=h.steps.1
 unfold shapeE at this
 rw [okE_zero (by decide)] at this
 simp only [Bool.and_eq_true,beq_iff_eq,List.all_eq_true,decide_eq_true_eq] at this
 exact ⟨this.1.1,this.1.2,this.2⟩
theorem Good.few (h:Good m hs):count m 1 ≤ 1 ∧ count m 2 ≤ 1:=by
 have:=h.steps.2.2.2.2.1
 unfold countE at this
 rw [okE_zero (by decide)] at this
 simpa using this
theorem Good.types (h:Good m hs):∀ t ∈ m.types,t.results.length ≤ 1:=fun t ht=>by
 have:=first_zero.1 h.steps.2.1 t ht
 unfold typE at this
 rw [okE_zero (by decide)] at this
 simp only [Bool.and_eq_true,decide_eq_true_eq] at this
 exact this.1
theorem Good.funs (h:Good m hs):∀ t ∈ m.funcs,t < m.types.length:=fun t ht=>by
 have:=first_zero.1 h.steps.2.2.2.1 t ht
 unfold funE at this
 rw [okE_zero (by decide)] at this
 simpa using this
theorem Good.len (h:Good m hs):hs.length = m.codes.length:=d7 h.codes h.shape.1.symm
theorem Good.code (h:Good m hs) {i:Nat} {c:Cd} (hc:m.codes[i]? = some c) :
  ∃ f n,func m (imported m 0 + i) = some f ∧ Bo.chk (Bo.envOf m f.params f.results c.locals) (Bo.locB c.locals) c.body = .ok n ∧ hs[i]? = some n:=by
 have hi:i < m.funcs.length:=by rw [← h.shape.1];exact (List.getElem?_eq_some_iff.1 hc).1
 obtain ⟨t,ht⟩:∃ t,m.funcs[i]? = some t:=⟨_,List.getElem?_eq_getElem hi⟩
 obtain ⟨n,h1,h2⟩:=eM h.codes ht hc
 have htl:=h.funs t (List.mem_of_getElem? ht)
 refine ⟨m.types[t],n,?_,?_,h2⟩
 ·unfold func Sp.funs
  rw [row_own (by rw [aE (by decide)];omega),aE (by decide),Nat.add_sub_cancel_left,ht]
  simp [htl]
 ·unfold codeR at h1
  rw [List.getElem?_eq_getElem htl] at h1
  exact h1
theorem Good.elems (h:Good m hs):∀ x ∈ m.elems,x.table < count m 1 ∧ ∀ f ∈ x.funcs,f < count m 0:=fun x hx=>by
 have:=first_zero.1 h.steps.2.2.2.2.2.2.2.2.2.2 x hx
 unfold elemE at this
 rw [orE_zero,orE_zero,first_zero] at this
 unfold thereE at this
 rw [okE_zero (by decide)] at this
 refine ⟨by simpa using this.1,fun f hf=>?_⟩
 have h2:=this.2.2 f hf
 rw [okE_zero (by decide)] at h2
 simpa using h2
theorem Good.exports (h:Good m hs):∀ x ∈ m.exports,x.index < count m x.kind.toNat:=fun x hx=>((expE_zero.1 h.steps.2.2.2.2.2.2.2.2.1).1 x hx).1
theorem Good.start (h:Good m hs):m.hasStart = true → m.start < count m 0:=fun e=>by
 have:=h.steps.2.2.2.2.2.2.2.2.2.1
 unfold startE at this
 rw [if_pos e] at this
 split at this
 ·exact absurd this (by decide)
 ·next f hf =>
  unfold func at hf
  rw [Option.bind_eq_some_iff] at hf
  obtain ⟨k,hk,_⟩:=hf
  rw [← ek]
  exact (List.getElem?_eq_some_iff.1 hk).1
theorem ei {m m1:M} (hc:∀ k,count m1 k = count m k):∀ (xs:List Exp) (seen:List (List UInt8)),expE m1 seen xs = expE m seen xs
 | [],_=>rfl
 | x :: xs,seen=>by rw [expE,expE,hc,ei hc xs]
theorem dh {m m1:M} (hc:∀ t c,codeR m1 t c = codeR m t c):∀ (ts:List Nat) (cs:List Cd),codesR m1 ts cs = codesR m ts cs
 | [],_=>by simp [codesR]
 | _ :: _,[]=>by simp [codesR]
 | t :: ts,c :: cs=>by rw [codesR,codesR,hc,dh hc ts cs]
end
theorem Good.fewer {m:M} {hs:List Nat} (h:Good m hs) {es:List Exp} (he:es.Sublist m.exports):Good { m with exports:=es } hs:=by
 obtain ⟨h1,h2,h3,h4,h5,h6,h7,h8,h9,h10,h11⟩:=h.steps
 obtain ⟨m1,hm1⟩:∃ m1:M,m1 = { m with exports:=es }:=⟨_,rfl⟩
 have hcn:∀ k,count m1 k = count m k:=fun k=>by subst hm1;rfl
 have hcc:∀ t c,codeR m1 t c = codeR m t c:=fun t c=>by subst hm1;rfl
 have e1:shapeE m1 = 0:=by
  subst hm1
  unfold shapeE
  rw [okE_zero (by decide)]
  simp only [Bool.and_eq_true,beq_iff_eq,List.all_eq_true,decide_eq_true_eq]
  exact ⟨⟨h.shape.1,h.shape.2.1⟩,fun y hy=>h.shape.2.2 y (he.subset hy)⟩
 have e2:first typE m1.types = 0:=by subst hm1;exact h2
 have e3:first (impE m1) m1.imports = 0:=by subst hm1;exact h3
 have e4:first (funE m1) m1.funcs = 0:=by subst hm1;exact h4
 have e5:countE m1 = 0:=by subst hm1;exact h5
 have e6:first (limE 4294967295) (tabs m1) = 0:=by subst hm1;exact h6
 have e7:first (limE 65536) (mems m1) = 0:=by subst hm1;exact h7
 have e8:first (globE m1) m1.globals = 0:=by subst hm1;exact h8
 have e9:expE m1 [] m1.exports = 0:=by
  have hx1:m1.exports = es:=by subst hm1;rfl
  rw [hx1,ei hcn,expE_zero]
  rw [expE_zero] at h9
  exact ⟨fun y hy=>h9.1 y (he.subset hy),(he.map _).nodup h9.2⟩
 have e10:startE m1 = 0:=by subst hm1;exact h10
 have e11:first (elemE m1) m1.elems = 0:=by subst hm1;exact h11
 rw [← hm1]
 refine ⟨?_,?_,by subst hm1;exact h.datas⟩
 ·unfold Va.pre
  rw [orE_at e1,orE_at e2,orE_at e3,orE_at e4,orE_at e5,orE_at e6,orE_at e7,orE_at e8,orE_at e9,orE_at e10,e11]
 ·rw [dh hcc]
  subst hm1
  exact h.codes
end Va
namespace Bo
section
variable {E:Env} (g:Nat → Option (UInt8 × Bool)) (hE:∀ i,E.glob i = none)
include hE
theorem vari_glob {x:Ins.I} {s s':Ty.T} (h:vari E x s = .ok s'):vari { E with glob:=g } x s = .ok s':=by
 by_cases h35:x.op = 35
 ·unfold vari at h
  rw [h35] at h
  simp only [Nat.reduceEqDiff,or_self,if_false,if_true] at h
  unfold gget at h
  rw [hE] at h
  cases h
 ·by_cases h36:x.op = 36
  ·unfold vari at h
   rw [h36] at h
   simp only [Nat.reduceEqDiff,or_self,if_false,if_true] at h
   unfold gset at h
   rw [hE] at h
   cases h
  ·unfold vari at h ⊢
   rw [if_neg h35,if_neg h36] at h ⊢
   exact h
theorem one_glob {b:Bool} {x:Ins.I} {s s':Ty.T} (h:one E b x s = .ok s'):one { E with glob:=g } b x s = .ok s':=by
 unfold one at h ⊢
 split at h
 ·next q=>rw [if_pos q];exact h
 ·next q =>
  rw [if_neg q]
  split at h
  ·next q=>rw [if_pos q];exact h
  ·next q =>
   rw [if_neg q]
   split at h
   ·next q=>rw [if_pos q];exact h
   ·next q =>
    rw [if_neg q]
    unfold flow at h ⊢
    by_cases q1:x.op = 12
    ·rw [if_pos q1] at h ⊢;exact h
    by_cases q2:x.op = 13
    ·rw [if_neg q1,if_pos q2] at h ⊢;exact h
    by_cases q3:x.op = 14
    ·rw [if_neg q1,if_neg q2,if_pos q3] at h ⊢;exact h
    by_cases q4:x.op = 15
    ·rw [if_neg q1,if_neg q2,if_neg q3,if_pos q4] at h ⊢;exact h
    by_cases q5:x.op = 0
    ·rw [if_neg q1,if_neg q2,if_neg q3,if_neg q4,if_pos q5] at h ⊢;exact h
    by_cases q6:x.op = 16
    ·rw [if_neg q1,if_neg q2,if_neg q3,if_neg q4,if_neg q5,if_pos q6] at h ⊢;exact h
    by_cases q7:x.op = 17
    ·rw [if_neg q1,if_neg q2,if_neg q3,if_neg q4,if_neg q5,if_neg q6,if_pos q7] at h ⊢;exact h
    rw [if_neg q1,if_neg q2,if_neg q3,if_neg q4,if_neg q5,if_neg q6,if_neg q7] at h ⊢
    exact vari_glob g hE h
theorem run_glob:∀ {xs:List Ins.I} {o:List Bool} {s s':Ty.T},run E o xs s = .ok s' → run { E with glob:=g } o xs s = .ok s'
 | [],_,_,_,h=>by rw [run] at h ⊢;exact h
 | x :: xs,o,s,s',h=>by
  rw [run] at h ⊢
  split at h
  ·cases h
  ·next s1 h1 =>
   rw [one_glob g hE h1]
   dsimp only
   split at h
   ·cases h
   ·next o1 h2 =>
    exact run_glob h
theorem chk_glob {lb:Bool} {xs:List Ins.I} {n:Nat} (h:chk E lb xs = .ok n):chk { E with glob:=g } lb xs = .ok n:=by
 obtain ⟨h1,h2,s,h3,h4,h5⟩:=chk_parts h
 have h6:=run_glob g hE h3
 unfold chk
 rw [if_pos h1,if_pos h2]
 dsimp only
 rw [h6]
 dsimp only
 rw [if_pos h4,h5]
end
end Bo
namespace Ru
open Bin Sp Ins
def host:List (List UInt8 × FT):=[
 ([105,110,112,117,116,95,108,101,110],⟨[],[127]⟩),
 ([105,110,112,117,116],⟨[127,127,127],[]⟩),
 ([99,97,108,108,101,114],⟨[127],[]⟩),
 ([115,101,108,102],⟨[127],[]⟩),
 ([118,97,108,117,101],⟨[],[126]⟩),
 ([98,97,108,97,110,99,101],⟨[127],[126]⟩),
 ([114,101,97,100],⟨[127,127,127,127],[127]⟩),
 ([119,114,105,116,101],⟨[127,127,127,127],[]⟩),
 ([114,101,109,111,118,101],⟨[127,127],[127]⟩),
 ([101,109,105,116],⟨[127,127],[]⟩),
 ([99,97,108,108],⟨[127,126,126,127,127],[127]⟩),
 ([114,101,116,95,108,101,110],⟨[],[127]⟩),
 ([114,101,116],⟨[127,127,127],[]⟩),
 ([102,105,110,105,115,104],⟨[127,127],[]⟩),
 ([114,101,118,101,114,116],⟨[127,127],[]⟩),
 ([103,97,115,95,108,101,102,116],⟨[],[126]⟩)]
def env:List UInt8:=[101,110,118]
def main:List UInt8:=[109,97,105,110]
def init:List UInt8:=[105,110,105,116]
def find (nm:List UInt8):Option Nat:=host.findIdx? fun h=>h.1 == nm
def nestB:Nat → List I → Bool
 | _,[]=>true
 | o,x :: xs =>
  let o':=if 2 ≤ x.op ∧ x.op ≤ 4 then o + 1 else if x.op = 11 then o - 1 else o
  decide (o' ≤ 64) && (decide (x.op ≠ 14) || decide (x.l.length ≤ 256)) && nestB o' xs
def runs:List Lc → Nat
 | []=>0
 | x :: l=>x.n + runs l
def codeB (np:Nat) (c:Cd) (h:Nat):Bool:=decide (np + runs c.locals ≤ 256) && (decide (c.body.length ≤ 8192) && (decide (h ≤ 512) && nestB 0 c.body))
def codesB (m:M):List Nat → List Cd → List Nat → Bool
 | t :: ts,c :: cs,h :: hs=>codeB ((m.types[t]?).getD ⟨[],[]⟩).params.length c h && codesB m ts cs hs
 | _,_,_=>true
def listsB (m:M):Bool :=
 (decide (m.types.length ≤ 256) && m.types.all fun t=>decide (t.params.length ≤ 16)) &&
 ((decide (m.imports.length ≤ 64) && m.imports.all fun x=>decide (x.mod.length ≤ 64) && decide (x.name.length ≤ 64)) &&
 (decide (m.funcs.length ≤ 512) && (decide (count m 3 ≤ 128) &&
 ((decide (m.exports.length ≤ 128) && m.exports.all fun x=>decide (x.name.length ≤ 64)) &&
 ((decide (m.elems.length ≤ 64) && m.elems.all fun x=>decide (x.funcs.length ≤ 1024)) &&
 (decide (m.datas.length ≤ 64) && (((tabs m)[0]?).all (fun l=>decide (l.min ≤ 1024)) && ((mems m)[0]?).all (fun l=>decide (l.min ≤ 16)))))))))
def sizesB (m:M) (hs:List Nat):Bool:=listsB m && codesB m m.funcs m.codes hs
def impB (m:M) (x:Imp):Bool:=x.kind == 0 && (x.mod == env && match find x.name with
 | none=>false
 | some n=>decide (m.types[x.type]? = (host[n]?).map (·.2)))
def expB (m:M) (x:Exp):Bool:=!(x.name == main || x.name == init) || (x.kind == 0 && match func m x.index with
 | none=>false
 | some f=>f.params.isEmpty && f.results.isEmpty)
def expsB (m:M):Bool:=(m.exports.all (expB m)) && m.exports.any fun x=>x.name == main
def check (m:M):Nat:=match Va.check m with
 | .error e=>e
 | .ok hs=>if sizesB m hs = true then (if m.imports.all (impB m) = true then (if expsB m = true then 0 else 121) else 120) else 122
theorem check_zero {m:M}:check m = 0 ↔ ∃ hs,Va.Good m hs ∧ sizesB m hs = true ∧ (∀ x ∈ m.imports,impB m x = true) ∧ expsB m = true:=by
 unfold check
 cases h:Va.check m with
 | error e =>
  have he:=Va.check_err h
  refine ⟨fun e0=>absurd e0 he,?_⟩
  rintro ⟨hs,hg,_⟩
  rw [Va.check_ok.2 hg] at h
  cases h
 | ok hs =>
  dsimp only
  constructor
  ·intro h2
   split at h2
   ·next h3 =>
    split at h2
    ·next h4 =>
     split at h2
     ·next h5=>exact ⟨hs,Va.check_ok.1 h,h3,List.all_eq_true.1 h4,h5⟩
     ·cases h2
    ·cases h2
   ·cases h2
  ·rintro ⟨hs',hg,h3,h4,h5⟩
   have e:=Va.check_ok.2 hg
   rw [h] at e
   injection e with e
   subst e
   rw [if_pos h3,if_pos (List.all_eq_true.2 h4),if_pos h5]
section
variable {m:M}
theorem offered {x:Imp} (h:impB m x = true):x.kind = 0 ∧ x.mod = env ∧ ∃ n t,find x.name = some n ∧ m.types[x.type]? = some t ∧ host[n]? = some (x.name,t):=by
 unfold impB at h
 simp only [Bool.and_eq_true,beq_iff_eq] at h
 obtain ⟨h1,h2,h3⟩:=h
 split at h3
 ·cases h3
 ·next n hn =>
  obtain ⟨hl,hp,_⟩:=List.findIdx?_eq_some_iff_getElem.1 hn
  have h4:=of_decide_eq_true h3
  have hg:host[n]? = some host[n]:=List.getElem?_eq_getElem hl
  rw [hg] at h4
  have hx:host[n].1 = x.name:=by simpa using hp
  refine ⟨h1,h2,n,host[n].2,hn,h4,?_⟩
  rw [hg,← hx]
theorem no_main (h:check m = 0):check { m with exports:=m.exports.filter fun x=>x.name != main } = 121:=by
 obtain ⟨hs,hg,h1,h2,_⟩:=check_zero.1 h
 have hsub:(m.exports.filter fun x=>x.name != main).Sublist m.exports:=List.filter_sublist
 have hg':=hg.fewer hsub
 have hsz:sizesB { m with exports:=m.exports.filter fun x=>x.name != main } hs = true:=by
  unfold sizesB at h1 ⊢
  rw [Bool.and_eq_true] at h1 ⊢
  refine ⟨?_,?_⟩
  ·have:=h1.1
   unfold listsB at this ⊢
   simp only [Bool.and_eq_true,decide_eq_true_eq,List.all_eq_true] at this ⊢
   obtain ⟨a1,a2,a3,a4,⟨a5,a6⟩,a7⟩:=this
   exact ⟨a1,a2,a3,a4,⟨Nat.le_trans hsub.length_le a5,fun x hx=>a6 x (hsub.subset hx)⟩,a7⟩
  ·have hc:∀ (ts:List Nat) (cs:List Cd) (hs:List Nat),codesB { m with exports:=m.exports.filter fun x=>x.name != main } ts cs hs = codesB m ts cs hs:=by
    intro ts
    induction ts with
    | nil=>intro cs hs;simp [codesB]
    | cons t ts ih =>
     intro cs hs
     cases cs with
     | nil=>simp [codesB]
     | cons c cs =>
      cases hs with
      | nil=>simp [codesB]
      | cons h hs=>simp only [codesB,ih]
   rw [hc]
   exact h1.2
 unfold check
 rw [Va.check_ok.2 hg']
 dsimp only
 have h2':({ m with exports:=m.exports.filter fun x=>x.name != main }:M).imports.all (impB { m with exports:=m.exports.filter fun x=>x.name != main }) = true:=List.all_eq_true.2 h2
 have h3':¬ expsB { m with exports:=m.exports.filter fun x=>x.name != main } = true:=by
  unfold expsB
  simp
 rw [if_pos hsz,if_pos h2',if_neg h3']
def extra (nm:List UInt8):Imp:=⟨env,nm,3,0,⟨0,0⟩,⟨127,false⟩⟩
theorem one_more (h:check m = 0) (nm:List UInt8) (hn:nm.length ≤ 64) (hl:m.imports.length < 64) (hg0:m.globals = []):check { m with imports:=m.imports ++ [extra nm] } = 120:=by
 obtain ⟨hs,hg,h1,h2,_⟩:=check_zero.1 h
 have hk:∀ x ∈ m.imports,x.kind = 0:=fun x hx=>(offered (h2 x hx)).1
 obtain ⟨m1,hm1⟩:∃ m1:M,m1 = { m with imports:=m.imports ++ [extra nm] }:=⟨_,rfl⟩
 have i1:m1.imports = m.imports ++ [extra nm]:=by rw [hm1]
 have ifl:∀ k,k ≠ 3 → imps m1 k = imps m k:=fun k hk3=>by
  unfold imps
  rw [i1,List.filter_append]
  have:[extra nm].filter (fun x=>x.kind.toNat == k) = []:=by
   simp only [List.filter_cons,List.filter_nil]
   rw [if_neg]
   show ¬ ((3:Nat) == k) = true
   rw [beq_iff_eq]
   omega
  rw [this,List.append_nil]
 have i3:imps m 3 = []:=by
  unfold imps
  rw [List.filter_eq_nil_iff]
  intro x hx
  rw [hk x hx]
  decide
 have fe:funs m1 = funs m:=by unfold funs;rw [ifl 0 (by decide),hm1]
 have te:tabs m1 = tabs m:=by unfold tabs;rw [ifl 1 (by decide),hm1]
 have me:mems m1 = mems m:=by unfold mems;rw [ifl 2 (by decide),hm1]
 have ge:globs m = []:=by unfold globs;rw [i3,hg0];rfl
 have fne:∀ i,func m1 i = func m i:=fun i=>by unfold func;rw [fe,hm1]
 have cle:∀ k,count m k ≤ count m1 k:=fun k=>by
  unfold count imported
  have hmi:mine m1 k = mine m k:=by rw [hm1];rfl
  rw [hmi]
  split
  ·have:(imps m k).length ≤ (imps m1 k).length:=by
    unfold imps
    rw [i1,List.filter_append,List.length_append]
    omega
   omega
  ·omega
 have ceq:∀ k,k ≠ 3 → count m1 k = count m k:=fun k hk3=>by
  unfold count imported
  have hmi:mine m1 k = mine m k:=by rw [hm1];rfl
  rw [hmi,ifl k hk3]
 have cst:∀ (l:List I) (t:UInt8),Va.constE m l t = 0 → Va.constE m1 l t = 0:=fun l t hc=>by
  match l with
  | []=>exact hc
  | _ :: _ :: _=>exact hc
  | [x] =>
   unfold Va.constE at hc ⊢
   dsimp only at hc ⊢
   split at hc
   ·rw [i3] at hc
    simp at hc
   ·next h35=>rw [if_neg h35];exact hc
 have hcode:∀ (t:Nat) (c:Cd) (n:Nat),Va.codeR m t c = .ok n → Va.codeR m1 t c = .ok n:=fun t c n hc=>by
  unfold Va.codeR at hc ⊢
  have ht:m1.types = m.types:=by rw [hm1]
  rw [ht]
  have he:Bo.envOf m1 ((m.types[t]?).getD ⟨[],[]⟩).params ((m.types[t]?).getD ⟨[],[]⟩).results c.locals = { Bo.envOf m ((m.types[t]?).getD ⟨[],[]⟩).params ((m.types[t]?).getD ⟨[],[]⟩).results c.locals with glob:=fun i=>((globs m1)[i]?).map fun g=>(g.t,g.mu) }:=by
   unfold Bo.envOf
   simp only [fne,te,me,ht]
  rw [he]
  exact Bo.chk_glob _ (fun i=>by simp [Bo.envOf,ge]) hc
 have hcodes:∀ (ts:List Nat) (cs:List Cd) (hs:List Nat),Va.codesR m ts cs = .ok hs → Va.codesR m1 ts cs = .ok hs:=by
  intro ts
  induction ts with
  | nil=>intro cs hs h;simpa [Va.codesR] using h
  | cons t ts ih =>
   intro cs hs h
   cases cs with
   | nil=>simpa [Va.codesR] using h
   | cons c cs =>
    rw [Va.codesR] at h ⊢
    split at h
    ·cases h
    ·next n hn =>
     rw [hcode t c n hn]
     dsimp only
     split at h
     ·cases h
     ·next hs' hh =>
      rw [ih cs hs' hh]
      exact h
 obtain ⟨s1,s2,s3,s4,s5,s6,s7,s8,s9,s10,s11⟩:=hg.steps
 have e1:Va.shapeE m1 = 0:=by
  unfold Va.shapeE
  rw [Va.okE_zero (by decide)]
  simp only [Bool.and_eq_true,beq_iff_eq,List.all_eq_true,decide_eq_true_eq]
  refine ⟨⟨by rw [hm1];exact hg.shape.1,?_⟩,by rw [hm1];exact hg.shape.2.2⟩
  rw [i1]
  intro x hx
  rcases List.mem_append.1 hx with hx | hx
  ·exact hg.shape.2.1 x hx
  ·simp at hx;subst hx;exact (by decide:(3:UInt8).toNat < 4)
 have e2:Va.first Va.typE m1.types = 0:=by rw [hm1];exact s2
 have e3:Va.first (Va.impE m1) m1.imports = 0:=by
  rw [Va.first_zero,i1]
  intro x hx
  rcases List.mem_append.1 hx with hx | hx
  ·have:=Va.first_zero.1 s3 x hx
   rw [hm1]
   exact this
  ·simp at hx;subst hx;rfl
 have e4:Va.first (Va.funE m1) m1.funcs = 0:=by rw [hm1];exact s4
 have e5:Va.countE m1 = 0:=by
  unfold Va.countE at s5 ⊢
  rw [ceq 1 (by decide),ceq 2 (by decide)]
  exact s5
 have e6:Va.first (Va.limE 4294967295) (tabs m1) = 0:=by rw [te];exact s6
 have e7:Va.first (Va.limE 65536) (mems m1) = 0:=by rw [me];exact s7
 have e8:Va.first (Va.globE m1) m1.globals = 0:=by
  have:m1.globals = []:=by rw [hm1];exact hg0
  rw [this]
  rfl
 have e9:Va.expE m1 [] m1.exports = 0:=by
  have:m1.exports = m.exports:=by rw [hm1]
  rw [this,Va.expE_zero]
  rw [Va.expE_zero] at s9
  exact ⟨fun x hx=>⟨Nat.lt_of_lt_of_le (s9.1 x hx).1 (cle _),(s9.1 x hx).2⟩,s9.2⟩
 have e10:Va.startE m1 = 0:=by
  unfold Va.startE at s10 ⊢
  rw [fne]
  rw [hm1]
  exact s10
 have e11:Va.first (Va.elemE m1) m1.elems = 0:=by
  have:m1.elems = m.elems:=by rw [hm1]
  rw [this,Va.first_zero]
  rw [Va.first_zero] at s11
  intro x hx
  have hx2:=s11 x hx
  unfold Va.elemE at hx2 ⊢
  rw [Va.orE_zero,Va.orE_zero,Va.first_zero] at hx2 ⊢
  unfold Va.thereE at hx2 ⊢
  rw [ceq 1 (by decide),ceq 0 (by decide)]
  exact ⟨hx2.1,cst _ _ hx2.2.1,hx2.2.2⟩
 have e12:Va.first (Va.datE m1) m1.datas = 0:=by
  have:m1.datas = m.datas:=by rw [hm1]
  rw [this,Va.first_zero]
  have hd:=Va.first_zero.1 hg.datas
  intro x hx
  have hx2:=hd x hx
  unfold Va.datE at hx2 ⊢
  rw [Va.orE_zero] at hx2 ⊢
  unfold Va.thereE at hx2 ⊢
  rw [ceq 2 (by decide)]
  exact ⟨hx2.1,cst _ _ hx2.2⟩
 have hg1:Va.Good m1 hs:=by
  refine ⟨?_,?_,e12⟩
  ·unfold Va.pre
   rw [Va.orE_at e1,Va.orE_at e2,Va.orE_at e3,Va.orE_at e4,Va.orE_at e5,Va.orE_at e6,Va.orE_at e7,Va.orE_at e8,Va.orE_at e9,Va.orE_at e10,e11]
  ·have h1:m1.funcs = m.funcs:=by rw [hm1]
   have h2:m1.codes = m.codes:=by rw [hm1]
   rw [h1,h2]
   exact hcodes _ _ _ hg.codes
 have hsz:sizesB m1 hs = true:=by
  unfold sizesB at h1 ⊢
  rw [Bool.and_eq_true] at h1 ⊢
  refine ⟨?_,?_⟩
  ·have:=h1.1
   unfold listsB at this ⊢
   rw [te,me]
   have q1:m1.types = m.types:=by rw [hm1]
   have q2:m1.funcs = m.funcs:=by rw [hm1]
   have q3:m1.exports = m.exports:=by rw [hm1]
   have q4:m1.elems = m.elems:=by rw [hm1]
   have q5:m1.datas = m.datas:=by rw [hm1]
   rw [q1,q2,q3,q4,q5,i1]
   simp only [Bool.and_eq_true,decide_eq_true_eq,List.all_eq_true] at this ⊢
   obtain ⟨a1,⟨_,a2⟩,a3,_,a5⟩:=this
   refine ⟨a1,⟨by simp;omega,?_⟩,a3,?_,a5⟩
   ·intro x hx
    rcases List.mem_append.1 hx with hx | hx
    ·exact a2 x hx
    ·simp at hx;subst hx;exact ⟨(by decide:env.length ≤ 64),hn⟩
   ·rw [← cE]
    unfold globs
    have:imps m1 3 = [extra nm]:=by
     unfold imps at i3 ⊢
     rw [i1,List.filter_append,i3]
     rfl
    rw [this,hm1]
    show ([extra nm].map (·.glob) ++ m.globals.map (·.type)).length ≤ 128
    rw [hg0]
    exact (by decide:(1:Nat) ≤ 128)
  ·have hc:∀ (ts:List Nat) (cs:List Cd) (hs:List Nat),codesB m1 ts cs hs = codesB m ts cs hs:=by
    intro ts
    induction ts with
    | nil=>intro cs hs;simp [codesB]
    | cons t ts ih =>
     intro cs hs
     cases cs with
     | nil=>simp [codesB]
     | cons c cs =>
      cases hs with
      | nil=>simp [codesB]
      | cons h hs=>simp only [codesB,ih];rw [hm1]
   have q2:m1.funcs = m.funcs:=by rw [hm1]
   have q6:m1.codes = m.codes:=by rw [hm1]
   rw [hc,q2,q6]
   exact h1.2
 rw [← hm1]
 unfold check
 rw [Va.check_ok.2 hg1]
 dsimp only
 have h2':¬ m1.imports.all (impB m1) = true:=by
  rw [List.all_eq_true]
  intro hall
  have:=hall (extra nm) (by rw [i1];simp)
  have h3:=(offered this).1
  exact absurd h3 (by decide:¬ (3:UInt8) = 0)
 rw [if_pos hsz,if_neg h2']
end
end Ru
namespace Bin
open Leb Ins Sec
def There {α:Type} (p:P α) (ok:α → Prop) (e:α → List UInt8):Prop:=∀ x r,ok x → (e x).length < 4294967296 → p (e x ++ r) = .ok (x,(e x).length)
theorem drop_left {α:Type} (a b:List α):(a ++ b).drop a.length = b:=by simp
theorem There.bind {α β:Type} {p:P α} {f:α → P β} {a:α} {b:β} {ea eb:List UInt8} (h1:∀ r,p (ea ++ r) = .ok (a,ea.length)) (h2:∀ r,f a (eb ++ r) = .ok (b,eb.length)) (r:List UInt8):(p.then f) (ea ++ eb ++ r) = .ok (b,(ea ++ eb).length):=by
 unfold P.then
 rw [List.append_assoc,h1]
 dsimp only
 rw [drop_left,h2]
 simp
theorem There.last {α β:Type} {p:P α} {f:α → β} {a:α} {ea:List UInt8} (h1:∀ r,p (ea ++ r) = .ok (a,ea.length)) (r:List UInt8):(p.then fun x=>P.ret (f x)) (ea ++ r) = .ok (f a,ea.length):=by
 unfold P.then
 rw [h1]
 rfl
def encList {α:Type} (e:α → List UInt8) (xs:List α):List UInt8:=encU xs.length ++ xs.flatMap e
theorem cn {α:Type} {e:α → List UInt8}:∀ (xs:List α),(∀ x ∈ xs,1 ≤ (e x).length) → xs.length ≤ (xs.flatMap e).length
 | [],_=>by simp
 | x :: xs,h=>by
  have:=cn xs (fun y hy=>h y (by simp [hy]))
  have:=h x (by simp)
  simp only [List.flatMap_cons,List.length_append,List.length_cons]
  omega
def encName (s:List UInt8):List UInt8:=encU s.length ++ s
def encFlag (b:Bool):List UInt8:=[if b then 1 else 0]
def encLim (x:Lim):List UInt8:=if x.max = -1 then 0 :: encU x.min else 1 :: (encU x.min ++ encU x.max.toNat)
def encGlob (g:Glob):List UInt8:=[g.t] ++ encFlag g.mu
def encVals (l:List UInt8):List UInt8:=encList (fun t=>[t]) l
def encNums (l:List Nat):List UInt8:=encList encU l
def encFT (t:FT):List UInt8:=[96] ++ (encVals t.params ++ encVals t.results)
def encMore (x:Imp):List UInt8:=if x.kind = 0 then encU x.type else if x.kind = 1 then [112] ++ encLim x.lim else if x.kind = 2 then encLim x.lim else encGlob x.glob
def encImp (x:Imp):List UInt8:=encName x.mod ++ (encName x.name ++ ([x.kind] ++ encMore x))
def encGV (g:GV):List UInt8:=encGlob g.type ++ exprEnc g.init
def encExp (x:Exp):List UInt8:=encName x.name ++ ([x.kind] ++ encU x.index)
def encEl (x:El):List UInt8:=encU x.table ++ (exprEnc x.off ++ encNums x.funcs)
def encLc (x:Lc):List UInt8:=encU x.n ++ [x.t]
def cdB (c:Cd):List UInt8:=encList encLc c.locals ++ exprEnc c.body
def encCd (c:Cd):List UInt8:=encU (cdB c).length ++ cdB c
def encDa (x:Da):List UInt8:=encU x.mem ++ (exprEnc x.off ++ (encU x.b.length ++ x.b))
def encTable (x:Lim):List UInt8:=[112] ++ encLim x
def body (m:M) (id:Nat):List UInt8 :=
 if id = 1 then encList encFT m.types else if id = 2 then encList encImp m.imports else if id = 3 then encList encU m.funcs else if id = 4 then encList encTable m.tables
 else if id = 5 then encList encLim m.mems else if id = 6 then encList encGV m.globals else if id = 7 then encList encExp m.exports else if id = 8 then encU m.start
 else if id = 9 then encList encEl m.elems else if id = 10 then encList encCd m.codes else encList encDa m.datas
def cnt (m:M) (id:Nat):Nat :=
 if id = 1 then m.types.length else if id = 2 then m.imports.length else if id = 3 then m.funcs.length else if id = 4 then m.tables.length
 else if id = 5 then m.mems.length else if id = 6 then m.globals.length else if id = 7 then m.exports.length else if id = 8 then (if m.hasStart = true then 1 else 0)
 else if id = 9 then m.elems.length else if id = 10 then m.codes.length else m.datas.length
def ids:List Nat:=[1,2,3,4,5,6,7,8,9,10,11]
def own (m:M):List Nat:=ids.filter fun i=>decide (0 < cnt m i)
def one (m:M) (id:Nat):M :=
 if id = 1 then ⟨m.types,[],[],[],[],[],[],false,0,[],[],[]⟩ else if id = 2 then ⟨[],m.imports,[],[],[],[],[],false,0,[],[],[]⟩
 else if id = 3 then ⟨[],[],m.funcs,[],[],[],[],false,0,[],[],[]⟩ else if id = 4 then ⟨[],[],[],m.tables,[],[],[],false,0,[],[],[]⟩
 else if id = 5 then ⟨[],[],[],[],m.mems,[],[],false,0,[],[],[]⟩ else if id = 6 then ⟨[],[],[],[],[],m.globals,[],false,0,[],[],[]⟩
 else if id = 7 then ⟨[],[],[],[],[],[],m.exports,false,0,[],[],[]⟩ else if id = 8 then ⟨[],[],[],[],[],[],[],true,m.start,[],[],[]⟩
 else if id = 9 then ⟨[],[],[],[],[],[],[],false,0,m.elems,[],[]⟩ else if id = 10 then ⟨[],[],[],[],[],[],[],false,0,[],m.codes,[]⟩
 else ⟨[],[],[],[],[],[],[],false,0,[],[],m.datas⟩
theorem own_sub (m:M):∀ i ∈ own m,i ∈ ids ∧ 0 < cnt m i:=fun i hi=>by
 unfold own at hi
 rw [List.mem_filter] at hi
 exact ⟨hi.1,by simpa using hi.2⟩
theorem bO {α:Type} {l:List α} (h:¬ 0 < l.length):l = []:=List.eq_nil_of_length_eq_zero (by omega)
theorem of_own {m:M} (hs:m.hasStart = false → m.start = 0) {f:Nat → M} (h1:∀ i ∈ own m,f i = one m i) (h2:∀ i,i ∉ own m → f i = M.zero):M.of f = m:=by
 have key:∀ i ∈ ids,f i = if 0 < cnt m i then one m i else M.zero:=fun i hi=>by
  by_cases hc:0 < cnt m i
  ·rw [if_pos hc]
   exact h1 i (List.mem_filter.2 ⟨hi,by simpa using hc⟩)
  ·rw [if_neg hc]
   exact h2 i (fun hm=>hc (own_sub m i hm).2)
 have k1:=key 1 (by decide)
 have k2:=key 2 (by decide)
 have k3:=key 3 (by decide)
 have k4:=key 4 (by decide)
 have k5:=key 5 (by decide)
 have k6:=key 6 (by decide)
 have k7:=key 7 (by decide)
 have k8:=key 8 (by decide)
 have k9:=key 9 (by decide)
 have k10:=key 10 (by decide)
 have k11:=key 11 (by decide)
 clear key h1 h2
 obtain ⟨a1,a2,a3,a4,a5,a6,a7,a8,b8,a9,a10,a11⟩:=m
 unfold M.of
 congr 1
 ·rw [k1]
  split
  ·rfl
  ·next h=>rw [bO (l:=a1) h];rfl
 ·rw [k2]
  split
  ·rfl
  ·next h=>rw [bO (l:=a2) h];rfl
 ·rw [k3]
  split
  ·rfl
  ·next h=>rw [bO (l:=a3) h];rfl
 ·rw [k4]
  split
  ·rfl
  ·next h=>rw [bO (l:=a4) h];rfl
 ·rw [k5]
  split
  ·rfl
  ·next h=>rw [bO (l:=a5) h];rfl
 ·rw [k6]
  split
  ·rfl
  ·next h=>rw [bO (l:=a6) h];rfl
 ·rw [k7]
  split
  ·rfl
  ·next h=>rw [bO (l:=a7) h];rfl
 ·rw [k8];cases a8 <;> rfl
 ·rw [k8];cases a8
  ·exact (hs rfl).symm
  ·rfl
 ·rw [k9]
  split
  ·rfl
  ·next h=>rw [bO (l:=a9) h];rfl
 ·rw [k10]
  split
  ·rfl
  ·next h=>rw [bO (l:=a10) h];rfl
 ·rw [k11]
  split
  ·rfl
  ·next h=>rw [bO (l:=a11) h];rfl
end Bin
namespace Ru
open Bin Sp Ins
def lt:List FT:=[⟨[],[]⟩,⟨[126],[]⟩,⟨[127],[]⟩]
def least:M:=⟨lt,[],[0],[],[],[],[⟨main,0,0⟩],false,0,[],[⟨[],[]⟩],[]⟩
section
variable {ts:List FT} {fs:List Nat} {tb ms:List Lim} {gs:List GV} {es:List Exp} {cs:List Cd}
end
def cst:I:=⟨65,0,0,0,[]⟩
end Ru
