/-
  Plain mathematics of a binary's sections: what their bytes are, what bytes begin with, and that each is the other's way back; a custom section anywhere; a beginning of a binary's bytes.
-/
import Derived.Test.YtelcdmkbaegjoaaGreatLq01
import Derived.Test.YtelcdmkbaegjoaaGreatLq02
import Derived.Test.YtelcdmkbaegjoaaGreatLq07
set_option maxRecDepth 100000
set_option maxHeartbeats 4000000
namespace Sec
open Leb
structure S where
 id : Nat
 b : List UInt8
deriving DecidableEq
def begin8 : List UInt8 := [0, 97, 115, 109, 1, 0, 0, 0]
def enc (s : S) : List UInt8 := UInt8.ofNat s.id :: (encU s.b.length ++ s.b)
def encAll (xs : List S) : List UInt8 := xs.flatMap enc
def named (l : List UInt8) : Bool := okU l 32 && decide (run l + used l ≤ l.length) && U8.text ((l.drop (run l)).take (used l))
def hd : List UInt8 → Option (Nat × List UInt8 × List UInt8)
 | [] => none
 | x :: r => if okU r 32 = true ∧ run r + used r ≤ r.length then some (x.toNat, (r.drop (run r)).take (used r), r.drop (run r + used r)) else none
def rd : Nat → Nat → List UInt8 → Option (List S)
 | 0, _, l => if l = [] then some [] else none
 | f + 1, k, l => if l = [] then some [] else match hd l with
  | none => none
  | some (id, own, rest) => if id = 0 then (if named own = true then rd f k rest else none) else if k < id ∧ id ≤ 11 then (rd f id rest).map (⟨id, own⟩ :: ·) else none
def split (l : List UInt8) : Option (List S) := if l.take 8 = begin8 then rd l.length 0 (l.drop 8) else none
def hlen (l : List UInt8) : Nat := 1 + run (l.drop 1) + used (l.drop 1)
end Sec
namespace Bin
open Leb Ins Sec
structure FT where
 params : List UInt8
 results : List UInt8
deriving DecidableEq
structure Lim where
 min : Nat
 max : Int
deriving DecidableEq
structure Glob where
 t : UInt8
 mu : Bool
deriving DecidableEq
structure Imp where
 mod : List UInt8
 name : List UInt8
 kind : UInt8
 type : Nat
 lim : Lim
 glob : Glob
deriving DecidableEq
structure GV where
 type : Glob
 init : List I
deriving DecidableEq
structure Exp where
 name : List UInt8
 kind : UInt8
 index : Nat
deriving DecidableEq
structure El where
 table : Nat
 off : List I
 funcs : List Nat
deriving DecidableEq
structure Lc where
 n : Nat
 t : UInt8
deriving DecidableEq
structure Cd where
 locals : List Lc
 body : List I
deriving DecidableEq
structure Da where
 mem : Nat
 off : List I
 b : List UInt8
deriving DecidableEq
structure M where
 types : List FT
 imports : List Imp
 funcs : List Nat
 tables : List Lim
 mems : List Lim
 globals : List GV
 exports : List Exp
 hasStart : Bool
 start : Nat
 elems : List El
 codes : List Cd
 datas : List Da
deriving DecidableEq
def M.zero : M := ⟨[], [], [], [], [], [], [], false, 0, [], [], []⟩
abbrev P (α : Type) := List UInt8 → Except Nat (α × Nat)
def P.ret {α : Type} (a : α) : P α := fun _ => .ok (a, 0)
def P.fail {α : Type} (e : Nat) : P α := fun _ => .error e
def P.then {α β : Type} (p : P α) (f : α → P β) : P β := fun l => match p l with
 | .error e => .error e
 | .ok (a, k) => match f a (l.drop k) with
  | .error e => .error e
  | .ok (b, j) => .ok (b, k + j)
def many {α : Type} (p : P α) : Nat → P (List α)
 | 0 => P.ret []
 | n + 1 => p.then fun x => (many p n).then fun xs => P.ret (x :: xs)
def byte : P UInt8 := fun l => match l with
 | [] => .error 60
 | x :: _ => .ok (x, 1)
def num : P Nat := rdNum
def list {α : Type} (p : P α) : P (List α) := num.then fun n => many p n
def name : P (List UInt8) := fun l => if named l = true then .ok ((l.drop (run l)).take (used l), run l + used l) else .error 60
def value : P UInt8 := byte.then fun t => if t = 125 ∨ t = 124 then P.fail 61 else if t = 127 ∨ t = 126 then P.ret t else P.fail 60
def flag : P Bool := byte.then fun t => if t = 0 then P.ret false else if t = 1 then P.ret true else P.fail 60
def lim : P Lim := flag.then fun f => num.then fun a => if f = true then num.then fun b => P.ret ⟨a, b⟩ else P.ret ⟨a, -1⟩
def table : P Lim := byte.then fun t => if t = 112 then lim else P.fail 60
def glob : P Glob := value.then fun t => flag.then fun m => P.ret ⟨t, m⟩
def expr : P (List I) := fun l => rdExpr (l.length + 1) [] l
def ft : P FT := byte.then fun t => if t = 96 then (list value).then fun p => (list value).then fun r => P.ret ⟨p, r⟩ else P.fail 60
def imp : P Imp := name.then fun a => name.then fun b => byte.then fun k =>
 if k = 0 then num.then fun t => P.ret ⟨a, b, 0, t, ⟨0, 0⟩, ⟨0, false⟩⟩
 else if k = 1 then table.then fun t => P.ret ⟨a, b, 1, 0, t, ⟨0, false⟩⟩
 else if k = 2 then lim.then fun t => P.ret ⟨a, b, 2, 0, t, ⟨0, false⟩⟩
 else if k = 3 then glob.then fun t => P.ret ⟨a, b, 3, 0, ⟨0, 0⟩, t⟩
 else P.fail 60
def exp : P Exp := name.then fun a => byte.then fun k => if k.toNat ≤ 3 then num.then fun i => P.ret ⟨a, k, i⟩ else P.fail 60
def el : P El := num.then fun t => expr.then fun e => (list num).then fun f => P.ret ⟨t, e, f⟩
def loc : P Lc := num.then fun n => value.then fun t => P.ret ⟨n, t⟩
def part : P (List UInt8) := num.then fun n => fun l => if n ≤ l.length then .ok (l.take n, n) else .error 60
def M.of (f : Nat → M) : M := ⟨(f 1).types, (f 2).imports, (f 3).funcs, (f 4).tables, (f 5).mems, (f 6).globals, (f 7).exports, (f 8).hasStart, (f 8).start, (f 9).elems, (f 10).codes, (f 11).datas⟩
def plain (l : List I) : Bool := l.all fun x => Opc.known x.op && !Opc.float x.op
def M.less (m : M) (id : Nat) : M :=
 if id = 1 then { m with types := [] } else if id = 2 then { m with imports := [] } else if id = 4 then { m with tables := [] } else if id = 5 then { m with mems := [] }
 else if id = 6 then { m with globals := [] } else if id = 7 then { m with exports := [] } else if id = 8 then { m with hasStart := false, start := 0 } else if id = 9 then { m with elems := [] }
 else if id = 11 then { m with datas := [] } else m
end Bin
namespace Sp
open Bin
def imps (m : M) (k : Nat) : List Imp := m.imports.filter (fun x => x.kind.toNat == k)
def funs (m : M) : List Nat := (imps m 0).map (·.type) ++ m.funcs
def tabs (m : M) : List Lim := (imps m 1).map (·.lim) ++ m.tables
def mems (m : M) : List Lim := (imps m 2).map (·.lim) ++ m.mems
def globs (m : M) : List Glob := (imps m 3).map (·.glob) ++ m.globals.map (·.type)
def mine (m : M) (k : Nat) : Nat := if k = 0 then m.funcs.length else if k = 1 then m.tables.length else if k = 2 then m.mems.length else if k = 3 then m.globals.length else 0
def imported (m : M) (k : Nat) : Nat := if k < 4 then (imps m k).length else 0
def count (m : M) (k : Nat) : Nat := imported m k + mine m k
def func (m : M) (i : Nat) : Option FT := (funs m)[i]?.bind fun t => m.types[t]?
structure Few (m : M) : Prop where
 imports : m.imports.length ≤ 4000
 funcs : m.funcs.length ≤ 4000
 tables : m.tables.length ≤ 4000
 mems : m.mems.length ≤ 4000
 globals : m.globals.length ≤ 4000
 exports : m.exports.length ≤ 4000
 types : m.types.length ≤ 4000
 each : ∀ x ∈ m.types, x.params.length ≤ 4000 ∧ x.results.length ≤ 4000
structure Lots (m : M) : Prop where
 imports : m.imports.length ≤ 1050000
 funcs : m.funcs.length ≤ 1050000
 tables : m.tables.length ≤ 1050000
 mems : m.mems.length ≤ 1050000
 globals : m.globals.length ≤ 1050000
 exports : m.exports.length ≤ 1050000
 types : m.types.length ≤ 1050000
 each : ∀ x ∈ m.types, x.params.length ≤ 1050000 ∧ x.results.length ≤ 1050000
theorem Few.lots {m : M} (h : Few m) : Lots m :=
 ⟨Nat.le_trans h.imports (by decide), Nat.le_trans h.funcs (by decide), Nat.le_trans h.tables (by decide), Nat.le_trans h.mems (by decide), Nat.le_trans h.globals (by decide), Nat.le_trans h.exports (by decide), Nat.le_trans h.types (by decide), fun x hx => ⟨Nat.le_trans (h.each x hx).1 (by decide), Nat.le_trans (h.each x hx).2 (by decide)⟩⟩
section
variable {α : Type}
theorem dG {p : α → Bool} {xs : List α} {k : Nat} {x : α} (hx : xs[k]? = some x) (hp : p x = true) : (xs.take (k + 1)).filter p = (xs.take k).filter p ++ [x] := by
 rw [List.take_add_one, hx, List.filter_append]
 simp [hp]
theorem eD {p : α → Bool} {xs : List α} {k : Nat} {x : α} (hx : xs[k]? = some x) (hp : p x = false) : (xs.take (k + 1)).filter p = (xs.take k).filter p := by
 rw [List.take_add_one, hx, List.filter_append]
 simp [hp]
theorem eC (p : α → Bool) (xs : List α) (k : Nat) : ((xs.take k).filter p).length ≤ k := by
 have := List.length_filter_le p (xs.take k)
 have := List.length_take_le k xs
 omega
theorem dF {p : α → Bool} {xs : List α} {k : Nat} (h : xs.length ≤ k) : (xs.take k).filter p = xs.filter p := by rw [List.take_of_length_le h]
end
theorem cb (m : M) (k : Nat) : (imps m k).length ≤ m.imports.length := List.length_filter_le _ _
theorem aQ {m : M} {k : Nat} (h : k < 4) : imported m k = (imps m k).length := by unfold imported; rw [if_pos h]
theorem imported_no {m : M} {k : Nat} (h : ¬ k < 4) : imported m k = 0 := by unfold imported; rw [if_neg h]
theorem row_own {α β : Type} {f : α → β} {xs : List α} {ys : List β} {i : Nat} (h : xs.length ≤ i) : (xs.map f ++ ys)[i]? = ys[i - xs.length]? := by
 rw [List.getElem?_append_right (by simpa using h)]
 simp
theorem dz (m : M) : (funs m).length = count m 0 := by simp [funs, count, imported, mine]
theorem bU (m : M) : (tabs m).length = count m 1 := by simp [tabs, count, imported, mine]
theorem bQ (m : M) : (mems m).length = count m 2 := by simp [mems, count, imported, mine]
theorem dX (m : M) : (globs m).length = count m 3 := by simp [globs, count, imported, mine]
end Sp
namespace Bo
def runs : List Bin.Lc → Nat → Option UInt8
 | [], _ => none
 | x :: l, i => if i < x.n then some x.t else runs l (i - x.n)
def local' (ps : List UInt8) (l : List Bin.Lc) (i : Nat) : Option UInt8 := if i < ps.length then ps[i]? else runs l (i - ps.length)
def locB (l : List Bin.Lc) : Bool := l.all fun x => x.n == 0 || (x.t == 127 || x.t == 126)
def ftP (t : Bin.FT) : List UInt8 × List UInt8 := (t.params, t.results)
def envOf (m : Bin.M) (ps rs : List UInt8) (ls : List Bin.Lc) : Env := ⟨fun i => (Sp.func m i).map ftP, ((Sp.tabs m)[0]?).isSome, fun i => (m.types[i]?).map ftP, fun i => local' ps ls i, fun i => ((Sp.globs m)[i]?).map fun g => (g.t, g.mu), ((Sp.mems m)[0]?).isSome, rs⟩
theorem run_err {E : Env} : ∀ (xs : List Ins.I) (o o' : List Bool) (s : Ty.T) (m : Nat), Ins.steps o xs = some o' → run E o xs s = .error m → eNum m
 | [], _, _, _, _, _, h => by rw [run] at h; cases h
 | x :: xs, o, o', s, m, hs, h => by
  rw [run] at h
  rw [Ins.steps] at hs
  split at h
  ·next e he =>
   injection h with h
   subst h
   exact e_one he
  ·next s1 h1 =>
   split at h
   ·next hn => rw [hn] at hs; cases hs
   ·next o1 ho =>
    rw [ho] at hs
    exact run_err xs o1 o' s1 m hs h
theorem chk_err {E : Env} {lb : Bool} {xs : List Ins.I} {m : Nat} (h : chk E lb xs = .error m) : m ≠ 0 := by
 unfold chk at h
 split at h
 ·next hx =>
  split at h
  ·split at h
   ·next e he =>
    injection h with h
    subst h
    rcases run_err xs [] _ _ _ (exprB_parts hx).2 he with e | e | e <;> omega
   ·split at h
    ·cases h
    ·injection h with h; omega
  ·injection h with h; omega
 ·injection h with h; omega
end Bo
namespace Va
open Bin Sp Ins
def wholeB (l : List UInt8) : Bool := l.all fun t => t == 127 || t == 126
def constE (m : M) (l : List I) (t : UInt8) : Nat := match l with
 | [x] => if x.op = 35 then (match (imps m 3)[x.a]? with
   | none => 80
   | some g => if g.glob.mu = true then 110 else if g.glob.t = t then 0 else 100)
  else if x.op = 65 then (if t = 127 then 0 else 100)
  else if x.op = 66 then (if t = 126 then 0 else 100)
  else 110
 | _ => 110
def orE (a b : Nat) : Nat := if a = 0 then b else a
def first {α : Type} (f : α → Nat) : List α → Nat
 | [] => 0
 | x :: xs => orE (f x) (first f xs)
def okE (b : Bool) (n : Nat) : Nat := if b = true then 0 else n
def shapeE (m : M) : Nat := okE (m.codes.length == m.funcs.length && (m.imports.all fun x => decide (x.kind.toNat < 4)) && (m.exports.all fun x => decide (x.kind.toNat < 4))) 2
def typE (t : FT) : Nat := okE (decide (t.results.length ≤ 1) && (wholeB t.params && wholeB t.results)) 100
def impE (m : M) (x : Imp) : Nat :=
 if x.kind.toNat = 0 then okE (decide (x.type < m.types.length)) 80
 else if x.kind.toNat = 3 then okE (x.glob.t == 127 || x.glob.t == 126) 100
 else 0
def funE (m : M) (t : Nat) : Nat := okE (decide (t < m.types.length)) 80
def limE (most : Nat) (l : Lim) : Nat := okE (decide (l.min ≤ most) && (decide (l.max = -1) || (decide ((l.min : Int) ≤ l.max) && decide (l.max ≤ (most : Int))))) 112
def countE (m : M) : Nat := okE (decide (count m 1 ≤ 1) && decide (count m 2 ≤ 1)) 112
def globE (m : M) (g : GV) : Nat := if (g.type.t == 127 || g.type.t == 126) = true then constE m g.init g.type.t else 100
def expE (m : M) : List (List UInt8) → List Exp → Nat
 | _, [] => 0
 | seen, x :: xs => if x.index < count m x.kind.toNat then (if x.name ∈ seen then 111 else expE m (seen ++ [x.name]) xs) else 80
def startE (m : M) : Nat := if m.hasStart = true then (match func m m.start with
  | none => 113
  | some f => okE (f.params.isEmpty && f.results.isEmpty) 113) else 0
def thereE (m : M) (k i : Nat) : Nat := okE (decide (i < count m k)) 80
def elemE (m : M) (x : El) : Nat := orE (thereE m 1 x.table) (orE (constE m x.off 127) (first (thereE m 0) x.funcs))
def datE (m : M) (x : Da) : Nat := orE (thereE m 2 x.mem) (constE m x.off 127)
def codeR (m : M) (t : Nat) (c : Cd) : Except Nat Nat :=
 Bo.chk (Bo.envOf m ((m.types[t]?).getD ⟨[], []⟩).params ((m.types[t]?).getD ⟨[], []⟩).results c.locals) (Bo.locB c.locals) c.body
def codesR (m : M) : List Nat → List Cd → Except Nat (List Nat)
 | t :: ts, c :: cs => match codeR m t c with
  | .error e => .error e
  | .ok h => match codesR m ts cs with
   | .error e => .error e
   | .ok hs => .ok (h :: hs)
 | _, _ => .ok []
def pre (m : M) : Nat :=
 orE (shapeE m) (orE (first typE m.types) (orE (first (impE m) m.imports) (orE (first (funE m) m.funcs) (orE (countE m) (orE (first (limE 4294967295) (tabs m)) (orE (first (limE 65536) (mems m))
  (orE (first (globE m) m.globals) (orE (expE m [] m.exports) (orE (startE m) (first (elemE m) m.elems))))))))))
def check (m : M) : Except Nat (List Nat) :=
 if pre m = 0 then (match codesR m m.funcs m.codes with
  | .error e => .error e
  | .ok hs => if first (datE m) m.datas = 0 then .ok hs else .error (first (datE m) m.datas))
 else .error (pre m)
theorem bS {a b : Nat} : orE a b = 0 ↔ a = 0 ∧ b = 0 := by
 unfold orE
 split <;> simp_all
theorem orE_ne {a b : Nat} (h : a ≠ 0) : orE a b = a := by unfold orE; rw [if_neg h]
theorem orE_at {a b : Nat} (h : a = 0) : orE a b = b := by unfold orE; rw [if_pos h]
theorem aR {b : Bool} {n : Nat} (hn : n ≠ 0) : okE b n = 0 ↔ b = true := by
 unfold okE
 split
 ·simp_all
 ·simp_all
theorem aN {α : Type} {f : α → Nat} : ∀ {xs : List α}, first f xs = 0 ↔ ∀ x ∈ xs, f x = 0
 | [] => by simp [first]
 | x :: xs => by rw [first, bS, aN]; simp
theorem first_step {α : Type} {f : α → Nat} {xs : List α} {j : Nat} {x : α} (h : xs[j]? = some x) : first f (xs.drop j) = orE (f x) (first f (xs.drop (j + 1))) := by
 obtain ⟨hj, e⟩ := List.getElem?_eq_some_iff.1 h
 rw [List.drop_eq_getElem_cons hj, e, first]
theorem first_end {α : Type} {f : α → Nat} {xs : List α} {j : Nat} (h : xs.length ≤ j) : first f (xs.drop j) = 0 := by rw [List.drop_eq_nil_of_le h]; rfl
theorem bZ {m : M} : ∀ {xs : List Exp} {seen : List (List UInt8)}, expE m seen xs = 0 ↔ (∀ x ∈ xs, x.index < count m x.kind.toNat ∧ x.name ∉ seen) ∧ (xs.map (·.name)).Nodup
 | [], _ => by simp [expE]
 | x :: xs, seen => by
  rw [expE]
  split
  ·next h1 =>
   split
   ·next h2 =>
    refine ⟨fun h => absurd h (by decide), fun h => ?_⟩
    exact absurd h2 (h.1 x (by simp)).2
   ·next h2 =>
    rw [bZ]
    simp only [List.map_cons, List.nodup_cons]
    constructor
    ·rintro ⟨a, b⟩
     refine ⟨?_, ?_, b⟩
     ·intro y hy
      rcases List.mem_cons.1 hy with rfl | hy
      ·exact ⟨h1, h2⟩
      ·exact ⟨(a y hy).1, fun e => (a y hy).2 (List.mem_append_left _ e)⟩
     ·intro hm
      obtain ⟨y, hy, e⟩ := List.mem_map.1 hm
      exact (a y hy).2 (List.mem_append_right _ (by rw [e]; simp))
    ·rintro ⟨a, b, c⟩
     refine ⟨fun y hy => ⟨(a y (List.mem_cons_of_mem _ hy)).1, fun e => ?_⟩, c⟩
     rcases List.mem_append.1 e with e | e
     ·exact (a y (List.mem_cons_of_mem _ hy)).2 e
     ·exact b (List.mem_map.2 ⟨y, hy, by simpa using e⟩)
  ·next h1 =>
   refine ⟨fun h => absurd h (by decide), fun h => ?_⟩
   exact absurd (h.1 x (by simp)).1 h1
theorem df {m : M} : ∀ {xs : List Exp} {seen : List (List UInt8)} {x : Exp}, expE m seen xs = 0 → expE m seen (xs ++ [x]) = expE m (seen ++ xs.map (·.name)) [x]
 | [], seen, x, _ => by simp
 | y :: xs, seen, x, h => by
  rw [List.cons_append, expE]
  rw [expE] at h
  split at h
  ·next h1 =>
   rw [if_pos h1]
   split at h
   ·exact absurd h (by decide)
   ·next h2 =>
    rw [if_neg h2, df h]
    simp
  ·exact absurd h (by decide)
theorem du {m : M} : ∀ {ts : List Nat} {cs : List Cd} {hs : List Nat}, codesR m ts cs = .ok hs → ts.length = cs.length → hs.length = cs.length
 | [], [], hs, h, _ => by rw [codesR] at h; injection h with h; subst h; rfl; simp
 | t :: ts, c :: cs, hs, h, hl => by
  rw [codesR] at h
  split at h
  ·cases h
  ·split at h
   ·cases h
   ·next hs' h' =>
    injection h with h
    subst h
    simp [du h' (by simpa using hl)]
 | [], _ :: _, _, _, hl => by simp at hl
 | _ :: _, [], _, _, hl => by simp at hl
theorem cz {m : M} : ∀ {ts : List Nat} {cs : List Cd} {e : Nat}, codesR m ts cs = .error e → e ≠ 0
 | [], _, _, h => by simp [codesR] at h
 | _ :: _, [], _, h => by simp [codesR] at h
 | t :: ts, c :: cs, e, h => by
  rw [codesR] at h
  split at h
  ·next e' h' =>
   injection h with h
   subst h
   exact Bo.chk_err h'
  ·split at h
   ·next e' h' =>
    injection h with h
    subst h
    exact cz h'
   ·cases h
structure Good (m : M) (hs : List Nat) : Prop where
 pre : pre m = 0
 codes : codesR m m.funcs m.codes = .ok hs
 datas : first (datE m) m.datas = 0
theorem check_ok {m : M} {hs : List Nat} : check m = .ok hs ↔ Good m hs := by
 unfold check
 constructor
 ·intro h
  split at h
  ·next hp =>
   split at h
   ·cases h
   ·next hs' hc =>
    split at h
    ·next hd =>
     injection h with h
     subst h
     exact ⟨hp, hc, hd⟩
    ·cases h
  ·cases h
 ·rintro ⟨hp, hc, hd⟩
  rw [if_pos hp, hc]
  simp [hd]
theorem check_err {m : M} {e : Nat} (h : check m = .error e) : e ≠ 0 := by
 unfold check at h
 split at h
 ·split at h
  ·next e' hc =>
   injection h with h
   subst h
   exact cz hc
  ·split at h
   ·cases h
   ·next hd =>
    injection h with h
    subst h
    exact hd
 ·next hp =>
  injection h with h
  subst h
  exact hp
section
variable {m : M} {hs : List Nat}
theorem Good.steps (h : Good m hs) : shapeE m = 0 ∧ first typE m.types = 0 ∧ first (impE m) m.imports = 0 ∧ first (funE m) m.funcs = 0 ∧ countE m = 0 ∧ first (limE 4294967295) (tabs m) = 0 ∧ first (limE 65536) (mems m) = 0 ∧ first (globE m) m.globals = 0 ∧ expE m [] m.exports = 0 ∧ startE m = 0 ∧ first (elemE m) m.elems = 0 := by
 have := h.pre
 unfold Va.pre at this
 simpa only [bS] using this
theorem Good.shape (h : Good m hs) : m.codes.length = m.funcs.length ∧ (∀ x ∈ m.imports, x.kind.toNat < 4) ∧ ∀ x ∈ m.exports, x.kind.toNat < 4 := by
 have := h.steps.1
 unfold shapeE at this
 rw [aR (by decide)] at this
 simp only [Bool.and_eq_true, beq_iff_eq, List.all_eq_true, decide_eq_true_eq] at this
 exact ⟨this.1.1, this.1.2, this.2⟩
theorem Good.few (h : Good m hs) : count m 1 ≤ 1 ∧ count m 2 ≤ 1 := by
 have := h.steps.2.2.2.2.1
 unfold countE at this
 rw [aR (by decide)] at this
 simpa using this
theorem Good.types (h : Good m hs) : ∀ t ∈ m.types, t.results.length ≤ 1 := fun t ht => by
 have := aN.1 h.steps.2.1 t ht
 unfold typE at this
 rw [aR (by decide)] at this
 simp only [Bool.and_eq_true, decide_eq_true_eq] at this
 exact this.1
theorem Good.funs (h : Good m hs) : ∀ t ∈ m.funcs, t < m.types.length := fun t ht => by
 have := aN.1 h.steps.2.2.2.1 t ht
 unfold funE at this
 rw [aR (by decide)] at this
 simpa using this
theorem Good.len (h : Good m hs) : hs.length = m.codes.length := du h.codes h.shape.1.symm
theorem Good.elems (h : Good m hs) : ∀ x ∈ m.elems, x.table < count m 1 ∧ ∀ f ∈ x.funcs, f < count m 0 := fun x hx => by
 have := aN.1 h.steps.2.2.2.2.2.2.2.2.2.2 x hx
 unfold elemE at this
 rw [bS, bS, aN] at this
 unfold thereE at this
 rw [aR (by decide)] at this
 refine ⟨by simpa using this.1, fun f hf => ?_⟩
 have h2 := this.2.2 f hf
 rw [aR (by decide)] at h2
 simpa using h2
theorem Good.exports (h : Good m hs) : ∀ x ∈ m.exports, x.index < count m x.kind.toNat := fun x hx => ((bZ.1 h.steps.2.2.2.2.2.2.2.2.1).1 x hx).1
theorem Good.start (h : Good m hs) : m.hasStart = true → m.start < count m 0 := fun e => by
 have := h.steps.2.2.2.2.2.2.2.2.2.1
 unfold startE at this
 rw [if_pos e] at this
 split at this
 ·exact absurd this (by decide)
 ·next f hf =>
  unfold func at hf
  rw [Option.bind_eq_some_iff] at hf
  obtain ⟨k, hk, _⟩ := hf
  rw [← dz]
  exact (List.getElem?_eq_some_iff.1 hk).1
theorem cA {m m1 : M} (hc : ∀ k, count m1 k = count m k) : ∀ (xs : List Exp) (seen : List (List UInt8)), expE m1 seen xs = expE m seen xs
 | [], _ => rfl
 | x :: xs, seen => by rw [expE, expE, hc, cA hc xs]
theorem cJ {m m1 : M} (hc : ∀ t c, codeR m1 t c = codeR m t c) : ∀ (ts : List Nat) (cs : List Cd), codesR m1 ts cs = codesR m ts cs
 | [], _ => by simp [codesR]
 | _ :: _, [] => by simp [codesR]
 | t :: ts, c :: cs => by rw [codesR, codesR, hc, cJ hc ts cs]
theorem Good.twice (h : Good m hs) {x : Exp} (hx : x ∈ m.exports) : check { m with exports := m.exports ++ [x] } = .error 111 := by
 obtain ⟨h1, h2, h3, h4, h5, h6, h7, h8, h9, _, _⟩ := h.steps
 obtain ⟨m1, hm1⟩ : ∃ m1 : M, m1 = { m with exports := m.exports ++ [x] } := ⟨_, rfl⟩
 have hcn : ∀ k, count m1 k = count m k := fun k => by subst hm1; rfl
 have e1 : shapeE m1 = 0 := by
  subst hm1
  unfold shapeE
  rw [aR (by decide)]
  simp only [Bool.and_eq_true, beq_iff_eq, List.all_eq_true, decide_eq_true_eq, List.mem_append, List.mem_singleton]
  refine ⟨⟨h.shape.1, h.shape.2.1⟩, ?_⟩
  rintro y (hy | rfl)
  ·exact h.shape.2.2 y hy
  ·exact h.shape.2.2 _ hx
 have e2 : first typE m1.types = 0 := by subst hm1; exact h2
 have e3 : first (impE m1) m1.imports = 0 := by subst hm1; exact h3
 have e4 : first (funE m1) m1.funcs = 0 := by subst hm1; exact h4
 have e5 : countE m1 = 0 := by subst hm1; exact h5
 have e6 : first (limE 4294967295) (tabs m1) = 0 := by subst hm1; exact h6
 have e7 : first (limE 65536) (mems m1) = 0 := by subst hm1; exact h7
 have e8 : first (globE m1) m1.globals = 0 := by subst hm1; exact h8
 have e9 : expE m1 [] m1.exports = 111 := by
  have hx1 : m1.exports = m.exports ++ [x] := by subst hm1; rfl
  rw [hx1, cA hcn, df h9, expE, if_pos (h.exports x hx), if_pos]
  simp only [List.nil_append, List.mem_map]
  exact ⟨x, hx, rfl⟩
 have hp : Va.pre m1 = 111 := by
  unfold Va.pre
  rw [orE_at e1, orE_at e2, orE_at e3, orE_at e4, orE_at e5, orE_at e6, orE_at e7, orE_at e8, orE_ne (by rw [e9]; decide), e9]
 rw [← hm1]
 unfold check
 rw [hp]
 rfl
theorem Good.less (h : Good m hs) {es : List Exp} {els : List El} (he : es.Sublist m.exports) (hl : els.Sublist m.elems) : Good { m with exports := es, elems := els, datas := [], hasStart := false, start := 0 } hs := by
 obtain ⟨h1, h2, h3, h4, h5, h6, h7, h8, h9, _, h11⟩ := h.steps
 obtain ⟨m1, hm1⟩ : ∃ m1 : M, m1 = { m with exports := es, elems := els, datas := [], hasStart := false, start := 0 } := ⟨_, rfl⟩
 have hcn : ∀ k, count m1 k = count m k := fun k => by subst hm1; rfl
 have hcc : ∀ t c, codeR m1 t c = codeR m t c := fun t c => by subst hm1; rfl
 have e1 : shapeE m1 = 0 := by
  subst hm1
  unfold shapeE
  rw [aR (by decide)]
  simp only [Bool.and_eq_true, beq_iff_eq, List.all_eq_true, decide_eq_true_eq]
  exact ⟨⟨h.shape.1, h.shape.2.1⟩, fun y hy => h.shape.2.2 y (he.subset hy)⟩
 have e2 : first typE m1.types = 0 := by subst hm1; exact h2
 have e3 : first (impE m1) m1.imports = 0 := by subst hm1; exact h3
 have e4 : first (funE m1) m1.funcs = 0 := by subst hm1; exact h4
 have e5 : countE m1 = 0 := by subst hm1; exact h5
 have e6 : first (limE 4294967295) (tabs m1) = 0 := by subst hm1; exact h6
 have e7 : first (limE 65536) (mems m1) = 0 := by subst hm1; exact h7
 have e8 : first (globE m1) m1.globals = 0 := by subst hm1; exact h8
 have e9 : expE m1 [] m1.exports = 0 := by
  have hx1 : m1.exports = es := by subst hm1; rfl
  rw [hx1, cA hcn, bZ]
  rw [bZ] at h9
  exact ⟨fun y hy => h9.1 y (he.subset hy), (he.map _).nodup h9.2⟩
 have e10 : startE m1 = 0 := by subst hm1; rfl
 have e11 : first (elemE m1) m1.elems = 0 := by
  subst hm1
  rw [aN] at h11 ⊢
  exact fun y hy => h11 y (hl.subset hy)
 rw [← hm1]
 refine ⟨?_, ?_, by subst hm1; rfl⟩
 ·unfold Va.pre
  rw [orE_at e1, orE_at e2, orE_at e3, orE_at e4, orE_at e5, orE_at e6, orE_at e7, orE_at e8, orE_at e9, orE_at e10, e11]
 ·rw [cJ hcc]
  subst hm1
  exact h.codes
end
end Va
namespace Bin
open Leb Ins Sec
def There {α : Type} (p : P α) (ok : α → Prop) (e : α → List UInt8) : Prop := ∀ x r, ok x → (e x).length < 4294967296 → p (e x ++ r) = .ok (x, (e x).length)
theorem drop_left {α : Type} (a b : List α) : (a ++ b).drop a.length = b := by simp
theorem There.bind {α β : Type} {p : P α} {f : α → P β} {a : α} {b : β} {ea eb : List UInt8} (h1 : ∀ r, p (ea ++ r) = .ok (a, ea.length)) (h2 : ∀ r, f a (eb ++ r) = .ok (b, eb.length)) (r : List UInt8) : (p.then f) (ea ++ eb ++ r) = .ok (b, (ea ++ eb).length) := by
 unfold P.then
 rw [List.append_assoc, h1]
 dsimp only
 rw [drop_left, h2]
 simp
theorem There.last {α β : Type} {p : P α} {f : α → β} {a : α} {ea : List UInt8} (h1 : ∀ r, p (ea ++ r) = .ok (a, ea.length)) (r : List UInt8) : (p.then fun x => P.ret (f x)) (ea ++ r) = .ok (f a, ea.length) := by
 unfold P.then
 rw [h1]
 rfl
def encList {α : Type} (e : α → List UInt8) (xs : List α) : List UInt8 := encU xs.length ++ xs.flatMap e
theorem bP {α : Type} {e : α → List UInt8} : ∀ (xs : List α), (∀ x ∈ xs, 1 ≤ (e x).length) → xs.length ≤ (xs.flatMap e).length
 | [], _ => by simp
 | x :: xs, h => by
  have := bP xs (fun y hy => h y (by simp [hy]))
  have := h x (by simp)
  simp only [List.flatMap_cons, List.length_append, List.length_cons]
  omega
def encName (s : List UInt8) : List UInt8 := encU s.length ++ s
def encFlag (b : Bool) : List UInt8 := [if b then 1 else 0]
def encLim (x : Lim) : List UInt8 := if x.max = -1 then 0 :: encU x.min else 1 :: (encU x.min ++ encU x.max.toNat)
def encGlob (g : Glob) : List UInt8 := [g.t] ++ encFlag g.mu
def encVals (l : List UInt8) : List UInt8 := encList (fun t => [t]) l
def encNums (l : List Nat) : List UInt8 := encList encU l
def encFT (t : FT) : List UInt8 := [96] ++ (encVals t.params ++ encVals t.results)
def encMore (x : Imp) : List UInt8 := if x.kind = 0 then encU x.type else if x.kind = 1 then [112] ++ encLim x.lim else if x.kind = 2 then encLim x.lim else encGlob x.glob
def encImp (x : Imp) : List UInt8 := encName x.mod ++ (encName x.name ++ ([x.kind] ++ encMore x))
def encGV (g : GV) : List UInt8 := encGlob g.type ++ exprEnc g.init
def encExp (x : Exp) : List UInt8 := encName x.name ++ ([x.kind] ++ encU x.index)
def encEl (x : El) : List UInt8 := encU x.table ++ (exprEnc x.off ++ encNums x.funcs)
def encLc (x : Lc) : List UInt8 := encU x.n ++ [x.t]
def cdB (c : Cd) : List UInt8 := encList encLc c.locals ++ exprEnc c.body
def encCd (c : Cd) : List UInt8 := encU (cdB c).length ++ cdB c
def encDa (x : Da) : List UInt8 := encU x.mem ++ (exprEnc x.off ++ (encU x.b.length ++ x.b))
def encTable (x : Lim) : List UInt8 := [112] ++ encLim x
def body (m : M) (id : Nat) : List UInt8 :=
 if id = 1 then encList encFT m.types else if id = 2 then encList encImp m.imports else if id = 3 then encList encU m.funcs else if id = 4 then encList encTable m.tables
 else if id = 5 then encList encLim m.mems else if id = 6 then encList encGV m.globals else if id = 7 then encList encExp m.exports else if id = 8 then encU m.start
 else if id = 9 then encList encEl m.elems else if id = 10 then encList encCd m.codes else encList encDa m.datas
def cnt (m : M) (id : Nat) : Nat :=
 if id = 1 then m.types.length else if id = 2 then m.imports.length else if id = 3 then m.funcs.length else if id = 4 then m.tables.length
 else if id = 5 then m.mems.length else if id = 6 then m.globals.length else if id = 7 then m.exports.length else if id = 8 then (if m.hasStart = true then 1 else 0)
 else if id = 9 then m.elems.length else if id = 10 then m.codes.length else m.datas.length
def ids : List Nat := [1, 2, 3, 4, 5, 6, 7, 8, 9, 10, 11]
def own (m : M) : List Nat := ids.filter fun i => decide (0 < cnt m i)
def one (m : M) (id : Nat) : M :=
 if id = 1 then ⟨m.types, [], [], [], [], [], [], false, 0, [], [], []⟩ else if id = 2 then ⟨[], m.imports, [], [], [], [], [], false, 0, [], [], []⟩
 else if id = 3 then ⟨[], [], m.funcs, [], [], [], [], false, 0, [], [], []⟩ else if id = 4 then ⟨[], [], [], m.tables, [], [], [], false, 0, [], [], []⟩
 else if id = 5 then ⟨[], [], [], [], m.mems, [], [], false, 0, [], [], []⟩ else if id = 6 then ⟨[], [], [], [], [], m.globals, [], false, 0, [], [], []⟩
 else if id = 7 then ⟨[], [], [], [], [], [], m.exports, false, 0, [], [], []⟩ else if id = 8 then ⟨[], [], [], [], [], [], [], true, m.start, [], [], []⟩
 else if id = 9 then ⟨[], [], [], [], [], [], [], false, 0, m.elems, [], []⟩ else if id = 10 then ⟨[], [], [], [], [], [], [], false, 0, [], m.codes, []⟩
 else ⟨[], [], [], [], [], [], [], false, 0, [], [], m.datas⟩
theorem own_sub (m : M) : ∀ i ∈ own m, i ∈ ids ∧ 0 < cnt m i := fun i hi => by
 unfold own at hi
 rw [List.mem_filter] at hi
 exact ⟨hi.1, by simpa using hi.2⟩
theorem bx {α : Type} {l : List α} (h : ¬ 0 < l.length) : l = [] := List.eq_nil_of_length_eq_zero (by omega)
theorem of_own {m : M} (hs : m.hasStart = false → m.start = 0) {f : Nat → M} (h1 : ∀ i ∈ own m, f i = one m i) (h2 : ∀ i, i ∉ own m → f i = M.zero) : M.of f = m := by
 have key : ∀ i ∈ ids, f i = if 0 < cnt m i then one m i else M.zero := fun i hi => by
  by_cases hc : 0 < cnt m i
  ·rw [if_pos hc]
   exact h1 i (List.mem_filter.2 ⟨hi, by simpa using hc⟩)
  ·rw [if_neg hc]
   exact h2 i (fun hm => hc (own_sub m i hm).2)
 have k1 := key 1 (by decide)
 have k2 := key 2 (by decide)
 have k3 := key 3 (by decide)
 have k4 := key 4 (by decide)
 have k5 := key 5 (by decide)
 have k6 := key 6 (by decide)
 have k7 := key 7 (by decide)
 have k8 := key 8 (by decide)
 have k9 := key 9 (by decide)
 have k10 := key 10 (by decide)
 have k11 := key 11 (by decide)
 clear key h1 h2
 obtain ⟨a1, a2, a3, a4, a5, a6, a7, a8, b8, a9, a10, a11⟩ := m
 unfold M.of
 congr 1
 ·rw [k1]
  split
  ·rfl
  ·next h => rw [bx (l := a1) h]; rfl
 ·rw [k2]
  split
  ·rfl
  ·next h => rw [bx (l := a2) h]; rfl
 ·rw [k3]
  split
  ·rfl
  ·next h => rw [bx (l := a3) h]; rfl
 ·rw [k4]
  split
  ·rfl
  ·next h => rw [bx (l := a4) h]; rfl
 ·rw [k5]
  split
  ·rfl
  ·next h => rw [bx (l := a5) h]; rfl
 ·rw [k6]
  split
  ·rfl
  ·next h => rw [bx (l := a6) h]; rfl
 ·rw [k7]
  split
  ·rfl
  ·next h => rw [bx (l := a7) h]; rfl
 ·rw [k8]; cases a8 <;> rfl
 ·rw [k8]; cases a8
  ·exact (hs rfl).symm
  ·rfl
 ·rw [k9]
  split
  ·rfl
  ·next h => rw [bx (l := a9) h]; rfl
 ·rw [k10]
  split
  ·rfl
  ·next h => rw [bx (l := a10) h]; rfl
 ·rw [k11]
  split
  ·rfl
  ·next h => rw [bx (l := a11) h]; rfl
end Bin
