/-
  Plain mathematics of a binary's sections: what their bytes are, what bytes begin with, and that each is the other's way back; a custom section anywhere; a beginning of a binary's bytes.
-/
import Derived.Test.YthkglmkpnhhboaaGreatDoorR01
import Derived.Test.YthkglmkpnhhboaaGreatDoorR02
import Derived.Test.YthkglmkpnhhboaaGreatDoorR08
set_option maxRecDepth 100000
set_option maxHeartbeats 4000000
namespace Sec
open Leb
structure S where
 id : Nat
 b : List UInt8
deriving DecidableEq
def begin8 : List UInt8 := [0, 97, 115, 109, 1, 0, 0, 0]
def enc (s : S) : List UInt8 := UInt8.ofNat s.id :: (encU s.b.length ++ s.b)
def encAll (xs : List S) : List UInt8 := xs.flatMap enc
def join (xs : List S) : List UInt8 := begin8 ++ encAll xs
def rises : Nat → List S → Bool
 | _, [] => true
 | k, s :: xs => decide (k < s.id) && decide (s.id ≤ 11) && rises s.id xs
def lastId : Nat → List S → Nat
 | k, [] => k
 | _, s :: xs => lastId s.id xs
def named (l : List UInt8) : Bool := okU l 32 && decide (run l + used l ≤ l.length) && U8.text ((l.drop (run l)).take (used l))
def hd : List UInt8 → Option (Nat × List UInt8 × List UInt8)
 | [] => none
 | x :: r => if okU r 32 = true ∧ run r + used r ≤ r.length then some (x.toNat, (r.drop (run r)).take (used r), r.drop (run r + used r)) else none
def rd : Nat → Nat → List UInt8 → Option (List S)
 | 0, _, l => if l = [] then some [] else none
 | f + 1, k, l => if l = [] then some [] else match hd l with
  | none => none
  | some (id, own, rest) => if id = 0 then (if named own = true then rd f k rest else none) else if k < id ∧ id ≤ 11 then (rd f id rest).map (⟨id, own⟩ :: ·) else none
def split (l : List UInt8) : Option (List S) := if l.take 8 = begin8 then rd l.length 0 (l.drop 8) else none
theorem encU_ok (n : Nat) (r : List UInt8) (h : n < 4294967296) : okU (encU n ++ r) 32 = true := by
 rw [okU_encU n r 32 (by omega) (by decide) (by decide)]
 have := (bQ n 32 (by omega) (by decide)).2 (by omega)
 exact decide_eq_true (by omega)
theorem okU_32 {l : List UInt8} (h : okU l 32 = true) : used l < 4294967296 ∧ 1 ≤ run l ∧ run l ≤ l.length ∧ (encU (used l)).length ≤ run l := by
 have h1 := (okU_run1 h).1
 refine ⟨?_, h1, run_le l, shortU h1⟩
 unfold okU at h
 rw [decide_eq_true_iff] at h
 have h5 := h.2.2.2.2
 have e : ((2 : Int) ^ (32 : Int).toNat) = 4294967296 := by decide
 rw [e] at h5
 omega
theorem nat_of (n : Nat) (h : n < 256) : (UInt8.ofNat n).toNat = n := by simp; omega
theorem hd_some {l : List UInt8} {id : Nat} {own rest : List UInt8} (h : hd l = some (id, own, rest)) : ∃ x r, l = x :: r ∧ okU r 32 = true ∧ run r + used r ≤ r.length ∧ id = x.toNat ∧ own = (r.drop (run r)).take (used r) ∧ rest = r.drop (run r + used r) := by
 cases l with
 | nil => cases h
 | cons x r =>
  simp only [hd] at h
  split at h
  ·next hc =>
   injection h with h
   simp only [Prod.mk.injEq] at h
   obtain ⟨rfl, rfl, rfl⟩ := h
   exact ⟨x, r, rfl, hc.1, hc.2, rfl, rfl, rfl⟩
  ·cases h
theorem iS {l : List UInt8} {id : Nat} {own rest : List UInt8} (h : hd l = some (id, own, rest)) : id < 256 ∧ own.length < 4294967296 ∧ (enc ⟨id, own⟩).length + rest.length ≤ l.length ∧ rest.length < l.length := by
 obtain ⟨x, r, rfl, h1, h2, rfl, rfl, rfl⟩ := hd_some h
 obtain ⟨h3, h4, h5, h6⟩ := okU_32 h1
 have hx := x.toNat_lt
 have hl : ((r.drop (run r)).take (used r)).length = used r := by simp; omega
 refine ⟨by omega, by omega, ?_, by simp; omega⟩
 simp only [enc, List.length_cons, List.length_append, List.length_drop, hl]
 omega
theorem hd_enc (s : S) (r : List UInt8) (hi : s.id < 256) (hb : s.b.length < 4294967296) : hd (enc s ++ r) = some (s.id, s.b, r) := by
 have e : enc s ++ r = UInt8.ofNat s.id :: (encU s.b.length ++ (s.b ++ r)) := by simp [enc]
 rw [e]
 simp only [hd]
 have h1 := encU_ok s.b.length (s.b ++ r) hb
 have h2 := dr s.b.length (s.b ++ r)
 have h3 := dL s.b.length (s.b ++ r)
 rw [h2, h3, if_pos ⟨h1, by simp⟩, nat_of s.id hi]
 congr 3
 ·simp
 ·rw [List.drop_append, List.drop_append]
  simp
theorem dI : ∀ (f g k : Nat) (l : List UInt8), l.length ≤ f → l.length ≤ g → rd f k l = rd g k l
 | 0, 0, _, _, _, _ => rfl
 | 0, g + 1, k, l, hf, _ => by
  have h0 : l = [] := List.eq_nil_of_length_eq_zero (by omega)
  subst h0
  simp [rd]
 | f + 1, 0, k, l, _, hg => by
  have h0 : l = [] := List.eq_nil_of_length_eq_zero (by omega)
  subst h0
  simp [rd]
 | f + 1, g + 1, k, l, hf, hg => by
  unfold rd
  by_cases h0 : l = []
  ·rw [if_pos h0, if_pos h0]
  ·rw [if_neg h0, if_neg h0]
   cases hh : hd l with
   | none => rfl
   | some p =>
    obtain ⟨id, own, rest⟩ := p
    have hl := (iS hh).2.2.2
    simp only
    rw [dI f g k rest (by omega) (by omega), dI f g id rest (by omega) (by omega)]
theorem rd_nil (f k : Nat) : rd f k [] = some [] := by cases f <;> simp [rd]
theorem rd_enc : ∀ (xs : List S) (f k : Nat) (r : List UInt8), rises k xs = true → (∀ s ∈ xs, s.b.length < 4294967296) → (encAll xs ++ r).length ≤ f →
  rd f k (encAll xs ++ r) = (rd f (lastId k xs) r).map (xs ++ ·)
 | [], f, k, r, _, _, _ => by simp [encAll, lastId]
 | s :: xs, 0, k, r, _, _, hf => by simp [encAll, enc] at hf
 | s :: xs, f + 1, k, r, hr, hl, hf => by
  simp only [rises, Bool.and_eq_true, decide_eq_true_eq] at hr
  obtain ⟨⟨h1, h2⟩, h3⟩ := hr
  have e : encAll (s :: xs) ++ r = enc s ++ (encAll xs ++ r) := by simp [encAll]
  rw [e] at hf ⊢
  have hlen : (encAll xs ++ r).length ≤ f := by
   rw [List.length_append] at hf
   have : 1 ≤ (enc s).length := by simp [enc]
   omega
  have ih := rd_enc xs f s.id r h3 (fun t ht => hl t (by simp [ht])) hlen
  rw [rd, if_neg (by simp [enc]), hd_enc s _ (by omega) (hl s (by simp))]
  simp only
  rw [if_neg (by omega), if_pos ⟨h1, h2⟩, ih]
  have hm : r.length ≤ f := by rw [List.length_append] at hlen; omega
  have hq : ∀ q, rd f q r = rd (f + 1) q r := fun q => dI f (f + 1) q r hm (by omega)
  rw [hq, Option.map_map]
  rfl
theorem iQ : ∀ (f k : Nat) (l : List UInt8) (xs : List S), rd f k l = some xs → rises k xs = true ∧ (∀ s ∈ xs, s.b.length < 4294967296) ∧ (encAll xs).length ≤ l.length
 | 0, k, l, xs, h => by
  unfold rd at h
  split at h
  ·injection h with h; subst h; simp [rises, encAll]
  ·cases h
 | f + 1, k, l, xs, h => by
  unfold rd at h
  split at h
  ·injection h with h; subst h; simp [rises, encAll]
  ·next h0 =>
   cases hh : hd l with
   | none => rw [hh] at h; cases h
   | some p =>
    obtain ⟨id, own, rest⟩ := p
    rw [hh] at h
    simp only at h
    obtain ⟨h1, h2, h3, h4⟩ := iS hh
    split at h
    ·split at h
     ·obtain ⟨i1, i2, i3⟩ := iQ f k rest xs h
      exact ⟨i1, i2, by omega⟩
     ·cases h
    ·split at h
     ·next hc =>
      cases hm : rd f id rest with
      | none => rw [hm] at h; cases h
      | some ys =>
       rw [hm] at h
       injection h with h
       subst h
       obtain ⟨i1, i2, i3⟩ := iQ f id rest ys hm
       refine ⟨?_, ?_, ?_⟩
       ·simp only [rises, Bool.and_eq_true, decide_eq_true_eq]; exact ⟨hc, i1⟩
       ·intro s hs
        rcases List.mem_cons.1 hs with rfl | hs
        ·exact h2
        ·exact i2 s hs
       ·have e : encAll (⟨id, own⟩ :: ys) = enc ⟨id, own⟩ ++ encAll ys := by simp [encAll]
        rw [e, List.length_append]
        omega
     ·cases h
theorem split_join (xs : List S) (hr : rises 0 xs = true) (hl : ∀ s ∈ xs, s.b.length < 4294967296) : split (join xs) = some xs := by
 unfold split join
 have e1 : (begin8 ++ encAll xs).take 8 = begin8 := by simp [begin8]
 have e2 : (begin8 ++ encAll xs).drop 8 = encAll xs ++ [] := by simp [begin8]
 rw [e1, if_pos rfl, e2, rd_enc xs _ 0 [] hr hl (by simp), rd_nil]
 simp
theorem split_back {l : List UInt8} {xs : List S} (h : split l = some xs) : rises 0 xs = true ∧ (∀ s ∈ xs, s.b.length < 4294967296) ∧ (join xs).length ≤ l.length ∧ l.take 8 = begin8 := by
 unfold split at h
 split at h
 ·next hb =>
  obtain ⟨h1, h2, h3⟩ := iQ _ _ _ _ h
  have h8 : 8 ≤ l.length := by
   have := congrArg List.length hb
   simp [begin8] at this
   omega
  refine ⟨h1, h2, ?_, hb⟩
  rw [List.length_drop] at h3
  unfold join
  rw [List.length_append]
  have : begin8.length = 8 := rfl
  omega
 ·cases h
theorem cT : ∀ (a b : List S) (k : Nat), rises k (a ++ b) = (rises k a && rises (lastId k a) b)
 | [], b, k => by simp [rises, lastId]
 | s :: a, b, k => by
  simp only [List.cons_append, rises, cT a b s.id, Bool.and_assoc, lastId]
def rdc (k : Nat) (l : List UInt8) : Option (List S) := rd l.length k l
theorem rdc_nil (k : Nat) : rdc k [] = some [] := rfl
theorem rdc_none {k : Nat} {l : List UInt8} (h0 : l ≠ []) (h : hd l = none) : rdc k l = none := by
 unfold rdc
 cases l with
 | nil => exact absurd rfl h0
 | cons x r => simp only [List.length_cons, rd, if_neg h0, h]
theorem rdc_some {k id : Nat} {l own rest : List UInt8} (h : hd l = some (id, own, rest)) :
  rdc k l = if id = 0 then (if named own = true then rdc k rest else none) else if k < id ∧ id ≤ 11 then (rdc id rest).map (⟨id, own⟩ :: ·) else none := by
 have hl := (iS h).2.2.2
 cases l with
 | nil => cases h
 | cons x r =>
  unfold rdc
  simp only [List.length_cons] at hl ⊢
  rw [rd, if_neg (by simp), h]
  simp only
  rw [dI r.length rest.length k rest (by omega) (by omega), dI r.length rest.length id rest (by omega) (by omega)]
theorem split_eq (l : List UInt8) : split l = if l.take 8 = begin8 then rdc 0 (l.drop 8) else none := by
 unfold split rdc
 split
 ·exact dI _ _ _ _ (by simp) (Nat.le_refl _)
 ·rfl
def hlen (l : List UInt8) : Nat := 1 + run (l.drop 1) + used (l.drop 1)
theorem hlen_eq {l : List UInt8} {id : Nat} {own rest : List UInt8} (h : hd l = some (id, own, rest)) : hlen l ≤ l.length ∧ rest = l.drop (hlen l) ∧ 2 ≤ hlen l := by
 obtain ⟨x, r, rfl, h1, h2, rfl, rfl, rfl⟩ := hd_some h
 have h3 := (okU_32 h1).2.1
 unfold hlen
 simp only [List.drop_succ_cons, List.drop_zero, List.length_cons]
 refine ⟨by omega, ?_, by omega⟩
 rw [show 1 + run r + used r = (run r + used r) + 1 by omega, List.drop_succ_cons]
end Sec
namespace Bin
open Leb Ins Sec
structure FT where
 params : List UInt8
 results : List UInt8
deriving DecidableEq
structure Lim where
 min : Nat
 max : Int
deriving DecidableEq
structure Glob where
 t : UInt8
 mu : Bool
deriving DecidableEq
structure Imp where
 mod : List UInt8
 name : List UInt8
 kind : UInt8
 type : Nat
 lim : Lim
 glob : Glob
deriving DecidableEq
structure GV where
 type : Glob
 init : List I
deriving DecidableEq
structure Exp where
 name : List UInt8
 kind : UInt8
 index : Nat
deriving DecidableEq
structure El where
 table : Nat
 off : List I
 funcs : List Nat
deriving DecidableEq
structure Lc where
 n : Nat
 t : UInt8
deriving DecidableEq
structure Cd where
 locals : List Lc
 body : List I
deriving DecidableEq
structure Da where
 mem : Nat
 off : List I
 b : List UInt8
deriving DecidableEq
structure M where
 types : List FT
 imports : List Imp
 funcs : List Nat
 tables : List Lim
 mems : List Lim
 globals : List GV
 exports : List Exp
 hasStart : Bool
 start : Nat
 elems : List El
 codes : List Cd
 datas : List Da
deriving DecidableEq
def M.zero : M := ⟨[], [], [], [], [], [], [], false, 0, [], [], []⟩
abbrev P (α : Type) := List UInt8 → Except Nat (α × Nat)
def P.ret {α : Type} (a : α) : P α := fun _ => .ok (a, 0)
def P.fail {α : Type} (e : Nat) : P α := fun _ => .error e
def P.then {α β : Type} (p : P α) (f : α → P β) : P β := fun l => match p l with
 | .error e => .error e
 | .ok (a, k) => match f a (l.drop k) with
  | .error e => .error e
  | .ok (b, j) => .ok (b, k + j)
def many {α : Type} (p : P α) : Nat → P (List α)
 | 0 => P.ret []
 | n + 1 => p.then fun x => (many p n).then fun xs => P.ret (x :: xs)
def byte : P UInt8 := fun l => match l with
 | [] => .error 60
 | x :: _ => .ok (x, 1)
def num : P Nat := rdNum
def list {α : Type} (p : P α) : P (List α) := num.then fun n => many p n
def name : P (List UInt8) := fun l => if named l = true then .ok ((l.drop (run l)).take (used l), run l + used l) else .error 60
def value : P UInt8 := byte.then fun t => if t = 125 ∨ t = 124 then P.fail 61 else if t = 127 ∨ t = 126 then P.ret t else P.fail 60
def flag : P Bool := byte.then fun t => if t = 0 then P.ret false else if t = 1 then P.ret true else P.fail 60
def lim : P Lim := flag.then fun f => num.then fun a => if f = true then num.then fun b => P.ret ⟨a, b⟩ else P.ret ⟨a, -1⟩
def table : P Lim := byte.then fun t => if t = 112 then lim else P.fail 60
def glob : P Glob := value.then fun t => flag.then fun m => P.ret ⟨t, m⟩
def expr : P (List I) := fun l => rdExpr (l.length + 1) [] l
def ft : P FT := byte.then fun t => if t = 96 then (list value).then fun p => (list value).then fun r => P.ret ⟨p, r⟩ else P.fail 60
def imp : P Imp := name.then fun a => name.then fun b => byte.then fun k =>
 if k = 0 then num.then fun t => P.ret ⟨a, b, 0, t, ⟨0, 0⟩, ⟨0, false⟩⟩
 else if k = 1 then table.then fun t => P.ret ⟨a, b, 1, 0, t, ⟨0, false⟩⟩
 else if k = 2 then lim.then fun t => P.ret ⟨a, b, 2, 0, t, ⟨0, false⟩⟩
 else if k = 3 then glob.then fun t => P.ret ⟨a, b, 3, 0, ⟨0, 0⟩, t⟩
 else P.fail 60
def gv : P GV := glob.then fun g => expr.then fun e => P.ret ⟨g, e⟩
def exp : P Exp := name.then fun a => byte.then fun k => if k.toNat ≤ 3 then num.then fun i => P.ret ⟨a, k, i⟩ else P.fail 60
def el : P El := num.then fun t => expr.then fun e => (list num).then fun f => P.ret ⟨t, e, f⟩
def loc : P Lc := num.then fun n => value.then fun t => P.ret ⟨n, t⟩
def part : P (List UInt8) := num.then fun n => fun l => if n ≤ l.length then .ok (l.take n, n) else .error 60
def locSum (l : List Lc) : Nat := (l.map (·.n)).sum
def whole {α : Type} (p : P α) (l : List UInt8) : Except Nat α := match p l with
 | .error e => .error e
 | .ok (a, k) => if k = l.length then .ok a else .error 60
def cdIn : P Cd := (list loc).then fun ls => if locSum ls < 4294967296 then expr.then fun e => P.ret ⟨ls, e⟩ else P.fail 60
def cd : P Cd := part.then fun b => match whole cdIn b with
 | .error e => P.fail e
 | .ok c => P.ret c
def da : P Da := num.then fun m => expr.then fun e => part.then fun b => P.ret ⟨m, e, b⟩
def sec (id : Nat) (b : List UInt8) : Except Nat M :=
 if id = 1 then (whole (list ft) b).map fun x => ⟨x, [], [], [], [], [], [], false, 0, [], [], []⟩
 else if id = 2 then (whole (list imp) b).map fun x => ⟨[], x, [], [], [], [], [], false, 0, [], [], []⟩
 else if id = 3 then (whole (list num) b).map fun x => ⟨[], [], x, [], [], [], [], false, 0, [], [], []⟩
 else if id = 4 then (whole (list table) b).map fun x => ⟨[], [], [], x, [], [], [], false, 0, [], [], []⟩
 else if id = 5 then (whole (list lim) b).map fun x => ⟨[], [], [], [], x, [], [], false, 0, [], [], []⟩
 else if id = 6 then (whole (list gv) b).map fun x => ⟨[], [], [], [], [], x, [], false, 0, [], [], []⟩
 else if id = 7 then (whole (list exp) b).map fun x => ⟨[], [], [], [], [], [], x, false, 0, [], [], []⟩
 else if id = 8 then (whole num b).map fun x => ⟨[], [], [], [], [], [], [], true, x, [], [], []⟩
 else if id = 9 then (whole (list el) b).map fun x => ⟨[], [], [], [], [], [], [], false, 0, x, [], []⟩
 else if id = 10 then (whole (list cd) b).map fun x => ⟨[], [], [], [], [], [], [], false, 0, [], x, []⟩
 else (whole (list da) b).map fun x => ⟨[], [], [], [], [], [], [], false, 0, [], [], x⟩
def M.of (f : Nat → M) : M := ⟨(f 1).types, (f 2).imports, (f 3).funcs, (f 4).tables, (f 5).mems, (f 6).globals, (f 7).exports, (f 8).hasStart, (f 8).start, (f 9).elems, (f 10).codes, (f 11).datas⟩
def upd (f : Nat → M) (i : Nat) (m : M) : Nat → M := fun j => if j = i then m else f j
def secs : (Nat → M) → List S → Except Nat (Nat → M)
 | f, [] => .ok f
 | f, s :: xs => match sec s.id s.b with
  | .error e => .error e
  | .ok m => secs (upd f s.id m) xs
def dec (l : List UInt8) : Except Nat M :=
 if 65536 < l.length then .error 3 else match split l with
  | none => .error 60
  | some xs => match secs (fun _ => M.zero) xs with
   | .error e => .error e
   | .ok f => if (f 10).codes.length = (f 3).funcs.length then .ok (M.of f) else .error 60
def whole1 (t : UInt8) : Bool := t == 127 || t == 126
theorem P.then_ok {α β : Type} {p : P α} {f : α → P β} {l : List UInt8} {b : β} {k : Nat} (h : p.then f l = .ok (b, k)) : ∃ a i j, p l = .ok (a, i) ∧ f a (l.drop i) = .ok (b, j) ∧ k = i + j := by
 unfold P.then at h
 split at h
 ·cases h
 ·next a i e1 =>
  split at h
  ·cases h
  ·next b' j e2 =>
   injection h with h
   injection h with h1 h2
   subst h1
   exact ⟨a, i, j, e1, e2, h2.symm⟩
theorem aA {α : Type} {a b : α} {l : List UInt8} {k : Nat} (h : P.ret a l = .ok (b, k)) : a = b ∧ k = 0 := by
 injection h with h
 injection h with h1 h2
 exact ⟨h1, h2.symm⟩
theorem many_all {α : Type} {p : P α} {Q : α → Bool} (hp : ∀ l x k, p l = .ok (x, k) → Q x = true) : ∀ (n : Nat) (l : List UInt8) (xs : List α) (k : Nat), many p n l = .ok (xs, k) → xs.all Q = true
 | 0, l, xs, k, h => by
  obtain ⟨rfl, _⟩ := aA h
  rfl
 | n + 1, l, xs, k, h => by
  obtain ⟨x, i, j, h1, h2, _⟩ := P.then_ok h
  obtain ⟨ys, i2, j2, h3, h4, _⟩ := P.then_ok h2
  obtain ⟨rfl, _⟩ := aA h4
  simp only [List.all_cons, Bool.and_eq_true]
  exact ⟨hp _ _ _ h1, many_all hp n _ _ _ h3⟩
theorem list_all {α : Type} {p : P α} {Q : α → Bool} (hp : ∀ l x k, p l = .ok (x, k) → Q x = true) {l : List UInt8} {xs : List α} {k : Nat} (h : list p l = .ok (xs, k)) : xs.all Q = true := by
 obtain ⟨n, i, j, _, h2, _⟩ := P.then_ok h
 exact many_all hp _ _ _ _ h2
theorem er {α : Type} {p : P α} {l : List UInt8} {a : α} (h : whole p l = .ok a) : p l = .ok (a, l.length) := by
 unfold whole at h
 split at h
 ·cases h
 ·next a' k e =>
  split at h
  ·next hk => injection h with h; subst h; rw [e, hk]
  ·cases h
theorem value_whole {l : List UInt8} {t : UInt8} {k : Nat} (h : value l = .ok (t, k)) : whole1 t = true := by
 obtain ⟨t', i, j, h1, h2, _⟩ := P.then_ok h
 split at h2
 ·cases h2
 ·split at h2
  ·next ht =>
   obtain ⟨rfl, _⟩ := aA h2
   unfold whole1
   rcases ht with rfl | rfl <;> rfl
  ·cases h2
theorem aP {α β : Type} {r : Except Nat α} {f : α → β} {b : β} (h : r.map f = .ok b) : ∃ a, r = .ok a ∧ b = f a := by
 cases r with
 | error e => cases h
 | ok a => injection h with h; exact ⟨a, rfl, h.symm⟩
theorem dec_ok {l : List UInt8} {m : M} (h : dec l = .ok m) : l.length ≤ 65536 ∧ ∃ xs f, split l = some xs ∧ secs (fun _ => M.zero) xs = .ok f ∧ (f 10).codes.length = (f 3).funcs.length ∧ m = M.of f := by
 unfold dec at h
 split at h
 ·cases h
 ·next hl =>
  split at h
  ·cases h
  ·next xs e1 =>
   split at h
   ·cases h
   ·next f e2 =>
    split at h
    ·next hc => injection h with h; exact ⟨by omega, xs, f, e1, e2, hc, h.symm⟩
    ·cases h
theorem dO : ∀ (xs : List S) (f g : Nat → M) (i : Nat), secs f xs = .ok g → (∀ s ∈ xs, s.id ≠ i) → g i = f i
 | [], f, g, i, h, _ => by injection h with h; subst h; rfl
 | s :: xs, f, g, i, h, hn => by
  simp only [secs] at h
  split at h
  ·cases h
  ·next m e =>
   rw [dO xs _ g i h (fun t ht => hn t (by simp [ht]))]
   unfold upd
   rw [if_neg (fun h => hn s (by simp) h.symm)]
theorem dm : ∀ (k : Nat) (xs : List S), rises k xs = true → ∀ s ∈ xs, k < s.id ∧ s.id ≤ 11
 | _, [], _, s, hs => by cases hs
 | k, t :: xs, h, s, hs => by
  simp only [rises, Bool.and_eq_true, decide_eq_true_eq] at h
  rcases List.mem_cons.1 hs with rfl | hs
  ·exact ⟨h.1.1, h.1.2⟩
  ·have := dm t.id xs h.2 s hs
   omega
theorem enc_len (x : S) : 1 ≤ (Sec.enc x).length := by simp [Sec.enc]
theorem dec_of {l : List UInt8} {xs : List S} {f : Nat → M} (hl : l.length ≤ 65536) (hs : split l = some xs) (h : secs (fun _ => M.zero) xs = .ok f) (hc : (f 10).codes.length = (f 3).funcs.length) : dec l = .ok (M.of f) := by
 unfold dec
 rw [if_neg (by omega), hs]
 simp only
 rw [h]
 simp only
 rw [if_pos hc]
def am {α : Type} (p : P α) (ok : α → Prop) (e : α → List UInt8) : Prop := ∀ x r, ok x → (e x).length < 4294967296 → p (e x ++ r) = .ok (x, (e x).length)
def Back {α : Type} (p : P α) (ok : α → Prop) (e : α → List UInt8) : Prop := ∀ l x k, p l = .ok (x, k) → ok x ∧ (e x).length ≤ k ∧ k ≤ l.length
theorem drop_left {α : Type} (a b : List α) : (a ++ b).drop a.length = b := by simp
theorem am.bind {α β : Type} {p : P α} {f : α → P β} {a : α} {b : β} {ea eb : List UInt8} (h1 : ∀ r, p (ea ++ r) = .ok (a, ea.length)) (h2 : ∀ r, f a (eb ++ r) = .ok (b, eb.length)) (r : List UInt8) : (p.then f) (ea ++ eb ++ r) = .ok (b, (ea ++ eb).length) := by
 unfold P.then
 rw [List.append_assoc, h1]
 dsimp only
 rw [drop_left, h2]
 simp
theorem am.last {α β : Type} {p : P α} {f : α → β} {a : α} {ea : List UInt8} (h1 : ∀ r, p (ea ++ r) = .ok (a, ea.length)) (r : List UInt8) : (p.then fun x => P.ret (f x)) (ea ++ r) = .ok (f a, ea.length) := by
 unfold P.then
 rw [h1]
 rfl
theorem bc (n : Nat) (h : n < 4294967296) (r : List UInt8) : num (encU n ++ r) = .ok (n, (encU n).length) := bA n r h
theorem bq {l : List UInt8} {n k : Nat} (h : num l = .ok (n, k)) : n < 4294967296 ∧ (encU n).length ≤ k ∧ k ≤ l.length := by
 obtain ⟨h1, _, h3, h4⟩ := aB h
 exact ⟨h1, h4, h3⟩
theorem dd (x : UInt8) (r : List UInt8) : byte ([x] ++ r) = .ok (x, [x].length) := rfl
theorem cr {l : List UInt8} {x : UInt8} {k : Nat} (h : byte l = .ok (x, k)) : k = 1 ∧ 1 ≤ l.length := by
 cases l with
 | nil => cases h
 | cons y r => injection h with h; injection h with _ h; subst h; simp
theorem ia : ∀ {m n : Nat}, m ≤ n → (encU m).length ≤ (encU n).length := by
 intro m n
 induction n using Nat.strongRecOn generalizing m with
 | _ n ih =>
  intro h
  by_cases hm : m < 128
  ·rw [encU_small hm]
   exact encU_pos n
  ·rw [encU_big (by omega : 128 ≤ m), encU_big (by omega : 128 ≤ n)]
   have := @ih (n / 128) (by omega) (m / 128) (by omega)
   simp only [List.length_cons]
   omega
def encList {α : Type} (e : α → List UInt8) (xs : List α) : List UInt8 := encU xs.length ++ xs.flatMap e
theorem gy {α : Type} {p : P α} {ok : α → Prop} {e : α → List UInt8} (hp : am p ok e) : ∀ (xs : List α) (r : List UInt8), (∀ x ∈ xs, ok x) → (xs.flatMap e).length < 4294967296 → many p xs.length (xs.flatMap e ++ r) = .ok (xs, (xs.flatMap e).length)
 | [], r, _, _ => rfl
 | x :: xs, r, h, hl => by
  simp only [List.flatMap_cons, List.length_append] at hl
  have h1 := hp x (xs.flatMap e ++ r) (h x (by simp)) (by omega)
  have h2 := gy hp xs r (fun y hy => h y (by simp [hy])) (by omega)
  show (p.then fun x => (many p xs.length).then fun ys => P.ret (x :: ys)) _ = _
  unfold P.then
  simp only [List.flatMap_cons, List.append_assoc]
  rw [h1]
  dsimp only
  rw [drop_left, h2]
  simp [P.ret]
theorem cw {α : Type} {e : α → List UInt8} : ∀ (xs : List α), (∀ x ∈ xs, 1 ≤ (e x).length) → xs.length ≤ (xs.flatMap e).length
 | [], _ => by simp
 | x :: xs, h => by
  have := cw xs (fun y hy => h y (by simp [hy]))
  have := h x (by simp)
  simp only [List.flatMap_cons, List.length_append, List.length_cons]
  omega
theorem cX {α : Type} {p : P α} {ok : α → Prop} {e : α → List UInt8} (hp : am p ok e) (h1 : ∀ x, 1 ≤ (e x).length) : am (list p) (fun xs => ∀ x ∈ xs, ok x) (encList e) := fun xs r h hl => by
 unfold encList at hl
 rw [List.length_append] at hl
 have := cw xs (fun x _ => h1 x)
 unfold list encList
 exact am.bind (fun r => bc _ (by omega) r) (fun r => gy hp xs r h (by omega)) r
theorem ix {α : Type} {p : P α} {ok : α → Prop} {e : α → List UInt8} (hp : Back p ok e) : ∀ (n : Nat) (l : List UInt8) (xs : List α) (k : Nat), many p n l = .ok (xs, k) → xs.length = n ∧ (∀ x ∈ xs, ok x) ∧ (xs.flatMap e).length ≤ k ∧ k ≤ l.length
 | 0, l, xs, k, h => by
  obtain ⟨rfl, rfl⟩ := aA h
  simp
 | n + 1, l, xs, k, h => by
  obtain ⟨x, i, j, h1, h2, rfl⟩ := P.then_ok h
  obtain ⟨ys, i2, j2, h3, h4, rfl⟩ := P.then_ok h2
  obtain ⟨rfl, rfl⟩ := aA h4
  obtain ⟨a1, a2, a3⟩ := hp _ _ _ h1
  obtain ⟨b1, b2, b3, b4⟩ := ix hp n _ _ _ h3
  rw [List.length_drop] at b4
  refine ⟨by simp [b1], fun y hy => ?_, by simp only [List.flatMap_cons, List.length_append]; omega, by omega⟩
  rcases List.mem_cons.1 hy with rfl | hy
  ·exact a1
  ·exact b2 y hy
theorem dC {α : Type} {p : P α} {ok : α → Prop} {e : α → List UInt8} (hp : Back p ok e) : Back (list p) (fun xs => ∀ x ∈ xs, ok x) (encList e) := fun l xs k h => by
 obtain ⟨n, i, j, h1, h2, rfl⟩ := P.then_ok h
 obtain ⟨a1, a2, a3⟩ := bq h1
 obtain ⟨b1, b2, b3, b4⟩ := ix hp n _ _ _ h2
 rw [List.length_drop] at b4
 subst b1
 exact ⟨b2, by unfold encList; rw [List.length_append]; omega, by omega⟩
def encName (s : List UInt8) : List UInt8 := encU s.length ++ s
def okName (s : List UInt8) : Prop := U8.text s = true
theorem named_enc (s r : List UInt8) (h : okName s) (hl : s.length < 4294967296) : named (encName s ++ r) = true ∧ run (encName s ++ r) = (encU s.length).length ∧ used (encName s ++ r) = s.length := by
 have e1 : run (encName s ++ r) = (encU s.length).length := by unfold encName; rw [List.append_assoc]; exact dr _ _
 have e2 : used (encName s ++ r) = s.length := by unfold encName; rw [List.append_assoc]; exact dL _ _
 have e3 : okU (encName s ++ r) 32 = true := by unfold encName; rw [List.append_assoc]; exact encU_ok _ _ hl
 refine ⟨?_, e1, e2⟩
 unfold named
 rw [e1, e2, e3]
 have e4 : ((encName s ++ r).drop (encU s.length).length).take s.length = s := by
  unfold encName
  rw [List.append_assoc, drop_left]
  simp
 rw [e4, show U8.text s = true from h]
 simp [encName]
theorem dT : am name okName encName := fun s r h hl => by
 obtain ⟨h1, h2, h3⟩ := named_enc s r h (by unfold encName at hl; rw [List.length_append] at hl; omega)
 unfold name
 rw [if_pos h1, h2, h3]
 have e4 : ((encName s ++ r).drop (encU s.length).length).take s.length = s := by
  unfold encName
  rw [List.append_assoc, drop_left]
  simp
 rw [e4]
 simp [encName]
theorem eQ : Back name okName encName := fun l s k h => by
 unfold name at h
 split at h
 ·next hn =>
  injection h with h
  injection h with h1 h2
  unfold named at hn
  simp only [Bool.and_eq_true, decide_eq_true_eq] at hn
  obtain ⟨⟨g1, g2⟩, g3⟩ := hn
  obtain ⟨u1, u2, u3, u4⟩ := okU_32 g1
  have hl : s.length = used l := by rw [← h1, List.length_take, List.length_drop]; omega
  refine ⟨by show U8.text s = true; rw [← h1]; exact g3, ?_, by omega⟩
  unfold encName
  rw [List.length_append, hl]
  omega
 ·cases h
def okT (t : UInt8) : Prop := whole1 t = true
theorem okT_iff (t : UInt8) : okT t ↔ t = 127 ∨ t = 126 := by
 unfold okT whole1
 rw [Bool.or_eq_true, beq_iff_eq, beq_iff_eq]
theorem dj : am value okT (fun t => [t]) := fun t r h _ => by
 unfold value
 show (byte.then _) (t :: r) = _
 unfold P.then byte
 dsimp only
 have h' := (okT_iff t).1 h
 rw [if_neg (by rcases h' with rfl | rfl <;> decide), if_pos h']
 rfl
theorem dQ : Back value okT (fun t => [t]) := fun l t k h => by
 have hw := value_whole h
 obtain ⟨x, i, j, h1, h2, rfl⟩ := P.then_ok h
 obtain ⟨rfl, hl⟩ := cr h1
 split at h2
 ·cases h2
 ·split at h2
  ·obtain ⟨_, rfl⟩ := aA h2
   exact ⟨hw, by simp, by omega⟩
  ·cases h2
def encFlag (b : Bool) : List UInt8 := [if b then 1 else 0]
theorem dV (b : Bool) (r : List UInt8) : flag (encFlag b ++ r) = .ok (b, (encFlag b).length) := by
 cases b <;> rfl
theorem iA {l : List UInt8} {b : Bool} {k : Nat} (h : flag l = .ok (b, k)) : k = 1 ∧ 1 ≤ l.length := by
 obtain ⟨x, i, j, h1, h2, rfl⟩ := P.then_ok h
 obtain ⟨rfl, hl⟩ := cr h1
 split at h2
 ·obtain ⟨_, rfl⟩ := aA h2
  exact ⟨rfl, hl⟩
 ·split at h2
  ·obtain ⟨_, rfl⟩ := aA h2
   exact ⟨rfl, hl⟩
  ·cases h2
def okLim (x : Lim) : Prop := x.min < 4294967296 ∧ -1 ≤ x.max ∧ x.max ≤ 4294967295
def encLim (x : Lim) : List UInt8 := if x.max = -1 then 0 :: encU x.min else 1 :: (encU x.min ++ encU x.max.toNat)
theorem ez : am lim okLim encLim := fun x r h _ => by
 obtain ⟨a, b⟩ := x
 obtain ⟨h1, h2, h3⟩ := h
 dsimp only at h1 h2 h3
 unfold lim encLim
 by_cases hb : b = -1
 ·subst hb
  rw [if_pos rfl]
  exact am.bind (ea := encFlag false) (fun r => dV false r) (am.last (f := fun a => (⟨a, -1⟩ : Lim)) (fun r => bc a h1 r)) r
 ·rw [if_neg hb]
  dsimp only
  have hb2 : ((b.toNat : Nat) : Int) = b := by omega
  have := am.bind (f := fun f => num.then fun a => if f = true then num.then fun b => P.ret (⟨a, (b : Int)⟩ : Lim) else P.ret ⟨a, -1⟩) (ea := encFlag true) (fun r => dV true r)
   (am.bind (f := fun a => if true = true then num.then fun b => P.ret (⟨a, (b : Int)⟩ : Lim) else P.ret ⟨a, -1⟩) (fun r => bc a h1 r) (am.last (f := fun b : Nat => (⟨a, (b : Int)⟩ : Lim)) (fun r => bc b.toNat (by omega) r))) r
  rw [hb2] at this
  exact this
theorem fN : Back lim okLim encLim := fun l x k h => by
 obtain ⟨f, i, j, h1, h2, rfl⟩ := P.then_ok h
 obtain ⟨rfl, hl⟩ := iA h1
 obtain ⟨a, i2, j2, h3, h4, rfl⟩ := P.then_ok h2
 obtain ⟨a1, a2, a3⟩ := bq h3
 rw [List.length_drop] at a3
 split at h4
 ·obtain ⟨b, i3, j3, h5, h6, rfl⟩ := P.then_ok h4
  obtain ⟨b1, b2, b3⟩ := bq h5
  obtain ⟨rfl, rfl⟩ := aA h6
  rw [List.length_drop, List.length_drop] at b3
  refine ⟨⟨a1, by show (-1 : Int) ≤ (b : Int); omega, by show (b : Int) ≤ 4294967295; omega⟩, ?_, by omega⟩
  unfold encLim
  rw [if_neg (by show ¬ (b : Int) = -1; omega)]
  simp only [List.length_cons, List.length_append, Int.toNat_natCast]
  omega
 ·obtain ⟨rfl, rfl⟩ := aA h4
  refine ⟨⟨a1, by show (-1 : Int) ≤ -1; omega, by show (-1 : Int) ≤ 4294967295; omega⟩, ?_, by omega⟩
  unfold encLim
  rw [if_pos rfl]
  simp only [List.length_cons]
  omega
def okGlob (g : Glob) : Prop := okT g.t
def encGlob (g : Glob) : List UInt8 := [g.t] ++ encFlag g.mu
theorem gF : am glob okGlob encGlob := fun g r h _ => by
 unfold glob encGlob
 exact am.bind (fun r => dj g.t r h (by simp)) (am.last (f := fun m => (⟨g.t, m⟩ : Glob)) (fun r => dV g.mu r)) r
theorem il : Back glob okGlob encGlob := fun l g k h => by
 obtain ⟨t, i, j, h1, h2, rfl⟩ := P.then_ok h
 obtain ⟨m, i2, j2, h3, h4, rfl⟩ := P.then_ok h2
 obtain ⟨rfl, rfl⟩ := aA h4
 obtain ⟨a1, a2, a3⟩ := dQ _ _ _ h1
 obtain ⟨rfl, b2⟩ := iA h3
 rw [List.length_drop] at b2
 refine ⟨a1, ?_, by omega⟩
 simp only [List.length_cons, List.length_nil] at a2
 simp [encGlob, encFlag]
 omega
def okExpr (xs : List I) : Prop := xs.all may = true ∧ (∀ x ∈ xs, x.wf) ∧ steps [] xs = some []
theorem labs_ge (l : List Nat) : l.length ≤ (labs l).length := cw l (fun n _ => encU_pos n)
theorem enc_labs (x : I) (h : may x = true) : x.l.length ≤ (Ins.enc x).length := by
 unfold may at h
 rw [Bool.and_eq_true] at h
 have h2 := h.2
 have hr := bP (x.op : Int)
 have hz : ∀ l : List Nat, l.isEmpty = true → l.length = 0 := fun l h => by cases l <;> simp_all
 unfold Ins.enc tailF
 unfold mayF at h2
 have := labs_ge x.l
 rcases hr with e | e | e | e | e | e | e | e | e | e <;> rw [e] at h2 ⊢ <;> simp at h2 ⊢ <;> (try simp [h2]) <;> omega
theorem expr_len (xs : List I) : xs.length + 1 ≤ (exprEnc xs).length := by
 unfold exprEnc
 rw [List.length_append]
 have := cw (e := Ins.enc) xs (fun x _ => by simp [Ins.enc])
 simp only [Ins.encAll, List.length_cons, List.length_nil]
 omega
theorem eC {α : Type} {e : α → List UInt8} {xs : List α} {x : α} (h : x ∈ xs) : (e x).length ≤ (xs.flatMap e).length := by
 obtain ⟨a, b, rfl⟩ := List.append_of_mem h
 simp only [List.flatMap_append, List.flatMap_cons, List.length_append]
 omega
theorem cY : am expr okExpr exprEnc := fun xs r h hl => by
 unfold expr
 refine gz xs [] _ r h.1 (fun x hx => ⟨h.2.1 x hx, ?_⟩) h.2.2 ?_
 ·have h1 := enc_labs x (List.all_eq_true.1 h.1 x hx)
  have h2 := eC (e := Ins.enc) hx
  unfold exprEnc Ins.encAll at hl
  rw [List.length_append] at hl
  omega
 ·have := expr_len xs
  rw [List.length_append]
  omega
theorem dH : Back expr okExpr exprEnc := fun l xs k h => by
 obtain ⟨h1, h2, h3, h4, h5⟩ := bS _ _ _ _ _ h
 exact ⟨⟨h1, fun x hx => (h2 x hx).1, h3⟩, h5, h4⟩
def encVals (l : List UInt8) : List UInt8 := encList (fun t => [t]) l
theorem gp : am (list value) (fun xs => ∀ x ∈ xs, okT x) encVals := cX dj (fun _ => by simp)
theorem ig : Back (list value) (fun xs => ∀ x ∈ xs, okT x) encVals := dC dQ
def okNum (n : Nat) : Prop := n < 4294967296
theorem dl : am num okNum encU := fun n r h _ => bc n h r
theorem f9 : Back num okNum encU := fun _ _ _ h => bq h
def encNums (l : List Nat) : List UInt8 := encList encU l
theorem nums_there : am (list num) (fun xs => ∀ x ∈ xs, okNum x) encNums := cX dl encU_pos
theorem nums_back : Back (list num) (fun xs => ∀ x ∈ xs, okNum x) encNums := dC f9
def okFT (t : FT) : Prop := (∀ x ∈ t.params, okT x) ∧ ∀ x ∈ t.results, okT x
def encFT (t : FT) : List UInt8 := [96] ++ (encVals t.params ++ encVals t.results)
theorem ft_there : am ft okFT encFT := fun t r h hl => by
 obtain ⟨p, q⟩ := t
 unfold encFT at hl ⊢
 simp only [List.length_append] at hl
 unfold ft
 refine am.bind (dd 96) (fun r => ?_) r
 rw [if_pos rfl]
 exact am.bind (fun r => gp p r h.1 (by omega)) (am.last (f := fun q => (⟨p, q⟩ : FT)) (fun r => gp q r h.2 (by omega))) r
theorem ft_back : Back ft okFT encFT := fun l t k h => by
 obtain ⟨x, i, j, h1, h2, rfl⟩ := P.then_ok h
 obtain ⟨rfl, hl⟩ := cr h1
 split at h2
 ·obtain ⟨p, i2, j2, h3, h4, rfl⟩ := P.then_ok h2
  obtain ⟨q, i3, j3, h5, h6, rfl⟩ := P.then_ok h4
  obtain ⟨rfl, rfl⟩ := aA h6
  obtain ⟨a1, a2, a3⟩ := ig _ _ _ h3
  obtain ⟨b1, b2, b3⟩ := ig _ _ _ h5
  rw [List.length_drop] at a3
  rw [List.length_drop, List.length_drop] at b3
  refine ⟨⟨a1, b1⟩, ?_, by omega⟩
  simp only [encFT, List.length_append, List.length_cons, List.length_nil]
  omega
 ·cases h2
def okMore (x : Imp) : Prop := x.kind = 0 ∧ okNum x.type ∧ x.lim = ⟨0, 0⟩ ∧ x.glob = ⟨0, false⟩ ∨ x.kind = 1 ∧ okLim x.lim ∧ x.type = 0 ∧ x.glob = ⟨0, false⟩ ∨ x.kind = 2 ∧ okLim x.lim ∧ x.type = 0 ∧ x.glob = ⟨0, false⟩ ∨ x.kind = 3 ∧ okGlob x.glob ∧ x.type = 0 ∧ x.lim = ⟨0, 0⟩
def okImp (x : Imp) : Prop := okName x.mod ∧ okName x.name ∧ okMore x
def encMore (x : Imp) : List UInt8 := if x.kind = 0 then encU x.type else if x.kind = 1 then [112] ++ encLim x.lim else if x.kind = 2 then encLim x.lim else encGlob x.glob
def encImp (x : Imp) : List UInt8 := encName x.mod ++ (encName x.name ++ ([x.kind] ++ encMore x))
theorem ff : am table okLim (fun x => [112] ++ encLim x) := fun x r h hl => by
 unfold table
 simp only [List.length_append] at hl
 refine am.bind (dd 112) (fun r => ?_) r
 rw [if_pos rfl]
 exact ez x r h (by omega)
theorem gd : Back table okLim (fun x => [112] ++ encLim x) := fun l x k h => by
 obtain ⟨y, i, j, h1, h2, rfl⟩ := P.then_ok h
 obtain ⟨rfl, hl⟩ := cr h1
 split at h2
 ·obtain ⟨a1, a2, a3⟩ := fN _ _ _ h2
  rw [List.length_drop] at a3
  refine ⟨a1, ?_, by omega⟩
  simp only [List.length_append, List.length_cons, List.length_nil]
  omega
 ·cases h2
theorem more_there (a b : List UInt8) (x : Imp) (hx : x.mod = a ∧ x.name = b) (h : okMore x) (hl : (encMore x).length < 4294967296) (r : List UInt8) :
  (if x.kind = 0 then num.then fun t => P.ret (⟨a, b, 0, t, ⟨0, 0⟩, ⟨0, false⟩⟩ : Imp)
   else if x.kind = 1 then table.then fun t => P.ret ⟨a, b, 1, 0, t, ⟨0, false⟩⟩
   else if x.kind = 2 then lim.then fun t => P.ret ⟨a, b, 2, 0, t, ⟨0, false⟩⟩
   else if x.kind = 3 then glob.then fun t => P.ret ⟨a, b, 3, 0, ⟨0, 0⟩, t⟩
   else P.fail 60) (encMore x ++ r) = .ok (x, (encMore x).length) := by
 obtain ⟨a', b', c, t, li, gl⟩ := x
 obtain ⟨rfl, rfl⟩ := hx
 rcases h with ⟨e, g1, g2, g3⟩ | ⟨e, g1, g2, g3⟩ | ⟨e, g1, g2, g3⟩ | ⟨e, g1, g2, g3⟩ <;> dsimp only at e g1 g2 g3 <;> subst e g2 g3
 ·exact am.last (f := fun t => (⟨a', b', 0, t, ⟨0, 0⟩, ⟨0, false⟩⟩ : Imp)) (fun r => bc t g1 r) r
 ·exact am.last (f := fun t => (⟨a', b', 1, 0, t, ⟨0, false⟩⟩ : Imp)) (fun r => ff li r g1 hl) r
 ·exact am.last (f := fun t => (⟨a', b', 2, 0, t, ⟨0, false⟩⟩ : Imp)) (fun r => ez li r g1 hl) r
 ·exact am.last (f := fun t => (⟨a', b', 3, 0, ⟨0, 0⟩, t⟩ : Imp)) (fun r => gF gl r g1 hl) r
theorem imp_there : am imp okImp encImp := fun x r h hl => by
 obtain ⟨h1, h2, h3⟩ := h
 unfold encImp at hl ⊢
 simp only [List.length_append] at hl
 unfold imp
 refine am.bind (f := fun a => name.then fun b => byte.then fun k => if k = 0 then num.then fun t => P.ret (⟨a, b, 0, t, ⟨0, 0⟩, ⟨0, false⟩⟩ : Imp)
   else if k = 1 then table.then fun t => P.ret ⟨a, b, 1, 0, t, ⟨0, false⟩⟩
   else if k = 2 then lim.then fun t => P.ret ⟨a, b, 2, 0, t, ⟨0, false⟩⟩
   else if k = 3 then glob.then fun t => P.ret ⟨a, b, 3, 0, ⟨0, 0⟩, t⟩
   else P.fail 60) (fun r => dT x.mod r h1 (by omega)) (fun r => ?_) r
 refine am.bind (f := fun b => byte.then fun k => if k = 0 then num.then fun t => P.ret (⟨x.mod, b, 0, t, ⟨0, 0⟩, ⟨0, false⟩⟩ : Imp)
   else if k = 1 then table.then fun t => P.ret ⟨x.mod, b, 1, 0, t, ⟨0, false⟩⟩
   else if k = 2 then lim.then fun t => P.ret ⟨x.mod, b, 2, 0, t, ⟨0, false⟩⟩
   else if k = 3 then glob.then fun t => P.ret ⟨x.mod, b, 3, 0, ⟨0, 0⟩, t⟩
   else P.fail 60) (fun r => dT x.name r h2 (by omega)) (fun r => ?_) r
 exact am.bind (f := fun k => if k = 0 then num.then fun t => P.ret (⟨x.mod, x.name, 0, t, ⟨0, 0⟩, ⟨0, false⟩⟩ : Imp)
   else if k = 1 then table.then fun t => P.ret ⟨x.mod, x.name, 1, 0, t, ⟨0, false⟩⟩
   else if k = 2 then lim.then fun t => P.ret ⟨x.mod, x.name, 2, 0, t, ⟨0, false⟩⟩
   else if k = 3 then glob.then fun t => P.ret ⟨x.mod, x.name, 3, 0, ⟨0, 0⟩, t⟩
   else P.fail 60) (dd x.kind) (fun r => more_there x.mod x.name x ⟨rfl, rfl⟩ h3 (by omega) r) r
theorem imp_back : Back imp okImp encImp := fun l x k h => by
 obtain ⟨a, i1, j1, h1, h2, rfl⟩ := P.then_ok h
 obtain ⟨b, i2, j2, h3, h4, rfl⟩ := P.then_ok h2
 obtain ⟨c, i3, j3, h5, h6, rfl⟩ := P.then_ok h4
 obtain ⟨a1, a2, a3⟩ := eQ _ _ _ h1
 obtain ⟨b1, b2, b3⟩ := eQ _ _ _ h3
 obtain ⟨rfl, c2⟩ := cr h5
 simp only [List.length_drop] at b3 c2
 have hfin : ∀ (x : Imp), x.mod = a → x.name = b → okMore x → (encMore x).length ≤ j3 → j3 ≤ l.length - i1 - i2 - 1 → okImp x ∧ (encImp x).length ≤ i1 + (i2 + (1 + j3)) ∧ i1 + (i2 + (1 + j3)) ≤ l.length := by
  rintro x rfl rfl g1 g2 g3
  refine ⟨⟨a1, b1, g1⟩, ?_, by omega⟩
  simp only [encImp, List.length_append, List.length_cons, List.length_nil]
  omega
 split at h6
 ·obtain ⟨t, i4, j4, h7, h8, rfl⟩ := P.then_ok h6
  obtain ⟨rfl, rfl⟩ := aA h8
  obtain ⟨d1, d2, d3⟩ := bq h7
  simp only [List.length_drop] at d3
  exact hfin _ rfl rfl (.inl ⟨rfl, d1, rfl, rfl⟩) (by simpa [encMore] using d2) (by omega)
 ·split at h6
  ·obtain ⟨t, i4, j4, h7, h8, rfl⟩ := P.then_ok h6
   obtain ⟨rfl, rfl⟩ := aA h8
   obtain ⟨d1, d2, d3⟩ := gd _ _ _ h7
   simp only [List.length_drop] at d3
   exact hfin _ rfl rfl (.inr (.inl ⟨rfl, d1, rfl, rfl⟩)) (by simpa [encMore] using d2) (by omega)
  ·split at h6
   ·obtain ⟨t, i4, j4, h7, h8, rfl⟩ := P.then_ok h6
    obtain ⟨rfl, rfl⟩ := aA h8
    obtain ⟨d1, d2, d3⟩ := fN _ _ _ h7
    simp only [List.length_drop] at d3
    exact hfin _ rfl rfl (.inr (.inr (.inl ⟨rfl, d1, rfl, rfl⟩))) (by simpa [encMore] using d2) (by omega)
   ·split at h6
    ·obtain ⟨t, i4, j4, h7, h8, rfl⟩ := P.then_ok h6
     obtain ⟨rfl, rfl⟩ := aA h8
     obtain ⟨d1, d2, d3⟩ := il _ _ _ h7
     simp only [List.length_drop] at d3
     exact hfin _ rfl rfl (.inr (.inr (.inr ⟨rfl, d1, rfl, rfl⟩))) (by simpa [encMore] using d2) (by omega)
    ·cases h6
def okGV (g : GV) : Prop := okGlob g.type ∧ okExpr g.init
def encGV (g : GV) : List UInt8 := encGlob g.type ++ exprEnc g.init
theorem gv_there : am gv okGV encGV := fun g r h hl => by
 obtain ⟨t, e⟩ := g
 unfold encGV at hl ⊢
 rw [List.length_append] at hl
 unfold gv
 exact am.bind (fun r => gF t r h.1 (by dsimp only at hl; omega)) (am.last (f := fun e => (⟨t, e⟩ : GV)) (fun r => cY e r h.2 (by dsimp only at hl; omega))) r
theorem gv_back : Back gv okGV encGV := fun l g k h => by
 obtain ⟨t, i, j, h1, h2, rfl⟩ := P.then_ok h
 obtain ⟨e, i2, j2, h3, h4, rfl⟩ := P.then_ok h2
 obtain ⟨rfl, rfl⟩ := aA h4
 obtain ⟨a1, a2, a3⟩ := il _ _ _ h1
 obtain ⟨b1, b2, b3⟩ := dH _ _ _ h3
 rw [List.length_drop] at b3
 exact ⟨⟨a1, b1⟩, by simp only [encGV, List.length_append]; omega, by omega⟩
def okExp (x : Exp) : Prop := okName x.name ∧ x.kind.toNat ≤ 3 ∧ okNum x.index
def encExp (x : Exp) : List UInt8 := encName x.name ++ ([x.kind] ++ encU x.index)
theorem exp_there : am exp okExp encExp := fun x r h hl => by
 obtain ⟨a, c, n⟩ := x
 obtain ⟨h1, h2, h3⟩ := h
 unfold encExp at hl ⊢
 simp only [List.length_append] at hl
 unfold exp
 refine am.bind (fun r => dT a r h1 (by omega)) (fun r => ?_) r
 refine am.bind (dd c) (fun r => ?_) r
 rw [if_pos h2]
 exact am.last (f := fun i => (⟨a, c, i⟩ : Exp)) (fun r => bc n h3 r) r
theorem exp_back : Back exp okExp encExp := fun l x k h => by
 obtain ⟨a, i1, j1, h1, h2, rfl⟩ := P.then_ok h
 obtain ⟨c, i3, j3, h5, h6, rfl⟩ := P.then_ok h2
 obtain ⟨a1, a2, a3⟩ := eQ _ _ _ h1
 obtain ⟨rfl, c2⟩ := cr h5
 split at h6
 ·next hc =>
  obtain ⟨t, i4, j4, h7, h8, rfl⟩ := P.then_ok h6
  obtain ⟨rfl, rfl⟩ := aA h8
  obtain ⟨d1, d2, d3⟩ := bq h7
  simp only [List.length_drop] at d3 c2
  refine ⟨⟨a1, hc, d1⟩, ?_, by omega⟩
  simp only [encExp, List.length_append, List.length_cons, List.length_nil]
  omega
 ·cases h6
def okEl (x : El) : Prop := okNum x.table ∧ okExpr x.off ∧ ∀ f ∈ x.funcs, okNum f
def encEl (x : El) : List UInt8 := encU x.table ++ (exprEnc x.off ++ encNums x.funcs)
theorem el_there : am el okEl encEl := fun x r h hl => by
 obtain ⟨t, e, f⟩ := x
 obtain ⟨h1, h2, h3⟩ := h
 unfold encEl at hl ⊢
 simp only [List.length_append] at hl
 unfold el
 refine am.bind (fun r => bc t h1 r) (fun r => ?_) r
 exact am.bind (fun r => cY e r h2 (by omega)) (am.last (f := fun f => (⟨t, e, f⟩ : El)) (fun r => nums_there f r h3 (by omega))) r
theorem el_back : Back el okEl encEl := fun l x k h => by
 obtain ⟨t, i1, j1, h1, h2, rfl⟩ := P.then_ok h
 obtain ⟨e, i2, j2, h3, h4, rfl⟩ := P.then_ok h2
 obtain ⟨f, i3, j3, h5, h6, rfl⟩ := P.then_ok h4
 obtain ⟨rfl, rfl⟩ := aA h6
 obtain ⟨a1, a2, a3⟩ := bq h1
 obtain ⟨b1, b2, b3⟩ := dH _ _ _ h3
 obtain ⟨c1, c2, c3⟩ := nums_back _ _ _ h5
 simp only [List.length_drop] at b3 c3
 exact ⟨⟨a1, b1, c1⟩, by simp only [encEl, List.length_append]; omega, by omega⟩
def okLc (x : Lc) : Prop := okNum x.n ∧ okT x.t
def encLc (x : Lc) : List UInt8 := encU x.n ++ [x.t]
theorem loc_there : am loc okLc encLc := fun x r h _ => by
 obtain ⟨n, t⟩ := x
 unfold encLc
 unfold loc
 exact am.bind (fun r => bc n h.1 r) (am.last (f := fun t => (⟨n, t⟩ : Lc)) (fun r => dj t r h.2 (by simp))) r
theorem loc_back : Back loc okLc encLc := fun l x k h => by
 obtain ⟨n, i1, j1, h1, h2, rfl⟩ := P.then_ok h
 obtain ⟨t, i2, j2, h3, h4, rfl⟩ := P.then_ok h2
 obtain ⟨rfl, rfl⟩ := aA h4
 obtain ⟨a1, a2, a3⟩ := bq h1
 obtain ⟨b1, b2, b3⟩ := dQ _ _ _ h3
 simp only [List.length_drop] at b3
 simp only [List.length_cons, List.length_nil] at b2
 exact ⟨⟨a1, b1⟩, by simp only [encLc, List.length_append, List.length_cons, List.length_nil]; omega, by omega⟩
def okCd (c : Cd) : Prop := (∀ x ∈ c.locals, okLc x) ∧ locSum c.locals < 4294967296 ∧ okExpr c.body
def cdB (c : Cd) : List UInt8 := encList encLc c.locals ++ exprEnc c.body
def encCd (c : Cd) : List UInt8 := encU (cdB c).length ++ cdB c
theorem iq (x : Lc) : 1 ≤ (encLc x).length := by simp [encLc]
theorem cdIn_there : am cdIn okCd cdB := fun c r h hl => by
 obtain ⟨ls, e⟩ := c
 obtain ⟨h1, h2, h3⟩ := h
 unfold cdB at hl ⊢
 simp only [List.length_append] at hl
 unfold cdIn
 refine am.bind (fun r => cX loc_there iq ls r h1 (by omega)) (fun r => ?_) r
 rw [if_pos h2]
 exact am.last (f := fun e => (⟨ls, e⟩ : Cd)) (fun r => cY e r h3 (by omega)) r
theorem cdIn_back : Back cdIn okCd cdB := fun l c k h => by
 obtain ⟨ls, i1, j1, h1, h2, rfl⟩ := P.then_ok h
 obtain ⟨a1, a2, a3⟩ := dC loc_back _ _ _ h1
 split at h2
 ·next hs =>
  obtain ⟨e, i2, j2, h3, h4, rfl⟩ := P.then_ok h2
  obtain ⟨rfl, rfl⟩ := aA h4
  obtain ⟨b1, b2, b3⟩ := dH _ _ _ h3
  simp only [List.length_drop] at b3
  exact ⟨⟨a1, hs, b1⟩, by simp only [cdB, List.length_append]; omega, by omega⟩
 ·cases h2
theorem dq {α : Type} {p : P α} {ok : α → Prop} {e : α → List UInt8} (hp : am p ok e) (x : α) (h : ok x) (hl : (e x).length < 4294967296) : whole p (e x) = .ok x := by
 have := hp x [] h hl
 rw [List.append_nil] at this
 unfold whole
 rw [this]
 dsimp only
 rw [if_pos rfl]
theorem fV (b r : List UInt8) (h : b.length < 4294967296) : part (encU b.length ++ b ++ r) = .ok (b, (encU b.length ++ b).length) := by
 unfold part
 refine am.bind (fun r => bc _ h r) (fun r => ?_) r
 rw [if_pos (by simp)]
 simp
theorem iw {l b : List UInt8} {k : Nat} (h : part l = .ok (b, k)) : b.length < 4294967296 ∧ (encU b.length).length + b.length ≤ k ∧ k ≤ l.length := by
 obtain ⟨n, i, j, h1, h2, rfl⟩ := P.then_ok h
 obtain ⟨a1, a2, a3⟩ := bq h1
 split at h2
 ·next hn =>
  injection h2 with h2
  injection h2 with h3 h4
  rw [List.length_drop] at hn
  have hb : b.length = n := by rw [← h3, List.length_take, List.length_drop]; omega
  subst h4
  rw [hb]
  omega
 ·cases h2
theorem cd_there : am cd okCd encCd := fun c r h hl => by
 unfold encCd at hl ⊢
 rw [List.length_append] at hl
 unfold cd P.then
 rw [fV (cdB c) r (by omega)]
 dsimp only
 rw [dq cdIn_there c h (by omega)]
 simp [P.ret]
theorem cd_back : Back cd okCd encCd := fun l c k h => by
 obtain ⟨b, i, j, h1, h2, rfl⟩ := P.then_ok h
 obtain ⟨a1, a2, a3⟩ := iw h1
 cases e : whole cdIn b with
 | error z => rw [e] at h2; cases h2
 | ok c' =>
  rw [e] at h2
  obtain ⟨rfl, rfl⟩ := aA h2
  obtain ⟨b1, b2, b3⟩ := cdIn_back _ _ _ (er e)
  refine ⟨b1, ?_, by omega⟩
  have hm : (encU (cdB c').length).length ≤ (encU b.length).length := ia b2
  simp only [encCd, List.length_append]
  omega
def okDa (x : Da) : Prop := okNum x.mem ∧ okExpr x.off
def encDa (x : Da) : List UInt8 := encU x.mem ++ (exprEnc x.off ++ (encU x.b.length ++ x.b))
theorem da_there : am da okDa encDa := fun x r h hl => by
 obtain ⟨m, e, b⟩ := x
 obtain ⟨h1, h2⟩ := h
 unfold encDa at hl ⊢
 simp only [List.length_append] at hl
 unfold da
 refine am.bind (fun r => bc m h1 r) (fun r => ?_) r
 exact am.bind (fun r => cY e r h2 (by omega)) (am.last (f := fun b => (⟨m, e, b⟩ : Da)) (fun r => fV b r (by omega))) r
theorem da_back : Back da okDa encDa := fun l x k h => by
 obtain ⟨m, i1, j1, h1, h2, rfl⟩ := P.then_ok h
 obtain ⟨e, i2, j2, h3, h4, rfl⟩ := P.then_ok h2
 obtain ⟨b, i3, j3, h5, h6, rfl⟩ := P.then_ok h4
 obtain ⟨rfl, rfl⟩ := aA h6
 obtain ⟨a1, a2, a3⟩ := bq h1
 obtain ⟨b1, b2, b3⟩ := dH _ _ _ h3
 obtain ⟨c1, c2, c3⟩ := iw h5
 simp only [List.length_drop] at b3 c3
 exact ⟨⟨a1, b1⟩, by simp only [encDa, List.length_append]; omega, by omega⟩
end Bin
