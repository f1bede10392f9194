/-
  Plain mathematics of a binary's sections: what their bytes are, what bytes begin with, and that each is the other's way back; a custom section anywhere; a beginning of a binary's bytes.
-/
import Derived.Test.YtgnbkfkiigcdgaaGreatDoorQ01
import Derived.Test.YtgnbkfkiigcdgaaGreatDoorQ02
import Derived.Test.YtgnbkfkiigcdgaaGreatDoorQ08
set_option maxRecDepth 100000
set_option maxHeartbeats 4000000
namespace Sec
open Leb
structure S where
 id : Nat
 b : List UInt8
deriving DecidableEq
def begin8 : List UInt8 := [0, 97, 115, 109, 1, 0, 0, 0]
def enc (s : S) : List UInt8 := UInt8.ofNat s.id :: (encU s.b.length ++ s.b)
def encAll (xs : List S) : List UInt8 := xs.flatMap enc
def join (xs : List S) : List UInt8 := begin8 ++ encAll xs
def rises : Nat → List S → Bool
 | _, [] => true
 | k, s :: xs => decide (k < s.id) && decide (s.id ≤ 11) && rises s.id xs
def lastId : Nat → List S → Nat
 | k, [] => k
 | _, s :: xs => lastId s.id xs
def named (l : List UInt8) : Bool := okU l 32 && decide (run l + used l ≤ l.length) && U8.text ((l.drop (run l)).take (used l))
def hd : List UInt8 → Option (Nat × List UInt8 × List UInt8)
 | [] => none
 | x :: r => if okU r 32 = true ∧ run r + used r ≤ r.length then some (x.toNat, (r.drop (run r)).take (used r), r.drop (run r + used r)) else none
def rd : Nat → Nat → List UInt8 → Option (List S)
 | 0, _, l => if l = [] then some [] else none
 | f + 1, k, l => if l = [] then some [] else match hd l with
  | none => none
  | some (id, own, rest) => if id = 0 then (if named own = true then rd f k rest else none) else if k < id ∧ id ≤ 11 then (rd f id rest).map (⟨id, own⟩ :: ·) else none
def split (l : List UInt8) : Option (List S) := if l.take 8 = begin8 then rd l.length 0 (l.drop 8) else none
theorem encU_ok (n : Nat) (r : List UInt8) (h : n < 4294967296) : okU (encU n ++ r) 32 = true := by
 rw [okU_encU n r 32 (by omega) (by decide) (by decide)]
 have := (bI n 32 (by omega) (by decide)).2 (by omega)
 exact decide_eq_true (by omega)
theorem okU_32 {l : List UInt8} (h : okU l 32 = true) : used l < 4294967296 ∧ 1 ≤ run l ∧ run l ≤ l.length ∧ (encU (used l)).length ≤ run l := by
 have h1 := (okU_run1 h).1
 refine ⟨?_, h1, run_le l, shortU h1⟩
 unfold okU at h
 rw [decide_eq_true_iff] at h
 have h5 := h.2.2.2.2
 have e : ((2 : Int) ^ (32 : Int).toNat) = 4294967296 := by decide
 rw [e] at h5
 omega
theorem nat_of (n : Nat) (h : n < 256) : (UInt8.ofNat n).toNat = n := by simp; omega
theorem hd_some {l : List UInt8} {id : Nat} {own rest : List UInt8} (h : hd l = some (id, own, rest)) : ∃ x r, l = x :: r ∧ okU r 32 = true ∧ run r + used r ≤ r.length ∧ id = x.toNat ∧ own = (r.drop (run r)).take (used r) ∧ rest = r.drop (run r + used r) := by
 cases l with
 | nil => cases h
 | cons x r =>
  simp only [hd] at h
  split at h
  ·next hc =>
   injection h with h
   simp only [Prod.mk.injEq] at h
   obtain ⟨rfl, rfl, rfl⟩ := h
   exact ⟨x, r, rfl, hc.1, hc.2, rfl, rfl, rfl⟩
  ·cases h
theorem gX {l : List UInt8} {id : Nat} {own rest : List UInt8} (h : hd l = some (id, own, rest)) : id < 256 ∧ own.length < 4294967296 ∧ (enc ⟨id, own⟩).length + rest.length ≤ l.length ∧ rest.length < l.length := by
 obtain ⟨x, r, rfl, h1, h2, rfl, rfl, rfl⟩ := hd_some h
 obtain ⟨h3, h4, h5, h6⟩ := okU_32 h1
 have hx := x.toNat_lt
 have hl : ((r.drop (run r)).take (used r)).length = used r := by simp; omega
 refine ⟨by omega, by omega, ?_, by simp; omega⟩
 simp only [enc, List.length_cons, List.length_append, List.length_drop, hl]
 omega
theorem hd_enc (s : S) (r : List UInt8) (hi : s.id < 256) (hb : s.b.length < 4294967296) : hd (enc s ++ r) = some (s.id, s.b, r) := by
 have e : enc s ++ r = UInt8.ofNat s.id :: (encU s.b.length ++ (s.b ++ r)) := by simp [enc]
 rw [e]
 simp only [hd]
 have h1 := encU_ok s.b.length (s.b ++ r) hb
 have h2 := db s.b.length (s.b ++ r)
 have h3 := dk s.b.length (s.b ++ r)
 rw [h2, h3, if_pos ⟨h1, by simp⟩, nat_of s.id hi]
 congr 3
 ·simp
 ·rw [List.drop_append, List.drop_append]
  simp
theorem di : ∀ (f g k : Nat) (l : List UInt8), l.length ≤ f → l.length ≤ g → rd f k l = rd g k l
 | 0, 0, _, _, _, _ => rfl
 | 0, g + 1, k, l, hf, _ => by
  have h0 : l = [] := List.eq_nil_of_length_eq_zero (by omega)
  subst h0
  simp [rd]
 | f + 1, 0, k, l, _, hg => by
  have h0 : l = [] := List.eq_nil_of_length_eq_zero (by omega)
  subst h0
  simp [rd]
 | f + 1, g + 1, k, l, hf, hg => by
  unfold rd
  by_cases h0 : l = []
  ·rw [if_pos h0, if_pos h0]
  ·rw [if_neg h0, if_neg h0]
   cases hh : hd l with
   | none => rfl
   | some p =>
    obtain ⟨id, own, rest⟩ := p
    have hl := (gX hh).2.2.2
    simp only
    rw [di f g k rest (by omega) (by omega), di f g id rest (by omega) (by omega)]
theorem rd_nil (f k : Nat) : rd f k [] = some [] := by cases f <;> simp [rd]
theorem rd_enc : ∀ (xs : List S) (f k : Nat) (r : List UInt8), rises k xs = true → (∀ s ∈ xs, s.b.length < 4294967296) → (encAll xs ++ r).length ≤ f →
  rd f k (encAll xs ++ r) = (rd f (lastId k xs) r).map (xs ++ ·)
 | [], f, k, r, _, _, _ => by simp [encAll, lastId]
 | s :: xs, 0, k, r, _, _, hf => by simp [encAll, enc] at hf
 | s :: xs, f + 1, k, r, hr, hl, hf => by
  simp only [rises, Bool.and_eq_true, decide_eq_true_eq] at hr
  obtain ⟨⟨h1, h2⟩, h3⟩ := hr
  have e : encAll (s :: xs) ++ r = enc s ++ (encAll xs ++ r) := by simp [encAll]
  rw [e] at hf ⊢
  have hlen : (encAll xs ++ r).length ≤ f := by
   rw [List.length_append] at hf
   have : 1 ≤ (enc s).length := by simp [enc]
   omega
  have ih := rd_enc xs f s.id r h3 (fun t ht => hl t (by simp [ht])) hlen
  rw [rd, if_neg (by simp [enc]), hd_enc s _ (by omega) (hl s (by simp))]
  simp only
  rw [if_neg (by omega), if_pos ⟨h1, h2⟩, ih]
  have hm : r.length ≤ f := by rw [List.length_append] at hlen; omega
  have hq : ∀ q, rd f q r = rd (f + 1) q r := fun q => di f (f + 1) q r hm (by omega)
  rw [hq, Option.map_map]
  rfl
theorem gS : ∀ (f k : Nat) (l : List UInt8) (xs : List S), rd f k l = some xs → rises k xs = true ∧ (∀ s ∈ xs, s.b.length < 4294967296) ∧ (encAll xs).length ≤ l.length
 | 0, k, l, xs, h => by
  unfold rd at h
  split at h
  ·injection h with h; subst h; simp [rises, encAll]
  ·cases h
 | f + 1, k, l, xs, h => by
  unfold rd at h
  split at h
  ·injection h with h; subst h; simp [rises, encAll]
  ·next h0 =>
   cases hh : hd l with
   | none => rw [hh] at h; cases h
   | some p =>
    obtain ⟨id, own, rest⟩ := p
    rw [hh] at h
    simp only at h
    obtain ⟨h1, h2, h3, h4⟩ := gX hh
    split at h
    ·split at h
     ·obtain ⟨i1, i2, i3⟩ := gS f k rest xs h
      exact ⟨i1, i2, by omega⟩
     ·cases h
    ·split at h
     ·next hc =>
      cases hm : rd f id rest with
      | none => rw [hm] at h; cases h
      | some ys =>
       rw [hm] at h
       injection h with h
       subst h
       obtain ⟨i1, i2, i3⟩ := gS f id rest ys hm
       refine ⟨?_, ?_, ?_⟩
       ·simp only [rises, Bool.and_eq_true, decide_eq_true_eq]; exact ⟨hc, i1⟩
       ·intro s hs
        rcases List.mem_cons.1 hs with rfl | hs
        ·exact h2
        ·exact i2 s hs
       ·have e : encAll (⟨id, own⟩ :: ys) = enc ⟨id, own⟩ ++ encAll ys := by simp [encAll]
        rw [e, List.length_append]
        omega
     ·cases h
theorem split_join (xs : List S) (hr : rises 0 xs = true) (hl : ∀ s ∈ xs, s.b.length < 4294967296) : split (join xs) = some xs := by
 unfold split join
 have e1 : (begin8 ++ encAll xs).take 8 = begin8 := by simp [begin8]
 have e2 : (begin8 ++ encAll xs).drop 8 = encAll xs ++ [] := by simp [begin8]
 rw [e1, if_pos rfl, e2, rd_enc xs _ 0 [] hr hl (by simp), rd_nil]
 simp
theorem split_back {l : List UInt8} {xs : List S} (h : split l = some xs) : rises 0 xs = true ∧ (∀ s ∈ xs, s.b.length < 4294967296) ∧ (join xs).length ≤ l.length ∧ l.take 8 = begin8 := by
 unfold split at h
 split at h
 ·next hb =>
  obtain ⟨h1, h2, h3⟩ := gS _ _ _ _ h
  have h8 : 8 ≤ l.length := by
   have := congrArg List.length hb
   simp [begin8] at this
   omega
  refine ⟨h1, h2, ?_, hb⟩
  rw [List.length_drop] at h3
  unfold join
  rw [List.length_append]
  have : begin8.length = 8 := rfl
  omega
 ·cases h
theorem cI : ∀ (a b : List S) (k : Nat), rises k (a ++ b) = (rises k a && rises (lastId k a) b)
 | [], b, k => by simp [rises, lastId]
 | s :: a, b, k => by
  simp only [List.cons_append, rises, cI a b s.id, Bool.and_assoc, lastId]
def rdc (k : Nat) (l : List UInt8) : Option (List S) := rd l.length k l
theorem rdc_nil (k : Nat) : rdc k [] = some [] := rfl
theorem rdc_none {k : Nat} {l : List UInt8} (h0 : l ≠ []) (h : hd l = none) : rdc k l = none := by
 unfold rdc
 cases l with
 | nil => exact absurd rfl h0
 | cons x r => simp only [List.length_cons, rd, if_neg h0, h]
theorem rdc_some {k id : Nat} {l own rest : List UInt8} (h : hd l = some (id, own, rest)) :
  rdc k l = if id = 0 then (if named own = true then rdc k rest else none) else if k < id ∧ id ≤ 11 then (rdc id rest).map (⟨id, own⟩ :: ·) else none := by
 have hl := (gX h).2.2.2
 cases l with
 | nil => cases h
 | cons x r =>
  unfold rdc
  simp only [List.length_cons] at hl ⊢
  rw [rd, if_neg (by simp), h]
  simp only
  rw [di r.length rest.length k rest (by omega) (by omega), di r.length rest.length id rest (by omega) (by omega)]
theorem split_eq (l : List UInt8) : split l = if l.take 8 = begin8 then rdc 0 (l.drop 8) else none := by
 unfold split rdc
 split
 ·exact di _ _ _ _ (by simp) (Nat.le_refl _)
 ·rfl
def hlen (l : List UInt8) : Nat := 1 + run (l.drop 1) + used (l.drop 1)
theorem hlen_eq {l : List UInt8} {id : Nat} {own rest : List UInt8} (h : hd l = some (id, own, rest)) : hlen l ≤ l.length ∧ rest = l.drop (hlen l) ∧ 2 ≤ hlen l := by
 obtain ⟨x, r, rfl, h1, h2, rfl, rfl, rfl⟩ := hd_some h
 have h3 := (okU_32 h1).2.1
 unfold hlen
 simp only [List.drop_succ_cons, List.drop_zero, List.length_cons]
 refine ⟨by omega, ?_, by omega⟩
 rw [show 1 + run r + used r = (run r + used r) + 1 by omega, List.drop_succ_cons]
end Sec
namespace Bin
open Leb Ins Sec
structure FT where
 params : List UInt8
 results : List UInt8
deriving DecidableEq
structure Lim where
 min : Nat
 max : Int
deriving DecidableEq
structure Glob where
 t : UInt8
 mu : Bool
deriving DecidableEq
structure Imp where
 mod : List UInt8
 name : List UInt8
 kind : UInt8
 type : Nat
 lim : Lim
 glob : Glob
deriving DecidableEq
structure GV where
 type : Glob
 init : List I
deriving DecidableEq
structure Exp where
 name : List UInt8
 kind : UInt8
 index : Nat
deriving DecidableEq
structure El where
 table : Nat
 off : List I
 funcs : List Nat
deriving DecidableEq
structure Lc where
 n : Nat
 t : UInt8
deriving DecidableEq
structure Cd where
 locals : List Lc
 body : List I
deriving DecidableEq
structure Da where
 mem : Nat
 off : List I
 b : List UInt8
deriving DecidableEq
structure M where
 types : List FT
 imports : List Imp
 funcs : List Nat
 tables : List Lim
 mems : List Lim
 globals : List GV
 exports : List Exp
 hasStart : Bool
 start : Nat
 elems : List El
 codes : List Cd
 datas : List Da
deriving DecidableEq
def M.zero : M := ⟨[], [], [], [], [], [], [], false, 0, [], [], []⟩
abbrev P (α : Type) := List UInt8 → Except Nat (α × Nat)
def P.ret {α : Type} (a : α) : P α := fun _ => .ok (a, 0)
def P.fail {α : Type} (e : Nat) : P α := fun _ => .error e
def P.then {α β : Type} (p : P α) (f : α → P β) : P β := fun l => match p l with
 | .error e => .error e
 | .ok (a, k) => match f a (l.drop k) with
  | .error e => .error e
  | .ok (b, j) => .ok (b, k + j)
def many {α : Type} (p : P α) : Nat → P (List α)
 | 0 => P.ret []
 | n + 1 => p.then fun x => (many p n).then fun xs => P.ret (x :: xs)
def byte : P UInt8 := fun l => match l with
 | [] => .error 60
 | x :: _ => .ok (x, 1)
def num : P Nat := rdNum
def list {α : Type} (p : P α) : P (List α) := num.then fun n => many p n
def name : P (List UInt8) := fun l => if named l = true then .ok ((l.drop (run l)).take (used l), run l + used l) else .error 60
def value : P UInt8 := byte.then fun t => if t = 125 ∨ t = 124 then P.fail 61 else if t = 127 ∨ t = 126 then P.ret t else P.fail 60
def flag : P Bool := byte.then fun t => if t = 0 then P.ret false else if t = 1 then P.ret true else P.fail 60
def lim : P Lim := flag.then fun f => num.then fun a => if f = true then num.then fun b => P.ret ⟨a, b⟩ else P.ret ⟨a, -1⟩
def table : P Lim := byte.then fun t => if t = 112 then lim else P.fail 60
def glob : P Glob := value.then fun t => flag.then fun m => P.ret ⟨t, m⟩
def expr : P (List I) := fun l => rdExpr (l.length + 1) [] l
def ft : P FT := byte.then fun t => if t = 96 then (list value).then fun p => (list value).then fun r => P.ret ⟨p, r⟩ else P.fail 60
def imp : P Imp := name.then fun a => name.then fun b => byte.then fun k =>
 if k = 0 then num.then fun t => P.ret ⟨a, b, 0, t, ⟨0, 0⟩, ⟨0, false⟩⟩
 else if k = 1 then table.then fun t => P.ret ⟨a, b, 1, 0, t, ⟨0, false⟩⟩
 else if k = 2 then lim.then fun t => P.ret ⟨a, b, 2, 0, t, ⟨0, false⟩⟩
 else if k = 3 then glob.then fun t => P.ret ⟨a, b, 3, 0, ⟨0, 0⟩, t⟩
 else P.fail 60
def gv : P GV := glob.then fun g => expr.then fun e => P.ret ⟨g, e⟩
def exp : P Exp := name.then fun a => byte.then fun k => if k.toNat ≤ 3 then num.then fun i => P.ret ⟨a, k, i⟩ else P.fail 60
def el : P El := num.then fun t => expr.then fun e => (list num).then fun f => P.ret ⟨t, e, f⟩
def loc : P Lc := num.then fun n => value.then fun t => P.ret ⟨n, t⟩
def part : P (List UInt8) := num.then fun n => fun l => if n ≤ l.length then .ok (l.take n, n) else .error 60
def locSum (l : List Lc) : Nat := (l.map (·.n)).sum
def whole {α : Type} (p : P α) (l : List UInt8) : Except Nat α := match p l with
 | .error e => .error e
 | .ok (a, k) => if k = l.length then .ok a else .error 60
def cdIn : P Cd := (list loc).then fun ls => if locSum ls < 4294967296 then expr.then fun e => P.ret ⟨ls, e⟩ else P.fail 60
def cd : P Cd := part.then fun b => match whole cdIn b with
 | .error e => P.fail e
 | .ok c => P.ret c
def da : P Da := num.then fun m => expr.then fun e => part.then fun b => P.ret ⟨m, e, b⟩
def sec (id : Nat) (b : List UInt8) : Except Nat M :=
 if id = 1 then (whole (list ft) b).map fun x => ⟨x, [], [], [], [], [], [], false, 0, [], [], []⟩
 else if id = 2 then (whole (list imp) b).map fun x => ⟨[], x, [], [], [], [], [], false, 0, [], [], []⟩
 else if id = 3 then (whole (list num) b).map fun x => ⟨[], [], x, [], [], [], [], false, 0, [], [], []⟩
 else if id = 4 then (whole (list table) b).map fun x => ⟨[], [], [], x, [], [], [], false, 0, [], [], []⟩
 else if id = 5 then (whole (list lim) b).map fun x => ⟨[], [], [], [], x, [], [], false, 0, [], [], []⟩
 else if id = 6 then (whole (list gv) b).map fun x => ⟨[], [], [], [], [], x, [], false, 0, [], [], []⟩
 else if id = 7 then (whole (list exp) b).map fun x => ⟨[], [], [], [], [], [], x, false, 0, [], [], []⟩
 else if id = 8 then (whole num b).map fun x => ⟨[], [], [], [], [], [], [], true, x, [], [], []⟩
 else if id = 9 then (whole (list el) b).map fun x => ⟨[], [], [], [], [], [], [], false, 0, x, [], []⟩
 else if id = 10 then (whole (list cd) b).map fun x => ⟨[], [], [], [], [], [], [], false, 0, [], x, []⟩
 else (whole (list da) b).map fun x => ⟨[], [], [], [], [], [], [], false, 0, [], [], x⟩
def M.of (f : Nat → M) : M := ⟨(f 1).types, (f 2).imports, (f 3).funcs, (f 4).tables, (f 5).mems, (f 6).globals, (f 7).exports, (f 8).hasStart, (f 8).start, (f 9).elems, (f 10).codes, (f 11).datas⟩
def upd (f : Nat → M) (i : Nat) (m : M) : Nat → M := fun j => if j = i then m else f j
def secs : (Nat → M) → List S → Except Nat (Nat → M)
 | f, [] => .ok f
 | f, s :: xs => match sec s.id s.b with
  | .error e => .error e
  | .ok m => secs (upd f s.id m) xs
def dec (l : List UInt8) : Except Nat M :=
 if 65536 < l.length then .error 3 else match split l with
  | none => .error 60
  | some xs => match secs (fun _ => M.zero) xs with
   | .error e => .error e
   | .ok f => if (f 10).codes.length = (f 3).funcs.length then .ok (M.of f) else .error 60
def whole1 (t : UInt8) : Bool := t == 127 || t == 126
theorem P.then_ok {α β : Type} {p : P α} {f : α → P β} {l : List UInt8} {b : β} {k : Nat} (h : p.then f l = .ok (b, k)) : ∃ a i j, p l = .ok (a, i) ∧ f a (l.drop i) = .ok (b, j) ∧ k = i + j := by
 unfold P.then at h
 split at h
 ·cases h
 ·next a i e1 =>
  split at h
  ·cases h
  ·next b' j e2 =>
   injection h with h
   injection h with h1 h2
   subst h1
   exact ⟨a, i, j, e1, e2, h2.symm⟩
theorem cr {α : Type} {a b : α} {l : List UInt8} {k : Nat} (h : P.ret a l = .ok (b, k)) : a = b ∧ k = 0 := by
 injection h with h
 injection h with h1 h2
 exact ⟨h1, h2.symm⟩
theorem many_all {α : Type} {p : P α} {Q : α → Bool} (hp : ∀ l x k, p l = .ok (x, k) → Q x = true) : ∀ (n : Nat) (l : List UInt8) (xs : List α) (k : Nat), many p n l = .ok (xs, k) → xs.all Q = true
 | 0, l, xs, k, h => by
  obtain ⟨rfl, _⟩ := cr h
  rfl
 | n + 1, l, xs, k, h => by
  obtain ⟨x, i, j, h1, h2, _⟩ := P.then_ok h
  obtain ⟨ys, i2, j2, h3, h4, _⟩ := P.then_ok h2
  obtain ⟨rfl, _⟩ := cr h4
  simp only [List.all_cons, Bool.and_eq_true]
  exact ⟨hp _ _ _ h1, many_all hp n _ _ _ h3⟩
theorem list_all {α : Type} {p : P α} {Q : α → Bool} (hp : ∀ l x k, p l = .ok (x, k) → Q x = true) {l : List UInt8} {xs : List α} {k : Nat} (h : list p l = .ok (xs, k)) : xs.all Q = true := by
 obtain ⟨n, i, j, _, h2, _⟩ := P.then_ok h
 exact many_all hp _ _ _ _ h2
theorem rises_gt : ∀ (k : Nat) (xs : List S), rises k xs = true → ∀ s ∈ xs, k < s.id ∧ s.id ≤ 11
 | _, [], _, s, hs => by cases hs
 | k, t :: xs, h, s, hs => by
  simp only [rises, Bool.and_eq_true, decide_eq_true_eq] at h
  rcases List.mem_cons.1 hs with rfl | hs
  ·exact ⟨h.1.1, h.1.2⟩
  ·have := rises_gt t.id xs h.2 s hs
   omega
theorem enc_len (x : S) : 1 ≤ (Sec.enc x).length := by simp [Sec.enc]
theorem dec_of {l : List UInt8} {xs : List S} {f : Nat → M} (hl : l.length ≤ 65536) (hs : split l = some xs) (h : secs (fun _ => M.zero) xs = .ok f) (hc : (f 10).codes.length = (f 3).funcs.length) : dec l = .ok (M.of f) := by
 unfold dec
 rw [if_neg (by omega), hs]
 simp only
 rw [h]
 simp only
 rw [if_pos hc]
def an {α : Type} (p : P α) (ok : α → Prop) (e : α → List UInt8) : Prop := ∀ x r, ok x → (e x).length < 4294967296 → p (e x ++ r) = .ok (x, (e x).length)
theorem drop_left {α : Type} (a b : List α) : (a ++ b).drop a.length = b := by simp
theorem an.bind {α β : Type} {p : P α} {f : α → P β} {a : α} {b : β} {ea eb : List UInt8} (h1 : ∀ r, p (ea ++ r) = .ok (a, ea.length)) (h2 : ∀ r, f a (eb ++ r) = .ok (b, eb.length)) (r : List UInt8) : (p.then f) (ea ++ eb ++ r) = .ok (b, (ea ++ eb).length) := by
 unfold P.then
 rw [List.append_assoc, h1]
 dsimp only
 rw [drop_left, h2]
 simp
theorem an.last {α β : Type} {p : P α} {f : α → β} {a : α} {ea : List UInt8} (h1 : ∀ r, p (ea ++ r) = .ok (a, ea.length)) (r : List UInt8) : (p.then fun x => P.ret (f x)) (ea ++ r) = .ok (f a, ea.length) := by
 unfold P.then
 rw [h1]
 rfl
theorem aY (n : Nat) (h : n < 4294967296) (r : List UInt8) : num (encU n ++ r) = .ok (n, (encU n).length) := bp n r h
theorem cE (x : UInt8) (r : List UInt8) : byte ([x] ++ r) = .ok (x, [x].length) := rfl
def encList {α : Type} (e : α → List UInt8) (xs : List α) : List UInt8 := encU xs.length ++ xs.flatMap e
theorem eO {α : Type} {p : P α} {ok : α → Prop} {e : α → List UInt8} (hp : an p ok e) : ∀ (xs : List α) (r : List UInt8), (∀ x ∈ xs, ok x) → (xs.flatMap e).length < 4294967296 → many p xs.length (xs.flatMap e ++ r) = .ok (xs, (xs.flatMap e).length)
 | [], r, _, _ => rfl
 | x :: xs, r, h, hl => by
  simp only [List.flatMap_cons, List.length_append] at hl
  have h1 := hp x (xs.flatMap e ++ r) (h x (by simp)) (by omega)
  have h2 := eO hp xs r (fun y hy => h y (by simp [hy])) (by omega)
  show (p.then fun x => (many p xs.length).then fun ys => P.ret (x :: ys)) _ = _
  unfold P.then
  simp only [List.flatMap_cons, List.append_assoc]
  rw [h1]
  dsimp only
  rw [drop_left, h2]
  simp [P.ret]
theorem dB {α : Type} {e : α → List UInt8} : ∀ (xs : List α), (∀ x ∈ xs, 1 ≤ (e x).length) → xs.length ≤ (xs.flatMap e).length
 | [], _ => by simp
 | x :: xs, h => by
  have := dB xs (fun y hy => h y (by simp [hy]))
  have := h x (by simp)
  simp only [List.flatMap_cons, List.length_append, List.length_cons]
  omega
theorem cF {α : Type} {p : P α} {ok : α → Prop} {e : α → List UInt8} (hp : an p ok e) (h1 : ∀ x, 1 ≤ (e x).length) : an (list p) (fun xs => ∀ x ∈ xs, ok x) (encList e) := fun xs r h hl => by
 unfold encList at hl
 rw [List.length_append] at hl
 have := dB xs (fun x _ => h1 x)
 unfold list encList
 exact an.bind (fun r => aY _ (by omega) r) (fun r => eO hp xs r h (by omega)) r
def encName (s : List UInt8) : List UInt8 := encU s.length ++ s
def okName (s : List UInt8) : Prop := U8.text s = true
theorem named_enc (s r : List UInt8) (h : okName s) (hl : s.length < 4294967296) : named (encName s ++ r) = true ∧ run (encName s ++ r) = (encU s.length).length ∧ used (encName s ++ r) = s.length := by
 have e1 : run (encName s ++ r) = (encU s.length).length := by unfold encName; rw [List.append_assoc]; exact db _ _
 have e2 : used (encName s ++ r) = s.length := by unfold encName; rw [List.append_assoc]; exact dk _ _
 have e3 : okU (encName s ++ r) 32 = true := by unfold encName; rw [List.append_assoc]; exact encU_ok _ _ hl
 refine ⟨?_, e1, e2⟩
 unfold named
 rw [e1, e2, e3]
 have e4 : ((encName s ++ r).drop (encU s.length).length).take s.length = s := by
  unfold encName
  rw [List.append_assoc, drop_left]
  simp
 rw [e4, show U8.text s = true from h]
 simp [encName]
theorem dr : an name okName encName := fun s r h hl => by
 obtain ⟨h1, h2, h3⟩ := named_enc s r h (by unfold encName at hl; rw [List.length_append] at hl; omega)
 unfold name
 rw [if_pos h1, h2, h3]
 have e4 : ((encName s ++ r).drop (encU s.length).length).take s.length = s := by
  unfold encName
  rw [List.append_assoc, drop_left]
  simp
 rw [e4]
 simp [encName]
def okT (t : UInt8) : Prop := whole1 t = true
theorem okT_iff (t : UInt8) : okT t ↔ t = 127 ∨ t = 126 := by
 unfold okT whole1
 rw [Bool.or_eq_true, beq_iff_eq, beq_iff_eq]
theorem cQ : an value okT (fun t => [t]) := fun t r h _ => by
 unfold value
 show (byte.then _) (t :: r) = _
 unfold P.then byte
 dsimp only
 have h' := (okT_iff t).1 h
 rw [if_neg (by rcases h' with rfl | rfl <;> decide), if_pos h']
 rfl
def encFlag (b : Bool) : List UInt8 := [if b then 1 else 0]
theorem dz (b : Bool) (r : List UInt8) : flag (encFlag b ++ r) = .ok (b, (encFlag b).length) := by
 cases b <;> rfl
def okLim (x : Lim) : Prop := x.min < 4294967296 ∧ -1 ≤ x.max ∧ x.max ≤ 4294967295
def encLim (x : Lim) : List UInt8 := if x.max = -1 then 0 :: encU x.min else 1 :: (encU x.min ++ encU x.max.toNat)
theorem ee : an lim okLim encLim := fun x r h _ => by
 obtain ⟨a, b⟩ := x
 obtain ⟨h1, h2, h3⟩ := h
 dsimp only at h1 h2 h3
 unfold lim encLim
 by_cases hb : b = -1
 ·subst hb
  rw [if_pos rfl]
  exact an.bind (ea := encFlag false) (fun r => dz false r) (an.last (f := fun a => (⟨a, -1⟩ : Lim)) (fun r => aY a h1 r)) r
 ·rw [if_neg hb]
  dsimp only
  have hb2 : ((b.toNat : Nat) : Int) = b := by omega
  have := an.bind (f := fun f => num.then fun a => if f = true then num.then fun b => P.ret (⟨a, (b : Int)⟩ : Lim) else P.ret ⟨a, -1⟩) (ea := encFlag true) (fun r => dz true r)
   (an.bind (f := fun a => if true = true then num.then fun b => P.ret (⟨a, (b : Int)⟩ : Lim) else P.ret ⟨a, -1⟩) (fun r => aY a h1 r) (an.last (f := fun b : Nat => (⟨a, (b : Int)⟩ : Lim)) (fun r => aY b.toNat (by omega) r))) r
  rw [hb2] at this
  exact this
def okGlob (g : Glob) : Prop := okT g.t
def encGlob (g : Glob) : List UInt8 := [g.t] ++ encFlag g.mu
theorem fB : an glob okGlob encGlob := fun g r h _ => by
 unfold glob encGlob
 exact an.bind (fun r => cQ g.t r h (by simp)) (an.last (f := fun m => (⟨g.t, m⟩ : Glob)) (fun r => dz g.mu r)) r
def okExpr (xs : List I) : Prop := xs.all may = true ∧ (∀ x ∈ xs, x.wf) ∧ steps [] xs = some []
theorem labs_ge (l : List Nat) : l.length ≤ (labs l).length := dB l (fun n _ => encU_pos n)
theorem enc_labs (x : I) (h : may x = true) : x.l.length ≤ (Ins.enc x).length := by
 unfold may at h
 rw [Bool.and_eq_true] at h
 have h2 := h.2
 have hr := bH (x.op : Int)
 have hz : ∀ l : List Nat, l.isEmpty = true → l.length = 0 := fun l h => by cases l <;> simp_all
 unfold Ins.enc tailF
 unfold mayF at h2
 have := labs_ge x.l
 rcases hr with e | e | e | e | e | e | e | e | e | e <;> rw [e] at h2 ⊢ <;> simp at h2 ⊢ <;> (try simp [h2]) <;> omega
theorem expr_len (xs : List I) : xs.length + 1 ≤ (exprEnc xs).length := by
 unfold exprEnc
 rw [List.length_append]
 have := dB (e := Ins.enc) xs (fun x _ => by simp [Ins.enc])
 simp only [Ins.encAll, List.length_cons, List.length_nil]
 omega
theorem gf {α : Type} {e : α → List UInt8} {xs : List α} {x : α} (h : x ∈ xs) : (e x).length ≤ (xs.flatMap e).length := by
 obtain ⟨a, b, rfl⟩ := List.append_of_mem h
 simp only [List.flatMap_append, List.flatMap_cons, List.length_append]
 omega
theorem cH : an expr okExpr exprEnc := fun xs r h hl => by
 unfold expr
 refine fL xs [] _ r h.1 (fun x hx => ⟨h.2.1 x hx, ?_⟩) h.2.2 ?_
 ·have h1 := enc_labs x (List.all_eq_true.1 h.1 x hx)
  have h2 := gf (e := Ins.enc) hx
  unfold exprEnc Ins.encAll at hl
  rw [List.length_append] at hl
  omega
 ·have := expr_len xs
  rw [List.length_append]
  omega
def encVals (l : List UInt8) : List UInt8 := encList (fun t => [t]) l
theorem fw : an (list value) (fun xs => ∀ x ∈ xs, okT x) encVals := cF cQ (fun _ => by simp)
def okNum (n : Nat) : Prop := n < 4294967296
theorem cO : an num okNum encU := fun n r h _ => aY n h r
def encNums (l : List Nat) : List UInt8 := encList encU l
theorem nums_there : an (list num) (fun xs => ∀ x ∈ xs, okNum x) encNums := cF cO encU_pos
def okFT (t : FT) : Prop := (∀ x ∈ t.params, okT x) ∧ ∀ x ∈ t.results, okT x
def encFT (t : FT) : List UInt8 := [96] ++ (encVals t.params ++ encVals t.results)
theorem ft_there : an ft okFT encFT := fun t r h hl => by
 obtain ⟨p, q⟩ := t
 unfold encFT at hl ⊢
 simp only [List.length_append] at hl
 unfold ft
 refine an.bind (cE 96) (fun r => ?_) r
 rw [if_pos rfl]
 exact an.bind (fun r => fw p r h.1 (by omega)) (an.last (f := fun q => (⟨p, q⟩ : FT)) (fun r => fw q r h.2 (by omega))) r
def okMore (x : Imp) : Prop := x.kind = 0 ∧ okNum x.type ∧ x.lim = ⟨0, 0⟩ ∧ x.glob = ⟨0, false⟩ ∨ x.kind = 1 ∧ okLim x.lim ∧ x.type = 0 ∧ x.glob = ⟨0, false⟩ ∨ x.kind = 2 ∧ okLim x.lim ∧ x.type = 0 ∧ x.glob = ⟨0, false⟩ ∨ x.kind = 3 ∧ okGlob x.glob ∧ x.type = 0 ∧ x.lim = ⟨0, 0⟩
def okImp (x : Imp) : Prop := okName x.mod ∧ okName x.name ∧ okMore x
def encMore (x : Imp) : List UInt8 := if x.kind = 0 then encU x.type else if x.kind = 1 then [112] ++ encLim x.lim else if x.kind = 2 then encLim x.lim else encGlob x.glob
def encImp (x : Imp) : List UInt8 := encName x.mod ++ (encName x.name ++ ([x.kind] ++ encMore x))
theorem eo : an table okLim (fun x => [112] ++ encLim x) := fun x r h hl => by
 unfold table
 simp only [List.length_append] at hl
 refine an.bind (cE 112) (fun r => ?_) r
 rw [if_pos rfl]
 exact ee x r h (by omega)
theorem more_there (a b : List UInt8) (x : Imp) (hx : x.mod = a ∧ x.name = b) (h : okMore x) (hl : (encMore x).length < 4294967296) (r : List UInt8) :
  (if x.kind = 0 then num.then fun t => P.ret (⟨a, b, 0, t, ⟨0, 0⟩, ⟨0, false⟩⟩ : Imp)
   else if x.kind = 1 then table.then fun t => P.ret ⟨a, b, 1, 0, t, ⟨0, false⟩⟩
   else if x.kind = 2 then lim.then fun t => P.ret ⟨a, b, 2, 0, t, ⟨0, false⟩⟩
   else if x.kind = 3 then glob.then fun t => P.ret ⟨a, b, 3, 0, ⟨0, 0⟩, t⟩
   else P.fail 60) (encMore x ++ r) = .ok (x, (encMore x).length) := by
 obtain ⟨a', b', c, t, li, gl⟩ := x
 obtain ⟨rfl, rfl⟩ := hx
 rcases h with ⟨e, g1, g2, g3⟩ | ⟨e, g1, g2, g3⟩ | ⟨e, g1, g2, g3⟩ | ⟨e, g1, g2, g3⟩ <;> dsimp only at e g1 g2 g3 <;> subst e g2 g3
 ·exact an.last (f := fun t => (⟨a', b', 0, t, ⟨0, 0⟩, ⟨0, false⟩⟩ : Imp)) (fun r => aY t g1 r) r
 ·exact an.last (f := fun t => (⟨a', b', 1, 0, t, ⟨0, false⟩⟩ : Imp)) (fun r => eo li r g1 hl) r
 ·exact an.last (f := fun t => (⟨a', b', 2, 0, t, ⟨0, false⟩⟩ : Imp)) (fun r => ee li r g1 hl) r
 ·exact an.last (f := fun t => (⟨a', b', 3, 0, ⟨0, 0⟩, t⟩ : Imp)) (fun r => fB gl r g1 hl) r
theorem imp_there : an imp okImp encImp := fun x r h hl => by
 obtain ⟨h1, h2, h3⟩ := h
 unfold encImp at hl ⊢
 simp only [List.length_append] at hl
 unfold imp
 refine an.bind (f := fun a => name.then fun b => byte.then fun k => if k = 0 then num.then fun t => P.ret (⟨a, b, 0, t, ⟨0, 0⟩, ⟨0, false⟩⟩ : Imp)
   else if k = 1 then table.then fun t => P.ret ⟨a, b, 1, 0, t, ⟨0, false⟩⟩
   else if k = 2 then lim.then fun t => P.ret ⟨a, b, 2, 0, t, ⟨0, false⟩⟩
   else if k = 3 then glob.then fun t => P.ret ⟨a, b, 3, 0, ⟨0, 0⟩, t⟩
   else P.fail 60) (fun r => dr x.mod r h1 (by omega)) (fun r => ?_) r
 refine an.bind (f := fun b => byte.then fun k => if k = 0 then num.then fun t => P.ret (⟨x.mod, b, 0, t, ⟨0, 0⟩, ⟨0, false⟩⟩ : Imp)
   else if k = 1 then table.then fun t => P.ret ⟨x.mod, b, 1, 0, t, ⟨0, false⟩⟩
   else if k = 2 then lim.then fun t => P.ret ⟨x.mod, b, 2, 0, t, ⟨0, false⟩⟩
   else if k = 3 then glob.then fun t => P.ret ⟨x.mod, b, 3, 0, ⟨0, 0⟩, t⟩
   else P.fail 60) (fun r => dr x.name r h2 (by omega)) (fun r => ?_) r
 exact an.bind (f := fun k => if k = 0 then num.then fun t => P.ret (⟨x.mod, x.name, 0, t, ⟨0, 0⟩, ⟨0, false⟩⟩ : Imp)
   else if k = 1 then table.then fun t => P.ret ⟨x.mod, x.name, 1, 0, t, ⟨0, false⟩⟩
   else if k = 2 then lim.then fun t => P.ret ⟨x.mod, x.name, 2, 0, t, ⟨0, false⟩⟩
   else if k = 3 then glob.then fun t => P.ret ⟨x.mod, x.name, 3, 0, ⟨0, 0⟩, t⟩
   else P.fail 60) (cE x.kind) (fun r => more_there x.mod x.name x ⟨rfl, rfl⟩ h3 (by omega) r) r
def okGV (g : GV) : Prop := okGlob g.type ∧ okExpr g.init
def encGV (g : GV) : List UInt8 := encGlob g.type ++ exprEnc g.init
theorem gv_there : an gv okGV encGV := fun g r h hl => by
 obtain ⟨t, e⟩ := g
 unfold encGV at hl ⊢
 rw [List.length_append] at hl
 unfold gv
 exact an.bind (fun r => fB t r h.1 (by dsimp only at hl; omega)) (an.last (f := fun e => (⟨t, e⟩ : GV)) (fun r => cH e r h.2 (by dsimp only at hl; omega))) r
def okExp (x : Exp) : Prop := okName x.name ∧ x.kind.toNat ≤ 3 ∧ okNum x.index
def encExp (x : Exp) : List UInt8 := encName x.name ++ ([x.kind] ++ encU x.index)
theorem exp_there : an exp okExp encExp := fun x r h hl => by
 obtain ⟨a, c, n⟩ := x
 obtain ⟨h1, h2, h3⟩ := h
 unfold encExp at hl ⊢
 simp only [List.length_append] at hl
 unfold exp
 refine an.bind (fun r => dr a r h1 (by omega)) (fun r => ?_) r
 refine an.bind (cE c) (fun r => ?_) r
 rw [if_pos h2]
 exact an.last (f := fun i => (⟨a, c, i⟩ : Exp)) (fun r => aY n h3 r) r
def okEl (x : El) : Prop := okNum x.table ∧ okExpr x.off ∧ ∀ f ∈ x.funcs, okNum f
def encEl (x : El) : List UInt8 := encU x.table ++ (exprEnc x.off ++ encNums x.funcs)
theorem el_there : an el okEl encEl := fun x r h hl => by
 obtain ⟨t, e, f⟩ := x
 obtain ⟨h1, h2, h3⟩ := h
 unfold encEl at hl ⊢
 simp only [List.length_append] at hl
 unfold el
 refine an.bind (fun r => aY t h1 r) (fun r => ?_) r
 exact an.bind (fun r => cH e r h2 (by omega)) (an.last (f := fun f => (⟨t, e, f⟩ : El)) (fun r => nums_there f r h3 (by omega))) r
def okLc (x : Lc) : Prop := okNum x.n ∧ okT x.t
def encLc (x : Lc) : List UInt8 := encU x.n ++ [x.t]
theorem loc_there : an loc okLc encLc := fun x r h _ => by
 obtain ⟨n, t⟩ := x
 unfold encLc
 unfold loc
 exact an.bind (fun r => aY n h.1 r) (an.last (f := fun t => (⟨n, t⟩ : Lc)) (fun r => cQ t r h.2 (by simp))) r
def okCd (c : Cd) : Prop := (∀ x ∈ c.locals, okLc x) ∧ locSum c.locals < 4294967296 ∧ okExpr c.body
def cdB (c : Cd) : List UInt8 := encList encLc c.locals ++ exprEnc c.body
def encCd (c : Cd) : List UInt8 := encU (cdB c).length ++ cdB c
theorem encLc_pos (x : Lc) : 1 ≤ (encLc x).length := by simp [encLc]
theorem cdIn_there : an cdIn okCd cdB := fun c r h hl => by
 obtain ⟨ls, e⟩ := c
 obtain ⟨h1, h2, h3⟩ := h
 unfold cdB at hl ⊢
 simp only [List.length_append] at hl
 unfold cdIn
 refine an.bind (fun r => cF loc_there encLc_pos ls r h1 (by omega)) (fun r => ?_) r
 rw [if_pos h2]
 exact an.last (f := fun e => (⟨ls, e⟩ : Cd)) (fun r => cH e r h3 (by omega)) r
theorem de {α : Type} {p : P α} {ok : α → Prop} {e : α → List UInt8} (hp : an p ok e) (x : α) (h : ok x) (hl : (e x).length < 4294967296) : whole p (e x) = .ok x := by
 have := hp x [] h hl
 rw [List.append_nil] at this
 unfold whole
 rw [this]
 dsimp only
 rw [if_pos rfl]
theorem fy (b r : List UInt8) (h : b.length < 4294967296) : part (encU b.length ++ b ++ r) = .ok (b, (encU b.length ++ b).length) := by
 unfold part
 refine an.bind (fun r => aY _ h r) (fun r => ?_) r
 rw [if_pos (by simp)]
 simp
theorem cd_there : an cd okCd encCd := fun c r h hl => by
 unfold encCd at hl ⊢
 rw [List.length_append] at hl
 unfold cd P.then
 rw [fy (cdB c) r (by omega)]
 dsimp only
 rw [de cdIn_there c h (by omega)]
 simp [P.ret]
def okDa (x : Da) : Prop := okNum x.mem ∧ okExpr x.off
def encDa (x : Da) : List UInt8 := encU x.mem ++ (exprEnc x.off ++ (encU x.b.length ++ x.b))
theorem da_there : an da okDa encDa := fun x r h hl => by
 obtain ⟨m, e, b⟩ := x
 obtain ⟨h1, h2⟩ := h
 unfold encDa at hl ⊢
 simp only [List.length_append] at hl
 unfold da
 refine an.bind (fun r => aY m h1 r) (fun r => ?_) r
 exact an.bind (fun r => cH e r h2 (by omega)) (an.last (f := fun b => (⟨m, e, b⟩ : Da)) (fun r => fy b r (by omega))) r
structure okF (m : M) : Prop where
 types : ∀ x ∈ m.types, okFT x
 imports : ∀ x ∈ m.imports, okImp x
 funcs : ∀ x ∈ m.funcs, okNum x
 tables : ∀ x ∈ m.tables, okLim x
 mems : ∀ x ∈ m.mems, okLim x
 globals : ∀ x ∈ m.globals, okGV x
 exports : ∀ x ∈ m.exports, okExp x
 start : okNum m.start ∧ (m.hasStart = false → m.start = 0)
 elems : ∀ x ∈ m.elems, okEl x
 codes : ∀ x ∈ m.codes, okCd x
 datas : ∀ x ∈ m.datas, okDa x
structure okM (m : M) : Prop extends okF m where
 many : m.codes.length = m.funcs.length
def encTable (x : Lim) : List UInt8 := [112] ++ encLim x
def body (m : M) (id : Nat) : List UInt8 :=
 if id = 1 then encList encFT m.types else if id = 2 then encList encImp m.imports else if id = 3 then encList encU m.funcs else if id = 4 then encList encTable m.tables
 else if id = 5 then encList encLim m.mems else if id = 6 then encList encGV m.globals else if id = 7 then encList encExp m.exports else if id = 8 then encU m.start
 else if id = 9 then encList encEl m.elems else if id = 10 then encList encCd m.codes else encList encDa m.datas
def cnt (m : M) (id : Nat) : Nat :=
 if id = 1 then m.types.length else if id = 2 then m.imports.length else if id = 3 then m.funcs.length else if id = 4 then m.tables.length
 else if id = 5 then m.mems.length else if id = 6 then m.globals.length else if id = 7 then m.exports.length else if id = 8 then (if m.hasStart = true then 1 else 0)
 else if id = 9 then m.elems.length else if id = 10 then m.codes.length else m.datas.length
def ids : List Nat := [1, 2, 3, 4, 5, 6, 7, 8, 9, 10, 11]
def own (m : M) : List Nat := ids.filter fun i => decide (0 < cnt m i)
def secsOf (m : M) : List S := (own m).map fun i => ⟨i, body m i⟩
def encM (m : M) : List UInt8 := join (secsOf m)
def one (m : M) (id : Nat) : M :=
 if id = 1 then ⟨m.types, [], [], [], [], [], [], false, 0, [], [], []⟩ else if id = 2 then ⟨[], m.imports, [], [], [], [], [], false, 0, [], [], []⟩
 else if id = 3 then ⟨[], [], m.funcs, [], [], [], [], false, 0, [], [], []⟩ else if id = 4 then ⟨[], [], [], m.tables, [], [], [], false, 0, [], [], []⟩
 else if id = 5 then ⟨[], [], [], [], m.mems, [], [], false, 0, [], [], []⟩ else if id = 6 then ⟨[], [], [], [], [], m.globals, [], false, 0, [], [], []⟩
 else if id = 7 then ⟨[], [], [], [], [], [], m.exports, false, 0, [], [], []⟩ else if id = 8 then ⟨[], [], [], [], [], [], [], true, m.start, [], [], []⟩
 else if id = 9 then ⟨[], [], [], [], [], [], [], false, 0, m.elems, [], []⟩ else if id = 10 then ⟨[], [], [], [], [], [], [], false, 0, [], m.codes, []⟩
 else ⟨[], [], [], [], [], [], [], false, 0, [], [], m.datas⟩
theorem encFT_pos (x : FT) : 1 ≤ (encFT x).length := by simp [encFT]
theorem encImp_pos (x : Imp) : 1 ≤ (encImp x).length := by simp [encImp]; omega
theorem gO (x : Lim) : 1 ≤ (encTable x).length := by simp [encTable]
theorem encLim_pos (x : Lim) : 1 ≤ (encLim x).length := by unfold encLim; split <;> simp
theorem encGV_pos (x : GV) : 1 ≤ (encGV x).length := by simp [encGV, encGlob]
theorem encExp_pos (x : Exp) : 1 ≤ (encExp x).length := by simp [encExp]; omega
theorem encEl_pos (x : El) : 1 ≤ (encEl x).length := by have := encU_pos x.table; simp [encEl]; omega
theorem encCd_pos (x : Cd) : 1 ≤ (encCd x).length := by have := encU_pos (cdB x).length; simp [encCd]; omega
theorem encDa_pos (x : Da) : 1 ≤ (encDa x).length := by have := encU_pos x.mem; simp [encDa]; omega
theorem dO {i : Nat} (h : i ∈ ids) : i = 1 ∨ i = 2 ∨ i = 3 ∨ i = 4 ∨ i = 5 ∨ i = 6 ∨ i = 7 ∨ i = 8 ∨ i = 9 ∨ i = 10 ∨ i = 11 := by simpa [ids] using h
theorem aU {α : Type} {p : P α} {ok : α → Prop} {e : α → List UInt8} (hp : an p ok e) (h1 : ∀ x, 1 ≤ (e x).length) {xs : List α} (h : ∀ x ∈ xs, ok x) (hl : (encList e xs).length < 4294967296) : whole (list p) (encList e xs) = .ok xs :=
 de (cF hp h1) xs h hl
theorem sec_body {m : M} (h : okM m) {i : Nat} (hi : i ∈ ids) (hl : (body m i).length < 4294967296) : sec i (body m i) = .ok (one m i) := by
 rcases dO hi with rfl | rfl | rfl | rfl | rfl | rfl | rfl | rfl | rfl | rfl | rfl
 ·show (whole (list ft) (encList encFT m.types)).map _ = _
  rw [aU ft_there encFT_pos h.types hl]; rfl
 ·show (whole (list imp) (encList encImp m.imports)).map _ = _
  rw [aU imp_there encImp_pos h.imports hl]; rfl
 ·show (whole (list num) (encList encU m.funcs)).map _ = _
  rw [aU cO encU_pos h.funcs hl]; rfl
 ·show (whole (list table) (encList encTable m.tables)).map _ = _
  rw [aU (e := encTable) eo gO h.tables hl]; rfl
 ·show (whole (list lim) (encList encLim m.mems)).map _ = _
  rw [aU ee encLim_pos h.mems hl]; rfl
 ·show (whole (list gv) (encList encGV m.globals)).map _ = _
  rw [aU gv_there encGV_pos h.globals hl]; rfl
 ·show (whole (list exp) (encList encExp m.exports)).map _ = _
  rw [aU exp_there encExp_pos h.exports hl]; rfl
 ·show (whole num (encU m.start)).map _ = _
  rw [de cO m.start h.start.1 hl]; rfl
 ·show (whole (list el) (encList encEl m.elems)).map _ = _
  rw [aU el_there encEl_pos h.elems hl]; rfl
 ·show (whole (list cd) (encList encCd m.codes)).map _ = _
  rw [aU cd_there encCd_pos h.codes hl]; rfl
 ·show (whole (list da) (encList encDa m.datas)).map _ = _
  rw [aU da_there encDa_pos h.datas hl]; rfl
theorem rises_of (b : Nat → List UInt8) : ∀ (l : List Nat) (k : Nat), l.Pairwise (· < ·) → (∀ i ∈ l, k < i ∧ i ≤ 11) → rises k (l.map fun i => (⟨i, b i⟩ : S)) = true
 | [], _, _, _ => rfl
 | i :: l, k, hp, h => by
  obtain ⟨h1, h2⟩ := List.pairwise_cons.1 hp
  have h3 := h i (by simp)
  simp only [List.map_cons, rises, Bool.and_eq_true, decide_eq_true_eq]
  exact ⟨⟨h3.1, h3.2⟩, rises_of b l i h2 (fun j hj => ⟨h1 j hj, (h j (by simp [hj])).2⟩)⟩
theorem eK (m : M) : ∀ i ∈ own m, i ∈ ids ∧ 0 < cnt m i := fun i hi => by
 unfold own at hi
 rw [List.mem_filter] at hi
 exact ⟨hi.1, by simpa using hi.2⟩
theorem fm (m : M) : (own m).Pairwise (· < ·) := List.Pairwise.filter _ (by decide)
theorem ids_range {i : Nat} (h : i ∈ ids) : 0 < i ∧ i ≤ 11 := by
 rcases dO h with rfl | rfl | rfl | rfl | rfl | rfl | rfl | rfl | rfl | rfl | rfl <;> omega
theorem fT (m : M) : rises 0 (secsOf m) = true := rises_of _ _ 0 (fm m) (fun i hi => ids_range (eK m i hi).1)
theorem body_le {m : M} {i : Nat} (hi : i ∈ own m) : (body m i).length ≤ (encM m).length := by
 have h1 : (⟨i, body m i⟩ : S) ∈ secsOf m := List.mem_map.2 ⟨i, hi, rfl⟩
 have h2 := gf (e := Sec.enc) h1
 have h3 : (body m i).length ≤ (Sec.enc ⟨i, body m i⟩).length := by simp [Sec.enc]; omega
 simp only [encM, join, Sec.encAll, List.length_append]
 omega
theorem secs_map (m : M) (b : Nat → List UInt8) : ∀ (l : List Nat) (g : Nat → M), l.Pairwise (· < ·) → (∀ i ∈ l, sec i (b i) = .ok (one m i)) → ∃ f, secs g (l.map fun i => (⟨i, b i⟩ : S)) = .ok f ∧ (∀ i ∈ l, f i = one m i) ∧ ∀ i, i ∉ l → f i = g i
 | [], g, _, _ => ⟨g, rfl, by simp, fun _ _ => rfl⟩
 | i :: l, g, hp, h => by
  obtain ⟨h1, h2⟩ := List.pairwise_cons.1 hp
  obtain ⟨f, e1, e2, e3⟩ := secs_map m b l (upd g i (one m i)) h2 (fun j hj => h j (by simp [hj]))
  refine ⟨f, ?_, fun j hj => ?_, fun j hj => ?_⟩
  ·simp only [List.map_cons, secs]
   rw [h i (by simp)]
   exact e1
  ·rcases List.mem_cons.1 hj with rfl | hj
   ·rw [e3 j (fun hm => by have := h1 j hm; omega)]
    simp [upd]
   ·exact e2 j hj
  ·simp only [List.mem_cons, not_or] at hj
   rw [e3 j hj.2]
   simp [upd, hj.1]
theorem cq {α : Type} {l : List α} (h : ¬ 0 < l.length) : l = [] := List.eq_nil_of_length_eq_zero (by omega)
theorem of_own {m : M} (hs : m.hasStart = false → m.start = 0) {f : Nat → M} (h1 : ∀ i ∈ own m, f i = one m i) (h2 : ∀ i, i ∉ own m → f i = M.zero) : M.of f = m := by
 have key : ∀ i ∈ ids, f i = if 0 < cnt m i then one m i else M.zero := fun i hi => by
  by_cases hc : 0 < cnt m i
  ·rw [if_pos hc]
   exact h1 i (List.mem_filter.2 ⟨hi, by simpa using hc⟩)
  ·rw [if_neg hc]
   exact h2 i (fun hm => hc (eK m i hm).2)
 have k1 := key 1 (by decide)
 have k2 := key 2 (by decide)
 have k3 := key 3 (by decide)
 have k4 := key 4 (by decide)
 have k5 := key 5 (by decide)
 have k6 := key 6 (by decide)
 have k7 := key 7 (by decide)
 have k8 := key 8 (by decide)
 have k9 := key 9 (by decide)
 have k10 := key 10 (by decide)
 have k11 := key 11 (by decide)
 clear key h1 h2
 obtain ⟨a1, a2, a3, a4, a5, a6, a7, a8, b8, a9, a10, a11⟩ := m
 unfold M.of
 congr 1
 ·rw [k1]
  split
  ·rfl
  ·next h => rw [cq (l := a1) h]; rfl
 ·rw [k2]
  split
  ·rfl
  ·next h => rw [cq (l := a2) h]; rfl
 ·rw [k3]
  split
  ·rfl
  ·next h => rw [cq (l := a3) h]; rfl
 ·rw [k4]
  split
  ·rfl
  ·next h => rw [cq (l := a4) h]; rfl
 ·rw [k5]
  split
  ·rfl
  ·next h => rw [cq (l := a5) h]; rfl
 ·rw [k6]
  split
  ·rfl
  ·next h => rw [cq (l := a6) h]; rfl
 ·rw [k7]
  split
  ·rfl
  ·next h => rw [cq (l := a7) h]; rfl
 ·rw [k8]; cases a8 <;> rfl
 ·rw [k8]; cases a8
  ·exact (hs rfl).symm
  ·rfl
 ·rw [k9]
  split
  ·rfl
  ·next h => rw [cq (l := a9) h]; rfl
 ·rw [k10]
  split
  ·rfl
  ·next h => rw [cq (l := a10) h]; rfl
 ·rw [k11]
  split
  ·rfl
  ·next h => rw [cq (l := a11) h]; rfl
theorem eW {m : M} (hl : (encM m).length < 4294967296) : split (encM m) = some (secsOf m) := by
 refine split_join _ (fT m) (fun s hs => ?_)
 obtain ⟨i, hi, rfl⟩ := List.mem_map.1 hs
 have := body_le hi
 dsimp only
 omega
theorem dec_encM {m : M} (h : okM m) (hl : (encM m).length ≤ 65536) : dec (encM m) = .ok m := by
 obtain ⟨f, e1, e2, e3⟩ := secs_map m (body m) (own m) (fun _ => M.zero) (fm m) (fun i hi => sec_body h (eK m i hi).1 (by have := body_le hi; omega))
 have hf := of_own h.start.2 e2 e3
 have hc : (f 10).codes.length = (f 3).funcs.length := by
  have h1 : (M.of f).codes = m.codes := by rw [hf]
  have h2 : (M.of f).funcs = m.funcs := by rw [hf]
  have h3 : (f 10).codes = m.codes := h1
  have h4 : (f 3).funcs = m.funcs := h2
  rw [h3, h4]
  exact h.many
 rw [dec_of hl (eW (by omega)) e1 hc, hf]
theorem zero_okF : okF M.zero := ⟨nofun, nofun, nofun, nofun, nofun, nofun, nofun, ⟨by show (0 : Nat) < 4294967296; omega, fun _ => rfl⟩, nofun, nofun, nofun⟩
theorem encU_first {n : Nat} (h : 0 < n) : ∃ x r, encU n = x :: r ∧ x ≠ 0 := by
 by_cases hn : n < 128
 ·refine ⟨_, _, encU_small hn, fun e => ?_⟩
  have := bE n (by omega)
  rw [e] at this
  simp at this
  omega
 ·refine ⟨_, _, encU_big (by omega), fun e => ?_⟩
  have := bE (n % 128 + 128) (by omega)
  rw [e] at this
  simp at this
theorem own_first {m : M} {i : Nat} (hi : i ∈ own m) : ∃ x r, body m i = x :: r ∧ (i = 8 ∨ x ≠ 0) := by
 obtain ⟨h1, h2⟩ := eK m i hi
 have hl : ∀ {α : Type} (e : α → List UInt8) (xs : List α), 0 < xs.length → ∃ x r, encList e xs = x :: r ∧ x ≠ 0 := fun e xs h => by
  obtain ⟨x, r, h3, h4⟩ := encU_first h
  exact ⟨x, r ++ xs.flatMap e, by unfold encList; rw [h3]; rfl, h4⟩
 rcases dO h1 with rfl | rfl | rfl | rfl | rfl | rfl | rfl | rfl | rfl | rfl | rfl
 case inr.inr.inr.inr.inr.inr.inr.inl =>
  have := encU_pos m.start
  cases h : encU m.start with
  | nil => rw [h] at this; simp at this
  | cons x r => exact ⟨x, r, h, .inl rfl⟩
 ·obtain ⟨x, r, h3, h4⟩ := hl encFT m.types h2
  exact ⟨x, r, h3, .inr h4⟩
 ·obtain ⟨x, r, h3, h4⟩ := hl encImp m.imports h2
  exact ⟨x, r, h3, .inr h4⟩
 ·obtain ⟨x, r, h3, h4⟩ := hl encU m.funcs h2
  exact ⟨x, r, h3, .inr h4⟩
 ·obtain ⟨x, r, h3, h4⟩ := hl encTable m.tables h2
  exact ⟨x, r, h3, .inr h4⟩
 ·obtain ⟨x, r, h3, h4⟩ := hl encLim m.mems h2
  exact ⟨x, r, h3, .inr h4⟩
 ·obtain ⟨x, r, h3, h4⟩ := hl encGV m.globals h2
  exact ⟨x, r, h3, .inr h4⟩
 ·obtain ⟨x, r, h3, h4⟩ := hl encExp m.exports h2
  exact ⟨x, r, h3, .inr h4⟩
 ·obtain ⟨x, r, h3, h4⟩ := hl encEl m.elems h2
  exact ⟨x, r, h3, .inr h4⟩
 ·obtain ⟨x, r, h3, h4⟩ := hl encCd m.codes h2
  exact ⟨x, r, h3, .inr h4⟩
 ·obtain ⟨x, r, h3, h4⟩ := hl encDa m.datas h2
  exact ⟨x, r, h3, .inr h4⟩
open Classical in
noncomputable def encode (m : M) : Except Nat (List UInt8) := if okM m then (if 65536 < (encM m).length then .error 3 else .ok (encM m)) else .error 2
theorem dj {m : M} {b : List UInt8} (h : encode m = .ok b) : okM m ∧ (encM m).length ≤ 65536 ∧ b = encM m := by
 unfold encode at h
 split at h
 ·next h1 =>
  split at h
  ·cases h
  ·next h2 => injection h with h; exact ⟨h1, by omega, h.symm⟩
 ·cases h
theorem encode_dec {m : M} {b : List UInt8} (h : encode m = .ok b) : dec b = .ok m := by
 obtain ⟨h1, h2, rfl⟩ := dj h
 exact dec_encM h1 h2
theorem eh {m : M} (h1 : okM m) (h2 : (encM m).length ≤ 65536) : encode m = .ok (encM m) := by
 unfold encode
 rw [if_pos h1, if_neg (by omega)]
theorem gJ {m : M} {b : List UInt8} (h : encode m = .ok b) : split b = some (secsOf m) ∧ ∀ s ∈ secsOf m, ∃ x r, s.b = x :: r ∧ (s.id = 8 ∨ x ≠ 0) := by
 obtain ⟨h1, h2, rfl⟩ := dj h
 refine ⟨eW (by omega), fun s hs => ?_⟩
 obtain ⟨i, hi, rfl⟩ := List.mem_map.1 hs
 exact own_first hi
theorem encode_err {m : M} {k : Nat} (h : encode m = .error k) : k = 2 ∨ k = 3 := by
 unfold encode at h
 split at h
 ·split at h
  ·injection h with h; exact .inr h.symm
  ·cases h
 ·injection h with h; exact .inl h.symm
end Bin
