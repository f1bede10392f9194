/-
  Plain mathematics of a module's binary: what each section's bytes are read as, what is first wrong with them; a module's sections one by one.
-/
import Derived.Test.YthkglmkpnhhboaaSecMath
import Derived.Test.YthkglmkpnhhboaaInsM
namespace Bin
open Leb Ins Sec
structure FT where
  params : List UInt8
  results : List UInt8
deriving DecidableEq
structure Lim where
  min : Nat
  max : Int
deriving DecidableEq
structure Glob where
  t : UInt8
  mu : Bool
deriving DecidableEq
structure Imp where
  mod : List UInt8
  name : List UInt8
  kind : UInt8
  type : Nat
  lim : Lim
  glob : Glob
deriving DecidableEq
structure GV where
  type : Glob
  init : List I
deriving DecidableEq
structure Exp where
  name : List UInt8
  kind : UInt8
  index : Nat
deriving DecidableEq
structure El where
  table : Nat
  off : List I
  funcs : List Nat
deriving DecidableEq
structure Lc where
  n : Nat
  t : UInt8
deriving DecidableEq
structure Cd where
  locals : List Lc
  body : List I
deriving DecidableEq
structure Da where
  mem : Nat
  off : List I
  b : List UInt8
deriving DecidableEq
structure M where
  types : List FT
  imports : List Imp
  funcs : List Nat
  tables : List Lim
  mems : List Lim
  globals : List GV
  exports : List Exp
  hasStart : Bool
  start : Nat
  elems : List El
  codes : List Cd
  datas : List Da
deriving DecidableEq
def M.zero : M := ⟨[], [], [], [], [], [], [], false, 0, [], [], []⟩
/-- A reader: what bytes begin with, and how many these are; or an error. -/
abbrev P (α : Type) := List UInt8 → Except Nat (α × Nat)
def P.ret {α : Type} (a : α) : P α := fun _ => .ok (a, 0)
def P.fail {α : Type} (e : Nat) : P α := fun _ => .error e
def P.then {α β : Type} (p : P α) (f : α → P β) : P β := fun l => match p l with
  | .error e => .error e
  | .ok (a, k) => match f a (l.drop k) with
    | .error e => .error e
    | .ok (b, j) => .ok (b, k + j)
def many {α : Type} (p : P α) : Nat → P (List α)
  | 0 => P.ret []
  | n + 1 => p.then fun x => (many p n).then fun xs => P.ret (x :: xs)
def byte : P UInt8 := fun l => match l with
  | [] => .error 60
  | x :: _ => .ok (x, 1)
def num : P Nat := rdNum
def list {α : Type} (p : P α) : P (List α) := num.then fun n => many p n
def name : P (List UInt8) := fun l => if named l = true then .ok ((l.drop (run l)).take (used l), run l + used l) else .error 60
def value : P UInt8 := byte.then fun t => if t = 125 ∨ t = 124 then P.fail 61 else if t = 127 ∨ t = 126 then P.ret t else P.fail 60
def flag : P Bool := byte.then fun t => if t = 0 then P.ret false else if t = 1 then P.ret true else P.fail 60
def lim : P Lim := flag.then fun f => num.then fun a => if f = true then num.then fun b => P.ret ⟨a, b⟩ else P.ret ⟨a, -1⟩
def table : P Lim := byte.then fun t => if t = 112 then lim else P.fail 60
def glob : P Glob := value.then fun t => flag.then fun m => P.ret ⟨t, m⟩
def expr : P (List I) := fun l => rdExpr (l.length + 1) [] l
def ft : P FT := byte.then fun t => if t = 96 then (list value).then fun p => (list value).then fun r => P.ret ⟨p, r⟩ else P.fail 60
def imp : P Imp := name.then fun a => name.then fun b => byte.then fun k =>
  if k = 0 then num.then fun t => P.ret ⟨a, b, 0, t, ⟨0, 0⟩, ⟨0, false⟩⟩
  else if k = 1 then table.then fun t => P.ret ⟨a, b, 1, 0, t, ⟨0, false⟩⟩
  else if k = 2 then lim.then fun t => P.ret ⟨a, b, 2, 0, t, ⟨0, false⟩⟩
  else if k = 3 then glob.then fun t => P.ret ⟨a, b, 3, 0, ⟨0, 0⟩, t⟩
  else P.fail 60
def gv : P GV := glob.then fun g => expr.then fun e => P.ret ⟨g, e⟩
def exp : P Exp := name.then fun a => byte.then fun k => if k.toNat ≤ 3 then num.then fun i => P.ret ⟨a, k, i⟩ else P.fail 60
def el : P El := num.then fun t => expr.then fun e => (list num).then fun f => P.ret ⟨t, e, f⟩
def loc : P Lc := num.then fun n => value.then fun t => P.ret ⟨n, t⟩
/-- So many bytes as are told ahead of them. -/
def part : P (List UInt8) := num.then fun n => fun l => if n ≤ l.length then .ok (l.take n, n) else .error 60
def locSum (l : List Lc) : Nat := (l.map (·.n)).sum
/-- What reads all of the bytes. -/
def whole {α : Type} (p : P α) (l : List UInt8) : Except Nat α := match p l with
  | .error e => .error e
  | .ok (a, k) => if k = l.length then .ok a else .error 60
def cdIn : P Cd := (list loc).then fun ls => if locSum ls < 4294967296 then expr.then fun e => P.ret ⟨ls, e⟩ else P.fail 60
def cd : P Cd := part.then fun b => match whole cdIn b with
  | .error e => P.fail e
  | .ok c => P.ret c
def da : P Da := num.then fun m => expr.then fun e => part.then fun b => P.ret ⟨m, e, b⟩
/-- What a section's bytes are, as a module of that section alone. -/
def sec (id : Nat) (b : List UInt8) : Except Nat M :=
  if id = 1 then (whole (list ft) b).map fun x => ⟨x, [], [], [], [], [], [], false, 0, [], [], []⟩
  else if id = 2 then (whole (list imp) b).map fun x => ⟨[], x, [], [], [], [], [], false, 0, [], [], []⟩
  else if id = 3 then (whole (list num) b).map fun x => ⟨[], [], x, [], [], [], [], false, 0, [], [], []⟩
  else if id = 4 then (whole (list table) b).map fun x => ⟨[], [], [], x, [], [], [], false, 0, [], [], []⟩
  else if id = 5 then (whole (list lim) b).map fun x => ⟨[], [], [], [], x, [], [], false, 0, [], [], []⟩
  else if id = 6 then (whole (list gv) b).map fun x => ⟨[], [], [], [], [], x, [], false, 0, [], [], []⟩
  else if id = 7 then (whole (list exp) b).map fun x => ⟨[], [], [], [], [], [], x, false, 0, [], [], []⟩
  else if id = 8 then (whole num b).map fun x => ⟨[], [], [], [], [], [], [], true, x, [], [], []⟩
  else if id = 9 then (whole (list el) b).map fun x => ⟨[], [], [], [], [], [], [], false, 0, x, [], []⟩
  else if id = 10 then (whole (list cd) b).map fun x => ⟨[], [], [], [], [], [], [], false, 0, [], x, []⟩
  else (whole (list da) b).map fun x => ⟨[], [], [], [], [], [], [], false, 0, [], [], x⟩
/-- The module of what each section is. -/
def M.of (f : Nat → M) : M := ⟨(f 1).types, (f 2).imports, (f 3).funcs, (f 4).tables, (f 5).mems, (f 6).globals, (f 7).exports, (f 8).hasStart, (f 8).start, (f 9).elems, (f 10).codes, (f 11).datas⟩
def upd (f : Nat → M) (i : Nat) (m : M) : Nat → M := fun j => if j = i then m else f j
def secs : (Nat → M) → List S → Except Nat (Nat → M)
  | f, [] => .ok f
  | f, s :: xs => match sec s.id s.b with
    | .error e => .error e
    | .ok m => secs (upd f s.id m) xs
def dec (l : List UInt8) : Except Nat M :=
  if 65536 < l.length then .error 3 else match split l with
    | none => .error 60
    | some xs => match secs (fun _ => M.zero) xs with
      | .error e => .error e
      | .ok f => if (f 10).codes.length = (f 3).funcs.length then .ok (M.of f) else .error 60

/- What is read is whole. -/
def whole1 (t : UInt8) : Bool := t == 127 || t == 126
def plain (l : List I) : Bool := l.all fun x => Opc.known x.op && !Opc.float x.op
def M.good (m : M) : Bool := m.types.all (fun t => t.params.all whole1 && t.results.all whole1) && m.imports.all (fun x => decide (x.kind.toNat ≤ 3) && (!(x.kind == 3) || whole1 x.glob.t)) &&
  m.globals.all (fun g => whole1 g.type.t && plain g.init) && m.codes.all (fun c => c.locals.all (fun l => whole1 l.t) && plain c.body) && m.elems.all (fun x => plain x.off) && m.datas.all (fun x => plain x.off)
theorem P.then_ok {α β : Type} {p : P α} {f : α → P β} {l : List UInt8} {b : β} {k : Nat} (h : p.then f l = .ok (b, k)) : ∃ a i j, p l = .ok (a, i) ∧ f a (l.drop i) = .ok (b, j) ∧ k = i + j := by
  unfold P.then at h
  split at h
  · cases h
  · next a i e1 =>
    split at h
    · cases h
    · next b' j e2 =>
      injection h with h
      injection h with h1 h2
      subst h1
      exact ⟨a, i, j, e1, e2, h2.symm⟩
theorem ret_ok {α : Type} {a b : α} {l : List UInt8} {k : Nat} (h : P.ret a l = .ok (b, k)) : a = b ∧ k = 0 := by
  injection h with h
  injection h with h1 h2
  exact ⟨h1, h2.symm⟩
theorem many_all {α : Type} {p : P α} {Q : α → Bool} (hp : ∀ l x k, p l = .ok (x, k) → Q x = true) : ∀ (n : Nat) (l : List UInt8) (xs : List α) (k : Nat), many p n l = .ok (xs, k) → xs.all Q = true
  | 0, l, xs, k, h => by
    obtain ⟨rfl, _⟩ := ret_ok h
    rfl
  | n + 1, l, xs, k, h => by
    obtain ⟨x, i, j, h1, h2, _⟩ := P.then_ok h
    obtain ⟨ys, i2, j2, h3, h4, _⟩ := P.then_ok h2
    obtain ⟨rfl, _⟩ := ret_ok h4
    simp only [List.all_cons, Bool.and_eq_true]
    exact ⟨hp _ _ _ h1, many_all hp n _ _ _ h3⟩
theorem list_all {α : Type} {p : P α} {Q : α → Bool} (hp : ∀ l x k, p l = .ok (x, k) → Q x = true) {l : List UInt8} {xs : List α} {k : Nat} (h : list p l = .ok (xs, k)) : xs.all Q = true := by
  obtain ⟨n, i, j, _, h2, _⟩ := P.then_ok h
  exact many_all hp _ _ _ _ h2
theorem whole_ok {α : Type} {p : P α} {l : List UInt8} {a : α} (h : whole p l = .ok a) : p l = .ok (a, l.length) := by
  unfold whole at h
  split at h
  · cases h
  · next a' k e =>
    split at h
    · next hk => injection h with h; subst h; rw [e, hk]
    · cases h
theorem value_whole {l : List UInt8} {t : UInt8} {k : Nat} (h : value l = .ok (t, k)) : whole1 t = true := by
  obtain ⟨t', i, j, h1, h2, _⟩ := P.then_ok h
  split at h2
  · cases h2
  · split at h2
    · next ht =>
      obtain ⟨rfl, _⟩ := ret_ok h2
      unfold whole1
      rcases ht with rfl | rfl <;> rfl
    · cases h2
theorem expr_plain {l : List UInt8} {xs : List I} {k : Nat} (h : expr l = .ok (xs, k)) : plain xs = true := by
  obtain ⟨h1, h2, _⟩ := rdExpr_ok _ _ _ _ _ h
  unfold plain
  rw [List.all_eq_true] at h1 ⊢
  intro x hx
  have h3 := h1 x hx
  unfold may at h3
  rw [Bool.and_eq_true] at h3
  rw [h3.1, known_float x.op (h2 x hx).1.1 h3.1]
  rfl
theorem glob_whole {l : List UInt8} {g : Glob} {k : Nat} (h : glob l = .ok (g, k)) : whole1 g.t = true := by
  obtain ⟨t, i, j, h1, h2, _⟩ := P.then_ok h
  obtain ⟨m, i2, j2, _, h4, _⟩ := P.then_ok h2
  obtain ⟨rfl, _⟩ := ret_ok h4
  exact value_whole h1
theorem ft_good {l : List UInt8} {t : FT} {k : Nat} (h : ft l = .ok (t, k)) : (t.params.all whole1 && t.results.all whole1) = true := by
  obtain ⟨x, i, j, _, h2, _⟩ := P.then_ok h
  split at h2
  · obtain ⟨p, i2, j2, h3, h4, _⟩ := P.then_ok h2
    obtain ⟨r, i3, j3, h5, h6, _⟩ := P.then_ok h4
    obtain ⟨rfl, _⟩ := ret_ok h6
    rw [list_all (fun _ _ _ => value_whole) h3, list_all (fun _ _ _ => value_whole) h5]; rfl
  · cases h2
theorem imp_good {l : List UInt8} {x : Imp} {k : Nat} (h : imp l = .ok (x, k)) : (decide (x.kind.toNat ≤ 3) && (!(x.kind == 3) || whole1 x.glob.t)) = true := by
  obtain ⟨a, i, j, _, h2, _⟩ := P.then_ok h
  obtain ⟨b, i2, j2, _, h4, _⟩ := P.then_ok h2
  obtain ⟨c, i3, j3, _, h6, _⟩ := P.then_ok h4
  split at h6
  · obtain ⟨t, i4, j4, _, h7, _⟩ := P.then_ok h6
    obtain ⟨rfl, _⟩ := ret_ok h7
    rfl
  · split at h6
    · obtain ⟨t, i4, j4, _, h7, _⟩ := P.then_ok h6
      obtain ⟨rfl, _⟩ := ret_ok h7
      rfl
    · split at h6
      · obtain ⟨t, i4, j4, _, h7, _⟩ := P.then_ok h6
        obtain ⟨rfl, _⟩ := ret_ok h7
        rfl
      · split at h6
        · obtain ⟨t, i4, j4, h8, h7, _⟩ := P.then_ok h6
          obtain ⟨rfl, _⟩ := ret_ok h7
          simp [glob_whole h8]
        · cases h6
theorem gv_good {l : List UInt8} {x : GV} {k : Nat} (h : gv l = .ok (x, k)) : (whole1 x.type.t && plain x.init) = true := by
  obtain ⟨a, i, j, h1, h2, _⟩ := P.then_ok h
  obtain ⟨b, i2, j2, h3, h4, _⟩ := P.then_ok h2
  obtain ⟨rfl, _⟩ := ret_ok h4
  rw [glob_whole h1, expr_plain h3]; rfl
theorem el_good {l : List UInt8} {x : El} {k : Nat} (h : el l = .ok (x, k)) : plain x.off = true := by
  obtain ⟨a, i, j, h1, h2, _⟩ := P.then_ok h
  obtain ⟨b, i2, j2, h3, h4, _⟩ := P.then_ok h2
  obtain ⟨c, i3, j3, _, h6, _⟩ := P.then_ok h4
  obtain ⟨rfl, _⟩ := ret_ok h6
  exact expr_plain h3
theorem da_good {l : List UInt8} {x : Da} {k : Nat} (h : da l = .ok (x, k)) : plain x.off = true := by
  obtain ⟨a, i, j, h1, h2, _⟩ := P.then_ok h
  obtain ⟨b, i2, j2, h3, h4, _⟩ := P.then_ok h2
  obtain ⟨c, i3, j3, _, h6, _⟩ := P.then_ok h4
  obtain ⟨rfl, _⟩ := ret_ok h6
  exact expr_plain h3
theorem loc_good {l : List UInt8} {x : Lc} {k : Nat} (h : loc l = .ok (x, k)) : whole1 x.t = true := by
  obtain ⟨a, i, j, h1, h2, _⟩ := P.then_ok h
  obtain ⟨b, i2, j2, h3, h4, _⟩ := P.then_ok h2
  obtain ⟨rfl, _⟩ := ret_ok h4
  exact value_whole h3
theorem cdIn_good {l : List UInt8} {x : Cd} {k : Nat} (h : cdIn l = .ok (x, k)) : (x.locals.all (fun l => whole1 l.t) && plain x.body) = true := by
  obtain ⟨a, i, j, h1, h2, _⟩ := P.then_ok h
  split at h2
  · obtain ⟨b, i2, j2, h3, h4, _⟩ := P.then_ok h2
    obtain ⟨rfl, _⟩ := ret_ok h4
    rw [list_all (Q := fun l => whole1 l.t) (fun _ _ _ => loc_good) h1, expr_plain h3]; rfl
  · cases h2
theorem cd_good {l : List UInt8} {x : Cd} {k : Nat} (h : cd l = .ok (x, k)) : (x.locals.all (fun l => whole1 l.t) && plain x.body) = true := by
  obtain ⟨a, i, j, h1, h2, _⟩ := P.then_ok h
  cases e : whole cdIn a with
  | error z => rw [e] at h2; cases h2
  | ok c =>
    rw [e] at h2
    obtain ⟨rfl, _⟩ := ret_ok h2
    exact cdIn_good (whole_ok e)
theorem map_ok {α β : Type} {r : Except Nat α} {f : α → β} {b : β} (h : r.map f = .ok b) : ∃ a, r = .ok a ∧ b = f a := by
  cases r with
  | error e => cases h
  | ok a => injection h with h; exact ⟨a, rfl, h.symm⟩
theorem zero_good : M.zero.good = true := rfl
/-- A section read is a module that is good. -/
theorem sec_good {id : Nat} {b : List UInt8} {m : M} (h : sec id b = .ok m) : m.good = true := by
  unfold sec at h
  by_cases e1 : id = 1
  · rw [if_pos e1] at h
    obtain ⟨x, hx, rfl⟩ := map_ok h
    have hx := whole_ok hx
    have := list_all (fun _ _ _ => ft_good) hx
    simpa [M.good] using this
  rw [if_neg e1] at h
  by_cases e2 : id = 2
  · rw [if_pos e2] at h
    obtain ⟨x, hx, rfl⟩ := map_ok h
    have hx := whole_ok hx
    have := list_all (fun _ _ _ => imp_good) hx
    simpa [M.good] using this
  rw [if_neg e2] at h
  by_cases e3 : id = 3
  · rw [if_pos e3] at h
    obtain ⟨x, hx, rfl⟩ := map_ok h
    rfl
  rw [if_neg e3] at h
  by_cases e4 : id = 4
  · rw [if_pos e4] at h
    obtain ⟨x, hx, rfl⟩ := map_ok h
    rfl
  rw [if_neg e4] at h
  by_cases e5 : id = 5
  · rw [if_pos e5] at h
    obtain ⟨x, hx, rfl⟩ := map_ok h
    rfl
  rw [if_neg e5] at h
  by_cases e6 : id = 6
  · rw [if_pos e6] at h
    obtain ⟨x, hx, rfl⟩ := map_ok h
    have hx := whole_ok hx
    have := list_all (fun _ _ _ => gv_good) hx
    simpa [M.good] using this
  rw [if_neg e6] at h
  by_cases e7 : id = 7
  · rw [if_pos e7] at h
    obtain ⟨x, hx, rfl⟩ := map_ok h
    rfl
  rw [if_neg e7] at h
  by_cases e8 : id = 8
  · rw [if_pos e8] at h
    obtain ⟨x, hx, rfl⟩ := map_ok h
    rfl
  rw [if_neg e8] at h
  by_cases e9 : id = 9
  · rw [if_pos e9] at h
    obtain ⟨x, hx, rfl⟩ := map_ok h
    have hx := whole_ok hx
    have := list_all (Q := fun x => plain x.off) (fun _ _ _ => el_good) hx
    simpa [M.good] using this
  rw [if_neg e9] at h
  by_cases e10 : id = 10
  · rw [if_pos e10] at h
    obtain ⟨x, hx, rfl⟩ := map_ok h
    have hx := whole_ok hx
    have := list_all (fun _ _ _ => cd_good) hx
    simpa [M.good] using this
  rw [if_neg e10] at h
  obtain ⟨x, hx, rfl⟩ := map_ok h
  have hx := whole_ok hx
  have := list_all (Q := fun x => plain x.off) (fun _ _ _ => da_good) hx
  simpa [M.good] using this
theorem secs_good : ∀ (xs : List S) (f g : Nat → M), secs f xs = .ok g → (∀ i, (f i).good = true) → ∀ i, (g i).good = true
  | [], f, g, h, hf => by injection h with h; subst h; exact hf
  | s :: xs, f, g, h, hf => by
    simp only [secs] at h
    split at h
    · cases h
    · next m e =>
      refine secs_good xs _ g h (fun i => ?_)
      unfold upd
      split
      · exact sec_good e
      · exact hf i
theorem of_good {f : Nat → M} (h : ∀ i, (f i).good = true) : (M.of f).good = true := by
  have h1 := h 1; have h2 := h 2; have h6 := h 6; have h9 := h 9; have h10 := h 10; have h11 := h 11
  unfold M.good at *
  simp only [Bool.and_eq_true] at *
  exact ⟨⟨⟨⟨⟨h1.1.1.1.1.1, h2.1.1.1.1.2⟩, h6.1.1.1.2⟩, h10.1.1.2⟩, h9.1.2⟩, h11.2⟩
theorem dec_ok {l : List UInt8} {m : M} (h : dec l = .ok m) : l.length ≤ 65536 ∧ ∃ xs f, split l = some xs ∧ secs (fun _ => M.zero) xs = .ok f ∧ (f 10).codes.length = (f 3).funcs.length ∧ m = M.of f := by
  unfold dec at h
  split at h
  · cases h
  · next hl =>
    split at h
    · cases h
    · next xs e1 =>
      split at h
      · cases h
      · next f e2 =>
        split at h
        · next hc => injection h with h; exact ⟨by omega, xs, f, e1, e2, hc, h.symm⟩
        · cases h
theorem dec_good {l : List UInt8} {m : M} (h : dec l = .ok m) : m.good = true ∧ m.codes.length = m.funcs.length := by
  obtain ⟨_, xs, f, _, h2, h3, rfl⟩ := dec_ok h
  exact ⟨of_good (secs_good xs _ _ h2 (fun _ => zero_good)), h3⟩

/- Sections, one by one. -/
theorem secs_other : ∀ (xs : List S) (f g : Nat → M) (i : Nat), secs f xs = .ok g → (∀ s ∈ xs, s.id ≠ i) → g i = f i
  | [], f, g, i, h, _ => by injection h with h; subst h; rfl
  | s :: xs, f, g, i, h, hn => by
    simp only [secs] at h
    split at h
    · cases h
    · next m e =>
      rw [secs_other xs _ g i h (fun t ht => hn t (by simp [ht]))]
      unfold upd
      rw [if_neg (fun h => hn s (by simp) h.symm)]
def hasId (xs : List S) (i : Nat) : Bool := xs.any fun s => s.id == i
theorem hasId_no {xs : List S} {i : Nat} (h : hasId xs i = false) : ∀ s ∈ xs, s.id ≠ i := fun s hs e => by
  unfold hasId at h
  rw [List.any_eq_false] at h
  exact h s hs (by simpa using e)
theorem secs_from : ∀ (xs : List S) (f f' g : Nat → M), secs f xs = .ok g → secs f' xs = .ok (fun i => if hasId xs i = true then g i else f' i)
  | [], f, f', g, h => rfl
  | s :: xs, f, f', g, h => by
    simp only [secs] at h ⊢
    cases e : sec s.id s.b with
    | error x => rw [e] at h; cases h
    | ok m =>
      rw [e] at h
      simp only at h ⊢
      rw [secs_from xs (upd f s.id m) (upd f' s.id m) g h]
      congr 1
      funext i
      by_cases h1 : hasId xs i = true
      · rw [if_pos h1, if_pos (by unfold hasId at h1 ⊢; rw [List.any_cons, h1, Bool.or_true])]
      · have h1' : hasId xs i = false := by simpa using h1
        rw [if_neg h1]
        by_cases h2 : s.id = i
        · subst h2
          rw [if_pos (by unfold hasId; simp), secs_other xs _ g _ h (hasId_no h1')]
          simp [upd]
        · rw [if_neg (by unfold hasId at h1' ⊢; rw [List.any_cons, h1']; simpa using h2)]
          simp [upd, Ne.symm h2]
theorem secs_append : ∀ (a b : List S) (f g : Nat → M), secs f (a ++ b) = .ok g → ∃ h, secs f a = .ok h ∧ secs h b = .ok g
  | [], b, f, g, h => ⟨f, rfl, h⟩
  | s :: a, b, f, g, h => by
    simp only [List.cons_append, secs] at h ⊢
    cases e : sec s.id s.b with
    | error x => rw [e] at h; cases h
    | ok m =>
      rw [e] at h
      exact secs_append a b _ g h
theorem secs_join : ∀ (a b : List S) (f h g : Nat → M), secs f a = .ok h → secs h b = .ok g → secs f (a ++ b) = .ok g
  | [], b, f, h, g, h1, h2 => by injection h1 with h1; subst h1; exact h2
  | s :: a, b, f, h, g, h1, h2 => by
    simp only [List.cons_append, secs] at h1 ⊢
    cases e : sec s.id s.b with
    | error x => rw [e] at h1; cases h1
    | ok m =>
      rw [e] at h1
      exact secs_join a b _ h g h1 h2
theorem rises_gt : ∀ (k : Nat) (xs : List S), rises k xs = true → ∀ s ∈ xs, k < s.id ∧ s.id ≤ 11
  | _, [], _, s, hs => by cases hs
  | k, t :: xs, h, s, hs => by
    simp only [rises, Bool.and_eq_true, decide_eq_true_eq] at h
    rcases List.mem_cons.1 hs with rfl | hs
    · exact ⟨h.1.1, h.1.2⟩
    · have := rises_gt t.id xs h.2 s hs
      omega
theorem rises_mid : ∀ (a b : List S) (s : S) (k : Nat), rises k (a ++ s :: b) = true → (∀ t ∈ a, t.id < s.id) ∧ (∀ t ∈ b, s.id < t.id) ∧ rises k (a ++ b) = true
  | [], b, s, k, h => by
    simp only [List.nil_append, rises, Bool.and_eq_true, decide_eq_true_eq] at h
    refine ⟨by simp, fun t ht => (rises_gt _ _ h.2 t ht).1, ?_⟩
    cases b with
    | nil => rfl
    | cons t b =>
      have h2 := h.2
      simp only [List.nil_append, rises, Bool.and_eq_true, decide_eq_true_eq] at h2 ⊢
      exact ⟨⟨by omega, h2.1.2⟩, h2.2⟩
  | u :: a, b, s, k, h => by
    simp only [List.cons_append, rises, Bool.and_eq_true, decide_eq_true_eq] at h ⊢
    obtain ⟨h1, h2, h3⟩ := rises_mid a b s u.id h.2
    refine ⟨fun t ht => ?_, h2, h.1, h3⟩
    rcases List.mem_cons.1 ht with rfl | ht
    · exact (rises_gt _ _ h.2 s (by simp)).1
    · exact h1 t ht
/-- A section is left out. -/
theorem secs_less {a b : List S} {s : S} {g : Nat → M} (hr : rises 0 (a ++ s :: b) = true) (h : secs (fun _ => M.zero) (a ++ s :: b) = .ok g) : secs (fun _ => M.zero) (a ++ b) = .ok (upd g s.id M.zero) := by
  obtain ⟨h1, h2, _⟩ := rises_mid a b s 0 hr
  obtain ⟨f, h3, h4⟩ := secs_append a (s :: b) _ g h
  have h5 := h4
  simp only [secs] at h4
  cases e : sec s.id s.b with
  | error x => rw [e] at h4; cases h4
  | ok m =>
    rw [e] at h4
    simp only at h4
    refine secs_join a b _ f _ h3 ?_
    rw [secs_from b _ f g h4]
    congr 1
    funext i
    by_cases hi : i = s.id
    · subst hi
      have hb : hasId b s.id = false := by
        unfold hasId
        rw [List.any_eq_false]
        intro t ht e
        have := h2 t ht
        simp at e
        omega
      rw [if_neg (by rw [hb]; decide), secs_other a _ f s.id h3 (fun t ht e => by have := h1 t ht; omega)]
      simp [upd]
    · by_cases hb : hasId b i = true
      · rw [if_pos hb]; simp [upd, hi]
      · have hb' : hasId b i = false := by simpa using hb
        rw [if_neg hb]
        simp only [upd, if_neg hi]
        rw [secs_other b _ g i h4 (hasId_no hb')]
        simp [upd, hi]
/-- The module without what a section has told. -/
def M.less (m : M) (id : Nat) : M :=
  if id = 1 then { m with types := [] } else if id = 2 then { m with imports := [] } else if id = 4 then { m with tables := [] } else if id = 5 then { m with mems := [] }
  else if id = 6 then { m with globals := [] } else if id = 7 then { m with exports := [] } else if id = 8 then { m with hasStart := false, start := 0 } else if id = 9 then { m with elems := [] }
  else if id = 11 then { m with datas := [] } else m
theorem of_less (g : Nat → M) (id : Nat) (h0 : 0 < id) (h1 : id ≤ 11) (h3 : id ≠ 3) (h10 : id ≠ 10) : M.of (upd g id M.zero) = (M.of g).less id := by
  have : id = 1 ∨ id = 2 ∨ id = 4 ∨ id = 5 ∨ id = 6 ∨ id = 7 ∨ id = 8 ∨ id = 9 ∨ id = 11 := by omega
  rcases this with rfl | rfl | rfl | rfl | rfl | rfl | rfl | rfl | rfl <;> rfl
theorem enc_len (x : S) : 1 ≤ (Sec.enc x).length := by simp [Sec.enc]
theorem join_less (a b : List S) (s : S) : (join (a ++ b)).length ≤ (join (a ++ s :: b)).length := by
  simp only [join, Sec.encAll, List.flatMap_append, List.flatMap_cons, List.length_append]
  omega
theorem dec_of {l : List UInt8} {xs : List S} {f : Nat → M} (hl : l.length ≤ 65536) (hs : split l = some xs) (h : secs (fun _ => M.zero) xs = .ok f) (hc : (f 10).codes.length = (f 3).funcs.length) : dec l = .ok (M.of f) := by
  unfold dec
  rw [if_neg (by omega), hs]
  simp only
  rw [h]
  simp only
  rw [if_pos hc]
/-- Split and joined again. -/
theorem dec_join {l : List UInt8} {m : M} (h : dec l = .ok m) : ∃ xs, split l = some xs ∧ rises 0 xs = true ∧ (join xs).length ≤ l.length ∧ dec (join xs) = .ok m := by
  obtain ⟨h0, xs, f, h1, h2, h3, rfl⟩ := dec_ok h
  obtain ⟨b1, b2, b3, _⟩ := split_back h1
  exact ⟨xs, h1, b1, b3, dec_of (by omega) (split_join xs b1 b2) h2 h3⟩
/-- A section is left out, neither of functions nor of codes. -/
theorem dec_less {l : List UInt8} {m : M} {a b : List S} {s : S} (h : dec l = .ok m) (hs : split l = some (a ++ s :: b)) (h3 : s.id ≠ 3) (h10 : s.id ≠ 10) :
    rises 0 (a ++ b) = true ∧ (join (a ++ b)).length ≤ l.length ∧ dec (join (a ++ b)) = .ok (m.less s.id) := by
  obtain ⟨h0, xs, f, h1, h2, hc, rfl⟩ := dec_ok h
  rw [hs] at h1
  injection h1 with h1
  subst h1
  obtain ⟨b1, b2, b3, _⟩ := split_back hs
  obtain ⟨_, _, r3⟩ := rises_mid a b s 0 b1
  obtain ⟨g1, g2⟩ := rises_gt 0 _ b1 s (by simp)
  have hj := join_less a b s
  refine ⟨r3, by omega, ?_⟩
  rw [dec_of (f := upd f s.id M.zero) (by omega) (split_join _ r3 (fun t ht => b2 t (by rcases List.mem_append.1 ht with ht | ht <;> simp [ht]))) (secs_less b1 h2) (by
    simp only [upd, if_neg (Ne.symm h3), if_neg (Ne.symm h10)]
    exact hc), of_less f s.id g1 g2 h3 h10]
end Bin
