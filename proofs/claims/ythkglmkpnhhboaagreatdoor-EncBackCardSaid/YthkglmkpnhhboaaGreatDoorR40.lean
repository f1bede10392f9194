/-
  The chapter's rows, as layer 6's laws ask for them, given what Decode does.
-/
import Derived.Test.YthkglmkpnhhboaaGreatDoorR01
import Derived.Test.YthkglmkpnhhboaaGreatDoorR24
import Derived.Test.YthkglmkpnhhboaaGreatDoorR33
import Derived.Test.YthkglmkpnhhboaaGreatDoorR26
import Derived.Test.YthkglmkpnhhboaaGreatDoorR09
import Derived.Test.YthkglmkpnhhboaaGreatDoorR32
import Derived.Great.Frames
set_option maxRecDepth 100000
set_option maxHeartbeats 4000000
namespace Bin
def l1 : List UInt8 := [1, 4, 1, 96, 0, 0, 3, 2, 1, 0, 10, 4, 1, 2, 0, 11]
def l2 : List UInt8 := [1, 5, 1, 96, 1, 125, 0]
def l3 : List UInt8 := [3, 2, 1, 0]
def l4 : List UInt8 := [5, 3, 1, 0, 2]
def l5 : List UInt8 := [5, 4, 1, 1, 2, 3]
def m1 : M := ⟨[⟨[], []⟩], [], [0], [], [], [], [], false, 0, [], [⟨[], []⟩], []⟩
def m4 : M := ⟨[], [], [], [], [⟨2, -1⟩], [], [], false, 0, [], [], []⟩
def m5 : M := ⟨[], [], [], [], [⟨2, 3⟩], [], [], false, 0, [], [], []⟩
end Bin
namespace Go.Proofs.YthkglmkpnhhboaaGreatDoor
open Go.RowKit Ins Bin Sec
theorem J.onY {α : Type} [Lay α] {W : World} {g : Nat} {x : α} (h : HasL W (fun _ => True) (some ⟨g, 0, none⟩) [x]) : J W (fun _ => True) [x] (.slice (some ⟨g, 0, none⟩) 1 1) := ⟨_, 1, rfl, Nat.le_refl _, by unfold maxLen; omega, by simp, h⟩
theorem modV_at {w : World} {S : Nat → Prop} {m : M} {v : Value} (h : ModV w S m v) : ∃ a1 x1 a2 x2 a3 x3 a4 x4 a5 x5 a6 x6 a7 x7 a8 x8 a9 x9 a10 x10, v = .agg #[.slice a1 m.types.length x1, .slice a2 m.imports.length x2, .slice a3 m.funcs.length x3, .slice a4 m.tables.length x4, .slice a5 m.mems.length x5, .slice a6 m.globals.length x6, .slice a7 m.exports.length x7, .bool m.hasStart, .int .u32 (m.start : Int), .slice a8 m.elems.length x8, .slice a9 m.codes.length x9, .slice a10 m.datas.length x10] ∧ RepM w S m (.slice a1 m.types.length x1) (.slice a2 m.imports.length x2) (.slice a3 m.funcs.length x3) (.slice a4 m.tables.length x4) (.slice a5 m.mems.length x5) (.slice a6 m.globals.length x6) (.slice a7 m.exports.length x7) (.slice a8 m.elems.length x8) (.slice a9 m.codes.length x9) (.slice a10 m.datas.length x10) := by
 obtain ⟨v1, v2, v3, v4, v5, v6, v7, v8, v9, v10, hv, hr⟩ := h
 have hr' := hr
 obtain ⟨⟨a1, x1, rfl, _⟩, ⟨a2, x2, rfl, _⟩, ⟨a3, x3, rfl, _⟩, ⟨a4, x4, rfl, _⟩, ⟨a5, x5, rfl, _⟩, ⟨a6, x6, rfl, _⟩, ⟨a7, x7, rfl, _⟩, _, ⟨a8, x8, rfl, _⟩, ⟨a9, x9, rfl, _⟩, ⟨a10, x10, rfl, _⟩⟩ := hr'
 exact ⟨a1, x1, a2, x2, a3, x3, a4, x4, a5, x5, a6, x6, a7, x7, a8, x8, a9, x9, a10, x10, hv, hr⟩
theorem cQ {l : List UInt8} {m : M} (h : dec l = .ok m) {w w' : World} {e : Ending} (hp : ir l w e w') : ∃ a1 x1 a2 x2 a3 x3 a4 x4 a5 x5 a6 x6 a7 x7 a8 x8 a9 x9 a10 x10, e = .returned (.tuple #[.agg #[.slice a1 m.types.length x1, .slice a2 m.imports.length x2, .slice a3 m.funcs.length x3, .slice a4 m.tables.length x4, .slice a5 m.mems.length x5, .slice a6 m.globals.length x6, .slice a7 m.exports.length x7, .bool m.hasStart, .int .u32 (m.start : Int), .slice a8 m.elems.length x8, .slice a9 m.codes.length x9, .slice a10 m.datas.length x10], .int .i64 0]) ∧ RepM w' (fun b => w.heap.size ≤ b) m (.slice a1 m.types.length x1) (.slice a2 m.imports.length x2) (.slice a3 m.funcs.length x3) (.slice a4 m.tables.length x4) (.slice a5 m.mems.length x5) (.slice a6 m.globals.length x6) (.slice a7 m.exports.length x7) (.slice a8 m.elems.length x8) (.slice a9 m.codes.length x9) (.slice a10 m.datas.length x10) ∧ Below w.heap.size w w' := by
 unfold ir at hp
 rw [h] at hp
 obtain ⟨hb, v, he, hm⟩ := hp
 obtain ⟨a1, x1, a2, x2, a3, x3, a4, x4, a5, x5, a6, x6, a7, x7, a8, x8, a9, x9, a10, x10, hv, hr⟩ := modV_at hm
 exact ⟨a1, x1, a2, x2, a3, x3, a4, x4, a5, x5, a6, x6, a7, x7, a8, x8, a9, x9, a10, x10, by rw [he, hv], hr, hb⟩
theorem ic {l : List UInt8} {k : Nat} (h : dec l = .error k) {w w' : World} {e : Ending} (hp : ir l w e w') : ∃ a1 x1 a2 x2 a3 x3 a4 x4 a5 x5 a6 x6 a7 x7 a8 x8 a9 x9 a10 x10, e = .returned (.tuple #[.agg #[.slice a1 0 x1, .slice a2 0 x2, .slice a3 0 x3, .slice a4 0 x4, .slice a5 0 x5, .slice a6 0 x6, .slice a7 0 x7, .bool false, .int .u32 0, .slice a8 0 x8, .slice a9 0 x9, .slice a10 0 x10], .int .i64 (k : Int)]) ∧ RepM w' (fun _ => True) M.zero (.slice a1 0 x1) (.slice a2 0 x2) (.slice a3 0 x3) (.slice a4 0 x4) (.slice a5 0 x5) (.slice a6 0 x6) (.slice a7 0 x7) (.slice a8 0 x8) (.slice a9 0 x9) (.slice a10 0 x10) ∧ Below w.heap.size w w' := by
 unfold ir at hp
 rw [h] at hp
 obtain ⟨hb, v, he, hm⟩ := hp
 obtain ⟨a1, x1, a2, x2, a3, x3, a4, x4, a5, x5, a6, x6, a7, x7, a8, x8, a9, x9, a10, x10, hv, hr⟩ := modV_at hm
 exact ⟨a1, x1, a2, x2, a3, x3, a4, x4, a5, x5, a6, x6, a7, x7, a8, x8, a9, x9, a10, x10, by rw [he, hv]; rfl, hr.more (fun _ _ _ => trivial), hb⟩
end Go.Proofs.YthkglmkpnhhboaaGreatDoor
namespace Bin
open Leb Ins Sec
def Sm {α : Type} (p : P α) (Q : α → Prop) : Prop := ∀ l x k, l.length ≤ 4294967296 → p l = .ok (x, k) → Q x
theorem Sm.ret {α : Type} {a : α} {Q : α → Prop} (h : Q a) : Sm (P.ret a) Q := fun l x k _ hx => by
 obtain ⟨rfl, _⟩ := aA hx
 exact h
theorem Sm.fail {α : Type} {e : Nat} {Q : α → Prop} : Sm (P.fail e : P α) Q := fun l x k _ hx => by cases hx
theorem Sm.then {α β : Type} {p : P α} {f : α → P β} {R : α → Prop} {Q : β → Prop} (hp : Sm p R) (hf : ∀ a, R a → Sm (f a) Q) : Sm (p.then f) Q := fun l x k hl hx => by
 obtain ⟨a, i, j, h1, h2, _⟩ := P.then_ok hx
 exact hf a (hp l a i hl h1) (l.drop i) x j (by rw [List.length_drop]; omega) h2
theorem Sm.any {α : Type} (p : P α) : Sm p (fun _ => True) := fun _ _ _ _ _ => trivial
theorem Sm.ite {α : Type} {c : Prop} [Decidable c] {p q : P α} {Q : α → Prop} (hp : Sm p Q) (hq : Sm q Q) : Sm (if c then p else q) Q := by split <;> assumption
theorem num_sm : Sm num (fun n => n < 4294967296) := fun _ _ _ _ hx => (aB hx).1
theorem many_sm {α : Type} {p : P α} {Q : α → Prop} (hp : Sm p Q) : ∀ n, Sm (many p n) (fun xs => xs.length = n ∧ ∀ x ∈ xs, Q x)
 | 0 => Sm.ret ⟨rfl, by simp⟩
 | n + 1 => Sm.then hp fun x hx => Sm.then (many_sm hp n) fun xs hxs => Sm.ret ⟨by simp [hxs.1], fun y hy => by
   rcases List.mem_cons.1 hy with rfl | hy
   ·exact hx
   ·exact hxs.2 y hy⟩
theorem bo {α : Type} {p : P α} {Q : α → Prop} (hp : Sm p Q) : Sm (list p) (fun xs => xs.length ≤ 140737488355328 ∧ ∀ x ∈ xs, Q x) :=
 Sm.then num_sm fun n hn => fun l x k hl hx => by
  obtain ⟨h1, h2⟩ := many_sm hp n l x k hl hx
  exact ⟨by omega, h2⟩
theorem gU : ∀ (xs : List I), xs.length ≤ (Ins.encAll xs).length
 | [] => by simp
 | x :: xs => by
  have h := gU xs
  have e : Ins.encAll (x :: xs) = Ins.enc x ++ Ins.encAll xs := by simp [Ins.encAll]
  rw [e, List.length_append, List.length_cons]
  have : 1 ≤ (Ins.enc x).length := by simp [Ins.enc]
  omega
theorem fq : Sm expr (fun xs => xs.length ≤ 140737488355328 ∧ ∀ y ∈ xs, y.l.length ≤ 140737488355328) := fun l x k hl hx => by
 obtain ⟨_, h2, _, h4, h5⟩ := bS _ _ _ _ _ hx
 have := gU x
 unfold exprEnc at h5
 rw [List.length_append] at h5
 exact ⟨by omega, fun y hy => by have := (h2 y hy).2; omega⟩
theorem part_sm : Sm part (fun b => b.length ≤ 4294967296) := Sm.then num_sm fun n hn => fun l x k hl hx => by
 split at hx
 ·injection hx with hx
  injection hx with hx _
  subst hx
  rw [List.length_take]
  omega
 ·cases hx
theorem bt {α : Type} {p : P α} {Q : α → Prop} (hp : Sm p Q) {l : List UInt8} {a : α} (hl : l.length ≤ 4294967296) (h : whole p l = .ok a) : Q a := hp l a _ hl (er h)
theorem ft_sm : Sm ft (fun x => x.params.length ≤ 140737488355328 ∧ x.results.length ≤ 140737488355328) :=
 Sm.then (Sm.any _) fun _ _ => Sm.ite (Sm.then (bo (Sm.any _)) fun _ h1 => Sm.then (bo (Sm.any _)) fun _ h2 => Sm.ret ⟨h1.1, h2.1⟩) Sm.fail
theorem gv_sm : Sm gv (fun x => x.init.length ≤ 140737488355328 ∧ ∀ y ∈ x.init, y.l.length ≤ 140737488355328) :=
 Sm.then (Sm.any _) fun _ _ => Sm.then fq fun _ h => Sm.ret h
theorem el_sm : Sm el (fun x => x.off.length ≤ 140737488355328 ∧ (∀ y ∈ x.off, y.l.length ≤ 140737488355328) ∧ x.funcs.length ≤ 140737488355328) :=
 Sm.then (Sm.any _) fun _ _ => Sm.then fq fun _ h => Sm.then (bo (Sm.any _)) fun _ h2 => Sm.ret ⟨h.1, h.2, h2.1⟩
theorem da_sm : Sm da (fun x => x.off.length ≤ 140737488355328 ∧ (∀ y ∈ x.off, y.l.length ≤ 140737488355328) ∧ x.b.length ≤ 140737488355328) :=
 Sm.then (Sm.any _) fun _ _ => Sm.then fq fun _ h => Sm.then part_sm fun _ h2 => Sm.ret ⟨h.1, h.2, Nat.le_trans h2 (by decide)⟩
theorem cdIn_sm : Sm cdIn (fun x => x.locals.length ≤ 140737488355328 ∧ x.body.length ≤ 140737488355328 ∧ ∀ y ∈ x.body, y.l.length ≤ 140737488355328) :=
 Sm.then (bo (Sm.any _)) fun _ h => Sm.ite (Sm.then fq fun _ h2 => Sm.ret ⟨h.1, h2⟩) Sm.fail
theorem cd_sm : Sm cd (fun x => x.locals.length ≤ 140737488355328 ∧ x.body.length ≤ 140737488355328 ∧ ∀ y ∈ x.body, y.l.length ≤ 140737488355328) :=
 Sm.then part_sm fun b hb => by
  cases h : whole cdIn b with
  | error e => exact Sm.fail
  | ok c => exact Sm.ret (bt cdIn_sm hb h)
end Bin
namespace Go.Proofs.YthkglmkpnhhboaaGreatDoor
open Bin Sec
theorem zero_small : M.small M.zero := by unfold M.small M.zero; simp
theorem sec_small {id : Nat} {b : List UInt8} {m : M} (hb : b.length ≤ 4294967296) (h : sec id b = .ok m) : M.small m := by
 unfold sec at h
 by_cases e1 : id = 1
 ·rw [if_pos e1] at h
  obtain ⟨x, hx, rfl⟩ := aP h
  have := bt (bo ft_sm) hb hx
  unfold M.small; simp; exact ⟨this.1, this.2⟩
 rw [if_neg e1] at h
 by_cases e2 : id = 2
 ·rw [if_pos e2] at h
  obtain ⟨x, hx, rfl⟩ := aP h
  have := bt (bo (Sm.any imp)) hb hx
  unfold M.small; simp; exact this.1
 rw [if_neg e2] at h
 by_cases e3 : id = 3
 ·rw [if_pos e3] at h
  obtain ⟨x, hx, rfl⟩ := aP h
  have := bt (bo (Sm.any num)) hb hx
  unfold M.small; simp; exact this.1
 rw [if_neg e3] at h
 by_cases e4 : id = 4
 ·rw [if_pos e4] at h
  obtain ⟨x, hx, rfl⟩ := aP h
  have := bt (bo (Sm.any table)) hb hx
  unfold M.small; simp; exact this.1
 rw [if_neg e4] at h
 by_cases e5 : id = 5
 ·rw [if_pos e5] at h
  obtain ⟨x, hx, rfl⟩ := aP h
  have := bt (bo (Sm.any lim)) hb hx
  unfold M.small; simp; exact this.1
 rw [if_neg e5] at h
 by_cases e6 : id = 6
 ·rw [if_pos e6] at h
  obtain ⟨x, hx, rfl⟩ := aP h
  have := bt (bo gv_sm) hb hx
  unfold M.small; simp; exact ⟨this.1, this.2⟩
 rw [if_neg e6] at h
 by_cases e7 : id = 7
 ·rw [if_pos e7] at h
  obtain ⟨x, hx, rfl⟩ := aP h
  have := bt (bo (Sm.any Bin.exp)) hb hx
  unfold M.small; simp; exact this.1
 rw [if_neg e7] at h
 by_cases e8 : id = 8
 ·rw [if_pos e8] at h
  obtain ⟨x, hx, rfl⟩ := aP h
  unfold M.small; simp
 rw [if_neg e8] at h
 by_cases e9 : id = 9
 ·rw [if_pos e9] at h
  obtain ⟨x, hx, rfl⟩ := aP h
  have := bt (bo el_sm) hb hx
  unfold M.small; simp; exact ⟨this.1, this.2⟩
 rw [if_neg e9] at h
 by_cases e10 : id = 10
 ·rw [if_pos e10] at h
  obtain ⟨x, hx, rfl⟩ := aP h
  have := bt (bo cd_sm) hb hx
  unfold M.small; simp; exact ⟨this.1, this.2⟩
 rw [if_neg e10] at h
 obtain ⟨x, hx, rfl⟩ := aP h
 have := bt (bo da_sm) hb hx
 unfold M.small; simp; exact ⟨this.1, this.2⟩
theorem fT : ∀ (xs : List S) (f g : Nat → M), secs f xs = .ok g → (∀ s ∈ xs, s.b.length < 4294967296) → (∀ i, M.small (f i)) → ∀ i, M.small (g i)
 | [], f, g, h, _, hf => by injection h with h; subst h; exact hf
 | s :: xs, f, g, h, hl, hf => by
  simp only [secs] at h
  split at h
  ·cases h
  ·next m e =>
   refine fT xs _ g h (fun t ht => hl t (by simp [ht])) (fun i => ?_)
   unfold upd
   split
   ·exact sec_small (Nat.le_of_lt (hl s (by simp))) e
   ·exact hf i
theorem of_small {f : Nat → M} (h : ∀ i, M.small (f i)) : M.small (M.of f) :=
 ⟨(h 1).1, (h 2).2.1, (h 3).2.2.1, (h 4).2.2.2.1, (h 5).2.2.2.2.1, (h 6).2.2.2.2.2.1, (h 7).2.2.2.2.2.2.1, (h 9).2.2.2.2.2.2.2.1, (h 10).2.2.2.2.2.2.2.2.1, (h 11).2.2.2.2.2.2.2.2.2.1,
  (h 1).2.2.2.2.2.2.2.2.2.2.1, (h 6).2.2.2.2.2.2.2.2.2.2.2.1, (h 9).2.2.2.2.2.2.2.2.2.2.2.2.1, (h 10).2.2.2.2.2.2.2.2.2.2.2.2.2.1, (h 11).2.2.2.2.2.2.2.2.2.2.2.2.2.2⟩
theorem eS {l : List UInt8} {m : M} (h : dec l = .ok m) : M.small m := by
 obtain ⟨_, xs, f, h1, h2, _, rfl⟩ := dec_ok h
 exact of_small (fT xs _ _ h2 (split_back h1).2.1 (fun _ => zero_small))
end Go.Proofs.YthkglmkpnhhboaaGreatDoor
namespace Bin
open Leb Ins Sec
def Er {α : Type} (p : P α) : Prop := ∀ l k, p l = .error k → k ≠ 0
theorem Er.ret {α : Type} {a : α} : Er (P.ret a) := fun _ _ h => by cases h
theorem Er.fail {α : Type} {e : Nat} (h : e ≠ 0) : Er (P.fail e : P α) := fun _ _ hx => by injection hx with hx; subst hx; exact h
theorem Er.then {α β : Type} {p : P α} {f : α → P β} (hp : Er p) (hf : ∀ a, Er (f a)) : Er (p.then f) := fun l k h => by
 unfold P.then at h
 split at h
 ·next e he => injection h with h; subst h; exact hp _ _ he
 ·next a i he =>
  split at h
  ·next e he2 => injection h with h; subst h; exact hf _ _ _ he2
  ·cases h
theorem Er.ite {α : Type} {c : Prop} [Decidable c] {p q : P α} (hp : Er p) (hq : Er q) : Er (if c then p else q) := by split <;> assumption
theorem dK : Er byte := fun l k h => by
 cases l with
 | nil => injection h with h; subst h; decide
 | cons x r => cases h
theorem bZ : Er num := fun l k h => by rw [bk h]; decide
theorem jh : Er name := fun l k h => by
 unfold name at h
 split at h
 ·cases h
 ·injection h with h; subst h; decide
theorem many_er {α : Type} {p : P α} (hp : Er p) : ∀ n, Er (many p n)
 | 0 => Er.ret
 | n + 1 => Er.then hp fun _ => Er.then (many_er hp n) fun _ => Er.ret
theorem bn {α : Type} {p : P α} (hp : Er p) : Er (list p) := Er.then bZ fun _ => many_er hp _
theorem en : Er value := Er.then dK fun _ => Er.ite (Er.fail (by decide)) (Er.ite Er.ret (Er.fail (by decide)))
theorem flag_er : Er flag := Er.then dK fun _ => Er.ite Er.ret (Er.ite Er.ret (Er.fail (by decide)))
theorem lim_er : Er lim := Er.then flag_er fun _ => Er.then bZ fun _ => Er.ite (Er.then bZ fun _ => Er.ret) Er.ret
theorem table_er : Er table := Er.then dK fun _ => Er.ite lim_er (Er.fail (by decide))
theorem glob_er : Er glob := Er.then en fun _ => Er.then flag_er fun _ => Er.ret
theorem fp : Er expr := fun l k h => by rcases cU _ _ _ _ h with h | h <;> (subst h; decide)
theorem ft_er : Er ft := Er.then dK fun _ => Er.ite (Er.then (bn en) fun _ => Er.then (bn en) fun _ => Er.ret) (Er.fail (by decide))
theorem imp_er : Er imp := Er.then jh fun _ => Er.then jh fun _ => Er.then dK fun _ => Er.ite (Er.then bZ fun _ => Er.ret) (Er.ite (Er.then table_er fun _ => Er.ret) (Er.ite (Er.then lim_er fun _ => Er.ret) (Er.ite (Er.then glob_er fun _ => Er.ret) (Er.fail (by decide)))))
theorem gv_er : Er gv := Er.then glob_er fun _ => Er.then fp fun _ => Er.ret
theorem exp_er : Er exp := Er.then jh fun _ => Er.then dK fun _ => Er.ite (Er.then bZ fun _ => Er.ret) (Er.fail (by decide))
theorem el_er : Er el := Er.then bZ fun _ => Er.then fp fun _ => Er.then (bn bZ) fun _ => Er.ret
theorem part_er : Er part := Er.then bZ fun n => fun l k h => by
 split at h
 ·cases h
 ·injection h with h; subst h; decide
theorem loc_er : Er loc := Er.then bZ fun _ => Er.then en fun _ => Er.ret
theorem bi {α : Type} {p : P α} (hp : Er p) {l : List UInt8} {k : Nat} (h : whole p l = .error k) : k ≠ 0 := by
 unfold whole at h
 split at h
 ·next e he => injection h with h; subst h; exact hp _ _ he
 ·split at h
  ·cases h
  ·injection h with h; subst h; decide
theorem cdIn_er : Er cdIn := Er.then (bn loc_er) fun _ => Er.ite (Er.then fp fun _ => Er.ret) (Er.fail (by decide))
theorem cd_er : Er cd := Er.then part_er fun b => by
 cases h : whole cdIn b with
 | error e => exact Er.fail (bi cdIn_er h)
 | ok c => exact Er.ret
theorem da_er : Er da := Er.then bZ fun _ => Er.then fp fun _ => Er.then part_er fun _ => Er.ret
theorem bJ {α β : Type} {r : Except Nat α} {f : α → β} {k : Nat} (h : r.map f = .error k) : r = .error k := by
 cases r with
 | error e => injection h with h; subst h; rfl
 | ok a => cases h
theorem sec_er {id : Nat} {b : List UInt8} {k : Nat} (h : sec id b = .error k) : k ≠ 0 := by
 unfold sec at h
 by_cases e1 : id = 1
 ·rw [if_pos e1] at h; exact bi (bn ft_er) (bJ h)
 rw [if_neg e1] at h
 by_cases e2 : id = 2
 ·rw [if_pos e2] at h; exact bi (bn imp_er) (bJ h)
 rw [if_neg e2] at h
 by_cases e3 : id = 3
 ·rw [if_pos e3] at h; exact bi (bn bZ) (bJ h)
 rw [if_neg e3] at h
 by_cases e4 : id = 4
 ·rw [if_pos e4] at h; exact bi (bn table_er) (bJ h)
 rw [if_neg e4] at h
 by_cases e5 : id = 5
 ·rw [if_pos e5] at h; exact bi (bn lim_er) (bJ h)
 rw [if_neg e5] at h
 by_cases e6 : id = 6
 ·rw [if_pos e6] at h; exact bi (bn gv_er) (bJ h)
 rw [if_neg e6] at h
 by_cases e7 : id = 7
 ·rw [if_pos e7] at h; exact bi (bn exp_er) (bJ h)
 rw [if_neg e7] at h
 by_cases e8 : id = 8
 ·rw [if_pos e8] at h; exact bi bZ (bJ h)
 rw [if_neg e8] at h
 by_cases e9 : id = 9
 ·rw [if_pos e9] at h; exact bi (bn el_er) (bJ h)
 rw [if_neg e9] at h
 by_cases e10 : id = 10
 ·rw [if_pos e10] at h; exact bi (bn cd_er) (bJ h)
 rw [if_neg e10] at h
 exact bi (bn da_er) (bJ h)
theorem secs_er : ∀ (xs : List S) (f : Nat → M) (k : Nat), secs f xs = .error k → k ≠ 0
 | [], f, k, h => by cases h
 | s :: xs, f, k, h => by
  simp only [secs] at h
  split at h
  ·next e he => injection h with h; subst h; exact sec_er he
  ·exact secs_er xs _ k h
theorem dec_er {l : List UInt8} {k : Nat} (h : dec l = .error k) : k ≠ 0 := by
 unfold dec at h
 split at h
 ·injection h with h; subst h; decide
 ·split at h
  ·injection h with h; subst h; decide
  ·split at h
   ·next e he => injection h with h; subst h; exact secs_er _ _ _ he
   ·split at h
    ·cases h
    ·injection h with h; subst h; decide
end Bin
namespace Go.Proofs.YthkglmkpnhhboaaGreatDoor
open Go.RowKit Ins Bin
theorem act_set {C : Act → Prop} {a : Act} {d : Nat} {v : Value} {df : List Deferred} (hd : d < a.tmps.size) (h : ∀ b : Act, b.tmps.size = a.tmps.size → b.defers = df → b.tmps.getD d undef = v → C b) : C ⟨a.tmps.setIfInBounds d v, df⟩ :=
 h _ (by simp) rfl (Act.eval_put_same a d v hd)
theorem eM {C : Array Bool → Prop} {L : Array Bool} (L' : Array Bool) (h : L = L') (hc : C L') : C L := h ▸ hc
theorem Act.ev {a : Act} {k : Nat} {v : Value} (h : a.tmps.getD k undef = v) : a.eval (.tmp k) = v := h
theorem act_of {C : Act → Prop} (a0 : Act) (h : ∀ a : Act, a.tmps.size = a0.tmps.size → a.defers = a0.defers → (∀ k, a.tmps.getD k undef = a0.tmps.getD k undef) → C a) : C a0 := h a0 rfl rfl (fun _ => rfl)
theorem act_put {C : Act → Prop} {a : Act} {d : Nat} {v : Value} (hd : d < a.tmps.size) (h : ∀ b : Act, b.tmps.size = a.tmps.size → b.defers = a.defers → b.tmps.getD d undef = v → (∀ k, k ≠ d → b.tmps.getD k undef = a.tmps.getD k undef) → C b) : C (a.put (some d) v) :=
 h _ (by simp [Act.put]) rfl (Act.eval_put_same a d v hd) (fun k hk => Act.eval_put_ne a d k v (Ne.symm hk))
def lst (i : Nat) : Array Bool := (List.replicate i true ++ List.replicate (99 - i) false).toArray
theorem lst_set {i : Nat} (h : i < 99) : (lst i).setIfInBounds i true = lst (i + 1) := by
 unfold lst
 rw [List.setIfInBounds_toArray, show 99 - i = (99 - (i + 1)) + 1 by omega, List.replicate_succ, List.set_append_right _ _ (by simp)]
 simp only [List.length_replicate, Nat.sub_self, List.set_cons_zero]
 rw [List.replicate_succ' (n := i), List.append_assoc]
 rfl
def At (x : Value) (d : Nat) (F : (Nat → Value) → Prop) (a : Act) : Prop := a.tmps.size = 101 ∧ a.defers = [] ∧ a.tmps.getD 0 undef = x ∧ ∀ f : Nat → Value, (∀ k, k < d → f k = a.tmps.getD k undef) → F f
theorem stp {P : Program} {md : Region.Mode} {ops : Array Oper} {Q : Exit → Act → World → Prop} {S : World → Prop} {w : World} {x : Value} {F : (Nat → Value) → Prop} {fuel : Nat} (i : Nat) {op : Op} {ty : TypeId} {pos : String} {af : Array Edge} {g : Option (Nat × Bool)} {v : Value}
  (hi : ops[i]? = some ⟨some (i + 3), op, ty, pos, af, g⟩)
  (h : ∀ a, At x (i + 4) (fun f => F f ∧ f (i + 3) = v) a → wpAnyH P md ops Q S fuel (lst (i + 1)) a w)
  (hy : ∀ a : Act, a.tmps.getD 0 undef = x → F (fun k => a.tmps.getD k undef) → ∀ w, S w → (execOp a.eval ⟨some (i + 3), op, ty, pos, af, g⟩).run P w = .ok (.value v) w := by (intro a e0 hF wy hSw; obtain ⟨q0, q1, q2, q3, q4, q5, q6, q7, q9, q10, q11⟩ := hSw; (try have e1 := hF.2); (try have e2 := hF.1.2); (try simp only [Nat.reduceAdd] at e1); (try simp only [Nat.reduceAdd] at e2); clear hF; go_simp; (try simp only [e0]); (try simp only [e1]); (try simp only [e2]); go_simp; try with_reducible rfl))
  (hS : S w := by assumption) (hl : i < 97 := by decide)
  (hk : (Region.noSelect ops && Region.free md ops (lst i) i && (Region.ready md ops (lst i)).contains i) = true := by as_aux_lemma => kernel_rfl)
  (hQ : ∀ c a w, Q (.panic c) (a.put (some (i + 3)) v) w → Q (.panic c) a w := by exact fun _ _ _ h => h)
  (hw : ∀ a : Act, Region.wanted ⟨some (i + 3), op, ty, pos, af, g⟩ (yielded ops a.tmps) = true := by intro a; rfl) :
  ∀ a, At x (i + 3) F a → wpAnyH P md ops Q S (fuel + 1) (lst i) a w := by
 rintro a ⟨hz, hd, hx, hF⟩
 simp only [Bool.and_eq_true] at hk
 refine dP i hi hk.1.1 hk.1.2 hk.2 (hQ) (hw a) hS (hy a hx (hF _ (fun _ _ => rfl))) ?_
 rw [lst_set (by omega)]
 refine h _ ⟨by simp [Act.put, hz], hd, ?_, fun f hf => ⟨hF f (fun k hk => ?_), ?_⟩⟩
 ·exact (Act.eval_put_ne a (i + 3) 0 v (by omega)).trans hx
 ·exact (hf k (by omega)).trans (Act.eval_put_ne a (i + 3) k v (by omega))
 ·exact (hf (i + 3) (by omega)).trans (Act.eval_put_same a (i + 3) v (by omega))
theorem econt_any (B : Nat) (n1 c1 n2 c2 n3 c3 n4 c4 n5 c5 n6 c6 n7 c7 n9 c9 n10 c10 n11 c11 : Nat) (A1 A2 A3 A4 A5 A6 A7 A9 A10 A11 : Option Addr) (hs : Bool) (st : Int) (w : World) (hm : w.heap[B]? = some (.cells #[.slice A1 n1 c1, .slice A2 n2 c2, .slice A3 n3 c3, .slice A4 n4 c4, .slice A5 n5 c5, .slice A6 n6 c6, .slice A7 n7 c7, .bool hs, .int .u32 st, .slice A9 n9 c9, .slice A10 n10 c10, .slice A11 n11 c11] 33 (0, 0))) :
  Calls Tryz.prog 30 #[.pointer (some ⟨B, 0, none⟩)] w fun e w' => e = .returned (.slice (some ⟨w.heap.size, 0, none⟩) 11 11) ∧ w'.heap[w.heap.size]? = some (.cells (contCells B hs n1 n2 n3 n4 n5 n6 n7 n9 n10 n11) 101 (0, 0)) ∧ Below w.heap.size w w' := by
 have h0 : w.cell? ⟨B, 0, none⟩ = some (.slice A1 n1 c1) := by rw [cell_of_row w B 0 _ _ (0, 0) hm]; rfl
 have h1 : w.cell? ⟨B, 1, none⟩ = some (.slice A2 n2 c2) := by rw [cell_of_row w B 1 _ _ (0, 0) hm]; rfl
 have h2 : w.cell? ⟨B, 2, none⟩ = some (.slice A3 n3 c3) := by rw [cell_of_row w B 2 _ _ (0, 0) hm]; rfl
 have h3 : w.cell? ⟨B, 3, none⟩ = some (.slice A4 n4 c4) := by rw [cell_of_row w B 3 _ _ (0, 0) hm]; rfl
 have h4 : w.cell? ⟨B, 4, none⟩ = some (.slice A5 n5 c5) := by rw [cell_of_row w B 4 _ _ (0, 0) hm]; rfl
 have h5 : w.cell? ⟨B, 5, none⟩ = some (.slice A6 n6 c6) := by rw [cell_of_row w B 5 _ _ (0, 0) hm]; rfl
 have h6 : w.cell? ⟨B, 6, none⟩ = some (.slice A7 n7 c7) := by rw [cell_of_row w B 6 _ _ (0, 0) hm]; rfl
 have h7 : w.cell? ⟨B, 7, none⟩ = some (.bool hs) := by rw [cell_of_row w B 7 _ _ (0, 0) hm]; rfl
 have h9 : w.cell? ⟨B, 9, none⟩ = some (.slice A9 n9 c9) := by rw [cell_of_row w B 9 _ _ (0, 0) hm]; rfl
 have h10 : w.cell? ⟨B, 10, none⟩ = some (.slice A10 n10 c10) := by rw [cell_of_row w B 10 _ _ (0, 0) hm]; rfl
 have h11 : w.cell? ⟨B, 11, none⟩ = some (.slice A11 n11 c11) := by rw [cell_of_row w B 11 _ _ (0, 0) hm]; rfl
 clear hm
 go_enter Tryz.func30, Tryz.ntmps30
 go_upto_region 1 with fail
 refine wp_region_held_drew (S := (fun W => W.cell? ⟨B, 0, none⟩ = some (.slice A1 n1 c1) ∧ W.cell? ⟨B, 1, none⟩ = some (.slice A2 n2 c2) ∧ W.cell? ⟨B, 2, none⟩ = some (.slice A3 n3 c3) ∧ W.cell? ⟨B, 3, none⟩ = some (.slice A4 n4 c4) ∧ W.cell? ⟨B, 4, none⟩ = some (.slice A5 n5 c5) ∧ W.cell? ⟨B, 5, none⟩ = some (.slice A6 n6 c6) ∧ W.cell? ⟨B, 6, none⟩ = some (.slice A7 n7 c7) ∧ W.cell? ⟨B, 7, none⟩ = some (.bool hs) ∧ W.cell? ⟨B, 9, none⟩ = some (.slice A9 n9 c9) ∧ W.cell? ⟨B, 10, none⟩ = some (.slice A10 n10 c10) ∧ W.cell? ⟨B, 11, none⟩ = some (.slice A11 n11 c11))) (by as_aux_lemma => kernel_rfl) (⟨h0, h1, h2, h3, h4, h5, h6, h7, h9, h10, h11⟩) (fun hHeld => ?_)
 refine act_of (C := fun a => wpAnyH _ _ _ _ _ _ _ a _) _ ?_
 intro a0 z0 d0 k0
 refine eM (C := fun l => wpAnyH _ _ _ _ _ _ l _ _) (lst 0) (by as_aux_lemma => kernel_rfl) ?_
 refine (?_ : ∀ a, At (.pointer (some ⟨B, 0, none⟩)) (0 + 3) (fun _ => True) a → wpAnyH _ _ _ _ _ _ _ a _) a0 ⟨z0, d0, k0 0, fun _ _ => trivial⟩
 clear d0 k0 z0 a0
 refine stp 0 rfl ?_
 refine stp 1 rfl ?_
 refine stp 2 rfl ?_
 refine stp 3 rfl ?_
 refine stp 4 rfl ?_
 refine stp 5 rfl ?_
 refine stp 6 rfl ?_
 refine stp 7 rfl ?_
 refine stp 8 rfl ?_ (by (intro a e0 hF wy hSw; have vA := Act.ev hF.1.1.2; have vB := Act.ev hF.2; simp only [Nat.reduceAdd] at vA vB; clear hF; unfold execOp; simp only [List.map_toArray, List.map_cons, List.map_nil, vA, vB]; go_simp; try with_reducible rfl))
 refine stp 9 rfl ?_
 refine stp 10 rfl ?_
 refine stp 11 rfl ?_
 refine stp 12 rfl ?_
 refine stp 13 rfl ?_
 refine stp 14 rfl ?_
 refine stp 15 rfl ?_
 refine stp 16 rfl ?_
 refine stp 17 rfl ?_ (by (intro a e0 hF wy hSw; have vA := Act.ev hF.1.1.2; have vB := Act.ev hF.2; simp only [Nat.reduceAdd] at vA vB; clear hF; unfold execOp; simp only [List.map_toArray, List.map_cons, List.map_nil, vA, vB]; go_simp; try with_reducible rfl))
 refine stp 18 rfl ?_
 refine stp 19 rfl ?_
 refine stp 20 rfl ?_
 refine stp 21 rfl ?_
 refine stp 22 rfl ?_
 refine stp 23 rfl ?_
 refine stp 24 rfl ?_
 refine stp 25 rfl ?_
 refine stp 26 rfl ?_ (by (intro a e0 hF wy hSw; have vA := Act.ev hF.1.1.2; have vB := Act.ev hF.2; simp only [Nat.reduceAdd] at vA vB; clear hF; unfold execOp; simp only [List.map_toArray, List.map_cons, List.map_nil, vA, vB]; go_simp; try with_reducible rfl))
 refine stp 27 rfl ?_
 refine stp 28 rfl ?_
 refine stp 29 rfl ?_
 refine stp 30 rfl ?_
 refine stp 31 rfl ?_
 refine stp 32 rfl ?_
 refine stp 33 rfl ?_
 refine stp 34 rfl ?_
 refine stp 35 rfl ?_ (by (intro a e0 hF wy hSw; have vA := Act.ev hF.1.1.2; have vB := Act.ev hF.2; simp only [Nat.reduceAdd] at vA vB; clear hF; unfold execOp; simp only [List.map_toArray, List.map_cons, List.map_nil, vA, vB]; go_simp; try with_reducible rfl))
 refine stp 36 rfl ?_
 refine stp 37 rfl ?_
 refine stp 38 rfl ?_
 refine stp 39 rfl ?_
 refine stp 40 rfl ?_
 refine stp 41 rfl ?_
 refine stp 42 rfl ?_
 refine stp 43 rfl ?_
 refine stp 44 rfl ?_ (by (intro a e0 hF wy hSw; have vA := Act.ev hF.1.1.2; have vB := Act.ev hF.2; simp only [Nat.reduceAdd] at vA vB; clear hF; unfold execOp; simp only [List.map_toArray, List.map_cons, List.map_nil, vA, vB]; go_simp; try with_reducible rfl))
 refine stp 45 rfl ?_
 refine stp 46 rfl ?_
 refine stp 47 rfl ?_
 refine stp 48 rfl ?_
 refine stp 49 rfl ?_
 refine stp 50 rfl ?_
 refine stp 51 rfl ?_
 refine stp 52 rfl ?_
 refine stp 53 rfl ?_ (by (intro a e0 hF wy hSw; have vA := Act.ev hF.1.1.2; have vB := Act.ev hF.2; simp only [Nat.reduceAdd] at vA vB; clear hF; unfold execOp; simp only [List.map_toArray, List.map_cons, List.map_nil, vA, vB]; go_simp; try with_reducible rfl))
 refine stp 54 rfl ?_
 refine stp 55 rfl ?_
 refine stp 56 rfl ?_
 refine stp 57 rfl ?_
 refine stp 58 rfl ?_
 refine stp 59 rfl ?_
 refine stp 60 rfl ?_
 refine stp 61 rfl ?_
 refine stp 62 rfl ?_ (by (intro a e0 hF wy hSw; have vA := Act.ev hF.1.1.2; have vB := Act.ev hF.2; simp only [Nat.reduceAdd] at vA vB; clear hF; unfold execOp; simp only [List.map_toArray, List.map_cons, List.map_nil, vA, vB]; go_simp; try with_reducible rfl))
 refine stp 63 rfl ?_
 refine stp 64 rfl ?_
 refine stp 65 rfl ?_
 refine stp 66 rfl ?_
 refine stp 67 rfl ?_
 refine stp 68 rfl ?_
 refine stp 69 rfl ?_ (by (intro a e0 hF wy hSw; have vA := Act.ev hF.1.1.2; have vB := Act.ev hF.2; simp only [Nat.reduceAdd] at vA vB; clear hF; unfold execOp; simp only [List.map_toArray, List.map_cons, List.map_nil, vA, vB]; go_simp; try with_reducible rfl))
 refine stp 70 rfl ?_
 refine stp 71 rfl ?_
 refine stp 72 rfl ?_
 refine stp 73 rfl ?_
 refine stp 74 rfl ?_
 refine stp 75 rfl ?_
 refine stp 76 rfl ?_
 refine stp 77 rfl ?_
 refine stp 78 rfl ?_ (by (intro a e0 hF wy hSw; have vA := Act.ev hF.1.1.2; have vB := Act.ev hF.2; simp only [Nat.reduceAdd] at vA vB; clear hF; unfold execOp; simp only [List.map_toArray, List.map_cons, List.map_nil, vA, vB]; go_simp; try with_reducible rfl))
 refine stp 79 rfl ?_
 refine stp 80 rfl ?_
 refine stp 81 rfl ?_
 refine stp 82 rfl ?_
 refine stp 83 rfl ?_
 refine stp 84 rfl ?_
 refine stp 85 rfl ?_
 refine stp 86 rfl ?_
 refine stp 87 rfl ?_ (by (intro a e0 hF wy hSw; have vA := Act.ev hF.1.1.2; have vB := Act.ev hF.2; simp only [Nat.reduceAdd] at vA vB; clear hF; unfold execOp; simp only [List.map_toArray, List.map_cons, List.map_nil, vA, vB]; go_simp; try with_reducible rfl))
 refine stp 88 rfl ?_
 refine stp 89 rfl ?_
 refine stp 90 rfl ?_
 refine stp 91 rfl ?_
 refine stp 92 rfl ?_
 refine stp 93 rfl ?_
 refine stp 94 rfl ?_
 refine stp 95 rfl ?_
 refine stp 96 rfl ?_ (by (intro a e0 hF wy hSw; have vA := Act.ev hF.1.1.2; have vB := Act.ev hF.2; simp only [Nat.reduceAdd] at vA vB; clear hF; unfold execOp; simp only [List.map_toArray, List.map_cons, List.map_nil, vA, vB]; go_simp; try with_reducible rfl))
 rintro a ⟨z0, d0, _, hF⟩
 have hF := hF _ (fun _ _ => rfl)
 refine eM (C := fun l => wpAnyH _ _ _ _ _ _ l _ _) (List.replicate 97 true ++ List.replicate 2 false).toArray (by as_aux_lemma => kernel_rfl) ?_
 refine an 97 rfl (by as_aux_lemma => kernel_rfl) (fun K hK => ?_)
 rw [if_pos]
 case hc => rfl
 have v11 : a.eval (.tmp 11) = _ := Act.ev hF.1.1.1.1.1.1.1.1.1.1.1.1.1.1.1.1.1.1.1.1.1.1.1.1.1.1.1.1.1.1.1.1.1.1.1.1.1.1.1.1.1.1.1.1.1.1.1.1.1.1.1.1.1.1.1.1.1.1.1.1.1.1.1.1.1.1.1.1.1.1.1.1.1.1.1.1.1.1.1.1.1.1.1.1.1.1.1.1.2
 have v20 : a.eval (.tmp 20) = _ := Act.ev hF.1.1.1.1.1.1.1.1.1.1.1.1.1.1.1.1.1.1.1.1.1.1.1.1.1.1.1.1.1.1.1.1.1.1.1.1.1.1.1.1.1.1.1.1.1.1.1.1.1.1.1.1.1.1.1.1.1.1.1.1.1.1.1.1.1.1.1.1.1.1.1.1.1.1.1.1.1.1.1.2
 have v29 : a.eval (.tmp 29) = _ := Act.ev hF.1.1.1.1.1.1.1.1.1.1.1.1.1.1.1.1.1.1.1.1.1.1.1.1.1.1.1.1.1.1.1.1.1.1.1.1.1.1.1.1.1.1.1.1.1.1.1.1.1.1.1.1.1.1.1.1.1.1.1.1.1.1.1.1.1.1.1.1.1.1.2
 have v38 : a.eval (.tmp 38) = _ := Act.ev hF.1.1.1.1.1.1.1.1.1.1.1.1.1.1.1.1.1.1.1.1.1.1.1.1.1.1.1.1.1.1.1.1.1.1.1.1.1.1.1.1.1.1.1.1.1.1.1.1.1.1.1.1.1.1.1.1.1.1.1.1.1.2
 have v47 : a.eval (.tmp 47) = _ := Act.ev hF.1.1.1.1.1.1.1.1.1.1.1.1.1.1.1.1.1.1.1.1.1.1.1.1.1.1.1.1.1.1.1.1.1.1.1.1.1.1.1.1.1.1.1.1.1.1.1.1.1.1.1.1.2
 have v56 : a.eval (.tmp 56) = _ := Act.ev hF.1.1.1.1.1.1.1.1.1.1.1.1.1.1.1.1.1.1.1.1.1.1.1.1.1.1.1.1.1.1.1.1.1.1.1.1.1.1.1.1.1.1.1.2
 have v65 : a.eval (.tmp 65) = _ := Act.ev hF.1.1.1.1.1.1.1.1.1.1.1.1.1.1.1.1.1.1.1.1.1.1.1.1.1.1.1.1.1.1.1.1.1.1.2
 have v72 : a.eval (.tmp 72) = _ := Act.ev hF.1.1.1.1.1.1.1.1.1.1.1.1.1.1.1.1.1.1.1.1.1.1.1.1.1.1.1.2
 have v81 : a.eval (.tmp 81) = _ := Act.ev hF.1.1.1.1.1.1.1.1.1.1.1.1.1.1.1.1.1.1.2
 have v90 : a.eval (.tmp 90) = _ := Act.ev hF.1.1.1.1.1.1.1.1.1.2
 have v99 : a.eval (.tmp 99) = _ := Act.ev hF.2
 have Z0 := Y z0
 clear hF z0
 unfold Oper.wp execOp
 simp only [List.map_toArray, List.map_cons, List.map_nil, v11, v20, v29, v38, v47, v56, v65, v72, v81, v90, v99]
 go_simp
 refine hK.out _ _ (⟨(World.cell?_alloc_lt w _ _ (World.block_lt_of_cell? w _ h0)).trans h0, (World.cell?_alloc_lt w _ _ (World.block_lt_of_cell? w _ h1)).trans h1, (World.cell?_alloc_lt w _ _ (World.block_lt_of_cell? w _ h2)).trans h2, (World.cell?_alloc_lt w _ _ (World.block_lt_of_cell? w _ h3)).trans h3, (World.cell?_alloc_lt w _ _ (World.block_lt_of_cell? w _ h4)).trans h4, (World.cell?_alloc_lt w _ _ (World.block_lt_of_cell? w _ h5)).trans h5, (World.cell?_alloc_lt w _ _ (World.block_lt_of_cell? w _ h6)).trans h6, (World.cell?_alloc_lt w _ _ (World.block_lt_of_cell? w _ h7)).trans h7, (World.cell?_alloc_lt w _ _ (World.block_lt_of_cell? w _ h9)).trans h9, (World.cell?_alloc_lt w _ _ (World.block_lt_of_cell? w _ h10)).trans h10, (World.cell?_alloc_lt w _ _ (World.block_lt_of_cell? w _ h11)).trans h11⟩) (fun hHeld2 => ?_)
 clear hK K hHeld2 hHeld
 refine act_set (C := fun a => wpAnyH _ _ _ _ _ _ _ a _) (by rw [Z0.out]; decide) ?_
 intro a98 z1 d1 e100
 have z0 := z1.trans Z0.out
 replace d0 := d1
 clear z1 d1
 refine eM (C := fun l => wpAnyH _ _ _ _ _ _ l _ _) (List.replicate 98 true ++ List.replicate 1 false).toArray (by as_aux_lemma => kernel_rfl) ?_
 refine dP 98 rfl (by as_aux_lemma => kernel_rfl) (by as_aux_lemma => kernel_rfl) (by as_aux_lemma => kernel_rfl) (fun _ _ _ h => h) (by rfl) (⟨(World.cell?_alloc_lt w _ _ (World.block_lt_of_cell? w _ h0)).trans h0, (World.cell?_alloc_lt w _ _ (World.block_lt_of_cell? w _ h1)).trans h1, (World.cell?_alloc_lt w _ _ (World.block_lt_of_cell? w _ h2)).trans h2, (World.cell?_alloc_lt w _ _ (World.block_lt_of_cell? w _ h3)).trans h3, (World.cell?_alloc_lt w _ _ (World.block_lt_of_cell? w _ h4)).trans h4, (World.cell?_alloc_lt w _ _ (World.block_lt_of_cell? w _ h5)).trans h5, (World.cell?_alloc_lt w _ _ (World.block_lt_of_cell? w _ h6)).trans h6, (World.cell?_alloc_lt w _ _ (World.block_lt_of_cell? w _ h7)).trans h7, (World.cell?_alloc_lt w _ _ (World.block_lt_of_cell? w _ h9)).trans h9, (World.cell?_alloc_lt w _ _ (World.block_lt_of_cell? w _ h10)).trans h10, (World.cell?_alloc_lt w _ _ (World.block_lt_of_cell? w _ h11)).trans h11⟩) (v := ?_) ?_ ?_
 rotate_left
 ·(intro wy hSw; go_simp; (try simp only [e100]); go_simp; try with_reducible rfl)
 refine act_put (d := 2) (C := fun a => wpAnyH _ _ _ _ _ _ _ a _) (by rw [z0]; decide) ?_
 intro a99 z1 d1 e2 k1
 replace d0 := d1.trans d0
 clear k1 z1 d1 z0 e100
 refine wpAnyH_done (by as_aux_lemma => kernel_rfl) ?_ _
 go_wp2_with fail
 refine bodyPost_ret (results_tmp rfl _ _ _) d0 ?_
 rw [e2]
 exact ⟨rfl, heap_alloc_new w _, ((Below.refl _ _).alloc (Nat.le_refl _) _).drew⟩
end Go.Proofs.YthkglmkpnhhboaaGreatDoor
