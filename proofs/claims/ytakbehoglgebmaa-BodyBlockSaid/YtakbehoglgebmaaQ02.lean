/-
  What a call has changed, block by block; bytes laid behind a row of the call's own; what the document's Fewest tells laid so.
-/
import Derived.Test.YtakbehoglgebmaaQ01
import Derived.Test.YtakbehoglgebmaaRows
import Derived.WalkKit
import Derived.RegionTactic
import Derived.Deep.QuietTactic
import Derived.BigQuiet
import Derived.Below
import Derived.Outline
import Derived.Lib.Hide
import Derived.OwnWalk
import Derived.Laws.OwnMore
import Derived.WalkSmall
namespace Go.Proofs.Ytakbehoglgebmaa
open Go.RowKit
/-- Of the blocks that were there a call has changed those of T alone. -/
structure Mod (T : Nat → Prop) (w w' : World) : Prop where
  os : w'.os = w.os
  tape : w'.tape = w.tape
  output : w'.output = w.output
  size : w.heap.size ≤ w'.heap.size
  block : ∀ k, k < w.heap.size → ¬ T k → w'.heap[k]? = w.heap[k]?
theorem Mod.refl (T : Nat → Prop) (w : World) : Mod T w w := ⟨rfl, rfl, rfl, Nat.le_refl _, fun _ _ _ => rfl⟩
theorem Mod.trans {T T' : Nat → Prop} {a b c : World} (h : Mod T a b) (h' : Mod T' b c) (hs : ∀ k, k < a.heap.size → T' k → T k) : Mod T a c :=
  ⟨h'.os.trans h.os, h'.tape.trans h.tape, h'.output.trans h.output, Nat.le_trans h.size h'.size, fun k hk ht =>
    (h'.block k (Nat.lt_of_lt_of_le hk h.size) (fun ht' => ht (hs k hk ht'))).trans (h.block k hk ht)⟩
theorem Mod.more {T T' : Nat → Prop} {a b : World} (h : Mod T a b) (hs : ∀ k, k < a.heap.size → T k → T' k) : Mod T' a b :=
  ⟨h.os, h.tape, h.output, h.size, fun k hk ht => h.block k hk (fun ht' => ht (hs k hk ht'))⟩
theorem Mod.of_below {T : Nat → Prop} {w w' : World} (h : Below w.heap.size w w') : Mod T w w' := ⟨h.os, h.tape, h.output, h.size, fun k hk _ => h.block k hk⟩
theorem Mod.of_base {B : Nat} {w w' : World} (h : Below B w w') : Mod (B ≤ ·) w w' := ⟨h.os, h.tape, h.output, h.size, fun k _ ht => h.block k (Nat.lt_of_not_le ht)⟩
theorem Mod.of_grown {T : Nat → Prop} {w w' : World} {row : Option Nat} (h : w.grownBy w' row) (hr : ∀ k, row = some k → T k) : Mod T w w' :=
  ⟨h.os, h.tape, h.output, h.size, fun k hk ht => h.block k hk (fun e => ht (hr k e.symm))⟩
theorem Mod.below {T : Nat → Prop} {B : Nat} {w w' : World} (h : Mod T w w') (hB : B ≤ w.heap.size) (ht : ∀ k, k < B → ¬ T k) : Below B w w' :=
  ⟨h.os, h.tape, h.output, h.size, fun k hk => h.block k (by omega) (ht k hk)⟩
theorem Mod.none {w w' : World} (h : Mod (fun _ => False) w w') : Below w.heap.size w w' := h.below (Nat.le_refl _) (fun _ _ h => h)
theorem Mod.heap {T : Nat → Prop} {w w' : World} (h : Mod T w w') {k : Nat} {o : Obj} (hk : w.heap[k]? = some o) (ht : ¬ T k) : w'.heap[k]? = some o :=
  (h.block k (Array.getElem?_eq_some_iff.1 hk).1 ht).trans hk
theorem Mod.cell {T : Nat → Prop} {w w' : World} (h : Mod T w w') {a : Addr} {v : Value} (hk : w.cell? a = some v) (ht : ¬ T a.block) : w'.cell? a = some v :=
  (World.cell?_of_block (h.block a.block (World.block_lt_of_cell? w a hk) ht)).trans hk
theorem Mod.own {T : Nat → Prop} {w w' : World} (h : Mod T w w') {base e size n : Nat} {v : Value} {xs : List Value} (ho : w.ownsRow base e size v n xs) (ht : ∀ k, v.ownBlock = some k → ¬ T k) : w'.ownsRow base e size v n xs := by
  refine ⟨ho.1, ?_⟩
  rcases ho.2 with hn | ⟨g, cap, cur, rfl, hb, hgg, rest⟩
  · exact .inl hn
  · exact .inr ⟨g, cap, cur, rfl, hb, h.heap hgg (ht g rfl), rest⟩
theorem Mod.has {T : Nat → Prop} {w w' : World} (h : Mod T w w') {B : Nat} {A : Option Addr} {l : List UInt8} (hA : Has w B A l) (ht : ∀ k, k < B → ¬ T k) : Has w' B A l := fun k x hx => by
  obtain ⟨ad, h1, h2, h3⟩ := hA k x hx
  have hb : (ad.add k).block = ad.block := by unfold Addr.add; split <;> rfl
  exact ⟨ad, h1, h2, h.cell h3 (by rw [hb]; exact ht _ h2)⟩
theorem Mod.alloc {T : Nat → Prop} {a w : World} (h : Mod T a w) (o : Obj) : Mod T a (w.alloc o) := h.trans (T' := fun _ => False) (Mod.of_below ((Below.refl _ _).alloc (Nat.le_refl _) o)) (fun _ _ h => h.elim)
theorem Mod.setCell {T : Nat → Prop} {a w : World} (h : Mod T a w) {p : Addr} (hp : p.block < a.heap.size → T p.block) (u : Value) : Mod T a (w.setCell p u) :=
  h.trans (T' := fun k => k = p.block) ⟨rfl, rfl, rfl, by simp [World.setCell], fun k _ ht => Below.heap_setCell _ _ _ _ ht⟩ (fun k hk e => by subst e; exact hp hk)
theorem Mod.drewN {T : Nat → Prop} {a w : World} (h : Mod T a w) (n : Nat) : Mod T a (w.drewN n) := ⟨h.os, h.tape, h.output, h.size, h.block⟩
theorem Mod.drew {T : Nat → Prop} {a w : World} (h : Mod T a w) : Mod T a w.drew := ⟨h.os, h.tape, h.output, h.size, h.block⟩
theorem own_lt {w : World} {base e size n : Nat} {v : Value} {xs : List Value} (h : w.ownsRow base e size v n xs) : ∀ k, v.ownBlock = some k → k < w.heap.size := fun k hk => (h.lt k hk).2
theorem own_base {w : World} {base base' e size n : Nat} {v : Value} {xs : List Value} (h : w.ownsRow base e size v n xs) (hb : base' ≤ base) : w.ownsRow base' e size v n xs :=
  ⟨h.1, h.2.imp id (fun ⟨g, cap, cur, a, b, r⟩ => ⟨g, cap, cur, a, Nat.le_trans hb b, r⟩)⟩
theorem own_form {w : World} {base e size n : Nat} {v : Value} {xs : List Value} (h : w.ownsRow base e size v n xs) : ∃ A c, v = .slice A n c ∧ n ≤ c ∧ c ≤ maxLen := by
  rcases h.2 with ⟨rfl, rfl⟩ | ⟨g, cap, cur, rfl, _, _, h1, h2, _⟩
  · exact ⟨none, 0, rfl, Nat.le_refl _, by unfold maxLen; omega⟩
  · exact ⟨_, cap, rfl, h1, h2⟩
theorem own_form1 {w : World} {base e size n : Nat} {v : Value} {xs : List Value} (h : w.ownsRow base e size v n xs) (hn : 0 < n) : ∃ g c, v = .slice (some ⟨g, 0, none⟩) n c ∧ n ≤ c ∧ c ≤ maxLen ∧ base ≤ g := by
  rcases h.2 with ⟨rfl, rfl⟩ | ⟨g, cap, cur, rfl, hb, _, h1, h2, _⟩
  · omega
  · exact ⟨g, cap, rfl, h1, h2, hb⟩
/-- An append leaves the row where it was, or lays a new one. -/
theorem append_tight {P : Program} (w : World) (base : Nat) (t ty e : TypeId) (i : TypeInfo) (z : Value) (size bytes : Nat) (ht : P.underlying t = some (.slice e)) (hi : P.info? e = some i) (hz : i.zero = some z)
    (hsize : i.size = size) (hby : i.bytes = bytes) (v : Value) (n : Nat) (xs : List Value) (hown : w.ownsRow base e size v n xs)
    (a : Addr) (m c : Nat) (news : List Value) (hl : news.length = m * size) (hnews : ∀ j u, news[j]? = some u → w.cell? (a.add j) = some u) (h1 : ∀ u ∈ news, u.oneCell' = true) (hm : 0 < m)
    (h63 : n + m ≤ maxLen) (hbytes : (n + m) * bytes ≤ 140737488355328) {v' : Value} {w' : World} (hrun : (Builtin.append_ #[t, t] ty #[v, .slice (some a) m c]).run P w = .ok v' w') :
    ∀ g, v'.ownBlock = some g → v.ownBlock = some g ∨ w.heap.size ≤ g := by
  subst hsize
  subst hby
  have hsmall : n + m ≤ 9223372036854775807 := by simp only [maxLen] at h63; omega
  intro g' hg'
  rcases hown.2 with ⟨rfl, rfl⟩ | ⟨g, cap, cur, rfl, hbg, hg, hnc, hcm, hcs, htake⟩
  · have hr := Go.run_append_nil (P := P) w t ty e i z ht hi hz a m c news hl hnews hm (by omega) (by have hb := hbytes; simp only [Nat.zero_add] at hb; omega)
    rw [hr] at hrun
    injection hrun with h1 h2
    subst h1
    simp [Value.ownBlock] at hg'
    omega
  · by_cases hroom : n + m ≤ cap
    · have hfit : n * i.size + news.length ≤ cur.size := by rw [hl, hcs, ← Nat.add_mul]; exact Nat.mul_le_mul_right _ hroom
      have hr := run_append_room (P := P) w t ty e i ht hi g n cap cur hg a m c news hl hnews h1 hroom hfit
      rw [hr] at hrun
      injection hrun with h1 h2
      subst h1
      exact .inl hg'
    · have holds : ∀ j u, xs[j]? = some u → w.cell? ((⟨g, 0, none⟩ : Addr).add j) = some u := hown.cells (g := g) rfl
      have hr := run_append_grow (P := P) w t ty e i z ht hi hz ⟨g, 0, none⟩ n cap xs hown.1 holds a m c news hl hnews (by omega) (by omega) (growslice_fits (by omega) hbytes)
      rw [hr] at hrun
      injection hrun with h1 h2
      subst h1
      simp [Value.ownBlock] at hg'
      omega
/-- From one world to another a row of bytes of the call's own has become another one: that row alone has changed, or a new one is laid. -/
def Adds (base : Nat) (w : World) (v : Value) (w' : World) (v' : Value) (l' : List UInt8) : Prop :=
  w'.ownsRow base 5 1 v' l'.length (bytesOf l') ∧ Mod (fun g => v.ownBlock = some g) w w' ∧ ∀ g, v'.ownBlock = some g → v.ownBlock = some g ∨ w.heap.size ≤ g
theorem Adds.trans {base : Nat} {w w1 w2 : World} {v v1 v2 : Value} {l1 l2 : List UInt8} (h : Adds base w v w1 v1 l1) (h2 : Adds base w1 v1 w2 v2 l2) : Adds base w v w2 v2 l2 := by
  refine ⟨h2.1, h.2.1.trans h2.2.1 (fun g hg h3 => ?_), fun g hg => ?_⟩
  · rcases h.2.2 g h3 with h4 | h4
    · exact h4
    · omega
  · rcases h2.2.2 g hg with h3 | h3
    · exact h.2.2 g h3
    · have := h.2.1.size
      exact .inr (by omega)
/-- A call that leaves all as it was comes ahead. -/
theorem Adds.behind {base : Nat} {w w1 w2 : World} {v v2 : Value} {l2 : List UInt8} (hb : Below w.heap.size w w1) (h2 : Adds base w1 v w2 v2 l2) : Adds base w v w2 v2 l2 := by
  refine ⟨h2.1, (Mod.of_below hb).trans h2.2.1 (fun g _ h3 => h3), fun g hg => ?_⟩
  rcases h2.2.2 g hg with h3 | h3
  · exact .inl h3
  · have := hb.size
    exact .inr (by omega)
theorem Adds.below {base : Nat} {w w' : World} {v v' : Value} {l' : List UInt8} (h : Adds base w v w' v' l') (hv : ∀ g, v.ownBlock = some g → base ≤ g) (hb : base ≤ w.heap.size) : Below base w w' := h.2.1.below hb (fun k hk e => by have := hv k e; omega)
/-- What a call that lays bytes behind a row comes to. -/
def PutPost (base : Nat) (v : Value) (l' : List UInt8) (w : World) (e : Ending) (w' : World) : Prop := ∃ v', e = .returned v' ∧ Adds base w v w' v' l'
set_option maxRecDepth 100000 in
theorem appends_has (w : World) (base n m c : Nat) (v : Value) (l1 l2 : List UInt8) (A : Option Addr) (hown : w.ownsRow base 5 1 v n (bytesOf l1)) (hA : Has w w.heap.size A l2) (hm : m = l2.length) (hsz : n + m ≤ 140737488355328) (hb : base ≤ w.heap.size) :
    ∃ v' w', (Builtin.append_ #[34, 34] 34 #[v, .slice A m c]).run Try.prog w = .ok v' w' ∧ w'.ownsRow base 5 1 v' (n + m) (bytesOf (l1 ++ l2)) ∧ Mod (fun g => v.ownBlock = some g) w w' ∧ ∀ g, v'.ownBlock = some g → v.ownBlock = some g ∨ w.heap.size ≤ g := by
  obtain ⟨i0, hi, hz0, hz1, hz2⟩ := info_parts info5
  by_cases h0 : l2 = []
  · subst h0
    have hm0 : m = 0 := hm
    subst hm0
    cases A with
    | none => exact ⟨v, w, run_append_nil w base n c v _ hown, by simpa using hown, Mod.refl _ _, fun g hg => .inl hg⟩
    | some a =>
      obtain ⟨v', w', hrun, h2, h3, h4⟩ := run_append_own (P := Try.prog) w base 34 34 5 i0 (.int .u8 0) 1 1 und22 hi hz0 hz1 hz2 rfl (by decide) v n (bytesOf l1) hown a 0 c [] rfl (fun j u h => by simp at h) (by simp) (by unfold maxLen; omega) (by omega) hb
      refine ⟨v', w', hrun, by simpa using h2, Mod.of_grown h3 (fun _ h => h), fun g hg => ?_⟩
      rcases hown.2 with ⟨rfl, rfl⟩ | ⟨g0, cap, cur, rfl, hbg, hg0, hnc, hcm, hcs, htake⟩
      · have := h4.2 ⟨rfl, rfl⟩
        subst this
        exact .inl hg
      · have hr := run_append_room (P := Try.prog) w 34 34 5 i0 und22 hi g0 n cap cur hg0 a 0 c [] (by simp) (fun j u h => by simp at h) (by simp) (by omega) (by simp [hz1]; omega)
        rw [hr] at hrun
        injection hrun with h1 h2
        subst h1
        exact .inl hg
  · cases A with
    | none =>
      exfalso
      cases l2 with
      | nil => exact h0 rfl
      | cons x r =>
        obtain ⟨ad, h, _⟩ := hA 0 x (by simp)
        cases h
    | some a =>
      have hl : 0 < m := by rw [hm]; exact List.length_pos_iff.2 h0
      have hnews : ∀ j u, (bytesOf l2)[j]? = some u → w.cell? (a.add j) = some u := by
        intro j u hu
        have h0 : 0 < (bytesOf l2).length := by have := (List.getElem?_eq_some_iff.1 hu).1; omega
        obtain ⟨ad, h, hc⟩ := hA.cells h0
        injection h with h
        subst h
        exact hc j u hu
      obtain ⟨v', w', hrun, h2, h3, _⟩ := run_append_own (P := Try.prog) w base 34 34 5 i0 (.int .u8 0) 1 1 und22 hi hz0 hz1 hz2 rfl (by decide) v n (bytesOf l1) hown a m c (bytesOf l2) (by rw [bytesOf_length, Nat.mul_one, hm]) hnews (bytesOf_one l2) (by unfold maxLen; omega) (by omega) hb
      exact ⟨v', w', hrun, by rw [bytesOf_append]; exact h2, Mod.of_grown h3 (fun _ h => h), append_tight (P := Try.prog) w base 34 34 5 i0 (.int .u8 0) 1 1 und22 hi hz0 hz1 hz2 v n (bytesOf l1) hown a m c (bytesOf l2) (by rw [bytesOf_length, Nat.mul_one, hm]) hnews (bytesOf_one l2) hl (by unfold maxLen; omega) (by omega) hrun⟩
theorem appends_adds (w : World) (base m c : Nat) (v : Value) (l1 l2 : List UInt8) (A : Option Addr) (hown : w.ownsRow base 5 1 v l1.length (bytesOf l1)) (hA : Has w w.heap.size A l2) (hm : m = l2.length) (hsz : l1.length + l2.length ≤ 140737488355328) (hb : base ≤ w.heap.size) :
    ∃ v' w', (Builtin.append_ #[34, 34] 34 #[v, .slice A m c]).run Try.prog w = .ok v' w' ∧ Adds base w v w' v' (l1 ++ l2) := by
  obtain ⟨v', w', h1, h2, h3, h4⟩ := appends_has w base l1.length m c v l1 l2 A hown hA hm (by omega) hb
  exact ⟨v', w', h1, by rw [List.length_append, ← hm]; exact h2, h3, h4⟩
theorem append1_adds (w : World) (base : Nat) (v : Value) (l : List UInt8) (x : UInt8) (hown : w.ownsRow base 5 1 v l.length (bytesOf l)) (hsz : l.length + 1 ≤ 140737488355328) (hb : base ≤ w.heap.size) :
    ∃ v' w', (Builtin.append_ #[34, 34] 34 #[v, .slice (some ⟨w.heap.size, 0, none⟩) 1 1]).run Try.prog (w.alloc (.cells #[.int .u8 (x.toNat : Int)] 5)) = .ok v' w' ∧ Adds base w v w' v' (l ++ [x]) := by
  have hlit : Has (w.alloc (.cells #[.int .u8 (x.toNat : Int)] 5)) (w.heap.size + 1) (some ⟨w.heap.size, 0, none⟩) [x] := Has.lit w [x] 5
  obtain ⟨v', w', h1, h2⟩ := appends_adds _ base 1 1 v l [x] _ (hown.alloc _) (hlit.more (by simp)) rfl (by simpa using hsz) (by simp; omega)
  exact ⟨v', w', h1, Adds.behind ((Below.refl _ _).alloc (Nat.le_refl _) _) h2⟩
theorem cells_new (w : World) (cs : List Value) (t : TypeId) : ∀ (j : Nat) (u : Value), cs[j]? = some u → (w.alloc (.cells cs.toArray t)).cell? ((⟨w.heap.size, 0, none⟩ : Addr).add j) = some u := by
  intro j u h
  have e2 : (⟨w.heap.size, 0, none⟩ : Addr).add j = ⟨w.heap.size, j, none⟩ := by
    unfold Addr.add; split <;> simp_all
  rw [e2, World.cell?_alloc_new]
  simpa using h
theorem own_sl {w : World} {base n : Nat} {e : TypeId} {v : Value} {l : List UInt8} (h : w.ownsRow base e 1 v n (bytesOf l)) : ∃ (A : Option Addr) (c : Nat), v = .slice A n c ∧ n = l.length ∧ n ≤ c ∧ c ≤ maxLen ∧ (A = none → c = 0) ∧ Has w w.heap.size A l := by
  obtain ⟨A, c, rfl, h1, h2, h3⟩ := Has.own h
  refine ⟨A, c, rfl, h2, h1, ?_, ?_, h3⟩
  · rcases h.2 with ⟨h, _⟩ | ⟨g, cap, cur, h, _, _, _, hcm, _⟩
    · injection h with _ _ h; omega
    · injection h with _ _ h; omega
  · rintro rfl
    rcases h.2 with ⟨h, _⟩ | ⟨g, cap, cur, h, _⟩
    · injection h
    · injection h with h _ _; cases h
end Go.Proofs.Ytakbehoglgebmaa
/-
  The document's table of opcodes as data; what the program's functions tell of an opcode, as plain functions; that both are one, by reckoning over all 256.
-/

namespace Opc
/-- An opcode's row: its number, its name, what stands behind it, what it takes and gives, of how many bytes it is. -/
structure Row where
  op : Nat
  name : List UInt8
  form : Nat
  sig : List UInt8
  width : Nat
deriving DecidableEq
def low : List Row := [
  ⟨0, [117, 110, 114, 101, 97, 99, 104, 97, 98, 108, 101], 0, [45], 0⟩,
  ⟨1, [110, 111, 112], 0, [45], 0⟩,
  ⟨2, [98, 108, 111, 99, 107], 1, [45], 0⟩,
  ⟨3, [108, 111, 111, 112], 1, [45], 0⟩,
  ⟨4, [105, 102], 1, [45], 0⟩,
  ⟨5, [101, 108, 115, 101], 0, [45], 0⟩,
  ⟨11, [101, 110, 100], 0, [45], 0⟩,
  ⟨12, [98, 114], 2, [45], 0⟩,
  ⟨13, [98, 114, 95, 105, 102], 2, [45], 0⟩,
  ⟨14, [98, 114, 95, 116, 97, 98, 108, 101], 3, [45], 0⟩,
  ⟨15, [114, 101, 116, 117, 114, 110], 0, [45], 0⟩,
  ⟨16, [99, 97, 108, 108], 4, [45], 0⟩,
  ⟨17, [99, 97, 108, 108, 95, 105, 110, 100, 105, 114, 101, 99, 116], 5, [45], 0⟩,
  ⟨26, [100, 114, 111, 112], 0, [45], 0⟩,
  ⟨27, [115, 101, 108, 101, 99, 116], 0, [45], 0⟩,
  ⟨32, [108, 111, 99, 97, 108, 46, 103, 101, 116], 4, [45], 0⟩,
  ⟨33, [108, 111, 99, 97, 108, 46, 115, 101, 116], 4, [45], 0⟩,
  ⟨34, [108, 111, 99, 97, 108, 46, 116, 101, 101], 4, [45], 0⟩,
  ⟨35, [103, 108, 111, 98, 97, 108, 46, 103, 101, 116], 4, [45], 0⟩,
  ⟨36, [103, 108, 111, 98, 97, 108, 46, 115, 101, 116], 4, [45], 0⟩,
  ⟨40, [105, 51, 50, 46, 108, 111, 97, 100], 6, [105, 62, 105], 4⟩,
  ⟨41, [105, 54, 52, 46, 108, 111, 97, 100], 6, [105, 62, 73], 8⟩,
  ⟨44, [105, 51, 50, 46, 108, 111, 97, 100, 56, 95, 115], 6, [105, 62, 105], 1⟩,
  ⟨45, [105, 51, 50, 46, 108, 111, 97, 100, 56, 95, 117], 6, [105, 62, 105], 1⟩,
  ⟨46, [105, 51, 50, 46, 108, 111, 97, 100, 49, 54, 95, 115], 6, [105, 62, 105], 2⟩,
  ⟨47, [105, 51, 50, 46, 108, 111, 97, 100, 49, 54, 95, 117], 6, [105, 62, 105], 2⟩,
  ⟨48, [105, 54, 52, 46, 108, 111, 97, 100, 56, 95, 115], 6, [105, 62, 73], 1⟩,
  ⟨49, [105, 54, 52, 46, 108, 111, 97, 100, 56, 95, 117], 6, [105, 62, 73], 1⟩,
  ⟨50, [105, 54, 52, 46, 108, 111, 97, 100, 49, 54, 95, 115], 6, [105, 62, 73], 2⟩,
  ⟨51, [105, 54, 52, 46, 108, 111, 97, 100, 49, 54, 95, 117], 6, [105, 62, 73], 2⟩,
  ⟨52, [105, 54, 52, 46, 108, 111, 97, 100, 51, 50, 95, 115], 6, [105, 62, 73], 4⟩,
  ⟨53, [105, 54, 52, 46, 108, 111, 97, 100, 51, 50, 95, 117], 6, [105, 62, 73], 4⟩,
  ⟨54, [105, 51, 50, 46, 115, 116, 111, 114, 101], 6, [105, 105, 62], 4⟩,
  ⟨55, [105, 54, 52, 46, 115, 116, 111, 114, 101], 6, [105, 73, 62], 8⟩,
  ⟨58, [105, 51, 50, 46, 115, 116, 111, 114, 101, 56], 6, [105, 105, 62], 1⟩,
  ⟨59, [105, 51, 50, 46, 115, 116, 111, 114, 101, 49, 54], 6, [105, 105, 62], 2⟩,
  ⟨60, [105, 54, 52, 46, 115, 116, 111, 114, 101, 56], 6, [105, 73, 62], 1⟩,
  ⟨61, [105, 54, 52, 46, 115, 116, 111, 114, 101, 49, 54], 6, [105, 73, 62], 2⟩,
  ⟨62, [105, 54, 52, 46, 115, 116, 111, 114, 101, 51, 50], 6, [105, 73, 62], 4⟩,
  ⟨63, [109, 101, 109, 111, 114, 121, 46, 115, 105, 122, 101], 7, [62, 105], 0⟩,
  ⟨64, [109, 101, 109, 111, 114, 121, 46, 103, 114, 111, 119], 7, [105, 62, 105], 0⟩,
  ⟨65, [105, 51, 50, 46, 99, 111, 110, 115, 116], 8, [62, 105], 0⟩,
  ⟨66, [105, 54, 52, 46, 99, 111, 110, 115, 116], 9, [62, 73], 0⟩]
def middle : List Row := [
  ⟨69, [105, 51, 50, 46, 101, 113, 122], 0, [105, 62, 105], 0⟩,
  ⟨70, [105, 51, 50, 46, 101, 113], 0, [105, 105, 62, 105], 0⟩,
  ⟨71, [105, 51, 50, 46, 110, 101], 0, [105, 105, 62, 105], 0⟩,
  ⟨72, [105, 51, 50, 46, 108, 116, 95, 115], 0, [105, 105, 62, 105], 0⟩,
  ⟨73, [105, 51, 50, 46, 108, 116, 95, 117], 0, [105, 105, 62, 105], 0⟩,
  ⟨74, [105, 51, 50, 46, 103, 116, 95, 115], 0, [105, 105, 62, 105], 0⟩,
  ⟨75, [105, 51, 50, 46, 103, 116, 95, 117], 0, [105, 105, 62, 105], 0⟩,
  ⟨76, [105, 51, 50, 46, 108, 101, 95, 115], 0, [105, 105, 62, 105], 0⟩,
  ⟨77, [105, 51, 50, 46, 108, 101, 95, 117], 0, [105, 105, 62, 105], 0⟩,
  ⟨78, [105, 51, 50, 46, 103, 101, 95, 115], 0, [105, 105, 62, 105], 0⟩,
  ⟨79, [105, 51, 50, 46, 103, 101, 95, 117], 0, [105, 105, 62, 105], 0⟩,
  ⟨80, [105, 54, 52, 46, 101, 113, 122], 0, [73, 62, 105], 0⟩,
  ⟨81, [105, 54, 52, 46, 101, 113], 0, [73, 73, 62, 105], 0⟩,
  ⟨82, [105, 54, 52, 46, 110, 101], 0, [73, 73, 62, 105], 0⟩,
  ⟨83, [105, 54, 52, 46, 108, 116, 95, 115], 0, [73, 73, 62, 105], 0⟩,
  ⟨84, [105, 54, 52, 46, 108, 116, 95, 117], 0, [73, 73, 62, 105], 0⟩,
  ⟨85, [105, 54, 52, 46, 103, 116, 95, 115], 0, [73, 73, 62, 105], 0⟩,
  ⟨86, [105, 54, 52, 46, 103, 116, 95, 117], 0, [73, 73, 62, 105], 0⟩,
  ⟨87, [105, 54, 52, 46, 108, 101, 95, 115], 0, [73, 73, 62, 105], 0⟩,
  ⟨88, [105, 54, 52, 46, 108, 101, 95, 117], 0, [73, 73, 62, 105], 0⟩,
  ⟨89, [105, 54, 52, 46, 103, 101, 95, 115], 0, [73, 73, 62, 105], 0⟩,
  ⟨90, [105, 54, 52, 46, 103, 101, 95, 117], 0, [73, 73, 62, 105], 0⟩,
  ⟨103, [105, 51, 50, 46, 99, 108, 122], 0, [105, 62, 105], 0⟩,
  ⟨104, [105, 51, 50, 46, 99, 116, 122], 0, [105, 62, 105], 0⟩,
  ⟨105, [105, 51, 50, 46, 112, 111, 112, 99, 110, 116], 0, [105, 62, 105], 0⟩,
  ⟨106, [105, 51, 50, 46, 97, 100, 100], 0, [105, 105, 62, 105], 0⟩,
  ⟨107, [105, 51, 50, 46, 115, 117, 98], 0, [105, 105, 62, 105], 0⟩,
  ⟨108, [105, 51, 50, 46, 109, 117, 108], 0, [105, 105, 62, 105], 0⟩,
  ⟨109, [105, 51, 50, 46, 100, 105, 118, 95, 115], 0, [105, 105, 62, 105], 0⟩,
  ⟨110, [105, 51, 50, 46, 100, 105, 118, 95, 117], 0, [105, 105, 62, 105], 0⟩,
  ⟨111, [105, 51, 50, 46, 114, 101, 109, 95, 115], 0, [105, 105, 62, 105], 0⟩,
  ⟨112, [105, 51, 50, 46, 114, 101, 109, 95, 117], 0, [105, 105, 62, 105], 0⟩,
  ⟨113, [105, 51, 50, 46, 97, 110, 100], 0, [105, 105, 62, 105], 0⟩,
  ⟨114, [105, 51, 50, 46, 111, 114], 0, [105, 105, 62, 105], 0⟩,
  ⟨115, [105, 51, 50, 46, 120, 111, 114], 0, [105, 105, 62, 105], 0⟩,
  ⟨116, [105, 51, 50, 46, 115, 104, 108], 0, [105, 105, 62, 105], 0⟩,
  ⟨117, [105, 51, 50, 46, 115, 104, 114, 95, 115], 0, [105, 105, 62, 105], 0⟩,
  ⟨118, [105, 51, 50, 46, 115, 104, 114, 95, 117], 0, [105, 105, 62, 105], 0⟩,
  ⟨119, [105, 51, 50, 46, 114, 111, 116, 108], 0, [105, 105, 62, 105], 0⟩,
  ⟨120, [105, 51, 50, 46, 114, 111, 116, 114], 0, [105, 105, 62, 105], 0⟩]
def high : List Row := [
  ⟨121, [105, 54, 52, 46, 99, 108, 122], 0, [73, 62, 73], 0⟩,
  ⟨122, [105, 54, 52, 46, 99, 116, 122], 0, [73, 62, 73], 0⟩,
  ⟨123, [105, 54, 52, 46, 112, 111, 112, 99, 110, 116], 0, [73, 62, 73], 0⟩,
  ⟨124, [105, 54, 52, 46, 97, 100, 100], 0, [73, 73, 62, 73], 0⟩,
  ⟨125, [105, 54, 52, 46, 115, 117, 98], 0, [73, 73, 62, 73], 0⟩,
  ⟨126, [105, 54, 52, 46, 109, 117, 108], 0, [73, 73, 62, 73], 0⟩,
  ⟨127, [105, 54, 52, 46, 100, 105, 118, 95, 115], 0, [73, 73, 62, 73], 0⟩,
  ⟨128, [105, 54, 52, 46, 100, 105, 118, 95, 117], 0, [73, 73, 62, 73], 0⟩,
  ⟨129, [105, 54, 52, 46, 114, 101, 109, 95, 115], 0, [73, 73, 62, 73], 0⟩,
  ⟨130, [105, 54, 52, 46, 114, 101, 109, 95, 117], 0, [73, 73, 62, 73], 0⟩,
  ⟨131, [105, 54, 52, 46, 97, 110, 100], 0, [73, 73, 62, 73], 0⟩,
  ⟨132, [105, 54, 52, 46, 111, 114], 0, [73, 73, 62, 73], 0⟩,
  ⟨133, [105, 54, 52, 46, 120, 111, 114], 0, [73, 73, 62, 73], 0⟩,
  ⟨134, [105, 54, 52, 46, 115, 104, 108], 0, [73, 73, 62, 73], 0⟩,
  ⟨135, [105, 54, 52, 46, 115, 104, 114, 95, 115], 0, [73, 73, 62, 73], 0⟩,
  ⟨136, [105, 54, 52, 46, 115, 104, 114, 95, 117], 0, [73, 73, 62, 73], 0⟩,
  ⟨137, [105, 54, 52, 46, 114, 111, 116, 108], 0, [73, 73, 62, 73], 0⟩,
  ⟨138, [105, 54, 52, 46, 114, 111, 116, 114], 0, [73, 73, 62, 73], 0⟩,
  ⟨167, [105, 51, 50, 46, 119, 114, 97, 112, 95, 105, 54, 52], 0, [73, 62, 105], 0⟩,
  ⟨172, [105, 54, 52, 46, 101, 120, 116, 101, 110, 100, 95, 105, 51, 50, 95, 115], 0, [105, 62, 73], 0⟩,
  ⟨173, [105, 54, 52, 46, 101, 120, 116, 101, 110, 100, 95, 105, 51, 50, 95, 117], 0, [105, 62, 73], 0⟩]
def none : Row := ⟨0, [], 0, [], 0⟩
def part (n : Nat) : List Row := if n < 69 then low else if n < 121 then middle else high
def row? (n : Nat) : Option Row := (part n).find? fun r => r.op == n
def row (n : Nat) : Row := (row? n).getD none
def within (x a b : Int) : Bool := decide (a ≤ x) && decide (x ≤ b)
def float (x : Int) : Bool := x == 42 || x == 43 || x == 56 || x == 57 || x == 67 || x == 68 || within x 91 102 || within x 139 166 || within x 168 171 || within x 174 191
def known (x : Int) : Bool := if within x 40 191 then !float x else within x 0 5 || within x 11 17 || within x 26 27 || within x 32 36
def width (x : Int) : Int :=
  if x = 44 ∨ x = 45 ∨ x = 48 ∨ x = 49 ∨ x = 58 ∨ x = 60 then 1
  else if x = 46 ∨ x = 47 ∨ x = 50 ∨ x = 51 ∨ x = 59 ∨ x = 61 then 2
  else if x = 40 ∨ x = 52 ∨ x = 53 ∨ x = 54 ∨ x = 62 then 4
  else if x = 41 ∨ x = 55 then 8 else 0
def form (x : Int) : Int :=
  if x = 2 ∨ x = 3 ∨ x = 4 then 1
  else if x = 12 ∨ x = 13 then 2
  else if x = 14 then 3
  else if x = 16 ∨ x = 32 ∨ x = 33 ∨ x = 34 ∨ x = 35 ∨ x = 36 then 4
  else if x = 17 then 5
  else if x = 63 ∨ x = 64 then 7
  else if x = 65 then 8
  else if x = 66 then 9
  else if 0 < width x then 6 else 0
def typeOf (x : Int) : Int :=
  if x = 41 ∨ x = 48 ∨ x = 49 ∨ x = 50 ∨ x = 51 ∨ x = 52 ∨ x = 53 ∨ x = 55 ∨ x = 60 ∨ x = 61 ∨ x = 62 ∨ x = 66 then 126
  else if within x 80 90 || within x 121 138 || decide (172 ≤ x) then 126 else 127
def typeU (x : Int) : UInt8 := if typeOf x = 126 then 126 else 127
def plain (x : Int) : Bool := decide (40 ≤ x) && known x
def sigP (x : Int) : List UInt8 :=
  if plain x = false then [] else
  if x ≤ 53 then [127] else if x ≤ 62 then [127, typeU x]
  else if x == 63 || x == 65 || x == 66 then []
  else if x == 69 || x == 80 then [typeU x]
  else if within x 69 90 then [typeU x, typeU x]
  else if x == 64 || within x 103 105 || within x 121 123 then [typeU x]
  else if x ≤ 138 then [typeU x, typeU x]
  else if x == 167 then [126] else [127]
def sigR (x : Int) : List UInt8 :=
  if plain x = false then [] else
  if x ≤ 53 then [typeU x] else if x ≤ 62 then []
  else if x == 63 || x == 65 || x == 66 then [typeU x]
  else if x == 69 || x == 80 then [127]
  else if within x 69 90 then [127]
  else [typeU x]
theorem typeU_toNat (x : Int) : ((typeU x).toNat : Int) = typeOf x := by
  unfold typeU
  have h : typeOf x = 126 ∨ typeOf x = 127 := by unfold typeOf; split <;> (try split) <;> simp
  rcases h with h | h <;> simp [h]
end Opc
