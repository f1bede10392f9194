/-
  What a call has changed, block by block; bytes laid behind a row of the call's own; what the document's Fewest tells laid so.
-/
import Derived.Test.YtknnkmakfcfnjaaDoorAppends
import Derived.Test.YtknnkmakfcfnjaaDoorLebRef
import Derived.Laws.OwnMore
import Derived.WalkSmall
namespace Go.Proofs.YtknnkmakfcfnjaaDoor
open Go.RowKit
/-- Of the blocks that were there a call has changed those of T alone. -/
structure Mod (T : Nat → Prop) (w w' : World) : Prop where
  os : w'.os = w.os
  tape : w'.tape = w.tape
  output : w'.output = w.output
  size : w.heap.size ≤ w'.heap.size
  block : ∀ k, k < w.heap.size → ¬ T k → w'.heap[k]? = w.heap[k]?
theorem Mod.refl (T : Nat → Prop) (w : World) : Mod T w w := ⟨rfl, rfl, rfl, Nat.le_refl _, fun _ _ _ => rfl⟩
theorem Mod.trans {T T' : Nat → Prop} {a b c : World} (h : Mod T a b) (h' : Mod T' b c) (hs : ∀ k, k < a.heap.size → T' k → T k) : Mod T a c :=
  ⟨h'.os.trans h.os, h'.tape.trans h.tape, h'.output.trans h.output, Nat.le_trans h.size h'.size, fun k hk ht =>
    (h'.block k (Nat.lt_of_lt_of_le hk h.size) (fun ht' => ht (hs k hk ht'))).trans (h.block k hk ht)⟩
theorem Mod.more {T T' : Nat → Prop} {a b : World} (h : Mod T a b) (hs : ∀ k, k < a.heap.size → T k → T' k) : Mod T' a b :=
  ⟨h.os, h.tape, h.output, h.size, fun k hk ht => h.block k hk (fun ht' => ht (hs k hk ht'))⟩
theorem Mod.of_below {T : Nat → Prop} {w w' : World} (h : Below w.heap.size w w') : Mod T w w' := ⟨h.os, h.tape, h.output, h.size, fun k hk _ => h.block k hk⟩
theorem Mod.of_base {B : Nat} {w w' : World} (h : Below B w w') : Mod (B ≤ ·) w w' := ⟨h.os, h.tape, h.output, h.size, fun k _ ht => h.block k (Nat.lt_of_not_le ht)⟩
theorem Mod.of_grown {T : Nat → Prop} {w w' : World} {row : Option Nat} (h : w.grownBy w' row) (hr : ∀ k, row = some k → T k) : Mod T w w' :=
  ⟨h.os, h.tape, h.output, h.size, fun k hk ht => h.block k hk (fun e => ht (hr k e.symm))⟩
theorem Mod.below {T : Nat → Prop} {B : Nat} {w w' : World} (h : Mod T w w') (hB : B ≤ w.heap.size) (ht : ∀ k, k < B → ¬ T k) : Below B w w' :=
  ⟨h.os, h.tape, h.output, h.size, fun k hk => h.block k (by omega) (ht k hk)⟩
theorem Mod.none {w w' : World} (h : Mod (fun _ => False) w w') : Below w.heap.size w w' := h.below (Nat.le_refl _) (fun _ _ h => h)
theorem Mod.heap {T : Nat → Prop} {w w' : World} (h : Mod T w w') {k : Nat} {o : Obj} (hk : w.heap[k]? = some o) (ht : ¬ T k) : w'.heap[k]? = some o :=
  (h.block k (Array.getElem?_eq_some_iff.1 hk).1 ht).trans hk
theorem Mod.cell {T : Nat → Prop} {w w' : World} (h : Mod T w w') {a : Addr} {v : Value} (hk : w.cell? a = some v) (ht : ¬ T a.block) : w'.cell? a = some v :=
  (World.cell?_of_block (h.block a.block (World.block_lt_of_cell? w a hk) ht)).trans hk
theorem Mod.own {T : Nat → Prop} {w w' : World} (h : Mod T w w') {base e size n : Nat} {v : Value} {xs : List Value} (ho : w.ownsRow base e size v n xs) (ht : ∀ k, v.ownBlock = some k → ¬ T k) : w'.ownsRow base e size v n xs := by
  refine ⟨ho.1, ?_⟩
  rcases ho.2 with hn | ⟨g, cap, cur, rfl, hb, hgg, rest⟩
  · exact .inl hn
  · exact .inr ⟨g, cap, cur, rfl, hb, h.heap hgg (ht g rfl), rest⟩
theorem Mod.has {T : Nat → Prop} {w w' : World} (h : Mod T w w') {B : Nat} {A : Option Addr} {l : List UInt8} (hA : Has w B A l) (ht : ∀ k, k < B → ¬ T k) : Has w' B A l := fun k x hx => by
  obtain ⟨ad, h1, h2, h3⟩ := hA k x hx
  have hb : (ad.add k).block = ad.block := by unfold Addr.add; split <;> rfl
  exact ⟨ad, h1, h2, h.cell h3 (by rw [hb]; exact ht _ h2)⟩
theorem Mod.alloc {T : Nat → Prop} {a w : World} (h : Mod T a w) (o : Obj) : Mod T a (w.alloc o) := h.trans (T' := fun _ => False) (Mod.of_below ((Below.refl _ _).alloc (Nat.le_refl _) o)) (fun _ _ h => h.elim)
theorem Mod.setCell {T : Nat → Prop} {a w : World} (h : Mod T a w) {p : Addr} (hp : p.block < a.heap.size → T p.block) (u : Value) : Mod T a (w.setCell p u) :=
  h.trans (T' := fun k => k = p.block) ⟨rfl, rfl, rfl, by simp [World.setCell], fun k _ ht => Below.heap_setCell _ _ _ _ ht⟩ (fun k hk e => by subst e; exact hp hk)
theorem Mod.drewN {T : Nat → Prop} {a w : World} (h : Mod T a w) (n : Nat) : Mod T a (w.drewN n) := ⟨h.os, h.tape, h.output, h.size, h.block⟩
theorem Mod.drew {T : Nat → Prop} {a w : World} (h : Mod T a w) : Mod T a w.drew := ⟨h.os, h.tape, h.output, h.size, h.block⟩
theorem own_lt {w : World} {base e size n : Nat} {v : Value} {xs : List Value} (h : w.ownsRow base e size v n xs) : ∀ k, v.ownBlock = some k → k < w.heap.size := fun k hk => (h.lt k hk).2
theorem own_base {w : World} {base base' e size n : Nat} {v : Value} {xs : List Value} (h : w.ownsRow base e size v n xs) (hb : base' ≤ base) : w.ownsRow base' e size v n xs :=
  ⟨h.1, h.2.imp id (fun ⟨g, cap, cur, a, b, r⟩ => ⟨g, cap, cur, a, Nat.le_trans hb b, r⟩)⟩
theorem own_base' {w : World} {base base' e size n : Nat} {v : Value} {xs : List Value} (h : w.ownsRow base e size v n xs) (hb : ∀ k, v.ownBlock = some k → base' ≤ k) : w.ownsRow base' e size v n xs :=
  ⟨h.1, by
    rcases h.2 with h | ⟨g, cap, cur, rfl, b, r⟩
    · exact .inl h
    · exact .inr ⟨g, cap, cur, rfl, hb g rfl, r⟩⟩
theorem own_form {w : World} {base e size n : Nat} {v : Value} {xs : List Value} (h : w.ownsRow base e size v n xs) : ∃ A c, v = .slice A n c ∧ n ≤ c ∧ c ≤ maxLen := by
  rcases h.2 with ⟨rfl, rfl⟩ | ⟨g, cap, cur, rfl, _, _, h1, h2, _⟩
  · exact ⟨none, 0, rfl, Nat.le_refl _, by unfold maxLen; omega⟩
  · exact ⟨_, cap, rfl, h1, h2⟩
theorem own_form1 {w : World} {base e size n : Nat} {v : Value} {xs : List Value} (h : w.ownsRow base e size v n xs) (hn : 0 < n) : ∃ g c, v = .slice (some ⟨g, 0, none⟩) n c ∧ n ≤ c ∧ c ≤ maxLen ∧ base ≤ g := by
  rcases h.2 with ⟨rfl, rfl⟩ | ⟨g, cap, cur, rfl, hb, _, h1, h2, _⟩
  · omega
  · exact ⟨g, cap, rfl, h1, h2, hb⟩
/-- An append leaves the row where it was, or lays a new one. -/
theorem append_tight {P : Program} (w : World) (base : Nat) (t ty e : TypeId) (i : TypeInfo) (z : Value) (size bytes : Nat) (ht : P.underlying t = some (.slice e)) (hi : P.info? e = some i) (hz : i.zero = some z)
    (hsize : i.size = size) (hby : i.bytes = bytes) (v : Value) (n : Nat) (xs : List Value) (hown : w.ownsRow base e size v n xs)
    (a : Addr) (m c : Nat) (news : List Value) (hl : news.length = m * size) (hnews : ∀ j u, news[j]? = some u → w.cell? (a.add j) = some u) (h1 : ∀ u ∈ news, u.oneCell' = true) (hm : 0 < m)
    (h63 : n + m ≤ maxLen) (hbytes : (n + m) * bytes ≤ 140737488355328) {v' : Value} {w' : World} (hrun : (Builtin.append_ #[t, t] ty #[v, .slice (some a) m c]).run P w = .ok v' w') :
    ∀ g, v'.ownBlock = some g → v.ownBlock = some g ∨ w.heap.size ≤ g := by
  subst hsize
  subst hby
  have hsmall : n + m ≤ 9223372036854775807 := by simp only [maxLen] at h63; omega
  intro g' hg'
  rcases hown.2 with ⟨rfl, rfl⟩ | ⟨g, cap, cur, rfl, hbg, hg, hnc, hcm, hcs, htake⟩
  · have hr := Go.run_append_nil (P := P) w t ty e i z ht hi hz a m c news hl hnews hm (by omega) (by have hb := hbytes; simp only [Nat.zero_add] at hb; omega)
    rw [hr] at hrun
    injection hrun with h1 h2
    subst h1
    simp [Value.ownBlock] at hg'
    omega
  · by_cases hroom : n + m ≤ cap
    · have hfit : n * i.size + news.length ≤ cur.size := by rw [hl, hcs, ← Nat.add_mul]; exact Nat.mul_le_mul_right _ hroom
      have hr := run_append_room (P := P) w t ty e i ht hi g n cap cur hg a m c news hl hnews h1 hroom hfit
      rw [hr] at hrun
      injection hrun with h1 h2
      subst h1
      exact .inl hg'
    · have holds : ∀ j u, xs[j]? = some u → w.cell? ((⟨g, 0, none⟩ : Addr).add j) = some u := hown.cells (g := g) rfl
      have hr := run_append_grow (P := P) w t ty e i z ht hi hz ⟨g, 0, none⟩ n cap xs hown.1 holds a m c news hl hnews (by omega) (by omega) (growslice_fits (by omega) hbytes)
      rw [hr] at hrun
      injection hrun with h1 h2
      subst h1
      simp [Value.ownBlock] at hg'
      omega
/-- From one world to another a row of bytes of the call's own has become another one: that row alone has changed, or a new one is laid. -/
def Adds (base : Nat) (w : World) (v : Value) (w' : World) (v' : Value) (l' : List UInt8) : Prop :=
  w'.ownsRow base 5 1 v' l'.length (bytesOf l') ∧ Mod (fun g => v.ownBlock = some g) w w' ∧ ∀ g, v'.ownBlock = some g → v.ownBlock = some g ∨ w.heap.size ≤ g
theorem Adds.trans {base : Nat} {w w1 w2 : World} {v v1 v2 : Value} {l1 l2 : List UInt8} (h : Adds base w v w1 v1 l1) (h2 : Adds base w1 v1 w2 v2 l2) : Adds base w v w2 v2 l2 := by
  refine ⟨h2.1, h.2.1.trans h2.2.1 (fun g hg h3 => ?_), fun g hg => ?_⟩
  · rcases h.2.2 g h3 with h4 | h4
    · exact h4
    · omega
  · rcases h2.2.2 g hg with h3 | h3
    · exact h.2.2 g h3
    · have := h.2.1.size
      exact .inr (by omega)
/-- A call that leaves all as it was comes ahead. -/
theorem Adds.behind {base : Nat} {w w1 w2 : World} {v v2 : Value} {l2 : List UInt8} (hb : Below w.heap.size w w1) (h2 : Adds base w1 v w2 v2 l2) : Adds base w v w2 v2 l2 := by
  refine ⟨h2.1, (Mod.of_below hb).trans h2.2.1 (fun g _ h3 => h3), fun g hg => ?_⟩
  rcases h2.2.2 g hg with h3 | h3
  · exact .inl h3
  · have := hb.size
    exact .inr (by omega)
theorem Adds.below {base : Nat} {w w' : World} {v v' : Value} {l' : List UInt8} (h : Adds base w v w' v' l') (hv : ∀ g, v.ownBlock = some g → base ≤ g) (hb : base ≤ w.heap.size) : Below base w w' := h.2.1.below hb (fun k hk e => by have := hv k e; omega)
/-- What a call that lays bytes behind a row comes to. -/
def PutPost (base : Nat) (v : Value) (l' : List UInt8) (w : World) (e : Ending) (w' : World) : Prop := ∃ v', e = .returned v' ∧ Adds base w v w' v' l'
set_option maxRecDepth 100000 in
theorem appends_has (w : World) (base n m c : Nat) (v : Value) (l1 l2 : List UInt8) (A : Option Addr) (hown : w.ownsRow base 5 1 v n (bytesOf l1)) (hA : Has w w.heap.size A l2) (hm : m = l2.length) (hsz : n + m ≤ 140737488355328) (hb : base ≤ w.heap.size) :
    ∃ v' w', (Builtin.append_ #[47, 47] 47 #[v, .slice A m c]).run Tryd.prog w = .ok v' w' ∧ w'.ownsRow base 5 1 v' (n + m) (bytesOf (l1 ++ l2)) ∧ Mod (fun g => v.ownBlock = some g) w w' ∧ ∀ g, v'.ownBlock = some g → v.ownBlock = some g ∨ w.heap.size ≤ g := by
  obtain ⟨i0, hi, hz0, hz1, hz2⟩ := info_parts info5
  by_cases h0 : l2 = []
  · subst h0
    have hm0 : m = 0 := hm
    subst hm0
    cases A with
    | none => exact ⟨v, w, run_append_nil w base n c v _ hown, by simpa using hown, Mod.refl _ _, fun g hg => .inl hg⟩
    | some a =>
      obtain ⟨v', w', hrun, h2, h3, h4⟩ := run_append_own (P := Tryd.prog) w base 47 47 5 i0 (.int .u8 0) 1 1 und22 hi hz0 hz1 hz2 rfl (by decide) v n (bytesOf l1) hown a 0 c [] rfl (fun j u h => by simp at h) (by simp) (by unfold maxLen; omega) (by omega) hb
      refine ⟨v', w', hrun, by simpa using h2, Mod.of_grown h3 (fun _ h => h), fun g hg => ?_⟩
      rcases hown.2 with ⟨rfl, rfl⟩ | ⟨g0, cap, cur, rfl, hbg, hg0, hnc, hcm, hcs, htake⟩
      · have := h4.2 ⟨rfl, rfl⟩
        subst this
        exact .inl hg
      · have hr := run_append_room (P := Tryd.prog) w 47 47 5 i0 und22 hi g0 n cap cur hg0 a 0 c [] (by simp) (fun j u h => by simp at h) (by simp) (by omega) (by simp [hz1]; omega)
        rw [hr] at hrun
        injection hrun with h1 h2
        subst h1
        exact .inl hg
  · cases A with
    | none =>
      exfalso
      cases l2 with
      | nil => exact h0 rfl
      | cons x r =>
        obtain ⟨ad, h, _⟩ := hA 0 x (by simp)
        cases h
    | some a =>
      have hl : 0 < m := by rw [hm]; exact List.length_pos_iff.2 h0
      have hnews : ∀ j u, (bytesOf l2)[j]? = some u → w.cell? (a.add j) = some u := by
        intro j u hu
        have h0 : 0 < (bytesOf l2).length := by have := (List.getElem?_eq_some_iff.1 hu).1; omega
        obtain ⟨ad, h, hc⟩ := hA.cells h0
        injection h with h
        subst h
        exact hc j u hu
      obtain ⟨v', w', hrun, h2, h3, _⟩ := run_append_own (P := Tryd.prog) w base 47 47 5 i0 (.int .u8 0) 1 1 und22 hi hz0 hz1 hz2 rfl (by decide) v n (bytesOf l1) hown a m c (bytesOf l2) (by rw [bytesOf_length, Nat.mul_one, hm]) hnews (bytesOf_one l2) (by unfold maxLen; omega) (by omega) hb
      exact ⟨v', w', hrun, by rw [bytesOf_append]; exact h2, Mod.of_grown h3 (fun _ h => h), append_tight (P := Tryd.prog) w base 47 47 5 i0 (.int .u8 0) 1 1 und22 hi hz0 hz1 hz2 v n (bytesOf l1) hown a m c (bytesOf l2) (by rw [bytesOf_length, Nat.mul_one, hm]) hnews (bytesOf_one l2) hl (by unfold maxLen; omega) (by omega) hrun⟩
theorem appends_adds (w : World) (base m c : Nat) (v : Value) (l1 l2 : List UInt8) (A : Option Addr) (hown : w.ownsRow base 5 1 v l1.length (bytesOf l1)) (hA : Has w w.heap.size A l2) (hm : m = l2.length) (hsz : l1.length + l2.length ≤ 140737488355328) (hb : base ≤ w.heap.size) :
    ∃ v' w', (Builtin.append_ #[47, 47] 47 #[v, .slice A m c]).run Tryd.prog w = .ok v' w' ∧ Adds base w v w' v' (l1 ++ l2) := by
  obtain ⟨v', w', h1, h2, h3, h4⟩ := appends_has w base l1.length m c v l1 l2 A hown hA hm (by omega) hb
  exact ⟨v', w', h1, by rw [List.length_append, ← hm]; exact h2, h3, h4⟩
theorem append1_adds (w : World) (base : Nat) (v : Value) (l : List UInt8) (x : UInt8) (hown : w.ownsRow base 5 1 v l.length (bytesOf l)) (hsz : l.length + 1 ≤ 140737488355328) (hb : base ≤ w.heap.size) :
    ∃ v' w', (Builtin.append_ #[47, 47] 47 #[v, .slice (some ⟨w.heap.size, 0, none⟩) 1 1]).run Tryd.prog (w.alloc (.cells #[.int .u8 (x.toNat : Int)] 5)) = .ok v' w' ∧ Adds base w v w' v' (l ++ [x]) := by
  have hlit : Has (w.alloc (.cells #[.int .u8 (x.toNat : Int)] 5)) (w.heap.size + 1) (some ⟨w.heap.size, 0, none⟩) [x] := Has.lit w [x] 5
  obtain ⟨v', w', h1, h2⟩ := appends_adds _ base 1 1 v l [x] _ (hown.alloc _) (hlit.more (by simp)) rfl (by simpa using hsz) (by simp; omega)
  exact ⟨v', w', h1, Adds.behind ((Below.refl _ _).alloc (Nat.le_refl _) _) h2⟩
theorem cells_new (w : World) (cs : List Value) (t : TypeId) : ∀ (j : Nat) (u : Value), cs[j]? = some u → (w.alloc (.cells cs.toArray t)).cell? ((⟨w.heap.size, 0, none⟩ : Addr).add j) = some u := by
  intro j u h
  have e2 : (⟨w.heap.size, 0, none⟩ : Addr).add j = ⟨w.heap.size, j, none⟩ := by
    unfold Addr.add; split <;> simp_all
  rw [e2, World.cell?_alloc_new]
  simpa using h
theorem own_sl {w : World} {base n : Nat} {e : TypeId} {v : Value} {l : List UInt8} (h : w.ownsRow base e 1 v n (bytesOf l)) : ∃ (A : Option Addr) (c : Nat), v = .slice A n c ∧ n = l.length ∧ n ≤ c ∧ c ≤ maxLen ∧ (A = none → c = 0) ∧ Has w w.heap.size A l := by
  obtain ⟨A, c, rfl, h1, h2, h3⟩ := Has.own h
  refine ⟨A, c, rfl, h2, h1, ?_, ?_, h3⟩
  · rcases h.2 with ⟨h, _⟩ | ⟨g, cap, cur, h, _, _, _, hcm, _⟩
    · injection h with _ _ h; omega
    · injection h with _ _ h; omega
  · rintro rfl
    rcases h.2 with ⟨h, _⟩ | ⟨g, cap, cur, h, _⟩
    · injection h
    · injection h with h _ _; cases h
end Go.Proofs.YtknnkmakfcfnjaaDoor
