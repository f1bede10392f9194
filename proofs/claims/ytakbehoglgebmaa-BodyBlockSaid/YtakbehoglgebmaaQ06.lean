/-
  Layer 9's program: a stack in memory; its counts, its innermost frame, what is left of its operands.
-/
import Derived.Test.YtakbehoglgebmaaQ05
import Derived.Test.YtakbehoglgebmaaQ01
import Derived.Deep.Cut
import Derived.Deep.CutRange
namespace Go.Proofs.Ytakbehoglgebmaa
open Go.RowKit Ins Bin
/-- Where a stack's labels and ends lie: in the stack's own blocks F, but those of the stack itself and its two rows. -/
def inS (F : Nat → Prop) (P : Nat) (vo vf : Value) : Nat → Prop := fun k => F k ∧ k ≠ P ∧ vo.ownBlock ≠ some k ∧ vf.ownBlock ≠ some k
/-- The stack in block P: its operands lie in the row vo, its frames in vf. -/
structure Stk (w : World) (F : Nat → Prop) (P : Nat) (s : Ty.T) (vo vf : Value) : Prop where
  blk : w.heap[P]? = some (.cells #[vo, vf, .int .i64 (s.most : Int)] 114 (0, 0))
  ops : w.ownsRow 0 5 1 vo s.ops.length (bytesOf s.ops)
  frs : OwnL 122 w 0 (inS F P vo vf) vf s.frs
  inP : F P
  inO : ∀ k, vo.ownBlock = some k → F k
  inF : ∀ k, vf.ownBlock = some k → F k
theorem own_block {w : World} {base e size n g : Nat} {v : Value} {xs : List Value} (h : w.ownsRow base e size v n xs) (hg : v.ownBlock = some g) : ∃ cur, w.heap[g]? = some (.cells cur e (0, 0)) := by
  rcases h.2 with ⟨rfl, _⟩ | ⟨g', cap, cur, rfl, _, hh, _⟩
  · cases hg
  · injection hg with hg
    subst hg
    exact ⟨cur, hh⟩
theorem OwnL.block {α : Type} [Lay α] {t : TypeId} {w : World} {base g : Nat} {S : Nat → Prop} {v : Value} {xs : List α} (h : OwnL t w base S v xs) (hg : v.ownBlock = some g) : ∃ cur, w.heap[g]? = some (.cells cur t (0, 0)) := by
  obtain ⟨ys, _, h1, _⟩ := h
  exact own_block h1 hg
section
variable {w : World} {F : Nat → Prop} {P : Nat} {s : Ty.T} {vo vf : Value}
theorem Stk.neO (h : Stk w F P s vo vf) : vo.ownBlock ≠ some P := fun e => by
  obtain ⟨cur, hc⟩ := own_block h.ops e
  rw [h.blk] at hc
  injection hc with hc
  injection hc with _ hc
  exact absurd hc (by decide)
theorem Stk.neF (h : Stk w F P s vo vf) : vf.ownBlock ≠ some P := fun e => by
  obtain ⟨cur, hc⟩ := h.frs.block e
  rw [h.blk] at hc
  injection hc with hc
  injection hc with _ hc
  exact absurd hc (by decide)
theorem Stk.neOF (h : Stk w F P s vo vf) : ∀ k, vo.ownBlock = some k → vf.ownBlock ≠ some k := fun k e1 e2 => by
  obtain ⟨c1, h1⟩ := own_block h.ops e1
  obtain ⟨c2, h2⟩ := h.frs.block e2
  rw [h1] at h2
  injection h2 with h2
  injection h2 with _ h2
  exact absurd h2 (by decide)
theorem Stk.lt (h : Stk w F P s vo vf) : P < w.heap.size := (Array.getElem?_eq_some_iff.1 h.blk).1
theorem Stk.mod {w' : World} {T : Nat → Prop} (h : Stk w F P s vo vf) (hm : Mod T w w') (ht : ∀ k, k < w.heap.size → F k → ¬ T k) : Stk w' F P s vo vf := by
  have hO := own_lt h.ops
  have hF := h.frs.lt
  exact ⟨hm.heap h.blk (ht P h.lt h.inP), hm.own h.ops (fun k hk => ht k (hO k hk) (h.inO k hk)), h.frs.mod hm (fun k hk => ht k (hF k hk).2 (h.inF k hk)) (fun k hk hs => ht k hk hs.1), h.inP, h.inO, h.inF⟩
theorem Stk.on {w' : World} (h : Stk w F P s vo vf) (hb : Below w.heap.size w w') : Stk w' F P s vo vf := h.mod (T := fun _ => False) (Mod.of_below hb) (fun _ _ _ h => h)
theorem Stk.more {F' : Nat → Prop} (h : Stk w F P s vo vf) (hf : ∀ k, F k → F' k) : Stk w F' P s vo vf :=
  ⟨h.blk, h.ops, h.frs.more (fun _ _ hs => ⟨hf _ hs.1, hs.2⟩), hf _ h.inP, fun k e => hf _ (h.inO k e), fun k e => hf _ (h.inF k e)⟩
theorem Stk.cell0 (h : Stk w F P s vo vf) : w.cell? ⟨P, 0, none⟩ = some vo := by rw [cell_of_row w P 0 _ _ (0, 0) h.blk]; rfl
theorem Stk.cell1 (h : Stk w F P s vo vf) : w.cell? ⟨P, 1, none⟩ = some vf := by rw [cell_of_row w P 1 _ _ (0, 0) h.blk]; rfl
theorem Stk.cell2 (h : Stk w F P s vo vf) : w.cell? ⟨P, 2, none⟩ = some (.int .i64 (s.most : Int)) := by rw [cell_of_row w P 2 _ _ (0, 0) h.blk]; rfl
theorem Stk.frozen (h : Stk w F P s vo vf) (j : Nat) : w.frozen? ⟨P, j, none⟩ = false := frozen_of_row w P j _ _ h.blk
/-- Operands are left. -/
theorem Stk.leave {A : Option Addr} {m c n : Nat} (h : Stk w F P s (.slice A m c) vf) (hm : m = s.ops.length) (hn : n ≤ s.ops.length) : Stk (w.setCell ⟨P, 0, none⟩ (.slice A n c)) F P (s.cutTo n) (.slice A n c) vf := by
  subst hm
  have hM : Mod (· = P) w (w.setCell ⟨P, 0, none⟩ (.slice A n c)) := Mod.setCell (T := (· = P)) (Mod.refl _ w) (fun _ => rfl) _
  have hO : w.ownsRow 0 5 1 (.slice A n c) (s.cutTo n).ops.length (bytesOf (s.cutTo n).ops) := by
    have := own_cut h.ops hn
    rw [show (s.cutTo n).ops.length = n by simp [Ty.T.cutTo]; omega]
    exact this
  have e : (Value.slice A n c).ownBlock = (Value.slice A s.ops.length c).ownBlock := by cases A <;> rfl
  have hn1 := h.neO
  have hn2 := h.neF
  refine ⟨?_, hM.own hO (fun g hg e' => hn1 (by rw [← e, hg, e'])), ?_, h.inP, fun k hk => h.inO k (by rw [← e]; exact hk), h.inF⟩
  · rw [heap_setCell_same w P 0 _ _ _ h.blk]; rfl
  · have := h.frs.mod hM (fun g hg e' => hn2 (by rw [hg, e'])) (fun g _ hs e' => hs.2.1 e')
    unfold inS at this ⊢
    rw [e]
    exact this
end
set_option maxRecDepth 100000 in
theorem tframes_any {w : World} {F : Nat → Prop} {P : Nat} {s : Ty.T} {vo vf : Value} (h : Stk w F P s vo vf) :
    Calls Try.prog 81 #[.pointer (some ⟨P, 0, none⟩)] w fun e w' => w' = w ∧ e = .returned (.int .i64 (s.frs.length : Int)) := by
  have h0 := h.cell1
  obtain ⟨ys, _, h1, _⟩ := h.frs
  obtain ⟨A, c, rfl, _, _⟩ := own_form h1
  clear h1 h
  obtain ⟨m, hm⟩ : ∃ m, s.frs.length = m := ⟨_, rfl⟩
  rw [hm] at h0
  rw [hm]
  clear hm
  go_enter Try.func81, Try.ntmps81
  go_wp2_with fail
  go_ret
  exact ⟨rfl, rfl⟩
set_option maxRecDepth 100000 in
theorem tmost_any {w : World} {F : Nat → Prop} {P : Nat} {s : Ty.T} {vo vf : Value} (h : Stk w F P s vo vf) :
    Calls Try.prog 30 #[.pointer (some ⟨P, 0, none⟩)] w fun e w' => w' = w ∧ e = .returned (.int .i64 (s.most : Int)) := by
  have h0 := h.cell2
  clear h
  go_enter Try.func30, Try.ntmps30
  go_wp2_with fail
  go_ret
  exact ⟨rfl, rfl⟩
set_option maxRecDepth 100000 in
theorem tleave_any {w : World} {F : Nat → Prop} {P : Nat} {s : Ty.T} {vo vf : Value} (h : Stk w F P s vo vf) (n : Nat) (hn : n ≤ s.ops.length) :
    Calls Try.prog 58 #[.pointer (some ⟨P, 0, none⟩), .int .i64 (n : Int)] w fun e w' => e = .returned (.tuple #[]) ∧ ∃ vo', Stk w' F P (s.cutTo n) vo' vf ∧ Mod (· = P) w w' := by
  obtain ⟨A, c, rfl, hnc, hcm⟩ := own_form h.ops
  have h0 := h.cell0
  have hf := h.frozen 0
  have HR := Lib.hid (h.leave rfl hn)
  have HM : Hid (Mod (· = P) w (w.setCell ⟨P, 0, none⟩ (.slice A n c))) := Lib.hid (Mod.setCell (T := (· = P)) (Mod.refl _ w) (fun _ => rfl) _)
  clear h
  unfold maxLen at hcm
  have h1 : (n : Int) ≤ (c : Int) := by omega
  have h2 : n ≤ c := by omega
  obtain ⟨m, hm⟩ : ∃ m, s.ops.length = m := ⟨_, rfl⟩
  rw [hm] at h0 hn hnc
  clear hm
  go_enter Try.func58, Try.ntmps58
  go_wp2_with fail
  go_end0
  exact ⟨rfl, _, HR.out, HM.out⟩
set_option maxRecDepth 100000 in
theorem tinner_none {w : World} {F : Nat → Prop} {P : Nat} {s : Ty.T} {vo vf : Value} (h : Stk w F P s vo vf) (hn : s.frs = []) :
    Calls Try.prog 56 #[.pointer (some ⟨P, 0, none⟩)] w fun e w' => w' = w ∧ e = .returned (.pointer none) := by
  have HC := Lib.hid (tframes_any h)
  rw [hn] at HC
  simp only [List.length_nil] at HC
  clear h hn
  go_enter Try.func56, Try.ntmps56
  go_wp2_with (go_at_call 81; refine HC.out.mono ?_; rintro e w1 ⟨rfl, rfl⟩)
  go_ret
  exact ⟨rfl, rfl⟩
set_option maxRecDepth 100000 in
theorem tinner_some {w : World} {F : Nat → Prop} {P : Nat} {s : Ty.T} {vo : Value} {i : List Ty.Fr} {f : Ty.Fr} {g c : Nat} (h : Stk w F P s vo (.slice (some ⟨g, 0, none⟩) (i.length + 1) c)) (hf : s.frs = i ++ [f]) (hl : i.length ≤ 1000000000) :
    Calls Try.prog 56 #[.pointer (some ⟨P, 0, none⟩)] w fun e w' => Below w.heap.size w w' ∧ e = .returned (.pointer (some ⟨g, i.length * 4, none⟩)) := by
  have HC := Lib.hid (tframes_any h)
  have hlen : s.frs.length = i.length + 1 := by rw [hf]; simp
  rw [hlen] at HC
  have h0 := h.cell1
  obtain ⟨m, hm⟩ : ∃ m, i.length = m := ⟨_, rfl⟩
  rw [hm] at h0 HC hl
  rw [hm]
  clear h hf hlen hm
  have hne : ((m : Int) + 1 == 0) = false := by simp; omega
  go_enter Try.func56, Try.ntmps56
  go_wp2_with (go_at_call 81; refine HC.out.mono ?_; rintro e w1 ⟨rfl, rfl⟩)
  go_quiet (fail)
  go_wp2_with fail
  go_ret
  exact ⟨Below.dn (Below.refl _ _) _, rfl⟩
end Go.Proofs.Ytakbehoglgebmaa
/-
  A slice of bytes from a place on; where it has bytes it has an address.
-/
namespace Go.Proofs.Ytakbehoglgebmaa
open Go.RowKit
theorem Has.from {w : World} {B : Nat} {ad : Addr} {l : List UInt8} (h : Has w B (some ad) l) (k : Nat) : Has w B (some (ad.add k)) (l.drop k) := by
  by_cases hk : k = 0
  · subst hk; simpa [Addr.add] using h
  · intro j x hx
    rw [List.getElem?_drop] at hx
    obtain ⟨ad', h1, h2, h3⟩ := h (k + j) x hx
    obtain rfl := Option.some.inj h1
    rw [Addr.add, if_neg hk]
    refine ⟨_, rfl, h2, ?_⟩
    have e : (⟨ad.block, ad.off + k, none⟩ : Addr).add j = ad.add (k + j) := by
      unfold Addr.add
      rw [if_neg (show ¬ k + j = 0 by omega)]
      split
      · next hj => subst hj; rfl
      · simp [Nat.add_assoc]
    rw [e]
    exact h3
theorem Has.someAddr {w : World} {B : Nat} {A : Option Addr} {l : List UInt8} (h : Has w B A l) (hk : 0 < l.length) : ∃ ad, A = some ad := by
  obtain ⟨ad, h1, _⟩ := h 0 _ (List.getElem?_eq_getElem hk)
  exact ⟨ad, h1⟩
end Go.Proofs.Ytakbehoglgebmaa
/-
  Layer 9's laws, plainly (no program): a stack that is no higher than its most; operands in a dead frame; frames opened and closed again.
-/
namespace Ty
/-- So many fit, from the last one on. -/
def fitTo (own l : List UInt8) (j : Nat) : Bool := ((own.reverse.zip l.reverse).take j).all fun p => fit p.1 p.2
theorem fitTo_zero (own l : List UInt8) : fitTo own l 0 = true := by simp [fitTo]
theorem fitTo_next {own l : List UInt8} (j : Nat) (hi : j < own.length) (hl : j < l.length) : fitTo own l (j + 1) = (fitTo own l j && fit own[own.length - 1 - j] l[l.length - 1 - j]) := by
  unfold fitTo
  rw [List.take_add_one, fit_at j hi hl]
  simp
theorem fitTo_all {own l : List UInt8} (j : Nat) (h : j = min own.length l.length) : fitTo own l j = fitAll own l := by
  unfold fitTo fitAll
  rw [List.take_of_length_le (by simp; omega)]
end Ty
/-
  Layer 9's program: whether operands can be taken by types, and what is left then.
-/
namespace Go.Proofs.Ytakbehoglgebmaa
open Go.RowKit Ins Bin
theorem tfits_any (x y : UInt8) (w : World) : Calls Try.prog 82 #[.int .u8 (x.toNat : Int), .int .u8 (y.toNat : Int)] w fun e w' => e = .returned (.bool (Ty.fit x y)) ∧ w' = w := by
  have hx : ∀ a b : UInt8, ((a.toNat : Int) == (b.toNat : Int)) = (a == b) := fun a b => by
    by_cases h : a = b
    · subst h; simp
    · have h1 : ¬ a.toNat = b.toNat := fun e => h (UInt8.toNat_inj.1 e)
      have h2 : ((a.toNat : Int) == (b.toNat : Int)) = false := by rw [beq_eq_false_iff_ne]; omega
      rw [h2, beq_eq_false_iff_ne.2 h]
  have h0 : ∀ a : UInt8, ((a.toNat : Int) == 0) = (a == 0) := fun a => hx a 0
  have e1 := hx x y
  have e2 := h0 x
  have e3 := h0 y
  clear hx h0
  unfold Ty.fit
  generalize (x == y) = p at *
  generalize (x == 0) = q at *
  generalize (y == 0) = r at *
  generalize (x.toNat : Int) = a at *
  generalize (y.toNat : Int) = b at *
  cases p with
  | true =>
    go_enter Try.func82, Try.ntmps82
    go_wp2_with fail
    go_ret
    exact ⟨rfl, rfl⟩
  | false =>
    cases q with
    | true =>
      go_enter Try.func82, Try.ntmps82
      go_wp2_with fail
      go_ret
      exact ⟨rfl, rfl⟩
    | false =>
      cases r with
      | true =>
        go_enter Try.func82, Try.ntmps82
        go_wp2_with fail
        go_ret
        exact ⟨rfl, rfl⟩
      | false =>
        go_enter Try.func82, Try.ntmps82
        go_wp2_with fail
        go_ret
        exact ⟨rfl, rfl⟩
/-- What a call of without tells. -/
def woV : Option Nat → Value
  | none => .tuple #[.int .i64 0, .bool false]
  | some n => .tuple #[.int .i64 (n : Int), .bool true]
/-- The innermost frame, as its cells read. -/
theorem Stk.inner {w : World} {F : Nat → Prop} {P : Nat} {s : Ty.T} {vo vf : Value} {i : List Ty.Fr} {f : Ty.Fr} (h : Stk w F P s vo vf) (hf : s.frs = i ++ [f]) :
    ∃ g c u v, vf = .slice (some ⟨g, 0, none⟩) (i.length + 1) c ∧ i.length + 1 ≤ c ∧ c ≤ maxLen ∧ F g ∧ g < w.heap.size ∧ (∀ W : World, W.heap[g]? = w.heap[g]? → W.cell? ⟨g, i.length * 4, none⟩ = some u ∧ W.cell? ⟨g, i.length * 4 + 1, none⟩ = some v ∧ W.cell? ⟨g, i.length * 4 + 2, none⟩ = some (.int .i64 (f.h : Int)) ∧ W.cell? ⟨g, i.length * 4 + 3, none⟩ = some (.bool f.dead) ∧ ∀ j, W.frozen? ⟨g, j, none⟩ = false) ∧
      SliceV w (inS F P vo vf) f.label u ∧ SliceV w (inS F P vo vf) f.ends v := by
  have h1 := h.frs
  rw [hf] at h1
  obtain ⟨g, c, cur, cs, rfl, h2, h3, h4, h5, h6, ⟨u, v, rfl, h7, h8⟩, h9, _⟩ := h1.last
  refine ⟨g, c, u, v, rfl, h2, h3, h.inF g rfl, (Array.getElem?_eq_some_iff.1 h5).1, fun W hW => ?_, h7, h8⟩
  have hc : ∀ (j : Nat) (z : Value), [u, v, .int .i64 (f.h : Int), .bool f.dead][j]? = some z → W.cell? ⟨g, i.length * 4 + j, none⟩ = some z := fun j z hj => by
    rw [cell_of_row W g _ _ _ (0, 0) (hW.trans h5)]
    exact h9 j z hj
  exact ⟨hc 0 _ rfl, hc 1 _ rfl, hc 2 _ rfl, hc 3 _ rfl, fun j => frozen_of_row W g j _ _ (hW.trans h5)⟩
set_option maxRecDepth 100000 in
set_option maxHeartbeats 4000000 in
theorem twithout_any {w : World} {F : Nat → Prop} {P : Nat} {s : Ty.T} {vo vf : Value} (h : Stk w F P s vo vf) (hok : s.ok) (l : List UInt8) (A : Option Addr) (c : Nat) (hA : Has w w.heap.size A l) (h1 : s.ops.length ≤ 1000000000) (h2 : l.length ≤ 1000000000) (h3 : s.frs.length ≤ 1000000000) :
    Calls Try.prog 57 #[.pointer (some ⟨P, 0, none⟩), .slice A l.length c] w fun e w' => e = .returned (woV (s.wout l)) ∧ Below w.heap.size w w' := by
  rcases Ty.parts s with hn | ⟨i, f, hf⟩
  · have hw : s.wout l = none := by unfold Ty.T.wout; rw [Ty.last_nil hn]
    rw [hw]
    have HC := Lib.hid (tinner_none h hn)
    generalize l.length = n at *
    clear h hok hA h1 h2 h3 hn hw
    go_enter Try.func57, Try.ntmps57
    go_wp2_with (go_at_call 56; refine HC.out.mono ?_; rintro e w1 ⟨rfl, rfl⟩)
    go_ret2
    exact ⟨rfl, Below.refl _ _⟩
  · have hw : s.wout l = Ty.without s.ops f l := by unfold Ty.T.wout; rw [Ty.last_of hf]
    rw [hw]
    obtain ⟨g, cf, u, v, rfl, hcf1, hcf2, _, hg, hcell, _, _⟩ := h.inner hf
    have hil : i.length ≤ 1000000000 := by rw [hf] at h3; simp at h3; omega
    have hfh := Ty.last_h hok hf
    have HC := Lib.hid (tinner_some h hf hil)
    obtain ⟨B, c2, rfl, hc1, hc2⟩ := own_form h.ops
    have hH0 : Has w w.heap.size B s.ops := by
      obtain ⟨A', c', e, _, _, _, _, hh⟩ := own_sl h.ops
      injection e with e1 _ _
      subst e1
      exact hh
    have hBn : B = none → c2 = 0 := by
      obtain ⟨A', c', e, _, _, _, q, _⟩ := own_sl h.ops
      injection e with e1 _ e3
      subst e1 e3
      exact q
    have HP : Hid (∀ W, Below w.heap.size w W → W.cell? ⟨P, 0, none⟩ = some (.slice B s.ops.length c2)) := Lib.hid (fun W hb => (h.on hb).cell0)
    have HG : Hid (∀ W, Below w.heap.size w W → W.cell? ⟨g, i.length * 4 + 2, none⟩ = some (.int .i64 (f.h : Int)) ∧ W.cell? ⟨g, i.length * 4 + 3, none⟩ = some (.bool f.dead)) := Lib.hid (fun W hb => ⟨(hcell W (hb.block g hg)).2.2.1, (hcell W (hb.block g hg)).2.2.2.1⟩)
    have HH0 := Lib.hid hH0
    have HBN := Lib.hid hBn
    have HA := Lib.hid hA
    unfold Ty.without
    obtain ⟨I, hI⟩ : ∃ I, i.length * 4 = I := ⟨_, rfl⟩
    obtain ⟨S0, hS0⟩ : ∃ S0, s.ops = S0 := ⟨_, rfl⟩
    rw [hS0] at hfh HP HH0 h1 hc1
    rw [hS0]
    clear hS0
    obtain ⟨m, hm⟩ : ∃ m, S0.length = m := ⟨_, rfl⟩
    obtain ⟨k, hk⟩ : ∃ k, m - f.h = k := ⟨_, rfl⟩
    obtain ⟨n, hn⟩ : ∃ n, l.length = n := ⟨_, rfl⟩
    rw [hm, hn]
    rw [hm] at HP
    rw [hI] at HG HC
    rw [hk]
    rw [hm] at hfh h1
    rw [hn] at h2
    obtain ⟨fh, hfh'⟩ : ∃ x, f.h = x := ⟨_, rfl⟩
    rw [hfh'] at hfh hk HG
    rw [hfh']
    obtain ⟨fd, hfd⟩ : ∃ x, f.dead = x := ⟨_, rfl⟩
    rw [hfd] at HG
    rw [hfd]
    generalize han : (if k < n ∧ fd = false then none else if Ty.fitAll (S0.drop fh) l = true then some (m - min k n) else none) = an
    have HAN := Lib.hid han
    have HM := Lib.hid hm
    have HN := Lib.hid hn
    have HK := Lib.hid hk
    have HFH := Lib.hid hfh'
    unfold maxLen at hc2
    have hmc : m ≤ c2 := by rw [← hm]; exact hc1
    obtain ⟨bad, hbad⟩ : ∃ b, decide (k < n ∧ fd = false) = b := ⟨_, rfl⟩
    have HBAD := Lib.hid hbad
    have hkm : k ≤ m := by omega
    clear h hok hA h3 hf hw hcf1 hcf2 hg hcell hil hc1 hH0 hBn hI hm hk hn hfh' hfd hbad han
    go_enter Try.func57, Try.ntmps57
    go_upto_region 4 with (go_at_call 56; refine HC.out.mono ?_; rintro e w1 ⟨hb1, rfl⟩; have HB1 := Lib.hid hb1; have q0 := HP.out w1 hb1; obtain ⟨q1, q2⟩ := HG.out w1 hb1; clear hb1)
    go_cut [7] from 14 to 22 (fun s wx => ∃ A' c', s = .slice A' k c' ∧ k ≤ c' ∧ c' ≤ 9223372036854775807 ∧ Hid (Has wx wx.heap.size A' (S0.drop fh)) ∧ Hid (Below w.heap.size w wx))
    case first =>
      have f1 : (fh : Int) ≤ (m : Int) := by omega
      have HLE := Lib.hid hmc
      have HLC := Lib.hid hc2
      clear HC HP HG HA HN HFH HBAD hmc hc2
      cases B with
      | none =>
        obtain rfl : c2 = 0 := HBN.out rfl
        obtain rfl : m = 0 := by have := HLE.out; omega
        obtain rfl : fh = 0 := by omega
        obtain rfl : k = 0 := by have := HK.out; omega
        have hs0 : Hid (S0 = []) := Lib.hid (List.eq_nil_of_length_eq_zero HM.out)
        clear f1
        go_quiet (fail)
        go_wp2_with fail
        go_meet
        case rel => exact ⟨none, 0, rfl, by omega, by omega, Lib.hid (by rw [hs0.out]; exact Has.nil _ _ _), Lib.hid (Below.dn HB1.out _)⟩
      | some ad =>
        by_cases hcf : c2 = fh
        · subst hcf
          obtain rfl : m = c2 := by have := HLE.out; omega
          obtain rfl : k = 0 := by have := HK.out; omega
          go_quiet (fail)
          go_wp2_with fail
          go_meet
          case rel => exact ⟨_, _, rfl, by omega, by omega, Lib.hid (by rw [List.drop_of_length_le (by rw [HM.out]; exact Nat.le_refl _)]; exact Has.nil _ _ _), Lib.hid (Below.dn HB1.out _)⟩
        · have hcf2 : ¬ (c2 - fh = 0) := by have := HLE.out; omega
          go_quiet (fail)
          go_wp2_with fail
          go_meet
          case rel => exact ⟨_, _, by rw [HK.out], by have := HLE.out; have := HK.out; omega, by have := HLC.out; omega, Lib.hid ((HH0.out.on (Below.dn HB1.out _)).from fh), Lib.hid (Below.dn HB1.out _)⟩
    case rest =>
      obtain ⟨A', c', rfl, hkc, hc3, HO, HB2⟩ := hcut
      clear q0 q1 q2 HC HH0 HBN
      have q0 := HP.out wc HB2.out
      obtain ⟨q1, q2⟩ := HG.out wc HB2.out
      have hci : (k : Int) ≤ (c' : Int) := by omega
      go_upto_region 5 with fail
      go_cut [34] from 23 to 34 (fun s wx => s = .bool bad ∧ wx = wc)
      case first =>
        by_cases hkn : k < n
        · have e1 : (k : Int) < (n : Int) := by omega
          cases fd with
          | true =>
            obtain rfl : bad = false := (HBAD.out).symm.trans (by simp)
            clear HBAD
            go_wp2_with fail
            go_meet
            case rel => exact ⟨rfl, rfl⟩
          | false =>
            obtain rfl : bad = true := (HBAD.out).symm.trans (by simp [hkn])
            clear HBAD
            go_wp2_with fail
            go_meet
            case rel => exact ⟨rfl, rfl⟩
        · have e1 : decide ((k : Int) < (n : Int)) = false := decide_eq_false (by omega)
          obtain rfl : bad = false := (HBAD.out).symm.trans (by simp [hkn])
          clear HBAD
          go_wp2_with fail
          go_meet
          case rel => exact ⟨rfl, rfl⟩
      case rest =>
        obtain ⟨rfl, rfl⟩ := hcut
        cases bad with
        | true =>
          have HBD : Hid (k < n ∧ fd = false) := Lib.hid (by have := HBAD.out; simpa using this)
          clear HBAD
          go_wp2_with fail
          go_ret2
          exact ⟨by rw [← HAN.out, if_pos HBD.out]; rfl, HB2.out⟩
        | false =>
          have HBD : Hid (¬ (k < n ∧ fd = false)) := Lib.hid (by have := HBAD.out; simpa using this)
          clear HBAD
          obtain ⟨q, hq⟩ : ∃ q, min k n = q := ⟨_, rfl⟩
          have HQ := Lib.hid hq
          have hqk : q ≤ k := by omega
          have hqn : q ≤ n := by omega
          clear hq
          go_upto_region 7 with fail
          go_cut [8] from 35 to 39 (fun s wx => s = .int .i64 (q : Int) ∧ wx = wc)
          case first =>
            go_wp2_with fail
            go_meet
            case rel =>
              have hq := HQ.out
              refine ⟨?_, rfl⟩
              congr 1
              omega
          case rest =>
            obtain ⟨rfl, rfl⟩ := hcut
            clear q1 q2 HG
            by_cases hq0 : q = 0
            · subst hq0
              have HZ : Hid (Ty.fitAll (S0.drop fh) l = true) := Lib.hid (by
                rw [← Ty.fitTo_all 0 (by rw [List.length_drop, HM.out, HN.out, HK.out]; exact HQ.out.symm)]
                exact Ty.fitTo_zero _ _)
              go_wp2_with fail
              go_loopw [9] (fun j wr => j = .int .i64 1 ∧ wr = wc) (fun j _ => 0)
              case atStart => exact ⟨rfl, rfl⟩
              case round =>
                obtain ⟨rfl, rfl⟩ := hrel
                go_wp2_with fail
                go_ret2
                exact ⟨by rw [← HAN.out, if_neg HBD.out, if_pos HZ.out, HQ.out]; rfl, HB2.out⟩
            · obtain ⟨a1, rfl⟩ := HO.out.someAddr (by rw [List.length_drop, HM.out, HK.out]; omega)
              obtain ⟨a2, rfl⟩ := HA.out.someAddr (by rw [HN.out]; omega)
              have HA2 : Hid (Has wc wc.heap.size (some a2) l) := Lib.hid (HA.out.on HB2.out)
              clear HA
              go_wp2_with fail
              go_loopw [9] (fun j wr => ∃ t : Nat, t ≤ q ∧ j = .int .i64 ((t : Int) + 1) ∧ Hid (Ty.fitTo (S0.drop fh) l t = true) ∧ Hid (Below wc.heap.size wc wr)) (fun j _ => q + 1 - (intOf j).toNat)
              case atStart => exact ⟨0, by omega, rfl, Lib.hid (Ty.fitTo_zero _ _), Lib.hid (Below.refl _ _)⟩
              case round =>
                obtain ⟨t, ht, rfl, HF, HB⟩ := hrel
                by_cases htq : t < q
                · have hl1 : (S0.drop fh).length = k := by rw [List.length_drop, HM.out, HK.out]
                  obtain ⟨x, hx⟩ : ∃ x, (S0.drop fh)[k - 1 - t]? = some x := ⟨_, List.getElem?_eq_getElem (by omega)⟩
                  obtain ⟨y, hy⟩ : ∃ y, l[n - 1 - t]? = some y := ⟨_, List.getElem?_eq_getElem (by have := HN.out; omega)⟩
                  obtain ⟨b1, e1, _, hc1⟩ := (HO.out.on HB.out) _ x hx
                  obtain ⟨b2, e2, _, hc2⟩ := (HA2.out.on HB.out) _ y hy
                  injection e1 with e1
                  injection e2 with e2
                  subst e1 e2
                  have HNX : Hid (Ty.fitTo (S0.drop fh) l (t + 1) = Ty.fit x y) := Lib.hid (by
                    have hn2 := HN.out
                    rw [Ty.fitTo_next t (by omega) (by omega), HF.out, Bool.true_and]
                    have g1 : (S0.drop fh)[(S0.drop fh).length - 1 - t]'(by omega) = x := by
                      rw [← Option.some.injEq, ← List.getElem?_eq_getElem, hl1]; exact hx
                    have g2 : l[l.length - 1 - t]'(by omega) = y := by
                      rw [← Option.some.injEq, ← List.getElem?_eq_getElem, hn2]; exact hy
                    rw [g1, g2])
                  have s0 : (t : Int) + 1 ≤ (q : Int) := by omega
                  have s5 : (q : Int) ≤ 1000000000 := by omega
                  have s1 : IntKind.i64.wrap ((k : Int) - ((t : Int) + 1)) = ((k - 1 - t : Nat) : Int) := by
                    rw [IntWalk.i64_in _ (by omega)]; omega
                  have s2 : IntKind.i64.wrap ((n : Int) - ((t : Int) + 1)) = ((n - 1 - t : Nat) : Int) := by
                    rw [IntWalk.i64_in _ (by omega)]; omega
                  have s3 : k - 1 - t < k := by omega
                  have s4 : n - 1 - t < n := by omega
                  have HT := Lib.hid htq
                  have HQK := Lib.hid hqk
                  have HQN := Lib.hid hqn
                  clear hx hy hl1 htq hqk hqn
                  by_cases hfit : Ty.fit x y = true
                  · have HFT : Hid (Ty.fitTo (S0.drop fh) l (t + 1) = true) := Lib.hid (HNX.out.trans hfit)
                    go_wp2_with fail
                    go_quiet ((go_at_call 82; exact Calls.quiet_of_same (tfits_any x y _)))
                    clear s1 s2 s3 s4
                    go_wp2_with fail
                    go_roundw
                    case rel => exact ⟨t + 1, by have := HT.out; omega, by go_num, HFT, Lib.hid (Below.dn HB.out _)⟩
                    case measure => have := HT.out; simp [intOf]; omega
                  · have hfit2 : Ty.fit x y = false := by simpa using hfit
                    have HZ : Hid (Ty.fitAll (S0.drop fh) l = false) := Lib.hid (by
                      have hn2 := HN.out
                      have hl1 : (S0.drop fh).length = k := by rw [List.length_drop, HM.out, HK.out]
                      have h1 := HNX.out.trans hfit2
                      have hq1 := HT.out
                      have hq2 := HQK.out
                      have hq3 := HQN.out
                      rw [Ty.fitTo_next t (by omega) (by omega), HF.out, Bool.true_and] at h1
                      exact Ty.fit_no t (by omega) (by omega) h1)
                    clear hfit
                    go_wp2_with fail
                    go_quiet ((go_at_call 82; exact Calls.quiet_of_same (tfits_any x y _)))
                    go_wp2_with fail
                    go_ret2
                    exact ⟨by rw [← HAN.out, if_neg HBD.out, if_neg (by rw [HZ.out]; decide)]; rfl, HB2.out.trans ((Below.dn HB.out _).mono HB2.out.size)⟩
                · obtain rfl : t = q := by omega
                  have HZ : Hid (Ty.fitAll (S0.drop fh) l = true) := Lib.hid (by
                    rw [← Ty.fitTo_all t (by rw [List.length_drop, HM.out, HN.out, HK.out]; exact HQ.out.symm)]
                    exact HF.out)
                  have q3 := HP.out wr (HB2.out.trans (HB.out.mono HB2.out.size))
                  go_wp2_with fail
                  go_ret2
                  have hle : t ≤ m := by omega
                  exact ⟨by
                    rw [← HAN.out, if_neg HBD.out, if_pos HZ.out, HQ.out]
                    show _ = Ending.returned (.tuple #[.int .i64 ((m - t : Nat) : Int), .bool true])
                    rw [Int.ofNat_sub hle]
                    rfl, HB2.out.trans (HB.out.mono HB2.out.size)⟩
end Go.Proofs.Ytakbehoglgebmaa
