/-
  Layer 9's script: its records, opened; heavy; two stacks, the program's and the document's, side by side.
-/
import Derived.Test.YthkglmkpnhhboaaTyRefG
import Derived.Test.YthkglmkpnhhboaaTyOpn
namespace Ty
/-- The one stack is the other. -/
def sim (s : T) (r : R) : Prop := ∃ base, base.length = r.loose ∧ s = toT base r
theorem pop_loose (r : R) : r.pop.loose = r.loose := by
  unfold R.pop R.setOwn
  cases r.last with
  | none => rfl
  | some f => dsimp only; split <;> rfl
theorem want_loose (r : R) (l : List UInt8) : (r.want l).loose = r.loose := by
  unfold R.want R.setOwn
  cases r.last with
  | none => rfl
  | some f => dsimp only; cases fitsL f l <;> rfl
theorem close_loose (r : R) : r.close.loose = r.loose := by
  unfold R.close
  cases r.last with
  | none => rfl
  | some f => dsimp only; cases fitsL f f.ends with
    | none => rfl
    | some o => dsimp only; split <;> rfl
theorem kill_loose (r : R) : r.kill.loose = r.loose := by
  unfold R.kill
  cases r.last <;> rfl
theorem sim_new (e : List UInt8) : sim (T.new e) (R.new e) := ⟨[], rfl, rfl⟩
theorem sim_push {s : T} {r : R} (h : sim s r) (l : List UInt8) : sim (s.push l) (r.push l) := by
  obtain ⟨b, h1, rfl⟩ := h
  obtain ⟨b', h2, h3⟩ := toT_push b r l h1
  exact ⟨b', h2, h3⟩
theorem sim_op {s : T} {r : R} (h : sim s r) (a c : List UInt8) : sim (s.op a c) (r.op a c) := by
  obtain ⟨b, h1, rfl⟩ := h
  exact ⟨b, h1, toT_op b r a c⟩
theorem sim_pop {s : T} {r : R} (h : sim s r) : s.popA = r.popA ∧ sim s.pop r.pop := by
  obtain ⟨b, h1, rfl⟩ := h
  exact ⟨(toT_pop b r).1, b, h1.trans (pop_loose r).symm, (toT_pop b r).2⟩
theorem sim_want {s : T} {r : R} (h : sim s r) (l : List UInt8) : s.wantA l = r.wantA l ∧ sim (s.want l) (r.want l) := by
  obtain ⟨b, h1, rfl⟩ := h
  exact ⟨(toT_want b r l).1, b, h1.trans (want_loose r l).symm, (toT_want b r l).2⟩
theorem sim_close {s : T} {r : R} (h : sim s r) : s.closeA = r.closeA ∧ sim s.close r.close := by
  obtain ⟨b, h1, rfl⟩ := h
  exact ⟨(toT_close b r).1, b, h1.trans (close_loose r).symm, (toT_close b r).2⟩
theorem sim_kill {s : T} {r : R} (h : sim s r) : sim s.kill r.kill := by
  obtain ⟨b, h1, rfl⟩ := h
  exact ⟨b, h1.trans (kill_loose r).symm, toT_kill b r⟩
theorem sim_label {s : T} {r : R} (h : sim s r) (n : Nat) : s.labelA n = r.labelA n := by
  obtain ⟨b, h1, rfl⟩ := h
  exact toT_label b r n
theorem sim_frames {s : T} {r : R} (h : sim s r) : s.frs.length = r.l.length := by
  obtain ⟨b, h1, rfl⟩ := h
  exact heights_length _ _
theorem sim_height {s : T} {r : R} (h : sim s r) : s.ops.length = r.height := by
  obtain ⟨b, h1, rfl⟩ := h
  exact toT_height b r h1
theorem sim_most {s : T} {r : R} (h : sim s r) : s.most = r.most := by
  obtain ⟨b, h1, rfl⟩ := h
  rfl
theorem heights_mem : ∀ (b : Nat) (x : List RF) (f : RF), f ∈ x → ∃ g ∈ heights b x, g.ends = f.ends
  | b, f' :: x, f, h => by
    rcases List.mem_cons.1 h with h | h
    · subst h; exact ⟨⟨f.label, f.ends, b, f.dead⟩, by simp [heights], rfl⟩
    · obtain ⟨g, h1, h2⟩ := heights_mem (b + f'.own.length) x f h
      exact ⟨g, by simp [heights, h1], h2⟩
theorem sim_ends {s : T} {r : R} {n : Nat} (h : sim s r) (hs : s.sm n) : ∀ f ∈ r.l, f.ends.length ≤ n := by
  obtain ⟨b, h1, rfl⟩ := h
  intro f hf
  obtain ⟨g, hg, he⟩ := heights_mem b.length r.l f hf
  rw [← he]
  exact (hs.2.2.2 g hg).2
end Ty
namespace Go.Proofs.Ythkglmkpnhhboaa
open Go.RowKit Ins Bin
open Go.ChangeShapes Go.WideShapes Go.ChangeAt Go.Deep
/-- A call of a script. -/
structure Do9 where
  kind : Int
  l : List UInt8
  ends : List UInt8
  n : Nat
instance : Lay Do9 where
  size := 4
  rep w S x cs := ∃ u v, cs = [.int .i64 x.kind, u, v, .int .u32 (x.n : Int)] ∧ x.n < 4294967296 ∧ SliceV w S x.l u ∧ SliceV w S x.ends v
  len h := by obtain ⟨u, v, rfl, _⟩ := h; rfl
  mod h hm hd := by obtain ⟨u, v, h1, h2, h3, h4⟩ := h; exact ⟨u, v, h1, h2, h3.mod hm hd, h4.mod hm hd⟩
  more h hs := by obtain ⟨u, v, h1, h2, h3, h4⟩ := h; exact ⟨u, v, h1, h2, h3.more hs, h4.more hs⟩
set_option maxRecDepth 100000 in
theorem four_of {cs : List Value} (h : cs.length = 4) : ∃ a b c d, cs = [a, b, c, d] := by
  match cs, h with
  | [a, b, c, d], _ => exact ⟨a, b, c, d, rfl⟩
theorem und3i : Try.prog.underlying 3 = some (.int .i64) := by kernel_rfl
set_option maxRecDepth 100000 in
instance : Opn Do9 where
  T := 32
  big x := x.l.length ≤ 140737488355328 ∧ x.ends.length ≤ 140737488355328
  open_ {_ _ _ _ cs _} h := by
    obtain ⟨hl, hf⟩ := rdg_struct (L := [(3, 0, 1), (22, 1, 1), (22, 2, 1), (30, 3, 1)]) (by kernel_rfl) (by simp) h
    obtain ⟨a, b, c, d, rfl⟩ := four_of (hl.trans (by kernel_rfl))
    obtain ⟨_, _, h0⟩ := hf 0 _ _ _ rfl
    obtain ⟨_, _, h1⟩ := hf 1 _ _ _ rfl
    obtain ⟨_, _, h2⟩ := hf 2 _ _ _ rfl
    obtain ⟨_, _, h3⟩ := hf 3 _ _ _ rfl
    obtain ⟨⟨p, hp⟩, _⟩ := h0
    obtain ⟨k, e, _, w⟩ := DataW.trod_int und3i hp
    have e' : a = .int .i64 k := by simpa using e
    subst e'
    obtain ⟨xs, s1, l1, _⟩ := open_sl (v := b) o_und22 h1
    obtain ⟨ys, s2, l2, _⟩ := open_sl (v := c) o_und22 h2
    obtain ⟨t, rfl, ht⟩ := rdg_u32 (v := d) h3
    exact ⟨⟨k, xs, ys, t⟩, ⟨b, c, rfl, ht, s1, s2⟩, l1, l2⟩
  cells := by kernel_rfl
  pos := by decide
  bytes := by rw [show Try.prog.bytesOf 32 = 64 by kernel_rfl]; omega
theorem o_undDo : Try.prog.underlying 23 = some (.slice (Opn.T Do9)) := by kernel_rfl
/-- A script's record in memory. -/
theorem do_at {w : World} {A : Option Addr} {xs : List Do9} (h : HasL w (· < w.heap.size) A xs) {k : Nat} {x : Do9} (hk : xs[k]? = some x) :
    ∃ g o A1 c1 A2 c2, A = some ⟨g, o, none⟩ ∧ (∀ W, Below w.heap.size w W → W.cell? ⟨g, o + k * 4, none⟩ = some (.int .i64 x.kind) ∧ W.cell? ⟨g, o + k * 4 + 1, none⟩ = some (.slice A1 x.l.length c1) ∧ W.cell? ⟨g, o + k * 4 + 2, none⟩ = some (.slice A2 x.ends.length c2) ∧ W.cell? ⟨g, o + k * 4 + 3, none⟩ = some (.int .u32 (x.n : Int))) ∧
      x.n < 4294967296 ∧ SliceV w (· < w.heap.size) x.l (.slice A1 x.l.length c1) ∧ SliceV w (· < w.heap.size) x.ends (.slice A2 x.ends.length c2) := by
  obtain ⟨g, o, cs, rfl, _, hg, ⟨u, v, rfl, hn, hu, hv⟩, hc⟩ := h k x hk
  have hu' := hu
  have hv' := hv
  obtain ⟨A1, c1, rfl, _⟩ := hu'
  obtain ⟨A2, c2, rfl, _⟩ := hv'
  refine ⟨g, o, A1, c1, A2, c2, rfl, fun W hW => ?_, hn, hu, hv⟩
  have hj : ∀ (j : Nat) (z : Value), [Value.int .i64 x.kind, .slice A1 x.l.length c1, .slice A2 x.ends.length c2, .int .u32 (x.n : Int)][j]? = some z → W.cell? ⟨g, o + k * 4 + j, none⟩ = some z := fun j z hj => (hW.cell (p := ⟨g, o + k * 4 + j, none⟩) hg).trans (hc j z hj)
  exact ⟨hj 0 _ rfl, hj 1 _ rfl, hj 2 _ rfl, hj 3 _ rfl⟩
/-- The two stacks in one world, and a script's call at hand. -/
structure Pr (w0 w : World) (F G : Nat → Prop) (P Q X : Nat) (cx : Array Value) (s : Ty.T) (r : Ty.R) : Prop where
  f : AtF w F P s
  g : AtG w G w0.heap.size Q r
  fB : ∀ k, F k → w0.heap.size ≤ k
  gB : ∀ k, G k → w0.heap.size ≤ k
  fg : ∀ k, F k → ¬ G k
  xc : w.heap[X]? = some (.cells cx 32 (0, 0))
  xf : ¬ F X
  xg : ¬ G X
  b : Below w0.heap.size w0 w
theorem Pr.stepF {w0 w w' : World} {F F' G : Nat → Prop} {P Q X : Nat} {cx : Array Value} {s s' : Ty.T} {r : Ty.R} (h : Pr w0 w F G P Q X cx s r) (h1 : AtF w' F' P s') (hn : Nxt F w F' w') : Pr w0 w' F' G P Q X cx s' r := by
  have hX := (Array.getElem?_eq_some_iff.1 h.xc).1
  refine ⟨h1, h.g.mod hn.2 (fun k hk hf => ?_), fun k hk => ?_, h.gB, fun k hk hg => ?_, hn.2.heap h.xc h.xf, fun hk => ?_, h.xg, h.b.trans (hn.2.below h.b.size (fun k hk hf => by have := h.fB k hf; omega))⟩
  · rcases hk with hk | hk
    · exact h.fg k hf hk
    · have := h.fB k hf; omega
  · rcases hn.1 k hk with e | e
    · exact h.fB k e
    · exact Nat.le_trans h.b.size e
  · rcases hn.1 k hk with e | e
    · exact h.fg k e hg
    · have := h.g.2 k hg; omega
  · rcases hn.1 X hk with e | e
    · exact h.xf e
    · omega
theorem Pr.stepG {w0 w w' : World} {F G G' : Nat → Prop} {P Q X : Nat} {cx : Array Value} {s : Ty.T} {r r' : Ty.R} (h : Pr w0 w F G P Q X cx s r) (h1 : AtG w' G' w0.heap.size Q r') (hn : Nxt G w G' w') : Pr w0 w' F G' P Q X cx s r' := by
  have hX := (Array.getElem?_eq_some_iff.1 h.xc).1
  refine ⟨h.f.mod hn.2 (fun k hk hg => h.fg k hk hg), h1, h.fB, fun k hk => ?_, fun k hk hg => ?_, hn.2.heap h.xc h.xg, h.xf, fun hk => ?_, h.b.trans (hn.2.below h.b.size (fun k hk hf => by have := h.gB k hf; omega))⟩
  · rcases hn.1 k hk with e | e
    · exact h.gB k e
    · exact Nat.le_trans h.b.size e
  · rcases hn.1 k hg with e | e
    · exact h.fg k hk e
    · have := h.f.2.2 k hk; omega
  · rcases hn.1 X hk with e | e
    · exact h.xg e
    · omega
theorem Pr.on {w0 w w' : World} {F G : Nat → Prop} {P Q X : Nat} {cx : Array Value} {s : Ty.T} {r : Ty.R} (h : Pr w0 w F G P Q X cx s r) (hb : Below w.heap.size w w') : Pr w0 w' F G P Q X cx s r :=
  ⟨h.f.on hb, h.g.on hb, h.fB, h.gB, h.fg, (hb.block X (Array.getElem?_eq_some_iff.1 h.xc).1).trans h.xc, h.xf, h.xg, h.b.trans (hb.mono h.b.size)⟩
/-- At the head of a round. -/
def Rel9 (w0 w : World) (P Q j : Nat) : Prop := ∃ F G s r, AtF w F P s ∧ AtG w G w0.heap.size Q r ∧ (∀ k, F k → w0.heap.size ≤ k) ∧ (∀ k, G k → w0.heap.size ≤ k) ∧ (∀ k, F k → ¬ G k) ∧ Below w0.heap.size w0 w ∧ Ty.sim s r ∧ s.sm (2000 * (j + 1))
theorem Rel9.pr {w0 w w' : World} {P Q j : Nat} {cx : Array Value} (h : Rel9 w0 w P Q j) (hw : w' = w.alloc (.cells cx 32)) : ∃ F G s r, Pr w0 w' F G P Q w.heap.size cx s r ∧ Ty.sim s r ∧ s.sm (2000 * (j + 1)) := by
  obtain ⟨F, G, s, r, h1, h2, h3, h4, h5, h6, h7, h8⟩ := h
  have hb : Below w.heap.size w w' := by rw [hw]; exact (Below.refl _ _).alloc (Nat.le_refl _) _
  exact ⟨F, G, s, r, ⟨h1.on hb, h2.on hb, h3, h4, h5, by rw [hw]; exact heap_alloc_new w _, fun e => by have := h1.2.2 _ e; omega, fun e => by have := h2.2 _ e; omega, h6.trans (hb.mono h6.size)⟩, h7, h8⟩
theorem Pr.rel {w0 w : World} {F G : Nat → Prop} {P Q X j : Nat} {cx : Array Value} {s : Ty.T} {r : Ty.R} (h : Pr w0 w F G P Q X cx s r) (hs : Ty.sim s r) (hm : s.sm (2000 * (j + 1))) : Rel9 w0 w P Q j := ⟨F, G, s, r, h.f, h.g, h.fB, h.gB, h.fg, h.b, hs, hm⟩
end Go.Proofs.Ythkglmkpnhhboaa
