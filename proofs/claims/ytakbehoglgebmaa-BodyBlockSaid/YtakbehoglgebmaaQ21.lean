/-
  Layer 10's program: the walk over a body in memory; the calls of its stack.
-/
import Derived.Test.YtakbehoglgebmaaQ10
import Derived.Test.YtakbehoglgebmaaQ18
import Derived.Test.YtakbehoglgebmaaQ20
import Derived.Test.YtakbehoglgebmaaQ03
import Derived.Deep.QuietTactic
import Derived.BigQuiet
import Derived.Test.YtakbehoglgebmaaQ06
import Derived.WalkLawsBesides
import Derived.IntWalk
import Derived.Test.YtakbehoglgebmaaRows
import Derived.Test.YtakbehoglgebmaaQ01
import Derived.WalkKit
import Derived.RegionTactic
import Derived.Below
import Derived.Outline
import Derived.Lib.Hide
import Derived.Deep.RegionHeld3
import Derived.OwnWalk
import Derived.Test.YtakbehoglgebmaaQ12
import Derived.Deep.Cut
namespace Bo
/-- The type of the local of a number: parameters, and runs behind them. -/
def runs : List Bin.Lc → Nat → Option UInt8
  | [], _ => none
  | x :: l, i => if i < x.n then some x.t else runs l (i - x.n)
def local' (ps : List UInt8) (l : List Bin.Lc) (i : Nat) : Option UInt8 := if i < ps.length then ps[i]? else runs l (i - ps.length)
def locB (l : List Bin.Lc) : Bool := l.all fun x => x.n == 0 || (x.t == 127 || x.t == 126)
theorem sz_sm {K n : Nat} {s : Ty.T} (h : Sz K n s) : s.sm (n + K) := ⟨by have := h.1; omega, by have := h.2.1; omega, by have := h.2.2.1; omega, fun f hf => ⟨by have := (h.2.2.2 f hf).1; omega, by have := (h.2.2.2 f hf).2; omega⟩⟩
def ftP (t : Bin.FT) : List UInt8 × List UInt8 := (t.params, t.results)
end Bo
namespace Go.Proofs.Ytakbehoglgebmaa
open Go.RowKit Ins Bin Sp
instance : Lay Bool where
  size := 1
  rep _ _ x cs := cs = [.bool x]
  len h := by rw [h]; rfl
  mod h _ _ := h
  more h _ := h
/-- What a walk over a body is handed, in the world in which Check begins. -/
structure Ctx where
  w0 : World
  sp : Nat
  m : M
  ps : List UInt8
  rs : List UInt8
  ls : List Lc
  v1 : Value
  v2 : Value
  v3 : Value
  v4 : Value
def Ctx.B (C : Ctx) : Nat := C.w0.heap.size
structure Ctx.Good (C : Ctx) : Prop where
  space : SpaceV C.w0 C.sp C.m
  few : Few C.m
  funs : ∀ t ∈ funs C.m, t < 4294967296
  ps : SliceV C.w0 (· < C.w0.heap.size) C.ps C.v1
  rs : SliceV C.w0 (· < C.w0.heap.size) C.rs C.v2
  ls : SliceV C.w0 (· < C.w0.heap.size) C.ls C.v3
  lp : C.ps.length ≤ 1000
  lr : C.rs.length ≤ 1000
  ll : C.ls.length ≤ 1000
def Ctx.env (C : Ctx) : Bo.Env := ⟨fun i => (func C.m i).map Bo.ftP, ((tabs C.m)[0]?).isSome, fun i => (C.m.types[i]?).map Bo.ftP, fun i => Bo.local' C.ps C.ls i, fun i => ((globs C.m)[i]?).map fun g => (g.t, g.mu), ((mems C.m)[0]?).isSome, C.rs⟩
/-- The walk in block R, its stack in P; the walk's own blocks are G's. -/
structure Wk (C : Ctx) (R P : Nat) (w : World) (G : Nat → Prop) (s : Ty.T) (o : List Bool) : Prop where
  base : Below C.B C.w0 w
  all : ∃ F vo, w.heap[R]? = some (.cells #[.pointer (some ⟨C.sp, 0, none⟩), C.v1, C.v2, C.v3, C.v4, .pointer (some ⟨P, 0, none⟩), vo] 95 (0, 0)) ∧
    AtF w F P s ∧ OwnL 4 w C.B (fun _ => False) vo o ∧ (∀ k, F k → G k ∧ k ≠ R ∧ vo.ownBlock ≠ some k) ∧ (∀ k, vo.ownBlock = some k → G k ∧ k ≠ R)
  inR : G R
  out : ∀ k, G k → C.B ≤ k ∧ k < w.heap.size
/-- Apart from the walk's own blocks. -/
def Apt (w : World) (G : Nat → Prop) : Nat → Prop := fun k => ¬ G k ∧ k < w.heap.size
theorem Apt.next {α : Type} [Lay α] {w w' : World} {G G' : Nat → Prop} {xs : List α} {v : Value} (h : SliceV w (Apt w G) xs v) (hn : Nxt G w G' w') : SliceV w' (Apt w' G') xs v :=
  (h.mod hn.2 (fun _ _ hk => hk.1)).more (fun k _ hk => ⟨fun hg => by
    rcases hn.1 k hg with h | h
    · exact hk.1 h
    · have := hk.2; omega, Nat.lt_of_lt_of_le hk.2 hn.2.size⟩)
theorem Nxt.refl (G : Nat → Prop) (w : World) : Nxt G w G w := ⟨fun _ h => .inl h, Mod.refl _ _⟩
theorem Nxt.of_below {G : Nat → Prop} {w w' : World} (hb : Below w.heap.size w w') : Nxt G w G w' := ⟨fun _ h => .inl h, Mod.of_below hb⟩
theorem Nxt.trans {G G1 G2 : Nat → Prop} {w w1 w2 : World} (h : Nxt G w G1 w1) (h' : Nxt G1 w1 G2 w2) : Nxt G w G2 w2 :=
  ⟨fun k hk => by
    rcases h'.1 k hk with h1 | h1
    · exact h.1 k h1
    · exact .inr (Nat.le_trans h.2.size h1), h.2.trans h'.2 (fun k hk hg => by
    rcases h.1 k hg with h1 | h1
    · exact h1
    · omega)⟩
section
variable {C : Ctx} {R P n : Nat} {w : World} {G : Nat → Prop} {s : Ty.T} {o : List Bool}
theorem Wk.old {α : Type} [Lay α] {xs : List α} {v : Value} (h : Wk C R P w G s o) (hs : SliceV C.w0 (· < C.w0.heap.size) xs v) : SliceV w (Apt w G) xs v :=
  (hs.mod (Mod.of_base h.base) (fun k _ hk e => by have hk' : k < C.w0.heap.size := hk; have e' : C.w0.heap.size ≤ k := e; omega)).more (fun k hk hk2 => ⟨fun hg => by have := (h.out k hg).1; have hk3 : k < C.w0.heap.size := hk2; unfold Ctx.B at this; omega, hk⟩)
theorem Wk.fresh {α : Type} [Lay α] {w' : World} {xs : List α} {v : Value} (h : Wk C R P w G s o) (_hb : Below w.heap.size w w') (hs : SliceV w' (w.heap.size ≤ ·) xs v) : SliceV w' (Apt w' G) xs v :=
  hs.more (fun k hk hk2 => ⟨fun hg => by have := (h.out k hg).2; have hk3 : w.heap.size ≤ k := hk2; omega, hk⟩)
theorem Wk.on {w' : World} (h : Wk C R P w G s o) (hb : Below w.heap.size w w') : Wk C R P w' G s o := by
  obtain ⟨F, vo, h1, h2, h3, h4, h5⟩ := h.all
  refine ⟨h.base.trans (hb.mono h.base.size), ⟨F, vo, (hb.block R (Array.getElem?_eq_some_iff.1 h1).1).trans h1, h2.on hb, h3.mod (T := fun _ => False) (Mod.of_below hb) (fun _ _ h => h) (fun _ _ _ h => h), h4, h5⟩, h.inR, fun k hk => ⟨(h.out k hk).1, Nat.lt_of_lt_of_le (h.out k hk).2 hb.size⟩⟩
theorem Wk.lt (h : Wk C R P w G s o) : R < w.heap.size := (h.out R h.inR).2
theorem Wk.cells (h : Wk C R P w G s o) : w.cell? ⟨R, 0, none⟩ = some (.pointer (some ⟨C.sp, 0, none⟩)) ∧ w.cell? ⟨R, 1, none⟩ = some C.v1 ∧ w.cell? ⟨R, 2, none⟩ = some C.v2 ∧ w.cell? ⟨R, 3, none⟩ = some C.v3 ∧ w.cell? ⟨R, 4, none⟩ = some C.v4 ∧ w.cell? ⟨R, 5, none⟩ = some (.pointer (some ⟨P, 0, none⟩)) := by
  obtain ⟨F, vo, h1, _⟩ := h.all
  refine ⟨?_, ?_, ?_, ?_, ?_, ?_⟩ <;> (rw [cell_of_row w R _ _ _ (0, 0) h1]; rfl)
theorem Wk.below (h : Wk C R P w G s o) {w' : World} {G' : Nat → Prop} (hn : Nxt G w G' w') : Below C.B C.w0 w' :=
  h.base.trans (hn.2.below h.base.size (fun k hk hg => by have := (h.out k hg).1; omega))
/-- The stack has changed. -/
theorem Wk.stk {w' : World} {s' : Ty.T} {F F' : Nat → Prop} {vo : Value} (h : Wk C R P w G s o)
    (h1 : w.heap[R]? = some (.cells #[.pointer (some ⟨C.sp, 0, none⟩), C.v1, C.v2, C.v3, C.v4, .pointer (some ⟨P, 0, none⟩), vo] 95 (0, 0)))
    (h3 : OwnL 4 w C.B (fun _ => False) vo o) (h4 : ∀ k, F k → G k ∧ k ≠ R ∧ vo.ownBlock ≠ some k) (h5 : ∀ k, vo.ownBlock = some k → G k ∧ k ≠ R)
    (ha : AtF w' F' P s') (hn : Nxt F w F' w') : ∃ G', Wk C R P w' G' s' o ∧ Nxt G w G' w' := by
  have hb : Nxt G w (fun k => G k ∨ F' k) w' := ⟨fun k hk => by
    rcases hk with h | h
    · exact .inl h
    · exact (hn.1 k h).imp (fun h => (h4 k h).1) id, hn.2.more (fun k _ hf => (h4 k hf).1)⟩
  refine ⟨fun k => G k ∨ F' k, ⟨h.below hb, ⟨F', vo, hn.2.heap h1 (fun hf => (h4 R hf).2.1 rfl), ha, h3.mod hn.2 (fun g hg hf => (h4 g hf).2.2 hg) (fun _ _ h => h.elim), fun k hk => ⟨.inr hk, ?_, ?_⟩, fun k hk => ⟨.inl (h5 k hk).1, (h5 k hk).2⟩⟩, .inl h.inR, fun k hk => ?_⟩, hb⟩
  · rcases hn.1 k hk with hf | hf
    · exact (h4 k hf).2.1
    · have := h.lt; omega
  · rcases hn.1 k hk with hf | hf
    · exact (h4 k hf).2.2
    · intro e
      have := (h3.lt k e).2
      omega
  · rcases hk with hk | hk
    · exact ⟨(h.out k hk).1, Nat.lt_of_lt_of_le (h.out k hk).2 hn.2.size⟩
    · refine ⟨?_, ha.2.2 k hk⟩
      rcases hn.1 k hk with hf | hf
      · exact (h.out k (h4 k hf).1).1
      · exact Nat.le_trans h.base.size hf
theorem SliceV.form {w : World} {S : Nat → Prop} {l : List UInt8} {v : Value} (h : SliceV w S l v) : ∃ A c, v = .slice A l.length c ∧ Has w w.heap.size A l := by
  obtain ⟨A, c, h1, _, _, _, h5⟩ := h
  exact ⟨A, c, h1, h5.has⟩
theorem wk_push (h : Wk C R P w G s o) (hs : s.sm n) (hn : n ≤ 500000000) (l : List UInt8) (v : Value) (hv : SliceV w (Apt w G) l v) (hl : l.length ≤ 400000000) :
    Calls Try.prog 68 #[.pointer (some ⟨P, 0, none⟩), v] w fun e w' => e = .returned (.tuple #[]) ∧ ∃ G', Wk C R P w' G' (s.push l) o ∧ Nxt G w G' w' := by
  obtain ⟨F, vo, h1, h2, h3, h4, h5⟩ := h.all
  obtain ⟨A, c, rfl, hA⟩ := hv.form
  refine (at_push h2 hs hn l A c hA hl).mono ?_
  rintro e w' ⟨rfl, F', q1, q2⟩
  exact ⟨rfl, h.stk h1 h3 h4 h5 q1 q2⟩
theorem wk_want (h : Wk C R P w G s o) (hs : s.sm n) (hn : n ≤ 500000000) (l : List UInt8) (v : Value) (hv : SliceV w (Apt w G) l v) (hl : l.length ≤ 400000000) :
    Calls Try.prog 67 #[.pointer (some ⟨P, 0, none⟩), v] w fun e w' => e = .returned (.bool (s.wantA l)) ∧ ∃ G', Wk C R P w' G' (s.want l) o ∧ Nxt G w G' w' := by
  obtain ⟨F, vo, h1, h2, h3, h4, h5⟩ := h.all
  obtain ⟨A, c, rfl, hA⟩ := hv.form
  refine (at_want h2 hs hn l A c hA hl).mono ?_
  rintro e w' ⟨rfl, F', q1, q2⟩
  exact ⟨rfl, h.stk h1 h3 h4 h5 q1 q2⟩
theorem wk_pop (h : Wk C R P w G s o) (hs : s.sm n) (hn : n ≤ 500000000) :
    Calls Try.prog 76 #[.pointer (some ⟨P, 0, none⟩)] w fun e w' => e = .returned (.tuple #[.int .u8 (s.popA.1.toNat : Int), .bool s.popA.2]) ∧ ∃ G', Wk C R P w' G' s.pop o ∧ Nxt G w G' w' := by
  obtain ⟨F, vo, h1, h2, h3, h4, h5⟩ := h.all
  refine (at_pop h2 hs hn).mono ?_
  rintro e w' ⟨rfl, F', q1, q2⟩
  exact ⟨rfl, h.stk h1 h3 h4 h5 q1 q2⟩
theorem wk_dead (h : Wk C R P w G s o) (hs : s.sm n) (hn : n ≤ 500000000) :
    Calls Try.prog 87 #[.pointer (some ⟨P, 0, none⟩)] w fun e w' => e = .returned (.tuple #[]) ∧ ∃ G', Wk C R P w' G' s.kill o ∧ Nxt G w G' w' := by
  obtain ⟨F, vo, h1, h2, h3, h4, h5⟩ := h.all
  refine (at_dead h2 hs hn).mono ?_
  rintro e w' ⟨rfl, F', q1, q2⟩
  exact ⟨rfl, h.stk h1 h3 h4 h5 q1 q2⟩
theorem wk_open (h : Wk C R P w G s o) (hs : s.sm n) (hn : n ≤ 500000000) (a b : List UInt8) (va vb : Value) (ha : SliceV w (Apt w G) a va) (hb : SliceV w (Apt w G) b vb) (hl1 : a.length ≤ 400000000) (hl2 : b.length ≤ 400000000) :
    Calls Try.prog 36 #[.pointer (some ⟨P, 0, none⟩), va, vb] w fun e w' => e = .returned (.tuple #[]) ∧ ∃ G', Wk C R P w' G' (s.op a b) o ∧ Nxt G w G' w' := by
  obtain ⟨F, vo, h1, h2, h3, h4, h5⟩ := h.all
  refine (at_open h2 hs hn a b va vb (ha.more (fun _ hk _ => hk)) (hb.more (fun _ hk _ => hk)) hl1 hl2).mono ?_
  rintro e w' ⟨rfl, F', q1, q2⟩
  exact ⟨rfl, h.stk h1 h3 h4 h5 q1 q2⟩
theorem wk_label (h : Wk C R P w G s o) (hs : s.sm n) (hn : n ≤ 500000000) (k : Nat) (hk : k < 4294967296) :
    Calls Try.prog 69 #[.pointer (some ⟨P, 0, none⟩), .int .u32 (k : Int)] w fun e w' => ansS (w.heap.size ≤ ·) (s.labelA k) e w' ∧ Below w.heap.size w w' := by
  obtain ⟨F, vo, h1, h2, h3, h4, h5⟩ := h.all
  exact at_label h2 hs hn k hk
end
/-- What an instruction's method comes to. -/
def WPost (C : Ctx) (R P : Nat) (G : Nat → Prop) (o' : List Bool) (w : World) (r : Bo.R) (e : Ending) (w' : World) : Prop :=
  match r with
  | .error n => e = .returned (.int .i64 (n : Int)) ∧ Below C.B C.w0 w'
  | .ok s' => e = .returned (.int .i64 0) ∧ ∃ G', Wk C R P w' G' s' o' ∧ Nxt G w G' w'
theorem WPost.ahead {C : Ctx} {R P : Nat} {G G1 : Nat → Prop} {o' : List Bool} {w w1 w' : World} {r : Bo.R} {e : Ending} (hn : Nxt G w G1 w1) (h : WPost C R P G1 o' w1 r e w') : WPost C R P G o' w r e w' := by
  cases r with
  | error n => exact h
  | ok s' =>
    obtain ⟨h1, G', h2, h3⟩ := h
    exact ⟨h1, G', h2, hn.trans h3⟩
end Go.Proofs.Ytakbehoglgebmaa
/-
  Layer 10's program: turned, goes: types are wanted, and pushed, or nothing is reached behind. (gen/body/turn.py)
-/
namespace Go.Proofs.Ytakbehoglgebmaa
open Go.RowKit Ins Bin Sp
/-- What lies apart from the walk's blocks stays, and apart. -/
theorem Nxt.keep {G G' : Nat → Prop} {w w' : World} {X : Nat} {ob : Obj} (hn : Nxt G w G' w') (hX : w.heap[X]? = some ob) (hg : ¬ G X ∧ X < w.heap.size) : w'.heap[X]? = some ob ∧ ¬ G' X ∧ X < w'.heap.size :=
  ⟨hn.2.heap hX hg.1, fun hg' => by
    rcases hn.1 X hg' with h | h
    · exact hg.1 h
    · omega, Nat.lt_of_lt_of_le hg.2 hn.2.size⟩
set_option maxRecDepth 100000 in
set_option maxHeartbeats 4000000 in
theorem turned_any {C : Ctx} {R P n : Nat} {w : World} {G : Nat → Prop} {s : Ty.T} {o : List Bool} (h : Wk C R P w G s o) (hs : s.sm n) (hn : n ≤ 400000000) (a b : List UInt8) (va vb : Value) (ha : SliceV w (Apt w G) a va) (hb : SliceV w (Apt w G) b vb) (hla : a.length ≤ 400000000) (hlb : b.length ≤ 400000000) :
    Calls Try.prog 71 #[.pointer (some ⟨R, 0, none⟩), va, vb] w (WPost C R P G o w (Bo.turned s a b)) := by
  obtain ⟨_, _, _, _, _, q5⟩ := h.cells
  have HW := wk_want h hs (by omega) a va ha hla
  cases hw : s.wantA a with
  | false =>
    rw [hw] at HW
    have HT : Hid (Bo.turned s a b = .error 100) := Lib.hid (by unfold Bo.turned; rw [hw]; rfl)
    have HH := Lib.hid h
    have HC := Lib.hid HW
    obtain ⟨A1, c1, rfl, _⟩ := ha
    obtain ⟨A2, c2, rfl, _⟩ := hb
    generalize a.length = n1 at HC ⊢
    generalize b.length = n2 at ⊢
    clear HW hw h hs hn hla hlb
    go_enter Try.func71, Try.ntmps71
    go_wp2_with (go_at_call 67; refine HC.out.mono ?_; rintro e w1 ⟨rfl, G1, h1, n1⟩; have HN1 := Lib.hid n1; clear h1 n1)
    go_ret
    rw [HT.out]
    exact ⟨rfl, HH.out.below HN1.out⟩
  | true =>
    rw [hw] at HW
    have HT : Hid (Bo.turned s a b = .ok ((s.want a).push b)) := Lib.hid (by unfold Bo.turned; rw [hw]; rfl)
    have HC := Lib.hid HW
    have HP : Hid (∀ W G1, Wk C R P W G1 (s.want a) o → Nxt G w G1 W → Calls Try.prog 68 #[.pointer (some ⟨P, 0, none⟩), vb] W fun e w' => e = .returned (.tuple #[]) ∧ ∃ G', Wk C R P w' G' ((s.want a).push b) o ∧ Nxt G1 W G' w') := Lib.hid (fun W G1 h1 hn1 => wk_push h1 (Ty.sm_want hs a) (by omega) b vb (Apt.next hb hn1) hlb)
    obtain ⟨A1, c1, rfl, _⟩ := ha
    obtain ⟨A2, c2, rfl, _⟩ := hb
    generalize a.length = n1 at HC ⊢
    generalize b.length = n2 at HP ⊢
    clear HW hw h hs hn hla hlb
    go_enter Try.func71, Try.ntmps71
    go_wp2_with (first | (go_at_call 67; refine HC.out.mono ?_; rintro e w1 ⟨rfl, G1, h1, n1⟩; have H1 := Lib.hid h1; have HN1 := Lib.hid n1; obtain ⟨_, _, _, _, _, y5⟩ := h1.cells; clear h1 n1) | (go_at_call 68; refine (HP.out _ _ H1.out HN1.out).mono ?_; rintro e w2 ⟨rfl, G2, h2, n2⟩; have H2 := Lib.hid h2; have HN2 := Lib.hid n2; clear h2 n2))
    go_ret
    rw [HT.out]
    exact ⟨rfl, _, H2.out, HN1.out.trans HN2.out⟩
set_option maxRecDepth 100000 in
set_option maxHeartbeats 4000000 in
theorem goes_any {C : Ctx} {R P n : Nat} {w : World} {G : Nat → Prop} {s : Ty.T} {o : List Bool} (h : Wk C R P w G s o) (hs : s.sm n) (hn : n ≤ 400000000) (a : List UInt8) (va : Value) (ha : SliceV w (Apt w G) a va) (hla : a.length ≤ 400000000) :
    Calls Try.prog 70 #[.pointer (some ⟨R, 0, none⟩), va] w (WPost C R P G o w (Bo.goes s a)) := by
  obtain ⟨_, _, _, _, _, q5⟩ := h.cells
  have HW := wk_want h hs (by omega) a va ha hla
  cases hw : s.wantA a with
  | false =>
    rw [hw] at HW
    have HT : Hid (Bo.goes s a = .error 100) := Lib.hid (by unfold Bo.goes; rw [hw]; rfl)
    have HH := Lib.hid h
    have HC := Lib.hid HW
    obtain ⟨A1, c1, rfl, _⟩ := ha
    generalize a.length = n1 at HC ⊢
    clear HW hw h hs hn hla
    go_enter Try.func70, Try.ntmps70
    go_wp2_with (go_at_call 67; refine HC.out.mono ?_; rintro e w1 ⟨rfl, G1, h1, n1⟩; have HN1 := Lib.hid n1; clear h1 n1)
    go_ret
    rw [HT.out]
    exact ⟨rfl, HH.out.below HN1.out⟩
  | true =>
    rw [hw] at HW
    have HT : Hid (Bo.goes s a = .ok (s.want a).kill) := Lib.hid (by unfold Bo.goes; rw [hw]; rfl)
    have HC := Lib.hid HW
    have HP : Hid (∀ W G1, Wk C R P W G1 (s.want a) o → Calls Try.prog 87 #[.pointer (some ⟨P, 0, none⟩)] W fun e w' => e = .returned (.tuple #[]) ∧ ∃ G', Wk C R P w' G' (s.want a).kill o ∧ Nxt G1 W G' w') := Lib.hid (fun W G1 h1 => wk_dead h1 (Ty.sm_want hs a) (by omega))
    obtain ⟨A1, c1, rfl, _⟩ := ha
    generalize a.length = n1 at HC ⊢
    clear HW hw h hs hn hla
    go_enter Try.func70, Try.ntmps70
    go_wp2_with (first | (go_at_call 67; refine HC.out.mono ?_; rintro e w1 ⟨rfl, G1, h1, n1⟩; have H1 := Lib.hid h1; have HN1 := Lib.hid n1; obtain ⟨_, _, _, _, _, y5⟩ := h1.cells; clear h1 n1) | (go_at_call 87; refine (HP.out _ _ H1.out).mono ?_; rintro e w2 ⟨rfl, G2, h2, n2⟩; have H2 := Lib.hid h2; have HN2 := Lib.hid n2; clear h2 n2))
    go_ret
    rw [HT.out]
    exact ⟨rfl, _, H2.out, HN1.out.trans HN2.out⟩
end Go.Proofs.Ytakbehoglgebmaa
/-
  Layer 10's program: opc.Sig once more, what is told in blocks of the call's own; literals.
-/
namespace Go.Proofs.Ytakbehoglgebmaa
open Go.RowKit Ins Bin Sp
/-- A literal of bytes. -/
theorem litN (w : World) (l : List UInt8) (vs : Array Value) (hv : vs = (bytesOf l).toArray) (n : Nat) (hn : n = l.length) (hl : l.length ≤ 1000) :
    SliceV (w.alloc (.cells vs 5)) (w.heap.size ≤ ·) l (.slice (some ⟨w.heap.size, 0, none⟩) n n) := by
  subst hv hn
  refine ⟨_, l.length, rfl, Nat.le_refl _, by unfold maxLen; omega, fun e => (by cases e), fun k x hk => ⟨w.heap.size, 0, [.int .u8 (x.toNat : Int)], rfl, Nat.le_refl _, by simp, rfl, fun j u hj => ?_⟩⟩
  cases j with
  | zero =>
    simp at hj
    subst hj
    obtain ⟨ad, e, _, hc⟩ := Has.lit w l 5 k x hk
    injection e with e
    subst e
    have e2 : (⟨w.heap.size, 0, none⟩ : Addr).add k = ⟨w.heap.size, 0 + k * 1 + 0, none⟩ := by
      unfold Addr.add; split <;> simp_all
    rw [e2] at hc
    exact hc
  | succ j => simp at hj
theorem lit1 (w : World) (x : UInt8) : SliceV (w.alloc (.cells #[.int .u8 (x.toNat : Int)] 5)) (w.heap.size ≤ ·) [x] (.slice (some ⟨w.heap.size, 0, none⟩) 1 1) := litN w [x] _ rfl 1 rfl (by simp)
def SigPostV (p r : List UInt8) (ok : Bool) (w : World) (e : Ending) (w' : World) : Prop :=
  ∃ A B, e = .returned (.tuple #[.slice A p.length p.length, .slice B r.length r.length, .bool ok]) ∧ SliceV w' (w.heap.size ≤ ·) p (.slice A p.length p.length) ∧ SliceV w' (w.heap.size ≤ ·) r (.slice B r.length r.length) ∧ Below w.heap.size w w'
theorem sigV_both (p r : List UInt8) (p' r' : List UInt8) (w : World) (t : TypeId) (e : Ending) (w' : World) (hp : p' = p) (hr : r' = r)
    (he : e = .returned (.tuple #[.slice (some ⟨w.heap.size, 0, none⟩) p.length p.length, .slice (some ⟨w.heap.size + 1, 0, none⟩) r.length r.length, .bool true]))
    (hw : w' = (w.alloc (.cells (bytesOf p).toArray t)).alloc (.cells (bytesOf r).toArray t)) (ok : Bool) (hok : ok = true) (ht : t = 5 := by rfl) (h1 : p.length ≤ 1000 := by simp) (h2 : r.length ≤ 1000 := by simp) : SigPostV p' r' ok w e w' := by
  subst hp hr he hw hok ht
  refine ⟨_, _, rfl, ?_, ?_, ((Below.refl _ _).alloc (Nat.le_refl _) _).alloc (by simp) _⟩
  · exact (litN w p' _ rfl _ rfl h1).mod (T := fun _ => False) (Mod.of_below ((Below.refl _ _).alloc (Nat.le_refl _) _)) (fun _ _ _ h => h)
  · have h := litN (w.alloc (.cells (bytesOf p').toArray 5)) r' _ rfl _ rfl h2
    simp only [World.alloc, Array.size_push] at h
    exact h.more (fun k _ hk => by have hk' : w.heap.size + 1 ≤ k := hk; show w.heap.size ≤ k; omega)
theorem sigV_left (p : List UInt8) (p' r' : List UInt8) (w : World) (t : TypeId) (e : Ending) (w' : World) (hp : p' = p) (hr : r' = []) 
    (he : e = .returned (.tuple #[.slice (some ⟨w.heap.size, 0, none⟩) p.length p.length, .slice none 0 0, .bool true]))
    (hw : w' = w.alloc (.cells (bytesOf p).toArray t)) (ok : Bool) (hok : ok = true) (ht : t = 5 := by rfl) (h1 : p.length ≤ 1000 := by simp) : SigPostV p' r' ok w e w' := by
  subst hp hr he hw hok ht
  exact ⟨_, _, rfl, litN w p' _ rfl _ rfl h1, SliceV.nil _ _, (Below.refl _ _).alloc (Nat.le_refl _) _⟩
theorem sigV_right (r : List UInt8) (p' r' : List UInt8) (w : World) (t : TypeId) (e : Ending) (w' : World) (hp : p' = []) (hr : r' = r) 
    (he : e = .returned (.tuple #[.slice none 0 0, .slice (some ⟨w.heap.size, 0, none⟩) r.length r.length, .bool true]))
    (hw : w' = w.alloc (.cells (bytesOf r).toArray t)) (ok : Bool) (hok : ok = true) (ht : t = 5 := by rfl) (h1 : r.length ≤ 1000 := by simp) : SigPostV p' r' ok w e w' := by
  subst hp hr he hw hok ht
  exact ⟨_, _, rfl, SliceV.nil _ _, litN w r' _ rfl _ rfl h1, (Below.refl _ _).alloc (Nat.le_refl _) _⟩
theorem sigV_none (p' r' : List UInt8) (w : World) (hp : p' = []) (hr : r' = []) (ok : Bool) (hok : ok = false) : SigPostV p' r' ok w (.returned (.tuple #[.slice none 0 0, .slice none 0 0, .bool false])) w := by
  subst hp hr hok
  exact ⟨_, _, rfl, SliceV.nil _ _, SliceV.nil _ _, Below.refl _ _⟩
set_option maxHeartbeats 1000000 in
theorem sigV_any (x : Int) (w : World) : Calls Try.prog 80 #[.int .u8 x] w (SigPostV (Opc.sigP x) (Opc.sigR x) (Opc.plain x) w) := by
  by_cases h40 : x < 40
  · have hp := Lib.hid (show Opc.plain x = false by simp [Opc.plain]; omega)
    have h40b : decide (x < 40) = true := by simpa using h40
    go_enter Try.func80, Try.ntmps80
    go_wp2_with fail
    go_ret3
    exact sigV_none _ _ _ (by simp [Opc.sigP, hp.out]) (by simp [Opc.sigR, hp.out]) _ hp.out
  have h40b : decide (x < 40) = false := by simpa using h40
  cases hk : Opc.known x
  · have hp := Lib.hid (show Opc.plain x = false by simp [Opc.plain, hk])
    go_enter Try.func80, Try.ntmps80
    go_wp2_with (go_at_call 61; refine (known_any _ _).mono ?_; rintro e w' ⟨rfl, rfl⟩)
    go_ret3
    exact sigV_none _ _ _ (by simp [Opc.sigP, hp.out]) (by simp [Opc.sigR, hp.out]) _ hp.out
  have hp := Lib.hid (show Opc.plain x = true by simp [Opc.plain, hk]; omega)
  go_enter Try.func80, Try.ntmps80
  go_wp2_with (first | (go_at_call 61; refine (known_any _ _).mono ?_; rintro e w' ⟨rfl, rfl⟩) | (go_at_call 95; refine (typeU_any _ _).mono ?_; rintro e w' ⟨rfl, rfl⟩) | (go_at_call 83; refine (within_any _ _ _ _).mono ?_; rintro e w' ⟨rfl, rfl⟩))
  all_goals go_ret3
  all_goals first
    | exact sigV_both [127] [Opc.typeU x] _ _ _ 5 _ _ (by have := hp.out; simp_all [Opc.sigP] <;> (repeat rw [if_neg (by omega)])) (by have := hp.out; simp_all [Opc.sigR] <;> (repeat rw [if_neg (by omega)])) rfl rfl _ hp.out
    | exact sigV_left [127, Opc.typeU x] _ _ _ 5 _ _ (by have := hp.out; simp_all [Opc.sigP] <;> (repeat rw [if_neg (by omega)])) (by have := hp.out; simp_all [Opc.sigR] <;> (repeat rw [if_neg (by omega)])) rfl rfl _ hp.out
    | exact sigV_right [Opc.typeU x] _ _ _ 5 _ _ (by have := hp.out; simp_all [Opc.sigP] <;> (repeat rw [if_neg (by omega)])) (by have := hp.out; simp_all [Opc.sigR] <;> (repeat rw [if_neg (by omega)])) rfl rfl _ hp.out
    | exact sigV_both [Opc.typeU x] [127] _ _ _ 5 _ _ (by have := hp.out; simp_all [Opc.sigP] <;> (repeat rw [if_neg (by omega)])) (by have := hp.out; simp_all [Opc.sigR] <;> (repeat rw [if_neg (by omega)])) rfl rfl _ hp.out
    | exact sigV_both [Opc.typeU x, Opc.typeU x] [127] _ _ _ 5 _ _ (by have := hp.out; simp_all [Opc.sigP] <;> (repeat rw [if_neg (by omega)])) (by have := hp.out; simp_all [Opc.sigR] <;> (repeat rw [if_neg (by omega)])) rfl rfl _ hp.out
    | exact sigV_both [Opc.typeU x] [Opc.typeU x] _ _ _ 5 _ _ (by have := hp.out; simp_all [Opc.sigP] <;> (repeat rw [if_neg (by omega)])) (by have := hp.out; simp_all [Opc.sigR] <;> (repeat rw [if_neg (by omega)])) rfl rfl _ hp.out
    | exact sigV_both [Opc.typeU x, Opc.typeU x] [Opc.typeU x] _ _ _ 5 _ _ (by have := hp.out; simp_all [Opc.sigP] <;> (repeat rw [if_neg (by omega)])) (by have := hp.out; simp_all [Opc.sigR] <;> (repeat rw [if_neg (by omega)])) rfl rfl _ hp.out
    | exact sigV_both [126] [Opc.typeU x] _ _ _ 5 _ _ (by have := hp.out; simp_all [Opc.sigP] <;> (repeat rw [if_neg (by omega)])) (by have := hp.out; simp_all [Opc.sigR] <;> (repeat rw [if_neg (by omega)])) rfl rfl _ hp.out
end Go.Proofs.Ytakbehoglgebmaa
/-
  The contracts of instr's functions that only compute: hasA, isBlockType, fits: they tell what the plain functions tell.
-/
namespace Go.Proofs.Ytakbehoglgebmaa
open Go.RowKit Ins
theorem hasA_any (f : Int) (w : World) : Calls Try.prog 62 #[.int .u8 f] w fun e w' => e = .returned (.bool (Ins.hasA f)) ∧ w = w' := by
  go_enter Try.func62, Try.ntmps62
  go_wp2
  all_goals (go_ret; exact ⟨ret_b (by unfold Ins.hasA; simp_all), rfl⟩)
theorem block_any (a : Nat) (w : World) : Calls Try.prog 63 #[.int .u32 (a : Int)] w fun e w' => e = .returned (.bool (Ins.blockB a)) ∧ w = w' := by
  have e : Ins.blockB a = ((a : Int) == 64 || (a : Int) == 127 || (a : Int) == 126) := by
    unfold Ins.blockB
    rw [Bool.eq_iff_iff]; simp; omega
  rw [e]
  go_enter Try.func63, Try.ntmps63
  go_wp2
  all_goals (go_ret; exact ⟨ret_b (by simp_all), rfl⟩)
end Go.Proofs.Ytakbehoglgebmaa
/-
  The reader: where it has come to, as the world has it; its byte.
-/
namespace Go.Proofs.Ytakbehoglgebmaa
open Go.RowKit Ins
end Go.Proofs.Ytakbehoglgebmaa
/-
  The reader's number of 32 bits, and its constant.
-/
namespace Ins
open Leb
end Ins
namespace Go.Proofs.Ytakbehoglgebmaa
open Go.RowKit Ins
end Go.Proofs.Ytakbehoglgebmaa
/-
  The reader's opcode, block's type and zero.
-/
namespace Go.Proofs.Ytakbehoglgebmaa
open Go.RowKit Ins
end Go.Proofs.Ytakbehoglgebmaa
/-
  The reader's labels: so many numbers, in a row of the call's own.
-/
namespace Ins
end Ins
namespace Go.Proofs.Ytakbehoglgebmaa
open Go.RowKit Ins
/-- A row of the call's own reads as its numbers. -/
theorem HasU.own {w : World} {base n : Nat} {e : TypeId} {v : Value} {l : List Nat} (h : w.ownsRow base e 1 v n (u32s l)) : ∃ (A : Option Addr) (c : Nat), v = .slice A l.length c ∧ n = l.length ∧ l.length ≤ c ∧ c ≤ maxLen ∧ HasU w (base ≤ ·) A l := by
  have hl := h.1
  rw [u32s_length, Nat.mul_one] at hl
  subst hl
  rcases h.2 with ⟨rfl, h0⟩ | ⟨g, cap, cur, rfl, hb, hh, hc, hm, _, htk⟩
  · have : l = [] := List.eq_nil_of_length_eq_zero h0
    subst this
    exact ⟨none, 0, rfl, rfl, Nat.le_refl _, by unfold maxLen; omega, HasU.nil _ _ _⟩
  · refine ⟨_, cap, rfl, rfl, hc, hm, fun k n hk => ⟨g, 0, rfl, hb, ?_⟩⟩
    have hkl : k < l.length := (List.getElem?_eq_some_iff.1 hk).1
    have e1 := u32s_at hk
    rw [← htk, Nat.mul_one, List.getElem?_take, if_pos hkl] at e1
    rw [Nat.zero_add, cell_of_row w g k cur e (0, 0) hh]
    simpa using e1
end Go.Proofs.Ytakbehoglgebmaa
/-
  The reader's instruction: by its form what stands behind its opcode, in a struct of the call's own.
-/
namespace Go.Proofs.Ytakbehoglgebmaa
open Go.RowKit Ins
theorem insCells_one (x : I) (A : Option Addr) (c : Nat) : ∀ u ∈ insCells x A c, u.oneCell' = true := by
  intro u hu
  simp only [insCells, List.mem_cons, List.not_mem_nil, or_false] at hu
  rcases hu with rfl | rfl | rfl | rfl | rfl <;> rfl
theorem cells5 {w : World} {X : Nat} {x0 x1 x2 x3 x4 : Value} {t : TypeId} (h : w.heap[X]? = some (.cells #[x0, x1, x2, x3, x4] t (0, 0))) :
    w.cell? ⟨X, 0, none⟩ = some x0 ∧ w.cell? ⟨X, 1, none⟩ = some x1 ∧ w.cell? ⟨X, 2, none⟩ = some x2 ∧ w.cell? ⟨X, 3, none⟩ = some x3 ∧ w.cell? ⟨X, 4, none⟩ = some x4 := by
  refine ⟨?_, ?_, ?_, ?_, ?_⟩ <;> (rw [cell_of_row w X _ _ t (0, 0) h]; rfl)
end Go.Proofs.Ytakbehoglgebmaa
