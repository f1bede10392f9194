/-
  A range over a function that is a method's value: what is owed by the iterator and by the body is said in blocks: the body writes into blocks from B0 on that lay ahead of the loop, and lays new ones; the iterator lays new ones, and writes into its own. Of no program.
-/
import Derived.Test.YtknnkmakfcfnjaaDoorModRow
import Derived.RangeFuncNested
import Derived.Shelf.Abstract
namespace Go.Proofs.YtknnkmakfcfnjaaDoor
open Go.RowKit Go.Shelf
section
variable {α : Type} {F : Fence} {n : Nat} {P : Program}
/-- Blocks from B0 on, up to E. -/
abbrev From (B0 E : Nat) : Nat → Prop := fun b => B0 ≤ b ∧ b < E
/-- What an iterator comes to, called at yield: it goes over xs in order, as long as it may go on. K k: k have come; Z k: the k-th has said no more. Both speak of what lay when it was called. -/
def GoesOver (F : Fence) (n : Nat) (P : Program) (gf : FuncId) (rv : Value) (encs : α → Array Value) (xs : List α) (B0 E : Nat) (w : World) : Prop :=
  ∀ (l : Nat) (K Z : Nat → World → Prop) (W : World), Below w.heap.size w W →
    (∀ k A B, K k A → Below W.heap.size A B → K k B) → (∀ k A B, Z k A → Below W.heap.size A B → Z k B) →
    (∀ k x W1, xs[k]? = some x → K k W1 → W.heap.size ≤ W1.heap.size → YieldAt F (n - 1) P l (encs x) W1 fun e W' =>
      (e = .returned (.bool true) ∧ K (k + 1) W' ∧ Mod (fun b => From B0 E b ∨ (w.heap.size ≤ b ∧ b < W.heap.size)) W1 W') ∨ (e = .returned (.bool false) ∧ Z (k + 1) W' ∧ W1.heap.size ≤ W'.heap.size)) →
    K 0 W → CallsIn F n P gf #[rv, .func (.yield l) #[] #[]] W fun e W' => (∃ v, e = .returned v) ∧ (K xs.length W' ∨ ∃ k, k ≤ xs.length ∧ Z k W')
theorem mod_putObj {T : Nat → Prop} {a w : World} {l : Nat} (h : Mod T a w) (hl : T l) (o : Obj) : Mod T a (w.putObj l o) :=
  h.trans (T' := fun k => k = l) ⟨rfl, rfl, rfl, by simp, fun k _ hk => World.putObj_heap_other hk⟩ (fun k _ e => by subst e; exact hl)
theorem below_putObj {B l : Nat} (w : World) (hl : B ≤ l) (o : Obj) : Below B w (w.putObj l o) :=
  ⟨rfl, rfl, rfl, by simp, fun k hk => World.putObj_heap_other (by omega)⟩
/-- What the body of a round ends in, by the way it is left. -/
def bodyEnds (T : Nat → Prop) (I : Nat → World → Prop) (Ix : Nat → Code → World → Prop) (k : Nat) (W : World) : Exit → Act → World → Prop
  | .normal, _, W' => Mod T W W' ∧ I (k + 1) W'
  | .ret, _, W' => Mod T W W' ∧ Ix (k + 1) .ret W'
  | .exit id, _, W' => Mod T W W' ∧ Ix (k + 1) (.exit id) W'
  | .goto t, _, W' => Mod T W W' ∧ Ix (k + 1) (.goto t) W'
  | .panic _, _, _ => False
  | .outgrown, _, _ => False
theorem wpIn_range_bound {g : Operand} {ps : Array Tmp} {assign body : Code} {Q : Exit → Act → World → Prop} {a : Act} {w : World} (hro : F.round = none) (h1 : 1 ≤ n) {gf : FuncId} {rv : Value}
    (hg : a.eval g = .func (.func gf) #[rv] #[]) (hFg : F.fn gf) (eg : ∀ args w, (callFunc gf args).run P w = .ok (.enter gf args) w)
    {encs : α → Array Value} {xs : List α} {B0 E : Nat} (hE : E ≤ w.heap.size) (hgo : GoesOver F (n - 1) P gf rv encs xs B0 E w) (hps : ∀ x, (encs x).size = ps.size)
    (I : Nat → World → Prop) (Ix : Nat → Code → World → Prop) (hI : ∀ k A B, I k A → Below w.heap.size A B → I k B) (hIx : ∀ k c A B, Ix k c A → Below w.heap.size A B → Ix k c B) (h0 : I 0 w)
    (Ax : Nat → α → Act → World → Prop) (hAx : ∀ k x a₁ A B, Ax k x a₁ A → Mod (· = w.heap.size + 1) A B → Ax k x a₁ B)
    (hassign : ∀ l k x W, xs[k]? = some x → I k W → w.heap.size + 2 ≤ W.heap.size → assign.wpIn (F.inRound l) (n - 1 - 1) P (Exit.then (fun a₁ W' => Ax k x a₁ W' ∧ Mod (From B0 E) W W') (fun _ _ _ => False))
      { tmps := (ps.zip (encs x)).foldl (fun t (p, v) => t.setIfInBounds p v) a.tmps, defers := [] } W)
    (hbody : ∀ l k x a₁ W, xs[k]? = some x → Ax k x a₁ W → body.wpIn (F.inRound l) (n - 1 - 1) P (bodyEnds (From B0 E) I Ix k W) a₁ W)
    (hdone : ∀ W, I xs.length W → w.heap.size + 2 ≤ W.heap.size → W.heap[w.heap.size]? = some (.deferred (some [])) → Q .normal { a with defers := { target := .collected w.heap.size, args := #[] } :: a.defers } W)
    (hstop : ∀ k c W, k ≤ xs.length → Ix k c W → w.heap.size + 2 ≤ W.heap.size → W.heap[w.heap.size]? = some (.deferred (some [])) → c.wpIn F n P Q { a with defers := { target := .collected w.heap.size, args := #[] } :: a.defers } W) :
    (Code.rangeFunc g ps assign body).wpIn F n P Q a w := by
  refine wpIn_rangeFunc fun fn hfn => ?_
  rw [hro]
  obtain ⟨S, hS⟩ : ∃ S, w.heap.size = S := ⟨_, rfl⟩
  obtain ⟨R, hR⟩ : ∃ R : LoopState → Option Code → Obj, R = fun st pe => .loop { state := st, pending := pe, fn, tmps := a.tmps, params := ps, assign, body, defers := S } := ⟨_, rfl⟩
  obtain ⟨W0, hW0⟩ : ∃ W0, (w.alloc (.deferred (some []))).alloc (R .ready none) = W0 := ⟨_, rfl⟩
  have hb0 : Below S w W0 := by rw [← hW0, ← hS]; exact ((Below.refl _ w).alloc (Nat.le_refl _) _).alloc (by simp) _
  have hsz : W0.heap.size = S + 2 := by rw [← hW0]; simp [hS]
  have hl0 : W0.heap[S + 1]? = some (R .ready none) := by rw [← hW0, ← hS]; have := heap_alloc_new (w.alloc (.deferred (some []))) (R .ready none); simpa using this
  have hd0 : W0.heap[S]? = some (.deferred (some [])) := by rw [← hW0, ← hS]; exact (Below.heap_alloc _ _ _ (by simp)).trans (heap_alloc_new w _)
  have he : (Instr.enterLoop fn a.tmps ps assign body none).run P w = .ok (S + 1, [{ target := .collected S, args := #[] }]) W0 := by
    have h := run_enterLoop_outer (P := P) (w := w) fn a.tmps ps assign body
    rw [hS] at h
    rw [h, ← hW0, hR]
  -- between two rounds; behind a round that said no more
  let K : Nat → World → Prop := fun k W => I k W ∧ W.heap[S + 1]? = some (R .ready none) ∧ W.heap[S]? = some (.deferred (some []))
  let Z : Nat → World → Prop := fun k W => ∃ c, Ix k c W ∧ W.heap[S + 1]? = some (R .done (some c)) ∧ W.heap[S]? = some (.deferred (some []))
  refine ⟨S + 1, [{ target := .collected S, args := #[] }], W0, { target := .fn (.func gf) #[], args := #[rv] ++ #[.func (.yield (S + 1)) #[] #[]] }, W0, gf, #[rv, .func (.yield (S + 1)) #[] #[]], W0, he, ?_, ?_, ?_, fun _ => h1, ?_⟩
  · simp only [resolve, hg]
    simp [go_sem]
  · intro f' hf'
    simp [Target.leads] at hf'
    subst hf'
    exact hFg
  · simp [invoke, go_sem, eg]
  have keepK : ∀ k A B, K k A → Below W0.heap.size A B → K k B := fun k A B h hb =>
    ⟨hI k A B h.1 (hb.mono (by omega)), (hb.block (S + 1) (by omega)).trans h.2.1, (hb.block S (by omega)).trans h.2.2⟩
  have keepZ : ∀ k A B, Z k A → Below W0.heap.size A B → Z k B := fun k A B ⟨c, h, h2, h3⟩ hb =>
    ⟨c, hIx k c A B h (hb.mono (by omega)), (hb.block (S + 1) (by omega)).trans h2, (hb.block S (by omega)).trans h3⟩
  refine (hgo (S + 1) K Z W0 (by rw [hS]; exact hb0) keepK keepZ ?_ ⟨hI 0 w W0 h0 (by rw [hS]; exact hb0), hl0, hd0⟩).mono ?_
  · rintro k x W1 hx ⟨hi, hl, hd⟩ hle
    rw [hsz] at hle
    have hy := run_yield (P := P) (args := encs x) (r := { state := .ready, pending := none, fn, tmps := a.tmps, params := ps, assign, body, defers := S }) (by rw [hl, hR]) (hps x)
    refine ⟨fn, _, assign, body, hy, roundIn_of_wpIn hfn (wpIn_mono (hassign (S + 1) k x W1 hx hi (by rw [hS]; exact hle)) ?_)⟩
    intro e a₁ W2 hp
    cases e
    case normal =>
      obtain ⟨hax, hm⟩ := hp
      rw [hS] at hE
      have hl2 : W2.heap[S + 1]? = some (R .ready none) := hm.heap hl (by rintro ⟨_, h⟩; omega)
      have hd2 : W2.heap[S]? = some (.deferred (some [])) := hm.heap hd (by rintro ⟨_, h⟩; omega)
      have hlt2 : S + 1 < W2.heap.size := (Array.getElem?_eq_some_iff.1 hl2).1
      have hbg := run_beginRound (P := P) (w := W2) (l := S + 1) (r := { state := .ready, pending := none, fn, tmps := a.tmps, params := ps, assign, body, defers := S }) (by rw [hl2, hR]) rfl
      refine ⟨_, hbg, ?_⟩
      obtain ⟨W3, hW3⟩ : ∃ W3, W2.putObj (S + 1) (R .busy none) = W3 := ⟨_, rfl⟩
      have e3 : (W2.putObj (S + 1) (.loop { state := .busy, pending := none, fn, tmps := a.tmps, params := ps, assign, body, defers := S })) = W3 := by rw [← hW3, hR]
      rw [e3]
      have hl3 : W3.heap[S + 1]? = some (R .busy none) := by rw [← hW3]; exact World.putObj_heap_same hlt2
      have hd3 : W3.heap[S]? = some (.deferred (some [])) := by rw [← hW3]; exact (World.putObj_heap_other (by omega)).trans hd2
      have hm3 : Mod (fun b => From B0 E b ∨ (S ≤ b ∧ b < S + 2)) W1 W3 := by rw [← hW3]; exact mod_putObj (hm.more (fun _ _ h => .inl h)) (.inr ⟨by omega, by omega⟩) _
      have hax3 : Ax k x a₁ W3 := hAx k x a₁ W2 W3 hax (by rw [← hW3, hS]; exact mod_putObj (T := fun b => b = S + 1) (Mod.refl _ _) rfl _)
      refine wpIn_mono (hbody (S + 1) k x a₁ W3 hx hax3) ?_
      -- a round's end, whatever it is
      have fin : ∀ (j : Option Code) (W4 : World), Mod (From B0 E) W3 W4 → (Instr.endRound (S + 1) j).run P W4 = .ok (.bool j.isNone) (W4.putObj (S + 1) (R (if j.isNone then .ready else .done) j)) ∧
          (W4.putObj (S + 1) (R (if j.isNone then .ready else .done) j)).heap[S + 1]? = some (R (if j.isNone then .ready else .done) j) ∧ (W4.putObj (S + 1) (R (if j.isNone then .ready else .done) j)).heap[S]? = some (.deferred (some [])) ∧
          Mod (fun b => From B0 E b ∨ (S ≤ b ∧ b < S + 2)) W1 (W4.putObj (S + 1) (R (if j.isNone then .ready else .done) j)) ∧ Below w.heap.size W4 (W4.putObj (S + 1) (R (if j.isNone then .ready else .done) j)) := fun j W4 hm4 => by
        have hl4 : W4.heap[S + 1]? = some (R .busy none) := hm4.heap hl3 (by rintro ⟨_, h⟩; omega)
        have hd4 : W4.heap[S]? = some (.deferred (some [])) := hm4.heap hd3 (by rintro ⟨_, h⟩; omega)
        have hen := run_endRound (P := P) (w := W4) (l := S + 1) (r := { state := .busy, pending := none, fn, tmps := a.tmps, params := ps, assign, body, defers := S }) j (by rw [hl4, hR])
        refine ⟨by rw [hen, hR], World.putObj_heap_same (Array.getElem?_eq_some_iff.1 hl4).1, (World.putObj_heap_other (by omega)).trans hd4, mod_putObj (hm3.trans hm4 (fun _ _ h => .inl h)) (.inr ⟨by omega, by omega⟩) _, by rw [hS]; exact below_putObj _ (by omega) _⟩
      rintro e a4 W4 hp4
      cases e with
      | normal =>
        obtain ⟨q1, q2, q3, q4, q5⟩ := fin none W4 hp4.1
        exact ⟨_, _, q1, .inl ⟨rfl, ⟨hI _ _ _ hp4.2 q5, q2, q3⟩, by rw [hsz, hS]; exact q4⟩⟩
      | ret =>
        obtain ⟨q1, q2, q3, q4, q5⟩ := fin (some .ret) W4 hp4.1
        exact ⟨_, _, q1, .inr ⟨rfl, ⟨_, hIx _ _ _ _ hp4.2 q5, q2, q3⟩, q4.size⟩⟩
      | exit id =>
        obtain ⟨q1, q2, q3, q4, q5⟩ := fin (some (.exit id)) W4 hp4.1
        exact ⟨_, _, q1, .inr ⟨rfl, ⟨_, hIx _ _ _ _ hp4.2 q5, q2, q3⟩, q4.size⟩⟩
      | goto t =>
        obtain ⟨q1, q2, q3, q4, q5⟩ := fin (some (.goto t)) W4 hp4.1
        exact ⟨_, _, q1, .inr ⟨rfl, ⟨_, hIx _ _ _ _ hp4.2 q5, q2, q3⟩, q4.size⟩⟩
      | panic ch => exact hp4.elim
      | outgrown => exact hp4.elim
    all_goals exact hp.elim
  · rintro e W2 ⟨⟨v, rfl⟩, hend⟩
    rcases hend with ⟨hi, hl, hd⟩ | ⟨k, hk, c, hi, hl, hd⟩
    · have hen := run_endLoop (P := P) (w := W2) (l := S + 1) (r := { state := .ready, pending := none, fn, tmps := a.tmps, params := ps, assign, body, defers := S }) (by rw [hl, hR]) (by simp)
      have hlt := (Array.getElem?_eq_some_iff.1 hl).1
      refine ⟨none, _, hen, ?_⟩
      have := hdone (W2.putObj (S + 1) (.loop { state := .exhausted, pending := none, fn, tmps := a.tmps, params := ps, assign, body, defers := S })) (hI _ _ _ hi (by rw [hS]; exact below_putObj _ (by omega) _)) (by rw [hS]; simp; omega) (by rw [hS]; exact (World.putObj_heap_other (by omega)).trans hd)
      rw [hS] at this
      exact this
    · have hen := run_endLoop (P := P) (w := W2) (l := S + 1) (r := { state := .done, pending := some c, fn, tmps := a.tmps, params := ps, assign, body, defers := S }) (by rw [hl, hR]) (by simp)
      have hlt := (Array.getElem?_eq_some_iff.1 hl).1
      refine ⟨some c, _, hen, ?_⟩
      have := hstop k c (W2.putObj (S + 1) (.loop { state := .exhausted, pending := some c, fn, tmps := a.tmps, params := ps, assign, body, defers := S })) hk (hIx _ _ _ _ hi (by rw [hS]; exact below_putObj _ (by omega) _)) (by rw [hS]; simp; omega) (by rw [hS]; exact (World.putObj_heap_other (by omega)).trans hd)
      rw [hS] at this
      exact this
end
end Go.Proofs.YtknnkmakfcfnjaaDoor
