/-
  A range over a method's value whose iterator keeps blocks of its own (the set T, that grows with time), and whose body may lay blocks and keep them (a slice appended to). Of no program.
-/
import Derived.Test.YtknnkmakfcfnjaaDoorRangeB
namespace Go.Proofs.YtknnkmakfcfnjaaDoor
open Go.RowKit Go.Shelf
section
variable {α : Type} {F : Fence} {n : Nat} {P : Program}
/-- The iterator's own blocks, from world A to world B: what is new among them was laid behind A. -/
def Grows (T T' : Nat → Prop) (A B : World) : Prop := (∀ b, T b → T' b) ∧ (∀ b, T' b → T b ∨ A.heap.size ≤ b) ∧ ∀ b, T' b → b < B.heap.size
theorem Grows.same {T : Nat → Prop} {A B : World} (h : ∀ b, T b → b < A.heap.size) (hs : A.heap.size ≤ B.heap.size) : Grows T T A B := ⟨fun _ h => h, fun _ h => .inl h, fun b hb => Nat.lt_of_lt_of_le (h b hb) hs⟩
/-- What an iterator with blocks of its own comes to, called at yield. -/
def GoesOwn (F : Fence) (n : Nat) (P : Program) (gf : FuncId) (rv : Value) (encs : α → Array Value) (xs : List α) (B0 : Nat) (w : World) : Prop :=
  ∀ (l : Nat) (K Z : Nat → (Nat → Prop) → World → Prop) (W : World), Below w.heap.size w W →
    (∀ k T T' A B, K k T A → Mod T A B → Grows T T' A B → K k T' B) → (∀ k T T' A B, Z k T A → Mod T A B → Grows T T' A B → Z k T' B) →
    (∀ k x T W1, xs[k]? = some x → K k T W1 → W.heap.size ≤ W1.heap.size → YieldAt F (n - 1) P l (encs x) W1 fun e W' =>
      (e = .returned (.bool true) ∧ K (k + 1) T W' ∧ Mod (fun b => B0 ≤ b ∧ ¬ T b) W1 W') ∨ (e = .returned (.bool false) ∧ Z (k + 1) T W' ∧ W1.heap.size ≤ W'.heap.size)) →
    K 0 (fun _ => False) W → CallsIn F n P gf #[rv, .func (.yield l) #[] #[]] W fun e W' => (∃ v, e = .returned v) ∧ ∃ T, (K xs.length T W' ∨ ∃ k, k ≤ xs.length ∧ Z k T W')
/-- Where the body may write: not into the iterator's own, nor into the loop's two. -/
abbrev Outs (B0 S : Nat) (T : Nat → Prop) : Nat → Prop := fun b => B0 ≤ b ∧ ¬ T b ∧ b ≠ S ∧ b ≠ S + 1
theorem wpIn_range_own {g : Operand} {ps : Array Tmp} {assign body : Code} {Q : Exit → Act → World → Prop} {a : Act} {w : World} (hro : F.round = none) (h1 : 1 ≤ n) {gf : FuncId} {rv : Value}
    (hg : a.eval g = .func (.func gf) #[rv] #[]) (hFg : F.fn gf) (eg : ∀ args w, (callFunc gf args).run P w = .ok (.enter gf args) w)
    {encs : α → Array Value} {xs : List α} {B0 : Nat} (hB0 : B0 ≤ w.heap.size) (hgo : GoesOwn F (n - 1) P gf rv encs xs B0 w) (hps : ∀ x, (encs x).size = ps.size)
    (I : Nat → (Nat → Prop) → World → Prop) (Ix : Nat → Code → (Nat → Prop) → World → Prop)
    (hI : ∀ k T T' A B, I k T A → w.heap.size ≤ A.heap.size → Mod (fun b => T b ∨ b = w.heap.size ∨ b = w.heap.size + 1) A B → Grows T T' A B → (∀ b, T' b → w.heap.size + 2 ≤ b) → I k T' B)
    (hIx : ∀ k c T T' A B, Ix k c T A → w.heap.size ≤ A.heap.size → Mod (fun b => T b ∨ b = w.heap.size ∨ b = w.heap.size + 1) A B → Grows T T' A B → (∀ b, T' b → w.heap.size + 2 ≤ b) → Ix k c T' B) (h0 : I 0 (fun _ => False) w)
    (Ax : Nat → α → (Nat → Prop) → Act → World → Prop) (hAx : ∀ k x T a₁ A B, Ax k x T a₁ A → Mod (· = w.heap.size + 1) A B → Ax k x T a₁ B)
    (hassign : ∀ l k x T W, xs[k]? = some x → I k T W → w.heap.size + 2 ≤ W.heap.size → (∀ b, T b → w.heap.size + 2 ≤ b ∧ b < W.heap.size) → assign.wpIn (F.inRound l) (n - 1 - 1) P (Exit.then (fun a₁ W' => Ax k x T a₁ W' ∧ Mod (Outs B0 w.heap.size T) W W') (fun _ _ _ => False))
      { tmps := (ps.zip (encs x)).foldl (fun t (p, v) => t.setIfInBounds p v) a.tmps, defers := [] } W)
    (hbody : ∀ l k x T a₁ W, xs[k]? = some x → Ax k x T a₁ W → w.heap.size + 2 ≤ W.heap.size → (∀ b, T b → w.heap.size + 2 ≤ b ∧ b < W.heap.size) → body.wpIn (F.inRound l) (n - 1 - 1) P (bodyEnds (Outs B0 w.heap.size T) (fun j V => I j T V) (fun j c V => Ix j c T V) k W) a₁ W)
    (hdone : ∀ T W, I xs.length T W → w.heap.size + 2 ≤ W.heap.size → W.heap[w.heap.size]? = some (.deferred (some [])) → Q .normal { a with defers := { target := .collected w.heap.size, args := #[] } :: a.defers } W)
    (hstop : ∀ k c T W, k ≤ xs.length → Ix k c T W → w.heap.size + 2 ≤ W.heap.size → W.heap[w.heap.size]? = some (.deferred (some [])) → c.wpIn F n P Q { a with defers := { target := .collected w.heap.size, args := #[] } :: a.defers } W) :
    (Code.rangeFunc g ps assign body).wpIn F n P Q a w := by
  refine wpIn_rangeFunc fun fn hfn => ?_
  rw [hro]
  obtain ⟨S, hS⟩ : ∃ S, w.heap.size = S := ⟨_, rfl⟩
  rw [hS] at hI hIx hAx hassign hbody hdone hstop
  obtain ⟨R, hR⟩ : ∃ R : LoopState → Option Code → Obj, R = fun st pe => .loop { state := st, pending := pe, fn, tmps := a.tmps, params := ps, assign, body, defers := S } := ⟨_, rfl⟩
  obtain ⟨W0, hW0⟩ : ∃ W0, (w.alloc (.deferred (some []))).alloc (R .ready none) = W0 := ⟨_, rfl⟩
  have hb0 : Below S w W0 := by rw [← hW0, ← hS]; exact ((Below.refl _ w).alloc (Nat.le_refl _) _).alloc (by simp) _
  have hsz : W0.heap.size = S + 2 := by rw [← hW0]; simp [hS]
  have hl0 : W0.heap[S + 1]? = some (R .ready none) := by rw [← hW0, ← hS]; have := heap_alloc_new (w.alloc (.deferred (some []))) (R .ready none); simpa using this
  have hd0 : W0.heap[S]? = some (.deferred (some [])) := by rw [← hW0, ← hS]; exact (Below.heap_alloc _ _ _ (by simp)).trans (heap_alloc_new w _)
  have he : (Instr.enterLoop fn a.tmps ps assign body none).run P w = .ok (S + 1, [{ target := .collected S, args := #[] }]) W0 := by
    have h := run_enterLoop_outer (P := P) (w := w) fn a.tmps ps assign body
    rw [hS] at h
    rw [h, ← hW0, hR]
  let G : (Nat → Prop) → World → Prop := fun T W => ∀ b, T b → S + 2 ≤ b ∧ b < W.heap.size
  let K : Nat → (Nat → Prop) → World → Prop := fun k T W => I k T W ∧ W.heap[S + 1]? = some (R .ready none) ∧ W.heap[S]? = some (.deferred (some [])) ∧ G T W
  let Z : Nat → (Nat → Prop) → World → Prop := fun k T W => ∃ c, Ix k c T W ∧ W.heap[S + 1]? = some (R .done (some c)) ∧ W.heap[S]? = some (.deferred (some [])) ∧ G T W
  refine ⟨S + 1, [{ target := .collected S, args := #[] }], W0, { target := .fn (.func gf) #[], args := #[rv] ++ #[.func (.yield (S + 1)) #[] #[]] }, W0, gf, #[rv, .func (.yield (S + 1)) #[] #[]], W0, he, ?_, ?_, ?_, fun _ => h1, ?_⟩
  · simp only [resolve, hg]
    simp [go_sem]
  · intro f' hf'
    simp [Target.leads] at hf'
    subst hf'
    exact hFg
  · simp [invoke, go_sem, eg]
  have gG : ∀ T T' A B, G T A → S + 2 ≤ A.heap.size → Grows T T' A B → G T' B := fun T T' A B h hs hg b hb => ⟨by
    rcases hg.2.1 b hb with h2 | h2
    · exact (h b h2).1
    · omega, hg.2.2 b hb⟩
  have keepK : ∀ k T T' A B, K k T A → Mod T A B → Grows T T' A B → K k T' B := fun k T T' A B h hb hg => by
    have hA : S + 1 < A.heap.size := (Array.getElem?_eq_some_iff.1 h.2.1).1
    have hG := gG T T' A B h.2.2.2 (by omega) hg
    exact ⟨hI k T T' A B h.1 (by omega) (hb.more (fun _ _ h => .inl h)) hg (fun b hb => (hG b hb).1), hb.heap h.2.1 (fun ht => by have := (h.2.2.2 _ ht).1; omega), hb.heap h.2.2.1 (fun ht => by have := (h.2.2.2 _ ht).1; omega), hG⟩
  have keepZ : ∀ k T T' A B, Z k T A → Mod T A B → Grows T T' A B → Z k T' B := fun k T T' A B ⟨c, h, h2, h3, h4⟩ hb hg => by
    have hA : S + 1 < A.heap.size := (Array.getElem?_eq_some_iff.1 h2).1
    have hG := gG T T' A B h4 (by omega) hg
    exact ⟨c, hIx k c T T' A B h (by omega) (hb.more (fun _ _ h => .inl h)) hg (fun b hb => (hG b hb).1), hb.heap h2 (fun ht => by have := (h4 _ ht).1; omega), hb.heap h3 (fun ht => by have := (h4 _ ht).1; omega), hG⟩
  refine (hgo (S + 1) K Z W0 (by rw [hS]; exact hb0) keepK keepZ ?_ ⟨hI 0 _ _ w W0 h0 (by omega) ((Mod.of_base (by rw [← hS] at hb0; exact hb0)).more (fun b hb h => by have : w.heap.size ≤ b := h; omega)) ⟨fun _ h => h, fun _ h => h.elim, fun _ h => h.elim⟩ (fun _ h => h.elim), hl0, hd0, fun _ h => h.elim⟩).mono ?_
  · rintro k x T W1 hx ⟨hi, hl, hd, hG⟩ hle
    rw [hsz] at hle
    have hnS : ¬ T S := fun h => by have := (hG _ h).1; omega
    have hnS1 : ¬ T (S + 1) := fun h => by have := (hG _ h).1; omega
    have hy := run_yield (P := P) (args := encs x) (r := { state := .ready, pending := none, fn, tmps := a.tmps, params := ps, assign, body, defers := S }) (by rw [hl, hR]) (hps x)
    refine ⟨fn, _, assign, body, hy, roundIn_of_wpIn hfn (wpIn_mono (hassign (S + 1) k x T W1 hx hi hle hG) ?_)⟩
    intro e a₁ W2 hp
    cases e
    case normal =>
      obtain ⟨hax, hm⟩ := hp
      have hl2 : W2.heap[S + 1]? = some (R .ready none) := hm.heap hl (fun h => h.2.2.2 rfl)
      have hd2 : W2.heap[S]? = some (.deferred (some [])) := hm.heap hd (fun h => h.2.2.1 rfl)
      have hlt2 : S + 1 < W2.heap.size := (Array.getElem?_eq_some_iff.1 hl2).1
      have hbg := run_beginRound (P := P) (w := W2) (l := S + 1) (r := { state := .ready, pending := none, fn, tmps := a.tmps, params := ps, assign, body, defers := S }) (by rw [hl2, hR]) rfl
      refine ⟨_, hbg, ?_⟩
      obtain ⟨W3, hW3⟩ : ∃ W3, W2.putObj (S + 1) (R .busy none) = W3 := ⟨_, rfl⟩
      have e3 : (W2.putObj (S + 1) (.loop { state := .busy, pending := none, fn, tmps := a.tmps, params := ps, assign, body, defers := S })) = W3 := by rw [← hW3, hR]
      rw [e3]
      have hl3 : W3.heap[S + 1]? = some (R .busy none) := by rw [← hW3]; exact World.putObj_heap_same hlt2
      have hd3 : W3.heap[S]? = some (.deferred (some [])) := by rw [← hW3]; exact (World.putObj_heap_other (by omega)).trans hd2
      have hs3 : W3.heap.size = W2.heap.size := by rw [← hW3]; simp
      have hm3 : Mod (fun b => B0 ≤ b ∧ ¬ T b) W1 W3 := by rw [← hW3]; exact mod_putObj (hm.more (fun _ _ h => ⟨h.1, h.2.1⟩)) ⟨by omega, hnS1⟩ _
      have hax3 : Ax k x T a₁ W3 := hAx k x T a₁ W2 W3 hax (by rw [← hW3]; exact mod_putObj (T := fun b => b = S + 1) (Mod.refl _ _) rfl _)
      have hG3 : G T W3 := fun b hb => ⟨(hG b hb).1, Nat.lt_of_lt_of_le (hG b hb).2 hm3.size⟩
      refine wpIn_mono (hbody (S + 1) k x T a₁ W3 hx hax3 (by omega) hG3) ?_
      have fin : ∀ (j : Option Code) (W4 : World), Mod (Outs B0 S T) W3 W4 → (Instr.endRound (S + 1) j).run P W4 = .ok (.bool j.isNone) (W4.putObj (S + 1) (R (if j.isNone then .ready else .done) j)) ∧
          (W4.putObj (S + 1) (R (if j.isNone then .ready else .done) j)).heap[S + 1]? = some (R (if j.isNone then .ready else .done) j) ∧ (W4.putObj (S + 1) (R (if j.isNone then .ready else .done) j)).heap[S]? = some (.deferred (some [])) ∧
          Mod (fun b => B0 ≤ b ∧ ¬ T b) W1 (W4.putObj (S + 1) (R (if j.isNone then .ready else .done) j)) ∧ Mod (fun b => T b ∨ b = S ∨ b = S + 1) W4 (W4.putObj (S + 1) (R (if j.isNone then .ready else .done) j)) ∧
          Grows T T W4 (W4.putObj (S + 1) (R (if j.isNone then .ready else .done) j)) ∧ G T (W4.putObj (S + 1) (R (if j.isNone then .ready else .done) j)) ∧ S ≤ W4.heap.size := fun j W4 hm4 => by
        have hl4 : W4.heap[S + 1]? = some (R .busy none) := hm4.heap hl3 (fun h => h.2.2.2 rfl)
        have hd4 : W4.heap[S]? = some (.deferred (some [])) := hm4.heap hd3 (fun h => h.2.2.1 rfl)
        have hlt4 := (Array.getElem?_eq_some_iff.1 hl4).1
        have hen := run_endRound (P := P) (w := W4) (l := S + 1) (r := { state := .busy, pending := none, fn, tmps := a.tmps, params := ps, assign, body, defers := S }) j (by rw [hl4, hR])
        have hG4 : ∀ b, T b → b < W4.heap.size := fun b hb => Nat.lt_of_lt_of_le (hG3 b hb).2 hm4.size
        refine ⟨by rw [hen, hR], World.putObj_heap_same hlt4, (World.putObj_heap_other (by omega)).trans hd4, mod_putObj (hm3.trans hm4 (fun _ _ h => ⟨h.1, h.2.1⟩)) ⟨by omega, hnS1⟩ _, mod_putObj (Mod.refl _ _) (.inr (.inr rfl)) _, Grows.same hG4 (by simp), fun b hb => ⟨(hG b hb).1, by simpa using hG4 b hb⟩, by omega⟩
      rintro e a4 W4 hp4
      cases e with
      | normal =>
        obtain ⟨q1, q2, q3, q4, q5, q6, q7, q8⟩ := fin none W4 hp4.1
        exact ⟨_, _, q1, .inl ⟨rfl, ⟨hI _ _ _ _ _ hp4.2 q8 q5 q6 (fun b hb => (hG b hb).1), q2, q3, q7⟩, q4⟩⟩
      | ret =>
        obtain ⟨q1, q2, q3, q4, q5, q6, q7, q8⟩ := fin (some .ret) W4 hp4.1
        exact ⟨_, _, q1, .inr ⟨rfl, ⟨_, hIx _ _ _ _ _ _ hp4.2 q8 q5 q6 (fun b hb => (hG b hb).1), q2, q3, q7⟩, q4.size⟩⟩
      | exit id =>
        obtain ⟨q1, q2, q3, q4, q5, q6, q7, q8⟩ := fin (some (.exit id)) W4 hp4.1
        exact ⟨_, _, q1, .inr ⟨rfl, ⟨_, hIx _ _ _ _ _ _ hp4.2 q8 q5 q6 (fun b hb => (hG b hb).1), q2, q3, q7⟩, q4.size⟩⟩
      | goto t =>
        obtain ⟨q1, q2, q3, q4, q5, q6, q7, q8⟩ := fin (some (.goto t)) W4 hp4.1
        exact ⟨_, _, q1, .inr ⟨rfl, ⟨_, hIx _ _ _ _ _ _ hp4.2 q8 q5 q6 (fun b hb => (hG b hb).1), q2, q3, q7⟩, q4.size⟩⟩
      | panic ch => exact hp4.elim
      | outgrown => exact hp4.elim
    all_goals exact hp.elim
  · rintro e W2 ⟨⟨v, rfl⟩, T, hend⟩
    rcases hend with ⟨hi, hl, hd, hG⟩ | ⟨k, hk, c, hi, hl, hd, hG⟩
    · have hen := run_endLoop (P := P) (w := W2) (l := S + 1) (r := { state := .ready, pending := none, fn, tmps := a.tmps, params := ps, assign, body, defers := S }) (by rw [hl, hR]) (by simp)
      have hlt := (Array.getElem?_eq_some_iff.1 hl).1
      refine ⟨none, _, hen, ?_⟩
      exact hdone T (W2.putObj (S + 1) (.loop { state := .exhausted, pending := none, fn, tmps := a.tmps, params := ps, assign, body, defers := S })) (hI _ _ _ _ _ hi (by omega) (mod_putObj (Mod.refl _ _) (.inr (.inr rfl)) _) (Grows.same (fun b hb => (hG b hb).2) (by simp)) (fun b hb => (hG b hb).1)) (by simp; omega) ((World.putObj_heap_other (by omega)).trans hd)
    · have hen := run_endLoop (P := P) (w := W2) (l := S + 1) (r := { state := .done, pending := some c, fn, tmps := a.tmps, params := ps, assign, body, defers := S }) (by rw [hl, hR]) (by simp)
      have hlt := (Array.getElem?_eq_some_iff.1 hl).1
      refine ⟨some c, _, hen, ?_⟩
      exact hstop k c T (W2.putObj (S + 1) (.loop { state := .exhausted, pending := some c, fn, tmps := a.tmps, params := ps, assign, body, defers := S })) hk (hIx _ _ _ _ _ _ hi (by omega) (mod_putObj (Mod.refl _ _) (.inr (.inr rfl)) _) (Grows.same (fun b hb => (hG b hb).2) (by simp)) (fun b hb => (hG b hb).1)) (by simp; omega) ((World.putObj_heap_other (by omega)).trans hd)
/-- What an iterator comes to that keeps no block of its own, whose round's body may write into D alone (and into what is new). -/
def GoesFlat (F : Fence) (n : Nat) (P : Program) (gf : FuncId) (rv : Value) (encs : α → Array Value) (xs : List α) (D : Nat → Prop) (w : World) : Prop :=
  ∀ (l : Nat) (K Z : Nat → World → Prop) (W : World), Below w.heap.size w W →
    (∀ k A B, K k A → Below A.heap.size A B → K k B) → (∀ k A B, Z k A → Below A.heap.size A B → Z k B) →
    (∀ k x W1, xs[k]? = some x → K k W1 → W.heap.size ≤ W1.heap.size → YieldAt F (n - 1) P l (encs x) W1 fun e W' =>
      (e = .returned (.bool true) ∧ K (k + 1) W' ∧ Mod D W1 W') ∨ (e = .returned (.bool false) ∧ Z (k + 1) W' ∧ W1.heap.size ≤ W'.heap.size)) →
    K 0 W → CallsIn F n P gf #[rv, .func (.yield l) #[] #[]] W fun e W' => (∃ v, e = .returned v) ∧ (K xs.length W' ∨ ∃ k, k ≤ xs.length ∧ Z k W')
theorem below_self_mod {A B : World} (h : Below A.heap.size A B) (T : Nat → Prop) : Mod T A B := (Mod.of_base h).more (fun b hb h' => by have : A.heap.size ≤ b := h'; omega)
theorem GoesFlat.over {gf : FuncId} {rv : Value} {encs : α → Array Value} {xs : List α} {B0 E : Nat} {w : World} (h : GoesFlat F n P gf rv encs xs (fun b => From B0 E b ∨ w.heap.size ≤ b) w) : GoesOver F n P gf rv encs xs B0 E w := by
  intro l K Z W hW hK hZ hY h0
  refine (h l (fun k V => K k V ∧ W.heap.size ≤ V.heap.size) (fun k V => Z k V ∧ W.heap.size ≤ V.heap.size) W hW ?_ ?_ ?_ ⟨h0, Nat.le_refl _⟩).mono ?_
  · rintro k A B ⟨h1, h2⟩ hb
    exact ⟨hK k A B h1 (hb.mono h2), Nat.le_trans h2 hb.size⟩
  · rintro k A B ⟨h1, h2⟩ hb
    exact ⟨hZ k A B h1 (hb.mono h2), Nat.le_trans h2 hb.size⟩
  · rintro k x W1 hx ⟨h1, h2⟩ hle
    obtain ⟨fn, t, ag, bo, hy, hR⟩ := hY k x W1 hx h1 hle
    refine ⟨fn, t, ag, bo, hy, hR.mono ?_⟩
    rintro e W' (⟨rfl, q1, q2⟩ | ⟨rfl, q1, q2⟩)
    · exact .inl ⟨rfl, ⟨q1, Nat.le_trans h2 q2.size⟩, q2.more (fun b _ hb => by
        rcases hb with hb | hb
        · exact .inl hb
        · exact .inr hb.1)⟩
    · exact .inr ⟨rfl, ⟨q1, Nat.le_trans h2 q2⟩, q2⟩
  · rintro e W' ⟨he, hend⟩
    rcases hend with h | ⟨k, hk, h⟩
    · exact ⟨he, .inl h.1⟩
    · exact ⟨he, .inr ⟨k, hk, h.1⟩⟩
theorem GoesFlat.own {gf : FuncId} {rv : Value} {encs : α → Array Value} {xs : List α} {B0 : Nat} {w : World} (h : GoesFlat F n P gf rv encs xs (B0 ≤ ·) w) : GoesOwn F n P gf rv encs xs B0 w := by
  intro l K Z W hW hK hZ hY h0
  have hg : ∀ A B : World, A.heap.size ≤ B.heap.size → Grows (fun _ => False) (fun _ => False) A B := fun A B hs => Grows.same (fun _ h => h.elim) hs
  refine (h l (fun k V => K k (fun _ => False) V) (fun k V => Z k (fun _ => False) V) W hW ?_ ?_ ?_ h0).mono ?_
  · rintro k A B h1 hb
    exact hK k _ _ A B h1 (below_self_mod hb _) (hg A B hb.size)
  · rintro k A B h1 hb
    exact hZ k _ _ A B h1 (below_self_mod hb _) (hg A B hb.size)
  · rintro k x W1 hx h1 hle
    obtain ⟨fn, t, ag, bo, hy, hR⟩ := hY k x _ W1 hx h1 hle
    refine ⟨fn, t, ag, bo, hy, hR.mono ?_⟩
    rintro e W' (⟨rfl, q1, q2⟩ | ⟨rfl, q1, q2⟩)
    · exact .inl ⟨rfl, q1, q2.more (fun b _ hb => hb.1)⟩
    · exact .inr ⟨rfl, q1, q2⟩
  · rintro e W' ⟨he, hend⟩
    rcases hend with h | ⟨k, hk, h⟩
    · exact ⟨he, _, .inl h⟩
    · exact ⟨he, _, .inr ⟨k, hk, h⟩⟩
end
end Go.Proofs.YtknnkmakfcfnjaaDoor
