/-
  A list of operations cut in two: what the first ones come to is all that the rest is walked from.
-/
import Derived.Test.YtnechkmdmjhhbaaBytes
import Derived.Orders
namespace Go.Proofs.Ytnechkmdmjhhbaa
open Go.RowKit
theorem oper_mono {P : Program} {Q Q' : Exit → Act → World → Prop} {o : Oper} {a : Act} {w : World} {K K' : Act → World → Prop} (h : ∀ a w, K a w → K' a w) (hp : ∀ c a w, Q (.panic c) a w → Q' (.panic c) a w) (ho : LetsOut Q → LetsOut Q')
    (hh : o.wp P a w K Q) : o.wp P a w K' Q' := by
  unfold Oper.wp at *
  generalize (execOp a.eval o).run P w = r at *
  cases r with
  | ok n w' =>
    cases n <;> simp only [Oper.upon] at hh ⊢ <;>
      first
        | exact h _ _ hh
        | exact Calls.mono hh (fun e w'' he => by cases e <;> first | exact h _ _ he | exact hp _ _ _ he | exact ho he)
        | exact Rows.mono hh (fun _ _ he => h _ _ he)
  | halt x w' => cases x <;> simp only [Oper.upon] at hh ⊢ <;> exact hp _ _ _ hh
/-- What the first operations come to. -/
def CutPost (R : Act → World → Prop) (e : Exit) (a : Act) (w : World) : Prop := e = .normal ∧ R a w
theorem cutFin {a : Act} {F : (Nat → Value) → Act} (h : a = F (fun k => a.tmps.getD k undef)) : ∃ t, a = F t := ⟨_, h⟩
theorem wpList_cut {P : Program} {ops : Array Oper} {Q : Exit → Act → World → Prop} (R : Act → World → Prop) : ∀ (n : Nat) (l : List Oper) (a : Act) (w : World),
    wpList P ops (CutPost R) (l.take n) a w → (∀ a w, R a w → wpList P ops Q (l.drop n) a w) → wpList P ops Q l a w
  | 0, l, a, w, h, hr => by
    rw [List.take_zero] at h
    exact hr a w h.2
  | n + 1, [], a, w, h, hr => hr a w h.2
  | n + 1, o :: l, a, w, h, hr => by
    have hno : ¬ LetsOut (CutPost R) := by
      rintro ⟨_, _, h, _⟩
      cases h
    rw [List.take_succ_cons] at h
    rw [List.drop_succ_cons] at hr
    unfold wpList at h ⊢
    split
    · next hw =>
      rw [if_pos hw] at h
      rcases h with h | ⟨_, h⟩
      · exact .inl (oper_mono (fun a w h => wpList_cut R n l a w h hr) (fun c a w h => by cases h.1) (fun h => (hno h).elim) h)
      · exact (hno h).elim
    · next hw =>
      rw [if_neg hw] at h
      exact wpList_cut R n l _ _ h hr
/-- An operation without what orders it. -/
def strip (o : Oper) : Oper := { dst := o.dst, op := o.op, type := o.type, pos := o.pos, after := #[], guard := o.guard }
/-- An operation of which its slot alone is left: guards ask for no more. -/
def thin (o : Oper) : Oper := { dst := o.dst, op := .move (.const undef), type := 0, pos := "", after := #[], guard := none }
theorem strip_exec (o : Oper) (ρ : Operand → Value) : execOp ρ (strip o) = execOp ρ o := by
  obtain ⟨d, op, t, p, af, g⟩ := o
  unfold strip
  cases op <;> rfl
theorem strip_wp (o : Oper) {P : Program} {a : Act} {w : World} {K : Act → World → Prop} {Q : Exit → Act → World → Prop} (h : (strip o).wp P a w K Q) : o.wp P a w K Q := by
  unfold Oper.wp at *
  rw [strip_exec] at h
  exact h
theorem strip_asks (o : Oper) {P : Program} {a : Act} {w : World} (h : (strip o).asks P a w) : o.asks P a w := by
  unfold Oper.asks at *
  rw [strip_exec] at h
  exact h
theorem thin_yielded (ops : Array Oper) (t : Array Value) : yielded (ops.map thin) t = yielded ops t := by
  funext j
  unfold yielded
  rw [Array.getElem?_map]
  cases ops[j]? <;> rfl
theorem wpList_light {P : Program} {ops : Array Oper} {Q : Exit → Act → World → Prop} : ∀ (l : List Oper) (a : Act) (w : World), wpList P (ops.map thin) Q (l.map strip) a w → wpList P ops Q l a w
  | [], _, _, h => h
  | o :: l, a, w, h => by
    rw [List.map_cons] at h
    unfold wpList at h ⊢
    rw [thin_yielded] at h
    have e : Region.wanted (strip o) (yielded ops a.tmps) = Region.wanted o (yielded ops a.tmps) := rfl
    rw [e] at h
    split
    · next hw =>
      rw [if_pos hw] at h
      rcases h with h | ⟨h1, h2⟩
      · exact .inl (Oper.wp_mono (fun a w h => wpList_light l a w h) (strip_wp o h))
      · exact .inr ⟨strip_asks o h1, h2⟩
    · next hw =>
      rw [if_neg hw] at h
      exact wpList_light l _ w h
theorem region_light {P : Program} {Q : Exit → Act → World → Prop} {a : Act} {w : World} {id : Nat} {l : List Oper} (h : wpList P (l.map thin).toArray Q (l.map strip) a w) : (Code.region id l.toArray false).wp P Q a w :=
  wp_region_lit (wpList_light l a w (by rw [List.map_toArray]; exact h))
end Go.Proofs.Ytnechkmdmjhhbaa
