/-
  append of bytes onto rows of the call's own, as equations of runs; []byte{} and two appends.
-/
import Derived.Test.YtknnkmakfcfnjaaDoorBytes
import Derived.Laws.AppendOwn
namespace Go.Proofs.YtknnkmakfcfnjaaDoor
open Go.RowKit
set_option maxRecDepth 100000 in
theorem run_append_nil (w : World) (base n c : Nat) (v : Value) (xs : List Value) (hown : w.ownsRow base 5 1 v n xs) : (Builtin.append_ #[47, 47] 47 #[v, .slice none 0 c]).run Tryd.prog w = .ok v w := by
  obtain ⟨i0, hi, hz0, hz1, hz2⟩ := info_parts info5
  rcases hown.2 with ⟨rfl, rfl⟩ | ⟨g, cap, cur, rfl, _, _, hnc, _⟩
  · simp [Builtin.append_, run_underlying und22, sizeOf, typeInfo, hi, Builtin.lenOf, Builtin.firstCells]
  · simp [Builtin.append_, run_underlying und22, sizeOf, typeInfo, hi, Builtin.lenOf, Builtin.firstCells, hnc, storeCells]
set_option maxRecDepth 100000 in
/-- append of bytes that stand somewhere onto a row of the call's own. -/
theorem run_append_has (w : World) (base n m c : Nat) (v : Value) (l1 l2 : List UInt8) (A : Option Addr) (hown : w.ownsRow base 5 1 v n (bytesOf l1)) (hA : Has w w.heap.size A l2) (hm : m = l2.length) (hsz : n + m ≤ 140737488355328) (hb : base ≤ w.heap.size) :
    ∃ v' w', (Builtin.append_ #[47, 47] 47 #[v, .slice A m c]).run Tryd.prog w = .ok v' w' ∧ w'.ownsRow base 5 1 v' (n + m) (bytesOf (l1 ++ l2)) ∧ Below base w w' := by
  obtain ⟨i0, hi, hz0, hz1, hz2⟩ := info_parts info5
  cases A with
  | none =>
    have hl : l2 = [] := by
      cases l2 with
      | nil => rfl
      | cons x r =>
        obtain ⟨ad, h, _⟩ := hA 0 x (by simp)
        cases h
    subst hl
    obtain rfl : m = 0 := hm
    exact ⟨v, w, run_append_nil w base n c v _ hown, by simpa using hown, Below.refl _ _⟩
  | some a =>
    have hnews : ∀ j u, (bytesOf l2)[j]? = some u → w.cell? (a.add j) = some u := by
      intro j u hu
      have h0 : 0 < (bytesOf l2).length := by have := (List.getElem?_eq_some_iff.1 hu).1; omega
      obtain ⟨ad, h, hc⟩ := hA.cells h0
      injection h with h
      subst h
      exact hc j u hu
    obtain ⟨v', w', hrun, h2, h3, _⟩ := run_append_own (P := Tryd.prog) w base 47 47 5 i0 (.int .u8 0) 1 1 und22 hi hz0 hz1 hz2 rfl (by decide) v n (bytesOf l1) hown a m c (bytesOf l2) (by rw [bytesOf_length, Nat.mul_one, hm]) hnews (bytesOf_one l2) (by unfold maxLen; omega) (by omega) hb
    exact ⟨v', w', hrun, by rw [bytesOf_append]; exact h2, (Below.refl _ _).grown h3 hb (own_ge hown)⟩
theorem wpList_appends {P : Program} {w : World} {ops : Array Oper} {rest : List Oper} {o : Oper} {a : Act} {Q : Exit → Act → World → Prop} (hgd : o.guard = none) (s x : Operand) (t : TypeId)
    (ho : o.op = .call { callee := .builtin .append, args := #[s, x], argTypes := #[t, t] }) (v u r : Value) (w' : World) (hs : a.eval s = v) (hx : a.eval x = u)
    (hrun : (Builtin.append_ #[t, t] o.type #[v, u]).run P w = .ok r w') (h : wpList P ops Q rest (a.put o.dst r) w') : wpList P ops Q (o :: rest) a w := by
  refine wpList_plain hgd fun K hK => ?_
  unfold Oper.wp execOp
  simp only [ho, resolve, invoke, builtin, Sem.run_bind, Sem.run_pure, Result.andThen_ok, List.map_toArray, List.map_cons, List.map_nil, hs, hx, hrun]
  exact hK _ _ h
set_option maxRecDepth 100000 in
/-- []byte{}, then two appends: the bytes one behind the other, in a row of the call's own. -/
theorem joined (w : World) (A B : Option Addr) (l1 l2 : List UInt8) (n1 n2 c1 c2 : Nat) (h1 : Has w w.heap.size A l1) (h2 : Has w w.heap.size B l2) (hn1 : n1 = l1.length) (hn2 : n2 = l2.length) (hsz : n1 + n2 ≤ 140737488355328) :
    ∃ v w1 C c3 w2, (Builtin.append_ #[47, 47] 47 #[.slice (some ⟨w.heap.size, 0, none⟩) 0 0, .slice A n1 c1]).run Tryd.prog (w.alloc (.cells #[] 5)) = .ok v w1 ∧
      (Builtin.append_ #[47, 47] 47 #[v, .slice B n2 c2]).run Tryd.prog w1 = .ok (.slice C (n1 + n2) c3) w2 ∧ Has w2 w2.heap.size C (l1 ++ l2) ∧ Below w.heap.size w w2 := by
  have hb0 : Below w.heap.size w (w.alloc (.cells #[] 5)) := (Below.refl _ _).alloc (Nat.le_refl _) _
  have hown0 : (w.alloc (.cells #[] 5)).ownsRow w.heap.size 5 1 (.slice (some ⟨w.heap.size, 0, none⟩) 0 0) 0 (bytesOf []) :=
    ⟨rfl, .inr ⟨w.heap.size, 0, #[], rfl, Nat.le_refl _, heap_alloc_new w _, Nat.le_refl _, by unfold maxLen; omega, rfl, rfl⟩⟩
  obtain ⟨v, w1, hr1, ho1, hb1⟩ := run_append_has _ w.heap.size 0 n1 c1 _ [] l1 A hown0 (h1.on hb0) hn1 (by omega) hb0.size
  have hb1' := hb0.trans hb1
  obtain ⟨v2, w2, hr2, ho2, hb2⟩ := run_append_has w1 w.heap.size (0 + n1) n2 c2 v ([] ++ l1) l2 B ho1 (h2.on hb1') hn2 (by omega) hb1'.size
  obtain ⟨C, c3, rfl, _, _, hh⟩ := Has.own ho2
  rw [Nat.zero_add] at hr2
  exact ⟨v, w1, C, c3, w2, hr1, hr2, by simpa using hh, hb1'.trans hb2⟩
end Go.Proofs.YtknnkmakfcfnjaaDoor
