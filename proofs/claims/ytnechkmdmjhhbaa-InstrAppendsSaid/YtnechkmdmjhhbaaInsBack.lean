/-
  AppendExpr behind nothing, TakeExpr, two joined rows: contracts in the form in which the statements call them.
-/
import Derived.Test.YtnechkmdmjhhbaaInsTake2
import Derived.Test.YtnechkmdmjhhbaaInsSame
import Derived.Test.YtnechkmdmjhhbaaInsAppE
import Derived.Test.YtnechkmdmjhhbaaAppends
namespace Ins
open Leb
theorem labs_ge : ∀ (q : List Nat), q.length ≤ (labs q).length
  | [] => by simp
  | x :: q => by
    have h1 := labs_ge q
    have h2 := encU_pos x
    have e : labs (x :: q) = encU x ++ labs q := by simp [labs]
    rw [e, List.length_append, List.length_cons]
    omega
theorem enc_ge (x : I) (h : may x = true) : x.l.length + 1 ≤ (enc x).length := by
  simp only [may, mayF, Bool.and_eq_true, Bool.or_eq_true] at h
  obtain ⟨_, ⟨⟨_, h3⟩, _⟩, _⟩ := h
  rcases h3 with h3 | h3
  · rw [List.isEmpty_iff.1 h3]
    simp [enc]
  · have e : Opc.form x.op = 3 := by simpa using h3
    have := labs_ge x.l
    simp [enc, e, tailF]
    omega
theorem many_enc : ∀ (xs : List I), xs.all may = true → many xs ≤ (encAll xs).length
  | [], _ => by simp [many]
  | x :: xs, h => by
    simp only [List.all_cons, Bool.and_eq_true] at h
    have h1 := many_enc xs h.2
    have h2 := enc_ge x h.1
    have e : encAll (x :: xs) = enc x ++ encAll xs := by simp [encAll]
    rw [e, List.length_append]
    simp only [many]
    omega
theorem many_expr (xs : List I) (h : xs.all may = true) : many xs < (exprEnc xs).length := by
  have := many_enc xs h
  simp [exprEnc]
  omega
theorem exprEnc_le (xs : List I) (h : ∀ x ∈ xs, x.wf ∧ x.l.length < 4294967296) : (exprEnc xs).length ≤ 10 * tot xs + 1 := by
  have := encAll_le xs h
  simp [exprEnc]
  omega
theorem len_many (xs : List I) : xs.length ≤ many xs := by
  induction xs with
  | nil => simp
  | cons x xs ih => simp only [many, List.length_cons]; omega
theorem exprB_iff (xs : List I) : exprB xs = true ↔ xs.all may = true ∧ steps [] xs = some [] := by
  unfold exprB
  simp
end Ins
namespace Go.Proofs.Ytnechkmdmjhhbaa
open Go.RowKit Ins
theorem takeExpr_enc (xs : List I) (r : List UInt8) (h : exprB xs = true) (hw : ∀ x ∈ xs, x.wf ∧ x.l.length < 4294967296) : takeExpr (exprEnc xs ++ r) = .ok (xs, (exprEnc xs).length) := by
  obtain ⟨h1, h2⟩ := (exprB_iff xs).1 h
  have h3 := many_expr xs h1
  have h4 := len_many xs
  have h5 := rdExpr_enc xs [] ((exprEnc xs ++ r).length + 1) r h1 hw h2 (by rw [List.length_append]; omega)
  exact h5
theorem takeExpr_back (l : List UInt8) (xs : List I) (k : Nat) (h : takeExpr l = .ok (xs, k)) : exprB xs = true ∧ (∀ x ∈ xs, x.wf ∧ x.l.length < 4294967296) ∧ (exprEnc xs).length ≤ k ∧ k ≤ l.length ∧ many xs < k := by
  obtain ⟨h1, h2, h3, h4, h5⟩ := rdExpr_ok _ _ _ _ _ h
  have := many_expr xs h1
  exact ⟨(exprB_iff xs).2 ⟨h1, h3⟩, h2, h5, h4, by omega⟩
theorem HasI.in_heap {w : World} {S : Nat → Prop} {A : Option Addr} {xs : List I} (h : HasI w S A xs) : HasI w (· < w.heap.size) A xs := h.more (fun _ hk _ => hk)
theorem own_slice {w : World} {base n : Nat} {e : TypeId} {v : Value} {l : List UInt8} (h : w.ownsRow base e 1 v n (bytesOf l)) : ∃ (A : Option Addr) (c : Nat), v = .slice A n c ∧ n = l.length ∧ n ≤ c ∧ c ≤ maxLen ∧ (A = none → c = 0) ∧ Has w w.heap.size A l := by
  obtain ⟨A, c, rfl, h1, h2, h3⟩ := Has.own h
  refine ⟨A, c, rfl, h2, h1, ?_, ?_, h3⟩
  · rcases h.2 with ⟨h, _⟩ | ⟨g, cap, cur, h, _, _, _, hcm, _⟩
    · injection h with _ _ h; omega
    · injection h with _ _ h; omega
  · rintro rfl
    rcases h.2 with ⟨h, _⟩ | ⟨g, cap, cur, h, _⟩
    · injection h
    · injection h with h _ _; cases h
theorem appE_yes (B : Option Addr) (xs : List I) (n cx : Nat) (w : World) (hX : HasI w (· < w.heap.size) B xs) (hn : n = xs.length) (hm : many xs ≤ 100000) (h : exprB xs = true) :
    Calls Try.prog 11 #[.slice none 0 0, .slice B n cx] w fun e w' => ∃ A c, e = .returned (.tuple #[.slice A (exprEnc xs).length c, .int .i64 0]) ∧ (exprEnc xs).length ≤ c ∧ c ≤ maxLen ∧ (A = none → c = 0) ∧ Has w' w'.heap.size A (exprEnc xs) ∧ Below w.heap.size w w' := by
  subst hn
  have ht := tot_many xs
  refine (appendExpr_any none [] 0 B xs cx w (Has.nil _ _ _) hX (fun x hx => by have := many_len hx; omega) (by simp; omega)).mono ?_
  intro e w' hp
  unfold AEPost at hp
  rw [if_pos h, List.nil_append] at hp
  obtain ⟨v, rfl, ho, hb⟩ := hp
  obtain ⟨A, c, rfl, _, h2, h3, h4, h5⟩ := own_slice ho
  exact ⟨A, c, rfl, h2, h3, h4, h5, hb⟩
theorem appE_no (B : Option Addr) (xs : List I) (n cx : Nat) (w : World) (hX : HasI w (· < w.heap.size) B xs) (hn : n = xs.length) (hm : many xs ≤ 100000) (h : exprB xs = false) :
    Calls Try.prog 11 #[.slice none 0 0, .slice B n cx] w fun e w' => e = .returned (.tuple #[.slice none 0 0, .int .i64 2]) ∧ Below w.heap.size w w' := by
  subst hn
  have ht := tot_many xs
  refine (appendExpr_any none [] 0 B xs cx w (Has.nil _ _ _) hX (fun x hx => by have := many_len hx; omega) (by simp; omega)).mono ?_
  intro e w' hp
  unfold AEPost at hp
  rw [h] at hp
  exact hp
theorem takeE_ok (A : Option Addr) (l : List UInt8) (n c : Nat) (w : World) (hA : Has w w.heap.size A l) (hn : n = l.length) (hlen : n ≤ 1000000000000) (hc : n ≤ c) (hcm : c ≤ maxLen) (hAc : A = none → c = 0) (xs : List I) (m q : Nat) (hq : q = xs.length) (h : takeExpr l = .ok (xs, m)) :
    Calls Try.prog 13 #[.slice A n c] w fun e w' => ∃ A' c', e = .returned (.tuple #[.slice A' q c', .int .i64 (m : Int), .int .i64 0]) ∧ HasI w' (w.heap.size ≤ ·) A' xs ∧ Below w.heap.size w w' := by
  subst hn hq
  have ht := takeExpr_any A l c w hA hlen hc hcm hAc
  unfold TEPost at ht
  rw [h] at ht
  refine ht.mono ?_
  rintro e w' ⟨v, rfl, ⟨A', c', rfl, _, _, hi⟩, hb⟩
  exact ⟨A', c', rfl, hi, hb⟩
theorem takeE_no (A : Option Addr) (l : List UInt8) (n c : Nat) (w : World) (hA : Has w w.heap.size A l) (hn : n = l.length) (hlen : n ≤ 1000000000000) (hc : n ≤ c) (hcm : c ≤ maxLen) (hAc : A = none → c = 0) (k : Nat) (h : takeExpr l = .error k) :
    Calls Try.prog 13 #[.slice A n c] w fun e w' => e = .returned (.tuple #[.slice none 0 0, .int .i64 0, .int .i64 (k : Int)]) ∧ Below w.heap.size w w' := by
  subst hn
  have ht := takeExpr_any A l c w hA hlen hc hcm hAc
  unfold TEPost at ht
  rw [h] at ht
  exact ht
set_option maxRecDepth 100000 in
/-- []byte{}, then two appends: and what room the row has. -/
theorem joined2 (w : World) (A B : Option Addr) (l1 l2 : List UInt8) (n1 n2 c1 c2 : Nat) (h1 : Has w w.heap.size A l1) (h2 : Has w w.heap.size B l2) (hn1 : n1 = l1.length) (hn2 : n2 = l2.length) (hsz : n1 + n2 ≤ 140737488355328) :
    ∃ v w1 C c3 w2, (Builtin.append_ #[22, 22] 22 #[.slice (some ⟨w.heap.size, 0, none⟩) 0 0, .slice A n1 c1]).run Try.prog (w.alloc (.cells #[] 5)) = .ok v w1 ∧
      (Builtin.append_ #[22, 22] 22 #[v, .slice B n2 c2]).run Try.prog w1 = .ok (.slice C (n1 + n2) c3) w2 ∧ n1 + n2 ≤ c3 ∧ c3 ≤ maxLen ∧ (C = none → c3 = 0) ∧ Has w2 w2.heap.size C (l1 ++ l2) ∧ Below w.heap.size w w2 := by
  have hb0 : Below w.heap.size w (w.alloc (.cells #[] 5)) := (Below.refl _ _).alloc (Nat.le_refl _) _
  have hown0 : (w.alloc (.cells #[] 5)).ownsRow w.heap.size 5 1 (.slice (some ⟨w.heap.size, 0, none⟩) 0 0) 0 (bytesOf []) :=
    ⟨rfl, .inr ⟨w.heap.size, 0, #[], rfl, Nat.le_refl _, heap_alloc_new w _, Nat.le_refl _, by unfold maxLen; omega, rfl, rfl⟩⟩
  obtain ⟨v, w1, hr1, ho1, hb1⟩ := run_append_has _ w.heap.size 0 n1 c1 _ [] l1 A hown0 (h1.on hb0) hn1 (by omega) hb0.size
  have hb1' := hb0.trans hb1
  obtain ⟨v2, w2, hr2, ho2, hb2⟩ := run_append_has w1 w.heap.size (0 + n1) n2 c2 v ([] ++ l1) l2 B ho1 (h2.on hb1') hn2 (by omega) hb1'.size
  obtain ⟨C, c3, rfl, _, hc1, hc2, hc3, hh⟩ := own_slice ho2
  rw [Nat.zero_add] at hr2 hc1
  exact ⟨v, w1, C, c3, w2, hr1, hr2, hc1, hc2, hc3, by simpa using hh, hb1'.trans hb2⟩
end Go.Proofs.Ytnechkmdmjhhbaa
