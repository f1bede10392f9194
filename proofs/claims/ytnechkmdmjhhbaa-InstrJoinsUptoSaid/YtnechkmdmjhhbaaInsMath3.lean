/-
  Plain mathematics of expressions: how long bytes may be; where instructions fail to be an expression's; how many there are together.
-/
import Derived.Test.YtnechkmdmjhhbaaInsMath2
namespace Ins
open Leb
def tot : List I → Nat
  | [] => 0
  | x :: xs => x.l.length + 5 + tot xs
theorem tot_append : ∀ (a b : List I), tot (a ++ b) = tot a + tot b
  | [], b => by simp [tot]
  | x :: a, b => by simp only [List.cons_append, tot, tot_append a b]; omega
theorem tot_len : ∀ (xs : List I), 5 * xs.length ≤ tot xs
  | [] => by simp [tot]
  | x :: xs => by have := tot_len xs; simp only [tot, List.length_cons]; omega
theorem tot_take {xs : List I} {j : Nat} {x : I} (h : xs[j]? = some x) : tot (xs.take (j + 1)) = tot (xs.take j) + (x.l.length + 5) := by
  rw [List.take_add_one, h, tot_append]; simp [tot]
theorem tot_take_le (xs : List I) (j : Nat) : tot (xs.take j) ≤ tot xs := by
  have h := tot_append (xs.take j) (xs.drop j)
  rw [List.take_append_drop] at h
  omega
theorem labs_le : ∀ (q : List Nat), (∀ x ∈ q, x < 4294967296) → (labs q).length ≤ 10 * q.length
  | [], _ => by simp [labs]
  | x :: q, hq => by
    have h1 := labs_le q (fun y hy => hq y (by simp [hy]))
    have h2 := encU_le10 x (by have := hq x (by simp); omega)
    have e : labs (x :: q) = encU x ++ labs q := by simp [labs]
    rw [e, List.length_append, List.length_cons]
    omega
theorem enc_le (x : I) (hw : x.wf) (hl : x.l.length < 4294967296) : (enc x).length ≤ 10 * (x.l.length + 5) := by
  obtain ⟨op, a, b, c, l⟩ := x
  obtain ⟨h1, h2, h3, h4, h5, h6⟩ := hw
  simp only at h1 h2 h3 h4 h5 h6 hl
  have ea := encU_le10 a (by omega)
  have eb := encU_le10 b (by omega)
  have ec := encS_le10 c h4 h5
  have el := encU_le10 l.length (by omega)
  have eL := labs_le l h6
  simp only [enc, List.length_cons]
  rcases form_range op with hf | hf | hf | hf | hf | hf | hf | hf | hf | hf <;> rw [hf] <;> simp [tailF] <;> omega
theorem encAll_append (a b : List I) : encAll (a ++ b) = encAll a ++ encAll b := by simp [encAll]
theorem encAll_take {xs : List I} {j : Nat} {x : I} (h : xs[j]? = some x) : encAll (xs.take (j + 1)) = encAll (xs.take j) ++ enc x := by
  rw [List.take_add_one, h, encAll_append]; simp [encAll]
theorem encAll_le : ∀ (xs : List I), (∀ x ∈ xs, x.wf ∧ x.l.length < 4294967296) → (encAll xs).length ≤ 10 * tot xs
  | [], _ => by simp [encAll]
  | x :: xs, h => by
    have h1 := encAll_le xs (fun y hy => h y (by simp [hy]))
    have h2 := enc_le x (h x (by simp)).1 (h x (by simp)).2
    have e : encAll (x :: xs) = enc x ++ encAll xs := by simp [encAll]
    rw [e, List.length_append]
    simp only [tot]; omega
theorem steps_append : ∀ (a b : List I) (o o' : List Bool), steps o a = some o' → steps o (a ++ b) = steps o' b
  | [], b, o, o', h => by simp only [steps, Option.some.injEq] at h; subst h; rfl
  | x :: a, b, o, o', h => by
    simp only [steps, List.cons_append] at h ⊢
    cases hs : step o x.op with
    | none => rw [hs] at h; cases h
    | some o1 => rw [hs] at h; simp only at h ⊢; exact steps_append a b o1 o' h
theorem steps_take {xs : List I} {j : Nat} {x : I} {o : List Bool} (h : steps [] (xs.take j) = some o) (hx : xs[j]? = some x) : steps [] xs = steps o (x :: xs.drop (j + 1)) := by
  have hj : j < xs.length := (List.getElem?_eq_some_iff.1 hx).1
  have e : xs = xs.take j ++ (x :: xs.drop (j + 1)) := by
    have h2 : xs.drop j = x :: xs.drop (j + 1) := by
      rw [List.drop_eq_getElem_cons hj]
      have := (List.getElem?_eq_some_iff.1 hx).2
      rw [this]
    rw [← h2, List.take_append_drop]
  conv => lhs; rw [e]
  exact steps_append _ _ _ _ h
theorem steps_next {xs : List I} {j : Nat} {x : I} {o o' : List Bool} (h : steps [] (xs.take j) = some o) (hx : xs[j]? = some x) (hs : step o x.op = some o') : steps [] (xs.take (j + 1)) = some o' := by
  rw [List.take_add_one, hx, steps_append _ _ _ _ h]
  simp [steps, hs]
theorem exprB_may {xs : List I} {j : Nat} {x : I} (hx : xs[j]? = some x) (hm : may x = false) : exprB xs = false := by
  unfold exprB
  have : xs.all may = false := List.all_eq_false.2 ⟨x, List.mem_of_getElem? hx, by simp [hm]⟩
  rw [this]; rfl
theorem exprB_step {xs : List I} {j : Nat} {x : I} {o : List Bool} (h : steps [] (xs.take j) = some o) (hx : xs[j]? = some x) (hs : step o x.op = none) : exprB xs = false := by
  unfold exprB
  rw [steps_take h hx]
  simp [steps, hs]
theorem all_take {xs : List I} {j : Nat} {x : I} (h : (xs.take j).all may = true) (hx : xs[j]? = some x) (hm : may x = true) : (xs.take (j + 1)).all may = true := by
  rw [List.take_add_one, hx]; simp only [Option.toList_some, List.all_append, h, Bool.true_and]; simp [hm]
end Ins
