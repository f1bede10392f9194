/-
  Two texts are one; a text that is cut is two just where a character begins: plain mathematics.
-/
import Derived.Test.YtpnfpjlniodepaaDoorU8Math
namespace U8
theorem byte_take (l : List UInt8) {k j : Nat} (h : j < k) : byte (l.take k) j = byte l j := by
  unfold byte; rw [List.getD_eq_getElem?_getD, List.getD_eq_getElem?_getD, List.getElem?_take, if_pos h]
theorem byte_app (l r : List UInt8) {j : Nat} (h : j < l.length) : byte (l ++ r) j = byte l j := by
  unfold byte; rw [List.getD_eq_getElem?_getD, List.getD_eq_getElem?_getD, List.getElem?_append_left h]
theorem one_inv {l : List UInt8} (h : one l ≠ 0) : 1 ≤ l.length ∧ ((byte l 0 < 128 ∧ one l = 1) ∨ (128 ≤ byte l 0 ∧ one l = size (byte l 0) ∧ 2 ≤ size (byte l 0) ∧ size (byte l 0) ≤ l.length ∧ lo (byte l 0) ≤ byte l 1 ∧ byte l 1 ≤ hi (byte l 0) ∧
    (3 ≤ size (byte l 0) → 128 ≤ byte l 2 ∧ byte l 2 ≤ 191) ∧ (4 ≤ size (byte l 0) → 128 ≤ byte l 3 ∧ byte l 3 ≤ 191))) := by
  have hsz := size_cases (byte l 0)
  revert h
  unfold one
  repeat' split
  all_goals intro h
  all_goals first | omega | skip
  all_goals refine ⟨by omega, .inr ⟨by omega, rfl, by omega, by omega, by omega, by omega, fun _ => by omega, fun _ => by omega⟩⟩
/-- Only the bytes that it has count. -/
theorem one_same {l m : List UInt8} (h : one l ≠ 0) (hl : one l ≤ m.length) (hb : ∀ j, j < one l → byte m j = byte l j) : one m = one l := by
  obtain ⟨h1, h2 | ⟨a1, a2, a3, a4, a5, a6, a7, a8⟩⟩ := one_inv h
  · have e0 := hb 0 (by omega)
    rw [h2.2]
    unfold one
    rw [if_neg (by omega), if_pos (by omega)]
  · have e0 := hb 0 (by omega)
    have e1 := hb 1 (by omega)
    rw [a2]
    rw [one_good (l := m) (by omega) (by rw [e0]; omega) (by rw [e0]; omega) (by rw [e0, e1]; exact ⟨a5, a6⟩) (fun hx => by rw [e0] at hx; rw [hb 2 (by omega)]; exact a7 hx) (fun hx => by rw [e0] at hx; rw [hb 3 (by omega)]; exact a8 hx), e0]
theorem text_join : ∀ (n : Nat) (a b : List UInt8), a.length ≤ n → text a = true → text b = true → text (a ++ b) = true
  | 0, a, b, hn, _, hb => by
    have : a = [] := List.eq_nil_of_length_eq_zero (by omega)
    subst this; exact hb
  | n + 1, a, b, hn, ha, hb => by
    by_cases h0 : a.length = 0
    · have : a = [] := List.eq_nil_of_length_eq_zero h0
      subst this; exact hb
    · by_cases h1 : one a = 0
      · rw [text_no h0 h1] at ha; cases ha
      · have hle := one_le a
        have h2 : one (a ++ b) = one a := one_same h1 (by simp; omega) (fun j hj => byte_app a b (by omega))
        rw [text_step (l := a ++ b) (by omega), h2, List.drop_append_of_le_length hle]
        exact text_join n _ b (by simp; omega) ((text_step h1).symm.trans ha) hb
/-- A byte that no character begins with. -/
theorem text_mid {l : List UInt8} (h0 : l.length ≠ 0) (h : 128 ≤ byte l 0 ∧ byte l 0 ≤ 191) : text l = false := by
  refine text_no h0 ?_
  have hs : size (byte l 0) = 0 := by unfold size; rw [if_pos (by omega)]
  unfold one
  rw [if_neg h0, if_neg (by omega), if_pos (.inl hs)]
theorem text_cut : ∀ (n : Nat) (a : List UInt8) (k : Nat), a.length ≤ n → text a = true → k < a.length →
    text (a.take k) = !(decide (128 ≤ byte a k) && decide (byte a k ≤ 191)) ∧ text (a.drop k) = !(decide (128 ≤ byte a k) && decide (byte a k ≤ 191))
  | 0, a, k, hn, _, hk => by omega
  | n + 1, a, k, hn, ha, hk => by
    have h0 : a.length ≠ 0 := by omega
    by_cases h1 : one a = 0
    · rw [text_no h0 h1] at ha; cases ha
    have hle := one_le a
    by_cases hk0 : k = 0
    · subst hk0
      have hb : ¬ (128 ≤ byte a 0 ∧ byte a 0 ≤ 191) := by
        intro hb
        rw [text_mid h0 hb] at ha; cases ha
      have hb' : (decide (128 ≤ byte a 0) && decide (byte a 0 ≤ 191)) = false := by
        rw [Bool.eq_false_iff]; simp only [ne_eq, Bool.and_eq_true, decide_eq_true_eq]; exact hb
      rw [hb', List.drop_zero]
      exact ⟨text_nil (by simp), ha⟩
    · by_cases hko : one a ≤ k
      · have hd : text (a.drop (one a)) = true := (text_step h1).symm.trans ha
        have ih := text_cut n (a.drop (one a)) (k - one a) (by simp; omega) hd (by simp; omega)
        rw [byte_drop, show one a + (k - one a) = k by omega, List.drop_drop, show one a + (k - one a) = k by omega] at ih
        have h2 : one (a.take k) = one a := one_same h1 (by simp; omega) (fun j hj => byte_take a (by omega))
        refine ⟨?_, ih.2⟩
        rw [text_step (l := a.take k) (by omega), h2, List.drop_take]
        exact ih.1
      · have hb : 128 ≤ byte a k ∧ byte a k ≤ 191 := by
          obtain ⟨g1, g2 | ⟨a1, a2, a3, a4, a5, a6, a7, a8⟩⟩ := one_inv h1
          · omega
          · have hsz := size_cases (byte a 0)
            have hlo : 128 ≤ lo (byte a 0) := by unfold lo; (repeat' split) <;> omega
            have hhi : hi (byte a 0) ≤ 191 := by unfold hi; (repeat' split) <;> omega
            have hkk : k = 1 ∨ k = 2 ∨ k = 3 := by omega
            rcases hkk with rfl | rfl | rfl
            · omega
            · exact a7 (by omega)
            · exact a8 (by omega)
        have hb' : (decide (128 ≤ byte a k) && decide (byte a k ≤ 191)) = true := by
          simp only [Bool.and_eq_true, decide_eq_true_eq]; exact hb
        rw [hb']
        refine ⟨?_, ?_⟩
        · apply text_no (by rw [List.length_take]; omega)
          obtain ⟨g1, g2 | ⟨a1, a2, a3, a4, a5, a6, a7, a8⟩⟩ := one_inv h1
          · omega
          · have hlen : (a.take k).length = k := by simp; omega
            have e0 : byte (a.take k) 0 = byte a 0 := byte_take a (by omega)
            unfold one
            rw [e0, hlen, if_neg hk0, if_neg (by omega), if_pos (.inr (by omega))]
        · apply text_mid (by rw [List.length_drop]; omega)
          rw [byte_drop]; exact hb
end U8
