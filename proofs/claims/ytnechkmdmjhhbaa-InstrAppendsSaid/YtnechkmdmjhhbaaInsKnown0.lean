/-
  Plain mathematics: what the chapter's own rows read as.
-/
import Derived.Test.YtnechkmdmjhhbaaInsM
namespace Ins
open Leb
theorem row1 : rdInstr [65, 127] = .ok (⟨65, 0, 0, -1, []⟩, 2) := by
  have h := rdInstr_enc ⟨65, 0, 0, -1, []⟩ (by decide +kernel) (by refine ⟨by decide, by decide, by decide, by decide, by decide, ?_⟩; intro n hn; simp at hn) (by decide) []
  have e : enc ⟨65, 0, 0, -1, []⟩ = [65, 127] := by decide +kernel
  rw [e] at h
  exact h
theorem row2 : rdInstr [40, 2, 16] = .ok (⟨40, 2, 16, 0, []⟩, 3) := by
  have h := rdInstr_enc ⟨40, 2, 16, 0, []⟩ (by decide +kernel) (by refine ⟨by decide, by decide, by decide, by decide, by decide, ?_⟩; intro n hn; simp at hn) (by decide) []
  have e : enc ⟨40, 2, 16, 0, []⟩ = [40, 2, 16] := by decide +kernel
  rw [e] at h
  exact h
theorem row3 : rdInstr [14, 2, 0, 1, 2] = .ok (⟨14, 2, 0, 0, [0, 1]⟩, 5) := by
  have h := rdInstr_enc ⟨14, 2, 0, 0, [0, 1]⟩ (by decide +kernel) (by refine ⟨by decide, by decide, by decide, by decide, by decide, ?_⟩; intro n hn; simp at hn; omega) (by decide) []
  have e : enc ⟨14, 2, 0, 0, [0, 1]⟩ = [14, 2, 0, 1, 2] := by decide +kernel
  rw [e] at h
  exact h
theorem row4 : rdInstr [17, 3, 0] = .ok (⟨17, 3, 0, 0, []⟩, 3) := by
  have h := rdInstr_enc ⟨17, 3, 0, 0, []⟩ (by decide +kernel) (by refine ⟨by decide, by decide, by decide, by decide, by decide, ?_⟩; intro n hn; simp at hn) (by decide) []
  have e : enc ⟨17, 3, 0, 0, []⟩ = [17, 3, 0] := by decide +kernel
  rw [e] at h
  exact h
theorem bad1 : rdInstr [2, 125] = .error 61 := by rfl
theorem bad2 : rdInstr [67] = .error 61 := by rfl
theorem bad3 : rdInstr [192] = .error 60 := by rfl
theorem bad4 : rdInstr [63, 1] = .error 60 := by rfl
theorem bad5 : rdInstr [] = .error 60 := by rfl
theorem body1 : rdExpr 7 [] [2, 64, 1, 11, 11, 1] = .ok ([⟨2, 64, 0, 0, []⟩, ⟨1, 0, 0, 0, []⟩, ⟨11, 0, 0, 0, []⟩], 5) := by
  have h := rdExpr_enc [⟨2, 64, 0, 0, []⟩, ⟨1, 0, 0, 0, []⟩, ⟨11, 0, 0, 0, []⟩] [] 7 [1] (by decide +kernel) (by intro x hx; simp only [List.mem_cons, List.not_mem_nil, or_false] at hx; rcases hx with rfl | rfl | rfl <;> refine ⟨⟨by decide, by decide, by decide, by decide, by decide, ?_⟩, by decide⟩ <;> intro n hn <;> simp at hn) (by decide +kernel) (by decide)
  have e : exprEnc [⟨2, 64, 0, 0, []⟩, ⟨1, 0, 0, 0, []⟩, ⟨11, 0, 0, 0, []⟩] = [2, 64, 1, 11, 11] := by decide +kernel
  rw [e] at h
  exact h
theorem body2 : rdExpr 3 [] [5, 11] = .error 60 := by rfl
theorem body3 : rdExpr 2 [] [1] = .error 60 := by rfl
end Ins
