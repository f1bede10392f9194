/-
  The document's table: low, middle, high and Rows, as rows of the call's own.
-/
import Derived.Test.YtnechkmdmjhhbaaOpcTab
import Derived.Test.YtnechkmdmjhhbaaAppends
import Derived.Laws.Tables
import Derived.Laws.Rows
import Derived.Great.Walk
namespace Go.Proofs.Ytnechkmdmjhhbaa
open Go.RowKit
/-- A row's five cells. -/
def rowCells (r : Opc.Row) : List Value := [.int .u8 (r.op : Int), .string ⟨r.name.toArray⟩, .int .u8 (r.form : Int), .string ⟨r.sig.toArray⟩, .int .i64 (r.width : Int)]
/-- The cells of rows, one behind the other. -/
def flat (l : List Opc.Row) : List Value := l.flatMap rowCells
theorem flat_length (l : List Opc.Row) : (flat l).length = l.length * 5 := by
  induction l with
  | nil => rfl
  | cons r l ih => simp only [flat, List.flatMap_cons, List.length_append, List.length_cons] at ih ⊢; rw [ih]; simp [rowCells]; omega
theorem flat_append (a b : List Opc.Row) : flat (a ++ b) = flat a ++ flat b := by simp [flat]
theorem flat_one (l : List Opc.Row) : ∀ u ∈ flat l, u.oneCell' = true := by
  intro u hu
  simp only [flat, List.mem_flatMap] at hu
  obtain ⟨r, _, hr⟩ := hu
  simp only [rowCells, List.mem_cons, List.not_mem_nil, or_false] at hr
  rcases hr with rfl | rfl | rfl | rfl | rfl <;> rfl
theorem flat_at : ∀ (l : List Opc.Row) (k : Nat) (r : Opc.Row), l[k]? = some r → ∀ j, j < 5 → (flat l)[k * 5 + j]? = (rowCells r)[j]?
  | [], k, r, h, _, _ => by simp at h
  | x :: l, 0, r, h, j, hj => by
    simp at h; subst h
    simp only [flat, List.flatMap_cons, Nat.zero_mul, Nat.zero_add]
    rw [List.getElem?_append_left (by simp [rowCells]; omega)]
  | x :: l, k + 1, r, h, j, hj => by
    have ih := flat_at l k r (by simpa using h) j hj
    simp only [flat, List.flatMap_cons] at ih ⊢
    rw [List.getElem?_append_right (by simp [rowCells]; omega), ← ih]
    congr 1
    simp [rowCells]; omega
theorem und39 : Try.prog.underlying 75 = some (.slice 51) := by kernel_rfl
theorem info24 : (Try.prog.info? 51).map (fun i => (i.zero, i.size, i.bytes)) = some (some (.agg #[.int .u8 0, .string ⟨#[]⟩, .int .u8 0, .string ⟨#[]⟩, .int .i64 0]), 5, 56) := by kernel_rfl
/-- What a call that makes rows comes to. -/
def RowsPost (l : List Opc.Row) (n : Nat) (w : World) (e : Ending) (w' : World) : Prop :=
  ∃ g c, e = .returned (.slice (some ⟨g, 0, none⟩) n c) ∧ w'.ownsRow w.heap.size 51 5 (.slice (some ⟨g, 0, none⟩) n c) n (flat l) ∧ Below w.heap.size w w'
theorem rows_new (l : List Opc.Row) (n : Nat) (w w' : World) (hn : n = l.length) (hm : n ≤ 1000) (hw : w' = w.alloc (.cells (flat l).toArray 51)) : RowsPost l n w (.returned (.slice (some ⟨w.heap.size, 0, none⟩) n n)) w' := by
  subst hw
  refine ⟨_, _, rfl, ⟨by rw [flat_length, hn], .inr ⟨w.heap.size, n, (flat l).toArray, rfl, Nat.le_refl _, heap_alloc_new w _, Nat.le_refl _, by unfold maxLen; omega, ?_, ?_⟩⟩, (Below.refl _ _).alloc (Nat.le_refl _) _⟩
  · simp [flat_length, hn]
  · subst hn
    exact List.take_of_length_le (by rw [flat_length]; exact Nat.le_refl _)
theorem own_on {w w' : World} {base e size n : Nat} {v : Value} {xs : List Value} (h : w.ownsRow base e size v n xs) (hb : Below w.heap.size w w') : w'.ownsRow base e size v n xs := by
  refine ⟨h.1, ?_⟩
  rcases h.2 with h | ⟨g, cap, cur, h1, h2, hh, h3⟩
  · exact .inl h
  · have hlt : g < w.heap.size := (Array.getElem?_eq_some_iff.1 hh).1
    exact .inr ⟨g, cap, cur, h1, h2, (hb.block g hlt).trans hh, h3⟩
theorem own_cells {w : World} {base e size n g c : Nat} {xs : List Value} (h : w.ownsRow base e size (.slice (some ⟨g, 0, none⟩) n c) n xs) : ∀ j u, xs[j]? = some u → w.cell? ⟨g, j, none⟩ = some u := by
  intro j u hu
  rcases h.2 with ⟨h, _⟩ | ⟨g', cap, cur, h1, h2, hh, h3, h4, h5, h6⟩
  · cases h
  · injection h1 with h1
    injection h1 with h1
    injection h1 with h1
    subst h1
    rw [cell_of_row w _ j cur e (0, 0) hh]
    have hlt : j < xs.length := (List.getElem?_eq_some_iff.1 hu).1
    rw [← h6, List.getElem?_take] at hu
    split at hu
    · simpa using hu
    · simp at hu
set_option maxRecDepth 100000 in
set_option maxHeartbeats 4000000 in
theorem low_any (w : World) : Calls Try.prog 37 #[] w (RowsPost Opc.low 43 w) := by
  go_enter Try.func37, Try.ntmps37
  apply wp_seq_k; intro K1 hK1
  apply wp_region_lit
  refine Great.wpList_readTo rfl (some 0) rfl (.slice none 0 0) (by as_aux_lemma => kernel_rfl) ?_
  apply wpList_nil
  refine hK1 _ _ ?_
  clear hK1 K1
  apply wp_seq_k; intro K1 hK1
  apply wp_region_lit
  iterate 43 refine wpList_build rfl 51 _ rfl (by as_aux_lemma => kernel_rfl) ?_
  refine Great.wpList_buildSliceTo rfl 75 51 43 _ rfl w.heap.size rfl (some 44) rfl und39 (flat Opc.low).toArray (by as_aux_lemma => kernel_rfl) ?_
  refine Great.wpList_readTo rfl (some 0) rfl (.slice (some ⟨w.heap.size, 0, none⟩) 43 43) (by as_aux_lemma => kernel_rfl) ?_
  apply wpList_nil
  refine hK1 _ _ ?_
  clear hK1 K1
  apply wp_ret
  exact bodyPost_ret (v := .slice (some ⟨w.heap.size, 0, none⟩) 43 43) (by as_aux_lemma => kernel_rfl) rfl (rows_new _ _ _ _ rfl (by decide) rfl)
set_option maxRecDepth 100000 in
set_option maxHeartbeats 4000000 in
theorem middle_any (w : World) : Calls Try.prog 38 #[] w (RowsPost Opc.middle 40 w) := by
  go_enter Try.func38, Try.ntmps38
  apply wp_seq_k; intro K1 hK1
  apply wp_region_lit
  refine Great.wpList_readTo rfl (some 0) rfl (.slice none 0 0) (by as_aux_lemma => kernel_rfl) ?_
  apply wpList_nil
  refine hK1 _ _ ?_
  clear hK1 K1
  apply wp_seq_k; intro K1 hK1
  apply wp_region_lit
  iterate 40 refine wpList_build rfl 51 _ rfl (by as_aux_lemma => kernel_rfl) ?_
  refine Great.wpList_buildSliceTo rfl 75 51 40 _ rfl w.heap.size rfl (some 41) rfl und39 (flat Opc.middle).toArray (by as_aux_lemma => kernel_rfl) ?_
  refine Great.wpList_readTo rfl (some 0) rfl (.slice (some ⟨w.heap.size, 0, none⟩) 40 40) (by as_aux_lemma => kernel_rfl) ?_
  apply wpList_nil
  refine hK1 _ _ ?_
  clear hK1 K1
  apply wp_ret
  exact bodyPost_ret (v := .slice (some ⟨w.heap.size, 0, none⟩) 40 40) (by as_aux_lemma => kernel_rfl) rfl (rows_new _ _ _ _ rfl (by decide) rfl)
set_option maxRecDepth 100000 in
set_option maxHeartbeats 4000000 in
theorem high_any (w : World) : Calls Try.prog 36 #[] w (RowsPost Opc.high 21 w) := by
  go_enter Try.func36, Try.ntmps36
  apply wp_seq_k; intro K1 hK1
  apply wp_region_lit
  refine Great.wpList_readTo rfl (some 0) rfl (.slice none 0 0) (by as_aux_lemma => kernel_rfl) ?_
  apply wpList_nil
  refine hK1 _ _ ?_
  clear hK1 K1
  apply wp_seq_k; intro K1 hK1
  apply wp_region_lit
  iterate 21 refine wpList_build rfl 51 _ rfl (by as_aux_lemma => kernel_rfl) ?_
  refine Great.wpList_buildSliceTo rfl 75 51 21 _ rfl w.heap.size rfl (some 22) rfl und39 (flat Opc.high).toArray (by as_aux_lemma => kernel_rfl) ?_
  refine Great.wpList_readTo rfl (some 0) rfl (.slice (some ⟨w.heap.size, 0, none⟩) 21 21) (by as_aux_lemma => kernel_rfl) ?_
  apply wpList_nil
  refine hK1 _ _ ?_
  clear hK1 K1
  apply wp_ret
  exact bodyPost_ret (v := .slice (some ⟨w.heap.size, 0, none⟩) 21 21) (by as_aux_lemma => kernel_rfl) rfl (rows_new _ _ _ _ rfl (by decide) rfl)
/-- append of rows that stand somewhere onto a row of the call's own. -/
theorem run_append_rows (w : World) (base n m g c : Nat) (v : Value) (l1 l2 : List Opc.Row) (hown : w.ownsRow base 51 5 v n (flat l1)) (hc : ∀ j u, (flat l2)[j]? = some u → w.cell? ⟨g, j, none⟩ = some u) (hm : m = l2.length) (hsz : n + m ≤ 1000) (hb : base ≤ w.heap.size) :
    ∃ v' w', (Builtin.append_ #[75, 75] 75 #[v, .slice (some ⟨g, 0, none⟩) m c]).run Try.prog w = .ok v' w' ∧ w'.ownsRow base 51 5 v' (n + m) (flat (l1 ++ l2)) ∧ Below base w w' := by
  obtain ⟨i0, hi, hz0, hz1, hz2⟩ := info_parts info24
  have hnews : ∀ j u, (flat l2)[j]? = some u → w.cell? ((⟨g, 0, none⟩ : Addr).add j) = some u := by
    intro j u hu
    have e2 : (⟨g, 0, none⟩ : Addr).add j = ⟨g, j, none⟩ := by unfold Addr.add; split <;> simp_all
    rw [e2]; exact hc j u hu
  obtain ⟨v', w', hrun, h2, h3, _⟩ := run_append_own (P := Try.prog) w base 75 75 51 i0 _ 5 56 und39 hi hz0 hz1 hz2 rfl (by decide) v n (flat l1) hown ⟨g, 0, none⟩ m c (flat l2) (by rw [flat_length, hm]) hnews (flat_one l2) (by unfold maxLen; omega) (by omega) hb
  exact ⟨v', w', hrun, by rw [flat_append]; exact h2, (Below.refl _ _).grown h3 hb (own_ge hown)⟩
theorem own_slice1 {w : World} {base e size n : Nat} {v : Value} {xs : List Value} (h : w.ownsRow base e size v n xs) (hn : 0 < n) : ∃ g c, v = .slice (some ⟨g, 0, none⟩) n c := by
  rcases h.2 with ⟨_, h0⟩ | ⟨g, cap, cur, rfl, _⟩
  · omega
  · exact ⟨g, cap, rfl⟩
end Go.Proofs.Ytnechkmdmjhhbaa
