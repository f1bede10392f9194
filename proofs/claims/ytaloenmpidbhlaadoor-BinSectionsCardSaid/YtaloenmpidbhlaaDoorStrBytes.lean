/-
  []byte(s), as an equation of a run: a new slice that reads as the string's bytes; all that was there is as it was.
-/
import Derived.Test.YtaloenmpidbhlaaDoorBytes
import Derived.Laws.IdiomStrings
import Derived.Laws.AppendOwn
namespace Go.Proofs.YtaloenmpidbhlaaDoor
open Go.RowKit
theorem bytes_of (w : World) (s : ByteArray) : ∃ A c w', (convert 9 22 (.string s)).run Tryd.prog w = .ok (.slice A s.size c) w' ∧ s.size ≤ c ∧ Has w' w'.heap.size A s.data.toList ∧ Below w.heap.size w w' := by
  refine ⟨_, _, _, run_bytes_of_string w 9 22 5 s und9 und22 und5, grownCap_ge _ _ _ _, fun k x hx => ⟨_, rfl, by simp, ?_⟩, ((Below.drew (Below.refl _ _)).alloc (Nat.le_refl _) _)⟩
  have hk : k < s.data.size := by
    have := (List.getElem?_eq_some_iff.1 hx).1; simpa using this
  have e2 : (⟨w.heap.size, 0, none⟩ : Addr).add k = ⟨w.drew.heap.size, k, none⟩ := by
    unfold Addr.add; split
    · next h => subst h; rfl
    · simp
  rw [e2, World.cell?_alloc_mark, bytesRow_at _ _ _ hk]
  have : s.data[k] = x := by
    have h := (List.getElem?_eq_some_iff.1 hx).2
    simpa using h
  rw [this]
end Go.Proofs.YtaloenmpidbhlaaDoor
