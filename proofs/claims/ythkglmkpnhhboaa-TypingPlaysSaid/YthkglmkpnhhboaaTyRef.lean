/-
  Layer 9's reference: the document's stack in memory.
-/
import Derived.Test.YthkglmkpnhhboaaTyWo
import Derived.Test.YthkglmkpnhhboaaTyR
namespace Go.Proofs.Ythkglmkpnhhboaa
open Go.RowKit Ins Bin
instance : Lay Ty.RF where
  size := 4
  rep w S x cs := ∃ u v o, cs = [u, v, o, .bool x.dead] ∧ SliceV w S x.label u ∧ SliceV w S x.ends v ∧ SliceV w S x.own o
  len h := by obtain ⟨u, v, o, rfl, _⟩ := h; rfl
  mod h hm hd := by obtain ⟨u, v, o, h1, h2, h3, h4⟩ := h; exact ⟨u, v, o, h1, h2.mod hm hd, h3.mod hm hd, h4.mod hm hd⟩
  more h hs := by obtain ⟨u, v, o, h1, h2, h3, h4⟩ := h; exact ⟨u, v, o, h1, h2.more hs, h3.more hs, h4.more hs⟩
instance : Ones Ty.RF := ⟨fun h u hu => by
  obtain ⟨a, b, o, rfl, h1, h2, h3⟩ := h
  simp at hu; rcases hu with rfl | rfl | rfl | rfl
  · exact h1.one
  · exact h2.one
  · exact h3.one
  · rfl⟩
/-- Where labels, ends and own operands lie: in the document's stack's blocks, or where what came in lies. -/
abbrev inR (G : Nat → Prop) (B0 Q : Nat) (vL : Value) : Nat → Prop := inS (fun k => G k ∨ k < B0) Q vL vL
structure Rfk (w : World) (G : Nat → Prop) (B0 Q : Nat) (r : Ty.R) (vL : Value) : Prop where
  blk : w.heap[Q]? = some (.cells #[vL, .int .i64 (r.loose : Int), .int .i64 (r.most : Int)] 46 (0, 0))
  l : OwnL 54 w 0 (inR G B0 Q vL) vL r.l
  inQ : G Q
  inL : ∀ k, vL.ownBlock = some k → G k
/-- What a call of the document's stack comes to. -/
def RPost (G : Nat → Prop) (w : World) (B0 Q : Nat) (r' : Ty.R) (w' : World) : Prop := ∃ G' vL', Rfk w' G' B0 Q r' vL' ∧ (∀ k, G' k → G k ∨ w.heap.size ≤ k) ∧ Mod G w w'
section
variable {w : World} {G : Nat → Prop} {B0 Q : Nat} {r : Ty.R} {vL : Value}
theorem Rfk.lt (h : Rfk w G B0 Q r vL) : Q < w.heap.size := (Array.getElem?_eq_some_iff.1 h.blk).1
theorem rne {w : World} {Q : Nat} {cs : Array Value} {S : Nat → Prop} {v : Value} {xs : List Ty.RF} (hb : w.heap[Q]? = some (.cells cs 46 (0, 0))) (h : OwnL 54 w 0 S v xs) : v.ownBlock ≠ some Q := fun e => by
  obtain ⟨cur, hc⟩ := h.block e
  rw [hb] at hc
  injection hc with hc
  injection hc with _ hc
  exact absurd hc (by decide)
theorem Rfk.mod {w' : World} {T : Nat → Prop} (h : Rfk w G B0 Q r vL) (hm : Mod T w w') (ht : ∀ k, k < w.heap.size → G k ∨ k < B0 → ¬ T k) : Rfk w' G B0 Q r vL := by
  have hL := h.l.lt
  exact ⟨hm.heap h.blk (ht Q h.lt (.inl h.inQ)), h.l.mod hm (fun k hk => ht k (hL k hk).2 (.inl (h.inL k hk))) (fun k hk hs => ht k hk hs.1), h.inQ, h.inL⟩
theorem Rfk.on {w' : World} (h : Rfk w G B0 Q r vL) (hb : Below w.heap.size w w') : Rfk w' G B0 Q r vL := h.mod (T := fun _ => False) (Mod.of_below hb) (fun _ _ _ h => h)
theorem Rfk.more {G' : Nat → Prop} (h : Rfk w G B0 Q r vL) (hf : ∀ k, G k → G' k) : Rfk w G' B0 Q r vL :=
  ⟨h.blk, h.l.more (fun _ _ hs => ⟨hs.1.imp (hf _) id, hs.2⟩), hf _ h.inQ, fun k e => hf _ (h.inL k e)⟩
theorem Rfk.cell0 (h : Rfk w G B0 Q r vL) : w.cell? ⟨Q, 0, none⟩ = some vL := by rw [cell_of_row w Q 0 _ _ (0, 0) h.blk]; rfl
theorem Rfk.cell1 (h : Rfk w G B0 Q r vL) : w.cell? ⟨Q, 1, none⟩ = some (.int .i64 (r.loose : Int)) := by rw [cell_of_row w Q 1 _ _ (0, 0) h.blk]; rfl
theorem Rfk.cell2 (h : Rfk w G B0 Q r vL) : w.cell? ⟨Q, 2, none⟩ = some (.int .i64 (r.most : Int)) := by rw [cell_of_row w Q 2 _ _ (0, 0) h.blk]; rfl
theorem Rfk.frozen (h : Rfk w G B0 Q r vL) (j : Nat) : w.frozen? ⟨Q, j, none⟩ = false := frozen_of_row w Q j _ _ h.blk
theorem Rfk.form (h : Rfk w G B0 Q r vL) : ∃ A c, vL = .slice A r.l.length c ∧ r.l.length ≤ c ∧ c ≤ maxLen := by
  obtain ⟨ys, _, h1, _⟩ := h.l
  exact own_form h1
/-- One cell of the stack's own block is written. -/
theorem rset {cs : Array Value} {r' : Ty.R} {vL' : Value} (hb : w.heap[Q]? = some (.cells cs 46 (0, 0))) (j : Nat) (z : Value) (hc : cs.setIfInBounds j z = #[vL', .int .i64 (r'.loose : Int), .int .i64 (r'.most : Int)])
    (hl : OwnL 54 w 0 (inR G B0 Q vL') vL' r'.l) (hQ : G Q) (hL : ∀ k, vL'.ownBlock = some k → G k) : Rfk (w.setCell ⟨Q, j, none⟩ z) G B0 Q r' vL' := by
  have hM : Mod (· = Q) w (w.setCell ⟨Q, j, none⟩ z) := Mod.setCell (T := (· = Q)) (Mod.refl _ w) (fun _ => rfl) _
  have hne := rne hb hl
  exact ⟨by rw [heap_setCell_same w Q j _ _ _ hb, hc], hl.mod hM (fun g hg e => hne (by rw [hg, e])) (fun g _ hs e => hs.2.1 e), hQ, hL⟩
/-- One cell of the innermost frame is written. -/
theorem Rfk.setLast {i : List Ty.RF} {f : Ty.RF} {g c : Nat} (h : Rfk w G B0 Q r (.slice (some ⟨g, 0, none⟩) (i.length + 1) c)) (hf : r.l = i ++ [f]) (j : Nat) (z : Value) (f' : Ty.RF)
    (hrep : ∀ cs, Lay.rep w (inR G B0 Q (.slice (some ⟨g, 0, none⟩) (i.length + 1) c)) f cs → Lay.rep w (inR G B0 Q (.slice (some ⟨g, 0, none⟩) (i.length + 1) c)) f' (cs.set j z)) :
    Rfk (w.setCell ⟨g, i.length * 4 + j, none⟩ z) G B0 Q ⟨i ++ [f'], r.loose, r.most⟩ (.slice (some ⟨g, 0, none⟩) (i.length + 1) c) := by
  have hne := rne h.blk h.l
  have hl := h.l
  rw [hf] at hl
  refine ⟨(heap_setCell_other w _ Q _ (fun e => hne (by rw [e]; rfl))).trans h.blk, OwnL.setLast hl (fun k _ hs e => hs.2.2.1 (by rw [e]; rfl)) j z f' hrep, h.inQ, h.inL⟩
/-- The innermost frame, as its cells read. -/
theorem Rfk.inner {i : List Ty.RF} {f : Ty.RF} (h : Rfk w G B0 Q r vL) (hf : r.l = i ++ [f]) :
    ∃ g c u v o, vL = .slice (some ⟨g, 0, none⟩) (i.length + 1) c ∧ i.length + 1 ≤ c ∧ c ≤ maxLen ∧ G g ∧ g < w.heap.size ∧ g ≠ Q ∧ (∀ W : World, W.heap[g]? = w.heap[g]? → W.cell? ⟨g, i.length * 4, none⟩ = some u ∧ W.cell? ⟨g, i.length * 4 + 1, none⟩ = some v ∧ W.cell? ⟨g, i.length * 4 + 2, none⟩ = some o ∧ W.cell? ⟨g, i.length * 4 + 3, none⟩ = some (.bool f.dead) ∧ ∀ j, W.frozen? ⟨g, j, none⟩ = false) ∧
      SliceV w (inR G B0 Q vL) f.label u ∧ SliceV w (inR G B0 Q vL) f.ends v ∧ SliceV w (inR G B0 Q vL) f.own o := by
  have h1 := h.l
  have hne := rne h.blk h.l
  rw [hf] at h1
  obtain ⟨g, c, cur, cs, rfl, h2, h3, h4, h5, h6, ⟨u, v, o, rfl, h7, h8, h9⟩, hat, _⟩ := h1.last
  refine ⟨g, c, u, v, o, rfl, h2, h3, h.inL g rfl, (Array.getElem?_eq_some_iff.1 h5).1, fun e => hne (by rw [← e]; rfl), fun W hW => ?_, h7, h8, h9⟩
  have hc : ∀ (j : Nat) (z : Value), [u, v, o, .bool f.dead][j]? = some z → W.cell? ⟨g, i.length * 4 + j, none⟩ = some z := fun j z hj => by
    rw [cell_of_row W g _ _ _ (0, 0) (hW.trans h5)]
    exact hat j z hj
  exact ⟨hc 0 _ rfl, hc 1 _ rfl, hc 2 _ rfl, hc 3 _ rfl, fun j => frozen_of_row W g j _ _ (hW.trans h5)⟩
end
end Go.Proofs.Ythkglmkpnhhboaa
