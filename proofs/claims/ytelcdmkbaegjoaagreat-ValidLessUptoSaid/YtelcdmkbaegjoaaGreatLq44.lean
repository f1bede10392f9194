/-
  Layer 10's program: the walk's list of open blocks: one more, the last one changed, the last one left out.
-/
import Derived.Test.YtelcdmkbaegjoaaGreatLq01
import Derived.Test.YtelcdmkbaegjoaaGreatLq37
set_option maxRecDepth 100000
set_option maxHeartbeats 4000000
namespace Go.Proofs.YtelcdmkbaegjoaaGreat
open Go.RowKit Ins Bin Sp
theorem undBl : Tryz.prog.underlying 117 = some (.slice 4) := by kernel_rfl
theorem infBl : (Tryz.prog.info? 4).map (fun i => (i.zero, i.size, i.bytes)) = some (some (.bool false), Lay.size Bool, 1) := by kernel_rfl
section
variable {C : Ctx} {R P n : Nat} {w : World} {G : Nat → Prop} {s : Ty.T} {o : List Bool}
theorem Wk.pushO (h : Wk C R P w G s o) (b : Bool) (ho : o.length ≤ 2000000) : ∃ A c, ∀ W, Below w.heap.size w W → W.cell? ⟨R, 6, none⟩ = some (.slice A o.length c) ∧ ∃ A5 c5 w5, (Builtin.append_ #[117, 117] 117 #[.slice A o.length c, .slice (some ⟨W.heap.size, 0, none⟩) 1 1]).run Tryz.prog (W.alloc (.cells #[.bool b] 4)) = .ok (.slice A5 (o.length + 1) c5) w5 ∧
  w5.cell? ⟨R, 6, none⟩ = some (.slice A o.length c) ∧ w5.frozen? ⟨R, 6, none⟩ = false ∧ (∀ k, k < w.heap.size → ¬ G k → w5.heap[k]? = w.heap[k]?) ∧ ∃ G', Wk C R P (w5.setCell ⟨R, 6, none⟩ (.slice A5 (o.length + 1) c5)) G' s (o ++ [b]) ∧ Nxt G w G' (w5.setCell ⟨R, 6, none⟩ (.slice A5 (o.length + 1) c5)) := by
 obtain ⟨F, vo, h1, h2, h3, h4, h5⟩ := h.all
 obtain ⟨A, c, e, _, _⟩ := h3.form
 refine ⟨A, c, fun W hb => ?_⟩
 have h1W := (hb.block R (Array.getElem?_eq_some_iff.1 h1).1).trans h1
 have h3W := h3.mod (T := fun _ => False) (Mod.of_below hb) (fun _ _ h => h) (fun _ _ _ h => h)
 obtain ⟨v', w5, hrun, hO5, hM5, hT5⟩ := append1L (α := Bool) undBl infBl (by decide) rfl (by decide) W C.B (fun _ => False) vo o b [.bool b] h3W (by omega) (Nat.le_trans h.base.size hb.size) rfl (by simp [Value.oneCell']) (fun _ _ h => h.elim)
 obtain ⟨A5, c5, e5, _, _⟩ := hO5.form
 rw [show (o ++ [b]).length = o.length + 1 by simp] at e5
 subst e5
 have hne : ∀ k, vo.ownBlock = some k → k ≠ R := fun k hk => (h5 k hk).2
 have hne5 : ∀ k, (Value.slice A5 (o.length + 1) c5).ownBlock = some k → k ≠ R := fun k hk => by
  rcases hT5 k hk with hk | hk
  ·exact hne k hk
  ·have := h.lt; have := hb.size; omega
 have h15 := hM5.heap h1W (fun e' => hne R e' rfl)
 have hS : Mod (· = R) w5 (w5.setCell ⟨R, 6, none⟩ (.slice A5 (o.length + 1) c5)) := Mod.setCell (T := (· = R)) (Mod.refl _ w5) (fun _ => rfl) _
 have h2' := ((h2.on hb).mod hM5 (fun k hk e' => (h4 k hk).2.2 e')).mod hS (fun k hk => (h4 k hk).2.1)
 have hO6 : OwnL 4 (w5.setCell ⟨R, 6, none⟩ (.slice A5 (o.length + 1) c5)) C.B (fun _ => False) (.slice A5 (o.length + 1) c5) (o ++ [b]) := (hO5.mod hS (fun g hg e' => hne5 g hg e') (fun g _ hs => hs.1.elim)).more (fun _ _ hs => hs.1)
 have hN : Nxt G w (fun k => G k ∨ (Value.slice A5 (o.length + 1) c5).ownBlock = some k) (w5.setCell ⟨R, 6, none⟩ (.slice A5 (o.length + 1) c5)) := ⟨fun k hk => by
  rcases hk with hk | hk
  ·exact .inl hk
  ·rcases hT5 k hk with hk | hk
   ·exact .inl (h5 k hk).1
   ·exact .inr (Nat.le_trans hb.size hk), ((Mod.of_below (T := G) hb).trans hM5 (fun k _ hk => (h5 k hk).1)).trans hS (fun k _ hk => by rw [hk]; exact h.inR)⟩
 have hsz : (w5.setCell ⟨R, 6, none⟩ (.slice A5 (o.length + 1) c5)).heap.size = w5.heap.size := by simp [World.setCell]
 refine ⟨by rw [cell_of_row W R 6 _ _ (0, 0) h1W, ← e]; rfl, A5, c5, w5, ?_, by rw [cell_of_row w5 R 6 _ _ (0, 0) h15, ← e]; rfl, frozen_of_row w5 R 6 _ _ h15, fun k hk hg => (hM5.block k (Nat.lt_of_lt_of_le hk hb.size) (fun e' => hg (h5 k e').1)).trans (hb.block k hk), _, ⟨h.below hN, ⟨F, _, ?_, h2', hO6, fun k hk => ⟨.inl (h4 k hk).1, (h4 k hk).2.1, fun e' => ?_⟩, fun k hk => ⟨.inr hk, hne5 k hk⟩⟩, .inl h.inR, fun k hk => ?_⟩, hN⟩
 ·rw [← e]; exact hrun
 ·rw [heap_setCell_same w5 R 6 _ _ _ h15]; rfl
 ·rcases hT5 k e' with hk2 | hk2
  ·exact (h4 k hk).2.2 hk2
  ·have := h2.2.2 k hk; have := hb.size; omega
 ·rcases hk with hk | hk
  ·exact ⟨(h.out k hk).1, Nat.lt_of_lt_of_le (h.out k hk).2 hN.2.size⟩
  ·have := hO6.lt k hk
   exact this
theorem Wk.setO {i : List Bool} {f : Bool} (h : Wk C R P w G s (i ++ [f])) (z : Bool) : ∃ g c, w.cell? ⟨R, 6, none⟩ = some (.slice (some ⟨g, 0, none⟩) (i.length + 1) c) ∧ g ≠ R ∧ w.frozen? ⟨g, i.length, none⟩ = false ∧ w.cell? ⟨g, i.length, none⟩ = some (.bool f) ∧ i.length + 1 ≤ c ∧ c ≤ maxLen ∧
  (w.setCell ⟨g, i.length, none⟩ (.bool z)).cell? ⟨R, 6, none⟩ = some (.slice (some ⟨g, 0, none⟩) (i.length + 1) c) ∧ Wk C R P (w.setCell ⟨g, i.length, none⟩ (.bool z)) G s (i ++ [z]) ∧ Nxt G w G (w.setCell ⟨g, i.length, none⟩ (.bool z)) := by
 obtain ⟨F, vo, h1, h2, h3, h4, h5⟩ := h.all
 obtain ⟨g, c, cur, cs, rfl, q1, q2, q3, q4, q5, q6, q7, q8⟩ := h3.last
 have hcs : cs = [.bool f] := q6
 subst hcs
 have hg := h5 g rfl
 have hM : Mod (· = g) w (w.setCell ⟨g, i.length, none⟩ (.bool z)) := Mod.setCell (T := (· = g)) (Mod.refl _ w) (fun _ => rfl) _
 have hO : OwnL 4 (w.setCell ⟨g, i.length, none⟩ (.bool z)) C.B (fun _ => False) (.slice (some ⟨g, 0, none⟩) (i.length + 1) c) (i ++ [z]) := by
  have h' := OwnL.setLast h3 (fun k _ hs => hs.elim) 0 (.bool z) z (fun cs hr => by
   have e : cs = [.bool f] := hr
   subst e
   rfl)
  have e : i.length * Lay.size Bool + 0 = i.length := by show i.length * 1 + 0 = i.length; omega
  rw [e] at h'
  exact h'
 have hN : Nxt G w G (w.setCell ⟨g, i.length, none⟩ (.bool z)) := ⟨fun _ h => .inl h, hM.more (fun k _ hk => by rw [hk]; exact hg.1)⟩
 have hl : cur[i.length]? = some (.bool f) := by
  have := q7 0 (.bool f) rfl
  have e : i.length * Lay.size Bool + 0 = i.length := by show i.length * 1 + 0 = i.length; omega
  rw [e] at this
  exact this
 refine ⟨g, c, by rw [cell_of_row w R 6 _ _ (0, 0) h1]; rfl, hg.2, frozen_of_row w g i.length _ _ q4, by rw [cell_of_row w g i.length _ _ (0, 0) q4]; exact hl, q1, q2, by rw [cell_of_row _ R 6 _ _ (0, 0) ((heap_setCell_other w _ R _ (fun e => hg.2 e.symm)).trans h1)]; rfl, ⟨h.below hN, ⟨F, _, (heap_setCell_other w _ R _ (fun e => hg.2 e.symm)).trans h1, h2.mod hM (fun k hk e => (h4 k hk).2.2 (by rw [e]; rfl)), hO, h4, h5⟩, h.inR, fun k hk => ⟨(h.out k hk).1, Nat.lt_of_lt_of_le (h.out k hk).2 hN.2.size⟩⟩, hN⟩
theorem Wk.cutO {i : List Bool} {f : Bool} (h : Wk C R P w G s (i ++ [f])) : ∃ g c, w.cell? ⟨R, 6, none⟩ = some (.slice (some ⟨g, 0, none⟩) (i.length + 1) c) ∧ w.frozen? ⟨R, 6, none⟩ = false ∧ w.cell? ⟨g, i.length, none⟩ = some (.bool f) ∧ i.length + 1 ≤ c ∧ c ≤ maxLen ∧
  Wk C R P (w.setCell ⟨R, 6, none⟩ (.slice (some ⟨g, 0, none⟩) i.length c)) G s i ∧ Nxt G w G (w.setCell ⟨R, 6, none⟩ (.slice (some ⟨g, 0, none⟩) i.length c)) := by
 obtain ⟨g, c, q1, _, _, q3, q4, q5, _⟩ := h.setO f
 obtain ⟨F, vo, h1, h2, h3, h4, h5⟩ := h.all
 obtain ⟨g', c', cur, cs, rfl, _⟩ := h3.last
 rw [cell_of_row w R 6 _ _ (0, 0) h1] at q1
 have q1' : some (Value.slice (some ⟨g', 0, none⟩) (i.length + 1) c') = some (.slice (some ⟨g, 0, none⟩) (i.length + 1) c) := q1
 injection q1' with q1'
 injection q1' with e1 _ e3
 injection e1 with e1
 injection e1 with e1 _ _
 subst e1 e3
 have hd := OwnL.dropLast h3 (fun k _ hs => hs.elim)
 have hS : Mod (· = R) w (w.setCell ⟨R, 6, none⟩ (.slice (some ⟨g', 0, none⟩) i.length c')) := Mod.setCell (T := (· = R)) (Mod.refl _ w) (fun _ => rfl) _
 have hN : Nxt G w G (w.setCell ⟨R, 6, none⟩ (.slice (some ⟨g', 0, none⟩) i.length c')) := ⟨fun _ h => .inl h, hS.more (fun k _ hk => by rw [hk]; exact h.inR)⟩
 refine ⟨g', c', by rw [cell_of_row w R 6 _ _ (0, 0) h1]; rfl, frozen_of_row w R 6 _ _ h1, q3, q4, q5, ⟨h.below hN, ⟨F, _, by rw [heap_setCell_same w R 6 _ _ _ h1]; rfl, h2.mod hS (fun k hk => (h4 k hk).2.1), hd.mod hS (fun k hk e => (h5 k hk).2 e) (fun _ _ hs => hs.elim), h4, h5⟩, h.inR, fun k hk => ⟨(h.out k hk).1, Nat.lt_of_lt_of_le (h.out k hk).2 hN.2.size⟩⟩, hN⟩
theorem wk_pushL (h : Wk C R P w G s o) (hs : s.sm n) (hn : n ≤ 500000000) (l : List UInt8) (v : Value) (hv : ab w (· < w.heap.size) l v) (hl : l.length ≤ 400000000) :
  Calls Tryz.prog 105 #[.pointer (some ⟨P, 0, none⟩), v] w fun e w' => e = .returned (.tuple #[]) ∧ ∃ G', Wk C R P w' G' (s.push l) o ∧ Nxt G w G' w' := by
 obtain ⟨F, vo, h1, h2, h3, h4, h5⟩ := h.all
 obtain ⟨A, c, rfl, hA⟩ := hv.form
 refine (at_push h2 hs hn l A c hA hl).mono ?_
 rintro e w' ⟨rfl, F', q1, q2⟩
 exact ⟨rfl, h.stk h1 h3 h4 h5 q1 q2⟩
theorem wk_openL (h : Wk C R P w G s o) (hs : s.sm n) (hn : n ≤ 500000000) (a b : List UInt8) (va vb : Value) (ha : ab w (· < w.heap.size) a va) (hb : ab w (· < w.heap.size) b vb) (hl1 : a.length ≤ 400000000) (hl2 : b.length ≤ 400000000) :
  Calls Tryz.prog 70 #[.pointer (some ⟨P, 0, none⟩), va, vb] w fun e w' => e = .returned (.tuple #[]) ∧ ∃ G', Wk C R P w' G' (s.op a b) o ∧ Nxt G w G' w' := by
 obtain ⟨F, vo, h1, h2, h3, h4, h5⟩ := h.all
 refine (at_open h2 hs hn a b va vb ha hb hl1 hl2).mono ?_
 rintro e w' ⟨rfl, F', q1, q2⟩
 exact ⟨rfl, h.stk h1 h3 h4 h5 q1 q2⟩
theorem dM (h : Wk C R P w G s o) (hs : s.sm n) (hn : n ≤ 500000000) :
  Calls Tryz.prog 49 #[.pointer (some ⟨P, 0, none⟩)] w fun e w' => ansS (· < w'.heap.size) s.closeA e w' ∧ ∃ G', Wk C R P w' G' s.close o ∧ Nxt G w G' w' := by
 obtain ⟨F, vo, h1, h2, h3, h4, h5⟩ := h.all
 refine (at_close h2 hs hn).mono ?_
 rintro e w' ⟨ha, F', q1, q2⟩
 refine ⟨?_, h.stk h1 h3 h4 h5 q1 q2⟩
 cases hc : s.closeA with
 | none => rw [hc] at ha; exact ha
 | some l =>
  rw [hc] at ha
  obtain ⟨A, c, e1, hv⟩ := ha
  exact ⟨A, c, e1, hv.more (fun k hk _ => hk)⟩
end
end Go.Proofs.YtelcdmkbaegjoaaGreat
