/-
  Layer 7's module: its sections. (gen/enc/sec.py)
-/
import Derived.Test.YtgnbkfkiigcdgaaGreatDoorQ01
import Derived.Test.YtgnbkfkiigcdgaaGreatDoorQ32
import Derived.Great.Frames
set_option maxRecDepth 100000
set_option maxHeartbeats 4000000
namespace Go.Proofs.YtgnbkfkiigcdgaaGreatDoor
open Go.RowKit Ins Bin
theorem act_set {C : Act → Prop} {a : Act} {d : Nat} {v : Value} {df : List Deferred} (hd : d < a.tmps.size) (h : ∀ b : Act, b.tmps.size = a.tmps.size → b.defers = df → b.tmps.getD d undef = v → C b) : C ⟨a.tmps.setIfInBounds d v, df⟩ :=
 h _ (by simp) rfl (Act.eval_put_same a d v hd)
theorem Z {C : Array Bool → Prop} {L : Array Bool} (L' : Array Bool) (h : L = L') (hc : C L') : C L := h ▸ hc
theorem Act.ev {a : Act} {k : Nat} {v : Value} (h : a.tmps.getD k undef = v) : a.eval (.tmp k) = v := h
theorem act_of {C : Act → Prop} (a0 : Act) (h : ∀ a : Act, a.tmps.size = a0.tmps.size → a.defers = a0.defers → (∀ k, a.tmps.getD k undef = a0.tmps.getD k undef) → C a) : C a0 := h a0 rfl rfl (fun _ => rfl)
theorem aa {C : Act → Prop} {a : Act} {d : Nat} {v : Value} (hd : d < a.tmps.size) (h : ∀ b : Act, b.tmps.size = a.tmps.size → b.defers = a.defers → b.tmps.getD d undef = v → (∀ k, k ≠ d → b.tmps.getD k undef = a.tmps.getD k undef) → C b) : C (a.put (some d) v) :=
 h _ (by simp [Act.put]) rfl (Act.eval_put_same a d v hd) (fun k hk => Act.eval_put_ne a d k v (Ne.symm hk))
theorem econt_any (B : Nat) (n1 c1 n2 c2 n3 c3 n4 c4 n5 c5 n6 c6 n7 c7 n9 c9 n10 c10 n11 c11 : Nat) (A1 A2 A3 A4 A5 A6 A7 A9 A10 A11 : Option Addr) (hs : Bool) (st : Int) (w : World) (hm : w.heap[B]? = some (.cells #[.slice A1 n1 c1, .slice A2 n2 c2, .slice A3 n3 c3, .slice A4 n4 c4, .slice A5 n5 c5, .slice A6 n6 c6, .slice A7 n7 c7, .bool hs, .int .u32 st, .slice A9 n9 c9, .slice A10 n10 c10, .slice A11 n11 c11] 33 (0, 0))) :
  Calls Tryz.prog 30 #[.pointer (some ⟨B, 0, none⟩)] w fun e w' => e = .returned (.slice (some ⟨w.heap.size, 0, none⟩) 11 11) ∧ w'.heap[w.heap.size]? = some (.cells (contCells B hs n1 n2 n3 n4 n5 n6 n7 n9 n10 n11) 101 (0, 0)) ∧ Below w.heap.size w w' := by
 have h0 : w.cell? ⟨B, 0, none⟩ = some (.slice A1 n1 c1) := by rw [cell_of_row w B 0 _ _ (0, 0) hm]; rfl
 have h1 : w.cell? ⟨B, 1, none⟩ = some (.slice A2 n2 c2) := by rw [cell_of_row w B 1 _ _ (0, 0) hm]; rfl
 have h2 : w.cell? ⟨B, 2, none⟩ = some (.slice A3 n3 c3) := by rw [cell_of_row w B 2 _ _ (0, 0) hm]; rfl
 have h3 : w.cell? ⟨B, 3, none⟩ = some (.slice A4 n4 c4) := by rw [cell_of_row w B 3 _ _ (0, 0) hm]; rfl
 have h4 : w.cell? ⟨B, 4, none⟩ = some (.slice A5 n5 c5) := by rw [cell_of_row w B 4 _ _ (0, 0) hm]; rfl
 have h5 : w.cell? ⟨B, 5, none⟩ = some (.slice A6 n6 c6) := by rw [cell_of_row w B 5 _ _ (0, 0) hm]; rfl
 have h6 : w.cell? ⟨B, 6, none⟩ = some (.slice A7 n7 c7) := by rw [cell_of_row w B 6 _ _ (0, 0) hm]; rfl
 have h7 : w.cell? ⟨B, 7, none⟩ = some (.bool hs) := by rw [cell_of_row w B 7 _ _ (0, 0) hm]; rfl
 have h9 : w.cell? ⟨B, 9, none⟩ = some (.slice A9 n9 c9) := by rw [cell_of_row w B 9 _ _ (0, 0) hm]; rfl
 have h10 : w.cell? ⟨B, 10, none⟩ = some (.slice A10 n10 c10) := by rw [cell_of_row w B 10 _ _ (0, 0) hm]; rfl
 have h11 : w.cell? ⟨B, 11, none⟩ = some (.slice A11 n11 c11) := by rw [cell_of_row w B 11 _ _ (0, 0) hm]; rfl
 clear hm
 go_enter Tryz.func30, Tryz.ntmps30
 go_upto_region 1 with fail
 refine wp_region_held_drew (S := (fun W => W.cell? ⟨B, 0, none⟩ = some (.slice A1 n1 c1) ∧ W.cell? ⟨B, 1, none⟩ = some (.slice A2 n2 c2) ∧ W.cell? ⟨B, 2, none⟩ = some (.slice A3 n3 c3) ∧ W.cell? ⟨B, 3, none⟩ = some (.slice A4 n4 c4) ∧ W.cell? ⟨B, 4, none⟩ = some (.slice A5 n5 c5) ∧ W.cell? ⟨B, 5, none⟩ = some (.slice A6 n6 c6) ∧ W.cell? ⟨B, 6, none⟩ = some (.slice A7 n7 c7) ∧ W.cell? ⟨B, 7, none⟩ = some (.bool hs) ∧ W.cell? ⟨B, 9, none⟩ = some (.slice A9 n9 c9) ∧ W.cell? ⟨B, 10, none⟩ = some (.slice A10 n10 c10) ∧ W.cell? ⟨B, 11, none⟩ = some (.slice A11 n11 c11))) (by as_aux_lemma => kernel_rfl) (⟨h0, h1, h2, h3, h4, h5, h6, h7, h9, h10, h11⟩) (fun hHeld => ?_)
 refine act_of (C := fun a => wpAnyH _ _ _ _ _ _ _ a _) _ ?_
 intro a0 z0 d0 k0
 replace z0 : a0.tmps.size = 101 := z0
 replace d0 : a0.defers = [] := d0
 have e0 : a0.tmps.getD 0 undef = .pointer (some ⟨B, 0, none⟩) := k0 0
 clear k0
 refine Z (C := fun l => wpAnyH _ _ _ _ _ _ l _ _) (List.replicate 0 true ++ List.replicate 99 false).toArray (by as_aux_lemma => kernel_rfl) ?_
 refine dt 0 rfl (hk := by as_aux_lemma => kernel_rfl) (v := ?_) ?_ ?_
 rotate_left
 ·(intro wy hSw; go_simp; (try simp only [e0]); go_simp; try with_reducible rfl)
 refine aa (C := fun a => wpAnyH _ _ _ _ _ _ _ a _) (by rw [z0]; decide) ?_
 intro a1 z1 d1 e3 k1
 replace e0 := (k1 0 (by decide)).trans e0
 replace z0 := z1.trans z0
 replace d0 := d1.trans d0
 clear k1 z1 d1
 clear a0
 refine Z (C := fun l => wpAnyH _ _ _ _ _ _ l _ _) (List.replicate 1 true ++ List.replicate 98 false).toArray (by as_aux_lemma => kernel_rfl) ?_
 refine dt 1 rfl (hk := by as_aux_lemma => kernel_rfl) (v := ?_) ?_ ?_
 rotate_left
 ·(intro wy hSw; go_simp; (try simp only [e3]); go_simp; try with_reducible rfl)
 refine aa (C := fun a => wpAnyH _ _ _ _ _ _ _ a _) (by rw [z0]; decide) ?_
 intro a2 z1 d1 e4 k1
 replace e0 := (k1 0 (by decide)).trans e0
 replace z0 := z1.trans z0
 replace d0 := d1.trans d0
 clear k1 z1 d1 e3
 clear a1
 refine Z (C := fun l => wpAnyH _ _ _ _ _ _ l _ _) (List.replicate 2 true ++ List.replicate 97 false).toArray (by as_aux_lemma => kernel_rfl) ?_
 refine dt 2 rfl (hk := by as_aux_lemma => kernel_rfl) (v := ?_) ?_ ?_
 rotate_left
 ·(intro wy hSw; go_simp; (try simp only [e4]); go_simp; try with_reducible rfl)
 refine aa (C := fun a => wpAnyH _ _ _ _ _ _ _ a _) (by rw [z0]; decide) ?_
 intro a3 z1 d1 e5 k1
 replace e0 := (k1 0 (by decide)).trans e0
 replace z0 := z1.trans z0
 replace d0 := d1.trans d0
 clear k1 z1 d1 e4
 clear a2
 refine Z (C := fun l => wpAnyH _ _ _ _ _ _ l _ _) (List.replicate 3 true ++ List.replicate 96 false).toArray (by as_aux_lemma => kernel_rfl) ?_
 refine dt 3 rfl (hk := by as_aux_lemma => kernel_rfl) (v := ?_) ?_ ?_
 rotate_left
 ·(intro wy hSw; obtain ⟨q0, q1, q2, q3, q4, q5, q6, q7, q9, q10, q11⟩ := hSw; go_simp; (try simp only [e5]); go_simp; try with_reducible rfl)
 refine aa (C := fun a => wpAnyH _ _ _ _ _ _ _ a _) (by rw [z0]; decide) ?_
 intro a4 z1 d1 e6 k1
 replace e0 := (k1 0 (by decide)).trans e0
 replace z0 := z1.trans z0
 replace d0 := d1.trans d0
 clear k1 z1 d1 e5
 clear a3
 refine Z (C := fun l => wpAnyH _ _ _ _ _ _ l _ _) (List.replicate 4 true ++ List.replicate 95 false).toArray (by as_aux_lemma => kernel_rfl) ?_
 refine dt 4 rfl (hk := by as_aux_lemma => kernel_rfl) (v := ?_) ?_ ?_
 rotate_left
 ·(intro wy hSw; go_simp; (try simp only [e6]); go_simp; try with_reducible rfl)
 refine aa (C := fun a => wpAnyH _ _ _ _ _ _ _ a _) (by rw [z0]; decide) ?_
 intro a5 z1 d1 e7 k1
 replace e0 := (k1 0 (by decide)).trans e0
 replace z0 := z1.trans z0
 replace d0 := d1.trans d0
 clear k1 z1 d1 e6
 clear a4
 refine Z (C := fun l => wpAnyH _ _ _ _ _ _ l _ _) (List.replicate 5 true ++ List.replicate 94 false).toArray (by as_aux_lemma => kernel_rfl) ?_
 refine dt 5 rfl (hk := by as_aux_lemma => kernel_rfl) (v := ?_) ?_ ?_
 rotate_left
 ·(intro wy hSw; go_simp; (try simp only [e7]); go_simp; try with_reducible rfl)
 refine aa (C := fun a => wpAnyH _ _ _ _ _ _ _ a _) (by rw [z0]; decide) ?_
 intro a6 z1 d1 e8 k1
 replace e0 := (k1 0 (by decide)).trans e0
 replace z0 := z1.trans z0
 replace d0 := d1.trans d0
 clear k1 z1 d1 e7
 clear a5
 refine Z (C := fun l => wpAnyH _ _ _ _ _ _ l _ _) (List.replicate 6 true ++ List.replicate 93 false).toArray (by as_aux_lemma => kernel_rfl) ?_
 refine dt 6 rfl (hk := by as_aux_lemma => kernel_rfl) (v := ?_) ?_ ?_
 rotate_left
 ·(intro wy hSw; go_simp; (try simp only [e0]); go_simp; try with_reducible rfl)
 refine aa (C := fun a => wpAnyH _ _ _ _ _ _ _ a _) (by rw [z0]; decide) ?_
 intro a7 z1 d1 e9 k1
 replace e0 := (k1 0 (by decide)).trans e0
 replace e8 := (k1 8 (by decide)).trans e8
 replace z0 := z1.trans z0
 replace d0 := d1.trans d0
 clear k1 z1 d1
 clear a6
 refine Z (C := fun l => wpAnyH _ _ _ _ _ _ l _ _) (List.replicate 7 true ++ List.replicate 92 false).toArray (by as_aux_lemma => kernel_rfl) ?_
 refine dt 7 rfl (hk := by as_aux_lemma => kernel_rfl) (v := ?_) ?_ ?_
 rotate_left
 ·(intro wy hSw; go_simp; (try simp only [e9]); go_simp; try with_reducible rfl)
 refine aa (C := fun a => wpAnyH _ _ _ _ _ _ _ a _) (by rw [z0]; decide) ?_
 intro a8 z1 d1 e10 k1
 replace e0 := (k1 0 (by decide)).trans e0
 replace e8 := (k1 8 (by decide)).trans e8
 replace z0 := z1.trans z0
 replace d0 := d1.trans d0
 clear k1 z1 d1 e9
 clear a7
 refine Z (C := fun l => wpAnyH _ _ _ _ _ _ l _ _) (List.replicate 8 true ++ List.replicate 91 false).toArray (by as_aux_lemma => kernel_rfl) ?_
 refine dt 8 rfl (hk := by as_aux_lemma => kernel_rfl) (v := ?_) ?_ ?_
 rotate_left
 ·(intro wy hSw; have vA := Act.ev e8; have vB := Act.ev e10; unfold execOp; simp only [List.map_toArray, List.map_cons, List.map_nil, vA, vB]; go_simp; try with_reducible rfl)
 refine aa (C := fun a => wpAnyH _ _ _ _ _ _ _ a _) (by rw [z0]; decide) ?_
 intro a9 z1 d1 e11 k1
 replace e0 := (k1 0 (by decide)).trans e0
 replace z0 := z1.trans z0
 replace d0 := d1.trans d0
 clear k1 z1 d1 e8 e10
 clear a8
 refine Z (C := fun l => wpAnyH _ _ _ _ _ _ l _ _) (List.replicate 9 true ++ List.replicate 90 false).toArray (by as_aux_lemma => kernel_rfl) ?_
 refine dt 9 rfl (hk := by as_aux_lemma => kernel_rfl) (v := ?_) ?_ ?_
 rotate_left
 ·(intro wy hSw; go_simp; (try simp only [e0]); go_simp; try with_reducible rfl)
 refine aa (C := fun a => wpAnyH _ _ _ _ _ _ _ a _) (by rw [z0]; decide) ?_
 intro a10 z1 d1 e12 k1
 replace e0 := (k1 0 (by decide)).trans e0
 replace e11 := (k1 11 (by decide)).trans e11
 replace z0 := z1.trans z0
 replace d0 := d1.trans d0
 clear k1 z1 d1
 clear a9
 refine Z (C := fun l => wpAnyH _ _ _ _ _ _ l _ _) (List.replicate 10 true ++ List.replicate 89 false).toArray (by as_aux_lemma => kernel_rfl) ?_
 refine dt 10 rfl (hk := by as_aux_lemma => kernel_rfl) (v := ?_) ?_ ?_
 rotate_left
 ·(intro wy hSw; go_simp; (try simp only [e12]); go_simp; try with_reducible rfl)
 refine aa (C := fun a => wpAnyH _ _ _ _ _ _ _ a _) (by rw [z0]; decide) ?_
 intro a11 z1 d1 e13 k1
 replace e0 := (k1 0 (by decide)).trans e0
 replace e11 := (k1 11 (by decide)).trans e11
 replace z0 := z1.trans z0
 replace d0 := d1.trans d0
 clear k1 z1 d1 e12
 clear a10
 refine Z (C := fun l => wpAnyH _ _ _ _ _ _ l _ _) (List.replicate 11 true ++ List.replicate 88 false).toArray (by as_aux_lemma => kernel_rfl) ?_
 refine dt 11 rfl (hk := by as_aux_lemma => kernel_rfl) (v := ?_) ?_ ?_
 rotate_left
 ·(intro wy hSw; go_simp; (try simp only [e13]); go_simp; try with_reducible rfl)
 refine aa (C := fun a => wpAnyH _ _ _ _ _ _ _ a _) (by rw [z0]; decide) ?_
 intro a12 z1 d1 e14 k1
 replace e0 := (k1 0 (by decide)).trans e0
 replace e11 := (k1 11 (by decide)).trans e11
 replace z0 := z1.trans z0
 replace d0 := d1.trans d0
 clear k1 z1 d1 e13
 clear a11
 refine Z (C := fun l => wpAnyH _ _ _ _ _ _ l _ _) (List.replicate 12 true ++ List.replicate 87 false).toArray (by as_aux_lemma => kernel_rfl) ?_
 refine dt 12 rfl (hk := by as_aux_lemma => kernel_rfl) (v := ?_) ?_ ?_
 rotate_left
 ·(intro wy hSw; obtain ⟨q0, q1, q2, q3, q4, q5, q6, q7, q9, q10, q11⟩ := hSw; go_simp; (try simp only [e14]); go_simp; try with_reducible rfl)
 refine aa (C := fun a => wpAnyH _ _ _ _ _ _ _ a _) (by rw [z0]; decide) ?_
 intro a13 z1 d1 e15 k1
 replace e0 := (k1 0 (by decide)).trans e0
 replace e11 := (k1 11 (by decide)).trans e11
 replace z0 := z1.trans z0
 replace d0 := d1.trans d0
 clear k1 z1 d1 e14
 clear a12
 refine Z (C := fun l => wpAnyH _ _ _ _ _ _ l _ _) (List.replicate 13 true ++ List.replicate 86 false).toArray (by as_aux_lemma => kernel_rfl) ?_
 refine dt 13 rfl (hk := by as_aux_lemma => kernel_rfl) (v := ?_) ?_ ?_
 rotate_left
 ·(intro wy hSw; go_simp; (try simp only [e15]); go_simp; try with_reducible rfl)
 refine aa (C := fun a => wpAnyH _ _ _ _ _ _ _ a _) (by rw [z0]; decide) ?_
 intro a14 z1 d1 e16 k1
 replace e0 := (k1 0 (by decide)).trans e0
 replace e11 := (k1 11 (by decide)).trans e11
 replace z0 := z1.trans z0
 replace d0 := d1.trans d0
 clear k1 z1 d1 e15
 clear a13
 refine Z (C := fun l => wpAnyH _ _ _ _ _ _ l _ _) (List.replicate 14 true ++ List.replicate 85 false).toArray (by as_aux_lemma => kernel_rfl) ?_
 refine dt 14 rfl (hk := by as_aux_lemma => kernel_rfl) (v := ?_) ?_ ?_
 rotate_left
 ·(intro wy hSw; go_simp; (try simp only [e16]); go_simp; try with_reducible rfl)
 refine aa (C := fun a => wpAnyH _ _ _ _ _ _ _ a _) (by rw [z0]; decide) ?_
 intro a15 z1 d1 e17 k1
 replace e0 := (k1 0 (by decide)).trans e0
 replace e11 := (k1 11 (by decide)).trans e11
 replace z0 := z1.trans z0
 replace d0 := d1.trans d0
 clear k1 z1 d1 e16
 clear a14
 refine Z (C := fun l => wpAnyH _ _ _ _ _ _ l _ _) (List.replicate 15 true ++ List.replicate 84 false).toArray (by as_aux_lemma => kernel_rfl) ?_
 refine dt 15 rfl (hk := by as_aux_lemma => kernel_rfl) (v := ?_) ?_ ?_
 rotate_left
 ·(intro wy hSw; go_simp; (try simp only [e0]); go_simp; try with_reducible rfl)
 refine aa (C := fun a => wpAnyH _ _ _ _ _ _ _ a _) (by rw [z0]; decide) ?_
 intro a16 z1 d1 e18 k1
 replace e0 := (k1 0 (by decide)).trans e0
 replace e11 := (k1 11 (by decide)).trans e11
 replace e17 := (k1 17 (by decide)).trans e17
 replace z0 := z1.trans z0
 replace d0 := d1.trans d0
 clear k1 z1 d1
 clear a15
 refine Z (C := fun l => wpAnyH _ _ _ _ _ _ l _ _) (List.replicate 16 true ++ List.replicate 83 false).toArray (by as_aux_lemma => kernel_rfl) ?_
 refine dt 16 rfl (hk := by as_aux_lemma => kernel_rfl) (v := ?_) ?_ ?_
 rotate_left
 ·(intro wy hSw; go_simp; (try simp only [e18]); go_simp; try with_reducible rfl)
 refine aa (C := fun a => wpAnyH _ _ _ _ _ _ _ a _) (by rw [z0]; decide) ?_
 intro a17 z1 d1 e19 k1
 replace e0 := (k1 0 (by decide)).trans e0
 replace e11 := (k1 11 (by decide)).trans e11
 replace e17 := (k1 17 (by decide)).trans e17
 replace z0 := z1.trans z0
 replace d0 := d1.trans d0
 clear k1 z1 d1 e18
 clear a16
 refine Z (C := fun l => wpAnyH _ _ _ _ _ _ l _ _) (List.replicate 17 true ++ List.replicate 82 false).toArray (by as_aux_lemma => kernel_rfl) ?_
 refine dt 17 rfl (hk := by as_aux_lemma => kernel_rfl) (v := ?_) ?_ ?_
 rotate_left
 ·(intro wy hSw; have vA := Act.ev e17; have vB := Act.ev e19; unfold execOp; simp only [List.map_toArray, List.map_cons, List.map_nil, vA, vB]; go_simp; try with_reducible rfl)
 refine aa (C := fun a => wpAnyH _ _ _ _ _ _ _ a _) (by rw [z0]; decide) ?_
 intro a18 z1 d1 e20 k1
 replace e0 := (k1 0 (by decide)).trans e0
 replace e11 := (k1 11 (by decide)).trans e11
 replace z0 := z1.trans z0
 replace d0 := d1.trans d0
 clear k1 z1 d1 e17 e19
 clear a17
 refine Z (C := fun l => wpAnyH _ _ _ _ _ _ l _ _) (List.replicate 18 true ++ List.replicate 81 false).toArray (by as_aux_lemma => kernel_rfl) ?_
 refine dt 18 rfl (hk := by as_aux_lemma => kernel_rfl) (v := ?_) ?_ ?_
 rotate_left
 ·(intro wy hSw; go_simp; (try simp only [e0]); go_simp; try with_reducible rfl)
 refine aa (C := fun a => wpAnyH _ _ _ _ _ _ _ a _) (by rw [z0]; decide) ?_
 intro a19 z1 d1 e21 k1
 replace e0 := (k1 0 (by decide)).trans e0
 replace e11 := (k1 11 (by decide)).trans e11
 replace e20 := (k1 20 (by decide)).trans e20
 replace z0 := z1.trans z0
 replace d0 := d1.trans d0
 clear k1 z1 d1
 clear a18
 refine Z (C := fun l => wpAnyH _ _ _ _ _ _ l _ _) (List.replicate 19 true ++ List.replicate 80 false).toArray (by as_aux_lemma => kernel_rfl) ?_
 refine dt 19 rfl (hk := by as_aux_lemma => kernel_rfl) (v := ?_) ?_ ?_
 rotate_left
 ·(intro wy hSw; go_simp; (try simp only [e21]); go_simp; try with_reducible rfl)
 refine aa (C := fun a => wpAnyH _ _ _ _ _ _ _ a _) (by rw [z0]; decide) ?_
 intro a20 z1 d1 e22 k1
 replace e0 := (k1 0 (by decide)).trans e0
 replace e11 := (k1 11 (by decide)).trans e11
 replace e20 := (k1 20 (by decide)).trans e20
 replace z0 := z1.trans z0
 replace d0 := d1.trans d0
 clear k1 z1 d1 e21
 clear a19
 refine Z (C := fun l => wpAnyH _ _ _ _ _ _ l _ _) (List.replicate 20 true ++ List.replicate 79 false).toArray (by as_aux_lemma => kernel_rfl) ?_
 refine dt 20 rfl (hk := by as_aux_lemma => kernel_rfl) (v := ?_) ?_ ?_
 rotate_left
 ·(intro wy hSw; go_simp; (try simp only [e22]); go_simp; try with_reducible rfl)
 refine aa (C := fun a => wpAnyH _ _ _ _ _ _ _ a _) (by rw [z0]; decide) ?_
 intro a21 z1 d1 e23 k1
 replace e0 := (k1 0 (by decide)).trans e0
 replace e11 := (k1 11 (by decide)).trans e11
 replace e20 := (k1 20 (by decide)).trans e20
 replace z0 := z1.trans z0
 replace d0 := d1.trans d0
 clear k1 z1 d1 e22
 clear a20
 refine Z (C := fun l => wpAnyH _ _ _ _ _ _ l _ _) (List.replicate 21 true ++ List.replicate 78 false).toArray (by as_aux_lemma => kernel_rfl) ?_
 refine dt 21 rfl (hk := by as_aux_lemma => kernel_rfl) (v := ?_) ?_ ?_
 rotate_left
 ·(intro wy hSw; obtain ⟨q0, q1, q2, q3, q4, q5, q6, q7, q9, q10, q11⟩ := hSw; go_simp; (try simp only [e23]); go_simp; try with_reducible rfl)
 refine aa (C := fun a => wpAnyH _ _ _ _ _ _ _ a _) (by rw [z0]; decide) ?_
 intro a22 z1 d1 e24 k1
 replace e0 := (k1 0 (by decide)).trans e0
 replace e11 := (k1 11 (by decide)).trans e11
 replace e20 := (k1 20 (by decide)).trans e20
 replace z0 := z1.trans z0
 replace d0 := d1.trans d0
 clear k1 z1 d1 e23
 clear a21
 refine Z (C := fun l => wpAnyH _ _ _ _ _ _ l _ _) (List.replicate 22 true ++ List.replicate 77 false).toArray (by as_aux_lemma => kernel_rfl) ?_
 refine dt 22 rfl (hk := by as_aux_lemma => kernel_rfl) (v := ?_) ?_ ?_
 rotate_left
 ·(intro wy hSw; go_simp; (try simp only [e24]); go_simp; try with_reducible rfl)
 refine aa (C := fun a => wpAnyH _ _ _ _ _ _ _ a _) (by rw [z0]; decide) ?_
 intro a23 z1 d1 e25 k1
 replace e0 := (k1 0 (by decide)).trans e0
 replace e11 := (k1 11 (by decide)).trans e11
 replace e20 := (k1 20 (by decide)).trans e20
 replace z0 := z1.trans z0
 replace d0 := d1.trans d0
 clear k1 z1 d1 e24
 clear a22
 refine Z (C := fun l => wpAnyH _ _ _ _ _ _ l _ _) (List.replicate 23 true ++ List.replicate 76 false).toArray (by as_aux_lemma => kernel_rfl) ?_
 refine dt 23 rfl (hk := by as_aux_lemma => kernel_rfl) (v := ?_) ?_ ?_
 rotate_left
 ·(intro wy hSw; go_simp; (try simp only [e25]); go_simp; try with_reducible rfl)
 refine aa (C := fun a => wpAnyH _ _ _ _ _ _ _ a _) (by rw [z0]; decide) ?_
 intro a24 z1 d1 e26 k1
 replace e0 := (k1 0 (by decide)).trans e0
 replace e11 := (k1 11 (by decide)).trans e11
 replace e20 := (k1 20 (by decide)).trans e20
 replace z0 := z1.trans z0
 replace d0 := d1.trans d0
 clear k1 z1 d1 e25
 clear a23
 refine Z (C := fun l => wpAnyH _ _ _ _ _ _ l _ _) (List.replicate 24 true ++ List.replicate 75 false).toArray (by as_aux_lemma => kernel_rfl) ?_
 refine dt 24 rfl (hk := by as_aux_lemma => kernel_rfl) (v := ?_) ?_ ?_
 rotate_left
 ·(intro wy hSw; go_simp; (try simp only [e0]); go_simp; try with_reducible rfl)
 refine aa (C := fun a => wpAnyH _ _ _ _ _ _ _ a _) (by rw [z0]; decide) ?_
 intro a25 z1 d1 e27 k1
 replace e0 := (k1 0 (by decide)).trans e0
 replace e11 := (k1 11 (by decide)).trans e11
 replace e20 := (k1 20 (by decide)).trans e20
 replace e26 := (k1 26 (by decide)).trans e26
 replace z0 := z1.trans z0
 replace d0 := d1.trans d0
 clear k1 z1 d1
 clear a24
 refine Z (C := fun l => wpAnyH _ _ _ _ _ _ l _ _) (List.replicate 25 true ++ List.replicate 74 false).toArray (by as_aux_lemma => kernel_rfl) ?_
 refine dt 25 rfl (hk := by as_aux_lemma => kernel_rfl) (v := ?_) ?_ ?_
 rotate_left
 ·(intro wy hSw; go_simp; (try simp only [e27]); go_simp; try with_reducible rfl)
 refine aa (C := fun a => wpAnyH _ _ _ _ _ _ _ a _) (by rw [z0]; decide) ?_
 intro a26 z1 d1 e28 k1
 replace e0 := (k1 0 (by decide)).trans e0
 replace e11 := (k1 11 (by decide)).trans e11
 replace e20 := (k1 20 (by decide)).trans e20
 replace e26 := (k1 26 (by decide)).trans e26
 replace z0 := z1.trans z0
 replace d0 := d1.trans d0
 clear k1 z1 d1 e27
 clear a25
 refine Z (C := fun l => wpAnyH _ _ _ _ _ _ l _ _) (List.replicate 26 true ++ List.replicate 73 false).toArray (by as_aux_lemma => kernel_rfl) ?_
 refine dt 26 rfl (hk := by as_aux_lemma => kernel_rfl) (v := ?_) ?_ ?_
 rotate_left
 ·(intro wy hSw; have vA := Act.ev e26; have vB := Act.ev e28; unfold execOp; simp only [List.map_toArray, List.map_cons, List.map_nil, vA, vB]; go_simp; try with_reducible rfl)
 refine aa (C := fun a => wpAnyH _ _ _ _ _ _ _ a _) (by rw [z0]; decide) ?_
 intro a27 z1 d1 e29 k1
 replace e0 := (k1 0 (by decide)).trans e0
 replace e11 := (k1 11 (by decide)).trans e11
 replace e20 := (k1 20 (by decide)).trans e20
 replace z0 := z1.trans z0
 replace d0 := d1.trans d0
 clear k1 z1 d1 e26 e28
 clear a26
 refine Z (C := fun l => wpAnyH _ _ _ _ _ _ l _ _) (List.replicate 27 true ++ List.replicate 72 false).toArray (by as_aux_lemma => kernel_rfl) ?_
 refine dt 27 rfl (hk := by as_aux_lemma => kernel_rfl) (v := ?_) ?_ ?_
 rotate_left
 ·(intro wy hSw; go_simp; (try simp only [e0]); go_simp; try with_reducible rfl)
 refine aa (C := fun a => wpAnyH _ _ _ _ _ _ _ a _) (by rw [z0]; decide) ?_
 intro a28 z1 d1 e30 k1
 replace e0 := (k1 0 (by decide)).trans e0
 replace e11 := (k1 11 (by decide)).trans e11
 replace e20 := (k1 20 (by decide)).trans e20
 replace e29 := (k1 29 (by decide)).trans e29
 replace z0 := z1.trans z0
 replace d0 := d1.trans d0
 clear k1 z1 d1
 clear a27
 refine Z (C := fun l => wpAnyH _ _ _ _ _ _ l _ _) (List.replicate 28 true ++ List.replicate 71 false).toArray (by as_aux_lemma => kernel_rfl) ?_
 refine dt 28 rfl (hk := by as_aux_lemma => kernel_rfl) (v := ?_) ?_ ?_
 rotate_left
 ·(intro wy hSw; go_simp; (try simp only [e30]); go_simp; try with_reducible rfl)
 refine aa (C := fun a => wpAnyH _ _ _ _ _ _ _ a _) (by rw [z0]; decide) ?_
 intro a29 z1 d1 e31 k1
 replace e0 := (k1 0 (by decide)).trans e0
 replace e11 := (k1 11 (by decide)).trans e11
 replace e20 := (k1 20 (by decide)).trans e20
 replace e29 := (k1 29 (by decide)).trans e29
 replace z0 := z1.trans z0
 replace d0 := d1.trans d0
 clear k1 z1 d1 e30
 clear a28
 refine Z (C := fun l => wpAnyH _ _ _ _ _ _ l _ _) (List.replicate 29 true ++ List.replicate 70 false).toArray (by as_aux_lemma => kernel_rfl) ?_
 refine dt 29 rfl (hk := by as_aux_lemma => kernel_rfl) (v := ?_) ?_ ?_
 rotate_left
 ·(intro wy hSw; go_simp; (try simp only [e31]); go_simp; try with_reducible rfl)
 refine aa (C := fun a => wpAnyH _ _ _ _ _ _ _ a _) (by rw [z0]; decide) ?_
 intro a30 z1 d1 e32 k1
 replace e0 := (k1 0 (by decide)).trans e0
 replace e11 := (k1 11 (by decide)).trans e11
 replace e20 := (k1 20 (by decide)).trans e20
 replace e29 := (k1 29 (by decide)).trans e29
 replace z0 := z1.trans z0
 replace d0 := d1.trans d0
 clear k1 z1 d1 e31
 clear a29
 refine Z (C := fun l => wpAnyH _ _ _ _ _ _ l _ _) (List.replicate 30 true ++ List.replicate 69 false).toArray (by as_aux_lemma => kernel_rfl) ?_
 refine dt 30 rfl (hk := by as_aux_lemma => kernel_rfl) (v := ?_) ?_ ?_
 rotate_left
 ·(intro wy hSw; obtain ⟨q0, q1, q2, q3, q4, q5, q6, q7, q9, q10, q11⟩ := hSw; go_simp; (try simp only [e32]); go_simp; try with_reducible rfl)
 refine aa (C := fun a => wpAnyH _ _ _ _ _ _ _ a _) (by rw [z0]; decide) ?_
 intro a31 z1 d1 e33 k1
 replace e0 := (k1 0 (by decide)).trans e0
 replace e11 := (k1 11 (by decide)).trans e11
 replace e20 := (k1 20 (by decide)).trans e20
 replace e29 := (k1 29 (by decide)).trans e29
 replace z0 := z1.trans z0
 replace d0 := d1.trans d0
 clear k1 z1 d1 e32
 clear a30
 refine Z (C := fun l => wpAnyH _ _ _ _ _ _ l _ _) (List.replicate 31 true ++ List.replicate 68 false).toArray (by as_aux_lemma => kernel_rfl) ?_
 refine dt 31 rfl (hk := by as_aux_lemma => kernel_rfl) (v := ?_) ?_ ?_
 rotate_left
 ·(intro wy hSw; go_simp; (try simp only [e33]); go_simp; try with_reducible rfl)
 refine aa (C := fun a => wpAnyH _ _ _ _ _ _ _ a _) (by rw [z0]; decide) ?_
 intro a32 z1 d1 e34 k1
 replace e0 := (k1 0 (by decide)).trans e0
 replace e11 := (k1 11 (by decide)).trans e11
 replace e20 := (k1 20 (by decide)).trans e20
 replace e29 := (k1 29 (by decide)).trans e29
 replace z0 := z1.trans z0
 replace d0 := d1.trans d0
 clear k1 z1 d1 e33
 clear a31
 refine Z (C := fun l => wpAnyH _ _ _ _ _ _ l _ _) (List.replicate 32 true ++ List.replicate 67 false).toArray (by as_aux_lemma => kernel_rfl) ?_
 refine dt 32 rfl (hk := by as_aux_lemma => kernel_rfl) (v := ?_) ?_ ?_
 rotate_left
 ·(intro wy hSw; go_simp; (try simp only [e34]); go_simp; try with_reducible rfl)
 refine aa (C := fun a => wpAnyH _ _ _ _ _ _ _ a _) (by rw [z0]; decide) ?_
 intro a33 z1 d1 e35 k1
 replace e0 := (k1 0 (by decide)).trans e0
 replace e11 := (k1 11 (by decide)).trans e11
 replace e20 := (k1 20 (by decide)).trans e20
 replace e29 := (k1 29 (by decide)).trans e29
 replace z0 := z1.trans z0
 replace d0 := d1.trans d0
 clear k1 z1 d1 e34
 clear a32
 refine Z (C := fun l => wpAnyH _ _ _ _ _ _ l _ _) (List.replicate 33 true ++ List.replicate 66 false).toArray (by as_aux_lemma => kernel_rfl) ?_
 refine dt 33 rfl (hk := by as_aux_lemma => kernel_rfl) (v := ?_) ?_ ?_
 rotate_left
 ·(intro wy hSw; go_simp; (try simp only [e0]); go_simp; try with_reducible rfl)
 refine aa (C := fun a => wpAnyH _ _ _ _ _ _ _ a _) (by rw [z0]; decide) ?_
 intro a34 z1 d1 e36 k1
 replace e0 := (k1 0 (by decide)).trans e0
 replace e11 := (k1 11 (by decide)).trans e11
 replace e20 := (k1 20 (by decide)).trans e20
 replace e29 := (k1 29 (by decide)).trans e29
 replace e35 := (k1 35 (by decide)).trans e35
 replace z0 := z1.trans z0
 replace d0 := d1.trans d0
 clear k1 z1 d1
 clear a33
 refine Z (C := fun l => wpAnyH _ _ _ _ _ _ l _ _) (List.replicate 34 true ++ List.replicate 65 false).toArray (by as_aux_lemma => kernel_rfl) ?_
 refine dt 34 rfl (hk := by as_aux_lemma => kernel_rfl) (v := ?_) ?_ ?_
 rotate_left
 ·(intro wy hSw; go_simp; (try simp only [e36]); go_simp; try with_reducible rfl)
 refine aa (C := fun a => wpAnyH _ _ _ _ _ _ _ a _) (by rw [z0]; decide) ?_
 intro a35 z1 d1 e37 k1
 replace e0 := (k1 0 (by decide)).trans e0
 replace e11 := (k1 11 (by decide)).trans e11
 replace e20 := (k1 20 (by decide)).trans e20
 replace e29 := (k1 29 (by decide)).trans e29
 replace e35 := (k1 35 (by decide)).trans e35
 replace z0 := z1.trans z0
 replace d0 := d1.trans d0
 clear k1 z1 d1 e36
 clear a34
 refine Z (C := fun l => wpAnyH _ _ _ _ _ _ l _ _) (List.replicate 35 true ++ List.replicate 64 false).toArray (by as_aux_lemma => kernel_rfl) ?_
 refine dt 35 rfl (hk := by as_aux_lemma => kernel_rfl) (v := ?_) ?_ ?_
 rotate_left
 ·(intro wy hSw; have vA := Act.ev e35; have vB := Act.ev e37; unfold execOp; simp only [List.map_toArray, List.map_cons, List.map_nil, vA, vB]; go_simp; try with_reducible rfl)
 refine aa (C := fun a => wpAnyH _ _ _ _ _ _ _ a _) (by rw [z0]; decide) ?_
 intro a36 z1 d1 e38 k1
 replace e0 := (k1 0 (by decide)).trans e0
 replace e11 := (k1 11 (by decide)).trans e11
 replace e20 := (k1 20 (by decide)).trans e20
 replace e29 := (k1 29 (by decide)).trans e29
 replace z0 := z1.trans z0
 replace d0 := d1.trans d0
 clear k1 z1 d1 e35 e37
 clear a35
 refine Z (C := fun l => wpAnyH _ _ _ _ _ _ l _ _) (List.replicate 36 true ++ List.replicate 63 false).toArray (by as_aux_lemma => kernel_rfl) ?_
 refine dt 36 rfl (hk := by as_aux_lemma => kernel_rfl) (v := ?_) ?_ ?_
 rotate_left
 ·(intro wy hSw; go_simp; (try simp only [e0]); go_simp; try with_reducible rfl)
 refine aa (C := fun a => wpAnyH _ _ _ _ _ _ _ a _) (by rw [z0]; decide) ?_
 intro a37 z1 d1 e39 k1
 replace e0 := (k1 0 (by decide)).trans e0
 replace e11 := (k1 11 (by decide)).trans e11
 replace e20 := (k1 20 (by decide)).trans e20
 replace e29 := (k1 29 (by decide)).trans e29
 replace e38 := (k1 38 (by decide)).trans e38
 replace z0 := z1.trans z0
 replace d0 := d1.trans d0
 clear k1 z1 d1
 clear a36
 refine Z (C := fun l => wpAnyH _ _ _ _ _ _ l _ _) (List.replicate 37 true ++ List.replicate 62 false).toArray (by as_aux_lemma => kernel_rfl) ?_
 refine dt 37 rfl (hk := by as_aux_lemma => kernel_rfl) (v := ?_) ?_ ?_
 rotate_left
 ·(intro wy hSw; go_simp; (try simp only [e39]); go_simp; try with_reducible rfl)
 refine aa (C := fun a => wpAnyH _ _ _ _ _ _ _ a _) (by rw [z0]; decide) ?_
 intro a38 z1 d1 e40 k1
 replace e0 := (k1 0 (by decide)).trans e0
 replace e11 := (k1 11 (by decide)).trans e11
 replace e20 := (k1 20 (by decide)).trans e20
 replace e29 := (k1 29 (by decide)).trans e29
 replace e38 := (k1 38 (by decide)).trans e38
 replace z0 := z1.trans z0
 replace d0 := d1.trans d0
 clear k1 z1 d1 e39
 clear a37
 refine Z (C := fun l => wpAnyH _ _ _ _ _ _ l _ _) (List.replicate 38 true ++ List.replicate 61 false).toArray (by as_aux_lemma => kernel_rfl) ?_
 refine dt 38 rfl (hk := by as_aux_lemma => kernel_rfl) (v := ?_) ?_ ?_
 rotate_left
 ·(intro wy hSw; go_simp; (try simp only [e40]); go_simp; try with_reducible rfl)
 refine aa (C := fun a => wpAnyH _ _ _ _ _ _ _ a _) (by rw [z0]; decide) ?_
 intro a39 z1 d1 e41 k1
 replace e0 := (k1 0 (by decide)).trans e0
 replace e11 := (k1 11 (by decide)).trans e11
 replace e20 := (k1 20 (by decide)).trans e20
 replace e29 := (k1 29 (by decide)).trans e29
 replace e38 := (k1 38 (by decide)).trans e38
 replace z0 := z1.trans z0
 replace d0 := d1.trans d0
 clear k1 z1 d1 e40
 clear a38
 refine Z (C := fun l => wpAnyH _ _ _ _ _ _ l _ _) (List.replicate 39 true ++ List.replicate 60 false).toArray (by as_aux_lemma => kernel_rfl) ?_
 refine dt 39 rfl (hk := by as_aux_lemma => kernel_rfl) (v := ?_) ?_ ?_
 rotate_left
 ·(intro wy hSw; obtain ⟨q0, q1, q2, q3, q4, q5, q6, q7, q9, q10, q11⟩ := hSw; go_simp; (try simp only [e41]); go_simp; try with_reducible rfl)
 refine aa (C := fun a => wpAnyH _ _ _ _ _ _ _ a _) (by rw [z0]; decide) ?_
 intro a40 z1 d1 e42 k1
 replace e0 := (k1 0 (by decide)).trans e0
 replace e11 := (k1 11 (by decide)).trans e11
 replace e20 := (k1 20 (by decide)).trans e20
 replace e29 := (k1 29 (by decide)).trans e29
 replace e38 := (k1 38 (by decide)).trans e38
 replace z0 := z1.trans z0
 replace d0 := d1.trans d0
 clear k1 z1 d1 e41
 clear a39
 refine Z (C := fun l => wpAnyH _ _ _ _ _ _ l _ _) (List.replicate 40 true ++ List.replicate 59 false).toArray (by as_aux_lemma => kernel_rfl) ?_
 refine dt 40 rfl (hk := by as_aux_lemma => kernel_rfl) (v := ?_) ?_ ?_
 rotate_left
 ·(intro wy hSw; go_simp; (try simp only [e42]); go_simp; try with_reducible rfl)
 refine aa (C := fun a => wpAnyH _ _ _ _ _ _ _ a _) (by rw [z0]; decide) ?_
 intro a41 z1 d1 e43 k1
 replace e0 := (k1 0 (by decide)).trans e0
 replace e11 := (k1 11 (by decide)).trans e11
 replace e20 := (k1 20 (by decide)).trans e20
 replace e29 := (k1 29 (by decide)).trans e29
 replace e38 := (k1 38 (by decide)).trans e38
 replace z0 := z1.trans z0
 replace d0 := d1.trans d0
 clear k1 z1 d1 e42
 clear a40
 refine Z (C := fun l => wpAnyH _ _ _ _ _ _ l _ _) (List.replicate 41 true ++ List.replicate 58 false).toArray (by as_aux_lemma => kernel_rfl) ?_
 refine dt 41 rfl (hk := by as_aux_lemma => kernel_rfl) (v := ?_) ?_ ?_
 rotate_left
 ·(intro wy hSw; go_simp; (try simp only [e43]); go_simp; try with_reducible rfl)
 refine aa (C := fun a => wpAnyH _ _ _ _ _ _ _ a _) (by rw [z0]; decide) ?_
 intro a42 z1 d1 e44 k1
 replace e0 := (k1 0 (by decide)).trans e0
 replace e11 := (k1 11 (by decide)).trans e11
 replace e20 := (k1 20 (by decide)).trans e20
 replace e29 := (k1 29 (by decide)).trans e29
 replace e38 := (k1 38 (by decide)).trans e38
 replace z0 := z1.trans z0
 replace d0 := d1.trans d0
 clear k1 z1 d1 e43
 clear a41
 refine Z (C := fun l => wpAnyH _ _ _ _ _ _ l _ _) (List.replicate 42 true ++ List.replicate 57 false).toArray (by as_aux_lemma => kernel_rfl) ?_
 refine dt 42 rfl (hk := by as_aux_lemma => kernel_rfl) (v := ?_) ?_ ?_
 rotate_left
 ·(intro wy hSw; go_simp; (try simp only [e0]); go_simp; try with_reducible rfl)
 refine aa (C := fun a => wpAnyH _ _ _ _ _ _ _ a _) (by rw [z0]; decide) ?_
 intro a43 z1 d1 e45 k1
 replace e0 := (k1 0 (by decide)).trans e0
 replace e11 := (k1 11 (by decide)).trans e11
 replace e20 := (k1 20 (by decide)).trans e20
 replace e29 := (k1 29 (by decide)).trans e29
 replace e38 := (k1 38 (by decide)).trans e38
 replace e44 := (k1 44 (by decide)).trans e44
 replace z0 := z1.trans z0
 replace d0 := d1.trans d0
 clear k1 z1 d1
 clear a42
 refine Z (C := fun l => wpAnyH _ _ _ _ _ _ l _ _) (List.replicate 43 true ++ List.replicate 56 false).toArray (by as_aux_lemma => kernel_rfl) ?_
 refine dt 43 rfl (hk := by as_aux_lemma => kernel_rfl) (v := ?_) ?_ ?_
 rotate_left
 ·(intro wy hSw; go_simp; (try simp only [e45]); go_simp; try with_reducible rfl)
 refine aa (C := fun a => wpAnyH _ _ _ _ _ _ _ a _) (by rw [z0]; decide) ?_
 intro a44 z1 d1 e46 k1
 replace e0 := (k1 0 (by decide)).trans e0
 replace e11 := (k1 11 (by decide)).trans e11
 replace e20 := (k1 20 (by decide)).trans e20
 replace e29 := (k1 29 (by decide)).trans e29
 replace e38 := (k1 38 (by decide)).trans e38
 replace e44 := (k1 44 (by decide)).trans e44
 replace z0 := z1.trans z0
 replace d0 := d1.trans d0
 clear k1 z1 d1 e45
 clear a43
 refine Z (C := fun l => wpAnyH _ _ _ _ _ _ l _ _) (List.replicate 44 true ++ List.replicate 55 false).toArray (by as_aux_lemma => kernel_rfl) ?_
 refine dt 44 rfl (hk := by as_aux_lemma => kernel_rfl) (v := ?_) ?_ ?_
 rotate_left
 ·(intro wy hSw; have vA := Act.ev e44; have vB := Act.ev e46; unfold execOp; simp only [List.map_toArray, List.map_cons, List.map_nil, vA, vB]; go_simp; try with_reducible rfl)
 refine aa (C := fun a => wpAnyH _ _ _ _ _ _ _ a _) (by rw [z0]; decide) ?_
 intro a45 z1 d1 e47 k1
 replace e0 := (k1 0 (by decide)).trans e0
 replace e11 := (k1 11 (by decide)).trans e11
 replace e20 := (k1 20 (by decide)).trans e20
 replace e29 := (k1 29 (by decide)).trans e29
 replace e38 := (k1 38 (by decide)).trans e38
 replace z0 := z1.trans z0
 replace d0 := d1.trans d0
 clear k1 z1 d1 e44 e46
 clear a44
 refine Z (C := fun l => wpAnyH _ _ _ _ _ _ l _ _) (List.replicate 45 true ++ List.replicate 54 false).toArray (by as_aux_lemma => kernel_rfl) ?_
 refine dt 45 rfl (hk := by as_aux_lemma => kernel_rfl) (v := ?_) ?_ ?_
 rotate_left
 ·(intro wy hSw; go_simp; (try simp only [e0]); go_simp; try with_reducible rfl)
 refine aa (C := fun a => wpAnyH _ _ _ _ _ _ _ a _) (by rw [z0]; decide) ?_
 intro a46 z1 d1 e48 k1
 replace e0 := (k1 0 (by decide)).trans e0
 replace e11 := (k1 11 (by decide)).trans e11
 replace e20 := (k1 20 (by decide)).trans e20
 replace e29 := (k1 29 (by decide)).trans e29
 replace e38 := (k1 38 (by decide)).trans e38
 replace e47 := (k1 47 (by decide)).trans e47
 replace z0 := z1.trans z0
 replace d0 := d1.trans d0
 clear k1 z1 d1
 clear a45
 refine Z (C := fun l => wpAnyH _ _ _ _ _ _ l _ _) (List.replicate 46 true ++ List.replicate 53 false).toArray (by as_aux_lemma => kernel_rfl) ?_
 refine dt 46 rfl (hk := by as_aux_lemma => kernel_rfl) (v := ?_) ?_ ?_
 rotate_left
 ·(intro wy hSw; go_simp; (try simp only [e48]); go_simp; try with_reducible rfl)
 refine aa (C := fun a => wpAnyH _ _ _ _ _ _ _ a _) (by rw [z0]; decide) ?_
 intro a47 z1 d1 e49 k1
 replace e0 := (k1 0 (by decide)).trans e0
 replace e11 := (k1 11 (by decide)).trans e11
 replace e20 := (k1 20 (by decide)).trans e20
 replace e29 := (k1 29 (by decide)).trans e29
 replace e38 := (k1 38 (by decide)).trans e38
 replace e47 := (k1 47 (by decide)).trans e47
 replace z0 := z1.trans z0
 replace d0 := d1.trans d0
 clear k1 z1 d1 e48
 clear a46
 refine Z (C := fun l => wpAnyH _ _ _ _ _ _ l _ _) (List.replicate 47 true ++ List.replicate 52 false).toArray (by as_aux_lemma => kernel_rfl) ?_
 refine dt 47 rfl (hk := by as_aux_lemma => kernel_rfl) (v := ?_) ?_ ?_
 rotate_left
 ·(intro wy hSw; go_simp; (try simp only [e49]); go_simp; try with_reducible rfl)
 refine aa (C := fun a => wpAnyH _ _ _ _ _ _ _ a _) (by rw [z0]; decide) ?_
 intro a48 z1 d1 e50 k1
 replace e0 := (k1 0 (by decide)).trans e0
 replace e11 := (k1 11 (by decide)).trans e11
 replace e20 := (k1 20 (by decide)).trans e20
 replace e29 := (k1 29 (by decide)).trans e29
 replace e38 := (k1 38 (by decide)).trans e38
 replace e47 := (k1 47 (by decide)).trans e47
 replace z0 := z1.trans z0
 replace d0 := d1.trans d0
 clear k1 z1 d1 e49
 clear a47
 refine Z (C := fun l => wpAnyH _ _ _ _ _ _ l _ _) (List.replicate 48 true ++ List.replicate 51 false).toArray (by as_aux_lemma => kernel_rfl) ?_
 refine dt 48 rfl (hk := by as_aux_lemma => kernel_rfl) (v := ?_) ?_ ?_
 rotate_left
 ·(intro wy hSw; obtain ⟨q0, q1, q2, q3, q4, q5, q6, q7, q9, q10, q11⟩ := hSw; go_simp; (try simp only [e50]); go_simp; try with_reducible rfl)
 refine aa (C := fun a => wpAnyH _ _ _ _ _ _ _ a _) (by rw [z0]; decide) ?_
 intro a49 z1 d1 e51 k1
 replace e0 := (k1 0 (by decide)).trans e0
 replace e11 := (k1 11 (by decide)).trans e11
 replace e20 := (k1 20 (by decide)).trans e20
 replace e29 := (k1 29 (by decide)).trans e29
 replace e38 := (k1 38 (by decide)).trans e38
 replace e47 := (k1 47 (by decide)).trans e47
 replace z0 := z1.trans z0
 replace d0 := d1.trans d0
 clear k1 z1 d1 e50
 clear a48
 refine Z (C := fun l => wpAnyH _ _ _ _ _ _ l _ _) (List.replicate 49 true ++ List.replicate 50 false).toArray (by as_aux_lemma => kernel_rfl) ?_
 refine dt 49 rfl (hk := by as_aux_lemma => kernel_rfl) (v := ?_) ?_ ?_
 rotate_left
 ·(intro wy hSw; go_simp; (try simp only [e51]); go_simp; try with_reducible rfl)
 refine aa (C := fun a => wpAnyH _ _ _ _ _ _ _ a _) (by rw [z0]; decide) ?_
 intro a50 z1 d1 e52 k1
 replace e0 := (k1 0 (by decide)).trans e0
 replace e11 := (k1 11 (by decide)).trans e11
 replace e20 := (k1 20 (by decide)).trans e20
 replace e29 := (k1 29 (by decide)).trans e29
 replace e38 := (k1 38 (by decide)).trans e38
 replace e47 := (k1 47 (by decide)).trans e47
 replace z0 := z1.trans z0
 replace d0 := d1.trans d0
 clear k1 z1 d1 e51
 clear a49
 refine Z (C := fun l => wpAnyH _ _ _ _ _ _ l _ _) (List.replicate 50 true ++ List.replicate 49 false).toArray (by as_aux_lemma => kernel_rfl) ?_
 refine dt 50 rfl (hk := by as_aux_lemma => kernel_rfl) (v := ?_) ?_ ?_
 rotate_left
 ·(intro wy hSw; go_simp; (try simp only [e52]); go_simp; try with_reducible rfl)
 refine aa (C := fun a => wpAnyH _ _ _ _ _ _ _ a _) (by rw [z0]; decide) ?_
 intro a51 z1 d1 e53 k1
 replace e0 := (k1 0 (by decide)).trans e0
 replace e11 := (k1 11 (by decide)).trans e11
 replace e20 := (k1 20 (by decide)).trans e20
 replace e29 := (k1 29 (by decide)).trans e29
 replace e38 := (k1 38 (by decide)).trans e38
 replace e47 := (k1 47 (by decide)).trans e47
 replace z0 := z1.trans z0
 replace d0 := d1.trans d0
 clear k1 z1 d1 e52
 clear a50
 refine Z (C := fun l => wpAnyH _ _ _ _ _ _ l _ _) (List.replicate 51 true ++ List.replicate 48 false).toArray (by as_aux_lemma => kernel_rfl) ?_
 refine dt 51 rfl (hk := by as_aux_lemma => kernel_rfl) (v := ?_) ?_ ?_
 rotate_left
 ·(intro wy hSw; go_simp; (try simp only [e0]); go_simp; try with_reducible rfl)
 refine aa (C := fun a => wpAnyH _ _ _ _ _ _ _ a _) (by rw [z0]; decide) ?_
 intro a52 z1 d1 e54 k1
 replace e0 := (k1 0 (by decide)).trans e0
 replace e11 := (k1 11 (by decide)).trans e11
 replace e20 := (k1 20 (by decide)).trans e20
 replace e29 := (k1 29 (by decide)).trans e29
 replace e38 := (k1 38 (by decide)).trans e38
 replace e47 := (k1 47 (by decide)).trans e47
 replace e53 := (k1 53 (by decide)).trans e53
 replace z0 := z1.trans z0
 replace d0 := d1.trans d0
 clear k1 z1 d1
 clear a51
 refine Z (C := fun l => wpAnyH _ _ _ _ _ _ l _ _) (List.replicate 52 true ++ List.replicate 47 false).toArray (by as_aux_lemma => kernel_rfl) ?_
 refine dt 52 rfl (hk := by as_aux_lemma => kernel_rfl) (v := ?_) ?_ ?_
 rotate_left
 ·(intro wy hSw; go_simp; (try simp only [e54]); go_simp; try with_reducible rfl)
 refine aa (C := fun a => wpAnyH _ _ _ _ _ _ _ a _) (by rw [z0]; decide) ?_
 intro a53 z1 d1 e55 k1
 replace e0 := (k1 0 (by decide)).trans e0
 replace e11 := (k1 11 (by decide)).trans e11
 replace e20 := (k1 20 (by decide)).trans e20
 replace e29 := (k1 29 (by decide)).trans e29
 replace e38 := (k1 38 (by decide)).trans e38
 replace e47 := (k1 47 (by decide)).trans e47
 replace e53 := (k1 53 (by decide)).trans e53
 replace z0 := z1.trans z0
 replace d0 := d1.trans d0
 clear k1 z1 d1 e54
 clear a52
 refine Z (C := fun l => wpAnyH _ _ _ _ _ _ l _ _) (List.replicate 53 true ++ List.replicate 46 false).toArray (by as_aux_lemma => kernel_rfl) ?_
 refine dt 53 rfl (hk := by as_aux_lemma => kernel_rfl) (v := ?_) ?_ ?_
 rotate_left
 ·(intro wy hSw; have vA := Act.ev e53; have vB := Act.ev e55; unfold execOp; simp only [List.map_toArray, List.map_cons, List.map_nil, vA, vB]; go_simp; try with_reducible rfl)
 refine aa (C := fun a => wpAnyH _ _ _ _ _ _ _ a _) (by rw [z0]; decide) ?_
 intro a54 z1 d1 e56 k1
 replace e0 := (k1 0 (by decide)).trans e0
 replace e11 := (k1 11 (by decide)).trans e11
 replace e20 := (k1 20 (by decide)).trans e20
 replace e29 := (k1 29 (by decide)).trans e29
 replace e38 := (k1 38 (by decide)).trans e38
 replace e47 := (k1 47 (by decide)).trans e47
 replace z0 := z1.trans z0
 replace d0 := d1.trans d0
 clear k1 z1 d1 e53 e55
 clear a53
 refine Z (C := fun l => wpAnyH _ _ _ _ _ _ l _ _) (List.replicate 54 true ++ List.replicate 45 false).toArray (by as_aux_lemma => kernel_rfl) ?_
 refine dt 54 rfl (hk := by as_aux_lemma => kernel_rfl) (v := ?_) ?_ ?_
 rotate_left
 ·(intro wy hSw; go_simp; (try simp only [e0]); go_simp; try with_reducible rfl)
 refine aa (C := fun a => wpAnyH _ _ _ _ _ _ _ a _) (by rw [z0]; decide) ?_
 intro a55 z1 d1 e57 k1
 replace e0 := (k1 0 (by decide)).trans e0
 replace e11 := (k1 11 (by decide)).trans e11
 replace e20 := (k1 20 (by decide)).trans e20
 replace e29 := (k1 29 (by decide)).trans e29
 replace e38 := (k1 38 (by decide)).trans e38
 replace e47 := (k1 47 (by decide)).trans e47
 replace e56 := (k1 56 (by decide)).trans e56
 replace z0 := z1.trans z0
 replace d0 := d1.trans d0
 clear k1 z1 d1
 clear a54
 refine Z (C := fun l => wpAnyH _ _ _ _ _ _ l _ _) (List.replicate 55 true ++ List.replicate 44 false).toArray (by as_aux_lemma => kernel_rfl) ?_
 refine dt 55 rfl (hk := by as_aux_lemma => kernel_rfl) (v := ?_) ?_ ?_
 rotate_left
 ·(intro wy hSw; go_simp; (try simp only [e57]); go_simp; try with_reducible rfl)
 refine aa (C := fun a => wpAnyH _ _ _ _ _ _ _ a _) (by rw [z0]; decide) ?_
 intro a56 z1 d1 e58 k1
 replace e0 := (k1 0 (by decide)).trans e0
 replace e11 := (k1 11 (by decide)).trans e11
 replace e20 := (k1 20 (by decide)).trans e20
 replace e29 := (k1 29 (by decide)).trans e29
 replace e38 := (k1 38 (by decide)).trans e38
 replace e47 := (k1 47 (by decide)).trans e47
 replace e56 := (k1 56 (by decide)).trans e56
 replace z0 := z1.trans z0
 replace d0 := d1.trans d0
 clear k1 z1 d1 e57
 clear a55
 refine Z (C := fun l => wpAnyH _ _ _ _ _ _ l _ _) (List.replicate 56 true ++ List.replicate 43 false).toArray (by as_aux_lemma => kernel_rfl) ?_
 refine dt 56 rfl (hk := by as_aux_lemma => kernel_rfl) (v := ?_) ?_ ?_
 rotate_left
 ·(intro wy hSw; go_simp; (try simp only [e58]); go_simp; try with_reducible rfl)
 refine aa (C := fun a => wpAnyH _ _ _ _ _ _ _ a _) (by rw [z0]; decide) ?_
 intro a57 z1 d1 e59 k1
 replace e0 := (k1 0 (by decide)).trans e0
 replace e11 := (k1 11 (by decide)).trans e11
 replace e20 := (k1 20 (by decide)).trans e20
 replace e29 := (k1 29 (by decide)).trans e29
 replace e38 := (k1 38 (by decide)).trans e38
 replace e47 := (k1 47 (by decide)).trans e47
 replace e56 := (k1 56 (by decide)).trans e56
 replace z0 := z1.trans z0
 replace d0 := d1.trans d0
 clear k1 z1 d1 e58
 clear a56
 refine Z (C := fun l => wpAnyH _ _ _ _ _ _ l _ _) (List.replicate 57 true ++ List.replicate 42 false).toArray (by as_aux_lemma => kernel_rfl) ?_
 refine dt 57 rfl (hk := by as_aux_lemma => kernel_rfl) (v := ?_) ?_ ?_
 rotate_left
 ·(intro wy hSw; obtain ⟨q0, q1, q2, q3, q4, q5, q6, q7, q9, q10, q11⟩ := hSw; go_simp; (try simp only [e59]); go_simp; try with_reducible rfl)
 refine aa (C := fun a => wpAnyH _ _ _ _ _ _ _ a _) (by rw [z0]; decide) ?_
 intro a58 z1 d1 e60 k1
 replace e0 := (k1 0 (by decide)).trans e0
 replace e11 := (k1 11 (by decide)).trans e11
 replace e20 := (k1 20 (by decide)).trans e20
 replace e29 := (k1 29 (by decide)).trans e29
 replace e38 := (k1 38 (by decide)).trans e38
 replace e47 := (k1 47 (by decide)).trans e47
 replace e56 := (k1 56 (by decide)).trans e56
 replace z0 := z1.trans z0
 replace d0 := d1.trans d0
 clear k1 z1 d1 e59
 clear a57
 refine Z (C := fun l => wpAnyH _ _ _ _ _ _ l _ _) (List.replicate 58 true ++ List.replicate 41 false).toArray (by as_aux_lemma => kernel_rfl) ?_
 refine dt 58 rfl (hk := by as_aux_lemma => kernel_rfl) (v := ?_) ?_ ?_
 rotate_left
 ·(intro wy hSw; go_simp; (try simp only [e60]); go_simp; try with_reducible rfl)
 refine aa (C := fun a => wpAnyH _ _ _ _ _ _ _ a _) (by rw [z0]; decide) ?_
 intro a59 z1 d1 e61 k1
 replace e0 := (k1 0 (by decide)).trans e0
 replace e11 := (k1 11 (by decide)).trans e11
 replace e20 := (k1 20 (by decide)).trans e20
 replace e29 := (k1 29 (by decide)).trans e29
 replace e38 := (k1 38 (by decide)).trans e38
 replace e47 := (k1 47 (by decide)).trans e47
 replace e56 := (k1 56 (by decide)).trans e56
 replace z0 := z1.trans z0
 replace d0 := d1.trans d0
 clear k1 z1 d1 e60
 clear a58
 refine Z (C := fun l => wpAnyH _ _ _ _ _ _ l _ _) (List.replicate 59 true ++ List.replicate 40 false).toArray (by as_aux_lemma => kernel_rfl) ?_
 refine dt 59 rfl (hk := by as_aux_lemma => kernel_rfl) (v := ?_) ?_ ?_
 rotate_left
 ·(intro wy hSw; go_simp; (try simp only [e61]); go_simp; try with_reducible rfl)
 refine aa (C := fun a => wpAnyH _ _ _ _ _ _ _ a _) (by rw [z0]; decide) ?_
 intro a60 z1 d1 e62 k1
 replace e0 := (k1 0 (by decide)).trans e0
 replace e11 := (k1 11 (by decide)).trans e11
 replace e20 := (k1 20 (by decide)).trans e20
 replace e29 := (k1 29 (by decide)).trans e29
 replace e38 := (k1 38 (by decide)).trans e38
 replace e47 := (k1 47 (by decide)).trans e47
 replace e56 := (k1 56 (by decide)).trans e56
 replace z0 := z1.trans z0
 replace d0 := d1.trans d0
 clear k1 z1 d1 e61
 clear a59
 refine Z (C := fun l => wpAnyH _ _ _ _ _ _ l _ _) (List.replicate 60 true ++ List.replicate 39 false).toArray (by as_aux_lemma => kernel_rfl) ?_
 refine dt 60 rfl (hk := by as_aux_lemma => kernel_rfl) (v := ?_) ?_ ?_
 rotate_left
 ·(intro wy hSw; go_simp; (try simp only [e0]); go_simp; try with_reducible rfl)
 refine aa (C := fun a => wpAnyH _ _ _ _ _ _ _ a _) (by rw [z0]; decide) ?_
 intro a61 z1 d1 e63 k1
 replace e0 := (k1 0 (by decide)).trans e0
 replace e11 := (k1 11 (by decide)).trans e11
 replace e20 := (k1 20 (by decide)).trans e20
 replace e29 := (k1 29 (by decide)).trans e29
 replace e38 := (k1 38 (by decide)).trans e38
 replace e47 := (k1 47 (by decide)).trans e47
 replace e56 := (k1 56 (by decide)).trans e56
 replace e62 := (k1 62 (by decide)).trans e62
 replace z0 := z1.trans z0
 replace d0 := d1.trans d0
 clear k1 z1 d1
 clear a60
 refine Z (C := fun l => wpAnyH _ _ _ _ _ _ l _ _) (List.replicate 61 true ++ List.replicate 38 false).toArray (by as_aux_lemma => kernel_rfl) ?_
 refine dt 61 rfl (hk := by as_aux_lemma => kernel_rfl) (v := ?_) ?_ ?_
 rotate_left
 ·(intro wy hSw; go_simp; (try simp only [e63]); go_simp; try with_reducible rfl)
 refine aa (C := fun a => wpAnyH _ _ _ _ _ _ _ a _) (by rw [z0]; decide) ?_
 intro a62 z1 d1 e64 k1
 replace e0 := (k1 0 (by decide)).trans e0
 replace e11 := (k1 11 (by decide)).trans e11
 replace e20 := (k1 20 (by decide)).trans e20
 replace e29 := (k1 29 (by decide)).trans e29
 replace e38 := (k1 38 (by decide)).trans e38
 replace e47 := (k1 47 (by decide)).trans e47
 replace e56 := (k1 56 (by decide)).trans e56
 replace e62 := (k1 62 (by decide)).trans e62
 replace z0 := z1.trans z0
 replace d0 := d1.trans d0
 clear k1 z1 d1 e63
 clear a61
 refine Z (C := fun l => wpAnyH _ _ _ _ _ _ l _ _) (List.replicate 62 true ++ List.replicate 37 false).toArray (by as_aux_lemma => kernel_rfl) ?_
 refine dt 62 rfl (hk := by as_aux_lemma => kernel_rfl) (v := ?_) ?_ ?_
 rotate_left
 ·(intro wy hSw; have vA := Act.ev e62; have vB := Act.ev e64; unfold execOp; simp only [List.map_toArray, List.map_cons, List.map_nil, vA, vB]; go_simp; try with_reducible rfl)
 refine aa (C := fun a => wpAnyH _ _ _ _ _ _ _ a _) (by rw [z0]; decide) ?_
 intro a63 z1 d1 e65 k1
 replace e0 := (k1 0 (by decide)).trans e0
 replace e11 := (k1 11 (by decide)).trans e11
 replace e20 := (k1 20 (by decide)).trans e20
 replace e29 := (k1 29 (by decide)).trans e29
 replace e38 := (k1 38 (by decide)).trans e38
 replace e47 := (k1 47 (by decide)).trans e47
 replace e56 := (k1 56 (by decide)).trans e56
 replace z0 := z1.trans z0
 replace d0 := d1.trans d0
 clear k1 z1 d1 e62 e64
 clear a62
 refine Z (C := fun l => wpAnyH _ _ _ _ _ _ l _ _) (List.replicate 63 true ++ List.replicate 36 false).toArray (by as_aux_lemma => kernel_rfl) ?_
 refine dt 63 rfl (hk := by as_aux_lemma => kernel_rfl) (v := ?_) ?_ ?_
 rotate_left
 ·(intro wy hSw; go_simp; (try simp only [e0]); go_simp; try with_reducible rfl)
 refine aa (C := fun a => wpAnyH _ _ _ _ _ _ _ a _) (by rw [z0]; decide) ?_
 intro a64 z1 d1 e66 k1
 replace e0 := (k1 0 (by decide)).trans e0
 replace e11 := (k1 11 (by decide)).trans e11
 replace e20 := (k1 20 (by decide)).trans e20
 replace e29 := (k1 29 (by decide)).trans e29
 replace e38 := (k1 38 (by decide)).trans e38
 replace e47 := (k1 47 (by decide)).trans e47
 replace e56 := (k1 56 (by decide)).trans e56
 replace e65 := (k1 65 (by decide)).trans e65
 replace z0 := z1.trans z0
 replace d0 := d1.trans d0
 clear k1 z1 d1
 clear a63
 refine Z (C := fun l => wpAnyH _ _ _ _ _ _ l _ _) (List.replicate 64 true ++ List.replicate 35 false).toArray (by as_aux_lemma => kernel_rfl) ?_
 refine dt 64 rfl (hk := by as_aux_lemma => kernel_rfl) (v := ?_) ?_ ?_
 rotate_left
 ·(intro wy hSw; go_simp; (try simp only [e66]); go_simp; try with_reducible rfl)
 refine aa (C := fun a => wpAnyH _ _ _ _ _ _ _ a _) (by rw [z0]; decide) ?_
 intro a65 z1 d1 e67 k1
 replace e0 := (k1 0 (by decide)).trans e0
 replace e11 := (k1 11 (by decide)).trans e11
 replace e20 := (k1 20 (by decide)).trans e20
 replace e29 := (k1 29 (by decide)).trans e29
 replace e38 := (k1 38 (by decide)).trans e38
 replace e47 := (k1 47 (by decide)).trans e47
 replace e56 := (k1 56 (by decide)).trans e56
 replace e65 := (k1 65 (by decide)).trans e65
 replace z0 := z1.trans z0
 replace d0 := d1.trans d0
 clear k1 z1 d1 e66
 clear a64
 refine Z (C := fun l => wpAnyH _ _ _ _ _ _ l _ _) (List.replicate 65 true ++ List.replicate 34 false).toArray (by as_aux_lemma => kernel_rfl) ?_
 refine dt 65 rfl (hk := by as_aux_lemma => kernel_rfl) (v := ?_) ?_ ?_
 rotate_left
 ·(intro wy hSw; go_simp; (try simp only [e67]); go_simp; try with_reducible rfl)
 refine aa (C := fun a => wpAnyH _ _ _ _ _ _ _ a _) (by rw [z0]; decide) ?_
 intro a66 z1 d1 e68 k1
 replace e0 := (k1 0 (by decide)).trans e0
 replace e11 := (k1 11 (by decide)).trans e11
 replace e20 := (k1 20 (by decide)).trans e20
 replace e29 := (k1 29 (by decide)).trans e29
 replace e38 := (k1 38 (by decide)).trans e38
 replace e47 := (k1 47 (by decide)).trans e47
 replace e56 := (k1 56 (by decide)).trans e56
 replace e65 := (k1 65 (by decide)).trans e65
 replace z0 := z1.trans z0
 replace d0 := d1.trans d0
 clear k1 z1 d1 e67
 clear a65
 refine Z (C := fun l => wpAnyH _ _ _ _ _ _ l _ _) (List.replicate 66 true ++ List.replicate 33 false).toArray (by as_aux_lemma => kernel_rfl) ?_
 refine dt 66 rfl (hk := by as_aux_lemma => kernel_rfl) (v := ?_) ?_ ?_
 rotate_left
 ·(intro wy hSw; obtain ⟨q0, q1, q2, q3, q4, q5, q6, q7, q9, q10, q11⟩ := hSw; go_simp; (try simp only [e68]); go_simp; try with_reducible rfl)
 refine aa (C := fun a => wpAnyH _ _ _ _ _ _ _ a _) (by rw [z0]; decide) ?_
 intro a67 z1 d1 e69 k1
 replace e0 := (k1 0 (by decide)).trans e0
 replace e11 := (k1 11 (by decide)).trans e11
 replace e20 := (k1 20 (by decide)).trans e20
 replace e29 := (k1 29 (by decide)).trans e29
 replace e38 := (k1 38 (by decide)).trans e38
 replace e47 := (k1 47 (by decide)).trans e47
 replace e56 := (k1 56 (by decide)).trans e56
 replace e65 := (k1 65 (by decide)).trans e65
 replace z0 := z1.trans z0
 replace d0 := d1.trans d0
 clear k1 z1 d1 e68
 clear a66
 refine Z (C := fun l => wpAnyH _ _ _ _ _ _ l _ _) (List.replicate 67 true ++ List.replicate 32 false).toArray (by as_aux_lemma => kernel_rfl) ?_
 refine dt 67 rfl (hk := by as_aux_lemma => kernel_rfl) (v := ?_) ?_ ?_
 rotate_left
 ·(intro wy hSw; go_simp; (try simp only [e0]); go_simp; try with_reducible rfl)
 refine aa (C := fun a => wpAnyH _ _ _ _ _ _ _ a _) (by rw [z0]; decide) ?_
 intro a68 z1 d1 e70 k1
 replace e0 := (k1 0 (by decide)).trans e0
 replace e11 := (k1 11 (by decide)).trans e11
 replace e20 := (k1 20 (by decide)).trans e20
 replace e29 := (k1 29 (by decide)).trans e29
 replace e38 := (k1 38 (by decide)).trans e38
 replace e47 := (k1 47 (by decide)).trans e47
 replace e56 := (k1 56 (by decide)).trans e56
 replace e65 := (k1 65 (by decide)).trans e65
 replace e69 := (k1 69 (by decide)).trans e69
 replace z0 := z1.trans z0
 replace d0 := d1.trans d0
 clear k1 z1 d1
 clear a67
 refine Z (C := fun l => wpAnyH _ _ _ _ _ _ l _ _) (List.replicate 68 true ++ List.replicate 31 false).toArray (by as_aux_lemma => kernel_rfl) ?_
 refine dt 68 rfl (hk := by as_aux_lemma => kernel_rfl) (v := ?_) ?_ ?_
 rotate_left
 ·(intro wy hSw; go_simp; (try simp only [e70]); go_simp; try with_reducible rfl)
 refine aa (C := fun a => wpAnyH _ _ _ _ _ _ _ a _) (by rw [z0]; decide) ?_
 intro a69 z1 d1 e71 k1
 replace e0 := (k1 0 (by decide)).trans e0
 replace e11 := (k1 11 (by decide)).trans e11
 replace e20 := (k1 20 (by decide)).trans e20
 replace e29 := (k1 29 (by decide)).trans e29
 replace e38 := (k1 38 (by decide)).trans e38
 replace e47 := (k1 47 (by decide)).trans e47
 replace e56 := (k1 56 (by decide)).trans e56
 replace e65 := (k1 65 (by decide)).trans e65
 replace e69 := (k1 69 (by decide)).trans e69
 replace z0 := z1.trans z0
 replace d0 := d1.trans d0
 clear k1 z1 d1 e70
 clear a68
 refine Z (C := fun l => wpAnyH _ _ _ _ _ _ l _ _) (List.replicate 69 true ++ List.replicate 30 false).toArray (by as_aux_lemma => kernel_rfl) ?_
 refine dt 69 rfl (hk := by as_aux_lemma => kernel_rfl) (v := ?_) ?_ ?_
 rotate_left
 ·(intro wy hSw; have vA := Act.ev e69; have vB := Act.ev e71; unfold execOp; simp only [List.map_toArray, List.map_cons, List.map_nil, vA, vB]; go_simp; try with_reducible rfl)
 refine aa (C := fun a => wpAnyH _ _ _ _ _ _ _ a _) (by rw [z0]; decide) ?_
 intro a70 z1 d1 e72 k1
 replace e0 := (k1 0 (by decide)).trans e0
 replace e11 := (k1 11 (by decide)).trans e11
 replace e20 := (k1 20 (by decide)).trans e20
 replace e29 := (k1 29 (by decide)).trans e29
 replace e38 := (k1 38 (by decide)).trans e38
 replace e47 := (k1 47 (by decide)).trans e47
 replace e56 := (k1 56 (by decide)).trans e56
 replace e65 := (k1 65 (by decide)).trans e65
 replace z0 := z1.trans z0
 replace d0 := d1.trans d0
 clear k1 z1 d1 e69 e71
 clear a69
 refine Z (C := fun l => wpAnyH _ _ _ _ _ _ l _ _) (List.replicate 70 true ++ List.replicate 29 false).toArray (by as_aux_lemma => kernel_rfl) ?_
 refine dt 70 rfl (hk := by as_aux_lemma => kernel_rfl) (v := ?_) ?_ ?_
 rotate_left
 ·(intro wy hSw; go_simp; (try simp only [e0]); go_simp; try with_reducible rfl)
 refine aa (C := fun a => wpAnyH _ _ _ _ _ _ _ a _) (by rw [z0]; decide) ?_
 intro a71 z1 d1 e73 k1
 replace e0 := (k1 0 (by decide)).trans e0
 replace e11 := (k1 11 (by decide)).trans e11
 replace e20 := (k1 20 (by decide)).trans e20
 replace e29 := (k1 29 (by decide)).trans e29
 replace e38 := (k1 38 (by decide)).trans e38
 replace e47 := (k1 47 (by decide)).trans e47
 replace e56 := (k1 56 (by decide)).trans e56
 replace e65 := (k1 65 (by decide)).trans e65
 replace e72 := (k1 72 (by decide)).trans e72
 replace z0 := z1.trans z0
 replace d0 := d1.trans d0
 clear k1 z1 d1
 clear a70
 refine Z (C := fun l => wpAnyH _ _ _ _ _ _ l _ _) (List.replicate 71 true ++ List.replicate 28 false).toArray (by as_aux_lemma => kernel_rfl) ?_
 refine dt 71 rfl (hk := by as_aux_lemma => kernel_rfl) (v := ?_) ?_ ?_
 rotate_left
 ·(intro wy hSw; go_simp; (try simp only [e73]); go_simp; try with_reducible rfl)
 refine aa (C := fun a => wpAnyH _ _ _ _ _ _ _ a _) (by rw [z0]; decide) ?_
 intro a72 z1 d1 e74 k1
 replace e0 := (k1 0 (by decide)).trans e0
 replace e11 := (k1 11 (by decide)).trans e11
 replace e20 := (k1 20 (by decide)).trans e20
 replace e29 := (k1 29 (by decide)).trans e29
 replace e38 := (k1 38 (by decide)).trans e38
 replace e47 := (k1 47 (by decide)).trans e47
 replace e56 := (k1 56 (by decide)).trans e56
 replace e65 := (k1 65 (by decide)).trans e65
 replace e72 := (k1 72 (by decide)).trans e72
 replace z0 := z1.trans z0
 replace d0 := d1.trans d0
 clear k1 z1 d1 e73
 clear a71
 refine Z (C := fun l => wpAnyH _ _ _ _ _ _ l _ _) (List.replicate 72 true ++ List.replicate 27 false).toArray (by as_aux_lemma => kernel_rfl) ?_
 refine dt 72 rfl (hk := by as_aux_lemma => kernel_rfl) (v := ?_) ?_ ?_
 rotate_left
 ·(intro wy hSw; go_simp; (try simp only [e74]); go_simp; try with_reducible rfl)
 refine aa (C := fun a => wpAnyH _ _ _ _ _ _ _ a _) (by rw [z0]; decide) ?_
 intro a73 z1 d1 e75 k1
 replace e0 := (k1 0 (by decide)).trans e0
 replace e11 := (k1 11 (by decide)).trans e11
 replace e20 := (k1 20 (by decide)).trans e20
 replace e29 := (k1 29 (by decide)).trans e29
 replace e38 := (k1 38 (by decide)).trans e38
 replace e47 := (k1 47 (by decide)).trans e47
 replace e56 := (k1 56 (by decide)).trans e56
 replace e65 := (k1 65 (by decide)).trans e65
 replace e72 := (k1 72 (by decide)).trans e72
 replace z0 := z1.trans z0
 replace d0 := d1.trans d0
 clear k1 z1 d1 e74
 clear a72
 refine Z (C := fun l => wpAnyH _ _ _ _ _ _ l _ _) (List.replicate 73 true ++ List.replicate 26 false).toArray (by as_aux_lemma => kernel_rfl) ?_
 refine dt 73 rfl (hk := by as_aux_lemma => kernel_rfl) (v := ?_) ?_ ?_
 rotate_left
 ·(intro wy hSw; obtain ⟨q0, q1, q2, q3, q4, q5, q6, q7, q9, q10, q11⟩ := hSw; go_simp; (try simp only [e75]); go_simp; try with_reducible rfl)
 refine aa (C := fun a => wpAnyH _ _ _ _ _ _ _ a _) (by rw [z0]; decide) ?_
 intro a74 z1 d1 e76 k1
 replace e0 := (k1 0 (by decide)).trans e0
 replace e11 := (k1 11 (by decide)).trans e11
 replace e20 := (k1 20 (by decide)).trans e20
 replace e29 := (k1 29 (by decide)).trans e29
 replace e38 := (k1 38 (by decide)).trans e38
 replace e47 := (k1 47 (by decide)).trans e47
 replace e56 := (k1 56 (by decide)).trans e56
 replace e65 := (k1 65 (by decide)).trans e65
 replace e72 := (k1 72 (by decide)).trans e72
 replace z0 := z1.trans z0
 replace d0 := d1.trans d0
 clear k1 z1 d1 e75
 clear a73
 refine Z (C := fun l => wpAnyH _ _ _ _ _ _ l _ _) (List.replicate 74 true ++ List.replicate 25 false).toArray (by as_aux_lemma => kernel_rfl) ?_
 refine dt 74 rfl (hk := by as_aux_lemma => kernel_rfl) (v := ?_) ?_ ?_
 rotate_left
 ·(intro wy hSw; go_simp; (try simp only [e76]); go_simp; try with_reducible rfl)
 refine aa (C := fun a => wpAnyH _ _ _ _ _ _ _ a _) (by rw [z0]; decide) ?_
 intro a75 z1 d1 e77 k1
 replace e0 := (k1 0 (by decide)).trans e0
 replace e11 := (k1 11 (by decide)).trans e11
 replace e20 := (k1 20 (by decide)).trans e20
 replace e29 := (k1 29 (by decide)).trans e29
 replace e38 := (k1 38 (by decide)).trans e38
 replace e47 := (k1 47 (by decide)).trans e47
 replace e56 := (k1 56 (by decide)).trans e56
 replace e65 := (k1 65 (by decide)).trans e65
 replace e72 := (k1 72 (by decide)).trans e72
 replace z0 := z1.trans z0
 replace d0 := d1.trans d0
 clear k1 z1 d1 e76
 clear a74
 refine Z (C := fun l => wpAnyH _ _ _ _ _ _ l _ _) (List.replicate 75 true ++ List.replicate 24 false).toArray (by as_aux_lemma => kernel_rfl) ?_
 refine dt 75 rfl (hk := by as_aux_lemma => kernel_rfl) (v := ?_) ?_ ?_
 rotate_left
 ·(intro wy hSw; go_simp; (try simp only [e77]); go_simp; try with_reducible rfl)
 refine aa (C := fun a => wpAnyH _ _ _ _ _ _ _ a _) (by rw [z0]; decide) ?_
 intro a76 z1 d1 e78 k1
 replace e0 := (k1 0 (by decide)).trans e0
 replace e11 := (k1 11 (by decide)).trans e11
 replace e20 := (k1 20 (by decide)).trans e20
 replace e29 := (k1 29 (by decide)).trans e29
 replace e38 := (k1 38 (by decide)).trans e38
 replace e47 := (k1 47 (by decide)).trans e47
 replace e56 := (k1 56 (by decide)).trans e56
 replace e65 := (k1 65 (by decide)).trans e65
 replace e72 := (k1 72 (by decide)).trans e72
 replace z0 := z1.trans z0
 replace d0 := d1.trans d0
 clear k1 z1 d1 e77
 clear a75
 refine Z (C := fun l => wpAnyH _ _ _ _ _ _ l _ _) (List.replicate 76 true ++ List.replicate 23 false).toArray (by as_aux_lemma => kernel_rfl) ?_
 refine dt 76 rfl (hk := by as_aux_lemma => kernel_rfl) (v := ?_) ?_ ?_
 rotate_left
 ·(intro wy hSw; go_simp; (try simp only [e0]); go_simp; try with_reducible rfl)
 refine aa (C := fun a => wpAnyH _ _ _ _ _ _ _ a _) (by rw [z0]; decide) ?_
 intro a77 z1 d1 e79 k1
 replace e0 := (k1 0 (by decide)).trans e0
 replace e11 := (k1 11 (by decide)).trans e11
 replace e20 := (k1 20 (by decide)).trans e20
 replace e29 := (k1 29 (by decide)).trans e29
 replace e38 := (k1 38 (by decide)).trans e38
 replace e47 := (k1 47 (by decide)).trans e47
 replace e56 := (k1 56 (by decide)).trans e56
 replace e65 := (k1 65 (by decide)).trans e65
 replace e72 := (k1 72 (by decide)).trans e72
 replace e78 := (k1 78 (by decide)).trans e78
 replace z0 := z1.trans z0
 replace d0 := d1.trans d0
 clear k1 z1 d1
 clear a76
 refine Z (C := fun l => wpAnyH _ _ _ _ _ _ l _ _) (List.replicate 77 true ++ List.replicate 22 false).toArray (by as_aux_lemma => kernel_rfl) ?_
 refine dt 77 rfl (hk := by as_aux_lemma => kernel_rfl) (v := ?_) ?_ ?_
 rotate_left
 ·(intro wy hSw; go_simp; (try simp only [e79]); go_simp; try with_reducible rfl)
 refine aa (C := fun a => wpAnyH _ _ _ _ _ _ _ a _) (by rw [z0]; decide) ?_
 intro a78 z1 d1 e80 k1
 replace e0 := (k1 0 (by decide)).trans e0
 replace e11 := (k1 11 (by decide)).trans e11
 replace e20 := (k1 20 (by decide)).trans e20
 replace e29 := (k1 29 (by decide)).trans e29
 replace e38 := (k1 38 (by decide)).trans e38
 replace e47 := (k1 47 (by decide)).trans e47
 replace e56 := (k1 56 (by decide)).trans e56
 replace e65 := (k1 65 (by decide)).trans e65
 replace e72 := (k1 72 (by decide)).trans e72
 replace e78 := (k1 78 (by decide)).trans e78
 replace z0 := z1.trans z0
 replace d0 := d1.trans d0
 clear k1 z1 d1 e79
 clear a77
 refine Z (C := fun l => wpAnyH _ _ _ _ _ _ l _ _) (List.replicate 78 true ++ List.replicate 21 false).toArray (by as_aux_lemma => kernel_rfl) ?_
 refine dt 78 rfl (hk := by as_aux_lemma => kernel_rfl) (v := ?_) ?_ ?_
 rotate_left
 ·(intro wy hSw; have vA := Act.ev e78; have vB := Act.ev e80; unfold execOp; simp only [List.map_toArray, List.map_cons, List.map_nil, vA, vB]; go_simp; try with_reducible rfl)
 refine aa (C := fun a => wpAnyH _ _ _ _ _ _ _ a _) (by rw [z0]; decide) ?_
 intro a79 z1 d1 e81 k1
 replace e0 := (k1 0 (by decide)).trans e0
 replace e11 := (k1 11 (by decide)).trans e11
 replace e20 := (k1 20 (by decide)).trans e20
 replace e29 := (k1 29 (by decide)).trans e29
 replace e38 := (k1 38 (by decide)).trans e38
 replace e47 := (k1 47 (by decide)).trans e47
 replace e56 := (k1 56 (by decide)).trans e56
 replace e65 := (k1 65 (by decide)).trans e65
 replace e72 := (k1 72 (by decide)).trans e72
 replace z0 := z1.trans z0
 replace d0 := d1.trans d0
 clear k1 z1 d1 e78 e80
 clear a78
 refine Z (C := fun l => wpAnyH _ _ _ _ _ _ l _ _) (List.replicate 79 true ++ List.replicate 20 false).toArray (by as_aux_lemma => kernel_rfl) ?_
 refine dt 79 rfl (hk := by as_aux_lemma => kernel_rfl) (v := ?_) ?_ ?_
 rotate_left
 ·(intro wy hSw; go_simp; (try simp only [e0]); go_simp; try with_reducible rfl)
 refine aa (C := fun a => wpAnyH _ _ _ _ _ _ _ a _) (by rw [z0]; decide) ?_
 intro a80 z1 d1 e82 k1
 replace e0 := (k1 0 (by decide)).trans e0
 replace e11 := (k1 11 (by decide)).trans e11
 replace e20 := (k1 20 (by decide)).trans e20
 replace e29 := (k1 29 (by decide)).trans e29
 replace e38 := (k1 38 (by decide)).trans e38
 replace e47 := (k1 47 (by decide)).trans e47
 replace e56 := (k1 56 (by decide)).trans e56
 replace e65 := (k1 65 (by decide)).trans e65
 replace e72 := (k1 72 (by decide)).trans e72
 replace e81 := (k1 81 (by decide)).trans e81
 replace z0 := z1.trans z0
 replace d0 := d1.trans d0
 clear k1 z1 d1
 clear a79
 refine Z (C := fun l => wpAnyH _ _ _ _ _ _ l _ _) (List.replicate 80 true ++ List.replicate 19 false).toArray (by as_aux_lemma => kernel_rfl) ?_
 refine dt 80 rfl (hk := by as_aux_lemma => kernel_rfl) (v := ?_) ?_ ?_
 rotate_left
 ·(intro wy hSw; go_simp; (try simp only [e82]); go_simp; try with_reducible rfl)
 refine aa (C := fun a => wpAnyH _ _ _ _ _ _ _ a _) (by rw [z0]; decide) ?_
 intro a81 z1 d1 e83 k1
 replace e0 := (k1 0 (by decide)).trans e0
 replace e11 := (k1 11 (by decide)).trans e11
 replace e20 := (k1 20 (by decide)).trans e20
 replace e29 := (k1 29 (by decide)).trans e29
 replace e38 := (k1 38 (by decide)).trans e38
 replace e47 := (k1 47 (by decide)).trans e47
 replace e56 := (k1 56 (by decide)).trans e56
 replace e65 := (k1 65 (by decide)).trans e65
 replace e72 := (k1 72 (by decide)).trans e72
 replace e81 := (k1 81 (by decide)).trans e81
 replace z0 := z1.trans z0
 replace d0 := d1.trans d0
 clear k1 z1 d1 e82
 clear a80
 refine Z (C := fun l => wpAnyH _ _ _ _ _ _ l _ _) (List.replicate 81 true ++ List.replicate 18 false).toArray (by as_aux_lemma => kernel_rfl) ?_
 refine dt 81 rfl (hk := by as_aux_lemma => kernel_rfl) (v := ?_) ?_ ?_
 rotate_left
 ·(intro wy hSw; go_simp; (try simp only [e83]); go_simp; try with_reducible rfl)
 refine aa (C := fun a => wpAnyH _ _ _ _ _ _ _ a _) (by rw [z0]; decide) ?_
 intro a82 z1 d1 e84 k1
 replace e0 := (k1 0 (by decide)).trans e0
 replace e11 := (k1 11 (by decide)).trans e11
 replace e20 := (k1 20 (by decide)).trans e20
 replace e29 := (k1 29 (by decide)).trans e29
 replace e38 := (k1 38 (by decide)).trans e38
 replace e47 := (k1 47 (by decide)).trans e47
 replace e56 := (k1 56 (by decide)).trans e56
 replace e65 := (k1 65 (by decide)).trans e65
 replace e72 := (k1 72 (by decide)).trans e72
 replace e81 := (k1 81 (by decide)).trans e81
 replace z0 := z1.trans z0
 replace d0 := d1.trans d0
 clear k1 z1 d1 e83
 clear a81
 refine Z (C := fun l => wpAnyH _ _ _ _ _ _ l _ _) (List.replicate 82 true ++ List.replicate 17 false).toArray (by as_aux_lemma => kernel_rfl) ?_
 refine dt 82 rfl (hk := by as_aux_lemma => kernel_rfl) (v := ?_) ?_ ?_
 rotate_left
 ·(intro wy hSw; obtain ⟨q0, q1, q2, q3, q4, q5, q6, q7, q9, q10, q11⟩ := hSw; go_simp; (try simp only [e84]); go_simp; try with_reducible rfl)
 refine aa (C := fun a => wpAnyH _ _ _ _ _ _ _ a _) (by rw [z0]; decide) ?_
 intro a83 z1 d1 e85 k1
 replace e0 := (k1 0 (by decide)).trans e0
 replace e11 := (k1 11 (by decide)).trans e11
 replace e20 := (k1 20 (by decide)).trans e20
 replace e29 := (k1 29 (by decide)).trans e29
 replace e38 := (k1 38 (by decide)).trans e38
 replace e47 := (k1 47 (by decide)).trans e47
 replace e56 := (k1 56 (by decide)).trans e56
 replace e65 := (k1 65 (by decide)).trans e65
 replace e72 := (k1 72 (by decide)).trans e72
 replace e81 := (k1 81 (by decide)).trans e81
 replace z0 := z1.trans z0
 replace d0 := d1.trans d0
 clear k1 z1 d1 e84
 clear a82
 refine Z (C := fun l => wpAnyH _ _ _ _ _ _ l _ _) (List.replicate 83 true ++ List.replicate 16 false).toArray (by as_aux_lemma => kernel_rfl) ?_
 refine dt 83 rfl (hk := by as_aux_lemma => kernel_rfl) (v := ?_) ?_ ?_
 rotate_left
 ·(intro wy hSw; go_simp; (try simp only [e85]); go_simp; try with_reducible rfl)
 refine aa (C := fun a => wpAnyH _ _ _ _ _ _ _ a _) (by rw [z0]; decide) ?_
 intro a84 z1 d1 e86 k1
 replace e0 := (k1 0 (by decide)).trans e0
 replace e11 := (k1 11 (by decide)).trans e11
 replace e20 := (k1 20 (by decide)).trans e20
 replace e29 := (k1 29 (by decide)).trans e29
 replace e38 := (k1 38 (by decide)).trans e38
 replace e47 := (k1 47 (by decide)).trans e47
 replace e56 := (k1 56 (by decide)).trans e56
 replace e65 := (k1 65 (by decide)).trans e65
 replace e72 := (k1 72 (by decide)).trans e72
 replace e81 := (k1 81 (by decide)).trans e81
 replace z0 := z1.trans z0
 replace d0 := d1.trans d0
 clear k1 z1 d1 e85
 clear a83
 refine Z (C := fun l => wpAnyH _ _ _ _ _ _ l _ _) (List.replicate 84 true ++ List.replicate 15 false).toArray (by as_aux_lemma => kernel_rfl) ?_
 refine dt 84 rfl (hk := by as_aux_lemma => kernel_rfl) (v := ?_) ?_ ?_
 rotate_left
 ·(intro wy hSw; go_simp; (try simp only [e86]); go_simp; try with_reducible rfl)
 refine aa (C := fun a => wpAnyH _ _ _ _ _ _ _ a _) (by rw [z0]; decide) ?_
 intro a85 z1 d1 e87 k1
 replace e0 := (k1 0 (by decide)).trans e0
 replace e11 := (k1 11 (by decide)).trans e11
 replace e20 := (k1 20 (by decide)).trans e20
 replace e29 := (k1 29 (by decide)).trans e29
 replace e38 := (k1 38 (by decide)).trans e38
 replace e47 := (k1 47 (by decide)).trans e47
 replace e56 := (k1 56 (by decide)).trans e56
 replace e65 := (k1 65 (by decide)).trans e65
 replace e72 := (k1 72 (by decide)).trans e72
 replace e81 := (k1 81 (by decide)).trans e81
 replace z0 := z1.trans z0
 replace d0 := d1.trans d0
 clear k1 z1 d1 e86
 clear a84
 refine Z (C := fun l => wpAnyH _ _ _ _ _ _ l _ _) (List.replicate 85 true ++ List.replicate 14 false).toArray (by as_aux_lemma => kernel_rfl) ?_
 refine dt 85 rfl (hk := by as_aux_lemma => kernel_rfl) (v := ?_) ?_ ?_
 rotate_left
 ·(intro wy hSw; go_simp; (try simp only [e0]); go_simp; try with_reducible rfl)
 refine aa (C := fun a => wpAnyH _ _ _ _ _ _ _ a _) (by rw [z0]; decide) ?_
 intro a86 z1 d1 e88 k1
 replace e0 := (k1 0 (by decide)).trans e0
 replace e11 := (k1 11 (by decide)).trans e11
 replace e20 := (k1 20 (by decide)).trans e20
 replace e29 := (k1 29 (by decide)).trans e29
 replace e38 := (k1 38 (by decide)).trans e38
 replace e47 := (k1 47 (by decide)).trans e47
 replace e56 := (k1 56 (by decide)).trans e56
 replace e65 := (k1 65 (by decide)).trans e65
 replace e72 := (k1 72 (by decide)).trans e72
 replace e81 := (k1 81 (by decide)).trans e81
 replace e87 := (k1 87 (by decide)).trans e87
 replace z0 := z1.trans z0
 replace d0 := d1.trans d0
 clear k1 z1 d1
 clear a85
 refine Z (C := fun l => wpAnyH _ _ _ _ _ _ l _ _) (List.replicate 86 true ++ List.replicate 13 false).toArray (by as_aux_lemma => kernel_rfl) ?_
 refine dt 86 rfl (hk := by as_aux_lemma => kernel_rfl) (v := ?_) ?_ ?_
 rotate_left
 ·(intro wy hSw; go_simp; (try simp only [e88]); go_simp; try with_reducible rfl)
 refine aa (C := fun a => wpAnyH _ _ _ _ _ _ _ a _) (by rw [z0]; decide) ?_
 intro a87 z1 d1 e89 k1
 replace e0 := (k1 0 (by decide)).trans e0
 replace e11 := (k1 11 (by decide)).trans e11
 replace e20 := (k1 20 (by decide)).trans e20
 replace e29 := (k1 29 (by decide)).trans e29
 replace e38 := (k1 38 (by decide)).trans e38
 replace e47 := (k1 47 (by decide)).trans e47
 replace e56 := (k1 56 (by decide)).trans e56
 replace e65 := (k1 65 (by decide)).trans e65
 replace e72 := (k1 72 (by decide)).trans e72
 replace e81 := (k1 81 (by decide)).trans e81
 replace e87 := (k1 87 (by decide)).trans e87
 replace z0 := z1.trans z0
 replace d0 := d1.trans d0
 clear k1 z1 d1 e88
 clear a86
 refine Z (C := fun l => wpAnyH _ _ _ _ _ _ l _ _) (List.replicate 87 true ++ List.replicate 12 false).toArray (by as_aux_lemma => kernel_rfl) ?_
 refine dt 87 rfl (hk := by as_aux_lemma => kernel_rfl) (v := ?_) ?_ ?_
 rotate_left
 ·(intro wy hSw; have vA := Act.ev e87; have vB := Act.ev e89; unfold execOp; simp only [List.map_toArray, List.map_cons, List.map_nil, vA, vB]; go_simp; try with_reducible rfl)
 refine aa (C := fun a => wpAnyH _ _ _ _ _ _ _ a _) (by rw [z0]; decide) ?_
 intro a88 z1 d1 e90 k1
 replace e0 := (k1 0 (by decide)).trans e0
 replace e11 := (k1 11 (by decide)).trans e11
 replace e20 := (k1 20 (by decide)).trans e20
 replace e29 := (k1 29 (by decide)).trans e29
 replace e38 := (k1 38 (by decide)).trans e38
 replace e47 := (k1 47 (by decide)).trans e47
 replace e56 := (k1 56 (by decide)).trans e56
 replace e65 := (k1 65 (by decide)).trans e65
 replace e72 := (k1 72 (by decide)).trans e72
 replace e81 := (k1 81 (by decide)).trans e81
 replace z0 := z1.trans z0
 replace d0 := d1.trans d0
 clear k1 z1 d1 e87 e89
 clear a87
 refine Z (C := fun l => wpAnyH _ _ _ _ _ _ l _ _) (List.replicate 88 true ++ List.replicate 11 false).toArray (by as_aux_lemma => kernel_rfl) ?_
 refine dt 88 rfl (hk := by as_aux_lemma => kernel_rfl) (v := ?_) ?_ ?_
 rotate_left
 ·(intro wy hSw; go_simp; (try simp only [e0]); go_simp; try with_reducible rfl)
 refine aa (C := fun a => wpAnyH _ _ _ _ _ _ _ a _) (by rw [z0]; decide) ?_
 intro a89 z1 d1 e91 k1
 replace e0 := (k1 0 (by decide)).trans e0
 replace e11 := (k1 11 (by decide)).trans e11
 replace e20 := (k1 20 (by decide)).trans e20
 replace e29 := (k1 29 (by decide)).trans e29
 replace e38 := (k1 38 (by decide)).trans e38
 replace e47 := (k1 47 (by decide)).trans e47
 replace e56 := (k1 56 (by decide)).trans e56
 replace e65 := (k1 65 (by decide)).trans e65
 replace e72 := (k1 72 (by decide)).trans e72
 replace e81 := (k1 81 (by decide)).trans e81
 replace e90 := (k1 90 (by decide)).trans e90
 replace z0 := z1.trans z0
 replace d0 := d1.trans d0
 clear k1 z1 d1
 clear a88
 refine Z (C := fun l => wpAnyH _ _ _ _ _ _ l _ _) (List.replicate 89 true ++ List.replicate 10 false).toArray (by as_aux_lemma => kernel_rfl) ?_
 refine dt 89 rfl (hk := by as_aux_lemma => kernel_rfl) (v := ?_) ?_ ?_
 rotate_left
 ·(intro wy hSw; go_simp; (try simp only [e91]); go_simp; try with_reducible rfl)
 refine aa (C := fun a => wpAnyH _ _ _ _ _ _ _ a _) (by rw [z0]; decide) ?_
 intro a90 z1 d1 e92 k1
 replace e0 := (k1 0 (by decide)).trans e0
 replace e11 := (k1 11 (by decide)).trans e11
 replace e20 := (k1 20 (by decide)).trans e20
 replace e29 := (k1 29 (by decide)).trans e29
 replace e38 := (k1 38 (by decide)).trans e38
 replace e47 := (k1 47 (by decide)).trans e47
 replace e56 := (k1 56 (by decide)).trans e56
 replace e65 := (k1 65 (by decide)).trans e65
 replace e72 := (k1 72 (by decide)).trans e72
 replace e81 := (k1 81 (by decide)).trans e81
 replace e90 := (k1 90 (by decide)).trans e90
 replace z0 := z1.trans z0
 replace d0 := d1.trans d0
 clear k1 z1 d1 e91
 clear a89
 refine Z (C := fun l => wpAnyH _ _ _ _ _ _ l _ _) (List.replicate 90 true ++ List.replicate 9 false).toArray (by as_aux_lemma => kernel_rfl) ?_
 refine dt 90 rfl (hk := by as_aux_lemma => kernel_rfl) (v := ?_) ?_ ?_
 rotate_left
 ·(intro wy hSw; go_simp; (try simp only [e92]); go_simp; try with_reducible rfl)
 refine aa (C := fun a => wpAnyH _ _ _ _ _ _ _ a _) (by rw [z0]; decide) ?_
 intro a91 z1 d1 e93 k1
 replace e0 := (k1 0 (by decide)).trans e0
 replace e11 := (k1 11 (by decide)).trans e11
 replace e20 := (k1 20 (by decide)).trans e20
 replace e29 := (k1 29 (by decide)).trans e29
 replace e38 := (k1 38 (by decide)).trans e38
 replace e47 := (k1 47 (by decide)).trans e47
 replace e56 := (k1 56 (by decide)).trans e56
 replace e65 := (k1 65 (by decide)).trans e65
 replace e72 := (k1 72 (by decide)).trans e72
 replace e81 := (k1 81 (by decide)).trans e81
 replace e90 := (k1 90 (by decide)).trans e90
 replace z0 := z1.trans z0
 replace d0 := d1.trans d0
 clear k1 z1 d1 e92
 clear a90
 refine Z (C := fun l => wpAnyH _ _ _ _ _ _ l _ _) (List.replicate 91 true ++ List.replicate 8 false).toArray (by as_aux_lemma => kernel_rfl) ?_
 refine dt 91 rfl (hk := by as_aux_lemma => kernel_rfl) (v := ?_) ?_ ?_
 rotate_left
 ·(intro wy hSw; obtain ⟨q0, q1, q2, q3, q4, q5, q6, q7, q9, q10, q11⟩ := hSw; go_simp; (try simp only [e93]); go_simp; try with_reducible rfl)
 refine aa (C := fun a => wpAnyH _ _ _ _ _ _ _ a _) (by rw [z0]; decide) ?_
 intro a92 z1 d1 e94 k1
 replace e0 := (k1 0 (by decide)).trans e0
 replace e11 := (k1 11 (by decide)).trans e11
 replace e20 := (k1 20 (by decide)).trans e20
 replace e29 := (k1 29 (by decide)).trans e29
 replace e38 := (k1 38 (by decide)).trans e38
 replace e47 := (k1 47 (by decide)).trans e47
 replace e56 := (k1 56 (by decide)).trans e56
 replace e65 := (k1 65 (by decide)).trans e65
 replace e72 := (k1 72 (by decide)).trans e72
 replace e81 := (k1 81 (by decide)).trans e81
 replace e90 := (k1 90 (by decide)).trans e90
 replace z0 := z1.trans z0
 replace d0 := d1.trans d0
 clear k1 z1 d1 e93
 clear a91
 refine Z (C := fun l => wpAnyH _ _ _ _ _ _ l _ _) (List.replicate 92 true ++ List.replicate 7 false).toArray (by as_aux_lemma => kernel_rfl) ?_
 refine dt 92 rfl (hk := by as_aux_lemma => kernel_rfl) (v := ?_) ?_ ?_
 rotate_left
 ·(intro wy hSw; go_simp; (try simp only [e94]); go_simp; try with_reducible rfl)
 refine aa (C := fun a => wpAnyH _ _ _ _ _ _ _ a _) (by rw [z0]; decide) ?_
 intro a93 z1 d1 e95 k1
 replace e0 := (k1 0 (by decide)).trans e0
 replace e11 := (k1 11 (by decide)).trans e11
 replace e20 := (k1 20 (by decide)).trans e20
 replace e29 := (k1 29 (by decide)).trans e29
 replace e38 := (k1 38 (by decide)).trans e38
 replace e47 := (k1 47 (by decide)).trans e47
 replace e56 := (k1 56 (by decide)).trans e56
 replace e65 := (k1 65 (by decide)).trans e65
 replace e72 := (k1 72 (by decide)).trans e72
 replace e81 := (k1 81 (by decide)).trans e81
 replace e90 := (k1 90 (by decide)).trans e90
 replace z0 := z1.trans z0
 replace d0 := d1.trans d0
 clear k1 z1 d1 e94
 clear a92
 refine Z (C := fun l => wpAnyH _ _ _ _ _ _ l _ _) (List.replicate 93 true ++ List.replicate 6 false).toArray (by as_aux_lemma => kernel_rfl) ?_
 refine dt 93 rfl (hk := by as_aux_lemma => kernel_rfl) (v := ?_) ?_ ?_
 rotate_left
 ·(intro wy hSw; go_simp; (try simp only [e95]); go_simp; try with_reducible rfl)
 refine aa (C := fun a => wpAnyH _ _ _ _ _ _ _ a _) (by rw [z0]; decide) ?_
 intro a94 z1 d1 e96 k1
 replace e0 := (k1 0 (by decide)).trans e0
 replace e11 := (k1 11 (by decide)).trans e11
 replace e20 := (k1 20 (by decide)).trans e20
 replace e29 := (k1 29 (by decide)).trans e29
 replace e38 := (k1 38 (by decide)).trans e38
 replace e47 := (k1 47 (by decide)).trans e47
 replace e56 := (k1 56 (by decide)).trans e56
 replace e65 := (k1 65 (by decide)).trans e65
 replace e72 := (k1 72 (by decide)).trans e72
 replace e81 := (k1 81 (by decide)).trans e81
 replace e90 := (k1 90 (by decide)).trans e90
 replace z0 := z1.trans z0
 replace d0 := d1.trans d0
 clear k1 z1 d1 e95
 clear a93
 refine Z (C := fun l => wpAnyH _ _ _ _ _ _ l _ _) (List.replicate 94 true ++ List.replicate 5 false).toArray (by as_aux_lemma => kernel_rfl) ?_
 refine dt 94 rfl (hk := by as_aux_lemma => kernel_rfl) (v := ?_) ?_ ?_
 rotate_left
 ·(intro wy hSw; go_simp; (try simp only [e0]); go_simp; try with_reducible rfl)
 refine aa (C := fun a => wpAnyH _ _ _ _ _ _ _ a _) (by rw [z0]; decide) ?_
 intro a95 z1 d1 e97 k1
 replace e0 := (k1 0 (by decide)).trans e0
 replace e11 := (k1 11 (by decide)).trans e11
 replace e20 := (k1 20 (by decide)).trans e20
 replace e29 := (k1 29 (by decide)).trans e29
 replace e38 := (k1 38 (by decide)).trans e38
 replace e47 := (k1 47 (by decide)).trans e47
 replace e56 := (k1 56 (by decide)).trans e56
 replace e65 := (k1 65 (by decide)).trans e65
 replace e72 := (k1 72 (by decide)).trans e72
 replace e81 := (k1 81 (by decide)).trans e81
 replace e90 := (k1 90 (by decide)).trans e90
 replace e96 := (k1 96 (by decide)).trans e96
 replace z0 := z1.trans z0
 replace d0 := d1.trans d0
 clear k1 z1 d1
 clear a94
 refine Z (C := fun l => wpAnyH _ _ _ _ _ _ l _ _) (List.replicate 95 true ++ List.replicate 4 false).toArray (by as_aux_lemma => kernel_rfl) ?_
 refine dt 95 rfl (hk := by as_aux_lemma => kernel_rfl) (v := ?_) ?_ ?_
 rotate_left
 ·(intro wy hSw; go_simp; (try simp only [e97]); go_simp; try with_reducible rfl)
 refine aa (C := fun a => wpAnyH _ _ _ _ _ _ _ a _) (by rw [z0]; decide) ?_
 intro a96 z1 d1 e98 k1
 replace e0 := (k1 0 (by decide)).trans e0
 replace e11 := (k1 11 (by decide)).trans e11
 replace e20 := (k1 20 (by decide)).trans e20
 replace e29 := (k1 29 (by decide)).trans e29
 replace e38 := (k1 38 (by decide)).trans e38
 replace e47 := (k1 47 (by decide)).trans e47
 replace e56 := (k1 56 (by decide)).trans e56
 replace e65 := (k1 65 (by decide)).trans e65
 replace e72 := (k1 72 (by decide)).trans e72
 replace e81 := (k1 81 (by decide)).trans e81
 replace e90 := (k1 90 (by decide)).trans e90
 replace e96 := (k1 96 (by decide)).trans e96
 replace z0 := z1.trans z0
 replace d0 := d1.trans d0
 clear k1 z1 d1 e97
 clear a95
 refine Z (C := fun l => wpAnyH _ _ _ _ _ _ l _ _) (List.replicate 96 true ++ List.replicate 3 false).toArray (by as_aux_lemma => kernel_rfl) ?_
 refine dt 96 rfl (hk := by as_aux_lemma => kernel_rfl) (v := ?_) ?_ ?_
 rotate_left
 ·(intro wy hSw; have vA := Act.ev e96; have vB := Act.ev e98; unfold execOp; simp only [List.map_toArray, List.map_cons, List.map_nil, vA, vB]; go_simp; try with_reducible rfl)
 refine aa (C := fun a => wpAnyH _ _ _ _ _ _ _ a _) (by rw [z0]; decide) ?_
 intro a97 z1 d1 e99 k1
 replace e0 := (k1 0 (by decide)).trans e0
 replace e11 := (k1 11 (by decide)).trans e11
 replace e20 := (k1 20 (by decide)).trans e20
 replace e29 := (k1 29 (by decide)).trans e29
 replace e38 := (k1 38 (by decide)).trans e38
 replace e47 := (k1 47 (by decide)).trans e47
 replace e56 := (k1 56 (by decide)).trans e56
 replace e65 := (k1 65 (by decide)).trans e65
 replace e72 := (k1 72 (by decide)).trans e72
 replace e81 := (k1 81 (by decide)).trans e81
 replace e90 := (k1 90 (by decide)).trans e90
 replace z0 := z1.trans z0
 replace d0 := d1.trans d0
 clear k1 z1 d1 e96 e98
 clear a96
 refine Z (C := fun l => wpAnyH _ _ _ _ _ _ l _ _) (List.replicate 97 true ++ List.replicate 2 false).toArray (by as_aux_lemma => kernel_rfl) ?_
 refine aA 97 rfl (by as_aux_lemma => kernel_rfl) (fun K hK => ?_)
 rw [if_pos]
 case hc => rfl
 have v11 := Act.ev e11
 have v20 := Act.ev e20
 have v29 := Act.ev e29
 have v38 := Act.ev e38
 have v47 := Act.ev e47
 have v56 := Act.ev e56
 have v65 := Act.ev e65
 have v72 := Act.ev e72
 have v81 := Act.ev e81
 have v90 := Act.ev e90
 have v99 := Act.ev e99
 have Z0 := Y z0
 clear e11 e20 e29 e38 e47 e56 e65 e72 e81 e90 e99 z0
 unfold Oper.wp execOp
 simp only [List.map_toArray, List.map_cons, List.map_nil, v11, v20, v29, v38, v47, v56, v65, v72, v81, v90, v99]
 go_simp
 refine hK.out _ _ (⟨(World.cell?_alloc_lt w _ _ (World.block_lt_of_cell? w _ h0)).trans h0, (World.cell?_alloc_lt w _ _ (World.block_lt_of_cell? w _ h1)).trans h1, (World.cell?_alloc_lt w _ _ (World.block_lt_of_cell? w _ h2)).trans h2, (World.cell?_alloc_lt w _ _ (World.block_lt_of_cell? w _ h3)).trans h3, (World.cell?_alloc_lt w _ _ (World.block_lt_of_cell? w _ h4)).trans h4, (World.cell?_alloc_lt w _ _ (World.block_lt_of_cell? w _ h5)).trans h5, (World.cell?_alloc_lt w _ _ (World.block_lt_of_cell? w _ h6)).trans h6, (World.cell?_alloc_lt w _ _ (World.block_lt_of_cell? w _ h7)).trans h7, (World.cell?_alloc_lt w _ _ (World.block_lt_of_cell? w _ h9)).trans h9, (World.cell?_alloc_lt w _ _ (World.block_lt_of_cell? w _ h10)).trans h10, (World.cell?_alloc_lt w _ _ (World.block_lt_of_cell? w _ h11)).trans h11⟩) (fun hHeld2 => ?_)
 clear hK K hHeld2 hHeld
 refine act_set (C := fun a => wpAnyH _ _ _ _ _ _ _ a _) (by rw [Z0.out]; decide) ?_
 intro a98 z1 d1 e100
 have z0 := z1.trans Z0.out
 replace d0 := d1
 clear z1 d1
 refine Z (C := fun l => wpAnyH _ _ _ _ _ _ l _ _) (List.replicate 98 true ++ List.replicate 1 false).toArray (by as_aux_lemma => kernel_rfl) ?_
 refine fH 98 rfl (by as_aux_lemma => kernel_rfl) (by as_aux_lemma => kernel_rfl) (by as_aux_lemma => kernel_rfl) (fun _ _ _ h => h) (by rfl) (⟨(World.cell?_alloc_lt w _ _ (World.block_lt_of_cell? w _ h0)).trans h0, (World.cell?_alloc_lt w _ _ (World.block_lt_of_cell? w _ h1)).trans h1, (World.cell?_alloc_lt w _ _ (World.block_lt_of_cell? w _ h2)).trans h2, (World.cell?_alloc_lt w _ _ (World.block_lt_of_cell? w _ h3)).trans h3, (World.cell?_alloc_lt w _ _ (World.block_lt_of_cell? w _ h4)).trans h4, (World.cell?_alloc_lt w _ _ (World.block_lt_of_cell? w _ h5)).trans h5, (World.cell?_alloc_lt w _ _ (World.block_lt_of_cell? w _ h6)).trans h6, (World.cell?_alloc_lt w _ _ (World.block_lt_of_cell? w _ h7)).trans h7, (World.cell?_alloc_lt w _ _ (World.block_lt_of_cell? w _ h9)).trans h9, (World.cell?_alloc_lt w _ _ (World.block_lt_of_cell? w _ h10)).trans h10, (World.cell?_alloc_lt w _ _ (World.block_lt_of_cell? w _ h11)).trans h11⟩) (v := ?_) ?_ ?_
 rotate_left
 ·(intro wy hSw; go_simp; (try simp only [e100]); go_simp; try with_reducible rfl)
 refine aa (d := 2) (C := fun a => wpAnyH _ _ _ _ _ _ _ a _) (by rw [z0]; decide) ?_
 intro a99 z1 d1 e2 k1
 replace d0 := d1.trans d0
 clear k1 z1 d1 z0 e100
 refine wpAnyH_done (by as_aux_lemma => kernel_rfl) ?_ _
 go_wp2_with fail
 trace_state
 refine bodyPost_ret (results_tmp rfl _ _ _) d0 ?_
 rw [e2]
 exact ⟨rfl, heap_alloc_new w _, ((Below.refl _ _).alloc (Nat.le_refl _) _).drew⟩
end Go.Proofs.YtgnbkfkiigcdgaaGreatDoor
