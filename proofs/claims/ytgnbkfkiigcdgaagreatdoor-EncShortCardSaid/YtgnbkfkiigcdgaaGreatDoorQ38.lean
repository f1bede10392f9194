/-
  Layer 7's module: the walk over its sections. (gen/enc/secs.py)
-/
import Derived.Test.YtgnbkfkiigcdgaaGreatDoorQ01
import Derived.Test.YtgnbkfkiigcdgaaGreatDoorQ32
import Derived.Deep.Cut
import Derived.Laws.EntriesVeiled
import Derived.Test.YtgnbkfkiigcdgaaGreatDoorQ25
set_option maxRecDepth 100000
set_option maxHeartbeats 4000000
namespace Go.Proofs.YtgnbkfkiigcdgaaGreatDoor
open Go.RowKit Ins Bin
def ContOk : Prop := ∀ (B : Nat) (m : M) (v1 v2 v3 v4 v5 v6 v7 v8 v9 v10 : Value) (S : Nat → Prop) (w : World), w.heap[B]? = some (.cells (modCells m v1 v2 v3 v4 v5 v6 v7 v8 v9 v10) 33 (0, 0)) → RepM w S m v1 v2 v3 v4 v5 v6 v7 v8 v9 v10 →
 Calls Tryz.prog 30 #[.pointer (some ⟨B, 0, none⟩)] w fun e w' => e = .returned (.slice (some ⟨w.heap.size, 0, none⟩) 11 11) ∧ w'.heap[w.heap.size]? = some (.cells (cellsAt m B) 101 (0, 0)) ∧ Below w.heap.size w w'
def SecsPost (m : M) (w : World) (e : Ending) (w' : World) : Prop :=
 Below w.heap.size w w' ∧ (okM m → ∃ A c xs, e = .returned (.tuple #[.slice A xs.length c, .bool true]) ∧ xs.length ≤ c ∧ c ≤ maxLen ∧ HasS w' w'.heap.size A xs ∧ RelS (secsOf m) xs) ∧ (¬ okM m → e = .returned (.tuple #[.slice none 0 0, .bool false]))
theorem fp (m : M) (j : Nat) : (upto m j).length ≤ 11 := by
 unfold upto
 rw [List.length_map]
 refine Nat.le_trans (List.length_filter_le _ _) ?_
 rw [List.length_take]
 exact Nat.min_le_right _ _
theorem RepM.more' {w : World} {S S2 : Nat → Prop} {m : M} {v1 v2 v3 v4 v5 v6 v7 v8 v9 v10 : Value} (h : RepM w S m v1 v2 v3 v4 v5 v6 v7 v8 v9 v10) (hs : ∀ k, S k → S2 k) : RepM w S2 m v1 v2 v3 v4 v5 v6 v7 v8 v9 v10 :=
 ⟨h.types.more (fun k _ => hs k), h.imports.more (fun k _ => hs k), h.funcs.more (fun k _ => hs k), h.tables.more (fun k _ => hs k), h.mems.more (fun k _ => hs k), h.globals.more (fun k _ => hs k), h.exports.more (fun k _ => hs k), h.start, h.elems.more (fun k _ => hs k), h.codes.more (fun k _ => hs k), h.datas.more (fun k _ => hs k)⟩
theorem fQ (hc : ContOk) (B : Nat) (m : M) (v1 v2 v3 v4 v5 v6 v7 v8 v9 v10 : Value) (w : World) (hm : w.heap[B]? = some (.cells (modCells m v1 v2 v3 v4 v5 v6 v7 v8 v9 v10) 33 (0, 0))) (hM : RepM w (· < w.heap.size) m v1 v2 v3 v4 v5 v6 v7 v8 v9 v10) (hF : FitM m) (hT : Tb w) :
  Calls Tryz.prog 15 #[.pointer (some ⟨B, 0, none⟩)] w (SecsPost m w) := by
 have h2 : 2 ≤ w.heap.size := hT.2
 have hst := hM.start
 obtain ⟨bad, hbad⟩ : ∃ bad : Bool, bad = (!decide (m.codes.length = m.funcs.length) || (!decide (m.start = 0) && !m.hasStart)) := ⟨_, rfl⟩
 have HOKM : Hid (okM m ↔ bad = false ∧ okTo m 11) := Y (by
  rw [okM_iff hst, hbad]
  by_cases q1 : m.codes.length = m.funcs.length <;> by_cases q2 : m.start = 0 <;> by_cases q3 : m.hasStart = true <;> simp [q1, q2, q3])
 have HMC := Y hm
 have HM := Y hM
 have HF := Y hF
 have HT := Y hT
 have HCO := Y (fun W (hb : Below w.heap.size w W) => hc B m v1 v2 v3 v4 v5 v6 v7 v8 v9 v10 _ W ((hb.block B (Array.getElem?_eq_some_iff.1 hm).1).trans hm) (hM.on hb))
 have HBW := Y (Array.getElem?_eq_some_iff.1 hm).1
 obtain ⟨A10, d10, hv10, _⟩ := hM.codes
 obtain ⟨A2, d2, hv2, _⟩ := hM.funcs
 have c10 : w.cell? ⟨B, 10, none⟩ = some (.slice A10 m.codes.length d10) := by rw [cell_of_row w B 10 _ _ (0, 0) hm, ← hv10]; rfl
 have c2 : w.cell? ⟨B, 2, none⟩ = some (.slice A2 m.funcs.length d2) := by rw [cell_of_row w B 2 _ _ (0, 0) hm, ← hv2]; rfl
 have c8 : w.cell? ⟨B, 8, none⟩ = some (.int .u32 (m.start : Int)) := by rw [cell_of_row w B 8 _ _ (0, 0) hm]; rfl
 have c7 : w.cell? ⟨B, 7, none⟩ = some (.bool m.hasStart) := by rw [cell_of_row w B 7 _ _ (0, 0) hm]; rfl
 have HBAD := Y hbad
 clear hbad hm hM hF hT hst hc hv10 hv2
 obtain ⟨n10, hn10⟩ : ∃ n, m.codes.length = n := ⟨_, rfl⟩
 obtain ⟨n2, hn2⟩ : ∃ n, m.funcs.length = n := ⟨_, rfl⟩
 obtain ⟨st, hst⟩ : ∃ n, m.start = n := ⟨_, rfl⟩
 obtain ⟨hs, hhs⟩ : ∃ n, m.hasStart = n := ⟨_, rfl⟩
 rw [hn10] at c10 HBAD
 rw [hn2] at c2 HBAD
 rw [hst] at c8 HBAD
 rw [hhs] at c7 HBAD
 clear hn10 hn2 hst hhs
 go_enter Tryz.func15, Tryz.ntmps15
 go_upto_region 1 with fail
 go_cut [32] from 8 (fun s wx => s = .bool bad ∧ Hid (Below w.heap.size w wx))
 case first =>
  have HBD : Hid (Below w.heap.size w w.drew) := Y (Below.drew (Below.refl _ _))
  clear HOKM HMC HM HF HT HCO
  by_cases h1 : n10 = n2
  ·subst h1
   by_cases h3 : st = 0
   ·subst h3
    obtain rfl : bad = false := by rw [HBAD.out]; simp
    clear HBAD
    refine wp_region_held_drew (S := (fun W => W.cell? ⟨B, 10, none⟩ = some (.slice A10 n10 d10) ∧ W.cell? ⟨B, 2, none⟩ = some (.slice A2 n10 d2) ∧ W.cell? ⟨B, 8, none⟩ = some (.int .u32 0) ∧ W.cell? ⟨B, 7, none⟩ = some (.bool hs))) (by kernel_rfl) (⟨c10, c2, c8, c7⟩) (fun hHeld => ?_)
    refine dt 0 rfl (v := ?_) ?_ ?_
    rotate_left
    ·(intro wy hSw; go_simp; try with_reducible rfl)
    simp only [Act.put, sp]
    refine dt 1 rfl (v := ?_) ?_ ?_
    rotate_left
    ·(intro wy hSw; go_simp; try with_reducible rfl)
    simp only [Act.put, sp]
    refine dt 2 rfl (v := ?_) ?_ ?_
    rotate_left
    ·(intro wy hSw; go_simp; try with_reducible rfl)
    simp only [Act.put, sp]
    refine dt 3 rfl (v := ?_) ?_ ?_
    rotate_left
    ·(intro wy hSw; obtain ⟨q0, q1, q2, q3⟩ := hSw; go_simp; try with_reducible rfl)
    simp only [Act.put, sp]
    refine dt 4 rfl (v := ?_) ?_ ?_
    rotate_left
    ·(intro wy hSw; go_simp; try with_reducible rfl)
    simp only [Act.put, sp]
    refine dt 5 rfl (v := ?_) ?_ ?_
    rotate_left
    ·(intro wy hSw; go_simp; try with_reducible rfl)
    simp only [Act.put, sp]
    refine dt 6 rfl (v := ?_) ?_ ?_
    rotate_left
    ·(intro wy hSw; go_simp; try with_reducible rfl)
    simp only [Act.put, sp]
    refine dt 7 rfl (v := ?_) ?_ ?_
    rotate_left
    ·(intro wy hSw; go_simp; try with_reducible rfl)
    simp only [Act.put, sp]
    refine dt 8 rfl (v := ?_) ?_ ?_
    rotate_left
    ·(intro wy hSw; obtain ⟨q0, q1, q2, q3⟩ := hSw; go_simp; try with_reducible rfl)
    simp only [Act.put, sp]
    refine dt 9 rfl (v := ?_) ?_ ?_
    rotate_left
    ·(intro wy hSw; go_simp; try with_reducible rfl)
    simp only [Act.put, sp]
    refine dt 10 rfl (v := ?_) ?_ ?_
    rotate_left
    ·(intro wy hSw; go_simp; try with_reducible rfl)
    simp only [Act.put, sp]
    refine dt 11 rfl (v := ?_) ?_ ?_
    rotate_left
    ·(intro wy hSw; go_simp; try with_reducible rfl)
    simp only [Act.put, sp]
    refine dt 12 rfl (v := ?_) ?_ ?_
    rotate_left
    ·(intro wy hSw; go_simp; try with_reducible rfl)
    simp only [Act.put, sp]
    refine dt 13 rfl (v := ?_) ?_ ?_
    rotate_left
    ·(intro wy hSw; go_simp; try with_reducible rfl)
    simp only [Act.put, sp]
    refine dt 14 rfl (v := ?_) ?_ ?_
    rotate_left
    ·(intro wy hSw; go_simp; try with_reducible rfl)
    simp only [Act.put, sp]
    refine dt 15 rfl (v := ?_) ?_ ?_
    rotate_left
    ·(intro wy hSw; obtain ⟨q0, q1, q2, q3⟩ := hSw; go_simp; try with_reducible rfl)
    simp only [Act.put, sp]
    refine dt 16 rfl (v := ?_) ?_ ?_
    rotate_left
    ·(intro wy hSw; go_simp; try with_reducible rfl)
    simp only [Act.put, sp]
    refine dt 17 rfl (v := ?_) ?_ ?_
    rotate_left
    ·(intro wy hSw; go_simp; try with_reducible rfl)
    simp only [Act.put, sp]
    refine au 18 rfl (by kernel_rfl) (by kernel_rfl) (by kernel_rfl) (fun _ _ _ h => h) (by rfl) (by assumption) ?_
    simp only [Act.put, sp]
    refine au 19 rfl (by kernel_rfl) (by kernel_rfl) (by kernel_rfl) (fun _ _ _ h => h) (by rfl) (by assumption) ?_
    simp only [Act.put, sp]
    refine au 20 rfl (by kernel_rfl) (by kernel_rfl) (by kernel_rfl) (fun _ _ _ h => h) (by rfl) (by assumption) ?_
    simp only [Act.put, sp]
    refine au 21 rfl (by kernel_rfl) (by kernel_rfl) (by kernel_rfl) (fun _ _ _ h => h) (by rfl) (by assumption) ?_
    simp only [Act.put, sp]
    refine au 22 rfl (by kernel_rfl) (by kernel_rfl) (by kernel_rfl) (fun _ _ _ h => h) (by rfl) (by assumption) ?_
    simp only [Act.put, sp]
    refine dt 23 rfl (v := ?_) ?_ ?_
    rotate_left
    ·(intro wy hSw; go_simp; try with_reducible rfl)
    simp only [Act.put, sp]
    refine dt 24 rfl (v := ?_) ?_ ?_
    rotate_left
    ·(intro wy hSw; go_simp; try with_reducible rfl)
    simp only [Act.put, sp]
    refine wpAnyH_done (by kernel_rfl) ?_ _
    go_wp2_with fail
    go_meet
    case rel => exact ⟨rfl, HBD⟩
   ·have h4 : ¬ ((st : Int) = 0) := by omega
    have h5 : ((st : Int) != 0) = true := by simp; omega
    cases hs
    ·obtain rfl : bad = true := by rw [HBAD.out]; simp [h3]
     clear HBAD
     refine wp_region_held_drew (S := (fun W => W.cell? ⟨B, 10, none⟩ = some (.slice A10 n10 d10) ∧ W.cell? ⟨B, 2, none⟩ = some (.slice A2 n10 d2) ∧ W.cell? ⟨B, 8, none⟩ = some (.int .u32 (st : Int)) ∧ W.cell? ⟨B, 7, none⟩ = some (.bool false))) (by kernel_rfl) (⟨c10, c2, c8, c7⟩) (fun hHeld => ?_)
     refine dt 0 rfl (v := ?_) ?_ ?_
     rotate_left
     ·(intro wy hSw; go_simp; try with_reducible rfl)
     simp only [Act.put, sp]
     refine dt 1 rfl (v := ?_) ?_ ?_
     rotate_left
     ·(intro wy hSw; go_simp; try with_reducible rfl)
     simp only [Act.put, sp]
     refine dt 2 rfl (v := ?_) ?_ ?_
     rotate_left
     ·(intro wy hSw; go_simp; try with_reducible rfl)
     simp only [Act.put, sp]
     refine dt 3 rfl (v := ?_) ?_ ?_
     rotate_left
     ·(intro wy hSw; obtain ⟨q0, q1, q2, q3⟩ := hSw; go_simp; try with_reducible rfl)
     simp only [Act.put, sp]
     refine dt 4 rfl (v := ?_) ?_ ?_
     rotate_left
     ·(intro wy hSw; go_simp; try with_reducible rfl)
     simp only [Act.put, sp]
     refine dt 5 rfl (v := ?_) ?_ ?_
     rotate_left
     ·(intro wy hSw; go_simp; try with_reducible rfl)
     simp only [Act.put, sp]
     refine dt 6 rfl (v := ?_) ?_ ?_
     rotate_left
     ·(intro wy hSw; go_simp; try with_reducible rfl)
     simp only [Act.put, sp]
     refine dt 7 rfl (v := ?_) ?_ ?_
     rotate_left
     ·(intro wy hSw; go_simp; try with_reducible rfl)
     simp only [Act.put, sp]
     refine dt 8 rfl (v := ?_) ?_ ?_
     rotate_left
     ·(intro wy hSw; obtain ⟨q0, q1, q2, q3⟩ := hSw; go_simp; try with_reducible rfl)
     simp only [Act.put, sp]
     refine dt 9 rfl (v := ?_) ?_ ?_
     rotate_left
     ·(intro wy hSw; go_simp; try with_reducible rfl)
     simp only [Act.put, sp]
     refine dt 10 rfl (v := ?_) ?_ ?_
     rotate_left
     ·(intro wy hSw; go_simp; try with_reducible rfl)
     simp only [Act.put, sp]
     refine dt 11 rfl (v := ?_) ?_ ?_
     rotate_left
     ·(intro wy hSw; go_simp; try with_reducible rfl)
     simp only [Act.put, sp]
     refine dt 12 rfl (v := ?_) ?_ ?_
     rotate_left
     ·(intro wy hSw; go_simp; try with_reducible rfl)
     simp only [Act.put, sp]
     refine dt 13 rfl (v := ?_) ?_ ?_
     rotate_left
     ·(intro wy hSw; go_simp; try with_reducible rfl)
     simp only [Act.put, sp]
     refine dt 14 rfl (v := ?_) ?_ ?_
     rotate_left
     ·(intro wy hSw; go_simp; try with_reducible rfl)
     simp only [Act.put, sp]
     refine dt 15 rfl (v := ?_) ?_ ?_
     rotate_left
     ·(intro wy hSw; obtain ⟨q0, q1, q2, q3⟩ := hSw; go_simp; try with_reducible rfl)
     simp only [Act.put, sp]
     refine dt 16 rfl (v := ?_) ?_ ?_
     rotate_left
     ·(intro wy hSw; go_simp; try with_reducible rfl)
     simp only [Act.put, sp]
     refine dt 17 rfl (v := ?_) ?_ ?_
     rotate_left
     ·(intro wy hSw; go_simp; try with_reducible rfl)
     simp only [Act.put, sp]
     refine dt 18 rfl (v := ?_) ?_ ?_
     rotate_left
     ·(intro wy hSw; go_simp; try with_reducible rfl)
     simp only [Act.put, sp]
     refine dt 19 rfl (v := ?_) ?_ ?_
     rotate_left
     ·(intro wy hSw; go_simp; try with_reducible rfl)
     simp only [Act.put, sp]
     refine dt 20 rfl (v := ?_) ?_ ?_
     rotate_left
     ·(intro wy hSw; go_simp; try with_reducible rfl)
     simp only [Act.put, sp]
     refine dt 21 rfl (v := ?_) ?_ ?_
     rotate_left
     ·(intro wy hSw; obtain ⟨q0, q1, q2, q3⟩ := hSw; go_simp; try with_reducible rfl)
     simp only [Act.put, sp]
     refine dt 22 rfl (v := ?_) ?_ ?_
     rotate_left
     ·(intro wy hSw; go_simp; try with_reducible rfl)
     simp only [Act.put, sp]
     refine dt 23 rfl (v := ?_) ?_ ?_
     rotate_left
     ·(intro wy hSw; go_simp; try with_reducible rfl)
     simp only [Act.put, sp]
     refine dt 24 rfl (v := ?_) ?_ ?_
     rotate_left
     ·(intro wy hSw; go_simp; try with_reducible rfl)
     simp only [Act.put, sp]
     refine wpAnyH_done (by kernel_rfl) ?_ _
     go_wp2_with fail
     go_meet
     case rel => exact ⟨rfl, HBD⟩
    ·obtain rfl : bad = false := by rw [HBAD.out]; simp
     clear HBAD
     refine wp_region_held_drew (S := (fun W => W.cell? ⟨B, 10, none⟩ = some (.slice A10 n10 d10) ∧ W.cell? ⟨B, 2, none⟩ = some (.slice A2 n10 d2) ∧ W.cell? ⟨B, 8, none⟩ = some (.int .u32 (st : Int)) ∧ W.cell? ⟨B, 7, none⟩ = some (.bool true))) (by kernel_rfl) (⟨c10, c2, c8, c7⟩) (fun hHeld => ?_)
     refine dt 0 rfl (v := ?_) ?_ ?_
     rotate_left
     ·(intro wy hSw; go_simp; try with_reducible rfl)
     simp only [Act.put, sp]
     refine dt 1 rfl (v := ?_) ?_ ?_
     rotate_left
     ·(intro wy hSw; go_simp; try with_reducible rfl)
     simp only [Act.put, sp]
     refine dt 2 rfl (v := ?_) ?_ ?_
     rotate_left
     ·(intro wy hSw; go_simp; try with_reducible rfl)
     simp only [Act.put, sp]
     refine dt 3 rfl (v := ?_) ?_ ?_
     rotate_left
     ·(intro wy hSw; obtain ⟨q0, q1, q2, q3⟩ := hSw; go_simp; try with_reducible rfl)
     simp only [Act.put, sp]
     refine dt 4 rfl (v := ?_) ?_ ?_
     rotate_left
     ·(intro wy hSw; go_simp; try with_reducible rfl)
     simp only [Act.put, sp]
     refine dt 5 rfl (v := ?_) ?_ ?_
     rotate_left
     ·(intro wy hSw; go_simp; try with_reducible rfl)
     simp only [Act.put, sp]
     refine dt 6 rfl (v := ?_) ?_ ?_
     rotate_left
     ·(intro wy hSw; go_simp; try with_reducible rfl)
     simp only [Act.put, sp]
     refine dt 7 rfl (v := ?_) ?_ ?_
     rotate_left
     ·(intro wy hSw; go_simp; try with_reducible rfl)
     simp only [Act.put, sp]
     refine dt 8 rfl (v := ?_) ?_ ?_
     rotate_left
     ·(intro wy hSw; obtain ⟨q0, q1, q2, q3⟩ := hSw; go_simp; try with_reducible rfl)
     simp only [Act.put, sp]
     refine dt 9 rfl (v := ?_) ?_ ?_
     rotate_left
     ·(intro wy hSw; go_simp; try with_reducible rfl)
     simp only [Act.put, sp]
     refine dt 10 rfl (v := ?_) ?_ ?_
     rotate_left
     ·(intro wy hSw; go_simp; try with_reducible rfl)
     simp only [Act.put, sp]
     refine dt 11 rfl (v := ?_) ?_ ?_
     rotate_left
     ·(intro wy hSw; go_simp; try with_reducible rfl)
     simp only [Act.put, sp]
     refine dt 12 rfl (v := ?_) ?_ ?_
     rotate_left
     ·(intro wy hSw; go_simp; try with_reducible rfl)
     simp only [Act.put, sp]
     refine dt 13 rfl (v := ?_) ?_ ?_
     rotate_left
     ·(intro wy hSw; go_simp; try with_reducible rfl)
     simp only [Act.put, sp]
     refine dt 14 rfl (v := ?_) ?_ ?_
     rotate_left
     ·(intro wy hSw; go_simp; try with_reducible rfl)
     simp only [Act.put, sp]
     refine dt 15 rfl (v := ?_) ?_ ?_
     rotate_left
     ·(intro wy hSw; obtain ⟨q0, q1, q2, q3⟩ := hSw; go_simp; try with_reducible rfl)
     simp only [Act.put, sp]
     refine dt 16 rfl (v := ?_) ?_ ?_
     rotate_left
     ·(intro wy hSw; go_simp; try with_reducible rfl)
     simp only [Act.put, sp]
     refine dt 17 rfl (v := ?_) ?_ ?_
     rotate_left
     ·(intro wy hSw; go_simp; try with_reducible rfl)
     simp only [Act.put, sp]
     refine dt 18 rfl (v := ?_) ?_ ?_
     rotate_left
     ·(intro wy hSw; go_simp; try with_reducible rfl)
     simp only [Act.put, sp]
     refine dt 19 rfl (v := ?_) ?_ ?_
     rotate_left
     ·(intro wy hSw; go_simp; try with_reducible rfl)
     simp only [Act.put, sp]
     refine dt 20 rfl (v := ?_) ?_ ?_
     rotate_left
     ·(intro wy hSw; go_simp; try with_reducible rfl)
     simp only [Act.put, sp]
     refine dt 21 rfl (v := ?_) ?_ ?_
     rotate_left
     ·(intro wy hSw; obtain ⟨q0, q1, q2, q3⟩ := hSw; go_simp; try with_reducible rfl)
     simp only [Act.put, sp]
     refine dt 22 rfl (v := ?_) ?_ ?_
     rotate_left
     ·(intro wy hSw; go_simp; try with_reducible rfl)
     simp only [Act.put, sp]
     refine dt 23 rfl (v := ?_) ?_ ?_
     rotate_left
     ·(intro wy hSw; go_simp; try with_reducible rfl)
     simp only [Act.put, sp]
     refine dt 24 rfl (v := ?_) ?_ ?_
     rotate_left
     ·(intro wy hSw; go_simp; try with_reducible rfl)
     simp only [Act.put, sp]
     refine wpAnyH_done (by kernel_rfl) ?_ _
     go_wp2_with fail
     go_meet
     case rel => exact ⟨rfl, HBD⟩
  ·have h4 : ¬ ((n10 : Int) = (n2 : Int)) := by omega
   have h5 : ((n10 : Int) != (n2 : Int)) = true := by simp; omega
   obtain rfl : bad = true := by rw [HBAD.out]; simp [h1]
   clear HBAD
   refine wp_region_held_drew (S := (fun W => W.cell? ⟨B, 10, none⟩ = some (.slice A10 n10 d10) ∧ W.cell? ⟨B, 2, none⟩ = some (.slice A2 n2 d2) ∧ W.cell? ⟨B, 8, none⟩ = some (.int .u32 (st : Int)) ∧ W.cell? ⟨B, 7, none⟩ = some (.bool hs))) (by kernel_rfl) (⟨c10, c2, c8, c7⟩) (fun hHeld => ?_)
   refine dt 0 rfl (v := ?_) ?_ ?_
   rotate_left
   ·(intro wy hSw; go_simp; try with_reducible rfl)
   simp only [Act.put, sp]
   refine dt 1 rfl (v := ?_) ?_ ?_
   rotate_left
   ·(intro wy hSw; go_simp; try with_reducible rfl)
   simp only [Act.put, sp]
   refine dt 2 rfl (v := ?_) ?_ ?_
   rotate_left
   ·(intro wy hSw; go_simp; try with_reducible rfl)
   simp only [Act.put, sp]
   refine dt 3 rfl (v := ?_) ?_ ?_
   rotate_left
   ·(intro wy hSw; obtain ⟨q0, q1, q2, q3⟩ := hSw; go_simp; try with_reducible rfl)
   simp only [Act.put, sp]
   refine dt 4 rfl (v := ?_) ?_ ?_
   rotate_left
   ·(intro wy hSw; go_simp; try with_reducible rfl)
   simp only [Act.put, sp]
   refine dt 5 rfl (v := ?_) ?_ ?_
   rotate_left
   ·(intro wy hSw; go_simp; try with_reducible rfl)
   simp only [Act.put, sp]
   refine dt 6 rfl (v := ?_) ?_ ?_
   rotate_left
   ·(intro wy hSw; go_simp; try with_reducible rfl)
   simp only [Act.put, sp]
   refine dt 7 rfl (v := ?_) ?_ ?_
   rotate_left
   ·(intro wy hSw; go_simp; try with_reducible rfl)
   simp only [Act.put, sp]
   refine dt 8 rfl (v := ?_) ?_ ?_
   rotate_left
   ·(intro wy hSw; obtain ⟨q0, q1, q2, q3⟩ := hSw; go_simp; try with_reducible rfl)
   simp only [Act.put, sp]
   refine dt 9 rfl (v := ?_) ?_ ?_
   rotate_left
   ·(intro wy hSw; go_simp; try with_reducible rfl)
   simp only [Act.put, sp]
   refine dt 10 rfl (v := ?_) ?_ ?_
   rotate_left
   ·(intro wy hSw; go_simp; try with_reducible rfl)
   simp only [Act.put, sp]
   refine dt 11 rfl (v := ?_) ?_ ?_
   rotate_left
   ·(intro wy hSw; go_simp; try with_reducible rfl)
   simp only [Act.put, sp]
   refine au 12 rfl (by kernel_rfl) (by kernel_rfl) (by kernel_rfl) (fun _ _ _ h => h) (by rfl) (by assumption) ?_
   simp only [Act.put, sp]
   refine au 13 rfl (by kernel_rfl) (by kernel_rfl) (by kernel_rfl) (fun _ _ _ h => h) (by rfl) (by assumption) ?_
   simp only [Act.put, sp]
   refine au 14 rfl (by kernel_rfl) (by kernel_rfl) (by kernel_rfl) (fun _ _ _ h => h) (by rfl) (by assumption) ?_
   simp only [Act.put, sp]
   refine au 15 rfl (by kernel_rfl) (by kernel_rfl) (by kernel_rfl) (fun _ _ _ h => h) (by rfl) (by assumption) ?_
   simp only [Act.put, sp]
   refine au 16 rfl (by kernel_rfl) (by kernel_rfl) (by kernel_rfl) (fun _ _ _ h => h) (by rfl) (by assumption) ?_
   simp only [Act.put, sp]
   refine au 17 rfl (by kernel_rfl) (by kernel_rfl) (by kernel_rfl) (fun _ _ _ h => h) (by rfl) (by assumption) ?_
   simp only [Act.put, sp]
   refine au 18 rfl (by kernel_rfl) (by kernel_rfl) (by kernel_rfl) (fun _ _ _ h => h) (by rfl) (by assumption) ?_
   simp only [Act.put, sp]
   refine au 19 rfl (by kernel_rfl) (by kernel_rfl) (by kernel_rfl) (fun _ _ _ h => h) (by rfl) (by assumption) ?_
   simp only [Act.put, sp]
   refine au 20 rfl (by kernel_rfl) (by kernel_rfl) (by kernel_rfl) (fun _ _ _ h => h) (by rfl) (by assumption) ?_
   simp only [Act.put, sp]
   refine au 21 rfl (by kernel_rfl) (by kernel_rfl) (by kernel_rfl) (fun _ _ _ h => h) (by rfl) (by assumption) ?_
   simp only [Act.put, sp]
   refine au 22 rfl (by kernel_rfl) (by kernel_rfl) (by kernel_rfl) (fun _ _ _ h => h) (by rfl) (by assumption) ?_
   simp only [Act.put, sp]
   refine au 23 rfl (by kernel_rfl) (by kernel_rfl) (by kernel_rfl) (fun _ _ _ h => h) (by rfl) (by assumption) ?_
   simp only [Act.put, sp]
   refine dt 24 rfl (v := ?_) ?_ ?_
   rotate_left
   ·(intro wy hSw; go_simp; try with_reducible rfl)
   simp only [Act.put, sp]
   refine wpAnyH_done (by kernel_rfl) ?_ _
   go_wp2_with fail
   go_meet
   case rel => exact ⟨rfl, HBD⟩
 case rest =>
  obtain ⟨rfl, HB⟩ := hcut
  clear c10 c2 c8 c7 HBAD
  cases bad
  ·have HOK0 : Hid (okM m ↔ okTo m 11) := Y (by rw [HOKM.out]; simp)
   go_upto_region 5 with (go_at_call 30; refine (HCO.out _ HB.out).mono ?_; rintro e w1 ⟨rfl, ht, hb⟩; have HTB := Y ht; have HB1 := Y (HB.out.trans (hb.mono HB.out.size)); have HLB := Y ((Array.getElem?_eq_some_iff.1 ht).1); clear ht hb)
   obtain ⟨Bc, hBc⟩ : ∃ Bc, wc.heap.size = Bc := ⟨_, rfl⟩
   rw [hBc] at HTB HLB ⊢
   clear hBc
   go_loopw [4, 36] (fun u i wr => ∃ (j : Nat) (xs : List Sec.S), j ≤ 11 ∧ i = .int .i64 (j : Int) ∧ Hid (OwnS wr 48 w1.heap.size u xs.length xs) ∧ Hid (RelS (upto m j) xs) ∧ Hid (okTo m j) ∧ Hid (Below w1.heap.size w1 wr)) (fun _ i _ => 11 - (intOf i).toNat)
   case atStart => exact ⟨0, [], by omega, rfl, Y (OwnS.nil _ _ _), Y trivial, Y (fun i hi => by cases hi), Y (Below.refl _ _)⟩
   case round =>
    obtain ⟨j, xs, hj, rfl, HO, HR, HK, HBR⟩ := hrel
    have HBX := Y (HB1.out.trans (HBR.out.mono HB1.out.size))
    by_cases hj11 : j < 11
    ·obtain ⟨q, f, e1, e2, e3, hcf, e4⟩ := cont_at m B v1 v2 v3 v4 v5 v6 v7 v8 v9 v10 j hj11
     have ht := (HBR.out.block Bc HLB.out).trans HTB.out
     have z0 : wr.cell? ⟨Bc, j * 2, none⟩ = some (.bool q) := by rw [cell_of_row wr Bc (j * 2) _ _ (0, 0) ht]; exact e1
     have z1 : wr.cell? ⟨Bc, j * 2 + 1, none⟩ = some (.func (.func f) #[.pointer (some ⟨B, 0, none⟩)] #[]) := by rw [cell_of_row wr Bc (j * 2 + 1) _ _ (0, 0) ht]; exact e2
     have HE4 := Y e4
     have hji : (j : Int) < 11 := by omega
     have HQV := Y e3
     clear e1 e2 e3 e4 ht
     have HWA : Hid (Below wr.heap.size wr (wr.alloc (.cells #[.bool q, .func (.func f) #[.pointer (some ⟨B, 0, none⟩)] #[]] 101))) := Y ((Below.refl _ _).alloc (Nat.le_refl _) _)
     cases q with
     | false =>
      have hno : ¬ 0 < cnt m (j + 1) := by
       have := HQV.out
       intro h
       rw [decide_eq_true h] at this
       cases this
      have HU : Hid (upto m (j + 1) = upto m j) := Y (upto_no hj11 hno)
      have HKS : Hid (okTo m (j + 1)) := Y ((dV hj11).2 ⟨HK.out, fun h => absurd h hno⟩)
      have HO2 := Y (HO.out.on HWA.out)
      have HB2 := Y (HBR.out.trans (HWA.out.mono HBR.out.size))
      clear hno
      go_wp2_with fail
      go_roundw
      case rel => exact ⟨j + 1, xs, by omega, by go_num, HO2, Y (by rw [HU.out]; exact HR.out), HKS, HB2⟩
      case measure => simp [intOf]; omega
     | true =>
      have hyes : 0 < cnt m (j + 1) := of_decide_eq_true HQV.out.symm
      have HU : Hid (upto m (j + 1) = upto m j ++ [⟨j + 1, body m (j + 1)⟩]) := Y (upto_yes hj11 hyes)
      have HYES := Y hyes
      clear hyes
      go_upto_region 8 with fail
      have HSA : Hid ((wr.alloc (.cells #[.bool true, .func (.func f) #[.pointer (some ⟨B, 0, none⟩)] #[]] 101)).heap.size = wr.heap.size + 1) := Y (by simp)
      have HFC : Hid ((wr.alloc (.cells #[.bool true, .func (.func f) #[.pointer (some ⟨B, 0, none⟩)] #[]] 101)).heap[wr.heap.size]? = some (.cells #[.bool true, .func (.func f) #[.pointer (some ⟨B, 0, none⟩)] #[]] 101 (0, 0))) := Y (heap_alloc_new wr _)
      generalize wr.alloc (.cells #[.bool true, .func (.func f) #[.pointer (some ⟨B, 0, none⟩)] #[]] 101) = wa at HWA HSA HFC ⊢
      go_upto_region 9 with fail
      have h2 : 2 ≤ wa.heap.size := Nat.le_trans h2 (Nat.le_trans HBX.out.size HWA.out.size)
      have HWS := Y (ia (w := wa) h2)
      have HWB : Hid (Below wa.heap.size wa (wa.alloc (.cells #[.slice none 0 0, .bool false] 104))) := Y ((Below.refl _ _).alloc (Nat.le_refl _) _)
      generalize wa.alloc (.cells #[.slice none 0 0, .bool false] 104) = wb at HWS HWB ⊢
      have HLR : Hid (wr.heap.size < wa.heap.size) := Y (by have := HSA.out; omega)
      have zf : wb.cell? ⟨wr.heap.size, 1, none⟩ = some (.func (.func f) #[.pointer (some ⟨B, 0, none⟩)] #[]) := by rw [cell_of_row wb _ 1 _ _ (0, 0) ((HWB.out.block wr.heap.size HLR.out).trans HFC.out)]; rfl
      obtain ⟨R, hR⟩ : ∃ R, wa.heap.size = R := ⟨_, rfl⟩
      have HAB := Y (HWA.out.trans (HWB.out.mono HWA.out.size))
      have HBB := Y (HBX.out.trans (HAB.out.mono HBX.out.size))
      rw [hR] at HWS HLR ⊢
      have HQ := Y (HE4.out R _ _ wb HWS.out ((HBB.out.block B HBW.out).trans HMC.out) ((HM.out.mod (T := fun _ => False) (Mod.of_below HBB.out) (fun _ _ _ h => h)).more' (fun k hk => by have := HBX.out.size; have := HLR.out; omega)) HF.out (HT.out.on HBB.out))
      clear z0 z1 hR HSA HFC HWB
      by_cases hok : okB m (j + 1)
      ·have e0 : adv (some []) (okB m (j + 1)) (body m (j + 1)) = some (body m (j + 1)) := by rw [bm hok]; rfl
       rw [e0] at HQ
       have HKS : Hid (okTo m (j + 1)) := Y ((dV hj11).2 ⟨HK.out, fun _ => hok⟩)
       have hw8 : IntKind.u8.wrap ((j : Int) + 1) = (j : Int) + 1 := IntWalk.u8_in _ ⟨by omega, by omega⟩
       clear e0 hok
       have tok1 : True := trivial
       go_wp2_with (first | (clear tok1; refine HQ.out.mono ?_; rintro e w2 ⟨rfl, vb, hs, hmm⟩; obtain ⟨bs, q1, q2, q3, q4, q5⟩ := hs; obtain ⟨A3, c3, rfl, hx, hnc, hcm, hca, hh⟩ := bG q2; clear hx; have k0 : w2.cell? ⟨R, 0, none⟩ = some (.slice A3 bs.length c3) := (by rw [cell_of_row w2 _ 0 _ _ (0, 0) q1]; rfl); have k1 : w2.cell? ⟨R, 1, none⟩ = some (.bool false) := (by rw [cell_of_row w2 _ 1 _ _ (0, 0) q1]; rfl); have HB2 : Hid (Below wr.heap.size wr w2) := Y (HAB.out.trans ((hmm.low HWS.out).below HAB.out.size (fun k hk e => by have := HLR.out; omega))); have HSAT := Y (q5 _ rfl); obtain ⟨vx, wx, hrun, ho2, hm2, ht2⟩ := append1s (P := Tryz.prog) 48 44 (by kernel_rfl) (by kernel_rfl) w2 w1.heap.size xs.length u4 xs ⟨j + 1, bs⟩ A3 c3 (HO.out.on HB2.out) (by have := HO.out; have := HR.out.len; have := fp m j; omega) (Nat.le_trans HBR.out.size HB2.out.size) ⟨by show j + 1 < 256; omega, hnc, hcm, hca, hh⟩ (fun ad had hne e => by have h1 := av q2 ad.block (by rw [had]; rfl); have h3 := (eG HO.out _ e).2; have := HLR.out; omega); have HRUN : Hid ((Builtin.append_ #[44, 44] 44 #[u4, .slice (some ⟨w2.heap.size, 0, none⟩) 1 1]).run Tryz.prog (w2.alloc (.cells #[.int .u8 ((j : Int) + 1), .slice A3 bs.length c3] 48)) = .ok vx wx) := Y hrun; have HO3 := Y ho2; have HB3 : Hid (Below w1.heap.size w1 wx) := Y ((HBR.out.trans (HB2.out.mono HBR.out.size)).trans (hm2.below (Nat.le_trans HBR.out.size HB2.out.size) (fun k hk e => by have := (eG HO.out _ e).1; omega))); clear q1 q2 q3 q4 q5 hnc hcm hca hh hmm hrun ho2 hm2 ht2; generalize bs.length = nb at k0 HRUN) | (at_builtin; refine ab rfl (.tmp 54) (.tmp 63) 44 rfl _ _ _ wx rfl rfl HRUN.out ?_))
       go_roundw
       case rel => exact ⟨j + 1, xs ++ [⟨j + 1, bs⟩], by omega, by go_num, Y (by rw [List.length_append]; exact HO3.out), Y (by rw [HU.out]; exact HR.out.app rfl HSAT.out), HKS, HB3⟩
       case measure => simp [intOf]; omega
      ·have e0 : adv (some []) (okB m (j + 1)) (body m (j + 1)) = none := bA hok
       rw [e0] at HQ
       have HNO : Hid (¬ okM m) := Y (fun h => hok (((dV hj11).1 (okTo_le (HOK0.out.1 h) hj11)).2 HYES.out))
       clear e0 hok
       have tok1 : True := trivial
       go_wp2_with (first | (clear tok1; refine HQ.out.mono ?_; rintro e w2 ⟨rfl, vb, hs, hmm⟩; obtain ⟨bs, q1, q2, q3, q4, q5⟩ := hs; have k1 : w2.cell? ⟨R, 1, none⟩ = some (.bool true) := (by rw [cell_of_row w2 _ 1 _ _ (0, 0) q1]; rfl); have HB2 : Hid (Below wr.heap.size wr w2) := Y (HAB.out.trans ((hmm.low HWS.out).below HAB.out.size (fun k hk e => by have := HLR.out; omega))); clear q1 q2 q3 q4 q5 hmm))
       go_ret2
       exact ⟨HBX.out.trans (HB2.out.mono HBX.out.size), fun h => absurd h HNO.out, fun _ => rfl⟩
    ·obtain rfl : j = 11 := by omega
     obtain ⟨A, c, hu, hc1, hc2, hhs⟩ := HO.out.tell
     subst hu
     have HH := Y hhs
     clear hhs
     have HYM : Hid (okM m) := Y (HOK0.out.2 HK.out)
     have HXX : Hid (∀ A' c', Value.slice A xs.length c = .slice A' xs.length c' → True) := Y (fun _ _ _ => trivial)
     generalize hn : xs.length = n at HXX ⊢
     have HN := Y hn
     clear hn
     go_wp2_with fail
     go_ret2
     refine ⟨HBX.out, fun _ => ⟨A, c, xs, by rw [HN.out]; rfl, hc1, hc2, HH.out, HR.out⟩, fun h => absurd HYM.out h⟩
  ·go_wp2_with fail
   go_ret2
   refine ⟨HB.out, fun h => ?_, fun _ => rfl⟩
   have := (HOKM.out.1 h).1
   cases this
end Go.Proofs.YtgnbkfkiigcdgaaGreatDoor
namespace Bin
open Ins Sec Leb
theorem RelS.small : ∀ {a b : List S}, RelS a b → (Sec.encAll b).length ≤ 65547 * b.length
 | [], [], _ => by simp [Sec.encAll]
 | s :: a, t :: b, h => by
  have ih := RelS.small h.2
  have ht : t.b.length ≤ 65536 := by
   rcases h.1.2 with ⟨h1, h2⟩ | ⟨_, h2⟩
   ·rw [h2]; exact h1
   ·omega
  have := encU_le10 t.b.length (by omega)
  simp only [Sec.encAll, List.flatMap_cons, Sec.enc, List.length_append, List.length_cons] at ih ⊢
  omega
 | [], _ :: _, h => h.elim
 | _ :: _, [], h => h.elim
theorem RelS.joined {a b : List S} (h : RelS a b) : b = a ∨ 65536 < (Sec.join a).length ∧ 65536 < (Sec.join b).length := by
 rcases h.join with h | ⟨h1, h2⟩
 ·exact .inl h
 ·refine .inr ⟨?_, ?_⟩ <;> (simp only [Sec.join, List.length_append]; omega)
end Bin
namespace Go.Proofs.YtgnbkfkiigcdgaaGreatDoor
open Go.RowKit Ins Bin
def bO (m : M) (w : World) (e : Ending) (w' : World) : Prop :=
 Below w.heap.size w w' ∧ match encode m with
  | .error k => e = .returned (.tuple #[.slice none 0 0, .int .i64 (k : Int)])
  | .ok b => ∃ A c, e = .returned (.tuple #[.slice A b.length c, .int .i64 0]) ∧ b.length ≤ c ∧ c ≤ maxLen ∧ (A = none → c = 0) ∧ Has w' w'.heap.size A b
def cX : Prop := ∀ (m : M) (v1 v2 v3 v4 v5 v6 v7 v8 v9 v10 : Value) (w : World), RepM w (· < w.heap.size) m v1 v2 v3 v4 v5 v6 v7 v8 v9 v10 → FitM m → Tb w → Calls Tryz.prog 8 #[.agg (modCells m v1 v2 v3 v4 v5 v6 v7 v8 v9 v10)] w (bO m w)
theorem encPost_no {m : M} {w w' : World} (h : ¬ okM m) (hb : Below w.heap.size w w') : bO m w (.returned (.tuple #[.slice none 0 0, .int .i64 2])) w' := by
 refine ⟨hb, ?_⟩
 unfold encode
 rw [if_neg h]
 rfl
theorem gY {m : M} {w w' : World} (h : okM m) (hl : 65536 < (encM m).length) (hb : Below w.heap.size w w') : bO m w (.returned (.tuple #[.slice none 0 0, .int .i64 3])) w' := by
 refine ⟨hb, ?_⟩
 unfold encode
 rw [if_pos h, if_pos hl]
 rfl
theorem encPost_yes {m : M} {w w' : World} {A : Option Addr} {n c : Nat} (h : okM m) (hl : (encM m).length ≤ 65536) (hb : Below w.heap.size w w') (hn : (encM m).length = n) (hc : n ≤ c) (hcm : c ≤ maxLen) (hA : A = none → c = 0) (hh : Has w' w'.heap.size A (encM m)) : bO m w (.returned (.tuple #[.slice A n c, .int .i64 0])) w' := by
 refine ⟨hb, ?_⟩
 rw [eh h hl]
 subst hn
 exact ⟨A, c, rfl, hc, hcm, hA, hh⟩
theorem enc_ok (hc : ContOk) (hj : gM) : cX := by
 intro m v1 v2 v3 v4 v5 v6 v7 v8 v9 v10 w hM hF hT
 have HM := Y hM
 obtain ⟨A1, c1, rfl, _⟩ := hM.types
 obtain ⟨A2, c2, rfl, _⟩ := hM.imports
 obtain ⟨A3, c3, rfl, _⟩ := hM.funcs
 obtain ⟨A4, c4, rfl, _⟩ := hM.tables
 obtain ⟨A5, c5, rfl, _⟩ := hM.mems
 obtain ⟨A6, c6, rfl, _⟩ := hM.globals
 obtain ⟨A7, c7, rfl, _⟩ := hM.exports
 obtain ⟨A9, c9, rfl, _⟩ := hM.elems
 obtain ⟨A10, c10, rfl, _⟩ := hM.codes
 obtain ⟨A11, c11, rfl, _⟩ := hM.datas
 clear hM
 generalize hcs : modCells m (.slice A1 m.types.length c1) (.slice A2 m.imports.length c2) (.slice A3 m.funcs.length c3) (.slice A4 m.tables.length c4) (.slice A5 m.mems.length c5) (.slice A6 m.globals.length c6) (.slice A7 m.exports.length c7) (.slice A9 m.elems.length c9) (.slice A10 m.codes.length c10) (.slice A11 m.datas.length c11) = cs
 have HSC : Hid (∀ W, Below w.heap.size w W → W.heap[w.heap.size]? = some (.cells cs 33 (0, 0)) → Calls Tryz.prog 15 #[.pointer (some ⟨w.heap.size, 0, none⟩)] W (SecsPost m W)) := Y (fun W hb hx => by
  subst hcs
  exact fQ hc w.heap.size m _ _ _ _ _ _ _ _ _ _ W hx ((HM.out.on hb).more' (fun k hk => Nat.lt_of_lt_of_le hk hb.size)) hF (hT.on hb))
 unfold modCells at hcs
 generalize m.types.length = n1 at hcs
 generalize m.imports.length = n2 at hcs
 generalize m.funcs.length = n3 at hcs
 generalize m.tables.length = n4 at hcs
 generalize m.mems.length = n5 at hcs
 generalize m.globals.length = n6 at hcs
 generalize m.exports.length = n7 at hcs
 generalize m.elems.length = n9 at hcs
 generalize m.codes.length = n10 at hcs
 generalize m.datas.length = n11 at hcs
 generalize m.hasStart = hs at hcs
 generalize (m.start : Int) = st at hcs
 subst hcs
 have HX0 := Y (heap_alloc_new w (.cells #[.slice A1 n1 c1, .slice A2 n2 c2, .slice A3 n3 c3, .slice A4 n4 c4, .slice A5 n5 c5, .slice A6 n6 c6, .slice A7 n7 c7, .bool hs, .int .u32 st, .slice A9 n9 c9, .slice A10 n10 c10, .slice A11 n11 c11] 33))
 have HB0 : Hid (Below w.heap.size w (w.alloc (.cells #[.slice A1 n1 c1, .slice A2 n2 c2, .slice A3 n3 c3, .slice A4 n4 c4, .slice A5 n5 c5, .slice A6 n6 c6, .slice A7 n7 c7, .bool hs, .int .u32 st, .slice A9 n9 c9, .slice A10 n10 c10, .slice A11 n11 c11] 33))) := Y ((Below.refl _ _).alloc (Nat.le_refl _) _)
 have HC := Y (HSC.out _ HB0.out HX0.out)
 have HJ := Y hj
 clear HM HSC hF hT hj hc
 by_cases hok : okM m
 ·go_enter Tryz.func8, Tryz.ntmps8
  go_upto_region 1 with fail
  generalize w.alloc (.cells #[.slice A1 n1 c1, .slice A2 n2 c2, .slice A3 n3 c3, .slice A4 n4 c4, .slice A5 n5 c5, .slice A6 n6 c6, .slice A7 n7 c7, .bool hs, .int .u32 st, .slice A9 n9 c9, .slice A10 n10 c10, .slice A11 n11 c11] 33) = w0 at HX0 HB0 HC ⊢
  go_upto_region 4 with (go_at_call 15; refine HC.out.mono ?_; rintro e w1 ⟨hb, hyes, _⟩; obtain ⟨A, c, xs, rfl, hc1, hc2, hX, hR⟩ := hyes hok; have HB1 := Y (HB0.out.trans (hb.mono HB0.out.size)); have HXS := Y hX; have HR := Y hR; clear hb hyes hX hR)
  have hlen : (Sec.join xs).length ≤ 140737488355328 := by
   have h1 := HR.out.small
   have h2 := HR.out.len
   have h3 := fp m 11
   have h4 : (secsOf m).length ≤ 11 := h3
   have h5 : xs.length ≤ 11 := by omega
   have h6 : (Sec.encAll xs).length ≤ 65547 * 11 := Nat.le_trans h1 (Nat.mul_le_mul_left _ h5)
   simp only [Sec.join, List.length_append, Sec.begin8, List.length_cons, List.length_nil]
   omega
  have HJC := Y (HJ.out.yes (w := w1) HXS.out rfl hc1 hc2 hlen (by rw [HR.out.rises]; exact fT m))
  have HOK := Y hok
  clear HX0 HC HB0
  by_cases hl : 65536 < (Sec.join xs).length
  ·have HLL : Hid (65536 < (encM m).length) := Y (by
    rcases HR.out.joined with h | ⟨h, _⟩
    ·rw [h] at hl; exact hl
    ·exact h)
   have hli : (65536 : Int) < ((Sec.join xs).length : Int) := by omega
   have hd : decide (65536 < (Sec.join xs).length) = true := decide_eq_true hl
   clear hlen hc1 hc2 hok
   generalize (Sec.join xs).length = q at hl hli hd HJC
   generalize xs.length = nx at HJC ⊢
   go_wp2_with (go_at_call 16; refine HJC.out.mono ?_; rintro e w2 ⟨A', c', rfl, _, _, _, _, hb⟩; have HB2 := Y (HB1.out.trans (hb.mono HB1.out.size)); clear hb)
   go_ret2
   exact gY HOK.out HLL.out HB2.out
  ·have hxs : xs = secsOf m := by
    rcases HR.out.joined with h | ⟨_, h⟩
    ·exact h
    ·omega
   have HLL : Hid ((encM m).length ≤ 65536) := Y (by
    show (Sec.join (secsOf m)).length ≤ 65536
    rw [← hxs]; omega)
   have HXM : Hid (Sec.join xs = encM m) := Y (by rw [hxs]; rfl)
   have hli : ¬ (65536 : Int) < ((Sec.join xs).length : Int) := by omega
   have hd : decide (65536 < (Sec.join xs).length) = false := decide_eq_false hl
   have HQ : Hid ((encM m).length = (Sec.join xs).length) := Y (by rw [HXM.out])
   rw [HXM.out] at HJC
   clear hlen hc1 hc2 hok hxs
   generalize (Sec.join xs).length = q at hl hli hd HQ
   rw [HQ.out] at HJC
   generalize xs.length = nx at HJC ⊢
   go_wp2_with (go_at_call 16; refine HJC.out.mono ?_; rintro e w2 ⟨A', c', rfl, hq1, hq2, hq3, hh, hb⟩; have HB2 := Y (HB1.out.trans (hb.mono HB1.out.size)); have HH := Y hh; have HQ1 := Y hq1; have HQ2 := Y hq2; have HQ3 := Y hq3; clear hb hh hq1 hq2 hq3)
   go_ret2
   exact encPost_yes HOK.out HLL.out HB2.out HQ.out HQ1.out HQ2.out HQ3.out HH.out
 ·go_enter Tryz.func8, Tryz.ntmps8
  go_upto_region 1 with fail
  generalize w.alloc (.cells #[.slice A1 n1 c1, .slice A2 n2 c2, .slice A3 n3 c3, .slice A4 n4 c4, .slice A5 n5 c5, .slice A6 n6 c6, .slice A7 n7 c7, .bool hs, .int .u32 st, .slice A9 n9 c9, .slice A10 n10 c10, .slice A11 n11 c11] 33) = w0 at HX0 HB0 HC ⊢
  have HOK := Y hok
  go_wp2_with (go_at_call 15; refine HC.out.mono ?_; rintro e w1 ⟨hb, _, hno⟩; obtain rfl := hno HOK.out; have HB1 := Y (HB0.out.trans (hb.mono HB0.out.size)); clear hb hno)
  go_ret2
  exact encPost_no HOK.out HB1.out
end Go.Proofs.YtgnbkfkiigcdgaaGreatDoor
