/-
  Layer 7's module: the walk over its sections. (gen/enc/secs.py)
-/
import Derived.Test.YthkglmkpnhhboaaGreatDoorR01
import Derived.Test.YthkglmkpnhhboaaGreatDoorR32
import Derived.Deep.Cut
import Derived.Laws.EntriesVeiled
import Derived.Test.YthkglmkpnhhboaaGreatDoorR26
set_option maxRecDepth 100000
set_option maxHeartbeats 4000000
namespace Go.Proofs.YthkglmkpnhhboaaGreatDoor
open Go.RowKit Ins Bin
def ContOk : Prop := ∀ (B : Nat) (m : M) (v1 v2 v3 v4 v5 v6 v7 v8 v9 v10 : Value) (S : Nat → Prop) (w : World), w.heap[B]? = some (.cells (modCells m v1 v2 v3 v4 v5 v6 v7 v8 v9 v10) 33 (0, 0)) → RepM w S m v1 v2 v3 v4 v5 v6 v7 v8 v9 v10 →
 Calls Tryz.prog 30 #[.pointer (some ⟨B, 0, none⟩)] w fun e w' => e = .returned (.slice (some ⟨w.heap.size, 0, none⟩) 11 11) ∧ w'.heap[w.heap.size]? = some (.cells (cellsAt m B) 101 (0, 0)) ∧ Below w.heap.size w w'
def SecsPost (m : M) (w : World) (e : Ending) (w' : World) : Prop :=
 Below w.heap.size w w' ∧ (okM m → ∃ A c xs, e = .returned (.tuple #[.slice A xs.length c, .bool true]) ∧ xs.length ≤ c ∧ c ≤ maxLen ∧ HasS w' w'.heap.size A xs ∧ RelS (secsOf m) xs) ∧ (¬ okM m → e = .returned (.tuple #[.slice none 0 0, .bool false]))
theorem upto_len (m : M) (j : Nat) : (upto m j).length ≤ 11 := by
 unfold upto
 rw [List.length_map]
 refine Nat.le_trans (List.length_filter_le _ _) ?_
 rw [List.length_take]
 exact Nat.min_le_right _ _
theorem RepM.more' {w : World} {S S2 : Nat → Prop} {m : M} {v1 v2 v3 v4 v5 v6 v7 v8 v9 v10 : Value} (h : RepM w S m v1 v2 v3 v4 v5 v6 v7 v8 v9 v10) (hs : ∀ k, S k → S2 k) : RepM w S2 m v1 v2 v3 v4 v5 v6 v7 v8 v9 v10 :=
 ⟨h.types.more (fun k _ => hs k), h.imports.more (fun k _ => hs k), h.funcs.more (fun k _ => hs k), h.tables.more (fun k _ => hs k), h.mems.more (fun k _ => hs k), h.globals.more (fun k _ => hs k), h.exports.more (fun k _ => hs k), h.start, h.elems.more (fun k _ => hs k), h.codes.more (fun k _ => hs k), h.datas.more (fun k _ => hs k)⟩
theorem gO (hc : ContOk) (B : Nat) (m : M) (v1 v2 v3 v4 v5 v6 v7 v8 v9 v10 : Value) (w : World) (hm : w.heap[B]? = some (.cells (modCells m v1 v2 v3 v4 v5 v6 v7 v8 v9 v10) 33 (0, 0))) (hM : RepM w (· < w.heap.size) m v1 v2 v3 v4 v5 v6 v7 v8 v9 v10) (hF : FitM m) (hT : Tb w) :
  Calls Tryz.prog 15 #[.pointer (some ⟨B, 0, none⟩)] w (SecsPost m w) := by
 have h2 : 2 ≤ w.heap.size := hT.2
 have hst := hM.start
 obtain ⟨bad, hbad⟩ : ∃ bad : Bool, bad = (!decide (m.codes.length = m.funcs.length) || (!decide (m.start = 0) && !m.hasStart)) := ⟨_, rfl⟩
 have HOKM : Hid (okM m ↔ bad = false ∧ okTo m 11) := Y (by
  rw [okM_iff hst, hbad]
  by_cases q1 : m.codes.length = m.funcs.length <;> by_cases q2 : m.start = 0 <;> by_cases q3 : m.hasStart = true <;> simp [q1, q2, q3])
 have HMC := Y hm
 have HM := Y hM
 have HF := Y hF
 have HT := Y hT
 have HCO := Y (fun W (hb : Below w.heap.size w W) => hc B m v1 v2 v3 v4 v5 v6 v7 v8 v9 v10 _ W ((hb.block B (Array.getElem?_eq_some_iff.1 hm).1).trans hm) (hM.on hb))
 have HBW := Y (Array.getElem?_eq_some_iff.1 hm).1
 obtain ⟨A10, d10, hv10, _⟩ := hM.codes
 obtain ⟨A2, d2, hv2, _⟩ := hM.funcs
 have c10 : w.cell? ⟨B, 10, none⟩ = some (.slice A10 m.codes.length d10) := by rw [cell_of_row w B 10 _ _ (0, 0) hm, ← hv10]; rfl
 have c2 : w.cell? ⟨B, 2, none⟩ = some (.slice A2 m.funcs.length d2) := by rw [cell_of_row w B 2 _ _ (0, 0) hm, ← hv2]; rfl
 have c8 : w.cell? ⟨B, 8, none⟩ = some (.int .u32 (m.start : Int)) := by rw [cell_of_row w B 8 _ _ (0, 0) hm]; rfl
 have c7 : w.cell? ⟨B, 7, none⟩ = some (.bool m.hasStart) := by rw [cell_of_row w B 7 _ _ (0, 0) hm]; rfl
 have HBAD := Y hbad
 clear hbad hm hM hF hT hst hc hv10 hv2
 obtain ⟨n10, hn10⟩ : ∃ n, m.codes.length = n := ⟨_, rfl⟩
 obtain ⟨n2, hn2⟩ : ∃ n, m.funcs.length = n := ⟨_, rfl⟩
 obtain ⟨st, hst⟩ : ∃ n, m.start = n := ⟨_, rfl⟩
 obtain ⟨hs, hhs⟩ : ∃ n, m.hasStart = n := ⟨_, rfl⟩
 rw [hn10] at c10 HBAD
 rw [hn2] at c2 HBAD
 rw [hst] at c8 HBAD
 rw [hhs] at c7 HBAD
 clear hn10 hn2 hst hhs
 go_enter Tryz.func15, Tryz.ntmps15
 go_upto_region 1 with fail
 go_cut [32] from 8 (fun s wx => s = .bool bad ∧ Hid (Below w.heap.size w wx))
 case first =>
  have HBD : Hid (Below w.heap.size w w.drew) := Y (Below.drew (Below.refl _ _))
  clear HOKM HMC HM HF HT HCO
  by_cases h1 : n10 = n2
  ·subst h1
   by_cases h3 : st = 0
   ·subst h3
    obtain rfl : bad = false := by rw [HBAD.out]; simp
    clear HBAD
    refine wp_region_held_drew (S := (fun W => W.cell? ⟨B, 10, none⟩ = some (.slice A10 n10 d10) ∧ W.cell? ⟨B, 2, none⟩ = some (.slice A2 n10 d2) ∧ W.cell? ⟨B, 8, none⟩ = some (.int .u32 0) ∧ W.cell? ⟨B, 7, none⟩ = some (.bool hs))) (by kernel_rfl) (⟨c10, c2, c8, c7⟩) (fun hHeld => ?_)
    refine dv 0 rfl ?_
    refine dv 1 rfl ?_
    refine dv 2 rfl ?_
    refine dt 3 rfl (v := ?_) ?_ ?_
    rotate_left
    ·(intro wy hSw; obtain ⟨q0, q1, q2, q3⟩ := hSw; go_simp; try with_reducible rfl)
    simp only [Act.put, Z]
    refine dv 4 rfl ?_
    refine dv 5 rfl ?_
    refine dv 6 rfl ?_
    refine dv 7 rfl ?_
    refine dt 8 rfl (v := ?_) ?_ ?_
    rotate_left
    ·(intro wy hSw; obtain ⟨q0, q1, q2, q3⟩ := hSw; go_simp; try with_reducible rfl)
    simp only [Act.put, Z]
    refine dv 9 rfl ?_
    refine dv 10 rfl ?_
    refine dv 11 rfl ?_
    refine dv 12 rfl ?_
    refine dv 13 rfl ?_
    refine dv 14 rfl ?_
    refine dt 15 rfl (v := ?_) ?_ ?_
    rotate_left
    ·(intro wy hSw; obtain ⟨q0, q1, q2, q3⟩ := hSw; go_simp; try with_reducible rfl)
    simp only [Act.put, Z]
    refine dv 16 rfl ?_
    refine dv 17 rfl ?_
    refine ds 18 rfl ?_
    refine ds 19 rfl ?_
    refine ds 20 rfl ?_
    refine ds 21 rfl ?_
    refine ds 22 rfl ?_
    refine dv 23 rfl ?_
    refine dv 24 rfl ?_
    refine wpAnyH_done (by kernel_rfl) ?_ _
    go_wp2_with fail
    go_meet
    case rel => exact ⟨rfl, HBD⟩
   ·have h4 : ¬ ((st : Int) = 0) := by omega
    have h5 : ((st : Int) != 0) = true := by simp; omega
    cases hs
    ·obtain rfl : bad = true := by rw [HBAD.out]; simp [h3]
     clear HBAD
     refine wp_region_held_drew (S := (fun W => W.cell? ⟨B, 10, none⟩ = some (.slice A10 n10 d10) ∧ W.cell? ⟨B, 2, none⟩ = some (.slice A2 n10 d2) ∧ W.cell? ⟨B, 8, none⟩ = some (.int .u32 (st : Int)) ∧ W.cell? ⟨B, 7, none⟩ = some (.bool false))) (by kernel_rfl) (⟨c10, c2, c8, c7⟩) (fun hHeld => ?_)
     refine dv 0 rfl ?_
     refine dv 1 rfl ?_
     refine dv 2 rfl ?_
     refine dt 3 rfl (v := ?_) ?_ ?_
     rotate_left
     ·(intro wy hSw; obtain ⟨q0, q1, q2, q3⟩ := hSw; go_simp; try with_reducible rfl)
     simp only [Act.put, Z]
     refine dv 4 rfl ?_
     refine dv 5 rfl ?_
     refine dv 6 rfl ?_
     refine dv 7 rfl ?_
     refine dt 8 rfl (v := ?_) ?_ ?_
     rotate_left
     ·(intro wy hSw; obtain ⟨q0, q1, q2, q3⟩ := hSw; go_simp; try with_reducible rfl)
     simp only [Act.put, Z]
     refine dv 9 rfl ?_
     refine dv 10 rfl ?_
     refine dv 11 rfl ?_
     refine dv 12 rfl ?_
     refine dv 13 rfl ?_
     refine dv 14 rfl ?_
     refine dt 15 rfl (v := ?_) ?_ ?_
     rotate_left
     ·(intro wy hSw; obtain ⟨q0, q1, q2, q3⟩ := hSw; go_simp; try with_reducible rfl)
     simp only [Act.put, Z]
     refine dv 16 rfl ?_
     refine dv 17 rfl ?_
     refine dv 18 rfl ?_
     refine dv 19 rfl ?_
     refine dv 20 rfl ?_
     refine dt 21 rfl (v := ?_) ?_ ?_
     rotate_left
     ·(intro wy hSw; obtain ⟨q0, q1, q2, q3⟩ := hSw; go_simp; try with_reducible rfl)
     simp only [Act.put, Z]
     refine dv 22 rfl ?_
     refine dv 23 rfl ?_
     refine dv 24 rfl ?_
     refine wpAnyH_done (by kernel_rfl) ?_ _
     go_wp2_with fail
     go_meet
     case rel => exact ⟨rfl, HBD⟩
    ·obtain rfl : bad = false := by rw [HBAD.out]; simp
     clear HBAD
     refine wp_region_held_drew (S := (fun W => W.cell? ⟨B, 10, none⟩ = some (.slice A10 n10 d10) ∧ W.cell? ⟨B, 2, none⟩ = some (.slice A2 n10 d2) ∧ W.cell? ⟨B, 8, none⟩ = some (.int .u32 (st : Int)) ∧ W.cell? ⟨B, 7, none⟩ = some (.bool true))) (by kernel_rfl) (⟨c10, c2, c8, c7⟩) (fun hHeld => ?_)
     refine dv 0 rfl ?_
     refine dv 1 rfl ?_
     refine dv 2 rfl ?_
     refine dt 3 rfl (v := ?_) ?_ ?_
     rotate_left
     ·(intro wy hSw; obtain ⟨q0, q1, q2, q3⟩ := hSw; go_simp; try with_reducible rfl)
     simp only [Act.put, Z]
     refine dv 4 rfl ?_
     refine dv 5 rfl ?_
     refine dv 6 rfl ?_
     refine dv 7 rfl ?_
     refine dt 8 rfl (v := ?_) ?_ ?_
     rotate_left
     ·(intro wy hSw; obtain ⟨q0, q1, q2, q3⟩ := hSw; go_simp; try with_reducible rfl)
     simp only [Act.put, Z]
     refine dv 9 rfl ?_
     refine dv 10 rfl ?_
     refine dv 11 rfl ?_
     refine dv 12 rfl ?_
     refine dv 13 rfl ?_
     refine dv 14 rfl ?_
     refine dt 15 rfl (v := ?_) ?_ ?_
     rotate_left
     ·(intro wy hSw; obtain ⟨q0, q1, q2, q3⟩ := hSw; go_simp; try with_reducible rfl)
     simp only [Act.put, Z]
     refine dv 16 rfl ?_
     refine dv 17 rfl ?_
     refine dv 18 rfl ?_
     refine dv 19 rfl ?_
     refine dv 20 rfl ?_
     refine dt 21 rfl (v := ?_) ?_ ?_
     rotate_left
     ·(intro wy hSw; obtain ⟨q0, q1, q2, q3⟩ := hSw; go_simp; try with_reducible rfl)
     simp only [Act.put, Z]
     refine dv 22 rfl ?_
     refine dv 23 rfl ?_
     refine dv 24 rfl ?_
     refine wpAnyH_done (by kernel_rfl) ?_ _
     go_wp2_with fail
     go_meet
     case rel => exact ⟨rfl, HBD⟩
  ·have h4 : ¬ ((n10 : Int) = (n2 : Int)) := by omega
   have h5 : ((n10 : Int) != (n2 : Int)) = true := by simp; omega
   obtain rfl : bad = true := by rw [HBAD.out]; simp [h1]
   clear HBAD
   refine wp_region_held_drew (S := (fun W => W.cell? ⟨B, 10, none⟩ = some (.slice A10 n10 d10) ∧ W.cell? ⟨B, 2, none⟩ = some (.slice A2 n2 d2) ∧ W.cell? ⟨B, 8, none⟩ = some (.int .u32 (st : Int)) ∧ W.cell? ⟨B, 7, none⟩ = some (.bool hs))) (by kernel_rfl) (⟨c10, c2, c8, c7⟩) (fun hHeld => ?_)
   refine dv 0 rfl ?_
   refine dv 1 rfl ?_
   refine dv 2 rfl ?_
   refine dt 3 rfl (v := ?_) ?_ ?_
   rotate_left
   ·(intro wy hSw; obtain ⟨q0, q1, q2, q3⟩ := hSw; go_simp; try with_reducible rfl)
   simp only [Act.put, Z]
   refine dv 4 rfl ?_
   refine dv 5 rfl ?_
   refine dv 6 rfl ?_
   refine dv 7 rfl ?_
   refine dt 8 rfl (v := ?_) ?_ ?_
   rotate_left
   ·(intro wy hSw; obtain ⟨q0, q1, q2, q3⟩ := hSw; go_simp; try with_reducible rfl)
   simp only [Act.put, Z]
   refine dv 9 rfl ?_
   refine dv 10 rfl ?_
   refine dv 11 rfl ?_
   refine ds 12 rfl ?_
   refine ds 13 rfl ?_
   refine ds 14 rfl ?_
   refine ds 15 rfl ?_
   refine ds 16 rfl ?_
   refine ds 17 rfl ?_
   refine ds 18 rfl ?_
   refine ds 19 rfl ?_
   refine ds 20 rfl ?_
   refine ds 21 rfl ?_
   refine ds 22 rfl ?_
   refine ds 23 rfl ?_
   refine dv 24 rfl ?_
   refine wpAnyH_done (by kernel_rfl) ?_ _
   go_wp2_with fail
   go_meet
   case rel => exact ⟨rfl, HBD⟩
 case rest =>
  obtain ⟨rfl, HB⟩ := hcut
  clear c10 c2 c8 c7 HBAD
  cases bad
  ·have HOK0 : Hid (okM m ↔ okTo m 11) := Y (by rw [HOKM.out]; simp)
   go_upto_region 5 with (go_at_call 30; refine (HCO.out _ HB.out).mono ?_; rintro e w1 ⟨rfl, ht, hb⟩; have HTB := Y ht; have HB1 := Y (HB.out.trans (hb.mono HB.out.size)); have HLB := Y ((Array.getElem?_eq_some_iff.1 ht).1); clear ht hb)
   obtain ⟨Bc, hBc⟩ : ∃ Bc, wc.heap.size = Bc := ⟨_, rfl⟩
   rw [hBc] at HTB HLB ⊢
   clear hBc
   go_loopw [4, 36] (fun u i wr => ∃ (j : Nat) (xs : List Sec.S), j ≤ 11 ∧ i = .int .i64 (j : Int) ∧ Hid (OwnS wr 48 w1.heap.size u xs.length xs) ∧ Hid (RelS (upto m j) xs) ∧ Hid (okTo m j) ∧ Hid (Below w1.heap.size w1 wr)) (fun _ i _ => 11 - (intOf i).toNat)
   case atStart => exact ⟨0, [], by omega, rfl, Y (OwnS.nil _ _ _), Y trivial, Y (fun i hi => by cases hi), Y (Below.refl _ _)⟩
   case round =>
    obtain ⟨j, xs, hj, rfl, HO, HR, HK, HBR⟩ := hrel
    have HBX := Y (HB1.out.trans (HBR.out.mono HB1.out.size))
    by_cases hj11 : j < 11
    ·obtain ⟨q, f, e1, e2, e3, hcf, e4⟩ := cont_at m B v1 v2 v3 v4 v5 v6 v7 v8 v9 v10 j hj11
     have ht := (HBR.out.block Bc HLB.out).trans HTB.out
     have z0 : wr.cell? ⟨Bc, j * 2, none⟩ = some (.bool q) := by rw [cell_of_row wr Bc (j * 2) _ _ (0, 0) ht]; exact e1
     have z1 : wr.cell? ⟨Bc, j * 2 + 1, none⟩ = some (.func (.func f) #[.pointer (some ⟨B, 0, none⟩)] #[]) := by rw [cell_of_row wr Bc (j * 2 + 1) _ _ (0, 0) ht]; exact e2
     have HE4 := Y e4
     have hji : (j : Int) < 11 := by omega
     have HQV := Y e3
     clear e1 e2 e3 e4 ht
     have HWA : Hid (Below wr.heap.size wr (wr.alloc (.cells #[.bool q, .func (.func f) #[.pointer (some ⟨B, 0, none⟩)] #[]] 101))) := Y ((Below.refl _ _).alloc (Nat.le_refl _) _)
     cases q with
     | false =>
      have hno : ¬ 0 < cnt m (j + 1) := by
       have := HQV.out
       intro h
       rw [decide_eq_true h] at this
       cases this
      have HU : Hid (upto m (j + 1) = upto m j) := Y (upto_no hj11 hno)
      have HKS : Hid (okTo m (j + 1)) := Y ((eR hj11).2 ⟨HK.out, fun h => absurd h hno⟩)
      have HO2 := Y (HO.out.on HWA.out)
      have HB2 := Y (HBR.out.trans (HWA.out.mono HBR.out.size))
      clear hno
      go_wp2_with fail
      go_roundw
      case rel => exact ⟨j + 1, xs, by omega, by go_num, HO2, Y (by rw [HU.out]; exact HR.out), HKS, HB2⟩
      case measure => simp [intOf]; omega
     | true =>
      have hyes : 0 < cnt m (j + 1) := of_decide_eq_true HQV.out.symm
      have HU : Hid (upto m (j + 1) = upto m j ++ [⟨j + 1, body m (j + 1)⟩]) := Y (upto_yes hj11 hyes)
      have HYES := Y hyes
      clear hyes
      go_upto_region 8 with fail
      have HSA : Hid ((wr.alloc (.cells #[.bool true, .func (.func f) #[.pointer (some ⟨B, 0, none⟩)] #[]] 101)).heap.size = wr.heap.size + 1) := Y (by simp)
      have HFC : Hid ((wr.alloc (.cells #[.bool true, .func (.func f) #[.pointer (some ⟨B, 0, none⟩)] #[]] 101)).heap[wr.heap.size]? = some (.cells #[.bool true, .func (.func f) #[.pointer (some ⟨B, 0, none⟩)] #[]] 101 (0, 0))) := Y (heap_alloc_new wr _)
      generalize wr.alloc (.cells #[.bool true, .func (.func f) #[.pointer (some ⟨B, 0, none⟩)] #[]] 101) = wa at HWA HSA HFC ⊢
      go_upto_region 9 with fail
      have h2 : 2 ≤ wa.heap.size := Nat.le_trans h2 (Nat.le_trans HBX.out.size HWA.out.size)
      have HWS := Y (iD (w := wa) h2)
      have HWB : Hid (Below wa.heap.size wa (wa.alloc (.cells #[.slice none 0 0, .bool false] 104))) := Y ((Below.refl _ _).alloc (Nat.le_refl _) _)
      generalize wa.alloc (.cells #[.slice none 0 0, .bool false] 104) = wb at HWS HWB ⊢
      have HLR : Hid (wr.heap.size < wa.heap.size) := Y (by have := HSA.out; omega)
      have zf : wb.cell? ⟨wr.heap.size, 1, none⟩ = some (.func (.func f) #[.pointer (some ⟨B, 0, none⟩)] #[]) := by rw [cell_of_row wb _ 1 _ _ (0, 0) ((HWB.out.block wr.heap.size HLR.out).trans HFC.out)]; rfl
      obtain ⟨R, hR⟩ : ∃ R, wa.heap.size = R := ⟨_, rfl⟩
      have HAB := Y (HWA.out.trans (HWB.out.mono HWA.out.size))
      have HBB := Y (HBX.out.trans (HAB.out.mono HBX.out.size))
      rw [hR] at HWS HLR ⊢
      have HQ := Y (HE4.out R _ _ wb HWS.out ((HBB.out.block B HBW.out).trans HMC.out) ((HM.out.mod (T := fun _ => False) (Mod.of_below HBB.out) (fun _ _ _ h => h)).more' (fun k hk => by have := HBX.out.size; have := HLR.out; omega)) HF.out (HT.out.on HBB.out))
      clear z0 z1 hR HSA HFC HWB
      by_cases hok : okB m (j + 1)
      ·have e0 : adv (some []) (okB m (j + 1)) (body m (j + 1)) = some (body m (j + 1)) := by rw [bx hok]; rfl
       rw [e0] at HQ
       have HKS : Hid (okTo m (j + 1)) := Y ((eR hj11).2 ⟨HK.out, fun _ => hok⟩)
       have hw8 : IntKind.u8.wrap ((j : Int) + 1) = (j : Int) + 1 := IntWalk.u8_in _ ⟨by omega, by omega⟩
       clear e0 hok
       have tok1 : True := trivial
       go_wp2_with (first | (clear tok1; refine HQ.out.mono ?_; rintro e w2 ⟨rfl, vb, hs, hmm⟩; obtain ⟨bs, q1, q2, q3, q4, q5⟩ := hs; obtain ⟨A3, c3, rfl, hx, hnc, hcm, hca, hh⟩ := bR q2; clear hx; have k0 : w2.cell? ⟨R, 0, none⟩ = some (.slice A3 bs.length c3) := (by rw [cell_of_row w2 _ 0 _ _ (0, 0) q1]; rfl); have k1 : w2.cell? ⟨R, 1, none⟩ = some (.bool false) := (by rw [cell_of_row w2 _ 1 _ _ (0, 0) q1]; rfl); have HB2 : Hid (Below wr.heap.size wr w2) := Y (HAB.out.trans ((hmm.low HWS.out).below HAB.out.size (fun k hk e => by have := HLR.out; omega))); have HSAT := Y (q5 _ rfl); obtain ⟨vx, wx, hrun, ho2, hm2, ht2⟩ := append1s (P := Tryz.prog) 48 44 (by kernel_rfl) (by kernel_rfl) w2 w1.heap.size xs.length u4 xs ⟨j + 1, bs⟩ A3 c3 (HO.out.on HB2.out) (by have := HO.out; have := HR.out.len; have := upto_len m j; omega) (Nat.le_trans HBR.out.size HB2.out.size) ⟨by show j + 1 < 256; omega, hnc, hcm, hca, hh⟩ (fun ad had hne e => by have h1 := aw q2 ad.block (by rw [had]; rfl); have h3 := (fC HO.out _ e).2; have := HLR.out; omega); have HRUN : Hid ((Builtin.append_ #[44, 44] 44 #[u4, .slice (some ⟨w2.heap.size, 0, none⟩) 1 1]).run Tryz.prog (w2.alloc (.cells #[.int .u8 ((j : Int) + 1), .slice A3 bs.length c3] 48)) = .ok vx wx) := Y hrun; have HO3 := Y ho2; have HB3 : Hid (Below w1.heap.size w1 wx) := Y ((HBR.out.trans (HB2.out.mono HBR.out.size)).trans (hm2.below (Nat.le_trans HBR.out.size HB2.out.size) (fun k hk e => by have := (fC HO.out _ e).1; omega))); clear q1 q2 q3 q4 q5 hnc hcm hca hh hmm hrun ho2 hm2 ht2; generalize bs.length = nb at k0 HRUN) | (at_builtin; refine aa rfl (.tmp 54) (.tmp 63) 44 rfl _ _ _ wx rfl rfl HRUN.out ?_))
       go_roundw
       case rel => exact ⟨j + 1, xs ++ [⟨j + 1, bs⟩], by omega, by go_num, Y (by rw [List.length_append]; exact HO3.out), Y (by rw [HU.out]; exact HR.out.app rfl HSAT.out), HKS, HB3⟩
       case measure => simp [intOf]; omega
      ·have e0 : adv (some []) (okB m (j + 1)) (body m (j + 1)) = none := bM hok
       rw [e0] at HQ
       have HNO : Hid (¬ okM m) := Y (fun h => hok (((eR hj11).1 (okTo_le (HOK0.out.1 h) hj11)).2 HYES.out))
       clear e0 hok
       have tok1 : True := trivial
       go_wp2_with (first | (clear tok1; refine HQ.out.mono ?_; rintro e w2 ⟨rfl, vb, hs, hmm⟩; obtain ⟨bs, q1, q2, q3, q4, q5⟩ := hs; have k1 : w2.cell? ⟨R, 1, none⟩ = some (.bool true) := (by rw [cell_of_row w2 _ 1 _ _ (0, 0) q1]; rfl); have HB2 : Hid (Below wr.heap.size wr w2) := Y (HAB.out.trans ((hmm.low HWS.out).below HAB.out.size (fun k hk e => by have := HLR.out; omega))); clear q1 q2 q3 q4 q5 hmm))
       go_ret2
       exact ⟨HBX.out.trans (HB2.out.mono HBX.out.size), fun h => absurd h HNO.out, fun _ => rfl⟩
    ·obtain rfl : j = 11 := by omega
     obtain ⟨A, c, hu, hc1, hc2, hhs⟩ := HO.out.tell
     subst hu
     have HH := Y hhs
     clear hhs
     have HYM : Hid (okM m) := Y (HOK0.out.2 HK.out)
     have HXX : Hid (∀ A' c', Value.slice A xs.length c = .slice A' xs.length c' → True) := Y (fun _ _ _ => trivial)
     generalize hn : xs.length = n at HXX ⊢
     have HN := Y hn
     clear hn
     go_wp2_with fail
     go_ret2
     refine ⟨HBX.out, fun _ => ⟨A, c, xs, by rw [HN.out]; rfl, hc1, hc2, HH.out, HR.out⟩, fun h => absurd HYM.out h⟩
  ·go_wp2_with fail
   go_ret2
   refine ⟨HB.out, fun h => ?_, fun _ => rfl⟩
   have := (HOKM.out.1 h).1
   cases this
end Go.Proofs.YthkglmkpnhhboaaGreatDoor
namespace Bin
open Ins Sec Leb
theorem RelS.small : ∀ {a b : List S}, RelS a b → (Sec.encAll b).length ≤ 65547 * b.length
 | [], [], _ => by simp [Sec.encAll]
 | s :: a, t :: b, h => by
  have ih := RelS.small h.2
  have ht : t.b.length ≤ 65536 := by
   rcases h.1.2 with ⟨h1, h2⟩ | ⟨_, h2⟩
   ·rw [h2]; exact h1
   ·omega
  have := encU_le10 t.b.length (by omega)
  simp only [Sec.encAll, List.flatMap_cons, Sec.enc, List.length_append, List.length_cons] at ih ⊢
  omega
 | [], _ :: _, h => h.elim
 | _ :: _, [], h => h.elim
theorem RelS.joined {a b : List S} (h : RelS a b) : b = a ∨ 65536 < (Sec.join a).length ∧ 65536 < (Sec.join b).length := by
 rcases h.join with h | ⟨h1, h2⟩
 ·exact .inl h
 ·refine .inr ⟨?_, ?_⟩ <;> (simp only [Sec.join, List.length_append]; omega)
end Bin
namespace Go.Proofs.YthkglmkpnhhboaaGreatDoor
open Go.RowKit Ins Bin
def bU (m : M) (w : World) (e : Ending) (w' : World) : Prop :=
 Below w.heap.size w w' ∧ match encode m with
  | .error k => e = .returned (.tuple #[.slice none 0 0, .int .i64 (k : Int)])
  | .ok b => ∃ A c, e = .returned (.tuple #[.slice A b.length c, .int .i64 0]) ∧ b.length ≤ c ∧ c ≤ maxLen ∧ (A = none → c = 0) ∧ Has w' w'.heap.size A b
def du : Prop := ∀ (m : M) (v1 v2 v3 v4 v5 v6 v7 v8 v9 v10 : Value) (w : World), RepM w (· < w.heap.size) m v1 v2 v3 v4 v5 v6 v7 v8 v9 v10 → FitM m → Tb w → Calls Tryz.prog 8 #[.agg (modCells m v1 v2 v3 v4 v5 v6 v7 v8 v9 v10)] w (bU m w)
theorem encPost_no {m : M} {w w' : World} (h : ¬ okM m) (hb : Below w.heap.size w w') : bU m w (.returned (.tuple #[.slice none 0 0, .int .i64 2])) w' := by
 refine ⟨hb, ?_⟩
 unfold encode
 rw [if_neg h]
 rfl
theorem iJ {m : M} {w w' : World} (h : okM m) (hl : 65536 < (encM m).length) (hb : Below w.heap.size w w') : bU m w (.returned (.tuple #[.slice none 0 0, .int .i64 3])) w' := by
 refine ⟨hb, ?_⟩
 unfold encode
 rw [if_pos h, if_pos hl]
 rfl
theorem encPost_yes {m : M} {w w' : World} {A : Option Addr} {n c : Nat} (h : okM m) (hl : (encM m).length ≤ 65536) (hb : Below w.heap.size w w') (hn : (encM m).length = n) (hc : n ≤ c) (hcm : c ≤ maxLen) (hA : A = none → c = 0) (hh : Has w' w'.heap.size A (encM m)) : bU m w (.returned (.tuple #[.slice A n c, .int .i64 0])) w' := by
 refine ⟨hb, ?_⟩
 rw [cM h hl]
 subst hn
 exact ⟨A, c, rfl, hc, hcm, hA, hh⟩
theorem enc_ok (hc : ContOk) (hj : iC) : du := by
 intro m v1 v2 v3 v4 v5 v6 v7 v8 v9 v10 w hM hF hT
 have HM := Y hM
 obtain ⟨A1, c1, rfl, _⟩ := hM.types
 obtain ⟨A2, c2, rfl, _⟩ := hM.imports
 obtain ⟨A3, c3, rfl, _⟩ := hM.funcs
 obtain ⟨A4, c4, rfl, _⟩ := hM.tables
 obtain ⟨A5, c5, rfl, _⟩ := hM.mems
 obtain ⟨A6, c6, rfl, _⟩ := hM.globals
 obtain ⟨A7, c7, rfl, _⟩ := hM.exports
 obtain ⟨A9, c9, rfl, _⟩ := hM.elems
 obtain ⟨A10, c10, rfl, _⟩ := hM.codes
 obtain ⟨A11, c11, rfl, _⟩ := hM.datas
 clear hM
 generalize hcs : modCells m (.slice A1 m.types.length c1) (.slice A2 m.imports.length c2) (.slice A3 m.funcs.length c3) (.slice A4 m.tables.length c4) (.slice A5 m.mems.length c5) (.slice A6 m.globals.length c6) (.slice A7 m.exports.length c7) (.slice A9 m.elems.length c9) (.slice A10 m.codes.length c10) (.slice A11 m.datas.length c11) = cs
 have HSC : Hid (∀ W, Below w.heap.size w W → W.heap[w.heap.size]? = some (.cells cs 33 (0, 0)) → Calls Tryz.prog 15 #[.pointer (some ⟨w.heap.size, 0, none⟩)] W (SecsPost m W)) := Y (fun W hb hx => by
  subst hcs
  exact gO hc w.heap.size m _ _ _ _ _ _ _ _ _ _ W hx ((HM.out.on hb).more' (fun k hk => Nat.lt_of_lt_of_le hk hb.size)) hF (hT.on hb))
 unfold modCells at hcs
 generalize m.types.length = n1 at hcs
 generalize m.imports.length = n2 at hcs
 generalize m.funcs.length = n3 at hcs
 generalize m.tables.length = n4 at hcs
 generalize m.mems.length = n5 at hcs
 generalize m.globals.length = n6 at hcs
 generalize m.exports.length = n7 at hcs
 generalize m.elems.length = n9 at hcs
 generalize m.codes.length = n10 at hcs
 generalize m.datas.length = n11 at hcs
 generalize m.hasStart = hs at hcs
 generalize (m.start : Int) = st at hcs
 subst hcs
 have HX0 := Y (heap_alloc_new w (.cells #[.slice A1 n1 c1, .slice A2 n2 c2, .slice A3 n3 c3, .slice A4 n4 c4, .slice A5 n5 c5, .slice A6 n6 c6, .slice A7 n7 c7, .bool hs, .int .u32 st, .slice A9 n9 c9, .slice A10 n10 c10, .slice A11 n11 c11] 33))
 have HB0 : Hid (Below w.heap.size w (w.alloc (.cells #[.slice A1 n1 c1, .slice A2 n2 c2, .slice A3 n3 c3, .slice A4 n4 c4, .slice A5 n5 c5, .slice A6 n6 c6, .slice A7 n7 c7, .bool hs, .int .u32 st, .slice A9 n9 c9, .slice A10 n10 c10, .slice A11 n11 c11] 33))) := Y ((Below.refl _ _).alloc (Nat.le_refl _) _)
 have HC := Y (HSC.out _ HB0.out HX0.out)
 have HJ := Y hj
 clear HM HSC hF hT hj hc
 by_cases hok : okM m
 ·go_enter Tryz.func8, Tryz.ntmps8
  go_upto_region 1 with fail
  generalize w.alloc (.cells #[.slice A1 n1 c1, .slice A2 n2 c2, .slice A3 n3 c3, .slice A4 n4 c4, .slice A5 n5 c5, .slice A6 n6 c6, .slice A7 n7 c7, .bool hs, .int .u32 st, .slice A9 n9 c9, .slice A10 n10 c10, .slice A11 n11 c11] 33) = w0 at HX0 HB0 HC ⊢
  go_upto_region 4 with (go_at_call 15; refine HC.out.mono ?_; rintro e w1 ⟨hb, hyes, _⟩; obtain ⟨A, c, xs, rfl, hc1, hc2, hX, hR⟩ := hyes hok; have HB1 := Y (HB0.out.trans (hb.mono HB0.out.size)); have HXS := Y hX; have HR := Y hR; clear hb hyes hX hR)
  have hlen : (Sec.join xs).length ≤ 140737488355328 := by
   have h1 := HR.out.small
   have h2 := HR.out.len
   have h3 := upto_len m 11
   have h4 : (secsOf m).length ≤ 11 := h3
   have h5 : xs.length ≤ 11 := by omega
   have h6 : (Sec.encAll xs).length ≤ 65547 * 11 := Nat.le_trans h1 (Nat.mul_le_mul_left _ h5)
   simp only [Sec.join, List.length_append, Sec.begin8, List.length_cons, List.length_nil]
   omega
  have HJC := Y (HJ.out.yes (w := w1) HXS.out rfl hc1 hc2 hlen (by rw [HR.out.rises]; exact gV m))
  have HOK := Y hok
  clear HX0 HC HB0
  by_cases hl : 65536 < (Sec.join xs).length
  ·have HLL : Hid (65536 < (encM m).length) := Y (by
    rcases HR.out.joined with h | ⟨h, _⟩
    ·rw [h] at hl; exact hl
    ·exact h)
   have hli : (65536 : Int) < ((Sec.join xs).length : Int) := by omega
   have hd : decide (65536 < (Sec.join xs).length) = true := decide_eq_true hl
   clear hlen hc1 hc2 hok
   generalize (Sec.join xs).length = q at hl hli hd HJC
   generalize xs.length = nx at HJC ⊢
   go_wp2_with (go_at_call 16; refine HJC.out.mono ?_; rintro e w2 ⟨A', c', rfl, _, _, _, _, hb⟩; have HB2 := Y (HB1.out.trans (hb.mono HB1.out.size)); clear hb)
   go_ret2
   exact iJ HOK.out HLL.out HB2.out
  ·have hxs : xs = secsOf m := by
    rcases HR.out.joined with h | ⟨_, h⟩
    ·exact h
    ·omega
   have HLL : Hid ((encM m).length ≤ 65536) := Y (by
    show (Sec.join (secsOf m)).length ≤ 65536
    rw [← hxs]; omega)
   have HXM : Hid (Sec.join xs = encM m) := Y (by rw [hxs]; rfl)
   have hli : ¬ (65536 : Int) < ((Sec.join xs).length : Int) := by omega
   have hd : decide (65536 < (Sec.join xs).length) = false := decide_eq_false hl
   have HQ : Hid ((encM m).length = (Sec.join xs).length) := Y (by rw [HXM.out])
   rw [HXM.out] at HJC
   clear hlen hc1 hc2 hok hxs
   generalize (Sec.join xs).length = q at hl hli hd HQ
   rw [HQ.out] at HJC
   generalize xs.length = nx at HJC ⊢
   go_wp2_with (go_at_call 16; refine HJC.out.mono ?_; rintro e w2 ⟨A', c', rfl, hq1, hq2, hq3, hh, hb⟩; have HB2 := Y (HB1.out.trans (hb.mono HB1.out.size)); have HH := Y hh; have HQ1 := Y hq1; have HQ2 := Y hq2; have HQ3 := Y hq3; clear hb hh hq1 hq2 hq3)
   go_ret2
   exact encPost_yes HOK.out HLL.out HB2.out HQ.out HQ1.out HQ2.out HQ3.out HH.out
 ·go_enter Tryz.func8, Tryz.ntmps8
  go_upto_region 1 with fail
  generalize w.alloc (.cells #[.slice A1 n1 c1, .slice A2 n2 c2, .slice A3 n3 c3, .slice A4 n4 c4, .slice A5 n5 c5, .slice A6 n6 c6, .slice A7 n7 c7, .bool hs, .int .u32 st, .slice A9 n9 c9, .slice A10 n10 c10, .slice A11 n11 c11] 33) = w0 at HX0 HB0 HC ⊢
  have HOK := Y hok
  go_wp2_with (go_at_call 15; refine HC.out.mono ?_; rintro e w1 ⟨hb, _, hno⟩; obtain rfl := hno HOK.out; have HB1 := Y (HB0.out.trans (hb.mono HB0.out.size)); clear hb hno)
  go_ret2
  exact encPost_no HOK.out HB1.out
theorem fF {w : World} {o : Obj} {k : Nat} (h : k = w.heap.size) : (w.alloc o).heap[k]? = some o := by subst h; exact heap_alloc_new w o
theorem hasL_one {α : Type} [Lay α] {W : World} {S : Nat → Prop} {g : Nat} {x : α} {cs : Array Value} {t : TypeId} (h : W.heap[g]? = some (.cells cs t (0, 0))) (hg : S g) (hr : Lay.rep W S x cs.toList) : HasL W S (some ⟨g, 0, none⟩) [x] := fun k y hy => by
 cases k with
 | succ k => simp at hy
 | zero =>
  simp at hy
  subst hy
  refine ⟨g, 0, cs.toList, rfl, hg, (Array.getElem?_eq_some_iff.1 h).1, hr, fun j u hj => ?_⟩
  rw [cell_of_row W g _ _ _ (0, 0) h]
  simpa using hj
theorem bT {α : Type} [Lay α] {W : World} {S : Nat → Prop} {g : Nat} {x : α} {cs : Array Value} {t : TypeId} (h : W.heap[g]? = some (.cells cs t (0, 0))) (hg : S g) (hr : Lay.rep W S x cs.toList) : J W S [x] (.slice (some ⟨g, 0, none⟩) 1 1) := ⟨_, 1, rfl, Nat.le_refl _, by unfold maxLen; omega, by simp, hasL_one h hg hr⟩
def k1 : M := ⟨[⟨[], []⟩], [], [0], [], [], [], [], false, 0, [], [⟨[], []⟩], []⟩
def k2 : M := ⟨[], [], [0], [], [], [], [], false, 0, [], [], []⟩
def k3 : M := ⟨[], [⟨[], [], 4, 0, ⟨0, 0⟩, ⟨0, false⟩⟩], [], [], [], [], [], false, 0, [], [], []⟩
def k4 : M := ⟨[], [], [], [], [], [⟨⟨124, false⟩, []⟩], [], false, 0, [], [], []⟩
def l16 : List UInt8 := [1, 4, 1, 96, 0, 0, 3, 2, 1, 0, 10, 4, 1, 2, 0, 11]
theorem k0_enc : encode M.zero = .ok Sec.begin8 := cM ⟨gf, rfl⟩ (by decide)
theorem k1_ok : okM k1 where
 types x hx := by simp [k1] at hx; subst hx; exact ⟨nofun, nofun⟩
 imports := nofun
 funcs x hx := by simp [k1] at hx; subst hx; show (0 : Nat) < 4294967296; omega
 tables := nofun
 mems := nofun
 globals := nofun
 exports := nofun
 start := ⟨by show (0 : Nat) < 4294967296; omega, fun _ => rfl⟩
 elems := nofun
 codes x hx := by simp [k1] at hx; subst hx; exact ⟨nofun, by show (0 : Nat) < 4294967296; omega, ⟨rfl, nofun, rfl⟩⟩
 datas := nofun
 many := rfl
theorem k1_bytes : encM k1 = Sec.begin8 ++ l16 := by
 have e : ∀ n, n < 128 → Leb.encU n = [UInt8.ofNat n] := fun n h => Leb.encU_small h
 have b1 : body k1 1 = [1, 96, 0, 0] := by
  show encList encFT [⟨[], []⟩] = _
  simp [encList, encFT, encVals, e]
 have b3 : body k1 3 = [1, 0] := by
  show encList Leb.encU [0] = _
  simp [encList, e]
 have b10 : body k1 10 = [1, 2, 0, 11] := by
  show encList encCd [⟨[], []⟩] = _
  simp [encList, encCd, cdB, exprEnc, Ins.encAll, e]
 have ho : own k1 = [1, 3, 10] := by decide
 unfold encM secsOf
 rw [ho]
 simp [Sec.join, Sec.encAll, Sec.enc, b1, b3, b10, e, l16]
theorem k1_enc : encode k1 = .ok (Sec.begin8 ++ l16) := by
 rw [← k1_bytes]
 exact cM k1_ok (by rw [k1_bytes]; decide)
theorem k2_enc : encode k2 = .error 2 := by
 unfold encode
 rw [if_neg (fun h => absurd h.many (by decide))]
theorem k3_enc : encode k3 = .error 2 := by
 unfold encode
 refine if_neg (fun h => ?_)
 obtain ⟨_, _, h⟩ := h.imports _ (by simp [k3] : (⟨[], [], 4, 0, ⟨0, 0⟩, ⟨0, false⟩⟩ : Imp) ∈ k3.imports)
 rcases h with ⟨h, _⟩ | ⟨h, _⟩ | ⟨h, _⟩ | ⟨h, _⟩ <;> exact absurd h (by decide)
theorem k4_enc : encode k4 = .error 2 := by
 unfold encode
 refine if_neg (fun h => ?_)
 obtain ⟨h, _⟩ := h.globals _ (by simp [k4] : (⟨⟨124, false⟩, []⟩ : GV) ∈ k4.globals)
 exact absurd h (by show ¬ whole1 124 = true; decide)
theorem aG {a b : World} (h : Below a.heap.size a b) {k : Nat} {o : Obj} (hk : a.heap[k]? = some o) : b.heap[k]? = some o := (h.block k (Array.getElem?_eq_some_iff.1 hk).1).trans hk
theorem four_new (w : World) (a b c d : List Value) (ta tb tc td : TypeId) : ∃ wq, (((w.alloc (.cells a.toArray ta)).alloc (.cells b.toArray tb)).alloc (.cells c.toArray tc)).alloc (.cells d.toArray td) = wq ∧ Below w.heap.size w wq ∧ wq.heap[w.heap.size]? = some (.cells a.toArray ta (0, 0)) ∧ wq.heap[w.heap.size + 1]? = some (.cells b.toArray tb (0, 0)) ∧ wq.heap[w.heap.size + 2]? = some (.cells c.toArray tc (0, 0)) ∧ wq.heap[w.heap.size + 3]? = some (.cells d.toArray td (0, 0)) := by
 have h0 := heap_alloc_new w (.cells a.toArray ta)
 have b0 : Below w.heap.size w (w.alloc (.cells a.toArray ta)) := (Below.refl _ _).alloc (Nat.le_refl _) _
 have s0 : (w.alloc (.cells a.toArray ta)).heap.size = w.heap.size + 1 := by simp
 generalize w.alloc (.cells a.toArray ta) = w1 at h0 b0 s0 ⊢
 have h1 := heap_alloc_new w1 (.cells b.toArray tb)
 have c1 : Below w1.heap.size w1 (w1.alloc (.cells b.toArray tb)) := (Below.refl _ _).alloc (Nat.le_refl _) _
 have s1 : (w1.alloc (.cells b.toArray tb)).heap.size = w1.heap.size + 1 := by simp
 generalize w1.alloc (.cells b.toArray tb) = w2 at h1 c1 s1 ⊢
 have h2 := heap_alloc_new w2 (.cells c.toArray tc)
 have c2 : Below w2.heap.size w2 (w2.alloc (.cells c.toArray tc)) := (Below.refl _ _).alloc (Nat.le_refl _) _
 have s2 : (w2.alloc (.cells c.toArray tc)).heap.size = w2.heap.size + 1 := by simp
 generalize w2.alloc (.cells c.toArray tc) = w3 at h2 c2 s2 ⊢
 have h3 := heap_alloc_new w3 (.cells d.toArray td)
 have c3 : Below w3.heap.size w3 (w3.alloc (.cells d.toArray td)) := (Below.refl _ _).alloc (Nat.le_refl _) _
 generalize w3.alloc (.cells d.toArray td) = w4 at h3 c3 ⊢
 have e1 : w1.heap.size = w.heap.size + 1 := s0
 have e2 : w2.heap.size = w.heap.size + 2 := by omega
 have e3 : w3.heap.size = w.heap.size + 3 := by omega
 rw [e1] at h1
 rw [e2] at h2
 rw [e3] at h3
 refine ⟨w4, rfl, b0.trans ((c1.trans ((c2.trans (c3.mono (by omega))).mono (by omega))).mono (by omega)), ?_, ?_, ?_, h3⟩
 ·exact aG c3 (aG c2 (aG c1 h0))
 ·exact aG c3 (aG c2 h1)
 ·exact aG c3 h2
theorem fit_nil : Fit [] := ⟨by simp [tot], nofun⟩
theorem dB {m : M} {w w' : World} {e : Ending} (h : bU m w e w') (he : encode m = .error 2) : e = .returned (.tuple #[.slice none 0 0, .int .i64 2]) ∧ Below w.heap.size w w' := by
 obtain ⟨hb, h⟩ := h
 rw [he] at h
 exact ⟨h, hb⟩
theorem bK {m : M} {w w' : World} {e : Ending} {b : List UInt8} (h : bU m w e w') (he : encode m = .ok b) : ∃ A c, e = .returned (.tuple #[.slice A b.length c, .int .i64 0]) ∧ b.length ≤ c ∧ c ≤ maxLen ∧ (A = none → c = 0) ∧ Has w' w'.heap.size A b ∧ Below w.heap.size w w' := by
 obtain ⟨hb, h⟩ := h
 rw [he] at h
 obtain ⟨A, c, h1, h2, h3, h4, h5⟩ := h
 exact ⟨A, c, h1, h2, h3, h4, h5, hb⟩
theorem k0_call (he : du) (W : World) (hT : Tb W) :
  Calls Tryz.prog 8 #[.agg #[.slice none 0 0, .slice none 0 0, .slice none 0 0, .slice none 0 0, .slice none 0 0, .slice none 0 0, .slice none 0 0, .bool false, .int .u32 0, .slice none 0 0, .slice none 0 0, .slice none 0 0]] W fun e w' => ∃ A c, e = .returned (.tuple #[.slice A 8 c, .int .i64 0]) ∧ Has w' w'.heap.size A (Sec.begin8) ∧ Below W.heap.size W w' := by
 refine (he M.zero (.slice none 0 0) (.slice none 0 0) (.slice none 0 0) (.slice none 0 0) (.slice none 0 0) (.slice none 0 0) (.slice none 0 0) (.slice none 0 0) (.slice none 0 0) (.slice none 0 0) W ⟨J.nil _ _, J.nil _ _, J.nil _ _, J.nil _ _, J.nil _ _, J.nil _ _, J.nil _ _, (by show (0 : Nat) < 4294967296; omega), J.nil _ _, J.nil _ _, J.nil _ _⟩ { imports := nofun, globals := nofun, exports := nofun, elems := nofun, codes := nofun, datas := nofun } hT).mono ?_
 intro e w' h
 obtain ⟨A, c, h1, _, _, _, h5, h6⟩ := bK h k0_enc
 exact ⟨A, c, h1, h5, h6⟩
theorem k1_call (he : du) (g1 g2 g3 : Nat) (W : World) (hT : Tb W) (h1 : W.heap[g1]? = some (.cells #[.slice none 0 0, .slice none 0 0] 50 (0, 0))) (h2 : W.heap[g2]? = some (.cells #[.int .u32 0] 28 (0, 0))) (h3 : W.heap[g3]? = some (.cells #[.slice none 0 0, .slice none 0 0] 54 (0, 0))) :
  Calls Tryz.prog 8 #[.agg #[.slice (some ⟨g1, 0, none⟩) 1 1, .slice none 0 0, .slice (some ⟨g2, 0, none⟩) 1 1, .slice none 0 0, .slice none 0 0, .slice none 0 0, .slice none 0 0, .bool false, .int .u32 0, .slice none 0 0, .slice (some ⟨g3, 0, none⟩) 1 1, .slice none 0 0]] W fun e w' => ∃ A c, e = .returned (.tuple #[.slice A 24 c, .int .i64 0]) ∧ Has w' w'.heap.size A (Sec.begin8 ++ l16) ∧ Below W.heap.size W w' := by
 refine (he k1 (.slice (some ⟨g1, 0, none⟩) 1 1) (.slice none 0 0) (.slice (some ⟨g2, 0, none⟩) 1 1) (.slice none 0 0) (.slice none 0 0) (.slice none 0 0) (.slice none 0 0) (.slice none 0 0) (.slice (some ⟨g3, 0, none⟩) 1 1) (.slice none 0 0) W ⟨bT h1 (Array.getElem?_eq_some_iff.1 h1).1 ⟨_, _, rfl, J.nil _ _, J.nil _ _⟩, J.nil _ _, bT h2 (Array.getElem?_eq_some_iff.1 h2).1 ⟨rfl, by decide⟩, J.nil _ _, J.nil _ _, J.nil _ _, J.nil _ _, (by show (0 : Nat) < 4294967296; omega), J.nil _ _, bT h3 (Array.getElem?_eq_some_iff.1 h3).1 ⟨_, _, rfl, J.nil _ _, J.nil _ _⟩, J.nil _ _⟩ { imports := nofun, globals := nofun, exports := nofun, elems := nofun, codes := fun x hx => by simp [k1] at hx; subst hx; exact ⟨by simp, fit_nil⟩, datas := nofun } hT).mono ?_
 intro e w' h
 obtain ⟨A, c, h1, _, _, _, h5, h6⟩ := bK h k1_enc
 exact ⟨A, c, h1, h5, h6⟩
theorem k2_call (he : du) (g : Nat) (W : World) (hT : Tb W) (h1 : W.heap[g]? = some (.cells #[.int .u32 0] 28 (0, 0))) :
  Calls Tryz.prog 8 #[.agg #[.slice none 0 0, .slice none 0 0, .slice (some ⟨g, 0, none⟩) 1 1, .slice none 0 0, .slice none 0 0, .slice none 0 0, .slice none 0 0, .bool false, .int .u32 0, .slice none 0 0, .slice none 0 0, .slice none 0 0]] W fun e w' => e = .returned (.tuple #[.slice none 0 0, .int .i64 2]) ∧ Below W.heap.size W w' := by
 refine (he k2 (.slice none 0 0) (.slice none 0 0) (.slice (some ⟨g, 0, none⟩) 1 1) (.slice none 0 0) (.slice none 0 0) (.slice none 0 0) (.slice none 0 0) (.slice none 0 0) (.slice none 0 0) (.slice none 0 0) W ⟨J.nil _ _, J.nil _ _, bT h1 (Array.getElem?_eq_some_iff.1 h1).1 ⟨rfl, by decide⟩, J.nil _ _, J.nil _ _, J.nil _ _, J.nil _ _, (by show (0 : Nat) < 4294967296; omega), J.nil _ _, J.nil _ _, J.nil _ _⟩ { imports := nofun, globals := nofun, exports := nofun, elems := nofun, codes := nofun, datas := nofun } hT).mono ?_
 intro e w' h
 exact dB h k2_enc
theorem k3_call (he : du) (g : Nat) (W : World) (hT : Tb W) (h1 : W.heap[g]? = some (.cells #[.string ⟨#[]⟩, .string ⟨#[]⟩, .int .u8 4, .int .u32 0, .int .u32 0, .int .i64 0, .int .u8 0, .bool false] 61 (0, 0))) :
  Calls Tryz.prog 8 #[.agg #[.slice none 0 0, .slice (some ⟨g, 0, none⟩) 1 1, .slice none 0 0, .slice none 0 0, .slice none 0 0, .slice none 0 0, .slice none 0 0, .bool false, .int .u32 0, .slice none 0 0, .slice none 0 0, .slice none 0 0]] W fun e w' => e = .returned (.tuple #[.slice none 0 0, .int .i64 2]) ∧ Below W.heap.size W w' := by
 refine (he k3 (.slice none 0 0) (.slice (some ⟨g, 0, none⟩) 1 1) (.slice none 0 0) (.slice none 0 0) (.slice none 0 0) (.slice none 0 0) (.slice none 0 0) (.slice none 0 0) (.slice none 0 0) (.slice none 0 0) W ⟨J.nil _ _, bT h1 (Array.getElem?_eq_some_iff.1 h1).1 ⟨rfl, by decide, by show (0 : Nat) < 4294967296 ∧ (-9223372036854775808 : Int) ≤ 0 ∧ (0 : Int) ≤ 9223372036854775807; omega⟩, J.nil _ _, J.nil _ _, J.nil _ _, J.nil _ _, J.nil _ _, (by show (0 : Nat) < 4294967296; omega), J.nil _ _, J.nil _ _, J.nil _ _⟩ { imports := fun x hx => by simp [k3] at hx; subst hx; exact ⟨by simp, by simp⟩, globals := nofun, exports := nofun, elems := nofun, codes := nofun, datas := nofun } hT).mono ?_
 intro e w' h
 exact dB h k3_enc
theorem k4_call (he : du) (g : Nat) (W : World) (hT : Tb W) (h1 : W.heap[g]? = some (.cells #[.int .u8 124, .bool false, .slice none 0 0] 63 (0, 0))) :
  Calls Tryz.prog 8 #[.agg #[.slice none 0 0, .slice none 0 0, .slice none 0 0, .slice none 0 0, .slice none 0 0, .slice (some ⟨g, 0, none⟩) 1 1, .slice none 0 0, .bool false, .int .u32 0, .slice none 0 0, .slice none 0 0, .slice none 0 0]] W fun e w' => e = .returned (.tuple #[.slice none 0 0, .int .i64 2]) ∧ Below W.heap.size W w' := by
 refine (he k4 (.slice none 0 0) (.slice none 0 0) (.slice none 0 0) (.slice none 0 0) (.slice none 0 0) (.slice (some ⟨g, 0, none⟩) 1 1) (.slice none 0 0) (.slice none 0 0) (.slice none 0 0) (.slice none 0 0) W ⟨J.nil _ _, J.nil _ _, J.nil _ _, J.nil _ _, J.nil _ _, bT h1 (Array.getElem?_eq_some_iff.1 h1).1 ⟨_, rfl, J.nil _ _⟩, J.nil _ _, (by show (0 : Nat) < 4294967296; omega), J.nil _ _, J.nil _ _, J.nil _ _⟩ { imports := nofun, globals := fun x hx => by simp [k4] at hx; subst hx; exact fit_nil, exports := nofun, elems := nofun, codes := nofun, datas := nofun } hT).mono ?_
 intro e w' h
 exact dB h k4_enc
theorem known7 (he : du) (w : World) (hT : Tb w) : Calls Tryz.prog 6 #[] w fun e w' => e = .returned (.bool true) ∧ Below w.heap.size w w' := by
 have HE := Y he
 have HT := Y hT
 clear he hT
 go_enter Tryz.func6, Tryz.ntmps6
 go_upto_region 2 with (go_at_call 8; refine (k0_call HE.out _ HT.out).mono ?_; rintro e w1 ⟨A1, c1, rfl, hh, hb⟩; have HH1 := Y hh; have HB1 := Y hb; clear hh hb)
 have HB3 : Hid (Below w1.heap.size w1 (((w1.alloc (.cells #[.slice none 0 0, .slice none 0 0] 50)).alloc (.cells #[.int .u32 0] 28)).alloc (.cells #[.slice none 0 0, .slice none 0 0] 54))) := Y ((((Below.refl _ _).alloc (Nat.le_refl _) _).alloc (by simp) _).alloc (by simp; omega) _)
 have HC3 := Y (k1_call HE.out w1.heap.size (w1.heap.size + 1) (w1.heap.size + 2) (((w1.alloc (.cells #[.slice none 0 0, .slice none 0 0] 50)).alloc (.cells #[.int .u32 0] 28)).alloc (.cells #[.slice none 0 0, .slice none 0 0] 54)) (HT.out.on (HB1.out.trans (HB3.out.mono HB1.out.size))) ((Below.heap_alloc _ _ _ (by simp; omega)).trans ((Below.heap_alloc _ _ _ (by simp)).trans (fF (by simp)))) ((Below.heap_alloc _ _ _ (by simp)).trans (fF (by simp))) (fF (by simp)))
 go_upto_region 3 with (go_at_call 8; refine HC3.out.mono ?_; rintro e w2 ⟨A2, c2, rfl, hh, hb⟩; have HB2 := Y (HB3.out.trans (hb.mono HB3.out.size)); have HH2 := Y hh; clear hh hb)
 clear HC3 HB3
 obtain ⟨W0, hW0⟩ : ∃ W0 : ByteArray, W0 = ⟨Sec.begin8.toArray⟩ := ⟨_, rfl⟩
 obtain ⟨V0, hV0⟩ : ∃ V0 : ByteArray, V0 = ⟨(Sec.begin8 ++ l16).toArray⟩ := ⟨_, rfl⟩
 have hadd : W0 ++ ⟨#[1, 4, 1, 96, 0, 0, 3, 2, 1, 0, 10, 4, 1, 2, 0, 11]⟩ = V0 := by rw [hW0, hV0]; rfl
 have hws : ¬ (9223372036854775807 < W0.size + 16) := by rw [hW0]; decide
 have HWW := Y hW0
 have HVV := Y hV0
 clear hW0 hV0
 have HB02 := Y (HB1.out.trans (HB2.out.mono HB1.out.size))
 go_upto_region 4 with (go_at_call 13; refine (begin_any _).mono ?_; rintro e w3 ⟨v3, rfl, ho3, hb3⟩; obtain ⟨A3, c3, (rfl : v3 = .slice A3 8 c3), _, _, _, _, hh3⟩ := bR ho3; have HB3 := Y (HB02.out.trans (hb3.mono HB02.out.size)); have cv1 := bw hh3 (show 8 = Sec.begin8.length from rfl) c3; have cv2 := bw ((HH1.out.on HB2.out).on hb3) (show 8 = Sec.begin8.length from rfl) c1; have cv3 := bw (HH2.out.on hb3) (show 24 = (Sec.begin8 ++ l16).length from rfl) c2; rw [← HWW.out] at cv1 cv2; rw [← HVV.out] at cv3; clear ho3 hb3 hh3)
 clear HH1 HH2 HB1 HB2 HB02
 go_upto_region 6 with fail
 clear hadd hws cv1 cv2 cv3 HWW HVV
 go_upto_region 7 with fail
 obtain ⟨wq, hwq, hbq, n0, n1, n2, n3⟩ := four_new w3 [.int .u32 0] [.string ⟨#[]⟩, .string ⟨#[]⟩, .int .u8 4, .int .u32 0, .int .u32 0, .int .i64 0, .int .u8 0, .bool false] [.int .u8 124, .bool false, .slice none 0 0] [.slice none 0 0, .slice none 0 0, .slice (some ⟨w3.heap.size, 0, none⟩) 1 1, .slice none 0 0, .slice none 0 0, .slice none 0 0, .slice none 0 0, .bool false, .int .u32 0, .slice none 0 0, .slice none 0 0, .slice none 0 0, .slice none 0 0, .slice (some ⟨(w3.heap.size + 1), 0, none⟩) 1 1, .slice none 0 0, .slice none 0 0, .slice none 0 0, .slice none 0 0, .slice none 0 0, .bool false, .int .u32 0, .slice none 0 0, .slice none 0 0, .slice none 0 0, .slice none 0 0, .slice none 0 0, .slice none 0 0, .slice none 0 0, .slice none 0 0, .slice (some ⟨(w3.heap.size + 2), 0, none⟩) 1 1, .slice none 0 0, .bool false, .int .u32 0, .slice none 0 0, .slice none 0 0, .slice none 0 0] 28 61 63 33
 have HQ1 := Y n0
 have HQ2 := Y n1
 have HQ3 := Y n2
 have HQ4 := Y n3
 have HBQ := Y (HB3.out.trans (hbq.mono HB3.out.size))
 rw [hwq]
 clear n0 n1 n2 n3 hbq hwq
 obtain ⟨Q, hQ⟩ : ∃ Q, w3.heap.size = Q := ⟨_, rfl⟩
 rw [hQ] at HQ1 HQ2 HQ3 HQ4 ⊢
 clear hQ
 go_loopw [57] (fun i wr => ∃ j : Nat, j ≤ 3 ∧ i = .int .i64 (j : Int) ∧ Hid (Below wq.heap.size wq wr)) (fun i _ => 3 - (intOf i).toNat)
 case atStart => exact ⟨0, by omega, rfl, Y (Below.refl _ _)⟩
 case round =>
  obtain ⟨j, hj, rfl, HB⟩ := hrel
  have HBX := Y (HBQ.out.trans (HB.out.mono HBQ.out.size))
  have h36 := aG HB.out HQ4.out
  by_cases hj3 : j < 3
  ·have hc : j = 0 ∨ j = 1 ∨ j = 2 := by omega
   rcases hc with rfl | rfl | rfl
   ·have z0 : wr.cell? ⟨Q + 3, 0, none⟩ = some (.slice none 0 0) := by rw [cell_of_row wr _ 0 _ _ (0, 0) h36]; rfl
    have z1 : wr.cell? ⟨Q + 3, 1, none⟩ = some (.slice none 0 0) := by rw [cell_of_row wr _ 1 _ _ (0, 0) h36]; rfl
    have z2 : wr.cell? ⟨Q + 3, 2, none⟩ = some (.slice (some ⟨Q, 0, none⟩) 1 1) := by rw [cell_of_row wr _ 2 _ _ (0, 0) h36]; rfl
    have z3 : wr.cell? ⟨Q + 3, 3, none⟩ = some (.slice none 0 0) := by rw [cell_of_row wr _ 3 _ _ (0, 0) h36]; rfl
    have z4 : wr.cell? ⟨Q + 3, 4, none⟩ = some (.slice none 0 0) := by rw [cell_of_row wr _ 4 _ _ (0, 0) h36]; rfl
    have z5 : wr.cell? ⟨Q + 3, 5, none⟩ = some (.slice none 0 0) := by rw [cell_of_row wr _ 5 _ _ (0, 0) h36]; rfl
    have z6 : wr.cell? ⟨Q + 3, 6, none⟩ = some (.slice none 0 0) := by rw [cell_of_row wr _ 6 _ _ (0, 0) h36]; rfl
    have z7 : wr.cell? ⟨Q + 3, 7, none⟩ = some (.bool false) := by rw [cell_of_row wr _ 7 _ _ (0, 0) h36]; rfl
    have z8 : wr.cell? ⟨Q + 3, 8, none⟩ = some (.int .u32 0) := by rw [cell_of_row wr _ 8 _ _ (0, 0) h36]; rfl
    have z9 : wr.cell? ⟨Q + 3, 9, none⟩ = some (.slice none 0 0) := by rw [cell_of_row wr _ 9 _ _ (0, 0) h36]; rfl
    have z10 : wr.cell? ⟨Q + 3, 10, none⟩ = some (.slice none 0 0) := by rw [cell_of_row wr _ 10 _ _ (0, 0) h36]; rfl
    have z11 : wr.cell? ⟨Q + 3, 11, none⟩ = some (.slice none 0 0) := by rw [cell_of_row wr _ 11 _ _ (0, 0) h36]; rfl
    have HBA : Hid (Below wr.heap.size wr (wr.alloc (.cells #[.slice none 0 0, .slice none 0 0, .slice (some ⟨Q, 0, none⟩) 1 1, .slice none 0 0, .slice none 0 0, .slice none 0 0, .slice none 0 0, .bool false, .int .u32 0, .slice none 0 0, .slice none 0 0, .slice none 0 0] 33))) := Y ((Below.refl _ _).alloc (Nat.le_refl _) _)
    have HC := Y (k2_call HE.out Q (wr.alloc (.cells #[.slice none 0 0, .slice none 0 0, .slice (some ⟨Q, 0, none⟩) 1 1, .slice none 0 0, .slice none 0 0, .slice none 0 0, .slice none 0 0, .bool false, .int .u32 0, .slice none 0 0, .slice none 0 0, .slice none 0 0] 33)) (HT.out.on (HBX.out.trans (HBA.out.mono HBX.out.size))) (aG HBA.out (aG HB.out HQ1.out)))
    clear h36 hj3
    go_wp2_with (go_at_call 8; refine HC.out.mono ?_; rintro e w5 ⟨rfl, hb⟩; have HB5 := Y (HB.out.trans ((HBA.out.trans (hb.mono HBA.out.size)).mono HB.out.size)); clear hb)
    go_roundw
    case rel => exact ⟨1, by omega, by go_num, HB5⟩
    case measure => simp [intOf]
   ·have z0 : wr.cell? ⟨Q + 3, 12, none⟩ = some (.slice none 0 0) := by rw [cell_of_row wr _ 12 _ _ (0, 0) h36]; rfl
    have z1 : wr.cell? ⟨Q + 3, 13, none⟩ = some (.slice (some ⟨(Q + 1), 0, none⟩) 1 1) := by rw [cell_of_row wr _ 13 _ _ (0, 0) h36]; rfl
    have z2 : wr.cell? ⟨Q + 3, 14, none⟩ = some (.slice none 0 0) := by rw [cell_of_row wr _ 14 _ _ (0, 0) h36]; rfl
    have z3 : wr.cell? ⟨Q + 3, 15, none⟩ = some (.slice none 0 0) := by rw [cell_of_row wr _ 15 _ _ (0, 0) h36]; rfl
    have z4 : wr.cell? ⟨Q + 3, 16, none⟩ = some (.slice none 0 0) := by rw [cell_of_row wr _ 16 _ _ (0, 0) h36]; rfl
    have z5 : wr.cell? ⟨Q + 3, 17, none⟩ = some (.slice none 0 0) := by rw [cell_of_row wr _ 17 _ _ (0, 0) h36]; rfl
    have z6 : wr.cell? ⟨Q + 3, 18, none⟩ = some (.slice none 0 0) := by rw [cell_of_row wr _ 18 _ _ (0, 0) h36]; rfl
    have z7 : wr.cell? ⟨Q + 3, 19, none⟩ = some (.bool false) := by rw [cell_of_row wr _ 19 _ _ (0, 0) h36]; rfl
    have z8 : wr.cell? ⟨Q + 3, 20, none⟩ = some (.int .u32 0) := by rw [cell_of_row wr _ 20 _ _ (0, 0) h36]; rfl
    have z9 : wr.cell? ⟨Q + 3, 21, none⟩ = some (.slice none 0 0) := by rw [cell_of_row wr _ 21 _ _ (0, 0) h36]; rfl
    have z10 : wr.cell? ⟨Q + 3, 22, none⟩ = some (.slice none 0 0) := by rw [cell_of_row wr _ 22 _ _ (0, 0) h36]; rfl
    have z11 : wr.cell? ⟨Q + 3, 23, none⟩ = some (.slice none 0 0) := by rw [cell_of_row wr _ 23 _ _ (0, 0) h36]; rfl
    have HBA : Hid (Below wr.heap.size wr (wr.alloc (.cells #[.slice none 0 0, .slice (some ⟨(Q + 1), 0, none⟩) 1 1, .slice none 0 0, .slice none 0 0, .slice none 0 0, .slice none 0 0, .slice none 0 0, .bool false, .int .u32 0, .slice none 0 0, .slice none 0 0, .slice none 0 0] 33))) := Y ((Below.refl _ _).alloc (Nat.le_refl _) _)
    have HC := Y (k3_call HE.out (Q + 1) (wr.alloc (.cells #[.slice none 0 0, .slice (some ⟨(Q + 1), 0, none⟩) 1 1, .slice none 0 0, .slice none 0 0, .slice none 0 0, .slice none 0 0, .slice none 0 0, .bool false, .int .u32 0, .slice none 0 0, .slice none 0 0, .slice none 0 0] 33)) (HT.out.on (HBX.out.trans (HBA.out.mono HBX.out.size))) (aG HBA.out (aG HB.out HQ2.out)))
    clear h36 hj3
    go_wp2_with (go_at_call 8; refine HC.out.mono ?_; rintro e w5 ⟨rfl, hb⟩; have HB5 := Y (HB.out.trans ((HBA.out.trans (hb.mono HBA.out.size)).mono HB.out.size)); clear hb)
    go_roundw
    case rel => exact ⟨2, by omega, by go_num, HB5⟩
    case measure => simp [intOf]
   ·have z0 : wr.cell? ⟨Q + 3, 24, none⟩ = some (.slice none 0 0) := by rw [cell_of_row wr _ 24 _ _ (0, 0) h36]; rfl
    have z1 : wr.cell? ⟨Q + 3, 25, none⟩ = some (.slice none 0 0) := by rw [cell_of_row wr _ 25 _ _ (0, 0) h36]; rfl
    have z2 : wr.cell? ⟨Q + 3, 26, none⟩ = some (.slice none 0 0) := by rw [cell_of_row wr _ 26 _ _ (0, 0) h36]; rfl
    have z3 : wr.cell? ⟨Q + 3, 27, none⟩ = some (.slice none 0 0) := by rw [cell_of_row wr _ 27 _ _ (0, 0) h36]; rfl
    have z4 : wr.cell? ⟨Q + 3, 28, none⟩ = some (.slice none 0 0) := by rw [cell_of_row wr _ 28 _ _ (0, 0) h36]; rfl
    have z5 : wr.cell? ⟨Q + 3, 29, none⟩ = some (.slice (some ⟨(Q + 2), 0, none⟩) 1 1) := by rw [cell_of_row wr _ 29 _ _ (0, 0) h36]; rfl
    have z6 : wr.cell? ⟨Q + 3, 30, none⟩ = some (.slice none 0 0) := by rw [cell_of_row wr _ 30 _ _ (0, 0) h36]; rfl
    have z7 : wr.cell? ⟨Q + 3, 31, none⟩ = some (.bool false) := by rw [cell_of_row wr _ 31 _ _ (0, 0) h36]; rfl
    have z8 : wr.cell? ⟨Q + 3, 32, none⟩ = some (.int .u32 0) := by rw [cell_of_row wr _ 32 _ _ (0, 0) h36]; rfl
    have z9 : wr.cell? ⟨Q + 3, 33, none⟩ = some (.slice none 0 0) := by rw [cell_of_row wr _ 33 _ _ (0, 0) h36]; rfl
    have z10 : wr.cell? ⟨Q + 3, 34, none⟩ = some (.slice none 0 0) := by rw [cell_of_row wr _ 34 _ _ (0, 0) h36]; rfl
    have z11 : wr.cell? ⟨Q + 3, 35, none⟩ = some (.slice none 0 0) := by rw [cell_of_row wr _ 35 _ _ (0, 0) h36]; rfl
    have HBA : Hid (Below wr.heap.size wr (wr.alloc (.cells #[.slice none 0 0, .slice none 0 0, .slice none 0 0, .slice none 0 0, .slice none 0 0, .slice (some ⟨(Q + 2), 0, none⟩) 1 1, .slice none 0 0, .bool false, .int .u32 0, .slice none 0 0, .slice none 0 0, .slice none 0 0] 33))) := Y ((Below.refl _ _).alloc (Nat.le_refl _) _)
    have HC := Y (k4_call HE.out (Q + 2) (wr.alloc (.cells #[.slice none 0 0, .slice none 0 0, .slice none 0 0, .slice none 0 0, .slice none 0 0, .slice (some ⟨(Q + 2), 0, none⟩) 1 1, .slice none 0 0, .bool false, .int .u32 0, .slice none 0 0, .slice none 0 0, .slice none 0 0] 33)) (HT.out.on (HBX.out.trans (HBA.out.mono HBX.out.size))) (aG HBA.out (aG HB.out HQ3.out)))
    clear h36 hj3
    go_wp2_with (go_at_call 8; refine HC.out.mono ?_; rintro e w5 ⟨rfl, hb⟩; have HB5 := Y (HB.out.trans ((HBA.out.trans (hb.mono HBA.out.size)).mono HB.out.size)); clear hb)
    go_roundw
    case rel => exact ⟨3, by omega, by go_num, HB5⟩
    case measure => simp [intOf]
  ·obtain rfl : j = 3 := by omega
   clear h36
   go_wp2_with fail
   go_ret
   exact ⟨rfl, HBX.out⟩
end Go.Proofs.YthkglmkpnhhboaaGreatDoor
