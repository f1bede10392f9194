/-
  Layer 11's program: what a constant expression gives; whether one is constant. (gen/valid/give.py)
-/
import Derived.Test.YtelcdmkbaegjoaaGreatLq01
import Derived.Test.YtelcdmkbaegjoaaGreatLq39
import Derived.Test.YtelcdmkbaegjoaaGreatLq38
set_option maxRecDepth 100000
set_option maxHeartbeats 4000000
namespace Go.Proofs.YtelcdmkbaegjoaaGreat
open Go.RowKit Ins Bin Sp
section
variable {w : World} {P sp mp : Nat} {m : M} {v1 v2 v3 v4 v5 v6 v7 v8 v9 v10 hv : Value}
theorem vgives_any (h : VIn w P sp mp m v1 v2 v3 v4 v5 v6 v7 v8 v9 v10 hv) (op a b : Nat) (c : Int) (A4 : Option Addr) (l4 c4 : Nat) (ha : a < 4294967296) :
  Calls Tryz.prog 95 #[.pointer (some ⟨P, 0, none⟩), .agg #[.int .u8 (op : Int), .int .u32 (a : Int), .int .u32 (b : Int), .int .i64 c, .slice A4 l4 c4]] w fun e w' => e = .returned (.tuple #[.int .u8 ((Va.giveE m op a).1.toNat : Int), .int .i64 ((Va.giveE m op a).2 : Int)]) ∧ Below w.heap.size w w' := by
 have HX0 := J (heap_alloc_new w (.cells #[.int .u8 (op : Int), .int .u32 (a : Int), .int .u32 (b : Int), .int .i64 c, .slice A4 l4 c4] 57))
 have HB0 : Hid (Below w.heap.size w (w.alloc (.cells #[.int .u8 (op : Int), .int .u32 (a : Int), .int .u32 (b : Int), .int .i64 c, .slice A4 l4 c4] 57))) := J ((Below.refl _ _).alloc (Nat.le_refl _) _)
 have H12 : Hid (∀ W, Below w.heap.size w W → W.cell? ⟨P, 12, none⟩ = some (.pointer (some ⟨sp, 0, none⟩))) := J (fun W hb => cell15 (h.grow hb).cells 12 _ rfl)
 have HFN := J (fun W (hb : Below w.heap.size w W) => bT (some ⟨sp, 0, none⟩) m a W (h.grow hb).recv (Lots.some h.fit.lots) ha)
 have HIM := J (fun W (hb : Below w.heap.size w W) => cm (some ⟨sp, 0, none⟩) m 3 (by decide) W (h.grow hb).recv (Lots.some h.fit.lots))
 have hn3 : (imps m 3).length ≤ 1050000 := Nat.le_trans (cb m 3) h.fit.lots.imports
 rw [show imported m 3 = (imps m 3).length from aQ (by decide)] at HIM
 clear h
 obtain ⟨n3, hl3⟩ : ∃ n, (imps m 3).length = n := ⟨_, rfl⟩
 rw [hl3] at HIM hn3
 have hw1 : IntKind.u64.wrap (a : Int) = (a : Int) := IntWalk.u64_in _ (by omega)
 have hw2 : IntKind.u64.wrap (n3 : Int) = (n3 : Int) := IntWalk.u64_in _ (by omega)
 by_cases h65 : op = 65
 ·subst h65
  rw [show Va.giveE m 65 a = (127, 0) from by unfold Va.giveE; simp]
  clear hl3
  go_enter Tryz.func95, Tryz.ntmps95
  go_wp2_with fail
  go_ret2
  exact ⟨rfl, HB0.out⟩
 by_cases h66 : op = 66
 ·subst h66
  rw [show Va.giveE m 66 a = (126, 0) from by unfold Va.giveE; simp]
  clear hl3 h65
  go_enter Tryz.func95, Tryz.ntmps95
  go_wp2_with fail
  go_ret2
  exact ⟨rfl, HB0.out⟩
 have e65 : ((op : Int) == 65) = false := by rw [beq_eq_false_iff_ne]; omega
 have e66 : ((op : Int) == 66) = false := by rw [beq_eq_false_iff_ne]; omega
 by_cases h35 : op = 35
 ·have e35 : ((op : Int) == 35) = true := by rw [beq_iff_eq]; omega
  have H35 := J h35
  clear h65 h66 h35
  obtain ⟨G, hG⟩ : ∃ G, ((globs m)[a]?).getD ⟨0, false⟩ = G := ⟨_, rfl⟩
  obtain ⟨gb, hgb⟩ : ∃ b, ((globs m)[a]?).isSome = b := ⟨_, rfl⟩
  unfold bz at HFN
  rw [hG, hgb] at HFN
  clear hgb
  have HRES : Hid (n3 ≤ a → Va.giveE m op a = (0, 80)) := J (fun h => by
   unfold Va.giveE
   rw [if_pos H35.out, List.getElem?_eq_none (by omega)])
  have HRES2 : Hid (a < n3 → G.mu = true → Va.giveE m op a = (0, 110)) := J (fun h hm => by
   obtain ⟨g, hg⟩ : ∃ g, (imps m 3)[a]? = some g := ⟨_, List.getElem?_eq_getElem (by omega)⟩
   rw [Va.glob_imp hg] at hG
   obtain rfl : g.glob = G := hG
   unfold Va.giveE
   rw [if_pos H35.out, hg]
   simp [hm])
  have HRES3 : Hid (a < n3 → G.mu = false → Va.giveE m op a = (G.t, 0)) := J (fun h hm => by
   obtain ⟨g, hg⟩ : ∃ g, (imps m 3)[a]? = some g := ⟨_, List.getElem?_eq_getElem (by omega)⟩
   rw [Va.glob_imp hg] at hG
   obtain rfl : g.glob = G := hG
   unfold Va.giveE
   rw [if_pos H35.out, hg]
   simp [hm])
  clear hG hl3
  obtain ⟨G1, gm⟩ := G
  obtain ⟨gt, hgt⟩ : ∃ t, G1.toNat = t := ⟨_, rfl⟩
  unfold globArr at HFN
  dsimp only at HFN HRES2 HRES3
  rw [hgt] at HFN
  have HGT := J hgt
  clear hgt
  by_cases hlt : a < n3
  ·have hd : decide ((n3 : Int) ≤ (a : Int)) = false := decide_eq_false (by omega)
   have hd2 : decide (n3 ≤ a) = false := decide_eq_false (by omega)
   cases gm with
   | true =>
    have HR := J (HRES2.out hlt rfl)
    clear HRES HRES2 HRES3 hlt
    go_enter Tryz.func95, Tryz.ntmps95
    go_upto_region 1 with fail
    generalize (w.alloc (.cells #[.int .u8 (op : Int), .int .u32 (a : Int), .int .u32 (b : Int), .int .i64 c, .slice A4 l4 c4] 57)) = w0 at HX0 HB0 ⊢
    obtain ⟨X, hX⟩ : ∃ X, w.heap.size = X := ⟨_, rfl⟩
    rw [hX] at HX0
    have hXl : X < w0.heap.size := (Array.getElem?_eq_some_iff.1 HX0.out).1
    simp only [hX]
    obtain ⟨z0, z1, z2, z3, z4⟩ := cells5 HX0.out
    have HCC := J (fun W (hb : Below w0.heap.size w0 W) => And.intro (cells5 ((hb.block X hXl).trans HX0.out)) (H12.out W (HB0.out.trans (hb.mono HB0.out.size))))
    have HFN0 := J (fun W (hb : Below w0.heap.size w0 W) => HFN.out W (HB0.out.trans (hb.mono HB0.out.size)))
    have HIM0 := J (fun W (hb : Below w0.heap.size w0 W) => HIM.out W (HB0.out.trans (hb.mono HB0.out.size)))
    clear HFN HIM hXl
    have HFN := HFN0
    clear HFN0 hX
    go_upto_region 7 with fail
    clear z0 z1 z2 z3 z4
    refine wp_region_held_drew (S := fun W' => Below w0.heap.size w0 W') (by kernel_rfl) (Below.drew (Below.refl _ _)) (fun hHeld => ?_)
    refine dt 0 rfl (v := ?_) ?_ ?_
    rotate_left
    ·(intro wy hSw; obtain ⟨⟨z0, z1, z2, z3, z4⟩, q0⟩ := HCC.out wy hSw; go_simp; try with_reducible rfl)
    simp only [Act.put, O]
    refine dt 1 rfl (v := ?_) ?_ ?_
    rotate_left
    ·(intro wy hSw; obtain ⟨⟨z0, z1, z2, z3, z4⟩, q0⟩ := HCC.out wy hSw; go_simp; try with_reducible rfl)
    simp only [Act.put, O]
    refine dt 2 rfl (v := ?_) ?_ ?_
    rotate_left
    ·(intro wy hSw; obtain ⟨⟨z0, z1, z2, z3, z4⟩, q0⟩ := HCC.out wy hSw; go_simp; try with_reducible rfl)
    simp only [Act.put, O]
    refine dt 3 rfl (v := ?_) ?_ ?_
    rotate_left
    ·(intro wy hSw; obtain ⟨⟨z0, z1, z2, z3, z4⟩, q0⟩ := HCC.out wy hSw; go_simp; try with_reducible rfl)
    simp only [Act.put, O]
    refine dt 4 rfl (v := ?_) ?_ ?_
    rotate_left
    ·(intro wy hSw; obtain ⟨⟨z0, z1, z2, z3, z4⟩, q0⟩ := HCC.out wy hSw; go_simp; try with_reducible rfl)
    simp only [Act.put, O]
    refine dt 5 rfl (v := ?_) ?_ ?_
    rotate_left
    ·(intro wy hSw; obtain ⟨⟨z0, z1, z2, z3, z4⟩, q0⟩ := HCC.out wy hSw; go_simp; try with_reducible rfl)
    simp only [Act.put, O]
    refine ah 6 10 rfl rfl (by kernel_rfl) (fun K hK => ?_) (fun K hK => ?_)
    ·try (rw [if_pos]; case hc => rfl)
     go_simp
     refine (HFN.out _ hHeld).mono ?_
     rintro e w1 ⟨rfl, hb⟩
     have hH : Below w0.heap.size w0 w1 := hHeld.trans (hb.mono hHeld.size)
     have hz1 : w0.heap.size ≤ w1.heap.size := hH.size
     go_wp2_with fail
     refine hK.out _ _ hH (fun hHeld2 => ?_)
     clear hK K hHeld
     have hHeld := hHeld2
     clear hHeld2
     refine dv 7 rfl ?_
     refine dv 8 rfl ?_
     refine dv 9 rfl ?_
     have HB1 : Hid (Below w0.heap.size w0 (w1.alloc (.cells #[.int .u8 0, .bool false] 76))) := J (hHeld.alloc hHeld.size _)
     have HZ1 := J (heap_alloc_new w1 (.cells #[.int .u8 0, .bool false] 76))
     have HY1 : Hid (w0.heap.size ≤ w1.heap.size) := J hz1
     refine aa 10 rfl (by kernel_rfl) (fun K hK => ?_)
     try (rw [if_pos]; case hc => rfl)
     go_simp
     refine hK.out _ _ HB1.out (fun hHeld2 => ?_)
     clear hK K hHeld
     have hHeld := hHeld2
     clear hHeld2
     refine aa 11 rfl (by kernel_rfl) (fun K hK => ?_)
     try (rw [if_pos]; case hc => rfl)
     refine wp_store_row 76 (.tmp 6) (.tmp 24) rfl w1.heap.size #[.int .u8 (gt : Int), .bool true] rfl rfl 76 #[.int .u8 0, .bool false] HZ1.out am rfl (by simp [Value.oneCell']) ?_
     refine hK.out _ _ (ac HB1.out HY1.out _) (fun hHeld2 => ?_)
     clear hK K hHeld
     have hHeld := hHeld2
     clear hHeld2
     refine dv 12 rfl ?_
     refine wpAnyH_done (by kernel_rfl) ?_ _
     have HBF : Hid (Below w0.heap.size w0 ((w1.alloc (.cells #[.int .u8 0, .bool false] 76)).setRow w1.heap.size #[.int .u8 (gt : Int), .bool true])) := J hHeld
     obtain ⟨y0, y1⟩ := ae (setRow_heap _ _ #[.int .u8 0, .bool false] #[.int .u8 (gt : Int), .bool true] _ _ HZ1.out)
     have HYY : Hid (∀ W, Below ((w1.alloc (.cells #[.int .u8 0, .bool false] 76)).setRow w1.heap.size #[.int .u8 (gt : Int), .bool true]).heap.size ((w1.alloc (.cells #[.int .u8 0, .bool false] 76)).setRow w1.heap.size #[.int .u8 (gt : Int), .bool true]) W → W.cell? ⟨w1.heap.size, 0, none⟩ = some (.int .u8 (gt : Int)) ∧ W.cell? ⟨w1.heap.size, 1, none⟩ = some (.bool true)) := J (fun W hb => ⟨(hb.cell (p := ⟨w1.heap.size, 0, none⟩) (World.block_lt_of_cell? _ _ y0)).trans y0, (hb.cell (p := ⟨w1.heap.size, 1, none⟩) (World.block_lt_of_cell? _ _ y1)).trans y1⟩)
     generalize (w1.alloc (.cells #[.int .u8 0, .bool false] 76)).setRow w1.heap.size #[.int .u8 (gt : Int), .bool true] = wf at HBF HYY y0 y1 ⊢
     clear y0 y1 hHeld
     go_upto_region 8 with fail
     have HCF := J (fun W (hb : Below wf.heap.size wf W) => HCC.out W (HBF.out.trans (hb.mono HBF.out.size)))
     refine wp_region_held_drew (S := fun W' => Below wf.heap.size wf W') (by kernel_rfl) (Below.drew (Below.refl _ _)) (fun hHeld => ?_)
     refine dt 0 rfl (v := ?_) ?_ ?_
     rotate_left
     ·(intro wy hSw; obtain ⟨⟨z0, z1, z2, z3, z4⟩, q0⟩ := HCF.out wy hSw; go_simp; try with_reducible rfl)
     simp only [Act.put, O]
     refine dt 1 rfl (v := ?_) ?_ ?_
     rotate_left
     ·(intro wy hSw; obtain ⟨⟨z0, z1, z2, z3, z4⟩, q0⟩ := HCF.out wy hSw; go_simp; try with_reducible rfl)
     simp only [Act.put, O]
     refine dt 2 rfl (v := ?_) ?_ ?_
     rotate_left
     ·(intro wy hSw; obtain ⟨⟨z0, z1, z2, z3, z4⟩, q0⟩ := HCF.out wy hSw; go_simp; try with_reducible rfl)
     simp only [Act.put, O]
     refine dt 3 rfl (v := ?_) ?_ ?_
     rotate_left
     ·(intro wy hSw; obtain ⟨⟨z0, z1, z2, z3, z4⟩, q0⟩ := HCF.out wy hSw; go_simp; try with_reducible rfl)
     simp only [Act.put, O]
     refine dt 4 rfl (v := ?_) ?_ ?_
     rotate_left
     ·(intro wy hSw; obtain ⟨⟨z0, z1, z2, z3, z4⟩, q0⟩ := HCF.out wy hSw; go_simp; try with_reducible rfl)
     simp only [Act.put, O]
     refine dt 5 rfl (v := ?_) ?_ ?_
     rotate_left
     ·(intro wy hSw; obtain ⟨⟨z0, z1, z2, z3, z4⟩, q0⟩ := HCF.out wy hSw; go_simp; try with_reducible rfl)
     simp only [Act.put, O]
     refine dt 6 rfl (v := ?_) ?_ ?_
     rotate_left
     ·(intro wy hSw; obtain ⟨⟨z0, z1, z2, z3, z4⟩, q0⟩ := HCF.out wy hSw; go_simp; try with_reducible rfl)
     simp only [Act.put, O]
     refine aa 7 rfl (by kernel_rfl) (fun K hK => ?_)
     try (rw [if_pos]; case hc => rfl)
     go_simp
     refine (HIM0.out _ (HBF.out.trans (hHeld.mono HBF.out.size))).mono ?_
     rintro e w3 ⟨rfl, hb⟩
     have hH : Below wf.heap.size wf w3 := hHeld.trans (hb.mono hHeld.size)
     clear hb
     go_wp2_with fail
     refine hK.out _ _ hH (fun hHeld2 => ?_)
     clear hH
     clear hK K hHeld
     have hHeld := hHeld2
     clear hHeld2
     refine dt 8 rfl (v := ?_) ?_ ?_
     rotate_left
     ·(intro wy hSw; obtain ⟨⟨z0, z1, z2, z3, z4⟩, q0⟩ := HCF.out wy hSw; go_simp; try with_reducible rfl)
     simp only [Act.put, O]
     refine dt 9 rfl (v := ?_) ?_ ?_
     rotate_left
     ·(intro wy hSw; obtain ⟨⟨z0, z1, z2, z3, z4⟩, q0⟩ := HCF.out wy hSw; go_simp; try with_reducible rfl)
     simp only [Act.put, O]
     refine dt 10 rfl (v := ?_) ?_ ?_
     rotate_left
     ·(intro wy hSw; obtain ⟨⟨z0, z1, z2, z3, z4⟩, q0⟩ := HCF.out wy hSw; go_simp; try with_reducible rfl)
     simp only [Act.put, O]
     refine wpAnyH_done (by kernel_rfl) ?_ _
     obtain ⟨y0, y1⟩ := HYY.out _ hHeld
     have HBB := J (HB0.out.trans ((HBF.out.trans (hHeld.mono HBF.out.size)).mono HB0.out.size))
     clear hHeld
     go_wp2_with fail
     go_ret2
     rw [HR.out]
     exact ⟨rfl, HBB.out⟩
    ·try (rw [if_pos]; case hc => rfl)
     go_simp
     have hB0 : Below w0.heap.size w0 (w0.drew.alloc (.cells #[.int .u8 0, .bool false] 76)) := hHeld.alloc hHeld.size _
     have hZ0 := heap_alloc_new w0.drew (.cells #[.int .u8 0, .bool false] 76)
     have hl0 : w0.heap.size < (w0.drew.alloc (.cells #[.int .u8 0, .bool false] 76)).heap.size := by simp
     refine hK.out _ _ hB0 (fun hHeld2 => ?_)
     clear hK K hHeld
     have hHeld := hHeld2
     clear hHeld2
     refine aa 6 rfl (by kernel_rfl) (fun K hK => ?_)
     try (rw [if_pos]; case hc => rfl)
     go_simp
     refine (HFN.out _ hB0).mono ?_
     rintro e w1 ⟨rfl, hb⟩
     have hH : Below w0.heap.size w0 w1 := hB0.trans (hb.mono hB0.size)
     have HB1 : Hid (Below w0.heap.size w0 w1) := J hH
     have HZ1 : Hid (w1.heap[w0.heap.size]? = some (.cells #[.int .u8 0, .bool false] 76 (0, 0))) := J ((hb.block _ hl0).trans hZ0)
     have HY1 : Hid (w0.heap.size ≤ w0.heap.size) := J (Nat.le_refl _)
     go_wp2_with fail
     refine hK.out _ _ hH (fun hHeld2 => ?_)
     clear hK K hHeld
     have hHeld := hHeld2
     clear hHeld2
     refine dv 7 rfl ?_
     refine dv 8 rfl ?_
     refine dv 9 rfl ?_
     refine aa 11 rfl (by kernel_rfl) (fun K hK => ?_)
     try (rw [if_pos]; case hc => rfl)
     refine wp_store_row 76 (.tmp 6) (.tmp 24) rfl w0.heap.size #[.int .u8 (gt : Int), .bool true] rfl rfl 76 #[.int .u8 0, .bool false] HZ1.out am rfl (by simp [Value.oneCell']) ?_
     refine hK.out _ _ (ac HB1.out HY1.out _) (fun hHeld2 => ?_)
     clear hK K hHeld
     have hHeld := hHeld2
     clear hHeld2
     refine dv 12 rfl ?_
     refine wpAnyH_done (by kernel_rfl) ?_ _
     have HBF : Hid (Below w0.heap.size w0 (w1.setRow w0.heap.size #[.int .u8 (gt : Int), .bool true])) := J hHeld
     obtain ⟨y0, y1⟩ := ae (setRow_heap _ _ #[.int .u8 0, .bool false] #[.int .u8 (gt : Int), .bool true] _ _ HZ1.out)
     have HYY : Hid (∀ W, Below (w1.setRow w0.heap.size #[.int .u8 (gt : Int), .bool true]).heap.size (w1.setRow w0.heap.size #[.int .u8 (gt : Int), .bool true]) W → W.cell? ⟨w0.heap.size, 0, none⟩ = some (.int .u8 (gt : Int)) ∧ W.cell? ⟨w0.heap.size, 1, none⟩ = some (.bool true)) := J (fun W hb => ⟨(hb.cell (p := ⟨w0.heap.size, 0, none⟩) (World.block_lt_of_cell? _ _ y0)).trans y0, (hb.cell (p := ⟨w0.heap.size, 1, none⟩) (World.block_lt_of_cell? _ _ y1)).trans y1⟩)
     generalize w1.setRow w0.heap.size #[.int .u8 (gt : Int), .bool true] = wf at HBF HYY y0 y1 ⊢
     clear y0 y1 hHeld
     go_upto_region 8 with fail
     have HCF := J (fun W (hb : Below wf.heap.size wf W) => HCC.out W (HBF.out.trans (hb.mono HBF.out.size)))
     refine wp_region_held_drew (S := fun W' => Below wf.heap.size wf W') (by kernel_rfl) (Below.drew (Below.refl _ _)) (fun hHeld => ?_)
     refine dt 0 rfl (v := ?_) ?_ ?_
     rotate_left
     ·(intro wy hSw; obtain ⟨⟨z0, z1, z2, z3, z4⟩, q0⟩ := HCF.out wy hSw; go_simp; try with_reducible rfl)
     simp only [Act.put, O]
     refine dt 1 rfl (v := ?_) ?_ ?_
     rotate_left
     ·(intro wy hSw; obtain ⟨⟨z0, z1, z2, z3, z4⟩, q0⟩ := HCF.out wy hSw; go_simp; try with_reducible rfl)
     simp only [Act.put, O]
     refine dt 2 rfl (v := ?_) ?_ ?_
     rotate_left
     ·(intro wy hSw; obtain ⟨⟨z0, z1, z2, z3, z4⟩, q0⟩ := HCF.out wy hSw; go_simp; try with_reducible rfl)
     simp only [Act.put, O]
     refine dt 3 rfl (v := ?_) ?_ ?_
     rotate_left
     ·(intro wy hSw; obtain ⟨⟨z0, z1, z2, z3, z4⟩, q0⟩ := HCF.out wy hSw; go_simp; try with_reducible rfl)
     simp only [Act.put, O]
     refine dt 4 rfl (v := ?_) ?_ ?_
     rotate_left
     ·(intro wy hSw; obtain ⟨⟨z0, z1, z2, z3, z4⟩, q0⟩ := HCF.out wy hSw; go_simp; try with_reducible rfl)
     simp only [Act.put, O]
     refine dt 5 rfl (v := ?_) ?_ ?_
     rotate_left
     ·(intro wy hSw; obtain ⟨⟨z0, z1, z2, z3, z4⟩, q0⟩ := HCF.out wy hSw; go_simp; try with_reducible rfl)
     simp only [Act.put, O]
     refine dt 6 rfl (v := ?_) ?_ ?_
     rotate_left
     ·(intro wy hSw; obtain ⟨⟨z0, z1, z2, z3, z4⟩, q0⟩ := HCF.out wy hSw; go_simp; try with_reducible rfl)
     simp only [Act.put, O]
     refine aa 7 rfl (by kernel_rfl) (fun K hK => ?_)
     try (rw [if_pos]; case hc => rfl)
     go_simp
     refine (HIM0.out _ (HBF.out.trans (hHeld.mono HBF.out.size))).mono ?_
     rintro e w3 ⟨rfl, hb⟩
     have hH : Below wf.heap.size wf w3 := hHeld.trans (hb.mono hHeld.size)
     clear hb
     go_wp2_with fail
     refine hK.out _ _ hH (fun hHeld2 => ?_)
     clear hH
     clear hK K hHeld
     have hHeld := hHeld2
     clear hHeld2
     refine dt 8 rfl (v := ?_) ?_ ?_
     rotate_left
     ·(intro wy hSw; obtain ⟨⟨z0, z1, z2, z3, z4⟩, q0⟩ := HCF.out wy hSw; go_simp; try with_reducible rfl)
     simp only [Act.put, O]
     refine dt 9 rfl (v := ?_) ?_ ?_
     rotate_left
     ·(intro wy hSw; obtain ⟨⟨z0, z1, z2, z3, z4⟩, q0⟩ := HCF.out wy hSw; go_simp; try with_reducible rfl)
     simp only [Act.put, O]
     refine dt 10 rfl (v := ?_) ?_ ?_
     rotate_left
     ·(intro wy hSw; obtain ⟨⟨z0, z1, z2, z3, z4⟩, q0⟩ := HCF.out wy hSw; go_simp; try with_reducible rfl)
     simp only [Act.put, O]
     refine wpAnyH_done (by kernel_rfl) ?_ _
     obtain ⟨y0, y1⟩ := HYY.out _ hHeld
     have HBB := J (HB0.out.trans ((HBF.out.trans (hHeld.mono HBF.out.size)).mono HB0.out.size))
     clear hHeld
     go_wp2_with fail
     go_ret2
     rw [HR.out]
     exact ⟨rfl, HBB.out⟩
   | false =>
    have HR := J (HRES3.out hlt rfl)
    clear HRES HRES2 HRES3 hlt
    go_enter Tryz.func95, Tryz.ntmps95
    go_upto_region 1 with fail
    generalize (w.alloc (.cells #[.int .u8 (op : Int), .int .u32 (a : Int), .int .u32 (b : Int), .int .i64 c, .slice A4 l4 c4] 57)) = w0 at HX0 HB0 ⊢
    obtain ⟨X, hX⟩ : ∃ X, w.heap.size = X := ⟨_, rfl⟩
    rw [hX] at HX0
    have hXl : X < w0.heap.size := (Array.getElem?_eq_some_iff.1 HX0.out).1
    simp only [hX]
    obtain ⟨z0, z1, z2, z3, z4⟩ := cells5 HX0.out
    have HCC := J (fun W (hb : Below w0.heap.size w0 W) => And.intro (cells5 ((hb.block X hXl).trans HX0.out)) (H12.out W (HB0.out.trans (hb.mono HB0.out.size))))
    have HFN0 := J (fun W (hb : Below w0.heap.size w0 W) => HFN.out W (HB0.out.trans (hb.mono HB0.out.size)))
    have HIM0 := J (fun W (hb : Below w0.heap.size w0 W) => HIM.out W (HB0.out.trans (hb.mono HB0.out.size)))
    clear HFN HIM hXl
    have HFN := HFN0
    clear HFN0 hX
    go_upto_region 7 with fail
    clear z0 z1 z2 z3 z4
    refine wp_region_held_drew (S := fun W' => Below w0.heap.size w0 W') (by kernel_rfl) (Below.drew (Below.refl _ _)) (fun hHeld => ?_)
    refine dt 0 rfl (v := ?_) ?_ ?_
    rotate_left
    ·(intro wy hSw; obtain ⟨⟨z0, z1, z2, z3, z4⟩, q0⟩ := HCC.out wy hSw; go_simp; try with_reducible rfl)
    simp only [Act.put, O]
    refine dt 1 rfl (v := ?_) ?_ ?_
    rotate_left
    ·(intro wy hSw; obtain ⟨⟨z0, z1, z2, z3, z4⟩, q0⟩ := HCC.out wy hSw; go_simp; try with_reducible rfl)
    simp only [Act.put, O]
    refine dt 2 rfl (v := ?_) ?_ ?_
    rotate_left
    ·(intro wy hSw; obtain ⟨⟨z0, z1, z2, z3, z4⟩, q0⟩ := HCC.out wy hSw; go_simp; try with_reducible rfl)
    simp only [Act.put, O]
    refine dt 3 rfl (v := ?_) ?_ ?_
    rotate_left
    ·(intro wy hSw; obtain ⟨⟨z0, z1, z2, z3, z4⟩, q0⟩ := HCC.out wy hSw; go_simp; try with_reducible rfl)
    simp only [Act.put, O]
    refine dt 4 rfl (v := ?_) ?_ ?_
    rotate_left
    ·(intro wy hSw; obtain ⟨⟨z0, z1, z2, z3, z4⟩, q0⟩ := HCC.out wy hSw; go_simp; try with_reducible rfl)
    simp only [Act.put, O]
    refine dt 5 rfl (v := ?_) ?_ ?_
    rotate_left
    ·(intro wy hSw; obtain ⟨⟨z0, z1, z2, z3, z4⟩, q0⟩ := HCC.out wy hSw; go_simp; try with_reducible rfl)
    simp only [Act.put, O]
    refine ah 6 10 rfl rfl (by kernel_rfl) (fun K hK => ?_) (fun K hK => ?_)
    ·try (rw [if_pos]; case hc => rfl)
     go_simp
     refine (HFN.out _ hHeld).mono ?_
     rintro e w1 ⟨rfl, hb⟩
     have hH : Below w0.heap.size w0 w1 := hHeld.trans (hb.mono hHeld.size)
     have hz1 : w0.heap.size ≤ w1.heap.size := hH.size
     go_wp2_with fail
     refine hK.out _ _ hH (fun hHeld2 => ?_)
     clear hK K hHeld
     have hHeld := hHeld2
     clear hHeld2
     refine dv 7 rfl ?_
     refine dv 8 rfl ?_
     refine dv 9 rfl ?_
     have HB1 : Hid (Below w0.heap.size w0 (w1.alloc (.cells #[.int .u8 0, .bool false] 76))) := J (hHeld.alloc hHeld.size _)
     have HZ1 := J (heap_alloc_new w1 (.cells #[.int .u8 0, .bool false] 76))
     have HY1 : Hid (w0.heap.size ≤ w1.heap.size) := J hz1
     refine aa 10 rfl (by kernel_rfl) (fun K hK => ?_)
     try (rw [if_pos]; case hc => rfl)
     go_simp
     refine hK.out _ _ HB1.out (fun hHeld2 => ?_)
     clear hK K hHeld
     have hHeld := hHeld2
     clear hHeld2
     refine aa 11 rfl (by kernel_rfl) (fun K hK => ?_)
     try (rw [if_pos]; case hc => rfl)
     refine wp_store_row 76 (.tmp 6) (.tmp 24) rfl w1.heap.size #[.int .u8 (gt : Int), .bool false] rfl rfl 76 #[.int .u8 0, .bool false] HZ1.out am rfl (by simp [Value.oneCell']) ?_
     refine hK.out _ _ (ac HB1.out HY1.out _) (fun hHeld2 => ?_)
     clear hK K hHeld
     have hHeld := hHeld2
     clear hHeld2
     refine dv 12 rfl ?_
     refine wpAnyH_done (by kernel_rfl) ?_ _
     have HBF : Hid (Below w0.heap.size w0 ((w1.alloc (.cells #[.int .u8 0, .bool false] 76)).setRow w1.heap.size #[.int .u8 (gt : Int), .bool false])) := J hHeld
     obtain ⟨y0, y1⟩ := ae (setRow_heap _ _ #[.int .u8 0, .bool false] #[.int .u8 (gt : Int), .bool false] _ _ HZ1.out)
     have HYY : Hid (∀ W, Below ((w1.alloc (.cells #[.int .u8 0, .bool false] 76)).setRow w1.heap.size #[.int .u8 (gt : Int), .bool false]).heap.size ((w1.alloc (.cells #[.int .u8 0, .bool false] 76)).setRow w1.heap.size #[.int .u8 (gt : Int), .bool false]) W → W.cell? ⟨w1.heap.size, 0, none⟩ = some (.int .u8 (gt : Int)) ∧ W.cell? ⟨w1.heap.size, 1, none⟩ = some (.bool false)) := J (fun W hb => ⟨(hb.cell (p := ⟨w1.heap.size, 0, none⟩) (World.block_lt_of_cell? _ _ y0)).trans y0, (hb.cell (p := ⟨w1.heap.size, 1, none⟩) (World.block_lt_of_cell? _ _ y1)).trans y1⟩)
     generalize (w1.alloc (.cells #[.int .u8 0, .bool false] 76)).setRow w1.heap.size #[.int .u8 (gt : Int), .bool false] = wf at HBF HYY y0 y1 ⊢
     clear y0 y1 hHeld
     go_upto_region 8 with fail
     have HCF := J (fun W (hb : Below wf.heap.size wf W) => HCC.out W (HBF.out.trans (hb.mono HBF.out.size)))
     refine wp_region_held_drew (S := fun W' => Below wf.heap.size wf W') (by kernel_rfl) (Below.drew (Below.refl _ _)) (fun hHeld => ?_)
     refine dt 0 rfl (v := ?_) ?_ ?_
     rotate_left
     ·(intro wy hSw; obtain ⟨⟨z0, z1, z2, z3, z4⟩, q0⟩ := HCF.out wy hSw; go_simp; try with_reducible rfl)
     simp only [Act.put, O]
     refine dt 1 rfl (v := ?_) ?_ ?_
     rotate_left
     ·(intro wy hSw; obtain ⟨⟨z0, z1, z2, z3, z4⟩, q0⟩ := HCF.out wy hSw; go_simp; try with_reducible rfl)
     simp only [Act.put, O]
     refine dt 2 rfl (v := ?_) ?_ ?_
     rotate_left
     ·(intro wy hSw; obtain ⟨⟨z0, z1, z2, z3, z4⟩, q0⟩ := HCF.out wy hSw; go_simp; try with_reducible rfl)
     simp only [Act.put, O]
     refine dt 3 rfl (v := ?_) ?_ ?_
     rotate_left
     ·(intro wy hSw; obtain ⟨⟨z0, z1, z2, z3, z4⟩, q0⟩ := HCF.out wy hSw; go_simp; try with_reducible rfl)
     simp only [Act.put, O]
     refine dt 4 rfl (v := ?_) ?_ ?_
     rotate_left
     ·(intro wy hSw; obtain ⟨⟨z0, z1, z2, z3, z4⟩, q0⟩ := HCF.out wy hSw; go_simp; try with_reducible rfl)
     simp only [Act.put, O]
     refine dt 5 rfl (v := ?_) ?_ ?_
     rotate_left
     ·(intro wy hSw; obtain ⟨⟨z0, z1, z2, z3, z4⟩, q0⟩ := HCF.out wy hSw; go_simp; try with_reducible rfl)
     simp only [Act.put, O]
     refine dt 6 rfl (v := ?_) ?_ ?_
     rotate_left
     ·(intro wy hSw; obtain ⟨⟨z0, z1, z2, z3, z4⟩, q0⟩ := HCF.out wy hSw; go_simp; try with_reducible rfl)
     simp only [Act.put, O]
     refine aa 7 rfl (by kernel_rfl) (fun K hK => ?_)
     try (rw [if_pos]; case hc => rfl)
     go_simp
     refine (HIM0.out _ (HBF.out.trans (hHeld.mono HBF.out.size))).mono ?_
     rintro e w3 ⟨rfl, hb⟩
     have hH : Below wf.heap.size wf w3 := hHeld.trans (hb.mono hHeld.size)
     clear hb
     go_wp2_with fail
     refine hK.out _ _ hH (fun hHeld2 => ?_)
     clear hH
     clear hK K hHeld
     have hHeld := hHeld2
     clear hHeld2
     refine dt 8 rfl (v := ?_) ?_ ?_
     rotate_left
     ·(intro wy hSw; obtain ⟨⟨z0, z1, z2, z3, z4⟩, q0⟩ := HCF.out wy hSw; go_simp; try with_reducible rfl)
     simp only [Act.put, O]
     refine dt 9 rfl (v := ?_) ?_ ?_
     rotate_left
     ·(intro wy hSw; obtain ⟨⟨z0, z1, z2, z3, z4⟩, q0⟩ := HCF.out wy hSw; go_simp; try with_reducible rfl)
     simp only [Act.put, O]
     refine dt 10 rfl (v := ?_) ?_ ?_
     rotate_left
     ·(intro wy hSw; obtain ⟨⟨z0, z1, z2, z3, z4⟩, q0⟩ := HCF.out wy hSw; go_simp; try with_reducible rfl)
     simp only [Act.put, O]
     refine wpAnyH_done (by kernel_rfl) ?_ _
     obtain ⟨y0, y1⟩ := HYY.out _ hHeld
     have HBB := J (HB0.out.trans ((HBF.out.trans (hHeld.mono HBF.out.size)).mono HB0.out.size))
     clear hHeld
     go_wp2_with fail
     go_ret2
     rw [HR.out]
     dsimp only
     rw [HGT.out]
     exact ⟨rfl, HBB.out⟩
    ·try (rw [if_pos]; case hc => rfl)
     go_simp
     have hB0 : Below w0.heap.size w0 (w0.drew.alloc (.cells #[.int .u8 0, .bool false] 76)) := hHeld.alloc hHeld.size _
     have hZ0 := heap_alloc_new w0.drew (.cells #[.int .u8 0, .bool false] 76)
     have hl0 : w0.heap.size < (w0.drew.alloc (.cells #[.int .u8 0, .bool false] 76)).heap.size := by simp
     refine hK.out _ _ hB0 (fun hHeld2 => ?_)
     clear hK K hHeld
     have hHeld := hHeld2
     clear hHeld2
     refine aa 6 rfl (by kernel_rfl) (fun K hK => ?_)
     try (rw [if_pos]; case hc => rfl)
     go_simp
     refine (HFN.out _ hB0).mono ?_
     rintro e w1 ⟨rfl, hb⟩
     have hH : Below w0.heap.size w0 w1 := hB0.trans (hb.mono hB0.size)
     have HB1 : Hid (Below w0.heap.size w0 w1) := J hH
     have HZ1 : Hid (w1.heap[w0.heap.size]? = some (.cells #[.int .u8 0, .bool false] 76 (0, 0))) := J ((hb.block _ hl0).trans hZ0)
     have HY1 : Hid (w0.heap.size ≤ w0.heap.size) := J (Nat.le_refl _)
     go_wp2_with fail
     refine hK.out _ _ hH (fun hHeld2 => ?_)
     clear hK K hHeld
     have hHeld := hHeld2
     clear hHeld2
     refine dv 7 rfl ?_
     refine dv 8 rfl ?_
     refine dv 9 rfl ?_
     refine aa 11 rfl (by kernel_rfl) (fun K hK => ?_)
     try (rw [if_pos]; case hc => rfl)
     refine wp_store_row 76 (.tmp 6) (.tmp 24) rfl w0.heap.size #[.int .u8 (gt : Int), .bool false] rfl rfl 76 #[.int .u8 0, .bool false] HZ1.out am rfl (by simp [Value.oneCell']) ?_
     refine hK.out _ _ (ac HB1.out HY1.out _) (fun hHeld2 => ?_)
     clear hK K hHeld
     have hHeld := hHeld2
     clear hHeld2
     refine dv 12 rfl ?_
     refine wpAnyH_done (by kernel_rfl) ?_ _
     have HBF : Hid (Below w0.heap.size w0 (w1.setRow w0.heap.size #[.int .u8 (gt : Int), .bool false])) := J hHeld
     obtain ⟨y0, y1⟩ := ae (setRow_heap _ _ #[.int .u8 0, .bool false] #[.int .u8 (gt : Int), .bool false] _ _ HZ1.out)
     have HYY : Hid (∀ W, Below (w1.setRow w0.heap.size #[.int .u8 (gt : Int), .bool false]).heap.size (w1.setRow w0.heap.size #[.int .u8 (gt : Int), .bool false]) W → W.cell? ⟨w0.heap.size, 0, none⟩ = some (.int .u8 (gt : Int)) ∧ W.cell? ⟨w0.heap.size, 1, none⟩ = some (.bool false)) := J (fun W hb => ⟨(hb.cell (p := ⟨w0.heap.size, 0, none⟩) (World.block_lt_of_cell? _ _ y0)).trans y0, (hb.cell (p := ⟨w0.heap.size, 1, none⟩) (World.block_lt_of_cell? _ _ y1)).trans y1⟩)
     generalize w1.setRow w0.heap.size #[.int .u8 (gt : Int), .bool false] = wf at HBF HYY y0 y1 ⊢
     clear y0 y1 hHeld
     go_upto_region 8 with fail
     have HCF := J (fun W (hb : Below wf.heap.size wf W) => HCC.out W (HBF.out.trans (hb.mono HBF.out.size)))
     refine wp_region_held_drew (S := fun W' => Below wf.heap.size wf W') (by kernel_rfl) (Below.drew (Below.refl _ _)) (fun hHeld => ?_)
     refine dt 0 rfl (v := ?_) ?_ ?_
     rotate_left
     ·(intro wy hSw; obtain ⟨⟨z0, z1, z2, z3, z4⟩, q0⟩ := HCF.out wy hSw; go_simp; try with_reducible rfl)
     simp only [Act.put, O]
     refine dt 1 rfl (v := ?_) ?_ ?_
     rotate_left
     ·(intro wy hSw; obtain ⟨⟨z0, z1, z2, z3, z4⟩, q0⟩ := HCF.out wy hSw; go_simp; try with_reducible rfl)
     simp only [Act.put, O]
     refine dt 2 rfl (v := ?_) ?_ ?_
     rotate_left
     ·(intro wy hSw; obtain ⟨⟨z0, z1, z2, z3, z4⟩, q0⟩ := HCF.out wy hSw; go_simp; try with_reducible rfl)
     simp only [Act.put, O]
     refine dt 3 rfl (v := ?_) ?_ ?_
     rotate_left
     ·(intro wy hSw; obtain ⟨⟨z0, z1, z2, z3, z4⟩, q0⟩ := HCF.out wy hSw; go_simp; try with_reducible rfl)
     simp only [Act.put, O]
     refine dt 4 rfl (v := ?_) ?_ ?_
     rotate_left
     ·(intro wy hSw; obtain ⟨⟨z0, z1, z2, z3, z4⟩, q0⟩ := HCF.out wy hSw; go_simp; try with_reducible rfl)
     simp only [Act.put, O]
     refine dt 5 rfl (v := ?_) ?_ ?_
     rotate_left
     ·(intro wy hSw; obtain ⟨⟨z0, z1, z2, z3, z4⟩, q0⟩ := HCF.out wy hSw; go_simp; try with_reducible rfl)
     simp only [Act.put, O]
     refine dt 6 rfl (v := ?_) ?_ ?_
     rotate_left
     ·(intro wy hSw; obtain ⟨⟨z0, z1, z2, z3, z4⟩, q0⟩ := HCF.out wy hSw; go_simp; try with_reducible rfl)
     simp only [Act.put, O]
     refine aa 7 rfl (by kernel_rfl) (fun K hK => ?_)
     try (rw [if_pos]; case hc => rfl)
     go_simp
     refine (HIM0.out _ (HBF.out.trans (hHeld.mono HBF.out.size))).mono ?_
     rintro e w3 ⟨rfl, hb⟩
     have hH : Below wf.heap.size wf w3 := hHeld.trans (hb.mono hHeld.size)
     clear hb
     go_wp2_with fail
     refine hK.out _ _ hH (fun hHeld2 => ?_)
     clear hH
     clear hK K hHeld
     have hHeld := hHeld2
     clear hHeld2
     refine dt 8 rfl (v := ?_) ?_ ?_
     rotate_left
     ·(intro wy hSw; obtain ⟨⟨z0, z1, z2, z3, z4⟩, q0⟩ := HCF.out wy hSw; go_simp; try with_reducible rfl)
     simp only [Act.put, O]
     refine dt 9 rfl (v := ?_) ?_ ?_
     rotate_left
     ·(intro wy hSw; obtain ⟨⟨z0, z1, z2, z3, z4⟩, q0⟩ := HCF.out wy hSw; go_simp; try with_reducible rfl)
     simp only [Act.put, O]
     refine dt 10 rfl (v := ?_) ?_ ?_
     rotate_left
     ·(intro wy hSw; obtain ⟨⟨z0, z1, z2, z3, z4⟩, q0⟩ := HCF.out wy hSw; go_simp; try with_reducible rfl)
     simp only [Act.put, O]
     refine wpAnyH_done (by kernel_rfl) ?_ _
     obtain ⟨y0, y1⟩ := HYY.out _ hHeld
     have HBB := J (HB0.out.trans ((HBF.out.trans (hHeld.mono HBF.out.size)).mono HB0.out.size))
     clear hHeld
     go_wp2_with fail
     go_ret2
     rw [HR.out]
     dsimp only
     rw [HGT.out]
     exact ⟨rfl, HBB.out⟩
  ·have hd : (n3 : Int) ≤ (a : Int) := by omega
   have hd2 : n3 ≤ a := by omega
   have HR := J (HRES.out hd2)
   clear HRES HRES2 HRES3 hlt
   go_enter Tryz.func95, Tryz.ntmps95
   go_upto_region 1 with fail
   generalize (w.alloc (.cells #[.int .u8 (op : Int), .int .u32 (a : Int), .int .u32 (b : Int), .int .i64 c, .slice A4 l4 c4] 57)) = w0 at HX0 HB0 ⊢
   obtain ⟨X, hX⟩ : ∃ X, w.heap.size = X := ⟨_, rfl⟩
   rw [hX] at HX0
   have hXl : X < w0.heap.size := (Array.getElem?_eq_some_iff.1 HX0.out).1
   simp only [hX]
   obtain ⟨z0, z1, z2, z3, z4⟩ := cells5 HX0.out
   have HCC := J (fun W (hb : Below w0.heap.size w0 W) => And.intro (cells5 ((hb.block X hXl).trans HX0.out)) (H12.out W (HB0.out.trans (hb.mono HB0.out.size))))
   have HFN0 := J (fun W (hb : Below w0.heap.size w0 W) => HFN.out W (HB0.out.trans (hb.mono HB0.out.size)))
   have HIM0 := J (fun W (hb : Below w0.heap.size w0 W) => HIM.out W (HB0.out.trans (hb.mono HB0.out.size)))
   clear HFN HIM hXl
   have HFN := HFN0
   clear HFN0 hX
   go_upto_region 7 with fail
   clear z0 z1 z2 z3 z4
   refine wp_region_held_drew (S := fun W' => Below w0.heap.size w0 W') (by kernel_rfl) (Below.drew (Below.refl _ _)) (fun hHeld => ?_)
   refine dt 0 rfl (v := ?_) ?_ ?_
   rotate_left
   ·(intro wy hSw; obtain ⟨⟨z0, z1, z2, z3, z4⟩, q0⟩ := HCC.out wy hSw; go_simp; try with_reducible rfl)
   simp only [Act.put, O]
   refine dt 1 rfl (v := ?_) ?_ ?_
   rotate_left
   ·(intro wy hSw; obtain ⟨⟨z0, z1, z2, z3, z4⟩, q0⟩ := HCC.out wy hSw; go_simp; try with_reducible rfl)
   simp only [Act.put, O]
   refine dt 2 rfl (v := ?_) ?_ ?_
   rotate_left
   ·(intro wy hSw; obtain ⟨⟨z0, z1, z2, z3, z4⟩, q0⟩ := HCC.out wy hSw; go_simp; try with_reducible rfl)
   simp only [Act.put, O]
   refine dt 3 rfl (v := ?_) ?_ ?_
   rotate_left
   ·(intro wy hSw; obtain ⟨⟨z0, z1, z2, z3, z4⟩, q0⟩ := HCC.out wy hSw; go_simp; try with_reducible rfl)
   simp only [Act.put, O]
   refine dt 4 rfl (v := ?_) ?_ ?_
   rotate_left
   ·(intro wy hSw; obtain ⟨⟨z0, z1, z2, z3, z4⟩, q0⟩ := HCC.out wy hSw; go_simp; try with_reducible rfl)
   simp only [Act.put, O]
   refine dt 5 rfl (v := ?_) ?_ ?_
   rotate_left
   ·(intro wy hSw; obtain ⟨⟨z0, z1, z2, z3, z4⟩, q0⟩ := HCC.out wy hSw; go_simp; try with_reducible rfl)
   simp only [Act.put, O]
   refine ah 6 10 rfl rfl (by kernel_rfl) (fun K hK => ?_) (fun K hK => ?_)
   ·try (rw [if_pos]; case hc => rfl)
    go_simp
    refine (HFN.out _ hHeld).mono ?_
    rintro e w1 ⟨rfl, hb⟩
    have hH : Below w0.heap.size w0 w1 := hHeld.trans (hb.mono hHeld.size)
    have hz1 : w0.heap.size ≤ w1.heap.size := hH.size
    go_wp2_with fail
    refine hK.out _ _ hH (fun hHeld2 => ?_)
    clear hK K hHeld
    have hHeld := hHeld2
    clear hHeld2
    refine dv 7 rfl ?_
    refine dv 8 rfl ?_
    refine dv 9 rfl ?_
    have HB1 : Hid (Below w0.heap.size w0 (w1.alloc (.cells #[.int .u8 0, .bool false] 76))) := J (hHeld.alloc hHeld.size _)
    have HZ1 := J (heap_alloc_new w1 (.cells #[.int .u8 0, .bool false] 76))
    have HY1 : Hid (w0.heap.size ≤ w1.heap.size) := J hz1
    refine aa 10 rfl (by kernel_rfl) (fun K hK => ?_)
    try (rw [if_pos]; case hc => rfl)
    go_simp
    refine hK.out _ _ HB1.out (fun hHeld2 => ?_)
    clear hK K hHeld
    have hHeld := hHeld2
    clear hHeld2
    refine aa 11 rfl (by kernel_rfl) (fun K hK => ?_)
    try (rw [if_pos]; case hc => rfl)
    refine wp_store_row 76 (.tmp 6) (.tmp 24) rfl w1.heap.size #[.int .u8 (gt : Int), .bool gm] rfl rfl 76 #[.int .u8 0, .bool false] HZ1.out am rfl (by simp [Value.oneCell']) ?_
    refine hK.out _ _ (ac HB1.out HY1.out _) (fun hHeld2 => ?_)
    clear hK K hHeld
    have hHeld := hHeld2
    clear hHeld2
    refine dv 12 rfl ?_
    refine wpAnyH_done (by kernel_rfl) ?_ _
    have HBF : Hid (Below w0.heap.size w0 ((w1.alloc (.cells #[.int .u8 0, .bool false] 76)).setRow w1.heap.size #[.int .u8 (gt : Int), .bool gm])) := J hHeld
    obtain ⟨y0, y1⟩ := ae (setRow_heap _ _ #[.int .u8 0, .bool false] #[.int .u8 (gt : Int), .bool gm] _ _ HZ1.out)
    have HYY : Hid (∀ W, Below ((w1.alloc (.cells #[.int .u8 0, .bool false] 76)).setRow w1.heap.size #[.int .u8 (gt : Int), .bool gm]).heap.size ((w1.alloc (.cells #[.int .u8 0, .bool false] 76)).setRow w1.heap.size #[.int .u8 (gt : Int), .bool gm]) W → W.cell? ⟨w1.heap.size, 0, none⟩ = some (.int .u8 (gt : Int)) ∧ W.cell? ⟨w1.heap.size, 1, none⟩ = some (.bool gm)) := J (fun W hb => ⟨(hb.cell (p := ⟨w1.heap.size, 0, none⟩) (World.block_lt_of_cell? _ _ y0)).trans y0, (hb.cell (p := ⟨w1.heap.size, 1, none⟩) (World.block_lt_of_cell? _ _ y1)).trans y1⟩)
    generalize (w1.alloc (.cells #[.int .u8 0, .bool false] 76)).setRow w1.heap.size #[.int .u8 (gt : Int), .bool gm] = wf at HBF HYY y0 y1 ⊢
    clear y0 y1 hHeld
    go_upto_region 8 with fail
    have HCF := J (fun W (hb : Below wf.heap.size wf W) => HCC.out W (HBF.out.trans (hb.mono HBF.out.size)))
    refine wp_region_held_drew (S := fun W' => Below wf.heap.size wf W') (by kernel_rfl) (Below.drew (Below.refl _ _)) (fun hHeld => ?_)
    refine dt 0 rfl (v := ?_) ?_ ?_
    rotate_left
    ·(intro wy hSw; obtain ⟨⟨z0, z1, z2, z3, z4⟩, q0⟩ := HCF.out wy hSw; go_simp; try with_reducible rfl)
    simp only [Act.put, O]
    refine dt 1 rfl (v := ?_) ?_ ?_
    rotate_left
    ·(intro wy hSw; obtain ⟨⟨z0, z1, z2, z3, z4⟩, q0⟩ := HCF.out wy hSw; go_simp; try with_reducible rfl)
    simp only [Act.put, O]
    refine dt 2 rfl (v := ?_) ?_ ?_
    rotate_left
    ·(intro wy hSw; obtain ⟨⟨z0, z1, z2, z3, z4⟩, q0⟩ := HCF.out wy hSw; go_simp; try with_reducible rfl)
    simp only [Act.put, O]
    refine dt 3 rfl (v := ?_) ?_ ?_
    rotate_left
    ·(intro wy hSw; obtain ⟨⟨z0, z1, z2, z3, z4⟩, q0⟩ := HCF.out wy hSw; go_simp; try with_reducible rfl)
    simp only [Act.put, O]
    refine dt 4 rfl (v := ?_) ?_ ?_
    rotate_left
    ·(intro wy hSw; obtain ⟨⟨z0, z1, z2, z3, z4⟩, q0⟩ := HCF.out wy hSw; go_simp; try with_reducible rfl)
    simp only [Act.put, O]
    refine dt 5 rfl (v := ?_) ?_ ?_
    rotate_left
    ·(intro wy hSw; obtain ⟨⟨z0, z1, z2, z3, z4⟩, q0⟩ := HCF.out wy hSw; go_simp; try with_reducible rfl)
    simp only [Act.put, O]
    refine dt 6 rfl (v := ?_) ?_ ?_
    rotate_left
    ·(intro wy hSw; obtain ⟨⟨z0, z1, z2, z3, z4⟩, q0⟩ := HCF.out wy hSw; go_simp; try with_reducible rfl)
    simp only [Act.put, O]
    refine aa 7 rfl (by kernel_rfl) (fun K hK => ?_)
    try (rw [if_pos]; case hc => rfl)
    go_simp
    refine (HIM0.out _ (HBF.out.trans (hHeld.mono HBF.out.size))).mono ?_
    rintro e w3 ⟨rfl, hb⟩
    have hH : Below wf.heap.size wf w3 := hHeld.trans (hb.mono hHeld.size)
    clear hb
    go_wp2_with fail
    refine hK.out _ _ hH (fun hHeld2 => ?_)
    clear hH
    clear hK K hHeld
    have hHeld := hHeld2
    clear hHeld2
    refine dt 8 rfl (v := ?_) ?_ ?_
    rotate_left
    ·(intro wy hSw; obtain ⟨⟨z0, z1, z2, z3, z4⟩, q0⟩ := HCF.out wy hSw; go_simp; try with_reducible rfl)
    simp only [Act.put, O]
    refine dt 9 rfl (v := ?_) ?_ ?_
    rotate_left
    ·(intro wy hSw; obtain ⟨⟨z0, z1, z2, z3, z4⟩, q0⟩ := HCF.out wy hSw; go_simp; try with_reducible rfl)
    simp only [Act.put, O]
    refine dt 10 rfl (v := ?_) ?_ ?_
    rotate_left
    ·(intro wy hSw; obtain ⟨⟨z0, z1, z2, z3, z4⟩, q0⟩ := HCF.out wy hSw; go_simp; try with_reducible rfl)
    simp only [Act.put, O]
    refine wpAnyH_done (by kernel_rfl) ?_ _
    obtain ⟨y0, y1⟩ := HYY.out _ hHeld
    have HBB := J (HB0.out.trans ((HBF.out.trans (hHeld.mono HBF.out.size)).mono HB0.out.size))
    clear hHeld
    go_wp2_with fail
    go_ret2
    rw [HR.out]
    exact ⟨rfl, HBB.out⟩
   ·try (rw [if_pos]; case hc => rfl)
    go_simp
    have hB0 : Below w0.heap.size w0 (w0.drew.alloc (.cells #[.int .u8 0, .bool false] 76)) := hHeld.alloc hHeld.size _
    have hZ0 := heap_alloc_new w0.drew (.cells #[.int .u8 0, .bool false] 76)
    have hl0 : w0.heap.size < (w0.drew.alloc (.cells #[.int .u8 0, .bool false] 76)).heap.size := by simp
    refine hK.out _ _ hB0 (fun hHeld2 => ?_)
    clear hK K hHeld
    have hHeld := hHeld2
    clear hHeld2
    refine aa 6 rfl (by kernel_rfl) (fun K hK => ?_)
    try (rw [if_pos]; case hc => rfl)
    go_simp
    refine (HFN.out _ hB0).mono ?_
    rintro e w1 ⟨rfl, hb⟩
    have hH : Below w0.heap.size w0 w1 := hB0.trans (hb.mono hB0.size)
    have HB1 : Hid (Below w0.heap.size w0 w1) := J hH
    have HZ1 : Hid (w1.heap[w0.heap.size]? = some (.cells #[.int .u8 0, .bool false] 76 (0, 0))) := J ((hb.block _ hl0).trans hZ0)
    have HY1 : Hid (w0.heap.size ≤ w0.heap.size) := J (Nat.le_refl _)
    go_wp2_with fail
    refine hK.out _ _ hH (fun hHeld2 => ?_)
    clear hK K hHeld
    have hHeld := hHeld2
    clear hHeld2
    refine dv 7 rfl ?_
    refine dv 8 rfl ?_
    refine dv 9 rfl ?_
    refine aa 11 rfl (by kernel_rfl) (fun K hK => ?_)
    try (rw [if_pos]; case hc => rfl)
    refine wp_store_row 76 (.tmp 6) (.tmp 24) rfl w0.heap.size #[.int .u8 (gt : Int), .bool gm] rfl rfl 76 #[.int .u8 0, .bool false] HZ1.out am rfl (by simp [Value.oneCell']) ?_
    refine hK.out _ _ (ac HB1.out HY1.out _) (fun hHeld2 => ?_)
    clear hK K hHeld
    have hHeld := hHeld2
    clear hHeld2
    refine dv 12 rfl ?_
    refine wpAnyH_done (by kernel_rfl) ?_ _
    have HBF : Hid (Below w0.heap.size w0 (w1.setRow w0.heap.size #[.int .u8 (gt : Int), .bool gm])) := J hHeld
    obtain ⟨y0, y1⟩ := ae (setRow_heap _ _ #[.int .u8 0, .bool false] #[.int .u8 (gt : Int), .bool gm] _ _ HZ1.out)
    have HYY : Hid (∀ W, Below (w1.setRow w0.heap.size #[.int .u8 (gt : Int), .bool gm]).heap.size (w1.setRow w0.heap.size #[.int .u8 (gt : Int), .bool gm]) W → W.cell? ⟨w0.heap.size, 0, none⟩ = some (.int .u8 (gt : Int)) ∧ W.cell? ⟨w0.heap.size, 1, none⟩ = some (.bool gm)) := J (fun W hb => ⟨(hb.cell (p := ⟨w0.heap.size, 0, none⟩) (World.block_lt_of_cell? _ _ y0)).trans y0, (hb.cell (p := ⟨w0.heap.size, 1, none⟩) (World.block_lt_of_cell? _ _ y1)).trans y1⟩)
    generalize w1.setRow w0.heap.size #[.int .u8 (gt : Int), .bool gm] = wf at HBF HYY y0 y1 ⊢
    clear y0 y1 hHeld
    go_upto_region 8 with fail
    have HCF := J (fun W (hb : Below wf.heap.size wf W) => HCC.out W (HBF.out.trans (hb.mono HBF.out.size)))
    refine wp_region_held_drew (S := fun W' => Below wf.heap.size wf W') (by kernel_rfl) (Below.drew (Below.refl _ _)) (fun hHeld => ?_)
    refine dt 0 rfl (v := ?_) ?_ ?_
    rotate_left
    ·(intro wy hSw; obtain ⟨⟨z0, z1, z2, z3, z4⟩, q0⟩ := HCF.out wy hSw; go_simp; try with_reducible rfl)
    simp only [Act.put, O]
    refine dt 1 rfl (v := ?_) ?_ ?_
    rotate_left
    ·(intro wy hSw; obtain ⟨⟨z0, z1, z2, z3, z4⟩, q0⟩ := HCF.out wy hSw; go_simp; try with_reducible rfl)
    simp only [Act.put, O]
    refine dt 2 rfl (v := ?_) ?_ ?_
    rotate_left
    ·(intro wy hSw; obtain ⟨⟨z0, z1, z2, z3, z4⟩, q0⟩ := HCF.out wy hSw; go_simp; try with_reducible rfl)
    simp only [Act.put, O]
    refine dt 3 rfl (v := ?_) ?_ ?_
    rotate_left
    ·(intro wy hSw; obtain ⟨⟨z0, z1, z2, z3, z4⟩, q0⟩ := HCF.out wy hSw; go_simp; try with_reducible rfl)
    simp only [Act.put, O]
    refine dt 4 rfl (v := ?_) ?_ ?_
    rotate_left
    ·(intro wy hSw; obtain ⟨⟨z0, z1, z2, z3, z4⟩, q0⟩ := HCF.out wy hSw; go_simp; try with_reducible rfl)
    simp only [Act.put, O]
    refine dt 5 rfl (v := ?_) ?_ ?_
    rotate_left
    ·(intro wy hSw; obtain ⟨⟨z0, z1, z2, z3, z4⟩, q0⟩ := HCF.out wy hSw; go_simp; try with_reducible rfl)
    simp only [Act.put, O]
    refine dt 6 rfl (v := ?_) ?_ ?_
    rotate_left
    ·(intro wy hSw; obtain ⟨⟨z0, z1, z2, z3, z4⟩, q0⟩ := HCF.out wy hSw; go_simp; try with_reducible rfl)
    simp only [Act.put, O]
    refine aa 7 rfl (by kernel_rfl) (fun K hK => ?_)
    try (rw [if_pos]; case hc => rfl)
    go_simp
    refine (HIM0.out _ (HBF.out.trans (hHeld.mono HBF.out.size))).mono ?_
    rintro e w3 ⟨rfl, hb⟩
    have hH : Below wf.heap.size wf w3 := hHeld.trans (hb.mono hHeld.size)
    clear hb
    go_wp2_with fail
    refine hK.out _ _ hH (fun hHeld2 => ?_)
    clear hH
    clear hK K hHeld
    have hHeld := hHeld2
    clear hHeld2
    refine dt 8 rfl (v := ?_) ?_ ?_
    rotate_left
    ·(intro wy hSw; obtain ⟨⟨z0, z1, z2, z3, z4⟩, q0⟩ := HCF.out wy hSw; go_simp; try with_reducible rfl)
    simp only [Act.put, O]
    refine dt 9 rfl (v := ?_) ?_ ?_
    rotate_left
    ·(intro wy hSw; obtain ⟨⟨z0, z1, z2, z3, z4⟩, q0⟩ := HCF.out wy hSw; go_simp; try with_reducible rfl)
    simp only [Act.put, O]
    refine dt 10 rfl (v := ?_) ?_ ?_
    rotate_left
    ·(intro wy hSw; obtain ⟨⟨z0, z1, z2, z3, z4⟩, q0⟩ := HCF.out wy hSw; go_simp; try with_reducible rfl)
    simp only [Act.put, O]
    refine wpAnyH_done (by kernel_rfl) ?_ _
    obtain ⟨y0, y1⟩ := HYY.out _ hHeld
    have HBB := J (HB0.out.trans ((HBF.out.trans (hHeld.mono HBF.out.size)).mono HB0.out.size))
    clear hHeld
    go_wp2_with fail
    go_ret2
    rw [HR.out]
    exact ⟨rfl, HBB.out⟩
 ·have e35 : ((op : Int) == 35) = false := by rw [beq_eq_false_iff_ne]; omega
  rw [show Va.giveE m op a = (0, 110) from by unfold Va.giveE; rw [if_neg h35, if_neg h65, if_neg h66]]
  clear hl3 h65 h66 h35
  go_enter Tryz.func95, Tryz.ntmps95
  go_wp2_with fail
  go_ret2
  exact ⟨rfl, HB0.out⟩
theorem cF (h : VIn w P sp mp m v1 v2 v3 v4 v5 v6 v7 v8 v9 v10 hv) (xs : List I) (v : Value) (hxs : ab w (· < w.heap.size) xs v) (t : UInt8) (tn : Nat) (htn : t.toNat = tn) :
  Calls Tryz.prog 59 #[.pointer (some ⟨P, 0, none⟩), v, .int .u8 (tn : Int)] w fun e w' => e = .returned (.int .i64 ((Va.constE m xs t : Nat) : Int)) ∧ Below w.heap.size w w' := by
 obtain ⟨A, c, rfl, hc, hcm, _, hL⟩ := hxs
 by_cases hn : xs.length = 1
 ·obtain ⟨x, rfl⟩ : ∃ x, xs = [x] := List.length_eq_one_iff.1 hn
  obtain ⟨g, o, cs, rfl, _, hg, ⟨A4, c4, rfl, hwf, _, _, _⟩, hcs⟩ := hL 0 x rfl
  have k0 : w.cell? ⟨g, o, none⟩ = some (.int .u8 (x.op : Int)) := hcs 0 _ rfl
  have k1 : w.cell? ⟨g, o + 1, none⟩ = some (.int .u32 (x.a : Int)) := hcs 1 _ rfl
  have k2 : w.cell? ⟨g, o + 2, none⟩ = some (.int .u32 (x.b : Int)) := hcs 2 _ rfl
  have k3 : w.cell? ⟨g, o + 3, none⟩ = some (.int .i64 x.c) := hcs 3 _ rfl
  have k4 : w.cell? ⟨g, o + 4, none⟩ = some (.slice A4 x.l.length c4) := hcs 4 _ rfl
  have HG := J (vgives_any h x.op x.a x.b x.c A4 x.l.length c4 hwf.2.1)
  have HR := J (Va.constE_one m x t)
  clear h hcs hL hn hwf
  generalize Va.giveE m x.op x.a = G at HG HR
  obtain ⟨gt, ge⟩ := G
  dsimp only at HG HR
  obtain ⟨gn, hgn⟩ : ∃ n, gt.toNat = n := ⟨_, rfl⟩
  rw [hgn] at HG
  obtain ⟨op, a, b, cc, l⟩ := x
  dsimp only at k0 k1 k2 k3 k4 HG HR
  generalize l.length = ll at k4 HG
  by_cases he : ge = 0
  ·subst he
   rw [if_pos rfl] at HR
   have hi : (1 : Int) ≤ (c : Int) := by simp at hc; omega
   by_cases heq : gt = t
   ·subst heq
    have : gn = tn := by omega
    subst this
    have HR2 : Hid (Va.constE m [⟨op, a, b, cc, l⟩] gt = 0) := J (by rw [HR.out]; simp [Va.okE])
    have hq : ((gn : Int) == (gn : Int)) = true := by simp
    clear hgn htn HR hc
    go_enter Tryz.func59, Tryz.ntmps59
    go_wp2_with (first | (go_at_call 95; refine HG.out.mono ?_; rintro e w1 ⟨rfl, hb⟩; have HB := J hb; clear hb) | (go_at_call 53; refine (al true 100 100 _ rfl).mono ?_; rintro e w2 ⟨rfl, rfl⟩))
    go_ret
    rw [HR2.out]
    exact ⟨rfl, HB.out⟩
   ·have hne : ¬ gn = tn := fun e => heq (UInt8.toNat_inj.1 (by omega))
    have HR2 : Hid (Va.constE m [⟨op, a, b, cc, l⟩] t = 100) := J (by rw [HR.out]; simp [Va.okE, heq])
    have hq : ((gn : Int) == (tn : Int)) = false := by rw [beq_eq_false_iff_ne]; omega
    clear hgn htn HR heq hne hc
    go_enter Tryz.func59, Tryz.ntmps59
    go_wp2_with (first | (go_at_call 95; refine HG.out.mono ?_; rintro e w1 ⟨rfl, hb⟩; have HB := J hb; clear hb) | (go_at_call 53; refine (al false 100 100 _ rfl).mono ?_; rintro e w2 ⟨rfl, rfl⟩))
    go_ret
    rw [HR2.out]
    exact ⟨rfl, HB.out⟩
  ·rw [if_neg he] at HR
   have hq : ((ge : Int) == 0) = false := by rw [beq_eq_false_iff_ne]; omega
   have hq2 : ((ge : Int) != 0) = true := by rw [bne, hq]; rfl
   have hq3 : ¬ ((ge : Int) = 0) := by omega
   clear hgn htn he hc
   go_enter Tryz.func59, Tryz.ntmps59
   go_wp2_with (first | (go_at_call 95; refine HG.out.mono ?_; rintro e w1 ⟨rfl, hb⟩; have HB := J hb; clear hb) | (go_at_call 53; refine (al true 100 100 _ rfl).mono ?_; rintro e w2 ⟨rfl, rfl⟩))
   go_ret
   rw [HR.out]
   exact ⟨rfl, HB.out⟩
 ·have HR : Hid (Va.constE m xs t = 110) := J (by
   unfold Va.constE
   split
   ·simp at hn
   ·rfl)
  obtain ⟨n, e⟩ : ∃ n, xs.length = n := ⟨_, rfl⟩
  rw [e] at hn ⊢
  have hq : ((n : Int) == 1) = false := by rw [beq_eq_false_iff_ne]; omega
  have hq2 : ((n : Int) != 1) = true := by rw [bne, hq]; rfl
  have hq3 : ¬ ((n : Int) = 1) := by omega
  clear e hL h hc
  go_enter Tryz.func59, Tryz.ntmps59
  go_wp2_with fail
  go_ret
  rw [HR.out]
  exact ⟨rfl, Below.refl _ _⟩
end
end Go.Proofs.YtelcdmkbaegjoaaGreat
