/-
  Layer 11's program: the start, exports, codes: asked one by one. (gen/valid/step3.py)
-/
import Derived.Test.YtelcdmkbaegjoaaGreatLq01
import Derived.Test.YtelcdmkbaegjoaaGreatLq42
import Derived.Test.YtelcdmkbaegjoaaGreatLq49
set_option maxRecDepth 100000
set_option maxHeartbeats 4000000
namespace Va
open Bin Sp Ins
def expA (m : M) (ns : List (List UInt8)) (x : Exp) : Nat := if x.index < count m x.kind.toNat then (if x.name ∈ ns then 111 else 0) else 80
theorem dW {m : M} (A : Nat → Nat) : ∀ (xs : List Exp) (seen : List (List UInt8)) (j : Nat), (∀ i x, xs[i]? = some x → A (j + i) = expA m (seen ++ (xs.take i).map (·.name)) x) → upTo A j xs.length = expE m seen xs
 | [], _, _, _ => rfl
 | x :: xs, seen, j, h => by
  have h0 := h 0 x rfl
  simp only [List.take_zero, List.map_nil, List.append_nil, Nat.add_zero] at h0
  rw [List.length_cons, upTo, expE, h0]
  have ih := dW (m := m) A xs (seen ++ [x.name]) (j + 1) (fun i y hy => by
   have := h (i + 1) y hy
   rw [show j + 1 + i = j + (i + 1) from by omega, this]
   simp [List.take_succ_cons])
  unfold expA
  split
  ·split
   ·rfl
   ·rw [orE_at rfl, ih]
  ·rfl
def numR : Except Nat Nat → Nat
 | .error e => e
 | .ok _ => 0
def valR : Except Nat Nat → Nat
 | .error _ => 0
 | .ok h => h
theorem startE_none {m : M} (hs : m.hasStart = true) (h : func m m.start = none) : startE m = 113 := by
 unfold startE; rw [if_pos hs, h]
theorem startE_some {m : M} {t : FT} (hs : m.hasStart = true) (h : func m m.start = some t) : startE m = okE (decide (t = ⟨[], []⟩)) 113 := by
 unfold startE; rw [if_pos hs, h]
 obtain ⟨p, r⟩ := t
 cases p <;> cases r <;> simp
theorem startE_no {m : M} (hs : m.hasStart = false) : startE m = 0 := by
 unfold startE; rw [if_neg (by rw [hs]; decide)]
end Va
namespace Go.Proofs.YtelcdmkbaegjoaaGreat
open Go.RowKit Ins Bin Sp
section
variable {w : World} {P sp mp : Nat} {m : M} {v1 v2 v3 v4 v5 v6 v7 v8 v9 v10 hv : Value}
theorem vstart_any (h : VIn w P sp mp m v1 v2 v3 v4 v5 v6 v7 v8 v9 v10 hv) (i : Nat) :
  Calls Tryz.prog 28 #[.pointer (some ⟨P, 0, none⟩), .int .i64 (i : Int)] w fun e w' => e = .returned (.int .i64 ((Va.startE m : Nat) : Int)) ∧ Below w.heap.size w w' := by
 have x7 := cell15 h.cells 7 _ rfl
 cases hst : m.hasStart with
 | false =>
  have HT := J (Va.startE_no hst)
  rw [hst] at x7
  clear hst h
  go_enter Tryz.func28, Tryz.ntmps28
  go_wp2_with fail
  go_ret
  rw [HT.out]
  exact ⟨rfl, Below.refl _ _⟩
 | true =>
  rw [hst] at x7
  have HCC : Hid (∀ W, Below w.heap.size w W → W.cell? ⟨P, 12, none⟩ = some (.pointer (some ⟨sp, 0, none⟩)) ∧ W.cell? ⟨P, 8, none⟩ = some (.int .u32 (m.start : Int))) := J (fun W hb => ⟨cell15 (h.grow hb).cells 12 _ rfl, cell15 (h.grow hb).cells 8 _ rfl⟩)
  have HFN := J (fun W (hb : Below w.heap.size w W) => cB (some ⟨sp, 0, none⟩) m m.start W (h.grow hb).recv (Lots.some h.fit.lots) h.rep.start (rep_funs h.rep))
  cases hx : func m m.start with
  | none =>
   have HT := J (Va.startE_none hst hx)
   rw [hx] at HFN
   clear hst hx h
   generalize m.start = st at *
   obtain ⟨w0, hw0⟩ : ∃ w0, w0 = w := ⟨_, rfl⟩
   subst hw0
   go_enter Tryz.func28, Tryz.ntmps28
   go_upto_region 3 with fail
   refine wp_region_held_drew (S := fun W' => Below w0.heap.size w0 W') (by kernel_rfl) (Below.drew (Below.refl _ _)) (fun hHeld => ?_)
   refine dt 0 rfl (v := ?_) ?_ ?_
   rotate_left
   ·(intro wy hSw; obtain ⟨q0, q1⟩ := HCC.out wy hSw; go_simp; try with_reducible rfl)
   simp only [Act.put, O]
   refine dt 1 rfl (v := ?_) ?_ ?_
   rotate_left
   ·(intro wy hSw; obtain ⟨q0, q1⟩ := HCC.out wy hSw; go_simp; try with_reducible rfl)
   simp only [Act.put, O]
   refine dt 2 rfl (v := ?_) ?_ ?_
   rotate_left
   ·(intro wy hSw; obtain ⟨q0, q1⟩ := HCC.out wy hSw; go_simp; try with_reducible rfl)
   simp only [Act.put, O]
   refine dt 3 rfl (v := ?_) ?_ ?_
   rotate_left
   ·(intro wy hSw; obtain ⟨q0, q1⟩ := HCC.out wy hSw; go_simp; try with_reducible rfl)
   simp only [Act.put, O]
   refine dt 4 rfl (v := ?_) ?_ ?_
   rotate_left
   ·(intro wy hSw; obtain ⟨q0, q1⟩ := HCC.out wy hSw; go_simp; try with_reducible rfl)
   simp only [Act.put, O]
   refine dt 5 rfl (v := ?_) ?_ ?_
   rotate_left
   ·(intro wy hSw; obtain ⟨q0, q1⟩ := HCC.out wy hSw; go_simp; try with_reducible rfl)
   simp only [Act.put, O]
   refine dt 6 rfl (v := ?_) ?_ ?_
   rotate_left
   ·(intro wy hSw; obtain ⟨q0, q1⟩ := HCC.out wy hSw; go_simp; try with_reducible rfl)
   simp only [Act.put, O]
   refine dt 7 rfl (v := ?_) ?_ ?_
   rotate_left
   ·(intro wy hSw; obtain ⟨q0, q1⟩ := HCC.out wy hSw; go_simp; try with_reducible rfl)
   simp only [Act.put, O]
   refine dt 8 rfl (v := ?_) ?_ ?_
   rotate_left
   ·(intro wy hSw; obtain ⟨q0, q1⟩ := HCC.out wy hSw; go_simp; try with_reducible rfl)
   simp only [Act.put, O]
   refine ah 9 13 rfl rfl (by kernel_rfl) (fun K hK => ?_) (fun K hK => ?_)
   ·try (rw [if_pos]; case hc => rfl)
    go_simp
    refine (HFN.out _ hHeld).mono ?_
    rintro e w1 he
    obtain ⟨A1, c1, A2, c2, rfl, hb⟩ := he.no
    have hH : Below w0.heap.size w0 w1 := hHeld.trans (hb.mono hHeld.size)
    have hz1 : w0.heap.size ≤ w1.heap.size := hH.size
    go_wp2_with fail
    refine hK.out _ _ hH (fun hHeld2 => ?_)
    clear hK K hHeld
    have hHeld := hHeld2
    clear hHeld2
    refine dv 10 rfl ?_
    refine dv 11 rfl ?_
    refine dv 12 rfl ?_
    have HB1 : Hid (Below w0.heap.size w0 (w1.alloc (.cells #[.slice none 0 0, .slice none 0 0] 51))) := J (hHeld.alloc hHeld.size _)
    have HZ1 := J (heap_alloc_new w1 (.cells #[.slice none 0 0, .slice none 0 0] 51))
    have HY1 : Hid (w0.heap.size ≤ w1.heap.size) := J hz1
    refine aa 13 rfl (by kernel_rfl) (fun K hK => ?_)
    try (rw [if_pos]; case hc => rfl)
    go_simp
    refine hK.out _ _ HB1.out (fun hHeld2 => ?_)
    clear hK K hHeld
    have hHeld := hHeld2
    clear hHeld2
    refine aa 14 rfl (by kernel_rfl) (fun K hK => ?_)
    try (rw [if_pos]; case hc => rfl)
    refine wp_store_row 51 (.tmp 5) (.tmp 24) rfl w1.heap.size #[.slice A1 0 c1, .slice A2 0 c2] rfl rfl 51 #[.slice none 0 0, .slice none 0 0] HZ1.out ao rfl (by simp [Value.oneCell']) ?_
    refine hK.out _ _ (ac HB1.out HY1.out _) (fun hHeld2 => ?_)
    clear hK K hHeld
    have hHeld := hHeld2
    clear hHeld2
    refine dv 15 rfl ?_
    refine wpAnyH_done (by kernel_rfl) ?_ _
    have HBF : Hid (Below w0.heap.size w0 ((w1.alloc (.cells #[.slice none 0 0, .slice none 0 0] 51)).setRow w1.heap.size #[.slice A1 0 c1, .slice A2 0 c2])) := J hHeld
    have HYH : Hid (((w1.alloc (.cells #[.slice none 0 0, .slice none 0 0] 51)).setRow w1.heap.size #[.slice A1 0 c1, .slice A2 0 c2]).heap[w1.heap.size]? = some (.cells #[.slice A1 0 c1, .slice A2 0 c2] 51 (0, 0))) := J (setRow_heap _ _ #[.slice none 0 0, .slice none 0 0] #[.slice A1 0 c1, .slice A2 0 c2] _ _ HZ1.out)
    generalize (w1.alloc (.cells #[.slice none 0 0, .slice none 0 0] 51)).setRow w1.heap.size #[.slice A1 0 c1, .slice A2 0 c2] = wf at HBF HYH ⊢
    generalize w1.heap.size = Y at HYH ⊢
    obtain ⟨y0, y1⟩ := ae HYH.out
    go_wp2_with (go_at_call 53; refine (al false 113 113 _ rfl).mono ?_; rintro e w2 ⟨rfl, rfl⟩)
    go_ret
    rw [HT.out]
    exact ⟨rfl, HBF.out⟩
   ·try (rw [if_pos]; case hc => rfl)
    go_simp
    have hB0 : Below w0.heap.size w0 (w0.drew.alloc (.cells #[.slice none 0 0, .slice none 0 0] 51)) := hHeld.alloc hHeld.size _
    have hZ0 := heap_alloc_new w0.drew (.cells #[.slice none 0 0, .slice none 0 0] 51)
    have hl0 : w0.heap.size < (w0.drew.alloc (.cells #[.slice none 0 0, .slice none 0 0] 51)).heap.size := by simp
    refine hK.out _ _ hB0 (fun hHeld2 => ?_)
    clear hK K hHeld
    have hHeld := hHeld2
    clear hHeld2
    refine aa 9 rfl (by kernel_rfl) (fun K hK => ?_)
    try (rw [if_pos]; case hc => rfl)
    go_simp
    refine (HFN.out _ hB0).mono ?_
    rintro e w1 he
    obtain ⟨A1, c1, A2, c2, rfl, hb⟩ := he.no
    have hH : Below w0.heap.size w0 w1 := hB0.trans (hb.mono hB0.size)
    have HB1 : Hid (Below w0.heap.size w0 w1) := J hH
    have HZ1 : Hid (w1.heap[w0.heap.size]? = some (.cells #[.slice none 0 0, .slice none 0 0] 51 (0, 0))) := J ((hb.block _ hl0).trans hZ0)
    have HY1 : Hid (w0.heap.size ≤ w0.heap.size) := J (Nat.le_refl _)
    go_wp2_with fail
    refine hK.out _ _ hH (fun hHeld2 => ?_)
    clear hK K hHeld
    have hHeld := hHeld2
    clear hHeld2
    refine dv 10 rfl ?_
    refine dv 11 rfl ?_
    refine dv 12 rfl ?_
    refine aa 14 rfl (by kernel_rfl) (fun K hK => ?_)
    try (rw [if_pos]; case hc => rfl)
    refine wp_store_row 51 (.tmp 5) (.tmp 24) rfl w0.heap.size #[.slice A1 0 c1, .slice A2 0 c2] rfl rfl 51 #[.slice none 0 0, .slice none 0 0] HZ1.out ao rfl (by simp [Value.oneCell']) ?_
    refine hK.out _ _ (ac HB1.out HY1.out _) (fun hHeld2 => ?_)
    clear hK K hHeld
    have hHeld := hHeld2
    clear hHeld2
    refine dv 15 rfl ?_
    refine wpAnyH_done (by kernel_rfl) ?_ _
    have HBF : Hid (Below w0.heap.size w0 (w1.setRow w0.heap.size #[.slice A1 0 c1, .slice A2 0 c2])) := J hHeld
    have HYH : Hid ((w1.setRow w0.heap.size #[.slice A1 0 c1, .slice A2 0 c2]).heap[w0.heap.size]? = some (.cells #[.slice A1 0 c1, .slice A2 0 c2] 51 (0, 0))) := J (setRow_heap _ _ #[.slice none 0 0, .slice none 0 0] #[.slice A1 0 c1, .slice A2 0 c2] _ _ HZ1.out)
    generalize w1.setRow w0.heap.size #[.slice A1 0 c1, .slice A2 0 c2] = wf at HBF HYH ⊢
    obtain ⟨Y, hY⟩ : ∃ Y, w0.heap.size = Y := ⟨_, rfl⟩
    rw [hY] at HYH
    simp only [hY]
    obtain ⟨y0, y1⟩ := ae HYH.out
    go_wp2_with (go_at_call 53; refine (al false 113 113 _ rfl).mono ?_; rintro e w2 ⟨rfl, rfl⟩)
    go_ret
    rw [HT.out]
    exact ⟨rfl, HBF.out⟩
  | some t =>
   have HT := J (Va.startE_some hst hx)
   rw [hx] at HFN
   obtain ⟨hl1, hl2⟩ := few_func h.fit.lots hx
   clear hst hx h
   generalize m.start = st at *
   obtain ⟨w0, hw0⟩ : ∃ w0, w0 = w := ⟨_, rfl⟩
   subst hw0
   go_enter Tryz.func28, Tryz.ntmps28
   go_upto_region 3 with fail
   refine wp_region_held_drew (S := fun W' => Below w0.heap.size w0 W') (by kernel_rfl) (Below.drew (Below.refl _ _)) (fun hHeld => ?_)
   refine dt 0 rfl (v := ?_) ?_ ?_
   rotate_left
   ·(intro wy hSw; obtain ⟨q0, q1⟩ := HCC.out wy hSw; go_simp; try with_reducible rfl)
   simp only [Act.put, O]
   refine dt 1 rfl (v := ?_) ?_ ?_
   rotate_left
   ·(intro wy hSw; obtain ⟨q0, q1⟩ := HCC.out wy hSw; go_simp; try with_reducible rfl)
   simp only [Act.put, O]
   refine dt 2 rfl (v := ?_) ?_ ?_
   rotate_left
   ·(intro wy hSw; obtain ⟨q0, q1⟩ := HCC.out wy hSw; go_simp; try with_reducible rfl)
   simp only [Act.put, O]
   refine dt 3 rfl (v := ?_) ?_ ?_
   rotate_left
   ·(intro wy hSw; obtain ⟨q0, q1⟩ := HCC.out wy hSw; go_simp; try with_reducible rfl)
   simp only [Act.put, O]
   refine dt 4 rfl (v := ?_) ?_ ?_
   rotate_left
   ·(intro wy hSw; obtain ⟨q0, q1⟩ := HCC.out wy hSw; go_simp; try with_reducible rfl)
   simp only [Act.put, O]
   refine dt 5 rfl (v := ?_) ?_ ?_
   rotate_left
   ·(intro wy hSw; obtain ⟨q0, q1⟩ := HCC.out wy hSw; go_simp; try with_reducible rfl)
   simp only [Act.put, O]
   refine dt 6 rfl (v := ?_) ?_ ?_
   rotate_left
   ·(intro wy hSw; obtain ⟨q0, q1⟩ := HCC.out wy hSw; go_simp; try with_reducible rfl)
   simp only [Act.put, O]
   refine dt 7 rfl (v := ?_) ?_ ?_
   rotate_left
   ·(intro wy hSw; obtain ⟨q0, q1⟩ := HCC.out wy hSw; go_simp; try with_reducible rfl)
   simp only [Act.put, O]
   refine dt 8 rfl (v := ?_) ?_ ?_
   rotate_left
   ·(intro wy hSw; obtain ⟨q0, q1⟩ := HCC.out wy hSw; go_simp; try with_reducible rfl)
   simp only [Act.put, O]
   refine ah 9 13 rfl rfl (by kernel_rfl) (fun K hK => ?_) (fun K hK => ?_)
   ·try (rw [if_pos]; case hc => rfl)
    go_simp
    refine (HFN.out _ hHeld).mono ?_
    rintro e w1 he
    obtain ⟨A1, c1, A2, c2, rfl, s1, s2, hb⟩ := he.yes
    have hH : Below w0.heap.size w0 w1 := hHeld.trans (hb.mono hHeld.size)
    have hz1 : w0.heap.size ≤ w1.heap.size := hH.size
    have HS1 : Hid (ab w1 (fun k => k ≠ w1.heap.size) t.params (.slice A1 t.params.length c1)) := J (s1.more (fun k hk h => by omega))
    have HS2 : Hid (ab w1 (fun k => k ≠ w1.heap.size) t.results (.slice A2 t.results.length c2)) := J (s2.more (fun k hk h => by omega))
    clear s1 s2
    go_wp2_with fail
    refine hK.out _ _ hH (fun hHeld2 => ?_)
    clear hK K hHeld
    have hHeld := hHeld2
    clear hHeld2
    refine dv 10 rfl ?_
    refine dv 11 rfl ?_
    refine dv 12 rfl ?_
    have HB1 : Hid (Below w0.heap.size w0 (w1.alloc (.cells #[.slice none 0 0, .slice none 0 0] 51))) := J (hHeld.alloc hHeld.size _)
    have HZ1 := J (heap_alloc_new w1 (.cells #[.slice none 0 0, .slice none 0 0] 51))
    have HY1 : Hid (w0.heap.size ≤ w1.heap.size) := J hz1
    refine aa 13 rfl (by kernel_rfl) (fun K hK => ?_)
    try (rw [if_pos]; case hc => rfl)
    go_simp
    refine hK.out _ _ HB1.out (fun hHeld2 => ?_)
    clear hK K hHeld
    have hHeld := hHeld2
    clear hHeld2
    refine aa 14 rfl (by kernel_rfl) (fun K hK => ?_)
    try (rw [if_pos]; case hc => rfl)
    refine wp_store_row 51 (.tmp 5) (.tmp 24) rfl w1.heap.size #[.slice A1 t.params.length c1, .slice A2 t.results.length c2] rfl rfl 51 #[.slice none 0 0, .slice none 0 0] HZ1.out ao rfl (by simp [Value.oneCell']) ?_
    refine hK.out _ _ (ac HB1.out HY1.out _) (fun hHeld2 => ?_)
    clear hK K hHeld
    have hHeld := hHeld2
    clear hHeld2
    refine dv 15 rfl ?_
    refine wpAnyH_done (by kernel_rfl) ?_ _
    have HBF : Hid (Below w0.heap.size w0 ((w1.alloc (.cells #[.slice none 0 0, .slice none 0 0] 51)).setRow w1.heap.size #[.slice A1 t.params.length c1, .slice A2 t.results.length c2])) := J hHeld
    have HYH : Hid (((w1.alloc (.cells #[.slice none 0 0, .slice none 0 0] 51)).setRow w1.heap.size #[.slice A1 t.params.length c1, .slice A2 t.results.length c2]).heap[w1.heap.size]? = some (.cells #[.slice A1 t.params.length c1, .slice A2 t.results.length c2] 51 (0, 0))) := J (setRow_heap _ _ #[.slice none 0 0, .slice none 0 0] #[.slice A1 t.params.length c1, .slice A2 t.results.length c2] _ _ HZ1.out)
    have HV1 := J ((ar (HS1.out.mod (T := fun _ => False) (Mod.of_below ((Below.refl _ _).alloc (Nat.le_refl _) _)) (fun _ _ _ h => h)) #[.slice A1 t.params.length c1, .slice A2 t.results.length c2] (fun k _ hs => hs)).more (S' := (· < ((w1.alloc (.cells #[.slice none 0 0, .slice none 0 0] 51)).setRow w1.heap.size #[.slice A1 t.params.length c1, .slice A2 t.results.length c2]).heap.size)) (fun k hk _ => hk))
    have HV2 := J ((ar (HS2.out.mod (T := fun _ => False) (Mod.of_below ((Below.refl _ _).alloc (Nat.le_refl _) _)) (fun _ _ _ h => h)) #[.slice A1 t.params.length c1, .slice A2 t.results.length c2] (fun k _ hs => hs)).more (S' := (· < ((w1.alloc (.cells #[.slice none 0 0, .slice none 0 0] 51)).setRow w1.heap.size #[.slice A1 t.params.length c1, .slice A2 t.results.length c2]).heap.size)) (fun k hk _ => hk))
    generalize (w1.alloc (.cells #[.slice none 0 0, .slice none 0 0] 51)).setRow w1.heap.size #[.slice A1 t.params.length c1, .slice A2 t.results.length c2] = wf at HBF HYH HV1 HV2 ⊢
    generalize w1.heap.size = Y at HYH ⊢
    obtain ⟨y0, y1⟩ := ae HYH.out
    have HSA := J (ej t ⟨[], []⟩ _ _ (.slice none 0 0) (.slice none 0 0) wf HV1.out HV2.out (ab.nil _ _) (ab.nil _ _) ⟨by omega, by omega⟩ ⟨by simp, by simp⟩)
    clear HV1 HV2
    generalize decide (t = ⟨[], []⟩) = b at HSA HT
    go_wp2_with (first | (go_at_call 61; refine HSA.out.mono ?_; rintro e w4 ⟨rfl, hb⟩; have HB4 := J (HBF.out.trans (hb.mono HBF.out.size)); clear hb) | (go_at_call 53; refine (al _ 113 113 _ rfl).mono ?_; rintro e w2 ⟨rfl, rfl⟩))
    go_ret
    rw [HT.out]
    exact ⟨rfl, HB4.out⟩
   ·try (rw [if_pos]; case hc => rfl)
    go_simp
    have hB0 : Below w0.heap.size w0 (w0.drew.alloc (.cells #[.slice none 0 0, .slice none 0 0] 51)) := hHeld.alloc hHeld.size _
    have hZ0 := heap_alloc_new w0.drew (.cells #[.slice none 0 0, .slice none 0 0] 51)
    have hl0 : w0.heap.size < (w0.drew.alloc (.cells #[.slice none 0 0, .slice none 0 0] 51)).heap.size := by simp
    refine hK.out _ _ hB0 (fun hHeld2 => ?_)
    clear hK K hHeld
    have hHeld := hHeld2
    clear hHeld2
    refine aa 9 rfl (by kernel_rfl) (fun K hK => ?_)
    try (rw [if_pos]; case hc => rfl)
    go_simp
    refine (HFN.out _ hB0).mono ?_
    rintro e w1 he
    obtain ⟨A1, c1, A2, c2, rfl, s1, s2, hb⟩ := he.yes
    have hH : Below w0.heap.size w0 w1 := hB0.trans (hb.mono hB0.size)
    have HB1 : Hid (Below w0.heap.size w0 w1) := J hH
    have HZ1 : Hid (w1.heap[w0.heap.size]? = some (.cells #[.slice none 0 0, .slice none 0 0] 51 (0, 0))) := J ((hb.block _ hl0).trans hZ0)
    have HY1 : Hid (w0.heap.size ≤ w0.heap.size) := J (Nat.le_refl _)
    have HS1 : Hid (ab w1 (fun k => k ≠ w0.heap.size) t.params (.slice A1 t.params.length c1)) := J (s1.more (fun k hk h => by have h' : (w0.drew.alloc (.cells #[.slice none 0 0, .slice none 0 0] 51)).heap.size ≤ k := h; simp at h'; omega))
    have HS2 : Hid (ab w1 (fun k => k ≠ w0.heap.size) t.results (.slice A2 t.results.length c2)) := J (s2.more (fun k hk h => by have h' : (w0.drew.alloc (.cells #[.slice none 0 0, .slice none 0 0] 51)).heap.size ≤ k := h; simp at h'; omega))
    clear s1 s2
    go_wp2_with fail
    refine hK.out _ _ hH (fun hHeld2 => ?_)
    clear hK K hHeld
    have hHeld := hHeld2
    clear hHeld2
    refine dv 10 rfl ?_
    refine dv 11 rfl ?_
    refine dv 12 rfl ?_
    refine aa 14 rfl (by kernel_rfl) (fun K hK => ?_)
    try (rw [if_pos]; case hc => rfl)
    refine wp_store_row 51 (.tmp 5) (.tmp 24) rfl w0.heap.size #[.slice A1 t.params.length c1, .slice A2 t.results.length c2] rfl rfl 51 #[.slice none 0 0, .slice none 0 0] HZ1.out ao rfl (by simp [Value.oneCell']) ?_
    refine hK.out _ _ (ac HB1.out HY1.out _) (fun hHeld2 => ?_)
    clear hK K hHeld
    have hHeld := hHeld2
    clear hHeld2
    refine dv 15 rfl ?_
    refine wpAnyH_done (by kernel_rfl) ?_ _
    have HBF : Hid (Below w0.heap.size w0 (w1.setRow w0.heap.size #[.slice A1 t.params.length c1, .slice A2 t.results.length c2])) := J hHeld
    have HYH : Hid ((w1.setRow w0.heap.size #[.slice A1 t.params.length c1, .slice A2 t.results.length c2]).heap[w0.heap.size]? = some (.cells #[.slice A1 t.params.length c1, .slice A2 t.results.length c2] 51 (0, 0))) := J (setRow_heap _ _ #[.slice none 0 0, .slice none 0 0] #[.slice A1 t.params.length c1, .slice A2 t.results.length c2] _ _ HZ1.out)
    have HV1 := J ((ar HS1.out #[.slice A1 t.params.length c1, .slice A2 t.results.length c2] (fun k _ hs => hs)).more (S' := (· < (w1.setRow w0.heap.size #[.slice A1 t.params.length c1, .slice A2 t.results.length c2]).heap.size)) (fun k hk _ => hk))
    have HV2 := J ((ar HS2.out #[.slice A1 t.params.length c1, .slice A2 t.results.length c2] (fun k _ hs => hs)).more (S' := (· < (w1.setRow w0.heap.size #[.slice A1 t.params.length c1, .slice A2 t.results.length c2]).heap.size)) (fun k hk _ => hk))
    generalize w1.setRow w0.heap.size #[.slice A1 t.params.length c1, .slice A2 t.results.length c2] = wf at HBF HYH HV1 HV2 ⊢
    obtain ⟨Y, hY⟩ : ∃ Y, w0.heap.size = Y := ⟨_, rfl⟩
    rw [hY] at HYH
    simp only [hY]
    obtain ⟨y0, y1⟩ := ae HYH.out
    have HSA := J (ej t ⟨[], []⟩ _ _ (.slice none 0 0) (.slice none 0 0) wf HV1.out HV2.out (ab.nil _ _) (ab.nil _ _) ⟨by omega, by omega⟩ ⟨by simp, by simp⟩)
    clear HV1 HV2
    generalize decide (t = ⟨[], []⟩) = b at HSA HT
    go_wp2_with (first | (go_at_call 61; refine HSA.out.mono ?_; rintro e w4 ⟨rfl, hb⟩; have HB4 := J (HBF.out.trans (hb.mono HBF.out.size)); clear hb) | (go_at_call 53; refine (al _ 113 113 _ rfl).mono ?_; rintro e w2 ⟨rfl, rfl⟩))
    go_ret
    rw [HT.out]
    exact ⟨rfl, HB4.out⟩
end
theorem vaStr : Tryz.prog.underlying 9 = some .string := by kernel_rfl
theorem vaInt : Tryz.prog.underlying 3 = some (.int .i64) := by kernel_rfl
theorem vaMap : Tryz.prog.underlying 69 = some (.map 9 3) := by kernel_rfl
theorem vaZero (w : World) : (zeroValue 3).run Tryz.prog w = .ok (.int .i64 0) w := by kernel_rfl
theorem vaInts : Tryz.prog.underlying 35 = some (.slice 3) := by kernel_rfl
theorem vaInfo : (Tryz.prog.info? 3).map (fun i => (i.zero, i.size, i.bytes)) = some (some (.int .i64 0), 1, 8) := by kernel_rfl
section
variable {C : VC} {w w' : World} {ns : List (List UInt8)} {hs : List Nat}
theorem bM.look {mp : Nat} (h : bM w mp ns) (s : List UInt8) (hs : s.length ≤ 1050000) : ∃ c : Int, (Instr.lookup 69 (.map (some mp)) (.string ⟨s.toArray⟩) true).run Tryz.prog w = .ok (.tuple #[.int .i64 c, .bool (decide (s ∈ ns))]) w := by
 obtain ⟨D, hown, hhas⟩ := h
 have hk : keyOf Tryz.prog 9 (.string ⟨s.toArray⟩) = some (.string s) := by
  rw [WideMaps.keyOf_string_mk vaStr (by show s.toArray.size ≤ maxLen; unfold maxLen; simp; omega)]
 obtain ⟨v, ps, hrun, hv⟩ := hown.look_ok (Maps.string_keyed vaStr) vaMap (vaZero w) (plainElem_int vaInt (by decide)) hk
 obtain ⟨c, rfl, _, _⟩ := plainElem_int_inv vaInt hv
 exact ⟨c, by rw [hrun, hhas]⟩
theorem bM.put {mp : Nat} (h : bM w mp ns) (s : List UInt8) (hs : s.length ≤ 1050000) (i : Nat) (hi : i < 1000000000) (hl : ns.length ≤ 2000000) : ∃ w', (Instr.mapUpdate 69 (.map (some mp)) (.string ⟨s.toArray⟩) (.int .i64 (i : Int))).run Tryz.prog w = .ok () w' ∧ bM w' mp (ns ++ [s]) ∧ Mod (· = mp) w w' := by
 obtain ⟨D, hown, hhas⟩ := h
 have hk : keyOf Tryz.prog 9 (.string ⟨s.toArray⟩) = some (.string s) := by
  rw [WideMaps.keyOf_string_mk vaStr (by show s.toArray.size ≤ maxLen; unfold maxLen; simp; omega)]
 have hw : (Lit.int .i64 (i : Int)).wf = true := by
  simp only [Lit.wf, IntKind.min, IntKind.max, IntKind.signed, IntKind.bits, Bool.and_eq_true, decide_eq_true_eq, if_true]
  omega
 obtain ⟨w', hrun, h1, h2⟩ := hown.store (Maps.string_keyed vaStr) vaMap (by unfold maxLen; omega) hk (plainElem_int vaInt hw)
 refine ⟨w', hrun, ⟨_, by rw [List.length_append]; exact h1, fun t => ?_⟩, Mod.of_grown h2.grown (fun k e => (Option.some.inj e).symm)⟩
 by_cases ht : t = s
 ·subst ht
  rw [Maps.has_put_same hown.isMap (by trivial)]
  simp
 ·rw [Maps.has_put_other (fun e => ht (by injection e)), hhas]
  simp [ht]
theorem VSt.name (h : VSt C w ns hs) (hC : C.Good) {s : List UInt8} (hn : bM w' C.mp (ns ++ [s])) (hm : Mod (· = C.mp) w w') : VSt C w' (ns ++ [s]) hs ∧ w'.heap[C.E]? = w.heap[C.E]? := by
 obtain ⟨hv, h1, h2⟩ := h.all
 have hmp := hC.lt
 have hP := hC.hP
 have hE := hC.hE
 refine ⟨⟨h.mod.trans hm (fun _ _ e => e), Nat.lt_of_lt_of_le h.top hm.size, hn, hv, hm.heap h1 (by omega), h2.mod hm (fun g hg e => by have := (h2.lt g hg).1; omega) (fun _ _ h => h.elim)⟩, hm.block _ h.top (by omega)⟩
theorem VSt.height (h : VSt C w ns hs) (hC : C.Good) {hv v' : Value} {n : Nat} (h1 : w.heap[C.P]? = some (.cells #[C.v1, C.v2, C.v3, C.v4, C.v5, C.v6, C.v7, .bool C.m.hasStart, .int .u32 (C.m.start : Int), C.v8, C.v9, C.v10, .pointer (some ⟨C.sp, 0, none⟩), .map (some C.mp), hv] 71 (0, 0)))
  (hO : OwnL 3 w (C.E + 1) (fun _ => False) hv (hs.map Va.Ht.mk)) (hO' : OwnL 3 w' (C.E + 1) (fun g => False ∧ v'.ownBlock ≠ some g) v' (hs.map Va.Ht.mk ++ [⟨n⟩])) (hM : Mod (fun g => hv.ownBlock = some g) w w') :
  w'.heap[C.P]? = some (.cells #[C.v1, C.v2, C.v3, C.v4, C.v5, C.v6, C.v7, .bool C.m.hasStart, .int .u32 (C.m.start : Int), C.v8, C.v9, C.v10, .pointer (some ⟨C.sp, 0, none⟩), .map (some C.mp), hv] 71 (0, 0)) ∧
  VSt C (w'.setCell ⟨C.P, 14, none⟩ v') ns (hs ++ [n]) ∧ (w'.setCell ⟨C.P, 14, none⟩ v').heap[C.E]? = w.heap[C.E]? := by
 have hmp := hC.lt
 have hP := hC.hP
 have hE := hC.hE
 have ht := h.top
 have hlt := fun g hg => (hO.lt g hg).1
 have hP' := hM.heap h1 (fun e => by have := hlt _ e; omega)
 have hsz := h.mod.size
 refine ⟨hP', ⟨(h.mod.trans hM (fun k hk e => by have := hlt _ e; omega)).setCell (fun hk => by have : C.P < C.w1.heap.size := hk; omega) v', by simpa [World.setCell] using Nat.lt_of_lt_of_le h.top hM.size, ?_, v', heap_setCell_same w' C.P 14 _ _ v' hP', ?_⟩, ?_⟩
 ·exact (h.names.on (hM.block _ (by omega) (fun e => by have := hlt _ e; omega))).on (Below.heap_setCell _ _ _ _ (by show C.mp ≠ C.P; omega))
 ·rw [List.map_append]
  exact (hO'.mod (T := (· = C.P)) (Mod.setCell (T := (· = C.P)) (Mod.refl _ w') (p := ⟨C.P, 14, none⟩) (fun _ => rfl) v') (fun g hg e => by have := (hO'.lt g hg).1; omega) (fun _ _ h => h.1.elim)).more (fun _ _ h => h.1)
 ·exact (Below.heap_setCell _ _ _ _ (by show C.E ≠ C.P; omega)).trans (hM.block _ ht (fun e => by have := hlt _ e; omega))
theorem vexport_any (hC : C.Good) (h : VSt C w ns hs) (hl : ns.length ≤ 2000000) (i : Nat) (x : Exp) (hx : C.m.exports[i]? = some x) :
  Calls Tryz.prog 27 #[.pointer (some ⟨C.P, 0, none⟩), .int .i64 (i : Int)] w fun e w' => e = .returned (.int .i64 ((Va.expA C.m ns x : Nat) : Int)) ∧ (Va.expA C.m ns x = 0 → VSt C w' (ns ++ [x.name]) hs) ∧ VF C w' ∧ w'.heap[C.E]? = w.heap[C.E]? := by
 obtain ⟨hv, hin, _⟩ := h.vin hC
 have hlx := hC.fit.lots.exports
 have hln := hC.fit.names x (List.mem_of_getElem? hx)
 have hi := (List.getElem?_eq_some_iff.1 hx).1
 obtain ⟨A, c, hA, hc, _, _, hL⟩ := hin.rep.exports
 have x6 := cell15 hin.cells 6 _ rfl
 rw [hA] at x6
 obtain ⟨g, o, cs, rfl, _, hg, ⟨rfl, hxi⟩, hcs⟩ := hL i x hx
 have HTH := J (fun W (hb : Below w.heap.size w W) => bw (hin.grow hb) x.kind.toNat x.index x.kind.toNat_lt hxi)
 have k0 : w.cell? ⟨g, o + i * 3, none⟩ = some (strV x.name) := hcs 0 _ rfl
 have k1 : w.cell? ⟨g, o + i * 3 + 1, none⟩ = some (.int .u8 (x.kind.toNat : Int)) := hcs 1 _ rfl
 have k2 : w.cell? ⟨g, o + i * 3 + 2, none⟩ = some (.int .u32 (x.index : Int)) := hcs 2 _ rfl
 have H13 : Hid (∀ W, Below w.heap.size w W → W.cell? ⟨C.P, 13, none⟩ = some (.map (some C.mp))) := J (fun W hb => cell15 (hin.grow hb).cells 13 _ rfl)
 have HT : Hid (Va.expA C.m ns x = if x.index < count C.m x.kind.toNat then (if x.name ∈ ns then 111 else 0) else 80) := J rfl
 have HST := J (fun W (hb : Below w.heap.size w W) => h.on hC hb)
 have HEE : Hid (∀ W, Below w.heap.size w W → W.heap[C.E]? = w.heap[C.E]?) := J (fun W hb => hb.block _ h.top)
 have HGD := J hC
 have HLN := J hln
 have HLL := J hl
 have HNP : Hid (¬ C.P = C.mp) := J (by have := hC.hP; have := hC.lt; omega)
 have HNX : Hid (¬ w.heap.size = C.mp) := J (by have := hC.lt; have := h.mod.size; omega)
 clear hin h hC hL hcs hxi hA hln hx hl
 obtain ⟨n, e⟩ : ∃ n, C.m.exports.length = n := ⟨_, rfl⟩
 rw [e] at x6 hi hlx hc
 clear e
 have hii : (i : Int) < (n : Int) := by omega
 unfold strV at k0
 obtain ⟨b1, hb1⟩ : ∃ b, decide (x.index < count C.m x.kind.toNat) = b := ⟨_, rfl⟩
 rw [hb1] at HTH
 have HD1 := J hb1
 clear hb1
 generalize x.kind.toNat = kd at *
 generalize x.index = ix at *
 have HB0 : Hid (Below w.heap.size w (w.alloc (.cells #[.string ⟨x.name.toArray⟩, .int .u8 (kd : Int), .int .u32 (ix : Int)] 61))) := J ((Below.refl _ _).alloc (Nat.le_refl _) _)
 have HZ := J (heap_alloc_new w (.cells #[.string ⟨x.name.toArray⟩, .int .u8 (kd : Int), .int .u32 (ix : Int)] 61))
 go_enter Tryz.func27, Tryz.ntmps27
 go_upto_region 2 with fail
 generalize w.alloc (.cells #[.string ⟨x.name.toArray⟩, .int .u8 (kd : Int), .int .u32 (ix : Int)] 61) = w0 at HB0 HZ ⊢
 obtain ⟨z0, z1, z2⟩ := aG HZ.out
 have HZC := J (fun W (hb : Below w0.heap.size w0 W) => aG ((hb.block _ (Array.getElem?_eq_some_iff.1 HZ.out).1).trans HZ.out))
 cases b1 with
 | false =>
  have HTT : Hid (Va.expA C.m ns x = 80) := J (by rw [HT.out, if_neg (of_decide_eq_false HD1.out)])
  clear HT HD1
  go_wp2_with (go_at_call 60; refine (HTH.out _ HB0.out).mono ?_; rintro e w1 ⟨rfl, hb⟩; have HB1 := J (HB0.out.trans (hb.mono HB0.out.size)); have HBZ := J hb; clear hb)
  go_ret
  rw [HTT.out]
  exact ⟨rfl, fun h => absurd h (by decide), ⟨_, _, HST.out _ HB1.out⟩, HEE.out _ HB1.out⟩
 | true =>
  have HTT : Hid (Va.expA C.m ns x = if x.name ∈ ns then 111 else 0) := J (by rw [HT.out, if_pos (of_decide_eq_true HD1.out)])
  clear HT HD1
  go_upto_region 4 with (go_at_call 60; refine (HTH.out _ HB0.out).mono ?_; rintro e w1 ⟨rfl, hb⟩; have HB1 := J (HB0.out.trans (hb.mono HB0.out.size)); have HBZ := J hb; clear hb)
  clear z0 z1 z2
  obtain ⟨y0, y1, y2⟩ := HZC.out _ HBZ.out
  have y13 := H13.out _ HB1.out
  obtain ⟨cc, hrun⟩ := ((HST.out _ HB1.out).names.on (w' := w1.drew) rfl).look x.name HLN.out
  obtain ⟨was, hwas⟩ : ∃ b, decide (x.name ∈ ns) = b := ⟨_, rfl⟩
  rw [hwas] at hrun
  have HWAS := J hwas
  clear hwas
  refine wp_region_held_drew (S := fun W' => w1.drew = W') (by kernel_rfl) (rfl) (fun hHeld => ?_)
  refine dt 0 rfl (v := ?_) ?_ ?_
  rotate_left
  ·(intro wy hSw; obtain rfl := hSw; go_simp; try with_reducible rfl)
  simp only [Act.put, O]
  refine dt 1 rfl (v := ?_) ?_ ?_
  rotate_left
  ·(intro wy hSw; obtain rfl := hSw; go_simp; try with_reducible rfl)
  simp only [Act.put, O]
  refine dt 2 rfl (v := ?_) ?_ ?_
  rotate_left
  ·(intro wy hSw; obtain rfl := hSw; go_simp; try with_reducible rfl)
  simp only [Act.put, O]
  refine dt 3 rfl (v := ?_) ?_ ?_
  rotate_left
  ·(intro wy hSw; obtain rfl := hSw; go_simp; try with_reducible rfl)
  simp only [Act.put, O]
  refine dt 4 rfl (v := ?_) ?_ ?_
  rotate_left
  ·(intro wy hSw; obtain rfl := hSw; go_simp; try with_reducible rfl)
  simp only [Act.put, O]
  refine dt 5 rfl (v := ?_) ?_ ?_
  rotate_left
  ·(intro wy hSw; obtain rfl := hSw; go_simp; try with_reducible rfl)
  simp only [Act.put, O]
  refine dt 6 rfl (v := ?_) ?_ ?_
  rotate_left
  ·(intro wy hSw; obtain rfl := hSw; go_simp; try with_reducible rfl)
  simp only [Act.put, O]
  refine dt 7 rfl (v := ?_) ?_ ?_
  rotate_left
  ·(intro wy hSw; obtain rfl := hSw; go_simp; try with_reducible rfl)
  simp only [Act.put, O]
  refine dt 8 rfl (v := ?_) ?_ ?_
  rotate_left
  ·(intro wy hSw; obtain rfl := hSw; go_simp; try with_reducible rfl)
  simp only [Act.put, O]
  refine dt 9 rfl (v := ?_) ?_ ?_
  rotate_left
  ·(intro wy hSw; obtain rfl := hSw; go_simp; try with_reducible rfl)
  simp only [Act.put, O]
  refine dt 10 rfl (v := ?_) ?_ ?_
  rotate_left
  ·(intro wy hSw; obtain rfl := hSw; go_simp; try with_reducible rfl)
  simp only [Act.put, O]
  refine dt 11 rfl (v := ?_) ?_ ?_
  rotate_left
  ·(intro wy hSw; obtain rfl := hSw; go_simp; try with_reducible rfl)
  simp only [Act.put, O]
  refine wpAnyH_done (by kernel_rfl) ?_ _
  cases was with
  | true =>
   have HT2 : Hid (Va.expA C.m ns x = 111) := J (by rw [HTT.out, if_pos (of_decide_eq_true HWAS.out)])
   clear hrun
   have HBD := J (Below.drew HB1.out)
   go_wp2_with fail
   go_ret
   rw [HT2.out]
   exact ⟨rfl, fun h => absurd h (by decide), ⟨_, _, HST.out _ HBD.out⟩, HEE.out _ HBD.out⟩
  | false =>
   have HT2 : Hid (Va.expA C.m ns x = 0) := J (by rw [HTT.out, if_neg (of_decide_eq_false HWAS.out)])
   clear hrun
   have HBD := J (Below.drew HB1.out)
   have HS2 := J (HST.out _ HBD.out)
   have HE2 := J (HEE.out _ HBD.out)
   have HBZ2 : Hid (Below w0.heap.size w0 w1.drew) := J (Below.drew HBZ.out)
   have y13 := H13.out _ HBD.out
   obtain ⟨y0, y1, y2⟩ := HZC.out _ HBZ2.out
   generalize w1.drew = w2 at HS2 HE2 y0 y1 y2 y13 ⊢
   go_upto_region 7 with fail
   obtain ⟨w3, hrun3, hn3, hm3⟩ := (HS2.out.names.on (w' := w2.drew) rfl).put x.name HLN.out i (by omega) HLL.out
   have hm3' : Mod (· = C.mp) w2 w3 := (Mod.drew (Mod.refl _ w2)).trans hm3 (fun _ _ e => e)
   obtain ⟨hq, he⟩ := HS2.out.name HGD.out hn3 hm3'
   have HQ := J hq
   have HE3 := J (he.trans HE2.out)
   have HM3 := J hm3'
   clear hn3 hm3 hm3' hq he
   have HCC3 : Hid (∀ W, (w2.drew = W ∨ w3 = W) → W.cell? ⟨C.P, 13, none⟩ = some (.map (some C.mp)) ∧ W.cell? ⟨w.heap.size, 0, none⟩ = some (.string ⟨x.name.toArray⟩)) := J (fun W hW => by
    rcases hW with rfl | rfl
    ·exact ⟨y13, y0⟩
    ·exact ⟨HM3.out.cell y13 HNP.out, HM3.out.cell y0 HNX.out⟩)
   refine wp_region_held_drew (S := fun W' => w2.drew = W' ∨ w3 = W') (by kernel_rfl) (.inl rfl) (fun hHeld => ?_)
   refine dt 0 rfl (v := ?_) ?_ ?_
   rotate_left
   ·(intro wy hSw; obtain ⟨q0, q1⟩ := HCC3.out wy hSw; go_simp; try with_reducible rfl)
   simp only [Act.put, O]
   refine dt 1 rfl (v := ?_) ?_ ?_
   rotate_left
   ·(intro wy hSw; obtain ⟨q0, q1⟩ := HCC3.out wy hSw; go_simp; try with_reducible rfl)
   simp only [Act.put, O]
   refine dt 2 rfl (v := ?_) ?_ ?_
   rotate_left
   ·(intro wy hSw; obtain ⟨q0, q1⟩ := HCC3.out wy hSw; go_simp; try with_reducible rfl)
   simp only [Act.put, O]
   refine dt 3 rfl (v := ?_) ?_ ?_
   rotate_left
   ·(intro wy hSw; obtain ⟨q0, q1⟩ := HCC3.out wy hSw; go_simp; try with_reducible rfl)
   simp only [Act.put, O]
   refine dt 4 rfl (v := ?_) ?_ ?_
   rotate_left
   ·(intro wy hSw; obtain ⟨q0, q1⟩ := HCC3.out wy hSw; go_simp; try with_reducible rfl)
   simp only [Act.put, O]
   refine dt 5 rfl (v := ?_) ?_ ?_
   rotate_left
   ·(intro wy hSw; obtain ⟨q0, q1⟩ := HCC3.out wy hSw; go_simp; try with_reducible rfl)
   simp only [Act.put, O]
   refine dt 6 rfl (v := ?_) ?_ ?_
   rotate_left
   ·(intro wy hSw; obtain ⟨q0, q1⟩ := HCC3.out wy hSw; go_simp; try with_reducible rfl)
   simp only [Act.put, O]
   refine aa 7 rfl (by kernel_rfl) (fun K hK => ?_)
   try (rw [if_pos]; case hc => rfl)
   go_simp
   refine hK.out _ _ (.inr rfl) (fun hHeld2 => ?_)
   clear hK K hHeld
   have hHeld := hHeld2
   clear hHeld2
   refine wpAnyH_done (by kernel_rfl) ?_ _
   go_wp2_with fail
   go_ret
   rw [HT2.out]
   exact ⟨rfl, fun _ => HQ.out, ⟨_, _, HQ.out⟩, HE3.out⟩
end
end Go.Proofs.YtelcdmkbaegjoaaGreat
