/-
  Layer 8's program: rows that begin with what is imported; globals' types. (gen/space/of3.py)
-/
import Derived.Test.YtelcdmkbaegjoaaGreatTq01
import Derived.Test.YtelcdmkbaegjoaaGreatTq28
set_option maxRecDepth 100000
set_option maxHeartbeats 4000000
namespace Go.Proofs.YtelcdmkbaegjoaaGreat
open Go.RowKit Ins Bin Sp
def em {α : Type} [Lay α] (zs : List α) (k : Nat) (w : World) (e : Ending) (w' : World) : Prop :=
 ∃ A c, e = .returned (.agg #[.slice A zs.length c, .int .i64 (k : Int)]) ∧ ab w' (w.heap.size ≤ ·) zs (.slice A zs.length c) ∧ Below w.heap.size w w'
theorem aY {w : World} {X : Nat} {x0 x1 x2 x3 x4 x5 x6 x7 : Value} {t : TypeId} (h : w.heap[X]? = some (.cells #[x0, x1, x2, x3, x4, x5, x6, x7] t (0, 0))) : w.cell? ⟨X, 0, none⟩ = some x0 ∧ w.cell? ⟨X, 1, none⟩ = some x1 ∧ w.cell? ⟨X, 2, none⟩ = some x2 ∧ w.cell? ⟨X, 3, none⟩ = some x3 ∧ w.cell? ⟨X, 4, none⟩ = some x4 ∧ w.cell? ⟨X, 5, none⟩ = some x5 ∧ w.cell? ⟨X, 6, none⟩ = some x6 ∧ w.cell? ⟨X, 7, none⟩ = some x7 := by
 refine ⟨?_, ?_, ?_, ?_, ?_, ?_, ?_, ?_⟩ <;> (rw [cell_of_row w X _ _ t (0, 0) h]; rfl)
theorem des_srow0 : (Tryz.prog.underlying 85).map aggS = some true := by kernel_rfl
theorem ed : (Tryz.prog.info? 85).map (·.size) = some 2 := by kernel_rfl
theorem des_srow1 : (Tryz.prog.underlying 91).map aggS = some true := by kernel_rfl
theorem ef : (Tryz.prog.info? 91).map (·.size) = some 2 := by kernel_rfl
theorem des_srow3 : (Tryz.prog.underlying 97).map aggS = some true := by kernel_rfl
theorem eg : (Tryz.prog.info? 97).map (·.size) = some 2 := by kernel_rfl
theorem srow0_any (xs : List Imp) (ys : List Nat) (vx vy : Value) (k : Nat) (_hk : k < 256) (w : World) (hx0 : ab w (· < w.heap.size) xs vx) (hy0 : ab w (· < w.heap.size) ys vy) (hlx : xs.length ≤ 1050000) (hly : ys.length ≤ 1050000) :
  Calls Tryz.prog 33 #[vx, .int .u8 (k : Int), .func (.func 34) #[] #[], vy] w (em ((xs.filter fun x => x.kind.toNat == k).map (·.type) ++ ys) (xs.filter fun x => x.kind.toNat == k).length w) := by
 obtain ⟨D, hu, hd⟩ := descOf des_srow0
 have HU := J hu
 have HD := J hd
 clear hu hd
 have HY0 := J hy0
 obtain ⟨A1, c1, rfl, _, _, _, hLx⟩ := hx0
 have HLX := J hLx
 obtain ⟨A2, c2, rfl, _⟩ := hy0
 clear hLx
 obtain ⟨n1, hn1⟩ : ∃ n, xs.length = n := ⟨_, rfl⟩
 obtain ⟨n2, hn2⟩ : ∃ n, ys.length = n := ⟨_, rfl⟩
 rw [hn1] at hlx ⊢
 rw [hn2] at hly HY0 ⊢
 have HN1 := J hn1
 have HN2 := J hn2
 clear hn1 hn2
 obtain ⟨is, his⟩ : ∃ is, xs.filter (fun x : Imp => x.kind.toNat == k) = is := ⟨_, rfl⟩
 rw [his]
 have HIS := J his
 clear his
 obtain ⟨q, hqq⟩ : ∃ q, is.length = q := ⟨_, rfl⟩
 rw [hqq]
 have HQQ := J hqq
 clear hqq
 have HZ0 := J (heap_alloc_new w (.cells #[.slice none 0 0, .int .i64 0] 85))
 have HB0 : Hid (Below w.heap.size w (w.alloc (.cells #[.slice none 0 0, .int .i64 0] 85))) := J ((Below.refl _ _).alloc (Nat.le_refl _) _)
 go_enter Tryz.func33, Tryz.ntmps33
 go_upto_region 1 with fail
 generalize w.alloc (.cells #[.slice none 0 0, .int .i64 0] 85) = w0 at HZ0 HB0 ⊢
 obtain ⟨Y, hY⟩ : ∃ Y, w.heap.size = Y := ⟨_, rfl⟩
 rw [hY] at HZ0
 have HY : Hid (w.heap.size ≤ Y) := J (by omega)
 have HYL : Hid (Y < w0.heap.size) := J (Array.getElem?_eq_some_iff.1 HZ0.out).1
 simp only [hY]
 clear hY
 go_upto_region 3 with fail
 go_loopw [9, 14] (fun l i wr => ∃ j : Nat, j ≤ n1 ∧ i = .int .i64 (j : Int) ∧ Hid (OwnL 28 wr w0.heap.size (· < w0.heap.size) l (((xs.take j).filter fun x => x.kind.toNat == k).map (·.type))) ∧ Hid (Below w0.heap.size w0 wr)) (fun _ i _ => n1 - (intOf i).toNat)
 case atStart => exact ⟨0, Nat.zero_le _, rfl, J (OwnL.nil _ _ _ _), J (Below.refl _ _)⟩
 case round =>
  obtain ⟨j, hj, rfl, HO, HB⟩ := hrel
  have hle := ez (fun x : Imp => x.kind.toNat == k) xs j
  by_cases hlt : j < n1
  ·have hlti : (j : Int) < (n1 : Int) := by omega
   obtain ⟨x, hx⟩ : ∃ x, xs[j]? = some x := ⟨_, List.getElem?_eq_getElem (by rw [HN1.out]; exact hlt)⟩
   obtain ⟨g, o, rfl, hg, _, hxt, hxl, hc⟩ := cV HLX.out hx
   have hbw := HB0.out.trans (HB.out.mono HB0.out.size)
   have HCC := J (fun (z : Nat) (u : Value) (h : (impCells x)[z]? = some u) => (hbw.cell (p := ⟨g, o + j * 8 + z, none⟩) hg).trans (hc z u h))
   have k0 : wr.cell? ⟨g, o + j * 8, none⟩ = some (strV x.mod) := HCC.out 0 _ rfl
   have k1 : wr.cell? ⟨g, o + j * 8 + 1, none⟩ = some (strV x.name) := HCC.out 1 _ rfl
   have k2 : wr.cell? ⟨g, o + j * 8 + 2, none⟩ = some (.int .u8 (x.kind.toNat : Int)) := HCC.out 2 _ rfl
   have k3 : wr.cell? ⟨g, o + j * 8 + 3, none⟩ = some (.int .u32 (x.type : Int)) := HCC.out 3 _ rfl
   have k4 : wr.cell? ⟨g, o + j * 8 + 4, none⟩ = some (.int .u32 (x.lim.min : Int)) := HCC.out 4 _ rfl
   have k5 : wr.cell? ⟨g, o + j * 8 + 5, none⟩ = some (.int .i64 x.lim.max) := HCC.out 5 _ rfl
   have k6 : wr.cell? ⟨g, o + j * 8 + 6, none⟩ = some (.int .u8 (x.glob.t.toNat : Int)) := HCC.out 6 _ rfl
   have k7 : wr.cell? ⟨g, o + j * 8 + 7, none⟩ = some (.bool x.glob.mu) := HCC.out 7 _ rfl
   unfold strV at k0 k1
   have hxk := x.kind.toNat_lt
   have HBA : Hid (Below w0.heap.size w0 (wr.alloc (.cells #[.string ⟨x.mod.toArray⟩, .string ⟨x.name.toArray⟩, .int .u8 (x.kind.toNat : Int), .int .u32 (x.type : Int), .int .u32 (x.lim.min : Int), .int .i64 x.lim.max, .int .u8 (x.glob.t.toNat : Int), .bool x.glob.mu] 78))) := J (HB.out.alloc HB.out.size _)
   have HA := J (heap_alloc_new wr (.cells #[.string ⟨x.mod.toArray⟩, .string ⟨x.name.toArray⟩, .int .u8 (x.kind.toNat : Int), .int .u32 (x.type : Int), .int .u32 (x.lim.min : Int), .int .i64 x.lim.max, .int .u8 (x.glob.t.toNat : Int), .bool x.glob.mu] 78))
   have HMA : Hid (Mod (fun _ => False) wr (wr.alloc (.cells #[.string ⟨x.mod.toArray⟩, .string ⟨x.name.toArray⟩, .int .u8 (x.kind.toNat : Int), .int .u32 (x.type : Int), .int .u32 (x.lim.min : Int), .int .i64 x.lim.max, .int .u8 (x.glob.t.toNat : Int), .bool x.glob.mu] 78))) := J ((Mod.refl _ wr).alloc _)
   have HAL : Hid (wr.heap.size < (wr.alloc (.cells #[.string ⟨x.mod.toArray⟩, .string ⟨x.name.toArray⟩, .int .u8 (x.kind.toNat : Int), .int .u32 (x.type : Int), .int .u32 (x.lim.min : Int), .int .i64 x.lim.max, .int .u8 (x.glob.t.toNat : Int), .bool x.glob.mu] 78)).heap.size) := J (by simp)
   have HXL := J hxl
   by_cases hq : x.kind.toNat = k
   ·have HS := J (dE (p := fun x : Imp => x.kind.toNat == k) hx (by simp [hq]))
    have hqe : ((x.kind.toNat : Int) == (k : Int)) = true := by simp [hq]
    clear hc hx hq hbw hg hxl
    go_upto_region 5 with fail
    generalize wr.alloc (.cells #[.string ⟨x.mod.toArray⟩, .string ⟨x.name.toArray⟩, .int .u8 (x.kind.toNat : Int), .int .u32 (x.type : Int), .int .u32 (x.lim.min : Int), .int .i64 x.lim.max, .int .u8 (x.glob.t.toNat : Int), .bool x.glob.mu] 78) = wa at HBA HA HMA HAL ⊢
    clear k0 k1 k2 k3 k4 k5 k6 k7
    obtain ⟨a0, a1, a2, a3, a4, a5, a6, a7⟩ := aY HA.out
    go_wp2_with fail
    refine (sask0_any x _).mono ?_
    rintro e w2 ⟨rfl, hb2⟩
    have HB2 := J (HBA.out.trans (hb2.mono HBA.out.size))
    have hO2 : OwnL 28 w2 w0.heap.size (· < w0.heap.size) u9 _ := HO.out.mod (HMA.out.trans (Mod.of_below (T := fun _ => False) hb2) (fun _ _ h => h)) (fun _ _ h => h) (fun _ _ _ h => h)
    obtain ⟨v5, w5, hrun, hO5, hM5, hT5⟩ := append1L undNat infNat (by decide) rfl (by decide) w2 w0.heap.size (· < w0.heap.size) u9 _ (x.type) [.int .u32 (x.type : Int)] hO2 (by simp; omega) HB2.out.size ⟨rfl, hxt⟩ (by simp [Value.oneCell']) (fun g' _ hg' e => by have := (HO.out.lt g' e).1; omega)
    have HRUN := J hrun
    have HO5 := J (hO5.flat (S' := (· < w0.heap.size)))
    have HB5 : Hid (Below w0.heap.size w0 w5) := J (HB2.out.trans (hM5.below HB2.out.size (fun g' hg' e => by have := (HO.out.lt g' e).1; omega)))
    clear hb2 hO2 hrun hO5 hM5 hT5 a0 a1 a2 a3 a4 a5 a6 a7
    go_wp2_with (at_builtin; refine ag rfl (.tmp 22) (.tmp 26) 24 rfl _ _ _ w5 rfl rfl HRUN.out ?_)
    go_roundw
    case rel => exact ⟨j + 1, by omega, by go_num, J (by rw [HS.out, List.map_append]; exact HO5.out), HB5⟩
    case measure => simp [intOf]; omega
   ·have HS := J (eA (p := fun x : Imp => x.kind.toNat == k) hx (by simp [hq]))
    have hqe : ((x.kind.toNat : Int) == (k : Int)) = false := by rw [beq_eq_false_iff_ne]; omega
    clear hc hx hq hbw hg hxl
    go_upto_region 5 with fail
    generalize wr.alloc (.cells #[.string ⟨x.mod.toArray⟩, .string ⟨x.name.toArray⟩, .int .u8 (x.kind.toNat : Int), .int .u32 (x.type : Int), .int .u32 (x.lim.min : Int), .int .i64 x.lim.max, .int .u8 (x.glob.t.toNat : Int), .bool x.glob.mu] 78) = wa at HBA HA HMA HAL ⊢
    clear k0 k1 k2 k3 k4 k5 k6 k7
    obtain ⟨a0, a1, a2, a3, a4, a5, a6, a7⟩ := aY HA.out
    go_wp2_with fail
    go_roundw
    case rel => exact ⟨j + 1, by omega, by go_num, J (by rw [HS.out]; exact HO.out.mod HMA.out (fun _ _ h => h) (fun _ _ _ h => h)), HBA⟩
    case measure => simp [intOf]; omega
  ·have hlti : decide ((j : Int) < (n1 : Int)) = false := decide_eq_false (by omega)
   have HA := J (dD (p := fun x : Imp => x.kind.toNat == k) (xs := xs) (k := j) (by rw [HN1.out]; omega))
   have hO := HO.out
   rw [HA.out, HIS.out] at hO hle
   obtain ⟨B, d, rfl, hq1, hq2⟩ := hO.form
   have hbw := HB0.out.trans (HB.out.mono HB0.out.size)
   have hY1 := HY0.out
   have hYs : HasL wr (· < w0.heap.size) A2 ys := by
    obtain ⟨A', c', e, _, _, _, hL⟩ := hY1
    injection e with e1 e2 e3
    subst e1
    exact (hL.mod (T := fun _ => False) (Mod.of_below hbw) (fun _ _ _ h => h)).more (fun _ _ hk => Nat.lt_of_lt_of_le hk HB0.out.size)
   obtain ⟨v5, w5, hrun, hO5, hM5, hT5⟩ := appendL undNat infNat (by decide) rfl (by decide) wr w0.heap.size (· < w0.heap.size) _ _ ys A2 n2 c2 hO hYs HN2.out.symm (by simp; have := HN2.out; omega) HB.out.size (fun g' _ hg' e => by have := (hO.lt g' e).1; omega)
   have hO6 := hO5.flat (S' := (· < w0.heap.size))
   obtain ⟨B5, d5, rfl, _, _⟩ := hO6.form
   have HRUN := J hrun
   have HSL := J hO6.slice
   have HB5 : Hid (Below w0.heap.size w0 w5) := J (HB.out.trans (hM5.below HB.out.size (fun g' hg' e => by have := (hO.lt g' e).1; omega)))
   have hZ5 := (HB5.out.block Y HYL.out).trans HZ0.out
   have HZ5 := J hZ5
   simp only [List.length_map] at HRUN hq1 hq2 ⊢
   have hqq := HQQ.out
   obtain ⟨r, hrr⟩ : ∃ r, (is.map (·.type) ++ ys).length = r := ⟨_, rfl⟩
   rw [hqq] at HRUN hle hq1 ⊢
   rw [hrr] at HRUN HSL
   have HRR := J hrr
   clear hqq hrr hrun hO5 hM5 hT5 hO6 hZ5 hY1 hYs hbw hO HA HO
   go_wp2_with (first | (at_builtin; refine ag rfl (.tmp 29) (.tmp 30) 24 rfl _ _ _ w5 rfl rfl HRUN.out ?_) | (refine aj rfl 85 (.tmp 8) (.tmp 34) rfl rfl Y #[.slice B5 r d5, .int .i64 (q : Int)] rfl rfl 85 #[.slice none 0 0, .int .i64 0] HZ5.out ed rfl (by simp [Value.oneCell']) ?_))
   have HZZ := setRow_heap w5 Y #[.slice none 0 0, .int .i64 0] #[.slice B5 r d5, .int .i64 (q : Int)] _ _ HZ5.out
   refine bodyPost_ret (v := .agg #[.slice B5 r d5, .int .i64 (q : Int)]) (bh (p := 8) (ty := 85) (by kernel_rfl) _ _ Y 85 #[.slice B5 r d5, .int .i64 (q : Int)] (0, 0) D rfl HZZ HU.out HD.out ed) rfl ?_
   have hms : Mod (· = Y) w5 (w5.setRow Y #[.slice B5 r d5, .int .i64 (q : Int)]) := ⟨rfl, rfl, rfl, by simp, fun k _ ht => setRow_other w5 Y k _ ht⟩
   refine ⟨B5, d5, by rw [HRR.out], ?_, ac (HB0.out.trans (HB5.out.mono HB0.out.size)) HY.out _⟩
   rw [HRR.out]
   exact (HSL.out.mod hms (fun g _ hg e => by have := HYL.out; omega)).more (fun g _ hg => Nat.le_trans HB0.out.size hg)
theorem eh (xs : List Imp) (ys : List Lim) (vx vy : Value) (k : Nat) (_hk : k < 256) (w : World) (hx0 : ab w (· < w.heap.size) xs vx) (hy0 : ab w (· < w.heap.size) ys vy) (hlx : xs.length ≤ 1050000) (hly : ys.length ≤ 1050000) :
  Calls Tryz.prog 35 #[vx, .int .u8 (k : Int), .func (.func 36) #[] #[], vy] w (em ((xs.filter fun x => x.kind.toNat == k).map (·.lim) ++ ys) (xs.filter fun x => x.kind.toNat == k).length w) := by
 obtain ⟨D, hu, hd⟩ := descOf des_srow1
 have HU := J hu
 have HD := J hd
 clear hu hd
 have HY0 := J hy0
 obtain ⟨A1, c1, rfl, _, _, _, hLx⟩ := hx0
 have HLX := J hLx
 obtain ⟨A2, c2, rfl, _⟩ := hy0
 clear hLx
 obtain ⟨n1, hn1⟩ : ∃ n, xs.length = n := ⟨_, rfl⟩
 obtain ⟨n2, hn2⟩ : ∃ n, ys.length = n := ⟨_, rfl⟩
 rw [hn1] at hlx ⊢
 rw [hn2] at hly HY0 ⊢
 have HN1 := J hn1
 have HN2 := J hn2
 clear hn1 hn2
 obtain ⟨is, his⟩ : ∃ is, xs.filter (fun x : Imp => x.kind.toNat == k) = is := ⟨_, rfl⟩
 rw [his]
 have HIS := J his
 clear his
 obtain ⟨q, hqq⟩ : ∃ q, is.length = q := ⟨_, rfl⟩
 rw [hqq]
 have HQQ := J hqq
 clear hqq
 have HZ0 := J (heap_alloc_new w (.cells #[.slice none 0 0, .int .i64 0] 91))
 have HB0 : Hid (Below w.heap.size w (w.alloc (.cells #[.slice none 0 0, .int .i64 0] 91))) := J ((Below.refl _ _).alloc (Nat.le_refl _) _)
 go_enter Tryz.func35, Tryz.ntmps35
 go_upto_region 1 with fail
 generalize w.alloc (.cells #[.slice none 0 0, .int .i64 0] 91) = w0 at HZ0 HB0 ⊢
 obtain ⟨Y, hY⟩ : ∃ Y, w.heap.size = Y := ⟨_, rfl⟩
 rw [hY] at HZ0
 have HY : Hid (w.heap.size ≤ Y) := J (by omega)
 have HYL : Hid (Y < w0.heap.size) := J (Array.getElem?_eq_some_iff.1 HZ0.out).1
 simp only [hY]
 clear hY
 go_upto_region 3 with fail
 go_loopw [9, 14] (fun l i wr => ∃ j : Nat, j ≤ n1 ∧ i = .int .i64 (j : Int) ∧ Hid (OwnL 65 wr w0.heap.size (· < w0.heap.size) l (((xs.take j).filter fun x => x.kind.toNat == k).map (·.lim))) ∧ Hid (Below w0.heap.size w0 wr)) (fun _ i _ => n1 - (intOf i).toNat)
 case atStart => exact ⟨0, Nat.zero_le _, rfl, J (OwnL.nil _ _ _ _), J (Below.refl _ _)⟩
 case round =>
  obtain ⟨j, hj, rfl, HO, HB⟩ := hrel
  have hle := ez (fun x : Imp => x.kind.toNat == k) xs j
  by_cases hlt : j < n1
  ·have hlti : (j : Int) < (n1 : Int) := by omega
   obtain ⟨x, hx⟩ : ∃ x, xs[j]? = some x := ⟨_, List.getElem?_eq_getElem (by rw [HN1.out]; exact hlt)⟩
   obtain ⟨g, o, rfl, hg, _, hxt, hxl, hc⟩ := cV HLX.out hx
   have hbw := HB0.out.trans (HB.out.mono HB0.out.size)
   have HCC := J (fun (z : Nat) (u : Value) (h : (impCells x)[z]? = some u) => (hbw.cell (p := ⟨g, o + j * 8 + z, none⟩) hg).trans (hc z u h))
   have k0 : wr.cell? ⟨g, o + j * 8, none⟩ = some (strV x.mod) := HCC.out 0 _ rfl
   have k1 : wr.cell? ⟨g, o + j * 8 + 1, none⟩ = some (strV x.name) := HCC.out 1 _ rfl
   have k2 : wr.cell? ⟨g, o + j * 8 + 2, none⟩ = some (.int .u8 (x.kind.toNat : Int)) := HCC.out 2 _ rfl
   have k3 : wr.cell? ⟨g, o + j * 8 + 3, none⟩ = some (.int .u32 (x.type : Int)) := HCC.out 3 _ rfl
   have k4 : wr.cell? ⟨g, o + j * 8 + 4, none⟩ = some (.int .u32 (x.lim.min : Int)) := HCC.out 4 _ rfl
   have k5 : wr.cell? ⟨g, o + j * 8 + 5, none⟩ = some (.int .i64 x.lim.max) := HCC.out 5 _ rfl
   have k6 : wr.cell? ⟨g, o + j * 8 + 6, none⟩ = some (.int .u8 (x.glob.t.toNat : Int)) := HCC.out 6 _ rfl
   have k7 : wr.cell? ⟨g, o + j * 8 + 7, none⟩ = some (.bool x.glob.mu) := HCC.out 7 _ rfl
   unfold strV at k0 k1
   have hxk := x.kind.toNat_lt
   have HBA : Hid (Below w0.heap.size w0 (wr.alloc (.cells #[.string ⟨x.mod.toArray⟩, .string ⟨x.name.toArray⟩, .int .u8 (x.kind.toNat : Int), .int .u32 (x.type : Int), .int .u32 (x.lim.min : Int), .int .i64 x.lim.max, .int .u8 (x.glob.t.toNat : Int), .bool x.glob.mu] 78))) := J (HB.out.alloc HB.out.size _)
   have HA := J (heap_alloc_new wr (.cells #[.string ⟨x.mod.toArray⟩, .string ⟨x.name.toArray⟩, .int .u8 (x.kind.toNat : Int), .int .u32 (x.type : Int), .int .u32 (x.lim.min : Int), .int .i64 x.lim.max, .int .u8 (x.glob.t.toNat : Int), .bool x.glob.mu] 78))
   have HMA : Hid (Mod (fun _ => False) wr (wr.alloc (.cells #[.string ⟨x.mod.toArray⟩, .string ⟨x.name.toArray⟩, .int .u8 (x.kind.toNat : Int), .int .u32 (x.type : Int), .int .u32 (x.lim.min : Int), .int .i64 x.lim.max, .int .u8 (x.glob.t.toNat : Int), .bool x.glob.mu] 78))) := J ((Mod.refl _ wr).alloc _)
   have HAL : Hid (wr.heap.size < (wr.alloc (.cells #[.string ⟨x.mod.toArray⟩, .string ⟨x.name.toArray⟩, .int .u8 (x.kind.toNat : Int), .int .u32 (x.type : Int), .int .u32 (x.lim.min : Int), .int .i64 x.lim.max, .int .u8 (x.glob.t.toNat : Int), .bool x.glob.mu] 78)).heap.size) := J (by simp)
   have HXL := J hxl
   by_cases hq : x.kind.toNat = k
   ·have HS := J (dE (p := fun x : Imp => x.kind.toNat == k) hx (by simp [hq]))
    have hqe : ((x.kind.toNat : Int) == (k : Int)) = true := by simp [hq]
    clear hc hx hq hbw hg hxl
    go_upto_region 5 with fail
    generalize wr.alloc (.cells #[.string ⟨x.mod.toArray⟩, .string ⟨x.name.toArray⟩, .int .u8 (x.kind.toNat : Int), .int .u32 (x.type : Int), .int .u32 (x.lim.min : Int), .int .i64 x.lim.max, .int .u8 (x.glob.t.toNat : Int), .bool x.glob.mu] 78) = wa at HBA HA HMA HAL ⊢
    clear k0 k1 k2 k3 k4 k5 k6 k7
    obtain ⟨a0, a1, a2, a3, a4, a5, a6, a7⟩ := aY HA.out
    go_wp2_with fail
    refine (sask1_any x _).mono ?_
    rintro e w2 ⟨rfl, hb2⟩
    have HB2 := J (HBA.out.trans (hb2.mono HBA.out.size))
    have hO2 : OwnL 65 w2 w0.heap.size (· < w0.heap.size) u9 _ := HO.out.mod (HMA.out.trans (Mod.of_below (T := fun _ => False) hb2) (fun _ _ h => h)) (fun _ _ h => h) (fun _ _ _ h => h)
    obtain ⟨v5, w5, hrun, hO5, hM5, hT5⟩ := append1L undLim infLim (by decide) rfl (by decide) w2 w0.heap.size (· < w0.heap.size) u9 _ (x.lim) [.int .u32 (x.lim.min : Int), .int .i64 x.lim.max] hO2 (by simp; omega) HB2.out.size ⟨rfl, HXL.out⟩ (by simp [Value.oneCell']) (fun g' _ hg' e => by have := (HO.out.lt g' e).1; omega)
    have HRUN := J hrun
    have HO5 := J (hO5.flat (S' := (· < w0.heap.size)))
    have HB5 : Hid (Below w0.heap.size w0 w5) := J (HB2.out.trans (hM5.below HB2.out.size (fun g' hg' e => by have := (HO.out.lt g' e).1; omega)))
    clear hb2 hO2 hrun hO5 hM5 hT5 a0 a1 a2 a3 a4 a5 a6 a7
    go_wp2_with (at_builtin; refine ag rfl (.tmp 22) (.tmp 26) 25 rfl _ _ _ w5 rfl rfl HRUN.out ?_)
    go_roundw
    case rel => exact ⟨j + 1, by omega, by go_num, J (by rw [HS.out, List.map_append]; exact HO5.out), HB5⟩
    case measure => simp [intOf]; omega
   ·have HS := J (eA (p := fun x : Imp => x.kind.toNat == k) hx (by simp [hq]))
    have hqe : ((x.kind.toNat : Int) == (k : Int)) = false := by rw [beq_eq_false_iff_ne]; omega
    clear hc hx hq hbw hg hxl
    go_upto_region 5 with fail
    generalize wr.alloc (.cells #[.string ⟨x.mod.toArray⟩, .string ⟨x.name.toArray⟩, .int .u8 (x.kind.toNat : Int), .int .u32 (x.type : Int), .int .u32 (x.lim.min : Int), .int .i64 x.lim.max, .int .u8 (x.glob.t.toNat : Int), .bool x.glob.mu] 78) = wa at HBA HA HMA HAL ⊢
    clear k0 k1 k2 k3 k4 k5 k6 k7
    obtain ⟨a0, a1, a2, a3, a4, a5, a6, a7⟩ := aY HA.out
    go_wp2_with fail
    go_roundw
    case rel => exact ⟨j + 1, by omega, by go_num, J (by rw [HS.out]; exact HO.out.mod HMA.out (fun _ _ h => h) (fun _ _ _ h => h)), HBA⟩
    case measure => simp [intOf]; omega
  ·have hlti : decide ((j : Int) < (n1 : Int)) = false := decide_eq_false (by omega)
   have HA := J (dD (p := fun x : Imp => x.kind.toNat == k) (xs := xs) (k := j) (by rw [HN1.out]; omega))
   have hO := HO.out
   rw [HA.out, HIS.out] at hO hle
   obtain ⟨B, d, rfl, hq1, hq2⟩ := hO.form
   have hbw := HB0.out.trans (HB.out.mono HB0.out.size)
   have hY1 := HY0.out
   have hYs : HasL wr (· < w0.heap.size) A2 ys := by
    obtain ⟨A', c', e, _, _, _, hL⟩ := hY1
    injection e with e1 e2 e3
    subst e1
    exact (hL.mod (T := fun _ => False) (Mod.of_below hbw) (fun _ _ _ h => h)).more (fun _ _ hk => Nat.lt_of_lt_of_le hk HB0.out.size)
   obtain ⟨v5, w5, hrun, hO5, hM5, hT5⟩ := appendL undLim infLim (by decide) rfl (by decide) wr w0.heap.size (· < w0.heap.size) _ _ ys A2 n2 c2 hO hYs HN2.out.symm (by simp; have := HN2.out; omega) HB.out.size (fun g' _ hg' e => by have := (hO.lt g' e).1; omega)
   have hO6 := hO5.flat (S' := (· < w0.heap.size))
   obtain ⟨B5, d5, rfl, _, _⟩ := hO6.form
   have HRUN := J hrun
   have HSL := J hO6.slice
   have HB5 : Hid (Below w0.heap.size w0 w5) := J (HB.out.trans (hM5.below HB.out.size (fun g' hg' e => by have := (hO.lt g' e).1; omega)))
   have hZ5 := (HB5.out.block Y HYL.out).trans HZ0.out
   have HZ5 := J hZ5
   simp only [List.length_map] at HRUN hq1 hq2 ⊢
   have hqq := HQQ.out
   obtain ⟨r, hrr⟩ : ∃ r, (is.map (·.lim) ++ ys).length = r := ⟨_, rfl⟩
   rw [hqq] at HRUN hle hq1 ⊢
   rw [hrr] at HRUN HSL
   have HRR := J hrr
   clear hqq hrr hrun hO5 hM5 hT5 hO6 hZ5 hY1 hYs hbw hO HA HO
   go_wp2_with (first | (at_builtin; refine ag rfl (.tmp 29) (.tmp 30) 25 rfl _ _ _ w5 rfl rfl HRUN.out ?_) | (refine aj rfl 91 (.tmp 8) (.tmp 34) rfl rfl Y #[.slice B5 r d5, .int .i64 (q : Int)] rfl rfl 91 #[.slice none 0 0, .int .i64 0] HZ5.out ef rfl (by simp [Value.oneCell']) ?_))
   have HZZ := setRow_heap w5 Y #[.slice none 0 0, .int .i64 0] #[.slice B5 r d5, .int .i64 (q : Int)] _ _ HZ5.out
   refine bodyPost_ret (v := .agg #[.slice B5 r d5, .int .i64 (q : Int)]) (bh (p := 8) (ty := 91) (by kernel_rfl) _ _ Y 91 #[.slice B5 r d5, .int .i64 (q : Int)] (0, 0) D rfl HZZ HU.out HD.out ef) rfl ?_
   have hms : Mod (· = Y) w5 (w5.setRow Y #[.slice B5 r d5, .int .i64 (q : Int)]) := ⟨rfl, rfl, rfl, by simp, fun k _ ht => setRow_other w5 Y k _ ht⟩
   refine ⟨B5, d5, by rw [HRR.out], ?_, ac (HB0.out.trans (HB5.out.mono HB0.out.size)) HY.out _⟩
   rw [HRR.out]
   exact (HSL.out.mod hms (fun g _ hg e => by have := HYL.out; omega)).more (fun g _ hg => Nat.le_trans HB0.out.size hg)
theorem srow3_any (xs : List Imp) (ys : List Glob) (vx vy : Value) (k : Nat) (_hk : k < 256) (w : World) (hx0 : ab w (· < w.heap.size) xs vx) (hy0 : ab w (· < w.heap.size) ys vy) (hlx : xs.length ≤ 1050000) (hly : ys.length ≤ 1050000) :
  Calls Tryz.prog 37 #[vx, .int .u8 (k : Int), .func (.func 38) #[] #[], vy] w (em ((xs.filter fun x => x.kind.toNat == k).map (·.glob) ++ ys) (xs.filter fun x => x.kind.toNat == k).length w) := by
 obtain ⟨D, hu, hd⟩ := descOf des_srow3
 have HU := J hu
 have HD := J hd
 clear hu hd
 have HY0 := J hy0
 obtain ⟨A1, c1, rfl, _, _, _, hLx⟩ := hx0
 have HLX := J hLx
 obtain ⟨A2, c2, rfl, _⟩ := hy0
 clear hLx
 obtain ⟨n1, hn1⟩ : ∃ n, xs.length = n := ⟨_, rfl⟩
 obtain ⟨n2, hn2⟩ : ∃ n, ys.length = n := ⟨_, rfl⟩
 rw [hn1] at hlx ⊢
 rw [hn2] at hly HY0 ⊢
 have HN1 := J hn1
 have HN2 := J hn2
 clear hn1 hn2
 obtain ⟨is, his⟩ : ∃ is, xs.filter (fun x : Imp => x.kind.toNat == k) = is := ⟨_, rfl⟩
 rw [his]
 have HIS := J his
 clear his
 obtain ⟨q, hqq⟩ : ∃ q, is.length = q := ⟨_, rfl⟩
 rw [hqq]
 have HQQ := J hqq
 clear hqq
 have HZ0 := J (heap_alloc_new w (.cells #[.slice none 0 0, .int .i64 0] 97))
 have HB0 : Hid (Below w.heap.size w (w.alloc (.cells #[.slice none 0 0, .int .i64 0] 97))) := J ((Below.refl _ _).alloc (Nat.le_refl _) _)
 go_enter Tryz.func37, Tryz.ntmps37
 go_upto_region 1 with fail
 generalize w.alloc (.cells #[.slice none 0 0, .int .i64 0] 97) = w0 at HZ0 HB0 ⊢
 obtain ⟨Y, hY⟩ : ∃ Y, w.heap.size = Y := ⟨_, rfl⟩
 rw [hY] at HZ0
 have HY : Hid (w.heap.size ≤ Y) := J (by omega)
 have HYL : Hid (Y < w0.heap.size) := J (Array.getElem?_eq_some_iff.1 HZ0.out).1
 simp only [hY]
 clear hY
 go_upto_region 3 with fail
 go_loopw [9, 14] (fun l i wr => ∃ j : Nat, j ≤ n1 ∧ i = .int .i64 (j : Int) ∧ Hid (OwnL 76 wr w0.heap.size (· < w0.heap.size) l (((xs.take j).filter fun x => x.kind.toNat == k).map (·.glob))) ∧ Hid (Below w0.heap.size w0 wr)) (fun _ i _ => n1 - (intOf i).toNat)
 case atStart => exact ⟨0, Nat.zero_le _, rfl, J (OwnL.nil _ _ _ _), J (Below.refl _ _)⟩
 case round =>
  obtain ⟨j, hj, rfl, HO, HB⟩ := hrel
  have hle := ez (fun x : Imp => x.kind.toNat == k) xs j
  by_cases hlt : j < n1
  ·have hlti : (j : Int) < (n1 : Int) := by omega
   obtain ⟨x, hx⟩ : ∃ x, xs[j]? = some x := ⟨_, List.getElem?_eq_getElem (by rw [HN1.out]; exact hlt)⟩
   obtain ⟨g, o, rfl, hg, _, hxt, hxl, hc⟩ := cV HLX.out hx
   have hbw := HB0.out.trans (HB.out.mono HB0.out.size)
   have HCC := J (fun (z : Nat) (u : Value) (h : (impCells x)[z]? = some u) => (hbw.cell (p := ⟨g, o + j * 8 + z, none⟩) hg).trans (hc z u h))
   have k0 : wr.cell? ⟨g, o + j * 8, none⟩ = some (strV x.mod) := HCC.out 0 _ rfl
   have k1 : wr.cell? ⟨g, o + j * 8 + 1, none⟩ = some (strV x.name) := HCC.out 1 _ rfl
   have k2 : wr.cell? ⟨g, o + j * 8 + 2, none⟩ = some (.int .u8 (x.kind.toNat : Int)) := HCC.out 2 _ rfl
   have k3 : wr.cell? ⟨g, o + j * 8 + 3, none⟩ = some (.int .u32 (x.type : Int)) := HCC.out 3 _ rfl
   have k4 : wr.cell? ⟨g, o + j * 8 + 4, none⟩ = some (.int .u32 (x.lim.min : Int)) := HCC.out 4 _ rfl
   have k5 : wr.cell? ⟨g, o + j * 8 + 5, none⟩ = some (.int .i64 x.lim.max) := HCC.out 5 _ rfl
   have k6 : wr.cell? ⟨g, o + j * 8 + 6, none⟩ = some (.int .u8 (x.glob.t.toNat : Int)) := HCC.out 6 _ rfl
   have k7 : wr.cell? ⟨g, o + j * 8 + 7, none⟩ = some (.bool x.glob.mu) := HCC.out 7 _ rfl
   unfold strV at k0 k1
   have hxk := x.kind.toNat_lt
   have HBA : Hid (Below w0.heap.size w0 (wr.alloc (.cells #[.string ⟨x.mod.toArray⟩, .string ⟨x.name.toArray⟩, .int .u8 (x.kind.toNat : Int), .int .u32 (x.type : Int), .int .u32 (x.lim.min : Int), .int .i64 x.lim.max, .int .u8 (x.glob.t.toNat : Int), .bool x.glob.mu] 78))) := J (HB.out.alloc HB.out.size _)
   have HA := J (heap_alloc_new wr (.cells #[.string ⟨x.mod.toArray⟩, .string ⟨x.name.toArray⟩, .int .u8 (x.kind.toNat : Int), .int .u32 (x.type : Int), .int .u32 (x.lim.min : Int), .int .i64 x.lim.max, .int .u8 (x.glob.t.toNat : Int), .bool x.glob.mu] 78))
   have HMA : Hid (Mod (fun _ => False) wr (wr.alloc (.cells #[.string ⟨x.mod.toArray⟩, .string ⟨x.name.toArray⟩, .int .u8 (x.kind.toNat : Int), .int .u32 (x.type : Int), .int .u32 (x.lim.min : Int), .int .i64 x.lim.max, .int .u8 (x.glob.t.toNat : Int), .bool x.glob.mu] 78))) := J ((Mod.refl _ wr).alloc _)
   have HAL : Hid (wr.heap.size < (wr.alloc (.cells #[.string ⟨x.mod.toArray⟩, .string ⟨x.name.toArray⟩, .int .u8 (x.kind.toNat : Int), .int .u32 (x.type : Int), .int .u32 (x.lim.min : Int), .int .i64 x.lim.max, .int .u8 (x.glob.t.toNat : Int), .bool x.glob.mu] 78)).heap.size) := J (by simp)
   have HXL := J hxl
   by_cases hq : x.kind.toNat = k
   ·have HS := J (dE (p := fun x : Imp => x.kind.toNat == k) hx (by simp [hq]))
    have hqe : ((x.kind.toNat : Int) == (k : Int)) = true := by simp [hq]
    clear hc hx hq hbw hg hxl
    go_upto_region 5 with fail
    generalize wr.alloc (.cells #[.string ⟨x.mod.toArray⟩, .string ⟨x.name.toArray⟩, .int .u8 (x.kind.toNat : Int), .int .u32 (x.type : Int), .int .u32 (x.lim.min : Int), .int .i64 x.lim.max, .int .u8 (x.glob.t.toNat : Int), .bool x.glob.mu] 78) = wa at HBA HA HMA HAL ⊢
    clear k0 k1 k2 k3 k4 k5 k6 k7
    obtain ⟨a0, a1, a2, a3, a4, a5, a6, a7⟩ := aY HA.out
    go_wp2_with fail
    refine (sask3_any x _).mono ?_
    rintro e w2 ⟨rfl, hb2⟩
    have HB2 := J (HBA.out.trans (hb2.mono HBA.out.size))
    have hO2 : OwnL 76 w2 w0.heap.size (· < w0.heap.size) u9 _ := HO.out.mod (HMA.out.trans (Mod.of_below (T := fun _ => False) hb2) (fun _ _ h => h)) (fun _ _ h => h) (fun _ _ _ h => h)
    obtain ⟨v5, w5, hrun, hO5, hM5, hT5⟩ := append1L undGlob infGlob (by decide) rfl (by decide) w2 w0.heap.size (· < w0.heap.size) u9 _ (x.glob) [.int .u8 (x.glob.t.toNat : Int), .bool x.glob.mu] hO2 (by simp; omega) HB2.out.size rfl (by simp [Value.oneCell']) (fun g' _ hg' e => by have := (HO.out.lt g' e).1; omega)
    have HRUN := J hrun
    have HO5 := J (hO5.flat (S' := (· < w0.heap.size)))
    have HB5 : Hid (Below w0.heap.size w0 w5) := J (HB2.out.trans (hM5.below HB2.out.size (fun g' hg' e => by have := (HO.out.lt g' e).1; omega)))
    clear hb2 hO2 hrun hO5 hM5 hT5 a0 a1 a2 a3 a4 a5 a6 a7
    go_wp2_with (at_builtin; refine ag rfl (.tmp 22) (.tmp 26) 95 rfl _ _ _ w5 rfl rfl HRUN.out ?_)
    go_roundw
    case rel => exact ⟨j + 1, by omega, by go_num, J (by rw [HS.out, List.map_append]; exact HO5.out), HB5⟩
    case measure => simp [intOf]; omega
   ·have HS := J (eA (p := fun x : Imp => x.kind.toNat == k) hx (by simp [hq]))
    have hqe : ((x.kind.toNat : Int) == (k : Int)) = false := by rw [beq_eq_false_iff_ne]; omega
    clear hc hx hq hbw hg hxl
    go_upto_region 5 with fail
    generalize wr.alloc (.cells #[.string ⟨x.mod.toArray⟩, .string ⟨x.name.toArray⟩, .int .u8 (x.kind.toNat : Int), .int .u32 (x.type : Int), .int .u32 (x.lim.min : Int), .int .i64 x.lim.max, .int .u8 (x.glob.t.toNat : Int), .bool x.glob.mu] 78) = wa at HBA HA HMA HAL ⊢
    clear k0 k1 k2 k3 k4 k5 k6 k7
    obtain ⟨a0, a1, a2, a3, a4, a5, a6, a7⟩ := aY HA.out
    go_wp2_with fail
    go_roundw
    case rel => exact ⟨j + 1, by omega, by go_num, J (by rw [HS.out]; exact HO.out.mod HMA.out (fun _ _ h => h) (fun _ _ _ h => h)), HBA⟩
    case measure => simp [intOf]; omega
  ·have hlti : decide ((j : Int) < (n1 : Int)) = false := decide_eq_false (by omega)
   have HA := J (dD (p := fun x : Imp => x.kind.toNat == k) (xs := xs) (k := j) (by rw [HN1.out]; omega))
   have hO := HO.out
   rw [HA.out, HIS.out] at hO hle
   obtain ⟨B, d, rfl, hq1, hq2⟩ := hO.form
   have hbw := HB0.out.trans (HB.out.mono HB0.out.size)
   have hY1 := HY0.out
   have hYs : HasL wr (· < w0.heap.size) A2 ys := by
    obtain ⟨A', c', e, _, _, _, hL⟩ := hY1
    injection e with e1 e2 e3
    subst e1
    exact (hL.mod (T := fun _ => False) (Mod.of_below hbw) (fun _ _ _ h => h)).more (fun _ _ hk => Nat.lt_of_lt_of_le hk HB0.out.size)
   obtain ⟨v5, w5, hrun, hO5, hM5, hT5⟩ := appendL undGlob infGlob (by decide) rfl (by decide) wr w0.heap.size (· < w0.heap.size) _ _ ys A2 n2 c2 hO hYs HN2.out.symm (by simp; have := HN2.out; omega) HB.out.size (fun g' _ hg' e => by have := (hO.lt g' e).1; omega)
   have hO6 := hO5.flat (S' := (· < w0.heap.size))
   obtain ⟨B5, d5, rfl, _, _⟩ := hO6.form
   have HRUN := J hrun
   have HSL := J hO6.slice
   have HB5 : Hid (Below w0.heap.size w0 w5) := J (HB.out.trans (hM5.below HB.out.size (fun g' hg' e => by have := (hO.lt g' e).1; omega)))
   have hZ5 := (HB5.out.block Y HYL.out).trans HZ0.out
   have HZ5 := J hZ5
   simp only [List.length_map] at HRUN hq1 hq2 ⊢
   have hqq := HQQ.out
   obtain ⟨r, hrr⟩ : ∃ r, (is.map (·.glob) ++ ys).length = r := ⟨_, rfl⟩
   rw [hqq] at HRUN hle hq1 ⊢
   rw [hrr] at HRUN HSL
   have HRR := J hrr
   clear hqq hrr hrun hO5 hM5 hT5 hO6 hZ5 hY1 hYs hbw hO HA HO
   go_wp2_with (first | (at_builtin; refine ag rfl (.tmp 29) (.tmp 30) 95 rfl _ _ _ w5 rfl rfl HRUN.out ?_) | (refine aj rfl 97 (.tmp 8) (.tmp 34) rfl rfl Y #[.slice B5 r d5, .int .i64 (q : Int)] rfl rfl 97 #[.slice none 0 0, .int .i64 0] HZ5.out eg rfl (by simp [Value.oneCell']) ?_))
   have HZZ := setRow_heap w5 Y #[.slice none 0 0, .int .i64 0] #[.slice B5 r d5, .int .i64 (q : Int)] _ _ HZ5.out
   refine bodyPost_ret (v := .agg #[.slice B5 r d5, .int .i64 (q : Int)]) (bh (p := 8) (ty := 97) (by kernel_rfl) _ _ Y 97 #[.slice B5 r d5, .int .i64 (q : Int)] (0, 0) D rfl HZZ HU.out HD.out eg) rfl ?_
   have hms : Mod (· = Y) w5 (w5.setRow Y #[.slice B5 r d5, .int .i64 (q : Int)]) := ⟨rfl, rfl, rfl, by simp, fun k _ ht => setRow_other w5 Y k _ ht⟩
   refine ⟨B5, d5, by rw [HRR.out], ?_, ac (HB0.out.trans (HB5.out.mono HB0.out.size)) HY.out _⟩
   rw [HRR.out]
   exact (HSL.out.mod hms (fun g _ hg e => by have := HYL.out; omega)).more (fun g _ hg => Nat.le_trans HB0.out.size hg)
theorem gv_at3 {w : World} {S : Nat → Prop} {A : Option Addr} {xs : List GV} {k : Nat} {x : GV} (h : HasL w S A xs) (hx : xs[k]? = some x) : ∃ g o D n d, A = some ⟨g, o, none⟩ ∧ g < w.heap.size ∧ w.cell? ⟨g, o + k * 3, none⟩ = some (.int .u8 (x.type.t.toNat : Int)) ∧ w.cell? ⟨g, o + k * 3 + 1, none⟩ = some (.bool x.type.mu) ∧ w.cell? ⟨g, o + k * 3 + 2, none⟩ = some (.slice D n d) := by
 obtain ⟨g, o, cs, h1, _, h3, ⟨v, rfl, D, d, rfl, _⟩, h6⟩ := h k x hx
 exact ⟨g, o, D, _, d, h1, h3, h6 0 _ rfl, h6 1 _ rfl, h6 2 _ rfl⟩
theorem sgtypes_any (xs : List GV) (vx : Value) (w : World) (hx0 : ab w (· < w.heap.size) xs vx) (hlx : xs.length ≤ 1050000) :
  Calls Tryz.prog 39 #[vx] w fun e w' => ∃ u, e = .returned u ∧ ab w' (w.heap.size ≤ ·) (xs.map (·.type)) u ∧ Below w.heap.size w w' := by
 obtain ⟨A1, c1, rfl, _, _, _, hLx⟩ := hx0
 have HLX := J hLx
 clear hLx
 obtain ⟨n1, hn1⟩ : ∃ n, xs.length = n := ⟨_, rfl⟩
 rw [hn1] at hlx ⊢
 have HN1 := J hn1
 clear hn1
 go_enter Tryz.func39, Tryz.ntmps39
 go_upto_region 3 with fail
 go_loopw [3, 8] (fun l i wr => ∃ j : Nat, j ≤ n1 ∧ i = .int .i64 (j : Int) ∧ Hid (OwnL 76 wr w.heap.size (· < w.heap.size) l ((xs.take j).map (·.type))) ∧ Hid (Below w.heap.size w wr)) (fun _ i _ => n1 - (intOf i).toNat)
 case atStart => exact ⟨0, Nat.zero_le _, rfl, J (OwnL.nil _ _ _ _), J (Below.refl _ _)⟩
 case round =>
  obtain ⟨j, hj, rfl, HO, HB⟩ := hrel
  by_cases hlt : j < n1
  ·have hlti : (j : Int) < (n1 : Int) := by omega
   obtain ⟨x, hx⟩ : ∃ x, xs[j]? = some x := ⟨_, List.getElem?_eq_getElem (by rw [HN1.out]; exact hlt)⟩
   obtain ⟨g, o, D, ni, d, rfl, hg, hc0, hc1, hc2⟩ := gv_at3 HLX.out hx
   have z0 := (HB.out.cell (p := ⟨g, o + j * 3, none⟩) hg).trans hc0
   have z1 := (HB.out.cell (p := ⟨g, o + j * 3 + 1, none⟩) hg).trans hc1
   have z2 := (HB.out.cell (p := ⟨g, o + j * 3 + 2, none⟩) hg).trans hc2
   have HTK : Hid (xs.take (j + 1) = xs.take j ++ [x]) := J (by rw [List.take_add_one, hx]; rfl)
   have htl : (xs.take j).length ≤ j := List.length_take_le _ _
   have HBA : Hid (Below w.heap.size w (wr.alloc (.cells #[.int .u8 (x.type.t.toNat : Int), .bool x.type.mu, .slice D ni d] 81))) := J (HB.out.alloc HB.out.size _)
   have HA := J (heap_alloc_new wr (.cells #[.int .u8 (x.type.t.toNat : Int), .bool x.type.mu, .slice D ni d] 81))
   have HMA : Hid (Mod (fun _ => False) wr (wr.alloc (.cells #[.int .u8 (x.type.t.toNat : Int), .bool x.type.mu, .slice D ni d] 81))) := J ((Mod.refl _ wr).alloc _)
   obtain ⟨v5, w5, hrun, hO5, hM5, hT5⟩ := append1L undGlob infGlob (by decide) rfl (by decide) (wr.alloc (.cells #[.int .u8 (x.type.t.toNat : Int), .bool x.type.mu, .slice D ni d] 81)) w.heap.size (· < w.heap.size) u3 _ x.type [.int .u8 (x.type.t.toNat : Int), .bool x.type.mu] (HO.out.mod HMA.out (fun _ _ h => h) (fun _ _ _ h => h)) (by simp; omega) HBA.out.size rfl (by simp [Value.oneCell']) (fun g' _ hg' e => by have := (HO.out.lt g' e).1; omega)
   have HRUN := J hrun
   have HO5 := J (hO5.flat (S' := (· < w.heap.size)))
   have HB5 : Hid (Below w.heap.size w w5) := J (HBA.out.trans (hM5.below HBA.out.size (fun g' hg' e => by have := (HO.out.lt g' e).1; omega)))
   clear hrun hO5 hM5 hT5 hc0 hc1 hc2 hx hg
   go_upto_region 5 with fail
   generalize wr.alloc (.cells #[.int .u8 (x.type.t.toNat : Int), .bool x.type.mu, .slice D ni d] 81) = wa at HBA HA HMA HRUN ⊢
   clear z0 z1 z2
   obtain ⟨a0, a1⟩ : wa.cell? ⟨wr.heap.size, 0, none⟩ = some (.int .u8 (x.type.t.toNat : Int)) ∧ wa.cell? ⟨wr.heap.size, 1, none⟩ = some (.bool x.type.mu) := ⟨by rw [cell_of_row wa _ 0 _ _ (0, 0) HA.out]; rfl, by rw [cell_of_row wa _ 1 _ _ (0, 0) HA.out]; rfl⟩
   go_wp2_with (at_builtin; refine ag rfl (.tmp 12) (.tmp 15) 95 rfl _ _ _ w5 rfl rfl HRUN.out ?_)
   go_roundw
   case rel => exact ⟨j + 1, by omega, by go_num, J (by rw [HTK.out, List.map_append]; exact HO5.out), HB5⟩
   case measure => simp [intOf]; omega
  ·have hlti : decide ((j : Int) < (n1 : Int)) = false := decide_eq_false (by omega)
   have HA : Hid (xs.take j = xs) := J (List.take_of_length_le (by rw [HN1.out]; omega))
   go_wp2_with fail
   go_ret
   have hO := HO.out
   rw [HA.out] at hO
   exact ⟨_, rfl, hO.slice, HB.out⟩
end Go.Proofs.YtelcdmkbaegjoaaGreat
