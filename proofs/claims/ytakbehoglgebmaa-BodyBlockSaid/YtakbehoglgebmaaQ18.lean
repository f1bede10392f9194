/-
  Layer 8's program: what a space is asked: Global, Table, Mem, Type, Func. (gen/space/ask2.py)
-/
import Derived.Test.YtakbehoglgebmaaQ17
import Derived.Test.YtakbehoglgebmaaRows
import Derived.Test.YtakbehoglgebmaaQ02
import Derived.WalkKit
import Derived.RegionTactic
import Derived.Below
import Derived.Outline
import Derived.Lib.Hide
import Derived.Test.YtakbehoglgebmaaQ01
import Derived.Test.YtakbehoglgebmaaQ05
import Derived.Test.YtakbehoglgebmaaQ03
namespace Go.Proofs.Ytakbehoglgebmaa
open Go.RowKit Ins Bin Sp
theorem ten_cells {w : World} {X : Nat} {x0 x1 x2 x3 x4 x5 x6 x7 x8 x9 : Value} {t : TypeId} (h : w.heap[X]? = some (.cells #[x0, x1, x2, x3, x4, x5, x6, x7, x8, x9] t (0, 0))) : w.cell? ⟨X, 0, none⟩ = some x0 ∧ w.cell? ⟨X, 1, none⟩ = some x1 ∧ w.cell? ⟨X, 2, none⟩ = some x2 ∧ w.cell? ⟨X, 3, none⟩ = some x3 ∧ w.cell? ⟨X, 4, none⟩ = some x4 ∧ w.cell? ⟨X, 5, none⟩ = some x5 ∧ w.cell? ⟨X, 6, none⟩ = some x6 ∧ w.cell? ⟨X, 7, none⟩ = some x7 ∧ w.cell? ⟨X, 8, none⟩ = some x8 ∧ w.cell? ⟨X, 9, none⟩ = some x9 := by
  refine ⟨?_, ?_, ?_, ?_, ?_, ?_, ?_, ?_, ?_, ?_⟩ <;> (rw [cell_of_row w X _ _ t (0, 0) h]; rfl)
/-- Nothing has more entries than walks ask for. -/
structure Some6 (m : M) : Prop where
  types : m.types.length ≤ 1000000
  each : ∀ x ∈ m.types, x.params.length ≤ 1000000 ∧ x.results.length ≤ 1000000
  funs : (funs m).length ≤ 1000000
  tabs : (tabs m).length ≤ 1000000
  mems : (mems m).length ≤ 1000000
  globs : (globs m).length ≤ 1000000
  exports : m.exports.length ≤ 1000000
theorem Few.some {m : M} (h : Few m) : Some6 m where
  types := Nat.le_trans h.types (by decide)
  each x hx := ⟨Nat.le_trans (h.each x hx).1 (by decide), Nat.le_trans (h.each x hx).2 (by decide)⟩
  funs := by have := imps_le m 0; have := h.imports; have := h.funcs; simp [Sp.funs]; omega
  tabs := by have := imps_le m 1; have := h.imports; have := h.tables; simp [Sp.tabs]; omega
  mems := by have := imps_le m 2; have := h.imports; have := h.mems; simp [Sp.mems]; omega
  globs := by have := imps_le m 3; have := h.imports; have := h.globals; simp [Sp.globs]; omega
  exports := Nat.le_trans h.exports (by decide)
/-- As FuncPost; what is told lies in blocks of the call's own. -/
def TypePost (o : Option FT) (w : World) (e : Ending) (w' : World) : Prop := ∃ u v, e = .returned (.tuple #[.agg #[u, v], .bool o.isSome]) ∧ SliceV w' (w.heap.size ≤ ·) (o.getD ⟨[], []⟩).params u ∧ SliceV w' (w.heap.size ≤ ·) (o.getD ⟨[], []⟩).results v ∧ Below w.heap.size w w'
theorem TypePost.func {o : Option FT} {w w' : World} {e : Ending} (h : TypePost o w e w') : FuncPost o w e w' := by
  obtain ⟨u, v, h1, h2, h3, h4⟩ := h
  exact ⟨u, v, h1, h2.more (fun k hk _ => hk), h3.more (fun k hk _ => hk), h4⟩
set_option maxRecDepth 100000 in
set_option maxHeartbeats 4000000 in
theorem sglobal_any (p : Option Addr) (m : M) (i : Nat) (w : World) (h : Recv w p m) (hl : Some6 m) (hi : i < 4294967296) :
    Calls Try.prog 77 #[.pointer p, .int .u32 (i : Int)] w fun e w' => GlobPost ((globs m)[i]?) w e w' := by
  obtain ⟨D, hu, hd⟩ := descOf des_sglob
  have HU := Lib.hid hu
  have HD := Lib.hid hd
  clear hu hd
  have HL := Lib.hid hl.globs
  have HZ0 := Lib.hid (heap_alloc_new w (.cells #[.int .u8 0, .bool false] 66))
  have HB0 : Hid (Below w.heap.size w (w.alloc (.cells #[.int .u8 0, .bool false] 66))) := Lib.hid ((Below.refl _ _).alloc (Nat.le_refl _) _)
  have HR := Lib.hid (h.grow HB0.out)
  clear h hl
  go_enter Try.func77, Try.ntmps77
  go_upto_region 1 with fail
  generalize w.alloc (.cells #[.int .u8 0, .bool false] 66) = w0 at HZ0 HB0 HR ⊢
  obtain ⟨Y, hY⟩ : ∃ Y, w.heap.size = Y := ⟨_, rfl⟩
  rw [hY] at HZ0
  have HY : Hid (w.heap.size ≤ Y) := Lib.hid (by omega)
  simp only [hY]
  clear hY
  go_wp2_with (first | (go_at_call 89; refine (sthere_any p m w0 HR.out).mono ?_; rintro e w1 ⟨P, rfl, hs, hb⟩; have HB1 := Lib.hid (HB0.out.trans (hb.mono HB0.out.size)); have HZ1 := Lib.hid ((hb.block Y (Array.getElem?_eq_some_iff.1 HZ0.out).1).trans HZ0.out); obtain ⟨A1, d1, A2, d2, A3, d3, A4, d4, A5, d5, A6, d6, h0, h1, h2, h3, h4, h5, h6⟩ := hs; obtain ⟨b0, b1, b2, b3, b4, b5, b6, b7, b8, b9⟩ := ten_cells h0; have HS := Lib.hid h5; clear hb h0 h1 h2 h3 h4 h5 h6) | (go_at_call 92; refine (satG_any (globs m) _ i w1 HS.out hi HL.out).mono ?_; rintro e w2 ⟨rfl, hb⟩; have HB2 := Lib.hid (HB1.out.trans (hb.mono HB1.out.size)); have HZ2 := Lib.hid ((hb.block Y (Array.getElem?_eq_some_iff.1 HZ1.out).1).trans HZ1.out); clear hb b0 b1 b2 b3 b4 b5 b6 b7 b8 b9) | (refine wpList_store_to rfl 66 (.tmp 4) (.tmp 14) rfl rfl Y (globArr (((globs m)[i]?).getD ⟨0, false⟩)) rfl rfl 66 #[.int .u8 0, .bool false] HZ2.out siz_sglob rfl (by simp [globArr, Value.oneCell']) ?_))
  refine bodyPost_ret (v := .tuple #[.agg (globArr (((globs m)[i]?).getD ⟨0, false⟩)), .bool ((globs m)[i]?).isSome]) (res_cell_tmp (p := 4) (q := 5) (ty := 66) (by kernel_rfl) _ _ Y 66 (globArr (((globs m)[i]?).getD ⟨0, false⟩)) (0, 0) D rfl (setRow_heap _ _ #[.int .u8 0, .bool false] _ _ _ HZ2.out) HU.out HD.out siz_sglob (.bool ((globs m)[i]?).isSome) rfl) rfl ?_
  exact ⟨rfl, below_setRow HB2.out HY.out _⟩
set_option maxRecDepth 100000 in
set_option maxHeartbeats 4000000 in
theorem stable_any (p : Option Addr) (m : M) (i : Nat) (w : World) (h : Recv w p m) (hl : Some6 m) (hi : i < 4294967296) :
    Calls Try.prog 74 #[.pointer p, .int .u32 (i : Int)] w fun e w' => LimPost ((tabs m)[i]?) w e w' := by
  obtain ⟨D, hu, hd⟩ := descOf des_slim
  have HU := Lib.hid hu
  have HD := Lib.hid hd
  clear hu hd
  have HL := Lib.hid hl.tabs
  have HZ0 := Lib.hid (heap_alloc_new w (.cells #[.int .u32 0, .int .i64 0] 64))
  have HB0 : Hid (Below w.heap.size w (w.alloc (.cells #[.int .u32 0, .int .i64 0] 64))) := Lib.hid ((Below.refl _ _).alloc (Nat.le_refl _) _)
  have HR := Lib.hid (h.grow HB0.out)
  clear h hl
  go_enter Try.func74, Try.ntmps74
  go_upto_region 1 with fail
  generalize w.alloc (.cells #[.int .u32 0, .int .i64 0] 64) = w0 at HZ0 HB0 HR ⊢
  obtain ⟨Y, hY⟩ : ∃ Y, w.heap.size = Y := ⟨_, rfl⟩
  rw [hY] at HZ0
  have HY : Hid (w.heap.size ≤ Y) := Lib.hid (by omega)
  simp only [hY]
  clear hY
  go_wp2_with (first | (go_at_call 89; refine (sthere_any p m w0 HR.out).mono ?_; rintro e w1 ⟨P, rfl, hs, hb⟩; have HB1 := Lib.hid (HB0.out.trans (hb.mono HB0.out.size)); have HZ1 := Lib.hid ((hb.block Y (Array.getElem?_eq_some_iff.1 HZ0.out).1).trans HZ0.out); obtain ⟨A1, d1, A2, d2, A3, d3, A4, d4, A5, d5, A6, d6, h0, h1, h2, h3, h4, h5, h6⟩ := hs; obtain ⟨b0, b1, b2, b3, b4, b5, b6, b7, b8, b9⟩ := ten_cells h0; have HS := Lib.hid h3; clear hb h0 h1 h2 h3 h4 h5 h6) | (go_at_call 90; refine (satL_any (tabs m) _ i w1 HS.out hi HL.out).mono ?_; rintro e w2 ⟨rfl, hb⟩; have HB2 := Lib.hid (HB1.out.trans (hb.mono HB1.out.size)); have HZ2 := Lib.hid ((hb.block Y (Array.getElem?_eq_some_iff.1 HZ1.out).1).trans HZ1.out); clear hb b0 b1 b2 b3 b4 b5 b6 b7 b8 b9) | (refine wpList_store_to rfl 64 (.tmp 4) (.tmp 14) rfl rfl Y (limArr (((tabs m)[i]?).getD ⟨0, 0⟩)) rfl rfl 64 #[.int .u32 0, .int .i64 0] HZ2.out siz_slim rfl (by simp [limArr, Value.oneCell']) ?_))
  refine bodyPost_ret (v := .tuple #[.agg (limArr (((tabs m)[i]?).getD ⟨0, 0⟩)), .bool ((tabs m)[i]?).isSome]) (res_cell_tmp (p := 4) (q := 5) (ty := 64) (by kernel_rfl) _ _ Y 64 (limArr (((tabs m)[i]?).getD ⟨0, 0⟩)) (0, 0) D rfl (setRow_heap _ _ #[.int .u32 0, .int .i64 0] _ _ _ HZ2.out) HU.out HD.out siz_slim (.bool ((tabs m)[i]?).isSome) rfl) rfl ?_
  exact ⟨rfl, below_setRow HB2.out HY.out _⟩
set_option maxRecDepth 100000 in
set_option maxHeartbeats 4000000 in
theorem smem_any (p : Option Addr) (m : M) (i : Nat) (w : World) (h : Recv w p m) (hl : Some6 m) (hi : i < 4294967296) :
    Calls Try.prog 78 #[.pointer p, .int .u32 (i : Int)] w fun e w' => LimPost ((mems m)[i]?) w e w' := by
  obtain ⟨D, hu, hd⟩ := descOf des_slim
  have HU := Lib.hid hu
  have HD := Lib.hid hd
  clear hu hd
  have HL := Lib.hid hl.mems
  have HZ0 := Lib.hid (heap_alloc_new w (.cells #[.int .u32 0, .int .i64 0] 64))
  have HB0 : Hid (Below w.heap.size w (w.alloc (.cells #[.int .u32 0, .int .i64 0] 64))) := Lib.hid ((Below.refl _ _).alloc (Nat.le_refl _) _)
  have HR := Lib.hid (h.grow HB0.out)
  clear h hl
  go_enter Try.func78, Try.ntmps78
  go_upto_region 1 with fail
  generalize w.alloc (.cells #[.int .u32 0, .int .i64 0] 64) = w0 at HZ0 HB0 HR ⊢
  obtain ⟨Y, hY⟩ : ∃ Y, w.heap.size = Y := ⟨_, rfl⟩
  rw [hY] at HZ0
  have HY : Hid (w.heap.size ≤ Y) := Lib.hid (by omega)
  simp only [hY]
  clear hY
  go_wp2_with (first | (go_at_call 89; refine (sthere_any p m w0 HR.out).mono ?_; rintro e w1 ⟨P, rfl, hs, hb⟩; have HB1 := Lib.hid (HB0.out.trans (hb.mono HB0.out.size)); have HZ1 := Lib.hid ((hb.block Y (Array.getElem?_eq_some_iff.1 HZ0.out).1).trans HZ0.out); obtain ⟨A1, d1, A2, d2, A3, d3, A4, d4, A5, d5, A6, d6, h0, h1, h2, h3, h4, h5, h6⟩ := hs; obtain ⟨b0, b1, b2, b3, b4, b5, b6, b7, b8, b9⟩ := ten_cells h0; have HS := Lib.hid h4; clear hb h0 h1 h2 h3 h4 h5 h6) | (go_at_call 90; refine (satL_any (mems m) _ i w1 HS.out hi HL.out).mono ?_; rintro e w2 ⟨rfl, hb⟩; have HB2 := Lib.hid (HB1.out.trans (hb.mono HB1.out.size)); have HZ2 := Lib.hid ((hb.block Y (Array.getElem?_eq_some_iff.1 HZ1.out).1).trans HZ1.out); clear hb b0 b1 b2 b3 b4 b5 b6 b7 b8 b9) | (refine wpList_store_to rfl 64 (.tmp 4) (.tmp 14) rfl rfl Y (limArr (((mems m)[i]?).getD ⟨0, 0⟩)) rfl rfl 64 #[.int .u32 0, .int .i64 0] HZ2.out siz_slim rfl (by simp [limArr, Value.oneCell']) ?_))
  refine bodyPost_ret (v := .tuple #[.agg (limArr (((mems m)[i]?).getD ⟨0, 0⟩)), .bool ((mems m)[i]?).isSome]) (res_cell_tmp (p := 4) (q := 5) (ty := 64) (by kernel_rfl) _ _ Y 64 (limArr (((mems m)[i]?).getD ⟨0, 0⟩)) (0, 0) D rfl (setRow_heap _ _ #[.int .u32 0, .int .i64 0] _ _ _ HZ2.out) HU.out HD.out siz_slim (.bool ((mems m)[i]?).isSome) rfl) rfl ?_
  exact ⟨rfl, below_setRow HB2.out HY.out _⟩
set_option maxRecDepth 100000 in
set_option maxHeartbeats 4000000 in
theorem stype_any (p : Option Addr) (m : M) (i : Nat) (w : World) (h : Recv w p m) (hl : Some6 m) (hi : i < 4294967296) :
    Calls Try.prog 75 #[.pointer p, .int .u32 (i : Int)] w fun e w' => TypePost (m.types[i]?) w e w' := by
  have HL := Lib.hid hl.types
  have HE : Hid (((m.types[i]?).getD ⟨[], []⟩).params.length ≤ 4294967296 ∧ ((m.types[i]?).getD ⟨[], []⟩).results.length ≤ 4294967296) := Lib.hid (by
    cases hx : m.types[i]? with
    | none => simp
    | some x => have := hl.each x (List.mem_of_getElem? hx); simp; omega)
  have HAT := Lib.hid (fun W v (hv : SliceV W (· < W.heap.size) m.types v) => satF_any m.types v i W hv hi HL.out)
  generalize m.types[i]? = o at HE HAT ⊢
  obtain ⟨x, hx⟩ : ∃ x, o.getD ⟨[], []⟩ = x := ⟨_, rfl⟩
  have HX := Lib.hid hx
  rw [hx] at HE HAT
  clear hx
  generalize hbb : o.isSome = bb at HAT
  have HBB := Lib.hid hbb
  clear hbb
  obtain ⟨p1, hp1⟩ : ∃ p, x.params.length = p := ⟨_, rfl⟩
  obtain ⟨p2, hp2⟩ : ∃ p, x.results.length = p := ⟨_, rfl⟩
  have HCP := Lib.hid (fun W u v (hu : SliceV W (· < W.heap.size) x.params u) (hv : SliceV W (· < W.heap.size) x.results v) => scopy_any x u v W hu hv HE.out.1 HE.out.2)
  simp only [hp1, hp2] at HAT HCP
  clear hp1 hp2
  obtain ⟨D, hu, hd⟩ := descOf des_sft
  have HU := Lib.hid hu
  have HD := Lib.hid hd
  clear hu hd
  have HZ0 := Lib.hid (heap_alloc_new w (.cells #[.slice none 0 0, .slice none 0 0] 36))
  have HB0 : Hid (Below w.heap.size w (w.alloc (.cells #[.slice none 0 0, .slice none 0 0] 36))) := Lib.hid ((Below.refl _ _).alloc (Nat.le_refl _) _)
  have HR := Lib.hid (h.grow HB0.out)
  clear h hl
  go_enter Try.func75, Try.ntmps75
  go_upto_region 1 with fail
  generalize w.alloc (.cells #[.slice none 0 0, .slice none 0 0] 36) = w0 at HZ0 HB0 HR ⊢
  obtain ⟨Y, hY⟩ : ∃ Y, w.heap.size = Y := ⟨_, rfl⟩
  rw [hY] at HZ0
  have HY : Hid (w.heap.size ≤ Y) := Lib.hid (by omega)
  simp only [hY]
  clear hY
  go_upto_region 2 with (first | (go_at_call 89; refine (sthere_any p m w0 HR.out).mono ?_; rintro e w1 ⟨P, rfl, hs, hb⟩; have HB1 := Lib.hid (HB0.out.trans (hb.mono HB0.out.size)); have HZ1 := Lib.hid ((hb.block Y (Array.getElem?_eq_some_iff.1 HZ0.out).1).trans HZ0.out); have HR1 := Lib.hid (HR.out.grow hb); obtain ⟨A1, d1, A2, d2, A3, d3, A4, d4, A5, d5, A6, d6, h0, h1, h2, h3, h4, h5, h6⟩ := hs; obtain ⟨b0, b1, b2, b3, b4, b5, b6, b7, b8, b9⟩ := ten_cells h0; have HS := Lib.hid h1; clear hb h0 h1 h2 h3 h4 h5 h6) | (go_at_call 91; refine (HAT.out w1 _ HS.out).mono ?_; rintro e w2 ⟨E1, f1, E2, f2, rfl, hs1, hs2, hb⟩; have HB2 := Lib.hid (HB1.out.trans (hb.mono HB1.out.size)); have HZ2 := Lib.hid ((hb.block Y (Array.getElem?_eq_some_iff.1 HZ1.out).1).trans HZ1.out); have HS1 := Lib.hid hs1; have HS2 := Lib.hid hs2; clear hb hs1 hs2 b0 b1 b2 b3 b4 b5 b6 b7 b8 b9))
  have hba : Below w2.heap.size w2 (w2.alloc (.cells #[.slice E1 p1 f1, .slice E2 p2 f2] 36)) := (Below.refl _ _).alloc (Nat.le_refl _) _
  have HT := Lib.hid (heap_alloc_new w2 (.cells #[.slice E1 p1 f1, .slice E2 p2 f2] 36))
  have HB3 := Lib.hid (HB2.out.trans (hba.mono HB2.out.size))
  have HZ3 := Lib.hid ((hba.block Y (Array.getElem?_eq_some_iff.1 HZ2.out).1).trans HZ2.out)
  have HS1 := Lib.hid (HS1.out.grow hba)
  have HS2 := Lib.hid (HS2.out.grow hba)
  clear hba
  generalize w2.alloc (.cells #[.slice E1 p1 f1, .slice E2 p2 f2] 36) = w3 at HT HB3 HZ3 HS1 HS2 ⊢
  obtain ⟨t0, t1⟩ := two_cells HT.out
  go_wp2_with fail
  refine (HCP.out w3 _ _ HS1.out HS2.out).mono ?_
  rintro e w4 ⟨G1, k1, G2, k2, rfl, hs1, hs2, hb⟩
  have HB4 := Lib.hid (HB3.out.trans (hb.mono HB3.out.size))
  have HZ4 := Lib.hid ((hb.block Y (Array.getElem?_eq_some_iff.1 HZ3.out).1).trans HZ3.out)
  have HS1 := Lib.hid (hs1.more (S' := (· < w4.heap.size)) (fun k hk _ => hk))
  have HS2 := Lib.hid (hs2.more (S' := (· < w4.heap.size)) (fun k hk _ => hk))
  have HS3 := Lib.hid hs1
  have HS4 := Lib.hid hs2
  have HYL : Hid (Y < w3.heap.size) := Lib.hid (Array.getElem?_eq_some_iff.1 HZ3.out).1
  clear hb hs1 hs2 t0 t1
  go_wp2_with (refine wpList_store_to rfl 36 (.tmp 4) (.tmp 19) rfl rfl Y #[.slice G1 p1 k1, .slice G2 p2 k2] rfl rfl 36 #[.slice none 0 0, .slice none 0 0] HZ4.out siz_sft rfl (by simp [Value.oneCell']) ?_)
  refine bodyPost_ret (v := .tuple #[.agg #[.slice G1 p1 k1, .slice G2 p2 k2], .bool bb]) (res_cell_tmp (p := 4) (q := 5) (ty := 36) (by kernel_rfl) _ _ Y 36 #[.slice G1 p1 k1, .slice G2 p2 k2] (0, 0) D rfl (setRow_heap _ _ #[.slice none 0 0, .slice none 0 0] _ _ _ (HZ4.out)) HU.out HD.out siz_sft (.bool bb) rfl) rfl ?_
  have hms : Mod (· = Y) w4 (w4.setRow Y #[.slice G1 p1 k1, .slice G2 p2 k2]) := ⟨rfl, rfl, rfl, by simp, fun k _ ht => setRow_other w4 Y k _ ht⟩
  refine ⟨_, _, by rw [HBB.out], ?_, ?_, below_setRow HB4.out HY.out _⟩
  · rw [HX.out]
    exact (HS3.out.mod hms (fun g _ hg e => by have := HYL.out; have e' : g = Y := e; have hg' : w3.heap.size ≤ g := hg; omega)).more (fun k hk hg => Nat.le_trans HB3.out.size hg)
  · rw [HX.out]
    exact (HS4.out.mod hms (fun g _ hg e => by have := HYL.out; have e' : g = Y := e; have hg' : w3.heap.size ≤ g := hg; omega)).more (fun k hk hg => Nat.le_trans HB3.out.size hg)
end Go.Proofs.Ytakbehoglgebmaa
/-
  The contracts of opc's functions that only compute: within, Float, Known, Width, Form, typeOf: for every opcode they tell what the plain functions tell, and change nothing.
-/
namespace Go.Proofs.Ytakbehoglgebmaa
open Go.RowKit
theorem ret_b {a b : Bool} (h : a = b) : Ending.returned (.bool a) = .returned (.bool b) := by rw [h]
theorem ret_i {k : IntKind} {a b : Int} (h : a = b) : Ending.returned (.int k a) = .returned (.int k b) := by rw [h]
theorem within_any (x a b : Int) (w : World) : Calls Try.prog 83 #[.int .u8 x, .int .u8 a, .int .u8 b] w fun e w' => e = .returned (.bool (Opc.within x a b)) ∧ w = w' := by
  by_cases h1 : a ≤ x
  · by_cases h2 : x ≤ b
    · go_enter Try.func83, Try.ntmps83
      go_wp2
      go_ret
      exact ⟨ret_b (by simp [Opc.within, h1, h2]), rfl⟩
    · go_enter Try.func83, Try.ntmps83
      go_wp2
      go_ret
      exact ⟨ret_b (by simp [Opc.within, h2]), rfl⟩
  · have h3 : decide (a ≤ x) = false := by simpa using h1
    go_enter Try.func83, Try.ntmps83
    go_wp2
    go_ret
    exact ⟨ret_b (by rw [Opc.within, h3]; rfl), rfl⟩
theorem width_any (x : Int) (w : World) : Calls Try.prog 53 #[.int .u8 x] w fun e w' => e = .returned (.int .i64 (Opc.width x)) ∧ w = w' := by
  go_enter Try.func53, Try.ntmps53
  go_wp2
  all_goals (go_ret; exact ⟨ret_i (by unfold Opc.width; simp_all), rfl⟩)
theorem form_any (x : Int) (w : World) : Calls Try.prog 60 #[.int .u8 x] w fun e w' => e = .returned (.int .u8 (Opc.form x)) ∧ w = w' := by
  go_enter Try.func60, Try.ntmps60
  go_wp2_with (go_at_call 53; refine (width_any _ _).mono ?_; rintro e w' ⟨rfl, rfl⟩)
  all_goals (go_ret; exact ⟨ret_i (by unfold Opc.form; simp_all), rfl⟩)
theorem float_any (x : Int) (w : World) : Calls Try.prog 84 #[.int .u8 x] w fun e w' => e = .returned (.bool (Opc.float x)) ∧ w = w' := by
  cases h1 : Opc.within x 91 102
  case true =>
    go_enter Try.func84, Try.ntmps84
    go_wp2_with (go_at_call 83; refine (within_any _ _ _ _).mono ?_; rintro e w' ⟨rfl, rfl⟩)
    all_goals (go_ret; exact ⟨ret_b (by unfold Opc.float; simp_all), rfl⟩)
  cases h2 : Opc.within x 139 166
  case true =>
    go_enter Try.func84, Try.ntmps84
    go_wp2_with (go_at_call 83; refine (within_any _ _ _ _).mono ?_; rintro e w' ⟨rfl, rfl⟩)
    all_goals (go_ret; exact ⟨ret_b (by unfold Opc.float; simp_all), rfl⟩)
  cases h3 : Opc.within x 168 171
  case true =>
    go_enter Try.func84, Try.ntmps84
    go_wp2_with (go_at_call 83; refine (within_any _ _ _ _).mono ?_; rintro e w' ⟨rfl, rfl⟩)
    all_goals (go_ret; exact ⟨ret_b (by unfold Opc.float; simp_all), rfl⟩)
  go_enter Try.func84, Try.ntmps84
  go_wp2_with (go_at_call 83; refine (within_any _ _ _ _).mono ?_; rintro e w' ⟨rfl, rfl⟩)
  all_goals (go_ret; exact ⟨ret_b (by unfold Opc.float; simp_all), rfl⟩)
theorem known_any (x : Int) (w : World) : Calls Try.prog 61 #[.int .u8 x] w fun e w' => e = .returned (.bool (Opc.known x)) ∧ w = w' := by
  cases h0 : Opc.within x 40 191
  case true =>
    go_enter Try.func61, Try.ntmps61
    go_wp2_with (first | (go_at_call 83; refine (within_any _ _ _ _).mono ?_; rintro e w' ⟨rfl, rfl⟩) | (go_at_call 84; refine (float_any _ _).mono ?_; rintro e w' ⟨rfl, rfl⟩))
    all_goals (go_ret; exact ⟨ret_b (by unfold Opc.known; simp_all), rfl⟩)
  cases h1 : Opc.within x 0 5
  case true =>
    go_enter Try.func61, Try.ntmps61
    go_wp2_with (go_at_call 83; refine (within_any _ _ _ _).mono ?_; rintro e w' ⟨rfl, rfl⟩)
    all_goals (go_ret; exact ⟨ret_b (by unfold Opc.known; simp_all), rfl⟩)
  cases h2 : Opc.within x 11 17
  case true =>
    go_enter Try.func61, Try.ntmps61
    go_wp2_with (go_at_call 83; refine (within_any _ _ _ _).mono ?_; rintro e w' ⟨rfl, rfl⟩)
    all_goals (go_ret; exact ⟨ret_b (by unfold Opc.known; simp_all), rfl⟩)
  cases h3 : Opc.within x 26 27
  case true =>
    go_enter Try.func61, Try.ntmps61
    go_wp2_with (go_at_call 83; refine (within_any _ _ _ _).mono ?_; rintro e w' ⟨rfl, rfl⟩)
    all_goals (go_ret; exact ⟨ret_b (by unfold Opc.known; simp_all), rfl⟩)
  go_enter Try.func61, Try.ntmps61
  go_wp2_with (go_at_call 83; refine (within_any _ _ _ _).mono ?_; rintro e w' ⟨rfl, rfl⟩)
  all_goals (go_ret; exact ⟨ret_b (by unfold Opc.known; simp_all), rfl⟩)
theorem type_any (x : Int) (w : World) : Calls Try.prog 95 #[.int .u8 x] w fun e w' => e = .returned (.int .u8 (Opc.typeOf x)) ∧ w = w' := by
  cases h1 : Opc.within x 80 90
  case true =>
    go_enter Try.func95, Try.ntmps95
    go_wp2_with (go_at_call 83; refine (within_any _ _ _ _).mono ?_; rintro e w' ⟨rfl, rfl⟩)
    all_goals (go_ret; exact ⟨ret_i (by unfold Opc.typeOf; simp_all), rfl⟩)
  cases h2 : Opc.within x 121 138
  case true =>
    go_enter Try.func95, Try.ntmps95
    go_wp2_with (go_at_call 83; refine (within_any _ _ _ _).mono ?_; rintro e w' ⟨rfl, rfl⟩)
    all_goals (go_ret; exact ⟨ret_i (by unfold Opc.typeOf; simp_all), rfl⟩)
  go_enter Try.func95, Try.ntmps95
  go_wp2_with (go_at_call 83; refine (within_any _ _ _ _).mono ?_; rintro e w' ⟨rfl, rfl⟩)
  all_goals (go_ret; exact ⟨ret_i (by unfold Opc.typeOf; simp_all), rfl⟩)
end Go.Proofs.Ytakbehoglgebmaa
/-
  opc.Sig's contract: for every opcode two slices that read as the plain functions tell, and whether it is plain; all memory that was there is as it was.
-/
namespace Go.Proofs.Ytakbehoglgebmaa
open Go.RowKit
theorem typeU_any (x : Int) (w : World) : Calls Try.prog 95 #[.int .u8 x] w fun e w' => e = .returned (.int .u8 ((Opc.typeU x).toNat : Int)) ∧ w = w' := by
  rw [Opc.typeU_toNat]; exact type_any x w
end Go.Proofs.Ytakbehoglgebmaa
/-
  Layer 10's plain mathematics (no program): what each instruction asks of the stack, and does; a body gone through.
-/
namespace Bo
open Ty
/-- What a body is held against. -/
structure Env where
  func : Nat → Option (List UInt8 × List UInt8)
  table : Bool
  typ : Nat → Option (List UInt8 × List UInt8)
  loc : Nat → Option UInt8
  glob : Nat → Option (UInt8 × Bool)
  mem : Bool
  res : List UInt8
abbrev R := Except Nat T
def turned (s : T) (a b : List UInt8) : R := if s.wantA a = true then .ok ((s.want a).push b) else .error 100
def goes (s : T) (a : List UInt8) : R := if s.wantA a = true then .ok (s.want a).kill else .error 100
/-- A block's result. -/
def ends (a : Nat) : List UInt8 := if a = 64 then [] else [UInt8.ofNat a]
def block (op a : Nat) (s : T) : R :=
  if op = 4 then (if s.wantA [127] = true then .ok ((s.want [127]).op (ends a) (ends a)) else .error 100)
  else .ok (s.op (if op = 3 then [] else ends a) (ends a))
def other (s : T) : R := match s.closeA with
  | none => .error 100
  | some e => .ok (s.close.op e e)
/-- b: it is an if without an else that ends. -/
def fin (b : Bool) (s : T) : R := match s.closeA with
  | none => .error 100
  | some e => if (b && !e.isEmpty) = true then .error 100 else .ok (s.close.push e)
def br (a : Nat) (s : T) : R := match s.labelA a with
  | none => .error 101
  | some l => goes s l
def brIf (a : Nat) (s : T) : R := match s.labelA a with
  | none => .error 101
  | some l => if s.wantA [127] = true then turned (s.want [127]) l l else .error 100
def brTable (a : Nat) (ls : List Nat) (s : T) : R := match s.labelA a with
  | none => .error 101
  | some l => if (ls.all fun n => (s.labelA n).isSome) = true then
      (if (ls.all fun n => decide ((s.labelA n).getD [] = l)) = true ∧ s.wantA [127] = true then goes (s.want [127]) l else .error 100)
    else .error 101
def call (E : Env) (a : Nat) (s : T) : R := match E.func a with
  | none => .error 80
  | some t => turned s t.1 t.2
def callI (E : Env) (a : Nat) (s : T) : R := match E.typ a with
  | none => .error 80
  | some t => if E.table = true then (if s.wantA [127] = true then turned (s.want [127]) t.1 t.2 else .error 100) else .error 80
def drop (s : T) : R := if s.popA.2 = true then .ok s.pop else .error 100
def umax (a b : UInt8) : UInt8 := if a.toNat < b.toNat then b else a
def choose (s : T) : R :=
  if s.wantA [127] = true then
    (if (s.want [127]).popA.2 = true ∧ (s.want [127]).pop.popA.2 = true ∧ fit (s.want [127]).popA.1 (s.want [127]).pop.popA.1 = true
      then .ok ((s.want [127]).pop.pop.push [umax (s.want [127]).popA.1 (s.want [127]).pop.popA.1]) else .error 100)
  else .error 100
def locl (E : Env) (op a : Nat) (s : T) : R := match E.loc a with
  | none => .error 80
  | some t => if op = 32 then turned s [] [t] else if op = 33 then turned s [t] [] else turned s [t] [t]
def gget (E : Env) (a : Nat) (s : T) : R := match E.glob a with
  | none => .error 80
  | some g => turned s [] [g.1]
def gset (E : Env) (a : Nat) (s : T) : R := match E.glob a with
  | none => .error 80
  | some g => if g.2 = true then turned s [g.1] [] else .error 100
def plain (op : Nat) (s : T) : R := turned s (Opc.sigP op) (Opc.sigR op)
def blen (w : Int) : Nat := if w = 1 then 1 else if w = 2 then 2 else if w = 4 then 3 else 4
def access (E : Env) (op a : Nat) (s : T) : R := if E.mem = true then (if blen (Opc.width op) ≤ a then .error 100 else plain op s) else .error 80
def pages (E : Env) (op : Nat) (s : T) : R := if E.mem = true then plain op s else .error 80
def memo (E : Env) (x : Ins.I) (s : T) : R :=
  if x.op = 63 ∨ x.op = 64 then pages E x.op s
  else if 0 < Opc.width x.op then access E x.op x.a s
  else plain x.op s
def vari (E : Env) (x : Ins.I) (s : T) : R :=
  if x.op = 26 then drop s
  else if x.op = 27 then choose s
  else if x.op = 32 ∨ x.op = 33 ∨ x.op = 34 then locl E x.op x.a s
  else if x.op = 35 then gget E x.a s
  else if x.op = 36 then gset E x.a s
  else memo E x s
def flow (E : Env) (x : Ins.I) (s : T) : R :=
  if x.op = 12 then br x.a s
  else if x.op = 13 then brIf x.a s
  else if x.op = 14 then brTable x.a x.l s
  else if x.op = 15 then goes s E.res
  else if x.op = 0 then goes s []
  else if x.op = 16 then call E x.a s
  else if x.op = 17 then callI E x.a s
  else vari E x s
/-- An instruction, with whether the innermost open block is an if without an else. -/
def one (E : Env) (b : Bool) (x : Ins.I) (s : T) : R :=
  if x.op = 2 ∨ x.op = 4 ∨ x.op = 3 then block x.op x.a s
  else if x.op = 5 then other s
  else if x.op = 11 then fin b s
  else flow E x s
def isIf (o : List Bool) : Bool := o.getLast?.getD false
/-- A body, with the blocks that are open ahead of it. -/
def run (E : Env) : List Bool → List Ins.I → T → R
  | _, [], s => .ok s
  | o, x :: xs, s => match one E (isIf o) x s with
    | .error e => .error e
    | .ok s' => match Ins.step o x.op with
      | none => .error 0
      | some o' => run E o' xs s'
/-- Check: an error, or how high the stack grows. -/
def chk (E : Env) (lb : Bool) (xs : List Ins.I) : Except Nat Nat :=
  if Ins.exprB xs = true then
    (if lb = true then
      match run E [] xs (T.new E.res) with
      | .error e => .error e
      | .ok s => if s.closeA.isSome = true then .ok s.most else .error 100
    else .error 100)
  else .error 2
end Bo
