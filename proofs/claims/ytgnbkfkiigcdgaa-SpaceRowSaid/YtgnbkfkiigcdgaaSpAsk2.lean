/-
  Layer 8's program: what a space is asked: Global, Table, Mem, Type, Func. (gen/space/ask2.py)
-/
import Derived.Test.YtgnbkfkiigcdgaaSpAsk1
namespace Go.Proofs.Ytgnbkfkiigcdgaa
open Go.RowKit Ins Bin Sp
theorem ten_cells {w : World} {X : Nat} {x0 x1 x2 x3 x4 x5 x6 x7 x8 x9 : Value} {t : TypeId} (h : w.heap[X]? = some (.cells #[x0, x1, x2, x3, x4, x5, x6, x7, x8, x9] t (0, 0))) : w.cell? ⟨X, 0, none⟩ = some x0 ∧ w.cell? ⟨X, 1, none⟩ = some x1 ∧ w.cell? ⟨X, 2, none⟩ = some x2 ∧ w.cell? ⟨X, 3, none⟩ = some x3 ∧ w.cell? ⟨X, 4, none⟩ = some x4 ∧ w.cell? ⟨X, 5, none⟩ = some x5 ∧ w.cell? ⟨X, 6, none⟩ = some x6 ∧ w.cell? ⟨X, 7, none⟩ = some x7 ∧ w.cell? ⟨X, 8, none⟩ = some x8 ∧ w.cell? ⟨X, 9, none⟩ = some x9 := by
  refine ⟨?_, ?_, ?_, ?_, ?_, ?_, ?_, ?_, ?_, ?_⟩ <;> (rw [cell_of_row w X _ _ t (0, 0) h]; rfl)
/-- Nothing has more entries than walks ask for. -/
structure Some6 (m : M) : Prop where
  types : m.types.length ≤ 1000000
  each : ∀ x ∈ m.types, x.params.length ≤ 1000000 ∧ x.results.length ≤ 1000000
  funs : (funs m).length ≤ 1000000
  tabs : (tabs m).length ≤ 1000000
  mems : (mems m).length ≤ 1000000
  globs : (globs m).length ≤ 1000000
  exports : m.exports.length ≤ 1000000
theorem Few.some {m : M} (h : Few m) : Some6 m where
  types := Nat.le_trans h.types (by decide)
  each x hx := ⟨Nat.le_trans (h.each x hx).1 (by decide), Nat.le_trans (h.each x hx).2 (by decide)⟩
  funs := by have := imps_le m 0; have := h.imports; have := h.funcs; simp [Sp.funs]; omega
  tabs := by have := imps_le m 1; have := h.imports; have := h.tables; simp [Sp.tabs]; omega
  mems := by have := imps_le m 2; have := h.imports; have := h.mems; simp [Sp.mems]; omega
  globs := by have := imps_le m 3; have := h.imports; have := h.globals; simp [Sp.globs]; omega
  exports := Nat.le_trans h.exports (by decide)
/-- As FuncPost; what is told lies in blocks of the call's own. -/
def TypePost (o : Option FT) (w : World) (e : Ending) (w' : World) : Prop := ∃ u v, e = .returned (.tuple #[.agg #[u, v], .bool o.isSome]) ∧ SliceV w' (w.heap.size ≤ ·) (o.getD ⟨[], []⟩).params u ∧ SliceV w' (w.heap.size ≤ ·) (o.getD ⟨[], []⟩).results v ∧ Below w.heap.size w w'
theorem TypePost.func {o : Option FT} {w w' : World} {e : Ending} (h : TypePost o w e w') : FuncPost o w e w' := by
  obtain ⟨u, v, h1, h2, h3, h4⟩ := h
  exact ⟨u, v, h1, h2.more (fun k hk _ => hk), h3.more (fun k hk _ => hk), h4⟩
theorem noM_some : Some6 noM := by
  constructor <;> simp [noM, Sp.funs, Sp.tabs, Sp.mems, Sp.globs, imps]
set_option maxRecDepth 100000 in
set_option maxHeartbeats 4000000 in
theorem sglobal_any (p : Option Addr) (m : M) (i : Nat) (w : World) (h : Recv w p m) (hl : Some6 m) (hi : i < 4294967296) :
    Calls Try.prog 11 #[.pointer p, .int .u32 (i : Int)] w fun e w' => GlobPost ((globs m)[i]?) w e w' := by
  obtain ⟨D, hu, hd⟩ := descOf des_sglob
  have HU := Lib.hid hu
  have HD := Lib.hid hd
  clear hu hd
  have HL := Lib.hid hl.globs
  have HZ0 := Lib.hid (heap_alloc_new w (.cells #[.int .u8 0, .bool false] 45))
  have HB0 : Hid (Below w.heap.size w (w.alloc (.cells #[.int .u8 0, .bool false] 45))) := Lib.hid ((Below.refl _ _).alloc (Nat.le_refl _) _)
  have HR := Lib.hid (h.grow HB0.out)
  clear h hl
  go_enter Try.func11, Try.ntmps11
  go_upto_region 1 with fail
  generalize w.alloc (.cells #[.int .u8 0, .bool false] 45) = w0 at HZ0 HB0 HR ⊢
  obtain ⟨Y, hY⟩ : ∃ Y, w.heap.size = Y := ⟨_, rfl⟩
  rw [hY] at HZ0
  have HY : Hid (w.heap.size ≤ Y) := Lib.hid (by omega)
  simp only [hY]
  clear hY
  go_wp2_with (first | (go_at_call 36; refine (sthere_any p m w0 HR.out).mono ?_; rintro e w1 ⟨P, rfl, hs, hb⟩; have HB1 := Lib.hid (HB0.out.trans (hb.mono HB0.out.size)); have HZ1 := Lib.hid ((hb.block Y (Array.getElem?_eq_some_iff.1 HZ0.out).1).trans HZ0.out); obtain ⟨A1, d1, A2, d2, A3, d3, A4, d4, A5, d5, A6, d6, h0, h1, h2, h3, h4, h5, h6⟩ := hs; obtain ⟨b0, b1, b2, b3, b4, b5, b6, b7, b8, b9⟩ := ten_cells h0; have HS := Lib.hid h5; clear hb h0 h1 h2 h3 h4 h5 h6) | (go_at_call 37; refine (satG_any (globs m) _ i w1 HS.out hi HL.out).mono ?_; rintro e w2 ⟨rfl, hb⟩; have HB2 := Lib.hid (HB1.out.trans (hb.mono HB1.out.size)); have HZ2 := Lib.hid ((hb.block Y (Array.getElem?_eq_some_iff.1 HZ1.out).1).trans HZ1.out); clear hb b0 b1 b2 b3 b4 b5 b6 b7 b8 b9) | (refine wpList_store_to rfl 45 (.tmp 4) (.tmp 14) rfl rfl Y (globArr (((globs m)[i]?).getD ⟨0, false⟩)) rfl rfl 45 #[.int .u8 0, .bool false] HZ2.out siz_sglob rfl (by simp [globArr, Value.oneCell']) ?_))
  refine bodyPost_ret (v := .tuple #[.agg (globArr (((globs m)[i]?).getD ⟨0, false⟩)), .bool ((globs m)[i]?).isSome]) (res_cell_tmp (p := 4) (q := 5) (ty := 45) (by kernel_rfl) _ _ Y 45 (globArr (((globs m)[i]?).getD ⟨0, false⟩)) (0, 0) D rfl (setRow_heap _ _ #[.int .u8 0, .bool false] _ _ _ HZ2.out) HU.out HD.out siz_sglob (.bool ((globs m)[i]?).isSome) rfl) rfl ?_
  exact ⟨rfl, below_setRow HB2.out HY.out _⟩
set_option maxRecDepth 100000 in
set_option maxHeartbeats 4000000 in
theorem stable_any (p : Option Addr) (m : M) (i : Nat) (w : World) (h : Recv w p m) (hl : Some6 m) (hi : i < 4294967296) :
    Calls Try.prog 14 #[.pointer p, .int .u32 (i : Int)] w fun e w' => LimPost ((tabs m)[i]?) w e w' := by
  obtain ⟨D, hu, hd⟩ := descOf des_slim
  have HU := Lib.hid hu
  have HD := Lib.hid hd
  clear hu hd
  have HL := Lib.hid hl.tabs
  have HZ0 := Lib.hid (heap_alloc_new w (.cells #[.int .u32 0, .int .i64 0] 51))
  have HB0 : Hid (Below w.heap.size w (w.alloc (.cells #[.int .u32 0, .int .i64 0] 51))) := Lib.hid ((Below.refl _ _).alloc (Nat.le_refl _) _)
  have HR := Lib.hid (h.grow HB0.out)
  clear h hl
  go_enter Try.func14, Try.ntmps14
  go_upto_region 1 with fail
  generalize w.alloc (.cells #[.int .u32 0, .int .i64 0] 51) = w0 at HZ0 HB0 HR ⊢
  obtain ⟨Y, hY⟩ : ∃ Y, w.heap.size = Y := ⟨_, rfl⟩
  rw [hY] at HZ0
  have HY : Hid (w.heap.size ≤ Y) := Lib.hid (by omega)
  simp only [hY]
  clear hY
  go_wp2_with (first | (go_at_call 36; refine (sthere_any p m w0 HR.out).mono ?_; rintro e w1 ⟨P, rfl, hs, hb⟩; have HB1 := Lib.hid (HB0.out.trans (hb.mono HB0.out.size)); have HZ1 := Lib.hid ((hb.block Y (Array.getElem?_eq_some_iff.1 HZ0.out).1).trans HZ0.out); obtain ⟨A1, d1, A2, d2, A3, d3, A4, d4, A5, d5, A6, d6, h0, h1, h2, h3, h4, h5, h6⟩ := hs; obtain ⟨b0, b1, b2, b3, b4, b5, b6, b7, b8, b9⟩ := ten_cells h0; have HS := Lib.hid h3; clear hb h0 h1 h2 h3 h4 h5 h6) | (go_at_call 39; refine (satL_any (tabs m) _ i w1 HS.out hi HL.out).mono ?_; rintro e w2 ⟨rfl, hb⟩; have HB2 := Lib.hid (HB1.out.trans (hb.mono HB1.out.size)); have HZ2 := Lib.hid ((hb.block Y (Array.getElem?_eq_some_iff.1 HZ1.out).1).trans HZ1.out); clear hb b0 b1 b2 b3 b4 b5 b6 b7 b8 b9) | (refine wpList_store_to rfl 51 (.tmp 4) (.tmp 14) rfl rfl Y (limArr (((tabs m)[i]?).getD ⟨0, 0⟩)) rfl rfl 51 #[.int .u32 0, .int .i64 0] HZ2.out siz_slim rfl (by simp [limArr, Value.oneCell']) ?_))
  refine bodyPost_ret (v := .tuple #[.agg (limArr (((tabs m)[i]?).getD ⟨0, 0⟩)), .bool ((tabs m)[i]?).isSome]) (res_cell_tmp (p := 4) (q := 5) (ty := 51) (by kernel_rfl) _ _ Y 51 (limArr (((tabs m)[i]?).getD ⟨0, 0⟩)) (0, 0) D rfl (setRow_heap _ _ #[.int .u32 0, .int .i64 0] _ _ _ HZ2.out) HU.out HD.out siz_slim (.bool ((tabs m)[i]?).isSome) rfl) rfl ?_
  exact ⟨rfl, below_setRow HB2.out HY.out _⟩
set_option maxRecDepth 100000 in
set_option maxHeartbeats 4000000 in
theorem smem_any (p : Option Addr) (m : M) (i : Nat) (w : World) (h : Recv w p m) (hl : Some6 m) (hi : i < 4294967296) :
    Calls Try.prog 16 #[.pointer p, .int .u32 (i : Int)] w fun e w' => LimPost ((mems m)[i]?) w e w' := by
  obtain ⟨D, hu, hd⟩ := descOf des_slim
  have HU := Lib.hid hu
  have HD := Lib.hid hd
  clear hu hd
  have HL := Lib.hid hl.mems
  have HZ0 := Lib.hid (heap_alloc_new w (.cells #[.int .u32 0, .int .i64 0] 51))
  have HB0 : Hid (Below w.heap.size w (w.alloc (.cells #[.int .u32 0, .int .i64 0] 51))) := Lib.hid ((Below.refl _ _).alloc (Nat.le_refl _) _)
  have HR := Lib.hid (h.grow HB0.out)
  clear h hl
  go_enter Try.func16, Try.ntmps16
  go_upto_region 1 with fail
  generalize w.alloc (.cells #[.int .u32 0, .int .i64 0] 51) = w0 at HZ0 HB0 HR ⊢
  obtain ⟨Y, hY⟩ : ∃ Y, w.heap.size = Y := ⟨_, rfl⟩
  rw [hY] at HZ0
  have HY : Hid (w.heap.size ≤ Y) := Lib.hid (by omega)
  simp only [hY]
  clear hY
  go_wp2_with (first | (go_at_call 36; refine (sthere_any p m w0 HR.out).mono ?_; rintro e w1 ⟨P, rfl, hs, hb⟩; have HB1 := Lib.hid (HB0.out.trans (hb.mono HB0.out.size)); have HZ1 := Lib.hid ((hb.block Y (Array.getElem?_eq_some_iff.1 HZ0.out).1).trans HZ0.out); obtain ⟨A1, d1, A2, d2, A3, d3, A4, d4, A5, d5, A6, d6, h0, h1, h2, h3, h4, h5, h6⟩ := hs; obtain ⟨b0, b1, b2, b3, b4, b5, b6, b7, b8, b9⟩ := ten_cells h0; have HS := Lib.hid h4; clear hb h0 h1 h2 h3 h4 h5 h6) | (go_at_call 39; refine (satL_any (mems m) _ i w1 HS.out hi HL.out).mono ?_; rintro e w2 ⟨rfl, hb⟩; have HB2 := Lib.hid (HB1.out.trans (hb.mono HB1.out.size)); have HZ2 := Lib.hid ((hb.block Y (Array.getElem?_eq_some_iff.1 HZ1.out).1).trans HZ1.out); clear hb b0 b1 b2 b3 b4 b5 b6 b7 b8 b9) | (refine wpList_store_to rfl 51 (.tmp 4) (.tmp 14) rfl rfl Y (limArr (((mems m)[i]?).getD ⟨0, 0⟩)) rfl rfl 51 #[.int .u32 0, .int .i64 0] HZ2.out siz_slim rfl (by simp [limArr, Value.oneCell']) ?_))
  refine bodyPost_ret (v := .tuple #[.agg (limArr (((mems m)[i]?).getD ⟨0, 0⟩)), .bool ((mems m)[i]?).isSome]) (res_cell_tmp (p := 4) (q := 5) (ty := 51) (by kernel_rfl) _ _ Y 51 (limArr (((mems m)[i]?).getD ⟨0, 0⟩)) (0, 0) D rfl (setRow_heap _ _ #[.int .u32 0, .int .i64 0] _ _ _ HZ2.out) HU.out HD.out siz_slim (.bool ((mems m)[i]?).isSome) rfl) rfl ?_
  exact ⟨rfl, below_setRow HB2.out HY.out _⟩
set_option maxRecDepth 100000 in
set_option maxHeartbeats 4000000 in
theorem stype_any (p : Option Addr) (m : M) (i : Nat) (w : World) (h : Recv w p m) (hl : Some6 m) (hi : i < 4294967296) :
    Calls Try.prog 17 #[.pointer p, .int .u32 (i : Int)] w fun e w' => TypePost (m.types[i]?) w e w' := by
  have HL := Lib.hid hl.types
  have HE : Hid (((m.types[i]?).getD ⟨[], []⟩).params.length ≤ 4294967296 ∧ ((m.types[i]?).getD ⟨[], []⟩).results.length ≤ 4294967296) := Lib.hid (by
    cases hx : m.types[i]? with
    | none => simp
    | some x => have := hl.each x (List.mem_of_getElem? hx); simp; omega)
  have HAT := Lib.hid (fun W v (hv : SliceV W (· < W.heap.size) m.types v) => satF_any m.types v i W hv hi HL.out)
  generalize m.types[i]? = o at HE HAT ⊢
  obtain ⟨x, hx⟩ : ∃ x, o.getD ⟨[], []⟩ = x := ⟨_, rfl⟩
  have HX := Lib.hid hx
  rw [hx] at HE HAT
  clear hx
  generalize hbb : o.isSome = bb at HAT
  have HBB := Lib.hid hbb
  clear hbb
  obtain ⟨p1, hp1⟩ : ∃ p, x.params.length = p := ⟨_, rfl⟩
  obtain ⟨p2, hp2⟩ : ∃ p, x.results.length = p := ⟨_, rfl⟩
  have HCP := Lib.hid (fun W u v (hu : SliceV W (· < W.heap.size) x.params u) (hv : SliceV W (· < W.heap.size) x.results v) => scopy_any x u v W hu hv HE.out.1 HE.out.2)
  simp only [hp1, hp2] at HAT HCP
  clear hp1 hp2
  obtain ⟨D, hu, hd⟩ := descOf des_sft
  have HU := Lib.hid hu
  have HD := Lib.hid hd
  clear hu hd
  have HZ0 := Lib.hid (heap_alloc_new w (.cells #[.slice none 0 0, .slice none 0 0] 40))
  have HB0 : Hid (Below w.heap.size w (w.alloc (.cells #[.slice none 0 0, .slice none 0 0] 40))) := Lib.hid ((Below.refl _ _).alloc (Nat.le_refl _) _)
  have HR := Lib.hid (h.grow HB0.out)
  clear h hl
  go_enter Try.func17, Try.ntmps17
  go_upto_region 1 with fail
  generalize w.alloc (.cells #[.slice none 0 0, .slice none 0 0] 40) = w0 at HZ0 HB0 HR ⊢
  obtain ⟨Y, hY⟩ : ∃ Y, w.heap.size = Y := ⟨_, rfl⟩
  rw [hY] at HZ0
  have HY : Hid (w.heap.size ≤ Y) := Lib.hid (by omega)
  simp only [hY]
  clear hY
  go_upto_region 2 with (first | (go_at_call 36; refine (sthere_any p m w0 HR.out).mono ?_; rintro e w1 ⟨P, rfl, hs, hb⟩; have HB1 := Lib.hid (HB0.out.trans (hb.mono HB0.out.size)); have HZ1 := Lib.hid ((hb.block Y (Array.getElem?_eq_some_iff.1 HZ0.out).1).trans HZ0.out); have HR1 := Lib.hid (HR.out.grow hb); obtain ⟨A1, d1, A2, d2, A3, d3, A4, d4, A5, d5, A6, d6, h0, h1, h2, h3, h4, h5, h6⟩ := hs; obtain ⟨b0, b1, b2, b3, b4, b5, b6, b7, b8, b9⟩ := ten_cells h0; have HS := Lib.hid h1; clear hb h0 h1 h2 h3 h4 h5 h6) | (go_at_call 40; refine (HAT.out w1 _ HS.out).mono ?_; rintro e w2 ⟨E1, f1, E2, f2, rfl, hs1, hs2, hb⟩; have HB2 := Lib.hid (HB1.out.trans (hb.mono HB1.out.size)); have HZ2 := Lib.hid ((hb.block Y (Array.getElem?_eq_some_iff.1 HZ1.out).1).trans HZ1.out); have HS1 := Lib.hid hs1; have HS2 := Lib.hid hs2; clear hb hs1 hs2 b0 b1 b2 b3 b4 b5 b6 b7 b8 b9))
  have hba : Below w2.heap.size w2 (w2.alloc (.cells #[.slice E1 p1 f1, .slice E2 p2 f2] 40)) := (Below.refl _ _).alloc (Nat.le_refl _) _
  have HT := Lib.hid (heap_alloc_new w2 (.cells #[.slice E1 p1 f1, .slice E2 p2 f2] 40))
  have HB3 := Lib.hid (HB2.out.trans (hba.mono HB2.out.size))
  have HZ3 := Lib.hid ((hba.block Y (Array.getElem?_eq_some_iff.1 HZ2.out).1).trans HZ2.out)
  have HS1 := Lib.hid (HS1.out.grow hba)
  have HS2 := Lib.hid (HS2.out.grow hba)
  clear hba
  generalize w2.alloc (.cells #[.slice E1 p1 f1, .slice E2 p2 f2] 40) = w3 at HT HB3 HZ3 HS1 HS2 ⊢
  obtain ⟨t0, t1⟩ := two_cells HT.out
  go_wp2_with fail
  refine (HCP.out w3 _ _ HS1.out HS2.out).mono ?_
  rintro e w4 ⟨G1, k1, G2, k2, rfl, hs1, hs2, hb⟩
  have HB4 := Lib.hid (HB3.out.trans (hb.mono HB3.out.size))
  have HZ4 := Lib.hid ((hb.block Y (Array.getElem?_eq_some_iff.1 HZ3.out).1).trans HZ3.out)
  have HS1 := Lib.hid (hs1.more (S' := (· < w4.heap.size)) (fun k hk _ => hk))
  have HS2 := Lib.hid (hs2.more (S' := (· < w4.heap.size)) (fun k hk _ => hk))
  have HS3 := Lib.hid hs1
  have HS4 := Lib.hid hs2
  have HYL : Hid (Y < w3.heap.size) := Lib.hid (Array.getElem?_eq_some_iff.1 HZ3.out).1
  clear hb hs1 hs2 t0 t1
  go_wp2_with (refine wpList_store_to rfl 40 (.tmp 4) (.tmp 19) rfl rfl Y #[.slice G1 p1 k1, .slice G2 p2 k2] rfl rfl 40 #[.slice none 0 0, .slice none 0 0] HZ4.out siz_sft rfl (by simp [Value.oneCell']) ?_)
  refine bodyPost_ret (v := .tuple #[.agg #[.slice G1 p1 k1, .slice G2 p2 k2], .bool bb]) (res_cell_tmp (p := 4) (q := 5) (ty := 40) (by kernel_rfl) _ _ Y 40 #[.slice G1 p1 k1, .slice G2 p2 k2] (0, 0) D rfl (setRow_heap _ _ #[.slice none 0 0, .slice none 0 0] _ _ _ (HZ4.out)) HU.out HD.out siz_sft (.bool bb) rfl) rfl ?_
  have hms : Mod (· = Y) w4 (w4.setRow Y #[.slice G1 p1 k1, .slice G2 p2 k2]) := ⟨rfl, rfl, rfl, by simp, fun k _ ht => setRow_other w4 Y k _ ht⟩
  refine ⟨_, _, by rw [HBB.out], ?_, ?_, below_setRow HB4.out HY.out _⟩
  · rw [HX.out]
    exact (HS3.out.mod hms (fun g _ hg e => by have := HYL.out; have e' : g = Y := e; have hg' : w3.heap.size ≤ g := hg; omega)).more (fun k hk hg => Nat.le_trans HB3.out.size hg)
  · rw [HX.out]
    exact (HS4.out.mod hms (fun g _ hg e => by have := HYL.out; have e' : g = Y := e; have hg' : w3.heap.size ≤ g := hg; omega)).more (fun k hk hg => Nat.le_trans HB3.out.size hg)
set_option maxRecDepth 100000 in
set_option maxHeartbeats 4000000 in
theorem sfunc_any (p : Option Addr) (m : M) (i : Nat) (w : World) (h : Recv w p m) (hl : Some6 m) (hi : i < 4294967296) (hF : ∀ t ∈ funs m, t < 4294967296) :
    Calls Try.prog 9 #[.pointer p, .int .u32 (i : Int)] w fun e w' => FuncPost (func m i) w e w' := by
  have HL := Lib.hid hl.funs
  have HTP := Lib.hid (fun t (ht : t < 4294967296) W (hr : Recv W p m) => stype_any p m t W hr hl ht)
  have HAT := Lib.hid (fun W v (hv : SliceV W (· < W.heap.size) (funs m) v) => satU_any (funs m) v i W hv hi HL.out)
  cases hx : (funs m)[i]? with
  | none =>
    rw [hx] at HAT
    have HFN : Hid (func m i = none) := Lib.hid (by unfold func; rw [hx]; rfl)
    clear hx
    obtain ⟨D, hu, hd⟩ := descOf des_sft
    have HU := Lib.hid hu
    have HD := Lib.hid hd
    clear hu hd
    have HZ0 := Lib.hid (heap_alloc_new w (.cells #[.slice none 0 0, .slice none 0 0] 40))
    have HB0 : Hid (Below w.heap.size w (w.alloc (.cells #[.slice none 0 0, .slice none 0 0] 40))) := Lib.hid ((Below.refl _ _).alloc (Nat.le_refl _) _)
    have HR := Lib.hid (h.grow HB0.out)
    clear h hl
    go_enter Try.func9, Try.ntmps9
    go_upto_region 1 with fail
    generalize w.alloc (.cells #[.slice none 0 0, .slice none 0 0] 40) = w0 at HZ0 HB0 HR ⊢
    obtain ⟨Y, hY⟩ : ∃ Y, w.heap.size = Y := ⟨_, rfl⟩
    rw [hY] at HZ0
    have HY : Hid (w.heap.size ≤ Y) := Lib.hid (by omega)
    simp only [hY]
    clear hY
    go_wp2_with (first | (go_at_call 36; refine (sthere_any p m w0 HR.out).mono ?_; rintro e w1 ⟨P, rfl, hs, hb⟩; have HB1 := Lib.hid (HB0.out.trans (hb.mono HB0.out.size)); have HZ1 := Lib.hid ((hb.block Y (Array.getElem?_eq_some_iff.1 HZ0.out).1).trans HZ0.out); have HR1 := Lib.hid (HR.out.grow hb); obtain ⟨A1, d1, A2, d2, A3, d3, A4, d4, A5, d5, A6, d6, h0, h1, h2, h3, h4, h5, h6⟩ := hs; obtain ⟨b0, b1, b2, b3, b4, b5, b6, b7, b8, b9⟩ := ten_cells h0; have HS := Lib.hid h2; clear hb h0 h1 h2 h3 h4 h5 h6) | (go_at_call 35; refine (HAT.out w1 _ HS.out).mono ?_; rintro e w2 ⟨rfl, rfl⟩; clear b0 b1 b2 b3 b4 b5 b6 b7 b8 b9) | (refine wpList_store_to rfl 40 (.tmp 4) (.tmp 21) rfl rfl Y #[.slice none 0 0, .slice none 0 0] rfl rfl 40 #[.slice none 0 0, .slice none 0 0] HZ1.out siz_sft rfl (by simp [Value.oneCell']) ?_))
    refine bodyPost_ret (v := .tuple #[.agg #[.slice none 0 0, .slice none 0 0], .bool false]) (res_cell_tmp (p := 4) (q := 5) (ty := 40) (by kernel_rfl) _ _ Y 40 #[.slice none 0 0, .slice none 0 0] (0, 0) D rfl (setRow_heap _ _ #[.slice none 0 0, .slice none 0 0] _ _ _ (HZ1.out)) HU.out HD.out siz_sft (.bool false) rfl) rfl ?_
    rw [HFN.out]
    exact ⟨_, _, rfl, SliceV.nil _ _, SliceV.nil _ _, below_setRow HB1.out HY.out _⟩
  | some t =>
    rw [hx] at HAT
    have HFN : Hid (func m i = m.types[t]?) := Lib.hid (by unfold func; rw [hx]; rfl)
    have ht : t < 4294967296 := hF t (List.mem_of_getElem? hx)
    clear hx
    obtain ⟨D, hu, hd⟩ := descOf des_sft
    have HU := Lib.hid hu
    have HD := Lib.hid hd
    clear hu hd
    have HZ0 := Lib.hid (heap_alloc_new w (.cells #[.slice none 0 0, .slice none 0 0] 40))
    have HB0 : Hid (Below w.heap.size w (w.alloc (.cells #[.slice none 0 0, .slice none 0 0] 40))) := Lib.hid ((Below.refl _ _).alloc (Nat.le_refl _) _)
    have HR := Lib.hid (h.grow HB0.out)
    clear h hl
    go_enter Try.func9, Try.ntmps9
    go_upto_region 1 with fail
    generalize w.alloc (.cells #[.slice none 0 0, .slice none 0 0] 40) = w0 at HZ0 HB0 HR ⊢
    obtain ⟨Y, hY⟩ : ∃ Y, w.heap.size = Y := ⟨_, rfl⟩
    rw [hY] at HZ0
    have HY : Hid (w.heap.size ≤ Y) := Lib.hid (by omega)
    simp only [hY]
    clear hY
    go_wp2_with (first | (go_at_call 36; refine (sthere_any p m w0 HR.out).mono ?_; rintro e w1 ⟨P, rfl, hs, hb⟩; have HB1 := Lib.hid (HB0.out.trans (hb.mono HB0.out.size)); have HZ1 := Lib.hid ((hb.block Y (Array.getElem?_eq_some_iff.1 HZ0.out).1).trans HZ0.out); have HR1 := Lib.hid (HR.out.grow hb); obtain ⟨A1, d1, A2, d2, A3, d3, A4, d4, A5, d5, A6, d6, h0, h1, h2, h3, h4, h5, h6⟩ := hs; obtain ⟨b0, b1, b2, b3, b4, b5, b6, b7, b8, b9⟩ := ten_cells h0; have HS := Lib.hid h2; clear hb h0 h1 h2 h3 h4 h5 h6) | (go_at_call 35; refine (HAT.out w1 _ HS.out).mono ?_; rintro e w2 ⟨rfl, rfl⟩; clear b0 b1 b2 b3 b4 b5 b6 b7 b8 b9) | (go_at_call 17; refine (HTP.out t ht _ HR1.out).mono ?_; rintro e w3 hq; obtain ⟨u, v, rfl, hs1, hs2, hb⟩ := hq; obtain ⟨E1, f1, e1, _⟩ := id hs1; obtain ⟨E2, f2, e2, _⟩ := id hs2; have HS1 := Lib.hid hs1; have HS2 := Lib.hid hs2; have HB3 := Lib.hid (HB1.out.trans (hb.mono HB1.out.size)); have HZ3 := Lib.hid ((hb.block Y (Array.getElem?_eq_some_iff.1 HZ1.out).1).trans HZ1.out); clear hb hs1 hs2; generalize hq1 : (Option.getD m.types[t]? ⟨[], []⟩).params.length = p1 at e1; generalize hq2 : (Option.getD m.types[t]? ⟨[], []⟩).results.length = p2 at e2; subst e1 e2; clear hq1 hq2) | (refine wpList_store_to rfl 40 (.tmp 4) (.tmp 25) rfl rfl Y #[.slice E1 p1 f1, .slice E2 p2 f2] rfl rfl 40 #[.slice none 0 0, .slice none 0 0] HZ3.out siz_sft rfl (by simp [Value.oneCell']) ?_))
    refine bodyPost_ret (v := .tuple #[.agg #[.slice E1 p1 f1, .slice E2 p2 f2], .bool (m.types[t]?).isSome]) (res_cell_tmp (p := 4) (q := 5) (ty := 40) (by kernel_rfl) _ _ Y 40 #[.slice E1 p1 f1, .slice E2 p2 f2] (0, 0) D rfl (setRow_heap _ _ #[.slice none 0 0, .slice none 0 0] _ _ _ (HZ3.out)) HU.out HD.out siz_sft (.bool (m.types[t]?).isSome) rfl) rfl ?_
    rw [HFN.out]
    have hms : Mod (· = Y) w3 (w3.setRow Y #[.slice E1 p1 f1, .slice E2 p2 f2]) := ⟨rfl, rfl, rfl, by simp, fun k _ ht => setRow_other w3 Y k _ ht⟩
    have hbz := below_setRow HB3.out HY.out #[.slice E1 p1 f1, .slice E2 p2 f2]
    have hyl : Y < w2.heap.size := (Array.getElem?_eq_some_iff.1 HZ1.out).1
    have f {α : Type} [Lay α] {zs : List α} {v : Value} (h : SliceV w3 (w2.heap.size ≤ ·) zs v) : SliceV (w3.setRow Y #[.slice E1 p1 f1, .slice E2 p2 f2]) (· < (w3.setRow Y #[.slice E1 p1 f1, .slice E2 p2 f2]).heap.size) zs v := (h.mod hms (fun g _ hg e => by have e' : g = Y := e; have hg' : w2.heap.size ≤ g := hg; omega)).more (fun k hk _ => hk)
    exact ⟨_, _, rfl, f HS1.out, f HS2.out, hbz⟩
end Go.Proofs.Ytgnbkfkiigcdgaa
