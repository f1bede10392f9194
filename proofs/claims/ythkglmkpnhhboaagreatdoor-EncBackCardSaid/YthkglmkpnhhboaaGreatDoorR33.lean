/-
  The document's Same of two modules that are one. (gen/binsame.py)
-/
import Derived.Test.YthkglmkpnhhboaaGreatDoorR01
import Derived.Test.YthkglmkpnhhboaaGreatDoorR32
set_option maxRecDepth 100000
set_option maxHeartbeats 4000000
namespace Go.Proofs.YthkglmkpnhhboaaGreatDoor
open Go.RowKit Ins Bin
def M.small (m : M) : Prop := m.types.length ≤ 140737488355328 ∧ m.imports.length ≤ 140737488355328 ∧ m.funcs.length ≤ 140737488355328 ∧ m.tables.length ≤ 140737488355328 ∧ m.mems.length ≤ 140737488355328 ∧ m.globals.length ≤ 140737488355328 ∧ m.exports.length ≤ 140737488355328 ∧ m.elems.length ≤ 140737488355328 ∧ m.codes.length ≤ 140737488355328 ∧ m.datas.length ≤ 140737488355328 ∧
 (∀ x ∈ m.types, x.params.length ≤ 140737488355328 ∧ x.results.length ≤ 140737488355328) ∧ (∀ x ∈ m.globals, x.init.length ≤ 140737488355328 ∧ ∀ y ∈ x.init, y.l.length ≤ 140737488355328) ∧
 (∀ x ∈ m.elems, x.off.length ≤ 140737488355328 ∧ (∀ y ∈ x.off, y.l.length ≤ 140737488355328) ∧ x.funcs.length ≤ 140737488355328) ∧ (∀ x ∈ m.codes, x.locals.length ≤ 140737488355328 ∧ x.body.length ≤ 140737488355328 ∧ ∀ y ∈ x.body, y.l.length ≤ 140737488355328) ∧
 (∀ x ∈ m.datas, x.off.length ≤ 140737488355328 ∧ (∀ y ∈ x.off, y.l.length ≤ 140737488355328) ∧ x.b.length ≤ 140737488355328)
theorem eT (S1 S2 : Nat → Prop) (m : M) (v1 v2 : Value) (w : World) (h1 : ModV w S1 m v1) (h2 : ModV w S2 m v2) (hs : M.small m) :
  Calls Tryz.prog 11 #[v1, v2] w fun e w' => e = .returned (.bool true) ∧ Below w.heap.size w w' := by
 obtain ⟨_, _, _, _, _, _, _, _, _, _, rfl, ⟨⟨a1, x1, rfl, _, _, _, ha1⟩, ⟨a2, x2, rfl, _, _, _, ha2⟩, ⟨a3, x3, rfl, _, _, _, ha3⟩, ⟨a4, x4, rfl, _, _, _, ha4⟩, ⟨a5, x5, rfl, _, _, _, ha5⟩, ⟨a6, x6, rfl, _, _, _, ha6⟩, ⟨a7, x7, rfl, _, _, _, ha7⟩, _, ⟨a8, x8, rfl, _, _, _, ha8⟩, ⟨a9, x9, rfl, _, _, _, ha9⟩, ⟨a10, x10, rfl, _, _, _, ha10⟩⟩⟩ := h1
 obtain ⟨_, _, _, _, _, _, _, _, _, _, rfl, ⟨⟨b1, y1, rfl, _, _, _, hb1⟩, ⟨b2, y2, rfl, _, _, _, hb2⟩, ⟨b3, y3, rfl, _, _, _, hb3⟩, ⟨b4, y4, rfl, _, _, _, hb4⟩, ⟨b5, y5, rfl, _, _, _, hb5⟩, ⟨b6, y6, rfl, _, _, _, hb6⟩, ⟨b7, y7, rfl, _, _, _, hb7⟩, _, ⟨b8, y8, rfl, _, _, _, hb8⟩, ⟨b9, y9, rfl, _, _, _, hb9⟩, ⟨b10, y10, rfl, _, _, _, hb10⟩⟩⟩ := h2
 have HS := Y hs
 obtain ⟨n1, hn1⟩ : ∃ n, m.types.length = n := ⟨_, rfl⟩
 obtain ⟨n2, hn2⟩ : ∃ n, m.imports.length = n := ⟨_, rfl⟩
 obtain ⟨n3, hn3⟩ : ∃ n, m.funcs.length = n := ⟨_, rfl⟩
 obtain ⟨n4, hn4⟩ : ∃ n, m.tables.length = n := ⟨_, rfl⟩
 obtain ⟨n5, hn5⟩ : ∃ n, m.mems.length = n := ⟨_, rfl⟩
 obtain ⟨n6, hn6⟩ : ∃ n, m.globals.length = n := ⟨_, rfl⟩
 obtain ⟨n7, hn7⟩ : ∃ n, m.exports.length = n := ⟨_, rfl⟩
 obtain ⟨n8, hn8⟩ : ∃ n, m.elems.length = n := ⟨_, rfl⟩
 obtain ⟨n9, hn9⟩ : ∃ n, m.codes.length = n := ⟨_, rfl⟩
 obtain ⟨n10, hn10⟩ : ∃ n, m.datas.length = n := ⟨_, rfl⟩
 obtain ⟨hst, hhst⟩ : ∃ h, m.hasStart = h := ⟨_, rfl⟩
 obtain ⟨st, hst0⟩ : ∃ h, m.start = h := ⟨_, rfl⟩
 unfold modCells
 rw [hn1, hn2, hn3, hn4, hn5, hn6, hn7, hn8, hn9, hn10, hhst, hst0]
 clear hs hhst hst0
 have e1 : ((n1 : Int) == (n1 : Int)) = true := by simp
 have e2 : ((n2 : Int) == (n2 : Int)) = true := by simp
 have e6 : ((n6 : Int) == (n6 : Int)) = true := by simp
 have e7 : ((n7 : Int) == (n7 : Int)) = true := by simp
 have e8 : ((n8 : Int) == (n8 : Int)) = true := by simp
 have e10 : ((n10 : Int) == (n10 : Int)) = true := by simp
 have es : ((st : Int) == (st : Int)) = true := by simp
 have eh : (hst == hst) = true := by simp
 go_enter Tryz.func11, Tryz.ntmps11
 go_upto_region 1 with fail
 have HB0 : Hid (Below w.heap.size w ((w.alloc (.cells #[.slice a1 n1 x1, .slice a2 n2 x2, .slice a3 n3 x3, .slice a4 n4 x4, .slice a5 n5 x5, .slice a6 n6 x6, .slice a7 n7 x7, .bool hst, .int .u32 (st : Int), .slice a8 n8 x8, .slice a9 n9 x9, .slice a10 n10 x10] 33)).alloc (.cells #[.slice b1 n1 y1, .slice b2 n2 y2, .slice b3 n3 y3, .slice b4 n4 y4, .slice b5 n5 y5, .slice b6 n6 y6, .slice b7 n7 y7, .bool hst, .int .u32 (st : Int), .slice b8 n8 y8, .slice b9 n9 y9, .slice b10 n10 y10] 33))) := Y (((Below.refl _ _).alloc (Nat.le_refl _) _).alloc (by simp) _)
 have HX1 : Hid (((w.alloc (.cells #[.slice a1 n1 x1, .slice a2 n2 x2, .slice a3 n3 x3, .slice a4 n4 x4, .slice a5 n5 x5, .slice a6 n6 x6, .slice a7 n7 x7, .bool hst, .int .u32 (st : Int), .slice a8 n8 x8, .slice a9 n9 x9, .slice a10 n10 x10] 33)).alloc (.cells #[.slice b1 n1 y1, .slice b2 n2 y2, .slice b3 n3 y3, .slice b4 n4 y4, .slice b5 n5 y5, .slice b6 n6 y6, .slice b7 n7 y7, .bool hst, .int .u32 (st : Int), .slice b8 n8 y8, .slice b9 n9 y9, .slice b10 n10 y10] 33)).heap[w.heap.size]? = some (.cells #[.slice a1 n1 x1, .slice a2 n2 x2, .slice a3 n3 x3, .slice a4 n4 x4, .slice a5 n5 x5, .slice a6 n6 x6, .slice a7 n7 x7, .bool hst, .int .u32 (st : Int), .slice a8 n8 x8, .slice a9 n9 x9, .slice a10 n10 x10] 33 (0, 0))) := Y ((Below.heap_alloc _ _ _ (by simp)).trans (heap_alloc_new w _))
 have HX2 : Hid (((w.alloc (.cells #[.slice a1 n1 x1, .slice a2 n2 x2, .slice a3 n3 x3, .slice a4 n4 x4, .slice a5 n5 x5, .slice a6 n6 x6, .slice a7 n7 x7, .bool hst, .int .u32 (st : Int), .slice a8 n8 x8, .slice a9 n9 x9, .slice a10 n10 x10] 33)).alloc (.cells #[.slice b1 n1 y1, .slice b2 n2 y2, .slice b3 n3 y3, .slice b4 n4 y4, .slice b5 n5 y5, .slice b6 n6 y6, .slice b7 n7 y7, .bool hst, .int .u32 (st : Int), .slice b8 n8 y8, .slice b9 n9 y9, .slice b10 n10 y10] 33)).heap[w.heap.size + 1]? = some (.cells #[.slice b1 n1 y1, .slice b2 n2 y2, .slice b3 n3 y3, .slice b4 n4 y4, .slice b5 n5 y5, .slice b6 n6 y6, .slice b7 n7 y7, .bool hst, .int .u32 (st : Int), .slice b8 n8 y8, .slice b9 n9 y9, .slice b10 n10 y10] 33 (0, 0))) := Y (by have := heap_alloc_new (w.alloc (.cells #[.slice a1 n1 x1, .slice a2 n2 x2, .slice a3 n3 x3, .slice a4 n4 x4, .slice a5 n5 x5, .slice a6 n6 x6, .slice a7 n7 x7, .bool hst, .int .u32 (st : Int), .slice a8 n8 x8, .slice a9 n9 x9, .slice a10 n10 x10] 33)) (.cells #[.slice b1 n1 y1, .slice b2 n2 y2, .slice b3 n3 y3, .slice b4 n4 y4, .slice b5 n5 y5, .slice b6 n6 y6, .slice b7 n7 y7, .bool hst, .int .u32 (st : Int), .slice b8 n8 y8, .slice b9 n9 y9, .slice b10 n10 y10] 33); simpa using this)
 generalize (w.alloc (.cells #[.slice a1 n1 x1, .slice a2 n2 x2, .slice a3 n3 x3, .slice a4 n4 x4, .slice a5 n5 x5, .slice a6 n6 x6, .slice a7 n7 x7, .bool hst, .int .u32 (st : Int), .slice a8 n8 x8, .slice a9 n9 x9, .slice a10 n10 x10] 33)).alloc (.cells #[.slice b1 n1 y1, .slice b2 n2 y2, .slice b3 n3 y3, .slice b4 n4 y4, .slice b5 n5 y5, .slice b6 n6 y6, .slice b7 n7 y7, .bool hst, .int .u32 (st : Int), .slice b8 n8 y8, .slice b9 n9 y9, .slice b10 n10 y10] 33) = w0 at HB0 HX1 HX2 ⊢
 obtain ⟨X1, hX1⟩ : ∃ X, X = w.heap.size := ⟨_, rfl⟩
 obtain ⟨X2, hX2⟩ : ∃ X, X = w.heap.size + 1 := ⟨_, rfl⟩
 rw [← hX1] at HX1
 rw [← hX2] at HX2
 rw [← hX2, ← hX1]
 clear hX1 hX2
 have hx1 := (Array.getElem?_eq_some_iff.1 HX1.out).1
 have hx2 := (Array.getElem?_eq_some_iff.1 HX2.out).1
 have C0 := Y (fun W (hb : Below w0.heap.size w0 W) => (⟨(hb.cell (p := ⟨X1, 0, none⟩) hx1).trans (cell_of_row w0 X1 0 _ _ _ HX1.out), (hb.cell (p := ⟨X2, 0, none⟩) hx2).trans (cell_of_row w0 X2 0 _ _ _ HX2.out)⟩ : W.cell? ⟨X1, 0, none⟩ = some (.slice a1 n1 x1) ∧ W.cell? ⟨X2, 0, none⟩ = some (.slice b1 n1 y1)))
 have C1 := Y (fun W (hb : Below w0.heap.size w0 W) => (⟨(hb.cell (p := ⟨X1, 1, none⟩) hx1).trans (cell_of_row w0 X1 1 _ _ _ HX1.out), (hb.cell (p := ⟨X2, 1, none⟩) hx2).trans (cell_of_row w0 X2 1 _ _ _ HX2.out)⟩ : W.cell? ⟨X1, 1, none⟩ = some (.slice a2 n2 x2) ∧ W.cell? ⟨X2, 1, none⟩ = some (.slice b2 n2 y2)))
 have C2 := Y (fun W (hb : Below w0.heap.size w0 W) => (⟨(hb.cell (p := ⟨X1, 2, none⟩) hx1).trans (cell_of_row w0 X1 2 _ _ _ HX1.out), (hb.cell (p := ⟨X2, 2, none⟩) hx2).trans (cell_of_row w0 X2 2 _ _ _ HX2.out)⟩ : W.cell? ⟨X1, 2, none⟩ = some (.slice a3 n3 x3) ∧ W.cell? ⟨X2, 2, none⟩ = some (.slice b3 n3 y3)))
 have C3 := Y (fun W (hb : Below w0.heap.size w0 W) => (⟨(hb.cell (p := ⟨X1, 3, none⟩) hx1).trans (cell_of_row w0 X1 3 _ _ _ HX1.out), (hb.cell (p := ⟨X2, 3, none⟩) hx2).trans (cell_of_row w0 X2 3 _ _ _ HX2.out)⟩ : W.cell? ⟨X1, 3, none⟩ = some (.slice a4 n4 x4) ∧ W.cell? ⟨X2, 3, none⟩ = some (.slice b4 n4 y4)))
 have C4 := Y (fun W (hb : Below w0.heap.size w0 W) => (⟨(hb.cell (p := ⟨X1, 4, none⟩) hx1).trans (cell_of_row w0 X1 4 _ _ _ HX1.out), (hb.cell (p := ⟨X2, 4, none⟩) hx2).trans (cell_of_row w0 X2 4 _ _ _ HX2.out)⟩ : W.cell? ⟨X1, 4, none⟩ = some (.slice a5 n5 x5) ∧ W.cell? ⟨X2, 4, none⟩ = some (.slice b5 n5 y5)))
 have C5 := Y (fun W (hb : Below w0.heap.size w0 W) => (⟨(hb.cell (p := ⟨X1, 5, none⟩) hx1).trans (cell_of_row w0 X1 5 _ _ _ HX1.out), (hb.cell (p := ⟨X2, 5, none⟩) hx2).trans (cell_of_row w0 X2 5 _ _ _ HX2.out)⟩ : W.cell? ⟨X1, 5, none⟩ = some (.slice a6 n6 x6) ∧ W.cell? ⟨X2, 5, none⟩ = some (.slice b6 n6 y6)))
 have C6 := Y (fun W (hb : Below w0.heap.size w0 W) => (⟨(hb.cell (p := ⟨X1, 6, none⟩) hx1).trans (cell_of_row w0 X1 6 _ _ _ HX1.out), (hb.cell (p := ⟨X2, 6, none⟩) hx2).trans (cell_of_row w0 X2 6 _ _ _ HX2.out)⟩ : W.cell? ⟨X1, 6, none⟩ = some (.slice a7 n7 x7) ∧ W.cell? ⟨X2, 6, none⟩ = some (.slice b7 n7 y7)))
 have C7 := Y (fun W (hb : Below w0.heap.size w0 W) => (⟨(hb.cell (p := ⟨X1, 7, none⟩) hx1).trans (cell_of_row w0 X1 7 _ _ _ HX1.out), (hb.cell (p := ⟨X2, 7, none⟩) hx2).trans (cell_of_row w0 X2 7 _ _ _ HX2.out)⟩ : W.cell? ⟨X1, 7, none⟩ = some (.bool hst) ∧ W.cell? ⟨X2, 7, none⟩ = some (.bool hst)))
 have C8 := Y (fun W (hb : Below w0.heap.size w0 W) => (⟨(hb.cell (p := ⟨X1, 8, none⟩) hx1).trans (cell_of_row w0 X1 8 _ _ _ HX1.out), (hb.cell (p := ⟨X2, 8, none⟩) hx2).trans (cell_of_row w0 X2 8 _ _ _ HX2.out)⟩ : W.cell? ⟨X1, 8, none⟩ = some (.int .u32 (st : Int)) ∧ W.cell? ⟨X2, 8, none⟩ = some (.int .u32 (st : Int))))
 have C9 := Y (fun W (hb : Below w0.heap.size w0 W) => (⟨(hb.cell (p := ⟨X1, 9, none⟩) hx1).trans (cell_of_row w0 X1 9 _ _ _ HX1.out), (hb.cell (p := ⟨X2, 9, none⟩) hx2).trans (cell_of_row w0 X2 9 _ _ _ HX2.out)⟩ : W.cell? ⟨X1, 9, none⟩ = some (.slice a8 n8 x8) ∧ W.cell? ⟨X2, 9, none⟩ = some (.slice b8 n8 y8)))
 have C10 := Y (fun W (hb : Below w0.heap.size w0 W) => (⟨(hb.cell (p := ⟨X1, 10, none⟩) hx1).trans (cell_of_row w0 X1 10 _ _ _ HX1.out), (hb.cell (p := ⟨X2, 10, none⟩) hx2).trans (cell_of_row w0 X2 10 _ _ _ HX2.out)⟩ : W.cell? ⟨X1, 10, none⟩ = some (.slice a9 n9 x9) ∧ W.cell? ⟨X2, 10, none⟩ = some (.slice b9 n9 y9)))
 have C11 := Y (fun W (hb : Below w0.heap.size w0 W) => (⟨(hb.cell (p := ⟨X1, 11, none⟩) hx1).trans (cell_of_row w0 X1 11 _ _ _ HX1.out), (hb.cell (p := ⟨X2, 11, none⟩) hx2).trans (cell_of_row w0 X2 11 _ _ _ HX2.out)⟩ : W.cell? ⟨X1, 11, none⟩ = some (.slice a10 n10 x10) ∧ W.cell? ⟨X2, 11, none⟩ = some (.slice b10 n10 y10)))
 have G1 := Y (fun W (hb : Below w0.heap.size w0 W) => (⟨ha1.mod (Mod.of_below (T := fun _ => False) (HB0.out.trans (hb.mono HB0.out.size))) (fun _ _ _ h => h), hb1.mod (Mod.of_below (T := fun _ => False) (HB0.out.trans (hb.mono HB0.out.size))) (fun _ _ _ h => h)⟩ : HasL W S1 a1 m.types ∧ HasL W S2 b1 m.types))
 have G2 := Y (fun W (hb : Below w0.heap.size w0 W) => (⟨ha2.mod (Mod.of_below (T := fun _ => False) (HB0.out.trans (hb.mono HB0.out.size))) (fun _ _ _ h => h), hb2.mod (Mod.of_below (T := fun _ => False) (HB0.out.trans (hb.mono HB0.out.size))) (fun _ _ _ h => h)⟩ : HasL W S1 a2 m.imports ∧ HasL W S2 b2 m.imports))
 have G3 := Y (fun W (hb : Below w0.heap.size w0 W) => (⟨ha3.mod (Mod.of_below (T := fun _ => False) (HB0.out.trans (hb.mono HB0.out.size))) (fun _ _ _ h => h), hb3.mod (Mod.of_below (T := fun _ => False) (HB0.out.trans (hb.mono HB0.out.size))) (fun _ _ _ h => h)⟩ : HasL W S1 a3 m.funcs ∧ HasL W S2 b3 m.funcs))
 have G4 := Y (fun W (hb : Below w0.heap.size w0 W) => (⟨ha4.mod (Mod.of_below (T := fun _ => False) (HB0.out.trans (hb.mono HB0.out.size))) (fun _ _ _ h => h), hb4.mod (Mod.of_below (T := fun _ => False) (HB0.out.trans (hb.mono HB0.out.size))) (fun _ _ _ h => h)⟩ : HasL W S1 a4 m.tables ∧ HasL W S2 b4 m.tables))
 have G5 := Y (fun W (hb : Below w0.heap.size w0 W) => (⟨ha5.mod (Mod.of_below (T := fun _ => False) (HB0.out.trans (hb.mono HB0.out.size))) (fun _ _ _ h => h), hb5.mod (Mod.of_below (T := fun _ => False) (HB0.out.trans (hb.mono HB0.out.size))) (fun _ _ _ h => h)⟩ : HasL W S1 a5 m.mems ∧ HasL W S2 b5 m.mems))
 have G6 := Y (fun W (hb : Below w0.heap.size w0 W) => (⟨ha6.mod (Mod.of_below (T := fun _ => False) (HB0.out.trans (hb.mono HB0.out.size))) (fun _ _ _ h => h), hb6.mod (Mod.of_below (T := fun _ => False) (HB0.out.trans (hb.mono HB0.out.size))) (fun _ _ _ h => h)⟩ : HasL W S1 a6 m.globals ∧ HasL W S2 b6 m.globals))
 have G7 := Y (fun W (hb : Below w0.heap.size w0 W) => (⟨ha7.mod (Mod.of_below (T := fun _ => False) (HB0.out.trans (hb.mono HB0.out.size))) (fun _ _ _ h => h), hb7.mod (Mod.of_below (T := fun _ => False) (HB0.out.trans (hb.mono HB0.out.size))) (fun _ _ _ h => h)⟩ : HasL W S1 a7 m.exports ∧ HasL W S2 b7 m.exports))
 have G8 := Y (fun W (hb : Below w0.heap.size w0 W) => (⟨ha8.mod (Mod.of_below (T := fun _ => False) (HB0.out.trans (hb.mono HB0.out.size))) (fun _ _ _ h => h), hb8.mod (Mod.of_below (T := fun _ => False) (HB0.out.trans (hb.mono HB0.out.size))) (fun _ _ _ h => h)⟩ : HasL W S1 a8 m.elems ∧ HasL W S2 b8 m.elems))
 have G9 := Y (fun W (hb : Below w0.heap.size w0 W) => (⟨ha9.mod (Mod.of_below (T := fun _ => False) (HB0.out.trans (hb.mono HB0.out.size))) (fun _ _ _ h => h), hb9.mod (Mod.of_below (T := fun _ => False) (HB0.out.trans (hb.mono HB0.out.size))) (fun _ _ _ h => h)⟩ : HasL W S1 a9 m.codes ∧ HasL W S2 b9 m.codes))
 have G10 := Y (fun W (hb : Below w0.heap.size w0 W) => (⟨ha10.mod (Mod.of_below (T := fun _ => False) (HB0.out.trans (hb.mono HB0.out.size))) (fun _ _ _ h => h), hb10.mod (Mod.of_below (T := fun _ => False) (HB0.out.trans (hb.mono HB0.out.size))) (fun _ _ _ h => h)⟩ : HasL W S1 a10 m.datas ∧ HasL W S2 b10 m.datas))
 clear hx1 hx2 HX1 HX2 ha1 hb1 ha2 hb2 ha3 hb3 ha4 hb4 ha5 hb5 ha6 hb6 ha7 hb7 ha8 hb8 ha9 hb9 ha10 hb10
 have N3 := Y (fun W (hb : Below w0.heap.size w0 W) => hn3 ▸ eX S1 S2 m.funcs a3 b3 x3 y3 W (G3.out W hb).1 (G3.out W hb).2 HS.out.2.2.1)
 have N4 := Y (fun W (hb : Below w0.heap.size w0 W) => hn4 ▸ fJ S1 S2 m.tables a4 b4 x4 y4 W (G4.out W hb).1 (G4.out W hb).2 HS.out.2.2.2.1)
 have N5 := Y (fun W (hb : Below w0.heap.size w0 W) => hn5 ▸ fJ S1 S2 m.mems a5 b5 x5 y5 W (G5.out W hb).1 (G5.out W hb).2 HS.out.2.2.2.2.1)
 have N9 := Y (fun W (hb : Below w0.heap.size w0 W) => hn9 ▸ codes_any S1 S2 m.codes a9 b9 x9 y9 W (G9.out W hb).1 (G9.out W hb).2 HS.out.2.2.2.2.2.2.2.2.1 HS.out.2.2.2.2.2.2.2.2.2.2.2.2.2.1)
 have le1 : n1 ≤ 140737488355328 := hn1 ▸ HS.out.1
 have le2 : n2 ≤ 140737488355328 := hn2 ▸ HS.out.2.1
 have le3 : n3 ≤ 140737488355328 := hn3 ▸ HS.out.2.2.1
 have le4 : n4 ≤ 140737488355328 := hn4 ▸ HS.out.2.2.2.1
 have le5 : n5 ≤ 140737488355328 := hn5 ▸ HS.out.2.2.2.2.1
 have le6 : n6 ≤ 140737488355328 := hn6 ▸ HS.out.2.2.2.2.2.1
 have le7 : n7 ≤ 140737488355328 := hn7 ▸ HS.out.2.2.2.2.2.2.1
 have le8 : n8 ≤ 140737488355328 := hn8 ▸ HS.out.2.2.2.2.2.2.2.1
 have le9 : n9 ≤ 140737488355328 := hn9 ▸ HS.out.2.2.2.2.2.2.2.2.1
 have le10 : n10 ≤ 140737488355328 := hn10 ▸ HS.out.2.2.2.2.2.2.2.2.2.1
 have L1 := Y hn1
 have L2 := Y hn2
 have L3 := Y hn3
 have L4 := Y hn4
 have L5 := Y hn5
 have L6 := Y hn6
 have L7 := Y hn7
 have L8 := Y hn8
 have L9 := Y hn9
 have L10 := Y hn10
 clear hn1 hn2 hn3 hn4 hn5 hn6 hn7 hn8 hn9 hn10
 go_cut [5] from 12 to 105 (fun s wx => s = .bool true ∧ Hid (Below w0.heap.size w0 wx))
 case first =>
  as_aux_lemma =>
   have R0 : Hid (Below w0.heap.size w0 w0) := Y (Below.refl _ _)
   obtain ⟨p0, q0⟩ := C0.out _ R0.out
   obtain ⟨p1, q1⟩ := C1.out _ R0.out
   obtain ⟨p2, q2⟩ := C2.out _ R0.out
   have tok1 : True := trivial
   go_wp2_with (first | (go_at_call 21; refine (N3.out _ R0.out).mono ?_; rintro e w1 ⟨rfl, hb⟩; have R1 := Y (R0.out.trans (hb.mono R0.out.size)); clear hb; obtain ⟨p3, q3⟩ := C3.out _ R1.out) | (go_at_call 22; clear tok1; refine (N4.out _ R1.out).mono ?_; rintro e w2 ⟨rfl, hb⟩; have R2 := Y (R1.out.trans (hb.mono R1.out.size)); clear hb; obtain ⟨p4, q4⟩ := C4.out _ R2.out) | (go_at_call 22; refine (N5.out _ R2.out).mono ?_; rintro e w3 ⟨rfl, hb⟩; have R3 := Y (R2.out.trans (hb.mono R2.out.size)); clear hb; obtain ⟨p5, q5⟩ := C5.out _ R3.out; obtain ⟨p6, q6⟩ := C6.out _ R3.out; obtain ⟨p7, q7⟩ := C7.out _ R3.out; obtain ⟨p8, q8⟩ := C8.out _ R3.out; obtain ⟨p9, q9⟩ := C9.out _ R3.out; obtain ⟨p10, q10⟩ := C10.out _ R3.out) | (go_at_call 23; refine (N9.out _ R3.out).mono ?_; rintro e w4 ⟨rfl, hb⟩; have R4 := Y (R3.out.trans (hb.mono R3.out.size)); clear hb; obtain ⟨p11, q11⟩ := C11.out _ R4.out))
   go_meet
   case rel => exact ⟨rfl, R4⟩
 case rest =>
  obtain ⟨rfl, R4⟩ := hcut
  clear N3 N4 N5 N9 e1 e2 e6 e7 e8 e10 es eh
  go_wp2_with fail
  go_loopw [5, 6] (fun b i wr => ∃ j : Nat, j ≤ n1 ∧ i = .int .i64 (j : Int) ∧ b = .bool true ∧ Hid (Below w0.heap.size w0 wr)) (fun _ i _ => n1 - (intOf i).toNat)
  case atStart => exact ⟨0, by omega, rfl, rfl, R4⟩
  case round =>
   obtain ⟨j1, hj1, rfl, rfl, HB1⟩ := hrel
   clear R4
   obtain ⟨p, q⟩ := C0.out _ HB1.out
   by_cases hjn : j1 < n1
   ·as_aux_lemma =>
     have hji : (j1 : Int) < (n1 : Int) := by omega
     obtain ⟨z, hz⟩ : ∃ z, m.types[j1]? = some z := ⟨_, List.getElem?_eq_getElem (by have := L1.out; omega)⟩
     obtain ⟨g1, o1, cs1, hA1, _, hg1, ⟨_, _, rfl, ⟨B1, d1, rfl, _, _, _, hl1⟩, ⟨E1, f1, rfl, _, _, _, hi1⟩⟩, k1⟩ := (G1.out _ HB1.out).1 j1 z hz
     obtain ⟨g2, o2, cs2, hA2, _, hg2, ⟨_, _, rfl, ⟨B2, d2, rfl, _, _, _, hl2⟩, ⟨E2, f2, rfl, _, _, _, hi2⟩⟩, k2⟩ := (G1.out _ HB1.out).2 j1 z hz
     obtain ⟨zp, zr⟩ := z
     simp only at hl1 hl2 hi1 hi2 k1 k2
     obtain ⟨np, hnp⟩ : ∃ n, zp.length = n := ⟨_, rfl⟩
     obtain ⟨nr, hnr⟩ : ∃ n, zr.length = n := ⟨_, rfl⟩
     have HQ := Y (fun W (hb : Below wr.heap.size wr W) => (⟨(C0.out _ (HB1.out.trans (hb.mono HB1.out.size))).1, (C0.out _ (HB1.out.trans (hb.mono HB1.out.size))).2, (hb.cell (p := ⟨g1, o1 + j1 * 2 + 0, none⟩) hg1).trans (hnp ▸ k1 0 _ rfl), (hb.cell (p := ⟨g1, o1 + j1 * 2 + 1, none⟩) hg1).trans (hnr ▸ k1 1 _ rfl), (hb.cell (p := ⟨g2, o2 + j1 * 2 + 0, none⟩) hg2).trans (hnp ▸ k2 0 _ rfl), (hb.cell (p := ⟨g2, o2 + j1 * 2 + 1, none⟩) hg2).trans (hnr ▸ k2 1 _ rfl), bw (hl1.has.on hb) hnp.symm d1, bw (hi1.has.on hb) hnr.symm f1, bw (hl2.has.on hb) hnp.symm d2, bw (hi2.has.on hb) hnr.symm f2⟩ :
      W.cell? ⟨X1, 0, none⟩ = some (.slice (a1) n1 x1) ∧ W.cell? ⟨X2, 0, none⟩ = some (.slice (b1) n1 y1) ∧ W.cell? ⟨g1, o1 + j1 * 2, none⟩ = some (.slice B1 np d1) ∧ W.cell? ⟨g1, o1 + j1 * 2 + 1, none⟩ = some (.slice E1 nr f1) ∧ W.cell? ⟨g2, o2 + j1 * 2, none⟩ = some (.slice B2 np d2) ∧ W.cell? ⟨g2, o2 + j1 * 2 + 1, none⟩ = some (.slice E2 nr f2) ∧ (convert 36 9 (.slice B1 np d1)).run Tryz.prog W = .ok (.string ⟨zp.toArray⟩) W ∧ (convert 36 9 (.slice E1 nr f1)).run Tryz.prog W = .ok (.string ⟨zr.toArray⟩) W ∧ (convert 36 9 (.slice B2 np d2)).run Tryz.prog W = .ok (.string ⟨zp.toArray⟩) W ∧ (convert 36 9 (.slice E2 nr f2)).run Tryz.prog W = .ok (.string ⟨zr.toArray⟩) W))
     obtain ⟨sp, hsp⟩ : ∃ s, ByteArray.mk zp.toArray = s := ⟨_, rfl⟩
     obtain ⟨sr, hsr⟩ : ∃ s, ByteArray.mk zr.toArray = s := ⟨_, rfl⟩
     rw [hsp, hsr] at HQ
     subst hA1
     subst hA2
     clear hsp hsr hnp hnr k1 k2 hl1 hl2 hi1 hi2 hz hg1 hg2
     have HBX := Y (HB1.out.drew)
     go_upto_region 5 with fail
     have hcd := HQ.out _ (Below.drew (Below.refl _ _))
     refine wp_region_held_drew (S := (fun w' => w'.cell? ⟨X1, 0, none⟩ = some (.slice (some ⟨g1, o1, none⟩) n1 x1) ∧ w'.cell? ⟨X2, 0, none⟩ = some (.slice (some ⟨g2, o2, none⟩) n1 y1) ∧ w'.cell? ⟨g1, o1 + j1 * 2, none⟩ = some (.slice B1 np d1) ∧ w'.cell? ⟨g1, o1 + j1 * 2 + 1, none⟩ = some (.slice E1 nr f1) ∧ w'.cell? ⟨g2, o2 + j1 * 2, none⟩ = some (.slice B2 np d2) ∧ w'.cell? ⟨g2, o2 + j1 * 2 + 1, none⟩ = some (.slice E2 nr f2) ∧ (convert 36 9 (.slice B1 np d1)).run Tryz.prog w' = .ok (.string sp) w' ∧ (convert 36 9 (.slice E1 nr f1)).run Tryz.prog w' = .ok (.string sr) w' ∧ (convert 36 9 (.slice B2 np d2)).run Tryz.prog w' = .ok (.string sp) w' ∧ (convert 36 9 (.slice E2 nr f2)).run Tryz.prog w' = .ok (.string sr) w')) (by kernel_rfl) (hcd) (fun hHeld => ?_)
     refine dv 0 rfl ?_
     refine dv 1 rfl ?_
     refine dv 2 rfl ?_
     refine dv 3 rfl ?_
     refine dv 4 rfl ?_
     refine dv 5 rfl ?_
     refine dv 6 rfl ?_
     refine dv 7 rfl ?_
     refine dv 8 rfl ?_
     refine dv 9 rfl ?_
     refine dv 10 rfl ?_
     refine dv 11 rfl ?_
     refine dv 12 rfl ?_
     refine dv 13 rfl ?_
     refine dv 14 rfl ?_
     refine dv 15 rfl ?_
     refine dv 16 rfl ?_
     refine dv 17 rfl ?_
     refine dv 18 rfl ?_
     refine dv 19 rfl ?_
     refine dv 20 rfl ?_
     refine dv 21 rfl ?_
     refine dv 22 rfl ?_
     refine dv 23 rfl ?_
     refine dv 24 rfl ?_
     refine dv 25 rfl ?_
     refine dv 26 rfl ?_
     refine dv 27 rfl ?_
     refine dv 28 rfl ?_
     refine dv 29 rfl ?_
     refine dv 30 rfl ?_
     refine dv 31 rfl ?_
     refine dv 32 rfl ?_
     refine wpAnyH_done (by kernel_rfl) ?_ _
     go_wp2_with fail
     go_roundw
     case rel => exact ⟨j1 + 1, by omega, by go_num, rfl, HBX⟩
     case measure => simp [intOf]; omega
   ·obtain rfl : n1 = j1 := by omega
    go_wp2_with fail
    go_loopw [5, 7] (fun b i wr => ∃ j : Nat, j ≤ n2 ∧ i = .int .i64 (j : Int) ∧ b = .bool true ∧ Hid (Below w0.heap.size w0 wr)) (fun _ i _ => n2 - (intOf i).toNat)
    case atStart => exact ⟨0, by omega, rfl, rfl, HB1⟩
    case round =>
     obtain ⟨j2, hj2, rfl, rfl, HB2⟩ := hrel
     clear HB1
     obtain ⟨p, q⟩ := C1.out _ HB2.out
     by_cases hjn : j2 < n2
     ·as_aux_lemma =>
       have hji : (j2 : Int) < (n2 : Int) := by omega
       obtain ⟨z, hz⟩ : ∃ z, m.imports[j2]? = some z := ⟨_, List.getElem?_eq_getElem (by have := L2.out; omega)⟩
       obtain ⟨g1, o1, cs1, hA1, _, hg1, ⟨rfl, _⟩, k1⟩ := (G2.out _ HB2.out).1 j2 z hz
       obtain ⟨g2, o2, cs2, hA2, _, hg2, ⟨rfl, _⟩, k2⟩ := (G2.out _ HB2.out).2 j2 z hz
       obtain ⟨zm, zn, zk, zt, ⟨zmi, zma⟩, ⟨zgt, zgm⟩⟩ := z
       have HQ := Y (fun W (hb : Below wr.heap.size wr W) => (⟨(C1.out _ (HB2.out.trans (hb.mono HB2.out.size))).1, (C1.out _ (HB2.out.trans (hb.mono HB2.out.size))).2, (hb.cell (p := ⟨g1, o1 + j2 * 8 + 0, none⟩) hg1).trans (k1 0 _ rfl), (hb.cell (p := ⟨g1, o1 + j2 * 8 + 1, none⟩) hg1).trans (k1 1 _ rfl), (hb.cell (p := ⟨g1, o1 + j2 * 8 + 2, none⟩) hg1).trans (k1 2 _ rfl), (hb.cell (p := ⟨g1, o1 + j2 * 8 + 3, none⟩) hg1).trans (k1 3 _ rfl), (hb.cell (p := ⟨g1, o1 + j2 * 8 + 4, none⟩) hg1).trans (k1 4 _ rfl), (hb.cell (p := ⟨g1, o1 + j2 * 8 + 5, none⟩) hg1).trans (k1 5 _ rfl), (hb.cell (p := ⟨g1, o1 + j2 * 8 + 6, none⟩) hg1).trans (k1 6 _ rfl), (hb.cell (p := ⟨g1, o1 + j2 * 8 + 7, none⟩) hg1).trans (k1 7 _ rfl), (hb.cell (p := ⟨g2, o2 + j2 * 8 + 0, none⟩) hg2).trans (k2 0 _ rfl), (hb.cell (p := ⟨g2, o2 + j2 * 8 + 1, none⟩) hg2).trans (k2 1 _ rfl), (hb.cell (p := ⟨g2, o2 + j2 * 8 + 2, none⟩) hg2).trans (k2 2 _ rfl), (hb.cell (p := ⟨g2, o2 + j2 * 8 + 3, none⟩) hg2).trans (k2 3 _ rfl), (hb.cell (p := ⟨g2, o2 + j2 * 8 + 4, none⟩) hg2).trans (k2 4 _ rfl), (hb.cell (p := ⟨g2, o2 + j2 * 8 + 5, none⟩) hg2).trans (k2 5 _ rfl), (hb.cell (p := ⟨g2, o2 + j2 * 8 + 6, none⟩) hg2).trans (k2 6 _ rfl), (hb.cell (p := ⟨g2, o2 + j2 * 8 + 7, none⟩) hg2).trans (k2 7 _ rfl)⟩ :
        W.cell? ⟨X1, 1, none⟩ = some (.slice (a2) n2 x2) ∧ W.cell? ⟨X2, 1, none⟩ = some (.slice (b2) n2 y2) ∧ W.cell? ⟨g1, o1 + j2 * 8, none⟩ = some (.string ⟨zm.toArray⟩) ∧ W.cell? ⟨g1, o1 + j2 * 8 + 1, none⟩ = some (.string ⟨zn.toArray⟩) ∧ W.cell? ⟨g1, o1 + j2 * 8 + 2, none⟩ = some (.int .u8 (zk.toNat : Int)) ∧ W.cell? ⟨g1, o1 + j2 * 8 + 3, none⟩ = some (.int .u32 (zt : Int)) ∧ W.cell? ⟨g1, o1 + j2 * 8 + 4, none⟩ = some (.int .u32 (zmi : Int)) ∧ W.cell? ⟨g1, o1 + j2 * 8 + 5, none⟩ = some (.int .i64 zma) ∧ W.cell? ⟨g1, o1 + j2 * 8 + 6, none⟩ = some (.int .u8 (zgt.toNat : Int)) ∧ W.cell? ⟨g1, o1 + j2 * 8 + 7, none⟩ = some (.bool zgm) ∧ W.cell? ⟨g2, o2 + j2 * 8, none⟩ = some (.string ⟨zm.toArray⟩) ∧ W.cell? ⟨g2, o2 + j2 * 8 + 1, none⟩ = some (.string ⟨zn.toArray⟩) ∧ W.cell? ⟨g2, o2 + j2 * 8 + 2, none⟩ = some (.int .u8 (zk.toNat : Int)) ∧ W.cell? ⟨g2, o2 + j2 * 8 + 3, none⟩ = some (.int .u32 (zt : Int)) ∧ W.cell? ⟨g2, o2 + j2 * 8 + 4, none⟩ = some (.int .u32 (zmi : Int)) ∧ W.cell? ⟨g2, o2 + j2 * 8 + 5, none⟩ = some (.int .i64 zma) ∧ W.cell? ⟨g2, o2 + j2 * 8 + 6, none⟩ = some (.int .u8 (zgt.toNat : Int)) ∧ W.cell? ⟨g2, o2 + j2 * 8 + 7, none⟩ = some (.bool zgm)))
       obtain ⟨sp, hsp⟩ : ∃ s, ByteArray.mk zm.toArray = s := ⟨_, rfl⟩
       obtain ⟨sr, hsr⟩ : ∃ s, ByteArray.mk zn.toArray = s := ⟨_, rfl⟩
       rw [hsp, hsr] at HQ
       generalize zk.toNat = vk at HQ
       generalize zgt.toNat = vg at HQ
       subst hA1
       subst hA2
       clear hsp hsr k1 k2 hz hg1 hg2
       have HBX := Y (HB2.out.drew)
       go_upto_region 9 with fail
       have hcd := HQ.out _ (Below.drew (Below.refl _ _))
       refine wp_region_held_drew (S := (fun w' => w'.cell? ⟨X1, 1, none⟩ = some (.slice (some ⟨g1, o1, none⟩) n2 x2) ∧ w'.cell? ⟨X2, 1, none⟩ = some (.slice (some ⟨g2, o2, none⟩) n2 y2) ∧ w'.cell? ⟨g1, o1 + j2 * 8, none⟩ = some (.string sp) ∧ w'.cell? ⟨g1, o1 + j2 * 8 + 1, none⟩ = some (.string sr) ∧ w'.cell? ⟨g1, o1 + j2 * 8 + 2, none⟩ = some (.int .u8 (vk : Int)) ∧ w'.cell? ⟨g1, o1 + j2 * 8 + 3, none⟩ = some (.int .u32 (zt : Int)) ∧ w'.cell? ⟨g1, o1 + j2 * 8 + 4, none⟩ = some (.int .u32 (zmi : Int)) ∧ w'.cell? ⟨g1, o1 + j2 * 8 + 5, none⟩ = some (.int .i64 zma) ∧ w'.cell? ⟨g1, o1 + j2 * 8 + 6, none⟩ = some (.int .u8 (vg : Int)) ∧ w'.cell? ⟨g1, o1 + j2 * 8 + 7, none⟩ = some (.bool zgm) ∧ w'.cell? ⟨g2, o2 + j2 * 8, none⟩ = some (.string sp) ∧ w'.cell? ⟨g2, o2 + j2 * 8 + 1, none⟩ = some (.string sr) ∧ w'.cell? ⟨g2, o2 + j2 * 8 + 2, none⟩ = some (.int .u8 (vk : Int)) ∧ w'.cell? ⟨g2, o2 + j2 * 8 + 3, none⟩ = some (.int .u32 (zt : Int)) ∧ w'.cell? ⟨g2, o2 + j2 * 8 + 4, none⟩ = some (.int .u32 (zmi : Int)) ∧ w'.cell? ⟨g2, o2 + j2 * 8 + 5, none⟩ = some (.int .i64 zma) ∧ w'.cell? ⟨g2, o2 + j2 * 8 + 6, none⟩ = some (.int .u8 (vg : Int)) ∧ w'.cell? ⟨g2, o2 + j2 * 8 + 7, none⟩ = some (.bool zgm))) (by kernel_rfl) (hcd) (fun hHeld => ?_)
       refine dv 0 rfl ?_
       refine dv 1 rfl ?_
       refine dv 2 rfl ?_
       refine dv 3 rfl ?_
       refine dv 4 rfl ?_
       refine dv 5 rfl ?_
       refine dv 6 rfl ?_
       refine dv 7 rfl ?_
       refine dv 8 rfl ?_
       refine dv 9 rfl ?_
       refine dv 10 rfl ?_
       refine dv 11 rfl ?_
       refine wpAnyH_done (by kernel_rfl) ?_ _
       go_wp2_with fail
       go_roundw
       case rel => exact ⟨j2 + 1, by omega, by go_num, rfl, HBX⟩
       case measure => simp [intOf]; omega
     ·obtain rfl : n2 = j2 := by omega
      go_wp2_with fail
      go_loopw [5, 8] (fun b i wr => ∃ j : Nat, j ≤ n6 ∧ i = .int .i64 (j : Int) ∧ b = .bool true ∧ Hid (Below w0.heap.size w0 wr)) (fun _ i _ => n6 - (intOf i).toNat)
      case atStart => exact ⟨0, by omega, rfl, rfl, HB2⟩
      case round =>
       obtain ⟨j3, hj3, rfl, rfl, HB3⟩ := hrel
       clear HB2
       obtain ⟨p, q⟩ := C5.out _ HB3.out
       by_cases hjn : j3 < n6
       ·as_aux_lemma =>
         have hji : (j3 : Int) < (n6 : Int) := by omega
         obtain ⟨z, hz⟩ : ∃ z, m.globals[j3]? = some z := ⟨_, List.getElem?_eq_getElem (by have := L6.out; omega)⟩
         have hzs := HS.out.2.2.2.2.2.2.2.2.2.2.2.1 z (List.mem_of_getElem? hz)
         obtain ⟨g1, o1, cs1, hA1, _, hg1, ⟨_, rfl, ⟨E1, f1, rfl, _, _, _, hi1⟩⟩, k1⟩ := (G6.out _ HB3.out).1 j3 z hz
         obtain ⟨g2, o2, cs2, hA2, _, hg2, ⟨_, rfl, ⟨E2, f2, rfl, _, _, _, hi2⟩⟩, k2⟩ := (G6.out _ HB3.out).2 j3 z hz
         obtain ⟨⟨zt, zu⟩, zi⟩ := z
         simp only at hi1 hi2 k1 k2 hzs
         have HC := Y (fun W (hb : Below wr.heap.size wr W) => cB S1 S2 zi E1 E2 f1 f2 W (hi1.ins.mod (Mod.of_below (T := fun _ => False) hb) (fun _ _ _ h => h)) (hi2.ins.mod (Mod.of_below (T := fun _ => False) hb) (fun _ _ _ h => h)) hzs.1 hzs.2)
         obtain ⟨ni, hni⟩ : ∃ n, zi.length = n := ⟨_, rfl⟩
         rw [hni] at HC k1 k2
         have HQ := Y (fun W (hb : Below wr.heap.size wr W) => (⟨(C5.out _ (HB3.out.trans (hb.mono HB3.out.size))).1, (C5.out _ (HB3.out.trans (hb.mono HB3.out.size))).2, (hb.cell (p := ⟨g1, o1 + j3 * 3 + 0, none⟩) hg1).trans (k1 0 _ rfl), (hb.cell (p := ⟨g1, o1 + j3 * 3 + 1, none⟩) hg1).trans (k1 1 _ rfl), (hb.cell (p := ⟨g1, o1 + j3 * 3 + 2, none⟩) hg1).trans (k1 2 _ rfl), (hb.cell (p := ⟨g2, o2 + j3 * 3 + 0, none⟩) hg2).trans (k2 0 _ rfl), (hb.cell (p := ⟨g2, o2 + j3 * 3 + 1, none⟩) hg2).trans (k2 1 _ rfl), (hb.cell (p := ⟨g2, o2 + j3 * 3 + 2, none⟩) hg2).trans (k2 2 _ rfl)⟩ :
          W.cell? ⟨X1, 5, none⟩ = some (.slice (a6) n6 x6) ∧ W.cell? ⟨X2, 5, none⟩ = some (.slice (b6) n6 y6) ∧ W.cell? ⟨g1, o1 + j3 * 3, none⟩ = some (.int .u8 (zt.toNat : Int)) ∧ W.cell? ⟨g1, o1 + j3 * 3 + 1, none⟩ = some (.bool zu) ∧ W.cell? ⟨g1, o1 + j3 * 3 + 2, none⟩ = some (.slice E1 ni f1) ∧ W.cell? ⟨g2, o2 + j3 * 3, none⟩ = some (.int .u8 (zt.toNat : Int)) ∧ W.cell? ⟨g2, o2 + j3 * 3 + 1, none⟩ = some (.bool zu) ∧ W.cell? ⟨g2, o2 + j3 * 3 + 2, none⟩ = some (.slice E2 ni f2)))
         generalize zt.toNat = vt at HQ
         subst hA1
         subst hA2
         clear k1 k2 hz hg1 hg2 hi1 hi2 hni hzs
         go_upto_region 13 with fail
         have hcd := HQ.out _ (Below.drew (Below.refl _ _))
         refine wp_region_held_drew (S := (fun w' => w'.cell? ⟨X1, 5, none⟩ = some (.slice (some ⟨g1, o1, none⟩) n6 x6) ∧ w'.cell? ⟨X2, 5, none⟩ = some (.slice (some ⟨g2, o2, none⟩) n6 y6) ∧ w'.cell? ⟨g1, o1 + j3 * 3, none⟩ = some (.int .u8 (vt : Int)) ∧ w'.cell? ⟨g1, o1 + j3 * 3 + 1, none⟩ = some (.bool zu) ∧ w'.cell? ⟨g1, o1 + j3 * 3 + 2, none⟩ = some (.slice E1 ni f1) ∧ w'.cell? ⟨g2, o2 + j3 * 3, none⟩ = some (.int .u8 (vt : Int)) ∧ w'.cell? ⟨g2, o2 + j3 * 3 + 1, none⟩ = some (.bool zu) ∧ w'.cell? ⟨g2, o2 + j3 * 3 + 2, none⟩ = some (.slice E2 ni f2))) (by kernel_rfl) (hcd) (fun hHeld => ?_)
         refine dv 0 rfl ?_
         refine dv 1 rfl ?_
         refine dv 2 rfl ?_
         refine dv 3 rfl ?_
         refine dv 4 rfl ?_
         refine dv 5 rfl ?_
         refine dv 6 rfl ?_
         refine dv 7 rfl ?_
         refine dv 8 rfl ?_
         refine dv 9 rfl ?_
         refine dv 10 rfl ?_
         refine dv 11 rfl ?_
         refine dv 12 rfl ?_
         refine dv 13 rfl ?_
         refine dv 14 rfl ?_
         refine dv 15 rfl ?_
         refine dv 16 rfl ?_
         refine dv 17 rfl ?_
         refine dv 18 rfl ?_
         refine dv 19 rfl ?_
         refine dv 20 rfl ?_
         refine dv 21 rfl ?_
         refine dv 22 rfl ?_
         refine dv 23 rfl ?_
         refine dv 24 rfl ?_
         refine dv 25 rfl ?_
         refine an 26 rfl (by kernel_rfl) (fun K hK => ?_)
         go_simp
         refine (HC.out _ (Below.drew (Below.refl _ _))).mono ?_
         rintro e w5 ⟨rfl, hb5⟩
         have HR5 : Hid (Below wr.heap.size wr w5) := Y ((Below.drew (Below.refl _ wr)).trans hb5)
         have HBX := Y (HB3.out.trans (HR5.out.mono HB3.out.size))
         clear hb5
         go_wp2_with fail
         refine hK.out _ _ (HQ.out _ HR5.out) (fun hHeld2 => ?_)
         clear hK K
         clear hHeld
         have hHeld := hHeld2
         clear hHeld2
         refine dv 27 rfl ?_
         refine dv 28 rfl ?_
         refine wpAnyH_done (by kernel_rfl) ?_ _
         go_wp2_with fail
         go_roundw
         case rel => exact ⟨j3 + 1, by omega, by go_num, rfl, HBX⟩
         case measure => simp [intOf]; omega
       ·obtain rfl : n6 = j3 := by omega
        go_wp2_with fail
        go_loopw [5, 9] (fun b i wr => ∃ j : Nat, j ≤ n7 ∧ i = .int .i64 (j : Int) ∧ b = .bool true ∧ Hid (Below w0.heap.size w0 wr)) (fun _ i _ => n7 - (intOf i).toNat)
        case atStart => exact ⟨0, by omega, rfl, rfl, HB3⟩
        case round =>
         obtain ⟨j4, hj4, rfl, rfl, HB4⟩ := hrel
         clear HB3
         obtain ⟨p, q⟩ := C6.out _ HB4.out
         by_cases hjn : j4 < n7
         ·as_aux_lemma =>
           have hji : (j4 : Int) < (n7 : Int) := by omega
           obtain ⟨z, hz⟩ : ∃ z, m.exports[j4]? = some z := ⟨_, List.getElem?_eq_getElem (by have := L7.out; omega)⟩
           obtain ⟨g1, o1, cs1, hA1, _, hg1, ⟨rfl, _⟩, k1⟩ := (G7.out _ HB4.out).1 j4 z hz
           obtain ⟨g2, o2, cs2, hA2, _, hg2, ⟨rfl, _⟩, k2⟩ := (G7.out _ HB4.out).2 j4 z hz
           obtain ⟨zm, zk, zx⟩ := z
           have HQ := Y (fun W (hb : Below wr.heap.size wr W) => (⟨(C6.out _ (HB4.out.trans (hb.mono HB4.out.size))).1, (C6.out _ (HB4.out.trans (hb.mono HB4.out.size))).2, (hb.cell (p := ⟨g1, o1 + j4 * 3 + 0, none⟩) hg1).trans (k1 0 _ rfl), (hb.cell (p := ⟨g1, o1 + j4 * 3 + 1, none⟩) hg1).trans (k1 1 _ rfl), (hb.cell (p := ⟨g1, o1 + j4 * 3 + 2, none⟩) hg1).trans (k1 2 _ rfl), (hb.cell (p := ⟨g2, o2 + j4 * 3 + 0, none⟩) hg2).trans (k2 0 _ rfl), (hb.cell (p := ⟨g2, o2 + j4 * 3 + 1, none⟩) hg2).trans (k2 1 _ rfl), (hb.cell (p := ⟨g2, o2 + j4 * 3 + 2, none⟩) hg2).trans (k2 2 _ rfl)⟩ :
            W.cell? ⟨X1, 6, none⟩ = some (.slice (a7) n7 x7) ∧ W.cell? ⟨X2, 6, none⟩ = some (.slice (b7) n7 y7) ∧ W.cell? ⟨g1, o1 + j4 * 3, none⟩ = some (.string ⟨zm.toArray⟩) ∧ W.cell? ⟨g1, o1 + j4 * 3 + 1, none⟩ = some (.int .u8 (zk.toNat : Int)) ∧ W.cell? ⟨g1, o1 + j4 * 3 + 2, none⟩ = some (.int .u32 (zx : Int)) ∧ W.cell? ⟨g2, o2 + j4 * 3, none⟩ = some (.string ⟨zm.toArray⟩) ∧ W.cell? ⟨g2, o2 + j4 * 3 + 1, none⟩ = some (.int .u8 (zk.toNat : Int)) ∧ W.cell? ⟨g2, o2 + j4 * 3 + 2, none⟩ = some (.int .u32 (zx : Int))))
           obtain ⟨sp, hsp⟩ : ∃ s, ByteArray.mk zm.toArray = s := ⟨_, rfl⟩
           rw [hsp] at HQ
           generalize zk.toNat = vk at HQ
           subst hA1
           subst hA2
           clear k1 k2 hz hg1 hg2 hsp
           have HBX := Y (HB4.out.drew)
           go_upto_region 17 with fail
           have hcd := HQ.out _ (Below.drew (Below.refl _ _))
           refine wp_region_held_drew (S := (fun w' => w'.cell? ⟨X1, 6, none⟩ = some (.slice (some ⟨g1, o1, none⟩) n7 x7) ∧ w'.cell? ⟨X2, 6, none⟩ = some (.slice (some ⟨g2, o2, none⟩) n7 y7) ∧ w'.cell? ⟨g1, o1 + j4 * 3, none⟩ = some (.string sp) ∧ w'.cell? ⟨g1, o1 + j4 * 3 + 1, none⟩ = some (.int .u8 (vk : Int)) ∧ w'.cell? ⟨g1, o1 + j4 * 3 + 2, none⟩ = some (.int .u32 (zx : Int)) ∧ w'.cell? ⟨g2, o2 + j4 * 3, none⟩ = some (.string sp) ∧ w'.cell? ⟨g2, o2 + j4 * 3 + 1, none⟩ = some (.int .u8 (vk : Int)) ∧ w'.cell? ⟨g2, o2 + j4 * 3 + 2, none⟩ = some (.int .u32 (zx : Int)))) (by kernel_rfl) (hcd) (fun hHeld => ?_)
           refine dv 0 rfl ?_
           refine dv 1 rfl ?_
           refine dv 2 rfl ?_
           refine dv 3 rfl ?_
           refine dv 4 rfl ?_
           refine dv 5 rfl ?_
           refine dv 6 rfl ?_
           refine dv 7 rfl ?_
           refine dv 8 rfl ?_
           refine dv 9 rfl ?_
           refine dv 10 rfl ?_
           refine dv 11 rfl ?_
           refine wpAnyH_done (by kernel_rfl) ?_ _
           go_wp2_with fail
           go_roundw
           case rel => exact ⟨j4 + 1, by omega, by go_num, rfl, HBX⟩
           case measure => simp [intOf]; omega
         ·obtain rfl : n7 = j4 := by omega
          go_wp2_with fail
          go_loopw [5, 10] (fun b i wr => ∃ j : Nat, j ≤ n8 ∧ i = .int .i64 (j : Int) ∧ b = .bool true ∧ Hid (Below w0.heap.size w0 wr)) (fun _ i _ => n8 - (intOf i).toNat)
          case atStart => exact ⟨0, by omega, rfl, rfl, HB4⟩
          case round =>
           obtain ⟨j5, hj5, rfl, rfl, HB5⟩ := hrel
           clear HB4
           obtain ⟨p, q⟩ := C9.out _ HB5.out
           by_cases hjn : j5 < n8
           ·as_aux_lemma =>
             have hji : (j5 : Int) < (n8 : Int) := by omega
             obtain ⟨z, hz⟩ : ∃ z, m.elems[j5]? = some z := ⟨_, List.getElem?_eq_getElem (by have := L8.out; omega)⟩
             have hzs := HS.out.2.2.2.2.2.2.2.2.2.2.2.2.1 z (List.mem_of_getElem? hz)
             obtain ⟨g1, o1, cs1, hA1, _, hg1, ⟨_, _, rfl, _, ⟨E1, f1, rfl, _, _, _, hi1⟩, ⟨D1, d1, rfl, _, _, _, hd1⟩⟩, k1⟩ := (G8.out _ HB5.out).1 j5 z hz
             obtain ⟨g2, o2, cs2, hA2, _, hg2, ⟨_, _, rfl, _, ⟨E2, f2, rfl, _, _, _, hi2⟩, ⟨D2, d2, rfl, _, _, _, hd2⟩⟩, k2⟩ := (G8.out _ HB5.out).2 j5 z hz
             obtain ⟨zt, zi, zf⟩ := z
             simp only at hi1 hi2 hd1 hd2 k1 k2 hzs
             have HC := Y (fun W (hb : Below wr.heap.size wr W) => cB S1 S2 zi E1 E2 f1 f2 W (hi1.ins.mod (Mod.of_below (T := fun _ => False) hb) (fun _ _ _ h => h)) (hi2.ins.mod (Mod.of_below (T := fun _ => False) hb) (fun _ _ _ h => h)) hzs.1 hzs.2.1)
             have HC2 := Y (fun W (hb : Below wr.heap.size wr W) => eX S1 S2 zf D1 D2 d1 d2 W (hd1.mod (Mod.of_below (T := fun _ => False) hb) (fun _ _ _ h => h)) (hd2.mod (Mod.of_below (T := fun _ => False) hb) (fun _ _ _ h => h)) hzs.2.2)
             obtain ⟨ni, hni⟩ : ∃ n, zi.length = n := ⟨_, rfl⟩
             obtain ⟨nf, hnf⟩ : ∃ n, zf.length = n := ⟨_, rfl⟩
             rw [hni] at HC k1 k2
             rw [hnf] at HC2 k1 k2
             have HQ := Y (fun W (hb : Below wr.heap.size wr W) => (⟨(C9.out _ (HB5.out.trans (hb.mono HB5.out.size))).1, (C9.out _ (HB5.out.trans (hb.mono HB5.out.size))).2, (hb.cell (p := ⟨g1, o1 + j5 * 3 + 0, none⟩) hg1).trans (k1 0 _ rfl), (hb.cell (p := ⟨g1, o1 + j5 * 3 + 1, none⟩) hg1).trans (k1 1 _ rfl), (hb.cell (p := ⟨g1, o1 + j5 * 3 + 2, none⟩) hg1).trans (k1 2 _ rfl), (hb.cell (p := ⟨g2, o2 + j5 * 3 + 0, none⟩) hg2).trans (k2 0 _ rfl), (hb.cell (p := ⟨g2, o2 + j5 * 3 + 1, none⟩) hg2).trans (k2 1 _ rfl), (hb.cell (p := ⟨g2, o2 + j5 * 3 + 2, none⟩) hg2).trans (k2 2 _ rfl)⟩ :
              W.cell? ⟨X1, 9, none⟩ = some (.slice (a8) n8 x8) ∧ W.cell? ⟨X2, 9, none⟩ = some (.slice (b8) n8 y8) ∧ W.cell? ⟨g1, o1 + j5 * 3, none⟩ = some (.int .u32 (zt : Int)) ∧ W.cell? ⟨g1, o1 + j5 * 3 + 1, none⟩ = some (.slice E1 ni f1) ∧ W.cell? ⟨g1, o1 + j5 * 3 + 2, none⟩ = some (.slice D1 nf d1) ∧ W.cell? ⟨g2, o2 + j5 * 3, none⟩ = some (.int .u32 (zt : Int)) ∧ W.cell? ⟨g2, o2 + j5 * 3 + 1, none⟩ = some (.slice E2 ni f2) ∧ W.cell? ⟨g2, o2 + j5 * 3 + 2, none⟩ = some (.slice D2 nf d2)))
             subst hA1
             subst hA2
             clear k1 k2 hz hg1 hg2 hi1 hi2 hd1 hd2 hni hnf hzs
             go_upto_region 21 with fail
             have hcd := HQ.out _ (Below.drew (Below.refl _ _))
             refine wp_region_held_drew (S := (fun w' => w'.cell? ⟨X1, 9, none⟩ = some (.slice (some ⟨g1, o1, none⟩) n8 x8) ∧ w'.cell? ⟨X2, 9, none⟩ = some (.slice (some ⟨g2, o2, none⟩) n8 y8) ∧ w'.cell? ⟨g1, o1 + j5 * 3, none⟩ = some (.int .u32 (zt : Int)) ∧ w'.cell? ⟨g1, o1 + j5 * 3 + 1, none⟩ = some (.slice E1 ni f1) ∧ w'.cell? ⟨g1, o1 + j5 * 3 + 2, none⟩ = some (.slice D1 nf d1) ∧ w'.cell? ⟨g2, o2 + j5 * 3, none⟩ = some (.int .u32 (zt : Int)) ∧ w'.cell? ⟨g2, o2 + j5 * 3 + 1, none⟩ = some (.slice E2 ni f2) ∧ w'.cell? ⟨g2, o2 + j5 * 3 + 2, none⟩ = some (.slice D2 nf d2))) (by kernel_rfl) (hcd) (fun hHeld => ?_)
             refine dv 0 rfl ?_
             refine dv 1 rfl ?_
             refine dv 2 rfl ?_
             refine dv 3 rfl ?_
             refine dv 4 rfl ?_
             refine dv 5 rfl ?_
             refine dv 6 rfl ?_
             refine dv 7 rfl ?_
             refine dv 8 rfl ?_
             refine dv 9 rfl ?_
             refine dv 10 rfl ?_
             refine dv 11 rfl ?_
             refine dv 12 rfl ?_
             refine dv 13 rfl ?_
             refine dv 14 rfl ?_
             refine dv 15 rfl ?_
             refine dv 16 rfl ?_
             refine dv 17 rfl ?_
             refine dv 18 rfl ?_
             refine dv 19 rfl ?_
             refine dv 20 rfl ?_
             refine dv 21 rfl ?_
             refine dv 22 rfl ?_
             refine dv 23 rfl ?_
             refine dv 24 rfl ?_
             refine dv 25 rfl ?_
             refine an 26 rfl (by kernel_rfl) (fun K hK => ?_)
             go_simp
             refine (HC.out _ (Below.drew (Below.refl _ _))).mono ?_
             rintro e w5 ⟨rfl, hb5⟩
             have HR5 : Hid (Below wr.heap.size wr w5) := Y ((Below.drew (Below.refl _ wr)).trans hb5)
             clear hb5
             go_wp2_with fail
             refine hK.out _ _ (HQ.out _ HR5.out) (fun hHeld2 => ?_)
             clear hK K
             clear hHeld
             have hHeld := hHeld2
             clear hHeld2
             refine dv 27 rfl ?_
             refine dv 28 rfl ?_
             refine dv 29 rfl ?_
             refine dv 30 rfl ?_
             refine dv 31 rfl ?_
             refine dv 32 rfl ?_
             refine dv 33 rfl ?_
             refine dv 34 rfl ?_
             refine dv 35 rfl ?_
             refine dv 36 rfl ?_
             refine dv 37 rfl ?_
             refine dv 38 rfl ?_
             refine dv 39 rfl ?_
             refine dv 40 rfl ?_
             refine an 41 rfl (by kernel_rfl) (fun K hK => ?_)
             go_simp
             refine (HC2.out _ HR5.out).mono ?_
             rintro e w6 ⟨rfl, hb5⟩
             have HR6 : Hid (Below wr.heap.size wr w6) := Y (HR5.out.trans (hb5.mono HR5.out.size))
             have HBX := Y (HB5.out.trans (HR6.out.mono HB5.out.size))
             clear hb5
             go_wp2_with fail
             refine hK.out _ _ (HQ.out _ HR6.out) (fun hHeld2 => ?_)
             clear hK K
             clear hHeld
             have hHeld := hHeld2
             clear hHeld2
             refine dv 42 rfl ?_
             refine dv 43 rfl ?_
             refine wpAnyH_done (by kernel_rfl) ?_ _
             go_wp2_with fail
             go_roundw
             case rel => exact ⟨j5 + 1, by omega, by go_num, rfl, HBX⟩
             case measure => simp [intOf]; omega
           ·obtain rfl : n8 = j5 := by omega
            go_wp2_with fail
            go_loopw [5, 11] (fun b i wr => ∃ j : Nat, j ≤ n10 ∧ i = .int .i64 (j : Int) ∧ b = .bool true ∧ Hid (Below w0.heap.size w0 wr)) (fun _ i _ => n10 - (intOf i).toNat)
            case atStart => exact ⟨0, by omega, rfl, rfl, HB5⟩
            case round =>
             obtain ⟨j6, hj6, rfl, rfl, HB6⟩ := hrel
             clear HB5
             obtain ⟨p, q⟩ := C11.out _ HB6.out
             by_cases hjn : j6 < n10
             ·as_aux_lemma =>
               have hji : (j6 : Int) < (n10 : Int) := by omega
               obtain ⟨z, hz⟩ : ∃ z, m.datas[j6]? = some z := ⟨_, List.getElem?_eq_getElem (by have := L10.out; omega)⟩
               have hzs := HS.out.2.2.2.2.2.2.2.2.2.2.2.2.2.2 z (List.mem_of_getElem? hz)
               obtain ⟨g1, o1, cs1, hA1, _, hg1, ⟨_, _, rfl, _, ⟨E1, f1, rfl, _, _, _, hi1⟩, ⟨D1, d1, rfl, _, _, _, hd1⟩⟩, k1⟩ := (G10.out _ HB6.out).1 j6 z hz
               obtain ⟨g2, o2, cs2, hA2, _, hg2, ⟨_, _, rfl, _, ⟨E2, f2, rfl, _, _, _, hi2⟩, ⟨D2, d2, rfl, _, _, _, hd2⟩⟩, k2⟩ := (G10.out _ HB6.out).2 j6 z hz
               obtain ⟨zt, zi, zf⟩ := z
               simp only at hi1 hi2 hd1 hd2 k1 k2 hzs
               have HC := Y (fun W (hb : Below wr.heap.size wr W) => cB S1 S2 zi E1 E2 f1 f2 W (hi1.ins.mod (Mod.of_below (T := fun _ => False) hb) (fun _ _ _ h => h)) (hi2.ins.mod (Mod.of_below (T := fun _ => False) hb) (fun _ _ _ h => h)) hzs.1 hzs.2.1)
               obtain ⟨ni, hni⟩ : ∃ n, zi.length = n := ⟨_, rfl⟩
               obtain ⟨nf, hnf⟩ : ∃ n, zf.length = n := ⟨_, rfl⟩
               rw [hni] at HC k1 k2
               rw [hnf] at k1 k2
               have HQ := Y (fun W (hb : Below wr.heap.size wr W) => (⟨(C11.out _ (HB6.out.trans (hb.mono HB6.out.size))).1, (C11.out _ (HB6.out.trans (hb.mono HB6.out.size))).2, (hb.cell (p := ⟨g1, o1 + j6 * 3 + 0, none⟩) hg1).trans (k1 0 _ rfl), (hb.cell (p := ⟨g1, o1 + j6 * 3 + 1, none⟩) hg1).trans (k1 1 _ rfl), (hb.cell (p := ⟨g1, o1 + j6 * 3 + 2, none⟩) hg1).trans (k1 2 _ rfl), (hb.cell (p := ⟨g2, o2 + j6 * 3 + 0, none⟩) hg2).trans (k2 0 _ rfl), (hb.cell (p := ⟨g2, o2 + j6 * 3 + 1, none⟩) hg2).trans (k2 1 _ rfl), (hb.cell (p := ⟨g2, o2 + j6 * 3 + 2, none⟩) hg2).trans (k2 2 _ rfl), bw (hd1.has.on hb) hnf.symm d1, bw (hd2.has.on hb) hnf.symm d2⟩ :
                W.cell? ⟨X1, 11, none⟩ = some (.slice (a10) n10 x10) ∧ W.cell? ⟨X2, 11, none⟩ = some (.slice (b10) n10 y10) ∧ W.cell? ⟨g1, o1 + j6 * 3, none⟩ = some (.int .u32 (zt : Int)) ∧ W.cell? ⟨g1, o1 + j6 * 3 + 1, none⟩ = some (.slice E1 ni f1) ∧ W.cell? ⟨g1, o1 + j6 * 3 + 2, none⟩ = some (.slice D1 nf d1) ∧ W.cell? ⟨g2, o2 + j6 * 3, none⟩ = some (.int .u32 (zt : Int)) ∧ W.cell? ⟨g2, o2 + j6 * 3 + 1, none⟩ = some (.slice E2 ni f2) ∧ W.cell? ⟨g2, o2 + j6 * 3 + 2, none⟩ = some (.slice D2 nf d2) ∧ (convert 36 9 (.slice D1 nf d1)).run Tryz.prog W = .ok (.string ⟨zf.toArray⟩) W ∧ (convert 36 9 (.slice D2 nf d2)).run Tryz.prog W = .ok (.string ⟨zf.toArray⟩) W))
               obtain ⟨sp, hsp⟩ : ∃ s, ByteArray.mk zf.toArray = s := ⟨_, rfl⟩
               rw [hsp] at HQ
               subst hA1
               subst hA2
               clear k1 k2 hz hg1 hg2 hsp hi1 hi2 hd1 hd2 hni hnf hzs
               go_upto_region 25 with fail
               have hcd := HQ.out _ (Below.drew (Below.refl _ _))
               refine wp_region_held_drew (S := (fun w' => w'.cell? ⟨X1, 11, none⟩ = some (.slice (some ⟨g1, o1, none⟩) n10 x10) ∧ w'.cell? ⟨X2, 11, none⟩ = some (.slice (some ⟨g2, o2, none⟩) n10 y10) ∧ w'.cell? ⟨g1, o1 + j6 * 3, none⟩ = some (.int .u32 (zt : Int)) ∧ w'.cell? ⟨g1, o1 + j6 * 3 + 1, none⟩ = some (.slice E1 ni f1) ∧ w'.cell? ⟨g1, o1 + j6 * 3 + 2, none⟩ = some (.slice D1 nf d1) ∧ w'.cell? ⟨g2, o2 + j6 * 3, none⟩ = some (.int .u32 (zt : Int)) ∧ w'.cell? ⟨g2, o2 + j6 * 3 + 1, none⟩ = some (.slice E2 ni f2) ∧ w'.cell? ⟨g2, o2 + j6 * 3 + 2, none⟩ = some (.slice D2 nf d2) ∧ (convert 36 9 (.slice D1 nf d1)).run Tryz.prog w' = .ok (.string sp) w' ∧ (convert 36 9 (.slice D2 nf d2)).run Tryz.prog w' = .ok (.string sp) w')) (by kernel_rfl) (hcd) (fun hHeld => ?_)
               refine dv 0 rfl ?_
               refine dv 1 rfl ?_
               refine dv 2 rfl ?_
               refine dv 3 rfl ?_
               refine dv 4 rfl ?_
               refine dv 5 rfl ?_
               refine dv 6 rfl ?_
               refine dv 7 rfl ?_
               refine dv 8 rfl ?_
               refine dv 9 rfl ?_
               refine dv 10 rfl ?_
               refine dv 11 rfl ?_
               refine dv 12 rfl ?_
               refine dv 13 rfl ?_
               refine dv 14 rfl ?_
               refine dv 15 rfl ?_
               refine dv 16 rfl ?_
               refine dv 17 rfl ?_
               refine dv 18 rfl ?_
               refine dv 19 rfl ?_
               refine dv 20 rfl ?_
               refine dv 21 rfl ?_
               refine dv 22 rfl ?_
               refine dv 23 rfl ?_
               refine dv 24 rfl ?_
               refine dv 25 rfl ?_
               refine an 26 rfl (by kernel_rfl) (fun K hK => ?_)
               go_simp
               refine (HC.out _ (Below.drew (Below.refl _ _))).mono ?_
               rintro e w5 ⟨rfl, hb5⟩
               have HR5 : Hid (Below wr.heap.size wr w5) := Y ((Below.drew (Below.refl _ wr)).trans hb5)
               have HBX := Y (HB6.out.trans (HR5.out.mono HB6.out.size))
               clear hb5
               go_wp2_with fail
               refine hK.out _ _ (HQ.out _ HR5.out) (fun hHeld2 => ?_)
               clear hK K
               clear hHeld
               have hHeld := hHeld2
               clear hHeld2
               refine dv 27 rfl ?_
               refine dv 28 rfl ?_
               refine dv 29 rfl ?_
               refine dv 30 rfl ?_
               refine dv 31 rfl ?_
               refine dv 32 rfl ?_
               refine dv 33 rfl ?_
               refine dv 34 rfl ?_
               refine dv 35 rfl ?_
               refine dv 36 rfl ?_
               refine dv 37 rfl ?_
               refine dv 38 rfl ?_
               refine dv 39 rfl ?_
               refine dv 40 rfl ?_
               refine dv 41 rfl ?_
               refine dv 42 rfl ?_
               refine dv 43 rfl ?_
               refine dv 44 rfl ?_
               refine dv 45 rfl ?_
               refine wpAnyH_done (by kernel_rfl) ?_ _
               go_wp2_with fail
               go_roundw
               case rel => exact ⟨j6 + 1, by omega, by go_num, rfl, HBX⟩
               case measure => simp [intOf]; omega
             ·obtain rfl : n10 = j6 := by omega
              go_wp2_with fail
              go_ret
              exact ⟨rfl, HB0.out.trans (HB6.out.mono HB0.out.size)⟩
end Go.Proofs.YthkglmkpnhhboaaGreatDoor
