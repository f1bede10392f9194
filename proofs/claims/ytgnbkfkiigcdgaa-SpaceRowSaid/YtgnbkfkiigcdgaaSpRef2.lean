/-
  The document's limits of tables and memories, and globals' types, by number. (gen/space/ref2.py)
-/
import Derived.Test.YtgnbkfkiigcdgaaSpRef
namespace Go.Proofs.Ytgnbkfkiigcdgaa
open Go.RowKit Ins Bin Sp
def limArr (x : Lim) : Array Value := #[.int .u32 (x.min : Int), .int .i64 x.max]
def globArr (x : Glob) : Array Value := #[.int .u8 (x.t.toNat : Int), .bool x.mu]
def LimPost (o : Option Lim) (w : World) (e : Ending) (w' : World) : Prop := e = .returned (.tuple #[.agg (limArr (o.getD ⟨0, 0⟩)), .bool o.isSome]) ∧ Below w.heap.size w w'
def GlobPost (o : Option Glob) (w : World) (e : Ending) (w' : World) : Prop := e = .returned (.tuple #[.agg (globArr (o.getD ⟨0, false⟩)), .bool o.isSome]) ∧ Below w.heap.size w w'
theorem lim_at {w : World} {S : Nat → Prop} {A : Option Addr} {xs : List Lim} {k : Nat} {x : Lim} (h : HasL w S A xs) (hx : xs[k]? = some x) : ∃ g o, A = some ⟨g, o, none⟩ ∧ g < w.heap.size ∧ w.cell? ⟨g, o + k * 2, none⟩ = some (.int .u32 (x.min : Int)) ∧ w.cell? ⟨g, o + k * 2 + 1, none⟩ = some (.int .i64 x.max) := by
  obtain ⟨g, o, cs, h1, _, h3, ⟨rfl, _⟩, h6⟩ := h k x hx
  exact ⟨g, o, h1, h3, h6 0 _ rfl, h6 1 _ rfl⟩
theorem gv_at {w : World} {S : Nat → Prop} {A : Option Addr} {xs : List GV} {k : Nat} {x : GV} (h : HasL w S A xs) (hx : xs[k]? = some x) : ∃ g o, A = some ⟨g, o, none⟩ ∧ g < w.heap.size ∧ w.cell? ⟨g, o + k * 3, none⟩ = some (.int .u8 (x.type.t.toNat : Int)) ∧ w.cell? ⟨g, o + k * 3 + 1, none⟩ = some (.bool x.type.mu) ∧ ∃ u, w.cell? ⟨g, o + k * 3 + 2, none⟩ = some u := by
  obtain ⟨g, o, cs, h1, _, h3, ⟨v, rfl, _⟩, h6⟩ := h k x hx
  exact ⟨g, o, h1, h3, h6 0 _ rfl, h6 1 _ rfl, _, h6 2 _ rfl⟩
set_option maxRecDepth 100000 in
set_option maxHeartbeats 4000000 in
theorem rlimTA (m : M) (v1 v2 v3 v4 v5 v6 v7 v8 v9 v10 : Value) (w : World) (hM : RepM w (· < w.heap.size) m v1 v2 v3 v4 v5 v6 v7 v8 v9 v10) (hF : Few m) (i : Nat) (hi : i < 4294967296) (x : Imp) (hx : (imps m 1)[i]? = some x) (hle : i < (imps m 1).length) :
    Calls Try.prog 15 #[.agg (modCells m v1 v2 v3 v4 v5 v6 v7 v8 v9 v10), .int .u8 1, .int .u32 (i : Int)] w fun e w' => e = .returned (.tuple #[.agg #[.int .u32 (x.lim.min : Int), .int .i64 x.lim.max], .bool true]) ∧ Below w.heap.size w w' := by
  obtain ⟨D, hu, hd⟩ := descOf des_slim
  have HU := Lib.hid hu
  have HD := Lib.hid hd
  clear hu hd
  have hni : (imps m 1).length ≤ 4000 := Nat.le_trans (imps_le m 1) hF.imports
  have hno : m.tables.length ≤ 4000 := hF.tables
  obtain ⟨A4, c4, rfl, _, _, _, hL4⟩ := hM.tables
  have HL4 := Lib.hid hL4
  clear hL4
  have HNI : ∃ ni, (imps m 1).length = ni := ⟨_, rfl⟩
  obtain ⟨ni, hgn⟩ := HNI
  generalize hcs : modCells m v1 v2 v3 (.slice A4 m.tables.length c4) v5 v6 v7 v8 v9 v10 = cs
  have HI : Hid (∀ W, Below w.heap.size w W → Calls Try.prog 23 #[.agg cs, .int .u8 1] W fun e w' => e = .returned (.int .i64 ((imps m 1).length : Int)) ∧ Below W.heap.size W w') := Lib.hid (fun W hb => by
    subst hcs
    exact rimported_any m _ _ _ _ _ _ _ _ _ _ W (hM.grow hb) hF.imports 1 (by decide))
  have HCT : Hid (∀ W, Below w.heap.size w W → Calls Try.prog 21 #[.agg cs, .int .u8 1] W fun e w' => e = .returned (.int .i64 (((imps m 1).length + m.tables.length : Nat) : Int)) ∧ Below W.heap.size W w') := Lib.hid (fun W hb => by
    subst hcs
    exact rcount_any m _ _ _ _ _ _ _ _ _ _ W (hM.grow hb) hF 1 (by decide))
  have HE : Hid (∀ W, Below w.heap.size w W → Calls Try.prog 38 #[.agg cs, .int .u8 1, .int .u32 (i : Int)] W fun e w' => e = .returned (.agg #[.string ⟨x.mod.toArray⟩, .string ⟨x.name.toArray⟩, .int .u8 (x.kind.toNat : Int), .int .u32 (x.type : Int), .int .u32 (x.lim.min : Int), .int .i64 x.lim.max, .int .u8 (x.glob.t.toNat : Int), .bool x.glob.mu]) ∧ Below W.heap.size W w') := Lib.hid (fun W hb => by
    subst hcs
    exact rentry_any m _ _ _ _ _ _ _ _ _ _ W (hM.grow hb) hF.imports 1 (by decide) i hi x hx)
  rw [hgn] at HI HCT hni hle
  unfold modCells at hcs
  obtain ⟨n4, hn4⟩ : ∃ n, m.tables.length = n := ⟨_, rfl⟩
  have HN4 := Lib.hid hn4
  rw [hn4] at hcs
  generalize m.hasStart = hs at hcs
  generalize (m.start : Int) = st at hcs
  subst hcs
  rw [hn4] at hno HCT
  have hia : (i : Int) < (ni : Int) := by omega
  have hge : decide ((ni : Int) + (n4 : Int) ≤ (i : Int)) = false := decide_eq_false (by omega)
  have hgen : decide (ni + n4 ≤ i) = false := decide_eq_false (by omega)
  clear hM hF hn4 hx
  have HX0 : Hid (((w.alloc (.cells #[v1, v2, v3, .slice A4 n4 c4, v5, v6, v7, .bool hs, .int .u32 st, v8, v9, v10] 33)).alloc (.cells #[.int .u32 0, .int .i64 0] 51)).heap[w.heap.size]? = some (.cells #[v1, v2, v3, .slice A4 n4 c4, v5, v6, v7, .bool hs, .int .u32 st, v8, v9, v10] 33 (0, 0))) := Lib.hid ((Below.heap_alloc _ _ _ (by simp)).trans (heap_alloc_new w _))
  have HZ0 : Hid (((w.alloc (.cells #[v1, v2, v3, .slice A4 n4 c4, v5, v6, v7, .bool hs, .int .u32 st, v8, v9, v10] 33)).alloc (.cells #[.int .u32 0, .int .i64 0] 51)).heap[w.heap.size + 1]? = some (.cells #[.int .u32 0, .int .i64 0] 51 (0, 0))) := Lib.hid (by have := heap_alloc_new (w.alloc (.cells #[v1, v2, v3, .slice A4 n4 c4, v5, v6, v7, .bool hs, .int .u32 st, v8, v9, v10] 33)) (.cells #[.int .u32 0, .int .i64 0] 51); simpa using this)
  have HB0 : Hid (Below w.heap.size w ((w.alloc (.cells #[v1, v2, v3, .slice A4 n4 c4, v5, v6, v7, .bool hs, .int .u32 st, v8, v9, v10] 33)).alloc (.cells #[.int .u32 0, .int .i64 0] 51))) := Lib.hid (((Below.refl _ _).alloc (Nat.le_refl _) _).alloc (by simp) _)
  go_enter Try.func15, Try.ntmps15
  go_upto_region 1 with fail
  generalize (w.alloc (.cells #[v1, v2, v3, .slice A4 n4 c4, v5, v6, v7, .bool hs, .int .u32 st, v8, v9, v10] 33)).alloc (.cells #[.int .u32 0, .int .i64 0] 51) = w0 at HX0 HZ0 HB0 ⊢
  obtain ⟨X, hX⟩ : ∃ X, w.heap.size = X := ⟨_, rfl⟩
  obtain ⟨Y, hY⟩ : ∃ Y, w.heap.size + 1 = Y := ⟨_, rfl⟩
  rw [hX] at HX0
  rw [hY] at HZ0
  have HY : Hid (w.heap.size ≤ Y) := Lib.hid (by omega)
  simp only [hY]
  simp only [hX]
  clear hX hY
  have HC := Lib.hid (fun W (hb : Below w0.heap.size w0 W) => cells12 HX0.out hb)
  have HZ := Lib.hid (fun W (hb : Below w0.heap.size w0 W) => (hb.block Y (Array.getElem?_eq_some_iff.1 HZ0.out).1).trans HZ0.out)
  clear HX0 HZ0
  have HW0 := Lib.hid (Below.refl w0.heap.size w0)
  have hfd : ∀ W : World, (Instr.field 63 (.agg #[.string ⟨x.mod.toArray⟩, .string ⟨x.name.toArray⟩, .int .u8 (x.kind.toNat : Int), .int .u32 (x.type : Int), .int .u32 (x.lim.min : Int), .int .i64 x.lim.max, .int .u8 (x.glob.t.toNat : Int), .bool x.glob.mu]) 4).run Try.prog W = .ok (.agg #[.int .u32 (x.lim.min : Int), .int .i64 x.lim.max]) W := fun _ => by kernel_rfl
  obtain ⟨a0, a1, a2, a3, a4, a5, a6, a7, a8, a9, a10, a11⟩ := HC.out w0 HW0.out
  go_wp2_with (first | (go_at_call 23; refine (HI.out _ (HB0.out.trans (HW0.out.mono HB0.out.size))).mono ?_; rintro e w1 ⟨rfl, hb⟩; have HW1 : Hid (Below w0.heap.size w0 w1) := Lib.hid (HW0.out.trans (hb.mono HW0.out.size)); clear hb; clear a0 a1 a2 a3 a4 a5 a6 a7 a8 a9 a10 a11; obtain ⟨b0, b1, b2, b3, b4, b5, b6, b7, b8, b9, b10, b11⟩ := HC.out w1 HW1.out) | (go_at_call 21; refine (HCT.out _ (HB0.out.trans (HW1.out.mono HB0.out.size))).mono ?_; rintro e w2 ⟨rfl, hb⟩; have HW2 : Hid (Below w0.heap.size w0 w2) := Lib.hid (HW1.out.trans (hb.mono HW1.out.size)); clear hb; clear b0 b1 b2 b3 b4 b5 b6 b7 b8 b9 b10 b11; obtain ⟨d0, d1, d2, d3, d4, d5, d6, d7, d8, d9, d10, d11⟩ := HC.out w2 HW2.out) | (go_at_call 38; refine (HE.out _ (HB0.out.trans (HW2.out.mono HB0.out.size))).mono ?_; rintro e w3 ⟨rfl, hb⟩; have HW3 : Hid (Below w0.heap.size w0 w3) := Lib.hid (HW2.out.trans (hb.mono HW2.out.size)); clear hb; clear d0 d1 d2 d3 d4 d5 d6 d7 d8 d9 d10 d11) | (refine wpList_store_to rfl 51 (.tmp 6) (.tmp 27) rfl rfl Y #[.int .u32 (x.lim.min : Int), .int .i64 x.lim.max] rfl rfl 51 #[.int .u32 0, .int .i64 0] (HZ.out _ HW3.out) siz_slim rfl (by simp [Value.oneCell']) ?_))
  refine bodyPost_ret (v := .tuple #[.agg #[.int .u32 (x.lim.min : Int), .int .i64 x.lim.max], .bool true]) (res_cell_tmp (p := 6) (q := 7) (ty := 51) (by kernel_rfl) _ _ Y 51 #[.int .u32 (x.lim.min : Int), .int .i64 x.lim.max] (0, 0) D rfl (setRow_heap _ _ #[.int .u32 0, .int .i64 0] _ _ _ (HZ.out _ HW3.out)) HU.out HD.out siz_slim (.bool true) rfl) rfl ?_
  exact ⟨rfl, below_setRow (HB0.out.trans (HW3.out.mono HB0.out.size)) HY.out _⟩
set_option maxRecDepth 100000 in
set_option maxHeartbeats 4000000 in
theorem rlimTB (m : M) (v1 v2 v3 v4 v5 v6 v7 v8 v9 v10 : Value) (w : World) (hM : RepM w (· < w.heap.size) m v1 v2 v3 v4 v5 v6 v7 v8 v9 v10) (hF : Few m) (i : Nat) (hi : i < 4294967296) (p : Nat) (x : Lim) (hx : m.tables[p]? = some x) (hle : i = (imps m 1).length + p) :
    Calls Try.prog 15 #[.agg (modCells m v1 v2 v3 v4 v5 v6 v7 v8 v9 v10), .int .u8 1, .int .u32 (i : Int)] w fun e w' => e = .returned (.tuple #[.agg #[.int .u32 (x.min : Int), .int .i64 x.max], .bool true]) ∧ Below w.heap.size w w' := by
  obtain ⟨D, hu, hd⟩ := descOf des_slim
  have HU := Lib.hid hu
  have HD := Lib.hid hd
  clear hu hd
  have hni : (imps m 1).length ≤ 4000 := Nat.le_trans (imps_le m 1) hF.imports
  have hno : m.tables.length ≤ 4000 := hF.tables
  obtain ⟨A4, c4, rfl, _, _, _, hL4⟩ := hM.tables
  have HL4 := Lib.hid hL4
  clear hL4
  have HNI : ∃ ni, (imps m 1).length = ni := ⟨_, rfl⟩
  obtain ⟨ni, hgn⟩ := HNI
  generalize hcs : modCells m v1 v2 v3 (.slice A4 m.tables.length c4) v5 v6 v7 v8 v9 v10 = cs
  have HI : Hid (∀ W, Below w.heap.size w W → Calls Try.prog 23 #[.agg cs, .int .u8 1] W fun e w' => e = .returned (.int .i64 ((imps m 1).length : Int)) ∧ Below W.heap.size W w') := Lib.hid (fun W hb => by
    subst hcs
    exact rimported_any m _ _ _ _ _ _ _ _ _ _ W (hM.grow hb) hF.imports 1 (by decide))
  have HCT : Hid (∀ W, Below w.heap.size w W → Calls Try.prog 21 #[.agg cs, .int .u8 1] W fun e w' => e = .returned (.int .i64 (((imps m 1).length + m.tables.length : Nat) : Int)) ∧ Below W.heap.size W w') := Lib.hid (fun W hb => by
    subst hcs
    exact rcount_any m _ _ _ _ _ _ _ _ _ _ W (hM.grow hb) hF 1 (by decide))
  rw [hgn] at HI HCT hni hle
  unfold modCells at hcs
  obtain ⟨n4, hn4⟩ : ∃ n, m.tables.length = n := ⟨_, rfl⟩
  have HN4 := Lib.hid hn4
  rw [hn4] at hcs
  generalize m.hasStart = hs at hcs
  generalize (m.start : Int) = st at hcs
  subst hcs
  rw [hn4] at hno HCT
  have hpn : p < n4 := by rw [← hn4]; exact (List.getElem?_eq_some_iff.1 hx).1
  have hia : decide ((i : Int) < (ni : Int)) = false := decide_eq_false (by omega)
  have hian : decide (i < ni) = false := decide_eq_false (by omega)
  have hge : decide ((ni : Int) + (n4 : Int) ≤ (i : Int)) = false := decide_eq_false (by omega)
  have hgen : decide (ni + n4 ≤ i) = false := decide_eq_false (by omega)
  have hsub : IntKind.i64.wrap ((i : Int) - (ni : Int)) = (p : Int) := by rw [IntWalk.i64_in _ (by omega)]; omega
  have HLE := Lib.hid hle
  clear hle
  have hpi : (p : Int) < (n4 : Int) := by omega
  clear hM hF hn4
  have HX0 : Hid (((w.alloc (.cells #[v1, v2, v3, .slice A4 n4 c4, v5, v6, v7, .bool hs, .int .u32 st, v8, v9, v10] 33)).alloc (.cells #[.int .u32 0, .int .i64 0] 51)).heap[w.heap.size]? = some (.cells #[v1, v2, v3, .slice A4 n4 c4, v5, v6, v7, .bool hs, .int .u32 st, v8, v9, v10] 33 (0, 0))) := Lib.hid ((Below.heap_alloc _ _ _ (by simp)).trans (heap_alloc_new w _))
  have HZ0 : Hid (((w.alloc (.cells #[v1, v2, v3, .slice A4 n4 c4, v5, v6, v7, .bool hs, .int .u32 st, v8, v9, v10] 33)).alloc (.cells #[.int .u32 0, .int .i64 0] 51)).heap[w.heap.size + 1]? = some (.cells #[.int .u32 0, .int .i64 0] 51 (0, 0))) := Lib.hid (by have := heap_alloc_new (w.alloc (.cells #[v1, v2, v3, .slice A4 n4 c4, v5, v6, v7, .bool hs, .int .u32 st, v8, v9, v10] 33)) (.cells #[.int .u32 0, .int .i64 0] 51); simpa using this)
  have HB0 : Hid (Below w.heap.size w ((w.alloc (.cells #[v1, v2, v3, .slice A4 n4 c4, v5, v6, v7, .bool hs, .int .u32 st, v8, v9, v10] 33)).alloc (.cells #[.int .u32 0, .int .i64 0] 51))) := Lib.hid (((Below.refl _ _).alloc (Nat.le_refl _) _).alloc (by simp) _)
  go_enter Try.func15, Try.ntmps15
  go_upto_region 1 with fail
  generalize (w.alloc (.cells #[v1, v2, v3, .slice A4 n4 c4, v5, v6, v7, .bool hs, .int .u32 st, v8, v9, v10] 33)).alloc (.cells #[.int .u32 0, .int .i64 0] 51) = w0 at HX0 HZ0 HB0 ⊢
  obtain ⟨X, hX⟩ : ∃ X, w.heap.size = X := ⟨_, rfl⟩
  obtain ⟨Y, hY⟩ : ∃ Y, w.heap.size + 1 = Y := ⟨_, rfl⟩
  rw [hX] at HX0
  rw [hY] at HZ0
  have HY : Hid (w.heap.size ≤ Y) := Lib.hid (by omega)
  simp only [hY]
  simp only [hX]
  clear hX hY
  have HC := Lib.hid (fun W (hb : Below w0.heap.size w0 W) => cells12 HX0.out hb)
  have HZ := Lib.hid (fun W (hb : Below w0.heap.size w0 W) => (hb.block Y (Array.getElem?_eq_some_iff.1 HZ0.out).1).trans HZ0.out)
  clear HX0 HZ0
  have HW0 := Lib.hid (Below.refl w0.heap.size w0)
  obtain ⟨a0, a1, a2, a3, a4, a5, a6, a7, a8, a9, a10, a11⟩ := HC.out w0 HW0.out
  go_wp2_with (first | (go_at_call 23; refine (HI.out _ (HB0.out.trans (HW0.out.mono HB0.out.size))).mono ?_; rintro e w1 ⟨rfl, hb⟩; have HW1 : Hid (Below w0.heap.size w0 w1) := Lib.hid (HW0.out.trans (hb.mono HW0.out.size)); clear hb; clear a0 a1 a2 a3 a4 a5 a6 a7 a8 a9 a10 a11; obtain ⟨b0, b1, b2, b3, b4, b5, b6, b7, b8, b9, b10, b11⟩ := HC.out w1 HW1.out) | (go_at_call 21; refine (HCT.out _ (HB0.out.trans (HW1.out.mono HB0.out.size))).mono ?_; rintro e w2 ⟨rfl, hb⟩; have HW2 : Hid (Below w0.heap.size w0 w2) := Lib.hid (HW1.out.trans (hb.mono HW1.out.size)); clear hb; clear b0 b1 b2 b3 b4 b5 b6 b7 b8 b9 b10 b11; obtain ⟨d0, d1, d2, d3, d4, d5, d6, d7, d8, d9, d10, d11⟩ := HC.out w2 HW2.out; obtain ⟨g, o, rfl, hg, hc0, hc1⟩ := lim_at HL4.out hx; have hbw := HB0.out.trans (HW2.out.mono HB0.out.size); have z0 := (hbw.cell (p := ⟨g, o + p * 2, none⟩) hg).trans hc0; have z1 := (hbw.cell (p := ⟨g, o + p * 2 + 1, none⟩) hg).trans hc1; clear hx hbw hc0 hc1) | (refine wpList_store_to rfl 51 (.tmp 6) (.tmp 37) rfl rfl Y #[.int .u32 (x.min : Int), .int .i64 x.max] rfl rfl 51 #[.int .u32 0, .int .i64 0] (HZ.out _ HW2.out) siz_slim rfl (by simp [Value.oneCell']) ?_))
  refine bodyPost_ret (v := .tuple #[.agg #[.int .u32 (x.min : Int), .int .i64 x.max], .bool true]) (res_cell_tmp (p := 6) (q := 7) (ty := 51) (by kernel_rfl) _ _ Y 51 #[.int .u32 (x.min : Int), .int .i64 x.max] (0, 0) D rfl (setRow_heap _ _ #[.int .u32 0, .int .i64 0] _ _ _ (HZ.out _ HW2.out)) HU.out HD.out siz_slim (.bool true) rfl) rfl ?_
  exact ⟨rfl, below_setRow (HB0.out.trans (HW2.out.mono HB0.out.size)) HY.out _⟩
set_option maxRecDepth 100000 in
set_option maxHeartbeats 4000000 in
theorem rlimTC (m : M) (v1 v2 v3 v4 v5 v6 v7 v8 v9 v10 : Value) (w : World) (hM : RepM w (· < w.heap.size) m v1 v2 v3 v4 v5 v6 v7 v8 v9 v10) (hF : Few m) (i : Nat) (hi : i < 4294967296) (hle : (imps m 1).length + m.tables.length ≤ i) :
    Calls Try.prog 15 #[.agg (modCells m v1 v2 v3 v4 v5 v6 v7 v8 v9 v10), .int .u8 1, .int .u32 (i : Int)] w fun e w' => e = .returned (.tuple #[.agg #[.int .u32 0, .int .i64 0], .bool false]) ∧ Below w.heap.size w w' := by
  obtain ⟨D, hu, hd⟩ := descOf des_slim
  have HU := Lib.hid hu
  have HD := Lib.hid hd
  clear hu hd
  have hni : (imps m 1).length ≤ 4000 := Nat.le_trans (imps_le m 1) hF.imports
  have hno : m.tables.length ≤ 4000 := hF.tables
  obtain ⟨A4, c4, rfl, _, _, _, hL4⟩ := hM.tables
  have HL4 := Lib.hid hL4
  clear hL4
  have HNI : ∃ ni, (imps m 1).length = ni := ⟨_, rfl⟩
  obtain ⟨ni, hgn⟩ := HNI
  generalize hcs : modCells m v1 v2 v3 (.slice A4 m.tables.length c4) v5 v6 v7 v8 v9 v10 = cs
  have HI : Hid (∀ W, Below w.heap.size w W → Calls Try.prog 23 #[.agg cs, .int .u8 1] W fun e w' => e = .returned (.int .i64 ((imps m 1).length : Int)) ∧ Below W.heap.size W w') := Lib.hid (fun W hb => by
    subst hcs
    exact rimported_any m _ _ _ _ _ _ _ _ _ _ W (hM.grow hb) hF.imports 1 (by decide))
  have HCT : Hid (∀ W, Below w.heap.size w W → Calls Try.prog 21 #[.agg cs, .int .u8 1] W fun e w' => e = .returned (.int .i64 (((imps m 1).length + m.tables.length : Nat) : Int)) ∧ Below W.heap.size W w') := Lib.hid (fun W hb => by
    subst hcs
    exact rcount_any m _ _ _ _ _ _ _ _ _ _ W (hM.grow hb) hF 1 (by decide))
  rw [hgn] at HI HCT hni hle
  unfold modCells at hcs
  obtain ⟨n4, hn4⟩ : ∃ n, m.tables.length = n := ⟨_, rfl⟩
  have HN4 := Lib.hid hn4
  rw [hn4] at hcs
  generalize m.hasStart = hs at hcs
  generalize (m.start : Int) = st at hcs
  subst hcs
  rw [hn4] at hno HCT hle
  have hge : (ni : Int) + (n4 : Int) ≤ (i : Int) := by omega
  have hgen : ni + n4 ≤ i := by omega
  clear hM hF hn4
  have HX0 : Hid (((w.alloc (.cells #[v1, v2, v3, .slice A4 n4 c4, v5, v6, v7, .bool hs, .int .u32 st, v8, v9, v10] 33)).alloc (.cells #[.int .u32 0, .int .i64 0] 51)).heap[w.heap.size]? = some (.cells #[v1, v2, v3, .slice A4 n4 c4, v5, v6, v7, .bool hs, .int .u32 st, v8, v9, v10] 33 (0, 0))) := Lib.hid ((Below.heap_alloc _ _ _ (by simp)).trans (heap_alloc_new w _))
  have HZ0 : Hid (((w.alloc (.cells #[v1, v2, v3, .slice A4 n4 c4, v5, v6, v7, .bool hs, .int .u32 st, v8, v9, v10] 33)).alloc (.cells #[.int .u32 0, .int .i64 0] 51)).heap[w.heap.size + 1]? = some (.cells #[.int .u32 0, .int .i64 0] 51 (0, 0))) := Lib.hid (by have := heap_alloc_new (w.alloc (.cells #[v1, v2, v3, .slice A4 n4 c4, v5, v6, v7, .bool hs, .int .u32 st, v8, v9, v10] 33)) (.cells #[.int .u32 0, .int .i64 0] 51); simpa using this)
  have HB0 : Hid (Below w.heap.size w ((w.alloc (.cells #[v1, v2, v3, .slice A4 n4 c4, v5, v6, v7, .bool hs, .int .u32 st, v8, v9, v10] 33)).alloc (.cells #[.int .u32 0, .int .i64 0] 51))) := Lib.hid (((Below.refl _ _).alloc (Nat.le_refl _) _).alloc (by simp) _)
  go_enter Try.func15, Try.ntmps15
  go_upto_region 1 with fail
  generalize (w.alloc (.cells #[v1, v2, v3, .slice A4 n4 c4, v5, v6, v7, .bool hs, .int .u32 st, v8, v9, v10] 33)).alloc (.cells #[.int .u32 0, .int .i64 0] 51) = w0 at HX0 HZ0 HB0 ⊢
  obtain ⟨X, hX⟩ : ∃ X, w.heap.size = X := ⟨_, rfl⟩
  obtain ⟨Y, hY⟩ : ∃ Y, w.heap.size + 1 = Y := ⟨_, rfl⟩
  rw [hX] at HX0
  rw [hY] at HZ0
  have HY : Hid (w.heap.size ≤ Y) := Lib.hid (by omega)
  simp only [hY]
  simp only [hX]
  clear hX hY
  have HC := Lib.hid (fun W (hb : Below w0.heap.size w0 W) => cells12 HX0.out hb)
  have HZ := Lib.hid (fun W (hb : Below w0.heap.size w0 W) => (hb.block Y (Array.getElem?_eq_some_iff.1 HZ0.out).1).trans HZ0.out)
  clear HX0 HZ0
  have HW0 := Lib.hid (Below.refl w0.heap.size w0)
  obtain ⟨a0, a1, a2, a3, a4, a5, a6, a7, a8, a9, a10, a11⟩ := HC.out w0 HW0.out
  go_wp2_with (first | (go_at_call 23; refine (HI.out _ (HB0.out.trans (HW0.out.mono HB0.out.size))).mono ?_; rintro e w1 ⟨rfl, hb⟩; have HW1 : Hid (Below w0.heap.size w0 w1) := Lib.hid (HW0.out.trans (hb.mono HW0.out.size)); clear hb; clear a0 a1 a2 a3 a4 a5 a6 a7 a8 a9 a10 a11; obtain ⟨b0, b1, b2, b3, b4, b5, b6, b7, b8, b9, b10, b11⟩ := HC.out w1 HW1.out) | (go_at_call 21; refine (HCT.out _ (HB0.out.trans (HW1.out.mono HB0.out.size))).mono ?_; rintro e w2 ⟨rfl, hb⟩; have HW2 : Hid (Below w0.heap.size w0 w2) := Lib.hid (HW1.out.trans (hb.mono HW1.out.size)); clear hb; clear b0 b1 b2 b3 b4 b5 b6 b7 b8 b9 b10 b11) | (refine wpList_store_to rfl 51 (.tmp 6) (.tmp 18) rfl rfl Y #[.int .u32 0, .int .i64 0] rfl rfl 51 #[.int .u32 0, .int .i64 0] (HZ.out _ HW2.out) siz_slim rfl (by simp [Value.oneCell']) ?_))
  refine bodyPost_ret (v := .tuple #[.agg #[.int .u32 0, .int .i64 0], .bool false]) (res_cell_tmp (p := 6) (q := 7) (ty := 51) (by kernel_rfl) _ _ Y 51 #[.int .u32 0, .int .i64 0] (0, 0) D rfl (setRow_heap _ _ #[.int .u32 0, .int .i64 0] _ _ _ (HZ.out _ HW2.out)) HU.out HD.out siz_slim (.bool false) rfl) rfl ?_
  exact ⟨rfl, below_setRow (HB0.out.trans (HW2.out.mono HB0.out.size)) HY.out _⟩
set_option maxRecDepth 100000 in
set_option maxHeartbeats 4000000 in
theorem rlimMA (m : M) (v1 v2 v3 v4 v5 v6 v7 v8 v9 v10 : Value) (w : World) (hM : RepM w (· < w.heap.size) m v1 v2 v3 v4 v5 v6 v7 v8 v9 v10) (hF : Few m) (i : Nat) (hi : i < 4294967296) (x : Imp) (hx : (imps m 2)[i]? = some x) (hle : i < (imps m 2).length) :
    Calls Try.prog 15 #[.agg (modCells m v1 v2 v3 v4 v5 v6 v7 v8 v9 v10), .int .u8 2, .int .u32 (i : Int)] w fun e w' => e = .returned (.tuple #[.agg #[.int .u32 (x.lim.min : Int), .int .i64 x.lim.max], .bool true]) ∧ Below w.heap.size w w' := by
  obtain ⟨D, hu, hd⟩ := descOf des_slim
  have HU := Lib.hid hu
  have HD := Lib.hid hd
  clear hu hd
  have hni : (imps m 2).length ≤ 4000 := Nat.le_trans (imps_le m 2) hF.imports
  have hno : m.mems.length ≤ 4000 := hF.mems
  obtain ⟨A5, c5, rfl, _, _, _, hL5⟩ := hM.mems
  have HL5 := Lib.hid hL5
  clear hL5
  have HNI : ∃ ni, (imps m 2).length = ni := ⟨_, rfl⟩
  obtain ⟨ni, hgn⟩ := HNI
  generalize hcs : modCells m v1 v2 v3 v4 (.slice A5 m.mems.length c5) v6 v7 v8 v9 v10 = cs
  have HI : Hid (∀ W, Below w.heap.size w W → Calls Try.prog 23 #[.agg cs, .int .u8 2] W fun e w' => e = .returned (.int .i64 ((imps m 2).length : Int)) ∧ Below W.heap.size W w') := Lib.hid (fun W hb => by
    subst hcs
    exact rimported_any m _ _ _ _ _ _ _ _ _ _ W (hM.grow hb) hF.imports 2 (by decide))
  have HCT : Hid (∀ W, Below w.heap.size w W → Calls Try.prog 21 #[.agg cs, .int .u8 2] W fun e w' => e = .returned (.int .i64 (((imps m 2).length + m.mems.length : Nat) : Int)) ∧ Below W.heap.size W w') := Lib.hid (fun W hb => by
    subst hcs
    exact rcount_any m _ _ _ _ _ _ _ _ _ _ W (hM.grow hb) hF 2 (by decide))
  have HE : Hid (∀ W, Below w.heap.size w W → Calls Try.prog 38 #[.agg cs, .int .u8 2, .int .u32 (i : Int)] W fun e w' => e = .returned (.agg #[.string ⟨x.mod.toArray⟩, .string ⟨x.name.toArray⟩, .int .u8 (x.kind.toNat : Int), .int .u32 (x.type : Int), .int .u32 (x.lim.min : Int), .int .i64 x.lim.max, .int .u8 (x.glob.t.toNat : Int), .bool x.glob.mu]) ∧ Below W.heap.size W w') := Lib.hid (fun W hb => by
    subst hcs
    exact rentry_any m _ _ _ _ _ _ _ _ _ _ W (hM.grow hb) hF.imports 2 (by decide) i hi x hx)
  rw [hgn] at HI HCT hni hle
  unfold modCells at hcs
  obtain ⟨n5, hn5⟩ : ∃ n, m.mems.length = n := ⟨_, rfl⟩
  have HN5 := Lib.hid hn5
  rw [hn5] at hcs
  generalize m.hasStart = hs at hcs
  generalize (m.start : Int) = st at hcs
  subst hcs
  rw [hn5] at hno HCT
  have hia : (i : Int) < (ni : Int) := by omega
  have hge : decide ((ni : Int) + (n5 : Int) ≤ (i : Int)) = false := decide_eq_false (by omega)
  have hgen : decide (ni + n5 ≤ i) = false := decide_eq_false (by omega)
  clear hM hF hn5 hx
  have HX0 : Hid (((w.alloc (.cells #[v1, v2, v3, v4, .slice A5 n5 c5, v6, v7, .bool hs, .int .u32 st, v8, v9, v10] 33)).alloc (.cells #[.int .u32 0, .int .i64 0] 51)).heap[w.heap.size]? = some (.cells #[v1, v2, v3, v4, .slice A5 n5 c5, v6, v7, .bool hs, .int .u32 st, v8, v9, v10] 33 (0, 0))) := Lib.hid ((Below.heap_alloc _ _ _ (by simp)).trans (heap_alloc_new w _))
  have HZ0 : Hid (((w.alloc (.cells #[v1, v2, v3, v4, .slice A5 n5 c5, v6, v7, .bool hs, .int .u32 st, v8, v9, v10] 33)).alloc (.cells #[.int .u32 0, .int .i64 0] 51)).heap[w.heap.size + 1]? = some (.cells #[.int .u32 0, .int .i64 0] 51 (0, 0))) := Lib.hid (by have := heap_alloc_new (w.alloc (.cells #[v1, v2, v3, v4, .slice A5 n5 c5, v6, v7, .bool hs, .int .u32 st, v8, v9, v10] 33)) (.cells #[.int .u32 0, .int .i64 0] 51); simpa using this)
  have HB0 : Hid (Below w.heap.size w ((w.alloc (.cells #[v1, v2, v3, v4, .slice A5 n5 c5, v6, v7, .bool hs, .int .u32 st, v8, v9, v10] 33)).alloc (.cells #[.int .u32 0, .int .i64 0] 51))) := Lib.hid (((Below.refl _ _).alloc (Nat.le_refl _) _).alloc (by simp) _)
  go_enter Try.func15, Try.ntmps15
  go_upto_region 1 with fail
  generalize (w.alloc (.cells #[v1, v2, v3, v4, .slice A5 n5 c5, v6, v7, .bool hs, .int .u32 st, v8, v9, v10] 33)).alloc (.cells #[.int .u32 0, .int .i64 0] 51) = w0 at HX0 HZ0 HB0 ⊢
  obtain ⟨X, hX⟩ : ∃ X, w.heap.size = X := ⟨_, rfl⟩
  obtain ⟨Y, hY⟩ : ∃ Y, w.heap.size + 1 = Y := ⟨_, rfl⟩
  rw [hX] at HX0
  rw [hY] at HZ0
  have HY : Hid (w.heap.size ≤ Y) := Lib.hid (by omega)
  simp only [hY]
  simp only [hX]
  clear hX hY
  have HC := Lib.hid (fun W (hb : Below w0.heap.size w0 W) => cells12 HX0.out hb)
  have HZ := Lib.hid (fun W (hb : Below w0.heap.size w0 W) => (hb.block Y (Array.getElem?_eq_some_iff.1 HZ0.out).1).trans HZ0.out)
  clear HX0 HZ0
  have HW0 := Lib.hid (Below.refl w0.heap.size w0)
  have hfd : ∀ W : World, (Instr.field 63 (.agg #[.string ⟨x.mod.toArray⟩, .string ⟨x.name.toArray⟩, .int .u8 (x.kind.toNat : Int), .int .u32 (x.type : Int), .int .u32 (x.lim.min : Int), .int .i64 x.lim.max, .int .u8 (x.glob.t.toNat : Int), .bool x.glob.mu]) 4).run Try.prog W = .ok (.agg #[.int .u32 (x.lim.min : Int), .int .i64 x.lim.max]) W := fun _ => by kernel_rfl
  obtain ⟨a0, a1, a2, a3, a4, a5, a6, a7, a8, a9, a10, a11⟩ := HC.out w0 HW0.out
  go_wp2_with (first | (go_at_call 23; refine (HI.out _ (HB0.out.trans (HW0.out.mono HB0.out.size))).mono ?_; rintro e w1 ⟨rfl, hb⟩; have HW1 : Hid (Below w0.heap.size w0 w1) := Lib.hid (HW0.out.trans (hb.mono HW0.out.size)); clear hb; clear a0 a1 a2 a3 a4 a5 a6 a7 a8 a9 a10 a11; obtain ⟨b0, b1, b2, b3, b4, b5, b6, b7, b8, b9, b10, b11⟩ := HC.out w1 HW1.out) | (go_at_call 21; refine (HCT.out _ (HB0.out.trans (HW1.out.mono HB0.out.size))).mono ?_; rintro e w2 ⟨rfl, hb⟩; have HW2 : Hid (Below w0.heap.size w0 w2) := Lib.hid (HW1.out.trans (hb.mono HW1.out.size)); clear hb; clear b0 b1 b2 b3 b4 b5 b6 b7 b8 b9 b10 b11; obtain ⟨d0, d1, d2, d3, d4, d5, d6, d7, d8, d9, d10, d11⟩ := HC.out w2 HW2.out) | (go_at_call 38; refine (HE.out _ (HB0.out.trans (HW2.out.mono HB0.out.size))).mono ?_; rintro e w3 ⟨rfl, hb⟩; have HW3 : Hid (Below w0.heap.size w0 w3) := Lib.hid (HW2.out.trans (hb.mono HW2.out.size)); clear hb; clear d0 d1 d2 d3 d4 d5 d6 d7 d8 d9 d10 d11) | (refine wpList_store_to rfl 51 (.tmp 6) (.tmp 27) rfl rfl Y #[.int .u32 (x.lim.min : Int), .int .i64 x.lim.max] rfl rfl 51 #[.int .u32 0, .int .i64 0] (HZ.out _ HW3.out) siz_slim rfl (by simp [Value.oneCell']) ?_))
  refine bodyPost_ret (v := .tuple #[.agg #[.int .u32 (x.lim.min : Int), .int .i64 x.lim.max], .bool true]) (res_cell_tmp (p := 6) (q := 7) (ty := 51) (by kernel_rfl) _ _ Y 51 #[.int .u32 (x.lim.min : Int), .int .i64 x.lim.max] (0, 0) D rfl (setRow_heap _ _ #[.int .u32 0, .int .i64 0] _ _ _ (HZ.out _ HW3.out)) HU.out HD.out siz_slim (.bool true) rfl) rfl ?_
  exact ⟨rfl, below_setRow (HB0.out.trans (HW3.out.mono HB0.out.size)) HY.out _⟩
set_option maxRecDepth 100000 in
set_option maxHeartbeats 4000000 in
theorem rlimMB (m : M) (v1 v2 v3 v4 v5 v6 v7 v8 v9 v10 : Value) (w : World) (hM : RepM w (· < w.heap.size) m v1 v2 v3 v4 v5 v6 v7 v8 v9 v10) (hF : Few m) (i : Nat) (hi : i < 4294967296) (p : Nat) (x : Lim) (hx : m.mems[p]? = some x) (hle : i = (imps m 2).length + p) :
    Calls Try.prog 15 #[.agg (modCells m v1 v2 v3 v4 v5 v6 v7 v8 v9 v10), .int .u8 2, .int .u32 (i : Int)] w fun e w' => e = .returned (.tuple #[.agg #[.int .u32 (x.min : Int), .int .i64 x.max], .bool true]) ∧ Below w.heap.size w w' := by
  obtain ⟨D, hu, hd⟩ := descOf des_slim
  have HU := Lib.hid hu
  have HD := Lib.hid hd
  clear hu hd
  have hni : (imps m 2).length ≤ 4000 := Nat.le_trans (imps_le m 2) hF.imports
  have hno : m.mems.length ≤ 4000 := hF.mems
  obtain ⟨A5, c5, rfl, _, _, _, hL5⟩ := hM.mems
  have HL5 := Lib.hid hL5
  clear hL5
  have HNI : ∃ ni, (imps m 2).length = ni := ⟨_, rfl⟩
  obtain ⟨ni, hgn⟩ := HNI
  generalize hcs : modCells m v1 v2 v3 v4 (.slice A5 m.mems.length c5) v6 v7 v8 v9 v10 = cs
  have HI : Hid (∀ W, Below w.heap.size w W → Calls Try.prog 23 #[.agg cs, .int .u8 2] W fun e w' => e = .returned (.int .i64 ((imps m 2).length : Int)) ∧ Below W.heap.size W w') := Lib.hid (fun W hb => by
    subst hcs
    exact rimported_any m _ _ _ _ _ _ _ _ _ _ W (hM.grow hb) hF.imports 2 (by decide))
  have HCT : Hid (∀ W, Below w.heap.size w W → Calls Try.prog 21 #[.agg cs, .int .u8 2] W fun e w' => e = .returned (.int .i64 (((imps m 2).length + m.mems.length : Nat) : Int)) ∧ Below W.heap.size W w') := Lib.hid (fun W hb => by
    subst hcs
    exact rcount_any m _ _ _ _ _ _ _ _ _ _ W (hM.grow hb) hF 2 (by decide))
  rw [hgn] at HI HCT hni hle
  unfold modCells at hcs
  obtain ⟨n5, hn5⟩ : ∃ n, m.mems.length = n := ⟨_, rfl⟩
  have HN5 := Lib.hid hn5
  rw [hn5] at hcs
  generalize m.hasStart = hs at hcs
  generalize (m.start : Int) = st at hcs
  subst hcs
  rw [hn5] at hno HCT
  have hpn : p < n5 := by rw [← hn5]; exact (List.getElem?_eq_some_iff.1 hx).1
  have hia : decide ((i : Int) < (ni : Int)) = false := decide_eq_false (by omega)
  have hian : decide (i < ni) = false := decide_eq_false (by omega)
  have hge : decide ((ni : Int) + (n5 : Int) ≤ (i : Int)) = false := decide_eq_false (by omega)
  have hgen : decide (ni + n5 ≤ i) = false := decide_eq_false (by omega)
  have hsub : IntKind.i64.wrap ((i : Int) - (ni : Int)) = (p : Int) := by rw [IntWalk.i64_in _ (by omega)]; omega
  have HLE := Lib.hid hle
  clear hle
  have hpi : (p : Int) < (n5 : Int) := by omega
  clear hM hF hn5
  have HX0 : Hid (((w.alloc (.cells #[v1, v2, v3, v4, .slice A5 n5 c5, v6, v7, .bool hs, .int .u32 st, v8, v9, v10] 33)).alloc (.cells #[.int .u32 0, .int .i64 0] 51)).heap[w.heap.size]? = some (.cells #[v1, v2, v3, v4, .slice A5 n5 c5, v6, v7, .bool hs, .int .u32 st, v8, v9, v10] 33 (0, 0))) := Lib.hid ((Below.heap_alloc _ _ _ (by simp)).trans (heap_alloc_new w _))
  have HZ0 : Hid (((w.alloc (.cells #[v1, v2, v3, v4, .slice A5 n5 c5, v6, v7, .bool hs, .int .u32 st, v8, v9, v10] 33)).alloc (.cells #[.int .u32 0, .int .i64 0] 51)).heap[w.heap.size + 1]? = some (.cells #[.int .u32 0, .int .i64 0] 51 (0, 0))) := Lib.hid (by have := heap_alloc_new (w.alloc (.cells #[v1, v2, v3, v4, .slice A5 n5 c5, v6, v7, .bool hs, .int .u32 st, v8, v9, v10] 33)) (.cells #[.int .u32 0, .int .i64 0] 51); simpa using this)
  have HB0 : Hid (Below w.heap.size w ((w.alloc (.cells #[v1, v2, v3, v4, .slice A5 n5 c5, v6, v7, .bool hs, .int .u32 st, v8, v9, v10] 33)).alloc (.cells #[.int .u32 0, .int .i64 0] 51))) := Lib.hid (((Below.refl _ _).alloc (Nat.le_refl _) _).alloc (by simp) _)
  go_enter Try.func15, Try.ntmps15
  go_upto_region 1 with fail
  generalize (w.alloc (.cells #[v1, v2, v3, v4, .slice A5 n5 c5, v6, v7, .bool hs, .int .u32 st, v8, v9, v10] 33)).alloc (.cells #[.int .u32 0, .int .i64 0] 51) = w0 at HX0 HZ0 HB0 ⊢
  obtain ⟨X, hX⟩ : ∃ X, w.heap.size = X := ⟨_, rfl⟩
  obtain ⟨Y, hY⟩ : ∃ Y, w.heap.size + 1 = Y := ⟨_, rfl⟩
  rw [hX] at HX0
  rw [hY] at HZ0
  have HY : Hid (w.heap.size ≤ Y) := Lib.hid (by omega)
  simp only [hY]
  simp only [hX]
  clear hX hY
  have HC := Lib.hid (fun W (hb : Below w0.heap.size w0 W) => cells12 HX0.out hb)
  have HZ := Lib.hid (fun W (hb : Below w0.heap.size w0 W) => (hb.block Y (Array.getElem?_eq_some_iff.1 HZ0.out).1).trans HZ0.out)
  clear HX0 HZ0
  have HW0 := Lib.hid (Below.refl w0.heap.size w0)
  obtain ⟨a0, a1, a2, a3, a4, a5, a6, a7, a8, a9, a10, a11⟩ := HC.out w0 HW0.out
  go_wp2_with (first | (go_at_call 23; refine (HI.out _ (HB0.out.trans (HW0.out.mono HB0.out.size))).mono ?_; rintro e w1 ⟨rfl, hb⟩; have HW1 : Hid (Below w0.heap.size w0 w1) := Lib.hid (HW0.out.trans (hb.mono HW0.out.size)); clear hb; clear a0 a1 a2 a3 a4 a5 a6 a7 a8 a9 a10 a11; obtain ⟨b0, b1, b2, b3, b4, b5, b6, b7, b8, b9, b10, b11⟩ := HC.out w1 HW1.out) | (go_at_call 21; refine (HCT.out _ (HB0.out.trans (HW1.out.mono HB0.out.size))).mono ?_; rintro e w2 ⟨rfl, hb⟩; have HW2 : Hid (Below w0.heap.size w0 w2) := Lib.hid (HW1.out.trans (hb.mono HW1.out.size)); clear hb; clear b0 b1 b2 b3 b4 b5 b6 b7 b8 b9 b10 b11; obtain ⟨d0, d1, d2, d3, d4, d5, d6, d7, d8, d9, d10, d11⟩ := HC.out w2 HW2.out; obtain ⟨g, o, rfl, hg, hc0, hc1⟩ := lim_at HL5.out hx; have hbw := HB0.out.trans (HW2.out.mono HB0.out.size); have z0 := (hbw.cell (p := ⟨g, o + p * 2, none⟩) hg).trans hc0; have z1 := (hbw.cell (p := ⟨g, o + p * 2 + 1, none⟩) hg).trans hc1; clear hx hbw hc0 hc1) | (refine wpList_store_to rfl 51 (.tmp 6) (.tmp 45) rfl rfl Y #[.int .u32 (x.min : Int), .int .i64 x.max] rfl rfl 51 #[.int .u32 0, .int .i64 0] (HZ.out _ HW2.out) siz_slim rfl (by simp [Value.oneCell']) ?_))
  refine bodyPost_ret (v := .tuple #[.agg #[.int .u32 (x.min : Int), .int .i64 x.max], .bool true]) (res_cell_tmp (p := 6) (q := 7) (ty := 51) (by kernel_rfl) _ _ Y 51 #[.int .u32 (x.min : Int), .int .i64 x.max] (0, 0) D rfl (setRow_heap _ _ #[.int .u32 0, .int .i64 0] _ _ _ (HZ.out _ HW2.out)) HU.out HD.out siz_slim (.bool true) rfl) rfl ?_
  exact ⟨rfl, below_setRow (HB0.out.trans (HW2.out.mono HB0.out.size)) HY.out _⟩
set_option maxRecDepth 100000 in
set_option maxHeartbeats 4000000 in
theorem rlimMC (m : M) (v1 v2 v3 v4 v5 v6 v7 v8 v9 v10 : Value) (w : World) (hM : RepM w (· < w.heap.size) m v1 v2 v3 v4 v5 v6 v7 v8 v9 v10) (hF : Few m) (i : Nat) (hi : i < 4294967296) (hle : (imps m 2).length + m.mems.length ≤ i) :
    Calls Try.prog 15 #[.agg (modCells m v1 v2 v3 v4 v5 v6 v7 v8 v9 v10), .int .u8 2, .int .u32 (i : Int)] w fun e w' => e = .returned (.tuple #[.agg #[.int .u32 0, .int .i64 0], .bool false]) ∧ Below w.heap.size w w' := by
  obtain ⟨D, hu, hd⟩ := descOf des_slim
  have HU := Lib.hid hu
  have HD := Lib.hid hd
  clear hu hd
  have hni : (imps m 2).length ≤ 4000 := Nat.le_trans (imps_le m 2) hF.imports
  have hno : m.mems.length ≤ 4000 := hF.mems
  obtain ⟨A5, c5, rfl, _, _, _, hL5⟩ := hM.mems
  have HL5 := Lib.hid hL5
  clear hL5
  have HNI : ∃ ni, (imps m 2).length = ni := ⟨_, rfl⟩
  obtain ⟨ni, hgn⟩ := HNI
  generalize hcs : modCells m v1 v2 v3 v4 (.slice A5 m.mems.length c5) v6 v7 v8 v9 v10 = cs
  have HI : Hid (∀ W, Below w.heap.size w W → Calls Try.prog 23 #[.agg cs, .int .u8 2] W fun e w' => e = .returned (.int .i64 ((imps m 2).length : Int)) ∧ Below W.heap.size W w') := Lib.hid (fun W hb => by
    subst hcs
    exact rimported_any m _ _ _ _ _ _ _ _ _ _ W (hM.grow hb) hF.imports 2 (by decide))
  have HCT : Hid (∀ W, Below w.heap.size w W → Calls Try.prog 21 #[.agg cs, .int .u8 2] W fun e w' => e = .returned (.int .i64 (((imps m 2).length + m.mems.length : Nat) : Int)) ∧ Below W.heap.size W w') := Lib.hid (fun W hb => by
    subst hcs
    exact rcount_any m _ _ _ _ _ _ _ _ _ _ W (hM.grow hb) hF 2 (by decide))
  rw [hgn] at HI HCT hni hle
  unfold modCells at hcs
  obtain ⟨n5, hn5⟩ : ∃ n, m.mems.length = n := ⟨_, rfl⟩
  have HN5 := Lib.hid hn5
  rw [hn5] at hcs
  generalize m.hasStart = hs at hcs
  generalize (m.start : Int) = st at hcs
  subst hcs
  rw [hn5] at hno HCT hle
  have hge : (ni : Int) + (n5 : Int) ≤ (i : Int) := by omega
  have hgen : ni + n5 ≤ i := by omega
  clear hM hF hn5
  have HX0 : Hid (((w.alloc (.cells #[v1, v2, v3, v4, .slice A5 n5 c5, v6, v7, .bool hs, .int .u32 st, v8, v9, v10] 33)).alloc (.cells #[.int .u32 0, .int .i64 0] 51)).heap[w.heap.size]? = some (.cells #[v1, v2, v3, v4, .slice A5 n5 c5, v6, v7, .bool hs, .int .u32 st, v8, v9, v10] 33 (0, 0))) := Lib.hid ((Below.heap_alloc _ _ _ (by simp)).trans (heap_alloc_new w _))
  have HZ0 : Hid (((w.alloc (.cells #[v1, v2, v3, v4, .slice A5 n5 c5, v6, v7, .bool hs, .int .u32 st, v8, v9, v10] 33)).alloc (.cells #[.int .u32 0, .int .i64 0] 51)).heap[w.heap.size + 1]? = some (.cells #[.int .u32 0, .int .i64 0] 51 (0, 0))) := Lib.hid (by have := heap_alloc_new (w.alloc (.cells #[v1, v2, v3, v4, .slice A5 n5 c5, v6, v7, .bool hs, .int .u32 st, v8, v9, v10] 33)) (.cells #[.int .u32 0, .int .i64 0] 51); simpa using this)
  have HB0 : Hid (Below w.heap.size w ((w.alloc (.cells #[v1, v2, v3, v4, .slice A5 n5 c5, v6, v7, .bool hs, .int .u32 st, v8, v9, v10] 33)).alloc (.cells #[.int .u32 0, .int .i64 0] 51))) := Lib.hid (((Below.refl _ _).alloc (Nat.le_refl _) _).alloc (by simp) _)
  go_enter Try.func15, Try.ntmps15
  go_upto_region 1 with fail
  generalize (w.alloc (.cells #[v1, v2, v3, v4, .slice A5 n5 c5, v6, v7, .bool hs, .int .u32 st, v8, v9, v10] 33)).alloc (.cells #[.int .u32 0, .int .i64 0] 51) = w0 at HX0 HZ0 HB0 ⊢
  obtain ⟨X, hX⟩ : ∃ X, w.heap.size = X := ⟨_, rfl⟩
  obtain ⟨Y, hY⟩ : ∃ Y, w.heap.size + 1 = Y := ⟨_, rfl⟩
  rw [hX] at HX0
  rw [hY] at HZ0
  have HY : Hid (w.heap.size ≤ Y) := Lib.hid (by omega)
  simp only [hY]
  simp only [hX]
  clear hX hY
  have HC := Lib.hid (fun W (hb : Below w0.heap.size w0 W) => cells12 HX0.out hb)
  have HZ := Lib.hid (fun W (hb : Below w0.heap.size w0 W) => (hb.block Y (Array.getElem?_eq_some_iff.1 HZ0.out).1).trans HZ0.out)
  clear HX0 HZ0
  have HW0 := Lib.hid (Below.refl w0.heap.size w0)
  obtain ⟨a0, a1, a2, a3, a4, a5, a6, a7, a8, a9, a10, a11⟩ := HC.out w0 HW0.out
  go_wp2_with (first | (go_at_call 23; refine (HI.out _ (HB0.out.trans (HW0.out.mono HB0.out.size))).mono ?_; rintro e w1 ⟨rfl, hb⟩; have HW1 : Hid (Below w0.heap.size w0 w1) := Lib.hid (HW0.out.trans (hb.mono HW0.out.size)); clear hb; clear a0 a1 a2 a3 a4 a5 a6 a7 a8 a9 a10 a11; obtain ⟨b0, b1, b2, b3, b4, b5, b6, b7, b8, b9, b10, b11⟩ := HC.out w1 HW1.out) | (go_at_call 21; refine (HCT.out _ (HB0.out.trans (HW1.out.mono HB0.out.size))).mono ?_; rintro e w2 ⟨rfl, hb⟩; have HW2 : Hid (Below w0.heap.size w0 w2) := Lib.hid (HW1.out.trans (hb.mono HW1.out.size)); clear hb; clear b0 b1 b2 b3 b4 b5 b6 b7 b8 b9 b10 b11) | (refine wpList_store_to rfl 51 (.tmp 6) (.tmp 18) rfl rfl Y #[.int .u32 0, .int .i64 0] rfl rfl 51 #[.int .u32 0, .int .i64 0] (HZ.out _ HW2.out) siz_slim rfl (by simp [Value.oneCell']) ?_))
  refine bodyPost_ret (v := .tuple #[.agg #[.int .u32 0, .int .i64 0], .bool false]) (res_cell_tmp (p := 6) (q := 7) (ty := 51) (by kernel_rfl) _ _ Y 51 #[.int .u32 0, .int .i64 0] (0, 0) D rfl (setRow_heap _ _ #[.int .u32 0, .int .i64 0] _ _ _ (HZ.out _ HW2.out)) HU.out HD.out siz_slim (.bool false) rfl) rfl ?_
  exact ⟨rfl, below_setRow (HB0.out.trans (HW2.out.mono HB0.out.size)) HY.out _⟩
set_option maxRecDepth 100000 in
set_option maxHeartbeats 4000000 in
theorem rglobA (m : M) (v1 v2 v3 v4 v5 v6 v7 v8 v9 v10 : Value) (w : World) (hM : RepM w (· < w.heap.size) m v1 v2 v3 v4 v5 v6 v7 v8 v9 v10) (hF : Few m) (i : Nat) (hi : i < 4294967296) (x : Imp) (hx : (imps m 3)[i]? = some x) (hle : i < (imps m 3).length) :
    Calls Try.prog 12 #[.agg (modCells m v1 v2 v3 v4 v5 v6 v7 v8 v9 v10), .int .u32 (i : Int)] w fun e w' => e = .returned (.tuple #[.agg #[.int .u8 (x.glob.t.toNat : Int), .bool x.glob.mu], .bool true]) ∧ Below w.heap.size w w' := by
  obtain ⟨D, hu, hd⟩ := descOf des_sglob
  have HU := Lib.hid hu
  have HD := Lib.hid hd
  clear hu hd
  have hni : (imps m 3).length ≤ 4000 := Nat.le_trans (imps_le m 3) hF.imports
  have hno : m.globals.length ≤ 4000 := hF.globals
  obtain ⟨A6, c6, rfl, _, _, _, hL6⟩ := hM.globals
  have HL6 := Lib.hid hL6
  clear hL6
  have HNI : ∃ ni, (imps m 3).length = ni := ⟨_, rfl⟩
  obtain ⟨ni, hgn⟩ := HNI
  generalize hcs : modCells m v1 v2 v3 v4 v5 (.slice A6 m.globals.length c6) v7 v8 v9 v10 = cs
  have HI : Hid (∀ W, Below w.heap.size w W → Calls Try.prog 23 #[.agg cs, .int .u8 3] W fun e w' => e = .returned (.int .i64 ((imps m 3).length : Int)) ∧ Below W.heap.size W w') := Lib.hid (fun W hb => by
    subst hcs
    exact rimported_any m _ _ _ _ _ _ _ _ _ _ W (hM.grow hb) hF.imports 3 (by decide))
  have HCT : Hid (∀ W, Below w.heap.size w W → Calls Try.prog 21 #[.agg cs, .int .u8 3] W fun e w' => e = .returned (.int .i64 (((imps m 3).length + m.globals.length : Nat) : Int)) ∧ Below W.heap.size W w') := Lib.hid (fun W hb => by
    subst hcs
    exact rcount_any m _ _ _ _ _ _ _ _ _ _ W (hM.grow hb) hF 3 (by decide))
  have HE : Hid (∀ W, Below w.heap.size w W → Calls Try.prog 38 #[.agg cs, .int .u8 3, .int .u32 (i : Int)] W fun e w' => e = .returned (.agg #[.string ⟨x.mod.toArray⟩, .string ⟨x.name.toArray⟩, .int .u8 (x.kind.toNat : Int), .int .u32 (x.type : Int), .int .u32 (x.lim.min : Int), .int .i64 x.lim.max, .int .u8 (x.glob.t.toNat : Int), .bool x.glob.mu]) ∧ Below W.heap.size W w') := Lib.hid (fun W hb => by
    subst hcs
    exact rentry_any m _ _ _ _ _ _ _ _ _ _ W (hM.grow hb) hF.imports 3 (by decide) i hi x hx)
  rw [hgn] at HI HCT hni hle
  unfold modCells at hcs
  obtain ⟨n6, hn6⟩ : ∃ n, m.globals.length = n := ⟨_, rfl⟩
  have HN6 := Lib.hid hn6
  rw [hn6] at hcs
  generalize m.hasStart = hs at hcs
  generalize (m.start : Int) = st at hcs
  subst hcs
  rw [hn6] at hno HCT
  have hia : (i : Int) < (ni : Int) := by omega
  have hge : decide ((ni : Int) + (n6 : Int) ≤ (i : Int)) = false := decide_eq_false (by omega)
  have hgen : decide (ni + n6 ≤ i) = false := decide_eq_false (by omega)
  clear hM hF hn6 hx
  have HX0 : Hid (((w.alloc (.cells #[v1, v2, v3, v4, v5, .slice A6 n6 c6, v7, .bool hs, .int .u32 st, v8, v9, v10] 33)).alloc (.cells #[.int .u8 0, .bool false] 45)).heap[w.heap.size]? = some (.cells #[v1, v2, v3, v4, v5, .slice A6 n6 c6, v7, .bool hs, .int .u32 st, v8, v9, v10] 33 (0, 0))) := Lib.hid ((Below.heap_alloc _ _ _ (by simp)).trans (heap_alloc_new w _))
  have HZ0 : Hid (((w.alloc (.cells #[v1, v2, v3, v4, v5, .slice A6 n6 c6, v7, .bool hs, .int .u32 st, v8, v9, v10] 33)).alloc (.cells #[.int .u8 0, .bool false] 45)).heap[w.heap.size + 1]? = some (.cells #[.int .u8 0, .bool false] 45 (0, 0))) := Lib.hid (by have := heap_alloc_new (w.alloc (.cells #[v1, v2, v3, v4, v5, .slice A6 n6 c6, v7, .bool hs, .int .u32 st, v8, v9, v10] 33)) (.cells #[.int .u8 0, .bool false] 45); simpa using this)
  have HB0 : Hid (Below w.heap.size w ((w.alloc (.cells #[v1, v2, v3, v4, v5, .slice A6 n6 c6, v7, .bool hs, .int .u32 st, v8, v9, v10] 33)).alloc (.cells #[.int .u8 0, .bool false] 45))) := Lib.hid (((Below.refl _ _).alloc (Nat.le_refl _) _).alloc (by simp) _)
  go_enter Try.func12, Try.ntmps12
  go_upto_region 1 with fail
  generalize (w.alloc (.cells #[v1, v2, v3, v4, v5, .slice A6 n6 c6, v7, .bool hs, .int .u32 st, v8, v9, v10] 33)).alloc (.cells #[.int .u8 0, .bool false] 45) = w0 at HX0 HZ0 HB0 ⊢
  obtain ⟨X, hX⟩ : ∃ X, w.heap.size = X := ⟨_, rfl⟩
  obtain ⟨Y, hY⟩ : ∃ Y, w.heap.size + 1 = Y := ⟨_, rfl⟩
  rw [hX] at HX0
  rw [hY] at HZ0
  have HY : Hid (w.heap.size ≤ Y) := Lib.hid (by omega)
  simp only [hY]
  simp only [hX]
  clear hX hY
  have HC := Lib.hid (fun W (hb : Below w0.heap.size w0 W) => cells12 HX0.out hb)
  have HZ := Lib.hid (fun W (hb : Below w0.heap.size w0 W) => (hb.block Y (Array.getElem?_eq_some_iff.1 HZ0.out).1).trans HZ0.out)
  clear HX0 HZ0
  have HW0 := Lib.hid (Below.refl w0.heap.size w0)
  have hfd : ∀ W : World, (Instr.field 63 (.agg #[.string ⟨x.mod.toArray⟩, .string ⟨x.name.toArray⟩, .int .u8 (x.kind.toNat : Int), .int .u32 (x.type : Int), .int .u32 (x.lim.min : Int), .int .i64 x.lim.max, .int .u8 (x.glob.t.toNat : Int), .bool x.glob.mu]) 5).run Try.prog W = .ok (.agg #[.int .u8 (x.glob.t.toNat : Int), .bool x.glob.mu]) W := fun _ => by kernel_rfl
  obtain ⟨a0, a1, a2, a3, a4, a5, a6, a7, a8, a9, a10, a11⟩ := HC.out w0 HW0.out
  go_wp2_with (first | (go_at_call 23; refine (HI.out _ (HB0.out.trans (HW0.out.mono HB0.out.size))).mono ?_; rintro e w1 ⟨rfl, hb⟩; have HW1 : Hid (Below w0.heap.size w0 w1) := Lib.hid (HW0.out.trans (hb.mono HW0.out.size)); clear hb; clear a0 a1 a2 a3 a4 a5 a6 a7 a8 a9 a10 a11; obtain ⟨b0, b1, b2, b3, b4, b5, b6, b7, b8, b9, b10, b11⟩ := HC.out w1 HW1.out) | (go_at_call 21; refine (HCT.out _ (HB0.out.trans (HW1.out.mono HB0.out.size))).mono ?_; rintro e w2 ⟨rfl, hb⟩; have HW2 : Hid (Below w0.heap.size w0 w2) := Lib.hid (HW1.out.trans (hb.mono HW1.out.size)); clear hb; clear b0 b1 b2 b3 b4 b5 b6 b7 b8 b9 b10 b11; obtain ⟨d0, d1, d2, d3, d4, d5, d6, d7, d8, d9, d10, d11⟩ := HC.out w2 HW2.out) | (go_at_call 38; refine (HE.out _ (HB0.out.trans (HW2.out.mono HB0.out.size))).mono ?_; rintro e w3 ⟨rfl, hb⟩; have HW3 : Hid (Below w0.heap.size w0 w3) := Lib.hid (HW2.out.trans (hb.mono HW2.out.size)); clear hb; clear d0 d1 d2 d3 d4 d5 d6 d7 d8 d9 d10 d11) | (refine wpList_store_to rfl 45 (.tmp 4) (.tmp 22) rfl rfl Y #[.int .u8 (x.glob.t.toNat : Int), .bool x.glob.mu] rfl rfl 45 #[.int .u8 0, .bool false] (HZ.out _ HW3.out) siz_sglob rfl (by simp [Value.oneCell']) ?_))
  refine bodyPost_ret (v := .tuple #[.agg #[.int .u8 (x.glob.t.toNat : Int), .bool x.glob.mu], .bool true]) (res_cell_tmp (p := 4) (q := 5) (ty := 45) (by kernel_rfl) _ _ Y 45 #[.int .u8 (x.glob.t.toNat : Int), .bool x.glob.mu] (0, 0) D rfl (setRow_heap _ _ #[.int .u8 0, .bool false] _ _ _ (HZ.out _ HW3.out)) HU.out HD.out siz_sglob (.bool true) rfl) rfl ?_
  exact ⟨rfl, below_setRow (HB0.out.trans (HW3.out.mono HB0.out.size)) HY.out _⟩
set_option maxRecDepth 100000 in
set_option maxHeartbeats 4000000 in
theorem rglobB (m : M) (v1 v2 v3 v4 v5 v6 v7 v8 v9 v10 : Value) (w : World) (hM : RepM w (· < w.heap.size) m v1 v2 v3 v4 v5 v6 v7 v8 v9 v10) (hF : Few m) (i : Nat) (hi : i < 4294967296) (p : Nat) (x : GV) (hx : m.globals[p]? = some x) (hle : i = (imps m 3).length + p) :
    Calls Try.prog 12 #[.agg (modCells m v1 v2 v3 v4 v5 v6 v7 v8 v9 v10), .int .u32 (i : Int)] w fun e w' => e = .returned (.tuple #[.agg #[.int .u8 (x.type.t.toNat : Int), .bool x.type.mu], .bool true]) ∧ Below w.heap.size w w' := by
  obtain ⟨D, hu, hd⟩ := descOf des_sglob
  have HU := Lib.hid hu
  have HD := Lib.hid hd
  clear hu hd
  have hni : (imps m 3).length ≤ 4000 := Nat.le_trans (imps_le m 3) hF.imports
  have hno : m.globals.length ≤ 4000 := hF.globals
  obtain ⟨A6, c6, rfl, _, _, _, hL6⟩ := hM.globals
  have HL6 := Lib.hid hL6
  clear hL6
  have HNI : ∃ ni, (imps m 3).length = ni := ⟨_, rfl⟩
  obtain ⟨ni, hgn⟩ := HNI
  generalize hcs : modCells m v1 v2 v3 v4 v5 (.slice A6 m.globals.length c6) v7 v8 v9 v10 = cs
  have HI : Hid (∀ W, Below w.heap.size w W → Calls Try.prog 23 #[.agg cs, .int .u8 3] W fun e w' => e = .returned (.int .i64 ((imps m 3).length : Int)) ∧ Below W.heap.size W w') := Lib.hid (fun W hb => by
    subst hcs
    exact rimported_any m _ _ _ _ _ _ _ _ _ _ W (hM.grow hb) hF.imports 3 (by decide))
  have HCT : Hid (∀ W, Below w.heap.size w W → Calls Try.prog 21 #[.agg cs, .int .u8 3] W fun e w' => e = .returned (.int .i64 (((imps m 3).length + m.globals.length : Nat) : Int)) ∧ Below W.heap.size W w') := Lib.hid (fun W hb => by
    subst hcs
    exact rcount_any m _ _ _ _ _ _ _ _ _ _ W (hM.grow hb) hF 3 (by decide))
  rw [hgn] at HI HCT hni hle
  unfold modCells at hcs
  obtain ⟨n6, hn6⟩ : ∃ n, m.globals.length = n := ⟨_, rfl⟩
  have HN6 := Lib.hid hn6
  rw [hn6] at hcs
  generalize m.hasStart = hs at hcs
  generalize (m.start : Int) = st at hcs
  subst hcs
  rw [hn6] at hno HCT
  have hpn : p < n6 := by rw [← hn6]; exact (List.getElem?_eq_some_iff.1 hx).1
  have hia : decide ((i : Int) < (ni : Int)) = false := decide_eq_false (by omega)
  have hian : decide (i < ni) = false := decide_eq_false (by omega)
  have hge : decide ((ni : Int) + (n6 : Int) ≤ (i : Int)) = false := decide_eq_false (by omega)
  have hgen : decide (ni + n6 ≤ i) = false := decide_eq_false (by omega)
  have hsub : IntKind.i64.wrap ((i : Int) - (ni : Int)) = (p : Int) := by rw [IntWalk.i64_in _ (by omega)]; omega
  have HLE := Lib.hid hle
  clear hle
  have hpi : (p : Int) < (n6 : Int) := by omega
  clear hM hF hn6
  have HX0 : Hid (((w.alloc (.cells #[v1, v2, v3, v4, v5, .slice A6 n6 c6, v7, .bool hs, .int .u32 st, v8, v9, v10] 33)).alloc (.cells #[.int .u8 0, .bool false] 45)).heap[w.heap.size]? = some (.cells #[v1, v2, v3, v4, v5, .slice A6 n6 c6, v7, .bool hs, .int .u32 st, v8, v9, v10] 33 (0, 0))) := Lib.hid ((Below.heap_alloc _ _ _ (by simp)).trans (heap_alloc_new w _))
  have HZ0 : Hid (((w.alloc (.cells #[v1, v2, v3, v4, v5, .slice A6 n6 c6, v7, .bool hs, .int .u32 st, v8, v9, v10] 33)).alloc (.cells #[.int .u8 0, .bool false] 45)).heap[w.heap.size + 1]? = some (.cells #[.int .u8 0, .bool false] 45 (0, 0))) := Lib.hid (by have := heap_alloc_new (w.alloc (.cells #[v1, v2, v3, v4, v5, .slice A6 n6 c6, v7, .bool hs, .int .u32 st, v8, v9, v10] 33)) (.cells #[.int .u8 0, .bool false] 45); simpa using this)
  have HB0 : Hid (Below w.heap.size w ((w.alloc (.cells #[v1, v2, v3, v4, v5, .slice A6 n6 c6, v7, .bool hs, .int .u32 st, v8, v9, v10] 33)).alloc (.cells #[.int .u8 0, .bool false] 45))) := Lib.hid (((Below.refl _ _).alloc (Nat.le_refl _) _).alloc (by simp) _)
  go_enter Try.func12, Try.ntmps12
  go_upto_region 1 with fail
  generalize (w.alloc (.cells #[v1, v2, v3, v4, v5, .slice A6 n6 c6, v7, .bool hs, .int .u32 st, v8, v9, v10] 33)).alloc (.cells #[.int .u8 0, .bool false] 45) = w0 at HX0 HZ0 HB0 ⊢
  obtain ⟨X, hX⟩ : ∃ X, w.heap.size = X := ⟨_, rfl⟩
  obtain ⟨Y, hY⟩ : ∃ Y, w.heap.size + 1 = Y := ⟨_, rfl⟩
  rw [hX] at HX0
  rw [hY] at HZ0
  have HY : Hid (w.heap.size ≤ Y) := Lib.hid (by omega)
  simp only [hY]
  simp only [hX]
  clear hX hY
  have HC := Lib.hid (fun W (hb : Below w0.heap.size w0 W) => cells12 HX0.out hb)
  have HZ := Lib.hid (fun W (hb : Below w0.heap.size w0 W) => (hb.block Y (Array.getElem?_eq_some_iff.1 HZ0.out).1).trans HZ0.out)
  clear HX0 HZ0
  have HW0 := Lib.hid (Below.refl w0.heap.size w0)
  obtain ⟨a0, a1, a2, a3, a4, a5, a6, a7, a8, a9, a10, a11⟩ := HC.out w0 HW0.out
  go_wp2_with (first | (go_at_call 23; refine (HI.out _ (HB0.out.trans (HW0.out.mono HB0.out.size))).mono ?_; rintro e w1 ⟨rfl, hb⟩; have HW1 : Hid (Below w0.heap.size w0 w1) := Lib.hid (HW0.out.trans (hb.mono HW0.out.size)); clear hb; clear a0 a1 a2 a3 a4 a5 a6 a7 a8 a9 a10 a11; obtain ⟨b0, b1, b2, b3, b4, b5, b6, b7, b8, b9, b10, b11⟩ := HC.out w1 HW1.out) | (go_at_call 21; refine (HCT.out _ (HB0.out.trans (HW1.out.mono HB0.out.size))).mono ?_; rintro e w2 ⟨rfl, hb⟩; have HW2 : Hid (Below w0.heap.size w0 w2) := Lib.hid (HW1.out.trans (hb.mono HW1.out.size)); clear hb; clear b0 b1 b2 b3 b4 b5 b6 b7 b8 b9 b10 b11; obtain ⟨d0, d1, d2, d3, d4, d5, d6, d7, d8, d9, d10, d11⟩ := HC.out w2 HW2.out; obtain ⟨g, o, rfl, hg, hc0, hc1, _⟩ := gv_at HL6.out hx; have hbw := HB0.out.trans (HW2.out.mono HB0.out.size); have z0 := (hbw.cell (p := ⟨g, o + p * 3, none⟩) hg).trans hc0; have z1 := (hbw.cell (p := ⟨g, o + p * 3 + 1, none⟩) hg).trans hc1; clear hx hbw hc0 hc1) | (refine wpList_store_to rfl 45 (.tmp 4) (.tmp 31) rfl rfl Y #[.int .u8 (x.type.t.toNat : Int), .bool x.type.mu] rfl rfl 45 #[.int .u8 0, .bool false] (HZ.out _ HW2.out) siz_sglob rfl (by simp [Value.oneCell']) ?_))
  refine bodyPost_ret (v := .tuple #[.agg #[.int .u8 (x.type.t.toNat : Int), .bool x.type.mu], .bool true]) (res_cell_tmp (p := 4) (q := 5) (ty := 45) (by kernel_rfl) _ _ Y 45 #[.int .u8 (x.type.t.toNat : Int), .bool x.type.mu] (0, 0) D rfl (setRow_heap _ _ #[.int .u8 0, .bool false] _ _ _ (HZ.out _ HW2.out)) HU.out HD.out siz_sglob (.bool true) rfl) rfl ?_
  exact ⟨rfl, below_setRow (HB0.out.trans (HW2.out.mono HB0.out.size)) HY.out _⟩
set_option maxRecDepth 100000 in
set_option maxHeartbeats 4000000 in
theorem rglobC (m : M) (v1 v2 v3 v4 v5 v6 v7 v8 v9 v10 : Value) (w : World) (hM : RepM w (· < w.heap.size) m v1 v2 v3 v4 v5 v6 v7 v8 v9 v10) (hF : Few m) (i : Nat) (hi : i < 4294967296) (hle : (imps m 3).length + m.globals.length ≤ i) :
    Calls Try.prog 12 #[.agg (modCells m v1 v2 v3 v4 v5 v6 v7 v8 v9 v10), .int .u32 (i : Int)] w fun e w' => e = .returned (.tuple #[.agg #[.int .u8 0, .bool false], .bool false]) ∧ Below w.heap.size w w' := by
  obtain ⟨D, hu, hd⟩ := descOf des_sglob
  have HU := Lib.hid hu
  have HD := Lib.hid hd
  clear hu hd
  have hni : (imps m 3).length ≤ 4000 := Nat.le_trans (imps_le m 3) hF.imports
  have hno : m.globals.length ≤ 4000 := hF.globals
  obtain ⟨A6, c6, rfl, _, _, _, hL6⟩ := hM.globals
  have HL6 := Lib.hid hL6
  clear hL6
  have HNI : ∃ ni, (imps m 3).length = ni := ⟨_, rfl⟩
  obtain ⟨ni, hgn⟩ := HNI
  generalize hcs : modCells m v1 v2 v3 v4 v5 (.slice A6 m.globals.length c6) v7 v8 v9 v10 = cs
  have HI : Hid (∀ W, Below w.heap.size w W → Calls Try.prog 23 #[.agg cs, .int .u8 3] W fun e w' => e = .returned (.int .i64 ((imps m 3).length : Int)) ∧ Below W.heap.size W w') := Lib.hid (fun W hb => by
    subst hcs
    exact rimported_any m _ _ _ _ _ _ _ _ _ _ W (hM.grow hb) hF.imports 3 (by decide))
  have HCT : Hid (∀ W, Below w.heap.size w W → Calls Try.prog 21 #[.agg cs, .int .u8 3] W fun e w' => e = .returned (.int .i64 (((imps m 3).length + m.globals.length : Nat) : Int)) ∧ Below W.heap.size W w') := Lib.hid (fun W hb => by
    subst hcs
    exact rcount_any m _ _ _ _ _ _ _ _ _ _ W (hM.grow hb) hF 3 (by decide))
  rw [hgn] at HI HCT hni hle
  unfold modCells at hcs
  obtain ⟨n6, hn6⟩ : ∃ n, m.globals.length = n := ⟨_, rfl⟩
  have HN6 := Lib.hid hn6
  rw [hn6] at hcs
  generalize m.hasStart = hs at hcs
  generalize (m.start : Int) = st at hcs
  subst hcs
  rw [hn6] at hno HCT hle
  have hge : (ni : Int) + (n6 : Int) ≤ (i : Int) := by omega
  have hgen : ni + n6 ≤ i := by omega
  clear hM hF hn6
  have HX0 : Hid (((w.alloc (.cells #[v1, v2, v3, v4, v5, .slice A6 n6 c6, v7, .bool hs, .int .u32 st, v8, v9, v10] 33)).alloc (.cells #[.int .u8 0, .bool false] 45)).heap[w.heap.size]? = some (.cells #[v1, v2, v3, v4, v5, .slice A6 n6 c6, v7, .bool hs, .int .u32 st, v8, v9, v10] 33 (0, 0))) := Lib.hid ((Below.heap_alloc _ _ _ (by simp)).trans (heap_alloc_new w _))
  have HZ0 : Hid (((w.alloc (.cells #[v1, v2, v3, v4, v5, .slice A6 n6 c6, v7, .bool hs, .int .u32 st, v8, v9, v10] 33)).alloc (.cells #[.int .u8 0, .bool false] 45)).heap[w.heap.size + 1]? = some (.cells #[.int .u8 0, .bool false] 45 (0, 0))) := Lib.hid (by have := heap_alloc_new (w.alloc (.cells #[v1, v2, v3, v4, v5, .slice A6 n6 c6, v7, .bool hs, .int .u32 st, v8, v9, v10] 33)) (.cells #[.int .u8 0, .bool false] 45); simpa using this)
  have HB0 : Hid (Below w.heap.size w ((w.alloc (.cells #[v1, v2, v3, v4, v5, .slice A6 n6 c6, v7, .bool hs, .int .u32 st, v8, v9, v10] 33)).alloc (.cells #[.int .u8 0, .bool false] 45))) := Lib.hid (((Below.refl _ _).alloc (Nat.le_refl _) _).alloc (by simp) _)
  go_enter Try.func12, Try.ntmps12
  go_upto_region 1 with fail
  generalize (w.alloc (.cells #[v1, v2, v3, v4, v5, .slice A6 n6 c6, v7, .bool hs, .int .u32 st, v8, v9, v10] 33)).alloc (.cells #[.int .u8 0, .bool false] 45) = w0 at HX0 HZ0 HB0 ⊢
  obtain ⟨X, hX⟩ : ∃ X, w.heap.size = X := ⟨_, rfl⟩
  obtain ⟨Y, hY⟩ : ∃ Y, w.heap.size + 1 = Y := ⟨_, rfl⟩
  rw [hX] at HX0
  rw [hY] at HZ0
  have HY : Hid (w.heap.size ≤ Y) := Lib.hid (by omega)
  simp only [hY]
  simp only [hX]
  clear hX hY
  have HC := Lib.hid (fun W (hb : Below w0.heap.size w0 W) => cells12 HX0.out hb)
  have HZ := Lib.hid (fun W (hb : Below w0.heap.size w0 W) => (hb.block Y (Array.getElem?_eq_some_iff.1 HZ0.out).1).trans HZ0.out)
  clear HX0 HZ0
  have HW0 := Lib.hid (Below.refl w0.heap.size w0)
  obtain ⟨a0, a1, a2, a3, a4, a5, a6, a7, a8, a9, a10, a11⟩ := HC.out w0 HW0.out
  go_wp2_with (first | (go_at_call 23; refine (HI.out _ (HB0.out.trans (HW0.out.mono HB0.out.size))).mono ?_; rintro e w1 ⟨rfl, hb⟩; have HW1 : Hid (Below w0.heap.size w0 w1) := Lib.hid (HW0.out.trans (hb.mono HW0.out.size)); clear hb; clear a0 a1 a2 a3 a4 a5 a6 a7 a8 a9 a10 a11; obtain ⟨b0, b1, b2, b3, b4, b5, b6, b7, b8, b9, b10, b11⟩ := HC.out w1 HW1.out) | (go_at_call 21; refine (HCT.out _ (HB0.out.trans (HW1.out.mono HB0.out.size))).mono ?_; rintro e w2 ⟨rfl, hb⟩; have HW2 : Hid (Below w0.heap.size w0 w2) := Lib.hid (HW1.out.trans (hb.mono HW1.out.size)); clear hb; clear b0 b1 b2 b3 b4 b5 b6 b7 b8 b9 b10 b11) | (refine wpList_store_to rfl 45 (.tmp 4) (.tmp 14) rfl rfl Y #[.int .u8 0, .bool false] rfl rfl 45 #[.int .u8 0, .bool false] (HZ.out _ HW2.out) siz_sglob rfl (by simp [Value.oneCell']) ?_))
  refine bodyPost_ret (v := .tuple #[.agg #[.int .u8 0, .bool false], .bool false]) (res_cell_tmp (p := 4) (q := 5) (ty := 45) (by kernel_rfl) _ _ Y 45 #[.int .u8 0, .bool false] (0, 0) D rfl (setRow_heap _ _ #[.int .u8 0, .bool false] _ _ _ (HZ.out _ HW2.out)) HU.out HD.out siz_sglob (.bool false) rfl) rfl ?_
  exact ⟨rfl, below_setRow (HB0.out.trans (HW2.out.mono HB0.out.size)) HY.out _⟩
theorem rtabs_any (m : M) (v1 v2 v3 v4 v5 v6 v7 v8 v9 v10 : Value) (w : World) (hM : RepM w (· < w.heap.size) m v1 v2 v3 v4 v5 v6 v7 v8 v9 v10) (hF : Few m) (i : Nat) (hi : i < 4294967296) :
    Calls Try.prog 15 #[.agg (modCells m v1 v2 v3 v4 v5 v6 v7 v8 v9 v10), .int .u8 1, .int .u32 (i : Int)] w (LimPost ((tabs m)[i]?) w) := by
  rcases Nat.lt_or_ge i (imps m 1).length with h | h
  · have ho : (tabs m)[i]? = some _ := row_imp h
    rw [ho]
    exact rlimTA m v1 v2 v3 v4 v5 v6 v7 v8 v9 v10 w hM hF i hi _ (List.getElem?_eq_getElem h) h
  · obtain ⟨p, rfl⟩ := Nat.exists_eq_add_of_le h
    have ho : (tabs m)[(imps m 1).length + p]? = m.tables[p]? := by
      unfold tabs
      rw [row_own h, Nat.add_sub_cancel_left]
    rw [ho]
    cases hx : m.tables[p]? with
    | some x => exact rlimTB m v1 v2 v3 v4 v5 v6 v7 v8 v9 v10 w hM hF _ hi p x hx rfl
    | none => exact rlimTC m v1 v2 v3 v4 v5 v6 v7 v8 v9 v10 w hM hF _ hi (by have := List.getElem?_eq_none_iff.1 hx; omega)
theorem rmems_any (m : M) (v1 v2 v3 v4 v5 v6 v7 v8 v9 v10 : Value) (w : World) (hM : RepM w (· < w.heap.size) m v1 v2 v3 v4 v5 v6 v7 v8 v9 v10) (hF : Few m) (i : Nat) (hi : i < 4294967296) :
    Calls Try.prog 15 #[.agg (modCells m v1 v2 v3 v4 v5 v6 v7 v8 v9 v10), .int .u8 2, .int .u32 (i : Int)] w (LimPost ((mems m)[i]?) w) := by
  rcases Nat.lt_or_ge i (imps m 2).length with h | h
  · have ho : (mems m)[i]? = some _ := row_imp h
    rw [ho]
    exact rlimMA m v1 v2 v3 v4 v5 v6 v7 v8 v9 v10 w hM hF i hi _ (List.getElem?_eq_getElem h) h
  · obtain ⟨p, rfl⟩ := Nat.exists_eq_add_of_le h
    have ho : (mems m)[(imps m 2).length + p]? = m.mems[p]? := by
      unfold mems
      rw [row_own h, Nat.add_sub_cancel_left]
    rw [ho]
    cases hx : m.mems[p]? with
    | some x => exact rlimMB m v1 v2 v3 v4 v5 v6 v7 v8 v9 v10 w hM hF _ hi p x hx rfl
    | none => exact rlimMC m v1 v2 v3 v4 v5 v6 v7 v8 v9 v10 w hM hF _ hi (by have := List.getElem?_eq_none_iff.1 hx; omega)
theorem rglobs_any (m : M) (v1 v2 v3 v4 v5 v6 v7 v8 v9 v10 : Value) (w : World) (hM : RepM w (· < w.heap.size) m v1 v2 v3 v4 v5 v6 v7 v8 v9 v10) (hF : Few m) (i : Nat) (hi : i < 4294967296) :
    Calls Try.prog 12 #[.agg (modCells m v1 v2 v3 v4 v5 v6 v7 v8 v9 v10), .int .u32 (i : Int)] w (GlobPost ((globs m)[i]?) w) := by
  rcases Nat.lt_or_ge i (imps m 3).length with h | h
  · have ho : (globs m)[i]? = some _ := row_imp h
    rw [ho]
    exact rglobA m v1 v2 v3 v4 v5 v6 v7 v8 v9 v10 w hM hF i hi _ (List.getElem?_eq_getElem h) h
  · obtain ⟨p, rfl⟩ := Nat.exists_eq_add_of_le h
    have ho : (globs m)[(imps m 3).length + p]? = (m.globals[p]?).map (·.type) := by
      unfold globs
      rw [row_own h, Nat.add_sub_cancel_left]
      exact List.getElem?_map
    rw [ho]
    cases hx : m.globals[p]? with
    | some x => exact rglobB m v1 v2 v3 v4 v5 v6 v7 v8 v9 v10 w hM hF _ hi p x hx rfl
    | none => exact rglobC m v1 v2 v3 v4 v5 v6 v7 v8 v9 v10 w hM hF _ hi (by have := List.getElem?_eq_none_iff.1 hx; omega)
end Go.Proofs.Ytgnbkfkiigcdgaa
