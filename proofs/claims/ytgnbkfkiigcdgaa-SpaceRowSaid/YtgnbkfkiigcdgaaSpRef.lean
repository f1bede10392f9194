/-
  The document's answers for layer 8, over any module: how many, which import, limits, globals, functions, exports. (gen/space/ref.py)
-/
import Derived.Test.YtgnbkfkiigcdgaaSpM
import Derived.Test.YtgnbkfkiigcdgaaOwnL
import Derived.Test.YtgnbkfkiigcdgaaEncOpen2
import Derived.Test.YtgnbkfkiigcdgaaRowStore
namespace Go.Proofs.Ytgnbkfkiigcdgaa
open Go.RowKit Ins Bin Sp
/-- An import's cells, where its row stands. -/
theorem imp_at {w : World} {S : Nat → Prop} {A : Option Addr} {xs : List Imp} {k : Nat} {x : Imp} (h : HasL w S A xs) (hx : xs[k]? = some x) : ∃ g o, A = some ⟨g, o, none⟩ ∧ g < w.heap.size ∧ S g ∧ x.type < 4294967296 ∧ Lim.wf x.lim ∧ ∀ (j : Nat) (u : Value), (impCells x)[j]? = some u → w.cell? ⟨g, o + k * 8 + j, none⟩ = some u := by
  obtain ⟨g, o, cs, h1, h2, h3, ⟨rfl, h4, h5⟩, h6⟩ := h k x hx
  exact ⟨g, o, h1, h3, h2, h4, h5, h6⟩
set_option maxRecDepth 100000 in
set_option maxHeartbeats 4000000 in
theorem rimported_any (m : M) (v1 v2 v3 v4 v5 v6 v7 v8 v9 v10 : Value) (w : World) (hM : RepM w (· < w.heap.size) m v1 v2 v3 v4 v5 v6 v7 v8 v9 v10) (hF : m.imports.length ≤ 4000) (k : Nat) (hk : k < 256) :
    Calls Try.prog 23 #[.agg (modCells m v1 v2 v3 v4 v5 v6 v7 v8 v9 v10), .int .u8 (k : Int)] w fun e w' => e = .returned (.int .i64 (imported m k : Int)) ∧ Below w.heap.size w w' := by
  obtain ⟨A2, c2, rfl, _, _, _, hL2⟩ := hM.imports
  have HL2 := Lib.hid hL2
  clear hM hL2
  generalize hcs : modCells m v1 (.slice A2 m.imports.length c2) v3 v4 v5 v6 v7 v8 v9 v10 = cs
  unfold modCells at hcs
  obtain ⟨n2, hn2⟩ : ∃ n, m.imports.length = n := ⟨_, rfl⟩
  have HN2 := Lib.hid hn2
  rw [hn2] at hcs
  generalize m.hasStart = hs at hcs
  generalize (m.start : Int) = st at hcs
  subst hcs
  have hn2b : n2 ≤ 4000 := by rw [← hn2]; exact hF
  clear hn2 hF
  by_cases h4 : k < 4
  · have h4i : (k : Int) < 4 := by omega
    have HI := Lib.hid (imported_at (m := m) h4)
    clear h4
    have HX0 := Lib.hid (heap_alloc_new w (.cells #[v1, .slice A2 n2 c2, v3, v4, v5, v6, v7, .bool hs, .int .u32 st, v8, v9, v10] 33))
    have HB0 : Hid (Below w.heap.size w (w.alloc (.cells #[v1, .slice A2 n2 c2, v3, v4, v5, v6, v7, .bool hs, .int .u32 st, v8, v9, v10] 33))) := Lib.hid ((Below.refl _ _).alloc (Nat.le_refl _) _)
    go_enter Try.func23, Try.ntmps23
    go_upto_region 3 with fail
    generalize w.alloc (.cells #[v1, .slice A2 n2 c2, v3, v4, v5, v6, v7, .bool hs, .int .u32 st, v8, v9, v10] 33) = w0 at HX0 HB0 ⊢
    obtain ⟨X, hX⟩ : ∃ X, w.heap.size = X := ⟨_, rfl⟩
    have y2 : w0.cell? ⟨X, 1, none⟩ = some (.slice A2 n2 c2) := by rw [← hX, cell_of_row w0 _ 1 _ _ (0, 0) HX0.out]; rfl
    rw [hX]
    clear hX
    go_loop [5, 6] (fun a i => ∃ j : Nat, j ≤ n2 ∧ i = .int .i64 (j : Int) ∧ a = .int .i64 (((m.imports.take j).filter fun x => x.kind.toNat == k).length : Int)) (fun _ i => n2 - (intOf i).toNat)
    case atStart => exact ⟨0, Nat.zero_le _, rfl, rfl⟩
    case round =>
      obtain ⟨j, hj, rfl, rfl⟩ := hrel
      have hle := take_le (fun x : Imp => x.kind.toNat == k) m.imports j
      by_cases hlt : j < n2
      · have hlti : (j : Int) < (n2 : Int) := by omega
        obtain ⟨x, hx⟩ : ∃ x, m.imports[j]? = some x := ⟨_, List.getElem?_eq_getElem (by rw [HN2.out]; exact hlt)⟩
        obtain ⟨g, o, rfl, hg, _, _, _, hc⟩ := imp_at HL2.out hx
        have k2 : w0.cell? ⟨g, o + j * 8 + 2, none⟩ = some (.int .u8 (x.kind.toNat : Int)) := (HB0.out.cell (p := ⟨g, o + j * 8 + 2, none⟩) hg).trans (hc 2 _ rfl)
        have hxk := x.kind.toNat_lt
        by_cases hq : x.kind.toNat = k
        · have HS := Lib.hid (take_yes (p := fun x : Imp => x.kind.toNat == k) hx (by simp [hq]))
          obtain ⟨q, hqq⟩ : ∃ q, ((m.imports.take j).filter fun x => x.kind.toNat == k).length = q := ⟨_, rfl⟩
          have HQ := Lib.hid hqq
          simp only [hqq] at hle ⊢
          have hqe : ((x.kind.toNat : Int) == (k : Int)) = true := by simp [hq]
          clear hqq hc hx hq
          go_wp2
          go_round
          case rel => exact ⟨j + 1, by omega, by go_num, by rw [HS.out, List.length_append, HQ.out]; go_num⟩
          case measure => simp [intOf]; omega
        · have HS := Lib.hid (take_no (p := fun x : Imp => x.kind.toNat == k) hx (by simp [hq]))
          obtain ⟨q, hqq⟩ : ∃ q, ((m.imports.take j).filter fun x => x.kind.toNat == k).length = q := ⟨_, rfl⟩
          have HQ := Lib.hid hqq
          simp only [hqq] at hle ⊢
          have hqe : ((x.kind.toNat : Int) == (k : Int)) = false := by rw [beq_eq_false_iff_ne]; omega
          clear hqq hc hx hq
          go_wp2
          go_round
          case rel => exact ⟨j + 1, by omega, by go_num, by rw [HS.out, HQ.out]⟩
          case measure => simp [intOf]; omega
      · have hlti : decide ((j : Int) < (n2 : Int)) = false := decide_eq_false (by omega)
        have HA := Lib.hid (take_all (p := fun x : Imp => x.kind.toNat == k) (xs := m.imports) (k := j) (by rw [HN2.out]; omega))
        go_wp2
        go_ret
        refine ⟨?_, HB0.out⟩
        rw [HI.out, HA.out]; rfl
  · have h4i : decide ((k : Int) < 4) = false := decide_eq_false (by omega)
    have HI := Lib.hid (imported_no (m := m) h4)
    clear h4
    have HX0 := Lib.hid (heap_alloc_new w (.cells #[v1, .slice A2 n2 c2, v3, v4, v5, v6, v7, .bool hs, .int .u32 st, v8, v9, v10] 33))
    have HB0 : Hid (Below w.heap.size w (w.alloc (.cells #[v1, .slice A2 n2 c2, v3, v4, v5, v6, v7, .bool hs, .int .u32 st, v8, v9, v10] 33))) := Lib.hid ((Below.refl _ _).alloc (Nat.le_refl _) _)
    go_enter Try.func23, Try.ntmps23
    go_upto_region 3 with fail
    generalize w.alloc (.cells #[v1, .slice A2 n2 c2, v3, v4, v5, v6, v7, .bool hs, .int .u32 st, v8, v9, v10] 33) = w0 at HX0 HB0 ⊢
    obtain ⟨X, hX⟩ : ∃ X, w.heap.size = X := ⟨_, rfl⟩
    have y2 : w0.cell? ⟨X, 1, none⟩ = some (.slice A2 n2 c2) := by rw [← hX, cell_of_row w0 _ 1 _ _ (0, 0) HX0.out]; rfl
    rw [hX]
    clear hX
    go_loop [5, 6] (fun a i => i = .int .i64 0 ∧ a = .int .i64 0) (fun _ i => 0)
    case atStart => exact ⟨rfl, rfl⟩
    case round =>
      obtain ⟨rfl, rfl⟩ := hrel
      by_cases hlt : 0 < n2
      · have hlti : (0 : Int) < (n2 : Int) := by omega
        go_wp2
        go_ret
        exact ⟨by rw [HI.out]; rfl, HB0.out⟩
      · have hlti : decide ((0 : Int) < (n2 : Int)) = false := decide_eq_false (by omega)
        go_wp2
        go_ret
        exact ⟨by rw [HI.out]; rfl, HB0.out⟩
set_option maxRecDepth 100000 in
set_option maxHeartbeats 4000000 in
theorem rown_any (m : M) (k : Nat) (v1 v2 v3 v4 v5 v6 v7 v8 v9 v10 : Value) (w : World) (hM : RepM w (· < w.heap.size) m v1 v2 v3 v4 v5 v6 v7 v8 v9 v10) (hk0 : k < 256) :
    Calls Try.prog 42 #[.agg (modCells m v1 v2 v3 v4 v5 v6 v7 v8 v9 v10), .int .u8 (k : Int)] w fun e w' => e = .returned (.int .i64 (mine m k : Int)) ∧ Below w.heap.size w w' := by
  obtain ⟨A3, c3, rfl, _, _, _, hL3⟩ := hM.funcs
  have HL3 := Lib.hid hL3
  obtain ⟨A4, c4, rfl, _, _, _, hL4⟩ := hM.tables
  have HL4 := Lib.hid hL4
  obtain ⟨A5, c5, rfl, _, _, _, hL5⟩ := hM.mems
  have HL5 := Lib.hid hL5
  obtain ⟨A6, c6, rfl, _, _, _, hL6⟩ := hM.globals
  have HL6 := Lib.hid hL6
  clear hM hL3 hL4 hL5 hL6
  generalize hcs : modCells m v1 v2 (.slice A3 m.funcs.length c3) (.slice A4 m.tables.length c4) (.slice A5 m.mems.length c5) (.slice A6 m.globals.length c6) v7 v8 v9 v10 = cs
  unfold modCells at hcs
  obtain ⟨n3, hn3⟩ : ∃ n, m.funcs.length = n := ⟨_, rfl⟩
  have HN3 := Lib.hid hn3
  rw [hn3] at hcs
  obtain ⟨n4, hn4⟩ : ∃ n, m.tables.length = n := ⟨_, rfl⟩
  have HN4 := Lib.hid hn4
  rw [hn4] at hcs
  obtain ⟨n5, hn5⟩ : ∃ n, m.mems.length = n := ⟨_, rfl⟩
  have HN5 := Lib.hid hn5
  rw [hn5] at hcs
  obtain ⟨n6, hn6⟩ : ∃ n, m.globals.length = n := ⟨_, rfl⟩
  have HN6 := Lib.hid hn6
  rw [hn6] at hcs
  generalize m.hasStart = hs at hcs
  generalize (m.start : Int) = st at hcs
  subst hcs
  have HO : Hid (mine m k = if k = 0 then n3 else if k = 1 then n4 else if k = 2 then n5 else if k = 3 then n6 else 0) := Lib.hid (by unfold mine; rw [hn3, hn4, hn5, hn6])
  clear hn3 hn4 hn5 hn6
  have HX0 := Lib.hid (heap_alloc_new w (.cells #[v1, v2, .slice A3 n3 c3, .slice A4 n4 c4, .slice A5 n5 c5, .slice A6 n6 c6, v7, .bool hs, .int .u32 st, v8, v9, v10] 33))
  have HB0 : Hid (Below w.heap.size w (w.alloc (.cells #[v1, v2, .slice A3 n3 c3, .slice A4 n4 c4, .slice A5 n5 c5, .slice A6 n6 c6, v7, .bool hs, .int .u32 st, v8, v9, v10] 33))) := Lib.hid ((Below.refl _ _).alloc (Nat.le_refl _) _)
  go_enter Try.func42, Try.ntmps42
  go_upto_region 1 with fail
  generalize w.alloc (.cells #[v1, v2, .slice A3 n3 c3, .slice A4 n4 c4, .slice A5 n5 c5, .slice A6 n6 c6, v7, .bool hs, .int .u32 st, v8, v9, v10] 33) = w0 at HX0 HB0 ⊢
  obtain ⟨X, hX⟩ : ∃ X, w.heap.size = X := ⟨_, rfl⟩
  have y3 : w0.cell? ⟨X, 2, none⟩ = some (.slice A3 n3 c3) := by rw [← hX, cell_of_row w0 _ 2 _ _ (0, 0) HX0.out]; rfl
  have y4 : w0.cell? ⟨X, 3, none⟩ = some (.slice A4 n4 c4) := by rw [← hX, cell_of_row w0 _ 3 _ _ (0, 0) HX0.out]; rfl
  have y5 : w0.cell? ⟨X, 4, none⟩ = some (.slice A5 n5 c5) := by rw [← hX, cell_of_row w0 _ 4 _ _ (0, 0) HX0.out]; rfl
  have y6 : w0.cell? ⟨X, 5, none⟩ = some (.slice A6 n6 c6) := by rw [← hX, cell_of_row w0 _ 5 _ _ (0, 0) HX0.out]; rfl
  rw [hX]
  clear hX
  rcases (by omega : k = 0 ∨ k = 1 ∨ k = 2 ∨ k = 3 ∨ 4 ≤ k) with rfl | rfl | rfl | rfl | h4
  · go_wp2
    go_ret
    exact ⟨by rw [HO.out]; rfl, HB0.out⟩
  · go_wp2
    go_ret
    exact ⟨by rw [HO.out]; rfl, HB0.out⟩
  · go_wp2
    go_ret
    exact ⟨by rw [HO.out]; rfl, HB0.out⟩
  · go_wp2
    go_ret
    exact ⟨by rw [HO.out]; rfl, HB0.out⟩
  · have q0 : ((k : Int) == 0) = false := by rw [beq_eq_false_iff_ne]; omega
    have q1 : ((k : Int) == 1) = false := by rw [beq_eq_false_iff_ne]; omega
    have q2 : ((k : Int) == 2) = false := by rw [beq_eq_false_iff_ne]; omega
    have q3 : ((k : Int) == 3) = false := by rw [beq_eq_false_iff_ne]; omega
    have HK := Lib.hid h4
    clear h4
    go_wp2
    go_ret
    exact ⟨by rw [HO.out, if_neg (by have := HK.out; omega), if_neg (by have := HK.out; omega), if_neg (by have := HK.out; omega), if_neg (by have := HK.out; omega)]; rfl, HB0.out⟩
/-- A module's twelve cells in a block. -/
structure Cells12 (W : World) (X : Nat) (v1 v2 v3 v4 v5 v6 v7 : Value) (hs : Bool) (st : Int) (v8 v9 v10 : Value) : Prop where
  b0 : W.cell? ⟨X, 0, none⟩ = some v1
  b1 : W.cell? ⟨X, 1, none⟩ = some v2
  b2 : W.cell? ⟨X, 2, none⟩ = some v3
  b3 : W.cell? ⟨X, 3, none⟩ = some v4
  b4 : W.cell? ⟨X, 4, none⟩ = some v5
  b5 : W.cell? ⟨X, 5, none⟩ = some v6
  b6 : W.cell? ⟨X, 6, none⟩ = some v7
  b7 : W.cell? ⟨X, 7, none⟩ = some (.bool hs)
  b8 : W.cell? ⟨X, 8, none⟩ = some (.int .u32 st)
  b9 : W.cell? ⟨X, 9, none⟩ = some v8
  b10 : W.cell? ⟨X, 10, none⟩ = some v9
  b11 : W.cell? ⟨X, 11, none⟩ = some v10
theorem cells12 {w W : World} {X : Nat} {v1 v2 v3 v4 v5 v6 v7 : Value} {hs : Bool} {st : Int} {v8 v9 v10 : Value} {t : TypeId} (h0 : w.heap[X]? = some (.cells #[v1, v2, v3, v4, v5, v6, v7, .bool hs, .int .u32 st, v8, v9, v10] t (0, 0))) (hb : Below w.heap.size w W) : Cells12 W X v1 v2 v3 v4 v5 v6 v7 hs st v8 v9 v10 := by
  have h := (hb.block X (Array.getElem?_eq_some_iff.1 h0).1).trans h0
  exact ⟨by rw [cell_of_row W _ 0 _ _ (0, 0) h]; rfl, by rw [cell_of_row W _ 1 _ _ (0, 0) h]; rfl, by rw [cell_of_row W _ 2 _ _ (0, 0) h]; rfl, by rw [cell_of_row W _ 3 _ _ (0, 0) h]; rfl, by rw [cell_of_row W _ 4 _ _ (0, 0) h]; rfl, by rw [cell_of_row W _ 5 _ _ (0, 0) h]; rfl, by rw [cell_of_row W _ 6 _ _ (0, 0) h]; rfl, by rw [cell_of_row W _ 7 _ _ (0, 0) h]; rfl, by rw [cell_of_row W _ 8 _ _ (0, 0) h]; rfl, by rw [cell_of_row W _ 9 _ _ (0, 0) h]; rfl, by rw [cell_of_row W _ 10 _ _ (0, 0) h]; rfl, by rw [cell_of_row W _ 11 _ _ (0, 0) h]; rfl⟩
theorem RepM.grow {w w' : World} {m : M} {v1 v2 v3 v4 v5 v6 v7 v8 v9 v10 : Value} (h : RepM w (· < w.heap.size) m v1 v2 v3 v4 v5 v6 v7 v8 v9 v10) (hb : Below w.heap.size w w') : RepM w' (· < w'.heap.size) m v1 v2 v3 v4 v5 v6 v7 v8 v9 v10 :=
  let f {α : Type} [Lay α] {xs : List α} {v : Value} (h : SliceV w (· < w.heap.size) xs v) : SliceV w' (· < w'.heap.size) xs v := (h.mod (T := fun _ => False) (Mod.of_below hb) (fun _ _ _ h => h)).more (fun _ _ hk => Nat.lt_of_lt_of_le hk hb.size)
  ⟨f h.types, f h.imports, f h.funcs, f h.tables, f h.mems, f h.globals, f h.exports, h.start, f h.elems, f h.codes, f h.datas⟩
set_option maxRecDepth 100000 in
set_option maxHeartbeats 4000000 in
theorem rcount_any (m : M) (v1 v2 v3 v4 v5 v6 v7 v8 v9 v10 : Value) (w : World) (hM : RepM w (· < w.heap.size) m v1 v2 v3 v4 v5 v6 v7 v8 v9 v10) (hF : Few m) (k : Nat) (hk : k < 256) :
    Calls Try.prog 21 #[.agg (modCells m v1 v2 v3 v4 v5 v6 v7 v8 v9 v10), .int .u8 (k : Int)] w fun e w' => e = .returned (.int .i64 (count m k : Int)) ∧ Below w.heap.size w w' := by
  have hi3 : imported m k ≤ 4000 := Nat.le_trans (imported_le m k) hF.imports
  have ho3 : mine m k ≤ 4000 := by
    unfold mine
    have := hF.funcs
    have := hF.tables
    have := hF.mems
    have := hF.globals
    (repeat' split) <;> omega
  generalize hcs : modCells m v1 v2 v3 v4 v5 v6 v7 v8 v9 v10 = cs
  have HI : Hid (∀ W, Below w.heap.size w W → Calls Try.prog 23 #[.agg cs, .int .u8 (k : Int)] W fun e w' => e = .returned (.int .i64 (imported m k : Int)) ∧ Below W.heap.size W w') := Lib.hid (fun W hb => by
    subst hcs
    exact rimported_any m v1 v2 v3 v4 v5 v6 v7 v8 v9 v10 W (hM.grow hb) hF.imports k hk)
  have HO : Hid (∀ W, Below w.heap.size w W → Calls Try.prog 42 #[.agg cs, .int .u8 (k : Int)] W fun e w' => e = .returned (.int .i64 (mine m k : Int)) ∧ Below W.heap.size W w') := Lib.hid (fun W hb => by
    subst hcs
    exact rown_any m k v1 v2 v3 v4 v5 v6 v7 v8 v9 v10 W (hM.grow hb) hk)
  unfold modCells at hcs
  generalize m.hasStart = hs at hcs
  generalize (m.start : Int) = st at hcs
  subst hcs
  have HCNT : Hid (count m k = imported m k + mine m k) := Lib.hid rfl
  generalize imported m k = ni at HI HCNT hi3
  generalize mine m k = no at HO HCNT ho3
  clear hM hF
  have hsum : IntKind.i64.wrap ((ni : Int) + (no : Int)) = (ni : Int) + (no : Int) := IntWalk.i64_in _ (by omega)
  have HX0 := Lib.hid (heap_alloc_new w (.cells #[v1, v2, v3, v4, v5, v6, v7, .bool hs, .int .u32 st, v8, v9, v10] 33))
  have HB0 : Hid (Below w.heap.size w (w.alloc (.cells #[v1, v2, v3, v4, v5, v6, v7, .bool hs, .int .u32 st, v8, v9, v10] 33))) := Lib.hid ((Below.refl _ _).alloc (Nat.le_refl _) _)
  go_enter Try.func21, Try.ntmps21
  go_upto_region 1 with fail
  generalize w.alloc (.cells #[v1, v2, v3, v4, v5, v6, v7, .bool hs, .int .u32 st, v8, v9, v10] 33) = w0 at HX0 HB0 ⊢
  obtain ⟨X, hX⟩ : ∃ X, w.heap.size = X := ⟨_, rfl⟩
  rw [hX] at HX0
  rw [hX]
  have HC := Lib.hid (fun W (hb : Below w0.heap.size w0 W) => cells12 HX0.out hb)
  clear HX0 hX
  refine wp_region_held_drew (S := fun W' => Cells12 W' X v1 v2 v3 v4 v5 v6 v7 hs st v8 v9 v10) (by kernel_rfl) (HC.out w0.drew (Below.drew (Below.refl _ _))) (fun hHeld => ?_)
  refine drawn_take 0 rfl (by kernel_rfl) (by kernel_rfl) (by kernel_rfl) (fun _ _ _ h => h) (by rfl) (by assumption) (v := ?_) ?_ ?_
  rotate_left
  · (intro wy hSw; obtain ⟨a0, a1, a2, a3, a4, a5, a6, a7, a8, a9, a10, a11⟩ := hSw; go_simp; try with_reducible rfl)
  simp only [Act.put, List.setIfInBounds_toArray, List.set_cons_zero, List.set_cons_succ]
  refine drawn_take 1 rfl (by kernel_rfl) (by kernel_rfl) (by kernel_rfl) (fun _ _ _ h => h) (by rfl) (by assumption) (v := ?_) ?_ ?_
  rotate_left
  · (intro wy hSw; obtain ⟨a0, a1, a2, a3, a4, a5, a6, a7, a8, a9, a10, a11⟩ := hSw; go_simp; try with_reducible rfl)
  simp only [Act.put, List.setIfInBounds_toArray, List.set_cons_zero, List.set_cons_succ]
  refine drawn_take 3 rfl (by kernel_rfl) (by kernel_rfl) (by kernel_rfl) (fun _ _ _ h => h) (by rfl) (by assumption) (v := ?_) ?_ ?_
  rotate_left
  · (intro wy hSw; obtain ⟨a0, a1, a2, a3, a4, a5, a6, a7, a8, a9, a10, a11⟩ := hSw; go_simp; try with_reducible rfl)
  simp only [Act.put, List.setIfInBounds_toArray, List.set_cons_zero, List.set_cons_succ]
  refine drawn_take 4 rfl (by kernel_rfl) (by kernel_rfl) (by kernel_rfl) (fun _ _ _ h => h) (by rfl) (by assumption) (v := ?_) ?_ ?_
  rotate_left
  · (intro wy hSw; obtain ⟨a0, a1, a2, a3, a4, a5, a6, a7, a8, a9, a10, a11⟩ := hSw; go_simp; try with_reducible rfl)
  simp only [Act.put, List.setIfInBounds_toArray, List.set_cons_zero, List.set_cons_succ]
  refine drawn_sole 2 rfl (by kernel_rfl) (fun K hK => ?_)
  go_simp
  refine (HI.out _ (HB0.out.drew)).mono ?_
  rintro e w1 ⟨rfl, hb1⟩
  have HB1 : Hid (Below w0.heap.size w0 w1) := Lib.hid ((Below.drew (Below.refl _ _)).trans hb1)
  clear hb1
  go_wp2_with fail
  refine hK.out _ _ (HC.out w1 ?_) (fun hHeld2 => ?_)
  · exact HB1.out
  clear hK K hHeld
  have hHeld := hHeld2
  clear hHeld2
  refine drawn_sole 5 rfl (by kernel_rfl) (fun K hK => ?_)
  go_simp
  refine (HO.out _ (HB0.out.trans (HB1.out.mono HB0.out.size))).mono ?_
  rintro e w2 ⟨rfl, hb2⟩
  have HB2 := Lib.hid (HB1.out.trans (hb2.mono HB1.out.size))
  clear hb2
  go_wp2_with fail
  refine hK.out _ _ (HC.out w2 HB2.out) (fun hHeld2 => ?_)
  clear hK K hHeld
  have hHeld := hHeld2
  clear hHeld2
  refine drawn_take 6 rfl (by kernel_rfl) (by kernel_rfl) (by kernel_rfl) (fun _ _ _ h => h) (by rfl) (by assumption) (v := ?_) ?_ ?_
  rotate_left
  · (intro wy hSw; obtain ⟨a0, a1, a2, a3, a4, a5, a6, a7, a8, a9, a10, a11⟩ := hSw; go_simp; try with_reducible rfl)
  simp only [Act.put, List.setIfInBounds_toArray, List.set_cons_zero, List.set_cons_succ]
  refine drawn_take 7 rfl (by kernel_rfl) (by kernel_rfl) (by kernel_rfl) (fun _ _ _ h => h) (by rfl) (by assumption) (v := ?_) ?_ ?_
  rotate_left
  · (intro wy hSw; obtain ⟨a0, a1, a2, a3, a4, a5, a6, a7, a8, a9, a10, a11⟩ := hSw; go_simp; try with_reducible rfl)
  simp only [Act.put, List.setIfInBounds_toArray, List.set_cons_zero, List.set_cons_succ]
  refine wpAnyH_done (by kernel_rfl) ?_ _
  go_wp2_with fail
  go_ret
  exact ⟨by rw [HCNT.out]; rw [Int.natCast_add]; rfl, HB0.out.trans (HB2.out.mono HB0.out.size)⟩
def aggS : TypeDesc → Bool
  | .struct _ => true
  | .array _ _ => true
  | _ => false
theorem descOf {T : TypeId} (h : (Try.prog.underlying T).map aggS = some true) : ∃ d, Try.prog.underlying T = some d ∧ aggS d = true := by
  obtain ⟨d, h1, h2⟩ := Option.map_eq_some_iff.1 h
  exact ⟨d, h1, h2⟩
theorem res_cell {P : Program} {fn : Func} {p : Tmp} {ty : TypeId} (h : fn.results = #[.cell p ty]) (tmps : Array Value) (w : World) (g : Nat) (t : TypeId) (cs : Array Value) (fr : Nat × Nat) (d : TypeDesc)
    (hp : tmps.getD p undef = .pointer (some ⟨g, 0, none⟩)) (hg : w.heap[g]? = some (.cells cs t fr)) (hu : P.underlying ty = some d) (hd : aggS d = true) (hi : (P.info? ty).map (·.size) = some cs.size) :
    (results fn tmps).run P w = .ok (.agg cs) w := by
  have hp' : tmps[p]?.getD undef = .pointer (some ⟨g, 0, none⟩) := by simpa using hp
  simp [results, h, hp', asAddr, run_loadVar_row w g t ty cs fr d hg hu (by cases d <;> first | rfl | cases hd) hi]
theorem res_cell_tmp {P : Program} {fn : Func} {p q : Tmp} {ty : TypeId} (h : fn.results = #[.cell p ty, .tmp q]) (tmps : Array Value) (w : World) (g : Nat) (t : TypeId) (cs : Array Value) (fr : Nat × Nat) (d : TypeDesc)
    (hp : tmps.getD p undef = .pointer (some ⟨g, 0, none⟩)) (hg : w.heap[g]? = some (.cells cs t fr)) (hu : P.underlying ty = some d) (hd : aggS d = true) (hi : (P.info? ty).map (·.size) = some cs.size) (b : Value) (hb : tmps.getD q undef = b) :
    (results fn tmps).run P w = .ok (.tuple #[.agg cs, b]) w := by
  have hp' : tmps[p]?.getD undef = .pointer (some ⟨g, 0, none⟩) := by simpa using hp
  have hb' : tmps[q]?.getD undef = b := by simpa using hb
  simp [results, h, hp', hb', asAddr, run_loadVar_row w g t ty cs fr d hg hu (by cases d <;> first | rfl | cases hd) hi]
theorem des_simp : (Try.prog.underlying 63).map aggS = some true := by kernel_rfl
theorem siz_simp : (Try.prog.info? 63).map (·.size) = some 8 := by kernel_rfl
theorem des_slim : (Try.prog.underlying 51).map aggS = some true := by kernel_rfl
theorem siz_slim : (Try.prog.info? 51).map (·.size) = some 2 := by kernel_rfl
theorem des_sglob : (Try.prog.underlying 45).map aggS = some true := by kernel_rfl
theorem siz_sglob : (Try.prog.info? 45).map (·.size) = some 2 := by kernel_rfl
theorem des_sft : (Try.prog.underlying 40).map aggS = some true := by kernel_rfl
theorem siz_sft : (Try.prog.info? 40).map (·.size) = some 2 := by kernel_rfl
set_option maxRecDepth 100000 in
set_option maxHeartbeats 4000000 in
theorem rentry_any (m : M) (v1 v2 v3 v4 v5 v6 v7 v8 v9 v10 : Value) (w : World) (hM : RepM w (· < w.heap.size) m v1 v2 v3 v4 v5 v6 v7 v8 v9 v10) (hF : m.imports.length ≤ 4000) (k : Nat) (_hk : k < 256) (i : Nat) (hi : i < 4294967296) (x : Imp) (hx : (imps m k)[i]? = some x) :
    Calls Try.prog 38 #[.agg (modCells m v1 v2 v3 v4 v5 v6 v7 v8 v9 v10), .int .u8 (k : Int), .int .u32 (i : Int)] w fun e w' => e = .returned (.agg (impCells x).toArray) ∧ Below w.heap.size w w' := by
  obtain ⟨D, hu, hd⟩ := descOf des_simp
  have HU := Lib.hid hu
  have HD := Lib.hid hd
  clear hu hd
  have HXI := Lib.hid hx
  clear hx
  obtain ⟨A2, c2, rfl, _, _, _, hL2⟩ := hM.imports
  have HL2 := Lib.hid hL2
  clear hM hL2
  generalize hcs : modCells m v1 (.slice A2 m.imports.length c2) v3 v4 v5 v6 v7 v8 v9 v10 = cs
  unfold modCells at hcs
  obtain ⟨n2, hn2⟩ : ∃ n, m.imports.length = n := ⟨_, rfl⟩
  have HN2 := Lib.hid hn2
  rw [hn2] at hcs
  generalize m.hasStart = hs at hcs
  generalize (m.start : Int) = st at hcs
  subst hcs
  have hn2b : n2 ≤ 4000 := by rw [← hn2]; exact hF
  clear hn2 hF
  have HX0 : Hid (((w.alloc (.cells #[v1, .slice A2 n2 c2, v3, v4, v5, v6, v7, .bool hs, .int .u32 st, v8, v9, v10] 33)).alloc (.cells #[.string ⟨#[]⟩, .string ⟨#[]⟩, .int .u8 0, .int .u32 0, .int .u32 0, .int .i64 0, .int .u8 0, .bool false] 63)).heap[w.heap.size]? = some (.cells #[v1, .slice A2 n2 c2, v3, v4, v5, v6, v7, .bool hs, .int .u32 st, v8, v9, v10] 33 (0, 0))) := Lib.hid ((Below.heap_alloc _ _ _ (by simp)).trans (heap_alloc_new w _))
  have HZ0 : Hid (((w.alloc (.cells #[v1, .slice A2 n2 c2, v3, v4, v5, v6, v7, .bool hs, .int .u32 st, v8, v9, v10] 33)).alloc (.cells #[.string ⟨#[]⟩, .string ⟨#[]⟩, .int .u8 0, .int .u32 0, .int .u32 0, .int .i64 0, .int .u8 0, .bool false] 63)).heap[w.heap.size + 1]? = some (.cells #[.string ⟨#[]⟩, .string ⟨#[]⟩, .int .u8 0, .int .u32 0, .int .u32 0, .int .i64 0, .int .u8 0, .bool false] 63 (0, 0))) := Lib.hid (by have := heap_alloc_new (w.alloc (.cells #[v1, .slice A2 n2 c2, v3, v4, v5, v6, v7, .bool hs, .int .u32 st, v8, v9, v10] 33)) (.cells #[.string ⟨#[]⟩, .string ⟨#[]⟩, .int .u8 0, .int .u32 0, .int .u32 0, .int .i64 0, .int .u8 0, .bool false] 63); simpa using this)
  have HB0 : Hid (Below w.heap.size w ((w.alloc (.cells #[v1, .slice A2 n2 c2, v3, v4, v5, v6, v7, .bool hs, .int .u32 st, v8, v9, v10] 33)).alloc (.cells #[.string ⟨#[]⟩, .string ⟨#[]⟩, .int .u8 0, .int .u32 0, .int .u32 0, .int .i64 0, .int .u8 0, .bool false] 63))) := Lib.hid (((Below.refl _ _).alloc (Nat.le_refl _) _).alloc (by simp) _)
  go_enter Try.func38, Try.ntmps38
  go_upto_region 3 with fail
  generalize (w.alloc (.cells #[v1, .slice A2 n2 c2, v3, v4, v5, v6, v7, .bool hs, .int .u32 st, v8, v9, v10] 33)).alloc (.cells #[.string ⟨#[]⟩, .string ⟨#[]⟩, .int .u8 0, .int .u32 0, .int .u32 0, .int .i64 0, .int .u8 0, .bool false] 63) = w0 at HX0 HZ0 HB0 ⊢
  obtain ⟨X, hX⟩ : ∃ X, w.heap.size = X := ⟨_, rfl⟩
  obtain ⟨Y, hY⟩ : ∃ Y, w.heap.size + 1 = Y := ⟨_, rfl⟩
  have y2 : w0.cell? ⟨X, 1, none⟩ = some (.slice A2 n2 c2) := by rw [← hX, cell_of_row w0 _ 1 _ _ (0, 0) HX0.out]; rfl
  rw [hY] at HZ0
  have HY : Hid (w.heap.size ≤ Y) := Lib.hid (by omega)
  simp only [hY]
  simp only [hX]
  clear hX hY
  go_loop [7, 8] (fun a i' => ∃ j : Nat, j ≤ n2 ∧ i' = .int .i64 (j : Int) ∧ a = .int .u32 (((m.imports.take j).filter fun x => x.kind.toNat == k).length : Int) ∧ ((m.imports.take j).filter fun x => x.kind.toNat == k).length ≤ i) (fun _ i' => n2 - (intOf i').toNat)
  case atStart => exact ⟨0, Nat.zero_le _, rfl, rfl, by simp⟩
  case round =>
    obtain ⟨j, hj, rfl, rfl, hqi⟩ := hrel
    have hle := take_le (fun x : Imp => x.kind.toNat == k) m.imports j
    by_cases hlt : j < n2
    · have hlti : (j : Int) < (n2 : Int) := by omega
      obtain ⟨x', hx⟩ : ∃ x, m.imports[j]? = some x := ⟨_, List.getElem?_eq_getElem (by rw [HN2.out]; exact hlt)⟩
      obtain ⟨g, o, rfl, hg, _, _, _, hc⟩ := imp_at HL2.out hx
      have HCC := Lib.hid (fun (z : Nat) (u : Value) (h : (impCells x')[z]? = some u) => (HB0.out.cell (p := ⟨g, o + j * 8 + z, none⟩) hg).trans (hc z u h))
      have k2 : w0.cell? ⟨g, o + j * 8 + 2, none⟩ = some (.int .u8 (x'.kind.toNat : Int)) := HCC.out 2 _ rfl
      have hxk := x'.kind.toNat_lt
      by_cases hq : x'.kind.toNat = k
      · have HS := Lib.hid (take_yes (p := fun x : Imp => x.kind.toNat == k) hx (by simp [hq]))
        have hnew := take_new (p := fun x : Imp => x.kind.toNat == k) hx (by simp [hq])
        obtain ⟨q, hqq⟩ : ∃ q, ((m.imports.take j).filter fun x => x.kind.toNat == k).length = q := ⟨_, rfl⟩
        have HQ := Lib.hid hqq
        rw [hqq] at hnew
        have HNEW := Lib.hid hnew
        simp only [hqq] at hle hqi ⊢
        have hqe : ((x'.kind.toNat : Int) == (k : Int)) = true := by simp [hq]
        clear hqq hc hx hq hnew
        by_cases hqx : q = i
        · subst hqx
          have hqx2 : ((q : Int) == (q : Int)) = true := by simp
          have hxx : x' = x := by
            have h1 := HNEW.out
            have h2 := HXI.out
            unfold imps at h2
            rw [h1] at h2
            exact Option.some.inj h2
          subst hxx
          have k0 : w0.cell? ⟨g, o + j * 8, none⟩ = some (strV x'.mod) := HCC.out 0 _ rfl
          have k1 : w0.cell? ⟨g, o + j * 8 + 1, none⟩ = some (strV x'.name) := HCC.out 1 _ rfl
          have k3 : w0.cell? ⟨g, o + j * 8 + 3, none⟩ = some (.int .u32 (x'.type : Int)) := HCC.out 3 _ rfl
          have k4 : w0.cell? ⟨g, o + j * 8 + 4, none⟩ = some (.int .u32 (x'.lim.min : Int)) := HCC.out 4 _ rfl
          have k5 : w0.cell? ⟨g, o + j * 8 + 5, none⟩ = some (.int .i64 x'.lim.max) := HCC.out 5 _ rfl
          have k6 : w0.cell? ⟨g, o + j * 8 + 6, none⟩ = some (.int .u8 (x'.glob.t.toNat : Int)) := HCC.out 6 _ rfl
          have k7 : w0.cell? ⟨g, o + j * 8 + 7, none⟩ = some (.bool x'.glob.mu) := HCC.out 7 _ rfl
          unfold strV at k0 k1
          go_wp2_with (refine wpList_store_to rfl 63 (.tmp 6) (.tmp 31) rfl rfl Y (impCells x').toArray rfl rfl 63 #[.string ⟨#[]⟩, .string ⟨#[]⟩, .int .u8 0, .int .u32 0, .int .u32 0, .int .i64 0, .int .u8 0, .bool false] HZ0.out siz_simp rfl (by simp [impCells, strV, Value.oneCell']) ?_)
          refine bodyPost_ret (v := .agg (impCells x').toArray) (res_cell (p := 6) (ty := 63) (by kernel_rfl) _ _ Y 63 _ (0, 0) D rfl (setRow_heap _ _ #[.string ⟨#[]⟩, .string ⟨#[]⟩, .int .u8 0, .int .u32 0, .int .u32 0, .int .i64 0, .int .u8 0, .bool false] _ _ _ HZ0.out) HU.out HD.out siz_simp) rfl ?_
          exact ⟨rfl, below_setRow HB0.out HY.out _⟩
        · have hqx2 : ((q : Int) == (i : Int)) = false := by rw [beq_eq_false_iff_ne]; omega
          have hqx3 : q + 1 ≤ i := by omega
          have HQX := Lib.hid hqx3
          clear hqx hqx3
          go_wp2
          go_round
          case rel => exact ⟨j + 1, by omega, by go_num, by rw [HS.out, List.length_append, HQ.out]; go_num, by rw [HS.out, List.length_append, HQ.out]; exact HQX.out⟩
          case measure => simp [intOf]; omega
      · have HS := Lib.hid (take_no (p := fun x : Imp => x.kind.toNat == k) hx (by simp [hq]))
        obtain ⟨q, hqq⟩ : ∃ q, ((m.imports.take j).filter fun x => x.kind.toNat == k).length = q := ⟨_, rfl⟩
        have HQ := Lib.hid hqq
        simp only [hqq] at hle hqi ⊢
        have hqe : ((x'.kind.toNat : Int) == (k : Int)) = false := by rw [beq_eq_false_iff_ne]; omega
        clear hqq hc hx hq
        go_wp2
        go_round
        case rel => exact ⟨j + 1, by omega, by go_num, by rw [HS.out, HQ.out], by rw [HS.out, HQ.out]; exact hqi⟩
        case measure => simp [intOf]; omega
    · exfalso
      have h1 := take_all (p := fun x : Imp => x.kind.toNat == k) (xs := m.imports) (k := j) (by rw [HN2.out]; omega)
      rw [h1] at hqi
      have h2 := (List.getElem?_eq_some_iff.1 HXI.out).1
      unfold imps at h2
      omega
end Go.Proofs.Ytgnbkfkiigcdgaa
