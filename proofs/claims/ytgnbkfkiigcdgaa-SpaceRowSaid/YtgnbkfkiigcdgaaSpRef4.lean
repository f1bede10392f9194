/-
  The document's exports by name, whether two types are one, and how much is gone through. (gen/space/ref4.py)
-/
import Derived.Test.YtgnbkfkiigcdgaaSpRef3
namespace Go.Proofs.Ytgnbkfkiigcdgaa
open Go.RowKit Ins Bin Sp
def ExpPost (o : Option Exp) (w : World) (e : Ending) (w' : World) : Prop := e = .returned (.tuple #[.int .u32 (((o.map (·.index)).getD 0 : Nat) : Int), .bool o.isSome]) ∧ Below w.heap.size w w'
theorem exp_at {w : World} {S : Nat → Prop} {A : Option Addr} {xs : List Exp} {k : Nat} {x : Exp} (h : HasL w S A xs) (hx : xs[k]? = some x) : ∃ g o, A = some ⟨g, o, none⟩ ∧ g < w.heap.size ∧ w.cell? ⟨g, o + k * 3, none⟩ = some (.string ⟨x.name.toArray⟩) ∧ w.cell? ⟨g, o + k * 3 + 1, none⟩ = some (.int .u8 (x.kind.toNat : Int)) ∧ w.cell? ⟨g, o + k * 3 + 2, none⟩ = some (.int .u32 (x.index : Int)) ∧ x.index < 4294967296 := by
  obtain ⟨g, o, cs, h1, _, h3, ⟨rfl, h5⟩, h6⟩ := h k x hx
  exact ⟨g, o, h1, h3, h6 0 _ rfl, h6 1 _ rfl, h6 2 _ rfl, h5⟩
set_option maxRecDepth 100000 in
set_option maxHeartbeats 4000000 in
theorem rexp_any (m : M) (v1 v2 v3 v4 v5 v6 v7 v8 v9 v10 : Value) (w : World) (hM : RepM w (· < w.heap.size) m v1 v2 v3 v4 v5 v6 v7 v8 v9 v10) (hF : Few m) (nm : List UInt8) (kd : Nat) (_hk : kd < 256) :
    Calls Try.prog 19 #[.agg (modCells m v1 v2 v3 v4 v5 v6 v7 v8 v9 v10), .string ⟨nm.toArray⟩, .int .u8 (kd : Int)] w fun e w' => ExpPost (expo m nm kd) w e w' := by
  obtain ⟨A7, c7, rfl, _, _, _, hL7⟩ := hM.exports
  have HL7 := Lib.hid hL7
  clear hM hL7
  generalize hcs : modCells m v1 v2 v3 v4 v5 v6 (.slice A7 m.exports.length c7) v8 v9 v10 = cs
  unfold modCells at hcs
  obtain ⟨n7, hn7⟩ : ∃ n, m.exports.length = n := ⟨_, rfl⟩
  have HN7 := Lib.hid hn7
  rw [hn7] at hcs
  generalize m.hasStart = hs at hcs
  generalize (m.start : Int) = st at hcs
  subst hcs
  have b7 : n7 ≤ 4000 := by rw [← hn7]; exact hF.exports
  clear hn7 hF
  have HNM : ∀ (P : Exp → Bool) (hP : P = fun x => x.name == nm && x.kind.toNat == kd), True := fun _ _ => trivial
  clear HNM
  have HX0 := Lib.hid (heap_alloc_new w (.cells #[v1, v2, v3, v4, v5, v6, .slice A7 n7 c7, .bool hs, .int .u32 st, v8, v9, v10] 33))
  have HB0 : Hid (Below w.heap.size w (w.alloc (.cells #[v1, v2, v3, v4, v5, v6, .slice A7 n7 c7, .bool hs, .int .u32 st, v8, v9, v10] 33))) := Lib.hid ((Below.refl _ _).alloc (Nat.le_refl _) _)
  generalize hNB : (⟨nm.toArray⟩ : ByteArray) = NB
  have HNB := Lib.hid hNB
  clear hNB
  go_enter Try.func19, Try.ntmps19
  go_upto_region 2 with fail
  generalize w.alloc (.cells #[v1, v2, v3, v4, v5, v6, .slice A7 n7 c7, .bool hs, .int .u32 st, v8, v9, v10] 33) = w0 at HX0 HB0 ⊢
  obtain ⟨X, hX⟩ : ∃ X, w.heap.size = X := ⟨_, rfl⟩
  have y7 : w0.cell? ⟨X, 6, none⟩ = some (.slice A7 n7 c7) := by rw [← hX, cell_of_row w0 _ 6 _ _ (0, 0) HX0.out]; rfl
  rw [hX]
  clear hX
  go_loop [8] (fun i' => ∃ j : Nat, j ≤ n7 ∧ i' = .int .i64 (j : Int) ∧ Hid (NoneOf (fun x : Exp => x.name == nm && x.kind.toNat == kd) m.exports j)) (fun i' => n7 - (intOf i').toNat)
  case atStart => exact ⟨0, Nat.zero_le _, rfl, Lib.hid (noneOf_zero _ _)⟩
  case round =>
    obtain ⟨j, hj, rfl, HNO⟩ := hrel
    by_cases hlt : j < n7
    · have hlti : (j : Int) < (n7 : Int) := by omega
      obtain ⟨x, hx⟩ : ∃ x, m.exports[j]? = some x := ⟨_, List.getElem?_eq_getElem (by rw [HN7.out]; exact hlt)⟩
      obtain ⟨g, o, rfl, hg, hc0, hc1, hc2, hxi⟩ := exp_at HL7.out hx
      have z0 := (HB0.out.cell (p := ⟨g, o + j * 3, none⟩) hg).trans hc0
      have z1 := (HB0.out.cell (p := ⟨g, o + j * 3 + 1, none⟩) hg).trans hc1
      have z2 := (HB0.out.cell (p := ⟨g, o + j * 3 + 2, none⟩) hg).trans hc2
      have hxk := x.kind.toNat_lt
      generalize hXB : (⟨x.name.toArray⟩ : ByteArray) = XB at z0
      have HXB := Lib.hid hXB
      clear hc0 hc1 hc2 hXB
      have HXL : Hid (XB.toList = x.name) := Lib.hid (by rw [← HXB.out, ByteArray.toList_eq])
      have HNL : Hid (NB.toList = nm) := Lib.hid (by rw [← HNB.out, ByteArray.toList_eq])
      have HX := Lib.hid hx
      clear hx
      by_cases hn : x.name = nm
      · have he : XB.toList = NB.toList := by rw [HXL.out, HNL.out, hn]
        by_cases hq : x.kind.toNat = kd
        · have hqe : ((x.kind.toNat : Int) == (kd : Int)) = true := by simp [hq]
          have HF : Hid (expo m nm kd = some x) := Lib.hid (find_of HX.out (by simp [hn, hq]) HNO.out)
          clear hn hq
          go_wp2_with fail
          go_ret2
          exact ⟨by rw [HF.out]; rfl, HB0.out⟩
        · have hqe : ((x.kind.toNat : Int) == (kd : Int)) = false := by rw [beq_eq_false_iff_ne]; omega
          have HS := Lib.hid (noneOf_succ HX.out (p := fun x : Exp => x.name == nm && x.kind.toNat == kd) (by simp [hq]) HNO.out)
          clear hn hq
          go_wp2_with fail
          go_round
          case rel => exact ⟨j + 1, by omega, by go_num, HS⟩
          case measure => simp [intOf]; omega
      · have he : ¬ XB.toList = NB.toList := by rw [HXL.out, HNL.out]; exact hn
        have HS := Lib.hid (noneOf_succ HX.out (p := fun x : Exp => x.name == nm && x.kind.toNat == kd) (by simp [hn]) HNO.out)
        clear hn
        go_wp2_with fail
        go_round
        case rel => exact ⟨j + 1, by omega, by go_num, HS⟩
        case measure => simp [intOf]; omega
    · have hlti : decide ((j : Int) < (n7 : Int)) = false := decide_eq_false (by omega)
      have HF : Hid (expo m nm kd = none) := Lib.hid (find_no (by rw [HN7.out]; omega) HNO.out)
      go_wp2_with fail
      go_ret2
      exact ⟨by rw [HF.out]; rfl, HB0.out⟩
set_option maxRecDepth 100000 in
set_option maxHeartbeats 4000000 in
/-- Whether two types are one. -/
theorem rsame_any (x y : FT) (u1 u2 v1 v2 : Value) (w : World) (hu1 : SliceV w (· < w.heap.size) x.params u1) (hu2 : SliceV w (· < w.heap.size) x.results u2) (hv1 : SliceV w (· < w.heap.size) y.params v1) (hv2 : SliceV w (· < w.heap.size) y.results v2) :
    Calls Try.prog 13 #[.agg #[u1, u2], .agg #[v1, v2]] w fun e w' => e = .returned (.bool (decide (x = y))) ∧ Below w.heap.size w w' := by
  obtain ⟨A1, c1, rfl, _, _, _, h1⟩ := hu1
  obtain ⟨A2, c2, rfl, _, _, _, h2⟩ := hu2
  obtain ⟨A3, c3, rfl, _, _, _, h3⟩ := hv1
  obtain ⟨A4, c4, rfl, _, _, _, h4⟩ := hv2
  have H1 := Lib.hid h1
  have H2 := Lib.hid h2
  have H3 := Lib.hid h3
  have H4 := Lib.hid h4
  clear h1 h2 h3 h4
  have HXY : Hid ((x = y) = (x.params = y.params ∧ x.results = y.results)) := Lib.hid (by
    cases x; cases y; simp)
  obtain ⟨n1, hn1⟩ : ∃ n, x.params.length = n := ⟨_, rfl⟩
  obtain ⟨n2, hn2⟩ : ∃ n, x.results.length = n := ⟨_, rfl⟩
  obtain ⟨n3, hn3⟩ : ∃ n, y.params.length = n := ⟨_, rfl⟩
  obtain ⟨n4, hn4⟩ : ∃ n, y.results.length = n := ⟨_, rfl⟩
  rw [hn1, hn2, hn3, hn4]
  have HN1 := Lib.hid hn1
  have HN2 := Lib.hid hn2
  have HN3 := Lib.hid hn3
  have HN4 := Lib.hid hn4
  clear hn1 hn2 hn3 hn4
  have HX0 : Hid (((w.alloc (.cells #[.slice A1 n1 c1, .slice A2 n2 c2] 40)).alloc (.cells #[.slice A3 n3 c3, .slice A4 n4 c4] 40)).heap[w.heap.size]? = some (.cells #[.slice A1 n1 c1, .slice A2 n2 c2] 40 (0, 0))) := Lib.hid ((Below.heap_alloc _ _ _ (by simp)).trans (heap_alloc_new w _))
  have HX1 : Hid (((w.alloc (.cells #[.slice A1 n1 c1, .slice A2 n2 c2] 40)).alloc (.cells #[.slice A3 n3 c3, .slice A4 n4 c4] 40)).heap[w.heap.size + 1]? = some (.cells #[.slice A3 n3 c3, .slice A4 n4 c4] 40 (0, 0))) := Lib.hid (by have := heap_alloc_new (w.alloc (.cells #[.slice A1 n1 c1, .slice A2 n2 c2] 40)) (.cells #[.slice A3 n3 c3, .slice A4 n4 c4] 40); simpa using this)
  have HB0 : Hid (Below w.heap.size w ((w.alloc (.cells #[.slice A1 n1 c1, .slice A2 n2 c2] 40)).alloc (.cells #[.slice A3 n3 c3, .slice A4 n4 c4] 40))) := Lib.hid (((Below.refl _ _).alloc (Nat.le_refl _) _).alloc (by simp) _)
  go_enter Try.func13, Try.ntmps13
  go_upto_region 1 with fail
  generalize (w.alloc (.cells #[.slice A1 n1 c1, .slice A2 n2 c2] 40)).alloc (.cells #[.slice A3 n3 c3, .slice A4 n4 c4] 40) = w0 at HX0 HX1 HB0 ⊢
  have y0 : w0.cell? ⟨w.heap.size, 0, none⟩ = some (.slice A1 n1 c1) := by rw [cell_of_row w0 _ 0 _ _ (0, 0) HX0.out]; rfl
  have y1 : w0.cell? ⟨w.heap.size, 1, none⟩ = some (.slice A2 n2 c2) := by rw [cell_of_row w0 _ 1 _ _ (0, 0) HX0.out]; rfl
  have y2 : w0.cell? ⟨w.heap.size + 1, 0, none⟩ = some (.slice A3 n3 c3) := by rw [cell_of_row w0 _ 0 _ _ (0, 0) HX1.out]; rfl
  have y3 : w0.cell? ⟨w.heap.size + 1, 1, none⟩ = some (.slice A4 n4 c4) := by rw [cell_of_row w0 _ 1 _ _ (0, 0) HX1.out]; rfl
  have s1 := run_str (H1.out.has.on HB0.out) HN1.out.symm c1
  have s2 := run_str (H2.out.has.on HB0.out) HN2.out.symm c2
  have s3 := run_str (H3.out.has.on HB0.out) HN3.out.symm c3
  have s4 := run_str (H4.out.has.on HB0.out) HN4.out.symm c4
  have HE1 : Hid (((⟨x.params.toArray⟩ : ByteArray).toList = (⟨y.params.toArray⟩ : ByteArray).toList) = (x.params = y.params)) := Lib.hid (by rw [ByteArray.toList_eq, ByteArray.toList_eq])
  have HE2 : Hid (((⟨x.results.toArray⟩ : ByteArray).toList = (⟨y.results.toArray⟩ : ByteArray).toList) = (x.results = y.results)) := Lib.hid (by rw [ByteArray.toList_eq, ByteArray.toList_eq])
  generalize (⟨x.params.toArray⟩ : ByteArray) = B1 at s1 HE1
  generalize (⟨x.results.toArray⟩ : ByteArray) = B2 at s2 HE2
  generalize (⟨y.params.toArray⟩ : ByteArray) = B3 at s3 HE1
  generalize (⟨y.results.toArray⟩ : ByteArray) = B4 at s4 HE2
  by_cases q1 : B1.toList = B3.toList
  · by_cases q2 : B2.toList = B4.toList
    · have HR : Hid (decide (x = y) = true) := Lib.hid (decide_eq_true (by rw [HXY.out]; exact ⟨by rw [← HE1.out]; exact q1, by rw [← HE2.out]; exact q2⟩))
      go_wp2_with fail
      go_ret
      exact ⟨by rw [HR.out]; rfl, HB0.out⟩
    · have HR : Hid (decide (x = y) = false) := Lib.hid (decide_eq_false (by rw [HXY.out]; exact fun h => q2 (by rw [HE2.out]; exact h.2)))
      have hq2 : (B2.toList == B4.toList) = false := beq_eq_false_iff_ne.2 q2
      go_wp2_with fail
      go_ret
      exact ⟨by rw [HR.out]; rfl, HB0.out⟩
  · have HR : Hid (decide (x = y) = false) := Lib.hid (decide_eq_false (by rw [HXY.out]; exact fun h => q1 (by rw [HE1.out]; exact h.1)))
    go_wp2_with fail
    go_ret
    exact ⟨by rw [HR.out]; rfl, HB0.out⟩
set_option maxRecDepth 100000 in
set_option maxHeartbeats 4000000 in
theorem rgreat_any (m : M) (v1 v2 v3 v4 v5 v6 v7 v8 v9 v10 : Value) (w : World) (hM : RepM w (· < w.heap.size) m v1 v2 v3 v4 v5 v6 v7 v8 v9 v10) (hB : BigM m) :
    Calls Try.prog 7 #[.agg (modCells m v1 v2 v3 v4 v5 v6 v7 v8 v9 v10)] w fun e w' => ∃ g : Bool, e = .returned (.bool g) ∧ Below w.heap.size w w' ∧ (g = false → Few m ∧ m.imports.length ≤ 3000) := by
  have hB1 : ∀ x ∈ m.types, x.params.length ≤ 140737488355328 ∧ x.results.length ≤ 140737488355328 := fun x hx => hB.types.2 x hx
  have HB1 := Lib.hid hB1
  clear hB1
  obtain ⟨A1, c1, rfl, _, _, _, hL1⟩ := hM.types
  have HL1 := Lib.hid hL1
  obtain ⟨A2, c2, rfl, _, _, _, hL2⟩ := hM.imports
  have HL2 := Lib.hid hL2
  obtain ⟨A3, c3, rfl, _, _, _, hL3⟩ := hM.funcs
  have HL3 := Lib.hid hL3
  obtain ⟨A4, c4, rfl, _, _, _, hL4⟩ := hM.tables
  have HL4 := Lib.hid hL4
  obtain ⟨A5, c5, rfl, _, _, _, hL5⟩ := hM.mems
  have HL5 := Lib.hid hL5
  obtain ⟨A6, c6, rfl, _, _, _, hL6⟩ := hM.globals
  have HL6 := Lib.hid hL6
  obtain ⟨A7, c7, rfl, _, _, _, hL7⟩ := hM.exports
  have HL7 := Lib.hid hL7
  clear hM hL1 hL2 hL3 hL4 hL5 hL6 hL7
  generalize hcs : modCells m (.slice A1 m.types.length c1) (.slice A2 m.imports.length c2) (.slice A3 m.funcs.length c3) (.slice A4 m.tables.length c4) (.slice A5 m.mems.length c5) (.slice A6 m.globals.length c6) (.slice A7 m.exports.length c7) v8 v9 v10 = cs
  unfold modCells at hcs
  obtain ⟨n1, hn1⟩ : ∃ n, m.types.length = n := ⟨_, rfl⟩
  have HN1 := Lib.hid hn1
  rw [hn1] at hcs
  obtain ⟨n2, hn2⟩ : ∃ n, m.imports.length = n := ⟨_, rfl⟩
  have HN2 := Lib.hid hn2
  rw [hn2] at hcs
  obtain ⟨n3, hn3⟩ : ∃ n, m.funcs.length = n := ⟨_, rfl⟩
  have HN3 := Lib.hid hn3
  rw [hn3] at hcs
  obtain ⟨n4, hn4⟩ : ∃ n, m.tables.length = n := ⟨_, rfl⟩
  have HN4 := Lib.hid hn4
  rw [hn4] at hcs
  obtain ⟨n5, hn5⟩ : ∃ n, m.mems.length = n := ⟨_, rfl⟩
  have HN5 := Lib.hid hn5
  rw [hn5] at hcs
  obtain ⟨n6, hn6⟩ : ∃ n, m.globals.length = n := ⟨_, rfl⟩
  have HN6 := Lib.hid hn6
  rw [hn6] at hcs
  obtain ⟨n7, hn7⟩ : ∃ n, m.exports.length = n := ⟨_, rfl⟩
  have HN7 := Lib.hid hn7
  rw [hn7] at hcs
  generalize m.hasStart = hs at hcs
  generalize (m.start : Int) = st at hcs
  subst hcs
  have b1 : n1 ≤ 140737488355328 := by rw [← hn1]; exact hB.types.1
  have b2 : n2 ≤ 140737488355328 := by rw [← hn2]; exact hB.imports.1
  have b3 : n3 ≤ 140737488355328 := by rw [← hn3]; exact hB.funcs
  have b4 : n4 ≤ 140737488355328 := by rw [← hn4]; exact hB.tables
  have b5 : n5 ≤ 140737488355328 := by rw [← hn5]; exact hB.mems
  have b6 : n6 ≤ 140737488355328 := by rw [← hn6]; exact hB.globals.1
  have b7 : n7 ≤ 140737488355328 := by rw [← hn7]; exact hB.exports.1
  clear hB hn1 hn2 hn3 hn4 hn5 hn6 hn7
  have HFEW : Hid ((n2 + n3 + n4 + n5 + n6 + n7 ≤ 3000) → n1 ≤ 3000 → (∀ x ∈ m.types, x.params.length ≤ 3000 ∧ x.results.length ≤ 3000) → Few m ∧ m.imports.length ≤ 3000) := Lib.hid (fun h1 h2 h3 => ⟨⟨by have := HN2.out; omega, by have := HN3.out; omega, by have := HN4.out; omega, by have := HN5.out; omega, by have := HN6.out; omega, by have := HN7.out; omega, by have := HN1.out; omega, fun x hx => ⟨Nat.le_trans (h3 x hx).1 (by decide), Nat.le_trans (h3 x hx).2 (by decide)⟩⟩, by have := HN2.out; omega⟩)
  have HX0 := Lib.hid (heap_alloc_new w (.cells #[.slice A1 n1 c1, .slice A2 n2 c2, .slice A3 n3 c3, .slice A4 n4 c4, .slice A5 n5 c5, .slice A6 n6 c6, .slice A7 n7 c7, .bool hs, .int .u32 st, v8, v9, v10] 33))
  have HB0 : Hid (Below w.heap.size w (w.alloc (.cells #[.slice A1 n1 c1, .slice A2 n2 c2, .slice A3 n3 c3, .slice A4 n4 c4, .slice A5 n5 c5, .slice A6 n6 c6, .slice A7 n7 c7, .bool hs, .int .u32 st, v8, v9, v10] 33))) := Lib.hid ((Below.refl _ _).alloc (Nat.le_refl _) _)
  go_enter Try.func7, Try.ntmps7
  go_upto_region 1 with fail
  generalize w.alloc (.cells #[.slice A1 n1 c1, .slice A2 n2 c2, .slice A3 n3 c3, .slice A4 n4 c4, .slice A5 n5 c5, .slice A6 n6 c6, .slice A7 n7 c7, .bool hs, .int .u32 st, v8, v9, v10] 33) = w0 at HX0 HB0 ⊢
  obtain ⟨X, hX⟩ : ∃ X, w.heap.size = X := ⟨_, rfl⟩
  have y1 : w0.cell? ⟨X, 0, none⟩ = some (.slice A1 n1 c1) := by rw [← hX, cell_of_row w0 _ 0 _ _ (0, 0) HX0.out]; rfl
  have y2 : w0.cell? ⟨X, 1, none⟩ = some (.slice A2 n2 c2) := by rw [← hX, cell_of_row w0 _ 1 _ _ (0, 0) HX0.out]; rfl
  have y3 : w0.cell? ⟨X, 2, none⟩ = some (.slice A3 n3 c3) := by rw [← hX, cell_of_row w0 _ 2 _ _ (0, 0) HX0.out]; rfl
  have y4 : w0.cell? ⟨X, 3, none⟩ = some (.slice A4 n4 c4) := by rw [← hX, cell_of_row w0 _ 3 _ _ (0, 0) HX0.out]; rfl
  have y5 : w0.cell? ⟨X, 4, none⟩ = some (.slice A5 n5 c5) := by rw [← hX, cell_of_row w0 _ 4 _ _ (0, 0) HX0.out]; rfl
  have y6 : w0.cell? ⟨X, 5, none⟩ = some (.slice A6 n6 c6) := by rw [← hX, cell_of_row w0 _ 5 _ _ (0, 0) HX0.out]; rfl
  have y7 : w0.cell? ⟨X, 6, none⟩ = some (.slice A7 n7 c7) := by rw [← hX, cell_of_row w0 _ 6 _ _ (0, 0) HX0.out]; rfl
  have hxl : X < w0.heap.size := by rw [← hX]; exact (Array.getElem?_eq_some_iff.1 HX0.out).1
  have HXL := Lib.hid hxl
  have HY1 := Lib.hid y1
  rw [hX]
  clear hX hxl
  go_upto_region 3 with fail
  clear y1 y2 y3 y4 y5 y6 y7
  go_loopw [3, 4] (fun u i wr => ∃ j N : Nat, j ≤ n1 ∧ i = .int .i64 (j : Int) ∧ u = .int .i64 (N : Int) ∧ N ≤ 4503599627370496 ∧ Hid (N ≤ 3000 → n2 + n3 + n4 + n5 + n6 + n7 + j ≤ 3000 ∧ ∀ x ∈ m.types.take j, x.params.length ≤ 3000 ∧ x.results.length ≤ 3000) ∧ Hid (n2 + n3 + n4 + n5 + n6 + n7 + j ≤ N ∧ ∀ x ∈ m.types.take j, x.params.length + x.results.length ≤ N) ∧ Hid (Below w0.heap.size w0 wr)) (fun _ i _ => n1 - (intOf i).toNat)
  case atStart => exact ⟨0, n2 + n3 + n4 + n5 + n6 + n7, by omega, rfl, by go_num, by omega, Lib.hid (fun h => ⟨h, by simp⟩), Lib.hid ⟨by omega, by simp⟩, Lib.hid (Below.refl _ _)⟩
  case round =>
    obtain ⟨j, N, hj, rfl, rfl, hN, HS, HL, HB⟩ := hrel
    have y1 : wr.cell? ⟨X, 0, none⟩ = some (.slice A1 n1 c1) := (HB.out.cell (p := ⟨X, 0, none⟩) HXL.out).trans HY1.out
    by_cases q1 : j < n1
    · have q1i : (j : Int) < (n1 : Int) := by omega
      by_cases q2 : N ≤ 3000
      · have q2i : (N : Int) ≤ 3000 := by omega
        obtain ⟨x, hx⟩ : ∃ x, m.types[j]? = some x := ⟨_, List.getElem?_eq_getElem (by rw [HN1.out]; exact q1)⟩
        have hxm := List.mem_of_getElem? hx
        obtain ⟨g1, o1, D1, d1, D2, d2, rfl, hg1, hc0, hc1, _, _⟩ := ft_at HL1.out hx
        have hbw := HB0.out.trans (HB.out.mono HB0.out.size)
        have z1 := (hbw.cell (p := ⟨g1, o1 + j * 2, none⟩) hg1).trans hc0
        have z2 := (hbw.cell (p := ⟨g1, o1 + j * 2 + 1, none⟩) hg1).trans hc1
        obtain ⟨hp1, hp2⟩ := HB1.out x hxm
        have HTK : Hid (∀ y ∈ m.types.take (j + 1), y ∈ m.types.take j ∨ y = x) := Lib.hid (fun y hy => by
          rw [List.take_add_one, hx] at hy
          simpa using hy)
        obtain ⟨p1, hpq1⟩ : ∃ q, x.params.length = q := ⟨_, rfl⟩
        obtain ⟨p2, hpq2⟩ : ∃ q, x.results.length = q := ⟨_, rfl⟩
        rw [hpq1] at z1 hp1
        rw [hpq2] at z2 hp2
        have HP1 := Lib.hid hpq1
        have HP2 := Lib.hid hpq2
        clear hpq1 hpq2 hx hxm hc0 hc1 hbw hg1
        go_upto_region 5 with fail
        have w1 : IntKind.i64.wrap ((N : Int) + 1) = (N : Int) + 1 := IntWalk.i64_in _ ⟨by omega, by omega⟩
        have w2 : IntKind.i64.wrap ((N : Int) + 1 + (p1 : Int)) = (N : Int) + 1 + (p1 : Int) := IntWalk.i64_in _ ⟨by omega, by omega⟩
        have w3 : IntKind.i64.wrap ((N : Int) + 1 + (p1 : Int) + (p2 : Int)) = (N : Int) + 1 + (p1 : Int) + (p2 : Int) := IntWalk.i64_in _ ⟨by omega, by omega⟩
        go_quiet (fail)
        clear w1 w2 w3
        go_wp2_with fail
        go_roundw
        case rel =>
          exact ⟨j + 1, N + 1 + p1 + p2, by omega, by go_num, by go_num, by omega, Lib.hid (fun h => by
              obtain ⟨h1, h2⟩ := HS.out (by omega)
              obtain ⟨h3, h4⟩ := HL.out
              refine ⟨by omega, fun y hy => ?_⟩
              rcases HTK.out y hy with hy | rfl
              · exact h2 y hy
              · have := HP1.out; have := HP2.out; omega), Lib.hid (by
              obtain ⟨h3, h4⟩ := HL.out
              refine ⟨by omega, fun y hy => ?_⟩
              rcases HTK.out y hy with hy | rfl
              · have := h4 y hy; omega
              · have := HP1.out; have := HP2.out; omega), Lib.hid (Below.dn HB.out _)⟩
        case measure => simp [intOf]; omega
      · have q2i : decide ((N : Int) ≤ 3000) = false := decide_eq_false (by omega)
        have q2n : (3000 : Int) < (N : Int) := by omega
        go_wp2_with fail
        go_ret
        exact ⟨true, rfl, HB0.out.trans (HB.out.mono HB0.out.size), fun h => by cases h⟩
    · have q1i : decide ((j : Int) < (n1 : Int)) = false := decide_eq_false (by omega)
      by_cases q2 : N ≤ 3000
      · have q2i : decide ((3000 : Int) < (N : Int)) = false := decide_eq_false (by omega)
        have HF : Hid (Few m ∧ m.imports.length ≤ 3000) := Lib.hid (by
          obtain ⟨h1, h2⟩ := HS.out q2
          obtain ⟨h3, h4⟩ := HL.out
          exact HFEW.out (by omega) (by omega) (fun x hx => h2 x (by rw [List.take_of_length_le (by have := HN1.out; omega)]; exact hx)))
        go_wp2_with fail
        go_ret
        exact ⟨false, rfl, HB0.out.trans (HB.out.mono HB0.out.size), fun _ => HF.out⟩
      · have q2n : (3000 : Int) < (N : Int) := by omega
        go_wp2_with fail
        go_ret
        exact ⟨true, rfl, HB0.out.trans (HB.out.mono HB0.out.size), fun h => by cases h⟩
end Go.Proofs.Ytgnbkfkiigcdgaa
