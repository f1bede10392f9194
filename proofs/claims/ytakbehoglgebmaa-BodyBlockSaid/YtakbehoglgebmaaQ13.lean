/-
  The document's limits of tables and memories, and globals' types, by number. (gen/space/ref2.py)
-/
import Derived.Test.YtakbehoglgebmaaQ12
import Derived.Deep.CutRange
import Derived.Test.YtakbehoglgebmaaQ05
import Derived.Laws.EntriesVeiled
import Derived.Lib.SliceRun
namespace Go.Proofs.Ytakbehoglgebmaa
open Go.RowKit Ins Bin Sp
def limArr (x : Lim) : Array Value := #[.int .u32 (x.min : Int), .int .i64 x.max]
def globArr (x : Glob) : Array Value := #[.int .u8 (x.t.toNat : Int), .bool x.mu]
def LimPost (o : Option Lim) (w : World) (e : Ending) (w' : World) : Prop := e = .returned (.tuple #[.agg (limArr (o.getD ⟨0, 0⟩)), .bool o.isSome]) ∧ Below w.heap.size w w'
def GlobPost (o : Option Glob) (w : World) (e : Ending) (w' : World) : Prop := e = .returned (.tuple #[.agg (globArr (o.getD ⟨0, false⟩)), .bool o.isSome]) ∧ Below w.heap.size w w'
theorem lim_at {w : World} {S : Nat → Prop} {A : Option Addr} {xs : List Lim} {k : Nat} {x : Lim} (h : HasL w S A xs) (hx : xs[k]? = some x) : ∃ g o, A = some ⟨g, o, none⟩ ∧ g < w.heap.size ∧ w.cell? ⟨g, o + k * 2, none⟩ = some (.int .u32 (x.min : Int)) ∧ w.cell? ⟨g, o + k * 2 + 1, none⟩ = some (.int .i64 x.max) := by
  obtain ⟨g, o, cs, h1, _, h3, ⟨rfl, _⟩, h6⟩ := h k x hx
  exact ⟨g, o, h1, h3, h6 0 _ rfl, h6 1 _ rfl⟩
end Go.Proofs.Ytakbehoglgebmaa
/-
  The document's types of functions, by number. (gen/space/ref3.py)
-/
namespace Go.Proofs.Ytakbehoglgebmaa
open Go.RowKit Ins Bin Sp
def FuncPost (o : Option FT) (w : World) (e : Ending) (w' : World) : Prop := ∃ u v, e = .returned (.tuple #[.agg #[u, v], .bool o.isSome]) ∧ SliceV w' (· < w'.heap.size) (o.getD ⟨[], []⟩).params u ∧ SliceV w' (· < w'.heap.size) (o.getD ⟨[], []⟩).results v ∧ Below w.heap.size w w'
theorem ft_at {w : World} {S : Nat → Prop} {A : Option Addr} {xs : List FT} {k : Nat} {x : FT} (h : HasL w S A xs) (hx : xs[k]? = some x) : ∃ g o D1 d1 D2 d2, A = some ⟨g, o, none⟩ ∧ g < w.heap.size ∧ w.cell? ⟨g, o + k * 2, none⟩ = some (.slice D1 x.params.length d1) ∧ w.cell? ⟨g, o + k * 2 + 1, none⟩ = some (.slice D2 x.results.length d2) ∧ SliceV w S x.params (.slice D1 x.params.length d1) ∧ SliceV w S x.results (.slice D2 x.results.length d2) := by
  obtain ⟨g, o, cs, h1, _, h3, ⟨u, v, rfl, hu, hv⟩, h6⟩ := h k x hx
  have hu2 := hu
  have hv2 := hv
  obtain ⟨D1, d1, rfl, _⟩ := hu
  obtain ⟨D2, d2, rfl, _⟩ := hv
  exact ⟨g, o, D1, d1, D2, d2, h1, h3, h6 0 _ rfl, h6 1 _ rfl, hu2, hv2⟩
theorem nat_at {w : World} {S : Nat → Prop} {A : Option Addr} {xs : List Nat} {k : Nat} {x : Nat} (h : HasL w S A xs) (hx : xs[k]? = some x) : ∃ g o, A = some ⟨g, o, none⟩ ∧ g < w.heap.size ∧ w.cell? ⟨g, o + k, none⟩ = some (.int .u32 (x : Int)) ∧ x < 4294967296 := by
  obtain ⟨g, o, cs, h1, _, h3, ⟨rfl, hlt⟩, h6⟩ := h k x hx
  have e := h6 0 _ rfl
  rw [show Lay.size Nat = 1 from rfl, Nat.mul_one, Nat.add_zero] at e
  exact ⟨g, o, h1, h3, e, hlt⟩
end Go.Proofs.Ytakbehoglgebmaa
/-
  The document's exports by name, whether two types are one, and how much is gone through. (gen/space/ref4.py)
-/
namespace Go.Proofs.Ytakbehoglgebmaa
open Go.RowKit Ins Bin Sp
set_option maxRecDepth 100000 in
set_option maxHeartbeats 4000000 in
theorem rgreat_any (m : M) (v1 v2 v3 v4 v5 v6 v7 v8 v9 v10 : Value) (w : World) (hM : RepM w (· < w.heap.size) m v1 v2 v3 v4 v5 v6 v7 v8 v9 v10) (hB : BigM m) :
    Calls Try.prog 14 #[.agg (modCells m v1 v2 v3 v4 v5 v6 v7 v8 v9 v10)] w fun e w' => ∃ g : Bool, e = .returned (.bool g) ∧ Below w.heap.size w w' ∧ (g = false → Few m ∧ m.imports.length ≤ 3000) := by
  have hB1 : ∀ x ∈ m.types, x.params.length ≤ 140737488355328 ∧ x.results.length ≤ 140737488355328 := fun x hx => hB.types.2 x hx
  have HB1 := Lib.hid hB1
  clear hB1
  obtain ⟨A1, c1, rfl, _, _, _, hL1⟩ := hM.types
  have HL1 := Lib.hid hL1
  obtain ⟨A2, c2, rfl, _, _, _, hL2⟩ := hM.imports
  have HL2 := Lib.hid hL2
  obtain ⟨A3, c3, rfl, _, _, _, hL3⟩ := hM.funcs
  have HL3 := Lib.hid hL3
  obtain ⟨A4, c4, rfl, _, _, _, hL4⟩ := hM.tables
  have HL4 := Lib.hid hL4
  obtain ⟨A5, c5, rfl, _, _, _, hL5⟩ := hM.mems
  have HL5 := Lib.hid hL5
  obtain ⟨A6, c6, rfl, _, _, _, hL6⟩ := hM.globals
  have HL6 := Lib.hid hL6
  obtain ⟨A7, c7, rfl, _, _, _, hL7⟩ := hM.exports
  have HL7 := Lib.hid hL7
  clear hM hL1 hL2 hL3 hL4 hL5 hL6 hL7
  generalize hcs : modCells m (.slice A1 m.types.length c1) (.slice A2 m.imports.length c2) (.slice A3 m.funcs.length c3) (.slice A4 m.tables.length c4) (.slice A5 m.mems.length c5) (.slice A6 m.globals.length c6) (.slice A7 m.exports.length c7) v8 v9 v10 = cs
  unfold modCells at hcs
  obtain ⟨n1, hn1⟩ : ∃ n, m.types.length = n := ⟨_, rfl⟩
  have HN1 := Lib.hid hn1
  rw [hn1] at hcs
  obtain ⟨n2, hn2⟩ : ∃ n, m.imports.length = n := ⟨_, rfl⟩
  have HN2 := Lib.hid hn2
  rw [hn2] at hcs
  obtain ⟨n3, hn3⟩ : ∃ n, m.funcs.length = n := ⟨_, rfl⟩
  have HN3 := Lib.hid hn3
  rw [hn3] at hcs
  obtain ⟨n4, hn4⟩ : ∃ n, m.tables.length = n := ⟨_, rfl⟩
  have HN4 := Lib.hid hn4
  rw [hn4] at hcs
  obtain ⟨n5, hn5⟩ : ∃ n, m.mems.length = n := ⟨_, rfl⟩
  have HN5 := Lib.hid hn5
  rw [hn5] at hcs
  obtain ⟨n6, hn6⟩ : ∃ n, m.globals.length = n := ⟨_, rfl⟩
  have HN6 := Lib.hid hn6
  rw [hn6] at hcs
  obtain ⟨n7, hn7⟩ : ∃ n, m.exports.length = n := ⟨_, rfl⟩
  have HN7 := Lib.hid hn7
  rw [hn7] at hcs
  generalize m.hasStart = hs at hcs
  generalize (m.start : Int) = st at hcs
  subst hcs
  have b1 : n1 ≤ 140737488355328 := by rw [← hn1]; exact hB.types.1
  have b2 : n2 ≤ 140737488355328 := by rw [← hn2]; exact hB.imports.1
  have b3 : n3 ≤ 140737488355328 := by rw [← hn3]; exact hB.funcs
  have b4 : n4 ≤ 140737488355328 := by rw [← hn4]; exact hB.tables
  have b5 : n5 ≤ 140737488355328 := by rw [← hn5]; exact hB.mems
  have b6 : n6 ≤ 140737488355328 := by rw [← hn6]; exact hB.globals.1
  have b7 : n7 ≤ 140737488355328 := by rw [← hn7]; exact hB.exports.1
  clear hB hn1 hn2 hn3 hn4 hn5 hn6 hn7
  have HFEW : Hid ((n2 + n3 + n4 + n5 + n6 + n7 ≤ 3000) → n1 ≤ 3000 → (∀ x ∈ m.types, x.params.length ≤ 3000 ∧ x.results.length ≤ 3000) → Few m ∧ m.imports.length ≤ 3000) := Lib.hid (fun h1 h2 h3 => ⟨⟨by have := HN2.out; omega, by have := HN3.out; omega, by have := HN4.out; omega, by have := HN5.out; omega, by have := HN6.out; omega, by have := HN7.out; omega, by have := HN1.out; omega, fun x hx => ⟨Nat.le_trans (h3 x hx).1 (by decide), Nat.le_trans (h3 x hx).2 (by decide)⟩⟩, by have := HN2.out; omega⟩)
  have HX0 := Lib.hid (heap_alloc_new w (.cells #[.slice A1 n1 c1, .slice A2 n2 c2, .slice A3 n3 c3, .slice A4 n4 c4, .slice A5 n5 c5, .slice A6 n6 c6, .slice A7 n7 c7, .bool hs, .int .u32 st, v8, v9, v10] 33))
  have HB0 : Hid (Below w.heap.size w (w.alloc (.cells #[.slice A1 n1 c1, .slice A2 n2 c2, .slice A3 n3 c3, .slice A4 n4 c4, .slice A5 n5 c5, .slice A6 n6 c6, .slice A7 n7 c7, .bool hs, .int .u32 st, v8, v9, v10] 33))) := Lib.hid ((Below.refl _ _).alloc (Nat.le_refl _) _)
  go_enter Try.func14, Try.ntmps14
  go_upto_region 1 with fail
  generalize w.alloc (.cells #[.slice A1 n1 c1, .slice A2 n2 c2, .slice A3 n3 c3, .slice A4 n4 c4, .slice A5 n5 c5, .slice A6 n6 c6, .slice A7 n7 c7, .bool hs, .int .u32 st, v8, v9, v10] 33) = w0 at HX0 HB0 ⊢
  obtain ⟨X, hX⟩ : ∃ X, w.heap.size = X := ⟨_, rfl⟩
  have y1 : w0.cell? ⟨X, 0, none⟩ = some (.slice A1 n1 c1) := by rw [← hX, cell_of_row w0 _ 0 _ _ (0, 0) HX0.out]; rfl
  have y2 : w0.cell? ⟨X, 1, none⟩ = some (.slice A2 n2 c2) := by rw [← hX, cell_of_row w0 _ 1 _ _ (0, 0) HX0.out]; rfl
  have y3 : w0.cell? ⟨X, 2, none⟩ = some (.slice A3 n3 c3) := by rw [← hX, cell_of_row w0 _ 2 _ _ (0, 0) HX0.out]; rfl
  have y4 : w0.cell? ⟨X, 3, none⟩ = some (.slice A4 n4 c4) := by rw [← hX, cell_of_row w0 _ 3 _ _ (0, 0) HX0.out]; rfl
  have y5 : w0.cell? ⟨X, 4, none⟩ = some (.slice A5 n5 c5) := by rw [← hX, cell_of_row w0 _ 4 _ _ (0, 0) HX0.out]; rfl
  have y6 : w0.cell? ⟨X, 5, none⟩ = some (.slice A6 n6 c6) := by rw [← hX, cell_of_row w0 _ 5 _ _ (0, 0) HX0.out]; rfl
  have y7 : w0.cell? ⟨X, 6, none⟩ = some (.slice A7 n7 c7) := by rw [← hX, cell_of_row w0 _ 6 _ _ (0, 0) HX0.out]; rfl
  have hxl : X < w0.heap.size := by rw [← hX]; exact (Array.getElem?_eq_some_iff.1 HX0.out).1
  have HXL := Lib.hid hxl
  have HY1 := Lib.hid y1
  rw [hX]
  clear hX hxl
  go_upto_region 3 with fail
  clear y1 y2 y3 y4 y5 y6 y7
  go_loopw [3, 4] (fun u i wr => ∃ j N : Nat, j ≤ n1 ∧ i = .int .i64 (j : Int) ∧ u = .int .i64 (N : Int) ∧ N ≤ 4503599627370496 ∧ Hid (N ≤ 3000 → n2 + n3 + n4 + n5 + n6 + n7 + j ≤ 3000 ∧ ∀ x ∈ m.types.take j, x.params.length ≤ 3000 ∧ x.results.length ≤ 3000) ∧ Hid (n2 + n3 + n4 + n5 + n6 + n7 + j ≤ N ∧ ∀ x ∈ m.types.take j, x.params.length + x.results.length ≤ N) ∧ Hid (Below w0.heap.size w0 wr)) (fun _ i _ => n1 - (intOf i).toNat)
  case atStart => exact ⟨0, n2 + n3 + n4 + n5 + n6 + n7, by omega, rfl, by go_num, by omega, Lib.hid (fun h => ⟨h, by simp⟩), Lib.hid ⟨by omega, by simp⟩, Lib.hid (Below.refl _ _)⟩
  case round =>
    obtain ⟨j, N, hj, rfl, rfl, hN, HS, HL, HB⟩ := hrel
    have y1 : wr.cell? ⟨X, 0, none⟩ = some (.slice A1 n1 c1) := (HB.out.cell (p := ⟨X, 0, none⟩) HXL.out).trans HY1.out
    by_cases q1 : j < n1
    · have q1i : (j : Int) < (n1 : Int) := by omega
      by_cases q2 : N ≤ 3000
      · have q2i : (N : Int) ≤ 3000 := by omega
        obtain ⟨x, hx⟩ : ∃ x, m.types[j]? = some x := ⟨_, List.getElem?_eq_getElem (by rw [HN1.out]; exact q1)⟩
        have hxm := List.mem_of_getElem? hx
        obtain ⟨g1, o1, D1, d1, D2, d2, rfl, hg1, hc0, hc1, _, _⟩ := ft_at HL1.out hx
        have hbw := HB0.out.trans (HB.out.mono HB0.out.size)
        have z1 := (hbw.cell (p := ⟨g1, o1 + j * 2, none⟩) hg1).trans hc0
        have z2 := (hbw.cell (p := ⟨g1, o1 + j * 2 + 1, none⟩) hg1).trans hc1
        obtain ⟨hp1, hp2⟩ := HB1.out x hxm
        have HTK : Hid (∀ y ∈ m.types.take (j + 1), y ∈ m.types.take j ∨ y = x) := Lib.hid (fun y hy => by
          rw [List.take_add_one, hx] at hy
          simpa using hy)
        obtain ⟨p1, hpq1⟩ : ∃ q, x.params.length = q := ⟨_, rfl⟩
        obtain ⟨p2, hpq2⟩ : ∃ q, x.results.length = q := ⟨_, rfl⟩
        rw [hpq1] at z1 hp1
        rw [hpq2] at z2 hp2
        have HP1 := Lib.hid hpq1
        have HP2 := Lib.hid hpq2
        clear hpq1 hpq2 hx hxm hc0 hc1 hbw hg1
        go_upto_region 5 with fail
        have w1 : IntKind.i64.wrap ((N : Int) + 1) = (N : Int) + 1 := IntWalk.i64_in _ ⟨by omega, by omega⟩
        have w2 : IntKind.i64.wrap ((N : Int) + 1 + (p1 : Int)) = (N : Int) + 1 + (p1 : Int) := IntWalk.i64_in _ ⟨by omega, by omega⟩
        have w3 : IntKind.i64.wrap ((N : Int) + 1 + (p1 : Int) + (p2 : Int)) = (N : Int) + 1 + (p1 : Int) + (p2 : Int) := IntWalk.i64_in _ ⟨by omega, by omega⟩
        go_quiet (fail)
        clear w1 w2 w3
        go_wp2_with fail
        go_roundw
        case rel =>
          exact ⟨j + 1, N + 1 + p1 + p2, by omega, by go_num, by go_num, by omega, Lib.hid (fun h => by
              obtain ⟨h1, h2⟩ := HS.out (by omega)
              obtain ⟨h3, h4⟩ := HL.out
              refine ⟨by omega, fun y hy => ?_⟩
              rcases HTK.out y hy with hy | rfl
              · exact h2 y hy
              · have := HP1.out; have := HP2.out; omega), Lib.hid (by
              obtain ⟨h3, h4⟩ := HL.out
              refine ⟨by omega, fun y hy => ?_⟩
              rcases HTK.out y hy with hy | rfl
              · have := h4 y hy; omega
              · have := HP1.out; have := HP2.out; omega), Lib.hid (Below.dn HB.out _)⟩
        case measure => simp [intOf]; omega
      · have q2i : decide ((N : Int) ≤ 3000) = false := decide_eq_false (by omega)
        have q2n : (3000 : Int) < (N : Int) := by omega
        go_wp2_with fail
        go_ret
        exact ⟨true, rfl, HB0.out.trans (HB.out.mono HB0.out.size), fun h => by cases h⟩
    · have q1i : decide ((j : Int) < (n1 : Int)) = false := decide_eq_false (by omega)
      by_cases q2 : N ≤ 3000
      · have q2i : decide ((3000 : Int) < (N : Int)) = false := decide_eq_false (by omega)
        have HF : Hid (Few m ∧ m.imports.length ≤ 3000) := Lib.hid (by
          obtain ⟨h1, h2⟩ := HS.out q2
          obtain ⟨h3, h4⟩ := HL.out
          exact HFEW.out (by omega) (by omega) (fun x hx => h2 x (by rw [List.take_of_length_le (by have := HN1.out; omega)]; exact hx)))
        go_wp2_with fail
        go_ret
        exact ⟨false, rfl, HB0.out.trans (HB.out.mono HB0.out.size), fun _ => HF.out⟩
      · have q2n : (3000 : Int) < (N : Int) := by omega
        go_wp2_with fail
        go_ret
        exact ⟨true, rfl, HB0.out.trans (HB.out.mono HB0.out.size), fun h => by cases h⟩
end Go.Proofs.Ytakbehoglgebmaa
/-
  Layer 8's program: what it copies (Clone, copyOf), and what it asks an import. (gen/space/of1.py)
-/
namespace Go.Proofs.Ytakbehoglgebmaa
open Go.RowKit Ins Bin Sp
set_option maxRecDepth 100000 in
set_option maxHeartbeats 4000000 in
/-- Clone: a row of the call's own, where it isn't nil. -/
theorem scloneE_any (xs : List Exp) (v : Value) (w : World) (hv : SliceV w (· < w.heap.size) xs v) (hl : xs.length ≤ 4294967296) :
    Calls Try.prog 23 #[v] w fun e w' => ∃ u, e = .returned u ∧ OwnL 83 w' w.heap.size (· < w'.heap.size) u xs ∧ Below w.heap.size w w' ∧ ∀ g, u.ownBlock = some g → w.heap.size ≤ g := by
  obtain ⟨A, c, rfl, h1, h2, h3, hL⟩ := hv
  cases A with
  | none =>
    obtain rfl := h3 rfl
    have hx : xs = [] := List.eq_nil_of_length_eq_zero (by omega)
    subst hx
    clear h1 h2 h3 hL hl
    have heq := Lib.run_eql_slice_nil (P := Try.prog) w 27 83 none 0 0 0 0 undExp
    simp only [List.length_nil]
    go_enter Try.func23, Try.ntmps23
    go_wp2_with fail
    go_ret
    exact ⟨_, rfl, OwnL.nil _ _ _ _, Below.refl _ _, fun g hg => by simp [Value.ownBlock] at hg⟩
  | some a =>
    have hb0 : Below w.heap.size w (w.alloc (.cells #[] 83)) := (Below.refl _ _).alloc (Nat.le_refl _) _
    have hO := OwnL.lit0 (α := Exp) 83 w w.heap.size (fun k => k < w.heap.size) (Nat.le_refl _)
    obtain ⟨v5, w5, hrun, hO5, hM5, hT5⟩ := appendL undExp infExp (by decide) rfl (by decide) (w.alloc (.cells #[] 83)) w.heap.size (fun k => k < w.heap.size) (.slice (some ⟨w.heap.size, 0, none⟩) 0 0) [] xs (some a) xs.length c hO (hL.mod (T := fun _ => False) (Mod.of_below hb0) (fun _ _ _ h => h)) rfl (by simpa using hl) hb0.size (fun g _ hg e => by simp [Value.ownBlock] at e; omega)
    have HRUN := Lib.hid hrun
    have hB : Below w.heap.size w w5 := hb0.trans (hM5.below hb0.size (fun k hk e => by simp [Value.ownBlock] at e; omega))
    have HO := Lib.hid ((hO5.more (S' := (· < w5.heap.size)) (fun g _ hg => Nat.lt_of_lt_of_le hg.1 hB.size)))
    have HB := Lib.hid hB
    have HG : Hid (∀ g, v5.ownBlock = some g → w.heap.size ≤ g) := Lib.hid (fun g hg => by
      rcases hT5 g hg with h | h
      · simp [Value.ownBlock] at h; omega
      · simp at h; omega)
    obtain ⟨n, hn⟩ : ∃ n, xs.length = n := ⟨_, rfl⟩
    rw [hn] at HRUN
    rw [hn]
    clear hn hrun hO5 hM5 hT5 hB hO hb0 hL h1 h2 h3 hl
    have heq := Lib.run_eql_slice_nil (P := Try.prog) w 27 83 (some a) n c 0 0 undExp
    go_enter Try.func23, Try.ntmps23
    go_wp2_with (at_builtin; refine wpList_appends rfl (.tmp 5) (.tmp 6) 27 rfl _ _ _ w5 rfl rfl HRUN.out ?_)
    go_ret
    exact ⟨_, rfl, HO.out, HB.out, HG.out⟩
set_option maxRecDepth 100000 in
set_option maxHeartbeats 4000000 in
theorem sask0_any (x : Imp) (w : World) : Calls Try.prog 17 #[.agg #[.string ⟨x.mod.toArray⟩, .string ⟨x.name.toArray⟩, .int .u8 (x.kind.toNat : Int), .int .u32 (x.type : Int), .int .u32 (x.lim.min : Int), .int .i64 x.lim.max, .int .u8 (x.glob.t.toNat : Int), .bool x.glob.mu]] w fun e w' => e = .returned (.int .u32 (x.type : Int)) ∧ Below w.heap.size w w' := by
  have HX0 := Lib.hid (heap_alloc_new w (.cells #[.string ⟨x.mod.toArray⟩, .string ⟨x.name.toArray⟩, .int .u8 (x.kind.toNat : Int), .int .u32 (x.type : Int), .int .u32 (x.lim.min : Int), .int .i64 x.lim.max, .int .u8 (x.glob.t.toNat : Int), .bool x.glob.mu] 68))
  have HB0 : Hid (Below w.heap.size w (w.alloc (.cells #[.string ⟨x.mod.toArray⟩, .string ⟨x.name.toArray⟩, .int .u8 (x.kind.toNat : Int), .int .u32 (x.type : Int), .int .u32 (x.lim.min : Int), .int .i64 x.lim.max, .int .u8 (x.glob.t.toNat : Int), .bool x.glob.mu] 68))) := Lib.hid ((Below.refl _ _).alloc (Nat.le_refl _) _)
  go_enter Try.func17, Try.ntmps17
  go_upto_region 1 with fail
  generalize w.alloc (.cells #[.string ⟨x.mod.toArray⟩, .string ⟨x.name.toArray⟩, .int .u8 (x.kind.toNat : Int), .int .u32 (x.type : Int), .int .u32 (x.lim.min : Int), .int .i64 x.lim.max, .int .u8 (x.glob.t.toNat : Int), .bool x.glob.mu] 68) = w0 at HX0 HB0 ⊢
  have y3 : w0.cell? ⟨w.heap.size, 3, none⟩ = some (.int .u32 (x.type : Int)) := by rw [cell_of_row w0 _ 3 _ _ (0, 0) HX0.out]; rfl
  go_wp2_with fail
  go_ret
  exact ⟨rfl, HB0.out⟩
set_option maxRecDepth 100000 in
set_option maxHeartbeats 4000000 in
theorem sask1_any (x : Imp) (w : World) : Calls Try.prog 19 #[.agg #[.string ⟨x.mod.toArray⟩, .string ⟨x.name.toArray⟩, .int .u8 (x.kind.toNat : Int), .int .u32 (x.type : Int), .int .u32 (x.lim.min : Int), .int .i64 x.lim.max, .int .u8 (x.glob.t.toNat : Int), .bool x.glob.mu]] w fun e w' => e = .returned (.agg #[.int .u32 (x.lim.min : Int), .int .i64 x.lim.max]) ∧ Below w.heap.size w w' := by
  obtain ⟨D, hu, hd⟩ := descOf des_slim
  have HU := Lib.hid hu
  have HD := Lib.hid hd
  clear hu hd
  have HX0 : Hid (((w.alloc (.cells #[.string ⟨x.mod.toArray⟩, .string ⟨x.name.toArray⟩, .int .u8 (x.kind.toNat : Int), .int .u32 (x.type : Int), .int .u32 (x.lim.min : Int), .int .i64 x.lim.max, .int .u8 (x.glob.t.toNat : Int), .bool x.glob.mu] 68)).alloc (.cells #[.int .u32 0, .int .i64 0] 64)).heap[w.heap.size]? = some (.cells #[.string ⟨x.mod.toArray⟩, .string ⟨x.name.toArray⟩, .int .u8 (x.kind.toNat : Int), .int .u32 (x.type : Int), .int .u32 (x.lim.min : Int), .int .i64 x.lim.max, .int .u8 (x.glob.t.toNat : Int), .bool x.glob.mu] 68 (0, 0))) := Lib.hid ((Below.heap_alloc _ _ _ (by simp)).trans (heap_alloc_new w _))
  have HZ0 : Hid (((w.alloc (.cells #[.string ⟨x.mod.toArray⟩, .string ⟨x.name.toArray⟩, .int .u8 (x.kind.toNat : Int), .int .u32 (x.type : Int), .int .u32 (x.lim.min : Int), .int .i64 x.lim.max, .int .u8 (x.glob.t.toNat : Int), .bool x.glob.mu] 68)).alloc (.cells #[.int .u32 0, .int .i64 0] 64)).heap[w.heap.size + 1]? = some (.cells #[.int .u32 0, .int .i64 0] 64 (0, 0))) := Lib.hid (by have := heap_alloc_new (w.alloc (.cells #[.string ⟨x.mod.toArray⟩, .string ⟨x.name.toArray⟩, .int .u8 (x.kind.toNat : Int), .int .u32 (x.type : Int), .int .u32 (x.lim.min : Int), .int .i64 x.lim.max, .int .u8 (x.glob.t.toNat : Int), .bool x.glob.mu] 68)) (.cells #[.int .u32 0, .int .i64 0] 64); simpa using this)
  have HB0 : Hid (Below w.heap.size w ((w.alloc (.cells #[.string ⟨x.mod.toArray⟩, .string ⟨x.name.toArray⟩, .int .u8 (x.kind.toNat : Int), .int .u32 (x.type : Int), .int .u32 (x.lim.min : Int), .int .i64 x.lim.max, .int .u8 (x.glob.t.toNat : Int), .bool x.glob.mu] 68)).alloc (.cells #[.int .u32 0, .int .i64 0] 64))) := Lib.hid (((Below.refl _ _).alloc (Nat.le_refl _) _).alloc (by simp) _)
  go_enter Try.func19, Try.ntmps19
  go_upto_region 1 with fail
  generalize (w.alloc (.cells #[.string ⟨x.mod.toArray⟩, .string ⟨x.name.toArray⟩, .int .u8 (x.kind.toNat : Int), .int .u32 (x.type : Int), .int .u32 (x.lim.min : Int), .int .i64 x.lim.max, .int .u8 (x.glob.t.toNat : Int), .bool x.glob.mu] 68)).alloc (.cells #[.int .u32 0, .int .i64 0] 64) = w0 at HX0 HZ0 HB0 ⊢
  have y0 : w0.cell? ⟨w.heap.size, 4, none⟩ = some (.int .u32 (x.lim.min : Int)) := by rw [cell_of_row w0 _ 4 _ _ (0, 0) HX0.out]; rfl
  have y1 : w0.cell? ⟨w.heap.size, 5, none⟩ = some (.int .i64 x.lim.max) := by rw [cell_of_row w0 _ 5 _ _ (0, 0) HX0.out]; rfl
  obtain ⟨Y, hY⟩ : ∃ Y, w.heap.size + 1 = Y := ⟨_, rfl⟩
  rw [hY] at HZ0
  have HY : Hid (w.heap.size ≤ Y) := Lib.hid (by omega)
  simp only [hY]
  clear hY
  go_wp2_with (refine wpList_store_to rfl 64 (.tmp 2) (.tmp 4) rfl rfl Y #[.int .u32 (x.lim.min : Int), .int .i64 x.lim.max] rfl rfl 64 #[.int .u32 0, .int .i64 0] HZ0.out siz_slim rfl (by simp [Value.oneCell']) ?_)
  refine bodyPost_ret (v := .agg #[.int .u32 (x.lim.min : Int), .int .i64 x.lim.max]) (res_cell (p := 2) (ty := 64) (by kernel_rfl) _ _ Y 64 #[.int .u32 (x.lim.min : Int), .int .i64 x.lim.max] (0, 0) D rfl (setRow_heap _ _ #[.int .u32 0, .int .i64 0] _ _ _ HZ0.out) HU.out HD.out siz_slim) rfl ?_
  exact ⟨rfl, below_setRow HB0.out HY.out _⟩
set_option maxRecDepth 100000 in
set_option maxHeartbeats 4000000 in
theorem sask3_any (x : Imp) (w : World) : Calls Try.prog 21 #[.agg #[.string ⟨x.mod.toArray⟩, .string ⟨x.name.toArray⟩, .int .u8 (x.kind.toNat : Int), .int .u32 (x.type : Int), .int .u32 (x.lim.min : Int), .int .i64 x.lim.max, .int .u8 (x.glob.t.toNat : Int), .bool x.glob.mu]] w fun e w' => e = .returned (.agg #[.int .u8 (x.glob.t.toNat : Int), .bool x.glob.mu]) ∧ Below w.heap.size w w' := by
  obtain ⟨D, hu, hd⟩ := descOf des_sglob
  have HU := Lib.hid hu
  have HD := Lib.hid hd
  clear hu hd
  have HX0 : Hid (((w.alloc (.cells #[.string ⟨x.mod.toArray⟩, .string ⟨x.name.toArray⟩, .int .u8 (x.kind.toNat : Int), .int .u32 (x.type : Int), .int .u32 (x.lim.min : Int), .int .i64 x.lim.max, .int .u8 (x.glob.t.toNat : Int), .bool x.glob.mu] 68)).alloc (.cells #[.int .u8 0, .bool false] 66)).heap[w.heap.size]? = some (.cells #[.string ⟨x.mod.toArray⟩, .string ⟨x.name.toArray⟩, .int .u8 (x.kind.toNat : Int), .int .u32 (x.type : Int), .int .u32 (x.lim.min : Int), .int .i64 x.lim.max, .int .u8 (x.glob.t.toNat : Int), .bool x.glob.mu] 68 (0, 0))) := Lib.hid ((Below.heap_alloc _ _ _ (by simp)).trans (heap_alloc_new w _))
  have HZ0 : Hid (((w.alloc (.cells #[.string ⟨x.mod.toArray⟩, .string ⟨x.name.toArray⟩, .int .u8 (x.kind.toNat : Int), .int .u32 (x.type : Int), .int .u32 (x.lim.min : Int), .int .i64 x.lim.max, .int .u8 (x.glob.t.toNat : Int), .bool x.glob.mu] 68)).alloc (.cells #[.int .u8 0, .bool false] 66)).heap[w.heap.size + 1]? = some (.cells #[.int .u8 0, .bool false] 66 (0, 0))) := Lib.hid (by have := heap_alloc_new (w.alloc (.cells #[.string ⟨x.mod.toArray⟩, .string ⟨x.name.toArray⟩, .int .u8 (x.kind.toNat : Int), .int .u32 (x.type : Int), .int .u32 (x.lim.min : Int), .int .i64 x.lim.max, .int .u8 (x.glob.t.toNat : Int), .bool x.glob.mu] 68)) (.cells #[.int .u8 0, .bool false] 66); simpa using this)
  have HB0 : Hid (Below w.heap.size w ((w.alloc (.cells #[.string ⟨x.mod.toArray⟩, .string ⟨x.name.toArray⟩, .int .u8 (x.kind.toNat : Int), .int .u32 (x.type : Int), .int .u32 (x.lim.min : Int), .int .i64 x.lim.max, .int .u8 (x.glob.t.toNat : Int), .bool x.glob.mu] 68)).alloc (.cells #[.int .u8 0, .bool false] 66))) := Lib.hid (((Below.refl _ _).alloc (Nat.le_refl _) _).alloc (by simp) _)
  go_enter Try.func21, Try.ntmps21
  go_upto_region 1 with fail
  generalize (w.alloc (.cells #[.string ⟨x.mod.toArray⟩, .string ⟨x.name.toArray⟩, .int .u8 (x.kind.toNat : Int), .int .u32 (x.type : Int), .int .u32 (x.lim.min : Int), .int .i64 x.lim.max, .int .u8 (x.glob.t.toNat : Int), .bool x.glob.mu] 68)).alloc (.cells #[.int .u8 0, .bool false] 66) = w0 at HX0 HZ0 HB0 ⊢
  have y0 : w0.cell? ⟨w.heap.size, 6, none⟩ = some (.int .u8 (x.glob.t.toNat : Int)) := by rw [cell_of_row w0 _ 6 _ _ (0, 0) HX0.out]; rfl
  have y1 : w0.cell? ⟨w.heap.size, 7, none⟩ = some (.bool x.glob.mu) := by rw [cell_of_row w0 _ 7 _ _ (0, 0) HX0.out]; rfl
  obtain ⟨Y, hY⟩ : ∃ Y, w.heap.size + 1 = Y := ⟨_, rfl⟩
  rw [hY] at HZ0
  have HY : Hid (w.heap.size ≤ Y) := Lib.hid (by omega)
  simp only [hY]
  clear hY
  go_wp2_with (refine wpList_store_to rfl 66 (.tmp 2) (.tmp 4) rfl rfl Y #[.int .u8 (x.glob.t.toNat : Int), .bool x.glob.mu] rfl rfl 66 #[.int .u8 0, .bool false] HZ0.out siz_sglob rfl (by simp [Value.oneCell']) ?_)
  refine bodyPost_ret (v := .agg #[.int .u8 (x.glob.t.toNat : Int), .bool x.glob.mu]) (res_cell (p := 2) (ty := 66) (by kernel_rfl) _ _ Y 66 #[.int .u8 (x.glob.t.toNat : Int), .bool x.glob.mu] (0, 0) D rfl (setRow_heap _ _ #[.int .u8 0, .bool false] _ _ _ HZ0.out) HU.out HD.out siz_sglob) rfl ?_
  exact ⟨rfl, below_setRow HB0.out HY.out _⟩
end Go.Proofs.Ytakbehoglgebmaa
