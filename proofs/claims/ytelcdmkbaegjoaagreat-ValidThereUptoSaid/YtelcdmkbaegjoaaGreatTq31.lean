/-
  Layer 8's program: a space that is nil, or there; a row's entry by number. (gen/space/ask1.py)
-/
import Derived.Test.YtelcdmkbaegjoaaGreatTq01
import Derived.Test.YtelcdmkbaegjoaaGreatTq30
import Derived.Test.YtelcdmkbaegjoaaGreatTq23
import Derived.Test.YtelcdmkbaegjoaaGreatTq04
import Derived.Test.YtelcdmkbaegjoaaGreatTq08
set_option maxRecDepth 100000
set_option maxHeartbeats 4000000
namespace Go.Proofs.YtelcdmkbaegjoaaGreat
open Go.RowKit Ins Bin Sp
def noM : M := ⟨[], [], [], [], [], [], [], false, 0, [], [], []⟩
def Recv (w : World) (p : Option Addr) (m : M) : Prop := (∃ P, p = some ⟨P, 0, none⟩ ∧ aI w P m) ∨ (p = none ∧ m = noM)
theorem Recv.grow {w w' : World} {p : Option Addr} {m : M} (h : Recv w p m) (hb : Below w.heap.size w w') : Recv w' p m := by
 rcases h with ⟨P, rfl, h⟩ | h
 ·exact .inl ⟨P, rfl, h.grow hb⟩
 ·exact .inr h
theorem aO (p : Option Addr) (m : M) (w : World) (h : Recv w p m) :
  Calls Tryz.prog 42 #[.pointer p] w fun e w' => ∃ P, e = .returned (.pointer (some ⟨P, 0, none⟩)) ∧ aI w' P m ∧ Below w.heap.size w w' := by
 rcases h with ⟨P, rfl, h⟩ | ⟨rfl, rfl⟩
 ·have HS := J h
  clear h
  go_enter Tryz.func42, Tryz.ntmps42
  go_wp2
  go_ret
  exact ⟨P, rfl, HS.out, Below.refl _ _⟩
 ·go_enter Tryz.func42, Tryz.ntmps42
  go_wp2
  go_ret
  refine ⟨w.heap.size, rfl, ⟨none, 0, none, 0, none, 0, none, 0, none, 0, none, 0, heap_alloc_new w _, ab.nil _ _, ab.nil _ _, ab.nil _ _, ab.nil _ _, ab.nil _ _, ab.nil _ _⟩, (Below.refl _ _).alloc (Nat.le_refl _) _⟩
theorem satU_any (xs : List Nat) (v : Value) (i : Nat) (w : World) (hv : ab w (· < w.heap.size) xs v) (hi : i < 4294967296) (hl : xs.length ≤ 4000000) :
  Calls Tryz.prog 44 #[v, .int .u32 (i : Int)] w fun e w' => e = .returned (.tuple #[.int .u32 ((xs[i]?.getD 0 : Nat) : Int), .bool (xs[i]?).isSome]) ∧ w' = w := by
 obtain ⟨A, c, rfl, _, _, _, hL⟩ := hv
 have HL := J hL
 obtain ⟨n, hn⟩ : ∃ n, xs.length = n := ⟨_, rfl⟩
 rw [hn] at hl ⊢
 clear hL
 cases hx : xs[i]? with
 | none =>
  have hge : (n : Int) ≤ (i : Int) := by have := List.getElem?_eq_none_iff.1 hx; omega
  have hgen : n ≤ i := by omega
  clear hx hn
  go_enter Tryz.func44, Tryz.ntmps44
  go_wp2
  go_ret2
  exact ⟨rfl, rfl⟩
 | some x =>
  have hge : decide ((n : Int) ≤ (i : Int)) = false := decide_eq_false (by have := (List.getElem?_eq_some_iff.1 hx).1; omega)
  have hgen : decide (n ≤ i) = false := decide_eq_false (by have := (List.getElem?_eq_some_iff.1 hx).1; omega)
  have hlt : (i : Int) < (n : Int) := by have := (List.getElem?_eq_some_iff.1 hx).1; omega
  obtain ⟨g, o, rfl, hg, hc, hxl⟩ := eq HL.out hx
  clear hx hn
  go_enter Tryz.func44, Tryz.ntmps44
  go_wp2
  go_ret2
  exact ⟨rfl, rfl⟩
theorem satL_any (xs : List Lim) (v : Value) (i : Nat) (w : World) (hv : ab w (· < w.heap.size) xs v) (hi : i < 4294967296) (hl : xs.length ≤ 4000000) :
  Calls Tryz.prog 94 #[v, .int .u32 (i : Int)] w fun e w' => e = .returned (.tuple #[.agg (limArr (xs[i]?.getD ⟨0, 0⟩)), .bool (xs[i]?).isSome]) ∧ Below w.heap.size w w' := by
 obtain ⟨D, hu, hd⟩ := descOf cH
 have HU := J hu
 have HD := J hd
 clear hu hd
 obtain ⟨A, c, rfl, _, _, _, hL⟩ := hv
 have HL := J hL
 obtain ⟨n, hn⟩ : ∃ n, xs.length = n := ⟨_, rfl⟩
 rw [hn] at hl ⊢
 clear hL
 have HZ0 := J (heap_alloc_new w (.cells #[.int .u32 0, .int .i64 0] 65))
 have HB0 : Hid (Below w.heap.size w (w.alloc (.cells #[.int .u32 0, .int .i64 0] 65))) := J ((Below.refl _ _).alloc (Nat.le_refl _) _)
 cases hx : xs[i]? with
 | none =>
  have hge : (n : Int) ≤ (i : Int) := by have := List.getElem?_eq_none_iff.1 hx; omega
  have hgen : n ≤ i := by omega
  clear hx hn
  go_enter Tryz.func94, Tryz.ntmps94
  go_upto_region 1 with fail
  generalize w.alloc (.cells #[.int .u32 0, .int .i64 0] 65) = w0 at HZ0 HB0 ⊢
  obtain ⟨Y, hY⟩ : ∃ Y, w.heap.size = Y := ⟨_, rfl⟩
  rw [hY] at HZ0
  have HY : Hid (w.heap.size ≤ Y) := J (by omega)
  simp only [hY]
  clear hY
  have HB1 : Hid (Below w.heap.size w (w0.alloc (.cells #[.int .u32 0, .int .i64 0] 65))) := J (HB0.out.alloc HB0.out.size _)
  have HZ1 : Hid ((w0.alloc (.cells #[.int .u32 0, .int .i64 0] 65)).heap[Y]? = some (.cells #[.int .u32 0, .int .i64 0] 65 (0, 0))) := J ((Below.heap_alloc w0 _ _ (Array.getElem?_eq_some_iff.1 HZ0.out).1).trans HZ0.out)
  have HN1 := J (heap_alloc_new w0 (.cells #[.int .u32 0, .int .i64 0] 65))
  go_upto_region 3 with fail
  generalize w0.alloc (.cells #[.int .u32 0, .int .i64 0] 65) = w1 at HZ1 HB1 HN1 ⊢
  obtain ⟨n0, n1⟩ := ae HN1.out
  go_wp2_with (refine aj rfl 65 (.tmp 4) (.tmp 13) rfl rfl Y #[.int .u32 0, .int .i64 0] rfl rfl 65 #[.int .u32 0, .int .i64 0] HZ1.out aT rfl (by simp [Value.oneCell']) ?_)
  refine bodyPost_ret (v := .tuple #[.agg #[.int .u32 0, .int .i64 0], .bool false]) (au (p := 4) (q := 5) (ty := 65) (by kernel_rfl) _ _ Y 65 #[.int .u32 0, .int .i64 0] (0, 0) D rfl (setRow_heap _ _ #[.int .u32 0, .int .i64 0] _ _ _ HZ1.out) HU.out HD.out aT (.bool false) rfl) rfl ?_
  exact ⟨rfl, ac HB1.out HY.out _⟩
 | some x =>
  have hge : decide ((n : Int) ≤ (i : Int)) = false := decide_eq_false (by have := (List.getElem?_eq_some_iff.1 hx).1; omega)
  have hgen : decide (n ≤ i) = false := decide_eq_false (by have := (List.getElem?_eq_some_iff.1 hx).1; omega)
  have hlt : (i : Int) < (n : Int) := by have := (List.getElem?_eq_some_iff.1 hx).1; omega
  obtain ⟨g, o, rfl, hg, hc0, hc1⟩ := lim_at HL.out hx
  have z0 := (HB0.out.cell (p := ⟨g, o + i * 2, none⟩) hg).trans hc0
  have z1 := (HB0.out.cell (p := ⟨g, o + i * 2 + 1, none⟩) hg).trans hc1
  clear hx hn hc0 hc1
  go_enter Tryz.func94, Tryz.ntmps94
  go_upto_region 1 with fail
  generalize w.alloc (.cells #[.int .u32 0, .int .i64 0] 65) = w0 at HZ0 HB0 z0 z1 ⊢
  obtain ⟨Y, hY⟩ : ∃ Y, w.heap.size = Y := ⟨_, rfl⟩
  rw [hY] at HZ0
  have HY : Hid (w.heap.size ≤ Y) := J (by omega)
  simp only [hY]
  clear hY
  go_wp2_with (refine aj rfl 65 (.tmp 4) (.tmp 17) rfl rfl Y #[.int .u32 (x.min : Int), .int .i64 x.max] rfl rfl 65 #[.int .u32 0, .int .i64 0] HZ0.out aT rfl (by simp [Value.oneCell']) ?_)
  refine bodyPost_ret (v := .tuple #[.agg #[.int .u32 (x.min : Int), .int .i64 x.max], .bool true]) (au (p := 4) (q := 5) (ty := 65) (by kernel_rfl) _ _ Y 65 #[.int .u32 (x.min : Int), .int .i64 x.max] (0, 0) D rfl (setRow_heap _ _ #[.int .u32 0, .int .i64 0] _ _ _ HZ0.out) HU.out HD.out aT (.bool true) rfl) rfl ?_
  exact ⟨rfl, ac HB0.out HY.out _⟩
theorem glob_at {w : World} {S : Nat → Prop} {A : Option Addr} {xs : List Glob} {k : Nat} {x : Glob} (h : HasL w S A xs) (hx : xs[k]? = some x) : ∃ g o, A = some ⟨g, o, none⟩ ∧ g < w.heap.size ∧ w.cell? ⟨g, o + k * 2, none⟩ = some (.int .u8 (x.t.toNat : Int)) ∧ w.cell? ⟨g, o + k * 2 + 1, none⟩ = some (.bool x.mu) := by
 obtain ⟨g, o, cs, h1, _, h3, h4, h6⟩ := h k x hx
 have h4' : cs = globCells x := h4
 subst h4'
 exact ⟨g, o, h1, h3, h6 0 _ rfl, h6 1 _ rfl⟩
theorem satG_any (xs : List Glob) (v : Value) (i : Nat) (w : World) (hv : ab w (· < w.heap.size) xs v) (hi : i < 4294967296) (hl : xs.length ≤ 4000000) :
  Calls Tryz.prog 121 #[v, .int .u32 (i : Int)] w fun e w' => e = .returned (.tuple #[.agg (globArr (xs[i]?.getD ⟨0, false⟩)), .bool (xs[i]?).isSome]) ∧ Below w.heap.size w w' := by
 obtain ⟨D, hu, hd⟩ := descOf cU
 have HU := J hu
 have HD := J hd
 clear hu hd
 obtain ⟨A, c, rfl, _, _, _, hL⟩ := hv
 have HL := J hL
 obtain ⟨n, hn⟩ : ∃ n, xs.length = n := ⟨_, rfl⟩
 rw [hn] at hl ⊢
 clear hL
 have HZ0 := J (heap_alloc_new w (.cells #[.int .u8 0, .bool false] 76))
 have HB0 : Hid (Below w.heap.size w (w.alloc (.cells #[.int .u8 0, .bool false] 76))) := J ((Below.refl _ _).alloc (Nat.le_refl _) _)
 cases hx : xs[i]? with
 | none =>
  have hge : (n : Int) ≤ (i : Int) := by have := List.getElem?_eq_none_iff.1 hx; omega
  have hgen : n ≤ i := by omega
  clear hx hn
  go_enter Tryz.func121, Tryz.ntmps121
  go_upto_region 1 with fail
  generalize w.alloc (.cells #[.int .u8 0, .bool false] 76) = w0 at HZ0 HB0 ⊢
  obtain ⟨Y, hY⟩ : ∃ Y, w.heap.size = Y := ⟨_, rfl⟩
  rw [hY] at HZ0
  have HY : Hid (w.heap.size ≤ Y) := J (by omega)
  simp only [hY]
  clear hY
  have HB1 : Hid (Below w.heap.size w (w0.alloc (.cells #[.int .u8 0, .bool false] 76))) := J (HB0.out.alloc HB0.out.size _)
  have HZ1 : Hid ((w0.alloc (.cells #[.int .u8 0, .bool false] 76)).heap[Y]? = some (.cells #[.int .u8 0, .bool false] 76 (0, 0))) := J ((Below.heap_alloc w0 _ _ (Array.getElem?_eq_some_iff.1 HZ0.out).1).trans HZ0.out)
  have HN1 := J (heap_alloc_new w0 (.cells #[.int .u8 0, .bool false] 76))
  go_upto_region 3 with fail
  generalize w0.alloc (.cells #[.int .u8 0, .bool false] 76) = w1 at HZ1 HB1 HN1 ⊢
  obtain ⟨n0, n1⟩ := ae HN1.out
  go_wp2_with (refine aj rfl 76 (.tmp 4) (.tmp 13) rfl rfl Y #[.int .u8 0, .bool false] rfl rfl 76 #[.int .u8 0, .bool false] HZ1.out ao rfl (by simp [Value.oneCell']) ?_)
  refine bodyPost_ret (v := .tuple #[.agg #[.int .u8 0, .bool false], .bool false]) (au (p := 4) (q := 5) (ty := 76) (by kernel_rfl) _ _ Y 76 #[.int .u8 0, .bool false] (0, 0) D rfl (setRow_heap _ _ #[.int .u8 0, .bool false] _ _ _ HZ1.out) HU.out HD.out ao (.bool false) rfl) rfl ?_
  exact ⟨rfl, ac HB1.out HY.out _⟩
 | some x =>
  have hge : decide ((n : Int) ≤ (i : Int)) = false := decide_eq_false (by have := (List.getElem?_eq_some_iff.1 hx).1; omega)
  have hgen : decide (n ≤ i) = false := decide_eq_false (by have := (List.getElem?_eq_some_iff.1 hx).1; omega)
  have hlt : (i : Int) < (n : Int) := by have := (List.getElem?_eq_some_iff.1 hx).1; omega
  obtain ⟨g, o, rfl, hg, hc0, hc1⟩ := glob_at HL.out hx
  have z0 := (HB0.out.cell (p := ⟨g, o + i * 2, none⟩) hg).trans hc0
  have z1 := (HB0.out.cell (p := ⟨g, o + i * 2 + 1, none⟩) hg).trans hc1
  clear hx hn hc0 hc1
  go_enter Tryz.func121, Tryz.ntmps121
  go_upto_region 1 with fail
  generalize w.alloc (.cells #[.int .u8 0, .bool false] 76) = w0 at HZ0 HB0 z0 z1 ⊢
  obtain ⟨Y, hY⟩ : ∃ Y, w.heap.size = Y := ⟨_, rfl⟩
  rw [hY] at HZ0
  have HY : Hid (w.heap.size ≤ Y) := J (by omega)
  simp only [hY]
  clear hY
  go_wp2_with (refine aj rfl 76 (.tmp 4) (.tmp 17) rfl rfl Y #[.int .u8 (x.t.toNat : Int), .bool x.mu] rfl rfl 76 #[.int .u8 0, .bool false] HZ0.out ao rfl (by simp [Value.oneCell']) ?_)
  refine bodyPost_ret (v := .tuple #[.agg #[.int .u8 (x.t.toNat : Int), .bool x.mu], .bool true]) (au (p := 4) (q := 5) (ty := 76) (by kernel_rfl) _ _ Y 76 #[.int .u8 (x.t.toNat : Int), .bool x.mu] (0, 0) D rfl (setRow_heap _ _ #[.int .u8 0, .bool false] _ _ _ HZ0.out) HU.out HD.out ao (.bool true) rfl) rfl ?_
  exact ⟨rfl, ac HB0.out HY.out _⟩
theorem satF_any (xs : List FT) (v : Value) (i : Nat) (w : World) (hv : ab w (· < w.heap.size) xs v) (hi : i < 4294967296) (hl : xs.length ≤ 4000000) :
  Calls Tryz.prog 51 #[v, .int .u32 (i : Int)] w fun e w' => ∃ A c A' c', e = .returned (.tuple #[.agg #[.slice A ((xs[i]?).getD ⟨[], []⟩).params.length c, .slice A' ((xs[i]?).getD ⟨[], []⟩).results.length c'], .bool (xs[i]?).isSome]) ∧ ab w' (· < w'.heap.size) ((xs[i]?).getD ⟨[], []⟩).params (.slice A ((xs[i]?).getD ⟨[], []⟩).params.length c) ∧ ab w' (· < w'.heap.size) ((xs[i]?).getD ⟨[], []⟩).results (.slice A' ((xs[i]?).getD ⟨[], []⟩).results.length c') ∧ Below w.heap.size w w' := by
 obtain ⟨D, hu, hd⟩ := descOf cG
 have HU := J hu
 have HD := J hd
 clear hu hd
 obtain ⟨A, c, rfl, _, _, _, hL⟩ := hv
 have HL := J hL
 obtain ⟨n, hn⟩ : ∃ n, xs.length = n := ⟨_, rfl⟩
 rw [hn] at hl ⊢
 clear hL
 have HZ0 := J (heap_alloc_new w (.cells #[.slice none 0 0, .slice none 0 0] 51))
 have HB0 : Hid (Below w.heap.size w (w.alloc (.cells #[.slice none 0 0, .slice none 0 0] 51))) := J ((Below.refl _ _).alloc (Nat.le_refl _) _)
 cases hx : xs[i]? with
 | none =>
  have hge : (n : Int) ≤ (i : Int) := by have := List.getElem?_eq_none_iff.1 hx; omega
  have hgen : n ≤ i := by omega
  clear hx hn
  go_enter Tryz.func51, Tryz.ntmps51
  go_upto_region 1 with fail
  generalize w.alloc (.cells #[.slice none 0 0, .slice none 0 0] 51) = w0 at HZ0 HB0 ⊢
  obtain ⟨Y, hY⟩ : ∃ Y, w.heap.size = Y := ⟨_, rfl⟩
  rw [hY] at HZ0
  have HY : Hid (w.heap.size ≤ Y) := J (by omega)
  simp only [hY]
  clear hY
  have HB1 : Hid (Below w.heap.size w (w0.alloc (.cells #[.slice none 0 0, .slice none 0 0] 51))) := J (HB0.out.alloc HB0.out.size _)
  have HZ1 : Hid ((w0.alloc (.cells #[.slice none 0 0, .slice none 0 0] 51)).heap[Y]? = some (.cells #[.slice none 0 0, .slice none 0 0] 51 (0, 0))) := J ((Below.heap_alloc w0 _ _ (Array.getElem?_eq_some_iff.1 HZ0.out).1).trans HZ0.out)
  have HN1 := J (heap_alloc_new w0 (.cells #[.slice none 0 0, .slice none 0 0] 51))
  go_upto_region 3 with fail
  generalize w0.alloc (.cells #[.slice none 0 0, .slice none 0 0] 51) = w1 at HZ1 HB1 HN1 ⊢
  obtain ⟨n0, n1⟩ := ae HN1.out
  go_wp2_with (refine aj rfl 51 (.tmp 4) (.tmp 13) rfl rfl Y #[.slice none 0 0, .slice none 0 0] rfl rfl 51 #[.slice none 0 0, .slice none 0 0] HZ1.out al rfl (by simp [Value.oneCell']) ?_)
  refine bodyPost_ret (v := .tuple #[.agg #[.slice none 0 0, .slice none 0 0], .bool false]) (au (p := 4) (q := 5) (ty := 51) (by kernel_rfl) _ _ Y 51 #[.slice none 0 0, .slice none 0 0] (0, 0) D rfl (setRow_heap _ _ #[.slice none 0 0, .slice none 0 0] _ _ _ HZ1.out) HU.out HD.out al (.bool false) rfl) rfl ?_
  exact ⟨none, 0, none, 0, rfl, ab.nil _ _, ab.nil _ _, ac HB1.out HY.out _⟩
 | some x =>
  have hge : decide ((n : Int) ≤ (i : Int)) = false := decide_eq_false (by have := (List.getElem?_eq_some_iff.1 hx).1; omega)
  have hgen : decide (n ≤ i) = false := decide_eq_false (by have := (List.getElem?_eq_some_iff.1 hx).1; omega)
  have hlt : (i : Int) < (n : Int) := by have := (List.getElem?_eq_some_iff.1 hx).1; omega
  obtain ⟨g, o, D1, d1, D2, d2, rfl, hg, hc0, hc1, hs1, hs2⟩ := ft_at HL.out hx
  obtain ⟨p1, hp1⟩ : ∃ p, x.params.length = p := ⟨_, rfl⟩
  obtain ⟨p2, hp2⟩ : ∃ p, x.results.length = p := ⟨_, rfl⟩
  rw [hp1] at hc0 hs1
  rw [hp2] at hc1 hs2
  have HP1 := J hp1
  have HP2 := J hp2
  have HS1 := J hs1
  have HS2 := J hs2
  clear hp1 hp2 hs1 hs2
  have z0 := (HB0.out.cell (p := ⟨g, o + i * 2, none⟩) hg).trans hc0
  have z1 := (HB0.out.cell (p := ⟨g, o + i * 2 + 1, none⟩) hg).trans hc1
  clear hx hn hc0 hc1
  go_enter Tryz.func51, Tryz.ntmps51
  go_upto_region 1 with fail
  generalize w.alloc (.cells #[.slice none 0 0, .slice none 0 0] 51) = w0 at HZ0 HB0 z0 z1 ⊢
  obtain ⟨Y, hY⟩ : ∃ Y, w.heap.size = Y := ⟨_, rfl⟩
  rw [hY] at HZ0
  have HY : Hid (w.heap.size ≤ Y) := J (by omega)
  simp only [hY]
  clear hY
  go_wp2_with (refine aj rfl 51 (.tmp 4) (.tmp 17) rfl rfl Y #[.slice D1 p1 d1, .slice D2 p2 d2] rfl rfl 51 #[.slice none 0 0, .slice none 0 0] HZ0.out al rfl (by simp [Value.oneCell']) ?_)
  refine bodyPost_ret (v := .tuple #[.agg #[.slice D1 p1 d1, .slice D2 p2 d2], .bool true]) (au (p := 4) (q := 5) (ty := 51) (by kernel_rfl) _ _ Y 51 #[.slice D1 p1 d1, .slice D2 p2 d2] (0, 0) D rfl (setRow_heap _ _ #[.slice none 0 0, .slice none 0 0] _ _ _ HZ0.out) HU.out HD.out al (.bool true) rfl) rfl ?_
  have hbz := ac HB0.out HY.out #[.slice D1 p1 d1, .slice D2 p2 d2]
  refine ⟨D1, d1, D2, d2, ?_, ?_, ?_, hbz⟩
  ·simp only [Option.getD_some, Option.isSome_some, HP1.out, HP2.out]
  ·simp only [Option.getD_some, HP1.out]; exact HS1.out.grow hbz
  ·simp only [Option.getD_some, HP2.out]; exact HS2.out.grow hbz
theorem be {w : World} {X : Nat} {x0 x1 x2 x3 x4 x5 x6 x7 x8 x9 : Value} {t : TypeId} (h : w.heap[X]? = some (.cells #[x0, x1, x2, x3, x4, x5, x6, x7, x8, x9] t (0, 0))) : w.cell? ⟨X, 0, none⟩ = some x0 ∧ w.cell? ⟨X, 1, none⟩ = some x1 ∧ w.cell? ⟨X, 2, none⟩ = some x2 ∧ w.cell? ⟨X, 3, none⟩ = some x3 ∧ w.cell? ⟨X, 4, none⟩ = some x4 ∧ w.cell? ⟨X, 5, none⟩ = some x5 ∧ w.cell? ⟨X, 6, none⟩ = some x6 ∧ w.cell? ⟨X, 7, none⟩ = some x7 ∧ w.cell? ⟨X, 8, none⟩ = some x8 ∧ w.cell? ⟨X, 9, none⟩ = some x9 := by
 refine ⟨?_, ?_, ?_, ?_, ?_, ?_, ?_, ?_, ?_, ?_⟩ <;> (rw [cell_of_row w X _ _ t (0, 0) h]; rfl)
structure cm (m : M) : Prop where
 types : m.types.length ≤ 4000000
 each : ∀ x ∈ m.types, x.params.length ≤ 4000000 ∧ x.results.length ≤ 4000000
 funs : (funs m).length ≤ 4000000
 tabs : (tabs m).length ≤ 4000000
 mems : (mems m).length ≤ 4000000
 globs : (globs m).length ≤ 4000000
 exports : m.exports.length ≤ 4000000
theorem Lots.some {m : M} (h : Lots m) : cm m where
 types := Nat.le_trans h.types (by decide)
 each x hx := ⟨Nat.le_trans (h.each x hx).1 (by decide), Nat.le_trans (h.each x hx).2 (by decide)⟩
 funs := by have := bE m 0; have := h.imports; have := h.funcs; simp [Sp.funs]; omega
 tabs := by have := bE m 1; have := h.imports; have := h.tables; simp [Sp.tabs]; omega
 mems := by have := bE m 2; have := h.imports; have := h.mems; simp [Sp.mems]; omega
 globs := by have := bE m 3; have := h.imports; have := h.globals; simp [Sp.globs]; omega
 exports := Nat.le_trans h.exports (by decide)
theorem Few.some {m : M} (h : Few m) : cm m := Lots.some h.lots
def aR (o : Option FT) (w : World) (e : Ending) (w' : World) : Prop := ∃ u v, e = .returned (.tuple #[.agg #[u, v], .bool o.isSome]) ∧ ab w' (w.heap.size ≤ ·) (o.getD ⟨[], []⟩).params u ∧ ab w' (w.heap.size ≤ ·) (o.getD ⟨[], []⟩).results v ∧ Below w.heap.size w w'
theorem aR.func {o : Option FT} {w w' : World} {e : Ending} (h : aR o w e w') : FuncPost o w e w' := by
 obtain ⟨u, v, h1, h2, h3, h4⟩ := h
 exact ⟨u, v, h1, h2.more (fun k hk _ => hk), h3.more (fun k hk _ => hk), h4⟩
theorem bV (p : Option Addr) (m : M) (i : Nat) (w : World) (h : Recv w p m) (hl : cm m) (hi : i < 4294967296) :
  Calls Tryz.prog 111 #[.pointer p, .int .u32 (i : Int)] w fun e w' => bz ((globs m)[i]?) w e w' := by
 obtain ⟨D, hu, hd⟩ := descOf cU
 have HU := J hu
 have HD := J hd
 clear hu hd
 have HL := J hl.globs
 have HZ0 := J (heap_alloc_new w (.cells #[.int .u8 0, .bool false] 76))
 have HB0 : Hid (Below w.heap.size w (w.alloc (.cells #[.int .u8 0, .bool false] 76))) := J ((Below.refl _ _).alloc (Nat.le_refl _) _)
 have HR := J (h.grow HB0.out)
 clear h hl
 go_enter Tryz.func111, Tryz.ntmps111
 go_upto_region 1 with fail
 generalize w.alloc (.cells #[.int .u8 0, .bool false] 76) = w0 at HZ0 HB0 HR ⊢
 obtain ⟨Y, hY⟩ : ∃ Y, w.heap.size = Y := ⟨_, rfl⟩
 rw [hY] at HZ0
 have HY : Hid (w.heap.size ≤ Y) := J (by omega)
 simp only [hY]
 clear hY
 go_wp2_with (first | (go_at_call 42; refine (aO p m w0 HR.out).mono ?_; rintro e w1 ⟨P, rfl, hs, hb⟩; have HB1 := J (HB0.out.trans (hb.mono HB0.out.size)); have HZ1 := J ((hb.block Y (Array.getElem?_eq_some_iff.1 HZ0.out).1).trans HZ0.out); obtain ⟨A1, d1, A2, d2, A3, d3, A4, d4, A5, d5, A6, d6, h0, h1, h2, h3, h4, h5, h6⟩ := hs; obtain ⟨b0, b1, b2, b3, b4, b5, b6, b7, b8, b9⟩ := be h0; have HS := J h5; clear hb h0 h1 h2 h3 h4 h5 h6) | (go_at_call 121; refine (satG_any (globs m) _ i w1 HS.out hi HL.out).mono ?_; rintro e w2 ⟨rfl, hb⟩; have HB2 := J (HB1.out.trans (hb.mono HB1.out.size)); have HZ2 := J ((hb.block Y (Array.getElem?_eq_some_iff.1 HZ1.out).1).trans HZ1.out); clear hb b0 b1 b2 b3 b4 b5 b6 b7 b8 b9) | (refine aj rfl 76 (.tmp 4) (.tmp 14) rfl rfl Y (globArr (((globs m)[i]?).getD ⟨0, false⟩)) rfl rfl 76 #[.int .u8 0, .bool false] HZ2.out ao rfl (by simp [globArr, Value.oneCell']) ?_))
 refine bodyPost_ret (v := .tuple #[.agg (globArr (((globs m)[i]?).getD ⟨0, false⟩)), .bool ((globs m)[i]?).isSome]) (au (p := 4) (q := 5) (ty := 76) (by kernel_rfl) _ _ Y 76 (globArr (((globs m)[i]?).getD ⟨0, false⟩)) (0, 0) D rfl (setRow_heap _ _ #[.int .u8 0, .bool false] _ _ _ HZ2.out) HU.out HD.out ao (.bool ((globs m)[i]?).isSome) rfl) rfl ?_
 exact ⟨rfl, ac HB2.out HY.out _⟩
theorem dB (p : Option Addr) (m : M) (i : Nat) (w : World) (h : Recv w p m) (hl : cm m) (hi : i < 4294967296) :
  Calls Tryz.prog 56 #[.pointer p, .int .u32 (i : Int)] w fun e w' => bC ((tabs m)[i]?) w e w' := by
 obtain ⟨D, hu, hd⟩ := descOf cH
 have HU := J hu
 have HD := J hd
 clear hu hd
 have HL := J hl.tabs
 have HZ0 := J (heap_alloc_new w (.cells #[.int .u32 0, .int .i64 0] 65))
 have HB0 : Hid (Below w.heap.size w (w.alloc (.cells #[.int .u32 0, .int .i64 0] 65))) := J ((Below.refl _ _).alloc (Nat.le_refl _) _)
 have HR := J (h.grow HB0.out)
 clear h hl
 go_enter Tryz.func56, Tryz.ntmps56
 go_upto_region 1 with fail
 generalize w.alloc (.cells #[.int .u32 0, .int .i64 0] 65) = w0 at HZ0 HB0 HR ⊢
 obtain ⟨Y, hY⟩ : ∃ Y, w.heap.size = Y := ⟨_, rfl⟩
 rw [hY] at HZ0
 have HY : Hid (w.heap.size ≤ Y) := J (by omega)
 simp only [hY]
 clear hY
 go_wp2_with (first | (go_at_call 42; refine (aO p m w0 HR.out).mono ?_; rintro e w1 ⟨P, rfl, hs, hb⟩; have HB1 := J (HB0.out.trans (hb.mono HB0.out.size)); have HZ1 := J ((hb.block Y (Array.getElem?_eq_some_iff.1 HZ0.out).1).trans HZ0.out); obtain ⟨A1, d1, A2, d2, A3, d3, A4, d4, A5, d5, A6, d6, h0, h1, h2, h3, h4, h5, h6⟩ := hs; obtain ⟨b0, b1, b2, b3, b4, b5, b6, b7, b8, b9⟩ := be h0; have HS := J h3; clear hb h0 h1 h2 h3 h4 h5 h6) | (go_at_call 94; refine (satL_any (tabs m) _ i w1 HS.out hi HL.out).mono ?_; rintro e w2 ⟨rfl, hb⟩; have HB2 := J (HB1.out.trans (hb.mono HB1.out.size)); have HZ2 := J ((hb.block Y (Array.getElem?_eq_some_iff.1 HZ1.out).1).trans HZ1.out); clear hb b0 b1 b2 b3 b4 b5 b6 b7 b8 b9) | (refine aj rfl 65 (.tmp 4) (.tmp 14) rfl rfl Y (limArr (((tabs m)[i]?).getD ⟨0, 0⟩)) rfl rfl 65 #[.int .u32 0, .int .i64 0] HZ2.out aT rfl (by simp [limArr, Value.oneCell']) ?_))
 refine bodyPost_ret (v := .tuple #[.agg (limArr (((tabs m)[i]?).getD ⟨0, 0⟩)), .bool ((tabs m)[i]?).isSome]) (au (p := 4) (q := 5) (ty := 65) (by kernel_rfl) _ _ Y 65 (limArr (((tabs m)[i]?).getD ⟨0, 0⟩)) (0, 0) D rfl (setRow_heap _ _ #[.int .u32 0, .int .i64 0] _ _ _ HZ2.out) HU.out HD.out aT (.bool ((tabs m)[i]?).isSome) rfl) rfl ?_
 exact ⟨rfl, ac HB2.out HY.out _⟩
theorem dA (p : Option Addr) (m : M) (i : Nat) (w : World) (h : Recv w p m) (hl : cm m) (hi : i < 4294967296) :
  Calls Tryz.prog 58 #[.pointer p, .int .u32 (i : Int)] w fun e w' => bC ((mems m)[i]?) w e w' := by
 obtain ⟨D, hu, hd⟩ := descOf cH
 have HU := J hu
 have HD := J hd
 clear hu hd
 have HL := J hl.mems
 have HZ0 := J (heap_alloc_new w (.cells #[.int .u32 0, .int .i64 0] 65))
 have HB0 : Hid (Below w.heap.size w (w.alloc (.cells #[.int .u32 0, .int .i64 0] 65))) := J ((Below.refl _ _).alloc (Nat.le_refl _) _)
 have HR := J (h.grow HB0.out)
 clear h hl
 go_enter Tryz.func58, Tryz.ntmps58
 go_upto_region 1 with fail
 generalize w.alloc (.cells #[.int .u32 0, .int .i64 0] 65) = w0 at HZ0 HB0 HR ⊢
 obtain ⟨Y, hY⟩ : ∃ Y, w.heap.size = Y := ⟨_, rfl⟩
 rw [hY] at HZ0
 have HY : Hid (w.heap.size ≤ Y) := J (by omega)
 simp only [hY]
 clear hY
 go_wp2_with (first | (go_at_call 42; refine (aO p m w0 HR.out).mono ?_; rintro e w1 ⟨P, rfl, hs, hb⟩; have HB1 := J (HB0.out.trans (hb.mono HB0.out.size)); have HZ1 := J ((hb.block Y (Array.getElem?_eq_some_iff.1 HZ0.out).1).trans HZ0.out); obtain ⟨A1, d1, A2, d2, A3, d3, A4, d4, A5, d5, A6, d6, h0, h1, h2, h3, h4, h5, h6⟩ := hs; obtain ⟨b0, b1, b2, b3, b4, b5, b6, b7, b8, b9⟩ := be h0; have HS := J h4; clear hb h0 h1 h2 h3 h4 h5 h6) | (go_at_call 94; refine (satL_any (mems m) _ i w1 HS.out hi HL.out).mono ?_; rintro e w2 ⟨rfl, hb⟩; have HB2 := J (HB1.out.trans (hb.mono HB1.out.size)); have HZ2 := J ((hb.block Y (Array.getElem?_eq_some_iff.1 HZ1.out).1).trans HZ1.out); clear hb b0 b1 b2 b3 b4 b5 b6 b7 b8 b9) | (refine aj rfl 65 (.tmp 4) (.tmp 14) rfl rfl Y (limArr (((mems m)[i]?).getD ⟨0, 0⟩)) rfl rfl 65 #[.int .u32 0, .int .i64 0] HZ2.out aT rfl (by simp [limArr, Value.oneCell']) ?_))
 refine bodyPost_ret (v := .tuple #[.agg (limArr (((mems m)[i]?).getD ⟨0, 0⟩)), .bool ((mems m)[i]?).isSome]) (au (p := 4) (q := 5) (ty := 65) (by kernel_rfl) _ _ Y 65 (limArr (((mems m)[i]?).getD ⟨0, 0⟩)) (0, 0) D rfl (setRow_heap _ _ #[.int .u32 0, .int .i64 0] _ _ _ HZ2.out) HU.out HD.out aT (.bool ((mems m)[i]?).isSome) rfl) rfl ?_
 exact ⟨rfl, ac HB2.out HY.out _⟩
theorem cZ (p : Option Addr) (m : M) (i : Nat) (w : World) (h : Recv w p m) (hl : cm m) (hi : i < 4294967296) :
  Calls Tryz.prog 14 #[.pointer p, .int .u32 (i : Int)] w fun e w' => aR (m.types[i]?) w e w' := by
 have HL := J hl.types
 have HE : Hid (((m.types[i]?).getD ⟨[], []⟩).params.length ≤ 4294967296 ∧ ((m.types[i]?).getD ⟨[], []⟩).results.length ≤ 4294967296) := J (by
  cases hx : m.types[i]? with
  | none => simp
  | some x => have := hl.each x (List.mem_of_getElem? hx); simp; omega)
 have HAT := J (fun W v (hv : ab W (· < W.heap.size) m.types v) => satF_any m.types v i W hv hi HL.out)
 generalize m.types[i]? = o at HE HAT ⊢
 obtain ⟨x, hx⟩ : ∃ x, o.getD ⟨[], []⟩ = x := ⟨_, rfl⟩
 have HX := J hx
 rw [hx] at HE HAT
 clear hx
 generalize hbb : o.isSome = bb at HAT
 have HBB := J hbb
 clear hbb
 obtain ⟨p1, hp1⟩ : ∃ p, x.params.length = p := ⟨_, rfl⟩
 obtain ⟨p2, hp2⟩ : ∃ p, x.results.length = p := ⟨_, rfl⟩
 have HCP := J (fun W u v (hu : ab W (· < W.heap.size) x.params u) (hv : ab W (· < W.heap.size) x.results v) => d8 x u v W hu hv HE.out.1 HE.out.2)
 simp only [hp1, hp2] at HAT HCP
 clear hp1 hp2
 obtain ⟨D, hu, hd⟩ := descOf cG
 have HU := J hu
 have HD := J hd
 clear hu hd
 have HZ0 := J (heap_alloc_new w (.cells #[.slice none 0 0, .slice none 0 0] 51))
 have HB0 : Hid (Below w.heap.size w (w.alloc (.cells #[.slice none 0 0, .slice none 0 0] 51))) := J ((Below.refl _ _).alloc (Nat.le_refl _) _)
 have HR := J (h.grow HB0.out)
 clear h hl
 go_enter Tryz.func14, Tryz.ntmps14
 go_upto_region 1 with fail
 generalize w.alloc (.cells #[.slice none 0 0, .slice none 0 0] 51) = w0 at HZ0 HB0 HR ⊢
 obtain ⟨Y, hY⟩ : ∃ Y, w.heap.size = Y := ⟨_, rfl⟩
 rw [hY] at HZ0
 have HY : Hid (w.heap.size ≤ Y) := J (by omega)
 simp only [hY]
 clear hY
 go_upto_region 2 with (first | (go_at_call 42; refine (aO p m w0 HR.out).mono ?_; rintro e w1 ⟨P, rfl, hs, hb⟩; have HB1 := J (HB0.out.trans (hb.mono HB0.out.size)); have HZ1 := J ((hb.block Y (Array.getElem?_eq_some_iff.1 HZ0.out).1).trans HZ0.out); have HR1 := J (HR.out.grow hb); obtain ⟨A1, d1, A2, d2, A3, d3, A4, d4, A5, d5, A6, d6, h0, h1, h2, h3, h4, h5, h6⟩ := hs; obtain ⟨b0, b1, b2, b3, b4, b5, b6, b7, b8, b9⟩ := be h0; have HS := J h1; clear hb h0 h1 h2 h3 h4 h5 h6) | (go_at_call 51; refine (HAT.out w1 _ HS.out).mono ?_; rintro e w2 ⟨E1, f1, E2, f2, rfl, hs1, hs2, hb⟩; have HB2 := J (HB1.out.trans (hb.mono HB1.out.size)); have HZ2 := J ((hb.block Y (Array.getElem?_eq_some_iff.1 HZ1.out).1).trans HZ1.out); have HS1 := J hs1; have HS2 := J hs2; clear hb hs1 hs2 b0 b1 b2 b3 b4 b5 b6 b7 b8 b9))
 have hba : Below w2.heap.size w2 (w2.alloc (.cells #[.slice E1 p1 f1, .slice E2 p2 f2] 51)) := (Below.refl _ _).alloc (Nat.le_refl _) _
 have HT := J (heap_alloc_new w2 (.cells #[.slice E1 p1 f1, .slice E2 p2 f2] 51))
 have HB3 := J (HB2.out.trans (hba.mono HB2.out.size))
 have HZ3 := J ((hba.block Y (Array.getElem?_eq_some_iff.1 HZ2.out).1).trans HZ2.out)
 have HS1 := J (HS1.out.grow hba)
 have HS2 := J (HS2.out.grow hba)
 clear hba
 generalize w2.alloc (.cells #[.slice E1 p1 f1, .slice E2 p2 f2] 51) = w3 at HT HB3 HZ3 HS1 HS2 ⊢
 obtain ⟨t0, t1⟩ := ae HT.out
 go_wp2_with fail
 refine (HCP.out w3 _ _ HS1.out HS2.out).mono ?_
 rintro e w4 ⟨G1, k1, G2, k2, rfl, hs1, hs2, hb⟩
 have HB4 := J (HB3.out.trans (hb.mono HB3.out.size))
 have HZ4 := J ((hb.block Y (Array.getElem?_eq_some_iff.1 HZ3.out).1).trans HZ3.out)
 have HS1 := J (hs1.more (S' := (· < w4.heap.size)) (fun k hk _ => hk))
 have HS2 := J (hs2.more (S' := (· < w4.heap.size)) (fun k hk _ => hk))
 have HS3 := J hs1
 have HS4 := J hs2
 have HYL : Hid (Y < w3.heap.size) := J (Array.getElem?_eq_some_iff.1 HZ3.out).1
 clear hb hs1 hs2 t0 t1
 go_wp2_with (refine aj rfl 51 (.tmp 4) (.tmp 19) rfl rfl Y #[.slice G1 p1 k1, .slice G2 p2 k2] rfl rfl 51 #[.slice none 0 0, .slice none 0 0] HZ4.out al rfl (by simp [Value.oneCell']) ?_)
 refine bodyPost_ret (v := .tuple #[.agg #[.slice G1 p1 k1, .slice G2 p2 k2], .bool bb]) (au (p := 4) (q := 5) (ty := 51) (by kernel_rfl) _ _ Y 51 #[.slice G1 p1 k1, .slice G2 p2 k2] (0, 0) D rfl (setRow_heap _ _ #[.slice none 0 0, .slice none 0 0] _ _ _ (HZ4.out)) HU.out HD.out al (.bool bb) rfl) rfl ?_
 have hms : Mod (· = Y) w4 (w4.setRow Y #[.slice G1 p1 k1, .slice G2 p2 k2]) := ⟨rfl, rfl, rfl, by simp, fun k _ ht => setRow_other w4 Y k _ ht⟩
 refine ⟨_, _, by rw [HBB.out], ?_, ?_, ac HB4.out HY.out _⟩
 ·rw [HX.out]
  exact (HS3.out.mod hms (fun g _ hg e => by have := HYL.out; have e' : g = Y := e; have hg' : w3.heap.size ≤ g := hg; omega)).more (fun k hk hg => Nat.le_trans HB3.out.size hg)
 ·rw [HX.out]
  exact (HS4.out.mod hms (fun g _ hg e => by have := HYL.out; have e' : g = Y := e; have hg' : w3.heap.size ≤ g := hg; omega)).more (fun k hk hg => Nat.le_trans HB3.out.size hg)
end Go.Proofs.YtelcdmkbaegjoaaGreat
namespace Bo
theorem sz_sm {K n : Nat} {s : Ty.T} (h : Sz K n s) : s.sm (n + K) := ⟨by have := h.1; omega, by have := h.2.1; omega, by have := h.2.2.1; omega, fun f hf => ⟨by have := (h.2.2.2 f hf).1; omega, by have := (h.2.2.2 f hf).2; omega⟩⟩
end Bo
namespace Go.Proofs.YtelcdmkbaegjoaaGreat
open Go.RowKit Ins Bin Sp
instance : Lay Bool where
 size := 1
 rep _ _ x cs := cs = [.bool x]
 len h := by rw [h]; rfl
 mod h _ _ := h
 more h _ := h
structure Ctx where
 w0 : World
 sp : Nat
 m : M
 ps : List UInt8
 rs : List UInt8
 ls : List Lc
 v1 : Value
 v2 : Value
 v3 : Value
 v4 : Value
def Ctx.B (C : Ctx) : Nat := C.w0.heap.size
structure Ctx.Good (C : Ctx) : Prop where
 space : aI C.w0 C.sp C.m
 few : Lots C.m
 funs : ∀ t ∈ funs C.m, t < 4294967296
 ps : ab C.w0 (· < C.w0.heap.size) C.ps C.v1
 rs : ab C.w0 (· < C.w0.heap.size) C.rs C.v2
 ls : ab C.w0 (· < C.w0.heap.size) C.ls C.v3
 lp : C.ps.length ≤ 1050000
 lr : C.rs.length ≤ 1050000
 ll : C.ls.length ≤ 1050000
def Ctx.env (C : Ctx) : Bo.Env := ⟨fun i => (func C.m i).map Bo.ftP, ((tabs C.m)[0]?).isSome, fun i => (C.m.types[i]?).map Bo.ftP, fun i => Bo.local' C.ps C.ls i, fun i => ((globs C.m)[i]?).map fun g => (g.t, g.mu), ((mems C.m)[0]?).isSome, C.rs⟩
structure Wk (C : Ctx) (R P : Nat) (w : World) (G : Nat → Prop) (s : Ty.T) (o : List Bool) : Prop where
 base : Below C.B C.w0 w
 all : ∃ F vo, w.heap[R]? = some (.cells #[.pointer (some ⟨C.sp, 0, none⟩), C.v1, C.v2, C.v3, C.v4, .pointer (some ⟨P, 0, none⟩), vo] 119 (0, 0)) ∧
  AtF w F P s ∧ OwnL 4 w C.B (fun _ => False) vo o ∧ (∀ k, F k → G k ∧ k ≠ R ∧ vo.ownBlock ≠ some k) ∧ (∀ k, vo.ownBlock = some k → G k ∧ k ≠ R)
 inR : G R
 out : ∀ k, G k → C.B ≤ k ∧ k < w.heap.size
def Apt (w : World) (G : Nat → Prop) : Nat → Prop := fun k => ¬ G k ∧ k < w.heap.size
theorem Apt.next {α : Type} [Lay α] {w w' : World} {G G' : Nat → Prop} {xs : List α} {v : Value} (h : ab w (Apt w G) xs v) (hn : Nxt G w G' w') : ab w' (Apt w' G') xs v :=
 (h.mod hn.2 (fun _ _ hk => hk.1)).more (fun k _ hk => ⟨fun hg => by
  rcases hn.1 k hg with h | h
  ·exact hk.1 h
  ·have := hk.2; omega, Nat.lt_of_lt_of_le hk.2 hn.2.size⟩)
theorem Nxt.refl (G : Nat → Prop) (w : World) : Nxt G w G w := ⟨fun _ h => .inl h, Mod.refl _ _⟩
theorem Nxt.of_below {G : Nat → Prop} {w w' : World} (hb : Below w.heap.size w w') : Nxt G w G w' := ⟨fun _ h => .inl h, Mod.of_below hb⟩
theorem Nxt.trans {G G1 G2 : Nat → Prop} {w w1 w2 : World} (h : Nxt G w G1 w1) (h' : Nxt G1 w1 G2 w2) : Nxt G w G2 w2 :=
 ⟨fun k hk => by
  rcases h'.1 k hk with h1 | h1
  ·exact h.1 k h1
  ·exact .inr (Nat.le_trans h.2.size h1), h.2.trans h'.2 (fun k hk hg => by
  rcases h.1 k hg with h1 | h1
  ·exact h1
  ·omega)⟩
section
variable {C : Ctx} {R P n : Nat} {w : World} {G : Nat → Prop} {s : Ty.T} {o : List Bool}
theorem Wk.old {α : Type} [Lay α] {xs : List α} {v : Value} (h : Wk C R P w G s o) (hs : ab C.w0 (· < C.w0.heap.size) xs v) : ab w (Apt w G) xs v :=
 (hs.mod (Mod.of_base h.base) (fun k _ hk e => by have hk' : k < C.w0.heap.size := hk; have e' : C.w0.heap.size ≤ k := e; omega)).more (fun k hk hk2 => ⟨fun hg => by have := (h.out k hg).1; have hk3 : k < C.w0.heap.size := hk2; unfold Ctx.B at this; omega, hk⟩)
theorem Wk.fresh {α : Type} [Lay α] {w' : World} {xs : List α} {v : Value} (h : Wk C R P w G s o) (_hb : Below w.heap.size w w') (hs : ab w' (w.heap.size ≤ ·) xs v) : ab w' (Apt w' G) xs v :=
 hs.more (fun k hk hk2 => ⟨fun hg => by have := (h.out k hg).2; have hk3 : w.heap.size ≤ k := hk2; omega, hk⟩)
theorem Wk.on {w' : World} (h : Wk C R P w G s o) (hb : Below w.heap.size w w') : Wk C R P w' G s o := by
 obtain ⟨F, vo, h1, h2, h3, h4, h5⟩ := h.all
 refine ⟨h.base.trans (hb.mono h.base.size), ⟨F, vo, (hb.block R (Array.getElem?_eq_some_iff.1 h1).1).trans h1, h2.on hb, h3.mod (T := fun _ => False) (Mod.of_below hb) (fun _ _ h => h) (fun _ _ _ h => h), h4, h5⟩, h.inR, fun k hk => ⟨(h.out k hk).1, Nat.lt_of_lt_of_le (h.out k hk).2 hb.size⟩⟩
theorem Wk.lt (h : Wk C R P w G s o) : R < w.heap.size := (h.out R h.inR).2
theorem Wk.cells (h : Wk C R P w G s o) : w.cell? ⟨R, 0, none⟩ = some (.pointer (some ⟨C.sp, 0, none⟩)) ∧ w.cell? ⟨R, 1, none⟩ = some C.v1 ∧ w.cell? ⟨R, 2, none⟩ = some C.v2 ∧ w.cell? ⟨R, 3, none⟩ = some C.v3 ∧ w.cell? ⟨R, 4, none⟩ = some C.v4 ∧ w.cell? ⟨R, 5, none⟩ = some (.pointer (some ⟨P, 0, none⟩)) := by
 obtain ⟨F, vo, h1, _⟩ := h.all
 refine ⟨?_, ?_, ?_, ?_, ?_, ?_⟩ <;> (rw [cell_of_row w R _ _ _ (0, 0) h1]; rfl)
theorem Wk.below (h : Wk C R P w G s o) {w' : World} {G' : Nat → Prop} (hn : Nxt G w G' w') : Below C.B C.w0 w' :=
 h.base.trans (hn.2.below h.base.size (fun k hk hg => by have := (h.out k hg).1; omega))
theorem Wk.stk {w' : World} {s' : Ty.T} {F F' : Nat → Prop} {vo : Value} (h : Wk C R P w G s o)
  (h1 : w.heap[R]? = some (.cells #[.pointer (some ⟨C.sp, 0, none⟩), C.v1, C.v2, C.v3, C.v4, .pointer (some ⟨P, 0, none⟩), vo] 119 (0, 0)))
  (h3 : OwnL 4 w C.B (fun _ => False) vo o) (h4 : ∀ k, F k → G k ∧ k ≠ R ∧ vo.ownBlock ≠ some k) (h5 : ∀ k, vo.ownBlock = some k → G k ∧ k ≠ R)
  (ha : AtF w' F' P s') (hn : Nxt F w F' w') : ∃ G', Wk C R P w' G' s' o ∧ Nxt G w G' w' := by
 have hb : Nxt G w (fun k => G k ∨ F' k) w' := ⟨fun k hk => by
  rcases hk with h | h
  ·exact .inl h
  ·exact (hn.1 k h).imp (fun h => (h4 k h).1) id, hn.2.more (fun k _ hf => (h4 k hf).1)⟩
 refine ⟨fun k => G k ∨ F' k, ⟨h.below hb, ⟨F', vo, hn.2.heap h1 (fun hf => (h4 R hf).2.1 rfl), ha, h3.mod hn.2 (fun g hg hf => (h4 g hf).2.2 hg) (fun _ _ h => h.elim), fun k hk => ⟨.inr hk, ?_, ?_⟩, fun k hk => ⟨.inl (h5 k hk).1, (h5 k hk).2⟩⟩, .inl h.inR, fun k hk => ?_⟩, hb⟩
 ·rcases hn.1 k hk with hf | hf
  ·exact (h4 k hf).2.1
  ·have := h.lt; omega
 ·rcases hn.1 k hk with hf | hf
  ·exact (h4 k hf).2.2
  ·intro e
   have := (h3.lt k e).2
   omega
 ·rcases hk with hk | hk
  ·exact ⟨(h.out k hk).1, Nat.lt_of_lt_of_le (h.out k hk).2 hn.2.size⟩
  ·refine ⟨?_, ha.2.2 k hk⟩
   rcases hn.1 k hk with hf | hf
   ·exact (h.out k (h4 k hf).1).1
   ·exact Nat.le_trans h.base.size hf
theorem ab.form {w : World} {S : Nat → Prop} {l : List UInt8} {v : Value} (h : ab w S l v) : ∃ A c, v = .slice A l.length c ∧ Has w w.heap.size A l := by
 obtain ⟨A, c, h1, _, _, _, h5⟩ := h
 exact ⟨A, c, h1, h5.has⟩
theorem wk_push (h : Wk C R P w G s o) (hs : s.sm n) (hn : n ≤ 500000000) (l : List UInt8) (v : Value) (hv : ab w (Apt w G) l v) (hl : l.length ≤ 400000000) :
  Calls Tryz.prog 105 #[.pointer (some ⟨P, 0, none⟩), v] w fun e w' => e = .returned (.tuple #[]) ∧ ∃ G', Wk C R P w' G' (s.push l) o ∧ Nxt G w G' w' := by
 obtain ⟨F, vo, h1, h2, h3, h4, h5⟩ := h.all
 obtain ⟨A, c, rfl, hA⟩ := hv.form
 refine (at_push h2 hs hn l A c hA hl).mono ?_
 rintro e w' ⟨rfl, F', q1, q2⟩
 exact ⟨rfl, h.stk h1 h3 h4 h5 q1 q2⟩
theorem eE (h : Wk C R P w G s o) (hs : s.sm n) (hn : n ≤ 500000000) (l : List UInt8) (v : Value) (hv : ab w (Apt w G) l v) (hl : l.length ≤ 400000000) :
  Calls Tryz.prog 104 #[.pointer (some ⟨P, 0, none⟩), v] w fun e w' => e = .returned (.bool (s.wantA l)) ∧ ∃ G', Wk C R P w' G' (s.want l) o ∧ Nxt G w G' w' := by
 obtain ⟨F, vo, h1, h2, h3, h4, h5⟩ := h.all
 obtain ⟨A, c, rfl, hA⟩ := hv.form
 refine (at_want h2 hs hn l A c hA hl).mono ?_
 rintro e w' ⟨rfl, F', q1, q2⟩
 exact ⟨rfl, h.stk h1 h3 h4 h5 q1 q2⟩
theorem wk_pop (h : Wk C R P w G s o) (hs : s.sm n) (hn : n ≤ 500000000) :
  Calls Tryz.prog 109 #[.pointer (some ⟨P, 0, none⟩)] w fun e w' => e = .returned (.tuple #[.int .u8 (s.popA.1.toNat : Int), .bool s.popA.2]) ∧ ∃ G', Wk C R P w' G' s.pop o ∧ Nxt G w G' w' := by
 obtain ⟨F, vo, h1, h2, h3, h4, h5⟩ := h.all
 refine (at_pop h2 hs hn).mono ?_
 rintro e w' ⟨rfl, F', q1, q2⟩
 exact ⟨rfl, h.stk h1 h3 h4 h5 q1 q2⟩
theorem wk_dead (h : Wk C R P w G s o) (hs : s.sm n) (hn : n ≤ 500000000) :
  Calls Tryz.prog 120 #[.pointer (some ⟨P, 0, none⟩)] w fun e w' => e = .returned (.tuple #[]) ∧ ∃ G', Wk C R P w' G' s.kill o ∧ Nxt G w G' w' := by
 obtain ⟨F, vo, h1, h2, h3, h4, h5⟩ := h.all
 refine (at_dead h2 hs hn).mono ?_
 rintro e w' ⟨rfl, F', q1, q2⟩
 exact ⟨rfl, h.stk h1 h3 h4 h5 q1 q2⟩
theorem ck (h : Wk C R P w G s o) (hs : s.sm n) (hn : n ≤ 500000000) (a b : List UInt8) (va vb : Value) (ha : ab w (Apt w G) a va) (hb : ab w (Apt w G) b vb) (hl1 : a.length ≤ 400000000) (hl2 : b.length ≤ 400000000) :
  Calls Tryz.prog 70 #[.pointer (some ⟨P, 0, none⟩), va, vb] w fun e w' => e = .returned (.tuple #[]) ∧ ∃ G', Wk C R P w' G' (s.op a b) o ∧ Nxt G w G' w' := by
 obtain ⟨F, vo, h1, h2, h3, h4, h5⟩ := h.all
 refine (at_open h2 hs hn a b va vb (ha.more (fun _ hk _ => hk)) (hb.more (fun _ hk _ => hk)) hl1 hl2).mono ?_
 rintro e w' ⟨rfl, F', q1, q2⟩
 exact ⟨rfl, h.stk h1 h3 h4 h5 q1 q2⟩
theorem bZ (h : Wk C R P w G s o) (hs : s.sm n) (hn : n ≤ 500000000) (k : Nat) (hk : k < 4294967296) :
  Calls Tryz.prog 106 #[.pointer (some ⟨P, 0, none⟩), .int .u32 (k : Int)] w fun e w' => ansS (w.heap.size ≤ ·) (s.labelA k) e w' ∧ Below w.heap.size w w' := by
 obtain ⟨F, vo, h1, h2, h3, h4, h5⟩ := h.all
 exact at_label h2 hs hn k hk
end
def ai (C : Ctx) (R P : Nat) (G : Nat → Prop) (o' : List Bool) (w : World) (r : Bo.R) (e : Ending) (w' : World) : Prop :=
 match r with
 | .error n => e = .returned (.int .i64 (n : Int)) ∧ Below C.B C.w0 w'
 | .ok s' => e = .returned (.int .i64 0) ∧ ∃ G', Wk C R P w' G' s' o' ∧ Nxt G w G' w'
theorem ai.ahead {C : Ctx} {R P : Nat} {G G1 : Nat → Prop} {o' : List Bool} {w w1 w' : World} {r : Bo.R} {e : Ending} (hn : Nxt G w G1 w1) (h : ai C R P G1 o' w1 r e w') : ai C R P G o' w r e w' := by
 cases r with
 | error n => exact h
 | ok s' =>
  obtain ⟨h1, G', h2, h3⟩ := h
  exact ⟨h1, G', h2, hn.trans h3⟩
end Go.Proofs.YtelcdmkbaegjoaaGreat
