/-
  Layer 8's program: a space that is nil, or there; a row's entry by number. (gen/space/ask1.py)
-/
import Derived.Test.YtelcdmkbaegjoaaGreatLq01
import Derived.Test.YtelcdmkbaegjoaaGreatLq31
set_option maxRecDepth 100000
set_option maxHeartbeats 4000000
namespace Go.Proofs.YtelcdmkbaegjoaaGreat
open Go.RowKit Ins Bin Sp
def noM : M := ⟨[], [], [], [], [], [], [], false, 0, [], [], []⟩
def Recv (w : World) (p : Option Addr) (m : M) : Prop := (∃ P, p = some ⟨P, 0, none⟩ ∧ aK w P m) ∨ (p = none ∧ m = noM)
theorem Recv.grow {w w' : World} {p : Option Addr} {m : M} (h : Recv w p m) (hb : Below w.heap.size w w') : Recv w' p m := by
 rcases h with ⟨P, rfl, h⟩ | h
 ·exact .inl ⟨P, rfl, h.grow hb⟩
 ·exact .inr h
theorem aS (p : Option Addr) (m : M) (w : World) (h : Recv w p m) :
  Calls Tryz.prog 42 #[.pointer p] w fun e w' => ∃ P, e = .returned (.pointer (some ⟨P, 0, none⟩)) ∧ aK w' P m ∧ Below w.heap.size w w' := by
 rcases h with ⟨P, rfl, h⟩ | ⟨rfl, rfl⟩
 ·have HS := J h
  clear h
  go_enter Tryz.func42, Tryz.ntmps42
  go_wp2
  go_ret
  exact ⟨P, rfl, HS.out, Below.refl _ _⟩
 ·go_enter Tryz.func42, Tryz.ntmps42
  go_wp2
  go_ret
  refine ⟨w.heap.size, rfl, ⟨none, 0, none, 0, none, 0, none, 0, none, 0, none, 0, heap_alloc_new w _, ab.nil _ _, ab.nil _ _, ab.nil _ _, ab.nil _ _, ab.nil _ _, ab.nil _ _⟩, (Below.refl _ _).alloc (Nat.le_refl _) _⟩
theorem satU_any (xs : List Nat) (v : Value) (i : Nat) (w : World) (hv : ab w (· < w.heap.size) xs v) (hi : i < 4294967296) (hl : xs.length ≤ 4000000) :
  Calls Tryz.prog 44 #[v, .int .u32 (i : Int)] w fun e w' => e = .returned (.tuple #[.int .u32 ((xs[i]?.getD 0 : Nat) : Int), .bool (xs[i]?).isSome]) ∧ w' = w := by
 obtain ⟨A, c, rfl, _, _, _, hL⟩ := hv
 have HL := J hL
 obtain ⟨n, hn⟩ : ∃ n, xs.length = n := ⟨_, rfl⟩
 rw [hn] at hl ⊢
 clear hL
 cases hx : xs[i]? with
 | none =>
  have hge : (n : Int) ≤ (i : Int) := by have := List.getElem?_eq_none_iff.1 hx; omega
  have hgen : n ≤ i := by omega
  clear hx hn
  go_enter Tryz.func44, Tryz.ntmps44
  go_wp2
  go_ret2
  exact ⟨rfl, rfl⟩
 | some x =>
  have hge : decide ((n : Int) ≤ (i : Int)) = false := decide_eq_false (by have := (List.getElem?_eq_some_iff.1 hx).1; omega)
  have hgen : decide (n ≤ i) = false := decide_eq_false (by have := (List.getElem?_eq_some_iff.1 hx).1; omega)
  have hlt : (i : Int) < (n : Int) := by have := (List.getElem?_eq_some_iff.1 hx).1; omega
  obtain ⟨g, o, rfl, hg, hc, hxl⟩ := eu HL.out hx
  clear hx hn
  go_enter Tryz.func44, Tryz.ntmps44
  go_wp2
  go_ret2
  exact ⟨rfl, rfl⟩
theorem satL_any (xs : List Lim) (v : Value) (i : Nat) (w : World) (hv : ab w (· < w.heap.size) xs v) (hi : i < 4294967296) (hl : xs.length ≤ 4000000) :
  Calls Tryz.prog 94 #[v, .int .u32 (i : Int)] w fun e w' => e = .returned (.tuple #[.agg (limArr (xs[i]?.getD ⟨0, 0⟩)), .bool (xs[i]?).isSome]) ∧ Below w.heap.size w w' := by
 obtain ⟨D, hu, hd⟩ := descOf cL
 have HU := J hu
 have HD := J hd
 clear hu hd
 obtain ⟨A, c, rfl, _, _, _, hL⟩ := hv
 have HL := J hL
 obtain ⟨n, hn⟩ : ∃ n, xs.length = n := ⟨_, rfl⟩
 rw [hn] at hl ⊢
 clear hL
 have HZ0 := J (heap_alloc_new w (.cells #[.int .u32 0, .int .i64 0] 65))
 have HB0 : Hid (Below w.heap.size w (w.alloc (.cells #[.int .u32 0, .int .i64 0] 65))) := J ((Below.refl _ _).alloc (Nat.le_refl _) _)
 cases hx : xs[i]? with
 | none =>
  have hge : (n : Int) ≤ (i : Int) := by have := List.getElem?_eq_none_iff.1 hx; omega
  have hgen : n ≤ i := by omega
  clear hx hn
  go_enter Tryz.func94, Tryz.ntmps94
  go_upto_region 1 with fail
  generalize w.alloc (.cells #[.int .u32 0, .int .i64 0] 65) = w0 at HZ0 HB0 ⊢
  obtain ⟨Y, hY⟩ : ∃ Y, w.heap.size = Y := ⟨_, rfl⟩
  rw [hY] at HZ0
  have HY : Hid (w.heap.size ≤ Y) := J (by omega)
  simp only [hY]
  clear hY
  have HB1 : Hid (Below w.heap.size w (w0.alloc (.cells #[.int .u32 0, .int .i64 0] 65))) := J (HB0.out.alloc HB0.out.size _)
  have HZ1 : Hid ((w0.alloc (.cells #[.int .u32 0, .int .i64 0] 65)).heap[Y]? = some (.cells #[.int .u32 0, .int .i64 0] 65 (0, 0))) := J ((Below.heap_alloc w0 _ _ (Array.getElem?_eq_some_iff.1 HZ0.out).1).trans HZ0.out)
  have HN1 := J (heap_alloc_new w0 (.cells #[.int .u32 0, .int .i64 0] 65))
  go_upto_region 3 with fail
  generalize w0.alloc (.cells #[.int .u32 0, .int .i64 0] 65) = w1 at HZ1 HB1 HN1 ⊢
  obtain ⟨n0, n1⟩ := ae HN1.out
  go_wp2_with (refine aj rfl 65 (.tmp 4) (.tmp 13) rfl rfl Y #[.int .u32 0, .int .i64 0] rfl rfl 65 #[.int .u32 0, .int .i64 0] HZ1.out aX rfl (by simp [Value.oneCell']) ?_)
  refine bodyPost_ret (v := .tuple #[.agg #[.int .u32 0, .int .i64 0], .bool false]) (au (p := 4) (q := 5) (ty := 65) (by kernel_rfl) _ _ Y 65 #[.int .u32 0, .int .i64 0] (0, 0) D rfl (setRow_heap _ _ #[.int .u32 0, .int .i64 0] _ _ _ HZ1.out) HU.out HD.out aX (.bool false) rfl) rfl ?_
  exact ⟨rfl, ac HB1.out HY.out _⟩
 | some x =>
  have hge : decide ((n : Int) ≤ (i : Int)) = false := decide_eq_false (by have := (List.getElem?_eq_some_iff.1 hx).1; omega)
  have hgen : decide (n ≤ i) = false := decide_eq_false (by have := (List.getElem?_eq_some_iff.1 hx).1; omega)
  have hlt : (i : Int) < (n : Int) := by have := (List.getElem?_eq_some_iff.1 hx).1; omega
  obtain ⟨g, o, rfl, hg, hc0, hc1⟩ := lim_at HL.out hx
  have z0 := (HB0.out.cell (p := ⟨g, o + i * 2, none⟩) hg).trans hc0
  have z1 := (HB0.out.cell (p := ⟨g, o + i * 2 + 1, none⟩) hg).trans hc1
  clear hx hn hc0 hc1
  go_enter Tryz.func94, Tryz.ntmps94
  go_upto_region 1 with fail
  generalize w.alloc (.cells #[.int .u32 0, .int .i64 0] 65) = w0 at HZ0 HB0 z0 z1 ⊢
  obtain ⟨Y, hY⟩ : ∃ Y, w.heap.size = Y := ⟨_, rfl⟩
  rw [hY] at HZ0
  have HY : Hid (w.heap.size ≤ Y) := J (by omega)
  simp only [hY]
  clear hY
  go_wp2_with (refine aj rfl 65 (.tmp 4) (.tmp 17) rfl rfl Y #[.int .u32 (x.min : Int), .int .i64 x.max] rfl rfl 65 #[.int .u32 0, .int .i64 0] HZ0.out aX rfl (by simp [Value.oneCell']) ?_)
  refine bodyPost_ret (v := .tuple #[.agg #[.int .u32 (x.min : Int), .int .i64 x.max], .bool true]) (au (p := 4) (q := 5) (ty := 65) (by kernel_rfl) _ _ Y 65 #[.int .u32 (x.min : Int), .int .i64 x.max] (0, 0) D rfl (setRow_heap _ _ #[.int .u32 0, .int .i64 0] _ _ _ HZ0.out) HU.out HD.out aX (.bool true) rfl) rfl ?_
  exact ⟨rfl, ac HB0.out HY.out _⟩
theorem glob_at {w : World} {S : Nat → Prop} {A : Option Addr} {xs : List Glob} {k : Nat} {x : Glob} (h : HasL w S A xs) (hx : xs[k]? = some x) : ∃ g o, A = some ⟨g, o, none⟩ ∧ g < w.heap.size ∧ w.cell? ⟨g, o + k * 2, none⟩ = some (.int .u8 (x.t.toNat : Int)) ∧ w.cell? ⟨g, o + k * 2 + 1, none⟩ = some (.bool x.mu) := by
 obtain ⟨g, o, cs, h1, _, h3, h4, h6⟩ := h k x hx
 have h4' : cs = globCells x := h4
 subst h4'
 exact ⟨g, o, h1, h3, h6 0 _ rfl, h6 1 _ rfl⟩
theorem satG_any (xs : List Glob) (v : Value) (i : Nat) (w : World) (hv : ab w (· < w.heap.size) xs v) (hi : i < 4294967296) (hl : xs.length ≤ 4000000) :
  Calls Tryz.prog 121 #[v, .int .u32 (i : Int)] w fun e w' => e = .returned (.tuple #[.agg (globArr (xs[i]?.getD ⟨0, false⟩)), .bool (xs[i]?).isSome]) ∧ Below w.heap.size w w' := by
 obtain ⟨D, hu, hd⟩ := descOf cW
 have HU := J hu
 have HD := J hd
 clear hu hd
 obtain ⟨A, c, rfl, _, _, _, hL⟩ := hv
 have HL := J hL
 obtain ⟨n, hn⟩ : ∃ n, xs.length = n := ⟨_, rfl⟩
 rw [hn] at hl ⊢
 clear hL
 have HZ0 := J (heap_alloc_new w (.cells #[.int .u8 0, .bool false] 76))
 have HB0 : Hid (Below w.heap.size w (w.alloc (.cells #[.int .u8 0, .bool false] 76))) := J ((Below.refl _ _).alloc (Nat.le_refl _) _)
 cases hx : xs[i]? with
 | none =>
  have hge : (n : Int) ≤ (i : Int) := by have := List.getElem?_eq_none_iff.1 hx; omega
  have hgen : n ≤ i := by omega
  clear hx hn
  go_enter Tryz.func121, Tryz.ntmps121
  go_upto_region 1 with fail
  generalize w.alloc (.cells #[.int .u8 0, .bool false] 76) = w0 at HZ0 HB0 ⊢
  obtain ⟨Y, hY⟩ : ∃ Y, w.heap.size = Y := ⟨_, rfl⟩
  rw [hY] at HZ0
  have HY : Hid (w.heap.size ≤ Y) := J (by omega)
  simp only [hY]
  clear hY
  have HB1 : Hid (Below w.heap.size w (w0.alloc (.cells #[.int .u8 0, .bool false] 76))) := J (HB0.out.alloc HB0.out.size _)
  have HZ1 : Hid ((w0.alloc (.cells #[.int .u8 0, .bool false] 76)).heap[Y]? = some (.cells #[.int .u8 0, .bool false] 76 (0, 0))) := J ((Below.heap_alloc w0 _ _ (Array.getElem?_eq_some_iff.1 HZ0.out).1).trans HZ0.out)
  have HN1 := J (heap_alloc_new w0 (.cells #[.int .u8 0, .bool false] 76))
  go_upto_region 3 with fail
  generalize w0.alloc (.cells #[.int .u8 0, .bool false] 76) = w1 at HZ1 HB1 HN1 ⊢
  obtain ⟨n0, n1⟩ := ae HN1.out
  go_wp2_with (refine aj rfl 76 (.tmp 4) (.tmp 13) rfl rfl Y #[.int .u8 0, .bool false] rfl rfl 76 #[.int .u8 0, .bool false] HZ1.out am rfl (by simp [Value.oneCell']) ?_)
  refine bodyPost_ret (v := .tuple #[.agg #[.int .u8 0, .bool false], .bool false]) (au (p := 4) (q := 5) (ty := 76) (by kernel_rfl) _ _ Y 76 #[.int .u8 0, .bool false] (0, 0) D rfl (setRow_heap _ _ #[.int .u8 0, .bool false] _ _ _ HZ1.out) HU.out HD.out am (.bool false) rfl) rfl ?_
  exact ⟨rfl, ac HB1.out HY.out _⟩
 | some x =>
  have hge : decide ((n : Int) ≤ (i : Int)) = false := decide_eq_false (by have := (List.getElem?_eq_some_iff.1 hx).1; omega)
  have hgen : decide (n ≤ i) = false := decide_eq_false (by have := (List.getElem?_eq_some_iff.1 hx).1; omega)
  have hlt : (i : Int) < (n : Int) := by have := (List.getElem?_eq_some_iff.1 hx).1; omega
  obtain ⟨g, o, rfl, hg, hc0, hc1⟩ := glob_at HL.out hx
  have z0 := (HB0.out.cell (p := ⟨g, o + i * 2, none⟩) hg).trans hc0
  have z1 := (HB0.out.cell (p := ⟨g, o + i * 2 + 1, none⟩) hg).trans hc1
  clear hx hn hc0 hc1
  go_enter Tryz.func121, Tryz.ntmps121
  go_upto_region 1 with fail
  generalize w.alloc (.cells #[.int .u8 0, .bool false] 76) = w0 at HZ0 HB0 z0 z1 ⊢
  obtain ⟨Y, hY⟩ : ∃ Y, w.heap.size = Y := ⟨_, rfl⟩
  rw [hY] at HZ0
  have HY : Hid (w.heap.size ≤ Y) := J (by omega)
  simp only [hY]
  clear hY
  go_wp2_with (refine aj rfl 76 (.tmp 4) (.tmp 17) rfl rfl Y #[.int .u8 (x.t.toNat : Int), .bool x.mu] rfl rfl 76 #[.int .u8 0, .bool false] HZ0.out am rfl (by simp [Value.oneCell']) ?_)
  refine bodyPost_ret (v := .tuple #[.agg #[.int .u8 (x.t.toNat : Int), .bool x.mu], .bool true]) (au (p := 4) (q := 5) (ty := 76) (by kernel_rfl) _ _ Y 76 #[.int .u8 (x.t.toNat : Int), .bool x.mu] (0, 0) D rfl (setRow_heap _ _ #[.int .u8 0, .bool false] _ _ _ HZ0.out) HU.out HD.out am (.bool true) rfl) rfl ?_
  exact ⟨rfl, ac HB0.out HY.out _⟩
theorem satF_any (xs : List FT) (v : Value) (i : Nat) (w : World) (hv : ab w (· < w.heap.size) xs v) (hi : i < 4294967296) (hl : xs.length ≤ 4000000) :
  Calls Tryz.prog 51 #[v, .int .u32 (i : Int)] w fun e w' => ∃ A c A' c', e = .returned (.tuple #[.agg #[.slice A ((xs[i]?).getD ⟨[], []⟩).params.length c, .slice A' ((xs[i]?).getD ⟨[], []⟩).results.length c'], .bool (xs[i]?).isSome]) ∧ ab w' (· < w'.heap.size) ((xs[i]?).getD ⟨[], []⟩).params (.slice A ((xs[i]?).getD ⟨[], []⟩).params.length c) ∧ ab w' (· < w'.heap.size) ((xs[i]?).getD ⟨[], []⟩).results (.slice A' ((xs[i]?).getD ⟨[], []⟩).results.length c') ∧ Below w.heap.size w w' := by
 obtain ⟨D, hu, hd⟩ := descOf cK
 have HU := J hu
 have HD := J hd
 clear hu hd
 obtain ⟨A, c, rfl, _, _, _, hL⟩ := hv
 have HL := J hL
 obtain ⟨n, hn⟩ : ∃ n, xs.length = n := ⟨_, rfl⟩
 rw [hn] at hl ⊢
 clear hL
 have HZ0 := J (heap_alloc_new w (.cells #[.slice none 0 0, .slice none 0 0] 51))
 have HB0 : Hid (Below w.heap.size w (w.alloc (.cells #[.slice none 0 0, .slice none 0 0] 51))) := J ((Below.refl _ _).alloc (Nat.le_refl _) _)
 cases hx : xs[i]? with
 | none =>
  have hge : (n : Int) ≤ (i : Int) := by have := List.getElem?_eq_none_iff.1 hx; omega
  have hgen : n ≤ i := by omega
  clear hx hn
  go_enter Tryz.func51, Tryz.ntmps51
  go_upto_region 1 with fail
  generalize w.alloc (.cells #[.slice none 0 0, .slice none 0 0] 51) = w0 at HZ0 HB0 ⊢
  obtain ⟨Y, hY⟩ : ∃ Y, w.heap.size = Y := ⟨_, rfl⟩
  rw [hY] at HZ0
  have HY : Hid (w.heap.size ≤ Y) := J (by omega)
  simp only [hY]
  clear hY
  have HB1 : Hid (Below w.heap.size w (w0.alloc (.cells #[.slice none 0 0, .slice none 0 0] 51))) := J (HB0.out.alloc HB0.out.size _)
  have HZ1 : Hid ((w0.alloc (.cells #[.slice none 0 0, .slice none 0 0] 51)).heap[Y]? = some (.cells #[.slice none 0 0, .slice none 0 0] 51 (0, 0))) := J ((Below.heap_alloc w0 _ _ (Array.getElem?_eq_some_iff.1 HZ0.out).1).trans HZ0.out)
  have HN1 := J (heap_alloc_new w0 (.cells #[.slice none 0 0, .slice none 0 0] 51))
  go_upto_region 3 with fail
  generalize w0.alloc (.cells #[.slice none 0 0, .slice none 0 0] 51) = w1 at HZ1 HB1 HN1 ⊢
  obtain ⟨n0, n1⟩ := ae HN1.out
  go_wp2_with (refine aj rfl 51 (.tmp 4) (.tmp 13) rfl rfl Y #[.slice none 0 0, .slice none 0 0] rfl rfl 51 #[.slice none 0 0, .slice none 0 0] HZ1.out ao rfl (by simp [Value.oneCell']) ?_)
  refine bodyPost_ret (v := .tuple #[.agg #[.slice none 0 0, .slice none 0 0], .bool false]) (au (p := 4) (q := 5) (ty := 51) (by kernel_rfl) _ _ Y 51 #[.slice none 0 0, .slice none 0 0] (0, 0) D rfl (setRow_heap _ _ #[.slice none 0 0, .slice none 0 0] _ _ _ HZ1.out) HU.out HD.out ao (.bool false) rfl) rfl ?_
  exact ⟨none, 0, none, 0, rfl, ab.nil _ _, ab.nil _ _, ac HB1.out HY.out _⟩
 | some x =>
  have hge : decide ((n : Int) ≤ (i : Int)) = false := decide_eq_false (by have := (List.getElem?_eq_some_iff.1 hx).1; omega)
  have hgen : decide (n ≤ i) = false := decide_eq_false (by have := (List.getElem?_eq_some_iff.1 hx).1; omega)
  have hlt : (i : Int) < (n : Int) := by have := (List.getElem?_eq_some_iff.1 hx).1; omega
  obtain ⟨g, o, D1, d1, D2, d2, rfl, hg, hc0, hc1, hs1, hs2⟩ := ft_at HL.out hx
  obtain ⟨p1, hp1⟩ : ∃ p, x.params.length = p := ⟨_, rfl⟩
  obtain ⟨p2, hp2⟩ : ∃ p, x.results.length = p := ⟨_, rfl⟩
  rw [hp1] at hc0 hs1
  rw [hp2] at hc1 hs2
  have HP1 := J hp1
  have HP2 := J hp2
  have HS1 := J hs1
  have HS2 := J hs2
  clear hp1 hp2 hs1 hs2
  have z0 := (HB0.out.cell (p := ⟨g, o + i * 2, none⟩) hg).trans hc0
  have z1 := (HB0.out.cell (p := ⟨g, o + i * 2 + 1, none⟩) hg).trans hc1
  clear hx hn hc0 hc1
  go_enter Tryz.func51, Tryz.ntmps51
  go_upto_region 1 with fail
  generalize w.alloc (.cells #[.slice none 0 0, .slice none 0 0] 51) = w0 at HZ0 HB0 z0 z1 ⊢
  obtain ⟨Y, hY⟩ : ∃ Y, w.heap.size = Y := ⟨_, rfl⟩
  rw [hY] at HZ0
  have HY : Hid (w.heap.size ≤ Y) := J (by omega)
  simp only [hY]
  clear hY
  go_wp2_with (refine aj rfl 51 (.tmp 4) (.tmp 17) rfl rfl Y #[.slice D1 p1 d1, .slice D2 p2 d2] rfl rfl 51 #[.slice none 0 0, .slice none 0 0] HZ0.out ao rfl (by simp [Value.oneCell']) ?_)
  refine bodyPost_ret (v := .tuple #[.agg #[.slice D1 p1 d1, .slice D2 p2 d2], .bool true]) (au (p := 4) (q := 5) (ty := 51) (by kernel_rfl) _ _ Y 51 #[.slice D1 p1 d1, .slice D2 p2 d2] (0, 0) D rfl (setRow_heap _ _ #[.slice none 0 0, .slice none 0 0] _ _ _ HZ0.out) HU.out HD.out ao (.bool true) rfl) rfl ?_
  have hbz := ac HB0.out HY.out #[.slice D1 p1 d1, .slice D2 p2 d2]
  refine ⟨D1, d1, D2, d2, ?_, ?_, ?_, hbz⟩
  ·simp only [Option.getD_some, Option.isSome_some, HP1.out, HP2.out]
  ·simp only [Option.getD_some, HP1.out]; exact HS1.out.grow hbz
  ·simp only [Option.getD_some, HP2.out]; exact HS2.out.grow hbz
theorem be {w : World} {X : Nat} {x0 x1 x2 x3 x4 x5 x6 x7 x8 x9 : Value} {t : TypeId} (h : w.heap[X]? = some (.cells #[x0, x1, x2, x3, x4, x5, x6, x7, x8, x9] t (0, 0))) : w.cell? ⟨X, 0, none⟩ = some x0 ∧ w.cell? ⟨X, 1, none⟩ = some x1 ∧ w.cell? ⟨X, 2, none⟩ = some x2 ∧ w.cell? ⟨X, 3, none⟩ = some x3 ∧ w.cell? ⟨X, 4, none⟩ = some x4 ∧ w.cell? ⟨X, 5, none⟩ = some x5 ∧ w.cell? ⟨X, 6, none⟩ = some x6 ∧ w.cell? ⟨X, 7, none⟩ = some x7 ∧ w.cell? ⟨X, 8, none⟩ = some x8 ∧ w.cell? ⟨X, 9, none⟩ = some x9 := by
 refine ⟨?_, ?_, ?_, ?_, ?_, ?_, ?_, ?_, ?_, ?_⟩ <;> (rw [cell_of_row w X _ _ t (0, 0) h]; rfl)
structure cl (m : M) : Prop where
 types : m.types.length ≤ 4000000
 each : ∀ x ∈ m.types, x.params.length ≤ 4000000 ∧ x.results.length ≤ 4000000
 funs : (funs m).length ≤ 4000000
 tabs : (tabs m).length ≤ 4000000
 mems : (mems m).length ≤ 4000000
 globs : (globs m).length ≤ 4000000
 exports : m.exports.length ≤ 4000000
theorem Lots.some {m : M} (h : Lots m) : cl m where
 types := Nat.le_trans h.types (by decide)
 each x hx := ⟨Nat.le_trans (h.each x hx).1 (by decide), Nat.le_trans (h.each x hx).2 (by decide)⟩
 funs := by have := cb m 0; have := h.imports; have := h.funcs; simp [Sp.funs]; omega
 tabs := by have := cb m 1; have := h.imports; have := h.tables; simp [Sp.tabs]; omega
 mems := by have := cb m 2; have := h.imports; have := h.mems; simp [Sp.mems]; omega
 globs := by have := cb m 3; have := h.imports; have := h.globals; simp [Sp.globs]; omega
 exports := Nat.le_trans h.exports (by decide)
theorem Few.some {m : M} (h : Few m) : cl m := Lots.some h.lots
def bg (o : Option FT) (w : World) (e : Ending) (w' : World) : Prop := ∃ u v, e = .returned (.tuple #[.agg #[u, v], .bool o.isSome]) ∧ ab w' (w.heap.size ≤ ·) (o.getD ⟨[], []⟩).params u ∧ ab w' (w.heap.size ≤ ·) (o.getD ⟨[], []⟩).results v ∧ Below w.heap.size w w'
theorem bg.func {o : Option FT} {w w' : World} {e : Ending} (h : bg o w e w') : FuncPost o w e w' := by
 obtain ⟨u, v, h1, h2, h3, h4⟩ := h
 exact ⟨u, v, h1, h2.more (fun k hk _ => hk), h3.more (fun k hk _ => hk), h4⟩
theorem bT (p : Option Addr) (m : M) (i : Nat) (w : World) (h : Recv w p m) (hl : cl m) (hi : i < 4294967296) :
  Calls Tryz.prog 111 #[.pointer p, .int .u32 (i : Int)] w fun e w' => bz ((globs m)[i]?) w e w' := by
 obtain ⟨D, hu, hd⟩ := descOf cW
 have HU := J hu
 have HD := J hd
 clear hu hd
 have HL := J hl.globs
 have HZ0 := J (heap_alloc_new w (.cells #[.int .u8 0, .bool false] 76))
 have HB0 : Hid (Below w.heap.size w (w.alloc (.cells #[.int .u8 0, .bool false] 76))) := J ((Below.refl _ _).alloc (Nat.le_refl _) _)
 have HR := J (h.grow HB0.out)
 clear h hl
 go_enter Tryz.func111, Tryz.ntmps111
 go_upto_region 1 with fail
 generalize w.alloc (.cells #[.int .u8 0, .bool false] 76) = w0 at HZ0 HB0 HR ⊢
 obtain ⟨Y, hY⟩ : ∃ Y, w.heap.size = Y := ⟨_, rfl⟩
 rw [hY] at HZ0
 have HY : Hid (w.heap.size ≤ Y) := J (by omega)
 simp only [hY]
 clear hY
 go_wp2_with (first | (go_at_call 42; refine (aS p m w0 HR.out).mono ?_; rintro e w1 ⟨P, rfl, hs, hb⟩; have HB1 := J (HB0.out.trans (hb.mono HB0.out.size)); have HZ1 := J ((hb.block Y (Array.getElem?_eq_some_iff.1 HZ0.out).1).trans HZ0.out); obtain ⟨A1, d1, A2, d2, A3, d3, A4, d4, A5, d5, A6, d6, h0, h1, h2, h3, h4, h5, h6⟩ := hs; obtain ⟨b0, b1, b2, b3, b4, b5, b6, b7, b8, b9⟩ := be h0; have HS := J h5; clear hb h0 h1 h2 h3 h4 h5 h6) | (go_at_call 121; refine (satG_any (globs m) _ i w1 HS.out hi HL.out).mono ?_; rintro e w2 ⟨rfl, hb⟩; have HB2 := J (HB1.out.trans (hb.mono HB1.out.size)); have HZ2 := J ((hb.block Y (Array.getElem?_eq_some_iff.1 HZ1.out).1).trans HZ1.out); clear hb b0 b1 b2 b3 b4 b5 b6 b7 b8 b9) | (refine aj rfl 76 (.tmp 4) (.tmp 14) rfl rfl Y (globArr (((globs m)[i]?).getD ⟨0, false⟩)) rfl rfl 76 #[.int .u8 0, .bool false] HZ2.out am rfl (by simp [globArr, Value.oneCell']) ?_))
 refine bodyPost_ret (v := .tuple #[.agg (globArr (((globs m)[i]?).getD ⟨0, false⟩)), .bool ((globs m)[i]?).isSome]) (au (p := 4) (q := 5) (ty := 76) (by kernel_rfl) _ _ Y 76 (globArr (((globs m)[i]?).getD ⟨0, false⟩)) (0, 0) D rfl (setRow_heap _ _ #[.int .u8 0, .bool false] _ _ _ HZ2.out) HU.out HD.out am (.bool ((globs m)[i]?).isSome) rfl) rfl ?_
 exact ⟨rfl, ac HB2.out HY.out _⟩
theorem dD (p : Option Addr) (m : M) (i : Nat) (w : World) (h : Recv w p m) (hl : cl m) (hi : i < 4294967296) :
  Calls Tryz.prog 56 #[.pointer p, .int .u32 (i : Int)] w fun e w' => bC ((tabs m)[i]?) w e w' := by
 obtain ⟨D, hu, hd⟩ := descOf cL
 have HU := J hu
 have HD := J hd
 clear hu hd
 have HL := J hl.tabs
 have HZ0 := J (heap_alloc_new w (.cells #[.int .u32 0, .int .i64 0] 65))
 have HB0 : Hid (Below w.heap.size w (w.alloc (.cells #[.int .u32 0, .int .i64 0] 65))) := J ((Below.refl _ _).alloc (Nat.le_refl _) _)
 have HR := J (h.grow HB0.out)
 clear h hl
 go_enter Tryz.func56, Tryz.ntmps56
 go_upto_region 1 with fail
 generalize w.alloc (.cells #[.int .u32 0, .int .i64 0] 65) = w0 at HZ0 HB0 HR ⊢
 obtain ⟨Y, hY⟩ : ∃ Y, w.heap.size = Y := ⟨_, rfl⟩
 rw [hY] at HZ0
 have HY : Hid (w.heap.size ≤ Y) := J (by omega)
 simp only [hY]
 clear hY
 go_wp2_with (first | (go_at_call 42; refine (aS p m w0 HR.out).mono ?_; rintro e w1 ⟨P, rfl, hs, hb⟩; have HB1 := J (HB0.out.trans (hb.mono HB0.out.size)); have HZ1 := J ((hb.block Y (Array.getElem?_eq_some_iff.1 HZ0.out).1).trans HZ0.out); obtain ⟨A1, d1, A2, d2, A3, d3, A4, d4, A5, d5, A6, d6, h0, h1, h2, h3, h4, h5, h6⟩ := hs; obtain ⟨b0, b1, b2, b3, b4, b5, b6, b7, b8, b9⟩ := be h0; have HS := J h3; clear hb h0 h1 h2 h3 h4 h5 h6) | (go_at_call 94; refine (satL_any (tabs m) _ i w1 HS.out hi HL.out).mono ?_; rintro e w2 ⟨rfl, hb⟩; have HB2 := J (HB1.out.trans (hb.mono HB1.out.size)); have HZ2 := J ((hb.block Y (Array.getElem?_eq_some_iff.1 HZ1.out).1).trans HZ1.out); clear hb b0 b1 b2 b3 b4 b5 b6 b7 b8 b9) | (refine aj rfl 65 (.tmp 4) (.tmp 14) rfl rfl Y (limArr (((tabs m)[i]?).getD ⟨0, 0⟩)) rfl rfl 65 #[.int .u32 0, .int .i64 0] HZ2.out aX rfl (by simp [limArr, Value.oneCell']) ?_))
 refine bodyPost_ret (v := .tuple #[.agg (limArr (((tabs m)[i]?).getD ⟨0, 0⟩)), .bool ((tabs m)[i]?).isSome]) (au (p := 4) (q := 5) (ty := 65) (by kernel_rfl) _ _ Y 65 (limArr (((tabs m)[i]?).getD ⟨0, 0⟩)) (0, 0) D rfl (setRow_heap _ _ #[.int .u32 0, .int .i64 0] _ _ _ HZ2.out) HU.out HD.out aX (.bool ((tabs m)[i]?).isSome) rfl) rfl ?_
 exact ⟨rfl, ac HB2.out HY.out _⟩
theorem dC (p : Option Addr) (m : M) (i : Nat) (w : World) (h : Recv w p m) (hl : cl m) (hi : i < 4294967296) :
  Calls Tryz.prog 58 #[.pointer p, .int .u32 (i : Int)] w fun e w' => bC ((mems m)[i]?) w e w' := by
 obtain ⟨D, hu, hd⟩ := descOf cL
 have HU := J hu
 have HD := J hd
 clear hu hd
 have HL := J hl.mems
 have HZ0 := J (heap_alloc_new w (.cells #[.int .u32 0, .int .i64 0] 65))
 have HB0 : Hid (Below w.heap.size w (w.alloc (.cells #[.int .u32 0, .int .i64 0] 65))) := J ((Below.refl _ _).alloc (Nat.le_refl _) _)
 have HR := J (h.grow HB0.out)
 clear h hl
 go_enter Tryz.func58, Tryz.ntmps58
 go_upto_region 1 with fail
 generalize w.alloc (.cells #[.int .u32 0, .int .i64 0] 65) = w0 at HZ0 HB0 HR ⊢
 obtain ⟨Y, hY⟩ : ∃ Y, w.heap.size = Y := ⟨_, rfl⟩
 rw [hY] at HZ0
 have HY : Hid (w.heap.size ≤ Y) := J (by omega)
 simp only [hY]
 clear hY
 go_wp2_with (first | (go_at_call 42; refine (aS p m w0 HR.out).mono ?_; rintro e w1 ⟨P, rfl, hs, hb⟩; have HB1 := J (HB0.out.trans (hb.mono HB0.out.size)); have HZ1 := J ((hb.block Y (Array.getElem?_eq_some_iff.1 HZ0.out).1).trans HZ0.out); obtain ⟨A1, d1, A2, d2, A3, d3, A4, d4, A5, d5, A6, d6, h0, h1, h2, h3, h4, h5, h6⟩ := hs; obtain ⟨b0, b1, b2, b3, b4, b5, b6, b7, b8, b9⟩ := be h0; have HS := J h4; clear hb h0 h1 h2 h3 h4 h5 h6) | (go_at_call 94; refine (satL_any (mems m) _ i w1 HS.out hi HL.out).mono ?_; rintro e w2 ⟨rfl, hb⟩; have HB2 := J (HB1.out.trans (hb.mono HB1.out.size)); have HZ2 := J ((hb.block Y (Array.getElem?_eq_some_iff.1 HZ1.out).1).trans HZ1.out); clear hb b0 b1 b2 b3 b4 b5 b6 b7 b8 b9) | (refine aj rfl 65 (.tmp 4) (.tmp 14) rfl rfl Y (limArr (((mems m)[i]?).getD ⟨0, 0⟩)) rfl rfl 65 #[.int .u32 0, .int .i64 0] HZ2.out aX rfl (by simp [limArr, Value.oneCell']) ?_))
 refine bodyPost_ret (v := .tuple #[.agg (limArr (((mems m)[i]?).getD ⟨0, 0⟩)), .bool ((mems m)[i]?).isSome]) (au (p := 4) (q := 5) (ty := 65) (by kernel_rfl) _ _ Y 65 (limArr (((mems m)[i]?).getD ⟨0, 0⟩)) (0, 0) D rfl (setRow_heap _ _ #[.int .u32 0, .int .i64 0] _ _ _ HZ2.out) HU.out HD.out aX (.bool ((mems m)[i]?).isSome) rfl) rfl ?_
 exact ⟨rfl, ac HB2.out HY.out _⟩
theorem ek (p : Option Addr) (m : M) (i : Nat) (w : World) (h : Recv w p m) (hl : cl m) (hi : i < 4294967296) :
  Calls Tryz.prog 14 #[.pointer p, .int .u32 (i : Int)] w fun e w' => bg (m.types[i]?) w e w' := by
 have HL := J hl.types
 have HE : Hid (((m.types[i]?).getD ⟨[], []⟩).params.length ≤ 4294967296 ∧ ((m.types[i]?).getD ⟨[], []⟩).results.length ≤ 4294967296) := J (by
  cases hx : m.types[i]? with
  | none => simp
  | some x => have := hl.each x (List.mem_of_getElem? hx); simp; omega)
 have HAT := J (fun W v (hv : ab W (· < W.heap.size) m.types v) => satF_any m.types v i W hv hi HL.out)
 generalize m.types[i]? = o at HE HAT ⊢
 obtain ⟨x, hx⟩ : ∃ x, o.getD ⟨[], []⟩ = x := ⟨_, rfl⟩
 have HX := J hx
 rw [hx] at HE HAT
 clear hx
 generalize hbb : o.isSome = bb at HAT
 have HBB := J hbb
 clear hbb
 obtain ⟨p1, hp1⟩ : ∃ p, x.params.length = p := ⟨_, rfl⟩
 obtain ⟨p2, hp2⟩ : ∃ p, x.results.length = p := ⟨_, rfl⟩
 have HCP := J (fun W u v (hu : ab W (· < W.heap.size) x.params u) (hv : ab W (· < W.heap.size) x.results v) => d9 x u v W hu hv HE.out.1 HE.out.2)
 simp only [hp1, hp2] at HAT HCP
 clear hp1 hp2
 obtain ⟨D, hu, hd⟩ := descOf cK
 have HU := J hu
 have HD := J hd
 clear hu hd
 have HZ0 := J (heap_alloc_new w (.cells #[.slice none 0 0, .slice none 0 0] 51))
 have HB0 : Hid (Below w.heap.size w (w.alloc (.cells #[.slice none 0 0, .slice none 0 0] 51))) := J ((Below.refl _ _).alloc (Nat.le_refl _) _)
 have HR := J (h.grow HB0.out)
 clear h hl
 go_enter Tryz.func14, Tryz.ntmps14
 go_upto_region 1 with fail
 generalize w.alloc (.cells #[.slice none 0 0, .slice none 0 0] 51) = w0 at HZ0 HB0 HR ⊢
 obtain ⟨Y, hY⟩ : ∃ Y, w.heap.size = Y := ⟨_, rfl⟩
 rw [hY] at HZ0
 have HY : Hid (w.heap.size ≤ Y) := J (by omega)
 simp only [hY]
 clear hY
 go_upto_region 2 with (first | (go_at_call 42; refine (aS p m w0 HR.out).mono ?_; rintro e w1 ⟨P, rfl, hs, hb⟩; have HB1 := J (HB0.out.trans (hb.mono HB0.out.size)); have HZ1 := J ((hb.block Y (Array.getElem?_eq_some_iff.1 HZ0.out).1).trans HZ0.out); have HR1 := J (HR.out.grow hb); obtain ⟨A1, d1, A2, d2, A3, d3, A4, d4, A5, d5, A6, d6, h0, h1, h2, h3, h4, h5, h6⟩ := hs; obtain ⟨b0, b1, b2, b3, b4, b5, b6, b7, b8, b9⟩ := be h0; have HS := J h1; clear hb h0 h1 h2 h3 h4 h5 h6) | (go_at_call 51; refine (HAT.out w1 _ HS.out).mono ?_; rintro e w2 ⟨E1, f1, E2, f2, rfl, hs1, hs2, hb⟩; have HB2 := J (HB1.out.trans (hb.mono HB1.out.size)); have HZ2 := J ((hb.block Y (Array.getElem?_eq_some_iff.1 HZ1.out).1).trans HZ1.out); have HS1 := J hs1; have HS2 := J hs2; clear hb hs1 hs2 b0 b1 b2 b3 b4 b5 b6 b7 b8 b9))
 have hba : Below w2.heap.size w2 (w2.alloc (.cells #[.slice E1 p1 f1, .slice E2 p2 f2] 51)) := (Below.refl _ _).alloc (Nat.le_refl _) _
 have HT := J (heap_alloc_new w2 (.cells #[.slice E1 p1 f1, .slice E2 p2 f2] 51))
 have HB3 := J (HB2.out.trans (hba.mono HB2.out.size))
 have HZ3 := J ((hba.block Y (Array.getElem?_eq_some_iff.1 HZ2.out).1).trans HZ2.out)
 have HS1 := J (HS1.out.grow hba)
 have HS2 := J (HS2.out.grow hba)
 clear hba
 generalize w2.alloc (.cells #[.slice E1 p1 f1, .slice E2 p2 f2] 51) = w3 at HT HB3 HZ3 HS1 HS2 ⊢
 obtain ⟨t0, t1⟩ := ae HT.out
 go_wp2_with fail
 refine (HCP.out w3 _ _ HS1.out HS2.out).mono ?_
 rintro e w4 ⟨G1, k1, G2, k2, rfl, hs1, hs2, hb⟩
 have HB4 := J (HB3.out.trans (hb.mono HB3.out.size))
 have HZ4 := J ((hb.block Y (Array.getElem?_eq_some_iff.1 HZ3.out).1).trans HZ3.out)
 have HS1 := J (hs1.more (S' := (· < w4.heap.size)) (fun k hk _ => hk))
 have HS2 := J (hs2.more (S' := (· < w4.heap.size)) (fun k hk _ => hk))
 have HS3 := J hs1
 have HS4 := J hs2
 have HYL : Hid (Y < w3.heap.size) := J (Array.getElem?_eq_some_iff.1 HZ3.out).1
 clear hb hs1 hs2 t0 t1
 go_wp2_with (refine aj rfl 51 (.tmp 4) (.tmp 19) rfl rfl Y #[.slice G1 p1 k1, .slice G2 p2 k2] rfl rfl 51 #[.slice none 0 0, .slice none 0 0] HZ4.out ao rfl (by simp [Value.oneCell']) ?_)
 refine bodyPost_ret (v := .tuple #[.agg #[.slice G1 p1 k1, .slice G2 p2 k2], .bool bb]) (au (p := 4) (q := 5) (ty := 51) (by kernel_rfl) _ _ Y 51 #[.slice G1 p1 k1, .slice G2 p2 k2] (0, 0) D rfl (setRow_heap _ _ #[.slice none 0 0, .slice none 0 0] _ _ _ (HZ4.out)) HU.out HD.out ao (.bool bb) rfl) rfl ?_
 have hms : Mod (· = Y) w4 (w4.setRow Y #[.slice G1 p1 k1, .slice G2 p2 k2]) := ⟨rfl, rfl, rfl, by simp, fun k _ ht => setRow_other w4 Y k _ ht⟩
 refine ⟨_, _, by rw [HBB.out], ?_, ?_, ac HB4.out HY.out _⟩
 ·rw [HX.out]
  exact (HS3.out.mod hms (fun g _ hg e => by have := HYL.out; have e' : g = Y := e; have hg' : w3.heap.size ≤ g := hg; omega)).more (fun k hk hg => Nat.le_trans HB3.out.size hg)
 ·rw [HX.out]
  exact (HS4.out.mod hms (fun g _ hg e => by have := HYL.out; have e' : g = Y := e; have hg' : w3.heap.size ≤ g := hg; omega)).more (fun k hk hg => Nat.le_trans HB3.out.size hg)
theorem u8_at {w : World} {S : Nat → Prop} {A : Option Addr} {xs : List UInt8} {k : Nat} {x : UInt8} (h : HasL w S A xs) (hx : xs[k]? = some x) : ∃ g o, A = some ⟨g, o, none⟩ ∧ g < w.heap.size ∧ w.cell? ⟨g, o + k, none⟩ = some (.int .u8 (x.toNat : Int)) := by
 obtain ⟨g, o, cs, h1, _, h3, h4, h6⟩ := h k x hx
 have h4' : cs = [.int .u8 (x.toNat : Int)] := h4
 subst h4'
 have e := h6 0 _ rfl
 rw [show Lay.size UInt8 = 1 from rfl, Nat.mul_one, Nat.add_zero] at e
 exact ⟨g, o, h1, h3, e⟩
theorem bd (xs ys : List UInt8) (u v : Value) (w : World) (hu : ab w (· < w.heap.size) xs u) (hv : ab w (· < w.heap.size) ys v) (hl : xs.length ≤ 4000000) (hl2 : ys.length ≤ 4000000) :
  Calls Tryz.prog 96 #[u, v] w fun e w' => e = .returned (.bool (decide (xs = ys))) ∧ Below w.heap.size w w' := by
 obtain ⟨A1, c1, rfl, _, _, _, hL1⟩ := hu
 obtain ⟨A2, c2, rfl, _, _, _, hL2⟩ := hv
 have HL1 := J hL1
 have HL2 := J hL2
 obtain ⟨n1, hn1⟩ : ∃ n, xs.length = n := ⟨_, rfl⟩
 obtain ⟨n2, hn2⟩ : ∃ n, ys.length = n := ⟨_, rfl⟩
 rw [hn1] at hl ⊢
 rw [hn2] at hl2 ⊢
 have HN1 := J hn1
 have HN2 := J hn2
 clear hL1 hL2 hn1 hn2
 by_cases hq : n1 = n2
 ·subst hq
  have hqe : ((n1 : Int) == (n1 : Int)) = true := by simp
  have hqn : ((n1 : Int) != (n1 : Int)) = false := by simp
  go_enter Tryz.func96, Tryz.ntmps96
  go_upto_region 4 with fail
  go_loopw [13] (fun i wr => ∃ j : Nat, j ≤ n1 ∧ i = .int .i64 (j : Int) ∧ Hid (xs.take j = ys.take j) ∧ Hid (Below w.heap.size w wr)) (fun i _ => n1 - (intOf i).toNat)
  case atStart => exact ⟨0, Nat.zero_le _, rfl, J rfl, J (Below.refl _ _)⟩
  case round =>
   obtain ⟨j, hj, rfl, HE, HB⟩ := hrel
   by_cases hlt : j < n1
   ·have hlti : (j : Int) < (n1 : Int) := by omega
    obtain ⟨x, hx⟩ : ∃ x, xs[j]? = some x := ⟨_, List.getElem?_eq_getElem (by rw [HN1.out]; exact hlt)⟩
    obtain ⟨y, hy⟩ : ∃ y, ys[j]? = some y := ⟨_, List.getElem?_eq_getElem (by rw [HN2.out]; exact hlt)⟩
    obtain ⟨g, o, rfl, hg, hc⟩ := u8_at HL1.out hx
    obtain ⟨g2, o2, rfl, hg2, hc2⟩ := u8_at HL2.out hy
    have z0 := (HB.out.cell (p := ⟨g, o + j, none⟩) hg).trans hc
    have z1 := (HB.out.cell (p := ⟨g2, o2 + j, none⟩) hg2).trans hc2
    have HX := J hx
    have HY := J hy
    have hxk := x.toNat_lt
    have hyk := y.toNat_lt
    clear hx hy hc hc2 hg hg2
    by_cases hxy : x = y
    ·subst hxy
     have HT : Hid (xs.take (j + 1) = ys.take (j + 1)) := J (by rw [List.take_add_one, List.take_add_one, HX.out, HY.out, HE.out])
     have e1 : ((x.toNat : Int) != (x.toNat : Int)) = false := by simp
     go_upto_region 6 with fail
     go_quiet (fail)
     go_wp2_with fail
     go_roundw
     case rel => exact ⟨j + 1, by omega, by go_num, HT, J (Below.dn HB.out _)⟩
     case measure => simp [intOf]; omega
    ·have hne : ¬ x.toNat = y.toNat := fun e => hxy (UInt8.toNat_inj.1 e)
     have e1 : ((x.toNat : Int) != (y.toNat : Int)) = true := by rw [bne_iff_ne]; omega
     have HF : Hid (decide (xs = ys) = false) := J (decide_eq_false (fun e => hxy (by
      have h1 := HX.out
      rw [e, HY.out] at h1
      exact (Option.some.inj h1).symm)))
     clear hxy hne
     go_upto_region 6 with fail
     go_quiet (fail)
     go_wp2_with fail
     go_ret
     exact ⟨by rw [HF.out]; rfl, Below.dn HB.out _⟩
   ·have hlti : decide ((j : Int) < (n1 : Int)) = false := decide_eq_false (by omega)
    have HF : Hid (decide (xs = ys) = true) := J (decide_eq_true (by
     have h1 := HE.out
     rw [List.take_of_length_le (by rw [HN1.out]; omega), List.take_of_length_le (by rw [HN2.out]; omega)] at h1
     exact h1))
    go_wp2_with fail
    go_ret
    exact ⟨by rw [HF.out]; rfl, HB.out⟩
 ·have hqe : ((n1 : Int) == (n2 : Int)) = false := by rw [beq_eq_false_iff_ne]; omega
  have hqn : ((n1 : Int) != (n2 : Int)) = true := by rw [bne_iff_ne]; omega
  have HF : Hid (decide (xs = ys) = false) := J (decide_eq_false (fun e => hq (by rw [← HN1.out, ← HN2.out, e])))
  clear hq
  go_enter Tryz.func96, Tryz.ntmps96
  go_wp2_with fail
  go_ret
  exact ⟨by rw [HF.out]; rfl, Below.refl _ _⟩
end Go.Proofs.YtelcdmkbaegjoaaGreat
