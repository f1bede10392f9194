/-
  Layer 8's program: a space that is nil, or there; a row's entry by number. (gen/space/ask1.py)
-/
import Derived.Test.YtakbehoglgebmaaR15
namespace Go.Proofs.Ytakbehoglgebmaa
open Go.RowKit Ins Bin Sp
def noM : M := ⟨[], [], [], [], [], [], [], false, 0, [], [], []⟩
/-- A space that is asked: one of a module, or none. -/
def Recv (w : World) (p : Option Addr) (m : M) : Prop := (∃ P, p = some ⟨P, 0, none⟩ ∧ SpaceV w P m) ∨ (p = none ∧ m = noM)
theorem Recv.grow {w w' : World} {p : Option Addr} {m : M} (h : Recv w p m) (hb : Below w.heap.size w w') : Recv w' p m := by
  rcases h with ⟨P, rfl, h⟩ | h
  · exact .inl ⟨P, rfl, h.grow hb⟩
  · exact .inr h
set_option maxRecDepth 100000 in
set_option maxHeartbeats 4000000 in
theorem sthere_any (p : Option Addr) (m : M) (w : World) (h : Recv w p m) :
    Calls Try.prog 89 #[.pointer p] w fun e w' => ∃ P, e = .returned (.pointer (some ⟨P, 0, none⟩)) ∧ SpaceV w' P m ∧ Below w.heap.size w w' := by
  rcases h with ⟨P, rfl, h⟩ | ⟨rfl, rfl⟩
  · have HS := Lib.hid h
    clear h
    go_enter Try.func89, Try.ntmps89
    go_wp2
    go_ret
    exact ⟨P, rfl, HS.out, Below.refl _ _⟩
  · go_enter Try.func89, Try.ntmps89
    go_wp2
    go_ret
    refine ⟨w.heap.size, rfl, ⟨none, 0, none, 0, none, 0, none, 0, none, 0, none, 0, heap_alloc_new w _, SliceV.nil _ _, SliceV.nil _ _, SliceV.nil _ _, SliceV.nil _ _, SliceV.nil _ _, SliceV.nil _ _⟩, (Below.refl _ _).alloc (Nat.le_refl _) _⟩
set_option maxRecDepth 100000 in
set_option maxHeartbeats 4000000 in
theorem satU_any (xs : List Nat) (v : Value) (i : Nat) (w : World) (hv : SliceV w (· < w.heap.size) xs v) (hi : i < 4294967296) (hl : xs.length ≤ 1000000) :
    Calls Try.prog 88 #[v, .int .u32 (i : Int)] w fun e w' => e = .returned (.tuple #[.int .u32 ((xs[i]?.getD 0 : Nat) : Int), .bool (xs[i]?).isSome]) ∧ w' = w := by
  obtain ⟨A, c, rfl, _, _, _, hL⟩ := hv
  have HL := Lib.hid hL
  obtain ⟨n, hn⟩ : ∃ n, xs.length = n := ⟨_, rfl⟩
  rw [hn] at hl ⊢
  clear hL
  cases hx : xs[i]? with
  | none =>
    have hge : (n : Int) ≤ (i : Int) := by have := List.getElem?_eq_none_iff.1 hx; omega
    have hgen : n ≤ i := by omega
    clear hx hn
    go_enter Try.func88, Try.ntmps88
    go_wp2
    go_ret2
    exact ⟨rfl, rfl⟩
  | some x =>
    have hge : decide ((n : Int) ≤ (i : Int)) = false := decide_eq_false (by have := (List.getElem?_eq_some_iff.1 hx).1; omega)
    have hgen : decide (n ≤ i) = false := decide_eq_false (by have := (List.getElem?_eq_some_iff.1 hx).1; omega)
    have hlt : (i : Int) < (n : Int) := by have := (List.getElem?_eq_some_iff.1 hx).1; omega
    obtain ⟨g, o, rfl, hg, hc, hxl⟩ := nat_at HL.out hx
    clear hx hn
    go_enter Try.func88, Try.ntmps88
    go_wp2
    go_ret2
    exact ⟨rfl, rfl⟩
set_option maxRecDepth 100000 in
set_option maxHeartbeats 4000000 in
theorem satL_any (xs : List Lim) (v : Value) (i : Nat) (w : World) (hv : SliceV w (· < w.heap.size) xs v) (hi : i < 4294967296) (hl : xs.length ≤ 1000000) :
    Calls Try.prog 90 #[v, .int .u32 (i : Int)] w fun e w' => e = .returned (.tuple #[.agg (limArr (xs[i]?.getD ⟨0, 0⟩)), .bool (xs[i]?).isSome]) ∧ Below w.heap.size w w' := by
  obtain ⟨D, hu, hd⟩ := descOf des_slim
  have HU := Lib.hid hu
  have HD := Lib.hid hd
  clear hu hd
  obtain ⟨A, c, rfl, _, _, _, hL⟩ := hv
  have HL := Lib.hid hL
  obtain ⟨n, hn⟩ : ∃ n, xs.length = n := ⟨_, rfl⟩
  rw [hn] at hl ⊢
  clear hL
  have HZ0 := Lib.hid (heap_alloc_new w (.cells #[.int .u32 0, .int .i64 0] 64))
  have HB0 : Hid (Below w.heap.size w (w.alloc (.cells #[.int .u32 0, .int .i64 0] 64))) := Lib.hid ((Below.refl _ _).alloc (Nat.le_refl _) _)
  cases hx : xs[i]? with
  | none =>
    have hge : (n : Int) ≤ (i : Int) := by have := List.getElem?_eq_none_iff.1 hx; omega
    have hgen : n ≤ i := by omega
    clear hx hn
    go_enter Try.func90, Try.ntmps90
    go_upto_region 1 with fail
    generalize w.alloc (.cells #[.int .u32 0, .int .i64 0] 64) = w0 at HZ0 HB0 ⊢
    obtain ⟨Y, hY⟩ : ∃ Y, w.heap.size = Y := ⟨_, rfl⟩
    rw [hY] at HZ0
    have HY : Hid (w.heap.size ≤ Y) := Lib.hid (by omega)
    simp only [hY]
    clear hY
    have HB1 : Hid (Below w.heap.size w (w0.alloc (.cells #[.int .u32 0, .int .i64 0] 64))) := Lib.hid (HB0.out.alloc HB0.out.size _)
    have HZ1 : Hid ((w0.alloc (.cells #[.int .u32 0, .int .i64 0] 64)).heap[Y]? = some (.cells #[.int .u32 0, .int .i64 0] 64 (0, 0))) := Lib.hid ((Below.heap_alloc w0 _ _ (Array.getElem?_eq_some_iff.1 HZ0.out).1).trans HZ0.out)
    have HN1 := Lib.hid (heap_alloc_new w0 (.cells #[.int .u32 0, .int .i64 0] 64))
    go_upto_region 3 with fail
    generalize w0.alloc (.cells #[.int .u32 0, .int .i64 0] 64) = w1 at HZ1 HB1 HN1 ⊢
    obtain ⟨n0, n1⟩ := two_cells HN1.out
    go_wp2_with (refine wpList_store_to rfl 64 (.tmp 4) (.tmp 13) rfl rfl Y #[.int .u32 0, .int .i64 0] rfl rfl 64 #[.int .u32 0, .int .i64 0] HZ1.out siz_slim rfl (by simp [Value.oneCell']) ?_)
    refine bodyPost_ret (v := .tuple #[.agg #[.int .u32 0, .int .i64 0], .bool false]) (res_cell_tmp (p := 4) (q := 5) (ty := 64) (by kernel_rfl) _ _ Y 64 #[.int .u32 0, .int .i64 0] (0, 0) D rfl (setRow_heap _ _ #[.int .u32 0, .int .i64 0] _ _ _ HZ1.out) HU.out HD.out siz_slim (.bool false) rfl) rfl ?_
    exact ⟨rfl, below_setRow HB1.out HY.out _⟩
  | some x =>
    have hge : decide ((n : Int) ≤ (i : Int)) = false := decide_eq_false (by have := (List.getElem?_eq_some_iff.1 hx).1; omega)
    have hgen : decide (n ≤ i) = false := decide_eq_false (by have := (List.getElem?_eq_some_iff.1 hx).1; omega)
    have hlt : (i : Int) < (n : Int) := by have := (List.getElem?_eq_some_iff.1 hx).1; omega
    obtain ⟨g, o, rfl, hg, hc0, hc1⟩ := lim_at HL.out hx
    have z0 := (HB0.out.cell (p := ⟨g, o + i * 2, none⟩) hg).trans hc0
    have z1 := (HB0.out.cell (p := ⟨g, o + i * 2 + 1, none⟩) hg).trans hc1
    clear hx hn hc0 hc1
    go_enter Try.func90, Try.ntmps90
    go_upto_region 1 with fail
    generalize w.alloc (.cells #[.int .u32 0, .int .i64 0] 64) = w0 at HZ0 HB0 z0 z1 ⊢
    obtain ⟨Y, hY⟩ : ∃ Y, w.heap.size = Y := ⟨_, rfl⟩
    rw [hY] at HZ0
    have HY : Hid (w.heap.size ≤ Y) := Lib.hid (by omega)
    simp only [hY]
    clear hY
    go_wp2_with (refine wpList_store_to rfl 64 (.tmp 4) (.tmp 17) rfl rfl Y #[.int .u32 (x.min : Int), .int .i64 x.max] rfl rfl 64 #[.int .u32 0, .int .i64 0] HZ0.out siz_slim rfl (by simp [Value.oneCell']) ?_)
    refine bodyPost_ret (v := .tuple #[.agg #[.int .u32 (x.min : Int), .int .i64 x.max], .bool true]) (res_cell_tmp (p := 4) (q := 5) (ty := 64) (by kernel_rfl) _ _ Y 64 #[.int .u32 (x.min : Int), .int .i64 x.max] (0, 0) D rfl (setRow_heap _ _ #[.int .u32 0, .int .i64 0] _ _ _ HZ0.out) HU.out HD.out siz_slim (.bool true) rfl) rfl ?_
    exact ⟨rfl, below_setRow HB0.out HY.out _⟩
theorem glob_at {w : World} {S : Nat → Prop} {A : Option Addr} {xs : List Glob} {k : Nat} {x : Glob} (h : HasL w S A xs) (hx : xs[k]? = some x) : ∃ g o, A = some ⟨g, o, none⟩ ∧ g < w.heap.size ∧ w.cell? ⟨g, o + k * 2, none⟩ = some (.int .u8 (x.t.toNat : Int)) ∧ w.cell? ⟨g, o + k * 2 + 1, none⟩ = some (.bool x.mu) := by
  obtain ⟨g, o, cs, h1, _, h3, h4, h6⟩ := h k x hx
  have h4' : cs = globCells x := h4
  subst h4'
  exact ⟨g, o, h1, h3, h6 0 _ rfl, h6 1 _ rfl⟩
set_option maxRecDepth 100000 in
set_option maxHeartbeats 4000000 in
theorem satG_any (xs : List Glob) (v : Value) (i : Nat) (w : World) (hv : SliceV w (· < w.heap.size) xs v) (hi : i < 4294967296) (hl : xs.length ≤ 1000000) :
    Calls Try.prog 92 #[v, .int .u32 (i : Int)] w fun e w' => e = .returned (.tuple #[.agg (globArr (xs[i]?.getD ⟨0, false⟩)), .bool (xs[i]?).isSome]) ∧ Below w.heap.size w w' := by
  obtain ⟨D, hu, hd⟩ := descOf des_sglob
  have HU := Lib.hid hu
  have HD := Lib.hid hd
  clear hu hd
  obtain ⟨A, c, rfl, _, _, _, hL⟩ := hv
  have HL := Lib.hid hL
  obtain ⟨n, hn⟩ : ∃ n, xs.length = n := ⟨_, rfl⟩
  rw [hn] at hl ⊢
  clear hL
  have HZ0 := Lib.hid (heap_alloc_new w (.cells #[.int .u8 0, .bool false] 66))
  have HB0 : Hid (Below w.heap.size w (w.alloc (.cells #[.int .u8 0, .bool false] 66))) := Lib.hid ((Below.refl _ _).alloc (Nat.le_refl _) _)
  cases hx : xs[i]? with
  | none =>
    have hge : (n : Int) ≤ (i : Int) := by have := List.getElem?_eq_none_iff.1 hx; omega
    have hgen : n ≤ i := by omega
    clear hx hn
    go_enter Try.func92, Try.ntmps92
    go_upto_region 1 with fail
    generalize w.alloc (.cells #[.int .u8 0, .bool false] 66) = w0 at HZ0 HB0 ⊢
    obtain ⟨Y, hY⟩ : ∃ Y, w.heap.size = Y := ⟨_, rfl⟩
    rw [hY] at HZ0
    have HY : Hid (w.heap.size ≤ Y) := Lib.hid (by omega)
    simp only [hY]
    clear hY
    have HB1 : Hid (Below w.heap.size w (w0.alloc (.cells #[.int .u8 0, .bool false] 66))) := Lib.hid (HB0.out.alloc HB0.out.size _)
    have HZ1 : Hid ((w0.alloc (.cells #[.int .u8 0, .bool false] 66)).heap[Y]? = some (.cells #[.int .u8 0, .bool false] 66 (0, 0))) := Lib.hid ((Below.heap_alloc w0 _ _ (Array.getElem?_eq_some_iff.1 HZ0.out).1).trans HZ0.out)
    have HN1 := Lib.hid (heap_alloc_new w0 (.cells #[.int .u8 0, .bool false] 66))
    go_upto_region 3 with fail
    generalize w0.alloc (.cells #[.int .u8 0, .bool false] 66) = w1 at HZ1 HB1 HN1 ⊢
    obtain ⟨n0, n1⟩ := two_cells HN1.out
    go_wp2_with (refine wpList_store_to rfl 66 (.tmp 4) (.tmp 13) rfl rfl Y #[.int .u8 0, .bool false] rfl rfl 66 #[.int .u8 0, .bool false] HZ1.out siz_sglob rfl (by simp [Value.oneCell']) ?_)
    refine bodyPost_ret (v := .tuple #[.agg #[.int .u8 0, .bool false], .bool false]) (res_cell_tmp (p := 4) (q := 5) (ty := 66) (by kernel_rfl) _ _ Y 66 #[.int .u8 0, .bool false] (0, 0) D rfl (setRow_heap _ _ #[.int .u8 0, .bool false] _ _ _ HZ1.out) HU.out HD.out siz_sglob (.bool false) rfl) rfl ?_
    exact ⟨rfl, below_setRow HB1.out HY.out _⟩
  | some x =>
    have hge : decide ((n : Int) ≤ (i : Int)) = false := decide_eq_false (by have := (List.getElem?_eq_some_iff.1 hx).1; omega)
    have hgen : decide (n ≤ i) = false := decide_eq_false (by have := (List.getElem?_eq_some_iff.1 hx).1; omega)
    have hlt : (i : Int) < (n : Int) := by have := (List.getElem?_eq_some_iff.1 hx).1; omega
    obtain ⟨g, o, rfl, hg, hc0, hc1⟩ := glob_at HL.out hx
    have z0 := (HB0.out.cell (p := ⟨g, o + i * 2, none⟩) hg).trans hc0
    have z1 := (HB0.out.cell (p := ⟨g, o + i * 2 + 1, none⟩) hg).trans hc1
    clear hx hn hc0 hc1
    go_enter Try.func92, Try.ntmps92
    go_upto_region 1 with fail
    generalize w.alloc (.cells #[.int .u8 0, .bool false] 66) = w0 at HZ0 HB0 z0 z1 ⊢
    obtain ⟨Y, hY⟩ : ∃ Y, w.heap.size = Y := ⟨_, rfl⟩
    rw [hY] at HZ0
    have HY : Hid (w.heap.size ≤ Y) := Lib.hid (by omega)
    simp only [hY]
    clear hY
    go_wp2_with (refine wpList_store_to rfl 66 (.tmp 4) (.tmp 17) rfl rfl Y #[.int .u8 (x.t.toNat : Int), .bool x.mu] rfl rfl 66 #[.int .u8 0, .bool false] HZ0.out siz_sglob rfl (by simp [Value.oneCell']) ?_)
    refine bodyPost_ret (v := .tuple #[.agg #[.int .u8 (x.t.toNat : Int), .bool x.mu], .bool true]) (res_cell_tmp (p := 4) (q := 5) (ty := 66) (by kernel_rfl) _ _ Y 66 #[.int .u8 (x.t.toNat : Int), .bool x.mu] (0, 0) D rfl (setRow_heap _ _ #[.int .u8 0, .bool false] _ _ _ HZ0.out) HU.out HD.out siz_sglob (.bool true) rfl) rfl ?_
    exact ⟨rfl, below_setRow HB0.out HY.out _⟩
set_option maxRecDepth 100000 in
set_option maxHeartbeats 4000000 in
theorem satF_any (xs : List FT) (v : Value) (i : Nat) (w : World) (hv : SliceV w (· < w.heap.size) xs v) (hi : i < 4294967296) (hl : xs.length ≤ 1000000) :
    Calls Try.prog 91 #[v, .int .u32 (i : Int)] w fun e w' => ∃ A c A' c', e = .returned (.tuple #[.agg #[.slice A ((xs[i]?).getD ⟨[], []⟩).params.length c, .slice A' ((xs[i]?).getD ⟨[], []⟩).results.length c'], .bool (xs[i]?).isSome]) ∧ SliceV w' (· < w'.heap.size) ((xs[i]?).getD ⟨[], []⟩).params (.slice A ((xs[i]?).getD ⟨[], []⟩).params.length c) ∧ SliceV w' (· < w'.heap.size) ((xs[i]?).getD ⟨[], []⟩).results (.slice A' ((xs[i]?).getD ⟨[], []⟩).results.length c') ∧ Below w.heap.size w w' := by
  obtain ⟨D, hu, hd⟩ := descOf des_sft
  have HU := Lib.hid hu
  have HD := Lib.hid hd
  clear hu hd
  obtain ⟨A, c, rfl, _, _, _, hL⟩ := hv
  have HL := Lib.hid hL
  obtain ⟨n, hn⟩ : ∃ n, xs.length = n := ⟨_, rfl⟩
  rw [hn] at hl ⊢
  clear hL
  have HZ0 := Lib.hid (heap_alloc_new w (.cells #[.slice none 0 0, .slice none 0 0] 36))
  have HB0 : Hid (Below w.heap.size w (w.alloc (.cells #[.slice none 0 0, .slice none 0 0] 36))) := Lib.hid ((Below.refl _ _).alloc (Nat.le_refl _) _)
  cases hx : xs[i]? with
  | none =>
    have hge : (n : Int) ≤ (i : Int) := by have := List.getElem?_eq_none_iff.1 hx; omega
    have hgen : n ≤ i := by omega
    clear hx hn
    go_enter Try.func91, Try.ntmps91
    go_upto_region 1 with fail
    generalize w.alloc (.cells #[.slice none 0 0, .slice none 0 0] 36) = w0 at HZ0 HB0 ⊢
    obtain ⟨Y, hY⟩ : ∃ Y, w.heap.size = Y := ⟨_, rfl⟩
    rw [hY] at HZ0
    have HY : Hid (w.heap.size ≤ Y) := Lib.hid (by omega)
    simp only [hY]
    clear hY
    have HB1 : Hid (Below w.heap.size w (w0.alloc (.cells #[.slice none 0 0, .slice none 0 0] 36))) := Lib.hid (HB0.out.alloc HB0.out.size _)
    have HZ1 : Hid ((w0.alloc (.cells #[.slice none 0 0, .slice none 0 0] 36)).heap[Y]? = some (.cells #[.slice none 0 0, .slice none 0 0] 36 (0, 0))) := Lib.hid ((Below.heap_alloc w0 _ _ (Array.getElem?_eq_some_iff.1 HZ0.out).1).trans HZ0.out)
    have HN1 := Lib.hid (heap_alloc_new w0 (.cells #[.slice none 0 0, .slice none 0 0] 36))
    go_upto_region 3 with fail
    generalize w0.alloc (.cells #[.slice none 0 0, .slice none 0 0] 36) = w1 at HZ1 HB1 HN1 ⊢
    obtain ⟨n0, n1⟩ := two_cells HN1.out
    go_wp2_with (refine wpList_store_to rfl 36 (.tmp 4) (.tmp 13) rfl rfl Y #[.slice none 0 0, .slice none 0 0] rfl rfl 36 #[.slice none 0 0, .slice none 0 0] HZ1.out siz_sft rfl (by simp [Value.oneCell']) ?_)
    refine bodyPost_ret (v := .tuple #[.agg #[.slice none 0 0, .slice none 0 0], .bool false]) (res_cell_tmp (p := 4) (q := 5) (ty := 36) (by kernel_rfl) _ _ Y 36 #[.slice none 0 0, .slice none 0 0] (0, 0) D rfl (setRow_heap _ _ #[.slice none 0 0, .slice none 0 0] _ _ _ HZ1.out) HU.out HD.out siz_sft (.bool false) rfl) rfl ?_
    exact ⟨none, 0, none, 0, rfl, SliceV.nil _ _, SliceV.nil _ _, below_setRow HB1.out HY.out _⟩
  | some x =>
    have hge : decide ((n : Int) ≤ (i : Int)) = false := decide_eq_false (by have := (List.getElem?_eq_some_iff.1 hx).1; omega)
    have hgen : decide (n ≤ i) = false := decide_eq_false (by have := (List.getElem?_eq_some_iff.1 hx).1; omega)
    have hlt : (i : Int) < (n : Int) := by have := (List.getElem?_eq_some_iff.1 hx).1; omega
    obtain ⟨g, o, D1, d1, D2, d2, rfl, hg, hc0, hc1, hs1, hs2⟩ := ft_at HL.out hx
    obtain ⟨p1, hp1⟩ : ∃ p, x.params.length = p := ⟨_, rfl⟩
    obtain ⟨p2, hp2⟩ : ∃ p, x.results.length = p := ⟨_, rfl⟩
    rw [hp1] at hc0 hs1
    rw [hp2] at hc1 hs2
    have HP1 := Lib.hid hp1
    have HP2 := Lib.hid hp2
    have HS1 := Lib.hid hs1
    have HS2 := Lib.hid hs2
    clear hp1 hp2 hs1 hs2
    have z0 := (HB0.out.cell (p := ⟨g, o + i * 2, none⟩) hg).trans hc0
    have z1 := (HB0.out.cell (p := ⟨g, o + i * 2 + 1, none⟩) hg).trans hc1
    clear hx hn hc0 hc1
    go_enter Try.func91, Try.ntmps91
    go_upto_region 1 with fail
    generalize w.alloc (.cells #[.slice none 0 0, .slice none 0 0] 36) = w0 at HZ0 HB0 z0 z1 ⊢
    obtain ⟨Y, hY⟩ : ∃ Y, w.heap.size = Y := ⟨_, rfl⟩
    rw [hY] at HZ0
    have HY : Hid (w.heap.size ≤ Y) := Lib.hid (by omega)
    simp only [hY]
    clear hY
    go_wp2_with (refine wpList_store_to rfl 36 (.tmp 4) (.tmp 17) rfl rfl Y #[.slice D1 p1 d1, .slice D2 p2 d2] rfl rfl 36 #[.slice none 0 0, .slice none 0 0] HZ0.out siz_sft rfl (by simp [Value.oneCell']) ?_)
    refine bodyPost_ret (v := .tuple #[.agg #[.slice D1 p1 d1, .slice D2 p2 d2], .bool true]) (res_cell_tmp (p := 4) (q := 5) (ty := 36) (by kernel_rfl) _ _ Y 36 #[.slice D1 p1 d1, .slice D2 p2 d2] (0, 0) D rfl (setRow_heap _ _ #[.slice none 0 0, .slice none 0 0] _ _ _ HZ0.out) HU.out HD.out siz_sft (.bool true) rfl) rfl ?_
    have hbz := below_setRow HB0.out HY.out #[.slice D1 p1 d1, .slice D2 p2 d2]
    refine ⟨D1, d1, D2, d2, ?_, ?_, ?_, hbz⟩
    · simp only [Option.getD_some, Option.isSome_some, HP1.out, HP2.out]
    · simp only [Option.getD_some, HP1.out]; exact HS1.out.grow hbz
    · simp only [Option.getD_some, HP2.out]; exact HS2.out.grow hbz
end Go.Proofs.Ytakbehoglgebmaa
/-
  Layer 8's program: what a space is asked: Global, Table, Mem, Type, Func. (gen/space/ask2.py)
-/
namespace Go.Proofs.Ytakbehoglgebmaa
open Go.RowKit Ins Bin Sp
theorem ten_cells {w : World} {X : Nat} {x0 x1 x2 x3 x4 x5 x6 x7 x8 x9 : Value} {t : TypeId} (h : w.heap[X]? = some (.cells #[x0, x1, x2, x3, x4, x5, x6, x7, x8, x9] t (0, 0))) : w.cell? ⟨X, 0, none⟩ = some x0 ∧ w.cell? ⟨X, 1, none⟩ = some x1 ∧ w.cell? ⟨X, 2, none⟩ = some x2 ∧ w.cell? ⟨X, 3, none⟩ = some x3 ∧ w.cell? ⟨X, 4, none⟩ = some x4 ∧ w.cell? ⟨X, 5, none⟩ = some x5 ∧ w.cell? ⟨X, 6, none⟩ = some x6 ∧ w.cell? ⟨X, 7, none⟩ = some x7 ∧ w.cell? ⟨X, 8, none⟩ = some x8 ∧ w.cell? ⟨X, 9, none⟩ = some x9 := by
  refine ⟨?_, ?_, ?_, ?_, ?_, ?_, ?_, ?_, ?_, ?_⟩ <;> (rw [cell_of_row w X _ _ t (0, 0) h]; rfl)
/-- Nothing has more entries than walks ask for. -/
structure Some6 (m : M) : Prop where
  types : m.types.length ≤ 1000000
  each : ∀ x ∈ m.types, x.params.length ≤ 1000000 ∧ x.results.length ≤ 1000000
  funs : (funs m).length ≤ 1000000
  tabs : (tabs m).length ≤ 1000000
  mems : (mems m).length ≤ 1000000
  globs : (globs m).length ≤ 1000000
  exports : m.exports.length ≤ 1000000
theorem Few.some {m : M} (h : Few m) : Some6 m where
  types := Nat.le_trans h.types (by decide)
  each x hx := ⟨Nat.le_trans (h.each x hx).1 (by decide), Nat.le_trans (h.each x hx).2 (by decide)⟩
  funs := by have := imps_le m 0; have := h.imports; have := h.funcs; simp [Sp.funs]; omega
  tabs := by have := imps_le m 1; have := h.imports; have := h.tables; simp [Sp.tabs]; omega
  mems := by have := imps_le m 2; have := h.imports; have := h.mems; simp [Sp.mems]; omega
  globs := by have := imps_le m 3; have := h.imports; have := h.globals; simp [Sp.globs]; omega
  exports := Nat.le_trans h.exports (by decide)
/-- As FuncPost; what is told lies in blocks of the call's own. -/
def TypePost (o : Option FT) (w : World) (e : Ending) (w' : World) : Prop := ∃ u v, e = .returned (.tuple #[.agg #[u, v], .bool o.isSome]) ∧ SliceV w' (w.heap.size ≤ ·) (o.getD ⟨[], []⟩).params u ∧ SliceV w' (w.heap.size ≤ ·) (o.getD ⟨[], []⟩).results v ∧ Below w.heap.size w w'
theorem TypePost.func {o : Option FT} {w w' : World} {e : Ending} (h : TypePost o w e w') : FuncPost o w e w' := by
  obtain ⟨u, v, h1, h2, h3, h4⟩ := h
  exact ⟨u, v, h1, h2.more (fun k hk _ => hk), h3.more (fun k hk _ => hk), h4⟩
set_option maxRecDepth 100000 in
set_option maxHeartbeats 4000000 in
theorem sglobal_any (p : Option Addr) (m : M) (i : Nat) (w : World) (h : Recv w p m) (hl : Some6 m) (hi : i < 4294967296) :
    Calls Try.prog 77 #[.pointer p, .int .u32 (i : Int)] w fun e w' => GlobPost ((globs m)[i]?) w e w' := by
  obtain ⟨D, hu, hd⟩ := descOf des_sglob
  have HU := Lib.hid hu
  have HD := Lib.hid hd
  clear hu hd
  have HL := Lib.hid hl.globs
  have HZ0 := Lib.hid (heap_alloc_new w (.cells #[.int .u8 0, .bool false] 66))
  have HB0 : Hid (Below w.heap.size w (w.alloc (.cells #[.int .u8 0, .bool false] 66))) := Lib.hid ((Below.refl _ _).alloc (Nat.le_refl _) _)
  have HR := Lib.hid (h.grow HB0.out)
  clear h hl
  go_enter Try.func77, Try.ntmps77
  go_upto_region 1 with fail
  generalize w.alloc (.cells #[.int .u8 0, .bool false] 66) = w0 at HZ0 HB0 HR ⊢
  obtain ⟨Y, hY⟩ : ∃ Y, w.heap.size = Y := ⟨_, rfl⟩
  rw [hY] at HZ0
  have HY : Hid (w.heap.size ≤ Y) := Lib.hid (by omega)
  simp only [hY]
  clear hY
  go_wp2_with (first | (go_at_call 89; refine (sthere_any p m w0 HR.out).mono ?_; rintro e w1 ⟨P, rfl, hs, hb⟩; have HB1 := Lib.hid (HB0.out.trans (hb.mono HB0.out.size)); have HZ1 := Lib.hid ((hb.block Y (Array.getElem?_eq_some_iff.1 HZ0.out).1).trans HZ0.out); obtain ⟨A1, d1, A2, d2, A3, d3, A4, d4, A5, d5, A6, d6, h0, h1, h2, h3, h4, h5, h6⟩ := hs; obtain ⟨b0, b1, b2, b3, b4, b5, b6, b7, b8, b9⟩ := ten_cells h0; have HS := Lib.hid h5; clear hb h0 h1 h2 h3 h4 h5 h6) | (go_at_call 92; refine (satG_any (globs m) _ i w1 HS.out hi HL.out).mono ?_; rintro e w2 ⟨rfl, hb⟩; have HB2 := Lib.hid (HB1.out.trans (hb.mono HB1.out.size)); have HZ2 := Lib.hid ((hb.block Y (Array.getElem?_eq_some_iff.1 HZ1.out).1).trans HZ1.out); clear hb b0 b1 b2 b3 b4 b5 b6 b7 b8 b9) | (refine wpList_store_to rfl 66 (.tmp 4) (.tmp 14) rfl rfl Y (globArr (((globs m)[i]?).getD ⟨0, false⟩)) rfl rfl 66 #[.int .u8 0, .bool false] HZ2.out siz_sglob rfl (by simp [globArr, Value.oneCell']) ?_))
  refine bodyPost_ret (v := .tuple #[.agg (globArr (((globs m)[i]?).getD ⟨0, false⟩)), .bool ((globs m)[i]?).isSome]) (res_cell_tmp (p := 4) (q := 5) (ty := 66) (by kernel_rfl) _ _ Y 66 (globArr (((globs m)[i]?).getD ⟨0, false⟩)) (0, 0) D rfl (setRow_heap _ _ #[.int .u8 0, .bool false] _ _ _ HZ2.out) HU.out HD.out siz_sglob (.bool ((globs m)[i]?).isSome) rfl) rfl ?_
  exact ⟨rfl, below_setRow HB2.out HY.out _⟩
set_option maxRecDepth 100000 in
set_option maxHeartbeats 4000000 in
theorem stable_any (p : Option Addr) (m : M) (i : Nat) (w : World) (h : Recv w p m) (hl : Some6 m) (hi : i < 4294967296) :
    Calls Try.prog 74 #[.pointer p, .int .u32 (i : Int)] w fun e w' => LimPost ((tabs m)[i]?) w e w' := by
  obtain ⟨D, hu, hd⟩ := descOf des_slim
  have HU := Lib.hid hu
  have HD := Lib.hid hd
  clear hu hd
  have HL := Lib.hid hl.tabs
  have HZ0 := Lib.hid (heap_alloc_new w (.cells #[.int .u32 0, .int .i64 0] 64))
  have HB0 : Hid (Below w.heap.size w (w.alloc (.cells #[.int .u32 0, .int .i64 0] 64))) := Lib.hid ((Below.refl _ _).alloc (Nat.le_refl _) _)
  have HR := Lib.hid (h.grow HB0.out)
  clear h hl
  go_enter Try.func74, Try.ntmps74
  go_upto_region 1 with fail
  generalize w.alloc (.cells #[.int .u32 0, .int .i64 0] 64) = w0 at HZ0 HB0 HR ⊢
  obtain ⟨Y, hY⟩ : ∃ Y, w.heap.size = Y := ⟨_, rfl⟩
  rw [hY] at HZ0
  have HY : Hid (w.heap.size ≤ Y) := Lib.hid (by omega)
  simp only [hY]
  clear hY
  go_wp2_with (first | (go_at_call 89; refine (sthere_any p m w0 HR.out).mono ?_; rintro e w1 ⟨P, rfl, hs, hb⟩; have HB1 := Lib.hid (HB0.out.trans (hb.mono HB0.out.size)); have HZ1 := Lib.hid ((hb.block Y (Array.getElem?_eq_some_iff.1 HZ0.out).1).trans HZ0.out); obtain ⟨A1, d1, A2, d2, A3, d3, A4, d4, A5, d5, A6, d6, h0, h1, h2, h3, h4, h5, h6⟩ := hs; obtain ⟨b0, b1, b2, b3, b4, b5, b6, b7, b8, b9⟩ := ten_cells h0; have HS := Lib.hid h3; clear hb h0 h1 h2 h3 h4 h5 h6) | (go_at_call 90; refine (satL_any (tabs m) _ i w1 HS.out hi HL.out).mono ?_; rintro e w2 ⟨rfl, hb⟩; have HB2 := Lib.hid (HB1.out.trans (hb.mono HB1.out.size)); have HZ2 := Lib.hid ((hb.block Y (Array.getElem?_eq_some_iff.1 HZ1.out).1).trans HZ1.out); clear hb b0 b1 b2 b3 b4 b5 b6 b7 b8 b9) | (refine wpList_store_to rfl 64 (.tmp 4) (.tmp 14) rfl rfl Y (limArr (((tabs m)[i]?).getD ⟨0, 0⟩)) rfl rfl 64 #[.int .u32 0, .int .i64 0] HZ2.out siz_slim rfl (by simp [limArr, Value.oneCell']) ?_))
  refine bodyPost_ret (v := .tuple #[.agg (limArr (((tabs m)[i]?).getD ⟨0, 0⟩)), .bool ((tabs m)[i]?).isSome]) (res_cell_tmp (p := 4) (q := 5) (ty := 64) (by kernel_rfl) _ _ Y 64 (limArr (((tabs m)[i]?).getD ⟨0, 0⟩)) (0, 0) D rfl (setRow_heap _ _ #[.int .u32 0, .int .i64 0] _ _ _ HZ2.out) HU.out HD.out siz_slim (.bool ((tabs m)[i]?).isSome) rfl) rfl ?_
  exact ⟨rfl, below_setRow HB2.out HY.out _⟩
set_option maxRecDepth 100000 in
set_option maxHeartbeats 4000000 in
theorem smem_any (p : Option Addr) (m : M) (i : Nat) (w : World) (h : Recv w p m) (hl : Some6 m) (hi : i < 4294967296) :
    Calls Try.prog 78 #[.pointer p, .int .u32 (i : Int)] w fun e w' => LimPost ((mems m)[i]?) w e w' := by
  obtain ⟨D, hu, hd⟩ := descOf des_slim
  have HU := Lib.hid hu
  have HD := Lib.hid hd
  clear hu hd
  have HL := Lib.hid hl.mems
  have HZ0 := Lib.hid (heap_alloc_new w (.cells #[.int .u32 0, .int .i64 0] 64))
  have HB0 : Hid (Below w.heap.size w (w.alloc (.cells #[.int .u32 0, .int .i64 0] 64))) := Lib.hid ((Below.refl _ _).alloc (Nat.le_refl _) _)
  have HR := Lib.hid (h.grow HB0.out)
  clear h hl
  go_enter Try.func78, Try.ntmps78
  go_upto_region 1 with fail
  generalize w.alloc (.cells #[.int .u32 0, .int .i64 0] 64) = w0 at HZ0 HB0 HR ⊢
  obtain ⟨Y, hY⟩ : ∃ Y, w.heap.size = Y := ⟨_, rfl⟩
  rw [hY] at HZ0
  have HY : Hid (w.heap.size ≤ Y) := Lib.hid (by omega)
  simp only [hY]
  clear hY
  go_wp2_with (first | (go_at_call 89; refine (sthere_any p m w0 HR.out).mono ?_; rintro e w1 ⟨P, rfl, hs, hb⟩; have HB1 := Lib.hid (HB0.out.trans (hb.mono HB0.out.size)); have HZ1 := Lib.hid ((hb.block Y (Array.getElem?_eq_some_iff.1 HZ0.out).1).trans HZ0.out); obtain ⟨A1, d1, A2, d2, A3, d3, A4, d4, A5, d5, A6, d6, h0, h1, h2, h3, h4, h5, h6⟩ := hs; obtain ⟨b0, b1, b2, b3, b4, b5, b6, b7, b8, b9⟩ := ten_cells h0; have HS := Lib.hid h4; clear hb h0 h1 h2 h3 h4 h5 h6) | (go_at_call 90; refine (satL_any (mems m) _ i w1 HS.out hi HL.out).mono ?_; rintro e w2 ⟨rfl, hb⟩; have HB2 := Lib.hid (HB1.out.trans (hb.mono HB1.out.size)); have HZ2 := Lib.hid ((hb.block Y (Array.getElem?_eq_some_iff.1 HZ1.out).1).trans HZ1.out); clear hb b0 b1 b2 b3 b4 b5 b6 b7 b8 b9) | (refine wpList_store_to rfl 64 (.tmp 4) (.tmp 14) rfl rfl Y (limArr (((mems m)[i]?).getD ⟨0, 0⟩)) rfl rfl 64 #[.int .u32 0, .int .i64 0] HZ2.out siz_slim rfl (by simp [limArr, Value.oneCell']) ?_))
  refine bodyPost_ret (v := .tuple #[.agg (limArr (((mems m)[i]?).getD ⟨0, 0⟩)), .bool ((mems m)[i]?).isSome]) (res_cell_tmp (p := 4) (q := 5) (ty := 64) (by kernel_rfl) _ _ Y 64 (limArr (((mems m)[i]?).getD ⟨0, 0⟩)) (0, 0) D rfl (setRow_heap _ _ #[.int .u32 0, .int .i64 0] _ _ _ HZ2.out) HU.out HD.out siz_slim (.bool ((mems m)[i]?).isSome) rfl) rfl ?_
  exact ⟨rfl, below_setRow HB2.out HY.out _⟩
set_option maxRecDepth 100000 in
set_option maxHeartbeats 4000000 in
theorem stype_any (p : Option Addr) (m : M) (i : Nat) (w : World) (h : Recv w p m) (hl : Some6 m) (hi : i < 4294967296) :
    Calls Try.prog 75 #[.pointer p, .int .u32 (i : Int)] w fun e w' => TypePost (m.types[i]?) w e w' := by
  have HL := Lib.hid hl.types
  have HE : Hid (((m.types[i]?).getD ⟨[], []⟩).params.length ≤ 4294967296 ∧ ((m.types[i]?).getD ⟨[], []⟩).results.length ≤ 4294967296) := Lib.hid (by
    cases hx : m.types[i]? with
    | none => simp
    | some x => have := hl.each x (List.mem_of_getElem? hx); simp; omega)
  have HAT := Lib.hid (fun W v (hv : SliceV W (· < W.heap.size) m.types v) => satF_any m.types v i W hv hi HL.out)
  generalize m.types[i]? = o at HE HAT ⊢
  obtain ⟨x, hx⟩ : ∃ x, o.getD ⟨[], []⟩ = x := ⟨_, rfl⟩
  have HX := Lib.hid hx
  rw [hx] at HE HAT
  clear hx
  generalize hbb : o.isSome = bb at HAT
  have HBB := Lib.hid hbb
  clear hbb
  obtain ⟨p1, hp1⟩ : ∃ p, x.params.length = p := ⟨_, rfl⟩
  obtain ⟨p2, hp2⟩ : ∃ p, x.results.length = p := ⟨_, rfl⟩
  have HCP := Lib.hid (fun W u v (hu : SliceV W (· < W.heap.size) x.params u) (hv : SliceV W (· < W.heap.size) x.results v) => scopy_any x u v W hu hv HE.out.1 HE.out.2)
  simp only [hp1, hp2] at HAT HCP
  clear hp1 hp2
  obtain ⟨D, hu, hd⟩ := descOf des_sft
  have HU := Lib.hid hu
  have HD := Lib.hid hd
  clear hu hd
  have HZ0 := Lib.hid (heap_alloc_new w (.cells #[.slice none 0 0, .slice none 0 0] 36))
  have HB0 : Hid (Below w.heap.size w (w.alloc (.cells #[.slice none 0 0, .slice none 0 0] 36))) := Lib.hid ((Below.refl _ _).alloc (Nat.le_refl _) _)
  have HR := Lib.hid (h.grow HB0.out)
  clear h hl
  go_enter Try.func75, Try.ntmps75
  go_upto_region 1 with fail
  generalize w.alloc (.cells #[.slice none 0 0, .slice none 0 0] 36) = w0 at HZ0 HB0 HR ⊢
  obtain ⟨Y, hY⟩ : ∃ Y, w.heap.size = Y := ⟨_, rfl⟩
  rw [hY] at HZ0
  have HY : Hid (w.heap.size ≤ Y) := Lib.hid (by omega)
  simp only [hY]
  clear hY
  go_upto_region 2 with (first | (go_at_call 89; refine (sthere_any p m w0 HR.out).mono ?_; rintro e w1 ⟨P, rfl, hs, hb⟩; have HB1 := Lib.hid (HB0.out.trans (hb.mono HB0.out.size)); have HZ1 := Lib.hid ((hb.block Y (Array.getElem?_eq_some_iff.1 HZ0.out).1).trans HZ0.out); have HR1 := Lib.hid (HR.out.grow hb); obtain ⟨A1, d1, A2, d2, A3, d3, A4, d4, A5, d5, A6, d6, h0, h1, h2, h3, h4, h5, h6⟩ := hs; obtain ⟨b0, b1, b2, b3, b4, b5, b6, b7, b8, b9⟩ := ten_cells h0; have HS := Lib.hid h1; clear hb h0 h1 h2 h3 h4 h5 h6) | (go_at_call 91; refine (HAT.out w1 _ HS.out).mono ?_; rintro e w2 ⟨E1, f1, E2, f2, rfl, hs1, hs2, hb⟩; have HB2 := Lib.hid (HB1.out.trans (hb.mono HB1.out.size)); have HZ2 := Lib.hid ((hb.block Y (Array.getElem?_eq_some_iff.1 HZ1.out).1).trans HZ1.out); have HS1 := Lib.hid hs1; have HS2 := Lib.hid hs2; clear hb hs1 hs2 b0 b1 b2 b3 b4 b5 b6 b7 b8 b9))
  have hba : Below w2.heap.size w2 (w2.alloc (.cells #[.slice E1 p1 f1, .slice E2 p2 f2] 36)) := (Below.refl _ _).alloc (Nat.le_refl _) _
  have HT := Lib.hid (heap_alloc_new w2 (.cells #[.slice E1 p1 f1, .slice E2 p2 f2] 36))
  have HB3 := Lib.hid (HB2.out.trans (hba.mono HB2.out.size))
  have HZ3 := Lib.hid ((hba.block Y (Array.getElem?_eq_some_iff.1 HZ2.out).1).trans HZ2.out)
  have HS1 := Lib.hid (HS1.out.grow hba)
  have HS2 := Lib.hid (HS2.out.grow hba)
  clear hba
  generalize w2.alloc (.cells #[.slice E1 p1 f1, .slice E2 p2 f2] 36) = w3 at HT HB3 HZ3 HS1 HS2 ⊢
  obtain ⟨t0, t1⟩ := two_cells HT.out
  go_wp2_with fail
  refine (HCP.out w3 _ _ HS1.out HS2.out).mono ?_
  rintro e w4 ⟨G1, k1, G2, k2, rfl, hs1, hs2, hb⟩
  have HB4 := Lib.hid (HB3.out.trans (hb.mono HB3.out.size))
  have HZ4 := Lib.hid ((hb.block Y (Array.getElem?_eq_some_iff.1 HZ3.out).1).trans HZ3.out)
  have HS1 := Lib.hid (hs1.more (S' := (· < w4.heap.size)) (fun k hk _ => hk))
  have HS2 := Lib.hid (hs2.more (S' := (· < w4.heap.size)) (fun k hk _ => hk))
  have HS3 := Lib.hid hs1
  have HS4 := Lib.hid hs2
  have HYL : Hid (Y < w3.heap.size) := Lib.hid (Array.getElem?_eq_some_iff.1 HZ3.out).1
  clear hb hs1 hs2 t0 t1
  go_wp2_with (refine wpList_store_to rfl 36 (.tmp 4) (.tmp 19) rfl rfl Y #[.slice G1 p1 k1, .slice G2 p2 k2] rfl rfl 36 #[.slice none 0 0, .slice none 0 0] HZ4.out siz_sft rfl (by simp [Value.oneCell']) ?_)
  refine bodyPost_ret (v := .tuple #[.agg #[.slice G1 p1 k1, .slice G2 p2 k2], .bool bb]) (res_cell_tmp (p := 4) (q := 5) (ty := 36) (by kernel_rfl) _ _ Y 36 #[.slice G1 p1 k1, .slice G2 p2 k2] (0, 0) D rfl (setRow_heap _ _ #[.slice none 0 0, .slice none 0 0] _ _ _ (HZ4.out)) HU.out HD.out siz_sft (.bool bb) rfl) rfl ?_
  have hms : Mod (· = Y) w4 (w4.setRow Y #[.slice G1 p1 k1, .slice G2 p2 k2]) := ⟨rfl, rfl, rfl, by simp, fun k _ ht => setRow_other w4 Y k _ ht⟩
  refine ⟨_, _, by rw [HBB.out], ?_, ?_, below_setRow HB4.out HY.out _⟩
  · rw [HX.out]
    exact (HS3.out.mod hms (fun g _ hg e => by have := HYL.out; have e' : g = Y := e; have hg' : w3.heap.size ≤ g := hg; omega)).more (fun k hk hg => Nat.le_trans HB3.out.size hg)
  · rw [HX.out]
    exact (HS4.out.mod hms (fun g _ hg e => by have := HYL.out; have e' : g = Y := e; have hg' : w3.heap.size ≤ g := hg; omega)).more (fun k hk hg => Nat.le_trans HB3.out.size hg)
end Go.Proofs.Ytakbehoglgebmaa
