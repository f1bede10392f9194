/-
  Layer 8's program: a space that is nil, or there; a row's entry by number. (gen/space/ask1.py)
-/
import Derived.Test.YtakbehoglgebmaaQ16
namespace Go.Proofs.Ytakbehoglgebmaa
open Go.RowKit Ins Bin Sp
def noM : M := ⟨[], [], [], [], [], [], [], false, 0, [], [], []⟩
/-- A space that is asked: one of a module, or none. -/
def Recv (w : World) (p : Option Addr) (m : M) : Prop := (∃ P, p = some ⟨P, 0, none⟩ ∧ SpaceV w P m) ∨ (p = none ∧ m = noM)
theorem Recv.grow {w w' : World} {p : Option Addr} {m : M} (h : Recv w p m) (hb : Below w.heap.size w w') : Recv w' p m := by
  rcases h with ⟨P, rfl, h⟩ | h
  · exact .inl ⟨P, rfl, h.grow hb⟩
  · exact .inr h
set_option maxRecDepth 100000 in
set_option maxHeartbeats 4000000 in
theorem sthere_any (p : Option Addr) (m : M) (w : World) (h : Recv w p m) :
    Calls Try.prog 89 #[.pointer p] w fun e w' => ∃ P, e = .returned (.pointer (some ⟨P, 0, none⟩)) ∧ SpaceV w' P m ∧ Below w.heap.size w w' := by
  rcases h with ⟨P, rfl, h⟩ | ⟨rfl, rfl⟩
  · have HS := Lib.hid h
    clear h
    go_enter Try.func89, Try.ntmps89
    go_wp2
    go_ret
    exact ⟨P, rfl, HS.out, Below.refl _ _⟩
  · go_enter Try.func89, Try.ntmps89
    go_wp2
    go_ret
    refine ⟨w.heap.size, rfl, ⟨none, 0, none, 0, none, 0, none, 0, none, 0, none, 0, heap_alloc_new w _, SliceV.nil _ _, SliceV.nil _ _, SliceV.nil _ _, SliceV.nil _ _, SliceV.nil _ _, SliceV.nil _ _⟩, (Below.refl _ _).alloc (Nat.le_refl _) _⟩
set_option maxRecDepth 100000 in
set_option maxHeartbeats 4000000 in
theorem satU_any (xs : List Nat) (v : Value) (i : Nat) (w : World) (hv : SliceV w (· < w.heap.size) xs v) (hi : i < 4294967296) (hl : xs.length ≤ 1000000) :
    Calls Try.prog 88 #[v, .int .u32 (i : Int)] w fun e w' => e = .returned (.tuple #[.int .u32 ((xs[i]?.getD 0 : Nat) : Int), .bool (xs[i]?).isSome]) ∧ w' = w := by
  obtain ⟨A, c, rfl, _, _, _, hL⟩ := hv
  have HL := Lib.hid hL
  obtain ⟨n, hn⟩ : ∃ n, xs.length = n := ⟨_, rfl⟩
  rw [hn] at hl ⊢
  clear hL
  cases hx : xs[i]? with
  | none =>
    have hge : (n : Int) ≤ (i : Int) := by have := List.getElem?_eq_none_iff.1 hx; omega
    have hgen : n ≤ i := by omega
    clear hx hn
    go_enter Try.func88, Try.ntmps88
    go_wp2
    go_ret2
    exact ⟨rfl, rfl⟩
  | some x =>
    have hge : decide ((n : Int) ≤ (i : Int)) = false := decide_eq_false (by have := (List.getElem?_eq_some_iff.1 hx).1; omega)
    have hgen : decide (n ≤ i) = false := decide_eq_false (by have := (List.getElem?_eq_some_iff.1 hx).1; omega)
    have hlt : (i : Int) < (n : Int) := by have := (List.getElem?_eq_some_iff.1 hx).1; omega
    obtain ⟨g, o, rfl, hg, hc, hxl⟩ := nat_at HL.out hx
    clear hx hn
    go_enter Try.func88, Try.ntmps88
    go_wp2
    go_ret2
    exact ⟨rfl, rfl⟩
set_option maxRecDepth 100000 in
set_option maxHeartbeats 4000000 in
theorem satL_any (xs : List Lim) (v : Value) (i : Nat) (w : World) (hv : SliceV w (· < w.heap.size) xs v) (hi : i < 4294967296) (hl : xs.length ≤ 1000000) :
    Calls Try.prog 90 #[v, .int .u32 (i : Int)] w fun e w' => e = .returned (.tuple #[.agg (limArr (xs[i]?.getD ⟨0, 0⟩)), .bool (xs[i]?).isSome]) ∧ Below w.heap.size w w' := by
  obtain ⟨D, hu, hd⟩ := descOf des_slim
  have HU := Lib.hid hu
  have HD := Lib.hid hd
  clear hu hd
  obtain ⟨A, c, rfl, _, _, _, hL⟩ := hv
  have HL := Lib.hid hL
  obtain ⟨n, hn⟩ : ∃ n, xs.length = n := ⟨_, rfl⟩
  rw [hn] at hl ⊢
  clear hL
  have HZ0 := Lib.hid (heap_alloc_new w (.cells #[.int .u32 0, .int .i64 0] 64))
  have HB0 : Hid (Below w.heap.size w (w.alloc (.cells #[.int .u32 0, .int .i64 0] 64))) := Lib.hid ((Below.refl _ _).alloc (Nat.le_refl _) _)
  cases hx : xs[i]? with
  | none =>
    have hge : (n : Int) ≤ (i : Int) := by have := List.getElem?_eq_none_iff.1 hx; omega
    have hgen : n ≤ i := by omega
    clear hx hn
    go_enter Try.func90, Try.ntmps90
    go_upto_region 1 with fail
    generalize w.alloc (.cells #[.int .u32 0, .int .i64 0] 64) = w0 at HZ0 HB0 ⊢
    obtain ⟨Y, hY⟩ : ∃ Y, w.heap.size = Y := ⟨_, rfl⟩
    rw [hY] at HZ0
    have HY : Hid (w.heap.size ≤ Y) := Lib.hid (by omega)
    simp only [hY]
    clear hY
    have HB1 : Hid (Below w.heap.size w (w0.alloc (.cells #[.int .u32 0, .int .i64 0] 64))) := Lib.hid (HB0.out.alloc HB0.out.size _)
    have HZ1 : Hid ((w0.alloc (.cells #[.int .u32 0, .int .i64 0] 64)).heap[Y]? = some (.cells #[.int .u32 0, .int .i64 0] 64 (0, 0))) := Lib.hid ((Below.heap_alloc w0 _ _ (Array.getElem?_eq_some_iff.1 HZ0.out).1).trans HZ0.out)
    have HN1 := Lib.hid (heap_alloc_new w0 (.cells #[.int .u32 0, .int .i64 0] 64))
    go_upto_region 3 with fail
    generalize w0.alloc (.cells #[.int .u32 0, .int .i64 0] 64) = w1 at HZ1 HB1 HN1 ⊢
    obtain ⟨n0, n1⟩ := two_cells HN1.out
    go_wp2_with (refine wpList_store_to rfl 64 (.tmp 4) (.tmp 13) rfl rfl Y #[.int .u32 0, .int .i64 0] rfl rfl 64 #[.int .u32 0, .int .i64 0] HZ1.out siz_slim rfl (by simp [Value.oneCell']) ?_)
    refine bodyPost_ret (v := .tuple #[.agg #[.int .u32 0, .int .i64 0], .bool false]) (res_cell_tmp (p := 4) (q := 5) (ty := 64) (by kernel_rfl) _ _ Y 64 #[.int .u32 0, .int .i64 0] (0, 0) D rfl (setRow_heap _ _ #[.int .u32 0, .int .i64 0] _ _ _ HZ1.out) HU.out HD.out siz_slim (.bool false) rfl) rfl ?_
    exact ⟨rfl, below_setRow HB1.out HY.out _⟩
  | some x =>
    have hge : decide ((n : Int) ≤ (i : Int)) = false := decide_eq_false (by have := (List.getElem?_eq_some_iff.1 hx).1; omega)
    have hgen : decide (n ≤ i) = false := decide_eq_false (by have := (List.getElem?_eq_some_iff.1 hx).1; omega)
    have hlt : (i : Int) < (n : Int) := by have := (List.getElem?_eq_some_iff.1 hx).1; omega
    obtain ⟨g, o, rfl, hg, hc0, hc1⟩ := lim_at HL.out hx
    have z0 := (HB0.out.cell (p := ⟨g, o + i * 2, none⟩) hg).trans hc0
    have z1 := (HB0.out.cell (p := ⟨g, o + i * 2 + 1, none⟩) hg).trans hc1
    clear hx hn hc0 hc1
    go_enter Try.func90, Try.ntmps90
    go_upto_region 1 with fail
    generalize w.alloc (.cells #[.int .u32 0, .int .i64 0] 64) = w0 at HZ0 HB0 z0 z1 ⊢
    obtain ⟨Y, hY⟩ : ∃ Y, w.heap.size = Y := ⟨_, rfl⟩
    rw [hY] at HZ0
    have HY : Hid (w.heap.size ≤ Y) := Lib.hid (by omega)
    simp only [hY]
    clear hY
    go_wp2_with (refine wpList_store_to rfl 64 (.tmp 4) (.tmp 17) rfl rfl Y #[.int .u32 (x.min : Int), .int .i64 x.max] rfl rfl 64 #[.int .u32 0, .int .i64 0] HZ0.out siz_slim rfl (by simp [Value.oneCell']) ?_)
    refine bodyPost_ret (v := .tuple #[.agg #[.int .u32 (x.min : Int), .int .i64 x.max], .bool true]) (res_cell_tmp (p := 4) (q := 5) (ty := 64) (by kernel_rfl) _ _ Y 64 #[.int .u32 (x.min : Int), .int .i64 x.max] (0, 0) D rfl (setRow_heap _ _ #[.int .u32 0, .int .i64 0] _ _ _ HZ0.out) HU.out HD.out siz_slim (.bool true) rfl) rfl ?_
    exact ⟨rfl, below_setRow HB0.out HY.out _⟩
theorem glob_at {w : World} {S : Nat → Prop} {A : Option Addr} {xs : List Glob} {k : Nat} {x : Glob} (h : HasL w S A xs) (hx : xs[k]? = some x) : ∃ g o, A = some ⟨g, o, none⟩ ∧ g < w.heap.size ∧ w.cell? ⟨g, o + k * 2, none⟩ = some (.int .u8 (x.t.toNat : Int)) ∧ w.cell? ⟨g, o + k * 2 + 1, none⟩ = some (.bool x.mu) := by
  obtain ⟨g, o, cs, h1, _, h3, h4, h6⟩ := h k x hx
  have h4' : cs = globCells x := h4
  subst h4'
  exact ⟨g, o, h1, h3, h6 0 _ rfl, h6 1 _ rfl⟩
set_option maxRecDepth 100000 in
set_option maxHeartbeats 4000000 in
theorem satG_any (xs : List Glob) (v : Value) (i : Nat) (w : World) (hv : SliceV w (· < w.heap.size) xs v) (hi : i < 4294967296) (hl : xs.length ≤ 1000000) :
    Calls Try.prog 92 #[v, .int .u32 (i : Int)] w fun e w' => e = .returned (.tuple #[.agg (globArr (xs[i]?.getD ⟨0, false⟩)), .bool (xs[i]?).isSome]) ∧ Below w.heap.size w w' := by
  obtain ⟨D, hu, hd⟩ := descOf des_sglob
  have HU := Lib.hid hu
  have HD := Lib.hid hd
  clear hu hd
  obtain ⟨A, c, rfl, _, _, _, hL⟩ := hv
  have HL := Lib.hid hL
  obtain ⟨n, hn⟩ : ∃ n, xs.length = n := ⟨_, rfl⟩
  rw [hn] at hl ⊢
  clear hL
  have HZ0 := Lib.hid (heap_alloc_new w (.cells #[.int .u8 0, .bool false] 66))
  have HB0 : Hid (Below w.heap.size w (w.alloc (.cells #[.int .u8 0, .bool false] 66))) := Lib.hid ((Below.refl _ _).alloc (Nat.le_refl _) _)
  cases hx : xs[i]? with
  | none =>
    have hge : (n : Int) ≤ (i : Int) := by have := List.getElem?_eq_none_iff.1 hx; omega
    have hgen : n ≤ i := by omega
    clear hx hn
    go_enter Try.func92, Try.ntmps92
    go_upto_region 1 with fail
    generalize w.alloc (.cells #[.int .u8 0, .bool false] 66) = w0 at HZ0 HB0 ⊢
    obtain ⟨Y, hY⟩ : ∃ Y, w.heap.size = Y := ⟨_, rfl⟩
    rw [hY] at HZ0
    have HY : Hid (w.heap.size ≤ Y) := Lib.hid (by omega)
    simp only [hY]
    clear hY
    have HB1 : Hid (Below w.heap.size w (w0.alloc (.cells #[.int .u8 0, .bool false] 66))) := Lib.hid (HB0.out.alloc HB0.out.size _)
    have HZ1 : Hid ((w0.alloc (.cells #[.int .u8 0, .bool false] 66)).heap[Y]? = some (.cells #[.int .u8 0, .bool false] 66 (0, 0))) := Lib.hid ((Below.heap_alloc w0 _ _ (Array.getElem?_eq_some_iff.1 HZ0.out).1).trans HZ0.out)
    have HN1 := Lib.hid (heap_alloc_new w0 (.cells #[.int .u8 0, .bool false] 66))
    go_upto_region 3 with fail
    generalize w0.alloc (.cells #[.int .u8 0, .bool false] 66) = w1 at HZ1 HB1 HN1 ⊢
    obtain ⟨n0, n1⟩ := two_cells HN1.out
    go_wp2_with (refine wpList_store_to rfl 66 (.tmp 4) (.tmp 13) rfl rfl Y #[.int .u8 0, .bool false] rfl rfl 66 #[.int .u8 0, .bool false] HZ1.out siz_sglob rfl (by simp [Value.oneCell']) ?_)
    refine bodyPost_ret (v := .tuple #[.agg #[.int .u8 0, .bool false], .bool false]) (res_cell_tmp (p := 4) (q := 5) (ty := 66) (by kernel_rfl) _ _ Y 66 #[.int .u8 0, .bool false] (0, 0) D rfl (setRow_heap _ _ #[.int .u8 0, .bool false] _ _ _ HZ1.out) HU.out HD.out siz_sglob (.bool false) rfl) rfl ?_
    exact ⟨rfl, below_setRow HB1.out HY.out _⟩
  | some x =>
    have hge : decide ((n : Int) ≤ (i : Int)) = false := decide_eq_false (by have := (List.getElem?_eq_some_iff.1 hx).1; omega)
    have hgen : decide (n ≤ i) = false := decide_eq_false (by have := (List.getElem?_eq_some_iff.1 hx).1; omega)
    have hlt : (i : Int) < (n : Int) := by have := (List.getElem?_eq_some_iff.1 hx).1; omega
    obtain ⟨g, o, rfl, hg, hc0, hc1⟩ := glob_at HL.out hx
    have z0 := (HB0.out.cell (p := ⟨g, o + i * 2, none⟩) hg).trans hc0
    have z1 := (HB0.out.cell (p := ⟨g, o + i * 2 + 1, none⟩) hg).trans hc1
    clear hx hn hc0 hc1
    go_enter Try.func92, Try.ntmps92
    go_upto_region 1 with fail
    generalize w.alloc (.cells #[.int .u8 0, .bool false] 66) = w0 at HZ0 HB0 z0 z1 ⊢
    obtain ⟨Y, hY⟩ : ∃ Y, w.heap.size = Y := ⟨_, rfl⟩
    rw [hY] at HZ0
    have HY : Hid (w.heap.size ≤ Y) := Lib.hid (by omega)
    simp only [hY]
    clear hY
    go_wp2_with (refine wpList_store_to rfl 66 (.tmp 4) (.tmp 17) rfl rfl Y #[.int .u8 (x.t.toNat : Int), .bool x.mu] rfl rfl 66 #[.int .u8 0, .bool false] HZ0.out siz_sglob rfl (by simp [Value.oneCell']) ?_)
    refine bodyPost_ret (v := .tuple #[.agg #[.int .u8 (x.t.toNat : Int), .bool x.mu], .bool true]) (res_cell_tmp (p := 4) (q := 5) (ty := 66) (by kernel_rfl) _ _ Y 66 #[.int .u8 (x.t.toNat : Int), .bool x.mu] (0, 0) D rfl (setRow_heap _ _ #[.int .u8 0, .bool false] _ _ _ HZ0.out) HU.out HD.out siz_sglob (.bool true) rfl) rfl ?_
    exact ⟨rfl, below_setRow HB0.out HY.out _⟩
set_option maxRecDepth 100000 in
set_option maxHeartbeats 4000000 in
theorem satF_any (xs : List FT) (v : Value) (i : Nat) (w : World) (hv : SliceV w (· < w.heap.size) xs v) (hi : i < 4294967296) (hl : xs.length ≤ 1000000) :
    Calls Try.prog 91 #[v, .int .u32 (i : Int)] w fun e w' => ∃ A c A' c', e = .returned (.tuple #[.agg #[.slice A ((xs[i]?).getD ⟨[], []⟩).params.length c, .slice A' ((xs[i]?).getD ⟨[], []⟩).results.length c'], .bool (xs[i]?).isSome]) ∧ SliceV w' (· < w'.heap.size) ((xs[i]?).getD ⟨[], []⟩).params (.slice A ((xs[i]?).getD ⟨[], []⟩).params.length c) ∧ SliceV w' (· < w'.heap.size) ((xs[i]?).getD ⟨[], []⟩).results (.slice A' ((xs[i]?).getD ⟨[], []⟩).results.length c') ∧ Below w.heap.size w w' := by
  obtain ⟨D, hu, hd⟩ := descOf des_sft
  have HU := Lib.hid hu
  have HD := Lib.hid hd
  clear hu hd
  obtain ⟨A, c, rfl, _, _, _, hL⟩ := hv
  have HL := Lib.hid hL
  obtain ⟨n, hn⟩ : ∃ n, xs.length = n := ⟨_, rfl⟩
  rw [hn] at hl ⊢
  clear hL
  have HZ0 := Lib.hid (heap_alloc_new w (.cells #[.slice none 0 0, .slice none 0 0] 36))
  have HB0 : Hid (Below w.heap.size w (w.alloc (.cells #[.slice none 0 0, .slice none 0 0] 36))) := Lib.hid ((Below.refl _ _).alloc (Nat.le_refl _) _)
  cases hx : xs[i]? with
  | none =>
    have hge : (n : Int) ≤ (i : Int) := by have := List.getElem?_eq_none_iff.1 hx; omega
    have hgen : n ≤ i := by omega
    clear hx hn
    go_enter Try.func91, Try.ntmps91
    go_upto_region 1 with fail
    generalize w.alloc (.cells #[.slice none 0 0, .slice none 0 0] 36) = w0 at HZ0 HB0 ⊢
    obtain ⟨Y, hY⟩ : ∃ Y, w.heap.size = Y := ⟨_, rfl⟩
    rw [hY] at HZ0
    have HY : Hid (w.heap.size ≤ Y) := Lib.hid (by omega)
    simp only [hY]
    clear hY
    have HB1 : Hid (Below w.heap.size w (w0.alloc (.cells #[.slice none 0 0, .slice none 0 0] 36))) := Lib.hid (HB0.out.alloc HB0.out.size _)
    have HZ1 : Hid ((w0.alloc (.cells #[.slice none 0 0, .slice none 0 0] 36)).heap[Y]? = some (.cells #[.slice none 0 0, .slice none 0 0] 36 (0, 0))) := Lib.hid ((Below.heap_alloc w0 _ _ (Array.getElem?_eq_some_iff.1 HZ0.out).1).trans HZ0.out)
    have HN1 := Lib.hid (heap_alloc_new w0 (.cells #[.slice none 0 0, .slice none 0 0] 36))
    go_upto_region 3 with fail
    generalize w0.alloc (.cells #[.slice none 0 0, .slice none 0 0] 36) = w1 at HZ1 HB1 HN1 ⊢
    obtain ⟨n0, n1⟩ := two_cells HN1.out
    go_wp2_with (refine wpList_store_to rfl 36 (.tmp 4) (.tmp 13) rfl rfl Y #[.slice none 0 0, .slice none 0 0] rfl rfl 36 #[.slice none 0 0, .slice none 0 0] HZ1.out siz_sft rfl (by simp [Value.oneCell']) ?_)
    refine bodyPost_ret (v := .tuple #[.agg #[.slice none 0 0, .slice none 0 0], .bool false]) (res_cell_tmp (p := 4) (q := 5) (ty := 36) (by kernel_rfl) _ _ Y 36 #[.slice none 0 0, .slice none 0 0] (0, 0) D rfl (setRow_heap _ _ #[.slice none 0 0, .slice none 0 0] _ _ _ HZ1.out) HU.out HD.out siz_sft (.bool false) rfl) rfl ?_
    exact ⟨none, 0, none, 0, rfl, SliceV.nil _ _, SliceV.nil _ _, below_setRow HB1.out HY.out _⟩
  | some x =>
    have hge : decide ((n : Int) ≤ (i : Int)) = false := decide_eq_false (by have := (List.getElem?_eq_some_iff.1 hx).1; omega)
    have hgen : decide (n ≤ i) = false := decide_eq_false (by have := (List.getElem?_eq_some_iff.1 hx).1; omega)
    have hlt : (i : Int) < (n : Int) := by have := (List.getElem?_eq_some_iff.1 hx).1; omega
    obtain ⟨g, o, D1, d1, D2, d2, rfl, hg, hc0, hc1, hs1, hs2⟩ := ft_at HL.out hx
    obtain ⟨p1, hp1⟩ : ∃ p, x.params.length = p := ⟨_, rfl⟩
    obtain ⟨p2, hp2⟩ : ∃ p, x.results.length = p := ⟨_, rfl⟩
    rw [hp1] at hc0 hs1
    rw [hp2] at hc1 hs2
    have HP1 := Lib.hid hp1
    have HP2 := Lib.hid hp2
    have HS1 := Lib.hid hs1
    have HS2 := Lib.hid hs2
    clear hp1 hp2 hs1 hs2
    have z0 := (HB0.out.cell (p := ⟨g, o + i * 2, none⟩) hg).trans hc0
    have z1 := (HB0.out.cell (p := ⟨g, o + i * 2 + 1, none⟩) hg).trans hc1
    clear hx hn hc0 hc1
    go_enter Try.func91, Try.ntmps91
    go_upto_region 1 with fail
    generalize w.alloc (.cells #[.slice none 0 0, .slice none 0 0] 36) = w0 at HZ0 HB0 z0 z1 ⊢
    obtain ⟨Y, hY⟩ : ∃ Y, w.heap.size = Y := ⟨_, rfl⟩
    rw [hY] at HZ0
    have HY : Hid (w.heap.size ≤ Y) := Lib.hid (by omega)
    simp only [hY]
    clear hY
    go_wp2_with (refine wpList_store_to rfl 36 (.tmp 4) (.tmp 17) rfl rfl Y #[.slice D1 p1 d1, .slice D2 p2 d2] rfl rfl 36 #[.slice none 0 0, .slice none 0 0] HZ0.out siz_sft rfl (by simp [Value.oneCell']) ?_)
    refine bodyPost_ret (v := .tuple #[.agg #[.slice D1 p1 d1, .slice D2 p2 d2], .bool true]) (res_cell_tmp (p := 4) (q := 5) (ty := 36) (by kernel_rfl) _ _ Y 36 #[.slice D1 p1 d1, .slice D2 p2 d2] (0, 0) D rfl (setRow_heap _ _ #[.slice none 0 0, .slice none 0 0] _ _ _ HZ0.out) HU.out HD.out siz_sft (.bool true) rfl) rfl ?_
    have hbz := below_setRow HB0.out HY.out #[.slice D1 p1 d1, .slice D2 p2 d2]
    refine ⟨D1, d1, D2, d2, ?_, ?_, ?_, hbz⟩
    · simp only [Option.getD_some, Option.isSome_some, HP1.out, HP2.out]
    · simp only [Option.getD_some, HP1.out]; exact HS1.out.grow hbz
    · simp only [Option.getD_some, HP2.out]; exact HS2.out.grow hbz
end Go.Proofs.Ytakbehoglgebmaa
