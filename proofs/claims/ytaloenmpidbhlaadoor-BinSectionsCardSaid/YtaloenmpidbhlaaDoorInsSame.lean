/-
  The document's Great, Same and SameAll: they tell what the plain functions tell, and leave all that was there as it was.
-/
import Derived.Test.YtaloenmpidbhlaaDoorInsRd5
import Derived.Test.YtaloenmpidbhlaaDoorInsM
import Derived.Deep.Cut
import Derived.Deep.RegionHeld3
namespace Ins
/-- Instructions and labels together. -/
def many : List I → Nat
  | [] => 0
  | x :: xs => 1 + x.l.length + many xs
theorem many_append : ∀ (a b : List I), many (a ++ b) = many a + many b
  | [], b => by simp [many]
  | x :: a, b => by simp only [List.cons_append, many, many_append a b]; omega
theorem many_take {xs : List I} {j : Nat} {x : I} (h : xs[j]? = some x) : many (xs.take (j + 1)) = many (xs.take j) + (1 + x.l.length) := by
  rw [List.take_add_one, h, many_append]; simp [many]
theorem many_take_le (xs : List I) (j : Nat) : many (xs.take j) ≤ many xs := by
  have h := many_append (xs.take j) (xs.drop j)
  rw [List.take_append_drop] at h
  omega
theorem tot_many : ∀ (xs : List I), tot xs ≤ 5 * many xs
  | [] => by simp [tot]
  | x :: xs => by have := tot_many xs; simp only [tot, many]; omega
theorem many_len {xs : List I} {x : I} (h : x ∈ xs) : x.l.length < many xs := by
  induction xs with
  | nil => cases h
  | cons y ys ih =>
    simp only [many]
    rcases List.mem_cons.1 h with rfl | h
    · omega
    · have := ih h; omega
end Ins
namespace Go.Proofs.YtaloenmpidbhlaaDoor
open Go.RowKit Ins
set_option maxRecDepth 100000 in
set_option maxHeartbeats 4000000 in
/-- Same, of two instructions that are one. -/
theorem same_any (S1 S2 : Nat → Prop) (x : I) (A1 A2 : Option Addr) (c1 c2 : Nat) (w : World) (h1 : HasU w S1 A1 x.l) (h2 : HasU w S2 A2 x.l) (hl : x.l.length ≤ 140737488355328) :
    Calls Tryd.prog 30 #[insVal x A1 c1, insVal x A2 c2] w fun e w' => e = .returned (.bool true) ∧ Below w.heap.size w w' := by
  obtain ⟨op, xa, xb, xc, xl⟩ := x
  simp only [insVal, insCells]
  simp only at h1 h2 hl
  obtain ⟨n, hn⟩ : ∃ n, xl.length = n := ⟨_, rfl⟩
  rw [hn] at hl ⊢
  have HN := Lib.hid hn
  have H1 := Lib.hid h1
  have H2 := Lib.hid h2
  clear h1 h2 hn
  have e1 : ((op : Int) == (op : Int)) = true := by simp
  have e2 : ((xa : Int) == (xa : Int)) = true := by simp
  have e3 : ((xb : Int) == (xb : Int)) = true := by simp
  have e4 : (xc == xc) = true := by simp
  have e5 : ((n : Int) == (n : Int)) = true := by simp
  go_enter Tryd.func30, Tryd.ntmps30
  go_upto_region 1 with (fail)
  have HB0 : Hid (Below w.heap.size w ((w.alloc (.cells #[.int .u8 (op : Int), .int .u32 (xa : Int), .int .u32 (xb : Int), .int .i64 xc, .slice A1 n c1] 80)).alloc (.cells #[.int .u8 (op : Int), .int .u32 (xa : Int), .int .u32 (xb : Int), .int .i64 xc, .slice A2 n c2] 80))) := Lib.hid (((Below.refl _ _).alloc (Nat.le_refl _) _).alloc (by simp) _)
  have HX1 : Hid (((w.alloc (.cells #[.int .u8 (op : Int), .int .u32 (xa : Int), .int .u32 (xb : Int), .int .i64 xc, .slice A1 n c1] 80)).alloc (.cells #[.int .u8 (op : Int), .int .u32 (xa : Int), .int .u32 (xb : Int), .int .i64 xc, .slice A2 n c2] 80)).heap[w.heap.size]? = some (.cells #[.int .u8 (op : Int), .int .u32 (xa : Int), .int .u32 (xb : Int), .int .i64 xc, .slice A1 n c1] 80 (0, 0))) := Lib.hid ((Below.heap_alloc _ _ _ (by simp)).trans (heap_alloc_new w _))
  have HX2 : Hid (((w.alloc (.cells #[.int .u8 (op : Int), .int .u32 (xa : Int), .int .u32 (xb : Int), .int .i64 xc, .slice A1 n c1] 80)).alloc (.cells #[.int .u8 (op : Int), .int .u32 (xa : Int), .int .u32 (xb : Int), .int .i64 xc, .slice A2 n c2] 80)).heap[w.heap.size + 1]? = some (.cells #[.int .u8 (op : Int), .int .u32 (xa : Int), .int .u32 (xb : Int), .int .i64 xc, .slice A2 n c2] 80 (0, 0))) := Lib.hid (by have := heap_alloc_new (w.alloc (.cells #[.int .u8 (op : Int), .int .u32 (xa : Int), .int .u32 (xb : Int), .int .i64 xc, .slice A1 n c1] 80)) (.cells #[.int .u8 (op : Int), .int .u32 (xa : Int), .int .u32 (xb : Int), .int .i64 xc, .slice A2 n c2] 80); simpa using this)
  generalize (w.alloc (.cells #[.int .u8 (op : Int), .int .u32 (xa : Int), .int .u32 (xb : Int), .int .i64 xc, .slice A1 n c1] 80)).alloc (.cells #[.int .u8 (op : Int), .int .u32 (xa : Int), .int .u32 (xb : Int), .int .i64 xc, .slice A2 n c2] 80) = w0 at HB0 HX1 HX2 ⊢
  have H1' := Lib.hid (H1.out.mod (Mod.of_below (T := fun _ => False) HB0.out) (fun _ _ _ h => h))
  have H2' := Lib.hid (H2.out.mod (Mod.of_below (T := fun _ => False) HB0.out) (fun _ _ _ h => h))
  obtain ⟨y0, y1, y2, y3, y4⟩ := cells5 HX1.out
  obtain ⟨z0, z1, z2, z3, z4⟩ := cells5 HX2.out
  go_wp2_with fail
  go_loopw [5, 6] (fun b i wr => ∃ j : Nat, j ≤ n ∧ i = .int .i64 (j : Int) ∧ b = .bool true ∧ Hid (Mod (fun _ => False) w0 wr)) (fun _ i _ => n - (intOf i).toNat)
  case atStart => exact ⟨0, by omega, rfl, rfl, Lib.hid (Mod.refl _ _)⟩
  case round =>
    obtain ⟨j, hj, rfl, rfl, HM⟩ := hrel
    have b4 := HM.out.cell y4 (fun h => h)
    have d4 := HM.out.cell z4 (fun h => h)
    by_cases hjn : j < n
    · obtain ⟨u, hu⟩ : ∃ u, xl[j]? = some u := ⟨_, List.getElem?_eq_getElem (by have := HN.out; omega)⟩
      obtain ⟨g1, o1, rfl, _, k1⟩ := H1'.out j u hu
      obtain ⟨g2, o2, rfl, _, k2⟩ := H2'.out j u hu
      have k1' := HM.out.cell k1 (fun h => h)
      have k2' := HM.out.cell k2 (fun h => h)
      have hji : (j : Int) < (n : Int) := by omega
      have eu : ((u : Int) == (u : Int)) = true := by simp
      clear hu k1 k2 y0 y1 y2 y3 y4 z0 z1 z2 z3 z4
      go_wp2_with fail
      go_quiet (fail)
      go_wp2_with fail
      go_roundw
      case rel => exact ⟨j + 1, by omega, by go_num, rfl, Lib.hid (HM.out.drewN _)⟩
      case measure => simp [intOf]; omega
    · obtain rfl : j = n := by omega
      clear y0 y1 y2 y3 y4 z0 z1 z2 z3 z4
      go_wp2_with fail
      go_ret
      exact ⟨rfl, HB0.out.trans (HM.out.none.mono HB0.out.size)⟩
set_option maxRecDepth 100000 in
set_option maxHeartbeats 4000000 in
/-- SameAll, of two lists that are one. -/
theorem sameAll_any (S1 S2 : Nat → Prop) (xs : List I) (B1 B2 : Option Addr) (c1 c2 : Nat) (w : World) (h1 : HasI w S1 B1 xs) (h2 : HasI w S2 B2 xs) (hlen : xs.length ≤ 140737488355328) (hl : ∀ x ∈ xs, x.l.length ≤ 140737488355328) :
    Calls Tryd.prog 17 #[.slice B1 xs.length c1, .slice B2 xs.length c2] w fun e w' => e = .returned (.bool true) ∧ Below w.heap.size w w' := by
  obtain ⟨n, hn⟩ : ∃ n, xs.length = n := ⟨_, rfl⟩
  rw [hn] at hlen ⊢
  have HN := Lib.hid hn
  have HL := Lib.hid hl
  have H1 := Lib.hid h1
  have H2 := Lib.hid h2
  clear h1 h2 hn hl
  have e5 : ((n : Int) == (n : Int)) = true := by simp
  go_enter Tryd.func17, Tryd.ntmps17
  go_wp2_with fail
  go_loopw [5, 6] (fun b i wr => ∃ j : Nat, j ≤ n ∧ i = .int .i64 (j : Int) ∧ b = .bool true ∧ Hid (Below w.heap.size w wr)) (fun _ i _ => n - (intOf i).toNat)
  case atStart => exact ⟨0, by omega, rfl, rfl, Lib.hid (Below.refl _ _)⟩
  case round =>
    obtain ⟨j, hj, rfl, rfl, HB⟩ := hrel
    by_cases hjn : j < n
    · obtain ⟨x, hx⟩ : ∃ x, xs[j]? = some x := ⟨_, List.getElem?_eq_getElem (by have := HN.out; omega)⟩
      have hxl := HL.out x (List.mem_of_getElem? hx)
      obtain ⟨g1, o1, A1, d1, rfl, _, _, _, _, hU1, k1⟩ := H1.out j x hx
      obtain ⟨g2, o2, A2, d2, rfl, _, _, _, _, hU2, k2⟩ := H2.out j x hx
      have hji : (j : Int) < (n : Int) := by omega
      obtain ⟨op, xa, xb, xc, xl⟩ := x
      have HM := Mod.of_base HB.out
      have hlt : ∀ {a : Addr} {v : Value}, w.cell? a = some v → wr.cell? a = some v := fun h => (HB.out.cell (World.block_lt_of_cell? w _ h)).trans h
      have HC := Lib.hid (fun W (hb : Below wr.heap.size wr W) => same_any S1 S2 ⟨op, xa, xb, xc, xl⟩ A1 A2 d1 d2 W ((hU1.mod (Mod.of_below (T := fun _ => False) ((HB.out.trans (hb.mono HB.out.size)))) (fun _ _ _ h => h))) ((hU2.mod (Mod.of_below (T := fun _ => False) ((HB.out.trans (hb.mono HB.out.size)))) (fun _ _ _ h => h))) hxl)
      simp only [insVal, insCells] at HC
      have HQ := Lib.hid (fun W (hb : Below wr.heap.size wr W) => (⟨(hb.cell (World.block_lt_of_cell? wr _ (hlt (k1 0 _ rfl)))).trans (hlt (k1 0 _ rfl)), (hb.cell (World.block_lt_of_cell? wr _ (hlt (k1 1 _ rfl)))).trans (hlt (k1 1 _ rfl)), (hb.cell (World.block_lt_of_cell? wr _ (hlt (k1 2 _ rfl)))).trans (hlt (k1 2 _ rfl)), (hb.cell (World.block_lt_of_cell? wr _ (hlt (k1 3 _ rfl)))).trans (hlt (k1 3 _ rfl)), (hb.cell (World.block_lt_of_cell? wr _ (hlt (k1 4 _ rfl)))).trans (hlt (k1 4 _ rfl)), (hb.cell (World.block_lt_of_cell? wr _ (hlt (k2 0 _ rfl)))).trans (hlt (k2 0 _ rfl)), (hb.cell (World.block_lt_of_cell? wr _ (hlt (k2 1 _ rfl)))).trans (hlt (k2 1 _ rfl)), (hb.cell (World.block_lt_of_cell? wr _ (hlt (k2 2 _ rfl)))).trans (hlt (k2 2 _ rfl)), (hb.cell (World.block_lt_of_cell? wr _ (hlt (k2 3 _ rfl)))).trans (hlt (k2 3 _ rfl)), (hb.cell (World.block_lt_of_cell? wr _ (hlt (k2 4 _ rfl)))).trans (hlt (k2 4 _ rfl))⟩ :
        W.cell? ⟨g1, o1 + j * 5, none⟩ = some (.int .u8 (op : Int)) ∧ W.cell? ⟨g1, o1 + j * 5 + 1, none⟩ = some (.int .u32 (xa : Int)) ∧ W.cell? ⟨g1, o1 + j * 5 + 2, none⟩ = some (.int .u32 (xb : Int)) ∧ W.cell? ⟨g1, o1 + j * 5 + 3, none⟩ = some (.int .i64 xc) ∧ W.cell? ⟨g1, o1 + j * 5 + 4, none⟩ = some (.slice A1 xl.length d1) ∧
        W.cell? ⟨g2, o2 + j * 5, none⟩ = some (.int .u8 (op : Int)) ∧ W.cell? ⟨g2, o2 + j * 5 + 1, none⟩ = some (.int .u32 (xa : Int)) ∧ W.cell? ⟨g2, o2 + j * 5 + 2, none⟩ = some (.int .u32 (xb : Int)) ∧ W.cell? ⟨g2, o2 + j * 5 + 3, none⟩ = some (.int .i64 xc) ∧ W.cell? ⟨g2, o2 + j * 5 + 4, none⟩ = some (.slice A2 xl.length d2)))
      obtain ⟨p0, p1, p2, p3, p4, q0, q1, q2, q3, q4⟩ := HQ.out wr (Below.refl _ _)
      clear HM hx hU1 hU2 k1 k2 hlt hxl
      go_wp2_with fail
      go_region_held3 (fun w' => w'.cell? ⟨g1, o1 + j * 5, none⟩ = some (.int .u8 (op : Int)) ∧ w'.cell? ⟨g1, o1 + j * 5 + 1, none⟩ = some (.int .u32 (xa : Int)) ∧ w'.cell? ⟨g1, o1 + j * 5 + 2, none⟩ = some (.int .u32 (xb : Int)) ∧ w'.cell? ⟨g1, o1 + j * 5 + 3, none⟩ = some (.int .i64 xc) ∧ w'.cell? ⟨g1, o1 + j * 5 + 4, none⟩ = some (.slice A1 xl.length d1) ∧ w'.cell? ⟨g2, o2 + j * 5, none⟩ = some (.int .u8 (op : Int)) ∧ w'.cell? ⟨g2, o2 + j * 5 + 1, none⟩ = some (.int .u32 (xa : Int)) ∧ w'.cell? ⟨g2, o2 + j * 5 + 2, none⟩ = some (.int .u32 (xb : Int)) ∧ w'.cell? ⟨g2, o2 + j * 5 + 3, none⟩ = some (.int .i64 xc) ∧ w'.cell? ⟨g2, o2 + j * 5 + 4, none⟩ = some (.slice A2 xl.length d2)) (first | exact HQ.out _ (Below.drew (Below.refl _ _)) | exact HQ.out _ ((Below.drew (Below.refl _ _)).trans (by assumption)))
        (first | ((go_at_call 30; refine (HC.out _ (Below.drew (Below.refl _ _))).mono ?_; rintro e w1 ⟨rfl, hb1⟩)))
      have hb2 := HB.out.trans (((Below.drew (Below.refl _ wr)).trans hb1).mono HB.out.size)
      have HB2 := Lib.hid hb2
      clear hb1 hb2
      go_wp2_with fail
      go_roundw
      case rel => exact ⟨j + 1, by omega, by go_num, rfl, HB2⟩
      case measure => simp [intOf]; omega
    · obtain rfl : j = n := by omega
      go_wp2_with fail
      go_ret
      exact ⟨rfl, HB.out⟩
end Go.Proofs.YtaloenmpidbhlaaDoor
