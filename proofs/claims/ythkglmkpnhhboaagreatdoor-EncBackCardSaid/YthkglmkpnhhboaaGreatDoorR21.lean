/-
  The document's Great, Same and SameAll: they tell what the plain functions tell, and leave all that was there as it was.
-/
import Derived.Test.YthkglmkpnhhboaaGreatDoorR01
import Derived.Test.YthkglmkpnhhboaaGreatDoorR18
import Derived.Test.YthkglmkpnhhboaaGreatDoorR02
import Derived.Deep.Cut
import Derived.Deep.RegionHeld3
import Derived.Test.YthkglmkpnhhboaaGreatDoorR19
import Derived.Defers
import Derived.Recover
import Derived.Laws.Pointers
import Derived.RegionTactic
import Derived.BigRegion
set_option maxRecDepth 100000
set_option maxHeartbeats 4000000
namespace Ins
def many : List I → Nat
 | [] => 0
 | x :: xs => 1 + x.l.length + many xs
theorem eU : ∀ (a b : List I), many (a ++ b) = many a + many b
 | [], b => by simp [many]
 | x :: a, b => by simp only [List.cons_append, many, eU a b]; omega
theorem many_take {xs : List I} {j : Nat} {x : I} (h : xs[j]? = some x) : many (xs.take (j + 1)) = many (xs.take j) + (1 + x.l.length) := by
 rw [List.take_add_one, h, eU]; simp [many]
theorem tot_many : ∀ (xs : List I), tot xs ≤ 5 * many xs
 | [] => by simp [tot]
 | x :: xs => by have := tot_many xs; simp only [tot, many]; omega
theorem dw {xs : List I} {x : I} (h : x ∈ xs) : x.l.length < many xs := by
 induction xs with
 | nil => cases h
 | cons y ys ih =>
  simp only [many]
  rcases List.mem_cons.1 h with rfl | h
  ·omega
  ·have := ih h; omega
end Ins
namespace Go.Proofs.YthkglmkpnhhboaaGreatDoor
open Go.RowKit Ins
theorem same_any (S1 S2 : Nat → Prop) (x : I) (A1 A2 : Option Addr) (c1 c2 : Nat) (w : World) (h1 : HasU w S1 A1 x.l) (h2 : HasU w S2 A2 x.l) (hl : x.l.length ≤ 140737488355328) :
  Calls Tryz.prog 44 #[insVal x A1 c1, insVal x A2 c2] w fun e w' => e = .returned (.bool true) ∧ Below w.heap.size w w' := by
 obtain ⟨op, xa, xb, xc, xl⟩ := x
 simp only [insVal, insCells]
 simp only at h1 h2 hl
 obtain ⟨n, hn⟩ : ∃ n, xl.length = n := ⟨_, rfl⟩
 rw [hn] at hl ⊢
 have HN := Y hn
 have H1 := Y h1
 have H2 := Y h2
 clear h1 h2 hn
 have e1 : ((op : Int) == (op : Int)) = true := by simp
 have e2 : ((xa : Int) == (xa : Int)) = true := by simp
 have e3 : ((xb : Int) == (xb : Int)) = true := by simp
 have e4 : (xc == xc) = true := by simp
 have e5 : ((n : Int) == (n : Int)) = true := by simp
 go_enter Tryz.func44, Tryz.ntmps44
 go_upto_region 1 with (fail)
 have HB0 : Hid (Below w.heap.size w ((w.alloc (.cells #[.int .u8 (op : Int), .int .u32 (xa : Int), .int .u32 (xb : Int), .int .i64 xc, .slice A1 n c1] 95)).alloc (.cells #[.int .u8 (op : Int), .int .u32 (xa : Int), .int .u32 (xb : Int), .int .i64 xc, .slice A2 n c2] 95))) := Y (((Below.refl _ _).alloc (Nat.le_refl _) _).alloc (by simp) _)
 have HX1 : Hid (((w.alloc (.cells #[.int .u8 (op : Int), .int .u32 (xa : Int), .int .u32 (xb : Int), .int .i64 xc, .slice A1 n c1] 95)).alloc (.cells #[.int .u8 (op : Int), .int .u32 (xa : Int), .int .u32 (xb : Int), .int .i64 xc, .slice A2 n c2] 95)).heap[w.heap.size]? = some (.cells #[.int .u8 (op : Int), .int .u32 (xa : Int), .int .u32 (xb : Int), .int .i64 xc, .slice A1 n c1] 95 (0, 0))) := Y ((Below.heap_alloc _ _ _ (by simp)).trans (heap_alloc_new w _))
 have HX2 : Hid (((w.alloc (.cells #[.int .u8 (op : Int), .int .u32 (xa : Int), .int .u32 (xb : Int), .int .i64 xc, .slice A1 n c1] 95)).alloc (.cells #[.int .u8 (op : Int), .int .u32 (xa : Int), .int .u32 (xb : Int), .int .i64 xc, .slice A2 n c2] 95)).heap[w.heap.size + 1]? = some (.cells #[.int .u8 (op : Int), .int .u32 (xa : Int), .int .u32 (xb : Int), .int .i64 xc, .slice A2 n c2] 95 (0, 0))) := Y (by have := heap_alloc_new (w.alloc (.cells #[.int .u8 (op : Int), .int .u32 (xa : Int), .int .u32 (xb : Int), .int .i64 xc, .slice A1 n c1] 95)) (.cells #[.int .u8 (op : Int), .int .u32 (xa : Int), .int .u32 (xb : Int), .int .i64 xc, .slice A2 n c2] 95); simpa using this)
 generalize (w.alloc (.cells #[.int .u8 (op : Int), .int .u32 (xa : Int), .int .u32 (xb : Int), .int .i64 xc, .slice A1 n c1] 95)).alloc (.cells #[.int .u8 (op : Int), .int .u32 (xa : Int), .int .u32 (xb : Int), .int .i64 xc, .slice A2 n c2] 95) = w0 at HB0 HX1 HX2 ⊢
 have H1' := Y (H1.out.mod (Mod.of_below (T := fun _ => False) HB0.out) (fun _ _ _ h => h))
 have H2' := Y (H2.out.mod (Mod.of_below (T := fun _ => False) HB0.out) (fun _ _ _ h => h))
 obtain ⟨y0, y1, y2, y3, y4⟩ := cells5 HX1.out
 obtain ⟨z0, z1, z2, z3, z4⟩ := cells5 HX2.out
 go_wp2_with fail
 go_loopw [5, 6] (fun b i wr => ∃ j : Nat, j ≤ n ∧ i = .int .i64 (j : Int) ∧ b = .bool true ∧ Hid (Mod (fun _ => False) w0 wr)) (fun _ i _ => n - (intOf i).toNat)
 case atStart => exact ⟨0, by omega, rfl, rfl, Y (Mod.refl _ _)⟩
 case round =>
  obtain ⟨j, hj, rfl, rfl, HM⟩ := hrel
  have b4 := HM.out.cell y4 (fun h => h)
  have d4 := HM.out.cell z4 (fun h => h)
  by_cases hjn : j < n
  ·obtain ⟨u, hu⟩ : ∃ u, xl[j]? = some u := ⟨_, List.getElem?_eq_getElem (by have := HN.out; omega)⟩
   obtain ⟨g1, o1, rfl, _, k1⟩ := H1'.out j u hu
   obtain ⟨g2, o2, rfl, _, k2⟩ := H2'.out j u hu
   have k1' := HM.out.cell k1 (fun h => h)
   have k2' := HM.out.cell k2 (fun h => h)
   have hji : (j : Int) < (n : Int) := by omega
   have eu : ((u : Int) == (u : Int)) = true := by simp
   clear hu k1 k2 y0 y1 y2 y3 y4 z0 z1 z2 z3 z4
   go_wp2_with fail
   go_quiet (fail)
   go_wp2_with fail
   go_roundw
   case rel => exact ⟨j + 1, by omega, by go_num, rfl, Y (HM.out.drewN _)⟩
   case measure => simp [intOf]; omega
  ·obtain rfl : j = n := by omega
   clear y0 y1 y2 y3 y4 z0 z1 z2 z3 z4
   go_wp2_with fail
   go_ret
   exact ⟨rfl, HB0.out.trans (HM.out.none.mono HB0.out.size)⟩
theorem cB (S1 S2 : Nat → Prop) (xs : List I) (B1 B2 : Option Addr) (c1 c2 : Nat) (w : World) (h1 : HasI w S1 B1 xs) (h2 : HasI w S2 B2 xs) (hlen : xs.length ≤ 140737488355328) (hl : ∀ x ∈ xs, x.l.length ≤ 140737488355328) :
  Calls Tryz.prog 24 #[.slice B1 xs.length c1, .slice B2 xs.length c2] w fun e w' => e = .returned (.bool true) ∧ Below w.heap.size w w' := by
 obtain ⟨n, hn⟩ : ∃ n, xs.length = n := ⟨_, rfl⟩
 rw [hn] at hlen ⊢
 have HN := Y hn
 have HL := Y hl
 have H1 := Y h1
 have H2 := Y h2
 clear h1 h2 hn hl
 have e5 : ((n : Int) == (n : Int)) = true := by simp
 go_enter Tryz.func24, Tryz.ntmps24
 go_wp2_with fail
 go_loopw [5, 6] (fun b i wr => ∃ j : Nat, j ≤ n ∧ i = .int .i64 (j : Int) ∧ b = .bool true ∧ Hid (Below w.heap.size w wr)) (fun _ i _ => n - (intOf i).toNat)
 case atStart => exact ⟨0, by omega, rfl, rfl, Y (Below.refl _ _)⟩
 case round =>
  obtain ⟨j, hj, rfl, rfl, HB⟩ := hrel
  by_cases hjn : j < n
  ·obtain ⟨x, hx⟩ : ∃ x, xs[j]? = some x := ⟨_, List.getElem?_eq_getElem (by have := HN.out; omega)⟩
   have hxl := HL.out x (List.mem_of_getElem? hx)
   obtain ⟨g1, o1, A1, d1, rfl, _, _, _, _, hU1, k1⟩ := H1.out j x hx
   obtain ⟨g2, o2, A2, d2, rfl, _, _, _, _, hU2, k2⟩ := H2.out j x hx
   have hji : (j : Int) < (n : Int) := by omega
   obtain ⟨op, xa, xb, xc, xl⟩ := x
   have HM := Mod.of_base HB.out
   have hlt : ∀ {a : Addr} {v : Value}, w.cell? a = some v → wr.cell? a = some v := fun h => (HB.out.cell (World.block_lt_of_cell? w _ h)).trans h
   have HC := Y (fun W (hb : Below wr.heap.size wr W) => same_any S1 S2 ⟨op, xa, xb, xc, xl⟩ A1 A2 d1 d2 W ((hU1.mod (Mod.of_below (T := fun _ => False) ((HB.out.trans (hb.mono HB.out.size)))) (fun _ _ _ h => h))) ((hU2.mod (Mod.of_below (T := fun _ => False) ((HB.out.trans (hb.mono HB.out.size)))) (fun _ _ _ h => h))) hxl)
   simp only [insVal, insCells] at HC
   have HQ := Y (fun W (hb : Below wr.heap.size wr W) => (⟨(hb.cell (World.block_lt_of_cell? wr _ (hlt (k1 0 _ rfl)))).trans (hlt (k1 0 _ rfl)), (hb.cell (World.block_lt_of_cell? wr _ (hlt (k1 1 _ rfl)))).trans (hlt (k1 1 _ rfl)), (hb.cell (World.block_lt_of_cell? wr _ (hlt (k1 2 _ rfl)))).trans (hlt (k1 2 _ rfl)), (hb.cell (World.block_lt_of_cell? wr _ (hlt (k1 3 _ rfl)))).trans (hlt (k1 3 _ rfl)), (hb.cell (World.block_lt_of_cell? wr _ (hlt (k1 4 _ rfl)))).trans (hlt (k1 4 _ rfl)), (hb.cell (World.block_lt_of_cell? wr _ (hlt (k2 0 _ rfl)))).trans (hlt (k2 0 _ rfl)), (hb.cell (World.block_lt_of_cell? wr _ (hlt (k2 1 _ rfl)))).trans (hlt (k2 1 _ rfl)), (hb.cell (World.block_lt_of_cell? wr _ (hlt (k2 2 _ rfl)))).trans (hlt (k2 2 _ rfl)), (hb.cell (World.block_lt_of_cell? wr _ (hlt (k2 3 _ rfl)))).trans (hlt (k2 3 _ rfl)), (hb.cell (World.block_lt_of_cell? wr _ (hlt (k2 4 _ rfl)))).trans (hlt (k2 4 _ rfl))⟩ :
    W.cell? ⟨g1, o1 + j * 5, none⟩ = some (.int .u8 (op : Int)) ∧ W.cell? ⟨g1, o1 + j * 5 + 1, none⟩ = some (.int .u32 (xa : Int)) ∧ W.cell? ⟨g1, o1 + j * 5 + 2, none⟩ = some (.int .u32 (xb : Int)) ∧ W.cell? ⟨g1, o1 + j * 5 + 3, none⟩ = some (.int .i64 xc) ∧ W.cell? ⟨g1, o1 + j * 5 + 4, none⟩ = some (.slice A1 xl.length d1) ∧
    W.cell? ⟨g2, o2 + j * 5, none⟩ = some (.int .u8 (op : Int)) ∧ W.cell? ⟨g2, o2 + j * 5 + 1, none⟩ = some (.int .u32 (xa : Int)) ∧ W.cell? ⟨g2, o2 + j * 5 + 2, none⟩ = some (.int .u32 (xb : Int)) ∧ W.cell? ⟨g2, o2 + j * 5 + 3, none⟩ = some (.int .i64 xc) ∧ W.cell? ⟨g2, o2 + j * 5 + 4, none⟩ = some (.slice A2 xl.length d2)))
   obtain ⟨p0, p1, p2, p3, p4, q0, q1, q2, q3, q4⟩ := HQ.out wr (Below.refl _ _)
   clear HM hx hU1 hU2 k1 k2 hlt hxl
   go_wp2_with fail
   go_region_held3 (fun w' => w'.cell? ⟨g1, o1 + j * 5, none⟩ = some (.int .u8 (op : Int)) ∧ w'.cell? ⟨g1, o1 + j * 5 + 1, none⟩ = some (.int .u32 (xa : Int)) ∧ w'.cell? ⟨g1, o1 + j * 5 + 2, none⟩ = some (.int .u32 (xb : Int)) ∧ w'.cell? ⟨g1, o1 + j * 5 + 3, none⟩ = some (.int .i64 xc) ∧ w'.cell? ⟨g1, o1 + j * 5 + 4, none⟩ = some (.slice A1 xl.length d1) ∧ w'.cell? ⟨g2, o2 + j * 5, none⟩ = some (.int .u8 (op : Int)) ∧ w'.cell? ⟨g2, o2 + j * 5 + 1, none⟩ = some (.int .u32 (xa : Int)) ∧ w'.cell? ⟨g2, o2 + j * 5 + 2, none⟩ = some (.int .u32 (xb : Int)) ∧ w'.cell? ⟨g2, o2 + j * 5 + 3, none⟩ = some (.int .i64 xc) ∧ w'.cell? ⟨g2, o2 + j * 5 + 4, none⟩ = some (.slice A2 xl.length d2)) (first | exact HQ.out _ (Below.drew (Below.refl _ _)) | exact HQ.out _ ((Below.drew (Below.refl _ _)).trans (by assumption)))
    (first | ((go_at_call 44; refine (HC.out _ (Below.drew (Below.refl _ _))).mono ?_; rintro e w1 ⟨rfl, hb1⟩)))
   have hb2 := HB.out.trans (((Below.drew (Below.refl _ wr)).trans hb1).mono HB.out.size)
   have HB2 := Y hb2
   clear hb1 hb2
   go_wp2_with fail
   go_roundw
   case rel => exact ⟨j + 1, by omega, by go_num, rfl, HB2⟩
   case measure => simp [intOf]; omega
  ·obtain rfl : j = n := by omega
   go_wp2_with fail
   go_ret
   exact ⟨rfl, HB.out⟩
theorem assertE (v : Value) (w : World) : (Instr.typeAssert (Value.iface 37 v) 20 37 false).run Tryz.prog w = .ok v w := by kernel_rfl
theorem ei (p : Addr) (x : Int) (k : Int) (w : World) (hc : w.cell? p = some (.int .i64 x)) (hz : w.frozen? p = false) :
  CallsD Tryz.prog 154 #[.pointer (some p)] (.panicking [{ v := .iface 37 (.int .i64 k), recovered := false }]) w fun e u' w' =>
   e = .returned (.tuple #[]) ∧ u' = .panicking [{ v := .iface 37 (.int .i64 k), recovered := true }] ∧ w' = w.setCell p (.int .i64 k) := by
 refine callsD_of_wpS Tryz.func154 rfl fun c₀ cs hu => ?_
 apply wpS_seq
 apply wpS_region
 simp [wpOpsS, go_sem, recoverD, hu, Tryz.ntmps154, Exit.thenS]
 refine wpS_of_wp ?_
 have e : (#[Value.pointer (some p)] ++ ((Array.replicate 6 undef).setIfInBounds 1 (Value.iface 37 (Value.int IntKind.i64 k))).setIfInBounds 0 (Value.iface 37 (Value.int IntKind.i64 k))) = #[Value.pointer (some p), Value.iface 37 (Value.int IntKind.i64 k), Value.iface 37 (Value.int IntKind.i64 k), undef, undef, undef, undef] := rfl
 rw [e]
 have hta := assertE
 clear e
 go_wp2
 simp [bodyPostS, results, Tryz.results154]
theorem iW (p : Addr) (w : World) :
  CallsD Tryz.prog 154 #[.pointer (some p)] .returning w fun e u' w' => e = .returned (.tuple #[]) ∧ u' = .returning ∧ w' = w := by
 refine callsD_of_wpS Tryz.func154 rfl fun c₀ cs hu => ?_
 apply wpS_seq
 apply wpS_region
 simp [wpOpsS, go_sem, recoverD, hu, Tryz.ntmps154, Exit.thenS]
 refine wpS_of_wp ?_
 have e : (#[Value.pointer (some p)] ++ ((Array.replicate 6 undef).setIfInBounds 1 Value.nilIface).setIfInBounds 0 Value.nilIface) = #[Value.pointer (some p), Value.nilIface, Value.nilIface, undef, undef, undef, undef] := rfl
 rw [e]
 go_wp2
 cases c₀
 simp_all [bodyPostS, results, Tryz.results154]
def takeExpr (l : List UInt8) : Except Nat (List I × Nat) := rdExpr (l.length + 1) [] l
theorem makeF (fn : Fn) (first cap : Array Value) (w : World) : (Instr.makeFunc fn first cap).run Tryz.prog w = .ok (.func fn first cap) w := rfl
theorem read24_any (A : Option Addr) (l : List UInt8) (c : Nat) (w : World) (hA : Has w w.heap.size A l) (hlen : l.length ≤ 1000000000000) (hc : l.length ≤ c) (hcm : c ≤ maxLen) (hAc : A = none → c = 0) :
  Calls Tryz.prog 148 #[.slice A l.length c, .func (.func 149) #[] #[]] w fun e w' =>
   match takeExpr l with
   | .error k => e = .returned (.tuple #[.slice none 0 0, .int .i64 0, .int .i64 (k : Int)]) ∧ Below w.heap.size w w'
   | .ok (xs, m) => ∃ v, e = .returned (.tuple #[v, .int .i64 (m : Int), .int .i64 0]) ∧ InsL w.heap.size w' v xs ∧ Below w.heap.size w w' := by
 have hmf := makeF
 have hR : Rd ((w.alloc (.cells #[.int .i64 0] 37)).alloc (.cells #[.slice A l.length c, .int .i64 0] 233)) (w.heap.size + 1) A c l 0 := by
  refine ⟨?_, ((hA.alloc (Nat.le_refl _) _).alloc (by simp) _).more (by simp), Nat.zero_le _, hc, hcm, hAc⟩
  have := heap_alloc_new (w.alloc (.cells #[.int .i64 0] 37)) (.cells #[.slice A l.length c, .int .i64 0] 233)
  simpa using this
 have HE0 : Hid (((w.alloc (.cells #[.int .i64 0] 37)).alloc (.cells #[.slice A l.length c, .int .i64 0] 233)).heap[w.heap.size]? = some (.cells #[.int .i64 0] 37 (0, 0))) := Y ((Below.heap_alloc _ _ _ (by simp)).trans (heap_alloc_new w _))
 have HB0 : Hid (Below w.heap.size w ((w.alloc (.cells #[.int .i64 0] 37)).alloc (.cells #[.slice A l.length c, .int .i64 0] 233))) := Y (((Below.refl _ _).alloc (Nat.le_refl _) _).alloc (by simp) _)
 have HS0 : Hid (((w.alloc (.cells #[.int .i64 0] 37)).alloc (.cells #[.slice A l.length c, .int .i64 0] 233)).heap.size = w.heap.size + 2) := Y (by simp)
 have HC := Y (expr_any (w.heap.size + 1) A c l 0 (l.length + 1) _ hR hlen (by omega))
 clear hA hR hc hcm hAc
 rw [List.drop_zero] at HC
 unfold takeExpr
 cases hr : rdExpr (l.length + 1) [] l with
 | error k =>
  rw [hr] at HC
  clear hr
  go_enter_defers Tryz.func148, Tryz.ntmps148
  go_wp2_with (go_at_call 149; refine HC.out.mono ?_; rintro e w1 ⟨rfl, hm⟩)
  have h1 := hm.heap HE0.out (fun e => by omega)
  have hb1 : Below w.heap.size w w1 := HB0.out.trans (hm.below (by rw [HS0.out]; omega) (fun k hk e => by omega))
  have hc1 : w1.cell? ⟨w.heap.size, 0, none⟩ = some (.int .i64 0) := by rw [cell_of_row w1 _ 0 _ _ (0, 0) h1]; rfl
  have hz1 : w1.frozen? ⟨w.heap.size, 0, none⟩ = false := frozen_of_row w1 _ 0 _ _ h1
  refine leaves_cons (f := 154) (args := #[.pointer (some ⟨w.heap.size, 0, none⟩)]) (by simp) (by simp [go_sem]) ?_
  refine (ei ⟨w.heap.size, 0, none⟩ 0 k w1 hc1 hz1).mono ?_
  rintro e u' w'' ⟨rfl, rfl, rfl⟩
  have hb2 := hb1.setCell (p := ⟨w.heap.size, 0, none⟩) (Nat.le_refl _) (.int .i64 (k : Int))
  have hc2 : (w1.setCell ⟨w.heap.size, 0, none⟩ (.int .i64 (k : Int))).cell? ⟨w.heap.size, 0, none⟩ = some (.int .i64 (k : Int)) := World.cell?_setCell_same _ _ _ hc1
  generalize w1.setCell ⟨w.heap.size, 0, none⟩ (.int .i64 (k : Int)) = w2 at hb2 hc2 ⊢
  simp [Leaves, settle, results, Tryz.results148, go_sem, hc2]
  exact hb2
 | ok q =>
  obtain ⟨xs, m⟩ := q
  rw [hr] at HC
  clear hr
  go_enter_defers Tryz.func148, Tryz.ntmps148
  go_wp2_with (go_at_call 149; refine HC.out.mono ?_; rintro e w1 ⟨v, rfl, hx, hr, hm⟩)
  have h1 := hm.heap HE0.out (fun e => by omega)
  have hb1 : Below w.heap.size w w1 := HB0.out.trans (hm.below (by rw [HS0.out]; omega) (fun k hk e => by omega))
  have hc1 : w1.cell? ⟨w.heap.size, 0, none⟩ = some (.int .i64 0) := by rw [cell_of_row w1 _ 0 _ _ (0, 0) h1]; rfl
  have hz1 : w1.frozen? ⟨w.heap.size, 0, none⟩ = false := frozen_of_row w1 _ 0 _ _ h1
  have hr1 := hr.c1
  rw [Nat.zero_add] at hr1
  have hs1 := hm.size
  rw [HS0.out] at hs1
  rw [HS0.out] at hx
  have HX := Y hx
  have HB1 := Y hb1
  clear hx hb1 hr hm h1
  go_region
  all_goals
   go_wp2_with fail
   refine leaves_cons (f := 154) (args := #[.pointer (some ⟨w.heap.size, 0, none⟩)]) (by simp) (by simp [go_sem]) ?_
   refine (iW ⟨w.heap.size, 0, none⟩ _).mono ?_
   rintro e u' w'' ⟨rfl, rfl, rfl⟩
   have hb2 : Below w.heap.size w ((w1.setCell ⟨w.heap.size, 0, none⟩ (.int .i64 0)).drew) := (HB1.out.setCell (p := ⟨w.heap.size, 0, none⟩) (Nat.le_refl _) (.int .i64 0)).drew
   have hc2 : ((w1.setCell ⟨w.heap.size, 0, none⟩ (.int .i64 0)).drew).cell? ⟨w.heap.size, 0, none⟩ = some (.int .i64 0) := World.cell?_setCell_same _ _ _ hc1
   have hx2 : InsL w.heap.size ((w1.setCell ⟨w.heap.size, 0, none⟩ (.int .i64 0)).drew) v xs := by
    obtain ⟨A6, c6, e1, e2, e3, e4⟩ := HX.out
    exact ⟨A6, c6, e1, e2, e3, (e4.mod ((Mod.setCell (T := (· = w.heap.size)) (Mod.refl _ w1) (fun _ => rfl) (.int .i64 0) (p := ⟨w.heap.size, 0, none⟩)).drew) (fun g _ hg e => by omega)).more (fun g _ hg => by omega)⟩
   generalize (w1.setCell ⟨w.heap.size, 0, none⟩ (.int .i64 0)).drew = w2 at hb2 hc2 hx2 ⊢
   simp [Leaves, settle, results, Tryz.results148, go_sem, hc2]
   exact ⟨hx2, hb2⟩
def TEPost (l : List UInt8) (w : World) (e : Ending) (w' : World) : Prop :=
 match takeExpr l with
 | .error k => e = .returned (.tuple #[.slice none 0 0, .int .i64 0, .int .i64 (k : Int)]) ∧ Below w.heap.size w w'
 | .ok (xs, m) => ∃ v, e = .returned (.tuple #[v, .int .i64 (m : Int), .int .i64 0]) ∧ InsL w.heap.size w' v xs ∧ Below w.heap.size w w'
theorem iB (A : Option Addr) (l : List UInt8) (c : Nat) (w : World) (hA : Has w w.heap.size A l) (hlen : l.length ≤ 1000000000000) (hc : l.length ≤ c) (hcm : c ≤ maxLen) (hAc : A = none → c = 0) :
  Calls Tryz.prog 140 #[.slice A l.length c] w (TEPost l w) := by
 have HC := Y (read24_any A l c w hA hlen hc hcm hAc)
 clear hA hc hcm hAc
 unfold TEPost
 cases hr : takeExpr l with
 | error k =>
  simp only [hr] at HC
  clear hr
  go_enter Tryz.func140, Tryz.ntmps140
  go_wp2_with (go_at_call 148; refine HC.out.mono ?_; rintro e w1 ⟨rfl, hb⟩; have HB := Y hb; clear hb)
  go_ret3
  exact ⟨rfl, HB.out⟩
 | ok q =>
  obtain ⟨xs, m⟩ := q
  simp only [hr] at HC
  clear hr
  go_enter Tryz.func140, Tryz.ntmps140
  go_wp2_with (go_at_call 148; refine HC.out.mono ?_; rintro e w1 ⟨v, rfl, hx, hb⟩; have HB := Y hb; have HX := Y hx; clear hb hx)
  go_ret3
  exact ⟨_, rfl, HX.out, HB.out⟩
theorem loadE {w : World} {a : Addr} {k : Int} (h : w.cell? a = some (.int .i64 k)) : (loadVar 37 a).run Tryz.prog w = .ok (.int .i64 k) w := by
 have hu : Tryz.prog.underlying 37 = some (.int .i64) := by kernel_rfl
 simp [loadVar, isAgg, run_underlying hu, go_sem, h]
end Go.Proofs.YthkglmkpnhhboaaGreatDoor
