/-
  read: a reader is laid, asked, and whatever it ends by is taken up: its two instances; Take and TakeExpr.
-/
import Derived.Test.YtgnbkfkiigcdgaaGreatDoorQ01
import Derived.Test.YtgnbkfkiigcdgaaGreatDoorQ18
import Derived.Defers
import Derived.Recover
import Derived.Laws.Pointers
import Derived.RegionTactic
import Derived.BigRegion
import Derived.Deep.Cut
set_option maxRecDepth 100000
set_option maxHeartbeats 4000000
namespace Go.Proofs.YtgnbkfkiigcdgaaGreatDoor
open Go.RowKit Ins
theorem assertE (v : Value) (w : World) : (Instr.typeAssert (Value.iface 37 v) 20 37 false).run Tryz.prog w = .ok v w := by kernel_rfl
theorem dL (p : Addr) (x : Int) (k : Int) (w : World) (hc : w.cell? p = some (.int .i64 x)) (hz : w.frozen? p = false) :
  CallsD Tryz.prog 154 #[.pointer (some p)] (.panicking [{ v := .iface 37 (.int .i64 k), recovered := false }]) w fun e u' w' =>
   e = .returned (.tuple #[]) ∧ u' = .panicking [{ v := .iface 37 (.int .i64 k), recovered := true }] ∧ w' = w.setCell p (.int .i64 k) := by
 refine callsD_of_wpS Tryz.func154 rfl fun c₀ cs hu => ?_
 apply wpS_seq
 apply wpS_region
 simp [wpOpsS, go_sem, recoverD, hu, Tryz.ntmps154, Exit.thenS]
 refine wpS_of_wp ?_
 have e : (#[Value.pointer (some p)] ++ ((Array.replicate 6 undef).setIfInBounds 1 (Value.iface 37 (Value.int IntKind.i64 k))).setIfInBounds 0 (Value.iface 37 (Value.int IntKind.i64 k))) = #[Value.pointer (some p), Value.iface 37 (Value.int IntKind.i64 k), Value.iface 37 (Value.int IntKind.i64 k), undef, undef, undef, undef] := rfl
 rw [e]
 have hta := assertE
 clear e
 go_wp2
 simp [bodyPostS, results, Tryz.results154]
theorem ic (p : Addr) (w : World) :
  CallsD Tryz.prog 154 #[.pointer (some p)] .returning w fun e u' w' => e = .returned (.tuple #[]) ∧ u' = .returning ∧ w' = w := by
 refine callsD_of_wpS Tryz.func154 rfl fun c₀ cs hu => ?_
 apply wpS_seq
 apply wpS_region
 simp [wpOpsS, go_sem, recoverD, hu, Tryz.ntmps154, Exit.thenS]
 refine wpS_of_wp ?_
 have e : (#[Value.pointer (some p)] ++ ((Array.replicate 6 undef).setIfInBounds 1 Value.nilIface).setIfInBounds 0 Value.nilIface) = #[Value.pointer (some p), Value.nilIface, Value.nilIface, undef, undef, undef, undef] := rfl
 rw [e]
 go_wp2
 cases c₀
 simp_all [bodyPostS, results, Tryz.results154]
def takeExpr (l : List UInt8) : Except Nat (List I × Nat) := rdExpr (l.length + 1) [] l
theorem makeF (fn : Fn) (first cap : Array Value) (w : World) : (Instr.makeFunc fn first cap).run Tryz.prog w = .ok (.func fn first cap) w := rfl
theorem read24_any (A : Option Addr) (l : List UInt8) (c : Nat) (w : World) (hA : Has w w.heap.size A l) (hlen : l.length ≤ 1000000000000) (hc : l.length ≤ c) (hcm : c ≤ maxLen) (hAc : A = none → c = 0) :
  Calls Tryz.prog 148 #[.slice A l.length c, .func (.func 149) #[] #[]] w fun e w' =>
   match takeExpr l with
   | .error k => e = .returned (.tuple #[.slice none 0 0, .int .i64 0, .int .i64 (k : Int)]) ∧ Below w.heap.size w w'
   | .ok (xs, m) => ∃ v, e = .returned (.tuple #[v, .int .i64 (m : Int), .int .i64 0]) ∧ InsL w.heap.size w' v xs ∧ Below w.heap.size w w' := by
 have hmf := makeF
 have hR : Rd ((w.alloc (.cells #[.int .i64 0] 37)).alloc (.cells #[.slice A l.length c, .int .i64 0] 233)) (w.heap.size + 1) A c l 0 := by
  refine ⟨?_, ((hA.alloc (Nat.le_refl _) _).alloc (by simp) _).more (by simp), Nat.zero_le _, hc, hcm, hAc⟩
  have := heap_alloc_new (w.alloc (.cells #[.int .i64 0] 37)) (.cells #[.slice A l.length c, .int .i64 0] 233)
  simpa using this
 have HE0 : Hid (((w.alloc (.cells #[.int .i64 0] 37)).alloc (.cells #[.slice A l.length c, .int .i64 0] 233)).heap[w.heap.size]? = some (.cells #[.int .i64 0] 37 (0, 0))) := Y ((Below.heap_alloc _ _ _ (by simp)).trans (heap_alloc_new w _))
 have HB0 : Hid (Below w.heap.size w ((w.alloc (.cells #[.int .i64 0] 37)).alloc (.cells #[.slice A l.length c, .int .i64 0] 233))) := Y (((Below.refl _ _).alloc (Nat.le_refl _) _).alloc (by simp) _)
 have HS0 : Hid (((w.alloc (.cells #[.int .i64 0] 37)).alloc (.cells #[.slice A l.length c, .int .i64 0] 233)).heap.size = w.heap.size + 2) := Y (by simp)
 have HC := Y (expr_any (w.heap.size + 1) A c l 0 (l.length + 1) _ hR hlen (by omega))
 clear hA hR hc hcm hAc
 rw [List.drop_zero] at HC
 unfold takeExpr
 cases hr : rdExpr (l.length + 1) [] l with
 | error k =>
  rw [hr] at HC
  clear hr
  go_enter_defers Tryz.func148, Tryz.ntmps148
  go_wp2_with (go_at_call 149; refine HC.out.mono ?_; rintro e w1 ⟨rfl, hm⟩)
  have h1 := hm.heap HE0.out (fun e => by omega)
  have hb1 : Below w.heap.size w w1 := HB0.out.trans (hm.below (by rw [HS0.out]; omega) (fun k hk e => by omega))
  have hc1 : w1.cell? ⟨w.heap.size, 0, none⟩ = some (.int .i64 0) := by rw [cell_of_row w1 _ 0 _ _ (0, 0) h1]; rfl
  have hz1 : w1.frozen? ⟨w.heap.size, 0, none⟩ = false := frozen_of_row w1 _ 0 _ _ h1
  refine leaves_cons (f := 154) (args := #[.pointer (some ⟨w.heap.size, 0, none⟩)]) (by simp) (by simp [go_sem]) ?_
  refine (dL ⟨w.heap.size, 0, none⟩ 0 k w1 hc1 hz1).mono ?_
  rintro e u' w'' ⟨rfl, rfl, rfl⟩
  have hb2 := hb1.setCell (p := ⟨w.heap.size, 0, none⟩) (Nat.le_refl _) (.int .i64 (k : Int))
  have hc2 : (w1.setCell ⟨w.heap.size, 0, none⟩ (.int .i64 (k : Int))).cell? ⟨w.heap.size, 0, none⟩ = some (.int .i64 (k : Int)) := World.cell?_setCell_same _ _ _ hc1
  generalize w1.setCell ⟨w.heap.size, 0, none⟩ (.int .i64 (k : Int)) = w2 at hb2 hc2 ⊢
  simp [Leaves, settle, results, Tryz.results148, go_sem, hc2]
  exact hb2
 | ok q =>
  obtain ⟨xs, m⟩ := q
  rw [hr] at HC
  clear hr
  go_enter_defers Tryz.func148, Tryz.ntmps148
  go_wp2_with (go_at_call 149; refine HC.out.mono ?_; rintro e w1 ⟨v, rfl, hx, hr, hm⟩)
  have h1 := hm.heap HE0.out (fun e => by omega)
  have hb1 : Below w.heap.size w w1 := HB0.out.trans (hm.below (by rw [HS0.out]; omega) (fun k hk e => by omega))
  have hc1 : w1.cell? ⟨w.heap.size, 0, none⟩ = some (.int .i64 0) := by rw [cell_of_row w1 _ 0 _ _ (0, 0) h1]; rfl
  have hz1 : w1.frozen? ⟨w.heap.size, 0, none⟩ = false := frozen_of_row w1 _ 0 _ _ h1
  have hr1 := hr.c1
  rw [Nat.zero_add] at hr1
  have hs1 := hm.size
  rw [HS0.out] at hs1
  rw [HS0.out] at hx
  have HX := Y hx
  have HB1 := Y hb1
  clear hx hb1 hr hm h1
  go_region
  all_goals
   go_wp2_with fail
   refine leaves_cons (f := 154) (args := #[.pointer (some ⟨w.heap.size, 0, none⟩)]) (by simp) (by simp [go_sem]) ?_
   refine (ic ⟨w.heap.size, 0, none⟩ _).mono ?_
   rintro e u' w'' ⟨rfl, rfl, rfl⟩
   have hb2 : Below w.heap.size w ((w1.setCell ⟨w.heap.size, 0, none⟩ (.int .i64 0)).drew) := (HB1.out.setCell (p := ⟨w.heap.size, 0, none⟩) (Nat.le_refl _) (.int .i64 0)).drew
   have hc2 : ((w1.setCell ⟨w.heap.size, 0, none⟩ (.int .i64 0)).drew).cell? ⟨w.heap.size, 0, none⟩ = some (.int .i64 0) := World.cell?_setCell_same _ _ _ hc1
   have hx2 : InsL w.heap.size ((w1.setCell ⟨w.heap.size, 0, none⟩ (.int .i64 0)).drew) v xs := by
    obtain ⟨A6, c6, e1, e2, e3, e4⟩ := HX.out
    exact ⟨A6, c6, e1, e2, e3, (e4.mod ((Mod.setCell (T := (· = w.heap.size)) (Mod.refl _ w1) (fun _ => rfl) (.int .i64 0) (p := ⟨w.heap.size, 0, none⟩)).drew) (fun g _ hg e => by omega)).more (fun g _ hg => by omega)⟩
   generalize (w1.setCell ⟨w.heap.size, 0, none⟩ (.int .i64 0)).drew = w2 at hb2 hc2 hx2 ⊢
   simp [Leaves, settle, results, Tryz.results148, go_sem, hc2]
   exact ⟨hx2, hb2⟩
def TEPost (l : List UInt8) (w : World) (e : Ending) (w' : World) : Prop :=
 match takeExpr l with
 | .error k => e = .returned (.tuple #[.slice none 0 0, .int .i64 0, .int .i64 (k : Int)]) ∧ Below w.heap.size w w'
 | .ok (xs, m) => ∃ v, e = .returned (.tuple #[v, .int .i64 (m : Int), .int .i64 0]) ∧ InsL w.heap.size w' v xs ∧ Below w.heap.size w w'
theorem gD (A : Option Addr) (l : List UInt8) (c : Nat) (w : World) (hA : Has w w.heap.size A l) (hlen : l.length ≤ 1000000000000) (hc : l.length ≤ c) (hcm : c ≤ maxLen) (hAc : A = none → c = 0) :
  Calls Tryz.prog 140 #[.slice A l.length c] w (TEPost l w) := by
 have HC := Y (read24_any A l c w hA hlen hc hcm hAc)
 clear hA hc hcm hAc
 unfold TEPost
 cases hr : takeExpr l with
 | error k =>
  simp only [hr] at HC
  clear hr
  go_enter Tryz.func140, Tryz.ntmps140
  go_wp2_with (go_at_call 148; refine HC.out.mono ?_; rintro e w1 ⟨rfl, hb⟩; have HB := Y hb; clear hb)
  go_ret3
  exact ⟨rfl, HB.out⟩
 | ok q =>
  obtain ⟨xs, m⟩ := q
  simp only [hr] at HC
  clear hr
  go_enter Tryz.func140, Tryz.ntmps140
  go_wp2_with (go_at_call 148; refine HC.out.mono ?_; rintro e w1 ⟨v, rfl, hx, hb⟩; have HB := Y hb; have HX := Y hx; clear hb hx)
  go_ret3
  exact ⟨_, rfl, HX.out, HB.out⟩
theorem loadE {w : World} {a : Addr} {k : Int} (h : w.cell? a = some (.int .i64 k)) : (loadVar 37 a).run Tryz.prog w = .ok (.int .i64 k) w := by
 have hu : Tryz.prog.underlying 37 = some (.int .i64) := by kernel_rfl
 simp [loadVar, isAgg, run_underlying hu, go_sem, h]
end Go.Proofs.YtgnbkfkiigcdgaaGreatDoor
