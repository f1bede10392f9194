/-
  Take: the instruction that bytes begin with.
-/
import Derived.Test.YtnechkmdmjhhbaaInsTake
namespace Go.Proofs.Ytnechkmdmjhhbaa
open Go.RowKit Ins
theorem results_cellIT {P : Program} {fn : Func} {p q r : Tmp} {ty : TypeId} (h : fn.results = #[.cell p ty, .tmp q, .tmp r]) (tmps : Array Value) (w : World) (g : Nat) (t : TypeId) (cs : Array Value) (fr : Nat × Nat) (d : TypeDesc)
    (hp : tmps.getD p undef = .pointer (some ⟨g, 0, none⟩)) (hg : w.heap[g]? = some (.cells cs t fr)) (hu : P.underlying ty = some d) (hd : aggI d = true) (hi : (P.info? ty).map (·.size) = some cs.size)
    (b y : Value) (hb : tmps.getD q undef = b) (hr : tmps.getD r undef = y) :
    (results fn tmps).run P w = .ok (.tuple #[.agg cs, b, y]) w := by
  have hp' : tmps[p]?.getD undef = .pointer (some ⟨g, 0, none⟩) := by simpa using hp
  have hb' : tmps[q]?.getD undef = b := by simpa using hb
  have hr' : tmps[r]?.getD undef = y := by simpa using hr
  simp [results, h, hp', hb', hr', asAddr, run_loadVar_row w g t ty cs fr d hg hu (by cases d <;> first | rfl | cases hd) hi]
set_option maxRecDepth 100000 in
set_option maxHeartbeats 1000000 in
theorem take_any (A : Option Addr) (l : List UInt8) (c : Nat) (w : World) (hA : Has w w.heap.size A l) (hc : l.length ≤ c) (hcm : c ≤ maxLen) (hAc : A = none → c = 0) :
    Calls Try.prog 16 #[.slice A l.length c] w (TPost l w) := by
  have HC := Lib.hid (read27_any A l c (w.alloc (.cells zeroI 26)) ((hA.alloc (Nat.le_refl _) _).more (by simp)) hc hcm hAc)
  have HB0 : Hid (Below w.heap.size w (w.alloc (.cells zeroI 26))) := Lib.hid ((Below.refl _ _).alloc (Nat.le_refl _) _)
  have HZ0 : Hid ((w.alloc (.cells zeroI 26)).heap[w.heap.size]? = some (.cells zeroI 26 (0, 0))) := Lib.hid (heap_alloc_new w _)
  have HS0 : Hid ((w.alloc (.cells zeroI 26)).heap.size = w.heap.size + 1) := Lib.hid (by simp)
  clear hA hc hcm hAc
  obtain ⟨D, hu, hd⟩ := undI
  have HU := Lib.hid hu
  have HD := Lib.hid hd
  clear hu hd
  unfold TPost at HC ⊢
  cases hr : rdInstr l with
  | error k =>
    simp only [hr] at HC
    clear hr
    go_enter Try.func16, Try.ntmps16
    go_wp2_with (first | (go_at_call 27; refine HC.out.mono ?_; rintro e w1 ⟨rfl, hb⟩; have HB := Lib.hid (HB0.out.trans (hb.mono (by rw [HS0.out]; omega))); have HZ := Lib.hid ((hb.block _ (by rw [HS0.out]; omega)).trans HZ0.out); have hs := hb.size; rw [HS0.out] at hs; clear hb) | (refine wpList_store_to rfl 26 (.tmp 2) (.tmp 7) rfl rfl w.heap.size zeroI rfl rfl 26 zeroI HZ.out sizeI rfl (insCells_all ⟨0, 0, 0, 0, []⟩ none 0) ?_))
    exact bodyPost_ret (v := .tuple #[.agg zeroI, .int .i64 0, .int .i64 (k : Int)]) (results_cellIT (p := 2) (q := 3) (r := 4) (ty := 26) (by kernel_rfl) _ _ w.heap.size 26 zeroI (0, 0) D rfl (setRow_heap _ _ zeroI _ _ _ HZ.out) HU.out HD.out sizeI _ _ rfl rfl) rfl ⟨rfl, HB.out.trans ((setRow_mod (T := (· = w.heap.size)) (Mod.refl _ _) (fun _ => rfl) zeroI).below (by omega) (fun k hk e => by omega))⟩
  | ok q =>
    obtain ⟨x, m⟩ := q
    simp only [hr] at HC
    clear hr
    go_enter Try.func16, Try.ntmps16
    go_wp2_with (first | (go_at_call 27; refine HC.out.mono ?_; rintro e w1 ⟨v, rfl, ⟨A4, c4, rfl, hwf, hlc, hcm, hU⟩, hb⟩; have HB := Lib.hid (HB0.out.trans (hb.mono (by rw [HS0.out]; omega))); have HZ := Lib.hid ((hb.block _ (by rw [HS0.out]; omega)).trans HZ0.out); have hs := hb.size; rw [HS0.out] at hs; have HHU := Lib.hid hU; clear hb hU) | (refine wpList_store_to rfl 26 (.tmp 2) (.tmp 7) rfl rfl w.heap.size (insCells x A4 c4).toArray rfl rfl 26 zeroI HZ.out sizeI rfl (insCells_all _ _ _) ?_))
    exact bodyPost_ret (v := .tuple #[insVal x A4 c4, .int .i64 (m : Int), .int .i64 0]) (results_cellIT (p := 2) (q := 3) (r := 4) (ty := 26) (by kernel_rfl) _ _ w.heap.size 26 (insCells x A4 c4).toArray (0, 0) D rfl (setRow_heap _ _ zeroI _ _ _ HZ.out) HU.out HD.out sizeI _ _ rfl rfl) rfl ⟨_, rfl, ⟨A4, c4, rfl, hwf, hlc, hcm, (HHU.out.mod (setRow_mod (T := (· = w.heap.size)) (Mod.refl _ _) (fun _ => rfl) (insCells x A4 c4).toArray) (fun g _ hg e => by rw [HS0.out] at hg; omega)).more (fun g _ hg => by rw [HS0.out] at hg; omega)⟩, HB.out.trans ((setRow_mod (T := (· = w.heap.size)) (Mod.refl _ _) (fun _ => rfl) _).below (by omega) (fun k hk e => by omega))⟩
end Go.Proofs.Ytnechkmdmjhhbaa
