/-
  TakeExpr, Take: what bytes begin with.
-/
import Derived.Test.YtnechkmdmjhhbaaInsRead
import Derived.Deep.Cut
namespace Go.Proofs.Ytnechkmdmjhhbaa
open Go.RowKit Ins
/-- What a call of TakeExpr comes to. -/
def TEPost (l : List UInt8) (w : World) (e : Ending) (w' : World) : Prop :=
  match takeExpr l with
  | .error k => e = .returned (.tuple #[.slice none 0 0, .int .i64 0, .int .i64 (k : Int)]) ∧ Below w.heap.size w w'
  | .ok (xs, m) => ∃ v, e = .returned (.tuple #[v, .int .i64 (m : Int), .int .i64 0]) ∧ InsL w.heap.size w' v xs ∧ Below w.heap.size w w'
set_option maxRecDepth 100000 in
set_option maxHeartbeats 1000000 in
theorem takeExpr_any (A : Option Addr) (l : List UInt8) (c : Nat) (w : World) (hA : Has w w.heap.size A l) (hlen : l.length ≤ 1000000000000) (hc : l.length ≤ c) (hcm : c ≤ maxLen) (hAc : A = none → c = 0) :
    Calls Try.prog 13 #[.slice A l.length c] w (TEPost l w) := by
  have HC := Lib.hid (read24_any A l c w hA hlen hc hcm hAc)
  clear hA hc hcm hAc
  unfold TEPost
  cases hr : takeExpr l with
  | error k =>
    simp only [hr] at HC
    clear hr
    go_enter Try.func13, Try.ntmps13
    go_wp2_with (go_at_call 24; refine HC.out.mono ?_; rintro e w1 ⟨rfl, hb⟩; have HB := Lib.hid hb; clear hb)
    go_ret3
    exact ⟨rfl, HB.out⟩
  | ok q =>
    obtain ⟨xs, m⟩ := q
    simp only [hr] at HC
    clear hr
    go_enter Try.func13, Try.ntmps13
    go_wp2_with (go_at_call 24; refine HC.out.mono ?_; rintro e w1 ⟨v, rfl, hx, hb⟩; have HB := Lib.hid hb; have HX := Lib.hid hx; clear hb hx)
    go_ret3
    exact ⟨_, rfl, HX.out, HB.out⟩
/-- What a call of Take comes to. -/
def TPost (l : List UInt8) (w : World) (e : Ending) (w' : World) : Prop :=
  match rdInstr l with
  | .error k => e = .returned (.tuple #[.agg zeroI, .int .i64 0, .int .i64 (k : Int)]) ∧ Below w.heap.size w w'
  | .ok (x, m) => ∃ v, e = .returned (.tuple #[v, .int .i64 (m : Int), .int .i64 0]) ∧ InsV w' (w.heap.size ≤ ·) v x ∧ Below w.heap.size w w'
theorem results_cellIE {P : Program} {fn : Func} {p q r : Tmp} {ty te : TypeId} (h : fn.results = #[.cell p ty, .tmp q, .cell r te]) (tmps : Array Value) (w : World) (g : Nat) (t : TypeId) (cs : Array Value) (fr : Nat × Nat) (d : TypeDesc)
    (hp : tmps.getD p undef = .pointer (some ⟨g, 0, none⟩)) (hg : w.heap[g]? = some (.cells cs t fr)) (hu : P.underlying ty = some d) (hd : aggI d = true) (hi : (P.info? ty).map (·.size) = some cs.size)
    (b y : Value) (hb : tmps.getD q undef = b) (a : Addr) (hr : tmps.getD r undef = .pointer (some a)) (hl : (loadVar te a).run P w = .ok y w) :
    (results fn tmps).run P w = .ok (.tuple #[.agg cs, b, y]) w := by
  have hp' : tmps[p]?.getD undef = .pointer (some ⟨g, 0, none⟩) := by simpa using hp
  have hb' : tmps[q]?.getD undef = b := by simpa using hb
  have hr' : tmps[r]?.getD undef = .pointer (some a) := by simpa using hr
  simp [results, h, hp', hb', hr', asAddr, run_loadVar_row w g t ty cs fr d hg hu (by cases d <;> first | rfl | cases hd) hi, hl]
theorem loadE {w : World} {a : Addr} {k : Int} (h : w.cell? a = some (.int .i64 k)) : (loadVar 30 a).run Try.prog w = .ok (.int .i64 k) w := by
  have hu : Try.prog.underlying 30 = some (.int .i64) := by kernel_rfl
  simp [loadVar, isAgg, run_underlying hu, go_sem, h]
theorem set_same {w : World} {g j : Nat} {cs : Array Value} {t : TypeId} {u : Value} (h : w.heap[g]? = some (.cells cs t (0, 0))) (hu : cs[j]? = some u) : (w.setCell ⟨g, j, none⟩ u).heap[g]? = some (.cells cs t (0, 0)) := by
  rw [heap_setCell_same w g j _ _ _ h]
  congr 2
  obtain ⟨hj, rfl⟩ := Array.getElem?_eq_some_iff.1 hu
  apply Array.ext_getElem?
  intro i
  rw [Array.getElem?_setIfInBounds]
  split
  · next h => subst h; exact hu.symm
  · rfl
def WW (w : World) (A : Option Addr) (n c : Nat) : World := ((w.alloc (.cells zeroI 26)).alloc (.cells #[.int .i64 0] 30)).alloc (.cells #[.slice A n c, .int .i64 0] 82)
set_option maxRecDepth 100000 in
set_option maxHeartbeats 2000000 in
theorem read27_any (A : Option Addr) (l : List UInt8) (c : Nat) (w : World) (hA : Has w w.heap.size A l) (hc : l.length ≤ c) (hcm : c ≤ maxLen) (hAc : A = none → c = 0) :
    Calls Try.prog 27 #[.slice A l.length c, .func (.func 28) #[] #[]] w (TPost l w) := by
  have hmf := makeF
  obtain ⟨D, hu, hd⟩ := undI
  have HU := Lib.hid hu
  have HD := Lib.hid hd
  clear hu hd
  have hR : Rd (WW w A l.length c) (w.heap.size + 2) A c l 0 := by
    refine ⟨?_, (((hA.alloc (Nat.le_refl _) _).alloc (by simp) _).alloc (by simp; omega) _).more (by simp), Nat.zero_le _, hc, hcm, hAc⟩
    have := heap_alloc_new ((w.alloc (.cells zeroI 26)).alloc (.cells #[.int .i64 0] 30)) (.cells #[.slice A l.length c, .int .i64 0] 82)
    simpa [WW] using this
  have HE0 : Hid ((WW w A l.length c).heap[w.heap.size + 1]? = some (.cells #[.int .i64 0] 30 (0, 0))) := Lib.hid ((Below.heap_alloc _ _ _ (by simp)).trans (by have := heap_alloc_new (w.alloc (.cells zeroI 26)) (.cells #[.int .i64 0] 30); simpa using this))
  have HZ0 : Hid ((WW w A l.length c).heap[w.heap.size]? = some (.cells zeroI 26 (0, 0))) := Lib.hid ((Below.heap_alloc _ _ _ (by simp; omega)).trans ((Below.heap_alloc _ _ _ (by simp)).trans (heap_alloc_new w _)))
  have HB0 : Hid (Below w.heap.size w (WW w A l.length c)) := Lib.hid ((((Below.refl _ _).alloc (Nat.le_refl _) _).alloc (by simp) _).alloc (by simp; omega) _)
  have HS0 : Hid ((WW w A l.length c).heap.size = w.heap.size + 3) := Lib.hid (by simp [WW])
  have HC := Lib.hid (instr_any (w.heap.size + 2) A c l 0 _ hR)
  clear hA hR hc hcm hAc
  rw [List.drop_zero] at HC
  unfold TPost
  cases hr : rdInstr l with
  | error k =>
    rw [hr] at HC
    clear hr
    go_enter_defers Try.func27, Try.ntmps27
    go_wp2_with (go_at_call 28; refine HC.out.mono ?_; rintro e w1 ⟨rfl, hm⟩)
    have h1 := hm.heap HE0.out (fun e => by omega)
    have h2 := hm.heap HZ0.out (fun e => by omega)
    have hb1 : Below w.heap.size w w1 := HB0.out.trans (hm.below (by rw [HS0.out]; omega) (fun k hk e => by omega))
    have hc1 : w1.cell? ⟨w.heap.size + 1, 0, none⟩ = some (.int .i64 0) := by rw [cell_of_row w1 _ 0 _ _ (0, 0) h1]; rfl
    have hz1 : w1.frozen? ⟨w.heap.size + 1, 0, none⟩ = false := frozen_of_row w1 _ 0 _ _ h1
    refine leaves_cons (f := 42) (args := #[.pointer (some ⟨w.heap.size + 1, 0, none⟩)]) (by simp) (by simp [go_sem]) ?_
    refine (catch27_panicking ⟨w.heap.size + 1, 0, none⟩ 0 k w1 hc1 hz1).mono ?_
    rintro e u' w'' ⟨rfl, rfl, rfl⟩
    have hb2 := hb1.setCell (p := ⟨w.heap.size + 1, 0, none⟩) (by simp) (.int .i64 (k : Int))
    have hc2 : (w1.setCell ⟨w.heap.size + 1, 0, none⟩ (.int .i64 (k : Int))).cell? ⟨w.heap.size + 1, 0, none⟩ = some (.int .i64 (k : Int)) := World.cell?_setCell_same _ _ _ hc1
    have hz2 := (heap_setCell_other w1 ⟨w.heap.size + 1, 0, none⟩ w.heap.size (.int .i64 (k : Int)) (by simp)).trans h2
    generalize w1.setCell ⟨w.heap.size + 1, 0, none⟩ (.int .i64 (k : Int)) = w2 at hb2 hc2 hz2 ⊢
    exact ⟨_, results_cellIE (p := 4) (q := 5) (r := 6) (ty := 26) (te := 30) (by kernel_rfl) _ _ w.heap.size 26 zeroI (0, 0) D rfl hz2 HU.out HD.out sizeI (.int .i64 0) _ rfl ⟨w.heap.size + 1, 0, none⟩ rfl (loadE hc2), rfl, hb2⟩
  | ok q =>
    obtain ⟨x, m⟩ := q
    rw [hr] at HC
    clear hr
    go_enter_defers Try.func27, Try.ntmps27
    obtain ⟨op, xa, xb, xc, xl⟩ := x
    go_upto_region 4 with (first | (go_at_call 28; refine HC.out.mono ?_; rintro e w1 ⟨v, rfl, ⟨A4, c4, rfl, hwf, hlc, hcm, hU⟩, hr, hm⟩; have h1 := hm.heap HE0.out (fun e => by omega); have hZ1 := Lib.hid (hm.heap HZ0.out (fun e => by omega)); have H1 := Lib.hid h1; have HHU := Lib.hid hU; have HR1 := Lib.hid hr; have HM1 := Lib.hid hm; clear hU hr hm h1) | (refine wpList_store_to rfl 26 (.tmp 4) (.tmp 14) rfl rfl w.heap.size (insCells ⟨op, xa, xb, xc, xl⟩ A4 c4).toArray rfl rfl 26 zeroI hZ1.out sizeI rfl (insCells_all _ _ _) ?_))
    have HH : Hid ((w1.setRow w.heap.size (insCells ⟨op, xa, xb, xc, xl⟩ A4 c4).toArray).heap[w.heap.size]? = some (.cells (insCells ⟨op, xa, xb, xc, xl⟩ A4 c4).toArray 26 (0, 0))) := Lib.hid (setRow_heap _ _ zeroI _ _ _ hZ1.out)
    have M1 := setRow_mod (T := (· = w.heap.size)) (Mod.refl _ w1) (fun _ => rfl) (insCells ⟨op, xa, xb, xc, xl⟩ A4 c4).toArray
    have h1 := M1.heap H1.out (fun e => by simp at e)
    have hr0 := M1.heap HR1.out.1 (fun e => by simp at e)
    have hr1 : (w1.setRow w.heap.size (insCells ⟨op, xa, xb, xc, xl⟩ A4 c4).toArray).cell? ⟨w.heap.size + 2, 1, none⟩ = some (.int .i64 (m : Int)) := by
      rw [Nat.zero_add] at hr0
      rw [cell_of_row _ _ 1 _ _ (0, 0) hr0]; rfl
    have hU1 := HHU.out.mod M1 (fun g _ hg e => by rw [HS0.out] at hg; omega)
    have hb1 : Below w.heap.size w (w1.setRow w.heap.size (insCells ⟨op, xa, xb, xc, xl⟩ A4 c4).toArray) := (HB0.out.trans (HM1.out.below (by rw [HS0.out]; omega) (fun k hk e => by omega))).trans (M1.below (by have := HM1.out.size; rw [HS0.out] at this; omega) (fun k hk e => by omega))
    clear hr0 M1 H1 HR1 HM1 HHU hZ1
    have H1 := Lib.hid h1
    have HU1 := Lib.hid hU1
    have HB1 := Lib.hid hb1
    clear h1 hU1 hb1
    generalize w1.setRow w.heap.size (insCells ⟨op, xa, xb, xc, xl⟩ A4 c4).toArray = w2 at HH H1 HU1 HB1 hr1 ⊢
    obtain ⟨z0, z1, z2, z3, z4⟩ := cells5 (show w2.heap[w.heap.size]? = some (.cells #[.int .u8 (op : Int), .int .u32 (xa : Int), .int .u32 (xb : Int), .int .i64 xc, .slice A4 xl.length c4] 26 (0, 0)) from HH.out)
    have f0 := frozen5 HH.out 0
    have f1 := frozen5 HH.out 1
    have f2 := frozen5 HH.out 2
    have f3 := frozen5 HH.out 3
    have f4 := frozen5 HH.out 4
    have e0 : w2.cell? ⟨w.heap.size + 1, 0, none⟩ = some (.int .i64 0) := by rw [cell_of_row w2 _ 0 _ _ (0, 0) H1.out]; rfl
    have ef := frozen_of_row w2 (w.heap.size + 1) 0 _ _ H1.out
    go_region
    all_goals
      go_wp2_with fail
      refine leaves_cons (f := 42) (args := #[.pointer (some ⟨w.heap.size + 1, 0, none⟩)]) (by simp) (by simp [go_sem]) ?_
      refine (catch27_idle ⟨w.heap.size + 1, 0, none⟩ _).mono ?_
      rintro e u' w'' ⟨rfl, rfl, rfl⟩
      have q0 := set_same (j := 0) (u := .int .u8 (op : Int)) HH.out rfl
      have q1 := set_same (j := 1) (u := .int .u32 (xa : Int)) q0 rfl
      have q2 := set_same (j := 2) (u := .int .u32 (xb : Int)) q1 rfl
      have q3 := set_same (j := 3) (u := .int .i64 xc) q2 rfl
      have q4 := set_same (j := 4) (u := .slice A4 xl.length c4) q3 rfl
      have M5 : Mod (· = w.heap.size) w2 (((((w2.setCell ⟨w.heap.size, 0, none⟩ (.int .u8 (op : Int))).setCell ⟨w.heap.size, 1, none⟩ (.int .u32 (xa : Int))).setCell ⟨w.heap.size, 2, none⟩ (.int .u32 (xb : Int))).setCell ⟨w.heap.size, 3, none⟩ (.int .i64 xc)).setCell ⟨w.heap.size, 4, none⟩ (.slice A4 xl.length c4)) :=
        (Mod.setCell (T := (· = w.heap.size)) (Mod.setCell (T := (· = w.heap.size)) (Mod.setCell (T := (· = w.heap.size)) (Mod.setCell (T := (· = w.heap.size)) (Mod.setCell (T := (· = w.heap.size)) (Mod.refl _ w2) (fun _ => rfl) _) (fun _ => rfl) _) (fun _ => rfl) _) (fun _ => rfl) _) (fun _ => rfl) _)
      generalize ((((w2.setCell ⟨w.heap.size, 0, none⟩ (.int .u8 (op : Int))).setCell ⟨w.heap.size, 1, none⟩ (.int .u32 (xa : Int))).setCell ⟨w.heap.size, 2, none⟩ (.int .u32 (xb : Int))).setCell ⟨w.heap.size, 3, none⟩ (.int .i64 xc)).setCell ⟨w.heap.size, 4, none⟩ (.slice A4 xl.length c4) = w3 at q4 M5 ⊢
      have c3 := M5.cell e0 (fun e => by simp at e)
      have c4' : ((w3.setCell ⟨w.heap.size + 1, 0, none⟩ (.int .i64 0)).drew).cell? ⟨w.heap.size + 1, 0, none⟩ = some (.int .i64 0) := World.cell?_setCell_same _ _ _ c3
      have z4' : ((w3.setCell ⟨w.heap.size + 1, 0, none⟩ (.int .i64 0)).drew).heap[w.heap.size]? = some (.cells (insCells ⟨op, xa, xb, xc, xl⟩ A4 c4).toArray 26 (0, 0)) := (heap_setCell_other w3 ⟨w.heap.size + 1, 0, none⟩ w.heap.size (.int .i64 0) (by simp)).trans q4
      have M6 : Mod (fun g => g = w.heap.size ∨ g = w.heap.size + 1) w2 ((w3.setCell ⟨w.heap.size + 1, 0, none⟩ (.int .i64 0)).drew) := (Mod.setCell (T := fun g => g = w.heap.size ∨ g = w.heap.size + 1) (M5.more (fun _ _ h => .inl h)) (fun _ => .inr rfl) _).drew
      have hU6 := HU1.out.mod M6 (fun g _ hg e => by rw [HS0.out] at hg; omega)
      have hb6 : Below w.heap.size w ((w3.setCell ⟨w.heap.size + 1, 0, none⟩ (.int .i64 0)).drew) := HB1.out.trans (M6.below HB1.out.size (fun k hk e => by omega))
      generalize (w3.setCell ⟨w.heap.size + 1, 0, none⟩ (.int .i64 0)).drew = w4 at c4' z4' hU6 hb6 ⊢
      exact ⟨_, results_cellIE (p := 4) (q := 5) (r := 6) (ty := 26) (te := 30) (by kernel_rfl) _ _ w.heap.size 26 _ (0, 0) D rfl z4' HU.out HD.out sizeI (.int .i64 (m : Int)) _ rfl ⟨w.heap.size + 1, 0, none⟩ rfl (loadE c4'), ⟨_, rfl, ⟨A4, c4, rfl, hwf, hlc, hcm, hU6.more (fun g _ hg => by rw [HS0.out] at hg; omega)⟩, hb6⟩⟩
end Go.Proofs.Ytnechkmdmjhhbaa
