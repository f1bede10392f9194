/-
  Layer 6's sections: what each is read as, and where the module has it. (gen/bindec/sec.py)
-/
import Derived.Test.YthkglmkpnhhboaaGreatDoorR01
import Derived.Test.YthkglmkpnhhboaaGreatDoorR38
import Derived.Test.YthkglmkpnhhboaaGreatDoorR24
import Derived.Test.YthkglmkpnhhboaaGreatDoorR21
import Derived.Test.YthkglmkpnhhboaaGreatDoorR07
import Derived.Deep.Cut
import Derived.Test.YthkglmkpnhhboaaGreatDoorR26
import Derived.Deep.CutRange
set_option maxRecDepth 100000
set_option maxHeartbeats 4000000
namespace Bin
open Ins
def sec1 : P M := (list ft).then fun x => P.ret ⟨x, [], [], [], [], [], [], false, 0, [], [], []⟩
def sec2 : P M := (list imp).then fun x => P.ret ⟨[], x, [], [], [], [], [], false, 0, [], [], []⟩
def sec3 : P M := (list num).then fun x => P.ret ⟨[], [], x, [], [], [], [], false, 0, [], [], []⟩
def sec4 : P M := (list table).then fun x => P.ret ⟨[], [], [], x, [], [], [], false, 0, [], [], []⟩
def sec5 : P M := (list lim).then fun x => P.ret ⟨[], [], [], [], x, [], [], false, 0, [], [], []⟩
def sec6 : P M := (list gv).then fun x => P.ret ⟨[], [], [], [], [], x, [], false, 0, [], [], []⟩
def sec7 : P M := (list exp).then fun x => P.ret ⟨[], [], [], [], [], [], x, false, 0, [], [], []⟩
def sec8 : P M := (num).then fun x => P.ret ⟨[], [], [], [], [], [], [], true, x, [], [], []⟩
def sec9 : P M := (list el).then fun x => P.ret ⟨[], [], [], [], [], [], [], false, 0, x, [], []⟩
def sec10 : P M := (list cd).then fun x => P.ret ⟨[], [], [], [], [], [], [], false, 0, [], x, []⟩
def sec11 : P M := (list da).then fun x => P.ret ⟨[], [], [], [], [], [], [], false, 0, [], [], x⟩
def secP (id : Nat) : P M :=
 if id = 1 then sec1 else if id = 2 then sec2 else if id = 3 then sec3 else if id = 4 then sec4 else if id = 5 then sec5 else if id = 6 then sec6 else if id = 7 then sec7 else if id = 8 then sec8 else if id = 9 then sec9 else if id = 10 then sec10 else sec11
theorem aY {α β : Type} (p : P α) (f : α → β) (b : List UInt8) : whole (p.then fun x => P.ret (f x)) b = (whole p b).map f := by
 unfold whole P.then P.ret
 cases p b with
 | error e => rfl
 | ok q =>
  obtain ⟨a, k⟩ := q
  dsimp only
  rw [Nat.add_zero]
  by_cases h : k = b.length
  ·rw [if_pos h, if_pos h]; rfl
  ·rw [if_neg h, if_neg h]; rfl
theorem sec_eq (id : Nat) (b : List UInt8) : sec id b = whole (secP id) b := by
 unfold sec secP
 by_cases h1 : id = 1
 ·rw [if_pos h1, if_pos h1]; exact (aY _ _ b).symm
 rw [if_neg h1, if_neg h1]
 by_cases h2 : id = 2
 ·rw [if_pos h2, if_pos h2]; exact (aY _ _ b).symm
 rw [if_neg h2, if_neg h2]
 by_cases h3 : id = 3
 ·rw [if_pos h3, if_pos h3]; exact (aY _ _ b).symm
 rw [if_neg h3, if_neg h3]
 by_cases h4 : id = 4
 ·rw [if_pos h4, if_pos h4]; exact (aY _ _ b).symm
 rw [if_neg h4, if_neg h4]
 by_cases h5 : id = 5
 ·rw [if_pos h5, if_pos h5]; exact (aY _ _ b).symm
 rw [if_neg h5, if_neg h5]
 by_cases h6 : id = 6
 ·rw [if_pos h6, if_pos h6]; exact (aY _ _ b).symm
 rw [if_neg h6, if_neg h6]
 by_cases h7 : id = 7
 ·rw [if_pos h7, if_pos h7]; exact (aY _ _ b).symm
 rw [if_neg h7, if_neg h7]
 by_cases h8 : id = 8
 ·rw [if_pos h8, if_pos h8]; exact (aY _ _ b).symm
 rw [if_neg h8, if_neg h8]
 by_cases h9 : id = 9
 ·rw [if_pos h9, if_pos h9]; exact (aY _ _ b).symm
 rw [if_neg h9, if_neg h9]
 by_cases h10 : id = 10
 ·rw [if_pos h10, if_pos h10]; exact (aY _ _ b).symm
 rw [if_neg h10, if_neg h10]
 exact (aY _ _ b).symm
end Bin
namespace Go.Proofs.YthkglmkpnhhboaaGreatDoor
open Go.RowKit Ins Bin
def aE (w : World) (G : Nat) (S : Nat → Prop) (m : M) : Prop := ∃ v1 v2 v3 v4 v5 v6 v7 v8 v9 v10, w.heap[G]? = some (.cells (modCells m v1 v2 v3 v4 v5 v6 v7 v8 v9 v10) 33 (0, 0)) ∧ RepM w S m v1 v2 v3 v4 v5 v6 v7 v8 v9 v10
theorem aE.mod {T S : Nat → Prop} {w w' : World} {G : Nat} {m : M} (h : aE w G S m) (hm : Mod T w w') (hG : ¬ T G) (hd : ∀ k, k < w.heap.size → S k → ¬ T k) : aE w' G S m := by
 obtain ⟨v1, v2, v3, v4, v5, v6, v7, v8, v9, v10, h1, h2⟩ := h
 exact ⟨v1, v2, v3, v4, v5, v6, v7, v8, v9, v10, hm.heap h1 hG, h2.mod hm hd⟩
theorem aE.more {S S' : Nat → Prop} {w : World} {G : Nat} {m : M} (h : aE w G S m) (hs : ∀ k, k < w.heap.size → S k → S' k) : aE w G S' m := by
 obtain ⟨v1, v2, v3, v4, v5, v6, v7, v8, v9, v10, h1, h2⟩ := h
 exact ⟨v1, v2, v3, v4, v5, v6, v7, v8, v9, v10, h1, h2.more hs⟩
def Rl (w : World) (R n : Nat) : Prop := ∃ A c, w.heap[R]? = some (.cells #[.slice A n c] 118 (0, 0))
theorem Rb.rl {w : World} {R : Nat} {l : List UInt8} (h : Rb w R l) : Rl w R l.length := by
 obtain ⟨A, c, h, _⟩ := h
 exact ⟨A, c, h⟩
theorem Rl.keep {w w' : World} {T : Nat → Prop} {R n : Nat} (h : Rl w R n) (hm : Mod T w w') (ht : ¬ T R) : Rl w' R n := by
 obtain ⟨A, c, h⟩ := h
 exact ⟨A, c, hm.heap h ht⟩
theorem bend_len (R n : Nat) (w : World) (h : Rl w R n) :
  Calls Tryz.prog 43 #[.pointer (some ⟨R, 0, none⟩)] w fun e w' => w' = w ∧ if n = 0 then e = .returned (.tuple #[]) else e = erred 60 := by
 obtain ⟨A, c, h1⟩ := h
 have h0 : w.cell? ⟨R, 0, none⟩ = some (.slice A n c) := by rw [cell_of_row w R 0 _ _ (0, 0) h1]; rfl
 by_cases hl : n = 0
 ·simp only [if_pos hl]
  rw [hl] at h0
  clear h1 hl
  go_enter Tryz.func43, Tryz.ntmps43
  go_wp2_with fail
  go_end0
  exact ⟨rfl, rfl⟩
 ·simp only [if_neg hl]
  have hd : (0 : Int) < (n : Int) := by omega
  clear h1 hl
  go_enter Tryz.func43, Tryz.ntmps43
  go_wp2_with fail
  exact ⟨rfl, rfl, rfl⟩
def bE (R G : Nat) (S : Nat → Prop) (f : Nat → M) (id : Nat) (b : List UInt8) (w : World) (r : Except Nat (M × Nat)) (e : Ending) (w' : World) : Prop :=
 match r with
 | .error k => e = erred k ∧ Mod (· = R) w w'
 | .ok (x, n) => e = .returned (.tuple #[]) ∧ aE w' G (fun g => S g ∨ w.heap.size ≤ g) (M.of (upd f id x)) ∧ Rl w' R (b.drop n).length ∧ Mod (fun g => g = R ∨ g = G) w w'
theorem cellsM {w : World} {X : Nat} {cs : Array Value} {t : TypeId} (h : w.heap[X]? = some (.cells cs t (0, 0))) (j : Nat) (u : Value) (hj : cs[j]? = some u) : w.cell? ⟨X, j, none⟩ = some u := by
 rw [cell_of_row w X j _ _ (0, 0) h]; exact hj
theorem section_1 (R G : Nat) (b : List UInt8) (f : Nat → M) (S : Nat → Prop) (w : World) (hR : Rb w R b) (hT : Tb w) (hG : aE w G S (M.of f)) (hGR : G ≠ R) (hS : ∀ g, S g → g ≠ G ∧ g ≠ R) :
  Calls Tryz.prog 42 #[.pointer (some ⟨R, 0, none⟩), .int .u8 1, .pointer (some ⟨G, 0, none⟩)] w (bE R G S f 1 b w (sec1 b)) := by
 have HC := Y ((fun W (hW : Rb W R b) (_hTW : Tb W) => fts_any ft R b W hW _hTW (fun l' W h h' => bft_any R l' W h h')) w hR hT)
 have HLT := Y hR.lt
 obtain ⟨v1, v2, v3, v4, v5, v6, v7, v8, v9, v10, hrow, hrep⟩ := hG
 have HGL := Y ((Array.getElem?_eq_some_iff.1 hrow).1)
 have HROW := Y hrow
 have HREP := Y hrep
 have HSS := Y hS
 have HGR := Y hGR
 clear hrow hrep hS hGR hR hT
 cases h : (list ft) b with
 | error e0 =>
  have HE : Hid (sec1 b = .error e0) := Y (ak h)
  rw [h] at HC
  clear h
  go_enter Tryz.func42, Tryz.ntmps42
  go_wp2_with (go_at_call 68; refine HC.out.mono ?_; rintro e w1 ⟨rfl, hm⟩)
  rw [HE.out]
  exact ⟨rfl, rfl, hm⟩
 | ok q =>
  obtain ⟨x, k⟩ := q
  have HE : Hid (sec1 b = .ok (⟨x, [], [], [], [], [], [], false, 0, [], [], []⟩, k + 0)) := Y (ae h rfl (ay _ _))
  rw [h] at HC
  clear h
  go_enter Tryz.func42, Tryz.ntmps42
  go_wp2_with (go_at_call 68; refine HC.out.mono ?_; rintro e w1 ⟨v, rfl, hv, hr, hm⟩; have hv2 := hv; obtain ⟨A, c, rfl, _⟩ := hv; have hX := hm.heap HROW.out HGR.out; have gj := frozen_of_row _ _ 0 _ _ hX; have yj := cellsM hX 0 _ rfl; have HX := Y hX; have HV := Y hv2; have HR1 := Y hr; have HM1 := Y hm; clear hX hr hm hv2)
  go_end0
  have hms : Mod (· = G) w1 (w1.setCell ⟨G, 0, none⟩ (.slice A x.length c)) := Mod.setCell (T := (· = G)) (Mod.refl _ w1) (fun _ => rfl) _
  have hrep2 : RepM (w1.setCell ⟨G, 0, none⟩ (.slice A x.length c)) (fun g => S g ∨ w.heap.size ≤ g) (M.of f) v1 v2 v3 v4 v5 v6 v7 v8 v9 v10 := ((HREP.out.mod HM1.out (fun g _ hg e => (HSS.out g hg).2 e)).mod hms (fun g _ hg e => (HSS.out g hg).1 e)).more (fun g _ hg => .inl hg)
  have hvv : J (w1.setCell ⟨G, 0, none⟩ (.slice A x.length c)) (fun g => S g ∨ w.heap.size ≤ g) x (.slice A x.length c) := (HV.out.mod hms (fun g _ hg e => by have := HGL.out; omega)).more (fun g _ hg => .inr hg)
  rw [HE.out]
  refine ⟨rfl, ⟨(.slice A x.length c), v2, v3, v4, v5, v6, v7, v8, v9, v10, heap_setCell_same w1 G 0 _ _ _ HX.out, ⟨hvv, hrep2.imports, hrep2.funcs, hrep2.tables, hrep2.mems, hrep2.globals, hrep2.exports, hrep2.start, hrep2.elems, hrep2.codes, hrep2.datas⟩⟩, ?_, ?_⟩
  ·rw [Nat.add_zero]
   exact HR1.out.rl.keep hms (fun e => HGR.out e.symm)
  ·exact (HM1.out.more (fun g _ e => .inl e)).trans hms (fun g _ e => .inr e)
theorem section_2 (R G : Nat) (b : List UInt8) (f : Nat → M) (S : Nat → Prop) (w : World) (hR : Rb w R b) (hT : Tb w) (hG : aE w G S (M.of f)) (hGR : G ≠ R) (hS : ∀ g, S g → g ≠ G ∧ g ≠ R) :
  Calls Tryz.prog 42 #[.pointer (some ⟨R, 0, none⟩), .int .u8 2, .pointer (some ⟨G, 0, none⟩)] w (bE R G S f 2 b w (sec2 b)) := by
 have HC := Y ((fun W (hW : Rb W R b) (_hTW : Tb W) => imps_any imp R b W hW _hTW (fun l' W h h' => bimp_any R l' W h h')) w hR hT)
 have HLT := Y hR.lt
 obtain ⟨v1, v2, v3, v4, v5, v6, v7, v8, v9, v10, hrow, hrep⟩ := hG
 have HGL := Y ((Array.getElem?_eq_some_iff.1 hrow).1)
 have HROW := Y hrow
 have HREP := Y hrep
 have HSS := Y hS
 have HGR := Y hGR
 clear hrow hrep hS hGR hR hT
 cases h : (list imp) b with
 | error e0 =>
  have HE : Hid (sec2 b = .error e0) := Y (ak h)
  rw [h] at HC
  clear h
  go_enter Tryz.func42, Tryz.ntmps42
  go_wp2_with (go_at_call 70; refine HC.out.mono ?_; rintro e w1 ⟨rfl, hm⟩)
  rw [HE.out]
  exact ⟨rfl, rfl, hm⟩
 | ok q =>
  obtain ⟨x, k⟩ := q
  have HE : Hid (sec2 b = .ok (⟨[], x, [], [], [], [], [], false, 0, [], [], []⟩, k + 0)) := Y (ae h rfl (ay _ _))
  rw [h] at HC
  clear h
  go_enter Tryz.func42, Tryz.ntmps42
  go_wp2_with (go_at_call 70; refine HC.out.mono ?_; rintro e w1 ⟨v, rfl, hv, hr, hm⟩; have hv2 := hv; obtain ⟨A, c, rfl, _⟩ := hv; have hX := hm.heap HROW.out HGR.out; have gj := frozen_of_row _ _ 1 _ _ hX; have yj := cellsM hX 1 _ rfl; have HX := Y hX; have HV := Y hv2; have HR1 := Y hr; have HM1 := Y hm; clear hX hr hm hv2)
  go_end0
  have hms : Mod (· = G) w1 (w1.setCell ⟨G, 1, none⟩ (.slice A x.length c)) := Mod.setCell (T := (· = G)) (Mod.refl _ w1) (fun _ => rfl) _
  have hrep2 : RepM (w1.setCell ⟨G, 1, none⟩ (.slice A x.length c)) (fun g => S g ∨ w.heap.size ≤ g) (M.of f) v1 v2 v3 v4 v5 v6 v7 v8 v9 v10 := ((HREP.out.mod HM1.out (fun g _ hg e => (HSS.out g hg).2 e)).mod hms (fun g _ hg e => (HSS.out g hg).1 e)).more (fun g _ hg => .inl hg)
  have hvv : J (w1.setCell ⟨G, 1, none⟩ (.slice A x.length c)) (fun g => S g ∨ w.heap.size ≤ g) x (.slice A x.length c) := (HV.out.mod hms (fun g _ hg e => by have := HGL.out; omega)).more (fun g _ hg => .inr hg)
  rw [HE.out]
  refine ⟨rfl, ⟨v1, (.slice A x.length c), v3, v4, v5, v6, v7, v8, v9, v10, heap_setCell_same w1 G 1 _ _ _ HX.out, ⟨hrep2.types, hvv, hrep2.funcs, hrep2.tables, hrep2.mems, hrep2.globals, hrep2.exports, hrep2.start, hrep2.elems, hrep2.codes, hrep2.datas⟩⟩, ?_, ?_⟩
  ·rw [Nat.add_zero]
   exact HR1.out.rl.keep hms (fun e => HGR.out e.symm)
  ·exact (HM1.out.more (fun g _ e => .inl e)).trans hms (fun g _ e => .inr e)
theorem section_3 (R G : Nat) (b : List UInt8) (f : Nat → M) (S : Nat → Prop) (w : World) (hR : Rb w R b) (hT : Tb w) (hG : aE w G S (M.of f)) (hGR : G ≠ R) (hS : ∀ g, S g → g ≠ G ∧ g ≠ R) :
  Calls Tryz.prog 42 #[.pointer (some ⟨R, 0, none⟩), .int .u8 3, .pointer (some ⟨G, 0, none⟩)] w (bE R G S f 3 b w (sec3 b)) := by
 have HC := Y ((fun W (hW : Rb W R b) (_hTW : Tb W) => nums_ok R b W hW _hTW) w hR hT)
 have HLT := Y hR.lt
 obtain ⟨v1, v2, v3, v4, v5, v6, v7, v8, v9, v10, hrow, hrep⟩ := hG
 have HGL := Y ((Array.getElem?_eq_some_iff.1 hrow).1)
 have HROW := Y hrow
 have HREP := Y hrep
 have HSS := Y hS
 have HGR := Y hGR
 clear hrow hrep hS hGR hR hT
 cases h : (list num) b with
 | error e0 =>
  have HE : Hid (sec3 b = .error e0) := Y (ak h)
  rw [h] at HC
  clear h
  go_enter Tryz.func42, Tryz.ntmps42
  go_wp2_with (go_at_call 72; refine HC.out.mono ?_; rintro e w1 ⟨rfl, hm⟩)
  rw [HE.out]
  exact ⟨rfl, rfl, hm⟩
 | ok q =>
  obtain ⟨x, k⟩ := q
  have HE : Hid (sec3 b = .ok (⟨[], [], x, [], [], [], [], false, 0, [], [], []⟩, k + 0)) := Y (ae h rfl (ay _ _))
  rw [h] at HC
  clear h
  go_enter Tryz.func42, Tryz.ntmps42
  go_wp2_with (go_at_call 72; refine HC.out.mono ?_; rintro e w1 ⟨v, rfl, hv, hr, hm⟩; have hv2 := hv; obtain ⟨A, c, rfl, _⟩ := hv; have hX := hm.heap HROW.out HGR.out; have gj := frozen_of_row _ _ 2 _ _ hX; have yj := cellsM hX 2 _ rfl; have HX := Y hX; have HV := Y hv2; have HR1 := Y hr; have HM1 := Y hm; clear hX hr hm hv2)
  go_end0
  have hms : Mod (· = G) w1 (w1.setCell ⟨G, 2, none⟩ (.slice A x.length c)) := Mod.setCell (T := (· = G)) (Mod.refl _ w1) (fun _ => rfl) _
  have hrep2 : RepM (w1.setCell ⟨G, 2, none⟩ (.slice A x.length c)) (fun g => S g ∨ w.heap.size ≤ g) (M.of f) v1 v2 v3 v4 v5 v6 v7 v8 v9 v10 := ((HREP.out.mod HM1.out (fun g _ hg e => (HSS.out g hg).2 e)).mod hms (fun g _ hg e => (HSS.out g hg).1 e)).more (fun g _ hg => .inl hg)
  have hvv : J (w1.setCell ⟨G, 2, none⟩ (.slice A x.length c)) (fun g => S g ∨ w.heap.size ≤ g) x (.slice A x.length c) := (HV.out.mod hms (fun g _ hg e => by have := HGL.out; omega)).more (fun g _ hg => .inr hg)
  rw [HE.out]
  refine ⟨rfl, ⟨v1, v2, (.slice A x.length c), v4, v5, v6, v7, v8, v9, v10, heap_setCell_same w1 G 2 _ _ _ HX.out, ⟨hrep2.types, hrep2.imports, hvv, hrep2.tables, hrep2.mems, hrep2.globals, hrep2.exports, hrep2.start, hrep2.elems, hrep2.codes, hrep2.datas⟩⟩, ?_, ?_⟩
  ·rw [Nat.add_zero]
   exact HR1.out.rl.keep hms (fun e => HGR.out e.symm)
  ·exact (HM1.out.more (fun g _ e => .inl e)).trans hms (fun g _ e => .inr e)
theorem section_4 (R G : Nat) (b : List UInt8) (f : Nat → M) (S : Nat → Prop) (w : World) (hR : Rb w R b) (hT : Tb w) (hG : aE w G S (M.of f)) (hGR : G ≠ R) (hS : ∀ g, S g → g ≠ G ∧ g ≠ R) :
  Calls Tryz.prog 42 #[.pointer (some ⟨R, 0, none⟩), .int .u8 4, .pointer (some ⟨G, 0, none⟩)] w (bE R G S f 4 b w (sec4 b)) := by
 have HC := Y ((fun W (hW : Rb W R b) (_hTW : Tb W) => tabs_any table R b W hW _hTW (fun l' W h h' => gH R l' W h h')) w hR hT)
 have HLT := Y hR.lt
 obtain ⟨v1, v2, v3, v4, v5, v6, v7, v8, v9, v10, hrow, hrep⟩ := hG
 have HGL := Y ((Array.getElem?_eq_some_iff.1 hrow).1)
 have HROW := Y hrow
 have HREP := Y hrep
 have HSS := Y hS
 have HGR := Y hGR
 clear hrow hrep hS hGR hR hT
 cases h : (list table) b with
 | error e0 =>
  have HE : Hid (sec4 b = .error e0) := Y (ak h)
  rw [h] at HC
  clear h
  go_enter Tryz.func42, Tryz.ntmps42
  go_wp2_with (go_at_call 74; refine HC.out.mono ?_; rintro e w1 ⟨rfl, hm⟩)
  rw [HE.out]
  exact ⟨rfl, rfl, hm⟩
 | ok q =>
  obtain ⟨x, k⟩ := q
  have HE : Hid (sec4 b = .ok (⟨[], [], [], x, [], [], [], false, 0, [], [], []⟩, k + 0)) := Y (ae h rfl (ay _ _))
  rw [h] at HC
  clear h
  go_enter Tryz.func42, Tryz.ntmps42
  go_wp2_with (go_at_call 74; refine HC.out.mono ?_; rintro e w1 ⟨v, rfl, hv, hr, hm⟩; have hv2 := hv; obtain ⟨A, c, rfl, _⟩ := hv; have hX := hm.heap HROW.out HGR.out; have gj := frozen_of_row _ _ 3 _ _ hX; have yj := cellsM hX 3 _ rfl; have HX := Y hX; have HV := Y hv2; have HR1 := Y hr; have HM1 := Y hm; clear hX hr hm hv2)
  go_end0
  have hms : Mod (· = G) w1 (w1.setCell ⟨G, 3, none⟩ (.slice A x.length c)) := Mod.setCell (T := (· = G)) (Mod.refl _ w1) (fun _ => rfl) _
  have hrep2 : RepM (w1.setCell ⟨G, 3, none⟩ (.slice A x.length c)) (fun g => S g ∨ w.heap.size ≤ g) (M.of f) v1 v2 v3 v4 v5 v6 v7 v8 v9 v10 := ((HREP.out.mod HM1.out (fun g _ hg e => (HSS.out g hg).2 e)).mod hms (fun g _ hg e => (HSS.out g hg).1 e)).more (fun g _ hg => .inl hg)
  have hvv : J (w1.setCell ⟨G, 3, none⟩ (.slice A x.length c)) (fun g => S g ∨ w.heap.size ≤ g) x (.slice A x.length c) := (HV.out.mod hms (fun g _ hg e => by have := HGL.out; omega)).more (fun g _ hg => .inr hg)
  rw [HE.out]
  refine ⟨rfl, ⟨v1, v2, v3, (.slice A x.length c), v5, v6, v7, v8, v9, v10, heap_setCell_same w1 G 3 _ _ _ HX.out, ⟨hrep2.types, hrep2.imports, hrep2.funcs, hvv, hrep2.mems, hrep2.globals, hrep2.exports, hrep2.start, hrep2.elems, hrep2.codes, hrep2.datas⟩⟩, ?_, ?_⟩
  ·rw [Nat.add_zero]
   exact HR1.out.rl.keep hms (fun e => HGR.out e.symm)
  ·exact (HM1.out.more (fun g _ e => .inl e)).trans hms (fun g _ e => .inr e)
theorem section_5 (R G : Nat) (b : List UInt8) (f : Nat → M) (S : Nat → Prop) (w : World) (hR : Rb w R b) (hT : Tb w) (hG : aE w G S (M.of f)) (hGR : G ≠ R) (hS : ∀ g, S g → g ≠ G ∧ g ≠ R) :
  Calls Tryz.prog 42 #[.pointer (some ⟨R, 0, none⟩), .int .u8 5, .pointer (some ⟨G, 0, none⟩)] w (bE R G S f 5 b w (sec5 b)) := by
 have HC := Y ((fun W (hW : Rb W R b) (_hTW : Tb W) => lims_any lim R b W hW _hTW (fun l' W h h' => fK R l' W h h')) w hR hT)
 have HLT := Y hR.lt
 obtain ⟨v1, v2, v3, v4, v5, v6, v7, v8, v9, v10, hrow, hrep⟩ := hG
 have HGL := Y ((Array.getElem?_eq_some_iff.1 hrow).1)
 have HROW := Y hrow
 have HREP := Y hrep
 have HSS := Y hS
 have HGR := Y hGR
 clear hrow hrep hS hGR hR hT
 cases h : (list lim) b with
 | error e0 =>
  have HE : Hid (sec5 b = .error e0) := Y (ak h)
  rw [h] at HC
  clear h
  go_enter Tryz.func42, Tryz.ntmps42
  go_wp2_with (go_at_call 74; refine HC.out.mono ?_; rintro e w1 ⟨rfl, hm⟩)
  rw [HE.out]
  exact ⟨rfl, rfl, hm⟩
 | ok q =>
  obtain ⟨x, k⟩ := q
  have HE : Hid (sec5 b = .ok (⟨[], [], [], [], x, [], [], false, 0, [], [], []⟩, k + 0)) := Y (ae h rfl (ay _ _))
  rw [h] at HC
  clear h
  go_enter Tryz.func42, Tryz.ntmps42
  go_wp2_with (go_at_call 74; refine HC.out.mono ?_; rintro e w1 ⟨v, rfl, hv, hr, hm⟩; have hv2 := hv; obtain ⟨A, c, rfl, _⟩ := hv; have hX := hm.heap HROW.out HGR.out; have gj := frozen_of_row _ _ 4 _ _ hX; have yj := cellsM hX 4 _ rfl; have HX := Y hX; have HV := Y hv2; have HR1 := Y hr; have HM1 := Y hm; clear hX hr hm hv2)
  go_end0
  have hms : Mod (· = G) w1 (w1.setCell ⟨G, 4, none⟩ (.slice A x.length c)) := Mod.setCell (T := (· = G)) (Mod.refl _ w1) (fun _ => rfl) _
  have hrep2 : RepM (w1.setCell ⟨G, 4, none⟩ (.slice A x.length c)) (fun g => S g ∨ w.heap.size ≤ g) (M.of f) v1 v2 v3 v4 v5 v6 v7 v8 v9 v10 := ((HREP.out.mod HM1.out (fun g _ hg e => (HSS.out g hg).2 e)).mod hms (fun g _ hg e => (HSS.out g hg).1 e)).more (fun g _ hg => .inl hg)
  have hvv : J (w1.setCell ⟨G, 4, none⟩ (.slice A x.length c)) (fun g => S g ∨ w.heap.size ≤ g) x (.slice A x.length c) := (HV.out.mod hms (fun g _ hg e => by have := HGL.out; omega)).more (fun g _ hg => .inr hg)
  rw [HE.out]
  refine ⟨rfl, ⟨v1, v2, v3, v4, (.slice A x.length c), v6, v7, v8, v9, v10, heap_setCell_same w1 G 4 _ _ _ HX.out, ⟨hrep2.types, hrep2.imports, hrep2.funcs, hrep2.tables, hvv, hrep2.globals, hrep2.exports, hrep2.start, hrep2.elems, hrep2.codes, hrep2.datas⟩⟩, ?_, ?_⟩
  ·rw [Nat.add_zero]
   exact HR1.out.rl.keep hms (fun e => HGR.out e.symm)
  ·exact (HM1.out.more (fun g _ e => .inl e)).trans hms (fun g _ e => .inr e)
theorem section_6 (R G : Nat) (b : List UInt8) (f : Nat → M) (S : Nat → Prop) (w : World) (hR : Rb w R b) (hT : Tb w) (hG : aE w G S (M.of f)) (hGR : G ≠ R) (hS : ∀ g, S g → g ≠ G ∧ g ≠ R) :
  Calls Tryz.prog 42 #[.pointer (some ⟨R, 0, none⟩), .int .u8 6, .pointer (some ⟨G, 0, none⟩)] w (bE R G S f 6 b w (sec6 b)) := by
 have HC := Y ((fun W (hW : Rb W R b) (_hTW : Tb W) => gvs_any gv R b W hW _hTW (fun l' W h h' => bgv_any R l' W h h')) w hR hT)
 have HLT := Y hR.lt
 obtain ⟨v1, v2, v3, v4, v5, v6, v7, v8, v9, v10, hrow, hrep⟩ := hG
 have HGL := Y ((Array.getElem?_eq_some_iff.1 hrow).1)
 have HROW := Y hrow
 have HREP := Y hrep
 have HSS := Y hS
 have HGR := Y hGR
 clear hrow hrep hS hGR hR hT
 cases h : (list gv) b with
 | error e0 =>
  have HE : Hid (sec6 b = .error e0) := Y (ak h)
  rw [h] at HC
  clear h
  go_enter Tryz.func42, Tryz.ntmps42
  go_wp2_with (go_at_call 77; refine HC.out.mono ?_; rintro e w1 ⟨rfl, hm⟩)
  rw [HE.out]
  exact ⟨rfl, rfl, hm⟩
 | ok q =>
  obtain ⟨x, k⟩ := q
  have HE : Hid (sec6 b = .ok (⟨[], [], [], [], [], x, [], false, 0, [], [], []⟩, k + 0)) := Y (ae h rfl (ay _ _))
  rw [h] at HC
  clear h
  go_enter Tryz.func42, Tryz.ntmps42
  go_wp2_with (go_at_call 77; refine HC.out.mono ?_; rintro e w1 ⟨v, rfl, hv, hr, hm⟩; have hv2 := hv; obtain ⟨A, c, rfl, _⟩ := hv; have hX := hm.heap HROW.out HGR.out; have gj := frozen_of_row _ _ 5 _ _ hX; have yj := cellsM hX 5 _ rfl; have HX := Y hX; have HV := Y hv2; have HR1 := Y hr; have HM1 := Y hm; clear hX hr hm hv2)
  go_end0
  have hms : Mod (· = G) w1 (w1.setCell ⟨G, 5, none⟩ (.slice A x.length c)) := Mod.setCell (T := (· = G)) (Mod.refl _ w1) (fun _ => rfl) _
  have hrep2 : RepM (w1.setCell ⟨G, 5, none⟩ (.slice A x.length c)) (fun g => S g ∨ w.heap.size ≤ g) (M.of f) v1 v2 v3 v4 v5 v6 v7 v8 v9 v10 := ((HREP.out.mod HM1.out (fun g _ hg e => (HSS.out g hg).2 e)).mod hms (fun g _ hg e => (HSS.out g hg).1 e)).more (fun g _ hg => .inl hg)
  have hvv : J (w1.setCell ⟨G, 5, none⟩ (.slice A x.length c)) (fun g => S g ∨ w.heap.size ≤ g) x (.slice A x.length c) := (HV.out.mod hms (fun g _ hg e => by have := HGL.out; omega)).more (fun g _ hg => .inr hg)
  rw [HE.out]
  refine ⟨rfl, ⟨v1, v2, v3, v4, v5, (.slice A x.length c), v7, v8, v9, v10, heap_setCell_same w1 G 5 _ _ _ HX.out, ⟨hrep2.types, hrep2.imports, hrep2.funcs, hrep2.tables, hrep2.mems, hvv, hrep2.exports, hrep2.start, hrep2.elems, hrep2.codes, hrep2.datas⟩⟩, ?_, ?_⟩
  ·rw [Nat.add_zero]
   exact HR1.out.rl.keep hms (fun e => HGR.out e.symm)
  ·exact (HM1.out.more (fun g _ e => .inl e)).trans hms (fun g _ e => .inr e)
theorem section_7 (R G : Nat) (b : List UInt8) (f : Nat → M) (S : Nat → Prop) (w : World) (hR : Rb w R b) (hT : Tb w) (hG : aE w G S (M.of f)) (hGR : G ≠ R) (hS : ∀ g, S g → g ≠ G ∧ g ≠ R) :
  Calls Tryz.prog 42 #[.pointer (some ⟨R, 0, none⟩), .int .u8 7, .pointer (some ⟨G, 0, none⟩)] w (bE R G S f 7 b w (sec7 b)) := by
 have HC := Y ((fun W (hW : Rb W R b) (_hTW : Tb W) => exps_any exp R b W hW _hTW (fun l' W h h' => bexp_any R l' W h h')) w hR hT)
 have HLT := Y hR.lt
 obtain ⟨v1, v2, v3, v4, v5, v6, v7, v8, v9, v10, hrow, hrep⟩ := hG
 have HGL := Y ((Array.getElem?_eq_some_iff.1 hrow).1)
 have HROW := Y hrow
 have HREP := Y hrep
 have HSS := Y hS
 have HGR := Y hGR
 clear hrow hrep hS hGR hR hT
 cases h : (list exp) b with
 | error e0 =>
  have HE : Hid (sec7 b = .error e0) := Y (ak h)
  rw [h] at HC
  clear h
  go_enter Tryz.func42, Tryz.ntmps42
  go_wp2_with (go_at_call 79; refine HC.out.mono ?_; rintro e w1 ⟨rfl, hm⟩)
  rw [HE.out]
  exact ⟨rfl, rfl, hm⟩
 | ok q =>
  obtain ⟨x, k⟩ := q
  have HE : Hid (sec7 b = .ok (⟨[], [], [], [], [], [], x, false, 0, [], [], []⟩, k + 0)) := Y (ae h rfl (ay _ _))
  rw [h] at HC
  clear h
  go_enter Tryz.func42, Tryz.ntmps42
  go_wp2_with (go_at_call 79; refine HC.out.mono ?_; rintro e w1 ⟨v, rfl, hv, hr, hm⟩; have hv2 := hv; obtain ⟨A, c, rfl, _⟩ := hv; have hX := hm.heap HROW.out HGR.out; have gj := frozen_of_row _ _ 6 _ _ hX; have yj := cellsM hX 6 _ rfl; have HX := Y hX; have HV := Y hv2; have HR1 := Y hr; have HM1 := Y hm; clear hX hr hm hv2)
  go_end0
  have hms : Mod (· = G) w1 (w1.setCell ⟨G, 6, none⟩ (.slice A x.length c)) := Mod.setCell (T := (· = G)) (Mod.refl _ w1) (fun _ => rfl) _
  have hrep2 : RepM (w1.setCell ⟨G, 6, none⟩ (.slice A x.length c)) (fun g => S g ∨ w.heap.size ≤ g) (M.of f) v1 v2 v3 v4 v5 v6 v7 v8 v9 v10 := ((HREP.out.mod HM1.out (fun g _ hg e => (HSS.out g hg).2 e)).mod hms (fun g _ hg e => (HSS.out g hg).1 e)).more (fun g _ hg => .inl hg)
  have hvv : J (w1.setCell ⟨G, 6, none⟩ (.slice A x.length c)) (fun g => S g ∨ w.heap.size ≤ g) x (.slice A x.length c) := (HV.out.mod hms (fun g _ hg e => by have := HGL.out; omega)).more (fun g _ hg => .inr hg)
  rw [HE.out]
  refine ⟨rfl, ⟨v1, v2, v3, v4, v5, v6, (.slice A x.length c), v8, v9, v10, heap_setCell_same w1 G 6 _ _ _ HX.out, ⟨hrep2.types, hrep2.imports, hrep2.funcs, hrep2.tables, hrep2.mems, hrep2.globals, hvv, hrep2.start, hrep2.elems, hrep2.codes, hrep2.datas⟩⟩, ?_, ?_⟩
  ·rw [Nat.add_zero]
   exact HR1.out.rl.keep hms (fun e => HGR.out e.symm)
  ·exact (HM1.out.more (fun g _ e => .inl e)).trans hms (fun g _ e => .inr e)
theorem section_8 (R G : Nat) (b : List UInt8) (f : Nat → M) (S : Nat → Prop) (w : World) (hR : Rb w R b) (hT : Tb w) (hG : aE w G S (M.of f)) (hGR : G ≠ R) (hS : ∀ g, S g → g ≠ G ∧ g ≠ R) :
  Calls Tryz.prog 42 #[.pointer (some ⟨R, 0, none⟩), .int .u8 8, .pointer (some ⟨G, 0, none⟩)] w (bE R G S f 8 b w (sec8 b)) := by
 have HC := Y ((fun W (hW : Rb W R b) (_hTW : Tb W) => ar R b W hW) w hR hT)
 have HLT := Y hR.lt
 obtain ⟨v1, v2, v3, v4, v5, v6, v7, v8, v9, v10, hrow, hrep⟩ := hG
 have HGL := Y ((Array.getElem?_eq_some_iff.1 hrow).1)
 have HROW := Y hrow
 have HREP := Y hrep
 have HSS := Y hS
 have HGR := Y hGR
 clear hrow hrep hS hGR hR hT
 cases h : (num) b with
 | error e0 =>
  have HE : Hid (sec8 b = .error e0) := Y (ak h)
  rw [h] at HC
  clear h
  go_enter Tryz.func42, Tryz.ntmps42
  go_wp2_with (go_at_call 73; refine HC.out.mono ?_; rintro e w1 ⟨rfl, hm⟩)
  rw [HE.out]
  exact ⟨rfl, rfl, hm⟩
 | ok q =>
  obtain ⟨x, k⟩ := q
  have HE : Hid (sec8 b = .ok (⟨[], [], [], [], [], [], [], true, x, [], [], []⟩, k + 0)) := Y (ae h rfl (ay _ _))
  rw [h] at HC
  clear h
  go_enter Tryz.func42, Tryz.ntmps42
  go_wp2_with (go_at_call 73; refine HC.out.mono ?_; rintro e w1 ⟨v, rfl, hv, hr, hm⟩; obtain ⟨rfl, hx⟩ := hv; have hX := hm.heap HROW.out HGR.out; have g7 := frozen_of_row _ _ 7 _ _ hX; have g8 := frozen_of_row _ _ 8 _ _ hX; have y7 := cellsM hX 7 _ rfl; have y8 := cellsM hX 8 _ rfl; have HX := Y hX; have HXN := Y hx; have HR1 := Y hr; have HM1 := Y hm; clear hX hr hm hx)
  go_end0
  have hms : Mod (· = G) w1 ((w1.setCell ⟨G, 7, none⟩ (.bool true)).setCell ⟨G, 8, none⟩ (.int .u32 (x : Int))) := Mod.setCell (T := (· = G)) (Mod.setCell (T := (· = G)) (Mod.refl _ w1) (fun _ => rfl) _) (fun _ => rfl) _
  have hrep2 : RepM ((w1.setCell ⟨G, 7, none⟩ (.bool true)).setCell ⟨G, 8, none⟩ (.int .u32 (x : Int))) (fun g => S g ∨ w.heap.size ≤ g) (M.of f) v1 v2 v3 v4 v5 v6 v7 v8 v9 v10 := ((HREP.out.mod HM1.out (fun g _ hg e => (HSS.out g hg).2 e)).mod hms (fun g _ hg e => (HSS.out g hg).1 e)).more (fun g _ hg => .inl hg)
  rw [HE.out]
  refine ⟨rfl, ⟨v1, v2, v3, v4, v5, v6, v7, v8, v9, v10, heap_setCell_same _ G 8 _ _ _ (heap_setCell_same w1 G 7 _ _ _ HX.out), ⟨hrep2.types, hrep2.imports, hrep2.funcs, hrep2.tables, hrep2.mems, hrep2.globals, hrep2.exports, HXN.out, hrep2.elems, hrep2.codes, hrep2.datas⟩⟩, ?_, ?_⟩
  ·rw [Nat.add_zero]
   exact HR1.out.rl.keep hms (fun e => HGR.out e.symm)
  ·exact (HM1.out.more (fun g _ e => .inl e)).trans hms (fun g _ e => .inr e)
theorem section_9 (R G : Nat) (b : List UInt8) (f : Nat → M) (S : Nat → Prop) (w : World) (hR : Rb w R b) (hT : Tb w) (hG : aE w G S (M.of f)) (hGR : G ≠ R) (hS : ∀ g, S g → g ≠ G ∧ g ≠ R) :
  Calls Tryz.prog 42 #[.pointer (some ⟨R, 0, none⟩), .int .u8 9, .pointer (some ⟨G, 0, none⟩)] w (bE R G S f 9 b w (sec9 b)) := by
 have HC := Y ((fun W (hW : Rb W R b) (_hTW : Tb W) => els_any el R b W hW _hTW (fun l' W h h' => bel_any R l' W h h')) w hR hT)
 have HLT := Y hR.lt
 obtain ⟨v1, v2, v3, v4, v5, v6, v7, v8, v9, v10, hrow, hrep⟩ := hG
 have HGL := Y ((Array.getElem?_eq_some_iff.1 hrow).1)
 have HROW := Y hrow
 have HREP := Y hrep
 have HSS := Y hS
 have HGR := Y hGR
 clear hrow hrep hS hGR hR hT
 cases h : (list el) b with
 | error e0 =>
  have HE : Hid (sec9 b = .error e0) := Y (ak h)
  rw [h] at HC
  clear h
  go_enter Tryz.func42, Tryz.ntmps42
  go_wp2_with (go_at_call 81; refine HC.out.mono ?_; rintro e w1 ⟨rfl, hm⟩)
  rw [HE.out]
  exact ⟨rfl, rfl, hm⟩
 | ok q =>
  obtain ⟨x, k⟩ := q
  have HE : Hid (sec9 b = .ok (⟨[], [], [], [], [], [], [], false, 0, x, [], []⟩, k + 0)) := Y (ae h rfl (ay _ _))
  rw [h] at HC
  clear h
  go_enter Tryz.func42, Tryz.ntmps42
  go_wp2_with (go_at_call 81; refine HC.out.mono ?_; rintro e w1 ⟨v, rfl, hv, hr, hm⟩; have hv2 := hv; obtain ⟨A, c, rfl, _⟩ := hv; have hX := hm.heap HROW.out HGR.out; have gj := frozen_of_row _ _ 9 _ _ hX; have yj := cellsM hX 9 _ rfl; have HX := Y hX; have HV := Y hv2; have HR1 := Y hr; have HM1 := Y hm; clear hX hr hm hv2)
  go_end0
  have hms : Mod (· = G) w1 (w1.setCell ⟨G, 9, none⟩ (.slice A x.length c)) := Mod.setCell (T := (· = G)) (Mod.refl _ w1) (fun _ => rfl) _
  have hrep2 : RepM (w1.setCell ⟨G, 9, none⟩ (.slice A x.length c)) (fun g => S g ∨ w.heap.size ≤ g) (M.of f) v1 v2 v3 v4 v5 v6 v7 v8 v9 v10 := ((HREP.out.mod HM1.out (fun g _ hg e => (HSS.out g hg).2 e)).mod hms (fun g _ hg e => (HSS.out g hg).1 e)).more (fun g _ hg => .inl hg)
  have hvv : J (w1.setCell ⟨G, 9, none⟩ (.slice A x.length c)) (fun g => S g ∨ w.heap.size ≤ g) x (.slice A x.length c) := (HV.out.mod hms (fun g _ hg e => by have := HGL.out; omega)).more (fun g _ hg => .inr hg)
  rw [HE.out]
  refine ⟨rfl, ⟨v1, v2, v3, v4, v5, v6, v7, (.slice A x.length c), v9, v10, heap_setCell_same w1 G 9 _ _ _ HX.out, ⟨hrep2.types, hrep2.imports, hrep2.funcs, hrep2.tables, hrep2.mems, hrep2.globals, hrep2.exports, hrep2.start, hvv, hrep2.codes, hrep2.datas⟩⟩, ?_, ?_⟩
  ·rw [Nat.add_zero]
   exact HR1.out.rl.keep hms (fun e => HGR.out e.symm)
  ·exact (HM1.out.more (fun g _ e => .inl e)).trans hms (fun g _ e => .inr e)
theorem section_10 (R G : Nat) (b : List UInt8) (f : Nat → M) (S : Nat → Prop) (w : World) (hR : Rb w R b) (hT : Tb w) (hG : aE w G S (M.of f)) (hGR : G ≠ R) (hS : ∀ g, S g → g ≠ G ∧ g ≠ R) :
  Calls Tryz.prog 42 #[.pointer (some ⟨R, 0, none⟩), .int .u8 10, .pointer (some ⟨G, 0, none⟩)] w (bE R G S f 10 b w (sec10 b)) := by
 have HC := Y ((fun W (hW : Rb W R b) (_hTW : Tb W) => cds_any cd R b W hW _hTW (fun l' W h h' => bcd_any R l' W h h')) w hR hT)
 have HLT := Y hR.lt
 obtain ⟨v1, v2, v3, v4, v5, v6, v7, v8, v9, v10, hrow, hrep⟩ := hG
 have HGL := Y ((Array.getElem?_eq_some_iff.1 hrow).1)
 have HROW := Y hrow
 have HREP := Y hrep
 have HSS := Y hS
 have HGR := Y hGR
 clear hrow hrep hS hGR hR hT
 cases h : (list cd) b with
 | error e0 =>
  have HE : Hid (sec10 b = .error e0) := Y (ak h)
  rw [h] at HC
  clear h
  go_enter Tryz.func42, Tryz.ntmps42
  go_wp2_with (go_at_call 83; refine HC.out.mono ?_; rintro e w1 ⟨rfl, hm⟩)
  rw [HE.out]
  exact ⟨rfl, rfl, hm⟩
 | ok q =>
  obtain ⟨x, k⟩ := q
  have HE : Hid (sec10 b = .ok (⟨[], [], [], [], [], [], [], false, 0, [], x, []⟩, k + 0)) := Y (ae h rfl (ay _ _))
  rw [h] at HC
  clear h
  go_enter Tryz.func42, Tryz.ntmps42
  go_wp2_with (go_at_call 83; refine HC.out.mono ?_; rintro e w1 ⟨v, rfl, hv, hr, hm⟩; have hv2 := hv; obtain ⟨A, c, rfl, _⟩ := hv; have hX := hm.heap HROW.out HGR.out; have gj := frozen_of_row _ _ 10 _ _ hX; have yj := cellsM hX 10 _ rfl; have HX := Y hX; have HV := Y hv2; have HR1 := Y hr; have HM1 := Y hm; clear hX hr hm hv2)
  go_end0
  have hms : Mod (· = G) w1 (w1.setCell ⟨G, 10, none⟩ (.slice A x.length c)) := Mod.setCell (T := (· = G)) (Mod.refl _ w1) (fun _ => rfl) _
  have hrep2 : RepM (w1.setCell ⟨G, 10, none⟩ (.slice A x.length c)) (fun g => S g ∨ w.heap.size ≤ g) (M.of f) v1 v2 v3 v4 v5 v6 v7 v8 v9 v10 := ((HREP.out.mod HM1.out (fun g _ hg e => (HSS.out g hg).2 e)).mod hms (fun g _ hg e => (HSS.out g hg).1 e)).more (fun g _ hg => .inl hg)
  have hvv : J (w1.setCell ⟨G, 10, none⟩ (.slice A x.length c)) (fun g => S g ∨ w.heap.size ≤ g) x (.slice A x.length c) := (HV.out.mod hms (fun g _ hg e => by have := HGL.out; omega)).more (fun g _ hg => .inr hg)
  rw [HE.out]
  refine ⟨rfl, ⟨v1, v2, v3, v4, v5, v6, v7, v8, (.slice A x.length c), v10, heap_setCell_same w1 G 10 _ _ _ HX.out, ⟨hrep2.types, hrep2.imports, hrep2.funcs, hrep2.tables, hrep2.mems, hrep2.globals, hrep2.exports, hrep2.start, hrep2.elems, hvv, hrep2.datas⟩⟩, ?_, ?_⟩
  ·rw [Nat.add_zero]
   exact HR1.out.rl.keep hms (fun e => HGR.out e.symm)
  ·exact (HM1.out.more (fun g _ e => .inl e)).trans hms (fun g _ e => .inr e)
theorem section_11 (R G : Nat) (b : List UInt8) (f : Nat → M) (S : Nat → Prop) (w : World) (hR : Rb w R b) (hT : Tb w) (hG : aE w G S (M.of f)) (hGR : G ≠ R) (hS : ∀ g, S g → g ≠ G ∧ g ≠ R) :
  Calls Tryz.prog 42 #[.pointer (some ⟨R, 0, none⟩), .int .u8 11, .pointer (some ⟨G, 0, none⟩)] w (bE R G S f 11 b w (sec11 b)) := by
 have HC := Y ((fun W (hW : Rb W R b) (_hTW : Tb W) => das_any da R b W hW _hTW (fun l' W h h' => bda_any R l' W h h')) w hR hT)
 have HLT := Y hR.lt
 obtain ⟨v1, v2, v3, v4, v5, v6, v7, v8, v9, v10, hrow, hrep⟩ := hG
 have HGL := Y ((Array.getElem?_eq_some_iff.1 hrow).1)
 have HROW := Y hrow
 have HREP := Y hrep
 have HSS := Y hS
 have HGR := Y hGR
 clear hrow hrep hS hGR hR hT
 cases h : (list da) b with
 | error e0 =>
  have HE : Hid (sec11 b = .error e0) := Y (ak h)
  rw [h] at HC
  clear h
  go_enter Tryz.func42, Tryz.ntmps42
  go_wp2_with (go_at_call 85; refine HC.out.mono ?_; rintro e w1 ⟨rfl, hm⟩)
  rw [HE.out]
  exact ⟨rfl, rfl, hm⟩
 | ok q =>
  obtain ⟨x, k⟩ := q
  have HE : Hid (sec11 b = .ok (⟨[], [], [], [], [], [], [], false, 0, [], [], x⟩, k + 0)) := Y (ae h rfl (ay _ _))
  rw [h] at HC
  clear h
  go_enter Tryz.func42, Tryz.ntmps42
  go_wp2_with (go_at_call 85; refine HC.out.mono ?_; rintro e w1 ⟨v, rfl, hv, hr, hm⟩; have hv2 := hv; obtain ⟨A, c, rfl, _⟩ := hv; have hX := hm.heap HROW.out HGR.out; have gj := frozen_of_row _ _ 11 _ _ hX; have yj := cellsM hX 11 _ rfl; have HX := Y hX; have HV := Y hv2; have HR1 := Y hr; have HM1 := Y hm; clear hX hr hm hv2)
  go_end0
  have hms : Mod (· = G) w1 (w1.setCell ⟨G, 11, none⟩ (.slice A x.length c)) := Mod.setCell (T := (· = G)) (Mod.refl _ w1) (fun _ => rfl) _
  have hrep2 : RepM (w1.setCell ⟨G, 11, none⟩ (.slice A x.length c)) (fun g => S g ∨ w.heap.size ≤ g) (M.of f) v1 v2 v3 v4 v5 v6 v7 v8 v9 v10 := ((HREP.out.mod HM1.out (fun g _ hg e => (HSS.out g hg).2 e)).mod hms (fun g _ hg e => (HSS.out g hg).1 e)).more (fun g _ hg => .inl hg)
  have hvv : J (w1.setCell ⟨G, 11, none⟩ (.slice A x.length c)) (fun g => S g ∨ w.heap.size ≤ g) x (.slice A x.length c) := (HV.out.mod hms (fun g _ hg e => by have := HGL.out; omega)).more (fun g _ hg => .inr hg)
  rw [HE.out]
  refine ⟨rfl, ⟨v1, v2, v3, v4, v5, v6, v7, v8, v9, (.slice A x.length c), heap_setCell_same w1 G 11 _ _ _ HX.out, ⟨hrep2.types, hrep2.imports, hrep2.funcs, hrep2.tables, hrep2.mems, hrep2.globals, hrep2.exports, hrep2.start, hrep2.elems, hrep2.codes, hvv⟩⟩, ?_, ?_⟩
  ·rw [Nat.add_zero]
   exact HR1.out.rl.keep hms (fun e => HGR.out e.symm)
  ·exact (HM1.out.more (fun g _ e => .inl e)).trans hms (fun g _ e => .inr e)
theorem section_any (R G id : Nat) (b : List UInt8) (f : Nat → M) (S : Nat → Prop) (w : World) (hid : 1 ≤ id ∧ id ≤ 11) (hR : Rb w R b) (hT : Tb w) (hG : aE w G S (M.of f)) (hGR : G ≠ R) (hS : ∀ g, S g → g ≠ G ∧ g ≠ R) :
  Calls Tryz.prog 42 #[.pointer (some ⟨R, 0, none⟩), .int .u8 (id : Int), .pointer (some ⟨G, 0, none⟩)] w (bE R G S f id b w (secP id b)) := by
 have : id = 1 ∨ id = 2 ∨ id = 3 ∨ id = 4 ∨ id = 5 ∨ id = 6 ∨ id = 7 ∨ id = 8 ∨ id = 9 ∨ id = 10 ∨ id = 11 := by omega
 rcases this with rfl | rfl | rfl | rfl | rfl | rfl | rfl | rfl | rfl | rfl | rfl
 ·exact section_1 R G b f S w hR hT hG hGR hS
 ·exact section_2 R G b f S w hR hT hG hGR hS
 ·exact section_3 R G b f S w hR hT hG hGR hS
 ·exact section_4 R G b f S w hR hT hG hGR hS
 ·exact section_5 R G b f S w hR hT hG hGR hS
 ·exact section_6 R G b f S w hR hT hG hGR hS
 ·exact section_7 R G b f S w hR hT hG hGR hS
 ·exact section_8 R G b f S w hR hT hG hGR hS
 ·exact section_9 R G b f S w hR hT hG hGR hS
 ·exact section_10 R G b f S w hR hT hG hGR hS
 ·exact section_11 R G b f S w hR hT hG hGR hS
end Go.Proofs.YthkglmkpnhhboaaGreatDoor
namespace Bin
open Ins
def Fits {α : Type} (p : P α) : Prop := ∀ l x k, p l = .ok (x, k) → k ≤ l.length
theorem Fits.ret {α : Type} (a : α) : Fits (P.ret a) := fun l x k h => by
 obtain ⟨_, rfl⟩ := aA h
 omega
theorem Fits.fail {α : Type} (e : Nat) : Fits (P.fail e : P α) := fun l x k h => by cases h
theorem Fits.bind {α β : Type} {p : P α} {f : α → P β} (hp : Fits p) (hf : ∀ a, Fits (f a)) : Fits (p.then f) := fun l x k h => by
 obtain ⟨a, i, j, h1, h2, rfl⟩ := P.then_ok h
 have h3 := hp _ _ _ h1
 have h4 := hf a _ _ _ h2
 rw [List.length_drop] at h4
 omega
theorem Fits.ite {α : Type} (c : Prop) [Decidable c] {p q : P α} (hp : Fits p) (hq : Fits q) : Fits (if c then p else q) := by
 split
 ·exact hp
 ·exact hq
theorem cp : Fits byte := fun l x k h => by
 cases l with
 | nil => cases h
 | cons y r => have := byte_ok h; simp; omega
theorem bj : Fits num := fun _ _ _ h => (aB h).2.2.1
theorem eI : Fits name := fun l x k h => by
 unfold name at h
 split at h
 ·next hn =>
  injection h with h
  injection h with _ h
  unfold Sec.named at hn
  simp only [Bool.and_eq_true, decide_eq_true_eq] at hn
  omega
 ·cases h
theorem eB : Fits expr := fun _ _ _ h => (bS _ _ _ _ _ h).2.2.2.1
theorem gr (n : Nat) : Fits (takeP n) := fun l x k h => by
 unfold takeP at h
 split at h
 ·injection h with h
  injection h with _ h
  omega
 ·cases h
theorem gZ {α : Type} {p : P α} (hp : Fits p) : ∀ n, Fits (many p n)
 | 0 => Fits.ret _
 | n + 1 => hp.bind fun _ => (gZ hp n).bind fun _ => Fits.ret _
theorem aN {α : Type} {p : P α} (hp : Fits p) : Fits (list p) := bj.bind fun n => gZ hp n
theorem dS : Fits value := cp.bind fun _ => Fits.ite _ (Fits.fail _) (Fits.ite _ (Fits.ret _) (Fits.fail _))
theorem gX : Fits flag := cp.bind fun _ => Fits.ite _ (Fits.ret _) (Fits.ite _ (Fits.ret _) (Fits.fail _))
theorem gJ : Fits lim := gX.bind fun _ => bj.bind fun _ => Fits.ite _ (bj.bind fun _ => Fits.ret _) (Fits.ret _)
theorem fS : Fits table := cp.bind fun _ => Fits.ite _ gJ (Fits.fail _)
theorem iu : Fits glob := dS.bind fun _ => gX.bind fun _ => Fits.ret _
theorem fits_ft : Fits ft := cp.bind fun _ => Fits.ite _ ((aN dS).bind fun _ => (aN dS).bind fun _ => Fits.ret _) (Fits.fail _)
theorem fits_imp : Fits imp := eI.bind fun _ => eI.bind fun _ => cp.bind fun _ => Fits.ite _ (bj.bind fun _ => Fits.ret _) (Fits.ite _ (fS.bind fun _ => Fits.ret _) (Fits.ite _ (gJ.bind fun _ => Fits.ret _) (Fits.ite _ (iu.bind fun _ => Fits.ret _) (Fits.fail _))))
theorem fits_gv : Fits gv := iu.bind fun _ => eB.bind fun _ => Fits.ret _
theorem fits_exp : Fits exp := eI.bind fun _ => cp.bind fun _ => Fits.ite _ (bj.bind fun _ => Fits.ret _) (Fits.fail _)
theorem fits_el : Fits el := bj.bind fun _ => eB.bind fun _ => (aN bj).bind fun _ => Fits.ret _
theorem fits_cd : Fits cd := by
 rw [fL]
 refine bj.bind fun n => (gr n).bind fun b => ?_
 cases whole cdIn b with
 | error e => exact Fits.fail _
 | ok c => exact Fits.ret _
theorem fits_da : Fits da := by
 rw [iz]
 exact bj.bind fun _ => eB.bind fun _ => bj.bind fun n => (gr n).bind fun _ => Fits.ret _
theorem hC (id : Nat) : Fits (secP id) := by
 unfold secP
 refine Fits.ite _ ((aN fits_ft).bind fun _ => Fits.ret _) (Fits.ite _ ((aN fits_imp).bind fun _ => Fits.ret _) (Fits.ite _ ((aN bj).bind fun _ => Fits.ret _) (Fits.ite _ ((aN fS).bind fun _ => Fits.ret _) (Fits.ite _ ((aN gJ).bind fun _ => Fits.ret _) (Fits.ite _ ((aN fits_gv).bind fun _ => Fits.ret _) (Fits.ite _ ((aN fits_exp).bind fun _ => Fits.ret _) (Fits.ite _ (bj.bind fun _ => Fits.ret _) (Fits.ite _ ((aN fits_el).bind fun _ => Fits.ret _) (Fits.ite _ ((aN fits_cd).bind fun _ => Fits.ret _) ((aN fits_da).bind fun _ => Fits.ret _))))))))))
theorem secs_err {f : Nat → M} {s : Sec.S} {xs : List Sec.S} {e : Nat} (h : secP s.id s.b = .error e) : secs f (s :: xs) = .error e := by
 simp only [secs, sec_eq, f6 h]
theorem secs_more {f : Nat → M} {s : Sec.S} {xs : List Sec.S} {m : M} {k : Nat} (h : secP s.id s.b = .ok (m, k)) (hl : ¬ (s.b.drop k).length = 0) : secs f (s :: xs) = .error 60 := by
 have := eK h (hC _ _ _ _ h) rfl
 rw [if_neg hl] at this
 simp only [secs, sec_eq, this]
theorem secs_go {f : Nat → M} {s : Sec.S} {xs : List Sec.S} {m : M} {k : Nat} (h : secP s.id s.b = .ok (m, k)) (hl : (s.b.drop k).length = 0) : secs f (s :: xs) = secs (upd f s.id m) xs := by
 have := eK h (hC _ _ _ _ h) rfl
 rw [if_pos hl] at this
 simp only [secs, sec_eq, this]
def decS (xs : List Sec.S) : Except Nat M := match secs (fun _ => M.zero) xs with
 | .error e => .error e
 | .ok f => if (f 10).codes.length = (f 3).funcs.length then .ok (M.of f) else .error 60
theorem dec_long {l : List UInt8} (h : 65536 < l.length) : dec l = .error 3 := by
 unfold dec
 rw [if_pos h]
theorem dec_none {l : List UInt8} (h : ¬ 65536 < l.length) (hs : Sec.split l = none) : dec l = .error 60 := by
 unfold dec
 rw [if_neg h, hs]
theorem dec_some {l : List UInt8} {xs : List Sec.S} (h : ¬ 65536 < l.length) (hs : Sec.split l = some xs) : dec l = decS xs := by
 unfold dec decS
 rw [if_neg h, hs]
 rfl
theorem split_part {l : List UInt8} {xs : List Sec.S} (hs : Sec.split l = some xs) : ∀ s ∈ xs, 1 ≤ s.id ∧ s.id ≤ 11 ∧ s.b.length ≤ l.length := fun s hm => by
 obtain ⟨h1, _, h3, _⟩ := Sec.split_back hs
 obtain ⟨g1, g2⟩ := dm 0 _ h1 s hm
 refine ⟨g1, g2, ?_⟩
 have : s.b.length ≤ (Sec.join xs).length := by
  obtain ⟨a, b, rfl⟩ := List.append_of_mem hm
  simp only [Sec.join, Sec.encAll, List.flatMap_append, List.flatMap_cons, List.length_append]
  have : s.b.length ≤ (Sec.enc s).length := by simp [Sec.enc]; omega
  omega
 omega
end Bin
namespace Go.Proofs.YthkglmkpnhhboaaGreatDoor
open Go.RowKit Ins Bin
def zeroM : Array Value := #[.slice none 0 0, .slice none 0 0, .slice none 0 0, .slice none 0 0, .slice none 0 0, .slice none 0 0, .slice none 0 0, .bool false, .int .u32 0, .slice none 0 0, .slice none 0 0, .slice none 0 0]
theorem sizM : (Tryz.prog.info? 33).map (·.size) = some 12 := by kernel_rfl
theorem desM : (Tryz.prog.underlying 33).map aggI = some true := by kernel_rfl
theorem ce (B E : Nat) (cm : Array Value) (x k : Int) (w : World) (hm : w.heap[B]? = some (.cells cm 33 (0, 0))) (hcs : cm.size = 12) (he : w.heap[E]? = some (.cells #[.int .i64 x] 37 (0, 0))) (hne : B ≠ E) :
  CallsD Tryz.prog 41 #[.pointer (some ⟨B, 0, none⟩), .pointer (some ⟨E, 0, none⟩)] (.panicking [{ v := .iface 37 (.int .i64 k), recovered := false }]) w fun e u' w' =>
   e = .returned (.tuple #[]) ∧ u' = .panicking [{ v := .iface 37 (.int .i64 k), recovered := true }] ∧ w'.heap[B]? = some (.cells zeroM 33 (0, 0)) ∧ w'.heap[E]? = some (.cells #[.int .i64 k] 37 (0, 0)) ∧ Mod (fun g => g = B ∨ g = E) w w' := by
 refine callsD_of_wpS Tryz.func41 rfl fun c₀ cs hu => ?_
 apply wpS_seq
 apply wpS_region
 simp [wpOpsS, go_sem, recoverD, hu, Tryz.ntmps41, Exit.thenS]
 refine wpS_of_wp ?_
 have hta := assertE
 go_wp2
 have e1 : (#[Value.pointer (some { block := B, off := 0 }), Value.pointer (some { block := E, off := 0 })] ++ ((((Array.replicate 7 undef).setIfInBounds 1 (Value.iface 37 (Value.int IntKind.i64 k))).setIfInBounds 0 (Value.iface 37 (Value.int IntKind.i64 k))).setIfInBounds 2 (Value.iface 37 (Value.int IntKind.i64 k))).setIfInBounds 3 (Value.bool true)) = #[.pointer (some ⟨B, 0, none⟩), .pointer (some ⟨E, 0, none⟩), .iface 37 (.int .i64 k), .iface 37 (.int .i64 k), .iface 37 (.int .i64 k), .bool true, undef, undef, undef] := rfl
 rw [e1]
 refine wp_region_held_drew (S := fun _ => True) (by kernel_rfl) trivial (fun hHeld => ?_)
 refine dv 0 rfl ?_
 refine dv 1 rfl ?_
 refine dv 2 rfl ?_
 refine an 3 rfl (by kernel_rfl) (fun K hK => ?_)
 rw [if_pos]
 case hc => rfl
 refine wp_store_row 33 (.tmp 0) (.tmp 6) rfl B zeroM rfl rfl 33 cm hm sizM hcs (by simp [zeroM, Value.oneCell']) ?_
 refine hK.out _ _ trivial (fun hHeld2 => ?_)
 clear hK K hHeld2
 have h1 : (w.drew.setRow B zeroM).heap[B]? = some (.cells zeroM 33 (0, 0)) := setRow_heap w.drew B cm zeroM _ _ hm
 have h2 : (w.drew.setRow B zeroM).heap[E]? = some (.cells #[.int .i64 x] 37 (0, 0)) := (setRow_other w.drew B E zeroM (fun e => hne e.symm)).trans he
 have h3 : Mod (fun g => g = B ∨ g = E) w (w.drew.setRow B zeroM) := O ((Mod.refl _ w).drew) (fun _ => .inl rfl) _
 generalize w.drew.setRow B zeroM = w2 at h1 h2 h3 ⊢
 have y0 : w2.cell? ⟨E, 0, none⟩ = some (.int .i64 x) := by rw [cell_of_row w2 E 0 _ _ (0, 0) h2]; rfl
 have g0 : w2.frozen? ⟨E, 0, none⟩ = false := frozen_of_row w2 E 0 _ _ h2
 refine an 4 rfl (by kernel_rfl) (fun K hK => ?_)
 rw [if_pos]
 case hc => rfl
 go_simp
 refine hK.out _ _ trivial (fun hHeld2 => ?_)
 clear hK K hHeld2
 refine wpAnyH_done (by kernel_rfl) ?_ _
 have k1 := (heap_setCell_other w2 ⟨E, 0, none⟩ B (.int .i64 k) hne).trans h1
 have k2 := heap_setCell_same w2 E 0 _ _ (.int .i64 k) h2
 have k3 : Mod (fun g => g = B ∨ g = E) w (w2.setCell ⟨E, 0, none⟩ (.int .i64 k)) := Mod.setCell h3 (fun _ => .inr rfl) _
 show bodyPostS _ _ _ _ _ _ _ _ _
 simp [bodyPostS, results, Tryz.results41]
 exact ⟨k1, k2, k3⟩
theorem catch_idle (p q : Addr) (w : World) :
  CallsD Tryz.prog 41 #[.pointer (some p), .pointer (some q)] .returning w fun e u' w' => e = .returned (.tuple #[]) ∧ u' = .returning ∧ w' = w := by
 refine callsD_of_wpS Tryz.func41 rfl fun c₀ cs hu => ?_
 apply wpS_seq
 apply wpS_region
 simp [wpOpsS, go_sem, recoverD, hu, Tryz.ntmps41, Exit.thenS]
 refine wpS_of_wp ?_
 go_wp2
 cases c₀
 simp_all [bodyPostS, results, Tryz.results41]
theorem bL {P : Program} {fn : Func} {p r : Tmp} {ty te : TypeId} (h : fn.results = #[.cell p ty, .cell r te]) (tmps : Array Value) (w : World) (g : Nat) (t : TypeId) (cs : Array Value) (fr : Nat × Nat) (d : TypeDesc)
  (hp : tmps.getD p undef = .pointer (some ⟨g, 0, none⟩)) (hg : w.heap[g]? = some (.cells cs t fr)) (hu : P.underlying ty = some d) (hd : aggI d = true) (hi : (P.info? ty).map (·.size) = some cs.size)
  (y : Value) (a : Addr) (hr : tmps.getD r undef = .pointer (some a)) (hl : (loadVar te a).run P w = .ok y w) :
  (results fn tmps).run P w = .ok (.tuple #[.agg cs, y]) w := by
 have hp' : tmps[p]?.getD undef = .pointer (some ⟨g, 0, none⟩) := by simpa using hp
 have hr' : tmps[r]?.getD undef = .pointer (some a) := by simpa using hr
 simp [results, h, hp', hr', asAddr, run_loadVar_row w g t ty cs fr d hg hu (by cases d <;> first | rfl | cases hd) hi, hl]
def MPost (xs : List Sec.S) (w : World) (e : Ending) (w' : World) : Prop :=
 Below w.heap.size w w' ∧ match decS xs with
  | .error k => ∃ v, e = .returned (.tuple #[v, .int .i64 (k : Int)]) ∧ ModV w' (fun b => w.heap.size ≤ b) M.zero v
  | .ok m => ∃ v, e = .returned (.tuple #[v, .int .i64 0]) ∧ ModV w' (fun b => w.heap.size ≤ b) m v
theorem cJ (w : World) (S : Nat → Prop) : ModV w S M.zero (.agg zeroM) :=
 ⟨_, _, _, _, _, _, _, _, _, _, rfl, ⟨J.nil _ _, J.nil _ _, J.nil _ _, J.nil _ _, J.nil _ _, J.nil _ _, J.nil _ _, by decide, J.nil _ _, J.nil _ _, J.nil _ _⟩⟩
theorem iE (w : World) (S : Nat → Prop) (G : Nat) (h : w.heap[G]? = some (.cells zeroM 33 (0, 0))) : aE w G S (M.of fun _ => M.zero) :=
 ⟨_, _, _, _, _, _, _, _, _, _, h, ⟨J.nil _ _, J.nil _ _, J.nil _ _, J.nil _ _, J.nil _ _, J.nil _ _, J.nil _ _, by decide, J.nil _ _, J.nil _ _, J.nil _ _⟩⟩
theorem aE.row {w : World} {G : Nat} {S : Nat → Prop} {m : M} (h : aE w G S m) : ∃ cs, w.heap[G]? = some (.cells cs 33 (0, 0)) ∧ cs.size = 12 := by
 obtain ⟨_, _, _, _, _, _, _, _, _, _, h1, _⟩ := h
 exact ⟨_, h1, rfl⟩
theorem secR_box {w : World} {B n c : Nat} {A : Option Addr} {b : List UInt8} (hA : Has w B A b) (hB : B ≤ w.heap.size) (h2 : 2 ≤ w.heap.size) (hn : b.length = n) (hlen : n ≤ 65536) (hc : n ≤ c) (hcm : c ≤ maxLen) (h0 : A = none → c = 0) : Rb (w.alloc (.cells #[.slice A n c] 118)) w.heap.size b := by
 subst hn
 exact ⟨A, c, heap_alloc_new w _, (hA.more hB).alloc (Nat.le_refl _) _, hlen, hc, hcm, h0, h2⟩
theorem gG (A : Option Addr) (xs : List Sec.S) (n c : Nat) (w : World) (hX : HasS w w.heap.size A xs) (hn : n = xs.length) (hT : Tb w) (hs : ∀ s ∈ xs, 1 ≤ s.id ∧ s.id ≤ 11 ∧ s.b.length ≤ 65536) (hsz : n ≤ 140737488355328) :
  Calls Tryz.prog 20 #[.slice A n c] w (MPost xs w) := by
 have hmf := makeF
 obtain ⟨D, hu, hd⟩ := desOf desM
 have HU := Y hu
 have HD := Y hd
 have HX := Y hX
 have HT := Y hT
 have HSS := Y hs
 have HN := Y hn
 clear hu hd hX hT hs hn
 have HM0 : Hid (((w.alloc (.cells zeroM 33)).alloc (.cells #[.int .i64 0] 37)).heap[w.heap.size]? = some (.cells zeroM 33 (0, 0))) := Y ((Below.heap_alloc _ _ _ (by simp)).trans (heap_alloc_new w _))
 have HE0 : Hid (((w.alloc (.cells zeroM 33)).alloc (.cells #[.int .i64 0] 37)).heap[w.heap.size + 1]? = some (.cells #[.int .i64 0] 37 (0, 0))) := Y (by have := heap_alloc_new (w.alloc (.cells zeroM 33)) (.cells #[.int .i64 0] 37); simpa using this)
 have HB0 : Hid (Below w.heap.size w ((w.alloc (.cells zeroM 33)).alloc (.cells #[.int .i64 0] 37))) := Y (((Below.refl _ _).alloc (Nat.le_refl _) _).alloc (by simp) _)
 have HS0 : Hid (((w.alloc (.cells zeroM 33)).alloc (.cells #[.int .i64 0] 37)).heap.size = w.heap.size + 2) := Y (by simp)
 go_enter_defers Tryz.func20, Tryz.ntmps20
 go_upto_region 3 with fail
 go_loopw [10] (fun i wr => ∃ (j : Nat) (f : Nat → M) (S : Nat → Prop), j ≤ n ∧ i = .int .i64 (j : Int) ∧ Hid (aE wr w.heap.size S (M.of f)) ∧ Hid (∀ g, S g → w.heap.size + 2 ≤ g ∧ g < wr.heap.size) ∧ Hid (wr.heap[w.heap.size + 1]? = some (.cells #[.int .i64 0] 37 (0, 0))) ∧ Hid (Below w.heap.size w wr) ∧ Hid (w.heap.size + 2 ≤ wr.heap.size) ∧ Hid (secs (fun _ => M.zero) xs = secs f (xs.drop j))) (fun i _ => n - (intOf i).toNat)
 case atStart => exact ⟨0, fun _ => M.zero, fun _ => False, by omega, rfl, Y (iE _ _ _ HM0.out), Y (fun _ h => h.elim), Y HE0.out, Y HB0.out, Y (Nat.le_of_eq HS0.out.symm), Y rfl⟩
 case round =>
  obtain ⟨j, f, S, hj, rfl, HC, HSG, HEZ, HBZ, HSZ, HSE⟩ := hrel
  clear HM0 HE0 HB0 HS0
  by_cases hjn : j < n
  ·obtain ⟨x, hx⟩ : ∃ x, xs[j]? = some x := ⟨_, List.getElem?_eq_getElem (by have := HN.out; omega)⟩
   have hxs := HSS.out x (List.mem_of_getElem? hx)
   obtain ⟨g, o, A', c', rfl, hg, hid, hb1, hb2, hb3, hb4, hb5, hb6⟩ := HX.out j x hx
   have hdr : xs.drop j = x :: xs.drop (j + 1) := by
    obtain ⟨hl, hx2⟩ := List.getElem?_eq_some_iff.1 hx
    rw [← hx2]
    exact List.drop_eq_getElem_cons hl
   have HDR := Y hdr
   have hji : (j : Int) < (n : Int) := by omega
   have z0 := (HBZ.out.cell (p := ⟨g, o + j * 2, none⟩) hg).trans hb5
   have z1 := (HBZ.out.cell (p := ⟨g, o + j * 2 + 1, none⟩) hg).trans hb6
   obtain ⟨id, b⟩ := x
   dsimp only at hxs hb1 hb4 z0 z1 hid
   obtain ⟨m, hm⟩ : ∃ m, b.length = m := ⟨_, rfl⟩
   rw [hm] at hb1 hxs z1
   have HRB : Hid (Rb ((wr.alloc (.cells #[.int .u8 (id : Int), .slice A' m c'] 48)).alloc (.cells #[.slice A' m c'] 118)) (wr.heap.size + 1) b) := Y (by
    have h1 := (hb4.on HBZ.out).on ((Below.refl _ _).alloc (Nat.le_refl _) (.cells #[.int .u8 (id : Int), .slice A' m c'] 48))
    have := secR_box h1 (Nat.le_refl _) (by have := HSZ.out; have := HT.out.2; simp; omega) hm hxs.2.2 hb1 hb2 hb3
    simpa using this)
   have HT2 : Hid (Tb ((wr.alloc (.cells #[.int .u8 (id : Int), .slice A' m c'] 48)).alloc (.cells #[.slice A' m c'] 118))) := Y (((HT.out.on HBZ.out).on ((Below.refl _ _).alloc (Nat.le_refl _) _)).on ((Below.refl _ _).alloc (Nat.le_refl _) _))
   have hmm : Mod (fun _ => False) wr ((wr.alloc (.cells #[.int .u8 (id : Int), .slice A' m c'] 48)).alloc (.cells #[.slice A' m c'] 118)) := ((Mod.refl _ wr).alloc _).alloc _
   have HC2 := Y (HC.out.mod hmm (fun h => h) (fun _ _ _ h => h))
   have HEZ2 := Y (hmm.heap HEZ.out (fun h => h))
   have HB2 := Y (HBZ.out.trans (hmm.below HBZ.out.size (fun _ _ h => h)))
   have HSZ2 : Hid (((wr.alloc (.cells #[.int .u8 (id : Int), .slice A' m c'] 48)).alloc (.cells #[.slice A' m c'] 118)).heap.size = wr.heap.size + 2) := Y (by simp)
   have HSEC := Y (section_any (wr.heap.size + 1) w.heap.size id b f S _ ⟨hxs.1, hxs.2.1⟩ HRB.out HT2.out HC2.out (by have := HSZ.out; omega) (fun g hg => by have := HSG.out g hg; omega))
   have HIB := Y hm
   clear hmm hdr hx hb3 hb4 hb5 hb6 hxs hm hid
   cases hsec : secP id b with
   | error k =>
    have HS := Y (secs_err (f := f) (s := ⟨id, b⟩) (xs := xs.drop (j + 1)) hsec)
    rw [hsec] at HSEC
    have HE : Hid (decS xs = .error k) := Y (by unfold decS; rw [HSE.out, HDR.out, HS.out])
    clear hsec
    go_wp2_with (go_at_call 42; refine HSEC.out.mono ?_; rintro e w3 ⟨rfl, hm⟩)
    have HC3 := HC2.out.mod hm (fun e => by have := HSZ.out; omega) (fun g _ hg e => by have := HSG.out g hg; omega)
    have HEZ := Y (hm.heap HEZ2.out (fun e => by have := HSZ.out; omega))
    have HBZ := Y (HB2.out.trans (hm.below HB2.out.size (fun k hk e => by have := HSZ.out; omega)))
    obtain ⟨cz, hz1, hz2⟩ := HC3.row
    refine leaves_cons (f := 41) (args := #[.pointer (some ⟨w.heap.size, 0, none⟩), .pointer (some ⟨w.heap.size + 1, 0, none⟩)]) (by simp) (by simp [go_sem]) ?_
    refine (ce w.heap.size (w.heap.size + 1) cz 0 _ _ hz1 hz2 HEZ.out (by omega)).mono ?_
    rintro e u' w'' ⟨rfl, rfl, r1, r2, r3⟩
    have hcc := cellsM r2 0 _ rfl
    refine ⟨_, bL (p := 2) (r := 3) (ty := 33) (te := 37) (by kernel_rfl) _ _ w.heap.size 33 zeroM (0, 0) D rfl r1 HU.out HD.out sizM _ ⟨w.heap.size + 1, 0, none⟩ rfl (loadE hcc), HBZ.out.trans (r3.below HBZ.out.size (fun k hk e => by omega)), ?_⟩
    rw [HE.out]
    exact ⟨_, rfl, cJ _ _⟩
   | ok q =>
    obtain ⟨y, q⟩ := q
    rw [hsec] at HSEC
    by_cases hl : (b.drop q).length = 0
    case neg =>
     have HS := Y (secs_more (f := f) (s := ⟨id, b⟩) (xs := xs.drop (j + 1)) hsec hl)
     have HE : Hid (decS xs = .error 60) := Y (by unfold decS; rw [HSE.out, HDR.out, HS.out])
     have HEND := Y (fun W (hW : Rl W (wr.heap.size + 1) (b.drop q).length) => bend_len _ _ W hW)
     simp only [if_neg hl] at HEND
     clear hsec hl
     go_wp2_with (first | (go_at_call 42; refine HSEC.out.mono ?_; rintro e w3 ⟨rfl, hc3, hr3, hm⟩; have HC3 := Y hc3; have HR3 := Y hr3; have HM3 := Y hm; clear hc3 hr3 hm) | (go_at_call 43; refine (HEND.out _ HR3.out).mono ?_; rintro e w4 ⟨rfl, rfl⟩))
     have hm := HM3.out
     have HEZ := Y (hm.heap HEZ2.out (fun e => by have := HSZ.out; omega))
     have HBZ := Y (HB2.out.trans (hm.below HB2.out.size (fun k hk e => by have := HSZ.out; omega)))
     obtain ⟨cz, hz1, hz2⟩ := HC3.out.row
     refine leaves_cons (f := 41) (args := #[.pointer (some ⟨w.heap.size, 0, none⟩), .pointer (some ⟨w.heap.size + 1, 0, none⟩)]) (by simp) (by simp [go_sem]) ?_
     refine (ce w.heap.size (w.heap.size + 1) cz 0 _ _ hz1 hz2 HEZ.out (by omega)).mono ?_
     rintro e u' w'' ⟨rfl, rfl, r1, r2, r3⟩
     have hcc := cellsM r2 0 _ rfl
     refine ⟨_, bL (p := 2) (r := 3) (ty := 33) (te := 37) (by kernel_rfl) _ _ w.heap.size 33 zeroM (0, 0) D rfl r1 HU.out HD.out sizM _ ⟨w.heap.size + 1, 0, none⟩ rfl (loadE hcc), HBZ.out.trans (r3.below HBZ.out.size (fun k hk e => by omega)), ?_⟩
     rw [HE.out]
     exact ⟨_, rfl, cJ _ _⟩
    case pos =>
     have HS := Y (secs_go (f := f) (s := ⟨id, b⟩) (xs := xs.drop (j + 1)) hsec hl)
     have HEND := Y (fun W (hW : Rl W (wr.heap.size + 1) (b.drop q).length) => bend_len _ _ W hW)
     simp only [if_pos hl] at HEND
     clear hsec hl
     go_wp2_with (first | (go_at_call 42; refine HSEC.out.mono ?_; rintro e w3 ⟨rfl, hc3, hr3, hm⟩; have HC3 := Y hc3; have HR3 := Y hr3; have HM3 := Y hm; clear hc3 hr3 hm) | (go_at_call 43; refine (HEND.out _ HR3.out).mono ?_; rintro e w4 ⟨rfl, rfl⟩))
     go_roundw
     case rel =>
      have hm := HM3.out
      have hs3 := hm.size
      rw [HSZ2.out] at hs3
      refine ⟨j + 1, upd f id y, fun g => (S g ∨ wr.heap.size + 2 ≤ g) ∧ g < w4.heap.size, by omega, by go_num, Y (HC3.out.more (fun g hg h => ⟨h.imp (fun h => h) (fun h => by rw [HSZ2.out] at h; exact h), hg⟩)), Y (fun g hg => ⟨?_, hg.2⟩), Y (hm.heap HEZ2.out (fun e => by have := HSZ.out; omega)), Y (HB2.out.trans (hm.below HB2.out.size (fun k hk e => by have := HSZ.out; omega))), Y (by have := HSZ.out; omega), Y (by rw [HSE.out, HDR.out, HS.out])⟩
      rcases hg.1 with h | h
      ·exact (HSG.out g h).1
      ·have := HSZ.out; omega
     case measure => simp [intOf]; omega
  ·obtain rfl : n = j := by omega
   have hnil : xs.drop n = [] := List.drop_of_length_le (by have := HN.out; omega)
   have HDEC : Hid (decS xs = if (f 10).codes.length = (f 3).funcs.length then .ok (M.of f) else .error 60) := Y (by unfold decS; rw [HSE.out, hnil]; rfl)
   obtain ⟨v1, v2, v3, v4, v5, v6, v7, v8, v9, v10, hrow, hrep⟩ := HC.out
   have hcs := hrep.codes
   have hfs := hrep.funcs
   obtain ⟨Ac, cc, rfl, _⟩ := hcs
   obtain ⟨Af, cf, rfl, _⟩ := hfs
   have HREP := Y hrep
   have y10 : wr.cell? ⟨w.heap.size, 10, none⟩ = some (.slice Ac (f 10).codes.length cc) := cellsM hrow 10 _ rfl
   have y2 : wr.cell? ⟨w.heap.size, 2, none⟩ = some (.slice Af (f 3).funcs.length cf) := cellsM hrow 2 _ rfl
   have HROW := Y hrow
   clear hnil hrep hrow
   by_cases hcf : (f 10).codes.length = (f 3).funcs.length
   case neg =>
    have HE : Hid (decS xs = .error 60) := Y (by rw [HDEC.out, if_neg hcf])
    have hne : (((f 10).codes.length : Int) == ((f 3).funcs.length : Int)) = false := by rw [beq_eq_false_iff_ne]; omega
    clear hcf HDEC
    generalize (f 10).codes.length = a at y10 hne
    generalize (f 3).funcs.length = b at y2 hne
    go_wp2_with fail
    obtain ⟨cz, hz1, hz2⟩ := HC.out.row
    refine leaves_cons (f := 41) (args := #[.pointer (some ⟨w.heap.size, 0, none⟩), .pointer (some ⟨w.heap.size + 1, 0, none⟩)]) (by simp) (by simp [go_sem]) ?_
    refine (ce w.heap.size (w.heap.size + 1) cz 0 _ _ hz1 hz2 HEZ.out (by omega)).mono ?_
    rintro e u' w'' ⟨rfl, rfl, r1, r2, r3⟩
    have hcc := cellsM r2 0 _ rfl
    refine ⟨_, bL (p := 2) (r := 3) (ty := 33) (te := 37) (by kernel_rfl) _ _ w.heap.size 33 zeroM (0, 0) D rfl r1 HU.out HD.out sizM _ ⟨w.heap.size + 1, 0, none⟩ rfl (loadE hcc), HBZ.out.trans (r3.below HBZ.out.size (fun k hk e => by omega)), ?_⟩
    rw [HE.out]
    exact ⟨_, rfl, cJ _ _⟩
   case pos =>
    have HE : Hid (decS xs = .ok (M.of f)) := Y (by rw [HDEC.out, if_pos hcf])
    rw [← hcf] at y2
    clear HDEC
    have k0 : wr.cell? ⟨w.heap.size, 0, none⟩ = some v1 := cellsM HROW.out 0 _ rfl
    have k1 : wr.cell? ⟨w.heap.size, 1, none⟩ = some v2 := cellsM HROW.out 1 _ rfl
    have k3 : wr.cell? ⟨w.heap.size, 3, none⟩ = some v4 := cellsM HROW.out 3 _ rfl
    have k4 : wr.cell? ⟨w.heap.size, 4, none⟩ = some v5 := cellsM HROW.out 4 _ rfl
    have k5 : wr.cell? ⟨w.heap.size, 5, none⟩ = some v6 := cellsM HROW.out 5 _ rfl
    have k6 : wr.cell? ⟨w.heap.size, 6, none⟩ = some v7 := cellsM HROW.out 6 _ rfl
    have k7 : wr.cell? ⟨w.heap.size, 7, none⟩ = some (.bool (f 8).hasStart) := cellsM HROW.out 7 _ rfl
    have k8 : wr.cell? ⟨w.heap.size, 8, none⟩ = some (.int .u32 ((f 8).start : Int)) := cellsM HROW.out 8 _ rfl
    have k9 : wr.cell? ⟨w.heap.size, 9, none⟩ = some v8 := cellsM HROW.out 9 _ rfl
    have k11 : wr.cell? ⟨w.heap.size, 11, none⟩ = some v10 := cellsM HROW.out 11 _ rfl
    have hrow2 : wr.heap[w.heap.size]? = some (.cells #[v1, v2, .slice Af (f 10).codes.length cf, v4, v5, v6, v7, .bool (f 8).hasStart, .int .u32 ((f 8).start : Int), v8, .slice Ac (f 10).codes.length cc, v10] 33 (0, 0)) := by
     have := HROW.out
     rw [show (M.of f).funcs.length = (f 10).codes.length from hcf.symm] at this
     exact this
    have hone : (#[v1, v2, .slice Af (f 10).codes.length cf, v4, v5, v6, v7, .bool (f 8).hasStart, .int .u32 ((f 8).start : Int), v8, .slice Ac (f 10).codes.length cc, v10] : Array Value).all (·.oneCell') = true := by
     have h := HREP.out
     obtain ⟨_, _, rfl, _⟩ := h.types
     obtain ⟨_, _, rfl, _⟩ := h.imports
     obtain ⟨_, _, rfl, _⟩ := h.tables
     obtain ⟨_, _, rfl, _⟩ := h.mems
     obtain ⟨_, _, rfl, _⟩ := h.globals
     obtain ⟨_, _, rfl, _⟩ := h.exports
     obtain ⟨_, _, rfl, _⟩ := h.elems
     obtain ⟨_, _, rfl, _⟩ := h.datas
     simp [Value.oneCell']
    have hval : ∀ W, RepM W (fun b => w.heap.size ≤ b) (M.of f) v1 v2 (.slice Af (M.of f).funcs.length cf) v4 v5 v6 v7 v8 (.slice Ac (M.of f).codes.length cc) v10 → ModV W (fun b => w.heap.size ≤ b) (M.of f) (.agg #[v1, v2, .slice Af (f 10).codes.length cf, v4, v5, v6, v7, .bool (f 8).hasStart, .int .u32 ((f 8).start : Int), v8, .slice Ac (f 10).codes.length cc, v10]) := fun W h => by
     refine ⟨_, _, _, _, _, _, _, _, _, _, ?_, h⟩
     show Value.agg #[v1, v2, .slice Af (f 10).codes.length cf, v4, v5, v6, v7, .bool (f 8).hasStart, .int .u32 ((f 8).start : Int), v8, .slice Ac (f 10).codes.length cc, v10] = Value.agg #[v1, v2, .slice Af (f 3).funcs.length cf, v4, v5, v6, v7, .bool (f 8).hasStart, .int .u32 ((f 8).start : Int), v8, .slice Ac (f 10).codes.length cc, v10]
     rw [hcf]
    have HVAL := Y hval
    have HR2 := Y hrow2
    have HONE := Y hone
    clear hone hrow2 hval hcf
    generalize (f 10).codes.length = a at HVAL HR2 HONE y2 y10
    generalize (f 8).hasStart = b at HVAL HR2 HONE k7
    generalize (f 8).start = b2 at HVAL HR2 HONE k8
    have e0 : (wr.setRow w.heap.size #[v1, v2, .slice Af a cf, v4, v5, v6, v7, .bool b, .int .u32 (b2 : Int), v8, .slice Ac a cc, v10]).cell? ⟨w.heap.size + 1, 0, none⟩ = some (.int .i64 0) := by
     rw [cell_of_row _ (w.heap.size + 1) 0 _ _ (0, 0) ((setRow_other wr w.heap.size (w.heap.size + 1) _ (by omega)).trans HEZ.out)]; rfl
    have ef : (wr.setRow w.heap.size #[v1, v2, .slice Af a cf, v4, v5, v6, v7, .bool b, .int .u32 (b2 : Int), v8, .slice Ac a cc, v10]).frozen? ⟨w.heap.size + 1, 0, none⟩ = false := frozen_of_row _ (w.heap.size + 1) 0 _ _ ((setRow_other wr w.heap.size (w.heap.size + 1) _ (by omega)).trans HEZ.out)
    go_wp2_with (refine ac rfl 33 (.tmp 2) (.tmp 33) rfl rfl w.heap.size #[v1, v2, .slice Af a cf, v4, v5, v6, v7, .bool b, .int .u32 (b2 : Int), v8, .slice Ac a cc, v10] rfl rfl 33 #[v1, v2, .slice Af a cf, v4, v5, v6, v7, .bool b, .int .u32 (b2 : Int), v8, .slice Ac a cc, v10] HR2.out sizM rfl HONE.out ?_)
    have m1 : Mod (· = w.heap.size) wr (wr.setRow w.heap.size #[v1, v2, .slice Af a cf, v4, v5, v6, v7, .bool b, .int .u32 (b2 : Int), v8, .slice Ac a cc, v10]) := O (T := (· = w.heap.size)) (Mod.refl _ wr) (fun _ => rfl) _
    have m2 : Mod (fun g => g = w.heap.size ∨ g = w.heap.size + 1) wr ((wr.setRow w.heap.size #[v1, v2, .slice Af a cf, v4, v5, v6, v7, .bool b, .int .u32 (b2 : Int), v8, .slice Ac a cc, v10]).setCell ⟨w.heap.size + 1, 0, none⟩ (.int .i64 0)) := Mod.setCell (m1.more (fun _ _ h => .inl h)) (fun _ => .inr rfl) _
    have r1 : ((wr.setRow w.heap.size #[v1, v2, .slice Af a cf, v4, v5, v6, v7, .bool b, .int .u32 (b2 : Int), v8, .slice Ac a cc, v10]).setCell ⟨w.heap.size + 1, 0, none⟩ (.int .i64 0)).heap[w.heap.size]? = some (.cells #[v1, v2, .slice Af a cf, v4, v5, v6, v7, .bool b, .int .u32 (b2 : Int), v8, .slice Ac a cc, v10] 33 (0, 0)) := (heap_setCell_other _ ⟨w.heap.size + 1, 0, none⟩ w.heap.size _ (by show ¬ w.heap.size = w.heap.size + 1; omega)).trans (setRow_heap wr w.heap.size _ _ _ _ HR2.out)
    have r2 : ((wr.setRow w.heap.size #[v1, v2, .slice Af a cf, v4, v5, v6, v7, .bool b, .int .u32 (b2 : Int), v8, .slice Ac a cc, v10]).setCell ⟨w.heap.size + 1, 0, none⟩ (.int .i64 0)).cell? ⟨w.heap.size + 1, 0, none⟩ = some (.int .i64 0) := World.cell?_setCell_same _ _ _ e0
    have hrep5 := (HREP.out.mod m2 (fun g _ hg e => by have := HSG.out g hg; omega)).more (S' := fun b => w.heap.size ≤ b) (fun g _ hg => by have := HSG.out g hg; omega)
    have hb5 := HBZ.out.trans (m2.below HBZ.out.size (fun k hk e => by omega))
    generalize (wr.setRow w.heap.size #[v1, v2, .slice Af a cf, v4, v5, v6, v7, .bool b, .int .u32 (b2 : Int), v8, .slice Ac a cc, v10]).setCell ⟨w.heap.size + 1, 0, none⟩ (.int .i64 0) = w5 at r1 r2 hrep5 hb5 ⊢
    refine leaves_cons (f := 41) (args := #[.pointer (some ⟨w.heap.size, 0, none⟩), .pointer (some ⟨w.heap.size + 1, 0, none⟩)]) (by simp) (by simp [go_sem]) ?_
    refine (catch_idle ⟨w.heap.size, 0, none⟩ ⟨w.heap.size + 1, 0, none⟩ _).mono ?_
    rintro e u' w'' ⟨rfl, rfl, rfl⟩
    refine ⟨_, bL (p := 2) (r := 3) (ty := 33) (te := 37) (by kernel_rfl) _ _ w.heap.size 33 _ (0, 0) D rfl r1 HU.out HD.out sizM _ ⟨w.heap.size + 1, 0, none⟩ rfl (loadE r2), hb5, ?_⟩
    rw [HE.out]
    exact ⟨_, rfl, HVAL.out _ hrep5⟩
end Go.Proofs.YthkglmkpnhhboaaGreatDoor
