/-
  Layer 11's program: the shape, globals, elements, data: asked one by one. (gen/valid/step2.py)
-/
import Derived.Test.YtelcdmkbaegjoaaGreatTq01
import Derived.Test.YtelcdmkbaegjoaaGreatTq48
import Derived.Test.YtelcdmkbaegjoaaGreatTq46
import Derived.Maps.OwnSet
set_option maxRecDepth 100000
set_option maxHeartbeats 4000000
namespace Va
open Bin Sp Ins
def kindB {α : Type} (f : α → UInt8) (xs : List α) : Bool := xs.all fun x => decide ((f x).toNat < 4)
theorem kindB_take {α : Type} {f : α → UInt8} {xs : List α} {j : Nat} {x : α} (h : xs[j]? = some x) : kindB f (xs.take (j + 1)) = (kindB f (xs.take j) && decide ((f x).toNat < 4)) := by
 unfold kindB
 rw [List.take_add_one, h, List.all_append]
 simp
end Va
namespace Go.Proofs.YtelcdmkbaegjoaaGreat
open Go.RowKit Ins Bin Sp
section
variable {w : World} {P sp mp : Nat} {m : M} {v1 v2 v3 v4 v5 v6 v7 v8 v9 v10 hv : Value}
theorem sl_has {α : Type} [Lay α] {w : World} {S : Nat → Prop} {xs : List α} {A : Option Addr} {n c : Nat} (h : ab w S xs (.slice A n c)) : HasL w S A xs := by
 obtain ⟨A', c', e, _, _, _, h⟩ := h
 injection e with e1 _ _
 rw [e1]
 exact h
theorem aH {w : World} {X : Nat} {a b c : Value} {t : TypeId} (h : w.heap[X]? = some (.cells #[a, b, c] t (0, 0))) : w.cell? ⟨X, 0, none⟩ = some a ∧ w.cell? ⟨X, 1, none⟩ = some b ∧ w.cell? ⟨X, 2, none⟩ = some c :=
 ⟨cell15 h 0 _ rfl, cell15 h 1 _ rfl, cell15 h 2 _ rfl⟩
theorem vshape_any (h : VIn w P sp mp m v1 v2 v3 v4 v5 v6 v7 v8 v9 v10 hv) (i : Nat)  :
  Calls Tryz.prog 19 #[.pointer (some ⟨P, 0, none⟩), .int .i64 (i : Int)] w fun e w' => e = .returned (.int .i64 ((Va.shapeE m : Nat) : Int)) ∧ Below w.heap.size w w' := by
 have h1 := h.fit.lots.imports
 have h2 := h.fit.lots.exports
 have h3 := h.fit.lots.funcs
 have h4 := h.fit.codes.1
 have H6 : Hid (∀ W, Below w.heap.size w W → W.cell? ⟨P, 6, none⟩ = some v7) := J (fun W hb => cell15 (h.grow hb).cells 6 _ rfl)
 obtain ⟨A1, c1, rfl, _, _, _, hL1⟩ := h.rep.imports
 obtain ⟨A2, c2, rfl, _, _, _, hL2⟩ := h.rep.exports
 obtain ⟨A3, c3, rfl, _⟩ := h.rep.funcs
 obtain ⟨A4, c4, rfl, _⟩ := h.rep.codes
 have HL1 := J hL1
 have HL2 := J hL2
 have x1 := cell15 h.cells 1 _ rfl
 have x2 := cell15 h.cells 2 _ rfl
 have x10 := cell15 h.cells 10 _ rfl
 have HT : Hid (Va.shapeE m = Va.okE ((m.codes.length == m.funcs.length && Va.kindB Imp.kind m.imports) && Va.kindB Exp.kind m.exports) 2) := J rfl
 clear h hL1 hL2
 obtain ⟨n1, e1⟩ : ∃ n, m.imports.length = n := ⟨_, rfl⟩
 obtain ⟨n2, e2⟩ : ∃ n, m.exports.length = n := ⟨_, rfl⟩
 obtain ⟨n3, e3⟩ : ∃ n, m.funcs.length = n := ⟨_, rfl⟩
 obtain ⟨n4, e4⟩ : ∃ n, m.codes.length = n := ⟨_, rfl⟩
 have HN1 := J e1
 have HN2 := J e2
 rw [e1] at x1 h1
 rw [e2] at H6 h2
 rw [e3] at x2 h3 HT
 rw [e4] at x10 h4 HT
 clear e1 e2 e3 e4
 have HB0 : Hid (Below w.heap.size w w.drew) := J (Below.drew (Below.refl _ _))
 obtain ⟨b0, hb0⟩ : ∃ b, (n4 == n3) = b := ⟨_, rfl⟩
 have hbi : ((n4 : Int) == (n3 : Int)) = b0 := by
  rw [← hb0, Bool.eq_iff_iff, beq_iff_eq, beq_iff_eq]
  omega
 rw [hb0] at HT
 clear hb0
 go_enter Tryz.func19, Tryz.ntmps19
 go_upto_region 1 with fail
 refine wp_region_held_drew (S := fun W' => w.drew = W') (by kernel_rfl) (rfl) (fun hHeld => ?_)
 refine dt 0 rfl (v := ?_) ?_ ?_
 rotate_left
 ·(intro wy hSw; obtain rfl := hSw; go_simp; try with_reducible rfl)
 simp only [Act.put, O]
 refine dt 1 rfl (v := ?_) ?_ ?_
 rotate_left
 ·(intro wy hSw; obtain rfl := hSw; go_simp; try with_reducible rfl)
 simp only [Act.put, O]
 refine dt 2 rfl (v := ?_) ?_ ?_
 rotate_left
 ·(intro wy hSw; obtain rfl := hSw; go_simp; try with_reducible rfl)
 simp only [Act.put, O]
 refine dt 3 rfl (v := ?_) ?_ ?_
 rotate_left
 ·(intro wy hSw; obtain rfl := hSw; go_simp; try with_reducible rfl)
 simp only [Act.put, O]
 refine dt 4 rfl (v := ?_) ?_ ?_
 rotate_left
 ·(intro wy hSw; obtain rfl := hSw; go_simp; try with_reducible rfl)
 simp only [Act.put, O]
 refine dt 5 rfl (v := ?_) ?_ ?_
 rotate_left
 ·(intro wy hSw; obtain rfl := hSw; go_simp; try with_reducible rfl)
 simp only [Act.put, O]
 refine dt 6 rfl (v := ?_) ?_ ?_
 rotate_left
 ·(intro wy hSw; obtain rfl := hSw; go_simp; try with_reducible rfl)
 simp only [Act.put, O]
 refine dt 7 rfl (v := ?_) ?_ ?_
 rotate_left
 ·(intro wy hSw; obtain rfl := hSw; go_simp; try with_reducible rfl)
 simp only [Act.put, O]
 refine dt 8 rfl (v := ?_) ?_ ?_
 rotate_left
 ·(intro wy hSw; obtain rfl := hSw; go_simp; try with_reducible rfl)
 simp only [Act.put, O]
 refine dt 9 rfl (v := ?_) ?_ ?_
 rotate_left
 ·(intro wy hSw; obtain rfl := hSw; go_simp; try with_reducible rfl)
 simp only [Act.put, O]
 refine dt 10 rfl (v := ?_) ?_ ?_
 rotate_left
 ·(intro wy hSw; obtain rfl := hSw; go_simp; try with_reducible rfl)
 simp only [Act.put, O]
 refine dt 11 rfl (v := ?_) ?_ ?_
 rotate_left
 ·(intro wy hSw; obtain rfl := hSw; go_simp; try with_reducible rfl)
 simp only [Act.put, O]
 refine dt 12 rfl (v := ?_) ?_ ?_
 rotate_left
 ·(intro wy hSw; obtain rfl := hSw; go_simp; try with_reducible rfl)
 simp only [Act.put, O]
 refine dt 13 rfl (v := ?_) ?_ ?_
 rotate_left
 ·(intro wy hSw; obtain rfl := hSw; go_simp; try with_reducible rfl)
 simp only [Act.put, O]
 refine wpAnyH_done (by kernel_rfl) ?_ _
 go_wp2_with fail
 go_loopw [5, 29] (fun okv iv wr => ∃ j : Nat, j ≤ n1 ∧ iv = .int .i64 (j : Int) ∧ okv = .bool (b0 && Va.kindB Imp.kind (m.imports.take j)) ∧ Hid (Below w.heap.size w wr)) (fun _ iv _ => n1 - (intOf iv).toNat)
 case atStart => exact ⟨0, Nat.zero_le _, rfl, by congr 1; simp [Va.kindB], HB0⟩
 case round =>
  obtain ⟨j, hj, rfl, rfl, HBW⟩ := hrel
  by_cases hjn : j < n1
  ·obtain ⟨x, hx⟩ : ∃ x, m.imports[j]? = some x := ⟨_, List.getElem?_eq_getElem (by have := HN1.out; omega)⟩
   have hji : (j : Int) < (n1 : Int) := by omega
   have HST := J (Va.kindB_take (f := Imp.kind) hx)
   obtain ⟨g, o, rfl, hg, _, _, _, hcs⟩ := cV HL1.out hx
   have HCC := J (fun (z : Nat) (u : Value) (h : (impCells x)[z]? = some u) => (HBW.out.cell (p := ⟨g, o + j * 8 + z, none⟩) hg).trans (hcs z u h))
   have k0 : wr.cell? ⟨g, o + j * 8, none⟩ = some (strV x.mod) := HCC.out 0 _ rfl
   have k1 : wr.cell? ⟨g, o + j * 8 + 1, none⟩ = some (strV x.name) := HCC.out 1 _ rfl
   have k2 : wr.cell? ⟨g, o + j * 8 + 2, none⟩ = some (.int .u8 (x.kind.toNat : Int)) := HCC.out 2 _ rfl
   have k3 : wr.cell? ⟨g, o + j * 8 + 3, none⟩ = some (.int .u32 (x.type : Int)) := HCC.out 3 _ rfl
   have k4 : wr.cell? ⟨g, o + j * 8 + 4, none⟩ = some (.int .u32 (x.lim.min : Int)) := HCC.out 4 _ rfl
   have k5 : wr.cell? ⟨g, o + j * 8 + 5, none⟩ = some (.int .i64 x.lim.max) := HCC.out 5 _ rfl
   have k6 : wr.cell? ⟨g, o + j * 8 + 6, none⟩ = some (.int .u8 (x.glob.t.toNat : Int)) := HCC.out 6 _ rfl
   have k7 : wr.cell? ⟨g, o + j * 8 + 7, none⟩ = some (.bool x.glob.mu) := HCC.out 7 _ rfl
   clear HCC hcs
   unfold strV at k0 k1
   clear hx
   obtain ⟨kb, hkb⟩ : ∃ b, (b0 && Va.kindB Imp.kind (m.imports.take j)) = b := ⟨_, rfl⟩
   have HKB := J hkb
   simp only [hkb]
   clear hkb
   generalize hkd : x.kind.toNat = kd at k2
   have HKD := J hkd
   clear hkd
   have HB2 := J (HBW.out.alloc HBW.out.size (.cells #[.string ⟨x.mod.toArray⟩, .string ⟨x.name.toArray⟩, .int .u8 (kd : Int), .int .u32 (x.type : Int), .int .u32 (x.lim.min : Int), .int .i64 x.lim.max, .int .u8 (x.glob.t.toNat : Int), .bool x.glob.mu] 78))
   by_cases hk : kd ≤ 3
   ·have hki : (kd : Int) ≤ 3 := by omega
    have hkb2 : decide ((kd : Int) ≤ 3) = true := decide_eq_true hki
    have HNX : Hid ((b0 && Va.kindB Imp.kind (m.imports.take (j + 1))) = kb) := J (by rw [HST.out, ← Bool.and_assoc, HKB.out, HKD.out, decide_eq_true (by omega), Bool.and_true])
    cases kb with
    | true =>
     go_wp2_with fail
     go_roundw
     case rel => exact ⟨j + 1, by omega, by go_num, by rw [HNX.out], HB2⟩
     case measure => simp [intOf]; omega
    | false =>
     go_wp2_with fail
     go_roundw
     case rel => exact ⟨j + 1, by omega, by go_num, by rw [HNX.out], HB2⟩
     case measure => simp [intOf]; omega
   ·have hki : decide ((kd : Int) ≤ 3) = false := decide_eq_false (by omega)
    have HNX : Hid ((b0 && Va.kindB Imp.kind (m.imports.take (j + 1))) = false) := J (by rw [HST.out, ← Bool.and_assoc, HKB.out, HKD.out, decide_eq_false (by omega), Bool.and_false])
    cases kb with
    | true =>
     go_wp2_with fail
     go_roundw
     case rel => exact ⟨j + 1, by omega, by go_num, by rw [HNX.out], HB2⟩
     case measure => simp [intOf]; omega
    | false =>
     go_wp2_with fail
     go_roundw
     case rel => exact ⟨j + 1, by omega, by go_num, by rw [HNX.out], HB2⟩
     case measure => simp [intOf]; omega
  ·have hji : decide ((j : Int) < (n1 : Int)) = false := decide_eq_false (by omega)
   have hjn2 : decide (j < n1) = false := decide_eq_false hjn
   have HAL : Hid (m.imports.take j = m.imports) := J (List.take_of_length_le (by have := HN1.out; omega))
   rw [HAL.out]
   have HT1 : Hid (Va.shapeE m = Va.okE ((b0 && Va.kindB Imp.kind m.imports) && Va.kindB Exp.kind m.exports) 2) := HT
   have HBX := HBW
   have x6 := H6.out _ HBW.out
   generalize (b0 && Va.kindB Imp.kind m.imports) = b1 at HT1
   clear HAL HT
   go_wp2_with fail
   have HB1 := HBX
   clear HBX HBW x6 hji hjn2 hjn hj
   go_loopw [5, 46] (fun okv iv wr => ∃ j : Nat, j ≤ n2 ∧ iv = .int .i64 (j : Int) ∧ okv = .bool (b1 && Va.kindB Exp.kind (m.exports.take j)) ∧ Hid (Below w.heap.size w wr)) (fun _ iv _ => n2 - (intOf iv).toNat)
   case atStart => exact ⟨0, Nat.zero_le _, rfl, by congr 1; simp [Va.kindB], HB1⟩
   case round =>
    obtain ⟨j, hj, rfl, rfl, HBW⟩ := hrel
    by_cases hjn : j < n2
    ·obtain ⟨x, hx⟩ : ∃ x, m.exports[j]? = some x := ⟨_, List.getElem?_eq_getElem (by have := HN2.out; omega)⟩
     have hji : (j : Int) < (n2 : Int) := by omega
     have HST := J (Va.kindB_take (f := Exp.kind) hx)
     obtain ⟨g, o, cs, rfl, _, hg, ⟨rfl, _⟩, hcs⟩ := HL2.out j x hx
     have HCC := J (fun (z : Nat) (u : Value) (h : ([strV x.name, .int .u8 (x.kind.toNat : Int), .int .u32 (x.index : Int)] : List Value)[z]? = some u) => (HBW.out.cell (p := ⟨g, o + j * 3 + z, none⟩) hg).trans (hcs z u h))
     have k0 : wr.cell? ⟨g, o + j * 3, none⟩ = some (strV x.name) := HCC.out 0 _ rfl
     have k1 : wr.cell? ⟨g, o + j * 3 + 1, none⟩ = some (.int .u8 (x.kind.toNat : Int)) := HCC.out 1 _ rfl
     have k2 : wr.cell? ⟨g, o + j * 3 + 2, none⟩ = some (.int .u32 (x.index : Int)) := HCC.out 2 _ rfl
     clear HCC hcs
     unfold strV at k0
     clear hx
     obtain ⟨kb, hkb⟩ : ∃ b, (b1 && Va.kindB Exp.kind (m.exports.take j)) = b := ⟨_, rfl⟩
     have HKB := J hkb
     simp only [hkb]
     clear hkb
     generalize hkd : x.kind.toNat = kd at k1
     have HKD := J hkd
     clear hkd
     have HB2 := J (HBW.out.alloc HBW.out.size (.cells #[.string ⟨x.name.toArray⟩, .int .u8 (kd : Int), .int .u32 (x.index : Int)] 61))
     by_cases hk : kd ≤ 3
     ·have hki : (kd : Int) ≤ 3 := by omega
      have hkb2 : decide ((kd : Int) ≤ 3) = true := decide_eq_true hki
      have HNX : Hid ((b1 && Va.kindB Exp.kind (m.exports.take (j + 1))) = kb) := J (by rw [HST.out, ← Bool.and_assoc, HKB.out, HKD.out, decide_eq_true (by omega), Bool.and_true])
      cases kb with
      | true =>
       go_wp2_with fail
       go_roundw
       case rel => exact ⟨j + 1, by omega, by go_num, by rw [HNX.out], HB2⟩
       case measure => simp [intOf]; omega
      | false =>
       go_wp2_with fail
       go_roundw
       case rel => exact ⟨j + 1, by omega, by go_num, by rw [HNX.out], HB2⟩
       case measure => simp [intOf]; omega
     ·have hki : decide ((kd : Int) ≤ 3) = false := decide_eq_false (by omega)
      have HNX : Hid ((b1 && Va.kindB Exp.kind (m.exports.take (j + 1))) = false) := J (by rw [HST.out, ← Bool.and_assoc, HKB.out, HKD.out, decide_eq_false (by omega), Bool.and_false])
      cases kb with
      | true =>
       go_wp2_with fail
       go_roundw
       case rel => exact ⟨j + 1, by omega, by go_num, by rw [HNX.out], HB2⟩
       case measure => simp [intOf]; omega
      | false =>
       go_wp2_with fail
       go_roundw
       case rel => exact ⟨j + 1, by omega, by go_num, by rw [HNX.out], HB2⟩
       case measure => simp [intOf]; omega
    ·have hji : decide ((j : Int) < (n2 : Int)) = false := decide_eq_false (by omega)
     have hjn2 : decide (j < n2) = false := decide_eq_false hjn
     have HAL : Hid (m.exports.take j = m.exports) := J (List.take_of_length_le (by have := HN2.out; omega))
     rw [HAL.out]
     have HTT : Hid (Va.shapeE m = Va.okE (b1 && Va.kindB Exp.kind m.exports) 2) := HT1
     go_wp2_with (go_at_call 53; refine (ak _ 2 2 _ rfl).mono ?_; rintro e w2 ⟨rfl, rfl⟩)
     go_ret
     rw [HTT.out]
     exact ⟨rfl, HBW.out⟩
theorem vglobal_any (h : VIn w P sp mp m v1 v2 v3 v4 v5 v6 v7 v8 v9 v10 hv) (i : Nat) (x : GV) (hx : m.globals[i]? = some x) :
  Calls Tryz.prog 26 #[.pointer (some ⟨P, 0, none⟩), .int .i64 (i : Int)] w fun e w' => e = .returned (.int .i64 ((Va.globE m x : Nat) : Int)) ∧ Below w.heap.size w w' := by
 have hl := h.fit.lots.globals
 have hi := (List.getElem?_eq_some_iff.1 hx).1
 obtain ⟨A, c, rfl, hc, _, _, hL⟩ := h.rep.globals
 have x5 := cell15 h.cells 5 _ rfl
 obtain ⟨g, o, cs, rfl, _, hg, ⟨u, rfl, hu⟩, hcs⟩ := hL i x hx
 obtain ⟨tn, htn⟩ : ∃ n, x.type.t.toNat = n := ⟨_, rfl⟩
 have HW := J (fun (W : World) => dJ x.type.t tn htn W)
 have HC := J (fun W (hb : Below w.heap.size w W) => cD (h.grow hb) x.init u (hu.grow hb) x.type.t tn htn)
 have k0 : w.cell? ⟨g, o + i * 3, none⟩ = some (.int .u8 (x.type.t.toNat : Int)) := hcs 0 _ rfl
 have k1 : w.cell? ⟨g, o + i * 3 + 1, none⟩ = some (.bool x.type.mu) := hcs 1 _ rfl
 have k2 : w.cell? ⟨g, o + i * 3 + 2, none⟩ = some u := hcs 2 _ rfl
 rw [htn] at k0
 obtain ⟨Au, cu, rfl, _⟩ := id hu
 have HT : Hid (Va.globE m x = if (x.type.t == 127 || x.type.t == 126) = true then Va.constE m x.init x.type.t else 100) := J rfl
 clear h hL hx hcs hu htn
 generalize Va.constE m x.init x.type.t = r0 at HC HT
 generalize (x.type.t == 127 || x.type.t == 126) = b3 at HW HT
 generalize x.type.mu = gm at *
 generalize x.init.length = nu at *
 obtain ⟨n, e⟩ : ∃ n, m.globals.length = n := ⟨_, rfl⟩
 rw [e] at x5 hi hl hc
 clear e
 have hii : (i : Int) < (n : Int) := by omega
 have HB0 : Hid (Below w.heap.size w (w.alloc (.cells #[.int .u8 (tn : Int), .bool gm, .slice Au nu cu] 81))) := J ((Below.refl _ _).alloc (Nat.le_refl _) _)
 have HZ := J (heap_alloc_new w (.cells #[.int .u8 (tn : Int), .bool gm, .slice Au nu cu] 81))
 go_enter Tryz.func26, Tryz.ntmps26
 go_upto_region 2 with fail
 generalize w.alloc (.cells #[.int .u8 (tn : Int), .bool gm, .slice Au nu cu] 81) = w0 at HB0 HZ ⊢
 obtain ⟨z0, z1, z2⟩ := aH HZ.out
 have HZC := J (fun W (hb : Below w0.heap.size w0 W) => aH ((hb.block _ (Array.getElem?_eq_some_iff.1 HZ.out).1).trans HZ.out))
 have HB1 : Hid (Below w0.heap.size w0 (w0.alloc (.cells #[.int .u8 (tn : Int)] 5))) := J ((Below.refl _ _).alloc (Nat.le_refl _) _)
 have HB2 := J (HB0.out.trans (HB1.out.mono HB0.out.size))
 cases b3 with
 | true =>
  rw [if_pos rfl] at HT
  go_wp2_with (first | (go_at_call 54; refine (HW.out _).mono ?_; rintro e w1 ⟨rfl, rfl⟩; obtain ⟨y0, y1, y2⟩ := HZC.out _ HB1.out) | (go_at_call 59; refine (HC.out _ HB2.out).mono ?_; rintro e w3 ⟨rfl, hb⟩; have HB3 := J (HB2.out.trans (hb.mono HB2.out.size)); clear hb))
  go_ret
  rw [HT.out]
  exact ⟨rfl, HB3.out⟩
 | false =>
  rw [if_neg (by decide)] at HT
  go_wp2_with (go_at_call 54; refine (HW.out _).mono ?_; rintro e w1 ⟨rfl, rfl⟩; obtain ⟨y0, y1, y2⟩ := HZC.out _ HB1.out)
  go_ret
  rw [HT.out]
  exact ⟨rfl, HB2.out⟩
theorem vdata_any (h : VIn w P sp mp m v1 v2 v3 v4 v5 v6 v7 v8 v9 v10 hv) (i : Nat) (x : Da) (hx : m.datas[i]? = some x) :
  Calls Tryz.prog 31 #[.pointer (some ⟨P, 0, none⟩), .int .i64 (i : Int)] w fun e w' => e = .returned (.int .i64 ((Va.datE m x : Nat) : Int)) ∧ Below w.heap.size w w' := by
 have hl := h.fit.datas.1
 have hi := (List.getElem?_eq_some_iff.1 hx).1
 have hfl := (h.fit.datas.2 x (List.mem_of_getElem? hx)).2
 obtain ⟨A, c, rfl, hc, _, _, hL⟩ := h.rep.datas
 have xx := cell15 h.cells 11 _ rfl
 obtain ⟨g, o, cs, rfl, _, hg, ⟨u, v, rfl, hwf, hu, hv⟩, hcs⟩ := hL i x hx
 have HT1 := J (fun W (hb : Below w.heap.size w W) => bv (h.grow hb) 2 x.mem (by decide) hwf)
 have HC := J (fun W (hb : Below w.heap.size w W) => cD (h.grow hb) x.off u (hu.grow hb) 127 127 rfl)
 have k0 : w.cell? ⟨g, o + i * 3, none⟩ = some (.int .u32 (x.mem : Int)) := hcs 0 _ rfl
 have k1 : w.cell? ⟨g, o + i * 3 + 1, none⟩ = some u := hcs 1 _ rfl
 have k2 : w.cell? ⟨g, o + i * 3 + 2, none⟩ = some v := hcs 2 _ rfl
 obtain ⟨Au, cu, rfl, _⟩ := id hu
 obtain ⟨Av, cv, rfl, _⟩ := id hv
 have HT : Hid (Va.datE m x = Va.orE (Va.okE (decide (x.mem < count m 2)) 80) (Va.constE m x.off 127)) := J rfl
 clear h hL hx hcs hu hv
 generalize Va.constE m x.off 127 = r0 at HC HT
 generalize x.b.length = nv at *
 generalize x.off.length = nu at *
 obtain ⟨n, e⟩ : ∃ n, m.datas.length = n := ⟨_, rfl⟩
 rw [e] at xx hi hl hc
 clear e
 have hii : (i : Int) < (n : Int) := by omega
 generalize decide (x.mem < count m 2) = b at HT1 HT
 generalize x.mem = tn at *
 have HB0 : Hid (Below w.heap.size w (w.alloc (.cells #[.int .u32 (tn : Int), .slice Au nu cu, .slice Av nv cv] 83))) := J ((Below.refl _ _).alloc (Nat.le_refl _) _)
 have HZ := J (heap_alloc_new w (.cells #[.int .u32 (tn : Int), .slice Au nu cu, .slice Av nv cv] 83))
 go_enter Tryz.func31, Tryz.ntmps31
 go_upto_region 2 with fail
 generalize w.alloc (.cells #[.int .u32 (tn : Int), .slice Au nu cu, .slice Av nv cv] 83) = w0 at HB0 HZ ⊢
 obtain ⟨z0, z1, z2⟩ := aH HZ.out
 have HZC := J (fun W (hb : Below w0.heap.size w0 W) => aH ((hb.block _ (Array.getElem?_eq_some_iff.1 HZ.out).1).trans HZ.out))
 have tok1 : True := trivial
 cases b with
 | true =>
  go_wp2_with (first | (go_at_call 60; clear tok1; refine (HT1.out _ HB0.out).mono ?_; rintro e w1 ⟨rfl, hb⟩; obtain ⟨y0, y1, y2⟩ := HZC.out _ hb; have HB1 := J (HB0.out.trans (hb.mono HB0.out.size)); have HY := J hb; clear hb) | (go_at_call 59; refine (HC.out _ HB1.out).mono ?_; rintro e w3 ⟨rfl, hb⟩; have HB3 := J (HB1.out.trans (hb.mono HB1.out.size)); clear hb))
  go_ret
  rw [HT.out]
  exact ⟨rfl, HB3.out⟩
 | false =>
  go_wp2_with (go_at_call 60; clear tok1; refine (HT1.out _ HB0.out).mono ?_; rintro e w1 ⟨rfl, hb⟩; obtain ⟨y0, y1, y2⟩ := HZC.out _ hb; have HB1 := J (HB0.out.trans (hb.mono HB0.out.size)); have HY := J hb; clear hb)
  go_ret
  rw [HT.out]
  exact ⟨rfl, HB1.out⟩
theorem eD (h : VIn w P sp mp m v1 v2 v3 v4 v5 v6 v7 v8 v9 v10 hv) (i : Nat) (x : El) (hx : m.elems[i]? = some x) :
  Calls Tryz.prog 29 #[.pointer (some ⟨P, 0, none⟩), .int .i64 (i : Int)] w fun e w' => e = .returned (.int .i64 ((Va.elemE m x : Nat) : Int)) ∧ Below w.heap.size w w' := by
 have hl := h.fit.elems.1
 have hi := (List.getElem?_eq_some_iff.1 hx).1
 have hfl := (h.fit.elems.2 x (List.mem_of_getElem? hx)).2
 obtain ⟨A, c, rfl, hc, _, _, hL⟩ := h.rep.elems
 have xx := cell15 h.cells 9 _ rfl
 obtain ⟨g, o, cs, rfl, _, hg, ⟨u, v, rfl, hwf, hu, hv⟩, hcs⟩ := hL i x hx
 have HT1 := J (fun W (hb : Below w.heap.size w W) => bv (h.grow hb) 1 x.table (by decide) hwf)
 have HC := J (fun W (hb : Below w.heap.size w W) => cD (h.grow hb) x.off u (hu.grow hb) 127 127 rfl)
 have k0 : w.cell? ⟨g, o + i * 3, none⟩ = some (.int .u32 (x.table : Int)) := hcs 0 _ rfl
 have k1 : w.cell? ⟨g, o + i * 3 + 1, none⟩ = some u := hcs 1 _ rfl
 have k2 : w.cell? ⟨g, o + i * 3 + 2, none⟩ = some v := hcs 2 _ rfl
 have HTF := J (fun (f : Nat) W (hf : f < 4294967296) (hb : Below w.heap.size w W) => bv (h.grow hb) 0 f (by decide) hf)
 have HFV := J hv
 obtain ⟨Au, cu, rfl, _⟩ := id hu
 obtain ⟨Av, cv, rfl, _⟩ := id hv
 have HT : Hid (Va.elemE m x = Va.orE (Va.okE (decide (x.table < count m 1)) 80) (Va.orE (Va.constE m x.off 127) (Va.first (Va.thereE m 0) x.funcs))) := J rfl
 have HLF := J (sl_has hv)
 clear h hL hx hcs hu hv HFV
 generalize Va.constE m x.off 127 = r0 at HC HT
 obtain ⟨nv, hnv⟩ : ∃ n, x.funcs.length = n := ⟨_, rfl⟩
 have HNV := J hnv
 rw [hnv] at k2 hfl
 clear hnv
 generalize x.off.length = nu at *
 obtain ⟨n, e⟩ : ∃ n, m.elems.length = n := ⟨_, rfl⟩
 rw [e] at xx hi hl hc
 clear e
 have hii : (i : Int) < (n : Int) := by omega
 generalize decide (x.table < count m 1) = b at HT1 HT
 generalize x.table = tn at *
 have HB0 : Hid (Below w.heap.size w (w.alloc (.cells #[.int .u32 (tn : Int), .slice Au nu cu, .slice Av nv cv] 59))) := J ((Below.refl _ _).alloc (Nat.le_refl _) _)
 have HZ := J (heap_alloc_new w (.cells #[.int .u32 (tn : Int), .slice Au nu cu, .slice Av nv cv] 59))
 go_enter Tryz.func29, Tryz.ntmps29
 go_upto_region 2 with fail
 generalize w.alloc (.cells #[.int .u32 (tn : Int), .slice Au nu cu, .slice Av nv cv] 59) = w0 at HB0 HZ ⊢
 obtain ⟨z0, z1, z2⟩ := aH HZ.out
 have HZC := J (fun W (hb : Below w0.heap.size w0 W) => aH ((hb.block _ (Array.getElem?_eq_some_iff.1 HZ.out).1).trans HZ.out))
 have tok1 : True := trivial
 cases b with
 | false =>
  have HTT : Hid (Va.elemE m x = 80) := J HT.out
  clear HT
  go_wp2_with (go_at_call 60; clear tok1; refine (HT1.out _ HB0.out).mono ?_; rintro e w1 ⟨rfl, hb⟩; obtain ⟨y0, y1, y2⟩ := HZC.out _ hb; have HB1 := J (HB0.out.trans (hb.mono HB0.out.size)); have HY := J hb; clear hb)
  go_ret
  rw [HTT.out]
  exact ⟨rfl, HB1.out⟩
 | true =>
  by_cases hr : r0 = 0
  ·subst hr
   have HTT : Hid (Va.elemE m x = Va.first (Va.thereE m 0) (x.funcs.drop 0)) := J HT.out
   clear HT
   go_upto_region 4 with (first | (go_at_call 60; clear tok1; refine (HT1.out _ HB0.out).mono ?_; rintro e w1 ⟨rfl, hb⟩; obtain ⟨y0, y1, y2⟩ := HZC.out _ hb; have HB1 := J (HB0.out.trans (hb.mono HB0.out.size)); have HY := J hb; clear hb) | (go_at_call 59; refine (HC.out _ HB1.out).mono ?_; rintro e w3 ⟨rfl, hb⟩; have HB3 := J (HB1.out.trans (hb.mono HB1.out.size)); have hb3 := hb; clear hb))
   clear z0 z1 z2
   go_upto_region 7 with (first | (go_at_call 60; clear tok1; refine (HT1.out _ HB0.out).mono ?_; rintro e w1 ⟨rfl, hb⟩; obtain ⟨y0, y1, y2⟩ := HZC.out _ hb; have HB1 := J (HB0.out.trans (hb.mono HB0.out.size)); have HY := J hb; clear hb) | (go_at_call 59; refine (HC.out _ HB1.out).mono ?_; rintro e w3 ⟨rfl, hb⟩; have HB3 := J (HB1.out.trans (hb.mono HB1.out.size)); have hb3 := hb; clear hb))
   obtain ⟨q0, q1, q2⟩ := HZC.out _ ((HY.out.trans (hb3.mono HY.out.size)))
   go_wp2_with fail
   go_loopw [32] (fun iv wr => ∃ j : Nat, j ≤ nv ∧ iv = .int .i64 (j : Int) ∧ Hid (Va.elemE m x = Va.first (Va.thereE m 0) (x.funcs.drop j)) ∧ Hid (Below w.heap.size w wr)) (fun iv _ => nv - (intOf iv).toNat)
   case atStart => exact ⟨0, Nat.zero_le _, rfl, HTT, HB3⟩
   case round =>
    obtain ⟨j, hj, rfl, HQ, HBW⟩ := hrel
    by_cases hjn : j < nv
    ·obtain ⟨f, hf⟩ : ∃ f, x.funcs[j]? = some f := ⟨_, List.getElem?_eq_getElem (by have := HNV.out; omega)⟩
     obtain ⟨gf, of, rfl, hgf, kf, hfw0⟩ := eq HLF.out hf
     have hfw := J hfw0
     have kf := (HBW.out.cell (p := ⟨gf, of + j, none⟩) hgf).trans kf
     have hji : (j : Int) < (nv : Int) := by omega
     have HST := J (Va.first_step (f := Va.thereE m 0) hf)
     clear hf
     have HTF := J (fun W => HTF.out f W hfw.out)
     have HQQ : Hid (Va.elemE m x = Va.orE (Va.okE (decide (f < count m 0)) 80) (Va.first (Va.thereE m 0) (x.funcs.drop (j + 1)))) := J (by rw [HQ.out, HST.out]; rfl)
     clear HST HQ
     generalize decide (f < count m 0) = bf at HTF HQQ
     cases bf with
     | true =>
      have HQN : Hid (Va.elemE m x = Va.first (Va.thereE m 0) (x.funcs.drop (j + 1))) := J HQQ.out
      clear HQQ
      go_wp2_with (go_at_call 60; refine (HTF.out _ HBW.out).mono ?_; rintro e w1 ⟨rfl, hb⟩; have HB5 := J (HBW.out.trans (hb.mono HBW.out.size)); clear hb)
      go_roundw
      case rel => exact ⟨j + 1, by omega, by go_num, HQN, HB5⟩
      case measure => simp [intOf]; omega
     | false =>
      have HQN : Hid (Va.elemE m x = 80) := J HQQ.out
      clear HQQ
      go_wp2_with (go_at_call 60; refine (HTF.out _ HBW.out).mono ?_; rintro e w1 ⟨rfl, hb⟩; have HB5 := J (HBW.out.trans (hb.mono HBW.out.size)); clear hb)
      go_ret
      rw [HQN.out]
      exact ⟨rfl, HB5.out⟩
    ·have hji : decide ((j : Int) < (nv : Int)) = false := decide_eq_false (by omega)
     have hjn2 : decide (j < nv) = false := decide_eq_false hjn
     have HQN : Hid (Va.elemE m x = 0) := J (by rw [HQ.out, Va.first_end (by have := HNV.out; omega)])
     go_wp2_with fail
     go_ret
     rw [HQN.out]
     exact ⟨rfl, HBW.out⟩
  ·have HTT : Hid (Va.elemE m x = r0) := J (by rw [HT.out]; show Va.orE 0 (Va.orE r0 _) = r0; rw [Va.orE_at rfl, Va.orE_ne hr])
   have hq : ((r0 : Int) == 0) = false := by rw [beq_eq_false_iff_ne]; omega
   have hq2 : ((r0 : Int) != 0) = true := by rw [bne, hq]; rfl
   have hq3 : ¬ ((r0 : Int) = 0) := by omega
   clear HT hr
   go_wp2_with (first | (go_at_call 60; clear tok1; refine (HT1.out _ HB0.out).mono ?_; rintro e w1 ⟨rfl, hb⟩; obtain ⟨y0, y1, y2⟩ := HZC.out _ hb; have HB1 := J (HB0.out.trans (hb.mono HB0.out.size)); have HY := J hb; clear hb) | (go_at_call 59; refine (HC.out _ HB1.out).mono ?_; rintro e w3 ⟨rfl, hb⟩; have HB3 := J (HB1.out.trans (hb.mono HB1.out.size)); have hb3 := hb; clear hb))
   go_ret
   rw [HTT.out]
   exact ⟨rfl, HB3.out⟩
end
end Go.Proofs.YtelcdmkbaegjoaaGreat
namespace Va
def upTo (A : Nat → Nat) : Nat → Nat → Nat
 | _, 0 => 0
 | j, n + 1 => orE (A j) (upTo A (j + 1) n)
theorem upTo_step {A : Nat → Nat} {j n : Nat} (h : j < n) : upTo A j (n - j) = orE (A j) (upTo A (j + 1) (n - (j + 1))) := by
 obtain ⟨k, hk⟩ : ∃ k, n - j = k + 1 := ⟨n - j - 1, by omega⟩
 rw [hk, upTo, show n - (j + 1) = k from by omega]
theorem dG {α : Type} (f : α → Nat) (A : Nat → Nat) : ∀ (xs : List α) (j : Nat), (∀ i x, xs[i]? = some x → A (j + i) = f x) → upTo A j xs.length = first f xs
 | [], _, _ => rfl
 | x :: xs, j, h => by
  rw [List.length_cons, upTo, first, show A j = f x from h 0 x rfl, dG f A xs (j + 1) (fun i y hy => by have := h (i + 1) y hy; rw [← this]; congr 1; omega)]
theorem orE_assoc (a b c : Nat) : orE (orE a b) c = orE a (orE b c) := by
 unfold orE
 by_cases h : a = 0 <;> simp [h]
end Va
namespace Go.Proofs.YtelcdmkbaegjoaaGreat
open Go.RowKit Ins Bin Sp
def cr (w : World) (S : Nat → Prop) (P : Nat) (m : M) : Prop :=
 S P ∧ ∃ A1 d1 A2 d2 A3 d3 A4 d4 A5 d5 A6 d6, w.heap[P]? = some (.cells #[.slice A1 m.types.length d1, .slice A2 (funs m).length d2, .int .i64 ((imps m 0).length : Int), .slice A3 (tabs m).length d3, .int .i64 ((imps m 1).length : Int), .slice A4 (mems m).length d4, .int .i64 ((imps m 2).length : Int), .slice A5 (globs m).length d5, .int .i64 ((imps m 3).length : Int), .slice A6 m.exports.length d6] 104 (0, 0)) ∧
  ab w S m.types (.slice A1 m.types.length d1) ∧ ab w S (funs m) (.slice A2 (funs m).length d2) ∧ ab w S (tabs m) (.slice A3 (tabs m).length d3) ∧ ab w S (mems m) (.slice A4 (mems m).length d4) ∧ ab w S (globs m) (.slice A5 (globs m).length d5) ∧ ab w S m.exports (.slice A6 m.exports.length d6)
theorem cr.mod {T S : Nat → Prop} {w w' : World} {P : Nat} {m : M} (h : cr w S P m) (hm : Mod T w w') (hd : ∀ k, k < w.heap.size → S k → ¬ T k) : cr w' S P m := by
 obtain ⟨hP, A1, d1, A2, d2, A3, d3, A4, d4, A5, d5, A6, d6, h0, h1, h2, h3, h4, h5, h6⟩ := h
 exact ⟨hP, A1, d1, A2, d2, A3, d3, A4, d4, A5, d5, A6, d6, hm.heap h0 (hd P (Array.getElem?_eq_some_iff.1 h0).1 hP), h1.mod hm hd, h2.mod hm hd, h3.mod hm hd, h4.mod hm hd, h5.mod hm hd, h6.mod hm hd⟩
theorem cr.v {S : Nat → Prop} {w : World} {P : Nat} {m : M} (h : cr w S P m) : aI w P m := by
 obtain ⟨hP, A1, d1, A2, d2, A3, d3, A4, d4, A5, d5, A6, d6, h0, h1, h2, h3, h4, h5, h6⟩ := h
 exact ⟨A1, d1, A2, d2, A3, d3, A4, d4, A5, d5, A6, d6, h0, h1.more (fun k hk _ => hk), h2.more (fun k hk _ => hk), h3.more (fun k hk _ => hk), h4.more (fun k hk _ => hk), h5.more (fun k hk _ => hk), h6.more (fun k hk _ => hk)⟩
class Off (α : Type) [Lay α] : Prop where
 pos : 0 < Lay.size α
 off : ∀ {w : World} {S : Nat → Prop} {x : α} {cs : List Value} {q : Nat} {es : Array MapEntry} {c : Nat}, Lay.rep w S x cs → w.heap[q]? = some (.map es c) → Lay.rep w (fun k => S k ∧ k ≠ q) x cs
theorem cell_map {w : World} {q o : Nat} {es : Array MapEntry} {c : Nat} (h : w.heap[q]? = some (.map es c)) : w.cell? ⟨q, o, none⟩ = none := by
 unfold World.cell?
 simp [h]
theorem ab.off {α : Type} [Lay α] [Off α] {w : World} {S : Nat → Prop} {xs : List α} {v : Value} {q : Nat} {es : Array MapEntry} {c : Nat} (h : ab w S xs v) (hq : w.heap[q]? = some (.map es c)) : ab w (fun k => S k ∧ k ≠ q) xs v := by
 obtain ⟨A, d, h1, h2, h3, h4, h5⟩ := h
 refine ⟨A, d, h1, h2, h3, h4, fun k x hk => ?_⟩
 obtain ⟨g, o, cs, e1, e2, e3, e4, e5⟩ := h5 k x hk
 refine ⟨g, o, cs, e1, ⟨e2, fun e => ?_⟩, e3, Off.off e4 hq, e5⟩
 subst e
 have hl : cs.length = Lay.size α := Lay.len e4
 have hp := Off.pos (α := α)
 have := e5 0 cs[0] (List.getElem?_eq_getElem (by omega))
 rw [cell_map hq] at this
 cases this
instance : Off UInt8 := ⟨by decide, fun h _ => h⟩
instance : Off Nat := ⟨by decide, fun h _ => h⟩
instance : Off Lim := ⟨by decide, fun h _ => h⟩
instance : Off Glob := ⟨by decide, fun h _ => h⟩
instance : Off Exp := ⟨by decide, fun h _ => h⟩
instance : Off FT := ⟨by decide, fun h hq => by
 obtain ⟨u, v, h1, h2, h3⟩ := h
 exact ⟨u, v, h1, h2.off hq, h3.off hq⟩⟩
theorem aI.off {w : World} {P q : Nat} {m : M} {es : Array MapEntry} {c : Nat} (h : aI w P m) (hq : w.heap[q]? = some (.map es c)) : cr w (fun k => k < w.heap.size ∧ k ≠ q) P m := by
 obtain ⟨A1, d1, A2, d2, A3, d3, A4, d4, A5, d5, A6, d6, h0, h1, h2, h3, h4, h5, h6⟩ := h
 exact ⟨⟨(Array.getElem?_eq_some_iff.1 h0).1, fun e => by subst e; rw [h0] at hq; cases hq⟩, A1, d1, A2, d2, A3, d3, A4, d4, A5, d5, A6, d6, h0, h1.off hq, h2.off hq, h3.off hq, h4.off hq, h5.off hq, h6.off hq⟩
theorem repM_low {S : Nat → Prop} {w : World} {m : M} {v1 v2 v3 v4 v5 v6 v7 v8 v9 v10 : Value} (h : RepM w S m v1 v2 v3 v4 v5 v6 v7 v8 v9 v10) : RepM w (· < w.heap.size) m v1 v2 v3 v4 v5 v6 v7 v8 v9 v10 :=
 ⟨h.types.more (fun _ hk _ => hk), h.imports.more (fun _ hk _ => hk), h.funcs.more (fun _ hk _ => hk), h.tables.more (fun _ hk _ => hk), h.mems.more (fun _ hk _ => hk), h.globals.more (fun _ hk _ => hk), h.exports.more (fun _ hk _ => hk), h.start, h.elems.more (fun _ hk _ => hk), h.codes.more (fun _ hk _ => hk), h.datas.more (fun _ hk _ => hk)⟩
theorem repM_more {S S' : Nat → Prop} {w : World} {m : M} {v1 v2 v3 v4 v5 v6 v7 v8 v9 v10 : Value} (h : RepM w S m v1 v2 v3 v4 v5 v6 v7 v8 v9 v10) (hs : ∀ k, k < w.heap.size → S k → S' k) : RepM w S' m v1 v2 v3 v4 v5 v6 v7 v8 v9 v10 :=
 ⟨h.types.more hs, h.imports.more hs, h.funcs.more hs, h.tables.more hs, h.mems.more hs, h.globals.more hs, h.exports.more hs, h.start, h.elems.more hs, h.codes.more hs, h.datas.more hs⟩
structure VC where
 w1 : World
 m : M
 sp : Nat
 mp : Nat
 P : Nat
 E : Nat
 v1 : Value
 v2 : Value
 v3 : Value
 v4 : Value
 v5 : Value
 v6 : Value
 v7 : Value
 v8 : Value
 v9 : Value
 v10 : Value
def VC.S (C : VC) : Nat → Prop := fun k => k < C.w1.heap.size ∧ k ≠ C.mp
structure VC.Good (C : VC) : Prop where
 rep : RepM C.w1 C.S C.m C.v1 C.v2 C.v3 C.v4 C.v5 C.v6 C.v7 C.v8 C.v9 C.v10
 space : cr C.w1 C.S C.sp C.m
 fit : FitV C.m
 lt : C.mp < C.w1.heap.size
 hP : C.w1.heap.size ≤ C.P
 hE : C.P < C.E
def bO (w : World) (mp : Nat) (ns : List (List UInt8)) : Prop :=
 ∃ D : DataW Unit, w.ownsMap Tryz.prog 9 (plainElem Tryz.prog 3) mp ns.length D ∧ ∀ s : List UInt8, Maps.has D (.string s) = decide (s ∈ ns)
theorem bO.on {w w' : World} {mp : Nat} {ns : List (List UInt8)} (h : bO w mp ns) (hb : w'.heap[mp]? = w.heap[mp]?) : bO w' mp ns := by
 obtain ⟨D, ⟨es, c, h1, h2, h3, h4⟩, h5⟩ := h
 exact ⟨D, ⟨es, c, hb.trans h1, h2, h3, h4⟩, h5⟩
structure VSt (C : VC) (w : World) (ns : List (List UInt8)) (hs : List Nat) : Prop where
 mod : Mod (· = C.mp) C.w1 w
 top : C.E < w.heap.size
 names : bO w C.mp ns
 all : ∃ hv, w.heap[C.P]? = some (.cells #[C.v1, C.v2, C.v3, C.v4, C.v5, C.v6, C.v7, .bool C.m.hasStart, .int .u32 (C.m.start : Int), C.v8, C.v9, C.v10, .pointer (some ⟨C.sp, 0, none⟩), .map (some C.mp), hv] 71 (0, 0)) ∧ OwnL 3 w (C.E + 1) (fun _ => False) hv (hs.map Va.Ht.mk)
section
variable {C : VC} {w w' : World} {ns : List (List UInt8)} {hs : List Nat}
theorem VSt.vin (h : VSt C w ns hs) (hC : C.Good) : ∃ hv, VIn w C.P C.sp C.mp C.m C.v1 C.v2 C.v3 C.v4 C.v5 C.v6 C.v7 C.v8 C.v9 C.v10 hv ∧ OwnL 3 w (C.E + 1) (fun _ => False) hv (hs.map Va.Ht.mk) := by
 obtain ⟨hv, h1, h2⟩ := h.all
 exact ⟨hv, ⟨h1, repM_low (hC.rep.mod h.mod (fun k _ hk => hk.2)), (hC.space.mod h.mod (fun k _ hk => hk.2)).v, hC.fit⟩, h2⟩
theorem VSt.on (h : VSt C w ns hs) (hC : C.Good) (hb : Below w.heap.size w w') : VSt C w' ns hs := by
 obtain ⟨hv, h1, h2⟩ := h.all
 have hmp : C.mp < w.heap.size := Nat.lt_of_lt_of_le hC.lt h.mod.size
 refine ⟨h.mod.trans (T' := fun _ => False) (Mod.of_below hb) (fun _ _ h => h.elim), Nat.lt_of_lt_of_le h.top hb.size, h.names.on (hb.block _ hmp), hv, (hb.block _ (Array.getElem?_eq_some_iff.1 h1).1).trans h1, h2.mod (T := fun _ => False) (Mod.of_below hb) (fun _ _ h => h) (fun _ _ _ h => h)⟩
theorem VSt.setE (h : VSt C w ns hs) (hC : C.Good) (u : Value) : VSt C (w.setCell ⟨C.E, 0, none⟩ u) ns hs := by
 obtain ⟨hv, h1, h2⟩ := h.all
 have hmp := hC.lt
 have hP := hC.hP
 have hE := hC.hE
 refine ⟨h.mod.setCell (fun hk => by have : C.E < C.w1.heap.size := hk; omega) u, by simpa [World.setCell] using h.top, h.names.on (Below.heap_setCell _ _ _ _ (by show C.mp ≠ C.E; omega)), hv, (Below.heap_setCell _ _ _ _ (by show C.P ≠ C.E; omega)).trans h1, h2.mod (T := (· = C.E)) (Mod.setCell (T := (· = C.E)) (Mod.refl _ w) (p := ⟨C.E, 0, none⟩) (fun _ => rfl) u) (fun g hg e => by have := (h2.lt g hg).1; omega) (fun _ _ h => h.elim)⟩
def Told (C : VC) (w : World) (e : Nat) : Prop := w.heap[C.E]? = some (.cells #[.int .i64 (e : Int)] 36 (0, 0))
def VF (C : VC) (w : World) : Prop := ∃ ns hs, VSt C w ns hs
theorem VF.setE (h : VF C w) (hC : C.Good) (u : Value) : VF C (w.setCell ⟨C.E, 0, none⟩ u) := by
 obtain ⟨ns, hs, h⟩ := h
 exact ⟨ns, hs, h.setE hC u⟩
theorem dF (C : VC) (hC : C.Good) (n : Nat) (hn : n ≤ 4000000000) (K : Nat) (hcf : ∀ (a : Array Value) (w : World), (callFunc K a).run Tryz.prog w = .ok (.enter K a) w) (A : Nat → Nat) (I : Nat → World → Prop) (e0 : Nat) (w : World)
  (hst : ∀ j w u, I j w → I j (w.setCell ⟨C.E, 0, none⟩ u))
  (hask : e0 = 0 → ∀ j w, j < n → I j w → Calls Tryz.prog K #[.pointer (some ⟨C.P, 0, none⟩), .int .i64 (j : Int)] w fun e w' => e = .returned (.int .i64 (A j : Int)) ∧ (A j = 0 → I (j + 1) w') ∧ VF C w' ∧ w'.heap[C.E]? = w.heap[C.E]?)
  (h0 : e0 = 0 → I 0 w) (hF : VF C w) (hT : Told C w e0) :
  Calls Tryz.prog 52 #[.int .i64 (n : Int), .func (.func K) #[.pointer (some ⟨C.P, 0, none⟩)] #[], .pointer (some ⟨C.E, 0, none⟩)] w fun e w' =>
   e = .returned (.int .i64 ((Va.orE e0 (Va.upTo A 0 n) : Nat) : Int)) ∧ (Va.orE e0 (Va.upTo A 0 n) = 0 → I n w') ∧ VF C w' ∧ Told C w' (Va.orE e0 (Va.upTo A 0 n)) := by
 obtain ⟨R, hR⟩ : ∃ R, Va.orE e0 (Va.upTo A 0 n) = R := ⟨_, rfl⟩
 have HR : Hid (R = Va.orE e0 (Va.upTo A 0 (n - 0))) := J hR.symm
 rw [hR]
 have HGD := J hC
 have HASK := J hask
 have HST := J hst
 have HI := J h0
 have HFF := J hF
 have HTT := J hT
 have HCF := J hcf
 clear hask hst h0 hT hR hcf hF hC
 go_enter Tryz.func52, Tryz.ntmps52
 go_wp2_with fail
 go_loopw [6] (fun iv wr => ∃ j r : Nat, j ≤ n ∧ iv = .int .i64 (j : Int) ∧ Hid (R = Va.orE r (Va.upTo A j (n - j))) ∧ Hid (r = 0 → I j wr) ∧ Hid (VF C wr) ∧ Hid (Told C wr r) ∧ Hid (r = 0 → e0 = 0)) (fun iv _ => n - (intOf iv).toNat)
 case atStart => exact ⟨0, e0, Nat.zero_le _, rfl, HR, HI, HFF, HTT, J id⟩
 case round =>
  obtain ⟨j, r, hj, rfl, HQ, HJ, HFJ, HTR, HZ⟩ := hrel
  have x0 : wr.cell? ⟨C.E, 0, none⟩ = some (.int .i64 (r : Int)) := by rw [cell_of_row wr C.E 0 _ _ (0, 0) HTR.out]; rfl
  have hf := frozen_of_row wr C.E 0 _ _ HTR.out
  by_cases hr : r = 0
  ·subst hr
   by_cases hjn : j < n
   ·have hji : (j : Int) < (n : Int) := by omega
    have HC := J (HASK.out (HZ.out rfl) j wr hjn (HJ.out rfl))
    have HQ2 : Hid (R = Va.orE (A j) (Va.upTo A (j + 1) (n - (j + 1)))) := J (by rw [HQ.out, Va.orE_at rfl, Va.upTo_step hjn])
    have HZ2 : Hid (A j = 0 → e0 = 0) := J (fun _ => HZ.out rfl)
    have hcf := HCF.out
    clear HQ
    obtain ⟨a, ha⟩ : ∃ a, A j = a := ⟨_, rfl⟩
    rw [ha] at HC HQ2 HZ2
    clear ha
    go_wp2_with fail
    clear hcf
    refine HC.out.mono ?_
    rintro e w5 ⟨rfl, hI5, hF5, hE5⟩
    have HI5 := J (fun h0 : a = 0 => HST.out (j + 1) w5 (.int .i64 (a : Int)) (hI5 h0))
    have HF5 := J (hF5.setE HGD.out (.int .i64 (a : Int)))
    have ht5 : w5.heap[C.E]? = some (.cells #[.int .i64 (0 : Int)] 36 (0, 0)) := hE5.trans HTR.out
    have HT5 : Hid (Told C (w5.setCell ⟨C.E, 0, none⟩ (.int .i64 (a : Int))) a) := J (heap_setCell_same w5 C.E 0 _ _ _ ht5)
    have x5 : w5.cell? ⟨C.E, 0, none⟩ = some (.int .i64 0) := by rw [cell_of_row w5 C.E 0 _ _ (0, 0) ht5]; rfl
    have hf5 := frozen_of_row w5 C.E 0 _ _ ht5
    clear hI5 hF5 hE5 ht5
    go_wp2_with fail
    go_roundw
    case rel => exact ⟨j + 1, a, by omega, by go_num, HQ2, HI5, HF5, HT5, HZ2⟩
    case measure => simp [intOf]; omega
   ·have hji : decide ((j : Int) < (n : Int)) = false := decide_eq_false (by omega)
    have hjn2 : decide (j < n) = false := decide_eq_false hjn
    obtain rfl : j = n := by omega
    have HQ2 : Hid (R = 0) := J (by rw [HQ.out, Nat.sub_self]; rfl)
    clear hjn
    go_wp2_with fail
    go_ret
    rw [HQ2.out]
    exact ⟨rfl, fun _ => HJ.out (by trivial), HFJ.out, HTR.out⟩
  ·have hq : ((r : Int) == 0) = false := by rw [beq_eq_false_iff_ne]; omega
   have HQ2 : Hid (R = r) := J (by rw [HQ.out, Va.orE_ne hr])
   have HRN := J hr
   clear hr
   by_cases hjn : j < n
   ·have hji : (j : Int) < (n : Int) := by omega
    go_wp2_with fail
    go_ret
    rw [HQ2.out]
    exact ⟨rfl, fun h => absurd h HRN.out, HFJ.out, HTR.out⟩
   ·have hji : decide ((j : Int) < (n : Int)) = false := decide_eq_false (by omega)
    have hjn2 : decide (j < n) = false := decide_eq_false hjn
    go_wp2_with fail
    go_ret
    rw [HQ2.out]
    exact ⟨rfl, fun h => absurd h HRN.out, HFJ.out, HTR.out⟩
theorem first_any (w : World) :
  Calls Tryz.prog 18 #[] w fun e w' => e = .returned (.func (.func 52) #[] #[.pointer (some ⟨w.heap.size, 0, none⟩)]) ∧ w' = w.alloc (.cells #[.int .i64 0] 36) := by
 go_enter Tryz.func18, Tryz.ntmps18
 go_wp2_with fail
 go_ret
 exact ⟨rfl, rfl⟩
end
end Go.Proofs.YtelcdmkbaegjoaaGreat
