/-
  Layer 7's writer: an import. (gen/enc/imp.py)
-/
import Derived.Test.YthkglmkpnhhboaaGreatDoorR01
import Derived.Test.YthkglmkpnhhboaaGreatDoorR29
set_option maxRecDepth 100000
set_option maxHeartbeats 4000000
namespace Go.Proofs.YthkglmkpnhhboaaGreatDoor
open Go.RowKit Ins Bin
theorem fu (x : UInt8) : x = 0 ↔ x.toNat = 0 := ⟨fun h => by rw [h]; rfl, fun h => UInt8.toNat_inj.1 h⟩
theorem u8_of {x : UInt8} {n : Nat} (h : (x.toNat : Int) = (n : Int)) (hn : n < 256) : x = UInt8.ofNat n := UInt8.toNat_inj.1 (by rw [UInt8.toNat_ofNat']; omega)
theorem WS.keep {T : Nat → Prop} {w w' : World} {R : Nat} {v : Value} {s : Option (List UInt8)} (h : WS w R v s) (hm : Mod T w w') (h1 : ¬ T R) (h2 : ∀ k, v.ownBlock = some k → ¬ T k) : WS w' R v s := by
 obtain ⟨bs, a1, a2, a3⟩ := h
 exact ⟨bs, hm.heap a1 h1, hm.own a2 h2, a3⟩
theorem eimp_0 (R : Nat) (v : Value) (s : Option (List UInt8)) (m nm : List UInt8) (kd : UInt8) (t a : Nat) (b : Int) (gt : UInt8) (gm : Bool) (w : World) (h : WS w R v s) (hl1 : m.length ≤ 1000000) (hl2 : nm.length ≤ 1000000) (hk : (kd.toNat : Int) = 0) (ht : t < 4294967296) (hT : Tb w) :
  Calls Tryz.prog 94 #[.pointer (some ⟨R, 0, none⟩), .agg #[.string ⟨m.toArray⟩, .string ⟨nm.toArray⟩, .int .u8 0, .int .u32 (t : Int), .int .u32 (a : Int), .int .i64 b, .int .u8 (gt.toNat : Int), .bool gm]] w (ab R w v (adv s (okImp (⟨m, nm, kd, t, ⟨a, b⟩, ⟨gt, gm⟩⟩ : Imp)) (encImp (⟨m, nm, kd, t, ⟨a, b⟩, ⟨gt, gm⟩⟩ : Imp)))) := by
 have HST : Hid (adv (adv (adv (adv (adv s (okName m) (encName m)) (okName nm) (encName nm)) (kd.toNat ≤ 3) ([kd])) (True) (Leb.encU t)) (a = 0 ∧ b = 0 ∧ gt.toNat = 0 ∧ gm = false) ([]) = adv s (okImp (⟨m, nm, kd, t, ⟨a, b⟩, ⟨gt, gm⟩⟩ : Imp)) (encImp (⟨m, nm, kd, t, ⟨a, b⟩, ⟨gt, gm⟩⟩ : Imp))) := Y (by
  obtain rfl : kd = 0 := u8_of (n := 0) (by omega) (by omega)
  rw [ah, ah, ah, ah]
  exact aj (by simp [okImp, okMore, fu, okNum, ht, and_assoc]) (fun _ => by simp [encImp, encMore]))
 have HP1 : Hid (∀ (W : World) (V : Value), WS W R V (s) → Mod (R ≤ ·) w W → Calls Tryz.prog 128 #[.pointer (some ⟨R, 0, none⟩), .string ⟨m.toArray⟩] W (ab R W V (adv (s) (okName m) (encName m)))) := Y (fun W V hW hM => ba R V _ m W hW hl1 (hT.low hM h.two))
 have HP2 : Hid (∀ (W : World) (V : Value), WS W R V (adv s (okName m) (encName m)) → Mod (R ≤ ·) w W → Calls Tryz.prog 128 #[.pointer (some ⟨R, 0, none⟩), .string ⟨nm.toArray⟩] W (ab R W V (adv (adv s (okName m) (encName m)) (okName nm) (encName nm)))) := Y (fun W V hW hM => ba R V _ nm W hW hl2 (hT.low hM h.two))
 have HP3 : Hid (∀ (W : World) (V : Value), WS W R V (adv (adv s (okName m) (encName m)) (okName nm) (encName nm)) → Mod (R ≤ ·) w W → Calls Tryz.prog 129 #[.pointer (some ⟨R, 0, none⟩), .int .u8 0] W (ab R W V (adv (adv (adv s (okName m) (encName m)) (okName nm) (encName nm)) (kd.toNat ≤ 3) ([kd])))) := Y (fun W V hW hM => co R V _ kd _ W hW hk)
 have HP4 : Hid (∀ (W : World) (V : Value), WS W R V (adv (adv (adv s (okName m) (encName m)) (okName nm) (encName nm)) (kd.toNat ≤ 3) ([kd])) → Mod (R ≤ ·) w W → Calls Tryz.prog 96 #[.pointer (some ⟨R, 0, none⟩), .int .u32 (t : Int)] W (ab R W V (adv (adv (adv (adv s (okName m) (encName m)) (okName nm) (encName nm)) (kd.toNat ≤ 3) ([kd])) (True) (Leb.encU t)))) := Y (fun W V hW hM => aU R V _ t W hW (ht))
 have HP5 : Hid (∀ (bb : Bool), (bb = true ↔ a = 0 ∧ b = 0 ∧ gt.toNat = 0 ∧ gm = false) → ∀ (W : World) (V : Value), WS W R V (adv (adv (adv (adv s (okName m) (encName m)) (okName nm) (encName nm)) (kd.toNat ≤ 3) ([kd])) (True) (Leb.encU t)) → Mod (R ≤ ·) w W → Calls Tryz.prog 131 #[.pointer (some ⟨R, 0, none⟩), .bool bb] W (ab R W V (adv (adv (adv (adv (adv s (okName m) (encName m)) (okName nm) (encName nm)) (kd.toNat ≤ 3) ([kd])) (True) (Leb.encU t)) (a = 0 ∧ b = 0 ∧ gt.toNat = 0 ∧ gm = false) ([])))) := Y (fun bb hb W V hW hM => by have h := aq R V _ bb W hW; rwa [aj (q := a = 0 ∧ b = 0 ∧ gt.toNat = 0 ∧ gm = false) (z := []) hb (fun _ => rfl)] at h)
 have HW := Y h
 have tok1 : True := trivial
 have tok2 : True := trivial
 have tok3 : True := trivial
 have tok4 : True := trivial
 have tok5 : True := trivial
 have HX0 : Hid ((w.alloc (.cells #[.string ⟨m.toArray⟩, .string ⟨nm.toArray⟩, .int .u8 0, .int .u32 (t : Int), .int .u32 (a : Int), .int .i64 b, .int .u8 (gt.toNat : Int), .bool gm] 61)).heap[w.heap.size]? = some (.cells #[.string ⟨m.toArray⟩, .string ⟨nm.toArray⟩, .int .u8 0, .int .u32 (t : Int), .int .u32 (a : Int), .int .i64 b, .int .u8 (gt.toNat : Int), .bool gm] 61 (0, 0))) := Y (heap_alloc_new w _)
 have HB0 : Hid (Below w.heap.size w (w.alloc (.cells #[.string ⟨m.toArray⟩, .string ⟨nm.toArray⟩, .int .u8 0, .int .u32 (t : Int), .int .u32 (a : Int), .int .i64 b, .int .u8 (gt.toNat : Int), .bool gm] 61))) := Y ((Below.refl _ _).alloc (Nat.le_refl _) _)
 have HS0 : Hid (WS (w.alloc (.cells #[.string ⟨m.toArray⟩, .string ⟨nm.toArray⟩, .int .u8 0, .int .u32 (t : Int), .int .u32 (a : Int), .int .i64 b, .int .u8 (gt.toNat : Int), .bool gm] 61)) R v s) := Y (h.alloc _)
 have HLT := Y h.lt
 have HOL := Y h.own_lt
 clear h hT hl1 hl2 hk ht
 go_enter Tryz.func94, Tryz.ntmps94
 go_upto_region 1 with fail
 generalize w.alloc (.cells #[.string ⟨m.toArray⟩, .string ⟨nm.toArray⟩, .int .u8 0, .int .u32 (t : Int), .int .u32 (a : Int), .int .i64 b, .int .u8 (gt.toNat : Int), .bool gm] 61) = w0 at HX0 HB0 HS0 ⊢
 have HM0 := Y (WMod.refl R w0 v)
 have HXB : Hid (∀ (W : World) (V : Value), WMod R w0 v W V → W.cell? ⟨w.heap.size, 0, none⟩ = some (.string ⟨m.toArray⟩) ∧ W.cell? ⟨w.heap.size, 1, none⟩ = some (.string ⟨nm.toArray⟩) ∧ W.cell? ⟨w.heap.size, 2, none⟩ = some (.int .u8 0) ∧ W.cell? ⟨w.heap.size, 3, none⟩ = some (.int .u32 (t : Int)) ∧ W.cell? ⟨w.heap.size, 4, none⟩ = some (.int .u32 (a : Int)) ∧ W.cell? ⟨w.heap.size, 5, none⟩ = some (.int .i64 b) ∧ W.cell? ⟨w.heap.size, 6, none⟩ = some (.int .u8 (gt.toNat : Int)) ∧ W.cell? ⟨w.heap.size, 7, none⟩ = some (.bool gm)) := Y (fun W V hm => by
  have hx := hm.1.heap HX0.out (fun e => by
   rcases e with e | e
   ·have := HLT.out; omega
   ·have := HOL.out _ e; omega)
  exact ⟨by rw [cell_of_row W _ 0 _ _ (0, 0) hx]; rfl, by rw [cell_of_row W _ 1 _ _ (0, 0) hx]; rfl, by rw [cell_of_row W _ 2 _ _ (0, 0) hx]; rfl, by rw [cell_of_row W _ 3 _ _ (0, 0) hx]; rfl, by rw [cell_of_row W _ 4 _ _ (0, 0) hx]; rfl, by rw [cell_of_row W _ 5 _ _ (0, 0) hx]; rfl, by rw [cell_of_row W _ 6 _ _ (0, 0) hx]; rfl, by rw [cell_of_row W _ 7 _ _ (0, 0) hx]; rfl⟩)
 obtain ⟨z0_0, z0_1, z0_2, z0_3, z0_4, z0_5, z0_6, z0_7⟩ := HXB.out _ _ HM0.out
 go_upto_region 4 with (first | (go_at_call 128; clear tok1; refine (HP1.out _ _ HS0.out (((WMod.on v HB0.out).trans HM0.out).low HW.out)).mono ?_; rintro e w1 ⟨rfl, v1, hs, hm⟩; have HS1 := Y hs; have HM1 := Y (HM0.out.trans hm); clear hs hm; obtain ⟨z1_0, z1_1, z1_2, z1_3, z1_4, z1_5, z1_6, z1_7⟩ := HXB.out _ _ HM1.out; clear z0_0 z0_1 z0_2 z0_3 z0_4 z0_5 z0_6 z0_7) | (go_at_call 128; clear tok2; refine (HP2.out _ _ HS1.out (((WMod.on v HB0.out).trans HM1.out).low HW.out)).mono ?_; rintro e w2 ⟨rfl, v2, hs, hm⟩; have HS2 := Y hs; have HM2 := Y (HM1.out.trans hm); clear hs hm; obtain ⟨z2_0, z2_1, z2_2, z2_3, z2_4, z2_5, z2_6, z2_7⟩ := HXB.out _ _ HM2.out; clear z1_0 z1_1 z1_2 z1_3 z1_4 z1_5 z1_6 z1_7) | (go_at_call 129; clear tok3; refine (HP3.out _ _ HS2.out (((WMod.on v HB0.out).trans HM2.out).low HW.out)).mono ?_; rintro e w3 ⟨rfl, v3, hs, hm⟩; have HS3 := Y hs; have HM3 := Y (HM2.out.trans hm); clear hs hm; obtain ⟨z3_0, z3_1, z3_2, z3_3, z3_4, z3_5, z3_6, z3_7⟩ := HXB.out _ _ HM3.out; clear z2_0 z2_1 z2_2 z2_3 z2_4 z2_5 z2_6 z2_7))
 go_upto_region 5 with fail
 have HX1 : Hid ((w3.alloc (.cells #[.string ⟨m.toArray⟩, .string ⟨nm.toArray⟩, .int .u8 0, .int .u32 (t : Int), .int .u32 (a : Int), .int .i64 b, .int .u8 (gt.toNat : Int), .bool gm] 61)).heap[w3.heap.size]? = some (.cells #[.string ⟨m.toArray⟩, .string ⟨nm.toArray⟩, .int .u8 0, .int .u32 (t : Int), .int .u32 (a : Int), .int .i64 b, .int .u8 (gt.toNat : Int), .bool gm] 61 (0, 0))) := Y (heap_alloc_new w3 _)
 have HBA : Hid (Below w3.heap.size w3 (w3.alloc (.cells #[.string ⟨m.toArray⟩, .string ⟨nm.toArray⟩, .int .u8 0, .int .u32 (t : Int), .int .u32 (a : Int), .int .i64 b, .int .u8 (gt.toNat : Int), .bool gm] 61))) := Y ((Below.refl _ _).alloc (Nat.le_refl _) _)
 have HSW := Y (HS3.out.on HBA.out)
 have HMW := Y (HM3.out.trans (WMod.on v3 HBA.out))
 have HSZ : Hid ((w3.alloc (.cells #[.string ⟨m.toArray⟩, .string ⟨nm.toArray⟩, .int .u8 0, .int .u32 (t : Int), .int .u32 (a : Int), .int .i64 b, .int .u8 (gt.toNat : Int), .bool gm] 61)).heap.size = w3.heap.size + 1) := Y (by simp)
 have HLT3 := Y HS3.out.lt
 have HOL3 := Y HS3.out.own_lt
 have HNE : Hid (w.heap.size < w3.heap.size) := Y (World.block_lt_of_cell? w3 _ z3_0)
 generalize w3.alloc (.cells #[.string ⟨m.toArray⟩, .string ⟨nm.toArray⟩, .int .u8 0, .int .u32 (t : Int), .int .u32 (a : Int), .int .i64 b, .int .u8 (gt.toNat : Int), .bool gm] 61) = wb at HX1 HBA HSW HMW HSZ ⊢
 clear z3_0 z3_1 z3_2 z3_3 z3_4 z3_5 z3_6 z3_7
 obtain ⟨Q, hQ⟩ : ∃ Q, w3.heap.size = Q := ⟨_, rfl⟩
 rw [hQ] at HX1 HSZ HLT3 HOL3 HNE ⊢
 clear hQ HS3 HM3 HBA
 have HXQ : Hid (∀ (W : World) (V : Value), WMod R wb v3 W V → W.heap[Q]? = some (.cells #[.string ⟨m.toArray⟩, .string ⟨nm.toArray⟩, .int .u8 0, .int .u32 (t : Int), .int .u32 (a : Int), .int .i64 b, .int .u8 (gt.toNat : Int), .bool gm] 61 (0, 0))) := Y (fun W V hm => hm.1.heap HX1.out (fun e => by
  rcases e with e | e
  ·have := HLT3.out; omega
  ·have := HOL3.out _ e; omega))
 obtain ⟨z4_0, z4_1, z4_2, z4_3, z4_4, z4_5, z4_6, z4_7⟩ := HXB.out _ _ HMW.out
 clear z4_0 z4_1
 go_upto_region 18 with (go_at_call 96; clear tok4; refine (HP4.out _ _ HSW.out (((WMod.on v HB0.out).trans HMW.out).low HW.out)).mono ?_; rintro e w4 ⟨rfl, v4, hs, hm⟩; have HS4 := Y hs; have HM4 := Y (HMW.out.trans hm); have HC4 := Y (HXQ.out _ _ hm); have HWB := Y hm; clear hs hm; have g4 : ∀ j, w4.frozen? ⟨Q, j, none⟩ = false := (fun j => frozen_of_row w4 Q j _ _ HC4.out); have y3 : w4.cell? ⟨Q, 3, none⟩ = some (.int .u32 (t : Int)) := (by rw [cell_of_row w4 _ 3 _ _ (0, 0) HC4.out]; rfl))
 have HC5 : Hid ((w4.setCell ⟨Q, 3, none⟩ (.int .u32 0)).heap[Q]? = some (.cells #[.string ⟨m.toArray⟩, .string ⟨nm.toArray⟩, .int .u8 0, .int .u32 0, .int .u32 (a : Int), .int .i64 b, .int .u8 (gt.toNat : Int), .bool gm] 61 (0, 0))) := Y (by rw [heap_setCell_same w4 Q 3 _ _ _ HC4.out]; rfl)
 have HB5 : Hid (Mod (· = Q) w4 (w4.setCell ⟨Q, 3, none⟩ (.int .u32 0))) := Y (Mod.setCell (T := (· = Q)) (Mod.refl _ w4) (fun _ => rfl) _)
 generalize w4.setCell ⟨Q, 3, none⟩ (.int .u32 0) = w5 at HC5 HB5 ⊢
 clear g4 y3 z4_2 z4_3 z4_4 z4_5 z4_6 z4_7
 have HS5 : Hid (WS w5 R v4 (adv (adv (adv (adv s (okName m) (encName m)) (okName nm) (encName nm)) (kd.toNat ≤ 3) ([kd])) (True) (Leb.encU t))) := Y (HS4.out.keep HB5.out (fun e => by have := HLT3.out; omega) (fun j hj e => by
  rcases HWB.out.2 j hj with e2 | e2
  ·have := HOL3.out _ e2; omega
  ·have := HSZ.out; omega))
 have HMZ : Hid (WMod R w v w5 v4) := Y (by
  have hz := (WMod.on v HB0.out).trans HM4.out
  exact ⟨hz.1.trans HB5.out (fun g hg e => by have := HNE.out; omega), hz.2⟩)
 have hx := HB5.out.heap (HM4.out.1.heap HX0.out (fun e => by
  rcases e with e | e
  ·have := HLT.out; omega
  ·have := HOL.out _ e; omega)) (fun e => by have := HNE.out; omega)
 have x0 : w5.cell? ⟨w.heap.size, 0, none⟩ = some (.string ⟨m.toArray⟩) := by rw [cell_of_row w5 _ 0 _ _ (0, 0) hx]; rfl
 have x1 : w5.cell? ⟨w.heap.size, 1, none⟩ = some (.string ⟨nm.toArray⟩) := by rw [cell_of_row w5 _ 1 _ _ (0, 0) hx]; rfl
 have x2 : w5.cell? ⟨w.heap.size, 2, none⟩ = some (.int .u8 0) := by rw [cell_of_row w5 _ 2 _ _ (0, 0) hx]; rfl
 have r0 : w5.cell? ⟨Q, 0, none⟩ = some (.string ⟨m.toArray⟩) := by rw [cell_of_row w5 _ 0 _ _ (0, 0) HC5.out]; rfl
 have r1 : w5.cell? ⟨Q, 1, none⟩ = some (.string ⟨nm.toArray⟩) := by rw [cell_of_row w5 _ 1 _ _ (0, 0) HC5.out]; rfl
 have r2 : w5.cell? ⟨Q, 2, none⟩ = some (.int .u8 0) := by rw [cell_of_row w5 _ 2 _ _ (0, 0) HC5.out]; rfl
 have r3 : w5.cell? ⟨Q, 3, none⟩ = some (.int .u32 0) := by rw [cell_of_row w5 _ 3 _ _ (0, 0) HC5.out]; rfl
 have r4 : w5.cell? ⟨Q, 4, none⟩ = some (.int .u32 (a : Int)) := by rw [cell_of_row w5 _ 4 _ _ (0, 0) HC5.out]; rfl
 have r5 : w5.cell? ⟨Q, 5, none⟩ = some (.int .i64 b) := by rw [cell_of_row w5 _ 5 _ _ (0, 0) HC5.out]; rfl
 have r6 : w5.cell? ⟨Q, 6, none⟩ = some (.int .u8 (gt.toNat : Int)) := by rw [cell_of_row w5 _ 6 _ _ (0, 0) HC5.out]; rfl
 have r7 : w5.cell? ⟨Q, 7, none⟩ = some (.bool gm) := by rw [cell_of_row w5 _ 7 _ _ (0, 0) HC5.out]; rfl
 clear hx
 go_wp2_with (go_at_call 131; clear tok5; refine (HP5.out _ (by simp [*]) _ _ HS5.out (HMZ.out.low HW.out)).mono ?_; rintro e w6 ⟨rfl, v6, hs, hm⟩)
 all_goals
  (first | go_end0 | refine bodyPost_ret (results_none rfl _ _ _) rfl ?_)
  rw [← HST.out]
  exact ⟨rfl, v6, hs, HMZ.out.trans hm⟩
theorem eimp_1 (R : Nat) (v : Value) (s : Option (List UInt8)) (m nm : List UInt8) (kd : UInt8) (t a : Nat) (b : Int) (gt : UInt8) (gm : Bool) (w : World) (h : WS w R v s) (hl1 : m.length ≤ 1000000) (hl2 : nm.length ≤ 1000000) (hk : (kd.toNat : Int) = 1) (ha : a < 4294967296) (hb0 : -9223372036854775808 ≤ b) (hb1 : b ≤ 9223372036854775807) (hT : Tb w) :
  Calls Tryz.prog 94 #[.pointer (some ⟨R, 0, none⟩), .agg #[.string ⟨m.toArray⟩, .string ⟨nm.toArray⟩, .int .u8 1, .int .u32 (t : Int), .int .u32 (a : Int), .int .i64 b, .int .u8 (gt.toNat : Int), .bool gm]] w (ab R w v (adv s (okImp (⟨m, nm, kd, t, ⟨a, b⟩, ⟨gt, gm⟩⟩ : Imp)) (encImp (⟨m, nm, kd, t, ⟨a, b⟩, ⟨gt, gm⟩⟩ : Imp)))) := by
 have HST : Hid (adv (adv (adv (adv (adv s (okName m) (encName m)) (okName nm) (encName nm)) (kd.toNat ≤ 3) ([kd])) (okLim ⟨a, b⟩) (encTable ⟨a, b⟩)) (t = 0 ∧ gt.toNat = 0 ∧ gm = false) ([]) = adv s (okImp (⟨m, nm, kd, t, ⟨a, b⟩, ⟨gt, gm⟩⟩ : Imp)) (encImp (⟨m, nm, kd, t, ⟨a, b⟩, ⟨gt, gm⟩⟩ : Imp))) := Y (by
  obtain rfl : kd = 1 := u8_of (n := 1) (by omega) (by omega)
  rw [ah, ah, ah, ah]
  exact aj (by simp [okImp, okMore, fu]) (fun _ => by simp [encImp, encMore, encTable]))
 have HP1 : Hid (∀ (W : World) (V : Value), WS W R V (s) → Mod (R ≤ ·) w W → Calls Tryz.prog 128 #[.pointer (some ⟨R, 0, none⟩), .string ⟨m.toArray⟩] W (ab R W V (adv (s) (okName m) (encName m)))) := Y (fun W V hW hM => ba R V _ m W hW hl1 (hT.low hM h.two))
 have HP2 : Hid (∀ (W : World) (V : Value), WS W R V (adv s (okName m) (encName m)) → Mod (R ≤ ·) w W → Calls Tryz.prog 128 #[.pointer (some ⟨R, 0, none⟩), .string ⟨nm.toArray⟩] W (ab R W V (adv (adv s (okName m) (encName m)) (okName nm) (encName nm)))) := Y (fun W V hW hM => ba R V _ nm W hW hl2 (hT.low hM h.two))
 have HP3 : Hid (∀ (W : World) (V : Value), WS W R V (adv (adv s (okName m) (encName m)) (okName nm) (encName nm)) → Mod (R ≤ ·) w W → Calls Tryz.prog 129 #[.pointer (some ⟨R, 0, none⟩), .int .u8 1] W (ab R W V (adv (adv (adv s (okName m) (encName m)) (okName nm) (encName nm)) (kd.toNat ≤ 3) ([kd])))) := Y (fun W V hW hM => co R V _ kd _ W hW hk)
 have HP4 : Hid (∀ (W : World) (V : Value), WS W R V (adv (adv (adv s (okName m) (encName m)) (okName nm) (encName nm)) (kd.toNat ≤ 3) ([kd])) → Mod (R ≤ ·) w W → Calls Tryz.prog 98 #[.pointer (some ⟨R, 0, none⟩), .agg #[.int .u32 (a : Int), .int .i64 b]] W (ab R W V (adv (adv (adv (adv s (okName m) (encName m)) (okName nm) (encName nm)) (kd.toNat ≤ 3) ([kd])) (okLim ⟨a, b⟩) (encTable ⟨a, b⟩)))) := Y (fun W V hW hM => etab_any R V _ a b W hW ha hb0 hb1)
 have HP5 : Hid (∀ (bb : Bool), (bb = true ↔ t = 0 ∧ gt.toNat = 0 ∧ gm = false) → ∀ (W : World) (V : Value), WS W R V (adv (adv (adv (adv s (okName m) (encName m)) (okName nm) (encName nm)) (kd.toNat ≤ 3) ([kd])) (okLim ⟨a, b⟩) (encTable ⟨a, b⟩)) → Mod (R ≤ ·) w W → Calls Tryz.prog 131 #[.pointer (some ⟨R, 0, none⟩), .bool bb] W (ab R W V (adv (adv (adv (adv (adv s (okName m) (encName m)) (okName nm) (encName nm)) (kd.toNat ≤ 3) ([kd])) (okLim ⟨a, b⟩) (encTable ⟨a, b⟩)) (t = 0 ∧ gt.toNat = 0 ∧ gm = false) ([])))) := Y (fun bb hb W V hW hM => by have h := aq R V _ bb W hW; rwa [aj (q := t = 0 ∧ gt.toNat = 0 ∧ gm = false) (z := []) hb (fun _ => rfl)] at h)
 have HW := Y h
 have tok1 : True := trivial
 have tok2 : True := trivial
 have tok3 : True := trivial
 have tok4 : True := trivial
 have tok5 : True := trivial
 have HX0 : Hid ((w.alloc (.cells #[.string ⟨m.toArray⟩, .string ⟨nm.toArray⟩, .int .u8 1, .int .u32 (t : Int), .int .u32 (a : Int), .int .i64 b, .int .u8 (gt.toNat : Int), .bool gm] 61)).heap[w.heap.size]? = some (.cells #[.string ⟨m.toArray⟩, .string ⟨nm.toArray⟩, .int .u8 1, .int .u32 (t : Int), .int .u32 (a : Int), .int .i64 b, .int .u8 (gt.toNat : Int), .bool gm] 61 (0, 0))) := Y (heap_alloc_new w _)
 have HB0 : Hid (Below w.heap.size w (w.alloc (.cells #[.string ⟨m.toArray⟩, .string ⟨nm.toArray⟩, .int .u8 1, .int .u32 (t : Int), .int .u32 (a : Int), .int .i64 b, .int .u8 (gt.toNat : Int), .bool gm] 61))) := Y ((Below.refl _ _).alloc (Nat.le_refl _) _)
 have HS0 : Hid (WS (w.alloc (.cells #[.string ⟨m.toArray⟩, .string ⟨nm.toArray⟩, .int .u8 1, .int .u32 (t : Int), .int .u32 (a : Int), .int .i64 b, .int .u8 (gt.toNat : Int), .bool gm] 61)) R v s) := Y (h.alloc _)
 have HLT := Y h.lt
 have HOL := Y h.own_lt
 clear h hT hl1 hl2 hk ha hb0 hb1
 go_enter Tryz.func94, Tryz.ntmps94
 go_upto_region 1 with fail
 generalize w.alloc (.cells #[.string ⟨m.toArray⟩, .string ⟨nm.toArray⟩, .int .u8 1, .int .u32 (t : Int), .int .u32 (a : Int), .int .i64 b, .int .u8 (gt.toNat : Int), .bool gm] 61) = w0 at HX0 HB0 HS0 ⊢
 have HM0 := Y (WMod.refl R w0 v)
 have HXB : Hid (∀ (W : World) (V : Value), WMod R w0 v W V → W.cell? ⟨w.heap.size, 0, none⟩ = some (.string ⟨m.toArray⟩) ∧ W.cell? ⟨w.heap.size, 1, none⟩ = some (.string ⟨nm.toArray⟩) ∧ W.cell? ⟨w.heap.size, 2, none⟩ = some (.int .u8 1) ∧ W.cell? ⟨w.heap.size, 3, none⟩ = some (.int .u32 (t : Int)) ∧ W.cell? ⟨w.heap.size, 4, none⟩ = some (.int .u32 (a : Int)) ∧ W.cell? ⟨w.heap.size, 5, none⟩ = some (.int .i64 b) ∧ W.cell? ⟨w.heap.size, 6, none⟩ = some (.int .u8 (gt.toNat : Int)) ∧ W.cell? ⟨w.heap.size, 7, none⟩ = some (.bool gm)) := Y (fun W V hm => by
  have hx := hm.1.heap HX0.out (fun e => by
   rcases e with e | e
   ·have := HLT.out; omega
   ·have := HOL.out _ e; omega)
  exact ⟨by rw [cell_of_row W _ 0 _ _ (0, 0) hx]; rfl, by rw [cell_of_row W _ 1 _ _ (0, 0) hx]; rfl, by rw [cell_of_row W _ 2 _ _ (0, 0) hx]; rfl, by rw [cell_of_row W _ 3 _ _ (0, 0) hx]; rfl, by rw [cell_of_row W _ 4 _ _ (0, 0) hx]; rfl, by rw [cell_of_row W _ 5 _ _ (0, 0) hx]; rfl, by rw [cell_of_row W _ 6 _ _ (0, 0) hx]; rfl, by rw [cell_of_row W _ 7 _ _ (0, 0) hx]; rfl⟩)
 obtain ⟨z0_0, z0_1, z0_2, z0_3, z0_4, z0_5, z0_6, z0_7⟩ := HXB.out _ _ HM0.out
 go_upto_region 4 with (first | (go_at_call 128; clear tok1; refine (HP1.out _ _ HS0.out (((WMod.on v HB0.out).trans HM0.out).low HW.out)).mono ?_; rintro e w1 ⟨rfl, v1, hs, hm⟩; have HS1 := Y hs; have HM1 := Y (HM0.out.trans hm); clear hs hm; obtain ⟨z1_0, z1_1, z1_2, z1_3, z1_4, z1_5, z1_6, z1_7⟩ := HXB.out _ _ HM1.out; clear z0_0 z0_1 z0_2 z0_3 z0_4 z0_5 z0_6 z0_7) | (go_at_call 128; clear tok2; refine (HP2.out _ _ HS1.out (((WMod.on v HB0.out).trans HM1.out).low HW.out)).mono ?_; rintro e w2 ⟨rfl, v2, hs, hm⟩; have HS2 := Y hs; have HM2 := Y (HM1.out.trans hm); clear hs hm; obtain ⟨z2_0, z2_1, z2_2, z2_3, z2_4, z2_5, z2_6, z2_7⟩ := HXB.out _ _ HM2.out; clear z1_0 z1_1 z1_2 z1_3 z1_4 z1_5 z1_6 z1_7) | (go_at_call 129; clear tok3; refine (HP3.out _ _ HS2.out (((WMod.on v HB0.out).trans HM2.out).low HW.out)).mono ?_; rintro e w3 ⟨rfl, v3, hs, hm⟩; have HS3 := Y hs; have HM3 := Y (HM2.out.trans hm); clear hs hm; obtain ⟨z3_0, z3_1, z3_2, z3_3, z3_4, z3_5, z3_6, z3_7⟩ := HXB.out _ _ HM3.out; clear z2_0 z2_1 z2_2 z2_3 z2_4 z2_5 z2_6 z2_7))
 go_upto_region 5 with fail
 have HX1 : Hid ((w3.alloc (.cells #[.string ⟨m.toArray⟩, .string ⟨nm.toArray⟩, .int .u8 1, .int .u32 (t : Int), .int .u32 (a : Int), .int .i64 b, .int .u8 (gt.toNat : Int), .bool gm] 61)).heap[w3.heap.size]? = some (.cells #[.string ⟨m.toArray⟩, .string ⟨nm.toArray⟩, .int .u8 1, .int .u32 (t : Int), .int .u32 (a : Int), .int .i64 b, .int .u8 (gt.toNat : Int), .bool gm] 61 (0, 0))) := Y (heap_alloc_new w3 _)
 have HBA : Hid (Below w3.heap.size w3 (w3.alloc (.cells #[.string ⟨m.toArray⟩, .string ⟨nm.toArray⟩, .int .u8 1, .int .u32 (t : Int), .int .u32 (a : Int), .int .i64 b, .int .u8 (gt.toNat : Int), .bool gm] 61))) := Y ((Below.refl _ _).alloc (Nat.le_refl _) _)
 have HSW := Y (HS3.out.on HBA.out)
 have HMW := Y (HM3.out.trans (WMod.on v3 HBA.out))
 have HSZ : Hid ((w3.alloc (.cells #[.string ⟨m.toArray⟩, .string ⟨nm.toArray⟩, .int .u8 1, .int .u32 (t : Int), .int .u32 (a : Int), .int .i64 b, .int .u8 (gt.toNat : Int), .bool gm] 61)).heap.size = w3.heap.size + 1) := Y (by simp)
 have HLT3 := Y HS3.out.lt
 have HOL3 := Y HS3.out.own_lt
 have HNE : Hid (w.heap.size < w3.heap.size) := Y (World.block_lt_of_cell? w3 _ z3_0)
 generalize w3.alloc (.cells #[.string ⟨m.toArray⟩, .string ⟨nm.toArray⟩, .int .u8 1, .int .u32 (t : Int), .int .u32 (a : Int), .int .i64 b, .int .u8 (gt.toNat : Int), .bool gm] 61) = wb at HX1 HBA HSW HMW HSZ ⊢
 clear z3_0 z3_1 z3_2 z3_3 z3_4 z3_5 z3_6 z3_7
 obtain ⟨Q, hQ⟩ : ∃ Q, w3.heap.size = Q := ⟨_, rfl⟩
 rw [hQ] at HX1 HSZ HLT3 HOL3 HNE ⊢
 clear hQ HS3 HM3 HBA
 have HXQ : Hid (∀ (W : World) (V : Value), WMod R wb v3 W V → W.heap[Q]? = some (.cells #[.string ⟨m.toArray⟩, .string ⟨nm.toArray⟩, .int .u8 1, .int .u32 (t : Int), .int .u32 (a : Int), .int .i64 b, .int .u8 (gt.toNat : Int), .bool gm] 61 (0, 0))) := Y (fun W V hm => hm.1.heap HX1.out (fun e => by
  rcases e with e | e
  ·have := HLT3.out; omega
  ·have := HOL3.out _ e; omega))
 obtain ⟨z4_0, z4_1, z4_2, z4_3, z4_4, z4_5, z4_6, z4_7⟩ := HXB.out _ _ HMW.out
 clear z4_0 z4_1
 go_upto_region 18 with (go_at_call 98; clear tok4; refine (HP4.out _ _ HSW.out (((WMod.on v HB0.out).trans HMW.out).low HW.out)).mono ?_; rintro e w4 ⟨rfl, v4, hs, hm⟩; have HS4 := Y hs; have HM4 := Y (HMW.out.trans hm); have HC4 := Y (HXQ.out _ _ hm); have HWB := Y hm; clear hs hm; have g4 : ∀ j, w4.frozen? ⟨Q, j, none⟩ = false := (fun j => frozen_of_row w4 Q j _ _ HC4.out); have y4 : w4.cell? ⟨Q, 4, none⟩ = some (.int .u32 (a : Int)) := (by rw [cell_of_row w4 _ 4 _ _ (0, 0) HC4.out]; rfl); have y5 : w4.cell? ⟨Q, 5, none⟩ = some (.int .i64 b) := (by rw [cell_of_row w4 _ 5 _ _ (0, 0) HC4.out]; rfl))
 have HC5 : Hid (((w4.setCell ⟨Q, 4, none⟩ (.int .u32 0)).setCell ⟨Q, 5, none⟩ (.int .i64 0)).heap[Q]? = some (.cells #[.string ⟨m.toArray⟩, .string ⟨nm.toArray⟩, .int .u8 1, .int .u32 (t : Int), .int .u32 0, .int .i64 0, .int .u8 (gt.toNat : Int), .bool gm] 61 (0, 0))) := Y (by rw [heap_setCell_same _ Q 5 _ _ _ (heap_setCell_same w4 Q 4 _ _ _ HC4.out)]; rfl)
 have HB5 : Hid (Mod (· = Q) w4 ((w4.setCell ⟨Q, 4, none⟩ (.int .u32 0)).setCell ⟨Q, 5, none⟩ (.int .i64 0))) := Y ((Mod.setCell (T := (· = Q)) (Mod.setCell (T := (· = Q)) (Mod.refl _ w4) (p := ⟨Q, 4, none⟩) (fun _ => rfl) (.int .u32 0)) (p := ⟨Q, 5, none⟩) (fun _ => rfl) (.int .i64 0)))
 generalize (w4.setCell ⟨Q, 4, none⟩ (.int .u32 0)).setCell ⟨Q, 5, none⟩ (.int .i64 0) = w5 at HC5 HB5 ⊢
 clear g4 y4 y5 z4_2 z4_3 z4_4 z4_5 z4_6 z4_7
 have HS5 : Hid (WS w5 R v4 (adv (adv (adv (adv s (okName m) (encName m)) (okName nm) (encName nm)) (kd.toNat ≤ 3) ([kd])) (okLim ⟨a, b⟩) (encTable ⟨a, b⟩))) := Y (HS4.out.keep HB5.out (fun e => by have := HLT3.out; omega) (fun j hj e => by
  rcases HWB.out.2 j hj with e2 | e2
  ·have := HOL3.out _ e2; omega
  ·have := HSZ.out; omega))
 have HMZ : Hid (WMod R w v w5 v4) := Y (by
  have hz := (WMod.on v HB0.out).trans HM4.out
  exact ⟨hz.1.trans HB5.out (fun g hg e => by have := HNE.out; omega), hz.2⟩)
 have hx := HB5.out.heap (HM4.out.1.heap HX0.out (fun e => by
  rcases e with e | e
  ·have := HLT.out; omega
  ·have := HOL.out _ e; omega)) (fun e => by have := HNE.out; omega)
 have x0 : w5.cell? ⟨w.heap.size, 0, none⟩ = some (.string ⟨m.toArray⟩) := by rw [cell_of_row w5 _ 0 _ _ (0, 0) hx]; rfl
 have x1 : w5.cell? ⟨w.heap.size, 1, none⟩ = some (.string ⟨nm.toArray⟩) := by rw [cell_of_row w5 _ 1 _ _ (0, 0) hx]; rfl
 have x2 : w5.cell? ⟨w.heap.size, 2, none⟩ = some (.int .u8 1) := by rw [cell_of_row w5 _ 2 _ _ (0, 0) hx]; rfl
 have r0 : w5.cell? ⟨Q, 0, none⟩ = some (.string ⟨m.toArray⟩) := by rw [cell_of_row w5 _ 0 _ _ (0, 0) HC5.out]; rfl
 have r1 : w5.cell? ⟨Q, 1, none⟩ = some (.string ⟨nm.toArray⟩) := by rw [cell_of_row w5 _ 1 _ _ (0, 0) HC5.out]; rfl
 have r2 : w5.cell? ⟨Q, 2, none⟩ = some (.int .u8 1) := by rw [cell_of_row w5 _ 2 _ _ (0, 0) HC5.out]; rfl
 have r3 : w5.cell? ⟨Q, 3, none⟩ = some (.int .u32 (t : Int)) := by rw [cell_of_row w5 _ 3 _ _ (0, 0) HC5.out]; rfl
 have r4 : w5.cell? ⟨Q, 4, none⟩ = some (.int .u32 0) := by rw [cell_of_row w5 _ 4 _ _ (0, 0) HC5.out]; rfl
 have r5 : w5.cell? ⟨Q, 5, none⟩ = some (.int .i64 0) := by rw [cell_of_row w5 _ 5 _ _ (0, 0) HC5.out]; rfl
 have r6 : w5.cell? ⟨Q, 6, none⟩ = some (.int .u8 (gt.toNat : Int)) := by rw [cell_of_row w5 _ 6 _ _ (0, 0) HC5.out]; rfl
 have r7 : w5.cell? ⟨Q, 7, none⟩ = some (.bool gm) := by rw [cell_of_row w5 _ 7 _ _ (0, 0) HC5.out]; rfl
 clear hx
 go_wp2_with (go_at_call 131; clear tok5; refine (HP5.out _ (by simp [*]) _ _ HS5.out (HMZ.out.low HW.out)).mono ?_; rintro e w6 ⟨rfl, v6, hs, hm⟩)
 all_goals
  (first | go_end0 | refine bodyPost_ret (results_none rfl _ _ _) rfl ?_)
  rw [← HST.out]
  exact ⟨rfl, v6, hs, HMZ.out.trans hm⟩
theorem eimp_2 (R : Nat) (v : Value) (s : Option (List UInt8)) (m nm : List UInt8) (kd : UInt8) (t a : Nat) (b : Int) (gt : UInt8) (gm : Bool) (w : World) (h : WS w R v s) (hl1 : m.length ≤ 1000000) (hl2 : nm.length ≤ 1000000) (hk : (kd.toNat : Int) = 2) (ha : a < 4294967296) (hb0 : -9223372036854775808 ≤ b) (hb1 : b ≤ 9223372036854775807) (hT : Tb w) :
  Calls Tryz.prog 94 #[.pointer (some ⟨R, 0, none⟩), .agg #[.string ⟨m.toArray⟩, .string ⟨nm.toArray⟩, .int .u8 2, .int .u32 (t : Int), .int .u32 (a : Int), .int .i64 b, .int .u8 (gt.toNat : Int), .bool gm]] w (ab R w v (adv s (okImp (⟨m, nm, kd, t, ⟨a, b⟩, ⟨gt, gm⟩⟩ : Imp)) (encImp (⟨m, nm, kd, t, ⟨a, b⟩, ⟨gt, gm⟩⟩ : Imp)))) := by
 have HST : Hid (adv (adv (adv (adv (adv s (okName m) (encName m)) (okName nm) (encName nm)) (kd.toNat ≤ 3) ([kd])) (okLim ⟨a, b⟩) (encLim ⟨a, b⟩)) (t = 0 ∧ gt.toNat = 0 ∧ gm = false) ([]) = adv s (okImp (⟨m, nm, kd, t, ⟨a, b⟩, ⟨gt, gm⟩⟩ : Imp)) (encImp (⟨m, nm, kd, t, ⟨a, b⟩, ⟨gt, gm⟩⟩ : Imp))) := Y (by
  obtain rfl : kd = 2 := u8_of (n := 2) (by omega) (by omega)
  rw [ah, ah, ah, ah]
  exact aj (by simp [okImp, okMore, fu]) (fun _ => by simp [encImp, encMore]))
 have HP1 : Hid (∀ (W : World) (V : Value), WS W R V (s) → Mod (R ≤ ·) w W → Calls Tryz.prog 128 #[.pointer (some ⟨R, 0, none⟩), .string ⟨m.toArray⟩] W (ab R W V (adv (s) (okName m) (encName m)))) := Y (fun W V hW hM => ba R V _ m W hW hl1 (hT.low hM h.two))
 have HP2 : Hid (∀ (W : World) (V : Value), WS W R V (adv s (okName m) (encName m)) → Mod (R ≤ ·) w W → Calls Tryz.prog 128 #[.pointer (some ⟨R, 0, none⟩), .string ⟨nm.toArray⟩] W (ab R W V (adv (adv s (okName m) (encName m)) (okName nm) (encName nm)))) := Y (fun W V hW hM => ba R V _ nm W hW hl2 (hT.low hM h.two))
 have HP3 : Hid (∀ (W : World) (V : Value), WS W R V (adv (adv s (okName m) (encName m)) (okName nm) (encName nm)) → Mod (R ≤ ·) w W → Calls Tryz.prog 129 #[.pointer (some ⟨R, 0, none⟩), .int .u8 2] W (ab R W V (adv (adv (adv s (okName m) (encName m)) (okName nm) (encName nm)) (kd.toNat ≤ 3) ([kd])))) := Y (fun W V hW hM => co R V _ kd _ W hW hk)
 have HP4 : Hid (∀ (W : World) (V : Value), WS W R V (adv (adv (adv s (okName m) (encName m)) (okName nm) (encName nm)) (kd.toNat ≤ 3) ([kd])) → Mod (R ≤ ·) w W → Calls Tryz.prog 99 #[.pointer (some ⟨R, 0, none⟩), .agg #[.int .u32 (a : Int), .int .i64 b]] W (ab R W V (adv (adv (adv (adv s (okName m) (encName m)) (okName nm) (encName nm)) (kd.toNat ≤ 3) ([kd])) (okLim ⟨a, b⟩) (encLim ⟨a, b⟩)))) := Y (fun W V hW hM => fE R V _ a b W hW ha hb0 hb1)
 have HP5 : Hid (∀ (bb : Bool), (bb = true ↔ t = 0 ∧ gt.toNat = 0 ∧ gm = false) → ∀ (W : World) (V : Value), WS W R V (adv (adv (adv (adv s (okName m) (encName m)) (okName nm) (encName nm)) (kd.toNat ≤ 3) ([kd])) (okLim ⟨a, b⟩) (encLim ⟨a, b⟩)) → Mod (R ≤ ·) w W → Calls Tryz.prog 131 #[.pointer (some ⟨R, 0, none⟩), .bool bb] W (ab R W V (adv (adv (adv (adv (adv s (okName m) (encName m)) (okName nm) (encName nm)) (kd.toNat ≤ 3) ([kd])) (okLim ⟨a, b⟩) (encLim ⟨a, b⟩)) (t = 0 ∧ gt.toNat = 0 ∧ gm = false) ([])))) := Y (fun bb hb W V hW hM => by have h := aq R V _ bb W hW; rwa [aj (q := t = 0 ∧ gt.toNat = 0 ∧ gm = false) (z := []) hb (fun _ => rfl)] at h)
 have HW := Y h
 have tok1 : True := trivial
 have tok2 : True := trivial
 have tok3 : True := trivial
 have tok4 : True := trivial
 have tok5 : True := trivial
 have HX0 : Hid ((w.alloc (.cells #[.string ⟨m.toArray⟩, .string ⟨nm.toArray⟩, .int .u8 2, .int .u32 (t : Int), .int .u32 (a : Int), .int .i64 b, .int .u8 (gt.toNat : Int), .bool gm] 61)).heap[w.heap.size]? = some (.cells #[.string ⟨m.toArray⟩, .string ⟨nm.toArray⟩, .int .u8 2, .int .u32 (t : Int), .int .u32 (a : Int), .int .i64 b, .int .u8 (gt.toNat : Int), .bool gm] 61 (0, 0))) := Y (heap_alloc_new w _)
 have HB0 : Hid (Below w.heap.size w (w.alloc (.cells #[.string ⟨m.toArray⟩, .string ⟨nm.toArray⟩, .int .u8 2, .int .u32 (t : Int), .int .u32 (a : Int), .int .i64 b, .int .u8 (gt.toNat : Int), .bool gm] 61))) := Y ((Below.refl _ _).alloc (Nat.le_refl _) _)
 have HS0 : Hid (WS (w.alloc (.cells #[.string ⟨m.toArray⟩, .string ⟨nm.toArray⟩, .int .u8 2, .int .u32 (t : Int), .int .u32 (a : Int), .int .i64 b, .int .u8 (gt.toNat : Int), .bool gm] 61)) R v s) := Y (h.alloc _)
 have HLT := Y h.lt
 have HOL := Y h.own_lt
 clear h hT hl1 hl2 hk ha hb0 hb1
 go_enter Tryz.func94, Tryz.ntmps94
 go_upto_region 1 with fail
 generalize w.alloc (.cells #[.string ⟨m.toArray⟩, .string ⟨nm.toArray⟩, .int .u8 2, .int .u32 (t : Int), .int .u32 (a : Int), .int .i64 b, .int .u8 (gt.toNat : Int), .bool gm] 61) = w0 at HX0 HB0 HS0 ⊢
 have HM0 := Y (WMod.refl R w0 v)
 have HXB : Hid (∀ (W : World) (V : Value), WMod R w0 v W V → W.cell? ⟨w.heap.size, 0, none⟩ = some (.string ⟨m.toArray⟩) ∧ W.cell? ⟨w.heap.size, 1, none⟩ = some (.string ⟨nm.toArray⟩) ∧ W.cell? ⟨w.heap.size, 2, none⟩ = some (.int .u8 2) ∧ W.cell? ⟨w.heap.size, 3, none⟩ = some (.int .u32 (t : Int)) ∧ W.cell? ⟨w.heap.size, 4, none⟩ = some (.int .u32 (a : Int)) ∧ W.cell? ⟨w.heap.size, 5, none⟩ = some (.int .i64 b) ∧ W.cell? ⟨w.heap.size, 6, none⟩ = some (.int .u8 (gt.toNat : Int)) ∧ W.cell? ⟨w.heap.size, 7, none⟩ = some (.bool gm)) := Y (fun W V hm => by
  have hx := hm.1.heap HX0.out (fun e => by
   rcases e with e | e
   ·have := HLT.out; omega
   ·have := HOL.out _ e; omega)
  exact ⟨by rw [cell_of_row W _ 0 _ _ (0, 0) hx]; rfl, by rw [cell_of_row W _ 1 _ _ (0, 0) hx]; rfl, by rw [cell_of_row W _ 2 _ _ (0, 0) hx]; rfl, by rw [cell_of_row W _ 3 _ _ (0, 0) hx]; rfl, by rw [cell_of_row W _ 4 _ _ (0, 0) hx]; rfl, by rw [cell_of_row W _ 5 _ _ (0, 0) hx]; rfl, by rw [cell_of_row W _ 6 _ _ (0, 0) hx]; rfl, by rw [cell_of_row W _ 7 _ _ (0, 0) hx]; rfl⟩)
 obtain ⟨z0_0, z0_1, z0_2, z0_3, z0_4, z0_5, z0_6, z0_7⟩ := HXB.out _ _ HM0.out
 go_upto_region 4 with (first | (go_at_call 128; clear tok1; refine (HP1.out _ _ HS0.out (((WMod.on v HB0.out).trans HM0.out).low HW.out)).mono ?_; rintro e w1 ⟨rfl, v1, hs, hm⟩; have HS1 := Y hs; have HM1 := Y (HM0.out.trans hm); clear hs hm; obtain ⟨z1_0, z1_1, z1_2, z1_3, z1_4, z1_5, z1_6, z1_7⟩ := HXB.out _ _ HM1.out; clear z0_0 z0_1 z0_2 z0_3 z0_4 z0_5 z0_6 z0_7) | (go_at_call 128; clear tok2; refine (HP2.out _ _ HS1.out (((WMod.on v HB0.out).trans HM1.out).low HW.out)).mono ?_; rintro e w2 ⟨rfl, v2, hs, hm⟩; have HS2 := Y hs; have HM2 := Y (HM1.out.trans hm); clear hs hm; obtain ⟨z2_0, z2_1, z2_2, z2_3, z2_4, z2_5, z2_6, z2_7⟩ := HXB.out _ _ HM2.out; clear z1_0 z1_1 z1_2 z1_3 z1_4 z1_5 z1_6 z1_7) | (go_at_call 129; clear tok3; refine (HP3.out _ _ HS2.out (((WMod.on v HB0.out).trans HM2.out).low HW.out)).mono ?_; rintro e w3 ⟨rfl, v3, hs, hm⟩; have HS3 := Y hs; have HM3 := Y (HM2.out.trans hm); clear hs hm; obtain ⟨z3_0, z3_1, z3_2, z3_3, z3_4, z3_5, z3_6, z3_7⟩ := HXB.out _ _ HM3.out; clear z2_0 z2_1 z2_2 z2_3 z2_4 z2_5 z2_6 z2_7))
 go_upto_region 5 with fail
 have HX1 : Hid ((w3.alloc (.cells #[.string ⟨m.toArray⟩, .string ⟨nm.toArray⟩, .int .u8 2, .int .u32 (t : Int), .int .u32 (a : Int), .int .i64 b, .int .u8 (gt.toNat : Int), .bool gm] 61)).heap[w3.heap.size]? = some (.cells #[.string ⟨m.toArray⟩, .string ⟨nm.toArray⟩, .int .u8 2, .int .u32 (t : Int), .int .u32 (a : Int), .int .i64 b, .int .u8 (gt.toNat : Int), .bool gm] 61 (0, 0))) := Y (heap_alloc_new w3 _)
 have HBA : Hid (Below w3.heap.size w3 (w3.alloc (.cells #[.string ⟨m.toArray⟩, .string ⟨nm.toArray⟩, .int .u8 2, .int .u32 (t : Int), .int .u32 (a : Int), .int .i64 b, .int .u8 (gt.toNat : Int), .bool gm] 61))) := Y ((Below.refl _ _).alloc (Nat.le_refl _) _)
 have HSW := Y (HS3.out.on HBA.out)
 have HMW := Y (HM3.out.trans (WMod.on v3 HBA.out))
 have HSZ : Hid ((w3.alloc (.cells #[.string ⟨m.toArray⟩, .string ⟨nm.toArray⟩, .int .u8 2, .int .u32 (t : Int), .int .u32 (a : Int), .int .i64 b, .int .u8 (gt.toNat : Int), .bool gm] 61)).heap.size = w3.heap.size + 1) := Y (by simp)
 have HLT3 := Y HS3.out.lt
 have HOL3 := Y HS3.out.own_lt
 have HNE : Hid (w.heap.size < w3.heap.size) := Y (World.block_lt_of_cell? w3 _ z3_0)
 generalize w3.alloc (.cells #[.string ⟨m.toArray⟩, .string ⟨nm.toArray⟩, .int .u8 2, .int .u32 (t : Int), .int .u32 (a : Int), .int .i64 b, .int .u8 (gt.toNat : Int), .bool gm] 61) = wb at HX1 HBA HSW HMW HSZ ⊢
 clear z3_0 z3_1 z3_2 z3_3 z3_4 z3_5 z3_6 z3_7
 obtain ⟨Q, hQ⟩ : ∃ Q, w3.heap.size = Q := ⟨_, rfl⟩
 rw [hQ] at HX1 HSZ HLT3 HOL3 HNE ⊢
 clear hQ HS3 HM3 HBA
 have HXQ : Hid (∀ (W : World) (V : Value), WMod R wb v3 W V → W.heap[Q]? = some (.cells #[.string ⟨m.toArray⟩, .string ⟨nm.toArray⟩, .int .u8 2, .int .u32 (t : Int), .int .u32 (a : Int), .int .i64 b, .int .u8 (gt.toNat : Int), .bool gm] 61 (0, 0))) := Y (fun W V hm => hm.1.heap HX1.out (fun e => by
  rcases e with e | e
  ·have := HLT3.out; omega
  ·have := HOL3.out _ e; omega))
 obtain ⟨z4_0, z4_1, z4_2, z4_3, z4_4, z4_5, z4_6, z4_7⟩ := HXB.out _ _ HMW.out
 clear z4_0 z4_1
 go_upto_region 18 with (go_at_call 99; clear tok4; refine (HP4.out _ _ HSW.out (((WMod.on v HB0.out).trans HMW.out).low HW.out)).mono ?_; rintro e w4 ⟨rfl, v4, hs, hm⟩; have HS4 := Y hs; have HM4 := Y (HMW.out.trans hm); have HC4 := Y (HXQ.out _ _ hm); have HWB := Y hm; clear hs hm; have g4 : ∀ j, w4.frozen? ⟨Q, j, none⟩ = false := (fun j => frozen_of_row w4 Q j _ _ HC4.out); have y4 : w4.cell? ⟨Q, 4, none⟩ = some (.int .u32 (a : Int)) := (by rw [cell_of_row w4 _ 4 _ _ (0, 0) HC4.out]; rfl); have y5 : w4.cell? ⟨Q, 5, none⟩ = some (.int .i64 b) := (by rw [cell_of_row w4 _ 5 _ _ (0, 0) HC4.out]; rfl))
 have HC5 : Hid (((w4.setCell ⟨Q, 4, none⟩ (.int .u32 0)).setCell ⟨Q, 5, none⟩ (.int .i64 0)).heap[Q]? = some (.cells #[.string ⟨m.toArray⟩, .string ⟨nm.toArray⟩, .int .u8 2, .int .u32 (t : Int), .int .u32 0, .int .i64 0, .int .u8 (gt.toNat : Int), .bool gm] 61 (0, 0))) := Y (by rw [heap_setCell_same _ Q 5 _ _ _ (heap_setCell_same w4 Q 4 _ _ _ HC4.out)]; rfl)
 have HB5 : Hid (Mod (· = Q) w4 ((w4.setCell ⟨Q, 4, none⟩ (.int .u32 0)).setCell ⟨Q, 5, none⟩ (.int .i64 0))) := Y ((Mod.setCell (T := (· = Q)) (Mod.setCell (T := (· = Q)) (Mod.refl _ w4) (p := ⟨Q, 4, none⟩) (fun _ => rfl) (.int .u32 0)) (p := ⟨Q, 5, none⟩) (fun _ => rfl) (.int .i64 0)))
 generalize (w4.setCell ⟨Q, 4, none⟩ (.int .u32 0)).setCell ⟨Q, 5, none⟩ (.int .i64 0) = w5 at HC5 HB5 ⊢
 clear g4 y4 y5 z4_2 z4_3 z4_4 z4_5 z4_6 z4_7
 have HS5 : Hid (WS w5 R v4 (adv (adv (adv (adv s (okName m) (encName m)) (okName nm) (encName nm)) (kd.toNat ≤ 3) ([kd])) (okLim ⟨a, b⟩) (encLim ⟨a, b⟩))) := Y (HS4.out.keep HB5.out (fun e => by have := HLT3.out; omega) (fun j hj e => by
  rcases HWB.out.2 j hj with e2 | e2
  ·have := HOL3.out _ e2; omega
  ·have := HSZ.out; omega))
 have HMZ : Hid (WMod R w v w5 v4) := Y (by
  have hz := (WMod.on v HB0.out).trans HM4.out
  exact ⟨hz.1.trans HB5.out (fun g hg e => by have := HNE.out; omega), hz.2⟩)
 have hx := HB5.out.heap (HM4.out.1.heap HX0.out (fun e => by
  rcases e with e | e
  ·have := HLT.out; omega
  ·have := HOL.out _ e; omega)) (fun e => by have := HNE.out; omega)
 have x0 : w5.cell? ⟨w.heap.size, 0, none⟩ = some (.string ⟨m.toArray⟩) := by rw [cell_of_row w5 _ 0 _ _ (0, 0) hx]; rfl
 have x1 : w5.cell? ⟨w.heap.size, 1, none⟩ = some (.string ⟨nm.toArray⟩) := by rw [cell_of_row w5 _ 1 _ _ (0, 0) hx]; rfl
 have x2 : w5.cell? ⟨w.heap.size, 2, none⟩ = some (.int .u8 2) := by rw [cell_of_row w5 _ 2 _ _ (0, 0) hx]; rfl
 have r0 : w5.cell? ⟨Q, 0, none⟩ = some (.string ⟨m.toArray⟩) := by rw [cell_of_row w5 _ 0 _ _ (0, 0) HC5.out]; rfl
 have r1 : w5.cell? ⟨Q, 1, none⟩ = some (.string ⟨nm.toArray⟩) := by rw [cell_of_row w5 _ 1 _ _ (0, 0) HC5.out]; rfl
 have r2 : w5.cell? ⟨Q, 2, none⟩ = some (.int .u8 2) := by rw [cell_of_row w5 _ 2 _ _ (0, 0) HC5.out]; rfl
 have r3 : w5.cell? ⟨Q, 3, none⟩ = some (.int .u32 (t : Int)) := by rw [cell_of_row w5 _ 3 _ _ (0, 0) HC5.out]; rfl
 have r4 : w5.cell? ⟨Q, 4, none⟩ = some (.int .u32 0) := by rw [cell_of_row w5 _ 4 _ _ (0, 0) HC5.out]; rfl
 have r5 : w5.cell? ⟨Q, 5, none⟩ = some (.int .i64 0) := by rw [cell_of_row w5 _ 5 _ _ (0, 0) HC5.out]; rfl
 have r6 : w5.cell? ⟨Q, 6, none⟩ = some (.int .u8 (gt.toNat : Int)) := by rw [cell_of_row w5 _ 6 _ _ (0, 0) HC5.out]; rfl
 have r7 : w5.cell? ⟨Q, 7, none⟩ = some (.bool gm) := by rw [cell_of_row w5 _ 7 _ _ (0, 0) HC5.out]; rfl
 clear hx
 go_wp2_with (go_at_call 131; clear tok5; refine (HP5.out _ (by simp [*]) _ _ HS5.out (HMZ.out.low HW.out)).mono ?_; rintro e w6 ⟨rfl, v6, hs, hm⟩)
 all_goals
  (first | go_end0 | refine bodyPost_ret (results_none rfl _ _ _) rfl ?_)
  rw [← HST.out]
  exact ⟨rfl, v6, hs, HMZ.out.trans hm⟩
theorem eimp_3 (R : Nat) (v : Value) (s : Option (List UInt8)) (m nm : List UInt8) (kd : UInt8) (t a : Nat) (b : Int) (gt : UInt8) (gm : Bool) (w : World) (h : WS w R v s) (hl1 : m.length ≤ 1000000) (hl2 : nm.length ≤ 1000000) (hk : (kd.toNat : Int) = 3) (hT : Tb w) :
  Calls Tryz.prog 94 #[.pointer (some ⟨R, 0, none⟩), .agg #[.string ⟨m.toArray⟩, .string ⟨nm.toArray⟩, .int .u8 3, .int .u32 (t : Int), .int .u32 (a : Int), .int .i64 b, .int .u8 (gt.toNat : Int), .bool gm]] w (ab R w v (adv s (okImp (⟨m, nm, kd, t, ⟨a, b⟩, ⟨gt, gm⟩⟩ : Imp)) (encImp (⟨m, nm, kd, t, ⟨a, b⟩, ⟨gt, gm⟩⟩ : Imp)))) := by
 have HST : Hid (adv (adv (adv (adv (adv s (okName m) (encName m)) (okName nm) (encName nm)) (kd.toNat ≤ 3) ([kd])) (okGlob ⟨gt, gm⟩) (encGlob ⟨gt, gm⟩)) (t = 0 ∧ a = 0 ∧ b = 0) ([]) = adv s (okImp (⟨m, nm, kd, t, ⟨a, b⟩, ⟨gt, gm⟩⟩ : Imp)) (encImp (⟨m, nm, kd, t, ⟨a, b⟩, ⟨gt, gm⟩⟩ : Imp))) := Y (by
  obtain rfl : kd = 3 := u8_of (n := 3) (by omega) (by omega)
  rw [ah, ah, ah, ah]
  exact aj (by simp [okImp, okMore, fu]) (fun _ => by simp [encImp, encMore]))
 have HP1 : Hid (∀ (W : World) (V : Value), WS W R V (s) → Mod (R ≤ ·) w W → Calls Tryz.prog 128 #[.pointer (some ⟨R, 0, none⟩), .string ⟨m.toArray⟩] W (ab R W V (adv (s) (okName m) (encName m)))) := Y (fun W V hW hM => ba R V _ m W hW hl1 (hT.low hM h.two))
 have HP2 : Hid (∀ (W : World) (V : Value), WS W R V (adv s (okName m) (encName m)) → Mod (R ≤ ·) w W → Calls Tryz.prog 128 #[.pointer (some ⟨R, 0, none⟩), .string ⟨nm.toArray⟩] W (ab R W V (adv (adv s (okName m) (encName m)) (okName nm) (encName nm)))) := Y (fun W V hW hM => ba R V _ nm W hW hl2 (hT.low hM h.two))
 have HP3 : Hid (∀ (W : World) (V : Value), WS W R V (adv (adv s (okName m) (encName m)) (okName nm) (encName nm)) → Mod (R ≤ ·) w W → Calls Tryz.prog 129 #[.pointer (some ⟨R, 0, none⟩), .int .u8 3] W (ab R W V (adv (adv (adv s (okName m) (encName m)) (okName nm) (encName nm)) (kd.toNat ≤ 3) ([kd])))) := Y (fun W V hW hM => co R V _ kd _ W hW hk)
 have HP4 : Hid (∀ (W : World) (V : Value), WS W R V (adv (adv (adv s (okName m) (encName m)) (okName nm) (encName nm)) (kd.toNat ≤ 3) ([kd])) → Mod (R ≤ ·) w W → Calls Tryz.prog 130 #[.pointer (some ⟨R, 0, none⟩), .agg #[.int .u8 (gt.toNat : Int), .bool gm]] W (ab R W V (adv (adv (adv (adv s (okName m) (encName m)) (okName nm) (encName nm)) (kd.toNat ≤ 3) ([kd])) (okGlob ⟨gt, gm⟩) (encGlob ⟨gt, gm⟩)))) := Y (fun W V hW hM => gS R V _ ⟨gt, gm⟩ W hW)
 have HP5 : Hid (∀ (bb : Bool), (bb = true ↔ t = 0 ∧ a = 0 ∧ b = 0) → ∀ (W : World) (V : Value), WS W R V (adv (adv (adv (adv s (okName m) (encName m)) (okName nm) (encName nm)) (kd.toNat ≤ 3) ([kd])) (okGlob ⟨gt, gm⟩) (encGlob ⟨gt, gm⟩)) → Mod (R ≤ ·) w W → Calls Tryz.prog 131 #[.pointer (some ⟨R, 0, none⟩), .bool bb] W (ab R W V (adv (adv (adv (adv (adv s (okName m) (encName m)) (okName nm) (encName nm)) (kd.toNat ≤ 3) ([kd])) (okGlob ⟨gt, gm⟩) (encGlob ⟨gt, gm⟩)) (t = 0 ∧ a = 0 ∧ b = 0) ([])))) := Y (fun bb hb W V hW hM => by have h := aq R V _ bb W hW; rwa [aj (q := t = 0 ∧ a = 0 ∧ b = 0) (z := []) hb (fun _ => rfl)] at h)
 have HW := Y h
 have tok1 : True := trivial
 have tok2 : True := trivial
 have tok3 : True := trivial
 have tok4 : True := trivial
 have tok5 : True := trivial
 have HX0 : Hid ((w.alloc (.cells #[.string ⟨m.toArray⟩, .string ⟨nm.toArray⟩, .int .u8 3, .int .u32 (t : Int), .int .u32 (a : Int), .int .i64 b, .int .u8 (gt.toNat : Int), .bool gm] 61)).heap[w.heap.size]? = some (.cells #[.string ⟨m.toArray⟩, .string ⟨nm.toArray⟩, .int .u8 3, .int .u32 (t : Int), .int .u32 (a : Int), .int .i64 b, .int .u8 (gt.toNat : Int), .bool gm] 61 (0, 0))) := Y (heap_alloc_new w _)
 have HB0 : Hid (Below w.heap.size w (w.alloc (.cells #[.string ⟨m.toArray⟩, .string ⟨nm.toArray⟩, .int .u8 3, .int .u32 (t : Int), .int .u32 (a : Int), .int .i64 b, .int .u8 (gt.toNat : Int), .bool gm] 61))) := Y ((Below.refl _ _).alloc (Nat.le_refl _) _)
 have HS0 : Hid (WS (w.alloc (.cells #[.string ⟨m.toArray⟩, .string ⟨nm.toArray⟩, .int .u8 3, .int .u32 (t : Int), .int .u32 (a : Int), .int .i64 b, .int .u8 (gt.toNat : Int), .bool gm] 61)) R v s) := Y (h.alloc _)
 have HLT := Y h.lt
 have HOL := Y h.own_lt
 clear h hT hl1 hl2 hk
 go_enter Tryz.func94, Tryz.ntmps94
 go_upto_region 1 with fail
 generalize w.alloc (.cells #[.string ⟨m.toArray⟩, .string ⟨nm.toArray⟩, .int .u8 3, .int .u32 (t : Int), .int .u32 (a : Int), .int .i64 b, .int .u8 (gt.toNat : Int), .bool gm] 61) = w0 at HX0 HB0 HS0 ⊢
 have HM0 := Y (WMod.refl R w0 v)
 have HXB : Hid (∀ (W : World) (V : Value), WMod R w0 v W V → W.cell? ⟨w.heap.size, 0, none⟩ = some (.string ⟨m.toArray⟩) ∧ W.cell? ⟨w.heap.size, 1, none⟩ = some (.string ⟨nm.toArray⟩) ∧ W.cell? ⟨w.heap.size, 2, none⟩ = some (.int .u8 3) ∧ W.cell? ⟨w.heap.size, 3, none⟩ = some (.int .u32 (t : Int)) ∧ W.cell? ⟨w.heap.size, 4, none⟩ = some (.int .u32 (a : Int)) ∧ W.cell? ⟨w.heap.size, 5, none⟩ = some (.int .i64 b) ∧ W.cell? ⟨w.heap.size, 6, none⟩ = some (.int .u8 (gt.toNat : Int)) ∧ W.cell? ⟨w.heap.size, 7, none⟩ = some (.bool gm)) := Y (fun W V hm => by
  have hx := hm.1.heap HX0.out (fun e => by
   rcases e with e | e
   ·have := HLT.out; omega
   ·have := HOL.out _ e; omega)
  exact ⟨by rw [cell_of_row W _ 0 _ _ (0, 0) hx]; rfl, by rw [cell_of_row W _ 1 _ _ (0, 0) hx]; rfl, by rw [cell_of_row W _ 2 _ _ (0, 0) hx]; rfl, by rw [cell_of_row W _ 3 _ _ (0, 0) hx]; rfl, by rw [cell_of_row W _ 4 _ _ (0, 0) hx]; rfl, by rw [cell_of_row W _ 5 _ _ (0, 0) hx]; rfl, by rw [cell_of_row W _ 6 _ _ (0, 0) hx]; rfl, by rw [cell_of_row W _ 7 _ _ (0, 0) hx]; rfl⟩)
 obtain ⟨z0_0, z0_1, z0_2, z0_3, z0_4, z0_5, z0_6, z0_7⟩ := HXB.out _ _ HM0.out
 go_upto_region 4 with (first | (go_at_call 128; clear tok1; refine (HP1.out _ _ HS0.out (((WMod.on v HB0.out).trans HM0.out).low HW.out)).mono ?_; rintro e w1 ⟨rfl, v1, hs, hm⟩; have HS1 := Y hs; have HM1 := Y (HM0.out.trans hm); clear hs hm; obtain ⟨z1_0, z1_1, z1_2, z1_3, z1_4, z1_5, z1_6, z1_7⟩ := HXB.out _ _ HM1.out; clear z0_0 z0_1 z0_2 z0_3 z0_4 z0_5 z0_6 z0_7) | (go_at_call 128; clear tok2; refine (HP2.out _ _ HS1.out (((WMod.on v HB0.out).trans HM1.out).low HW.out)).mono ?_; rintro e w2 ⟨rfl, v2, hs, hm⟩; have HS2 := Y hs; have HM2 := Y (HM1.out.trans hm); clear hs hm; obtain ⟨z2_0, z2_1, z2_2, z2_3, z2_4, z2_5, z2_6, z2_7⟩ := HXB.out _ _ HM2.out; clear z1_0 z1_1 z1_2 z1_3 z1_4 z1_5 z1_6 z1_7) | (go_at_call 129; clear tok3; refine (HP3.out _ _ HS2.out (((WMod.on v HB0.out).trans HM2.out).low HW.out)).mono ?_; rintro e w3 ⟨rfl, v3, hs, hm⟩; have HS3 := Y hs; have HM3 := Y (HM2.out.trans hm); clear hs hm; obtain ⟨z3_0, z3_1, z3_2, z3_3, z3_4, z3_5, z3_6, z3_7⟩ := HXB.out _ _ HM3.out; clear z2_0 z2_1 z2_2 z2_3 z2_4 z2_5 z2_6 z2_7))
 go_upto_region 5 with fail
 have HX1 : Hid ((w3.alloc (.cells #[.string ⟨m.toArray⟩, .string ⟨nm.toArray⟩, .int .u8 3, .int .u32 (t : Int), .int .u32 (a : Int), .int .i64 b, .int .u8 (gt.toNat : Int), .bool gm] 61)).heap[w3.heap.size]? = some (.cells #[.string ⟨m.toArray⟩, .string ⟨nm.toArray⟩, .int .u8 3, .int .u32 (t : Int), .int .u32 (a : Int), .int .i64 b, .int .u8 (gt.toNat : Int), .bool gm] 61 (0, 0))) := Y (heap_alloc_new w3 _)
 have HBA : Hid (Below w3.heap.size w3 (w3.alloc (.cells #[.string ⟨m.toArray⟩, .string ⟨nm.toArray⟩, .int .u8 3, .int .u32 (t : Int), .int .u32 (a : Int), .int .i64 b, .int .u8 (gt.toNat : Int), .bool gm] 61))) := Y ((Below.refl _ _).alloc (Nat.le_refl _) _)
 have HSW := Y (HS3.out.on HBA.out)
 have HMW := Y (HM3.out.trans (WMod.on v3 HBA.out))
 have HSZ : Hid ((w3.alloc (.cells #[.string ⟨m.toArray⟩, .string ⟨nm.toArray⟩, .int .u8 3, .int .u32 (t : Int), .int .u32 (a : Int), .int .i64 b, .int .u8 (gt.toNat : Int), .bool gm] 61)).heap.size = w3.heap.size + 1) := Y (by simp)
 have HLT3 := Y HS3.out.lt
 have HOL3 := Y HS3.out.own_lt
 have HNE : Hid (w.heap.size < w3.heap.size) := Y (World.block_lt_of_cell? w3 _ z3_0)
 generalize w3.alloc (.cells #[.string ⟨m.toArray⟩, .string ⟨nm.toArray⟩, .int .u8 3, .int .u32 (t : Int), .int .u32 (a : Int), .int .i64 b, .int .u8 (gt.toNat : Int), .bool gm] 61) = wb at HX1 HBA HSW HMW HSZ ⊢
 clear z3_0 z3_1 z3_2 z3_3 z3_4 z3_5 z3_6 z3_7
 obtain ⟨Q, hQ⟩ : ∃ Q, w3.heap.size = Q := ⟨_, rfl⟩
 rw [hQ] at HX1 HSZ HLT3 HOL3 HNE ⊢
 clear hQ HS3 HM3 HBA
 have HXQ : Hid (∀ (W : World) (V : Value), WMod R wb v3 W V → W.heap[Q]? = some (.cells #[.string ⟨m.toArray⟩, .string ⟨nm.toArray⟩, .int .u8 3, .int .u32 (t : Int), .int .u32 (a : Int), .int .i64 b, .int .u8 (gt.toNat : Int), .bool gm] 61 (0, 0))) := Y (fun W V hm => hm.1.heap HX1.out (fun e => by
  rcases e with e | e
  ·have := HLT3.out; omega
  ·have := HOL3.out _ e; omega))
 obtain ⟨z4_0, z4_1, z4_2, z4_3, z4_4, z4_5, z4_6, z4_7⟩ := HXB.out _ _ HMW.out
 clear z4_0 z4_1
 go_upto_region 18 with (go_at_call 130; clear tok4; refine (HP4.out _ _ HSW.out (((WMod.on v HB0.out).trans HMW.out).low HW.out)).mono ?_; rintro e w4 ⟨rfl, v4, hs, hm⟩; have HS4 := Y hs; have HM4 := Y (HMW.out.trans hm); have HC4 := Y (HXQ.out _ _ hm); have HWB := Y hm; clear hs hm; have g4 : ∀ j, w4.frozen? ⟨Q, j, none⟩ = false := (fun j => frozen_of_row w4 Q j _ _ HC4.out); have y6 : w4.cell? ⟨Q, 6, none⟩ = some (.int .u8 (gt.toNat : Int)) := (by rw [cell_of_row w4 _ 6 _ _ (0, 0) HC4.out]; rfl); have y7 : w4.cell? ⟨Q, 7, none⟩ = some (.bool gm) := (by rw [cell_of_row w4 _ 7 _ _ (0, 0) HC4.out]; rfl))
 have HC5 : Hid (((w4.setCell ⟨Q, 6, none⟩ (.int .u8 0)).setCell ⟨Q, 7, none⟩ (.bool false)).heap[Q]? = some (.cells #[.string ⟨m.toArray⟩, .string ⟨nm.toArray⟩, .int .u8 3, .int .u32 (t : Int), .int .u32 (a : Int), .int .i64 b, .int .u8 0, .bool false] 61 (0, 0))) := Y (by rw [heap_setCell_same _ Q 7 _ _ _ (heap_setCell_same w4 Q 6 _ _ _ HC4.out)]; rfl)
 have HB5 : Hid (Mod (· = Q) w4 ((w4.setCell ⟨Q, 6, none⟩ (.int .u8 0)).setCell ⟨Q, 7, none⟩ (.bool false))) := Y ((Mod.setCell (T := (· = Q)) (Mod.setCell (T := (· = Q)) (Mod.refl _ w4) (p := ⟨Q, 6, none⟩) (fun _ => rfl) (.int .u8 0)) (p := ⟨Q, 7, none⟩) (fun _ => rfl) (.bool false)))
 generalize (w4.setCell ⟨Q, 6, none⟩ (.int .u8 0)).setCell ⟨Q, 7, none⟩ (.bool false) = w5 at HC5 HB5 ⊢
 clear g4 y6 y7 z4_2 z4_3 z4_4 z4_5 z4_6 z4_7
 have HS5 : Hid (WS w5 R v4 (adv (adv (adv (adv s (okName m) (encName m)) (okName nm) (encName nm)) (kd.toNat ≤ 3) ([kd])) (okGlob ⟨gt, gm⟩) (encGlob ⟨gt, gm⟩))) := Y (HS4.out.keep HB5.out (fun e => by have := HLT3.out; omega) (fun j hj e => by
  rcases HWB.out.2 j hj with e2 | e2
  ·have := HOL3.out _ e2; omega
  ·have := HSZ.out; omega))
 have HMZ : Hid (WMod R w v w5 v4) := Y (by
  have hz := (WMod.on v HB0.out).trans HM4.out
  exact ⟨hz.1.trans HB5.out (fun g hg e => by have := HNE.out; omega), hz.2⟩)
 have hx := HB5.out.heap (HM4.out.1.heap HX0.out (fun e => by
  rcases e with e | e
  ·have := HLT.out; omega
  ·have := HOL.out _ e; omega)) (fun e => by have := HNE.out; omega)
 have x0 : w5.cell? ⟨w.heap.size, 0, none⟩ = some (.string ⟨m.toArray⟩) := by rw [cell_of_row w5 _ 0 _ _ (0, 0) hx]; rfl
 have x1 : w5.cell? ⟨w.heap.size, 1, none⟩ = some (.string ⟨nm.toArray⟩) := by rw [cell_of_row w5 _ 1 _ _ (0, 0) hx]; rfl
 have x2 : w5.cell? ⟨w.heap.size, 2, none⟩ = some (.int .u8 3) := by rw [cell_of_row w5 _ 2 _ _ (0, 0) hx]; rfl
 have r0 : w5.cell? ⟨Q, 0, none⟩ = some (.string ⟨m.toArray⟩) := by rw [cell_of_row w5 _ 0 _ _ (0, 0) HC5.out]; rfl
 have r1 : w5.cell? ⟨Q, 1, none⟩ = some (.string ⟨nm.toArray⟩) := by rw [cell_of_row w5 _ 1 _ _ (0, 0) HC5.out]; rfl
 have r2 : w5.cell? ⟨Q, 2, none⟩ = some (.int .u8 3) := by rw [cell_of_row w5 _ 2 _ _ (0, 0) HC5.out]; rfl
 have r3 : w5.cell? ⟨Q, 3, none⟩ = some (.int .u32 (t : Int)) := by rw [cell_of_row w5 _ 3 _ _ (0, 0) HC5.out]; rfl
 have r4 : w5.cell? ⟨Q, 4, none⟩ = some (.int .u32 (a : Int)) := by rw [cell_of_row w5 _ 4 _ _ (0, 0) HC5.out]; rfl
 have r5 : w5.cell? ⟨Q, 5, none⟩ = some (.int .i64 b) := by rw [cell_of_row w5 _ 5 _ _ (0, 0) HC5.out]; rfl
 have r6 : w5.cell? ⟨Q, 6, none⟩ = some (.int .u8 0) := by rw [cell_of_row w5 _ 6 _ _ (0, 0) HC5.out]; rfl
 have r7 : w5.cell? ⟨Q, 7, none⟩ = some (.bool false) := by rw [cell_of_row w5 _ 7 _ _ (0, 0) HC5.out]; rfl
 clear hx
 go_wp2_with (go_at_call 131; clear tok5; refine (HP5.out _ (by simp [*]) _ _ HS5.out (HMZ.out.low HW.out)).mono ?_; rintro e w6 ⟨rfl, v6, hs, hm⟩)
 all_goals
  (first | go_end0 | refine bodyPost_ret (results_none rfl _ _ _) rfl ?_)
  rw [← HST.out]
  exact ⟨rfl, v6, hs, HMZ.out.trans hm⟩
theorem eimp_4 (R : Nat) (v : Value) (s : Option (List UInt8)) (m nm : List UInt8) (kd : UInt8) (k : Int) (t a : Nat) (b : Int) (gt : UInt8) (gm : Bool) (w : World) (h : WS w R v s) (hl1 : m.length ≤ 1000000) (hl2 : nm.length ≤ 1000000) (hk : (kd.toNat : Int) = k) (hk4 : 4 ≤ k) (hT : Tb w) :
  Calls Tryz.prog 94 #[.pointer (some ⟨R, 0, none⟩), .agg #[.string ⟨m.toArray⟩, .string ⟨nm.toArray⟩, .int .u8 k, .int .u32 (t : Int), .int .u32 (a : Int), .int .i64 b, .int .u8 (gt.toNat : Int), .bool gm]] w (ab R w v (adv s (okImp (⟨m, nm, kd, t, ⟨a, b⟩, ⟨gt, gm⟩⟩ : Imp)) (encImp (⟨m, nm, kd, t, ⟨a, b⟩, ⟨gt, gm⟩⟩ : Imp)))) := by
 have HST : Hid (adv (adv (adv (adv s (okName m) (encName m)) (okName nm) (encName nm)) (kd.toNat ≤ 3) ([kd])) (t = 0 ∧ a = 0 ∧ b = 0 ∧ gt.toNat = 0 ∧ gm = false) ([]) = adv s (okImp (⟨m, nm, kd, t, ⟨a, b⟩, ⟨gt, gm⟩⟩ : Imp)) (encImp (⟨m, nm, kd, t, ⟨a, b⟩, ⟨gt, gm⟩⟩ : Imp))) := Y (by
  have hkd : ¬ kd.toNat ≤ 3 := by omega
  rw [ah, ah, ah, bM (by simp [hkd]), bM (fun h => ?_)]
  obtain ⟨_, _, h⟩ := h
  rcases h with ⟨e, _⟩ | ⟨e, _⟩ | ⟨e, _⟩ | ⟨e, _⟩ <;> (dsimp only at e; subst e; exact hkd (by decide)))
 have HP1 : Hid (∀ (W : World) (V : Value), WS W R V (s) → Mod (R ≤ ·) w W → Calls Tryz.prog 128 #[.pointer (some ⟨R, 0, none⟩), .string ⟨m.toArray⟩] W (ab R W V (adv (s) (okName m) (encName m)))) := Y (fun W V hW hM => ba R V _ m W hW hl1 (hT.low hM h.two))
 have HP2 : Hid (∀ (W : World) (V : Value), WS W R V (adv s (okName m) (encName m)) → Mod (R ≤ ·) w W → Calls Tryz.prog 128 #[.pointer (some ⟨R, 0, none⟩), .string ⟨nm.toArray⟩] W (ab R W V (adv (adv s (okName m) (encName m)) (okName nm) (encName nm)))) := Y (fun W V hW hM => ba R V _ nm W hW hl2 (hT.low hM h.two))
 have HP3 : Hid (∀ (W : World) (V : Value), WS W R V (adv (adv s (okName m) (encName m)) (okName nm) (encName nm)) → Mod (R ≤ ·) w W → Calls Tryz.prog 129 #[.pointer (some ⟨R, 0, none⟩), .int .u8 k] W (ab R W V (adv (adv (adv s (okName m) (encName m)) (okName nm) (encName nm)) (kd.toNat ≤ 3) ([kd])))) := Y (fun W V hW hM => co R V _ kd _ W hW hk)
 have HP4 : Hid (∀ (bb : Bool), (bb = true ↔ t = 0 ∧ a = 0 ∧ b = 0 ∧ gt.toNat = 0 ∧ gm = false) → ∀ (W : World) (V : Value), WS W R V (adv (adv (adv s (okName m) (encName m)) (okName nm) (encName nm)) (kd.toNat ≤ 3) ([kd])) → Mod (R ≤ ·) w W → Calls Tryz.prog 131 #[.pointer (some ⟨R, 0, none⟩), .bool bb] W (ab R W V (adv (adv (adv (adv s (okName m) (encName m)) (okName nm) (encName nm)) (kd.toNat ≤ 3) ([kd])) (t = 0 ∧ a = 0 ∧ b = 0 ∧ gt.toNat = 0 ∧ gm = false) ([])))) := Y (fun bb hb W V hW hM => by have h := aq R V _ bb W hW; rwa [aj (q := t = 0 ∧ a = 0 ∧ b = 0 ∧ gt.toNat = 0 ∧ gm = false) (z := []) hb (fun _ => rfl)] at h)
 have HW := Y h
 have tok1 : True := trivial
 have tok2 : True := trivial
 have tok3 : True := trivial
 have tok4 : True := trivial
 have HX0 : Hid ((w.alloc (.cells #[.string ⟨m.toArray⟩, .string ⟨nm.toArray⟩, .int .u8 k, .int .u32 (t : Int), .int .u32 (a : Int), .int .i64 b, .int .u8 (gt.toNat : Int), .bool gm] 61)).heap[w.heap.size]? = some (.cells #[.string ⟨m.toArray⟩, .string ⟨nm.toArray⟩, .int .u8 k, .int .u32 (t : Int), .int .u32 (a : Int), .int .i64 b, .int .u8 (gt.toNat : Int), .bool gm] 61 (0, 0))) := Y (heap_alloc_new w _)
 have HB0 : Hid (Below w.heap.size w (w.alloc (.cells #[.string ⟨m.toArray⟩, .string ⟨nm.toArray⟩, .int .u8 k, .int .u32 (t : Int), .int .u32 (a : Int), .int .i64 b, .int .u8 (gt.toNat : Int), .bool gm] 61))) := Y ((Below.refl _ _).alloc (Nat.le_refl _) _)
 have HS0 : Hid (WS (w.alloc (.cells #[.string ⟨m.toArray⟩, .string ⟨nm.toArray⟩, .int .u8 k, .int .u32 (t : Int), .int .u32 (a : Int), .int .i64 b, .int .u8 (gt.toNat : Int), .bool gm] 61)) R v s) := Y (h.alloc _)
 have HLT := Y h.lt
 have HOL := Y h.own_lt
 clear h hT hl1 hl2 hk
 go_enter Tryz.func94, Tryz.ntmps94
 go_upto_region 1 with fail
 generalize w.alloc (.cells #[.string ⟨m.toArray⟩, .string ⟨nm.toArray⟩, .int .u8 k, .int .u32 (t : Int), .int .u32 (a : Int), .int .i64 b, .int .u8 (gt.toNat : Int), .bool gm] 61) = w0 at HX0 HB0 HS0 ⊢
 have HM0 := Y (WMod.refl R w0 v)
 have HXB : Hid (∀ (W : World) (V : Value), WMod R w0 v W V → W.cell? ⟨w.heap.size, 0, none⟩ = some (.string ⟨m.toArray⟩) ∧ W.cell? ⟨w.heap.size, 1, none⟩ = some (.string ⟨nm.toArray⟩) ∧ W.cell? ⟨w.heap.size, 2, none⟩ = some (.int .u8 k) ∧ W.cell? ⟨w.heap.size, 3, none⟩ = some (.int .u32 (t : Int)) ∧ W.cell? ⟨w.heap.size, 4, none⟩ = some (.int .u32 (a : Int)) ∧ W.cell? ⟨w.heap.size, 5, none⟩ = some (.int .i64 b) ∧ W.cell? ⟨w.heap.size, 6, none⟩ = some (.int .u8 (gt.toNat : Int)) ∧ W.cell? ⟨w.heap.size, 7, none⟩ = some (.bool gm)) := Y (fun W V hm => by
  have hx := hm.1.heap HX0.out (fun e => by
   rcases e with e | e
   ·have := HLT.out; omega
   ·have := HOL.out _ e; omega)
  exact ⟨by rw [cell_of_row W _ 0 _ _ (0, 0) hx]; rfl, by rw [cell_of_row W _ 1 _ _ (0, 0) hx]; rfl, by rw [cell_of_row W _ 2 _ _ (0, 0) hx]; rfl, by rw [cell_of_row W _ 3 _ _ (0, 0) hx]; rfl, by rw [cell_of_row W _ 4 _ _ (0, 0) hx]; rfl, by rw [cell_of_row W _ 5 _ _ (0, 0) hx]; rfl, by rw [cell_of_row W _ 6 _ _ (0, 0) hx]; rfl, by rw [cell_of_row W _ 7 _ _ (0, 0) hx]; rfl⟩)
 obtain ⟨z0_0, z0_1, z0_2, z0_3, z0_4, z0_5, z0_6, z0_7⟩ := HXB.out _ _ HM0.out
 go_upto_region 4 with (first | (go_at_call 128; clear tok1; refine (HP1.out _ _ HS0.out (((WMod.on v HB0.out).trans HM0.out).low HW.out)).mono ?_; rintro e w1 ⟨rfl, v1, hs, hm⟩; have HS1 := Y hs; have HM1 := Y (HM0.out.trans hm); clear hs hm; obtain ⟨z1_0, z1_1, z1_2, z1_3, z1_4, z1_5, z1_6, z1_7⟩ := HXB.out _ _ HM1.out; clear z0_0 z0_1 z0_2 z0_3 z0_4 z0_5 z0_6 z0_7) | (go_at_call 128; clear tok2; refine (HP2.out _ _ HS1.out (((WMod.on v HB0.out).trans HM1.out).low HW.out)).mono ?_; rintro e w2 ⟨rfl, v2, hs, hm⟩; have HS2 := Y hs; have HM2 := Y (HM1.out.trans hm); clear hs hm; obtain ⟨z2_0, z2_1, z2_2, z2_3, z2_4, z2_5, z2_6, z2_7⟩ := HXB.out _ _ HM2.out; clear z1_0 z1_1 z1_2 z1_3 z1_4 z1_5 z1_6 z1_7) | (go_at_call 129; clear tok3; refine (HP3.out _ _ HS2.out (((WMod.on v HB0.out).trans HM2.out).low HW.out)).mono ?_; rintro e w3 ⟨rfl, v3, hs, hm⟩; have HS3 := Y hs; have HM3 := Y (HM2.out.trans hm); clear hs hm; obtain ⟨z3_0, z3_1, z3_2, z3_3, z3_4, z3_5, z3_6, z3_7⟩ := HXB.out _ _ HM3.out; clear z2_0 z2_1 z2_2 z2_3 z2_4 z2_5 z2_6 z2_7))
 go_upto_region 5 with fail
 have HX1 : Hid ((w3.alloc (.cells #[.string ⟨m.toArray⟩, .string ⟨nm.toArray⟩, .int .u8 k, .int .u32 (t : Int), .int .u32 (a : Int), .int .i64 b, .int .u8 (gt.toNat : Int), .bool gm] 61)).heap[w3.heap.size]? = some (.cells #[.string ⟨m.toArray⟩, .string ⟨nm.toArray⟩, .int .u8 k, .int .u32 (t : Int), .int .u32 (a : Int), .int .i64 b, .int .u8 (gt.toNat : Int), .bool gm] 61 (0, 0))) := Y (heap_alloc_new w3 _)
 have HBA : Hid (Below w3.heap.size w3 (w3.alloc (.cells #[.string ⟨m.toArray⟩, .string ⟨nm.toArray⟩, .int .u8 k, .int .u32 (t : Int), .int .u32 (a : Int), .int .i64 b, .int .u8 (gt.toNat : Int), .bool gm] 61))) := Y ((Below.refl _ _).alloc (Nat.le_refl _) _)
 have HSW := Y (HS3.out.on HBA.out)
 have HMW := Y (HM3.out.trans (WMod.on v3 HBA.out))
 have HSZ : Hid ((w3.alloc (.cells #[.string ⟨m.toArray⟩, .string ⟨nm.toArray⟩, .int .u8 k, .int .u32 (t : Int), .int .u32 (a : Int), .int .i64 b, .int .u8 (gt.toNat : Int), .bool gm] 61)).heap.size = w3.heap.size + 1) := Y (by simp)
 have HLT3 := Y HS3.out.lt
 have HOL3 := Y HS3.out.own_lt
 have HNE : Hid (w.heap.size < w3.heap.size) := Y (World.block_lt_of_cell? w3 _ z3_0)
 generalize w3.alloc (.cells #[.string ⟨m.toArray⟩, .string ⟨nm.toArray⟩, .int .u8 k, .int .u32 (t : Int), .int .u32 (a : Int), .int .i64 b, .int .u8 (gt.toNat : Int), .bool gm] 61) = wb at HX1 HBA HSW HMW HSZ ⊢
 clear z3_0 z3_1 z3_2 z3_3 z3_4 z3_5 z3_6 z3_7
 obtain ⟨Q, hQ⟩ : ∃ Q, w3.heap.size = Q := ⟨_, rfl⟩
 rw [hQ] at HX1 HSZ HLT3 HOL3 HNE ⊢
 clear hQ HS3 HM3 HBA
 have HXQ : Hid (∀ (W : World) (V : Value), WMod R wb v3 W V → W.heap[Q]? = some (.cells #[.string ⟨m.toArray⟩, .string ⟨nm.toArray⟩, .int .u8 k, .int .u32 (t : Int), .int .u32 (a : Int), .int .i64 b, .int .u8 (gt.toNat : Int), .bool gm] 61 (0, 0))) := Y (fun W V hm => hm.1.heap HX1.out (fun e => by
  rcases e with e | e
  ·have := HLT3.out; omega
  ·have := HOL3.out _ e; omega))
 obtain ⟨z4_0, z4_1, z4_2, z4_3, z4_4, z4_5, z4_6, z4_7⟩ := HXB.out _ _ HMW.out
 go_upto_region 18 with fail
 have HC5 := Y HX1.out
 have HB5 := Y (Mod.refl (· = Q) wb)
 clear z4_0 z4_1 z4_2 z4_3 z4_4 z4_5 z4_6 z4_7
 have HS5 : Hid (WS wb R v3 (adv (adv (adv s (okName m) (encName m)) (okName nm) (encName nm)) (kd.toNat ≤ 3) ([kd]))) := Y (HSW.out.keep HB5.out (fun e => by have := HLT3.out; omega) (fun j hj e => by
  rcases (WMod.refl R wb v3).2 j hj with e2 | e2
  ·have := HOL3.out _ e2; omega
  ·have := HSZ.out; omega))
 have HMZ : Hid (WMod R w v wb v3) := Y (by
  have hz := (WMod.on v HB0.out).trans HMW.out
  exact ⟨hz.1.trans HB5.out (fun g hg e => by have := HNE.out; omega), hz.2⟩)
 have hx := HB5.out.heap (HMW.out.1.heap HX0.out (fun e => by
  rcases e with e | e
  ·have := HLT.out; omega
  ·have := HOL.out _ e; omega)) (fun e => by have := HNE.out; omega)
 have x0 : wb.cell? ⟨w.heap.size, 0, none⟩ = some (.string ⟨m.toArray⟩) := by rw [cell_of_row wb _ 0 _ _ (0, 0) hx]; rfl
 have x1 : wb.cell? ⟨w.heap.size, 1, none⟩ = some (.string ⟨nm.toArray⟩) := by rw [cell_of_row wb _ 1 _ _ (0, 0) hx]; rfl
 have x2 : wb.cell? ⟨w.heap.size, 2, none⟩ = some (.int .u8 k) := by rw [cell_of_row wb _ 2 _ _ (0, 0) hx]; rfl
 have r0 : wb.cell? ⟨Q, 0, none⟩ = some (.string ⟨m.toArray⟩) := by rw [cell_of_row wb _ 0 _ _ (0, 0) HC5.out]; rfl
 have r1 : wb.cell? ⟨Q, 1, none⟩ = some (.string ⟨nm.toArray⟩) := by rw [cell_of_row wb _ 1 _ _ (0, 0) HC5.out]; rfl
 have r2 : wb.cell? ⟨Q, 2, none⟩ = some (.int .u8 k) := by rw [cell_of_row wb _ 2 _ _ (0, 0) HC5.out]; rfl
 have r3 : wb.cell? ⟨Q, 3, none⟩ = some (.int .u32 (t : Int)) := by rw [cell_of_row wb _ 3 _ _ (0, 0) HC5.out]; rfl
 have r4 : wb.cell? ⟨Q, 4, none⟩ = some (.int .u32 (a : Int)) := by rw [cell_of_row wb _ 4 _ _ (0, 0) HC5.out]; rfl
 have r5 : wb.cell? ⟨Q, 5, none⟩ = some (.int .i64 b) := by rw [cell_of_row wb _ 5 _ _ (0, 0) HC5.out]; rfl
 have r6 : wb.cell? ⟨Q, 6, none⟩ = some (.int .u8 (gt.toNat : Int)) := by rw [cell_of_row wb _ 6 _ _ (0, 0) HC5.out]; rfl
 have r7 : wb.cell? ⟨Q, 7, none⟩ = some (.bool gm) := by rw [cell_of_row wb _ 7 _ _ (0, 0) HC5.out]; rfl
 clear hx
 go_wp2_with (go_at_call 131; clear tok4; refine (HP4.out _ (by simp [*]) _ _ HS5.out (HMZ.out.low HW.out)).mono ?_; rintro e w6 ⟨rfl, v6, hs, hm⟩)
 all_goals
  (first | go_end0 | refine bodyPost_ret (results_none rfl _ _ _) rfl ?_)
  rw [← HST.out]
  exact ⟨rfl, v6, hs, HMZ.out.trans hm⟩
theorem eimp_any (R : Nat) (v : Value) (s : Option (List UInt8)) (x : Imp) (w : World) (h : WS w R v s) (hl1 : x.mod.length ≤ 1000000) (hl2 : x.name.length ≤ 1000000) (ht : x.type < 4294967296) (hw : Lim.wf x.lim) (hT : Tb w) :
  Calls Tryz.prog 94 #[.pointer (some ⟨R, 0, none⟩), argOf (impCells x)] w (ab R w v (adv s (okImp x) (encImp x))) := by
 obtain ⟨m, nm, kd, t, ⟨a, b⟩, ⟨gt, gm⟩⟩ := x
 obtain ⟨ha, hb0, hb1⟩ := hw
 show Calls Tryz.prog 94 #[.pointer (some ⟨R, 0, none⟩), .agg #[.string ⟨m.toArray⟩, .string ⟨nm.toArray⟩, .int .u8 (kd.toNat : Int), .int .u32 (t : Int), .int .u32 (a : Int), .int .i64 b, .int .u8 (gt.toNat : Int), .bool gm]] w _
 have hc : (kd.toNat : Int) = 0 ∨ (kd.toNat : Int) = 1 ∨ (kd.toNat : Int) = 2 ∨ (kd.toNat : Int) = 3 ∨ 4 ≤ (kd.toNat : Int) := by omega
 rcases hc with e | e | e | e | e
 ·rw [e]; exact eimp_0 R v s m nm kd t a b gt gm w h hl1 hl2 e ht hT
 ·rw [e]; exact eimp_1 R v s m nm kd t a b gt gm w h hl1 hl2 e ha hb0 hb1 hT
 ·rw [e]; exact eimp_2 R v s m nm kd t a b gt gm w h hl1 hl2 e ha hb0 hb1 hT
 ·rw [e]; exact eimp_3 R v s m nm kd t a b gt gm w h hl1 hl2 e hT
 ·exact eimp_4 R v s m nm kd _ t a b gt gm w h hl1 hl2 rfl e hT
end Go.Proofs.YthkglmkpnhhboaaGreatDoor
