/-
  The walk over EncShort, given what Encode, Decode and Split do. (gen/enc/short.py)
-/
import Derived.Test.YtgnbkfkiigcdgaaGreatDoorQ01
import Derived.Test.YtgnbkfkiigcdgaaGreatDoorQ39
import Derived.Test.YtgnbkfkiigcdgaaGreatDoorQ46
import Derived.Test.YtgnbkfkiigcdgaaGreatDoorQ25
set_option maxRecDepth 100000
set_option maxHeartbeats 4000000
namespace Go.Proofs.YtgnbkfkiigcdgaaGreatDoor
open Go.RowKit Ins Bin
structure CellsM (W : World) (B : Nat) (A1 A2 A3 A4 A5 A6 A7 A9 A10 A11 : Option Addr) (n1 c1 n2 c2 n3 c3 n4 c4 n5 c5 n6 c6 n7 c7 n9 c9 n10 c10 n11 c11 : Nat) (hs : Bool) (st : Int) : Prop where
 c0 : W.cell? ⟨B, 0, none⟩ = some (.slice A1 n1 c1)
 c1 : W.cell? ⟨B, 1, none⟩ = some (.slice A2 n2 c2)
 c2 : W.cell? ⟨B, 2, none⟩ = some (.slice A3 n3 c3)
 c3 : W.cell? ⟨B, 3, none⟩ = some (.slice A4 n4 c4)
 c4 : W.cell? ⟨B, 4, none⟩ = some (.slice A5 n5 c5)
 c5 : W.cell? ⟨B, 5, none⟩ = some (.slice A6 n6 c6)
 c6 : W.cell? ⟨B, 6, none⟩ = some (.slice A7 n7 c7)
 c7 : W.cell? ⟨B, 7, none⟩ = some (.bool hs)
 c8 : W.cell? ⟨B, 8, none⟩ = some (.int .u32 st)
 c9 : W.cell? ⟨B, 9, none⟩ = some (.slice A9 n9 c9)
 c10 : W.cell? ⟨B, 10, none⟩ = some (.slice A10 n10 c10)
 c11 : W.cell? ⟨B, 11, none⟩ = some (.slice A11 n11 c11)
theorem RepM.low {w : World} {S : Nat → Prop} {m : M} {v1 v2 v3 v4 v5 v6 v7 v8 v9 v10 : Value} (h : RepM w S m v1 v2 v3 v4 v5 v6 v7 v8 v9 v10) : RepM w (· < w.heap.size) m v1 v2 v3 v4 v5 v6 v7 v8 v9 v10 :=
 ⟨h.types.more (fun _ hk _ => hk), h.imports.more (fun _ hk _ => hk), h.funcs.more (fun _ hk _ => hk), h.tables.more (fun _ hk _ => hk), h.mems.more (fun _ hk _ => hk), h.globals.more (fun _ hk _ => hk), h.exports.more (fun _ hk _ => hk), h.start, h.elems.more (fun _ hk _ => hk), h.codes.more (fun _ hk _ => hk), h.datas.more (fun _ hk _ => hk)⟩
theorem encPost_err {m : M} {k : Nat} {w w' : World} {e : Ending} (h : bO m w e w') (he : encode m = .error k) : e = .returned (.tuple #[.slice none 0 0, .int .i64 (k : Int)]) ∧ Below w.heap.size w w' := by
 obtain ⟨hb, h⟩ := h
 rw [he] at h
 exact ⟨h, hb⟩
theorem ib (he : cX) (hd : DecOk) (hs' : bS) (m : M) (v1 v2 v3 v4 v5 v6 v7 v8 v9 v10 : Value) (w : World) (hM : RepM w (· < w.heap.size) m v1 v2 v3 v4 v5 v6 v7 v8 v9 v10) (hB : BigM m) (hT : Tb w) :
  Calls Tryz.prog 5 #[.agg (modCells m v1 v2 v3 v4 v5 v6 v7 v8 v9 v10)] w fun e w' => e = .returned (.bool true) ∧ Below w.heap.size w w' := by
 have HE := Y he
 have HKN : Hid (∀ W, Below w.heap.size w W → Calls Tryz.prog 6 #[] W fun e w' => e = .returned (.bool true) ∧ Below W.heap.size W w') := Y (fun W hb => known7 he W (hT.on hb))
 have HD := Y (fun A l n c W hA hn (hs : n ≤ 1000000) hc hcm hA0 (hb : Below w.heap.size w W) => hd A l n c W hA hn (by omega) hc hcm hA0 (hT.on hb))
 have HSP := Y (fun A l n c W hA hn (hs : n ≤ 1000000) hc hcm hA0 (hb : Below w.heap.size w W) (xs : List Sec.S) (h : Sec.split l = some xs) => hs'.some (A := A) (l := l) (n := n) (c := c) (w := W) hA hn (by omega) hc hcm hA0 (hT.on hb) h)
 clear he hd hs'
 obtain ⟨A1, c1, rfl, _⟩ := hM.types
 obtain ⟨A2, c2, rfl, _⟩ := hM.imports
 obtain ⟨A3, c3, rfl, _⟩ := hM.funcs
 obtain ⟨A4, c4, rfl, _⟩ := hM.tables
 obtain ⟨A5, c5, rfl, _⟩ := hM.mems
 obtain ⟨A6, c6, rfl, _⟩ := hM.globals
 obtain ⟨A7, c7, rfl, _⟩ := hM.exports
 obtain ⟨A9, c9, rfl, _⟩ := hM.elems
 obtain ⟨A10, c10, rfl, _⟩ := hM.codes
 obtain ⟨A11, c11, rfl, _⟩ := hM.datas
 have HM := Y hM
 have HBIG := Y hB
 have HT := Y hT
 clear hM hB hT
 generalize hcs : modCells m (.slice A1 m.types.length c1) (.slice A2 m.imports.length c2) (.slice A3 m.funcs.length c3) (.slice A4 m.tables.length c4) (.slice A5 m.mems.length c5) (.slice A6 m.globals.length c6) (.slice A7 m.exports.length c7) (.slice A9 m.elems.length c9) (.slice A10 m.codes.length c10) (.slice A11 m.datas.length c11) = cs
 have HG : Hid (∀ W, Below w.heap.size w W → Calls Tryz.prog 7 #[.agg cs] W fun e w' => ∃ g : Bool, e = .returned (.bool g) ∧ Below W.heap.size W w' ∧ (g = false → dI m)) := Y (fun W hb => by
  subst hcs
  exact bgreat_any m _ _ _ _ _ _ _ _ _ _ W ((HM.out.on hb).more' (fun k hk => Nat.lt_of_lt_of_le hk hb.size)) HBIG.out)
 have HEN : Hid (dI m → ∀ W, Below w.heap.size w W → Calls Tryz.prog 8 #[.agg cs] W (bO m W)) := Y (fun hS W hb => by
  subst hcs
  exact HE.out m _ _ _ _ _ _ _ _ _ _ W ((HM.out.on hb).more' (fun k hk => Nat.lt_of_lt_of_le hk hb.size)) (dI.fits hS) (HT.out.on hb))
 unfold modCells at hcs
 obtain ⟨n1, hn1⟩ : ∃ n, m.types.length = n := ⟨_, rfl⟩
 rw [hn1] at hcs
 clear hn1
 obtain ⟨n2, hn2⟩ : ∃ n, m.imports.length = n := ⟨_, rfl⟩
 rw [hn2] at hcs
 clear hn2
 obtain ⟨n3, hn3⟩ : ∃ n, m.funcs.length = n := ⟨_, rfl⟩
 rw [hn3] at hcs
 clear hn3
 obtain ⟨n4, hn4⟩ : ∃ n, m.tables.length = n := ⟨_, rfl⟩
 rw [hn4] at hcs
 clear hn4
 obtain ⟨n5, hn5⟩ : ∃ n, m.mems.length = n := ⟨_, rfl⟩
 rw [hn5] at hcs
 clear hn5
 obtain ⟨n6, hn6⟩ : ∃ n, m.globals.length = n := ⟨_, rfl⟩
 rw [hn6] at hcs
 clear hn6
 obtain ⟨n7, hn7⟩ : ∃ n, m.exports.length = n := ⟨_, rfl⟩
 rw [hn7] at hcs
 clear hn7
 obtain ⟨n9, hn9⟩ : ∃ n, m.elems.length = n := ⟨_, rfl⟩
 rw [hn9] at hcs
 clear hn9
 obtain ⟨n10, hn10⟩ : ∃ n, m.codes.length = n := ⟨_, rfl⟩
 rw [hn10] at hcs
 clear hn10
 obtain ⟨n11, hn11⟩ : ∃ n, m.datas.length = n := ⟨_, rfl⟩
 rw [hn11] at hcs
 clear hn11
 generalize m.hasStart = hs at hcs
 generalize (m.start : Int) = st at hcs
 subst hcs
 have HX0 := Y (heap_alloc_new w (.cells #[.slice A1 n1 c1, .slice A2 n2 c2, .slice A3 n3 c3, .slice A4 n4 c4, .slice A5 n5 c5, .slice A6 n6 c6, .slice A7 n7 c7, .bool hs, .int .u32 st, .slice A9 n9 c9, .slice A10 n10 c10, .slice A11 n11 c11] 33))
 have HB0 : Hid (Below w.heap.size w (w.alloc (.cells #[.slice A1 n1 c1, .slice A2 n2 c2, .slice A3 n3 c3, .slice A4 n4 c4, .slice A5 n5 c5, .slice A6 n6 c6, .slice A7 n7 c7, .bool hs, .int .u32 st, .slice A9 n9 c9, .slice A10 n10 c10, .slice A11 n11 c11] 33))) := Y ((Below.refl _ _).alloc (Nat.le_refl _) _)
 have HS0 : Hid ((w.alloc (.cells #[.slice A1 n1 c1, .slice A2 n2 c2, .slice A3 n3 c3, .slice A4 n4 c4, .slice A5 n5 c5, .slice A6 n6 c6, .slice A7 n7 c7, .bool hs, .int .u32 st, .slice A9 n9 c9, .slice A10 n10 c10, .slice A11 n11 c11] 33)).heap.size = w.heap.size + 1) := Y (by simp)
 have HE2 := HE
 clear HE
 go_enter Tryz.func5, Tryz.ntmps5
 go_upto_region 1 with fail
 generalize w.alloc (.cells #[.slice A1 n1 c1, .slice A2 n2 c2, .slice A3 n3 c3, .slice A4 n4 c4, .slice A5 n5 c5, .slice A6 n6 c6, .slice A7 n7 c7, .bool hs, .int .u32 st, .slice A9 n9 c9, .slice A10 n10 c10, .slice A11 n11 c11] 33) = w0 at HX0 HB0 HS0 ⊢
 obtain ⟨X1, hX1⟩ : ∃ X, w.heap.size = X := ⟨_, rfl⟩
 have HXB : Hid (∀ W, Below w0.heap.size w0 W → CellsM W X1 A1 A2 A3 A4 A5 A6 A7 A9 A10 A11 n1 c1 n2 c2 n3 c3 n4 c4 n5 c5 n6 c6 n7 c7 n9 c9 n10 c10 n11 c11 hs st) := Y (fun W hb => by
  have h := (hb.block w.heap.size (by have := HS0.out; omega)).trans HX0.out
  rw [hX1] at h
  exact ⟨by rw [cell_of_row W _ 0 _ _ (0, 0) h]; rfl, by rw [cell_of_row W _ 1 _ _ (0, 0) h]; rfl, by rw [cell_of_row W _ 2 _ _ (0, 0) h]; rfl, by rw [cell_of_row W _ 3 _ _ (0, 0) h]; rfl, by rw [cell_of_row W _ 4 _ _ (0, 0) h]; rfl, by rw [cell_of_row W _ 5 _ _ (0, 0) h]; rfl, by rw [cell_of_row W _ 6 _ _ (0, 0) h]; rfl, by rw [cell_of_row W _ 7 _ _ (0, 0) h]; rfl, by rw [cell_of_row W _ 8 _ _ (0, 0) h]; rfl, by rw [cell_of_row W _ 9 _ _ (0, 0) h]; rfl, by rw [cell_of_row W _ 10 _ _ (0, 0) h]; rfl, by rw [cell_of_row W _ 11 _ _ (0, 0) h]; rfl⟩)
 simp only [hX1]
 clear HX0 HS0 hX1
 obtain ⟨a0, a1, a2, a3, a4, a5, a6, a7, a8, a9, a10, a11⟩ := HXB.out w0 (Below.refl _ _)
 go_upto_region 3 with (go_at_call 6; refine (HKN.out _ HB0.out).mono ?_; rintro e w1 ⟨rfl, hb⟩; have HB1 := Y hb; have HW1 := Y (HB0.out.trans (hb.mono HB0.out.size)); clear a0 a1 a2 a3 a4 a5 a6 a7 a8 a9 a10 a11; obtain ⟨b0, b1, b2, b3, b4, b5, b6, b7, b8, b9, b10, b11⟩ := HXB.out w1 hb; clear hb)
 go_cut [15] from 14 to 15 (fun s wx => ∃ g : Bool, s = .bool g ∧ Hid (Below w0.heap.size w0 wx) ∧ Hid (Below w.heap.size w wx) ∧ Hid (g = false → dI m))
 case first =>
  go_wp2_with (go_at_call 7; refine (HG.out _ HW1.out).mono ?_; rintro e w2 ⟨g, rfl, hb, hsm⟩; have HB2 := Y (HB1.out.trans (hb.mono HB1.out.size)); have HW2 := Y (HW1.out.trans (hb.mono HW1.out.size)); have HSM := Y hsm; clear b0 b1 b2 b3 b4 b5 b6 b7 b8 b9 b10 b11 hb hsm)
  go_meet
  case rel => exact ⟨g, rfl, HB2, HW2, HSM⟩
 case rest =>
  obtain ⟨g, rfl, HB2, HW2, HSM⟩ := hcut
  clear HB1 HW1 b0 b1 b2 b3 b4 b5 b6 b7 b8 b9 b10 b11
  cases g with
  | true =>
   go_wp2_with fail
   go_ret
   exact ⟨rfl, HW2.out⟩
  | false =>
   have HSMALL := Y (HSM.out rfl)
   clear HSM
   obtain ⟨d0, d1, d2, d3, d4, d5, d6, d7, d8, d9, d10, d11⟩ := HXB.out wc HB2.out
   cases hen : encode m with
   | error k =>
    have HERR := Y hen
    have hk := encode_err hen
    clear hen
    rcases hk with rfl | rfl
    all_goals
     go_wp2_with (go_at_call 8; refine (HEN.out HSMALL.out _ HW2.out).mono ?_; intro e w3 hp; obtain ⟨rfl, hb⟩ := encPost_err hp HERR.out; have HW3 := Y (HW2.out.trans (hb.mono HW2.out.size)); clear hp hb)
     go_ret
     exact ⟨rfl, HW3.out⟩
   | ok b =>
    have HOK := Y hen
    have hb65 := (dj hen).2.1
    rw [← (dj hen).2.2] at hb65
    have HDEC := Y (encode_dec hen)
    obtain ⟨hspl, hfst⟩ := gJ hen
    have HSPL := Y hspl
    have HFST := Y hfst
    obtain ⟨nb, hnb⟩ : ∃ n, b.length = n := ⟨_, rfl⟩
    rw [hnb] at hb65
    have HNB := Y hnb
    clear hen hspl hfst hnb
    have tokA : True := trivial
    go_upto_region 8 with (go_at_call 8; refine (HEN.out HSMALL.out _ HW2.out).mono ?_; intro e w3 hp; obtain ⟨A, c, rfl, q1, q2, q3, hh, hb⟩ := bR hp HOK.out; rw [HNB.out] at q1 ⊢; have HB3 := Y (HB2.out.trans (hb.mono HB2.out.size)); have HW3 := Y (HW2.out.trans (hb.mono HW2.out.size)); have HH3 := Y hh; have HDC := Y (HD.out A b nb c w3 hh HNB.out.symm (by omega) q1 q2 q3 HW3.out); have HQ1 := Y q1; have HQ2 := Y q2; have HQ3 := Y q3; clear hp hb hh q1 q2 q3 d0 d1 d2 d3 d4 d5 d6 d7 d8 d9 d10 d11)
    go_upto_region 9 with (go_at_call 10; refine HDC.out.mono ?_; intro e w4 hp; obtain ⟨e1, y1, e2, y2, e3, y3, e4, y4, e5, y5, e6, y6, e7, y7, e8, y8, e9, y9, e10, y10, rfl, hr, hb⟩ := dPost_own HDEC.out hp; have HW4 := Y (HW3.out.trans (hb.mono HW3.out.size)); have HB34 := Y hb; have HR4 := Y (RepM.low hr); clear hp hr hb)
    have HX5 := Y (heap_alloc_new w4 (.cells #[.slice e1 m.types.length y1, .slice e2 m.imports.length y2, .slice e3 m.funcs.length y3, .slice e4 m.tables.length y4, .slice e5 m.mems.length y5, .slice e6 m.globals.length y6, .slice e7 m.exports.length y7, .bool m.hasStart, .int .u32 (m.start : Int), .slice e8 m.elems.length y8, .slice e9 m.codes.length y9, .slice e10 m.datas.length y10] 33))
    have HB45 : Hid (Below w4.heap.size w4 (w4.alloc (.cells #[.slice e1 m.types.length y1, .slice e2 m.imports.length y2, .slice e3 m.funcs.length y3, .slice e4 m.tables.length y4, .slice e5 m.mems.length y5, .slice e6 m.globals.length y6, .slice e7 m.exports.length y7, .bool m.hasStart, .int .u32 (m.start : Int), .slice e8 m.elems.length y8, .slice e9 m.codes.length y9, .slice e10 m.datas.length y10] 33))) := Y ((Below.refl _ _).alloc (Nat.le_refl _) _)
    have HR5 := Y ((HR4.out.on HB45.out).more' (fun k hk => Nat.lt_of_lt_of_le hk HB45.out.size))
    have HW5 := Y (HW4.out.trans (HB45.out.mono HW4.out.size))
    have HB35 := Y (HB34.out.trans (HB45.out.mono HB34.out.size))
    generalize w4.alloc (.cells #[.slice e1 m.types.length y1, .slice e2 m.imports.length y2, .slice e3 m.funcs.length y3, .slice e4 m.tables.length y4, .slice e5 m.mems.length y5, .slice e6 m.globals.length y6, .slice e7 m.exports.length y7, .bool m.hasStart, .int .u32 (m.start : Int), .slice e8 m.elems.length y8, .slice e9 m.codes.length y9, .slice e10 m.datas.length y10] 33) = w5 at HX5 HB45 HR5 HW5 HB35 ⊢
    have HE5 : Hid (Calls Tryz.prog 8 #[.agg #[.slice e1 m.types.length y1, .slice e2 m.imports.length y2, .slice e3 m.funcs.length y3, .slice e4 m.tables.length y4, .slice e5 m.mems.length y5, .slice e6 m.globals.length y6, .slice e7 m.exports.length y7, .bool m.hasStart, .int .u32 (m.start : Int), .slice e8 m.elems.length y8, .slice e9 m.codes.length y9, .slice e10 m.datas.length y10]] w5 (bO m w5)) := Y (HE2.out m _ _ _ _ _ _ _ _ _ _ w5 HR5.out (dI.fits HSMALL.out) (HT.out.on HW5.out))
    have k0 : w5.cell? ⟨w4.heap.size, 0, none⟩ = some (.slice e1 m.types.length y1) := by rw [cell_of_row w5 _ 0 _ _ (0, 0) HX5.out]; rfl
    have k1 : w5.cell? ⟨w4.heap.size, 1, none⟩ = some (.slice e2 m.imports.length y2) := by rw [cell_of_row w5 _ 1 _ _ (0, 0) HX5.out]; rfl
    have k2 : w5.cell? ⟨w4.heap.size, 2, none⟩ = some (.slice e3 m.funcs.length y3) := by rw [cell_of_row w5 _ 2 _ _ (0, 0) HX5.out]; rfl
    have k3 : w5.cell? ⟨w4.heap.size, 3, none⟩ = some (.slice e4 m.tables.length y4) := by rw [cell_of_row w5 _ 3 _ _ (0, 0) HX5.out]; rfl
    have k4 : w5.cell? ⟨w4.heap.size, 4, none⟩ = some (.slice e5 m.mems.length y5) := by rw [cell_of_row w5 _ 4 _ _ (0, 0) HX5.out]; rfl
    have k5 : w5.cell? ⟨w4.heap.size, 5, none⟩ = some (.slice e6 m.globals.length y6) := by rw [cell_of_row w5 _ 5 _ _ (0, 0) HX5.out]; rfl
    have k6 : w5.cell? ⟨w4.heap.size, 6, none⟩ = some (.slice e7 m.exports.length y7) := by rw [cell_of_row w5 _ 6 _ _ (0, 0) HX5.out]; rfl
    have k7 : w5.cell? ⟨w4.heap.size, 7, none⟩ = some (.bool m.hasStart) := by rw [cell_of_row w5 _ 7 _ _ (0, 0) HX5.out]; rfl
    have k8 : w5.cell? ⟨w4.heap.size, 8, none⟩ = some (.int .u32 (m.start : Int)) := by rw [cell_of_row w5 _ 8 _ _ (0, 0) HX5.out]; rfl
    have k9 : w5.cell? ⟨w4.heap.size, 9, none⟩ = some (.slice e8 m.elems.length y8) := by rw [cell_of_row w5 _ 9 _ _ (0, 0) HX5.out]; rfl
    have k10 : w5.cell? ⟨w4.heap.size, 10, none⟩ = some (.slice e9 m.codes.length y9) := by rw [cell_of_row w5 _ 10 _ _ (0, 0) HX5.out]; rfl
    have k11 : w5.cell? ⟨w4.heap.size, 11, none⟩ = some (.slice e10 m.datas.length y10) := by rw [cell_of_row w5 _ 11 _ _ (0, 0) HX5.out]; rfl
    obtain ⟨X2, hX2⟩ : ∃ X, w4.heap.size = X := ⟨_, rfl⟩
    simp only [hX2] at k0 k1 k2 k3 k4 k5 k6 k7 k8 k9 k10 k11 ⊢
    clear hX2 HX5 HB45 HR4 HR5 HB34
    generalize m.types.length = l0 at HE5 k0
    generalize m.imports.length = l1 at HE5 k1
    generalize m.funcs.length = l2 at HE5 k2
    generalize m.tables.length = l3 at HE5 k3
    generalize m.mems.length = l4 at HE5 k4
    generalize m.globals.length = l5 at HE5 k5
    generalize m.exports.length = l6 at HE5 k6
    generalize m.elems.length = l7 at HE5 k9
    generalize m.codes.length = l8 at HE5 k10
    generalize m.datas.length = l9 at HE5 k11
    generalize m.hasStart = lhs at HE5 k7
    generalize (m.start : Int) = lst at HE5 k8
    go_upto_region 10 with (go_at_call 8; refine HE5.out.mono ?_; intro e w6 hp; obtain ⟨A6, c6, rfl, _, _, _, hh, hb⟩ := bR hp HOK.out; rw [HNB.out]; have HW6 := Y (HW5.out.trans (hb.mono HW5.out.size)); have HB36 := Y (HB35.out.trans (hb.mono HB35.out.size)); have HH6 := Y hh; have HSC := Y (HSP.out A b nb c w6 (HH3.out.on HB36.out) HNB.out.symm (by omega) HQ1.out HQ2.out HQ3.out HW6.out _ HSPL.out); clear hp hb hh k0 k1 k2 k3 k4 k5 k6 k7 k8 k9 k10 k11)
    obtain ⟨W0, hW0⟩ : ∃ W0 : ByteArray, W0 = ⟨b.toArray⟩ := ⟨_, rfl⟩
    have HWW := Y hW0
    clear hW0
    go_upto_region 11 with (go_at_call 12; refine HSC.out.mono ?_; rintro e w7 ⟨A7, c7', rfl, hnc7, hcm7, hX, hb⟩; have HW7 := Y (HW6.out.trans (hb.mono HW6.out.size)); have cv1 := bQ ((HH3.out.on HB36.out).on hb) HNB.out.symm c; have cv2 := bQ (HH6.out.on hb) HNB.out.symm c6; rw [← HWW.out] at cv1 cv2; have HXS := Y hX; clear hX hb hnc7 hcm7)
    clear HE5 HSC HDC HH3 HH6 HEN HG HD HSP
    obtain ⟨ns, hns⟩ : ∃ n, (secsOf m).length = n := ⟨_, rfl⟩
    have hns11 : ns ≤ 11 := by rw [← hns]; exact fp m 11
    rw [hns]
    have HNS := Y hns
    clear hns
    go_upto_region 14 with fail
    clear cv1 cv2
    go_loopw [60] (fun i wr => ∃ j : Nat, j ≤ ns ∧ i = .int .i64 (j : Int) ∧ Hid (Below w7.heap.size w7 wr)) (fun i _ => ns - (intOf i).toNat)
    case atStart => exact ⟨0, by omega, rfl, Y (Below.refl _ _)⟩
    case round =>
     obtain ⟨j, hj, rfl, HB⟩ := hrel
     have HBX := Y (HW7.out.trans (HB.out.mono HW7.out.size))
     by_cases hjn : j < ns
     ·obtain ⟨x, hx⟩ : ∃ x, (secsOf m)[j]? = some x := ⟨_, List.getElem?_eq_getElem (by rw [HNS.out]; exact hjn)⟩
      obtain ⟨g, o, As, cs, rfl, hg, hid, hbl, hcm, _, hHas, k0, k1⟩ := HXS.out j x hx
      obtain ⟨y, r, hxb, hy⟩ := HFST.out x (List.mem_of_getElem? hx)
      have hji : (j : Int) < (ns : Int) := by omega
      obtain ⟨ad, rfl, had, hc0⟩ := hHas 0 y (by rw [hxb]; rfl)
      have z0 : wr.cell? ⟨g, o + j * 2, none⟩ = some (.int .u8 (x.id : Int)) := (HB.out.cell (p := ⟨g, o + j * 2, none⟩) hg).trans k0
      have z1 : wr.cell? ⟨g, o + j * 2 + 1, none⟩ = some (.slice (some ad) x.b.length cs) := (HB.out.cell (p := ⟨g, o + j * 2 + 1, none⟩) hg).trans k1
      have hadd : ad.add 0 = ad := by unfold Addr.add; rfl
      rw [hadd] at hc0
      have z2 : wr.cell? ad = some (.int .u8 (y.toNat : Int)) := (HB.out.cell (p := ad) had).trans hc0
      have HMX := Y (HB.out.alloc HB.out.size (.cells #[.int .u8 (x.id : Int), .slice (some ad) x.b.length cs] 48))
      have zz : (wr.alloc (.cells #[.int .u8 (x.id : Int), .slice (some ad) x.b.length cs] 48)).cell? ad = some (.int .u8 (y.toNat : Int)) := (World.cell?_alloc_lt wr _ _ (World.block_lt_of_cell? wr _ z2)).trans z2
      have hlen : ¬ ((x.b.length : Int) = 0) := by rw [hxb]; simp; omega
      have hlen2 : 0 < x.b.length := by rw [hxb]; simp
      have hlen3 : (0 : Int) < (x.b.length : Int) := by omega
      have hlen4 : ((x.b.length : Int) == 0) = false := beq_eq_false_iff_ne.2 hlen
      have HY := Y hy
      clear hx hxb hHas k0 k1 hg had hc0 hadd hbl hcm hid hy
      generalize x.b.length = q at z1 HMX zz hlen hlen2 hlen3 hlen4
      generalize x.id = id at z0 HMX zz HY z1
      rcases (show id = 8 ∨ (¬ id = 8 ∧ y ≠ 0) from by
       by_cases h8 : id = 8
       ·exact .inl h8
       ·exact .inr ⟨h8, HY.out.resolve_left h8⟩) with rfl | ⟨h8, hy0⟩
      ·go_wp2_with fail
       go_roundw
       case rel => exact ⟨j + 1, by omega, by go_num, HMX⟩
       case measure => simp [intOf]; omega
      ·have h8i : ¬ ((id : Int) = 8) := by omega
       have h8b : ((id : Int) != 8) = true := by simp; omega
       have hyi : ¬ ((y.toNat : Int) = 0) := fun e => hy0 (UInt8.toNat_inj.1 (by show y.toNat = 0; omega))
       have hyb : ((y.toNat : Int) == 0) = false := by simp; omega
       clear hy0 h8
       generalize (y.toNat : Int) = yi at z2 zz hyi hyb
       go_wp2_with fail
       go_roundw
       case rel => exact ⟨j + 1, by omega, by go_num, HMX⟩
       case measure => simp [intOf]; omega
     ·obtain rfl : j = ns := by omega
      go_wp2_with fail
      go_ret
      exact ⟨rfl, HBX.out⟩
end Go.Proofs.YtgnbkfkiigcdgaaGreatDoor
