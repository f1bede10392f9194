/-
  A module whose canonical binary is short can be gone through.
-/
import Derived.Test.YthkglmkpnhhboaaGreatDoorR01
import Derived.Test.YthkglmkpnhhboaaGreatDoorR45
import Derived.Test.YthkglmkpnhhboaaGreatDoorR39
import Derived.Test.YthkglmkpnhhboaaGreatDoorR46
import Derived.Test.YthkglmkpnhhboaaGreatDoorR40
import Derived.Test.YthkglmkpnhhboaaGreatDoorR26
import Derived.Test.YthkglmkpnhhboaaGreatDoorR33
set_option maxRecDepth 100000
set_option maxHeartbeats 4000000
namespace Go.Proofs.YthkglmkpnhhboaaGreatDoor
open Go.RowKit Ins Bin Leb
theorem gR : ∀ (xs : List I), xs.all may = true → Ins.many xs ≤ 2 * (Ins.encAll xs).length
 | [], _ => by simp [Ins.many]
 | x :: xs, h => by
  simp only [List.all_cons, Bool.and_eq_true] at h
  have h1 := gR xs h.2
  have h2 := enc_labs x h.1
  have h3 : (Ins.encAll (x :: xs)).length = (Ins.enc x).length + (Ins.encAll xs).length := by simp [Ins.encAll]
  have h4 : 1 ≤ (Ins.enc x).length := by simp [Ins.enc]
  rw [h3]
  simp only [Ins.many]
  omega
theorem fo {xs : List I} (h : okExpr xs) (hl : (exprEnc xs).length ≤ 65536) : Fit xs := by
 have h1 := gR xs h.1
 refine fY ?_
 simp only [exprEnc, List.length_append] at hl
 omega
theorem dE {m : M} (hl : (encM m).length ≤ 65536) {α : Type} {e : α → List UInt8} {l : List α} {i : Nat} (hi : i ∈ ids) (hb : body m i = encList e l) (hc : cnt m i = l.length) {x : α} (hx : x ∈ l) : (e x).length ≤ 65536 := by
 have ho : i ∈ Bin.own m := List.mem_filter.2 ⟨hi, by rw [hc]; exact decide_eq_true (List.length_pos_of_mem hx)⟩
 have h1 := iR ho
 have h2 := eC (e := e) hx
 rw [hb] at h1
 simp only [encList, List.length_append] at h1
 omega
theorem fits_enc {m : M} (h : okM m) (hl : (encM m).length ≤ 65536) : FitM m where
 imports x hx := by
  have := dE hl (i := 2) (by decide) rfl rfl hx
  simp only [encImp, encName, List.length_append] at this
  omega
 globals x hx := by
  have h1 := dE hl (i := 6) (by decide) rfl rfl hx
  simp only [encGV, List.length_append] at h1
  exact fo (h.globals x hx).2 (by omega)
 exports x hx := by
  have := dE hl (i := 7) (by decide) rfl rfl hx
  simp only [encExp, encName, List.length_append] at this
  omega
 elems x hx := by
  have h1 := dE hl (i := 9) (by decide) rfl rfl hx
  simp only [encEl, List.length_append] at h1
  exact fo (h.elems x hx).2.1 (by omega)
 codes x hx := by
  have h1 := dE hl (i := 10) (by decide) rfl rfl hx
  have h2 := Bin.cw (e := encLc) x.locals (fun y _ => iq y)
  simp only [encCd, cdB, encList, List.length_append] at h1
  exact ⟨by omega, fo (h.codes x hx).2.2 (by omega)⟩
 datas x hx := by
  have h1 := dE hl (i := 11) (by decide) rfl rfl hx
  simp only [encDa, List.length_append] at h1
  exact fo (h.datas x hx).2 (by omega)
end Go.Proofs.YthkglmkpnhhboaaGreatDoor
namespace Go.Proofs.YthkglmkpnhhboaaGreatDoor
open Go.RowKit Ins Bin
structure CellsM (W : World) (B : Nat) (A1 A2 A3 A4 A5 A6 A7 A9 A10 A11 : Option Addr) (n1 c1 n2 c2 n3 c3 n4 c4 n5 c5 n6 c6 n7 c7 n9 c9 n10 c10 n11 c11 : Nat) (hs : Bool) (st : Int) : Prop where
 c0 : W.cell? ⟨B, 0, none⟩ = some (.slice A1 n1 c1)
 c1 : W.cell? ⟨B, 1, none⟩ = some (.slice A2 n2 c2)
 c2 : W.cell? ⟨B, 2, none⟩ = some (.slice A3 n3 c3)
 c3 : W.cell? ⟨B, 3, none⟩ = some (.slice A4 n4 c4)
 c4 : W.cell? ⟨B, 4, none⟩ = some (.slice A5 n5 c5)
 c5 : W.cell? ⟨B, 5, none⟩ = some (.slice A6 n6 c6)
 c6 : W.cell? ⟨B, 6, none⟩ = some (.slice A7 n7 c7)
 c7 : W.cell? ⟨B, 7, none⟩ = some (.bool hs)
 c8 : W.cell? ⟨B, 8, none⟩ = some (.int .u32 st)
 c9 : W.cell? ⟨B, 9, none⟩ = some (.slice A9 n9 c9)
 c10 : W.cell? ⟨B, 10, none⟩ = some (.slice A10 n10 c10)
 c11 : W.cell? ⟨B, 11, none⟩ = some (.slice A11 n11 c11)
theorem RepM.low {w : World} {S : Nat → Prop} {m : M} {v1 v2 v3 v4 v5 v6 v7 v8 v9 v10 : Value} (h : RepM w S m v1 v2 v3 v4 v5 v6 v7 v8 v9 v10) : RepM w (· < w.heap.size) m v1 v2 v3 v4 v5 v6 v7 v8 v9 v10 :=
 ⟨h.types.more (fun _ hk _ => hk), h.imports.more (fun _ hk _ => hk), h.funcs.more (fun _ hk _ => hk), h.tables.more (fun _ hk _ => hk), h.mems.more (fun _ hk _ => hk), h.globals.more (fun _ hk _ => hk), h.exports.more (fun _ hk _ => hk), h.start, h.elems.more (fun _ hk _ => hk), h.codes.more (fun _ hk _ => hk), h.datas.more (fun _ hk _ => hk)⟩
theorem encPost_err {m : M} {k : Nat} {w w' : World} {e : Ending} (h : bU m w e w') (he : encode m = .error k) : e = .returned (.tuple #[.slice none 0 0, .int .i64 (k : Int)]) ∧ Below w.heap.size w w' := by
 obtain ⟨hb, h⟩ := h
 rw [he] at h
 exact ⟨h, hb⟩
theorem RepM.modV {w : World} {S : Nat → Prop} {m : M} {v1 v2 v3 v4 v5 v6 v7 v8 v9 v10 : Value} (h : RepM w S m v1 v2 v3 v4 v5 v6 v7 v8 v9 v10) : ModV w S m (.agg (modCells m v1 v2 v3 v4 v5 v6 v7 v8 v9 v10)) := ⟨v1, v2, v3, v4, v5, v6, v7, v8, v9, v10, rfl, h⟩
theorem encBack_any (he : du) (hd : DecOk) (m : M) (v1 v2 v3 v4 v5 v6 v7 v8 v9 v10 : Value) (A : Option Addr) (l : List UInt8) (n c : Nat) (w : World) (hM : RepM w (· < w.heap.size) m v1 v2 v3 v4 v5 v6 v7 v8 v9 v10) (hB : BigM m) (hA : Has w w.heap.size A l) (hn : n = l.length) (hnc : n ≤ c) (hcm : c ≤ maxLen) (hAc : A = none → c = 0) (hT : Tb w) :
  Calls Tryz.prog 4 #[.agg (modCells m v1 v2 v3 v4 v5 v6 v7 v8 v9 v10), .slice A n c] w fun e w' => e = .returned (.bool true) ∧ Below w.heap.size w w' := by
 have HE := Y he
 have HKN : Hid (∀ W, Below w.heap.size w W → Calls Tryz.prog 6 #[] W fun e w' => e = .returned (.bool true) ∧ Below W.heap.size W w') := Y (fun W hb => known7 he W (hT.on hb))
 have HD := Y (fun A l n c W hA hn (hs : n ≤ 1000000) hc hcm hA0 (hb : Below w.heap.size w W) => hd A l n c W hA hn (by omega) hc hcm hA0 (hT.on hb))
 have HDB0 : Hid (n ≤ 3000 → ∀ W, Below w.heap.size w W → Calls Tryz.prog 10 #[.slice A n c] W (ir l W)) := Y (fun h W hb => hd A l n c W (hA.on hb) hn (by omega) hnc hcm hAc (hT.on hb))
 have HNL := Y hn
 have hnm : n ≤ 9223372036854775807 := by unfold maxLen at hcm; omega
 clear he hd hA hn hnc hcm hAc
 obtain ⟨A1, c1, rfl, _⟩ := hM.types
 obtain ⟨A2, c2, rfl, _⟩ := hM.imports
 obtain ⟨A3, c3, rfl, _⟩ := hM.funcs
 obtain ⟨A4, c4, rfl, _⟩ := hM.tables
 obtain ⟨A5, c5, rfl, _⟩ := hM.mems
 obtain ⟨A6, c6, rfl, _⟩ := hM.globals
 obtain ⟨A7, c7, rfl, _⟩ := hM.exports
 obtain ⟨A9, c9, rfl, _⟩ := hM.elems
 obtain ⟨A10, c10, rfl, _⟩ := hM.codes
 obtain ⟨A11, c11, rfl, _⟩ := hM.datas
 have HM := Y hM
 have HBIG := Y hB
 have HT := Y hT
 clear hM hB hT
 generalize hcs : modCells m (.slice A1 m.types.length c1) (.slice A2 m.imports.length c2) (.slice A3 m.funcs.length c3) (.slice A4 m.tables.length c4) (.slice A5 m.mems.length c5) (.slice A6 m.globals.length c6) (.slice A7 m.exports.length c7) (.slice A9 m.elems.length c9) (.slice A10 m.codes.length c10) (.slice A11 m.datas.length c11) = cs
 have HG : Hid (∀ W, Below w.heap.size w W → Calls Tryz.prog 7 #[.agg cs] W fun e w' => ∃ g : Bool, e = .returned (.bool g) ∧ Below W.heap.size W w' ∧ (g = false → fi m)) := Y (fun W hb => by
  subst hcs
  exact bgreat_any m _ _ _ _ _ _ _ _ _ _ W ((HM.out.on hb).more' (fun k hk => Nat.lt_of_lt_of_le hk hb.size)) HBIG.out)
 have HEN : Hid (fi m → ∀ W, Below w.heap.size w W → Calls Tryz.prog 8 #[.agg cs] W (bU m W)) := Y (fun hS W hb => by
  subst hcs
  exact HE.out m _ _ _ _ _ _ _ _ _ _ W ((HM.out.on hb).more' (fun k hk => Nat.lt_of_lt_of_le hk hb.size)) (fi.fits hS) (HT.out.on hb))
 have HMV : Hid (∀ W, Below w.heap.size w W → ModV W (· < w.heap.size) m (.agg cs)) := Y (fun W hb => by
  subst hcs
  exact RepM.modV (HM.out.on hb))
 unfold modCells at hcs
 obtain ⟨n1, hn1⟩ : ∃ n, m.types.length = n := ⟨_, rfl⟩
 rw [hn1] at hcs
 clear hn1
 obtain ⟨n2, hn2⟩ : ∃ n, m.imports.length = n := ⟨_, rfl⟩
 rw [hn2] at hcs
 clear hn2
 obtain ⟨n3, hn3⟩ : ∃ n, m.funcs.length = n := ⟨_, rfl⟩
 rw [hn3] at hcs
 clear hn3
 obtain ⟨n4, hn4⟩ : ∃ n, m.tables.length = n := ⟨_, rfl⟩
 rw [hn4] at hcs
 clear hn4
 obtain ⟨n5, hn5⟩ : ∃ n, m.mems.length = n := ⟨_, rfl⟩
 rw [hn5] at hcs
 clear hn5
 obtain ⟨n6, hn6⟩ : ∃ n, m.globals.length = n := ⟨_, rfl⟩
 rw [hn6] at hcs
 clear hn6
 obtain ⟨n7, hn7⟩ : ∃ n, m.exports.length = n := ⟨_, rfl⟩
 rw [hn7] at hcs
 clear hn7
 obtain ⟨n9, hn9⟩ : ∃ n, m.elems.length = n := ⟨_, rfl⟩
 rw [hn9] at hcs
 clear hn9
 obtain ⟨n10, hn10⟩ : ∃ n, m.codes.length = n := ⟨_, rfl⟩
 rw [hn10] at hcs
 clear hn10
 obtain ⟨n11, hn11⟩ : ∃ n, m.datas.length = n := ⟨_, rfl⟩
 rw [hn11] at hcs
 clear hn11
 generalize m.hasStart = hs at hcs
 generalize (m.start : Int) = st at hcs
 subst hcs
 have HX0 := Y (heap_alloc_new w (.cells #[.slice A1 n1 c1, .slice A2 n2 c2, .slice A3 n3 c3, .slice A4 n4 c4, .slice A5 n5 c5, .slice A6 n6 c6, .slice A7 n7 c7, .bool hs, .int .u32 st, .slice A9 n9 c9, .slice A10 n10 c10, .slice A11 n11 c11] 33))
 have HB0 : Hid (Below w.heap.size w (w.alloc (.cells #[.slice A1 n1 c1, .slice A2 n2 c2, .slice A3 n3 c3, .slice A4 n4 c4, .slice A5 n5 c5, .slice A6 n6 c6, .slice A7 n7 c7, .bool hs, .int .u32 st, .slice A9 n9 c9, .slice A10 n10 c10, .slice A11 n11 c11] 33))) := Y ((Below.refl _ _).alloc (Nat.le_refl _) _)
 have HS0 : Hid ((w.alloc (.cells #[.slice A1 n1 c1, .slice A2 n2 c2, .slice A3 n3 c3, .slice A4 n4 c4, .slice A5 n5 c5, .slice A6 n6 c6, .slice A7 n7 c7, .bool hs, .int .u32 st, .slice A9 n9 c9, .slice A10 n10 c10, .slice A11 n11 c11] 33)).heap.size = w.heap.size + 1) := Y (by simp)
 have HE2 := HE
 clear HE
 go_enter Tryz.func4, Tryz.ntmps4
 go_upto_region 1 with fail
 generalize w.alloc (.cells #[.slice A1 n1 c1, .slice A2 n2 c2, .slice A3 n3 c3, .slice A4 n4 c4, .slice A5 n5 c5, .slice A6 n6 c6, .slice A7 n7 c7, .bool hs, .int .u32 st, .slice A9 n9 c9, .slice A10 n10 c10, .slice A11 n11 c11] 33) = w0 at HX0 HB0 HS0 ⊢
 obtain ⟨X1, hX1⟩ : ∃ X, w.heap.size = X := ⟨_, rfl⟩
 have HXB : Hid (∀ W, Below w0.heap.size w0 W → CellsM W X1 A1 A2 A3 A4 A5 A6 A7 A9 A10 A11 n1 c1 n2 c2 n3 c3 n4 c4 n5 c5 n6 c6 n7 c7 n9 c9 n10 c10 n11 c11 hs st) := Y (fun W hb => by
  have h := (hb.block w.heap.size (by have := HS0.out; omega)).trans HX0.out
  rw [hX1] at h
  exact ⟨by rw [cell_of_row W _ 0 _ _ (0, 0) h]; rfl, by rw [cell_of_row W _ 1 _ _ (0, 0) h]; rfl, by rw [cell_of_row W _ 2 _ _ (0, 0) h]; rfl, by rw [cell_of_row W _ 3 _ _ (0, 0) h]; rfl, by rw [cell_of_row W _ 4 _ _ (0, 0) h]; rfl, by rw [cell_of_row W _ 5 _ _ (0, 0) h]; rfl, by rw [cell_of_row W _ 6 _ _ (0, 0) h]; rfl, by rw [cell_of_row W _ 7 _ _ (0, 0) h]; rfl, by rw [cell_of_row W _ 8 _ _ (0, 0) h]; rfl, by rw [cell_of_row W _ 9 _ _ (0, 0) h]; rfl, by rw [cell_of_row W _ 10 _ _ (0, 0) h]; rfl, by rw [cell_of_row W _ 11 _ _ (0, 0) h]; rfl⟩)
 simp only [hX1]
 clear HX0 HS0 hX1
 obtain ⟨a0, a1, a2, a3, a4, a5, a6, a7, a8, a9, a10, a11⟩ := HXB.out w0 (Below.refl _ _)
 go_upto_region 3 with (go_at_call 6; refine (HKN.out _ HB0.out).mono ?_; rintro e w1 ⟨rfl, hb⟩; have HB1 := Y hb; have HW1 := Y (HB0.out.trans (hb.mono HB0.out.size)); clear a0 a1 a2 a3 a4 a5 a6 a7 a8 a9 a10 a11; obtain ⟨b0, b1, b2, b3, b4, b5, b6, b7, b8, b9, b10, b11⟩ := HXB.out w1 hb; clear hb)
 go_cut [22] from 16 to 22 (fun s wx => ∃ q : Bool, s = .bool q ∧ Hid (Below w0.heap.size w0 wx) ∧ Hid (Below w.heap.size w wx) ∧ Hid (q = false → fi m ∧ n ≤ 3000))
 case first =>
  by_cases hn3 : n ≤ 3000
  ·have hn3i : ¬ (3000 : Int) < (n : Int) := by omega
   go_wp2_with (go_at_call 7; refine (HG.out _ HW1.out).mono ?_; rintro e w2 ⟨g, rfl, hb, hsm⟩; have HB2 := Y (HB1.out.trans (hb.mono HB1.out.size)); have HW2 := Y (HW1.out.trans (hb.mono HW1.out.size)); have HSM := Y hsm; clear b0 b1 b2 b3 b4 b5 b6 b7 b8 b9 b10 b11 hb hsm)
   all_goals
    go_meet
    case rel => exact ⟨_, rfl, HB2, HW2, Y (fun h => ⟨HSM.out (by first | assumption | (simp at h; done) | (simp at h; exact h) | simp_all), hn3⟩)⟩
  ·have hn3i : (3000 : Int) < (n : Int) := by omega
   go_wp2_with (go_at_call 7; refine (HG.out _ HW1.out).mono ?_; rintro e w2 ⟨g, rfl, hb, hsm⟩; have HB2 := Y (HB1.out.trans (hb.mono HB1.out.size)); have HW2 := Y (HW1.out.trans (hb.mono HW1.out.size)); have HSM := Y hsm; clear b0 b1 b2 b3 b4 b5 b6 b7 b8 b9 b10 b11 hb hsm)
   all_goals
    go_meet
    case rel => exact ⟨_, rfl, HB2, HW2, Y (fun h => by simp_all)⟩
 case rest =>
  obtain ⟨q, rfl, HB2, HW2, HSM⟩ := hcut
  clear HB1 HW1 b0 b1 b2 b3 b4 b5 b6 b7 b8 b9 b10 b11
  cases q with
  | true =>
   go_wp2_with fail
   go_ret
   exact ⟨rfl, HW2.out⟩
  | false =>
   have HSMALL := Y (HSM.out rfl).1
   have hn3 := (HSM.out rfl).2
   have HDB := Y (HDB0.out hn3)
   clear HSM HDB0
   obtain ⟨d0, d1, d2, d3, d4, d5, d6, d7, d8, d9, d10, d11⟩ := HXB.out wc HB2.out
   cases hen : encode m with
   | error k =>
    have HERR := Y hen
    have hk := encode_err hen
    clear hen
    rcases hk with rfl | rfl
    all_goals
     go_upto_region 10 with (go_at_call 8; refine (HEN.out HSMALL.out _ HW2.out).mono ?_; intro e w3 hp; obtain ⟨rfl, hb⟩ := encPost_err hp HERR.out; have HWw3 := Y (HW2.out.trans (hb.mono HW2.out.size)); clear hp hb d0 d1 d2 d3 d4 d5 d6 d7 d8 d9 d10 d11)
     clear HEN HG HKN HXB
     cases hdl : dec l with
     | error k =>
      have hk0 := dec_er hdl
      have hk1 : ¬ ((k : Int) = 0) := by omega
      have hk2 : ((k : Int) != 0) = true := by simp; omega
      have HDL := Y hdl
      clear hdl
      go_upto_region 11 with (go_at_call 10; refine (HDB.out _ HWw3.out).mono ?_; intro e wd hp; obtain ⟨g1, t1, g2, t2, g3, t3, g4, t4, g5, t5, g6, t6, g7, t7, g8, t8, g9, t9, g10, t10, rfl, _, hb⟩ := ic HDL.out hp; have HWd := Y (HWw3.out.trans (hb.mono HWw3.out.size)); clear hp hb)
      have HWe := Y (HWd.out.alloc HWd.out.size (.cells #[.slice g1 0 t1, .slice g2 0 t2, .slice g3 0 t3, .slice g4 0 t4, .slice g5 0 t5, .slice g6 0 t6, .slice g7 0 t7, .bool false, .int .u32 0, .slice g8 0 t8, .slice g9 0 t9, .slice g10 0 t10] 33))
      go_wp2_with fail
      go_ret
      exact ⟨rfl, HWe.out⟩
     | ok n0 =>
      obtain ⟨hokn, hle⟩ := dec_back hdl
      have hle3 : (encM n0).length ≤ n := by rw [HNL.out]; exact hle
      have HDL := Y hdl
      have HEN0 := Y (cM hokn (by omega))
      have HDE0 := Y (fX hokn (by omega))
      have HFT0 := Y (fits_enc hokn (by omega))
      have HSM0 := Y (eS hdl)
      clear hdl hokn hle
      obtain ⟨b2, hb2⟩ : ∃ b2, encM n0 = b2 := ⟨_, rfl⟩
      rw [hb2] at HEN0 HDE0 hle3
      clear hb2
      obtain ⟨nc, hnc⟩ : ∃ n, b2.length = n := ⟨_, rfl⟩
      rw [hnc] at hle3
      have HNC := Y hnc
      clear hnc
      have hlei : (nc : Int) ≤ (n : Int) := by omega
      go_upto_region 11 with (go_at_call 10; refine (HDB.out _ HWw3.out).mono ?_; intro e wd hp; obtain ⟨g1, t1, g2, t2, g3, t3, g4, t4, g5, t5, g6, t6, g7, t7, g8, t8, g9, t9, g10, t10, rfl, hr, hb⟩ := cQ HDL.out hp; have HWwd := Y (HWw3.out.trans (hb.mono HWw3.out.size)); have HZwd := Y (HWw3.out.trans (hb.mono HWw3.out.size)); have HR3 := Y (RepM.low hr); clear hp hr hb)
      have HX3 := Y (heap_alloc_new wd (.cells #[.slice g1 n0.types.length t1, .slice g2 n0.imports.length t2, .slice g3 n0.funcs.length t3, .slice g4 n0.tables.length t4, .slice g5 n0.mems.length t5, .slice g6 n0.globals.length t6, .slice g7 n0.exports.length t7, .bool n0.hasStart, .int .u32 (n0.start : Int), .slice g8 n0.elems.length t8, .slice g9 n0.codes.length t9, .slice g10 n0.datas.length t10] 33))
      have HA3 : Hid (Below wd.heap.size wd (wd.alloc (.cells #[.slice g1 n0.types.length t1, .slice g2 n0.imports.length t2, .slice g3 n0.funcs.length t3, .slice g4 n0.tables.length t4, .slice g5 n0.mems.length t5, .slice g6 n0.globals.length t6, .slice g7 n0.exports.length t7, .bool n0.hasStart, .int .u32 (n0.start : Int), .slice g8 n0.elems.length t8, .slice g9 n0.codes.length t9, .slice g10 n0.datas.length t10] 33))) := Y ((Below.refl _ _).alloc (Nat.le_refl _) _)
      have HR3b := Y ((HR3.out.on HA3.out).more' (fun k hk => Nat.lt_of_lt_of_le hk HA3.out.size))
      have HWwe := Y (HWwd.out.trans (HA3.out.mono HWwd.out.size))
      have HZwe := Y (HZwd.out.trans (HA3.out.mono HZwd.out.size))
      generalize wd.alloc (.cells #[.slice g1 n0.types.length t1, .slice g2 n0.imports.length t2, .slice g3 n0.funcs.length t3, .slice g4 n0.tables.length t4, .slice g5 n0.mems.length t5, .slice g6 n0.globals.length t6, .slice g7 n0.exports.length t7, .bool n0.hasStart, .int .u32 (n0.start : Int), .slice g8 n0.elems.length t8, .slice g9 n0.codes.length t9, .slice g10 n0.datas.length t10] 33) = we at HX3 HA3 HR3b HWwe HZwe ⊢
      have HC3 : Hid (∀ W, Below we.heap.size we W → W.heap[wd.heap.size]? = some (.cells #[.slice g1 n0.types.length t1, .slice g2 n0.imports.length t2, .slice g3 n0.funcs.length t3, .slice g4 n0.tables.length t4, .slice g5 n0.mems.length t5, .slice g6 n0.globals.length t6, .slice g7 n0.exports.length t7, .bool n0.hasStart, .int .u32 (n0.start : Int), .slice g8 n0.elems.length t8, .slice g9 n0.codes.length t9, .slice g10 n0.datas.length t10] 33 (0, 0))) := Y (fun W hb => (hb.block _ (Array.getElem?_eq_some_iff.1 HX3.out).1).trans HX3.out)
      obtain ⟨X3, hX3⟩ : ∃ X, wd.heap.size = X := ⟨_, rfl⟩
      rw [hX3] at HC3 ⊢
      clear hX3 HX3 HA3 HR3
      have HE3 : Hid (Calls Tryz.prog 8 #[.agg #[.slice g1 n0.types.length t1, .slice g2 n0.imports.length t2, .slice g3 n0.funcs.length t3, .slice g4 n0.tables.length t4, .slice g5 n0.mems.length t5, .slice g6 n0.globals.length t6, .slice g7 n0.exports.length t7, .bool n0.hasStart, .int .u32 (n0.start : Int), .slice g8 n0.elems.length t8, .slice g9 n0.codes.length t9, .slice g10 n0.datas.length t10]] we (bU n0 we)) := Y (HE2.out n0 _ _ _ _ _ _ _ _ _ _ we HR3b.out HFT0.out (HT.out.on HWwe.out))
      have HMV3 : Hid (∀ W, Below we.heap.size we W → ModV W (· < we.heap.size) n0 (.agg #[.slice g1 n0.types.length t1, .slice g2 n0.imports.length t2, .slice g3 n0.funcs.length t3, .slice g4 n0.tables.length t4, .slice g5 n0.mems.length t5, .slice g6 n0.globals.length t6, .slice g7 n0.exports.length t7, .bool n0.hasStart, .int .u32 (n0.start : Int), .slice g8 n0.elems.length t8, .slice g9 n0.codes.length t9, .slice g10 n0.datas.length t10])) := Y (fun W hb => RepM.modV (HR3b.out.on hb))
      have k0 : we.cell? ⟨X3, 0, none⟩ = some (.slice g1 n0.types.length t1) := by rw [cell_of_row we _ 0 _ _ (0, 0) (HC3.out _ (Below.refl _ _))]; rfl
      have k1 : we.cell? ⟨X3, 1, none⟩ = some (.slice g2 n0.imports.length t2) := by rw [cell_of_row we _ 1 _ _ (0, 0) (HC3.out _ (Below.refl _ _))]; rfl
      have k2 : we.cell? ⟨X3, 2, none⟩ = some (.slice g3 n0.funcs.length t3) := by rw [cell_of_row we _ 2 _ _ (0, 0) (HC3.out _ (Below.refl _ _))]; rfl
      have k3 : we.cell? ⟨X3, 3, none⟩ = some (.slice g4 n0.tables.length t4) := by rw [cell_of_row we _ 3 _ _ (0, 0) (HC3.out _ (Below.refl _ _))]; rfl
      have k4 : we.cell? ⟨X3, 4, none⟩ = some (.slice g5 n0.mems.length t5) := by rw [cell_of_row we _ 4 _ _ (0, 0) (HC3.out _ (Below.refl _ _))]; rfl
      have k5 : we.cell? ⟨X3, 5, none⟩ = some (.slice g6 n0.globals.length t6) := by rw [cell_of_row we _ 5 _ _ (0, 0) (HC3.out _ (Below.refl _ _))]; rfl
      have k6 : we.cell? ⟨X3, 6, none⟩ = some (.slice g7 n0.exports.length t7) := by rw [cell_of_row we _ 6 _ _ (0, 0) (HC3.out _ (Below.refl _ _))]; rfl
      have k7 : we.cell? ⟨X3, 7, none⟩ = some (.bool n0.hasStart) := by rw [cell_of_row we _ 7 _ _ (0, 0) (HC3.out _ (Below.refl _ _))]; rfl
      have k8 : we.cell? ⟨X3, 8, none⟩ = some (.int .u32 (n0.start : Int)) := by rw [cell_of_row we _ 8 _ _ (0, 0) (HC3.out _ (Below.refl _ _))]; rfl
      have k9 : we.cell? ⟨X3, 9, none⟩ = some (.slice g8 n0.elems.length t8) := by rw [cell_of_row we _ 9 _ _ (0, 0) (HC3.out _ (Below.refl _ _))]; rfl
      have k10 : we.cell? ⟨X3, 10, none⟩ = some (.slice g9 n0.codes.length t9) := by rw [cell_of_row we _ 10 _ _ (0, 0) (HC3.out _ (Below.refl _ _))]; rfl
      have k11 : we.cell? ⟨X3, 11, none⟩ = some (.slice g10 n0.datas.length t10) := by rw [cell_of_row we _ 11 _ _ (0, 0) (HC3.out _ (Below.refl _ _))]; rfl
      go_upto_region 14 with (go_at_call 8; refine HE3.out.mono ?_; intro e wf hp; obtain ⟨Af, cf, rfl, q1, q2, q3, hh, hb⟩ := bK hp HEN0.out; rw [HNC.out] at q1 ⊢; have HWwf := Y (HWwe.out.trans (hb.mono HWwe.out.size)); have HEF := Y hb; have HDC := Y (HD.out Af b2 nc cf wf hh HNC.out.symm (by omega) q1 q2 q3 HWwf.out); clear hp hb hh q1 q2 q3 k0 k1 k2 k3 k4 k5 k6 k7 k8 k9 k10 k11)
      go_upto_region 15 with (go_at_call 10; refine HDC.out.mono ?_; intro e wg hp; obtain ⟨i1, r1, i2, r2, i3, r3, i4, r4, i5, r5, i6, r6, i7, r7, i8, r8, i9, r9, i10, r10, rfl, hr, hb⟩ := cQ HDE0.out hp; have HWwg := Y (HWwf.out.trans (hb.mono HWwf.out.size)); have HZwg := Y (HEF.out.trans (hb.mono HEF.out.size)); have HR4 := Y (RepM.low hr); clear hp hr hb)
      have HX4 := Y (heap_alloc_new wg (.cells #[.slice i1 n0.types.length r1, .slice i2 n0.imports.length r2, .slice i3 n0.funcs.length r3, .slice i4 n0.tables.length r4, .slice i5 n0.mems.length r5, .slice i6 n0.globals.length r6, .slice i7 n0.exports.length r7, .bool n0.hasStart, .int .u32 (n0.start : Int), .slice i8 n0.elems.length r8, .slice i9 n0.codes.length r9, .slice i10 n0.datas.length r10] 33))
      have HA4 : Hid (Below wg.heap.size wg (wg.alloc (.cells #[.slice i1 n0.types.length r1, .slice i2 n0.imports.length r2, .slice i3 n0.funcs.length r3, .slice i4 n0.tables.length r4, .slice i5 n0.mems.length r5, .slice i6 n0.globals.length r6, .slice i7 n0.exports.length r7, .bool n0.hasStart, .int .u32 (n0.start : Int), .slice i8 n0.elems.length r8, .slice i9 n0.codes.length r9, .slice i10 n0.datas.length r10] 33))) := Y ((Below.refl _ _).alloc (Nat.le_refl _) _)
      have HR4b := Y ((HR4.out.on HA4.out).more' (fun k hk => Nat.lt_of_lt_of_le hk HA4.out.size))
      have HWwh := Y (HWwg.out.trans (HA4.out.mono HWwg.out.size))
      have HZwh := Y (HZwg.out.trans (HA4.out.mono HZwg.out.size))
      generalize wg.alloc (.cells #[.slice i1 n0.types.length r1, .slice i2 n0.imports.length r2, .slice i3 n0.funcs.length r3, .slice i4 n0.tables.length r4, .slice i5 n0.mems.length r5, .slice i6 n0.globals.length r6, .slice i7 n0.exports.length r7, .bool n0.hasStart, .int .u32 (n0.start : Int), .slice i8 n0.elems.length r8, .slice i9 n0.codes.length r9, .slice i10 n0.datas.length r10] 33) = wh at HX4 HA4 HR4b HWwh HZwh ⊢
      have HC4 : Hid (∀ W, Below wh.heap.size wh W → W.heap[wg.heap.size]? = some (.cells #[.slice i1 n0.types.length r1, .slice i2 n0.imports.length r2, .slice i3 n0.funcs.length r3, .slice i4 n0.tables.length r4, .slice i5 n0.mems.length r5, .slice i6 n0.globals.length r6, .slice i7 n0.exports.length r7, .bool n0.hasStart, .int .u32 (n0.start : Int), .slice i8 n0.elems.length r8, .slice i9 n0.codes.length r9, .slice i10 n0.datas.length r10] 33 (0, 0))) := Y (fun W hb => (hb.block _ (Array.getElem?_eq_some_iff.1 HX4.out).1).trans HX4.out)
      obtain ⟨X4, hX4⟩ : ∃ X, wg.heap.size = X := ⟨_, rfl⟩
      rw [hX4] at HC4 ⊢
      clear hX4 HX4 HA4 HR4
      have HSAME : Hid (Calls Tryz.prog 11 #[.agg #[.slice i1 n0.types.length r1, .slice i2 n0.imports.length r2, .slice i3 n0.funcs.length r3, .slice i4 n0.tables.length r4, .slice i5 n0.mems.length r5, .slice i6 n0.globals.length r6, .slice i7 n0.exports.length r7, .bool n0.hasStart, .int .u32 (n0.start : Int), .slice i8 n0.elems.length r8, .slice i9 n0.codes.length r9, .slice i10 n0.datas.length r10], .agg #[.slice g1 n0.types.length t1, .slice g2 n0.imports.length t2, .slice g3 n0.funcs.length t3, .slice g4 n0.tables.length t4, .slice g5 n0.mems.length t5, .slice g6 n0.globals.length t6, .slice g7 n0.exports.length t7, .bool n0.hasStart, .int .u32 (n0.start : Int), .slice g8 n0.elems.length t8, .slice g9 n0.codes.length t9, .slice g10 n0.datas.length t10]] wh fun e w' => e = .returned (.bool true) ∧ Below wh.heap.size wh w') := Y (eT _ _ n0 _ _ wh (RepM.modV HR4b.out) (HMV3.out wh HZwh.out) HSM0.out)
      have k0 : wh.cell? ⟨X4, 0, none⟩ = some (.slice i1 n0.types.length r1) := by rw [cell_of_row wh _ 0 _ _ (0, 0) (HC4.out _ (Below.refl _ _))]; rfl
      have k1 : wh.cell? ⟨X4, 1, none⟩ = some (.slice i2 n0.imports.length r2) := by rw [cell_of_row wh _ 1 _ _ (0, 0) (HC4.out _ (Below.refl _ _))]; rfl
      have k2 : wh.cell? ⟨X4, 2, none⟩ = some (.slice i3 n0.funcs.length r3) := by rw [cell_of_row wh _ 2 _ _ (0, 0) (HC4.out _ (Below.refl _ _))]; rfl
      have k3 : wh.cell? ⟨X4, 3, none⟩ = some (.slice i4 n0.tables.length r4) := by rw [cell_of_row wh _ 3 _ _ (0, 0) (HC4.out _ (Below.refl _ _))]; rfl
      have k4 : wh.cell? ⟨X4, 4, none⟩ = some (.slice i5 n0.mems.length r5) := by rw [cell_of_row wh _ 4 _ _ (0, 0) (HC4.out _ (Below.refl _ _))]; rfl
      have k5 : wh.cell? ⟨X4, 5, none⟩ = some (.slice i6 n0.globals.length r6) := by rw [cell_of_row wh _ 5 _ _ (0, 0) (HC4.out _ (Below.refl _ _))]; rfl
      have k6 : wh.cell? ⟨X4, 6, none⟩ = some (.slice i7 n0.exports.length r7) := by rw [cell_of_row wh _ 6 _ _ (0, 0) (HC4.out _ (Below.refl _ _))]; rfl
      have k7 : wh.cell? ⟨X4, 7, none⟩ = some (.bool n0.hasStart) := by rw [cell_of_row wh _ 7 _ _ (0, 0) (HC4.out _ (Below.refl _ _))]; rfl
      have k8 : wh.cell? ⟨X4, 8, none⟩ = some (.int .u32 (n0.start : Int)) := by rw [cell_of_row wh _ 8 _ _ (0, 0) (HC4.out _ (Below.refl _ _))]; rfl
      have k9 : wh.cell? ⟨X4, 9, none⟩ = some (.slice i8 n0.elems.length r8) := by rw [cell_of_row wh _ 9 _ _ (0, 0) (HC4.out _ (Below.refl _ _))]; rfl
      have k10 : wh.cell? ⟨X4, 10, none⟩ = some (.slice i9 n0.codes.length r9) := by rw [cell_of_row wh _ 10 _ _ (0, 0) (HC4.out _ (Below.refl _ _))]; rfl
      have k11 : wh.cell? ⟨X4, 11, none⟩ = some (.slice i10 n0.datas.length r10) := by rw [cell_of_row wh _ 11 _ _ (0, 0) (HC4.out _ (Below.refl _ _))]; rfl
      have j0 : wh.cell? ⟨X3, 0, none⟩ = some (.slice g1 n0.types.length t1) := by rw [cell_of_row wh _ 0 _ _ (0, 0) (HC3.out _ HZwh.out)]; rfl
      have j1 : wh.cell? ⟨X3, 1, none⟩ = some (.slice g2 n0.imports.length t2) := by rw [cell_of_row wh _ 1 _ _ (0, 0) (HC3.out _ HZwh.out)]; rfl
      have j2 : wh.cell? ⟨X3, 2, none⟩ = some (.slice g3 n0.funcs.length t3) := by rw [cell_of_row wh _ 2 _ _ (0, 0) (HC3.out _ HZwh.out)]; rfl
      have j3 : wh.cell? ⟨X3, 3, none⟩ = some (.slice g4 n0.tables.length t4) := by rw [cell_of_row wh _ 3 _ _ (0, 0) (HC3.out _ HZwh.out)]; rfl
      have j4 : wh.cell? ⟨X3, 4, none⟩ = some (.slice g5 n0.mems.length t5) := by rw [cell_of_row wh _ 4 _ _ (0, 0) (HC3.out _ HZwh.out)]; rfl
      have j5 : wh.cell? ⟨X3, 5, none⟩ = some (.slice g6 n0.globals.length t6) := by rw [cell_of_row wh _ 5 _ _ (0, 0) (HC3.out _ HZwh.out)]; rfl
      have j6 : wh.cell? ⟨X3, 6, none⟩ = some (.slice g7 n0.exports.length t7) := by rw [cell_of_row wh _ 6 _ _ (0, 0) (HC3.out _ HZwh.out)]; rfl
      have j7 : wh.cell? ⟨X3, 7, none⟩ = some (.bool n0.hasStart) := by rw [cell_of_row wh _ 7 _ _ (0, 0) (HC3.out _ HZwh.out)]; rfl
      have j8 : wh.cell? ⟨X3, 8, none⟩ = some (.int .u32 (n0.start : Int)) := by rw [cell_of_row wh _ 8 _ _ (0, 0) (HC3.out _ HZwh.out)]; rfl
      have j9 : wh.cell? ⟨X3, 9, none⟩ = some (.slice g8 n0.elems.length t8) := by rw [cell_of_row wh _ 9 _ _ (0, 0) (HC3.out _ HZwh.out)]; rfl
      have j10 : wh.cell? ⟨X3, 10, none⟩ = some (.slice g9 n0.codes.length t9) := by rw [cell_of_row wh _ 10 _ _ (0, 0) (HC3.out _ HZwh.out)]; rfl
      have j11 : wh.cell? ⟨X3, 11, none⟩ = some (.slice g10 n0.datas.length t10) := by rw [cell_of_row wh _ 11 _ _ (0, 0) (HC3.out _ HZwh.out)]; rfl
      clear HMV3 HE3 HDC HC3 HC4
      generalize n0.types.length = l0 at HSAME k0 j0
      generalize n0.imports.length = l1 at HSAME k1 j1
      generalize n0.funcs.length = l2 at HSAME k2 j2
      generalize n0.tables.length = l3 at HSAME k3 j3
      generalize n0.mems.length = l4 at HSAME k4 j4
      generalize n0.globals.length = l5 at HSAME k5 j5
      generalize n0.exports.length = l6 at HSAME k6 j6
      generalize n0.elems.length = l7 at HSAME k9 j9
      generalize n0.codes.length = l8 at HSAME k10 j10
      generalize n0.datas.length = l9 at HSAME k11 j11
      generalize n0.hasStart = lhs at HSAME k7 j7
      generalize (n0.start : Int) = lst at HSAME k8 j8
      go_wp2_with (go_at_call 11; refine HSAME.out.mono ?_; rintro e wi ⟨rfl, hb⟩; have HWwi := Y (HWwh.out.trans (hb.mono HWwh.out.size)); clear hb)
      go_ret
      exact ⟨rfl, HWwi.out⟩
   | ok b =>
    have HOK := Y hen
    have hb65 := (eA hen).2.1
    rw [← (eA hen).2.2] at hb65
    have HDEC := Y (fO hen)
    have HSMM := Y (eS (fO hen))
    obtain ⟨nb, hnb⟩ : ∃ n, b.length = n := ⟨_, rfl⟩
    rw [hnb] at hb65
    have HNB := Y hnb
    clear hen hnb
    go_upto_region 7 with (go_at_call 8; refine (HEN.out HSMALL.out _ HW2.out).mono ?_; intro e w3 hp; obtain ⟨Aq, cq, rfl, q1, q2, q3, hh, hb⟩ := bK hp HOK.out; rw [HNB.out] at q1 ⊢; have HB3 := Y (HB2.out.trans (hb.mono HB2.out.size)); have HW3 := Y (HW2.out.trans (hb.mono HW2.out.size)); have HDC := Y (HD.out Aq b nb cq w3 hh HNB.out.symm (by omega) q1 q2 q3 HW3.out); clear hp hb hh q1 q2 q3 d0 d1 d2 d3 d4 d5 d6 d7 d8 d9 d10 d11)
    go_upto_region 8 with (go_at_call 10; refine HDC.out.mono ?_; intro e wa hp; obtain ⟨e1, y1, e2, y2, e3, y3, e4, y4, e5, y5, e6, y6, e7, y7, e8, y8, e9, y9, e10, y10, rfl, hr, hb⟩ := cQ HDEC.out hp; have HWwa := Y (HW3.out.trans (hb.mono HW3.out.size)); have HZwa := Y (HB3.out.trans (hb.mono HB3.out.size)); have HR2 := Y (RepM.low hr); clear hp hr hb)
    have HX2 := Y (heap_alloc_new wa (.cells #[.slice e1 m.types.length y1, .slice e2 m.imports.length y2, .slice e3 m.funcs.length y3, .slice e4 m.tables.length y4, .slice e5 m.mems.length y5, .slice e6 m.globals.length y6, .slice e7 m.exports.length y7, .bool m.hasStart, .int .u32 (m.start : Int), .slice e8 m.elems.length y8, .slice e9 m.codes.length y9, .slice e10 m.datas.length y10] 33))
    have HA2 : Hid (Below wa.heap.size wa (wa.alloc (.cells #[.slice e1 m.types.length y1, .slice e2 m.imports.length y2, .slice e3 m.funcs.length y3, .slice e4 m.tables.length y4, .slice e5 m.mems.length y5, .slice e6 m.globals.length y6, .slice e7 m.exports.length y7, .bool m.hasStart, .int .u32 (m.start : Int), .slice e8 m.elems.length y8, .slice e9 m.codes.length y9, .slice e10 m.datas.length y10] 33))) := Y ((Below.refl _ _).alloc (Nat.le_refl _) _)
    have HR2b := Y ((HR2.out.on HA2.out).more' (fun k hk => Nat.lt_of_lt_of_le hk HA2.out.size))
    have HWwb := Y (HWwa.out.trans (HA2.out.mono HWwa.out.size))
    have HZwb := Y (HZwa.out.trans (HA2.out.mono HZwa.out.size))
    generalize wa.alloc (.cells #[.slice e1 m.types.length y1, .slice e2 m.imports.length y2, .slice e3 m.funcs.length y3, .slice e4 m.tables.length y4, .slice e5 m.mems.length y5, .slice e6 m.globals.length y6, .slice e7 m.exports.length y7, .bool m.hasStart, .int .u32 (m.start : Int), .slice e8 m.elems.length y8, .slice e9 m.codes.length y9, .slice e10 m.datas.length y10] 33) = wb at HX2 HA2 HR2b HWwb HZwb ⊢
    have HC2 : Hid (∀ W, Below wb.heap.size wb W → W.heap[wa.heap.size]? = some (.cells #[.slice e1 m.types.length y1, .slice e2 m.imports.length y2, .slice e3 m.funcs.length y3, .slice e4 m.tables.length y4, .slice e5 m.mems.length y5, .slice e6 m.globals.length y6, .slice e7 m.exports.length y7, .bool m.hasStart, .int .u32 (m.start : Int), .slice e8 m.elems.length y8, .slice e9 m.codes.length y9, .slice e10 m.datas.length y10] 33 (0, 0))) := Y (fun W hb => (hb.block _ (Array.getElem?_eq_some_iff.1 HX2.out).1).trans HX2.out)
    obtain ⟨X2, hX2⟩ : ∃ X, wa.heap.size = X := ⟨_, rfl⟩
    rw [hX2] at HC2 ⊢
    clear hX2 HX2 HA2 HR2
    have HSAME : Hid (Calls Tryz.prog 11 #[.agg #[.slice e1 m.types.length y1, .slice e2 m.imports.length y2, .slice e3 m.funcs.length y3, .slice e4 m.tables.length y4, .slice e5 m.mems.length y5, .slice e6 m.globals.length y6, .slice e7 m.exports.length y7, .bool m.hasStart, .int .u32 (m.start : Int), .slice e8 m.elems.length y8, .slice e9 m.codes.length y9, .slice e10 m.datas.length y10], .agg #[.slice A1 n1 c1, .slice A2 n2 c2, .slice A3 n3 c3, .slice A4 n4 c4, .slice A5 n5 c5, .slice A6 n6 c6, .slice A7 n7 c7, .bool hs, .int .u32 st, .slice A9 n9 c9, .slice A10 n10 c10, .slice A11 n11 c11]] wb fun e w' => e = .returned (.bool true) ∧ Below wb.heap.size wb w') := Y (eT _ _ m _ _ wb (RepM.modV HR2b.out) (HMV.out wb HWwb.out) HSMM.out)
    have k0 : wb.cell? ⟨X2, 0, none⟩ = some (.slice e1 m.types.length y1) := by rw [cell_of_row wb _ 0 _ _ (0, 0) (HC2.out _ (Below.refl _ _))]; rfl
    have k1 : wb.cell? ⟨X2, 1, none⟩ = some (.slice e2 m.imports.length y2) := by rw [cell_of_row wb _ 1 _ _ (0, 0) (HC2.out _ (Below.refl _ _))]; rfl
    have k2 : wb.cell? ⟨X2, 2, none⟩ = some (.slice e3 m.funcs.length y3) := by rw [cell_of_row wb _ 2 _ _ (0, 0) (HC2.out _ (Below.refl _ _))]; rfl
    have k3 : wb.cell? ⟨X2, 3, none⟩ = some (.slice e4 m.tables.length y4) := by rw [cell_of_row wb _ 3 _ _ (0, 0) (HC2.out _ (Below.refl _ _))]; rfl
    have k4 : wb.cell? ⟨X2, 4, none⟩ = some (.slice e5 m.mems.length y5) := by rw [cell_of_row wb _ 4 _ _ (0, 0) (HC2.out _ (Below.refl _ _))]; rfl
    have k5 : wb.cell? ⟨X2, 5, none⟩ = some (.slice e6 m.globals.length y6) := by rw [cell_of_row wb _ 5 _ _ (0, 0) (HC2.out _ (Below.refl _ _))]; rfl
    have k6 : wb.cell? ⟨X2, 6, none⟩ = some (.slice e7 m.exports.length y7) := by rw [cell_of_row wb _ 6 _ _ (0, 0) (HC2.out _ (Below.refl _ _))]; rfl
    have k7 : wb.cell? ⟨X2, 7, none⟩ = some (.bool m.hasStart) := by rw [cell_of_row wb _ 7 _ _ (0, 0) (HC2.out _ (Below.refl _ _))]; rfl
    have k8 : wb.cell? ⟨X2, 8, none⟩ = some (.int .u32 (m.start : Int)) := by rw [cell_of_row wb _ 8 _ _ (0, 0) (HC2.out _ (Below.refl _ _))]; rfl
    have k9 : wb.cell? ⟨X2, 9, none⟩ = some (.slice e8 m.elems.length y8) := by rw [cell_of_row wb _ 9 _ _ (0, 0) (HC2.out _ (Below.refl _ _))]; rfl
    have k10 : wb.cell? ⟨X2, 10, none⟩ = some (.slice e9 m.codes.length y9) := by rw [cell_of_row wb _ 10 _ _ (0, 0) (HC2.out _ (Below.refl _ _))]; rfl
    have k11 : wb.cell? ⟨X2, 11, none⟩ = some (.slice e10 m.datas.length y10) := by rw [cell_of_row wb _ 11 _ _ (0, 0) (HC2.out _ (Below.refl _ _))]; rfl
    obtain ⟨j0, j1, j2, j3, j4, j5, j6, j7, j8, j9, j10, j11⟩ := HXB.out wb HZwb.out
    clear HC2 HMV
    generalize m.types.length = l0 at HSAME k0
    generalize m.imports.length = l1 at HSAME k1
    generalize m.funcs.length = l2 at HSAME k2
    generalize m.tables.length = l3 at HSAME k3
    generalize m.mems.length = l4 at HSAME k4
    generalize m.globals.length = l5 at HSAME k5
    generalize m.exports.length = l6 at HSAME k6
    generalize m.elems.length = l7 at HSAME k9
    generalize m.codes.length = l8 at HSAME k10
    generalize m.datas.length = l9 at HSAME k11
    generalize m.hasStart = lhs at HSAME k7
    generalize (m.start : Int) = lst at HSAME k8
    go_upto_region 10 with (go_at_call 11; refine HSAME.out.mono ?_; rintro e wc2 ⟨rfl, hb⟩; have HWwc2 := Y (HWwb.out.trans (hb.mono HWwb.out.size)); clear hb k0 k1 k2 k3 k4 k5 k6 k7 k8 k9 k10 k11 j0 j1 j2 j3 j4 j5 j6 j7 j8 j9 j10 j11)
    clear HSAME HDC HEN HG HKN HXB HZwb
    cases hdl : dec l with
    | error k =>
     have hk0 := dec_er hdl
     have hk1 : ¬ ((k : Int) = 0) := by omega
     have hk2 : ((k : Int) != 0) = true := by simp; omega
     have HDL := Y hdl
     clear hdl
     go_upto_region 11 with (go_at_call 10; refine (HDB.out _ HWwc2.out).mono ?_; intro e wd hp; obtain ⟨g1, t1, g2, t2, g3, t3, g4, t4, g5, t5, g6, t6, g7, t7, g8, t8, g9, t9, g10, t10, rfl, _, hb⟩ := ic HDL.out hp; have HWd := Y (HWwc2.out.trans (hb.mono HWwc2.out.size)); clear hp hb)
     have HWe := Y (HWd.out.alloc HWd.out.size (.cells #[.slice g1 0 t1, .slice g2 0 t2, .slice g3 0 t3, .slice g4 0 t4, .slice g5 0 t5, .slice g6 0 t6, .slice g7 0 t7, .bool false, .int .u32 0, .slice g8 0 t8, .slice g9 0 t9, .slice g10 0 t10] 33))
     go_wp2_with fail
     go_ret
     exact ⟨rfl, HWe.out⟩
    | ok n0 =>
     obtain ⟨hokn, hle⟩ := dec_back hdl
     have hle3 : (encM n0).length ≤ n := by rw [HNL.out]; exact hle
     have HDL := Y hdl
     have HEN0 := Y (cM hokn (by omega))
     have HDE0 := Y (fX hokn (by omega))
     have HFT0 := Y (fits_enc hokn (by omega))
     have HSM0 := Y (eS hdl)
     clear hdl hokn hle
     obtain ⟨b2, hb2⟩ : ∃ b2, encM n0 = b2 := ⟨_, rfl⟩
     rw [hb2] at HEN0 HDE0 hle3
     clear hb2
     obtain ⟨nc, hnc⟩ : ∃ n, b2.length = n := ⟨_, rfl⟩
     rw [hnc] at hle3
     have HNC := Y hnc
     clear hnc
     have hlei : (nc : Int) ≤ (n : Int) := by omega
     go_upto_region 11 with (go_at_call 10; refine (HDB.out _ HWwc2.out).mono ?_; intro e wd hp; obtain ⟨g1, t1, g2, t2, g3, t3, g4, t4, g5, t5, g6, t6, g7, t7, g8, t8, g9, t9, g10, t10, rfl, hr, hb⟩ := cQ HDL.out hp; have HWwd := Y (HWwc2.out.trans (hb.mono HWwc2.out.size)); have HZwd := Y (HWwc2.out.trans (hb.mono HWwc2.out.size)); have HR3 := Y (RepM.low hr); clear hp hr hb)
     have HX3 := Y (heap_alloc_new wd (.cells #[.slice g1 n0.types.length t1, .slice g2 n0.imports.length t2, .slice g3 n0.funcs.length t3, .slice g4 n0.tables.length t4, .slice g5 n0.mems.length t5, .slice g6 n0.globals.length t6, .slice g7 n0.exports.length t7, .bool n0.hasStart, .int .u32 (n0.start : Int), .slice g8 n0.elems.length t8, .slice g9 n0.codes.length t9, .slice g10 n0.datas.length t10] 33))
     have HA3 : Hid (Below wd.heap.size wd (wd.alloc (.cells #[.slice g1 n0.types.length t1, .slice g2 n0.imports.length t2, .slice g3 n0.funcs.length t3, .slice g4 n0.tables.length t4, .slice g5 n0.mems.length t5, .slice g6 n0.globals.length t6, .slice g7 n0.exports.length t7, .bool n0.hasStart, .int .u32 (n0.start : Int), .slice g8 n0.elems.length t8, .slice g9 n0.codes.length t9, .slice g10 n0.datas.length t10] 33))) := Y ((Below.refl _ _).alloc (Nat.le_refl _) _)
     have HR3b := Y ((HR3.out.on HA3.out).more' (fun k hk => Nat.lt_of_lt_of_le hk HA3.out.size))
     have HWwe := Y (HWwd.out.trans (HA3.out.mono HWwd.out.size))
     have HZwe := Y (HZwd.out.trans (HA3.out.mono HZwd.out.size))
     generalize wd.alloc (.cells #[.slice g1 n0.types.length t1, .slice g2 n0.imports.length t2, .slice g3 n0.funcs.length t3, .slice g4 n0.tables.length t4, .slice g5 n0.mems.length t5, .slice g6 n0.globals.length t6, .slice g7 n0.exports.length t7, .bool n0.hasStart, .int .u32 (n0.start : Int), .slice g8 n0.elems.length t8, .slice g9 n0.codes.length t9, .slice g10 n0.datas.length t10] 33) = we at HX3 HA3 HR3b HWwe HZwe ⊢
     have HC3 : Hid (∀ W, Below we.heap.size we W → W.heap[wd.heap.size]? = some (.cells #[.slice g1 n0.types.length t1, .slice g2 n0.imports.length t2, .slice g3 n0.funcs.length t3, .slice g4 n0.tables.length t4, .slice g5 n0.mems.length t5, .slice g6 n0.globals.length t6, .slice g7 n0.exports.length t7, .bool n0.hasStart, .int .u32 (n0.start : Int), .slice g8 n0.elems.length t8, .slice g9 n0.codes.length t9, .slice g10 n0.datas.length t10] 33 (0, 0))) := Y (fun W hb => (hb.block _ (Array.getElem?_eq_some_iff.1 HX3.out).1).trans HX3.out)
     obtain ⟨X3, hX3⟩ : ∃ X, wd.heap.size = X := ⟨_, rfl⟩
     rw [hX3] at HC3 ⊢
     clear hX3 HX3 HA3 HR3
     have HE3 : Hid (Calls Tryz.prog 8 #[.agg #[.slice g1 n0.types.length t1, .slice g2 n0.imports.length t2, .slice g3 n0.funcs.length t3, .slice g4 n0.tables.length t4, .slice g5 n0.mems.length t5, .slice g6 n0.globals.length t6, .slice g7 n0.exports.length t7, .bool n0.hasStart, .int .u32 (n0.start : Int), .slice g8 n0.elems.length t8, .slice g9 n0.codes.length t9, .slice g10 n0.datas.length t10]] we (bU n0 we)) := Y (HE2.out n0 _ _ _ _ _ _ _ _ _ _ we HR3b.out HFT0.out (HT.out.on HWwe.out))
     have HMV3 : Hid (∀ W, Below we.heap.size we W → ModV W (· < we.heap.size) n0 (.agg #[.slice g1 n0.types.length t1, .slice g2 n0.imports.length t2, .slice g3 n0.funcs.length t3, .slice g4 n0.tables.length t4, .slice g5 n0.mems.length t5, .slice g6 n0.globals.length t6, .slice g7 n0.exports.length t7, .bool n0.hasStart, .int .u32 (n0.start : Int), .slice g8 n0.elems.length t8, .slice g9 n0.codes.length t9, .slice g10 n0.datas.length t10])) := Y (fun W hb => RepM.modV (HR3b.out.on hb))
     have k0 : we.cell? ⟨X3, 0, none⟩ = some (.slice g1 n0.types.length t1) := by rw [cell_of_row we _ 0 _ _ (0, 0) (HC3.out _ (Below.refl _ _))]; rfl
     have k1 : we.cell? ⟨X3, 1, none⟩ = some (.slice g2 n0.imports.length t2) := by rw [cell_of_row we _ 1 _ _ (0, 0) (HC3.out _ (Below.refl _ _))]; rfl
     have k2 : we.cell? ⟨X3, 2, none⟩ = some (.slice g3 n0.funcs.length t3) := by rw [cell_of_row we _ 2 _ _ (0, 0) (HC3.out _ (Below.refl _ _))]; rfl
     have k3 : we.cell? ⟨X3, 3, none⟩ = some (.slice g4 n0.tables.length t4) := by rw [cell_of_row we _ 3 _ _ (0, 0) (HC3.out _ (Below.refl _ _))]; rfl
     have k4 : we.cell? ⟨X3, 4, none⟩ = some (.slice g5 n0.mems.length t5) := by rw [cell_of_row we _ 4 _ _ (0, 0) (HC3.out _ (Below.refl _ _))]; rfl
     have k5 : we.cell? ⟨X3, 5, none⟩ = some (.slice g6 n0.globals.length t6) := by rw [cell_of_row we _ 5 _ _ (0, 0) (HC3.out _ (Below.refl _ _))]; rfl
     have k6 : we.cell? ⟨X3, 6, none⟩ = some (.slice g7 n0.exports.length t7) := by rw [cell_of_row we _ 6 _ _ (0, 0) (HC3.out _ (Below.refl _ _))]; rfl
     have k7 : we.cell? ⟨X3, 7, none⟩ = some (.bool n0.hasStart) := by rw [cell_of_row we _ 7 _ _ (0, 0) (HC3.out _ (Below.refl _ _))]; rfl
     have k8 : we.cell? ⟨X3, 8, none⟩ = some (.int .u32 (n0.start : Int)) := by rw [cell_of_row we _ 8 _ _ (0, 0) (HC3.out _ (Below.refl _ _))]; rfl
     have k9 : we.cell? ⟨X3, 9, none⟩ = some (.slice g8 n0.elems.length t8) := by rw [cell_of_row we _ 9 _ _ (0, 0) (HC3.out _ (Below.refl _ _))]; rfl
     have k10 : we.cell? ⟨X3, 10, none⟩ = some (.slice g9 n0.codes.length t9) := by rw [cell_of_row we _ 10 _ _ (0, 0) (HC3.out _ (Below.refl _ _))]; rfl
     have k11 : we.cell? ⟨X3, 11, none⟩ = some (.slice g10 n0.datas.length t10) := by rw [cell_of_row we _ 11 _ _ (0, 0) (HC3.out _ (Below.refl _ _))]; rfl
     go_upto_region 14 with (go_at_call 8; refine HE3.out.mono ?_; intro e wf hp; obtain ⟨Af, cf, rfl, q1, q2, q3, hh, hb⟩ := bK hp HEN0.out; rw [HNC.out] at q1 ⊢; have HWwf := Y (HWwe.out.trans (hb.mono HWwe.out.size)); have HEF := Y hb; have HDC := Y (HD.out Af b2 nc cf wf hh HNC.out.symm (by omega) q1 q2 q3 HWwf.out); clear hp hb hh q1 q2 q3 k0 k1 k2 k3 k4 k5 k6 k7 k8 k9 k10 k11)
     go_upto_region 15 with (go_at_call 10; refine HDC.out.mono ?_; intro e wg hp; obtain ⟨i1, r1, i2, r2, i3, r3, i4, r4, i5, r5, i6, r6, i7, r7, i8, r8, i9, r9, i10, r10, rfl, hr, hb⟩ := cQ HDE0.out hp; have HWwg := Y (HWwf.out.trans (hb.mono HWwf.out.size)); have HZwg := Y (HEF.out.trans (hb.mono HEF.out.size)); have HR4 := Y (RepM.low hr); clear hp hr hb)
     have HX4 := Y (heap_alloc_new wg (.cells #[.slice i1 n0.types.length r1, .slice i2 n0.imports.length r2, .slice i3 n0.funcs.length r3, .slice i4 n0.tables.length r4, .slice i5 n0.mems.length r5, .slice i6 n0.globals.length r6, .slice i7 n0.exports.length r7, .bool n0.hasStart, .int .u32 (n0.start : Int), .slice i8 n0.elems.length r8, .slice i9 n0.codes.length r9, .slice i10 n0.datas.length r10] 33))
     have HA4 : Hid (Below wg.heap.size wg (wg.alloc (.cells #[.slice i1 n0.types.length r1, .slice i2 n0.imports.length r2, .slice i3 n0.funcs.length r3, .slice i4 n0.tables.length r4, .slice i5 n0.mems.length r5, .slice i6 n0.globals.length r6, .slice i7 n0.exports.length r7, .bool n0.hasStart, .int .u32 (n0.start : Int), .slice i8 n0.elems.length r8, .slice i9 n0.codes.length r9, .slice i10 n0.datas.length r10] 33))) := Y ((Below.refl _ _).alloc (Nat.le_refl _) _)
     have HR4b := Y ((HR4.out.on HA4.out).more' (fun k hk => Nat.lt_of_lt_of_le hk HA4.out.size))
     have HWwh := Y (HWwg.out.trans (HA4.out.mono HWwg.out.size))
     have HZwh := Y (HZwg.out.trans (HA4.out.mono HZwg.out.size))
     generalize wg.alloc (.cells #[.slice i1 n0.types.length r1, .slice i2 n0.imports.length r2, .slice i3 n0.funcs.length r3, .slice i4 n0.tables.length r4, .slice i5 n0.mems.length r5, .slice i6 n0.globals.length r6, .slice i7 n0.exports.length r7, .bool n0.hasStart, .int .u32 (n0.start : Int), .slice i8 n0.elems.length r8, .slice i9 n0.codes.length r9, .slice i10 n0.datas.length r10] 33) = wh at HX4 HA4 HR4b HWwh HZwh ⊢
     have HC4 : Hid (∀ W, Below wh.heap.size wh W → W.heap[wg.heap.size]? = some (.cells #[.slice i1 n0.types.length r1, .slice i2 n0.imports.length r2, .slice i3 n0.funcs.length r3, .slice i4 n0.tables.length r4, .slice i5 n0.mems.length r5, .slice i6 n0.globals.length r6, .slice i7 n0.exports.length r7, .bool n0.hasStart, .int .u32 (n0.start : Int), .slice i8 n0.elems.length r8, .slice i9 n0.codes.length r9, .slice i10 n0.datas.length r10] 33 (0, 0))) := Y (fun W hb => (hb.block _ (Array.getElem?_eq_some_iff.1 HX4.out).1).trans HX4.out)
     obtain ⟨X4, hX4⟩ : ∃ X, wg.heap.size = X := ⟨_, rfl⟩
     rw [hX4] at HC4 ⊢
     clear hX4 HX4 HA4 HR4
     have HSAME : Hid (Calls Tryz.prog 11 #[.agg #[.slice i1 n0.types.length r1, .slice i2 n0.imports.length r2, .slice i3 n0.funcs.length r3, .slice i4 n0.tables.length r4, .slice i5 n0.mems.length r5, .slice i6 n0.globals.length r6, .slice i7 n0.exports.length r7, .bool n0.hasStart, .int .u32 (n0.start : Int), .slice i8 n0.elems.length r8, .slice i9 n0.codes.length r9, .slice i10 n0.datas.length r10], .agg #[.slice g1 n0.types.length t1, .slice g2 n0.imports.length t2, .slice g3 n0.funcs.length t3, .slice g4 n0.tables.length t4, .slice g5 n0.mems.length t5, .slice g6 n0.globals.length t6, .slice g7 n0.exports.length t7, .bool n0.hasStart, .int .u32 (n0.start : Int), .slice g8 n0.elems.length t8, .slice g9 n0.codes.length t9, .slice g10 n0.datas.length t10]] wh fun e w' => e = .returned (.bool true) ∧ Below wh.heap.size wh w') := Y (eT _ _ n0 _ _ wh (RepM.modV HR4b.out) (HMV3.out wh HZwh.out) HSM0.out)
     have k0 : wh.cell? ⟨X4, 0, none⟩ = some (.slice i1 n0.types.length r1) := by rw [cell_of_row wh _ 0 _ _ (0, 0) (HC4.out _ (Below.refl _ _))]; rfl
     have k1 : wh.cell? ⟨X4, 1, none⟩ = some (.slice i2 n0.imports.length r2) := by rw [cell_of_row wh _ 1 _ _ (0, 0) (HC4.out _ (Below.refl _ _))]; rfl
     have k2 : wh.cell? ⟨X4, 2, none⟩ = some (.slice i3 n0.funcs.length r3) := by rw [cell_of_row wh _ 2 _ _ (0, 0) (HC4.out _ (Below.refl _ _))]; rfl
     have k3 : wh.cell? ⟨X4, 3, none⟩ = some (.slice i4 n0.tables.length r4) := by rw [cell_of_row wh _ 3 _ _ (0, 0) (HC4.out _ (Below.refl _ _))]; rfl
     have k4 : wh.cell? ⟨X4, 4, none⟩ = some (.slice i5 n0.mems.length r5) := by rw [cell_of_row wh _ 4 _ _ (0, 0) (HC4.out _ (Below.refl _ _))]; rfl
     have k5 : wh.cell? ⟨X4, 5, none⟩ = some (.slice i6 n0.globals.length r6) := by rw [cell_of_row wh _ 5 _ _ (0, 0) (HC4.out _ (Below.refl _ _))]; rfl
     have k6 : wh.cell? ⟨X4, 6, none⟩ = some (.slice i7 n0.exports.length r7) := by rw [cell_of_row wh _ 6 _ _ (0, 0) (HC4.out _ (Below.refl _ _))]; rfl
     have k7 : wh.cell? ⟨X4, 7, none⟩ = some (.bool n0.hasStart) := by rw [cell_of_row wh _ 7 _ _ (0, 0) (HC4.out _ (Below.refl _ _))]; rfl
     have k8 : wh.cell? ⟨X4, 8, none⟩ = some (.int .u32 (n0.start : Int)) := by rw [cell_of_row wh _ 8 _ _ (0, 0) (HC4.out _ (Below.refl _ _))]; rfl
     have k9 : wh.cell? ⟨X4, 9, none⟩ = some (.slice i8 n0.elems.length r8) := by rw [cell_of_row wh _ 9 _ _ (0, 0) (HC4.out _ (Below.refl _ _))]; rfl
     have k10 : wh.cell? ⟨X4, 10, none⟩ = some (.slice i9 n0.codes.length r9) := by rw [cell_of_row wh _ 10 _ _ (0, 0) (HC4.out _ (Below.refl _ _))]; rfl
     have k11 : wh.cell? ⟨X4, 11, none⟩ = some (.slice i10 n0.datas.length r10) := by rw [cell_of_row wh _ 11 _ _ (0, 0) (HC4.out _ (Below.refl _ _))]; rfl
     have j0 : wh.cell? ⟨X3, 0, none⟩ = some (.slice g1 n0.types.length t1) := by rw [cell_of_row wh _ 0 _ _ (0, 0) (HC3.out _ HZwh.out)]; rfl
     have j1 : wh.cell? ⟨X3, 1, none⟩ = some (.slice g2 n0.imports.length t2) := by rw [cell_of_row wh _ 1 _ _ (0, 0) (HC3.out _ HZwh.out)]; rfl
     have j2 : wh.cell? ⟨X3, 2, none⟩ = some (.slice g3 n0.funcs.length t3) := by rw [cell_of_row wh _ 2 _ _ (0, 0) (HC3.out _ HZwh.out)]; rfl
     have j3 : wh.cell? ⟨X3, 3, none⟩ = some (.slice g4 n0.tables.length t4) := by rw [cell_of_row wh _ 3 _ _ (0, 0) (HC3.out _ HZwh.out)]; rfl
     have j4 : wh.cell? ⟨X3, 4, none⟩ = some (.slice g5 n0.mems.length t5) := by rw [cell_of_row wh _ 4 _ _ (0, 0) (HC3.out _ HZwh.out)]; rfl
     have j5 : wh.cell? ⟨X3, 5, none⟩ = some (.slice g6 n0.globals.length t6) := by rw [cell_of_row wh _ 5 _ _ (0, 0) (HC3.out _ HZwh.out)]; rfl
     have j6 : wh.cell? ⟨X3, 6, none⟩ = some (.slice g7 n0.exports.length t7) := by rw [cell_of_row wh _ 6 _ _ (0, 0) (HC3.out _ HZwh.out)]; rfl
     have j7 : wh.cell? ⟨X3, 7, none⟩ = some (.bool n0.hasStart) := by rw [cell_of_row wh _ 7 _ _ (0, 0) (HC3.out _ HZwh.out)]; rfl
     have j8 : wh.cell? ⟨X3, 8, none⟩ = some (.int .u32 (n0.start : Int)) := by rw [cell_of_row wh _ 8 _ _ (0, 0) (HC3.out _ HZwh.out)]; rfl
     have j9 : wh.cell? ⟨X3, 9, none⟩ = some (.slice g8 n0.elems.length t8) := by rw [cell_of_row wh _ 9 _ _ (0, 0) (HC3.out _ HZwh.out)]; rfl
     have j10 : wh.cell? ⟨X3, 10, none⟩ = some (.slice g9 n0.codes.length t9) := by rw [cell_of_row wh _ 10 _ _ (0, 0) (HC3.out _ HZwh.out)]; rfl
     have j11 : wh.cell? ⟨X3, 11, none⟩ = some (.slice g10 n0.datas.length t10) := by rw [cell_of_row wh _ 11 _ _ (0, 0) (HC3.out _ HZwh.out)]; rfl
     clear HMV3 HE3 HDC HC3 HC4
     generalize n0.types.length = l0 at HSAME k0 j0
     generalize n0.imports.length = l1 at HSAME k1 j1
     generalize n0.funcs.length = l2 at HSAME k2 j2
     generalize n0.tables.length = l3 at HSAME k3 j3
     generalize n0.mems.length = l4 at HSAME k4 j4
     generalize n0.globals.length = l5 at HSAME k5 j5
     generalize n0.exports.length = l6 at HSAME k6 j6
     generalize n0.elems.length = l7 at HSAME k9 j9
     generalize n0.codes.length = l8 at HSAME k10 j10
     generalize n0.datas.length = l9 at HSAME k11 j11
     generalize n0.hasStart = lhs at HSAME k7 j7
     generalize (n0.start : Int) = lst at HSAME k8 j8
     go_wp2_with (go_at_call 11; refine HSAME.out.mono ?_; rintro e wi ⟨rfl, hb⟩; have HWwi := Y (HWwh.out.trans (hb.mono HWwh.out.size)); clear hb)
     go_ret
     exact ⟨rfl, HWwi.out⟩
end Go.Proofs.YthkglmkpnhhboaaGreatDoor
