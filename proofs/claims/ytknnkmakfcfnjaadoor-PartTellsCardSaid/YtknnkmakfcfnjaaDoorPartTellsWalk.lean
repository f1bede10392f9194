/-
  The statement PartTells, walked. (gen/part/tells.py)
-/
import Derived.Test.YtknnkmakfcfnjaaDoorPaKnown
import Derived.Test.YtknnkmakfcfnjaaDoorPaRef
import Derived.Test.YtknnkmakfcfnjaaDoorRangeB
import Derived.RangeFuncBound
import Derived.RangeFuncCalls
import Derived.RangeFuncLeaves
import Derived.Shelf.RegionOpen
import Derived.OwnWalkIn
import Derived.TacticsInMore
import Derived.LoopNIn
import Derived.LoopIn
import Derived.Sort.CutIn
namespace Go.Proofs.YtknnkmakfcfnjaaDoor
open Go.RowKit Ins Go.Shelf
/-- What the program's All must come to: a method's value that goes over the parts. -/
def PAllOk (gf : FuncId) : Prop := ∀ (xs : List I) (A : Option Addr) (n c : Nat) (w0 w : World), n = xs.length → n ≤ 2000 → CapOk A n c → HasL w0 (· < w0.heap.size) A xs → TbC w0 → Below w0.heap.size w0 w →
  Calls Tryd.prog 11 #[.slice A n c] w fun e w' => ∃ rv, e = .returned (.func (.func gf) #[rv] #[]) ∧ Below w.heap.size w w' ∧ ∀ m, GoesOver Fence.wide m Tryd.prog gf rv (fun (p : Pa.P) => #[Value.agg (partCells p).toArray]) (Pa.parts xs) w0.heap.size w.heap.size w'
attribute [local go_sem] Oper.semAt_some
set_option maxRecDepth 100000 in
set_option maxHeartbeats 4000000 in
theorem partTells_any (gf : FuncId) (ha : PAllOk gf) (hgf : ∀ args w, (callFunc gf args).run Tryd.prog w = .ok (.enter gf args) w) (hp : PartsOk) (he : PEndsOk) (xs : List I) (A : Option Addr) (n c op : Nat) (left : Int) (w : World) (hop : op < 256) (hlf : -9223372036854775808 ≤ left ∧ left ≤ 9223372036854775807) (hn : n = xs.length) (hs : n ≤ 140737488355328) (hcp : CapOk A n c) (hL : HasL w (· < w.heap.size) A xs) (hT : TbC w) :
    Calls Tryd.prog 3 #[.slice A n c, .int .u8 (op : Int), .int .i64 left] w fun e w' => e = .returned (.bool true) ∧ Below w.heap.size w w' := by
  have HL := Lib.hid (fun W (hb : Below w.heap.size w W) => hL.on hb)
  have HT := Lib.hid (fun W (hb : Below w.heap.size w W) => hT.on hb)
  have HN := Lib.hid hn
  have HP := Lib.hid hp
  have HE := Lib.hid he
  have HALL := Lib.hid (fun W (h : n ≤ 2000) (hb : Below w.heap.size w W) => ha xs A n c w W hn h hcp hL hT hb)
  have HCP := Lib.hid hcp
  have HK := Lib.hid (fun W (hb : Below w.heap.size w W) => known14 hp he W (hT.on hb))
  have HOP := Lib.hid hop
  clear hcp hL hT hn hp he ha hop
  have HX := Lib.hid (heap_alloc_new w (.cells #[.int .i64 left] 3))
  have HB := Lib.hid ((Below.refl w.heap.size w).alloc (Nat.le_refl _) (.cells #[.int .i64 left] 3))
  obtain ⟨wa, hwa⟩ : ∃ wa, w.alloc (.cells #[.int .i64 left] 3) = wa := ⟨_, rfl⟩
  rw [hwa] at HX HB
  have HS := Lib.hid (show wa.heap.size = w.heap.size + 1 by rw [← hwa]; simp)
  have HY := Lib.hid (heap_alloc_new wa (.cells #[.bool false] 4))
  have HB1 := Lib.hid (HB.out.alloc HB.out.size (.cells #[.bool false] 4))
  have HX1 := Lib.hid ((Below.heap_alloc wa (.cells #[.bool false] 4) w.heap.size (by rw [HS.out]; omega)).trans HX.out)
  obtain ⟨wb, hwb⟩ : ∃ wb, wa.alloc (.cells #[.bool false] 4) = wb := ⟨_, rfl⟩
  rw [hwb] at HY HB1 HX1
  rw [HS.out] at HY
  have HWA := Lib.hid hwa
  have HWB := Lib.hid hwb
  clear hwa hwb HX HB
  refine (callsIn_wide (n := 6)).1 (callsIn_of_wp_marks Tryd.func3 rfl trivial ?_ rfl)
  refine wpIn_wide.2 ?_
  simp only [Tryd.ntmps3, List.size_toArray, List.length_cons, List.length_nil, Nat.reduceAdd, Nat.reduceSub, Array.replicate_succ, Array.replicate_zero, List.push_toArray, List.append_toArray, List.nil_append, List.cons_append]
  go_upto_region 1 with fail
  rw [HWA.out, HWB.out]
  clear HWA HWB HS
  have hXl : w.heap.size < wb.heap.size := (Array.getElem?_eq_some_iff.1 HX1.out).1
  have hYl : w.heap.size + 1 < wb.heap.size := (Array.getElem?_eq_some_iff.1 HY.out).1
  -- what a call leaves of the two boxes
  have HXY := Lib.hid (fun W (hb : Below wb.heap.size wb W) => (⟨(hb.block _ hXl).trans HX1.out, (hb.block _ hYl).trans HY.out⟩ : W.heap[w.heap.size]? = some (.cells #[.int .i64 left] 3 (0, 0)) ∧ W.heap[w.heap.size + 1]? = some (.cells #[.bool false] 4 (0, 0))))
  by_cases hgt : 2000 < n
  · have hgti : (2000 : Int) < (n : Int) := by omega
    go_wp2_with (go_at_call 6; refine (HK.out _ HB1.out).mono ?_; rintro e w2 ⟨rfl, hb2⟩; have HC1 := Lib.hid hb2; have cy := cellP (HXY.out _ hb2).2 0 _ rfl; have fy := frozen_of_row w2 _ 0 _ _ (HXY.out _ hb2).2; clear hb2)
    have cz := cellP (set_heap (HXY.out _ HC1.out).2 0 (.bool true)) 0 (.bool true) rfl
    have hbz := (Below.next HB1.out HC1.out).setCell (p := ⟨w.heap.size + 1, 0, none⟩) (Nat.le_succ _) (.bool true)
    refine ⟨.bool true, ?_, rfl, hbz⟩
    simp [results, Tryd.f3, go_sem, cz]
  have hgti : decide ((2000 : Int) < (n : Int)) = false := decide_eq_false (by omega)
  have hgti2 : decide (2000 < n) = false := decide_eq_false hgt
  obtain ⟨m, hm⟩ : ∃ m, (Pa.parts xs).length = m := ⟨_, rfl⟩
  have HM := Lib.hid hm
  have hmb : m ≤ 2000 := by have h := Pa.parts_len xs; rw [hm, ← HN.out] at h; omega
  clear hm
  have tok1 : True := trivial
  have HRP := Lib.hid (fun W (hb : Below w.heap.size w W) => rparts_any xs (· < w.heap.size) A n c W HN.out (by omega) (HL.out W hb))
  have HPP := Lib.hid (fun W (hb : Below w.heap.size w W) => HP.out xs (· < w.heap.size) A n c W HN.out (by omega) HCP.out (HL.out W hb) (HT.out W hb))
  rw [HM.out] at HRP HPP
  go_upto_region 5 with (go_at_call 6; refine (HK.out _ HB1.out).mono ?_; rintro e w2 ⟨rfl, hb2⟩; have HC2 := Lib.hid hb2; have HB2 := Lib.hid (Below.next HB1.out hb2); clear hb2)
  go_upto_region 6 with (first | (go_at_call 7; refine (HPP.out w2 HB2.out).mono ?_; rintro e w3 ⟨A3, c3, rfl, hl3, hb3⟩; have HL3 := Lib.hid hl3; have HC3 := Lib.hid (Below.next HC2.out hb3); have HB3 := Lib.hid (Below.next HB2.out hb3); clear hl3 hb3) | (go_at_call 8; refine (HRP.out w3 HB3.out).mono ?_; rintro e w4 ⟨A4, c4, rfl, hl4, hb4⟩; have HL4 := Lib.hid hl4; have HC4 := Lib.hid (Below.next HC3.out hb4); have HB4 := Lib.hid (Below.next HB3.out hb4); have HL34 := Lib.hid (HL3.out.on hb4); clear hl4 hb4))
  have HV := Lib.hid (heap_alloc_new w4 (.cells #[.slice A4 m c4] 26))
  have hb5 : Below w4.heap.size w4 (w4.alloc (.cells #[.slice A4 m c4] 26)) := (Below.refl _ _).alloc (Nat.le_refl _) _
  have HC5 := Lib.hid (Below.next HC4.out hb5)
  have HB5 := Lib.hid (Below.next HB4.out hb5)
  have HLP := Lib.hid (HL34.out.on hb5)
  have HLR := Lib.hid (HL4.out.on hb5)
  have hVw : wb.heap.size ≤ w4.heap.size := HC4.out.size
  clear hb5 HC2 HB2 HL3 HC3 HB3 HL4 HC4 HB4 HL34 HRP HPP tok1
  generalize w4.alloc (.cells #[.slice A4 m c4] 26) = w5 at HV HC5 HB5 HLP HLR ⊢
  generalize w4.heap.size = V at HV hVw ⊢
  have hVl : V < w5.heap.size := (Array.getElem?_eq_some_iff.1 HV.out).1
  have HVF := Lib.hid (fun W (hb : Below w5.heap.size w5 W) => (hb.block V hVl).trans HV.out)
  have cv := cellP HV.out 0 _ rfl
  have e1 : ((m : Int) != (m : Int)) = false := by simp
  obtain ⟨en, hen⟩ : ∃ b, Pa.ends op = b := ⟨_, rfl⟩
  have HEN := Lib.hid hen
  clear hen
  have e2 : (en != en) = false := by simp
  go_upto_region 9 with (first | (go_at_call 9; refine (HE.out op _ HOP.out (HT.out _ HB5.out)).mono ?_; rintro e w6 ⟨rfl, hb6⟩; rw [HEN.out]; have HD6 := Lib.hid hb6; clear hb6) | (go_at_call 10; refine (rends_any op _ HOP.out).mono ?_; rintro e w7 ⟨rfl, hb7⟩; rw [HEN.out]; have HD7 := Lib.hid (Below.next HD6.out hb7); clear hb7))
  clear cv e1 e2 HEN HD6
  go_loopw [36] (fun i wr => ∃ j : Nat, j ≤ m ∧ i = .int .i64 (j : Int) ∧ Hid (Below w5.heap.size w5 wr)) (fun i _ => m - (intOf i).toNat)
  case atStart => exact ⟨0, Nat.zero_le _, rfl, HD7⟩
  case round =>
    clear HD7
    obtain ⟨j, hj, rfl, HD⟩ := hrel
    by_cases hlt : j < m
    · have hlti : (j : Int) < (m : Int) := by omega
      obtain ⟨p, hpj⟩ : ∃ p, (Pa.parts xs)[j]? = some p := ⟨_, List.getElem?_eq_getElem (by rw [HM.out]; exact hlt)⟩
      obtain ⟨g4, o4, rfl, _, z0, z1, z2⟩ := HLP.out.three HD.out hpj
      obtain ⟨g2, o2, rfl, _, q0, q1, q2⟩ := HLR.out.three HD.out hpj
      clear hpj
      have cv := cellP (HVF.out _ HD.out) 0 _ rfl
      generalize (p.at_ : Int) = pa at z0 q0
      generalize (p.to : Int) = pt at z1 q1
      generalize (p.cost : Int) = pc at z2 q2
      have HD1 := Lib.hid (HD.out.alloc HD.out.size (.cells #[.int .i64 pa, .int .i64 pt, .int .u64 pc] 31))
      have hg2 := cell_lt q0
      have HX2 := Lib.hid (heap_alloc_new wr (.cells #[.int .i64 pa, .int .i64 pt, .int .u64 pc] 31))
      have hbn : Below wr.heap.size wr (wr.alloc (.cells #[.int .i64 pa, .int .i64 pt, .int .u64 pc] 31)) := (Below.refl _ _).alloc (Nat.le_refl _) _
      go_upto_region 11 with fail
      have r0 := (hbn.cell (p := ⟨g2, o2 + j * 3, none⟩) hg2).trans q0
      have r1 := (hbn.cell (p := ⟨g2, o2 + j * 3 + 1, none⟩) hg2).trans q1
      have r2 := (hbn.cell (p := ⟨g2, o2 + j * 3 + 2, none⟩) hg2).trans q2
      have hg2' : g2 < (wr.alloc (.cells #[.int .i64 pa, .int .i64 pt, .int .u64 pc] 31)).heap.size := Nat.lt_of_lt_of_le hg2 hbn.size
      clear z0 z1 z2 q0 q1 q2 hbn hg2 cv
      generalize wr.alloc (.cells #[.int .i64 pa, .int .i64 pt, .int .u64 pc] 31) = wc at HX2 HD1 r0 r1 r2 hg2' ⊢
      generalize wr.heap.size = X at HX2 ⊢
      have hXl2 : X < wc.heap.size := (Array.getElem?_eq_some_iff.1 HX2.out).1
      have HKK := Lib.hid (fun W (hb : Below wc.heap.size wc W) => (⟨(hb.cell (p := ⟨X, 0, none⟩) hXl2).trans ((cell_of_row wc X 0 _ _ (0, 0) HX2.out).trans rfl), (hb.cell (p := ⟨X, 1, none⟩) hXl2).trans ((cell_of_row wc X 1 _ _ (0, 0) HX2.out).trans rfl), (hb.cell (p := ⟨X, 2, none⟩) hXl2).trans ((cell_of_row wc X 2 _ _ (0, 0) HX2.out).trans rfl), (hb.cell (p := ⟨g2, o2 + j * 3, none⟩) hg2').trans r0, (hb.cell (p := ⟨g2, o2 + j * 3 + 1, none⟩) hg2').trans r1, (hb.cell (p := ⟨g2, o2 + j * 3 + 2, none⟩) hg2').trans r2, cellP (HVF.out _ (Below.next HD1.out hb)) 0 _ rfl⟩ :
        W.cell? ⟨X, 0, none⟩ = some (.int .i64 pa) ∧ W.cell? ⟨X, 1, none⟩ = some (.int .i64 pt) ∧ W.cell? ⟨X, 2, none⟩ = some (.int .u64 pc) ∧ W.cell? ⟨g2, o2 + j * 3, none⟩ = some (.int .i64 pa) ∧ W.cell? ⟨g2, o2 + j * 3 + 1, none⟩ = some (.int .i64 pt) ∧ W.cell? ⟨g2, o2 + j * 3 + 2, none⟩ = some (.int .u64 pc) ∧ W.cell? ⟨V, 0, none⟩ = some (.slice (some ⟨g2, o2, none⟩) m c4)))
      clear HX2 hXl2 r0 r1 r2 hg2'
      go_region_held3 (fun w' => Below wc.heap.size wc w' ∧ w'.cell? ⟨X, 0, none⟩ = some (.int .i64 pa) ∧ w'.cell? ⟨X, 1, none⟩ = some (.int .i64 pt) ∧ w'.cell? ⟨X, 2, none⟩ = some (.int .u64 pc) ∧ w'.cell? ⟨g2, o2 + j * 3, none⟩ = some (.int .i64 pa) ∧ w'.cell? ⟨g2, o2 + j * 3 + 1, none⟩ = some (.int .i64 pt) ∧ w'.cell? ⟨g2, o2 + j * 3 + 2, none⟩ = some (.int .u64 pc) ∧ w'.cell? ⟨V, 0, none⟩ = some (.slice (some ⟨g2, o2, none⟩) m c4)) (first | exact ⟨Below.drew (Below.refl _ _), HKK.out _ (Below.drew (Below.refl _ _))⟩ | exact ⟨by assumption, HKK.out _ (by assumption)⟩) (fail)
      have HD2 : Hid (Below w5.heap.size w5 wc.drew) := Lib.hid (Below.drew HD1.out)
      go_wp2_with fail
      go_roundw
      case rel => exact ⟨j + 1, by omega, by go_num, HD2⟩
      case measure => simp [intOf]; omega
    · have hge : decide ((j : Int) < (m : Int)) = false := decide_eq_false (by omega)
      have hge2 : decide (j < m) = false := decide_eq_false hlt
      clear hlt
      go_upto_region 15 with fail
      have hNw : wb.heap.size ≤ wr.heap.size := Nat.le_trans HC5.out.size HD.out.size
      have hN5 : w5.heap.size ≤ wr.heap.size := HD.out.size
      have hVN : V < wr.heap.size := Nat.lt_of_lt_of_le hVl HD.out.size
      have HNX := Lib.hid (heap_alloc_new wr (.cells #[.int .i64 0] 3))
      have HDN := Lib.hid (HD.out.alloc HD.out.size (.cells #[.int .i64 0] 3))
      clear hge hge2 HD
      generalize wr.alloc (.cells #[.int .i64 0] 3) = wn at HNX HDN ⊢
      generalize wr.heap.size = N0 at HNX hNw hVN hN5 ⊢
      have hNl : N0 < wn.heap.size := (Array.getElem?_eq_some_iff.1 HNX.out).1
      have HBN := Lib.hid (Below.next HB5.out HDN.out)
      go_wp2_with (go_at_call 11; refine (HALL.out _ (by omega) HBN.out).mono ?_; rintro e w8 ⟨rv, rfl, hb8, hgo⟩; have HE8 := Lib.hid hb8; have HGO := Lib.hid hgo; clear hb8 hgo)
      have HD8 := Lib.hid (Below.next HDN.out HE8.out)
      have hN8 : N0 < w8.heap.size := Nat.lt_of_lt_of_le hNl HE8.out.size
      have hw8 : w.heap.size ≤ w8.heap.size := Nat.le_trans HBN.out.size HE8.out.size
      have HN8 : Hid (w8.heap[N0]? = some (.cells #[.int .i64 ((0 : Nat) : Int)] 3 (0, 0))) := Lib.hid ((HE8.out.block N0 hNl).trans HNX.out)
      have HV8 := Lib.hid (HVF.out w8 HD8.out)
      have HC8 := Lib.hid (Below.next HC5.out HD8.out)
      have HZ8 := Lib.hid (HXY.out w8 HC8.out)
      have HW8 := Lib.hid (Below.next HBN.out HE8.out)
      have HQ : Hid (∀ k p, (Pa.parts xs)[k]? = some p → ∃ g o, A4 = some ⟨g, o, none⟩ ∧ g < w5.heap.size ∧ w8.cell? ⟨g, o + k * 3, none⟩ = some (.int .i64 (p.at_ : Int)) ∧ w8.cell? ⟨g, o + k * 3 + 1, none⟩ = some (.int .i64 (p.to : Int)) ∧ w8.cell? ⟨g, o + k * 3 + 2, none⟩ = some (.int .u64 (p.cost : Int))) := Lib.hid (fun k p h => by
        obtain ⟨g, o, e, _, q0, q1, q2⟩ := HLR.out.three (Below.refl _ _) h
        have hg := cell_lt q0
        exact ⟨g, o, e, hg, (HD8.out.cell (p := ⟨g, o + k * 3, none⟩) hg).trans q0, (HD8.out.cell (p := ⟨g, o + k * 3 + 1, none⟩) hg).trans q1, (HD8.out.cell (p := ⟨g, o + k * 3 + 2, none⟩) hg).trans q2⟩)
      clear HNX HDN
      refine (wpIn_wide (n := 6)).1 (wpIn_range_bound (F := Fence.wide) (n := 6) (xs := Pa.parts xs) (B0 := w.heap.size) (E := wn.heap.size) (gf := gf) (rv := rv) (encs := fun (p : Pa.P) => #[Value.agg (partCells p).toArray]) rfl (by decide) rfl trivial hgf HE8.out.size (HGO.out 5) (fun _ => rfl)
        (fun k W => Mod (· = N0) w8 W ∧ W.heap[N0]? = some (.cells #[.int .i64 (k : Int)] 3 (0, 0)) ∧ (k = 0 ∨ (k : Int) < left))
        (fun k c W => c = .exit 2 ∧ 1 ≤ k ∧ Mod (· = N0) w8 W ∧ W.heap[N0]? = some (.cells #[.int .i64 (k : Int)] 3 (0, 0)) ∧ left ≤ (k : Int) ∧ (k = 1 ∨ (k : Int) - 1 < left))
        ?hI ?hIx ⟨Mod.refl _ _, HN8.out, .inl rfl⟩
        (fun k p a₁ W => Mod (· = N0) w8 W ∧ W.heap[N0]? = some (.cells #[.int .i64 (k : Int)] 3 (0, 0)) ∧ (k = 0 ∨ (k : Int) < left) ∧ ∃ Z, w8.heap.size + 2 ≤ Z ∧ W.heap[Z]? = some (.cells #[.int .i64 (p.at_ : Int), .int .i64 (p.to : Int), .int .u64 (p.cost : Int)] 31 (0, 0)) ∧ a₁ = { tmps := #[(.slice A n c : Value), .int .u8 (op : Int), .int .i64 left, undef, undef, .pointer (some ⟨w.heap.size, 0, none⟩), .pointer (some ⟨w.heap.size + 1, 0, none⟩), .slice A3 m c3, .pointer (some ⟨V, 0, none⟩), u9, u10, .pointer (some ⟨N0, 0, none⟩), (.pointer (some ⟨Z, 0, none⟩)), .bool true, .bool false, .slice A n c, .int .i64 (n : Int), .bool false, .slice A n c, .slice A3 m c3, .slice A n c, .slice A4 m c4, .slice A3 m c3, .int .i64 (m : Int), .slice A4 m c4, .int .i64 (m : Int), .bool false, .bool false, .int .u8 (op : Int), .bool en, .int .u8 (op : Int), .bool en, .bool false, .bool false, .slice A3 m c3, .int .i64 (m : Int), .int .i64 (j : Int), .bool false, u38, u39, u40, u41, u42, u43, u44, u45, u46, u47, .slice A n c, .func (.func gf) #[rv] #[], (.agg #[.int .i64 (p.at_ : Int), .int .i64 (p.to : Int), .int .u64 (p.cost : Int)]), undef, undef, undef, undef, undef, undef, undef, undef, undef, undef, undef, undef, undef, undef, undef, undef, undef, undef, undef, undef, undef, undef, undef, undef], defers := [] })
        ?hAx ?assign ?body ?done ?stop)
      case hI =>
        rintro k X1 X2 ⟨h1, h2, h3⟩ hb
        exact ⟨h1.trans (T' := fun b => w8.heap.size ≤ b) (Mod.of_base hb) (fun b hb' h => by omega), (hb.block N0 hN8).trans h2, h3⟩
      case hIx =>
        rintro k c X1 X2 ⟨h0, h00, h1, h2, h3, h4⟩ hb
        exact ⟨h0, h00, h1.trans (T' := fun b => w8.heap.size ≤ b) (Mod.of_base hb) (fun b hb' h => by omega), (hb.block N0 hN8).trans h2, h3, h4⟩
      case hAx =>
        rintro k p a₁ X1 X2 ⟨h1, h2, h3, Z, h4, h5, h6⟩ hm
        exact ⟨h1.trans hm (fun b hb' h => by omega), hm.heap h2 (by omega), h3, Z, h4, hm.heap h5 (by omega), h6⟩
      case assign =>
        rintro l k p W hx ⟨h1, h2, h3⟩ hle
        simp only [partCells]
        gi_wp2
        have hb : Below W.heap.size W (W.alloc (.cells #[.int .i64 (p.at_ : Int), .int .i64 (p.to : Int), .int .u64 (p.cost : Int)] 31)) := (Below.refl _ _).alloc (Nat.le_refl _) _
        have hNW : N0 < W.heap.size := (Array.getElem?_eq_some_iff.1 h2).1
        exact ⟨⟨h1.trans (T' := fun b => W.heap.size ≤ b) (Mod.of_base hb) (fun b hb' h => by have := h1.size; omega), (hb.block N0 hNW).trans h2, h3, W.heap.size, hle, heap_alloc_new W _, rfl⟩, (Mod.of_base hb).more (fun b hb' h => by have : W.heap.size ≤ b := h; omega)⟩
      case body =>
        rintro l k p a₁ W hx ⟨h1, h2, h3, Z, h4, h5, rfl⟩
        have hkm : k < m := by have := (List.getElem?_eq_some_iff.1 hx).1; rw [HM.out] at this; exact this
        obtain ⟨g, o, hA4, hg, q0, q1, q2⟩ := HQ.out k p hx
        have hgN : g ≠ N0 := by omega
        have w0 := h1.cell (a := ⟨g, o + k * 3, none⟩) q0 hgN
        have w1 := h1.cell (a := ⟨g, o + k * 3 + 1, none⟩) q1 hgN
        have w2 := h1.cell (a := ⟨g, o + k * 3 + 2, none⟩) q2 hgN
        have cv := cellP (h1.heap HV8.out (by omega)) 0 _ rfl
        have cx := cellP (h1.heap HZ8.out.1 (by omega)) 0 _ rfl
        have HWX := Lib.hid (h1.heap HZ8.out.1 (by omega))
        have cn := cellP h2 0 _ rfl
        have fn := frozen_of_row W N0 0 _ _ h2
        have x0 := cellP h5 0 _ rfl
        have x1 := cellP h5 1 _ rfl
        have x2 := cellP h5 2 _ rfl
        have e1 : decide ((k : Int) ≥ (m : Int)) = false := decide_eq_false (by omega)
        have e1' : decide ((m : Int) ≤ (k : Int)) = false := decide_eq_false (by omega)
        have e1'' : decide (m ≤ k) = false := decide_eq_false (by omega)
        have hki : (k : Int) < (m : Int) := by omega
        have hwk : IntKind.i64.wrap ((k : Int) + 1) = (k : Int) + 1 := IntWalk.i64_in _ (by omega)
        have HSET := Lib.hid (set_heap h2 0 (.int .i64 ((k : Int) + 1)))
        have HMD := Lib.hid (Mod.setCell (T := fun g => g = N0) (p := ⟨N0, 0, none⟩) h1 (fun _ => rfl) (.int .i64 ((k : Int) + 1)))
        have HMW := Lib.hid (Mod.setCell (T := From w.heap.size wn.heap.size) (p := ⟨N0, 0, none⟩) (Mod.refl _ W) (fun _ => ⟨by show w.heap.size ≤ N0; omega, hNl⟩) (.int .i64 ((k : Int) + 1)))
        have H3 := Lib.hid h3
        have HXX := Lib.hid hx
        subst hA4
        clear h1 h2 h3 h5 q0 q1 q2 hx
        generalize (p.at_ : Int) = pa at *
        generalize (p.to : Int) = pt at *
        generalize (p.cost : Int) = pc at *
        gi_upto_region 17 with fail
        dsimp only
        gi_cut [62] from 51 (fun t wx => t = .bool false ∧ wx = W.drew)
        case first =>
          gi_region
          all_goals
            gi_wp2
            gi_meet
            case rel => exact ⟨rfl, rfl⟩
        case rest =>
          obtain ⟨rfl, hwe⟩ := hcut
          subst hwe
          have hne : w.heap.size ≠ N0 := by omega
          have ex : (W.setCell ⟨N0, 0, none⟩ (.int .i64 ((k : Int) + 1))).cell? ⟨w.heap.size, 0, none⟩ = some (.int .i64 left) := cellP ((Mod.setCell (T := fun g => g = N0) (p := ⟨N0, 0, none⟩) (Mod.refl _ W) (fun _ => rfl) (.int .i64 ((k : Int) + 1))).heap HWX.out (by omega)) 0 _ rfl
          have en2 : (W.setCell ⟨N0, 0, none⟩ (.int .i64 ((k : Int) + 1))).cell? ⟨N0, 0, none⟩ = some (.int .i64 ((k : Int) + 1)) := cellP HSET.out 0 _ rfl
          clear w0 w1 w2 cv cx x0 x1 x2
          by_cases hle : left ≤ (k : Int) + 1
          · gi_wp2
            exact ⟨HMW.out.drew, rfl, by omega, HMD.out.drew, by rw [Int.natCast_add]; exact HSET.out, by omega, by rcases H3.out with h | h <;> omega⟩
          · have hle2 : decide (left ≤ (k : Int) + 1) = false := decide_eq_false hle
            gi_wp2
            exact ⟨HMW.out.drew, HMD.out.drew, by rw [Int.natCast_add]; exact HSET.out, .inr (by omega)⟩
      case done =>
        rintro W ⟨h1, h2, h3⟩ hle hd
        rw [HM.out] at h2 h3
        have cv := cellP (h1.heap HV8.out (by omega)) 0 _ rfl
        have cx := cellP (h1.heap HZ8.out.1 (by omega)) 0 _ rfl
        have hy := h1.heap HZ8.out.2 (by omega)
        have cy := cellP hy 0 _ rfl
        have fy := frozen_of_row W _ 0 _ _ hy
        have cn := cellP h2 0 _ rfl
        have HF := Lib.hid h1
        have HDD := Lib.hid hd
        have HYY := Lib.hid hy
        have HDS := Lib.hid ((Mod.setCell (T := fun g => g = w.heap.size + 1) (p := ⟨w.heap.size + 1, 0, none⟩) (Mod.refl _ W) (fun _ => rfl) (.bool true)).heap HDD.out (by omega))
        have HYS := Lib.hid (set_heap HYY.out 0 (.bool true))
        have cz : ((W.setCell ⟨w.heap.size + 1, 0, none⟩ (.bool true)).putObj w8.heap.size (.deferred none)).cell? ⟨w.heap.size + 1, 0, none⟩ = some (.bool true) := cellP ((World.putObj_heap_other (by omega)).trans HYS.out) 0 _ rfl
        have hBZ : Below w.heap.size w ((W.setCell ⟨w.heap.size + 1, 0, none⟩ (.bool true)).putObj w8.heap.size (.deferred none)) := ((HW8.out.trans (HF.out.below hw8 (fun k hk e => by omega))).setCell (p := ⟨w.heap.size + 1, 0, none⟩) (Nat.le_succ _) (.bool true)).trans (below_putObj _ hw8 _)
        clear h1 h2 hd hy
        by_cases hm0 : m = 0
        · have e0 : (m : Int) = 0 := by omega
          rw [e0] at cn
          clear h3 hm0
          by_cases hl : left < 1
          · have hl2 : ¬ (1 : Int) < 0 := by decide
            go_wp2
            refine ⟨by simp, .inl ⟨_, _, rfl, run_takeDeferred HDS.out, ?_⟩⟩
            refine ⟨.bool true, ?_, rfl, hBZ⟩
            simp [results, Tryd.f3, go_sem, cz]
          · have hl2 : decide (left < 1) = false := decide_eq_false hl
            have hl3 : decide (left < 0) = false := decide_eq_false (by omega)
            have hl4 : ¬ left < 0 := by omega
            go_wp2
            refine ⟨by simp, .inl ⟨_, _, rfl, run_takeDeferred HDS.out, ?_⟩⟩
            refine ⟨.bool true, ?_, rfl, hBZ⟩
            simp [results, Tryd.f3, go_sem, cz]
        · have hl : ¬ left < 1 := by omega
          have hl2 : ¬ left < (m : Int) := by omega
          clear h3
          go_wp2
          refine ⟨by simp, .inl ⟨_, _, rfl, run_takeDeferred HDS.out, ?_⟩⟩
          refine ⟨.bool true, ?_, rfl, hBZ⟩
          simp [results, Tryd.f3, go_sem, cz]
      case stop =>
        rintro k c' W hk ⟨rfl, h0, h1, h2, h3, h4⟩ hle hd
        rw [HM.out] at hk
        refine wpIn_wide.2 ?_
        have cv := cellP (h1.heap HV8.out (by omega)) 0 _ rfl
        have cx := cellP (h1.heap HZ8.out.1 (by omega)) 0 _ rfl
        have hy := h1.heap HZ8.out.2 (by omega)
        have cy := cellP hy 0 _ rfl
        have fy := frozen_of_row W _ 0 _ _ hy
        have cn := cellP h2 0 _ rfl
        have HF := Lib.hid h1
        have HDD := Lib.hid hd
        have HYY := Lib.hid hy
        have HDS := Lib.hid ((Mod.setCell (T := fun g => g = w.heap.size + 1) (p := ⟨w.heap.size + 1, 0, none⟩) (Mod.refl _ W) (fun _ => rfl) (.bool true)).heap HDD.out (by omega))
        have HYS := Lib.hid (set_heap HYY.out 0 (.bool true))
        have cz : ((W.setCell ⟨w.heap.size + 1, 0, none⟩ (.bool true)).putObj w8.heap.size (.deferred none)).cell? ⟨w.heap.size + 1, 0, none⟩ = some (.bool true) := cellP ((World.putObj_heap_other (by omega)).trans HYS.out) 0 _ rfl
        have hBZ : Below w.heap.size w ((W.setCell ⟨w.heap.size + 1, 0, none⟩ (.bool true)).putObj w8.heap.size (.deferred none)) := ((HW8.out.trans (HF.out.below hw8 (fun k hk e => by omega))).setCell (p := ⟨w.heap.size + 1, 0, none⟩) (Nat.le_succ _) (.bool true)).trans (below_putObj _ hw8 _)
        clear h1 h2 hd hy
        by_cases hl : left < 1
        · have ek : ((k : Int) == 1) = true := by rw [beq_iff_eq]; omega
          by_cases h1m : (1 : Int) < (m : Int)
          · clear h3 h4
            go_wp2
            refine ⟨by simp, .inl ⟨_, _, rfl, run_takeDeferred HDS.out, ?_⟩⟩
            refine ⟨.bool true, ?_, rfl, hBZ⟩
            simp [results, Tryd.f3, go_sem, cz]
          · have ekm : ((k : Int) == (m : Int)) = true := by rw [beq_iff_eq]; omega
            clear h3 h4
            go_wp2
            refine ⟨by simp, .inl ⟨_, _, rfl, run_takeDeferred HDS.out, ?_⟩⟩
            refine ⟨.bool true, ?_, rfl, hBZ⟩
            simp [results, Tryd.f3, go_sem, cz]
        · have ek : ((k : Int) == left) = true := by rw [beq_iff_eq]; omega
          by_cases h1m : left < (m : Int)
          · clear h3 h4
            go_wp2
            refine ⟨by simp, .inl ⟨_, _, rfl, run_takeDeferred HDS.out, ?_⟩⟩
            refine ⟨.bool true, ?_, rfl, hBZ⟩
            simp [results, Tryd.f3, go_sem, cz]
          · have ekm : ((k : Int) == (m : Int)) = true := by rw [beq_iff_eq]; omega
            clear h3 h4
            go_wp2
            refine ⟨by simp, .inl ⟨_, _, rfl, run_takeDeferred HDS.out, ?_⟩⟩
            refine ⟨.bool true, ?_, rfl, hBZ⟩
            simp [results, Tryd.f3, go_sem, cz]
end Go.Proofs.YtknnkmakfcfnjaaDoor
