/-
  The statement CostTells, walked.
-/
import Derived.Test.YtkclnilaldhhnaaDoorCoKnown
import Derived.Test.YtkclnilaldhhnaaDoorCoRef2
namespace Go.Proofs.YtkclnilaldhhnaaDoor
open Go.RowKit Ins
set_option maxRecDepth 100000 in
set_option maxHeartbeats 4000000 in
theorem costTells_any (op : Nat) (xa xb xc : Int) (Al : Option Addr) (nl cl : Nat) (xs : List I) (S : Nat → Prop) (A : Option Addr) (n c : Nat) (w : World) (hop : op < 256) (hn : n = xs.length) (hs : n ≤ 140737488355328) (hL : HasL w S A xs) (hT : TbC w) :
    Calls Tryd.prog 3 #[.agg #[.int .u8 (op : Int), .int .u32 xa, .int .u32 xb, .int .i64 xc, .slice Al nl cl], .slice A n c] w fun e w' => e = .returned (.bool true) ∧ Below w.heap.size w w' := by
  have HL := Lib.hid hL
  have HT := Lib.hid hT
  have HN := Lib.hid hn
  have HOP := Lib.hid hop
  clear hL hT hn hop
  have HX := Lib.hid (heap_alloc_new w (.cells #[.int .u8 (op : Int), .int .u32 xa, .int .u32 xb, .int .i64 xc, .slice Al nl cl] 25))
  have HB := Lib.hid ((Below.refl w.heap.size w).alloc (Nat.le_refl _) (.cells #[.int .u8 (op : Int), .int .u32 xa, .int .u32 xb, .int .i64 xc, .slice Al nl cl] 25))
  obtain ⟨wa, hwa⟩ : ∃ wa, w.alloc (.cells #[.int .u8 (op : Int), .int .u32 xa, .int .u32 xb, .int .i64 xc, .slice Al nl cl] 25) = wa := ⟨_, rfl⟩
  rw [hwa] at HX HB
  have HTA := Lib.hid (HT.out.on HB.out)
  by_cases hgt : 2000 < n
  · have hgti : (2000 : Int) < (n : Int) := by omega
    go_enter Tryd.func3, Tryd.ntmps3
    go_upto_region 1 with fail
    try simp only [hwa]
    clear hwa
    go_wp2_with (go_at_call 5; refine (known13 _ HTA.out).mono ?_; rintro e w2 ⟨rfl, hb2⟩; have HB2 := Lib.hid (HB.out.trans (hb2.mono HB.out.size)); clear hb2)
    go_ret
    exact ⟨rfl, HB2.out⟩
  have hgti : decide ((2000 : Int) < (n : Int)) = false := decide_eq_false (by omega)
  have hgti2 : decide (2000 < n) = false := decide_eq_false hgt
  go_enter Tryd.func3, Tryd.ntmps3
  go_upto_region 1 with fail
  try simp only [hwa]
  clear hwa
  go_upto_region 7 with (go_at_call 5; refine (known13 _ HTA.out).mono ?_; rintro e w2 ⟨rfl, hb2⟩; have HB2 := Lib.hid hb2; clear hb2)
  go_loopw [15, 5] (fun i sv wr => ∃ j s : Nat, j ≤ n ∧ i = .int .i64 (j : Int) ∧ sv = .int .u64 (s : Int) ∧ Hid (s = Co.sum (xs.take j)) ∧ Hid (Below wa.heap.size wa wr)) (fun i _ _ => n - (intOf i).toNat)
  case atStart => exact ⟨0, 0, Nat.zero_le _, rfl, rfl, Lib.hid rfl, HB2⟩
  case round =>
    clear HB2
    obtain ⟨j, s, hj, rfl, rfl, HS, HR⟩ := hrel
    have HWR := Lib.hid (HB.out.trans (HR.out.mono HB.out.size))
    by_cases hlt : j < n
    · have hlti : (j : Int) < (n : Int) := by omega
      obtain ⟨x, hx⟩ : ∃ x, xs[j]? = some x := ⟨_, List.getElem?_eq_getElem (by rw [← HN.out]; exact hlt)⟩
      have HST := Lib.hid (Co.sum_step hx)
      have hsl : s + Co.of x.op ≤ 20 * n := by
        have h1 := Co.sum_le (xs.take (j + 1))
        rw [HST.out, ← HS.out, List.length_take] at h1
        omega
      obtain ⟨g, o, v1, v2, v3, v4, rfl, hop, z0, z1, z2, z3, ⟨A', n', c', rfl⟩, z4⟩ := HL.out.five HWR.out hx
      clear hx
      obtain ⟨o1, hop'⟩ : ∃ o1, x.op = o1 := ⟨_, rfl⟩
      rw [hop'] at hop z0 HST hsl
      have HOP1 := Lib.hid hop
      clear hop' hop
      have hw : IntKind.u64.wrap ((s : Int) + (Co.of o1 : Int)) = ((s + Co.of o1 : Nat) : Int) := by rw [IntWalk.u64_in _ (by omega)]; omega
      obtain ⟨q, hq⟩ : ∃ q, Co.of o1 = q := ⟨_, rfl⟩
      rw [hq] at hw hsl HST
      have HQ := Lib.hid hq
      clear hq
      have HB1 := Lib.hid (HR.out.alloc (HR.out.size) (.cells #[.int .u8 (o1 : Int), .int .u32 v1, .int .u32 v2, .int .i64 v3, .slice A' n' c'] 25))
      go_wp2_with (go_at_call 6; refine (cref_any o1 _ _ _ _ _ HOP1.out).mono ?_; rintro e w' ⟨rfl, hb⟩; have HB2 := Lib.hid (HB1.out.trans (hb.mono HB1.out.size)); clear hb; rw [HQ.out])
      go_roundw
      case rel => exact ⟨j + 1, s + q, by omega, by go_num, rfl, Lib.hid (by rw [HST.out, HS.out]), HB2⟩
      case measure => simp [intOf]; omega
    · have hjn : j = n := by omega
      have HSUM : Hid (s = Co.sum xs) := Lib.hid (by rw [HS.out, hjn, List.take_of_length_le (by rw [← HN.out]; omega)])
      have hge : decide ((j : Int) < (n : Int)) = false := decide_eq_false (by omega)
      have hge2 : decide (j < n) = false := decide_eq_false hlt
      clear hlt hjn
      have hXl : w.heap.size < wa.heap.size := (Array.getElem?_eq_some_iff.1 HX.out).1
      have HK := Lib.hid (fun W (hb : Below wr.heap.size wr W) => (⟨((HR.out.trans (hb.mono HR.out.size)).cell (p := ⟨w.heap.size, 0, none⟩) hXl).trans ((cell_of_row wa w.heap.size 0 _ _ (0, 0) HX.out).trans rfl), ((HR.out.trans (hb.mono HR.out.size)).cell (p := ⟨w.heap.size, 1, none⟩) hXl).trans ((cell_of_row wa w.heap.size 1 _ _ (0, 0) HX.out).trans rfl), ((HR.out.trans (hb.mono HR.out.size)).cell (p := ⟨w.heap.size, 2, none⟩) hXl).trans ((cell_of_row wa w.heap.size 2 _ _ (0, 0) HX.out).trans rfl), ((HR.out.trans (hb.mono HR.out.size)).cell (p := ⟨w.heap.size, 3, none⟩) hXl).trans ((cell_of_row wa w.heap.size 3 _ _ (0, 0) HX.out).trans rfl), ((HR.out.trans (hb.mono HR.out.size)).cell (p := ⟨w.heap.size, 4, none⟩) hXl).trans ((cell_of_row wa w.heap.size 4 _ _ (0, 0) HX.out).trans rfl)⟩ :
        W.cell? ⟨w.heap.size, 0, none⟩ = some (.int .u8 (op : Int)) ∧ W.cell? ⟨w.heap.size, 1, none⟩ = some (.int .u32 xa) ∧ W.cell? ⟨w.heap.size, 2, none⟩ = some (.int .u32 xb) ∧ W.cell? ⟨w.heap.size, 3, none⟩ = some (.int .i64 xc) ∧ W.cell? ⟨w.heap.size, 4, none⟩ = some (.slice Al nl cl)))
      have HTB := Lib.hid (fun W (hb : Below wr.heap.size wr W) => (HT.out.on HWR.out).on hb)
      have HLB := Lib.hid (fun W (hb : Below wr.heap.size wr W) => (HL.out.on HWR.out).on hb)
      clear hXl HX
      obtain ⟨q, hq⟩ : ∃ q, Co.of op = q := ⟨_, rfl⟩
      have HQ := Lib.hid hq
      clear hq
      go_upto_region 11 with fail
      go_region_held3 (fun w' => Below wr.heap.size wr w' ∧ w'.cell? ⟨w.heap.size, 0, none⟩ = some (.int .u8 (op : Int)) ∧ w'.cell? ⟨w.heap.size, 1, none⟩ = some (.int .u32 xa) ∧ w'.cell? ⟨w.heap.size, 2, none⟩ = some (.int .u32 xb) ∧ w'.cell? ⟨w.heap.size, 3, none⟩ = some (.int .i64 xc) ∧ w'.cell? ⟨w.heap.size, 4, none⟩ = some (.slice Al nl cl)) (first | exact ⟨Below.drew (Below.refl _ _), HK.out _ (Below.drew (Below.refl _ _))⟩ | exact ⟨by assumption, HK.out _ (by assumption)⟩)
        (first | (go_at_call 7; refine (cof_any op _ _ _ _ _ HOP.out (HTB.out _ (by first | assumption | exact Below.drew (Below.refl _ _)))).mono ?_; rintro e w2 ⟨rfl, hb2⟩; have hb3 : Below wr.heap.size wr w2 := Below.next (by first | assumption | exact Below.drew (Below.refl _ _)) hb2; clear hb2; rw [HQ.out]) | (go_at_call 6; refine (cref_any op _ _ _ _ _ HOP.out).mono ?_; rintro e w2 ⟨rfl, hb2⟩; have hb3 : Below wr.heap.size wr w2 := Below.next (by first | assumption | exact Below.drew (Below.refl _ _)) hb2; clear hb2; rw [HQ.out]) | (go_at_call 8; refine (csum_any xs S A n c _ HN.out (by assumption) (HLB.out _ (by first | assumption | exact Below.drew (Below.refl _ _))) (HTB.out _ (by first | assumption | exact Below.drew (Below.refl _ _)))).mono ?_; rintro e w2 ⟨rfl, hb2⟩; have hb3 : Below wr.heap.size wr w2 := Below.next (by first | assumption | exact Below.drew (Below.refl _ _)) hb2; clear hb2; rw [← HSUM.out]))
      have HN2 := Lib.hid (Below.next HWR.out hb3)
      go_wp2_with fail
      go_ret
      exact ⟨rfl, HN2.out⟩
end Go.Proofs.YtkclnilaldhhnaaDoor
