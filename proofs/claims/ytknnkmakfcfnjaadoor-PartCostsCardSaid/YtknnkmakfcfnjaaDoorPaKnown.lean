/-
  Layer 14's statements: is, where it is true; known.
-/
import Derived.Test.YtknnkmakfcfnjaaDoorPaCon
import Derived.Deep.RegionHeld3
import Derived.Deep.CutRange
import Derived.Deep.CutBlock
namespace Pa
open Ins
def mk (y : UInt8) : I := ⟨y.toNat, 0, 0, 0, []⟩
end Pa
namespace Go.Proofs.YtknnkmakfcfnjaaDoor
open Go.RowKit Ins
set_option maxRecDepth 100000 in
set_option maxHeartbeats 4000000 in
theorem is_any (hp : PartsOk) (ops : List UInt8) (want : List Pa.P) (S1 S2 : Nat → Prop) (A1 A2 : Option Addr) (n1 c1 n2 c2 : Nat) (w : World) (hn1 : n1 = ops.length) (hn2 : n2 = want.length) (hs1 : n1 ≤ 1000) (hs2 : n2 ≤ 1000) (hL1 : HasL w S1 A1 ops) (hL2 : HasL w S2 A2 want) (heq : Pa.parts (ops.map Pa.mk) = want) (hT : TbC w) :
    Calls Tryd.prog 13 #[.slice A1 n1 c1, .slice A2 n2 c2] w fun e w' => e = .returned (.bool true) ∧ Below w.heap.size w w' := by
  have HL1 := Lib.hid (fun W (hb : Below w.heap.size w W) => hL1.on hb)
  have HL2 := Lib.hid (fun W (hb : Below w.heap.size w W) => hL2.on hb)
  have HT := Lib.hid (fun W (hb : Below w.heap.size w W) => hT.on hb)
  have HN1 := Lib.hid hn1
  have HN2 := Lib.hid hn2
  have HEQ := Lib.hid heq
  have HP := Lib.hid hp
  clear hL1 hL2 hT hn1 hn2 heq hp
  go_enter Tryd.func13, Tryd.ntmps13
  go_upto_region 3 with fail
  go_loopw [13, 5] (fun i v wr => ∃ k : Nat, k ≤ n1 ∧ i = .int .i64 (k : Int) ∧ Hid (OwnL 41 wr w.heap.size (fun _ => False) v ((ops.take k).map Pa.mk)) ∧ Hid (Below w.heap.size w wr)) (fun i _ _ => n1 - (intOf i).toNat)
  case atStart => exact ⟨0, Nat.zero_le _, rfl, Lib.hid (OwnL.nil _ _ _ _), Lib.hid (Below.refl _ _)⟩
  case round =>
    obtain ⟨k, hk, rfl, HO, HB⟩ := hrel
    by_cases hlt : k < n1
    · have hlti : (k : Int) < (n1 : Int) := by omega
      obtain ⟨y, hy⟩ : ∃ y, ops[k]? = some y := ⟨_, List.getElem?_eq_getElem (by rw [← HN1.out]; exact hlt)⟩
      obtain ⟨g, o, cs, rfl, _, _, hcs, hcell⟩ := HL1.out _ HB.out k y hy
      have hcs' : cs = [.int .u8 (y.toNat : Int)] := hcs
      subst hcs'
      have z0 : wr.cell? ⟨g, o + k, none⟩ = some (.int .u8 (y.toNat : Int)) := by
        have := hcell 0 _ rfl
        simpa [show Lay.size UInt8 = 1 from rfl] using this
      have hlen : ((ops.take k).map Pa.mk).length ≤ 1000 := by simp; omega
      obtain ⟨v', w3, hrun, hO3, hM3, hT3⟩ := append1L undIn infIn (by decide) rfl (by decide) wr w.heap.size (fun _ => False) u5 ((ops.take k).map Pa.mk) (Pa.mk y) [.int .u8 (y.toNat : Int), .int .u32 0, .int .u32 0, .int .i64 0, .slice none 0 0] HO.out (by omega) HB.out.size
        ⟨none, 0, rfl, ⟨y.toNat_lt, by show 0 < 4294967296; decide, by show 0 < 4294967296; decide, by show (-9223372036854775808 : Int) ≤ 0; decide, by show (0 : Int) ≤ 9223372036854775807; decide, by intro n h; cases h⟩, Nat.le_refl _, Nat.zero_le _, HasU.nil _ _ _⟩ (by simp; exact ⟨rfl, rfl, rfl, rfl⟩) (fun _ _ h => h.elim)
      have HO3 : Hid (OwnL 41 w3 w.heap.size (fun _ => False) v' ((ops.take (k + 1)).map Pa.mk)) := Lib.hid (by
        rw [List.take_add_one, hy, List.map_append]
        exact hO3.more (fun _ _ h => h.1.elim))
      have HB3 := Lib.hid (HB.out.trans (hM3.below HB.out.size (fun g hg e => by have := (OwnL.lt HO.out g e).1; omega)))
      have HRUN := Lib.hid hrun
      clear hrun hO3 hM3 hT3 hlen hcell hcs hy
      generalize (y.toNat : Int) = z at z0 HRUN
      go_wp2_with (at_builtin; refine wpList_appends rfl (.tmp 17) (.tmp 20) 22 rfl _ _ _ w3 rfl rfl HRUN.out ?_)
      go_roundw
      case rel => exact ⟨k + 1, by omega, by go_num, HO3, HB3⟩
      case measure => simp [intOf]; omega
    · have hkn : k = n1 := by omega
      have hge : decide ((k : Int) < (n1 : Int)) = false := decide_eq_false (by omega)
      have hge2 : decide (k < n1) = false := decide_eq_false hlt
      have e0 : (ops.take k).map Pa.mk = ops.map Pa.mk := by rw [hkn, List.take_of_length_le (by rw [← HN1.out]; omega)]
      rw [e0] at HO
      obtain ⟨A3, c3, rfl, hc1, hc2, hc3, hl3⟩ := HO.out.tell (fun _ h => h.elim)
      have HL3 := Lib.hid hl3
      have hml : (ops.map Pa.mk).length = n1 := by rw [List.length_map, ← HN1.out]
      have HCP : Hid (CapOk A3 n1 c3) := Lib.hid ⟨by rw [← hml]; exact hc1, by unfold maxLen at hc2; omega, hc3⟩
      clear hc1 hc2 hc3 hl3 hlt hkn e0 HO
      rw [hml]
      have HML := Lib.hid hml
      clear hml
      go_upto_region 8 with (go_at_call 7; refine (HP.out (ops.map Pa.mk) _ A3 n1 c3 wr HML.out.symm (by omega) HCP.out HL3.out (HT.out _ HB.out)).mono ?_; rintro e w4 ⟨A4, c4, rfl, hl4, hb4⟩; have HL4 := Lib.hid hl4; have HB4 := Lib.hid (Below.next HB.out hb4); clear hl4 hb4)
      rw [HEQ.out] at HL4 ⊢
      rw [← HN2.out]
      have e1 : ((n2 : Int) != (n2 : Int)) = false := by simp
      go_upto_region 11 with fail
      go_loopw [32] (fun i wx => ∃ k : Nat, k ≤ n2 ∧ i = .int .i64 (k : Int) ∧ Hid (Below w4.heap.size w4 wx)) (fun i _ => n2 - (intOf i).toNat)
      case atStart => exact ⟨0, Nat.zero_le _, rfl, Lib.hid (Below.refl _ _)⟩
      case round =>
        obtain ⟨k2, hk2, rfl, HB5⟩ := hrel
        by_cases hlt : k2 < n2
        · have hlti : (k2 : Int) < (n2 : Int) := by omega
          obtain ⟨p, hp⟩ : ∃ p, want[k2]? = some p := ⟨_, List.getElem?_eq_getElem (by rw [← HN2.out]; exact hlt)⟩
          obtain ⟨g4, o4, rfl, _, z0, z1, z2⟩ := HL4.out.three HB5.out hp
          obtain ⟨g2, o2, rfl, _, q0, q1, q2⟩ := (HL2.out w (Below.refl _ _)).three (Below.next HB4.out HB5.out) hp
          clear hp
          generalize (p.at_ : Int) = pa at z0 q0
          generalize (p.to : Int) = pt at z1 q1
          generalize (p.cost : Int) = pc at z2 q2
          have HB6 := Lib.hid (HB5.out.alloc HB5.out.size (.cells #[.int .i64 pa, .int .i64 pt, .int .u64 pc] 31))
          have hg2 := cell_lt q0
          have HX1 := Lib.hid (heap_alloc_new wr (.cells #[.int .i64 pa, .int .i64 pt, .int .u64 pc] 31))
          have hbn : Below wr.heap.size wr (wr.alloc (.cells #[.int .i64 pa, .int .i64 pt, .int .u64 pc] 31)) := (Below.refl _ _).alloc (Nat.le_refl _) _
          go_upto_region 13 with fail
          have r0 := (hbn.cell (p := ⟨g2, o2 + k2 * 3, none⟩) hg2).trans q0
          have r1 := (hbn.cell (p := ⟨g2, o2 + k2 * 3 + 1, none⟩) hg2).trans q1
          have r2 := (hbn.cell (p := ⟨g2, o2 + k2 * 3 + 2, none⟩) hg2).trans q2
          have hg2' : g2 < (wr.alloc (.cells #[.int .i64 pa, .int .i64 pt, .int .u64 pc] 31)).heap.size := Nat.lt_of_lt_of_le hg2 hbn.size
          clear z0 z1 z2 q0 q1 q2 hbn hg2
          generalize wr.alloc (.cells #[.int .i64 pa, .int .i64 pt, .int .u64 pc] 31) = wb at HX1 HB6 r0 r1 r2 hg2' ⊢
          generalize wr.heap.size = X at HX1 ⊢
          have hXl : X < wb.heap.size := (Array.getElem?_eq_some_iff.1 HX1.out).1
          have HK := Lib.hid (fun W (hb : Below wb.heap.size wb W) => (⟨(hb.cell (p := ⟨X, 0, none⟩) hXl).trans ((cell_of_row wb X 0 _ _ (0, 0) HX1.out).trans rfl), (hb.cell (p := ⟨X, 1, none⟩) hXl).trans ((cell_of_row wb X 1 _ _ (0, 0) HX1.out).trans rfl), (hb.cell (p := ⟨X, 2, none⟩) hXl).trans ((cell_of_row wb X 2 _ _ (0, 0) HX1.out).trans rfl), (hb.cell (p := ⟨g2, o2 + k2 * 3, none⟩) hg2').trans r0, (hb.cell (p := ⟨g2, o2 + k2 * 3 + 1, none⟩) hg2').trans r1, (hb.cell (p := ⟨g2, o2 + k2 * 3 + 2, none⟩) hg2').trans r2⟩ :
            W.cell? ⟨X, 0, none⟩ = some (.int .i64 pa) ∧ W.cell? ⟨X, 1, none⟩ = some (.int .i64 pt) ∧ W.cell? ⟨X, 2, none⟩ = some (.int .u64 pc) ∧ W.cell? ⟨g2, o2 + k2 * 3, none⟩ = some (.int .i64 pa) ∧ W.cell? ⟨g2, o2 + k2 * 3 + 1, none⟩ = some (.int .i64 pt) ∧ W.cell? ⟨g2, o2 + k2 * 3 + 2, none⟩ = some (.int .u64 pc)))
          clear HX1 hXl r0 r1 r2 hg2'
          go_region_held3 (fun w' => Below wb.heap.size wb w' ∧ w'.cell? ⟨X, 0, none⟩ = some (.int .i64 pa) ∧ w'.cell? ⟨X, 1, none⟩ = some (.int .i64 pt) ∧ w'.cell? ⟨X, 2, none⟩ = some (.int .u64 pc) ∧ w'.cell? ⟨g2, o2 + k2 * 3, none⟩ = some (.int .i64 pa) ∧ w'.cell? ⟨g2, o2 + k2 * 3 + 1, none⟩ = some (.int .i64 pt) ∧ w'.cell? ⟨g2, o2 + k2 * 3 + 2, none⟩ = some (.int .u64 pc)) (first | exact ⟨Below.drew (Below.refl _ _), HK.out _ (Below.drew (Below.refl _ _))⟩ | exact ⟨by assumption, HK.out _ (by assumption)⟩) (fail)
          have HN2' : Hid (Below w4.heap.size w4 wb.drew) := Lib.hid (Below.drew HB6.out)
          go_wp2_with fail
          go_roundw
          case rel => exact ⟨k2 + 1, by omega, by go_num, HN2'⟩
          case measure => simp [intOf]; omega
        · have hge : decide ((k2 : Int) < (n2 : Int)) = false := decide_eq_false (by omega)
          have hge2 : decide (k2 < n2) = false := decide_eq_false hlt
          have HF := Lib.hid (Below.next HB4.out HB5.out)
          clear hlt
          go_wp2
          go_ret
          exact ⟨rfl, HF.out⟩
/-- .. of two literals. -/
theorem is_lit (hp : PartsOk) (ops : List UInt8) (want : List Pa.P) (cs1 cs2 : List Value) (n1 n2 : Nat) (w : World) (hn1 : n1 = ops.length) (hn2 : n2 = want.length) (hs1 : n1 ≤ 1000) (hs2 : n2 ≤ 1000) (h1 : cs1 = ops.flatMap fun y => [Value.int .u8 (y.toNat : Int)]) (h2 : cs2 = want.flatMap partCells) (heq : Pa.parts (ops.map Pa.mk) = want) (hT : TbC w) :
    Calls Tryd.prog 13 #[.slice (some ⟨w.heap.size, 0, none⟩) n1 n1, .slice (some ⟨w.heap.size + 1, 0, none⟩) n2 n2] ((w.alloc (.cells cs1.toArray 5)).alloc (.cells cs2.toArray 31)) fun e w' => e = .returned (.bool true) ∧ Below w.heap.size w w' := by
  have b1 : Below w.heap.size w (w.alloc (.cells cs1.toArray 5)) := (Below.refl _ _).alloc (Nat.le_refl _) _
  have b2 : Below (w.alloc (.cells cs1.toArray 5)).heap.size (w.alloc (.cells cs1.toArray 5)) ((w.alloc (.cells cs1.toArray 5)).alloc (.cells cs2.toArray 31)) := (Below.refl _ _).alloc (Nat.le_refl _) _
  have q1 := (lit_bytes w ops cs1 n1 5 h1 hn1 hs1).on b2
  have q2 := lit_parts (w.alloc (.cells cs1.toArray 5)) want cs2 n2 31 h2 hn2 hs2
  have e : (w.alloc (.cells cs1.toArray 5)).heap.size = w.heap.size + 1 := by simp
  have q3 : HasL ((w.alloc (.cells cs1.toArray 5)).alloc (.cells cs2.toArray 31)) ((w.alloc (.cells cs1.toArray 5)).heap.size ≤ ·) (some ⟨w.heap.size + 1, 0, none⟩) want := by rw [← e]; exact q2
  refine (is_any hp ops want _ _ _ _ n1 n1 n2 n2 _ hn1 hn2 hs1 hs2 q1 q3 heq ((hT.on b1).on b2)).mono ?_
  rintro e' w' ⟨rfl, hb⟩
  exact ⟨rfl, Below.next b1 (Below.next b2 hb)⟩
theorem parts_k1 : Pa.parts (([32, 32, 106] : List UInt8).map Pa.mk) = [⟨0, 3, 3⟩] := by decide +kernel
theorem is_k1 (hp : PartsOk) (w : World) (hT : TbC w) : Calls Tryd.prog 13 #[.slice (some ⟨w.heap.size, 0, none⟩) 3 3, .slice (some ⟨w.heap.size + 1, 0, none⟩) 1 1] ((w.alloc (.cells #[.int .u8 32, .int .u8 32, .int .u8 106] 5)).alloc (.cells #[.int .i64 0, .int .i64 3, .int .u64 3] 31)) fun e w' => e = .returned (.bool true) ∧ Below w.heap.size w w' :=
  is_lit hp [32, 32, 106] [⟨0, 3, 3⟩] [.int .u8 32, .int .u8 32, .int .u8 106] [.int .i64 0, .int .i64 3, .int .u64 3] 3 1 w rfl rfl (by decide) (by decide) (by kernel_rfl) (by kernel_rfl) parts_k1 hT
theorem parts_k2 : Pa.parts (([3, 1, 13, 1, 11] : List UInt8).map Pa.mk) = [⟨1, 3, 3⟩, ⟨3, 5, 1⟩] := by decide +kernel
theorem is_k2 (hp : PartsOk) (w : World) (hT : TbC w) : Calls Tryd.prog 13 #[.slice (some ⟨w.heap.size, 0, none⟩) 5 5, .slice (some ⟨w.heap.size + 1, 0, none⟩) 2 2] ((w.alloc (.cells #[.int .u8 3, .int .u8 1, .int .u8 13, .int .u8 1, .int .u8 11] 5)).alloc (.cells #[.int .i64 1, .int .i64 3, .int .u64 3, .int .i64 3, .int .i64 5, .int .u64 1] 31)) fun e w' => e = .returned (.bool true) ∧ Below w.heap.size w w' :=
  is_lit hp [3, 1, 13, 1, 11] [⟨1, 3, 3⟩, ⟨3, 5, 1⟩] [.int .u8 3, .int .u8 1, .int .u8 13, .int .u8 1, .int .u8 11] [.int .i64 1, .int .i64 3, .int .u64 3, .int .i64 3, .int .i64 5, .int .u64 1] 5 2 w rfl rfl (by decide) (by decide) (by kernel_rfl) (by kernel_rfl) parts_k2 hT
theorem parts_k3 : Pa.parts (([2, 11, 16, 16] : List UInt8).map Pa.mk) = [⟨2, 3, 8⟩, ⟨3, 4, 8⟩] := by decide +kernel
theorem is_k3 (hp : PartsOk) (w : World) (hT : TbC w) : Calls Tryd.prog 13 #[.slice (some ⟨w.heap.size, 0, none⟩) 4 4, .slice (some ⟨w.heap.size + 1, 0, none⟩) 2 2] ((w.alloc (.cells #[.int .u8 2, .int .u8 11, .int .u8 16, .int .u8 16] 5)).alloc (.cells #[.int .i64 2, .int .i64 3, .int .u64 8, .int .i64 3, .int .i64 4, .int .u64 8] 31)) fun e w' => e = .returned (.bool true) ∧ Below w.heap.size w w' :=
  is_lit hp [2, 11, 16, 16] [⟨2, 3, 8⟩, ⟨3, 4, 8⟩] [.int .u8 2, .int .u8 11, .int .u8 16, .int .u8 16] [.int .i64 2, .int .i64 3, .int .u64 8, .int .i64 3, .int .i64 4, .int .u64 8] 4 2 w rfl rfl (by decide) (by decide) (by kernel_rfl) (by kernel_rfl) parts_k3 hT
set_option maxRecDepth 100000 in
set_option maxHeartbeats 4000000 in
theorem known14 (hp : PartsOk) (he : PEndsOk) (w : World) (hT : TbC w) : Calls Tryd.prog 6 #[] w fun e w' => e = .returned (.bool true) ∧ Below w.heap.size w w' := by
  have HT := Lib.hid (fun W (hb : Below w.heap.size w W) => hT.on hb)
  have K1 := Lib.hid (is_k1 hp)
  have K2 := Lib.hid (is_k2 hp)
  have K3 := Lib.hid (is_k3 hp)
  have E1 : Hid (∀ W, TbC W → Calls Tryd.prog 9 #[.int .u8 64] W fun e w' => e = .returned (.bool true) ∧ Below W.heap.size W w') := Lib.hid (fun W h => he 64 W (by decide) h)
  have E2 : Hid (∀ W, TbC W → Calls Tryd.prog 9 #[.int .u8 2] W fun e w' => e = .returned (.bool false) ∧ Below W.heap.size W w') := Lib.hid (fun W h => he 2 W (by decide) h)
  clear hT hp he
  have tok4 : True := trivial
  go_enter Tryd.func6, Tryd.ntmps6
  go_wp2_with fail
  refine (K1.out _ (HT.out _ (Below.refl _ _))).mono ?_
  clear K1
  rintro e w1 ⟨rfl, hb⟩
  have HB1 : Hid (Below w.heap.size w w1) := Lib.hid (hb)
  clear hb
  go_wp2_with fail
  refine (K2.out _ (HT.out _ (HB1.out))).mono ?_
  clear K2
  rintro e w2 ⟨rfl, hb⟩
  have HB2 : Hid (Below w.heap.size w w2) := Lib.hid (Below.next HB1.out hb)
  clear hb
  go_wp2_with fail
  refine (K3.out _ (HT.out _ (HB2.out))).mono ?_
  clear K3
  rintro e w3 ⟨rfl, hb⟩
  have HB3 : Hid (Below w.heap.size w w3) := Lib.hid (Below.next HB2.out hb)
  clear hb
  go_wp2_with fail
  refine (E1.out _ (HT.out _ (HB3.out))).mono ?_
  clear E1
  rintro e w4 ⟨rfl, hb⟩
  have HB4 : Hid (Below w.heap.size w w4) := Lib.hid (Below.next HB3.out hb)
  clear hb
  go_wp2_with fail
  refine (E2.out _ (HT.out _ (HB4.out))).mono ?_
  clear E2
  rintro e w5 ⟨rfl, hb⟩
  have HB5 : Hid (Below w.heap.size w w5) := Lib.hid (Below.next HB4.out hb)
  clear hb
  go_wp2_with fail
  go_ret
  exact ⟨rfl, HB5.out⟩
end Go.Proofs.YtknnkmakfcfnjaaDoor
