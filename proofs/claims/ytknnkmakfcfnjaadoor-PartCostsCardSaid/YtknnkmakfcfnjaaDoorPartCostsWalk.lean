/-
  The statement PartCosts, walked. (gen/part/costs.py)
-/
import Derived.Test.YtknnkmakfcfnjaaDoorPaKnown
namespace Go.Proofs.YtknnkmakfcfnjaaDoor
open Go.RowKit Ins
set_option maxRecDepth 100000 in
set_option maxHeartbeats 4000000 in
theorem partCosts_any (hp : PartsOk) (he : PEndsOk) (xs : List I) (S : Nat → Prop) (A : Option Addr) (n c : Nat) (w : World) (hn : n = xs.length) (hnc : n ≤ c) (hcm : c ≤ 140737488355328) (hA : A = none → c = 0) (hL : HasL w S A xs) (hT : TbC w) :
    Calls Tryd.prog 4 #[.slice A n c] w fun e w' => e = .returned (.bool true) ∧ Below w.heap.size w w' := by
  have HL := Lib.hid (fun W (hb : Below w.heap.size w W) => hL.on hb)
  have HT := Lib.hid (fun W (hb : Below w.heap.size w W) => hT.on hb)
  have HN := Lib.hid hn
  have HA := Lib.hid hA
  have HCP : Hid (CapOk A n c) := Lib.hid ⟨hnc, by omega, hA⟩
  have HP := Lib.hid hp
  have HE := Lib.hid he
  have HK := Lib.hid (known14 hp he w hT)
  clear hL hT hn hA hp he
  by_cases hgt : 2000 < n
  · have hgti : (2000 : Int) < (n : Int) := by omega
    go_enter Tryd.func4, Tryd.ntmps4
    go_wp2_with (go_at_call 6; refine HK.out.mono ?_; rintro e w2 ⟨rfl, hb2⟩; have HB2 := Lib.hid hb2; clear hb2)
    go_ret
    exact ⟨rfl, HB2.out⟩
  have hgti : decide ((2000 : Int) < (n : Int)) = false := decide_eq_false (by omega)
  have hgti2 : decide (2000 < n) = false := decide_eq_false hgt
  obtain ⟨m, hm⟩ : ∃ m, (Pa.parts xs).length = m := ⟨_, rfl⟩
  have HM := Lib.hid hm
  have hmb : m ≤ 2000 := by have h := Pa.parts_len xs; rw [hm, ← HN.out] at h; omega
  clear hm
  go_enter Tryd.func4, Tryd.ntmps4
  go_upto_region 7 with (first | (go_at_call 6; refine HK.out.mono ?_; rintro e w2 ⟨rfl, hb2⟩; have HB2 := Lib.hid hb2; clear hb2) | (go_at_call 7; refine (HP.out xs S A n c w2 HN.out (by omega) HCP.out (HL.out _ HB2.out) (HT.out _ HB2.out)).mono ?_; rintro e w3 ⟨A3, c3, rfl, hl3, hb3⟩; have HL3 := Lib.hid hl3; have HB3 := Lib.hid (Below.next HB2.out hb3); clear hl3 hb3))
  rw [HM.out]
  clear HB2 hgti hgti2
  go_loopw [17, 3, 4] (fun i av sv wr => ∃ j a s : Nat, j ≤ m ∧ i = .int .i64 (j : Int) ∧ av = .int .i64 (a : Int) ∧ sv = .int .u64 (s : Int) ∧ Hid (Pa.Chain xs a ((Pa.parts xs).drop j)) ∧ Hid (s = Pa.S xs a) ∧ Hid (Below w3.heap.size w3 wr)) (fun i _ _ _ => m - (intOf i).toNat)
  case atStart => exact ⟨0, 0, 0, Nat.zero_le _, rfl, rfl, rfl, Lib.hid (by rw [List.drop_zero]; exact Pa.chain_parts xs), Lib.hid (by unfold Pa.S; rfl), Lib.hid (Below.refl _ _)⟩
  case round =>
    obtain ⟨j, a, s, hj, rfl, rfl, rfl, HC, HS, HB⟩ := hrel
    by_cases hlt : j < m
    · have hlti : (j : Int) < (m : Int) := by omega
      obtain ⟨p, hpj⟩ : ∃ p, (Pa.parts xs)[j]? = some p := ⟨_, List.getElem?_eq_getElem (by rw [HM.out]; exact hlt)⟩
      have HBW := Lib.hid (Below.next HB3.out HB.out)
      obtain ⟨g4, o4, rfl, _, z0, z1, z2⟩ := HL3.out.three HB.out hpj
      have hdr : (Pa.parts xs).drop j = p :: (Pa.parts xs).drop (j + 1) := by
        obtain ⟨hq, rfl⟩ := List.getElem?_eq_some_iff.1 hpj
        exact List.drop_eq_getElem_cons hq
      have hch := HC.out
      rw [hdr] at hch
      have HOK := Lib.hid hch.1
      have HC2 := Lib.hid hch.2
      clear hch hdr HC hpj
      obtain ⟨pa, hpa⟩ : ∃ x, p.at_ = x := ⟨_, rfl⟩
      obtain ⟨pt, hpt⟩ : ∃ x, p.to = x := ⟨_, rfl⟩
      obtain ⟨pc, hpc⟩ : ∃ x, p.cost = x := ⟨_, rfl⟩
      obtain ⟨k1, k2, k3, k4, k5, k6, k7, k8, k9⟩ := HOK.out
      rw [hpa] at z0 k1 k2 k5 k6 k7 k8
      rw [hpt] at z1 k2 k3 k5 k7 k9 HC2
      rw [hpc] at z2 k4 k5
      clear hpa hpt hpc HOK
      rw [← HN.out] at k3 k9
      have H5 := Lib.hid k5
      have H6 := Lib.hid k6
      have H7 := Lib.hid k7
      have H8 := Lib.hid k8
      have H9 := Lib.hid k9
      clear k5 k6 k7 k8 k9
      obtain ⟨x0, hx0⟩ : ∃ x, xs[pa]? = some x := ⟨_, List.getElem?_eq_getElem (by rw [← HN.out]; omega)⟩
      obtain ⟨g, o, v1, v2, v3, v4, rfl, _⟩ := (HL.out _ (Below.refl _ _)).five (Below.refl _ _) hx0
      clear hx0
      have HX1 := Lib.hid (heap_alloc_new wr (.cells #[.int .i64 (pa : Int), .int .i64 (pt : Int), .int .u64 (pc : Int)] 31))
      have HBA := Lib.hid (HB.out.alloc HB.out.size (.cells #[.int .i64 (pa : Int), .int .i64 (pt : Int), .int .u64 (pc : Int)] 31))
      go_upto_region 9 with fail
      clear z0 z1 z2
      generalize wr.alloc (.cells #[.int .i64 (pa : Int), .int .i64 (pt : Int), .int .u64 (pc : Int)] 31) = wb at HX1 HBA ⊢
      generalize wr.heap.size = X at HX1 ⊢
      have hXl : X < wb.heap.size := (Array.getElem?_eq_some_iff.1 HX1.out).1
      have HXC := Lib.hid (fun W (hb : Below wb.heap.size wb W) => (⟨(hb.cell (p := ⟨X, 0, none⟩) hXl).trans ((cell_of_row wb X 0 _ _ (0, 0) HX1.out).trans rfl), (hb.cell (p := ⟨X, 1, none⟩) hXl).trans ((cell_of_row wb X 1 _ _ (0, 0) HX1.out).trans rfl), (hb.cell (p := ⟨X, 2, none⟩) hXl).trans ((cell_of_row wb X 2 _ _ (0, 0) HX1.out).trans rfl)⟩ :
        W.cell? ⟨X, 0, none⟩ = some (.int .i64 (pa : Int)) ∧ W.cell? ⟨X, 1, none⟩ = some (.int .i64 (pt : Int)) ∧ W.cell? ⟨X, 2, none⟩ = some (.int .u64 (pc : Int))))
      have HBB := Lib.hid (fun W (hb : Below wb.heap.size wb W) => Below.next (Below.next HB3.out HBA.out) hb)
      clear hXl HX1 HBW
      -- what the tests come to
      have t1 : decide ((pa : Int) < (a : Int)) = false := decide_eq_false (by omega)
      have t1' : decide (pa < a) = false := decide_eq_false (by omega)
      have t2 : decide ((pt : Int) ≤ (pa : Int)) = false := decide_eq_false (by omega)
      have t2' : decide (pt ≤ pa) = false := decide_eq_false (by omega)
      have t3 : decide ((n : Int) < (pt : Int)) = false := decide_eq_false (by omega)
      have t3' : decide (n < pt) = false := decide_eq_false (by omega)
      have t4 : ((pc : Int) == 0) = false := by rw [beq_eq_false_iff_ne]; omega
      have HS1 : Hid (Co.sum ((xs.take pt).drop pa) = pc) := Lib.hid (by have h := Pa.S_mid xs (show pa ≤ pt by omega); have := H5.out; omega)
      have HS2 : Hid (Co.sum ((xs.take pa).drop a) = 0) := Lib.hid (by have h := Pa.S_mid xs k1; have := H6.out; omega)
      have HLN1 : Hid (pt - pa = ((xs.take pt).drop pa).length) := Lib.hid (by rw [List.length_drop, List.length_take, ← HN.out]; omega)
      have HLN2 : Hid (pa - a = ((xs.take pa).drop a).length) := Lib.hid (by rw [List.length_drop, List.length_take, ← HN.out]; omega)
      have s1 : ¬ c = pa := by omega
      have s2 : ¬ c - pa = 0 := by omega
      have s3 : ¬ c = a := by omega
      have s4 : ¬ c - a = 0 := by omega
      have b1 : (0 : Int) ≤ (pa : Int) := by omega
      have b2 : (pa : Int) ≤ (pt : Int) := by omega
      have b3 : (pt : Int) ≤ (c : Int) := by omega
      have b4 : (0 : Int) ≤ (a : Int) := by omega
      have b5 : (a : Int) ≤ (pa : Int) := by omega
      have b6 : (pa : Int) ≤ (c : Int) := by omega
      have tok1 : True := trivial
      go_region_held3 (fun w' => Below wb.heap.size wb w' ∧ w'.cell? ⟨X, 0, none⟩ = some (.int .i64 (pa : Int)) ∧ w'.cell? ⟨X, 1, none⟩ = some (.int .i64 (pt : Int)) ∧ w'.cell? ⟨X, 2, none⟩ = some (.int .u64 (pc : Int))) (first | exact ⟨Below.drew (Below.refl _ _), HXC.out _ (Below.drew (Below.refl _ _))⟩ | exact ⟨by assumption, HXC.out _ (by assumption)⟩)
        (first | (go_at_call 12; clear tok1; refine (csum_any ((xs.take pt).drop pa) S _ _ _ _ HLN1.out (by omega) ((HL.out _ (HBB.out _ (by first | assumption | exact Below.drew (Below.refl _ _)))).midI pa pt) (HT.out _ (HBB.out _ (by first | assumption | exact Below.drew (Below.refl _ _))))).mono ?_; rintro e w5 ⟨rfl, hb5⟩; have hb6 : Below wb.heap.size wb w5 := Below.next (by first | assumption | exact Below.drew (Below.refl _ _)) hb5; clear hb5; rw [HS1.out]) | (go_at_call 12; refine (csum_any ((xs.take pa).drop a) S _ _ _ _ HLN2.out (by omega) ((HL.out _ (HBB.out _ (by first | assumption | exact Below.drew (Below.refl _ _)))).midI a pa) (HT.out _ (HBB.out _ (by first | assumption | exact Below.drew (Below.refl _ _))))).mono ?_; rintro e w7 ⟨rfl, hb5⟩; have hb8 : Below wb.heap.size wb w7 := Below.next (by first | assumption | exact Below.drew (Below.refl _ _)) hb5; clear hb5; rw [HS2.out]))
      clear HS1 HS2 HLN1 HLN2 t1 t1' t2 t2' t3 t3' t4 s3 s4 b2 b3 b5
      have HB7 := Lib.hid hb8
      clear hb8
      obtain ⟨x0, x1, x2⟩ := HXC.out _ HB7.out
      obtain ⟨q, hq⟩ : ∃ q, pt = q + 1 := ⟨pt - 1, by omega⟩
      have hwq : IntKind.i64.wrap ((pt : Int) - 1) = (q : Int) := by rw [IntWalk.i64_in _ (by omega)]; omega
      have b7 : (pa : Int) ≤ (q : Int) := by omega
      have b8 : (q : Int) ≤ (c : Int) := by omega
      have HQ := Lib.hid hq
      clear hq
      go_upto_block 2 with fail
      have HLM := Lib.hid (fun W (hb : Below wb.heap.size wb W) => (HL.out _ (HBB.out _ hb)).midI pa q)
      have HLQ : Hid (((xs.take q).drop pa).length = q - pa) := Lib.hid (by rw [List.length_drop, List.length_take, ← HN.out]; have := HQ.out; omega)
      have hpq : pa ≤ q := by omega
      go_cut [73] from 73 to 80 (fun _ wx => Hid (Below wb.heap.size wb wx))
      case first =>
        go_wp2_with fail
        go_loopw [73] (fun i wr => ∃ k : Nat, k ≤ q - pa ∧ i = .int .i64 (k : Int) ∧ Hid (Below wb.heap.size wb wr)) (fun i _ => (q - pa) - (intOf i).toNat)
        case atStart => exact ⟨0, Nat.zero_le _, rfl, HB7⟩
        case round =>
          obtain ⟨k, hk, rfl, HBI⟩ := hrel
          by_cases hlk : k < q - pa
          · have hlk1 : (k : Int) < ((q - pa : Nat) : Int) := by omega
            have hlk2 : (k : Int) < (q : Int) - (pa : Int) := by omega
            obtain ⟨x, hx⟩ : ∃ x, ((xs.take q).drop pa)[k]? = some x := ⟨_, List.getElem?_eq_getElem (by rw [HLQ.out]; exact hlk)⟩
            have hx2 : xs[pa + k]? = some x := by
              rw [List.getElem?_drop, List.getElem?_take] at hx
              split at hx
              · exact hx
              · cases hx
            have HEN := Lib.hid (H7.out (pa + k) x (by omega) (by have := HQ.out; omega) hx2)
            obtain ⟨g5, o5, v1, v2, v3, v4, hgo, hop, z0, z1, z2, z3, ⟨A', n', c', rfl⟩, z4⟩ := (HLM.out _ HBI.out).five (Below.refl _ _) hx
            injection hgo with hgo
            injection hgo with hg1 hg2 _
            subst hg1 hg2
            clear hx hx2
            obtain ⟨op, hop'⟩ : ∃ o1, x.op = o1 := ⟨_, rfl⟩
            rw [hop'] at hop z0 HEN
            have HOP := Lib.hid hop
            clear hop hop'
            have HTI := Lib.hid (fun o => HT.out _ (HBB.out _ (HBI.out.alloc HBI.out.size o)))
            have HBJ := Lib.hid (fun o => HBI.out.alloc HBI.out.size o)
            go_wp2_with (go_at_call 9; refine (HE.out op _ HOP.out (HTI.out _)).mono ?_; rintro e w8 ⟨rfl, hb8⟩; rw [HEN.out]; have HB8 := Lib.hid (Below.next (HBJ.out _) hb8); clear hb8)
            go_roundw
            case rel => exact ⟨k + 1, by omega, by go_num, HB8⟩
            case measure => simp [intOf]; omega
          · have hge : decide ((k : Int) < ((q - pa : Nat) : Int)) = false := decide_eq_false (by omega)
            have hge2 : decide (k < q - pa) = false := decide_eq_false hlk
            have hge3 : decide ((k : Int) < (q : Int) - (pa : Int)) = false := decide_eq_false (by omega)
            clear hlk
            go_wp2_with fail
            go_meet
            case rel => exact HBI
      case rest =>
        have HBC := hcut
        clear hcut HB7 x0 x1 x2 HLM HLQ HQ hwq b7 b8 hpq
        obtain ⟨x0, x1, x2⟩ := HXC.out _ HBC.out
        by_cases hl : pa = 0
        · have ea : decide ((0 : Int) < (pa : Int)) = false := decide_eq_false (by omega)
          by_cases hr : pt < n
          · have eb : (pt : Int) < (n : Int) := by omega
            obtain ⟨q2, hq2⟩ : ∃ q2, pt = q2 + 1 := ⟨pt - 1, by omega⟩
            have hw2 : IntKind.i64.wrap ((pt : Int) - 1) = (q2 : Int) := by rw [IntWalk.i64_in _ (by omega)]; omega
            obtain ⟨y2, hy2⟩ : ∃ y, xs[q2]? = some y := ⟨_, List.getElem?_eq_getElem (by rw [← HN.out]; omega)⟩
            have HEB := Lib.hid (H9.out q2 y2 hq2 hr hy2)
            have HFB := Lib.hid (fun W (hb : Below wb.heap.size wb W) => (HL.out _ (HBB.out _ hb)).five (Below.refl _ _) hy2)
            obtain ⟨ob, hob⟩ : ∃ o, y2.op = o := ⟨_, rfl⟩
            rw [hob] at HEB HFB
            have hq2n : (q2 : Int) < (n : Int) := by omega
            clear hy2 hob hq2
            obtain ⟨gb, oo2, _, _, _, _, hgo, hopb, zb, _⟩ := HFB.out _ HBC.out
            injection hgo with hgo
            injection hgo with hg1 hg2 _
            subst hg1 hg2
            have HOPB := Lib.hid hopb
            clear hopb
            go_wp2_with fail
            refine (HE.out ob _ HOPB.out (HT.out _ (HBB.out _ HBC.out))).mono ?_
            rintro e w9 ⟨rfl, hb8⟩
            rw [HEB.out]
            have HB9 : Hid (Below wb.heap.size wb w9) := Lib.hid (Below.next HBC.out hb8)
            clear hb8
            obtain ⟨x6, x7, x8⟩ := HXC.out _ HB9.out
            have HSP : Hid (s + pc = Pa.S xs pt) := Lib.hid (by have h5 := H5.out; have h6 := H6.out; have h7 := HS.out; omega)
            have hspb : s + pc ≤ 20 * n := by
              have h1 := Pa.S_mono xs (show pt ≤ xs.length by rw [← HN.out]; omega)
              have h2 := Co.sum_le xs
              rw [Pa.S_all, ← HSP.out] at h1
              rw [← HN.out] at h2
              omega
            have hws : IntKind.u64.wrap ((s : Int) + (pc : Int)) = ((s + pc : Nat) : Int) := by rw [IntWalk.u64_in _ (by omega)]; omega
            go_upto_region 19 with fail
            go_region_held3 (fun w' => Below w9.heap.size w9 w' ∧ w'.cell? ⟨X, 0, none⟩ = some (.int .i64 (pa : Int)) ∧ w'.cell? ⟨X, 1, none⟩ = some (.int .i64 (pt : Int)) ∧ w'.cell? ⟨X, 2, none⟩ = some (.int .u64 (pc : Int))) (first | exact ⟨Below.drew (Below.refl _ _), HXC.out _ (Below.drew HB9.out)⟩ | exact ⟨by assumption, HXC.out _ (Below.next HB9.out (by assumption))⟩) (fail)
            have HBZ := Lib.hid (Below.next HBA.out (Below.drew HB9.out))
            go_wp2_with fail
            go_roundw
            case rel => exact ⟨j + 1, pt, s + pc, by omega, by go_num, rfl, rfl, HC2, HSP, HBZ⟩
            case measure => simp [intOf]; omega
          · have eb : decide ((pt : Int) < (n : Int)) = false := decide_eq_false (by omega)
            have eb' : decide (pt < n) = false := decide_eq_false hr
            have HSP : Hid (s + pc = Pa.S xs pt) := Lib.hid (by have h5 := H5.out; have h6 := H6.out; have h7 := HS.out; omega)
            have hspb : s + pc ≤ 20 * n := by
              have h1 := Pa.S_mono xs (show pt ≤ xs.length by rw [← HN.out]; omega)
              have h2 := Co.sum_le xs
              rw [Pa.S_all, ← HSP.out] at h1
              rw [← HN.out] at h2
              omega
            have hws : IntKind.u64.wrap ((s : Int) + (pc : Int)) = ((s + pc : Nat) : Int) := by rw [IntWalk.u64_in _ (by omega)]; omega
            go_upto_region 19 with fail
            go_region_held3 (fun w' => Below wc.heap.size wc w' ∧ w'.cell? ⟨X, 0, none⟩ = some (.int .i64 (pa : Int)) ∧ w'.cell? ⟨X, 1, none⟩ = some (.int .i64 (pt : Int)) ∧ w'.cell? ⟨X, 2, none⟩ = some (.int .u64 (pc : Int))) (first | exact ⟨Below.drew (Below.refl _ _), HXC.out _ (Below.drew HBC.out)⟩ | exact ⟨by assumption, HXC.out _ (Below.next HBC.out (by assumption))⟩) (fail)
            have HBZ := Lib.hid (Below.next HBA.out (Below.drew HBC.out))
            go_wp2_with fail
            go_roundw
            case rel => exact ⟨j + 1, pt, s + pc, by omega, by go_num, rfl, rfl, HC2, HSP, HBZ⟩
            case measure => simp [intOf]; omega
        · have ea : (0 : Int) < (pa : Int) := by omega
          obtain ⟨q1, hq1⟩ : ∃ q1, pa = q1 + 1 := ⟨pa - 1, by omega⟩
          have hw1 : IntKind.i64.wrap ((pa : Int) - 1) = (q1 : Int) := by rw [IntWalk.i64_in _ (by omega)]; omega
          obtain ⟨y1, hy1⟩ : ∃ y, xs[q1]? = some y := ⟨_, List.getElem?_eq_getElem (by rw [← HN.out]; omega)⟩
          have HEA := Lib.hid (H8.out q1 y1 hq1 hy1)
          have HFA := Lib.hid (fun W (hb : Below wb.heap.size wb W) => (HL.out _ (HBB.out _ hb)).five (Below.refl _ _) hy1)
          obtain ⟨oa, hoa⟩ : ∃ o, y1.op = o := ⟨_, rfl⟩
          rw [hoa] at HEA HFA
          have hq1n : (q1 : Int) < (n : Int) := by omega
          clear hy1 hoa hq1
          obtain ⟨ga, oo, _, _, _, _, hgo, hopa, za, _⟩ := HFA.out _ HBC.out
          injection hgo with hgo
          injection hgo with hg1 hg2 _
          subst hg1 hg2
          have HOPA := Lib.hid hopa
          clear hopa
          by_cases hr : pt < n
          · have eb : (pt : Int) < (n : Int) := by omega
            obtain ⟨q2, hq2⟩ : ∃ q2, pt = q2 + 1 := ⟨pt - 1, by omega⟩
            have hw2 : IntKind.i64.wrap ((pt : Int) - 1) = (q2 : Int) := by rw [IntWalk.i64_in _ (by omega)]; omega
            obtain ⟨y2, hy2⟩ : ∃ y, xs[q2]? = some y := ⟨_, List.getElem?_eq_getElem (by rw [← HN.out]; omega)⟩
            have HEB := Lib.hid (H9.out q2 y2 hq2 hr hy2)
            have HFB := Lib.hid (fun W (hb : Below wb.heap.size wb W) => (HL.out _ (HBB.out _ hb)).five (Below.refl _ _) hy2)
            obtain ⟨ob, hob⟩ : ∃ o, y2.op = o := ⟨_, rfl⟩
            rw [hob] at HEB HFB
            have hq2n : (q2 : Int) < (n : Int) := by omega
            clear hy2 hob hq2
            go_wp2_with fail
            refine (HE.out oa _ HOPA.out (HT.out _ (HBB.out _ HBC.out))).mono ?_
            rintro e w8 ⟨rfl, hb8⟩
            rw [HEA.out]
            have HB8 : Hid (Below wb.heap.size wb w8) := Lib.hid (Below.next HBC.out hb8)
            clear hb8
            obtain ⟨x3, x4, x5⟩ := HXC.out _ HB8.out
            obtain ⟨gb, oo2, _, _, _, _, hgo, hopb, zb, _⟩ := HFB.out _ HB8.out
            injection hgo with hgo
            injection hgo with hg1 hg2 _
            subst hg1 hg2
            have HOPB := Lib.hid hopb
            clear hopb
            go_wp2_with fail
            refine (HE.out ob _ HOPB.out (HT.out _ (HBB.out _ HB8.out))).mono ?_
            rintro e w9 ⟨rfl, hb8⟩
            rw [HEB.out]
            have HB9 : Hid (Below wb.heap.size wb w9) := Lib.hid (Below.next HB8.out hb8)
            clear hb8
            obtain ⟨x6, x7, x8⟩ := HXC.out _ HB9.out
            have HSP : Hid (s + pc = Pa.S xs pt) := Lib.hid (by have h5 := H5.out; have h6 := H6.out; have h7 := HS.out; omega)
            have hspb : s + pc ≤ 20 * n := by
              have h1 := Pa.S_mono xs (show pt ≤ xs.length by rw [← HN.out]; omega)
              have h2 := Co.sum_le xs
              rw [Pa.S_all, ← HSP.out] at h1
              rw [← HN.out] at h2
              omega
            have hws : IntKind.u64.wrap ((s : Int) + (pc : Int)) = ((s + pc : Nat) : Int) := by rw [IntWalk.u64_in _ (by omega)]; omega
            go_upto_region 19 with fail
            go_region_held3 (fun w' => Below w9.heap.size w9 w' ∧ w'.cell? ⟨X, 0, none⟩ = some (.int .i64 (pa : Int)) ∧ w'.cell? ⟨X, 1, none⟩ = some (.int .i64 (pt : Int)) ∧ w'.cell? ⟨X, 2, none⟩ = some (.int .u64 (pc : Int))) (first | exact ⟨Below.drew (Below.refl _ _), HXC.out _ (Below.drew HB9.out)⟩ | exact ⟨by assumption, HXC.out _ (Below.next HB9.out (by assumption))⟩) (fail)
            have HBZ := Lib.hid (Below.next HBA.out (Below.drew HB9.out))
            go_wp2_with fail
            go_roundw
            case rel => exact ⟨j + 1, pt, s + pc, by omega, by go_num, rfl, rfl, HC2, HSP, HBZ⟩
            case measure => simp [intOf]; omega
          · have eb : decide ((pt : Int) < (n : Int)) = false := decide_eq_false (by omega)
            have eb' : decide (pt < n) = false := decide_eq_false hr
            go_wp2_with fail
            refine (HE.out oa _ HOPA.out (HT.out _ (HBB.out _ HBC.out))).mono ?_
            rintro e w8 ⟨rfl, hb8⟩
            rw [HEA.out]
            have HB8 : Hid (Below wb.heap.size wb w8) := Lib.hid (Below.next HBC.out hb8)
            clear hb8
            obtain ⟨x3, x4, x5⟩ := HXC.out _ HB8.out
            have HSP : Hid (s + pc = Pa.S xs pt) := Lib.hid (by have h5 := H5.out; have h6 := H6.out; have h7 := HS.out; omega)
            have hspb : s + pc ≤ 20 * n := by
              have h1 := Pa.S_mono xs (show pt ≤ xs.length by rw [← HN.out]; omega)
              have h2 := Co.sum_le xs
              rw [Pa.S_all, ← HSP.out] at h1
              rw [← HN.out] at h2
              omega
            have hws : IntKind.u64.wrap ((s : Int) + (pc : Int)) = ((s + pc : Nat) : Int) := by rw [IntWalk.u64_in _ (by omega)]; omega
            go_upto_region 19 with fail
            go_region_held3 (fun w' => Below w8.heap.size w8 w' ∧ w'.cell? ⟨X, 0, none⟩ = some (.int .i64 (pa : Int)) ∧ w'.cell? ⟨X, 1, none⟩ = some (.int .i64 (pt : Int)) ∧ w'.cell? ⟨X, 2, none⟩ = some (.int .u64 (pc : Int))) (first | exact ⟨Below.drew (Below.refl _ _), HXC.out _ (Below.drew HB8.out)⟩ | exact ⟨by assumption, HXC.out _ (Below.next HB8.out (by assumption))⟩) (fail)
            have HBZ := Lib.hid (Below.next HBA.out (Below.drew HB8.out))
            go_wp2_with fail
            go_roundw
            case rel => exact ⟨j + 1, pt, s + pc, by omega, by go_num, rfl, rfl, HC2, HSP, HBZ⟩
            case measure => simp [intOf]; omega
    · have hjm : j = m := by omega
      have hch := HC.out
      rw [hjm, List.drop_of_length_le (by rw [HM.out]; omega)] at hch
      have han : a ≤ n := by rw [HN.out]; exact hch.1
      have HSA : Hid (s = Co.sum xs) := Lib.hid (by rw [HS.out, hch.2, Pa.S_all])
      have HDR : Hid (Co.sum (xs.drop a) = 0) := Lib.hid (by have h1 := Pa.S_behind xs a hch.1; have h2 := hch.2; rw [Pa.S_all] at h2; omega)
      have hge : decide ((j : Int) < (m : Int)) = false := decide_eq_false (by omega)
      have hge2 : decide (j < m) = false := decide_eq_false hlt
      have HBW := Lib.hid (Below.next HB3.out HB.out)
      clear hch hlt hjm
      have b4 : (0 : Int) ≤ (a : Int) := by omega
      have b5 : (a : Int) ≤ (n : Int) := by omega
      have b6 : (a : Int) ≤ (c : Int) := by omega
      have b7 : (n : Int) ≤ (c : Int) := by omega
      have HLD : Hid (n - a = (xs.drop a).length) := Lib.hid (by rw [List.length_drop, ← HN.out])
      go_upto_region 21 with fail
      cases A with
      | none =>
        have hc0 := HA.out rfl
        obtain rfl : n = 0 := by omega
        obtain rfl : a = 0 := by omega
        subst hc0
        go_wp2_with fail
        refine (csum_any [] (fun _ => False) _ 0 _ wr rfl (by omega) (HasL.nil _ _ _) (HT.out _ HBW.out)).mono ?_
        rintro e w5 ⟨rfl, hb5⟩
        rw [show ((Co.sum [] : Nat) : Int) = 0 from rfl]
        have HB5 := Lib.hid (Below.next HBW.out hb5)
        clear hb5
        go_wp2_with fail
        refine (csum_any xs S _ _ _ _ HN.out (by omega) (HL.out _ HB5.out) (HT.out _ HB5.out)).mono ?_
        rintro e w6 ⟨rfl, hb6⟩
        rw [← HSA.out]
        have HB6 := Lib.hid (Below.next HB5.out hb6)
        clear hb6
        go_wp2_with fail
        go_ret
        exact ⟨rfl, HB6.out⟩
      | some ad =>
        by_cases hna : n = a
        · have e4 : n - a = 0 := by omega
          by_cases hca : c = a
          · have e3 : c - a = 0 := by omega
            clear hca hna
            go_wp2_with fail
            refine (csum_any [] (fun _ => False) _ 0 _ wr rfl (by omega) (HasL.nil _ _ _) (HT.out _ HBW.out)).mono ?_
            rintro e w5 ⟨rfl, hb5⟩
            rw [show ((Co.sum [] : Nat) : Int) = 0 from rfl]
            have HB5 := Lib.hid (Below.next HBW.out hb5)
            clear hb5
            go_wp2_with fail
            refine (csum_any xs S _ _ _ _ HN.out (by omega) (HL.out _ HB5.out) (HT.out _ HB5.out)).mono ?_
            rintro e w6 ⟨rfl, hb6⟩
            rw [← HSA.out]
            have HB6 := Lib.hid (Below.next HB5.out hb6)
            clear hb6
            go_wp2_with fail
            go_ret
            exact ⟨rfl, HB6.out⟩
          · have e3 : ¬ c - a = 0 := by omega
            clear hna
            go_wp2_with fail
            refine (csum_any [] (fun _ => False) _ 0 _ wr rfl (by omega) (HasL.nil _ _ _) (HT.out _ HBW.out)).mono ?_
            rintro e w5 ⟨rfl, hb5⟩
            rw [show ((Co.sum [] : Nat) : Int) = 0 from rfl]
            have HB5 := Lib.hid (Below.next HBW.out hb5)
            clear hb5
            go_wp2_with fail
            refine (csum_any xs S _ _ _ _ HN.out (by omega) (HL.out _ HB5.out) (HT.out _ HB5.out)).mono ?_
            rintro e w6 ⟨rfl, hb6⟩
            rw [← HSA.out]
            have HB6 := Lib.hid (Below.next HB5.out hb6)
            clear hb6
            go_wp2_with fail
            go_ret
            exact ⟨rfl, HB6.out⟩
        · obtain ⟨x0, hx0⟩ : ∃ x, xs[a]? = some x := ⟨_, List.getElem?_eq_getElem (by rw [← HN.out]; omega)⟩
          obtain ⟨g, o, _, _, _, _, hgo, _⟩ := (HL.out _ (Below.refl _ _)).five (Below.refl _ _) hx0
          injection hgo with hgo
          subst hgo
          clear hx0
          have hca : ¬ c = a := by omega
          have e3 : ¬ c - a = 0 := by omega
          go_wp2_with fail
          refine (csum_any (xs.drop a) S _ _ _ _ HLD.out (by omega) ((HL.out _ HBW.out).fromI a) (HT.out _ HBW.out)).mono ?_
          rintro e w5 ⟨rfl, hb5⟩
          rw [HDR.out]
          have HB5 := Lib.hid (Below.next HBW.out hb5)
          clear hb5
          go_wp2_with fail
          refine (csum_any xs S _ _ _ _ HN.out (by omega) (HL.out _ HB5.out) (HT.out _ HB5.out)).mono ?_
          rintro e w6 ⟨rfl, hb6⟩
          rw [← HSA.out]
          have HB6 := Lib.hid (Below.next HB5.out hb6)
          clear hb6
          go_wp2_with fail
          go_ret
          exact ⟨rfl, HB6.out⟩
end Go.Proofs.YtknnkmakfcfnjaaDoor
