/-
  The statement CostRound, walked. (gen/cost/round.py)
-/
import Derived.Test.YtkclnilaldhhnaaDoorCoKnown
import Derived.Deep.CutBlock
namespace Go.Proofs.YtkclnilaldhhnaaDoor
open Go.RowKit Ins
/-- l, then m laid behind nothing. -/
theorem both_app (w wc : World) (hb : Below w.heap.size w wc) (xs ys : List I) (A1 A2 : Option Addr) (n1 c1 n2 c2 : Nat) (hn1 : n1 = xs.length) (hn2 : n2 = ys.length) (h1 : n1 ≤ 2000) (h2 : n2 ≤ 2000) (hL1 : HasL w (· < w.heap.size) A1 xs) (hL2 : HasL w (· < w.heap.size) A2 ys) :
    ∃ v1 w1 A3 n3 c3 w2, (Builtin.append_ #[26, 26] 26 #[.slice (some ⟨wc.heap.size, 0, none⟩) 0 0, .slice A1 n1 c1]).run Tryd.prog (wc.alloc (.cells #[] 25)) = .ok v1 w1 ∧
      (Builtin.append_ #[26, 26] 26 #[v1, .slice A2 n2 c2]).run Tryd.prog w1 = .ok (.slice A3 n3 c3) w2 ∧ n3 = (xs ++ ys).length ∧ HasL w2 (0 ≤ ·) A3 (xs ++ ys) ∧ Below w.heap.size w w2 := by
  have hba : Below w.heap.size w (wc.alloc (.cells #[] 25)) := hb.alloc hb.size _
  have hO : OwnL 25 (wc.alloc (.cells #[] 25)) w.heap.size (· < w.heap.size) (.slice (some ⟨wc.heap.size, 0, none⟩) 0 0) ([] : List I) := OwnL.lit0 _ _ _ _ hb.size
  obtain ⟨v1, w1, hr1, hO1, hM1, hT1⟩ := appendL undIn infIn (by decide) rfl (by decide) _ w.heap.size (· < w.heap.size) _ ([] : List I) xs A1 n1 c1 hO (hL1.on hba) hn1 (by simp; omega) hba.size (fun g _ hg e => by simp [Value.ownBlock] at e; have := hb.size; omega)
  have hv1 : ∀ g, v1.ownBlock = some g → w.heap.size ≤ g := fun g hg => (OwnL.lt hO1 g hg).1
  have hb1 : Below w.heap.size w w1 := hba.trans (hM1.below hba.size (fun k hk e => by simp [Value.ownBlock] at e; have := hb.size; omega))
  obtain ⟨v2, w2, hr2, hO2, hM2, hT2⟩ := appendL undIn infIn (by decide) rfl (by decide) w1 w.heap.size (fun g => g < w.heap.size ∧ v1.ownBlock ≠ some g) v1 ([] ++ xs) ys A2 n2 c2 hO1 ((hL2.on hb1).more (fun k _ hk => ⟨hk, fun e => by have := hv1 k e; omega⟩)) hn2 (by simp; omega) hb1.size (fun g _ hg => hg.2)
  have hb2 : Below w.heap.size w w2 := hb1.trans (hM2.below hb1.size (fun k hk e => by have := hv1 k e; omega))
  obtain ⟨zs, z0, z1, z2⟩ := hO2
  have hO3 : OwnL 25 w2 0 (fun g => (g < w.heap.size ∧ v1.ownBlock ≠ some g) ∧ v2.ownBlock ≠ some g) v2 ([] ++ xs ++ ys) := ⟨zs, z0, own_base z1 (Nat.zero_le _), z2⟩
  obtain ⟨A3, c3, rfl, _, _, _, hL3⟩ := hO3.tell (fun g _ => Nat.zero_le _)
  exact ⟨v1, w1, A3, _, c3, w2, hr1, hr2, by simp, by simpa using hL3, hb2⟩
set_option maxRecDepth 100000 in
set_option maxHeartbeats 4000000 in
theorem costRound_any (op : Nat) (a b : Int) (xs ys : List I) (A1 A2 : Option Addr) (n1 c1 n2 c2 : Nat) (w : World) (hop : op < 256) (ha : 0 ≤ a ∧ a ≤ 4294967295) (hn1 : n1 = xs.length) (hn2 : n2 = ys.length) (hs1 : n1 ≤ 140737488355328) (hs2 : n2 ≤ 140737488355328) (hL1 : HasL w (· < w.heap.size) A1 xs) (hL2 : HasL w (· < w.heap.size) A2 ys) (hT : TbC w) :
    Calls Tryd.prog 4 #[.int .u8 (op : Int), .int .u32 a, .int .u32 b, .slice A1 n1 c1, .slice A2 n2 c2] w fun e w' => e = .returned (.bool true) ∧ Below w.heap.size w w' := by
  have HL1 := Lib.hid hL1
  have HL2 := Lib.hid hL2
  have HT := Lib.hid hT
  have HN1 := Lib.hid hn1
  have HN2 := Lib.hid hn2
  have HOP := Lib.hid hop
  clear hL1 hL2 hT hn1 hn2
  obtain ⟨q, hq⟩ : ∃ q, Co.of op = q := ⟨_, rfl⟩
  have HM : Hid (Co.must op = true) := Lib.hid (Co.must_all ⟨op, hop⟩)
  have hq20 : q ≤ 20 := by rw [← hq]; exact Co.of_le op
  have HQ := Lib.hid hq
  clear hq hop
  have e20 : decide ((20 : Int) < (q : Int)) = false := decide_eq_false (by omega)
  have e20' : decide (20 < q) = false := decide_eq_false (by omega)
  have hwa : IntKind.i64.wrap a = a := IntWalk.i64_in _ (by omega)
  go_enter Tryd.func4, Tryd.ntmps4
  go_upto_region 4 with (first | (go_at_call 5; refine (known13 _ HT.out).mono ?_; rintro e w2 ⟨rfl, hb2⟩; have HB2 := Lib.hid hb2; clear hb2) | (go_at_call 7; refine (cof_any op _ _ _ _ _ HOP.out (HT.out.on HB2.out)).mono ?_; rintro e w3 ⟨rfl, hb3⟩; have HB3 := Lib.hid (Below.next HB2.out hb3); clear hb3; rw [HQ.out]))
  have HBA := Lib.hid (HB3.out.alloc HB3.out.size (.cells #[.int .u32 b] 22))
  go_upto_block 0 with (go_at_call 7; refine (cof_any op _ _ _ _ _ HOP.out (HT.out.on HBA.out)).mono ?_; rintro e w4 ⟨rfl, hb4⟩; have HB4 := Lib.hid (Below.next HBA.out hb4); clear hb4; rw [HQ.out])
  clear HB2 HB3 HBA
  have hwf := Lib.hid hwa
  clear hwa
  go_cut [32] from 32 to 53 (fun _ wx => Hid (Below w.heap.size w wx))
  case first =>
    by_cases h12 : op = 12
    · have eq0 : ((q : Int) == 0) = false := by
        have h := HQ.out
        rw [h12] at h
        have h2 : q = Co.of 12 := h.symm
        rw [beq_eq_false_iff_ne, h2]
        decide +kernel
      have e12 : ((op : Int) == 12) = true := by rw [beq_iff_eq]; omega
      clear h12
      go_wp2_with fail
      go_meet
      case rel => exact HB4
    have e12 : ((op : Int) == 12) = false := by rw [beq_eq_false_iff_ne]; omega
    by_cases h13 : op = 13
    · have eq0 : ((q : Int) == 0) = false := by
        have h := HQ.out
        rw [h13] at h
        have h2 : q = Co.of 13 := h.symm
        rw [beq_eq_false_iff_ne, h2]
        decide +kernel
      have e13 : ((op : Int) == 13) = true := by rw [beq_iff_eq]; omega
      clear h13
      go_wp2_with fail
      go_meet
      case rel => exact HB4
    have e13 : ((op : Int) == 13) = false := by rw [beq_eq_false_iff_ne]; omega
    by_cases h14 : op = 14
    · have eq0 : ((q : Int) == 0) = false := by
        have h := HQ.out
        rw [h14] at h
        have h2 : q = Co.of 14 := h.symm
        rw [beq_eq_false_iff_ne, h2]
        decide +kernel
      have e14 : ((op : Int) == 14) = true := by rw [beq_iff_eq]; omega
      clear h14
      go_wp2_with fail
      go_meet
      case rel => exact HB4
    have e14 : ((op : Int) == 14) = false := by rw [beq_eq_false_iff_ne]; omega
    by_cases h16 : op = 16
    · have eq0 : ((q : Int) == 0) = false := by
        have h := HQ.out
        rw [h16] at h
        have h2 : q = Co.of 16 := h.symm
        rw [beq_eq_false_iff_ne, h2]
        decide +kernel
      have e16 : ((op : Int) == 16) = true := by rw [beq_iff_eq]; omega
      clear h16
      go_wp2_with fail
      go_meet
      case rel => exact HB4
    have e16 : ((op : Int) == 16) = false := by rw [beq_eq_false_iff_ne]; omega
    by_cases h17 : op = 17
    · have eq0 : ((q : Int) == 0) = false := by
        have h := HQ.out
        rw [h17] at h
        have h2 : q = Co.of 17 := h.symm
        rw [beq_eq_false_iff_ne, h2]
        decide +kernel
      have e17 : ((op : Int) == 17) = true := by rw [beq_iff_eq]; omega
      clear h17
      go_wp2_with fail
      go_meet
      case rel => exact HB4
    have e17 : ((op : Int) == 17) = false := by rw [beq_eq_false_iff_ne]; omega
    by_cases h15 : op = 15
    · have eq0 : ((q : Int) == 0) = false := by
        have h := HQ.out
        rw [h15] at h
        have h2 : q = Co.of 15 := h.symm
        rw [beq_eq_false_iff_ne, h2]
        decide +kernel
      have e15 : ((op : Int) == 15) = true := by rw [beq_iff_eq]; omega
      clear h15
      go_wp2_with fail
      go_meet
      case rel => exact HB4
    have e15 : ((op : Int) == 15) = false := by rw [beq_eq_false_iff_ne]; omega
    by_cases h2 : op = 2
    · have eq0 : ((q : Int) != 0) = false := by
        have h := HQ.out
        rw [h2] at h
        have h2 : q = Co.of 2 := h.symm
        rw [h2]
        decide +kernel
      have e2 : ((op : Int) == 2) = true := by rw [beq_iff_eq]; omega
      clear h2
      go_wp2_with fail
      go_meet
      case rel => exact HB4
    have e2 : ((op : Int) == 2) = false := by rw [beq_eq_false_iff_ne]; omega
    by_cases h3 : op = 3
    · have eq0 : ((q : Int) != 0) = false := by
        have h := HQ.out
        rw [h3] at h
        have h2 : q = Co.of 3 := h.symm
        rw [h2]
        decide +kernel
      have e3 : ((op : Int) == 3) = true := by rw [beq_iff_eq]; omega
      clear h3
      go_wp2_with fail
      go_meet
      case rel => exact HB4
    have e3 : ((op : Int) == 3) = false := by rw [beq_eq_false_iff_ne]; omega
    by_cases h5 : op = 5
    · have eq0 : ((q : Int) != 0) = false := by
        have h := HQ.out
        rw [h5] at h
        have h2 : q = Co.of 5 := h.symm
        rw [h2]
        decide +kernel
      have e5 : ((op : Int) == 5) = true := by rw [beq_iff_eq]; omega
      clear h5
      go_wp2_with fail
      go_meet
      case rel => exact HB4
    have e5 : ((op : Int) == 5) = false := by rw [beq_eq_false_iff_ne]; omega
    by_cases h11 : op = 11
    · have eq0 : ((q : Int) != 0) = false := by
        have h := HQ.out
        rw [h11] at h
        have h2 : q = Co.of 11 := h.symm
        rw [h2]
        decide +kernel
      have e11 : ((op : Int) == 11) = true := by rw [beq_iff_eq]; omega
      clear h11
      go_wp2_with fail
      go_meet
      case rel => exact HB4
    have e11 : ((op : Int) == 11) = false := by rw [beq_eq_false_iff_ne]; omega
    have hm := HM.out
    unfold Co.must at hm
    rw [if_neg (by rintro (h | h | h | h | h | h) <;> contradiction), if_neg (by rintro (h | h | h | h) <;> contradiction)] at hm
    have hm2 : decide (0 < Co.of op) = Opc.known (op : Int) := by simpa using hm
    rw [HQ.out] at hm2
    clear hm h12 h13 h14 h16 h17 h15 h2 h3 h5 h11
    cases hk : Opc.known (op : Int)
    · have HK := Lib.hid hk
      have z : q = 0 := by rw [hk] at hm2; simpa using hm2
      have eq0 : decide ((0 : Int) < (q : Int)) = false := decide_eq_false (by omega)
      have eq1 : decide (0 < q) = false := decide_eq_false (by omega)
      clear hk hm2 z
      go_wp2_with (go_at_call 9; refine (known_any _ _).mono ?_; rintro e w' ⟨rfl, rfl⟩; rw [HK.out])
      go_meet
      case rel => exact HB4
    · have HK := Lib.hid hk
      have z : 0 < q := by rw [hk] at hm2; simpa using hm2
      have eq0 : (0 : Int) < (q : Int) := by omega
      clear hk hm2
      go_wp2_with (go_at_call 9; refine (known_any _ _).mono ?_; rintro e w' ⟨rfl, rfl⟩; rw [HK.out])
      go_meet
      case rel => exact HB4
  case rest =>
    clear HB4
    have HB5 := hcut
    clear hcut
    by_cases h1 : 2000 < n1
    · have e1 : (2000 : Int) < (n1 : Int) := by omega
      go_wp2_with fail
      go_ret
      exact ⟨rfl, HB5.out⟩
    have e1 : decide ((2000 : Int) < (n1 : Int)) = false := decide_eq_false (by omega)
    have e1' : decide (2000 < n1) = false := decide_eq_false h1
    by_cases h2 : 2000 < n2
    · have e2 : (2000 : Int) < (n2 : Int) := by omega
      go_wp2_with fail
      go_ret
      exact ⟨rfl, HB5.out⟩
    have e2 : decide ((2000 : Int) < (n2 : Int)) = false := decide_eq_false (by omega)
    have e2' : decide (2000 < n2) = false := decide_eq_false h2
    obtain ⟨v1, w1, A3, n3, c3, w2, hr1, hr2, hn3, hL3, hb2⟩ := both_app w _ HB5.out xs ys A1 A2 n1 c1 n2 c2 HN1.out HN2.out (by omega) (by omega) HL1.out HL2.out
    have HR1 := Lib.hid hr1
    have HR2 := Lib.hid hr2
    have HN3 := Lib.hid hn3
    have HL3 := Lib.hid hL3
    have HB6 := Lib.hid hb2
    have hn3b : n3 ≤ 4000 := by rw [hn3, List.length_append, ← HN1.out, ← HN2.out]; omega
    clear hr1 hr2 hn3 hL3 hb2
    obtain ⟨s1, hs1⟩ : ∃ s, Co.sum xs = s := ⟨_, rfl⟩
    obtain ⟨s2, hs2⟩ : ∃ s, Co.sum ys = s := ⟨_, rfl⟩
    have hl1 : s1 ≤ 40000 := by have := Co.sum_le xs; rw [hs1, ← HN1.out] at this; omega
    have hl2 : s2 ≤ 40000 := by have := Co.sum_le ys; rw [hs2, ← HN2.out] at this; omega
    have HS3 : Hid (Co.sum (xs ++ ys) = s1 + s2) := Lib.hid (by rw [Co.sum_append, hs1, hs2])
    have HS1 := Lib.hid hs1
    have HS2 := Lib.hid hs2
    clear hs1 hs2
    have hw : IntKind.u64.wrap ((s1 : Int) + (s2 : Int)) = ((s1 + s2 : Nat) : Int) := by rw [IntWalk.u64_in _ (by omega)]; omega
    have tok1 : True := trivial
    have tok2 : True := trivial
    go_wp2_with (first | (at_builtin; refine wpList_appends rfl (.tmp 62) (.tmp 63) 26 rfl _ _ _ w1 rfl rfl HR1.out ?_) | (at_builtin; refine wpList_appends rfl (.tmp 64) (.tmp 65) 26 rfl _ _ _ w2 rfl rfl HR2.out ?_) | (go_at_call 8; clear tok1; refine (csum_any (xs ++ ys) (0 ≤ ·) A3 n3 c3 w2 HN3.out (by omega) HL3.out (HT.out.on HB6.out)).mono ?_; rintro e w5 ⟨rfl, hb5⟩; have HB7 := Lib.hid (Below.next HB6.out hb5); clear hb5; rw [HS3.out]) | (go_at_call 8; clear tok2; refine (csum_any xs (· < w.heap.size) A1 n1 c1 _ HN1.out (by omega) (HL1.out.on HB7.out) (HT.out.on HB7.out)).mono ?_; rintro e w6 ⟨rfl, hb5⟩; have HB8 := Lib.hid (Below.next HB7.out hb5); clear hb5; rw [HS1.out]) | (go_at_call 8; refine (csum_any ys (· < w.heap.size) A2 n2 c2 _ HN2.out (by omega) (HL2.out.on HB8.out) (HT.out.on HB8.out)).mono ?_; rintro e w7 ⟨rfl, hb5⟩; have HB9 := Lib.hid (Below.next HB8.out hb5); clear hb5; rw [HS2.out]))
    go_ret
    exact ⟨rfl, HB9.out⟩
end Go.Proofs.YtkclnilaldhhnaaDoor
