/-
  Layer 13's program: what an instruction costs; the document's answer.
-/
import Derived.Test.YtknnkmakfcfnjaaDoorCoTab
import Derived.Test.YtknnkmakfcfnjaaDoorOpcPure
import Derived.Test.YtknnkmakfcfnjaaDoorInsMem
import Derived.Deep.RegionHeld3
namespace Go.Proofs.YtknnkmakfcfnjaaDoor
open Go.RowKit Ins
set_option maxRecDepth 100000 in
set_option maxHeartbeats 4000000 in
theorem cof_any (op : Nat) (v1 v2 v3 v4 : Value) (w : World) (hop : op < 256) (hT : TbC w) :
    Calls Tryd.prog 17 #[.agg #[.int .u8 (op : Int), v1, v2, v3, v4]] w fun e w' => e = .returned (.int .u64 (Co.of op : Int)) ∧ Below w.heap.size w w' := by
  have HX := Lib.hid (heap_alloc_new w (.cells #[.int .u8 (op : Int), v1, v2, v3, v4] 41))
  have HB := Lib.hid ((Below.refl w.heap.size w).alloc (Nat.le_refl _) (.cells #[.int .u8 (op : Int), v1, v2, v3, v4] 41))
  have HT := Lib.hid (hT.on HB.out)
  clear hT
  have HOP := Lib.hid hop
  clear hop
  cases hk : Opc.known (op : Int)
  · have hr : Co.of op = 0 := by unfold Co.of; rw [if_pos hk]
    rw [hr]
    have HK := Lib.hid hk
    clear hr hk
    go_enter Tryd.func17, Tryd.ntmps17
    go_wp2_with (go_at_call 20; refine (known_any _ _).mono ?_; rintro e w' ⟨rfl, rfl⟩; rw [HK.out])
    go_ret
    exact ⟨rfl, HB.out⟩
  have HK := Lib.hid hk
  by_cases h17 : op ≤ 17
  · have hr : Co.of op = Co.ctl.getD op 0 := by unfold Co.of; rw [if_neg (by rw [hk]; decide), if_pos h17]
    rw [hr]
    have hc := HT.out.ctl op (by omega)
    have h17' : (op : Int) ≤ 17 := by omega
    generalize ((Co.ctl.getD op 0 : Nat) : Int) = z at hc ⊢
    clear hr hk h17
    go_enter Tryd.func17, Tryd.ntmps17
    go_wp2_with (go_at_call 20; refine (known_any _ _).mono ?_; rintro e w' ⟨rfl, rfl⟩; rw [HK.out])
    go_ret
    exact ⟨rfl, HB.out⟩
  have n17 : decide ((op : Int) ≤ 17) = false := decide_eq_false (by omega)
  obtain ⟨W, hW⟩ : ∃ W, Opc.width (op : Int) = W := ⟨_, rfl⟩
  have HW := Lib.hid hW
  by_cases h0 : 0 < W
  · have hr : Co.of op = 3 := by unfold Co.of; rw [if_neg (by rw [hk]; decide), if_neg h17, if_pos (by rw [hW]; exact h0)]
    rw [hr]
    clear hr hk h17 hW
    go_enter Tryd.func17, Tryd.ntmps17
    go_wp2_with (first | (go_at_call 20; refine (known_any _ _).mono ?_; rintro e w' ⟨rfl, rfl⟩; rw [HK.out]) | (go_at_call 21; refine (width_any _ _).mono ?_; rintro e w' ⟨rfl, rfl⟩; rw [HW.out]))
    go_ret
    exact ⟨rfl, HB.out⟩
  have n0 : decide (0 < W) = false := decide_eq_false h0
  by_cases h64 : op = 64
  · have hr : Co.of op = 20 := by unfold Co.of; rw [if_neg (by rw [hk]; decide), if_neg h17, if_neg (by rw [hW]; exact h0), if_pos h64]
    rw [hr]
    have e64 : ((op : Int) == 64) = true := by rw [beq_iff_eq]; omega
    clear hr hk h17 hW h64
    go_enter Tryd.func17, Tryd.ntmps17
    go_wp2_with (first | (go_at_call 20; refine (known_any _ _).mono ?_; rintro e w' ⟨rfl, rfl⟩; rw [HK.out]) | (go_at_call 21; refine (width_any _ _).mono ?_; rintro e w' ⟨rfl, rfl⟩; rw [HW.out]))
    go_ret
    exact ⟨rfl, HB.out⟩
  have n64 : ((op : Int) == 64) = false := by rw [beq_eq_false_iff_ne]; omega
  by_cases h108 : 108 ≤ op ∧ op ≤ 112
  · obtain ⟨ha, hb⟩ := h108
    obtain ⟨d, rfl⟩ : ∃ d, op = 108 + d := ⟨op - 108, by omega⟩
    have hr : Co.of (108 + d) = Co.mul.getD d 0 := by
      unfold Co.of
      rw [if_neg (by rw [hk]; decide), if_neg h17, if_neg (by rw [hW]; exact h0), if_neg h64, if_pos ⟨ha, hb⟩, Nat.add_sub_cancel_left]
    rw [hr]
    have hc := HT.out.mul d (by omega)
    have e1 : (108 : Int) ≤ ((108 + d : Nat) : Int) := by omega
    have e2 : ((108 + d : Nat) : Int) ≤ 112 := by omega
    have hs : IntKind.u8.wrap (((108 + d : Nat) : Int) - 108) = (d : Int) := by rw [IntWalk.u8_in _ (by omega)]; omega
    generalize ((Co.mul.getD d 0 : Nat) : Int) = z at hc ⊢
    have hd : d < 5 := by omega
    generalize ((108 + d : Nat) : Int) = q at *
    clear hr hk h17 hW h64 ha hb
    go_enter Tryd.func17, Tryd.ntmps17
    go_wp2_with (first | (go_at_call 20; refine (known_any _ _).mono ?_; rintro e w' ⟨rfl, rfl⟩; rw [HK.out]) | (go_at_call 21; refine (width_any _ _).mono ?_; rintro e w' ⟨rfl, rfl⟩; rw [HW.out]))
    go_ret
    exact ⟨rfl, HB.out⟩
  have m108 : (decide (108 ≤ op) && decide (op ≤ 112)) = false := by
    by_cases h1 : 108 ≤ op
    · rw [decide_eq_false (show ¬ op ≤ 112 by omega), Bool.and_false]
    · rw [decide_eq_false h1, Bool.false_and]
  by_cases h126 : 126 ≤ op ∧ op ≤ 130
  · obtain ⟨ha, hb⟩ := h126
    obtain ⟨d, rfl⟩ : ∃ d, op = 126 + d := ⟨op - 126, by omega⟩
    have hr : Co.of (126 + d) = Co.mul.getD d 0 := by
      unfold Co.of
      rw [if_neg (by rw [hk]; decide), if_neg h17, if_neg (by rw [hW]; exact h0), if_neg h64, if_neg h108, if_pos ⟨ha, hb⟩, Nat.add_sub_cancel_left]
    rw [hr]
    have hc := HT.out.mul d (by omega)
    have e1 : (126 : Int) ≤ ((126 + d : Nat) : Int) := by omega
    have e2 : ((126 + d : Nat) : Int) ≤ 130 := by omega
    have e3 : decide (((126 + d : Nat) : Int) ≤ 112) = false := decide_eq_false (by omega)
    have e4 : (108 : Int) ≤ ((126 + d : Nat) : Int) := by omega
    clear m108 h108
    have hs : IntKind.u8.wrap (((126 + d : Nat) : Int) - 126) = (d : Int) := by rw [IntWalk.u8_in _ (by omega)]; omega
    generalize ((Co.mul.getD d 0 : Nat) : Int) = z at hc ⊢
    have hd : d < 5 := by omega
    generalize ((126 + d : Nat) : Int) = q at *
    clear hr hk h17 hW h64 ha hb
    go_enter Tryd.func17, Tryd.ntmps17
    go_wp2_with (first | (go_at_call 20; refine (known_any _ _).mono ?_; rintro e w' ⟨rfl, rfl⟩; rw [HK.out]) | (go_at_call 21; refine (width_any _ _).mono ?_; rintro e w' ⟨rfl, rfl⟩; rw [HW.out]))
    go_ret
    exact ⟨rfl, HB.out⟩
  have hr : Co.of op = 1 := by
    unfold Co.of
    rw [if_neg (by rw [hk]; decide), if_neg h17, if_neg (by rw [hW]; exact h0), if_neg h64, if_neg h108, if_neg h126]
  rw [hr]
  clear hr hk h17 hW h64 m108
  by_cases q1 : op < 108
  · have e1 : decide ((108 : Int) ≤ (op : Int)) = false := decide_eq_false (by omega)
    have e2 : decide ((126 : Int) ≤ (op : Int)) = false := decide_eq_false (by omega)
    clear h108 h126
    go_enter Tryd.func17, Tryd.ntmps17
    go_wp2_with (first | (go_at_call 20; refine (known_any _ _).mono ?_; rintro e w' ⟨rfl, rfl⟩; rw [HK.out]) | (go_at_call 21; refine (width_any _ _).mono ?_; rintro e w' ⟨rfl, rfl⟩; rw [HW.out]))
    go_ret
    exact ⟨rfl, HB.out⟩
  have a1 : (108 : Int) ≤ (op : Int) := by omega
  have e2 : decide ((op : Int) ≤ 112) = false := decide_eq_false (by omega)
  by_cases q2 : op < 126
  · have e1 : decide ((126 : Int) ≤ (op : Int)) = false := decide_eq_false (by omega)
    clear h108 h126
    go_enter Tryd.func17, Tryd.ntmps17
    go_wp2_with (first | (go_at_call 20; refine (known_any _ _).mono ?_; rintro e w' ⟨rfl, rfl⟩; rw [HK.out]) | (go_at_call 21; refine (width_any _ _).mono ?_; rintro e w' ⟨rfl, rfl⟩; rw [HW.out]))
    go_ret
    exact ⟨rfl, HB.out⟩
  · have a2 : (126 : Int) ≤ (op : Int) := by omega
    have e3 : decide ((op : Int) ≤ 130) = false := decide_eq_false (by omega)
    clear h108 h126
    go_enter Tryd.func17, Tryd.ntmps17
    go_wp2_with (first | (go_at_call 20; refine (known_any _ _).mono ?_; rintro e w' ⟨rfl, rfl⟩; rw [HK.out]) | (go_at_call 21; refine (width_any _ _).mono ?_; rintro e w' ⟨rfl, rfl⟩; rw [HW.out]))
    go_ret
    exact ⟨rfl, HB.out⟩
end Go.Proofs.YtknnkmakfcfnjaaDoor
