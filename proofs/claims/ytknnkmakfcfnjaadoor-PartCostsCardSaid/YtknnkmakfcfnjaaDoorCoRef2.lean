/-
  Layer 13: the document's cost of an instruction. (gen/cost/ref.py)
-/
import Derived.Test.YtknnkmakfcfnjaaDoorCoRef
import Derived.Deep.CutRange
import Derived.Deep.CutBlock
namespace Go.Proofs.YtknnkmakfcfnjaaDoor
open Go.RowKit
set_option maxRecDepth 100000 in
set_option maxHeartbeats 4000000 in
theorem cref_any (op : Nat) (v1 v2 v3 v4 : Value) (w : World) (hop : op < 256) :
    Calls Tryd.prog 15 #[.agg #[.int .u8 (op : Int), v1, v2, v3, v4]] w fun e w' => e = .returned (.int .u64 (Co.of op : Int)) ∧ Below w.heap.size w w' := by
  rw [Co.of_eq hop]
  cases hs : Co.sw op
  case none => exact cref_rest op v1 v2 v3 v4 w hs
  have HX := Lib.hid (heap_alloc_new w (.cells #[.int .u8 (op : Int), v1, v2, v3, v4] 41))
  have HB := Lib.hid ((Below.refl w.heap.size w).alloc (Nat.le_refl _) (.cells #[.int .u8 (op : Int), v1, v2, v3, v4] 41))
  have HS := Lib.hid hs
  clear hs
  by_cases h2 : op = 2
  · have hr : Co.ref op = 0 := by rw [h2]; rfl
    have e2 : ((op : Int) == 2) = true := by rw [beq_iff_eq]; omega
    rw [hr]
    clear hr h2 HS
    go_enter Tryd.func15, Tryd.ntmps15
    go_wp2
    go_ret
    exact ⟨rfl, HB.out⟩
  have e2 : ((op : Int) == 2) = false := by rw [beq_eq_false_iff_ne]; omega
  by_cases h3 : op = 3
  · have hr : Co.ref op = 0 := by rw [h3]; rfl
    have e3 : ((op : Int) == 3) = true := by rw [beq_iff_eq]; omega
    rw [hr]
    clear hr h3 HS
    go_enter Tryd.func15, Tryd.ntmps15
    go_wp2
    go_ret
    exact ⟨rfl, HB.out⟩
  have e3 : ((op : Int) == 3) = false := by rw [beq_eq_false_iff_ne]; omega
  by_cases h5 : op = 5
  · have hr : Co.ref op = 0 := by rw [h5]; rfl
    have e5 : ((op : Int) == 5) = true := by rw [beq_iff_eq]; omega
    rw [hr]
    clear hr h5 HS
    go_enter Tryd.func15, Tryd.ntmps15
    go_wp2
    go_ret
    exact ⟨rfl, HB.out⟩
  have e5 : ((op : Int) == 5) = false := by rw [beq_eq_false_iff_ne]; omega
  by_cases h11 : op = 11
  · have hr : Co.ref op = 0 := by rw [h11]; rfl
    have e11 : ((op : Int) == 11) = true := by rw [beq_iff_eq]; omega
    rw [hr]
    clear hr h11 HS
    go_enter Tryd.func15, Tryd.ntmps15
    go_wp2
    go_ret
    exact ⟨rfl, HB.out⟩
  have e11 : ((op : Int) == 11) = false := by rw [beq_eq_false_iff_ne]; omega
  by_cases h4 : op = 4
  · have hr : Co.ref op = 2 := by rw [h4]; rfl
    have e4 : ((op : Int) == 4) = true := by rw [beq_iff_eq]; omega
    rw [hr]
    clear hr h4 HS
    go_enter Tryd.func15, Tryd.ntmps15
    go_wp2
    go_ret
    exact ⟨rfl, HB.out⟩
  have e4 : ((op : Int) == 4) = false := by rw [beq_eq_false_iff_ne]; omega
  by_cases h12 : op = 12
  · have hr : Co.ref op = 2 := by rw [h12]; rfl
    have e12 : ((op : Int) == 12) = true := by rw [beq_iff_eq]; omega
    rw [hr]
    clear hr h12 HS
    go_enter Tryd.func15, Tryd.ntmps15
    go_wp2
    go_ret
    exact ⟨rfl, HB.out⟩
  have e12 : ((op : Int) == 12) = false := by rw [beq_eq_false_iff_ne]; omega
  by_cases h13 : op = 13
  · have hr : Co.ref op = 2 := by rw [h13]; rfl
    have e13 : ((op : Int) == 13) = true := by rw [beq_iff_eq]; omega
    rw [hr]
    clear hr h13 HS
    go_enter Tryd.func15, Tryd.ntmps15
    go_wp2
    go_ret
    exact ⟨rfl, HB.out⟩
  have e13 : ((op : Int) == 13) = false := by rw [beq_eq_false_iff_ne]; omega
  by_cases h15 : op = 15
  · have hr : Co.ref op = 2 := by rw [h15]; rfl
    have e15 : ((op : Int) == 15) = true := by rw [beq_iff_eq]; omega
    rw [hr]
    clear hr h15 HS
    go_enter Tryd.func15, Tryd.ntmps15
    go_wp2
    go_ret
    exact ⟨rfl, HB.out⟩
  have e15 : ((op : Int) == 15) = false := by rw [beq_eq_false_iff_ne]; omega
  by_cases h108 : op = 108
  · have hr : Co.ref op = 2 := by rw [h108]; rfl
    have e108 : ((op : Int) == 108) = true := by rw [beq_iff_eq]; omega
    rw [hr]
    clear hr h108 HS
    go_enter Tryd.func15, Tryd.ntmps15
    go_wp2
    go_ret
    exact ⟨rfl, HB.out⟩
  have e108 : ((op : Int) == 108) = false := by rw [beq_eq_false_iff_ne]; omega
  by_cases h126 : op = 126
  · have hr : Co.ref op = 2 := by rw [h126]; rfl
    have e126 : ((op : Int) == 126) = true := by rw [beq_iff_eq]; omega
    rw [hr]
    clear hr h126 HS
    go_enter Tryd.func15, Tryd.ntmps15
    go_wp2
    go_ret
    exact ⟨rfl, HB.out⟩
  have e126 : ((op : Int) == 126) = false := by rw [beq_eq_false_iff_ne]; omega
  by_cases h14 : op = 14
  · have hr : Co.ref op = 3 := by rw [h14]; rfl
    have e14 : ((op : Int) == 14) = true := by rw [beq_iff_eq]; omega
    rw [hr]
    clear hr h14 HS
    go_enter Tryd.func15, Tryd.ntmps15
    go_wp2
    go_ret
    exact ⟨rfl, HB.out⟩
  have e14 : ((op : Int) == 14) = false := by rw [beq_eq_false_iff_ne]; omega
  by_cases h16 : op = 16
  · have hr : Co.ref op = 8 := by rw [h16]; rfl
    have e16 : ((op : Int) == 16) = true := by rw [beq_iff_eq]; omega
    rw [hr]
    clear hr h16 HS
    go_enter Tryd.func15, Tryd.ntmps15
    go_wp2
    go_ret
    exact ⟨rfl, HB.out⟩
  have e16 : ((op : Int) == 16) = false := by rw [beq_eq_false_iff_ne]; omega
  by_cases h17 : op = 17
  · have hr : Co.ref op = 10 := by rw [h17]; rfl
    have e17 : ((op : Int) == 17) = true := by rw [beq_iff_eq]; omega
    rw [hr]
    clear hr h17 HS
    go_enter Tryd.func15, Tryd.ntmps15
    go_wp2
    go_ret
    exact ⟨rfl, HB.out⟩
  have e17 : ((op : Int) == 17) = false := by rw [beq_eq_false_iff_ne]; omega
  by_cases h64 : op = 64
  · have hr : Co.ref op = 20 := by rw [h64]; rfl
    have e64 : ((op : Int) == 64) = true := by rw [beq_iff_eq]; omega
    rw [hr]
    clear hr h64 HS
    go_enter Tryd.func15, Tryd.ntmps15
    go_wp2
    go_ret
    exact ⟨rfl, HB.out⟩
  have e64 : ((op : Int) == 64) = false := by rw [beq_eq_false_iff_ne]; omega
  by_cases h109 : op = 109
  · have hr : Co.ref op = 5 := by rw [h109]; rfl
    have e109 : ((op : Int) == 109) = true := by rw [beq_iff_eq]; omega
    rw [hr]
    clear hr h109 HS
    go_enter Tryd.func15, Tryd.ntmps15
    go_wp2
    go_ret
    exact ⟨rfl, HB.out⟩
  have e109 : ((op : Int) == 109) = false := by rw [beq_eq_false_iff_ne]; omega
  by_cases h110 : op = 110
  · have hr : Co.ref op = 5 := by rw [h110]; rfl
    have e110 : ((op : Int) == 110) = true := by rw [beq_iff_eq]; omega
    rw [hr]
    clear hr h110 HS
    go_enter Tryd.func15, Tryd.ntmps15
    go_wp2
    go_ret
    exact ⟨rfl, HB.out⟩
  have e110 : ((op : Int) == 110) = false := by rw [beq_eq_false_iff_ne]; omega
  by_cases h111 : op = 111
  · have hr : Co.ref op = 5 := by rw [h111]; rfl
    have e111 : ((op : Int) == 111) = true := by rw [beq_iff_eq]; omega
    rw [hr]
    clear hr h111 HS
    go_enter Tryd.func15, Tryd.ntmps15
    go_wp2
    go_ret
    exact ⟨rfl, HB.out⟩
  have e111 : ((op : Int) == 111) = false := by rw [beq_eq_false_iff_ne]; omega
  by_cases h112 : op = 112
  · have hr : Co.ref op = 5 := by rw [h112]; rfl
    have e112 : ((op : Int) == 112) = true := by rw [beq_iff_eq]; omega
    rw [hr]
    clear hr h112 HS
    go_enter Tryd.func15, Tryd.ntmps15
    go_wp2
    go_ret
    exact ⟨rfl, HB.out⟩
  have e112 : ((op : Int) == 112) = false := by rw [beq_eq_false_iff_ne]; omega
  by_cases h127 : op = 127
  · have hr : Co.ref op = 5 := by rw [h127]; rfl
    have e127 : ((op : Int) == 127) = true := by rw [beq_iff_eq]; omega
    rw [hr]
    clear hr h127 HS
    go_enter Tryd.func15, Tryd.ntmps15
    go_wp2
    go_ret
    exact ⟨rfl, HB.out⟩
  have e127 : ((op : Int) == 127) = false := by rw [beq_eq_false_iff_ne]; omega
  by_cases h128 : op = 128
  · have hr : Co.ref op = 5 := by rw [h128]; rfl
    have e128 : ((op : Int) == 128) = true := by rw [beq_iff_eq]; omega
    rw [hr]
    clear hr h128 HS
    go_enter Tryd.func15, Tryd.ntmps15
    go_wp2
    go_ret
    exact ⟨rfl, HB.out⟩
  have e128 : ((op : Int) == 128) = false := by rw [beq_eq_false_iff_ne]; omega
  by_cases h129 : op = 129
  · have hr : Co.ref op = 5 := by rw [h129]; rfl
    have e129 : ((op : Int) == 129) = true := by rw [beq_iff_eq]; omega
    rw [hr]
    clear hr h129 HS
    go_enter Tryd.func15, Tryd.ntmps15
    go_wp2
    go_ret
    exact ⟨rfl, HB.out⟩
  have e129 : ((op : Int) == 129) = false := by rw [beq_eq_false_iff_ne]; omega
  by_cases h130 : op = 130
  · have hr : Co.ref op = 5 := by rw [h130]; rfl
    have e130 : ((op : Int) == 130) = true := by rw [beq_iff_eq]; omega
    rw [hr]
    clear hr h130 HS
    go_enter Tryd.func15, Tryd.ntmps15
    go_wp2
    go_ret
    exact ⟨rfl, HB.out⟩
  have e130 : ((op : Int) == 130) = false := by rw [beq_eq_false_iff_ne]; omega
  exfalso
  have h := HS.out
  unfold Co.sw at h
  simp_all
end Go.Proofs.YtknnkmakfcfnjaaDoor
