/-
  Layer 13: the document's cost of an instruction, where no switch tells it. (gen/cost/ref.py)
-/
import Derived.Test.YtknnkmakfcfnjaaDoorCoIn
import Derived.Deep.CutRange
import Derived.Deep.CutBlock
namespace Co
/-- What the document's switch tells, tried first of all. -/
def sw (op : Nat) : Option Nat := if op = 2 ∨ op = 3 ∨ op = 5 ∨ op = 11 then some 0
  else if op = 4 ∨ op = 12 ∨ op = 13 ∨ op = 15 ∨ op = 108 ∨ op = 126 then some 2
  else if op = 14 then some 3 else if op = 16 then some 8 else if op = 17 then some 10 else if op = 64 then some 20
  else if op = 109 ∨ op = 110 ∨ op = 111 ∨ op = 112 ∨ op = 127 ∨ op = 128 ∨ op = 129 ∨ op = 130 then some 5 else none
theorem ref_sw (op : Nat) : ref op = (sw op).getD (if inL op three = true then 3 else if inL op one = true then 1 else 0) := by
  unfold ref sw
  repeat' (split <;> try rfl)
theorem sw_all : ∀ op : Fin 256, sw op.val ≠ none → (sw op.val).isSome = true := by decide +kernel
end Co
namespace Go.Proofs.YtknnkmakfcfnjaaDoor
open Go.RowKit
/-- A literal of bytes reads as they are. -/
theorem lit_at (w : World) (l : List UInt8) (t : TypeId) (k : Nat) (y : UInt8) (h : l[k]? = some y) : (w.alloc (.cells (l.map fun (y : UInt8) => Value.int .u8 (y.toNat : Int)).toArray t)).cell? ⟨w.heap.size, k, none⟩ = some (.int .u8 (y.toNat : Int)) := by
  rw [World.cell?_alloc_new]
  simp [h]
set_option maxRecDepth 100000 in
set_option maxHeartbeats 4000000 in
theorem cref_rest (op : Nat) (v1 v2 v3 v4 : Value) (w : World) (hsw : Co.sw op = Option.none) :
    Calls Tryd.prog 15 #[.agg #[.int .u8 (op : Int), v1, v2, v3, v4]] w fun e w' => e = .returned (.int .u64 (Co.ref op : Int)) ∧ Below w.heap.size w w' := by
  rw [Co.ref_sw, hsw, Option.getD_none]
  have HX := Lib.hid (heap_alloc_new w (.cells #[.int .u8 (op : Int), v1, v2, v3, v4] 41))
  have HB := Lib.hid ((Below.refl w.heap.size w).alloc (Nat.le_refl _) (.cells #[.int .u8 (op : Int), v1, v2, v3, v4] 41))
  have e2 : ((op : Int) == 2) = false := by
    rw [beq_eq_false_iff_ne]
    intro q
    obtain rfl : op = 2 := by omega
    exact absurd hsw (by decide)
  have e3 : ((op : Int) == 3) = false := by
    rw [beq_eq_false_iff_ne]
    intro q
    obtain rfl : op = 3 := by omega
    exact absurd hsw (by decide)
  have e5 : ((op : Int) == 5) = false := by
    rw [beq_eq_false_iff_ne]
    intro q
    obtain rfl : op = 5 := by omega
    exact absurd hsw (by decide)
  have e11 : ((op : Int) == 11) = false := by
    rw [beq_eq_false_iff_ne]
    intro q
    obtain rfl : op = 11 := by omega
    exact absurd hsw (by decide)
  have e4 : ((op : Int) == 4) = false := by
    rw [beq_eq_false_iff_ne]
    intro q
    obtain rfl : op = 4 := by omega
    exact absurd hsw (by decide)
  have e12 : ((op : Int) == 12) = false := by
    rw [beq_eq_false_iff_ne]
    intro q
    obtain rfl : op = 12 := by omega
    exact absurd hsw (by decide)
  have e13 : ((op : Int) == 13) = false := by
    rw [beq_eq_false_iff_ne]
    intro q
    obtain rfl : op = 13 := by omega
    exact absurd hsw (by decide)
  have e15 : ((op : Int) == 15) = false := by
    rw [beq_eq_false_iff_ne]
    intro q
    obtain rfl : op = 15 := by omega
    exact absurd hsw (by decide)
  have e108 : ((op : Int) == 108) = false := by
    rw [beq_eq_false_iff_ne]
    intro q
    obtain rfl : op = 108 := by omega
    exact absurd hsw (by decide)
  have e126 : ((op : Int) == 126) = false := by
    rw [beq_eq_false_iff_ne]
    intro q
    obtain rfl : op = 126 := by omega
    exact absurd hsw (by decide)
  have e14 : ((op : Int) == 14) = false := by
    rw [beq_eq_false_iff_ne]
    intro q
    obtain rfl : op = 14 := by omega
    exact absurd hsw (by decide)
  have e16 : ((op : Int) == 16) = false := by
    rw [beq_eq_false_iff_ne]
    intro q
    obtain rfl : op = 16 := by omega
    exact absurd hsw (by decide)
  have e17 : ((op : Int) == 17) = false := by
    rw [beq_eq_false_iff_ne]
    intro q
    obtain rfl : op = 17 := by omega
    exact absurd hsw (by decide)
  have e64 : ((op : Int) == 64) = false := by
    rw [beq_eq_false_iff_ne]
    intro q
    obtain rfl : op = 64 := by omega
    exact absurd hsw (by decide)
  have e109 : ((op : Int) == 109) = false := by
    rw [beq_eq_false_iff_ne]
    intro q
    obtain rfl : op = 109 := by omega
    exact absurd hsw (by decide)
  have e110 : ((op : Int) == 110) = false := by
    rw [beq_eq_false_iff_ne]
    intro q
    obtain rfl : op = 110 := by omega
    exact absurd hsw (by decide)
  have e111 : ((op : Int) == 111) = false := by
    rw [beq_eq_false_iff_ne]
    intro q
    obtain rfl : op = 111 := by omega
    exact absurd hsw (by decide)
  have e112 : ((op : Int) == 112) = false := by
    rw [beq_eq_false_iff_ne]
    intro q
    obtain rfl : op = 112 := by omega
    exact absurd hsw (by decide)
  have e127 : ((op : Int) == 127) = false := by
    rw [beq_eq_false_iff_ne]
    intro q
    obtain rfl : op = 127 := by omega
    exact absurd hsw (by decide)
  have e128 : ((op : Int) == 128) = false := by
    rw [beq_eq_false_iff_ne]
    intro q
    obtain rfl : op = 128 := by omega
    exact absurd hsw (by decide)
  have e129 : ((op : Int) == 129) = false := by
    rw [beq_eq_false_iff_ne]
    intro q
    obtain rfl : op = 129 := by omega
    exact absurd hsw (by decide)
  have e130 : ((op : Int) == 130) = false := by
    rw [beq_eq_false_iff_ne]
    intro q
    obtain rfl : op = 130 := by omega
    exact absurd hsw (by decide)
  clear hsw
  generalize hwa : w.alloc (.cells #[.int .u8 (op : Int), v1, v2, v3, v4] 41) = wa at HX HB
  have hsz : w.heap.size + 1 = wa.heap.size := by rw [← hwa]; simp
  have HSZ := Lib.hid hsz
  have HWA := Lib.hid hwa
  clear hsz hwa
  have HL1 := Lib.hid (lit_at wa Co.three 5)
  have HB1 := Lib.hid (HB.out.alloc (by rw [← HSZ.out]; omega) (.cells (Co.three.map fun (y : UInt8) => Value.int .u8 (y.toNat : Int)).toArray 5))
  have HX1 : Hid ((wa.alloc (.cells (Co.three.map fun (y : UInt8) => Value.int .u8 (y.toNat : Int)).toArray 5)).heap[w.heap.size]? = some (.cells #[.int .u8 (op : Int), v1, v2, v3, v4] 41 (0, 0))) := Lib.hid ((Below.heap_alloc _ _ _ (by rw [← HSZ.out]; omega)).trans HX.out)
  have q3 : (Co.three.map fun (y : UInt8) => Value.int .u8 (y.toNat : Int)).toArray = #[.int .u8 40, .int .u8 41, .int .u8 44, .int .u8 55, .int .u8 58, .int .u8 62] := by kernel_rfl
  rw [q3] at HL1 HB1 HX1
  clear q3
  have HL2 := Lib.hid (lit_at (wa.alloc (.cells #[.int .u8 40, .int .u8 41, .int .u8 44, .int .u8 55, .int .u8 58, .int .u8 62] 5)) Co.one 5)
  have HB2 := Lib.hid (HB1.out.alloc (by simp; rw [← HSZ.out]; omega) (.cells (Co.one.map fun (y : UInt8) => Value.int .u8 (y.toNat : Int)).toArray 5))
  have q4 : (Co.one.map fun (y : UInt8) => Value.int .u8 (y.toNat : Int)).toArray = #[.int .u8 0, .int .u8 1, .int .u8 26, .int .u8 27, .int .u8 32, .int .u8 36, .int .u8 63, .int .u8 63, .int .u8 65, .int .u8 66, .int .u8 69, .int .u8 90, .int .u8 103, .int .u8 138, .int .u8 167, .int .u8 167, .int .u8 172, .int .u8 173] := by kernel_rfl
  rw [q4] at HL2 HB2
  clear q4
  have p0 : wa.cell? ⟨w.heap.size, 0, none⟩ = some (.int .u8 (op : Int)) := (cell_of_row wa w.heap.size 0 _ _ (0, 0) HX.out).trans rfl
  have p1 : (wa.alloc (.cells #[.int .u8 40, .int .u8 41, .int .u8 44, .int .u8 55, .int .u8 58, .int .u8 62] 5)).cell? ⟨w.heap.size, 0, none⟩ = some (.int .u8 (op : Int)) := (cell_of_row _ w.heap.size 0 _ _ (0, 0) HX1.out).trans rfl
  cases h3 : Co.inL op Co.three
  case true =>
    rw [if_pos rfl]
    have H3 := Lib.hid h3
    clear h3 HL2 HB2
    go_enter Tryd.func15, Tryd.ntmps15
    go_upto_region 31 with fail
    rw [HWA.out]
    clear HWA
    go_wp2_with (go_at_call 19; refine (cin_any op _ _ _ 3 Co.three _ rfl rfl (by decide) HL1.out).mono ?_; rintro e w' ⟨rfl, rfl⟩; rw [H3.out])
    go_ret
    exact ⟨rfl, HB1.out⟩
  rw [if_neg (by decide)]
  have H3 := Lib.hid h3
  clear h3
  cases h1 : Co.inL op Co.one
  case true =>
    rw [if_pos rfl]
    have H1 := Lib.hid h1
    clear h1
    go_enter Tryd.func15, Tryd.ntmps15
    go_upto_region 31 with fail
    rw [HWA.out]
    clear HWA
    go_upto_region 33 with (go_at_call 19; refine (cin_any op _ _ _ 3 Co.three _ rfl rfl (by decide) HL1.out).mono ?_; rintro e w' ⟨rfl, rfl⟩; rw [H3.out])
    clear HL1 HB1 HX1 p0
    generalize wa.alloc (.cells #[.int .u8 40, .int .u8 41, .int .u8 44, .int .u8 55, .int .u8 58, .int .u8 62] 5) = wb at HL2 HB2 p1 ⊢
    go_wp2_with (go_at_call 19; refine (cin_any op _ _ _ 9 Co.one _ rfl rfl (by decide) HL2.out).mono ?_; rintro e w' ⟨rfl, rfl⟩; rw [H1.out])
    go_ret
    exact ⟨rfl, HB2.out⟩
  case false =>
    rw [if_neg (by decide)]
    have H1 := Lib.hid h1
    clear h1
    go_enter Tryd.func15, Tryd.ntmps15
    go_upto_region 31 with fail
    rw [HWA.out]
    clear HWA
    go_upto_region 33 with (go_at_call 19; refine (cin_any op _ _ _ 3 Co.three _ rfl rfl (by decide) HL1.out).mono ?_; rintro e w' ⟨rfl, rfl⟩; rw [H3.out])
    clear HL1 HB1 HX1 p0
    generalize wa.alloc (.cells #[.int .u8 40, .int .u8 41, .int .u8 44, .int .u8 55, .int .u8 58, .int .u8 62] 5) = wb at HL2 HB2 p1 ⊢
    go_wp2_with (go_at_call 19; refine (cin_any op _ _ _ 9 Co.one _ rfl rfl (by decide) HL2.out).mono ?_; rintro e w' ⟨rfl, rfl⟩; rw [H1.out])
    go_ret
    exact ⟨rfl, HB2.out⟩
end Go.Proofs.YtknnkmakfcfnjaaDoor
