/-
  Layer 14: the document's Ends.
-/
import Derived.Test.YtknnkmakfcfnjaaDoorPaM
import Derived.Test.YtknnkmakfcfnjaaDoorCoRef
namespace Pa
theorem any_step {l : List UInt8} {k op : Nat} {y : UInt8} (h : l[k]? = some y) : (l.drop k).any (fun y => y.toNat == op) = ((y.toNat == op) || (l.drop (k + 1)).any (fun y => y.toNat == op)) := by
  obtain ⟨q, rfl⟩ := List.getElem?_eq_some_iff.1 h
  rw [List.drop_eq_getElem_cons q, List.any_cons]
end Pa
namespace Go.Proofs.YtknnkmakfcfnjaaDoor
open Go.RowKit
set_option maxRecDepth 100000 in
set_option maxHeartbeats 4000000 in
theorem rends_any (op : Nat) (w : World) (hop : op < 256) : Calls Tryd.prog 10 #[.int .u8 (op : Int)] w fun e w' => e = .returned (.bool (Pa.ends op)) ∧ Below w.heap.size w w' := by
  have HE := Lib.hid (Pa.ends_mem ⟨op, hop⟩)
  have HE2 : Hid (Pa.ends op = Pa.enders.any (fun y => y.toNat == op)) := HE
  clear HE hop
  have HL := Lib.hid (lit_at w Pa.enders 5)
  have HB := Lib.hid ((Below.refl w.heap.size w).alloc (Nat.le_refl _) (.cells (Pa.enders.map fun (y : UInt8) => Value.int .u8 (y.toNat : Int)).toArray 5))
  have q3 : (Pa.enders.map fun (y : UInt8) => Value.int .u8 (y.toNat : Int)).toArray = #[.int .u8 0, .int .u8 3, .int .u8 4, .int .u8 5, .int .u8 11, .int .u8 12, .int .u8 13, .int .u8 14, .int .u8 15, .int .u8 16, .int .u8 17, .int .u8 64] := by kernel_rfl
  rw [q3] at HL HB
  clear q3
  go_enter Tryd.func10, Tryd.ntmps10
  go_wp2
  generalize w.alloc (.cells #[.int .u8 0, .int .u8 3, .int .u8 4, .int .u8 5, .int .u8 11, .int .u8 12, .int .u8 13, .int .u8 14, .int .u8 15, .int .u8 16, .int .u8 17, .int .u8 64] 5) = wa at HL HB ⊢
  go_loop [4] (fun i => ∃ k : Nat, k ≤ 12 ∧ i = .int .i64 (k : Int) ∧ Hid (Pa.ends op = (Pa.enders.drop k).any (fun y => y.toNat == op))) (fun i => 12 - (intOf i).toNat)
  case atStart => exact ⟨0, Nat.zero_le _, rfl, HE2⟩
  case round =>
    clear HE2
    obtain ⟨k, hk, rfl, HI⟩ := hrel
    by_cases hlt : k < 12
    · have hlti : (k : Int) < 12 := by omega
      obtain ⟨y, hy⟩ : ∃ y, Pa.enders[k]? = some y := ⟨_, List.getElem?_eq_getElem (show k < Pa.enders.length from hlt)⟩
      have z0 := HL.out k y hy
      have HST := Lib.hid (HI.out.trans (Pa.any_step (op := op) hy))
      clear hy
      generalize y.toNat = a at z0 HST
      by_cases h1 : a = op
      · have e1 : ((a : Int) == (op : Int)) = true := by rw [beq_iff_eq]; omega
        have HR : Hid (Pa.ends op = true) := Lib.hid (by rw [HST.out, beq_iff_eq.2 h1]; rfl)
        clear h1
        go_wp2
        go_ret
        exact ⟨by rw [HR.out]; rfl, HB.out⟩
      · have e1 : ((a : Int) == (op : Int)) = false := by rw [beq_eq_false_iff_ne]; omega
        have HS2 : Hid (Pa.ends op = (Pa.enders.drop (k + 1)).any (fun y => y.toNat == op)) := Lib.hid (by rw [HST.out, beq_eq_false_iff_ne.2 h1, Bool.false_or])
        clear h1
        go_wp2
        go_round
        case rel => exact ⟨k + 1, by omega, by go_num, HS2⟩
        case measure => simp [intOf]; omega
    · have hk12 : k = 12 := by omega
      have HR : Hid (Pa.ends op = false) := Lib.hid (by rw [HI.out, hk12]; rfl)
      have hge : decide ((k : Int) < 12) = false := decide_eq_false (by omega)
      have hge2 : decide (k < 12) = false := decide_eq_false hlt
      clear hlt hk12
      go_wp2
      go_ret
      exact ⟨by rw [HR.out]; rfl, HB.out⟩
end Go.Proofs.YtknnkmakfcfnjaaDoor
