/-
  The document's Find and Float, and the types of letters.
-/
import Derived.Test.YtejjkihggdmdlaaOpcNamed
import Derived.Test.YtejjkihggdmdlaaAppend1
namespace Opc
def lows : List Int := [42, 56, 67, 91, 139, 168, 174]
def highs : List Int := [43, 57, 68, 102, 166, 171, 191]
def inRun (x : Int) (k : Nat) : Bool := within x (lows.getD k 0) (highs.getD k 0)
def ends : List UInt8 := [42, 43, 56, 57, 67, 68, 91, 102, 139, 166, 168, 171, 174, 191]
def floats (x : Int) : Bool := (List.range 7).any (inRun x)
theorem floats_float (x : Int) : floats x = float x := by
  unfold floats float inRun within lows highs
  rw [Bool.eq_iff_iff]
  simp [List.range_succ]
  omega
theorem lows_ends (k : Nat) (h : k < 7) : ∃ a b, ends[2 * k]? = some a ∧ ends[2 * k + 1]? = some b ∧ lows.getD k 0 = (a.toNat : Int) ∧ highs.getD k 0 = (b.toNat : Int) := by
  have : k = 0 ∨ k = 1 ∨ k = 2 ∨ k = 3 ∨ k = 4 ∨ k = 5 ∨ k = 6 := by omega
  rcases this with rfl | rfl | rfl | rfl | rfl | rfl | rfl <;> exact ⟨_, _, rfl, rfl, rfl, rfl⟩
def NoRun (x : Int) (k : Nat) : Prop := ∀ j, j < k → inRun x j = false
theorem noRun_succ {x : Int} {k : Nat} (h : inRun x k = false) (hno : NoRun x k) : NoRun x (k + 1) := fun j hj => by
  by_cases hjk : j = k
  · subst hjk; exact h
  · exact hno j (by omega)
theorem floats_yes {x : Int} {k : Nat} (hk : k < 7) (h : inRun x k = true) : floats x = true := List.any_eq_true.2 ⟨k, List.mem_range.2 hk, h⟩
theorem floats_no {x : Int} {k : Nat} (hk : 7 ≤ k) (hno : NoRun x k) : floats x = false := by
  unfold floats
  rw [List.any_eq_false]
  intro j hj
  rw [hno j (by have := List.mem_range.1 hj; omega)]
  simp
def letter (c : UInt8) : UInt8 := if c = 105 then 127 else 126
def letters (l : List UInt8) : List UInt8 := l.map letter
theorem letters_snoc (l : List UInt8) (k : Nat) (c : UInt8) (h : l[k]? = some c) : letters (l.take (k + 1)) = letters (l.take k) ++ [letter c] := by
  rw [List.take_add_one, h]; simp [letters]
end Opc
namespace Go.Proofs.Ytejjkihggdmdlaa
open Go.RowKit
set_option maxHeartbeats 1000000 in
theorem floats_any (x : Int) (w : World) : Calls Try.prog 12 #[.int .u8 x] w fun e w' => e = .returned (.bool (Opc.float x)) ∧ Below w.heap.size w w' := by
  rw [← Opc.floats_float]
  have HL : Hid (Has (w.alloc (Obj.cells #[Value.int IntKind.u8 42, Value.int IntKind.u8 43, Value.int IntKind.u8 56, Value.int IntKind.u8 57, Value.int IntKind.u8 67, Value.int IntKind.u8 68, Value.int IntKind.u8 91, Value.int IntKind.u8 102, Value.int IntKind.u8 139, Value.int IntKind.u8 166, Value.int IntKind.u8 168, Value.int IntKind.u8 171, Value.int IntKind.u8 174, Value.int IntKind.u8 191] 5)) (w.heap.size + 1) (some ⟨w.heap.size, 0, none⟩) Opc.ends) := Lib.hid (Has.lit w Opc.ends 5)
  have HB : Hid (Below w.heap.size w (w.alloc (Obj.cells #[Value.int IntKind.u8 42, Value.int IntKind.u8 43, Value.int IntKind.u8 56, Value.int IntKind.u8 57, Value.int IntKind.u8 67, Value.int IntKind.u8 68, Value.int IntKind.u8 91, Value.int IntKind.u8 102, Value.int IntKind.u8 139, Value.int IntKind.u8 166, Value.int IntKind.u8 168, Value.int IntKind.u8 171, Value.int IntKind.u8 174, Value.int IntKind.u8 191] 5))) := Lib.hid ((Below.refl _ _).alloc (Nat.le_refl _) _)
  go_enter Try.func12, Try.ntmps12
  go_wp2_with fail
  generalize w.alloc (Obj.cells #[Value.int IntKind.u8 42, Value.int IntKind.u8 43, Value.int IntKind.u8 56, Value.int IntKind.u8 57, Value.int IntKind.u8 67, Value.int IntKind.u8 68, Value.int IntKind.u8 91, Value.int IntKind.u8 102, Value.int IntKind.u8 139, Value.int IntKind.u8 166, Value.int IntKind.u8 168, Value.int IntKind.u8 171, Value.int IntKind.u8 174, Value.int IntKind.u8 191] 5) = w1 at HL HB ⊢
  go_loop [2, 4] (fun b i => ∃ k : Nat, k ≤ 7 ∧ b = .bool false ∧ i = .int .i64 ((2 * k : Nat) : Int) ∧ Hid (Opc.NoRun x k)) (fun _ i => 14 - (intOf i).toNat)
  case atStart => exact ⟨0, by omega, rfl, rfl, Lib.hid (fun j hj => absurd hj (Nat.not_lt_zero _))⟩
  case round =>
    obtain ⟨k, hk, rfl, rfl, HNO⟩ := hrel
    by_cases hlt : k < 7
    · obtain ⟨a, b, ha, hb, hla, hhb⟩ := Opc.lows_ends k hlt
      have HW := Lib.hid (show Opc.inRun x k = Opc.within x (a.toNat : Int) (b.toNat : Int) by unfold Opc.inRun; rw [hla, hhb])
      clear hla hhb
      obtain ⟨_, h0, _, hca⟩ := HL.out _ _ ha
      injection h0 with h0; subst h0
      obtain ⟨_, h0, _, hcb⟩ := HL.out _ _ hb
      injection h0 with h0; subst h0
      clear ha hb
      have e2 : (⟨w.heap.size, 0, none⟩ : Addr).add (2 * k) = ⟨w.heap.size, 2 * k, none⟩ := by unfold Addr.add; split <;> simp_all
      have e3 : (⟨w.heap.size, 0, none⟩ : Addr).add (2 * k + 1) = ⟨w.heap.size, 2 * k + 1, none⟩ := by unfold Addr.add; split <;> simp_all
      rw [e2] at hca
      rw [e3] at hcb
      clear e2 e3
      by_cases h1 : (a.toNat : Int) ≤ x
      · by_cases h2 : x ≤ (b.toNat : Int)
        · go_wp2_with fail
          go_ret
          exact ⟨ret_b (Opc.floats_yes hlt (by rw [HW.out]; simp [Opc.within, h1, h2])).symm, HB.out⟩
        · have h2' : decide (x ≤ (b.toNat : Int)) = false := by simpa using h2
          have HN := Lib.hid (Opc.noRun_succ (by rw [HW.out]; simp [Opc.within, h2']) HNO.out)
          go_wp2_with fail
          go_round
          case rel => exact ⟨k + 1, by omega, rfl, by go_num, HN⟩
          case measure => simp [intOf]; omega
      · have h1' : decide ((a.toNat : Int) ≤ x) = false := by simpa using h1
        have HN := Lib.hid (Opc.noRun_succ (by rw [HW.out]; simp [Opc.within, h1']) HNO.out)
        go_wp2_with fail
        go_round
        case rel => exact ⟨k + 1, by omega, rfl, by go_num, HN⟩
        case measure => simp [intOf]; omega
    · have hf := Lib.hid (Opc.floats_no (by omega) HNO.out)
      have h7 : k = 7 := by omega
      subst h7
      go_wp2_with fail
      go_ret
      exact ⟨ret_b hf.out.symm, HB.out⟩
end Go.Proofs.Ytejjkihggdmdlaa
