/-
  opc.Find's contract: the first opcode whose name is that, and true; 0 and false if there is none.
-/
import Derived.Test.YtejjkihggdmdlaaOpcName
namespace Opc
def hit (l : List UInt8) (n : Nat) : Bool := !(row n).name.isEmpty && ((row n).name == l)
def find (l : List UInt8) : Option Nat := (List.range 256).find? (hit l)
theorem find_some {l : List UInt8} {k : Nat} (hk : k < 256) (h : hit l k = true) (hno : ∀ j, j < k → hit l j = false) : find l = some k := by
  unfold find
  rw [List.find?_range_eq_some]
  exact ⟨h, List.mem_range.2 hk, fun j hj => by rw [hno j hj]; rfl⟩
theorem find_none {l : List UInt8} (hno : ∀ j, j < 256 → hit l j = false) : find l = Option.none := by
  unfold find
  rw [List.find?_range_eq_none]
  exact fun j hj => by rw [hno j hj]; rfl
theorem none_snoc {l : List UInt8} {k : Nat} (h : hit l k = false) (hno : ∀ j, j < k → hit l j = false) : ∀ j, j < k + 1 → hit l j = false := fun j hj => by
  by_cases hjk : j = k
  · subst hjk; exact h
  · exact hno j (by omega)
end Opc
namespace Go.Proofs.Ytejjkihggdmdlaa
open Go.RowKit
theorem nm_list (n : Nat) : (nm n).toList = (Opc.row n).name := by rw [ByteArray.toList_eq]; rfl
theorem ret_ub {a b : Int} {c d : Bool} (h : a = b) (h' : c = d) : Ending.returned (.tuple #[.int .u8 a, .bool c]) = .returned (.tuple #[.int .u8 b, .bool d]) := by rw [h, h']
set_option maxRecDepth 100000 in
theorem find_any (s : ByteArray) (w : World) : Calls Try.prog 17 #[.string s] w fun e w' => e = .returned (.tuple #[.int .u8 (((Opc.find s.toList).getD 0 : Nat) : Int), .bool (Opc.find s.toList).isSome]) ∧ Below w.heap.size w w' := by
  go_enter Try.func17, Try.ntmps17
  go_wp2
  go_step3
  go_wp2
  go_step3
  go_wp2_with (go_at_call 24; refine (names_any _).mono ?_; rintro e w' ⟨rfl, hb⟩)
  go_loop [4, 5, 9] (fun f o i => ∃ k : Nat, k ≤ 256 ∧ f = .int .i64 0 ∧ o = .bool false ∧ i = .int .i64 (k : Int) ∧ Hid (∀ j, j < k → Opc.hit s.toList j = false)) (fun _ _ i => 256 - (intOf i).toNat)
  case atStart => exact ⟨0, by omega, rfl, rfl, rfl, Lib.hid (fun j hj => absurd hj (Nat.not_lt_zero _))⟩
  case round =>
    obtain ⟨k, hk, rfl, rfl, rfl, HNO⟩ := hrel
    by_cases hlt : k < 256
    · have hi : ∀ w, (Instr.index 43 (.agg namesArr) (.int .i64 (k : Int))).run Try.prog w = .ok (.string (nm k)) w := fun w => run_index_names .i64 k hlt w
      have HH := Lib.hid (show Opc.hit s.toList k = (!(nm k).toList.isEmpty && ((nm k).toList == s.toList)) by rw [nm_list]; rfl)
      generalize nm k = S at hi HH
      generalize namesArr = NA at hi ⊢
      go_wp2_with fail
      · go_round
        case rel => exact ⟨k + 1, by omega, rfl, rfl, by go_num, Lib.hid (Opc.none_snoc (by rw [HH.out]; simp_all) HNO.out)⟩
        case measure => simp [intOf]; omega
      · have hf := Opc.find_some hlt (by rw [HH.out]; simp_all) HNO.out
        go_ret2
        exact ⟨ret_ub (by rw [hf]; rfl) (by rw [hf]; rfl), hb⟩
      · go_round
        case rel => exact ⟨k + 1, by omega, rfl, rfl, by go_num, Lib.hid (Opc.none_snoc (by rw [HH.out]; simp_all) HNO.out)⟩
        case measure => simp [intOf]; omega
    · have hf := Lib.hid (Opc.find_none (fun j hj => HNO.out j (by omega)))
      have hcv : ∀ w, (convert 3 5 (.int .i64 0)).run Try.prog w = .ok (.int .u8 0) w := fun _ => by kernel_rfl
      generalize namesArr = NA
      go_wp2_with fail
      go_ret2
      exact ⟨ret_ub (by rw [hf.out]; rfl) (by rw [hf.out]; rfl), hb⟩
end Go.Proofs.Ytejjkihggdmdlaa
