/-
  The document's answer for layer 13: whether a number lies in one of some ranges.
-/
import Derived.Test.YtknnkmakfcfnjaaDoorCoTab
import Derived.Deep.RegionHeld3
namespace Co
theorem inL_step {x : Nat} {l : List UInt8} {k : Nat} {lo hi : UInt8} (h1 : l[2 * k]? = some lo) (h2 : l[2 * k + 1]? = some hi) : inL x (l.drop (2 * k)) = ((decide (lo.toNat ≤ x) && decide (x ≤ hi.toNat)) || inL x (l.drop (2 * (k + 1)))) := by
  obtain ⟨q1, rfl⟩ := List.getElem?_eq_some_iff.1 h1
  obtain ⟨q2, rfl⟩ := List.getElem?_eq_some_iff.1 h2
  rw [List.drop_eq_getElem_cons q1, List.drop_eq_getElem_cons q2, inL]
  rfl
theorem inL_end {x : Nat} {l : List UInt8} {k : Nat} (h : l.length ≤ k) : inL x (l.drop k) = false := by
  rw [List.drop_eq_nil_of_le h]; rfl
end Co
namespace Go.Proofs.YtknnkmakfcfnjaaDoor
open Go.RowKit
set_option maxRecDepth 100000 in
set_option maxHeartbeats 4000000 in
theorem cin_any (x : Nat) (g n c m : Nat) (l : List UInt8) (w : World) (hn : n = l.length) (hm : n = 2 * m) (hs : n ≤ 1000) (hL : ∀ (k : Nat) (y : UInt8), l[k]? = some y → w.cell? ⟨g, k, none⟩ = some (.int .u8 (y.toNat : Int))) :
    Calls Tryd.prog 19 #[.int .u8 (x : Int), .slice (some ⟨g, 0, none⟩) n c] w fun e w' => e = .returned (.bool (Co.inL x l)) ∧ w = w' := by
  have HL := Lib.hid hL
  have HN := Lib.hid hn
  have HM := Lib.hid hm
  clear hL hn hm
  go_enter Tryd.func19, Tryd.ntmps19
  go_wp2
  go_loop [5] (fun i => ∃ k j : Nat, j ≤ n ∧ i = .int .i64 (j : Int) ∧ Hid (j = 2 * k) ∧ Hid (Co.inL x l = Co.inL x (l.drop (2 * k)))) (fun i => n - (intOf i).toNat)
  case atStart => exact ⟨0, 0, Nat.zero_le _, rfl, Lib.hid rfl, Lib.hid rfl⟩
  case round =>
    obtain ⟨k, j, hj, rfl, HJ, HI⟩ := hrel
    by_cases hlt : j < n
    · have hlt1 : j + 1 < n := by have := HM.out; have := HJ.out; omega
      obtain ⟨lo, hlo⟩ : ∃ y, l[2 * k]? = some y := ⟨_, List.getElem?_eq_getElem (by rw [← HN.out, ← HJ.out]; exact hlt)⟩
      obtain ⟨hi, hhi⟩ : ∃ y, l[2 * k + 1]? = some y := ⟨_, List.getElem?_eq_getElem (by rw [← HN.out, ← HJ.out]; exact hlt1)⟩
      have z0 := HL.out _ _ hlo
      have z1 := HL.out _ _ hhi
      rw [← HJ.out] at z0 z1
      have HST := Lib.hid (HI.out.trans (Co.inL_step (x := x) hlo hhi))
      clear hlo hhi
      generalize lo.toNat = a at z0 HST
      generalize hi.toNat = b at z1 HST
      have hlti : (j : Int) < (n : Int) := by omega
      have hlt1i : (j : Int) + 1 < (n : Int) := by omega
      by_cases h1 : a ≤ x
      · have e1 : (a : Int) ≤ (x : Int) := by omega
        by_cases h2 : x ≤ b
        · have e2 : (x : Int) ≤ (b : Int) := by omega
          have HR : Hid (Co.inL x l = true) := Lib.hid (by rw [HST.out, decide_eq_true h1, decide_eq_true h2]; rfl)
          clear h1 h2
          go_wp2
          go_ret
          exact ⟨by rw [HR.out]; rfl, rfl⟩
        · have e2 : decide ((x : Int) ≤ (b : Int)) = false := decide_eq_false (by omega)
          have e2' : decide (x ≤ b) = false := decide_eq_false h2
          have HS2 : Hid (Co.inL x l = Co.inL x (l.drop (2 * (k + 1)))) := Lib.hid (by rw [HST.out, e2', Bool.and_false, Bool.false_or])
          clear h1 h2
          go_wp2
          go_round
          case rel => exact ⟨k + 1, j + 2, by omega, by go_num, Lib.hid (by have := HJ.out; omega), HS2⟩
          case measure => simp [intOf]; omega
      · have e1 : decide ((x : Int) ≥ (a : Int)) = false := decide_eq_false (by omega)
        have e1' : decide (a ≤ x) = false := decide_eq_false h1
        have HS2 : Hid (Co.inL x l = Co.inL x (l.drop (2 * (k + 1)))) := Lib.hid (by rw [HST.out, e1', Bool.false_and, Bool.false_or])
        clear h1
        go_wp2
        go_round
        case rel => exact ⟨k + 1, j + 2, by omega, by go_num, Lib.hid (by have := HJ.out; omega), HS2⟩
        case measure => simp [intOf]; omega
    · have HR : Hid (Co.inL x l = false) := Lib.hid (by rw [HI.out]; exact Co.inL_end (by rw [← HN.out, ← HJ.out]; omega))
      have hge : decide ((j : Int) < (n : Int)) = false := decide_eq_false (by omega)
      have hge2 : decide (j < n) = false := decide_eq_false hlt
      clear hlt
      go_wp2
      go_ret
      exact ⟨by rw [HR.out]; rfl, rfl⟩
end Go.Proofs.YtknnkmakfcfnjaaDoor
