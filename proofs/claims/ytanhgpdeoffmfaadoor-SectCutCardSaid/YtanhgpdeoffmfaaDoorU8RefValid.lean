/-
  The document's Valid: it tells whether the bytes are a text, and leaves the world as it was.
-/
import Derived.Test.YtanhgpdeoffmfaaDoorU8Ref
import Derived.Test.YtanhgpdeoffmfaaDoorHasMore
namespace Go.Proofs.YtanhgpdeoffmfaaDoor
open Go.RowKit
set_option maxHeartbeats 1000000 in
theorem rvalid_any (A : Option Addr) (l : List UInt8) (n c : Nat) (w : World) (hn : n = l.length) (hmax : n ≤ 1000000) (hc : n ≤ c) (hcm : c ≤ 9223372036854775807) (hA : Has w w.heap.size A l) :
    Calls Tryd.prog 39 #[.slice A n c] w fun e w' => e = .returned (.bool (U8.text l)) ∧ w = w' := by
  obtain ⟨ans, hans⟩ : ∃ b, U8.text l = b := ⟨_, rfl⟩
  rw [hans]
  have HANS := Lib.hid hans
  have HA := Lib.hid hA
  have HN := Lib.hid hn
  clear hn hA hans
  go_enter Tryd.func39, Tryd.ntmps39
  go_wp2_with fail
  go_loop [3] (fun i => ∃ k : Nat, k ≤ n ∧ i = .int .i64 (k : Int) ∧ Hid (U8.text (l.drop k) = ans)) (fun i => n - (intOf i).toNat)
  case atStart => exact ⟨0, by omega, rfl, HANS⟩
  case round =>
    obtain ⟨k, hk, rfl, HT⟩ := hrel
    by_cases hlt : k < n
    · obtain ⟨ad, rfl⟩ := HA.out.someAddr (by have := HN.out; omega)
      have hlti : (k : Int) < (n : Int) := by omega
      have hk0 : (0 : Int) ≤ (k : Int) := by omega
      have hkc : (k : Int) ≤ (c : Int) := by omega
      have hck : ¬ (c - k = 0) := by omega
      have hpos : 0 < (l.drop k).length := by have := HN.out; simp; omega
      go_wp2_with fail
      refine (one_any (ad.add k) (l.drop k) (n - k) (c - k) w.heap.size _ (by have := HN.out; simp; omega) (by omega) (HA.out.from k)).mono ?_
      rintro e w' ⟨rfl, rfl⟩
      have hle := U8.one_le (l.drop k)
      have hlen : (l.drop k).length = n - k := by have := HN.out; simp; omega
      rw [hlen] at hle
      clear hlen
      by_cases h0 : U8.one (l.drop k) = 0
      · have hans := HT.out
        rw [U8.text_no (by omega) h0] at hans
        subst hans
        have h0i : ((U8.one (l.drop k) : Nat) : Int) = 0 := by omega
        have h0b : (((U8.one (l.drop k) : Nat) : Int) == 0) = true := by simpa using h0
        generalize U8.one (l.drop k) = o at h0b h0i hle ⊢
        clear h0i h0
        go_wp2_with fail
        go_ret
        exact ⟨rfl, rfl⟩
      · have h0b : (((U8.one (l.drop k) : Nat) : Int) == 0) = false := by simpa using h0
        have hst := (U8.text_step h0).symm.trans HT.out
        rw [List.drop_drop] at hst
        have HST := Lib.hid hst
        clear hst
        generalize U8.one (l.drop k) = o at h0b h0 hle HST ⊢
        have ho : (o : Int) ≤ 1000000 := by omega
        go_wp2_with fail
        go_round
        case rel => exact ⟨k + o, by omega, by go_num, HST⟩
        case measure => simp [intOf]; omega
    · have h0 : U8.text (l.drop k) = true := U8.text_nil (by have := HN.out; simp; omega)
      have hans := HT.out
      rw [h0] at hans
      subst hans
      have hlti : ¬ (k : Int) < (n : Int) := by omega
      go_wp2_with fail
      go_ret
      exact ⟨rfl, rfl⟩
end Go.Proofs.YtanhgpdeoffmfaaDoor
