/-
  The document's Take of a name: the same plain functions; the world as it was.
-/
import Derived.Test.YtanhgpdeoffmfaaDoorNmTake
namespace Go.Proofs.YtanhgpdeoffmfaaDoor
open Go.RowKit
def RTakePost (l : List UInt8) (w : World) (e : Ending) (w' : World) : Prop := e = .returned (.tuple #[.string ⟨(Nm.str l).toArray⟩, .int .i64 (Nm.cnt l : Int), .bool (Nm.ok l)]) ∧ w = w'
theorem rtakePost_no {l : List UInt8} {w : World} (h : Nm.ok l = false) : RTakePost l w (.returned (.tuple #[.string ⟨#[]⟩, .int .i64 0, .bool false])) w := by
  refine ⟨?_, rfl⟩
  unfold Nm.str Nm.cnt
  rw [h]; rfl
set_option maxHeartbeats 1000000 in
theorem rtake_any (A : Option Addr) (l : List UInt8) (n c : Nat) (w : World) (hn : n = l.length) (hmax : n ≤ 1000000) (hc : n ≤ c) (hcm : c ≤ 9223372036854775807) (hA : Has w w.heap.size A l) :
    Calls Tryd.prog 27 #[.slice A n c] w (RTakePost l w) := by
  have HC := Lib.hid (c9u A l n c 32 w hn (by omega) hc hA)
  have HA := Lib.hid hA
  have HN := Lib.hid hn
  clear hn hA
  cases hok : Leb.okU l 32 with
  | false =>
    have e1 : Leb.numU l 32 = 0 := by unfold Leb.numU; rw [hok]; rfl
    have e2 : Leb.cntU l 32 = 0 := by unfold Leb.cntU; rw [hok]; rfl
    rw [e1, e2] at HC
    have HK := Lib.hid (Nm.ok_no hok)
    clear e1 e2 hok
    go_enter Tryd.func27, Tryd.ntmps27
    go_wp2_with fail
    refine HC.out.mono ?_
    rintro e w' ⟨rfl, rfl⟩
    go_wp2_with fail
    go_ret3
    exact rtakePost_no HK.out
  | true =>
    have e1 : Leb.numU l 32 = (Leb.used l : Int) := by unfold Leb.numU; rw [hok]; rfl
    have e2 : Leb.cntU l 32 = (Leb.run l : Int) := by unfold Leb.cntU; rw [hok]; rfl
    have hu32 : Leb.used l < 4294967296 := by
      have h := hok; unfold Leb.okU at h
      have := (of_decide_eq_true h).2.2.2.2
      have e : (2 : Int) ^ (32 : Int).toNat = 4294967296 := by decide
      rw [e] at this; omega
    have hr1 : 1 ≤ Leb.run l ∧ Leb.run l ≤ n := by
      have h := hok; unfold Leb.okU at h
      have h1 := (of_decide_eq_true h).2.2.1
      have h2 := Leb.run_le l
      have := HN.out
      omega
    rw [e1, e2] at HC
    have HOK := Lib.hid hok
    clear e1 e2 hok
    have HLONG := Lib.hid (@Nm.ok_long l)
    have HTX := Lib.hid (@Nm.ok_text l HOK.out)
    obtain ⟨R, hR⟩ : ∃ R, Leb.run l = R := ⟨_, rfl⟩
    obtain ⟨U, hU⟩ : ∃ U, Leb.used l = U := ⟨_, rfl⟩
    have HR := Lib.hid hR
    have HU := Lib.hid hU
    rw [hR] at hr1
    rw [hU] at hu32
    rw [hR, hU] at HC HLONG HTX
    clear hR hU
    obtain ⟨hr1, hrn⟩ := hr1
    have hR0 : ((R : Int) == 0) = false := by simp; omega
    by_cases hlong : n < U
    · have HK := Lib.hid (HLONG.out (by have := HN.out; omega))
      have hl : (n : Int) < (U : Int) := by omega
      have hl2 : decide (n < U) = true := by simpa using hlong
      go_enter Tryd.func27, Tryd.ntmps27
      go_wp2_with fail
      refine HC.out.mono ?_
      rintro e w' ⟨rfl, rfl⟩
      go_wp2_with fail
      go_ret3
      exact rtakePost_no HK.out
    have hl : decide ((n : Int) < (U : Int)) = false := by simp; omega
    have hl2 : decide (n < U) = false := by simpa using hlong
    by_cases hsum : n < R + U
    · have HK := Lib.hid (HLONG.out (by have := HN.out; omega))
      have hs : (n : Int) < (R : Int) + (U : Int) := by omega
      go_enter Tryd.func27, Tryd.ntmps27
      go_wp2_with fail
      refine HC.out.mono ?_
      rintro e w' ⟨rfl, rfl⟩
      go_wp2_with fail
      go_ret3
      exact rtakePost_no HK.out
    · have hs : decide ((n : Int) < (R : Int) + (U : Int)) = false := by simp; omega
      have hru : R + U ≤ n := by omega
      have hruc : (R : Int) + (U : Int) ≤ (c : Int) := by omega
      have HTX2 := Lib.hid (HTX.out (by have := HN.out; omega))
      obtain ⟨ad, rfl⟩ := HA.out.someAddr (by have := HN.out; omega)
      obtain ⟨t, ht⟩ : ∃ t, (l.drop R).take U = t := ⟨_, rfl⟩
      have htl : U = t.length := by rw [← ht]; have := HN.out; simp; omega
      have hAt := HA.out.part R U
      rw [ht] at hAt
      have HAT := Lib.hid hAt
      have HTL := Lib.hid htl
      have HTT := Lib.hid ht
      rw [ht] at HTX2
      clear hAt htl ht HLONG HTX
      by_cases hcR : c - R = 0
      · obtain rfl : U = 0 := by omega
        have ht0 : t = [] := List.eq_nil_of_length_eq_zero HTL.out.symm
        subst ht0
        have hxt : U8.text [] = true := rfl
        rw [hxt] at HTX2
        have hcv := fun A c => run_str (w := w) (B := 0) (n := 0) (A := A) (Has.nil w 0 A) rfl c
        go_enter Tryd.func27, Tryd.ntmps27
        go_wp2_with fail
        refine HC.out.mono ?_
        rintro e w' ⟨rfl, rfl⟩
        go_wp2_with fail
        refine (rvalid_any _ [] 0 _ _ rfl (by omega) (by omega) (by omega) (Has.nil _ _ _)).mono ?_
        rintro e w2 ⟨rfl, rfl⟩
        rw [hxt]
        go_wp2_with fail
        go_ret3
        refine ⟨?_, rfl⟩
        unfold Nm.str Nm.cnt
        rw [HTX2.out, if_pos rfl, if_pos rfl, HR.out, HU.out, HTT.out]
        rfl
      cases hx : U8.text t with
      | false =>
        rw [hx] at HTX2
        go_enter Tryd.func27, Tryd.ntmps27
        go_wp2_with fail
        refine HC.out.mono ?_
        rintro e w' ⟨rfl, rfl⟩
        go_wp2_with fail
        refine (rvalid_any _ t U (c - R) _ HTL.out (by omega) (by omega) (by omega) HAT.out).mono ?_
        rintro e w2 ⟨rfl, rfl⟩
        rw [hx]
        go_wp2_with fail
        go_ret3
        exact rtakePost_no HTX2.out
      | true =>
        rw [hx] at HTX2
        have hcv := run_str HAT.out HTL.out (c - R)
        go_enter Tryd.func27, Tryd.ntmps27
        go_wp2_with fail
        refine HC.out.mono ?_
        rintro e w' ⟨rfl, rfl⟩
        go_wp2_with fail
        refine (rvalid_any _ t U (c - R) _ HTL.out (by omega) (by omega) (by omega) HAT.out).mono ?_
        rintro e w2 ⟨rfl, rfl⟩
        rw [hx]
        go_wp2_with fail
        go_ret3
        refine ⟨?_, rfl⟩
        unfold Nm.str Nm.cnt
        rw [HTX2.out, if_pos rfl, if_pos rfl, HR.out, HU.out, HTT.out]
        push_cast
        rfl
end Go.Proofs.YtanhgpdeoffmfaaDoor
