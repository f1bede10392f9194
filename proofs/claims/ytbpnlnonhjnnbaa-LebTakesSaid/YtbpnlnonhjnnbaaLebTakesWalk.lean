/-
  The walk over the statement LebTakes: for every slice of bytes and every int it answers true and leaves all memory that was there as it was.
-/
import Derived.Test.YtbpnlnonhjnnbaaLebKnown
namespace Go.Proofs.Ytbpnlnonhjnnbaa
open Go.RowKit
theorem cntU_pos (l : List UInt8) (b : Int) : decide (0 < Leb.cntU l b) = Leb.okU l b := by
  unfold Leb.cntU
  cases h : Leb.okU l b
  · simp
  · unfold Leb.okU at h
    rw [decide_eq_true_iff] at h
    simp; omega
theorem cntS_pos (l : List UInt8) (b : Int) : decide (0 < Leb.cntS l b) = Leb.okS l b := by
  unfold Leb.cntS
  cases h : Leb.okS l b
  · simp
  · unfold Leb.okS at h
    rw [decide_eq_true_iff] at h
    simp; omega
theorem wrap_u64 (x : Int) : IntKind.u64.wrap x = x % 18446744073709551616 := by simp [IntKind.wrap, IntKind.bits, IntKind.signed]
set_option maxHeartbeats 2000000 in
theorem walk3 (A : Option Addr) (l : List UInt8) (n c : Nat) (b : Int) (w : World) (hn : n = l.length) (hmax : n ≤ 9223372036854775807) (hnc : n ≤ c) (hA : Has w w.heap.size A l) :
    Calls Try.prog 3 #[.slice A n c, .int .i64 b] w fun e w' => e = .returned (.bool true) ∧ Below w.heap.size w w' := by
  have HA := Lib.hid hA
  have HN := Lib.hid hn
  clear hA hn
  by_cases hbig : 5000 < n
  · go_enter Try.func3, Try.ntmps3
    go_wp2_with (go_at_call 7; refine (c7 _).mono ?_; rintro e w1 ⟨rfl, hb1⟩)
    go_ret
    exact ⟨rfl, hb1⟩
  · go_enter Try.func3, Try.ntmps3
    go_wp2_with fail
    refine (c7 _).mono ?_
    rintro e w1 ⟨rfl, hb1⟩
    have HA1 := Lib.hid (HA.out.on hb1)
    have HB1 := Lib.hid hb1
    clear hb1
    go_wp2_with fail
    refine (c8 A l n c b _ HN.out hmax HA1.out).mono ?_
    rintro e w2 ⟨rfl, hb2⟩
    have HA2 := Lib.hid (HA1.out.on hb2)
    have HB2 := Lib.hid (HB1.out.trans (hb2.mono HB1.out.size))
    clear hb2
    go_wp2_with fail
    refine (c9u A l n c b _ HN.out (by omega) hnc HA2.out).mono ?_
    rintro e w3 ⟨rfl, rfl⟩
    go_wp2_with fail
    refine (c10 A l n c b _ HN.out hmax HA2.out).mono ?_
    rintro e w3 ⟨rfl, hb3⟩
    have HA3 := Lib.hid (HA2.out.on hb3)
    have HB3 := Lib.hid (HB2.out.trans (hb3.mono HB2.out.size))
    clear hb3
    go_wp2_with fail
    refine (c9s A l n c b _ HN.out (by omega) hnc HA3.out).mono ?_
    rintro e w4 ⟨rfl, rfl⟩
    have h1 := cntU_pos l b
    have h2 := cntS_pos l b
    have h3 := wrap_u64 (Leb.numS l b)
    generalize Leb.numS l b % 18446744073709551616 = M at *
    go_wp2_with fail
    go_ret
    trace_state
    exact ⟨rfl, HB3.out⟩
end Go.Proofs.Ytbpnlnonhjnnbaa
