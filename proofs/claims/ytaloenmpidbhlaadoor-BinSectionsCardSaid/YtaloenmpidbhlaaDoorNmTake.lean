/-
  name.Valid, name.Take and the document's Take: the name with which any bytes begin, as plain functions; all memory that was there is as it was.
-/
import Derived.Test.YtaloenmpidbhlaaDoorU8Valid
import Derived.Test.YtaloenmpidbhlaaDoorU8Ref
import Derived.Test.YtaloenmpidbhlaaDoorLebTk
import Derived.Test.YtaloenmpidbhlaaDoorLebRef
namespace Nm
open U8
/-- The bytes begin with a name. -/
def ok (l : List UInt8) : Bool := Leb.okU l 32 && decide (Leb.run l + Leb.used l ≤ l.length) && text ((l.drop (Leb.run l)).take (Leb.used l))
def str (l : List UInt8) : List UInt8 := if ok l = true then (l.drop (Leb.run l)).take (Leb.used l) else []
def cnt (l : List UInt8) : Nat := if ok l = true then Leb.run l + Leb.used l else 0
theorem ok_no {l : List UInt8} (h : Leb.okU l 32 = false) : ok l = false := by unfold ok; rw [h]; rfl
theorem ok_long {l : List UInt8} (h : l.length < Leb.run l + Leb.used l) : ok l = false := by
  unfold ok; rw [decide_eq_false (by omega)]; simp
theorem ok_text {l : List UInt8} (h1 : Leb.okU l 32 = true) (h2 : Leb.run l + Leb.used l ≤ l.length) : ok l = text ((l.drop (Leb.run l)).take (Leb.used l)) := by
  unfold ok; rw [h1, decide_eq_true h2]; simp
end Nm
namespace Go.Proofs.YtaloenmpidbhlaaDoor
open Go.RowKit
/-- The library's two tables lie in the first two blocks. -/
def Tb (w : World) : Prop := Lib.Utf8Tabs 0 1 w ∧ 2 ≤ w.heap.size
theorem Tb.on {w w' : World} (h : Tb w) (hb : Below w.heap.size w w') : Tb w' := by
  obtain ⟨⟨h1, h2⟩, h3⟩ := h
  refine ⟨⟨fun c hc => (hb.cell (p := ⟨0, c, none⟩) (by simp; omega)).trans (h1 c hc), fun i hi => ?_⟩, by have := hb.size; omega⟩
  exact ⟨(hb.cell (p := ⟨1, 2 * i, none⟩) (by simp; omega)).trans (h2 i hi).1, (hb.cell (p := ⟨1, 2 * i + 1, none⟩) (by simp; omega)).trans (h2 i hi).2⟩
theorem nvalid_any (A : Option Addr) (l : List UInt8) (n c : Nat) (w : World) (hn : n = l.length) (hmax : n ≤ 9223372036854775807) (hc : n ≤ c) (hA : Has w w.heap.size A l) (hT : Tb w) :
    Calls Tryd.prog 59 #[.slice A n c] w fun e w' => e = .returned (.bool (U8.text l)) ∧ Below w.heap.size w w' := by
  have C := Lib.hid (valid_any A l n c w hn hmax hc hA hT.1 hT.2)
  clear hn hA hT
  go_enter Tryd.func59, Tryd.ntmps59
  go_wp2_with fail
  refine C.out.mono ?_
  rintro e w' ⟨rfl, hb⟩
  go_wp2_with fail
  go_ret
  exact ⟨rfl, hb⟩
def TakePost (l : List UInt8) (w : World) (e : Ending) (w' : World) : Prop := e = .returned (.tuple #[.string ⟨(Nm.str l).toArray⟩, .int .i64 (Nm.cnt l : Int), .bool (Nm.ok l)]) ∧ Below w.heap.size w w'
theorem takePost_no {l : List UInt8} {w w' : World} (h : Nm.ok l = false) (hb : Below w.heap.size w w') : TakePost l w (.returned (.tuple #[.string ⟨#[]⟩, .int .i64 0, .bool false])) w' := by
  refine ⟨?_, hb⟩
  unfold Nm.str Nm.cnt
  rw [h]; rfl
theorem Has.part {w : World} {B : Nat} {ad : Addr} {l : List UInt8} (h : Has w B (some ad) l) (k m : Nat) : Has w B (some (ad.add k)) ((l.drop k).take m) := (h.from k).take m
set_option maxHeartbeats 1000000 in
theorem ntake_any (A : Option Addr) (l : List UInt8) (n c : Nat) (w : World) (hn : n = l.length) (hmax : n ≤ 140737488355328) (hc : n ≤ c) (hcm : c ≤ 9223372036854775807) (hA : Has w w.heap.size A l) (hT : Tb w) :
    Calls Tryd.prog 35 #[.slice A n c] w (TakePost l w) := by
  have HC := Lib.hid (c8 A l n c 32 w hn (by omega) hA)
  have HA := Lib.hid hA
  have HN := Lib.hid hn
  have HT := Lib.hid hT
  clear hn hA hT
  cases hok : Leb.okU l 32 with
  | false =>
    have e1 : Leb.numU l 32 = 0 := by unfold Leb.numU; rw [hok]; rfl
    have e2 : Leb.cntU l 32 = 0 := by unfold Leb.cntU; rw [hok]; rfl
    rw [e1, e2, hok] at HC
    have HK := Lib.hid (Nm.ok_no hok)
    clear e1 e2 hok
    go_enter Tryd.func35, Tryd.ntmps35
    go_wp2_with fail
    refine HC.out.mono ?_
    rintro e w' ⟨rfl, hb⟩
    have HB := Lib.hid hb
    clear hb
    go_wp2_with fail
    go_ret3
    exact takePost_no HK.out HB.out
  | true =>
    have e1 : Leb.numU l 32 = (Leb.used l : Int) := by unfold Leb.numU; rw [hok]; rfl
    have e2 : Leb.cntU l 32 = (Leb.run l : Int) := by unfold Leb.cntU; rw [hok]; rfl
    have hu32 : Leb.used l < 4294967296 := by
      have h := hok; unfold Leb.okU at h
      have := (of_decide_eq_true h).2.2.2.2
      have e : (2 : Int) ^ (32 : Int).toNat = 4294967296 := by decide
      rw [e] at this; omega
    have hr1 : 1 ≤ Leb.run l ∧ Leb.run l ≤ n := by
      have h := hok; unfold Leb.okU at h
      have h1 := (of_decide_eq_true h).2.2.1
      have h2 := Leb.run_le l
      have := HN.out
      omega
    rw [e1, e2, hok] at HC
    have HOK := Lib.hid hok
    clear e1 e2 hok
    have HLONG := Lib.hid (@Nm.ok_long l)
    have HTX := Lib.hid (@Nm.ok_text l HOK.out)
    obtain ⟨R, hR⟩ : ∃ R, Leb.run l = R := ⟨_, rfl⟩
    obtain ⟨U, hU⟩ : ∃ U, Leb.used l = U := ⟨_, rfl⟩
    have HR := Lib.hid hR
    have HU := Lib.hid hU
    rw [hR] at hr1
    rw [hU] at hu32
    rw [hR, hU] at HC HLONG HTX
    clear hR hU
    obtain ⟨hr1, hrn⟩ := hr1
    have hsub : (0 : Int) ≤ (n : Int) - (R : Int) := by omega
    by_cases hlong : n - R < U
    · have HK := Lib.hid (HLONG.out (by have := HN.out; omega))
      have hl : (n : Int) - (R : Int) < (U : Int) := by omega
      go_enter Tryd.func35, Tryd.ntmps35
      go_wp2_with fail
      refine HC.out.mono ?_
      rintro e w' ⟨rfl, hb⟩
      have HB := Lib.hid hb
      clear hb
      go_wp2_with fail
      go_ret3
      exact takePost_no HK.out HB.out
    · have hl : decide ((n : Int) - (R : Int) < (U : Int)) = false := by simp; omega
      have hru : R + U ≤ n := by omega
      have HTX2 := Lib.hid (HTX.out (by have := HN.out; omega))
      obtain ⟨ad, rfl⟩ := HA.out.someAddr (by have := HN.out; omega)
      obtain ⟨t, ht⟩ : ∃ t, (l.drop R).take U = t := ⟨_, rfl⟩
      have htl : U = t.length := by rw [← ht]; have := HN.out; simp; omega
      have hAt := HA.out.part R U
      rw [ht] at hAt
      have HAT := Lib.hid hAt
      have HTL := Lib.hid htl
      have HTT := Lib.hid ht
      rw [ht] at HTX2
      clear hAt htl ht HLONG HTX
      by_cases hU0 : U = 0
      · subst hU0
        have ht0 : t = [] := List.eq_nil_of_length_eq_zero HTL.out.symm
        subst ht0
        have hxt : U8.text [] = true := rfl
        rw [hxt] at HTX2
        go_enter Tryd.func35, Tryd.ntmps35
        go_wp2_with fail
        refine HC.out.mono ?_
        rintro e w' ⟨rfl, hb⟩
        have HB := Lib.hid hb
        have HT2 := Lib.hid (HT.out.on hb)
        clear hb
        go_wp2_with fail
        all_goals
          refine (nvalid_any _ [] 0 _ _ rfl (by omega) (by omega) (Has.nil _ _ _) HT2.out).mono ?_
          rintro e w2 ⟨rfl, hb2⟩
          have HB2 := Lib.hid (HB.out.trans (hb2.mono HB.out.size))
          clear hb2
          rw [hxt]
          have hcv := fun A c => run_str (w := w2) (B := 0) (n := 0) (A := A) (Has.nil w2 0 A) rfl c
          go_wp2_with fail
          go_ret3
          refine ⟨?_, HB2.out⟩
          unfold Nm.str Nm.cnt
          rw [HTX2.out, if_pos rfl, if_pos rfl, HR.out, HU.out, HTT.out]
          rfl
      · cases hx : U8.text t with
        | false =>
          rw [hx] at HTX2
          go_enter Tryd.func35, Tryd.ntmps35
          go_wp2_with fail
          refine HC.out.mono ?_
          rintro e w' ⟨rfl, hb⟩
          have HB := Lib.hid hb
          have HAT2 := Lib.hid (HAT.out.on hb)
          have HT2 := Lib.hid (HT.out.on hb)
          clear hb
          go_wp2_with fail
          refine (nvalid_any _ t U U _ HTL.out (by omega) (by omega) HAT2.out HT2.out).mono ?_
          rintro e w2 ⟨rfl, hb2⟩
          have HB2 := Lib.hid (HB.out.trans (hb2.mono HB.out.size))
          clear hb2
          rw [hx]
          go_wp2_with fail
          go_ret3
          exact takePost_no HTX2.out HB2.out
        | true =>
          rw [hx] at HTX2
          go_enter Tryd.func35, Tryd.ntmps35
          go_wp2_with fail
          refine HC.out.mono ?_
          rintro e w' ⟨rfl, hb⟩
          have HB := Lib.hid hb
          have HAT2 := Lib.hid (HAT.out.on hb)
          have HT2 := Lib.hid (HT.out.on hb)
          clear hb
          go_wp2_with fail
          refine (nvalid_any _ t U U _ HTL.out (by omega) (by omega) HAT2.out HT2.out).mono ?_
          rintro e w2 ⟨rfl, hb2⟩
          have HB2 := Lib.hid (HB.out.trans (hb2.mono HB.out.size))
          have hcv := run_str (HAT2.out.on hb2) HTL.out U
          clear hb2
          rw [hx]
          go_wp2_with fail
          go_ret3
          refine ⟨?_, HB2.out⟩
          unfold Nm.str Nm.cnt
          rw [HTX2.out, if_pos rfl, if_pos rfl, HR.out, HU.out, HTT.out]
          push_cast
          rfl
end Go.Proofs.YtaloenmpidbhlaaDoor
