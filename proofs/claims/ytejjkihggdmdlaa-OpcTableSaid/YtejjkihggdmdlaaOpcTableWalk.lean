/-
  The walk over the statement OpcTable: for every opcode it answers true and leaves all memory that was there as it was.
-/
import Derived.Test.YtejjkihggdmdlaaOpcSigR
import Derived.Test.YtejjkihggdmdlaaOpcFacts
namespace Opc
def refOk (n : Nat) : Bool := match row? n with
  | Option.none => false
  | some r => r.sig != [45]
def beforeGt (n : Nat) : List UInt8 := (row n).sig.takeWhile (· != 62)
def behindGt (n : Nat) : List UInt8 := ((row n).sig.dropWhile (· != 62)).drop 1
theorem fact5 : all (fun n => (plain n == refOk n) && (refOk n || (sigP n == [] && sigR n == []))) = true := by decide +kernel
theorem fact6 : all (fun n => !refOk n || (sigP n == letters (beforeGt n) && sigR n == letters (behindGt n) && (row n).sig == beforeGt n ++ 62 :: behindGt n && (beforeGt n).all (· != 62) && decide ((beforeGt n).length + (behindGt n).length ≤ 100))) = true := by decide +kernel
theorem fact7 : all (fun n => (known n == (row? n).isSome) && (form n == ((row n).form : Int)) && (width n == ((row n).width : Int))) = true := by decide +kernel
theorem sig_len (n : Int) : (sigP n).length ≤ 2 ∧ (sigR n).length ≤ 1 := by
  unfold sigP sigR
  constructor <;> (repeat' split) <;> simp
end Opc
namespace Go.Proofs.Ytejjkihggdmdlaa
open Go.RowKit
theorem sigR_any (n : Nat) (hn : n < 256) (w : World) : Calls Try.prog 9 #[.int .u8 (n : Int)] w (SigPostR (Opc.sigP n) (Opc.sigR n) (Opc.plain n) w) := by
  have f5 := Opc.all_at Opc.fact5 hn
  have f6 := Opc.all_at Opc.fact6 hn
  simp only [Bool.and_eq_true, Bool.or_eq_true, beq_iff_eq, Bool.not_eq_true', decide_eq_true_eq, List.all_eq_true, bne_iff_ne] at f5 f6
  cases hk : Opc.refOk n with
  | false =>
    rw [hk] at f5
    obtain ⟨h1, h2⟩ := f5
    rcases h2 with h2 | ⟨h2, h3⟩
    · cases h2
    rw [h1, h2, h3]
    apply sigR_no
    unfold Opc.refOk at hk
    cases hr : Opc.row? n with
    | none => exact .inl rfl
    | some r => rw [hr] at hk; exact .inr ⟨r, rfl, by simpa using hk⟩
  | true =>
    rw [hk] at f5 f6
    obtain ⟨h1, _⟩ := f5
    rcases f6 with f6 | ⟨⟨⟨⟨h2, h3⟩, h4⟩, h5⟩, h6⟩
    · cases f6
    rw [h1, h2, h3]
    cases hr : Opc.row? n with
    | none => unfold Opc.refOk at hk; rw [hr] at hk; cases hk
    | some r =>
      have hrow : Opc.row n = r := by unfold Opc.row; rw [hr]; rfl
      have h45 : r.sig ≠ [45] := by unfold Opc.refOk at hk; rw [hr] at hk; simpa using hk
      rw [hrow] at h4
      exact sigR_yes n w r hr _ _ h4 h5 h6 h45
theorem keepT {g1 w w' : World} {g : Nat} {a b : Value} {c : Value} {A1 A2 B1 B2 : Option Addr} {p r : List UInt8} {c1 c2 d1 d2 : Nat}
    {X : Prop} (h : Below g1.heap.size g1 w ∧ (w.cell? ⟨g, 2, none⟩ = some a ∧ w.cell? ⟨g, 4, none⟩ = some b ∧ w.cell? ⟨g, 1, none⟩ = some c) ∧ X) (hg : g < g1.heap.size)
    (hA1 : Has g1 g1.heap.size A1 p) (hB1 : Has g1 g1.heap.size B1 r) (hA2 : Has g1 g1.heap.size A2 p) (hB2 : Has g1 g1.heap.size B2 r) (hb : Below w.heap.size w w') :
    Below g1.heap.size g1 w' ∧ (w'.cell? ⟨g, 2, none⟩ = some a ∧ w'.cell? ⟨g, 4, none⟩ = some b ∧ w'.cell? ⟨g, 1, none⟩ = some c) ∧
    (convert 27 9 (.slice A1 p.length c1)).run Try.prog w' = .ok (.string ⟨p.toArray⟩) w' ∧ (convert 27 9 (.slice A2 p.length c2)).run Try.prog w' = .ok (.string ⟨p.toArray⟩) w' ∧
    (convert 27 9 (.slice B1 r.length d1)).run Try.prog w' = .ok (.string ⟨r.toArray⟩) w' ∧ (convert 27 9 (.slice B2 r.length d2)).run Try.prog w' = .ok (.string ⟨r.toArray⟩) w' := by
  have hgw : g < w.heap.size := by have := h.1.size; omega
  have h1 : Below g1.heap.size g1 w' := h.1.trans (hb.mono h.1.size)
  refine ⟨h1, ⟨(hb.cell (p := ⟨g, 2, none⟩) hgw).trans h.2.1.1, (hb.cell (p := ⟨g, 4, none⟩) hgw).trans h.2.1.2.1, (hb.cell (p := ⟨g, 1, none⟩) hgw).trans h.2.1.2.2⟩, ?_, ?_, ?_, ?_⟩
  · exact run_str (hA1.below h1) rfl _
  · exact run_str (hA2.below h1) rfl _
  · exact run_str (hB1.below h1) rfl _
  · exact run_str (hB2.below h1) rfl _
set_option maxRecDepth 100000 in
set_option maxHeartbeats 4000000 in
theorem table_walk (n : Nat) (hn : n < 256) (w : World) : Calls Try.prog 3 #[.int .u8 (n : Int)] w fun e w' => e = .returned (.bool true) ∧ Below w.heap.size w w' := by
  have f7 := Opc.all_at Opc.fact7 hn
  simp only [Bool.and_eq_true, beq_iff_eq] at f7
  obtain ⟨⟨f1, f2⟩, f3⟩ := f7
  obtain ⟨r, hr⟩ : ∃ r, Opc.row n = r := ⟨_, rfl⟩
  obtain ⟨b, hb⟩ : ∃ b, (Opc.row? n).isSome = b := ⟨_, rfl⟩
  have hnm : nm n = ⟨r.name.toArray⟩ := by unfold nm; rw [hr]
  have CF : ∀ w, Calls Try.prog 7 #[.int .u8 (n : Int)] w fun e w' => e = .returned (.tuple #[.agg #[.int .u8 (r.op : Int), .string ⟨r.name.toArray⟩, .int .u8 (r.form : Int), .string ⟨r.sig.toArray⟩, .int .i64 (r.width : Int)], .bool b]) ∧ Below w.heap.size w w' := by
    intro w; have h := row_find n w; unfold FindPost at h; rw [show (Opc.row? n).getD Opc.none = r from hr, hb] at h; exact h
  have CK : ∀ w, Calls Try.prog 10 #[.int .u8 (n : Int)] w fun e w' => e = .returned (.bool b) ∧ w = w' := by
    intro w; have h := known_any n w; rw [f1, hb] at h; exact h
  have CFm : ∀ w, Calls Try.prog 13 #[.int .u8 (n : Int)] w fun e w' => e = .returned (.int .u8 (r.form : Int)) ∧ w = w' := by
    intro w; have h := form_any n w; rw [f2, hr] at h; exact h
  have CW : ∀ w, Calls Try.prog 14 #[.int .u8 (n : Int)] w fun e w' => e = .returned (.int .i64 (r.width : Int)) ∧ w = w' := by
    intro w; have h := width_any n w; rw [f3, hr] at h; exact h
  have CN : ∀ w, Calls Try.prog 15 #[.int .u8 (n : Int)] w fun e w' => e = .returned (.string ⟨r.name.toArray⟩) ∧ Below w.heap.size w w' := by
    intro w; have h := name_any n hn w; rw [hnm] at h; exact h
  have CFl : ∀ w, Calls Try.prog 11 #[.int .u8 (n : Int)] w fun e w' => e = .returned (.bool (Opc.float n)) ∧ w = w' := float_any n
  have CFr : ∀ w, Calls Try.prog 12 #[.int .u8 (n : Int)] w fun e w' => e = .returned (.bool (Opc.float n)) ∧ Below w.heap.size w w' := floats_any n
  have CS : ∀ w, Calls Try.prog 8 #[.int .u8 (n : Int)] w (SigPost (Opc.sigP n) (Opc.sigR n) (Opc.plain n) w) := sig_any n
  have CR : ∀ w, Calls Try.prog 9 #[.int .u8 (n : Int)] w (SigPostR (Opc.sigP n) (Opc.sigR n) (Opc.plain n) w) := sigR_any n hn
  generalize Opc.float n = fl at CFl CFr
  generalize Opc.plain n = pl at CS CR
  generalize Opc.sigP n = p at CS CR
  generalize Opc.sigR n = q at CS CR
  generalize (⟨r.name.toArray⟩ : ByteArray) = NM at CF CN
  generalize (⟨r.sig.toArray⟩ : ByteArray) = SG at CF
  have HCF := Lib.hid CF
  have HCK := Lib.hid CK
  have HCFm := Lib.hid CFm
  have HCW := Lib.hid CW
  have HCN := Lib.hid CN
  have HCFl := Lib.hid CFl
  have HCFr := Lib.hid CFr
  have HCS := Lib.hid CS
  have HCR := Lib.hid CR
  clear CF CK CFm CW CN CFl CFr CS CR f1 f2 f3 hr hb hnm
  go_enter Try.func3, Try.ntmps3
  go_wp2_with fail
  refine (rows_any _).mono ?_
  rintro e w1 ⟨rfl, hb1⟩
  have HB1 := Lib.hid hb1
  clear hb1
  go_wp2_with fail
  refine (HCF.out _).mono ?_
  rintro e w2 ⟨rfl, hb2⟩
  have HB2 := Lib.hid ((HB1.out.trans (hb2.mono HB1.out.size)).alloc (by have := HB1.out.size; have := hb2.size; omega) (.cells #[.int .u8 (r.op : Int), .string NM, .int .u8 (r.form : Int), .string SG, .int .i64 (r.width : Int)] 24))
  clear hb2 HB1
  go_wp2_with fail
  have hc2 : (w2.alloc (.cells #[.int .u8 (r.op : Int), .string NM, .int .u8 (r.form : Int), .string SG, .int .i64 (r.width : Int)] 24)).cell? ⟨w2.heap.size, 2, none⟩ = some (.int .u8 (r.form : Int)) := by simp [go_sem]
  have hc4 : (w2.alloc (.cells #[.int .u8 (r.op : Int), .string NM, .int .u8 (r.form : Int), .string SG, .int .i64 (r.width : Int)] 24)).cell? ⟨w2.heap.size, 4, none⟩ = some (.int .i64 (r.width : Int)) := by simp [go_sem]
  have hc1 : (w2.alloc (.cells #[.int .u8 (r.op : Int), .string NM, .int .u8 (r.form : Int), .string SG, .int .i64 (r.width : Int)] 24)).cell? ⟨w2.heap.size, 1, none⟩ = some (.string NM) := by simp [go_sem]
  have hlt : w2.heap.size < (w2.alloc (.cells #[.int .u8 (r.op : Int), .string NM, .int .u8 (r.form : Int), .string SG, .int .i64 (r.width : Int)] 24)).heap.size := by simp
  generalize w2.alloc (.cells #[.int .u8 (r.op : Int), .string NM, .int .u8 (r.form : Int), .string SG, .int .i64 (r.width : Int)] 24) = w3 at HB2 hc1 hc2 hc4 hlt ⊢
  generalize w2.heap.size = g at hc1 hc2 hc4 hlt ⊢
  have H1 := Lib.hid hc1
  have H2 := Lib.hid hc2
  have H4 := Lib.hid hc4
  clear hc1 hc2 hc4
  refine (HCS.out _).mono ?_
  rintro e w4 ⟨A1, B1, rfl, ha1, hb1, hbel⟩
  have HB4 := Lib.hid hbel
  have HA1 := Lib.hid ha1
  have HE1 := Lib.hid hb1
  clear hbel ha1 hb1
  go_wp2_with fail
  refine (HCR.out _).mono ?_
  rintro e w5 ⟨A2, B2, c2, d2, rfl, ha2, hb2, hbel⟩
  have HA2 := Lib.hid ha2
  have HE2 := Lib.hid hb2
  have HA15 := Lib.hid (HA1.out.on hbel)
  have HE15 := Lib.hid (HE1.out.on hbel)
  have HB35 := Lib.hid (HB4.out.trans (hbel.mono HB4.out.size))
  have HG5 : Hid (g < w5.heap.size) := Lib.hid (by have := HB35.out.size; omega)
  have H15 := Lib.hid ((HB35.out.cell (p := ⟨g, 1, none⟩) hlt).trans H1.out)
  have H25 := Lib.hid ((HB35.out.cell (p := ⟨g, 2, none⟩) hlt).trans H2.out)
  have H45 := Lib.hid ((HB35.out.cell (p := ⟨g, 4, none⟩) hlt).trans H4.out)
  have HB5 := Lib.hid (HB2.out.trans (HB35.out.mono HB2.out.size))
  clear hbel ha2 hb2 HA1 HE1 HB4 H1 H2 H4 HB35 HB2 hlt
  go_wp2_with fail
  have hS0 := keepT (c1 := p.length) (c2 := c2) (d1 := q.length) (d2 := d2) (X := True) ⟨Below.refl _ _, ⟨H25.out, H45.out, H15.out⟩, trivial⟩ HG5.out HA15.out HE15.out HA2.out HE2.out (Below.drew (Below.refl _ _))
  have HS0 := Lib.hid hS0
  clear hS0
  go_region_held3 (fun w' => Below w5.heap.size w5 w' ∧ (w'.cell? ⟨g, 2, none⟩ = some (.int .u8 (r.form : Int)) ∧ w'.cell? ⟨g, 4, none⟩ = some (.int .i64 (r.width : Int)) ∧ w'.cell? ⟨g, 1, none⟩ = some (.string NM)) ∧ (convert 27 9 (.slice A1 p.length p.length)).run Try.prog w' = .ok (.string ⟨p.toArray⟩) w' ∧ (convert 27 9 (.slice A2 p.length c2)).run Try.prog w' = .ok (.string ⟨p.toArray⟩) w' ∧ (convert 27 9 (.slice B1 q.length q.length)).run Try.prog w' = .ok (.string ⟨q.toArray⟩) w' ∧ (convert 27 9 (.slice B2 q.length d2)).run Try.prog w' = .ok (.string ⟨q.toArray⟩) w')
    (first | exact HS0.out | assumption | exact keepT (by assumption) HG5.out HA15.out HE15.out HA2.out HE2.out hbb)
    (first | ((go_at_call 10; refine (HCK.out _).mono ?_; rintro e w' ⟨rfl, rfl⟩)) | ((go_at_call 11; refine (HCFl.out _).mono ?_; rintro e w' ⟨rfl, rfl⟩)) | ((go_at_call 13; refine (HCFm.out _).mono ?_; rintro e w' ⟨rfl, rfl⟩)) | ((go_at_call 14; refine (HCW.out _).mono ?_; rintro e w' ⟨rfl, rfl⟩)) | ((go_at_call 12; refine (HCFr.out _).mono ?_; rintro e w6 ⟨rfl, hbb⟩)) | ((go_at_call 15; refine (HCN.out _).mono ?_; rintro e w7 ⟨rfl, hbb⟩)))
  have hfin : ∀ w', Below w5.heap.size w5 w' → Below w.heap.size w w' := fun w' h => HB5.out.trans (h.mono HB5.out.size)
  go_wp2
  go_ret
  exact ⟨rfl, hfin _ (And.left (by assumption))⟩
end Go.Proofs.Ytejjkihggdmdlaa
