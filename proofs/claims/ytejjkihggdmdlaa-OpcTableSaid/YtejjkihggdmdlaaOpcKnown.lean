/-
  The statements' first step: the chapter's rows hold.
-/
import Derived.Test.YtejjkihggdmdlaaOpcFind
namespace Go.Proofs.Ytejjkihggdmdlaa
open Go.RowKit
theorem sig55 (w : World) : Calls Try.prog 8 #[.int .u8 55] w (SigPost [127, 126] [] true w) := by
  have h := sig_any 55 w
  rw [show Opc.sigP 55 = [127, 126] by decide +kernel, show Opc.sigR 55 = [] by decide +kernel, show Opc.plain 55 = true by decide +kernel] at h
  exact h
theorem sig16 (w : World) : Calls Try.prog 8 #[.int .u8 16] w (SigPost [] [] false w) := by
  have h := sig_any 16 w
  rw [show Opc.sigP 16 = [] by decide +kernel, show Opc.sigR 16 = [] by decide +kernel, show Opc.plain 16 = false by decide +kernel] at h
  exact h
theorem find73 (w : World) : Calls Try.prog 17 #[.string ⟨#[105, 51, 50, 46, 108, 116, 95, 117]⟩] w fun e w' => e = .returned (.tuple #[.int .u8 73, .bool true]) ∧ Below w.heap.size w w' := by
  have h := find_any ⟨#[105, 51, 50, 46, 108, 116, 95, 117]⟩ w
  rw [ByteArray.toList_eq, show Opc.find (ByteArray.data ⟨#[105, 51, 50, 46, 108, 116, 95, 117]⟩).toList = some 73 by decide +kernel] at h
  exact h
theorem known_lit (x : Int) (b : Bool) (h : Opc.known x = b) (w : World) : Calls Try.prog 10 #[.int .u8 x] w fun e w' => e = .returned (.bool b) ∧ w = w' := by
  subst h; exact known_any x w
theorem float_lit (x : Int) (b : Bool) (h : Opc.float x = b) (w : World) : Calls Try.prog 11 #[.int .u8 x] w fun e w' => e = .returned (.bool b) ∧ w = w' := by
  subst h; exact float_any x w
theorem form_lit (x b : Int) (h : Opc.form x = b) (w : World) : Calls Try.prog 13 #[.int .u8 x] w fun e w' => e = .returned (.int .u8 b) ∧ w = w' := by
  subst h; exact form_any x w
theorem width_lit (x b : Int) (h : Opc.width x = b) (w : World) : Calls Try.prog 14 #[.int .u8 x] w fun e w' => e = .returned (.int .i64 b) ∧ w = w' := by
  subst h; exact width_any x w
theorem name138 (w : World) : Calls Try.prog 15 #[.int .u8 138] w fun e w' => e = .returned (.string ⟨#[105, 54, 52, 46, 114, 111, 116, 114]⟩) ∧ Below w.heap.size w w' := by
  have h := name_any 138 (by decide) w
  rw [show nm 138 = ⟨#[105, 54, 52, 46, 114, 111, 116, 114]⟩ by unfold nm; congr] at h
  exact h
set_option maxHeartbeats 1000000 in
theorem rows_any (w : World) : Calls Try.prog 6 #[] w fun e w' => e = .returned (.bool true) ∧ Below w.heap.size w w' := by
  go_enter Try.func6, Try.ntmps6
  go_wp2_with fail
  refine (sig55 _).mono ?_
  rintro e w1 ⟨A1, B1, rfl, ha1, hb1, hbel⟩
  have HB := Lib.hid hbel
  have HA := Lib.hid ha1
  clear hbel ha1 hb1
  go_wp2_with fail
  refine (sig16 _).mono ?_
  rintro e w2 ⟨A2, B2, rfl, ha2, hb2, hbel⟩
  have HB2 := Lib.hid (HB.out.trans (hbel.mono HB.out.size))
  have HA2 := Lib.hid (HA.out.on hbel)
  clear hbel ha2 hb2 HA HB
  go_wp2_with fail
  refine (find73 _).mono ?_
  rintro e w3 ⟨rfl, hbel⟩
  have HB3 := Lib.hid (HB2.out.trans (hbel.mono HB2.out.size))
  have hcv := run_str (n := 2) (HA2.out.on hbel) rfl 2
  clear hbel HA2 HB2
  go_wp2_with fail
  refine (known_lit 106 true (by decide +kernel) _).mono ?_
  rintro e w' ⟨rfl, rfl⟩
  go_wp2_with fail
  refine (known_lit 192 false (by decide +kernel) _).mono ?_
  rintro e w' ⟨rfl, rfl⟩
  go_wp2_with fail
  refine (float_lit 168 true (by decide +kernel) _).mono ?_
  rintro e w' ⟨rfl, rfl⟩
  go_wp2_with fail
  refine (float_lit 167 false (by decide +kernel) _).mono ?_
  rintro e w' ⟨rfl, rfl⟩
  go_wp2_with fail
  refine (form_lit 17 5 (by decide +kernel) _).mono ?_
  rintro e w' ⟨rfl, rfl⟩
  go_wp2_with fail
  refine (width_lit 53 4 (by decide +kernel) _).mono ?_
  rintro e w' ⟨rfl, rfl⟩
  go_wp2_with fail
  refine (name138 _).mono ?_
  rintro e w4 ⟨rfl, hbel⟩
  have HB4 := Lib.hid (HB3.out.trans (hbel.mono HB3.out.size))
  clear hbel HB3 hcv
  go_wp2_with fail
  go_ret
  exact ⟨rfl, HB4.out⟩
end Go.Proofs.Ytejjkihggdmdlaa
