/-
  The statements' first step: the chapter's rows hold.
-/
import Derived.Test.YtbpnlnonhjnnbaaLebRefFew
import Derived.Test.YtbpnlnonhjnnbaaLebAppend
import Derived.Test.YtbpnlnonhjnnbaaLebTakeU
import Derived.Test.YtbpnlnonhjnnbaaLebTakeS
import Derived.Laws.IdiomStrings
namespace Go.Proofs.Ytbpnlnonhjnnbaa
open Go.RowKit
theorem und5 : Try.prog.underlying 5 = some (.int .u8) := by kernel_rfl
theorem und9 : Try.prog.underlying 9 = some .string := by kernel_rfl
/-- string(b). -/
theorem run_str {w : World} {B n : Nat} {A : Option Addr} {l : List UInt8} (hA : Has w B A l) (hn : n = l.length) (c : Nat) : (convert 22 9 (.slice A n c)).run Try.prog w = .ok (.string ⟨l.toArray⟩) w := by
  subst hn
  cases A with
  | none =>
    have : l = [] := by
      cases l with
      | nil => rfl
      | cons x r =>
        obtain ⟨ad, h, _⟩ := hA 0 x (by simp)
        cases h
    subst this
    exact (run_convert_bytes_string w 22 9 5 none 0 c und22 und5 und9).trans rfl
  | some a =>
    refine run_convert_bytes_back w 22 9 5 a c l und22 und5 und9 (fun j hj => ?_)
    obtain ⟨ad, h, _, hc⟩ := hA j l[j] (List.getElem?_eq_getElem hj)
    injection h with h
    subst h
    exact hc
/-- A row of the call's own reads as its bytes. -/
theorem Has.own {w : World} {base n : Nat} {e : TypeId} {v : Value} {l : List UInt8} (h : w.ownsRow base e 1 v n (bytesOf l)) : ∃ (A : Option Addr) (c : Nat), v = .slice A n c ∧ n ≤ c ∧ n = l.length ∧ Has w w.heap.size A l := by
  by_cases hn : 1 ≤ n
  · obtain ⟨ad, c, h1, h2, h3, h4⟩ := Has.of_own h hn
    exact ⟨_, c, h1, h2, h3, h4⟩
  · have hl := h.1
    rw [bytesOf_length, Nat.mul_one] at hl
    have : l = [] := List.eq_nil_of_length_eq_zero (by omega)
    subst this
    rcases h.2 with ⟨rfl, h0⟩ | ⟨g, cap, cur, rfl, _, _, hc, _⟩
    · subst h0; exact ⟨none, 0, rfl, Nat.le_refl _, rfl, Has.nil _ _ _⟩
    · exact ⟨_, cap, rfl, hc, hl.symm, Has.nil _ _ _⟩
/-- A literal of bytes. -/
theorem Has.lit (w : World) (l : List UInt8) (t : TypeId) : Has (w.alloc (.cells (bytesOf l).toArray t)) (w.heap.size + 1) (some ⟨w.heap.size, 0, none⟩) l := fun k x hx => by
  refine ⟨_, rfl, Nat.lt_succ_self _, ?_⟩
  have e2 : (⟨w.heap.size, 0, none⟩ : Addr).add k = ⟨w.heap.size, k, none⟩ := by
    unfold Addr.add; split <;> simp_all
  rw [e2, World.cell?_alloc_new]
  simp [bytesOf, hx]
theorem enc1 : Leb.encU 624485 = [229, 142, 38] := by
  rw [Leb.encU_big (by decide), Leb.encU_big (by decide), Leb.encU_small (by decide)]; decide
theorem enc2 : Leb.encS (-123456) = [192, 187, 120] := by
  rw [Leb.encS_big (by decide), Leb.encS_big (by decide), Leb.encS_small (by decide)]; decide
theorem takeU_lit (l : List UInt8) (b : Int) (n : Nat) (w : World) (cs : Array Value) (hcs : cs = (bytesOf l).toArray) (hn : n = l.length) (hn5 : n ≤ 5) (N K : Int) (ok : Bool) (h1 : Leb.numU l b = N) (h2 : Leb.cntU l b = K) (h3 : Leb.okU l b = ok) :
    Calls Try.prog 8 #[.slice (some ⟨w.heap.size, 0, none⟩) n n, .int .i64 b] (w.alloc (.cells cs 5)) fun e w' => e = .returned (.tuple #[.int .u64 N, .int .i64 K, .bool ok]) ∧ Below w.heap.size w w' := by
  subst hcs
  have hh := (Has.lit w l 5).more (B' := (w.alloc (.cells (bytesOf l).toArray 5)).heap.size) (by simp)
  refine (c8 _ l n n b _ hn (by omega) hh).mono ?_
  rintro e w' ⟨rfl, hb⟩
  exact ⟨by rw [h1, h2, h3], ((Below.refl _ _).alloc (Nat.le_refl _) _).trans (hb.mono (by simp))⟩
theorem takeS_lit (l : List UInt8) (b : Int) (n : Nat) (w : World) (cs : Array Value) (hcs : cs = (bytesOf l).toArray) (hn : n = l.length) (hn5 : n ≤ 5) (N K : Int) (ok : Bool) (h1 : Leb.numS l b = N) (h2 : Leb.cntS l b = K) (h3 : Leb.okS l b = ok) :
    Calls Try.prog 10 #[.slice (some ⟨w.heap.size, 0, none⟩) n n, .int .i64 b] (w.alloc (.cells cs 5)) fun e w' => e = .returned (.tuple #[.int .i64 N, .int .i64 K, .bool ok]) ∧ Below w.heap.size w w' := by
  subst hcs
  have hh := (Has.lit w l 5).more (B' := (w.alloc (.cells (bytesOf l).toArray 5)).heap.size) (by simp)
  refine (c10 _ l n n b _ hn (by omega) hh).mono ?_
  rintro e w' ⟨rfl, hb⟩
  exact ⟨by rw [h1, h2, h3], ((Below.refl _ _).alloc (Nat.le_refl _) _).trans (hb.mono (by simp))⟩
set_option maxHeartbeats 2000000 in
theorem c7 (w : World) : Calls Try.prog 7 #[] w fun e w' => e = .returned (.bool true) ∧ Below w.heap.size w w' := by
  go_enter Try.func7, Try.ntmps7
  go_wp2_with fail
  refine (c11 none [] 0 0 624485 _ rfl (by omega) (Has.nil _ _ _) (by decide)).mono ?_
  rintro e w1 ⟨v, rfl, hown, hbel⟩
  rw [enc1] at hown
  obtain ⟨A1, k1, rfl, _, hl1, hh1⟩ := Has.own hown
  have hcv := run_str (n := 3) hh1 rfl k1
  have HB := Lib.hid hbel
  clear hown hbel hl1 hh1
  go_wp2_with fail
  refine (c12 none [] 0 0 (-123456) _ rfl (by omega) (Has.nil _ _ _) (by decide)).mono ?_
  rintro e w2 ⟨v, rfl, hown, hbel⟩
  rw [enc2] at hown
  obtain ⟨A2, k2, rfl, _, hl2, hh2⟩ := Has.own hown
  have hcv2 := run_str (n := 3) hh2 rfl k2
  have HB2 := Lib.hid (HB.out.trans (hbel.mono HB.out.size))
  clear hown hbel hl2 hh2 HB hcv
  go_wp2_with fail
  refine (takeU_lit [229, 142, 38, 255] 32 4 _ _ rfl rfl (by decide) 624485 3 true (by decide +kernel) (by decide +kernel) (by decide +kernel)).mono ?_
  rintro e w3 ⟨rfl, hbel⟩
  have HB3 := Lib.hid (HB2.out.trans (hbel.mono HB2.out.size))
  clear hbel HB2
  go_wp2_with fail
  refine (takeS_lit [127] 7 1 _ _ rfl rfl (by decide) (-1) 1 true (by decide +kernel) (by decide +kernel) (by decide +kernel)).mono ?_
  rintro e w4 ⟨rfl, hbel⟩
  have HB4 := Lib.hid (HB3.out.trans (hbel.mono HB3.out.size))
  clear hbel HB3
  clear hcv2
  go_wp2_with fail
  refine (takeU_lit [131, 0] 8 2 _ _ rfl rfl (by decide) 3 2 true (by decide +kernel) (by decide +kernel) (by decide +kernel)).mono ?_
  rintro e w5 ⟨rfl, hbel⟩
  have HB5 := Lib.hid (HB4.out.trans (hbel.mono HB4.out.size))
  clear hbel HB4
  go_wp2_with fail
  refine (takeU_lit [131, 16] 8 2 _ _ rfl rfl (by decide) 0 0 false (by decide +kernel) (by decide +kernel) (by decide +kernel)).mono ?_
  rintro e w6 ⟨rfl, hbel⟩
  have HB6 := Lib.hid (HB5.out.trans (hbel.mono HB5.out.size))
  clear hbel HB5
  go_wp2_with fail
  refine (takeU_lit [128] 32 1 _ _ rfl rfl (by decide) 0 0 false (by decide +kernel) (by decide +kernel) (by decide +kernel)).mono ?_
  rintro e w7 ⟨rfl, hbel⟩
  have HB7 := Lib.hid (HB6.out.trans (hbel.mono HB6.out.size))
  clear hbel HB6
  go_wp2_with fail
  refine (takeU_lit [0] 0 1 _ _ rfl rfl (by decide) 0 0 false (by decide +kernel) (by decide +kernel) (by decide +kernel)).mono ?_
  rintro e w8 ⟨rfl, hbel⟩
  have HB8 := Lib.hid (HB7.out.trans (hbel.mono HB7.out.size))
  clear hbel HB7
  go_wp2_with fail
  refine (takeS_lit [255, 255, 255, 255, 79] 32 5 _ _ rfl rfl (by decide) 0 0 false (by decide +kernel) (by decide +kernel) (by decide +kernel)).mono ?_
  rintro e w9 ⟨rfl, hbel⟩
  have HB9 := Lib.hid (HB8.out.trans (hbel.mono HB8.out.size))
  clear hbel HB8
  go_wp2_with fail
  refine (takeS_lit [128, 128, 128, 128, 120] 32 5 _ _ rfl rfl (by decide) (-2147483648) 5 true (by decide +kernel) (by decide +kernel) (by decide +kernel)).mono ?_
  rintro e w10 ⟨rfl, hbel⟩
  have HB10 := Lib.hid (HB9.out.trans (hbel.mono HB9.out.size))
  clear hbel HB9
  go_wp2_with fail
  go_ret
  exact ⟨rfl, HB10.out⟩
end Go.Proofs.Ytbpnlnonhjnnbaa
