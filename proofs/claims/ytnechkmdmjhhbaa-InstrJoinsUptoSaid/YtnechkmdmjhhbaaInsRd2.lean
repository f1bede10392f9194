/-
  The reader's number of 32 bits, and its constant.
-/
import Derived.Test.YtnechkmdmjhhbaaInsRd
import Derived.Test.YtnechkmdmjhhbaaLebTakeU
import Derived.Test.YtnechkmdmjhhbaaLebTakeS
import Derived.Deep.RegionHeld3
namespace Ins
open Leb
theorem rdNum_spec {l : List UInt8} {x k : Nat} (h : rdNum l = .ok (x, k)) : numU l 32 = (x : Int) ∧ cntU l 32 = (k : Int) ∧ okU l 32 = true := by
  unfold rdNum at h
  split at h
  · next h1 => simp only [Except.ok.injEq, Prod.mk.injEq] at h; obtain ⟨rfl, rfl⟩ := h; exact ⟨by rw [numU, if_pos h1], by rw [cntU, if_pos h1], h1⟩
  · cases h
theorem rdNum_spec' {l : List UInt8} {e : Nat} (h : rdNum l = .error e) : numU l 32 = 0 ∧ cntU l 32 = 0 ∧ okU l 32 = false ∧ e = 60 := by
  unfold rdNum at h
  split at h
  · cases h
  · next h1 => simp only [Except.error.injEq] at h; exact ⟨by rw [numU, if_neg h1], by rw [cntU, if_neg h1], by simpa using h1, h.symm⟩
theorem rdConst_spec {l : List UInt8} {b x : Int} {k : Nat} (h : rdConst l b = .ok (x, k)) : numS l b = x ∧ cntS l b = (k : Int) ∧ okS l b = true := by
  unfold rdConst at h
  split at h
  · next h1 => simp only [Except.ok.injEq, Prod.mk.injEq] at h; obtain ⟨rfl, rfl⟩ := h; exact ⟨by rw [numS, if_pos h1], by rw [cntS, if_pos h1], h1⟩
  · cases h
theorem rdConst_spec' {l : List UInt8} {b : Int} {e : Nat} (h : rdConst l b = .error e) : numS l b = 0 ∧ cntS l b = 0 ∧ okS l b = false ∧ e = 60 := by
  unfold rdConst at h
  split at h
  · cases h
  · next h1 => simp only [Except.error.injEq] at h; exact ⟨by rw [numS, if_neg h1], by rw [cntS, if_neg h1], by simpa using h1, h.symm⟩
end Ins
namespace Go.Proofs.Ytnechkmdmjhhbaa
open Go.RowKit Ins
theorem held_rd {w w' : World} {R : Nat} {x y : Value} (hb : Below w.heap.size w w') (hR : R < w.heap.size) (h0 : w.cell? ⟨R, 0, none⟩ = some x) (h1 : w.cell? ⟨R, 1, none⟩ = some y) : Below w.heap.size w w' ∧ w'.cell? ⟨R, 0, none⟩ = some x ∧ w'.cell? ⟨R, 1, none⟩ = some y :=
  ⟨hb, (hb.cell hR).trans h0, (hb.cell hR).trans h1⟩
/-- Behind a call that has left all as it was the reader's place is written. -/
theorem Rd.after {w w1 : World} {R : Nat} {A : Option Addr} {c : Nat} {l : List UInt8} {p q : Nat} (h : Rd w R A c l p) (hb : Below w.heap.size w w1) (hq : q ≤ l.length) :
    Rd (w1.setCell ⟨R, 1, none⟩ (.int .i64 (q : Int))) R A c l q ∧ Mod (· = R) w (w1.setCell ⟨R, 1, none⟩ (.int .i64 (q : Int))) := by
  have h1 : Rd w1 R A c l p := h.keep (Mod.of_below (T := fun _ => False) hb) (fun _ _ h => h)
  exact ⟨h1.go hq rfl, Mod.setCell (T := (· = R)) (Mod.of_below hb) (fun _ => rfl) _⟩
set_option maxRecDepth 100000 in
set_option maxHeartbeats 2000000 in
theorem number_any (R : Nat) (A : Option Addr) (c : Nat) (l : List UInt8) (p : Nat) (w : World) (h : Rd w R A c l p) :
    Calls Try.prog 45 #[.pointer (some ⟨R, 0, none⟩)] w (RdPost R A c l p w (rdNum (l.drop p)) fun _ v x => v = .int .u32 (x : Int)) := by
  have h0 := h.c0
  have h1 := h.c1
  have hlt := h.lt
  have hcap := h.2.2.2
  have hp := h.2.2.1
  have H := Lib.hid h
  obtain ⟨n, hn⟩ : ∃ n, n = l.length := ⟨_, rfl⟩
  rw [← hn] at h0 hcap hp
  have HN := Lib.hid hn
  clear hn h
  obtain ⟨hc1, hc2, hc3⟩ := hcap
  unfold maxLen at hc2
  have HLT := Lib.hid hlt
  clear hlt
  have HK := Lib.hid (fun W (hb : Below w.heap.size w W) => held_rd hb HLT.out h0 h1)
  have HF := Lib.hid (fun W (hb : Below w.heap.size w W) => (hb.frozen (p := ⟨R, 1, none⟩) HLT.out).trans H.out.f1)
  cases A with
  | none =>
    obtain rfl := hc3 rfl
    obtain rfl : n = 0 := by omega
    obtain rfl : p = 0 := by omega
    clear hc3
    have hr : rdNum (l.drop 0) = .error 60 := by
      rw [List.drop_of_length_le (by have := HN.out; omega)]
      cases hr : rdNum [] with
      | error e => rw [(rdNum_spec' hr).2.2.2]
      | ok q =>
        obtain ⟨x, k⟩ := q
        have := rdNum_ok hr
        simp at this
        omega
    have HC := Lib.hid (fun W (hb : Below w.heap.size w W) => c8 none [] 0 0 32 W rfl (by omega) (Has.nil W W.heap.size none))
    have hz : rdNum [] = .error 60 := by rw [← hr, List.drop_of_length_le (by have := HN.out; omega)]
    obtain ⟨r1, r2, r3, _⟩ := rdNum_spec' hz
    rw [r1, r2, r3] at HC
    rw [hr]
    clear r1 r2 r3 hr hz
    go_enter Try.func45, Try.ntmps45
    go_wp2_with fail
    go_region_held3 (fun w' => Below w.heap.size w w' ∧ w'.cell? ⟨R, 0, none⟩ = some (.slice none 0 0) ∧ w'.cell? ⟨R, 1, none⟩ = some (.int .i64 (0 : Int))) (first | exact HK.out _ (Below.drew (Below.refl _ _)) | exact HK.out _ ((Below.drew (Below.refl _ _)).trans (by assumption)))
      (first | ((go_at_call 58; refine (HC.out _ (Below.drew (Below.refl _ _))).mono ?_; rintro e w1 ⟨rfl, hb1⟩)))
    go_wp2_with fail
    exact ⟨rfl, rfl, Mod.of_below ((Below.drew (Below.refl _ _)).trans hb1)⟩
  | some ad =>
    clear hc3
    by_cases hpc : c = p
    · have hn0 : n = p := by omega
      subst hpc
      subst hn0
      have hr : rdNum (l.drop n) = .error 60 := by
        rw [List.drop_of_length_le (by have := HN.out; omega)]
        cases hr : rdNum [] with
        | error e => rw [(rdNum_spec' hr).2.2.2]
        | ok q =>
          obtain ⟨x, k⟩ := q
          have := rdNum_ok hr
          simp at this
          omega
      have HC := Lib.hid (fun W (hb : Below w.heap.size w W) => c8 (some ad) [] 0 0 32 W rfl (by omega) (Has.nil W W.heap.size (some ad)))
      have hz : rdNum [] = .error 60 := by rw [← hr, List.drop_of_length_le (by have := HN.out; omega)]
      obtain ⟨r1, r2, r3, _⟩ := rdNum_spec' hz
      rw [r1, r2, r3] at HC
      rw [hr]
      clear r1 r2 r3 hr hz
      go_enter Try.func45, Try.ntmps45
      go_wp2_with fail
      go_region_held3 (fun w' => Below w.heap.size w w' ∧ w'.cell? ⟨R, 0, none⟩ = some (.slice (some ad) n n) ∧ w'.cell? ⟨R, 1, none⟩ = some (.int .i64 (n : Int))) (first | exact HK.out _ (Below.drew (Below.refl _ _)) | exact HK.out _ ((Below.drew (Below.refl _ _)).trans (by assumption)))
        (first | ((go_at_call 58; refine (HC.out _ (Below.drew (Below.refl _ _))).mono ?_; rintro e w1 ⟨rfl, hb1⟩)))
      go_wp2_with fail
      exact ⟨rfl, rfl, Mod.of_below ((Below.drew (Below.refl _ _)).trans hb1)⟩
    · have hpc2 : p < c := by omega
      have HC := Lib.hid (fun W (hb : Below w.heap.size w W) => c8 (some (ad.add p)) (l.drop p) (n - p) (c - p) 32 W (by rw [List.length_drop, HN.out]) (by omega) (((H.out.2.1.more (Nat.le_of_lt HLT.out)).on hb).from p))
      cases hr : rdNum (l.drop p) with
      | error e =>
        obtain ⟨r1, r2, r3, rfl⟩ := rdNum_spec' hr
        rw [r1, r2, r3] at HC
        clear r1 r2 r3 hr
        go_enter Try.func45, Try.ntmps45
        go_wp2_with fail
        go_region_held3 (fun w' => Below w.heap.size w w' ∧ w'.cell? ⟨R, 0, none⟩ = some (.slice (some ad) n c) ∧ w'.cell? ⟨R, 1, none⟩ = some (.int .i64 (p : Int))) (first | exact HK.out _ (Below.drew (Below.refl _ _)) | exact HK.out _ ((Below.drew (Below.refl _ _)).trans (by assumption)))
          (first | ((go_at_call 58; refine (HC.out _ (Below.drew (Below.refl _ _))).mono ?_; rintro e w1 ⟨rfl, hb1⟩)))
        go_wp2_with fail
        exact ⟨rfl, rfl, Mod.of_below ((Below.drew (Below.refl _ _)).trans hb1)⟩
      | ok q =>
        obtain ⟨x, k⟩ := q
        obtain ⟨r1, r2, r3⟩ := rdNum_spec hr
        have hk := rdNum_ok hr
        rw [List.length_drop, ← HN.out] at hk
        have hx : x < 4294967296 := by omega
        have hkn : p + k ≤ n := by omega
        rw [r1, r2, r3] at HC
        have hs : (p : Int) + (k : Int) = ((p + k : Nat) : Int) := by omega
        have HS := Lib.hid hs
        clear r1 r2 r3 hr hk hs
        go_enter Try.func45, Try.ntmps45
        go_wp2_with fail
        go_region_held3 (fun w' => Below w.heap.size w w' ∧ w'.cell? ⟨R, 0, none⟩ = some (.slice (some ad) n c) ∧ w'.cell? ⟨R, 1, none⟩ = some (.int .i64 (p : Int))) (first | exact HK.out _ (Below.drew (Below.refl _ _)) | exact HK.out _ ((Below.drew (Below.refl _ _)).trans (by assumption)))
          (first | ((go_at_call 58; refine (HC.out _ (Below.drew (Below.refl _ _))).mono ?_; rintro e w1 ⟨rfl, hb1⟩)))
        have hb2 : Below w.heap.size w w1 := (Below.drew (Below.refl _ _)).trans hb1
        obtain ⟨_, k0, k1⟩ := HK.out _ hb2
        have kf := HF.out _ hb2
        obtain ⟨a1, a2⟩ := H.out.after hb2 (q := p + k) (by have := HN.out; omega)
        have HA1 := Lib.hid a1
        have HA2 := Lib.hid a2
        clear hb1 hb2 a1 a2 HC
        go_wp2_with fail
        go_ret
        refine ⟨_, rfl, ?_, HA1.out, HA2.out⟩
        rfl
set_option maxRecDepth 100000 in
set_option maxHeartbeats 2000000 in
theorem constant_any (R : Nat) (A : Option Addr) (c : Nat) (l : List UInt8) (p : Nat) (b : Int) (w : World) (h : Rd w R A c l p) :
    Calls Try.prog 48 #[.pointer (some ⟨R, 0, none⟩), .int .i64 b] w (RdPost R A c l p w (rdConst (l.drop p) b) fun _ v x => v = .int .i64 (x : Int)) := by
  have h0 := h.c0
  have h1 := h.c1
  have hlt := h.lt
  have hcap := h.2.2.2
  have hp := h.2.2.1
  have H := Lib.hid h
  obtain ⟨n, hn⟩ : ∃ n, n = l.length := ⟨_, rfl⟩
  rw [← hn] at h0 hcap hp
  have HN := Lib.hid hn
  clear hn h
  obtain ⟨hc1, hc2, hc3⟩ := hcap
  unfold maxLen at hc2
  have HLT := Lib.hid hlt
  clear hlt
  have HK := Lib.hid (fun W (hb : Below w.heap.size w W) => held_rd hb HLT.out h0 h1)
  have HF := Lib.hid (fun W (hb : Below w.heap.size w W) => (hb.frozen (p := ⟨R, 1, none⟩) HLT.out).trans H.out.f1)
  cases A with
  | none =>
    obtain rfl := hc3 rfl
    obtain rfl : n = 0 := by omega
    obtain rfl : p = 0 := by omega
    clear hc3
    have hr : rdConst (l.drop 0) b = .error 60 := by
      rw [List.drop_of_length_le (by have := HN.out; omega)]
      cases hr : rdConst [] b with
      | error e => rw [(rdConst_spec' hr).2.2.2]
      | ok q =>
        obtain ⟨x, k⟩ := q
        have := rdConst_ok hr
        simp at this
        omega
    have HC := Lib.hid (fun W (hb : Below w.heap.size w W) => c10 none [] 0 0 b W rfl (by omega) (Has.nil W W.heap.size none))
    have hz : rdConst [] b = .error 60 := by rw [← hr, List.drop_of_length_le (by have := HN.out; omega)]
    obtain ⟨r1, r2, r3, _⟩ := rdConst_spec' hz
    rw [r1, r2, r3] at HC
    rw [hr]
    clear r1 r2 r3 hr hz
    go_enter Try.func48, Try.ntmps48
    go_wp2_with fail
    go_region_held3 (fun w' => Below w.heap.size w w' ∧ w'.cell? ⟨R, 0, none⟩ = some (.slice none 0 0) ∧ w'.cell? ⟨R, 1, none⟩ = some (.int .i64 (0 : Int))) (first | exact HK.out _ (Below.drew (Below.refl _ _)) | exact HK.out _ ((Below.drew (Below.refl _ _)).trans (by assumption)))
      (first | ((go_at_call 59; refine (HC.out _ (Below.drew (Below.refl _ _))).mono ?_; rintro e w1 ⟨rfl, hb1⟩)))
    go_wp2_with fail
    exact ⟨rfl, rfl, Mod.of_below ((Below.drew (Below.refl _ _)).trans hb1)⟩
  | some ad =>
    clear hc3
    by_cases hpc : c = p
    · have hn0 : n = p := by omega
      subst hpc
      subst hn0
      have hr : rdConst (l.drop n) b = .error 60 := by
        rw [List.drop_of_length_le (by have := HN.out; omega)]
        cases hr : rdConst [] b with
        | error e => rw [(rdConst_spec' hr).2.2.2]
        | ok q =>
          obtain ⟨x, k⟩ := q
          have := rdConst_ok hr
          simp at this
          omega
      have HC := Lib.hid (fun W (hb : Below w.heap.size w W) => c10 (some ad) [] 0 0 b W rfl (by omega) (Has.nil W W.heap.size (some ad)))
      have hz : rdConst [] b = .error 60 := by rw [← hr, List.drop_of_length_le (by have := HN.out; omega)]
      obtain ⟨r1, r2, r3, _⟩ := rdConst_spec' hz
      rw [r1, r2, r3] at HC
      rw [hr]
      clear r1 r2 r3 hr hz
      go_enter Try.func48, Try.ntmps48
      go_wp2_with fail
      go_region_held3 (fun w' => Below w.heap.size w w' ∧ w'.cell? ⟨R, 0, none⟩ = some (.slice (some ad) n n) ∧ w'.cell? ⟨R, 1, none⟩ = some (.int .i64 (n : Int))) (first | exact HK.out _ (Below.drew (Below.refl _ _)) | exact HK.out _ ((Below.drew (Below.refl _ _)).trans (by assumption)))
        (first | ((go_at_call 59; refine (HC.out _ (Below.drew (Below.refl _ _))).mono ?_; rintro e w1 ⟨rfl, hb1⟩)))
      go_wp2_with fail
      exact ⟨rfl, rfl, Mod.of_below ((Below.drew (Below.refl _ _)).trans hb1)⟩
    · have hpc2 : p < c := by omega
      have HC := Lib.hid (fun W (hb : Below w.heap.size w W) => c10 (some (ad.add p)) (l.drop p) (n - p) (c - p) b W (by rw [List.length_drop, HN.out]) (by omega) (((H.out.2.1.more (Nat.le_of_lt HLT.out)).on hb).from p))
      cases hr : rdConst (l.drop p) b with
      | error e =>
        obtain ⟨r1, r2, r3, rfl⟩ := rdConst_spec' hr
        rw [r1, r2, r3] at HC
        clear r1 r2 r3 hr
        go_enter Try.func48, Try.ntmps48
        go_wp2_with fail
        go_region_held3 (fun w' => Below w.heap.size w w' ∧ w'.cell? ⟨R, 0, none⟩ = some (.slice (some ad) n c) ∧ w'.cell? ⟨R, 1, none⟩ = some (.int .i64 (p : Int))) (first | exact HK.out _ (Below.drew (Below.refl _ _)) | exact HK.out _ ((Below.drew (Below.refl _ _)).trans (by assumption)))
          (first | ((go_at_call 59; refine (HC.out _ (Below.drew (Below.refl _ _))).mono ?_; rintro e w1 ⟨rfl, hb1⟩)))
        go_wp2_with fail
        exact ⟨rfl, rfl, Mod.of_below ((Below.drew (Below.refl _ _)).trans hb1)⟩
      | ok q =>
        obtain ⟨x, k⟩ := q
        obtain ⟨r1, r2, r3⟩ := rdConst_spec hr
        have hk := rdConst_ok hr
        rw [List.length_drop, ← HN.out] at hk
        have hx : -9223372036854775808 ≤ x ∧ x ≤ 9223372036854775807 := ⟨hk.1, hk.2.1⟩
        have hkn : p + k ≤ n := by omega
        rw [r1, r2, r3] at HC
        have hs : (p : Int) + (k : Int) = ((p + k : Nat) : Int) := by omega
        have HS := Lib.hid hs
        clear r1 r2 r3 hr hk hs
        go_enter Try.func48, Try.ntmps48
        go_wp2_with fail
        go_region_held3 (fun w' => Below w.heap.size w w' ∧ w'.cell? ⟨R, 0, none⟩ = some (.slice (some ad) n c) ∧ w'.cell? ⟨R, 1, none⟩ = some (.int .i64 (p : Int))) (first | exact HK.out _ (Below.drew (Below.refl _ _)) | exact HK.out _ ((Below.drew (Below.refl _ _)).trans (by assumption)))
          (first | ((go_at_call 59; refine (HC.out _ (Below.drew (Below.refl _ _))).mono ?_; rintro e w1 ⟨rfl, hb1⟩)))
        have hb2 : Below w.heap.size w w1 := (Below.drew (Below.refl _ _)).trans hb1
        obtain ⟨_, k0, k1⟩ := HK.out _ hb2
        have kf := HF.out _ hb2
        obtain ⟨a1, a2⟩ := H.out.after hb2 (q := p + k) (by have := HN.out; omega)
        have HA1 := Lib.hid a1
        have HA2 := Lib.hid a2
        clear hb1 hb2 a1 a2 HC
        go_wp2_with fail
        go_ret
        refine ⟨_, rfl, ?_, HA1.out, HA2.out⟩
        rfl
end Go.Proofs.Ytnechkmdmjhhbaa
