/-
  The reader: where it has come to, as the world has it; its byte.
-/
import Derived.Test.YthkglmkpnhhboaaGreatDoorR01
import Derived.Test.YthkglmkpnhhboaaGreatDoorR11
import Derived.Test.YthkglmkpnhhboaaGreatDoorR02
import Derived.Test.YthkglmkpnhhboaaGreatDoorR04
import Derived.WalkLawsBesides
import Derived.IntWalk
import Derived.Test.YthkglmkpnhhboaaGreatDoorR05
import Derived.Deep.RegionHeld3
import Derived.OwnWalk
set_option maxRecDepth 100000
set_option maxHeartbeats 4000000
namespace Go.Proofs.YthkglmkpnhhboaaGreatDoor
open Go.RowKit Ins
@[reducible] def erred (k : Nat) : Ending := .panicked [{ v := .iface 37 (.int .i64 (k : Int)), recovered := false }]
def Rd (w : World) (R : Nat) (A : Option Addr) (c : Nat) (l : List UInt8) (p : Nat) : Prop :=
 w.heap[R]? = some (.cells #[.slice A l.length c, .int .i64 (p : Int)] 233 (0, 0)) ∧ Has w R A l ∧ p ≤ l.length ∧ l.length ≤ c ∧ c ≤ maxLen ∧ (A = none → c = 0)
theorem Rd.c0 {w : World} {R : Nat} {A : Option Addr} {c : Nat} {l : List UInt8} {p : Nat} (h : Rd w R A c l p) : w.cell? ⟨R, 0, none⟩ = some (.slice A l.length c) := by
 rw [cell_of_row w R 0 _ _ (0, 0) h.1]; rfl
theorem Rd.c1 {w : World} {R : Nat} {A : Option Addr} {c : Nat} {l : List UInt8} {p : Nat} (h : Rd w R A c l p) : w.cell? ⟨R, 1, none⟩ = some (.int .i64 (p : Int)) := by
 rw [cell_of_row w R 1 _ _ (0, 0) h.1]; rfl
theorem Rd.f1 {w : World} {R : Nat} {A : Option Addr} {c : Nat} {l : List UInt8} {p : Nat} (h : Rd w R A c l p) : w.frozen? ⟨R, 1, none⟩ = false := frozen_of_row w R 1 _ _ h.1
theorem Rd.lt {w : World} {R : Nat} {A : Option Addr} {c : Nat} {l : List UInt8} {p : Nat} (h : Rd w R A c l p) : R < w.heap.size := (Array.getElem?_eq_some_iff.1 h.1).1
theorem Rd.go {w w' : World} {R : Nat} {A : Option Addr} {c : Nat} {l : List UInt8} {p q : Nat} (h : Rd w R A c l p) (hq : q ≤ l.length) (hh : w'.heap = (w.setCell ⟨R, 1, none⟩ (.int .i64 (q : Int))).heap) : Rd w' R A c l q := by
 refine ⟨?_, h.2.1.keep fun a ha => ?_, hq, h.2.2.2⟩
 ·rw [hh, heap_setCell_same w R 1 _ _ _ h.1]; rfl
 ·refine World.cell?_of_block ?_
  rw [hh]
  exact Below.heap_setCell _ _ _ _ (by show a.block ≠ R; omega)
theorem Rd.keep {w w' : World} {T : Nat → Prop} {R : Nat} {A : Option Addr} {c : Nat} {l : List UInt8} {p : Nat} (h : Rd w R A c l p) (hm : Mod T w w') (ht : ∀ k, k ≤ R → ¬ T k) : Rd w' R A c l p :=
 ⟨hm.heap h.1 (ht R (Nat.le_refl _)), hm.has h.2.1 (fun k hk => ht k (by omega)), h.2.2⟩
def bf {α : Type} (R : Nat) (A : Option Addr) (c : Nat) (l : List UInt8) (p : Nat) (w : World) (r : Except Nat (α × Nat)) (f : World → Value → α → Prop) (e : Ending) (w' : World) : Prop :=
 match r with
 | .error k => e = erred k ∧ Mod (· = R) w w'
 | .ok (x, n) => ∃ v, e = .returned v ∧ f w' v x ∧ Rd w' R A c l (p + n) ∧ Mod (· = R) w w'
theorem eD {l : List UInt8} {p : Nat} {x : UInt8} (h : l[p]? = some x) : rdByte (l.drop p) = .ok (x.toNat, 1) := by
 obtain ⟨hp, rfl⟩ := List.getElem?_eq_some_iff.1 h
 rw [List.drop_eq_getElem_cons hp]
 rfl
theorem eJ {l : List UInt8} {p : Nat} (h : l.length ≤ p) : rdByte (l.drop p) = .error 60 := by
 rw [List.drop_of_length_le h]; rfl
theorem gC (R : Nat) (A : Option Addr) (c : Nat) (l : List UInt8) (p : Nat) (w : World) (h : Rd w R A c l p) :
  Calls Tryz.prog 172 #[.pointer (some ⟨R, 0, none⟩)] w (bf R A c l p w (rdByte (l.drop p)) fun _ v x => v = .int .u8 (x : Int)) := by
 have h0 := h.c0
 have h1 := h.c1
 have hf := h.f1
 have hcap := h.2.2.2
 have hp := h.2.2.1
 have H := Y h
 obtain ⟨n, hn⟩ : ∃ n, n = l.length := ⟨_, rfl⟩
 rw [← hn] at h0 hcap hp
 have HN := Y hn
 clear hn h
 obtain ⟨hc1, hc2, hc3⟩ := hcap
 clear hc3
 unfold maxLen at hc2
 by_cases hlt : p < n
 ·obtain ⟨x, hx⟩ : ∃ x, l[p]? = some x := ⟨_, List.getElem?_eq_getElem (by have := HN.out; omega)⟩
  rw [eD hx]
  obtain ⟨ad, hA, hb, hcell⟩ := H.out.2.1 p x hx
  subst hA
  have hne : ((p : Int) == (n : Int)) = false := by simp; omega
  have hw1 : IntKind.i64.wrap ((p : Int) + 1) = (p : Int) + 1 := IntWalk.i64_in _ (by omega)
  have hw2 : IntKind.i64.wrap ((p : Int) + 1 - 1) = (p : Int) := by rw [IntWalk.i64_in _ (by omega)]; omega
  have hi : (p : Int) < (n : Int) := by omega
  have hb2 : ¬ R = (ad.add p).block := by
   have : (ad.add p).block = ad.block := by unfold Addr.add; split <;> rfl
   omega
  have HX := Y hx
  clear hx
  go_enter Tryz.func172, Tryz.ntmps172
  go_wp2_with fail
  go_quiet (fail)
  go_wp2_with fail
  have H2 := H.out.go (w' := (w.drewN nq).setCell ⟨R, 1, none⟩ (.int .i64 ((p : Int) + 1))) (q := p + 1) (by have := HN.out; omega) rfl
  have M2 : Mod (· = R) w ((w.drewN nq).setCell ⟨R, 1, none⟩ (.int .i64 ((p : Int) + 1))) := Mod.setCell (T := (· = R)) ((Mod.refl _ w).drewN nq) (fun _ => rfl) _
  have k0 := H2.c0
  have k1 := H2.c1
  rw [← HN.out] at k0
  obtain ⟨ad', hA', _, kx⟩ := H2.2.1 p x HX.out
  injection hA' with hA'
  subst hA'
  have HM := Y M2
  have HR := Y H2
  clear hb2 hcell h0 h1 hf M2 H2 H
  generalize (w.drewN nq).setCell ⟨R, 1, none⟩ (.int .i64 ((p : Int) + 1)) = w2 at k0 k1 kx HM HR ⊢
  push_cast at k1
  go_quiet (fail)
  go_wp2_with fail
  go_ret
  exact ⟨_, rfl, rfl, ⟨HR.out.1, HR.out.2⟩, HM.out.drewN _⟩
 ·rw [eJ (by have := HN.out; omega)]
  have hpn : p = n := by omega
  subst hpn
  have hne : ((p : Int) == (p : Int)) = true := by simp
  go_enter Tryz.func172, Tryz.ntmps172
  go_wp2_with fail
  go_quiet (fail)
  go_wp2_with fail
  exact ⟨rfl, rfl, (Mod.refl _ w).drewN nq⟩
end Go.Proofs.YthkglmkpnhhboaaGreatDoor
namespace Ins
open Leb
theorem gq {l : List UInt8} {x k : Nat} (h : rdNum l = .ok (x, k)) : numU l 32 = (x : Int) ∧ cntU l 32 = (k : Int) ∧ okU l 32 = true := by
 unfold rdNum at h
 split at h
 ·next h1 => simp only [Except.ok.injEq, Prod.mk.injEq] at h; obtain ⟨rfl, rfl⟩ := h; exact ⟨by rw [numU, if_pos h1], by rw [cntU, if_pos h1], h1⟩
 ·cases h
theorem bH {l : List UInt8} {e : Nat} (h : rdNum l = .error e) : numU l 32 = 0 ∧ cntU l 32 = 0 ∧ okU l 32 = false ∧ e = 60 := by
 unfold rdNum at h
 split at h
 ·cases h
 ·next h1 => simp only [Except.error.injEq] at h; exact ⟨by rw [numU, if_neg h1], by rw [cntU, if_neg h1], by simpa using h1, h.symm⟩
theorem ji {l : List UInt8} {b x : Int} {k : Nat} (h : rdConst l b = .ok (x, k)) : numS l b = x ∧ cntS l b = (k : Int) ∧ okS l b = true := by
 unfold rdConst at h
 split at h
 ·next h1 => simp only [Except.ok.injEq, Prod.mk.injEq] at h; obtain ⟨rfl, rfl⟩ := h; exact ⟨by rw [numS, if_pos h1], by rw [cntS, if_pos h1], h1⟩
 ·cases h
theorem bB {l : List UInt8} {b : Int} {e : Nat} (h : rdConst l b = .error e) : numS l b = 0 ∧ cntS l b = 0 ∧ okS l b = false ∧ e = 60 := by
 unfold rdConst at h
 split at h
 ·cases h
 ·next h1 => simp only [Except.error.injEq] at h; exact ⟨by rw [numS, if_neg h1], by rw [cntS, if_neg h1], by simpa using h1, h.symm⟩
end Ins
namespace Go.Proofs.YthkglmkpnhhboaaGreatDoor
open Go.RowKit Ins
theorem held_rd {w w' : World} {R : Nat} {x y : Value} (hb : Below w.heap.size w w') (hR : R < w.heap.size) (h0 : w.cell? ⟨R, 0, none⟩ = some x) (h1 : w.cell? ⟨R, 1, none⟩ = some y) : Below w.heap.size w w' ∧ w'.cell? ⟨R, 0, none⟩ = some x ∧ w'.cell? ⟨R, 1, none⟩ = some y :=
 ⟨hb, (hb.cell hR).trans h0, (hb.cell hR).trans h1⟩
theorem Rd.after {w w1 : World} {R : Nat} {A : Option Addr} {c : Nat} {l : List UInt8} {p q : Nat} (h : Rd w R A c l p) (hb : Below w.heap.size w w1) (hq : q ≤ l.length) :
  Rd (w1.setCell ⟨R, 1, none⟩ (.int .i64 (q : Int))) R A c l q ∧ Mod (· = R) w (w1.setCell ⟨R, 1, none⟩ (.int .i64 (q : Int))) := by
 have h1 : Rd w1 R A c l p := h.keep (Mod.of_below (T := fun _ => False) hb) (fun _ _ h => h)
 exact ⟨h1.go hq rfl, Mod.setCell (T := (· = R)) (Mod.of_below hb) (fun _ => rfl) _⟩
theorem bp (R : Nat) (A : Option Addr) (c : Nat) (l : List UInt8) (p : Nat) (w : World) (h : Rd w R A c l p) :
  Calls Tryz.prog 165 #[.pointer (some ⟨R, 0, none⟩)] w (bf R A c l p w (rdNum (l.drop p)) fun _ v x => v = .int .u32 (x : Int)) := by
 have h0 := h.c0
 have h1 := h.c1
 have hlt := h.lt
 have hcap := h.2.2.2
 have hp := h.2.2.1
 have H := Y h
 obtain ⟨n, hn⟩ : ∃ n, n = l.length := ⟨_, rfl⟩
 rw [← hn] at h0 hcap hp
 have HN := Y hn
 clear hn h
 obtain ⟨hc1, hc2, hc3⟩ := hcap
 unfold maxLen at hc2
 have HLT := Y hlt
 clear hlt
 have HK := Y (fun W (hb : Below w.heap.size w W) => held_rd hb HLT.out h0 h1)
 have HF := Y (fun W (hb : Below w.heap.size w W) => (hb.frozen (p := ⟨R, 1, none⟩) HLT.out).trans H.out.f1)
 cases A with
 | none =>
  obtain rfl := hc3 rfl
  obtain rfl : n = 0 := by omega
  obtain rfl : p = 0 := by omega
  clear hc3
  have hr : rdNum (l.drop 0) = .error 60 := by
   rw [List.drop_of_length_le (by have := HN.out; omega)]
   cases hr : rdNum [] with
   | error e => rw [(bH hr).2.2.2]
   | ok q =>
    obtain ⟨x, k⟩ := q
    have := aB hr
    simp at this
    omega
  have HC := Y (fun W (hb : Below w.heap.size w W) => c8 none [] 0 0 32 W rfl (by omega) (Has.nil W W.heap.size none))
  have hz : rdNum [] = .error 60 := by rw [← hr, List.drop_of_length_le (by have := HN.out; omega)]
  obtain ⟨r1, r2, r3, _⟩ := bH hz
  rw [r1, r2, r3] at HC
  rw [hr]
  clear r1 r2 r3 hr hz
  go_enter Tryz.func165, Tryz.ntmps165
  go_wp2_with fail
  go_region_held3 (fun w' => Below w.heap.size w w' ∧ w'.cell? ⟨R, 0, none⟩ = some (.slice none 0 0) ∧ w'.cell? ⟨R, 1, none⟩ = some (.int .i64 (0 : Int))) (first | exact HK.out _ (Below.drew (Below.refl _ _)) | exact HK.out _ ((Below.drew (Below.refl _ _)).trans (by assumption)))
   (first | ((go_at_call 47; refine (HC.out _ (Below.drew (Below.refl _ _))).mono ?_; rintro e w1 ⟨rfl, hb1⟩)))
  go_wp2_with fail
  exact ⟨rfl, rfl, Mod.of_below ((Below.drew (Below.refl _ _)).trans hb1)⟩
 | some ad =>
  clear hc3
  by_cases hpc : c = p
  ·have hn0 : n = p := by omega
   subst hpc
   subst hn0
   have hr : rdNum (l.drop n) = .error 60 := by
    rw [List.drop_of_length_le (by have := HN.out; omega)]
    cases hr : rdNum [] with
    | error e => rw [(bH hr).2.2.2]
    | ok q =>
     obtain ⟨x, k⟩ := q
     have := aB hr
     simp at this
     omega
   have HC := Y (fun W (hb : Below w.heap.size w W) => c8 (some ad) [] 0 0 32 W rfl (by omega) (Has.nil W W.heap.size (some ad)))
   have hz : rdNum [] = .error 60 := by rw [← hr, List.drop_of_length_le (by have := HN.out; omega)]
   obtain ⟨r1, r2, r3, _⟩ := bH hz
   rw [r1, r2, r3] at HC
   rw [hr]
   clear r1 r2 r3 hr hz
   go_enter Tryz.func165, Tryz.ntmps165
   go_wp2_with fail
   go_region_held3 (fun w' => Below w.heap.size w w' ∧ w'.cell? ⟨R, 0, none⟩ = some (.slice (some ad) n n) ∧ w'.cell? ⟨R, 1, none⟩ = some (.int .i64 (n : Int))) (first | exact HK.out _ (Below.drew (Below.refl _ _)) | exact HK.out _ ((Below.drew (Below.refl _ _)).trans (by assumption)))
    (first | ((go_at_call 47; refine (HC.out _ (Below.drew (Below.refl _ _))).mono ?_; rintro e w1 ⟨rfl, hb1⟩)))
   go_wp2_with fail
   exact ⟨rfl, rfl, Mod.of_below ((Below.drew (Below.refl _ _)).trans hb1)⟩
  ·have hpc2 : p < c := by omega
   have HC := Y (fun W (hb : Below w.heap.size w W) => c8 (some (ad.add p)) (l.drop p) (n - p) (c - p) 32 W (by rw [List.length_drop, HN.out]) (by omega) (((H.out.2.1.more (Nat.le_of_lt HLT.out)).on hb).from p))
   cases hr : rdNum (l.drop p) with
   | error e =>
    obtain ⟨r1, r2, r3, rfl⟩ := bH hr
    rw [r1, r2, r3] at HC
    clear r1 r2 r3 hr
    go_enter Tryz.func165, Tryz.ntmps165
    go_wp2_with fail
    go_region_held3 (fun w' => Below w.heap.size w w' ∧ w'.cell? ⟨R, 0, none⟩ = some (.slice (some ad) n c) ∧ w'.cell? ⟨R, 1, none⟩ = some (.int .i64 (p : Int))) (first | exact HK.out _ (Below.drew (Below.refl _ _)) | exact HK.out _ ((Below.drew (Below.refl _ _)).trans (by assumption)))
     (first | ((go_at_call 47; refine (HC.out _ (Below.drew (Below.refl _ _))).mono ?_; rintro e w1 ⟨rfl, hb1⟩)))
    go_wp2_with fail
    exact ⟨rfl, rfl, Mod.of_below ((Below.drew (Below.refl _ _)).trans hb1)⟩
   | ok q =>
    obtain ⟨x, k⟩ := q
    obtain ⟨r1, r2, r3⟩ := gq hr
    have hk := aB hr
    rw [List.length_drop, ← HN.out] at hk
    have hx : x < 4294967296 := by omega
    have hkn : p + k ≤ n := by omega
    rw [r1, r2, r3] at HC
    have hs : (p : Int) + (k : Int) = ((p + k : Nat) : Int) := by omega
    have HS := Y hs
    clear r1 r2 r3 hr hk hs
    go_enter Tryz.func165, Tryz.ntmps165
    go_wp2_with fail
    go_region_held3 (fun w' => Below w.heap.size w w' ∧ w'.cell? ⟨R, 0, none⟩ = some (.slice (some ad) n c) ∧ w'.cell? ⟨R, 1, none⟩ = some (.int .i64 (p : Int))) (first | exact HK.out _ (Below.drew (Below.refl _ _)) | exact HK.out _ ((Below.drew (Below.refl _ _)).trans (by assumption)))
     (first | ((go_at_call 47; refine (HC.out _ (Below.drew (Below.refl _ _))).mono ?_; rintro e w1 ⟨rfl, hb1⟩)))
    have hb2 : Below w.heap.size w w1 := (Below.drew (Below.refl _ _)).trans hb1
    obtain ⟨_, k0, k1⟩ := HK.out _ hb2
    have kf := HF.out _ hb2
    obtain ⟨a1, a2⟩ := H.out.after hb2 (q := p + k) (by have := HN.out; omega)
    have HA1 := Y a1
    have HA2 := Y a2
    clear hb1 hb2 a1 a2 HC
    go_wp2_with fail
    go_ret
    refine ⟨_, rfl, ?_, HA1.out, HA2.out⟩
    rfl
theorem ew (R : Nat) (A : Option Addr) (c : Nat) (l : List UInt8) (p : Nat) (b : Int) (w : World) (h : Rd w R A c l p) :
  Calls Tryz.prog 168 #[.pointer (some ⟨R, 0, none⟩), .int .i64 b] w (bf R A c l p w (rdConst (l.drop p) b) fun _ v x => v = .int .i64 (x : Int)) := by
 have h0 := h.c0
 have h1 := h.c1
 have hlt := h.lt
 have hcap := h.2.2.2
 have hp := h.2.2.1
 have H := Y h
 obtain ⟨n, hn⟩ : ∃ n, n = l.length := ⟨_, rfl⟩
 rw [← hn] at h0 hcap hp
 have HN := Y hn
 clear hn h
 obtain ⟨hc1, hc2, hc3⟩ := hcap
 unfold maxLen at hc2
 have HLT := Y hlt
 clear hlt
 have HK := Y (fun W (hb : Below w.heap.size w W) => held_rd hb HLT.out h0 h1)
 have HF := Y (fun W (hb : Below w.heap.size w W) => (hb.frozen (p := ⟨R, 1, none⟩) HLT.out).trans H.out.f1)
 cases A with
 | none =>
  obtain rfl := hc3 rfl
  obtain rfl : n = 0 := by omega
  obtain rfl : p = 0 := by omega
  clear hc3
  have hr : rdConst (l.drop 0) b = .error 60 := by
   rw [List.drop_of_length_le (by have := HN.out; omega)]
   cases hr : rdConst [] b with
   | error e => rw [(bB hr).2.2.2]
   | ok q =>
    obtain ⟨x, k⟩ := q
    have := cA hr
    simp at this
    omega
  have HC := Y (fun W (hb : Below w.heap.size w W) => c10 none [] 0 0 b W rfl (by omega) (Has.nil W W.heap.size none))
  have hz : rdConst [] b = .error 60 := by rw [← hr, List.drop_of_length_le (by have := HN.out; omega)]
  obtain ⟨r1, r2, r3, _⟩ := bB hz
  rw [r1, r2, r3] at HC
  rw [hr]
  clear r1 r2 r3 hr hz
  go_enter Tryz.func168, Tryz.ntmps168
  go_wp2_with fail
  go_region_held3 (fun w' => Below w.heap.size w w' ∧ w'.cell? ⟨R, 0, none⟩ = some (.slice none 0 0) ∧ w'.cell? ⟨R, 1, none⟩ = some (.int .i64 (0 : Int))) (first | exact HK.out _ (Below.drew (Below.refl _ _)) | exact HK.out _ ((Below.drew (Below.refl _ _)).trans (by assumption)))
   (first | ((go_at_call 173; refine (HC.out _ (Below.drew (Below.refl _ _))).mono ?_; rintro e w1 ⟨rfl, hb1⟩)))
  go_wp2_with fail
  exact ⟨rfl, rfl, Mod.of_below ((Below.drew (Below.refl _ _)).trans hb1)⟩
 | some ad =>
  clear hc3
  by_cases hpc : c = p
  ·have hn0 : n = p := by omega
   subst hpc
   subst hn0
   have hr : rdConst (l.drop n) b = .error 60 := by
    rw [List.drop_of_length_le (by have := HN.out; omega)]
    cases hr : rdConst [] b with
    | error e => rw [(bB hr).2.2.2]
    | ok q =>
     obtain ⟨x, k⟩ := q
     have := cA hr
     simp at this
     omega
   have HC := Y (fun W (hb : Below w.heap.size w W) => c10 (some ad) [] 0 0 b W rfl (by omega) (Has.nil W W.heap.size (some ad)))
   have hz : rdConst [] b = .error 60 := by rw [← hr, List.drop_of_length_le (by have := HN.out; omega)]
   obtain ⟨r1, r2, r3, _⟩ := bB hz
   rw [r1, r2, r3] at HC
   rw [hr]
   clear r1 r2 r3 hr hz
   go_enter Tryz.func168, Tryz.ntmps168
   go_wp2_with fail
   go_region_held3 (fun w' => Below w.heap.size w w' ∧ w'.cell? ⟨R, 0, none⟩ = some (.slice (some ad) n n) ∧ w'.cell? ⟨R, 1, none⟩ = some (.int .i64 (n : Int))) (first | exact HK.out _ (Below.drew (Below.refl _ _)) | exact HK.out _ ((Below.drew (Below.refl _ _)).trans (by assumption)))
    (first | ((go_at_call 173; refine (HC.out _ (Below.drew (Below.refl _ _))).mono ?_; rintro e w1 ⟨rfl, hb1⟩)))
   go_wp2_with fail
   exact ⟨rfl, rfl, Mod.of_below ((Below.drew (Below.refl _ _)).trans hb1)⟩
  ·have hpc2 : p < c := by omega
   have HC := Y (fun W (hb : Below w.heap.size w W) => c10 (some (ad.add p)) (l.drop p) (n - p) (c - p) b W (by rw [List.length_drop, HN.out]) (by omega) (((H.out.2.1.more (Nat.le_of_lt HLT.out)).on hb).from p))
   cases hr : rdConst (l.drop p) b with
   | error e =>
    obtain ⟨r1, r2, r3, rfl⟩ := bB hr
    rw [r1, r2, r3] at HC
    clear r1 r2 r3 hr
    go_enter Tryz.func168, Tryz.ntmps168
    go_wp2_with fail
    go_region_held3 (fun w' => Below w.heap.size w w' ∧ w'.cell? ⟨R, 0, none⟩ = some (.slice (some ad) n c) ∧ w'.cell? ⟨R, 1, none⟩ = some (.int .i64 (p : Int))) (first | exact HK.out _ (Below.drew (Below.refl _ _)) | exact HK.out _ ((Below.drew (Below.refl _ _)).trans (by assumption)))
     (first | ((go_at_call 173; refine (HC.out _ (Below.drew (Below.refl _ _))).mono ?_; rintro e w1 ⟨rfl, hb1⟩)))
    go_wp2_with fail
    exact ⟨rfl, rfl, Mod.of_below ((Below.drew (Below.refl _ _)).trans hb1)⟩
   | ok q =>
    obtain ⟨x, k⟩ := q
    obtain ⟨r1, r2, r3⟩ := ji hr
    have hk := cA hr
    rw [List.length_drop, ← HN.out] at hk
    have hx : -9223372036854775808 ≤ x ∧ x ≤ 9223372036854775807 := ⟨hk.1, hk.2.1⟩
    have hkn : p + k ≤ n := by omega
    rw [r1, r2, r3] at HC
    have hs : (p : Int) + (k : Int) = ((p + k : Nat) : Int) := by omega
    have HS := Y hs
    clear r1 r2 r3 hr hk hs
    go_enter Tryz.func168, Tryz.ntmps168
    go_wp2_with fail
    go_region_held3 (fun w' => Below w.heap.size w w' ∧ w'.cell? ⟨R, 0, none⟩ = some (.slice (some ad) n c) ∧ w'.cell? ⟨R, 1, none⟩ = some (.int .i64 (p : Int))) (first | exact HK.out _ (Below.drew (Below.refl _ _)) | exact HK.out _ ((Below.drew (Below.refl _ _)).trans (by assumption)))
     (first | ((go_at_call 173; refine (HC.out _ (Below.drew (Below.refl _ _))).mono ?_; rintro e w1 ⟨rfl, hb1⟩)))
    have hb2 : Below w.heap.size w w1 := (Below.drew (Below.refl _ _)).trans hb1
    obtain ⟨_, k0, k1⟩ := HK.out _ hb2
    have kf := HF.out _ hb2
    obtain ⟨a1, a2⟩ := H.out.after hb2 (q := p + k) (by have := HN.out; omega)
    have HA1 := Y a1
    have HA2 := Y a2
    clear hb1 hb2 a1 a2 HC
    go_wp2_with fail
    go_ret
    refine ⟨_, rfl, ?_, HA1.out, HA2.out⟩
    rfl
theorem db {l : List UInt8} {e : Nat} (h : rdByte l = .error e) : e = 60 := (de h).1
theorem aO (R : Nat) (A : Option Addr) (c : Nat) (l : List UInt8) (p : Nat) (w : World) (h : Rd w R A c l p) :
  Calls Tryz.prog 163 #[.pointer (some ⟨R, 0, none⟩)] w (bf R A c l p w (rdOp (l.drop p)) fun _ v x => v = .int .u8 (x : Int)) := by
 have HC := Y (gC R A c l p w h)
 clear h
 unfold rdOp
 cases hr : rdByte (l.drop p) with
 | error e =>
  rw [hr] at HC
  obtain rfl := db hr
  go_enter Tryz.func163, Tryz.ntmps163
  go_wp2_with (go_at_call 172; refine HC.out.mono ?_; rintro e w1 ⟨rfl, hm⟩)
  exact ⟨rfl, rfl, hm⟩
 | ok q =>
  obtain ⟨x, k⟩ := q
  rw [hr] at HC
  have HF := Y (ik (x : Int))
  have HK := Y (hY (x : Int))
  clear hr
  dsimp only
  cases hf : Opc.float x with
  | true =>
   rw [hf] at HF
   rw [if_pos rfl]
   clear hf
   go_enter Tryz.func163, Tryz.ntmps163
   go_wp2_with (first | (go_at_call 172; refine HC.out.mono ?_; rintro e w1 ⟨v, rfl, rfl, hr, hm⟩; have HR := Y hr; have HM := Y hm; clear hr hm) | (go_at_call 171; refine (HF.out _).mono ?_; rintro e w2 ⟨rfl, rfl⟩))
   exact ⟨rfl, rfl, HM.out⟩
  | false =>
   rw [hf] at HF
   rw [if_neg (by simp)]
   clear hf
   cases hk : Opc.known x with
   | true =>
    rw [hk] at HK
    rw [if_pos rfl]
    clear hk
    go_enter Tryz.func163, Tryz.ntmps163
    go_wp2_with (first | (go_at_call 172; refine HC.out.mono ?_; rintro e w1 ⟨v, rfl, rfl, hr, hm⟩; have HR := Y hr; have HM := Y hm; clear hr hm) | (go_at_call 171; refine (HF.out _).mono ?_; rintro e w2 ⟨rfl, rfl⟩) | (go_at_call 157; refine (HK.out _).mono ?_; rintro e w2 ⟨rfl, rfl⟩))
    go_ret
    exact ⟨_, rfl, rfl, HR.out, HM.out⟩
   | false =>
    rw [hk] at HK
    rw [if_neg (by simp)]
    clear hk
    go_enter Tryz.func163, Tryz.ntmps163
    go_wp2_with (first | (go_at_call 172; refine HC.out.mono ?_; rintro e w1 ⟨v, rfl, rfl, hr, hm⟩; have HR := Y hr; have HM := Y hm; clear hr hm) | (go_at_call 171; refine (HF.out _).mono ?_; rintro e w2 ⟨rfl, rfl⟩) | (go_at_call 157; refine (HK.out _).mono ?_; rintro e w2 ⟨rfl, rfl⟩))
    exact ⟨rfl, rfl, HM.out⟩
theorem gK (R : Nat) (A : Option Addr) (c : Nat) (l : List UInt8) (p : Nat) (w : World) (h : Rd w R A c l p) :
  Calls Tryz.prog 164 #[.pointer (some ⟨R, 0, none⟩)] w (bf R A c l p w (rdBlock (l.drop p)) fun _ v x => v = .int .u32 (x : Int)) := by
 have HC := Y (gC R A c l p w h)
 clear h
 unfold rdBlock
 cases hr : rdByte (l.drop p) with
 | error e =>
  rw [hr] at HC
  obtain rfl := db hr
  go_enter Tryz.func164, Tryz.ntmps164
  go_wp2_with (go_at_call 172; refine HC.out.mono ?_; rintro e w1 ⟨rfl, hm⟩)
  exact ⟨rfl, rfl, hm⟩
 | ok q =>
  obtain ⟨x, k⟩ := q
  rw [hr] at HC
  have hx := (ck hr).1
  have HB := Y (ii x)
  have hw : IntKind.u32.wrap (x : Int) = (x : Int) := IntWalk.u32_in _ (by omega)
  clear hr
  dsimp only
  by_cases hf : x = 125 ∨ x = 124
  ·rw [if_pos hf]
   have h1 : ((x : Int) == 125) = true ∨ ((x : Int) == 125) = false ∧ ((x : Int) == 124) = true := by
    rcases hf with rfl | rfl
    ·exact .inl rfl
    ·exact .inr ⟨rfl, rfl⟩
   clear hf
   rcases h1 with h1 | ⟨h1, h2⟩
   all_goals
    go_enter Tryz.func164, Tryz.ntmps164
    go_wp2_with (first | (go_at_call 172; refine HC.out.mono ?_; rintro e w1 ⟨v, rfl, rfl, hr, hm⟩; have HR := Y hr; have HM := Y hm; clear hr hm))
    exact ⟨rfl, rfl, HM.out⟩
  ·rw [if_neg hf]
   have h1 : ((x : Int) == 125) = false := by simp; omega
   have h2 : ((x : Int) == 124) = false := by simp; omega
   clear hf
   cases hk : Ins.blockB x with
   | true =>
    rw [hk] at HB
    rw [if_pos rfl]
    clear hk
    go_enter Tryz.func164, Tryz.ntmps164
    go_wp2_with (first | (go_at_call 172; refine HC.out.mono ?_; rintro e w1 ⟨v, rfl, rfl, hr, hm⟩; have HR := Y hr; have HM := Y hm; clear hr hm) | (go_at_call 159; refine (HB.out _).mono ?_; rintro e w2 ⟨rfl, rfl⟩))
    go_ret
    exact ⟨_, rfl, rfl, HR.out, HM.out⟩
   | false =>
    rw [hk] at HB
    rw [if_neg (by simp)]
    clear hk
    go_enter Tryz.func164, Tryz.ntmps164
    go_wp2_with (first | (go_at_call 172; refine HC.out.mono ?_; rintro e w1 ⟨v, rfl, rfl, hr, hm⟩; have HR := Y hr; have HM := Y hm; clear hr hm) | (go_at_call 159; refine (HB.out _).mono ?_; rintro e w2 ⟨rfl, rfl⟩))
    exact ⟨rfl, rfl, HM.out⟩
def rdZ (l : List UInt8) : Except Nat (Unit × Nat) := match rdZero l with
 | .error e => .error e
 | .ok k => .ok ((), k)
theorem zero_any (R : Nat) (A : Option Addr) (c : Nat) (l : List UInt8) (p : Nat) (w : World) (h : Rd w R A c l p) :
  Calls Tryz.prog 167 #[.pointer (some ⟨R, 0, none⟩)] w (bf R A c l p w (rdZ (l.drop p)) fun _ v _ => v = .tuple #[]) := by
 have HC := Y (gC R A c l p w h)
 clear h
 unfold rdZ rdZero
 cases hr : rdByte (l.drop p) with
 | error e =>
  rw [hr] at HC
  obtain rfl := db hr
  go_enter Tryz.func167, Tryz.ntmps167
  go_wp2_with (go_at_call 172; refine HC.out.mono ?_; rintro e w1 ⟨rfl, hm⟩)
  exact ⟨rfl, rfl, hm⟩
 | ok q =>
  obtain ⟨x, k⟩ := q
  rw [hr] at HC
  clear hr
  dsimp only
  by_cases hx : x = 0
  ·subst hx
   rw [if_pos rfl]
   go_enter Tryz.func167, Tryz.ntmps167
   go_wp2_with (go_at_call 172; refine HC.out.mono ?_; rintro e w1 ⟨v, rfl, rfl, hr, hm⟩; have HR := Y hr; have HM := Y hm; clear hr hm)
   go_end0
   exact ⟨_, rfl, rfl, HR.out, HM.out⟩
  ·rw [if_neg hx]
   have h1 : ((x : Int) != 0) = true := by simp; omega
   clear hx
   go_enter Tryz.func167, Tryz.ntmps167
   go_wp2_with (go_at_call 172; refine HC.out.mono ?_; rintro e w1 ⟨v, rfl, rfl, hr, hm⟩; have HR := Y hr; have HM := Y hm; clear hr hm)
   exact ⟨rfl, rfl, HM.out⟩
end Go.Proofs.YthkglmkpnhhboaaGreatDoor
namespace Ins
theorem aI {α : Type} (xs ys : List α) (k m : Nat) (r : Except Nat (List α × Nat)) : onto xs k (onto ys m r) = onto (xs ++ ys) (k + m) r := by
 cases r with
 | error e => rfl
 | ok q => simp [onto, Nat.add_assoc]
theorem rdMany_step {n : Nat} {l : List UInt8} {x k : Nat} (h : rdNum l = .ok (x, k)) : rdMany (n + 1) l = onto [x] k (rdMany n (l.drop k)) := by
 simp only [rdMany, h]
theorem rdMany_stop {n : Nat} {l : List UInt8} {e : Nat} (h : rdNum l = .error e) : rdMany (n + 1) l = .error e := by
 simp only [rdMany, h]
end Ins
namespace Go.Proofs.YthkglmkpnhhboaaGreatDoor
open Go.RowKit Ins
theorem und24u : Tryz.prog.underlying 24 = some (.slice 28) := by kernel_rfl
theorem info23 : (Tryz.prog.info? 28).map (fun i => (i.zero, i.size, i.bytes)) = some (some (.int .u32 0), 1, 4) := by kernel_rfl
theorem u32s_one (l : List Nat) : ∀ u ∈ u32s l, u.oneCell' = true := by
 intro u hu
 simp only [u32s, List.mem_map] at hu
 obtain ⟨x, _, rfl⟩ := hu
 rfl
theorem u32s_append (a b : List Nat) : u32s (a ++ b) = u32s a ++ u32s b := by simp [u32s]
theorem HasU.own {w : World} {base n : Nat} {e : TypeId} {v : Value} {l : List Nat} (h : w.ownsRow base e 1 v n (u32s l)) : ∃ (A : Option Addr) (c : Nat), v = .slice A l.length c ∧ n = l.length ∧ l.length ≤ c ∧ c ≤ maxLen ∧ HasU w (base ≤ ·) A l := by
 have hl := h.1
 rw [u32s_length, Nat.mul_one] at hl
 subst hl
 rcases h.2 with ⟨rfl, h0⟩ | ⟨g, cap, cur, rfl, hb, hh, hc, hm, _, htk⟩
 ·have : l = [] := List.eq_nil_of_length_eq_zero h0
  subst this
  exact ⟨none, 0, rfl, rfl, Nat.le_refl _, by unfold maxLen; omega, HasU.nil _ _ _⟩
 ·refine ⟨_, cap, rfl, rfl, hc, hm, fun k n hk => ⟨g, 0, rfl, hb, ?_⟩⟩
  have hkl : k < l.length := (List.getElem?_eq_some_iff.1 hk).1
  have e1 := u32s_at hk
  rw [← htk, Nat.mul_one, List.getElem?_take, if_pos hkl] at e1
  rw [Nat.zero_add, cell_of_row w g k cur e (0, 0) hh]
  simpa using e1
theorem append1u (w : World) (base n : Nat) (v : Value) (l : List Nat) (x : Nat) (hown : w.ownsRow base 28 1 v n (u32s l)) (hsz : n + 1 ≤ 4294967296) (hb : base ≤ w.heap.size) :
  ∃ v' w', (Builtin.append_ #[24, 24] 24 #[v, .slice (some ⟨w.heap.size, 0, none⟩) 1 1]).run Tryz.prog (w.alloc (.cells #[.int .u32 (x : Int)] 28)) = .ok v' w' ∧ w'.ownsRow base 28 1 v' (n + 1) (u32s (l ++ [x])) ∧ Mod (base ≤ ·) w w' := by
 obtain ⟨i0, hi, hz0, hz1, hz2⟩ := info_parts info23
 obtain ⟨v', w', hrun, h2, h3, _⟩ := run_append_own (P := Tryz.prog) (w.alloc (.cells #[.int .u32 (x : Int)] 28)) base 24 24 28 i0 (.int .u32 0) 1 4 und24u hi hz0 hz1 hz2 rfl (by decide) v n (u32s l) (hown.alloc _) ⟨w.heap.size, 0, none⟩ 1 1 (u32s [x]) rfl (cZ w _ _) (u32s_one [x]) (by unfold maxLen; omega) (by omega) (by simp; omega)
 exact ⟨v', w', hrun, by rw [u32s_append]; exact h2, ((Mod.refl _ w).alloc _).trans (T' := (base ≤ ·)) (Mod.of_grown h3 (aw hown)) (fun _ _ h => h)⟩
def LabsV (B : Nat) (w : World) (v : Value) (xs : List Nat) : Prop := ∃ A c, v = .slice A xs.length c ∧ xs.length ≤ c ∧ c ≤ maxLen ∧ HasU w (B ≤ ·) A xs
theorem labels_any (R : Nat) (A : Option Addr) (c : Nat) (l : List UInt8) (p : Nat) (w : World) (h : Rd w R A c l p) :
  Calls Tryz.prog 166 #[.pointer (some ⟨R, 0, none⟩)] w (bf R A c l p w (rdLabels (l.drop p)) (LabsV w.heap.size)) := by
 have hlt := Y h.lt
 have HC := Y (bp R A c l p w h)
 clear h
 unfold rdLabels
 cases hr : rdNum (l.drop p) with
 | error e =>
  rw [hr] at HC
  obtain rfl := bk hr
  go_enter Tryz.func166, Tryz.ntmps166
  go_wp2_with (go_at_call 165; refine HC.out.mono ?_; rintro e w1 ⟨rfl, hm⟩)
  exact ⟨rfl, rfl, hm⟩
 | ok q =>
  obtain ⟨N, k⟩ := q
  have hN := (aB hr).1
  rw [hr] at HC
  clear hr
  dsimp only
  rw [List.drop_drop]
  go_enter Tryz.func166, Tryz.ntmps166
  go_wp2_with (go_at_call 165; refine HC.out.mono ?_; rintro e w1 ⟨v, rfl, rfl, hr, hm⟩; have HR := Y hr; have HM := Y hm; clear hr hm)
  clear HC
  go_loopw [3, 6] (fun v i wr => ∃ (j m : Nat) (xs : List Nat), j ≤ N ∧ i = .int .u32 (j : Int) ∧ Hid (wr.ownsRow w.heap.size 28 1 v j (u32s xs)) ∧ Hid (Rd wr R A c l (p + k + m)) ∧ Hid (Mod (· = R) w wr) ∧ Hid (rdMany N (l.drop (p + k)) = onto xs m (rdMany (N - j) (l.drop (p + k + m))))) (fun _ i _ => N - (intOf i).toNat)
  case atStart => exact ⟨0, 0, [], by omega, rfl, Y (World.ownsRow_nil _ _ _ _), HR, HM, Y (by simp only [Nat.sub_zero, Nat.add_zero]; cases rdMany N (l.drop (p + k)) <;> simp [onto])⟩
  case round =>
   obtain ⟨j, m, xs, hj, rfl, HO, HR1, HM1, HE⟩ := hrel
   by_cases hjn : j < N
   ·have HC := Y (bp R A c l (p + k + m) wr HR1.out)
    obtain ⟨d, hd⟩ : ∃ d, N - j = d + 1 := ⟨N - j - 1, by omega⟩
    have hd2 : d = N - (j + 1) := by omega
    have HD := Y hd
    have HD2 := Y hd2
    clear hd hd2
    have hw : IntKind.u32.wrap ((j : Int) + 1) = (j : Int) + 1 := IntWalk.u32_in _ (by omega)
    cases hr : rdNum (l.drop (p + k + m)) with
    | error e =>
     rw [hr] at HC
     have HS := Y (rdMany_stop (n := d) hr)
     obtain rfl := bk hr
     clear hr
     go_wp2_with (go_at_call 165; refine HC.out.mono ?_; rintro e w2 ⟨rfl, hm⟩; have HM2 := Y hm; clear hm)
     rw [HE.out, HD.out, HS.out]
     exact ⟨rfl, rfl, HM1.out.trans HM2.out (fun _ _ h => h)⟩
    | ok q =>
     obtain ⟨x, k2⟩ := q
     rw [hr] at HC
     have HS := Y (rdMany_step (n := d) hr)
     clear hr
     go_wp2_with (first | (go_at_call 165; refine HC.out.mono ?_; rintro e w2 ⟨v, rfl, rfl, hr, hm⟩; have HR2 := Y hr; have HM2 := Y hm; clear hr hm; obtain ⟨v3, w3, hr3, ho3, hm3⟩ := append1u w2 w.heap.size j _ xs x (HM2.out.own HO.out (fun g hg e => by have := aw HO.out g hg; have := hlt.out; omega)) (by omega) (Nat.le_trans HM1.out.size HM2.out.size); have HA3 := Y hr3; have HO3 := Y ho3; have HM3 := Y hm3; clear hr3 ho3 hm3) | (at_builtin; refine aa rfl (.tmp 8) (.tmp 11) 24 rfl _ _ _ w3 rfl rfl HA3.out ?_))
     go_roundw
     case rel =>
      refine ⟨j + 1, m + k2, xs ++ [x], by omega, by go_num, HO3, Y ?_, Y ?_, Y ?_⟩
      ·have h := HR2.out.keep HM3.out (fun g hg => by have := hlt.out; omega)
       rwa [Nat.add_assoc] at h
      ·exact (HM1.out.trans HM2.out (fun _ _ h => h)).trans HM3.out (fun g hg h => by omega)
      ·rw [HE.out, HD.out, HS.out, aI, List.drop_drop, ← HD2.out, Nat.add_assoc]
     case measure => simp [intOf]; omega
   ·obtain rfl : j = N := by omega
    go_wp2_with fail
    go_ret
    rw [HE.out, Nat.sub_self]
    obtain ⟨A', c', hv, hn, h1, h2, h3⟩ := HasU.own HO.out
    simp only [rdMany, onto, List.append_nil, Nat.add_zero]
    exact ⟨_, rfl, ⟨A', c', hv, h1, h2, h3⟩, by simpa [Nat.add_assoc] using HR1.out, HM1.out⟩
end Go.Proofs.YthkglmkpnhhboaaGreatDoor
