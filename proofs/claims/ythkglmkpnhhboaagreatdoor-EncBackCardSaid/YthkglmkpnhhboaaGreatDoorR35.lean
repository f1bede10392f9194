/-
  Layer 6's reader: what it has ahead of it; its bytes, its numbers, names and expressions.
-/
import Derived.Test.YthkglmkpnhhboaaGreatDoorR01
import Derived.Test.YthkglmkpnhhboaaGreatDoorR23
import Derived.Test.YthkglmkpnhhboaaGreatDoorR16
import Derived.Test.YthkglmkpnhhboaaGreatDoorR17
import Derived.Test.YthkglmkpnhhboaaGreatDoorR21
import Derived.Test.YthkglmkpnhhboaaGreatDoorR19
set_option maxRecDepth 100000
set_option maxHeartbeats 4000000
namespace Go.Proofs.YthkglmkpnhhboaaGreatDoor
open Go.RowKit Ins Bin
def Rb (w : World) (R : Nat) (l : List UInt8) : Prop :=
 ∃ A c, w.heap[R]? = some (.cells #[.slice A l.length c] 118 (0, 0)) ∧ Has w R A l ∧ l.length ≤ 65536 ∧ l.length ≤ c ∧ c ≤ maxLen ∧ (A = none → c = 0) ∧ 2 ≤ R
theorem Rb.lt {w : World} {R : Nat} {l : List UInt8} (h : Rb w R l) : R < w.heap.size := by
 obtain ⟨A, c, h, _⟩ := h
 exact (Array.getElem?_eq_some_iff.1 h).1
theorem Rb.two {w : World} {R : Nat} {l : List UInt8} (h : Rb w R l) : 2 ≤ R := by
 obtain ⟨A, c, _, _, _, _, _, _, h⟩ := h
 exact h
theorem Rb.len {w : World} {R : Nat} {l : List UInt8} (h : Rb w R l) : l.length ≤ 65536 := by
 obtain ⟨A, c, _, _, h, _⟩ := h
 exact h
theorem Rb.keep {w w' : World} {T : Nat → Prop} {R : Nat} {l : List UInt8} (h : Rb w R l) (hm : Mod T w w') (ht : ∀ k, k ≤ R → ¬ T k) : Rb w' R l := by
 obtain ⟨A, c, h1, h2, h3⟩ := h
 exact ⟨A, c, hm.heap h1 (ht R (Nat.le_refl _)), hm.has h2 (fun k hk => ht k (by omega)), h3⟩
theorem Rb.alloc {w : World} {R : Nat} {l : List UInt8} (h : Rb w R l) (o : Obj) : Rb (w.alloc o) R l := h.keep ((Mod.refl (fun _ => False) w).alloc o) (fun _ _ h => h)
theorem rb_go {w w' : World} {R c c' : Nat} {A A' : Option Addr} {l r : List UInt8} (hR : w.heap[R]? = some (.cells #[.slice A l.length c] 118 (0, 0))) (h2 : 2 ≤ R)
  (hA : Has w R A' r) (h3 : r.length ≤ 65536) (h4 : r.length ≤ c') (h5 : c' ≤ maxLen) (h6 : A' = none → c' = 0) (hh : w'.heap = (w.setCell ⟨R, 0, none⟩ (.slice A' r.length c')).heap) : Rb w' R r := by
 refine ⟨A', c', ?_, hA.keep fun a ha => ?_, h3, h4, h5, h6, h2⟩
 ·rw [hh, heap_setCell_same w R 0 _ _ _ hR]; rfl
 ·refine World.cell?_of_block ?_
  rw [hh]
  exact Below.heap_setCell _ _ _ _ (by show a.block ≠ R; omega)
def ap {α : Type} (R : Nat) (w : World) (l : List UInt8) (r : Except Nat (α × Nat)) (f : World → α → Value → Prop) (e : Ending) (w' : World) : Prop :=
 match r with
 | .error k => e = erred k ∧ Mod (· = R) w w'
 | .ok (x, n) => ∃ v, e = .returned v ∧ f w' x v ∧ Rb w' R (l.drop n) ∧ Mod (· = R) w w'
theorem Tb.mod {T : Nat → Prop} {w w' : World} (h : Tb w) (hm : Mod T w w') (ht : ∀ k, k < 2 → ¬ T k) : Tb w' := by
 obtain ⟨⟨h1, h2⟩, h3⟩ := h
 refine ⟨⟨fun c hc => (World.cell?_of_block (hm.block 0 (by omega) (ht 0 (by omega)))).trans (h1 c hc), fun i hi => ?_⟩, by have := hm.size; omega⟩
 exact ⟨(World.cell?_of_block (hm.block 1 (by omega) (ht 1 (by omega)))).trans (h2 i hi).1, (World.cell?_of_block (hm.block 1 (by omega) (ht 1 (by omega)))).trans (h2 i hi).2⟩
theorem Tb.rb {w w' : World} {R : Nat} {l : List UInt8} (h : Tb w) (hR : Rb w R l) (hm : Mod (· = R) w w') : Tb w' := h.mod hm (fun k hk e => by have := hR.two; omega)
def TkB (R : Nat) (w : World) (l : List UInt8) (n : Nat) (e : Ending) (w' : World) : Prop :=
 if n ≤ l.length then ∃ A c, e = .returned (.slice A n c) ∧ n ≤ c ∧ c ≤ maxLen ∧ (A = none → c = 0) ∧ Has w' R A (l.take n) ∧ Rb w' R (l.drop n) ∧ Mod (· = R) w w'
 else e = erred 60 ∧ Mod (· = R) w w'
theorem it (R n : Nat) (l : List UInt8) (w : World) (h : Rb w R l) (hn : n < 4294967296) :
  Calls Tryz.prog 121 #[.pointer (some ⟨R, 0, none⟩), .int .u32 (n : Int)] w (TkB R w l n) := by
 obtain ⟨A, c, h1, h2, h3, h4, h5, h6, h7⟩ := h
 have h0 : w.cell? ⟨R, 0, none⟩ = some (.slice A l.length c) := by rw [cell_of_row w R 0 _ _ (0, 0) h1]; rfl
 have hf : w.frozen? ⟨R, 0, none⟩ = false := frozen_of_row w R 0 _ _ h1
 have H1 := Y h1
 have H2 := Y h2
 have H7 := Y h7
 clear h1 h2 h7
 have hu1 : IntKind.u64.wrap (n : Int) = (n : Int) := IntWalk.u64_in _ (by omega)
 have hu2 : IntKind.u64.wrap (l.length : Int) = (l.length : Int) := IntWalk.u64_in _ (by omega)
 have h5' := h5
 unfold maxLen at h5'
 unfold TkB
 by_cases hle : n ≤ l.length
 ·simp only [if_pos hle]
  have hd : decide ((n : Int) > (l.length : Int)) = false := decide_eq_false (by omega)
  have hd1 : decide ((l.length : Int) < (n : Int)) = false := decide_eq_false (by omega)
  have hd2 : decide (l.length < n) = false := decide_eq_false (by omega)
  have hk : ∀ (A' : Option Addr) (c' : Nat), Has w R A' (l.drop n) → l.length - n ≤ c' → c' ≤ maxLen → (A' = none → c' = 0) → Rb (w.setCell ⟨R, 0, none⟩ (.slice A' (l.length - n) c')) R (l.drop n) := by
   intro A' c' q1 q2 q3 q4
   refine rb_go H1.out H7.out q1 (by rw [List.length_drop]; omega) (by rw [List.length_drop]; exact q2) q3 q4 ?_
   rw [List.length_drop]
  have HK := Y hk
  clear hk
  have hM : ∀ v, Mod (· = R) w (w.setCell ⟨R, 0, none⟩ v) := fun v => Mod.setCell (T := (· = R)) (Mod.refl _ w) (fun _ => rfl) v
  have HM := Y hM
  clear hM
  have hT : ∀ v, Has (w.setCell ⟨R, 0, none⟩ v) R A (l.take n) := fun v => ((HM.out v).has (T := (· = R)) H2.out (fun k hk e => by omega)).take n
  have HTT := Y hT
  clear hT
  obtain ⟨m, hm⟩ : ∃ m, l.length = m := ⟨_, rfl⟩
  rw [hm] at h0 h3 h4 hle hd hd1 hd2 hu2 HK
  have hm2 := hm
  cases A with
  | none =>
   obtain rfl := h6 rfl
   obtain rfl : m = 0 := by omega
   obtain rfl : n = 0 := by omega
   have HG := Y (HK.out none 0 (by have := H2.out; rwa [List.drop_zero]) (by omega) (by omega) (fun _ => rfl))
   have HH := Y hm
   clear hm hm2 HK h6
   go_enter Tryz.func121, Tryz.ntmps121
   go_wp2_with fail
   go_ret
   exact ⟨none, 0, rfl, by omega, by omega, fun _ => rfl, HTT.out _, HG.out, HM.out _⟩
  | some ad =>
   by_cases hnc : c = n
   ·obtain rfl : m = n := by omega
    subst hnc
    have HG := Y (HK.out (some ad) 0 (by rw [List.drop_of_length_le (by omega)]; exact Has.nil _ _ _) (by omega) (by omega) (fun _ => rfl))
    rw [Nat.sub_self] at HG
    have HH := Y hm
    clear hm hm2 HK h6
    go_enter Tryz.func121, Tryz.ntmps121
    go_wp2_with fail
    go_ret
    exact ⟨some ad, _, rfl, by omega, by omega, fun e => (by cases e), HTT.out _, HG.out, HM.out _⟩
   ·have hcn : ¬ (c - n = 0) := by omega
    have hnc2 : n ≤ c := by omega
    have hi1 : (n : Int) ≤ (c : Int) := by omega
    have hi2 : (n : Int) ≤ (m : Int) := by omega
    have HG := Y (HK.out (some (ad.add n)) (c - n) (H2.out.from n) (by omega) (by omega) (fun e => (by cases e)))
    have HH := Y hm
    clear hm hm2 HK h6
    go_enter Tryz.func121, Tryz.ntmps121
    go_wp2_with fail
    go_ret
    exact ⟨some ad, _, rfl, by omega, by omega, fun e => (by cases e), HTT.out _, HG.out, HM.out _⟩
 ·simp only [if_neg hle]
  have hd : decide ((n : Int) > (l.length : Int)) = true := decide_eq_true (by omega)
  have hd1 : decide ((l.length : Int) < (n : Int)) = true := decide_eq_true (by omega)
  have hd3 : (l.length : Int) < (n : Int) := by omega
  have hd2 : decide (l.length < n) = true := decide_eq_true (by omega)
  clear H1 h4 hle
  generalize l.length = m at *
  clear h6
  go_enter Tryz.func121, Tryz.ntmps121
  go_wp2_with fail
  exact ⟨rfl, rfl, Mod.refl _ w⟩
theorem rb_cut {w : World} {R c : Nat} {A : Option Addr} {l : List UInt8} (hR : w.heap[R]? = some (.cells #[.slice A l.length c] 118 (0, 0))) (hA : Has w R A l) (h3 : l.length ≤ 65536) (h4 : l.length ≤ c) (h5 : c ≤ maxLen) (h7 : 2 ≤ R) (k : Nat) (hk : k ≤ l.length) (W : World) (hb : Below w.heap.size w W) :
  W.cell? ⟨R, 0, none⟩ = some (.slice A l.length c) ∧ W.frozen? ⟨R, 0, none⟩ = false ∧ (∀ v, Mod (· = R) w (W.setCell ⟨R, 0, none⟩ v)) ∧ (l.length = k → Rb (W.setCell ⟨R, 0, none⟩ (.slice A 0 0)) R (l.drop k)) ∧
   (∀ ad, A = some ad → Rb (W.setCell ⟨R, 0, none⟩ (.slice (some (ad.add k)) (l.length - k) (c - k))) R (l.drop k)) := by
 have hM := Mod.of_below (T := fun _ => False) hb
 have h1 := hM.heap hR (fun h => h)
 have h2 := hM.has hA (fun _ _ h => h)
 have hl : R < w.heap.size := (Array.getElem?_eq_some_iff.1 hR).1
 refine ⟨by rw [cell_of_row W R 0 _ _ (0, 0) h1]; rfl, frozen_of_row W R 0 _ _ h1, fun v => Mod.setCell (T := (· = R)) (Mod.of_below hb) (fun _ => rfl) v, fun e => ?_, fun ad e => ?_⟩
 ·refine rb_go h1 h7 (A' := A) (c' := 0) (by rw [List.drop_of_length_le (by omega)]; exact Has.nil _ _ _) (by rw [List.length_drop]; omega) (by rw [List.length_drop]; omega) (by omega) (fun _ => rfl) ?_
  rw [List.length_drop, e, Nat.sub_self]
 ·subst e
  refine rb_go h1 h7 (A' := some (ad.add k)) (c' := c - k) (h2.from k) (by rw [List.length_drop]; omega) (by rw [List.length_drop]; omega) (by omega) (fun e => by cases e) ?_
  rw [List.length_drop]
theorem byte_nil {l : List UInt8} (h : ¬ 1 ≤ l.length) : byte l = .error 60 := by
 cases l with
 | nil => rfl
 | cons x r => simp at h
theorem byte_cons {l : List UInt8} (h : 1 ≤ l.length) : ∃ x, l.take 1 = [x] ∧ byte l = .ok (x, 1) := by
 cases l with
 | nil => simp at h
 | cons x r => exact ⟨x, by simp, rfl⟩
theorem eH (R : Nat) (l : List UInt8) (w : World) (h : Rb w R l) :
  Calls Tryz.prog 139 #[.pointer (some ⟨R, 0, none⟩)] w (ap R w l (byte l) fun _ x v => v = .int .u8 (x.toNat : Int)) := by
 have HC := Y (it R 1 l w h (by omega))
 unfold TkB at HC
 by_cases hle : 1 ≤ l.length
 ·simp only [if_pos hle] at HC
  obtain ⟨x, hx1, hx2⟩ := byte_cons hle
  rw [hx1] at HC
  rw [hx2]
  clear hx1 hx2 hle
  go_enter Tryz.func139, Tryz.ntmps139
  go_wp2_with (go_at_call 121; refine HC.out.mono ?_; rintro e w1 ⟨A, c, rfl, h1, _, _, h2, h3, h4⟩; obtain ⟨ad, rfl, _, hcell⟩ := h2 0 x rfl; have hcell2 : w1.cell? ad = some (.int .u8 (x.toNat : Int)) := hcell; have H3 := Y h3; have H4 := Y h4; clear h2 h3 h4 hcell)
  go_ret
  exact ⟨_, rfl, rfl, H3.out, H4.out⟩
 ·simp only [if_neg hle] at HC
  rw [byte_nil hle]
  clear hle
  go_enter Tryz.func139, Tryz.ntmps139
  go_wp2_with (go_at_call 121; refine HC.out.mono ?_; rintro e w1 ⟨rfl, hm⟩)
  exact ⟨rfl, rfl, hm⟩
theorem HasI.lay {w : World} {S : Nat → Prop} {A : Option Addr} {xs : List I} (h : HasI w S A xs) : HasL w S A xs := fun k x hx => by
 obtain ⟨g, o, A', c, h1, h2, h3, h4, h5, h6, h7⟩ := h k x hx
 exact ⟨g, o, insCells x A' c, h1, h2, World.block_lt_of_cell? w _ (h7 0 _ rfl), ⟨A', c, rfl, h3, h4, h5, h6⟩, h7⟩
theorem InsL.sl {B : Nat} {w : World} {v : Value} {xs : List I} (h : InsL B w v xs) : J w (B ≤ ·) xs v := by
 obtain ⟨A, c, h1, h2, h3, h4⟩ := h
 exact ⟨A, c, h1, h2, h3.1, h3.2, h4.lay⟩
theorem name_named {l : List UInt8} (h : Nm.ok l = true) : Bin.name l = .ok (Nm.str l, Nm.cnt l) ∧ 1 ≤ Nm.cnt l ∧ Nm.cnt l ≤ l.length := by
 have h' : Sec.named l = true := h
 refine ⟨?_, ?_, ?_⟩
 ·unfold Bin.name
  rw [if_pos h']
  unfold Nm.str Nm.cnt
  rw [if_pos h, if_pos h]
 ·unfold Nm.cnt
  rw [if_pos h]
  unfold Nm.ok at h
  simp only [Bool.and_eq_true, decide_eq_true_eq] at h
  have := Sec.okU_32 h.1.1
  omega
 ·unfold Nm.cnt
  rw [if_pos h]
  unfold Nm.ok at h
  simp only [Bool.and_eq_true, decide_eq_true_eq] at h
  omega
theorem name_not {l : List UInt8} (h : Nm.ok l = false) : Bin.name l = .error 60 ∧ Nm.str l = [] ∧ Nm.cnt l = 0 := by
 have h' : ¬ Sec.named l = true := by
  show ¬ Nm.ok l = true
  rw [h]; decide
 refine ⟨?_, ?_, ?_⟩
 ·unfold Bin.name
  rw [if_neg h']
 ·unfold Nm.str
  rw [h]; rfl
 ·unfold Nm.cnt
  rw [h]; rfl
theorem ar (R : Nat) (l : List UInt8) (w : World) (h : Rb w R l) :
  Calls Tryz.prog 73 #[.pointer (some ⟨R, 0, none⟩)] w (ap R w l (num l) fun _ x v => v = .int .u32 (x : Int) ∧ x < 4294967296) := by
 have HR := Y h
 obtain ⟨A, c, h1, h2, h3, h4, h5, h6, h7⟩ := h
 have HCUT := Y (fun k hk W hb => rb_cut h1 h2 h3 h4 h5 h7 k hk W hb)
 have hlt : R < w.heap.size := (Array.getElem?_eq_some_iff.1 h1).1
 have h2' : Has w w.heap.size A l := h2.more (Nat.le_of_lt hlt)
 have h0 : w.cell? ⟨R, 0, none⟩ = some (.slice A l.length c) := by rw [cell_of_row w R 0 _ _ (0, 0) h1]; rfl
 have h5' := h5
 unfold maxLen at h5'
 have HC := Y (c8 A l l.length c 32 w rfl (by omega) h2')
 have H2 := Y h2
 have H6 := Y h6
 clear h1 h2 h2' h5 h6
 cases hr : num l with
 | error e0 =>
  obtain ⟨r1, r2, r3, rfl⟩ := bH hr
  rw [r1, r2, r3] at HC
  clear r1 r2 r3 hr
  obtain ⟨m, hm⟩ : ∃ m, l.length = m := ⟨_, rfl⟩
  rw [hm] at h0 h3 h4 HC
  clear hm HCUT
  go_enter Tryz.func73, Tryz.ntmps73
  go_wp2_with (go_at_call 47; refine HC.out.mono ?_; rintro e w1 ⟨rfl, hb⟩)
  exact ⟨rfl, rfl, Mod.of_below hb⟩
 | ok q =>
  obtain ⟨x, k⟩ := q
  obtain ⟨r1, r2, r3⟩ := gq hr
  obtain ⟨hx, hk1, hkl, _⟩ := aB hr
  have hw : IntKind.u32.wrap (x : Int) = (x : Int) := IntWalk.u32_in _ (by omega)
  rw [r1, r2, r3] at HC
  have HX := Y hx
  clear hx r1 r2 r3 hr
  cases A with
  | none =>
   exfalso
   have := H6.out rfl
   omega
  | some ad =>
   have HK := Y (HCUT.out k hkl)
   have HD : Hid (c = k → l.length = k) := Y (fun e => by omega)
   have hkc : k ≤ c := by omega
   have hki : (k : Int) ≤ (c : Int) := by omega
   have hki2 : (k : Int) ≤ (l.length : Int) := by omega
   have hLT := Y hlt
   clear hlt
   obtain ⟨m, hm⟩ : ∃ m, l.length = m := ⟨_, rfl⟩
   rw [hm] at h0 h3 h4 hkl HK HD hki2 HC
   clear HCUT hm H2 H6
   by_cases hck : c = k
   ·have hmk : m = k := HD.out hck
    subst hck
    subst hmk
    clear HD hk1 hkl hkc
    go_enter Tryz.func73, Tryz.ntmps73
    go_wp2_with (go_at_call 47; refine HC.out.mono ?_; rintro e w1 ⟨rfl, hb⟩; obtain ⟨k0, k1, k2, k3, _⟩ := HK.out _ hb; have HM := Y k2; have HG := Y (k3 rfl); have HB := Y hb; clear k2 k3 hb)
    go_ret
    exact ⟨_, rfl, ⟨rfl, HX.out⟩, HG.out, HM.out _⟩
   ·have hck2 : ¬ (c - k = 0) := by omega
    clear HD
    go_enter Tryz.func73, Tryz.ntmps73
    go_wp2_with (go_at_call 47; refine HC.out.mono ?_; rintro e w1 ⟨rfl, hb⟩; obtain ⟨k0, k1, k2, _, k4⟩ := HK.out _ hb; have HM := Y k2; have HG := Y (k4 ad rfl); have HB := Y hb; clear k2 k4 hb)
    go_ret
    exact ⟨_, rfl, ⟨rfl, HX.out⟩, HG.out, HM.out _⟩
theorem eG (R : Nat) (l : List UInt8) (w : World) (h : Rb w R l) (hT : Tb w) :
  Calls Tryz.prog 117 #[.pointer (some ⟨R, 0, none⟩)] w (ap R w l (Bin.name l) fun _ x v => v = strV x) := by
 have HR := Y h
 obtain ⟨A, c, h1, h2, h3, h4, h5, h6, h7⟩ := h
 have HCUT := Y (fun k hk W hb => rb_cut h1 h2 h3 h4 h5 h7 k hk W hb)
 have hlt : R < w.heap.size := (Array.getElem?_eq_some_iff.1 h1).1
 have h2' : Has w w.heap.size A l := h2.more (Nat.le_of_lt hlt)
 have h0 : w.cell? ⟨R, 0, none⟩ = some (.slice A l.length c) := by rw [cell_of_row w R 0 _ _ (0, 0) h1]; rfl
 have h5' := h5
 unfold maxLen at h5'
 have HC := Y (gQ A l l.length c w rfl (by omega) h4 (by omega) h2' hT)
 unfold dY at HC
 clear hT
 have H2 := Y h2
 have H6 := Y h6
 clear h1 h2 h2' h5 h6
 cases hr : Nm.ok l with
 | false =>
  obtain ⟨hq, hq2, hq3⟩ := name_not hr
  rw [hq]
  rw [hr, hq2, hq3] at HC
  clear hq hq2 hq3 hr
  obtain ⟨m, hm⟩ : ∃ m, l.length = m := ⟨_, rfl⟩
  rw [hm] at h0 h3 h4 HC
  clear hm HCUT
  go_enter Tryz.func117, Tryz.ntmps117
  go_wp2_with (go_at_call 48; refine HC.out.mono ?_; rintro e w1 ⟨rfl, hb⟩)
  exact ⟨rfl, rfl, Mod.of_below hb⟩
 | true =>
  obtain ⟨hq, hk1, hkl⟩ := name_named hr
  rw [hq]
  generalize Nm.str l = s at HC ⊢
  generalize Nm.cnt l = k at HC hk1 hkl ⊢
  rw [hr] at HC
  clear hq hr
  cases A with
  | none =>
   exfalso
   have := H6.out rfl
   omega
  | some ad =>
   have HK := Y (HCUT.out k hkl)
   have HD : Hid (c = k → l.length = k) := Y (fun e => by omega)
   have hkc : k ≤ c := by omega
   have hki : (k : Int) ≤ (c : Int) := by omega
   have hki2 : (k : Int) ≤ (l.length : Int) := by omega
   have hLT := Y hlt
   clear hlt
   obtain ⟨m, hm⟩ : ∃ m, l.length = m := ⟨_, rfl⟩
   rw [hm] at h0 h3 h4 hkl HK HD hki2 HC
   clear HCUT hm H2 H6
   by_cases hck : c = k
   ·have hmk : m = k := HD.out hck
    subst hck
    subst hmk
    clear HD hk1 hkl hkc
    go_enter Tryz.func117, Tryz.ntmps117
    go_wp2_with (go_at_call 48; refine HC.out.mono ?_; rintro e w1 ⟨rfl, hb⟩; obtain ⟨k0, k1, k2, k3, _⟩ := HK.out _ hb; have HM := Y k2; have HG := Y (k3 rfl); have HB := Y hb; clear k2 k3 hb)
    go_ret
    exact ⟨_, rfl, rfl, HG.out, HM.out _⟩
   ·have hck2 : ¬ (c - k = 0) := by omega
    clear HD
    go_enter Tryz.func117, Tryz.ntmps117
    go_wp2_with (go_at_call 48; refine HC.out.mono ?_; rintro e w1 ⟨rfl, hb⟩; obtain ⟨k0, k1, k2, _, k4⟩ := HK.out _ hb; have HM := Y k2; have HG := Y (k4 ad rfl); have HB := Y hb; clear k2 k4 hb)
    go_ret
    exact ⟨_, rfl, rfl, HG.out, HM.out _⟩
theorem dJ (R : Nat) (l : List UInt8) (w : World) (h : Rb w R l) :
  Calls Tryz.prog 120 #[.pointer (some ⟨R, 0, none⟩)] w (ap R w l (Bin.expr l) fun w' xs v => J w' (w.heap.size ≤ ·) xs v) := by
 have HR := Y h
 obtain ⟨A, c, h1, h2, h3, h4, h5, h6, h7⟩ := h
 have HCUT := Y (fun k hk W hb => rb_cut h1 h2 h3 h4 h5 h7 k hk W hb)
 have hlt : R < w.heap.size := (Array.getElem?_eq_some_iff.1 h1).1
 have h2' : Has w w.heap.size A l := h2.more (Nat.le_of_lt hlt)
 have h0 : w.cell? ⟨R, 0, none⟩ = some (.slice A l.length c) := by rw [cell_of_row w R 0 _ _ (0, 0) h1]; rfl
 have h5' := h5
 unfold maxLen at h5'
 have HC := Y (iB A l c w h2' (by omega) h4 h5 h6)
 unfold TEPost at HC
 have H2 := Y h2
 have H6 := Y h6
 clear h1 h2 h2' h5 h6
 have hex : takeExpr l = Bin.expr l := rfl
 rw [hex] at HC
 clear hex
 cases hr : Bin.expr l with
 | error e0 =>
  have hee : e0 = 60 ∨ e0 = 61 := cU _ _ _ _ hr
  simp only [hr] at HC
  have hne : ((e0 : Int) == 0) = false := by simp; omega
  have hne2 : ¬ ((e0 : Int) = 0) := by omega
  clear hr hee
  obtain ⟨m, hm⟩ : ∃ m, l.length = m := ⟨_, rfl⟩
  rw [hm] at h0 h3 h4 HC
  clear hm HCUT
  go_enter Tryz.func120, Tryz.ntmps120
  go_wp2_with (go_at_call 140; refine HC.out.mono ?_; rintro e w1 ⟨rfl, hb⟩)
  exact ⟨rfl, rfl, Mod.of_below hb⟩
 | ok q =>
  obtain ⟨xs, k⟩ := q
  have hkl := (bS _ _ _ _ _ hr).2.2.2.1
  have hk1 : 1 ≤ k := by have := (bS _ _ _ _ _ hr).2.2.2.2; simp [exprEnc] at this; omega
  simp only [hr] at HC
  clear hr
  cases A with
  | none =>
   exfalso
   have := H6.out rfl
   omega
  | some ad =>
   have HK := Y (HCUT.out k hkl)
   have HD : Hid (c = k → l.length = k) := Y (fun e => by omega)
   have hkc : k ≤ c := by omega
   have hki : (k : Int) ≤ (c : Int) := by omega
   have hki2 : (k : Int) ≤ (l.length : Int) := by omega
   have hLT := Y hlt
   clear hlt
   obtain ⟨m, hm⟩ : ∃ m, l.length = m := ⟨_, rfl⟩
   rw [hm] at h0 h3 h4 hkl HK HD hki2 HC
   clear HCUT hm H2 H6
   by_cases hck : c = k
   ·have hmk : m = k := HD.out hck
    subst hck
    subst hmk
    clear HD hk1 hkl hkc
    go_enter Tryz.func120, Tryz.ntmps120
    go_wp2_with (go_at_call 140; refine HC.out.mono ?_; rintro e w1 ⟨v, rfl, hx, hb⟩; have HX := Y hx.sl; clear hx; obtain ⟨k0, k1, k2, k3, _⟩ := HK.out _ hb; have HM := Y k2; have HG := Y (k3 rfl); have HB := Y hb; clear k2 k3 hb)
    go_ret
    exact ⟨_, rfl, HX.out.mod (Mod.setCell (T := (· = R)) (Mod.refl _ _) (fun _ => rfl) _) (fun g _ hg e => by have := hLT.out; omega), HG.out, HM.out _⟩
   ·have hck2 : ¬ (c - k = 0) := by omega
    clear HD
    go_enter Tryz.func120, Tryz.ntmps120
    go_wp2_with (go_at_call 140; refine HC.out.mono ?_; rintro e w1 ⟨v, rfl, hx, hb⟩; have HX := Y hx.sl; clear hx; obtain ⟨k0, k1, k2, _, k4⟩ := HK.out _ hb; have HM := Y k2; have HG := Y (k4 ad rfl); have HB := Y hb; clear k2 k4 hb)
    go_ret
    exact ⟨_, rfl, HX.out.mod (Mod.setCell (T := (· = R)) (Mod.refl _ _) (fun _ => rfl) _) (fun g _ hg e => by have := hLT.out; omega), HG.out, HM.out _⟩
end Go.Proofs.YthkglmkpnhhboaaGreatDoor
namespace Bin
open Ins
theorem aS {α : Type} {p : P α} {l : List UInt8} {e : Nat} (h : num l = .error e) : list p l = .error e := by
 unfold list P.then
 rw [h]
theorem bC {α : Type} {p : P α} {l : List UInt8} {n i : Nat} (h : num l = .ok (n, i)) : list p l = onto [] i (many p n (l.drop i)) := by
 unfold list P.then
 rw [h]
 dsimp only
 cases many p n (l.drop i) <;> rfl
theorem aR {α : Type} {p : P α} {l : List UInt8} {n e : Nat} (h : p l = .error e) : many p (n + 1) l = .error e := by
 unfold many P.then
 rw [h]
theorem bD {α : Type} {p : P α} {l : List UInt8} {n k : Nat} {x : α} (h : p l = .ok (x, k)) : many p (n + 1) l = onto [x] k (many p n (l.drop k)) := by
 show (p.then fun x => (many p n).then fun xs => P.ret (x :: xs)) l = _
 unfold P.then P.ret
 rw [h]
 dsimp only
 cases many p n (l.drop k) <;> rfl
theorem aQ {α : Type} (p : P α) (xs : List α) (k : Nat) (l : List UInt8) : onto xs k (many p 0 l) = .ok (xs, k) := by
 show Except.ok (xs ++ [], k + 0) = _
 simp
end Bin
namespace Go.Proofs.YthkglmkpnhhboaaGreatDoor
open Go.RowKit Ins Bin
def bI {α : Type} [Lay α] (B : Nat) (w : World) (x : α) (v : Value) : Prop := ∃ cs : List Value, v = .agg cs.toArray ∧ Lay.rep w (B ≤ ·) x cs
def Tell1 {α : Type} [Lay α] (B : Nat) (w : World) (x : α) (v : Value) : Prop := Lay.rep w (B ≤ ·) x [v]
end Go.Proofs.YthkglmkpnhhboaaGreatDoor
namespace Bin
open Ins
def mustP (n : Nat) : P Unit := byte.then fun x => if x.toNat = n then P.ret () else P.fail 60
def upP (n : Nat) : P UInt8 := byte.then fun x => if x.toNat ≤ n then P.ret x else P.fail 60
theorem ak {α β : Type} {p : P α} {f : α → P β} {l : List UInt8} {e : Nat} (h : p l = .error e) : p.then f l = .error e := by
 unfold P.then; rw [h]
theorem ae {α β : Type} {p : P α} {f : α → P β} {l l' : List UInt8} {a : α} {b : β} {k j : Nat} (h : p l = .ok (a, k)) (hl : l.drop k = l') (h2 : f a l' = .ok (b, j)) : p.then f l = .ok (b, k + j) := by
 subst hl
 unfold P.then
 rw [h]
 dsimp only
 rw [h2]
theorem ag {α β : Type} {p : P α} {f : α → P β} {l l' : List UInt8} {a : α} {e k : Nat} (h : p l = .ok (a, k)) (hl : l.drop k = l') (h2 : f a l' = .error e) : p.then f l = .error e := by
 subst hl
 unfold P.then
 rw [h]
 dsimp only
 rw [h2]
theorem ay {α : Type} (a : α) (l : List UInt8) : P.ret a l = .ok (a, 0) := rfl
theorem byte_ok {l : List UInt8} {x : UInt8} {k : Nat} (h : byte l = .ok (x, k)) : k = 1 := by
 cases l with
 | nil => cases h
 | cons y r => injection h with h; injection h with _ h; exact h.symm
end Bin
namespace Go.Proofs.YthkglmkpnhhboaaGreatDoor
open Go.RowKit Ins Bin
theorem ie (n : Nat) (z : Int) (hz : z = (n : Int)) (R : Nat) (l : List UInt8) (w : World) (h : Rb w R l) :
  Calls Tryz.prog 114 #[.pointer (some ⟨R, 0, none⟩), .int .u8 z] w (ap R w l (mustP n l) fun _ _ v => v = .tuple #[]) := by
 have HC := Y (eH R l w h)
 cases hb : byte l with
 | error e0 =>
  have hp : mustP n l = .error e0 := ak hb
  rw [hp]
  rw [hb] at HC
  clear hb hz hp
  go_enter Tryz.func114, Tryz.ntmps114
  go_wp2_with (go_at_call 139; refine HC.out.mono ?_; rintro e w1 ⟨rfl, hm⟩)
  exact ⟨rfl, rfl, hm⟩
 | ok q =>
  obtain ⟨x, k⟩ := q
  rw [hb] at HC
  by_cases hx : x.toNat = n
  ·have hp : mustP n l = .ok ((), k) := by
    unfold mustP
    rw [ae (j := 0) hb rfl (by rw [if_pos hx]; rfl)]; rfl
   rw [hp]
   have hz2 : z = (x.toNat : Int) := by omega
   clear hp hb hz hx
   subst hz2
   obtain ⟨y, hy⟩ : ∃ y, (x.toNat : Int) = y := ⟨_, rfl⟩
   have HY := Y hy
   rw [hy]
   clear hy
   go_enter Tryz.func114, Tryz.ntmps114
   go_wp2_with (go_at_call 139; refine HC.out.mono ?_; rintro e w1 ⟨v, rfl, hv, hr, hm⟩; obtain rfl : v = .int .u8 y := hv.trans (by rw [HY.out]); have HR := Y hr; have HM := Y hm; clear hr hm)
   go_end0
   exact ⟨_, rfl, rfl, HR.out, HM.out⟩
  ·have hp : mustP n l = .error 60 := by
    unfold mustP
    exact ag hb rfl (by rw [if_neg hx]; rfl)
   rw [hp]
   have hne : ((x.toNat : Int) == z) = false := by rw [beq_eq_false_iff_ne]; omega
   clear hp hb hz hx
   obtain ⟨y, hy⟩ : ∃ y, (x.toNat : Int) = y := ⟨_, rfl⟩
   have HY := Y hy
   rw [hy] at hne
   clear hy
   go_enter Tryz.func114, Tryz.ntmps114
   go_wp2_with (go_at_call 139; refine HC.out.mono ?_; rintro e w1 ⟨v, rfl, hv, hr, hm⟩; obtain rfl : v = .int .u8 y := hv.trans (by rw [HY.out]); have HR := Y hr; have HM := Y hm; clear hr hm)
   exact ⟨rfl, rfl, HM.out⟩
theorem dD (n : Nat) (z : Int) (hz : z = (n : Int)) (R : Nat) (l : List UInt8) (w : World) (h : Rb w R l) :
  Calls Tryz.prog 118 #[.pointer (some ⟨R, 0, none⟩), .int .u8 z] w (ap R w l (upP n l) fun _ x v => v = .int .u8 (x.toNat : Int)) := by
 have HC := Y (eH R l w h)
 cases hb : byte l with
 | error e0 =>
  have hp : upP n l = .error e0 := ak hb
  rw [hp]
  rw [hb] at HC
  clear hb hz hp
  go_enter Tryz.func118, Tryz.ntmps118
  go_wp2_with (go_at_call 139; refine HC.out.mono ?_; rintro e w1 ⟨rfl, hm⟩)
  exact ⟨rfl, rfl, hm⟩
 | ok q =>
  obtain ⟨x, k⟩ := q
  rw [hb] at HC
  by_cases hx : x.toNat ≤ n
  ·have hp : upP n l = .ok (x, k) := by
    unfold upP
    rw [ae (j := 0) hb rfl (by rw [if_pos hx]; rfl)]; rfl
   rw [hp]
   have hd : decide (z < (x.toNat : Int)) = false := decide_eq_false (by omega)
   clear hp hb hz hx
   obtain ⟨y, hy⟩ : ∃ y, (x.toNat : Int) = y := ⟨_, rfl⟩
   have HY := Y hy
   rw [hy] at hd
   clear hy
   go_enter Tryz.func118, Tryz.ntmps118
   go_wp2_with (go_at_call 139; refine HC.out.mono ?_; rintro e w1 ⟨v, rfl, hv, hr, hm⟩; obtain rfl : v = .int .u8 y := hv.trans (by rw [HY.out]); clear hv; have HR := Y hr; have HM := Y hm; clear hr hm)
   go_ret
   exact ⟨_, rfl, congrArg (Value.int .u8) HY.out.symm, HR.out, HM.out⟩
  ·have hp : upP n l = .error 60 := by
    unfold upP
    exact ag hb rfl (by rw [if_neg hx]; rfl)
   rw [hp]
   have hd : z < (x.toNat : Int) := by omega
   clear hp hb hz hx
   obtain ⟨y, hy⟩ : ∃ y, (x.toNat : Int) = y := ⟨_, rfl⟩
   have HY := Y hy
   rw [hy] at hd
   clear hy
   go_enter Tryz.func118, Tryz.ntmps118
   go_wp2_with (go_at_call 139; refine HC.out.mono ?_; rintro e w1 ⟨v, rfl, hv, hr, hm⟩; obtain rfl : v = .int .u8 y := hv.trans (by rw [HY.out]); clear hv; have HR := Y hr; have HM := Y hm; clear hr hm)
   exact ⟨rfl, rfl, HM.out⟩
theorem value_ok {l : List UInt8} {x : UInt8} {k : Nat} (hb : byte l = .ok (x, k)) (h : x = 127 ∨ x = 126) : value l = .ok (x, k) := by
 unfold value
 rw [ae (j := 0) hb rfl (by rw [if_neg (by rcases h with rfl | rfl <;> decide), if_pos h]; rfl)]; rfl
theorem value_float {l : List UInt8} {x : UInt8} {k : Nat} (hb : byte l = .ok (x, k)) (h : x = 125 ∨ x = 124) : value l = .error 61 := by
 unfold value
 exact ag hb rfl (by rw [if_pos h]; rfl)
theorem value_not {l : List UInt8} {x : UInt8} {k : Nat} (hb : byte l = .ok (x, k)) (h1 : ¬ (x = 125 ∨ x = 124)) (h2 : ¬ (x = 127 ∨ x = 126)) : value l = .error 60 := by
 unfold value
 exact ag hb rfl (by rw [if_neg h1, if_neg h2]; rfl)
theorem dX (R : Nat) (l : List UInt8) (w : World) (h : Rb w R l) :
  Calls Tryz.prog 116 #[.pointer (some ⟨R, 0, none⟩)] w (ap R w l (value l) fun _ x v => v = .int .u8 (x.toNat : Int)) := by
 have HC := Y (eH R l w h)
 cases hb : byte l with
 | error e0 =>
  have hp : value l = .error e0 := ak hb
  rw [hp]
  rw [hb] at HC
  clear hb hp
  go_enter Tryz.func116, Tryz.ntmps116
  go_wp2_with (go_at_call 139; refine HC.out.mono ?_; rintro e w1 ⟨rfl, hm⟩)
  exact ⟨rfl, rfl, hm⟩
 | ok q =>
  obtain ⟨x, k⟩ := q
  rw [hb] at HC
  by_cases h1 : x = 127 ∨ x = 126
  ·rw [value_ok hb h1]
   clear hb
   rcases h1 with rfl | rfl
   all_goals
    go_enter Tryz.func116, Tryz.ntmps116
    go_wp2_with (go_at_call 139; refine HC.out.mono ?_; rintro e w1 ⟨v, rfl, hv, hr, hm⟩; (first | (obtain rfl : v = .int .u8 127 := hv) | (obtain rfl : v = .int .u8 126 := hv)); have HR := Y hr; have HM := Y hm; clear hr hm)
    go_ret
    exact ⟨_, rfl, rfl, HR.out, HM.out⟩
  ·by_cases h2 : x = 125 ∨ x = 124
   ·rw [value_float hb h2]
    clear hb h1
    rcases h2 with rfl | rfl
    all_goals
     go_enter Tryz.func116, Tryz.ntmps116
     go_wp2_with (go_at_call 139; refine HC.out.mono ?_; rintro e w1 ⟨v, rfl, hv, hr, hm⟩; (first | (obtain rfl : v = .int .u8 125 := hv) | (obtain rfl : v = .int .u8 124 := hv)); have HR := Y hr; have HM := Y hm; clear hr hm)
     exact ⟨rfl, rfl, HM.out⟩
   ·rw [value_not hb h2 h1]
    have k1 : ((x.toNat : Int) == 127) = false := by rw [beq_eq_false_iff_ne]; intro e; exact h1 (.inl (UInt8.toNat_inj.1 (by show x.toNat = 127; omega)))
    have k2 : ((x.toNat : Int) == 126) = false := by rw [beq_eq_false_iff_ne]; intro e; exact h1 (.inr (UInt8.toNat_inj.1 (by show x.toNat = 126; omega)))
    have k3 : ((x.toNat : Int) == 125) = false := by rw [beq_eq_false_iff_ne]; intro e; exact h2 (.inl (UInt8.toNat_inj.1 (by show x.toNat = 125; omega)))
    have k4 : ((x.toNat : Int) == 124) = false := by rw [beq_eq_false_iff_ne]; intro e; exact h2 (.inr (UInt8.toNat_inj.1 (by show x.toNat = 124; omega)))
    clear hb h1 h2
    obtain ⟨y, hy⟩ : ∃ y, (x.toNat : Int) = y := ⟨_, rfl⟩
    have HY := Y hy
    rw [hy] at k1 k2 k3 k4
    clear hy
    go_enter Tryz.func116, Tryz.ntmps116
    go_wp2_with (go_at_call 139; refine HC.out.mono ?_; rintro e w1 ⟨v, rfl, hv, hr, hm⟩; obtain rfl : v = .int .u8 y := hv.trans (by rw [HY.out]); clear hv; have HR := Y hr; have HM := Y hm; clear hr hm)
    exact ⟨rfl, rfl, HM.out⟩
theorem bend_any (R : Nat) (l : List UInt8) (w : World) (h : Rb w R l) :
  Calls Tryz.prog 43 #[.pointer (some ⟨R, 0, none⟩)] w fun e w' => w' = w ∧ if l.length = 0 then e = .returned (.tuple #[]) else e = erred 60 := by
 obtain ⟨A, c, h1, _⟩ := h
 have h0 : w.cell? ⟨R, 0, none⟩ = some (.slice A l.length c) := by rw [cell_of_row w R 0 _ _ (0, 0) h1]; rfl
 by_cases hl : l.length = 0
 ·simp only [if_pos hl]
  rw [hl] at h0
  clear h1 hl
  go_enter Tryz.func43, Tryz.ntmps43
  go_wp2_with fail
  go_end0
  exact ⟨rfl, rfl⟩
 ·simp only [if_neg hl]
  have hd : (0 : Int) < (l.length : Int) := by omega
  generalize l.length = m at *
  clear h1 hl
  go_enter Tryz.func43, Tryz.ntmps43
  go_wp2_with fail
  exact ⟨rfl, rfl, rfl⟩
theorem bs {R g n k : Nat} {l l1 : List UInt8} {w w0 w1 : World} {o : Obj} (HL : Hid (l.drop k = l1)) (hr : Rb w1 R (l.drop k)) (HT : Hid (Tb w0)) (HR : Hid (Rb w0 R l)) (hm : Mod (· = R) w0 w1) (HS : Hid (n ≤ w0.heap.size)) (HZ : Hid (w0.heap[g]? = some o)) (HLT : Hid (R < g)) (HM : Hid (Mod (· = R) w w0)) :
 Hid (Rb w1 R l1) ∧ Hid (Tb w1) ∧ Hid (n ≤ w1.heap.size) ∧ Hid (w1.heap[g]? = some o) ∧ Hid (Mod (· = R) w w1) :=
 ⟨Y (HL.out ▸ hr), Y (HT.out.rb HR.out hm), Y (Nat.le_trans HS.out hm.size), Y (hm.heap HZ.out (fun e => by have := HLT.out; have e' : g = R := e; omega)), Y (HM.out.trans hm (fun _ _ h => h))⟩
end Go.Proofs.YthkglmkpnhhboaaGreatDoor
