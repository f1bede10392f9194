/-
  Layer 6's reader: what it has ahead of it; its bytes, its numbers, names and expressions.
-/
import Derived.Test.YtgnbkfkiigcdgaaGreatDoorQ01
import Derived.Test.YtgnbkfkiigcdgaaGreatDoorQ22
import Derived.Test.YtgnbkfkiigcdgaaGreatDoorQ15
import Derived.Test.YtgnbkfkiigcdgaaGreatDoorQ16
import Derived.Test.YtgnbkfkiigcdgaaGreatDoorQ20
import Derived.Test.YtgnbkfkiigcdgaaGreatDoorQ18
set_option maxRecDepth 100000
set_option maxHeartbeats 4000000
namespace Go.Proofs.YtgnbkfkiigcdgaaGreatDoor
open Go.RowKit Ins Bin
def Rb (w : World) (R : Nat) (l : List UInt8) : Prop :=
 ∃ A c, w.heap[R]? = some (.cells #[.slice A l.length c] 118 (0, 0)) ∧ Has w R A l ∧ l.length ≤ 65536 ∧ l.length ≤ c ∧ c ≤ maxLen ∧ (A = none → c = 0) ∧ 2 ≤ R
theorem Rb.lt {w : World} {R : Nat} {l : List UInt8} (h : Rb w R l) : R < w.heap.size := by
 obtain ⟨A, c, h, _⟩ := h
 exact (Array.getElem?_eq_some_iff.1 h).1
theorem Rb.two {w : World} {R : Nat} {l : List UInt8} (h : Rb w R l) : 2 ≤ R := by
 obtain ⟨A, c, _, _, _, _, _, _, h⟩ := h
 exact h
theorem Rb.len {w : World} {R : Nat} {l : List UInt8} (h : Rb w R l) : l.length ≤ 65536 := by
 obtain ⟨A, c, _, _, h, _⟩ := h
 exact h
theorem Rb.keep {w w' : World} {T : Nat → Prop} {R : Nat} {l : List UInt8} (h : Rb w R l) (hm : Mod T w w') (ht : ∀ k, k ≤ R → ¬ T k) : Rb w' R l := by
 obtain ⟨A, c, h1, h2, h3⟩ := h
 exact ⟨A, c, hm.heap h1 (ht R (Nat.le_refl _)), hm.has h2 (fun k hk => ht k (by omega)), h3⟩
theorem Rb.alloc {w : World} {R : Nat} {l : List UInt8} (h : Rb w R l) (o : Obj) : Rb (w.alloc o) R l := h.keep ((Mod.refl (fun _ => False) w).alloc o) (fun _ _ h => h)
theorem rb_go {w w' : World} {R c c' : Nat} {A A' : Option Addr} {l r : List UInt8} (hR : w.heap[R]? = some (.cells #[.slice A l.length c] 118 (0, 0))) (h2 : 2 ≤ R)
  (hA : Has w R A' r) (h3 : r.length ≤ 65536) (h4 : r.length ≤ c') (h5 : c' ≤ maxLen) (h6 : A' = none → c' = 0) (hh : w'.heap = (w.setCell ⟨R, 0, none⟩ (.slice A' r.length c')).heap) : Rb w' R r := by
 refine ⟨A', c', ?_, hA.keep fun a ha => ?_, h3, h4, h5, h6, h2⟩
 ·rw [hh, heap_setCell_same w R 0 _ _ _ hR]; rfl
 ·refine World.cell?_of_block ?_
  rw [hh]
  exact Below.heap_setCell _ _ _ _ (by show a.block ≠ R; omega)
def ap {α : Type} (R : Nat) (w : World) (l : List UInt8) (r : Except Nat (α × Nat)) (f : World → α → Value → Prop) (e : Ending) (w' : World) : Prop :=
 match r with
 | .error k => e = erred k ∧ Mod (· = R) w w'
 | .ok (x, n) => ∃ v, e = .returned v ∧ f w' x v ∧ Rb w' R (l.drop n) ∧ Mod (· = R) w w'
theorem Tb.mod {T : Nat → Prop} {w w' : World} (h : Tb w) (hm : Mod T w w') (ht : ∀ k, k < 2 → ¬ T k) : Tb w' := by
 obtain ⟨⟨h1, h2⟩, h3⟩ := h
 refine ⟨⟨fun c hc => (World.cell?_of_block (hm.block 0 (by omega) (ht 0 (by omega)))).trans (h1 c hc), fun i hi => ?_⟩, by have := hm.size; omega⟩
 exact ⟨(World.cell?_of_block (hm.block 1 (by omega) (ht 1 (by omega)))).trans (h2 i hi).1, (World.cell?_of_block (hm.block 1 (by omega) (ht 1 (by omega)))).trans (h2 i hi).2⟩
theorem Tb.rb {w w' : World} {R : Nat} {l : List UInt8} (h : Tb w) (hR : Rb w R l) (hm : Mod (· = R) w w') : Tb w' := h.mod hm (fun k hk e => by have := hR.two; omega)
def TkB (R : Nat) (w : World) (l : List UInt8) (n : Nat) (e : Ending) (w' : World) : Prop :=
 if n ≤ l.length then ∃ A c, e = .returned (.slice A n c) ∧ n ≤ c ∧ c ≤ maxLen ∧ (A = none → c = 0) ∧ Has w' R A (l.take n) ∧ Rb w' R (l.drop n) ∧ Mod (· = R) w w'
 else e = erred 60 ∧ Mod (· = R) w w'
theorem f6 (R n : Nat) (l : List UInt8) (w : World) (h : Rb w R l) (hn : n < 4294967296) :
  Calls Tryz.prog 121 #[.pointer (some ⟨R, 0, none⟩), .int .u32 (n : Int)] w (TkB R w l n) := by
 obtain ⟨A, c, h1, h2, h3, h4, h5, h6, h7⟩ := h
 have h0 : w.cell? ⟨R, 0, none⟩ = some (.slice A l.length c) := by rw [cell_of_row w R 0 _ _ (0, 0) h1]; rfl
 have hf : w.frozen? ⟨R, 0, none⟩ = false := frozen_of_row w R 0 _ _ h1
 have H1 := Y h1
 have H2 := Y h2
 have H7 := Y h7
 clear h1 h2 h7
 have hu1 : IntKind.u64.wrap (n : Int) = (n : Int) := IntWalk.u64_in _ (by omega)
 have hu2 : IntKind.u64.wrap (l.length : Int) = (l.length : Int) := IntWalk.u64_in _ (by omega)
 have h5' := h5
 unfold maxLen at h5'
 unfold TkB
 by_cases hle : n ≤ l.length
 ·simp only [if_pos hle]
  have hd : decide ((n : Int) > (l.length : Int)) = false := decide_eq_false (by omega)
  have hd1 : decide ((l.length : Int) < (n : Int)) = false := decide_eq_false (by omega)
  have hd2 : decide (l.length < n) = false := decide_eq_false (by omega)
  have hk : ∀ (A' : Option Addr) (c' : Nat), Has w R A' (l.drop n) → l.length - n ≤ c' → c' ≤ maxLen → (A' = none → c' = 0) → Rb (w.setCell ⟨R, 0, none⟩ (.slice A' (l.length - n) c')) R (l.drop n) := by
   intro A' c' q1 q2 q3 q4
   refine rb_go H1.out H7.out q1 (by rw [List.length_drop]; omega) (by rw [List.length_drop]; exact q2) q3 q4 ?_
   rw [List.length_drop]
  have HK := Y hk
  clear hk
  have hM : ∀ v, Mod (· = R) w (w.setCell ⟨R, 0, none⟩ v) := fun v => Mod.setCell (T := (· = R)) (Mod.refl _ w) (fun _ => rfl) v
  have HM := Y hM
  clear hM
  have hT : ∀ v, Has (w.setCell ⟨R, 0, none⟩ v) R A (l.take n) := fun v => ((HM.out v).has (T := (· = R)) H2.out (fun k hk e => by omega)).take n
  have HTT := Y hT
  clear hT
  obtain ⟨m, hm⟩ : ∃ m, l.length = m := ⟨_, rfl⟩
  rw [hm] at h0 h3 h4 hle hd hd1 hd2 hu2 HK
  have hm2 := hm
  cases A with
  | none =>
   obtain rfl := h6 rfl
   obtain rfl : m = 0 := by omega
   obtain rfl : n = 0 := by omega
   have HG := Y (HK.out none 0 (by have := H2.out; rwa [List.drop_zero]) (by omega) (by omega) (fun _ => rfl))
   have HH := Y hm
   clear hm hm2 HK h6
   go_enter Tryz.func121, Tryz.ntmps121
   go_wp2_with fail
   go_ret
   exact ⟨none, 0, rfl, by omega, by omega, fun _ => rfl, HTT.out _, HG.out, HM.out _⟩
  | some ad =>
   by_cases hnc : c = n
   ·obtain rfl : m = n := by omega
    subst hnc
    have HG := Y (HK.out (some ad) 0 (by rw [List.drop_of_length_le (by omega)]; exact Has.nil _ _ _) (by omega) (by omega) (fun _ => rfl))
    rw [Nat.sub_self] at HG
    have HH := Y hm
    clear hm hm2 HK h6
    go_enter Tryz.func121, Tryz.ntmps121
    go_wp2_with fail
    go_ret
    exact ⟨some ad, _, rfl, by omega, by omega, fun e => (by cases e), HTT.out _, HG.out, HM.out _⟩
   ·have hcn : ¬ (c - n = 0) := by omega
    have hnc2 : n ≤ c := by omega
    have hi1 : (n : Int) ≤ (c : Int) := by omega
    have hi2 : (n : Int) ≤ (m : Int) := by omega
    have HG := Y (HK.out (some (ad.add n)) (c - n) (H2.out.from n) (by omega) (by omega) (fun e => (by cases e)))
    have HH := Y hm
    clear hm hm2 HK h6
    go_enter Tryz.func121, Tryz.ntmps121
    go_wp2_with fail
    go_ret
    exact ⟨some ad, _, rfl, by omega, by omega, fun e => (by cases e), HTT.out _, HG.out, HM.out _⟩
 ·simp only [if_neg hle]
  have hd : decide ((n : Int) > (l.length : Int)) = true := decide_eq_true (by omega)
  have hd1 : decide ((l.length : Int) < (n : Int)) = true := decide_eq_true (by omega)
  have hd3 : (l.length : Int) < (n : Int) := by omega
  have hd2 : decide (l.length < n) = true := decide_eq_true (by omega)
  clear H1 h4 hle
  generalize l.length = m at *
  clear h6
  go_enter Tryz.func121, Tryz.ntmps121
  go_wp2_with fail
  exact ⟨rfl, rfl, Mod.refl _ w⟩
theorem rb_cut {w : World} {R c : Nat} {A : Option Addr} {l : List UInt8} (hR : w.heap[R]? = some (.cells #[.slice A l.length c] 118 (0, 0))) (hA : Has w R A l) (h3 : l.length ≤ 65536) (h4 : l.length ≤ c) (h5 : c ≤ maxLen) (h7 : 2 ≤ R) (k : Nat) (hk : k ≤ l.length) (W : World) (hb : Below w.heap.size w W) :
  W.cell? ⟨R, 0, none⟩ = some (.slice A l.length c) ∧ W.frozen? ⟨R, 0, none⟩ = false ∧ (∀ v, Mod (· = R) w (W.setCell ⟨R, 0, none⟩ v)) ∧ (l.length = k → Rb (W.setCell ⟨R, 0, none⟩ (.slice A 0 0)) R (l.drop k)) ∧
   (∀ ad, A = some ad → Rb (W.setCell ⟨R, 0, none⟩ (.slice (some (ad.add k)) (l.length - k) (c - k))) R (l.drop k)) := by
 have hM := Mod.of_below (T := fun _ => False) hb
 have h1 := hM.heap hR (fun h => h)
 have h2 := hM.has hA (fun _ _ h => h)
 have hl : R < w.heap.size := (Array.getElem?_eq_some_iff.1 hR).1
 refine ⟨by rw [cell_of_row W R 0 _ _ (0, 0) h1]; rfl, frozen_of_row W R 0 _ _ h1, fun v => Mod.setCell (T := (· = R)) (Mod.of_below hb) (fun _ => rfl) v, fun e => ?_, fun ad e => ?_⟩
 ·refine rb_go h1 h7 (A' := A) (c' := 0) (by rw [List.drop_of_length_le (by omega)]; exact Has.nil _ _ _) (by rw [List.length_drop]; omega) (by rw [List.length_drop]; omega) (by omega) (fun _ => rfl) ?_
  rw [List.length_drop, e, Nat.sub_self]
 ·subst e
  refine rb_go h1 h7 (A' := some (ad.add k)) (c' := c - k) (h2.from k) (by rw [List.length_drop]; omega) (by rw [List.length_drop]; omega) (by omega) (fun e => by cases e) ?_
  rw [List.length_drop]
theorem byte_nil {l : List UInt8} (h : ¬ 1 ≤ l.length) : byte l = .error 60 := by
 cases l with
 | nil => rfl
 | cons x r => simp at h
theorem byte_cons {l : List UInt8} (h : 1 ≤ l.length) : ∃ x, l.take 1 = [x] ∧ byte l = .ok (x, 1) := by
 cases l with
 | nil => simp at h
 | cons x r => exact ⟨x, by simp, rfl⟩
theorem ei (R : Nat) (l : List UInt8) (w : World) (h : Rb w R l) :
  Calls Tryz.prog 139 #[.pointer (some ⟨R, 0, none⟩)] w (ap R w l (byte l) fun _ x v => v = .int .u8 (x.toNat : Int)) := by
 have HC := Y (f6 R 1 l w h (by omega))
 unfold TkB at HC
 by_cases hle : 1 ≤ l.length
 ·simp only [if_pos hle] at HC
  obtain ⟨x, hx1, hx2⟩ := byte_cons hle
  rw [hx1] at HC
  rw [hx2]
  clear hx1 hx2 hle
  go_enter Tryz.func139, Tryz.ntmps139
  go_wp2_with (go_at_call 121; refine HC.out.mono ?_; rintro e w1 ⟨A, c, rfl, h1, _, _, h2, h3, h4⟩; obtain ⟨ad, rfl, _, hcell⟩ := h2 0 x rfl; have hcell2 : w1.cell? ad = some (.int .u8 (x.toNat : Int)) := hcell; have H3 := Y h3; have H4 := Y h4; clear h2 h3 h4 hcell)
  go_ret
  exact ⟨_, rfl, rfl, H3.out, H4.out⟩
 ·simp only [if_neg hle] at HC
  rw [byte_nil hle]
  clear hle
  go_enter Tryz.func139, Tryz.ntmps139
  go_wp2_with (go_at_call 121; refine HC.out.mono ?_; rintro e w1 ⟨rfl, hm⟩)
  exact ⟨rfl, rfl, hm⟩
theorem HasI.lay {w : World} {S : Nat → Prop} {A : Option Addr} {xs : List I} (h : HasI w S A xs) : HasL w S A xs := fun k x hx => by
 obtain ⟨g, o, A', c, h1, h2, h3, h4, h5, h6, h7⟩ := h k x hx
 exact ⟨g, o, insCells x A' c, h1, h2, World.block_lt_of_cell? w _ (h7 0 _ rfl), ⟨A', c, rfl, h3, h4, h5, h6⟩, h7⟩
theorem InsL.sl {B : Nat} {w : World} {v : Value} {xs : List I} (h : InsL B w v xs) : J w (B ≤ ·) xs v := by
 obtain ⟨A, c, h1, h2, h3, h4⟩ := h
 exact ⟨A, c, h1, h2, h3.1, h3.2, h4.lay⟩
theorem name_named {l : List UInt8} (h : Nm.ok l = true) : Bin.name l = .ok (Nm.str l, Nm.cnt l) ∧ 1 ≤ Nm.cnt l ∧ Nm.cnt l ≤ l.length := by
 have h' : Sec.named l = true := h
 refine ⟨?_, ?_, ?_⟩
 ·unfold Bin.name
  rw [if_pos h']
  unfold Nm.str Nm.cnt
  rw [if_pos h, if_pos h]
 ·unfold Nm.cnt
  rw [if_pos h]
  unfold Nm.ok at h
  simp only [Bool.and_eq_true, decide_eq_true_eq] at h
  have := Sec.okU_32 h.1.1
  omega
 ·unfold Nm.cnt
  rw [if_pos h]
  unfold Nm.ok at h
  simp only [Bool.and_eq_true, decide_eq_true_eq] at h
  omega
theorem name_not {l : List UInt8} (h : Nm.ok l = false) : Bin.name l = .error 60 ∧ Nm.str l = [] ∧ Nm.cnt l = 0 := by
 have h' : ¬ Sec.named l = true := by
  show ¬ Nm.ok l = true
  rw [h]; decide
 refine ⟨?_, ?_, ?_⟩
 ·unfold Bin.name
  rw [if_neg h']
 ·unfold Nm.str
  rw [h]; rfl
 ·unfold Nm.cnt
  rw [h]; rfl
theorem ar (R : Nat) (l : List UInt8) (w : World) (h : Rb w R l) :
  Calls Tryz.prog 73 #[.pointer (some ⟨R, 0, none⟩)] w (ap R w l (num l) fun _ x v => v = .int .u32 (x : Int) ∧ x < 4294967296) := by
 have HR := Y h
 obtain ⟨A, c, h1, h2, h3, h4, h5, h6, h7⟩ := h
 have HCUT := Y (fun k hk W hb => rb_cut h1 h2 h3 h4 h5 h7 k hk W hb)
 have hlt : R < w.heap.size := (Array.getElem?_eq_some_iff.1 h1).1
 have h2' : Has w w.heap.size A l := h2.more (Nat.le_of_lt hlt)
 have h0 : w.cell? ⟨R, 0, none⟩ = some (.slice A l.length c) := by rw [cell_of_row w R 0 _ _ (0, 0) h1]; rfl
 have h5' := h5
 unfold maxLen at h5'
 have HC := Y (c8 A l l.length c 32 w rfl (by omega) h2')
 have H2 := Y h2
 have H6 := Y h6
 clear h1 h2 h2' h5 h6
 cases hr : num l with
 | error e0 =>
  obtain ⟨r1, r2, r3, rfl⟩ := bx hr
  rw [r1, r2, r3] at HC
  clear r1 r2 r3 hr
  obtain ⟨m, hm⟩ : ∃ m, l.length = m := ⟨_, rfl⟩
  rw [hm] at h0 h3 h4 HC
  clear hm HCUT
  go_enter Tryz.func73, Tryz.ntmps73
  go_wp2_with (go_at_call 47; refine HC.out.mono ?_; rintro e w1 ⟨rfl, hb⟩)
  exact ⟨rfl, rfl, Mod.of_below hb⟩
 | ok q =>
  obtain ⟨x, k⟩ := q
  obtain ⟨r1, r2, r3⟩ := fG hr
  obtain ⟨hx, hk1, hkl, _⟩ := aD hr
  have hw : IntKind.u32.wrap (x : Int) = (x : Int) := IntWalk.u32_in _ (by omega)
  rw [r1, r2, r3] at HC
  have HX := Y hx
  clear hx r1 r2 r3 hr
  cases A with
  | none =>
   exfalso
   have := H6.out rfl
   omega
  | some ad =>
   have HK := Y (HCUT.out k hkl)
   have HD : Hid (c = k → l.length = k) := Y (fun e => by omega)
   have hkc : k ≤ c := by omega
   have hki : (k : Int) ≤ (c : Int) := by omega
   have hki2 : (k : Int) ≤ (l.length : Int) := by omega
   have hLT := Y hlt
   clear hlt
   obtain ⟨m, hm⟩ : ∃ m, l.length = m := ⟨_, rfl⟩
   rw [hm] at h0 h3 h4 hkl HK HD hki2 HC
   clear HCUT hm H2 H6
   by_cases hck : c = k
   ·have hmk : m = k := HD.out hck
    subst hck
    subst hmk
    clear HD hk1 hkl hkc
    go_enter Tryz.func73, Tryz.ntmps73
    go_wp2_with (go_at_call 47; refine HC.out.mono ?_; rintro e w1 ⟨rfl, hb⟩; obtain ⟨k0, k1, k2, k3, _⟩ := HK.out _ hb; have HM := Y k2; have HG := Y (k3 rfl); have HB := Y hb; clear k2 k3 hb)
    go_ret
    exact ⟨_, rfl, ⟨rfl, HX.out⟩, HG.out, HM.out _⟩
   ·have hck2 : ¬ (c - k = 0) := by omega
    clear HD
    go_enter Tryz.func73, Tryz.ntmps73
    go_wp2_with (go_at_call 47; refine HC.out.mono ?_; rintro e w1 ⟨rfl, hb⟩; obtain ⟨k0, k1, k2, _, k4⟩ := HK.out _ hb; have HM := Y k2; have HG := Y (k4 ad rfl); have HB := Y hb; clear k2 k4 hb)
    go_ret
    exact ⟨_, rfl, ⟨rfl, HX.out⟩, HG.out, HM.out _⟩
theorem dR (R : Nat) (l : List UInt8) (w : World) (h : Rb w R l) (hT : Tb w) :
  Calls Tryz.prog 117 #[.pointer (some ⟨R, 0, none⟩)] w (ap R w l (Bin.name l) fun _ x v => v = strV x) := by
 have HR := Y h
 obtain ⟨A, c, h1, h2, h3, h4, h5, h6, h7⟩ := h
 have HCUT := Y (fun k hk W hb => rb_cut h1 h2 h3 h4 h5 h7 k hk W hb)
 have hlt : R < w.heap.size := (Array.getElem?_eq_some_iff.1 h1).1
 have h2' : Has w w.heap.size A l := h2.more (Nat.le_of_lt hlt)
 have h0 : w.cell? ⟨R, 0, none⟩ = some (.slice A l.length c) := by rw [cell_of_row w R 0 _ _ (0, 0) h1]; rfl
 have h5' := h5
 unfold maxLen at h5'
 have HC := Y (fW A l l.length c w rfl (by omega) h4 (by omega) h2' hT)
 unfold dK at HC
 clear hT
 have H2 := Y h2
 have H6 := Y h6
 clear h1 h2 h2' h5 h6
 cases hr : Nm.ok l with
 | false =>
  obtain ⟨hq, hq2, hq3⟩ := name_not hr
  rw [hq]
  rw [hr, hq2, hq3] at HC
  clear hq hq2 hq3 hr
  obtain ⟨m, hm⟩ : ∃ m, l.length = m := ⟨_, rfl⟩
  rw [hm] at h0 h3 h4 HC
  clear hm HCUT
  go_enter Tryz.func117, Tryz.ntmps117
  go_wp2_with (go_at_call 48; refine HC.out.mono ?_; rintro e w1 ⟨rfl, hb⟩)
  exact ⟨rfl, rfl, Mod.of_below hb⟩
 | true =>
  obtain ⟨hq, hk1, hkl⟩ := name_named hr
  rw [hq]
  generalize Nm.str l = s at HC ⊢
  generalize Nm.cnt l = k at HC hk1 hkl ⊢
  rw [hr] at HC
  clear hq hr
  cases A with
  | none =>
   exfalso
   have := H6.out rfl
   omega
  | some ad =>
   have HK := Y (HCUT.out k hkl)
   have HD : Hid (c = k → l.length = k) := Y (fun e => by omega)
   have hkc : k ≤ c := by omega
   have hki : (k : Int) ≤ (c : Int) := by omega
   have hki2 : (k : Int) ≤ (l.length : Int) := by omega
   have hLT := Y hlt
   clear hlt
   obtain ⟨m, hm⟩ : ∃ m, l.length = m := ⟨_, rfl⟩
   rw [hm] at h0 h3 h4 hkl HK HD hki2 HC
   clear HCUT hm H2 H6
   by_cases hck : c = k
   ·have hmk : m = k := HD.out hck
    subst hck
    subst hmk
    clear HD hk1 hkl hkc
    go_enter Tryz.func117, Tryz.ntmps117
    go_wp2_with (go_at_call 48; refine HC.out.mono ?_; rintro e w1 ⟨rfl, hb⟩; obtain ⟨k0, k1, k2, k3, _⟩ := HK.out _ hb; have HM := Y k2; have HG := Y (k3 rfl); have HB := Y hb; clear k2 k3 hb)
    go_ret
    exact ⟨_, rfl, rfl, HG.out, HM.out _⟩
   ·have hck2 : ¬ (c - k = 0) := by omega
    clear HD
    go_enter Tryz.func117, Tryz.ntmps117
    go_wp2_with (go_at_call 48; refine HC.out.mono ?_; rintro e w1 ⟨rfl, hb⟩; obtain ⟨k0, k1, k2, _, k4⟩ := HK.out _ hb; have HM := Y k2; have HG := Y (k4 ad rfl); have HB := Y hb; clear k2 k4 hb)
    go_ret
    exact ⟨_, rfl, rfl, HG.out, HM.out _⟩
theorem dm (R : Nat) (l : List UInt8) (w : World) (h : Rb w R l) :
  Calls Tryz.prog 120 #[.pointer (some ⟨R, 0, none⟩)] w (ap R w l (Bin.expr l) fun w' xs v => J w' (w.heap.size ≤ ·) xs v) := by
 have HR := Y h
 obtain ⟨A, c, h1, h2, h3, h4, h5, h6, h7⟩ := h
 have HCUT := Y (fun k hk W hb => rb_cut h1 h2 h3 h4 h5 h7 k hk W hb)
 have hlt : R < w.heap.size := (Array.getElem?_eq_some_iff.1 h1).1
 have h2' : Has w w.heap.size A l := h2.more (Nat.le_of_lt hlt)
 have h0 : w.cell? ⟨R, 0, none⟩ = some (.slice A l.length c) := by rw [cell_of_row w R 0 _ _ (0, 0) h1]; rfl
 have h5' := h5
 unfold maxLen at h5'
 have HC := Y (gD A l c w h2' (by omega) h4 h5 h6)
 unfold TEPost at HC
 have H2 := Y h2
 have H6 := Y h6
 clear h1 h2 h2' h5 h6
 have hex : takeExpr l = Bin.expr l := rfl
 rw [hex] at HC
 clear hex
 cases hr : Bin.expr l with
 | error e0 =>
  have hee : e0 = 60 ∨ e0 = 61 := dv _ _ _ _ hr
  simp only [hr] at HC
  have hne : ((e0 : Int) == 0) = false := by simp; omega
  have hne2 : ¬ ((e0 : Int) = 0) := by omega
  clear hr hee
  obtain ⟨m, hm⟩ : ∃ m, l.length = m := ⟨_, rfl⟩
  rw [hm] at h0 h3 h4 HC
  clear hm HCUT
  go_enter Tryz.func120, Tryz.ntmps120
  go_wp2_with (go_at_call 140; refine HC.out.mono ?_; rintro e w1 ⟨rfl, hb⟩)
  exact ⟨rfl, rfl, Mod.of_below hb⟩
 | ok q =>
  obtain ⟨xs, k⟩ := q
  have hkl := (cy _ _ _ _ _ hr).2.2.2.1
  have hk1 : 1 ≤ k := by have := (cy _ _ _ _ _ hr).2.2.2.2; simp [exprEnc] at this; omega
  simp only [hr] at HC
  clear hr
  cases A with
  | none =>
   exfalso
   have := H6.out rfl
   omega
  | some ad =>
   have HK := Y (HCUT.out k hkl)
   have HD : Hid (c = k → l.length = k) := Y (fun e => by omega)
   have hkc : k ≤ c := by omega
   have hki : (k : Int) ≤ (c : Int) := by omega
   have hki2 : (k : Int) ≤ (l.length : Int) := by omega
   have hLT := Y hlt
   clear hlt
   obtain ⟨m, hm⟩ : ∃ m, l.length = m := ⟨_, rfl⟩
   rw [hm] at h0 h3 h4 hkl HK HD hki2 HC
   clear HCUT hm H2 H6
   by_cases hck : c = k
   ·have hmk : m = k := HD.out hck
    subst hck
    subst hmk
    clear HD hk1 hkl hkc
    go_enter Tryz.func120, Tryz.ntmps120
    go_wp2_with (go_at_call 140; refine HC.out.mono ?_; rintro e w1 ⟨v, rfl, hx, hb⟩; have HX := Y hx.sl; clear hx; obtain ⟨k0, k1, k2, k3, _⟩ := HK.out _ hb; have HM := Y k2; have HG := Y (k3 rfl); have HB := Y hb; clear k2 k3 hb)
    go_ret
    exact ⟨_, rfl, HX.out.mod (Mod.setCell (T := (· = R)) (Mod.refl _ _) (fun _ => rfl) _) (fun g _ hg e => by have := hLT.out; omega), HG.out, HM.out _⟩
   ·have hck2 : ¬ (c - k = 0) := by omega
    clear HD
    go_enter Tryz.func120, Tryz.ntmps120
    go_wp2_with (go_at_call 140; refine HC.out.mono ?_; rintro e w1 ⟨v, rfl, hx, hb⟩; have HX := Y hx.sl; clear hx; obtain ⟨k0, k1, k2, _, k4⟩ := HK.out _ hb; have HM := Y k2; have HG := Y (k4 ad rfl); have HB := Y hb; clear k2 k4 hb)
    go_ret
    exact ⟨_, rfl, HX.out.mod (Mod.setCell (T := (· = R)) (Mod.refl _ _) (fun _ => rfl) _) (fun g _ hg e => by have := hLT.out; omega), HG.out, HM.out _⟩
def OwnL {α : Type} [Lay α] (t : TypeId) (w : World) (base : Nat) (S : Nat → Prop) (v : Value) (xs : List α) : Prop :=
 ∃ ys : List (α × List Value), ys.map (·.1) = xs ∧ w.ownsRow base t (Lay.size α) v xs.length (ys.flatMap (·.2)) ∧ ∀ y ∈ ys, Lay.rep w S y.1 y.2
theorem OwnL.nil {α : Type} [Lay α] (t : TypeId) (w : World) (base : Nat) (S : Nat → Prop) : OwnL t w base S (.slice none 0 0) ([] : List α) := ⟨[], rfl, World.ownsRow_nil _ _ _ _, by simp⟩
theorem OwnL.mod {α : Type} [Lay α] {t : TypeId} {w w' : World} {T : Nat → Prop} {base : Nat} {S : Nat → Prop} {v : Value} {xs : List α} (h : OwnL t w base S v xs) (hm : Mod T w w') (hv : ∀ g, v.ownBlock = some g → ¬ T g) (hs : ∀ g, g < w.heap.size → S g → ¬ T g) : OwnL t w' base S v xs := by
 obtain ⟨ys, h0, h1, h2⟩ := h
 exact ⟨ys, h0, hm.own h1 hv, fun y hy => Lay.mod (h2 y hy) hm hs⟩
theorem OwnL.more {α : Type} [Lay α] {t : TypeId} {w : World} {base : Nat} {S S' : Nat → Prop} {v : Value} {xs : List α} (h : OwnL t w base S v xs) (hs : ∀ g, g < w.heap.size → S g → S' g) : OwnL t w base S' v xs := by
 obtain ⟨ys, h0, h1, h2⟩ := h
 exact ⟨ys, h0, h1, fun y hy => Lay.more (h2 y hy) hs⟩
theorem OwnL.lt {α : Type} [Lay α] {t : TypeId} {w : World} {base : Nat} {S : Nat → Prop} {v : Value} {xs : List α} (h : OwnL t w base S v xs) : ∀ g, v.ownBlock = some g → base ≤ g ∧ g < w.heap.size := by
 obtain ⟨ys, _, h1, _⟩ := h
 exact fun g hg => h1.lt g hg
theorem flat_at {α : Type} [Lay α] {w : World} {S : Nat → Prop} : ∀ (ys : List (α × List Value)), (∀ y ∈ ys, Lay.rep w S y.1 y.2) → ∀ (k : Nat) (y : α × List Value), ys[k]? = some y → ∀ j u, y.2[j]? = some u → (ys.flatMap (·.2))[k * Lay.size α + j]? = some u
 | [], _, k, y, h, _, _, _ => by simp at h
 | z :: ys, _, 0, y, h, j, u, hj => by
  simp at h; subst h
  simp only [List.flatMap_cons, Nat.zero_mul, Nat.zero_add]
  rw [List.getElem?_append_left (List.getElem?_eq_some_iff.1 hj).1]
  exact hj
 | z :: ys, hr, k + 1, y, h, j, u, hj => by
  have ih := flat_at ys (fun y hy => hr y (by simp [hy])) k y (by simpa using h) j u hj
  have hz : z.2.length = Lay.size α := Lay.len (hr z (by simp))
  simp only [List.flatMap_cons]
  rw [Nat.succ_mul, List.getElem?_append_right (by omega), ← ih]
  congr 1
  omega
theorem OwnL.tell {α : Type} [Lay α] {t : TypeId} {w : World} {base : Nat} {S : Nat → Prop} {v : Value} {xs : List α} (h : OwnL t w base S v xs) (hs : ∀ g, S g → base ≤ g) : J w (base ≤ ·) xs v := by
 obtain ⟨ys, h0, h1, h2⟩ := h
 rcases h1.2 with ⟨rfl, h3⟩ | ⟨g, cap, cur, rfl, hb, hh, hc, hm, hcs, htk⟩
 ·have : xs = [] := List.eq_nil_of_length_eq_zero h3
  subst this
  exact J.nil _ _
 ·refine ⟨_, cap, rfl, hc, hm, fun e => (by cases e), fun k x hk => ?_⟩
  rw [← h0, List.getElem?_map, Option.map_eq_some_iff] at hk
  obtain ⟨y, hy, rfl⟩ := hk
  refine ⟨g, 0, y.2, rfl, hb, (Array.getElem?_eq_some_iff.1 hh).1, Lay.more (h2 y (List.mem_of_getElem? hy)) (fun g _ hg => hs g hg), fun j u hj => ?_⟩
  have := h1.cells (g := g) rfl (k * Lay.size α + j) u (flat_at ys h2 k y hy j u hj)
  have e2 : (⟨g, 0, none⟩ : Addr).add (k * Lay.size α + j) = ⟨g, 0 + k * Lay.size α + j, none⟩ := by
   unfold Addr.add; split
   ·next h => simp at h; simp
   ·simp
  rwa [e2] at this
theorem append1L {α : Type} [Lay α] {st t : TypeId} {z : Value} {by' : Nat} (hu : Tryz.prog.underlying st = some (.slice t)) (hi0 : (Tryz.prog.info? t).map (fun i => (i.zero, i.size, i.bytes)) = some (some z, Lay.size α, by')) (hby : by' ≤ 4096) (hzs : z.cells.size = Lay.size α) (hpos : 0 < Lay.size α)
  (w : World) (base : Nat) (S : Nat → Prop) (v : Value) (xs : List α) (x : α) (cs : List Value) (hown : OwnL t w base S v xs) (hsz : xs.length ≤ 4294967296) (hb : base ≤ w.heap.size)
  (hx : Lay.rep w S x cs) (h1c : ∀ u ∈ cs, u.oneCell' = true) (hs : ∀ g, g < w.heap.size → S g → v.ownBlock ≠ some g) :
  ∃ v' w', (Builtin.append_ #[st, st] st #[v, .slice (some ⟨w.heap.size, 0, none⟩) 1 1]).run Tryz.prog (w.alloc (.cells cs.toArray t)) = .ok v' w' ∧ OwnL t w' base (fun g => S g ∧ v'.ownBlock ≠ some g) v' (xs ++ [x]) ∧ Mod (fun g => v.ownBlock = some g) w w' ∧ ∀ g, v'.ownBlock = some g → v.ownBlock = some g ∨ w.heap.size ≤ g := by
 obtain ⟨i0, hi, hz0, hz1, hz2⟩ := info_parts hi0
 obtain ⟨ys, h0, h1, h2⟩ := hown
 have hown1 := h1.alloc (.cells cs.toArray t)
 have hcl : cs.length = 1 * Lay.size α := by rw [Lay.len hx, Nat.one_mul]
 have hbytes : (xs.length + 1) * by' ≤ 140737488355328 := by
  have : (xs.length + 1) * by' ≤ 4294967297 * 4096 := Nat.mul_le_mul (by omega) hby
  omega
 obtain ⟨v', w', hrun, h3, h4, _⟩ := run_append_own (P := Tryz.prog) (w.alloc (.cells cs.toArray t)) base st st t i0 z (Lay.size α) by' hu hi hz0 hz1 hz2 hzs hpos v xs.length (ys.flatMap (·.2)) hown1 ⟨w.heap.size, 0, none⟩ 1 1 cs hcl (bz w _ _) h1c (by unfold maxLen; omega) hbytes (by simp; omega)
 have ht := bk (P := Tryz.prog) _ base st st t i0 z (Lay.size α) by' hu hi hz0 hz1 hz2 v xs.length (ys.flatMap (·.2)) hown1 ⟨w.heap.size, 0, none⟩ 1 1 cs hcl (bz w _ _) h1c (by omega) (by unfold maxLen; omega) hbytes hrun
 have hM : Mod (fun g => v.ownBlock = some g) w w' := ((Mod.refl _ w).alloc _).trans (T' := fun g => v.ownBlock = some g) (Mod.of_grown h4 (fun _ h => h)) (fun _ _ h => h)
 have ht2 : ∀ g, v'.ownBlock = some g → v.ownBlock = some g ∨ w.heap.size ≤ g := fun g hg => by
  rcases ht g hg with h | h
  ·exact .inl h
  ·exact .inr (by simp at h; omega)
 have hS : ∀ g, g < w.heap.size → S g → S g ∧ v'.ownBlock ≠ some g := fun g hg hsg => ⟨hsg, fun e => by
  rcases ht2 g e with h | h
  ·exact hs g hg hsg h
  ·omega⟩
 refine ⟨v', w', hrun, ⟨ys ++ [(x, cs)], by simp [h0], by rw [List.flatMap_append, List.length_append]; simpa using h3, fun y hy => ?_⟩, hM, ht2⟩
 rcases List.mem_append.1 hy with hy | hy
 ·exact Lay.mod (Lay.more (h2 y hy) hS) hM (fun g hg hsg => hs g hg hsg.1)
 ·simp at hy; subst hy
  exact Lay.mod (Lay.more hx hS) hM (fun g hg hsg => hs g hg hsg.1)
end Go.Proofs.YtgnbkfkiigcdgaaGreatDoor
namespace Bin
open Ins
theorem aP {α : Type} {p : P α} {l : List UInt8} {e : Nat} (h : num l = .error e) : list p l = .error e := by
 unfold list P.then
 rw [h]
theorem bt {α : Type} {p : P α} {l : List UInt8} {n i : Nat} (h : num l = .ok (n, i)) : list p l = onto [] i (many p n (l.drop i)) := by
 unfold list P.then
 rw [h]
 dsimp only
 cases many p n (l.drop i) <;> rfl
theorem aO {α : Type} {p : P α} {l : List UInt8} {n e : Nat} (h : p l = .error e) : many p (n + 1) l = .error e := by
 unfold many P.then
 rw [h]
theorem br {α : Type} {p : P α} {l : List UInt8} {n k : Nat} {x : α} (h : p l = .ok (x, k)) : many p (n + 1) l = onto [x] k (many p n (l.drop k)) := by
 show (p.then fun x => (many p n).then fun xs => P.ret (x :: xs)) l = _
 unfold P.then P.ret
 rw [h]
 dsimp only
 cases many p n (l.drop k) <;> rfl
theorem aQ {α : Type} (p : P α) (xs : List α) (k : Nat) (l : List UInt8) : onto xs k (many p 0 l) = .ok (xs, k) := by
 show Except.ok (xs ++ [], k + 0) = _
 simp
end Bin
namespace Go.Proofs.YtgnbkfkiigcdgaaGreatDoor
open Go.RowKit Ins Bin
def bw {α : Type} [Lay α] (B : Nat) (w : World) (x : α) (v : Value) : Prop := ∃ cs : List Value, v = .agg cs.toArray ∧ Lay.rep w (B ≤ ·) x cs
def Tell1 {α : Type} [Lay α] (B : Nat) (w : World) (x : α) (v : Value) : Prop := Lay.rep w (B ≤ ·) x [v]
theorem undUInt8 : Tryz.prog.underlying 36 = some (.slice 5) := by kernel_rfl
theorem infUInt8 : (Tryz.prog.info? 5).map (fun i => (i.zero, i.size, i.bytes)) = some (some (.int .u8 0), Lay.size UInt8, 1) := by kernel_rfl
theorem undNat : Tryz.prog.underlying 24 = some (.slice 28) := by kernel_rfl
theorem infNat : (Tryz.prog.info? 28).map (fun i => (i.zero, i.size, i.bytes)) = some (some (.int .u32 0), Lay.size Nat, 4) := by kernel_rfl
theorem undLim : Tryz.prog.underlying 25 = some (.slice 57) := by kernel_rfl
theorem infLim : (Tryz.prog.info? 57).map (fun i => (i.zero, i.size, i.bytes)) = some (some (.agg #[.int .u32 0, .int .i64 0]), Lay.size Lim, 16) := by kernel_rfl
theorem undFT : Tryz.prog.underlying 22 = some (.slice 50) := by kernel_rfl
theorem infFT : (Tryz.prog.info? 50).map (fun i => (i.zero, i.size, i.bytes)) = some (some (.agg #[.slice none 0 0, .slice none 0 0]), Lay.size FT, 48) := by kernel_rfl
theorem undImp : Tryz.prog.underlying 23 = some (.slice 61) := by kernel_rfl
theorem infImp : (Tryz.prog.info? 61).map (fun i => (i.zero, i.size, i.bytes)) = some (some (.agg #[.string ⟨#[]⟩, .string ⟨#[]⟩, .int .u8 0, .int .u32 0, .int .u32 0, .int .i64 0, .int .u8 0, .bool false]), Lay.size Imp, 64) := by kernel_rfl
theorem undGV : Tryz.prog.underlying 26 = some (.slice 63) := by kernel_rfl
theorem infGV : (Tryz.prog.info? 63).map (fun i => (i.zero, i.size, i.bytes)) = some (some (.agg #[.int .u8 0, .bool false, .slice none 0 0]), Lay.size GV, 32) := by kernel_rfl
theorem undExp : Tryz.prog.underlying 27 = some (.slice 66) := by kernel_rfl
theorem infExp : (Tryz.prog.info? 66).map (fun i => (i.zero, i.size, i.bytes)) = some (some (.agg #[.string ⟨#[]⟩, .int .u8 0, .int .u32 0]), Lay.size Exp, 24) := by kernel_rfl
theorem undEl : Tryz.prog.underlying 29 = some (.slice 69) := by kernel_rfl
theorem infEl : (Tryz.prog.info? 69).map (fun i => (i.zero, i.size, i.bytes)) = some (some (.agg #[.int .u32 0, .slice none 0 0, .slice none 0 0]), Lay.size El, 56) := by kernel_rfl
theorem undCd : Tryz.prog.underlying 30 = some (.slice 54) := by kernel_rfl
theorem infCd : (Tryz.prog.info? 54).map (fun i => (i.zero, i.size, i.bytes)) = some (some (.agg #[.slice none 0 0, .slice none 0 0]), Lay.size Cd, 48) := by kernel_rfl
theorem undDa : Tryz.prog.underlying 31 = some (.slice 71) := by kernel_rfl
theorem infDa : (Tryz.prog.info? 71).map (fun i => (i.zero, i.size, i.bytes)) = some (some (.agg #[.int .u32 0, .slice none 0 0, .slice none 0 0]), Lay.size Da, 56) := by kernel_rfl
theorem undLc : Tryz.prog.underlying 51 = some (.slice 121) := by kernel_rfl
theorem infLc : (Tryz.prog.info? 121).map (fun i => (i.zero, i.size, i.bytes)) = some (some (.agg #[.int .u32 0, .int .u8 0]), Lay.size Lc, 8) := by kernel_rfl
end Go.Proofs.YtgnbkfkiigcdgaaGreatDoor
namespace Bin
open Ins
def mustP (n : Nat) : P Unit := byte.then fun x => if x.toNat = n then P.ret () else P.fail 60
def upP (n : Nat) : P UInt8 := byte.then fun x => if x.toNat ≤ n then P.ret x else P.fail 60
theorem al {α β : Type} {p : P α} {f : α → P β} {l : List UInt8} {e : Nat} (h : p l = .error e) : p.then f l = .error e := by
 unfold P.then; rw [h]
theorem ag {α β : Type} {p : P α} {f : α → P β} {l l' : List UInt8} {a : α} {b : β} {k j : Nat} (h : p l = .ok (a, k)) (hl : l.drop k = l') (h2 : f a l' = .ok (b, j)) : p.then f l = .ok (b, k + j) := by
 subst hl
 unfold P.then
 rw [h]
 dsimp only
 rw [h2]
theorem ah {α β : Type} {p : P α} {f : α → P β} {l l' : List UInt8} {a : α} {e k : Nat} (h : p l = .ok (a, k)) (hl : l.drop k = l') (h2 : f a l' = .error e) : p.then f l = .error e := by
 subst hl
 unfold P.then
 rw [h]
 dsimp only
 rw [h2]
theorem aw {α : Type} (a : α) (l : List UInt8) : P.ret a l = .ok (a, 0) := rfl
theorem byte_ok {l : List UInt8} {x : UInt8} {k : Nat} (h : byte l = .ok (x, k)) : k = 1 := by
 cases l with
 | nil => cases h
 | cons y r => injection h with h; injection h with _ h; exact h.symm
end Bin
namespace Go.Proofs.YtgnbkfkiigcdgaaGreatDoor
open Go.RowKit Ins Bin
theorem gr (n : Nat) (z : Int) (hz : z = (n : Int)) (R : Nat) (l : List UInt8) (w : World) (h : Rb w R l) :
  Calls Tryz.prog 114 #[.pointer (some ⟨R, 0, none⟩), .int .u8 z] w (ap R w l (mustP n l) fun _ _ v => v = .tuple #[]) := by
 have HC := Y (ei R l w h)
 cases hb : byte l with
 | error e0 =>
  have hp : mustP n l = .error e0 := al hb
  rw [hp]
  rw [hb] at HC
  clear hb hz hp
  go_enter Tryz.func114, Tryz.ntmps114
  go_wp2_with (go_at_call 139; refine HC.out.mono ?_; rintro e w1 ⟨rfl, hm⟩)
  exact ⟨rfl, rfl, hm⟩
 | ok q =>
  obtain ⟨x, k⟩ := q
  rw [hb] at HC
  by_cases hx : x.toNat = n
  ·have hp : mustP n l = .ok ((), k) := by
    unfold mustP
    rw [ag (j := 0) hb rfl (by rw [if_pos hx]; rfl)]; rfl
   rw [hp]
   have hz2 : z = (x.toNat : Int) := by omega
   clear hp hb hz hx
   subst hz2
   obtain ⟨y, hy⟩ : ∃ y, (x.toNat : Int) = y := ⟨_, rfl⟩
   have HY := Y hy
   rw [hy]
   clear hy
   go_enter Tryz.func114, Tryz.ntmps114
   go_wp2_with (go_at_call 139; refine HC.out.mono ?_; rintro e w1 ⟨v, rfl, hv, hr, hm⟩; obtain rfl : v = .int .u8 y := hv.trans (by rw [HY.out]); have HR := Y hr; have HM := Y hm; clear hr hm)
   go_end0
   exact ⟨_, rfl, rfl, HR.out, HM.out⟩
  ·have hp : mustP n l = .error 60 := by
    unfold mustP
    exact ah hb rfl (by rw [if_neg hx]; rfl)
   rw [hp]
   have hne : ((x.toNat : Int) == z) = false := by rw [beq_eq_false_iff_ne]; omega
   clear hp hb hz hx
   obtain ⟨y, hy⟩ : ∃ y, (x.toNat : Int) = y := ⟨_, rfl⟩
   have HY := Y hy
   rw [hy] at hne
   clear hy
   go_enter Tryz.func114, Tryz.ntmps114
   go_wp2_with (go_at_call 139; refine HC.out.mono ?_; rintro e w1 ⟨v, rfl, hv, hr, hm⟩; obtain rfl : v = .int .u8 y := hv.trans (by rw [HY.out]); have HR := Y hr; have HM := Y hm; clear hr hm)
   exact ⟨rfl, rfl, HM.out⟩
theorem dh (n : Nat) (z : Int) (hz : z = (n : Int)) (R : Nat) (l : List UInt8) (w : World) (h : Rb w R l) :
  Calls Tryz.prog 118 #[.pointer (some ⟨R, 0, none⟩), .int .u8 z] w (ap R w l (upP n l) fun _ x v => v = .int .u8 (x.toNat : Int)) := by
 have HC := Y (ei R l w h)
 cases hb : byte l with
 | error e0 =>
  have hp : upP n l = .error e0 := al hb
  rw [hp]
  rw [hb] at HC
  clear hb hz hp
  go_enter Tryz.func118, Tryz.ntmps118
  go_wp2_with (go_at_call 139; refine HC.out.mono ?_; rintro e w1 ⟨rfl, hm⟩)
  exact ⟨rfl, rfl, hm⟩
 | ok q =>
  obtain ⟨x, k⟩ := q
  rw [hb] at HC
  by_cases hx : x.toNat ≤ n
  ·have hp : upP n l = .ok (x, k) := by
    unfold upP
    rw [ag (j := 0) hb rfl (by rw [if_pos hx]; rfl)]; rfl
   rw [hp]
   have hd : decide (z < (x.toNat : Int)) = false := decide_eq_false (by omega)
   clear hp hb hz hx
   obtain ⟨y, hy⟩ : ∃ y, (x.toNat : Int) = y := ⟨_, rfl⟩
   have HY := Y hy
   rw [hy] at hd
   clear hy
   go_enter Tryz.func118, Tryz.ntmps118
   go_wp2_with (go_at_call 139; refine HC.out.mono ?_; rintro e w1 ⟨v, rfl, hv, hr, hm⟩; obtain rfl : v = .int .u8 y := hv.trans (by rw [HY.out]); clear hv; have HR := Y hr; have HM := Y hm; clear hr hm)
   go_ret
   exact ⟨_, rfl, congrArg (Value.int .u8) HY.out.symm, HR.out, HM.out⟩
  ·have hp : upP n l = .error 60 := by
    unfold upP
    exact ah hb rfl (by rw [if_neg hx]; rfl)
   rw [hp]
   have hd : z < (x.toNat : Int) := by omega
   clear hp hb hz hx
   obtain ⟨y, hy⟩ : ∃ y, (x.toNat : Int) = y := ⟨_, rfl⟩
   have HY := Y hy
   rw [hy] at hd
   clear hy
   go_enter Tryz.func118, Tryz.ntmps118
   go_wp2_with (go_at_call 139; refine HC.out.mono ?_; rintro e w1 ⟨v, rfl, hv, hr, hm⟩; obtain rfl : v = .int .u8 y := hv.trans (by rw [HY.out]); clear hv; have HR := Y hr; have HM := Y hm; clear hr hm)
   exact ⟨rfl, rfl, HM.out⟩
theorem value_ok {l : List UInt8} {x : UInt8} {k : Nat} (hb : byte l = .ok (x, k)) (h : x = 127 ∨ x = 126) : value l = .ok (x, k) := by
 unfold value
 rw [ag (j := 0) hb rfl (by rw [if_neg (by rcases h with rfl | rfl <;> decide), if_pos h]; rfl)]; rfl
theorem value_float {l : List UInt8} {x : UInt8} {k : Nat} (hb : byte l = .ok (x, k)) (h : x = 125 ∨ x = 124) : value l = .error 61 := by
 unfold value
 exact ah hb rfl (by rw [if_pos h]; rfl)
theorem value_not {l : List UInt8} {x : UInt8} {k : Nat} (hb : byte l = .ok (x, k)) (h1 : ¬ (x = 125 ∨ x = 124)) (h2 : ¬ (x = 127 ∨ x = 126)) : value l = .error 60 := by
 unfold value
 exact ah hb rfl (by rw [if_neg h1, if_neg h2]; rfl)
theorem dy (R : Nat) (l : List UInt8) (w : World) (h : Rb w R l) :
  Calls Tryz.prog 116 #[.pointer (some ⟨R, 0, none⟩)] w (ap R w l (value l) fun _ x v => v = .int .u8 (x.toNat : Int)) := by
 have HC := Y (ei R l w h)
 cases hb : byte l with
 | error e0 =>
  have hp : value l = .error e0 := al hb
  rw [hp]
  rw [hb] at HC
  clear hb hp
  go_enter Tryz.func116, Tryz.ntmps116
  go_wp2_with (go_at_call 139; refine HC.out.mono ?_; rintro e w1 ⟨rfl, hm⟩)
  exact ⟨rfl, rfl, hm⟩
 | ok q =>
  obtain ⟨x, k⟩ := q
  rw [hb] at HC
  by_cases h1 : x = 127 ∨ x = 126
  ·rw [value_ok hb h1]
   clear hb
   rcases h1 with rfl | rfl
   all_goals
    go_enter Tryz.func116, Tryz.ntmps116
    go_wp2_with (go_at_call 139; refine HC.out.mono ?_; rintro e w1 ⟨v, rfl, hv, hr, hm⟩; (first | (obtain rfl : v = .int .u8 127 := hv) | (obtain rfl : v = .int .u8 126 := hv)); have HR := Y hr; have HM := Y hm; clear hr hm)
    go_ret
    exact ⟨_, rfl, rfl, HR.out, HM.out⟩
  ·by_cases h2 : x = 125 ∨ x = 124
   ·rw [value_float hb h2]
    clear hb h1
    rcases h2 with rfl | rfl
    all_goals
     go_enter Tryz.func116, Tryz.ntmps116
     go_wp2_with (go_at_call 139; refine HC.out.mono ?_; rintro e w1 ⟨v, rfl, hv, hr, hm⟩; (first | (obtain rfl : v = .int .u8 125 := hv) | (obtain rfl : v = .int .u8 124 := hv)); have HR := Y hr; have HM := Y hm; clear hr hm)
     exact ⟨rfl, rfl, HM.out⟩
   ·rw [value_not hb h2 h1]
    have k1 : ((x.toNat : Int) == 127) = false := by rw [beq_eq_false_iff_ne]; intro e; exact h1 (.inl (UInt8.toNat_inj.1 (by show x.toNat = 127; omega)))
    have k2 : ((x.toNat : Int) == 126) = false := by rw [beq_eq_false_iff_ne]; intro e; exact h1 (.inr (UInt8.toNat_inj.1 (by show x.toNat = 126; omega)))
    have k3 : ((x.toNat : Int) == 125) = false := by rw [beq_eq_false_iff_ne]; intro e; exact h2 (.inl (UInt8.toNat_inj.1 (by show x.toNat = 125; omega)))
    have k4 : ((x.toNat : Int) == 124) = false := by rw [beq_eq_false_iff_ne]; intro e; exact h2 (.inr (UInt8.toNat_inj.1 (by show x.toNat = 124; omega)))
    clear hb h1 h2
    obtain ⟨y, hy⟩ : ∃ y, (x.toNat : Int) = y := ⟨_, rfl⟩
    have HY := Y hy
    rw [hy] at k1 k2 k3 k4
    clear hy
    go_enter Tryz.func116, Tryz.ntmps116
    go_wp2_with (go_at_call 139; refine HC.out.mono ?_; rintro e w1 ⟨v, rfl, hv, hr, hm⟩; obtain rfl : v = .int .u8 y := hv.trans (by rw [HY.out]); clear hv; have HR := Y hr; have HM := Y hm; clear hr hm)
    exact ⟨rfl, rfl, HM.out⟩
theorem bend_any (R : Nat) (l : List UInt8) (w : World) (h : Rb w R l) :
  Calls Tryz.prog 43 #[.pointer (some ⟨R, 0, none⟩)] w fun e w' => w' = w ∧ if l.length = 0 then e = .returned (.tuple #[]) else e = erred 60 := by
 obtain ⟨A, c, h1, _⟩ := h
 have h0 : w.cell? ⟨R, 0, none⟩ = some (.slice A l.length c) := by rw [cell_of_row w R 0 _ _ (0, 0) h1]; rfl
 by_cases hl : l.length = 0
 ·simp only [if_pos hl]
  rw [hl] at h0
  clear h1 hl
  go_enter Tryz.func43, Tryz.ntmps43
  go_wp2_with fail
  go_end0
  exact ⟨rfl, rfl⟩
 ·simp only [if_neg hl]
  have hd : (0 : Int) < (l.length : Int) := by omega
  generalize l.length = m at *
  clear h1 hl
  go_enter Tryz.func43, Tryz.ntmps43
  go_wp2_with fail
  exact ⟨rfl, rfl, rfl⟩
end Go.Proofs.YtgnbkfkiigcdgaaGreatDoor
