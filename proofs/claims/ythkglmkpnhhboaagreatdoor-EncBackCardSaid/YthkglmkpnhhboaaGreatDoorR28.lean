/-
  Layer 7's writer: bytes laid behind what it has written. (gen/encw.py)
-/
import Derived.Test.YthkglmkpnhhboaaGreatDoorR01
import Derived.Test.YthkglmkpnhhboaaGreatDoorR25
import Derived.Test.YthkglmkpnhhboaaGreatDoorR17
import Derived.Deep.Cut
import Derived.Test.YthkglmkpnhhboaaGreatDoorR10
import Derived.Test.YthkglmkpnhhboaaGreatDoorR21
import Derived.Test.YthkglmkpnhhboaaGreatDoorR20
import Derived.Test.YthkglmkpnhhboaaGreatDoorR16
import Derived.Test.YthkglmkpnhhboaaGreatDoorR07
import Derived.Test.YthkglmkpnhhboaaGreatDoorR04
set_option maxRecDepth 100000
set_option maxHeartbeats 4000000
namespace Go.Proofs.YthkglmkpnhhboaaGreatDoor
open Go.RowKit Ins Bin
theorem ct (R : Nat) (v : Value) (s : Option (List UInt8)) (A : Option Addr) (y : List UInt8) (n c : Nat) (w : World) (h : WS w R v s) (hA : Has w w.heap.size A y) (hn : n = y.length) (hc : n ≤ c) (hcm : c ≤ maxLen) :
  Calls Tryz.prog 125 #[.pointer (some ⟨R, 0, none⟩), .slice A n c] w (ab R w v (adv s True y)) := by
 obtain ⟨bs, h1, h2, h3, h4, h5⟩ := h
 have HP := Y (fun w' v' k hk ha => ws_put (w := w) (w' := w') (R := R) (k := k) (v := v) (v' := v') (s := s) (bs := bs) (y := y) h1 h2 h3 h4 h5 hk ha)
 obtain ⟨k, hk⟩ : ∃ k, min y.length (65536 - bs.length) = k := ⟨_, rfl⟩
 have hkl : k = (y.take k).length := by rw [List.length_take]; omega
 obtain ⟨v1, w1, hrun, hadd⟩ := aT w.drew R k c v bs (y.take k) A h2 (hA.take k) hkl (by rw [← hkl]; omega) (Nat.le_of_lt (Array.getElem?_eq_some_iff.1 h1).1)
 obtain ⟨A1, m1, c1, hv1⟩ : ∃ A1 m1 c1, v1 = .slice A1 m1 c1 := by
  obtain ⟨a, c, h, _⟩ := cO hadd.1
  exact ⟨_, _, _, h⟩
 subst hv1
 have hadd' : Adds R w v w1 (.slice A1 m1 c1) (bs ++ y.take k) := ⟨hadd.1, ⟨hadd.2.1.os, hadd.2.1.tape, hadd.2.1.output, hadd.2.1.size, hadd.2.1.block⟩, hadd.2.2⟩
 have HQ := Y (HP.out w1 _ k hk.symm hadd')
 have h1' := hadd'.2.1.heap h1 (iF h1 h2)
 have HF1 := Y (frozen_of_row w1 R 0 _ _ h1')
 have hc1 : w1.cell? ⟨R, 0, none⟩ = some v := by rw [cell_of_row w1 R 0 _ _ (0, 0) h1']; rfl
 have HC1 := Y hc1
 obtain ⟨A0, c0, rfl, _, hc00, _, _, _⟩ := bR h2
 have h0 : w.cell? ⟨R, 0, none⟩ = some (.slice A0 bs.length c0) := by rw [cell_of_row w R 0 _ _ (0, 0) h1]; rfl
 have hf : w.frozen? ⟨R, 0, none⟩ = false := frozen_of_row w R 0 _ _ h1
 have HRUN := Y hrun
 have hcm' := hcm
 unfold maxLen at hcm'
 have hmin : min (n : Int) (65536 - (bs.length : Int)) = (k : Int) := by omega
 have hkc : k ≤ c := by omega
 have hki : (k : Int) ≤ (c : Int) := by omega
 have hwr : IntKind.i64.wrap (65536 - (bs.length : Int)) = 65536 - (bs.length : Int) := IntWalk.i64_in _ ⟨by omega, by omega⟩
 clear h1 h2 h4 h5 hk hkl hrun hadd hadd' h1' hc1 hcm hA HP
 obtain ⟨n0, hn0⟩ : ∃ n0, bs.length = n0 := ⟨_, rfl⟩
 rw [hn0] at h0 h3 hmin hwr HRUN HC1 HQ ⊢
 clear hn0 hn hc00
 go_enter Tryz.func125, Tryz.ntmps125
 go_upto_region 1 with fail
 refine wp_region_held_drew (S := fun _ => True) (by kernel_rfl) (trivial) (fun hHeld => ?_)
 refine dv 0 rfl ?_
 refine dv 1 rfl ?_
 refine dv 2 rfl ?_
 refine dv 3 rfl ?_
 refine dv 5 rfl ?_
 refine dv 6 rfl ?_
 refine dv 7 rfl ?_
 refine dv 8 rfl ?_
 refine dv 9 rfl ?_
 refine dv 10 rfl ?_
 refine an 4 rfl (by kernel_rfl) (fun K hK => ?_)
 rw [if_pos]
 case hc => rfl
 go_simp
 refine hK.out _ _ trivial (fun hHeld2 => ?_)
 clear hK K hHeld2
 try simp only [Act.put, Z]
 refine an 11 rfl (by kernel_rfl) (fun K hK => ?_)
 rw [if_pos]
 case hc => rfl
 refine wp_appendW (.tmp 15) (.tmp 21) 36 rfl _ _ _ w1 rfl rfl HRUN.out ?_
 refine hK.out _ _ trivial (fun hHeld2 => ?_)
 clear hK K hHeld2
 try simp only [Act.put, Z]
 have hc1 := HC1.out
 have hf1 := HF1.out
 refine dv 12 rfl ?_
 refine dv 13 rfl ?_
 refine an 14 rfl (by kernel_rfl) (fun K hK => ?_)
 rw [if_pos]
 case hc => rfl
 go_simp
 refine hK.out _ _ trivial (fun hHeld2 => ?_)
 clear hK K hHeld2
 try simp only [Act.put, Z]
 refine wpAnyH_done (by kernel_rfl) ?_ _
 (first | go_end0 | refine bodyPost_ret (results_none rfl _ _ _) rfl ?_)
 exact ⟨rfl, _, HQ.out.1, HQ.out.2⟩
end Go.Proofs.YthkglmkpnhhboaaGreatDoor
namespace Bin
open Ins
structure fi (m : M) : Prop where
 lens : m.types.length ≤ 4000 ∧ m.imports.length ≤ 4000 ∧ m.funcs.length ≤ 4000 ∧ m.tables.length ≤ 4000 ∧ m.mems.length ≤ 4000 ∧ m.globals.length ≤ 4000 ∧ m.exports.length ≤ 4000 ∧ m.elems.length ≤ 4000 ∧ m.codes.length ≤ 4000 ∧ m.datas.length ≤ 4000
 types : ∀ x ∈ m.types, x.params.length ≤ 1000000 ∧ x.results.length ≤ 1000000
 imports : ∀ x ∈ m.imports, x.mod.length ≤ 1000000 ∧ x.name.length ≤ 1000000
 globals : ∀ x ∈ m.globals, Ins.many x.init ≤ 200000
 exports : ∀ x ∈ m.exports, x.name.length ≤ 1000000
 elems : ∀ x ∈ m.elems, Ins.many x.off ≤ 200000 ∧ x.funcs.length ≤ 100000
 codes : ∀ x ∈ m.codes, x.locals.length ≤ 100000 ∧ Ins.many x.body ≤ 200000
 datas : ∀ x ∈ m.datas, Ins.many x.off ≤ 200000 ∧ x.b.length ≤ 1000000
end Bin
namespace Go.Proofs.YthkglmkpnhhboaaGreatDoor
open Go.RowKit Ins Bin
theorem bv (R : Nat) (v : Value) (s : Option (List UInt8)) (x : UInt8) (k : Int) (hk : (x.toNat : Int) = k) (w : World) (h : WS w R v s) :
  Calls Tryz.prog 125 #[.pointer (some ⟨R, 0, none⟩), .slice (some ⟨w.heap.size, 0, none⟩) 1 1] (w.alloc (.cells #[.int .u8 k] 5)) (ab R w v (adv s True [x])) := by
 subst hk
 have hlit : Has (w.alloc (.cells #[.int .u8 (x.toNat : Int)] 5)) (w.heap.size + 1) (some ⟨w.heap.size, 0, none⟩) [x] := Has.lit w [x] 5
 exact (ct R v s _ [x] 1 1 _ (h.alloc _) (hlit.more (by simp)) rfl (Nat.le_refl _) (by unfold maxLen; omega)).mono (fun e w' hp => hp.ahead ((Below.refl _ _).alloc (Nat.le_refl _) _))
theorem ws_must {w : World} {R : Nat} {v : Value} {s : Option (List UInt8)} (h : WS w R v s) (b : Bool) (c : Bool) (hc : c = (s.isNone || !b)) : WS (w.setCell ⟨R, 1, none⟩ (.bool c)) R v (adv s (b = true) []) ∧ WMod R w v (w.setCell ⟨R, 1, none⟩ (.bool c)) v := by
 obtain ⟨bs, h1, h2, h3, h4, h5⟩ := h
 have hne := iF h1 h2
 have hM : Mod (· = R) w (w.setCell ⟨R, 1, none⟩ (.bool c)) := Mod.setCell (T := (· = R)) (Mod.refl _ w) (fun _ => rfl) _
 refine ⟨⟨bs, ?_, hM.own h2 (fun g hg e => hne (by rw [hg, e])), h3, h4, ?_⟩, hM.more (fun _ _ h => .inl h), fun _ h => .inl h⟩
 ·rw [heap_setCell_same w R 1 _ _ _ h1]
  have : (adv s (b = true) []).isNone = c := by
   subst hc
   cases b
   ·rw [bM (by decide)]; cases s <;> rfl
   ·rw [bx rfl]; cases s <;> rfl
  rw [this]
  rfl
 ·intro l e
  cases b
  ·rw [bM (by decide)] at e
   cases e
  ·rw [bx rfl] at e
   cases s with
   | none => cases e
   | some l0 =>
    have e' : l0 ++ [] = l := Option.some.inj e
    rw [List.append_nil] at e'
    subst e'
    exact h5 l0 rfl
theorem aq (R : Nat) (v : Value) (s : Option (List UInt8)) (b : Bool) (w : World) (h : WS w R v s) :
  Calls Tryz.prog 131 #[.pointer (some ⟨R, 0, none⟩), .bool b] w (ab R w v (adv s (b = true) [])) := by
 have HQ := Y (fun c hc => ws_must h b c hc)
 obtain ⟨bs, h1, _⟩ := h
 have h0 : w.cell? ⟨R, 1, none⟩ = some (.bool s.isNone) := by rw [cell_of_row w R 1 _ _ (0, 0) h1]; rfl
 have hf : w.frozen? ⟨R, 1, none⟩ = false := frozen_of_row w R 1 _ _ h1
 clear h1
 obtain ⟨q, hq⟩ : ∃ q, s.isNone = q := ⟨_, rfl⟩
 rw [hq] at h0 HQ
 clear hq
 cases q <;> cases b
 all_goals
  go_enter Tryz.func131, Tryz.ntmps131
  go_wp2_with fail
  (first | go_end0 | refine bodyPost_ret (results_none rfl _ _ _) rfl ?_)
  have h := HQ.out _ rfl
  exact ⟨rfl, _, h.1, h.2⟩
theorem bapp_any (X : Nat) (W : World) (hX : X < 18446744073709551616) : Calls Tryz.prog 31 #[.slice none 0 0, .int .u64 (X : Int)] W fun e w1 => ∃ A m c, e = .returned (.slice A m c) ∧ m = (Leb.encU X).length ∧ m ≤ c ∧ c ≤ maxLen ∧ Has w1 w1.heap.size A (Leb.encU X) ∧ Below W.heap.size W w1 := by
 refine (c11 none [] 0 0 X W rfl (by omega) (Has.nil _ _ _) hX).mono ?_
 rintro e w1 ⟨u, rfl, ho, hb⟩
 obtain ⟨A, c, rfl, h1, h2, h3, _, h4⟩ := bR ho
 exact ⟨A, _, c, rfl, by omega, h2, h3, h4, hb⟩
theorem aU (R : Nat) (v : Value) (s : Option (List UInt8)) (n : Nat) (w : World) (h : WS w R v s) (hn : n < 4294967296) :
  Calls Tryz.prog 96 #[.pointer (some ⟨R, 0, none⟩), .int .u32 (n : Int)] w (ab R w v (adv s True (Leb.encU n))) := by
 have hw : IntKind.u64.wrap (n : Int) = (n : Int) := IntWalk.u64_in _ (by omega)
 have HC := Y (bapp_any n w (by omega))
 have HP := Y (fun W A m c (hb : Below w.heap.size w W) hA hm hc hcm => (ct R v s A (Leb.encU n) m c W (h.on hb) hA hm hc hcm).mono (fun e w' hp => hp.ahead hb))
 clear h hn
 go_enter Tryz.func96, Tryz.ntmps96
 go_wp2_with (first | (go_at_call 31; refine HC.out.mono ?_; rintro e w1 ⟨A, m, c, rfl, q1, q2, q3, q4, q5⟩; have HPP := Y (HP.out w1 A m c q5 q4 q1 q2 q3); clear q1 q2 q3 q4 q5) | (go_at_call 125; refine HPP.out.mono ?_; rintro e w2 ⟨rfl, v2, hs, hm⟩))
 (first | go_end0 | refine bodyPost_ret (results_none rfl _ _ _) rfl ?_)
 exact ⟨rfl, v2, hs, hm⟩
theorem be (R : Nat) (v : Value) (s : Option (List UInt8)) (n : Nat) (w : World) (h : WS w R v s) (hn : n ≤ 9223372036854775807) :
  Calls Tryz.prog 124 #[.pointer (some ⟨R, 0, none⟩), .int .i64 (n : Int)] w (ab R w v (adv s True (Leb.encU n))) := by
 have hw : IntKind.u64.wrap (n : Int) = (n : Int) := IntWalk.u64_in _ (by omega)
 have HC := Y (bapp_any n w (by omega))
 have HP := Y (fun W A m c (hb : Below w.heap.size w W) hA hm hc hcm => (ct R v s A (Leb.encU n) m c W (h.on hb) hA hm hc hcm).mono (fun e w' hp => hp.ahead hb))
 clear h hn
 go_enter Tryz.func124, Tryz.ntmps124
 go_wp2_with (first | (go_at_call 31; refine HC.out.mono ?_; rintro e w1 ⟨A, m, c, rfl, q1, q2, q3, q4, q5⟩; have HPP := Y (HP.out w1 A m c q5 q4 q1 q2 q3); clear q1 q2 q3 q4 q5) | (go_at_call 125; refine HPP.out.mono ?_; rintro e w2 ⟨rfl, v2, hs, hm⟩))
 (first | go_end0 | refine bodyPost_ret (results_none rfl _ _ _) rfl ?_)
 exact ⟨rfl, v2, hs, hm⟩
theorem cN (R : Nat) (v : Value) (s : Option (List UInt8)) (b : Bool) (w : World) (h : WS w R v s)  :
  Calls Tryz.prog 132 #[.pointer (some ⟨R, 0, none⟩), .bool b] w (ab R w v (adv s (True) (encFlag b))) := by
 cases b
 ·have HST : Hid (adv s (True) ([0]) = adv s (True) (encFlag false)) := Y (rfl)
  have HP1 : Hid (∀ (W : World) (V : Value), WS W R V (s) → Mod (R ≤ ·) w W → Calls Tryz.prog 125 #[.pointer (some ⟨R, 0, none⟩), .slice (some ⟨W.heap.size, 0, none⟩) 1 1] (W.alloc (.cells #[.int .u8 (0)] 5)) (ab R W V (adv (s) (True) ([0])))) := Y (fun W V hW hM => bv R V _ (0) (0) (rfl) W hW)
  have HW := Y h
  have tok1 : True := trivial
  have HS0 := Y h
  have HM0 := Y (WMod.refl R w v)
  clear h
  go_enter Tryz.func132, Tryz.ntmps132
  go_wp2_with (first | (go_at_call 125; clear tok1; refine (HP1.out _ _ HS0.out (HM0.out.low HW.out)).mono ?_; rintro e w1 ⟨rfl, v1, hs, hm⟩; have HS1 := Y hs; have HM1 := Y (HM0.out.trans hm); clear hs hm))
  (first | go_end0 | refine bodyPost_ret (results_none rfl _ _ _) rfl ?_)
  rw [← HST.out]
  exact ⟨rfl, _, HS1.out, HM1.out⟩
 ·have HST : Hid (adv s (True) ([1]) = adv s (True) (encFlag true)) := Y (rfl)
  have HP1 : Hid (∀ (W : World) (V : Value), WS W R V (s) → Mod (R ≤ ·) w W → Calls Tryz.prog 125 #[.pointer (some ⟨R, 0, none⟩), .slice (some ⟨W.heap.size, 0, none⟩) 1 1] (W.alloc (.cells #[.int .u8 (1)] 5)) (ab R W V (adv (s) (True) ([1])))) := Y (fun W V hW hM => bv R V _ (1) (1) (rfl) W hW)
  have HW := Y h
  have tok1 : True := trivial
  have HS0 := Y h
  have HM0 := Y (WMod.refl R w v)
  clear h
  go_enter Tryz.func132, Tryz.ntmps132
  go_wp2_with (first | (go_at_call 125; clear tok1; refine (HP1.out _ _ HS0.out (HM0.out.low HW.out)).mono ?_; rintro e w1 ⟨rfl, v1, hs, hm⟩; have HS1 := Y hs; have HM1 := Y (HM0.out.trans hm); clear hs hm))
  (first | go_end0 | refine bodyPost_ret (results_none rfl _ _ _) rfl ?_)
  rw [← HST.out]
  exact ⟨rfl, _, HS1.out, HM1.out⟩
theorem fU (R : Nat) (v : Value) (s : Option (List UInt8)) (t : UInt8) (k : Int) (w : World) (h : WS w R v s) (hk : (t.toNat : Int) = k) :
  Calls Tryz.prog 127 #[.pointer (some ⟨R, 0, none⟩), .int .u8 k] w (ab R w v (adv s (okT t) ([t]))) := by
 have hok : okT t ↔ k = 127 ∨ k = 126 := by
  rw [okT_iff, ← hk]
  constructor
  ·rintro (rfl | rfl)
   ·exact .inl rfl
   ·exact .inr rfl
  ·rintro (h | h)
   ·exact .inl (UInt8.toNat_inj.1 (by show t.toNat = 127; omega))
   ·exact .inr (UInt8.toNat_inj.1 (by show t.toNat = 126; omega))
 have hcase : k = 127 ∨ k = 126 ∨ (¬ k = 127 ∧ ¬ k = 126) := by omega
 rcases hcase with rfl | rfl | ⟨h1, h2⟩
 ·have HST : Hid (adv (adv s (true = true) ([])) (True) ([t]) = adv s (okT t) ([t])) := Y ((by rw [ah]; exact aj (by rw [hok]; simp) (fun _ => rfl)))
  have HP1 : Hid (∀ (W : World) (V : Value), WS W R V (s) → Mod (R ≤ ·) w W → Calls Tryz.prog 131 #[.pointer (some ⟨R, 0, none⟩), .bool true] W (ab R W V (adv (s) (true = true) ([])))) := Y (fun W V hW hM => aq R V _ true W hW)
  have HP2 : Hid (∀ (W : World) (V : Value), WS W R V (adv s (true = true) ([])) → Mod (R ≤ ·) w W → Calls Tryz.prog 125 #[.pointer (some ⟨R, 0, none⟩), .slice (some ⟨W.heap.size, 0, none⟩) 1 1] (W.alloc (.cells #[.int .u8 (127)] 5)) (ab R W V (adv (adv s (true = true) ([])) (True) ([t])))) := Y (fun W V hW hM => bv R V _ (t) (127) (hk) W hW)
  have HW := Y h
  have tok1 : True := trivial
  have tok2 : True := trivial
  have HS0 := Y h
  have HM0 := Y (WMod.refl R w v)
  clear h hok hk
  go_enter Tryz.func127, Tryz.ntmps127
  go_wp2_with (first | (go_at_call 131; clear tok1; refine (HP1.out _ _ HS0.out (HM0.out.low HW.out)).mono ?_; rintro e w1 ⟨rfl, v1, hs, hm⟩; have HS1 := Y hs; have HM1 := Y (HM0.out.trans hm); clear hs hm) | (go_at_call 125; clear tok2; refine (HP2.out _ _ HS1.out (HM1.out.low HW.out)).mono ?_; rintro e w2 ⟨rfl, v2, hs, hm⟩; have HS2 := Y hs; have HM2 := Y (HM1.out.trans hm); clear hs hm))
  (first | go_end0 | refine bodyPost_ret (results_none rfl _ _ _) rfl ?_)
  rw [← HST.out]
  exact ⟨rfl, _, HS2.out, HM2.out⟩
 ·have HST : Hid (adv (adv s (true = true) ([])) (True) ([t]) = adv s (okT t) ([t])) := Y ((by rw [ah]; exact aj (by rw [hok]; simp) (fun _ => rfl)))
  have HP1 : Hid (∀ (W : World) (V : Value), WS W R V (s) → Mod (R ≤ ·) w W → Calls Tryz.prog 131 #[.pointer (some ⟨R, 0, none⟩), .bool true] W (ab R W V (adv (s) (true = true) ([])))) := Y (fun W V hW hM => aq R V _ true W hW)
  have HP2 : Hid (∀ (W : World) (V : Value), WS W R V (adv s (true = true) ([])) → Mod (R ≤ ·) w W → Calls Tryz.prog 125 #[.pointer (some ⟨R, 0, none⟩), .slice (some ⟨W.heap.size, 0, none⟩) 1 1] (W.alloc (.cells #[.int .u8 (126)] 5)) (ab R W V (adv (adv s (true = true) ([])) (True) ([t])))) := Y (fun W V hW hM => bv R V _ (t) (126) (hk) W hW)
  have HW := Y h
  have tok1 : True := trivial
  have tok2 : True := trivial
  have HS0 := Y h
  have HM0 := Y (WMod.refl R w v)
  clear h hok hk
  go_enter Tryz.func127, Tryz.ntmps127
  go_wp2_with (first | (go_at_call 131; clear tok1; refine (HP1.out _ _ HS0.out (HM0.out.low HW.out)).mono ?_; rintro e w1 ⟨rfl, v1, hs, hm⟩; have HS1 := Y hs; have HM1 := Y (HM0.out.trans hm); clear hs hm) | (go_at_call 125; clear tok2; refine (HP2.out _ _ HS1.out (HM1.out.low HW.out)).mono ?_; rintro e w2 ⟨rfl, v2, hs, hm⟩; have HS2 := Y hs; have HM2 := Y (HM1.out.trans hm); clear hs hm))
  (first | go_end0 | refine bodyPost_ret (results_none rfl _ _ _) rfl ?_)
  rw [← HST.out]
  exact ⟨rfl, _, HS2.out, HM2.out⟩
 ·have h3 : (k == 127) = false := by simp [h1]
  have h4 : (k == 126) = false := by simp [h2]
  have HST : Hid (adv (adv s (false = true) ([])) (True) ([t]) = adv s (okT t) ([t])) := Y ((by rw [ah]; exact aj (by rw [hok]; simp [h1, h2]) (fun _ => rfl)))
  have HP1 : Hid (∀ (W : World) (V : Value), WS W R V (s) → Mod (R ≤ ·) w W → Calls Tryz.prog 131 #[.pointer (some ⟨R, 0, none⟩), .bool false] W (ab R W V (adv (s) (false = true) ([])))) := Y (fun W V hW hM => aq R V _ false W hW)
  have HP2 : Hid (∀ (W : World) (V : Value), WS W R V (adv s (false = true) ([])) → Mod (R ≤ ·) w W → Calls Tryz.prog 125 #[.pointer (some ⟨R, 0, none⟩), .slice (some ⟨W.heap.size, 0, none⟩) 1 1] (W.alloc (.cells #[.int .u8 (k)] 5)) (ab R W V (adv (adv s (false = true) ([])) (True) ([t])))) := Y (fun W V hW hM => bv R V _ (t) (k) (hk) W hW)
  have HW := Y h
  have tok1 : True := trivial
  have tok2 : True := trivial
  have HS0 := Y h
  have HM0 := Y (WMod.refl R w v)
  clear h hok hk
  go_enter Tryz.func127, Tryz.ntmps127
  go_wp2_with (first | (go_at_call 131; clear tok1; refine (HP1.out _ _ HS0.out (HM0.out.low HW.out)).mono ?_; rintro e w1 ⟨rfl, v1, hs, hm⟩; have HS1 := Y hs; have HM1 := Y (HM0.out.trans hm); clear hs hm) | (go_at_call 125; clear tok2; refine (HP2.out _ _ HS1.out (HM1.out.low HW.out)).mono ?_; rintro e w2 ⟨rfl, v2, hs, hm⟩; have HS2 := Y hs; have HM2 := Y (HM1.out.trans hm); clear hs hm))
  (first | go_end0 | refine bodyPost_ret (results_none rfl _ _ _) rfl ?_)
  rw [← HST.out]
  exact ⟨rfl, _, HS2.out, HM2.out⟩
theorem co (R : Nat) (v : Value) (s : Option (List UInt8)) (t : UInt8) (k : Int) (w : World) (h : WS w R v s) (hk : (t.toNat : Int) = k) :
  Calls Tryz.prog 129 #[.pointer (some ⟨R, 0, none⟩), .int .u8 k] w (ab R w v (adv s (t.toNat ≤ 3) ([t]))) := by
 have hok : t.toNat ≤ 3 ↔ k ≤ 3 := by omega
 by_cases h1 : k ≤ 3
 ·have h2 : ¬ (3 : Int) < k := by omega
  have HST : Hid (adv (adv s (true = true) ([])) (True) ([t]) = adv s (t.toNat ≤ 3) ([t])) := Y ((by rw [ah]; exact aj (by rw [hok]; simp [h1]) (fun _ => rfl)))
  have HP1 : Hid (∀ (W : World) (V : Value), WS W R V (s) → Mod (R ≤ ·) w W → Calls Tryz.prog 131 #[.pointer (some ⟨R, 0, none⟩), .bool true] W (ab R W V (adv (s) (true = true) ([])))) := Y (fun W V hW hM => aq R V _ true W hW)
  have HP2 : Hid (∀ (W : World) (V : Value), WS W R V (adv s (true = true) ([])) → Mod (R ≤ ·) w W → Calls Tryz.prog 125 #[.pointer (some ⟨R, 0, none⟩), .slice (some ⟨W.heap.size, 0, none⟩) 1 1] (W.alloc (.cells #[.int .u8 (k)] 5)) (ab R W V (adv (adv s (true = true) ([])) (True) ([t])))) := Y (fun W V hW hM => bv R V _ (t) (k) (hk) W hW)
  have HW := Y h
  have tok1 : True := trivial
  have tok2 : True := trivial
  have HS0 := Y h
  have HM0 := Y (WMod.refl R w v)
  clear h hok hk
  go_enter Tryz.func129, Tryz.ntmps129
  go_wp2_with (first | (go_at_call 131; clear tok1; refine (HP1.out _ _ HS0.out (HM0.out.low HW.out)).mono ?_; rintro e w1 ⟨rfl, v1, hs, hm⟩; have HS1 := Y hs; have HM1 := Y (HM0.out.trans hm); clear hs hm) | (go_at_call 125; clear tok2; refine (HP2.out _ _ HS1.out (HM1.out.low HW.out)).mono ?_; rintro e w2 ⟨rfl, v2, hs, hm⟩; have HS2 := Y hs; have HM2 := Y (HM1.out.trans hm); clear hs hm))
  (first | go_end0 | refine bodyPost_ret (results_none rfl _ _ _) rfl ?_)
  rw [← HST.out]
  exact ⟨rfl, _, HS2.out, HM2.out⟩
 ·have h2 : (3 : Int) < k := by omega
  have HST : Hid (adv (adv s (false = true) ([])) (True) ([t]) = adv s (t.toNat ≤ 3) ([t])) := Y ((by rw [ah]; exact aj (by rw [hok]; simp [h1]) (fun _ => rfl)))
  have HP1 : Hid (∀ (W : World) (V : Value), WS W R V (s) → Mod (R ≤ ·) w W → Calls Tryz.prog 131 #[.pointer (some ⟨R, 0, none⟩), .bool false] W (ab R W V (adv (s) (false = true) ([])))) := Y (fun W V hW hM => aq R V _ false W hW)
  have HP2 : Hid (∀ (W : World) (V : Value), WS W R V (adv s (false = true) ([])) → Mod (R ≤ ·) w W → Calls Tryz.prog 125 #[.pointer (some ⟨R, 0, none⟩), .slice (some ⟨W.heap.size, 0, none⟩) 1 1] (W.alloc (.cells #[.int .u8 (k)] 5)) (ab R W V (adv (adv s (false = true) ([])) (True) ([t])))) := Y (fun W V hW hM => bv R V _ (t) (k) (hk) W hW)
  have HW := Y h
  have tok1 : True := trivial
  have tok2 : True := trivial
  have HS0 := Y h
  have HM0 := Y (WMod.refl R w v)
  clear h hok hk
  go_enter Tryz.func129, Tryz.ntmps129
  go_wp2_with (first | (go_at_call 131; clear tok1; refine (HP1.out _ _ HS0.out (HM0.out.low HW.out)).mono ?_; rintro e w1 ⟨rfl, v1, hs, hm⟩; have HS1 := Y hs; have HM1 := Y (HM0.out.trans hm); clear hs hm) | (go_at_call 125; clear tok2; refine (HP2.out _ _ HS1.out (HM1.out.low HW.out)).mono ?_; rintro e w2 ⟨rfl, v2, hs, hm⟩; have HS2 := Y hs; have HM2 := Y (HM1.out.trans hm); clear hs hm))
  (first | go_end0 | refine bodyPost_ret (results_none rfl _ _ _) rfl ?_)
  rw [← HST.out]
  exact ⟨rfl, _, HS2.out, HM2.out⟩
theorem Tb.low {w w' : World} {R : Nat} (h : Tb w) (hm : Mod (R ≤ ·) w w') (h2 : 2 ≤ R) : Tb w' := by
 obtain ⟨⟨h1, h2'⟩, h3⟩ := h
 refine ⟨⟨fun c hc => (World.cell?_of_block (hm.block 0 (by omega) (by omega))).trans (h1 c hc), fun i hi => ?_⟩, by have := hm.size; omega⟩
 exact ⟨(World.cell?_of_block (hm.block 1 (by omega) (by omega))).trans (h2' i hi).1, (World.cell?_of_block (hm.block 1 (by omega) (by omega))).trans (h2' i hi).2⟩
theorem bytes_ofW (w : World) (s : ByteArray) (hs : s.size ≤ maxLen) : ∃ A c w', (convert 9 36 (.string s)).run Tryz.prog w = .ok (.slice A s.size c) w' ∧ s.size ≤ c ∧ c ≤ maxLen ∧ Has w' w'.heap.size A s.data.toList ∧ Below w.heap.size w w' := by
 obtain ⟨A, c, w', h1, h2, h3, h4⟩ := bytes_of w s
 have h5 := h1
 rw [run_bytes_of_string w 9 36 5 s und9 und22 und5] at h5
 injection h5 with h5 h6
 injection h5 with h7 h8 h9
 exact ⟨A, c, w', h1, h2, by rw [← h9]; exact grownCap_le_maxLen w s.size 0 5 hs, h3, h4⟩
theorem Has.wmod {w w' : World} {R : Nat} {v v' : Value} {A : Option Addr} {l : List UInt8} (h : Has w w.heap.size A l) (hm : WMod R w v w' v') (hs : l ≠ [] → ∀ ad, A = some ad → ¬ (ad.block = R ∨ v.ownBlock = some ad.block)) : Has w' w'.heap.size A l := fun k x hx => by
 obtain ⟨ad, h1, h2, h3⟩ := h k x hx
 have hb : (ad.add k).block = ad.block := by unfold Addr.add; split <;> rfl
 exact ⟨ad, h1, Nat.lt_of_lt_of_le h2 hm.1.size, hm.1.cell h3 (by rw [hb]; exact hs (fun e => by rw [e] at hx; simp at hx) ad h1)⟩
theorem ba (R : Nat) (v : Value) (s : Option (List UInt8)) (l : List UInt8) (w : World) (h : WS w R v s) (hl : l.length ≤ 1000000) (hT : Tb w) :
  Calls Tryz.prog 128 #[.pointer (some ⟨R, 0, none⟩), .string ⟨l.toArray⟩] w (ab R w v (adv s (okName l) (encName l))) := by
 obtain ⟨B, hB⟩ : ∃ B : ByteArray, B = ⟨l.toArray⟩ := ⟨_, rfl⟩
 have hsz : B.size = l.length := by rw [hB]; simp [ByteArray.size]
 have hd : B.data.toList = l := by rw [hB]
 rw [← hB]
 obtain ⟨A, c, wc, hrun, hc, hcm, hh, hb⟩ := bytes_ofW w B (by unfold maxLen; omega)
 rw [hd] at hh
 have hcm' := hcm
 unfold maxLen at hcm'
 have HV := Y (dc A l B.size c wc hsz (by omega) hc hh (hT.on hb))
 have HST : Hid (adv (adv s (U8.text l = true) []) True (encName l) = adv s (okName l) (encName l)) := Y (by rw [ah]; exact aj (by simp [okName]) (fun _ => rfl))
 have HB := Y hb
 have HWS := Y h
 obtain ⟨q, hq⟩ : ∃ q, U8.text l = q := ⟨_, rfl⟩
 rw [hq] at HV HST
 have HP1 : Hid (∀ W, Below wc.heap.size wc W → Calls Tryz.prog 131 #[.pointer (some ⟨R, 0, none⟩), .bool q] W (ab R w v (adv s (q = true) []))) := Y (fun W hW => (aq R v s q W (h.on (HB.out.trans (hW.mono HB.out.size)))).mono (fun e w' hp => hp.ahead (HB.out.trans (hW.mono HB.out.size))))
 have HA : Hid (∀ (W : World), Calls Tryz.prog 144 #[.slice none 0 0, .string B] W fun e w1 => ∃ A m c, e = .returned (.slice A m c) ∧ m = (encName l).length ∧ m ≤ c ∧ c ≤ maxLen ∧ Has w1 w1.heap.size A (encName l) ∧ Below W.heap.size W w1) := Y (fun W => by
  refine (nappend_any none [] 0 0 B W rfl (by omega) (by omega) (Has.nil _ _ _)).mono ?_
  rintro e w1 ⟨u, rfl, ho, hb⟩
  obtain ⟨A, c, rfl, h1, h2, h3, _, h4⟩ := bR ho
  rw [hd, hsz] at h4 h1
  exact ⟨A, _, c, rfl, by rw [hsz, h1]; rfl, h2, h3, h4, hb⟩)
 have HP2 : Hid (∀ (W W2 : World) (V : Value) (A : Option Addr) (m c : Nat), WS W R V (adv s (q = true) []) → Below W.heap.size W W2 → Has W2 W2.heap.size A (encName l) → m = (encName l).length → m ≤ c → c ≤ maxLen → Calls Tryz.prog 125 #[.pointer (some ⟨R, 0, none⟩), .slice A m c] W2 (ab R W V (adv (adv s (q = true) []) True (encName l)))) := Y (fun W W2 V A m c hW hb hA hm hc hcm => (ct R V _ A (encName l) m c W2 (hW.on hb) hA hm hc hcm).mono (fun e w' hp => hp.ahead hb))
 clear h hT hl hB hsz hd hh hq hcm hb
 go_enter Tryz.func128, Tryz.ntmps128
 go_wp2_with (first | (go_at_call 90; refine HV.out.mono ?_; rintro e w1 ⟨rfl, hb1⟩; have HB1 := Y hb1; clear hb1) | (go_at_call 131; refine (HP1.out _ HB1.out).mono ?_; rintro e w2 ⟨rfl, v2, hs, hm⟩; have HS2 := Y hs; have HM2 := Y hm; clear hs hm) | (go_at_call 144; refine (HA.out _).mono ?_; rintro e w3 ⟨A3, m3, c3, rfl, q1, q2, q3, q4, q5⟩; have HPP := Y (HP2.out _ w3 _ A3 m3 c3 HS2.out q5 q4 q1 q2 q3); clear q1 q2 q3 q4 q5) | (go_at_call 125; refine HPP.out.mono ?_; rintro e w4 ⟨rfl, v4, hs, hm⟩))
 (first | go_end0 | refine bodyPost_ret (results_none rfl _ _ _) rfl ?_)
 rw [← HST.out]
 exact ⟨rfl, v4, hs, HM2.out.trans hm⟩
theorem dR (R : Nat) (v : Value) (s : Option (List UInt8)) (A : Option Addr) (y : List UInt8) (n c : Nat) (w : World) (h : WS w R v s) (hA : Has w w.heap.size A y) (hn : n = y.length) (hc : n ≤ c) (hcm : c ≤ maxLen) (hs : y ≠ [] → ∀ ad, A = some ad → ¬ (ad.block = R ∨ v.ownBlock = some ad.block)) :
  Calls Tryz.prog 135 #[.pointer (some ⟨R, 0, none⟩), .slice A n c] w (ab R w v (adv s True (Leb.encU n ++ y))) := by
 have hcm' := hcm
 unfold maxLen at hcm'
 have HST : Hid (adv (adv s True (Leb.encU n)) True y = adv s True (Leb.encU n ++ y)) := Y (by rw [ah]; exact aj (by simp) (fun _ => rfl))
 have HP1 := Y (be R v s n w h (by omega))
 have HP2 := Y (fun W V (hW : WS W R V (adv s True (Leb.encU n))) (hm : WMod R w v W V) => ct R V _ A y n c W hW (hA.wmod hm hs) hn hc hcm)
 clear h hA hn hs hcm
 go_enter Tryz.func135, Tryz.ntmps135
 go_wp2_with (first | (go_at_call 124; refine HP1.out.mono ?_; rintro e w1 ⟨rfl, v1, hs, hm⟩; have HPP := Y (HP2.out _ _ hs hm); have HM1 := Y hm; clear hs hm) | (go_at_call 125; refine HPP.out.mono ?_; rintro e w2 ⟨rfl, v2, hs, hm⟩))
 (first | go_end0 | refine bodyPost_ret (results_none rfl _ _ _) rfl ?_)
 rw [← HST.out]
 exact ⟨rfl, v2, hs, HM1.out.trans hm⟩
def Fit (xs : List I) : Prop := tot xs ≤ 900000000000 ∧ ∀ x ∈ xs, x.l.length < 4294967296
theorem okExpr_iff {xs : List I} (h : ∀ x ∈ xs, x.wf) : okExpr xs ↔ exprB xs = true := by
 unfold okExpr exprB
 rw [Bool.and_eq_true, beq_iff_eq]
 exact ⟨fun h => ⟨h.1, h.2.2⟩, fun h' => ⟨h'.1, h, h'.2⟩⟩
theorem dG (R : Nat) (v : Value) (s : Option (List UInt8)) (B : Option Addr) (xs : List I) (n cx : Nat) (w : World) (h : WS w R v s) (hX : HasI w (· < w.heap.size) B xs) (hn : n = xs.length) (hf : Fit xs) :
  Calls Tryz.prog 133 #[.pointer (some ⟨R, 0, none⟩), .slice B n cx] w (ab R w v (adv s (okExpr xs) (exprEnc xs))) := by
 subst hn
 have hwf := okExpr_iff hX.wf
 have HC := Y (gD none [] 0 B xs cx w (Has.nil _ _ _) hX hf.2 (by have := hf.1; simp; omega))
 have HLT := Y h.lt
 have HOL := Y h.own_lt
 unfold gB at HC
 have HWS := Y h
 obtain ⟨n, hn⟩ : ∃ n, xs.length = n := ⟨_, rfl⟩
 rw [hn] at HC ⊢
 by_cases he : exprB xs = true
 ·simp only [if_pos he] at HC
  have HST : Hid (adv (adv s (true = true) []) True (exprEnc xs) = adv s (okExpr xs) (exprEnc xs)) := Y (by rw [ah]; exact aj (by rw [hwf]; simp [he]) (fun _ => rfl))
  have HP1 : Hid (∀ W, Below w.heap.size w W → Calls Tryz.prog 131 #[.pointer (some ⟨R, 0, none⟩), .bool true] W (ab R W v (adv s (true = true) []))) := Y (fun W hW => aq R v s true W (HWS.out.on hW))
  have HP2 : Hid (∀ (W W2 : World) (V : Value) (A : Option Addr) (m c : Nat), WS W2 R V (adv s (true = true) []) → W.ownsRow w.heap.size 5 1 (.slice A m c) m (bytesOf (exprEnc xs)) → WMod R W v W2 V → Calls Tryz.prog 125 #[.pointer (some ⟨R, 0, none⟩), .slice A m c] W2 (ab R W2 V (adv (adv s (true = true) []) True (exprEnc xs)))) := Y (fun W W2 V A m c hW ho hm => by
   have ho2 := hm.1.own ho (fun k hk e => by
    have h1 := aw ho k hk
    rcases e with e | e
    ·have := HLT.out; omega
    ·have := HOL.out _ e; omega)
   obtain ⟨A', c', he, h1, h2, h3, _, h4⟩ := bR ho2
   injection he with he1 he2 he3
   subst he1
   subst he3
   exact ct R V _ A (exprEnc xs) m c W2 hW h4 h1 h2 h3)
  clear h hX hf hwf he hn
  go_enter Tryz.func133, Tryz.ntmps133
  go_wp2_with (first | (go_at_call 145; refine HC.out.mono ?_; rintro e w1 ⟨u, rfl, ho, hb⟩; obtain ⟨A1, c1, rfl, _, _, _, _, _⟩ := bR ho; have HO1 := Y ho; have HB1 := Y hb; clear ho hb; generalize ([] ++ exprEnc xs).length = m1 at HO1 ⊢) | (go_at_call 131; refine (HP1.out _ HB1.out).mono ?_; rintro e w2 ⟨rfl, v2, hs, hm⟩; have HPP := Y (HP2.out w1 w2 v2 A1 m1 c1 hs HO1.out hm); have HM2 := Y hm; clear hs hm) | (go_at_call 125; refine HPP.out.mono ?_; rintro e w3 ⟨rfl, v3, hs, hm⟩))
  (first | go_end0 | refine bodyPost_ret (results_none rfl _ _ _) rfl ?_)
  rw [← HST.out]
  exact ⟨rfl, v3, hs, (WMod.on v HB1.out).trans (HM2.out.trans hm)⟩
 ·simp only [if_neg he] at HC
  have HST : Hid (adv (adv s (false = true) []) True [] = adv s (okExpr xs) (exprEnc xs)) := Y (by rw [ah]; exact aj (by rw [hwf]; simp [he]) (fun h => absurd (hwf.1 h) he))
  have HP1 : Hid (∀ W, Below w.heap.size w W → Calls Tryz.prog 131 #[.pointer (some ⟨R, 0, none⟩), .bool false] W (ab R W v (adv s (false = true) []))) := Y (fun W hW => aq R v s false W (HWS.out.on hW))
  have HP2 : Hid (∀ (W2 : World) (V : Value), WS W2 R V (adv s (false = true) []) → Calls Tryz.prog 125 #[.pointer (some ⟨R, 0, none⟩), .slice none 0 0] W2 (ab R W2 V (adv (adv s (false = true) []) True []))) := Y (fun W2 V hW => ct R V _ none [] 0 0 W2 hW (Has.nil _ _ _) rfl (Nat.le_refl _) (by unfold maxLen; omega))
  clear h hX hf hwf he hn
  go_enter Tryz.func133, Tryz.ntmps133
  go_wp2_with (first | (go_at_call 145; refine HC.out.mono ?_; rintro e w1 ⟨rfl, hb⟩; have HB1 := Y hb; clear hb) | (go_at_call 131; refine (HP1.out _ HB1.out).mono ?_; rintro e w2 ⟨rfl, v2, hs, hm⟩; have HS2 := Y hs; have HM2 := Y hm; clear hs hm) | (go_at_call 125; refine (HP2.out _ _ HS2.out).mono ?_; rintro e w3 ⟨rfl, v3, hs, hm⟩))
  (first | go_end0 | refine bodyPost_ret (results_none rfl _ _ _) rfl ?_)
  rw [← HST.out]
  exact ⟨rfl, v3, hs, (WMod.on v HB1.out).trans (HM2.out.trans hm)⟩
theorem gS (R : Nat) (v : Value) (s : Option (List UInt8)) (g : Glob) (w : World) (h : WS w R v s)  :
  Calls Tryz.prog 130 #[.pointer (some ⟨R, 0, none⟩), .agg #[.int .u8 (g.t.toNat : Int), .bool g.mu]] w (ab R w v (adv s (okGlob g) (encGlob g))) := by
 have HST : Hid (adv (adv s (okT g.t) ([g.t])) (True) (encFlag g.mu) = adv s (okGlob g) (encGlob g)) := Y ((by rw [ah]; exact aj (by simp [okGlob]) (fun _ => rfl)))
 have HP1 : Hid (∀ (W : World) (V : Value), WS W R V (s) → Mod (R ≤ ·) w W → Calls Tryz.prog 127 #[.pointer (some ⟨R, 0, none⟩), .int .u8 (g.t.toNat : Int)] W (ab R W V (adv (s) (okT g.t) ([g.t])))) := Y (fun W V hW hM => fU R V _ g.t _ W hW rfl)
 have HP2 : Hid (∀ (W : World) (V : Value), WS W R V (adv s (okT g.t) ([g.t])) → Mod (R ≤ ·) w W → Calls Tryz.prog 132 #[.pointer (some ⟨R, 0, none⟩), .bool g.mu] W (ab R W V (adv (adv s (okT g.t) ([g.t])) (True) (encFlag g.mu)))) := Y (fun W V hW hM => cN R V _ g.mu W hW)
 have HW := Y h
 have tok1 : True := trivial
 have tok2 : True := trivial
 have HX0 : Hid ((w.alloc (.cells #[.int .u8 (g.t.toNat : Int), .bool g.mu] 59)).heap[w.heap.size]? = some (.cells #[.int .u8 (g.t.toNat : Int), .bool g.mu] 59 (0, 0))) := Y (heap_alloc_new w _)
 have HB0 : Hid (Below w.heap.size w (w.alloc (.cells #[.int .u8 (g.t.toNat : Int), .bool g.mu] 59))) := Y ((Below.refl _ _).alloc (Nat.le_refl _) _)
 have HS0 : Hid (WS (w.alloc (.cells #[.int .u8 (g.t.toNat : Int), .bool g.mu] 59)) R v s) := Y (h.alloc _)
 have HLT := Y h.lt
 have HOL := Y h.own_lt
 clear h
 go_enter Tryz.func130, Tryz.ntmps130
 go_upto_region 1 with fail
 generalize w.alloc (.cells #[.int .u8 (g.t.toNat : Int), .bool g.mu] 59) = w0 at HX0 HB0 HS0 ⊢
 have HM0 := Y (WMod.refl R w0 v)
 have HXB : Hid (∀ (W : World) (V : Value), WMod R w0 v W V → W.cell? ⟨w.heap.size, 0, none⟩ = some (.int .u8 (g.t.toNat : Int)) ∧ W.cell? ⟨w.heap.size, 1, none⟩ = some (.bool g.mu)) := Y (fun W V hm => by
  have hx := hm.1.heap HX0.out (fun e => by
   rcases e with e | e
   ·have := HLT.out; omega
   ·have := HOL.out _ e; omega)
  exact ⟨by rw [cell_of_row W _ 0 _ _ (0, 0) hx]; rfl, by rw [cell_of_row W _ 1 _ _ (0, 0) hx]; rfl⟩)
 obtain ⟨z0_0, z0_1⟩ := HXB.out _ _ HM0.out
 go_wp2_with (first | (go_at_call 127; clear tok1; refine (HP1.out _ _ HS0.out (((WMod.on v HB0.out).trans HM0.out).low HW.out)).mono ?_; rintro e w1 ⟨rfl, v1, hs, hm⟩; have HS1 := Y hs; have HM1 := Y (HM0.out.trans hm); clear hs hm; obtain ⟨z1_0, z1_1⟩ := HXB.out _ _ HM1.out) | (go_at_call 132; clear tok2; refine (HP2.out _ _ HS1.out (((WMod.on v HB0.out).trans HM1.out).low HW.out)).mono ?_; rintro e w2 ⟨rfl, v2, hs, hm⟩; have HS2 := Y hs; have HM2 := Y (HM1.out.trans hm); clear hs hm))
 (first | go_end0 | refine bodyPost_ret (results_none rfl _ _ _) rfl ?_)
 rw [← HST.out]
 exact ⟨rfl, _, HS2.out, (WMod.on v HB0.out).trans HM2.out⟩
theorem fE (R : Nat) (v : Value) (s : Option (List UInt8)) (a : Nat) (b : Int) (w : World) (h : WS w R v s) (ha : a < 4294967296) (hb0 : -9223372036854775808 ≤ b) (hb1 : b ≤ 9223372036854775807) :
  Calls Tryz.prog 99 #[.pointer (some ⟨R, 0, none⟩), .agg #[.int .u32 (a : Int), .int .i64 b]] w (ab R w v (adv s (okLim ⟨a, b⟩) (encLim ⟨a, b⟩))) := by
 obtain ⟨n, hn⟩ : ∃ n : Nat, IntKind.u32.wrap b = (n : Int) ∧ n < 4294967296 := by
  rw [IntKind.wrap_u32]
  exact ⟨(b % 4294967296).toNat, by omega, by omega⟩
 obtain ⟨hn, hn2⟩ := hn
 have hcase : b < -1 ∨ b = -1 ∨ (0 ≤ b ∧ b ≤ 4294967295) ∨ 4294967295 < b := by omega
 rcases hcase with h1 | h1 | ⟨h1, h2⟩ | h1
 ·have h3 : (b != -1) = true := by simp; omega
  have h4 : ¬ (-1 ≤ b) := by omega
  have h6 : ¬ b = -1 := by omega
  have HST : Hid (adv (adv (adv (adv s (false = true) ([])) (True) (encFlag true)) (True) (Leb.encU a)) (True) (Leb.encU n) = adv s (okLim ⟨a, b⟩) (encLim ⟨a, b⟩)) := Y ((by rw [ah, ah, ah]; exact aj (by simp [okLim]; omega) (fun h => by simp [okLim] at h; omega)))
  have HP1 : Hid (∀ (W : World) (V : Value), WS W R V (s) → Mod (R ≤ ·) w W → Calls Tryz.prog 131 #[.pointer (some ⟨R, 0, none⟩), .bool false] W (ab R W V (adv (s) (false = true) ([])))) := Y (fun W V hW hM => aq R V _ false W hW)
  have HP2 : Hid (∀ (W : World) (V : Value), WS W R V (adv s (false = true) ([])) → Mod (R ≤ ·) w W → Calls Tryz.prog 132 #[.pointer (some ⟨R, 0, none⟩), .bool true] W (ab R W V (adv (adv s (false = true) ([])) (True) (encFlag true)))) := Y (fun W V hW hM => cN R V _ true W hW)
  have HP3 : Hid (∀ (W : World) (V : Value), WS W R V (adv (adv s (false = true) ([])) (True) (encFlag true)) → Mod (R ≤ ·) w W → Calls Tryz.prog 96 #[.pointer (some ⟨R, 0, none⟩), .int .u32 (a : Int)] W (ab R W V (adv (adv (adv s (false = true) ([])) (True) (encFlag true)) (True) (Leb.encU a)))) := Y (fun W V hW hM => aU R V _ a W hW (ha))
  have HP4 : Hid (∀ (W : World) (V : Value), WS W R V (adv (adv (adv s (false = true) ([])) (True) (encFlag true)) (True) (Leb.encU a)) → Mod (R ≤ ·) w W → Calls Tryz.prog 96 #[.pointer (some ⟨R, 0, none⟩), .int .u32 (n : Int)] W (ab R W V (adv (adv (adv (adv s (false = true) ([])) (True) (encFlag true)) (True) (Leb.encU a)) (True) (Leb.encU n)))) := Y (fun W V hW hM => aU R V _ n W hW (hn2))
  have HW := Y h
  have tok1 : True := trivial
  have tok2 : True := trivial
  have tok3 : True := trivial
  have tok4 : True := trivial
  have HX0 : Hid ((w.alloc (.cells #[.int .u32 (a : Int), .int .i64 b] 57)).heap[w.heap.size]? = some (.cells #[.int .u32 (a : Int), .int .i64 b] 57 (0, 0))) := Y (heap_alloc_new w _)
  have HB0 : Hid (Below w.heap.size w (w.alloc (.cells #[.int .u32 (a : Int), .int .i64 b] 57))) := Y ((Below.refl _ _).alloc (Nat.le_refl _) _)
  have HS0 : Hid (WS (w.alloc (.cells #[.int .u32 (a : Int), .int .i64 b] 57)) R v s) := Y (h.alloc _)
  have HLT := Y h.lt
  have HOL := Y h.own_lt
  clear h ha hn2
  go_enter Tryz.func99, Tryz.ntmps99
  go_upto_region 1 with fail
  generalize w.alloc (.cells #[.int .u32 (a : Int), .int .i64 b] 57) = w0 at HX0 HB0 HS0 ⊢
  have HM0 := Y (WMod.refl R w0 v)
  have HXB : Hid (∀ (W : World) (V : Value), WMod R w0 v W V → W.cell? ⟨w.heap.size, 0, none⟩ = some (.int .u32 (a : Int)) ∧ W.cell? ⟨w.heap.size, 1, none⟩ = some (.int .i64 b)) := Y (fun W V hm => by
   have hx := hm.1.heap HX0.out (fun e => by
    rcases e with e | e
    ·have := HLT.out; omega
    ·have := HOL.out _ e; omega)
   exact ⟨by rw [cell_of_row W _ 0 _ _ (0, 0) hx]; rfl, by rw [cell_of_row W _ 1 _ _ (0, 0) hx]; rfl⟩)
  obtain ⟨z0_0, z0_1⟩ := HXB.out _ _ HM0.out
  go_wp2_with (first | (go_at_call 131; clear tok1; refine (HP1.out _ _ HS0.out (((WMod.on v HB0.out).trans HM0.out).low HW.out)).mono ?_; rintro e w1 ⟨rfl, v1, hs, hm⟩; have HS1 := Y hs; have HM1 := Y (HM0.out.trans hm); clear hs hm; obtain ⟨z1_0, z1_1⟩ := HXB.out _ _ HM1.out) | (go_at_call 132; clear tok2; refine (HP2.out _ _ HS1.out (((WMod.on v HB0.out).trans HM1.out).low HW.out)).mono ?_; rintro e w2 ⟨rfl, v2, hs, hm⟩; have HS2 := Y hs; have HM2 := Y (HM1.out.trans hm); clear hs hm; obtain ⟨z2_0, z2_1⟩ := HXB.out _ _ HM2.out) | (go_at_call 96; clear tok3; refine (HP3.out _ _ HS2.out (((WMod.on v HB0.out).trans HM2.out).low HW.out)).mono ?_; rintro e w3 ⟨rfl, v3, hs, hm⟩; have HS3 := Y hs; have HM3 := Y (HM2.out.trans hm); clear hs hm; obtain ⟨z3_0, z3_1⟩ := HXB.out _ _ HM3.out) | (go_at_call 96; clear tok4; refine (HP4.out _ _ HS3.out (((WMod.on v HB0.out).trans HM3.out).low HW.out)).mono ?_; rintro e w4 ⟨rfl, v4, hs, hm⟩; have HS4 := Y hs; have HM4 := Y (HM3.out.trans hm); clear hs hm))
  (first | go_end0 | refine bodyPost_ret (results_none rfl _ _ _) rfl ?_)
  rw [← HST.out]
  exact ⟨rfl, _, HS4.out, (WMod.on v HB0.out).trans HM4.out⟩
 ·clear hn
  have h3 : (b != -1) = false := by simp [h1]
  have h4 : -1 ≤ b := by omega
  have h5 : b ≤ 4294967295 := by omega
  have HST : Hid (adv (adv (adv s (true = true) ([])) (True) (encFlag false)) (True) (Leb.encU a) = adv s (okLim ⟨a, b⟩) (encLim ⟨a, b⟩)) := Y ((by rw [ah, ah]; exact aj (by simp [okLim]; omega) (fun _ => by simp [encLim, encFlag, h1])))
  have HP1 : Hid (∀ (W : World) (V : Value), WS W R V (s) → Mod (R ≤ ·) w W → Calls Tryz.prog 131 #[.pointer (some ⟨R, 0, none⟩), .bool true] W (ab R W V (adv (s) (true = true) ([])))) := Y (fun W V hW hM => aq R V _ true W hW)
  have HP2 : Hid (∀ (W : World) (V : Value), WS W R V (adv s (true = true) ([])) → Mod (R ≤ ·) w W → Calls Tryz.prog 132 #[.pointer (some ⟨R, 0, none⟩), .bool false] W (ab R W V (adv (adv s (true = true) ([])) (True) (encFlag false)))) := Y (fun W V hW hM => cN R V _ false W hW)
  have HP3 : Hid (∀ (W : World) (V : Value), WS W R V (adv (adv s (true = true) ([])) (True) (encFlag false)) → Mod (R ≤ ·) w W → Calls Tryz.prog 96 #[.pointer (some ⟨R, 0, none⟩), .int .u32 (a : Int)] W (ab R W V (adv (adv (adv s (true = true) ([])) (True) (encFlag false)) (True) (Leb.encU a)))) := Y (fun W V hW hM => aU R V _ a W hW (ha))
  have HW := Y h
  have tok1 : True := trivial
  have tok2 : True := trivial
  have tok3 : True := trivial
  have HX0 : Hid ((w.alloc (.cells #[.int .u32 (a : Int), .int .i64 b] 57)).heap[w.heap.size]? = some (.cells #[.int .u32 (a : Int), .int .i64 b] 57 (0, 0))) := Y (heap_alloc_new w _)
  have HB0 : Hid (Below w.heap.size w (w.alloc (.cells #[.int .u32 (a : Int), .int .i64 b] 57))) := Y ((Below.refl _ _).alloc (Nat.le_refl _) _)
  have HS0 : Hid (WS (w.alloc (.cells #[.int .u32 (a : Int), .int .i64 b] 57)) R v s) := Y (h.alloc _)
  have HLT := Y h.lt
  have HOL := Y h.own_lt
  clear h ha hn2 h1
  go_enter Tryz.func99, Tryz.ntmps99
  go_upto_region 1 with fail
  generalize w.alloc (.cells #[.int .u32 (a : Int), .int .i64 b] 57) = w0 at HX0 HB0 HS0 ⊢
  have HM0 := Y (WMod.refl R w0 v)
  have HXB : Hid (∀ (W : World) (V : Value), WMod R w0 v W V → W.cell? ⟨w.heap.size, 0, none⟩ = some (.int .u32 (a : Int)) ∧ W.cell? ⟨w.heap.size, 1, none⟩ = some (.int .i64 b)) := Y (fun W V hm => by
   have hx := hm.1.heap HX0.out (fun e => by
    rcases e with e | e
    ·have := HLT.out; omega
    ·have := HOL.out _ e; omega)
   exact ⟨by rw [cell_of_row W _ 0 _ _ (0, 0) hx]; rfl, by rw [cell_of_row W _ 1 _ _ (0, 0) hx]; rfl⟩)
  obtain ⟨z0_0, z0_1⟩ := HXB.out _ _ HM0.out
  go_wp2_with (first | (go_at_call 131; clear tok1; refine (HP1.out _ _ HS0.out (((WMod.on v HB0.out).trans HM0.out).low HW.out)).mono ?_; rintro e w1 ⟨rfl, v1, hs, hm⟩; have HS1 := Y hs; have HM1 := Y (HM0.out.trans hm); clear hs hm; obtain ⟨z1_0, z1_1⟩ := HXB.out _ _ HM1.out) | (go_at_call 132; clear tok2; refine (HP2.out _ _ HS1.out (((WMod.on v HB0.out).trans HM1.out).low HW.out)).mono ?_; rintro e w2 ⟨rfl, v2, hs, hm⟩; have HS2 := Y hs; have HM2 := Y (HM1.out.trans hm); clear hs hm; obtain ⟨z2_0, z2_1⟩ := HXB.out _ _ HM2.out) | (go_at_call 96; clear tok3; refine (HP3.out _ _ HS2.out (((WMod.on v HB0.out).trans HM2.out).low HW.out)).mono ?_; rintro e w3 ⟨rfl, v3, hs, hm⟩; have HS3 := Y hs; have HM3 := Y (HM2.out.trans hm); clear hs hm))
  (first | go_end0 | refine bodyPost_ret (results_none rfl _ _ _) rfl ?_)
  rw [← HST.out]
  exact ⟨rfl, _, HS3.out, (WMod.on v HB0.out).trans HM3.out⟩
 ·have h3 : (b != -1) = true := by simp; omega
  have h4 : -1 ≤ b := by omega
  have h6 : ¬ b = -1 := by omega
  have hnb : b.toNat = n := by rw [IntKind.wrap_u32] at hn; omega
  have HST : Hid (adv (adv (adv (adv s (true = true) ([])) (True) (encFlag true)) (True) (Leb.encU a)) (True) (Leb.encU n) = adv s (okLim ⟨a, b⟩) (encLim ⟨a, b⟩)) := Y ((by rw [ah, ah, ah]; exact aj (by simp [okLim]; omega) (fun _ => by simp [encLim, encFlag, h6, hnb])))
  have HP1 : Hid (∀ (W : World) (V : Value), WS W R V (s) → Mod (R ≤ ·) w W → Calls Tryz.prog 131 #[.pointer (some ⟨R, 0, none⟩), .bool true] W (ab R W V (adv (s) (true = true) ([])))) := Y (fun W V hW hM => aq R V _ true W hW)
  have HP2 : Hid (∀ (W : World) (V : Value), WS W R V (adv s (true = true) ([])) → Mod (R ≤ ·) w W → Calls Tryz.prog 132 #[.pointer (some ⟨R, 0, none⟩), .bool true] W (ab R W V (adv (adv s (true = true) ([])) (True) (encFlag true)))) := Y (fun W V hW hM => cN R V _ true W hW)
  have HP3 : Hid (∀ (W : World) (V : Value), WS W R V (adv (adv s (true = true) ([])) (True) (encFlag true)) → Mod (R ≤ ·) w W → Calls Tryz.prog 96 #[.pointer (some ⟨R, 0, none⟩), .int .u32 (a : Int)] W (ab R W V (adv (adv (adv s (true = true) ([])) (True) (encFlag true)) (True) (Leb.encU a)))) := Y (fun W V hW hM => aU R V _ a W hW (ha))
  have HP4 : Hid (∀ (W : World) (V : Value), WS W R V (adv (adv (adv s (true = true) ([])) (True) (encFlag true)) (True) (Leb.encU a)) → Mod (R ≤ ·) w W → Calls Tryz.prog 96 #[.pointer (some ⟨R, 0, none⟩), .int .u32 (n : Int)] W (ab R W V (adv (adv (adv (adv s (true = true) ([])) (True) (encFlag true)) (True) (Leb.encU a)) (True) (Leb.encU n)))) := Y (fun W V hW hM => aU R V _ n W hW (hn2))
  have HW := Y h
  have tok1 : True := trivial
  have tok2 : True := trivial
  have tok3 : True := trivial
  have tok4 : True := trivial
  have HX0 : Hid ((w.alloc (.cells #[.int .u32 (a : Int), .int .i64 b] 57)).heap[w.heap.size]? = some (.cells #[.int .u32 (a : Int), .int .i64 b] 57 (0, 0))) := Y (heap_alloc_new w _)
  have HB0 : Hid (Below w.heap.size w (w.alloc (.cells #[.int .u32 (a : Int), .int .i64 b] 57))) := Y ((Below.refl _ _).alloc (Nat.le_refl _) _)
  have HS0 : Hid (WS (w.alloc (.cells #[.int .u32 (a : Int), .int .i64 b] 57)) R v s) := Y (h.alloc _)
  have HLT := Y h.lt
  have HOL := Y h.own_lt
  clear h ha hn2 hnb
  go_enter Tryz.func99, Tryz.ntmps99
  go_upto_region 1 with fail
  generalize w.alloc (.cells #[.int .u32 (a : Int), .int .i64 b] 57) = w0 at HX0 HB0 HS0 ⊢
  have HM0 := Y (WMod.refl R w0 v)
  have HXB : Hid (∀ (W : World) (V : Value), WMod R w0 v W V → W.cell? ⟨w.heap.size, 0, none⟩ = some (.int .u32 (a : Int)) ∧ W.cell? ⟨w.heap.size, 1, none⟩ = some (.int .i64 b)) := Y (fun W V hm => by
   have hx := hm.1.heap HX0.out (fun e => by
    rcases e with e | e
    ·have := HLT.out; omega
    ·have := HOL.out _ e; omega)
   exact ⟨by rw [cell_of_row W _ 0 _ _ (0, 0) hx]; rfl, by rw [cell_of_row W _ 1 _ _ (0, 0) hx]; rfl⟩)
  obtain ⟨z0_0, z0_1⟩ := HXB.out _ _ HM0.out
  go_wp2_with (first | (go_at_call 131; clear tok1; refine (HP1.out _ _ HS0.out (((WMod.on v HB0.out).trans HM0.out).low HW.out)).mono ?_; rintro e w1 ⟨rfl, v1, hs, hm⟩; have HS1 := Y hs; have HM1 := Y (HM0.out.trans hm); clear hs hm; obtain ⟨z1_0, z1_1⟩ := HXB.out _ _ HM1.out) | (go_at_call 132; clear tok2; refine (HP2.out _ _ HS1.out (((WMod.on v HB0.out).trans HM1.out).low HW.out)).mono ?_; rintro e w2 ⟨rfl, v2, hs, hm⟩; have HS2 := Y hs; have HM2 := Y (HM1.out.trans hm); clear hs hm; obtain ⟨z2_0, z2_1⟩ := HXB.out _ _ HM2.out) | (go_at_call 96; clear tok3; refine (HP3.out _ _ HS2.out (((WMod.on v HB0.out).trans HM2.out).low HW.out)).mono ?_; rintro e w3 ⟨rfl, v3, hs, hm⟩; have HS3 := Y hs; have HM3 := Y (HM2.out.trans hm); clear hs hm; obtain ⟨z3_0, z3_1⟩ := HXB.out _ _ HM3.out) | (go_at_call 96; clear tok4; refine (HP4.out _ _ HS3.out (((WMod.on v HB0.out).trans HM3.out).low HW.out)).mono ?_; rintro e w4 ⟨rfl, v4, hs, hm⟩; have HS4 := Y hs; have HM4 := Y (HM3.out.trans hm); clear hs hm))
  (first | go_end0 | refine bodyPost_ret (results_none rfl _ _ _) rfl ?_)
  rw [← HST.out]
  exact ⟨rfl, _, HS4.out, (WMod.on v HB0.out).trans HM4.out⟩
 ·have h3 : (b != -1) = true := by simp; omega
  have h4 : -1 ≤ b := by omega
  have h6 : ¬ b = -1 := by omega
  have h2 : ¬ b ≤ 4294967295 := by omega
  have HST : Hid (adv (adv (adv (adv s (false = true) ([])) (True) (encFlag true)) (True) (Leb.encU a)) (True) (Leb.encU n) = adv s (okLim ⟨a, b⟩) (encLim ⟨a, b⟩)) := Y ((by rw [ah, ah, ah]; exact aj (by simp [okLim]; omega) (fun h => by simp [okLim] at h; omega)))
  have HP1 : Hid (∀ (W : World) (V : Value), WS W R V (s) → Mod (R ≤ ·) w W → Calls Tryz.prog 131 #[.pointer (some ⟨R, 0, none⟩), .bool false] W (ab R W V (adv (s) (false = true) ([])))) := Y (fun W V hW hM => aq R V _ false W hW)
  have HP2 : Hid (∀ (W : World) (V : Value), WS W R V (adv s (false = true) ([])) → Mod (R ≤ ·) w W → Calls Tryz.prog 132 #[.pointer (some ⟨R, 0, none⟩), .bool true] W (ab R W V (adv (adv s (false = true) ([])) (True) (encFlag true)))) := Y (fun W V hW hM => cN R V _ true W hW)
  have HP3 : Hid (∀ (W : World) (V : Value), WS W R V (adv (adv s (false = true) ([])) (True) (encFlag true)) → Mod (R ≤ ·) w W → Calls Tryz.prog 96 #[.pointer (some ⟨R, 0, none⟩), .int .u32 (a : Int)] W (ab R W V (adv (adv (adv s (false = true) ([])) (True) (encFlag true)) (True) (Leb.encU a)))) := Y (fun W V hW hM => aU R V _ a W hW (ha))
  have HP4 : Hid (∀ (W : World) (V : Value), WS W R V (adv (adv (adv s (false = true) ([])) (True) (encFlag true)) (True) (Leb.encU a)) → Mod (R ≤ ·) w W → Calls Tryz.prog 96 #[.pointer (some ⟨R, 0, none⟩), .int .u32 (n : Int)] W (ab R W V (adv (adv (adv (adv s (false = true) ([])) (True) (encFlag true)) (True) (Leb.encU a)) (True) (Leb.encU n)))) := Y (fun W V hW hM => aU R V _ n W hW (hn2))
  have HW := Y h
  have tok1 : True := trivial
  have tok2 : True := trivial
  have tok3 : True := trivial
  have tok4 : True := trivial
  have HX0 : Hid ((w.alloc (.cells #[.int .u32 (a : Int), .int .i64 b] 57)).heap[w.heap.size]? = some (.cells #[.int .u32 (a : Int), .int .i64 b] 57 (0, 0))) := Y (heap_alloc_new w _)
  have HB0 : Hid (Below w.heap.size w (w.alloc (.cells #[.int .u32 (a : Int), .int .i64 b] 57))) := Y ((Below.refl _ _).alloc (Nat.le_refl _) _)
  have HS0 : Hid (WS (w.alloc (.cells #[.int .u32 (a : Int), .int .i64 b] 57)) R v s) := Y (h.alloc _)
  have HLT := Y h.lt
  have HOL := Y h.own_lt
  clear h ha hn2
  go_enter Tryz.func99, Tryz.ntmps99
  go_upto_region 1 with fail
  generalize w.alloc (.cells #[.int .u32 (a : Int), .int .i64 b] 57) = w0 at HX0 HB0 HS0 ⊢
  have HM0 := Y (WMod.refl R w0 v)
  have HXB : Hid (∀ (W : World) (V : Value), WMod R w0 v W V → W.cell? ⟨w.heap.size, 0, none⟩ = some (.int .u32 (a : Int)) ∧ W.cell? ⟨w.heap.size, 1, none⟩ = some (.int .i64 b)) := Y (fun W V hm => by
   have hx := hm.1.heap HX0.out (fun e => by
    rcases e with e | e
    ·have := HLT.out; omega
    ·have := HOL.out _ e; omega)
   exact ⟨by rw [cell_of_row W _ 0 _ _ (0, 0) hx]; rfl, by rw [cell_of_row W _ 1 _ _ (0, 0) hx]; rfl⟩)
  obtain ⟨z0_0, z0_1⟩ := HXB.out _ _ HM0.out
  go_wp2_with (first | (go_at_call 131; clear tok1; refine (HP1.out _ _ HS0.out (((WMod.on v HB0.out).trans HM0.out).low HW.out)).mono ?_; rintro e w1 ⟨rfl, v1, hs, hm⟩; have HS1 := Y hs; have HM1 := Y (HM0.out.trans hm); clear hs hm; obtain ⟨z1_0, z1_1⟩ := HXB.out _ _ HM1.out) | (go_at_call 132; clear tok2; refine (HP2.out _ _ HS1.out (((WMod.on v HB0.out).trans HM1.out).low HW.out)).mono ?_; rintro e w2 ⟨rfl, v2, hs, hm⟩; have HS2 := Y hs; have HM2 := Y (HM1.out.trans hm); clear hs hm; obtain ⟨z2_0, z2_1⟩ := HXB.out _ _ HM2.out) | (go_at_call 96; clear tok3; refine (HP3.out _ _ HS2.out (((WMod.on v HB0.out).trans HM2.out).low HW.out)).mono ?_; rintro e w3 ⟨rfl, v3, hs, hm⟩; have HS3 := Y hs; have HM3 := Y (HM2.out.trans hm); clear hs hm; obtain ⟨z3_0, z3_1⟩ := HXB.out _ _ HM3.out) | (go_at_call 96; clear tok4; refine (HP4.out _ _ HS3.out (((WMod.on v HB0.out).trans HM3.out).low HW.out)).mono ?_; rintro e w4 ⟨rfl, v4, hs, hm⟩; have HS4 := Y hs; have HM4 := Y (HM3.out.trans hm); clear hs hm))
  (first | go_end0 | refine bodyPost_ret (results_none rfl _ _ _) rfl ?_)
  rw [← HST.out]
  exact ⟨rfl, _, HS4.out, (WMod.on v HB0.out).trans HM4.out⟩
theorem etab_any (R : Nat) (v : Value) (s : Option (List UInt8)) (a : Nat) (b : Int) (w : World) (h : WS w R v s) (ha : a < 4294967296) (hb0 : -9223372036854775808 ≤ b) (hb1 : b ≤ 9223372036854775807) :
  Calls Tryz.prog 98 #[.pointer (some ⟨R, 0, none⟩), .agg #[.int .u32 (a : Int), .int .i64 b]] w (ab R w v (adv s (okLim ⟨a, b⟩) (encTable ⟨a, b⟩))) := by
 have HST : Hid (adv (adv s (True) ([112])) (okLim ⟨a, b⟩) (encLim ⟨a, b⟩) = adv s (okLim ⟨a, b⟩) (encTable ⟨a, b⟩)) := Y ((by rw [ah]; exact aj (by simp) (fun _ => rfl)))
 have HP1 : Hid (∀ (W : World) (V : Value), WS W R V (s) → Mod (R ≤ ·) w W → Calls Tryz.prog 125 #[.pointer (some ⟨R, 0, none⟩), .slice (some ⟨W.heap.size, 0, none⟩) 1 1] (W.alloc (.cells #[.int .u8 (112)] 5)) (ab R W V (adv (s) (True) ([112])))) := Y (fun W V hW hM => bv R V _ (112) (112) (rfl) W hW)
 have HP2 : Hid (∀ (W : World) (V : Value), WS W R V (adv s (True) ([112])) → Mod (R ≤ ·) w W → Calls Tryz.prog 99 #[.pointer (some ⟨R, 0, none⟩), .agg #[.int .u32 (a : Int), .int .i64 b]] W (ab R W V (adv (adv s (True) ([112])) (okLim ⟨a, b⟩) (encLim ⟨a, b⟩)))) := Y (fun W V hW hM => fE R V _ a b W hW ha hb0 hb1)
 have HW := Y h
 have tok1 : True := trivial
 have tok2 : True := trivial
 have HX0 : Hid ((w.alloc (.cells #[.int .u32 (a : Int), .int .i64 b] 57)).heap[w.heap.size]? = some (.cells #[.int .u32 (a : Int), .int .i64 b] 57 (0, 0))) := Y (heap_alloc_new w _)
 have HB0 : Hid (Below w.heap.size w (w.alloc (.cells #[.int .u32 (a : Int), .int .i64 b] 57))) := Y ((Below.refl _ _).alloc (Nat.le_refl _) _)
 have HS0 : Hid (WS (w.alloc (.cells #[.int .u32 (a : Int), .int .i64 b] 57)) R v s) := Y (h.alloc _)
 have HLT := Y h.lt
 have HOL := Y h.own_lt
 clear h ha hb0 hb1
 go_enter Tryz.func98, Tryz.ntmps98
 go_upto_region 1 with fail
 generalize w.alloc (.cells #[.int .u32 (a : Int), .int .i64 b] 57) = w0 at HX0 HB0 HS0 ⊢
 have HM0 := Y (WMod.refl R w0 v)
 have HXB : Hid (∀ (W : World) (V : Value), WMod R w0 v W V → W.cell? ⟨w.heap.size, 0, none⟩ = some (.int .u32 (a : Int)) ∧ W.cell? ⟨w.heap.size, 1, none⟩ = some (.int .i64 b)) := Y (fun W V hm => by
  have hx := hm.1.heap HX0.out (fun e => by
   rcases e with e | e
   ·have := HLT.out; omega
   ·have := HOL.out _ e; omega)
  exact ⟨by rw [cell_of_row W _ 0 _ _ (0, 0) hx]; rfl, by rw [cell_of_row W _ 1 _ _ (0, 0) hx]; rfl⟩)
 obtain ⟨z0_0, z0_1⟩ := HXB.out _ _ HM0.out
 go_wp2_with (first | (go_at_call 125; clear tok1; refine (HP1.out _ _ HS0.out (((WMod.on v HB0.out).trans HM0.out).low HW.out)).mono ?_; rintro e w1 ⟨rfl, v1, hs, hm⟩; have HS1 := Y hs; have HM1 := Y (HM0.out.trans hm); clear hs hm; obtain ⟨z1_0, z1_1⟩ := HXB.out _ _ HM1.out) | (go_at_call 99; clear tok2; refine (HP2.out _ _ HS1.out (((WMod.on v HB0.out).trans HM1.out).low HW.out)).mono ?_; rintro e w2 ⟨rfl, v2, hs, hm⟩; have HS2 := Y hs; have HM2 := Y (HM1.out.trans hm); clear hs hm))
 (first | go_end0 | refine bodyPost_ret (results_none rfl _ _ _) rfl ?_)
 rw [← HST.out]
 exact ⟨rfl, _, HS2.out, (WMod.on v HB0.out).trans HM2.out⟩
theorem elocal_any (R : Nat) (v : Value) (s : Option (List UInt8)) (x : Lc) (w : World) (h : WS w R v s) (hx : x.n < 4294967296) :
  Calls Tryz.prog 147 #[.pointer (some ⟨R, 0, none⟩), .agg #[.int .u32 (x.n : Int), .int .u8 (x.t.toNat : Int)]] w (ab R w v (adv s (okLc x) (encLc x))) := by
 have HST : Hid (adv (adv s (True) (Leb.encU x.n)) (okT x.t) ([x.t]) = adv s (okLc x) (encLc x)) := Y ((by rw [ah]; exact aj (by simp [okLc, okNum, hx]) (fun _ => rfl)))
 have HP1 : Hid (∀ (W : World) (V : Value), WS W R V (s) → Mod (R ≤ ·) w W → Calls Tryz.prog 96 #[.pointer (some ⟨R, 0, none⟩), .int .u32 (x.n : Int)] W (ab R W V (adv (s) (True) (Leb.encU x.n)))) := Y (fun W V hW hM => aU R V _ x.n W hW (hx))
 have HP2 : Hid (∀ (W : World) (V : Value), WS W R V (adv s (True) (Leb.encU x.n)) → Mod (R ≤ ·) w W → Calls Tryz.prog 127 #[.pointer (some ⟨R, 0, none⟩), .int .u8 (x.t.toNat : Int)] W (ab R W V (adv (adv s (True) (Leb.encU x.n)) (okT x.t) ([x.t])))) := Y (fun W V hW hM => fU R V _ x.t _ W hW rfl)
 have HW := Y h
 have tok1 : True := trivial
 have tok2 : True := trivial
 have HX0 : Hid ((w.alloc (.cells #[.int .u32 (x.n : Int), .int .u8 (x.t.toNat : Int)] 121)).heap[w.heap.size]? = some (.cells #[.int .u32 (x.n : Int), .int .u8 (x.t.toNat : Int)] 121 (0, 0))) := Y (heap_alloc_new w _)
 have HB0 : Hid (Below w.heap.size w (w.alloc (.cells #[.int .u32 (x.n : Int), .int .u8 (x.t.toNat : Int)] 121))) := Y ((Below.refl _ _).alloc (Nat.le_refl _) _)
 have HS0 : Hid (WS (w.alloc (.cells #[.int .u32 (x.n : Int), .int .u8 (x.t.toNat : Int)] 121)) R v s) := Y (h.alloc _)
 have HLT := Y h.lt
 have HOL := Y h.own_lt
 clear h hx
 go_enter Tryz.func147, Tryz.ntmps147
 go_upto_region 1 with fail
 generalize w.alloc (.cells #[.int .u32 (x.n : Int), .int .u8 (x.t.toNat : Int)] 121) = w0 at HX0 HB0 HS0 ⊢
 have HM0 := Y (WMod.refl R w0 v)
 have HXB : Hid (∀ (W : World) (V : Value), WMod R w0 v W V → W.cell? ⟨w.heap.size, 0, none⟩ = some (.int .u32 (x.n : Int)) ∧ W.cell? ⟨w.heap.size, 1, none⟩ = some (.int .u8 (x.t.toNat : Int))) := Y (fun W V hm => by
  have hx := hm.1.heap HX0.out (fun e => by
   rcases e with e | e
   ·have := HLT.out; omega
   ·have := HOL.out _ e; omega)
  exact ⟨by rw [cell_of_row W _ 0 _ _ (0, 0) hx]; rfl, by rw [cell_of_row W _ 1 _ _ (0, 0) hx]; rfl⟩)
 obtain ⟨z0_0, z0_1⟩ := HXB.out _ _ HM0.out
 go_wp2_with (first | (go_at_call 96; clear tok1; refine (HP1.out _ _ HS0.out (((WMod.on v HB0.out).trans HM0.out).low HW.out)).mono ?_; rintro e w1 ⟨rfl, v1, hs, hm⟩; have HS1 := Y hs; have HM1 := Y (HM0.out.trans hm); clear hs hm; obtain ⟨z1_0, z1_1⟩ := HXB.out _ _ HM1.out) | (go_at_call 127; clear tok2; refine (HP2.out _ _ HS1.out (((WMod.on v HB0.out).trans HM1.out).low HW.out)).mono ?_; rintro e w2 ⟨rfl, v2, hs, hm⟩; have HS2 := Y hs; have HM2 := Y (HM1.out.trans hm); clear hs hm))
 (first | go_end0 | refine bodyPost_ret (results_none rfl _ _ _) rfl ?_)
 rw [← HST.out]
 exact ⟨rfl, _, HS2.out, (WMod.on v HB0.out).trans HM2.out⟩
end Go.Proofs.YthkglmkpnhhboaaGreatDoor
