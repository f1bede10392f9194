/-
  Layer 6's readers, as the program's are put together; what lists of bytes and of numbers tell; the types of records.
-/
import Derived.Test.YthkglmkpnhhboaaGreatDoorR01
import Derived.Test.YthkglmkpnhhboaaGreatDoorR35
import Derived.Test.YthkglmkpnhhboaaGreatDoorR36
import Derived.Deep.Cut
set_option maxRecDepth 100000
set_option maxHeartbeats 4000000
namespace Bin
open Ins
theorem aW {α β γ : Type} (p : P α) (f : α → P β) (g : β → P γ) : (p.then f).then g = p.then fun a => (f a).then g := by
 funext l
 unfold P.then
 cases p l with
 | error e => rfl
 | ok q =>
  obtain ⟨a, k⟩ := q
  dsimp only
  cases f a (l.drop k) with
  | error e => rfl
  | ok q =>
   obtain ⟨b, j⟩ := q
   dsimp only
   rw [List.drop_drop]
   cases g b (l.drop (k + j)) with
   | error e => rfl
   | ok q =>
    obtain ⟨c, i⟩ := q
    dsimp only
    rw [Nat.add_assoc]
theorem cP {α β : Type} (a : α) (f : α → P β) : (P.ret a).then f = f a := by
 funext l
 unfold P.then P.ret
 dsimp only
 rw [List.drop_zero]
 cases f a l with
 | error e => rfl
 | ok q => obtain ⟨b, j⟩ := q; dsimp only; rw [Nat.zero_add]
theorem then_ret {α : Type} (p : P α) : p.then P.ret = p := by
 funext l
 unfold P.then P.ret
 cases p l <;> rfl
theorem cL {α β : Type} (e : Nat) (f : α → P β) : (P.fail e).then f = P.fail e := rfl
theorem dF {α β : Type} (c : Prop) [Decidable c] (p q : P α) (f : α → P β) : (if c then p else q).then f = if c then p.then f else q.then f := by split <;> rfl
theorem aF {α β : Type} (p : P α) {f g : α → P β} (h : ∀ a, f a = g a) : p.then f = p.then g := by
 rw [show f = g from funext h]
theorem cE (x : UInt8) (n : Nat) (h : n < 256) : x = UInt8.ofNat n ↔ x.toNat = n := by
 constructor
 ·rintro rfl
  simp
  omega
 ·rintro rfl
  simp
theorem flag_eq : flag = (upP 1).then fun m => P.ret (decide (m = 1)) := by
 unfold flag upP
 rw [aW]
 refine aF _ fun x => ?_
 rw [dF]
 by_cases h0 : x = 0
 ·subst h0; rfl
 by_cases h1 : x = 1
 ·subst h1; rfl
 have : ¬ x.toNat ≤ 1 := by
  have e0 := mt (cE x 0 (by omega)).2 h0
  have e1 := mt (cE x 1 (by omega)).2 h1
  omega
 rw [if_neg h0, if_neg h1, if_neg this]
 rfl
theorem fW : table = (mustP 112).then fun _ => lim.then fun x => P.ret x := by
 unfold table mustP
 rw [aW]
 refine aF _ fun x => ?_
 rw [dF, show (lim.then fun x => P.ret x) = lim from then_ret lim, cP, cL]
 by_cases h : x = 112
 ·subst h; rfl
 ·rw [if_neg h, if_neg (mt (cE x 112 (by omega)).2 h)]
theorem gA : lim = (upP 1).then fun m => num.then fun a => if decide (m = 1) = true then num.then fun b => P.ret ⟨a, b⟩ else P.ret ⟨a, -1⟩ := by
 unfold lim
 rw [flag_eq, aW]
 refine aF _ fun m => ?_
 rw [cP]
theorem fv : glob = value.then fun t => (upP 1).then fun m => P.ret ⟨t, decide (m = 1)⟩ := by
 unfold glob
 rw [flag_eq]
 refine aF _ fun t => ?_
 rw [aW]
 rfl
theorem ft_eq : ft = (mustP 96).then fun _ => (list value).then fun p => (list value).then fun r => P.ret ⟨p, r⟩ := by
 unfold ft mustP
 rw [aW]
 refine aF _ fun x => ?_
 rw [dF, cP, cL]
 by_cases h : x = 96
 ·subst h; rfl
 ·rw [if_neg h, if_neg (mt (cE x 96 (by omega)).2 h)]
theorem jk : exp = name.then fun a => (upP 3).then fun k => num.then fun i => P.ret ⟨a, k, i⟩ := by
 unfold exp
 refine aF _ fun a => ?_
 unfold upP
 rw [aW]
 refine aF _ fun x => ?_
 rw [dF, cP, cL]
def takeP (n : Nat) : P (List UInt8) := fun l => if n ≤ l.length then .ok (l.take n, n) else .error 60
theorem iz : da = num.then fun m => expr.then fun e => num.then fun n => (takeP n).then fun b => P.ret ⟨m, e, b⟩ := by
 unfold da
 refine aF _ fun m => aF _ fun e => ?_
 unfold part
 rw [aW]
 rfl
theorem cv : imp = name.then fun a => name.then fun b => (upP 3).then fun k =>
  if k = 0 then num.then fun t => P.ret ⟨a, b, 0, t, ⟨0, 0⟩, ⟨0, false⟩⟩
  else if k = 1 then table.then fun t => P.ret ⟨a, b, 1, 0, t, ⟨0, false⟩⟩
  else if k = 2 then lim.then fun t => P.ret ⟨a, b, 2, 0, t, ⟨0, false⟩⟩
  else glob.then fun t => P.ret ⟨a, b, 3, 0, ⟨0, 0⟩, t⟩ := by
 unfold imp
 refine aF _ fun a => aF _ fun b => ?_
 unfold upP
 rw [aW]
 refine aF _ fun x => ?_
 rw [dF, cP, cL]
 by_cases h0 : x = 0
 ·subst h0; rfl
 by_cases h1 : x = 1
 ·subst h1; rfl
 by_cases h2 : x = 2
 ·subst h2; rfl
 by_cases h3 : x = 3
 ·subst h3; rfl
 have : ¬ x.toNat ≤ 3 := by
  have e0 := mt (cE x 0 (by omega)).2 h0
  have e1 := mt (cE x 1 (by omega)).2 h1
  have e2 := mt (cE x 2 (by omega)).2 h2
  have e3 := mt (cE x 3 (by omega)).2 h3
  omega
 rw [if_neg h0, if_neg h1, if_neg h2, if_neg h3, if_neg this]
theorem upP_ok {n : Nat} {l : List UInt8} {x : UInt8} {k : Nat} (h : upP n l = .ok (x, k)) : x.toNat ≤ n := by
 obtain ⟨y, i, j, _, h2, _⟩ := P.then_ok h
 split at h2
 ·next hy => obtain ⟨rfl, _⟩ := aA h2; exact hy
 ·cases h2
theorem up1 {l : List UInt8} {x : UInt8} {k : Nat} (h : upP 1 l = .ok (x, k)) : x = 0 ∨ x = 1 := by
 have := upP_ok h
 have h0 : x.toNat = 0 ∨ x.toNat = 1 := by omega
 rcases h0 with h | h
 ·exact .inl ((cE x 0 (by omega)).2 h)
 ·exact .inr ((cE x 1 (by omega)).2 h)
theorem up3 {l : List UInt8} {x : UInt8} {k : Nat} (h : upP 3 l = .ok (x, k)) : x = 0 ∨ x = 1 ∨ x = 2 ∨ x = 3 := by
 have := upP_ok h
 have h0 : x.toNat = 0 ∨ x.toNat = 1 ∨ x.toNat = 2 ∨ x.toNat = 3 := by omega
 rcases h0 with h | h | h | h
 ·exact .inl ((cE x 0 (by omega)).2 h)
 ·exact .inr (.inl ((cE x 1 (by omega)).2 h))
 ·exact .inr (.inr (.inl ((cE x 2 (by omega)).2 h)))
 ·exact .inr (.inr (.inr ((cE x 3 (by omega)).2 h)))
end Bin
namespace Go.Proofs.YthkglmkpnhhboaaGreatDoor
open Go.RowKit Ins Bin
theorem ap.mono {α : Type} {R : Nat} {w : World} {l : List UInt8} {r : Except Nat (α × Nat)} {f g : World → α → Value → Prop} {e : Ending} {w' : World} (h : ap R w l r f e w') (hf : ∀ w' x v, f w' x v → g w' x v) : ap R w l r g e w' := by
 unfold ap at h ⊢
 cases r with
 | error k => exact h
 | ok q =>
  obtain ⟨x, n⟩ := q
  obtain ⟨v, h1, h2, h3⟩ := h
  exact ⟨v, h1, hf _ _ _ h2, h3⟩
theorem vals_ok (R : Nat) (l : List UInt8) (w : World) (hR : Rb w R l) (hT : Tb w) :
  Calls Tryz.prog 115 #[.pointer (some ⟨R, 0, none⟩), .func (.func 116) #[] #[]] w (ap R w l (list value l) fun w' xs v => J w' (w.heap.size ≤ ·) xs v) :=
 vals_any value R l w hR hT fun l' W hR' _ => (dX R l' W hR').mono fun _ _ h => h.mono (by rintro _ x v rfl; rfl)
theorem nums_ok (R : Nat) (l : List UInt8) (w : World) (hR : Rb w R l) (hT : Tb w) :
  Calls Tryz.prog 72 #[.pointer (some ⟨R, 0, none⟩), .func (.func 73) #[] #[]] w (ap R w l (list num l) fun w' xs v => J w' (w.heap.size ≤ ·) xs v) :=
 nums_any num R l w hR hT fun l' W hR' _ => (ar R l' W hR').mono fun _ _ h => h.mono (by rintro _ x v ⟨rfl, hx⟩; exact ⟨rfl, hx⟩)
def TellG (_ : World) (x : Glob) (v : Value) : Prop := v = .agg #[.int .u8 (x.t.toNat : Int), .bool x.mu]
theorem desOf {T : TypeId} (h : (Tryz.prog.underlying T).map aggI = some true) : ∃ d, Tryz.prog.underlying T = some d ∧ aggI d = true := by
 obtain ⟨d, h1, h2⟩ := Option.map_eq_some_iff.1 h
 exact ⟨d, h1, h2⟩
theorem gL : (Tryz.prog.underlying 59).map aggI = some true := by kernel_rfl
theorem bV : (Tryz.prog.info? 59).map (·.size) = some 2 := by kernel_rfl
theorem hI (R : Nat) (l : List UInt8) (w : World) (hR : Rb w R l) (hT : Tb w) :
  Calls Tryz.prog 119 #[.pointer (some ⟨R, 0, none⟩)] w (ap R w l (glob l) TellG) := by
 obtain ⟨D, hu, hd⟩ := desOf gL
 have HU := Y hu
 have HD := Y hd
 have HLT := Y hR.lt
 have HR0 : Hid (Rb (w.alloc (.cells #[.int .u8 0, .bool false] 59)) R l) := Y (hR.alloc _)
 have HT0 : Hid (Tb (w.alloc (.cells #[.int .u8 0, .bool false] 59))) := Y (hT.on ((Below.refl _ _).alloc (Nat.le_refl _) _))
 have HM0 : Hid (Mod (· = R) w (w.alloc (.cells #[.int .u8 0, .bool false] 59))) := Y ((Mod.refl _ w).alloc _)
 have HZ0 : Hid ((w.alloc (.cells #[.int .u8 0, .bool false] 59)).heap[w.heap.size]? = some (.cells #[.int .u8 0, .bool false] 59 (0, 0))) := Y (heap_alloc_new w _)
 have HS0 : Hid (w.heap.size + 1 ≤ (w.alloc (.cells #[.int .u8 0, .bool false] 59)).heap.size) := Y (by simp)
 clear hu hd hR hT
 have HC1 := Y (fun W (hW : Rb W R l) (hTW : Tb W) => dX R l W hW)
 cases h1 : (value) l with
 | error e1 =>
  have HE : Hid (glob l = .error e1) := Y (by rw [fv]; exact ak h1)
  simp only [h1] at HC1
  clear h1
  have tok1 : True := trivial
  go_enter Tryz.func119, Tryz.ntmps119
  go_wp2_with (first | (go_at_call 116; clear tok1; refine (HC1.out _ HR0.out HT0.out).mono ?_; rintro e w1 ⟨rfl, hm⟩))
  rw [HE.out]
  exact ⟨rfl, rfl, HM0.out.trans hm (fun _ _ h => h)⟩
 | ok q1 =>
  obtain ⟨x1, k1⟩ := q1
  simp only [h1] at HC1
  have HE1 := Y h1
  clear h1
  obtain ⟨l1, hl1⟩ : ∃ l1, l.drop k1 = l1 := ⟨_, rfl⟩
  have HL1 := Y hl1
  clear hl1
  have HC2 := Y (fun W (hW : Rb W R l1) (hTW : Tb W) => dD 1 1 rfl R l1 W hW)
  cases h2 : (upP 1) l1 with
  | error e2 =>
   have HE : Hid (glob l = .error e2) := Y (by rw [fv]; exact ag HE1.out HL1.out (ak h2))
   simp only [h2] at HC2
   clear h2
   have tok1 : True := trivial
   have tok2 : True := trivial
   go_enter Tryz.func119, Tryz.ntmps119
   go_wp2_with (first | (go_at_call 116; clear tok1; refine (HC1.out _ HR0.out HT0.out).mono ?_; rintro e w1 ⟨v, rfl, hv, hr, hm⟩; obtain rfl : v = .int .u8 (x1.toNat : Int) := hv; obtain ⟨HR1, HT1, HS1, HZ1, HM1⟩ := bs HL1 hr HT0 HR0 hm HS0 HZ0 HLT HM0; clear hr hm) | (go_at_call 118; clear tok2; refine (HC2.out _ HR1.out HT1.out).mono ?_; rintro e w2 ⟨rfl, hm⟩))
   rw [HE.out]
   exact ⟨rfl, rfl, HM1.out.trans hm (fun _ _ h => h)⟩
  | ok q2 =>
   obtain ⟨x2, k2⟩ := q2
   simp only [h2] at HC2
   have hup := up1 h2
   have HE2 := Y h2
   clear h2
   obtain ⟨l2, hl2⟩ : ∃ l2, l1.drop k2 = l2 := ⟨_, rfl⟩
   have HL2 := Y hl2
   clear hl2
   rcases hup with rfl | rfl
   ·have HE : Hid (glob l = .ok (_, k1 + (k2 + 0))) := Y (by rw [fv]; exact ae HE1.out HL1.out (ae HE2.out HL2.out (ay _ _)))
    have HLD : Hid (l.drop (k1 + (k2 + 0)) = l2) := Y (by rw [Nat.add_zero, ← List.drop_drop, HL1.out, HL2.out])
    have tok1 : True := trivial
    have tok2 : True := trivial
    go_enter Tryz.func119, Tryz.ntmps119
    go_wp2_with (first | (go_at_call 116; clear tok1; refine (HC1.out _ HR0.out HT0.out).mono ?_; rintro e w1 ⟨v, rfl, hv, hr, hm⟩; obtain rfl : v = .int .u8 (x1.toNat : Int) := hv; obtain ⟨HR1, HT1, HS1, HZ1, HM1⟩ := bs HL1 hr HT0 HR0 hm HS0 HZ0 HLT HM0; clear hr hm) | (go_at_call 118; clear tok2; refine (HC2.out _ HR1.out HT1.out).mono ?_; rintro e w2 ⟨v, rfl, hv, hr, hm⟩; (first | (obtain rfl : v = .int .u8 0 := hv) | (obtain rfl : v = .int .u8 1 := hv)); obtain ⟨HR2, HT2, HS2, HZ2, HM2⟩ := bs HL2 hr HT1 HR1 hm HS1 HZ1 HLT HM1; clear hr hm) | (refine ac rfl 59 (.tmp 2) (.tmp 8) rfl rfl w.heap.size #[.int .u8 (x1.toNat : Int), .bool false] rfl rfl 59 #[.int .u8 0, .bool false] HZ2.out bV rfl (by simp [Value.oneCell']) ?_))
    refine bodyPost_ret (v := .agg #[.int .u8 (x1.toNat : Int), .bool false]) (ai (p := 2) (ty := 59) (by kernel_rfl) _ _ w.heap.size 59 _ (0, 0) D rfl (setRow_heap _ _ #[.int .u8 0, .bool false] _ _ _ HZ2.out) HU.out HD.out bV) rfl ?_
    rw [HE.out]
    refine ⟨_, rfl, rfl, ?_, O HM2.out (fun hg => by omega) _⟩
    rw [HLD.out]
    exact HR2.out.keep (O (T := (· = w.heap.size)) (Mod.refl _ _) (fun _ => rfl) _) (fun g hg e => by have := HLT.out; omega)
   ·have HE : Hid (glob l = .ok (_, k1 + (k2 + 0))) := Y (by rw [fv]; exact ae HE1.out HL1.out (ae HE2.out HL2.out (ay _ _)))
    have HLD : Hid (l.drop (k1 + (k2 + 0)) = l2) := Y (by rw [Nat.add_zero, ← List.drop_drop, HL1.out, HL2.out])
    have tok1 : True := trivial
    have tok2 : True := trivial
    go_enter Tryz.func119, Tryz.ntmps119
    go_wp2_with (first | (go_at_call 116; clear tok1; refine (HC1.out _ HR0.out HT0.out).mono ?_; rintro e w1 ⟨v, rfl, hv, hr, hm⟩; obtain rfl : v = .int .u8 (x1.toNat : Int) := hv; obtain ⟨HR1, HT1, HS1, HZ1, HM1⟩ := bs HL1 hr HT0 HR0 hm HS0 HZ0 HLT HM0; clear hr hm) | (go_at_call 118; clear tok2; refine (HC2.out _ HR1.out HT1.out).mono ?_; rintro e w2 ⟨v, rfl, hv, hr, hm⟩; (first | (obtain rfl : v = .int .u8 0 := hv) | (obtain rfl : v = .int .u8 1 := hv)); obtain ⟨HR2, HT2, HS2, HZ2, HM2⟩ := bs HL2 hr HT1 HR1 hm HS1 HZ1 HLT HM1; clear hr hm) | (refine ac rfl 59 (.tmp 2) (.tmp 8) rfl rfl w.heap.size #[.int .u8 (x1.toNat : Int), .bool true] rfl rfl 59 #[.int .u8 0, .bool false] HZ2.out bV rfl (by simp [Value.oneCell']) ?_))
    refine bodyPost_ret (v := .agg #[.int .u8 (x1.toNat : Int), .bool true]) (ai (p := 2) (ty := 59) (by kernel_rfl) _ _ w.heap.size 59 _ (0, 0) D rfl (setRow_heap _ _ #[.int .u8 0, .bool false] _ _ _ HZ2.out) HU.out HD.out bV) rfl ?_
    rw [HE.out]
    refine ⟨_, rfl, rfl, ?_, O HM2.out (fun hg => by omega) _⟩
    rw [HLD.out]
    exact HR2.out.keep (O (T := (· = w.heap.size)) (Mod.refl _ _) (fun _ => rfl) _) (fun g hg e => by have := HLT.out; omega)
theorem jc : (Tryz.prog.underlying 121).map aggI = some true := by kernel_rfl
theorem ee : (Tryz.prog.info? 121).map (·.size) = some 2 := by kernel_rfl
theorem bloc_any (R : Nat) (l : List UInt8) (w : World) (hR : Rb w R l) (hT : Tb w) :
  Calls Tryz.prog 142 #[.pointer (some ⟨R, 0, none⟩)] w (ap R w l (loc l) (bI w.heap.size)) := by
 obtain ⟨D, hu, hd⟩ := desOf jc
 have HU := Y hu
 have HD := Y hd
 have HLT := Y hR.lt
 have HR0 : Hid (Rb (w.alloc (.cells #[.int .u32 0, .int .u8 0] 121)) R l) := Y (hR.alloc _)
 have HT0 : Hid (Tb (w.alloc (.cells #[.int .u32 0, .int .u8 0] 121))) := Y (hT.on ((Below.refl _ _).alloc (Nat.le_refl _) _))
 have HM0 : Hid (Mod (· = R) w (w.alloc (.cells #[.int .u32 0, .int .u8 0] 121))) := Y ((Mod.refl _ w).alloc _)
 have HZ0 : Hid ((w.alloc (.cells #[.int .u32 0, .int .u8 0] 121)).heap[w.heap.size]? = some (.cells #[.int .u32 0, .int .u8 0] 121 (0, 0))) := Y (heap_alloc_new w _)
 have HS0 : Hid (w.heap.size + 1 ≤ (w.alloc (.cells #[.int .u32 0, .int .u8 0] 121)).heap.size) := Y (by simp)
 clear hu hd hR hT
 have HC1 := Y (fun W (hW : Rb W R l) (hTW : Tb W) => ar R l W hW)
 cases h1 : (num) l with
 | error e1 =>
  have HE : Hid (loc l = .error e1) := Y (by rw [show loc = num.then fun n => value.then fun t => P.ret ⟨n, t⟩ from rfl]; exact ak h1)
  simp only [h1] at HC1
  clear h1
  have tok1 : True := trivial
  go_enter Tryz.func142, Tryz.ntmps142
  go_wp2_with (first | (go_at_call 73; clear tok1; refine (HC1.out _ HR0.out HT0.out).mono ?_; rintro e w1 ⟨rfl, hm⟩))
  rw [HE.out]
  exact ⟨rfl, rfl, HM0.out.trans hm (fun _ _ h => h)⟩
 | ok q1 =>
  obtain ⟨x1, k1⟩ := q1
  simp only [h1] at HC1
  have HE1 := Y h1
  clear h1
  obtain ⟨l1, hl1⟩ : ∃ l1, l.drop k1 = l1 := ⟨_, rfl⟩
  have HL1 := Y hl1
  clear hl1
  have HC2 := Y (fun W (hW : Rb W R l1) (hTW : Tb W) => dX R l1 W hW)
  cases h2 : (value) l1 with
  | error e2 =>
   have HE : Hid (loc l = .error e2) := Y (by rw [show loc = num.then fun n => value.then fun t => P.ret ⟨n, t⟩ from rfl]; exact ag HE1.out HL1.out (ak h2))
   simp only [h2] at HC2
   clear h2
   have tok1 : True := trivial
   have tok2 : True := trivial
   go_enter Tryz.func142, Tryz.ntmps142
   go_wp2_with (first | (go_at_call 73; clear tok1; refine (HC1.out _ HR0.out HT0.out).mono ?_; rintro e w1 ⟨v, rfl, hv, hr, hm⟩; obtain ⟨rfl, hx⟩ := hv; have HX1 := Y hx; clear hx; obtain ⟨HR1, HT1, HS1, HZ1, HM1⟩ := bs HL1 hr HT0 HR0 hm HS0 HZ0 HLT HM0; clear hr hm) | (go_at_call 116; clear tok2; refine (HC2.out _ HR1.out HT1.out).mono ?_; rintro e w2 ⟨rfl, hm⟩))
   rw [HE.out]
   exact ⟨rfl, rfl, HM1.out.trans hm (fun _ _ h => h)⟩
  | ok q2 =>
   obtain ⟨x2, k2⟩ := q2
   simp only [h2] at HC2
   have HE2 := Y h2
   clear h2
   obtain ⟨l2, hl2⟩ : ∃ l2, l1.drop k2 = l2 := ⟨_, rfl⟩
   have HL2 := Y hl2
   clear hl2
   have HE : Hid (loc l = .ok (_, k1 + (k2 + 0))) := Y (by rw [show loc = num.then fun n => value.then fun t => P.ret ⟨n, t⟩ from rfl]; exact ae HE1.out HL1.out (ae HE2.out HL2.out (ay _ _)))
   have HLD : Hid (l.drop (k1 + (k2 + 0)) = l2) := Y (by rw [Nat.add_zero, ← List.drop_drop, HL1.out, HL2.out])
   have tok1 : True := trivial
   have tok2 : True := trivial
   go_enter Tryz.func142, Tryz.ntmps142
   go_wp2_with (first | (go_at_call 73; clear tok1; refine (HC1.out _ HR0.out HT0.out).mono ?_; rintro e w1 ⟨v, rfl, hv, hr, hm⟩; obtain ⟨rfl, hx⟩ := hv; have HX1 := Y hx; clear hx; obtain ⟨HR1, HT1, HS1, HZ1, HM1⟩ := bs HL1 hr HT0 HR0 hm HS0 HZ0 HLT HM0; clear hr hm) | (go_at_call 116; clear tok2; refine (HC2.out _ HR1.out HT1.out).mono ?_; rintro e w2 ⟨v, rfl, hv, hr, hm⟩; obtain rfl : v = .int .u8 (x2.toNat : Int) := hv; obtain ⟨HR2, HT2, HS2, HZ2, HM2⟩ := bs HL2 hr HT1 HR1 hm HS1 HZ1 HLT HM1; clear hr hm) | (refine ac rfl 121 (.tmp 2) (.tmp 7) rfl rfl w.heap.size #[.int .u32 (x1 : Int), .int .u8 (x2.toNat : Int)] rfl rfl 121 #[.int .u32 0, .int .u8 0] HZ2.out ee rfl (by simp [Value.oneCell']) ?_))
   refine bodyPost_ret (v := .agg #[.int .u32 (x1 : Int), .int .u8 (x2.toNat : Int)]) (ai (p := 2) (ty := 121) (by kernel_rfl) _ _ w.heap.size 121 _ (0, 0) D rfl (setRow_heap _ _ #[.int .u32 0, .int .u8 0] _ _ _ HZ2.out) HU.out HD.out ee) rfl ?_
   rw [HE.out]
   refine ⟨_, rfl, ⟨_, rfl, rfl, HX1.out⟩, ?_, O HM2.out (fun hg => by omega) _⟩
   rw [HLD.out]
   exact HR2.out.keep (O (T := (· = w.heap.size)) (Mod.refl _ _) (fun _ => rfl) _) (fun g hg e => by have := HLT.out; omega)
theorem iI : (Tryz.prog.underlying 66).map aggI = some true := by kernel_rfl
theorem ep : (Tryz.prog.info? 66).map (·.size) = some 3 := by kernel_rfl
theorem bexp_any (R : Nat) (l : List UInt8) (w : World) (hR : Rb w R l) (hT : Tb w) :
  Calls Tryz.prog 80 #[.pointer (some ⟨R, 0, none⟩)] w (ap R w l (Bin.exp l) (bI w.heap.size)) := by
 obtain ⟨D, hu, hd⟩ := desOf iI
 have HU := Y hu
 have HD := Y hd
 have HLT := Y hR.lt
 have HR0 : Hid (Rb (w.alloc (.cells #[.string ⟨#[]⟩, .int .u8 0, .int .u32 0] 66)) R l) := Y (hR.alloc _)
 have HT0 : Hid (Tb (w.alloc (.cells #[.string ⟨#[]⟩, .int .u8 0, .int .u32 0] 66))) := Y (hT.on ((Below.refl _ _).alloc (Nat.le_refl _) _))
 have HM0 : Hid (Mod (· = R) w (w.alloc (.cells #[.string ⟨#[]⟩, .int .u8 0, .int .u32 0] 66))) := Y ((Mod.refl _ w).alloc _)
 have HZ0 : Hid ((w.alloc (.cells #[.string ⟨#[]⟩, .int .u8 0, .int .u32 0] 66)).heap[w.heap.size]? = some (.cells #[.string ⟨#[]⟩, .int .u8 0, .int .u32 0] 66 (0, 0))) := Y (heap_alloc_new w _)
 have HS0 : Hid (w.heap.size + 1 ≤ (w.alloc (.cells #[.string ⟨#[]⟩, .int .u8 0, .int .u32 0] 66)).heap.size) := Y (by simp)
 clear hu hd hR hT
 have HC1 := Y (fun W (hW : Rb W R l) (hTW : Tb W) => eG R l W hW hTW)
 cases h1 : (Bin.name) l with
 | error e1 =>
  have HE : Hid (Bin.exp l = .error e1) := Y (by rw [jk]; exact ak h1)
  simp only [h1] at HC1
  clear h1
  have tok1 : True := trivial
  go_enter Tryz.func80, Tryz.ntmps80
  go_wp2_with (first | (go_at_call 117; clear tok1; refine (HC1.out _ HR0.out HT0.out).mono ?_; rintro e w1 ⟨rfl, hm⟩))
  rw [HE.out]
  exact ⟨rfl, rfl, HM0.out.trans hm (fun _ _ h => h)⟩
 | ok q1 =>
  obtain ⟨x1, k1⟩ := q1
  simp only [h1] at HC1
  have HE1 := Y h1
  clear h1
  obtain ⟨l1, hl1⟩ : ∃ l1, l.drop k1 = l1 := ⟨_, rfl⟩
  have HL1 := Y hl1
  clear hl1
  have HC2 := Y (fun W (hW : Rb W R l1) (hTW : Tb W) => dD 3 3 rfl R l1 W hW)
  cases h2 : (upP 3) l1 with
  | error e2 =>
   have HE : Hid (Bin.exp l = .error e2) := Y (by rw [jk]; exact ag HE1.out HL1.out (ak h2))
   simp only [h2] at HC2
   clear h2
   have tok1 : True := trivial
   have tok2 : True := trivial
   go_enter Tryz.func80, Tryz.ntmps80
   go_wp2_with (first | (go_at_call 117; clear tok1; refine (HC1.out _ HR0.out HT0.out).mono ?_; rintro e w1 ⟨v, rfl, hv, hr, hm⟩; obtain rfl : v = .string ⟨x1.toArray⟩ := hv; obtain ⟨HR1, HT1, HS1, HZ1, HM1⟩ := bs HL1 hr HT0 HR0 hm HS0 HZ0 HLT HM0; clear hr hm) | (go_at_call 118; clear tok2; refine (HC2.out _ HR1.out HT1.out).mono ?_; rintro e w2 ⟨rfl, hm⟩))
   rw [HE.out]
   exact ⟨rfl, rfl, HM1.out.trans hm (fun _ _ h => h)⟩
  | ok q2 =>
   obtain ⟨x2, k2⟩ := q2
   simp only [h2] at HC2
   have HE2 := Y h2
   clear h2
   obtain ⟨l2, hl2⟩ : ∃ l2, l1.drop k2 = l2 := ⟨_, rfl⟩
   have HL2 := Y hl2
   clear hl2
   have HC3 := Y (fun W (hW : Rb W R l2) (hTW : Tb W) => ar R l2 W hW)
   cases h3 : (num) l2 with
   | error e3 =>
    have HE : Hid (Bin.exp l = .error e3) := Y (by rw [jk]; exact ag HE1.out HL1.out (ag HE2.out HL2.out (ak h3)))
    simp only [h3] at HC3
    clear h3
    have tok1 : True := trivial
    have tok2 : True := trivial
    have tok3 : True := trivial
    go_enter Tryz.func80, Tryz.ntmps80
    go_wp2_with (first | (go_at_call 117; clear tok1; refine (HC1.out _ HR0.out HT0.out).mono ?_; rintro e w1 ⟨v, rfl, hv, hr, hm⟩; obtain rfl : v = .string ⟨x1.toArray⟩ := hv; obtain ⟨HR1, HT1, HS1, HZ1, HM1⟩ := bs HL1 hr HT0 HR0 hm HS0 HZ0 HLT HM0; clear hr hm) | (go_at_call 118; clear tok2; refine (HC2.out _ HR1.out HT1.out).mono ?_; rintro e w2 ⟨v, rfl, hv, hr, hm⟩; obtain rfl : v = .int .u8 (x2.toNat : Int) := hv; obtain ⟨HR2, HT2, HS2, HZ2, HM2⟩ := bs HL2 hr HT1 HR1 hm HS1 HZ1 HLT HM1; clear hr hm) | (go_at_call 73; clear tok3; refine (HC3.out _ HR2.out HT2.out).mono ?_; rintro e w3 ⟨rfl, hm⟩))
    rw [HE.out]
    exact ⟨rfl, rfl, HM2.out.trans hm (fun _ _ h => h)⟩
   | ok q3 =>
    obtain ⟨x3, k3⟩ := q3
    simp only [h3] at HC3
    have HE3 := Y h3
    clear h3
    obtain ⟨l3, hl3⟩ : ∃ l3, l2.drop k3 = l3 := ⟨_, rfl⟩
    have HL3 := Y hl3
    clear hl3
    have HE : Hid (Bin.exp l = .ok (_, k1 + (k2 + (k3 + 0)))) := Y (by rw [jk]; exact ae HE1.out HL1.out (ae HE2.out HL2.out (ae HE3.out HL3.out (ay _ _))))
    have HLD : Hid (l.drop (k1 + (k2 + (k3 + 0))) = l3) := Y (by rw [Nat.add_zero, ← List.drop_drop, ← List.drop_drop, HL1.out, HL2.out, HL3.out])
    have tok1 : True := trivial
    have tok2 : True := trivial
    have tok3 : True := trivial
    go_enter Tryz.func80, Tryz.ntmps80
    go_wp2_with (first | (go_at_call 117; clear tok1; refine (HC1.out _ HR0.out HT0.out).mono ?_; rintro e w1 ⟨v, rfl, hv, hr, hm⟩; obtain rfl : v = .string ⟨x1.toArray⟩ := hv; obtain ⟨HR1, HT1, HS1, HZ1, HM1⟩ := bs HL1 hr HT0 HR0 hm HS0 HZ0 HLT HM0; clear hr hm) | (go_at_call 118; clear tok2; refine (HC2.out _ HR1.out HT1.out).mono ?_; rintro e w2 ⟨v, rfl, hv, hr, hm⟩; obtain rfl : v = .int .u8 (x2.toNat : Int) := hv; obtain ⟨HR2, HT2, HS2, HZ2, HM2⟩ := bs HL2 hr HT1 HR1 hm HS1 HZ1 HLT HM1; clear hr hm) | (go_at_call 73; clear tok3; refine (HC3.out _ HR2.out HT2.out).mono ?_; rintro e w3 ⟨v, rfl, hv, hr, hm⟩; obtain ⟨rfl, hx⟩ := hv; have HX3 := Y hx; clear hx; obtain ⟨HR3, HT3, HS3, HZ3, HM3⟩ := bs HL3 hr HT2 HR2 hm HS2 HZ2 HLT HM2; clear hr hm) | (refine ac rfl 66 (.tmp 2) (.tmp 9) rfl rfl w.heap.size #[.string ⟨x1.toArray⟩, .int .u8 (x2.toNat : Int), .int .u32 (x3 : Int)] rfl rfl 66 #[.string ⟨#[]⟩, .int .u8 0, .int .u32 0] HZ3.out ep rfl (by simp [Value.oneCell']) ?_))
    refine bodyPost_ret (v := .agg #[.string ⟨x1.toArray⟩, .int .u8 (x2.toNat : Int), .int .u32 (x3 : Int)]) (ai (p := 2) (ty := 66) (by kernel_rfl) _ _ w.heap.size 66 _ (0, 0) D rfl (setRow_heap _ _ #[.string ⟨#[]⟩, .int .u8 0, .int .u32 0] _ _ _ HZ3.out) HU.out HD.out ep) rfl ?_
    rw [HE.out]
    refine ⟨_, rfl, ⟨_, rfl, rfl, HX3.out⟩, ?_, O HM3.out (fun hg => by omega) _⟩
    rw [HLD.out]
    exact HR3.out.keep (O (T := (· = w.heap.size)) (Mod.refl _ _) (fun _ => rfl) _) (fun g hg e => by have := HLT.out; omega)
theorem des_bft_any : (Tryz.prog.underlying 50).map aggI = some true := by kernel_rfl
theorem fh : (Tryz.prog.info? 50).map (·.size) = some 2 := by kernel_rfl
theorem bft_any (R : Nat) (l : List UInt8) (w : World) (hR : Rb w R l) (hT : Tb w) :
  Calls Tryz.prog 69 #[.pointer (some ⟨R, 0, none⟩)] w (ap R w l (ft l) (bI w.heap.size)) := by
 obtain ⟨D, hu, hd⟩ := desOf des_bft_any
 have HU := Y hu
 have HD := Y hd
 have HLT := Y hR.lt
 have HR0 : Hid (Rb (w.alloc (.cells #[.slice none 0 0, .slice none 0 0] 50)) R l) := Y (hR.alloc _)
 have HT0 : Hid (Tb (w.alloc (.cells #[.slice none 0 0, .slice none 0 0] 50))) := Y (hT.on ((Below.refl _ _).alloc (Nat.le_refl _) _))
 have HM0 : Hid (Mod (· = R) w (w.alloc (.cells #[.slice none 0 0, .slice none 0 0] 50))) := Y ((Mod.refl _ w).alloc _)
 have HZ0 : Hid ((w.alloc (.cells #[.slice none 0 0, .slice none 0 0] 50)).heap[w.heap.size]? = some (.cells #[.slice none 0 0, .slice none 0 0] 50 (0, 0))) := Y (heap_alloc_new w _)
 have HS0 : Hid (w.heap.size + 1 ≤ (w.alloc (.cells #[.slice none 0 0, .slice none 0 0] 50)).heap.size) := Y (by simp)
 clear hu hd hR hT
 have HC1 := Y (fun W (hW : Rb W R l) (hTW : Tb W) => ie 96 96 rfl R l W hW)
 cases h1 : (mustP 96) l with
 | error e1 =>
  have HE : Hid (ft l = .error e1) := Y (by rw [ft_eq]; exact ak h1)
  simp only [h1] at HC1
  clear h1
  have tok1 : True := trivial
  go_enter Tryz.func69, Tryz.ntmps69
  go_wp2_with (first | (go_at_call 114; clear tok1; refine (HC1.out _ HR0.out HT0.out).mono ?_; rintro e w1 ⟨rfl, hm⟩))
  rw [HE.out]
  exact ⟨rfl, rfl, HM0.out.trans hm (fun _ _ h => h)⟩
 | ok q1 =>
  obtain ⟨x1, k1⟩ := q1
  simp only [h1] at HC1
  have HE1 := Y h1
  clear h1
  obtain ⟨l1, hl1⟩ : ∃ l1, l.drop k1 = l1 := ⟨_, rfl⟩
  have HL1 := Y hl1
  clear hl1
  have HC2 := Y (fun W (hW : Rb W R l1) (hTW : Tb W) => vals_ok R l1 W hW hTW)
  cases h2 : (list value) l1 with
  | error e2 =>
   have HE : Hid (ft l = .error e2) := Y (by rw [ft_eq]; exact ag HE1.out HL1.out (ak h2))
   simp only [h2] at HC2
   clear h2
   have tok1 : True := trivial
   have tok2 : True := trivial
   go_enter Tryz.func69, Tryz.ntmps69
   go_wp2_with (first | (go_at_call 114; clear tok1; refine (HC1.out _ HR0.out HT0.out).mono ?_; rintro e w1 ⟨v, rfl, hv, hr, hm⟩; obtain rfl : v = .tuple #[] := hv; obtain ⟨HR1, HT1, HS1, HZ1, HM1⟩ := bs HL1 hr HT0 HR0 hm HS0 HZ0 HLT HM0; clear hr hm) | (go_at_call 115; clear tok2; refine (HC2.out _ HR1.out HT1.out).mono ?_; rintro e w2 ⟨rfl, hm⟩))
   rw [HE.out]
   exact ⟨rfl, rfl, HM1.out.trans hm (fun _ _ h => h)⟩
  | ok q2 =>
   obtain ⟨x2, k2⟩ := q2
   simp only [h2] at HC2
   have HE2 := Y h2
   clear h2
   obtain ⟨l2, hl2⟩ : ∃ l2, l1.drop k2 = l2 := ⟨_, rfl⟩
   have HL2 := Y hl2
   clear hl2
   have HC3 := Y (fun W (hW : Rb W R l2) (hTW : Tb W) => vals_ok R l2 W hW hTW)
   cases h3 : (list value) l2 with
   | error e3 =>
    have HE : Hid (ft l = .error e3) := Y (by rw [ft_eq]; exact ag HE1.out HL1.out (ag HE2.out HL2.out (ak h3)))
    simp only [h3] at HC3
    clear h3
    have tok1 : True := trivial
    have tok2 : True := trivial
    have tok3 : True := trivial
    go_enter Tryz.func69, Tryz.ntmps69
    go_wp2_with (first | (go_at_call 114; clear tok1; refine (HC1.out _ HR0.out HT0.out).mono ?_; rintro e w1 ⟨v, rfl, hv, hr, hm⟩; obtain rfl : v = .tuple #[] := hv; obtain ⟨HR1, HT1, HS1, HZ1, HM1⟩ := bs HL1 hr HT0 HR0 hm HS0 HZ0 HLT HM0; clear hr hm) | (go_at_call 115; clear tok2; refine (HC2.out _ HR1.out HT1.out).mono ?_; rintro e w2 ⟨v, rfl, hv, hr, hm⟩; have hv2 := hv; obtain ⟨A2, c2, rfl, _⟩ := hv; have HV2 := Y (hv2.more (S' := (w.heap.size + 1 ≤ ·)) (fun g _ hg => Nat.le_trans HS1.out hg)); clear hv2; obtain ⟨HR2, HT2, HS2, HZ2, HM2⟩ := bs HL2 hr HT1 HR1 hm HS1 HZ1 HLT HM1; clear hr hm) | (go_at_call 115; clear tok3; refine (HC3.out _ HR2.out HT2.out).mono ?_; rintro e w3 ⟨rfl, hm⟩))
    rw [HE.out]
    exact ⟨rfl, rfl, HM2.out.trans hm (fun _ _ h => h)⟩
   | ok q3 =>
    obtain ⟨x3, k3⟩ := q3
    simp only [h3] at HC3
    have HE3 := Y h3
    clear h3
    obtain ⟨l3, hl3⟩ : ∃ l3, l2.drop k3 = l3 := ⟨_, rfl⟩
    have HL3 := Y hl3
    clear hl3
    have HE : Hid (ft l = .ok (_, k1 + (k2 + (k3 + 0)))) := Y (by rw [ft_eq]; exact ae HE1.out HL1.out (ae HE2.out HL2.out (ae HE3.out HL3.out (ay _ _))))
    have HLD : Hid (l.drop (k1 + (k2 + (k3 + 0))) = l3) := Y (by rw [Nat.add_zero, ← List.drop_drop, ← List.drop_drop, HL1.out, HL2.out, HL3.out])
    have tok1 : True := trivial
    have tok2 : True := trivial
    have tok3 : True := trivial
    go_enter Tryz.func69, Tryz.ntmps69
    go_wp2_with (first | (go_at_call 114; clear tok1; refine (HC1.out _ HR0.out HT0.out).mono ?_; rintro e w1 ⟨v, rfl, hv, hr, hm⟩; obtain rfl : v = .tuple #[] := hv; obtain ⟨HR1, HT1, HS1, HZ1, HM1⟩ := bs HL1 hr HT0 HR0 hm HS0 HZ0 HLT HM0; clear hr hm) | (go_at_call 115; clear tok2; refine (HC2.out _ HR1.out HT1.out).mono ?_; rintro e w2 ⟨v, rfl, hv, hr, hm⟩; have hv2 := hv; obtain ⟨A2, c2, rfl, _⟩ := hv; have HV2 := Y (hv2.more (S' := (w.heap.size + 1 ≤ ·)) (fun g _ hg => Nat.le_trans HS1.out hg)); clear hv2; obtain ⟨HR2, HT2, HS2, HZ2, HM2⟩ := bs HL2 hr HT1 HR1 hm HS1 HZ1 HLT HM1; clear hr hm) | (go_at_call 115; clear tok3; refine (HC3.out _ HR2.out HT2.out).mono ?_; rintro e w3 ⟨v, rfl, hv, hr, hm⟩; have hv2 := hv; obtain ⟨A3, c3, rfl, _⟩ := hv; have HV3 := Y (hv2.more (S' := (w.heap.size + 1 ≤ ·)) (fun g _ hg => Nat.le_trans HS2.out hg)); clear hv2; obtain ⟨HR3, HT3, HS3, HZ3, HM3⟩ := bs HL3 hr HT2 HR2 hm HS2 HZ2 HLT HM2; have HV2 := Y (HV2.out.mod hm (fun g _ hg e => by have := HLT.out; omega)); clear hr hm) | (refine ac rfl 50 (.tmp 2) (.tmp 13) rfl rfl w.heap.size #[.slice A2 x2.length c2, .slice A3 x3.length c3] rfl rfl 50 #[.slice none 0 0, .slice none 0 0] HZ3.out fh rfl (by simp [Value.oneCell']) ?_))
    refine bodyPost_ret (v := .agg #[.slice A2 x2.length c2, .slice A3 x3.length c3]) (ai (p := 2) (ty := 50) (by kernel_rfl) _ _ w.heap.size 50 _ (0, 0) D rfl (setRow_heap _ _ #[.slice none 0 0, .slice none 0 0] _ _ _ HZ3.out) HU.out HD.out fh) rfl ?_
    rw [HE.out]
    refine ⟨_, rfl, ⟨_, rfl, _, _, rfl, ((HV2.out.mod (O (T := (· = w.heap.size)) (Mod.refl _ _) (fun _ => rfl) _) (fun g _ hg e => by omega)).more (fun g _ hg => by omega)), ((HV3.out.mod (O (T := (· = w.heap.size)) (Mod.refl _ _) (fun _ => rfl) _) (fun g _ hg e => by omega)).more (fun g _ hg => by omega))⟩, ?_, O HM3.out (fun hg => by omega) _⟩
    rw [HLD.out]
    exact HR3.out.keep (O (T := (· = w.heap.size)) (Mod.refl _ _) (fun _ => rfl) _) (fun g hg e => by have := HLT.out; omega)
theorem des_bel_any : (Tryz.prog.underlying 69).map aggI = some true := by kernel_rfl
theorem fg : (Tryz.prog.info? 69).map (·.size) = some 3 := by kernel_rfl
theorem bel_any (R : Nat) (l : List UInt8) (w : World) (hR : Rb w R l) (hT : Tb w) :
  Calls Tryz.prog 82 #[.pointer (some ⟨R, 0, none⟩)] w (ap R w l (el l) (bI w.heap.size)) := by
 obtain ⟨D, hu, hd⟩ := desOf des_bel_any
 have HU := Y hu
 have HD := Y hd
 have HLT := Y hR.lt
 have HR0 : Hid (Rb (w.alloc (.cells #[.int .u32 0, .slice none 0 0, .slice none 0 0] 69)) R l) := Y (hR.alloc _)
 have HT0 : Hid (Tb (w.alloc (.cells #[.int .u32 0, .slice none 0 0, .slice none 0 0] 69))) := Y (hT.on ((Below.refl _ _).alloc (Nat.le_refl _) _))
 have HM0 : Hid (Mod (· = R) w (w.alloc (.cells #[.int .u32 0, .slice none 0 0, .slice none 0 0] 69))) := Y ((Mod.refl _ w).alloc _)
 have HZ0 : Hid ((w.alloc (.cells #[.int .u32 0, .slice none 0 0, .slice none 0 0] 69)).heap[w.heap.size]? = some (.cells #[.int .u32 0, .slice none 0 0, .slice none 0 0] 69 (0, 0))) := Y (heap_alloc_new w _)
 have HS0 : Hid (w.heap.size + 1 ≤ (w.alloc (.cells #[.int .u32 0, .slice none 0 0, .slice none 0 0] 69)).heap.size) := Y (by simp)
 clear hu hd hR hT
 have HC1 := Y (fun W (hW : Rb W R l) (hTW : Tb W) => ar R l W hW)
 cases h1 : (num) l with
 | error e1 =>
  have HE : Hid (el l = .error e1) := Y (by rw [show el = num.then fun t => expr.then fun e => (list num).then fun f => P.ret ⟨t, e, f⟩ from rfl]; exact ak h1)
  simp only [h1] at HC1
  clear h1
  have tok1 : True := trivial
  go_enter Tryz.func82, Tryz.ntmps82
  go_wp2_with (first | (go_at_call 73; clear tok1; refine (HC1.out _ HR0.out HT0.out).mono ?_; rintro e w1 ⟨rfl, hm⟩))
  rw [HE.out]
  exact ⟨rfl, rfl, HM0.out.trans hm (fun _ _ h => h)⟩
 | ok q1 =>
  obtain ⟨x1, k1⟩ := q1
  simp only [h1] at HC1
  have HE1 := Y h1
  clear h1
  obtain ⟨l1, hl1⟩ : ∃ l1, l.drop k1 = l1 := ⟨_, rfl⟩
  have HL1 := Y hl1
  clear hl1
  have HC2 := Y (fun W (hW : Rb W R l1) (hTW : Tb W) => dJ R l1 W hW)
  cases h2 : (Bin.expr) l1 with
  | error e2 =>
   have HE : Hid (el l = .error e2) := Y (by rw [show el = num.then fun t => expr.then fun e => (list num).then fun f => P.ret ⟨t, e, f⟩ from rfl]; exact ag HE1.out HL1.out (ak h2))
   simp only [h2] at HC2
   clear h2
   have tok1 : True := trivial
   have tok2 : True := trivial
   go_enter Tryz.func82, Tryz.ntmps82
   go_wp2_with (first | (go_at_call 73; clear tok1; refine (HC1.out _ HR0.out HT0.out).mono ?_; rintro e w1 ⟨v, rfl, hv, hr, hm⟩; obtain ⟨rfl, hx⟩ := hv; have HX1 := Y hx; clear hx; obtain ⟨HR1, HT1, HS1, HZ1, HM1⟩ := bs HL1 hr HT0 HR0 hm HS0 HZ0 HLT HM0; clear hr hm) | (go_at_call 120; clear tok2; refine (HC2.out _ HR1.out HT1.out).mono ?_; rintro e w2 ⟨rfl, hm⟩))
   rw [HE.out]
   exact ⟨rfl, rfl, HM1.out.trans hm (fun _ _ h => h)⟩
  | ok q2 =>
   obtain ⟨x2, k2⟩ := q2
   simp only [h2] at HC2
   have HE2 := Y h2
   clear h2
   obtain ⟨l2, hl2⟩ : ∃ l2, l1.drop k2 = l2 := ⟨_, rfl⟩
   have HL2 := Y hl2
   clear hl2
   have HC3 := Y (fun W (hW : Rb W R l2) (hTW : Tb W) => nums_ok R l2 W hW hTW)
   cases h3 : (list num) l2 with
   | error e3 =>
    have HE : Hid (el l = .error e3) := Y (by rw [show el = num.then fun t => expr.then fun e => (list num).then fun f => P.ret ⟨t, e, f⟩ from rfl]; exact ag HE1.out HL1.out (ag HE2.out HL2.out (ak h3)))
    simp only [h3] at HC3
    clear h3
    have tok1 : True := trivial
    have tok2 : True := trivial
    have tok3 : True := trivial
    go_enter Tryz.func82, Tryz.ntmps82
    go_wp2_with (first | (go_at_call 73; clear tok1; refine (HC1.out _ HR0.out HT0.out).mono ?_; rintro e w1 ⟨v, rfl, hv, hr, hm⟩; obtain ⟨rfl, hx⟩ := hv; have HX1 := Y hx; clear hx; obtain ⟨HR1, HT1, HS1, HZ1, HM1⟩ := bs HL1 hr HT0 HR0 hm HS0 HZ0 HLT HM0; clear hr hm) | (go_at_call 120; clear tok2; refine (HC2.out _ HR1.out HT1.out).mono ?_; rintro e w2 ⟨v, rfl, hv, hr, hm⟩; have hv2 := hv; obtain ⟨A2, c2, rfl, _⟩ := hv; have HV2 := Y (hv2.more (S' := (w.heap.size + 1 ≤ ·)) (fun g _ hg => Nat.le_trans HS1.out hg)); clear hv2; obtain ⟨HR2, HT2, HS2, HZ2, HM2⟩ := bs HL2 hr HT1 HR1 hm HS1 HZ1 HLT HM1; clear hr hm) | (go_at_call 72; clear tok3; refine (HC3.out _ HR2.out HT2.out).mono ?_; rintro e w3 ⟨rfl, hm⟩))
    rw [HE.out]
    exact ⟨rfl, rfl, HM2.out.trans hm (fun _ _ h => h)⟩
   | ok q3 =>
    obtain ⟨x3, k3⟩ := q3
    simp only [h3] at HC3
    have HE3 := Y h3
    clear h3
    obtain ⟨l3, hl3⟩ : ∃ l3, l2.drop k3 = l3 := ⟨_, rfl⟩
    have HL3 := Y hl3
    clear hl3
    have HE : Hid (el l = .ok (_, k1 + (k2 + (k3 + 0)))) := Y (by rw [show el = num.then fun t => expr.then fun e => (list num).then fun f => P.ret ⟨t, e, f⟩ from rfl]; exact ae HE1.out HL1.out (ae HE2.out HL2.out (ae HE3.out HL3.out (ay _ _))))
    have HLD : Hid (l.drop (k1 + (k2 + (k3 + 0))) = l3) := Y (by rw [Nat.add_zero, ← List.drop_drop, ← List.drop_drop, HL1.out, HL2.out, HL3.out])
    have tok1 : True := trivial
    have tok2 : True := trivial
    have tok3 : True := trivial
    go_enter Tryz.func82, Tryz.ntmps82
    go_wp2_with (first | (go_at_call 73; clear tok1; refine (HC1.out _ HR0.out HT0.out).mono ?_; rintro e w1 ⟨v, rfl, hv, hr, hm⟩; obtain ⟨rfl, hx⟩ := hv; have HX1 := Y hx; clear hx; obtain ⟨HR1, HT1, HS1, HZ1, HM1⟩ := bs HL1 hr HT0 HR0 hm HS0 HZ0 HLT HM0; clear hr hm) | (go_at_call 120; clear tok2; refine (HC2.out _ HR1.out HT1.out).mono ?_; rintro e w2 ⟨v, rfl, hv, hr, hm⟩; have hv2 := hv; obtain ⟨A2, c2, rfl, _⟩ := hv; have HV2 := Y (hv2.more (S' := (w.heap.size + 1 ≤ ·)) (fun g _ hg => Nat.le_trans HS1.out hg)); clear hv2; obtain ⟨HR2, HT2, HS2, HZ2, HM2⟩ := bs HL2 hr HT1 HR1 hm HS1 HZ1 HLT HM1; clear hr hm) | (go_at_call 72; clear tok3; refine (HC3.out _ HR2.out HT2.out).mono ?_; rintro e w3 ⟨v, rfl, hv, hr, hm⟩; have hv2 := hv; obtain ⟨A3, c3, rfl, _⟩ := hv; have HV3 := Y (hv2.more (S' := (w.heap.size + 1 ≤ ·)) (fun g _ hg => Nat.le_trans HS2.out hg)); clear hv2; obtain ⟨HR3, HT3, HS3, HZ3, HM3⟩ := bs HL3 hr HT2 HR2 hm HS2 HZ2 HLT HM2; have HV2 := Y (HV2.out.mod hm (fun g _ hg e => by have := HLT.out; omega)); clear hr hm) | (refine ac rfl 69 (.tmp 2) (.tmp 9) rfl rfl w.heap.size #[.int .u32 (x1 : Int), .slice A2 x2.length c2, .slice A3 x3.length c3] rfl rfl 69 #[.int .u32 0, .slice none 0 0, .slice none 0 0] HZ3.out fg rfl (by simp [Value.oneCell']) ?_))
    refine bodyPost_ret (v := .agg #[.int .u32 (x1 : Int), .slice A2 x2.length c2, .slice A3 x3.length c3]) (ai (p := 2) (ty := 69) (by kernel_rfl) _ _ w.heap.size 69 _ (0, 0) D rfl (setRow_heap _ _ #[.int .u32 0, .slice none 0 0, .slice none 0 0] _ _ _ HZ3.out) HU.out HD.out fg) rfl ?_
    rw [HE.out]
    refine ⟨_, rfl, ⟨_, rfl, _, _, rfl, HX1.out, ((HV2.out.mod (O (T := (· = w.heap.size)) (Mod.refl _ _) (fun _ => rfl) _) (fun g _ hg e => by omega)).more (fun g _ hg => by omega)), ((HV3.out.mod (O (T := (· = w.heap.size)) (Mod.refl _ _) (fun _ => rfl) _) (fun g _ hg e => by omega)).more (fun g _ hg => by omega))⟩, ?_, O HM3.out (fun hg => by omega) _⟩
    rw [HLD.out]
    exact HR3.out.keep (O (T := (· = w.heap.size)) (Mod.refl _ _) (fun _ => rfl) _) (fun g hg e => by have := HLT.out; omega)
theorem des_bgv_any : (Tryz.prog.underlying 63).map aggI = some true := by kernel_rfl
theorem fb : (Tryz.prog.info? 63).map (·.size) = some 3 := by kernel_rfl
theorem bgv_any (R : Nat) (l : List UInt8) (w : World) (hR : Rb w R l) (hT : Tb w) :
  Calls Tryz.prog 78 #[.pointer (some ⟨R, 0, none⟩)] w (ap R w l (gv l) (bI w.heap.size)) := by
 obtain ⟨D, hu, hd⟩ := desOf des_bgv_any
 have HU := Y hu
 have HD := Y hd
 have HLT := Y hR.lt
 have HR0 : Hid (Rb (w.alloc (.cells #[.int .u8 0, .bool false, .slice none 0 0] 63)) R l) := Y (hR.alloc _)
 have HT0 : Hid (Tb (w.alloc (.cells #[.int .u8 0, .bool false, .slice none 0 0] 63))) := Y (hT.on ((Below.refl _ _).alloc (Nat.le_refl _) _))
 have HM0 : Hid (Mod (· = R) w (w.alloc (.cells #[.int .u8 0, .bool false, .slice none 0 0] 63))) := Y ((Mod.refl _ w).alloc _)
 have HZ0 : Hid ((w.alloc (.cells #[.int .u8 0, .bool false, .slice none 0 0] 63)).heap[w.heap.size]? = some (.cells #[.int .u8 0, .bool false, .slice none 0 0] 63 (0, 0))) := Y (heap_alloc_new w _)
 have HS0 : Hid (w.heap.size + 1 ≤ (w.alloc (.cells #[.int .u8 0, .bool false, .slice none 0 0] 63)).heap.size) := Y (by simp)
 clear hu hd hR hT
 have HC1 := Y (fun W (hW : Rb W R l) (hTW : Tb W) => hI R l W hW hTW)
 cases h1 : (glob) l with
 | error e1 =>
  have HE : Hid (gv l = .error e1) := Y (by rw [show gv = glob.then fun g => expr.then fun e => P.ret ⟨g, e⟩ from rfl]; exact ak h1)
  simp only [h1] at HC1
  clear h1
  have tok1 : True := trivial
  go_enter Tryz.func78, Tryz.ntmps78
  go_wp2_with (first | (go_at_call 119; clear tok1; refine (HC1.out _ HR0.out HT0.out).mono ?_; rintro e w1 ⟨rfl, hm⟩))
  rw [HE.out]
  exact ⟨rfl, rfl, HM0.out.trans hm (fun _ _ h => h)⟩
 | ok q1 =>
  obtain ⟨x1, k1⟩ := q1
  simp only [h1] at HC1
  have HE1 := Y h1
  clear h1
  obtain ⟨l1, hl1⟩ : ∃ l1, l.drop k1 = l1 := ⟨_, rfl⟩
  have HL1 := Y hl1
  clear hl1
  have HC2 := Y (fun W (hW : Rb W R l1) (hTW : Tb W) => dJ R l1 W hW)
  cases h2 : (Bin.expr) l1 with
  | error e2 =>
   have HE : Hid (gv l = .error e2) := Y (by rw [show gv = glob.then fun g => expr.then fun e => P.ret ⟨g, e⟩ from rfl]; exact ag HE1.out HL1.out (ak h2))
   simp only [h2] at HC2
   clear h2
   have tok1 : True := trivial
   have tok2 : True := trivial
   go_enter Tryz.func78, Tryz.ntmps78
   go_wp2_with (first | (go_at_call 119; clear tok1; refine (HC1.out _ HR0.out HT0.out).mono ?_; rintro e w1 ⟨v, rfl, hv, hr, hm⟩; obtain rfl : v = .agg #[.int .u8 (x1.t.toNat : Int), .bool x1.mu] := hv; obtain ⟨HR1, HT1, HS1, HZ1, HM1⟩ := bs HL1 hr HT0 HR0 hm HS0 HZ0 HLT HM0; clear hr hm) | (go_at_call 120; clear tok2; refine (HC2.out _ HR1.out HT1.out).mono ?_; rintro e w2 ⟨rfl, hm⟩))
   rw [HE.out]
   exact ⟨rfl, rfl, HM1.out.trans hm (fun _ _ h => h)⟩
  | ok q2 =>
   obtain ⟨x2, k2⟩ := q2
   simp only [h2] at HC2
   have HE2 := Y h2
   clear h2
   obtain ⟨l2, hl2⟩ : ∃ l2, l1.drop k2 = l2 := ⟨_, rfl⟩
   have HL2 := Y hl2
   clear hl2
   have HE : Hid (gv l = .ok (_, k1 + (k2 + 0))) := Y (by rw [show gv = glob.then fun g => expr.then fun e => P.ret ⟨g, e⟩ from rfl]; exact ae HE1.out HL1.out (ae HE2.out HL2.out (ay _ _)))
   have HLD : Hid (l.drop (k1 + (k2 + 0)) = l2) := Y (by rw [Nat.add_zero, ← List.drop_drop, HL1.out, HL2.out])
   have tok1 : True := trivial
   have tok2 : True := trivial
   go_enter Tryz.func78, Tryz.ntmps78
   go_wp2_with (first | (go_at_call 119; clear tok1; refine (HC1.out _ HR0.out HT0.out).mono ?_; rintro e w1 ⟨v, rfl, hv, hr, hm⟩; obtain rfl : v = .agg #[.int .u8 (x1.t.toNat : Int), .bool x1.mu] := hv; obtain ⟨HR1, HT1, HS1, HZ1, HM1⟩ := bs HL1 hr HT0 HR0 hm HS0 HZ0 HLT HM0; clear hr hm) | (go_at_call 120; clear tok2; refine (HC2.out _ HR1.out HT1.out).mono ?_; rintro e w2 ⟨v, rfl, hv, hr, hm⟩; have hv2 := hv; obtain ⟨A2, c2, rfl, _⟩ := hv; have HV2 := Y (hv2.more (S' := (w.heap.size + 1 ≤ ·)) (fun g _ hg => Nat.le_trans HS1.out hg)); clear hv2; obtain ⟨HR2, HT2, HS2, HZ2, HM2⟩ := bs HL2 hr HT1 HR1 hm HS1 HZ1 HLT HM1; clear hr hm) | (refine ac rfl 63 (.tmp 2) (.tmp 7) rfl rfl w.heap.size #[.int .u8 (x1.t.toNat : Int), .bool x1.mu, .slice A2 x2.length c2] rfl rfl 63 #[.int .u8 0, .bool false, .slice none 0 0] HZ2.out fb rfl (by simp [Value.oneCell']) ?_))
   refine bodyPost_ret (v := .agg #[.int .u8 (x1.t.toNat : Int), .bool x1.mu, .slice A2 x2.length c2]) (ai (p := 2) (ty := 63) (by kernel_rfl) _ _ w.heap.size 63 _ (0, 0) D rfl (setRow_heap _ _ #[.int .u8 0, .bool false, .slice none 0 0] _ _ _ HZ2.out) HU.out HD.out fb) rfl ?_
   rw [HE.out]
   refine ⟨_, rfl, ⟨_, rfl, _, rfl, ((HV2.out.mod (O (T := (· = w.heap.size)) (Mod.refl _ _) (fun _ => rfl) _) (fun g _ hg e => by omega)).more (fun g _ hg => by omega))⟩, ?_, O HM2.out (fun hg => by omega) _⟩
   rw [HLD.out]
   exact HR2.out.keep (O (T := (· = w.heap.size)) (Mod.refl _ _) (fun _ => rfl) _) (fun g hg e => by have := HLT.out; omega)
theorem if_one {α : Type} (p q : P α) : (if decide ((1 : UInt8) = 1) = true then p else q) = p := if_pos (by decide)
theorem cellsM2 {w : World} {X : Nat} {x0 x1 : Value} {t : TypeId} (h : w.heap[X]? = some (.cells #[x0, x1] t (0, 0))) : w.cell? ⟨X, 0, none⟩ = some x0 ∧ w.cell? ⟨X, 1, none⟩ = some x1 := by
 refine ⟨?_, ?_⟩ <;> (rw [cell_of_row w X _ _ t (0, 0) h]; rfl)
theorem je : (Tryz.prog.underlying 57).map aggI = some true := by kernel_rfl
theorem cg : (Tryz.prog.info? 57).map (·.size) = some 2 := by kernel_rfl
theorem fK (R : Nat) (l : List UInt8) (w : World) (hR : Rb w R l) (hT : Tb w) :
  Calls Tryz.prog 76 #[.pointer (some ⟨R, 0, none⟩)] w (ap R w l (lim l) (bI w.heap.size)) := by
 obtain ⟨D, hu, hd⟩ := desOf je
 have HU := Y hu
 have HD := Y hd
 have HLT := Y hR.lt
 have HR0 : Hid (Rb (w.alloc (.cells #[.int .u32 0, .int .i64 0] 57)) R l) := Y (hR.alloc _)
 have HT0 : Hid (Tb (w.alloc (.cells #[.int .u32 0, .int .i64 0] 57))) := Y (hT.on ((Below.refl _ _).alloc (Nat.le_refl _) _))
 have HM0 : Hid (Mod (· = R) w (w.alloc (.cells #[.int .u32 0, .int .i64 0] 57))) := Y ((Mod.refl _ w).alloc _)
 have HZ0 : Hid ((w.alloc (.cells #[.int .u32 0, .int .i64 0] 57)).heap[w.heap.size]? = some (.cells #[.int .u32 0, .int .i64 0] 57 (0, 0))) := Y (heap_alloc_new w _)
 have HS0 : Hid (w.heap.size + 1 ≤ (w.alloc (.cells #[.int .u32 0, .int .i64 0] 57)).heap.size) := Y (by simp)
 clear hu hd hR hT
 have HC1 := Y (fun W (hW : Rb W R l) (_ : Tb W) => dD 1 1 rfl R l W hW)
 have tok1 : True := trivial
 have tok2 : True := trivial
 have tok3 : True := trivial
 cases h1 : upP 1 l with
 | error e1 =>
  have HE : Hid (lim l = .error e1) := Y (by rw [gA]; exact ak h1)
  simp only [h1] at HC1
  clear h1
  go_enter Tryz.func76, Tryz.ntmps76
  go_wp2_with (go_at_call 118; clear tok1; refine (HC1.out _ HR0.out HT0.out).mono ?_; rintro e w1 ⟨rfl, hm⟩)
  rw [HE.out]
  exact ⟨rfl, rfl, HM0.out.trans hm (fun _ _ h => h)⟩
 | ok q1 =>
 obtain ⟨x1, k1⟩ := q1
 simp only [h1] at HC1
 have hup := up1 h1
 have HE1 := Y h1
 clear h1
 obtain ⟨l1, hl1⟩ : ∃ l1, l.drop k1 = l1 := ⟨_, rfl⟩
 have HL1 := Y hl1
 clear hl1
 have HC2 := Y (fun W (hW : Rb W R l1) (_ : Tb W) => ar R l1 W hW)
 cases h2 : num l1 with
 | error e2 =>
  have HE : Hid (lim l = .error e2) := Y (by rw [gA]; exact ag HE1.out HL1.out (ak h2))
  simp only [h2] at HC2
  clear h2
  rcases hup with rfl | rfl
  all_goals
   go_enter Tryz.func76, Tryz.ntmps76
   go_wp2_with (first | (go_at_call 118; clear tok1; refine (HC1.out _ HR0.out HT0.out).mono ?_; rintro e w1 ⟨v, rfl, hv, hr, hm⟩; obtain rfl : v = .int .u8 0 := hv; obtain ⟨HR1, HT1, HS1, HZ1, HM1⟩ := bs HL1 hr HT0 HR0 hm HS0 HZ0 HLT HM0; clear hr hm) | (go_at_call 118; clear tok1; refine (HC1.out _ HR0.out HT0.out).mono ?_; rintro e w1 ⟨v, rfl, hv, hr, hm⟩; obtain rfl : v = .int .u8 1 := hv; obtain ⟨HR1, HT1, HS1, HZ1, HM1⟩ := bs HL1 hr HT0 HR0 hm HS0 HZ0 HLT HM0; clear hr hm) | (go_at_call 73; clear tok2; refine (HC2.out _ HR1.out HT1.out).mono ?_; rintro e w2 ⟨rfl, hm⟩))
   rw [HE.out]
   exact ⟨rfl, rfl, HM1.out.trans hm (fun _ _ h => h)⟩
 | ok q2 =>
 obtain ⟨x2, k2⟩ := q2
 simp only [h2] at HC2
 have HE2 := Y h2
 clear h2
 obtain ⟨l2, hl2⟩ : ∃ l2, l1.drop k2 = l2 := ⟨_, rfl⟩
 have HL2 := Y hl2
 clear hl2
 rcases hup with rfl | rfl
 ·have HE : Hid (lim l = .ok (⟨x2, -1⟩, k1 + (k2 + 0))) := Y (by rw [gA]; exact ae HE1.out HL1.out (ae HE2.out HL2.out rfl))
  have HLD : Hid (l.drop (k1 + (k2 + 0)) = l2) := Y (by rw [Nat.add_zero, ← List.drop_drop, HL1.out, HL2.out])
  go_enter Tryz.func76, Tryz.ntmps76
  go_upto_region 5 with (first | (go_at_call 118; clear tok1; refine (HC1.out _ HR0.out HT0.out).mono ?_; rintro e w1 ⟨v, rfl, hv, hr, hm⟩; obtain rfl : v = .int .u8 0 := hv; obtain ⟨HR1, HT1, HS1, HZ1, HM1⟩ := bs HL1 hr HT0 HR0 hm HS0 HZ0 HLT HM0; clear hr hm) | (go_at_call 73; clear tok2; refine (HC2.out _ HR1.out HT1.out).mono ?_; rintro e w2 ⟨v, rfl, hv, hr, hm⟩; obtain ⟨rfl, hx⟩ := hv; have HX2 := Y hx; clear hx; obtain ⟨HR2, HT2, HS2, HZ2, HM2⟩ := bs HL2 hr HT1 HR1 hm HS1 HZ1 HLT HM1; clear hr hm; have HR2a : Hid (Rb (w2.alloc (.cells #[.int .u32 (x2 : Int), .int .i64 (-1)] 57)) R l2) := Y (HR2.out.alloc _); have HT2a : Hid (Tb (w2.alloc (.cells #[.int .u32 (x2 : Int), .int .i64 (-1)] 57))) := Y (HT2.out.on ((Below.refl _ _).alloc (Nat.le_refl _) _)); have HX2a : Hid ((w2.alloc (.cells #[.int .u32 (x2 : Int), .int .i64 (-1)] 57)).heap[w2.heap.size]? = some (.cells #[.int .u32 (x2 : Int), .int .i64 (-1)] 57 (0, 0))) := Y (heap_alloc_new w2 _); have HZ2a : Hid ((w2.alloc (.cells #[.int .u32 (x2 : Int), .int .i64 (-1)] 57)).heap[w.heap.size]? = some (.cells #[.int .u32 0, .int .i64 0] 57 (0, 0))) := Y ((Below.heap_alloc w2 _ _ (by have := HS2.out; omega)).trans HZ2.out); have HM2a : Hid (Mod (· = R) w (w2.alloc (.cells #[.int .u32 (x2 : Int), .int .i64 (-1)] 57))) := Y (HM2.out.alloc _)))
  have HXZ : Hid ((w2.alloc (.cells #[.int .u32 (x2 : Int), .int .i64 (-1)] 57)).heap[w2.heap.size]? = some (.cells #[.int .u32 (x2 : Int), .int .i64 (-1)] 57 (0, 0))) := Y (HX2a.out)
  have HZZ : Hid ((w2.alloc (.cells #[.int .u32 (x2 : Int), .int .i64 (-1)] 57)).heap[w.heap.size]? = some (.cells #[.int .u32 0, .int .i64 0] 57 (0, 0))) := Y (HZ2a.out)
  have HMZ : Hid (Mod (· = R) w (w2.alloc (.cells #[.int .u32 (x2 : Int), .int .i64 (-1)] 57))) := Y (HM2a.out)
  have HRZ : Hid (Rb (w2.alloc (.cells #[.int .u32 (x2 : Int), .int .i64 (-1)] 57)) R l2) := Y (HR2a.out)
  generalize (w2.alloc (.cells #[.int .u32 (x2 : Int), .int .i64 (-1)] 57)) = wz at HXZ HZZ HMZ HRZ ⊢
  obtain ⟨z0, z1⟩ := cellsM2 HXZ.out
  go_wp2_with (refine ac rfl 57 (.tmp 2) (.tmp 16) rfl rfl w.heap.size #[.int .u32 (x2 : Int), .int .i64 (-1)] rfl rfl 57 #[.int .u32 0, .int .i64 0] HZZ.out cg rfl (by simp [Value.oneCell']) ?_)
  refine bodyPost_ret (v := .agg #[.int .u32 (x2 : Int), .int .i64 (-1)]) (ai (p := 2) (ty := 57) (by kernel_rfl) _ _ w.heap.size 57 _ (0, 0) D rfl (setRow_heap _ _ #[.int .u32 0, .int .i64 0] _ _ _ HZZ.out) HU.out HD.out cg) rfl ?_
  rw [HE.out]
  refine ⟨_, rfl, ⟨_, rfl, rfl, HX2.out, by show (-9223372036854775808 : Int) ≤ -1; omega, by show (-1 : Int) ≤ 9223372036854775807; omega⟩, ?_, O HMZ.out (fun hg => by omega) _⟩
  rw [HLD.out]
  exact HRZ.out.keep (O (T := (· = w.heap.size)) (Mod.refl _ _) (fun _ => rfl) _) (fun g hg e => by have := HLT.out; omega)
 ·have HC3 := Y (fun W (hW : Rb W R l2) (_ : Tb W) => ar R l2 W hW)
  cases h3 : num l2 with
  | error e3 =>
   have HE : Hid (lim l = .error e3) := Y (by rw [gA]; exact ag HE1.out HL1.out (ag HE2.out HL2.out (by rw [if_one]; exact ak h3)))
   simp only [h3] at HC3
   clear h3
   go_enter Tryz.func76, Tryz.ntmps76
   go_wp2_with (first | (go_at_call 118; clear tok1; refine (HC1.out _ HR0.out HT0.out).mono ?_; rintro e w1 ⟨v, rfl, hv, hr, hm⟩; obtain rfl : v = .int .u8 1 := hv; obtain ⟨HR1, HT1, HS1, HZ1, HM1⟩ := bs HL1 hr HT0 HR0 hm HS0 HZ0 HLT HM0; clear hr hm) | (go_at_call 73; clear tok2; refine (HC2.out _ HR1.out HT1.out).mono ?_; rintro e w2 ⟨v, rfl, hv, hr, hm⟩; obtain ⟨rfl, hx⟩ := hv; have HX2 := Y hx; clear hx; obtain ⟨HR2, HT2, HS2, HZ2, HM2⟩ := bs HL2 hr HT1 HR1 hm HS1 HZ1 HLT HM1; clear hr hm; have HR2a : Hid (Rb (w2.alloc (.cells #[.int .u32 (x2 : Int), .int .i64 (-1)] 57)) R l2) := Y (HR2.out.alloc _); have HT2a : Hid (Tb (w2.alloc (.cells #[.int .u32 (x2 : Int), .int .i64 (-1)] 57))) := Y (HT2.out.on ((Below.refl _ _).alloc (Nat.le_refl _) _)); have HX2a : Hid ((w2.alloc (.cells #[.int .u32 (x2 : Int), .int .i64 (-1)] 57)).heap[w2.heap.size]? = some (.cells #[.int .u32 (x2 : Int), .int .i64 (-1)] 57 (0, 0))) := Y (heap_alloc_new w2 _); have HZ2a : Hid ((w2.alloc (.cells #[.int .u32 (x2 : Int), .int .i64 (-1)] 57)).heap[w.heap.size]? = some (.cells #[.int .u32 0, .int .i64 0] 57 (0, 0))) := Y ((Below.heap_alloc w2 _ _ (by have := HS2.out; omega)).trans HZ2.out); have HM2a : Hid (Mod (· = R) w (w2.alloc (.cells #[.int .u32 (x2 : Int), .int .i64 (-1)] 57))) := Y (HM2.out.alloc _)) | (go_at_call 73; clear tok3; refine (HC3.out _ HR2a.out HT2a.out).mono ?_; rintro e w3 ⟨rfl, hm⟩))
   rw [HE.out]
   exact ⟨rfl, rfl, HM2a.out.trans hm (fun _ _ h => h)⟩
  | ok q3 =>
  obtain ⟨x3, k3⟩ := q3
  simp only [h3] at HC3
  have HE3 := Y h3
  clear h3
  obtain ⟨l3, hl3⟩ : ∃ l3, l2.drop k3 = l3 := ⟨_, rfl⟩
  have HL3 := Y hl3
  clear hl3
  have HE : Hid (lim l = .ok (⟨x2, (x3 : Int)⟩, k1 + (k2 + (k3 + 0)))) := Y (by rw [gA]; exact ae HE1.out HL1.out (ae HE2.out HL2.out (by rw [if_one]; exact ae (f := fun (b : Nat) => P.ret (⟨x2, (b : Int)⟩ : Lim)) HE3.out HL3.out (ay _ _))))
  have HLD : Hid (l.drop (k1 + (k2 + (k3 + 0))) = l3) := Y (by rw [Nat.add_zero, ← List.drop_drop, ← List.drop_drop, HL1.out, HL2.out, HL3.out])
  go_enter Tryz.func76, Tryz.ntmps76
  go_upto_region 5 with (first | (go_at_call 118; clear tok1; refine (HC1.out _ HR0.out HT0.out).mono ?_; rintro e w1 ⟨v, rfl, hv, hr, hm⟩; obtain rfl : v = .int .u8 1 := hv; obtain ⟨HR1, HT1, HS1, HZ1, HM1⟩ := bs HL1 hr HT0 HR0 hm HS0 HZ0 HLT HM0; clear hr hm) | (go_at_call 73; clear tok2; refine (HC2.out _ HR1.out HT1.out).mono ?_; rintro e w2 ⟨v, rfl, hv, hr, hm⟩; obtain ⟨rfl, hx⟩ := hv; have HX2 := Y hx; clear hx; obtain ⟨HR2, HT2, HS2, HZ2, HM2⟩ := bs HL2 hr HT1 HR1 hm HS1 HZ1 HLT HM1; clear hr hm; have HR2a : Hid (Rb (w2.alloc (.cells #[.int .u32 (x2 : Int), .int .i64 (-1)] 57)) R l2) := Y (HR2.out.alloc _); have HT2a : Hid (Tb (w2.alloc (.cells #[.int .u32 (x2 : Int), .int .i64 (-1)] 57))) := Y (HT2.out.on ((Below.refl _ _).alloc (Nat.le_refl _) _)); have HX2a : Hid ((w2.alloc (.cells #[.int .u32 (x2 : Int), .int .i64 (-1)] 57)).heap[w2.heap.size]? = some (.cells #[.int .u32 (x2 : Int), .int .i64 (-1)] 57 (0, 0))) := Y (heap_alloc_new w2 _); have HZ2a : Hid ((w2.alloc (.cells #[.int .u32 (x2 : Int), .int .i64 (-1)] 57)).heap[w.heap.size]? = some (.cells #[.int .u32 0, .int .i64 0] 57 (0, 0))) := Y ((Below.heap_alloc w2 _ _ (by have := HS2.out; omega)).trans HZ2.out); have HM2a : Hid (Mod (· = R) w (w2.alloc (.cells #[.int .u32 (x2 : Int), .int .i64 (-1)] 57))) := Y (HM2.out.alloc _)) | (go_at_call 73; clear tok3; refine (HC3.out _ HR2a.out HT2a.out).mono ?_; rintro e w3 ⟨v, rfl, hv, hr, hm⟩; obtain ⟨rfl, hx⟩ := hv; have HX3 := Y hx; have hwr : IntKind.i64.wrap (x3 : Int) = (x3 : Int) := IntWalk.i64_in _ (by omega); clear hx; have HR3 := Y (by have h := hr; rw [HL3.out] at h; exact h); have hX3 := hm.heap HX2a.out (fun e => by have := HLT.out; have := HS2.out; omega); obtain ⟨y0, y1⟩ := cellsM2 hX3; have f1 := frozen_of_row _ _ 1 _ _ hX3; have HXC := Y hX3; have HZ3 := Y (hm.heap HZ2a.out (fun e => by have := HLT.out; omega)); have HM3 := Y (HM2a.out.trans hm (fun _ _ h => h)); have HS3 := Y hm.size; clear hr hm hX3))
  have HXZ : Hid ((w3.setCell ⟨w2.heap.size, 1, none⟩ (.int .i64 (x3 : Int))).heap[w2.heap.size]? = some (.cells #[.int .u32 (x2 : Int), .int .i64 (x3 : Int)] 57 (0, 0))) := Y (heap_setCell_same w3 w2.heap.size 1 _ _ _ HXC.out)
  have HZZ : Hid ((w3.setCell ⟨w2.heap.size, 1, none⟩ (.int .i64 (x3 : Int))).heap[w.heap.size]? = some (.cells #[.int .u32 0, .int .i64 0] 57 (0, 0))) := Y ((heap_setCell_other w3 ⟨w2.heap.size, 1, none⟩ w.heap.size _ (by have := HS2.out; show ¬ w.heap.size = w2.heap.size; omega)).trans HZ3.out)
  have HMZ : Hid (Mod (· = R) w (w3.setCell ⟨w2.heap.size, 1, none⟩ (.int .i64 (x3 : Int)))) := Y (Mod.setCell (T := (· = R)) HM3.out (fun hk => by have := HS2.out; simp at hk; omega) _)
  have HRZ : Hid (Rb (w3.setCell ⟨w2.heap.size, 1, none⟩ (.int .i64 (x3 : Int))) R l3) := Y (HR3.out.keep (Mod.setCell (T := (· = w2.heap.size)) (Mod.refl _ w3) (fun _ => rfl) _) (fun k hk e => by have := HLT.out; have := HS2.out; omega))
  generalize (w3.setCell ⟨w2.heap.size, 1, none⟩ (.int .i64 (x3 : Int))) = wz at HXZ HZZ HMZ HRZ ⊢
  obtain ⟨z0, z1⟩ := cellsM2 HXZ.out
  go_wp2_with (refine ac rfl 57 (.tmp 2) (.tmp 16) rfl rfl w.heap.size #[.int .u32 (x2 : Int), .int .i64 (x3 : Int)] rfl rfl 57 #[.int .u32 0, .int .i64 0] HZZ.out cg rfl (by simp [Value.oneCell']) ?_)
  refine bodyPost_ret (v := .agg #[.int .u32 (x2 : Int), .int .i64 (x3 : Int)]) (ai (p := 2) (ty := 57) (by kernel_rfl) _ _ w.heap.size 57 _ (0, 0) D rfl (setRow_heap _ _ #[.int .u32 0, .int .i64 0] _ _ _ HZZ.out) HU.out HD.out cg) rfl ?_
  rw [HE.out]
  refine ⟨_, rfl, ⟨_, rfl, rfl, HX2.out, by have := HX3.out; show (-9223372036854775808 : Int) ≤ (x3 : Int); omega, by have := HX3.out; show (x3 : Int) ≤ 9223372036854775807; omega⟩, ?_, O HMZ.out (fun hg => by omega) _⟩
  rw [HLD.out]
  exact HRZ.out.keep (O (T := (· = w.heap.size)) (Mod.refl _ _) (fun _ => rfl) _) (fun g hg e => by have := HLT.out; omega)
theorem fH : (Tryz.prog.underlying 57).map aggI = some true := by kernel_rfl
theorem dh : (Tryz.prog.info? 57).map (·.size) = some 2 := by kernel_rfl
theorem gH (R : Nat) (l : List UInt8) (w : World) (hR : Rb w R l) (hT : Tb w) :
  Calls Tryz.prog 75 #[.pointer (some ⟨R, 0, none⟩)] w (ap R w l (table l) (bI w.heap.size)) := by
 obtain ⟨D, hu, hd⟩ := desOf fH
 have HU := Y hu
 have HD := Y hd
 have HLT := Y hR.lt
 have HR0 : Hid (Rb (w.alloc (.cells #[.int .u32 0, .int .i64 0] 57)) R l) := Y (hR.alloc _)
 have HT0 : Hid (Tb (w.alloc (.cells #[.int .u32 0, .int .i64 0] 57))) := Y (hT.on ((Below.refl _ _).alloc (Nat.le_refl _) _))
 have HM0 : Hid (Mod (· = R) w (w.alloc (.cells #[.int .u32 0, .int .i64 0] 57))) := Y ((Mod.refl _ w).alloc _)
 have HZ0 : Hid ((w.alloc (.cells #[.int .u32 0, .int .i64 0] 57)).heap[w.heap.size]? = some (.cells #[.int .u32 0, .int .i64 0] 57 (0, 0))) := Y (heap_alloc_new w _)
 have HS0 : Hid (w.heap.size + 1 ≤ (w.alloc (.cells #[.int .u32 0, .int .i64 0] 57)).heap.size) := Y (by simp)
 clear hu hd hR hT
 have HC1 := Y (fun W (hW : Rb W R l) (hTW : Tb W) => ie 112 112 rfl R l W hW)
 cases h1 : (mustP 112) l with
 | error e1 =>
  have HE : Hid (table l = .error e1) := Y (by rw [fW]; exact ak h1)
  simp only [h1] at HC1
  clear h1
  have tok1 : True := trivial
  go_enter Tryz.func75, Tryz.ntmps75
  go_wp2_with (first | (go_at_call 114; clear tok1; refine (HC1.out _ HR0.out HT0.out).mono ?_; rintro e w1 ⟨rfl, hm⟩))
  rw [HE.out]
  exact ⟨rfl, rfl, HM0.out.trans hm (fun _ _ h => h)⟩
 | ok q1 =>
  obtain ⟨x1, k1⟩ := q1
  simp only [h1] at HC1
  have HE1 := Y h1
  clear h1
  obtain ⟨l1, hl1⟩ : ∃ l1, l.drop k1 = l1 := ⟨_, rfl⟩
  have HL1 := Y hl1
  clear hl1
  have HC2 := Y (fun W (hW : Rb W R l1) (hTW : Tb W) => fK R l1 W hW hTW)
  cases h2 : (lim) l1 with
  | error e2 =>
   have HE : Hid (table l = .error e2) := Y (by rw [fW]; exact ag HE1.out HL1.out (ak h2))
   simp only [h2] at HC2
   clear h2
   have tok1 : True := trivial
   have tok2 : True := trivial
   go_enter Tryz.func75, Tryz.ntmps75
   go_wp2_with (first | (go_at_call 114; clear tok1; refine (HC1.out _ HR0.out HT0.out).mono ?_; rintro e w1 ⟨v, rfl, hv, hr, hm⟩; obtain rfl : v = .tuple #[] := hv; obtain ⟨HR1, HT1, HS1, HZ1, HM1⟩ := bs HL1 hr HT0 HR0 hm HS0 HZ0 HLT HM0; clear hr hm) | (go_at_call 76; clear tok2; refine (HC2.out _ HR1.out HT1.out).mono ?_; rintro e w2 ⟨rfl, hm⟩))
   rw [HE.out]
   exact ⟨rfl, rfl, HM1.out.trans hm (fun _ _ h => h)⟩
  | ok q2 =>
   obtain ⟨x2, k2⟩ := q2
   simp only [h2] at HC2
   have HE2 := Y h2
   clear h2
   obtain ⟨l2, hl2⟩ : ∃ l2, l1.drop k2 = l2 := ⟨_, rfl⟩
   have HL2 := Y hl2
   clear hl2
   have HE : Hid (table l = .ok (_, k1 + (k2 + 0))) := Y (by rw [fW]; exact ae HE1.out HL1.out (ae HE2.out HL2.out (ay _ _)))
   have HLD : Hid (l.drop (k1 + (k2 + 0)) = l2) := Y (by rw [Nat.add_zero, ← List.drop_drop, HL1.out, HL2.out])
   have tok1 : True := trivial
   have tok2 : True := trivial
   go_enter Tryz.func75, Tryz.ntmps75
   go_wp2_with (first | (go_at_call 114; clear tok1; refine (HC1.out _ HR0.out HT0.out).mono ?_; rintro e w1 ⟨v, rfl, hv, hr, hm⟩; obtain rfl : v = .tuple #[] := hv; obtain ⟨HR1, HT1, HS1, HZ1, HM1⟩ := bs HL1 hr HT0 HR0 hm HS0 HZ0 HLT HM0; clear hr hm) | (go_at_call 76; clear tok2; refine (HC2.out _ HR1.out HT1.out).mono ?_; rintro e w2 ⟨v, rfl, hv, hr, hm⟩; obtain ⟨cs, rfl, hcs⟩ := hv; obtain ⟨rfl, hwf⟩ := hcs; have HW2 := Y hwf; clear hwf; obtain ⟨HR2, HT2, HS2, HZ2, HM2⟩ := bs HL2 hr HT1 HR1 hm HS1 HZ1 HLT HM1; clear hr hm) | (refine ac rfl 57 (.tmp 2) (.tmp 6) rfl rfl w.heap.size #[.int .u32 (x2.min : Int), .int .i64 x2.max] rfl rfl 57 #[.int .u32 0, .int .i64 0] HZ2.out dh rfl (by simp [Value.oneCell']) ?_))
   refine bodyPost_ret (v := .agg #[.int .u32 (x2.min : Int), .int .i64 x2.max]) (ai (p := 2) (ty := 57) (by kernel_rfl) _ _ w.heap.size 57 _ (0, 0) D rfl (setRow_heap _ _ #[.int .u32 0, .int .i64 0] _ _ _ HZ2.out) HU.out HD.out dh) rfl ?_
   rw [HE.out]
   refine ⟨_, rfl, ⟨_, rfl, rfl, HW2.out⟩, ?_, O HM2.out (fun hg => by omega) _⟩
   rw [HLD.out]
   exact HR2.out.keep (O (T := (· = w.heap.size)) (Mod.refl _ _) (fun _ => rfl) _) (fun g hg e => by have := HLT.out; omega)
end Go.Proofs.YthkglmkpnhhboaaGreatDoor
