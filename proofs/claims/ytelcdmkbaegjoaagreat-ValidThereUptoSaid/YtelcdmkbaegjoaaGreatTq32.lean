/-
  Layer 10's program: turned, goes: types are wanted, and pushed, or nothing is reached behind. (gen/body/turn.py)
-/
import Derived.Test.YtelcdmkbaegjoaaGreatTq01
import Derived.Test.YtelcdmkbaegjoaaGreatTq31
set_option maxRecDepth 100000
set_option maxHeartbeats 4000000
namespace Go.Proofs.YtelcdmkbaegjoaaGreat
open Go.RowKit Ins Bin Sp
theorem Nxt.keep {G G' : Nat → Prop} {w w' : World} {X : Nat} {ob : Obj} (hn : Nxt G w G' w') (hX : w.heap[X]? = some ob) (hg : ¬ G X ∧ X < w.heap.size) : w'.heap[X]? = some ob ∧ ¬ G' X ∧ X < w'.heap.size :=
 ⟨hn.2.heap hX hg.1, fun hg' => by
  rcases hn.1 X hg' with h | h
  ·exact hg.1 h
  ·omega, Nat.lt_of_lt_of_le hg.2 hn.2.size⟩
theorem aK {C : Ctx} {R P n : Nat} {w : World} {G : Nat → Prop} {s : Ty.T} {o : List Bool} (h : Wk C R P w G s o) (hs : s.sm n) (hn : n ≤ 400000000) (a b : List UInt8) (va vb : Value) (ha : ab w (Apt w G) a va) (hb : ab w (Apt w G) b vb) (hla : a.length ≤ 400000000) (hlb : b.length ≤ 400000000) :
  Calls Tryz.prog 108 #[.pointer (some ⟨R, 0, none⟩), va, vb] w (ai C R P G o w (Bo.turned s a b)) := by
 obtain ⟨_, _, _, _, _, q5⟩ := h.cells
 have HW := eE h hs (by omega) a va ha hla
 cases hw : s.wantA a with
 | false =>
  rw [hw] at HW
  have HT : Hid (Bo.turned s a b = .error 100) := J (by unfold Bo.turned; rw [hw]; rfl)
  have HH := J h
  have HC := J HW
  obtain ⟨A1, c1, rfl, _⟩ := ha
  obtain ⟨A2, c2, rfl, _⟩ := hb
  generalize a.length = n1 at HC ⊢
  generalize b.length = n2 at ⊢
  clear HW hw h hs hn hla hlb
  go_enter Tryz.func108, Tryz.ntmps108
  go_wp2_with (go_at_call 104; refine HC.out.mono ?_; rintro e w1 ⟨rfl, G1, h1, n1⟩; have HN1 := J n1; clear h1 n1)
  go_ret
  rw [HT.out]
  exact ⟨rfl, HH.out.below HN1.out⟩
 | true =>
  rw [hw] at HW
  have HT : Hid (Bo.turned s a b = .ok ((s.want a).push b)) := J (by unfold Bo.turned; rw [hw]; rfl)
  have HC := J HW
  have HP : Hid (∀ W G1, Wk C R P W G1 (s.want a) o → Nxt G w G1 W → Calls Tryz.prog 105 #[.pointer (some ⟨P, 0, none⟩), vb] W fun e w' => e = .returned (.tuple #[]) ∧ ∃ G', Wk C R P w' G' ((s.want a).push b) o ∧ Nxt G1 W G' w') := J (fun W G1 h1 hn1 => wk_push h1 (Ty.sm_want hs a) (by omega) b vb (Apt.next hb hn1) hlb)
  obtain ⟨A1, c1, rfl, _⟩ := ha
  obtain ⟨A2, c2, rfl, _⟩ := hb
  generalize a.length = n1 at HC ⊢
  generalize b.length = n2 at HP ⊢
  clear HW hw h hs hn hla hlb
  go_enter Tryz.func108, Tryz.ntmps108
  go_wp2_with (first | (go_at_call 104; refine HC.out.mono ?_; rintro e w1 ⟨rfl, G1, h1, n1⟩; have H1 := J h1; have HN1 := J n1; obtain ⟨_, _, _, _, _, y5⟩ := h1.cells; clear h1 n1) | (go_at_call 105; refine (HP.out _ _ H1.out HN1.out).mono ?_; rintro e w2 ⟨rfl, G2, h2, n2⟩; have H2 := J h2; have HN2 := J n2; clear h2 n2))
  go_ret
  rw [HT.out]
  exact ⟨rfl, _, H2.out, HN1.out.trans HN2.out⟩
theorem cJ {C : Ctx} {R P n : Nat} {w : World} {G : Nat → Prop} {s : Ty.T} {o : List Bool} (h : Wk C R P w G s o) (hs : s.sm n) (hn : n ≤ 400000000) (a : List UInt8) (va : Value) (ha : ab w (Apt w G) a va) (hla : a.length ≤ 400000000) :
  Calls Tryz.prog 107 #[.pointer (some ⟨R, 0, none⟩), va] w (ai C R P G o w (Bo.goes s a)) := by
 obtain ⟨_, _, _, _, _, q5⟩ := h.cells
 have HW := eE h hs (by omega) a va ha hla
 cases hw : s.wantA a with
 | false =>
  rw [hw] at HW
  have HT : Hid (Bo.goes s a = .error 100) := J (by unfold Bo.goes; rw [hw]; rfl)
  have HH := J h
  have HC := J HW
  obtain ⟨A1, c1, rfl, _⟩ := ha
  generalize a.length = n1 at HC ⊢
  clear HW hw h hs hn hla
  go_enter Tryz.func107, Tryz.ntmps107
  go_wp2_with (go_at_call 104; refine HC.out.mono ?_; rintro e w1 ⟨rfl, G1, h1, n1⟩; have HN1 := J n1; clear h1 n1)
  go_ret
  rw [HT.out]
  exact ⟨rfl, HH.out.below HN1.out⟩
 | true =>
  rw [hw] at HW
  have HT : Hid (Bo.goes s a = .ok (s.want a).kill) := J (by unfold Bo.goes; rw [hw]; rfl)
  have HC := J HW
  have HP : Hid (∀ W G1, Wk C R P W G1 (s.want a) o → Calls Tryz.prog 120 #[.pointer (some ⟨P, 0, none⟩)] W fun e w' => e = .returned (.tuple #[]) ∧ ∃ G', Wk C R P w' G' (s.want a).kill o ∧ Nxt G1 W G' w') := J (fun W G1 h1 => wk_dead h1 (Ty.sm_want hs a) (by omega))
  obtain ⟨A1, c1, rfl, _⟩ := ha
  generalize a.length = n1 at HC ⊢
  clear HW hw h hs hn hla
  go_enter Tryz.func107, Tryz.ntmps107
  go_wp2_with (first | (go_at_call 104; refine HC.out.mono ?_; rintro e w1 ⟨rfl, G1, h1, n1⟩; have H1 := J h1; have HN1 := J n1; obtain ⟨_, _, _, _, _, y5⟩ := h1.cells; clear h1 n1) | (go_at_call 120; refine (HP.out _ _ H1.out).mono ?_; rintro e w2 ⟨rfl, G2, h2, n2⟩; have H2 := J h2; have HN2 := J n2; clear h2 n2))
  go_ret
  rw [HT.out]
  exact ⟨rfl, _, H2.out, HN1.out.trans HN2.out⟩
theorem litN (w : World) (l : List UInt8) (vs : Array Value) (hv : vs = (bytesOf l).toArray) (n : Nat) (hn : n = l.length) (hl : l.length ≤ 1000) :
  ab (w.alloc (.cells vs 5)) (w.heap.size ≤ ·) l (.slice (some ⟨w.heap.size, 0, none⟩) n n) := by
 subst hv hn
 refine ⟨_, l.length, rfl, Nat.le_refl _, by unfold maxLen; omega, fun e => (by cases e), fun k x hk => ⟨w.heap.size, 0, [.int .u8 (x.toNat : Int)], rfl, Nat.le_refl _, by simp, rfl, fun j u hj => ?_⟩⟩
 cases j with
 | zero =>
  simp at hj
  subst hj
  obtain ⟨ad, e, _, hc⟩ := Has.lit w l 5 k x hk
  injection e with e
  subst e
  have e2 : (⟨w.heap.size, 0, none⟩ : Addr).add k = ⟨w.heap.size, 0 + k * 1 + 0, none⟩ := by
   unfold Addr.add; split <;> simp_all
  rw [e2] at hc
  exact hc
 | succ j => simp at hj
theorem lit1 (w : World) (x : UInt8) : ab (w.alloc (.cells #[.int .u8 (x.toNat : Int)] 5)) (w.heap.size ≤ ·) [x] (.slice (some ⟨w.heap.size, 0, none⟩) 1 1) := litN w [x] _ rfl 1 rfl (by simp)
def bP (p r : List UInt8) (ok : Bool) (w : World) (e : Ending) (w' : World) : Prop :=
 ∃ A B, e = .returned (.tuple #[.slice A p.length p.length, .slice B r.length r.length, .bool ok]) ∧ ab w' (w.heap.size ≤ ·) p (.slice A p.length p.length) ∧ ab w' (w.heap.size ≤ ·) r (.slice B r.length r.length) ∧ Below w.heap.size w w'
theorem bk (p r : List UInt8) (p' r' : List UInt8) (w : World) (t : TypeId) (e : Ending) (w' : World) (hp : p' = p) (hr : r' = r)
  (he : e = .returned (.tuple #[.slice (some ⟨w.heap.size, 0, none⟩) p.length p.length, .slice (some ⟨w.heap.size + 1, 0, none⟩) r.length r.length, .bool true]))
  (hw : w' = (w.alloc (.cells (bytesOf p).toArray t)).alloc (.cells (bytesOf r).toArray t)) (ok : Bool) (hok : ok = true) (ht : t = 5 := by rfl) (h1 : p.length ≤ 1000 := by simp) (h2 : r.length ≤ 1000 := by simp) : bP p' r' ok w e w' := by
 subst hp hr he hw hok ht
 refine ⟨_, _, rfl, ?_, ?_, ((Below.refl _ _).alloc (Nat.le_refl _) _).alloc (by simp) _⟩
 ·exact (litN w p' _ rfl _ rfl h1).mod (T := fun _ => False) (Mod.of_below ((Below.refl _ _).alloc (Nat.le_refl _) _)) (fun _ _ _ h => h)
 ·have h := litN (w.alloc (.cells (bytesOf p').toArray 5)) r' _ rfl _ rfl h2
  simp only [World.alloc, Array.size_push] at h
  exact h.more (fun k _ hk => by have hk' : w.heap.size + 1 ≤ k := hk; show w.heap.size ≤ k; omega)
theorem sigV_left (p : List UInt8) (p' r' : List UInt8) (w : World) (t : TypeId) (e : Ending) (w' : World) (hp : p' = p) (hr : r' = [])
  (he : e = .returned (.tuple #[.slice (some ⟨w.heap.size, 0, none⟩) p.length p.length, .slice none 0 0, .bool true]))
  (hw : w' = w.alloc (.cells (bytesOf p).toArray t)) (ok : Bool) (hok : ok = true) (ht : t = 5 := by rfl) (h1 : p.length ≤ 1000 := by simp) : bP p' r' ok w e w' := by
 subst hp hr he hw hok ht
 exact ⟨_, _, rfl, litN w p' _ rfl _ rfl h1, ab.nil _ _, (Below.refl _ _).alloc (Nat.le_refl _) _⟩
theorem sigV_right (r : List UInt8) (p' r' : List UInt8) (w : World) (t : TypeId) (e : Ending) (w' : World) (hp : p' = []) (hr : r' = r)
  (he : e = .returned (.tuple #[.slice none 0 0, .slice (some ⟨w.heap.size, 0, none⟩) r.length r.length, .bool true]))
  (hw : w' = w.alloc (.cells (bytesOf r).toArray t)) (ok : Bool) (hok : ok = true) (ht : t = 5 := by rfl) (h1 : r.length ≤ 1000 := by simp) : bP p' r' ok w e w' := by
 subst hp hr he hw hok ht
 exact ⟨_, _, rfl, ab.nil _ _, litN w r' _ rfl _ rfl h1, (Below.refl _ _).alloc (Nat.le_refl _) _⟩
theorem d9 (p' r' : List UInt8) (w : World) (hp : p' = []) (hr : r' = []) (ok : Bool) (hok : ok = false) : bP p' r' ok w (.returned (.tuple #[.slice none 0 0, .slice none 0 0, .bool false])) w := by
 subst hp hr hok
 exact ⟨_, _, rfl, ab.nil _ _, ab.nil _ _, Below.refl _ _⟩
theorem sigV_any (x : Int) (w : World) : Calls Tryz.prog 113 #[.int .u8 x] w (bP (Opc.sigP x) (Opc.sigR x) (Opc.plain x) w) := by
 by_cases h40 : x < 40
 ·have hp := J (show Opc.plain x = false by simp [Opc.plain]; omega)
  have h40b : decide (x < 40) = true := by simpa using h40
  go_enter Tryz.func113, Tryz.ntmps113
  go_wp2_with fail
  go_ret3
  exact d9 _ _ _ (by simp [Opc.sigP, hp.out]) (by simp [Opc.sigR, hp.out]) _ hp.out
 have h40b : decide (x < 40) = false := by simpa using h40
 cases hk : Opc.known x
 ·have hp := J (show Opc.plain x = false by simp [Opc.plain, hk])
  go_enter Tryz.func113, Tryz.ntmps113
  go_wp2_with (go_at_call 98; refine (cW _ _).mono ?_; rintro e w' ⟨rfl, rfl⟩)
  go_ret3
  exact d9 _ _ _ (by simp [Opc.sigP, hp.out]) (by simp [Opc.sigR, hp.out]) _ hp.out
 have hp := J (show Opc.plain x = true by simp [Opc.plain, hk]; omega)
 go_enter Tryz.func113, Tryz.ntmps113
 go_wp2_with (first | (go_at_call 98; refine (cW _ _).mono ?_; rintro e w' ⟨rfl, rfl⟩) | (go_at_call 124; refine (typeU_any _ _).mono ?_; rintro e w' ⟨rfl, rfl⟩) | (go_at_call 116; refine (ay _ _ _ _).mono ?_; rintro e w' ⟨rfl, rfl⟩))
 all_goals go_ret3
 all_goals first
  | exact bk [127] [Opc.typeU x] _ _ _ 5 _ _ (by have := hp.out; simp_all [Opc.sigP] <;> (repeat rw [if_neg (by omega)])) (by have := hp.out; simp_all [Opc.sigR] <;> (repeat rw [if_neg (by omega)])) rfl rfl _ hp.out
  | exact sigV_left [127, Opc.typeU x] _ _ _ 5 _ _ (by have := hp.out; simp_all [Opc.sigP] <;> (repeat rw [if_neg (by omega)])) (by have := hp.out; simp_all [Opc.sigR] <;> (repeat rw [if_neg (by omega)])) rfl rfl _ hp.out
  | exact sigV_right [Opc.typeU x] _ _ _ 5 _ _ (by have := hp.out; simp_all [Opc.sigP] <;> (repeat rw [if_neg (by omega)])) (by have := hp.out; simp_all [Opc.sigR] <;> (repeat rw [if_neg (by omega)])) rfl rfl _ hp.out
  | exact bk [Opc.typeU x] [127] _ _ _ 5 _ _ (by have := hp.out; simp_all [Opc.sigP] <;> (repeat rw [if_neg (by omega)])) (by have := hp.out; simp_all [Opc.sigR] <;> (repeat rw [if_neg (by omega)])) rfl rfl _ hp.out
  | exact bk [Opc.typeU x, Opc.typeU x] [127] _ _ _ 5 _ _ (by have := hp.out; simp_all [Opc.sigP] <;> (repeat rw [if_neg (by omega)])) (by have := hp.out; simp_all [Opc.sigR] <;> (repeat rw [if_neg (by omega)])) rfl rfl _ hp.out
  | exact bk [Opc.typeU x] [Opc.typeU x] _ _ _ 5 _ _ (by have := hp.out; simp_all [Opc.sigP] <;> (repeat rw [if_neg (by omega)])) (by have := hp.out; simp_all [Opc.sigR] <;> (repeat rw [if_neg (by omega)])) rfl rfl _ hp.out
  | exact bk [Opc.typeU x, Opc.typeU x] [Opc.typeU x] _ _ _ 5 _ _ (by have := hp.out; simp_all [Opc.sigP] <;> (repeat rw [if_neg (by omega)])) (by have := hp.out; simp_all [Opc.sigR] <;> (repeat rw [if_neg (by omega)])) rfl rfl _ hp.out
  | exact bk [126] [Opc.typeU x] _ _ _ 5 _ _ (by have := hp.out; simp_all [Opc.sigP] <;> (repeat rw [if_neg (by omega)])) (by have := hp.out; simp_all [Opc.sigR] <;> (repeat rw [if_neg (by omega)])) rfl rfl _ hp.out
theorem bG (p : Option Addr) (m : M) (i : Nat) (w : World) (h : Recv w p m) (hl : cm m) (hi : i < 4294967296) (hF : ∀ t ∈ funs m, t < 4294967296) :
  Calls Tryz.prog 11 #[.pointer p, .int .u32 (i : Int)] w fun e w' => aR (func m i) w e w' := by
 have HL := J hl.funs
 have HTP := J (fun t (ht : t < 4294967296) W (hr : Recv W p m) => cZ p m t W hr hl ht)
 have HAT := J (fun W v (hv : ab W (· < W.heap.size) (funs m) v) => satU_any (funs m) v i W hv hi HL.out)
 cases hx : (funs m)[i]? with
 | none =>
  rw [hx] at HAT
  have HFN : Hid (func m i = none) := J (by unfold func; rw [hx]; rfl)
  clear hx
  obtain ⟨D, hu, hd⟩ := descOf cG
  have HU := J hu
  have HD := J hd
  clear hu hd
  have HZ0 := J (heap_alloc_new w (.cells #[.slice none 0 0, .slice none 0 0] 51))
  have HB0 : Hid (Below w.heap.size w (w.alloc (.cells #[.slice none 0 0, .slice none 0 0] 51))) := J ((Below.refl _ _).alloc (Nat.le_refl _) _)
  have HR := J (h.grow HB0.out)
  clear h hl
  go_enter Tryz.func11, Tryz.ntmps11
  go_upto_region 1 with fail
  generalize w.alloc (.cells #[.slice none 0 0, .slice none 0 0] 51) = w0 at HZ0 HB0 HR ⊢
  obtain ⟨Y, hY⟩ : ∃ Y, w.heap.size = Y := ⟨_, rfl⟩
  rw [hY] at HZ0
  have HY : Hid (w.heap.size ≤ Y) := J (by omega)
  simp only [hY]
  clear hY
  go_wp2_with (first | (go_at_call 42; refine (aO p m w0 HR.out).mono ?_; rintro e w1 ⟨P, rfl, hs, hb⟩; have HB1 := J (HB0.out.trans (hb.mono HB0.out.size)); have HZ1 := J ((hb.block Y (Array.getElem?_eq_some_iff.1 HZ0.out).1).trans HZ0.out); have HR1 := J (HR.out.grow hb); obtain ⟨A1, d1, A2, d2, A3, d3, A4, d4, A5, d5, A6, d6, h0, h1, h2, h3, h4, h5, h6⟩ := hs; obtain ⟨b0, b1, b2, b3, b4, b5, b6, b7, b8, b9⟩ := be h0; have HS := J h2; clear hb h0 h1 h2 h3 h4 h5 h6) | (go_at_call 44; refine (HAT.out w1 _ HS.out).mono ?_; rintro e w2 ⟨rfl, rfl⟩; clear b0 b1 b2 b3 b4 b5 b6 b7 b8 b9) | (refine aj rfl 51 (.tmp 4) (.tmp 21) rfl rfl Y #[.slice none 0 0, .slice none 0 0] rfl rfl 51 #[.slice none 0 0, .slice none 0 0] HZ1.out al rfl (by simp [Value.oneCell']) ?_))
  refine bodyPost_ret (v := .tuple #[.agg #[.slice none 0 0, .slice none 0 0], .bool false]) (au (p := 4) (q := 5) (ty := 51) (by kernel_rfl) _ _ Y 51 #[.slice none 0 0, .slice none 0 0] (0, 0) D rfl (setRow_heap _ _ #[.slice none 0 0, .slice none 0 0] _ _ _ (HZ1.out)) HU.out HD.out al (.bool false) rfl) rfl ?_
  rw [HFN.out]
  exact ⟨_, _, rfl, ab.nil _ _, ab.nil _ _, ac HB1.out HY.out _⟩
 | some t =>
  rw [hx] at HAT
  have HFN : Hid (func m i = m.types[t]?) := J (by unfold func; rw [hx]; rfl)
  have ht : t < 4294967296 := hF t (List.mem_of_getElem? hx)
  clear hx
  obtain ⟨D, hu, hd⟩ := descOf cG
  have HU := J hu
  have HD := J hd
  clear hu hd
  have HZ0 := J (heap_alloc_new w (.cells #[.slice none 0 0, .slice none 0 0] 51))
  have HB0 : Hid (Below w.heap.size w (w.alloc (.cells #[.slice none 0 0, .slice none 0 0] 51))) := J ((Below.refl _ _).alloc (Nat.le_refl _) _)
  have HR := J (h.grow HB0.out)
  clear h hl
  go_enter Tryz.func11, Tryz.ntmps11
  go_upto_region 1 with fail
  generalize w.alloc (.cells #[.slice none 0 0, .slice none 0 0] 51) = w0 at HZ0 HB0 HR ⊢
  obtain ⟨Y, hY⟩ : ∃ Y, w.heap.size = Y := ⟨_, rfl⟩
  rw [hY] at HZ0
  have HY : Hid (w.heap.size ≤ Y) := J (by omega)
  simp only [hY]
  clear hY
  go_wp2_with (first | (go_at_call 42; refine (aO p m w0 HR.out).mono ?_; rintro e w1 ⟨P, rfl, hs, hb⟩; have HB1 := J (HB0.out.trans (hb.mono HB0.out.size)); have HZ1 := J ((hb.block Y (Array.getElem?_eq_some_iff.1 HZ0.out).1).trans HZ0.out); have HR1 := J (HR.out.grow hb); obtain ⟨A1, d1, A2, d2, A3, d3, A4, d4, A5, d5, A6, d6, h0, h1, h2, h3, h4, h5, h6⟩ := hs; obtain ⟨b0, b1, b2, b3, b4, b5, b6, b7, b8, b9⟩ := be h0; have HS := J h2; clear hb h0 h1 h2 h3 h4 h5 h6) | (go_at_call 44; refine (HAT.out w1 _ HS.out).mono ?_; rintro e w2 ⟨rfl, rfl⟩; clear b0 b1 b2 b3 b4 b5 b6 b7 b8 b9) | (go_at_call 14; refine (HTP.out t ht _ HR1.out).mono ?_; rintro e w3 hq; obtain ⟨u, v, rfl, hs1, hs2, hb⟩ := hq; obtain ⟨E1, f1, e1, _⟩ := id hs1; obtain ⟨E2, f2, e2, _⟩ := id hs2; have HS1 := J hs1; have HS2 := J hs2; have HB3 := J (HB1.out.trans (hb.mono HB1.out.size)); have HZ3 := J ((hb.block Y (Array.getElem?_eq_some_iff.1 HZ1.out).1).trans HZ1.out); clear hb hs1 hs2; generalize hq1 : (Option.getD m.types[t]? ⟨[], []⟩).params.length = p1 at e1; generalize hq2 : (Option.getD m.types[t]? ⟨[], []⟩).results.length = p2 at e2; subst e1 e2; clear hq1 hq2) | (refine aj rfl 51 (.tmp 4) (.tmp 25) rfl rfl Y #[.slice E1 p1 f1, .slice E2 p2 f2] rfl rfl 51 #[.slice none 0 0, .slice none 0 0] HZ3.out al rfl (by simp [Value.oneCell']) ?_))
  refine bodyPost_ret (v := .tuple #[.agg #[.slice E1 p1 f1, .slice E2 p2 f2], .bool (m.types[t]?).isSome]) (au (p := 4) (q := 5) (ty := 51) (by kernel_rfl) _ _ Y 51 #[.slice E1 p1 f1, .slice E2 p2 f2] (0, 0) D rfl (setRow_heap _ _ #[.slice none 0 0, .slice none 0 0] _ _ _ (HZ3.out)) HU.out HD.out al (.bool (m.types[t]?).isSome) rfl) rfl ?_
  rw [HFN.out]
  have hms : Mod (· = Y) w3 (w3.setRow Y #[.slice E1 p1 f1, .slice E2 p2 f2]) := ⟨rfl, rfl, rfl, by simp, fun k _ ht => setRow_other w3 Y k _ ht⟩
  have hbz := ac HB3.out HY.out #[.slice E1 p1 f1, .slice E2 p2 f2]
  have hyl : Y < w2.heap.size := (Array.getElem?_eq_some_iff.1 HZ1.out).1
  have hwz : w.heap.size ≤ w2.heap.size := HB1.out.size
  have f {α : Type} [Lay α] {zs : List α} {v : Value} (h : ab w3 (w2.heap.size ≤ ·) zs v) : ab (w3.setRow Y #[.slice E1 p1 f1, .slice E2 p2 f2]) (w.heap.size ≤ ·) zs v := (h.mod hms (fun g _ hg e => by have e' : g = Y := e; have hg' : w2.heap.size ≤ g := hg; omega)).more (fun k _ hk => Nat.le_trans hwz hk)
  exact ⟨_, _, rfl, f HS1.out, f HS2.out, hbz⟩
theorem u8_at {w : World} {S : Nat → Prop} {A : Option Addr} {xs : List UInt8} {k : Nat} {x : UInt8} (h : HasL w S A xs) (hx : xs[k]? = some x) : ∃ g o, A = some ⟨g, o, none⟩ ∧ g < w.heap.size ∧ w.cell? ⟨g, o + k, none⟩ = some (.int .u8 (x.toNat : Int)) := by
 obtain ⟨g, o, cs, h1, _, h3, h4, h6⟩ := h k x hx
 have h4' : cs = [.int .u8 (x.toNat : Int)] := h4
 subst h4'
 have e := h6 0 _ rfl
 rw [show Lay.size UInt8 = 1 from rfl, Nat.mul_one, Nat.add_zero] at e
 exact ⟨g, o, h1, h3, e⟩
theorem bd (xs ys : List UInt8) (u v : Value) (w : World) (hu : ab w (· < w.heap.size) xs u) (hv : ab w (· < w.heap.size) ys v) (hl : xs.length ≤ 4000000) (hl2 : ys.length ≤ 4000000) :
  Calls Tryz.prog 96 #[u, v] w fun e w' => e = .returned (.bool (decide (xs = ys))) ∧ Below w.heap.size w w' := by
 obtain ⟨A1, c1, rfl, _, _, _, hL1⟩ := hu
 obtain ⟨A2, c2, rfl, _, _, _, hL2⟩ := hv
 have HL1 := J hL1
 have HL2 := J hL2
 obtain ⟨n1, hn1⟩ : ∃ n, xs.length = n := ⟨_, rfl⟩
 obtain ⟨n2, hn2⟩ : ∃ n, ys.length = n := ⟨_, rfl⟩
 rw [hn1] at hl ⊢
 rw [hn2] at hl2 ⊢
 have HN1 := J hn1
 have HN2 := J hn2
 clear hL1 hL2 hn1 hn2
 by_cases hq : n1 = n2
 ·subst hq
  have hqe : ((n1 : Int) == (n1 : Int)) = true := by simp
  have hqn : ((n1 : Int) != (n1 : Int)) = false := by simp
  go_enter Tryz.func96, Tryz.ntmps96
  go_upto_region 4 with fail
  go_loopw [13] (fun i wr => ∃ j : Nat, j ≤ n1 ∧ i = .int .i64 (j : Int) ∧ Hid (xs.take j = ys.take j) ∧ Hid (Below w.heap.size w wr)) (fun i _ => n1 - (intOf i).toNat)
  case atStart => exact ⟨0, Nat.zero_le _, rfl, J rfl, J (Below.refl _ _)⟩
  case round =>
   obtain ⟨j, hj, rfl, HE, HB⟩ := hrel
   by_cases hlt : j < n1
   ·have hlti : (j : Int) < (n1 : Int) := by omega
    obtain ⟨x, hx⟩ : ∃ x, xs[j]? = some x := ⟨_, List.getElem?_eq_getElem (by rw [HN1.out]; exact hlt)⟩
    obtain ⟨y, hy⟩ : ∃ y, ys[j]? = some y := ⟨_, List.getElem?_eq_getElem (by rw [HN2.out]; exact hlt)⟩
    obtain ⟨g, o, rfl, hg, hc⟩ := u8_at HL1.out hx
    obtain ⟨g2, o2, rfl, hg2, hc2⟩ := u8_at HL2.out hy
    have z0 := (HB.out.cell (p := ⟨g, o + j, none⟩) hg).trans hc
    have z1 := (HB.out.cell (p := ⟨g2, o2 + j, none⟩) hg2).trans hc2
    have HX := J hx
    have HY := J hy
    have hxk := x.toNat_lt
    have hyk := y.toNat_lt
    clear hx hy hc hc2 hg hg2
    by_cases hxy : x = y
    ·subst hxy
     have HT : Hid (xs.take (j + 1) = ys.take (j + 1)) := J (by rw [List.take_add_one, List.take_add_one, HX.out, HY.out, HE.out])
     have e1 : ((x.toNat : Int) != (x.toNat : Int)) = false := by simp
     go_upto_region 6 with fail
     go_quiet (fail)
     go_wp2_with fail
     go_roundw
     case rel => exact ⟨j + 1, by omega, by go_num, HT, J (Below.dn HB.out _)⟩
     case measure => simp [intOf]; omega
    ·have hne : ¬ x.toNat = y.toNat := fun e => hxy (UInt8.toNat_inj.1 e)
     have e1 : ((x.toNat : Int) != (y.toNat : Int)) = true := by rw [bne_iff_ne]; omega
     have HF : Hid (decide (xs = ys) = false) := J (decide_eq_false (fun e => hxy (by
      have h1 := HX.out
      rw [e, HY.out] at h1
      exact (Option.some.inj h1).symm)))
     clear hxy hne
     go_upto_region 6 with fail
     go_quiet (fail)
     go_wp2_with fail
     go_ret
     exact ⟨by rw [HF.out]; rfl, Below.dn HB.out _⟩
   ·have hlti : decide ((j : Int) < (n1 : Int)) = false := decide_eq_false (by omega)
    have HF : Hid (decide (xs = ys) = true) := J (decide_eq_true (by
     have h1 := HE.out
     rw [List.take_of_length_le (by rw [HN1.out]; omega), List.take_of_length_le (by rw [HN2.out]; omega)] at h1
     exact h1))
    go_wp2_with fail
    go_ret
    exact ⟨by rw [HF.out]; rfl, HB.out⟩
 ·have hqe : ((n1 : Int) == (n2 : Int)) = false := by rw [beq_eq_false_iff_ne]; omega
  have hqn : ((n1 : Int) != (n2 : Int)) = true := by rw [bne_iff_ne]; omega
  have HF : Hid (decide (xs = ys) = false) := J (decide_eq_false (fun e => hq (by rw [← HN1.out, ← HN2.out, e])))
  clear hq
  go_enter Tryz.func96, Tryz.ntmps96
  go_wp2_with fail
  go_ret
  exact ⟨by rw [HF.out]; rfl, Below.refl _ _⟩
theorem src0_any (A : Option Addr) (n c k : Nat) (w : World) (_hn : n ≤ 4000000) : Calls Tryz.prog 63 #[.agg #[.slice A n c, .int .i64 (k : Int)]] w fun e w' => e = .returned (.tuple #[.int .i64 (n : Int), .int .i64 (k : Int)]) ∧ Below w.heap.size w w' := by
 have HX0 := J (heap_alloc_new w (.cells #[.slice A n c, .int .i64 (k : Int)] 85))
 have HB0 : Hid (Below w.heap.size w (w.alloc (.cells #[.slice A n c, .int .i64 (k : Int)] 85))) := J ((Below.refl _ _).alloc (Nat.le_refl _) _)
 go_enter Tryz.func63, Tryz.ntmps63
 go_upto_region 1 with fail
 generalize w.alloc (.cells #[.slice A n c, .int .i64 (k : Int)] 85) = w0 at HX0 HB0 ⊢
 obtain ⟨y0, y1⟩ := ae HX0.out
 go_quiet (fail)
 go_wp2_with fail
 go_ret2
 exact ⟨rfl, Below.dn HB0.out _⟩
theorem src1_any (A : Option Addr) (n c k : Nat) (w : World) (_hn : n ≤ 4000000) : Calls Tryz.prog 64 #[.agg #[.slice A n c, .int .i64 (k : Int)]] w fun e w' => e = .returned (.tuple #[.int .i64 (n : Int), .int .i64 (k : Int)]) ∧ Below w.heap.size w w' := by
 have HX0 := J (heap_alloc_new w (.cells #[.slice A n c, .int .i64 (k : Int)] 91))
 have HB0 : Hid (Below w.heap.size w (w.alloc (.cells #[.slice A n c, .int .i64 (k : Int)] 91))) := J ((Below.refl _ _).alloc (Nat.le_refl _) _)
 go_enter Tryz.func64, Tryz.ntmps64
 go_upto_region 1 with fail
 generalize w.alloc (.cells #[.slice A n c, .int .i64 (k : Int)] 91) = w0 at HX0 HB0 ⊢
 obtain ⟨y0, y1⟩ := ae HX0.out
 go_quiet (fail)
 go_wp2_with fail
 go_ret2
 exact ⟨rfl, Below.dn HB0.out _⟩
theorem src3_any (A : Option Addr) (n c k : Nat) (w : World) (_hn : n ≤ 4000000) : Calls Tryz.prog 65 #[.agg #[.slice A n c, .int .i64 (k : Int)]] w fun e w' => e = .returned (.tuple #[.int .i64 (n : Int), .int .i64 (k : Int)]) ∧ Below w.heap.size w w' := by
 have HX0 := J (heap_alloc_new w (.cells #[.slice A n c, .int .i64 (k : Int)] 97))
 have HB0 : Hid (Below w.heap.size w (w.alloc (.cells #[.slice A n c, .int .i64 (k : Int)] 97))) := J ((Below.refl _ _).alloc (Nat.le_refl _) _)
 go_enter Tryz.func65, Tryz.ntmps65
 go_upto_region 1 with fail
 generalize w.alloc (.cells #[.slice A n c, .int .i64 (k : Int)] 97) = w0 at HX0 HB0 ⊢
 obtain ⟨y0, y1⟩ := ae HX0.out
 go_quiet (fail)
 go_wp2_with fail
 go_ret2
 exact ⟨rfl, Below.dn HB0.out _⟩
theorem de (P : Nat) (m : M) (k : Nat) (hk : k < 256) (w : World) (hs : aI w P m) (hl : cm m) :
  Calls Tryz.prog 43 #[.pointer (some ⟨P, 0, none⟩), .int .u8 (k : Int)] w fun e w' => e = .returned (.tuple #[.int .i64 (count m k : Int), .int .i64 (imported m k : Int)]) ∧ Below w.heap.size w w' := by
 obtain ⟨A1, d1, A2, d2, A3, d3, A4, d4, A5, d5, A6, d6, h0, h1, h2, h3, h4, h5, h6⟩ := hs
 obtain ⟨b0, b1, b2, b3, b4, b5, b6, b7, b8, b9⟩ := be h0
 clear h0 h1 h2 h3 h4 h5 h6 b0 b9
 rw [cI] at b1
 rw [bB] at b3
 rw [bA] at b5
 rw [ca] at b7
 have l0 : count m 0 ≤ 4000000 := by rw [← cI]; exact hl.funs
 have l1 : count m 1 ≤ 4000000 := by rw [← bB]; exact hl.tabs
 have l2 : count m 2 ≤ 4000000 := by rw [← bA]; exact hl.mems
 have l3 : count m 3 ≤ 4000000 := by rw [← ca]; exact hl.globs
 have HL0 := J l0
 have HL1 := J l1
 have HL2 := J l2
 have HL3 := J l3
 clear l0 l1 l2 l3 hl
 rcases (by omega : k = 0 ∨ k = 1 ∨ k = 2 ∨ k = 3 ∨ 4 ≤ k) with rfl | rfl | rfl | rfl | h4
 ·have hi : imported m 0 = (imps m 0).length := aC (by decide)
  rw [hi]
  generalize (imps m 0).length = q at *
  generalize count m 0 = ct at *
  clear hi
  go_enter Tryz.func43, Tryz.ntmps43
  go_wp2_with (go_at_call 63; refine (src0_any _ _ _ _ w HL0.out).mono ?_; rintro e w1 ⟨rfl, hb⟩; have HB := J hb; clear hb)
  go_ret2
  exact ⟨rfl, HB.out⟩
 ·have hi : imported m 1 = (imps m 1).length := aC (by decide)
  rw [hi]
  generalize (imps m 1).length = q at *
  generalize count m 1 = ct at *
  clear hi
  go_enter Tryz.func43, Tryz.ntmps43
  go_wp2_with (go_at_call 64; refine (src1_any _ _ _ _ w HL1.out).mono ?_; rintro e w1 ⟨rfl, hb⟩; have HB := J hb; clear hb)
  go_ret2
  exact ⟨rfl, HB.out⟩
 ·have hi : imported m 2 = (imps m 2).length := aC (by decide)
  rw [hi]
  generalize (imps m 2).length = q at *
  generalize count m 2 = ct at *
  clear hi
  go_enter Tryz.func43, Tryz.ntmps43
  go_wp2_with (go_at_call 64; refine (src1_any _ _ _ _ w HL2.out).mono ?_; rintro e w1 ⟨rfl, hb⟩; have HB := J hb; clear hb)
  go_ret2
  exact ⟨rfl, HB.out⟩
 ·have hi : imported m 3 = (imps m 3).length := aC (by decide)
  rw [hi]
  generalize (imps m 3).length = q at *
  generalize count m 3 = ct at *
  clear hi
  go_enter Tryz.func43, Tryz.ntmps43
  go_wp2_with (go_at_call 65; refine (src3_any _ _ _ _ w HL3.out).mono ?_; rintro e w1 ⟨rfl, hb⟩; have HB := J hb; clear hb)
  go_ret2
  exact ⟨rfl, HB.out⟩
 ·have q0 : ((k : Int) == 0) = false := by rw [beq_eq_false_iff_ne]; omega
  have q1 : ((k : Int) == 1) = false := by rw [beq_eq_false_iff_ne]; omega
  have q2 : ((k : Int) == 2) = false := by rw [beq_eq_false_iff_ne]; omega
  have q3 : ((k : Int) == 3) = false := by rw [beq_eq_false_iff_ne]; omega
  have hi : imported m k = 0 := imported_no (by omega)
  have hm : mine m k = 0 := by unfold mine; rw [if_neg (by omega), if_neg (by omega), if_neg (by omega), if_neg (by omega)]
  have hc : count m k = 0 := by unfold count; rw [hi, hm]
  rw [hi, hc]
  clear h4 hi hm hc
  go_enter Tryz.func43, Tryz.ntmps43
  go_wp2_with fail
  go_ret2
  exact ⟨rfl, Below.refl _ _⟩
theorem aW (p : Option Addr) (m : M) (k : Nat) (hk : k < 256) (w : World) (h : Recv w p m) (hl : cm m) :
  Calls Tryz.prog 10 #[.pointer p, .int .u8 (k : Int)] w fun e w' => e = .returned (.int .i64 (count m k : Int)) ∧ Below w.heap.size w w' := by
 have HR := J h
 have HC := J (fun P W (hs : aI W P m) => de P m k hk W hs hl)
 clear h hl
 generalize count m k = ct at HC ⊢
 generalize imported m k = ci at HC
 go_enter Tryz.func10, Tryz.ntmps10
 go_wp2_with (first | (go_at_call 42; refine (aO p m w HR.out).mono ?_; rintro e w1 ⟨P, rfl, hs, hb⟩; have HS := J hs; have HB1 := J hb; clear hs hb) | (go_at_call 43; refine (HC.out P w1 HS.out).mono ?_; rintro e w2 ⟨rfl, hb⟩; have HB2 := J (HB1.out.trans (hb.mono HB1.out.size)); clear hb))
 go_ret
 exact ⟨rfl, HB2.out⟩
theorem bx (p : Option Addr) (m : M) (k : Nat) (hk : k < 256) (w : World) (h : Recv w p m) (hl : cm m) :
  Calls Tryz.prog 12 #[.pointer p, .int .u8 (k : Int)] w fun e w' => e = .returned (.int .i64 (imported m k : Int)) ∧ Below w.heap.size w w' := by
 have HR := J h
 have HC := J (fun P W (hs : aI W P m) => de P m k hk W hs hl)
 clear h hl
 generalize count m k = ct at HC
 generalize imported m k = ci at HC ⊢
 go_enter Tryz.func12, Tryz.ntmps12
 go_wp2_with (first | (go_at_call 42; refine (aO p m w HR.out).mono ?_; rintro e w1 ⟨P, rfl, hs, hb⟩; have HS := J hs; have HB1 := J hb; clear hs hb) | (go_at_call 43; refine (HC.out P w1 HS.out).mono ?_; rintro e w2 ⟨rfl, hb⟩; have HB2 := J (HB1.out.trans (hb.mono HB1.out.size)); clear hb))
 go_ret
 exact ⟨rfl, HB2.out⟩
theorem ei (x y : FT) (u1 u2 v1 v2 : Value) (w : World) (hu1 : ab w (· < w.heap.size) x.params u1) (hu2 : ab w (· < w.heap.size) x.results u2) (hv1 : ab w (· < w.heap.size) y.params v1) (hv2 : ab w (· < w.heap.size) y.results v2)
  (hx : x.params.length ≤ 4000000 ∧ x.results.length ≤ 4000000) (hy : y.params.length ≤ 4000000 ∧ y.results.length ≤ 4000000) :
  Calls Tryz.prog 61 #[.agg #[u1, u2], .agg #[v1, v2]] w fun e w' => e = .returned (.bool (decide (x = y))) ∧ Below w.heap.size w w' := by
 have HQ1 := J (fun W (hb : Below w.heap.size w W) => bd x.params y.params u1 v1 W (hu1.grow hb) (hv1.grow hb) hx.1 hy.1)
 have HQ2 := J (fun W (hb : Below w.heap.size w W) => bd x.results y.results u2 v2 W (hu2.grow hb) (hv2.grow hb) hx.2 hy.2)
 have HXY : Hid ((x = y) = (x.params = y.params ∧ x.results = y.results)) := J (by cases x; cases y; simp)
 obtain ⟨A1, c1, rfl, _⟩ := hu1
 obtain ⟨A2, c2, rfl, _⟩ := hu2
 obtain ⟨A3, c3, rfl, _⟩ := hv1
 obtain ⟨A4, c4, rfl, _⟩ := hv2
 generalize x.params.length = n1 at *
 generalize x.results.length = n2 at *
 generalize y.params.length = n3 at *
 generalize y.results.length = n4 at *
 clear hx hy
 have HX0 : Hid (((w.alloc (.cells #[.slice A1 n1 c1, .slice A2 n2 c2] 51)).alloc (.cells #[.slice A3 n3 c3, .slice A4 n4 c4] 51)).heap[w.heap.size]? = some (.cells #[.slice A1 n1 c1, .slice A2 n2 c2] 51 (0, 0))) := J ((Below.heap_alloc _ _ _ (by simp)).trans (heap_alloc_new w _))
 have HX1 : Hid (((w.alloc (.cells #[.slice A1 n1 c1, .slice A2 n2 c2] 51)).alloc (.cells #[.slice A3 n3 c3, .slice A4 n4 c4] 51)).heap[w.heap.size + 1]? = some (.cells #[.slice A3 n3 c3, .slice A4 n4 c4] 51 (0, 0))) := J (by have := heap_alloc_new (w.alloc (.cells #[.slice A1 n1 c1, .slice A2 n2 c2] 51)) (.cells #[.slice A3 n3 c3, .slice A4 n4 c4] 51); simpa using this)
 have HB0 : Hid (Below w.heap.size w ((w.alloc (.cells #[.slice A1 n1 c1, .slice A2 n2 c2] 51)).alloc (.cells #[.slice A3 n3 c3, .slice A4 n4 c4] 51))) := J (((Below.refl _ _).alloc (Nat.le_refl _) _).alloc (by simp) _)
 have HDEC : Hid (decide (x = y) = (decide (x.params = y.params) && decide (x.results = y.results))) := J (by rw [← Bool.decide_and]; simp only [HXY.out])
 clear HXY
 generalize decide (x = y) = dd at HDEC ⊢
 generalize decide (x.params = y.params) = e1 at HQ1 HDEC
 generalize decide (x.results = y.results) = e2 at HQ2 HDEC
 go_enter Tryz.func61, Tryz.ntmps61
 go_upto_region 1 with fail
 generalize (w.alloc (.cells #[.slice A1 n1 c1, .slice A2 n2 c2] 51)).alloc (.cells #[.slice A3 n3 c3, .slice A4 n4 c4] 51) = w0 at HX0 HX1 HB0 ⊢
 obtain ⟨y0, y1⟩ := ae HX0.out
 obtain ⟨y2, y3⟩ := ae HX1.out
 cases e1 with
 | false =>
  have tok1 : True := trivial
  go_wp2_with (go_at_call 96; clear tok1; refine (HQ1.out w0 HB0.out).mono ?_; rintro e w1 ⟨rfl, hb⟩; have HB1 := J (HB0.out.trans (hb.mono HB0.out.size)); clear hb)
  go_ret
  exact ⟨by rw [HDEC.out]; rfl, HB1.out⟩
 | true =>
  have tok1 : True := trivial
  go_wp2_with (first | (go_at_call 96; clear tok1; refine (HQ1.out w0 HB0.out).mono ?_; rintro e w1 ⟨rfl, hb⟩; have HB1 := J (HB0.out.trans (hb.mono HB0.out.size)); obtain ⟨y0, y1⟩ := ae ((hb.block _ (Array.getElem?_eq_some_iff.1 HX0.out).1).trans HX0.out); obtain ⟨y2, y3⟩ := ae ((hb.block _ (Array.getElem?_eq_some_iff.1 HX1.out).1).trans HX1.out); clear hb) | (go_at_call 96; refine (HQ2.out w1 HB1.out).mono ?_; rintro e w2 ⟨rfl, hb⟩; have HB2 := J (HB1.out.trans (hb.mono HB1.out.size)); clear hb))
  go_ret
  exact ⟨by rw [HDEC.out]; cases e2 <;> rfl, HB2.out⟩
end Go.Proofs.YtelcdmkbaegjoaaGreat
