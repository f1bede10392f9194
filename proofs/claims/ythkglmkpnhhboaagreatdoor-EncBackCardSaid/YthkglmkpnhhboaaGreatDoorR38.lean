/-
  Layer 6: bytes.Clone as the reader calls it; a part of the bytes; runs of locals and their sum.
-/
import Derived.Test.YthkglmkpnhhboaaGreatDoorR01
import Derived.Test.YthkglmkpnhhboaaGreatDoorR37
import Derived.Test.YthkglmkpnhhboaaGreatDoorR13
import Derived.Deep.Cut
set_option maxRecDepth 100000
set_option maxHeartbeats 4000000
namespace Bin
open Ins
theorem eo {l : List UInt8} {x : Lc} {k : Nat} (h : loc l = .ok (x, k)) : 1 ≤ k ∧ k ≤ l.length ∧ x.n < 4294967296 := by
 obtain ⟨n, i, j, h1, h2, rfl⟩ := P.then_ok h
 obtain ⟨a1, a2, a3, _⟩ := aB h1
 obtain ⟨t, i2, j2, h3, h4, rfl⟩ := P.then_ok h2
 obtain ⟨rfl, rfl⟩ := aA h4
 obtain ⟨y, i3, j3, h5, h6, rfl⟩ := P.then_ok h3
 have hb : i3 = 1 ∧ 1 ≤ (l.drop i).length := by
  cases hd : l.drop i with
  | nil => rw [hd] at h5; cases h5
  | cons z r => exact ⟨by rw [hd] at h5; exact byte_ok h5, by simp⟩
 have hj : j3 = 0 := by
  split at h6
  ·cases h6
  ·split at h6
   ·exact (aA h6).2
   ·cases h6
 rw [List.length_drop] at hb
 exact ⟨by omega, by omega, a1⟩
theorem dw {α : Type} {p : P α} (hp : ∀ l x k, p l = .ok (x, k) → 1 ≤ k ∧ k ≤ l.length) : ∀ (n : Nat) (l : List UInt8) (xs : List α) (k : Nat), many p n l = .ok (xs, k) → xs.length ≤ k ∧ k ≤ l.length
 | 0, l, xs, k, h => by
  obtain ⟨rfl, rfl⟩ := aA h
  simp
 | n + 1, l, xs, k, h => by
  obtain ⟨x, i, j, h1, h2, rfl⟩ := P.then_ok h
  obtain ⟨ys, i2, j2, h3, h4, rfl⟩ := P.then_ok h2
  obtain ⟨rfl, rfl⟩ := aA h4
  obtain ⟨a1, a2⟩ := hp _ _ _ h1
  obtain ⟨b1, b2⟩ := dw hp n _ _ _ h3
  rw [List.length_drop] at b2
  simp only [List.length_cons]
  omega
theorem locs_len {l : List UInt8} {xs : List Lc} {k : Nat} (h : list loc l = .ok (xs, k)) : xs.length ≤ l.length := by
 obtain ⟨n, i, j, h1, h2, rfl⟩ := P.then_ok h
 obtain ⟨b1, b2⟩ := dw (fun l x k h => ⟨(eo h).1, (eo h).2.1⟩) n _ _ _ h2
 rw [List.length_drop] at b2
 omega
theorem locs_lt {l : List UInt8} {xs : List Lc} {k : Nat} (h : list loc l = .ok (xs, k)) : ∀ x ∈ xs, x.n < 4294967296 := by
 have := list_all (Q := fun x => decide (x.n < 4294967296)) (fun l x k h => decide_eq_true (eo h).2.2) h
 intro x hx
 exact of_decide_eq_true (List.all_eq_true.1 this x hx)
def sumTo (xs : List Lc) (j : Nat) : Nat := locSum (xs.take j)
theorem gE {xs : List Lc} {j : Nat} {x : Lc} (h : xs[j]? = some x) : sumTo xs (j + 1) = sumTo xs j + x.n := by
 unfold sumTo locSum
 rw [List.take_add_one, h]
 simp
theorem sumTo_le {xs : List Lc} (h : ∀ x ∈ xs, x.n < 4294967296) : ∀ (j : Nat), sumTo xs j ≤ j * 4294967296
 | 0 => by simp [sumTo, locSum]
 | j + 1 => by
  have ih := sumTo_le h j
  cases hx : xs[j]? with
  | none =>
   have : sumTo xs (j + 1) = sumTo xs j := by
    unfold sumTo
    rw [List.take_add_one, hx]
    simp
   omega
  | some x =>
   have := h x (List.mem_of_getElem? hx)
   rw [gE hx]
   omega
def locsP : P (List Lc) := (list loc).then fun ls => if locSum ls < 4294967296 then P.ret ls else P.fail 60
theorem iK : cdIn = locsP.then fun ls => expr.then fun e => P.ret ⟨ls, e⟩ := by
 unfold cdIn locsP
 rw [aW]
 refine aF _ fun ls => ?_
 rw [dF, cP, cL]
end Bin
namespace Go.Proofs.YthkglmkpnhhboaaGreatDoor
open Go.RowKit Ins Bin
theorem lays_at : ∀ (l : List UInt8), (l.map fun x => (x, [Value.int .u8 (x.toNat : Int)])).flatMap (·.2) = bytesOf l
 | [] => rfl
 | x :: l => by
  have ih := lays_at l
  simp only [List.map_cons, List.flatMap_cons, ih]
  rfl
theorem own_sv {w : World} {base : Nat} {v : Value} {l : List UInt8} (h : w.ownsRow base 5 1 v l.length (bytesOf l)) : J w (base ≤ ·) l v := by
 refine OwnL.tell (t := 5) (S := (base ≤ ·)) ⟨l.map fun x => (x, [Value.int .u8 (x.toNat : Int)]), by simp [List.map_map, Function.comp_def], ?_, ?_⟩ (fun _ h => h)
 ·rw [lays_at]; exact h
 ·intro y hy
  obtain ⟨x, _, rfl⟩ := List.mem_map.1 hy
  rfl
theorem iT {R n : Nat} {w : World} {l : List UInt8} {e : Ending} {w' : World} (h : TkB R w l n e w') :
  ap R w l (takeP n l) (fun w' b v => b.length = n ∧ ∃ A c, v = .slice A n c ∧ n ≤ c ∧ c ≤ maxLen ∧ (A = none → c = 0) ∧ Has w' R A b) e w' := by
 unfold TkB at h
 unfold takeP ap
 by_cases hn : n ≤ l.length
 ·rw [if_pos hn] at h ⊢
  obtain ⟨A, c, h1, h2, h3, h4, h5, h6, h7⟩ := h
  exact ⟨_, h1, ⟨by simp; omega, A, c, rfl, h2, h3, h4, h5⟩, h6, h7⟩
 ·rw [if_neg hn] at h ⊢
  exact h
theorem part_any (R n : Nat) (l : List UInt8) (w : World) (h : Rb w R l) (hn : n < 4294967296) :
  Calls Tryz.prog 121 #[.pointer (some ⟨R, 0, none⟩), .int .u32 (n : Int)] w (ap R w l (takeP n l) fun w' b v => b.length = n ∧ ∃ A c, v = .slice A n c ∧ n ≤ c ∧ c ≤ maxLen ∧ (A = none → c = 0) ∧ Has w' R A b) :=
 (it R n l w h hn).mono fun _ _ h => iT h
theorem clone_sv (A : Option Addr) (b : List UInt8) (n c : Nat) (w : World) (hA : Has w w.heap.size A b) (hn : b.length = n) (hsz : n ≤ 100000000000000) (hA0 : A = none → c = 0) :
  Calls Tryz.prog 29 #[.slice A n c] w fun e w' => ∃ v, e = .returned v ∧ J w' (w.heap.size ≤ ·) b v ∧ Below w.heap.size w w' := by
 refine (iv A b n c w hA hn.symm (by omega) hA0).mono ?_
 rintro e w' ⟨v, rfl, ho, hb⟩
 exact ⟨v, rfl, own_sv ho, hb⟩
theorem blocals_any (R : Nat) (l : List UInt8) (w : World) (hR : Rb w R l) (hT : Tb w) :
  Calls Tryz.prog 122 #[.pointer (some ⟨R, 0, none⟩)] w (ap R w l (locsP l) fun w' xs v => J w' (w.heap.size ≤ ·) xs v) := by
 have HLT := Y hR.lt
 have HLEN := Y hR.len
 have HC := Y (locs_any loc R l w hR hT fun l' W hR' hT' => bloc_any R l' W hR' hT')
 clear hR hT
 cases h : list loc l with
 | error e0 =>
  have HE : Hid (locsP l = .error e0) := Y (ak h)
  rw [h] at HC
  clear h
  go_enter Tryz.func122, Tryz.ntmps122
  go_wp2_with (go_at_call 141; refine HC.out.mono ?_; rintro e w1 ⟨rfl, hm⟩)
  rw [HE.out]
  exact ⟨rfl, rfl, hm⟩
 | ok q =>
  obtain ⟨xs, k⟩ := q
  rw [h] at HC
  have hlen := locs_len h
  have hsl := sumTo_le (locs_lt h)
  have HSL := Y hsl
  have HXN := Y (locs_lt h)
  have hpost : locsP l = if locSum xs < 4294967296 then .ok (xs, k) else .error 60 := by
   unfold locsP
   by_cases hs : locSum xs < 4294967296
   ·rw [if_pos hs, ae (j := 0) h rfl (by rw [if_pos hs]; rfl)]; rfl
   ·rw [if_neg hs]
    exact ag h rfl (by rw [if_neg hs]; rfl)
  have HE := Y hpost
  have hall : sumTo xs xs.length = locSum xs := by unfold sumTo; rw [List.take_of_length_le (Nat.le_refl _)]
  have hbig : locSum xs ≤ 281474976710656 := by have := hsl xs.length; have := HLEN.out; omega
  have HALL := Y hall
  have HBIG := Y hbig
  have hlen2 : xs.length ≤ 65536 := by have := HLEN.out; omega
  clear h hpost hall hbig hsl hlen
  obtain ⟨n, hn⟩ : ∃ n, xs.length = n := ⟨_, rfl⟩
  rw [hn] at hlen2 HALL
  have HNX := Y hn
  clear hn
  go_enter Tryz.func122, Tryz.ntmps122
  go_upto_region 4 with (go_at_call 141; refine HC.out.mono ?_; rintro e w1 ⟨v, rfl, hv, hr, hm⟩; have hv2 := hv; obtain ⟨A, c, rfl, hc1, hc2, hc3, hcells⟩ := hv; have HV := Y hv2; have HCE := Y hcells; have HR1 := Y hr; have HM1 := Y hm; simp only [HNX.out] at hc1 ⊢; clear hv2 hr hm hcells hc2 hc3)
  go_loopw [4, 11] (fun s i wr => ∃ j : Nat, j ≤ n ∧ i = .int .i64 (j : Int) ∧ s = .int .u64 (sumTo xs j : Int) ∧ Hid (Mod (fun _ => False) w1 wr)) (fun _ i _ => n - (intOf i).toNat)
  case atStart => exact ⟨0, by omega, rfl, rfl, Y (Mod.refl _ _)⟩
  case round =>
   obtain ⟨j, hj, rfl, rfl, HM⟩ := hrel
   by_cases hjn : j < n
   ·obtain ⟨x, hx⟩ : ∃ x, xs[j]? = some x := ⟨_, List.getElem?_eq_getElem (by rw [HNX.out]; exact hjn)⟩
    obtain ⟨g, o, cs, rfl, _, hg, ⟨hcs, hxn⟩, hcell⟩ := HCE.out j x hx
    subst hcs
    have hji : (j : Int) < (n : Int) := by omega
    have z0 := HM.out.cell (hcell 0 _ rfl) (fun h => h)
    have z1 := HM.out.cell (hcell 1 _ rfl) (fun h => h)
    have hsz : Lay.size Lc = 2 := rfl
    rw [hsz] at z0 z1
    simp only [Nat.add_zero] at z0
    have hs1 := HSL.out j
    have hs2 := gE hx
    have hw1 : IntKind.u64.wrap (x.n : Int) = (x.n : Int) := IntWalk.u64_in _ (by omega)
    have hw2 : IntKind.u64.wrap ((sumTo xs j : Int) + (x.n : Int)) = (sumTo xs j : Int) + (x.n : Int) := IntWalk.u64_in _ (by omega)
    have HS2 := Y hs2
    have HMX := Y (HM.out.alloc (.cells #[.int .u32 (x.n : Int), .int .u8 (x.t.toNat : Int)] 121))
    clear hx hcell hsz hs2
    generalize sumTo xs j = s at hs1 hw2 HS2 ⊢
    go_wp2_with fail
    go_roundw
    case rel => exact ⟨j + 1, by omega, by go_num, by rw [HS2.out]; go_num, HMX⟩
    case measure => simp [intOf]; omega
   ·obtain rfl : n = j := by omega
    have hS := HALL.out
    rw [hS]
    have HB2 := HBIG.out
    by_cases hs : locSum xs < 4294967296
    ·have hd : decide ((4294967295 : Int) < (locSum xs : Int)) = false := decide_eq_false (by omega)
     have HEE := HE.out
     rw [if_pos hs] at HEE
     have HEY := Y HEE
     clear HEE hS hs HB2
     generalize locSum xs = s at hd ⊢
     go_wp2_with fail
     go_ret
     rw [HEY.out]
     have hMM := HM.out
     refine ⟨_, rfl, ?_, HR1.out.keep hMM (fun _ _ h => h), HM1.out.trans hMM (fun _ _ h => h.elim)⟩
     have := HV.out.mod hMM (fun _ _ _ h => h)
     rwa [HNX.out] at this
    ·have hd : (4294967295 : Int) < (locSum xs : Int) := by omega
     have HEE := HE.out
     rw [if_neg hs] at HEE
     have HEY := Y HEE
     clear HEE hS hs HB2
     generalize locSum xs = s at hd ⊢
     go_wp2_with fail
     rw [HEY.out]
     exact ⟨rfl, rfl, HM1.out.trans HM.out (fun _ _ h => h.elim)⟩
end Go.Proofs.YthkglmkpnhhboaaGreatDoor
namespace Bin
open Ins
theorem fL : cd = num.then fun n => (takeP n).then fun b => match whole cdIn b with | .error e => P.fail e | .ok c => P.ret c := by
 show (num.then takeP).then _ = _
 rw [aW]
 rfl
theorem f6 {α : Type} {p : P α} {b : List UInt8} {e : Nat} (h : p b = .error e) : whole p b = .error e := by
 unfold whole
 rw [h]
theorem eK {α : Type} {p : P α} {b b' : List UInt8} {a : α} {k : Nat} (h : p b = .ok (a, k)) (hk : k ≤ b.length) (hb : b.drop k = b') : whole p b = if b'.length = 0 then .ok a else .error 60 := by
 subst hb
 unfold whole
 rw [h]
 dsimp only
 rw [List.length_drop]
 by_cases h0 : b.length - k = 0
 ·rw [if_pos h0, if_pos (by omega)]
 ·rw [if_neg h0, if_neg (by omega)]
theorem num_k {l : List UInt8} {n k : Nat} (h : num l = .ok (n, k)) : k ≤ l.length := (aB h).2.2.1
theorem locsP_k {l : List UInt8} {xs : List Lc} {k : Nat} (h : locsP l = .ok (xs, k)) : k ≤ l.length := by
 obtain ⟨ys, i, j, h1, h2, rfl⟩ := P.then_ok h
 obtain ⟨n, i2, j2, h3, h4, rfl⟩ := P.then_ok h1
 obtain ⟨b1, b2⟩ := dw (fun l x k h => ⟨(eo h).1, (eo h).2.1⟩) n _ _ _ h4
 have := num_k h3
 rw [List.length_drop] at b2
 split at h2
 ·obtain ⟨_, rfl⟩ := aA h2; omega
 ·cases h2
theorem expr_k {l : List UInt8} {xs : List I} {k : Nat} (h : Bin.expr l = .ok (xs, k)) : k ≤ l.length := (bS _ _ _ _ _ h).2.2.2.1
theorem takeP_ok {n : Nat} {l b : List UInt8} {k : Nat} (h : takeP n l = .ok (b, k)) : b.length = n ∧ n ≤ l.length := by
 unfold takeP at h
 split at h
 ·injection h with h
  injection h with h1 h2
  subst h1
  simp; omega
 ·cases h
end Bin
namespace Go.Proofs.YthkglmkpnhhboaaGreatDoor
open Go.RowKit Ins Bin
theorem jd {w : World} {R n c : Nat} {A : Option Addr} {b : List UInt8} (hA : Has w R A b) (hR : R < w.heap.size) (h2 : 2 ≤ R) (hn : b.length = n) (hlen : n ≤ 65536) (hc : n ≤ c) (hcm : c ≤ maxLen) (h0 : A = none → c = 0) : Rb (w.alloc (.cells #[.slice A n c] 118)) w.heap.size b := by
 subst hn
 exact ⟨A, c, heap_alloc_new w _, (hA.more (Nat.le_of_lt hR)).alloc (Nat.le_refl _) _, hlen, hc, hcm, h0, by omega⟩
theorem cells3 {w : World} {X : Nat} {x0 x1 x2 : Value} {t : TypeId} (h : w.heap[X]? = some (.cells #[x0, x1, x2] t (0, 0))) : w.cell? ⟨X, 0, none⟩ = some x0 ∧ w.cell? ⟨X, 1, none⟩ = some x1 ∧ w.cell? ⟨X, 2, none⟩ = some x2 := by
 refine ⟨?_, ?_, ?_⟩ <;> (rw [cell_of_row w X _ _ t (0, 0) h]; rfl)
theorem des_bcd_any : (Tryz.prog.underlying 54).map aggI = some true := by kernel_rfl
theorem fe : (Tryz.prog.info? 54).map (·.size) = some 2 := by kernel_rfl
theorem bcd_any (R : Nat) (l : List UInt8) (w : World) (hR : Rb w R l) (hT : Tb w) :
  Calls Tryz.prog 84 #[.pointer (some ⟨R, 0, none⟩)] w (ap R w l (cd l) (bI w.heap.size)) := by
 obtain ⟨D, hu, hd⟩ := desOf des_bcd_any
 have HU := Y hu
 have HD := Y hd
 have HLT := Y hR.lt
 have H2R := Y hR.two
 have HLEN := Y hR.len
 have HR0 : Hid (Rb (w.alloc (.cells #[.slice none 0 0, .slice none 0 0] 54)) R l) := Y (hR.alloc _)
 have HT0 : Hid (Tb (w.alloc (.cells #[.slice none 0 0, .slice none 0 0] 54))) := Y (hT.on ((Below.refl _ _).alloc (Nat.le_refl _) _))
 have HM0 : Hid (Mod (· = R) w (w.alloc (.cells #[.slice none 0 0, .slice none 0 0] 54))) := Y ((Mod.refl _ w).alloc _)
 have HZ0 : Hid ((w.alloc (.cells #[.slice none 0 0, .slice none 0 0] 54)).heap[w.heap.size]? = some (.cells #[.slice none 0 0, .slice none 0 0] 54 (0, 0))) := Y (heap_alloc_new w _)
 have HS0 : Hid (w.heap.size + 1 ≤ (w.alloc (.cells #[.slice none 0 0, .slice none 0 0] 54)).heap.size) := Y (by simp)
 clear hu hd hR hT
 have tok1 : True := trivial
 have tok2 : True := trivial
 have tok3 : True := trivial
 have tok4 : True := trivial
 have HC1 := Y (fun W (hW : Rb W R l) (_ : Tb W) => ar R l W hW)
 cases h1 : (num) l with
 | error e1 =>
  have HE : Hid (cd l = .error e1) := Y (by rw [fL]; exact ak h1)
  simp only [h1] at HC1
  clear h1
  go_enter Tryz.func84, Tryz.ntmps84
  go_wp2_with (first | (go_at_call 73; clear tok1; refine (HC1.out _ HR0.out HT0.out).mono ?_; rintro e w1 ⟨rfl, hm⟩))
  rw [HE.out]
  exact ⟨rfl, rfl, HM0.out.trans hm (fun _ _ h => h)⟩
 | ok q1 =>
 obtain ⟨x1, k1⟩ := q1
 simp only [h1] at HC1
 have hx1 := (aB h1).1
 have HE1 := Y h1
 clear h1
 obtain ⟨l1, hl1⟩ : ∃ l1, l.drop k1 = l1 := ⟨_, rfl⟩
 have HL1 := Y hl1
 clear hl1
 have HC2 := Y (fun W (hW : Rb W R l1) => part_any R x1 l1 W hW hx1)
 cases h2 : (takeP x1) l1 with
 | error e2 =>
  have HE : Hid (cd l = .error e2) := Y (by rw [fL]; exact ag HE1.out HL1.out (ak h2))
  simp only [h2] at HC2
  clear h2
  go_enter Tryz.func84, Tryz.ntmps84
  go_wp2_with (first | (go_at_call 73; clear tok1; refine (HC1.out _ HR0.out HT0.out).mono ?_; rintro e w1 ⟨v, rfl, hv, hr, hm⟩; obtain ⟨rfl, hx⟩ := hv; clear hx; obtain ⟨HR1, HT1, HS1, HZ1, HM1⟩ := bs HL1 hr HT0 HR0 hm HS0 HZ0 HLT HM0; clear hr hm) | (go_at_call 121; clear tok2; refine (HC2.out _ HR1.out).mono ?_; rintro e w2 ⟨rfl, hm⟩))
  rw [HE.out]
  exact ⟨rfl, rfl, HM1.out.trans hm (fun _ _ h => h)⟩
 | ok q2 =>
 obtain ⟨x2, k2⟩ := q2
 simp only [h2] at HC2
 have htk := takeP_ok h2
 have HB2 := Y htk.1
 have HN1 : Hid (x1 ≤ 65536) := Y (by have h1 := htk.2; have h2 := HLEN.out; have h3 : l1.length ≤ l.length := (by rw [← HL1.out, List.length_drop]; omega); omega)
 clear htk hx1
 have HE2 := Y h2
 clear h2
 obtain ⟨l2, hl2⟩ : ∃ l2, l1.drop k2 = l2 := ⟨_, rfl⟩
 have HL2 := Y hl2
 clear hl2
 have HC3 := Y (fun R' W (hW : Rb W R' x2) (hTW : Tb W) => blocals_any R' x2 W hW hTW)
 cases h3 : (locsP) x2 with
 | error e3 =>
  have HE : Hid (cd l = .error e3) := Y (by rw [fL]; exact ag HE1.out HL1.out (ag HE2.out HL2.out (by rw [f6 (by rw [iK]; exact ak h3)]; rfl)))
  simp only [h3] at HC3
  clear h3
  go_enter Tryz.func84, Tryz.ntmps84
  go_wp2_with (first | (go_at_call 73; clear tok1; refine (HC1.out _ HR0.out HT0.out).mono ?_; rintro e w1 ⟨v, rfl, hv, hr, hm⟩; obtain ⟨rfl, hx⟩ := hv; clear hx; obtain ⟨HR1, HT1, HS1, HZ1, HM1⟩ := bs HL1 hr HT0 HR0 hm HS0 HZ0 HLT HM0; clear hr hm) | (go_at_call 121; clear tok2; refine (HC2.out _ HR1.out).mono ?_; rintro e w2 ⟨v, rfl, ⟨hbl, A2, c2, rfl, hq1, hq2, hq3, hq4⟩, hr, hm⟩; obtain ⟨HR2, HT2, HS2, HZ2, HM2⟩ := bs HL2 hr HT1 HR1 hm HS1 HZ1 HLT HM1; clear hr hm; have HRB := Y (jd hq4 HR2.out.lt H2R.out hbl (by have := HN1.out; omega) hq1 hq2 hq3); have HR2b : Hid (Rb (w2.alloc (.cells #[.slice A2 x1 c2] 118)) R l2) := Y (HR2.out.alloc _); have HT2b : Hid (Tb (w2.alloc (.cells #[.slice A2 x1 c2] 118))) := Y (HT2.out.on ((Below.refl _ _).alloc (Nat.le_refl _) _)); have HM2b : Hid (Mod (· = R) w (w2.alloc (.cells #[.slice A2 x1 c2] 118))) := Y (HM2.out.alloc _); have HZ2b : Hid ((w2.alloc (.cells #[.slice A2 x1 c2] 118)).heap[w.heap.size]? = some (.cells #[.slice none 0 0, .slice none 0 0] 54 (0, 0))) := Y ((Below.heap_alloc w2 _ _ (by have := HS2.out; omega)).trans HZ2.out); have HS2b : Hid (w2.heap.size + 1 ≤ (w2.alloc (.cells #[.slice A2 x1 c2] 118)).heap.size) := Y (by simp); clear hbl hq1 hq2 hq3 hq4) | (go_at_call 122; clear tok3; refine (HC3.out _ _ HRB.out HT2b.out).mono ?_; rintro e w3 ⟨rfl, hm⟩))
  rw [HE.out]
  exact ⟨rfl, rfl, HM2b.out.trans hm (fun k hk e => by have := HS2.out; omega)⟩
 | ok q3 =>
 obtain ⟨x3, k3⟩ := q3
 simp only [h3] at HC3
 have HK3 := Y (locsP_k h3)
 have HE3 := Y h3
 clear h3
 obtain ⟨l3, hl3⟩ : ∃ l3, x2.drop k3 = l3 := ⟨_, rfl⟩
 have HL3 := Y hl3
 clear hl3
 have HC4 := Y (fun R' W (hW : Rb W R' l3) => dJ R' l3 W hW)
 cases h4 : (Bin.expr) l3 with
 | error e4 =>
  have HE : Hid (cd l = .error e4) := Y (by rw [fL]; exact ag HE1.out HL1.out (ag HE2.out HL2.out (by rw [f6 (by rw [iK]; exact ag HE3.out HL3.out (ak h4))]; rfl)))
  simp only [h4] at HC4
  clear h4
  go_enter Tryz.func84, Tryz.ntmps84
  go_wp2_with (first | (go_at_call 73; clear tok1; refine (HC1.out _ HR0.out HT0.out).mono ?_; rintro e w1 ⟨v, rfl, hv, hr, hm⟩; obtain ⟨rfl, hx⟩ := hv; clear hx; obtain ⟨HR1, HT1, HS1, HZ1, HM1⟩ := bs HL1 hr HT0 HR0 hm HS0 HZ0 HLT HM0; clear hr hm) | (go_at_call 121; clear tok2; refine (HC2.out _ HR1.out).mono ?_; rintro e w2 ⟨v, rfl, ⟨hbl, A2, c2, rfl, hq1, hq2, hq3, hq4⟩, hr, hm⟩; obtain ⟨HR2, HT2, HS2, HZ2, HM2⟩ := bs HL2 hr HT1 HR1 hm HS1 HZ1 HLT HM1; clear hr hm; have HRB := Y (jd hq4 HR2.out.lt H2R.out hbl (by have := HN1.out; omega) hq1 hq2 hq3); have HR2b : Hid (Rb (w2.alloc (.cells #[.slice A2 x1 c2] 118)) R l2) := Y (HR2.out.alloc _); have HT2b : Hid (Tb (w2.alloc (.cells #[.slice A2 x1 c2] 118))) := Y (HT2.out.on ((Below.refl _ _).alloc (Nat.le_refl _) _)); have HM2b : Hid (Mod (· = R) w (w2.alloc (.cells #[.slice A2 x1 c2] 118))) := Y (HM2.out.alloc _); have HZ2b : Hid ((w2.alloc (.cells #[.slice A2 x1 c2] 118)).heap[w.heap.size]? = some (.cells #[.slice none 0 0, .slice none 0 0] 54 (0, 0))) := Y ((Below.heap_alloc w2 _ _ (by have := HS2.out; omega)).trans HZ2.out); have HS2b : Hid (w2.heap.size + 1 ≤ (w2.alloc (.cells #[.slice A2 x1 c2] 118)).heap.size) := Y (by simp); clear hbl hq1 hq2 hq3 hq4) | (go_at_call 122; clear tok3; refine (HC3.out _ _ HRB.out HT2b.out).mono ?_; rintro e w3 ⟨v, rfl, hv, hr, hm⟩; have hv2 := hv; obtain ⟨A3, c3, rfl, _⟩ := hv; have HV3 := Y (hv2.more (S' := (w2.heap.size + 1 ≤ ·)) (fun g _ hg => Nat.le_trans HS2b.out hg)); have HRB3 := Y (by have h := hr; rw [HL3.out] at h; exact h); have HR3 := Y (HR2b.out.keep hm (fun k hk e => by have := HR2.out.lt; omega)); have HT3 := Y (HT2b.out.rb HRB.out hm); have HS3 := Y (Nat.le_trans HS2b.out hm.size); have HZ3 := Y (hm.heap HZ2b.out (fun e => by have := HS2.out; omega)); have HM3 := Y (HM2b.out.trans hm (fun k hk e => by have := HS2.out; omega)); clear hv2 hr hm) | (go_at_call 120; clear tok4; refine (HC4.out _ _ HRB3.out).mono ?_; rintro e w4 ⟨rfl, hm⟩))
  rw [HE.out]
  exact ⟨rfl, rfl, HM3.out.trans hm (fun k hk e => by have := HS2.out; omega)⟩
 | ok q4 =>
 obtain ⟨x4, k4⟩ := q4
 simp only [h4] at HC4
 have HK4 := Y (expr_k h4)
 have HE4 := Y h4
 clear h4
 obtain ⟨l4, hl4⟩ : ∃ l4, l3.drop k4 = l4 := ⟨_, rfl⟩
 have HL4 := Y hl4
 clear hl4
 have hcd : whole cdIn x2 = if l4.length = 0 then .ok ⟨x3, x4⟩ else .error 60 := by
  refine eK (k := k3 + (k4 + 0)) (by rw [iK]; exact ae HE3.out HL3.out (ae HE4.out HL4.out (ay _ _))) ?_ ?_
  ·have h1 := HK3.out
   have h2 := HK4.out
   rw [← HL3.out, List.length_drop] at h2
   omega
  ·rw [Nat.add_zero, ← List.drop_drop, HL3.out, HL4.out]
 have HC5 := Y (fun R' W (hW : Rb W R' l4) => bend_any R' l4 W hW)
 by_cases hl4 : l4.length = 0
 case neg =>
  simp only [if_neg hl4] at HC5
  rw [if_neg hl4] at hcd
  have HE : Hid (cd l = .error 60) := Y (by rw [fL]; exact ag HE1.out HL1.out (ag HE2.out HL2.out (by rw [hcd]; rfl)))
  clear hcd hl4
  go_enter Tryz.func84, Tryz.ntmps84
  go_wp2_with (first | (go_at_call 73; clear tok1; refine (HC1.out _ HR0.out HT0.out).mono ?_; rintro e w1 ⟨v, rfl, hv, hr, hm⟩; obtain ⟨rfl, hx⟩ := hv; clear hx; obtain ⟨HR1, HT1, HS1, HZ1, HM1⟩ := bs HL1 hr HT0 HR0 hm HS0 HZ0 HLT HM0; clear hr hm) | (go_at_call 121; clear tok2; refine (HC2.out _ HR1.out).mono ?_; rintro e w2 ⟨v, rfl, ⟨hbl, A2, c2, rfl, hq1, hq2, hq3, hq4⟩, hr, hm⟩; obtain ⟨HR2, HT2, HS2, HZ2, HM2⟩ := bs HL2 hr HT1 HR1 hm HS1 HZ1 HLT HM1; clear hr hm; have HRB := Y (jd hq4 HR2.out.lt H2R.out hbl (by have := HN1.out; omega) hq1 hq2 hq3); have HR2b : Hid (Rb (w2.alloc (.cells #[.slice A2 x1 c2] 118)) R l2) := Y (HR2.out.alloc _); have HT2b : Hid (Tb (w2.alloc (.cells #[.slice A2 x1 c2] 118))) := Y (HT2.out.on ((Below.refl _ _).alloc (Nat.le_refl _) _)); have HM2b : Hid (Mod (· = R) w (w2.alloc (.cells #[.slice A2 x1 c2] 118))) := Y (HM2.out.alloc _); have HZ2b : Hid ((w2.alloc (.cells #[.slice A2 x1 c2] 118)).heap[w.heap.size]? = some (.cells #[.slice none 0 0, .slice none 0 0] 54 (0, 0))) := Y ((Below.heap_alloc w2 _ _ (by have := HS2.out; omega)).trans HZ2.out); have HS2b : Hid (w2.heap.size + 1 ≤ (w2.alloc (.cells #[.slice A2 x1 c2] 118)).heap.size) := Y (by simp); clear hbl hq1 hq2 hq3 hq4) | (go_at_call 122; clear tok3; refine (HC3.out _ _ HRB.out HT2b.out).mono ?_; rintro e w3 ⟨v, rfl, hv, hr, hm⟩; have hv2 := hv; obtain ⟨A3, c3, rfl, _⟩ := hv; have HV3 := Y (hv2.more (S' := (w2.heap.size + 1 ≤ ·)) (fun g _ hg => Nat.le_trans HS2b.out hg)); have HRB3 := Y (by have h := hr; rw [HL3.out] at h; exact h); have HR3 := Y (HR2b.out.keep hm (fun k hk e => by have := HR2.out.lt; omega)); have HT3 := Y (HT2b.out.rb HRB.out hm); have HS3 := Y (Nat.le_trans HS2b.out hm.size); have HZ3 := Y (hm.heap HZ2b.out (fun e => by have := HS2.out; omega)); have HM3 := Y (HM2b.out.trans hm (fun k hk e => by have := HS2.out; omega)); clear hv2 hr hm) | (go_at_call 120; clear tok4; refine (HC4.out _ _ HRB3.out).mono ?_; rintro e w4 ⟨v, rfl, hv, hr, hm⟩; have hv2 := hv; obtain ⟨A4, c4, rfl, _⟩ := hv; have HRB5 : Hid (Rb (w4.alloc (.cells #[.slice A3 x3.length c3, .slice A4 x4.length c4] 54)) w2.heap.size l4) := Y (by have h := hr; rw [HL4.out] at h; exact h.alloc _); have HV4 : Hid (J (w4.alloc (.cells #[.slice A3 x3.length c3, .slice A4 x4.length c4] 54)) (w2.heap.size + 1 ≤ ·) x4 (.slice A4 x4.length c4)) := Y ((hv2.more (S' := (w2.heap.size + 1 ≤ ·)) (fun g _ hg => Nat.le_trans HS3.out hg)).mod ((Mod.refl (fun _ => False) w4).alloc _) (fun _ _ _ h => h)); have HV3 : Hid (J (w4.alloc (.cells #[.slice A3 x3.length c3, .slice A4 x4.length c4] 54)) (w2.heap.size + 1 ≤ ·) x3 (.slice A3 x3.length c3)) := Y ((HV3.out.mod hm (fun g _ hg e => by omega)).mod ((Mod.refl (fun _ => False) w4).alloc _) (fun _ _ _ h => h)); have HR5 : Hid (Rb (w4.alloc (.cells #[.slice A3 x3.length c3, .slice A4 x4.length c4] 54)) R l2) := Y ((HR3.out.keep hm (fun k hk e => by have := HR2.out.lt; omega)).alloc _); have HS4 := Y (Nat.le_trans HS3.out hm.size); have HZ5 : Hid ((w4.alloc (.cells #[.slice A3 x3.length c3, .slice A4 x4.length c4] 54)).heap[w.heap.size]? = some (.cells #[.slice none 0 0, .slice none 0 0] 54 (0, 0))) := Y ((Below.heap_alloc w4 _ _ (by have := HS2.out; have := Nat.le_trans HS3.out hm.size; omega)).trans (hm.heap HZ3.out (fun e => by have := HS2.out; omega))); have HM5 : Hid (Mod (· = R) w (w4.alloc (.cells #[.slice A3 x3.length c3, .slice A4 x4.length c4] 54))) := Y ((HM3.out.trans hm (fun k hk e => by have := HS2.out; omega)).alloc _); have HX5 : Hid ((w4.alloc (.cells #[.slice A3 x3.length c3, .slice A4 x4.length c4] 54)).heap[w4.heap.size]? = some (.cells #[.slice A3 x3.length c3, .slice A4 x4.length c4] 54 (0, 0))) := Y (heap_alloc_new w4 _); clear hv2 hr hm) | (go_at_call 43; refine (HC5.out _ _ HRB5.out).mono ?_; rintro e w6 ⟨rfl, rfl⟩))
  rw [HE.out]
  exact ⟨rfl, rfl, HM5.out⟩
 simp only [if_pos hl4] at HC5
 rw [if_pos hl4] at hcd
 have HE : Hid (cd l = .ok (⟨x3, x4⟩, k1 + (k2 + 0))) := Y (by rw [fL]; exact ae HE1.out HL1.out (ae HE2.out HL2.out (by rw [hcd]; rfl)))
 have HLD : Hid (l.drop (k1 + (k2 + 0)) = l2) := Y (by rw [Nat.add_zero, ← List.drop_drop, HL1.out, HL2.out])
 clear hcd hl4
 go_enter Tryz.func84, Tryz.ntmps84
 go_upto_region 4 with (first | (go_at_call 73; clear tok1; refine (HC1.out _ HR0.out HT0.out).mono ?_; rintro e w1 ⟨v, rfl, hv, hr, hm⟩; obtain ⟨rfl, hx⟩ := hv; clear hx; obtain ⟨HR1, HT1, HS1, HZ1, HM1⟩ := bs HL1 hr HT0 HR0 hm HS0 HZ0 HLT HM0; clear hr hm) | (go_at_call 121; clear tok2; refine (HC2.out _ HR1.out).mono ?_; rintro e w2 ⟨v, rfl, ⟨hbl, A2, c2, rfl, hq1, hq2, hq3, hq4⟩, hr, hm⟩; obtain ⟨HR2, HT2, HS2, HZ2, HM2⟩ := bs HL2 hr HT1 HR1 hm HS1 HZ1 HLT HM1; clear hr hm; have HRB := Y (jd hq4 HR2.out.lt H2R.out hbl (by have := HN1.out; omega) hq1 hq2 hq3); have HR2b : Hid (Rb (w2.alloc (.cells #[.slice A2 x1 c2] 118)) R l2) := Y (HR2.out.alloc _); have HT2b : Hid (Tb (w2.alloc (.cells #[.slice A2 x1 c2] 118))) := Y (HT2.out.on ((Below.refl _ _).alloc (Nat.le_refl _) _)); have HM2b : Hid (Mod (· = R) w (w2.alloc (.cells #[.slice A2 x1 c2] 118))) := Y (HM2.out.alloc _); have HZ2b : Hid ((w2.alloc (.cells #[.slice A2 x1 c2] 118)).heap[w.heap.size]? = some (.cells #[.slice none 0 0, .slice none 0 0] 54 (0, 0))) := Y ((Below.heap_alloc w2 _ _ (by have := HS2.out; omega)).trans HZ2.out); have HS2b : Hid (w2.heap.size + 1 ≤ (w2.alloc (.cells #[.slice A2 x1 c2] 118)).heap.size) := Y (by simp); clear hbl hq1 hq2 hq3 hq4) | (go_at_call 122; clear tok3; refine (HC3.out _ _ HRB.out HT2b.out).mono ?_; rintro e w3 ⟨v, rfl, hv, hr, hm⟩; have hv2 := hv; obtain ⟨A3, c3, rfl, _⟩ := hv; have HV3 := Y (hv2.more (S' := (w2.heap.size + 1 ≤ ·)) (fun g _ hg => Nat.le_trans HS2b.out hg)); have HRB3 := Y (by have h := hr; rw [HL3.out] at h; exact h); have HR3 := Y (HR2b.out.keep hm (fun k hk e => by have := HR2.out.lt; omega)); have HT3 := Y (HT2b.out.rb HRB.out hm); have HS3 := Y (Nat.le_trans HS2b.out hm.size); have HZ3 := Y (hm.heap HZ2b.out (fun e => by have := HS2.out; omega)); have HM3 := Y (HM2b.out.trans hm (fun k hk e => by have := HS2.out; omega)); clear hv2 hr hm) | (go_at_call 120; clear tok4; refine (HC4.out _ _ HRB3.out).mono ?_; rintro e w4 ⟨v, rfl, hv, hr, hm⟩; have hv2 := hv; obtain ⟨A4, c4, rfl, _⟩ := hv; have HRB5 : Hid (Rb (w4.alloc (.cells #[.slice A3 x3.length c3, .slice A4 x4.length c4] 54)) w2.heap.size l4) := Y (by have h := hr; rw [HL4.out] at h; exact h.alloc _); have HV4 : Hid (J (w4.alloc (.cells #[.slice A3 x3.length c3, .slice A4 x4.length c4] 54)) (w2.heap.size + 1 ≤ ·) x4 (.slice A4 x4.length c4)) := Y ((hv2.more (S' := (w2.heap.size + 1 ≤ ·)) (fun g _ hg => Nat.le_trans HS3.out hg)).mod ((Mod.refl (fun _ => False) w4).alloc _) (fun _ _ _ h => h)); have HV3 : Hid (J (w4.alloc (.cells #[.slice A3 x3.length c3, .slice A4 x4.length c4] 54)) (w2.heap.size + 1 ≤ ·) x3 (.slice A3 x3.length c3)) := Y ((HV3.out.mod hm (fun g _ hg e => by omega)).mod ((Mod.refl (fun _ => False) w4).alloc _) (fun _ _ _ h => h)); have HR5 : Hid (Rb (w4.alloc (.cells #[.slice A3 x3.length c3, .slice A4 x4.length c4] 54)) R l2) := Y ((HR3.out.keep hm (fun k hk e => by have := HR2.out.lt; omega)).alloc _); have HS4 := Y (Nat.le_trans HS3.out hm.size); have HZ5 : Hid ((w4.alloc (.cells #[.slice A3 x3.length c3, .slice A4 x4.length c4] 54)).heap[w.heap.size]? = some (.cells #[.slice none 0 0, .slice none 0 0] 54 (0, 0))) := Y ((Below.heap_alloc w4 _ _ (by have := HS2.out; have := Nat.le_trans HS3.out hm.size; omega)).trans (hm.heap HZ3.out (fun e => by have := HS2.out; omega))); have HM5 : Hid (Mod (· = R) w (w4.alloc (.cells #[.slice A3 x3.length c3, .slice A4 x4.length c4] 54))) := Y ((HM3.out.trans hm (fun k hk e => by have := HS2.out; omega)).alloc _); have HX5 : Hid ((w4.alloc (.cells #[.slice A3 x3.length c3, .slice A4 x4.length c4] 54)).heap[w4.heap.size]? = some (.cells #[.slice A3 x3.length c3, .slice A4 x4.length c4] 54 (0, 0))) := Y (heap_alloc_new w4 _); clear hv2 hr hm) | (go_at_call 43; refine (HC5.out _ _ HRB5.out).mono ?_; rintro e w6 ⟨rfl, rfl⟩))
 have HZZ := HZ5
 have HMZ := HM5
 have HRZ := HR5
 generalize (w4.alloc (.cells #[.slice A3 x3.length c3, .slice A4 x4.length c4] 54)) = wz at HX5 HZZ HMZ HRZ HV3 HV4 ⊢
 obtain ⟨z0, z1⟩ := cellsM2 HX5.out
 have HS22 := HS2.out
 go_wp2_with (refine ac rfl 54 (.tmp 2) (.tmp 18) rfl rfl w.heap.size #[.slice A3 x3.length c3, .slice A4 x4.length c4] rfl rfl 54 #[.slice none 0 0, .slice none 0 0] HZZ.out fe rfl (by simp [Value.oneCell']) ?_)
 refine bodyPost_ret (v := .agg #[.slice A3 x3.length c3, .slice A4 x4.length c4]) (ai (p := 2) (ty := 54) (by kernel_rfl) _ _ w.heap.size 54 _ (0, 0) D rfl (setRow_heap _ _ #[.slice none 0 0, .slice none 0 0] _ _ _ HZZ.out) HU.out HD.out fe) rfl ?_
 rw [HE.out]
 refine ⟨_, rfl, ⟨_, rfl, _, _, rfl, ((HV3.out.mod (O (T := (· = w.heap.size)) (Mod.refl _ _) (fun _ => rfl) _) (fun g _ hg e => by omega)).more (fun g _ hg => by omega)), ((HV4.out.mod (O (T := (· = w.heap.size)) (Mod.refl _ _) (fun _ => rfl) _) (fun g _ hg e => by omega)).more (fun g _ hg => by omega))⟩, ?_, O HMZ.out (fun hg => by omega) _⟩
 rw [HLD.out]
 exact HRZ.out.keep (O (T := (· = w.heap.size)) (Mod.refl _ _) (fun _ => rfl) _) (fun g hg e => by have := HLT.out; omega)
theorem des_bda_any : (Tryz.prog.underlying 71).map aggI = some true := by kernel_rfl
theorem fj : (Tryz.prog.info? 71).map (·.size) = some 3 := by kernel_rfl
theorem bda_any (R : Nat) (l : List UInt8) (w : World) (hR : Rb w R l) (hT : Tb w) :
  Calls Tryz.prog 86 #[.pointer (some ⟨R, 0, none⟩)] w (ap R w l (da l) (bI w.heap.size)) := by
 obtain ⟨D, hu, hd⟩ := desOf des_bda_any
 have HU := Y hu
 have HD := Y hd
 have HLT := Y hR.lt
 have H2R := Y hR.two
 have HLEN := Y hR.len
 have HR0 : Hid (Rb (w.alloc (.cells #[.int .u32 0, .slice none 0 0, .slice none 0 0] 71)) R l) := Y (hR.alloc _)
 have HT0 : Hid (Tb (w.alloc (.cells #[.int .u32 0, .slice none 0 0, .slice none 0 0] 71))) := Y (hT.on ((Below.refl _ _).alloc (Nat.le_refl _) _))
 have HM0 : Hid (Mod (· = R) w (w.alloc (.cells #[.int .u32 0, .slice none 0 0, .slice none 0 0] 71))) := Y ((Mod.refl _ w).alloc _)
 have HZ0 : Hid ((w.alloc (.cells #[.int .u32 0, .slice none 0 0, .slice none 0 0] 71)).heap[w.heap.size]? = some (.cells #[.int .u32 0, .slice none 0 0, .slice none 0 0] 71 (0, 0))) := Y (heap_alloc_new w _)
 have HS0 : Hid (w.heap.size + 1 ≤ (w.alloc (.cells #[.int .u32 0, .slice none 0 0, .slice none 0 0] 71)).heap.size) := Y (by simp)
 clear hu hd hR hT
 have tok1 : True := trivial
 have tok2 : True := trivial
 have tok3 : True := trivial
 have tok4 : True := trivial
 have HC1 := Y (fun W (hW : Rb W R l) (_ : Tb W) => ar R l W hW)
 cases h1 : (num) l with
 | error e1 =>
  have HE : Hid (da l = .error e1) := Y (by rw [iz]; exact ak h1)
  simp only [h1] at HC1
  clear h1
  go_enter Tryz.func86, Tryz.ntmps86
  go_wp2_with (first | (go_at_call 73; clear tok1; refine (HC1.out _ HR0.out HT0.out).mono ?_; rintro e w1 ⟨rfl, hm⟩))
  rw [HE.out]
  exact ⟨rfl, rfl, HM0.out.trans hm (fun _ _ h => h)⟩
 | ok q1 =>
 obtain ⟨x1, k1⟩ := q1
 simp only [h1] at HC1
 have HE1 := Y h1
 clear h1
 obtain ⟨l1, hl1⟩ : ∃ l1, l.drop k1 = l1 := ⟨_, rfl⟩
 have HL1 := Y hl1
 clear hl1
 have HC2 := Y (fun W (hW : Rb W R l1) => dJ R l1 W hW)
 cases h2 : (Bin.expr) l1 with
 | error e2 =>
  have HE : Hid (da l = .error e2) := Y (by rw [iz]; exact ag HE1.out HL1.out (ak h2))
  simp only [h2] at HC2
  clear h2
  go_enter Tryz.func86, Tryz.ntmps86
  go_wp2_with (first | (go_at_call 73; clear tok1; refine (HC1.out _ HR0.out HT0.out).mono ?_; rintro e w1 ⟨v, rfl, hv, hr, hm⟩; obtain ⟨rfl, hx⟩ := hv; have HX1 := Y hx; clear hx; obtain ⟨HR1, HT1, HS1, HZ1, HM1⟩ := bs HL1 hr HT0 HR0 hm HS0 HZ0 HLT HM0; clear hr hm) | (go_at_call 120; clear tok2; refine (HC2.out _ HR1.out).mono ?_; rintro e w2 ⟨rfl, hm⟩))
  rw [HE.out]
  exact ⟨rfl, rfl, HM1.out.trans hm (fun _ _ h => h)⟩
 | ok q2 =>
 obtain ⟨x2, k2⟩ := q2
 simp only [h2] at HC2
 have HE2 := Y h2
 clear h2
 obtain ⟨l2, hl2⟩ : ∃ l2, l1.drop k2 = l2 := ⟨_, rfl⟩
 have HL2 := Y hl2
 clear hl2
 have HC3 := Y (fun W (hW : Rb W R l2) => ar R l2 W hW)
 cases h3 : (num) l2 with
 | error e3 =>
  have HE : Hid (da l = .error e3) := Y (by rw [iz]; exact ag HE1.out HL1.out (ag HE2.out HL2.out (ak h3)))
  simp only [h3] at HC3
  clear h3
  go_enter Tryz.func86, Tryz.ntmps86
  go_wp2_with (first | (go_at_call 73; clear tok1; refine (HC1.out _ HR0.out HT0.out).mono ?_; rintro e w1 ⟨v, rfl, hv, hr, hm⟩; obtain ⟨rfl, hx⟩ := hv; have HX1 := Y hx; clear hx; obtain ⟨HR1, HT1, HS1, HZ1, HM1⟩ := bs HL1 hr HT0 HR0 hm HS0 HZ0 HLT HM0; clear hr hm) | (go_at_call 120; clear tok2; refine (HC2.out _ HR1.out).mono ?_; rintro e w2 ⟨v, rfl, hv, hr, hm⟩; have hv2 := hv; obtain ⟨A2, c2, rfl, _⟩ := hv; have HV2 : Hid (J (w2.alloc (.cells #[.int .u32 (x1 : Int), .slice A2 x2.length c2, .slice none 0 0] 71)) (fun g => w.heap.size + 1 ≤ g ∧ g ≠ w2.heap.size) x2 (.slice A2 x2.length c2)) := Y ((hv2.more (S' := (fun g => w.heap.size + 1 ≤ g ∧ g ≠ w2.heap.size)) (fun g hg h => ⟨Nat.le_trans HS1.out h, by omega⟩)).mod ((Mod.refl (fun _ => False) w2).alloc _) (fun _ _ _ h => h)); clear hv2; obtain ⟨HR2, HT2, HS2, HZ2, HM2⟩ := bs HL2 hr HT1 HR1 hm HS1 HZ1 HLT HM1; clear hr hm; have HR2b : Hid (Rb (w2.alloc (.cells #[.int .u32 (x1 : Int), .slice A2 x2.length c2, .slice none 0 0] 71)) R l2) := Y (HR2.out.alloc _); have HT2b : Hid (Tb (w2.alloc (.cells #[.int .u32 (x1 : Int), .slice A2 x2.length c2, .slice none 0 0] 71))) := Y (HT2.out.on ((Below.refl _ _).alloc (Nat.le_refl _) _)); have HM2b : Hid (Mod (· = R) w (w2.alloc (.cells #[.int .u32 (x1 : Int), .slice A2 x2.length c2, .slice none 0 0] 71))) := Y (HM2.out.alloc _); have HZ2b : Hid ((w2.alloc (.cells #[.int .u32 (x1 : Int), .slice A2 x2.length c2, .slice none 0 0] 71)).heap[w.heap.size]? = some (.cells #[.int .u32 0, .slice none 0 0, .slice none 0 0] 71 (0, 0))) := Y ((Below.heap_alloc w2 _ _ (by have := HS2.out; omega)).trans HZ2.out); have HS2b : Hid (w2.heap.size + 1 ≤ (w2.alloc (.cells #[.int .u32 (x1 : Int), .slice A2 x2.length c2, .slice none 0 0] 71)).heap.size) := Y (by simp); have HX2b : Hid ((w2.alloc (.cells #[.int .u32 (x1 : Int), .slice A2 x2.length c2, .slice none 0 0] 71)).heap[w2.heap.size]? = some (.cells #[.int .u32 (x1 : Int), .slice A2 x2.length c2, .slice none 0 0] 71 (0, 0))) := Y (heap_alloc_new w2 _)) | (go_at_call 73; clear tok3; refine (HC3.out _ HR2b.out).mono ?_; rintro e w3 ⟨rfl, hm⟩))
  rw [HE.out]
  exact ⟨rfl, rfl, HM2b.out.trans hm (fun _ _ h => h)⟩
 | ok q3 =>
 obtain ⟨x3, k3⟩ := q3
 simp only [h3] at HC3
 have hx3 := (aB h3).1
 have HN3 := Y hx3
 have HE3 := Y h3
 clear h3
 obtain ⟨l3, hl3⟩ : ∃ l3, l2.drop k3 = l3 := ⟨_, rfl⟩
 have HL3 := Y hl3
 clear hl3
 have HC4 := Y (fun W (hW : Rb W R l3) => part_any R x3 l3 W hW hx3)
 cases h4 : (takeP x3) l3 with
 | error e4 =>
  have HE : Hid (da l = .error e4) := Y (by rw [iz]; exact ag HE1.out HL1.out (ag HE2.out HL2.out (ag HE3.out HL3.out (ak h4))))
  simp only [h4] at HC4
  clear h4
  go_enter Tryz.func86, Tryz.ntmps86
  go_wp2_with (first | (go_at_call 73; clear tok1; refine (HC1.out _ HR0.out HT0.out).mono ?_; rintro e w1 ⟨v, rfl, hv, hr, hm⟩; obtain ⟨rfl, hx⟩ := hv; have HX1 := Y hx; clear hx; obtain ⟨HR1, HT1, HS1, HZ1, HM1⟩ := bs HL1 hr HT0 HR0 hm HS0 HZ0 HLT HM0; clear hr hm) | (go_at_call 120; clear tok2; refine (HC2.out _ HR1.out).mono ?_; rintro e w2 ⟨v, rfl, hv, hr, hm⟩; have hv2 := hv; obtain ⟨A2, c2, rfl, _⟩ := hv; have HV2 : Hid (J (w2.alloc (.cells #[.int .u32 (x1 : Int), .slice A2 x2.length c2, .slice none 0 0] 71)) (fun g => w.heap.size + 1 ≤ g ∧ g ≠ w2.heap.size) x2 (.slice A2 x2.length c2)) := Y ((hv2.more (S' := (fun g => w.heap.size + 1 ≤ g ∧ g ≠ w2.heap.size)) (fun g hg h => ⟨Nat.le_trans HS1.out h, by omega⟩)).mod ((Mod.refl (fun _ => False) w2).alloc _) (fun _ _ _ h => h)); clear hv2; obtain ⟨HR2, HT2, HS2, HZ2, HM2⟩ := bs HL2 hr HT1 HR1 hm HS1 HZ1 HLT HM1; clear hr hm; have HR2b : Hid (Rb (w2.alloc (.cells #[.int .u32 (x1 : Int), .slice A2 x2.length c2, .slice none 0 0] 71)) R l2) := Y (HR2.out.alloc _); have HT2b : Hid (Tb (w2.alloc (.cells #[.int .u32 (x1 : Int), .slice A2 x2.length c2, .slice none 0 0] 71))) := Y (HT2.out.on ((Below.refl _ _).alloc (Nat.le_refl _) _)); have HM2b : Hid (Mod (· = R) w (w2.alloc (.cells #[.int .u32 (x1 : Int), .slice A2 x2.length c2, .slice none 0 0] 71))) := Y (HM2.out.alloc _); have HZ2b : Hid ((w2.alloc (.cells #[.int .u32 (x1 : Int), .slice A2 x2.length c2, .slice none 0 0] 71)).heap[w.heap.size]? = some (.cells #[.int .u32 0, .slice none 0 0, .slice none 0 0] 71 (0, 0))) := Y ((Below.heap_alloc w2 _ _ (by have := HS2.out; omega)).trans HZ2.out); have HS2b : Hid (w2.heap.size + 1 ≤ (w2.alloc (.cells #[.int .u32 (x1 : Int), .slice A2 x2.length c2, .slice none 0 0] 71)).heap.size) := Y (by simp); have HX2b : Hid ((w2.alloc (.cells #[.int .u32 (x1 : Int), .slice A2 x2.length c2, .slice none 0 0] 71)).heap[w2.heap.size]? = some (.cells #[.int .u32 (x1 : Int), .slice A2 x2.length c2, .slice none 0 0] 71 (0, 0))) := Y (heap_alloc_new w2 _)) | (go_at_call 73; clear tok3; refine (HC3.out _ HR2b.out).mono ?_; rintro e w3 ⟨v, rfl, hv, hr, hm⟩; obtain ⟨rfl, hx⟩ := hv; clear hx; have HV2 := Y (HV2.out.mod hm (fun g _ hg e => by have := hg.1; have := HLT.out; omega)); have HX3r := Y (hm.heap HX2b.out (fun e => by have := HLT.out; have := HS2.out; omega)); have HR3 := Y (by have h := hr; rw [HL3.out] at h; exact h); have HS3 := Y (Nat.le_trans HS2b.out hm.size); have HZ3 := Y (hm.heap HZ2b.out (fun e => by have := HLT.out; omega)); have HM3 := Y (HM2b.out.trans hm (fun _ _ h => h)); clear hr hm) | (go_at_call 121; clear tok4; refine (HC4.out _ HR3.out).mono ?_; rintro e w4 ⟨rfl, hm⟩))
  rw [HE.out]
  exact ⟨rfl, rfl, HM3.out.trans hm (fun _ _ h => h)⟩
 | ok q4 =>
 obtain ⟨x4, k4⟩ := q4
 simp only [h4] at HC4
 have HBL := Y (takeP_ok h4).1
 clear hx3
 have HE4 := Y h4
 clear h4
 obtain ⟨l4, hl4⟩ : ∃ l4, l3.drop k4 = l4 := ⟨_, rfl⟩
 have HL4 := Y hl4
 clear hl4
 have HE : Hid (da l = .ok (⟨x1, x2, x4⟩, k1 + (k2 + (k3 + (k4 + 0))))) := Y (by rw [iz]; exact ae HE1.out HL1.out (ae HE2.out HL2.out (ae HE3.out HL3.out (ae HE4.out HL4.out (ay _ _)))))
 have HLD : Hid (l.drop (k1 + (k2 + (k3 + (k4 + 0)))) = l4) := Y (by rw [Nat.add_zero, ← List.drop_drop, ← List.drop_drop, ← List.drop_drop, HL1.out, HL2.out, HL3.out, HL4.out])
 go_enter Tryz.func86, Tryz.ntmps86
 go_upto_region 3 with (first | (go_at_call 73; clear tok1; refine (HC1.out _ HR0.out HT0.out).mono ?_; rintro e w1 ⟨v, rfl, hv, hr, hm⟩; obtain ⟨rfl, hx⟩ := hv; have HX1 := Y hx; clear hx; obtain ⟨HR1, HT1, HS1, HZ1, HM1⟩ := bs HL1 hr HT0 HR0 hm HS0 HZ0 HLT HM0; clear hr hm) | (go_at_call 120; clear tok2; refine (HC2.out _ HR1.out).mono ?_; rintro e w2 ⟨v, rfl, hv, hr, hm⟩; have hv2 := hv; obtain ⟨A2, c2, rfl, _⟩ := hv; have HV2 : Hid (J (w2.alloc (.cells #[.int .u32 (x1 : Int), .slice A2 x2.length c2, .slice none 0 0] 71)) (fun g => w.heap.size + 1 ≤ g ∧ g ≠ w2.heap.size) x2 (.slice A2 x2.length c2)) := Y ((hv2.more (S' := (fun g => w.heap.size + 1 ≤ g ∧ g ≠ w2.heap.size)) (fun g hg h => ⟨Nat.le_trans HS1.out h, by omega⟩)).mod ((Mod.refl (fun _ => False) w2).alloc _) (fun _ _ _ h => h)); clear hv2; obtain ⟨HR2, HT2, HS2, HZ2, HM2⟩ := bs HL2 hr HT1 HR1 hm HS1 HZ1 HLT HM1; clear hr hm; have HR2b : Hid (Rb (w2.alloc (.cells #[.int .u32 (x1 : Int), .slice A2 x2.length c2, .slice none 0 0] 71)) R l2) := Y (HR2.out.alloc _); have HT2b : Hid (Tb (w2.alloc (.cells #[.int .u32 (x1 : Int), .slice A2 x2.length c2, .slice none 0 0] 71))) := Y (HT2.out.on ((Below.refl _ _).alloc (Nat.le_refl _) _)); have HM2b : Hid (Mod (· = R) w (w2.alloc (.cells #[.int .u32 (x1 : Int), .slice A2 x2.length c2, .slice none 0 0] 71))) := Y (HM2.out.alloc _); have HZ2b : Hid ((w2.alloc (.cells #[.int .u32 (x1 : Int), .slice A2 x2.length c2, .slice none 0 0] 71)).heap[w.heap.size]? = some (.cells #[.int .u32 0, .slice none 0 0, .slice none 0 0] 71 (0, 0))) := Y ((Below.heap_alloc w2 _ _ (by have := HS2.out; omega)).trans HZ2.out); have HS2b : Hid (w2.heap.size + 1 ≤ (w2.alloc (.cells #[.int .u32 (x1 : Int), .slice A2 x2.length c2, .slice none 0 0] 71)).heap.size) := Y (by simp); have HX2b : Hid ((w2.alloc (.cells #[.int .u32 (x1 : Int), .slice A2 x2.length c2, .slice none 0 0] 71)).heap[w2.heap.size]? = some (.cells #[.int .u32 (x1 : Int), .slice A2 x2.length c2, .slice none 0 0] 71 (0, 0))) := Y (heap_alloc_new w2 _)) | (go_at_call 73; clear tok3; refine (HC3.out _ HR2b.out).mono ?_; rintro e w3 ⟨v, rfl, hv, hr, hm⟩; obtain ⟨rfl, hx⟩ := hv; clear hx; have HV2 := Y (HV2.out.mod hm (fun g _ hg e => by have := hg.1; have := HLT.out; omega)); have HX3r := Y (hm.heap HX2b.out (fun e => by have := HLT.out; have := HS2.out; omega)); have HR3 := Y (by have h := hr; rw [HL3.out] at h; exact h); have HS3 := Y (Nat.le_trans HS2b.out hm.size); have HZ3 := Y (hm.heap HZ2b.out (fun e => by have := HLT.out; omega)); have HM3 := Y (HM2b.out.trans hm (fun _ _ h => h)); clear hr hm) | (go_at_call 121; clear tok4; refine (HC4.out _ HR3.out).mono ?_; rintro e w4 ⟨v, rfl, ⟨hbl, A4, c4, rfl, hq1, hq2, hq3, hq4⟩, hr, hm⟩; have HV2 := Y (HV2.out.mod hm (fun g _ hg e => by have := hg.1; have := HLT.out; omega)); have HX4r := Y (hm.heap HX3r.out (fun e => by have := HLT.out; have := HS2.out; omega)); have HR4 := Y (by have h := hr; rw [HL4.out] at h; exact h); have HS4 := Y (Nat.le_trans HS3.out hm.size); have HZ4 := Y (hm.heap HZ3.out (fun e => by have := HLT.out; omega)); have HM4 := Y (HM3.out.trans hm (fun _ _ h => h)); clear hr hm; have HC5 := Y (clone_sv A4 x4 x3 c4 w4 (hq4.more (Nat.le_of_lt HR4.out.lt)) hbl (by have := HN3.out; omega) hq3); clear hbl hq1 hq2 hq3 hq4) | (go_at_call 29; refine HC5.out.mono ?_; rintro e w5 ⟨v, rfl, hv, hb⟩; have hm := Mod.of_below (T := fun _ => False) hb; have hv2 := hv; obtain ⟨A5, c5, rfl, _⟩ := hv; have hX := hm.heap HX4r.out (fun h => h); have g2 := frozen_of_row _ _ 2 _ _ hX; have y2 : w5.cell? ⟨w2.heap.size, 2, none⟩ = some (.slice none 0 0) := (by rw [cell_of_row w5 w2.heap.size 2 _ _ (0, 0) hX]; rfl); have HX5 := Y hX; have HV5 := Y (hv2.more (S' := (fun g => w.heap.size + 1 ≤ g ∧ g ≠ w2.heap.size)) (fun g hg h => ⟨by have := HS2.out; have := HS4.out; omega, by have := HS4.out; omega⟩)); have HV2 := Y (HV2.out.mod hm (fun _ _ _ h => h)); have HR5 := Y (HR4.out.keep hm (fun _ _ h => h)); have HZ5 := Y (hm.heap HZ4.out (fun h => h)); have HM5 := Y (HM4.out.trans hm (fun _ _ h => h.elim)); have HS5 := Y (Nat.le_trans HS4.out hb.size); clear hv2 hb hm hX))
 have hms : Mod (· = w2.heap.size) w5 (w5.setCell ⟨w2.heap.size, 2, none⟩ (.slice A5 x4.length c5)) := Mod.setCell (T := (· = w2.heap.size)) (Mod.refl _ w5) (fun _ => rfl) _
 have HXZ : Hid ((w5.setCell ⟨w2.heap.size, 2, none⟩ (.slice A5 x4.length c5)).heap[w2.heap.size]? = some (.cells #[.int .u32 (x1 : Int), .slice A2 x2.length c2, .slice A5 x4.length c5] 71 (0, 0))) := Y (heap_setCell_same w5 w2.heap.size 2 _ _ _ HX5.out)
 have HZZ : Hid ((w5.setCell ⟨w2.heap.size, 2, none⟩ (.slice A5 x4.length c5)).heap[w.heap.size]? = some (.cells #[.int .u32 0, .slice none 0 0, .slice none 0 0] 71 (0, 0))) := Y (hms.heap HZ5.out (fun e => by have := HS2.out; omega))
 have HMZ : Hid (Mod (· = R) w (w5.setCell ⟨w2.heap.size, 2, none⟩ (.slice A5 x4.length c5))) := Y (HM5.out.trans hms (fun k hk e => by have := HS2.out; omega))
 have HRZ : Hid (Rb (w5.setCell ⟨w2.heap.size, 2, none⟩ (.slice A5 x4.length c5)) R l4) := Y (HR5.out.keep hms (fun k hk e => by have := HLT.out; have := HS2.out; omega))
 have HV2 : Hid (J (w5.setCell ⟨w2.heap.size, 2, none⟩ (.slice A5 x4.length c5)) (w.heap.size + 1 ≤ ·) x2 (.slice A2 x2.length c2)) := Y ((HV2.out.mod hms (fun g _ hg e => hg.2 e)).more (fun g _ hg => hg.1))
 have HV5 : Hid (J (w5.setCell ⟨w2.heap.size, 2, none⟩ (.slice A5 x4.length c5)) (w.heap.size + 1 ≤ ·) x4 (.slice A5 x4.length c5)) := Y ((HV5.out.mod hms (fun g _ hg e => hg.2 e)).more (fun g _ hg => hg.1))
 clear hms y2 g2
 generalize (w5.setCell ⟨w2.heap.size, 2, none⟩ (.slice A5 x4.length c5)) = wz at HXZ HZZ HMZ HRZ HV2 HV5 ⊢
 obtain ⟨z0, z1, z2⟩ := cells3 HXZ.out
 go_wp2_with (refine ac rfl 71 (.tmp 2) (.tmp 15) rfl rfl w.heap.size #[.int .u32 (x1 : Int), .slice A2 x2.length c2, .slice A5 x4.length c5] rfl rfl 71 #[.int .u32 0, .slice none 0 0, .slice none 0 0] HZZ.out fj rfl (by simp [Value.oneCell']) ?_)
 refine bodyPost_ret (v := .agg #[.int .u32 (x1 : Int), .slice A2 x2.length c2, .slice A5 x4.length c5]) (ai (p := 2) (ty := 71) (by kernel_rfl) _ _ w.heap.size 71 _ (0, 0) D rfl (setRow_heap _ _ #[.int .u32 0, .slice none 0 0, .slice none 0 0] _ _ _ HZZ.out) HU.out HD.out fj) rfl ?_
 rw [HE.out]
 refine ⟨_, rfl, ⟨_, rfl, _, _, rfl, HX1.out, ((HV2.out.mod (O (T := (· = w.heap.size)) (Mod.refl _ _) (fun _ => rfl) _) (fun g _ hg e => by omega)).more (fun g _ hg => by omega)), ((HV5.out.mod (O (T := (· = w.heap.size)) (Mod.refl _ _) (fun _ => rfl) _) (fun g _ hg e => by omega)).more (fun g _ hg => by omega))⟩, ?_, O HMZ.out (fun hg => by omega) _⟩
 rw [HLD.out]
 exact HRZ.out.keep (O (T := (· = w.heap.size)) (Mod.refl _ _) (fun _ => rfl) _) (fun g hg e => by have := HLT.out; omega)
theorem cells8 {w : World} {X : Nat} {x0 x1 x2 x3 x4 x5 x6 x7 : Value} {t : TypeId} (h : w.heap[X]? = some (.cells #[x0, x1, x2, x3, x4, x5, x6, x7] t (0, 0))) : w.cell? ⟨X, 0, none⟩ = some x0 ∧ w.cell? ⟨X, 1, none⟩ = some x1 ∧ w.cell? ⟨X, 2, none⟩ = some x2 ∧ w.cell? ⟨X, 3, none⟩ = some x3 ∧ w.cell? ⟨X, 4, none⟩ = some x4 ∧ w.cell? ⟨X, 5, none⟩ = some x5 ∧ w.cell? ⟨X, 6, none⟩ = some x6 ∧ w.cell? ⟨X, 7, none⟩ = some x7 := by
 refine ⟨?_, ?_, ?_, ?_, ?_, ?_, ?_, ?_⟩ <;> (rw [cell_of_row w X _ _ t (0, 0) h]; rfl)
theorem jf : (Tryz.prog.underlying 61).map aggI = some true := by kernel_rfl
theorem aV : (Tryz.prog.info? 61).map (·.size) = some 8 := by kernel_rfl
theorem bimp_any (R : Nat) (l : List UInt8) (w : World) (hR : Rb w R l) (hT : Tb w) :
  Calls Tryz.prog 71 #[.pointer (some ⟨R, 0, none⟩)] w (ap R w l (imp l) (bI w.heap.size)) := by
 obtain ⟨D, hu, hd⟩ := desOf jf
 have HU := Y hu
 have HD := Y hd
 have HLT := Y hR.lt
 have H2R := Y hR.two
 have HLEN := Y hR.len
 have HR0 : Hid (Rb (w.alloc (.cells #[.string ⟨#[]⟩, .string ⟨#[]⟩, .int .u8 0, .int .u32 0, .int .u32 0, .int .i64 0, .int .u8 0, .bool false] 61)) R l) := Y (hR.alloc _)
 have HT0 : Hid (Tb (w.alloc (.cells #[.string ⟨#[]⟩, .string ⟨#[]⟩, .int .u8 0, .int .u32 0, .int .u32 0, .int .i64 0, .int .u8 0, .bool false] 61))) := Y (hT.on ((Below.refl _ _).alloc (Nat.le_refl _) _))
 have HM0 : Hid (Mod (· = R) w (w.alloc (.cells #[.string ⟨#[]⟩, .string ⟨#[]⟩, .int .u8 0, .int .u32 0, .int .u32 0, .int .i64 0, .int .u8 0, .bool false] 61))) := Y ((Mod.refl _ w).alloc _)
 have HZ0 : Hid ((w.alloc (.cells #[.string ⟨#[]⟩, .string ⟨#[]⟩, .int .u8 0, .int .u32 0, .int .u32 0, .int .i64 0, .int .u8 0, .bool false] 61)).heap[w.heap.size]? = some (.cells #[.string ⟨#[]⟩, .string ⟨#[]⟩, .int .u8 0, .int .u32 0, .int .u32 0, .int .i64 0, .int .u8 0, .bool false] 61 (0, 0))) := Y (heap_alloc_new w _)
 have HS0 : Hid (w.heap.size + 1 ≤ (w.alloc (.cells #[.string ⟨#[]⟩, .string ⟨#[]⟩, .int .u8 0, .int .u32 0, .int .u32 0, .int .i64 0, .int .u8 0, .bool false] 61)).heap.size) := Y (by simp)
 clear hu hd hR hT
 have tok1 : True := trivial
 have tok2 : True := trivial
 have tok3 : True := trivial
 have tok4 : True := trivial
 have HC1 := Y (fun W (hW : Rb W R l) (hTW : Tb W) => eG R l W hW hTW)
 cases h1 : (Bin.name) l with
 | error e1 =>
  have HE : Hid (imp l = .error e1) := Y (by rw [cv]; exact ak h1)
  simp only [h1] at HC1
  clear h1
  go_enter Tryz.func71, Tryz.ntmps71
  go_wp2_with (first | (go_at_call 117; clear tok1; refine (HC1.out _ HR0.out HT0.out).mono ?_; rintro e w1 ⟨rfl, hm⟩))
  rw [HE.out]
  exact ⟨rfl, rfl, HM0.out.trans hm (fun _ _ h => h)⟩
 | ok q1 =>
 obtain ⟨x1, k1⟩ := q1
 simp only [h1] at HC1
 have HE1 := Y h1
 clear h1
 obtain ⟨l1, hl1⟩ : ∃ l1, l.drop k1 = l1 := ⟨_, rfl⟩
 have HL1 := Y hl1
 clear hl1
 have HC2 := Y (fun W (hW : Rb W R l1) (hTW : Tb W) => eG R l1 W hW hTW)
 cases h2 : (Bin.name) l1 with
 | error e2 =>
  have HE : Hid (imp l = .error e2) := Y (by rw [cv]; exact ag HE1.out HL1.out (ak h2))
  simp only [h2] at HC2
  clear h2
  go_enter Tryz.func71, Tryz.ntmps71
  go_wp2_with (first | (go_at_call 117; clear tok1; refine (HC1.out _ HR0.out HT0.out).mono ?_; rintro e w1 ⟨v, rfl, hv, hr, hm⟩; obtain rfl : v = .string ⟨x1.toArray⟩ := hv; obtain ⟨HR1, HT1, HS1, HZ1, HM1⟩ := bs HL1 hr HT0 HR0 hm HS0 HZ0 HLT HM0; clear hr hm) | (go_at_call 117; clear tok2; refine (HC2.out _ HR1.out HT1.out).mono ?_; rintro e w2 ⟨rfl, hm⟩))
  rw [HE.out]
  exact ⟨rfl, rfl, HM1.out.trans hm (fun _ _ h => h)⟩
 | ok q2 =>
 obtain ⟨x2, k2⟩ := q2
 simp only [h2] at HC2
 have HE2 := Y h2
 clear h2
 obtain ⟨l2, hl2⟩ : ∃ l2, l1.drop k2 = l2 := ⟨_, rfl⟩
 have HL2 := Y hl2
 clear hl2
 have HC3 := Y (fun W (hW : Rb W R l2) => dD 3 3 rfl R l2 W hW)
 cases h3 : (upP 3) l2 with
 | error e3 =>
  have HE : Hid (imp l = .error e3) := Y (by rw [cv]; exact ag HE1.out HL1.out (ag HE2.out HL2.out (ak h3)))
  simp only [h3] at HC3
  clear h3
  go_enter Tryz.func71, Tryz.ntmps71
  go_wp2_with (first | (go_at_call 117; clear tok1; refine (HC1.out _ HR0.out HT0.out).mono ?_; rintro e w1 ⟨v, rfl, hv, hr, hm⟩; obtain rfl : v = .string ⟨x1.toArray⟩ := hv; obtain ⟨HR1, HT1, HS1, HZ1, HM1⟩ := bs HL1 hr HT0 HR0 hm HS0 HZ0 HLT HM0; clear hr hm) | (go_at_call 117; clear tok2; refine (HC2.out _ HR1.out HT1.out).mono ?_; rintro e w2 ⟨v, rfl, hv, hr, hm⟩; obtain rfl : v = .string ⟨x2.toArray⟩ := hv; obtain ⟨HR2, HT2, HS2, HZ2, HM2⟩ := bs HL2 hr HT1 HR1 hm HS1 HZ1 HLT HM1; clear hr hm) | (go_at_call 118; clear tok3; refine (HC3.out _ HR2.out).mono ?_; rintro e w3 ⟨rfl, hm⟩))
  rw [HE.out]
  exact ⟨rfl, rfl, HM2.out.trans hm (fun _ _ h => h)⟩
 | ok q3 =>
 obtain ⟨x3, k3⟩ := q3
 simp only [h3] at HC3
 have hup := up3 h3
 have HE3 := Y h3
 clear h3
 obtain ⟨l3, hl3⟩ : ∃ l3, l2.drop k3 = l3 := ⟨_, rfl⟩
 have HL3 := Y hl3
 clear hl3
 rcases hup with rfl | rfl | rfl | rfl
 ·have HC4 := Y (fun W (hW : Rb W R l3) (_ : Tb W) => ar R l3 W hW)
  cases h4 : num l3 with
  | error e4 =>
   have HE : Hid (imp l = .error e4) := Y (by rw [cv]; exact ag HE1.out HL1.out (ag HE2.out HL2.out (ag HE3.out HL3.out (by rw [if_pos rfl]; exact ak h4))))
   simp only [h4] at HC4
   clear h4
   go_enter Tryz.func71, Tryz.ntmps71
   go_wp2_with (first | (go_at_call 117; clear tok1; refine (HC1.out _ HR0.out HT0.out).mono ?_; rintro e w1 ⟨v, rfl, hv, hr, hm⟩; obtain rfl : v = .string ⟨x1.toArray⟩ := hv; obtain ⟨HR1, HT1, HS1, HZ1, HM1⟩ := bs HL1 hr HT0 HR0 hm HS0 HZ0 HLT HM0; clear hr hm) | (go_at_call 117; clear tok2; refine (HC2.out _ HR1.out HT1.out).mono ?_; rintro e w2 ⟨v, rfl, hv, hr, hm⟩; obtain rfl : v = .string ⟨x2.toArray⟩ := hv; obtain ⟨HR2, HT2, HS2, HZ2, HM2⟩ := bs HL2 hr HT1 HR1 hm HS1 HZ1 HLT HM1; clear hr hm) | (go_at_call 118; clear tok3; refine (HC3.out _ HR2.out).mono ?_; rintro e w3 ⟨v, rfl, hv, hr, hm⟩; obtain rfl : v = .int .u8 0 := hv; obtain ⟨HR3, HT3, HS3, HZ3, HM3⟩ := bs HL3 hr HT2 HR2 hm HS2 HZ2 HLT HM2; clear hr hm; have HR3b : Hid (Rb (w3.alloc (.cells #[.string ⟨x1.toArray⟩, .string ⟨x2.toArray⟩, .int .u8 0, .int .u32 0, .int .u32 0, .int .i64 0, .int .u8 0, .bool false] 61)) R l3) := Y (HR3.out.alloc _); have HT3b : Hid (Tb (w3.alloc (.cells #[.string ⟨x1.toArray⟩, .string ⟨x2.toArray⟩, .int .u8 0, .int .u32 0, .int .u32 0, .int .i64 0, .int .u8 0, .bool false] 61))) := Y (HT3.out.on ((Below.refl _ _).alloc (Nat.le_refl _) _)); have HM3b : Hid (Mod (· = R) w (w3.alloc (.cells #[.string ⟨x1.toArray⟩, .string ⟨x2.toArray⟩, .int .u8 0, .int .u32 0, .int .u32 0, .int .i64 0, .int .u8 0, .bool false] 61))) := Y (HM3.out.alloc _); have HZ3b : Hid ((w3.alloc (.cells #[.string ⟨x1.toArray⟩, .string ⟨x2.toArray⟩, .int .u8 0, .int .u32 0, .int .u32 0, .int .i64 0, .int .u8 0, .bool false] 61)).heap[w.heap.size]? = some (.cells #[.string ⟨#[]⟩, .string ⟨#[]⟩, .int .u8 0, .int .u32 0, .int .u32 0, .int .i64 0, .int .u8 0, .bool false] 61 (0, 0))) := Y ((Below.heap_alloc w3 _ _ (by have := HS3.out; omega)).trans HZ3.out); have HX3b : Hid ((w3.alloc (.cells #[.string ⟨x1.toArray⟩, .string ⟨x2.toArray⟩, .int .u8 0, .int .u32 0, .int .u32 0, .int .i64 0, .int .u8 0, .bool false] 61)).heap[w3.heap.size]? = some (.cells #[.string ⟨x1.toArray⟩, .string ⟨x2.toArray⟩, .int .u8 0, .int .u32 0, .int .u32 0, .int .i64 0, .int .u8 0, .bool false] 61 (0, 0))) := Y (heap_alloc_new w3 _); have hc3 := cells8 HX3b.out; obtain ⟨_, _, y2, _, _, _, _, _⟩ := hc3) | (go_at_call 73; clear tok4; refine (HC4.out _ HR3b.out HT3b.out).mono ?_; rintro e w4 ⟨rfl, hm⟩))
   rw [HE.out]
   exact ⟨rfl, rfl, HM3b.out.trans hm (fun _ _ h => h)⟩
  | ok q4 =>
  obtain ⟨x4, k4⟩ := q4
  simp only [h4] at HC4
  have HE4 := Y h4
  clear h4
  obtain ⟨l4, hl4⟩ : ∃ l4, l3.drop k4 = l4 := ⟨_, rfl⟩
  have HL4 := Y hl4
  clear hl4
  have HE : Hid (imp l = .ok (_, k1 + (k2 + (k3 + (k4 + 0))))) := Y (by rw [cv]; exact ae HE1.out HL1.out (ae HE2.out HL2.out (ae HE3.out HL3.out (by rw [if_pos rfl]; exact ae (f := fun (t : Nat) => P.ret (⟨x1, x2, 0, t, ⟨0, 0⟩, ⟨0, false⟩⟩ : Imp)) HE4.out HL4.out (ay _ _)))))
  have HLD : Hid (l.drop (k1 + (k2 + (k3 + (k4 + 0)))) = l4) := Y (by rw [Nat.add_zero, ← List.drop_drop, ← List.drop_drop, ← List.drop_drop, HL1.out, HL2.out, HL3.out, HL4.out])
  go_enter Tryz.func71, Tryz.ntmps71
  go_upto_region 11 with (first | (go_at_call 117; clear tok1; refine (HC1.out _ HR0.out HT0.out).mono ?_; rintro e w1 ⟨v, rfl, hv, hr, hm⟩; obtain rfl : v = .string ⟨x1.toArray⟩ := hv; obtain ⟨HR1, HT1, HS1, HZ1, HM1⟩ := bs HL1 hr HT0 HR0 hm HS0 HZ0 HLT HM0; clear hr hm) | (go_at_call 117; clear tok2; refine (HC2.out _ HR1.out HT1.out).mono ?_; rintro e w2 ⟨v, rfl, hv, hr, hm⟩; obtain rfl : v = .string ⟨x2.toArray⟩ := hv; obtain ⟨HR2, HT2, HS2, HZ2, HM2⟩ := bs HL2 hr HT1 HR1 hm HS1 HZ1 HLT HM1; clear hr hm) | (go_at_call 118; clear tok3; refine (HC3.out _ HR2.out).mono ?_; rintro e w3 ⟨v, rfl, hv, hr, hm⟩; obtain rfl : v = .int .u8 0 := hv; obtain ⟨HR3, HT3, HS3, HZ3, HM3⟩ := bs HL3 hr HT2 HR2 hm HS2 HZ2 HLT HM2; clear hr hm; have HR3b : Hid (Rb (w3.alloc (.cells #[.string ⟨x1.toArray⟩, .string ⟨x2.toArray⟩, .int .u8 0, .int .u32 0, .int .u32 0, .int .i64 0, .int .u8 0, .bool false] 61)) R l3) := Y (HR3.out.alloc _); have HT3b : Hid (Tb (w3.alloc (.cells #[.string ⟨x1.toArray⟩, .string ⟨x2.toArray⟩, .int .u8 0, .int .u32 0, .int .u32 0, .int .i64 0, .int .u8 0, .bool false] 61))) := Y (HT3.out.on ((Below.refl _ _).alloc (Nat.le_refl _) _)); have HM3b : Hid (Mod (· = R) w (w3.alloc (.cells #[.string ⟨x1.toArray⟩, .string ⟨x2.toArray⟩, .int .u8 0, .int .u32 0, .int .u32 0, .int .i64 0, .int .u8 0, .bool false] 61))) := Y (HM3.out.alloc _); have HZ3b : Hid ((w3.alloc (.cells #[.string ⟨x1.toArray⟩, .string ⟨x2.toArray⟩, .int .u8 0, .int .u32 0, .int .u32 0, .int .i64 0, .int .u8 0, .bool false] 61)).heap[w.heap.size]? = some (.cells #[.string ⟨#[]⟩, .string ⟨#[]⟩, .int .u8 0, .int .u32 0, .int .u32 0, .int .i64 0, .int .u8 0, .bool false] 61 (0, 0))) := Y ((Below.heap_alloc w3 _ _ (by have := HS3.out; omega)).trans HZ3.out); have HX3b : Hid ((w3.alloc (.cells #[.string ⟨x1.toArray⟩, .string ⟨x2.toArray⟩, .int .u8 0, .int .u32 0, .int .u32 0, .int .i64 0, .int .u8 0, .bool false] 61)).heap[w3.heap.size]? = some (.cells #[.string ⟨x1.toArray⟩, .string ⟨x2.toArray⟩, .int .u8 0, .int .u32 0, .int .u32 0, .int .i64 0, .int .u8 0, .bool false] 61 (0, 0))) := Y (heap_alloc_new w3 _); have hc3 := cells8 HX3b.out; obtain ⟨_, _, y2, _, _, _, _, _⟩ := hc3) | (go_at_call 73; clear tok4; refine (HC4.out _ HR3b.out HT3b.out).mono ?_; rintro e w4 ⟨v, rfl, hv, hr, hm⟩; obtain ⟨rfl, hx⟩ := hv; have HX4 := Y hx; clear hx; have hX := hm.heap HX3b.out (fun e => by have := HLT.out; have := HS3.out; omega); have g3 := frozen_of_row _ _ 3 _ _ hX; have hc4 := cells8 hX; obtain ⟨y0, y1, y2, y3, y4, y5, y6, y7⟩ := hc4; have HXC := Y hX; have HR4 := Y (by have h := hr; rw [HL4.out] at h; exact h); have HZ4 := Y (hm.heap HZ3b.out (fun e => by have := HLT.out; omega)); have HM4 := Y (HM3b.out.trans hm (fun _ _ h => h)); clear hr hm hX))
  have hms : Mod (· = w3.heap.size) w4 (w4.setCell ⟨w3.heap.size, 3, none⟩ (.int .u32 (x4 : Int))) := (Mod.setCell (T := (· = w3.heap.size)) (Mod.refl _ w4) (fun _ => rfl) _)
  have HXZ : Hid ((w4.setCell ⟨w3.heap.size, 3, none⟩ (.int .u32 (x4 : Int))).heap[w3.heap.size]? = some (.cells #[.string ⟨x1.toArray⟩, .string ⟨x2.toArray⟩, .int .u8 0, .int .u32 (x4 : Int), .int .u32 0, .int .i64 0, .int .u8 0, .bool false] 61 (0, 0))) := Y (heap_setCell_same w4 w3.heap.size 3 _ _ (.int .u32 (x4 : Int)) HXC.out)
  have HZZ : Hid ((w4.setCell ⟨w3.heap.size, 3, none⟩ (.int .u32 (x4 : Int))).heap[w.heap.size]? = some (.cells #[.string ⟨#[]⟩, .string ⟨#[]⟩, .int .u8 0, .int .u32 0, .int .u32 0, .int .i64 0, .int .u8 0, .bool false] 61 (0, 0))) := Y (hms.heap HZ4.out (fun e => by have := HS3.out; omega))
  have HMZ : Hid (Mod (· = R) w (w4.setCell ⟨w3.heap.size, 3, none⟩ (.int .u32 (x4 : Int)))) := Y (HM4.out.trans hms (fun k hk e => by have := HS3.out; omega))
  have HRZ : Hid (Rb (w4.setCell ⟨w3.heap.size, 3, none⟩ (.int .u32 (x4 : Int))) R l4) := Y (HR4.out.keep hms (fun k hk e => by have := HLT.out; have := HS3.out; omega))
  clear hms y0 y1 y2 y3 y4 y5 y6 y7 g3
  generalize (w4.setCell ⟨w3.heap.size, 3, none⟩ (.int .u32 (x4 : Int))) = wz at HXZ HZZ HMZ HRZ ⊢
  obtain ⟨z0, z1, z2, z3, z4, z5, z6, z7⟩ := cells8 HXZ.out
  go_wp2_with (refine ac rfl 61 (.tmp 2) (.tmp 33) rfl rfl w.heap.size #[.string ⟨x1.toArray⟩, .string ⟨x2.toArray⟩, .int .u8 0, .int .u32 (x4 : Int), .int .u32 0, .int .i64 0, .int .u8 0, .bool false] rfl rfl 61 #[.string ⟨#[]⟩, .string ⟨#[]⟩, .int .u8 0, .int .u32 0, .int .u32 0, .int .i64 0, .int .u8 0, .bool false] HZZ.out aV rfl (by simp [Value.oneCell']) ?_)
  refine bodyPost_ret (v := .agg #[.string ⟨x1.toArray⟩, .string ⟨x2.toArray⟩, .int .u8 0, .int .u32 (x4 : Int), .int .u32 0, .int .i64 0, .int .u8 0, .bool false]) (ai (p := 2) (ty := 61) (by kernel_rfl) _ _ w.heap.size 61 _ (0, 0) D rfl (setRow_heap _ _ #[.string ⟨#[]⟩, .string ⟨#[]⟩, .int .u8 0, .int .u32 0, .int .u32 0, .int .i64 0, .int .u8 0, .bool false] _ _ _ HZZ.out) HU.out HD.out aV) rfl ?_
  rw [HE.out]
  refine ⟨_, rfl, ⟨_, rfl, rfl, HX4.out, by show (0 : Nat) < 4294967296; omega, by show (-9223372036854775808 : Int) ≤ 0; omega, by show (0 : Int) ≤ 9223372036854775807; omega⟩, ?_, O HMZ.out (fun hg => by omega) _⟩
  rw [HLD.out]
  exact HRZ.out.keep (O (T := (· = w.heap.size)) (Mod.refl _ _) (fun _ => rfl) _) (fun g hg e => by have := HLT.out; omega)
 ·have HC4 := Y (fun W (hW : Rb W R l3) (hTW : Tb W) => gH R l3 W hW hTW)
  cases h4 : table l3 with
  | error e4 =>
   have HE : Hid (imp l = .error e4) := Y (by rw [cv]; exact ag HE1.out HL1.out (ag HE2.out HL2.out (ag HE3.out HL3.out (by rw [if_neg (by decide), if_pos rfl]; exact ak h4))))
   simp only [h4] at HC4
   clear h4
   go_enter Tryz.func71, Tryz.ntmps71
   go_wp2_with (first | (go_at_call 117; clear tok1; refine (HC1.out _ HR0.out HT0.out).mono ?_; rintro e w1 ⟨v, rfl, hv, hr, hm⟩; obtain rfl : v = .string ⟨x1.toArray⟩ := hv; obtain ⟨HR1, HT1, HS1, HZ1, HM1⟩ := bs HL1 hr HT0 HR0 hm HS0 HZ0 HLT HM0; clear hr hm) | (go_at_call 117; clear tok2; refine (HC2.out _ HR1.out HT1.out).mono ?_; rintro e w2 ⟨v, rfl, hv, hr, hm⟩; obtain rfl : v = .string ⟨x2.toArray⟩ := hv; obtain ⟨HR2, HT2, HS2, HZ2, HM2⟩ := bs HL2 hr HT1 HR1 hm HS1 HZ1 HLT HM1; clear hr hm) | (go_at_call 118; clear tok3; refine (HC3.out _ HR2.out).mono ?_; rintro e w3 ⟨v, rfl, hv, hr, hm⟩; obtain rfl : v = .int .u8 1 := hv; obtain ⟨HR3, HT3, HS3, HZ3, HM3⟩ := bs HL3 hr HT2 HR2 hm HS2 HZ2 HLT HM2; clear hr hm; have HR3b : Hid (Rb (w3.alloc (.cells #[.string ⟨x1.toArray⟩, .string ⟨x2.toArray⟩, .int .u8 1, .int .u32 0, .int .u32 0, .int .i64 0, .int .u8 0, .bool false] 61)) R l3) := Y (HR3.out.alloc _); have HT3b : Hid (Tb (w3.alloc (.cells #[.string ⟨x1.toArray⟩, .string ⟨x2.toArray⟩, .int .u8 1, .int .u32 0, .int .u32 0, .int .i64 0, .int .u8 0, .bool false] 61))) := Y (HT3.out.on ((Below.refl _ _).alloc (Nat.le_refl _) _)); have HM3b : Hid (Mod (· = R) w (w3.alloc (.cells #[.string ⟨x1.toArray⟩, .string ⟨x2.toArray⟩, .int .u8 1, .int .u32 0, .int .u32 0, .int .i64 0, .int .u8 0, .bool false] 61))) := Y (HM3.out.alloc _); have HZ3b : Hid ((w3.alloc (.cells #[.string ⟨x1.toArray⟩, .string ⟨x2.toArray⟩, .int .u8 1, .int .u32 0, .int .u32 0, .int .i64 0, .int .u8 0, .bool false] 61)).heap[w.heap.size]? = some (.cells #[.string ⟨#[]⟩, .string ⟨#[]⟩, .int .u8 0, .int .u32 0, .int .u32 0, .int .i64 0, .int .u8 0, .bool false] 61 (0, 0))) := Y ((Below.heap_alloc w3 _ _ (by have := HS3.out; omega)).trans HZ3.out); have HX3b : Hid ((w3.alloc (.cells #[.string ⟨x1.toArray⟩, .string ⟨x2.toArray⟩, .int .u8 1, .int .u32 0, .int .u32 0, .int .i64 0, .int .u8 0, .bool false] 61)).heap[w3.heap.size]? = some (.cells #[.string ⟨x1.toArray⟩, .string ⟨x2.toArray⟩, .int .u8 1, .int .u32 0, .int .u32 0, .int .i64 0, .int .u8 0, .bool false] 61 (0, 0))) := Y (heap_alloc_new w3 _); have hc3 := cells8 HX3b.out; obtain ⟨_, _, y2, _, _, _, _, _⟩ := hc3) | (go_at_call 75; clear tok4; refine (HC4.out _ HR3b.out HT3b.out).mono ?_; rintro e w4 ⟨rfl, hm⟩))
   rw [HE.out]
   exact ⟨rfl, rfl, HM3b.out.trans hm (fun _ _ h => h)⟩
  | ok q4 =>
  obtain ⟨x4, k4⟩ := q4
  simp only [h4] at HC4
  have HE4 := Y h4
  clear h4
  obtain ⟨l4, hl4⟩ : ∃ l4, l3.drop k4 = l4 := ⟨_, rfl⟩
  have HL4 := Y hl4
  clear hl4
  have HE : Hid (imp l = .ok (_, k1 + (k2 + (k3 + (k4 + 0))))) := Y (by rw [cv]; exact ae HE1.out HL1.out (ae HE2.out HL2.out (ae HE3.out HL3.out (by rw [if_neg (by decide), if_pos rfl]; exact ae (f := fun (t : Lim) => P.ret (⟨x1, x2, 1, 0, t, ⟨0, false⟩⟩ : Imp)) HE4.out HL4.out (ay _ _)))))
  have HLD : Hid (l.drop (k1 + (k2 + (k3 + (k4 + 0)))) = l4) := Y (by rw [Nat.add_zero, ← List.drop_drop, ← List.drop_drop, ← List.drop_drop, HL1.out, HL2.out, HL3.out, HL4.out])
  go_enter Tryz.func71, Tryz.ntmps71
  go_upto_region 11 with (first | (go_at_call 117; clear tok1; refine (HC1.out _ HR0.out HT0.out).mono ?_; rintro e w1 ⟨v, rfl, hv, hr, hm⟩; obtain rfl : v = .string ⟨x1.toArray⟩ := hv; obtain ⟨HR1, HT1, HS1, HZ1, HM1⟩ := bs HL1 hr HT0 HR0 hm HS0 HZ0 HLT HM0; clear hr hm) | (go_at_call 117; clear tok2; refine (HC2.out _ HR1.out HT1.out).mono ?_; rintro e w2 ⟨v, rfl, hv, hr, hm⟩; obtain rfl : v = .string ⟨x2.toArray⟩ := hv; obtain ⟨HR2, HT2, HS2, HZ2, HM2⟩ := bs HL2 hr HT1 HR1 hm HS1 HZ1 HLT HM1; clear hr hm) | (go_at_call 118; clear tok3; refine (HC3.out _ HR2.out).mono ?_; rintro e w3 ⟨v, rfl, hv, hr, hm⟩; obtain rfl : v = .int .u8 1 := hv; obtain ⟨HR3, HT3, HS3, HZ3, HM3⟩ := bs HL3 hr HT2 HR2 hm HS2 HZ2 HLT HM2; clear hr hm; have HR3b : Hid (Rb (w3.alloc (.cells #[.string ⟨x1.toArray⟩, .string ⟨x2.toArray⟩, .int .u8 1, .int .u32 0, .int .u32 0, .int .i64 0, .int .u8 0, .bool false] 61)) R l3) := Y (HR3.out.alloc _); have HT3b : Hid (Tb (w3.alloc (.cells #[.string ⟨x1.toArray⟩, .string ⟨x2.toArray⟩, .int .u8 1, .int .u32 0, .int .u32 0, .int .i64 0, .int .u8 0, .bool false] 61))) := Y (HT3.out.on ((Below.refl _ _).alloc (Nat.le_refl _) _)); have HM3b : Hid (Mod (· = R) w (w3.alloc (.cells #[.string ⟨x1.toArray⟩, .string ⟨x2.toArray⟩, .int .u8 1, .int .u32 0, .int .u32 0, .int .i64 0, .int .u8 0, .bool false] 61))) := Y (HM3.out.alloc _); have HZ3b : Hid ((w3.alloc (.cells #[.string ⟨x1.toArray⟩, .string ⟨x2.toArray⟩, .int .u8 1, .int .u32 0, .int .u32 0, .int .i64 0, .int .u8 0, .bool false] 61)).heap[w.heap.size]? = some (.cells #[.string ⟨#[]⟩, .string ⟨#[]⟩, .int .u8 0, .int .u32 0, .int .u32 0, .int .i64 0, .int .u8 0, .bool false] 61 (0, 0))) := Y ((Below.heap_alloc w3 _ _ (by have := HS3.out; omega)).trans HZ3.out); have HX3b : Hid ((w3.alloc (.cells #[.string ⟨x1.toArray⟩, .string ⟨x2.toArray⟩, .int .u8 1, .int .u32 0, .int .u32 0, .int .i64 0, .int .u8 0, .bool false] 61)).heap[w3.heap.size]? = some (.cells #[.string ⟨x1.toArray⟩, .string ⟨x2.toArray⟩, .int .u8 1, .int .u32 0, .int .u32 0, .int .i64 0, .int .u8 0, .bool false] 61 (0, 0))) := Y (heap_alloc_new w3 _); have hc3 := cells8 HX3b.out; obtain ⟨_, _, y2, _, _, _, _, _⟩ := hc3) | (go_at_call 75; clear tok4; refine (HC4.out _ HR3b.out HT3b.out).mono ?_; rintro e w4 ⟨v, rfl, hv, hr, hm⟩; obtain ⟨cs, rfl, hcs⟩ := hv; obtain ⟨rfl, hwf⟩ := hcs; have HX4 := Y hwf; clear hwf; have hX := hm.heap HX3b.out (fun e => by have := HLT.out; have := HS3.out; omega); have g4 := frozen_of_row _ _ 4 _ _ hX; have g5 := frozen_of_row _ _ 5 _ _ hX; have hc4 := cells8 hX; obtain ⟨y0, y1, y2, y3, y4, y5, y6, y7⟩ := hc4; have HXC := Y hX; have HR4 := Y (by have h := hr; rw [HL4.out] at h; exact h); have HZ4 := Y (hm.heap HZ3b.out (fun e => by have := HLT.out; omega)); have HM4 := Y (HM3b.out.trans hm (fun _ _ h => h)); clear hr hm hX))
  have hms : Mod (· = w3.heap.size) w4 ((w4.setCell ⟨w3.heap.size, 4, none⟩ (.int .u32 (x4.min : Int))).setCell ⟨w3.heap.size, 5, none⟩ (.int .i64 x4.max)) := (Mod.setCell (T := (· = w3.heap.size)) (Mod.setCell (T := (· = w3.heap.size)) (Mod.refl _ w4) (fun _ => rfl) _) (fun _ => rfl) _)
  have HXZ : Hid (((w4.setCell ⟨w3.heap.size, 4, none⟩ (.int .u32 (x4.min : Int))).setCell ⟨w3.heap.size, 5, none⟩ (.int .i64 x4.max)).heap[w3.heap.size]? = some (.cells #[.string ⟨x1.toArray⟩, .string ⟨x2.toArray⟩, .int .u8 1, .int .u32 0, .int .u32 (x4.min : Int), .int .i64 x4.max, .int .u8 0, .bool false] 61 (0, 0))) := Y (heap_setCell_same (w4.setCell ⟨w3.heap.size, 4, none⟩ (.int .u32 (x4.min : Int))) w3.heap.size 5 _ _ (.int .i64 x4.max) (heap_setCell_same w4 w3.heap.size 4 _ _ (.int .u32 (x4.min : Int)) HXC.out))
  have HZZ : Hid (((w4.setCell ⟨w3.heap.size, 4, none⟩ (.int .u32 (x4.min : Int))).setCell ⟨w3.heap.size, 5, none⟩ (.int .i64 x4.max)).heap[w.heap.size]? = some (.cells #[.string ⟨#[]⟩, .string ⟨#[]⟩, .int .u8 0, .int .u32 0, .int .u32 0, .int .i64 0, .int .u8 0, .bool false] 61 (0, 0))) := Y (hms.heap HZ4.out (fun e => by have := HS3.out; omega))
  have HMZ : Hid (Mod (· = R) w ((w4.setCell ⟨w3.heap.size, 4, none⟩ (.int .u32 (x4.min : Int))).setCell ⟨w3.heap.size, 5, none⟩ (.int .i64 x4.max))) := Y (HM4.out.trans hms (fun k hk e => by have := HS3.out; omega))
  have HRZ : Hid (Rb ((w4.setCell ⟨w3.heap.size, 4, none⟩ (.int .u32 (x4.min : Int))).setCell ⟨w3.heap.size, 5, none⟩ (.int .i64 x4.max)) R l4) := Y (HR4.out.keep hms (fun k hk e => by have := HLT.out; have := HS3.out; omega))
  clear hms y0 y1 y2 y3 y4 y5 y6 y7 g4 g5
  generalize ((w4.setCell ⟨w3.heap.size, 4, none⟩ (.int .u32 (x4.min : Int))).setCell ⟨w3.heap.size, 5, none⟩ (.int .i64 x4.max)) = wz at HXZ HZZ HMZ HRZ ⊢
  obtain ⟨z0, z1, z2, z3, z4, z5, z6, z7⟩ := cells8 HXZ.out
  go_wp2_with (refine ac rfl 61 (.tmp 2) (.tmp 33) rfl rfl w.heap.size #[.string ⟨x1.toArray⟩, .string ⟨x2.toArray⟩, .int .u8 1, .int .u32 0, .int .u32 (x4.min : Int), .int .i64 x4.max, .int .u8 0, .bool false] rfl rfl 61 #[.string ⟨#[]⟩, .string ⟨#[]⟩, .int .u8 0, .int .u32 0, .int .u32 0, .int .i64 0, .int .u8 0, .bool false] HZZ.out aV rfl (by simp [Value.oneCell']) ?_)
  refine bodyPost_ret (v := .agg #[.string ⟨x1.toArray⟩, .string ⟨x2.toArray⟩, .int .u8 1, .int .u32 0, .int .u32 (x4.min : Int), .int .i64 x4.max, .int .u8 0, .bool false]) (ai (p := 2) (ty := 61) (by kernel_rfl) _ _ w.heap.size 61 _ (0, 0) D rfl (setRow_heap _ _ #[.string ⟨#[]⟩, .string ⟨#[]⟩, .int .u8 0, .int .u32 0, .int .u32 0, .int .i64 0, .int .u8 0, .bool false] _ _ _ HZZ.out) HU.out HD.out aV) rfl ?_
  rw [HE.out]
  refine ⟨_, rfl, ⟨_, rfl, rfl, by show (0 : Nat) < 4294967296; omega, HX4.out⟩, ?_, O HMZ.out (fun hg => by omega) _⟩
  rw [HLD.out]
  exact HRZ.out.keep (O (T := (· = w.heap.size)) (Mod.refl _ _) (fun _ => rfl) _) (fun g hg e => by have := HLT.out; omega)
 ·have HC4 := Y (fun W (hW : Rb W R l3) (hTW : Tb W) => fK R l3 W hW hTW)
  cases h4 : lim l3 with
  | error e4 =>
   have HE : Hid (imp l = .error e4) := Y (by rw [cv]; exact ag HE1.out HL1.out (ag HE2.out HL2.out (ag HE3.out HL3.out (by rw [if_neg (by decide), if_neg (by decide), if_pos rfl]; exact ak h4))))
   simp only [h4] at HC4
   clear h4
   go_enter Tryz.func71, Tryz.ntmps71
   go_wp2_with (first | (go_at_call 117; clear tok1; refine (HC1.out _ HR0.out HT0.out).mono ?_; rintro e w1 ⟨v, rfl, hv, hr, hm⟩; obtain rfl : v = .string ⟨x1.toArray⟩ := hv; obtain ⟨HR1, HT1, HS1, HZ1, HM1⟩ := bs HL1 hr HT0 HR0 hm HS0 HZ0 HLT HM0; clear hr hm) | (go_at_call 117; clear tok2; refine (HC2.out _ HR1.out HT1.out).mono ?_; rintro e w2 ⟨v, rfl, hv, hr, hm⟩; obtain rfl : v = .string ⟨x2.toArray⟩ := hv; obtain ⟨HR2, HT2, HS2, HZ2, HM2⟩ := bs HL2 hr HT1 HR1 hm HS1 HZ1 HLT HM1; clear hr hm) | (go_at_call 118; clear tok3; refine (HC3.out _ HR2.out).mono ?_; rintro e w3 ⟨v, rfl, hv, hr, hm⟩; obtain rfl : v = .int .u8 2 := hv; obtain ⟨HR3, HT3, HS3, HZ3, HM3⟩ := bs HL3 hr HT2 HR2 hm HS2 HZ2 HLT HM2; clear hr hm; have HR3b : Hid (Rb (w3.alloc (.cells #[.string ⟨x1.toArray⟩, .string ⟨x2.toArray⟩, .int .u8 2, .int .u32 0, .int .u32 0, .int .i64 0, .int .u8 0, .bool false] 61)) R l3) := Y (HR3.out.alloc _); have HT3b : Hid (Tb (w3.alloc (.cells #[.string ⟨x1.toArray⟩, .string ⟨x2.toArray⟩, .int .u8 2, .int .u32 0, .int .u32 0, .int .i64 0, .int .u8 0, .bool false] 61))) := Y (HT3.out.on ((Below.refl _ _).alloc (Nat.le_refl _) _)); have HM3b : Hid (Mod (· = R) w (w3.alloc (.cells #[.string ⟨x1.toArray⟩, .string ⟨x2.toArray⟩, .int .u8 2, .int .u32 0, .int .u32 0, .int .i64 0, .int .u8 0, .bool false] 61))) := Y (HM3.out.alloc _); have HZ3b : Hid ((w3.alloc (.cells #[.string ⟨x1.toArray⟩, .string ⟨x2.toArray⟩, .int .u8 2, .int .u32 0, .int .u32 0, .int .i64 0, .int .u8 0, .bool false] 61)).heap[w.heap.size]? = some (.cells #[.string ⟨#[]⟩, .string ⟨#[]⟩, .int .u8 0, .int .u32 0, .int .u32 0, .int .i64 0, .int .u8 0, .bool false] 61 (0, 0))) := Y ((Below.heap_alloc w3 _ _ (by have := HS3.out; omega)).trans HZ3.out); have HX3b : Hid ((w3.alloc (.cells #[.string ⟨x1.toArray⟩, .string ⟨x2.toArray⟩, .int .u8 2, .int .u32 0, .int .u32 0, .int .i64 0, .int .u8 0, .bool false] 61)).heap[w3.heap.size]? = some (.cells #[.string ⟨x1.toArray⟩, .string ⟨x2.toArray⟩, .int .u8 2, .int .u32 0, .int .u32 0, .int .i64 0, .int .u8 0, .bool false] 61 (0, 0))) := Y (heap_alloc_new w3 _); have hc3 := cells8 HX3b.out; obtain ⟨_, _, y2, _, _, _, _, _⟩ := hc3) | (go_at_call 76; clear tok4; refine (HC4.out _ HR3b.out HT3b.out).mono ?_; rintro e w4 ⟨rfl, hm⟩))
   rw [HE.out]
   exact ⟨rfl, rfl, HM3b.out.trans hm (fun _ _ h => h)⟩
  | ok q4 =>
  obtain ⟨x4, k4⟩ := q4
  simp only [h4] at HC4
  have HE4 := Y h4
  clear h4
  obtain ⟨l4, hl4⟩ : ∃ l4, l3.drop k4 = l4 := ⟨_, rfl⟩
  have HL4 := Y hl4
  clear hl4
  have HE : Hid (imp l = .ok (_, k1 + (k2 + (k3 + (k4 + 0))))) := Y (by rw [cv]; exact ae HE1.out HL1.out (ae HE2.out HL2.out (ae HE3.out HL3.out (by rw [if_neg (by decide), if_neg (by decide), if_pos rfl]; exact ae (f := fun (t : Lim) => P.ret (⟨x1, x2, 2, 0, t, ⟨0, false⟩⟩ : Imp)) HE4.out HL4.out (ay _ _)))))
  have HLD : Hid (l.drop (k1 + (k2 + (k3 + (k4 + 0)))) = l4) := Y (by rw [Nat.add_zero, ← List.drop_drop, ← List.drop_drop, ← List.drop_drop, HL1.out, HL2.out, HL3.out, HL4.out])
  go_enter Tryz.func71, Tryz.ntmps71
  go_upto_region 11 with (first | (go_at_call 117; clear tok1; refine (HC1.out _ HR0.out HT0.out).mono ?_; rintro e w1 ⟨v, rfl, hv, hr, hm⟩; obtain rfl : v = .string ⟨x1.toArray⟩ := hv; obtain ⟨HR1, HT1, HS1, HZ1, HM1⟩ := bs HL1 hr HT0 HR0 hm HS0 HZ0 HLT HM0; clear hr hm) | (go_at_call 117; clear tok2; refine (HC2.out _ HR1.out HT1.out).mono ?_; rintro e w2 ⟨v, rfl, hv, hr, hm⟩; obtain rfl : v = .string ⟨x2.toArray⟩ := hv; obtain ⟨HR2, HT2, HS2, HZ2, HM2⟩ := bs HL2 hr HT1 HR1 hm HS1 HZ1 HLT HM1; clear hr hm) | (go_at_call 118; clear tok3; refine (HC3.out _ HR2.out).mono ?_; rintro e w3 ⟨v, rfl, hv, hr, hm⟩; obtain rfl : v = .int .u8 2 := hv; obtain ⟨HR3, HT3, HS3, HZ3, HM3⟩ := bs HL3 hr HT2 HR2 hm HS2 HZ2 HLT HM2; clear hr hm; have HR3b : Hid (Rb (w3.alloc (.cells #[.string ⟨x1.toArray⟩, .string ⟨x2.toArray⟩, .int .u8 2, .int .u32 0, .int .u32 0, .int .i64 0, .int .u8 0, .bool false] 61)) R l3) := Y (HR3.out.alloc _); have HT3b : Hid (Tb (w3.alloc (.cells #[.string ⟨x1.toArray⟩, .string ⟨x2.toArray⟩, .int .u8 2, .int .u32 0, .int .u32 0, .int .i64 0, .int .u8 0, .bool false] 61))) := Y (HT3.out.on ((Below.refl _ _).alloc (Nat.le_refl _) _)); have HM3b : Hid (Mod (· = R) w (w3.alloc (.cells #[.string ⟨x1.toArray⟩, .string ⟨x2.toArray⟩, .int .u8 2, .int .u32 0, .int .u32 0, .int .i64 0, .int .u8 0, .bool false] 61))) := Y (HM3.out.alloc _); have HZ3b : Hid ((w3.alloc (.cells #[.string ⟨x1.toArray⟩, .string ⟨x2.toArray⟩, .int .u8 2, .int .u32 0, .int .u32 0, .int .i64 0, .int .u8 0, .bool false] 61)).heap[w.heap.size]? = some (.cells #[.string ⟨#[]⟩, .string ⟨#[]⟩, .int .u8 0, .int .u32 0, .int .u32 0, .int .i64 0, .int .u8 0, .bool false] 61 (0, 0))) := Y ((Below.heap_alloc w3 _ _ (by have := HS3.out; omega)).trans HZ3.out); have HX3b : Hid ((w3.alloc (.cells #[.string ⟨x1.toArray⟩, .string ⟨x2.toArray⟩, .int .u8 2, .int .u32 0, .int .u32 0, .int .i64 0, .int .u8 0, .bool false] 61)).heap[w3.heap.size]? = some (.cells #[.string ⟨x1.toArray⟩, .string ⟨x2.toArray⟩, .int .u8 2, .int .u32 0, .int .u32 0, .int .i64 0, .int .u8 0, .bool false] 61 (0, 0))) := Y (heap_alloc_new w3 _); have hc3 := cells8 HX3b.out; obtain ⟨_, _, y2, _, _, _, _, _⟩ := hc3) | (go_at_call 76; clear tok4; refine (HC4.out _ HR3b.out HT3b.out).mono ?_; rintro e w4 ⟨v, rfl, hv, hr, hm⟩; obtain ⟨cs, rfl, hcs⟩ := hv; obtain ⟨rfl, hwf⟩ := hcs; have HX4 := Y hwf; clear hwf; have hX := hm.heap HX3b.out (fun e => by have := HLT.out; have := HS3.out; omega); have g4 := frozen_of_row _ _ 4 _ _ hX; have g5 := frozen_of_row _ _ 5 _ _ hX; have hc4 := cells8 hX; obtain ⟨y0, y1, y2, y3, y4, y5, y6, y7⟩ := hc4; have HXC := Y hX; have HR4 := Y (by have h := hr; rw [HL4.out] at h; exact h); have HZ4 := Y (hm.heap HZ3b.out (fun e => by have := HLT.out; omega)); have HM4 := Y (HM3b.out.trans hm (fun _ _ h => h)); clear hr hm hX))
  have hms : Mod (· = w3.heap.size) w4 ((w4.setCell ⟨w3.heap.size, 4, none⟩ (.int .u32 (x4.min : Int))).setCell ⟨w3.heap.size, 5, none⟩ (.int .i64 x4.max)) := (Mod.setCell (T := (· = w3.heap.size)) (Mod.setCell (T := (· = w3.heap.size)) (Mod.refl _ w4) (fun _ => rfl) _) (fun _ => rfl) _)
  have HXZ : Hid (((w4.setCell ⟨w3.heap.size, 4, none⟩ (.int .u32 (x4.min : Int))).setCell ⟨w3.heap.size, 5, none⟩ (.int .i64 x4.max)).heap[w3.heap.size]? = some (.cells #[.string ⟨x1.toArray⟩, .string ⟨x2.toArray⟩, .int .u8 2, .int .u32 0, .int .u32 (x4.min : Int), .int .i64 x4.max, .int .u8 0, .bool false] 61 (0, 0))) := Y (heap_setCell_same (w4.setCell ⟨w3.heap.size, 4, none⟩ (.int .u32 (x4.min : Int))) w3.heap.size 5 _ _ (.int .i64 x4.max) (heap_setCell_same w4 w3.heap.size 4 _ _ (.int .u32 (x4.min : Int)) HXC.out))
  have HZZ : Hid (((w4.setCell ⟨w3.heap.size, 4, none⟩ (.int .u32 (x4.min : Int))).setCell ⟨w3.heap.size, 5, none⟩ (.int .i64 x4.max)).heap[w.heap.size]? = some (.cells #[.string ⟨#[]⟩, .string ⟨#[]⟩, .int .u8 0, .int .u32 0, .int .u32 0, .int .i64 0, .int .u8 0, .bool false] 61 (0, 0))) := Y (hms.heap HZ4.out (fun e => by have := HS3.out; omega))
  have HMZ : Hid (Mod (· = R) w ((w4.setCell ⟨w3.heap.size, 4, none⟩ (.int .u32 (x4.min : Int))).setCell ⟨w3.heap.size, 5, none⟩ (.int .i64 x4.max))) := Y (HM4.out.trans hms (fun k hk e => by have := HS3.out; omega))
  have HRZ : Hid (Rb ((w4.setCell ⟨w3.heap.size, 4, none⟩ (.int .u32 (x4.min : Int))).setCell ⟨w3.heap.size, 5, none⟩ (.int .i64 x4.max)) R l4) := Y (HR4.out.keep hms (fun k hk e => by have := HLT.out; have := HS3.out; omega))
  clear hms y0 y1 y2 y3 y4 y5 y6 y7 g4 g5
  generalize ((w4.setCell ⟨w3.heap.size, 4, none⟩ (.int .u32 (x4.min : Int))).setCell ⟨w3.heap.size, 5, none⟩ (.int .i64 x4.max)) = wz at HXZ HZZ HMZ HRZ ⊢
  obtain ⟨z0, z1, z2, z3, z4, z5, z6, z7⟩ := cells8 HXZ.out
  go_wp2_with (refine ac rfl 61 (.tmp 2) (.tmp 33) rfl rfl w.heap.size #[.string ⟨x1.toArray⟩, .string ⟨x2.toArray⟩, .int .u8 2, .int .u32 0, .int .u32 (x4.min : Int), .int .i64 x4.max, .int .u8 0, .bool false] rfl rfl 61 #[.string ⟨#[]⟩, .string ⟨#[]⟩, .int .u8 0, .int .u32 0, .int .u32 0, .int .i64 0, .int .u8 0, .bool false] HZZ.out aV rfl (by simp [Value.oneCell']) ?_)
  refine bodyPost_ret (v := .agg #[.string ⟨x1.toArray⟩, .string ⟨x2.toArray⟩, .int .u8 2, .int .u32 0, .int .u32 (x4.min : Int), .int .i64 x4.max, .int .u8 0, .bool false]) (ai (p := 2) (ty := 61) (by kernel_rfl) _ _ w.heap.size 61 _ (0, 0) D rfl (setRow_heap _ _ #[.string ⟨#[]⟩, .string ⟨#[]⟩, .int .u8 0, .int .u32 0, .int .u32 0, .int .i64 0, .int .u8 0, .bool false] _ _ _ HZZ.out) HU.out HD.out aV) rfl ?_
  rw [HE.out]
  refine ⟨_, rfl, ⟨_, rfl, rfl, by show (0 : Nat) < 4294967296; omega, HX4.out⟩, ?_, O HMZ.out (fun hg => by omega) _⟩
  rw [HLD.out]
  exact HRZ.out.keep (O (T := (· = w.heap.size)) (Mod.refl _ _) (fun _ => rfl) _) (fun g hg e => by have := HLT.out; omega)
 ·have HC4 := Y (fun W (hW : Rb W R l3) (hTW : Tb W) => hI R l3 W hW hTW)
  cases h4 : glob l3 with
  | error e4 =>
   have HE : Hid (imp l = .error e4) := Y (by rw [cv]; exact ag HE1.out HL1.out (ag HE2.out HL2.out (ag HE3.out HL3.out (by rw [if_neg (by decide), if_neg (by decide), if_neg (by decide)]; exact ak h4))))
   simp only [h4] at HC4
   clear h4
   go_enter Tryz.func71, Tryz.ntmps71
   go_wp2_with (first | (go_at_call 117; clear tok1; refine (HC1.out _ HR0.out HT0.out).mono ?_; rintro e w1 ⟨v, rfl, hv, hr, hm⟩; obtain rfl : v = .string ⟨x1.toArray⟩ := hv; obtain ⟨HR1, HT1, HS1, HZ1, HM1⟩ := bs HL1 hr HT0 HR0 hm HS0 HZ0 HLT HM0; clear hr hm) | (go_at_call 117; clear tok2; refine (HC2.out _ HR1.out HT1.out).mono ?_; rintro e w2 ⟨v, rfl, hv, hr, hm⟩; obtain rfl : v = .string ⟨x2.toArray⟩ := hv; obtain ⟨HR2, HT2, HS2, HZ2, HM2⟩ := bs HL2 hr HT1 HR1 hm HS1 HZ1 HLT HM1; clear hr hm) | (go_at_call 118; clear tok3; refine (HC3.out _ HR2.out).mono ?_; rintro e w3 ⟨v, rfl, hv, hr, hm⟩; obtain rfl : v = .int .u8 3 := hv; obtain ⟨HR3, HT3, HS3, HZ3, HM3⟩ := bs HL3 hr HT2 HR2 hm HS2 HZ2 HLT HM2; clear hr hm; have HR3b : Hid (Rb (w3.alloc (.cells #[.string ⟨x1.toArray⟩, .string ⟨x2.toArray⟩, .int .u8 3, .int .u32 0, .int .u32 0, .int .i64 0, .int .u8 0, .bool false] 61)) R l3) := Y (HR3.out.alloc _); have HT3b : Hid (Tb (w3.alloc (.cells #[.string ⟨x1.toArray⟩, .string ⟨x2.toArray⟩, .int .u8 3, .int .u32 0, .int .u32 0, .int .i64 0, .int .u8 0, .bool false] 61))) := Y (HT3.out.on ((Below.refl _ _).alloc (Nat.le_refl _) _)); have HM3b : Hid (Mod (· = R) w (w3.alloc (.cells #[.string ⟨x1.toArray⟩, .string ⟨x2.toArray⟩, .int .u8 3, .int .u32 0, .int .u32 0, .int .i64 0, .int .u8 0, .bool false] 61))) := Y (HM3.out.alloc _); have HZ3b : Hid ((w3.alloc (.cells #[.string ⟨x1.toArray⟩, .string ⟨x2.toArray⟩, .int .u8 3, .int .u32 0, .int .u32 0, .int .i64 0, .int .u8 0, .bool false] 61)).heap[w.heap.size]? = some (.cells #[.string ⟨#[]⟩, .string ⟨#[]⟩, .int .u8 0, .int .u32 0, .int .u32 0, .int .i64 0, .int .u8 0, .bool false] 61 (0, 0))) := Y ((Below.heap_alloc w3 _ _ (by have := HS3.out; omega)).trans HZ3.out); have HX3b : Hid ((w3.alloc (.cells #[.string ⟨x1.toArray⟩, .string ⟨x2.toArray⟩, .int .u8 3, .int .u32 0, .int .u32 0, .int .i64 0, .int .u8 0, .bool false] 61)).heap[w3.heap.size]? = some (.cells #[.string ⟨x1.toArray⟩, .string ⟨x2.toArray⟩, .int .u8 3, .int .u32 0, .int .u32 0, .int .i64 0, .int .u8 0, .bool false] 61 (0, 0))) := Y (heap_alloc_new w3 _); have hc3 := cells8 HX3b.out; obtain ⟨_, _, y2, _, _, _, _, _⟩ := hc3) | (go_at_call 119; clear tok4; refine (HC4.out _ HR3b.out HT3b.out).mono ?_; rintro e w4 ⟨rfl, hm⟩))
   rw [HE.out]
   exact ⟨rfl, rfl, HM3b.out.trans hm (fun _ _ h => h)⟩
  | ok q4 =>
  obtain ⟨x4, k4⟩ := q4
  simp only [h4] at HC4
  have HE4 := Y h4
  clear h4
  obtain ⟨l4, hl4⟩ : ∃ l4, l3.drop k4 = l4 := ⟨_, rfl⟩
  have HL4 := Y hl4
  clear hl4
  have HE : Hid (imp l = .ok (_, k1 + (k2 + (k3 + (k4 + 0))))) := Y (by rw [cv]; exact ae HE1.out HL1.out (ae HE2.out HL2.out (ae HE3.out HL3.out (by rw [if_neg (by decide), if_neg (by decide), if_neg (by decide)]; exact ae (f := fun (t : Glob) => P.ret (⟨x1, x2, 3, 0, ⟨0, 0⟩, t⟩ : Imp)) HE4.out HL4.out (ay _ _)))))
  have HLD : Hid (l.drop (k1 + (k2 + (k3 + (k4 + 0)))) = l4) := Y (by rw [Nat.add_zero, ← List.drop_drop, ← List.drop_drop, ← List.drop_drop, HL1.out, HL2.out, HL3.out, HL4.out])
  go_enter Tryz.func71, Tryz.ntmps71
  go_upto_region 11 with (first | (go_at_call 117; clear tok1; refine (HC1.out _ HR0.out HT0.out).mono ?_; rintro e w1 ⟨v, rfl, hv, hr, hm⟩; obtain rfl : v = .string ⟨x1.toArray⟩ := hv; obtain ⟨HR1, HT1, HS1, HZ1, HM1⟩ := bs HL1 hr HT0 HR0 hm HS0 HZ0 HLT HM0; clear hr hm) | (go_at_call 117; clear tok2; refine (HC2.out _ HR1.out HT1.out).mono ?_; rintro e w2 ⟨v, rfl, hv, hr, hm⟩; obtain rfl : v = .string ⟨x2.toArray⟩ := hv; obtain ⟨HR2, HT2, HS2, HZ2, HM2⟩ := bs HL2 hr HT1 HR1 hm HS1 HZ1 HLT HM1; clear hr hm) | (go_at_call 118; clear tok3; refine (HC3.out _ HR2.out).mono ?_; rintro e w3 ⟨v, rfl, hv, hr, hm⟩; obtain rfl : v = .int .u8 3 := hv; obtain ⟨HR3, HT3, HS3, HZ3, HM3⟩ := bs HL3 hr HT2 HR2 hm HS2 HZ2 HLT HM2; clear hr hm; have HR3b : Hid (Rb (w3.alloc (.cells #[.string ⟨x1.toArray⟩, .string ⟨x2.toArray⟩, .int .u8 3, .int .u32 0, .int .u32 0, .int .i64 0, .int .u8 0, .bool false] 61)) R l3) := Y (HR3.out.alloc _); have HT3b : Hid (Tb (w3.alloc (.cells #[.string ⟨x1.toArray⟩, .string ⟨x2.toArray⟩, .int .u8 3, .int .u32 0, .int .u32 0, .int .i64 0, .int .u8 0, .bool false] 61))) := Y (HT3.out.on ((Below.refl _ _).alloc (Nat.le_refl _) _)); have HM3b : Hid (Mod (· = R) w (w3.alloc (.cells #[.string ⟨x1.toArray⟩, .string ⟨x2.toArray⟩, .int .u8 3, .int .u32 0, .int .u32 0, .int .i64 0, .int .u8 0, .bool false] 61))) := Y (HM3.out.alloc _); have HZ3b : Hid ((w3.alloc (.cells #[.string ⟨x1.toArray⟩, .string ⟨x2.toArray⟩, .int .u8 3, .int .u32 0, .int .u32 0, .int .i64 0, .int .u8 0, .bool false] 61)).heap[w.heap.size]? = some (.cells #[.string ⟨#[]⟩, .string ⟨#[]⟩, .int .u8 0, .int .u32 0, .int .u32 0, .int .i64 0, .int .u8 0, .bool false] 61 (0, 0))) := Y ((Below.heap_alloc w3 _ _ (by have := HS3.out; omega)).trans HZ3.out); have HX3b : Hid ((w3.alloc (.cells #[.string ⟨x1.toArray⟩, .string ⟨x2.toArray⟩, .int .u8 3, .int .u32 0, .int .u32 0, .int .i64 0, .int .u8 0, .bool false] 61)).heap[w3.heap.size]? = some (.cells #[.string ⟨x1.toArray⟩, .string ⟨x2.toArray⟩, .int .u8 3, .int .u32 0, .int .u32 0, .int .i64 0, .int .u8 0, .bool false] 61 (0, 0))) := Y (heap_alloc_new w3 _); have hc3 := cells8 HX3b.out; obtain ⟨_, _, y2, _, _, _, _, _⟩ := hc3) | (go_at_call 119; clear tok4; refine (HC4.out _ HR3b.out HT3b.out).mono ?_; rintro e w4 ⟨v, rfl, hv, hr, hm⟩; obtain rfl : v = .agg #[.int .u8 (x4.t.toNat : Int), .bool x4.mu] := hv; have hX := hm.heap HX3b.out (fun e => by have := HLT.out; have := HS3.out; omega); have g6 := frozen_of_row _ _ 6 _ _ hX; have g7 := frozen_of_row _ _ 7 _ _ hX; have hc4 := cells8 hX; obtain ⟨y0, y1, y2, y3, y4, y5, y6, y7⟩ := hc4; have HXC := Y hX; have HR4 := Y (by have h := hr; rw [HL4.out] at h; exact h); have HZ4 := Y (hm.heap HZ3b.out (fun e => by have := HLT.out; omega)); have HM4 := Y (HM3b.out.trans hm (fun _ _ h => h)); clear hr hm hX))
  have hms : Mod (· = w3.heap.size) w4 ((w4.setCell ⟨w3.heap.size, 6, none⟩ (.int .u8 (x4.t.toNat : Int))).setCell ⟨w3.heap.size, 7, none⟩ (.bool x4.mu)) := (Mod.setCell (T := (· = w3.heap.size)) (Mod.setCell (T := (· = w3.heap.size)) (Mod.refl _ w4) (fun _ => rfl) _) (fun _ => rfl) _)
  have HXZ : Hid (((w4.setCell ⟨w3.heap.size, 6, none⟩ (.int .u8 (x4.t.toNat : Int))).setCell ⟨w3.heap.size, 7, none⟩ (.bool x4.mu)).heap[w3.heap.size]? = some (.cells #[.string ⟨x1.toArray⟩, .string ⟨x2.toArray⟩, .int .u8 3, .int .u32 0, .int .u32 0, .int .i64 0, .int .u8 (x4.t.toNat : Int), .bool x4.mu] 61 (0, 0))) := Y (heap_setCell_same (w4.setCell ⟨w3.heap.size, 6, none⟩ (.int .u8 (x4.t.toNat : Int))) w3.heap.size 7 _ _ (.bool x4.mu) (heap_setCell_same w4 w3.heap.size 6 _ _ (.int .u8 (x4.t.toNat : Int)) HXC.out))
  have HZZ : Hid (((w4.setCell ⟨w3.heap.size, 6, none⟩ (.int .u8 (x4.t.toNat : Int))).setCell ⟨w3.heap.size, 7, none⟩ (.bool x4.mu)).heap[w.heap.size]? = some (.cells #[.string ⟨#[]⟩, .string ⟨#[]⟩, .int .u8 0, .int .u32 0, .int .u32 0, .int .i64 0, .int .u8 0, .bool false] 61 (0, 0))) := Y (hms.heap HZ4.out (fun e => by have := HS3.out; omega))
  have HMZ : Hid (Mod (· = R) w ((w4.setCell ⟨w3.heap.size, 6, none⟩ (.int .u8 (x4.t.toNat : Int))).setCell ⟨w3.heap.size, 7, none⟩ (.bool x4.mu))) := Y (HM4.out.trans hms (fun k hk e => by have := HS3.out; omega))
  have HRZ : Hid (Rb ((w4.setCell ⟨w3.heap.size, 6, none⟩ (.int .u8 (x4.t.toNat : Int))).setCell ⟨w3.heap.size, 7, none⟩ (.bool x4.mu)) R l4) := Y (HR4.out.keep hms (fun k hk e => by have := HLT.out; have := HS3.out; omega))
  clear hms y0 y1 y2 y3 y4 y5 y6 y7 g6 g7
  generalize ((w4.setCell ⟨w3.heap.size, 6, none⟩ (.int .u8 (x4.t.toNat : Int))).setCell ⟨w3.heap.size, 7, none⟩ (.bool x4.mu)) = wz at HXZ HZZ HMZ HRZ ⊢
  obtain ⟨z0, z1, z2, z3, z4, z5, z6, z7⟩ := cells8 HXZ.out
  go_wp2_with (refine ac rfl 61 (.tmp 2) (.tmp 33) rfl rfl w.heap.size #[.string ⟨x1.toArray⟩, .string ⟨x2.toArray⟩, .int .u8 3, .int .u32 0, .int .u32 0, .int .i64 0, .int .u8 (x4.t.toNat : Int), .bool x4.mu] rfl rfl 61 #[.string ⟨#[]⟩, .string ⟨#[]⟩, .int .u8 0, .int .u32 0, .int .u32 0, .int .i64 0, .int .u8 0, .bool false] HZZ.out aV rfl (by simp [Value.oneCell']) ?_)
  refine bodyPost_ret (v := .agg #[.string ⟨x1.toArray⟩, .string ⟨x2.toArray⟩, .int .u8 3, .int .u32 0, .int .u32 0, .int .i64 0, .int .u8 (x4.t.toNat : Int), .bool x4.mu]) (ai (p := 2) (ty := 61) (by kernel_rfl) _ _ w.heap.size 61 _ (0, 0) D rfl (setRow_heap _ _ #[.string ⟨#[]⟩, .string ⟨#[]⟩, .int .u8 0, .int .u32 0, .int .u32 0, .int .i64 0, .int .u8 0, .bool false] _ _ _ HZZ.out) HU.out HD.out aV) rfl ?_
  rw [HE.out]
  refine ⟨_, rfl, ⟨_, rfl, rfl, by show (0 : Nat) < 4294967296; omega, by show (0 : Nat) < 4294967296; omega, by show (-9223372036854775808 : Int) ≤ 0; omega, by show (0 : Int) ≤ 9223372036854775807; omega⟩, ?_, O HMZ.out (fun hg => by omega) _⟩
  rw [HLD.out]
  exact HRZ.out.keep (O (T := (· = w.heap.size)) (Mod.refl _ _) (fun _ => rfl) _) (fun g hg e => by have := HLT.out; omega)
end Go.Proofs.YthkglmkpnhhboaaGreatDoor
