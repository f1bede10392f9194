/-
  Layer 7's writer: lists of each kind. (gen/enc/lists.py)
-/
import Derived.Test.YthkglmkpnhhboaaGreatDoorR01
import Derived.Test.YthkglmkpnhhboaaGreatDoorR28
set_option maxRecDepth 100000
set_option maxHeartbeats 4000000
namespace Go.Proofs.YthkglmkpnhhboaaGreatDoor
open Go.RowKit Ins Bin
def argOf : List Value → Value
 | [x] => x
 | cs => .agg cs.toArray
theorem gi (R : Nat) (v : Value) (s : Option (List UInt8)) (A : Option Addr) (xs : List UInt8) (n c : Nat) (w : World) (h : WS w R v s) (hX : HasL w (· < R) A xs) (hn : xs.length = n) (hnc : n ≤ 9223372036854775807) :
  Calls Tryz.prog 126 #[.pointer (some ⟨R, 0, none⟩), .slice A n c, .func (.func 127) #[.pointer (some ⟨R, 0, none⟩)] #[]] w (ab R w v (adv s (∀ x ∈ xs, okT x) (encList (fun t => [t]) xs))) := by
 have HX := Y hX
 have HN := Y hn
 have HW := Y h
 have HL := Y (be R v s n w h hnc)
 have HP : Hid (∀ (W : World) (V : Value) (S : Option (List UInt8)) (x : UInt8) (cs : List Value), x ∈ xs → WS W R V S → Mod (R ≤ ·) w W → Lay.rep W (· < R) x cs → Calls Tryz.prog 127 #[.pointer (some ⟨R, 0, none⟩), argOf cs] W (ab R W V (adv S (okT x) ((fun t => [t]) x)))) := Y (fun W V S x cs hx hW hM hr => (by obtain rfl : cs = _ := hr; exact fU R V S x _ W hW rfl))
 have HZ : Hid (adv s True (Leb.encU n) = adv s (∀ x ∈ xs.take 0, okT x) (Leb.encU n ++ (xs.take 0).flatMap (fun t => [t]))) := Y (aj (by simp) (fun _ => by simp))
 have HJ : Hid (∀ (j : Nat) (x : UInt8), xs[j]? = some x → adv (adv s (∀ x ∈ xs.take j, okT x) (Leb.encU n ++ (xs.take j).flatMap (fun t => [t]))) (okT x) ((fun t => [t]) x) = adv s (∀ x ∈ xs.take (j + 1), okT x) (Leb.encU n ++ (xs.take (j + 1)).flatMap (fun t => [t]))) := Y (fun j x hx => by
  rw [ah, List.take_add_one, hx]
  exact aj (by simp [or_imp, forall_and]) (fun _ => by simp))
 have HE : Hid (adv s (∀ x ∈ xs.take n, okT x) (Leb.encU n ++ (xs.take n).flatMap (fun t => [t])) = adv s (∀ x ∈ xs, okT x) (encList (fun t => [t]) xs)) := Y (by rw [List.take_of_length_le (by omega)]; exact aj Iff.rfl (fun _ => by rw [← hn]; rfl))
 clear h hX hn
 go_enter Tryz.func126, Tryz.ntmps126
 go_upto_region 2 with (go_at_call 124; refine HL.out.mono ?_; rintro e w1 ⟨rfl, v1, hs, hm⟩; have HS1 := Y hs; have HM1 := Y hm; clear hs hm)
 go_loopw [14] (fun i wr => ∃ (j : Nat) (vj : Value), j ≤ n ∧ i = .int .i64 (j : Int) ∧ Hid (WS wr R vj (adv s (∀ x ∈ xs.take j, okT x) (Leb.encU n ++ (xs.take j).flatMap (fun t => [t])))) ∧ Hid (WMod R w v wr vj)) (fun i _ => n - (intOf i).toNat)
 case atStart => exact ⟨0, v1, by omega, rfl, Y (by rw [← HZ.out]; exact HS1.out), Y HM1.out⟩
 case round =>
  obtain ⟨j, vj, hj, rfl, HS, HM⟩ := hrel
  by_cases hjn : j < n
  ·obtain ⟨x, hx⟩ : ∃ x, xs[j]? = some x := ⟨_, List.getElem?_eq_getElem (by rw [HN.out]; exact hjn)⟩
   have hxm := List.mem_of_getElem? hx
   have HLOW := Y (HM.out.low HW.out)
   obtain ⟨g, o, cs, rfl, hgR, hg, hrep, hcell⟩ := (HX.out.mod HLOW.out (fun k _ h1 h2 => by omega)) j x hx
   have HR := Y hrep
   have HJX := Y (HJ.out j x hx)
   obtain rfl := hrep
   have hji : (j : Int) < (n : Int) := by omega
   have hsz : Lay.size UInt8 = 1 := rfl
   rw [hsz] at hcell
   have hc0 : wr.cell? _ = some (.int .u8 (x.toNat : Int)) := hcell 0 _ rfl
   simp only [Nat.add_zero] at hc0
   simp only [Nat.mul_one] at hc0
   have HQ := Y (HP.out wr vj _ x _ hxm HS.out HLOW.out HR.out)
   clear hx hxm hcell hsz hg hgR HR
   go_wp2_with (go_at_call 127; refine HQ.out.mono ?_; rintro e w2 ⟨rfl, v2, hs, hm⟩; have HS2 := Y hs; have HM2 := Y (HM.out.trans (hm)); clear hs hm)
   go_roundw
   case rel => exact ⟨j + 1, v2, by omega, by go_num, Y (by rw [← HJX.out]; exact HS2.out), HM2⟩
   case measure => simp [intOf]; omega
  ·obtain rfl : n = j := by omega
   go_wp2_with fail
   (first | go_end0 | refine bodyPost_ret (results_none rfl _ _ _) rfl ?_)
   rw [← HE.out]
   exact ⟨rfl, _, HS.out, HM.out⟩
theorem f8 (R : Nat) (v : Value) (s : Option (List UInt8)) (A : Option Addr) (xs : List Nat) (n c : Nat) (w : World) (h : WS w R v s) (hX : HasL w (· < R) A xs) (hn : xs.length = n) (hnc : n ≤ 9223372036854775807) :
  Calls Tryz.prog 95 #[.pointer (some ⟨R, 0, none⟩), .slice A n c, .func (.func 96) #[.pointer (some ⟨R, 0, none⟩)] #[]] w (ab R w v (adv s (∀ x ∈ xs, okNum x) (encList Leb.encU xs))) := by
 have HX := Y hX
 have HN := Y hn
 have HW := Y h
 have HL := Y (be R v s n w h hnc)
 have HP : Hid (∀ (W : World) (V : Value) (S : Option (List UInt8)) (x : Nat) (cs : List Value), x ∈ xs → WS W R V S → Mod (R ≤ ·) w W → Lay.rep W (· < R) x cs → Calls Tryz.prog 96 #[.pointer (some ⟨R, 0, none⟩), argOf cs] W (ab R W V (adv S (okNum x) (Leb.encU x)))) := Y (fun W V S x cs hx hW hM hr => (by obtain ⟨rfl, hxn⟩ := hr; have h := aU R V S x W hW hxn; rwa [aj (q := okNum x) (z := Leb.encU x) (by simp [okNum, hxn]) (fun _ => rfl)] at h))
 have HZ : Hid (adv s True (Leb.encU n) = adv s (∀ x ∈ xs.take 0, okNum x) (Leb.encU n ++ (xs.take 0).flatMap Leb.encU)) := Y (aj (by simp) (fun _ => by simp))
 have HJ : Hid (∀ (j : Nat) (x : Nat), xs[j]? = some x → adv (adv s (∀ x ∈ xs.take j, okNum x) (Leb.encU n ++ (xs.take j).flatMap Leb.encU)) (okNum x) (Leb.encU x) = adv s (∀ x ∈ xs.take (j + 1), okNum x) (Leb.encU n ++ (xs.take (j + 1)).flatMap Leb.encU)) := Y (fun j x hx => by
  rw [ah, List.take_add_one, hx]
  exact aj (by simp [or_imp, forall_and]) (fun _ => by simp))
 have HE : Hid (adv s (∀ x ∈ xs.take n, okNum x) (Leb.encU n ++ (xs.take n).flatMap Leb.encU) = adv s (∀ x ∈ xs, okNum x) (encList Leb.encU xs)) := Y (by rw [List.take_of_length_le (by omega)]; exact aj Iff.rfl (fun _ => by rw [← hn]; rfl))
 clear h hX hn
 go_enter Tryz.func95, Tryz.ntmps95
 go_upto_region 2 with (go_at_call 124; refine HL.out.mono ?_; rintro e w1 ⟨rfl, v1, hs, hm⟩; have HS1 := Y hs; have HM1 := Y hm; clear hs hm)
 go_loopw [14] (fun i wr => ∃ (j : Nat) (vj : Value), j ≤ n ∧ i = .int .i64 (j : Int) ∧ Hid (WS wr R vj (adv s (∀ x ∈ xs.take j, okNum x) (Leb.encU n ++ (xs.take j).flatMap Leb.encU))) ∧ Hid (WMod R w v wr vj)) (fun i _ => n - (intOf i).toNat)
 case atStart => exact ⟨0, v1, by omega, rfl, Y (by rw [← HZ.out]; exact HS1.out), Y HM1.out⟩
 case round =>
  obtain ⟨j, vj, hj, rfl, HS, HM⟩ := hrel
  by_cases hjn : j < n
  ·obtain ⟨x, hx⟩ : ∃ x, xs[j]? = some x := ⟨_, List.getElem?_eq_getElem (by rw [HN.out]; exact hjn)⟩
   have hxm := List.mem_of_getElem? hx
   have HLOW := Y (HM.out.low HW.out)
   obtain ⟨g, o, cs, rfl, hgR, hg, hrep, hcell⟩ := (HX.out.mod HLOW.out (fun k _ h1 h2 => by omega)) j x hx
   have HR := Y hrep
   have HJX := Y (HJ.out j x hx)
   obtain ⟨rfl, hxn⟩ := hrep
   have hji : (j : Int) < (n : Int) := by omega
   have hsz : Lay.size Nat = 1 := rfl
   rw [hsz] at hcell
   have hc0 : wr.cell? _ = some (.int .u32 (x : Int)) := hcell 0 _ rfl
   simp only [Nat.add_zero] at hc0
   simp only [Nat.mul_one] at hc0
   have HQ := Y (HP.out wr vj _ x _ hxm HS.out HLOW.out HR.out)
   clear hx hxm hcell hsz hg hgR HR
   go_wp2_with (go_at_call 96; refine HQ.out.mono ?_; rintro e w2 ⟨rfl, v2, hs, hm⟩; have HS2 := Y hs; have HM2 := Y (HM.out.trans (hm)); clear hs hm)
   go_roundw
   case rel => exact ⟨j + 1, v2, by omega, by go_num, Y (by rw [← HJX.out]; exact HS2.out), HM2⟩
   case measure => simp [intOf]; omega
  ·obtain rfl : n = j := by omega
   go_wp2_with fail
   (first | go_end0 | refine bodyPost_ret (results_none rfl _ _ _) rfl ?_)
   rw [← HE.out]
   exact ⟨rfl, _, HS.out, HM.out⟩
theorem ellocs_any (R : Nat) (v : Value) (s : Option (List UInt8)) (A : Option Addr) (xs : List Lc) (n c : Nat) (w : World) (h : WS w R v s) (hX : HasL w (· < R) A xs) (hn : xs.length = n) (hnc : n ≤ 9223372036854775807) :
  Calls Tryz.prog 146 #[.pointer (some ⟨R, 0, none⟩), .slice A n c, .func (.func 147) #[.pointer (some ⟨R, 0, none⟩)] #[]] w (ab R w v (adv s (∀ x ∈ xs, okLc x) (encList encLc xs))) := by
 have HX := Y hX
 have HN := Y hn
 have HW := Y h
 have HL := Y (be R v s n w h hnc)
 have HP : Hid (∀ (W : World) (V : Value) (S : Option (List UInt8)) (x : Lc) (cs : List Value), x ∈ xs → WS W R V S → Mod (R ≤ ·) w W → Lay.rep W (· < R) x cs → Calls Tryz.prog 147 #[.pointer (some ⟨R, 0, none⟩), argOf cs] W (ab R W V (adv S (okLc x) (encLc x)))) := Y (fun W V S x cs hx hW hM hr => (by obtain ⟨rfl, hxn⟩ := hr; exact elocal_any R V S x W hW hxn))
 have HZ : Hid (adv s True (Leb.encU n) = adv s (∀ x ∈ xs.take 0, okLc x) (Leb.encU n ++ (xs.take 0).flatMap encLc)) := Y (aj (by simp) (fun _ => by simp))
 have HJ : Hid (∀ (j : Nat) (x : Lc), xs[j]? = some x → adv (adv s (∀ x ∈ xs.take j, okLc x) (Leb.encU n ++ (xs.take j).flatMap encLc)) (okLc x) (encLc x) = adv s (∀ x ∈ xs.take (j + 1), okLc x) (Leb.encU n ++ (xs.take (j + 1)).flatMap encLc)) := Y (fun j x hx => by
  rw [ah, List.take_add_one, hx]
  exact aj (by simp [or_imp, forall_and]) (fun _ => by simp))
 have HE : Hid (adv s (∀ x ∈ xs.take n, okLc x) (Leb.encU n ++ (xs.take n).flatMap encLc) = adv s (∀ x ∈ xs, okLc x) (encList encLc xs)) := Y (by rw [List.take_of_length_le (by omega)]; exact aj Iff.rfl (fun _ => by rw [← hn]; rfl))
 clear h hX hn
 go_enter Tryz.func146, Tryz.ntmps146
 go_upto_region 2 with (go_at_call 124; refine HL.out.mono ?_; rintro e w1 ⟨rfl, v1, hs, hm⟩; have HS1 := Y hs; have HM1 := Y hm; clear hs hm)
 go_loopw [14] (fun i wr => ∃ (j : Nat) (vj : Value), j ≤ n ∧ i = .int .i64 (j : Int) ∧ Hid (WS wr R vj (adv s (∀ x ∈ xs.take j, okLc x) (Leb.encU n ++ (xs.take j).flatMap encLc))) ∧ Hid (WMod R w v wr vj)) (fun i _ => n - (intOf i).toNat)
 case atStart => exact ⟨0, v1, by omega, rfl, Y (by rw [← HZ.out]; exact HS1.out), Y HM1.out⟩
 case round =>
  obtain ⟨j, vj, hj, rfl, HS, HM⟩ := hrel
  by_cases hjn : j < n
  ·obtain ⟨x, hx⟩ : ∃ x, xs[j]? = some x := ⟨_, List.getElem?_eq_getElem (by rw [HN.out]; exact hjn)⟩
   have hxm := List.mem_of_getElem? hx
   have HLOW := Y (HM.out.low HW.out)
   obtain ⟨g, o, cs, rfl, hgR, hg, hrep, hcell⟩ := (HX.out.mod HLOW.out (fun k _ h1 h2 => by omega)) j x hx
   have HR := Y hrep
   have HJX := Y (HJ.out j x hx)
   obtain ⟨rfl, hxn⟩ := hrep
   have hji : (j : Int) < (n : Int) := by omega
   have hsz : Lay.size Lc = 2 := rfl
   rw [hsz] at hcell
   have hc0 : wr.cell? _ = some (.int .u32 (x.n : Int)) := hcell 0 _ rfl
   have hc1 : wr.cell? _ = some (.int .u8 (x.t.toNat : Int)) := hcell 1 _ rfl
   simp only [Nat.add_zero] at hc0
   have HBA : Hid (Below wr.heap.size wr (wr.alloc (.cells #[.int .u32 (x.n : Int), .int .u8 (x.t.toNat : Int)] 121))) := Y ((Below.refl _ _).alloc (Nat.le_refl _) _)
   have HQ := Y (HP.out (wr.alloc (.cells #[.int .u32 (x.n : Int), .int .u8 (x.t.toNat : Int)] 121)) vj _ x _ hxm (HS.out.on HBA.out) ((HLOW.out).alloc _) (Lay.mod HR.out (Mod.of_below (T := fun _ => False) HBA.out) (fun _ _ _ h => h)))
   clear hx hxm hcell hsz hg hgR HR
   go_wp2_with (go_at_call 147; refine HQ.out.mono ?_; rintro e w2 ⟨rfl, v2, hs, hm⟩; have HS2 := Y hs; have HM2 := Y (HM.out.trans ((WMod.on _ HBA.out).trans hm)); clear hs hm)
   go_roundw
   case rel => exact ⟨j + 1, v2, by omega, by go_num, Y (by rw [← HJX.out]; exact HS2.out), HM2⟩
   case measure => simp [intOf]; omega
  ·obtain rfl : n = j := by omega
   go_wp2_with fail
   (first | go_end0 | refine bodyPost_ret (results_none rfl _ _ _) rfl ?_)
   rw [← HE.out]
   exact ⟨rfl, _, HS.out, HM.out⟩
def sumW (xs : List Lc) (j : Nat) : Nat := locSum (xs.take j)
theorem ij {xs : List Lc} {j : Nat} {x : Lc} (h : xs[j]? = some x) : sumW xs (j + 1) = sumW xs j + x.n := by
 unfold sumW locSum
 rw [List.take_add_one, h]
 simp
theorem sumW_le {xs : List Lc} (h : ∀ x ∈ xs, x.n < 4294967296) : ∀ (j : Nat), sumW xs j ≤ j * 4294967296
 | 0 => by simp [sumW, locSum]
 | j + 1 => by
  have ih := sumW_le h j
  cases hx : xs[j]? with
  | none =>
   have : sumW xs (j + 1) = sumW xs j := by
    unfold sumW
    rw [List.take_add_one, hx]
    simp
   omega
  | some x =>
   rw [ij hx]
   have := h x (List.mem_of_getElem? hx)
   omega
theorem elocals_any (R : Nat) (v : Value) (s : Option (List UInt8)) (A : Option Addr) (xs : List Lc) (n c : Nat) (w : World) (h : WS w R v s) (hX : HasL w (· < R) A xs) (hn : xs.length = n) (hnc : n ≤ 4000000000) :
  Calls Tryz.prog 134 #[.pointer (some ⟨R, 0, none⟩), .slice A n c] w (ab R w v (adv s ((∀ x ∈ xs, okLc x) ∧ locSum xs < 4294967296) (encList encLc xs))) := by
 have HW := Y h
 have HL := Y (ellocs_any R v s A xs n c w h hX hn (by omega))
 have hlt : ∀ x ∈ xs, x.n < 4294967296 := fun x hx => by
  obtain ⟨k, hk⟩ := List.mem_iff_getElem?.1 hx
  obtain ⟨_, _, _, _, _, _, ⟨_, h⟩, _⟩ := hX k x hk
  exact h
 have HSL := Y (fun j => sumW_le hlt j)
 have HALL : Hid (sumW xs n = locSum xs) := Y (by unfold sumW; rw [List.take_of_length_le (by omega)])
 have HX := Y hX
 have HN := Y hn
 have HP : Hid (∀ (W : World) (V : Value) (b : Bool), b = decide (locSum xs < 4294967296) → WS W R V (adv s (∀ x ∈ xs, okLc x) (encList encLc xs)) → Calls Tryz.prog 131 #[.pointer (some ⟨R, 0, none⟩), .bool b] W (ab R W V (adv s ((∀ x ∈ xs, okLc x) ∧ locSum xs < 4294967296) (encList encLc xs)))) := Y (fun W V b hb hW => by
  have h := aq R V _ b W hW
  rw [ah, aj (q := (∀ x ∈ xs, okLc x) ∧ locSum xs < 4294967296) (z := encList encLc xs) (by rw [hb, decide_eq_true_eq]) (fun _ => by simp)] at h
  exact h)
 clear h hX hn hlt
 go_enter Tryz.func134, Tryz.ntmps134
 go_upto_region 3 with (go_at_call 146; refine HL.out.mono ?_; rintro e w1 ⟨rfl, v1, hs, hm⟩; have HS1 := Y hs; have HM1 := Y hm; clear hs hm)
 go_loopw [4, 14] (fun u i wr => ∃ j : Nat, j ≤ n ∧ i = .int .i64 (j : Int) ∧ u = .int .u64 (sumW xs j : Int) ∧ Hid (Below w1.heap.size w1 wr)) (fun _ i _ => n - (intOf i).toNat)
 case atStart => exact ⟨0, by omega, rfl, rfl, Y (Below.refl _ _)⟩
 case round =>
  obtain ⟨j, hj, rfl, rfl, HM⟩ := hrel
  by_cases hjn : j < n
  ·obtain ⟨x, hx⟩ : ∃ x, xs[j]? = some x := ⟨_, List.getElem?_eq_getElem (by rw [HN.out]; exact hjn)⟩
   obtain ⟨g, o, cs, rfl, hgR, hg, ⟨hcs, hxn⟩, hcell⟩ := (HX.out.mod ((HM1.out.trans (WMod.on v1 HM.out)).low HW.out) (fun k _ h1 h2 => by omega)) j x hx
   subst hcs
   have hji : (j : Int) < (n : Int) := by omega
   have hsz : Lay.size Lc = 2 := rfl
   rw [hsz] at hcell
   have z0 := hcell 0 _ rfl
   have z1 := hcell 1 _ rfl
   simp only [Nat.add_zero] at z0
   have hs1 := HSL.out j
   have hs2 := ij hx
   have hw1 : IntKind.u64.wrap (x.n : Int) = (x.n : Int) := IntWalk.u64_in _ (by omega)
   have hw2 : IntKind.u64.wrap ((sumW xs j : Int) + (x.n : Int)) = (sumW xs j : Int) + (x.n : Int) := IntWalk.u64_in _ (by omega)
   have HS2 := Y hs2
   have HMX := Y (HM.out.alloc HM.out.size (.cells #[.int .u32 (x.n : Int), .int .u8 (x.t.toNat : Int)] 121))
   clear hx hcell hsz hs2 hg hgR
   generalize sumW xs j = u at hs1 hw2 HS2 ⊢
   go_wp2_with fail
   go_roundw
   case rel => exact ⟨j + 1, by omega, by go_num, by rw [HS2.out]; go_num, HMX⟩
   case measure => simp [intOf]; omega
  ·obtain rfl : n = j := by omega
   have hS := HALL.out
   rw [hS]
   have HMW := Y (HM1.out.trans (WMod.on v1 HM.out))
   have HSW := Y (HS1.out.on HM.out)
   by_cases hs : locSum xs < 4294967296
   ·have hd : (locSum xs : Int) ≤ 4294967295 := by omega
    have HPP := Y (HP.out wr v1 true (by rw [decide_eq_true hs]) HSW.out)
    clear hS hs
    obtain ⟨q, hq⟩ : ∃ q, locSum xs = q := ⟨_, rfl⟩
    rw [hq] at hd ⊢
    clear hq
    go_wp2_with (go_at_call 131; refine HPP.out.mono ?_; rintro e w2 ⟨rfl, v2, hs, hm⟩)
    (first | go_end0 | refine bodyPost_ret (results_none rfl _ _ _) rfl ?_)
    exact ⟨rfl, v2, hs, HMW.out.trans hm⟩
   ·have hd : ¬ (locSum xs : Int) ≤ 4294967295 := by omega
    have HPP := Y (HP.out wr v1 false (by rw [decide_eq_false hs]) HSW.out)
    clear hS hs
    obtain ⟨q, hq⟩ : ∃ q, locSum xs = q := ⟨_, rfl⟩
    rw [hq] at hd ⊢
    clear hq
    have hd2 : (4294967295 : Int) < (q : Int) := by omega
    go_wp2_with (go_at_call 131; refine HPP.out.mono ?_; rintro e w2 ⟨rfl, v2, hs, hm⟩)
    (first | go_end0 | refine bodyPost_ret (results_none rfl _ _ _) rfl ?_)
    exact ⟨rfl, v2, hs, HMW.out.trans hm⟩
theorem eft_any (R : Nat) (v : Value) (s : Option (List UInt8)) (x : FT) (A1 A2 : Option Addr) (n1 c1 n2 c2 : Nat) (w : World) (h : WS w R v s) (H1 : HasL w (· < R) A1 x.params) (H1_n : x.params.length = n1) (H1_c : n1 ≤ 9223372036854775807) (H2 : HasL w (· < R) A2 x.results) (H2_n : x.results.length = n2) (H2_c : n2 ≤ 9223372036854775807)  :
  Calls Tryz.prog 92 #[.pointer (some ⟨R, 0, none⟩), .agg #[.slice A1 n1 c1, .slice A2 n2 c2]] w (ab R w v (adv s (okFT x) (encFT x))) := by
 have HST : Hid (adv (adv (adv s (True) ([96])) (∀ t ∈ x.params, okT t) (encVals x.params)) (∀ t ∈ x.results, okT t) (encVals x.results) = adv s (okFT x) (encFT x)) := Y ((by rw [ah, ah]; exact aj (by simp [okFT]) (fun _ => rfl)))
 have HP1 : Hid (∀ (W : World) (V : Value), WS W R V (s) → Mod (R ≤ ·) w W → Calls Tryz.prog 125 #[.pointer (some ⟨R, 0, none⟩), .slice (some ⟨W.heap.size, 0, none⟩) 1 1] (W.alloc (.cells #[.int .u8 (96)] 5)) (ab R W V (adv (s) (True) ([96])))) := Y (fun W V hW hM => bv R V _ (96) (96) (rfl) W hW)
 have HP2 : Hid (∀ (W : World) (V : Value), WS W R V (adv s (True) ([96])) → Mod (R ≤ ·) w W → Calls Tryz.prog 126 #[.pointer (some ⟨R, 0, none⟩), .slice A1 n1 c1, .func (.func 127) #[.pointer (some ⟨R, 0, none⟩)] #[]] W (ab R W V (adv (adv s (True) ([96])) (∀ t ∈ x.params, okT t) (encVals x.params)))) := Y (fun W V hW hM => gi R V _ A1 x.params n1 c1 W hW (H1.mod hM (fun k _ h1 h2 => by omega)) H1_n H1_c)
 have HP3 : Hid (∀ (W : World) (V : Value), WS W R V (adv (adv s (True) ([96])) (∀ t ∈ x.params, okT t) (encVals x.params)) → Mod (R ≤ ·) w W → Calls Tryz.prog 126 #[.pointer (some ⟨R, 0, none⟩), .slice A2 n2 c2, .func (.func 127) #[.pointer (some ⟨R, 0, none⟩)] #[]] W (ab R W V (adv (adv (adv s (True) ([96])) (∀ t ∈ x.params, okT t) (encVals x.params)) (∀ t ∈ x.results, okT t) (encVals x.results)))) := Y (fun W V hW hM => gi R V _ A2 x.results n2 c2 W hW (H2.mod hM (fun k _ h1 h2 => by omega)) H2_n H2_c)
 have HW := Y h
 have tok1 : True := trivial
 have tok2 : True := trivial
 have tok3 : True := trivial
 have HX0 : Hid ((w.alloc (.cells #[.slice A1 n1 c1, .slice A2 n2 c2] 50)).heap[w.heap.size]? = some (.cells #[.slice A1 n1 c1, .slice A2 n2 c2] 50 (0, 0))) := Y (heap_alloc_new w _)
 have HB0 : Hid (Below w.heap.size w (w.alloc (.cells #[.slice A1 n1 c1, .slice A2 n2 c2] 50))) := Y ((Below.refl _ _).alloc (Nat.le_refl _) _)
 have HS0 : Hid (WS (w.alloc (.cells #[.slice A1 n1 c1, .slice A2 n2 c2] 50)) R v s) := Y (h.alloc _)
 have HLT := Y h.lt
 have HOL := Y h.own_lt
 clear h H1 H1_n H1_c H2 H2_n H2_c
 go_enter Tryz.func92, Tryz.ntmps92
 go_upto_region 1 with fail
 generalize w.alloc (.cells #[.slice A1 n1 c1, .slice A2 n2 c2] 50) = w0 at HX0 HB0 HS0 ⊢
 have HM0 := Y (WMod.refl R w0 v)
 have HXB : Hid (∀ (W : World) (V : Value), WMod R w0 v W V → W.cell? ⟨w.heap.size, 0, none⟩ = some (.slice A1 n1 c1) ∧ W.cell? ⟨w.heap.size, 1, none⟩ = some (.slice A2 n2 c2)) := Y (fun W V hm => by
  have hx := hm.1.heap HX0.out (fun e => by
   rcases e with e | e
   ·have := HLT.out; omega
   ·have := HOL.out _ e; omega)
  exact ⟨by rw [cell_of_row W _ 0 _ _ (0, 0) hx]; rfl, by rw [cell_of_row W _ 1 _ _ (0, 0) hx]; rfl⟩)
 obtain ⟨z0_0, z0_1⟩ := HXB.out _ _ HM0.out
 go_wp2_with (first | (go_at_call 125; clear tok1; refine (HP1.out _ _ HS0.out (((WMod.on v HB0.out).trans HM0.out).low HW.out)).mono ?_; rintro e w1 ⟨rfl, v1, hs, hm⟩; have HS1 := Y hs; have HM1 := Y (HM0.out.trans hm); clear hs hm; obtain ⟨z1_0, z1_1⟩ := HXB.out _ _ HM1.out) | (go_at_call 126; clear tok2; refine (HP2.out _ _ HS1.out (((WMod.on v HB0.out).trans HM1.out).low HW.out)).mono ?_; rintro e w2 ⟨rfl, v2, hs, hm⟩; have HS2 := Y hs; have HM2 := Y (HM1.out.trans hm); clear hs hm; obtain ⟨z2_0, z2_1⟩ := HXB.out _ _ HM2.out) | (go_at_call 126; clear tok3; refine (HP3.out _ _ HS2.out (((WMod.on v HB0.out).trans HM2.out).low HW.out)).mono ?_; rintro e w3 ⟨rfl, v3, hs, hm⟩; have HS3 := Y hs; have HM3 := Y (HM2.out.trans hm); clear hs hm))
 (first | go_end0 | refine bodyPost_ret (results_none rfl _ _ _) rfl ?_)
 rw [← HST.out]
 exact ⟨rfl, _, HS3.out, (WMod.on v HB0.out).trans HM3.out⟩
theorem egv_any (R : Nat) (v : Value) (s : Option (List UInt8)) (x : GV) (A1 : Option Addr) (n1 c1 : Nat) (w : World) (h : WS w R v s) (H1 : HasL w (· < R) A1 x.init) (H1_n : x.init.length = n1) (H1_f : Fit x.init)  :
  Calls Tryz.prog 101 #[.pointer (some ⟨R, 0, none⟩), .agg #[.int .u8 (x.type.t.toNat : Int), .bool x.type.mu, .slice A1 n1 c1]] w (ab R w v (adv s (okGV x) (encGV x))) := by
 have HST : Hid (adv (adv s (okGlob x.type) (encGlob x.type)) (okExpr x.init) (exprEnc x.init) = adv s (okGV x) (encGV x)) := Y ((by rw [ah]; exact aj Iff.rfl (fun _ => rfl)))
 have HP1 : Hid (∀ (W : World) (V : Value), WS W R V (s) → Mod (R ≤ ·) w W → Calls Tryz.prog 130 #[.pointer (some ⟨R, 0, none⟩), .agg #[.int .u8 (x.type.t.toNat : Int), .bool x.type.mu]] W (ab R W V (adv (s) (okGlob x.type) (encGlob x.type)))) := Y (fun W V hW hM => gS R V _ x.type W hW)
 have HP2 : Hid (∀ (W : World) (V : Value), WS W R V (adv s (okGlob x.type) (encGlob x.type)) → Mod (R ≤ ·) w W → Calls Tryz.prog 133 #[.pointer (some ⟨R, 0, none⟩), .slice A1 n1 c1] W (ab R W V (adv (adv s (okGlob x.type) (encGlob x.type)) (okExpr x.init) (exprEnc x.init)))) := Y (fun W V hW hM => dG R V _ A1 x.init n1 c1 W hW (((H1.mod hM (fun k _ h1 h2 => by omega)).more (S' := (· < W.heap.size)) (fun k hk _ => hk)).ins) H1_n.symm H1_f)
 have HW := Y h
 have tok1 : True := trivial
 have tok2 : True := trivial
 have HX0 : Hid ((w.alloc (.cells #[.int .u8 (x.type.t.toNat : Int), .bool x.type.mu, .slice A1 n1 c1] 63)).heap[w.heap.size]? = some (.cells #[.int .u8 (x.type.t.toNat : Int), .bool x.type.mu, .slice A1 n1 c1] 63 (0, 0))) := Y (heap_alloc_new w _)
 have HB0 : Hid (Below w.heap.size w (w.alloc (.cells #[.int .u8 (x.type.t.toNat : Int), .bool x.type.mu, .slice A1 n1 c1] 63))) := Y ((Below.refl _ _).alloc (Nat.le_refl _) _)
 have HS0 : Hid (WS (w.alloc (.cells #[.int .u8 (x.type.t.toNat : Int), .bool x.type.mu, .slice A1 n1 c1] 63)) R v s) := Y (h.alloc _)
 have HLT := Y h.lt
 have HOL := Y h.own_lt
 clear h H1 H1_n H1_f
 go_enter Tryz.func101, Tryz.ntmps101
 go_upto_region 1 with fail
 generalize w.alloc (.cells #[.int .u8 (x.type.t.toNat : Int), .bool x.type.mu, .slice A1 n1 c1] 63) = w0 at HX0 HB0 HS0 ⊢
 have HM0 := Y (WMod.refl R w0 v)
 have HXB : Hid (∀ (W : World) (V : Value), WMod R w0 v W V → W.cell? ⟨w.heap.size, 0, none⟩ = some (.int .u8 (x.type.t.toNat : Int)) ∧ W.cell? ⟨w.heap.size, 1, none⟩ = some (.bool x.type.mu) ∧ W.cell? ⟨w.heap.size, 2, none⟩ = some (.slice A1 n1 c1)) := Y (fun W V hm => by
  have hx := hm.1.heap HX0.out (fun e => by
   rcases e with e | e
   ·have := HLT.out; omega
   ·have := HOL.out _ e; omega)
  exact ⟨by rw [cell_of_row W _ 0 _ _ (0, 0) hx]; rfl, by rw [cell_of_row W _ 1 _ _ (0, 0) hx]; rfl, by rw [cell_of_row W _ 2 _ _ (0, 0) hx]; rfl⟩)
 obtain ⟨z0_0, z0_1, z0_2⟩ := HXB.out _ _ HM0.out
 go_wp2_with (first | (go_at_call 130; clear tok1; refine (HP1.out _ _ HS0.out (((WMod.on v HB0.out).trans HM0.out).low HW.out)).mono ?_; rintro e w1 ⟨rfl, v1, hs, hm⟩; have HS1 := Y hs; have HM1 := Y (HM0.out.trans hm); clear hs hm; obtain ⟨z1_0, z1_1, z1_2⟩ := HXB.out _ _ HM1.out) | (go_at_call 133; clear tok2; refine (HP2.out _ _ HS1.out (((WMod.on v HB0.out).trans HM1.out).low HW.out)).mono ?_; rintro e w2 ⟨rfl, v2, hs, hm⟩; have HS2 := Y hs; have HM2 := Y (HM1.out.trans hm); clear hs hm))
 (first | go_end0 | refine bodyPost_ret (results_none rfl _ _ _) rfl ?_)
 rw [← HST.out]
 exact ⟨rfl, _, HS2.out, (WMod.on v HB0.out).trans HM2.out⟩
theorem eexp_any (R : Nat) (v : Value) (s : Option (List UInt8)) (x : Exp) (w : World) (h : WS w R v s) (hl : x.name.length ≤ 1000000) (hi : x.index < 4294967296) (hT : Tb w) :
  Calls Tryz.prog 103 #[.pointer (some ⟨R, 0, none⟩), .agg #[.string ⟨x.name.toArray⟩, .int .u8 (x.kind.toNat : Int), .int .u32 (x.index : Int)]] w (ab R w v (adv s (okExp x) (encExp x))) := by
 have HST : Hid (adv (adv (adv s (okName x.name) (encName x.name)) (x.kind.toNat ≤ 3) ([x.kind])) (True) (Leb.encU x.index) = adv s (okExp x) (encExp x)) := Y ((by rw [ah, ah]; exact aj (by simp [okExp, okNum, hi]) (fun _ => rfl)))
 have HP1 : Hid (∀ (W : World) (V : Value), WS W R V (s) → Mod (R ≤ ·) w W → Calls Tryz.prog 128 #[.pointer (some ⟨R, 0, none⟩), .string ⟨x.name.toArray⟩] W (ab R W V (adv (s) (okName x.name) (encName x.name)))) := Y (fun W V hW hM => ba R V _ x.name W hW hl (hT.low hM h.two))
 have HP2 : Hid (∀ (W : World) (V : Value), WS W R V (adv s (okName x.name) (encName x.name)) → Mod (R ≤ ·) w W → Calls Tryz.prog 129 #[.pointer (some ⟨R, 0, none⟩), .int .u8 (x.kind.toNat : Int)] W (ab R W V (adv (adv s (okName x.name) (encName x.name)) (x.kind.toNat ≤ 3) ([x.kind])))) := Y (fun W V hW hM => co R V _ x.kind _ W hW rfl)
 have HP3 : Hid (∀ (W : World) (V : Value), WS W R V (adv (adv s (okName x.name) (encName x.name)) (x.kind.toNat ≤ 3) ([x.kind])) → Mod (R ≤ ·) w W → Calls Tryz.prog 96 #[.pointer (some ⟨R, 0, none⟩), .int .u32 (x.index : Int)] W (ab R W V (adv (adv (adv s (okName x.name) (encName x.name)) (x.kind.toNat ≤ 3) ([x.kind])) (True) (Leb.encU x.index)))) := Y (fun W V hW hM => aU R V _ x.index W hW (hi))
 have HW := Y h
 have tok1 : True := trivial
 have tok2 : True := trivial
 have tok3 : True := trivial
 have HX0 : Hid ((w.alloc (.cells #[.string ⟨x.name.toArray⟩, .int .u8 (x.kind.toNat : Int), .int .u32 (x.index : Int)] 66)).heap[w.heap.size]? = some (.cells #[.string ⟨x.name.toArray⟩, .int .u8 (x.kind.toNat : Int), .int .u32 (x.index : Int)] 66 (0, 0))) := Y (heap_alloc_new w _)
 have HB0 : Hid (Below w.heap.size w (w.alloc (.cells #[.string ⟨x.name.toArray⟩, .int .u8 (x.kind.toNat : Int), .int .u32 (x.index : Int)] 66))) := Y ((Below.refl _ _).alloc (Nat.le_refl _) _)
 have HS0 : Hid (WS (w.alloc (.cells #[.string ⟨x.name.toArray⟩, .int .u8 (x.kind.toNat : Int), .int .u32 (x.index : Int)] 66)) R v s) := Y (h.alloc _)
 have HLT := Y h.lt
 have HOL := Y h.own_lt
 clear h hl hi hT
 go_enter Tryz.func103, Tryz.ntmps103
 go_upto_region 1 with fail
 generalize w.alloc (.cells #[.string ⟨x.name.toArray⟩, .int .u8 (x.kind.toNat : Int), .int .u32 (x.index : Int)] 66) = w0 at HX0 HB0 HS0 ⊢
 have HM0 := Y (WMod.refl R w0 v)
 have HXB : Hid (∀ (W : World) (V : Value), WMod R w0 v W V → W.cell? ⟨w.heap.size, 0, none⟩ = some (.string ⟨x.name.toArray⟩) ∧ W.cell? ⟨w.heap.size, 1, none⟩ = some (.int .u8 (x.kind.toNat : Int)) ∧ W.cell? ⟨w.heap.size, 2, none⟩ = some (.int .u32 (x.index : Int))) := Y (fun W V hm => by
  have hx := hm.1.heap HX0.out (fun e => by
   rcases e with e | e
   ·have := HLT.out; omega
   ·have := HOL.out _ e; omega)
  exact ⟨by rw [cell_of_row W _ 0 _ _ (0, 0) hx]; rfl, by rw [cell_of_row W _ 1 _ _ (0, 0) hx]; rfl, by rw [cell_of_row W _ 2 _ _ (0, 0) hx]; rfl⟩)
 obtain ⟨z0_0, z0_1, z0_2⟩ := HXB.out _ _ HM0.out
 go_wp2_with (first | (go_at_call 128; clear tok1; refine (HP1.out _ _ HS0.out (((WMod.on v HB0.out).trans HM0.out).low HW.out)).mono ?_; rintro e w1 ⟨rfl, v1, hs, hm⟩; have HS1 := Y hs; have HM1 := Y (HM0.out.trans hm); clear hs hm; obtain ⟨z1_0, z1_1, z1_2⟩ := HXB.out _ _ HM1.out) | (go_at_call 129; clear tok2; refine (HP2.out _ _ HS1.out (((WMod.on v HB0.out).trans HM1.out).low HW.out)).mono ?_; rintro e w2 ⟨rfl, v2, hs, hm⟩; have HS2 := Y hs; have HM2 := Y (HM1.out.trans hm); clear hs hm; obtain ⟨z2_0, z2_1, z2_2⟩ := HXB.out _ _ HM2.out) | (go_at_call 96; clear tok3; refine (HP3.out _ _ HS2.out (((WMod.on v HB0.out).trans HM2.out).low HW.out)).mono ?_; rintro e w3 ⟨rfl, v3, hs, hm⟩; have HS3 := Y hs; have HM3 := Y (HM2.out.trans hm); clear hs hm))
 (first | go_end0 | refine bodyPost_ret (results_none rfl _ _ _) rfl ?_)
 rw [← HST.out]
 exact ⟨rfl, _, HS3.out, (WMod.on v HB0.out).trans HM3.out⟩
theorem eel_any (R : Nat) (v : Value) (s : Option (List UInt8)) (x : El) (A1 A2 : Option Addr) (n1 c1 n2 c2 : Nat) (w : World) (h : WS w R v s) (ht : x.table < 4294967296) (H1 : HasL w (· < R) A1 x.off) (H1_n : x.off.length = n1) (H1_f : Fit x.off) (H2 : HasL w (· < R) A2 x.funcs) (H2_n : x.funcs.length = n2) (H2_c : n2 ≤ 9223372036854775807)  :
  Calls Tryz.prog 105 #[.pointer (some ⟨R, 0, none⟩), .agg #[.int .u32 (x.table : Int), .slice A1 n1 c1, .slice A2 n2 c2]] w (ab R w v (adv s (okEl x) (encEl x))) := by
 have HST : Hid (adv (adv (adv s (True) (Leb.encU x.table)) (okExpr x.off) (exprEnc x.off)) (∀ t ∈ x.funcs, okNum t) (encNums x.funcs) = adv s (okEl x) (encEl x)) := Y ((by rw [ah, ah]; exact aj (by simp [okEl, okNum, ht]) (fun _ => rfl)))
 have HP1 : Hid (∀ (W : World) (V : Value), WS W R V (s) → Mod (R ≤ ·) w W → Calls Tryz.prog 96 #[.pointer (some ⟨R, 0, none⟩), .int .u32 (x.table : Int)] W (ab R W V (adv (s) (True) (Leb.encU x.table)))) := Y (fun W V hW hM => aU R V _ x.table W hW (ht))
 have HP2 : Hid (∀ (W : World) (V : Value), WS W R V (adv s (True) (Leb.encU x.table)) → Mod (R ≤ ·) w W → Calls Tryz.prog 133 #[.pointer (some ⟨R, 0, none⟩), .slice A1 n1 c1] W (ab R W V (adv (adv s (True) (Leb.encU x.table)) (okExpr x.off) (exprEnc x.off)))) := Y (fun W V hW hM => dG R V _ A1 x.off n1 c1 W hW (((H1.mod hM (fun k _ h1 h2 => by omega)).more (S' := (· < W.heap.size)) (fun k hk _ => hk)).ins) H1_n.symm H1_f)
 have HP3 : Hid (∀ (W : World) (V : Value), WS W R V (adv (adv s (True) (Leb.encU x.table)) (okExpr x.off) (exprEnc x.off)) → Mod (R ≤ ·) w W → Calls Tryz.prog 95 #[.pointer (some ⟨R, 0, none⟩), .slice A2 n2 c2, .func (.func 96) #[.pointer (some ⟨R, 0, none⟩)] #[]] W (ab R W V (adv (adv (adv s (True) (Leb.encU x.table)) (okExpr x.off) (exprEnc x.off)) (∀ t ∈ x.funcs, okNum t) (encNums x.funcs)))) := Y (fun W V hW hM => f8 R V _ A2 x.funcs n2 c2 W hW (H2.mod hM (fun k _ h1 h2 => by omega)) H2_n H2_c)
 have HW := Y h
 have tok1 : True := trivial
 have tok2 : True := trivial
 have tok3 : True := trivial
 have HX0 : Hid ((w.alloc (.cells #[.int .u32 (x.table : Int), .slice A1 n1 c1, .slice A2 n2 c2] 69)).heap[w.heap.size]? = some (.cells #[.int .u32 (x.table : Int), .slice A1 n1 c1, .slice A2 n2 c2] 69 (0, 0))) := Y (heap_alloc_new w _)
 have HB0 : Hid (Below w.heap.size w (w.alloc (.cells #[.int .u32 (x.table : Int), .slice A1 n1 c1, .slice A2 n2 c2] 69))) := Y ((Below.refl _ _).alloc (Nat.le_refl _) _)
 have HS0 : Hid (WS (w.alloc (.cells #[.int .u32 (x.table : Int), .slice A1 n1 c1, .slice A2 n2 c2] 69)) R v s) := Y (h.alloc _)
 have HLT := Y h.lt
 have HOL := Y h.own_lt
 clear h ht H1 H1_n H1_f H2 H2_n H2_c
 go_enter Tryz.func105, Tryz.ntmps105
 go_upto_region 1 with fail
 generalize w.alloc (.cells #[.int .u32 (x.table : Int), .slice A1 n1 c1, .slice A2 n2 c2] 69) = w0 at HX0 HB0 HS0 ⊢
 have HM0 := Y (WMod.refl R w0 v)
 have HXB : Hid (∀ (W : World) (V : Value), WMod R w0 v W V → W.cell? ⟨w.heap.size, 0, none⟩ = some (.int .u32 (x.table : Int)) ∧ W.cell? ⟨w.heap.size, 1, none⟩ = some (.slice A1 n1 c1) ∧ W.cell? ⟨w.heap.size, 2, none⟩ = some (.slice A2 n2 c2)) := Y (fun W V hm => by
  have hx := hm.1.heap HX0.out (fun e => by
   rcases e with e | e
   ·have := HLT.out; omega
   ·have := HOL.out _ e; omega)
  exact ⟨by rw [cell_of_row W _ 0 _ _ (0, 0) hx]; rfl, by rw [cell_of_row W _ 1 _ _ (0, 0) hx]; rfl, by rw [cell_of_row W _ 2 _ _ (0, 0) hx]; rfl⟩)
 obtain ⟨z0_0, z0_1, z0_2⟩ := HXB.out _ _ HM0.out
 go_wp2_with (first | (go_at_call 96; clear tok1; refine (HP1.out _ _ HS0.out (((WMod.on v HB0.out).trans HM0.out).low HW.out)).mono ?_; rintro e w1 ⟨rfl, v1, hs, hm⟩; have HS1 := Y hs; have HM1 := Y (HM0.out.trans hm); clear hs hm; obtain ⟨z1_0, z1_1, z1_2⟩ := HXB.out _ _ HM1.out) | (go_at_call 133; clear tok2; refine (HP2.out _ _ HS1.out (((WMod.on v HB0.out).trans HM1.out).low HW.out)).mono ?_; rintro e w2 ⟨rfl, v2, hs, hm⟩; have HS2 := Y hs; have HM2 := Y (HM1.out.trans hm); clear hs hm; obtain ⟨z2_0, z2_1, z2_2⟩ := HXB.out _ _ HM2.out) | (go_at_call 95; clear tok3; refine (HP3.out _ _ HS2.out (((WMod.on v HB0.out).trans HM2.out).low HW.out)).mono ?_; rintro e w3 ⟨rfl, v3, hs, hm⟩; have HS3 := Y hs; have HM3 := Y (HM2.out.trans hm); clear hs hm))
 (first | go_end0 | refine bodyPost_ret (results_none rfl _ _ _) rfl ?_)
 rw [← HST.out]
 exact ⟨rfl, _, HS3.out, (WMod.on v HB0.out).trans HM3.out⟩
theorem eda_any (R : Nat) (v : Value) (s : Option (List UInt8)) (x : Da) (A1 A2 : Option Addr) (n1 c1 n2 c2 : Nat) (w : World) (h : WS w R v s) (ht : x.mem < 4294967296) (H1 : HasL w (· < R) A1 x.off) (H1_n : x.off.length = n1) (H1_f : Fit x.off) (H2 : HasL w (· < R) A2 x.b) (H2_n : x.b.length = n2) (H2_cc : n2 ≤ c2) (H2_c : c2 ≤ maxLen) :
  Calls Tryz.prog 109 #[.pointer (some ⟨R, 0, none⟩), .agg #[.int .u32 (x.mem : Int), .slice A1 n1 c1, .slice A2 n2 c2]] w (ab R w v (adv s (okDa x) (encDa x))) := by
 have HST : Hid (adv (adv (adv s (True) (Leb.encU x.mem)) (okExpr x.off) (exprEnc x.off)) (True) (Leb.encU n2 ++ x.b) = adv s (okDa x) (encDa x)) := Y ((by rw [ah, ah]; exact aj (by simp [okDa, okNum, ht]) (fun _ => by rw [← H2_n]; rfl)))
 have HP1 : Hid (∀ (W : World) (V : Value), WS W R V (s) → Mod (R ≤ ·) w W → Calls Tryz.prog 96 #[.pointer (some ⟨R, 0, none⟩), .int .u32 (x.mem : Int)] W (ab R W V (adv (s) (True) (Leb.encU x.mem)))) := Y (fun W V hW hM => aU R V _ x.mem W hW (ht))
 have HP2 : Hid (∀ (W : World) (V : Value), WS W R V (adv s (True) (Leb.encU x.mem)) → Mod (R ≤ ·) w W → Calls Tryz.prog 133 #[.pointer (some ⟨R, 0, none⟩), .slice A1 n1 c1] W (ab R W V (adv (adv s (True) (Leb.encU x.mem)) (okExpr x.off) (exprEnc x.off)))) := Y (fun W V hW hM => dG R V _ A1 x.off n1 c1 W hW (((H1.mod hM (fun k _ h1 h2 => by omega)).more (S' := (· < W.heap.size)) (fun k hk _ => hk)).ins) H1_n.symm H1_f)
 have HP3 : Hid (∀ (W : World) (V : Value), WS W R V (adv (adv s (True) (Leb.encU x.mem)) (okExpr x.off) (exprEnc x.off)) → Mod (R ≤ ·) w W → Calls Tryz.prog 135 #[.pointer (some ⟨R, 0, none⟩), .slice A2 n2 c2] W (ab R W V (adv (adv (adv s (True) (Leb.encU x.mem)) (okExpr x.off) (exprEnc x.off)) (True) (Leb.encU n2 ++ x.b)))) := Y (fun W V hW hM => dR R V _ A2 x.b n2 c2 W hW (H2.mod hM (fun k _ h1 h2 => by omega)).has H2_n.symm H2_cc H2_c (fun hne ad had e => by
  obtain ⟨z, zs, hz⟩ := List.exists_cons_of_ne_nil hne
  obtain ⟨g, o, cs, hg, hgR, _⟩ := H2 0 z (by rw [hz]; rfl)
  rw [had] at hg
  injection hg with hg
  subst hg
  rcases e with e | e
  ·dsimp only at e; omega
  ·have := hW.ge _ e; dsimp only at this; omega))
 have HW := Y h
 have tok1 : True := trivial
 have tok2 : True := trivial
 have tok3 : True := trivial
 have HX0 : Hid ((w.alloc (.cells #[.int .u32 (x.mem : Int), .slice A1 n1 c1, .slice A2 n2 c2] 71)).heap[w.heap.size]? = some (.cells #[.int .u32 (x.mem : Int), .slice A1 n1 c1, .slice A2 n2 c2] 71 (0, 0))) := Y (heap_alloc_new w _)
 have HB0 : Hid (Below w.heap.size w (w.alloc (.cells #[.int .u32 (x.mem : Int), .slice A1 n1 c1, .slice A2 n2 c2] 71))) := Y ((Below.refl _ _).alloc (Nat.le_refl _) _)
 have HS0 : Hid (WS (w.alloc (.cells #[.int .u32 (x.mem : Int), .slice A1 n1 c1, .slice A2 n2 c2] 71)) R v s) := Y (h.alloc _)
 have HLT := Y h.lt
 have HOL := Y h.own_lt
 clear h ht H1 H1_n H1_f H2 H2_n H2_c H2_cc
 go_enter Tryz.func109, Tryz.ntmps109
 go_upto_region 1 with fail
 generalize w.alloc (.cells #[.int .u32 (x.mem : Int), .slice A1 n1 c1, .slice A2 n2 c2] 71) = w0 at HX0 HB0 HS0 ⊢
 have HM0 := Y (WMod.refl R w0 v)
 have HXB : Hid (∀ (W : World) (V : Value), WMod R w0 v W V → W.cell? ⟨w.heap.size, 0, none⟩ = some (.int .u32 (x.mem : Int)) ∧ W.cell? ⟨w.heap.size, 1, none⟩ = some (.slice A1 n1 c1) ∧ W.cell? ⟨w.heap.size, 2, none⟩ = some (.slice A2 n2 c2)) := Y (fun W V hm => by
  have hx := hm.1.heap HX0.out (fun e => by
   rcases e with e | e
   ·have := HLT.out; omega
   ·have := HOL.out _ e; omega)
  exact ⟨by rw [cell_of_row W _ 0 _ _ (0, 0) hx]; rfl, by rw [cell_of_row W _ 1 _ _ (0, 0) hx]; rfl, by rw [cell_of_row W _ 2 _ _ (0, 0) hx]; rfl⟩)
 obtain ⟨z0_0, z0_1, z0_2⟩ := HXB.out _ _ HM0.out
 go_wp2_with (first | (go_at_call 96; clear tok1; refine (HP1.out _ _ HS0.out (((WMod.on v HB0.out).trans HM0.out).low HW.out)).mono ?_; rintro e w1 ⟨rfl, v1, hs, hm⟩; have HS1 := Y hs; have HM1 := Y (HM0.out.trans hm); clear hs hm; obtain ⟨z1_0, z1_1, z1_2⟩ := HXB.out _ _ HM1.out) | (go_at_call 133; clear tok2; refine (HP2.out _ _ HS1.out (((WMod.on v HB0.out).trans HM1.out).low HW.out)).mono ?_; rintro e w2 ⟨rfl, v2, hs, hm⟩; have HS2 := Y hs; have HM2 := Y (HM1.out.trans hm); clear hs hm; obtain ⟨z2_0, z2_1, z2_2⟩ := HXB.out _ _ HM2.out) | (go_at_call 135; clear tok3; refine (HP3.out _ _ HS2.out (((WMod.on v HB0.out).trans HM2.out).low HW.out)).mono ?_; rintro e w3 ⟨rfl, v3, hs, hm⟩; have HS3 := Y hs; have HM3 := Y (HM2.out.trans hm); clear hs hm))
 (first | go_end0 | refine bodyPost_ret (results_none rfl _ _ _) rfl ?_)
 rw [← HST.out]
 exact ⟨rfl, _, HS3.out, (WMod.on v HB0.out).trans HM3.out⟩
theorem ws_code {w : World} {R : Nat} {v : Value} {s : Option (List UInt8)} {bs l : List UInt8} (h : WS w R v (adv (adv s (true = true) []) True (Leb.encU bs.length ++ bs))) (hb : l.length ≤ 65536 ∧ bs = l ∨ 65536 < l.length ∧ bs.length = 65536) :
  WS w R v (adv s True (Leb.encU l.length ++ l)) := by
 rw [ah, bx ⟨rfl, trivial⟩] at h
 rw [bx trivial]
 rcases hb with ⟨_, rfl⟩ | ⟨h1, h2⟩
 ·exact h
 ·cases s with
  | none => exact h
  | some l0 =>
   refine WS.sat h ?_ ?_
   ·have := Leb.encU_pos bs.length
    simp only [List.nil_append, List.length_append]
    omega
   ·simp only [List.length_append]
    omega
theorem iD {w : World} (hw : 2 ≤ w.heap.size) : WS (w.alloc (.cells #[.slice none 0 0, .bool false] 104)) w.heap.size (.slice none 0 0) (some []) :=
 ⟨[], heap_alloc_new w _, World.ownsRow_nil _ _ _ _, by simp, hw, fun l e => by injection e with e; subst e; exact .inl ⟨by simp, rfl⟩⟩
theorem ecd_any (R : Nat) (v : Value) (s : Option (List UInt8)) (x : Cd) (A1 A2 : Option Addr) (n1 c1 n2 c2 : Nat) (w : World) (h : WS w R v s) (H1 : HasL w (· < R) A1 x.locals) (H1_n : x.locals.length = n1) (H1_c : n1 ≤ 4000000000) (H2 : HasL w (· < R) A2 x.body) (H2_n : x.body.length = n2) (H2_f : Fit x.body) :
  Calls Tryz.prog 107 #[.pointer (some ⟨R, 0, none⟩), .agg #[.slice A1 n1 c1, .slice A2 n2 c2]] w (ab R w v (adv s (okCd x) (encCd x))) := by
 have HX0 : Hid ((w.alloc (.cells #[.slice A1 n1 c1, .slice A2 n2 c2] 54)).heap[w.heap.size]? = some (.cells #[.slice A1 n1 c1, .slice A2 n2 c2] 54 (0, 0))) := Y (heap_alloc_new w _)
 have HB0 : Hid (Below w.heap.size w (w.alloc (.cells #[.slice A1 n1 c1, .slice A2 n2 c2] 54))) := Y ((Below.refl _ _).alloc (Nat.le_refl _) _)
 have HS0 : Hid ((w.alloc (.cells #[.slice A1 n1 c1, .slice A2 n2 c2] 54)).heap.size = w.heap.size + 1) := Y (by simp)
 have HWS := Y h
 have h2 := h.two
 have hlt := h.lt
 have HOL := Y h.own_lt
 have hs3 : adv (adv (some []) ((∀ t ∈ x.locals, okLc t) ∧ locSum x.locals < 4294967296) (encList encLc x.locals)) (okExpr x.body) (exprEnc x.body) = adv (some []) (okCd x) (cdB x) := by
  rw [ah]
  exact aj (by unfold okCd; rw [and_assoc]) (fun _ => rfl)
 have HL : Hid (∀ W, Below w.heap.size w W → 2 ≤ W.heap.size → ∀ W2 : World, W2 = W.alloc (.cells #[.slice none 0 0, .bool false] 104) → Calls Tryz.prog 134 #[.pointer (some ⟨W.heap.size, 0, none⟩), .slice A1 n1 c1] W2 (ab W.heap.size W2 (.slice none 0 0) (adv (some []) ((∀ t ∈ x.locals, okLc t) ∧ locSum x.locals < 4294967296) (encList encLc x.locals)))) := Y (fun W hb h2 W2 e => by
  subst e
  have hb2 := hb.alloc hb.size (.cells #[.slice none 0 0, .bool false] 104)
  exact elocals_any W.heap.size _ (some []) A1 x.locals n1 c1 _ (iD h2) (((H1.mod (T := fun _ => False) (Mod.of_below hb2) (fun _ _ _ h => h)).more (fun k _ hk => by have := hb.size; omega))) H1_n H1_c)
 have HE : Hid (∀ (Ro : Nat) (W : World) (V : Value) (S : Option (List UInt8)), Below w.heap.size w W → w.heap.size ≤ Ro → WS W Ro V S → Calls Tryz.prog 133 #[.pointer (some ⟨Ro, 0, none⟩), .slice A2 n2 c2] W (ab Ro W V (adv S (okExpr x.body) (exprEnc x.body)))) := Y (fun Ro W V S hb hR hW => dG Ro V S A2 x.body n2 c2 W hW (((H2.mod (T := fun _ => False) (Mod.of_below hb) (fun _ _ _ h => h)).more (S' := (· < W.heap.size)) (fun k hk _ => hk)).ins) H2_n.symm H2_f)
 clear H1 H1_n H1_c H2 H2_n H2_f h
 by_cases hok : okCd x
 ·have e3 : adv (some []) (okCd x) (cdB x) = some (cdB x) := by rw [bx hok]; rfl
  rw [e3] at hs3
  clear e3
  have HS3 := Y hs3
  clear hs3
  have HFIN : Hid (∀ (W : World) (V : Value) (bs : List UInt8), WS W R V (adv (adv s (true = true) []) True (Leb.encU bs.length ++ bs)) → ((cdB x).length ≤ 65536 ∧ bs = cdB x ∨ 65536 < (cdB x).length ∧ bs.length = 65536) → WS W R V (adv s (okCd x) (encCd x))) := Y (fun W V bs h hb => by rw [show adv s (okCd x) (encCd x) = adv s True (Leb.encU (cdB x).length ++ cdB x) from aj (by simp [hok]) (fun _ => rfl)]; exact ws_code h hb)
  clear hok
  go_enter Tryz.func107, Tryz.ntmps107
  go_upto_region 1 with fail
  generalize w.alloc (.cells #[.slice A1 n1 c1, .slice A2 n2 c2] 54) = w0 at HX0 HB0 HS0 ⊢
  go_upto_region 2 with fail
  have hs0 : w.heap.size < w0.heap.size := by have := HS0.out; omega
  have HC1 := Y (HL.out w0 HB0.out (by omega) _ rfl)
  have HB1 := Y (HB0.out.alloc HB0.out.size (.cells #[.slice none 0 0, .bool false] 104))
  have HY1 : Hid ((w0.alloc (.cells #[.slice none 0 0, .bool false] 104)).heap[w.heap.size]? = some (.cells #[.slice A1 n1 c1, .slice A2 n2 c2] 54 (0, 0))) := Y (((Mod.refl (fun _ => False) w0).alloc _).heap HX0.out (fun h => h))
  have HS1 : Hid ((w0.alloc (.cells #[.slice none 0 0, .bool false] 104)).heap.size = w0.heap.size + 1) := Y (by simp)
  have HW1 : Hid (WS (w0.alloc (.cells #[.slice none 0 0, .bool false] 104)) w0.heap.size (.slice none 0 0) (some [])) := Y (iD (by omega))
  generalize w0.alloc (.cells #[.slice none 0 0, .bool false] 104) = w1 at HC1 HB1 HY1 HS1 HW1 ⊢
  have z0 : w1.cell? ⟨w.heap.size, 0, none⟩ = some (.slice A1 n1 c1) := by rw [cell_of_row w1 _ 0 _ _ (0, 0) HY1.out]; rfl
  obtain ⟨Ro, hRo⟩ : ∃ Ro, w0.heap.size = Ro := ⟨_, rfl⟩
  rw [hRo] at HC1 HS1 HW1 hs0 ⊢
  clear hRo HX0 HB0 HS0
  go_wp2_with (first | (go_at_call 134; refine HC1.out.mono ?_; rintro e w2 ⟨rfl, v2, hs, hm⟩; have HW2 := Y hs; have HM2 := Y hm; have HB2 : Hid (Below w.heap.size w w2) := Y (HB1.out.trans ((hm.low HW1.out).below HB1.out.size (fun k hk e => by omega))); have z1 : w2.cell? ⟨w.heap.size, 1, none⟩ = some (.slice A2 n2 c2) := (by rw [cell_of_row w2 _ 1 _ _ (0, 0) ((hm.low HW1.out).heap HY1.out (fun e => by omega))]; rfl); clear hs hm) | (go_at_call 133; refine (HE.out Ro w2 v2 _ HB2.out (by omega) HW2.out).mono ?_; rintro e w3 ⟨rfl, v3, hs, hm⟩; rw [HS3.out] at hs; have HB3 : Hid (Below w.heap.size w w3) := Y (HB2.out.trans ((hm.low HW2.out).below HB2.out.size (fun k hk e => by omega))); obtain ⟨bs, q1, q2, q3, q4, q5⟩ := hs; obtain ⟨A3, c3, rfl, hx, hnc, hcm, _, _⟩ := bR q2; clear hx; have HQ1 := Y q1; have HQ2 := Y q2; have HQ5 := Y q5; have k1 : w3.cell? ⟨Ro, 1, none⟩ = some (.bool false) := (by rw [cell_of_row w3 _ 1 _ _ (0, 0) q1]; rfl); have HP1 := Y (aq R v s true w3 (HWS.out.on HB3.out)); obtain ⟨nb, hnb⟩ : ∃ nb, bs.length = nb := ⟨_, rfl⟩; rw [hnb] at HQ1 HQ2 hnc; have HNB := Y hnb; clear q1 q2 q3 q4 q5 hm hnb) | (go_at_call 131; refine HP1.out.mono ?_; rintro e w4 ⟨rfl, v4, hs, hm⟩; have k0 : w4.cell? ⟨Ro, 0, none⟩ = some (.slice A3 nb c3) := (by rw [cell_of_row w4 _ 0 _ _ (0, 0) (hm.1.heap HQ1.out (fun e => by rcases e with e | e; omega; have := HOL.out _ e; omega))]; rfl); have ho4 := hm.1.own HQ2.out (fun k hk e => by have h1 := aw HQ2.out k hk; rcases e with e | e; omega; have := HOL.out _ e; omega); obtain ⟨_, _, he, hx, _, _, _, hh⟩ := bR ho4; clear hx; injection he with he1 he2 he3; subst he1; have HP2 := Y (dR R v4 _ A3 bs nb c3 w4 hs hh HNB.out.symm hnc hcm (fun hne ad had e => by have h1 := aw HQ2.out ad.block (by rw [had]; rfl); rcases e with e | e; omega; rcases hm.2 _ e with e | e; have := HOL.out _ e; omega; have := own_lt HQ2.out ad.block (by rw [had]; rfl); omega)); have HM4 := Y ((WMod.on v HB3.out).trans hm); clear hs hm ho4 he3 hh) | (go_at_call 135; refine HP2.out.mono ?_; rintro e w5 ⟨rfl, v5, hs, hm⟩))
  (first | go_end0 | refine bodyPost_ret (results_none rfl _ _ _) rfl ?_)
  rw [← HNB.out] at hs
  exact ⟨rfl, v5, HFIN.out _ _ bs hs (HQ5.out _ rfl), HM4.out.trans hm⟩
 ·have e3 : adv (some []) (okCd x) (cdB x) = none := by rw [bM hok]
  rw [e3] at hs3
  clear e3
  have HS3 := Y hs3
  clear hs3
  have HFIN : Hid (∀ (W : World) (V : Value) (bs : List UInt8), WS W R V (adv (adv s (false = true) []) True (Leb.encU bs.length ++ bs)) → WS W R V (adv s (okCd x) (encCd x))) := Y (fun W V bs h => by rw [ah, bM (by simp)] at h; rw [bM hok]; exact h)
  clear hok
  go_enter Tryz.func107, Tryz.ntmps107
  go_upto_region 1 with fail
  generalize w.alloc (.cells #[.slice A1 n1 c1, .slice A2 n2 c2] 54) = w0 at HX0 HB0 HS0 ⊢
  go_upto_region 2 with fail
  have hs0 : w.heap.size < w0.heap.size := by have := HS0.out; omega
  have HC1 := Y (HL.out w0 HB0.out (by omega) _ rfl)
  have HB1 := Y (HB0.out.alloc HB0.out.size (.cells #[.slice none 0 0, .bool false] 104))
  have HY1 : Hid ((w0.alloc (.cells #[.slice none 0 0, .bool false] 104)).heap[w.heap.size]? = some (.cells #[.slice A1 n1 c1, .slice A2 n2 c2] 54 (0, 0))) := Y (((Mod.refl (fun _ => False) w0).alloc _).heap HX0.out (fun h => h))
  have HS1 : Hid ((w0.alloc (.cells #[.slice none 0 0, .bool false] 104)).heap.size = w0.heap.size + 1) := Y (by simp)
  have HW1 : Hid (WS (w0.alloc (.cells #[.slice none 0 0, .bool false] 104)) w0.heap.size (.slice none 0 0) (some [])) := Y (iD (by omega))
  generalize w0.alloc (.cells #[.slice none 0 0, .bool false] 104) = w1 at HC1 HB1 HY1 HS1 HW1 ⊢
  have z0 : w1.cell? ⟨w.heap.size, 0, none⟩ = some (.slice A1 n1 c1) := by rw [cell_of_row w1 _ 0 _ _ (0, 0) HY1.out]; rfl
  obtain ⟨Ro, hRo⟩ : ∃ Ro, w0.heap.size = Ro := ⟨_, rfl⟩
  rw [hRo] at HC1 HS1 HW1 hs0 ⊢
  clear hRo HX0 HB0 HS0
  go_wp2_with (first | (go_at_call 134; refine HC1.out.mono ?_; rintro e w2 ⟨rfl, v2, hs, hm⟩; have HW2 := Y hs; have HM2 := Y hm; have HB2 : Hid (Below w.heap.size w w2) := Y (HB1.out.trans ((hm.low HW1.out).below HB1.out.size (fun k hk e => by omega))); have z1 : w2.cell? ⟨w.heap.size, 1, none⟩ = some (.slice A2 n2 c2) := (by rw [cell_of_row w2 _ 1 _ _ (0, 0) ((hm.low HW1.out).heap HY1.out (fun e => by omega))]; rfl); clear hs hm) | (go_at_call 133; refine (HE.out Ro w2 v2 _ HB2.out (by omega) HW2.out).mono ?_; rintro e w3 ⟨rfl, v3, hs, hm⟩; rw [HS3.out] at hs; have HB3 : Hid (Below w.heap.size w w3) := Y (HB2.out.trans ((hm.low HW2.out).below HB2.out.size (fun k hk e => by omega))); obtain ⟨bs, q1, q2, q3, q4, q5⟩ := hs; obtain ⟨A3, c3, rfl, hx, hnc, hcm, _, _⟩ := bR q2; clear hx; have HQ1 := Y q1; have HQ2 := Y q2; have HQ5 := Y q5; have k1 : w3.cell? ⟨Ro, 1, none⟩ = some (.bool true) := (by rw [cell_of_row w3 _ 1 _ _ (0, 0) q1]; rfl); have HP1 := Y (aq R v s false w3 (HWS.out.on HB3.out)); obtain ⟨nb, hnb⟩ : ∃ nb, bs.length = nb := ⟨_, rfl⟩; rw [hnb] at HQ1 HQ2 hnc; have HNB := Y hnb; clear q1 q2 q3 q4 q5 hm hnb) | (go_at_call 131; refine HP1.out.mono ?_; rintro e w4 ⟨rfl, v4, hs, hm⟩; have k0 : w4.cell? ⟨Ro, 0, none⟩ = some (.slice A3 nb c3) := (by rw [cell_of_row w4 _ 0 _ _ (0, 0) (hm.1.heap HQ1.out (fun e => by rcases e with e | e; omega; have := HOL.out _ e; omega))]; rfl); have ho4 := hm.1.own HQ2.out (fun k hk e => by have h1 := aw HQ2.out k hk; rcases e with e | e; omega; have := HOL.out _ e; omega); obtain ⟨_, _, he, hx, _, _, _, hh⟩ := bR ho4; clear hx; injection he with he1 he2 he3; subst he1; have HP2 := Y (dR R v4 _ A3 bs nb c3 w4 hs hh HNB.out.symm hnc hcm (fun hne ad had e => by have h1 := aw HQ2.out ad.block (by rw [had]; rfl); rcases e with e | e; omega; rcases hm.2 _ e with e | e; have := HOL.out _ e; omega; have := own_lt HQ2.out ad.block (by rw [had]; rfl); omega)); have HM4 := Y ((WMod.on v HB3.out).trans hm); clear hs hm ho4 he3 hh) | (go_at_call 135; refine HP2.out.mono ?_; rintro e w5 ⟨rfl, v5, hs, hm⟩))
  (first | go_end0 | refine bodyPost_ret (results_none rfl _ _ _) rfl ?_)
  rw [← HNB.out] at hs
  exact ⟨rfl, v5, HFIN.out _ _ bs hs, HM4.out.trans hm⟩
end Go.Proofs.YthkglmkpnhhboaaGreatDoor
