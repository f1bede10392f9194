/-
  Layer 7's writer: lists of records. (gen/enc/lists2.py)
-/
import Derived.Test.YthkglmkpnhhboaaGreatDoorR01
import Derived.Test.YthkglmkpnhhboaaGreatDoorR30
set_option maxRecDepth 100000
set_option maxHeartbeats 4000000
namespace Go.Proofs.YthkglmkpnhhboaaGreatDoor
open Go.RowKit Ins Bin
theorem aZ {n c : Nat} (h1 : n ≤ c) (h2 : c ≤ maxLen) : n ≤ 9223372036854775807 := by unfold maxLen at h2; omega
theorem eltypes_any (R : Nat) (v : Value) (s : Option (List UInt8)) (A : Option Addr) (xs : List FT) (n c : Nat) (w : World) (h : WS w R v s) (hX : HasL w (· < R) A xs) (hn : xs.length = n) (hnc : n ≤ 9223372036854775807) :
  Calls Tryz.prog 91 #[.pointer (some ⟨R, 0, none⟩), .slice A n c, .func (.func 92) #[.pointer (some ⟨R, 0, none⟩)] #[]] w (ab R w v (adv s (∀ x ∈ xs, okFT x) (encList encFT xs))) := by
 have HX := Y hX
 have HN := Y hn
 have HW := Y h
 have HL := Y (be R v s n w h hnc)
 have HP : Hid (∀ (W : World) (V : Value) (S : Option (List UInt8)) (x : FT) (cs : List Value), x ∈ xs → WS W R V S → Mod (R ≤ ·) w W → Lay.rep W (· < R) x cs → Calls Tryz.prog 92 #[.pointer (some ⟨R, 0, none⟩), argOf cs] W (ab R W V (adv S (okFT x) (encFT x)))) := Y (fun W V S x cs hx hW hM hr => (by obtain ⟨_, _, rfl, ⟨_, _, rfl, q1n, q1c, _, q1⟩, ⟨_, _, rfl, q2n, q2c, _, q2⟩⟩ := hr; exact eft_any R V S x _ _ _ _ _ _ W hW q1 rfl (aZ q1n q1c) q2 rfl (aZ q2n q2c)))
 have HZ : Hid (adv s True (Leb.encU n) = adv s (∀ x ∈ xs.take 0, okFT x) (Leb.encU n ++ (xs.take 0).flatMap encFT)) := Y (aj (by simp) (fun _ => by simp))
 have HJ : Hid (∀ (j : Nat) (x : FT), xs[j]? = some x → adv (adv s (∀ x ∈ xs.take j, okFT x) (Leb.encU n ++ (xs.take j).flatMap encFT)) (okFT x) (encFT x) = adv s (∀ x ∈ xs.take (j + 1), okFT x) (Leb.encU n ++ (xs.take (j + 1)).flatMap encFT)) := Y (fun j x hx => by
  rw [ah, List.take_add_one, hx]
  exact aj (by simp [or_imp, forall_and]) (fun _ => by simp))
 have HE : Hid (adv s (∀ x ∈ xs.take n, okFT x) (Leb.encU n ++ (xs.take n).flatMap encFT) = adv s (∀ x ∈ xs, okFT x) (encList encFT xs)) := Y (by rw [List.take_of_length_le (by omega)]; exact aj Iff.rfl (fun _ => by rw [← hn]; rfl))
 clear h hX hn
 go_enter Tryz.func91, Tryz.ntmps91
 go_upto_region 2 with (go_at_call 124; refine HL.out.mono ?_; rintro e w1 ⟨rfl, v1, hs, hm⟩; have HS1 := Y hs; have HM1 := Y hm; clear hs hm)
 go_loopw [14] (fun i wr => ∃ (j : Nat) (vj : Value), j ≤ n ∧ i = .int .i64 (j : Int) ∧ Hid (WS wr R vj (adv s (∀ x ∈ xs.take j, okFT x) (Leb.encU n ++ (xs.take j).flatMap encFT))) ∧ Hid (WMod R w v wr vj)) (fun i _ => n - (intOf i).toNat)
 case atStart => exact ⟨0, v1, by omega, rfl, Y (by rw [← HZ.out]; exact HS1.out), Y HM1.out⟩
 case round =>
  obtain ⟨j, vj, hj, rfl, HS, HM⟩ := hrel
  by_cases hjn : j < n
  ·obtain ⟨x, hx⟩ : ∃ x, xs[j]? = some x := ⟨_, List.getElem?_eq_getElem (by rw [HN.out]; exact hjn)⟩
   have hxm := List.mem_of_getElem? hx
   have HLOW := Y (HM.out.low HW.out)
   obtain ⟨g, o, cs, rfl, hgR, hg, hrep, hcell⟩ := (HX.out.mod HLOW.out (fun k _ h1 h2 => by omega)) j x hx
   have HR := Y hrep
   have HJX := Y (HJ.out j x hx)
   obtain ⟨u1, u2, rfl, ⟨B1, d1, rfl, _, _, _, _⟩, ⟨B2, d2, rfl, _, _, _, _⟩⟩ := hrep
   have hji : (j : Int) < (n : Int) := by omega
   have hsz : Lay.size FT = 2 := rfl
   rw [hsz] at hcell
   have hc0 : wr.cell? _ = some (.slice B1 x.params.length d1) := hcell 0 _ rfl
   have hc1 : wr.cell? _ = some (.slice B2 x.results.length d2) := hcell 1 _ rfl
   simp only [Nat.add_zero] at hc0
   have HBA : Hid (Below wr.heap.size wr (wr.alloc (.cells #[.slice B1 x.params.length d1, .slice B2 x.results.length d2] 50))) := Y ((Below.refl _ _).alloc (Nat.le_refl _) _)
   have HQ := Y (HP.out (wr.alloc (.cells #[.slice B1 x.params.length d1, .slice B2 x.results.length d2] 50)) vj _ x _ hxm (HS.out.on HBA.out) ((HLOW.out).alloc _) (Lay.mod HR.out (Mod.of_below (T := fun _ => False) HBA.out) (fun _ _ _ h => h)))
   clear hx hxm hcell hsz hg hgR HR
   go_wp2_with (go_at_call 92; refine HQ.out.mono ?_; rintro e w2 ⟨rfl, v2, hs, hm⟩; have HS2 := Y hs; have HM2 := Y (HM.out.trans ((WMod.on _ HBA.out).trans hm)); clear hs hm)
   go_roundw
   case rel => exact ⟨j + 1, v2, by omega, by go_num, Y (by rw [← HJX.out]; exact HS2.out), HM2⟩
   case measure => simp [intOf]; omega
  ·obtain rfl : n = j := by omega
   go_wp2_with fail
   (first | go_end0 | refine bodyPost_ret (results_none rfl _ _ _) rfl ?_)
   rw [← HE.out]
   exact ⟨rfl, _, HS.out, HM.out⟩
theorem elimps_any (R : Nat) (v : Value) (s : Option (List UInt8)) (A : Option Addr) (xs : List Imp) (n c : Nat) (w : World) (h : WS w R v s) (hX : HasL w (· < R) A xs) (hn : xs.length = n) (hnc : n ≤ 9223372036854775807) (hf : ∀ x ∈ xs, x.mod.length ≤ 1000000 ∧ x.name.length ≤ 1000000) (hT : Tb w) :
  Calls Tryz.prog 93 #[.pointer (some ⟨R, 0, none⟩), .slice A n c, .func (.func 94) #[.pointer (some ⟨R, 0, none⟩)] #[]] w (ab R w v (adv s (∀ x ∈ xs, okImp x) (encList encImp xs))) := by
 have HX := Y hX
 have HN := Y hn
 have HW := Y h
 have HL := Y (be R v s n w h hnc)
 have HP : Hid (∀ (W : World) (V : Value) (S : Option (List UInt8)) (x : Imp) (cs : List Value), x ∈ xs → WS W R V S → Mod (R ≤ ·) w W → Lay.rep W (· < R) x cs → Calls Tryz.prog 94 #[.pointer (some ⟨R, 0, none⟩), argOf cs] W (ab R W V (adv S (okImp x) (encImp x)))) := Y (fun W V S x cs hx hW hM hr => (by obtain ⟨rfl, q1, q2⟩ := hr; exact eimp_any R V S x W hW (hf x hx).1 (hf x hx).2 q1 q2 (hT.low hM h.two)))
 have HZ : Hid (adv s True (Leb.encU n) = adv s (∀ x ∈ xs.take 0, okImp x) (Leb.encU n ++ (xs.take 0).flatMap encImp)) := Y (aj (by simp) (fun _ => by simp))
 have HJ : Hid (∀ (j : Nat) (x : Imp), xs[j]? = some x → adv (adv s (∀ x ∈ xs.take j, okImp x) (Leb.encU n ++ (xs.take j).flatMap encImp)) (okImp x) (encImp x) = adv s (∀ x ∈ xs.take (j + 1), okImp x) (Leb.encU n ++ (xs.take (j + 1)).flatMap encImp)) := Y (fun j x hx => by
  rw [ah, List.take_add_one, hx]
  exact aj (by simp [or_imp, forall_and]) (fun _ => by simp))
 have HE : Hid (adv s (∀ x ∈ xs.take n, okImp x) (Leb.encU n ++ (xs.take n).flatMap encImp) = adv s (∀ x ∈ xs, okImp x) (encList encImp xs)) := Y (by rw [List.take_of_length_le (by omega)]; exact aj Iff.rfl (fun _ => by rw [← hn]; rfl))
 clear h hX hn hf hT
 go_enter Tryz.func93, Tryz.ntmps93
 go_upto_region 2 with (go_at_call 124; refine HL.out.mono ?_; rintro e w1 ⟨rfl, v1, hs, hm⟩; have HS1 := Y hs; have HM1 := Y hm; clear hs hm)
 go_loopw [14] (fun i wr => ∃ (j : Nat) (vj : Value), j ≤ n ∧ i = .int .i64 (j : Int) ∧ Hid (WS wr R vj (adv s (∀ x ∈ xs.take j, okImp x) (Leb.encU n ++ (xs.take j).flatMap encImp))) ∧ Hid (WMod R w v wr vj)) (fun i _ => n - (intOf i).toNat)
 case atStart => exact ⟨0, v1, by omega, rfl, Y (by rw [← HZ.out]; exact HS1.out), Y HM1.out⟩
 case round =>
  obtain ⟨j, vj, hj, rfl, HS, HM⟩ := hrel
  by_cases hjn : j < n
  ·obtain ⟨x, hx⟩ : ∃ x, xs[j]? = some x := ⟨_, List.getElem?_eq_getElem (by rw [HN.out]; exact hjn)⟩
   have hxm := List.mem_of_getElem? hx
   have HLOW := Y (HM.out.low HW.out)
   obtain ⟨g, o, cs, rfl, hgR, hg, hrep, hcell⟩ := (HX.out.mod HLOW.out (fun k _ h1 h2 => by omega)) j x hx
   have HR := Y hrep
   have HJX := Y (HJ.out j x hx)
   obtain ⟨rfl, _, _⟩ := hrep
   have hji : (j : Int) < (n : Int) := by omega
   have hsz : Lay.size Imp = 8 := rfl
   rw [hsz] at hcell
   have hc0 : wr.cell? _ = some (.string ⟨x.mod.toArray⟩) := hcell 0 _ rfl
   have hc1 : wr.cell? _ = some (.string ⟨x.name.toArray⟩) := hcell 1 _ rfl
   have hc2 : wr.cell? _ = some (.int .u8 (x.kind.toNat : Int)) := hcell 2 _ rfl
   have hc3 : wr.cell? _ = some (.int .u32 (x.type : Int)) := hcell 3 _ rfl
   have hc4 : wr.cell? _ = some (.int .u32 (x.lim.min : Int)) := hcell 4 _ rfl
   have hc5 : wr.cell? _ = some (.int .i64 x.lim.max) := hcell 5 _ rfl
   have hc6 : wr.cell? _ = some (.int .u8 (x.glob.t.toNat : Int)) := hcell 6 _ rfl
   have hc7 : wr.cell? _ = some (.bool x.glob.mu) := hcell 7 _ rfl
   simp only [Nat.add_zero] at hc0
   have HBA : Hid (Below wr.heap.size wr (wr.alloc (.cells #[.string ⟨x.mod.toArray⟩, .string ⟨x.name.toArray⟩, .int .u8 (x.kind.toNat : Int), .int .u32 (x.type : Int), .int .u32 (x.lim.min : Int), .int .i64 x.lim.max, .int .u8 (x.glob.t.toNat : Int), .bool x.glob.mu] 61))) := Y ((Below.refl _ _).alloc (Nat.le_refl _) _)
   have HQ := Y (HP.out (wr.alloc (.cells #[.string ⟨x.mod.toArray⟩, .string ⟨x.name.toArray⟩, .int .u8 (x.kind.toNat : Int), .int .u32 (x.type : Int), .int .u32 (x.lim.min : Int), .int .i64 x.lim.max, .int .u8 (x.glob.t.toNat : Int), .bool x.glob.mu] 61)) vj _ x _ hxm (HS.out.on HBA.out) ((HLOW.out).alloc _) (Lay.mod HR.out (Mod.of_below (T := fun _ => False) HBA.out) (fun _ _ _ h => h)))
   clear hx hxm hcell hsz hg hgR HR
   go_wp2_with (go_at_call 94; refine HQ.out.mono ?_; rintro e w2 ⟨rfl, v2, hs, hm⟩; have HS2 := Y hs; have HM2 := Y (HM.out.trans ((WMod.on _ HBA.out).trans hm)); clear hs hm)
   go_roundw
   case rel => exact ⟨j + 1, v2, by omega, by go_num, Y (by rw [← HJX.out]; exact HS2.out), HM2⟩
   case measure => simp [intOf]; omega
  ·obtain rfl : n = j := by omega
   go_wp2_with fail
   (first | go_end0 | refine bodyPost_ret (results_none rfl _ _ _) rfl ?_)
   rw [← HE.out]
   exact ⟨rfl, _, HS.out, HM.out⟩
theorem eltabs_any (R : Nat) (v : Value) (s : Option (List UInt8)) (A : Option Addr) (xs : List Lim) (n c : Nat) (w : World) (h : WS w R v s) (hX : HasL w (· < R) A xs) (hn : xs.length = n) (hnc : n ≤ 9223372036854775807) :
  Calls Tryz.prog 97 #[.pointer (some ⟨R, 0, none⟩), .slice A n c, .func (.func 98) #[.pointer (some ⟨R, 0, none⟩)] #[]] w (ab R w v (adv s (∀ x ∈ xs, okLim x) (encList encTable xs))) := by
 have HX := Y hX
 have HN := Y hn
 have HW := Y h
 have HL := Y (be R v s n w h hnc)
 have HP : Hid (∀ (W : World) (V : Value) (S : Option (List UInt8)) (x : Lim) (cs : List Value), x ∈ xs → WS W R V S → Mod (R ≤ ·) w W → Lay.rep W (· < R) x cs → Calls Tryz.prog 98 #[.pointer (some ⟨R, 0, none⟩), argOf cs] W (ab R W V (adv S (okLim x) (encTable x)))) := Y (fun W V S x cs hx hW hM hr => (by obtain ⟨rfl, q1, q2, q3⟩ := hr; exact etab_any R V S x.min x.max W hW q1 q2 q3))
 have HZ : Hid (adv s True (Leb.encU n) = adv s (∀ x ∈ xs.take 0, okLim x) (Leb.encU n ++ (xs.take 0).flatMap encTable)) := Y (aj (by simp) (fun _ => by simp))
 have HJ : Hid (∀ (j : Nat) (x : Lim), xs[j]? = some x → adv (adv s (∀ x ∈ xs.take j, okLim x) (Leb.encU n ++ (xs.take j).flatMap encTable)) (okLim x) (encTable x) = adv s (∀ x ∈ xs.take (j + 1), okLim x) (Leb.encU n ++ (xs.take (j + 1)).flatMap encTable)) := Y (fun j x hx => by
  rw [ah, List.take_add_one, hx]
  exact aj (by simp [or_imp, forall_and]) (fun _ => by simp))
 have HE : Hid (adv s (∀ x ∈ xs.take n, okLim x) (Leb.encU n ++ (xs.take n).flatMap encTable) = adv s (∀ x ∈ xs, okLim x) (encList encTable xs)) := Y (by rw [List.take_of_length_le (by omega)]; exact aj Iff.rfl (fun _ => by rw [← hn]; rfl))
 clear h hX hn
 go_enter Tryz.func97, Tryz.ntmps97
 go_upto_region 2 with (go_at_call 124; refine HL.out.mono ?_; rintro e w1 ⟨rfl, v1, hs, hm⟩; have HS1 := Y hs; have HM1 := Y hm; clear hs hm)
 go_loopw [14] (fun i wr => ∃ (j : Nat) (vj : Value), j ≤ n ∧ i = .int .i64 (j : Int) ∧ Hid (WS wr R vj (adv s (∀ x ∈ xs.take j, okLim x) (Leb.encU n ++ (xs.take j).flatMap encTable))) ∧ Hid (WMod R w v wr vj)) (fun i _ => n - (intOf i).toNat)
 case atStart => exact ⟨0, v1, by omega, rfl, Y (by rw [← HZ.out]; exact HS1.out), Y HM1.out⟩
 case round =>
  obtain ⟨j, vj, hj, rfl, HS, HM⟩ := hrel
  by_cases hjn : j < n
  ·obtain ⟨x, hx⟩ : ∃ x, xs[j]? = some x := ⟨_, List.getElem?_eq_getElem (by rw [HN.out]; exact hjn)⟩
   have hxm := List.mem_of_getElem? hx
   have HLOW := Y (HM.out.low HW.out)
   obtain ⟨g, o, cs, rfl, hgR, hg, hrep, hcell⟩ := (HX.out.mod HLOW.out (fun k _ h1 h2 => by omega)) j x hx
   have HR := Y hrep
   have HJX := Y (HJ.out j x hx)
   obtain ⟨rfl, _⟩ := hrep
   have hji : (j : Int) < (n : Int) := by omega
   have hsz : Lay.size Lim = 2 := rfl
   rw [hsz] at hcell
   have hc0 : wr.cell? _ = some (.int .u32 (x.min : Int)) := hcell 0 _ rfl
   have hc1 : wr.cell? _ = some (.int .i64 x.max) := hcell 1 _ rfl
   simp only [Nat.add_zero] at hc0
   have HBA : Hid (Below wr.heap.size wr (wr.alloc (.cells #[.int .u32 (x.min : Int), .int .i64 x.max] 57))) := Y ((Below.refl _ _).alloc (Nat.le_refl _) _)
   have HQ := Y (HP.out (wr.alloc (.cells #[.int .u32 (x.min : Int), .int .i64 x.max] 57)) vj _ x _ hxm (HS.out.on HBA.out) ((HLOW.out).alloc _) (Lay.mod HR.out (Mod.of_below (T := fun _ => False) HBA.out) (fun _ _ _ h => h)))
   clear hx hxm hcell hsz hg hgR HR
   go_wp2_with (go_at_call 98; refine HQ.out.mono ?_; rintro e w2 ⟨rfl, v2, hs, hm⟩; have HS2 := Y hs; have HM2 := Y (HM.out.trans ((WMod.on _ HBA.out).trans hm)); clear hs hm)
   go_roundw
   case rel => exact ⟨j + 1, v2, by omega, by go_num, Y (by rw [← HJX.out]; exact HS2.out), HM2⟩
   case measure => simp [intOf]; omega
  ·obtain rfl : n = j := by omega
   go_wp2_with fail
   (first | go_end0 | refine bodyPost_ret (results_none rfl _ _ _) rfl ?_)
   rw [← HE.out]
   exact ⟨rfl, _, HS.out, HM.out⟩
theorem ellims_any (R : Nat) (v : Value) (s : Option (List UInt8)) (A : Option Addr) (xs : List Lim) (n c : Nat) (w : World) (h : WS w R v s) (hX : HasL w (· < R) A xs) (hn : xs.length = n) (hnc : n ≤ 9223372036854775807) :
  Calls Tryz.prog 97 #[.pointer (some ⟨R, 0, none⟩), .slice A n c, .func (.func 99) #[.pointer (some ⟨R, 0, none⟩)] #[]] w (ab R w v (adv s (∀ x ∈ xs, okLim x) (encList encLim xs))) := by
 have HX := Y hX
 have HN := Y hn
 have HW := Y h
 have HL := Y (be R v s n w h hnc)
 have HP : Hid (∀ (W : World) (V : Value) (S : Option (List UInt8)) (x : Lim) (cs : List Value), x ∈ xs → WS W R V S → Mod (R ≤ ·) w W → Lay.rep W (· < R) x cs → Calls Tryz.prog 99 #[.pointer (some ⟨R, 0, none⟩), argOf cs] W (ab R W V (adv S (okLim x) (encLim x)))) := Y (fun W V S x cs hx hW hM hr => (by obtain ⟨rfl, q1, q2, q3⟩ := hr; exact fE R V S x.min x.max W hW q1 q2 q3))
 have HZ : Hid (adv s True (Leb.encU n) = adv s (∀ x ∈ xs.take 0, okLim x) (Leb.encU n ++ (xs.take 0).flatMap encLim)) := Y (aj (by simp) (fun _ => by simp))
 have HJ : Hid (∀ (j : Nat) (x : Lim), xs[j]? = some x → adv (adv s (∀ x ∈ xs.take j, okLim x) (Leb.encU n ++ (xs.take j).flatMap encLim)) (okLim x) (encLim x) = adv s (∀ x ∈ xs.take (j + 1), okLim x) (Leb.encU n ++ (xs.take (j + 1)).flatMap encLim)) := Y (fun j x hx => by
  rw [ah, List.take_add_one, hx]
  exact aj (by simp [or_imp, forall_and]) (fun _ => by simp))
 have HE : Hid (adv s (∀ x ∈ xs.take n, okLim x) (Leb.encU n ++ (xs.take n).flatMap encLim) = adv s (∀ x ∈ xs, okLim x) (encList encLim xs)) := Y (by rw [List.take_of_length_le (by omega)]; exact aj Iff.rfl (fun _ => by rw [← hn]; rfl))
 clear h hX hn
 go_enter Tryz.func97, Tryz.ntmps97
 go_upto_region 2 with (go_at_call 124; refine HL.out.mono ?_; rintro e w1 ⟨rfl, v1, hs, hm⟩; have HS1 := Y hs; have HM1 := Y hm; clear hs hm)
 go_loopw [14] (fun i wr => ∃ (j : Nat) (vj : Value), j ≤ n ∧ i = .int .i64 (j : Int) ∧ Hid (WS wr R vj (adv s (∀ x ∈ xs.take j, okLim x) (Leb.encU n ++ (xs.take j).flatMap encLim))) ∧ Hid (WMod R w v wr vj)) (fun i _ => n - (intOf i).toNat)
 case atStart => exact ⟨0, v1, by omega, rfl, Y (by rw [← HZ.out]; exact HS1.out), Y HM1.out⟩
 case round =>
  obtain ⟨j, vj, hj, rfl, HS, HM⟩ := hrel
  by_cases hjn : j < n
  ·obtain ⟨x, hx⟩ : ∃ x, xs[j]? = some x := ⟨_, List.getElem?_eq_getElem (by rw [HN.out]; exact hjn)⟩
   have hxm := List.mem_of_getElem? hx
   have HLOW := Y (HM.out.low HW.out)
   obtain ⟨g, o, cs, rfl, hgR, hg, hrep, hcell⟩ := (HX.out.mod HLOW.out (fun k _ h1 h2 => by omega)) j x hx
   have HR := Y hrep
   have HJX := Y (HJ.out j x hx)
   obtain ⟨rfl, _⟩ := hrep
   have hji : (j : Int) < (n : Int) := by omega
   have hsz : Lay.size Lim = 2 := rfl
   rw [hsz] at hcell
   have hc0 : wr.cell? _ = some (.int .u32 (x.min : Int)) := hcell 0 _ rfl
   have hc1 : wr.cell? _ = some (.int .i64 x.max) := hcell 1 _ rfl
   simp only [Nat.add_zero] at hc0
   have HBA : Hid (Below wr.heap.size wr (wr.alloc (.cells #[.int .u32 (x.min : Int), .int .i64 x.max] 57))) := Y ((Below.refl _ _).alloc (Nat.le_refl _) _)
   have HQ := Y (HP.out (wr.alloc (.cells #[.int .u32 (x.min : Int), .int .i64 x.max] 57)) vj _ x _ hxm (HS.out.on HBA.out) ((HLOW.out).alloc _) (Lay.mod HR.out (Mod.of_below (T := fun _ => False) HBA.out) (fun _ _ _ h => h)))
   clear hx hxm hcell hsz hg hgR HR
   go_wp2_with (go_at_call 99; refine HQ.out.mono ?_; rintro e w2 ⟨rfl, v2, hs, hm⟩; have HS2 := Y hs; have HM2 := Y (HM.out.trans ((WMod.on _ HBA.out).trans hm)); clear hs hm)
   go_roundw
   case rel => exact ⟨j + 1, v2, by omega, by go_num, Y (by rw [← HJX.out]; exact HS2.out), HM2⟩
   case measure => simp [intOf]; omega
  ·obtain rfl : n = j := by omega
   go_wp2_with fail
   (first | go_end0 | refine bodyPost_ret (results_none rfl _ _ _) rfl ?_)
   rw [← HE.out]
   exact ⟨rfl, _, HS.out, HM.out⟩
theorem elgvs_any (R : Nat) (v : Value) (s : Option (List UInt8)) (A : Option Addr) (xs : List GV) (n c : Nat) (w : World) (h : WS w R v s) (hX : HasL w (· < R) A xs) (hn : xs.length = n) (hnc : n ≤ 9223372036854775807) (hf : ∀ x ∈ xs, Fit x.init) :
  Calls Tryz.prog 100 #[.pointer (some ⟨R, 0, none⟩), .slice A n c, .func (.func 101) #[.pointer (some ⟨R, 0, none⟩)] #[]] w (ab R w v (adv s (∀ x ∈ xs, okGV x) (encList encGV xs))) := by
 have HX := Y hX
 have HN := Y hn
 have HW := Y h
 have HL := Y (be R v s n w h hnc)
 have HP : Hid (∀ (W : World) (V : Value) (S : Option (List UInt8)) (x : GV) (cs : List Value), x ∈ xs → WS W R V S → Mod (R ≤ ·) w W → Lay.rep W (· < R) x cs → Calls Tryz.prog 101 #[.pointer (some ⟨R, 0, none⟩), argOf cs] W (ab R W V (adv S (okGV x) (encGV x)))) := Y (fun W V S x cs hx hW hM hr => (by obtain ⟨_, rfl, ⟨_, _, rfl, q1n, q1c, _, q1⟩⟩ := hr; exact egv_any R V S x _ _ _ W hW q1 rfl (hf x hx)))
 have HZ : Hid (adv s True (Leb.encU n) = adv s (∀ x ∈ xs.take 0, okGV x) (Leb.encU n ++ (xs.take 0).flatMap encGV)) := Y (aj (by simp) (fun _ => by simp))
 have HJ : Hid (∀ (j : Nat) (x : GV), xs[j]? = some x → adv (adv s (∀ x ∈ xs.take j, okGV x) (Leb.encU n ++ (xs.take j).flatMap encGV)) (okGV x) (encGV x) = adv s (∀ x ∈ xs.take (j + 1), okGV x) (Leb.encU n ++ (xs.take (j + 1)).flatMap encGV)) := Y (fun j x hx => by
  rw [ah, List.take_add_one, hx]
  exact aj (by simp [or_imp, forall_and]) (fun _ => by simp))
 have HE : Hid (adv s (∀ x ∈ xs.take n, okGV x) (Leb.encU n ++ (xs.take n).flatMap encGV) = adv s (∀ x ∈ xs, okGV x) (encList encGV xs)) := Y (by rw [List.take_of_length_le (by omega)]; exact aj Iff.rfl (fun _ => by rw [← hn]; rfl))
 clear h hX hn hf
 go_enter Tryz.func100, Tryz.ntmps100
 go_upto_region 2 with (go_at_call 124; refine HL.out.mono ?_; rintro e w1 ⟨rfl, v1, hs, hm⟩; have HS1 := Y hs; have HM1 := Y hm; clear hs hm)
 go_loopw [14] (fun i wr => ∃ (j : Nat) (vj : Value), j ≤ n ∧ i = .int .i64 (j : Int) ∧ Hid (WS wr R vj (adv s (∀ x ∈ xs.take j, okGV x) (Leb.encU n ++ (xs.take j).flatMap encGV))) ∧ Hid (WMod R w v wr vj)) (fun i _ => n - (intOf i).toNat)
 case atStart => exact ⟨0, v1, by omega, rfl, Y (by rw [← HZ.out]; exact HS1.out), Y HM1.out⟩
 case round =>
  obtain ⟨j, vj, hj, rfl, HS, HM⟩ := hrel
  by_cases hjn : j < n
  ·obtain ⟨x, hx⟩ : ∃ x, xs[j]? = some x := ⟨_, List.getElem?_eq_getElem (by rw [HN.out]; exact hjn)⟩
   have hxm := List.mem_of_getElem? hx
   have HLOW := Y (HM.out.low HW.out)
   obtain ⟨g, o, cs, rfl, hgR, hg, hrep, hcell⟩ := (HX.out.mod HLOW.out (fun k _ h1 h2 => by omega)) j x hx
   have HR := Y hrep
   have HJX := Y (HJ.out j x hx)
   obtain ⟨u1, rfl, ⟨B1, d1, rfl, _, _, _, _⟩⟩ := hrep
   have hji : (j : Int) < (n : Int) := by omega
   have hsz : Lay.size GV = 3 := rfl
   rw [hsz] at hcell
   have hc0 : wr.cell? _ = some (.int .u8 (x.type.t.toNat : Int)) := hcell 0 _ rfl
   have hc1 : wr.cell? _ = some (.bool x.type.mu) := hcell 1 _ rfl
   have hc2 : wr.cell? _ = some (.slice B1 x.init.length d1) := hcell 2 _ rfl
   simp only [Nat.add_zero] at hc0
   have HBA : Hid (Below wr.heap.size wr (wr.alloc (.cells #[.int .u8 (x.type.t.toNat : Int), .bool x.type.mu, .slice B1 x.init.length d1] 63))) := Y ((Below.refl _ _).alloc (Nat.le_refl _) _)
   have HQ := Y (HP.out (wr.alloc (.cells #[.int .u8 (x.type.t.toNat : Int), .bool x.type.mu, .slice B1 x.init.length d1] 63)) vj _ x _ hxm (HS.out.on HBA.out) ((HLOW.out).alloc _) (Lay.mod HR.out (Mod.of_below (T := fun _ => False) HBA.out) (fun _ _ _ h => h)))
   clear hx hxm hcell hsz hg hgR HR
   go_wp2_with (go_at_call 101; refine HQ.out.mono ?_; rintro e w2 ⟨rfl, v2, hs, hm⟩; have HS2 := Y hs; have HM2 := Y (HM.out.trans ((WMod.on _ HBA.out).trans hm)); clear hs hm)
   go_roundw
   case rel => exact ⟨j + 1, v2, by omega, by go_num, Y (by rw [← HJX.out]; exact HS2.out), HM2⟩
   case measure => simp [intOf]; omega
  ·obtain rfl : n = j := by omega
   go_wp2_with fail
   (first | go_end0 | refine bodyPost_ret (results_none rfl _ _ _) rfl ?_)
   rw [← HE.out]
   exact ⟨rfl, _, HS.out, HM.out⟩
theorem elexps_any (R : Nat) (v : Value) (s : Option (List UInt8)) (A : Option Addr) (xs : List Exp) (n c : Nat) (w : World) (h : WS w R v s) (hX : HasL w (· < R) A xs) (hn : xs.length = n) (hnc : n ≤ 9223372036854775807) (hf : ∀ x ∈ xs, x.name.length ≤ 1000000) (hT : Tb w) :
  Calls Tryz.prog 102 #[.pointer (some ⟨R, 0, none⟩), .slice A n c, .func (.func 103) #[.pointer (some ⟨R, 0, none⟩)] #[]] w (ab R w v (adv s (∀ x ∈ xs, okExp x) (encList encExp xs))) := by
 have HX := Y hX
 have HN := Y hn
 have HW := Y h
 have HL := Y (be R v s n w h hnc)
 have HP : Hid (∀ (W : World) (V : Value) (S : Option (List UInt8)) (x : Exp) (cs : List Value), x ∈ xs → WS W R V S → Mod (R ≤ ·) w W → Lay.rep W (· < R) x cs → Calls Tryz.prog 103 #[.pointer (some ⟨R, 0, none⟩), argOf cs] W (ab R W V (adv S (okExp x) (encExp x)))) := Y (fun W V S x cs hx hW hM hr => (by obtain ⟨rfl, q1⟩ := hr; exact eexp_any R V S x W hW (hf x hx) q1 (hT.low hM h.two)))
 have HZ : Hid (adv s True (Leb.encU n) = adv s (∀ x ∈ xs.take 0, okExp x) (Leb.encU n ++ (xs.take 0).flatMap encExp)) := Y (aj (by simp) (fun _ => by simp))
 have HJ : Hid (∀ (j : Nat) (x : Exp), xs[j]? = some x → adv (adv s (∀ x ∈ xs.take j, okExp x) (Leb.encU n ++ (xs.take j).flatMap encExp)) (okExp x) (encExp x) = adv s (∀ x ∈ xs.take (j + 1), okExp x) (Leb.encU n ++ (xs.take (j + 1)).flatMap encExp)) := Y (fun j x hx => by
  rw [ah, List.take_add_one, hx]
  exact aj (by simp [or_imp, forall_and]) (fun _ => by simp))
 have HE : Hid (adv s (∀ x ∈ xs.take n, okExp x) (Leb.encU n ++ (xs.take n).flatMap encExp) = adv s (∀ x ∈ xs, okExp x) (encList encExp xs)) := Y (by rw [List.take_of_length_le (by omega)]; exact aj Iff.rfl (fun _ => by rw [← hn]; rfl))
 clear h hX hn hf hT
 go_enter Tryz.func102, Tryz.ntmps102
 go_upto_region 2 with (go_at_call 124; refine HL.out.mono ?_; rintro e w1 ⟨rfl, v1, hs, hm⟩; have HS1 := Y hs; have HM1 := Y hm; clear hs hm)
 go_loopw [14] (fun i wr => ∃ (j : Nat) (vj : Value), j ≤ n ∧ i = .int .i64 (j : Int) ∧ Hid (WS wr R vj (adv s (∀ x ∈ xs.take j, okExp x) (Leb.encU n ++ (xs.take j).flatMap encExp))) ∧ Hid (WMod R w v wr vj)) (fun i _ => n - (intOf i).toNat)
 case atStart => exact ⟨0, v1, by omega, rfl, Y (by rw [← HZ.out]; exact HS1.out), Y HM1.out⟩
 case round =>
  obtain ⟨j, vj, hj, rfl, HS, HM⟩ := hrel
  by_cases hjn : j < n
  ·obtain ⟨x, hx⟩ : ∃ x, xs[j]? = some x := ⟨_, List.getElem?_eq_getElem (by rw [HN.out]; exact hjn)⟩
   have hxm := List.mem_of_getElem? hx
   have HLOW := Y (HM.out.low HW.out)
   obtain ⟨g, o, cs, rfl, hgR, hg, hrep, hcell⟩ := (HX.out.mod HLOW.out (fun k _ h1 h2 => by omega)) j x hx
   have HR := Y hrep
   have HJX := Y (HJ.out j x hx)
   obtain ⟨rfl, _⟩ := hrep
   have hji : (j : Int) < (n : Int) := by omega
   have hsz : Lay.size Exp = 3 := rfl
   rw [hsz] at hcell
   have hc0 : wr.cell? _ = some (.string ⟨x.name.toArray⟩) := hcell 0 _ rfl
   have hc1 : wr.cell? _ = some (.int .u8 (x.kind.toNat : Int)) := hcell 1 _ rfl
   have hc2 : wr.cell? _ = some (.int .u32 (x.index : Int)) := hcell 2 _ rfl
   simp only [Nat.add_zero] at hc0
   have HBA : Hid (Below wr.heap.size wr (wr.alloc (.cells #[.string ⟨x.name.toArray⟩, .int .u8 (x.kind.toNat : Int), .int .u32 (x.index : Int)] 66))) := Y ((Below.refl _ _).alloc (Nat.le_refl _) _)
   have HQ := Y (HP.out (wr.alloc (.cells #[.string ⟨x.name.toArray⟩, .int .u8 (x.kind.toNat : Int), .int .u32 (x.index : Int)] 66)) vj _ x _ hxm (HS.out.on HBA.out) ((HLOW.out).alloc _) (Lay.mod HR.out (Mod.of_below (T := fun _ => False) HBA.out) (fun _ _ _ h => h)))
   clear hx hxm hcell hsz hg hgR HR
   go_wp2_with (go_at_call 103; refine HQ.out.mono ?_; rintro e w2 ⟨rfl, v2, hs, hm⟩; have HS2 := Y hs; have HM2 := Y (HM.out.trans ((WMod.on _ HBA.out).trans hm)); clear hs hm)
   go_roundw
   case rel => exact ⟨j + 1, v2, by omega, by go_num, Y (by rw [← HJX.out]; exact HS2.out), HM2⟩
   case measure => simp [intOf]; omega
  ·obtain rfl : n = j := by omega
   go_wp2_with fail
   (first | go_end0 | refine bodyPost_ret (results_none rfl _ _ _) rfl ?_)
   rw [← HE.out]
   exact ⟨rfl, _, HS.out, HM.out⟩
theorem elels_any (R : Nat) (v : Value) (s : Option (List UInt8)) (A : Option Addr) (xs : List El) (n c : Nat) (w : World) (h : WS w R v s) (hX : HasL w (· < R) A xs) (hn : xs.length = n) (hnc : n ≤ 9223372036854775807) (hf : ∀ x ∈ xs, Fit x.off) :
  Calls Tryz.prog 104 #[.pointer (some ⟨R, 0, none⟩), .slice A n c, .func (.func 105) #[.pointer (some ⟨R, 0, none⟩)] #[]] w (ab R w v (adv s (∀ x ∈ xs, okEl x) (encList encEl xs))) := by
 have HX := Y hX
 have HN := Y hn
 have HW := Y h
 have HL := Y (be R v s n w h hnc)
 have HP : Hid (∀ (W : World) (V : Value) (S : Option (List UInt8)) (x : El) (cs : List Value), x ∈ xs → WS W R V S → Mod (R ≤ ·) w W → Lay.rep W (· < R) x cs → Calls Tryz.prog 105 #[.pointer (some ⟨R, 0, none⟩), argOf cs] W (ab R W V (adv S (okEl x) (encEl x)))) := Y (fun W V S x cs hx hW hM hr => (by obtain ⟨_, _, rfl, q0, ⟨_, _, rfl, q1n, q1c, _, q1⟩, ⟨_, _, rfl, q2n, q2c, _, q2⟩⟩ := hr; exact eel_any R V S x _ _ _ _ _ _ W hW q0 q1 rfl (hf x hx) q2 rfl (aZ q2n q2c)))
 have HZ : Hid (adv s True (Leb.encU n) = adv s (∀ x ∈ xs.take 0, okEl x) (Leb.encU n ++ (xs.take 0).flatMap encEl)) := Y (aj (by simp) (fun _ => by simp))
 have HJ : Hid (∀ (j : Nat) (x : El), xs[j]? = some x → adv (adv s (∀ x ∈ xs.take j, okEl x) (Leb.encU n ++ (xs.take j).flatMap encEl)) (okEl x) (encEl x) = adv s (∀ x ∈ xs.take (j + 1), okEl x) (Leb.encU n ++ (xs.take (j + 1)).flatMap encEl)) := Y (fun j x hx => by
  rw [ah, List.take_add_one, hx]
  exact aj (by simp [or_imp, forall_and]) (fun _ => by simp))
 have HE : Hid (adv s (∀ x ∈ xs.take n, okEl x) (Leb.encU n ++ (xs.take n).flatMap encEl) = adv s (∀ x ∈ xs, okEl x) (encList encEl xs)) := Y (by rw [List.take_of_length_le (by omega)]; exact aj Iff.rfl (fun _ => by rw [← hn]; rfl))
 clear h hX hn hf
 go_enter Tryz.func104, Tryz.ntmps104
 go_upto_region 2 with (go_at_call 124; refine HL.out.mono ?_; rintro e w1 ⟨rfl, v1, hs, hm⟩; have HS1 := Y hs; have HM1 := Y hm; clear hs hm)
 go_loopw [14] (fun i wr => ∃ (j : Nat) (vj : Value), j ≤ n ∧ i = .int .i64 (j : Int) ∧ Hid (WS wr R vj (adv s (∀ x ∈ xs.take j, okEl x) (Leb.encU n ++ (xs.take j).flatMap encEl))) ∧ Hid (WMod R w v wr vj)) (fun i _ => n - (intOf i).toNat)
 case atStart => exact ⟨0, v1, by omega, rfl, Y (by rw [← HZ.out]; exact HS1.out), Y HM1.out⟩
 case round =>
  obtain ⟨j, vj, hj, rfl, HS, HM⟩ := hrel
  by_cases hjn : j < n
  ·obtain ⟨x, hx⟩ : ∃ x, xs[j]? = some x := ⟨_, List.getElem?_eq_getElem (by rw [HN.out]; exact hjn)⟩
   have hxm := List.mem_of_getElem? hx
   have HLOW := Y (HM.out.low HW.out)
   obtain ⟨g, o, cs, rfl, hgR, hg, hrep, hcell⟩ := (HX.out.mod HLOW.out (fun k _ h1 h2 => by omega)) j x hx
   have HR := Y hrep
   have HJX := Y (HJ.out j x hx)
   obtain ⟨u1, u2, rfl, _, ⟨B1, d1, rfl, _, _, _, _⟩, ⟨B2, d2, rfl, _, _, _, _⟩⟩ := hrep
   have hji : (j : Int) < (n : Int) := by omega
   have hsz : Lay.size El = 3 := rfl
   rw [hsz] at hcell
   have hc0 : wr.cell? _ = some (.int .u32 (x.table : Int)) := hcell 0 _ rfl
   have hc1 : wr.cell? _ = some (.slice B1 x.off.length d1) := hcell 1 _ rfl
   have hc2 : wr.cell? _ = some (.slice B2 x.funcs.length d2) := hcell 2 _ rfl
   simp only [Nat.add_zero] at hc0
   have HBA : Hid (Below wr.heap.size wr (wr.alloc (.cells #[.int .u32 (x.table : Int), .slice B1 x.off.length d1, .slice B2 x.funcs.length d2] 69))) := Y ((Below.refl _ _).alloc (Nat.le_refl _) _)
   have HQ := Y (HP.out (wr.alloc (.cells #[.int .u32 (x.table : Int), .slice B1 x.off.length d1, .slice B2 x.funcs.length d2] 69)) vj _ x _ hxm (HS.out.on HBA.out) ((HLOW.out).alloc _) (Lay.mod HR.out (Mod.of_below (T := fun _ => False) HBA.out) (fun _ _ _ h => h)))
   clear hx hxm hcell hsz hg hgR HR
   go_wp2_with (go_at_call 105; refine HQ.out.mono ?_; rintro e w2 ⟨rfl, v2, hs, hm⟩; have HS2 := Y hs; have HM2 := Y (HM.out.trans ((WMod.on _ HBA.out).trans hm)); clear hs hm)
   go_roundw
   case rel => exact ⟨j + 1, v2, by omega, by go_num, Y (by rw [← HJX.out]; exact HS2.out), HM2⟩
   case measure => simp [intOf]; omega
  ·obtain rfl : n = j := by omega
   go_wp2_with fail
   (first | go_end0 | refine bodyPost_ret (results_none rfl _ _ _) rfl ?_)
   rw [← HE.out]
   exact ⟨rfl, _, HS.out, HM.out⟩
theorem elcds_any (R : Nat) (v : Value) (s : Option (List UInt8)) (A : Option Addr) (xs : List Cd) (n c : Nat) (w : World) (h : WS w R v s) (hX : HasL w (· < R) A xs) (hn : xs.length = n) (hnc : n ≤ 9223372036854775807) (hf : ∀ x ∈ xs, x.locals.length ≤ 4000000000 ∧ Fit x.body) :
  Calls Tryz.prog 106 #[.pointer (some ⟨R, 0, none⟩), .slice A n c, .func (.func 107) #[.pointer (some ⟨R, 0, none⟩)] #[]] w (ab R w v (adv s (∀ x ∈ xs, okCd x) (encList encCd xs))) := by
 have HX := Y hX
 have HN := Y hn
 have HW := Y h
 have HL := Y (be R v s n w h hnc)
 have HP : Hid (∀ (W : World) (V : Value) (S : Option (List UInt8)) (x : Cd) (cs : List Value), x ∈ xs → WS W R V S → Mod (R ≤ ·) w W → Lay.rep W (· < R) x cs → Calls Tryz.prog 107 #[.pointer (some ⟨R, 0, none⟩), argOf cs] W (ab R W V (adv S (okCd x) (encCd x)))) := Y (fun W V S x cs hx hW hM hr => (by obtain ⟨_, _, rfl, ⟨_, _, rfl, q1n, q1c, _, q1⟩, ⟨_, _, rfl, q2n, q2c, _, q2⟩⟩ := hr; exact ecd_any R V S x _ _ _ _ _ _ W hW q1 rfl (hf x hx).1 q2 rfl (hf x hx).2))
 have HZ : Hid (adv s True (Leb.encU n) = adv s (∀ x ∈ xs.take 0, okCd x) (Leb.encU n ++ (xs.take 0).flatMap encCd)) := Y (aj (by simp) (fun _ => by simp))
 have HJ : Hid (∀ (j : Nat) (x : Cd), xs[j]? = some x → adv (adv s (∀ x ∈ xs.take j, okCd x) (Leb.encU n ++ (xs.take j).flatMap encCd)) (okCd x) (encCd x) = adv s (∀ x ∈ xs.take (j + 1), okCd x) (Leb.encU n ++ (xs.take (j + 1)).flatMap encCd)) := Y (fun j x hx => by
  rw [ah, List.take_add_one, hx]
  exact aj (by simp [or_imp, forall_and]) (fun _ => by simp))
 have HE : Hid (adv s (∀ x ∈ xs.take n, okCd x) (Leb.encU n ++ (xs.take n).flatMap encCd) = adv s (∀ x ∈ xs, okCd x) (encList encCd xs)) := Y (by rw [List.take_of_length_le (by omega)]; exact aj Iff.rfl (fun _ => by rw [← hn]; rfl))
 clear h hX hn hf
 go_enter Tryz.func106, Tryz.ntmps106
 go_upto_region 2 with (go_at_call 124; refine HL.out.mono ?_; rintro e w1 ⟨rfl, v1, hs, hm⟩; have HS1 := Y hs; have HM1 := Y hm; clear hs hm)
 go_loopw [14] (fun i wr => ∃ (j : Nat) (vj : Value), j ≤ n ∧ i = .int .i64 (j : Int) ∧ Hid (WS wr R vj (adv s (∀ x ∈ xs.take j, okCd x) (Leb.encU n ++ (xs.take j).flatMap encCd))) ∧ Hid (WMod R w v wr vj)) (fun i _ => n - (intOf i).toNat)
 case atStart => exact ⟨0, v1, by omega, rfl, Y (by rw [← HZ.out]; exact HS1.out), Y HM1.out⟩
 case round =>
  obtain ⟨j, vj, hj, rfl, HS, HM⟩ := hrel
  by_cases hjn : j < n
  ·obtain ⟨x, hx⟩ : ∃ x, xs[j]? = some x := ⟨_, List.getElem?_eq_getElem (by rw [HN.out]; exact hjn)⟩
   have hxm := List.mem_of_getElem? hx
   have HLOW := Y (HM.out.low HW.out)
   obtain ⟨g, o, cs, rfl, hgR, hg, hrep, hcell⟩ := (HX.out.mod HLOW.out (fun k _ h1 h2 => by omega)) j x hx
   have HR := Y hrep
   have HJX := Y (HJ.out j x hx)
   obtain ⟨u1, u2, rfl, ⟨B1, d1, rfl, _, _, _, _⟩, ⟨B2, d2, rfl, _, _, _, _⟩⟩ := hrep
   have hji : (j : Int) < (n : Int) := by omega
   have hsz : Lay.size Cd = 2 := rfl
   rw [hsz] at hcell
   have hc0 : wr.cell? _ = some (.slice B1 x.locals.length d1) := hcell 0 _ rfl
   have hc1 : wr.cell? _ = some (.slice B2 x.body.length d2) := hcell 1 _ rfl
   simp only [Nat.add_zero] at hc0
   have HBA : Hid (Below wr.heap.size wr (wr.alloc (.cells #[.slice B1 x.locals.length d1, .slice B2 x.body.length d2] 54))) := Y ((Below.refl _ _).alloc (Nat.le_refl _) _)
   have HQ := Y (HP.out (wr.alloc (.cells #[.slice B1 x.locals.length d1, .slice B2 x.body.length d2] 54)) vj _ x _ hxm (HS.out.on HBA.out) ((HLOW.out).alloc _) (Lay.mod HR.out (Mod.of_below (T := fun _ => False) HBA.out) (fun _ _ _ h => h)))
   clear hx hxm hcell hsz hg hgR HR
   go_wp2_with (go_at_call 107; refine HQ.out.mono ?_; rintro e w2 ⟨rfl, v2, hs, hm⟩; have HS2 := Y hs; have HM2 := Y (HM.out.trans ((WMod.on _ HBA.out).trans hm)); clear hs hm)
   go_roundw
   case rel => exact ⟨j + 1, v2, by omega, by go_num, Y (by rw [← HJX.out]; exact HS2.out), HM2⟩
   case measure => simp [intOf]; omega
  ·obtain rfl : n = j := by omega
   go_wp2_with fail
   (first | go_end0 | refine bodyPost_ret (results_none rfl _ _ _) rfl ?_)
   rw [← HE.out]
   exact ⟨rfl, _, HS.out, HM.out⟩
theorem eldas_any (R : Nat) (v : Value) (s : Option (List UInt8)) (A : Option Addr) (xs : List Da) (n c : Nat) (w : World) (h : WS w R v s) (hX : HasL w (· < R) A xs) (hn : xs.length = n) (hnc : n ≤ 9223372036854775807) (hf : ∀ x ∈ xs, Fit x.off) :
  Calls Tryz.prog 108 #[.pointer (some ⟨R, 0, none⟩), .slice A n c, .func (.func 109) #[.pointer (some ⟨R, 0, none⟩)] #[]] w (ab R w v (adv s (∀ x ∈ xs, okDa x) (encList encDa xs))) := by
 have HX := Y hX
 have HN := Y hn
 have HW := Y h
 have HL := Y (be R v s n w h hnc)
 have HP : Hid (∀ (W : World) (V : Value) (S : Option (List UInt8)) (x : Da) (cs : List Value), x ∈ xs → WS W R V S → Mod (R ≤ ·) w W → Lay.rep W (· < R) x cs → Calls Tryz.prog 109 #[.pointer (some ⟨R, 0, none⟩), argOf cs] W (ab R W V (adv S (okDa x) (encDa x)))) := Y (fun W V S x cs hx hW hM hr => (by obtain ⟨_, _, rfl, q0, ⟨_, _, rfl, q1n, q1c, _, q1⟩, ⟨_, _, rfl, q2n, q2c, _, q2⟩⟩ := hr; exact eda_any R V S x _ _ _ _ _ _ W hW q0 q1 rfl (hf x hx) q2 rfl q2n q2c))
 have HZ : Hid (adv s True (Leb.encU n) = adv s (∀ x ∈ xs.take 0, okDa x) (Leb.encU n ++ (xs.take 0).flatMap encDa)) := Y (aj (by simp) (fun _ => by simp))
 have HJ : Hid (∀ (j : Nat) (x : Da), xs[j]? = some x → adv (adv s (∀ x ∈ xs.take j, okDa x) (Leb.encU n ++ (xs.take j).flatMap encDa)) (okDa x) (encDa x) = adv s (∀ x ∈ xs.take (j + 1), okDa x) (Leb.encU n ++ (xs.take (j + 1)).flatMap encDa)) := Y (fun j x hx => by
  rw [ah, List.take_add_one, hx]
  exact aj (by simp [or_imp, forall_and]) (fun _ => by simp))
 have HE : Hid (adv s (∀ x ∈ xs.take n, okDa x) (Leb.encU n ++ (xs.take n).flatMap encDa) = adv s (∀ x ∈ xs, okDa x) (encList encDa xs)) := Y (by rw [List.take_of_length_le (by omega)]; exact aj Iff.rfl (fun _ => by rw [← hn]; rfl))
 clear h hX hn hf
 go_enter Tryz.func108, Tryz.ntmps108
 go_upto_region 2 with (go_at_call 124; refine HL.out.mono ?_; rintro e w1 ⟨rfl, v1, hs, hm⟩; have HS1 := Y hs; have HM1 := Y hm; clear hs hm)
 go_loopw [14] (fun i wr => ∃ (j : Nat) (vj : Value), j ≤ n ∧ i = .int .i64 (j : Int) ∧ Hid (WS wr R vj (adv s (∀ x ∈ xs.take j, okDa x) (Leb.encU n ++ (xs.take j).flatMap encDa))) ∧ Hid (WMod R w v wr vj)) (fun i _ => n - (intOf i).toNat)
 case atStart => exact ⟨0, v1, by omega, rfl, Y (by rw [← HZ.out]; exact HS1.out), Y HM1.out⟩
 case round =>
  obtain ⟨j, vj, hj, rfl, HS, HM⟩ := hrel
  by_cases hjn : j < n
  ·obtain ⟨x, hx⟩ : ∃ x, xs[j]? = some x := ⟨_, List.getElem?_eq_getElem (by rw [HN.out]; exact hjn)⟩
   have hxm := List.mem_of_getElem? hx
   have HLOW := Y (HM.out.low HW.out)
   obtain ⟨g, o, cs, rfl, hgR, hg, hrep, hcell⟩ := (HX.out.mod HLOW.out (fun k _ h1 h2 => by omega)) j x hx
   have HR := Y hrep
   have HJX := Y (HJ.out j x hx)
   obtain ⟨u1, u2, rfl, _, ⟨B1, d1, rfl, _, _, _, _⟩, ⟨B2, d2, rfl, _, _, _, _⟩⟩ := hrep
   have hji : (j : Int) < (n : Int) := by omega
   have hsz : Lay.size Da = 3 := rfl
   rw [hsz] at hcell
   have hc0 : wr.cell? _ = some (.int .u32 (x.mem : Int)) := hcell 0 _ rfl
   have hc1 : wr.cell? _ = some (.slice B1 x.off.length d1) := hcell 1 _ rfl
   have hc2 : wr.cell? _ = some (.slice B2 x.b.length d2) := hcell 2 _ rfl
   simp only [Nat.add_zero] at hc0
   have HBA : Hid (Below wr.heap.size wr (wr.alloc (.cells #[.int .u32 (x.mem : Int), .slice B1 x.off.length d1, .slice B2 x.b.length d2] 71))) := Y ((Below.refl _ _).alloc (Nat.le_refl _) _)
   have HQ := Y (HP.out (wr.alloc (.cells #[.int .u32 (x.mem : Int), .slice B1 x.off.length d1, .slice B2 x.b.length d2] 71)) vj _ x _ hxm (HS.out.on HBA.out) ((HLOW.out).alloc _) (Lay.mod HR.out (Mod.of_below (T := fun _ => False) HBA.out) (fun _ _ _ h => h)))
   clear hx hxm hcell hsz hg hgR HR
   go_wp2_with (go_at_call 109; refine HQ.out.mono ?_; rintro e w2 ⟨rfl, v2, hs, hm⟩; have HS2 := Y hs; have HM2 := Y (HM.out.trans ((WMod.on _ HBA.out).trans hm)); clear hs hm)
   go_roundw
   case rel => exact ⟨j + 1, v2, by omega, by go_num, Y (by rw [← HJX.out]; exact HS2.out), HM2⟩
   case measure => simp [intOf]; omega
  ·obtain rfl : n = j := by omega
   go_wp2_with fail
   (first | go_end0 | refine bodyPost_ret (results_none rfl _ _ _) rfl ?_)
   rw [← HE.out]
   exact ⟨rfl, _, HS.out, HM.out⟩
structure FitM (m : M) : Prop where
 imports : ∀ x ∈ m.imports, x.mod.length ≤ 1000000 ∧ x.name.length ≤ 1000000
 globals : ∀ x ∈ m.globals, Fit x.init
 exports : ∀ x ∈ m.exports, x.name.length ≤ 1000000
 elems : ∀ x ∈ m.elems, Fit x.off
 codes : ∀ x ∈ m.codes, x.locals.length ≤ 4000000000 ∧ Fit x.body
 datas : ∀ x ∈ m.datas, Fit x.off
def okB (m : M) (id : Nat) : Prop :=
 if id = 1 then ∀ x ∈ m.types, okFT x else if id = 2 then ∀ x ∈ m.imports, okImp x else if id = 3 then ∀ x ∈ m.funcs, okNum x else if id = 4 then ∀ x ∈ m.tables, okLim x
 else if id = 5 then ∀ x ∈ m.mems, okLim x else if id = 6 then ∀ x ∈ m.globals, okGV x else if id = 7 then ∀ x ∈ m.exports, okExp x else if id = 8 then okNum m.start
 else if id = 9 then ∀ x ∈ m.elems, okEl x else if id = 10 then ∀ x ∈ m.codes, okCd x else ∀ x ∈ m.datas, okDa x
theorem emeth1_any (R B : Nat) (v : Value) (s : Option (List UInt8)) (m : M) (v1 v2 v3 v4 v5 v6 v7 v8 v9 v10 : Value) (w : World) (h : WS w R v s) (hm : w.heap[B]? = some (.cells (modCells m v1 v2 v3 v4 v5 v6 v7 v8 v9 v10) 33 (0, 0))) (hM : RepM w (· < R) m v1 v2 v3 v4 v5 v6 v7 v8 v9 v10) :
  Calls Tryz.prog 49 #[.pointer (some ⟨B, 0, none⟩), .pointer (some ⟨R, 0, none⟩)] w (ab R w v (adv s (okB m 1) (body m 1))) := by
 obtain ⟨A, c, rfl, hc, hcm, _, hX⟩ := hM.types
 have HC : Hid (Calls Tryz.prog 91 #[.pointer (some ⟨R, 0, none⟩), .slice A m.types.length c, .func (.func 92) #[.pointer (some ⟨R, 0, none⟩)] #[]] w (ab R w v (adv s (okB m 1) (body m 1)))) := Y (eltypes_any R v s A m.types _ c w h hX rfl (aZ hc hcm))
 have h0 : w.cell? ⟨B, 0, none⟩ = some (.slice A m.types.length c) := by rw [cell_of_row w B 0 _ _ (0, 0) hm]; rfl
 generalize m.types.length = n at h0 HC
 clear hm hM hX hc hcm h
 go_enter Tryz.func49, Tryz.ntmps49
 go_wp2_with (go_at_call 91; refine HC.out.mono ?_; rintro e w1 ⟨rfl, v1, hs, hm⟩)
 (first | go_end0 | refine bodyPost_ret (results_none rfl _ _ _) rfl ?_)
 exact ⟨rfl, _, hs, hm⟩
theorem emeth2_any (R B : Nat) (v : Value) (s : Option (List UInt8)) (m : M) (v1 v2 v3 v4 v5 v6 v7 v8 v9 v10 : Value) (w : World) (h : WS w R v s) (hm : w.heap[B]? = some (.cells (modCells m v1 v2 v3 v4 v5 v6 v7 v8 v9 v10) 33 (0, 0))) (hM : RepM w (· < R) m v1 v2 v3 v4 v5 v6 v7 v8 v9 v10) (hF : FitM m) (hT : Tb w) :
  Calls Tryz.prog 50 #[.pointer (some ⟨B, 0, none⟩), .pointer (some ⟨R, 0, none⟩)] w (ab R w v (adv s (okB m 2) (body m 2))) := by
 obtain ⟨A, c, rfl, hc, hcm, _, hX⟩ := hM.imports
 have HC : Hid (Calls Tryz.prog 93 #[.pointer (some ⟨R, 0, none⟩), .slice A m.imports.length c, .func (.func 94) #[.pointer (some ⟨R, 0, none⟩)] #[]] w (ab R w v (adv s (okB m 2) (body m 2)))) := Y (elimps_any R v s A m.imports _ c w h hX rfl (aZ hc hcm) hF.imports hT)
 have h0 : w.cell? ⟨B, 1, none⟩ = some (.slice A m.imports.length c) := by rw [cell_of_row w B 1 _ _ (0, 0) hm]; rfl
 generalize m.imports.length = n at h0 HC
 clear hm hM hX hc hcm h hF hT
 go_enter Tryz.func50, Tryz.ntmps50
 go_wp2_with (go_at_call 93; refine HC.out.mono ?_; rintro e w1 ⟨rfl, v1, hs, hm⟩)
 (first | go_end0 | refine bodyPost_ret (results_none rfl _ _ _) rfl ?_)
 exact ⟨rfl, _, hs, hm⟩
theorem emeth3_any (R B : Nat) (v : Value) (s : Option (List UInt8)) (m : M) (v1 v2 v3 v4 v5 v6 v7 v8 v9 v10 : Value) (w : World) (h : WS w R v s) (hm : w.heap[B]? = some (.cells (modCells m v1 v2 v3 v4 v5 v6 v7 v8 v9 v10) 33 (0, 0))) (hM : RepM w (· < R) m v1 v2 v3 v4 v5 v6 v7 v8 v9 v10) :
  Calls Tryz.prog 51 #[.pointer (some ⟨B, 0, none⟩), .pointer (some ⟨R, 0, none⟩)] w (ab R w v (adv s (okB m 3) (body m 3))) := by
 obtain ⟨A, c, rfl, hc, hcm, _, hX⟩ := hM.funcs
 have HC : Hid (Calls Tryz.prog 95 #[.pointer (some ⟨R, 0, none⟩), .slice A m.funcs.length c, .func (.func 96) #[.pointer (some ⟨R, 0, none⟩)] #[]] w (ab R w v (adv s (okB m 3) (body m 3)))) := Y (f8 R v s A m.funcs _ c w h hX rfl (aZ hc hcm))
 have h0 : w.cell? ⟨B, 2, none⟩ = some (.slice A m.funcs.length c) := by rw [cell_of_row w B 2 _ _ (0, 0) hm]; rfl
 generalize m.funcs.length = n at h0 HC
 clear hm hM hX hc hcm h
 go_enter Tryz.func51, Tryz.ntmps51
 go_wp2_with (go_at_call 95; refine HC.out.mono ?_; rintro e w1 ⟨rfl, v1, hs, hm⟩)
 (first | go_end0 | refine bodyPost_ret (results_none rfl _ _ _) rfl ?_)
 exact ⟨rfl, _, hs, hm⟩
theorem emeth4_any (R B : Nat) (v : Value) (s : Option (List UInt8)) (m : M) (v1 v2 v3 v4 v5 v6 v7 v8 v9 v10 : Value) (w : World) (h : WS w R v s) (hm : w.heap[B]? = some (.cells (modCells m v1 v2 v3 v4 v5 v6 v7 v8 v9 v10) 33 (0, 0))) (hM : RepM w (· < R) m v1 v2 v3 v4 v5 v6 v7 v8 v9 v10) :
  Calls Tryz.prog 52 #[.pointer (some ⟨B, 0, none⟩), .pointer (some ⟨R, 0, none⟩)] w (ab R w v (adv s (okB m 4) (body m 4))) := by
 obtain ⟨A, c, rfl, hc, hcm, _, hX⟩ := hM.tables
 have HC : Hid (Calls Tryz.prog 97 #[.pointer (some ⟨R, 0, none⟩), .slice A m.tables.length c, .func (.func 98) #[.pointer (some ⟨R, 0, none⟩)] #[]] w (ab R w v (adv s (okB m 4) (body m 4)))) := Y (eltabs_any R v s A m.tables _ c w h hX rfl (aZ hc hcm))
 have h0 : w.cell? ⟨B, 3, none⟩ = some (.slice A m.tables.length c) := by rw [cell_of_row w B 3 _ _ (0, 0) hm]; rfl
 generalize m.tables.length = n at h0 HC
 clear hm hM hX hc hcm h
 go_enter Tryz.func52, Tryz.ntmps52
 go_wp2_with (go_at_call 97; refine HC.out.mono ?_; rintro e w1 ⟨rfl, v1, hs, hm⟩)
 (first | go_end0 | refine bodyPost_ret (results_none rfl _ _ _) rfl ?_)
 exact ⟨rfl, _, hs, hm⟩
theorem emeth5_any (R B : Nat) (v : Value) (s : Option (List UInt8)) (m : M) (v1 v2 v3 v4 v5 v6 v7 v8 v9 v10 : Value) (w : World) (h : WS w R v s) (hm : w.heap[B]? = some (.cells (modCells m v1 v2 v3 v4 v5 v6 v7 v8 v9 v10) 33 (0, 0))) (hM : RepM w (· < R) m v1 v2 v3 v4 v5 v6 v7 v8 v9 v10) :
  Calls Tryz.prog 53 #[.pointer (some ⟨B, 0, none⟩), .pointer (some ⟨R, 0, none⟩)] w (ab R w v (adv s (okB m 5) (body m 5))) := by
 obtain ⟨A, c, rfl, hc, hcm, _, hX⟩ := hM.mems
 have HC : Hid (Calls Tryz.prog 97 #[.pointer (some ⟨R, 0, none⟩), .slice A m.mems.length c, .func (.func 99) #[.pointer (some ⟨R, 0, none⟩)] #[]] w (ab R w v (adv s (okB m 5) (body m 5)))) := Y (ellims_any R v s A m.mems _ c w h hX rfl (aZ hc hcm))
 have h0 : w.cell? ⟨B, 4, none⟩ = some (.slice A m.mems.length c) := by rw [cell_of_row w B 4 _ _ (0, 0) hm]; rfl
 generalize m.mems.length = n at h0 HC
 clear hm hM hX hc hcm h
 go_enter Tryz.func53, Tryz.ntmps53
 go_wp2_with (go_at_call 97; refine HC.out.mono ?_; rintro e w1 ⟨rfl, v1, hs, hm⟩)
 (first | go_end0 | refine bodyPost_ret (results_none rfl _ _ _) rfl ?_)
 exact ⟨rfl, _, hs, hm⟩
theorem emeth6_any (R B : Nat) (v : Value) (s : Option (List UInt8)) (m : M) (v1 v2 v3 v4 v5 v6 v7 v8 v9 v10 : Value) (w : World) (h : WS w R v s) (hm : w.heap[B]? = some (.cells (modCells m v1 v2 v3 v4 v5 v6 v7 v8 v9 v10) 33 (0, 0))) (hM : RepM w (· < R) m v1 v2 v3 v4 v5 v6 v7 v8 v9 v10) (hF : FitM m) :
  Calls Tryz.prog 54 #[.pointer (some ⟨B, 0, none⟩), .pointer (some ⟨R, 0, none⟩)] w (ab R w v (adv s (okB m 6) (body m 6))) := by
 obtain ⟨A, c, rfl, hc, hcm, _, hX⟩ := hM.globals
 have HC : Hid (Calls Tryz.prog 100 #[.pointer (some ⟨R, 0, none⟩), .slice A m.globals.length c, .func (.func 101) #[.pointer (some ⟨R, 0, none⟩)] #[]] w (ab R w v (adv s (okB m 6) (body m 6)))) := Y (elgvs_any R v s A m.globals _ c w h hX rfl (aZ hc hcm) hF.globals)
 have h0 : w.cell? ⟨B, 5, none⟩ = some (.slice A m.globals.length c) := by rw [cell_of_row w B 5 _ _ (0, 0) hm]; rfl
 generalize m.globals.length = n at h0 HC
 clear hm hM hX hc hcm h hF
 go_enter Tryz.func54, Tryz.ntmps54
 go_wp2_with (go_at_call 100; refine HC.out.mono ?_; rintro e w1 ⟨rfl, v1, hs, hm⟩)
 (first | go_end0 | refine bodyPost_ret (results_none rfl _ _ _) rfl ?_)
 exact ⟨rfl, _, hs, hm⟩
theorem emeth7_any (R B : Nat) (v : Value) (s : Option (List UInt8)) (m : M) (v1 v2 v3 v4 v5 v6 v7 v8 v9 v10 : Value) (w : World) (h : WS w R v s) (hm : w.heap[B]? = some (.cells (modCells m v1 v2 v3 v4 v5 v6 v7 v8 v9 v10) 33 (0, 0))) (hM : RepM w (· < R) m v1 v2 v3 v4 v5 v6 v7 v8 v9 v10) (hF : FitM m) (hT : Tb w) :
  Calls Tryz.prog 55 #[.pointer (some ⟨B, 0, none⟩), .pointer (some ⟨R, 0, none⟩)] w (ab R w v (adv s (okB m 7) (body m 7))) := by
 obtain ⟨A, c, rfl, hc, hcm, _, hX⟩ := hM.exports
 have HC : Hid (Calls Tryz.prog 102 #[.pointer (some ⟨R, 0, none⟩), .slice A m.exports.length c, .func (.func 103) #[.pointer (some ⟨R, 0, none⟩)] #[]] w (ab R w v (adv s (okB m 7) (body m 7)))) := Y (elexps_any R v s A m.exports _ c w h hX rfl (aZ hc hcm) hF.exports hT)
 have h0 : w.cell? ⟨B, 6, none⟩ = some (.slice A m.exports.length c) := by rw [cell_of_row w B 6 _ _ (0, 0) hm]; rfl
 generalize m.exports.length = n at h0 HC
 clear hm hM hX hc hcm h hF hT
 go_enter Tryz.func55, Tryz.ntmps55
 go_wp2_with (go_at_call 102; refine HC.out.mono ?_; rintro e w1 ⟨rfl, v1, hs, hm⟩)
 (first | go_end0 | refine bodyPost_ret (results_none rfl _ _ _) rfl ?_)
 exact ⟨rfl, _, hs, hm⟩
theorem emeth9_any (R B : Nat) (v : Value) (s : Option (List UInt8)) (m : M) (v1 v2 v3 v4 v5 v6 v7 v8 v9 v10 : Value) (w : World) (h : WS w R v s) (hm : w.heap[B]? = some (.cells (modCells m v1 v2 v3 v4 v5 v6 v7 v8 v9 v10) 33 (0, 0))) (hM : RepM w (· < R) m v1 v2 v3 v4 v5 v6 v7 v8 v9 v10) (hF : FitM m) :
  Calls Tryz.prog 57 #[.pointer (some ⟨B, 0, none⟩), .pointer (some ⟨R, 0, none⟩)] w (ab R w v (adv s (okB m 9) (body m 9))) := by
 obtain ⟨A, c, rfl, hc, hcm, _, hX⟩ := hM.elems
 have HC : Hid (Calls Tryz.prog 104 #[.pointer (some ⟨R, 0, none⟩), .slice A m.elems.length c, .func (.func 105) #[.pointer (some ⟨R, 0, none⟩)] #[]] w (ab R w v (adv s (okB m 9) (body m 9)))) := Y (elels_any R v s A m.elems _ c w h hX rfl (aZ hc hcm) hF.elems)
 have h0 : w.cell? ⟨B, 9, none⟩ = some (.slice A m.elems.length c) := by rw [cell_of_row w B 9 _ _ (0, 0) hm]; rfl
 generalize m.elems.length = n at h0 HC
 clear hm hM hX hc hcm h hF
 go_enter Tryz.func57, Tryz.ntmps57
 go_wp2_with (go_at_call 104; refine HC.out.mono ?_; rintro e w1 ⟨rfl, v1, hs, hm⟩)
 (first | go_end0 | refine bodyPost_ret (results_none rfl _ _ _) rfl ?_)
 exact ⟨rfl, _, hs, hm⟩
theorem emeth10_any (R B : Nat) (v : Value) (s : Option (List UInt8)) (m : M) (v1 v2 v3 v4 v5 v6 v7 v8 v9 v10 : Value) (w : World) (h : WS w R v s) (hm : w.heap[B]? = some (.cells (modCells m v1 v2 v3 v4 v5 v6 v7 v8 v9 v10) 33 (0, 0))) (hM : RepM w (· < R) m v1 v2 v3 v4 v5 v6 v7 v8 v9 v10) (hF : FitM m) :
  Calls Tryz.prog 58 #[.pointer (some ⟨B, 0, none⟩), .pointer (some ⟨R, 0, none⟩)] w (ab R w v (adv s (okB m 10) (body m 10))) := by
 obtain ⟨A, c, rfl, hc, hcm, _, hX⟩ := hM.codes
 have HC : Hid (Calls Tryz.prog 106 #[.pointer (some ⟨R, 0, none⟩), .slice A m.codes.length c, .func (.func 107) #[.pointer (some ⟨R, 0, none⟩)] #[]] w (ab R w v (adv s (okB m 10) (body m 10)))) := Y (elcds_any R v s A m.codes _ c w h hX rfl (aZ hc hcm) hF.codes)
 have h0 : w.cell? ⟨B, 10, none⟩ = some (.slice A m.codes.length c) := by rw [cell_of_row w B 10 _ _ (0, 0) hm]; rfl
 generalize m.codes.length = n at h0 HC
 clear hm hM hX hc hcm h hF
 go_enter Tryz.func58, Tryz.ntmps58
 go_wp2_with (go_at_call 106; refine HC.out.mono ?_; rintro e w1 ⟨rfl, v1, hs, hm⟩)
 (first | go_end0 | refine bodyPost_ret (results_none rfl _ _ _) rfl ?_)
 exact ⟨rfl, _, hs, hm⟩
theorem emeth11_any (R B : Nat) (v : Value) (s : Option (List UInt8)) (m : M) (v1 v2 v3 v4 v5 v6 v7 v8 v9 v10 : Value) (w : World) (h : WS w R v s) (hm : w.heap[B]? = some (.cells (modCells m v1 v2 v3 v4 v5 v6 v7 v8 v9 v10) 33 (0, 0))) (hM : RepM w (· < R) m v1 v2 v3 v4 v5 v6 v7 v8 v9 v10) (hF : FitM m) :
  Calls Tryz.prog 59 #[.pointer (some ⟨B, 0, none⟩), .pointer (some ⟨R, 0, none⟩)] w (ab R w v (adv s (okB m 11) (body m 11))) := by
 obtain ⟨A, c, rfl, hc, hcm, _, hX⟩ := hM.datas
 have HC : Hid (Calls Tryz.prog 108 #[.pointer (some ⟨R, 0, none⟩), .slice A m.datas.length c, .func (.func 109) #[.pointer (some ⟨R, 0, none⟩)] #[]] w (ab R w v (adv s (okB m 11) (body m 11)))) := Y (eldas_any R v s A m.datas _ c w h hX rfl (aZ hc hcm) hF.datas)
 have h0 : w.cell? ⟨B, 11, none⟩ = some (.slice A m.datas.length c) := by rw [cell_of_row w B 11 _ _ (0, 0) hm]; rfl
 generalize m.datas.length = n at h0 HC
 clear hm hM hX hc hcm h hF
 go_enter Tryz.func59, Tryz.ntmps59
 go_wp2_with (go_at_call 108; refine HC.out.mono ?_; rintro e w1 ⟨rfl, v1, hs, hm⟩)
 (first | go_end0 | refine bodyPost_ret (results_none rfl _ _ _) rfl ?_)
 exact ⟨rfl, _, hs, hm⟩
theorem emeth8_any (R B : Nat) (v : Value) (s : Option (List UInt8)) (m : M) (v1 v2 v3 v4 v5 v6 v7 v8 v9 v10 : Value) (w : World) (h : WS w R v s) (hm : w.heap[B]? = some (.cells (modCells m v1 v2 v3 v4 v5 v6 v7 v8 v9 v10) 33 (0, 0))) (hM : RepM w (· < R) m v1 v2 v3 v4 v5 v6 v7 v8 v9 v10) :
  Calls Tryz.prog 56 #[.pointer (some ⟨B, 0, none⟩), .pointer (some ⟨R, 0, none⟩)] w (ab R w v (adv s (okB m 8) (body m 8))) := by
 have hst := hM.start
 have HC : Hid (Calls Tryz.prog 96 #[.pointer (some ⟨R, 0, none⟩), .int .u32 (m.start : Int)] w (ab R w v (adv s (okB m 8) (body m 8)))) := Y (by
  have h1 := aU R v s m.start w h hst
  have e : adv s True (Leb.encU m.start) = adv s (okB m 8) (body m 8) := aj (by show True ↔ okNum m.start; simp [okNum, hst]) (fun _ => rfl)
  rw [e] at h1
  exact h1)
 have h0 : w.cell? ⟨B, 8, none⟩ = some (.int .u32 (m.start : Int)) := by rw [cell_of_row w B 8 _ _ (0, 0) hm]; rfl
 generalize m.start = n at h0 HC
 clear hm hM hst h
 go_enter Tryz.func56, Tryz.ntmps56
 go_wp2_with (go_at_call 96; refine HC.out.mono ?_; rintro e w1 ⟨rfl, v1, hs, hm⟩)
 (first | go_end0 | refine bodyPost_ret (results_none rfl _ _ _) rfl ?_)
 exact ⟨rfl, _, hs, hm⟩
end Go.Proofs.YthkglmkpnhhboaaGreatDoor
