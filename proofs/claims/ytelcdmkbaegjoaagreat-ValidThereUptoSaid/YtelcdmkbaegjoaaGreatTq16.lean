/-
  AppendExpr: the bytes of instructions one behind the other, and an end, in a row of the call's own; or that they are no expression's.
-/
import Derived.Test.YtelcdmkbaegjoaaGreatTq01
import Derived.Test.YtelcdmkbaegjoaaGreatTq15
import Derived.Test.YtelcdmkbaegjoaaGreatTq02
import Derived.Test.YtelcdmkbaegjoaaGreatTq12
import Derived.Test.YtelcdmkbaegjoaaGreatTq14
import Derived.Deep.Cut
set_option maxRecDepth 100000
set_option maxHeartbeats 4000000
namespace Go.Proofs.YtelcdmkbaegjoaaGreat
open Go.RowKit Ins
def cq (l : List UInt8) (xs : List I) (w : World) (e : Ending) (w' : World) : Prop :=
 if exprB xs = true then ∃ v, e = .returned (.tuple #[v, .int .i64 0]) ∧ w'.ownsRow w.heap.size 5 1 v (l ++ exprEnc xs).length (bytesOf (l ++ exprEnc xs)) ∧ Below w.heap.size w w'
 else e = .returned (.tuple #[.slice none 0 0, .int .i64 2]) ∧ Below w.heap.size w w'
theorem cS {l : List UInt8} {xs : List I} {w w' : World} (h : exprB xs = false) (hb : Below w.heap.size w w') : cq l xs w (.returned (.tuple #[.slice none 0 0, .int .i64 2])) w' := by
 unfold cq
 rw [h]
 exact ⟨rfl, hb⟩
theorem dl (A : Option Addr) (l : List UInt8) (c : Nat) (B : Option Addr) (xs : List I) (cx : Nat) (w : World) (hA : Has w w.heap.size A l) (hX : HasI w (· < w.heap.size) B xs) (hxl : ∀ x ∈ xs, x.l.length < 4294967296) (hsz : l.length + 10 * tot xs ≤ 10000000000000) :
  Calls Tryz.prog 45 #[.slice A l.length c, .slice B xs.length cx] w (cq l xs w) := by
 have hwfs := hX.wf
 have htl := eC xs
 have HOW := J (own_any A l c w hA (by omega))
 have HX := J hX
 have HWF := J hwfs
 have HXL := J hxl
 obtain ⟨n, hn⟩ : ∃ n, xs.length = n := ⟨_, rfl⟩
 rw [hn] at htl ⊢
 have HN := J hn
 clear hA hX hwfs hxl hn
 go_enter Tryz.func45, Tryz.ntmps45
 go_upto_region 3 with (go_at_call 66; refine HOW.out.mono ?_; rintro e w1 ⟨v1, rfl, ho1, hb1⟩; have HO1 := J ho1; have HB1 := J hb1; clear ho1 hb1)
 have hs1 := HB1.out.size
 have HK1 : Hid (aQ (w1.alloc (.cells #[.slice none 0 0] 137)) w1.heap.size w.heap.size [] none) := J ⟨.slice none 0 0, 0, heap_alloc_new w1 _, World.ownsRow_nil _ _ _ _, rfl, by simp⟩
 have HO2 : Hid ((w1.alloc (.cells #[.slice none 0 0] 137)).ownsRow w.heap.size 5 1 v1 l.length (bytesOf l)) := J (HO1.out.alloc _)
 have HB2 : Hid (Below w.heap.size w (w1.alloc (.cells #[.slice none 0 0] 137))) := J (HB1.out.alloc hs1 _)
 have HV1 : Hid (v1.ownBlock ≠ some w1.heap.size) := J (fun e => by have := (HO1.out.lt _ e).2; omega)
 obtain ⟨K, hK⟩ : ∃ K, K = w1.heap.size := ⟨_, rfl⟩
 rw [← hK] at HK1 HV1 ⊢
 have hKw : w.heap.size ≤ K := by omega
 clear hK HO1 HB1 hs1 HOW
 generalize w1.alloc (.cells #[.slice none 0 0] 137) = w2 at HK1 HO2 HB2 ⊢
 go_wp2_with fail
 go_loopw [6, 14] (fun v i wr => ∃ (j : Nat) (out : List UInt8) (o : List Bool) (own : Option Nat), j ≤ n ∧ i = .int .i64 (j : Int) ∧ Hid (out = l ++ encAll (xs.take j)) ∧ out.length ≤ l.length + 10 * tot (xs.take j) ∧ Hid (wr.ownsRow w.heap.size 5 1 v out.length (bytesOf out)) ∧ Hid (aQ wr K w.heap.size o own) ∧ Hid (v.ownBlock ≠ some K ∧ ∀ g, own = some g → v.ownBlock ≠ some g) ∧ o.length ≤ j ∧ Hid (Below w.heap.size w wr) ∧ Hid ((xs.take j).all may = true ∧ steps [] (xs.take j) = some o)) (fun _ i _ => n - (intOf i).toNat)
 case atStart => exact ⟨0, l, [], none, by omega, rfl, J (by simp [encAll]), by simp, HO2, HK1, J ⟨HV1.out, fun g h => by cases h⟩, by simp, HB2, J ⟨rfl, rfl⟩⟩
 case round =>
  obtain ⟨j, out, o, own, hj, rfl, HD, hol, HO, HB, HV, hoj, HBW, HE⟩ := hrel
  by_cases hjn : j < n
  ·obtain ⟨x, hx⟩ : ∃ x, xs[j]? = some x := ⟨_, List.getElem?_eq_getElem (by have := HN.out; omega)⟩
   have hwx := HWF.out x (List.mem_of_getElem? hx)
   have hxx := HXL.out x (List.mem_of_getElem? hx)
   have htt := tot_take hx
   have htl2 := df xs (j + 1)
   have hel := enc_le x hwx hxx
   have hjtot := eC (xs.take j)
   obtain ⟨g, oo, A4, c4, rfl, hgB, _, hlc, hcm, hU, hcells⟩ := HX.out j x hx
   have hji : (j : Int) < (n : Int) := by omega
   have HXJ := J hx
   have HEA := J (encAll_take hx)
   have HSM := J (fun (h : may x = false) => exprB_may hx h)
   have HSN := J (fun (h : Ins.step o x.op = none) => exprB_step HE.out.2 hx h)
   have HSS := J (fun (o' : List Bool) (h : Ins.step o x.op = some o') => steps_next HE.out.2 hx h)
   have HALL := J (fun (h : may x = true) => all_take HE.out.1 hx h)
   obtain ⟨ys, hys⟩ : ∃ ys, ys = encAll (xs.take (j + 1)) := ⟨_, rfl⟩
   clear hx
   obtain ⟨op, xa, xb, xc, xl⟩ := x
   have k0 : wr.cell? ⟨g, oo + j * 5, none⟩ = some (.int .u8 (op : Int)) := (HBW.out.cell hgB).trans (hcells 0 _ rfl)
   have k1 : wr.cell? ⟨g, oo + j * 5 + 1, none⟩ = some (.int .u32 (xa : Int)) := (HBW.out.cell hgB).trans (hcells 1 _ rfl)
   have k2 : wr.cell? ⟨g, oo + j * 5 + 2, none⟩ = some (.int .u32 (xb : Int)) := (HBW.out.cell hgB).trans (hcells 2 _ rfl)
   have k3 : wr.cell? ⟨g, oo + j * 5 + 3, none⟩ = some (.int .i64 xc) := (HBW.out.cell hgB).trans (hcells 3 _ rfl)
   have k4 : wr.cell? ⟨g, oo + j * 5 + 4, none⟩ = some (.slice A4 xl.length c4) := (HBW.out.cell hgB).trans (hcells 4 _ rfl)
   have HU := J hU
   have HWX := J hwx
   have HLC := J hlc
   have HCM := J hcm
   have hrs := HBW.out.size
   clear hcells hU hwx hlc hcm hys
   go_upto_region 6 with (fail)
   have hKr := HB.out.own_lt.1
   have HX3 : Hid ((wr.alloc (.cells #[.int .u8 (op : Int), .int .u32 (xa : Int), .int .u32 (xb : Int), .int .i64 xc, .slice A4 xl.length c4] 57)).heap[wr.heap.size]? = some (.cells #[.int .u8 (op : Int), .int .u32 (xa : Int), .int .u32 (xb : Int), .int .i64 xc, .slice A4 xl.length c4] 57 (0, 0))) := J (heap_alloc_new wr _)
   have HM3 : Hid (Below wr.heap.size wr (wr.alloc (.cells #[.int .u8 (op : Int), .int .u32 (xa : Int), .int .u32 (xb : Int), .int .i64 xc, .slice A4 xl.length c4] 57))) := J ((Below.refl _ _).alloc (Nat.le_refl _) _)
   have hs3 : wr.heap.size < (wr.alloc (.cells #[.int .u8 (op : Int), .int .u32 (xa : Int), .int .u32 (xb : Int), .int .i64 xc, .slice A4 xl.length c4] 57)).heap.size := by simp
   obtain ⟨X, hX⟩ : ∃ X, X = wr.heap.size := ⟨_, rfl⟩
   rw [← hX] at HX3 hs3 ⊢
   have HXX := J hX
   have hXK : K < X := by omega
   have hXw : w.heap.size ≤ X := by omega
   clear hX
   generalize wr.alloc (.cells #[.int .u8 (op : Int), .int .u32 (xa : Int), .int .u32 (xb : Int), .int .i64 xc, .slice A4 xl.length c4] 57) = w3 at HX3 HM3 hs3 ⊢
   obtain ⟨z0, z1, z2, z3, z4⟩ := cells5 HX3.out
   have HM3' : Hid (Mod (fun _ => False) wr w3) := J (Mod.of_below HM3.out)
   have HB3 := J (HB.out.mod HM3'.out (fun h => h) (fun _ _ h => h))
   have HO3 := J (HM3'.out.own HO.out (fun _ _ h => h))
   have HVL := J (fun g (h : u6.ownBlock = some g) => HO.out.lt g h)
   have HWL := J (HB.out.own_lt.2)
   have HBW3 := J (HBW.out.trans (HM3.out.mono hrs))
   have HFT := J (fits_any ⟨op, xa, xb, xc, xl⟩ A4 c4 w3 HWX.out)
   simp only [insVal, insCells] at HFT
   cases hm : may ⟨op, xa, xb, xc, xl⟩ with
   | false =>
    rw [hm] at HFT
    have HNO := J (HSM.out hm)
    clear hm
    go_wp2_with (go_at_call 67; refine HFT.out.mono ?_; rintro e w4 ⟨rfl, hb4⟩; have HB4 := J (HBW3.out.trans (hb4.mono (by omega))); clear hb4)
    go_ret2
    exact cS HNO.out HB4.out
   | true =>
    rw [hm] at HFT
    have HMAY := J hm
    clear hm
    have HP := J (fun W (hB : aQ W K w.heap.size o own) (hb : w.heap.size ≤ W.heap.size) => pass_any K w.heap.size o own op W hB hb (by omega))
    cases hs : Ins.step o op with
    | none =>
     have HNO := J (HSN.out hs)
     have HST := J hs
     clear hs
     go_wp2_with (first | (go_at_call 67; refine HFT.out.mono ?_; rintro e w4 ⟨rfl, hb4⟩; have HM4 := J (Mod.of_below (T := fun _ => False) hb4); have HB4 := J (HBW3.out.trans (hb4.mono (by omega))); have HL4 := J (HB3.out.mod HM4.out (fun h => h) (fun _ _ h => h)); obtain ⟨q0, q1, q2, q3, q4⟩ := cells5 (HM4.out.heap HX3.out (fun h => h)); have hs4 := hb4.size; clear hb4) | (go_at_call 68; refine (HP.out _ HL4.out (by omega)).mono ?_; rintro e w5 ⟨he, hm5, _⟩; rw [HST.out] at he; obtain rfl : e = .returned (.bool false) := he; have HM5 := J hm5; clear hm5))
     go_ret2
     refine cS HNO.out (HB4.out.trans (HM5.out.below (by omega) (fun k hk e => ?_)))
     rcases e with e | e
     ·omega
     ·have := (HWL.out k e).1; omega
    | some o' =>
     have HST := J hs
     have hsl := step_length hs
     have HSO := J (HSS.out o' hs)
     have HAL := J (HALL.out HMAY.out)
     clear hs
     go_upto_region 8 with (first | (go_at_call 67; refine HFT.out.mono ?_; rintro e w4 ⟨rfl, hb4⟩; have HM4 := J (Mod.of_below (T := fun _ => False) hb4); have HB4 := J (HBW3.out.trans (hb4.mono (by omega))); have HL4 := J (HB3.out.mod HM4.out (fun h => h) (fun _ _ h => h)); obtain ⟨q0, q1, q2, q3, q4⟩ := cells5 (HM4.out.heap HX3.out (fun h => h)); have hs4 := hb4.size; clear hb4) | (go_at_call 68; refine (HP.out _ HL4.out (by omega)).mono ?_; rintro e w5 ⟨he, hm5, hst5⟩; rw [HST.out] at he; obtain rfl : e = .returned (.bool true) := he; have HM5 := J hm5; have HST5 := J hst5; clear hm5 hst5))
     obtain ⟨own', hL5, ht5⟩ := HST5.out o' HST.out
     have hs5 := HM5.out.size
     have hX5 := HM5.out.heap (HM4.out.heap HX3.out (fun h => h)) (fun h => by
      rcases h with h | h
      ·omega
      ·have := (HWL.out X h).2; have := HXX.out; omega)
     obtain ⟨y0, y1, y2, y3, y4⟩ := cells5 hX5
     have hO5 := HM5.out.own (HM4.out.own HO3.out (fun _ _ h => h)) (fun g hg e => by
      rcases e with e | e
      ·exact HV.out.1 (by rw [hg, e])
      ·exact HV.out.2 g e hg)
     have hU5 : HasU w5 (· < w.heap.size) A4 xl := by
      have h1 : HasU w3 (· < w.heap.size) A4 xl := HU.out.mod (Mod.of_base HBW3.out) (fun g _ h e => Nat.lt_irrefl _ (Nat.lt_of_lt_of_le h e))
      refine (h1.mod HM4.out (fun _ _ _ h => h)).mod HM5.out (fun g _ h e => ?_)
      have h : g < w.heap.size := h
      rcases e with e | e
      ·omega
      ·have := (HWL.out g e).1; omega
     have HPT := J (put_any w.heap.size u6 out (· < w.heap.size) (insVal ⟨op, xa, xb, xc, xl⟩ A4 c4) ⟨op, xa, xb, xc, xl⟩ w5 hO5 (by omega) ⟨A4, c4, rfl, HWX.out, HLC.out, HCM.out, hU5⟩ (fun g h e => by have := (HVL.out g e).1; omega) HMAY.out hxx (by simp only at htt ⊢; omega))
     simp only [insVal, insCells] at HPT
     have HL5 := J hL5
     have HT5 := J ht5
     clear hO5 hU5 hL5 ht5 HST5 hX5
     obtain ⟨EX, hEX⟩ : ∃ EX, EX = enc ⟨op, xa, xb, xc, xl⟩ := ⟨_, rfl⟩
     rw [← hEX] at HPT HEA hel
     clear hEX
     go_wp2_with (go_at_call 69; refine HPT.out.mono ?_; rintro e w6 ⟨v6, rfl, ha6⟩; have HA6 := J ha6; clear ha6)
     go_roundw
     case rel =>
      have hvk : v6.ownBlock ≠ some K := fun e => by
       rcases HA6.out.2.2 K e with h | h
       ·exact HV.out.1 h
       ·omega
      have hdis : ∀ g, own' = some g → u6.ownBlock ≠ some g := fun g e e2 => by
       rcases HT5.out g e with h | h
       ·exact HV.out.2 g h e2
       ·have := (HVL.out g e2).2; have := HXX.out; omega
      refine ⟨j + 1, out ++ EX, o', own', by omega, by go_num, J (by rw [HD.out, HEA.out]; simp), by rw [List.length_append, htt]; omega, J HA6.out.1, J (HL5.out.mod HA6.out.2.1 (fun e => HV.out.1 e) (fun g e => hdis g e)), J ⟨hvk, fun g e e2 => ?_⟩, by omega, J ?_, J ⟨HAL.out, HSO.out⟩⟩
      ·rcases HA6.out.2.2 g e2 with h | h
       ·exact hdis g e h
       ·have := (HL5.out.own_lt.2 g e).2; omega
      ·refine (HB4.out.trans (HM5.out.below (by omega) (fun k hk e => ?_))).trans (HA6.out.2.1.below (by omega) (fun k hk e => ?_))
       ·rcases e with e | e
        ·omega
        ·have := (HWL.out k e).1; omega
       ·have := (HVL.out k e).1; omega
     case measure => simp [intOf]; omega
  ·obtain rfl : j = n := by omega
   have htk : xs.take j = xs := by rw [← HN.out]; exact List.take_length
   have HTK := J htk
   clear htk
   obtain ⟨A5, c5, kK, hoc, hcm5⟩ := blocks_cell HB.out
   unfold maxLen at hcm5
   have hrs := HBW.out.size
   by_cases h0 : o = []
   ·subst h0
    have hex : exprB xs = true := by
     have h1 := HE.out
     rw [HTK.out] at h1
     unfold exprB
     rw [h1.1, h1.2]
     rfl
    have hle := df xs j
    obtain ⟨v2, w3, hr3, ha3⟩ := aq wr w.heap.size u6 out 11 HO.out (by omega) hrs
    have HR3 := J hr3
    have HA3 := J ha3
    have HVL := J (fun g (h : u6.ownBlock = some g) => HO.out.lt g h)
    have HEX := J hex
    clear hr3 ha3 hex
    go_wp2_with (at_builtin; refine ag rfl (.tmp 34) (.tmp 35) 49 rfl _ _ _ w3 rfl rfl HR3.out ?_)
    go_ret2
    unfold cq
    rw [HEX.out, if_pos rfl]
    have e : out ++ [11] = l ++ exprEnc xs := by rw [HD.out, HTK.out]; simp [exprEnc]
    have h1 := HA3.out.1
    rw [e] at h1
    exact ⟨_, rfl, h1, HBW.out.trans (HA3.out.2.1.below hrs (fun k hk e => by have := (HVL.out k e).1; omega))⟩
   ·have hex : exprB xs = false := by
     have h1 := HE.out
     rw [HTK.out] at h1
     unfold exprB
     rw [h1.1, h1.2]
     simp [h0]
    have HEX := J hex
    have hpos : (0 : Int) < (o.length : Int) := by have := List.length_pos_iff.2 h0; omega
    clear hex h0
    go_wp2_with fail
    go_ret2
    exact cS HEX.out HBW.out
end Go.Proofs.YtelcdmkbaegjoaaGreat
