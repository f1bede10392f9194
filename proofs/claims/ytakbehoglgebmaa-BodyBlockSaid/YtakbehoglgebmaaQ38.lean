/-
  AppendExpr: the bytes of instructions one behind the other, and an end, in a row of the call's own; or that they are no expression's.
-/
import Derived.Test.YtakbehoglgebmaaQ36
import Derived.Test.YtakbehoglgebmaaQ03
import Derived.Test.YtakbehoglgebmaaQ37
import Derived.Test.YtakbehoglgebmaaQ35
import Derived.Deep.Cut
namespace Go.Proofs.Ytakbehoglgebmaa
open Go.RowKit Ins
/-- What a call of AppendExpr comes to. -/
def AEPost (l : List UInt8) (xs : List I) (w : World) (e : Ending) (w' : World) : Prop :=
  if exprB xs = true then ∃ v, e = .returned (.tuple #[v, .int .i64 0]) ∧ w'.ownsRow w.heap.size 5 1 v (l ++ exprEnc xs).length (bytesOf (l ++ exprEnc xs)) ∧ Below w.heap.size w w'
  else e = .returned (.tuple #[.slice none 0 0, .int .i64 2]) ∧ Below w.heap.size w w'
theorem aePost_no {l : List UInt8} {xs : List I} {w w' : World} (h : exprB xs = false) (hb : Below w.heap.size w w') : AEPost l xs w (.returned (.tuple #[.slice none 0 0, .int .i64 2])) w' := by
  unfold AEPost
  rw [h]
  exact ⟨rfl, hb⟩
set_option maxRecDepth 100000 in
set_option maxHeartbeats 4000000 in
theorem appendExpr_any (A : Option Addr) (l : List UInt8) (c : Nat) (B : Option Addr) (xs : List I) (cx : Nat) (w : World) (hA : Has w w.heap.size A l) (hX : HasI w (· < w.heap.size) B xs) (hxl : ∀ x ∈ xs, x.l.length < 4294967296) (hsz : l.length + 10 * tot xs ≤ 10000000000000) :
    Calls Try.prog 25 #[.slice A l.length c, .slice B xs.length cx] w (AEPost l xs w) := by
  have hwfs := hX.wf
  have htl := tot_len xs
  have HOW := Lib.hid (own_any A l c w hA (by omega))
  have HX := Lib.hid hX
  have HWF := Lib.hid hwfs
  have HXL := Lib.hid hxl
  obtain ⟨n, hn⟩ : ∃ n, xs.length = n := ⟨_, rfl⟩
  rw [hn] at htl ⊢
  have HN := Lib.hid hn
  clear hA hX hwfs hxl hn
  go_enter Try.func25, Try.ntmps25
  go_upto_region 3 with (go_at_call 32; refine HOW.out.mono ?_; rintro e w1 ⟨v1, rfl, ho1, hb1⟩; have HO1 := Lib.hid ho1; have HB1 := Lib.hid hb1; clear ho1 hb1)
  have hs1 := HB1.out.size
  have HK1 : Hid (Blocks (w1.alloc (.cells #[.slice none 0 0] 108)) w1.heap.size w.heap.size [] none) := Lib.hid ⟨.slice none 0 0, 0, heap_alloc_new w1 _, World.ownsRow_nil _ _ _ _, rfl, by simp⟩
  have HO2 : Hid ((w1.alloc (.cells #[.slice none 0 0] 108)).ownsRow w.heap.size 5 1 v1 l.length (bytesOf l)) := Lib.hid (HO1.out.alloc _)
  have HB2 : Hid (Below w.heap.size w (w1.alloc (.cells #[.slice none 0 0] 108))) := Lib.hid (HB1.out.alloc hs1 _)
  have HV1 : Hid (v1.ownBlock ≠ some w1.heap.size) := Lib.hid (fun e => by have := (HO1.out.lt _ e).2; omega)
  obtain ⟨K, hK⟩ : ∃ K, K = w1.heap.size := ⟨_, rfl⟩
  rw [← hK] at HK1 HV1 ⊢
  have hKw : w.heap.size ≤ K := by omega
  clear hK HO1 HB1 hs1 HOW
  generalize w1.alloc (.cells #[.slice none 0 0] 108) = w2 at HK1 HO2 HB2 ⊢
  go_wp2_with fail
  go_loopw [6, 14] (fun v i wr => ∃ (j : Nat) (out : List UInt8) (o : List Bool) (own : Option Nat), j ≤ n ∧ i = .int .i64 (j : Int) ∧ Hid (out = l ++ encAll (xs.take j)) ∧ out.length ≤ l.length + 10 * tot (xs.take j) ∧ Hid (wr.ownsRow w.heap.size 5 1 v out.length (bytesOf out)) ∧ Hid (Blocks wr K w.heap.size o own) ∧ Hid (v.ownBlock ≠ some K ∧ ∀ g, own = some g → v.ownBlock ≠ some g) ∧ o.length ≤ j ∧ Hid (Below w.heap.size w wr) ∧ Hid ((xs.take j).all may = true ∧ steps [] (xs.take j) = some o)) (fun _ i _ => n - (intOf i).toNat)
  case atStart => exact ⟨0, l, [], none, by omega, rfl, Lib.hid (by simp [encAll]), by simp, HO2, HK1, Lib.hid ⟨HV1.out, fun g h => by cases h⟩, by simp, HB2, Lib.hid ⟨rfl, rfl⟩⟩
  case round =>
    obtain ⟨j, out, o, own, hj, rfl, HD, hol, HO, HB, HV, hoj, HBW, HE⟩ := hrel
    by_cases hjn : j < n
    · obtain ⟨x, hx⟩ : ∃ x, xs[j]? = some x := ⟨_, List.getElem?_eq_getElem (by have := HN.out; omega)⟩
      have hwx := HWF.out x (List.mem_of_getElem? hx)
      have hxx := HXL.out x (List.mem_of_getElem? hx)
      have htt := tot_take hx
      have htl2 := tot_take_le xs (j + 1)
      have hel := enc_le x hwx hxx
      have hjtot := tot_len (xs.take j)
      obtain ⟨g, oo, A4, c4, rfl, hgB, _, hlc, hcm, hU, hcells⟩ := HX.out j x hx
      have hji : (j : Int) < (n : Int) := by omega
      have HXJ := Lib.hid hx
      have HEA := Lib.hid (encAll_take hx)
      have HSM := Lib.hid (fun (h : may x = false) => exprB_may hx h)
      have HSN := Lib.hid (fun (h : Ins.step o x.op = none) => exprB_step HE.out.2 hx h)
      have HSS := Lib.hid (fun (o' : List Bool) (h : Ins.step o x.op = some o') => steps_next HE.out.2 hx h)
      have HALL := Lib.hid (fun (h : may x = true) => all_take HE.out.1 hx h)
      obtain ⟨ys, hys⟩ : ∃ ys, ys = encAll (xs.take (j + 1)) := ⟨_, rfl⟩
      clear hx
      obtain ⟨op, xa, xb, xc, xl⟩ := x
      have k0 : wr.cell? ⟨g, oo + j * 5, none⟩ = some (.int .u8 (op : Int)) := (HBW.out.cell hgB).trans (hcells 0 _ rfl)
      have k1 : wr.cell? ⟨g, oo + j * 5 + 1, none⟩ = some (.int .u32 (xa : Int)) := (HBW.out.cell hgB).trans (hcells 1 _ rfl)
      have k2 : wr.cell? ⟨g, oo + j * 5 + 2, none⟩ = some (.int .u32 (xb : Int)) := (HBW.out.cell hgB).trans (hcells 2 _ rfl)
      have k3 : wr.cell? ⟨g, oo + j * 5 + 3, none⟩ = some (.int .i64 xc) := (HBW.out.cell hgB).trans (hcells 3 _ rfl)
      have k4 : wr.cell? ⟨g, oo + j * 5 + 4, none⟩ = some (.slice A4 xl.length c4) := (HBW.out.cell hgB).trans (hcells 4 _ rfl)
      have HU := Lib.hid hU
      have HWX := Lib.hid hwx
      have HLC := Lib.hid hlc
      have HCM := Lib.hid hcm
      have hrs := HBW.out.size
      clear hcells hU hwx hlc hcm hys
      go_upto_region 6 with (fail)
      have hKr := HB.out.own_lt.1
      have HX3 : Hid ((wr.alloc (.cells #[.int .u8 (op : Int), .int .u32 (xa : Int), .int .u32 (xb : Int), .int .i64 xc, .slice A4 xl.length c4] 49)).heap[wr.heap.size]? = some (.cells #[.int .u8 (op : Int), .int .u32 (xa : Int), .int .u32 (xb : Int), .int .i64 xc, .slice A4 xl.length c4] 49 (0, 0))) := Lib.hid (heap_alloc_new wr _)
      have HM3 : Hid (Below wr.heap.size wr (wr.alloc (.cells #[.int .u8 (op : Int), .int .u32 (xa : Int), .int .u32 (xb : Int), .int .i64 xc, .slice A4 xl.length c4] 49))) := Lib.hid ((Below.refl _ _).alloc (Nat.le_refl _) _)
      have hs3 : wr.heap.size < (wr.alloc (.cells #[.int .u8 (op : Int), .int .u32 (xa : Int), .int .u32 (xb : Int), .int .i64 xc, .slice A4 xl.length c4] 49)).heap.size := by simp
      obtain ⟨X, hX⟩ : ∃ X, X = wr.heap.size := ⟨_, rfl⟩
      rw [← hX] at HX3 hs3 ⊢
      have HXX := Lib.hid hX
      have hXK : K < X := by omega
      have hXw : w.heap.size ≤ X := by omega
      clear hX
      generalize wr.alloc (.cells #[.int .u8 (op : Int), .int .u32 (xa : Int), .int .u32 (xb : Int), .int .i64 xc, .slice A4 xl.length c4] 49) = w3 at HX3 HM3 hs3 ⊢
      obtain ⟨z0, z1, z2, z3, z4⟩ := cells5 HX3.out
      have HM3' : Hid (Mod (fun _ => False) wr w3) := Lib.hid (Mod.of_below HM3.out)
      have HB3 := Lib.hid (HB.out.mod HM3'.out (fun h => h) (fun _ _ h => h))
      have HO3 := Lib.hid (HM3'.out.own HO.out (fun _ _ h => h))
      have HVL := Lib.hid (fun g (h : u6.ownBlock = some g) => HO.out.lt g h)
      have HWL := Lib.hid (HB.out.own_lt.2)
      have HBW3 := Lib.hid (HBW.out.trans (HM3.out.mono hrs))
      have HFT := Lib.hid (fits_any ⟨op, xa, xb, xc, xl⟩ A4 c4 w3 HWX.out)
      simp only [insVal, insCells] at HFT
      cases hm : may ⟨op, xa, xb, xc, xl⟩ with
      | false =>
        rw [hm] at HFT
        have HNO := Lib.hid (HSM.out hm)
        clear hm
        go_wp2_with (go_at_call 33; refine HFT.out.mono ?_; rintro e w4 ⟨rfl, hb4⟩; have HB4 := Lib.hid (HBW3.out.trans (hb4.mono (by omega))); clear hb4)
        go_ret2
        exact aePost_no HNO.out HB4.out
      | true =>
        rw [hm] at HFT
        have HMAY := Lib.hid hm
        clear hm
        have HP := Lib.hid (fun W (hB : Blocks W K w.heap.size o own) (hb : w.heap.size ≤ W.heap.size) => pass_any K w.heap.size o own op W hB hb (by omega))
        cases hs : Ins.step o op with
        | none =>
          have HNO := Lib.hid (HSN.out hs)
          have HST := Lib.hid hs
          clear hs
          go_wp2_with (first | (go_at_call 33; refine HFT.out.mono ?_; rintro e w4 ⟨rfl, hb4⟩; have HM4 := Lib.hid (Mod.of_below (T := fun _ => False) hb4); have HB4 := Lib.hid (HBW3.out.trans (hb4.mono (by omega))); have HL4 := Lib.hid (HB3.out.mod HM4.out (fun h => h) (fun _ _ h => h)); obtain ⟨q0, q1, q2, q3, q4⟩ := cells5 (HM4.out.heap HX3.out (fun h => h)); have hs4 := hb4.size; clear hb4) | (go_at_call 34; refine (HP.out _ HL4.out (by omega)).mono ?_; rintro e w5 ⟨he, hm5, _⟩; rw [HST.out] at he; obtain rfl : e = .returned (.bool false) := he; have HM5 := Lib.hid hm5; clear hm5))
          go_ret2
          refine aePost_no HNO.out (HB4.out.trans (HM5.out.below (by omega) (fun k hk e => ?_)))
          rcases e with e | e
          · omega
          · have := (HWL.out k e).1; omega
        | some o' =>
          have HST := Lib.hid hs
          have hsl := step_length hs
          have HSO := Lib.hid (HSS.out o' hs)
          have HAL := Lib.hid (HALL.out HMAY.out)
          clear hs
          go_upto_region 8 with (first | (go_at_call 33; refine HFT.out.mono ?_; rintro e w4 ⟨rfl, hb4⟩; have HM4 := Lib.hid (Mod.of_below (T := fun _ => False) hb4); have HB4 := Lib.hid (HBW3.out.trans (hb4.mono (by omega))); have HL4 := Lib.hid (HB3.out.mod HM4.out (fun h => h) (fun _ _ h => h)); obtain ⟨q0, q1, q2, q3, q4⟩ := cells5 (HM4.out.heap HX3.out (fun h => h)); have hs4 := hb4.size; clear hb4) | (go_at_call 34; refine (HP.out _ HL4.out (by omega)).mono ?_; rintro e w5 ⟨he, hm5, hst5⟩; rw [HST.out] at he; obtain rfl : e = .returned (.bool true) := he; have HM5 := Lib.hid hm5; have HST5 := Lib.hid hst5; clear hm5 hst5))
          obtain ⟨own', hL5, ht5⟩ := HST5.out o' HST.out
          have hs5 := HM5.out.size
          have hX5 := HM5.out.heap (HM4.out.heap HX3.out (fun h => h)) (fun h => by
            rcases h with h | h
            · omega
            · have := (HWL.out X h).2; have := HXX.out; omega)
          obtain ⟨y0, y1, y2, y3, y4⟩ := cells5 hX5
          have hO5 := HM5.out.own (HM4.out.own HO3.out (fun _ _ h => h)) (fun g hg e => by
            rcases e with e | e
            · exact HV.out.1 (by rw [hg, e])
            · exact HV.out.2 g e hg)
          have hU5 : HasU w5 (· < w.heap.size) A4 xl := by
            have h1 : HasU w3 (· < w.heap.size) A4 xl := HU.out.mod (Mod.of_base HBW3.out) (fun g _ h e => Nat.lt_irrefl _ (Nat.lt_of_lt_of_le h e))
            refine (h1.mod HM4.out (fun _ _ _ h => h)).mod HM5.out (fun g _ h e => ?_)
            have h : g < w.heap.size := h
            rcases e with e | e
            · omega
            · have := (HWL.out g e).1; omega
          have HPT := Lib.hid (put_any w.heap.size u6 out (· < w.heap.size) (insVal ⟨op, xa, xb, xc, xl⟩ A4 c4) ⟨op, xa, xb, xc, xl⟩ w5 hO5 (by omega) ⟨A4, c4, rfl, HWX.out, HLC.out, HCM.out, hU5⟩ (fun g h e => by have := (HVL.out g e).1; omega) HMAY.out hxx (by simp only at htt ⊢; omega))
          simp only [insVal, insCells] at HPT
          have HL5 := Lib.hid hL5
          have HT5 := Lib.hid ht5
          clear hO5 hU5 hL5 ht5 HST5 hX5
          obtain ⟨EX, hEX⟩ : ∃ EX, EX = enc ⟨op, xa, xb, xc, xl⟩ := ⟨_, rfl⟩
          rw [← hEX] at HPT HEA hel
          clear hEX
          go_wp2_with (go_at_call 35; refine HPT.out.mono ?_; rintro e w6 ⟨v6, rfl, ha6⟩; have HA6 := Lib.hid ha6; clear ha6)
          go_roundw
          case rel =>
            have hvk : v6.ownBlock ≠ some K := fun e => by
              rcases HA6.out.2.2 K e with h | h
              · exact HV.out.1 h
              · omega
            have hdis : ∀ g, own' = some g → u6.ownBlock ≠ some g := fun g e e2 => by
              rcases HT5.out g e with h | h
              · exact HV.out.2 g h e2
              · have := (HVL.out g e2).2; have := HXX.out; omega
            refine ⟨j + 1, out ++ EX, o', own', by omega, by go_num, Lib.hid (by rw [HD.out, HEA.out]; simp), by rw [List.length_append, htt]; omega, Lib.hid HA6.out.1, Lib.hid (HL5.out.mod HA6.out.2.1 (fun e => HV.out.1 e) (fun g e => hdis g e)), Lib.hid ⟨hvk, fun g e e2 => ?_⟩, by omega, Lib.hid ?_, Lib.hid ⟨HAL.out, HSO.out⟩⟩
            · rcases HA6.out.2.2 g e2 with h | h
              · exact hdis g e h
              · have := (HL5.out.own_lt.2 g e).2; omega
            · refine (HB4.out.trans (HM5.out.below (by omega) (fun k hk e => ?_))).trans (HA6.out.2.1.below (by omega) (fun k hk e => ?_))
              · rcases e with e | e
                · omega
                · have := (HWL.out k e).1; omega
              · have := (HVL.out k e).1; omega
          case measure => simp [intOf]; omega
    · obtain rfl : j = n := by omega
      have htk : xs.take j = xs := by rw [← HN.out]; exact List.take_length
      have HTK := Lib.hid htk
      clear htk
      obtain ⟨A5, c5, kK, hoc, hcm5⟩ := blocks_cell HB.out
      unfold maxLen at hcm5
      have hrs := HBW.out.size
      by_cases h0 : o = []
      · subst h0
        have hex : exprB xs = true := by
          have h1 := HE.out
          rw [HTK.out] at h1
          unfold exprB
          rw [h1.1, h1.2]
          rfl
        have hle := tot_take_le xs j
        obtain ⟨v2, w3, hr3, ha3⟩ := append1_adds wr w.heap.size u6 out 11 HO.out (by omega) hrs
        have HR3 := Lib.hid hr3
        have HA3 := Lib.hid ha3
        have HVL := Lib.hid (fun g (h : u6.ownBlock = some g) => HO.out.lt g h)
        have HEX := Lib.hid hex
        clear hr3 ha3 hex
        go_wp2_with (at_builtin; refine wpList_appends rfl (.tmp 34) (.tmp 35) 34 rfl _ _ _ w3 rfl rfl HR3.out ?_)
        go_ret2
        unfold AEPost
        rw [HEX.out, if_pos rfl]
        have e : out ++ [11] = l ++ exprEnc xs := by rw [HD.out, HTK.out]; simp [exprEnc]
        have h1 := HA3.out.1
        rw [e] at h1
        exact ⟨_, rfl, h1, HBW.out.trans (HA3.out.2.1.below hrs (fun k hk e => by have := (HVL.out k e).1; omega))⟩
      · have hex : exprB xs = false := by
          have h1 := HE.out
          rw [HTK.out] at h1
          unfold exprB
          rw [h1.1, h1.2]
          simp [h0]
        have HEX := Lib.hid hex
        have hpos : (0 : Int) < (o.length : Int) := by have := List.length_pos_iff.2 h0; omega
        clear hex h0
        go_wp2_with fail
        go_ret2
        exact aePost_no HEX.out HBW.out
end Go.Proofs.Ytakbehoglgebmaa
