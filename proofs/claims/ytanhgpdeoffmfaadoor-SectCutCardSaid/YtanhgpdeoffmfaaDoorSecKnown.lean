/-
  The first step of layer 5's laws: the chapter's rows hold, given what Split and Join do.
-/
import Derived.Test.YtanhgpdeoffmfaaDoorSecCon
import Derived.Deep.Cut
namespace Sec
theorem row1 : split begin8 = some [] := by decide +kernel
theorem row2 : split (begin8 ++ [3, 1, 0, 0, 2, 1, 97, 10, 0]) = some [⟨3, [0]⟩, ⟨10, []⟩] := by decide +kernel
theorem row3 : split (begin8 ++ [3, 0, 3, 0]) = none := by decide +kernel
theorem row4 : split (begin8 ++ [12, 0]) = none := by decide +kernel
theorem row5 : split (begin8 ++ [0, 0]) = none := by decide +kernel
theorem row6 : split (begin8.take 7) = none := by decide +kernel
end Sec
namespace Go.Proofs.YtanhgpdeoffmfaaDoor
open Go.RowKit Sec
theorem Has.lit' (w : World) (l : List UInt8) (t : TypeId) : Has (w.alloc (.cells (bytesOf l).toArray t)) (w.alloc (.cells (bytesOf l).toArray t)).heap.size (some ⟨w.heap.size, 0, none⟩) l := (Has.lit w l t).more (by simp)
/-- The three rows that are no binary's. -/
def threeW (w : World) : World := (((w.alloc (.cells #[.int .u8 3, .int .u8 0, .int .u8 3, .int .u8 0] 5)).alloc (.cells #[.int .u8 12, .int .u8 0] 5)).alloc (.cells #[.int .u8 0, .int .u8 0] 5)).alloc (.cells #[.slice (some ⟨w.heap.size, 0, none⟩) 4 4, .slice (some ⟨w.heap.size + 1, 0, none⟩) 2 2, .slice (some ⟨w.heap.size + 1 + 1, 0, none⟩) 2 2] 22)
theorem threeW_below (w : World) : Below w.heap.size w (threeW w) := by
  unfold threeW
  exact ((((Below.refl _ _).alloc (Nat.le_refl _) _).alloc (by simp) _).alloc (by simp <;> omega) _).alloc (by simp <;> omega) _
theorem threeW_size (w : World) : (threeW w).heap.size = w.heap.size + 4 := by simp [threeW]
theorem three_row (w W : World) (hb : Below (threeW w).heap.size (threeW w) W) (j : Nat) (hj : j < 3) : ∃ g n l, W.cell? ⟨w.heap.size + 1 + 1 + 1, j, none⟩ = some (.slice (some ⟨g, 0, none⟩) (n : Nat) n) ∧ Has W W.heap.size (some ⟨g, 0, none⟩) l ∧ n = l.length ∧ n ≤ 4 ∧ split (begin8 ++ l) = none := by
  have e : w.heap.size + 1 + 1 + 1 = (((w.alloc (.cells #[.int .u8 3, .int .u8 0, .int .u8 3, .int .u8 0] 5)).alloc (.cells #[.int .u8 12, .int .u8 0] 5)).alloc (.cells #[.int .u8 0, .int .u8 0] 5)).heap.size := by simp
  have cell : ∀ v, (#[Value.slice (some ⟨w.heap.size, 0, none⟩) 4 4, .slice (some ⟨w.heap.size + 1, 0, none⟩) 2 2, .slice (some ⟨w.heap.size + 1 + 1, 0, none⟩) 2 2] : Array Value)[j]? = some v → W.cell? ⟨w.heap.size + 1 + 1 + 1, j, none⟩ = some v := fun v h => by
    have h1 : (threeW w).cell? ⟨w.heap.size + 1 + 1 + 1, j, none⟩ = some v := by
      unfold threeW
      rw [e, World.cell?_alloc_new]
      exact h
    exact (hb.cell (World.block_lt_of_cell? _ _ h1)).trans h1
  match j, hj with
  | 0, _ =>
    refine ⟨_, 4, [3, 0, 3, 0], cell _ rfl, ?_, rfl, by omega, row3⟩
    have h := (((Has.lit w [3, 0, 3, 0] 5).alloc (by simp) (.cells #[.int .u8 12, .int .u8 0] 5)).alloc (by simp <;> omega) (.cells #[.int .u8 0, .int .u8 0] 5)).alloc (by simp <;> omega) (.cells #[.slice (some ⟨w.heap.size, 0, none⟩) 4 4, .slice (some ⟨w.heap.size + 1, 0, none⟩) 2 2, .slice (some ⟨w.heap.size + 1 + 1, 0, none⟩) 2 2] 22)
    exact (show Has (threeW w) (threeW w).heap.size _ _ from h.more (by rw [threeW_size]; omega)).on hb
  | 1, _ =>
    refine ⟨_, 2, [12, 0], cell _ rfl, ?_, rfl, by omega, row4⟩
    have h := ((Has.lit (w.alloc (.cells #[.int .u8 3, .int .u8 0, .int .u8 3, .int .u8 0] 5)) [12, 0] 5).alloc (by simp) (.cells #[.int .u8 0, .int .u8 0] 5)).alloc (by simp <;> omega) (.cells #[.slice (some ⟨w.heap.size, 0, none⟩) 4 4, .slice (some ⟨w.heap.size + 1, 0, none⟩) 2 2, .slice (some ⟨w.heap.size + 1 + 1, 0, none⟩) 2 2] 22)
    rw [World.size_alloc] at h
    exact (show Has (threeW w) (threeW w).heap.size _ _ from h.more (by rw [threeW_size]; omega)).on hb
  | 2, _ =>
    refine ⟨_, 2, [0, 0], cell _ rfl, ?_, rfl, by omega, row5⟩
    have h := (Has.lit ((w.alloc (.cells #[.int .u8 3, .int .u8 0, .int .u8 3, .int .u8 0] 5)).alloc (.cells #[.int .u8 12, .int .u8 0] 5)) [0, 0] 5).alloc (by simp) (.cells #[.slice (some ⟨w.heap.size, 0, none⟩) 4 4, .slice (some ⟨w.heap.size + 1, 0, none⟩) 2 2, .slice (some ⟨w.heap.size + 1 + 1, 0, none⟩) 2 2] 22)
    rw [World.size_alloc, World.size_alloc] at h
    exact (show Has (threeW w) (threeW w).heap.size _ _ from h.more (by rw [threeW_size]; omega)).on hb
/-- The two sections of the chapter's row, as a literal. -/
theorem two_lit (w : World) (t u : TypeId) : HasS ((w.alloc (.cells #[.int .u8 0] t)).alloc (.cells #[.int .u8 3, .slice (some ⟨w.heap.size, 0, none⟩) 1 1, .int .u8 10, .slice none 0 0] u)) ((w.alloc (.cells #[.int .u8 0] t)).alloc (.cells #[.int .u8 3, .slice (some ⟨w.heap.size, 0, none⟩) 1 1, .int .u8 10, .slice none 0 0] u)).heap.size (some ⟨w.heap.size + 1, 0, none⟩) [⟨3, [0]⟩, ⟨10, []⟩] := by
  have hc : ∀ (j : Nat) (v : Value), (#[Value.int .u8 3, .slice (some ⟨w.heap.size, 0, none⟩) 1 1, .int .u8 10, .slice none 0 0] : Array Value)[j]? = some v → ((w.alloc (.cells #[.int .u8 0] t)).alloc (.cells #[.int .u8 3, .slice (some ⟨w.heap.size, 0, none⟩) 1 1, .int .u8 10, .slice none 0 0] u)).cell? ⟨w.heap.size + 1, j, none⟩ = some v := fun j v h => by
    rw [show w.heap.size + 1 = (w.alloc (.cells #[.int .u8 0] t)).heap.size by simp, World.cell?_alloc_new]
    exact h
  intro k x hk
  match k, hk with
  | 0, hk =>
    obtain rfl : (⟨3, [0]⟩ : S) = x := Option.some.inj hk
    have h := (Has.lit w [0] t).alloc (by simp) (.cells #[.int .u8 3, .slice (some ⟨w.heap.size, 0, none⟩) 1 1, .int .u8 10, .slice none 0 0] u)
    exact ⟨_, 0, _, 1, rfl, by simp, by decide, by simp, by unfold maxLen; omega, (by intro h; cases h), h.more (by simp), hc 0 _ rfl, hc 1 _ rfl⟩
  | 1, hk =>
    obtain rfl : (⟨10, []⟩ : S) = x := Option.some.inj hk
    exact ⟨_, 0, none, 0, rfl, by simp, by decide, by simp, by unfold maxLen; omega, fun _ => rfl, Has.nil _ _ _, hc 2 _ rfl, hc 3 _ rfl⟩
  | k + 2, hk => simp at hk
set_option maxRecDepth 100000 in
set_option maxHeartbeats 4000000 in
theorem rows5 (hs : SplitOk) (hj : JoinOk) (w : World) (hT : Tb w) : Calls Tryd.prog 8 #[] w fun e w' => e = .returned (.bool true) ∧ Below w.heap.size w w' := by
  have HSP := Lib.hid hs
  have HJ := Lib.hid hj
  have HT := Lib.hid hT
  clear hs hj hT
  go_enter Tryd.func8, Tryd.ntmps8
  go_wp2_with fail
  refine (begin_any _).mono ?_
  rintro e w1 ⟨v1, rfl, ho1, hb1⟩
  obtain ⟨A1, c1, (rfl : v1 = .slice A1 8 c1), _, (hc1 : 8 ≤ c1), hm1, hn1, hh1⟩ := own_sl ho1
  obtain ⟨ad1, rfl⟩ := hh1.someAddr (by decide)
  have HB1 := Lib.hid hb1
  have HH1 := Lib.hid hh1
  clear hb1 hh1 ho1
  go_wp2_with fail
  refine (HJ.out.yes (xs := []) (n := 0) (c := 0) (HasS.nil _ _ _) rfl (Nat.le_refl _) (by unfold maxLen; omega) (by decide) rfl).mono ?_
  rintro e w2 ⟨A2, c2, he, _, _, _, hh2, hb2⟩
  obtain rfl : e = .returned (.tuple #[.slice A2 8 c2, .int .i64 0]) := he
  have HH2 : Hid (Has w2 w2.heap.size A2 begin8) := Lib.hid (by have h := hh2; rwa [show join [] = begin8 from rfl] at h)
  have HH12 := Lib.hid (HH1.out.on hb2)
  have HB2 := Lib.hid (HB1.out.trans (hb2.mono HB1.out.size))
  clear hh2 hb2 HB1 HH1
  go_wp2_with fail
  refine (HSP.out.some HH12.out rfl (by decide) hc1 hm1 (by intro h; cases h) (HT.out.on HB2.out) row1).mono ?_
  rintro e w3 ⟨A3, c3, rfl, _, _, _, hb3⟩
  have HB3 := Lib.hid (HB2.out.trans (hb3.mono HB2.out.size))
  have HH13 := Lib.hid (HH12.out.on hb3)
  have cv1 := run_str (HH2.out.on hb3) (show 8 = begin8.length from rfl) c2
  have cv2 := run_str HH13.out (show 8 = begin8.length from rfl) c1
  clear hb3 HB2 HH2 HH12
  go_wp2_with fail
  refine (begin_any _).mono ?_
  rintro e w4 ⟨v4, rfl, ho4, hb4⟩
  have HB4 := Lib.hid (HB3.out.trans (hb4.mono HB3.out.size))
  have HH14 := Lib.hid (HH13.out.on hb4)
  obtain ⟨v5, w5, hr5, ha5⟩ := appends_adds (w4.alloc (.cells #[.int .u8 3, .int .u8 1, .int .u8 0, .int .u8 0, .int .u8 2, .int .u8 1, .int .u8 97, .int .u8 10, .int .u8 0] 5)) w3.heap.size 9 9 v4 begin8 [3, 1, 0, 0, 2, 1, 97, 10, 0] (some ⟨w4.heap.size, 0, none⟩) (ho4.alloc _) (Has.lit' w4 [3, 1, 0, 0, 2, 1, 97, 10, 0] 5) rfl (by decide) (by have := hb4.size; simp; omega)
  have hb5 : Below w4.heap.size w4 (w4.alloc (.cells #[.int .u8 3, .int .u8 1, .int .u8 0, .int .u8 0, .int .u8 2, .int .u8 1, .int .u8 97, .int .u8 10, .int .u8 0] 5)) := (Below.refl _ _).alloc (Nat.le_refl _) _
  have hb5' : Below w3.heap.size w3 w5 := (hb4.trans (hb5.mono hb4.size)).trans (ha5.below (own_ge ho4) (by have := hb4.size; simp; omega))
  have HB5 := Lib.hid (HB3.out.trans (hb5'.mono HB3.out.size))
  have HH15 := Lib.hid (HH13.out.on hb5')
  obtain ⟨A5, c5, (rfl : v5 = .slice A5 17 c5), _, (hc5 : 17 ≤ c5), hm5, hn5, hh5⟩ := own_sl ha5.1
  have HR5 := Lib.hid hr5
  have HSP5 := Lib.hid (HSP.out.some hh5 rfl (by decide) hc5 hm5 hn5 (HT.out.on HB5.out) row2)
  clear hr5 ha5 hb5 hb5' hh5 ho4 hb4 HH13 HH14 HB3 HB4 cv1 cv2
  go_wp2_with (at_builtin; refine wpList_appends rfl (.tmp 39) (.tmp 40) 22 rfl _ _ _ w5 rfl rfl HR5.out ?_)
  refine HSP5.out.mono ?_
  rintro e w6 ⟨A6, c6, he, _, _, hx6, hb6⟩
  obtain rfl : e = .returned (.tuple #[.slice A6 2 c6, .int .i64 0]) := he
  have HX6 := Lib.hid hx6
  have HB6 := Lib.hid (HB5.out.trans (hb6.mono HB5.out.size))
  have HH16 := Lib.hid (HH15.out.on hb6)
  clear hx6 hb6 HSP5 HR5 HH15 HB5
  have hb7 : Below w6.heap.size w6 ((w6.alloc (.cells #[.int .u8 0] 5)).alloc (.cells #[.int .u8 3, .slice (some ⟨w6.heap.size, 0, none⟩) 1 1, .int .u8 10, .slice none 0 0] 51)) := ((Below.refl _ _).alloc (Nat.le_refl _) _).alloc (by simp) _
  have HSM := Lib.hid (same5_any A6 _ 2 c6 (some ⟨w6.heap.size + 1, 0, none⟩) _ 2 2 _ (HX6.out.on hb7) rfl (two_lit w6 5 51) rfl (by decide))
  have HB7 := Lib.hid hb7
  clear hb7 HX6
  go_wp2_with (go_at_call 11; refine HSM.out.mono ?_; rintro e w7 ⟨he, hb7⟩; obtain rfl : e = .returned (.bool true) := (by rw [he]; simp); have HB8 := Lib.hid (HB7.out.trans (hb7.mono HB7.out.size)); clear hb7)
  have HB9 := Lib.hid (HB6.out.trans (HB8.out.mono HB6.out.size))
  have HH17 := Lib.hid (HH16.out.on HB8.out)
  clear HB6 HB7 HB8 HH16 HSM
  have hb10 := threeW_below w7
  have h3 : ((((w7.alloc (.cells #[.int .u8 3, .int .u8 0, .int .u8 3, .int .u8 0] 5)).alloc (.cells #[.int .u8 12, .int .u8 0] 5)).alloc (.cells #[.int .u8 0, .int .u8 0] 5)).alloc (.cells #[.slice (some ⟨w7.heap.size, 0, none⟩) 4 4, .slice (some ⟨w7.heap.size + 1, 0, none⟩) 2 2, .slice (some ⟨w7.heap.size + 1 + 1, 0, none⟩) 2 2] 22)) = threeW w7 := rfl
  rw [h3]
  clear h3
  have HF := Lib.hid (fun W hb j hj => three_row w7 W hb j hj)
  have HB10 := Lib.hid (HB9.out.trans (hb10.mono HB9.out.size))
  have HH18 := Lib.hid (HH17.out.on hb10)
  clear hb10 HB9 HH17
  generalize threeW w7 = w8 at HF HB10 HH18 ⊢
  generalize w7.heap.size + 1 + 1 + 1 = X at HF ⊢
  go_loopw [61] (fun i wr => ∃ j : Nat, j ≤ 3 ∧ i = .int .i64 (j : Int) ∧ Hid (Below w8.heap.size w8 wr)) (fun i _ => 3 - (intOf i).toNat)
  case atStart => exact ⟨0, by omega, rfl, Lib.hid (Below.refl _ _)⟩
  case round =>
    obtain ⟨j, hj, rfl, HB⟩ := hrel
    by_cases hjn : j < 3
    · obtain ⟨g, n, l, hc, hh, hn, hn2, hsp⟩ := HF.out wr HB.out j hjn
      have hji : (j : Int) < 3 := by omega
      have HHL := Lib.hid hh
      have HN := Lib.hid hn
      have HNO := Lib.hid hsp
      clear hh hn hsp
      go_wp2_with fail
      refine (begin_any _).mono ?_
      rintro e w9 ⟨v9, rfl, ho9, hb9⟩
      obtain ⟨v10, w10, hr10, ha10⟩ := appends_adds w9 wr.heap.size n n v9 begin8 l (some ⟨g, 0, none⟩) ho9 (HHL.out.on hb9) HN.out (by have := HN.out; have h8 : begin8.length = 8 := rfl; omega) hb9.size
      have hb10 : Below wr.heap.size wr w10 := hb9.trans (ha10.below (own_ge ho9) hb9.size)
      have HB11 := Lib.hid (HB.out.trans (hb10.mono HB.out.size))
      obtain ⟨A10, c10, rfl, hl10, hc10, hm10, hn10, hh10⟩ := own_sl ha10.1
      have hml : (begin8 ++ l).length ≤ 100 := by rw [List.length_append, ← HN.out]; have h8 : begin8.length = 8 := rfl; omega
      have HSP10 := Lib.hid (HSP.out.none hh10 rfl (by omega) hc10 hm10 hn10 (HT.out.on (HB10.out.trans (HB11.out.mono HB10.out.size))) HNO.out)
      have HR10 := Lib.hid hr10
      clear hr10 ha10 hb9 hb10 ho9 hh10 hc10 hm10 hn10 hl10
      generalize (begin8 ++ l).length = m at HSP10 HR10 hml
      go_wp2_with (at_builtin; refine wpList_appends rfl (.tmp 66) (.tmp 67) 22 rfl _ _ _ w10 rfl rfl HR10.out ?_)
      refine HSP10.out.mono ?_
      rintro e w11 ⟨A11, c11, rfl, hb11⟩
      have HB12 := Lib.hid (HB11.out.trans (hb11.mono HB11.out.size))
      clear hb11
      go_wp2_with fail
      go_roundw
      case rel => exact ⟨j + 1, by omega, by go_num, HB12⟩
      case measure => simp [intOf]; omega
    · obtain rfl : j = 3 := by omega
      have HB11 := Lib.hid (HB10.out.trans (HB.out.mono HB10.out.size))
      have HH19 := Lib.hid ((HH18.out.on HB.out).take 7)
      have h7c : (7 : Int) ≤ (c1 : Int) := by omega
      have h7n : ¬ c1 = 0 := by omega
      clear HF HB HB10 HH18
      go_wp2_with fail
      refine (HSP.out.none HH19.out (show 7 = (begin8.take 7).length from rfl) (by decide) (by omega) hm1 (by intro h; cases h) (HT.out.on HB11.out) row6).mono ?_
      rintro e w12 ⟨A12, c12, rfl, hb12⟩
      have HB13 := Lib.hid (HB11.out.trans (hb12.mono HB11.out.size))
      clear hb12
      go_wp2_with fail
      go_ret
      exact ⟨rfl, HB13.out⟩
end Go.Proofs.YtanhgpdeoffmfaaDoor
