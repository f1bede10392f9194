/-
  The walk over InstrJoins.
-/
import Derived.Test.YtnechkmdmjhhbaaInsBack
import Derived.Test.YtnechkmdmjhhbaaInsApp
import Derived.Test.YtnechkmdmjhhbaaInsKnown2
namespace Go.Proofs.Ytnechkmdmjhhbaa
open Go.RowKit Ins
set_option maxRecDepth 100000 in
set_option maxHeartbeats 4000000 in
/-- Where no more is asked. -/
theorem join_great (B : Option Addr) (xs : List I) (n cx : Nat) (z : Int) (w : World) (E2 : Int) (R : World → Value → World → Prop) (hX : HasI w (· < w.heap.size) B xs) (hn : n = xs.length) (hnn : n ≤ 140737488355328) (hl : ∀ x ∈ xs, x.l.length ≤ 140737488355328)
    (HA : Hid (∀ W, Below w.heap.size w W → Calls Try.prog 11 #[.slice none 0 0, .slice B n cx] W fun e W' => ∃ v, e = .returned (.tuple #[v, .int .i64 E2]) ∧ R W v W' ∧ Below W.heap.size W W')) (h : 3000 < many xs ∨ 300 < n ∨ E2 = 2) :
    Calls Try.prog 5 #[.slice B n cx, .int .i64 z] w fun e w' => e = .returned (.bool true) ∧ Below w.heap.size w w' := by
  have HG := Lib.hid (fun W (hb : Below w.heap.size w W) => great_any _ B xs cx W (hX.mod (Mod.of_below (T := fun _ => False) hb) (fun _ _ _ h => h)) (by omega) hl)
  rw [← hn] at HG
  clear hX hn hnn hl
  by_cases hm : 3000 < many xs
  · have hd : decide (3000 < many xs) = true := decide_eq_true hm
    rw [hd] at HG
    clear h hd hm
    go_enter Try.func5, Try.ntmps5
    go_wp2_with fail
    refine (rows_hold w).mono ?_
    rintro e w1 ⟨rfl, hb⟩
    have HB1 := Lib.hid hb
    clear hb
    go_wp2_with fail
    refine (HA.out _ HB1.out).mono ?_
    rintro e w2 ⟨v, rfl, _, hb⟩
    have HB2 := Lib.hid (HB1.out.trans (hb.mono HB1.out.size))
    clear hb HB1
    go_wp2_with (go_at_call 7; refine (HG.out _ HB2.out).mono ?_; rintro e w3 ⟨rfl, rfl⟩)
    go_ret
    exact ⟨rfl, HB2.out⟩
  · have hd : decide (3000 < many xs) = false := decide_eq_false hm
    rw [hd] at HG
    by_cases hn : 300 < n
    · have hni : (300 : Int) < (n : Int) := by omega
      clear h hd hm
      go_enter Try.func5, Try.ntmps5
      go_wp2_with fail
      refine (rows_hold w).mono ?_
      rintro e w1 ⟨rfl, hb⟩
      have HB1 := Lib.hid hb
      clear hb
      go_wp2_with fail
      refine (HA.out _ HB1.out).mono ?_
      rintro e w2 ⟨v, rfl, _, hb⟩
      have HB2 := Lib.hid (HB1.out.trans (hb.mono HB1.out.size))
      clear hb HB1
      go_wp2_with (go_at_call 7; refine (HG.out _ HB2.out).mono ?_; rintro e w3 ⟨rfl, rfl⟩)
      go_ret
      exact ⟨rfl, HB2.out⟩
    · have hni : ¬ (300 : Int) < (n : Int) := by omega
      obtain rfl : E2 = 2 := by omega
      clear h hd hm
      go_enter Try.func5, Try.ntmps5
      go_wp2_with fail
      refine (rows_hold w).mono ?_
      rintro e w1 ⟨rfl, hb⟩
      have HB1 := Lib.hid hb
      clear hb
      go_wp2_with fail
      refine (HA.out _ HB1.out).mono ?_
      rintro e w2 ⟨v, rfl, _, hb⟩
      have HB2 := Lib.hid (HB1.out.trans (hb.mono HB1.out.size))
      clear hb HB1
      go_wp2_with (go_at_call 7; refine (HG.out _ HB2.out).mono ?_; rintro e w3 ⟨rfl, rfl⟩)
      go_ret
      exact ⟨rfl, HB2.out⟩
theorem app_yes (A : Option Addr) (l : List UInt8) (n c : Nat) (x : I) (A2 : Option Addr) (c2 : Nat) (w : World) (hA : Has w w.heap.size A l) (hn : n = l.length) (hU : HasU w (· < w.heap.size) A2 x.l) (hwf : x.wf) (hc1 : x.l.length ≤ c2) (hc2 : c2 ≤ maxLen) (hxl : x.l.length < 4294967296) (hsz : n + 10 * (x.l.length + 5) ≤ 100000000000000) (hm : may x = true) :
    Calls Try.prog 8 #[.slice A n c, insVal x A2 c2] w fun e w' => ∃ A' c', e = .returned (.tuple #[.slice A' (l ++ enc x).length c', .int .i64 0]) ∧ Has w' w'.heap.size A' (l ++ enc x) ∧ Below w.heap.size w w' := by
  refine (append_any A l n c x A2 c2 w hA hn hU hwf hc1 hc2 hxl hsz).mono ?_
  intro e w' h
  unfold AppPost at h
  rw [if_pos hm] at h
  obtain ⟨v, rfl, ho, hb⟩ := h
  obtain ⟨A', c', rfl, _, _, _, _, hh⟩ := own_slice ho
  exact ⟨A', c', rfl, hh, hb⟩
theorem encAll_take {xs : List I} {j : Nat} {x : I} (h : xs[j]? = some x) : encAll (xs.take (j + 1)) = encAll (xs.take j) ++ enc x := by
  rw [List.take_add_one, h]
  simp [encAll]
set_option maxRecDepth 100000 in
set_option maxHeartbeats 4000000 in
theorem join_main (B : Option Addr) (xs : List I) (n cx : Nat) (z : Int) (w : World) (hX : HasI w (· < w.heap.size) B xs) (hn : n = xs.length) (h3 : many xs ≤ 3000) (hn3 : n ≤ 300) (hx : exprB xs = true) :
    Calls Try.prog 5 #[.slice B n cx, .int .i64 z] w fun e w' => e = .returned (.bool true) ∧ Below w.heap.size w w' := by
  have hwf := hX.wf
  have hl3 : ∀ x ∈ xs, x.l.length ≤ 140737488355328 := fun x h => by have := many_len h; omega
  have hl4 : ∀ x ∈ xs, x.wf ∧ x.l.length < 4294967296 := fun x h => ⟨hwf x h, by have := many_len h; omega⟩
  have htm := tot_many xs
  have hmay := ((exprB_iff xs).1 hx).1
  have hsteps := ((exprB_iff xs).1 hx).2
  have HX := Lib.hid (fun W (hb : Below w.heap.size w W) => hX.mod (Mod.of_below (T := fun _ => False) hb) (fun _ _ _ h => h))
  have HG := Lib.hid (fun W (hb : Below w.heap.size w W) => great_any _ B xs cx W (HX.out W hb) (by omega) hl3)
  rw [← hn] at HG
  have hd : decide (3000 < many xs) = false := decide_eq_false (by omega)
  rw [hd] at HG
  have HE := Lib.hid (fun W (hb : Below w.heap.size w W) => appE_yes B xs n cx W ((HX.out W hb).more (fun k _ h => Nat.lt_of_lt_of_le h hb.size)) hn (by omega) hx)
  have hel : (exprEnc xs).length ≤ 200000 := by
    have h1 := exprEnc_le xs hl4
    omega
  have HCUT := Lib.hid (fun (m i : Nat) => rdExpr_cut xs [] m i hmay hl4 hsteps)
  have HEX : Hid (exprEnc xs = encAll xs ++ [11]) := Lib.hid rfl
  generalize exprEnc xs = E at HE hel HCUT HEX
  obtain ⟨k, hk⟩ : ∃ k, E.length = k := ⟨_, rfl⟩
  rw [hk] at HE hel
  have HKL := Lib.hid hk
  have HN := Lib.hid hn
  have HMAY := Lib.hid hmay
  have HL4 := Lib.hid hl4
  have hni : ¬ (300 : Int) < (n : Int) := by omega
  have HTM : Hid (tot xs ≤ 15000) := Lib.hid (by omega)
  clear hX hn hwf hl3 hl4 htm hmay hsteps hd hk hx h3
  go_enter Try.func5, Try.ntmps5
  go_wp2_with fail
  refine (rows_hold w).mono ?_
  rintro e w1 ⟨rfl, hb⟩
  have HB1 := Lib.hid hb
  clear hb
  go_wp2_with fail
  refine (HE.out _ HB1.out).mono ?_
  rintro e w2 ⟨A2, c2, rfl, hc2, hm2, hn2, hh2, hb⟩
  have HB2 := Lib.hid (HB1.out.trans (hb.mono HB1.out.size))
  have HH2 := Lib.hid hh2
  clear hb HB1 hh2
  go_wp2_with (go_at_call 7; refine (HG.out _ HB2.out).mono ?_; rintro e w3 ⟨rfl, rfl⟩)
  go_loopw [7, 32] (fun v i wr => ∃ (j : Nat) (A : Option Addr) (q c : Nat) (out : List UInt8), j ≤ n ∧ i = .int .i64 (j : Int) ∧ v = .slice A q c ∧ Hid (q = out.length) ∧ Hid (out = encAll (xs.take j)) ∧ Hid (Has wr wr.heap.size A out) ∧ Hid (Below w2.heap.size w2 wr)) (fun _ i _ => n - (intOf i).toNat)
  case atStart => exact ⟨0, none, 0, 0, [], by omega, rfl, rfl, Lib.hid rfl, Lib.hid (by simp [encAll]), Lib.hid (Has.nil _ _ _), Lib.hid (Below.refl _ _)⟩
  case round =>
    obtain ⟨j, A, q, c, out, hj, rfl, rfl, HQ, HO, HH, HB⟩ := hrel
    by_cases hjn : j < n
    · obtain ⟨x, hx⟩ : ∃ x, xs[j]? = some x := ⟨_, List.getElem?_eq_getElem (by have := HN.out; omega)⟩
      have hxm := List.mem_of_getElem? hx
      have hmx : may x = true := List.all_eq_true.1 HMAY.out x hxm
      have hl4 := HL4.out x hxm
      have HBW := Lib.hid (HB2.out.trans (HB.out.mono HB2.out.size))
      obtain ⟨g, oo, A4, c4, rfl, hgB, hwx, hlc, hcm, hU, hcells⟩ := HX.out _ HBW.out j x hx
      have hol : q ≤ 150000 := by
        rw [HQ.out, HO.out]
        have h1 := encAll_le (xs.take j) (fun y hy => HL4.out y (List.mem_of_mem_take hy))
        have h2 := tot_take_le xs j
        have h3 := HTM.out
        omega
      have HAP := Lib.hid (fun W (hb : Below wr.heap.size wr W) => app_yes A out q c x A4 c4 W (HH.out.on hb) HQ.out ((hU.mod (Mod.of_below (T := fun _ => False) hb) (fun _ _ _ h => h)).more (fun k _ h => Nat.lt_of_lt_of_le h (HBW.out.trans (hb.mono HBW.out.size)).size)) hwx hlc hcm hl4.2 (by have := HTM.out; have h5 := tot_take_le xs (j + 1); have h6 := tot_take hx; omega) hmx)
      have HT := Lib.hid (encAll_take hx)
      have hji : (j : Int) < (n : Int) := by omega
      clear hmx hl4 hxm hx hol
      obtain ⟨op, xa, xb, xc, xl⟩ := x
      have k0 := hcells 0 _ rfl
      have k1 := hcells 1 _ rfl
      have k2 := hcells 2 _ rfl
      have k3 := hcells 3 _ rfl
      have k4 := hcells 4 _ rfl
      simp only [insVal, insCells] at HAP k0 k1 k2 k3 k4
      rw [Nat.add_zero] at k0
      clear hcells hU hwx hlc hcm hgB
      generalize xl.length = r at HAP k4
      have hO2 : out ++ enc ⟨op, xa, xb, xc, xl⟩ = encAll (xs.take (j + 1)) := by rw [HT.out, HO.out]
      rw [hO2] at HAP
      obtain ⟨out2, hout2⟩ : ∃ out2, out2 = encAll (xs.take (j + 1)) := ⟨_, rfl⟩
      rw [← hout2] at HAP
      obtain ⟨q2, hq2⟩ : ∃ q2, out2.length = q2 := ⟨_, rfl⟩
      rw [hq2] at HAP
      have HO2 := Lib.hid hout2
      have HQ2 := Lib.hid hq2.symm
      clear hO2 hq2 hout2
      have HX3 : Hid ((wr.alloc (.cells #[.int .u8 (op : Int), .int .u32 (xa : Int), .int .u32 (xb : Int), .int .i64 xc, .slice A4 r c4] 26)).heap[wr.heap.size]? = some (.cells #[.int .u8 (op : Int), .int .u32 (xa : Int), .int .u32 (xb : Int), .int .i64 xc, .slice A4 r c4] 26 (0, 0))) := Lib.hid (heap_alloc_new wr _)
      have HB3 : Hid (Below wr.heap.size wr (wr.alloc (.cells #[.int .u8 (op : Int), .int .u32 (xa : Int), .int .u32 (xb : Int), .int .i64 xc, .slice A4 r c4] 26))) := Lib.hid ((Below.refl _ _).alloc (Nat.le_refl _) _)
      go_upto_region 10 with (fail)
      generalize wr.alloc (.cells #[.int .u8 (op : Int), .int .u32 (xa : Int), .int .u32 (xb : Int), .int .i64 xc, .slice A4 r c4] 26) = w3 at HX3 HB3 ⊢
      obtain ⟨y0, y1, y2, y3, y4⟩ := cells5 HX3.out
      go_wp2_with (go_at_call 8; refine (HAP.out _ HB3.out).mono ?_; rintro e w4 ⟨A5, c5, rfl, hh5, hb5⟩; have HH5 := Lib.hid hh5; have HB5 := Lib.hid (HB.out.trans ((HB3.out.trans (hb5.mono HB3.out.size)).mono HB.out.size)); clear hh5 hb5)
      go_roundw
      case rel => exact ⟨j + 1, A5, q2, c5, out2, by omega, by go_num, rfl, HQ2, HO2, HH5, HB5⟩
      case measure => simp [intOf]; omega
    · obtain rfl : j = n := by omega
      have hall : out = encAll xs := by rw [HO.out, HN.out, List.take_length]
      have hcv1 := run_str HH.out HQ.out c
      have hcv2 := run_str (HH2.out.on HB.out) HKL.out.symm c2
      have hE : E = out ++ [11] := by rw [HEX.out, hall]
      have hs : (ByteArray.mk out.toArray ++ ByteArray.mk #[11]) = ByteArray.mk E.toArray := by
        rw [hE]
        exact ByteArray.mk_append_mk _ _
      have hs2 : ((ByteArray.mk out.toArray ++ ByteArray.mk #[11]).toList == E) = true := by
        rw [hs, ByteArray.toList_eq]
        exact beq_self_eq_true _
      have HBW := Lib.hid (HB2.out.trans (HB.out.mono HB2.out.size))
      have HHE := Lib.hid (HH2.out.on HB.out)
      have hob : ¬ 9223372036854775807 < out.length + 1 := by
        have h1 := HKL.out
        rw [hE, List.length_append, List.length_singleton] at h1
        omega
      clear hall hE hs
      by_cases hz : z < 0
      · go_wp2_with fail
        go_ret
        exact ⟨rfl, HBW.out⟩
      · obtain ⟨i, rfl⟩ := Int.eq_ofNat_of_zero_le (show (0 : Int) ≤ z by omega)
        by_cases hi : i < k
        · have hki : ¬ (k : Int) ≤ (i : Int) := by omega
          have hic : (i : Int) ≤ (c2 : Int) := by omega
          have hcut : Has wr wr.heap.size A2 (E.take i) := fun m x hx => by
            rw [List.getElem?_take] at hx
            split at hx
            · exact HHE.out m x hx
            · simp at hx
          have hlen : i = (E.take i).length := by rw [List.length_take, HKL.out]; omega
          have HT := Lib.hid (takeE_no A2 (E.take i) i c2 wr hcut hlen (by omega) (by omega) hm2 hn2 60 (HCUT.out _ i (by rw [HKL.out]; exact hi)))
          clear hcut hlen
          go_wp2_with (go_at_call 13; refine HT.out.mono ?_; rintro e w5 ⟨rfl, hb5⟩; have HB5 := Lib.hid (HBW.out.trans (hb5.mono HBW.out.size)); clear hb5)
          go_ret
          exact ⟨rfl, HB5.out⟩
        · have hki : (k : Int) ≤ (i : Int) := by omega
          go_wp2_with fail
          go_ret
          exact ⟨rfl, HBW.out⟩
theorem join_any (B : Option Addr) (xs : List I) (n cx : Nat) (z : Int) (w : World) (hX : HasI w (· < w.heap.size) B xs) (hn : n = xs.length) (ht : 10 * tot xs ≤ 10000000000000) (hl : ∀ x ∈ xs, x.l.length < 4294967296) :
    Calls Try.prog 5 #[.slice B n cx, .int .i64 z] w fun e w' => e = .returned (.bool true) ∧ Below w.heap.size w w' := by
  have htl := tot_len xs
  have hl2 : ∀ x ∈ xs, x.l.length ≤ 140737488355328 := fun x h => by have := hl x h; omega
  have HX := fun W (hb : Below w.heap.size w W) => (hX.mod (Mod.of_below (T := fun _ => False) hb) (fun _ _ _ h => h)).more (fun k _ h => Nat.lt_of_lt_of_le h hb.size)
  cases hx : exprB xs with
  | false =>
    refine join_great B xs n cx z w 2 (fun _ _ _ => True) hX hn (by omega) hl2 (Lib.hid (fun W hb => ?_)) (.inr (.inr rfl))
    subst hn
    refine (appendExpr_any none [] 0 B xs cx W (Has.nil _ _ _) (HX W hb) hl (by simp; omega)).mono ?_
    intro e w' hp
    unfold AEPost at hp
    rw [hx] at hp
    exact ⟨_, hp.1, trivial, hp.2⟩
  | true =>
    by_cases h : 3000 < many xs ∨ 300 < n
    · refine join_great B xs n cx z w 0 (fun _ _ _ => True) hX hn (by omega) hl2 (Lib.hid (fun W hb => ?_)) (by omega)
      subst hn
      refine (appendExpr_any none [] 0 B xs cx W (Has.nil _ _ _) (HX W hb) hl (by simp; omega)).mono ?_
      intro e w' hp
      unfold AEPost at hp
      rw [if_pos hx] at hp
      obtain ⟨v, h1, _, h2⟩ := hp
      exact ⟨v, h1, trivial, h2⟩
    · exact join_main B xs n cx z w hX hn (by omega) (by omega) hx
end Go.Proofs.Ytnechkmdmjhhbaa
