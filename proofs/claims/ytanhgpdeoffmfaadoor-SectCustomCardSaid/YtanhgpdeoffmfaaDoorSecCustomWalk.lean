/-
  The walk over SectCustom, given what Split and Join do. (gen/seccustom.py)
-/
import Derived.Test.YtanhgpdeoffmfaaDoorSecJoinsWalk
import Derived.Test.YtanhgpdeoffmfaaDoorNmKnown
import Derived.Test.YtanhgpdeoffmfaaDoorStrBytes
import Derived.Deep.CutRange
namespace Sec
open Leb
theorem named_body (t own : List UInt8) (h : t.length < 4294967296) : named (encU t.length ++ t ++ own) = U8.text t := by
  unfold named
  have e : encU t.length ++ t ++ own = encU t.length ++ (t ++ own) := by simp
  rw [e, encU_ok _ _ h, run_encU, used_encU, decide_eq_true (by simp only [List.length_append]; omega), List.drop_left, List.take_left]
  simp
theorem rises_take_yes {xs : List S} (h : rises 0 xs = true) (i : Nat) : rises 0 (xs.take i) = true := by
  cases hk : rises 0 (xs.take i) with
  | true => rfl
  | false => rw [rises_take_no hk] at h; cases h
theorem join_drop (xs : List S) (i : Nat) : (join xs).drop (join (xs.take i)).length = encAll (xs.drop i) := by
  have e : join xs = join (xs.take i) ++ encAll (xs.drop i) := by
    unfold join
    rw [List.append_assoc, ← encAll_append, List.take_append_drop]
  conv => lhs; rw [e]
  exact List.drop_left
theorem split_custom5 {xs : List S} (i : Nat) (t own : List UInt8) (hr : rises 0 xs = true) (hl : ∀ s ∈ xs, s.b.length < 4294967296) (ho : (encU t.length ++ t ++ own).length < 4294967296) (ht : t.length < 4294967296) :
    split (join (xs.take i) ++ [0] ++ encU (encU t.length ++ t ++ own).length ++ (encU t.length ++ t ++ own) ++ (join xs).drop (join (xs.take i)).length) = if U8.text t = true then some xs else none := by
  have e := split_custom (xs.take i) (xs.drop i) (encU t.length ++ t ++ own) (by rw [List.take_append_drop]; exact hr) (by rw [List.take_append_drop]; exact hl) ho
  rw [named_body t own ht, List.take_append_drop] at e
  rw [join_drop, ← e]
  congr 1
  simp [custom, enc]
end Sec
namespace Go.Proofs.YtanhgpdeoffmfaaDoor
open Go.RowKit Sec
set_option maxRecDepth 100000 in
set_option maxHeartbeats 4000000 in
theorem custom5_any (hs : SplitOk) (hj : JoinOk) (A : Option Addr) (xs : List S) (n c : Nat) (z : Int) (s : ByteArray) (A1 : Option Addr) (l : List UInt8) (m d : Nat) (w : World) (hX : HasS w w.heap.size A xs) (hn : n = xs.length) (hnc : n ≤ c) (hcm : c ≤ maxLen) (hA0 : A = none → c = 0) (hl : ∀ x ∈ xs, x.b.length ≤ 140737488355328) (hnn : n ≤ 140737488355328)
    (hss : s.size ≤ 9223372036854775807) (hA : Has w w.heap.size A1 l) (hm : m = l.length) (hmm : m ≤ 140737488355328) (hT : Tb w) :
    Calls Tryd.prog 6 #[.slice A n c, .int .i64 z, .string s, .slice A1 m d] w fun e w' => e = .returned (.bool true) ∧ Below w.heap.size w w' := by
  have HR := Lib.hid (rows5 hs hj w hT)
  have HO := Lib.hid (fun W (hb : Below w.heap.size w W) (h : n ≤ 1000000000000) => others_any A xs n c W (hX.on hb) hn h)
  have HOI := Lib.hid (fun (i : Nat) (A' : Option Addr) (c' : Nat) W (_ : Below w.heap.size w W) (hx : HasS W W.heap.size A' (xs.take i)) (hi : i ≤ n) (h : n ≤ 1000000000000) => others_any A' (xs.take i) i c' W hx (by rw [List.length_take]; omega) (by omega))
  have HX := Lib.hid (fun W (hb : Below w.heap.size w W) => hX.on hb)
  have HA := Lib.hid (fun W (hb : Below w.heap.size w W) => hA.on hb)
  have HT := Lib.hid (fun W (hb : Below w.heap.size w W) => hT.on hb)
  have HSP := Lib.hid hs
  have HM := Lib.hid hm
  have HN := Lib.hid hn
  have HL := Lib.hid hl
  have HA0 := Lib.hid hA0
  clear hs hj hX hn hl hT hA hm hA0
  go_enter Tryd.func6, Tryd.ntmps6
  go_wp2_with fail
  refine HR.out.mono ?_
  rintro e w1 ⟨rfl, hb⟩
  have HB1 := Lib.hid hb
  clear hb HR
  go_wp2_with fail
  go_loopw [9, 24] (fun s i wr => ∃ (j t : Nat), j ≤ n ∧ i = .int .i64 (j : Int) ∧ s = .int .i64 (t : Int) ∧ t ≤ 5000 ∧ Hid (t = tot5 (xs.take j)) ∧ Hid (Below w.heap.size w wr)) (fun _ i _ => n - (intOf i).toNat)
  case atStart => exact ⟨0, 0, by omega, rfl, rfl, by omega, Lib.hid (by simp [tot5]), HB1⟩
  case round =>
    obtain ⟨j, t, hjn0, rfl, rfl, ht5, HT5, HB⟩ := hrel
    by_cases hjn : j < n
    · obtain ⟨x, hx⟩ : ∃ x, xs[j]? = some x := ⟨_, List.getElem?_eq_getElem (by have := HN.out; omega)⟩
      have hxl := HL.out x (List.mem_of_getElem? hx)
      obtain ⟨g, oo, A4, c4, rfl, hgB, _, _, _, _, _, k0, k1⟩ := HX.out wr HB.out j x hx
      have hji : (j : Int) < (n : Int) := by omega
      have HTK := Lib.hid (tot5_take hx)
      have hws := HB.out.size
      obtain ⟨xi, xb⟩ := x
      obtain ⟨q, hq⟩ : ∃ q, xb.length = q := ⟨_, rfl⟩
      simp only at hxl k0 k1 HTK
      rw [hq] at hxl k1 HTK
      clear hx hq
      have HX3 : Hid ((wr.alloc (.cells #[.int .u8 (xi : Int), .slice A4 q c4] 35)).heap[wr.heap.size]? = some (.cells #[.int .u8 (xi : Int), .slice A4 q c4] 35 (0, 0))) := Lib.hid (heap_alloc_new wr _)
      have HB3 : Hid (Below w.heap.size w (wr.alloc (.cells #[.int .u8 (xi : Int), .slice A4 q c4] 35))) := Lib.hid (HB.out.alloc hws _)
      go_upto_region 7 with (fail)
      generalize wr.alloc (.cells #[.int .u8 (xi : Int), .slice A4 q c4] 35) = w3 at HX3 HB3 ⊢
      obtain ⟨z0, z1⟩ := cells2 HX3.out
      have hsum0 : (0 : Int) ≤ (t : Int) + (1 + (q : Int)) := by omega
      have hsum1 : (t : Int) + (1 + (q : Int)) ≤ 140737488361000 := by omega
      by_cases hbig : 5000 < t + (1 + q)
      · have hbi : (5000 : Int) < (t : Int) + (1 + (q : Int)) := by omega
        go_wp2_with fail
        go_ret
        exact ⟨rfl, HB3.out⟩
      · have hbi : ¬ (5000 : Int) < (t : Int) + (1 + (q : Int)) := by omega
        go_wp2_with fail
        go_roundw
        case rel => exact ⟨j + 1, t + (1 + q), by omega, by go_num, by go_num, by omega, Lib.hid (by rw [HTK.out, HT5.out]), HB3⟩
        case measure => simp [intOf]; omega
    · obtain rfl : j = n := by omega
      have hall : xs.take j = xs := by rw [HN.out, List.take_length]
      have htot := HT5.out
      rw [hall] at htot
      have hb32 : ∀ s ∈ xs, s.b.length < 4294967296 := fun s hs => by have := tot5_mem hs; omega
      have hjl := join_le5 xs (by omega)
      have HTOT : Hid (tot5 xs ≤ 5000) := Lib.hid (by omega)
      have HB32 := Lib.hid hb32
      have HJL := Lib.hid hjl
      clear hall htot hb32 hjl HT5 HL ht5
      by_cases hz0 : z < 0
      · go_wp2_with fail
        go_ret
        exact ⟨rfl, HB.out⟩
      obtain ⟨i, rfl⟩ := Int.eq_ofNat_of_zero_le (show (0 : Int) ≤ z by omega)
      have hz0i : decide ((i : Int) < 0) = false := decide_eq_false hz0
      by_cases hzn : j < i
      · have hzi : (j : Int) < (i : Int) := by omega
        go_wp2_with fail
        go_ret
        exact ⟨rfl, HB.out⟩
      have hzi : decide ((j : Int) < (i : Int)) = false := decide_eq_false (by omega)
      by_cases hs1 : 1000 < s.size
      · have hsi : (1000 : Int) < (s.size : Int) := by omega
        go_wp2_with fail
        go_ret
        exact ⟨rfl, HB.out⟩
      have hsi : decide ((1000 : Int) < (s.size : Int)) = false := decide_eq_false (by omega)
      by_cases hm1 : 1000 < m
      · have hmi : (1000 : Int) < (m : Int) := by omega
        go_wp2_with fail
        go_ret
        exact ⟨rfl, HB.out⟩
      have hmi : decide ((1000 : Int) < (m : Int)) = false := decide_eq_false (by omega)
      by_cases hn1 : 100 < j
      · have hni : (100 : Int) < (j : Int) := by omega
        go_wp2_with fail
        go_ret
        exact ⟨rfl, HB.out⟩
      have hni : decide ((100 : Int) < (j : Int)) = false := decide_eq_false (by omega)
      have hij : i ≤ j := by omega
      have hj12 : j ≤ 1000000000000 := by omega
      have HOC := Lib.hid (fun W hb => HO.out W hb hj12)
      have HOD := Lib.hid (fun i A' c' W hb hx hi => HOI.out i A' c' W hb hx hi hj12)
      have HRJ := Lib.hid (fun A' c' W (h : HasS W W.heap.size A' xs) => rjoin_any A' xs j c' W h HN.out (by have := HJL.out; omega))
      have HTJ : Hid ((join (xs.take i)).length ≤ 1200000) := Lib.hid (join_le5 _ (by have := tot5_take_le xs i; have := HTOT.out; omega))
      have HRI := Lib.hid (fun A' c' W (h : HasS W W.heap.size A' (xs.take i)) => rjoin_any A' (xs.take i) i c' W h (by rw [List.length_take, ← HN.out]; omega) (by have := HTJ.out; omega))
      unfold RJPost at HRJ HRI
      have HSM := Lib.hid (show s.size ≤ 1000 ∧ m ≤ 1000 by omega)
      clear HO HOI hzn hs1 hm1 hn1 hz0
      go_upto_region 14 with (first | (go_at_call 15; refine (HOC.out _ HB.out).mono ?_; rintro e w3 ⟨A3, c3, rfl, _, _, hx3, hb3⟩; have HB3 := Lib.hid (HB.out.trans (hb3.mono HB.out.size)); have HX3 := Lib.hid hx3; clear hb3 hx3) | (go_at_call 14; refine (HRJ.out _ _ _ HX3.out).mono ?_; rintro e w4 ⟨hb4, h4⟩; have HB4 := Lib.hid (HB3.out.trans (hb4.mono HB3.out.size)); obtain ⟨v4, he4, ho4⟩ : ∃ v4, e = .returned (.tuple #[v4, .bool (rises 0 xs)]) ∧ (rises 0 xs = true → w4.ownsRow w3.heap.size 5 1 v4 (join xs).length (bytesOf (join xs))) := (by cases hr : rises 0 xs with | true => (rw [if_pos hr] at h4; obtain ⟨v, h5, h6⟩ := h4; exact ⟨v, h5, fun _ => h6⟩) | false => (rw [if_neg (by rw [hr]; decide)] at h4; exact ⟨_, h4, fun h => by cases h⟩)); subst he4; have HO4 := Lib.hid ho4; clear hb4 h4 ho4))
      have hic : (i : Int) ≤ (c : Int) := by omega
      go_cut [14, 15] from 66 to 73 (fun h ok wx => ∃ (Ah : Option Addr) (kh ch : Nat), h = .slice Ah kh ch ∧ ok = .bool (rises 0 (xs.take i)) ∧ Hid (rises 0 (xs.take i) = true → kh = (join (xs.take i)).length ∧ Has wx wx.heap.size Ah (join (xs.take i))) ∧ Hid (Below w4.heap.size w4 wx))
      case first =>
        clear HRJ HOC HO4
        cases A with
        | none =>
          obtain rfl : c = 0 := HA0.out rfl
          go_wp2_with (first | (go_at_call 15; refine (HOD.out i _ _ _ HB4.out ((HX.out _ HB4.out).take i) hij).mono ?_; rintro e w5 ⟨A5, c5, rfl, _, _, hx5, hb5⟩; have HB5 := Lib.hid hb5; have HX5 := Lib.hid hx5; clear hb5 hx5) | (go_at_call 14; refine (HRI.out _ _ _ HX5.out).mono ?_; rintro e w6 ⟨hb6, h6⟩; obtain ⟨A6, k6, c6, he6, hh6⟩ : ∃ A6 k6 c6, e = .returned (.tuple #[.slice A6 k6 c6, .bool (rises 0 (xs.take i))]) ∧ (rises 0 (xs.take i) = true → k6 = (join (xs.take i)).length ∧ Has w6 w6.heap.size A6 (join (xs.take i))) := (by cases hr : rises 0 (xs.take i) with | true => (rw [if_pos hr] at h6; obtain ⟨v, h7, h8⟩ := h6; obtain ⟨A6, c6, rfl, _, _, _, _, hh⟩ := own_sl h8; exact ⟨A6, _, c6, h7, fun _ => ⟨rfl, hh⟩⟩) | false => (rw [if_neg (by rw [hr]; decide)] at h6; exact ⟨none, 0, 0, h6, fun h => by cases h⟩)); subst he6; have HH6 := Lib.hid hh6; have HB6 := Lib.hid (HB5.out.trans (hb6.mono HB5.out.size)); clear hb6 h6 hh6))
          go_meet
          case rel => exact ⟨A6, k6, c6, rfl, rfl, HH6, HB6⟩
        | some ad =>
          by_cases hc0 : c = 0
          · subst hc0
            go_wp2_with (first | (go_at_call 15; refine (HOD.out i _ _ _ HB4.out ((HX.out _ HB4.out).take i) hij).mono ?_; rintro e w5 ⟨A5, c5, rfl, _, _, hx5, hb5⟩; have HB5 := Lib.hid hb5; have HX5 := Lib.hid hx5; clear hb5 hx5) | (go_at_call 14; refine (HRI.out _ _ _ HX5.out).mono ?_; rintro e w6 ⟨hb6, h6⟩; obtain ⟨A6, k6, c6, he6, hh6⟩ : ∃ A6 k6 c6, e = .returned (.tuple #[.slice A6 k6 c6, .bool (rises 0 (xs.take i))]) ∧ (rises 0 (xs.take i) = true → k6 = (join (xs.take i)).length ∧ Has w6 w6.heap.size A6 (join (xs.take i))) := (by cases hr : rises 0 (xs.take i) with | true => (rw [if_pos hr] at h6; obtain ⟨v, h7, h8⟩ := h6; obtain ⟨A6, c6, rfl, _, _, _, _, hh⟩ := own_sl h8; exact ⟨A6, _, c6, h7, fun _ => ⟨rfl, hh⟩⟩) | false => (rw [if_neg (by rw [hr]; decide)] at h6; exact ⟨none, 0, 0, h6, fun h => by cases h⟩)); subst he6; have HH6 := Lib.hid hh6; have HB6 := Lib.hid (HB5.out.trans (hb6.mono HB5.out.size)); clear hb6 h6 hh6))
            go_meet
            case rel => exact ⟨A6, k6, c6, rfl, rfl, HH6, HB6⟩
          · go_wp2_with (first | (go_at_call 15; refine (HOD.out i _ _ _ HB4.out ((HX.out _ HB4.out).take i) hij).mono ?_; rintro e w5 ⟨A5, c5, rfl, _, _, hx5, hb5⟩; have HB5 := Lib.hid hb5; have HX5 := Lib.hid hx5; clear hb5 hx5) | (go_at_call 14; refine (HRI.out _ _ _ HX5.out).mono ?_; rintro e w6 ⟨hb6, h6⟩; obtain ⟨A6, k6, c6, he6, hh6⟩ : ∃ A6 k6 c6, e = .returned (.tuple #[.slice A6 k6 c6, .bool (rises 0 (xs.take i))]) ∧ (rises 0 (xs.take i) = true → k6 = (join (xs.take i)).length ∧ Has w6 w6.heap.size A6 (join (xs.take i))) := (by cases hr : rises 0 (xs.take i) with | true => (rw [if_pos hr] at h6; obtain ⟨v, h7, h8⟩ := h6; obtain ⟨A6, c6, rfl, _, _, _, _, hh⟩ := own_sl h8; exact ⟨A6, _, c6, h7, fun _ => ⟨rfl, hh⟩⟩) | false => (rw [if_neg (by rw [hr]; decide)] at h6; exact ⟨none, 0, 0, h6, fun h => by cases h⟩)); subst he6; have HH6 := Lib.hid hh6; have HB6 := Lib.hid (HB5.out.trans (hb6.mono HB5.out.size)); clear hb6 h6 hh6))
            go_meet
            case rel => exact ⟨A6, k6, c6, rfl, rfl, HH6, HB6⟩
      case rest =>
        obtain ⟨Ah, kh, ch, rfl, rfl, HHD, HBc⟩ := hcut
        have HBW := Lib.hid (HB4.out.trans (HBc.out.mono HB4.out.size))
        cases hr : rises 0 xs with
        | false =>
          clear HRJ HRI HOC HOD HX3 HX HO4 HHD hr
          go_wp2_with fail
          go_ret
          exact ⟨rfl, HBW.out⟩
        | true =>
          have hri := rises_take_yes hr i
          obtain ⟨hkh, hhh⟩ := HHD.out hri
          rw [hri]
          have hts : s.data.toList.length = s.size := by rw [Array.length_toList]; rfl
          obtain ⟨hs1, hm1⟩ := HSM.out
          have hl1000 : l.length ≤ 1000 := by have := HM.out; omega
          have he10 := Leb.encU_le10 s.data.toList.length (by omega)
          have hsc := split_custom5 (xs := xs) i s.data.toList l hr HB32.out (by simp only [List.length_append]; omega) (by omega)
          have hba : (join (xs.take i)).length ≤ (join xs).length := by
            have := encAll_take_le xs i
            simp only [join, List.length_append]
            omega
          obtain ⟨A4, c4, hv4, _, h41, h42, hA40, hh4⟩ := own_sl (HO4.out hr)
          subst hv4
          have hh4c := hh4.on HBc.out
          have hjl := HJL.out
          have htj := HTJ.out
          have hch : kh = (join (xs.take i)).length := hkh
          clear hkh HHD HO4 hh4 HRJ HRI HOD HTJ HJL HTOT HB32 hri
          generalize join (xs.take i) = JH at *
          generalize join xs = JA at *
          obtain ⟨b, hb⟩ : ∃ b, JH.length = b := ⟨_, rfl⟩
          obtain ⟨a, ha⟩ : ∃ a, JA.length = a := ⟨_, rfl⟩
          obtain rfl : kh = b := by rw [hch, hb]
          obtain ⟨P, hP⟩ : ∃ P, P = Leb.encU s.data.toList.length ++ s.data.toList := ⟨_, rfl⟩
          rw [← hP] at hsc
          have hPl : P.length ≤ 1010 := by rw [hP, List.length_append]; omega
          obtain ⟨N, hN⟩ : ∃ N, (P ++ l).length = N := ⟨_, rfl⟩
          have hNb : N ≤ 2010 := by rw [← hN, List.length_append]; omega
          rw [hN] at hsc
          have hPe : P.length = 0 + (Leb.encU s.size).length + s.size := by rw [hP, List.length_append, hts]; omega
          have hPn : ([] : List UInt8) ++ Leb.encU s.size ++ s.data.toList = P := by rw [hP, hts]; rfl
          have hna := nappend_any none [] 0 0 s wc rfl (by omega) (by omega) (Has.nil _ _ _)
          rw [hPn, show 0 + (Leb.encU s.size).length + s.size = P.length from hPe.symm] at hna
          have HNA := Lib.hid hna
          have HP := Lib.hid hP
          have HSC := Lib.hid hsc
          have hh4 := Lib.hid hh4c
          have hhj := Lib.hid hhh
          have H42 := Lib.hid h42
          have HCH := Lib.hid hch
          have HNN := Lib.hid hN
          have HTS := Lib.hid hts
          have hkb : kh ≤ 1200000 := by omega
          have hkj : kh ≤ JA.length := by omega
          clear hna hPn hPe hP hsc hh4c hhh h42 hch hN hts he10 hb
          go_upto_region 18 with (first | (go_at_call 16; refine HNA.out.mono ?_; rintro e w17 ⟨v17, rfl, ho17, hb17⟩; obtain ⟨v18, w18, hr18, ha18⟩ := appends_adds w17 wc.heap.size m d v17 P l A1 ho17 (HA.out _ (HBW.out.trans (hb17.mono HBW.out.size))) HM.out (by have := HM.out; omega) hb17.size; have HB18 := Lib.hid (hb17.trans (ha18.below (own_ge ho17) hb17.size)); have HA18 := Lib.hid ha18.1; have HR18 := Lib.hid hr18; clear ho17 hb17 hr18 ha18) | (at_builtin; refine wpList_appends rfl (.tmp 81) (.tmp 82) 22 rfl _ _ _ w18 rfl rfl HR18.out ?_))
          obtain ⟨A8, c8, rfl, _, h81, h82, _, hh8⟩ := own_sl HA18.out
          rw [HNN.out] at h81 ⊢
          clear HNA HR18
          have hb0 : Below w18.heap.size w18 (w18.alloc (.cells #[] 5)) := (Below.refl _ _).alloc (Nat.le_refl _) _
          have hown0 : (w18.alloc (.cells #[] 5)).ownsRow w18.heap.size 5 1 (.slice (some ⟨w18.heap.size, 0, none⟩) 0 0) 0 (bytesOf []) :=
            ⟨rfl, .inr ⟨w18.heap.size, 0, #[], rfl, Nat.le_refl _, heap_alloc_new w18 _, Nat.le_refl _, by unfold maxLen; omega, rfl, rfl⟩⟩
          obtain ⟨v19, w19, hr19, ha19⟩ := appends_adds (w18.alloc (.cells #[] 5)) w18.heap.size kh ch _ [] JH Ah hown0 ((hhj.out.on HB18.out).on hb0) HCH.out (by simp; omega) hb0.size
          have hb19 := hb0.trans (ha19.below (own_ge hown0) hb0.size)
          obtain ⟨v20, w20, hr20, ha20⟩ := append1_adds w19 w18.heap.size v19 ([] ++ JH) 0 ha19.1 (by simp; omega) hb19.size
          have hb20 := hb19.trans (ha20.below (own_ge ha19.1) hb19.size)
          obtain ⟨A9, c9, rfl, _, h91, h92, _, hh9⟩ := own_sl ha20.1
          rw [List.nil_append] at hh9 h91 hr20
          obtain ⟨q9, hq9⟩ : ∃ q, (JH ++ [0]).length = q := ⟨_, rfl⟩
          rw [hq9] at hr20
          have hq9b : q9 ≤ 1200001 := by rw [← hq9, List.length_append]; simp only [List.length_singleton]; omega
          clear ha20
          have HC11 := Lib.hid (c11 A9 (JH ++ [0]) q9 c9 N w20 hq9.symm (by omega) hh9 (by omega))
          have HH8 := Lib.hid (hh8.on hb20)
          have HB20 := Lib.hid (HB18.out.trans (hb20.mono HB18.out.size))
          have HR19 := Lib.hid hr19
          have HR20 := Lib.hid hr20
          have hE := Leb.encU_le10 N (by omega)
          have hwr : IntKind.u64.wrap (N : Int) = (N : Int) := IntWalk.u64_in _ (by omega)
          have HQ9 := Lib.hid hq9
          clear hq9 hb0 hown0 hr19 ha19 hb19 hr20 hb20 hh9 hh8 HA18 hhj
          go_upto_region 19 with (at_builtin; refine wpList_appends rfl (.tmp 84) (.tmp 85) 22 rfl _ _ _ w19 rfl rfl HR19.out ?_)
          go_upto_region 20 with (first | (at_builtin; refine wpList_appends rfl (.tmp 87) (.tmp 88) 22 rfl _ _ _ w20 rfl rfl HR20.out ?_) | (go_at_call 17; refine HC11.out.mono ?_; rintro e w21 ⟨v21, rfl, ho21, hb21⟩; have ho21' : w21.ownsRow w20.heap.size 5 1 v21 (JH ++ [0] ++ Leb.encU N).length (bytesOf (JH ++ [0] ++ Leb.encU N)) := (by rw [List.length_append, HQ9.out]; exact ho21); obtain ⟨v22, w22, hr22, ha22⟩ := appends_adds w21 w20.heap.size N c8 v21 (JH ++ [0] ++ Leb.encU N) (P ++ l) A8 ho21' (HH8.out.on hb21) HNN.out.symm (by rw [HNN.out, List.length_append, HQ9.out]; omega) hb21.size; have hb22 := hb21.trans (ha22.below (own_ge ho21') hb21.size); have HB22 := Lib.hid (HB20.out.trans (hb22.mono HB20.out.size)); have HA22 := Lib.hid ha22.1; have HR22 := Lib.hid hr22; have HL22 : Hid (w20.heap.size ≤ w22.heap.size) := Lib.hid hb22.size; clear ho21 ho21' hb21 hb22 hr22 ha22) | (at_builtin; refine wpList_appends rfl (.tmp 93) (.tmp 94) 22 rfl _ _ _ w22 rfl rfl HR22.out ?_))
          have HK4 : Hid (Has w22 w22.heap.size A4 JA) := Lib.hid (hh4.out.on HB22.out)
          obtain ⟨T, hT⟩ : ∃ T, T = JH ++ [0] ++ Leb.encU N ++ (P ++ l) := ⟨_, rfl⟩
          have hTl : T.length ≤ 2000000 := by rw [hT, List.length_append, List.length_append, HNN.out, HQ9.out]; omega
          have ho22 := HA22.out
          rw [← hT] at ho22
          have hsc := HSC.out
          rw [← hT, ← HCH.out] at hsc
          obtain ⟨R, hR⟩ : ∃ R, R = List.drop kh JA := ⟨_, rfl⟩
          rw [← hR] at hsc
          have hRl : R.length = a - kh := by rw [hR, List.length_drop, ha]
          have HO22 := Lib.hid ho22
          have HSC2 := Lib.hid hsc
          have HR := Lib.hid hR
          clear ho22 hsc hT hR HA22 HSC HR19 HR20 HR22 HC11 HH8 hwr
          by_cases hck : c4 = kh
          · obtain rfl : c4 = kh := hck
            obtain rfl : a = c4 := by omega
            have hR0 : R.length = 0 := by omega
            have hHR : Has w22 w22.heap.size A4 R := by
              rw [List.length_eq_zero_iff.1 hR0]
              exact Has.nil _ _ _
            obtain ⟨v23, w23, hr23, ha23⟩ := appends_adds w22 w20.heap.size 0 0 v22 T R A4 HO22.out hHR (by omega) (by omega) HL22.out
            have HB23 := Lib.hid (HB22.out.trans ((ha23.below (own_ge HO22.out) HL22.out).mono HB20.out.size))
            obtain ⟨A10, c10, rfl, _, h101, h102, h103, hh10⟩ := own_sl ha23.1
            obtain ⟨t10, ht10⟩ : ∃ t, (T ++ R).length = t := ⟨_, rfl⟩
            have ht10b : t10 ≤ 3300000 := by rw [← ht10, List.length_append]; omega
            rw [ht10] at h101 hr23
            have hBW23 := HBW.out.trans (HB23.out.mono HBW.out.size)
            have HBW23 := Lib.hid hBW23
            have HT23 := Lib.hid (HT.out _ hBW23)
            have HR23 := Lib.hid hr23
            by_cases htx : U8.text s.data.toList = true
            · have HTX := Lib.hid htx
              have HS24 := Lib.hid (HSP.out.some hh10 ht10.symm (by omega) h101 h102 h103 HT23.out (by rw [HSC2.out, if_pos htx]))
              clear hHR hr23 ha23 hh10 ht10 hBW23 htx hRl hTl HO22 HK4
              go_upto_region 22 with (first | (at_builtin; refine wpList_appends rfl (.tmp 96) (.tmp 100) 22 rfl _ _ _ w23 rfl rfl HR23.out ?_) | (go_at_call 9; refine HS24.out.mono ?_; rintro e w24 ⟨A11, c11', rfl, _, _, hx11, hb24⟩; have HX11 := Lib.hid hx11; have HBW24 := Lib.hid (HBW23.out.trans (hb24.mono HBW23.out.size)); clear hx11 hb24))
              obtain ⟨A12, c12, w25, hr25, h12c, hh12, hb25⟩ := bytes_of w24 s
              have HBW25 := Lib.hid (HBW24.out.trans (hb25.mono HBW24.out.size))
              have HX25 := Lib.hid (HX11.out.on hb25)
              have HV25 := Lib.hid (nvalid_any A12 s.data.toList s.size c12 w25 HTS.out.symm (by omega) h12c hh12 (HT.out _ HBW25.out))
              clear hb25 hh12
              go_wp2_with (first | (go_at_call 18; refine HV25.out.mono ?_; rintro e w26 ⟨he, hb26⟩; obtain rfl : e = .returned (.bool true) := (by rw [he, HTX.out]); have HBW26 := Lib.hid (HBW25.out.trans (hb26.mono HBW25.out.size)); have HX26 := Lib.hid (HX25.out.on hb26); clear he hb26) | (go_at_call 15; refine (HOC.out _ HBW26.out).mono ?_; rintro e w27 ⟨A13, c13, rfl, _, _, hx13, hb27⟩; have HX13 := Lib.hid hx13; have HX27 := Lib.hid (HX26.out.on hb27); have HBW27 := Lib.hid (HBW26.out.trans (hb27.mono HBW26.out.size)); clear hx13 hb27) | (go_at_call 11; refine (same5_any A11 xs xs.length c11' A13 xs j c13 _ HX27.out rfl HX13.out HN.out (by have := HN.out; omega)).mono ?_; rintro e w28 ⟨he, hb28⟩; obtain rfl : e = .returned (.bool true) := (by rw [he]; simp); have HBW28 := Lib.hid (HBW27.out.trans (hb28.mono HBW27.out.size)); clear he hb28))
              go_ret
              exact ⟨rfl, HBW28.out⟩
            · have HTX : Hid (U8.text s.data.toList = false) := Lib.hid (by cases hh : U8.text s.data.toList with | true => exact absurd hh htx | false => rfl)
              have HS24 := Lib.hid (HSP.out.none hh10 ht10.symm (by omega) h101 h102 h103 HT23.out (by rw [HSC2.out, if_neg htx]))
              clear hHR hr23 ha23 hh10 ht10 hBW23 htx hRl hTl HO22 HK4
              go_upto_region 22 with (first | (at_builtin; refine wpList_appends rfl (.tmp 96) (.tmp 100) 22 rfl _ _ _ w23 rfl rfl HR23.out ?_) | (go_at_call 9; refine HS24.out.mono ?_; rintro e w24 ⟨A11, c11', rfl, hb24⟩; have HBW24 := Lib.hid (HBW23.out.trans (hb24.mono HBW23.out.size)); clear hb24))
              obtain ⟨A12, c12, w25, hr25, h12c, hh12, hb25⟩ := bytes_of w24 s
              have HBW25 := Lib.hid (HBW24.out.trans (hb25.mono HBW24.out.size))
              have HV25 := Lib.hid (nvalid_any A12 s.data.toList s.size c12 w25 HTS.out.symm (by omega) h12c hh12 (HT.out _ HBW25.out))
              clear hb25 hh12
              go_wp2_with (go_at_call 18; refine HV25.out.mono ?_; rintro e w26 ⟨he, hb26⟩; obtain rfl : e = .returned (.bool false) := (by rw [he, HTX.out]); have HBW26 := Lib.hid (HBW25.out.trans (hb26.mono HBW25.out.size)); clear he hb26)
              go_ret
              exact ⟨rfl, HBW26.out⟩
          · cases A4 with
            | none => exact absurd (hA40 rfl) (by omega)
            | some ad =>
              have hHR : Has w22 w22.heap.size (some (ad.add kh)) R := by
                rw [HR.out]
                exact HK4.out.from kh
              have hck0 : ¬ c4 - kh = 0 := by omega
              obtain ⟨v23, w23, hr23, ha23⟩ := appends_adds w22 w20.heap.size (a - kh) (c4 - kh) v22 T R (some (ad.add kh)) HO22.out hHR (by omega) (by omega) HL22.out
              have HB23 := Lib.hid (HB22.out.trans ((ha23.below (own_ge HO22.out) HL22.out).mono HB20.out.size))
              obtain ⟨A10, c10, rfl, _, h101, h102, h103, hh10⟩ := own_sl ha23.1
              obtain ⟨t10, ht10⟩ : ∃ t, (T ++ R).length = t := ⟨_, rfl⟩
              have ht10b : t10 ≤ 3300000 := by rw [← ht10, List.length_append]; omega
              rw [ht10] at h101 hr23
              have hBW23 := HBW.out.trans (HB23.out.mono HBW.out.size)
              have HBW23 := Lib.hid hBW23
              have HT23 := Lib.hid (HT.out _ hBW23)
              have HR23 := Lib.hid hr23
              by_cases htx : U8.text s.data.toList = true
              · have HTX := Lib.hid htx
                have HS24 := Lib.hid (HSP.out.some hh10 ht10.symm (by omega) h101 h102 h103 HT23.out (by rw [HSC2.out, if_pos htx]))
                clear hHR hr23 ha23 hh10 ht10 hBW23 htx hRl hTl HO22 HK4
                go_upto_region 22 with (first | (at_builtin; refine wpList_appends rfl (.tmp 96) (.tmp 100) 22 rfl _ _ _ w23 rfl rfl HR23.out ?_) | (go_at_call 9; refine HS24.out.mono ?_; rintro e w24 ⟨A11, c11', rfl, _, _, hx11, hb24⟩; have HX11 := Lib.hid hx11; have HBW24 := Lib.hid (HBW23.out.trans (hb24.mono HBW23.out.size)); clear hx11 hb24))
                obtain ⟨A12, c12, w25, hr25, h12c, hh12, hb25⟩ := bytes_of w24 s
                have HBW25 := Lib.hid (HBW24.out.trans (hb25.mono HBW24.out.size))
                have HX25 := Lib.hid (HX11.out.on hb25)
                have HV25 := Lib.hid (nvalid_any A12 s.data.toList s.size c12 w25 HTS.out.symm (by omega) h12c hh12 (HT.out _ HBW25.out))
                clear hb25 hh12
                go_wp2_with (first | (go_at_call 18; refine HV25.out.mono ?_; rintro e w26 ⟨he, hb26⟩; obtain rfl : e = .returned (.bool true) := (by rw [he, HTX.out]); have HBW26 := Lib.hid (HBW25.out.trans (hb26.mono HBW25.out.size)); have HX26 := Lib.hid (HX25.out.on hb26); clear he hb26) | (go_at_call 15; refine (HOC.out _ HBW26.out).mono ?_; rintro e w27 ⟨A13, c13, rfl, _, _, hx13, hb27⟩; have HX13 := Lib.hid hx13; have HX27 := Lib.hid (HX26.out.on hb27); have HBW27 := Lib.hid (HBW26.out.trans (hb27.mono HBW26.out.size)); clear hx13 hb27) | (go_at_call 11; refine (same5_any A11 xs xs.length c11' A13 xs j c13 _ HX27.out rfl HX13.out HN.out (by have := HN.out; omega)).mono ?_; rintro e w28 ⟨he, hb28⟩; obtain rfl : e = .returned (.bool true) := (by rw [he]; simp); have HBW28 := Lib.hid (HBW27.out.trans (hb28.mono HBW27.out.size)); clear he hb28))
                go_ret
                exact ⟨rfl, HBW28.out⟩
              · have HTX : Hid (U8.text s.data.toList = false) := Lib.hid (by cases hh : U8.text s.data.toList with | true => exact absurd hh htx | false => rfl)
                have HS24 := Lib.hid (HSP.out.none hh10 ht10.symm (by omega) h101 h102 h103 HT23.out (by rw [HSC2.out, if_neg htx]))
                clear hHR hr23 ha23 hh10 ht10 hBW23 htx hRl hTl HO22 HK4
                go_upto_region 22 with (first | (at_builtin; refine wpList_appends rfl (.tmp 96) (.tmp 100) 22 rfl _ _ _ w23 rfl rfl HR23.out ?_) | (go_at_call 9; refine HS24.out.mono ?_; rintro e w24 ⟨A11, c11', rfl, hb24⟩; have HBW24 := Lib.hid (HBW23.out.trans (hb24.mono HBW23.out.size)); clear hb24))
                obtain ⟨A12, c12, w25, hr25, h12c, hh12, hb25⟩ := bytes_of w24 s
                have HBW25 := Lib.hid (HBW24.out.trans (hb25.mono HBW24.out.size))
                have HV25 := Lib.hid (nvalid_any A12 s.data.toList s.size c12 w25 HTS.out.symm (by omega) h12c hh12 (HT.out _ HBW25.out))
                clear hb25 hh12
                go_wp2_with (go_at_call 18; refine HV25.out.mono ?_; rintro e w26 ⟨he, hb26⟩; obtain rfl : e = .returned (.bool false) := (by rw [he, HTX.out]); have HBW26 := Lib.hid (HBW25.out.trans (hb26.mono HBW25.out.size)); clear he hb26)
                go_ret
                exact ⟨rfl, HBW26.out⟩
end Go.Proofs.YtanhgpdeoffmfaaDoor
