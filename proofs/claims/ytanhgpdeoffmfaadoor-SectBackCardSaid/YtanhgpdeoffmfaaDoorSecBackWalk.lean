/-
  The walk over SectBack, given what Split and Join do. (gen/secback.py)
-/
import Derived.Test.YtanhgpdeoffmfaaDoorSecJoinsWalk
namespace Sec
theorem rises_len : ∀ (xs : List S) (k : Nat), rises k xs = true → k ≤ 11 → xs.length + k ≤ 11
  | [], k, _, h => by simpa using h
  | s :: xs, k, h, _ => by
    simp only [rises, Bool.and_eq_true, decide_eq_true_eq] at h
    have := rises_len xs s.id h.2 h.1.2
    simp only [List.length_cons]
    omega
end Sec
namespace Go.Proofs.YtanhgpdeoffmfaaDoor
open Go.RowKit Sec
set_option maxRecDepth 100000 in
set_option maxHeartbeats 4000000 in
theorem back5_any (hs : SplitOk) (hj : JoinOk) (A : Option Addr) (xs : List S) (n c : Nat) (A1 : Option Addr) (l : List UInt8) (m d : Nat) (w : World) (hX : HasS w w.heap.size A xs) (hn : n = xs.length) (hnc : n ≤ c) (hcm : c ≤ maxLen) (hl : ∀ x ∈ xs, x.b.length ≤ 140737488355328) (hnn : n ≤ 140737488355328)
    (hA : Has w w.heap.size A1 l) (hm : m = l.length) (hmm : m ≤ 140737488355328) (hmd : m ≤ d) (hdm : d ≤ maxLen) (hAd : A1 = none → d = 0) (hT : Tb w) :
    Calls Tryd.prog 5 #[.slice A n c, .slice A1 m d] w fun e w' => e = .returned (.bool true) ∧ Below w.heap.size w w' := by
  have HR := Lib.hid (rows5 hs hj w hT)
  have HJ := Lib.hid (fun W (hb : Below w.heap.size w W) => hj.yes (A := A) (xs := xs) (n := n) (c := c) (hX.on hb) hn hnc hcm)
  have HJN := Lib.hid (fun W (hb : Below w.heap.size w W) => hj.no (A := A) (xs := xs) (n := n) (c := c) (hX.on hb) hn hnc hcm)
  have HO := Lib.hid (fun W (hb : Below w.heap.size w W) (h : n ≤ 1000000000000) => others_any A xs n c W (hX.on hb) hn h)
  have HX := Lib.hid (fun W (hb : Below w.heap.size w W) => hX.on hb)
  have HSB := Lib.hid (fun W (hb : Below w.heap.size w W) => hs A1 l m d W (hA.on hb) hm hmm hmd hdm hAd (hT.on hb))
  have HKV := Lib.hid (fun W (hb : Below w.heap.size w W) => run_str (hA.on hb) hm d)
  have HSP := Lib.hid (fun (B : Option Addr) (q : List UInt8) (k e : Nat) W (hb : Below w.heap.size w W) (hB : Has W W.heap.size B q) (h1 : k = q.length) (h2 : k ≤ 140737488355328) (h3 : k ≤ e) (h4 : e ≤ maxLen) (h5 : B = none → e = 0) (ys : List S) (h : split q = some ys) => hs.some hB h1 h2 h3 h4 h5 (hT.on hb) h)
  have HJA := Lib.hid hj
  have HM := Lib.hid hm
  have HN := Lib.hid hn
  have HL := Lib.hid hl
  clear hs hj hX hn hl hT hA hm hmd hdm hAd
  go_enter Tryd.func5, Tryd.ntmps5
  go_wp2_with fail
  refine HR.out.mono ?_
  rintro e w1 ⟨rfl, hb⟩
  have HB1 := Lib.hid hb
  clear hb HR
  go_wp2_with fail
  go_loopw [5, 24] (fun s i wr => ∃ (j t : Nat), j ≤ n ∧ i = .int .i64 (j : Int) ∧ s = .int .i64 (t : Int) ∧ t ≤ 140737488365328 ∧ Hid (t = m + tot5 (xs.take j)) ∧ Hid (j = 0 ∨ n ≤ 100 ∧ t ≤ 10000) ∧ Hid (Below w.heap.size w wr)) (fun _ i _ => n - (intOf i).toNat)
  case atStart => exact ⟨0, m, by omega, rfl, rfl, by omega, Lib.hid (by simp [tot5]), Lib.hid (.inl rfl), HB1⟩
  case round =>
    obtain ⟨j, t, hjn0, rfl, rfl, ht5, HT5, HJ0, HB⟩ := hrel
    by_cases hjn : j < n
    · obtain ⟨x, hx⟩ : ∃ x, xs[j]? = some x := ⟨_, List.getElem?_eq_getElem (by have := HN.out; omega)⟩
      have hxl := HL.out x (List.mem_of_getElem? hx)
      obtain ⟨g, oo, A4, c4, rfl, hgB, _, _, _, _, _, k0, k1⟩ := HX.out wr HB.out j x hx
      have hji : (j : Int) < (n : Int) := by omega
      have HTK := Lib.hid (tot5_take hx)
      have hws := HB.out.size
      obtain ⟨xi, xb⟩ := x
      obtain ⟨q, hq⟩ : ∃ q, xb.length = q := ⟨_, rfl⟩
      simp only at hxl k0 k1 HTK
      rw [hq] at hxl k1 HTK
      clear hx hq
      have HX3 : Hid ((wr.alloc (.cells #[.int .u8 (xi : Int), .slice A4 q c4] 35)).heap[wr.heap.size]? = some (.cells #[.int .u8 (xi : Int), .slice A4 q c4] 35 (0, 0))) := Lib.hid (heap_alloc_new wr _)
      have HB3 : Hid (Below w.heap.size w (wr.alloc (.cells #[.int .u8 (xi : Int), .slice A4 q c4] 35))) := Lib.hid (HB.out.alloc hws _)
      go_upto_region 7 with (fail)
      generalize wr.alloc (.cells #[.int .u8 (xi : Int), .slice A4 q c4] 35) = w3 at HX3 HB3 ⊢
      obtain ⟨z0, z1⟩ := cells2 HX3.out
      have hsum0 : (0 : Int) ≤ (t : Int) + (1 + (q : Int)) := by omega
      have hsum1 : (t : Int) + (1 + (q : Int)) ≤ 281474976800000 := by omega
      by_cases hbig : 10000 < t + (1 + q)
      · have hbi : (10000 : Int) < (t : Int) + (1 + (q : Int)) := by omega
        go_wp2_with fail
        go_ret
        exact ⟨rfl, HB3.out⟩
      · have hbi : decide ((10000 : Int) < (t : Int) + (1 + (q : Int))) = false := decide_eq_false (by omega)
        by_cases hn100 : 100 < n
        · have hni : (100 : Int) < (n : Int) := by omega
          go_wp2_with fail
          go_ret
          exact ⟨rfl, HB3.out⟩
        · have hni : decide ((100 : Int) < (n : Int)) = false := decide_eq_false (by omega)
          go_wp2_with fail
          go_roundw
          case rel => exact ⟨j + 1, t + (1 + q), by omega, by go_num, by go_num, by omega, Lib.hid (by rw [HTK.out, HT5.out]; omega), Lib.hid (.inr ⟨by omega, by omega⟩), HB3⟩
          case measure => simp [intOf]; omega
    · obtain rfl : j = n := by omega
      have hall : xs.take j = xs := by rw [HN.out, List.take_length]
      have htot := HT5.out
      rw [hall] at htot
      have htot2 : tot5 xs ≤ 10000 ∧ j ≤ 100 := by
        rcases HJ0.out with h | h
        · have : xs = [] := List.eq_nil_of_length_eq_zero (by rw [← HN.out]; exact h)
          subst this
          exact ⟨by simp [tot5], by omega⟩
        · omega
      have hjl := join_le5 xs (by omega)
      have hb32 : ∀ s ∈ xs, s.b.length < 4294967296 := fun s hs => by have := tot5_mem hs; omega
      have HJC := Lib.hid (fun W hb h => HJ.out W hb (by omega) h)
      have HJD := Lib.hid (fun W hb h => HJN.out W hb (by omega) h)
      have HOC := Lib.hid (fun W hb => HO.out W hb (by omega))
      have HSJ : Hid (rises 0 xs = true → split (join xs) = some xs) := Lib.hid (fun h => split_join xs h hb32)
      have HJL : Hid ((join xs).length ≤ 140737488355328) := Lib.hid (by omega)
      have hj12 : j ≤ 1000000000000 := by omega
      have HSB' := HSB
      unfold SPost at HSB'
      clear hall htot hjl HJ HJN HO HT5 HJ0 HL htot2 hb32 ht5
      cases hr : rises 0 xs with
      | false =>
        have HR0 := Lib.hid hr
        clear hr
        cases hsp : split l with
        | none =>
          rw [hsp] at HSB'
          have HNO := Lib.hid hsp
          simp only at HSB'
          clear hsp
          have tok1 : True := trivial
          have tok2 : True := trivial
          have tok3 : True := trivial
          have tok4 : True := trivial
          have tok5 : True := trivial
          have tok6 : True := trivial
          go_wp2_with (first | (go_at_call 13; clear tok1; refine (HJD.out _ HB.out HR0.out).mono ?_; rintro e w8 ⟨A8, c8', rfl, hb8⟩; have HB8 := Lib.hid (HB.out.trans (hb8.mono HB.out.size)); have cv8 := HKV.out _ HB8.out; clear hb8) | (go_at_call 9; refine (HSB'.out _ HB8.out).mono ?_; rintro e w9 ⟨hb9, A9, c9', rfl⟩; have HB9 := Lib.hid (HB8.out.trans (hb9.mono HB8.out.size)); have cv9 := HKV.out _ HB9.out; clear hb9))
          go_ret
          exact ⟨rfl, HB9.out⟩
        | some ys =>
          rw [hsp] at HSB'
          simp only at HSB'
          obtain ⟨hy1, hy2, hy3, _⟩ := split_back hsp
          have HYS := Lib.hid (split_join ys hy1 hy2)
          have hy4 := rises_len ys 0 hy1 (by omega)
          have hyl : ys.length ≤ 11 := by omega
          have HYR := Lib.hid hy1
          have HYL : Hid ((join ys).length ≤ 140737488355328) := Lib.hid (by have := HM.out; omega)
          have hcmp : ((join ys).length : Int) ≤ (m : Int) := by have := HM.out; omega
          clear hsp hy1 hy2 hy3 hy4
          have tok1 : True := trivial
          have tok2 : True := trivial
          have tok3 : True := trivial
          have tok4 : True := trivial
          have tok5 : True := trivial
          have tok6 : True := trivial
          go_wp2_with (first | (go_at_call 13; clear tok1; refine (HJD.out _ HB.out HR0.out).mono ?_; rintro e w8 ⟨A8, c8', rfl, hb8⟩; have HB8 := Lib.hid (HB.out.trans (hb8.mono HB.out.size)); have cv8 := HKV.out _ HB8.out; clear hb8) | (go_at_call 9; clear tok5; refine (HSB'.out _ HB8.out).mono ?_; rintro e w9 ⟨hb9, A9, c9', rfl, h91, h92, hx9⟩; have HB9 := Lib.hid (HB8.out.trans (hb9.mono HB8.out.size)); have HX9 := Lib.hid hx9; have HJ9 := Lib.hid (HJA.out.yes hx9 rfl h91 h92 HYL.out HYR.out); clear hb9 hx9 h91 h92) | (go_at_call 13; refine HJ9.out.mono ?_; rintro e w10 ⟨A10, c10', rfl, ha1, ha2, ha3, hh10, hb10⟩; have HB10 := Lib.hid (HB9.out.trans (hb10.mono HB9.out.size)); have HX10 := Lib.hid (HX9.out.on hb10); have HS10 := Lib.hid (HSP.out A10 _ _ c10' w10 HB10.out hh10 rfl HYL.out ha1 ha2 ha3 ys HYS.out); clear hb10 hh10 ha1 ha2 ha3) | (go_at_call 9; refine HS10.out.mono ?_; rintro e w11 ⟨A11, c11', rfl, _, _, hx11, hb11⟩; have HB11 := Lib.hid (HB10.out.trans (hb11.mono HB10.out.size)); have HX11 := Lib.hid hx11; have HY11 := Lib.hid (HX10.out.on hb11); clear hb11 hx11) | (go_at_call 15; refine (others_any A9 ys ys.length c9' _ HY11.out rfl (by omega)).mono ?_; rintro e w12 ⟨A12, c12', rfl, _, _, hx12, hb12⟩; have HB12 := Lib.hid (HB11.out.trans (hb12.mono HB11.out.size)); have HX12 := Lib.hid hx12; have HZ12 := Lib.hid (HX11.out.on hb12); clear hb12 hx12) | (go_at_call 11; refine (same5_any A11 ys ys.length c11' A12 ys ys.length c12' _ HZ12.out rfl HX12.out rfl (by omega)).mono ?_; rintro e w14 ⟨he, hb14⟩; obtain rfl : e = .returned (.bool true) := (by rw [he]; simp); have HB14 := Lib.hid (HB12.out.trans (hb14.mono HB12.out.size)); have cv14 := HKV.out _ HB14.out; clear hb14))
          go_ret
          exact ⟨rfl, HB14.out⟩
      | true =>
        have HR0 := Lib.hid hr
        clear hr
        cases hsp : split l with
        | none =>
          rw [hsp] at HSB'
          simp only at HSB'
          clear hsp
          have tok1 : True := trivial
          have tok2 : True := trivial
          have tok3 : True := trivial
          have tok4 : True := trivial
          have tok5 : True := trivial
          have tok6 : True := trivial
          go_wp2_with (first | (go_at_call 13; clear tok1; refine (HJC.out _ HB.out HR0.out).mono ?_; rintro e w2 ⟨A2, c2, rfl, h21, h22, h23, hh2, hb2⟩; have HB2 := Lib.hid (HB.out.trans (hb2.mono HB.out.size)); have HS2 := Lib.hid (HSP.out A2 _ _ c2 w2 HB2.out hh2 rfl HJL.out h21 h22 h23 xs (HSJ.out HR0.out)); clear hb2 hh2 h21 h22 h23) | (go_at_call 9; clear tok2; refine HS2.out.mono ?_; rintro e w3 ⟨A3, c3, rfl, _, _, hx3, hb3⟩; have HB3 := Lib.hid (HB2.out.trans (hb3.mono HB2.out.size)); have HX3 := Lib.hid hx3; clear hb3 hx3 HS2) | (go_at_call 15; clear tok3; refine (HOC.out _ HB3.out).mono ?_; rintro e w4 ⟨A4, c4, rfl, _, _, hx4, hb4⟩; have HB4 := Lib.hid (HB3.out.trans (hb4.mono HB3.out.size)); have HX4 := Lib.hid hx4; have HX34 := Lib.hid (HX3.out.on hb4); clear hb4 hx4 HX3) | (go_at_call 11; clear tok4; refine (same5_any A3 xs xs.length c3 A4 xs j c4 _ HX34.out rfl HX4.out HN.out (by have := HN.out; omega)).mono ?_; rintro e w8 ⟨he, hb8⟩; obtain rfl : e = .returned (.bool true) := (by rw [he]; simp); have HB8 := Lib.hid (HB4.out.trans (hb8.mono HB4.out.size)); have cv8 := HKV.out _ HB8.out; clear hb8) | (go_at_call 9; refine (HSB'.out _ HB8.out).mono ?_; rintro e w9 ⟨hb9, A9, c9', rfl⟩; have HB9 := Lib.hid (HB8.out.trans (hb9.mono HB8.out.size)); have cv9 := HKV.out _ HB9.out; clear hb9))
          go_ret
          exact ⟨rfl, HB9.out⟩
        | some ys =>
          rw [hsp] at HSB'
          simp only at HSB'
          obtain ⟨hy1, hy2, hy3, _⟩ := split_back hsp
          have HYS := Lib.hid (split_join ys hy1 hy2)
          have hy4 := rises_len ys 0 hy1 (by omega)
          have hyl : ys.length ≤ 11 := by omega
          have HYR := Lib.hid hy1
          have HYL : Hid ((join ys).length ≤ 140737488355328) := Lib.hid (by have := HM.out; omega)
          have hcmp : ((join ys).length : Int) ≤ (m : Int) := by have := HM.out; omega
          clear hsp hy1 hy2 hy3 hy4
          have tok1 : True := trivial
          have tok2 : True := trivial
          have tok3 : True := trivial
          have tok4 : True := trivial
          have tok5 : True := trivial
          have tok6 : True := trivial
          go_wp2_with (first | (go_at_call 13; clear tok1; refine (HJC.out _ HB.out HR0.out).mono ?_; rintro e w2 ⟨A2, c2, rfl, h21, h22, h23, hh2, hb2⟩; have HB2 := Lib.hid (HB.out.trans (hb2.mono HB.out.size)); have HS2 := Lib.hid (HSP.out A2 _ _ c2 w2 HB2.out hh2 rfl HJL.out h21 h22 h23 xs (HSJ.out HR0.out)); clear hb2 hh2 h21 h22 h23) | (go_at_call 9; clear tok2; refine HS2.out.mono ?_; rintro e w3 ⟨A3, c3, rfl, _, _, hx3, hb3⟩; have HB3 := Lib.hid (HB2.out.trans (hb3.mono HB2.out.size)); have HX3 := Lib.hid hx3; clear hb3 hx3 HS2) | (go_at_call 15; clear tok3; refine (HOC.out _ HB3.out).mono ?_; rintro e w4 ⟨A4, c4, rfl, _, _, hx4, hb4⟩; have HB4 := Lib.hid (HB3.out.trans (hb4.mono HB3.out.size)); have HX4 := Lib.hid hx4; have HX34 := Lib.hid (HX3.out.on hb4); clear hb4 hx4 HX3) | (go_at_call 11; clear tok4; refine (same5_any A3 xs xs.length c3 A4 xs j c4 _ HX34.out rfl HX4.out HN.out (by have := HN.out; omega)).mono ?_; rintro e w8 ⟨he, hb8⟩; obtain rfl : e = .returned (.bool true) := (by rw [he]; simp); have HB8 := Lib.hid (HB4.out.trans (hb8.mono HB4.out.size)); have cv8 := HKV.out _ HB8.out; clear hb8) | (go_at_call 9; clear tok5; refine (HSB'.out _ HB8.out).mono ?_; rintro e w9 ⟨hb9, A9, c9', rfl, h91, h92, hx9⟩; have HB9 := Lib.hid (HB8.out.trans (hb9.mono HB8.out.size)); have HX9 := Lib.hid hx9; have HJ9 := Lib.hid (HJA.out.yes hx9 rfl h91 h92 HYL.out HYR.out); clear hb9 hx9 h91 h92) | (go_at_call 13; refine HJ9.out.mono ?_; rintro e w10 ⟨A10, c10', rfl, ha1, ha2, ha3, hh10, hb10⟩; have HB10 := Lib.hid (HB9.out.trans (hb10.mono HB9.out.size)); have HX10 := Lib.hid (HX9.out.on hb10); have HS10 := Lib.hid (HSP.out A10 _ _ c10' w10 HB10.out hh10 rfl HYL.out ha1 ha2 ha3 ys HYS.out); clear hb10 hh10 ha1 ha2 ha3) | (go_at_call 9; refine HS10.out.mono ?_; rintro e w11 ⟨A11, c11', rfl, _, _, hx11, hb11⟩; have HB11 := Lib.hid (HB10.out.trans (hb11.mono HB10.out.size)); have HX11 := Lib.hid hx11; have HY11 := Lib.hid (HX10.out.on hb11); clear hb11 hx11) | (go_at_call 15; refine (others_any A9 ys ys.length c9' _ HY11.out rfl (by omega)).mono ?_; rintro e w12 ⟨A12, c12', rfl, _, _, hx12, hb12⟩; have HB12 := Lib.hid (HB11.out.trans (hb12.mono HB11.out.size)); have HX12 := Lib.hid hx12; have HZ12 := Lib.hid (HX11.out.on hb12); clear hb12 hx12) | (go_at_call 11; refine (same5_any A11 ys ys.length c11' A12 ys ys.length c12' _ HZ12.out rfl HX12.out rfl (by omega)).mono ?_; rintro e w14 ⟨he, hb14⟩; obtain rfl : e = .returned (.bool true) := (by rw [he]; simp); have HB14 := Lib.hid (HB12.out.trans (hb14.mono HB12.out.size)); have cv14 := HKV.out _ HB14.out; clear hb14))
          go_ret
          exact ⟨rfl, HB14.out⟩
end Go.Proofs.YtanhgpdeoffmfaaDoor
