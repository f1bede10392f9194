/-
  The walk over SectJoins, given what Split and Join do.
-/
import Derived.Test.YtanhgpdeoffmfaaDoorSecKnown
import Derived.Test.YtanhgpdeoffmfaaDoorSecRJoin
namespace Sec
/-- How much sections are together. -/
def tot5 : List S → Nat
  | [] => 0
  | x :: xs => 1 + x.b.length + tot5 xs
theorem tot5_append : ∀ (a b : List S), tot5 (a ++ b) = tot5 a + tot5 b
  | [], b => by simp [tot5]
  | x :: a, b => by simp only [List.cons_append, tot5, tot5_append a b]; omega
theorem tot5_take {xs : List S} {j : Nat} {x : S} (h : xs[j]? = some x) : tot5 (xs.take (j + 1)) = tot5 (xs.take j) + (1 + x.b.length) := by
  rw [List.take_add_one, h, tot5_append]; simp [tot5]
theorem tot5_take_le (xs : List S) (j : Nat) : tot5 (xs.take j) ≤ tot5 xs := by
  have h := tot5_append (xs.take j) (xs.drop j)
  rw [List.take_append_drop] at h
  omega
theorem tot5_mem : ∀ {xs : List S} {x : S}, x ∈ xs → 1 + x.b.length ≤ tot5 xs
  | y :: xs, x, h => by
    simp only [tot5]
    rcases List.mem_cons.1 h with rfl | h
    · omega
    · have := tot5_mem h; omega
theorem enc_le5 (x : S) (h : x.b.length < 18446744073709551616) : (enc x).length ≤ 11 * (1 + x.b.length) := by
  have := Leb.encU_le10 x.b.length h
  simp only [enc, List.length_cons, List.length_append]
  omega
theorem encAll_le5 : ∀ (xs : List S), (∀ x ∈ xs, x.b.length < 18446744073709551616) → (encAll xs).length ≤ 11 * tot5 xs
  | [], _ => by simp [encAll]
  | x :: xs, h => by
    have h1 := encAll_le5 xs (fun y hy => h y (by simp [hy]))
    have h2 := enc_le5 x (h x (by simp))
    have e : encAll (x :: xs) = enc x ++ encAll xs := by simp [encAll]
    rw [e, List.length_append]
    simp only [tot5]
    omega
theorem join_le5 (xs : List S) (h : tot5 xs ≤ 100000) : (join xs).length ≤ 1200000 := by
  have h1 := encAll_le5 xs (fun x hx => by have := tot5_mem hx; omega)
  have : (join xs).length = 8 + (encAll xs).length := by simp [join, begin8]; omega
  omega
end Sec
namespace Go.Proofs.YtanhgpdeoffmfaaDoor
open Go.RowKit Sec
set_option maxRecDepth 100000 in
set_option maxHeartbeats 4000000 in
theorem joins_any (hs : SplitOk) (hj : JoinOk) (A : Option Addr) (xs : List S) (n c : Nat) (w : World) (hX : HasS w w.heap.size A xs) (hn : n = xs.length) (hnc : n ≤ c) (hcm : c ≤ maxLen) (hl : ∀ x ∈ xs, x.b.length ≤ 140737488355328) (hnn : n ≤ 140737488355328) (hT : Tb w) :
    Calls Tryd.prog 4 #[.slice A n c] w fun e w' => e = .returned (.bool true) ∧ Below w.heap.size w w' := by
  have HR := Lib.hid (rows5 hs hj w hT)
  have HJ := Lib.hid (fun W (hb : Below w.heap.size w W) (h3 : (join xs).length ≤ 140737488355328) => hj A xs n c W (hX.on hb) hn hnc hcm h3)
  have HO := Lib.hid (fun W (hb : Below w.heap.size w W) (h : n ≤ 1000000000000) => others_any A xs n c W (hX.on hb) hn h)
  have HX := Lib.hid (fun W (hb : Below w.heap.size w W) => hX.on hb)
  have HN := Lib.hid hn
  have HL := Lib.hid hl
  clear hs hj hX hn hl hT
  go_enter Tryd.func4, Tryd.ntmps4
  go_wp2_with fail
  refine HR.out.mono ?_
  rintro e w1 ⟨rfl, hb⟩
  have HB1 := Lib.hid hb
  clear hb HR
  go_wp2_with fail
  go_loopw [3, 14] (fun s i wr => ∃ (j t : Nat), j ≤ n ∧ i = .int .i64 (j : Int) ∧ s = .int .i64 (t : Int) ∧ t ≤ 5000 ∧ Hid (t = tot5 (xs.take j)) ∧ Hid (j = 0 ∨ n ≤ 100) ∧ Hid (Below w.heap.size w wr)) (fun _ i _ => n - (intOf i).toNat)
  case atStart => exact ⟨0, 0, by omega, rfl, rfl, by omega, Lib.hid (by simp [tot5]), Lib.hid (.inl rfl), HB1⟩
  case round =>
    obtain ⟨j, t, hjn0, rfl, rfl, ht5, HT5, HJ0, HB⟩ := hrel
    by_cases hjn : j < n
    · obtain ⟨x, hx⟩ : ∃ x, xs[j]? = some x := ⟨_, List.getElem?_eq_getElem (by have := HN.out; omega)⟩
      have hxl := HL.out x (List.mem_of_getElem? hx)
      obtain ⟨g, oo, A4, c4, rfl, hgB, _, _, _, _, _, k0, k1⟩ := HX.out wr HB.out j x hx
      have hji : (j : Int) < (n : Int) := by omega
      have HTK := Lib.hid (tot5_take hx)
      have hws := HB.out.size
      obtain ⟨xi, xb⟩ := x
      obtain ⟨q, hq⟩ : ∃ q, xb.length = q := ⟨_, rfl⟩
      simp only at hxl k0 k1 HTK
      rw [hq] at hxl k1 HTK
      clear hx hq
      have HX3 : Hid ((wr.alloc (.cells #[.int .u8 (xi : Int), .slice A4 q c4] 35)).heap[wr.heap.size]? = some (.cells #[.int .u8 (xi : Int), .slice A4 q c4] 35 (0, 0))) := Lib.hid (heap_alloc_new wr _)
      have HB3 : Hid (Below w.heap.size w (wr.alloc (.cells #[.int .u8 (xi : Int), .slice A4 q c4] 35))) := Lib.hid (HB.out.alloc hws _)
      go_upto_region 7 with (fail)
      generalize wr.alloc (.cells #[.int .u8 (xi : Int), .slice A4 q c4] 35) = w3 at HX3 HB3 ⊢
      obtain ⟨z0, z1⟩ := cells2 HX3.out
      have hsum0 : (0 : Int) ≤ (t : Int) + (1 + (q : Int)) := by omega
      have hsum1 : (t : Int) + (1 + (q : Int)) ≤ 140737488361000 := by omega
      by_cases hbig : 5000 < t + (1 + q)
      · have hbi : (5000 : Int) < (t : Int) + (1 + (q : Int)) := by omega
        go_wp2_with fail
        go_ret
        exact ⟨rfl, HB3.out⟩
      · have hbi : decide ((5000 : Int) < (t : Int) + (1 + (q : Int))) = false := decide_eq_false (by omega)
        by_cases hn100 : 100 < n
        · have hni : (100 : Int) < (n : Int) := by omega
          go_wp2_with fail
          go_ret
          exact ⟨rfl, HB3.out⟩
        · have hni : decide ((100 : Int) < (n : Int)) = false := decide_eq_false (by omega)
          go_wp2_with fail
          go_roundw
          case rel => exact ⟨j + 1, t + (1 + q), by omega, by go_num, by go_num, by omega, Lib.hid (by rw [HTK.out, HT5.out]), Lib.hid (.inr (by omega)), HB3⟩
          case measure => simp [intOf]; omega
    · obtain rfl : j = n := by omega
      have hall : xs.take j = xs := by rw [HN.out, List.take_length]
      have htot := HT5.out
      rw [hall] at htot
      have hn100 : j ≤ 100 := by have := HJ0.out; omega
      have hjl := join_le5 xs (by omega)
      have HJC := Lib.hid (fun W hb => HJ.out W hb (by omega))
      have HOC := Lib.hid (fun W hb => HO.out W hb (by omega))
      have HRJ := Lib.hid (fun A' c' W (h : HasS W W.heap.size A' xs) => rjoin_any A' xs j c' W h HN.out (by omega))
      unfold JPost at HJC
      unfold RJPost at HRJ
      clear hall htot hjl HJ HO HT5 HJ0 HL
      cases hr : rises 0 xs with
      | false =>
        rw [hr] at HJC HRJ
        simp only [Bool.false_eq_true, if_false] at HJC HRJ
        clear hr
        have cvn := fun (W : World) (A' : Option Addr) (c' : Nat) => run_str (w := W) (B := 0) (A := A') (l := []) (Has.nil _ _ _) (n := 0) rfl c'
        go_wp2_with (first | (go_at_call 13; refine (HJC.out _ HB.out).mono ?_; rintro e w2 ⟨hb2, A2, c2, rfl⟩; have HB2 := Lib.hid (HB.out.trans (hb2.mono HB.out.size)); clear hb2) | (go_at_call 15; refine (HOC.out _ HB2.out).mono ?_; rintro e w3 ⟨A3, c3, rfl, _, _, hx3, hb3⟩; have HB3 := Lib.hid (HB2.out.trans (hb3.mono HB2.out.size)); have HX3 := Lib.hid hx3; clear hb3 hx3) | (go_at_call 14; refine (HRJ.out _ _ _ HX3.out).mono ?_; rintro e w4 ⟨hb4, rfl⟩; have HB4 := Lib.hid (HB3.out.trans (hb4.mono HB3.out.size)); have cva := cvn w4 A2 c2; have cvb := cvn w4 none 0; clear hb4) | (go_at_call 12; refine (e_any _ _ _).mono ?_; rintro e w5 ⟨he, rfl⟩; obtain rfl : e = .returned (.int .i64 2) := he))
        go_ret
        exact ⟨rfl, HB4.out⟩
      | true =>
        rw [hr] at HJC HRJ
        simp only [if_true] at HJC HRJ
        clear hr
        generalize join xs = J at HJC HRJ
        go_wp2_with (first | (go_at_call 13; refine (HJC.out _ HB.out).mono ?_; rintro e w2 ⟨hb2, A2, c2, rfl, _, _, _, hh2⟩; have HB2 := Lib.hid (HB.out.trans (hb2.mono HB.out.size)); have HH2 := Lib.hid hh2; clear hb2 hh2) | (go_at_call 15; refine (HOC.out _ HB2.out).mono ?_; rintro e w3 ⟨A3, c3, rfl, _, _, hx3, hb3⟩; have HB3 := Lib.hid (HB2.out.trans (hb3.mono HB2.out.size)); have HX3 := Lib.hid hx3; have HH3 := Lib.hid (HH2.out.on hb3); clear hb3 hx3) | (go_at_call 14; refine (HRJ.out _ _ _ HX3.out).mono ?_; rintro e w4 ⟨hb4, v4, rfl, ho4⟩; obtain ⟨A4, c4, rfl, _, _, _, _, hh4⟩ := own_sl ho4; have HB4 := Lib.hid (HB3.out.trans (hb4.mono HB3.out.size)); have cva := run_str (HH3.out.on hb4) rfl c2; have cvb := run_str hh4 rfl c4; clear hb4 ho4 hh4) | (go_at_call 12; refine (e_any _ _ _).mono ?_; rintro e w5 ⟨he, rfl⟩; obtain rfl : e = .returned (.int .i64 0) := he))
        go_ret
        exact ⟨rfl, HB4.out⟩
end Go.Proofs.YtanhgpdeoffmfaaDoor
