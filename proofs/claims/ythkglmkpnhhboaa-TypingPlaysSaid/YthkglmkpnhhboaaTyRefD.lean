/-
  Layer 9's reference: Fits. (gen/typing/refd.py)
-/
import Derived.Test.YthkglmkpnhhboaaTyRefB
import Derived.Test.YthkglmkpnhhboaaTyKnown
namespace Ty
theorem rev_take {l : List UInt8} {p : Nat} {y : UInt8} (h : l[p]? = some y) : (l.take (p + 1)).reverse = y :: (l.take p).reverse := by rw [List.take_add_one, h]; simp
theorem fits_cons {d : Bool} {x y : UInt8} {a b : List UInt8} (h : fit x y = true) : fits d (x :: a) (y :: b) = fits d a b := by simp [fits, h]
theorem fits_cons_no {d : Bool} {x y : UInt8} {a b : List UInt8} (h : fit x y = false) : fits d (x :: a) (y :: b) = none := by simp [fits, h]
theorem fits_end {d : Bool} (a : List UInt8) : fits d a [] = some a := by cases a <;> rfl
end Ty
namespace Go.Proofs.Ythkglmkpnhhboaa
open Go.RowKit Ins Bin
def fitsP (B : Option Addr) (d : Nat) (o : Option (List UInt8)) (e : Ending) : Prop :=
  match o with
  | none => e = .returned (.tuple #[.slice none 0 0, .bool false])
  | some o => e = .returned (.tuple #[.slice B o.length d, .bool true])
set_option linter.unusedVariables false in
set_option linter.unusedSimpArgs false in
set_option maxRecDepth 100000 in
set_option maxHeartbeats 4000000 in
theorem rfits_ss (own l : List UInt8) (dead : Bool) (u v : Value) (a0 : Addr) (b0 : Addr) (c d : Nat) (w : World) (ho : Has w w.heap.size (some b0) own) (hA : Has w w.heap.size (some a0) l) (h1 : own.length ≤ 1000000000) (h2 : l.length ≤ 1000000000) (hd : own.length ≤ d) (hd2 : d ≤ maxLen) :
    Calls Try.prog 31 #[.agg #[u, v, .slice (some b0) own.length d, .bool dead], .slice (some a0) l.length c] w fun e w' => fitsP (some b0) d ((Ty.fits dead own.reverse l.reverse).map List.reverse) e ∧ Below w.heap.size w w' := by
  have hx0 := heap_alloc_new w (.cells #[u, v, .slice (some b0) own.length d, .bool dead] 54)
  have HB0 : Hid (Below w.heap.size w (w.alloc (.cells #[u, v, .slice (some b0) own.length d, .bool dead] 54))) := Lib.hid ((Below.refl _ _).alloc (Nat.le_refl _) _)
  obtain ⟨an, han⟩ : ∃ x, (Ty.fits dead own.reverse l.reverse).map List.reverse = x := ⟨_, rfl⟩
  rw [han]
  have HAN := Lib.hid han
  obtain ⟨k, hk⟩ : ∃ k, own.length = k := ⟨_, rfl⟩
  obtain ⟨n, hn⟩ : ∃ n, l.length = n := ⟨_, rfl⟩
  rw [hk] at h1 hd hx0 HB0
  rw [hn] at h2
  rw [hk, hn]
  have HK := Lib.hid hk
  have HN := Lib.hid hn
  have HO := Lib.hid ho
  have HA := Lib.hid hA
  unfold maxLen at hd2
  clear han hk hn ho hA
  go_enter Try.func31, Try.ntmps31
  go_upto_region 1 with fail
  generalize w.alloc (.cells #[u, v, .slice (some b0) k d, .bool dead] 54) = w0 at hx0 HB0 ⊢
  obtain ⟨X, hX⟩ : ∃ X, w.heap.size = X := ⟨_, rfl⟩
  rw [hX] at hx0
  try simp only [hX]
  clear hX
  have y2 : w0.cell? ⟨X, 2, none⟩ = some (.slice (some b0) k d) := by rw [cell_of_row w0 X 2 _ _ (0, 0) hx0]; rfl
  have HX : Hid (∀ W, Below w0.heap.size w0 W → W.cell? ⟨X, 3, none⟩ = some (.bool dead)) := Lib.hid (fun W hW => by
    have hb := (hW.block X (Array.getElem?_eq_some_iff.1 hx0).1).trans hx0
    rw [cell_of_row W X 3 _ _ (0, 0) hb]; rfl)
  clear hx0
  have hn1 : IntKind.i64.wrap ((n : Int) - 1) = (n : Int) - 1 := IntWalk.i64_in _ (by omega)
  go_wp2_with fail
  clear hn1 y2
  go_loopw [6, 7] (fun s i wr => ∃ (t j : Nat) (z : Int), t ≤ k ∧ j ≤ n ∧ s = .slice (some b0) t d ∧ i = .int .i64 z ∧ Hid (z + 1 = (j : Int)) ∧ Hid (Ty.fits dead own.reverse l.reverse = Ty.fits dead (own.take t).reverse (l.take j).reverse) ∧ Hid (Below w0.heap.size w0 wr)) (fun _ i _ => (intOf i + 1).toNat)
  case atStart => exact ⟨k, n, (n : Int) - 1, by omega, by omega, rfl, rfl, Lib.hid (by omega), Lib.hid (by rw [List.take_of_length_le (by rw [HK.out]; exact Nat.le_refl _), List.take_of_length_le (by rw [HN.out]; exact Nat.le_refl _)]), Lib.hid (Below.refl _ _)⟩
  case round =>
    obtain ⟨t, j, z, ht, hj, rfl, rfl, HZ, HF, HB⟩ := hrel
    by_cases hj0 : j = 0
    · subst hj0
      obtain rfl : z = -1 := by have := HZ.out; omega
      have HR : Hid (an = some (own.take t) ∧ (own.take t).length = t) := Lib.hid (by
        refine ⟨?_, by rw [List.length_take, HK.out]; omega⟩
        rw [← HAN.out, HF.out]
        simp [Ty.fits_end])
      clear ht hj
      go_wp2_with fail
      go_ret2
      refine ⟨?_, HB0.out.trans (HB.out.mono HB0.out.size)⟩
      rw [HR.out.1]
      show _ = Ending.returned _
      rw [HR.out.2]
      rfl
    · obtain ⟨p, rfl⟩ : ∃ p, j = p + 1 := ⟨j - 1, by omega⟩
      obtain rfl : z = (p : Int) := by have := HZ.out; omega
      obtain ⟨y, hy⟩ : ∃ y, l[p]? = some y := ⟨_, List.getElem?_eq_getElem (by have := HN.out; omega)⟩
      have hbw : Below w.heap.size w wr := HB0.out.trans (HB.out.mono HB0.out.size)
      obtain ⟨a1, e1, _, hcy⟩ := (HA.out.on hbw) p y hy
      injection e1 with e1
      subst e1
      have hp0 : (0 : Int) ≤ (p : Int) := by omega
      have hpn : p < n := by omega
      have hpi : (p : Int) < (n : Int) := by omega
      have hpb : (p : Int) ≤ 1000000000 := by omega
      have HY := Lib.hid (Ty.rev_take hy)
      have HBW := Lib.hid hbw
      have HP := Lib.hid hj
      clear hj hj0 hy hbw
      by_cases ht0 : t = 0
      · subst ht0
        have y3 := HX.out wr HB.out
        cases dead with
        | false =>
          have HR : Hid (an = none) := Lib.hid (by rw [← HAN.out, HF.out, HY.out]; simp [Ty.fits])
          clear ht
          go_wp2_with fail
          go_ret2
          exact ⟨by rw [HR.out]; rfl, HBW.out⟩
        | true =>
          have HF2 : Hid (Ty.fits true own.reverse l.reverse = Ty.fits true (own.take 0).reverse (l.take p).reverse) := Lib.hid (by rw [HF.out, HY.out]; simp [Ty.fits])
          go_wp2_with fail
          go_roundw
          case rel => exact ⟨0, p, (p : Int) - 1, by omega, by omega, rfl, by go_num, Lib.hid (by omega), HF2, HB⟩
          case measure => simp [intOf]
      · obtain ⟨s, rfl⟩ : ∃ s, t = s + 1 := ⟨t - 1, by omega⟩
        obtain ⟨x, hx⟩ : ∃ x, own[s]? = some x := ⟨_, List.getElem?_eq_getElem (by have := HK.out; omega)⟩
        obtain ⟨b1, e2, _, hcx⟩ := (HO.out.on HBW.out) s x hx
        injection e2 with e2
        subst e2
        have HXR := Lib.hid (Ty.rev_take hx)
        have t1 := u8_beq x y
        have t2 := u8_zero x
        have t3 := u8_zero y
        have HFX : Hid (Ty.fit x y = ((x == y) || ((x == 0) || (y == 0)))) := Lib.hid rfl
        have hsd : s ≤ d := by omega
        have hsd1 : (s : Int) ≤ (d : Int) := by omega
        have hs1 : s < s + 1 := by omega
        have hsb : (s : Int) ≤ 1000000000 := by omega
        have hz0 : ((s : Int) + 1 == 0) = false := by rw [beq_eq_false_iff_ne]; omega
        have HT := Lib.hid ht
        obtain ⟨xi, hxi⟩ : ∃ z, (x.toNat : Int) = z := ⟨_, rfl⟩
        obtain ⟨yi, hyi⟩ : ∃ z, (y.toNat : Int) = z := ⟨_, rfl⟩
        rw [hxi] at hcx t1 t2
        rw [hyi] at hcy t1 t3
        generalize (x == y) = p1 at t1 HFX
        generalize (x == 0) = p2 at t2 HFX
        generalize (y == 0) = p3 at t3 HFX
        have t1' : (xi != yi) = !p1 := by rw [← t1]; rfl
        have t2' : (xi != 0) = !p2 := by rw [← t2]; rfl
        have t3' : (yi != 0) = !p3 := by rw [← t3]; rfl
        have HF2 : Hid (p1 = true ∨ p2 = true ∨ p3 = true → Ty.fits dead own.reverse l.reverse = Ty.fits dead (own.take s).reverse (l.take p).reverse) := Lib.hid (fun h => by
          rw [HF.out, HY.out, HXR.out, Ty.fits_cons (by rw [HFX.out]; rcases h with h | h | h <;> simp [h])])
        have HF3 : Hid (p1 = false → p2 = false → p3 = false → an = none) := Lib.hid (fun q1 q2 q3 => by
          rw [← HAN.out, HF.out, HY.out, HXR.out, Ty.fits_cons_no (by rw [HFX.out, q1, q2, q3]; rfl)]; rfl)
        clear hx hxi hyi ht ht0 t1 t2 t3
        cases p1
        · cases p2
          · cases p3
            · simp only [Bool.not_false] at t1' t2' t3'
              go_upto_region 9 with fail
              go_quiet (fail)
              go_wp2_with fail
              go_ret2
              exact ⟨by rw [HF3.out (by simp) (by simp) (by simp)]; rfl, Below.dn HBW.out _⟩
            · simp only [Bool.not_false, Bool.not_true] at t1' t2' t3'
              go_upto_region 9 with fail
              go_quiet (fail)
              go_wp2_with fail
              go_roundw
              case rel => exact ⟨s, p, (p : Int) - 1, by have := HT.out; omega, by omega, by first | rfl | go_num, by go_num, Lib.hid (by omega), Lib.hid (HF2.out (by simp)), Lib.hid (Below.dn HB.out _)⟩
              case measure => simp [intOf]
          · simp only [Bool.not_false, Bool.not_true] at t1' t2' t3'
            go_upto_region 9 with fail
            go_quiet (fail)
            go_wp2_with fail
            go_roundw
            case rel => exact ⟨s, p, (p : Int) - 1, by have := HT.out; omega, by omega, by first | rfl | go_num, by go_num, Lib.hid (by omega), Lib.hid (HF2.out (by simp)), Lib.hid (Below.dn HB.out _)⟩
            case measure => simp [intOf]
        · simp only [Bool.not_false, Bool.not_true] at t1' t2' t3'
          go_upto_region 9 with fail
          go_quiet (fail)
          go_wp2_with fail
          go_roundw
          case rel => exact ⟨s, p, (p : Int) - 1, by have := HT.out; omega, by omega, by first | rfl | go_num, by go_num, Lib.hid (by omega), Lib.hid (HF2.out (by simp)), Lib.hid (Below.dn HB.out _)⟩
          case measure => simp [intOf]
set_option linter.unusedVariables false in
set_option linter.unusedSimpArgs false in
set_option maxRecDepth 100000 in
set_option maxHeartbeats 4000000 in
theorem rfits_sz (own l : List UInt8) (dead : Bool) (u v : Value) (a0 : Addr) (B : Option Addr) (c d : Nat) (w : World) (ho : Has w w.heap.size B own) (hA : Has w w.heap.size (some a0) l) (h1 : own.length ≤ 1000000000) (h2 : l.length ≤ 1000000000) (hd : own.length ≤ d) (hd2 : d ≤ maxLen) (ho0 : own.length = 0) :
    Calls Try.prog 31 #[.agg #[u, v, .slice B own.length d, .bool dead], .slice (some a0) l.length c] w fun e w' => fitsP B d ((Ty.fits dead own.reverse l.reverse).map List.reverse) e ∧ Below w.heap.size w w' := by
  have hx0 := heap_alloc_new w (.cells #[u, v, .slice B own.length d, .bool dead] 54)
  have HB0 : Hid (Below w.heap.size w (w.alloc (.cells #[u, v, .slice B own.length d, .bool dead] 54))) := Lib.hid ((Below.refl _ _).alloc (Nat.le_refl _) _)
  obtain ⟨an, han⟩ : ∃ x, (Ty.fits dead own.reverse l.reverse).map List.reverse = x := ⟨_, rfl⟩
  rw [han]
  have HAN := Lib.hid han
  obtain ⟨k, hk⟩ : ∃ k, own.length = k := ⟨_, rfl⟩
  obtain ⟨n, hn⟩ : ∃ n, l.length = n := ⟨_, rfl⟩
  rw [hk] at h1 hd hx0 HB0 ho0
  rw [hn] at h2
  rw [hk, hn]
  have HK := Lib.hid hk
  have HN := Lib.hid hn
  have HO := Lib.hid ho
  have HA := Lib.hid hA
  unfold maxLen at hd2
  have HO0 := Lib.hid ho0
  clear ho0
  clear han hk hn ho hA
  go_enter Try.func31, Try.ntmps31
  go_upto_region 1 with fail
  generalize w.alloc (.cells #[u, v, .slice B k d, .bool dead] 54) = w0 at hx0 HB0 ⊢
  obtain ⟨X, hX⟩ : ∃ X, w.heap.size = X := ⟨_, rfl⟩
  rw [hX] at hx0
  try simp only [hX]
  clear hX
  have y2 : w0.cell? ⟨X, 2, none⟩ = some (.slice B k d) := by rw [cell_of_row w0 X 2 _ _ (0, 0) hx0]; rfl
  have HX : Hid (∀ W, Below w0.heap.size w0 W → W.cell? ⟨X, 3, none⟩ = some (.bool dead)) := Lib.hid (fun W hW => by
    have hb := (hW.block X (Array.getElem?_eq_some_iff.1 hx0).1).trans hx0
    rw [cell_of_row W X 3 _ _ (0, 0) hb]; rfl)
  clear hx0
  have hn1 : IntKind.i64.wrap ((n : Int) - 1) = (n : Int) - 1 := IntWalk.i64_in _ (by omega)
  go_wp2_with fail
  clear hn1 y2
  go_loopw [6, 7] (fun s i wr => ∃ (t j : Nat) (z : Int), t ≤ k ∧ j ≤ n ∧ s = .slice B t d ∧ i = .int .i64 z ∧ Hid (z + 1 = (j : Int)) ∧ Hid (Ty.fits dead own.reverse l.reverse = Ty.fits dead (own.take t).reverse (l.take j).reverse) ∧ Hid (Below w0.heap.size w0 wr)) (fun _ i _ => (intOf i + 1).toNat)
  case atStart => exact ⟨k, n, (n : Int) - 1, by omega, by omega, rfl, rfl, Lib.hid (by omega), Lib.hid (by rw [List.take_of_length_le (by rw [HK.out]; exact Nat.le_refl _), List.take_of_length_le (by rw [HN.out]; exact Nat.le_refl _)]), Lib.hid (Below.refl _ _)⟩
  case round =>
    obtain ⟨t, j, z, ht, hj, rfl, rfl, HZ, HF, HB⟩ := hrel
    by_cases hj0 : j = 0
    · subst hj0
      obtain rfl : z = -1 := by have := HZ.out; omega
      have HR : Hid (an = some (own.take t) ∧ (own.take t).length = t) := Lib.hid (by
        refine ⟨?_, by rw [List.length_take, HK.out]; omega⟩
        rw [← HAN.out, HF.out]
        simp [Ty.fits_end])
      clear ht hj
      go_wp2_with fail
      go_ret2
      refine ⟨?_, HB0.out.trans (HB.out.mono HB0.out.size)⟩
      rw [HR.out.1]
      show _ = Ending.returned _
      rw [HR.out.2]
      rfl
    · obtain ⟨p, rfl⟩ : ∃ p, j = p + 1 := ⟨j - 1, by omega⟩
      obtain rfl : z = (p : Int) := by have := HZ.out; omega
      obtain ⟨y, hy⟩ : ∃ y, l[p]? = some y := ⟨_, List.getElem?_eq_getElem (by have := HN.out; omega)⟩
      have hbw : Below w.heap.size w wr := HB0.out.trans (HB.out.mono HB0.out.size)
      obtain ⟨a1, e1, _, hcy⟩ := (HA.out.on hbw) p y hy
      injection e1 with e1
      subst e1
      have hp0 : (0 : Int) ≤ (p : Int) := by omega
      have hpn : p < n := by omega
      have hpi : (p : Int) < (n : Int) := by omega
      have hpb : (p : Int) ≤ 1000000000 := by omega
      have HY := Lib.hid (Ty.rev_take hy)
      have HBW := Lib.hid hbw
      have HP := Lib.hid hj
      clear hj hj0 hy hbw
      by_cases ht0 : t = 0
      · subst ht0
        have y3 := HX.out wr HB.out
        cases dead with
        | false =>
          have HR : Hid (an = none) := Lib.hid (by rw [← HAN.out, HF.out, HY.out]; simp [Ty.fits])
          clear ht
          go_wp2_with fail
          go_ret2
          exact ⟨by rw [HR.out]; rfl, HBW.out⟩
        | true =>
          have HF2 : Hid (Ty.fits true own.reverse l.reverse = Ty.fits true (own.take 0).reverse (l.take p).reverse) := Lib.hid (by rw [HF.out, HY.out]; simp [Ty.fits])
          go_wp2_with fail
          go_roundw
          case rel => exact ⟨0, p, (p : Int) - 1, by omega, by omega, rfl, by go_num, Lib.hid (by omega), HF2, HB⟩
          case measure => simp [intOf]
      · exfalso
        have := HO0.out
        omega
set_option linter.unusedVariables false in
set_option linter.unusedSimpArgs false in
set_option maxRecDepth 100000 in
set_option maxHeartbeats 4000000 in
theorem rfits_z (own l : List UInt8) (dead : Bool) (u v : Value) (A : Option Addr) (B : Option Addr) (c d : Nat) (w : World) (ho : Has w w.heap.size B own) (hA : Has w w.heap.size A l) (h1 : own.length ≤ 1000000000) (h2 : l.length ≤ 1000000000) (hd : own.length ≤ d) (hd2 : d ≤ maxLen) (hl0 : l.length = 0) :
    Calls Try.prog 31 #[.agg #[u, v, .slice B own.length d, .bool dead], .slice A l.length c] w fun e w' => fitsP B d ((Ty.fits dead own.reverse l.reverse).map List.reverse) e ∧ Below w.heap.size w w' := by
  have hx0 := heap_alloc_new w (.cells #[u, v, .slice B own.length d, .bool dead] 54)
  have HB0 : Hid (Below w.heap.size w (w.alloc (.cells #[u, v, .slice B own.length d, .bool dead] 54))) := Lib.hid ((Below.refl _ _).alloc (Nat.le_refl _) _)
  obtain ⟨an, han⟩ : ∃ x, (Ty.fits dead own.reverse l.reverse).map List.reverse = x := ⟨_, rfl⟩
  rw [han]
  have HAN := Lib.hid han
  obtain ⟨k, hk⟩ : ∃ k, own.length = k := ⟨_, rfl⟩
  obtain ⟨n, hn⟩ : ∃ n, l.length = n := ⟨_, rfl⟩
  rw [hk] at h1 hd hx0 HB0
  rw [hn] at h2 hl0
  rw [hk, hn]
  have HK := Lib.hid hk
  have HN := Lib.hid hn
  have HO := Lib.hid ho
  have HA := Lib.hid hA
  unfold maxLen at hd2
  have HL0 := Lib.hid hl0
  clear hl0
  clear han hk hn ho hA
  go_enter Try.func31, Try.ntmps31
  go_upto_region 1 with fail
  generalize w.alloc (.cells #[u, v, .slice B k d, .bool dead] 54) = w0 at hx0 HB0 ⊢
  obtain ⟨X, hX⟩ : ∃ X, w.heap.size = X := ⟨_, rfl⟩
  rw [hX] at hx0
  try simp only [hX]
  clear hX
  have y2 : w0.cell? ⟨X, 2, none⟩ = some (.slice B k d) := by rw [cell_of_row w0 X 2 _ _ (0, 0) hx0]; rfl
  have HX : Hid (∀ W, Below w0.heap.size w0 W → W.cell? ⟨X, 3, none⟩ = some (.bool dead)) := Lib.hid (fun W hW => by
    have hb := (hW.block X (Array.getElem?_eq_some_iff.1 hx0).1).trans hx0
    rw [cell_of_row W X 3 _ _ (0, 0) hb]; rfl)
  clear hx0
  have hn1 : IntKind.i64.wrap ((n : Int) - 1) = (n : Int) - 1 := IntWalk.i64_in _ (by omega)
  go_wp2_with fail
  clear hn1 y2
  go_loopw [6, 7] (fun s i wr => ∃ (t j : Nat) (z : Int), t ≤ k ∧ j ≤ n ∧ s = .slice B t d ∧ i = .int .i64 z ∧ Hid (z + 1 = (j : Int)) ∧ Hid (Ty.fits dead own.reverse l.reverse = Ty.fits dead (own.take t).reverse (l.take j).reverse) ∧ Hid (Below w0.heap.size w0 wr)) (fun _ i _ => (intOf i + 1).toNat)
  case atStart => exact ⟨k, n, (n : Int) - 1, by omega, by omega, rfl, rfl, Lib.hid (by omega), Lib.hid (by rw [List.take_of_length_le (by rw [HK.out]; exact Nat.le_refl _), List.take_of_length_le (by rw [HN.out]; exact Nat.le_refl _)]), Lib.hid (Below.refl _ _)⟩
  case round =>
    obtain ⟨t, j, z, ht, hj, rfl, rfl, HZ, HF, HB⟩ := hrel
    by_cases hj0 : j = 0
    · subst hj0
      obtain rfl : z = -1 := by have := HZ.out; omega
      have HR : Hid (an = some (own.take t) ∧ (own.take t).length = t) := Lib.hid (by
        refine ⟨?_, by rw [List.length_take, HK.out]; omega⟩
        rw [← HAN.out, HF.out]
        simp [Ty.fits_end])
      clear ht hj
      go_wp2_with fail
      go_ret2
      refine ⟨?_, HB0.out.trans (HB.out.mono HB0.out.size)⟩
      rw [HR.out.1]
      show _ = Ending.returned _
      rw [HR.out.2]
      rfl
    · exfalso
      have := HL0.out
      omega
theorem rfits_any (own l : List UInt8) (dead : Bool) (u v : Value) (A B : Option Addr) (c d : Nat) (w : World) (ho : Has w w.heap.size B own) (hA : Has w w.heap.size A l) (h1 : own.length ≤ 1000000000) (h2 : l.length ≤ 1000000000) (hd : own.length ≤ d) (hd2 : d ≤ maxLen) :
    Calls Try.prog 31 #[.agg #[u, v, .slice B own.length d, .bool dead], .slice A l.length c] w fun e w' => fitsP B d ((Ty.fits dead own.reverse l.reverse).map List.reverse) e ∧ Below w.heap.size w w' := by
  by_cases hl : l.length = 0
  · exact rfits_z own l dead u v A B c d w ho hA h1 h2 hd hd2 hl
  · obtain ⟨a0, rfl⟩ := hA.someAddr (by omega)
    by_cases hz : own.length = 0
    · exact rfits_sz own l dead u v a0 B c d w ho hA h1 h2 hd hd2 hz
    · obtain ⟨b0, rfl⟩ := ho.someAddr (by omega)
      exact rfits_ss own l dead u v a0 b0 c d w ho hA h1 h2 hd hd2
end Go.Proofs.Ythkglmkpnhhboaa
