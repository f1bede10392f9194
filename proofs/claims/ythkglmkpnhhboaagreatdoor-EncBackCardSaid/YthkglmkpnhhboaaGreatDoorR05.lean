/-
  Words that the walks over layer 1 share: a slice that reads as bytes; bits of one byte.
-/
import Derived.Test.YthkglmkpnhhboaaGreatDoorR01
import Derived.Test.YthkglmkpnhhboaaGreatDoorRows
import Derived.Test.YthkglmkpnhhboaaGreatDoorR04
import Derived.WalkKit
import Derived.RegionTactic
import Derived.Deep.QuietTactic
import Derived.BigQuiet
import Derived.Below
import Derived.Outline
import Derived.Lib.Hide
import Derived.Test.YthkglmkpnhhboaaGreatDoorR02
set_option maxRecDepth 100000
set_option maxHeartbeats 4000000
namespace Go.Proofs.YthkglmkpnhhboaaGreatDoor
open Go.RowKit
theorem x_top (x : Nat) (h : x ≤ 255) : (bits .and .u8 (x : Int) 128 != 0) = decide (128 ≤ x) := by
 have h1 := u8_and_nat x 128 (by omega) (by decide)
 have h2 : bits .and .u8 (x : Int) 128 = ((x &&& 128 : Nat) : Int) := h1
 rw [h2, show (128 : Nat) = 2 ^ 7 from rfl, nat_bit 7 x]
 by_cases hx : 128 ≤ x
 ·have : x / 2 ^ 7 % 2 = 1 := by omega
  rw [this]; simp [hx]
 ·have : x / 2 ^ 7 % 2 = 0 := by omega
  rw [this]; simp [hx]
theorem or_u64 (v low s : Nat) (hs : s ≤ 63) (hv : v < 2 ^ s) :
  bits .or .u64 ((v : Int) % 18446744073709551616) (IntKind.u64.wrap ((low : Int) * 2 ^ min s 64)) = ((v + 2 ^ s * low : Nat) : Int) % 18446744073709551616 := by
 have hp : (2 : Nat) ^ s ≤ 2 ^ 63 := Nat.pow_le_pow_right (by decide) hs
 have hv' : v < 18446744073709551616 := Nat.lt_of_lt_of_le hv (Nat.le_trans hp (by decide))
 have e1 : ((v : Int) % 18446744073709551616) = (v : Int) := Int.emod_eq_of_lt (by omega) (by omega)
 have e2 : IntKind.u64.wrap ((low : Int) * 2 ^ min s 64) = ((low * 2 ^ s % 18446744073709551616 : Nat) : Int) := by
  rw [Nat.min_eq_left (by omega)]
  simp [IntKind.wrap, IntKind.bits, IntKind.signed]
 rw [e1, e2, u64_or_nat _ _ hv' (Nat.mod_lt _ (by decide))]
 have hd : (2 : Nat) ^ s ∣ 18446744073709551616 := by
  rw [show (18446744073709551616 : Nat) = 2 ^ 64 from rfl]; exact Nat.pow_dvd_pow 2 (by omega)
 have hm : low * 2 ^ s % 18446744073709551616 % 2 ^ s = 0 := by
  rw [Nat.mod_mod_of_dvd _ hd, Nat.mul_mod_left]
 rw [Nat.or_comm, nat_join s _ v hm hv]
 obtain ⟨q, hq⟩ := hd
 have hmul : low * 2 ^ s % 18446744073709551616 = 2 ^ s * (low % q) := by
  rw [hq, Nat.mul_comm low, Nat.mul_mod_mul_left]
 have hq0 : 0 < q := by
  rcases Nat.eq_zero_or_pos q with h | h
  ·subst h; simp at hq
  ·exact h
 have hlq : low % q + 1 ≤ q := Nat.mod_lt _ hq0
 have hlt : v + 2 ^ s * (low % q) < 18446744073709551616 := by
  have h3 : 2 ^ s * (low % q + 1) ≤ 2 ^ s * q := Nat.mul_le_mul_left _ hlq
  rw [Nat.mul_add, Nat.mul_one, ← hq] at h3
  omega
 have h5 : (v + 2 ^ s * low) % 18446744073709551616 = v + 2 ^ s * (low % q) := by
  rw [Nat.add_mod, Nat.mul_comm (2 ^ s) low, hmul, Nat.mod_eq_of_lt hv', Nat.mod_eq_of_lt hlt]
 have h6 : ((v + 2 ^ s * low : Nat) : Int) % 18446744073709551616 = (((v + 2 ^ s * low) % 18446744073709551616 : Nat) : Int) := by omega
 rw [h6, h5, hmul, Nat.add_comm]
theorem or_u64' (v x s : Nat) (hs : s ≤ 63) (hv : v < 2 ^ s) :
  bits .or .u64 ((v : Int) % 18446744073709551616) (IntKind.u64.wrap ((x : Int) % 128 * 2 ^ s)) = ((v + 2 ^ s * (x % 128) : Nat) : Int) % 18446744073709551616 := by
 have h := or_u64 v (x % 128) s hs hv
 rw [Nat.min_eq_left (by omega)] at h
 exact h
theorem ret3 {k : IntKind} {a a' b b' : Int} {c c' : Bool} (h1 : a = a') (h2 : b = b') (h3 : c = c') :
  Ending.returned (.tuple #[.int k a, .int .i64 b, .bool c]) = .returned (.tuple #[.int k a', .int .i64 b', .bool c']) := by rw [h1, h2, h3]
theorem x_and (x : Int) (h₀ : 0 ≤ x) (h₁ : x ≤ 255) : bits .and .u8 x 127 = x % 128 := bits_mask .u8 8 (by decide) wraps_u8 7 (by decide) x h₀ (by omega)
theorem c16 (low sh bits : Int) (p : Addr) (w : World) (ok : Bool) (hok : ok = decide (low / 2 ^ min (bits - sh).toNat 8 = 0)) (h0 : 0 ≤ low) (h1 : low ≤ 127) (hb : w.cell? p = some (.int .i64 bits)) (hs : 0 ≤ sh) (hs1 : sh < bits) (hs2 : bits ≤ 64) :
  Calls Tryz.prog 89 #[.int .u8 low, .int .i64 sh, .pointer (some p)] w fun e w' => e = .returned (.tuple #[.int .u64 low, .bool ok]) ∧ ∃ n, w' = w.drewN n := by
 have hw : IntKind.i64.wrap (bits - sh) = bits - sh := IntWalk.i64_in _ (by omega)
 have hl : IntKind.u64.wrap low = low := IntWalk.u64_in _ (by omega)
 have hn : 0 ≤ bits - sh := by omega
 have hn2 : sh ≤ bits := by omega
 subst hok
 go_enter Tryz.func89, Tryz.ntmps89
 go_wp2
 go_quiet (fail)
 go_wp2
 go_ret2
 exact ⟨rfl, ⟨_, rfl⟩⟩
theorem c15 (A : Option Addr) (l : List UInt8) (n c B : Nat) (bits : Int) (p : Addr) (w : World) (hn : n = l.length) (hmax : n ≤ 9223372036854775807) (hA : Has w B A l) (hp : w.cell? p = some (.int .i64 bits)) :
  Calls Tryz.prog 88 #[.slice A n c, .int .i64 bits, .func (.func 89) #[] #[.pointer (some p)]] w fun e w' =>
   e = .returned (.tuple #[.int .u64 (Leb.numU l bits), .int .i64 (Leb.cntU l bits), .bool (Leb.okU l bits)]) ∧ ∃ n, w' = w.drewN n := by
 have HN := Y hn
 clear hn
 by_cases hb1 : bits < 1
 ·have hf := Y (Leb.okU_bits (l := l) (.inl hb1))
  go_enter Tryz.func88, Tryz.ntmps88
  go_wp2
  go_ret3
  exact ⟨by simp [Leb.numU, Leb.cntU, hf.out], 0, rfl⟩
 by_cases hb2 : 64 < bits
 ·have hf := Y (Leb.okU_bits (l := l) (.inr hb2))
  go_enter Tryz.func88, Tryz.ntmps88
  go_wp2
  go_ret3
  exact ⟨by simp [Leb.numU, Leb.cntU, hf.out], 0, rfl⟩
 have HA := Y hA
 clear hA
 go_enter Tryz.func88, Tryz.ntmps88
 go_wp2
 go_loop [9, 10, 11] (fun x i sh => ∃ k : Nat, k ≤ n ∧ k ≤ 10 ∧ i = .int .i64 k ∧ sh = .int .i64 (7 * (k : Int)) ∧ x = .int .u64 ((Leb.val (l.take k) : Int) % 18446744073709551616) ∧ Leb.big l k) (fun _ i _ => n - (intOf i).toNat)
 case atStart => exact ⟨0, by omega, by omega, rfl, rfl, by simp [Leb.val], Leb.big_zero l⟩
 case round =>
  obtain ⟨k, hk, hk10, rfl, rfl, rfl, hbig⟩ := hrel
  have HB := Y hbig
  clear hbig
  by_cases hlt : k < n
  ·by_cases hsh : 7 * (k : Int) < bits
   ·obtain ⟨x, hx⟩ : ∃ x, l[k]? = some x := by
     have : k < l.length := by rw [← HN.out]; exact hlt
     exact ⟨l[k], List.getElem?_eq_getElem this⟩
    obtain ⟨ad, hAad, hadB, hcell⟩ := HA.out k x hx
    have HX := Y hx
    clear hx
    subst hAad
    have hx0 : (0 : Int) ≤ (x.toNat : Int) := by omega
    have hx1 : (x.toNat : Int) ≤ 255 := by have := x.toNat_lt; omega
    have hm1 := x_and (x.toNat : Int) hx0 hx1
    have htop := x_top x.toNat (by omega)
    have hl0 : (0 : Int) ≤ (x.toNat : Int) % 128 := by omega
    have hl1 : (x.toNat : Int) % 128 ≤ 127 := by omega
    by_cases hbig : 128 ≤ x.toNat
    ·rw [decide_eq_true hbig] at htop
     have HBx := Y hbig
     clear hbig
     go_wp2
     go_round
     case rel =>
      have hv := Leb.val_take_lt HX.out
      refine ⟨k + 1, by omega, by omega, by go_num, by go_num, ?_, Leb.big_succ HB.out HX.out HBx.out⟩
      rw [Leb.val_take_succ HX.out, Leb.pow128]
      exact congrArg _ (or_u64' (Leb.val (l.take k)) x.toNat (7 * k) (by omega) hv)
     case measure => simp [intOf]; omega
    ·rw [decide_eq_false hbig] at htop
     have hsm : x.toNat < 128 := by omega
     have hokE := Leb.okU_last HB.out HX.out hsm (by omega) (by omega) hsh
     have hrun := Leb.run_at HB.out HX.out hsm
     have huse := Leb.used_at HB.out HX.out hsm
     have hmod : (x.toNat : Int) = (x.toNat : Int) % 128 := by omega
     rw [hmod] at hokE
     have HE := Y hokE
     have HR := Y hrun
     have HU := Y huse
     have HM := Y hmod
     clear hbig hokE hrun huse hmod
     go_wp2_with fail
     cases hok : Leb.okU l bits
     ·have HO := Y hok
      refine (c16 _ _ _ _ _ false (by rw [← HO.out]; exact HE.out) (by omega) (by omega) hp (by omega) hsh (by omega)).mono ?_
      rintro e w' ⟨rfl, nd, rfl⟩
      clear hok
      go_wp2
      go_ret3
      exact ⟨by simp [Leb.numU, Leb.cntU, HO.out], nd, rfl⟩
     ·have HO := Y hok
      refine (c16 _ _ _ _ _ true (by rw [← HO.out]; exact HE.out) (by omega) (by omega) hp (by omega) hsh (by omega)).mono ?_
      rintro e w' ⟨rfl, nd, rfl⟩
      clear hok
      go_wp2
      go_ret3
      have hv := Leb.val_take_lt HX.out
      refine ⟨ret3 ?_ ?_ HO.out.symm, nd, rfl⟩
      ·refine (or_u64' (Leb.val (l.take k)) x.toNat (7 * k) (by omega) hv).trans ?_
       rw [Leb.numU, if_pos HO.out, Nat.mod_eq_of_lt hsm, ← HU.out]
       exact Int.emod_eq_of_lt (by omega) (Leb.used_lt HO.out)
      ·rw [Leb.cntU, if_pos HO.out, HR.out]; rfl
   ·have hf := Y (Leb.okU_end (l := l) (n := bits) (k := k) HB.out (.inr (by omega)))
    go_wp2
    go_ret3
    exact ⟨by simp [Leb.numU, Leb.cntU, hf.out], 0, rfl⟩
  ·have hf := Y (Leb.okU_end (l := l) (n := bits) (k := k) HB.out (.inl (by rw [← HN.out]; omega)))
   go_wp2
   go_ret3
   exact ⟨by simp [Leb.numU, Leb.cntU, hf.out], 0, rfl⟩
theorem c8 (A : Option Addr) (l : List UInt8) (n c : Nat) (bits : Int) (w : World) (hn : n = l.length) (hmax : n ≤ 9223372036854775807) (hA : Has w w.heap.size A l) :
  Calls Tryz.prog 47 #[.slice A n c, .int .i64 bits] w fun e w' => e = .returned (.tuple #[.int .u64 (Leb.numU l bits), .int .i64 (Leb.cntU l bits), .bool (Leb.okU l bits)]) ∧ Below w.heap.size w w' := by
 have HA := Y hA
 have HN := Y hn
 clear hA hn
 go_enter Tryz.func47, Tryz.ntmps47
 go_wp2_with fail
 refine (c15 A l n c w.heap.size bits _ _ HN.out hmax (HA.out.alloc (Nat.le_refl _) _) ?_).mono ?_
 ·exact (World.cell?_alloc_new _ _ _ 0).trans rfl
 rintro e w' ⟨rfl, nd, rfl⟩
 go_wp2
 go_ret3
 exact ⟨rfl, Go.Proofs.YthkglmkpnhhboaaGreatDoor.Below.dn ((Below.refl _ _).alloc (Nat.le_refl _) _) nd⟩
theorem top_wrap (low : Nat) (h1 : (low : Int) ≤ 127) : wrap64 (IntKind.i8.wrap ((low : Int) * 2) / 2) = Leb.top low := by
 have e : IntKind.i8.wrap ((low : Int) * 2) = if low < 64 then (low : Int) * 2 else (low : Int) * 2 - 256 := by
  simp [IntKind.wrap, IntKind.bits, IntKind.signed]
  omega
 rw [e, Leb.top]
 by_cases h : low < 64
 ·rw [if_pos h, if_pos h, IntWalk.wrap64_in _ (by omega)]; omega
 ·rw [if_neg h, if_neg h, IntWalk.wrap64_in _ (by omega)]; omega
theorem ret2b {k : IntKind} {a : Int} {c c' : Bool} (h : c = c') : Ending.returned (.tuple #[.int k a, .bool c]) = .returned (.tuple #[.int k a, .bool c']) := by rw [h]
theorem or_dec (a : Int) : (a == 0 || a == -1) = decide (a = 0 ∨ a = -1) := by
 rw [Bool.eq_iff_iff]; simp
theorem c21 (low e : Nat) (sh bits : Int) (p : Addr) (w : World) (ok : Bool) (he : (e : Int) = min (bits - sh) 7 - 1) (hok : ok = decide (Leb.top low / 2 ^ e = 0 ∨ Leb.top low / 2 ^ e = -1))
  (h1 : (low : Int) ≤ 127) (hb : w.cell? p = some (.int .i64 bits)) (hs : 0 ≤ sh) (hs1 : sh < bits) (hs2 : bits ≤ 64) :
  Calls Tryz.prog 175 #[.int .u8 (low : Int), .int .i64 sh, .pointer (some p)] w fun e w' => e = .returned (.tuple #[.int .i64 (Leb.top low), .bool ok]) ∧ w = w' := by
 have hn2 : sh ≤ bits := by omega
 have htop := top_wrap low h1
 have HO := Y hok
 clear hok
 by_cases h7 : 7 < bits - sh
 ·obtain rfl : e = 6 := by omega
  clear he
  go_enter Tryz.func175, Tryz.ntmps175
  go_wp2_with fail
  all_goals go_ret2
  ·have ht : Leb.top low / 64 = 0 := by assumption
   exact ⟨ret2b (by rw [HO.out]; simp [ht]), rfl⟩
  ·exact ⟨ret2b (by rw [HO.out]; exact or_dec _), rfl⟩
 ·have he' : e = (bits - sh).toNat - 1 := by omega
  have HE := Y he'
  clear he he'
  go_enter Tryz.func175, Tryz.ntmps175
  go_wp2_with fail
  all_goals go_ret2
  ·have ht : Leb.top low / 2 ^ ((bits - sh).toNat - 1) = 0 := by assumption
   exact ⟨ret2b (by rw [HO.out, HE.out]; simp [ht]), rfl⟩
  ·exact ⟨ret2b (by rw [HO.out, HE.out]; exact or_dec _), rfl⟩
theorem or_low (v x s : Nat) (hs : s ≤ 63) (hv : v < 2 ^ s) : bits .or .i64 (wrap64 (v : Int)) (wrap64 ((x : Int) % 128 * 2 ^ s)) = wrap64 ((v + 2 ^ s * (x % 128) : Nat) : Int) := by
 have hp : (2 : Nat) ^ s ≤ 2 ^ 63 := Nat.pow_le_pow_right (by decide) hs
 have hp' : (2 : Nat) ^ 63 = 9223372036854775808 := rfl
 rw [IntWalk.wrap64_in (v : Int) (by omega)]
 have h := Leb.or_i64 v s ((x : Int) % 128) hs hv
 rw [h]
 simp
theorem or_top (v s : Nat) (t : Int) (hs : s ≤ 63) (hv : v < 2 ^ s) : bits .or .i64 (wrap64 (v : Int)) (wrap64 (t * 2 ^ s)) = wrap64 ((v : Int) + ((2 ^ s : Nat) : Int) * t) := by
 have hp : (2 : Nat) ^ s ≤ 2 ^ 63 := Nat.pow_le_pow_right (by decide) hs
 have hp' : (2 : Nat) ^ 63 = 9223372036854775808 := rfl
 rw [IntWalk.wrap64_in (v : Int) (by omega)]
 exact Leb.or_i64 v s t hs hv
theorem c20 (A : Option Addr) (l : List UInt8) (n c B : Nat) (bits : Int) (p : Addr) (w : World) (hn : n = l.length) (hmax : n ≤ 9223372036854775807) (hA : Has w B A l) (hp : w.cell? p = some (.int .i64 bits)) :
  Calls Tryz.prog 174 #[.slice A n c, .int .i64 bits, .func (.func 175) #[] #[.pointer (some p)]] w fun e w' =>
   e = .returned (.tuple #[.int .i64 (Leb.numS l bits), .int .i64 (Leb.cntS l bits), .bool (Leb.okS l bits)]) ∧ w = w' := by
 have HN := Y hn
 clear hn
 by_cases hb1 : bits < 1
 ·have hf := Y (Leb.okS_bits (l := l) (.inl hb1))
  go_enter Tryz.func174, Tryz.ntmps174
  go_wp2
  go_ret3
  exact ⟨by simp [Leb.numS, Leb.cntS, hf.out], rfl⟩
 by_cases hb2 : 64 < bits
 ·have hf := Y (Leb.okS_bits (l := l) (.inr hb2))
  go_enter Tryz.func174, Tryz.ntmps174
  go_wp2
  go_ret3
  exact ⟨by simp [Leb.numS, Leb.cntS, hf.out], rfl⟩
 have HA := Y hA
 clear hA
 go_enter Tryz.func174, Tryz.ntmps174
 go_wp2
 go_loop [9, 10, 11] (fun x i sh => ∃ k : Nat, k ≤ n ∧ k ≤ 10 ∧ i = .int .i64 k ∧ sh = .int .i64 (7 * (k : Int)) ∧ x = .int .i64 (wrap64 (Leb.val (l.take k) : Int)) ∧ Leb.big l k) (fun _ i _ => n - (intOf i).toNat)
 case atStart => exact ⟨0, by omega, by omega, rfl, rfl, by simp [Leb.val, wrap64], Leb.big_zero l⟩
 case round =>
  obtain ⟨k, hk, hk10, rfl, rfl, rfl, hbig⟩ := hrel
  have HB := Y hbig
  clear hbig
  by_cases hlt : k < n
  ·by_cases hsh : 7 * (k : Int) < bits
   ·obtain ⟨x, hx⟩ : ∃ x, l[k]? = some x := by
     have : k < l.length := by rw [← HN.out]; exact hlt
     exact ⟨l[k], List.getElem?_eq_getElem this⟩
    obtain ⟨ad, hAad, hadB, hcell⟩ := HA.out k x hx
    have HX := Y hx
    clear hx
    subst hAad
    have hx0 : (0 : Int) ≤ (x.toNat : Int) := by omega
    have hx1 : (x.toNat : Int) ≤ 255 := by have := x.toNat_lt; omega
    have hm1 := x_and (x.toNat : Int) hx0 hx1
    have htop := x_top x.toNat (by omega)
    have hl0 : (0 : Int) ≤ (x.toNat : Int) % 128 := by omega
    have hl1 : (x.toNat : Int) % 128 ≤ 127 := by omega
    by_cases hbig : 128 ≤ x.toNat
    ·rw [decide_eq_true hbig] at htop
     have HBx := Y hbig
     clear hbig
     go_wp2
     go_round
     case rel =>
      have hv := Leb.val_take_lt HX.out
      refine ⟨k + 1, by omega, by omega, by go_num, by go_num, ?_, Leb.big_succ HB.out HX.out HBx.out⟩
      rw [Leb.val_take_succ HX.out, Leb.pow128]
      exact congrArg _ (or_low (Leb.val (l.take k)) x.toNat (7 * k) (by omega) hv)
     case measure => simp [intOf]; omega
    ·rw [decide_eq_false hbig] at htop
     have hsm : x.toNat < 128 := by omega
     obtain ⟨e, he⟩ : ∃ e : Nat, (e : Int) = min (bits - 7 * (k : Int)) 7 - 1 := ⟨(min (bits - 7 * (k : Int)) 7 - 1).toNat, by omega⟩
     have hokE := Leb.okS_last HB.out HX.out hsm (by omega) (by omega) hsh e he
     have hrun := Leb.run_at HB.out HX.out hsm
     have huse := Leb.sused_at HB.out HX.out hsm
     have hmod : (x.toNat : Int) % 128 = (x.toNat : Int) := by omega
     have HE := Y hokE
     have HR := Y hrun
     have HU := Y huse
     have Hee := Y he
     have HM := Y hmod
     clear hbig hokE hrun huse hmod he
     go_wp2_with fail
     rw [HM.out]
     cases hok : Leb.okS l bits
     ·have HO := Y hok
      refine (c21 _ e _ _ _ _ false Hee.out (by rw [← HO.out]; exact HE.out) (by omega) hp (by omega) hsh (by omega)).mono ?_
      rintro e w' ⟨rfl, rfl⟩
      clear hok
      go_wp2
      go_ret3
      exact ⟨by simp [Leb.numS, Leb.cntS, HO.out], rfl⟩
     ·have HO := Y hok
      refine (c21 _ e _ _ _ _ true Hee.out (by rw [← HO.out]; exact HE.out) (by omega) hp (by omega) hsh (by omega)).mono ?_
      rintro e w' ⟨rfl, rfl⟩
      clear hok
      go_wp2
      go_ret3
      have hv := Leb.val_take_lt HX.out
      refine ⟨ret3 ?_ ?_ HO.out.symm, rfl⟩
      ·refine (or_top (Leb.val (l.take k)) (7 * k) (Leb.top x.toNat) (by omega) hv).trans ?_
       rw [Leb.numS, if_pos HO.out, ← HU.out]
       exact IntWalk.wrap64_in _ (Leb.sused_lt HO.out)
      ·rw [Leb.cntS, if_pos HO.out, HR.out]; rfl
   ·have hf := Y (Leb.okS_end (l := l) (n := bits) (k := k) HB.out (.inr (by omega)))
    go_wp2
    go_ret3
    exact ⟨by simp [Leb.numS, Leb.cntS, hf.out], rfl⟩
  ·have hf := Y (Leb.okS_end (l := l) (n := bits) (k := k) HB.out (.inl (by rw [← HN.out]; omega)))
   go_wp2
   go_ret3
   exact ⟨by simp [Leb.numS, Leb.cntS, hf.out], rfl⟩
theorem c10 (A : Option Addr) (l : List UInt8) (n c : Nat) (bits : Int) (w : World) (hn : n = l.length) (hmax : n ≤ 9223372036854775807) (hA : Has w w.heap.size A l) :
  Calls Tryz.prog 173 #[.slice A n c, .int .i64 bits] w fun e w' => e = .returned (.tuple #[.int .i64 (Leb.numS l bits), .int .i64 (Leb.cntS l bits), .bool (Leb.okS l bits)]) ∧ Below w.heap.size w w' := by
 have HA := Y hA
 have HN := Y hn
 clear hA hn
 go_enter Tryz.func173, Tryz.ntmps173
 go_wp2_with fail
 refine (c20 A l n c w.heap.size bits _ _ HN.out hmax (HA.out.alloc (Nat.le_refl _) _) ?_).mono ?_
 ·exact (World.cell?_alloc_new _ _ _ 0).trans rfl
 rintro e w' ⟨rfl, rfl⟩
 go_wp2
 go_ret3
 exact ⟨rfl, (Below.refl _ _).alloc (Nat.le_refl _) _⟩
end Go.Proofs.YthkglmkpnhhboaaGreatDoor
