/-
  Words that the walks over layer 1 share: a slice that reads as bytes; bits of one byte.
-/
import Derived.Test.YtgnbkfkiigcdgaaGreatDoorRows
import Derived.Test.YtgnbkfkiigcdgaaGreatDoorP01
import Derived.WalkKit
import Derived.RegionTactic
import Derived.Deep.QuietTactic
import Derived.BigQuiet
import Derived.Below
import Derived.Outline
import Derived.Lib.Hide
import Derived.Test.YtgnbkfkiigcdgaaGreatDoorP02
import Derived.Laws.CopyOwn
import Derived.OwnWalk
namespace Go.Proofs.YtgnbkfkiigcdgaaGreatDoor
open Go.RowKit
theorem x_top (x : Nat) (h : x ≤ 255) : (bits .and .u8 (x : Int) 128 != 0) = decide (128 ≤ x) := by
  have h1 := u8_and_nat x 128 (by omega) (by decide)
  have h2 : bits .and .u8 (x : Int) 128 = ((x &&& 128 : Nat) : Int) := h1
  rw [h2, show (128 : Nat) = 2 ^ 7 from rfl, nat_bit 7 x]
  by_cases hx : 128 ≤ x
  · have : x / 2 ^ 7 % 2 = 1 := by omega
    rw [this]; simp [hx]
  · have : x / 2 ^ 7 % 2 = 0 := by omega
    rw [this]; simp [hx]
/-- A byte's seven bits laid in above those that stand there. -/
theorem or_u64 (v low s : Nat) (hs : s ≤ 63) (hv : v < 2 ^ s) :
    bits .or .u64 ((v : Int) % 18446744073709551616) (IntKind.u64.wrap ((low : Int) * 2 ^ min s 64)) = ((v + 2 ^ s * low : Nat) : Int) % 18446744073709551616 := by
  have hp : (2 : Nat) ^ s ≤ 2 ^ 63 := Nat.pow_le_pow_right (by decide) hs
  have hv' : v < 18446744073709551616 := Nat.lt_of_lt_of_le hv (Nat.le_trans hp (by decide))
  have e1 : ((v : Int) % 18446744073709551616) = (v : Int) := Int.emod_eq_of_lt (by omega) (by omega)
  have e2 : IntKind.u64.wrap ((low : Int) * 2 ^ min s 64) = ((low * 2 ^ s % 18446744073709551616 : Nat) : Int) := by
    rw [Nat.min_eq_left (by omega)]
    simp [IntKind.wrap, IntKind.bits, IntKind.signed]
  rw [e1, e2, u64_or_nat _ _ hv' (Nat.mod_lt _ (by decide))]
  have hd : (2 : Nat) ^ s ∣ 18446744073709551616 := by
    rw [show (18446744073709551616 : Nat) = 2 ^ 64 from rfl]; exact Nat.pow_dvd_pow 2 (by omega)
  have hm : low * 2 ^ s % 18446744073709551616 % 2 ^ s = 0 := by
    rw [Nat.mod_mod_of_dvd _ hd, Nat.mul_mod_left]
  rw [Nat.or_comm, nat_join s _ v hm hv]
  obtain ⟨q, hq⟩ := hd
  have hmul : low * 2 ^ s % 18446744073709551616 = 2 ^ s * (low % q) := by
    rw [hq, Nat.mul_comm low, Nat.mul_mod_mul_left]
  have hq0 : 0 < q := by
    rcases Nat.eq_zero_or_pos q with h | h
    · subst h; simp at hq
    · exact h
  have hlq : low % q + 1 ≤ q := Nat.mod_lt _ hq0
  have hlt : v + 2 ^ s * (low % q) < 18446744073709551616 := by
    have h3 : 2 ^ s * (low % q + 1) ≤ 2 ^ s * q := Nat.mul_le_mul_left _ hlq
    rw [Nat.mul_add, Nat.mul_one, ← hq] at h3
    omega
  have h5 : (v + 2 ^ s * low) % 18446744073709551616 = v + 2 ^ s * (low % q) := by
    rw [Nat.add_mod, Nat.mul_comm (2 ^ s) low, hmul, Nat.mod_eq_of_lt hv', Nat.mod_eq_of_lt hlt]
  have h6 : ((v + 2 ^ s * low : Nat) : Int) % 18446744073709551616 = (((v + 2 ^ s * low) % 18446744073709551616 : Nat) : Int) := by omega
  rw [h6, h5, hmul, Nat.add_comm]
theorem or_u64' (v x s : Nat) (hs : s ≤ 63) (hv : v < 2 ^ s) :
    bits .or .u64 ((v : Int) % 18446744073709551616) (IntKind.u64.wrap ((x : Int) % 128 * 2 ^ s)) = ((v + 2 ^ s * (x % 128) : Nat) : Int) % 18446744073709551616 := by
  have h := or_u64 v (x % 128) s hs hv
  rw [Nat.min_eq_left (by omega)] at h
  exact h
theorem ret3 {k : IntKind} {a a' b b' : Int} {c c' : Bool} (h1 : a = a') (h2 : b = b') (h3 : c = c') :
    Ending.returned (.tuple #[.int k a, .int .i64 b, .bool c]) = .returned (.tuple #[.int k a', .int .i64 b', .bool c']) := by rw [h1, h2, h3]
theorem x_and (x : Int) (h₀ : 0 ≤ x) (h₁ : x ≤ 255) : bits .and .u8 x 127 = x % 128 := bits_mask .u8 8 (by decide) wraps_u8 7 (by decide) x h₀ (by omega)
end Go.Proofs.YtgnbkfkiigcdgaaGreatDoor
/-
  The walks over leb.take at uint64 and its closure; leb.TakeU's contract: for every slice of bytes and every int it answers what the plain functions numU, cntU, okU say, and leaves all memory that was there as it was.
-/
namespace Go.Proofs.YtgnbkfkiigcdgaaGreatDoor
open Go.RowKit
theorem c16 (low sh bits : Int) (p : Addr) (w : World) (ok : Bool) (hok : ok = decide (low / 2 ^ min (bits - sh).toNat 8 = 0)) (h0 : 0 ≤ low) (h1 : low ≤ 127) (hb : w.cell? p = some (.int .i64 bits)) (hs : 0 ≤ sh) (hs1 : sh < bits) (hs2 : bits ≤ 64) :
   Calls Tryz.prog 89 #[.int .u8 low, .int .i64 sh, .pointer (some p)] w fun e w' => e = .returned (.tuple #[.int .u64 low, .bool ok]) ∧ ∃ n, w' = w.drewN n := by
  have hw : IntKind.i64.wrap (bits - sh) = bits - sh := IntWalk.i64_in _ (by omega)
  have hl : IntKind.u64.wrap low = low := IntWalk.u64_in _ (by omega)
  have hn : 0 ≤ bits - sh := by omega
  have hn2 : sh ≤ bits := by omega
  subst hok
  go_enter Tryz.func89, Tryz.ntmps89
  go_wp2
  go_quiet (fail)
  go_wp2
  go_ret2
  exact ⟨rfl, ⟨_, rfl⟩⟩
set_option maxHeartbeats 1000000 in
theorem c15 (A : Option Addr) (l : List UInt8) (n c B : Nat) (bits : Int) (p : Addr) (w : World) (hn : n = l.length) (hmax : n ≤ 9223372036854775807) (hA : Has w B A l) (hp : w.cell? p = some (.int .i64 bits)) :
   Calls Tryz.prog 88 #[.slice A n c, .int .i64 bits, .func (.func 89) #[] #[.pointer (some p)]] w fun e w' =>
     e = .returned (.tuple #[.int .u64 (Leb.numU l bits), .int .i64 (Leb.cntU l bits), .bool (Leb.okU l bits)]) ∧ ∃ n, w' = w.drewN n := by
  have HN := Lib.hid hn
  clear hn
  by_cases hb1 : bits < 1
  · have hf := Lib.hid (Leb.okU_bits (l := l) (.inl hb1))
    go_enter Tryz.func88, Tryz.ntmps88
    go_wp2
    go_ret3
    exact ⟨by simp [Leb.numU, Leb.cntU, hf.out], 0, rfl⟩
  by_cases hb2 : 64 < bits
  · have hf := Lib.hid (Leb.okU_bits (l := l) (.inr hb2))
    go_enter Tryz.func88, Tryz.ntmps88
    go_wp2
    go_ret3
    exact ⟨by simp [Leb.numU, Leb.cntU, hf.out], 0, rfl⟩
  have HA := Lib.hid hA
  clear hA
  go_enter Tryz.func88, Tryz.ntmps88
  go_wp2
  go_loop [9, 10, 11] (fun x i sh => ∃ k : Nat, k ≤ n ∧ k ≤ 10 ∧ i = .int .i64 k ∧ sh = .int .i64 (7 * (k : Int)) ∧ x = .int .u64 ((Leb.val (l.take k) : Int) % 18446744073709551616) ∧ Leb.big l k) (fun _ i _ => n - (intOf i).toNat)
  case atStart => exact ⟨0, by omega, by omega, rfl, rfl, by simp [Leb.val], Leb.big_zero l⟩
  case round =>
    obtain ⟨k, hk, hk10, rfl, rfl, rfl, hbig⟩ := hrel
    have HB := Lib.hid hbig
    clear hbig
    by_cases hlt : k < n
    · by_cases hsh : 7 * (k : Int) < bits
      · obtain ⟨x, hx⟩ : ∃ x, l[k]? = some x := by
          have : k < l.length := by rw [← HN.out]; exact hlt
          exact ⟨l[k], List.getElem?_eq_getElem this⟩
        obtain ⟨ad, hAad, hadB, hcell⟩ := HA.out k x hx
        have HX := Lib.hid hx
        clear hx
        subst hAad
        have hx0 : (0 : Int) ≤ (x.toNat : Int) := by omega
        have hx1 : (x.toNat : Int) ≤ 255 := by have := x.toNat_lt; omega
        have hm1 := x_and (x.toNat : Int) hx0 hx1
        have htop := x_top x.toNat (by omega)
        have hl0 : (0 : Int) ≤ (x.toNat : Int) % 128 := by omega
        have hl1 : (x.toNat : Int) % 128 ≤ 127 := by omega
        by_cases hbig : 128 ≤ x.toNat
        · rw [decide_eq_true hbig] at htop
          have HBx := Lib.hid hbig
          clear hbig
          go_wp2
          go_round
          case rel =>
            have hv := Leb.val_take_lt HX.out
            refine ⟨k + 1, by omega, by omega, by go_num, by go_num, ?_, Leb.big_succ HB.out HX.out HBx.out⟩
            rw [Leb.val_take_succ HX.out, Leb.pow128]
            exact congrArg _ (or_u64' (Leb.val (l.take k)) x.toNat (7 * k) (by omega) hv)
          case measure => simp [intOf]; omega
        · rw [decide_eq_false hbig] at htop
          have hsm : x.toNat < 128 := by omega
          have hokE := Leb.okU_last HB.out HX.out hsm (by omega) (by omega) hsh
          have hrun := Leb.run_at HB.out HX.out hsm
          have huse := Leb.used_at HB.out HX.out hsm
          have hmod : (x.toNat : Int) = (x.toNat : Int) % 128 := by omega
          rw [hmod] at hokE
          have HE := Lib.hid hokE
          have HR := Lib.hid hrun
          have HU := Lib.hid huse
          have HM := Lib.hid hmod
          clear hbig hokE hrun huse hmod
          go_wp2_with fail
          cases hok : Leb.okU l bits
          · have HO := Lib.hid hok
            refine (c16 _ _ _ _ _ false (by rw [← HO.out]; exact HE.out) (by omega) (by omega) hp (by omega) hsh (by omega)).mono ?_
            rintro e w' ⟨rfl, nd, rfl⟩
            clear hok
            go_wp2
            go_ret3
            exact ⟨by simp [Leb.numU, Leb.cntU, HO.out], nd, rfl⟩
          · have HO := Lib.hid hok
            refine (c16 _ _ _ _ _ true (by rw [← HO.out]; exact HE.out) (by omega) (by omega) hp (by omega) hsh (by omega)).mono ?_
            rintro e w' ⟨rfl, nd, rfl⟩
            clear hok
            go_wp2
            go_ret3
            have hv := Leb.val_take_lt HX.out
            refine ⟨ret3 ?_ ?_ HO.out.symm, nd, rfl⟩
            · refine (or_u64' (Leb.val (l.take k)) x.toNat (7 * k) (by omega) hv).trans ?_
              rw [Leb.numU, if_pos HO.out, Nat.mod_eq_of_lt hsm, ← HU.out]
              exact Int.emod_eq_of_lt (by omega) (Leb.used_lt HO.out)
            · rw [Leb.cntU, if_pos HO.out, HR.out]; rfl
      · have hf := Lib.hid (Leb.okU_end (l := l) (n := bits) (k := k) HB.out (.inr (by omega)))
        go_wp2
        go_ret3
        exact ⟨by simp [Leb.numU, Leb.cntU, hf.out], 0, rfl⟩
    · have hf := Lib.hid (Leb.okU_end (l := l) (n := bits) (k := k) HB.out (.inl (by rw [← HN.out]; omega)))
      go_wp2
      go_ret3
      exact ⟨by simp [Leb.numU, Leb.cntU, hf.out], 0, rfl⟩
set_option maxHeartbeats 400000 in
/-- leb.TakeU. -/
theorem c8 (A : Option Addr) (l : List UInt8) (n c : Nat) (bits : Int) (w : World) (hn : n = l.length) (hmax : n ≤ 9223372036854775807) (hA : Has w w.heap.size A l) :
   Calls Tryz.prog 47 #[.slice A n c, .int .i64 bits] w fun e w' => e = .returned (.tuple #[.int .u64 (Leb.numU l bits), .int .i64 (Leb.cntU l bits), .bool (Leb.okU l bits)]) ∧ Below w.heap.size w w' := by
  have HA := Lib.hid hA
  have HN := Lib.hid hn
  clear hA hn
  go_enter Tryz.func47, Tryz.ntmps47
  go_wp2_with fail
  refine (c15 A l n c w.heap.size bits _ _ HN.out hmax (HA.out.alloc (Nat.le_refl _) _) ?_).mono ?_
  · exact (World.cell?_alloc_new _ _ _ 0).trans rfl
  rintro e w' ⟨rfl, nd, rfl⟩
  go_wp2
  go_ret3
  exact ⟨rfl, Go.Proofs.YtgnbkfkiigcdgaaGreatDoor.Below.dn ((Below.refl _ _).alloc (Nat.le_refl _) _) nd⟩
end Go.Proofs.YtgnbkfkiigcdgaaGreatDoor
/-
  The walks over leb.take at int64 and its closure; leb.TakeS's contract: for every slice of bytes and every int it answers what the plain functions numS, cntS, okS say, and leaves all memory that was there as it was.
-/
namespace Go.Proofs.YtgnbkfkiigcdgaaGreatDoor
open Go.RowKit
theorem top_wrap (low : Nat) (h1 : (low : Int) ≤ 127) : wrap64 (IntKind.i8.wrap ((low : Int) * 2) / 2) = Leb.top low := by
  have e : IntKind.i8.wrap ((low : Int) * 2) = if low < 64 then (low : Int) * 2 else (low : Int) * 2 - 256 := by
    simp [IntKind.wrap, IntKind.bits, IntKind.signed]
    omega
  rw [e, Leb.top]
  by_cases h : low < 64
  · rw [if_pos h, if_pos h, IntWalk.wrap64_in _ (by omega)]; omega
  · rw [if_neg h, if_neg h, IntWalk.wrap64_in _ (by omega)]; omega
theorem ret2b {k : IntKind} {a : Int} {c c' : Bool} (h : c = c') : Ending.returned (.tuple #[.int k a, .bool c]) = .returned (.tuple #[.int k a, .bool c']) := by rw [h]
theorem or_dec (a : Int) : (a == 0 || a == -1) = decide (a = 0 ∨ a = -1) := by
  rw [Bool.eq_iff_iff]; simp
set_option maxHeartbeats 400000 in
theorem c21 (low e : Nat) (sh bits : Int) (p : Addr) (w : World) (ok : Bool) (he : (e : Int) = min (bits - sh) 7 - 1) (hok : ok = decide (Leb.top low / 2 ^ e = 0 ∨ Leb.top low / 2 ^ e = -1))
   (h1 : (low : Int) ≤ 127) (hb : w.cell? p = some (.int .i64 bits)) (hs : 0 ≤ sh) (hs1 : sh < bits) (hs2 : bits ≤ 64) :
   Calls Tryz.prog 175 #[.int .u8 (low : Int), .int .i64 sh, .pointer (some p)] w fun e w' => e = .returned (.tuple #[.int .i64 (Leb.top low), .bool ok]) ∧ w = w' := by
  have hn2 : sh ≤ bits := by omega
  have htop := top_wrap low h1
  have HO := Lib.hid hok
  clear hok
  by_cases h7 : 7 < bits - sh
  · obtain rfl : e = 6 := by omega
    clear he
    go_enter Tryz.func175, Tryz.ntmps175
    go_wp2_with fail
    all_goals go_ret2
    · have ht : Leb.top low / 64 = 0 := by assumption
      exact ⟨ret2b (by rw [HO.out]; simp [ht]), rfl⟩
    · exact ⟨ret2b (by rw [HO.out]; exact or_dec _), rfl⟩
  · have he' : e = (bits - sh).toNat - 1 := by omega
    have HE := Lib.hid he'
    clear he he'
    go_enter Tryz.func175, Tryz.ntmps175
    go_wp2_with fail
    all_goals go_ret2
    · have ht : Leb.top low / 2 ^ ((bits - sh).toNat - 1) = 0 := by assumption
      exact ⟨ret2b (by rw [HO.out, HE.out]; simp [ht]), rfl⟩
    · exact ⟨ret2b (by rw [HO.out, HE.out]; exact or_dec _), rfl⟩
theorem or_low (v x s : Nat) (hs : s ≤ 63) (hv : v < 2 ^ s) : bits .or .i64 (wrap64 (v : Int)) (wrap64 ((x : Int) % 128 * 2 ^ s)) = wrap64 ((v + 2 ^ s * (x % 128) : Nat) : Int) := by
  have hp : (2 : Nat) ^ s ≤ 2 ^ 63 := Nat.pow_le_pow_right (by decide) hs
  have hp' : (2 : Nat) ^ 63 = 9223372036854775808 := rfl
  rw [IntWalk.wrap64_in (v : Int) (by omega)]
  have h := Leb.or_i64 v s ((x : Int) % 128) hs hv
  rw [h]
  simp
theorem or_top (v s : Nat) (t : Int) (hs : s ≤ 63) (hv : v < 2 ^ s) : bits .or .i64 (wrap64 (v : Int)) (wrap64 (t * 2 ^ s)) = wrap64 ((v : Int) + ((2 ^ s : Nat) : Int) * t) := by
  have hp : (2 : Nat) ^ s ≤ 2 ^ 63 := Nat.pow_le_pow_right (by decide) hs
  have hp' : (2 : Nat) ^ 63 = 9223372036854775808 := rfl
  rw [IntWalk.wrap64_in (v : Int) (by omega)]
  exact Leb.or_i64 v s t hs hv
set_option maxHeartbeats 1000000 in
theorem c20 (A : Option Addr) (l : List UInt8) (n c B : Nat) (bits : Int) (p : Addr) (w : World) (hn : n = l.length) (hmax : n ≤ 9223372036854775807) (hA : Has w B A l) (hp : w.cell? p = some (.int .i64 bits)) :
   Calls Tryz.prog 174 #[.slice A n c, .int .i64 bits, .func (.func 175) #[] #[.pointer (some p)]] w fun e w' =>
     e = .returned (.tuple #[.int .i64 (Leb.numS l bits), .int .i64 (Leb.cntS l bits), .bool (Leb.okS l bits)]) ∧ w = w' := by
  have HN := Lib.hid hn
  clear hn
  by_cases hb1 : bits < 1
  · have hf := Lib.hid (Leb.okS_bits (l := l) (.inl hb1))
    go_enter Tryz.func174, Tryz.ntmps174
    go_wp2
    go_ret3
    exact ⟨by simp [Leb.numS, Leb.cntS, hf.out], rfl⟩
  by_cases hb2 : 64 < bits
  · have hf := Lib.hid (Leb.okS_bits (l := l) (.inr hb2))
    go_enter Tryz.func174, Tryz.ntmps174
    go_wp2
    go_ret3
    exact ⟨by simp [Leb.numS, Leb.cntS, hf.out], rfl⟩
  have HA := Lib.hid hA
  clear hA
  go_enter Tryz.func174, Tryz.ntmps174
  go_wp2
  go_loop [9, 10, 11] (fun x i sh => ∃ k : Nat, k ≤ n ∧ k ≤ 10 ∧ i = .int .i64 k ∧ sh = .int .i64 (7 * (k : Int)) ∧ x = .int .i64 (wrap64 (Leb.val (l.take k) : Int)) ∧ Leb.big l k) (fun _ i _ => n - (intOf i).toNat)
  case atStart => exact ⟨0, by omega, by omega, rfl, rfl, by simp [Leb.val, wrap64], Leb.big_zero l⟩
  case round =>
    obtain ⟨k, hk, hk10, rfl, rfl, rfl, hbig⟩ := hrel
    have HB := Lib.hid hbig
    clear hbig
    by_cases hlt : k < n
    · by_cases hsh : 7 * (k : Int) < bits
      · obtain ⟨x, hx⟩ : ∃ x, l[k]? = some x := by
          have : k < l.length := by rw [← HN.out]; exact hlt
          exact ⟨l[k], List.getElem?_eq_getElem this⟩
        obtain ⟨ad, hAad, hadB, hcell⟩ := HA.out k x hx
        have HX := Lib.hid hx
        clear hx
        subst hAad
        have hx0 : (0 : Int) ≤ (x.toNat : Int) := by omega
        have hx1 : (x.toNat : Int) ≤ 255 := by have := x.toNat_lt; omega
        have hm1 := x_and (x.toNat : Int) hx0 hx1
        have htop := x_top x.toNat (by omega)
        have hl0 : (0 : Int) ≤ (x.toNat : Int) % 128 := by omega
        have hl1 : (x.toNat : Int) % 128 ≤ 127 := by omega
        by_cases hbig : 128 ≤ x.toNat
        · rw [decide_eq_true hbig] at htop
          have HBx := Lib.hid hbig
          clear hbig
          go_wp2
          go_round
          case rel =>
            have hv := Leb.val_take_lt HX.out
            refine ⟨k + 1, by omega, by omega, by go_num, by go_num, ?_, Leb.big_succ HB.out HX.out HBx.out⟩
            rw [Leb.val_take_succ HX.out, Leb.pow128]
            exact congrArg _ (or_low (Leb.val (l.take k)) x.toNat (7 * k) (by omega) hv)
          case measure => simp [intOf]; omega
        · rw [decide_eq_false hbig] at htop
          have hsm : x.toNat < 128 := by omega
          obtain ⟨e, he⟩ : ∃ e : Nat, (e : Int) = min (bits - 7 * (k : Int)) 7 - 1 := ⟨(min (bits - 7 * (k : Int)) 7 - 1).toNat, by omega⟩
          have hokE := Leb.okS_last HB.out HX.out hsm (by omega) (by omega) hsh e he
          have hrun := Leb.run_at HB.out HX.out hsm
          have huse := Leb.sused_at HB.out HX.out hsm
          have hmod : (x.toNat : Int) % 128 = (x.toNat : Int) := by omega
          have HE := Lib.hid hokE
          have HR := Lib.hid hrun
          have HU := Lib.hid huse
          have Hee := Lib.hid he
          have HM := Lib.hid hmod
          clear hbig hokE hrun huse hmod he
          go_wp2_with fail
          rw [HM.out]
          cases hok : Leb.okS l bits
          · have HO := Lib.hid hok
            refine (c21 _ e _ _ _ _ false Hee.out (by rw [← HO.out]; exact HE.out) (by omega) hp (by omega) hsh (by omega)).mono ?_
            rintro e w' ⟨rfl, rfl⟩
            clear hok
            go_wp2
            go_ret3
            exact ⟨by simp [Leb.numS, Leb.cntS, HO.out], rfl⟩
          · have HO := Lib.hid hok
            refine (c21 _ e _ _ _ _ true Hee.out (by rw [← HO.out]; exact HE.out) (by omega) hp (by omega) hsh (by omega)).mono ?_
            rintro e w' ⟨rfl, rfl⟩
            clear hok
            go_wp2
            go_ret3
            have hv := Leb.val_take_lt HX.out
            refine ⟨ret3 ?_ ?_ HO.out.symm, rfl⟩
            · refine (or_top (Leb.val (l.take k)) (7 * k) (Leb.top x.toNat) (by omega) hv).trans ?_
              rw [Leb.numS, if_pos HO.out, ← HU.out]
              exact IntWalk.wrap64_in _ (Leb.sused_lt HO.out)
            · rw [Leb.cntS, if_pos HO.out, HR.out]; rfl
      · have hf := Lib.hid (Leb.okS_end (l := l) (n := bits) (k := k) HB.out (.inr (by omega)))
        go_wp2
        go_ret3
        exact ⟨by simp [Leb.numS, Leb.cntS, hf.out], rfl⟩
    · have hf := Lib.hid (Leb.okS_end (l := l) (n := bits) (k := k) HB.out (.inl (by rw [← HN.out]; omega)))
      go_wp2
      go_ret3
      exact ⟨by simp [Leb.numS, Leb.cntS, hf.out], rfl⟩
set_option maxHeartbeats 400000 in
/-- leb.TakeS. -/
theorem c10 (A : Option Addr) (l : List UInt8) (n c : Nat) (bits : Int) (w : World) (hn : n = l.length) (hmax : n ≤ 9223372036854775807) (hA : Has w w.heap.size A l) :
   Calls Tryz.prog 173 #[.slice A n c, .int .i64 bits] w fun e w' => e = .returned (.tuple #[.int .i64 (Leb.numS l bits), .int .i64 (Leb.cntS l bits), .bool (Leb.okS l bits)]) ∧ Below w.heap.size w w' := by
  have HA := Lib.hid hA
  have HN := Lib.hid hn
  clear hA hn
  go_enter Tryz.func173, Tryz.ntmps173
  go_wp2_with fail
  refine (c20 A l n c w.heap.size bits _ _ HN.out hmax (HA.out.alloc (Nat.le_refl _) _) ?_).mono ?_
  · exact (World.cell?_alloc_new _ _ _ 0).trans rfl
  rintro e w' ⟨rfl, rfl⟩
  go_wp2
  go_ret3
  exact ⟨rfl, (Below.refl _ _).alloc (Nat.le_refl _) _⟩
end Go.Proofs.YtgnbkfkiigcdgaaGreatDoor
/-
  leb.grown's contract: a copy of the bytes that came in, in a new row of its own; all memory that was there is as it was.
-/
namespace Go.Proofs.YtgnbkfkiigcdgaaGreatDoor
open Go.RowKit
set_option maxHeartbeats 400000 in
/-- leb.grown: a copy, in a new row that has room. -/
theorem c22 (A : Option Addr) (l : List UInt8) (n c : Nat) (w : World) (hn : n = l.length) (hsz : n + 10 ≤ 140737488355328) (hA : Has w w.heap.size A l) :
    Calls Tryz.prog 60 #[.slice A n c] w fun e w' => ∃ v, e = .returned v ∧ w'.ownsRow w.heap.size 5 1 v n (bytesOf l) ∧ Below w.heap.size w w' := by
  obtain ⟨i0, hi, hz0, hz1, hz2⟩ := info_parts info5
  have HA := Lib.hid hA
  have HN := Lib.hid hn
  have hmk := fun W => run_make (P := Tryz.prog) W 36 5 i0 (.int .u8 0) und22 hi hz0 .i64 .i64 (n : Int) ((n : Int) + 10) (by omega) (by omega) (by rw [hz2]; omega) (by omega)
  clear hA hn
  go_enter Tryz.func60, Tryz.ntmps60
  go_wp2_with (with_reducible refine wpList_copy_splice rfl (.tmp 10) (.tmp 11) 36 36 rfl 5 und22 ?hsz1 (some ⟨w.heap.size, 0, none⟩) A n (n + 10) n c rfl rfl w.heap.size 0 (madeCells #[Value.int IntKind.u8 0] (n + 10)).toList 5 ?hg (bytesOf l) ?hn ?hpos ?hfit (bytesOf_one l) w.heap.size w ?hb (Nat.le_refl _) ?_)
  case hsz1 => rw [hi]; simp [hz1]
  case hg => simpa using heap_alloc_new w _
  case hn => rw [bytesOf_length, ← HN.out]; exact (Nat.min_self n).symm
  case hpos => exact fun h0 => (HA.out.alloc (Nat.le_refl _) _).cells h0
  case hfit => rw [bytesOf_length, ← HN.out]; simp [size_madeCells]
  case hb => exact (Below.refl _ _).alloc (Nat.le_refl _) _
  intro w' hrow hbel
  clear hmk
  go_wp2
  go_ret
  refine ⟨_, rfl, ⟨by rw [bytesOf_length, ← HN.out]; omega, .inr ⟨w.heap.size, n + 10, _, rfl, Nat.le_refl _, hrow.out, by omega, by unfold maxLen; omega, ?_, ?_⟩⟩, hbel⟩
  · simp [splice, size_madeCells, bytesOf_length, ← HN.out]
  · rw [Nat.mul_one, show n = (bytesOf l).length by rw [bytesOf_length]; exact HN.out]
    simp [splice]
end Go.Proofs.YtgnbkfkiigcdgaaGreatDoor
/-
  leb.AppendU's contract: the bytes that came in and behind them the fewest bytes of the number, in a row of the call's own; all memory that was there is as it was.
-/
namespace Go.Proofs.YtgnbkfkiigcdgaaGreatDoor
open Go.RowKit
theorem and127 (m : Nat) (h : m < 18446744073709551616) : bits .and .u64 (m : Int) 127 = (m : Int) % 128 := by
  have h1 : bits .and .u64 (m : Int) 127 = ((m &&& 127 : Nat) : Int) := u64_and_nat m 127 h (by decide)
  rw [h1, nat_mask7]; omega
theorem or128 (m : Nat) (h : m < 128) : bits .or .u8 (m : Int) 128 = (m : Int) + 128 := by
  have h1 : bits .or .u8 (m : Int) 128 = ((m ||| 128 : Nat) : Int) := u8_or_nat m 128 (by omega) (by decide)
  have h2 : 128 ||| m = 128 + m := nat_join 7 128 m (by decide) (by omega)
  rw [h1, Nat.or_comm, h2]; omega
set_option maxRecDepth 100000 in
set_option maxHeartbeats 1000000 in
theorem c11 (A : Option Addr) (l : List UInt8) (n c N : Nat) (w : World) (hn : n = l.length) (hsz : n + 10 ≤ 140737488355328) (hA : Has w w.heap.size A l) (hN : N < 18446744073709551616) :
    Calls Tryz.prog 31 #[.slice A n c, .int .u64 (N : Int)] w fun e w' => ∃ v, e = .returned v ∧ w'.ownsRow w.heap.size 5 1 v (n + (Leb.encU N).length) (bytesOf (l ++ Leb.encU N)) ∧ Below w.heap.size w w' := by
  obtain ⟨i0, hi, hz0, hz1, hz2⟩ := info_parts info5
  have HA := Lib.hid hA
  have HN := Lib.hid hn
  have HNN := Lib.hid hN
  clear hA hn hN
  go_enter Tryz.func31, Tryz.ntmps31
  go_wp2_with (go_at_call 60; refine (c22 A l n c _ HN.out hsz HA.out).mono ?_; rintro e w1 ⟨v, rfl, hown, hbel⟩)
  have HO := Lib.hid hown
  have HB := Lib.hid hbel
  clear hown hbel
  go_wp2_with fail
  go_loopw [1, 5] (fun nv v wr => ∃ (m : Nat) (done : List UInt8), nv = .int .u64 (m : Int) ∧ m ≤ 18446744073709551615 ∧ Hid (Leb.encU N = done ++ Leb.encU m) ∧ done.length ≤ 9 ∧ Hid (wr.ownsRow w.heap.size 5 1 v (n + done.length) (bytesOf (l ++ done))) ∧ Hid (Below w.heap.size w wr)) (fun nv _ _ => (intOf nv).toNat)
  case atStart => exact ⟨N, [], rfl, by have := HNN.out; omega, Lib.hid rfl, by simp, Lib.hid (by simpa using HO.out), HB⟩
  case round =>
    obtain ⟨m, done, rfl, hm, hE, hd, hown, hbel⟩ := hrel
    by_cases hbig : 127 < m
    · have ha := and127 m (by omega)
      have hob := or128 (m % 128) (by omega)
      rw [Int.natCast_emod] at hob
      have hw8 : IntKind.u8.wrap ((m : Int) % 128) = (m : Int) % 128 := IntWalk.u8_in _ (by omega)
      have hcast : ((128 : Nat) : Int) = 128 := rfl
      rw [hcast] at hob
      clear hcast
      have hE2 := Leb.encU_big (n := m) (by omega)
      have HE2 := Lib.hid hE2
      clear hE2
      go_wp2_with (at_builtin; refine wpList_append_own _ rfl _ _ 36 rfl w.heap.size 5 i0 (.int .u8 0) 1 1 und22 hi hz0 hz1 hz2 rfl (by decide) _ _ _ rfl (hown.out.alloc _) ⟨wr.heap.size, 0, none⟩ 1 1 [.int .u8 ((m : Int) % 128 + 128)] rfl rfl ?c1 ?c2 ?c3 ?c4 ?c5 ?_)
      case c1 => exact one_new wr _ 5
      case c2 => intro u hu; simp at hu; subst hu; rfl
      case c3 => unfold maxLen; omega
      case c4 => omega
      case c5 => have := hbel.out.size; simp; omega
      intro v' w' hown' hgrow hnil
      have hbel' := (hbel.out.alloc hbel.out.size _).grown hgrow (by have := hbel.out.size; simp; omega) (own_ge hown.out)
      have HO' := Lib.hid hown'
      have HB' := Lib.hid hbel'
      clear hown' hgrow hnil hbel' hown hbel
      go_wp2_with fail
      go_roundw
      case rel =>
        have e1 := Leb.encU_le10 N HNN.out
        have e2 := Leb.encU_pos (m / 128)
        refine ⟨m / 128, done ++ [UInt8.ofNat (m % 128 + 128)], by go_num, by omega, Lib.hid ?_, ?_, Lib.hid ?_, HB'⟩
        · rw [hE.out, HE2.out]; simp
        · rw [hE.out, HE2.out] at e1; simp at e1 ⊢; omega
        · have h := HO'.out
          have e3 : bytesOf (l ++ (done ++ [UInt8.ofNat (m % 128 + 128)])) = bytesOf (l ++ done) ++ [Value.int .u8 ((m : Int) % 128 + 128)] := by
            rw [← List.append_assoc, bytesOf_append, bytesOf_nat (m % 128 + 128) (by omega) ((m : Int) % 128 + 128) (by omega)]
          rw [e3, List.length_append]
          exact h
      case measure => simp [intOf]; omega
    · have hw8 : IntKind.u8.wrap (m : Int) = (m : Int) := IntWalk.u8_in _ (by omega)
      have HE2 := Lib.hid (Leb.encU_small (n := m) (by omega))
      go_wp2_with (at_builtin; refine wpList_append_own _ rfl _ _ 36 rfl w.heap.size 5 i0 (.int .u8 0) 1 1 und22 hi hz0 hz1 hz2 rfl (by decide) _ _ _ rfl (hown.out.alloc _) ⟨wr.heap.size, 0, none⟩ 1 1 [.int .u8 (m : Int)] rfl rfl ?c1 ?c2 ?c3 ?c4 ?c5 ?_)
      case c1 => exact one_new wr _ 5
      case c2 => intro u hu; simp at hu; subst hu; rfl
      case c3 => unfold maxLen; omega
      case c4 => omega
      case c5 => have := hbel.out.size; simp; omega
      intro v' w' hown' hgrow hnil
      have hbel' := (hbel.out.alloc hbel.out.size _).grown hgrow (by have := hbel.out.size; simp; omega) (own_ge hown.out)
      have HO' := Lib.hid hown'
      have HB' := Lib.hid hbel'
      clear hown' hgrow hnil hbel' hown hbel
      go_wp2_with fail
      go_ret
      refine ⟨_, rfl, ?_, HB'.out⟩
      have h := HO'.out
      have e3 : bytesOf (l ++ Leb.encU N) = bytesOf (l ++ done) ++ [Value.int .u8 (m : Int)] := by
        rw [hE.out, HE2.out, ← List.append_assoc, bytesOf_append, bytesOf_nat m (by omega) (m : Int) rfl]
      rw [e3, hE.out, HE2.out, List.length_append, ← Nat.add_assoc]
      exact h
end Go.Proofs.YtgnbkfkiigcdgaaGreatDoor
/-
  leb.AppendS's contract: the bytes that came in and behind them the fewest bytes of the number, in a row of the call's own; all memory that was there is as it was.
-/
namespace Go.Proofs.YtgnbkfkiigcdgaaGreatDoor
open Go.RowKit
theorem and127s (m : Int) : bits .and .i64 m 127 = m % 128 := by
  show IntKind.i64.wrap ((BitVec.ofInt 64 m &&& BitVec.ofInt 64 127).toNat : Int) = _
  have h2 : (BitVec.ofInt 64 127).toNat = 127 := by decide
  rw [BitVec.toNat_and, Leb.ofInt_any, h2, nat_mask7, IntKind.wrap_i64]
  omega
set_option maxRecDepth 100000 in
set_option maxHeartbeats 1000000 in
theorem c12 (A : Option Addr) (l : List UInt8) (n c : Nat) (N : Int) (w : World) (hn : n = l.length) (hsz : n + 10 ≤ 140737488355328) (hA : Has w w.heap.size A l) (hN : -9223372036854775808 ≤ N ∧ N ≤ 9223372036854775807) :
    Calls Tryz.prog 162 #[.slice A n c, .int .i64 N] w fun e w' => ∃ v, e = .returned v ∧ w'.ownsRow w.heap.size 5 1 v (n + (Leb.encS N).length) (bytesOf (l ++ Leb.encS N)) ∧ Below w.heap.size w w' := by
  obtain ⟨i0, hi, hz0, hz1, hz2⟩ := info_parts info5
  have HA := Lib.hid hA
  have HN := Lib.hid hn
  have HNN := Lib.hid hN
  clear hA hn hN
  go_enter Tryz.func162, Tryz.ntmps162
  go_wp2_with (go_at_call 60; refine (c22 A l n c _ HN.out hsz HA.out).mono ?_; rintro e w1 ⟨v, rfl, hown, hbel⟩)
  have HO := Lib.hid hown
  have HB := Lib.hid hbel
  clear hown hbel
  go_wp2_with fail
  go_loopw [1, 5] (fun nv v wr => ∃ (m : Int) (done : List UInt8), nv = .int .i64 m ∧ -9223372036854775808 ≤ m ∧ m ≤ 9223372036854775807 ∧ Hid (Leb.encS N = done ++ Leb.encS m) ∧ done.length ≤ 9 ∧ Hid (wr.ownsRow w.heap.size 5 1 v (n + done.length) (bytesOf (l ++ done))) ∧ Hid (Below w.heap.size w wr)) (fun nv _ _ => (intOf nv).natAbs)
  case atStart => exact ⟨N, [], rfl, HNN.out.1, HNN.out.2, Lib.hid rfl, by simp, Lib.hid (by simpa using HO.out), HB⟩
  case round =>
    obtain ⟨m, done, rfl, hm0, hm, hE, hd, hown, hbel⟩ := hrel
    have ha := and127s m
    have hw8 : IntKind.u8.wrap (m % 128) = m % 128 := IntWalk.u8_in _ (by omega)
    by_cases hbig : -64 ≤ m ∧ m ≤ 63
    · obtain ⟨hb1, hb2⟩ := hbig
      have HE2 := Lib.hid (Leb.encS_small (n := m) ⟨hb1, hb2⟩)
      go_wp2_with (at_builtin; refine wpList_append_own _ rfl _ _ 36 rfl w.heap.size 5 i0 (.int .u8 0) 1 1 und22 hi hz0 hz1 hz2 rfl (by decide) _ _ _ rfl (hown.out.alloc _) ⟨wr.heap.size, 0, none⟩ 1 1 [.int .u8 (m % 128)] rfl rfl ?c1 ?c2 ?c3 ?c4 ?c5 ?_)
      case c1 => exact one_new wr _ 5
      case c2 => intro u hu; simp at hu; subst hu; rfl
      case c3 => unfold maxLen; omega
      case c4 => omega
      case c5 => have := hbel.out.size; simp; omega
      intro v' w' hown' hgrow hnil
      have hbel' := (hbel.out.alloc hbel.out.size _).grown hgrow (by have := hbel.out.size; simp; omega) (own_ge hown.out)
      have HO' := Lib.hid hown'
      have HB' := Lib.hid hbel'
      clear hown' hgrow hnil hbel' hown hbel
      go_wp2_with fail
      go_ret
      refine ⟨_, rfl, ?_, HB'.out⟩
      have h := HO'.out
      have e3 : bytesOf (l ++ Leb.encS N) = bytesOf (l ++ done) ++ [Value.int .u8 (m % 128)] := by
        rw [hE.out, HE2.out, ← List.append_assoc, bytesOf_append, bytesOf_nat (m % 128).toNat (by omega) (m % 128) (by omega)]
      rw [e3, hE.out, HE2.out, List.length_append, ← Nat.add_assoc]
      exact h
    · have hob : bits .or .u8 (m % 128) 128 = m % 128 + 128 := by
        have h := or128 (m % 128).toNat (by omega)
        rwa [show (((m % 128).toNat : Nat) : Int) = m % 128 by omega] at h
      have HE2 := Lib.hid (Leb.encS_big (n := m) hbig)
      by_cases hlow : m < -64
      · clear hbig
        have hd1 : -9223372036854775808 ≤ m / 128 := by omega
        go_wp2_with (at_builtin; refine wpList_append_own _ rfl _ _ 36 rfl w.heap.size 5 i0 (.int .u8 0) 1 1 und22 hi hz0 hz1 hz2 rfl (by decide) _ _ _ rfl (hown.out.alloc _) ⟨wr.heap.size, 0, none⟩ 1 1 [.int .u8 (m % 128 + 128)] rfl rfl ?d1 ?d2 ?d3 ?d4 ?d5 ?_)
        case d1 => exact one_new wr _ 5
        case d2 => intro u hu; simp at hu; subst hu; rfl
        case d3 => unfold maxLen; omega
        case d4 => omega
        case d5 => have := hbel.out.size; simp; omega
        intro v' w' hown' hgrow hnil
        have hbel' := (hbel.out.alloc hbel.out.size _).grown hgrow (by have := hbel.out.size; simp; omega) (own_ge hown.out)
        have HO' := Lib.hid hown'
        have HB' := Lib.hid hbel'
        clear hown' hgrow hnil hbel' hown hbel
        go_wp2_with fail
        go_roundw
        case rel =>
          have e1 := Leb.encS_le10 N HNN.out.1 HNN.out.2
          have e2 := Leb.encS_pos (m / 128)
          refine ⟨m / 128, done ++ [UInt8.ofNat ((m % 128).toNat + 128)], by go_num, by omega, by omega, Lib.hid ?_, ?_, Lib.hid ?_, HB'⟩
          · rw [hE.out, HE2.out]; simp
          · rw [hE.out, HE2.out] at e1; simp at e1 ⊢; omega
          · have h := HO'.out
            have e3 : bytesOf (l ++ (done ++ [UInt8.ofNat ((m % 128).toNat + 128)])) = bytesOf (l ++ done) ++ [Value.int .u8 (m % 128 + 128)] := by
              rw [← List.append_assoc, bytesOf_append, bytesOf_nat ((m % 128).toNat + 128) (by omega) (m % 128 + 128) (by omega)]
            rw [e3, List.length_append]
            exact h
        case measure => simp [intOf]; omega
      · have hhi : 63 < m := by omega
        clear hbig
        have hd1 : -9223372036854775808 ≤ m / 128 := by omega
        go_wp2_with (at_builtin; refine wpList_append_own _ rfl _ _ 36 rfl w.heap.size 5 i0 (.int .u8 0) 1 1 und22 hi hz0 hz1 hz2 rfl (by decide) _ _ _ rfl (hown.out.alloc _) ⟨wr.heap.size, 0, none⟩ 1 1 [.int .u8 (m % 128 + 128)] rfl rfl ?kk1 ?kk2 ?kk3 ?kk4 ?kk5 ?_)
        case kk2 => rfl
        case kk3 => unfold maxLen; omega
        case kk4 => omega
        case kk5 => have := hbel.out.size; omega
        intro v' w' hown' hgrow hnil
        have hbel' := (hbel.out.alloc hbel.out.size _).grown hgrow (by have := hbel.out.size; simp; omega) (own_ge hown.out)
        have HO' := Lib.hid hown'
        have HB' := Lib.hid hbel'
        clear hown' hgrow hnil hbel' hown hbel
        go_wp2_with fail
        go_roundw
        case rel =>
          have e1 := Leb.encS_le10 N HNN.out.1 HNN.out.2
          have e2 := Leb.encS_pos (m / 128)
          refine ⟨m / 128, done ++ [UInt8.ofNat ((m % 128).toNat + 128)], by go_num, by omega, by omega, Lib.hid ?_, ?_, Lib.hid ?_, HB'⟩
          · rw [hE.out, HE2.out]; simp
          · rw [hE.out, HE2.out] at e1; simp at e1 ⊢; omega
          · have h := HO'.out
            have e3 : bytesOf (l ++ (done ++ [UInt8.ofNat ((m % 128).toNat + 128)])) = bytesOf (l ++ done) ++ [Value.int .u8 (m % 128 + 128)] := by
              rw [← List.append_assoc, bytesOf_append, bytesOf_nat ((m % 128).toNat + 128) (by omega) (m % 128 + 128) (by omega)]
            rw [e3, List.length_append]
            exact h
        case measure => simp [intOf]; omega
end Go.Proofs.YtgnbkfkiigcdgaaGreatDoor
