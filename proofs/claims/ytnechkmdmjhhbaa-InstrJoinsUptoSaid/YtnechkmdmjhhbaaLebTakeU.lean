/-
  The walks over leb.take at uint64 and its closure; leb.TakeU's contract: for every slice of bytes and every int it answers what the plain functions numU, cntU, okU say, and leaves all memory that was there as it was.
-/
import Derived.Test.YtnechkmdmjhhbaaLebWords
namespace Go.Proofs.Ytnechkmdmjhhbaa
open Go.RowKit
theorem c16 (low sh bits : Int) (p : Addr) (w : World) (ok : Bool) (hok : ok = decide (low / 2 ^ min (bits - sh).toNat 8 = 0)) (h0 : 0 ≤ low) (h1 : low ≤ 127) (hb : w.cell? p = some (.int .i64 bits)) (hs : 0 ≤ sh) (hs1 : sh < bits) (hs2 : bits ≤ 64) :
   Calls Try.prog 61 #[.int .u8 low, .int .i64 sh, .pointer (some p)] w fun e w' => e = .returned (.tuple #[.int .u64 low, .bool ok]) ∧ ∃ n, w' = w.drewN n := by
  have hw : IntKind.i64.wrap (bits - sh) = bits - sh := IntWalk.i64_in _ (by omega)
  have hl : IntKind.u64.wrap low = low := IntWalk.u64_in _ (by omega)
  have hn : 0 ≤ bits - sh := by omega
  have hn2 : sh ≤ bits := by omega
  subst hok
  go_enter Try.func61, Try.ntmps61
  go_wp2
  go_quiet (fail)
  go_wp2
  go_ret2
  exact ⟨rfl, ⟨_, rfl⟩⟩
set_option maxHeartbeats 1000000 in
theorem c15 (A : Option Addr) (l : List UInt8) (n c B : Nat) (bits : Int) (p : Addr) (w : World) (hn : n = l.length) (hmax : n ≤ 9223372036854775807) (hA : Has w B A l) (hp : w.cell? p = some (.int .i64 bits)) :
   Calls Try.prog 60 #[.slice A n c, .int .i64 bits, .func (.func 61) #[] #[.pointer (some p)]] w fun e w' =>
     e = .returned (.tuple #[.int .u64 (Leb.numU l bits), .int .i64 (Leb.cntU l bits), .bool (Leb.okU l bits)]) ∧ ∃ n, w' = w.drewN n := by
  have HN := Lib.hid hn
  clear hn
  by_cases hb1 : bits < 1
  · have hf := Lib.hid (Leb.okU_bits (l := l) (.inl hb1))
    go_enter Try.func60, Try.ntmps60
    go_wp2
    go_ret3
    exact ⟨by simp [Leb.numU, Leb.cntU, hf.out], 0, rfl⟩
  by_cases hb2 : 64 < bits
  · have hf := Lib.hid (Leb.okU_bits (l := l) (.inr hb2))
    go_enter Try.func60, Try.ntmps60
    go_wp2
    go_ret3
    exact ⟨by simp [Leb.numU, Leb.cntU, hf.out], 0, rfl⟩
  have HA := Lib.hid hA
  clear hA
  go_enter Try.func60, Try.ntmps60
  go_wp2
  go_loop [9, 10, 11] (fun x i sh => ∃ k : Nat, k ≤ n ∧ k ≤ 10 ∧ i = .int .i64 k ∧ sh = .int .i64 (7 * (k : Int)) ∧ x = .int .u64 ((Leb.val (l.take k) : Int) % 18446744073709551616) ∧ Leb.big l k) (fun _ i _ => n - (intOf i).toNat)
  case atStart => exact ⟨0, by omega, by omega, rfl, rfl, by simp [Leb.val], Leb.big_zero l⟩
  case round =>
    obtain ⟨k, hk, hk10, rfl, rfl, rfl, hbig⟩ := hrel
    have HB := Lib.hid hbig
    clear hbig
    by_cases hlt : k < n
    · by_cases hsh : 7 * (k : Int) < bits
      · obtain ⟨x, hx⟩ : ∃ x, l[k]? = some x := by
          have : k < l.length := by rw [← HN.out]; exact hlt
          exact ⟨l[k], List.getElem?_eq_getElem this⟩
        obtain ⟨ad, hAad, hadB, hcell⟩ := HA.out k x hx
        have HX := Lib.hid hx
        clear hx
        subst hAad
        have hx0 : (0 : Int) ≤ (x.toNat : Int) := by omega
        have hx1 : (x.toNat : Int) ≤ 255 := by have := x.toNat_lt; omega
        have hm1 := x_and (x.toNat : Int) hx0 hx1
        have htop := x_top x.toNat (by omega)
        have hl0 : (0 : Int) ≤ (x.toNat : Int) % 128 := by omega
        have hl1 : (x.toNat : Int) % 128 ≤ 127 := by omega
        by_cases hbig : 128 ≤ x.toNat
        · rw [decide_eq_true hbig] at htop
          have HBx := Lib.hid hbig
          clear hbig
          go_wp2
          go_round
          case rel =>
            have hv := Leb.val_take_lt HX.out
            refine ⟨k + 1, by omega, by omega, by go_num, by go_num, ?_, Leb.big_succ HB.out HX.out HBx.out⟩
            rw [Leb.val_take_succ HX.out, Leb.pow128]
            exact congrArg _ (or_u64' (Leb.val (l.take k)) x.toNat (7 * k) (by omega) hv)
          case measure => simp [intOf]; omega
        · rw [decide_eq_false hbig] at htop
          have hsm : x.toNat < 128 := by omega
          have hokE := Leb.okU_last HB.out HX.out hsm (by omega) (by omega) hsh
          have hrun := Leb.run_at HB.out HX.out hsm
          have huse := Leb.used_at HB.out HX.out hsm
          have hmod : (x.toNat : Int) = (x.toNat : Int) % 128 := by omega
          rw [hmod] at hokE
          have HE := Lib.hid hokE
          have HR := Lib.hid hrun
          have HU := Lib.hid huse
          have HM := Lib.hid hmod
          clear hbig hokE hrun huse hmod
          go_wp2_with fail
          cases hok : Leb.okU l bits
          · have HO := Lib.hid hok
            refine (c16 _ _ _ _ _ false (by rw [← HO.out]; exact HE.out) (by omega) (by omega) hp (by omega) hsh (by omega)).mono ?_
            rintro e w' ⟨rfl, nd, rfl⟩
            clear hok
            go_wp2
            go_ret3
            exact ⟨by simp [Leb.numU, Leb.cntU, HO.out], nd, rfl⟩
          · have HO := Lib.hid hok
            refine (c16 _ _ _ _ _ true (by rw [← HO.out]; exact HE.out) (by omega) (by omega) hp (by omega) hsh (by omega)).mono ?_
            rintro e w' ⟨rfl, nd, rfl⟩
            clear hok
            go_wp2
            go_ret3
            have hv := Leb.val_take_lt HX.out
            refine ⟨ret3 ?_ ?_ HO.out.symm, nd, rfl⟩
            · refine (or_u64' (Leb.val (l.take k)) x.toNat (7 * k) (by omega) hv).trans ?_
              rw [Leb.numU, if_pos HO.out, Nat.mod_eq_of_lt hsm, ← HU.out]
              exact Int.emod_eq_of_lt (by omega) (Leb.used_lt HO.out)
            · rw [Leb.cntU, if_pos HO.out, HR.out]; rfl
      · have hf := Lib.hid (Leb.okU_end (l := l) (n := bits) (k := k) HB.out (.inr (by omega)))
        go_wp2
        go_ret3
        exact ⟨by simp [Leb.numU, Leb.cntU, hf.out], 0, rfl⟩
    · have hf := Lib.hid (Leb.okU_end (l := l) (n := bits) (k := k) HB.out (.inl (by rw [← HN.out]; omega)))
      go_wp2
      go_ret3
      exact ⟨by simp [Leb.numU, Leb.cntU, hf.out], 0, rfl⟩
set_option maxHeartbeats 400000 in
/-- leb.TakeU. -/
theorem c8 (A : Option Addr) (l : List UInt8) (n c : Nat) (bits : Int) (w : World) (hn : n = l.length) (hmax : n ≤ 9223372036854775807) (hA : Has w w.heap.size A l) :
   Calls Try.prog 58 #[.slice A n c, .int .i64 bits] w fun e w' => e = .returned (.tuple #[.int .u64 (Leb.numU l bits), .int .i64 (Leb.cntU l bits), .bool (Leb.okU l bits)]) ∧ Below w.heap.size w w' := by
  have HA := Lib.hid hA
  have HN := Lib.hid hn
  clear hA hn
  go_enter Try.func58, Try.ntmps58
  go_wp2_with fail
  refine (c15 A l n c w.heap.size bits _ _ HN.out hmax (HA.out.alloc (Nat.le_refl _) _) ?_).mono ?_
  · exact (World.cell?_alloc_new _ _ _ 0).trans rfl
  rintro e w' ⟨rfl, nd, rfl⟩
  go_wp2
  go_ret3
  exact ⟨rfl, Go.Proofs.Ytnechkmdmjhhbaa.Below.dn ((Below.refl _ _).alloc (Nat.le_refl _) _) nd⟩
end Go.Proofs.Ytnechkmdmjhhbaa
