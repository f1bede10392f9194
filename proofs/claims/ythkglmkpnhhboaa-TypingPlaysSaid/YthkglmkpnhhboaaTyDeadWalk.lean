/-
  TypingDead: every call of it, over what known tells. (gen/typing/dead.py)
-/
import Derived.Test.YthkglmkpnhhboaaTyAt
namespace Go.Proofs.Ythkglmkpnhhboaa
open Go.RowKit Ins Bin
theorem u8_beq (a b : UInt8) : ((a.toNat : Int) == (b.toNat : Int)) = (a == b) := by
  by_cases h : a = b
  · subst h; simp
  · have h1 : ¬ a.toNat = b.toNat := fun e => h (UInt8.toNat_inj.1 e)
    have h2 : ((a.toNat : Int) == (b.toNat : Int)) = false := by rw [beq_eq_false_iff_ne]; omega
    rw [h2, beq_eq_false_iff_ne.2 h]
theorem u8_zero (a : UInt8) : ((a.toNat : Int) == 0) = (a == 0) := u8_beq a 0
theorem sm_dead {own l : List UInt8} {d : Bool} (h1 : own.length ≤ 5000) (h2 : l.length ≤ 5000) : (Ty.deadT own l d).sm 5000 := by
  refine ⟨h1, h1, by simp [Ty.deadT], fun f hf => ?_⟩
  simp [Ty.deadT] at hf
  rcases hf with rfl | rfl
  · exact ⟨by simp, by simp⟩
  · exact ⟨by simp, h2⟩
def KnownOk : Prop := ∀ W : World, Calls Try.prog 6 #[] W fun e w' => e = .returned (.bool true) ∧ Below W.heap.size W w'
set_option maxRecDepth 100000 in
set_option maxHeartbeats 4000000 in
theorem tdead_yes (hk : KnownOk) (own l : List UInt8) (A1 A2 : Option Addr) (c1 c2 : Nat) (w : World) (h1 : SliceV w (· < w.heap.size) own (.slice A1 own.length c1)) (h2 : SliceV w (· < w.heap.size) l (.slice A2 l.length c2)) (hn1 : own.length ≤ 500) (hn2 : l.length ≤ 500) :
    Calls Try.prog 4 #[.slice A1 own.length c1, .slice A2 l.length c2, .bool true] w fun e w' => e = .returned (.bool true) ∧ Below w.heap.size w w' := by
  have H6 := Lib.hid hk
  have HS1 := Lib.hid h1
  have HS2 := Lib.hid h2
  have hA1 : A1 = none → c1 = 0 := by
    obtain ⟨A, c, e, _, _, q, _⟩ := h1
    injection e with e1 _ e2
    subst e1 e2
    exact q
  have HH1 : Hid (Has w w.heap.size A1 own) := Lib.hid (by
    obtain ⟨A, c, e, _, _, _, q⟩ := h1
    injection e with e1 _ _
    subst e1
    exact q.has)
  have HH2 : Hid (Has w w.heap.size A2 l) := Lib.hid (by
    obtain ⟨A, c, e, _, _, _, q⟩ := h2
    injection e with e1 _ _
    subst e1
    exact q.has)
  clear h1 h2 hk hA1
  obtain ⟨k, hkk⟩ : ∃ k, own.length = k := ⟨_, rfl⟩
  obtain ⟨n, hnn⟩ : ∃ n, l.length = n := ⟨_, rfl⟩
  rw [hkk] at hn1
  rw [hnn] at hn2
  rw [hkk, hnn]
  have HK := Lib.hid hkk
  have HN := Lib.hid hnn
  clear hkk hnn
  have g1 : decide ((500 : Int) < (k : Int)) = false := decide_eq_false (by omega)
  have g2 : decide ((500 : Int) < (n : Int)) = false := decide_eq_false (by omega)
  have g3 : decide (500 < k) = false := decide_eq_false (by omega)
  have g4 : decide (500 < n) = false := decide_eq_false (by omega)
  go_enter Try.func4, Try.ntmps4
  go_upto_region 5 with (go_at_call 6; refine (H6.out _).mono ?_; rintro e w1 ⟨rfl, hb⟩; have HB1 := Lib.hid hb; clear hb)
  clear g1 g2 g3 g4
  go_upto_region 10 with (first
    | (go_at_call 8; refine (st1_new [] (.slice none 0 0) w1 (SliceV.nil _ _) (by simp)).mono ?_; rintro e w2 ⟨P, rfl, ho⟩; have HO2 := Lib.hid ho; have HB2 : Hid (Below w.heap.size w w2) := Lib.hid (HB1.out.trans (ho.below.mono HB1.out.size)); clear ho)
    | (go_at_call 16; (have hc := st1_open HO2.out (Ty.sm_new (e := []) (n := 1000) (by simp) (by omega)) (by omega) [] l (.slice none 0 0) (.slice A2 l.length c2) (SliceV.nil _ _) (HS2.out.grow HB2.out) (by simp) (by have := HN.out; omega)); rw [HN.out] at hc; refine hc.mono ?_; rintro e w3 ⟨rfl, ho⟩; have HO3 := Lib.hid ho; have HB3 : Hid (Below w.heap.size w w3) := Lib.hid (HB1.out.trans (ho.below.mono HB1.out.size)); clear ho hc)
    | (go_at_call 20; refine (st1_dead HO3.out (Ty.sm_op (k := 1000) (Ty.sm_new (e := []) (n := 1000) (by simp) (by omega)) (by simp) (by have := HN.out; omega) (by omega)) (by omega)).mono ?_; rintro e w4 ⟨rfl, ho⟩; have HO4 := Lib.hid ho; have HB4 : Hid (Below w.heap.size w w4) := Lib.hid (HB1.out.trans (ho.below.mono HB1.out.size)); clear ho)
    | (go_at_call 10; (have hc := st1_push HO4.out (n := 5000) ((Ty.sm_kill (Ty.sm_op (k := 1000) (Ty.sm_new (e := []) (n := 1000) (by simp) (by omega)) (by simp) (by have := HN.out; omega) (by omega))).up (by omega)) (by omega) own A1 c1 (HH1.out.on HB4.out) (by have := HK.out; omega)); rw [HK.out] at hc; refine hc.mono ?_; rintro e w5 ⟨rfl, ho⟩; rw [Ty.deadT_dead] at ho; have HO5 := Lib.hid ho; have HB5 : Hid (Below w.heap.size w w5) := Lib.hid (HB1.out.trans (ho.below.mono HB1.out.size)); clear ho hc))
  obtain ⟨q, hq⟩ : ∃ q, min k n = q := ⟨_, rfl⟩
  have HQ := Lib.hid hq
  have hqk : q ≤ k := by omega
  have hqn : q ≤ n := by omega
  clear hq
  go_upto_region 11 with fail
  skip
  by_cases hq0 : q = 0
  · subst hq0
    have hmin : min (k : Int) (n : Int) = 0 := by have := HQ.out; omega
    go_wp2_with fail
    clear hmin
    go_loopw [8, 47] (fun b i wr => i = .int .i64 0 ∧ b = .bool (Ty.fitTo own l 0) ∧ Hid (Below w5.heap.size w5 wr)) (fun _ _ _ => 0)
    case atStart => exact ⟨rfl, by first | rfl | (rw [Ty.fitTo_zero]), Lib.hid (Below.refl _ _)⟩
    case round =>
      obtain ⟨rfl, rfl, HB⟩ := hrel
      obtain ⟨wa, hwa⟩ : ∃ b, (Ty.deadT own l true).wantA l = b := ⟨_, rfl⟩
      obtain ⟨hd1, hd2, _⟩ := Ty.dead_want own l true
      have hsm : (Ty.deadT own l true).sm 5000 := sm_dead (by rw [HK.out]; omega) (by rw [HN.out]; omega)
      have HWR : Hid (Below w.heap.size w wr) := Lib.hid (HB5.out.trans (HB.out.mono HB5.out.size))
      have hc := st1_want (HO5.out.on HB.out) hsm (by omega) l A2 c2 (HH2.out.on HWR.out) (by rw [HN.out]; omega)
      rw [HN.out, hwa] at hc
      have HW := Lib.hid hc
      have HSM := Lib.hid hsm
      have hsl : Ty.fitTo own l 0 = wa := by rw [← hwa, hd1, Ty.fitTo_all 0 (by rw [HK.out, HN.out]; exact HQ.out.symm)]; simp
      rw [hsl]
      have HWA := Lib.hid hwa
      cases wa with
      | false =>
        have HNO := Lib.hid (hd2 hwa)
        clear hwa hd1 hd2 hsl hc hsm hqk hqn
        go_wp2_with (first
          | (go_at_call 14; refine HW.out.mono ?_; rintro e w6 ⟨rfl, ho⟩; rw [HNO.out] at ho; have HO6 := Lib.hid ho; have HB6 : Hid (Below w.heap.size w w6) := Lib.hid (HB1.out.trans (ho.below.mono HB1.out.size)); clear ho)
          | (go_at_call 25; (have hh := st1_height HO6.out); rw [show (Ty.deadT own l true).ops.length = k from HK.out] at hh; refine hh.mono ?_; rintro e w7 ⟨hw7, rfl⟩; obtain rfl : w6 = w7 := hw7.symm; clear hh))
        go_ret
        exact ⟨by simp, HB6.out⟩
      | true =>
        obtain ⟨so, hso⟩ : ∃ so, (Ty.deadT own l true).want l = so := ⟨_, rfl⟩
        have hsm6 : so.sm 5000 := by rw [← hso]; exact Ty.sm_want hsm l
        have hcl := Ty.dead_close own l true hwa
        have htp := Ty.top_close (Ty.top_dead own l true hwa)
        rw [hso] at hcl htp
        rw [hso] at HW
        rw [HK.out, HN.out] at hcl
        obtain ⟨h8, hh8⟩ : ∃ x, ((so.push l).close).ops.length = x := ⟨_, rfl⟩
        obtain ⟨m8, hm8⟩ : ∃ x, ((so.push l).close).most = x := ⟨_, rfl⟩
        have htp8 : h8 ≤ m8 := by rw [← hh8, ← hm8]; exact htp
        have htp9 : (h8 : Int) ≤ (m8 : Int) := by omega
        have HH8 := Lib.hid hh8
        have HM8 := Lib.hid hm8
        have HSM6 := Lib.hid hsm6
        have HSP := Lib.hid (Ty.sm_push (k := 5000) hsm6 (l := l) (by rw [HN.out]; omega))
        clear hwa hd1 hd2 hsl hc hsm hqk hqn hso hsm6 htp hh8 hm8
        by_cases hle : k ≤ n
        · rw [if_pos hle] at hcl
          have HCL := Lib.hid hcl
          have e1 : (k : Int) ≤ (n : Int) := by omega
          clear hcl
          go_wp2_with (first
            | (go_at_call 14; refine HW.out.mono ?_; rintro e w6 ⟨rfl, ho⟩; have HO6 := Lib.hid ho; have HB6 : Hid (Below w.heap.size w w6) := Lib.hid (HB1.out.trans (ho.below.mono HB1.out.size)); clear ho)
            | (go_at_call 10; (have hc := st1_push HO6.out HSM6.out (by omega) l A2 c2 (HH2.out.on HB6.out) (by rw [HN.out]; omega)); rw [HN.out] at hc; refine hc.mono ?_; rintro e w7 ⟨rfl, ho⟩; have HO7 := Lib.hid ho; clear ho hc)
            | (go_at_call 18; (have hc := st1_close HO7.out HSP.out (by omega)); rw [HCL.out] at hc; refine hc.mono ?_; rintro e w8 ⟨⟨A8, c8, he, _, _, _, hh⟩, ho⟩; rw [HN.out] at he; subst he; have HO8 := Lib.hid ho; have HB8 : Hid (Below w.heap.size w w8) := Lib.hid (HB1.out.trans (ho.below.mono HB1.out.size)); clear ho hc; have hs1 := run_str hh HN.out.symm c8; have hs2 := run_str (HH2.out.on HB8.out) HN.out.symm c2; generalize (⟨l.toArray⟩ : ByteArray) = st at hs1 hs2; clear hh)
            | (go_at_call 25; (have hh := st1_height HO8.out); rw [HH8.out] at hh; refine hh.mono ?_; rintro e w9 ⟨hw9, rfl⟩; obtain rfl : w8 = w9 := hw9.symm; clear hh)
            | (go_at_call 27; (have hh := st1_most HO8.out); rw [HM8.out] at hh; refine hh.mono ?_; rintro e w9 ⟨hw9, rfl⟩; obtain rfl : w8 = w9 := hw9.symm; clear hh))
          go_ret
          exact ⟨by simp, HB8.out⟩
        · rw [if_neg hle] at hcl
          have HCL := Lib.hid hcl
          have e1 : decide ((k : Int) ≤ (n : Int)) = false := decide_eq_false (by omega)
          have e2 : decide (k ≤ n) = false := decide_eq_false hle
          clear hcl
          go_wp2_with (first
            | (go_at_call 14; refine HW.out.mono ?_; rintro e w6 ⟨rfl, ho⟩; have HO6 := Lib.hid ho; have HB6 : Hid (Below w.heap.size w w6) := Lib.hid (HB1.out.trans (ho.below.mono HB1.out.size)); clear ho)
            | (go_at_call 10; (have hc := st1_push HO6.out HSM6.out (by omega) l A2 c2 (HH2.out.on HB6.out) (by rw [HN.out]; omega)); rw [HN.out] at hc; refine hc.mono ?_; rintro e w7 ⟨rfl, ho⟩; have HO7 := Lib.hid ho; clear ho hc)
            | (go_at_call 18; (have hc := st1_close HO7.out HSP.out (by omega)); rw [HCL.out] at hc; refine hc.mono ?_; rintro e w8 ⟨rfl, ho⟩; have HO8 := Lib.hid ho; have HB8 : Hid (Below w.heap.size w w8) := Lib.hid (HB1.out.trans (ho.below.mono HB1.out.size)); clear ho hc)
            | (go_at_call 25; (have hh := st1_height HO8.out); rw [HH8.out] at hh; refine hh.mono ?_; rintro e w9 ⟨hw9, rfl⟩; obtain rfl : w8 = w9 := hw9.symm; clear hh)
            | (go_at_call 27; (have hh := st1_most HO8.out); rw [HM8.out] at hh; refine hh.mono ?_; rintro e w9 ⟨hw9, rfl⟩; obtain rfl : w8 = w9 := hw9.symm; clear hh))
          go_ret
          exact ⟨by simp, HB8.out⟩
  · obtain ⟨a1, rfl⟩ := HH1.out.someAddr (by rw [HK.out]; omega)
    obtain ⟨a2, rfl⟩ := HH2.out.someAddr (by rw [HN.out]; omega)
    have hmin : min (k : Int) (n : Int) = (q : Int) := by have := HQ.out; omega
    go_wp2_with fail
    clear hmin
    go_loopw [8, 47] (fun b i wr => ∃ j : Nat, j ≤ q ∧ i = .int .i64 (j : Int) ∧ b = .bool (Ty.fitTo own l j) ∧ Hid (Below w5.heap.size w5 wr)) (fun _ i _ => q - (intOf i).toNat)
    case atStart => exact ⟨0, by omega, rfl, by first | rfl | (rw [Ty.fitTo_zero]), Lib.hid (Below.refl _ _)⟩
    case round =>
      obtain ⟨j, hj, rfl, rfl, HB⟩ := hrel
      by_cases hjq : j < q
      · obtain ⟨x, hx⟩ : ∃ x, own[k - 1 - j]? = some x := ⟨_, List.getElem?_eq_getElem (by have := HK.out; omega)⟩
        obtain ⟨y, hy⟩ : ∃ y, l[n - 1 - j]? = some y := ⟨_, List.getElem?_eq_getElem (by have := HN.out; omega)⟩
        have hbw : Below w.heap.size w wr := HB5.out.trans (HB.out.mono HB5.out.size)
        obtain ⟨b1, e1, _, hc1⟩ := (HH1.out.on hbw) _ x hx
        obtain ⟨b2, e2, _, hc2⟩ := (HH2.out.on hbw) _ y hy
        injection e1 with e1
        injection e2 with e2
        subst e1 e2
        have HNX : Hid (Ty.fitTo own l (j + 1) = (Ty.fitTo own l j && Ty.fit x y)) := Lib.hid (by
          have hk2 := HK.out
          have hn2 := HN.out
          rw [Ty.fitTo_next j (by omega) (by omega)]
          have g1 : own[own.length - 1 - j]'(by omega) = x := by
            rw [← Option.some.injEq, ← List.getElem?_eq_getElem, hk2]; exact hx
          have g2 : l[l.length - 1 - j]'(by omega) = y := by
            rw [← Option.some.injEq, ← List.getElem?_eq_getElem, hn2]; exact hy
          rw [g1, g2])
        have s0 : (j : Int) < (q : Int) := by omega
        have s7 : (q : Int) ≤ 500 := by omega
        have s1 : IntKind.i64.wrap ((k : Int) - 1 - (j : Int)) = ((k - 1 - j : Nat) : Int) := by
          rw [IntWalk.i64_in _ (by omega)]; omega
        have s2 : IntKind.i64.wrap ((n : Int) - 1 - (j : Int)) = ((n - 1 - j : Nat) : Int) := by
          rw [IntWalk.i64_in _ (by omega)]; omega
        have s3 : k - 1 - j < k := by omega
        have s4 : n - 1 - j < n := by omega
        have s5 : IntKind.i64.wrap ((k : Int) - 1) = (k : Int) - 1 := IntWalk.i64_in _ (by omega)
        have s6 : IntKind.i64.wrap ((n : Int) - 1) = (n : Int) - 1 := IntWalk.i64_in _ (by omega)
        have t1 := u8_beq x y
        have t2 := u8_zero x
        have t3 := u8_zero y
        have HFX : Hid (Ty.fit x y = ((x == y) || ((x == 0) || (y == 0)))) := Lib.hid rfl
        have HJ := Lib.hid hjq
        have HQK := Lib.hid (And.intro hqk hqn)
        clear hx hy hbw hjq hqk hqn
        obtain ⟨xi, hxi⟩ : ∃ z, (x.toNat : Int) = z := ⟨_, rfl⟩
        obtain ⟨yi, hyi⟩ : ∃ z, (y.toNat : Int) = z := ⟨_, rfl⟩
        rw [hxi] at hc1 t1 t2
        rw [hyi] at hc2 t1 t3
        clear hxi hyi
        generalize (x == y) = p at t1 HFX
        generalize (x == 0) = z1 at t2 HFX
        generalize (y == 0) = z2 at t3 HFX
        obtain ⟨ff, hff⟩ : ∃ b, Ty.fitTo own l j = b := ⟨_, rfl⟩
        rw [hff] at HNX
        rw [hff]
        clear hff
        cases ff <;> cases p <;> cases z1 <;> cases z2
        all_goals
          go_wp2_with fail
          go_quiet (fail)
          clear s1 s2 s3 s4 s5 s6
          go_wp2_with fail
          go_roundw
          case rel => exact ⟨j + 1, by have := HJ.out; omega, by go_num, by rw [HNX.out, HFX.out]; rfl, Lib.hid (Below.dn HB.out _)⟩
          case measure => have := HJ.out; simp [intOf]; omega
      · obtain rfl : j = q := by omega
        obtain ⟨wa, hwa⟩ : ∃ b, (Ty.deadT own l true).wantA l = b := ⟨_, rfl⟩
        obtain ⟨hd1, hd2, _⟩ := Ty.dead_want own l true
        have hsm : (Ty.deadT own l true).sm 5000 := sm_dead (by rw [HK.out]; omega) (by rw [HN.out]; omega)
        have HWR : Hid (Below w.heap.size w wr) := Lib.hid (HB5.out.trans (HB.out.mono HB5.out.size))
        have hc := st1_want (HO5.out.on HB.out) hsm (by omega) l (some a2) c2 (HH2.out.on HWR.out) (by rw [HN.out]; omega)
        rw [HN.out, hwa] at hc
        have HW := Lib.hid hc
        have HSM := Lib.hid hsm
        have hsl : Ty.fitTo own l j = wa := by rw [← hwa, hd1, Ty.fitTo_all j (by rw [HK.out, HN.out]; exact HQ.out.symm)]; simp
        rw [hsl]
        have HWA := Lib.hid hwa
        cases wa with
        | false =>
          have HNO := Lib.hid (hd2 hwa)
          clear hwa hd1 hd2 hsl hc hsm hqk hqn
          go_wp2_with (first
            | (go_at_call 14; refine HW.out.mono ?_; rintro e w6 ⟨rfl, ho⟩; rw [HNO.out] at ho; have HO6 := Lib.hid ho; have HB6 : Hid (Below w.heap.size w w6) := Lib.hid (HB1.out.trans (ho.below.mono HB1.out.size)); clear ho)
            | (go_at_call 25; (have hh := st1_height HO6.out); rw [show (Ty.deadT own l true).ops.length = k from HK.out] at hh; refine hh.mono ?_; rintro e w7 ⟨hw7, rfl⟩; obtain rfl : w6 = w7 := hw7.symm; clear hh))
          go_ret
          exact ⟨by simp, HB6.out⟩
        | true =>
          obtain ⟨so, hso⟩ : ∃ so, (Ty.deadT own l true).want l = so := ⟨_, rfl⟩
          have hsm6 : so.sm 5000 := by rw [← hso]; exact Ty.sm_want hsm l
          have hcl := Ty.dead_close own l true hwa
          have htp := Ty.top_close (Ty.top_dead own l true hwa)
          rw [hso] at hcl htp
          rw [hso] at HW
          rw [HK.out, HN.out] at hcl
          obtain ⟨h8, hh8⟩ : ∃ x, ((so.push l).close).ops.length = x := ⟨_, rfl⟩
          obtain ⟨m8, hm8⟩ : ∃ x, ((so.push l).close).most = x := ⟨_, rfl⟩
          have htp8 : h8 ≤ m8 := by rw [← hh8, ← hm8]; exact htp
          have htp9 : (h8 : Int) ≤ (m8 : Int) := by omega
          have HH8 := Lib.hid hh8
          have HM8 := Lib.hid hm8
          have HSM6 := Lib.hid hsm6
          have HSP := Lib.hid (Ty.sm_push (k := 5000) hsm6 (l := l) (by rw [HN.out]; omega))
          clear hwa hd1 hd2 hsl hc hsm hqk hqn hso hsm6 htp hh8 hm8
          by_cases hle : k ≤ n
          · rw [if_pos hle] at hcl
            have HCL := Lib.hid hcl
            have e1 : (k : Int) ≤ (n : Int) := by omega
            clear hcl
            go_wp2_with (first
              | (go_at_call 14; refine HW.out.mono ?_; rintro e w6 ⟨rfl, ho⟩; have HO6 := Lib.hid ho; have HB6 : Hid (Below w.heap.size w w6) := Lib.hid (HB1.out.trans (ho.below.mono HB1.out.size)); clear ho)
              | (go_at_call 10; (have hc := st1_push HO6.out HSM6.out (by omega) l (some a2) c2 (HH2.out.on HB6.out) (by rw [HN.out]; omega)); rw [HN.out] at hc; refine hc.mono ?_; rintro e w7 ⟨rfl, ho⟩; have HO7 := Lib.hid ho; clear ho hc)
              | (go_at_call 18; (have hc := st1_close HO7.out HSP.out (by omega)); rw [HCL.out] at hc; refine hc.mono ?_; rintro e w8 ⟨⟨A8, c8, he, _, _, _, hh⟩, ho⟩; rw [HN.out] at he; subst he; have HO8 := Lib.hid ho; have HB8 : Hid (Below w.heap.size w w8) := Lib.hid (HB1.out.trans (ho.below.mono HB1.out.size)); clear ho hc; have hs1 := run_str hh HN.out.symm c8; have hs2 := run_str (HH2.out.on HB8.out) HN.out.symm c2; generalize (⟨l.toArray⟩ : ByteArray) = st at hs1 hs2; clear hh)
              | (go_at_call 25; (have hh := st1_height HO8.out); rw [HH8.out] at hh; refine hh.mono ?_; rintro e w9 ⟨hw9, rfl⟩; obtain rfl : w8 = w9 := hw9.symm; clear hh)
              | (go_at_call 27; (have hh := st1_most HO8.out); rw [HM8.out] at hh; refine hh.mono ?_; rintro e w9 ⟨hw9, rfl⟩; obtain rfl : w8 = w9 := hw9.symm; clear hh))
            go_ret
            exact ⟨by simp, HB8.out⟩
          · rw [if_neg hle] at hcl
            have HCL := Lib.hid hcl
            have e1 : decide ((k : Int) ≤ (n : Int)) = false := decide_eq_false (by omega)
            have e2 : decide (k ≤ n) = false := decide_eq_false hle
            clear hcl
            go_wp2_with (first
              | (go_at_call 14; refine HW.out.mono ?_; rintro e w6 ⟨rfl, ho⟩; have HO6 := Lib.hid ho; have HB6 : Hid (Below w.heap.size w w6) := Lib.hid (HB1.out.trans (ho.below.mono HB1.out.size)); clear ho)
              | (go_at_call 10; (have hc := st1_push HO6.out HSM6.out (by omega) l (some a2) c2 (HH2.out.on HB6.out) (by rw [HN.out]; omega)); rw [HN.out] at hc; refine hc.mono ?_; rintro e w7 ⟨rfl, ho⟩; have HO7 := Lib.hid ho; clear ho hc)
              | (go_at_call 18; (have hc := st1_close HO7.out HSP.out (by omega)); rw [HCL.out] at hc; refine hc.mono ?_; rintro e w8 ⟨rfl, ho⟩; have HO8 := Lib.hid ho; have HB8 : Hid (Below w.heap.size w w8) := Lib.hid (HB1.out.trans (ho.below.mono HB1.out.size)); clear ho hc)
              | (go_at_call 25; (have hh := st1_height HO8.out); rw [HH8.out] at hh; refine hh.mono ?_; rintro e w9 ⟨hw9, rfl⟩; obtain rfl : w8 = w9 := hw9.symm; clear hh)
              | (go_at_call 27; (have hh := st1_most HO8.out); rw [HM8.out] at hh; refine hh.mono ?_; rintro e w9 ⟨hw9, rfl⟩; obtain rfl : w8 = w9 := hw9.symm; clear hh))
            go_ret
            exact ⟨by simp, HB8.out⟩
set_option maxRecDepth 100000 in
set_option maxHeartbeats 4000000 in
theorem tdead_ok (hk : KnownOk) (own l : List UInt8) (A1 A2 : Option Addr) (c1 c2 : Nat) (w : World) (h1 : SliceV w (· < w.heap.size) own (.slice A1 own.length c1)) (h2 : SliceV w (· < w.heap.size) l (.slice A2 l.length c2)) (hn1 : own.length ≤ 500) (hn2 : l.length ≤ 500) (hb : l.length ≤ own.length) :
    Calls Try.prog 4 #[.slice A1 own.length c1, .slice A2 l.length c2, .bool false] w fun e w' => e = .returned (.bool true) ∧ Below w.heap.size w w' := by
  have H6 := Lib.hid hk
  have HS1 := Lib.hid h1
  have HS2 := Lib.hid h2
  have hA1 : A1 = none → c1 = 0 := by
    obtain ⟨A, c, e, _, _, q, _⟩ := h1
    injection e with e1 _ e2
    subst e1 e2
    exact q
  have HH1 : Hid (Has w w.heap.size A1 own) := Lib.hid (by
    obtain ⟨A, c, e, _, _, _, q⟩ := h1
    injection e with e1 _ _
    subst e1
    exact q.has)
  have HH2 : Hid (Has w w.heap.size A2 l) := Lib.hid (by
    obtain ⟨A, c, e, _, _, _, q⟩ := h2
    injection e with e1 _ _
    subst e1
    exact q.has)
  clear h1 h2 hk hA1
  obtain ⟨k, hkk⟩ : ∃ k, own.length = k := ⟨_, rfl⟩
  obtain ⟨n, hnn⟩ : ∃ n, l.length = n := ⟨_, rfl⟩
  have HB0 := Lib.hid hb
  rw [hkk] at hn1 hb
  rw [hnn] at hn2 hb
  rw [hkk, hnn]
  have HK := Lib.hid hkk
  have HN := Lib.hid hnn
  clear hkk hnn
  have g1 : decide ((500 : Int) < (k : Int)) = false := decide_eq_false (by omega)
  have g2 : decide ((500 : Int) < (n : Int)) = false := decide_eq_false (by omega)
  have g3 : decide (500 < k) = false := decide_eq_false (by omega)
  have g4 : decide (500 < n) = false := decide_eq_false (by omega)
  go_enter Try.func4, Try.ntmps4
  go_upto_region 5 with (go_at_call 6; refine (H6.out _).mono ?_; rintro e w1 ⟨rfl, hb⟩; have HB1 := Lib.hid hb; clear hb)
  clear g1 g2 g3 g4
  go_upto_region 10 with (first
    | (go_at_call 8; refine (st1_new [] (.slice none 0 0) w1 (SliceV.nil _ _) (by simp)).mono ?_; rintro e w2 ⟨P, rfl, ho⟩; have HO2 := Lib.hid ho; have HB2 : Hid (Below w.heap.size w w2) := Lib.hid (HB1.out.trans (ho.below.mono HB1.out.size)); clear ho)
    | (go_at_call 16; (have hc := st1_open HO2.out (Ty.sm_new (e := []) (n := 1000) (by simp) (by omega)) (by omega) [] l (.slice none 0 0) (.slice A2 l.length c2) (SliceV.nil _ _) (HS2.out.grow HB2.out) (by simp) (by have := HN.out; omega)); rw [HN.out] at hc; refine hc.mono ?_; rintro e w3 ⟨rfl, ho⟩; have HO3 := Lib.hid ho; have HB3 : Hid (Below w.heap.size w w3) := Lib.hid (HB1.out.trans (ho.below.mono HB1.out.size)); clear ho hc)
    | (go_at_call 10; (have hc := st1_push HO3.out (n := 5000) ((Ty.sm_op (k := 1000) (Ty.sm_new (e := []) (n := 1000) (by simp) (by omega)) (by simp) (by have := HN.out; omega) (by omega)).up (by omega)) (by omega) own A1 c1 (HH1.out.on HB3.out) (by have := HK.out; omega)); rw [HK.out] at hc; refine hc.mono ?_; rintro e w5 ⟨rfl, ho⟩; rw [Ty.deadT_live] at ho; have HO5 := Lib.hid ho; have HB5 : Hid (Below w.heap.size w w5) := Lib.hid (HB1.out.trans (ho.below.mono HB1.out.size)); clear ho hc))
  have g1 : (n : Int) ≤ (k : Int) := by omega
  have g2 : n ≤ k := hb
  obtain ⟨q, hq⟩ : ∃ q, min k n = q := ⟨_, rfl⟩
  have HQ := Lib.hid hq
  have hqk : q ≤ k := by omega
  have hqn : q ≤ n := by omega
  clear hq
  go_upto_region 11 with fail
  clear g1 g2
  by_cases hq0 : q = 0
  · subst hq0
    have hmin : min (k : Int) (n : Int) = 0 := by have := HQ.out; omega
    go_wp2_with fail
    clear hmin
    go_loopw [8, 47] (fun b i wr => i = .int .i64 0 ∧ b = .bool (Ty.fitTo own l 0) ∧ Hid (Below w5.heap.size w5 wr)) (fun _ _ _ => 0)
    case atStart => exact ⟨rfl, by first | rfl | (rw [Ty.fitTo_zero]), Lib.hid (Below.refl _ _)⟩
    case round =>
      obtain ⟨rfl, rfl, HB⟩ := hrel
      obtain ⟨wa, hwa⟩ : ∃ b, (Ty.deadT own l false).wantA l = b := ⟨_, rfl⟩
      obtain ⟨hd1, hd2, _⟩ := Ty.dead_want own l false
      have hsm : (Ty.deadT own l false).sm 5000 := sm_dead (by rw [HK.out]; omega) (by rw [HN.out]; omega)
      have HWR : Hid (Below w.heap.size w wr) := Lib.hid (HB5.out.trans (HB.out.mono HB5.out.size))
      have hc := st1_want (HO5.out.on HB.out) hsm (by omega) l A2 c2 (HH2.out.on HWR.out) (by rw [HN.out]; omega)
      rw [HN.out, hwa] at hc
      have HW := Lib.hid hc
      have HSM := Lib.hid hsm
      have hsl : Ty.fitTo own l 0 = wa := by rw [← hwa, hd1, Ty.fitTo_all 0 (by rw [HK.out, HN.out]; exact HQ.out.symm)]; simp [HB0.out]
      rw [hsl]
      have HWA := Lib.hid hwa
      cases wa with
      | false =>
        have HNO := Lib.hid (hd2 hwa)
        clear hwa hd1 hd2 hsl hc hsm hqk hqn
        go_wp2_with (first
          | (go_at_call 14; refine HW.out.mono ?_; rintro e w6 ⟨rfl, ho⟩; rw [HNO.out] at ho; have HO6 := Lib.hid ho; have HB6 : Hid (Below w.heap.size w w6) := Lib.hid (HB1.out.trans (ho.below.mono HB1.out.size)); clear ho)
          | (go_at_call 25; (have hh := st1_height HO6.out); rw [show (Ty.deadT own l false).ops.length = k from HK.out] at hh; refine hh.mono ?_; rintro e w7 ⟨hw7, rfl⟩; obtain rfl : w6 = w7 := hw7.symm; clear hh))
        go_ret
        exact ⟨by simp, HB6.out⟩
      | true =>
        obtain ⟨so, hso⟩ : ∃ so, (Ty.deadT own l false).want l = so := ⟨_, rfl⟩
        have hsm6 : so.sm 5000 := by rw [← hso]; exact Ty.sm_want hsm l
        have hcl := Ty.dead_close own l false hwa
        have htp := Ty.top_close (Ty.top_dead own l false hwa)
        rw [hso] at hcl htp
        rw [hso] at HW
        rw [HK.out, HN.out] at hcl
        obtain ⟨h8, hh8⟩ : ∃ x, ((so.push l).close).ops.length = x := ⟨_, rfl⟩
        obtain ⟨m8, hm8⟩ : ∃ x, ((so.push l).close).most = x := ⟨_, rfl⟩
        have htp8 : h8 ≤ m8 := by rw [← hh8, ← hm8]; exact htp
        have htp9 : (h8 : Int) ≤ (m8 : Int) := by omega
        have HH8 := Lib.hid hh8
        have HM8 := Lib.hid hm8
        have HSM6 := Lib.hid hsm6
        have HSP := Lib.hid (Ty.sm_push (k := 5000) hsm6 (l := l) (by rw [HN.out]; omega))
        clear hwa hd1 hd2 hsl hc hsm hqk hqn hso hsm6 htp hh8 hm8
        by_cases hle : k ≤ n
        · rw [if_pos hle] at hcl
          have HCL := Lib.hid hcl
          have e1 : (k : Int) ≤ (n : Int) := by omega
          clear hcl
          go_wp2_with (first
            | (go_at_call 14; refine HW.out.mono ?_; rintro e w6 ⟨rfl, ho⟩; have HO6 := Lib.hid ho; have HB6 : Hid (Below w.heap.size w w6) := Lib.hid (HB1.out.trans (ho.below.mono HB1.out.size)); clear ho)
            | (go_at_call 10; (have hc := st1_push HO6.out HSM6.out (by omega) l A2 c2 (HH2.out.on HB6.out) (by rw [HN.out]; omega)); rw [HN.out] at hc; refine hc.mono ?_; rintro e w7 ⟨rfl, ho⟩; have HO7 := Lib.hid ho; clear ho hc)
            | (go_at_call 18; (have hc := st1_close HO7.out HSP.out (by omega)); rw [HCL.out] at hc; refine hc.mono ?_; rintro e w8 ⟨⟨A8, c8, he, _, _, _, hh⟩, ho⟩; rw [HN.out] at he; subst he; have HO8 := Lib.hid ho; have HB8 : Hid (Below w.heap.size w w8) := Lib.hid (HB1.out.trans (ho.below.mono HB1.out.size)); clear ho hc; have hs1 := run_str hh HN.out.symm c8; have hs2 := run_str (HH2.out.on HB8.out) HN.out.symm c2; generalize (⟨l.toArray⟩ : ByteArray) = st at hs1 hs2; clear hh)
            | (go_at_call 25; (have hh := st1_height HO8.out); rw [HH8.out] at hh; refine hh.mono ?_; rintro e w9 ⟨hw9, rfl⟩; obtain rfl : w8 = w9 := hw9.symm; clear hh)
            | (go_at_call 27; (have hh := st1_most HO8.out); rw [HM8.out] at hh; refine hh.mono ?_; rintro e w9 ⟨hw9, rfl⟩; obtain rfl : w8 = w9 := hw9.symm; clear hh))
          go_ret
          exact ⟨by simp, HB8.out⟩
        · rw [if_neg hle] at hcl
          have HCL := Lib.hid hcl
          have e1 : decide ((k : Int) ≤ (n : Int)) = false := decide_eq_false (by omega)
          have e2 : decide (k ≤ n) = false := decide_eq_false hle
          clear hcl
          go_wp2_with (first
            | (go_at_call 14; refine HW.out.mono ?_; rintro e w6 ⟨rfl, ho⟩; have HO6 := Lib.hid ho; have HB6 : Hid (Below w.heap.size w w6) := Lib.hid (HB1.out.trans (ho.below.mono HB1.out.size)); clear ho)
            | (go_at_call 10; (have hc := st1_push HO6.out HSM6.out (by omega) l A2 c2 (HH2.out.on HB6.out) (by rw [HN.out]; omega)); rw [HN.out] at hc; refine hc.mono ?_; rintro e w7 ⟨rfl, ho⟩; have HO7 := Lib.hid ho; clear ho hc)
            | (go_at_call 18; (have hc := st1_close HO7.out HSP.out (by omega)); rw [HCL.out] at hc; refine hc.mono ?_; rintro e w8 ⟨rfl, ho⟩; have HO8 := Lib.hid ho; have HB8 : Hid (Below w.heap.size w w8) := Lib.hid (HB1.out.trans (ho.below.mono HB1.out.size)); clear ho hc)
            | (go_at_call 25; (have hh := st1_height HO8.out); rw [HH8.out] at hh; refine hh.mono ?_; rintro e w9 ⟨hw9, rfl⟩; obtain rfl : w8 = w9 := hw9.symm; clear hh)
            | (go_at_call 27; (have hh := st1_most HO8.out); rw [HM8.out] at hh; refine hh.mono ?_; rintro e w9 ⟨hw9, rfl⟩; obtain rfl : w8 = w9 := hw9.symm; clear hh))
          go_ret
          exact ⟨by simp, HB8.out⟩
  · obtain ⟨a1, rfl⟩ := HH1.out.someAddr (by rw [HK.out]; omega)
    obtain ⟨a2, rfl⟩ := HH2.out.someAddr (by rw [HN.out]; omega)
    have hmin : min (k : Int) (n : Int) = (q : Int) := by have := HQ.out; omega
    go_wp2_with fail
    clear hmin
    go_loopw [8, 47] (fun b i wr => ∃ j : Nat, j ≤ q ∧ i = .int .i64 (j : Int) ∧ b = .bool (Ty.fitTo own l j) ∧ Hid (Below w5.heap.size w5 wr)) (fun _ i _ => q - (intOf i).toNat)
    case atStart => exact ⟨0, by omega, rfl, by first | rfl | (rw [Ty.fitTo_zero]), Lib.hid (Below.refl _ _)⟩
    case round =>
      obtain ⟨j, hj, rfl, rfl, HB⟩ := hrel
      by_cases hjq : j < q
      · obtain ⟨x, hx⟩ : ∃ x, own[k - 1 - j]? = some x := ⟨_, List.getElem?_eq_getElem (by have := HK.out; omega)⟩
        obtain ⟨y, hy⟩ : ∃ y, l[n - 1 - j]? = some y := ⟨_, List.getElem?_eq_getElem (by have := HN.out; omega)⟩
        have hbw : Below w.heap.size w wr := HB5.out.trans (HB.out.mono HB5.out.size)
        obtain ⟨b1, e1, _, hc1⟩ := (HH1.out.on hbw) _ x hx
        obtain ⟨b2, e2, _, hc2⟩ := (HH2.out.on hbw) _ y hy
        injection e1 with e1
        injection e2 with e2
        subst e1 e2
        have HNX : Hid (Ty.fitTo own l (j + 1) = (Ty.fitTo own l j && Ty.fit x y)) := Lib.hid (by
          have hk2 := HK.out
          have hn2 := HN.out
          rw [Ty.fitTo_next j (by omega) (by omega)]
          have g1 : own[own.length - 1 - j]'(by omega) = x := by
            rw [← Option.some.injEq, ← List.getElem?_eq_getElem, hk2]; exact hx
          have g2 : l[l.length - 1 - j]'(by omega) = y := by
            rw [← Option.some.injEq, ← List.getElem?_eq_getElem, hn2]; exact hy
          rw [g1, g2])
        have s0 : (j : Int) < (q : Int) := by omega
        have s7 : (q : Int) ≤ 500 := by omega
        have s1 : IntKind.i64.wrap ((k : Int) - 1 - (j : Int)) = ((k - 1 - j : Nat) : Int) := by
          rw [IntWalk.i64_in _ (by omega)]; omega
        have s2 : IntKind.i64.wrap ((n : Int) - 1 - (j : Int)) = ((n - 1 - j : Nat) : Int) := by
          rw [IntWalk.i64_in _ (by omega)]; omega
        have s3 : k - 1 - j < k := by omega
        have s4 : n - 1 - j < n := by omega
        have s5 : IntKind.i64.wrap ((k : Int) - 1) = (k : Int) - 1 := IntWalk.i64_in _ (by omega)
        have s6 : IntKind.i64.wrap ((n : Int) - 1) = (n : Int) - 1 := IntWalk.i64_in _ (by omega)
        have t1 := u8_beq x y
        have t2 := u8_zero x
        have t3 := u8_zero y
        have HFX : Hid (Ty.fit x y = ((x == y) || ((x == 0) || (y == 0)))) := Lib.hid rfl
        have HJ := Lib.hid hjq
        have HQK := Lib.hid (And.intro hqk hqn)
        clear hx hy hbw hjq hqk hqn
        obtain ⟨xi, hxi⟩ : ∃ z, (x.toNat : Int) = z := ⟨_, rfl⟩
        obtain ⟨yi, hyi⟩ : ∃ z, (y.toNat : Int) = z := ⟨_, rfl⟩
        rw [hxi] at hc1 t1 t2
        rw [hyi] at hc2 t1 t3
        clear hxi hyi
        generalize (x == y) = p at t1 HFX
        generalize (x == 0) = z1 at t2 HFX
        generalize (y == 0) = z2 at t3 HFX
        obtain ⟨ff, hff⟩ : ∃ b, Ty.fitTo own l j = b := ⟨_, rfl⟩
        rw [hff] at HNX
        rw [hff]
        clear hff
        cases ff <;> cases p <;> cases z1 <;> cases z2
        all_goals
          go_wp2_with fail
          go_quiet (fail)
          clear s1 s2 s3 s4 s5 s6
          go_wp2_with fail
          go_roundw
          case rel => exact ⟨j + 1, by have := HJ.out; omega, by go_num, by rw [HNX.out, HFX.out]; rfl, Lib.hid (Below.dn HB.out _)⟩
          case measure => have := HJ.out; simp [intOf]; omega
      · obtain rfl : j = q := by omega
        obtain ⟨wa, hwa⟩ : ∃ b, (Ty.deadT own l false).wantA l = b := ⟨_, rfl⟩
        obtain ⟨hd1, hd2, _⟩ := Ty.dead_want own l false
        have hsm : (Ty.deadT own l false).sm 5000 := sm_dead (by rw [HK.out]; omega) (by rw [HN.out]; omega)
        have HWR : Hid (Below w.heap.size w wr) := Lib.hid (HB5.out.trans (HB.out.mono HB5.out.size))
        have hc := st1_want (HO5.out.on HB.out) hsm (by omega) l (some a2) c2 (HH2.out.on HWR.out) (by rw [HN.out]; omega)
        rw [HN.out, hwa] at hc
        have HW := Lib.hid hc
        have HSM := Lib.hid hsm
        have hsl : Ty.fitTo own l j = wa := by rw [← hwa, hd1, Ty.fitTo_all j (by rw [HK.out, HN.out]; exact HQ.out.symm)]; simp [HB0.out]
        rw [hsl]
        have HWA := Lib.hid hwa
        cases wa with
        | false =>
          have HNO := Lib.hid (hd2 hwa)
          clear hwa hd1 hd2 hsl hc hsm hqk hqn
          go_wp2_with (first
            | (go_at_call 14; refine HW.out.mono ?_; rintro e w6 ⟨rfl, ho⟩; rw [HNO.out] at ho; have HO6 := Lib.hid ho; have HB6 : Hid (Below w.heap.size w w6) := Lib.hid (HB1.out.trans (ho.below.mono HB1.out.size)); clear ho)
            | (go_at_call 25; (have hh := st1_height HO6.out); rw [show (Ty.deadT own l false).ops.length = k from HK.out] at hh; refine hh.mono ?_; rintro e w7 ⟨hw7, rfl⟩; obtain rfl : w6 = w7 := hw7.symm; clear hh))
          go_ret
          exact ⟨by simp, HB6.out⟩
        | true =>
          obtain ⟨so, hso⟩ : ∃ so, (Ty.deadT own l false).want l = so := ⟨_, rfl⟩
          have hsm6 : so.sm 5000 := by rw [← hso]; exact Ty.sm_want hsm l
          have hcl := Ty.dead_close own l false hwa
          have htp := Ty.top_close (Ty.top_dead own l false hwa)
          rw [hso] at hcl htp
          rw [hso] at HW
          rw [HK.out, HN.out] at hcl
          obtain ⟨h8, hh8⟩ : ∃ x, ((so.push l).close).ops.length = x := ⟨_, rfl⟩
          obtain ⟨m8, hm8⟩ : ∃ x, ((so.push l).close).most = x := ⟨_, rfl⟩
          have htp8 : h8 ≤ m8 := by rw [← hh8, ← hm8]; exact htp
          have htp9 : (h8 : Int) ≤ (m8 : Int) := by omega
          have HH8 := Lib.hid hh8
          have HM8 := Lib.hid hm8
          have HSM6 := Lib.hid hsm6
          have HSP := Lib.hid (Ty.sm_push (k := 5000) hsm6 (l := l) (by rw [HN.out]; omega))
          clear hwa hd1 hd2 hsl hc hsm hqk hqn hso hsm6 htp hh8 hm8
          by_cases hle : k ≤ n
          · rw [if_pos hle] at hcl
            have HCL := Lib.hid hcl
            have e1 : (k : Int) ≤ (n : Int) := by omega
            clear hcl
            go_wp2_with (first
              | (go_at_call 14; refine HW.out.mono ?_; rintro e w6 ⟨rfl, ho⟩; have HO6 := Lib.hid ho; have HB6 : Hid (Below w.heap.size w w6) := Lib.hid (HB1.out.trans (ho.below.mono HB1.out.size)); clear ho)
              | (go_at_call 10; (have hc := st1_push HO6.out HSM6.out (by omega) l (some a2) c2 (HH2.out.on HB6.out) (by rw [HN.out]; omega)); rw [HN.out] at hc; refine hc.mono ?_; rintro e w7 ⟨rfl, ho⟩; have HO7 := Lib.hid ho; clear ho hc)
              | (go_at_call 18; (have hc := st1_close HO7.out HSP.out (by omega)); rw [HCL.out] at hc; refine hc.mono ?_; rintro e w8 ⟨⟨A8, c8, he, _, _, _, hh⟩, ho⟩; rw [HN.out] at he; subst he; have HO8 := Lib.hid ho; have HB8 : Hid (Below w.heap.size w w8) := Lib.hid (HB1.out.trans (ho.below.mono HB1.out.size)); clear ho hc; have hs1 := run_str hh HN.out.symm c8; have hs2 := run_str (HH2.out.on HB8.out) HN.out.symm c2; generalize (⟨l.toArray⟩ : ByteArray) = st at hs1 hs2; clear hh)
              | (go_at_call 25; (have hh := st1_height HO8.out); rw [HH8.out] at hh; refine hh.mono ?_; rintro e w9 ⟨hw9, rfl⟩; obtain rfl : w8 = w9 := hw9.symm; clear hh)
              | (go_at_call 27; (have hh := st1_most HO8.out); rw [HM8.out] at hh; refine hh.mono ?_; rintro e w9 ⟨hw9, rfl⟩; obtain rfl : w8 = w9 := hw9.symm; clear hh))
            go_ret
            exact ⟨by simp, HB8.out⟩
          · rw [if_neg hle] at hcl
            have HCL := Lib.hid hcl
            have e1 : decide ((k : Int) ≤ (n : Int)) = false := decide_eq_false (by omega)
            have e2 : decide (k ≤ n) = false := decide_eq_false hle
            clear hcl
            go_wp2_with (first
              | (go_at_call 14; refine HW.out.mono ?_; rintro e w6 ⟨rfl, ho⟩; have HO6 := Lib.hid ho; have HB6 : Hid (Below w.heap.size w w6) := Lib.hid (HB1.out.trans (ho.below.mono HB1.out.size)); clear ho)
              | (go_at_call 10; (have hc := st1_push HO6.out HSM6.out (by omega) l (some a2) c2 (HH2.out.on HB6.out) (by rw [HN.out]; omega)); rw [HN.out] at hc; refine hc.mono ?_; rintro e w7 ⟨rfl, ho⟩; have HO7 := Lib.hid ho; clear ho hc)
              | (go_at_call 18; (have hc := st1_close HO7.out HSP.out (by omega)); rw [HCL.out] at hc; refine hc.mono ?_; rintro e w8 ⟨rfl, ho⟩; have HO8 := Lib.hid ho; have HB8 : Hid (Below w.heap.size w w8) := Lib.hid (HB1.out.trans (ho.below.mono HB1.out.size)); clear ho hc)
              | (go_at_call 25; (have hh := st1_height HO8.out); rw [HH8.out] at hh; refine hh.mono ?_; rintro e w9 ⟨hw9, rfl⟩; obtain rfl : w8 = w9 := hw9.symm; clear hh)
              | (go_at_call 27; (have hh := st1_most HO8.out); rw [HM8.out] at hh; refine hh.mono ?_; rintro e w9 ⟨hw9, rfl⟩; obtain rfl : w8 = w9 := hw9.symm; clear hh))
            go_ret
            exact ⟨by simp, HB8.out⟩
set_option maxRecDepth 100000 in
set_option maxHeartbeats 4000000 in
theorem tdead_short (hk : KnownOk) (own l : List UInt8) (A1 A2 : Option Addr) (c1 c2 : Nat) (w : World) (h1 : SliceV w (· < w.heap.size) own (.slice A1 own.length c1)) (h2 : SliceV w (· < w.heap.size) l (.slice A2 l.length c2)) (hn1 : own.length ≤ 500) (hn2 : l.length ≤ 500) (hb : ¬ l.length ≤ own.length) :
    Calls Try.prog 4 #[.slice A1 own.length c1, .slice A2 l.length c2, .bool false] w fun e w' => e = .returned (.bool true) ∧ Below w.heap.size w w' := by
  have H6 := Lib.hid hk
  have HS1 := Lib.hid h1
  have HS2 := Lib.hid h2
  have hA1 : A1 = none → c1 = 0 := by
    obtain ⟨A, c, e, _, _, q, _⟩ := h1
    injection e with e1 _ e2
    subst e1 e2
    exact q
  have HH1 : Hid (Has w w.heap.size A1 own) := Lib.hid (by
    obtain ⟨A, c, e, _, _, _, q⟩ := h1
    injection e with e1 _ _
    subst e1
    exact q.has)
  have HH2 : Hid (Has w w.heap.size A2 l) := Lib.hid (by
    obtain ⟨A, c, e, _, _, _, q⟩ := h2
    injection e with e1 _ _
    subst e1
    exact q.has)
  clear h1 h2 hk hA1
  obtain ⟨k, hkk⟩ : ∃ k, own.length = k := ⟨_, rfl⟩
  obtain ⟨n, hnn⟩ : ∃ n, l.length = n := ⟨_, rfl⟩
  have HB0 := Lib.hid hb
  rw [hkk] at hn1 hb
  rw [hnn] at hn2 hb
  rw [hkk, hnn]
  have HK := Lib.hid hkk
  have HN := Lib.hid hnn
  clear hkk hnn
  have g1 : decide ((500 : Int) < (k : Int)) = false := decide_eq_false (by omega)
  have g2 : decide ((500 : Int) < (n : Int)) = false := decide_eq_false (by omega)
  have g3 : decide (500 < k) = false := decide_eq_false (by omega)
  have g4 : decide (500 < n) = false := decide_eq_false (by omega)
  go_enter Try.func4, Try.ntmps4
  go_upto_region 5 with (go_at_call 6; refine (H6.out _).mono ?_; rintro e w1 ⟨rfl, hb⟩; have HB1 := Lib.hid hb; clear hb)
  clear g1 g2 g3 g4
  go_upto_region 10 with (first
    | (go_at_call 8; refine (st1_new [] (.slice none 0 0) w1 (SliceV.nil _ _) (by simp)).mono ?_; rintro e w2 ⟨P, rfl, ho⟩; have HO2 := Lib.hid ho; have HB2 : Hid (Below w.heap.size w w2) := Lib.hid (HB1.out.trans (ho.below.mono HB1.out.size)); clear ho)
    | (go_at_call 16; (have hc := st1_open HO2.out (Ty.sm_new (e := []) (n := 1000) (by simp) (by omega)) (by omega) [] l (.slice none 0 0) (.slice A2 l.length c2) (SliceV.nil _ _) (HS2.out.grow HB2.out) (by simp) (by have := HN.out; omega)); rw [HN.out] at hc; refine hc.mono ?_; rintro e w3 ⟨rfl, ho⟩; have HO3 := Lib.hid ho; have HB3 : Hid (Below w.heap.size w w3) := Lib.hid (HB1.out.trans (ho.below.mono HB1.out.size)); clear ho hc)
    | (go_at_call 10; (have hc := st1_push HO3.out (n := 5000) ((Ty.sm_op (k := 1000) (Ty.sm_new (e := []) (n := 1000) (by simp) (by omega)) (by simp) (by have := HN.out; omega) (by omega)).up (by omega)) (by omega) own A1 c1 (HH1.out.on HB3.out) (by have := HK.out; omega)); rw [HK.out] at hc; refine hc.mono ?_; rintro e w5 ⟨rfl, ho⟩; rw [Ty.deadT_live] at ho; have HO5 := Lib.hid ho; have HB5 : Hid (Below w.heap.size w w5) := Lib.hid (HB1.out.trans (ho.below.mono HB1.out.size)); clear ho hc))
  have g1 : decide ((n : Int) ≤ (k : Int)) = false := decide_eq_false (by omega)
  have g2 : decide (n ≤ k) = false := decide_eq_false (by omega)
  obtain ⟨q, hq⟩ : ∃ q, min k n = q := ⟨_, rfl⟩
  have HQ := Lib.hid hq
  have hqk : q ≤ k := by omega
  have hqn : q ≤ n := by omega
  clear hq
  go_upto_region 11 with fail
  clear g1 g2
  by_cases hq0 : q = 0
  · subst hq0
    have hmin : min (k : Int) (n : Int) = 0 := by have := HQ.out; omega
    go_wp2_with fail
    clear hmin
    go_loopw [8, 47] (fun b i wr => i = .int .i64 0 ∧ b = .bool false ∧ Hid (Below w5.heap.size w5 wr)) (fun _ _ _ => 0)
    case atStart => exact ⟨rfl, by first | rfl | (rw [Ty.fitTo_zero]), Lib.hid (Below.refl _ _)⟩
    case round =>
      obtain ⟨rfl, rfl, HB⟩ := hrel
      obtain ⟨wa, hwa⟩ : ∃ b, (Ty.deadT own l false).wantA l = b := ⟨_, rfl⟩
      obtain ⟨hd1, hd2, _⟩ := Ty.dead_want own l false
      have hsm : (Ty.deadT own l false).sm 5000 := sm_dead (by rw [HK.out]; omega) (by rw [HN.out]; omega)
      have HWR : Hid (Below w.heap.size w wr) := Lib.hid (HB5.out.trans (HB.out.mono HB5.out.size))
      have hc := st1_want (HO5.out.on HB.out) hsm (by omega) l A2 c2 (HH2.out.on HWR.out) (by rw [HN.out]; omega)
      rw [HN.out, hwa] at hc
      have HW := Lib.hid hc
      have HSM := Lib.hid hsm
      obtain rfl : wa = false := by rw [← hwa, hd1]; simp [HB0.out]
      have HNO := Lib.hid (hd2 hwa)
      clear hwa hd1 hd2  hc hsm hqk hqn
      go_wp2_with (first
        | (go_at_call 14; refine HW.out.mono ?_; rintro e w6 ⟨rfl, ho⟩; rw [HNO.out] at ho; have HO6 := Lib.hid ho; have HB6 : Hid (Below w.heap.size w w6) := Lib.hid (HB1.out.trans (ho.below.mono HB1.out.size)); clear ho)
        | (go_at_call 25; (have hh := st1_height HO6.out); rw [show (Ty.deadT own l false).ops.length = k from HK.out] at hh; refine hh.mono ?_; rintro e w7 ⟨hw7, rfl⟩; obtain rfl : w6 = w7 := hw7.symm; clear hh))
      go_ret
      exact ⟨by simp, HB6.out⟩
  · obtain ⟨a1, rfl⟩ := HH1.out.someAddr (by rw [HK.out]; omega)
    obtain ⟨a2, rfl⟩ := HH2.out.someAddr (by rw [HN.out]; omega)
    have hmin : min (k : Int) (n : Int) = (q : Int) := by have := HQ.out; omega
    go_wp2_with fail
    clear hmin
    go_loopw [8, 47] (fun b i wr => ∃ j : Nat, j ≤ q ∧ i = .int .i64 (j : Int) ∧ b = .bool false ∧ Hid (Below w5.heap.size w5 wr)) (fun _ i _ => q - (intOf i).toNat)
    case atStart => exact ⟨0, by omega, rfl, by first | rfl | (rw [Ty.fitTo_zero]), Lib.hid (Below.refl _ _)⟩
    case round =>
      obtain ⟨j, hj, rfl, rfl, HB⟩ := hrel
      by_cases hjq : j < q
      · obtain ⟨x, hx⟩ : ∃ x, own[k - 1 - j]? = some x := ⟨_, List.getElem?_eq_getElem (by have := HK.out; omega)⟩
        obtain ⟨y, hy⟩ : ∃ y, l[n - 1 - j]? = some y := ⟨_, List.getElem?_eq_getElem (by have := HN.out; omega)⟩
        have hbw : Below w.heap.size w wr := HB5.out.trans (HB.out.mono HB5.out.size)
        obtain ⟨b1, e1, _, hc1⟩ := (HH1.out.on hbw) _ x hx
        obtain ⟨b2, e2, _, hc2⟩ := (HH2.out.on hbw) _ y hy
        injection e1 with e1
        injection e2 with e2
        subst e1 e2
        have HNX : Hid (Ty.fitTo own l (j + 1) = (Ty.fitTo own l j && Ty.fit x y)) := Lib.hid (by
          have hk2 := HK.out
          have hn2 := HN.out
          rw [Ty.fitTo_next j (by omega) (by omega)]
          have g1 : own[own.length - 1 - j]'(by omega) = x := by
            rw [← Option.some.injEq, ← List.getElem?_eq_getElem, hk2]; exact hx
          have g2 : l[l.length - 1 - j]'(by omega) = y := by
            rw [← Option.some.injEq, ← List.getElem?_eq_getElem, hn2]; exact hy
          rw [g1, g2])
        have s0 : (j : Int) < (q : Int) := by omega
        have s7 : (q : Int) ≤ 500 := by omega
        have s1 : IntKind.i64.wrap ((k : Int) - 1 - (j : Int)) = ((k - 1 - j : Nat) : Int) := by
          rw [IntWalk.i64_in _ (by omega)]; omega
        have s2 : IntKind.i64.wrap ((n : Int) - 1 - (j : Int)) = ((n - 1 - j : Nat) : Int) := by
          rw [IntWalk.i64_in _ (by omega)]; omega
        have s3 : k - 1 - j < k := by omega
        have s4 : n - 1 - j < n := by omega
        have s5 : IntKind.i64.wrap ((k : Int) - 1) = (k : Int) - 1 := IntWalk.i64_in _ (by omega)
        have s6 : IntKind.i64.wrap ((n : Int) - 1) = (n : Int) - 1 := IntWalk.i64_in _ (by omega)
        have t1 := u8_beq x y
        have t2 := u8_zero x
        have t3 := u8_zero y
        have HFX : Hid (Ty.fit x y = ((x == y) || ((x == 0) || (y == 0)))) := Lib.hid rfl
        have HJ := Lib.hid hjq
        have HQK := Lib.hid (And.intro hqk hqn)
        clear hx hy hbw hjq hqk hqn
        obtain ⟨xi, hxi⟩ : ∃ z, (x.toNat : Int) = z := ⟨_, rfl⟩
        obtain ⟨yi, hyi⟩ : ∃ z, (y.toNat : Int) = z := ⟨_, rfl⟩
        rw [hxi] at hc1 t1 t2
        rw [hyi] at hc2 t1 t3
        clear hxi hyi
        generalize (x == y) = p at t1 HFX
        generalize (x == 0) = z1 at t2 HFX
        generalize (y == 0) = z2 at t3 HFX
        cases p <;> cases z1 <;> cases z2
        all_goals
          go_wp2_with fail
          go_quiet (fail)
          clear s1 s2 s3 s4 s5 s6
          go_wp2_with fail
          go_roundw
          case rel => exact ⟨j + 1, by have := HJ.out; omega, by go_num, by rfl, Lib.hid (Below.dn HB.out _)⟩
          case measure => have := HJ.out; simp [intOf]; omega
      · obtain rfl : j = q := by omega
        obtain ⟨wa, hwa⟩ : ∃ b, (Ty.deadT own l false).wantA l = b := ⟨_, rfl⟩
        obtain ⟨hd1, hd2, _⟩ := Ty.dead_want own l false
        have hsm : (Ty.deadT own l false).sm 5000 := sm_dead (by rw [HK.out]; omega) (by rw [HN.out]; omega)
        have HWR : Hid (Below w.heap.size w wr) := Lib.hid (HB5.out.trans (HB.out.mono HB5.out.size))
        have hc := st1_want (HO5.out.on HB.out) hsm (by omega) l (some a2) c2 (HH2.out.on HWR.out) (by rw [HN.out]; omega)
        rw [HN.out, hwa] at hc
        have HW := Lib.hid hc
        have HSM := Lib.hid hsm
        obtain rfl : wa = false := by rw [← hwa, hd1]; simp [HB0.out]
        have HNO := Lib.hid (hd2 hwa)
        clear hwa hd1 hd2  hc hsm hqk hqn
        go_wp2_with (first
          | (go_at_call 14; refine HW.out.mono ?_; rintro e w6 ⟨rfl, ho⟩; rw [HNO.out] at ho; have HO6 := Lib.hid ho; have HB6 : Hid (Below w.heap.size w w6) := Lib.hid (HB1.out.trans (ho.below.mono HB1.out.size)); clear ho)
          | (go_at_call 25; (have hh := st1_height HO6.out); rw [show (Ty.deadT own l false).ops.length = k from HK.out] at hh; refine hh.mono ?_; rintro e w7 ⟨hw7, rfl⟩; obtain rfl : w6 = w7 := hw7.symm; clear hh))
        go_ret
        exact ⟨by simp, HB6.out⟩
set_option maxRecDepth 100000 in
set_option maxHeartbeats 4000000 in
theorem typingDead_any (hk : KnownOk) (own l : List UInt8) (dead : Bool) (A1 A2 : Option Addr) (c1 c2 : Nat) (w : World) (h1 : SliceV w (· < w.heap.size) own (.slice A1 own.length c1)) (h2 : SliceV w (· < w.heap.size) l (.slice A2 l.length c2)) (hl1 : own.length ≤ 140737488355328) (hl2 : l.length ≤ 140737488355328) :
    Calls Try.prog 4 #[.slice A1 own.length c1, .slice A2 l.length c2, .bool dead] w fun e w' => e = .returned (.bool true) ∧ Below w.heap.size w w' := by
  by_cases hn1 : own.length ≤ 500
  · by_cases hn2 : l.length ≤ 500
    · cases dead with
      | true => exact tdead_yes hk own l A1 A2 c1 c2 w h1 h2 hn1 hn2
      | false =>
        by_cases hb : l.length ≤ own.length
        · exact tdead_ok hk own l A1 A2 c1 c2 w h1 h2 hn1 hn2 hb
        · exact tdead_short hk own l A1 A2 c1 c2 w h1 h2 hn1 hn2 hb
    · have HKN := Lib.hid hk
      generalize own.length = k at *
      generalize l.length = n at *
      have g1 : decide ((500 : Int) < (k : Int)) = false := decide_eq_false (by omega)
      have g3 : decide (500 < k) = false := decide_eq_false (by omega)
      have g2 : (500 : Int) < (n : Int) := by omega
      have g4 : 500 < n := by omega
      clear h1 h2 hk hn1 hn2
      go_enter Try.func4, Try.ntmps4
      go_wp2_with (go_at_call 6; refine (HKN.out _).mono ?_; rintro e w1 ⟨rfl, hb⟩; have HB1 := Lib.hid hb; clear hb)
      go_ret
      exact ⟨rfl, HB1.out⟩
  · have HKN := Lib.hid hk
    generalize own.length = k at *
    generalize l.length = n at *
    have g2 : (500 : Int) < (k : Int) := by omega
    have g4 : 500 < k := by omega
    clear h1 h2 hk hn1
    go_enter Try.func4, Try.ntmps4
    go_wp2_with (go_at_call 6; refine (HKN.out _).mono ?_; rintro e w1 ⟨rfl, hb⟩; have HB1 := Lib.hid hb; clear hb)
    go_ret
    exact ⟨rfl, HB1.out⟩
end Go.Proofs.Ythkglmkpnhhboaa
