/-
  The walk over the statement LebBack: for every uint64, every slice of bytes and every int it answers true and leaves all memory that was there as it was.
-/
import Derived.Test.YtbpnlnonhjnnbaaLebLen64
import Derived.Test.YtbpnlnonhjnnbaaLebBits2
namespace Go.Proofs.Ytbpnlnonhjnnbaa
open Go.RowKit
theorem run_append_nil (w : World) (base n c : Nat) (v : Value) (xs : List Value) (hown : w.ownsRow base 5 1 v n xs) : (Builtin.append_ #[22, 22] 22 #[v, .slice none 0 c]).run Try.prog w = .ok v w := by
  obtain ⟨i0, hi, hz0, hz1, hz2⟩ := info_parts info5
  rcases hown.2 with ⟨rfl, rfl⟩ | ⟨g, cap, cur, rfl, _, _, hnc, _⟩
  · simp [Builtin.append_, run_underlying und22, sizeOf, typeInfo, hi, Builtin.lenOf, Builtin.firstCells]
  · simp [Builtin.append_, run_underlying und22, sizeOf, typeInfo, hi, Builtin.lenOf, Builtin.firstCells, hnc, storeCells]
/-- append of bytes that stand somewhere onto a row of the call's own. -/
theorem run_append_has (w : World) (base n m c : Nat) (v : Value) (l1 l2 : List UInt8) (A : Option Addr) (hown : w.ownsRow base 5 1 v n (bytesOf l1)) (hA : Has w w.heap.size A l2) (hm : m = l2.length) (hsz : n + m ≤ 140737488355328) (hb : base ≤ w.heap.size) :
    ∃ v' w', (Builtin.append_ #[22, 22] 22 #[v, .slice A m c]).run Try.prog w = .ok v' w' ∧ w'.ownsRow base 5 1 v' (n + m) (bytesOf (l1 ++ l2)) ∧ Below base w w' := by
  obtain ⟨i0, hi, hz0, hz1, hz2⟩ := info_parts info5
  cases A with
  | none =>
    have hl : l2 = [] := by
      cases l2 with
      | nil => rfl
      | cons x r =>
        obtain ⟨ad, h, _⟩ := hA 0 x (by simp)
        cases h
    subst hl
    obtain rfl : m = 0 := hm
    exact ⟨v, w, run_append_nil w base n c v _ hown, by simpa using hown, Below.refl _ _⟩
  | some a =>
    have hnews : ∀ j u, (bytesOf l2)[j]? = some u → w.cell? (a.add j) = some u := by
      intro j u hu
      have h0 : 0 < (bytesOf l2).length := by have := (List.getElem?_eq_some_iff.1 hu).1; omega
      obtain ⟨ad, h, hc⟩ := hA.cells h0
      injection h with h
      subst h
      exact hc j u hu
    obtain ⟨v', w', hrun, h2, h3, _⟩ := run_append_own (P := Try.prog) w base 22 22 5 i0 (.int .u8 0) 1 1 und22 hi hz0 hz1 hz2 rfl (by decide) v n (bytesOf l1) hown a m c (bytesOf l2) (by rw [bytesOf_length, Nat.mul_one, hm]) hnews (bytesOf_one l2) (by unfold maxLen; omega) (by omega) hb
    exact ⟨v', w', hrun, by rw [bytesOf_append]; exact h2, (Below.refl _ _).grown h3 hb (own_ge hown)⟩
theorem wpList_appends {P : Program} {w : World} {ops : Array Oper} {rest : List Oper} {o : Oper} {a : Act} {Q : Exit → Act → World → Prop} (hgd : o.guard = none) (s x : Operand) (t : TypeId)
    (ho : o.op = .call { callee := .builtin .append, args := #[s, x], argTypes := #[t, t] }) (v u r : Value) (w' : World) (hs : a.eval s = v) (hx : a.eval x = u)
    (hrun : (Builtin.append_ #[t, t] o.type #[v, u]).run P w = .ok r w') (h : wpList P ops Q rest (a.put o.dst r) w') : wpList P ops Q (o :: rest) a w := by
  refine wpList_plain hgd fun K hK => ?_
  unfold Oper.wp execOp
  simp only [ho, resolve, invoke, builtin, Sem.run_bind, Sem.run_pure, Result.andThen_ok, List.map_toArray, List.map_cons, List.map_nil, hs, hx, hrun]
  exact hK _ _ h
/-- []byte{}, then two appends: the bytes one behind the other, in a row of the call's own. -/
theorem joined (w : World) (A B : Option Addr) (l1 l2 : List UInt8) (n1 n2 c1 c2 : Nat) (h1 : Has w w.heap.size A l1) (h2 : Has w w.heap.size B l2) (hn1 : n1 = l1.length) (hn2 : n2 = l2.length) (hsz : n1 + n2 ≤ 140737488355328) :
    ∃ v w1 C c3 w2, (Builtin.append_ #[22, 22] 22 #[.slice (some ⟨w.heap.size, 0, none⟩) 0 0, .slice A n1 c1]).run Try.prog (w.alloc (.cells #[] 5)) = .ok v w1 ∧
      (Builtin.append_ #[22, 22] 22 #[v, .slice B n2 c2]).run Try.prog w1 = .ok (.slice C (n1 + n2) c3) w2 ∧ Has w2 w2.heap.size C (l1 ++ l2) ∧ Below w.heap.size w w2 := by
  have hb0 : Below w.heap.size w (w.alloc (.cells #[] 5)) := (Below.refl _ _).alloc (Nat.le_refl _) _
  have hown0 : (w.alloc (.cells #[] 5)).ownsRow w.heap.size 5 1 (.slice (some ⟨w.heap.size, 0, none⟩) 0 0) 0 (bytesOf []) :=
    ⟨rfl, .inr ⟨w.heap.size, 0, #[], rfl, Nat.le_refl _, heap_alloc_new w _, Nat.le_refl _, by unfold maxLen; omega, rfl, rfl⟩⟩
  obtain ⟨v, w1, hr1, ho1, hb1⟩ := run_append_has _ w.heap.size 0 n1 c1 _ [] l1 A hown0 (h1.on hb0) hn1 (by omega) hb0.size
  have hb1' := hb0.trans hb1
  obtain ⟨v2, w2, hr2, ho2, hb2⟩ := run_append_has w1 w.heap.size (0 + n1) n2 c2 v ([] ++ l1) l2 B ho1 (h2.on hb1') hn2 (by omega) hb1'.size
  obtain ⟨C, c3, rfl, _, _, hh⟩ := Has.own ho2
  rw [Nat.zero_add] at hr2
  exact ⟨v, w1, C, c3, w2, hr1, hr2, by simpa using hh, hb1'.trans hb2⟩
theorem xor_mag (X : Nat) (hX : X < 18446744073709551616) : bits .xor .u64 (X : Int) (IntKind.u64.wrap (wrap64 (X : Int) / 9223372036854775808)) = (Leb.mag (wrap64 (X : Int)) : Int) := by
  by_cases h : X < 9223372036854775808
  · have e : wrap64 (X : Int) = X := by unfold wrap64; omega
    have e1 : (X : Int) / 9223372036854775808 = 0 := by omega
    have e2 : IntKind.u64.wrap 0 = ((0 : Nat) : Int) := rfl
    rw [e, e1, e2, u64_xor_nat X 0 hX (by decide), Nat.xor_zero]
    unfold Leb.mag
    rw [if_pos (by omega)]; omega
  · have e : wrap64 (X : Int) = (X : Int) - 18446744073709551616 := by unfold wrap64; omega
    have e1 : ((X : Int) - 18446744073709551616) / 9223372036854775808 = -1 := by omega
    have e2 : IntKind.u64.wrap (-1) = ((18446744073709551615 : Nat) : Int) := rfl
    rw [e, e1, e2, u64_xor_nat X _ hX (by decide)]
    have e3 : X ^^^ 18446744073709551615 = 18446744073709551615 - X := by
      have h1 := congrArg BitVec.toNat (BitVec.xor_allOnes (x := BitVec.ofNat 64 X))
      rw [BitVec.toNat_xor, BitVec.toNat_not, BitVec.toNat_allOnes, BitVec.toNat_ofNat, Nat.mod_eq_of_lt hX] at h1
      exact h1
    rw [e3]
    unfold Leb.mag
    rw [if_neg (by omega)]; omega
theorem wrap64_range (z : Int) : -9223372036854775808 ≤ wrap64 z ∧ wrap64 z ≤ 9223372036854775807 := by unfold wrap64; omega
theorem num_encU (X : Nat) (r : List UInt8) (b : Int) (h : Leb.okU (Leb.encU X ++ r) b = true) : Leb.numU (Leb.encU X ++ r) b = (X : Int) ∧ Leb.cntU (Leb.encU X ++ r) b = ((Leb.encU X).length : Int) := by
  unfold Leb.numU Leb.cntU
  rw [if_pos h, if_pos h, Leb.used_encU, Leb.run_encU]
  exact ⟨rfl, rfl⟩
theorem num_encS (N : Int) (r : List UInt8) (b : Int) (h : Leb.okS (Leb.encS N ++ r) b = true) : Leb.numS (Leb.encS N ++ r) b = N ∧ Leb.cntS (Leb.encS N ++ r) b = ((Leb.encS N).length : Int) := by
  unfold Leb.numS Leb.cntS
  rw [if_pos h, if_pos h, Leb.sused_encS, Leb.run_encS]
  exact ⟨rfl, rfl⟩
theorem nil_app {W : World} {v : Value} {E : List UInt8} {w' : World} (h : w'.ownsRow W.heap.size 5 1 v (0 + E.length) (bytesOf ([] ++ E))) : ∃ (A : Option Addr) (c : Nat), v = .slice A E.length c ∧ E.length ≤ c ∧ Has w' w'.heap.size A E := by
  obtain ⟨A, c, h1, h2, _, h4⟩ := Has.own h
  rw [Nat.zero_add] at h1 h2
  exact ⟨A, c, h1, h2, h4⟩
set_option maxHeartbeats 4000000 in
theorem walk5 (A : Option Addr) (l : List UInt8) (n c X : Nat) (b : Int) (w : World) (hn : n = l.length) (hmax : n ≤ 9223372036854775807) (hX : X < 18446744073709551616) (hA : Has w w.heap.size A l) :
    Calls Try.prog 5 #[.int .u64 (X : Int), .slice A n c, .int .i64 b] w fun e w' => e = .returned (.bool true) ∧ Below w.heap.size w w' := by
  have HA := Lib.hid hA
  have HN := Lib.hid hn
  have HX := Lib.hid hX
  clear hA hn hX
  by_cases hbig : 1000 < n
  · go_enter Try.func5, Try.ntmps5
    go_wp2_with (go_at_call 7; refine (c7 _).mono ?_; rintro e w1 ⟨rfl, hb1⟩)
    go_ret
    exact ⟨rfl, hb1⟩
  by_cases hlo : b < 1
  · go_enter Try.func5, Try.ntmps5
    go_wp2_with (go_at_call 7; refine (c7 _).mono ?_; rintro e w1 ⟨rfl, hb1⟩)
    go_ret
    exact ⟨rfl, hb1⟩
  by_cases hhi : 64 < b
  · go_enter Try.func5, Try.ntmps5
    go_wp2_with (go_at_call 7; refine (c7 _).mono ?_; rintro e w1 ⟨rfl, hb1⟩)
    go_ret
    exact ⟨rfl, hb1⟩
  have HC11 := Lib.hid (fun W => c11 none [] 0 0 X W rfl (by omega) (Has.nil _ _ _) HX.out)
  have HC12 := Lib.hid (fun W => c12 none [] 0 0 (wrap64 (X : Int)) W rfl (by omega) (Has.nil _ _ _) (wrap64_range _))
  have hu10 := Leb.encU_le10 X HX.out
  have hup := Leb.encU_pos X
  have hs10 := Leb.encS_le10 (wrap64 (X : Int)) (wrap64_range _).1 (wrap64_range _).2
  have hsp := Leb.encS_pos (wrap64 (X : Int))
  have FU := Lib.hid (Leb.okU_encU X l b HX.out (by omega) (by omega))
  have FUn := Lib.hid (num_encU X l b)
  have FS := Lib.hid (Leb.okS_encS (wrap64 (X : Int)) l b (wrap64_range _).1 (wrap64_range _).2 (by omega) (by omega))
  have FSn := Lib.hid (num_encS (wrap64 (X : Int)) l b)
  have FC := Lib.hid (fun (i : Nat) (h : i < (Leb.encU X).length) => Leb.okU_cut h 64)
  have HXor := Lib.hid (xor_mag X HX.out)
  have HMag := Lib.hid (Leb.mag_lt (wrap64 (X : Int)) (wrap64_range _).1 (wrap64_range _).2)
  have HBL := Lib.hid (Leb.bitLen_64 X HX.out)
  have HBM := Lib.hid (Leb.bitLen_64 (Leb.mag (wrap64 (X : Int))) (by have := HMag.out; omega))
  generalize Leb.encU X = EU at *
  generalize Leb.encS (wrap64 (X : Int)) = ES at *
  generalize Leb.mag (wrap64 (X : Int)) = MG at *
  have hd1 : decide (1000 < (n : Int)) = false := by simp; omega
  have hd2 : decide (b < 1) = false := by simp; omega
  have hd3 : decide (64 < b) = false := by simp; omega
  go_enter Try.func5, Try.ntmps5
  go_wp2_with fail
  refine (c7 _).mono ?_
  rintro e w1 ⟨rfl, hb1⟩
  have HA1 := Lib.hid (HA.out.on hb1)
  have HB1 := Lib.hid hb1
  clear hb1
  go_wp2_with fail
  refine (HC11.out _).mono ?_
  rintro e w2 ⟨v2, rfl, hown2, hb2⟩
  obtain ⟨A2, c2, rfl, hc2, hh2⟩ := nil_app hown2
  have HA2 := Lib.hid (HA1.out.on hb2)
  have HB2 := Lib.hid (HB1.out.trans (hb2.mono HB1.out.size))
  have HU2 := Lib.hid hh2
  clear hown2 hb2 hh2
  go_wp2_with fail
  refine (HC12.out _).mono ?_
  rintro e w3 ⟨v3, rfl, hown3, hb3⟩
  obtain ⟨A3, c3, rfl, hc3, hh3⟩ := nil_app hown3
  have HA3 := Lib.hid (HA2.out.on hb3)
  have HB3 := Lib.hid (HB2.out.trans (hb3.mono HB2.out.size))
  have HU3 := Lib.hid (HU2.out.on hb3)
  have HS3 := Lib.hid hh3
  clear hown3 hb3 hh3
  obtain ⟨v4, w4, A5, c5, w5, hr4, hr5, hh5, hb5⟩ := joined w3 A2 A EU l EU.length n c2 c HU3.out HA3.out rfl HN.out (by omega)
  have HR4 := Lib.hid hr4
  have HR5 := Lib.hid hr5
  have HH5 := Lib.hid hh5
  have HA5 := Lib.hid (HA3.out.on hb5)
  have HU5 := Lib.hid (HU3.out.on hb5)
  have HS5 := Lib.hid (HS3.out.on hb5)
  have HB5 := Lib.hid (HB3.out.trans (hb5.mono HB3.out.size))
  clear hr4 hr5 hh5 hb5
  go_wp2_with (first | (at_builtin; refine wpList_appends rfl (.tmp 39) (.tmp 40) 22 rfl _ _ _ w4 rfl rfl HR4.out ?_) | (at_builtin; refine wpList_appends rfl (.tmp 41) (.tmp 42) 22 rfl _ _ _ w5 rfl rfl HR5.out ?_))
  refine (c8 A5 (EU ++ l) (EU.length + n) c5 b _ (by rw [List.length_append, ← HN.out]) (by omega) HH5.out).mono ?_
  rintro e w6 ⟨rfl, hb6⟩
  have HA6 := Lib.hid (HA5.out.on hb6)
  have HU6 := Lib.hid (HU5.out.on hb6)
  have HS6 := Lib.hid (HS5.out.on hb6)
  have HB6 := Lib.hid (HB5.out.trans (hb6.mono HB5.out.size))
  clear hb6
  have hXb : (X : Int) ≤ 18446744073709551615 := by have := HX.out; omega
  have HC14 : Hid (∀ W, Calls Try.prog 14 #[.int .u64 (X : Int)] W fun e w' => e = .returned (.int .i64 (Lib.bitLen X : Int)) ∧ W = w') := Lib.hid (fun W => by
    have h := c14 (X : Int) W (by omega) (by omega)
    rw [Int.toNat_natCast] at h
    exact h)
  have HC14m : Hid (∀ W, Calls Try.prog 14 #[.int .u64 (MG : Int)] W fun e w' => e = .returned (.int .i64 (Lib.bitLen MG : Int)) ∧ W = w') := Lib.hid (fun W => by
    have hm := HMag.out
    have h := c14 (MG : Int) W (by omega) (by omega)
    rw [Int.toNat_natCast] at h
    exact h)
  generalize Lib.bitLen X = LX at *
  generalize Lib.bitLen MG = LM at *
  have hLM := HBM.out
  have hLX := HBL.out
  obtain ⟨v7, w7, A8, c8', w8, hr7, hr8, hh8, hb8⟩ := joined w6 A3 A ES l ES.length n c3 c HS6.out HA6.out rfl HN.out (by omega)
  have HR7 := Lib.hid hr7
  have HR8 := Lib.hid hr8
  have HH8 := Lib.hid hh8
  have HU8 := Lib.hid (HU6.out.on hb8)
  have HB8 := Lib.hid (HB6.out.trans (hb8.mono HB6.out.size))
  clear hr7 hr8 hh8 hb8
  cases hok : Leb.okU (EU ++ l) b
  · have hmx := FU.out
    rw [hok] at hmx
    have hmx2 := of_decide_eq_false hmx.symm
    have h1 : (1 : Int) ≤ (LX : Int) := by omega
    have h2 : b < (LX : Int) := by omega
    clear hok hmx hmx2
    go_wp2_with (first | (go_at_call 14; refine (HC14.out _).mono ?_; rintro e w9 ⟨rfl, rfl⟩) | (at_builtin; refine wpList_appends rfl (.tmp 72) (.tmp 73) 22 rfl _ _ _ w7 rfl rfl HR7.out ?_) | (at_builtin; refine wpList_appends rfl (.tmp 74) (.tmp 75) 22 rfl _ _ _ w8 rfl rfl HR8.out ?_))
    refine (c10 A8 (ES ++ l) (ES.length + n) c8' b _ (by rw [List.length_append, ← HN.out]) (by omega) HH8.out).mono ?_
    rintro e wa ⟨rfl, hba⟩
    have HUa := Lib.hid (HU8.out.on hba)
    have HBa := Lib.hid (HB8.out.trans (hba.mono HB8.out.size))
    clear hba
    cases hokS : Leb.okS (ES ++ l) b
    · have hmx := FS.out
      rw [hokS] at hmx
      have hmx2 := of_decide_eq_false hmx.symm
      have h3 : b < (LM : Int) + 1 := by omega
      clear hokS hmx hmx2
      have hxor := HXor.out
      go_wp2_with (go_at_call 14; refine (HC14m.out _).mono ?_; rintro e w9 ⟨rfl, rfl⟩)
      clear hxor
      go_loopw [112] (fun i wr => ∃ k : Nat, k ≤ EU.length ∧ i = .int .i64 (k : Int) ∧ Hid (Below w.heap.size w wr) ∧ Hid (Has wr wr.heap.size A2 EU)) (fun i _ => EU.length - (intOf i).toNat)
      case atStart => exact ⟨0, by omega, rfl, HBa, HUa⟩
      case round =>
        obtain ⟨k, hk, rfl, hbr, hur⟩ := hrel
        by_cases hlt : k < EU.length
        · have HF := Lib.hid (FC.out k hlt)
          have HFn : Hid (Leb.numU (EU.take k) 64 = 0) := Lib.hid (by unfold Leb.numU; rw [HF.out]; rfl)
          have HFc : Hid (Leb.cntU (EU.take k) 64 = 0) := Lib.hid (by unfold Leb.cntU; rw [HF.out]; rfl)
          go_wp2_with fail
          refine (c8 A2 (EU.take k) k c2 64 _ (by simp; omega) (by omega) (hur.out.take k)).mono ?_
          rw [HF.out, HFn.out, HFc.out]
          rintro e wb ⟨rfl, hbb⟩
          have HBb := Lib.hid (hbr.out.trans (hbb.mono hbr.out.size))
          have HUb := Lib.hid (hur.out.on hbb)
          clear hbb
          go_wp2_with fail
          go_roundw
          case rel => exact ⟨k + 1, by omega, by go_num, HBb, HUb⟩
          case measure => simp [intOf]; omega
        · go_wp2_with fail
          go_ret
          exact ⟨congrArg (fun z => Ending.returned (.bool z)) (decide_eq_true (show (ES.length : Int) ≤ 10 by omega)), hbr.out⟩
    · obtain ⟨hnum, hcnt⟩ := FSn.out hokS
      have hmx := FS.out
      rw [hokS] at hmx
      have h3 := of_decide_eq_true hmx.symm
      rw [hnum, hcnt]
      clear hokS hnum hcnt hmx
      have hxor := HXor.out
      go_wp2_with (go_at_call 14; refine (HC14m.out _).mono ?_; rintro e w9 ⟨rfl, rfl⟩)
      clear hxor
      go_loopw [112] (fun i wr => ∃ k : Nat, k ≤ EU.length ∧ i = .int .i64 (k : Int) ∧ Hid (Below w.heap.size w wr) ∧ Hid (Has wr wr.heap.size A2 EU)) (fun i _ => EU.length - (intOf i).toNat)
      case atStart => exact ⟨0, by omega, rfl, HBa, HUa⟩
      case round =>
        obtain ⟨k, hk, rfl, hbr, hur⟩ := hrel
        by_cases hlt : k < EU.length
        · have HF := Lib.hid (FC.out k hlt)
          have HFn : Hid (Leb.numU (EU.take k) 64 = 0) := Lib.hid (by unfold Leb.numU; rw [HF.out]; rfl)
          have HFc : Hid (Leb.cntU (EU.take k) 64 = 0) := Lib.hid (by unfold Leb.cntU; rw [HF.out]; rfl)
          go_wp2_with fail
          refine (c8 A2 (EU.take k) k c2 64 _ (by simp; omega) (by omega) (hur.out.take k)).mono ?_
          rw [HF.out, HFn.out, HFc.out]
          rintro e wb ⟨rfl, hbb⟩
          have HBb := Lib.hid (hbr.out.trans (hbb.mono hbr.out.size))
          have HUb := Lib.hid (hur.out.on hbb)
          clear hbb
          go_wp2_with fail
          go_roundw
          case rel => exact ⟨k + 1, by omega, by go_num, HBb, HUb⟩
          case measure => simp [intOf]; omega
        · go_wp2_with fail
          go_ret
          exact ⟨congrArg (fun z => Ending.returned (.bool z)) (decide_eq_true (show (ES.length : Int) ≤ 10 by omega)), hbr.out⟩
  · obtain ⟨hnum, hcnt⟩ := FUn.out hok
    have hmx := FU.out
    rw [hok] at hmx
    have hmx2 := of_decide_eq_true hmx.symm
    rw [hnum, hcnt]
    clear hok hnum hcnt hmx
    by_cases h1 : (LX : Int) < 1
    · clear hmx2
      go_wp2_with (first | (go_at_call 14; refine (HC14.out _).mono ?_; rintro e w9 ⟨rfl, rfl⟩) | (at_builtin; refine wpList_appends rfl (.tmp 72) (.tmp 73) 22 rfl _ _ _ w7 rfl rfl HR7.out ?_) | (at_builtin; refine wpList_appends rfl (.tmp 74) (.tmp 75) 22 rfl _ _ _ w8 rfl rfl HR8.out ?_))
      refine (c10 A8 (ES ++ l) (ES.length + n) c8' b _ (by rw [List.length_append, ← HN.out]) (by omega) HH8.out).mono ?_
      rintro e wa ⟨rfl, hba⟩
      have HUa := Lib.hid (HU8.out.on hba)
      have HBa := Lib.hid (HB8.out.trans (hba.mono HB8.out.size))
      clear hba
      cases hokS : Leb.okS (ES ++ l) b
      · have hmx := FS.out
        rw [hokS] at hmx
        have hmx2 := of_decide_eq_false hmx.symm
        have h3 : b < (LM : Int) + 1 := by omega
        clear hokS hmx hmx2
        have hxor := HXor.out
        go_wp2_with (go_at_call 14; refine (HC14m.out _).mono ?_; rintro e w9 ⟨rfl, rfl⟩)
        clear hxor
        go_loopw [112] (fun i wr => ∃ k : Nat, k ≤ EU.length ∧ i = .int .i64 (k : Int) ∧ Hid (Below w.heap.size w wr) ∧ Hid (Has wr wr.heap.size A2 EU)) (fun i _ => EU.length - (intOf i).toNat)
        case atStart => exact ⟨0, by omega, rfl, HBa, HUa⟩
        case round =>
          obtain ⟨k, hk, rfl, hbr, hur⟩ := hrel
          by_cases hlt : k < EU.length
          · have HF := Lib.hid (FC.out k hlt)
            have HFn : Hid (Leb.numU (EU.take k) 64 = 0) := Lib.hid (by unfold Leb.numU; rw [HF.out]; rfl)
            have HFc : Hid (Leb.cntU (EU.take k) 64 = 0) := Lib.hid (by unfold Leb.cntU; rw [HF.out]; rfl)
            go_wp2_with fail
            refine (c8 A2 (EU.take k) k c2 64 _ (by simp; omega) (by omega) (hur.out.take k)).mono ?_
            rw [HF.out, HFn.out, HFc.out]
            rintro e wb ⟨rfl, hbb⟩
            have HBb := Lib.hid (hbr.out.trans (hbb.mono hbr.out.size))
            have HUb := Lib.hid (hur.out.on hbb)
            clear hbb
            go_wp2_with fail
            go_roundw
            case rel => exact ⟨k + 1, by omega, by go_num, HBb, HUb⟩
            case measure => simp [intOf]; omega
          · go_wp2_with fail
            go_ret
            exact ⟨congrArg (fun z => Ending.returned (.bool z)) (decide_eq_true (show (ES.length : Int) ≤ 10 by omega)), hbr.out⟩
      · obtain ⟨hnum, hcnt⟩ := FSn.out hokS
        have hmx := FS.out
        rw [hokS] at hmx
        have h3 := of_decide_eq_true hmx.symm
        rw [hnum, hcnt]
        clear hokS hnum hcnt hmx
        have hxor := HXor.out
        go_wp2_with (go_at_call 14; refine (HC14m.out _).mono ?_; rintro e w9 ⟨rfl, rfl⟩)
        clear hxor
        go_loopw [112] (fun i wr => ∃ k : Nat, k ≤ EU.length ∧ i = .int .i64 (k : Int) ∧ Hid (Below w.heap.size w wr) ∧ Hid (Has wr wr.heap.size A2 EU)) (fun i _ => EU.length - (intOf i).toNat)
        case atStart => exact ⟨0, by omega, rfl, HBa, HUa⟩
        case round =>
          obtain ⟨k, hk, rfl, hbr, hur⟩ := hrel
          by_cases hlt : k < EU.length
          · have HF := Lib.hid (FC.out k hlt)
            have HFn : Hid (Leb.numU (EU.take k) 64 = 0) := Lib.hid (by unfold Leb.numU; rw [HF.out]; rfl)
            have HFc : Hid (Leb.cntU (EU.take k) 64 = 0) := Lib.hid (by unfold Leb.cntU; rw [HF.out]; rfl)
            go_wp2_with fail
            refine (c8 A2 (EU.take k) k c2 64 _ (by simp; omega) (by omega) (hur.out.take k)).mono ?_
            rw [HF.out, HFn.out, HFc.out]
            rintro e wb ⟨rfl, hbb⟩
            have HBb := Lib.hid (hbr.out.trans (hbb.mono hbr.out.size))
            have HUb := Lib.hid (hur.out.on hbb)
            clear hbb
            go_wp2_with fail
            go_roundw
            case rel => exact ⟨k + 1, by omega, by go_num, HBb, HUb⟩
            case measure => simp [intOf]; omega
          · go_wp2_with fail
            go_ret
            exact ⟨congrArg (fun z => Ending.returned (.bool z)) (decide_eq_true (show (ES.length : Int) ≤ 10 by omega)), hbr.out⟩
    · have h2 : (LX : Int) ≤ b := by omega
      clear hmx2
      go_wp2_with (first | (go_at_call 14; refine (HC14.out _).mono ?_; rintro e w9 ⟨rfl, rfl⟩) | (at_builtin; refine wpList_appends rfl (.tmp 72) (.tmp 73) 22 rfl _ _ _ w7 rfl rfl HR7.out ?_) | (at_builtin; refine wpList_appends rfl (.tmp 74) (.tmp 75) 22 rfl _ _ _ w8 rfl rfl HR8.out ?_))
      refine (c10 A8 (ES ++ l) (ES.length + n) c8' b _ (by rw [List.length_append, ← HN.out]) (by omega) HH8.out).mono ?_
      rintro e wa ⟨rfl, hba⟩
      have HUa := Lib.hid (HU8.out.on hba)
      have HBa := Lib.hid (HB8.out.trans (hba.mono HB8.out.size))
      clear hba
      cases hokS : Leb.okS (ES ++ l) b
      · have hmx := FS.out
        rw [hokS] at hmx
        have hmx2 := of_decide_eq_false hmx.symm
        have h3 : b < (LM : Int) + 1 := by omega
        clear hokS hmx hmx2
        have hxor := HXor.out
        go_wp2_with (go_at_call 14; refine (HC14m.out _).mono ?_; rintro e w9 ⟨rfl, rfl⟩)
        clear hxor
        go_loopw [112] (fun i wr => ∃ k : Nat, k ≤ EU.length ∧ i = .int .i64 (k : Int) ∧ Hid (Below w.heap.size w wr) ∧ Hid (Has wr wr.heap.size A2 EU)) (fun i _ => EU.length - (intOf i).toNat)
        case atStart => exact ⟨0, by omega, rfl, HBa, HUa⟩
        case round =>
          obtain ⟨k, hk, rfl, hbr, hur⟩ := hrel
          by_cases hlt : k < EU.length
          · have HF := Lib.hid (FC.out k hlt)
            have HFn : Hid (Leb.numU (EU.take k) 64 = 0) := Lib.hid (by unfold Leb.numU; rw [HF.out]; rfl)
            have HFc : Hid (Leb.cntU (EU.take k) 64 = 0) := Lib.hid (by unfold Leb.cntU; rw [HF.out]; rfl)
            go_wp2_with fail
            refine (c8 A2 (EU.take k) k c2 64 _ (by simp; omega) (by omega) (hur.out.take k)).mono ?_
            rw [HF.out, HFn.out, HFc.out]
            rintro e wb ⟨rfl, hbb⟩
            have HBb := Lib.hid (hbr.out.trans (hbb.mono hbr.out.size))
            have HUb := Lib.hid (hur.out.on hbb)
            clear hbb
            go_wp2_with fail
            go_roundw
            case rel => exact ⟨k + 1, by omega, by go_num, HBb, HUb⟩
            case measure => simp [intOf]; omega
          · go_wp2_with fail
            go_ret
            exact ⟨congrArg (fun z => Ending.returned (.bool z)) (decide_eq_true (show (ES.length : Int) ≤ 10 by omega)), hbr.out⟩
      · obtain ⟨hnum, hcnt⟩ := FSn.out hokS
        have hmx := FS.out
        rw [hokS] at hmx
        have h3 := of_decide_eq_true hmx.symm
        rw [hnum, hcnt]
        clear hokS hnum hcnt hmx
        have hxor := HXor.out
        go_wp2_with (go_at_call 14; refine (HC14m.out _).mono ?_; rintro e w9 ⟨rfl, rfl⟩)
        clear hxor
        go_loopw [112] (fun i wr => ∃ k : Nat, k ≤ EU.length ∧ i = .int .i64 (k : Int) ∧ Hid (Below w.heap.size w wr) ∧ Hid (Has wr wr.heap.size A2 EU)) (fun i _ => EU.length - (intOf i).toNat)
        case atStart => exact ⟨0, by omega, rfl, HBa, HUa⟩
        case round =>
          obtain ⟨k, hk, rfl, hbr, hur⟩ := hrel
          by_cases hlt : k < EU.length
          · have HF := Lib.hid (FC.out k hlt)
            have HFn : Hid (Leb.numU (EU.take k) 64 = 0) := Lib.hid (by unfold Leb.numU; rw [HF.out]; rfl)
            have HFc : Hid (Leb.cntU (EU.take k) 64 = 0) := Lib.hid (by unfold Leb.cntU; rw [HF.out]; rfl)
            go_wp2_with fail
            refine (c8 A2 (EU.take k) k c2 64 _ (by simp; omega) (by omega) (hur.out.take k)).mono ?_
            rw [HF.out, HFn.out, HFc.out]
            rintro e wb ⟨rfl, hbb⟩
            have HBb := Lib.hid (hbr.out.trans (hbb.mono hbr.out.size))
            have HUb := Lib.hid (hur.out.on hbb)
            clear hbb
            go_wp2_with fail
            go_roundw
            case rel => exact ⟨k + 1, by omega, by go_num, HBb, HUb⟩
            case measure => simp [intOf]; omega
          · go_wp2_with fail
            go_ret
            exact ⟨congrArg (fun z => Ending.returned (.bool z)) (decide_eq_true (show (ES.length : Int) ≤ 10 by omega)), hbr.out⟩
end Go.Proofs.Ytbpnlnonhjnnbaa
