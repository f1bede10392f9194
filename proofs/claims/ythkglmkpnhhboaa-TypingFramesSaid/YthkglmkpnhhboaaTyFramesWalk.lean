/-
  TypingFrames: every call of it. (gen/typing/frames.py)
-/
import Derived.Test.YthkglmkpnhhboaaTyKnown
namespace Ty
theorem frT_sm (ts : List UInt8) (a : UInt8) (m n : Nat) (h1 : ts.length ≤ n) (h2 : m ≤ n + 3) : (frT ts a m).sm (n + 3) := by
  refine ⟨by simp [frT]; omega, by simp [frT]; omega, by simp [frT, framesOf_length]; omega, fun f hf => ?_⟩
  simp [frT, framesOf] at hf
  rcases hf with rfl | ⟨x, y, _, rfl⟩
  · exact ⟨by simp, by simp⟩
  · exact ⟨by simp, by simp⟩
theorem take_snoc {l : List UInt8} {j : Nat} {t : UInt8} (h : l[j]? = some t) : l.take (j + 1) = l.take j ++ [t] := by rw [List.take_add_one, h]; rfl
end Ty
namespace Go.Proofs.Ythkglmkpnhhboaa
open Go.RowKit Ins Bin
set_option maxRecDepth 100000 in
set_option maxHeartbeats 4000000 in
theorem tframes_some (hk : KnownOk) (ends : List UInt8) (a : UInt8) (ae : Addr) (c : Nat) (w : World) (h1 : Has w w.heap.size (some ae) ends) (hl : ends.length ≤ 100) :
    Calls Try.prog 5 #[.slice (some ae) ends.length c, .int .u8 (a.toNat : Int)] w fun e w' => e = .returned (.bool true) ∧ Below w.heap.size w w' := by
  have HKN := Lib.hid hk
  have HE := Lib.hid h1
  clear h1 hk
  obtain ⟨n, hn⟩ : ∃ n, ends.length = n := ⟨_, rfl⟩
  rw [hn] at hl
  rw [hn]
  have HN := Lib.hid hn
  clear hn
  have g1 : decide ((100 : Int) < (n : Int)) = false := decide_eq_false (by omega)
  have g3 : decide (100 < n) = false := decide_eq_false (by omega)
  obtain ⟨ai, hai⟩ : ∃ z, (a.toNat : Int) = z := ⟨_, rfl⟩
  have HAI := Lib.hid hai
  rw [hai]
  clear hai
  go_enter Try.func5, Try.ntmps5
  go_upto_region 5 with (go_at_call 6; refine (HKN.out _).mono ?_; rintro e w1 ⟨rfl, hb⟩; have HB1 := Lib.hid hb; clear hb)
  clear g1 g3
  go_upto_region 6 with (go_at_call 8; (have hc := st1_new [126] _ (w1.alloc (.cells #[.int .u8 126] 5)) (lit_sl w1 [126] #[.int .u8 126] rfl 1 rfl (by decide)) (by decide)); refine hc.mono ?_; rintro e w2 ⟨P, rfl, ho⟩; rw [Ty.frT_nil a] at ho; have HO2 := Lib.hid ho; clear ho hc)
  obtain ⟨w0, hw0⟩ : ∃ W, w1.alloc (.cells #[.int .u8 126] 5) = W := ⟨_, rfl⟩
  rw [hw0] at HO2
  have HB0 : Hid (Below w.heap.size w w0) := Lib.hid (by rw [← hw0]; exact HB1.out.alloc HB1.out.size _)
  clear hw0
  go_upto_region 7 with fail
  go_loopw [28] (fun i wr => ∃ (j m : Nat), j ≤ n ∧ i = .int .i64 (j : Int) ∧ Hid (m ≤ n) ∧ Hid (One w0 wr P (Ty.frT (ends.take j) a m))) (fun i _ => n - (intOf i).toNat)
  case atStart => exact ⟨0, 0, by omega, rfl, Lib.hid (by omega), HO2⟩
  case round =>
    obtain ⟨j, m, hj, rfl, HM, HS⟩ := hrel
    have HBW : Hid (Below w.heap.size w wr) := Lib.hid (HB0.out.trans (HS.out.below.mono HB0.out.size))
    by_cases hjn : j < n
    · obtain ⟨t, ht⟩ : ∃ t, ends[j]? = some t := ⟨_, List.getElem?_eq_getElem (by have := HN.out; omega)⟩
      obtain ⟨ad, e, _, hc0⟩ := (HE.out.on HBW.out) j t ht
      injection e with e
      subst e
      have hjl : (ends.take j).length = j := by rw [List.length_take]; have := HN.out; omega
      have HNX : Hid (((Ty.frT (ends.take j) a m).push [a]).op [t] [t, t] = Ty.frT (ends.take j ++ [t]) a (max m (j + 1))) := Lib.hid (by rw [Ty.frT_snoc, hjl])
      have HTK := Lib.hid (Ty.take_snoc ht)
      have HSM : Hid ((Ty.frT (ends.take j) a m).sm 103) := Lib.hid (Ty.frT_sm _ a m 100 (by omega) (by have := HM.out; omega))
      have HSM2 : Hid (((Ty.frT (ends.take j) a m).push [a]).sm 203) := Lib.hid (Ty.sm_push (k := 100) HSM.out (l := [a]) (by simp))
      have HSM3 : Hid ((Ty.frT (ends.take j ++ [t]) a (max m (j + 1))).sm 103) := Lib.hid (Ty.frT_sm _ a _ 100 (by simp; omega) (by have := HM.out; omega))
      have HPO := Lib.hid (Ty.frT_pop (ends.take j) t a (max m (j + 1)))
      have HWA := Lib.hid (Ty.frT_want (ends.take j) t a (max m (j + 1)) a [])
      obtain ⟨ti, hti⟩ : ∃ z, (t.toNat : Int) = z := ⟨_, rfl⟩
      have HTI := Lib.hid hti
      rw [hti] at hc0
      have hji : (j : Int) < (n : Int) := by omega
      have hn100 : (n : Int) ≤ 100 := by omega
      have HJ := Lib.hid hjn
      clear hti ht hjl hjn
      go_wp2_with (first
        | (go_at_call 10; (have hc := st1_push (HS.out.on ((Below.refl _ _).alloc (Nat.le_refl _) _)) HSM.out (by omega) [a] _ 1 (lit_sl wr [a] #[.int .u8 ai] (by rw [← HAI.out]; rfl) 1 rfl (by simp)).hasA (by simp)); refine hc.mono ?_; rintro e w2 ⟨rfl, ho⟩; have HO3 := Lib.hid ho; clear ho hc hc0)
        | (go_at_call 16; (have hl1 := lit_sl w2 [t] #[.int .u8 ti] (by rw [← HTI.out]; rfl) 1 rfl (by simp)); (have hl2 := lit_sl (w2.alloc (.cells #[.int .u8 ti] 5)) [t, t] #[.int .u8 ti, .int .u8 ti] (by rw [← HTI.out]; rfl) 2 rfl (by simp)); rw [show (w2.alloc (.cells #[.int .u8 ti] 5)).heap.size = w2.heap.size + 1 by simp] at hl2; (have hc := st1_open ((HO3.out.on ((Below.refl _ _).alloc (Nat.le_refl _) _)).on ((Below.refl _ _).alloc (Nat.le_refl _) _)) HSM2.out (by omega) [t] [t, t] _ _ (hl1.grow ((Below.refl _ _).alloc (Nat.le_refl _) _)) hl2 (by simp) (by simp)); refine hc.mono ?_; rintro e w3 ⟨rfl, ho⟩; rw [HNX.out] at ho; have HO4 := Lib.hid ho; clear ho hc hl1 hl2)
        | (go_at_call 12; (have hc := st1_pop HO4.out HSM3.out (by omega)); rw [HPO.out.1, HPO.out.2] at hc; refine hc.mono ?_; rintro e w4 ⟨rfl, ho⟩; have HO5 := Lib.hid ho; clear ho hc)
        | (go_at_call 14; (have hc := st1_want (HO5.out.on ((Below.refl _ _).alloc (Nat.le_refl _) _)) HSM3.out (by omega) [a] _ 1 (lit_sl w4 [a] #[.int .u8 ai] (by rw [← HAI.out]; rfl) 1 rfl (by simp)).hasA (by simp)); rw [HWA.out.1, HWA.out.2] at hc; refine hc.mono ?_; rintro e w5 ⟨rfl, ho⟩; have HO6 := Lib.hid ho; clear ho hc))
      go_roundw
      case rel => exact ⟨j + 1, max m (j + 1), by have := HJ.out; omega, by go_num, Lib.hid (by have := HM.out; have := HJ.out; omega), Lib.hid (by rw [HTK.out]; exact HO6.out)⟩
      case measure => have := HJ.out; simp [intOf]; omega
    · obtain rfl : n = j := by omega
      have HS0 : Hid (One w0 wr P (Ty.frT ends a m)) := Lib.hid (by have := HS.out; rwa [List.take_of_length_le (by rw [HN.out]; exact Nat.le_refl _)] at this)
      have hli : decide ((n : Int) < (n : Int)) = false := decide_eq_false (by omega)
      have HFL : Hid ((Ty.frT ends a m).frs.length = n + 1) := Lib.hid (by simp [Ty.frT, Ty.framesOf_length, HN.out])
      have HHL : Hid ((Ty.frT ends a m).ops.length = n) := Lib.hid (by simp [Ty.frT, HN.out])
      go_upto_region 17 with (first
        | (go_at_call 24; (have hh := st1_frames HS0.out); rw [HFL.out] at hh; refine hh.mono ?_; rintro e wz ⟨hw, rfl⟩; obtain rfl : wr = wz := hw.symm; clear hh)
        | (go_at_call 25; (have hh := st1_height HS0.out); rw [HHL.out] at hh; refine hh.mono ?_; rintro e wz ⟨hw, rfl⟩; obtain rfl : wr = wz := hw.symm; clear hh))
      clear hj hli
      have hwr : Hid (Below w.heap.size w wr) := HBW
      clear HS HFL HHL HBW
      have HM0 : Hid (m ≤ n + 3) := Lib.hid (by have := HM.out; omega)
      clear HM
      have hn1 : IntKind.i64.wrap ((n : Int) - 1) = (n : Int) - 1 := IntWalk.i64_in _ (by omega)
      go_wp2_with fail
      clear hn1
      go_loopw [10] (fun i wr => ∃ (j m : Nat) (z : Int), j ≤ n ∧ i = .int .i64 z ∧ Hid (z + 1 = (j : Int)) ∧ Hid (m ≤ n + 3) ∧ Hid (One w0 wr P (Ty.frT (ends.take j) a m))) (fun i _ => (intOf i + 1).toNat)
      case atStart => exact ⟨n, m, (n : Int) - 1, by omega, rfl, Lib.hid (by omega), HM0, Lib.hid (by rw [List.take_of_length_le (by rw [HN.out]; exact Nat.le_refl _)]; exact HS0.out)⟩
      case round =>
        obtain ⟨j, m, z, hj, rfl, HZ, HM, HS⟩ := hrel
        have HBW : Hid (Below w.heap.size w wr) := Lib.hid (HB0.out.trans (HS.out.below.mono HB0.out.size))
        by_cases hj0 : 0 < j
        · obtain ⟨p, rfl⟩ : ∃ p, j = p + 1 := ⟨j - 1, by omega⟩
          obtain rfl : z = (p : Int) := by have := HZ.out; omega
          obtain ⟨t, ht⟩ : ∃ t, ends[p]? = some t := ⟨_, List.getElem?_eq_getElem (by have := HN.out; omega)⟩
          have HS' : Hid (One w0 wr P (Ty.frT (ends.take p ++ [t]) a m)) := Lib.hid (by rw [← Ty.take_snoc ht]; exact HS.out)
          clear HS
          have HEC : Hid (∀ W, Below w.heap.size w W → W.cell? (ae.add p) = some (.int .u8 (t.toNat : Int))) := Lib.hid (fun W hW => by
            obtain ⟨ad, e, _, hc0⟩ := (HE.out.on hW) p t ht
            injection e with e
            subst e
            exact hc0)
          have hpl : (ends.take p).length = p := by rw [List.length_take]; have := HN.out; omega
          have HSM : Hid ((Ty.frT (ends.take p ++ [t]) a m).sm 103) := Lib.hid (Ty.frT_sm _ a m 100 (by simp; omega) (by have := HM.out; omega))
          have HSM2 : Hid (((Ty.frT (ends.take p ++ [t]) a m).push [t, t]).sm 203) := Lib.hid (Ty.sm_push (k := 100) HSM.out (l := [t, t]) (by simp))
          have HSM3 := Lib.hid (Ty.sm_close HSM2.out)
          have HLA := Lib.hid (Ty.frT_label (ends.take p) t a m)
          have HC0 := Lib.hid (Ty.frT_close0 (ends.take p) t a m)
          have hcc := Ty.frT_close (ends.take p) t a m
          rw [hpl] at hcc
          have HCC := Lib.hid hcc
          clear hcc hpl ht
          obtain ⟨ti, hti⟩ : ∃ z, (t.toNat : Int) = z := ⟨_, rfl⟩
          have HTI := Lib.hid hti
          rw [hti] at HEC
          clear hti
          have hpn : p < n := by omega
          have hpi : (p : Int) < (n : Int) := by omega
          have hp0 : (0 : Int) ≤ (p : Int) := by omega
          have hn100 : (n : Int) ≤ 100 := by omega
          clear hj0 hj
          go_upto_region 21 with (go_at_call 22; (have hc := st1_label HS'.out HSM.out (by omega) 0 (by omega)); rw [HLA.out, show ((0 : Nat) : Int) = 0 from rfl] at hc; refine hc.mono ?_; rintro e w2 ⟨⟨A1, c1, he, _, _, _, hh⟩, ho⟩; obtain ⟨b1, rfl, _, hcl⟩ := hh 0 t rfl; have he2 : e = .returned (.tuple #[.slice (some b1) 1 c1, .bool true]) := he; subst he2; rw [HTI.out] at hcl; have HO2 := Lib.hid ho; have hbw2 := HB0.out.trans (ho.below.mono HB0.out.size); have hce := HEC.out w2 hbw2; clear he hh ho hc hbw2)
          have hcl2 : w2.cell? b1 = some (.int .u8 ti) := by
            have h := hcl
            rwa [show b1.add 0 = b1 by simp [Addr.add]] at h
          have hne : (ti != ti) = false := by simp
          have HCLO : Hid (∀ W, Below w2.heap.size w2 W → Calls Try.prog 18 #[.pointer (some ⟨P, 0, none⟩)] W fun e w' => e = .returned (.tuple #[.slice none 0 0, .bool false]) ∧ One w0 w' P (Ty.frT (ends.take p ++ [t]) a m)) := Lib.hid (fun W hW => by
            have hc := st1_close (HO2.out.on hW) HSM.out (by omega)
            rw [HC0.out.1, HC0.out.2] at hc
            exact hc)
          go_quiet (fail)
          clear hcl hcl2 hce
          go_upto_region 26 with (go_at_call 18; refine (HCLO.out _ (Below.dn (Below.refl _ _) _)).mono ?_; rintro e w3 ⟨rfl, ho⟩; have HO3 := Lib.hid ho; clear ho)
          have HBW3 : Hid (Below w.heap.size w w3) := Lib.hid (HB0.out.trans (HO3.out.below.mono HB0.out.size))
          refine wp_region_held_drew (S := fun W' => W'.cell? (ae.add p) = some (.int .u8 ti)) (by kernel_rfl) ((HEC.out _ (Below.drew HBW3.out))) (fun hHeld => ?_)
          refine drawn_take 0 rfl (by kernel_rfl) (by kernel_rfl) (by kernel_rfl) (fun _ _ _ h => h) (by rfl) (by assumption) (v := ?_) ?_ ?_
          rotate_left
          · (intro wy hSw; go_simp; try with_reducible rfl)
          simp only [Act.put, List.setIfInBounds_toArray, List.set_cons_zero, List.set_cons_succ]
          refine drawn_take 1 rfl (by kernel_rfl) (by kernel_rfl) (by kernel_rfl) (fun _ _ _ h => h) (by rfl) (by assumption) (v := ?_) ?_ ?_
          rotate_left
          · (intro wy hSw; go_simp; try with_reducible rfl)
          simp only [Act.put, List.setIfInBounds_toArray, List.set_cons_zero, List.set_cons_succ]
          refine drawn_take 2 rfl (by kernel_rfl) (by kernel_rfl) (by kernel_rfl) (fun _ _ _ h => h) (by rfl) (by assumption) (v := ?_) ?_ ?_
          rotate_left
          · (intro wy hSw; go_simp; try with_reducible rfl)
          simp only [Act.put, List.setIfInBounds_toArray, List.set_cons_zero, List.set_cons_succ]
          refine drawn_take 3 rfl (by kernel_rfl) (by kernel_rfl) (by kernel_rfl) (fun _ _ _ h => h) (by rfl) (by assumption) (v := ?_) ?_ ?_
          rotate_left
          · (intro wy hSw; go_simp; try with_reducible rfl)
          simp only [Act.put, List.setIfInBounds_toArray, List.set_cons_zero, List.set_cons_succ]
          refine drawn_take 4 rfl (by kernel_rfl) (by kernel_rfl) (by kernel_rfl) (fun _ _ _ h => h) (by rfl) (by assumption) (v := ?_) ?_ ?_
          rotate_left
          · (intro wy hSw; go_simp; try with_reducible rfl)
          simp only [Act.put, List.setIfInBounds_toArray, List.set_cons_zero, List.set_cons_succ]
          refine drawn_take 5 rfl (by kernel_rfl) (by kernel_rfl) (by kernel_rfl) (fun _ _ _ h => h) (by rfl) (by assumption) (v := ?_) ?_ ?_
          rotate_left
          · (intro wy hSw; go_simp; try with_reducible rfl)
          simp only [Act.put, List.setIfInBounds_toArray, List.set_cons_zero, List.set_cons_succ]
          refine drawn_take 6 rfl (by kernel_rfl) (by kernel_rfl) (by kernel_rfl) (fun _ _ _ h => h) (by rfl) (by assumption) (v := ?_) ?_ ?_
          rotate_left
          · (intro wy hSw; go_simp; try with_reducible rfl)
          simp only [Act.put, List.setIfInBounds_toArray, List.set_cons_zero, List.set_cons_succ]
          refine drawn_take 7 rfl (by kernel_rfl) (by kernel_rfl) (by kernel_rfl) (fun _ _ _ h => h) (by rfl) (by assumption) (v := ?_) ?_ ?_
          rotate_left
          · (intro wy hSw; go_simp; try with_reducible rfl)
          simp only [Act.put, List.setIfInBounds_toArray, List.set_cons_zero, List.set_cons_succ]
          refine drawn_take 8 rfl (by kernel_rfl) (by kernel_rfl) (by kernel_rfl) (fun _ _ _ h => h) (by rfl) (by assumption) (v := ?_) ?_ ?_
          rotate_left
          · (intro wy hSw; go_simp; try with_reducible rfl)
          simp only [Act.put, List.setIfInBounds_toArray, List.set_cons_zero, List.set_cons_succ]
          refine drawn_sole 9 rfl (by kernel_rfl) (fun K hK => ?_)
          go_simp
          refine hK.out _ _ (HEC.out _ ((Below.drew HBW3.out).alloc (Below.drew HBW3.out).size _)) (fun hHeld2 => ?_)
          clear hK K hHeld
          have hHeld := hHeld2
          clear hHeld2
          refine drawn_sole 10 rfl (by kernel_rfl) (fun K hK => ?_)
          go_simp
          have hc := st1_push ((HO3.out.on (Below.drew (Below.refl _ _))).on ((Below.refl _ _).alloc (Nat.le_refl _) _)) HSM.out (by omega) [t, t] _ 2 (lit_sl w3.drew [t, t] #[.int .u8 ti, .int .u8 ti] (by rw [← HTI.out]; rfl) 2 rfl (by simp)).hasA (by simp)
          refine hc.mono ?_
          rintro e w4 ⟨rfl, ho⟩
          have HO4 := Lib.hid ho
          clear ho hc
          go_wp2_with fail
          refine hK.out _ _ (HEC.out _ (HB0.out.trans (HO4.out.below.mono HB0.out.size))) (fun hHeld2 => ?_)
          clear hK K hHeld hHeld2
          refine wpAnyH_done (by kernel_rfl) ?_ _
          go_upto_region 28 with (go_at_call 18; (have hc := st1_close HO4.out HSM2.out (by omega)); rw [HCC.out.1] at hc; refine hc.mono ?_; rintro e w5 ⟨⟨A2, c2, he, _, _, _, hh⟩, ho⟩; obtain ⟨b2, rfl, _, hcl⟩ := hh 0 t rfl; have he2 : e = .returned (.tuple #[.slice (some b2) 2 c2, .bool true]) := he; subst he2; rw [HTI.out] at hcl; have HCL5 := Lib.hid hcl; have HO5 := Lib.hid ho; have HBW5 : Hid (Below w.heap.size w w5) := Lib.hid (HB0.out.trans (ho.below.mono HB0.out.size)); clear he hh ho hc hcl)
          refine wp_region_held_drew (S := fun W' => W'.cell? (ae.add p) = some (.int .u8 ti)) (by kernel_rfl) ((HEC.out _ (Below.drew HBW5.out))) (fun hHeld => ?_)
          refine drawn_take 0 rfl (by kernel_rfl) (by kernel_rfl) (by kernel_rfl) (fun _ _ _ h => h) (by rfl) (by assumption) (v := ?_) ?_ ?_
          rotate_left
          · (intro wy hSw; go_simp; try with_reducible rfl)
          simp only [Act.put, List.setIfInBounds_toArray, List.set_cons_zero, List.set_cons_succ]
          refine drawn_take 1 rfl (by kernel_rfl) (by kernel_rfl) (by kernel_rfl) (fun _ _ _ h => h) (by rfl) (by assumption) (v := ?_) ?_ ?_
          rotate_left
          · (intro wy hSw; go_simp; try with_reducible rfl)
          simp only [Act.put, List.setIfInBounds_toArray, List.set_cons_zero, List.set_cons_succ]
          refine drawn_take 2 rfl (by kernel_rfl) (by kernel_rfl) (by kernel_rfl) (fun _ _ _ h => h) (by rfl) (by assumption) (v := ?_) ?_ ?_
          rotate_left
          · (intro wy hSw; go_simp; try with_reducible rfl)
          simp only [Act.put, List.setIfInBounds_toArray, List.set_cons_zero, List.set_cons_succ]
          refine drawn_take 3 rfl (by kernel_rfl) (by kernel_rfl) (by kernel_rfl) (fun _ _ _ h => h) (by rfl) (by assumption) (v := ?_) ?_ ?_
          rotate_left
          · (intro wy hSw; go_simp; try with_reducible rfl)
          simp only [Act.put, List.setIfInBounds_toArray, List.set_cons_zero, List.set_cons_succ]
          refine drawn_take 4 rfl (by kernel_rfl) (by kernel_rfl) (by kernel_rfl) (fun _ _ _ h => h) (by rfl) (by assumption) (v := ?_) ?_ ?_
          rotate_left
          · (intro wy hSw; go_simp; try with_reducible rfl)
          simp only [Act.put, List.setIfInBounds_toArray, List.set_cons_zero, List.set_cons_succ]
          refine drawn_take 5 rfl (by kernel_rfl) (by kernel_rfl) (by kernel_rfl) (fun _ _ _ h => h) (by rfl) (by assumption) (v := ?_) ?_ ?_
          rotate_left
          · (intro wy hSw; go_simp; try with_reducible rfl)
          simp only [Act.put, List.setIfInBounds_toArray, List.set_cons_zero, List.set_cons_succ]
          refine drawn_take 6 rfl (by kernel_rfl) (by kernel_rfl) (by kernel_rfl) (fun _ _ _ h => h) (by rfl) (by assumption) (v := ?_) ?_ ?_
          rotate_left
          · (intro wy hSw; go_simp; try with_reducible rfl)
          simp only [Act.put, List.setIfInBounds_toArray, List.set_cons_zero, List.set_cons_succ]
          refine drawn_take 7 rfl (by kernel_rfl) (by kernel_rfl) (by kernel_rfl) (fun _ _ _ h => h) (by rfl) (by assumption) (v := ?_) ?_ ?_
          rotate_left
          · (intro wy hSw; go_simp; try with_reducible rfl)
          simp only [Act.put, List.setIfInBounds_toArray, List.set_cons_zero, List.set_cons_succ]
          refine drawn_take 8 rfl (by kernel_rfl) (by kernel_rfl) (by kernel_rfl) (fun _ _ _ h => h) (by rfl) (by assumption) (v := ?_) ?_ ?_
          rotate_left
          · (intro wy hSw; go_simp; try with_reducible rfl)
          simp only [Act.put, List.setIfInBounds_toArray, List.set_cons_zero, List.set_cons_succ]
          refine drawn_take 9 rfl (by kernel_rfl) (by kernel_rfl) (by kernel_rfl) (fun _ _ _ h => h) (by rfl) (by assumption) (v := ?_) ?_ ?_
          rotate_left
          · (intro wy hSw; go_simp; try with_reducible rfl)
          simp only [Act.put, List.setIfInBounds_toArray, List.set_cons_zero, List.set_cons_succ]
          refine drawn_take 11 rfl (by kernel_rfl) (by kernel_rfl) (by kernel_rfl) (fun _ _ _ h => h) (by rfl) (by assumption) (v := ?_) ?_ ?_
          rotate_left
          · (intro wy hSw; go_simp; try with_reducible rfl)
          simp only [Act.put, List.setIfInBounds_toArray, List.set_cons_zero, List.set_cons_succ]
          refine drawn_take 12 rfl (by kernel_rfl) (by kernel_rfl) (by kernel_rfl) (fun _ _ _ h => h) (by rfl) (by assumption) (v := ?_) ?_ ?_
          rotate_left
          · (intro wy hSw; go_simp; try with_reducible rfl)
          simp only [Act.put, List.setIfInBounds_toArray, List.set_cons_zero, List.set_cons_succ]
          refine drawn_take 13 rfl (by kernel_rfl) (by kernel_rfl) (by kernel_rfl) (fun _ _ _ h => h) (by rfl) (by assumption) (v := ?_) ?_ ?_
          rotate_left
          · (intro wy hSw; go_simp; try with_reducible rfl)
          simp only [Act.put, List.setIfInBounds_toArray, List.set_cons_zero, List.set_cons_succ]
          refine drawn_take 14 rfl (by kernel_rfl) (by kernel_rfl) (by kernel_rfl) (fun _ _ _ h => h) (by rfl) (by assumption) (v := ?_) ?_ ?_
          rotate_left
          · (intro wy hSw; go_simp; try with_reducible rfl)
          simp only [Act.put, List.setIfInBounds_toArray, List.set_cons_zero, List.set_cons_succ]
          refine drawn_sole 10 rfl (by kernel_rfl) (fun K hK => ?_)
          have hl : w5.drew.cell? b2 = some (.int .u8 ti) := by
            have h := HCL5.out
            rw [show b2.add 0 = b2 by simp [Addr.add]] at h
            exact h
          go_simp
          clear hl
          refine hK.out _ _ hHeld (fun hHeld2 => ?_)
          clear hK K hHeld
          have hHeld := hHeld2
          clear hHeld2
          refine drawn_take 15 rfl (by kernel_rfl) (by kernel_rfl) (by kernel_rfl) (fun _ _ _ h => h) (by rfl) (by assumption) (v := ?_) ?_ ?_
          rotate_left
          · (intro wy hSw; go_simp; try with_reducible rfl)
          simp only [Act.put, List.setIfInBounds_toArray, List.set_cons_zero, List.set_cons_succ]
          refine drawn_take 16 rfl (by kernel_rfl) (by kernel_rfl) (by kernel_rfl) (fun _ _ _ h => h) (by rfl) (by assumption) (v := ?_) ?_ ?_
          rotate_left
          · (intro wy hSw; go_simp; try with_reducible rfl)
          simp only [Act.put, List.setIfInBounds_toArray, List.set_cons_zero, List.set_cons_succ]
          refine drawn_take 17 rfl (by kernel_rfl) (by kernel_rfl) (by kernel_rfl) (fun _ _ _ h => h) (by rfl) (by assumption) (v := ?_) ?_ ?_
          rotate_left
          · (intro wy hSw; go_simp; try with_reducible rfl)
          simp only [Act.put, List.setIfInBounds_toArray, List.set_cons_zero, List.set_cons_succ]
          refine drawn_take 18 rfl (by kernel_rfl) (by kernel_rfl) (by kernel_rfl) (fun _ _ _ h => h) (by rfl) (by assumption) (v := ?_) ?_ ?_
          rotate_left
          · (intro wy hSw; go_simp; try with_reducible rfl)
          simp only [Act.put, List.setIfInBounds_toArray, List.set_cons_zero, List.set_cons_succ]
          refine drawn_take 19 rfl (by kernel_rfl) (by kernel_rfl) (by kernel_rfl) (fun _ _ _ h => h) (by rfl) (by assumption) (v := ?_) ?_ ?_
          rotate_left
          · (intro wy hSw; go_simp; try with_reducible rfl)
          simp only [Act.put, List.setIfInBounds_toArray, List.set_cons_zero, List.set_cons_succ]
          refine drawn_sole 20 rfl (by kernel_rfl) (fun K hK => ?_)
          go_simp
          refine hK.out _ _ (HEC.out _ ((Below.drew HBW5.out).alloc (Below.drew HBW5.out).size _)) (fun hHeld2 => ?_)
          clear hK K hHeld
          have hHeld := hHeld2
          clear hHeld2
          refine drawn_sole 21 rfl (by kernel_rfl) (fun K hK => ?_)
          go_simp
          have hc := st1_want ((HO5.out.on (Below.drew (Below.refl _ _))).on ((Below.refl _ _).alloc (Nat.le_refl _) _)) HSM3.out (by omega) [a] _ 1 (lit_sl w5.drew [a] #[.int .u8 ai] (by rw [← HAI.out]; rfl) 1 rfl (by simp)).hasA (by simp)
          rw [HCC.out.2.1, HCC.out.2.2] at hc
          refine hc.mono ?_
          rintro e w6 ⟨rfl, ho⟩
          have HO6 := Lib.hid ho
          clear ho hc
          go_wp2_with fail
          refine hK.out _ _ (HEC.out _ (HB0.out.trans (HO6.out.below.mono HB0.out.size))) (fun hHeld2 => ?_)
          clear hK K hHeld
          have hHeld := hHeld2
          clear hHeld2
          refine drawn_take 22 rfl (by kernel_rfl) (by kernel_rfl) (by kernel_rfl) (fun _ _ _ h => h) (by rfl) (by assumption) (v := ?_) ?_ ?_
          rotate_left
          · (intro wy hSw; go_simp; try with_reducible rfl)
          simp only [Act.put, List.setIfInBounds_toArray, List.set_cons_zero, List.set_cons_succ]
          refine drawn_take 23 rfl (by kernel_rfl) (by kernel_rfl) (by kernel_rfl) (fun _ _ _ h => h) (by rfl) (by assumption) (v := ?_) ?_ ?_
          rotate_left
          · (intro wy hSw; go_simp; try with_reducible rfl)
          simp only [Act.put, List.setIfInBounds_toArray, List.set_cons_zero, List.set_cons_succ]
          refine wpAnyH_done (by kernel_rfl) ?_ _
          clear hHeld
          go_wp2_with fail
          go_roundw
          case rel => exact ⟨p, max m (p + 3), (p : Int) - 1, by omega, by go_num, Lib.hid (by omega), Lib.hid (by have := HM.out; omega), HO6⟩
          case measure => simp [intOf]
        · obtain rfl : j = 0 := by omega
          obtain rfl : z = -1 := by have := HZ.out; omega
          have HS2 : Hid (One w0 wr P (Ty.frT [] a m)) := HS
          have HSM : Hid ((Ty.frT [] a m).sm 103) := Lib.hid (Ty.frT_sm _ a m 100 (by simp) (by have := HM.out; omega))
          clear HS hj0 hj
          go_wp2_with (first
            | (go_at_call 22; (have hc := st1_label HS2.out HSM.out (by omega) 0 (by omega)); rw [Ty.frT_end, show ((0 : Nat) : Int) = 0 from rfl] at hc; refine hc.mono ?_; rintro e w2 ⟨⟨A1, c1, he, _, _, _, hh⟩, ho⟩; obtain ⟨b1, rfl, _, hcl⟩ := hh 0 126 rfl; have he2 : e = .returned (.tuple #[.slice (some b1) 1 c1, .bool true]) := he; subst he2; have hcl2 : w2.cell? b1 = some (.int .u8 126) := (by rw [show b1.add 0 = b1 by simp [Addr.add]] at hcl; exact hcl); have HO2 := Lib.hid ho; have HBW2 := Lib.hid (HB0.out.trans (ho.below.mono HB0.out.size)); clear he hh ho hc)
            | (go_at_call 24; (have hh := st1_frames HO2.out); rw [show (Ty.frT [] a m).frs.length = 1 from rfl] at hh; refine hh.mono ?_; rintro e wz ⟨hw, rfl⟩; obtain rfl : w2 = wz := hw.symm; clear hh)
            | (go_at_call 25; (have hh := st1_height HO2.out); rw [show (Ty.frT [] a m).ops.length = 0 from rfl] at hh; refine hh.mono ?_; rintro e wz ⟨hw, rfl⟩; obtain rfl : w2 = wz := hw.symm; clear hh))
          go_ret
          exact ⟨by simp, HBW2.out⟩
set_option maxRecDepth 100000 in
set_option maxHeartbeats 4000000 in
theorem tframes_nil (hk : KnownOk) (a : UInt8) (A : Option Addr) (c : Nat) (w : World) :
    Calls Try.prog 5 #[.slice A 0 c, .int .u8 (a.toNat : Int)] w fun e w' => e = .returned (.bool true) ∧ Below w.heap.size w w' := by
  have HKN := Lib.hid hk
  clear hk
  obtain ⟨ai, hai⟩ : ∃ z, (a.toNat : Int) = z := ⟨_, rfl⟩
  rw [hai]
  clear hai
  go_enter Try.func5, Try.ntmps5
  go_upto_region 5 with (go_at_call 6; refine (HKN.out _).mono ?_; rintro e w1 ⟨rfl, hb⟩; have HB1 := Lib.hid hb; clear hb)
  go_upto_region 6 with (go_at_call 8; (have hc := st1_new [126] _ (w1.alloc (.cells #[.int .u8 126] 5)) (lit_sl w1 [126] #[.int .u8 126] rfl 1 rfl (by decide)) (by decide)); refine hc.mono ?_; rintro e wr ⟨P, rfl, ho⟩; rw [Ty.frT_nil a] at ho; have HO2 := Lib.hid ho; clear ho hc)
  obtain ⟨w0, hw0⟩ : ∃ W, w1.alloc (.cells #[.int .u8 126] 5) = W := ⟨_, rfl⟩
  rw [hw0] at HO2
  have HB0 : Hid (Below w.heap.size w w0) := Lib.hid (by rw [← hw0]; exact HB1.out.alloc HB1.out.size _)
  clear hw0
  have HSM : Hid ((Ty.frT [] a 0).sm 103) := Lib.hid (Ty.frT_sm _ a 0 100 (by simp) (by omega))
  go_upto_region 7 with fail
  go_loopw [28] (fun i wx => i = .int .i64 0 ∧ wx = wr) (fun _ _ => 0)
  case atStart => exact ⟨rfl, rfl⟩
  case round =>
    obtain ⟨rfl, hwx⟩ := hrel
    subst hwx
    rename_i wr
    go_upto_region 17 with (first
      | (go_at_call 24; (have hh := st1_frames HO2.out); rw [show (Ty.frT [] a 0).frs.length = 1 from rfl] at hh; refine hh.mono ?_; rintro e wz ⟨hw, rfl⟩; obtain rfl := hw.symm; clear hh)
      | (go_at_call 25; (have hh := st1_height HO2.out); rw [show (Ty.frT [] a 0).ops.length = 0 from rfl] at hh; refine hh.mono ?_; rintro e wz ⟨hw, rfl⟩; obtain rfl := hw.symm; clear hh))
    go_wp2_with fail
    go_loopw [10] (fun i wx => i = .int .i64 (-1) ∧ wx = wr) (fun _ _ => 0)
    case atStart => exact ⟨rfl, rfl⟩
    case round =>
      obtain ⟨rfl, hwx⟩ := hrel
      subst hwx
      rename_i wr
      go_wp2_with (first
        | (go_at_call 22; (have hc := st1_label HO2.out HSM.out (by omega) 0 (by omega)); rw [Ty.frT_end, show ((0 : Nat) : Int) = 0 from rfl] at hc; refine hc.mono ?_; rintro e w2 ⟨⟨A1, c1, he, _, _, _, hh⟩, ho⟩; obtain ⟨b1, rfl, _, hcl⟩ := hh 0 126 rfl; have he2 : e = .returned (.tuple #[.slice (some b1) 1 c1, .bool true]) := he; subst he2; have hcl2 : w2.cell? b1 = some (.int .u8 126) := (by rw [show b1.add 0 = b1 by simp [Addr.add]] at hcl; exact hcl); have HO3 := Lib.hid ho; have HBW2 := Lib.hid (HB0.out.trans (ho.below.mono HB0.out.size)); clear he hh ho hc)
        | (go_at_call 24; (have hh := st1_frames HO3.out); rw [show (Ty.frT [] a 0).frs.length = 1 from rfl] at hh; refine hh.mono ?_; rintro e wz ⟨hw, rfl⟩; obtain rfl := hw.symm; clear hh)
        | (go_at_call 25; (have hh := st1_height HO3.out); rw [show (Ty.frT [] a 0).ops.length = 0 from rfl] at hh; refine hh.mono ?_; rintro e wz ⟨hw, rfl⟩; obtain rfl := hw.symm; clear hh))
      go_ret
      exact ⟨by simp, HBW2.out⟩
set_option maxRecDepth 100000 in
set_option maxHeartbeats 4000000 in
theorem typingFrames_any (hk : KnownOk) (ends : List UInt8) (a : UInt8) (A : Option Addr) (c : Nat) (w : World) (h1 : SliceV w (· < w.heap.size) ends (.slice A ends.length c)) :
    Calls Try.prog 5 #[.slice A ends.length c, .int .u8 (a.toNat : Int)] w fun e w' => e = .returned (.bool true) ∧ Below w.heap.size w w' := by
  by_cases hl : ends.length ≤ 100
  · by_cases h0 : ends.length = 0
    · obtain rfl := List.eq_nil_of_length_eq_zero h0
      exact tframes_nil hk a A c w
    · obtain ⟨ae, rfl⟩ := h1.hasA.someAddr (by omega)
      exact tframes_some hk ends a ae c w h1.hasA hl
  · have HKN := Lib.hid hk
    generalize ends.length = k at *
    have g2 : (100 : Int) < (k : Int) := by omega
    have g4 : 100 < k := by omega
    clear h1 hk hl
    go_enter Try.func5, Try.ntmps5
    go_wp2_with (go_at_call 6; refine (HKN.out _).mono ?_; rintro e w1 ⟨rfl, hb⟩; have HB1 := Lib.hid hb; clear hb)
    go_ret
    exact ⟨rfl, HB1.out⟩
end Go.Proofs.Ythkglmkpnhhboaa
