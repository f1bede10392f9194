/-
  Layer 10's program: br_table. (gen/body/meth8.py)
-/
import Derived.Test.YtakbehoglgebmaaQ24
namespace Bo
theorem all_take1 {α : Type} {l : List α} {j : Nat} {x : α} (h : l[j]? = some x) (p : α → Bool) : (l.take (j + 1)).all p = ((l.take j).all p && p x) := by
  rw [List.take_add_one, h, List.all_append]
  simp
end Bo
namespace Go.Proofs.Ytakbehoglgebmaa
open Go.RowKit Ins Bin Sp
theorem u8_at {w : World} {S : Nat → Prop} {A : Option Addr} {xs : List UInt8} {k : Nat} {x : UInt8} (h : HasL w S A xs) (hx : xs[k]? = some x) : ∃ g o, A = some ⟨g, o, none⟩ ∧ g < w.heap.size ∧ w.cell? ⟨g, o + k, none⟩ = some (.int .u8 (x.toNat : Int)) := by
  obtain ⟨g, o, cs, h1, _, h3, h4, h6⟩ := h k x hx
  have h4' : cs = [.int .u8 (x.toNat : Int)] := h4
  subst h4'
  have e := h6 0 _ rfl
  rw [show Lay.size UInt8 = 1 from rfl, Nat.mul_one, Nat.add_zero] at e
  exact ⟨g, o, h1, h3, e⟩
set_option maxRecDepth 100000 in
set_option maxHeartbeats 4000000 in
theorem sequal_any (xs ys : List UInt8) (u v : Value) (w : World) (hu : SliceV w (· < w.heap.size) xs u) (hv : SliceV w (· < w.heap.size) ys v) (hl : xs.length ≤ 1000000) (hl2 : ys.length ≤ 1000000) :
    Calls Try.prog 72 #[u, v] w fun e w' => e = .returned (.bool (decide (xs = ys))) ∧ Below w.heap.size w w' := by
  obtain ⟨A1, c1, rfl, _, _, _, hL1⟩ := hu
  obtain ⟨A2, c2, rfl, _, _, _, hL2⟩ := hv
  have HL1 := Lib.hid hL1
  have HL2 := Lib.hid hL2
  obtain ⟨n1, hn1⟩ : ∃ n, xs.length = n := ⟨_, rfl⟩
  obtain ⟨n2, hn2⟩ : ∃ n, ys.length = n := ⟨_, rfl⟩
  rw [hn1] at hl ⊢
  rw [hn2] at hl2 ⊢
  have HN1 := Lib.hid hn1
  have HN2 := Lib.hid hn2
  clear hL1 hL2 hn1 hn2
  by_cases hq : n1 = n2
  · subst hq
    have hqe : ((n1 : Int) == (n1 : Int)) = true := by simp
    have hqn : ((n1 : Int) != (n1 : Int)) = false := by simp
    go_enter Try.func72, Try.ntmps72
    go_upto_region 4 with fail
    go_loopw [13] (fun i wr => ∃ j : Nat, j ≤ n1 ∧ i = .int .i64 (j : Int) ∧ Hid (xs.take j = ys.take j) ∧ Hid (Below w.heap.size w wr)) (fun i _ => n1 - (intOf i).toNat)
    case atStart => exact ⟨0, Nat.zero_le _, rfl, Lib.hid rfl, Lib.hid (Below.refl _ _)⟩
    case round =>
      obtain ⟨j, hj, rfl, HE, HB⟩ := hrel
      by_cases hlt : j < n1
      · have hlti : (j : Int) < (n1 : Int) := by omega
        obtain ⟨x, hx⟩ : ∃ x, xs[j]? = some x := ⟨_, List.getElem?_eq_getElem (by rw [HN1.out]; exact hlt)⟩
        obtain ⟨y, hy⟩ : ∃ y, ys[j]? = some y := ⟨_, List.getElem?_eq_getElem (by rw [HN2.out]; exact hlt)⟩
        obtain ⟨g, o, rfl, hg, hc⟩ := u8_at HL1.out hx
        obtain ⟨g2, o2, rfl, hg2, hc2⟩ := u8_at HL2.out hy
        have z0 := (HB.out.cell (p := ⟨g, o + j, none⟩) hg).trans hc
        have z1 := (HB.out.cell (p := ⟨g2, o2 + j, none⟩) hg2).trans hc2
        have HX := Lib.hid hx
        have HY := Lib.hid hy
        have hxk := x.toNat_lt
        have hyk := y.toNat_lt
        clear hx hy hc hc2 hg hg2
        by_cases hxy : x = y
        · subst hxy
          have HT : Hid (xs.take (j + 1) = ys.take (j + 1)) := Lib.hid (by rw [List.take_add_one, List.take_add_one, HX.out, HY.out, HE.out])
          have e1 : ((x.toNat : Int) != (x.toNat : Int)) = false := by simp
          go_upto_region 6 with fail
          go_quiet (fail)
          go_wp2_with fail
          go_roundw
          case rel => exact ⟨j + 1, by omega, by go_num, HT, Lib.hid (Below.dn HB.out _)⟩
          case measure => simp [intOf]; omega
        · have hne : ¬ x.toNat = y.toNat := fun e => hxy (UInt8.toNat_inj.1 e)
          have e1 : ((x.toNat : Int) != (y.toNat : Int)) = true := by rw [bne_iff_ne]; omega
          have HF : Hid (decide (xs = ys) = false) := Lib.hid (decide_eq_false (fun e => hxy (by
            have h1 := HX.out
            rw [e, HY.out] at h1
            exact (Option.some.inj h1).symm)))
          clear hxy hne
          go_upto_region 6 with fail
          go_quiet (fail)
          go_wp2_with fail
          go_ret
          exact ⟨by rw [HF.out]; rfl, Below.dn HB.out _⟩
      · have hlti : decide ((j : Int) < (n1 : Int)) = false := decide_eq_false (by omega)
        have HF : Hid (decide (xs = ys) = true) := Lib.hid (decide_eq_true (by
          have h1 := HE.out
          rw [List.take_of_length_le (by rw [HN1.out]; omega), List.take_of_length_le (by rw [HN2.out]; omega)] at h1
          exact h1))
        go_wp2_with fail
        go_ret
        exact ⟨by rw [HF.out]; rfl, HB.out⟩
  · have hqe : ((n1 : Int) == (n2 : Int)) = false := by rw [beq_eq_false_iff_ne]; omega
    have hqn : ((n1 : Int) != (n2 : Int)) = true := by rw [bne_iff_ne]; omega
    have HF : Hid (decide (xs = ys) = false) := Lib.hid (decide_eq_false (fun e => hq (by rw [← HN1.out, ← HN2.out, e])))
    clear hq
    go_enter Try.func72, Try.ntmps72
    go_wp2_with fail
    go_ret
    exact ⟨by rw [HF.out]; rfl, Below.refl _ _⟩
set_option maxRecDepth 100000 in
set_option maxHeartbeats 4000000 in
theorem bbrTable_any {C : Ctx} {R P n : Nat} {w : World} {G : Nat → Prop} {s : Ty.T} {o : List Bool} (h : Wk C R P w G s o) (hs : s.sm n) (hn : n ≤ 400000000) (op a b : Nat) (c : Int) (A4 : Option Addr) (l4 c4 : Nat) (ha : a < 4294967296) (l : List Nat) (hl4 : l4 = l.length) (hlw : ∀ n ∈ l, n < 4294967296) (hU : HasU C.w0 (· < C.w0.heap.size) A4 l) (hlab : ∀ k l, s.labelA k = some l → l.length ≤ 1000000) (hl5 : l4 ≤ 1000000000) :
    Calls Try.prog 42 #[.pointer (some ⟨R, 0, none⟩), .agg #[.int .u8 (op : Int), .int .u32 (a : Int), .int .u32 (b : Int), .int .i64 c, .slice A4 l4 c4]] w (WPost C R P G o w (Bo.brTable a l s)) := by
  have HX0 := Lib.hid (heap_alloc_new w (.cells #[.int .u8 (op : Int), .int .u32 (a : Int), .int .u32 (b : Int), .int .i64 c, .slice A4 l4 c4] 49))
  have HB0 : Hid (Below w.heap.size w (w.alloc (.cells #[.int .u8 (op : Int), .int .u32 (a : Int), .int .u32 (b : Int), .int .i64 c, .slice A4 l4 c4] 49))) := Lib.hid ((Below.refl _ _).alloc (Nat.le_refl _) _)
  have H0 := Lib.hid (h.on HB0.out)
  have HN0 : Hid (Nxt G w G (w.alloc (.cells #[.int .u8 (op : Int), .int .u32 (a : Int), .int .u32 (b : Int), .int .i64 c, .slice A4 l4 c4] 49))) := Lib.hid (Nxt.of_below HB0.out)
  have HGX : Hid (¬ G w.heap.size ∧ w.heap.size < (w.alloc (.cells #[.int .u8 (op : Int), .int .u32 (a : Int), .int .u32 (b : Int), .int .i64 c, .slice A4 l4 c4] 49)).heap.size) := Lib.hid ⟨fun hg => Nat.lt_irrefl _ (h.out _ hg).2, by simp⟩
  have HU := Lib.hid hU
  have HN4 := Lib.hid hl4
  have HLW := Lib.hid hlw
  clear h hU hl4 hlw
  go_enter Try.func42, Try.ntmps42
  go_upto_region 1 with fail
  generalize (w.alloc (.cells #[.int .u8 (op : Int), .int .u32 (a : Int), .int .u32 (b : Int), .int .i64 c, .slice A4 l4 c4] 49)) = w0 at HX0 HB0 H0 HN0 HGX ⊢
  obtain ⟨X, hX⟩ : ∃ X, w.heap.size = X := ⟨_, rfl⟩
  rw [hX] at HX0 HGX
  simp only [hX]
  clear hX HB0
  obtain ⟨z0, z1, z2, z3, z4⟩ := cells5 HX0.out
  obtain ⟨q0, q1, q2, q3, q4, q5⟩ := H0.out.cells
  have HCC := Lib.hid (fun W (hb : Below w0.heap.size w0 W) => And.intro (cells5 ((hb.block X HGX.out.2).trans HX0.out)) (H0.out.on hb).cells)
  clear z0 z1 z2 z3 z4 q0 q1 q2 q3 q4 q5
  have HLB := Lib.hid (fun W (hb : Below w0.heap.size w0 W) => wk_label (H0.out.on hb) hs (by omega) a ha)
  cases hl : s.labelA a with
  | none =>
    rw [hl] at HLB
    have HLAB := Lib.hid hl
    clear hl ha
    have HLL : Hid (([] : List UInt8).length ≤ 1000000) := Lib.hid (by simp)
    go_upto_region 1 with fail
    refine wp_region_held_drew (S := fun W' => Below w0.heap.size w0 W') (by kernel_rfl) (Below.drew (Below.refl _ _)) (fun hHeld => ?_)
    refine drawn_take 0 rfl (by kernel_rfl) (by kernel_rfl) (by kernel_rfl) (fun _ _ _ h => h) (by rfl) (by assumption) (v := ?_) ?_ ?_
    rotate_left
    · (intro wy hSw; obtain ⟨⟨z0, z1, z2, z3, z4⟩, q0, q1, q2, q3, q4, q5⟩ := HCC.out wy hSw; go_simp; try with_reducible rfl)
    simp only [Act.put, List.setIfInBounds_toArray, List.set_cons_zero, List.set_cons_succ]
    refine drawn_take 1 rfl (by kernel_rfl) (by kernel_rfl) (by kernel_rfl) (fun _ _ _ h => h) (by rfl) (by assumption) (v := ?_) ?_ ?_
    rotate_left
    · (intro wy hSw; obtain ⟨⟨z0, z1, z2, z3, z4⟩, q0, q1, q2, q3, q4, q5⟩ := HCC.out wy hSw; go_simp; try with_reducible rfl)
    simp only [Act.put, List.setIfInBounds_toArray, List.set_cons_zero, List.set_cons_succ]
    refine drawn_take 2 rfl (by kernel_rfl) (by kernel_rfl) (by kernel_rfl) (fun _ _ _ h => h) (by rfl) (by assumption) (v := ?_) ?_ ?_
    rotate_left
    · (intro wy hSw; obtain ⟨⟨z0, z1, z2, z3, z4⟩, q0, q1, q2, q3, q4, q5⟩ := HCC.out wy hSw; go_simp; try with_reducible rfl)
    simp only [Act.put, List.setIfInBounds_toArray, List.set_cons_zero, List.set_cons_succ]
    refine drawn_take 3 rfl (by kernel_rfl) (by kernel_rfl) (by kernel_rfl) (fun _ _ _ h => h) (by rfl) (by assumption) (v := ?_) ?_ ?_
    rotate_left
    · (intro wy hSw; obtain ⟨⟨z0, z1, z2, z3, z4⟩, q0, q1, q2, q3, q4, q5⟩ := HCC.out wy hSw; go_simp; try with_reducible rfl)
    simp only [Act.put, List.setIfInBounds_toArray, List.set_cons_zero, List.set_cons_succ]
    refine drawn_take 4 rfl (by kernel_rfl) (by kernel_rfl) (by kernel_rfl) (fun _ _ _ h => h) (by rfl) (by assumption) (v := ?_) ?_ ?_
    rotate_left
    · (intro wy hSw; obtain ⟨⟨z0, z1, z2, z3, z4⟩, q0, q1, q2, q3, q4, q5⟩ := HCC.out wy hSw; go_simp; try with_reducible rfl)
    simp only [Act.put, List.setIfInBounds_toArray, List.set_cons_zero, List.set_cons_succ]
    refine drawn_take 5 rfl (by kernel_rfl) (by kernel_rfl) (by kernel_rfl) (fun _ _ _ h => h) (by rfl) (by assumption) (v := ?_) ?_ ?_
    rotate_left
    · (intro wy hSw; obtain ⟨⟨z0, z1, z2, z3, z4⟩, q0, q1, q2, q3, q4, q5⟩ := HCC.out wy hSw; go_simp; try with_reducible rfl)
    simp only [Act.put, List.setIfInBounds_toArray, List.set_cons_zero, List.set_cons_succ]
    refine drawn_sole 6 rfl (by kernel_rfl) (fun K hK => ?_)
    try (rw [if_pos]; case hc => rfl)
    go_simp
    refine (HLB.out _ hHeld).mono ?_
    rintro e w1 ⟨he, hb⟩
    obtain rfl : e = .returned (.tuple #[.slice none 0 0, .bool false]) := he
    have hH : Below w0.heap.size w0 w1 := hHeld.trans (hb.mono hHeld.size)
    have HW1 := Lib.hid hH
    clear hb
    go_wp2_with fail
    refine hK.out _ _ (hH) (fun hHeld2 => ?_)
    clear hK K hHeld
    have hHeld := hHeld2
    clear hHeld2
    refine drawn_take 7 rfl (by kernel_rfl) (by kernel_rfl) (by kernel_rfl) (fun _ _ _ h => h) (by rfl) (by assumption) (v := ?_) ?_ ?_
    rotate_left
    · (intro wy hSw; (try dsimp only at hSw); go_simp; try with_reducible rfl)
    simp only [Act.put, List.setIfInBounds_toArray, List.set_cons_zero, List.set_cons_succ]
    refine drawn_take 8 rfl (by kernel_rfl) (by kernel_rfl) (by kernel_rfl) (fun _ _ _ h => h) (by rfl) (by assumption) (v := ?_) ?_ ?_
    rotate_left
    · (intro wy hSw; (try dsimp only at hSw); go_simp; try with_reducible rfl)
    simp only [Act.put, List.setIfInBounds_toArray, List.set_cons_zero, List.set_cons_succ]
    refine drawn_take 9 rfl (by kernel_rfl) (by kernel_rfl) (by kernel_rfl) (fun _ _ _ h => h) (by rfl) (by assumption) (v := ?_) ?_ ?_
    rotate_left
    · (intro wy hSw; (try dsimp only at hSw); go_simp; try with_reducible rfl)
    simp only [Act.put, List.setIfInBounds_toArray, List.set_cons_zero, List.set_cons_succ]
    refine drawn_take 10 rfl (by kernel_rfl) (by kernel_rfl) (by kernel_rfl) (fun _ _ _ h => h) (by rfl) (by assumption) (v := ?_) ?_ ?_
    rotate_left
    · (intro wy hSw; (try dsimp only at hSw); go_simp; try with_reducible rfl)
    simp only [Act.put, List.setIfInBounds_toArray, List.set_cons_zero, List.set_cons_succ]
    refine drawn_take 11 rfl (by kernel_rfl) (by kernel_rfl) (by kernel_rfl) (fun _ _ _ h => h) (by rfl) (by assumption) (v := ?_) ?_ ?_
    rotate_left
    · (intro wy hSw; (try dsimp only at hSw); go_simp; try with_reducible rfl)
    simp only [Act.put, List.setIfInBounds_toArray, List.set_cons_zero, List.set_cons_succ]
    refine wpAnyH_done (by kernel_rfl) ?_ _
    have H1 := Lib.hid (H0.out.on HW1.out)
    have HN01 := Lib.hid (HN0.out.trans (Nxt.of_below HW1.out))
    have HCD := Lib.hid (fun W (hb : Below w1.heap.size w1 W) => HCC.out W (HW1.out.trans (hb.mono HW1.out.size)))
    have HVL : Hid (∀ W, Below w1.heap.size w1 W → SliceV W (· < W.heap.size) ([] : List UInt8) (.slice none 0 0)) := Lib.hid (fun W _ => SliceV.nil _ _)
    obtain ⟨⟨x0, x1, x2, x3, x4⟩, y0, y1, y2, y3, y4, y5⟩ := HCD.out w1 (Below.refl _ _)
    go_wp2_with fail
    clear x0 x1 x2 x3 x4 y0 y1 y2 y3 y4 y5
    go_loopw [6, 7, 25] (fun okv samev iv wr => ∃ (j : Nat) (b1 b2 : Bool), j ≤ l4 ∧ iv = .int .i64 (j : Int) ∧ okv = .bool b1 ∧ samev = .bool b2 ∧ Hid (b1 = (false && (l.take j).all fun n => (s.labelA n).isSome)) ∧ Hid (b2 = ((l.take j).all fun n => decide ((s.labelA n).getD [] = ([] : List UInt8)))) ∧ Hid (Below w1.heap.size w1 wr)) (fun _ _ iv _ => l4 - (intOf iv).toNat)
    case atStart => exact ⟨0, false, true, by omega, rfl, rfl, rfl, Lib.hid rfl, Lib.hid rfl, Lib.hid (Below.refl _ _)⟩
    case round =>
      obtain ⟨j, b1, b2, hj, rfl, rfl, rfl, HQ1, HQ2, HBW⟩ := hrel
      obtain ⟨_, y0, y1, y2, y3, y4, y5⟩ := HCD.out _ HBW.out
      by_cases hjn : j < l4
      · obtain ⟨x, hx⟩ : ∃ x, l[j]? = some x := ⟨_, List.getElem?_eq_getElem (by have := HN4.out; omega)⟩
        have hxl := HLW.out x (List.mem_of_getElem? hx)
        obtain ⟨g, oo, rfl, hg, hc⟩ := HU.out j x hx
        have k0 : World.cell? _ ⟨g, oo + j, none⟩ = some (.int .u32 (x : Int)) := ((H1.out.on HBW.out).base.cell (p := ⟨g, oo + j, none⟩) hg).trans hc
        have hji : (j : Int) < (l4 : Int) := by omega
        have hlx := wk_label (H1.out.on HBW.out) hs (by omega) x hxl
        have he1 := Bo.all_take1 hx (fun n => (s.labelA n).isSome)
        have he2 := Bo.all_take1 hx (fun n => decide ((s.labelA n).getD [] = ([] : List UInt8)))
        clear hx hc hxl
        cases hl9 : s.labelA x with
        | none =>
          rw [hl9] at hlx he1 he2
          have HLX := Lib.hid hlx
          have HEQ := Lib.hid (fun W (hv : SliceV W (· < W.heap.size) ([] : List UInt8) (.slice none 0 0)) (hb : Below w1.heap.size w1 W) => sequal_any [] ([] : List UInt8) (.slice none 0 0) (.slice none 0 0) W hv (HVL.out W hb) (by simp) HLL.out)
          rw [Option.getD_none] at he2
          have hd : decide (([] : List UInt8) = ([] : List UInt8)) = true := by decide
          rw [hd] at HEQ he2
          have HE1 : Hid ((false && (l.take (j + 1)).all fun n => (s.labelA n).isSome) = (b1 && false)) := Lib.hid (by rw [he1, ← Bool.and_assoc, ← HQ1.out]; rfl)
          have HE2 : Hid (((l.take (j + 1)).all fun n => decide ((s.labelA n).getD [] = ([] : List UInt8))) = (b2 && true)) := Lib.hid (by rw [he2, ← HQ2.out])
          clear hlx he1 he2 hd hl9
          cases b1 with
          | false =>
            cases b2 with
            | false =>
              go_wp2_with (go_at_call 69; refine HLX.out.mono ?_; rintro e w2 ⟨he, hb⟩; obtain rfl : e = .returned (.tuple #[.slice none 0 0, .bool false]) := he; have HB2 := Lib.hid (HBW.out.trans (hb.mono HBW.out.size)); have HV2 : Hid (SliceV w2 (· < w2.heap.size) ([] : List UInt8) (.slice none 0 0)) := Lib.hid (SliceV.nil _ _); clear hb)
              go_roundw
              case rel => exact ⟨j + 1, false, false, by omega, by go_num, rfl, rfl, Lib.hid (show false = _ from HE1.out.symm), Lib.hid (show false = _ from HE2.out.symm), HB2⟩
              case measure => simp [intOf]; omega
            | true =>
              go_wp2_with (first | (go_at_call 69; refine HLX.out.mono ?_; rintro e w2 ⟨he, hb⟩; obtain rfl : e = .returned (.tuple #[.slice none 0 0, .bool false]) := he; have HB2 := Lib.hid (HBW.out.trans (hb.mono HBW.out.size)); have HV2 : Hid (SliceV w2 (· < w2.heap.size) ([] : List UInt8) (.slice none 0 0)) := Lib.hid (SliceV.nil _ _); clear hb) | (go_at_call 72; refine (HEQ.out _ HV2.out HB2.out).mono ?_; rintro e w3 ⟨rfl, hb⟩; have HB3 := Lib.hid (HB2.out.trans (hb.mono HB2.out.size)); clear hb))
              go_roundw
              case rel => exact ⟨j + 1, false, true, by omega, by go_num, rfl, rfl, Lib.hid (show false = _ from HE1.out.symm), Lib.hid (show true = _ from HE2.out.symm), HB3⟩
              case measure => simp [intOf]; omega
          | true =>
            cases b2 with
            | false =>
              go_wp2_with (go_at_call 69; refine HLX.out.mono ?_; rintro e w2 ⟨he, hb⟩; obtain rfl : e = .returned (.tuple #[.slice none 0 0, .bool false]) := he; have HB2 := Lib.hid (HBW.out.trans (hb.mono HBW.out.size)); have HV2 : Hid (SliceV w2 (· < w2.heap.size) ([] : List UInt8) (.slice none 0 0)) := Lib.hid (SliceV.nil _ _); clear hb)
              go_roundw
              case rel => exact ⟨j + 1, false, false, by omega, by go_num, rfl, rfl, Lib.hid (show false = _ from HE1.out.symm), Lib.hid (show false = _ from HE2.out.symm), HB2⟩
              case measure => simp [intOf]; omega
            | true =>
              go_wp2_with (first | (go_at_call 69; refine HLX.out.mono ?_; rintro e w2 ⟨he, hb⟩; obtain rfl : e = .returned (.tuple #[.slice none 0 0, .bool false]) := he; have HB2 := Lib.hid (HBW.out.trans (hb.mono HBW.out.size)); have HV2 : Hid (SliceV w2 (· < w2.heap.size) ([] : List UInt8) (.slice none 0 0)) := Lib.hid (SliceV.nil _ _); clear hb) | (go_at_call 72; refine (HEQ.out _ HV2.out HB2.out).mono ?_; rintro e w3 ⟨rfl, hb⟩; have HB3 := Lib.hid (HB2.out.trans (hb.mono HB2.out.size)); clear hb))
              go_roundw
              case rel => exact ⟨j + 1, false, true, by omega, by go_num, rfl, rfl, Lib.hid (show false = _ from HE1.out.symm), Lib.hid (show true = _ from HE2.out.symm), HB3⟩
              case measure => simp [intOf]; omega
        | some lx =>
          rw [hl9] at hlx he1 he2
          have hll := hlab x lx hl9
          have HLX := Lib.hid hlx
          have HEQ := Lib.hid (fun W A9 c9 (hv : SliceV W (· < W.heap.size) lx (.slice A9 lx.length c9)) (hb : Below w1.heap.size w1 W) => sequal_any lx ([] : List UInt8) (.slice A9 lx.length c9) (.slice none 0 0) W hv (HVL.out W hb) (by omega) HLL.out)
          rw [Option.getD_some] at he2
          obtain ⟨d, hd⟩ : ∃ d, decide (lx = ([] : List UInt8)) = d := ⟨_, rfl⟩
          simp only [hd] at HEQ he2
          have HE1 : Hid ((false && (l.take (j + 1)).all fun n => (s.labelA n).isSome) = (b1 && true)) := Lib.hid (by rw [he1, ← Bool.and_assoc, ← HQ1.out]; rfl)
          have HE2 : Hid (((l.take (j + 1)).all fun n => decide ((s.labelA n).getD [] = ([] : List UInt8))) = (b2 && d)) := Lib.hid (by rw [he2, ← HQ2.out])
          clear hlx he1 he2 hd hl9 hll
          cases b1 with
          | false =>
            cases b2 with
            | false =>
              go_wp2_with (go_at_call 69; refine HLX.out.mono ?_; rintro e w2 ⟨⟨A9, c9, rfl, hv⟩, hb⟩; have HB2 := Lib.hid (HBW.out.trans (hb.mono HBW.out.size)); have HV2 : Hid (SliceV w2 (· < w2.heap.size) lx (.slice A9 lx.length c9)) := Lib.hid (hv.more (fun k hk _ => hk)); clear hb hv)
              go_roundw
              case rel => exact ⟨j + 1, false, false, by omega, by go_num, rfl, rfl, Lib.hid (show false = _ from HE1.out.symm), Lib.hid (show false = _ from HE2.out.symm), HB2⟩
              case measure => simp [intOf]; omega
            | true =>
              go_wp2_with (first | (go_at_call 69; refine HLX.out.mono ?_; rintro e w2 ⟨⟨A9, c9, rfl, hv⟩, hb⟩; have HB2 := Lib.hid (HBW.out.trans (hb.mono HBW.out.size)); have HV2 : Hid (SliceV w2 (· < w2.heap.size) lx (.slice A9 lx.length c9)) := Lib.hid (hv.more (fun k hk _ => hk)); clear hb hv) | (go_at_call 72; refine (HEQ.out _ _ _ HV2.out HB2.out).mono ?_; rintro e w3 ⟨rfl, hb⟩; have HB3 := Lib.hid (HB2.out.trans (hb.mono HB2.out.size)); clear hb))
              go_roundw
              case rel => exact ⟨j + 1, false, d, by omega, by go_num, rfl, rfl, Lib.hid (show false = _ from HE1.out.symm), Lib.hid (show d = _ from HE2.out.symm), HB3⟩
              case measure => simp [intOf]; omega
          | true =>
            cases b2 with
            | false =>
              go_wp2_with (go_at_call 69; refine HLX.out.mono ?_; rintro e w2 ⟨⟨A9, c9, rfl, hv⟩, hb⟩; have HB2 := Lib.hid (HBW.out.trans (hb.mono HBW.out.size)); have HV2 : Hid (SliceV w2 (· < w2.heap.size) lx (.slice A9 lx.length c9)) := Lib.hid (hv.more (fun k hk _ => hk)); clear hb hv)
              go_roundw
              case rel => exact ⟨j + 1, true, false, by omega, by go_num, rfl, rfl, Lib.hid (show true = _ from HE1.out.symm), Lib.hid (show false = _ from HE2.out.symm), HB2⟩
              case measure => simp [intOf]; omega
            | true =>
              go_wp2_with (first | (go_at_call 69; refine HLX.out.mono ?_; rintro e w2 ⟨⟨A9, c9, rfl, hv⟩, hb⟩; have HB2 := Lib.hid (HBW.out.trans (hb.mono HBW.out.size)); have HV2 : Hid (SliceV w2 (· < w2.heap.size) lx (.slice A9 lx.length c9)) := Lib.hid (hv.more (fun k hk _ => hk)); clear hb hv) | (go_at_call 72; refine (HEQ.out _ _ _ HV2.out HB2.out).mono ?_; rintro e w3 ⟨rfl, hb⟩; have HB3 := Lib.hid (HB2.out.trans (hb.mono HB2.out.size)); clear hb))
              go_roundw
              case rel => exact ⟨j + 1, true, d, by omega, by go_num, rfl, rfl, Lib.hid (show true = _ from HE1.out.symm), Lib.hid (show d = _ from HE2.out.symm), HB3⟩
              case measure => simp [intOf]; omega
      · obtain rfl : j = l4 := by omega
        have hji : decide ((j : Int) < (j : Int)) = false := decide_eq_false (by omega)
        have hjn2 : decide (j < j) = false := decide_eq_false hjn
        have htk : l.take j = l := List.take_of_length_le (by have := HN4.out; omega)
        have HQ1 := Lib.hid (HQ1.out.trans (by rw [htk]))
        have HQ2 := Lib.hid (HQ2.out.trans (by rw [htk]))
        clear htk hjn
        have HTE : Hid (Bo.brTable a l s = .error 101) := Lib.hid (by unfold Bo.brTable; rw [HLAB.out])
        cases b1 with
        | true => exact absurd HQ1.out (by simp)
        | false =>
          go_wp2_with fail
          go_ret
          exact WPost.err HTE.out (H1.out.on HBW.out).base
  | some la =>
    rw [hl] at HLB
    have HLAB := Lib.hid hl
    have hll := hlab a la hl
    have HLL : Hid (la.length ≤ 1000000) := Lib.hid (by omega)
    clear hl ha hll
    go_upto_region 1 with fail
    refine wp_region_held_drew (S := fun W' => Below w0.heap.size w0 W') (by kernel_rfl) (Below.drew (Below.refl _ _)) (fun hHeld => ?_)
    refine drawn_take 0 rfl (by kernel_rfl) (by kernel_rfl) (by kernel_rfl) (fun _ _ _ h => h) (by rfl) (by assumption) (v := ?_) ?_ ?_
    rotate_left
    · (intro wy hSw; obtain ⟨⟨z0, z1, z2, z3, z4⟩, q0, q1, q2, q3, q4, q5⟩ := HCC.out wy hSw; go_simp; try with_reducible rfl)
    simp only [Act.put, List.setIfInBounds_toArray, List.set_cons_zero, List.set_cons_succ]
    refine drawn_take 1 rfl (by kernel_rfl) (by kernel_rfl) (by kernel_rfl) (fun _ _ _ h => h) (by rfl) (by assumption) (v := ?_) ?_ ?_
    rotate_left
    · (intro wy hSw; obtain ⟨⟨z0, z1, z2, z3, z4⟩, q0, q1, q2, q3, q4, q5⟩ := HCC.out wy hSw; go_simp; try with_reducible rfl)
    simp only [Act.put, List.setIfInBounds_toArray, List.set_cons_zero, List.set_cons_succ]
    refine drawn_take 2 rfl (by kernel_rfl) (by kernel_rfl) (by kernel_rfl) (fun _ _ _ h => h) (by rfl) (by assumption) (v := ?_) ?_ ?_
    rotate_left
    · (intro wy hSw; obtain ⟨⟨z0, z1, z2, z3, z4⟩, q0, q1, q2, q3, q4, q5⟩ := HCC.out wy hSw; go_simp; try with_reducible rfl)
    simp only [Act.put, List.setIfInBounds_toArray, List.set_cons_zero, List.set_cons_succ]
    refine drawn_take 3 rfl (by kernel_rfl) (by kernel_rfl) (by kernel_rfl) (fun _ _ _ h => h) (by rfl) (by assumption) (v := ?_) ?_ ?_
    rotate_left
    · (intro wy hSw; obtain ⟨⟨z0, z1, z2, z3, z4⟩, q0, q1, q2, q3, q4, q5⟩ := HCC.out wy hSw; go_simp; try with_reducible rfl)
    simp only [Act.put, List.setIfInBounds_toArray, List.set_cons_zero, List.set_cons_succ]
    refine drawn_take 4 rfl (by kernel_rfl) (by kernel_rfl) (by kernel_rfl) (fun _ _ _ h => h) (by rfl) (by assumption) (v := ?_) ?_ ?_
    rotate_left
    · (intro wy hSw; obtain ⟨⟨z0, z1, z2, z3, z4⟩, q0, q1, q2, q3, q4, q5⟩ := HCC.out wy hSw; go_simp; try with_reducible rfl)
    simp only [Act.put, List.setIfInBounds_toArray, List.set_cons_zero, List.set_cons_succ]
    refine drawn_take 5 rfl (by kernel_rfl) (by kernel_rfl) (by kernel_rfl) (fun _ _ _ h => h) (by rfl) (by assumption) (v := ?_) ?_ ?_
    rotate_left
    · (intro wy hSw; obtain ⟨⟨z0, z1, z2, z3, z4⟩, q0, q1, q2, q3, q4, q5⟩ := HCC.out wy hSw; go_simp; try with_reducible rfl)
    simp only [Act.put, List.setIfInBounds_toArray, List.set_cons_zero, List.set_cons_succ]
    refine drawn_sole 6 rfl (by kernel_rfl) (fun K hK => ?_)
    try (rw [if_pos]; case hc => rfl)
    go_simp
    have hz := hHeld.size
    refine (HLB.out _ hHeld).mono ?_
    rintro e w1 ⟨⟨A1, c1, rfl, hv⟩, hb⟩
    have hH : Below w0.heap.size w0 w1 := hHeld.trans (hb.mono hHeld.size)
    have HW1 := Lib.hid hH
    have HV1 : Hid (SliceV w1 (Apt w1 G) la (.slice A1 la.length c1)) := Lib.hid (H0.out.fresh hH (hv.more (fun k _ hk => Nat.le_trans hz hk)))
    clear hb hv hz
    go_wp2_with fail
    refine hK.out _ _ (hH) (fun hHeld2 => ?_)
    clear hK K hHeld
    have hHeld := hHeld2
    clear hHeld2
    refine drawn_take 7 rfl (by kernel_rfl) (by kernel_rfl) (by kernel_rfl) (fun _ _ _ h => h) (by rfl) (by assumption) (v := ?_) ?_ ?_
    rotate_left
    · (intro wy hSw; (try dsimp only at hSw); go_simp; try with_reducible rfl)
    simp only [Act.put, List.setIfInBounds_toArray, List.set_cons_zero, List.set_cons_succ]
    refine drawn_take 8 rfl (by kernel_rfl) (by kernel_rfl) (by kernel_rfl) (fun _ _ _ h => h) (by rfl) (by assumption) (v := ?_) ?_ ?_
    rotate_left
    · (intro wy hSw; (try dsimp only at hSw); go_simp; try with_reducible rfl)
    simp only [Act.put, List.setIfInBounds_toArray, List.set_cons_zero, List.set_cons_succ]
    refine drawn_take 9 rfl (by kernel_rfl) (by kernel_rfl) (by kernel_rfl) (fun _ _ _ h => h) (by rfl) (by assumption) (v := ?_) ?_ ?_
    rotate_left
    · (intro wy hSw; (try dsimp only at hSw); go_simp; try with_reducible rfl)
    simp only [Act.put, List.setIfInBounds_toArray, List.set_cons_zero, List.set_cons_succ]
    refine drawn_take 10 rfl (by kernel_rfl) (by kernel_rfl) (by kernel_rfl) (fun _ _ _ h => h) (by rfl) (by assumption) (v := ?_) ?_ ?_
    rotate_left
    · (intro wy hSw; (try dsimp only at hSw); go_simp; try with_reducible rfl)
    simp only [Act.put, List.setIfInBounds_toArray, List.set_cons_zero, List.set_cons_succ]
    refine drawn_take 11 rfl (by kernel_rfl) (by kernel_rfl) (by kernel_rfl) (fun _ _ _ h => h) (by rfl) (by assumption) (v := ?_) ?_ ?_
    rotate_left
    · (intro wy hSw; (try dsimp only at hSw); go_simp; try with_reducible rfl)
    simp only [Act.put, List.setIfInBounds_toArray, List.set_cons_zero, List.set_cons_succ]
    refine wpAnyH_done (by kernel_rfl) ?_ _
    have H1 := Lib.hid (H0.out.on HW1.out)
    have HN01 := Lib.hid (HN0.out.trans (Nxt.of_below HW1.out))
    have HCD := Lib.hid (fun W (hb : Below w1.heap.size w1 W) => HCC.out W (HW1.out.trans (hb.mono HW1.out.size)))
    have HVA : Hid (∀ W, Below w1.heap.size w1 W → SliceV W (Apt W G) la (.slice A1 la.length c1)) := Lib.hid (fun W hb => (HV1.out.mod (T := fun _ => False) (Mod.of_below hb) (fun _ _ _ h => h)).more (fun k hk hs => ⟨hs.1, hk⟩))
    have HVL : Hid (∀ W, Below w1.heap.size w1 W → SliceV W (· < W.heap.size) la (.slice A1 la.length c1)) := Lib.hid (fun W hb => (HVA.out W hb).more (fun _ hk _ => hk))
    obtain ⟨⟨x0, x1, x2, x3, x4⟩, y0, y1, y2, y3, y4, y5⟩ := HCD.out w1 (Below.refl _ _)
    go_wp2_with fail
    clear x0 x1 x2 x3 x4 y0 y1 y2 y3 y4 y5
    go_loopw [6, 7, 25] (fun okv samev iv wr => ∃ (j : Nat) (b1 b2 : Bool), j ≤ l4 ∧ iv = .int .i64 (j : Int) ∧ okv = .bool b1 ∧ samev = .bool b2 ∧ Hid (b1 = (true && (l.take j).all fun n => (s.labelA n).isSome)) ∧ Hid (b2 = ((l.take j).all fun n => decide ((s.labelA n).getD [] = la))) ∧ Hid (Below w1.heap.size w1 wr)) (fun _ _ iv _ => l4 - (intOf iv).toNat)
    case atStart => exact ⟨0, true, true, by omega, rfl, rfl, rfl, Lib.hid rfl, Lib.hid rfl, Lib.hid (Below.refl _ _)⟩
    case round =>
      obtain ⟨j, b1, b2, hj, rfl, rfl, rfl, HQ1, HQ2, HBW⟩ := hrel
      obtain ⟨_, y0, y1, y2, y3, y4, y5⟩ := HCD.out _ HBW.out
      by_cases hjn : j < l4
      · obtain ⟨x, hx⟩ : ∃ x, l[j]? = some x := ⟨_, List.getElem?_eq_getElem (by have := HN4.out; omega)⟩
        have hxl := HLW.out x (List.mem_of_getElem? hx)
        obtain ⟨g, oo, rfl, hg, hc⟩ := HU.out j x hx
        have k0 : World.cell? _ ⟨g, oo + j, none⟩ = some (.int .u32 (x : Int)) := ((H1.out.on HBW.out).base.cell (p := ⟨g, oo + j, none⟩) hg).trans hc
        have hji : (j : Int) < (l4 : Int) := by omega
        have hlx := wk_label (H1.out.on HBW.out) hs (by omega) x hxl
        have he1 := Bo.all_take1 hx (fun n => (s.labelA n).isSome)
        have he2 := Bo.all_take1 hx (fun n => decide ((s.labelA n).getD [] = la))
        clear hx hc hxl
        cases hl9 : s.labelA x with
        | none =>
          rw [hl9] at hlx he1 he2
          have HLX := Lib.hid hlx
          have HEQ := Lib.hid (fun W (hv : SliceV W (· < W.heap.size) ([] : List UInt8) (.slice none 0 0)) (hb : Below w1.heap.size w1 W) => sequal_any [] la (.slice none 0 0) (.slice A1 la.length c1) W hv (HVL.out W hb) (by simp) HLL.out)
          rw [Option.getD_none] at he2
          obtain ⟨d, hd⟩ : ∃ d, decide (([] : List UInt8) = la) = d := ⟨_, rfl⟩
          simp only [hd] at HEQ he2
          have HE1 : Hid ((true && (l.take (j + 1)).all fun n => (s.labelA n).isSome) = (b1 && false)) := Lib.hid (by rw [he1, ← Bool.and_assoc, ← HQ1.out]; rfl)
          have HE2 : Hid (((l.take (j + 1)).all fun n => decide ((s.labelA n).getD [] = la)) = (b2 && d)) := Lib.hid (by rw [he2, ← HQ2.out])
          clear hlx he1 he2 hd hl9
          cases b1 with
          | false =>
            cases b2 with
            | false =>
              go_wp2_with (go_at_call 69; refine HLX.out.mono ?_; rintro e w2 ⟨he, hb⟩; obtain rfl : e = .returned (.tuple #[.slice none 0 0, .bool false]) := he; have HB2 := Lib.hid (HBW.out.trans (hb.mono HBW.out.size)); have HV2 : Hid (SliceV w2 (· < w2.heap.size) ([] : List UInt8) (.slice none 0 0)) := Lib.hid (SliceV.nil _ _); clear hb)
              go_roundw
              case rel => exact ⟨j + 1, false, false, by omega, by go_num, rfl, rfl, Lib.hid (show false = _ from HE1.out.symm), Lib.hid (show false = _ from HE2.out.symm), HB2⟩
              case measure => simp [intOf]; omega
            | true =>
              go_wp2_with (first | (go_at_call 69; refine HLX.out.mono ?_; rintro e w2 ⟨he, hb⟩; obtain rfl : e = .returned (.tuple #[.slice none 0 0, .bool false]) := he; have HB2 := Lib.hid (HBW.out.trans (hb.mono HBW.out.size)); have HV2 : Hid (SliceV w2 (· < w2.heap.size) ([] : List UInt8) (.slice none 0 0)) := Lib.hid (SliceV.nil _ _); clear hb) | (go_at_call 72; refine (HEQ.out _ HV2.out HB2.out).mono ?_; rintro e w3 ⟨rfl, hb⟩; have HB3 := Lib.hid (HB2.out.trans (hb.mono HB2.out.size)); clear hb))
              go_roundw
              case rel => exact ⟨j + 1, false, d, by omega, by go_num, rfl, rfl, Lib.hid (show false = _ from HE1.out.symm), Lib.hid (show d = _ from HE2.out.symm), HB3⟩
              case measure => simp [intOf]; omega
          | true =>
            cases b2 with
            | false =>
              go_wp2_with (go_at_call 69; refine HLX.out.mono ?_; rintro e w2 ⟨he, hb⟩; obtain rfl : e = .returned (.tuple #[.slice none 0 0, .bool false]) := he; have HB2 := Lib.hid (HBW.out.trans (hb.mono HBW.out.size)); have HV2 : Hid (SliceV w2 (· < w2.heap.size) ([] : List UInt8) (.slice none 0 0)) := Lib.hid (SliceV.nil _ _); clear hb)
              go_roundw
              case rel => exact ⟨j + 1, false, false, by omega, by go_num, rfl, rfl, Lib.hid (show false = _ from HE1.out.symm), Lib.hid (show false = _ from HE2.out.symm), HB2⟩
              case measure => simp [intOf]; omega
            | true =>
              go_wp2_with (first | (go_at_call 69; refine HLX.out.mono ?_; rintro e w2 ⟨he, hb⟩; obtain rfl : e = .returned (.tuple #[.slice none 0 0, .bool false]) := he; have HB2 := Lib.hid (HBW.out.trans (hb.mono HBW.out.size)); have HV2 : Hid (SliceV w2 (· < w2.heap.size) ([] : List UInt8) (.slice none 0 0)) := Lib.hid (SliceV.nil _ _); clear hb) | (go_at_call 72; refine (HEQ.out _ HV2.out HB2.out).mono ?_; rintro e w3 ⟨rfl, hb⟩; have HB3 := Lib.hid (HB2.out.trans (hb.mono HB2.out.size)); clear hb))
              go_roundw
              case rel => exact ⟨j + 1, false, d, by omega, by go_num, rfl, rfl, Lib.hid (show false = _ from HE1.out.symm), Lib.hid (show d = _ from HE2.out.symm), HB3⟩
              case measure => simp [intOf]; omega
        | some lx =>
          rw [hl9] at hlx he1 he2
          have hll := hlab x lx hl9
          have HLX := Lib.hid hlx
          have HEQ := Lib.hid (fun W A9 c9 (hv : SliceV W (· < W.heap.size) lx (.slice A9 lx.length c9)) (hb : Below w1.heap.size w1 W) => sequal_any lx la (.slice A9 lx.length c9) (.slice A1 la.length c1) W hv (HVL.out W hb) (by omega) HLL.out)
          rw [Option.getD_some] at he2
          obtain ⟨d, hd⟩ : ∃ d, decide (lx = la) = d := ⟨_, rfl⟩
          simp only [hd] at HEQ he2
          have HE1 : Hid ((true && (l.take (j + 1)).all fun n => (s.labelA n).isSome) = (b1 && true)) := Lib.hid (by rw [he1, ← Bool.and_assoc, ← HQ1.out]; rfl)
          have HE2 : Hid (((l.take (j + 1)).all fun n => decide ((s.labelA n).getD [] = la)) = (b2 && d)) := Lib.hid (by rw [he2, ← HQ2.out])
          clear hlx he1 he2 hd hl9 hll
          cases b1 with
          | false =>
            cases b2 with
            | false =>
              go_wp2_with (go_at_call 69; refine HLX.out.mono ?_; rintro e w2 ⟨⟨A9, c9, rfl, hv⟩, hb⟩; have HB2 := Lib.hid (HBW.out.trans (hb.mono HBW.out.size)); have HV2 : Hid (SliceV w2 (· < w2.heap.size) lx (.slice A9 lx.length c9)) := Lib.hid (hv.more (fun k hk _ => hk)); clear hb hv)
              go_roundw
              case rel => exact ⟨j + 1, false, false, by omega, by go_num, rfl, rfl, Lib.hid (show false = _ from HE1.out.symm), Lib.hid (show false = _ from HE2.out.symm), HB2⟩
              case measure => simp [intOf]; omega
            | true =>
              go_wp2_with (first | (go_at_call 69; refine HLX.out.mono ?_; rintro e w2 ⟨⟨A9, c9, rfl, hv⟩, hb⟩; have HB2 := Lib.hid (HBW.out.trans (hb.mono HBW.out.size)); have HV2 : Hid (SliceV w2 (· < w2.heap.size) lx (.slice A9 lx.length c9)) := Lib.hid (hv.more (fun k hk _ => hk)); clear hb hv) | (go_at_call 72; refine (HEQ.out _ _ _ HV2.out HB2.out).mono ?_; rintro e w3 ⟨rfl, hb⟩; have HB3 := Lib.hid (HB2.out.trans (hb.mono HB2.out.size)); clear hb))
              go_roundw
              case rel => exact ⟨j + 1, false, d, by omega, by go_num, rfl, rfl, Lib.hid (show false = _ from HE1.out.symm), Lib.hid (show d = _ from HE2.out.symm), HB3⟩
              case measure => simp [intOf]; omega
          | true =>
            cases b2 with
            | false =>
              go_wp2_with (go_at_call 69; refine HLX.out.mono ?_; rintro e w2 ⟨⟨A9, c9, rfl, hv⟩, hb⟩; have HB2 := Lib.hid (HBW.out.trans (hb.mono HBW.out.size)); have HV2 : Hid (SliceV w2 (· < w2.heap.size) lx (.slice A9 lx.length c9)) := Lib.hid (hv.more (fun k hk _ => hk)); clear hb hv)
              go_roundw
              case rel => exact ⟨j + 1, true, false, by omega, by go_num, rfl, rfl, Lib.hid (show true = _ from HE1.out.symm), Lib.hid (show false = _ from HE2.out.symm), HB2⟩
              case measure => simp [intOf]; omega
            | true =>
              go_wp2_with (first | (go_at_call 69; refine HLX.out.mono ?_; rintro e w2 ⟨⟨A9, c9, rfl, hv⟩, hb⟩; have HB2 := Lib.hid (HBW.out.trans (hb.mono HBW.out.size)); have HV2 : Hid (SliceV w2 (· < w2.heap.size) lx (.slice A9 lx.length c9)) := Lib.hid (hv.more (fun k hk _ => hk)); clear hb hv) | (go_at_call 72; refine (HEQ.out _ _ _ HV2.out HB2.out).mono ?_; rintro e w3 ⟨rfl, hb⟩; have HB3 := Lib.hid (HB2.out.trans (hb.mono HB2.out.size)); clear hb))
              go_roundw
              case rel => exact ⟨j + 1, true, d, by omega, by go_num, rfl, rfl, Lib.hid (show true = _ from HE1.out.symm), Lib.hid (show d = _ from HE2.out.symm), HB3⟩
              case measure => simp [intOf]; omega
      · obtain rfl : j = l4 := by omega
        have hji : decide ((j : Int) < (j : Int)) = false := decide_eq_false (by omega)
        have hjn2 : decide (j < j) = false := decide_eq_false hjn
        have htk : l.take j = l := List.take_of_length_le (by have := HN4.out; omega)
        have HQ1 := Lib.hid (HQ1.out.trans (by rw [htk]))
        have HQ2 := Lib.hid (HQ2.out.trans (by rw [htk]))
        clear htk hjn
        cases b1 with
        | false =>
          have HTE : Hid (Bo.brTable a l s = .error 101) := Lib.hid (by
            unfold Bo.brTable
            rw [HLAB.out]
            dsimp only
            have h := HQ1.out
            rw [Bool.true_and] at h
            rw [← h]
            rfl)
          go_wp2_with fail
          go_ret
          exact WPost.err HTE.out (H1.out.on HBW.out).base
        | true =>
          have hall : (l.all fun n => (s.labelA n).isSome) = true := by
            have h := HQ1.out
            rw [Bool.true_and] at h
            exact h.symm
          cases b2 with
          | false =>
            have HTE : Hid (Bo.brTable a l s = .error 100) := Lib.hid (by
              unfold Bo.brTable
              rw [HLAB.out]
              dsimp only
              rw [if_pos hall, if_neg (by rw [← HQ2.out]; simp)])
            clear hall
            go_wp2_with fail
            go_ret
            exact WPost.err HTE.out (H1.out.on HBW.out).base
          | true =>
            have HTE : Hid (Bo.brTable a l s = if s.wantA [127] = true then Bo.goes (s.want [127]) la else .error 100) := Lib.hid (by
              unfold Bo.brTable
              rw [HLAB.out]
              dsimp only
              rw [if_pos hall, ← HQ2.out]
              simp)
            clear hall
            have hwa := (H1.out.on HBW.out).i32 hs (by omega)
            cases hw : s.wantA [127] with
            | false =>
              rw [hw] at hwa
              have HWA := Lib.hid hwa
              have HTF : Hid (Bo.brTable a l s = .error 100) := Lib.hid (by rw [HTE.out, hw]; rfl)
              clear hw hwa
              go_wp2_with (go_at_call 67; refine HWA.out.mono ?_; rintro e w5 ⟨rfl, G5, h5, n5⟩; have HN5 := Lib.hid n5; clear h5 n5)
              go_ret
              exact WPost.err HTF.out ((H1.out.on HBW.out).below HN5.out)
            | true =>
              rw [hw] at hwa
              have HWA := Lib.hid hwa
              have HTF : Hid (Bo.brTable a l s = Bo.goes (s.want [127]) la) := Lib.hid (by rw [HTE.out, hw]; rfl)
              have HVW := Lib.hid (HVA.out _ HBW.out)
              have HGO := Lib.hid (fun W G5 v (hW : Wk C R P W G5 (s.want [127]) o) (hv : SliceV W (Apt W G5) la v) => goes_any hW (Ty.sm_want hs _) hn la v hv (by have := HLL.out; omega))
              clear hw hwa
              go_wp2_with (first | (go_at_call 67; refine HWA.out.mono ?_; rintro e w5 ⟨rfl, G5, h5, n5⟩; have H5 := Lib.hid h5; have HN5 := Lib.hid n5; clear h5 n5) | (go_at_call 70; refine (HGO.out _ _ _ H5.out (Apt.next HVW.out HN5.out)).mono ?_; rintro e w9 he; obtain ⟨k, rfl, hk⟩ := he.num; have HK := Lib.hid hk; clear he hk))
              go_ret
              rw [HTF.out]
              exact ((HK.out.ahead HN5.out).ahead (Nxt.of_below HBW.out)).ahead HN01.out
end Go.Proofs.Ytakbehoglgebmaa
