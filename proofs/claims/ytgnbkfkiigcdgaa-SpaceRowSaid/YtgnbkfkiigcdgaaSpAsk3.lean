/-
  Layer 8's program: how many there are, exports by name, whether two types are one. (gen/space/ask3.py)
-/
import Derived.Test.YtgnbkfkiigcdgaaSpAsk2
namespace Go.Proofs.Ytgnbkfkiigcdgaa
open Go.RowKit Ins Bin Sp
set_option maxRecDepth 100000 in
set_option maxHeartbeats 4000000 in
theorem src0_any (A : Option Addr) (n c k : Nat) (w : World) (_hn : n ≤ 1000000) : Calls Try.prog 45 #[.agg #[.slice A n c, .int .i64 (k : Int)]] w fun e w' => e = .returned (.tuple #[.int .i64 (n : Int), .int .i64 (k : Int)]) ∧ Below w.heap.size w w' := by
  have HX0 := Lib.hid (heap_alloc_new w (.cells #[.slice A n c, .int .i64 (k : Int)] 67))
  have HB0 : Hid (Below w.heap.size w (w.alloc (.cells #[.slice A n c, .int .i64 (k : Int)] 67))) := Lib.hid ((Below.refl _ _).alloc (Nat.le_refl _) _)
  go_enter Try.func45, Try.ntmps45
  go_upto_region 1 with fail
  generalize w.alloc (.cells #[.slice A n c, .int .i64 (k : Int)] 67) = w0 at HX0 HB0 ⊢
  obtain ⟨y0, y1⟩ := two_cells HX0.out
  go_quiet (fail)
  go_wp2_with fail
  go_ret2
  exact ⟨rfl, Below.dn HB0.out _⟩
set_option maxRecDepth 100000 in
set_option maxHeartbeats 4000000 in
theorem src1_any (A : Option Addr) (n c k : Nat) (w : World) (_hn : n ≤ 1000000) : Calls Try.prog 46 #[.agg #[.slice A n c, .int .i64 (k : Int)]] w fun e w' => e = .returned (.tuple #[.int .i64 (n : Int), .int .i64 (k : Int)]) ∧ Below w.heap.size w w' := by
  have HX0 := Lib.hid (heap_alloc_new w (.cells #[.slice A n c, .int .i64 (k : Int)] 73))
  have HB0 : Hid (Below w.heap.size w (w.alloc (.cells #[.slice A n c, .int .i64 (k : Int)] 73))) := Lib.hid ((Below.refl _ _).alloc (Nat.le_refl _) _)
  go_enter Try.func46, Try.ntmps46
  go_upto_region 1 with fail
  generalize w.alloc (.cells #[.slice A n c, .int .i64 (k : Int)] 73) = w0 at HX0 HB0 ⊢
  obtain ⟨y0, y1⟩ := two_cells HX0.out
  go_quiet (fail)
  go_wp2_with fail
  go_ret2
  exact ⟨rfl, Below.dn HB0.out _⟩
set_option maxRecDepth 100000 in
set_option maxHeartbeats 4000000 in
theorem src3_any (A : Option Addr) (n c k : Nat) (w : World) (_hn : n ≤ 1000000) : Calls Try.prog 47 #[.agg #[.slice A n c, .int .i64 (k : Int)]] w fun e w' => e = .returned (.tuple #[.int .i64 (n : Int), .int .i64 (k : Int)]) ∧ Below w.heap.size w w' := by
  have HX0 := Lib.hid (heap_alloc_new w (.cells #[.slice A n c, .int .i64 (k : Int)] 79))
  have HB0 : Hid (Below w.heap.size w (w.alloc (.cells #[.slice A n c, .int .i64 (k : Int)] 79))) := Lib.hid ((Below.refl _ _).alloc (Nat.le_refl _) _)
  go_enter Try.func47, Try.ntmps47
  go_upto_region 1 with fail
  generalize w.alloc (.cells #[.slice A n c, .int .i64 (k : Int)] 79) = w0 at HX0 HB0 ⊢
  obtain ⟨y0, y1⟩ := two_cells HX0.out
  go_quiet (fail)
  go_wp2_with fail
  go_ret2
  exact ⟨rfl, Below.dn HB0.out _⟩
set_option maxRecDepth 100000 in
set_option maxHeartbeats 4000000 in
theorem scounts_any (P : Nat) (m : M) (k : Nat) (hk : k < 256) (w : World) (hs : SpaceV w P m) (hl : Some6 m) :
    Calls Try.prog 41 #[.pointer (some ⟨P, 0, none⟩), .int .u8 (k : Int)] w fun e w' => e = .returned (.tuple #[.int .i64 (count m k : Int), .int .i64 (imported m k : Int)]) ∧ Below w.heap.size w w' := by
  obtain ⟨A1, d1, A2, d2, A3, d3, A4, d4, A5, d5, A6, d6, h0, h1, h2, h3, h4, h5, h6⟩ := hs
  obtain ⟨b0, b1, b2, b3, b4, b5, b6, b7, b8, b9⟩ := ten_cells h0
  clear h0 h1 h2 h3 h4 h5 h6 b0 b9
  rw [funs_len] at b1
  rw [tabs_len] at b3
  rw [mems_len] at b5
  rw [globs_len] at b7
  have l0 : count m 0 ≤ 1000000 := by rw [← funs_len]; exact hl.funs
  have l1 : count m 1 ≤ 1000000 := by rw [← tabs_len]; exact hl.tabs
  have l2 : count m 2 ≤ 1000000 := by rw [← mems_len]; exact hl.mems
  have l3 : count m 3 ≤ 1000000 := by rw [← globs_len]; exact hl.globs
  have HL0 := Lib.hid l0
  have HL1 := Lib.hid l1
  have HL2 := Lib.hid l2
  have HL3 := Lib.hid l3
  clear l0 l1 l2 l3 hl
  rcases (by omega : k = 0 ∨ k = 1 ∨ k = 2 ∨ k = 3 ∨ 4 ≤ k) with rfl | rfl | rfl | rfl | h4
  · have hi : imported m 0 = (imps m 0).length := imported_at (by decide)
    rw [hi]
    generalize (imps m 0).length = q at *
    generalize count m 0 = ct at *
    clear hi
    go_enter Try.func41, Try.ntmps41
    go_wp2_with (go_at_call 45; refine (src0_any _ _ _ _ w HL0.out).mono ?_; rintro e w1 ⟨rfl, hb⟩; have HB := Lib.hid hb; clear hb)
    go_ret2
    exact ⟨rfl, HB.out⟩
  · have hi : imported m 1 = (imps m 1).length := imported_at (by decide)
    rw [hi]
    generalize (imps m 1).length = q at *
    generalize count m 1 = ct at *
    clear hi
    go_enter Try.func41, Try.ntmps41
    go_wp2_with (go_at_call 46; refine (src1_any _ _ _ _ w HL1.out).mono ?_; rintro e w1 ⟨rfl, hb⟩; have HB := Lib.hid hb; clear hb)
    go_ret2
    exact ⟨rfl, HB.out⟩
  · have hi : imported m 2 = (imps m 2).length := imported_at (by decide)
    rw [hi]
    generalize (imps m 2).length = q at *
    generalize count m 2 = ct at *
    clear hi
    go_enter Try.func41, Try.ntmps41
    go_wp2_with (go_at_call 46; refine (src1_any _ _ _ _ w HL2.out).mono ?_; rintro e w1 ⟨rfl, hb⟩; have HB := Lib.hid hb; clear hb)
    go_ret2
    exact ⟨rfl, HB.out⟩
  · have hi : imported m 3 = (imps m 3).length := imported_at (by decide)
    rw [hi]
    generalize (imps m 3).length = q at *
    generalize count m 3 = ct at *
    clear hi
    go_enter Try.func41, Try.ntmps41
    go_wp2_with (go_at_call 47; refine (src3_any _ _ _ _ w HL3.out).mono ?_; rintro e w1 ⟨rfl, hb⟩; have HB := Lib.hid hb; clear hb)
    go_ret2
    exact ⟨rfl, HB.out⟩
  · have q0 : ((k : Int) == 0) = false := by rw [beq_eq_false_iff_ne]; omega
    have q1 : ((k : Int) == 1) = false := by rw [beq_eq_false_iff_ne]; omega
    have q2 : ((k : Int) == 2) = false := by rw [beq_eq_false_iff_ne]; omega
    have q3 : ((k : Int) == 3) = false := by rw [beq_eq_false_iff_ne]; omega
    have hi : imported m k = 0 := imported_no (by omega)
    have hm : mine m k = 0 := by unfold mine; rw [if_neg (by omega), if_neg (by omega), if_neg (by omega), if_neg (by omega)]
    have hc : count m k = 0 := by unfold count; rw [hi, hm]
    rw [hi, hc]
    clear h4 hi hm hc
    go_enter Try.func41, Try.ntmps41
    go_wp2_with fail
    go_ret2
    exact ⟨rfl, Below.refl _ _⟩
set_option maxRecDepth 100000 in
set_option maxHeartbeats 4000000 in
theorem scount_any (p : Option Addr) (m : M) (k : Nat) (hk : k < 256) (w : World) (h : Recv w p m) (hl : Some6 m) :
    Calls Try.prog 20 #[.pointer p, .int .u8 (k : Int)] w fun e w' => e = .returned (.int .i64 (count m k : Int)) ∧ Below w.heap.size w w' := by
  have HR := Lib.hid h
  have HC := Lib.hid (fun P W (hs : SpaceV W P m) => scounts_any P m k hk W hs hl)
  clear h hl
  generalize count m k = ct at HC ⊢
  generalize imported m k = ci at HC
  go_enter Try.func20, Try.ntmps20
  go_wp2_with (first | (go_at_call 36; refine (sthere_any p m w HR.out).mono ?_; rintro e w1 ⟨P, rfl, hs, hb⟩; have HS := Lib.hid hs; have HB1 := Lib.hid hb; clear hs hb) | (go_at_call 41; refine (HC.out P w1 HS.out).mono ?_; rintro e w2 ⟨rfl, hb⟩; have HB2 := Lib.hid (HB1.out.trans (hb.mono HB1.out.size)); clear hb))
  go_ret
  exact ⟨rfl, HB2.out⟩
set_option maxRecDepth 100000 in
set_option maxHeartbeats 4000000 in
theorem simported_any (p : Option Addr) (m : M) (k : Nat) (hk : k < 256) (w : World) (h : Recv w p m) (hl : Some6 m) :
    Calls Try.prog 22 #[.pointer p, .int .u8 (k : Int)] w fun e w' => e = .returned (.int .i64 (imported m k : Int)) ∧ Below w.heap.size w w' := by
  have HR := Lib.hid h
  have HC := Lib.hid (fun P W (hs : SpaceV W P m) => scounts_any P m k hk W hs hl)
  clear h hl
  generalize count m k = ct at HC
  generalize imported m k = ci at HC ⊢
  go_enter Try.func22, Try.ntmps22
  go_wp2_with (first | (go_at_call 36; refine (sthere_any p m w HR.out).mono ?_; rintro e w1 ⟨P, rfl, hs, hb⟩; have HS := Lib.hid hs; have HB1 := Lib.hid hb; clear hs hb) | (go_at_call 41; refine (HC.out P w1 HS.out).mono ?_; rintro e w2 ⟨rfl, hb⟩; have HB2 := Lib.hid (HB1.out.trans (hb.mono HB1.out.size)); clear hb))
  go_ret
  exact ⟨rfl, HB2.out⟩
set_option maxRecDepth 100000 in
set_option maxHeartbeats 4000000 in
theorem sexport_any (p : Option Addr) (m : M) (nm : List UInt8) (kd : Nat) (_hk : kd < 256) (w : World) (h : Recv w p m) (hl : Some6 m) :
    Calls Try.prog 18 #[.pointer p, .string ⟨nm.toArray⟩, .int .u8 (kd : Int)] w fun e w' => ExpPost (expo m nm kd) w e w' := by
  have HR := Lib.hid h
  have HL := Lib.hid hl.exports
  clear h hl
  generalize hNB : (⟨nm.toArray⟩ : ByteArray) = NB
  have HNB := Lib.hid hNB
  clear hNB
  obtain ⟨n, hn⟩ : ∃ n, m.exports.length = n := ⟨_, rfl⟩
  have hln : n ≤ 1000000 := by rw [← hn]; exact HL.out
  have HN := Lib.hid hn
  clear hn
  go_enter Try.func18, Try.ntmps18
  go_upto_region 2 with (go_at_call 36; refine (sthere_any p m w HR.out).mono ?_; rintro e w1 ⟨P, rfl, hs, hb⟩; have HB1 := Lib.hid hb; obtain ⟨A1, d1, A2, d2, A3, d3, A4, d4, A5, d5, A6, d6, h0, h1, h2, h3, h4, h5, h6⟩ := hs; obtain ⟨b0, b1, b2, b3, b4, b5, b6, b7, b8, b9⟩ := ten_cells h0; have HS := Lib.hid h6; rw [HN.out] at b9 HS; clear hb h0 h1 h2 h3 h4 h5 h6)
  clear b0 b1 b2 b3 b4 b5 b6 b7 b8 b9
  have HLX : Hid (HasL w1 (· < w1.heap.size) A6 m.exports) := Lib.hid (by
    obtain ⟨A', c', e, _, _, _, hL⟩ := HS.out
    injection e with e1 e2 e3
    subst e1
    exact hL)
  clear HS
  go_loopw [16] (fun i wr => ∃ j : Nat, j ≤ n ∧ i = .int .i64 (j : Int) ∧ Hid (NoneOf (fun x : Exp => x.name == nm && x.kind.toNat == kd) m.exports j) ∧ Hid (Below w1.heap.size w1 wr)) (fun i _ => n - (intOf i).toNat)
  case atStart => exact ⟨0, Nat.zero_le _, rfl, Lib.hid (noneOf_zero _ _), Lib.hid (Below.refl _ _)⟩
  case round =>
    obtain ⟨j, hj, rfl, HNO, HB⟩ := hrel
    by_cases hlt : j < n
    · have hlti : (j : Int) < (n : Int) := by omega
      obtain ⟨x, hx⟩ : ∃ x, m.exports[j]? = some x := ⟨_, List.getElem?_eq_getElem (by rw [HN.out]; exact hlt)⟩
      obtain ⟨g, o, rfl, hg, hc0, hc1, hc2, hxi⟩ := exp_at HLX.out hx
      have z0 := (HB.out.cell (p := ⟨g, o + j * 3, none⟩) hg).trans hc0
      have z1 := (HB.out.cell (p := ⟨g, o + j * 3 + 1, none⟩) hg).trans hc1
      have z2 := (HB.out.cell (p := ⟨g, o + j * 3 + 2, none⟩) hg).trans hc2
      have hxk := x.kind.toNat_lt
      generalize hXB : (⟨x.name.toArray⟩ : ByteArray) = XB at z0
      have HXB := Lib.hid hXB
      have HXL : Hid (XB.toList = x.name) := Lib.hid (by rw [← HXB.out, ByteArray.toList_eq])
      have HNL : Hid (NB.toList = nm) := Lib.hid (by rw [← HNB.out, ByteArray.toList_eq])
      have HX := Lib.hid hx
      have HA := Lib.hid (heap_alloc_new wr (.cells #[.string XB, .int .u8 (x.kind.toNat : Int), .int .u32 (x.index : Int)] 86))
      have HBA : Hid (Below w1.heap.size w1 (wr.alloc (.cells #[.string XB, .int .u8 (x.kind.toNat : Int), .int .u32 (x.index : Int)] 86))) := Lib.hid (HB.out.alloc HB.out.size _)
      clear hc0 hc1 hc2 hXB hx hg
      by_cases hn : x.name = nm
      · have he : XB.toList = NB.toList := by rw [HXL.out, HNL.out, hn]
        by_cases hq : x.kind.toNat = kd
        · have hqe : ((x.kind.toNat : Int) == (kd : Int)) = true := by simp [hq]
          have HF : Hid (expo m nm kd = some x) := Lib.hid (find_of HX.out (by simp [hn, hq]) HNO.out)
          clear hn hq
          go_upto_region 4 with fail; generalize wr.alloc (.cells #[.string XB, .int .u8 (x.kind.toNat : Int), .int .u32 (x.index : Int)] 86) = wa at HA HBA ⊢; clear z0 z1 z2; obtain ⟨a0, a1, a2⟩ : wa.cell? ⟨wr.heap.size, 0, none⟩ = some (.string XB) ∧ wa.cell? ⟨wr.heap.size, 1, none⟩ = some (.int .u8 (x.kind.toNat : Int)) ∧ wa.cell? ⟨wr.heap.size, 2, none⟩ = some (.int .u32 (x.index : Int)) := ⟨by rw [cell_of_row wa _ 0 _ _ (0, 0) HA.out]; rfl, by rw [cell_of_row wa _ 1 _ _ (0, 0) HA.out]; rfl, by rw [cell_of_row wa _ 2 _ _ (0, 0) HA.out]; rfl⟩
          go_wp2_with fail
          go_ret2
          exact ⟨by rw [HF.out]; rfl, HB1.out.trans (HBA.out.mono HB1.out.size)⟩
        · have hqe : ((x.kind.toNat : Int) == (kd : Int)) = false := by rw [beq_eq_false_iff_ne]; omega
          have HNX := Lib.hid (noneOf_succ HX.out (p := fun x : Exp => x.name == nm && x.kind.toNat == kd) (by simp [hq]) HNO.out)
          clear hn hq
          go_upto_region 4 with fail; generalize wr.alloc (.cells #[.string XB, .int .u8 (x.kind.toNat : Int), .int .u32 (x.index : Int)] 86) = wa at HA HBA ⊢; clear z0 z1 z2; obtain ⟨a0, a1, a2⟩ : wa.cell? ⟨wr.heap.size, 0, none⟩ = some (.string XB) ∧ wa.cell? ⟨wr.heap.size, 1, none⟩ = some (.int .u8 (x.kind.toNat : Int)) ∧ wa.cell? ⟨wr.heap.size, 2, none⟩ = some (.int .u32 (x.index : Int)) := ⟨by rw [cell_of_row wa _ 0 _ _ (0, 0) HA.out]; rfl, by rw [cell_of_row wa _ 1 _ _ (0, 0) HA.out]; rfl, by rw [cell_of_row wa _ 2 _ _ (0, 0) HA.out]; rfl⟩
          go_wp2_with fail
          go_roundw
          case rel => exact ⟨j + 1, by omega, by go_num, HNX, HBA⟩
          case measure => simp [intOf]; omega
      · have he : ¬ XB.toList = NB.toList := by rw [HXL.out, HNL.out]; exact hn
        have HNX := Lib.hid (noneOf_succ HX.out (p := fun x : Exp => x.name == nm && x.kind.toNat == kd) (by simp [hn]) HNO.out)
        clear hn
        go_upto_region 4 with fail; generalize wr.alloc (.cells #[.string XB, .int .u8 (x.kind.toNat : Int), .int .u32 (x.index : Int)] 86) = wa at HA HBA ⊢; clear z0 z1 z2; obtain ⟨a0, a1, a2⟩ : wa.cell? ⟨wr.heap.size, 0, none⟩ = some (.string XB) ∧ wa.cell? ⟨wr.heap.size, 1, none⟩ = some (.int .u8 (x.kind.toNat : Int)) ∧ wa.cell? ⟨wr.heap.size, 2, none⟩ = some (.int .u32 (x.index : Int)) := ⟨by rw [cell_of_row wa _ 0 _ _ (0, 0) HA.out]; rfl, by rw [cell_of_row wa _ 1 _ _ (0, 0) HA.out]; rfl, by rw [cell_of_row wa _ 2 _ _ (0, 0) HA.out]; rfl⟩
        go_wp2_with fail
        go_roundw
        case rel => exact ⟨j + 1, by omega, by go_num, HNX, HBA⟩
        case measure => simp [intOf]; omega
    · have hlti : decide ((j : Int) < (n : Int)) = false := decide_eq_false (by omega)
      have HF : Hid (expo m nm kd = none) := Lib.hid (find_no (by rw [HN.out]; omega) HNO.out)
      go_wp2_with fail
      go_ret2
      exact ⟨by rw [HF.out]; rfl, HB1.out.trans (HB.out.mono HB1.out.size)⟩
theorem u8_at {w : World} {S : Nat → Prop} {A : Option Addr} {xs : List UInt8} {k : Nat} {x : UInt8} (h : HasL w S A xs) (hx : xs[k]? = some x) : ∃ g o, A = some ⟨g, o, none⟩ ∧ g < w.heap.size ∧ w.cell? ⟨g, o + k, none⟩ = some (.int .u8 (x.toNat : Int)) := by
  obtain ⟨g, o, cs, h1, _, h3, h4, h6⟩ := h k x hx
  have h4' : cs = [.int .u8 (x.toNat : Int)] := h4
  subst h4'
  have e := h6 0 _ rfl
  rw [show Lay.size UInt8 = 1 from rfl, Nat.mul_one, Nat.add_zero] at e
  exact ⟨g, o, h1, h3, e⟩
set_option maxRecDepth 100000 in
set_option maxHeartbeats 4000000 in
theorem sequal_any (xs ys : List UInt8) (u v : Value) (w : World) (hu : SliceV w (· < w.heap.size) xs u) (hv : SliceV w (· < w.heap.size) ys v) (hl : xs.length ≤ 1000000) (hl2 : ys.length ≤ 1000000) :
    Calls Try.prog 43 #[u, v] w fun e w' => e = .returned (.bool (decide (xs = ys))) ∧ Below w.heap.size w w' := by
  obtain ⟨A1, c1, rfl, _, _, _, hL1⟩ := hu
  obtain ⟨A2, c2, rfl, _, _, _, hL2⟩ := hv
  have HL1 := Lib.hid hL1
  have HL2 := Lib.hid hL2
  obtain ⟨n1, hn1⟩ : ∃ n, xs.length = n := ⟨_, rfl⟩
  obtain ⟨n2, hn2⟩ : ∃ n, ys.length = n := ⟨_, rfl⟩
  rw [hn1] at hl ⊢
  rw [hn2] at hl2 ⊢
  have HN1 := Lib.hid hn1
  have HN2 := Lib.hid hn2
  clear hL1 hL2 hn1 hn2
  by_cases hq : n1 = n2
  · subst hq
    have hqe : ((n1 : Int) == (n1 : Int)) = true := by simp
    have hqn : ((n1 : Int) != (n1 : Int)) = false := by simp
    go_enter Try.func43, Try.ntmps43
    go_upto_region 4 with fail
    go_loopw [13] (fun i wr => ∃ j : Nat, j ≤ n1 ∧ i = .int .i64 (j : Int) ∧ Hid (xs.take j = ys.take j) ∧ Hid (Below w.heap.size w wr)) (fun i _ => n1 - (intOf i).toNat)
    case atStart => exact ⟨0, Nat.zero_le _, rfl, Lib.hid rfl, Lib.hid (Below.refl _ _)⟩
    case round =>
      obtain ⟨j, hj, rfl, HE, HB⟩ := hrel
      by_cases hlt : j < n1
      · have hlti : (j : Int) < (n1 : Int) := by omega
        obtain ⟨x, hx⟩ : ∃ x, xs[j]? = some x := ⟨_, List.getElem?_eq_getElem (by rw [HN1.out]; exact hlt)⟩
        obtain ⟨y, hy⟩ : ∃ y, ys[j]? = some y := ⟨_, List.getElem?_eq_getElem (by rw [HN2.out]; exact hlt)⟩
        obtain ⟨g, o, rfl, hg, hc⟩ := u8_at HL1.out hx
        obtain ⟨g2, o2, rfl, hg2, hc2⟩ := u8_at HL2.out hy
        have z0 := (HB.out.cell (p := ⟨g, o + j, none⟩) hg).trans hc
        have z1 := (HB.out.cell (p := ⟨g2, o2 + j, none⟩) hg2).trans hc2
        have HX := Lib.hid hx
        have HY := Lib.hid hy
        have hxk := x.toNat_lt
        have hyk := y.toNat_lt
        clear hx hy hc hc2 hg hg2
        by_cases hxy : x = y
        · subst hxy
          have HT : Hid (xs.take (j + 1) = ys.take (j + 1)) := Lib.hid (by rw [List.take_add_one, List.take_add_one, HX.out, HY.out, HE.out])
          have e1 : ((x.toNat : Int) != (x.toNat : Int)) = false := by simp
          go_upto_region 6 with fail
          go_quiet (fail)
          go_wp2_with fail
          go_roundw
          case rel => exact ⟨j + 1, by omega, by go_num, HT, Lib.hid (Below.dn HB.out _)⟩
          case measure => simp [intOf]; omega
        · have hne : ¬ x.toNat = y.toNat := fun e => hxy (UInt8.toNat_inj.1 e)
          have e1 : ((x.toNat : Int) != (y.toNat : Int)) = true := by rw [bne_iff_ne]; omega
          have HF : Hid (decide (xs = ys) = false) := Lib.hid (decide_eq_false (fun e => hxy (by
            have h1 := HX.out
            rw [e, HY.out] at h1
            exact (Option.some.inj h1).symm)))
          clear hxy hne
          go_upto_region 6 with fail
          go_quiet (fail)
          go_wp2_with fail
          go_ret
          exact ⟨by rw [HF.out]; rfl, Below.dn HB.out _⟩
      · have hlti : decide ((j : Int) < (n1 : Int)) = false := decide_eq_false (by omega)
        have HF : Hid (decide (xs = ys) = true) := Lib.hid (decide_eq_true (by
          have h1 := HE.out
          rw [List.take_of_length_le (by rw [HN1.out]; omega), List.take_of_length_le (by rw [HN2.out]; omega)] at h1
          exact h1))
        go_wp2_with fail
        go_ret
        exact ⟨by rw [HF.out]; rfl, HB.out⟩
  · have hqe : ((n1 : Int) == (n2 : Int)) = false := by rw [beq_eq_false_iff_ne]; omega
    have hqn : ((n1 : Int) != (n2 : Int)) = true := by rw [bne_iff_ne]; omega
    have HF : Hid (decide (xs = ys) = false) := Lib.hid (decide_eq_false (fun e => hq (by rw [← HN1.out, ← HN2.out, e])))
    clear hq
    go_enter Try.func43, Try.ntmps43
    go_wp2_with fail
    go_ret
    exact ⟨by rw [HF.out]; rfl, Below.refl _ _⟩
set_option maxRecDepth 100000 in
set_option maxHeartbeats 4000000 in
theorem ssame_any (x y : FT) (u1 u2 v1 v2 : Value) (w : World) (hu1 : SliceV w (· < w.heap.size) x.params u1) (hu2 : SliceV w (· < w.heap.size) x.results u2) (hv1 : SliceV w (· < w.heap.size) y.params v1) (hv2 : SliceV w (· < w.heap.size) y.results v2)
    (hx : x.params.length ≤ 1000000 ∧ x.results.length ≤ 1000000) (hy : y.params.length ≤ 1000000 ∧ y.results.length ≤ 1000000) :
    Calls Try.prog 24 #[.agg #[u1, u2], .agg #[v1, v2]] w fun e w' => e = .returned (.bool (decide (x = y))) ∧ Below w.heap.size w w' := by
  have HQ1 := Lib.hid (fun W (hb : Below w.heap.size w W) => sequal_any x.params y.params u1 v1 W (hu1.grow hb) (hv1.grow hb) hx.1 hy.1)
  have HQ2 := Lib.hid (fun W (hb : Below w.heap.size w W) => sequal_any x.results y.results u2 v2 W (hu2.grow hb) (hv2.grow hb) hx.2 hy.2)
  have HXY : Hid ((x = y) = (x.params = y.params ∧ x.results = y.results)) := Lib.hid (by cases x; cases y; simp)
  obtain ⟨A1, c1, rfl, _⟩ := hu1
  obtain ⟨A2, c2, rfl, _⟩ := hu2
  obtain ⟨A3, c3, rfl, _⟩ := hv1
  obtain ⟨A4, c4, rfl, _⟩ := hv2
  generalize x.params.length = n1 at *
  generalize x.results.length = n2 at *
  generalize y.params.length = n3 at *
  generalize y.results.length = n4 at *
  clear hx hy
  have HX0 : Hid (((w.alloc (.cells #[.slice A1 n1 c1, .slice A2 n2 c2] 40)).alloc (.cells #[.slice A3 n3 c3, .slice A4 n4 c4] 40)).heap[w.heap.size]? = some (.cells #[.slice A1 n1 c1, .slice A2 n2 c2] 40 (0, 0))) := Lib.hid ((Below.heap_alloc _ _ _ (by simp)).trans (heap_alloc_new w _))
  have HX1 : Hid (((w.alloc (.cells #[.slice A1 n1 c1, .slice A2 n2 c2] 40)).alloc (.cells #[.slice A3 n3 c3, .slice A4 n4 c4] 40)).heap[w.heap.size + 1]? = some (.cells #[.slice A3 n3 c3, .slice A4 n4 c4] 40 (0, 0))) := Lib.hid (by have := heap_alloc_new (w.alloc (.cells #[.slice A1 n1 c1, .slice A2 n2 c2] 40)) (.cells #[.slice A3 n3 c3, .slice A4 n4 c4] 40); simpa using this)
  have HB0 : Hid (Below w.heap.size w ((w.alloc (.cells #[.slice A1 n1 c1, .slice A2 n2 c2] 40)).alloc (.cells #[.slice A3 n3 c3, .slice A4 n4 c4] 40))) := Lib.hid (((Below.refl _ _).alloc (Nat.le_refl _) _).alloc (by simp) _)
  have HDEC : Hid (decide (x = y) = (decide (x.params = y.params) && decide (x.results = y.results))) := Lib.hid (by rw [← Bool.decide_and]; simp only [HXY.out])
  clear HXY
  generalize decide (x = y) = dd at HDEC ⊢
  generalize decide (x.params = y.params) = e1 at HQ1 HDEC
  generalize decide (x.results = y.results) = e2 at HQ2 HDEC
  go_enter Try.func24, Try.ntmps24
  go_upto_region 1 with fail
  generalize (w.alloc (.cells #[.slice A1 n1 c1, .slice A2 n2 c2] 40)).alloc (.cells #[.slice A3 n3 c3, .slice A4 n4 c4] 40) = w0 at HX0 HX1 HB0 ⊢
  obtain ⟨y0, y1⟩ := two_cells HX0.out
  obtain ⟨y2, y3⟩ := two_cells HX1.out
  cases e1 with
  | false =>
    have tok1 : True := trivial
    go_wp2_with (go_at_call 43; clear tok1; refine (HQ1.out w0 HB0.out).mono ?_; rintro e w1 ⟨rfl, hb⟩; have HB1 := Lib.hid (HB0.out.trans (hb.mono HB0.out.size)); clear hb)
    go_ret
    exact ⟨by rw [HDEC.out]; rfl, HB1.out⟩
  | true =>
    have tok1 : True := trivial
    go_wp2_with (first | (go_at_call 43; clear tok1; refine (HQ1.out w0 HB0.out).mono ?_; rintro e w1 ⟨rfl, hb⟩; have HB1 := Lib.hid (HB0.out.trans (hb.mono HB0.out.size)); obtain ⟨y0, y1⟩ := two_cells ((hb.block _ (Array.getElem?_eq_some_iff.1 HX0.out).1).trans HX0.out); obtain ⟨y2, y3⟩ := two_cells ((hb.block _ (Array.getElem?_eq_some_iff.1 HX1.out).1).trans HX1.out); clear hb) | (go_at_call 43; refine (HQ2.out w1 HB1.out).mono ?_; rintro e w2 ⟨rfl, hb⟩; have HB2 := Lib.hid (HB1.out.trans (hb.mono HB1.out.size)); clear hb))
    go_ret
    exact ⟨by rw [HDEC.out]; cases e2 <;> rfl, HB2.out⟩
end Go.Proofs.Ytgnbkfkiigcdgaa
