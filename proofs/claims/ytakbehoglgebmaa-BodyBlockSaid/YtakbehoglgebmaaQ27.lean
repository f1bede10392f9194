/-
  Layer 10's program: Local, and whether all locals are of whole numbers.
-/
import Derived.Test.YtakbehoglgebmaaQ26
import Derived.Test.YtakbehoglgebmaaQ22
import Derived.Lib.BitFns
import Derived.Lib.Tables
namespace Bo
theorem runs_step {l : List Bin.Lc} {j i : Nat} {x : Bin.Lc} (h : l[j]? = some x) : runs (l.drop j) i = if i < x.n then some x.t else runs (l.drop (j + 1)) (i - x.n) := by
  obtain ⟨hj, e⟩ := List.getElem?_eq_some_iff.1 h
  rw [List.drop_eq_getElem_cons hj, e, runs]
theorem runs_end {l : List Bin.Lc} {j i : Nat} (h : l.length ≤ j) : runs (l.drop j) i = none := by
  rw [List.drop_eq_nil_of_le h, runs]
theorem locB_take {l : List Bin.Lc} {j : Nat} {x : Bin.Lc} (h : l[j]? = some x) : locB (l.take (j + 1)) = (locB (l.take j) && (x.n == 0 || (x.t == 127 || x.t == 126))) := by
  unfold locB
  rw [List.take_add_one, h, List.all_append]
  simp
theorem locB_no {l : List Bin.Lc} {j : Nat} {x : Bin.Lc} (h : l[j]? = some x) (hx : (x.n == 0 || (x.t == 127 || x.t == 126)) = false) : locB l = false := by
  unfold locB
  rw [List.all_eq_false]
  exact ⟨x, List.mem_of_getElem? h, by simp [hx]⟩
end Bo
namespace Go.Proofs.Ytakbehoglgebmaa
open Go.RowKit Ins Bin Sp
theorem lc_at {w : World} {S : Nat → Prop} {A : Option Addr} {xs : List Lc} {k : Nat} {x : Lc} (h : HasL w S A xs) (hx : xs[k]? = some x) : ∃ g o, A = some ⟨g, o, none⟩ ∧ g < w.heap.size ∧ x.n < 4294967296 ∧ w.cell? ⟨g, o + k * 2, none⟩ = some (.int .u32 (x.n : Int)) ∧ w.cell? ⟨g, o + k * 2 + 1, none⟩ = some (.int .u8 (x.t.toNat : Int)) := by
  obtain ⟨g, o, cs, h1, _, h3, ⟨rfl, hn⟩, h6⟩ := h k x hx
  exact ⟨g, o, h1, h3, hn, h6 0 _ rfl, h6 1 _ rfl⟩
theorem by_at {w : World} {S : Nat → Prop} {A : Option Addr} {xs : List UInt8} {k : Nat} {x : UInt8} (h : HasL w S A xs) (hx : xs[k]? = some x) : ∃ g o, A = some ⟨g, o, none⟩ ∧ g < w.heap.size ∧ w.cell? ⟨g, o + k, none⟩ = some (.int .u8 (x.toNat : Int)) := by
  obtain ⟨g, o, cs, h1, _, h3, hcs, h6⟩ := h k x hx
  have h' : cs = [.int .u8 (x.toNat : Int)] := hcs
  subst h'
  refine ⟨g, o, h1, h3, ?_⟩
  have := h6 0 _ rfl
  have e : Lay.size UInt8 = 1 := rfl
  rw [e, Nat.mul_one] at this
  exact this
theorem two_new (w : World) (x0 x1 y0 y1 : Value) (t u : TypeId) : ((w.alloc (.cells #[x0, x1] t)).alloc (.cells #[y0, y1] u)).heap[w.heap.size]? = some (.cells #[x0, x1] t (0, 0)) ∧ ((w.alloc (.cells #[x0, x1] t)).alloc (.cells #[y0, y1] u)).heap[w.heap.size + 1]? = some (.cells #[y0, y1] u (0, 0)) ∧ Below w.heap.size w ((w.alloc (.cells #[x0, x1] t)).alloc (.cells #[y0, y1] u)) := by
  refine ⟨(Below.heap_alloc _ _ _ (by simp)).trans (heap_alloc_new w _), ?_, ((Below.refl _ _).alloc (Nat.le_refl _) _).alloc (by simp) _⟩
  have h := heap_alloc_new (w.alloc (.cells #[x0, x1] t)) (.cells #[y0, y1] u)
  have e : (w.alloc (.cells #[x0, x1] t)).heap.size = w.heap.size + 1 := by simp
  rw [e] at h
  exact h
set_option maxRecDepth 100000 in
set_option maxHeartbeats 4000000 in
theorem blocal_any (ps : List UInt8) (ls : List Lc) (v1 v2 v3 v4 : Value) (i : Nat) (hi : i < 4294967296) (w : World) (hp : SliceV w (· < w.heap.size) ps v1) (hl : SliceV w (· < w.heap.size) ls v3) (h1 : ps.length ≤ 1000) (h2 : ls.length ≤ 1000) :
    Calls Try.prog 9 #[.agg #[v1, v2], .agg #[v3, v4], .int .u32 (i : Int)] w fun e w' => e = .returned (.tuple #[.int .u8 (((Bo.local' ps ls i).getD 0).toNat : Int), .bool (Bo.local' ps ls i).isSome]) ∧ Below w.heap.size w w' := by
  obtain ⟨A1, c1, rfl, _, _, _, hP⟩ := hp
  obtain ⟨A3, c3, rfl, _, _, _, hL⟩ := hl
  obtain ⟨n1, hn1⟩ : ∃ n, ps.length = n := ⟨_, rfl⟩
  obtain ⟨n3, hn3⟩ : ∃ n, ls.length = n := ⟨_, rfl⟩
  rw [hn1] at h1 ⊢
  rw [hn3] at h2 ⊢
  have HN1 := Lib.hid hn1
  have HN3 := Lib.hid hn3
  have HP := Lib.hid hP
  have HL := Lib.hid hL
  obtain ⟨t0, t1, t2⟩ := two_new w (.slice A1 n1 c1) v2 (.slice A3 n3 c3) v4 36 40
  have HX0 := Lib.hid t0
  have HX1 := Lib.hid t1
  have HB0 := Lib.hid t2
  clear t0 t1 t2 hP hL
  by_cases hip : i < n1
  · obtain ⟨x, hx⟩ : ∃ x, ps[i]? = some x := ⟨_, List.getElem?_eq_getElem (by omega)⟩
    have HA : Hid (Bo.local' ps ls i = some x) := Lib.hid (by unfold Bo.local'; rw [if_pos (by omega), hx])
    obtain ⟨g, oo, rfl, hg, hc⟩ := by_at HP.out hx
    have hii : (i : Int) < (n1 : Int) := by omega
    clear hx hn1 hn3 HP HL
    go_enter Try.func9, Try.ntmps9
    go_upto_region 1 with fail
    generalize (w.alloc (.cells #[.slice (some ⟨g, oo, none⟩) n1 c1, v2] 36)).alloc (.cells #[.slice A3 n3 c3, v4] 40) = w0 at HX0 HX1 HB0 ⊢
    have hc0 := (HB0.out.cell (p := ⟨g, oo + i, none⟩) hg).trans hc
    obtain ⟨y0, y1⟩ := two_cells HX0.out
    clear hc
    go_wp2_with fail
    go_ret2
    rw [HA.out]
    exact ⟨rfl, HB0.out⟩
  · have hii : decide ((i : Int) < (n1 : Int)) = false := decide_eq_false (by omega)
    have hii2 : decide (i < n1) = false := decide_eq_false hip
    have hge : (n1 : Int) ≤ (i : Int) := by omega
    have HA : Hid (Bo.local' ps ls i = Bo.runs (ls.drop 0) (i - n1)) := Lib.hid (by unfold Bo.local'; rw [if_neg (by omega), hn1, List.drop_zero])
    clear hn1 hn3 HP
    go_enter Try.func9, Try.ntmps9
    go_upto_region 1 with fail
    generalize (w.alloc (.cells #[.slice A1 n1 c1, v2] 36)).alloc (.cells #[.slice A3 n3 c3, v4] 40) = w0 at HX0 HX1 HB0 ⊢
    obtain ⟨y0, y1⟩ := two_cells HX0.out
    obtain ⟨y2, y3⟩ := two_cells HX1.out
    go_wp2_with fail
    go_loopw [8, 33] (fun lv iv wr => ∃ j left : Nat, j ≤ n3 ∧ iv = .int .i64 (j : Int) ∧ lv = .int .u64 (left : Int) ∧ left < 4294967296 ∧ Hid (Bo.local' ps ls i = Bo.runs (ls.drop j) left) ∧ Hid (Below w.heap.size w wr)) (fun _ iv _ => n3 - (intOf iv).toNat)
    case atStart => exact ⟨0, i - n1, by omega, rfl, by congr 1; omega, by omega, HA, HB0⟩
    case round =>
      obtain ⟨j, left, hj, rfl, rfl, hleft, HQ, HBW⟩ := hrel
      by_cases hjn : j < n3
      · obtain ⟨x, hx⟩ : ∃ x, ls[j]? = some x := ⟨_, List.getElem?_eq_getElem (by have := HN3.out; omega)⟩
        obtain ⟨g, oo, rfl, hg, hxn, hc0, hc1⟩ := lc_at HL.out hx
        have hji : (j : Int) < (n3 : Int) := by omega
        have k0 := (HBW.out.cell (p := ⟨g, oo + j * 2, none⟩) hg).trans hc0
        have k1 := (HBW.out.cell (p := ⟨g, oo + j * 2 + 1, none⟩) hg).trans hc1
        have HST := Lib.hid (Bo.runs_step (i := left) hx)
        clear hx hc0 hc1
        obtain ⟨xn, xt⟩ := x
        dsimp only at hxn k0 k1 HST
        by_cases hlx : left < xn
        · have hlxi : (left : Int) < (xn : Int) := by omega
          have HRES : Hid (Bo.local' ps ls i = some xt) := Lib.hid (by rw [HQ.out, HST.out, if_pos hlx])
          go_wp2_with fail
          go_ret2
          rw [HRES.out]
          exact ⟨rfl, HBW.out.alloc HBW.out.size _⟩
        · have hlxi : decide ((left : Int) < (xn : Int)) = false := decide_eq_false (by omega)
          have hlx2 : decide (left < xn) = false := decide_eq_false hlx
          have hge2 : (xn : Int) ≤ (left : Int) := by omega
          have HRES : Hid (Bo.local' ps ls i = Bo.runs (ls.drop (j + 1)) (left - xn)) := Lib.hid (by rw [HQ.out, HST.out, if_neg hlx])
          clear hlx
          go_wp2_with fail
          go_roundw
          case rel => exact ⟨j + 1, left - xn, by omega, by go_num, by congr 1; omega, by omega, HRES, Lib.hid (HBW.out.alloc HBW.out.size _)⟩
          case measure => simp [intOf]; omega
      · have hji : decide ((j : Int) < (n3 : Int)) = false := decide_eq_false (by omega)
        have hjn2 : decide (j < n3) = false := decide_eq_false hjn
        have HRES : Hid (Bo.local' ps ls i = none) := Lib.hid (by rw [HQ.out, Bo.runs_end (by have := HN3.out; omega)])
        go_wp2_with fail
        go_ret2
        rw [HRES.out]
        exact ⟨rfl, HBW.out⟩
set_option maxRecDepth 100000 in
set_option maxHeartbeats 4000000 in
theorem bwhole_any (ls : List Lc) (v3 : Value) (w : World) (hl : SliceV w (· < w.heap.size) ls v3) (h2 : ls.length ≤ 1000) :
    Calls Try.prog 26 #[v3] w fun e w' => e = .returned (.bool (Bo.locB ls)) ∧ Below w.heap.size w w' := by
  obtain ⟨A3, c3, rfl, _, _, _, hL⟩ := hl
  obtain ⟨n3, hn3⟩ : ∃ n, ls.length = n := ⟨_, rfl⟩
  rw [hn3] at h2 ⊢
  have HN3 := Lib.hid hn3
  have HL := Lib.hid hL
  clear hL hn3
  go_enter Try.func26, Try.ntmps26
  go_wp2_with fail
  go_loopw [7] (fun iv wr => ∃ j : Nat, j ≤ n3 ∧ iv = .int .i64 (j : Int) ∧ Hid (Bo.locB (ls.take j) = true) ∧ Hid (Below w.heap.size w wr)) (fun iv _ => n3 - (intOf iv).toNat)
  case atStart => exact ⟨0, by omega, rfl, Lib.hid rfl, Lib.hid (Below.refl _ _)⟩
  case round =>
    obtain ⟨j, hj, rfl, HQ, HBW⟩ := hrel
    by_cases hjn : j < n3
    · obtain ⟨x, hx⟩ : ∃ x, ls[j]? = some x := ⟨_, List.getElem?_eq_getElem (by have := HN3.out; omega)⟩
      obtain ⟨g, oo, rfl, hg, hxn, hc0, hc1⟩ := lc_at HL.out hx
      have hji : (j : Int) < (n3 : Int) := by omega
      have k0 := (HBW.out.cell (p := ⟨g, oo + j * 2, none⟩) hg).trans hc0
      have k1 := (HBW.out.cell (p := ⟨g, oo + j * 2 + 1, none⟩) hg).trans hc1
      have HST := Lib.hid (Bo.locB_take hx)
      have HNO := Lib.hid (Bo.locB_no hx)
      clear hx hc0 hc1
      obtain ⟨xn, xt⟩ := x
      dsimp only at hxn k0 k1 HST HNO
      cases hb : (xn == 0 || (xt == 127 || xt == 126)) with
      | true =>
        have HTR : Hid (Bo.locB (ls.take (j + 1)) = true) := Lib.hid (by rw [HST.out, HQ.out, hb]; rfl)
        clear HNO HST
        by_cases h0 : xn = 0
        · subst h0
          clear hb
          go_wp2_with fail
          go_roundw
          case rel => exact ⟨j + 1, by omega, by go_num, HTR, Lib.hid (HBW.out.alloc HBW.out.size _)⟩
          case measure => simp [intOf]; omega
        · have hpos : (0 : Int) < (xn : Int) := by omega
          have hxt : xt = 127 ∨ xt = 126 := by
            rw [Bool.or_eq_true, beq_iff_eq] at hb
            rcases hb with hb | hb
            · exact absurd hb h0
            · rw [Bool.or_eq_true, beq_iff_eq, beq_iff_eq] at hb
              exact hb
          clear hb h0
          rcases hxt with rfl | rfl
          · go_wp2_with fail
            go_roundw
            case rel => exact ⟨j + 1, by omega, by go_num, HTR, Lib.hid (HBW.out.alloc HBW.out.size _)⟩
            case measure => simp [intOf]; omega
          · go_wp2_with fail
            go_roundw
            case rel => exact ⟨j + 1, by omega, by go_num, HTR, Lib.hid (HBW.out.alloc HBW.out.size _)⟩
            case measure => simp [intOf]; omega
      | false =>
        have HFL := Lib.hid (HNO.out hb)
        rw [Bool.or_eq_false_iff, Bool.or_eq_false_iff, beq_eq_false_iff_ne, beq_eq_false_iff_ne, beq_eq_false_iff_ne] at hb
        obtain ⟨h0, h1, h2'⟩ := hb
        have hpos : (0 : Int) < (xn : Int) := by omega
        obtain ⟨t, ht⟩ : ∃ t, xt.toNat = t := ⟨_, rfl⟩
        have ht1 : ((t : Int) == 127) = false := by
          rw [beq_eq_false_iff_ne]; intro e
          exact h1 (UInt8.toNat_inj.1 (by rw [ht]; have : t = 127 := by omega
                                          rw [this]; rfl))
        have ht2 : ((t : Int) == 126) = false := by
          rw [beq_eq_false_iff_ne]; intro e
          exact h2' (UInt8.toNat_inj.1 (by rw [ht]; have : t = 126 := by omega
                                           rw [this]; rfl))
        rw [ht] at k1
        have ht3 : ((t : Int) != 127) = true := by rw [bne, ht1]; rfl
        have ht4 : ((t : Int) != 126) = true := by rw [bne, ht2]; rfl
        have ht5 : ¬ ((t : Int) = 127) := by intro e; rw [e] at ht1; exact absurd ht1 (by decide)
        have ht6 : ¬ ((t : Int) = 126) := by intro e; rw [e] at ht2; exact absurd ht2 (by decide)
        have hp0 : 0 < xn := by omega
        clear HNO HST h0 h1 h2' ht
        go_wp2_with fail
        go_ret
        rw [HFL.out]
        exact ⟨rfl, HBW.out.alloc HBW.out.size _⟩
    · have hji : decide ((j : Int) < (n3 : Int)) = false := decide_eq_false (by omega)
      have hjn2 : decide (j < n3) = false := decide_eq_false hjn
      have HTR : Hid (Bo.locB ls = true) := Lib.hid (by
        have h := HQ.out
        rw [List.take_of_length_le (by have := HN3.out; omega)] at h
        exact h)
      go_wp2_with fail
      go_ret
      rw [HTR.out]
      exact ⟨rfl, HBW.out⟩
end Go.Proofs.Ytakbehoglgebmaa
/-
  Layer 10's program: math/bits.Len, as layer 1's text has it, over any program; how many bits an access' bytes have.
-/
namespace Go.Proofs.Ytakbehoglgebmaa
open Go.RowKit Ins Bin Sp
theorem len8_at (i : Nat) (h : i < Lib.len8tab.size) : ((Lib.len8tab[i].toNat : Nat) : Int) = (Lib.bitLen i : Int) := by
  have hs := Lib.len8tab_size
  have e := Lib.len8_of (i : Int) (by omega) (by omega)
  rw [Int.toNat_natCast] at e
  rw [← e]
  unfold Lib.len8
  rw [Int.toNat_natCast]
  simp [h]
theorem wrap_len (c : Int) (i : Nat) (h : i < Lib.len8tab.size) (hc0 : 0 ≤ c) (hc1 : c ≤ 100) : wrap64 (c + wrap64 ((Lib.len8tab[i].toNat : Nat) : Int)) = c + (Lib.bitLen i : Int) := by
  have hs := Lib.len8tab_size
  have hl := Lib.bitLen_le8 ⟨i, by omega⟩
  simp only at hl
  rw [len8_at i h]
  unfold wrap64
  omega
theorem len_done (c i m : Nat) (hc : c ≤ 100) (hm : Lib.bitLen m = c + Lib.bitLen i) (h : i < Lib.len8tab.size) : wrap64 ((c : Int) + wrap64 ((Lib.len8tab[i].toNat : Nat) : Int)) = (Lib.bitLen m : Int) := by
  rw [wrap_len c i h (by omega) (by omega), hm]; omega
theorem len_done0 (i : Nat) (h : i < Lib.len8tab.size) : wrap64 (wrap64 ((Lib.len8tab[i].toNat : Nat) : Int)) = (Lib.bitLen i : Int) := by
  have := wrap_len 0 i h (by omega) (by omega)
  simpa using this
set_option maxRecDepth 1000000 in
set_option maxHeartbeats 4000000 in
theorem c14 (x : Int) (w : World) (h0 : 0 ≤ x) (h1 : x ≤ 18446744073709551615) :
    Calls Try.prog 94 #[.int .u64 x] w fun e w' => e = .returned (.int .i64 (Lib.bitLen x.toNat : Int)) ∧ w = w' := by
  have hts := Lib.len8tab_size
  go_enter Try.func94, Try.ntmps94
  go_wp2
  all_goals (go_ret; refine ⟨congrArg Ending.returned (congrArg (Value.int IntKind.i64) ?_), rfl⟩)
  · have e : (x / 4294967296 / 65536 / 256).toNat = x.toNat / 72057594037927936 := by omega
    refine (len_done 56 (x / 4294967296 / 65536 / 256).toNat x.toNat (by omega) ?_ _)
    rw [e]; exact Lib.bitLen_shift56 x.toNat (by omega) (by omega)
  · have e : (x / 4294967296 / 65536).toNat = x.toNat / 281474976710656 := by omega
    refine (len_done 48 (x / 4294967296 / 65536).toNat x.toNat (by omega) ?_ _)
    rw [e]; exact Lib.bitLen_shift48 x.toNat (by omega) (by omega)
  · have e : (x / 4294967296 / 256).toNat = x.toNat / 1099511627776 := by omega
    refine (len_done 40 (x / 4294967296 / 256).toNat x.toNat (by omega) ?_ _)
    rw [e]; exact Lib.bitLen_shift40 x.toNat (by omega) (by omega)
  · have e : (x / 4294967296).toNat = x.toNat / 4294967296 := by omega
    refine (len_done 32 (x / 4294967296).toNat x.toNat (by omega) ?_ _)
    rw [e]; exact Lib.bitLen_shift32 x.toNat (by omega) (by omega)
  · have e : (x / 65536 / 256).toNat = x.toNat / 16777216 := by omega
    refine (len_done 24 (x / 65536 / 256).toNat x.toNat (by omega) ?_ _)
    rw [e]; exact Lib.bitLen_shift24 x.toNat (by omega) (by omega)
  · have e : (x / 65536).toNat = x.toNat / 65536 := by omega
    refine (len_done 16 (x / 65536).toNat x.toNat (by omega) ?_ _)
    rw [e]; exact Lib.bitLen_shift16 x.toNat (by omega) (by omega)
  · have e : (x / 256).toNat = x.toNat / 256 := by omega
    refine (len_done 8 (x / 256).toNat x.toNat (by omega) ?_ _)
    rw [e]; exact Lib.bitLen_shift8 x.toNat (by omega) (by omega)
  · exact len_done0 x.toNat _

set_option maxRecDepth 100000 in
theorem blen_any (x : Int) (w : World) (h0 : 0 ≤ x) (h1 : x ≤ 18446744073709551615) :
    Calls Try.prog 79 #[.int .u64 x] w fun e w' => e = .returned (.int .i64 (Lib.bitLen x.toNat : Int)) ∧ w = w' := by
  have HC := Lib.hid (fun W => c14 x W h0 h1)
  clear h0 h1
  go_enter Try.func79, Try.ntmps79
  go_wp2_with (go_at_call 94; refine (HC.out _).mono ?_; rintro e w1 ⟨rfl, rfl⟩)
  go_ret
  exact ⟨rfl, rfl⟩
theorem width_bits (op : Nat) (h : 0 < Opc.width op) : (Lib.bitLen (Opc.width op).toNat = Bo.blen (Opc.width op)) ∧ 0 ≤ Opc.width op ∧ Opc.width op ≤ 8 := by
  unfold Opc.width at h ⊢
  (repeat' split) <;> first
    | exact ⟨by decide, by decide, by decide⟩
    | (exfalso; revert h; simp_all)
end Go.Proofs.Ytakbehoglgebmaa
