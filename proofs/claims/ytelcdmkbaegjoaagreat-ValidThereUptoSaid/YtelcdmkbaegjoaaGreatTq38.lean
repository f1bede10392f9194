/-
  Layer 10's program: Local, and whether all locals are of whole numbers.
-/
import Derived.Test.YtelcdmkbaegjoaaGreatTq01
import Derived.Test.YtelcdmkbaegjoaaGreatTq37
import Derived.Test.YtelcdmkbaegjoaaGreatTq35
import Derived.Lib.BitFns
import Derived.Lib.Tables
set_option maxRecDepth 100000
set_option maxHeartbeats 4000000
namespace Bo
theorem runs_step {l : List Bin.Lc} {j i : Nat} {x : Bin.Lc} (h : l[j]? = some x) : runs (l.drop j) i = if i < x.n then some x.t else runs (l.drop (j + 1)) (i - x.n) := by
 obtain ⟨hj, e⟩ := List.getElem?_eq_some_iff.1 h
 rw [List.drop_eq_getElem_cons hj, e, runs]
theorem runs_end {l : List Bin.Lc} {j i : Nat} (h : l.length ≤ j) : runs (l.drop j) i = none := by
 rw [List.drop_eq_nil_of_le h, runs]
theorem locB_take {l : List Bin.Lc} {j : Nat} {x : Bin.Lc} (h : l[j]? = some x) : locB (l.take (j + 1)) = (locB (l.take j) && (x.n == 0 || (x.t == 127 || x.t == 126))) := by
 unfold locB
 rw [List.take_add_one, h, List.all_append]
 simp
theorem locB_no {l : List Bin.Lc} {j : Nat} {x : Bin.Lc} (h : l[j]? = some x) (hx : (x.n == 0 || (x.t == 127 || x.t == 126)) = false) : locB l = false := by
 unfold locB
 rw [List.all_eq_false]
 exact ⟨x, List.mem_of_getElem? h, by simp [hx]⟩
end Bo
namespace Go.Proofs.YtelcdmkbaegjoaaGreat
open Go.RowKit Ins Bin Sp
theorem lc_at {w : World} {S : Nat → Prop} {A : Option Addr} {xs : List Lc} {k : Nat} {x : Lc} (h : HasL w S A xs) (hx : xs[k]? = some x) : ∃ g o, A = some ⟨g, o, none⟩ ∧ g < w.heap.size ∧ x.n < 4294967296 ∧ w.cell? ⟨g, o + k * 2, none⟩ = some (.int .u32 (x.n : Int)) ∧ w.cell? ⟨g, o + k * 2 + 1, none⟩ = some (.int .u8 (x.t.toNat : Int)) := by
 obtain ⟨g, o, cs, h1, _, h3, ⟨rfl, hn⟩, h6⟩ := h k x hx
 exact ⟨g, o, h1, h3, hn, h6 0 _ rfl, h6 1 _ rfl⟩
theorem by_at {w : World} {S : Nat → Prop} {A : Option Addr} {xs : List UInt8} {k : Nat} {x : UInt8} (h : HasL w S A xs) (hx : xs[k]? = some x) : ∃ g o, A = some ⟨g, o, none⟩ ∧ g < w.heap.size ∧ w.cell? ⟨g, o + k, none⟩ = some (.int .u8 (x.toNat : Int)) := by
 obtain ⟨g, o, cs, h1, _, h3, hcs, h6⟩ := h k x hx
 have h' : cs = [.int .u8 (x.toNat : Int)] := hcs
 subst h'
 refine ⟨g, o, h1, h3, ?_⟩
 have := h6 0 _ rfl
 have e : Lay.size UInt8 = 1 := rfl
 rw [e, Nat.mul_one] at this
 exact this
theorem two_new (w : World) (x0 x1 y0 y1 : Value) (t u : TypeId) : ((w.alloc (.cells #[x0, x1] t)).alloc (.cells #[y0, y1] u)).heap[w.heap.size]? = some (.cells #[x0, x1] t (0, 0)) ∧ ((w.alloc (.cells #[x0, x1] t)).alloc (.cells #[y0, y1] u)).heap[w.heap.size + 1]? = some (.cells #[y0, y1] u (0, 0)) ∧ Below w.heap.size w ((w.alloc (.cells #[x0, x1] t)).alloc (.cells #[y0, y1] u)) := by
 refine ⟨(Below.heap_alloc _ _ _ (by simp)).trans (heap_alloc_new w _), ?_, ((Below.refl _ _).alloc (Nat.le_refl _) _).alloc (by simp) _⟩
 have h := heap_alloc_new (w.alloc (.cells #[x0, x1] t)) (.cells #[y0, y1] u)
 have e : (w.alloc (.cells #[x0, x1] t)).heap.size = w.heap.size + 1 := by simp
 rw [e] at h
 exact h
theorem blocal_any (ps : List UInt8) (ls : List Lc) (v1 v2 v3 v4 : Value) (i : Nat) (hi : i < 4294967296) (w : World) (hp : ab w (· < w.heap.size) ps v1) (hl : ab w (· < w.heap.size) ls v3) (h1 : ps.length ≤ 1050000) (h2 : ls.length ≤ 1050000) :
  Calls Tryz.prog 110 #[.agg #[v1, v2], .agg #[v3, v4], .int .u32 (i : Int)] w fun e w' => e = .returned (.tuple #[.int .u8 (((Bo.local' ps ls i).getD 0).toNat : Int), .bool (Bo.local' ps ls i).isSome]) ∧ Below w.heap.size w w' := by
 obtain ⟨A1, c1, rfl, _, _, _, hP⟩ := hp
 obtain ⟨A3, c3, rfl, _, _, _, hL⟩ := hl
 obtain ⟨n1, hn1⟩ : ∃ n, ps.length = n := ⟨_, rfl⟩
 obtain ⟨n3, hn3⟩ : ∃ n, ls.length = n := ⟨_, rfl⟩
 rw [hn1] at h1 ⊢
 rw [hn3] at h2 ⊢
 have HN1 := J hn1
 have HN3 := J hn3
 have HP := J hP
 have HL := J hL
 obtain ⟨t0, t1, t2⟩ := two_new w (.slice A1 n1 c1) v2 (.slice A3 n3 c3) v4 51 48
 have HX0 := J t0
 have HX1 := J t1
 have HB0 := J t2
 clear t0 t1 t2 hP hL
 by_cases hip : i < n1
 ·obtain ⟨x, hx⟩ : ∃ x, ps[i]? = some x := ⟨_, List.getElem?_eq_getElem (by omega)⟩
  have HA : Hid (Bo.local' ps ls i = some x) := J (by unfold Bo.local'; rw [if_pos (by omega), hx])
  obtain ⟨g, oo, rfl, hg, hc⟩ := by_at HP.out hx
  have hii : (i : Int) < (n1 : Int) := by omega
  clear hx hn1 hn3 HP HL
  go_enter Tryz.func110, Tryz.ntmps110
  go_upto_region 1 with fail
  generalize (w.alloc (.cells #[.slice (some ⟨g, oo, none⟩) n1 c1, v2] 51)).alloc (.cells #[.slice A3 n3 c3, v4] 48) = w0 at HX0 HX1 HB0 ⊢
  have hc0 := (HB0.out.cell (p := ⟨g, oo + i, none⟩) hg).trans hc
  obtain ⟨y0, y1⟩ := ae HX0.out
  clear hc
  go_wp2_with fail
  go_ret2
  rw [HA.out]
  exact ⟨rfl, HB0.out⟩
 ·have hii : decide ((i : Int) < (n1 : Int)) = false := decide_eq_false (by omega)
  have hii2 : decide (i < n1) = false := decide_eq_false hip
  have hge : (n1 : Int) ≤ (i : Int) := by omega
  have HA : Hid (Bo.local' ps ls i = Bo.runs (ls.drop 0) (i - n1)) := J (by unfold Bo.local'; rw [if_neg (by omega), hn1, List.drop_zero])
  clear hn1 hn3 HP
  go_enter Tryz.func110, Tryz.ntmps110
  go_upto_region 1 with fail
  generalize (w.alloc (.cells #[.slice A1 n1 c1, v2] 51)).alloc (.cells #[.slice A3 n3 c3, v4] 48) = w0 at HX0 HX1 HB0 ⊢
  obtain ⟨y0, y1⟩ := ae HX0.out
  obtain ⟨y2, y3⟩ := ae HX1.out
  go_wp2_with fail
  go_loopw [8, 33] (fun lv iv wr => ∃ j left : Nat, j ≤ n3 ∧ iv = .int .i64 (j : Int) ∧ lv = .int .u64 (left : Int) ∧ left < 4294967296 ∧ Hid (Bo.local' ps ls i = Bo.runs (ls.drop j) left) ∧ Hid (Below w.heap.size w wr)) (fun _ iv _ => n3 - (intOf iv).toNat)
  case atStart => exact ⟨0, i - n1, by omega, rfl, by congr 1; omega, by omega, HA, HB0⟩
  case round =>
   obtain ⟨j, left, hj, rfl, rfl, hleft, HQ, HBW⟩ := hrel
   by_cases hjn : j < n3
   ·obtain ⟨x, hx⟩ : ∃ x, ls[j]? = some x := ⟨_, List.getElem?_eq_getElem (by have := HN3.out; omega)⟩
    obtain ⟨g, oo, rfl, hg, hxn, hc0, hc1⟩ := lc_at HL.out hx
    have hji : (j : Int) < (n3 : Int) := by omega
    have k0 := (HBW.out.cell (p := ⟨g, oo + j * 2, none⟩) hg).trans hc0
    have k1 := (HBW.out.cell (p := ⟨g, oo + j * 2 + 1, none⟩) hg).trans hc1
    have HST := J (Bo.runs_step (i := left) hx)
    clear hx hc0 hc1
    obtain ⟨xn, xt⟩ := x
    dsimp only at hxn k0 k1 HST
    by_cases hlx : left < xn
    ·have hlxi : (left : Int) < (xn : Int) := by omega
     have HRES : Hid (Bo.local' ps ls i = some xt) := J (by rw [HQ.out, HST.out, if_pos hlx])
     go_wp2_with fail
     go_ret2
     rw [HRES.out]
     exact ⟨rfl, HBW.out.alloc HBW.out.size _⟩
    ·have hlxi : decide ((left : Int) < (xn : Int)) = false := decide_eq_false (by omega)
     have hlx2 : decide (left < xn) = false := decide_eq_false hlx
     have hge2 : (xn : Int) ≤ (left : Int) := by omega
     have HRES : Hid (Bo.local' ps ls i = Bo.runs (ls.drop (j + 1)) (left - xn)) := J (by rw [HQ.out, HST.out, if_neg hlx])
     clear hlx
     go_wp2_with fail
     go_roundw
     case rel => exact ⟨j + 1, left - xn, by omega, by go_num, by congr 1; omega, by omega, HRES, J (HBW.out.alloc HBW.out.size _)⟩
     case measure => simp [intOf]; omega
   ·have hji : decide ((j : Int) < (n3 : Int)) = false := decide_eq_false (by omega)
    have hjn2 : decide (j < n3) = false := decide_eq_false hjn
    have HRES : Hid (Bo.local' ps ls i = none) := J (by rw [HQ.out, Bo.runs_end (by have := HN3.out; omega)])
    go_wp2_with fail
    go_ret2
    rw [HRES.out]
    exact ⟨rfl, HBW.out⟩
theorem bwhole_any (ls : List Lc) (v3 : Value) (w : World) (hl : ab w (· < w.heap.size) ls v3) (h2 : ls.length ≤ 1050000) :
  Calls Tryz.prog 46 #[v3] w fun e w' => e = .returned (.bool (Bo.locB ls)) ∧ Below w.heap.size w w' := by
 obtain ⟨A3, c3, rfl, _, _, _, hL⟩ := hl
 obtain ⟨n3, hn3⟩ : ∃ n, ls.length = n := ⟨_, rfl⟩
 rw [hn3] at h2 ⊢
 have HN3 := J hn3
 have HL := J hL
 clear hL hn3
 go_enter Tryz.func46, Tryz.ntmps46
 go_wp2_with fail
 go_loopw [7] (fun iv wr => ∃ j : Nat, j ≤ n3 ∧ iv = .int .i64 (j : Int) ∧ Hid (Bo.locB (ls.take j) = true) ∧ Hid (Below w.heap.size w wr)) (fun iv _ => n3 - (intOf iv).toNat)
 case atStart => exact ⟨0, by omega, rfl, J rfl, J (Below.refl _ _)⟩
 case round =>
  obtain ⟨j, hj, rfl, HQ, HBW⟩ := hrel
  by_cases hjn : j < n3
  ·obtain ⟨x, hx⟩ : ∃ x, ls[j]? = some x := ⟨_, List.getElem?_eq_getElem (by have := HN3.out; omega)⟩
   obtain ⟨g, oo, rfl, hg, hxn, hc0, hc1⟩ := lc_at HL.out hx
   have hji : (j : Int) < (n3 : Int) := by omega
   have k0 := (HBW.out.cell (p := ⟨g, oo + j * 2, none⟩) hg).trans hc0
   have k1 := (HBW.out.cell (p := ⟨g, oo + j * 2 + 1, none⟩) hg).trans hc1
   have HST := J (Bo.locB_take hx)
   have HNO := J (Bo.locB_no hx)
   clear hx hc0 hc1
   obtain ⟨xn, xt⟩ := x
   dsimp only at hxn k0 k1 HST HNO
   cases hb : (xn == 0 || (xt == 127 || xt == 126)) with
   | true =>
    have HTR : Hid (Bo.locB (ls.take (j + 1)) = true) := J (by rw [HST.out, HQ.out, hb]; rfl)
    clear HNO HST
    by_cases h0 : xn = 0
    ·subst h0
     clear hb
     go_wp2_with fail
     go_roundw
     case rel => exact ⟨j + 1, by omega, by go_num, HTR, J (HBW.out.alloc HBW.out.size _)⟩
     case measure => simp [intOf]; omega
    ·have hpos : (0 : Int) < (xn : Int) := by omega
     have hxt : xt = 127 ∨ xt = 126 := by
      rw [Bool.or_eq_true, beq_iff_eq] at hb
      rcases hb with hb | hb
      ·exact absurd hb h0
      ·rw [Bool.or_eq_true, beq_iff_eq, beq_iff_eq] at hb
       exact hb
     clear hb h0
     rcases hxt with rfl | rfl
     ·go_wp2_with fail
      go_roundw
      case rel => exact ⟨j + 1, by omega, by go_num, HTR, J (HBW.out.alloc HBW.out.size _)⟩
      case measure => simp [intOf]; omega
     ·go_wp2_with fail
      go_roundw
      case rel => exact ⟨j + 1, by omega, by go_num, HTR, J (HBW.out.alloc HBW.out.size _)⟩
      case measure => simp [intOf]; omega
   | false =>
    have HFL := J (HNO.out hb)
    rw [Bool.or_eq_false_iff, Bool.or_eq_false_iff, beq_eq_false_iff_ne, beq_eq_false_iff_ne, beq_eq_false_iff_ne] at hb
    obtain ⟨h0, h1, h2'⟩ := hb
    have hpos : (0 : Int) < (xn : Int) := by omega
    obtain ⟨t, ht⟩ : ∃ t, xt.toNat = t := ⟨_, rfl⟩
    have ht1 : ((t : Int) == 127) = false := by
     rw [beq_eq_false_iff_ne]; intro e
     exact h1 (UInt8.toNat_inj.1 (by have h9 : t = 127 := (by omega); rw [ht, h9]; rfl))
    have ht2 : ((t : Int) == 126) = false := by
     rw [beq_eq_false_iff_ne]; intro e
     exact h2' (UInt8.toNat_inj.1 (by have h9 : t = 126 := (by omega); rw [ht, h9]; rfl))
    rw [ht] at k1
    have ht3 : ((t : Int) != 127) = true := by rw [bne, ht1]; rfl
    have ht4 : ((t : Int) != 126) = true := by rw [bne, ht2]; rfl
    have ht5 : ¬ ((t : Int) = 127) := by intro e; rw [e] at ht1; exact absurd ht1 (by decide)
    have ht6 : ¬ ((t : Int) = 126) := by intro e; rw [e] at ht2; exact absurd ht2 (by decide)
    have hp0 : 0 < xn := by omega
    clear HNO HST h0 h1 h2' ht
    go_wp2_with fail
    go_ret
    rw [HFL.out]
    exact ⟨rfl, HBW.out.alloc HBW.out.size _⟩
  ·have hji : decide ((j : Int) < (n3 : Int)) = false := decide_eq_false (by omega)
   have hjn2 : decide (j < n3) = false := decide_eq_false hjn
   have HTR : Hid (Bo.locB ls = true) := J (by
    have h := HQ.out
    rw [List.take_of_length_le (by have := HN3.out; omega)] at h
    exact h)
   go_wp2_with fail
   go_ret
   rw [HTR.out]
   exact ⟨rfl, HBW.out⟩
theorem len8_at (i : Nat) (h : i < Lib.len8tab.size) : ((Lib.len8tab[i].toNat : Nat) : Int) = (Lib.bitLen i : Int) := by
 have hs := Lib.len8tab_size
 have e := Lib.len8_of (i : Int) (by omega) (by omega)
 rw [Int.toNat_natCast] at e
 rw [← e]
 unfold Lib.len8
 rw [Int.toNat_natCast]
 simp [h]
theorem wrap_len (c : Int) (i : Nat) (h : i < Lib.len8tab.size) (hc0 : 0 ≤ c) (hc1 : c ≤ 100) : wrap64 (c + wrap64 ((Lib.len8tab[i].toNat : Nat) : Int)) = c + (Lib.bitLen i : Int) := by
 have hs := Lib.len8tab_size
 have hl := Lib.bitLen_le8 ⟨i, by omega⟩
 simp only at hl
 rw [len8_at i h]
 unfold wrap64
 omega
theorem bm (c i m : Nat) (hc : c ≤ 100) (hm : Lib.bitLen m = c + Lib.bitLen i) (h : i < Lib.len8tab.size) : wrap64 ((c : Int) + wrap64 ((Lib.len8tab[i].toNat : Nat) : Int)) = (Lib.bitLen m : Int) := by
 rw [wrap_len c i h (by omega) (by omega), hm]; omega
theorem len_done0 (i : Nat) (h : i < Lib.len8tab.size) : wrap64 (wrap64 ((Lib.len8tab[i].toNat : Nat) : Int)) = (Lib.bitLen i : Int) := by
 have := wrap_len 0 i h (by omega) (by omega)
 simpa using this
theorem c14 (x : Int) (w : World) (h0 : 0 ≤ x) (h1 : x ≤ 18446744073709551615) :
  Calls Tryz.prog 123 #[.int .u64 x] w fun e w' => e = .returned (.int .i64 (Lib.bitLen x.toNat : Int)) ∧ w = w' := by
 have hts := Lib.len8tab_size
 go_enter Tryz.func123, Tryz.ntmps123
 go_wp2
 all_goals (go_ret; refine ⟨congrArg Ending.returned (congrArg (Value.int IntKind.i64) ?_), rfl⟩)
 ·have e : (x / 4294967296 / 65536 / 256).toNat = x.toNat / 72057594037927936 := by omega
  refine (bm 56 (x / 4294967296 / 65536 / 256).toNat x.toNat (by omega) ?_ _)
  rw [e]; exact Lib.bitLen_shift56 x.toNat (by omega) (by omega)
 ·have e : (x / 4294967296 / 65536).toNat = x.toNat / 281474976710656 := by omega
  refine (bm 48 (x / 4294967296 / 65536).toNat x.toNat (by omega) ?_ _)
  rw [e]; exact Lib.bitLen_shift48 x.toNat (by omega) (by omega)
 ·have e : (x / 4294967296 / 256).toNat = x.toNat / 1099511627776 := by omega
  refine (bm 40 (x / 4294967296 / 256).toNat x.toNat (by omega) ?_ _)
  rw [e]; exact Lib.bitLen_shift40 x.toNat (by omega) (by omega)
 ·have e : (x / 4294967296).toNat = x.toNat / 4294967296 := by omega
  refine (bm 32 (x / 4294967296).toNat x.toNat (by omega) ?_ _)
  rw [e]; exact Lib.bitLen_shift32 x.toNat (by omega) (by omega)
 ·have e : (x / 65536 / 256).toNat = x.toNat / 16777216 := by omega
  refine (bm 24 (x / 65536 / 256).toNat x.toNat (by omega) ?_ _)
  rw [e]; exact Lib.bitLen_shift24 x.toNat (by omega) (by omega)
 ·have e : (x / 65536).toNat = x.toNat / 65536 := by omega
  refine (bm 16 (x / 65536).toNat x.toNat (by omega) ?_ _)
  rw [e]; exact Lib.bitLen_shift16 x.toNat (by omega) (by omega)
 ·have e : (x / 256).toNat = x.toNat / 256 := by omega
  refine (bm 8 (x / 256).toNat x.toNat (by omega) ?_ _)
  rw [e]; exact Lib.bitLen_shift8 x.toNat (by omega) (by omega)
 ·exact len_done0 x.toNat _
theorem blen_any (x : Int) (w : World) (h0 : 0 ≤ x) (h1 : x ≤ 18446744073709551615) :
  Calls Tryz.prog 112 #[.int .u64 x] w fun e w' => e = .returned (.int .i64 (Lib.bitLen x.toNat : Int)) ∧ w = w' := by
 have HC := J (fun W => c14 x W h0 h1)
 clear h0 h1
 go_enter Tryz.func112, Tryz.ntmps112
 go_wp2_with (go_at_call 123; refine (HC.out _).mono ?_; rintro e w1 ⟨rfl, rfl⟩)
 go_ret
 exact ⟨rfl, rfl⟩
theorem width_bits (op : Nat) (h : 0 < Opc.width op) : (Lib.bitLen (Opc.width op).toNat = Bo.blen (Opc.width op)) ∧ 0 ≤ Opc.width op ∧ Opc.width op ≤ 8 := by
 unfold Opc.width at h ⊢
 (repeat' split) <;> first
  | exact ⟨by decide, by decide, by decide⟩
  | (exfalso; revert h; simp_all)
theorem cT {C : Ctx} {R P n : Nat} {w : World} {G : Nat → Prop} {s : Ty.T} {o : List Bool} (hC : C.Good) (h : Wk C R P w G s o) (hs : s.sm n) (hn : n ≤ 400000000) (op a b : Nat) (c : Int) (A4 : Option Addr) (l4 c4 : Nat) (ha : a < 4294967296) :
  Calls Tryz.prog 83 #[.pointer (some ⟨R, 0, none⟩), .agg #[.int .u8 (op : Int), .int .u32 (a : Int), .int .u32 (b : Int), .int .i64 c, .slice A4 l4 c4]] w (ai C R P G o w (Bo.locl C.env op a s)) := by
 have HX0 := J (heap_alloc_new w (.cells #[.int .u8 (op : Int), .int .u32 (a : Int), .int .u32 (b : Int), .int .i64 c, .slice A4 l4 c4] 57))
 have HB0 : Hid (Below w.heap.size w (w.alloc (.cells #[.int .u8 (op : Int), .int .u32 (a : Int), .int .u32 (b : Int), .int .i64 c, .slice A4 l4 c4] 57))) := J ((Below.refl _ _).alloc (Nat.le_refl _) _)
 have H0 := J (h.on HB0.out)
 have HN0 : Hid (Nxt G w G (w.alloc (.cells #[.int .u8 (op : Int), .int .u32 (a : Int), .int .u32 (b : Int), .int .i64 c, .slice A4 l4 c4] 57))) := J (Nxt.of_below HB0.out)
 have HGX : Hid (¬ G w.heap.size ∧ w.heap.size < (w.alloc (.cells #[.int .u8 (op : Int), .int .u32 (a : Int), .int .u32 (b : Int), .int .i64 c, .slice A4 l4 c4] 57)).heap.size) := J ⟨fun hg => Nat.lt_irrefl _ (h.out _ hg).2, by simp⟩
 have HLO := J (fun (W : World) (hW : Wk C R P W G s o) => blocal_any C.ps C.ls C.v1 C.v2 C.v3 C.v4 a ha W (hC.ps.grow hW.base) (hC.ls.grow hW.base) hC.lp hC.ll)
 clear h
 go_enter Tryz.func83, Tryz.ntmps83
 go_upto_region 1 with fail
 generalize (w.alloc (.cells #[.int .u8 (op : Int), .int .u32 (a : Int), .int .u32 (b : Int), .int .i64 c, .slice A4 l4 c4] 57)) = w0 at HX0 HB0 H0 HN0 HGX ⊢
 obtain ⟨X, hX⟩ : ∃ X, w.heap.size = X := ⟨_, rfl⟩
 rw [hX] at HX0 HGX
 simp only [hX]
 clear hX HB0
 obtain ⟨z0, z1, z2, z3, z4⟩ := cells5 HX0.out
 obtain ⟨q0, q1, q2, q3, q4, q5⟩ := H0.out.cells
 have HCC := J (fun W (hb : Below w0.heap.size w0 W) => And.intro (cells5 ((hb.block X HGX.out.2).trans HX0.out)) (H0.out.on hb).cells)
 clear z0 z1 z2 z3 z4 q0 q1 q2 q3 q4 q5
 have HLO := J (fun W (hb : Below w0.heap.size w0 W) => HLO.out W (H0.out.on hb))
 obtain ⟨A11, c11, e11, _⟩ := hC.ps
 obtain ⟨A12, c12, e12, _⟩ := hC.rs
 obtain ⟨A13, c13, e13, _⟩ := hC.ls
 clear hC
 rw [e11, e12, e13] at HCC
 rw [e11, e12, e13] at HLO
 cases hx : Bo.local' C.ps C.ls a with
 | none =>
  have HLO : Hid (∀ W, Below w0.heap.size w0 W → Calls Tryz.prog 110 #[.agg #[.slice A11 C.ps.length c11, .slice A12 C.rs.length c12], .agg #[.slice A13 C.ls.length c13, C.v4], .int .u32 (a : Int)] W fun e w' => e = .returned (.tuple #[.int .u8 0, .bool false]) ∧ Below W.heap.size W w') := J (fun W hb => by
   have h := HLO.out W hb
   rw [hx] at h
   exact h)
  have HT : Hid (Bo.locl C.env op a s = .error 80) := J (by unfold Bo.locl Ctx.env; dsimp only; rw [hx])
  clear hx hs hn ha e11 e12 e13
  generalize C.ps.length = n1 at HLO HCC
  generalize C.rs.length = n2 at HLO HCC
  generalize C.ls.length = n3 at HLO HCC
  generalize C.v4 = v4 at HLO HCC
  go_upto_region 1 with fail
  refine wp_region_held_drew (S := fun W' => Below w0.heap.size w0 W') (by kernel_rfl) (Below.drew (Below.refl _ _)) (fun hHeld => ?_)
  refine dt 0 rfl (v := ?_) ?_ ?_
  rotate_left
  ·(intro wy hSw; obtain ⟨⟨z0, z1, z2, z3, z4⟩, q0, q1, q2, q3, q4, q5⟩ := HCC.out wy hSw; go_simp; try with_reducible rfl)
  simp only [Act.put, O]
  refine dt 1 rfl (v := ?_) ?_ ?_
  rotate_left
  ·(intro wy hSw; obtain ⟨⟨z0, z1, z2, z3, z4⟩, q0, q1, q2, q3, q4, q5⟩ := HCC.out wy hSw; go_simp; try with_reducible rfl)
  simp only [Act.put, O]
  refine dt 2 rfl (v := ?_) ?_ ?_
  rotate_left
  ·(intro wy hSw; obtain ⟨⟨z0, z1, z2, z3, z4⟩, q0, q1, q2, q3, q4, q5⟩ := HCC.out wy hSw; go_simp; try with_reducible rfl)
  simp only [Act.put, O]
  refine dt 3 rfl (v := ?_) ?_ ?_
  rotate_left
  ·(intro wy hSw; obtain ⟨⟨z0, z1, z2, z3, z4⟩, q0, q1, q2, q3, q4, q5⟩ := HCC.out wy hSw; go_simp; try with_reducible rfl)
  simp only [Act.put, O]
  refine dt 4 rfl (v := ?_) ?_ ?_
  rotate_left
  ·(intro wy hSw; obtain ⟨⟨z0, z1, z2, z3, z4⟩, q0, q1, q2, q3, q4, q5⟩ := HCC.out wy hSw; go_simp; try with_reducible rfl)
  simp only [Act.put, O]
  refine dt 5 rfl (v := ?_) ?_ ?_
  rotate_left
  ·(intro wy hSw; obtain ⟨⟨z0, z1, z2, z3, z4⟩, q0, q1, q2, q3, q4, q5⟩ := HCC.out wy hSw; go_simp; try with_reducible rfl)
  simp only [Act.put, O]
  refine dt 6 rfl (v := ?_) ?_ ?_
  rotate_left
  ·(intro wy hSw; obtain ⟨⟨z0, z1, z2, z3, z4⟩, q0, q1, q2, q3, q4, q5⟩ := HCC.out wy hSw; go_simp; try with_reducible rfl)
  simp only [Act.put, O]
  refine dt 7 rfl (v := ?_) ?_ ?_
  rotate_left
  ·(intro wy hSw; obtain ⟨⟨z0, z1, z2, z3, z4⟩, q0, q1, q2, q3, q4, q5⟩ := HCC.out wy hSw; go_simp; try with_reducible rfl)
  simp only [Act.put, O]
  refine dt 8 rfl (v := ?_) ?_ ?_
  rotate_left
  ·(intro wy hSw; obtain ⟨⟨z0, z1, z2, z3, z4⟩, q0, q1, q2, q3, q4, q5⟩ := HCC.out wy hSw; go_simp; try with_reducible rfl)
  simp only [Act.put, O]
  refine dt 9 rfl (v := ?_) ?_ ?_
  rotate_left
  ·(intro wy hSw; obtain ⟨⟨z0, z1, z2, z3, z4⟩, q0, q1, q2, q3, q4, q5⟩ := HCC.out wy hSw; go_simp; try with_reducible rfl)
  simp only [Act.put, O]
  refine aa 10 rfl (by kernel_rfl) (fun K hK => ?_)
  try (rw [if_pos]; case hc => rfl)
  go_simp
  refine (HLO.out _ hHeld).mono ?_
  rintro e w1 ⟨rfl, hb⟩
  have hH : Below w0.heap.size w0 w1 := hHeld.trans (hb.mono hHeld.size)
  have HW1 := J hH
  clear hb
  go_wp2_with fail
  refine hK.out _ _ (hH) (fun hHeld2 => ?_)
  clear hK K hHeld
  have hHeld := hHeld2
  clear hHeld2
  refine dv 11 rfl ?_
  refine dv 12 rfl ?_
  refine dv 13 rfl ?_
  refine dv 14 rfl ?_
  refine dv 15 rfl ?_
  refine wpAnyH_done (by kernel_rfl) ?_ _
  go_wp2_with fail
  go_ret
  exact ai.err HT.out (H0.out.on HW1.out).base
 | some t =>
  have HLO : Hid (∀ W, Below w0.heap.size w0 W → Calls Tryz.prog 110 #[.agg #[.slice A11 C.ps.length c11, .slice A12 C.rs.length c12], .agg #[.slice A13 C.ls.length c13, C.v4], .int .u32 (a : Int)] W fun e w' => e = .returned (.tuple #[.int .u8 (t.toNat : Int), .bool true]) ∧ Below W.heap.size W w') := J (fun W hb => by
   have h := HLO.out W hb
   rw [hx] at h
   exact h)
  have HT : Hid (Bo.locl C.env op a s = if op = 32 then Bo.turned s [] [t] else if op = 33 then Bo.turned s [t] [] else Bo.turned s [t] [t]) := J (by unfold Bo.locl Ctx.env; dsimp only; rw [hx])
  have HT1 := J (fun W v1 (hW : Wk C R P W G s o) (h1 : ab W (Apt W G) [t] v1) => aK hW hs hn [] [t] (.slice none 0 0) v1 (ab.nil _ _) h1 (by simp) (by simp))
  have HT2 := J (fun W v1 (hW : Wk C R P W G s o) (h1 : ab W (Apt W G) [t] v1) => aK hW hs hn [t] [] v1 (.slice none 0 0) h1 (ab.nil _ _) (by simp) (by simp))
  have HT3 := J (fun W v1 (hW : Wk C R P W G s o) (h1 : ab W (Apt W G) [t] v1) => aK hW hs hn [t] [t] v1 v1 h1 h1 (by simp) (by simp))
  clear hx hs hn ha e11 e12 e13
  generalize C.ps.length = n1 at HLO HCC
  generalize C.rs.length = n2 at HLO HCC
  generalize C.ls.length = n3 at HLO HCC
  generalize C.v4 = v4 at HLO HCC
  go_upto_region 1 with fail
  refine wp_region_held_drew (S := fun W' => Below w0.heap.size w0 W') (by kernel_rfl) (Below.drew (Below.refl _ _)) (fun hHeld => ?_)
  refine dt 0 rfl (v := ?_) ?_ ?_
  rotate_left
  ·(intro wy hSw; obtain ⟨⟨z0, z1, z2, z3, z4⟩, q0, q1, q2, q3, q4, q5⟩ := HCC.out wy hSw; go_simp; try with_reducible rfl)
  simp only [Act.put, O]
  refine dt 1 rfl (v := ?_) ?_ ?_
  rotate_left
  ·(intro wy hSw; obtain ⟨⟨z0, z1, z2, z3, z4⟩, q0, q1, q2, q3, q4, q5⟩ := HCC.out wy hSw; go_simp; try with_reducible rfl)
  simp only [Act.put, O]
  refine dt 2 rfl (v := ?_) ?_ ?_
  rotate_left
  ·(intro wy hSw; obtain ⟨⟨z0, z1, z2, z3, z4⟩, q0, q1, q2, q3, q4, q5⟩ := HCC.out wy hSw; go_simp; try with_reducible rfl)
  simp only [Act.put, O]
  refine dt 3 rfl (v := ?_) ?_ ?_
  rotate_left
  ·(intro wy hSw; obtain ⟨⟨z0, z1, z2, z3, z4⟩, q0, q1, q2, q3, q4, q5⟩ := HCC.out wy hSw; go_simp; try with_reducible rfl)
  simp only [Act.put, O]
  refine dt 4 rfl (v := ?_) ?_ ?_
  rotate_left
  ·(intro wy hSw; obtain ⟨⟨z0, z1, z2, z3, z4⟩, q0, q1, q2, q3, q4, q5⟩ := HCC.out wy hSw; go_simp; try with_reducible rfl)
  simp only [Act.put, O]
  refine dt 5 rfl (v := ?_) ?_ ?_
  rotate_left
  ·(intro wy hSw; obtain ⟨⟨z0, z1, z2, z3, z4⟩, q0, q1, q2, q3, q4, q5⟩ := HCC.out wy hSw; go_simp; try with_reducible rfl)
  simp only [Act.put, O]
  refine dt 6 rfl (v := ?_) ?_ ?_
  rotate_left
  ·(intro wy hSw; obtain ⟨⟨z0, z1, z2, z3, z4⟩, q0, q1, q2, q3, q4, q5⟩ := HCC.out wy hSw; go_simp; try with_reducible rfl)
  simp only [Act.put, O]
  refine dt 7 rfl (v := ?_) ?_ ?_
  rotate_left
  ·(intro wy hSw; obtain ⟨⟨z0, z1, z2, z3, z4⟩, q0, q1, q2, q3, q4, q5⟩ := HCC.out wy hSw; go_simp; try with_reducible rfl)
  simp only [Act.put, O]
  refine dt 8 rfl (v := ?_) ?_ ?_
  rotate_left
  ·(intro wy hSw; obtain ⟨⟨z0, z1, z2, z3, z4⟩, q0, q1, q2, q3, q4, q5⟩ := HCC.out wy hSw; go_simp; try with_reducible rfl)
  simp only [Act.put, O]
  refine dt 9 rfl (v := ?_) ?_ ?_
  rotate_left
  ·(intro wy hSw; obtain ⟨⟨z0, z1, z2, z3, z4⟩, q0, q1, q2, q3, q4, q5⟩ := HCC.out wy hSw; go_simp; try with_reducible rfl)
  simp only [Act.put, O]
  refine aa 10 rfl (by kernel_rfl) (fun K hK => ?_)
  try (rw [if_pos]; case hc => rfl)
  go_simp
  refine (HLO.out _ hHeld).mono ?_
  rintro e w1 ⟨rfl, hb⟩
  have hH : Below w0.heap.size w0 w1 := hHeld.trans (hb.mono hHeld.size)
  have HW1 := J hH
  clear hb
  go_wp2_with fail
  refine hK.out _ _ (hH) (fun hHeld2 => ?_)
  clear hK K hHeld
  have hHeld := hHeld2
  clear hHeld2
  refine dv 11 rfl ?_
  refine dv 12 rfl ?_
  refine dv 13 rfl ?_
  refine dv 14 rfl ?_
  refine dv 15 rfl ?_
  refine wpAnyH_done (by kernel_rfl) ?_ _
  obtain ⟨hl1, hl2, hl3⟩ := (H0.out.on HW1.out).lit t
  have HL1 := J hl1
  have HL2 := J hl2
  have HL3 := J hl3
  clear hl1 hl2 hl3
  obtain ⟨⟨x0, x1, x2, x3, x4⟩, _⟩ := HCC.out (w1.alloc (.cells #[.int .u8 (t.toNat : Int)] 5)) (HW1.out.alloc HW1.out.size _)
  by_cases h32 : op = 32
  ·subst h32
   have HTE : Hid (Bo.locl C.env 32 a s = Bo.turned s [] [t]) := J (HT.out.trans (if_pos rfl))
   have HTU := HT1
   clear HT2 HT3 HT1
   go_wp2_with (go_at_call 108; refine (HTU.out _ _ HL1.out HL3.out).mono ?_; rintro e w9 he; obtain ⟨k, rfl, hk⟩ := he.num; have HK := J hk; clear he hk)
   go_ret
   rw [HTE.out]
   exact ((HK.out.ahead HL2.out).ahead (Nxt.of_below HW1.out)).ahead HN0.out
  ·have h32i : ((op : Int) == 32) = false := by rw [beq_eq_false_iff_ne]; omega
   have h32j : ¬ ((op : Int) = 32) := by omega
   by_cases h33 : op = 33
   ·subst h33
    have HTE : Hid (Bo.locl C.env 33 a s = Bo.turned s [t] []) := J ((HT.out.trans (if_neg (by decide))).trans (if_pos rfl))
    have HTU := HT2
    clear HT1 HT3 HT2
    go_wp2_with (go_at_call 108; refine (HTU.out _ _ HL1.out HL3.out).mono ?_; rintro e w9 he; obtain ⟨k, rfl, hk⟩ := he.num; have HK := J hk; clear he hk)
    go_ret
    rw [HTE.out]
    exact ((HK.out.ahead HL2.out).ahead (Nxt.of_below HW1.out)).ahead HN0.out
   ·have h33i : ((op : Int) == 33) = false := by rw [beq_eq_false_iff_ne]; omega
    have h33j : ¬ ((op : Int) = 33) := by omega
    have HTU := HT3
    clear HT1 HT2 HT3
    go_wp2_with (go_at_call 108; refine (HTU.out _ _ HL1.out HL3.out).mono ?_; rintro e w9 he; obtain ⟨k, rfl, hk⟩ := he.num; have HK := J hk; clear he hk)
    go_ret
    rw [HT.out, if_neg h32, if_neg h33]
    exact ((HK.out.ahead HL2.out).ahead (Nxt.of_below HW1.out)).ahead HN0.out
theorem baccess_any {C : Ctx} {R P n : Nat} {w : World} {G : Nat → Prop} {s : Ty.T} {o : List Bool} (hC : C.Good) (h : Wk C R P w G s o) (hs : s.sm n) (hn : n ≤ 400000000) (op a b : Nat) (c : Int) (A4 : Option Addr) (l4 c4 : Nat) (hwd : 0 < Opc.width op) :
  Calls Tryz.prog 88 #[.pointer (some ⟨R, 0, none⟩), .agg #[.int .u8 (op : Int), .int .u32 (a : Int), .int .u32 (b : Int), .int .i64 c, .slice A4 l4 c4]] w (ai C R P G o w (Bo.access C.env op a s)) := by
 have HX0 := J (heap_alloc_new w (.cells #[.int .u8 (op : Int), .int .u32 (a : Int), .int .u32 (b : Int), .int .i64 c, .slice A4 l4 c4] 57))
 have HB0 : Hid (Below w.heap.size w (w.alloc (.cells #[.int .u8 (op : Int), .int .u32 (a : Int), .int .u32 (b : Int), .int .i64 c, .slice A4 l4 c4] 57))) := J ((Below.refl _ _).alloc (Nat.le_refl _) _)
 have H0 := J (h.on HB0.out)
 have HN0 : Hid (Nxt G w G (w.alloc (.cells #[.int .u8 (op : Int), .int .u32 (a : Int), .int .u32 (b : Int), .int .i64 c, .slice A4 l4 c4] 57))) := J (Nxt.of_below HB0.out)
 have HGX : Hid (¬ G w.heap.size ∧ w.heap.size < (w.alloc (.cells #[.int .u8 (op : Int), .int .u32 (a : Int), .int .u32 (b : Int), .int .i64 c, .slice A4 l4 c4] 57)).heap.size) := J ⟨fun hg => Nat.lt_irrefl _ (h.out _ hg).2, by simp⟩
 have HM := J (fun (W : World) (hW : Wk C R P W G s o) => dA (some ⟨C.sp, 0, none⟩) C.m 0 W (.inl ⟨C.sp, rfl, hC.space.grow hW.base⟩) (Lots.some hC.few) (by omega))
 have HPL : Hid (∀ W G1, Wk C R P W G1 s o → Calls Tryz.prog 89 #[.pointer (some ⟨R, 0, none⟩), .agg #[.int .u8 (op : Int), .int .u32 (a : Int), .int .u32 (b : Int), .int .i64 c, .slice A4 l4 c4]] W (ai C R P G1 o W (Bo.plain op s))) := J (fun W G1 hW => cy hW hs hn op a b c A4 l4 c4)
 clear h hs hn hC
 go_enter Tryz.func88, Tryz.ntmps88
 go_upto_region 1 with fail
 generalize (w.alloc (.cells #[.int .u8 (op : Int), .int .u32 (a : Int), .int .u32 (b : Int), .int .i64 c, .slice A4 l4 c4] 57)) = w0 at HX0 HB0 H0 HN0 HGX ⊢
 obtain ⟨X, hX⟩ : ∃ X, w.heap.size = X := ⟨_, rfl⟩
 rw [hX] at HX0 HGX
 simp only [hX]
 clear hX HB0
 obtain ⟨z0, z1, z2, z3, z4⟩ := cells5 HX0.out
 obtain ⟨q0, q1, q2, q3, q4, q5⟩ := H0.out.cells
 have hm := HM.out _ H0.out
 clear HM
 unfold bC at hm
 have HE : Hid (C.env.mem = ((mems C.m)[0]?).isSome) := J rfl
 obtain ⟨y1, y2, hy⟩ : ∃ y1 y2 : Int, limArr (((mems C.m)[0]?).getD ⟨0, 0⟩) = #[.int .u32 y1, .int .i64 y2] := ⟨_, _, rfl⟩
 rw [hy] at hm
 clear hy
 obtain ⟨hbl, hw0, hw8⟩ := width_bits op hwd
 have HWD : Hid (∀ W, Calls Tryz.prog 87 #[.int .u8 (op : Int)] W fun e w' => e = .returned (.int .i64 (Opc.width op)) ∧ W = w') := J (fun W => cj (op : Int) W)
 have HLN : Hid (∀ W, Calls Tryz.prog 112 #[.int .u64 (Opc.width op)] W fun e w' => e = .returned (.int .i64 (Bo.blen (Opc.width op) : Int)) ∧ W = w') := J (fun W => by
  have h := blen_any (Opc.width op) W hw0 (by omega)
  rw [hbl] at h
  exact h)
 have hb4 : Bo.blen (Opc.width op) ≤ 4 := by unfold Bo.blen; (repeat' split) <;> omega
 cases hp : ((mems C.m)[0]?).isSome with
 | false =>
  rw [hp] at hm HE
  have HT : Hid (Bo.access C.env op a s = .error 80) := J (by unfold Bo.access; rw [HE.out]; rfl)
  have HM := J hm
  clear hm hp hbl hw0 hw8 hwd hb4 HWD HLN
  go_wp2_with (go_at_call 58; refine HM.out.mono ?_; rintro e w1 ⟨rfl, hb⟩; have hb2 : Below w0.heap.size w0 (w1.alloc (.cells #[.int .u32 y1, .int .i64 y2] 65)) := hb.alloc hb.size _; obtain ⟨x0, x1, x2, x3, x4⟩ := cells5 ((hb2.block X HGX.out.2).trans HX0.out); have HB1 := J hb2; clear hb hb2)
  go_ret
  exact ai.err HT.out (H0.out.on HB1.out).base
 | true =>
  rw [hp] at hm HE
  have HT : Hid (Bo.access C.env op a s = if Bo.blen (Opc.width op) ≤ a then .error 100 else Bo.plain op s) := J (by unfold Bo.access; rw [HE.out]; rfl)
  have HM := J hm
  clear hm hp hbl hwd
  generalize Opc.width op = wd at HWD HLN HT hw0 hw8 hb4
  generalize Bo.blen wd = bl at HLN HT hb4
  have hwu : IntKind.u64.wrap wd = wd := by simp [IntKind.wrap, IntKind.bits, IntKind.signed]; omega
  have hwv : IntKind.u32.wrap (bl : Int) = (bl : Int) := by simp [IntKind.wrap, IntKind.bits, IntKind.signed]; omega
  by_cases hle : bl ≤ a
  ·have hlei : (bl : Int) ≤ (a : Int) := by omega
   go_upto_region 4 with (go_at_call 58; refine HM.out.mono ?_; rintro e w1 ⟨rfl, hb⟩; have hb2 : Below w0.heap.size w0 (w1.alloc (.cells #[.int .u32 y1, .int .i64 y2] 65)) := hb.alloc hb.size _; obtain ⟨x0, x1, x2, x3, x4⟩ := cells5 ((hb2.block X HGX.out.2).trans HX0.out); have HB1 := J hb2; clear hb hb2)
   generalize w1.alloc (.cells #[.int .u32 y1, .int .i64 y2] 65) = wm at HB1 x0 x1 x2 x3 x4 ⊢
   refine wp_region_held_drew (S := fun W' => W'.cell? ⟨X, 0, none⟩ = some (.int .u8 (op : Int)) ∧ W'.cell? ⟨X, 1, none⟩ = some (.int .u32 (a : Int))) (by kernel_rfl) (⟨x0, x1⟩) (fun hHeld => ?_)
   refine dt 0 rfl (v := ?_) ?_ ?_
   rotate_left
   ·(intro wy hSw; obtain ⟨h0, h1⟩ := hSw; go_simp; try with_reducible rfl)
   simp only [Act.put, O]
   refine dt 1 rfl (v := ?_) ?_ ?_
   rotate_left
   ·(intro wy hSw; obtain ⟨h0, h1⟩ := hSw; go_simp; try with_reducible rfl)
   simp only [Act.put, O]
   refine dt 2 rfl (v := ?_) ?_ ?_
   rotate_left
   ·(intro wy hSw; obtain ⟨h0, h1⟩ := hSw; go_simp; try with_reducible rfl)
   simp only [Act.put, O]
   refine dt 3 rfl (v := ?_) ?_ ?_
   rotate_left
   ·(intro wy hSw; obtain ⟨h0, h1⟩ := hSw; go_simp; try with_reducible rfl)
   simp only [Act.put, O]
   refine aa 4 rfl (by kernel_rfl) (fun K hK => ?_)
   try (rw [if_pos]; case hc => rfl)
   go_simp
   refine (HWD.out _).mono ?_
   rintro e w9 ⟨rfl, rfl⟩
   go_wp2_with fail
   refine hK.out _ _ (hHeld) (fun hHeld2 => ?_)
   clear hK K hHeld
   have hHeld := hHeld2
   clear hHeld2
   refine dv 5 rfl ?_
   refine aa 6 rfl (by kernel_rfl) (fun K hK => ?_)
   try (rw [if_pos]; case hc => rfl)
   go_simp
   refine (HLN.out _).mono ?_
   rintro e w9 ⟨rfl, rfl⟩
   go_wp2_with fail
   refine hK.out _ _ (hHeld) (fun hHeld2 => ?_)
   clear hK K hHeld
   have hHeld := hHeld2
   clear hHeld2
   refine dv 7 rfl ?_
   refine dv 8 rfl ?_
   refine wpAnyH_done (by kernel_rfl) ?_ _
   have HBD : Hid (Below w0.heap.size w0 wm.drew) := J (Below.drew HB1.out)
   obtain ⟨d0, d1, d2, d3, d4⟩ := cells5 ((HBD.out.block X HGX.out.2).trans HX0.out)
   generalize wm.drew = wn at HBD d0 d1 d2 d3 d4 ⊢
   go_wp2_with fail
   go_ret
   exact ai.err (by rw [HT.out, if_pos hle]) (H0.out.on HBD.out).base
  ·have hlei : decide ((bl : Int) ≤ (a : Int)) = false := decide_eq_false (by omega)
   have hlej : decide (bl ≤ a) = false := decide_eq_false hle
   go_upto_region 4 with (go_at_call 58; refine HM.out.mono ?_; rintro e w1 ⟨rfl, hb⟩; have hb2 : Below w0.heap.size w0 (w1.alloc (.cells #[.int .u32 y1, .int .i64 y2] 65)) := hb.alloc hb.size _; obtain ⟨x0, x1, x2, x3, x4⟩ := cells5 ((hb2.block X HGX.out.2).trans HX0.out); have HB1 := J hb2; clear hb hb2)
   generalize w1.alloc (.cells #[.int .u32 y1, .int .i64 y2] 65) = wm at HB1 x0 x1 x2 x3 x4 ⊢
   refine wp_region_held_drew (S := fun W' => W'.cell? ⟨X, 0, none⟩ = some (.int .u8 (op : Int)) ∧ W'.cell? ⟨X, 1, none⟩ = some (.int .u32 (a : Int))) (by kernel_rfl) (⟨x0, x1⟩) (fun hHeld => ?_)
   refine dt 0 rfl (v := ?_) ?_ ?_
   rotate_left
   ·(intro wy hSw; obtain ⟨h0, h1⟩ := hSw; go_simp; try with_reducible rfl)
   simp only [Act.put, O]
   refine dt 1 rfl (v := ?_) ?_ ?_
   rotate_left
   ·(intro wy hSw; obtain ⟨h0, h1⟩ := hSw; go_simp; try with_reducible rfl)
   simp only [Act.put, O]
   refine dt 2 rfl (v := ?_) ?_ ?_
   rotate_left
   ·(intro wy hSw; obtain ⟨h0, h1⟩ := hSw; go_simp; try with_reducible rfl)
   simp only [Act.put, O]
   refine dt 3 rfl (v := ?_) ?_ ?_
   rotate_left
   ·(intro wy hSw; obtain ⟨h0, h1⟩ := hSw; go_simp; try with_reducible rfl)
   simp only [Act.put, O]
   refine aa 4 rfl (by kernel_rfl) (fun K hK => ?_)
   try (rw [if_pos]; case hc => rfl)
   go_simp
   refine (HWD.out _).mono ?_
   rintro e w9 ⟨rfl, rfl⟩
   go_wp2_with fail
   refine hK.out _ _ (hHeld) (fun hHeld2 => ?_)
   clear hK K hHeld
   have hHeld := hHeld2
   clear hHeld2
   refine dv 5 rfl ?_
   refine aa 6 rfl (by kernel_rfl) (fun K hK => ?_)
   try (rw [if_pos]; case hc => rfl)
   go_simp
   refine (HLN.out _).mono ?_
   rintro e w9 ⟨rfl, rfl⟩
   go_wp2_with fail
   refine hK.out _ _ (hHeld) (fun hHeld2 => ?_)
   clear hK K hHeld
   have hHeld := hHeld2
   clear hHeld2
   refine dv 7 rfl ?_
   refine dv 8 rfl ?_
   refine wpAnyH_done (by kernel_rfl) ?_ _
   have HBD : Hid (Below w0.heap.size w0 wm.drew) := J (Below.drew HB1.out)
   obtain ⟨d0, d1, d2, d3, d4⟩ := cells5 ((HBD.out.block X HGX.out.2).trans HX0.out)
   generalize wm.drew = wn at HBD d0 d1 d2 d3 d4 ⊢
   go_wp2_with (go_at_call 89; refine (HPL.out _ _ (H0.out.on HBD.out)).mono ?_; rintro e w9 he; obtain ⟨k, rfl, hk⟩ := he.num; have HK := J hk; clear he hk)
   go_ret
   rw [HT.out, if_neg hle]
   exact (HK.out.ahead (Nxt.of_below HBD.out)).ahead HN0.out
end Go.Proofs.YtelcdmkbaegjoaaGreat
