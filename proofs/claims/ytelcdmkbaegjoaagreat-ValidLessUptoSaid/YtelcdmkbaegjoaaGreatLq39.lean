/-
  Layer 10's program: Local, and whether all locals are of whole numbers.
-/
import Derived.Test.YtelcdmkbaegjoaaGreatLq01
import Derived.Test.YtelcdmkbaegjoaaGreatLq38
import Derived.Test.YtelcdmkbaegjoaaGreatLq26
import Derived.Test.YtelcdmkbaegjoaaGreatLq33
import Derived.Test.YtelcdmkbaegjoaaGreatLq06
set_option maxRecDepth 100000
set_option maxHeartbeats 4000000
namespace Bo
theorem runs_step {l : List Bin.Lc} {j i : Nat} {x : Bin.Lc} (h : l[j]? = some x) : runs (l.drop j) i = if i < x.n then some x.t else runs (l.drop (j + 1)) (i - x.n) := by
 obtain ⟨hj, e⟩ := List.getElem?_eq_some_iff.1 h
 rw [List.drop_eq_getElem_cons hj, e, runs]
theorem runs_end {l : List Bin.Lc} {j i : Nat} (h : l.length ≤ j) : runs (l.drop j) i = none := by
 rw [List.drop_eq_nil_of_le h, runs]
theorem locB_take {l : List Bin.Lc} {j : Nat} {x : Bin.Lc} (h : l[j]? = some x) : locB (l.take (j + 1)) = (locB (l.take j) && (x.n == 0 || (x.t == 127 || x.t == 126))) := by
 unfold locB
 rw [List.take_add_one, h, List.all_append]
 simp
theorem locB_no {l : List Bin.Lc} {j : Nat} {x : Bin.Lc} (h : l[j]? = some x) (hx : (x.n == 0 || (x.t == 127 || x.t == 126)) = false) : locB l = false := by
 unfold locB
 rw [List.all_eq_false]
 exact ⟨x, List.mem_of_getElem? h, by simp [hx]⟩
end Bo
namespace Go.Proofs.YtelcdmkbaegjoaaGreat
open Go.RowKit Ins Bin Sp
theorem lc_at {w : World} {S : Nat → Prop} {A : Option Addr} {xs : List Lc} {k : Nat} {x : Lc} (h : HasL w S A xs) (hx : xs[k]? = some x) : ∃ g o, A = some ⟨g, o, none⟩ ∧ g < w.heap.size ∧ x.n < 4294967296 ∧ w.cell? ⟨g, o + k * 2, none⟩ = some (.int .u32 (x.n : Int)) ∧ w.cell? ⟨g, o + k * 2 + 1, none⟩ = some (.int .u8 (x.t.toNat : Int)) := by
 obtain ⟨g, o, cs, h1, _, h3, ⟨rfl, hn⟩, h6⟩ := h k x hx
 exact ⟨g, o, h1, h3, hn, h6 0 _ rfl, h6 1 _ rfl⟩
theorem by_at {w : World} {S : Nat → Prop} {A : Option Addr} {xs : List UInt8} {k : Nat} {x : UInt8} (h : HasL w S A xs) (hx : xs[k]? = some x) : ∃ g o, A = some ⟨g, o, none⟩ ∧ g < w.heap.size ∧ w.cell? ⟨g, o + k, none⟩ = some (.int .u8 (x.toNat : Int)) := by
 obtain ⟨g, o, cs, h1, _, h3, hcs, h6⟩ := h k x hx
 have h' : cs = [.int .u8 (x.toNat : Int)] := hcs
 subst h'
 refine ⟨g, o, h1, h3, ?_⟩
 have := h6 0 _ rfl
 have e : Lay.size UInt8 = 1 := rfl
 rw [e, Nat.mul_one] at this
 exact this
theorem two_new (w : World) (x0 x1 y0 y1 : Value) (t u : TypeId) : ((w.alloc (.cells #[x0, x1] t)).alloc (.cells #[y0, y1] u)).heap[w.heap.size]? = some (.cells #[x0, x1] t (0, 0)) ∧ ((w.alloc (.cells #[x0, x1] t)).alloc (.cells #[y0, y1] u)).heap[w.heap.size + 1]? = some (.cells #[y0, y1] u (0, 0)) ∧ Below w.heap.size w ((w.alloc (.cells #[x0, x1] t)).alloc (.cells #[y0, y1] u)) := by
 refine ⟨(Below.heap_alloc _ _ _ (by simp)).trans (heap_alloc_new w _), ?_, ((Below.refl _ _).alloc (Nat.le_refl _) _).alloc (by simp) _⟩
 have h := heap_alloc_new (w.alloc (.cells #[x0, x1] t)) (.cells #[y0, y1] u)
 have e : (w.alloc (.cells #[x0, x1] t)).heap.size = w.heap.size + 1 := by simp
 rw [e] at h
 exact h
theorem blocal_any (ps : List UInt8) (ls : List Lc) (v1 v2 v3 v4 : Value) (i : Nat) (hi : i < 4294967296) (w : World) (hp : ab w (· < w.heap.size) ps v1) (hl : ab w (· < w.heap.size) ls v3) (h1 : ps.length ≤ 1050000) (h2 : ls.length ≤ 1050000) :
  Calls Tryz.prog 110 #[.agg #[v1, v2], .agg #[v3, v4], .int .u32 (i : Int)] w fun e w' => e = .returned (.tuple #[.int .u8 (((Bo.local' ps ls i).getD 0).toNat : Int), .bool (Bo.local' ps ls i).isSome]) ∧ Below w.heap.size w w' := by
 obtain ⟨A1, c1, rfl, _, _, _, hP⟩ := hp
 obtain ⟨A3, c3, rfl, _, _, _, hL⟩ := hl
 obtain ⟨n1, hn1⟩ : ∃ n, ps.length = n := ⟨_, rfl⟩
 obtain ⟨n3, hn3⟩ : ∃ n, ls.length = n := ⟨_, rfl⟩
 rw [hn1] at h1 ⊢
 rw [hn3] at h2 ⊢
 have HN1 := J hn1
 have HN3 := J hn3
 have HP := J hP
 have HL := J hL
 obtain ⟨t0, t1, t2⟩ := two_new w (.slice A1 n1 c1) v2 (.slice A3 n3 c3) v4 51 48
 have HX0 := J t0
 have HX1 := J t1
 have HB0 := J t2
 clear t0 t1 t2 hP hL
 by_cases hip : i < n1
 ·obtain ⟨x, hx⟩ : ∃ x, ps[i]? = some x := ⟨_, List.getElem?_eq_getElem (by omega)⟩
  have HA : Hid (Bo.local' ps ls i = some x) := J (by unfold Bo.local'; rw [if_pos (by omega), hx])
  obtain ⟨g, oo, rfl, hg, hc⟩ := by_at HP.out hx
  have hii : (i : Int) < (n1 : Int) := by omega
  clear hx hn1 hn3 HP HL
  go_enter Tryz.func110, Tryz.ntmps110
  go_upto_region 1 with fail
  generalize (w.alloc (.cells #[.slice (some ⟨g, oo, none⟩) n1 c1, v2] 51)).alloc (.cells #[.slice A3 n3 c3, v4] 48) = w0 at HX0 HX1 HB0 ⊢
  have hc0 := (HB0.out.cell (p := ⟨g, oo + i, none⟩) hg).trans hc
  obtain ⟨y0, y1⟩ := ae HX0.out
  clear hc
  go_wp2_with fail
  go_ret2
  rw [HA.out]
  exact ⟨rfl, HB0.out⟩
 ·have hii : decide ((i : Int) < (n1 : Int)) = false := decide_eq_false (by omega)
  have hii2 : decide (i < n1) = false := decide_eq_false hip
  have hge : (n1 : Int) ≤ (i : Int) := by omega
  have HA : Hid (Bo.local' ps ls i = Bo.runs (ls.drop 0) (i - n1)) := J (by unfold Bo.local'; rw [if_neg (by omega), hn1, List.drop_zero])
  clear hn1 hn3 HP
  go_enter Tryz.func110, Tryz.ntmps110
  go_upto_region 1 with fail
  generalize (w.alloc (.cells #[.slice A1 n1 c1, v2] 51)).alloc (.cells #[.slice A3 n3 c3, v4] 48) = w0 at HX0 HX1 HB0 ⊢
  obtain ⟨y0, y1⟩ := ae HX0.out
  obtain ⟨y2, y3⟩ := ae HX1.out
  go_wp2_with fail
  go_loopw [8, 33] (fun lv iv wr => ∃ j left : Nat, j ≤ n3 ∧ iv = .int .i64 (j : Int) ∧ lv = .int .u64 (left : Int) ∧ left < 4294967296 ∧ Hid (Bo.local' ps ls i = Bo.runs (ls.drop j) left) ∧ Hid (Below w.heap.size w wr)) (fun _ iv _ => n3 - (intOf iv).toNat)
  case atStart => exact ⟨0, i - n1, by omega, rfl, by congr 1; omega, by omega, HA, HB0⟩
  case round =>
   obtain ⟨j, left, hj, rfl, rfl, hleft, HQ, HBW⟩ := hrel
   by_cases hjn : j < n3
   ·obtain ⟨x, hx⟩ : ∃ x, ls[j]? = some x := ⟨_, List.getElem?_eq_getElem (by have := HN3.out; omega)⟩
    obtain ⟨g, oo, rfl, hg, hxn, hc0, hc1⟩ := lc_at HL.out hx
    have hji : (j : Int) < (n3 : Int) := by omega
    have k0 := (HBW.out.cell (p := ⟨g, oo + j * 2, none⟩) hg).trans hc0
    have k1 := (HBW.out.cell (p := ⟨g, oo + j * 2 + 1, none⟩) hg).trans hc1
    have HST := J (Bo.runs_step (i := left) hx)
    clear hx hc0 hc1
    obtain ⟨xn, xt⟩ := x
    dsimp only at hxn k0 k1 HST
    by_cases hlx : left < xn
    ·have hlxi : (left : Int) < (xn : Int) := by omega
     have HRES : Hid (Bo.local' ps ls i = some xt) := J (by rw [HQ.out, HST.out, if_pos hlx])
     go_wp2_with fail
     go_ret2
     rw [HRES.out]
     exact ⟨rfl, HBW.out.alloc HBW.out.size _⟩
    ·have hlxi : decide ((left : Int) < (xn : Int)) = false := decide_eq_false (by omega)
     have hlx2 : decide (left < xn) = false := decide_eq_false hlx
     have hge2 : (xn : Int) ≤ (left : Int) := by omega
     have HRES : Hid (Bo.local' ps ls i = Bo.runs (ls.drop (j + 1)) (left - xn)) := J (by rw [HQ.out, HST.out, if_neg hlx])
     clear hlx
     go_wp2_with fail
     go_roundw
     case rel => exact ⟨j + 1, left - xn, by omega, by go_num, by congr 1; omega, by omega, HRES, J (HBW.out.alloc HBW.out.size _)⟩
     case measure => simp [intOf]; omega
   ·have hji : decide ((j : Int) < (n3 : Int)) = false := decide_eq_false (by omega)
    have hjn2 : decide (j < n3) = false := decide_eq_false hjn
    have HRES : Hid (Bo.local' ps ls i = none) := J (by rw [HQ.out, Bo.runs_end (by have := HN3.out; omega)])
    go_wp2_with fail
    go_ret2
    rw [HRES.out]
    exact ⟨rfl, HBW.out⟩
theorem bwhole_any (ls : List Lc) (v3 : Value) (w : World) (hl : ab w (· < w.heap.size) ls v3) (h2 : ls.length ≤ 1050000) :
  Calls Tryz.prog 46 #[v3] w fun e w' => e = .returned (.bool (Bo.locB ls)) ∧ Below w.heap.size w w' := by
 obtain ⟨A3, c3, rfl, _, _, _, hL⟩ := hl
 obtain ⟨n3, hn3⟩ : ∃ n, ls.length = n := ⟨_, rfl⟩
 rw [hn3] at h2 ⊢
 have HN3 := J hn3
 have HL := J hL
 clear hL hn3
 go_enter Tryz.func46, Tryz.ntmps46
 go_wp2_with fail
 go_loopw [7] (fun iv wr => ∃ j : Nat, j ≤ n3 ∧ iv = .int .i64 (j : Int) ∧ Hid (Bo.locB (ls.take j) = true) ∧ Hid (Below w.heap.size w wr)) (fun iv _ => n3 - (intOf iv).toNat)
 case atStart => exact ⟨0, by omega, rfl, J rfl, J (Below.refl _ _)⟩
 case round =>
  obtain ⟨j, hj, rfl, HQ, HBW⟩ := hrel
  by_cases hjn : j < n3
  ·obtain ⟨x, hx⟩ : ∃ x, ls[j]? = some x := ⟨_, List.getElem?_eq_getElem (by have := HN3.out; omega)⟩
   obtain ⟨g, oo, rfl, hg, hxn, hc0, hc1⟩ := lc_at HL.out hx
   have hji : (j : Int) < (n3 : Int) := by omega
   have k0 := (HBW.out.cell (p := ⟨g, oo + j * 2, none⟩) hg).trans hc0
   have k1 := (HBW.out.cell (p := ⟨g, oo + j * 2 + 1, none⟩) hg).trans hc1
   have HST := J (Bo.locB_take hx)
   have HNO := J (Bo.locB_no hx)
   clear hx hc0 hc1
   obtain ⟨xn, xt⟩ := x
   dsimp only at hxn k0 k1 HST HNO
   cases hb : (xn == 0 || (xt == 127 || xt == 126)) with
   | true =>
    have HTR : Hid (Bo.locB (ls.take (j + 1)) = true) := J (by rw [HST.out, HQ.out, hb]; rfl)
    clear HNO HST
    by_cases h0 : xn = 0
    ·subst h0
     clear hb
     go_wp2_with fail
     go_roundw
     case rel => exact ⟨j + 1, by omega, by go_num, HTR, J (HBW.out.alloc HBW.out.size _)⟩
     case measure => simp [intOf]; omega
    ·have hpos : (0 : Int) < (xn : Int) := by omega
     have hxt : xt = 127 ∨ xt = 126 := by
      rw [Bool.or_eq_true, beq_iff_eq] at hb
      rcases hb with hb | hb
      ·exact absurd hb h0
      ·rw [Bool.or_eq_true, beq_iff_eq, beq_iff_eq] at hb
       exact hb
     clear hb h0
     rcases hxt with rfl | rfl
     ·go_wp2_with fail
      go_roundw
      case rel => exact ⟨j + 1, by omega, by go_num, HTR, J (HBW.out.alloc HBW.out.size _)⟩
      case measure => simp [intOf]; omega
     ·go_wp2_with fail
      go_roundw
      case rel => exact ⟨j + 1, by omega, by go_num, HTR, J (HBW.out.alloc HBW.out.size _)⟩
      case measure => simp [intOf]; omega
   | false =>
    have HFL := J (HNO.out hb)
    rw [Bool.or_eq_false_iff, Bool.or_eq_false_iff, beq_eq_false_iff_ne, beq_eq_false_iff_ne, beq_eq_false_iff_ne] at hb
    obtain ⟨h0, h1, h2'⟩ := hb
    have hpos : (0 : Int) < (xn : Int) := by omega
    obtain ⟨t, ht⟩ : ∃ t, xt.toNat = t := ⟨_, rfl⟩
    have ht1 : ((t : Int) == 127) = false := by
     rw [beq_eq_false_iff_ne]; intro e
     exact h1 (UInt8.toNat_inj.1 (by have h9 : t = 127 := (by omega); rw [ht, h9]; rfl))
    have ht2 : ((t : Int) == 126) = false := by
     rw [beq_eq_false_iff_ne]; intro e
     exact h2' (UInt8.toNat_inj.1 (by have h9 : t = 126 := (by omega); rw [ht, h9]; rfl))
    rw [ht] at k1
    have ht3 : ((t : Int) != 127) = true := by rw [bne, ht1]; rfl
    have ht4 : ((t : Int) != 126) = true := by rw [bne, ht2]; rfl
    have ht5 : ¬ ((t : Int) = 127) := by intro e; rw [e] at ht1; exact absurd ht1 (by decide)
    have ht6 : ¬ ((t : Int) = 126) := by intro e; rw [e] at ht2; exact absurd ht2 (by decide)
    have hp0 : 0 < xn := by omega
    clear HNO HST h0 h1 h2' ht
    go_wp2_with fail
    go_ret
    rw [HFL.out]
    exact ⟨rfl, HBW.out.alloc HBW.out.size _⟩
  ·have hji : decide ((j : Int) < (n3 : Int)) = false := decide_eq_false (by omega)
   have hjn2 : decide (j < n3) = false := decide_eq_false hjn
   have HTR : Hid (Bo.locB ls = true) := J (by
    have h := HQ.out
    rw [List.take_of_length_le (by have := HN3.out; omega)] at h
    exact h)
   go_wp2_with fail
   go_ret
   rw [HTR.out]
   exact ⟨rfl, HBW.out⟩
structure VIn (w : World) (P sp mp : Nat) (m : M) (v1 v2 v3 v4 v5 v6 v7 v8 v9 v10 hv : Value) : Prop where
 cells : w.heap[P]? = some (.cells #[v1, v2, v3, v4, v5, v6, v7, .bool m.hasStart, .int .u32 (m.start : Int), v8, v9, v10, .pointer (some ⟨sp, 0, none⟩), .map (some mp), hv] 71 (0, 0))
 rep : RepM w (· < w.heap.size) m v1 v2 v3 v4 v5 v6 v7 v8 v9 v10
 space : aK w sp m
 fit : FitV m
theorem VIn.grow {w w' : World} {P sp mp : Nat} {m : M} {v1 v2 v3 v4 v5 v6 v7 v8 v9 v10 hv : Value} (h : VIn w P sp mp m v1 v2 v3 v4 v5 v6 v7 v8 v9 v10 hv) (hb : Below w.heap.size w w') : VIn w' P sp mp m v1 v2 v3 v4 v5 v6 v7 v8 v9 v10 hv :=
 ⟨(hb.block P (Array.getElem?_eq_some_iff.1 h.cells).1).trans h.cells, h.rep.grow hb, h.space.grow hb, h.fit⟩
theorem VIn.recv {w : World} {P sp mp : Nat} {m : M} {v1 v2 v3 v4 v5 v6 v7 v8 v9 v10 hv : Value} (h : VIn w P sp mp m v1 v2 v3 v4 v5 v6 v7 v8 v9 v10 hv) : Recv w (some ⟨sp, 0, none⟩) m := .inl ⟨sp, rfl, h.space⟩
theorem cell15 {w : World} {P : Nat} {cs : Array Value} {t : TypeId} (h : w.heap[P]? = some (.cells cs t (0, 0))) (k : Nat) (u : Value) (hk : cs[k]? = some u) : w.cell? ⟨P, k, none⟩ = some u := by
 rw [cell_of_row w P k _ _ (0, 0) h]; exact hk
theorem al (b : Bool) (n : Nat) (z : Int) (w : World) (hz : z = (n : Int)) :
  Calls Tryz.prog 53 #[.bool b, .int .i64 z] w fun e w' => e = .returned (.int .i64 ((Va.okE b n : Nat) : Int)) ∧ w = w' := by
 subst hz
 cases b
 ·go_enter Tryz.func53, Tryz.ntmps53
  go_wp2
  go_ret
  exact ⟨rfl, rfl⟩
 ·go_enter Tryz.func53, Tryz.ntmps53
  go_wp2
  go_ret
  exact ⟨rfl, rfl⟩
theorem wholeB_take {l : List UInt8} {j : Nat} {x : UInt8} (h : l[j]? = some x) : Va.wholeB (l.take (j + 1)) = (Va.wholeB (l.take j) && (x == 127 || x == 126)) := by
 unfold Va.wholeB
 rw [List.take_add_one, h, List.all_append]
 simp
theorem wholeB_no {l : List UInt8} {j : Nat} {x : UInt8} (h : l[j]? = some x) (hx : (x == 127 || x == 126) = false) : Va.wholeB l = false := by
 unfold Va.wholeB
 rw [List.all_eq_false]
 exact ⟨x, List.mem_of_getElem? h, by simp [hx]⟩
theorem not127 {x : UInt8} {t : Nat} (ht : x.toNat = t) (h : ¬ x = 127) : ((t : Int) == 127) = false ∧ ((t : Int) != 127) = true ∧ ¬ ((t : Int) = 127) := by
 have h0 : ¬ t = 127 := fun e => h (UInt8.toNat_inj.1 (by rw [ht, e]; rfl))
 have h1 : ((t : Int) == 127) = false := by rw [beq_eq_false_iff_ne]; omega
 exact ⟨h1, by rw [bne, h1]; rfl, by omega⟩
theorem not126 {x : UInt8} {t : Nat} (ht : x.toNat = t) (h : ¬ x = 126) : ((t : Int) == 126) = false ∧ ((t : Int) != 126) = true ∧ ¬ ((t : Int) = 126) := by
 have h0 : ¬ t = 126 := fun e => h (UInt8.toNat_inj.1 (by rw [ht, e]; rfl))
 have h1 : ((t : Int) == 126) = false := by rw [beq_eq_false_iff_ne]; omega
 exact ⟨h1, by rw [bne, h1]; rfl, by omega⟩
theorem cH (l : List UInt8) (v : Value) (w : World) (h : ab w (· < w.heap.size) l v) (hl : l.length ≤ 1050000) :
  Calls Tryz.prog 54 #[v] w fun e w' => e = .returned (.bool (Va.wholeB l)) ∧ w = w' := by
 obtain ⟨A3, c3, rfl, _, _, _, hL⟩ := h
 obtain ⟨n3, hn3⟩ : ∃ n, l.length = n := ⟨_, rfl⟩
 rw [hn3] at hl ⊢
 have HN3 := J hn3
 have HL := J hL
 clear hL hn3
 go_enter Tryz.func54, Tryz.ntmps54
 go_wp2_with fail
 go_loop [7] (fun iv => ∃ j : Nat, j ≤ n3 ∧ iv = .int .i64 (j : Int) ∧ Hid (Va.wholeB (l.take j) = true)) (fun iv => n3 - (intOf iv).toNat)
 case atStart => exact ⟨0, by omega, rfl, J rfl⟩
 case round =>
  obtain ⟨j, hj, rfl, HQ⟩ := hrel
  by_cases hjn : j < n3
  ·obtain ⟨x, hx⟩ : ∃ x, l[j]? = some x := ⟨_, List.getElem?_eq_getElem (by have := HN3.out; omega)⟩
   obtain ⟨g, oo, rfl, hg, k0⟩ := by_at HL.out hx
   have hji : (j : Int) < (n3 : Int) := by omega
   have HST := J (wholeB_take hx)
   have HNO := J (wholeB_no hx)
   clear hx
   cases hb : (x == 127 || x == 126) with
   | true =>
    have HTR : Hid (Va.wholeB (l.take (j + 1)) = true) := J (by rw [HST.out, HQ.out, hb]; rfl)
    clear HNO HST
    have hxt : x = 127 ∨ x = 126 := by
     rw [Bool.or_eq_true, beq_iff_eq, beq_iff_eq] at hb
     exact hb
    clear hb
    rcases hxt with rfl | rfl
    ·go_wp2_with fail
     go_round
     case rel => exact ⟨j + 1, by omega, by go_num, HTR⟩
     case measure => simp [intOf]; omega
    ·go_wp2_with fail
     go_round
     case rel => exact ⟨j + 1, by omega, by go_num, HTR⟩
     case measure => simp [intOf]; omega
   | false =>
    have HFL := J (HNO.out hb)
    rw [Bool.or_eq_false_iff, beq_eq_false_iff_ne, beq_eq_false_iff_ne] at hb
    obtain ⟨h1, h2⟩ := hb
    obtain ⟨t, ht⟩ : ∃ t, x.toNat = t := ⟨_, rfl⟩
    obtain ⟨ht1, ht3, ht5⟩ := not127 ht h1
    obtain ⟨ht2, ht4, ht6⟩ := not126 ht h2
    rw [ht] at k0
    clear HNO HST h1 h2 ht
    go_wp2_with fail
    go_ret
    rw [HFL.out]
    exact ⟨rfl, rfl⟩
  ·have hji : decide ((j : Int) < (n3 : Int)) = false := decide_eq_false (by omega)
   have hjn2 : decide (j < n3) = false := decide_eq_false hjn
   have HTR : Hid (Va.wholeB l = true) := J (by
    have h := HQ.out
    rw [List.take_of_length_le (by have := HN3.out; omega)] at h
    exact h)
   go_wp2_with fail
   go_ret
   rw [HTR.out]
   exact ⟨rfl, rfl⟩
def mayB (l : Lim) : Bool := decide (l.max = -1) || (decide ((l.min : Int) ≤ l.max) && decide (l.max ≤ 4294967295))
theorem dZ (l : Lim) (hl : Lim.wf l) (w : World) :
  Calls Tryz.prog 57 #[.agg #[.int .u32 (l.min : Int), .int .i64 l.max]] w fun e w' => e = .returned (.bool (mayB l)) ∧ Below w.heap.size w w' := by
 obtain ⟨a, b⟩ := l
 obtain ⟨h1, h2, h3⟩ := hl
 dsimp only at h1 h2 h3
 unfold mayB
 dsimp only
 have HB0 : Hid (Below w.heap.size w (w.alloc (.cells #[.int .u32 (a : Int), .int .i64 b] 65))) := J ((Below.refl _ _).alloc (Nat.le_refl _) _)
 by_cases hb : b = -1
 ·subst hb
  go_enter Tryz.func57, Tryz.ntmps57
  go_wp2_with fail
  go_ret
  exact ⟨rfl, HB0.out⟩
 ·have hb1 : (b == -1) = false := by rw [beq_eq_false_iff_ne]; exact hb
  have hb2 : decide (b = -1) = false := decide_eq_false hb
  have hw : IntKind.i64.wrap (a : Int) = (a : Int) := IntWalk.i64_in _ (by omega)
  rw [hb2, Bool.false_or]
  by_cases hab : (a : Int) ≤ b
  ·have hab2 : decide ((a : Int) ≤ b) = true := decide_eq_true hab
   rw [hab2, Bool.true_and]
   by_cases hm : b ≤ 4294967295
   ·have hm2 : decide (b ≤ 4294967295) = true := decide_eq_true hm
    rw [hm2]
    go_enter Tryz.func57, Tryz.ntmps57
    go_wp2_with fail
    go_ret
    exact ⟨rfl, HB0.out⟩
   ·have hm2 : decide (b ≤ 4294967295) = false := decide_eq_false hm
    rw [hm2]
    go_enter Tryz.func57, Tryz.ntmps57
    go_wp2_with fail
    go_ret
    exact ⟨rfl, HB0.out⟩
  ·have hab2 : decide ((a : Int) ≤ b) = false := decide_eq_false hab
   rw [hab2, Bool.false_and]
   go_enter Tryz.func57, Tryz.ntmps57
   go_wp2_with fail
   go_ret
   exact ⟨rfl, HB0.out⟩
end Go.Proofs.YtelcdmkbaegjoaaGreat
namespace Va
open Bin Sp Ins
def giveE (m : M) (op a : Nat) : UInt8 × Nat :=
 if op = 35 then (match (imps m 3)[a]? with
  | none => (0, 80)
  | some g => if g.glob.mu = true then (0, 110) else (g.glob.t, 0))
 else if op = 65 then (127, 0)
 else if op = 66 then (126, 0)
 else (0, 110)
theorem constE_one (m : M) (x : I) (t : UInt8) : constE m [x] t = if (giveE m x.op x.a).2 = 0 then okE (decide ((giveE m x.op x.a).1 = t)) 100 else (giveE m x.op x.a).2 := by
 unfold constE giveE okE
 dsimp only
 split
 ·cases (imps m 3)[x.a]? with
  | none => rfl
  | some g =>
   dsimp only
   split
   ·rfl
   ·simp
 ·split
  ·simp [eq_comm]
  ·split
   ·simp [eq_comm]
   ·rfl
theorem glob_imp {m : M} {i : Nat} {g : Imp} (h : (imps m 3)[i]? = some g) : (globs m)[i]? = some g.glob := by
 unfold globs
 rw [List.getElem?_append_left (by simpa using (List.getElem?_eq_some_iff.1 h).1), List.getElem?_map, h]
 rfl
end Va
namespace Go.Proofs.YtelcdmkbaegjoaaGreat
open Go.RowKit Ins Bin Sp
section
variable {w : World} {P sp mp : Nat} {m : M} {v1 v2 v3 v4 v5 v6 v7 v8 v9 v10 hv : Value}
theorem co (h : VIn w P sp mp m v1 v2 v3 v4 v5 v6 v7 v8 v9 v10 hv) (t : Nat) (ht : t < 4294967296) :
  Calls Tryz.prog 55 #[.pointer (some ⟨P, 0, none⟩), .int .u32 (t : Int)] w fun e w' => e = .returned (.int .i64 ((Va.okE (decide (t < m.types.length)) 80 : Nat) : Int)) ∧ w = w' := by
 obtain ⟨A, c, hv1, _⟩ := h.rep.types
 have x0 := cell15 h.cells 0 _ rfl
 rw [hv1] at x0
 have hn := h.fit.lots.types
 clear h hv1
 obtain ⟨n, e⟩ : ∃ n, m.types.length = n := ⟨_, rfl⟩
 rw [e] at x0 hn ⊢
 clear e
 have hw1 : IntKind.u64.wrap (t : Int) = (t : Int) := IntWalk.u64_in _ (by omega)
 have hw2 : IntKind.u64.wrap (n : Int) = (n : Int) := IntWalk.u64_in _ (by omega)
 by_cases hlt : t < n
 ·have hi : (t : Int) < (n : Int) := by omega
  have hi2 : decide ((t : Int) < (n : Int)) = true := decide_eq_true hi
  have hd : decide (t < n) = true := decide_eq_true hlt
  rw [hd]
  go_enter Tryz.func55, Tryz.ntmps55
  go_wp2_with (go_at_call 53; refine (al true 80 80 _ rfl).mono ?_; rintro e w' ⟨rfl, rfl⟩)
  go_ret
  exact ⟨rfl, rfl⟩
 ·have hi2 : decide ((t : Int) < (n : Int)) = false := decide_eq_false (by omega)
  have hd : decide (t < n) = false := decide_eq_false hlt
  rw [hd]
  go_enter Tryz.func55, Tryz.ntmps55
  go_wp2_with (go_at_call 53; refine (al false 80 80 _ rfl).mono ?_; rintro e w' ⟨rfl, rfl⟩)
  go_ret
  exact ⟨rfl, rfl⟩
theorem dx (h : FitV m) (k : Nat) : count m k ≤ 2100000 := by
 have h1 := cb m k
 have h2 := h.lots
 have := h2.imports
 have := h2.funcs
 have := h2.tables
 have := h2.mems
 have := h2.globals
 unfold count imported mine
 (repeat' split) <;> omega
theorem bw (h : VIn w P sp mp m v1 v2 v3 v4 v5 v6 v7 v8 v9 v10 hv) (k t : Nat) (hk : k < 256) (ht : t < 4294967296) :
  Calls Tryz.prog 60 #[.pointer (some ⟨P, 0, none⟩), .int .u8 (k : Int), .int .u32 (t : Int)] w fun e w' => e = .returned (.bool (decide (t < count m k))) ∧ Below w.heap.size w w' := by
 have x12 := cell15 h.cells 12 _ rfl
 have HC := J (bG (some ⟨sp, 0, none⟩) m k hk w h.recv (Lots.some h.fit.lots))
 have hn := dx h.fit k
 clear h
 obtain ⟨n, e⟩ : ∃ n, count m k = n := ⟨_, rfl⟩
 rw [e] at HC hn ⊢
 clear e
 have hw1 : IntKind.u64.wrap (t : Int) = (t : Int) := IntWalk.u64_in _ (by omega)
 have hw2 : IntKind.u64.wrap (n : Int) = (n : Int) := IntWalk.u64_in _ (by omega)
 by_cases hlt : t < n
 ·have hi : (t : Int) < (n : Int) := by omega
  have hi2 : decide ((t : Int) < (n : Int)) = true := decide_eq_true hi
  have hd : decide (t < n) = true := decide_eq_true hlt
  rw [hd]
  go_enter Tryz.func60, Tryz.ntmps60
  go_wp2_with (go_at_call 10; refine HC.out.mono ?_; rintro e w' ⟨rfl, hb⟩; have HB := J hb; clear hb)
  go_ret
  exact ⟨rfl, HB.out⟩
 ·have hi2 : decide ((t : Int) < (n : Int)) = false := decide_eq_false (by omega)
  have hd : decide (t < n) = false := decide_eq_false hlt
  rw [hd]
  go_enter Tryz.func60, Tryz.ntmps60
  go_wp2_with (go_at_call 10; refine HC.out.mono ?_; rintro e w' ⟨rfl, hb⟩; have HB := J hb; clear hb)
  go_ret
  exact ⟨rfl, HB.out⟩
end
end Go.Proofs.YtelcdmkbaegjoaaGreat
