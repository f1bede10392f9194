/-
  The walk over ValidThere, given what Check does. (gen/valid/there.py)
-/
import Derived.Test.YtelcdmkbaegjoaaGreatTq01
import Derived.Test.YtelcdmkbaegjoaaGreatTq26
import Derived.Test.YtelcdmkbaegjoaaGreatTq18
import Derived.Test.YtelcdmkbaegjoaaGreatTq34
import Derived.Test.YtelcdmkbaegjoaaGreatTq44
import Derived.Test.YtelcdmkbaegjoaaGreatTq32
import Derived.Test.YtelcdmkbaegjoaaGreatTq27
import Derived.Deep.Cut
import Derived.Deep.CutRange
set_option maxRecDepth 100000
set_option maxHeartbeats 4000000
namespace Go.Proofs.YtelcdmkbaegjoaaGreat
open Go.RowKit Ins Bin Sp
theorem tthere_any (P Z : Nat) (m : M) (k i : Nat) (hk : k < 256) (hi : i < 4294967296) (w : World) (hZ : w.heap[Z]? = some (.cells #[.pointer (some ⟨P, 0, none⟩)] 40 (0, 0))) (hS : aI w P m) (hl : Lots m) :
  Calls Tryz.prog 9 #[.int .u8 (k : Int), .int .u32 (i : Int), .pointer (some ⟨Z, 0, none⟩)] w fun e w' => e = .returned (.bool (decide (i < count m k))) ∧ Below w.heap.size w w' := by
 have HC := J (aW (some ⟨P, 0, none⟩) m k hk w (.inl ⟨P, rfl, hS⟩) (Lots.some hl))
 have z0 : w.cell? ⟨Z, 0, none⟩ = some (.pointer (some ⟨P, 0, none⟩)) := by rw [cell_of_row w Z 0 _ _ (0, 0) hZ]; rfl
 have hcl : count m k ≤ 4200000 := by
  have h1 := bS m k
  have h2 := hl.imports
  have h3 := hl.funcs
  have h4 := hl.tables
  have h5 := hl.mems
  have h6 := hl.globals
  unfold count mine
  split
  ·omega
  ·split
   ·omega
   ·split
    ·omega
    ·split <;> omega
 generalize count m k = n at HC hcl ⊢
 have hd : decide ((i : Int) < (n : Int)) = decide (i < n) := decide_eq_decide.2 (by omega)
 have HD := J hd
 have hw1 : IntKind.u64.wrap (i : Int) = (i : Int) := by rw [IntKind.wrap_u64]; omega
 have hw2 : IntKind.u64.wrap (n : Int) = (n : Int) := by rw [IntKind.wrap_u64]; omega
 clear hZ hS hd
 go_enter Tryz.func9, Tryz.ntmps9
 go_wp2_with (go_at_call 10; refine HC.out.mono ?_; rintro e w1 ⟨rfl, hb⟩; have HB := J hb; clear hb)
 go_ret
 exact ⟨rfl, HB.out⟩
theorem elV_at {w : World} {A : Option Addr} {xs : List El} {k : Nat} {x : El} (h : HasL w (· < w.heap.size) A xs) (hx : xs[k]? = some x) : ∃ g o u v, A = some ⟨g, o, none⟩ ∧ g < w.heap.size ∧ x.table < 4294967296 ∧ w.cell? ⟨g, o + k * 3, none⟩ = some (.int .u32 (x.table : Int)) ∧ w.cell? ⟨g, o + k * 3 + 1, none⟩ = some u ∧ w.cell? ⟨g, o + k * 3 + 2, none⟩ = some v ∧ ab w (· < w.heap.size) x.off u ∧ ab w (· < w.heap.size) x.funcs v := by
 obtain ⟨g, o, cs, rfl, hg, _, ⟨u, v, rfl, h0, h1, h2⟩, hc⟩ := h k x hx
 exact ⟨g, o, u, v, rfl, hg, h0, hc 0 _ rfl, hc 1 _ rfl, hc 2 _ rfl, h1, h2⟩
theorem natV_at {w : World} {A : Option Addr} {xs : List Nat} {k x : Nat} (h : HasL w (· < w.heap.size) A xs) (hx : xs[k]? = some x) : ∃ g o, A = some ⟨g, o, none⟩ ∧ g < w.heap.size ∧ x < 4294967296 ∧ w.cell? ⟨g, o + k, none⟩ = some (.int .u32 (x : Int)) := by
 obtain ⟨g, o, cs, rfl, hg, _, ⟨rfl, h0⟩, hc⟩ := h k x hx
 have := hc 0 _ rfl
 rw [show Lay.size Nat = 1 from rfl, Nat.mul_one, Nat.add_zero] at this
 exact ⟨g, o, rfl, hg, h0, this⟩
theorem expW_at {w : World} {A : Option Addr} {xs : List Exp} {k : Nat} {x : Exp} (h : HasL w (· < w.heap.size) A xs) (hx : xs[k]? = some x) : ∃ g o, A = some ⟨g, o, none⟩ ∧ g < w.heap.size ∧ x.index < 4294967296 ∧ w.cell? ⟨g, o + k * 3, none⟩ = some (strV x.name) ∧ w.cell? ⟨g, o + k * 3 + 1, none⟩ = some (.int .u8 (x.kind.toNat : Int)) ∧ w.cell? ⟨g, o + k * 3 + 2, none⟩ = some (.int .u32 (x.index : Int)) := by
 obtain ⟨g, o, cs, rfl, hg, _, ⟨rfl, hi⟩, hc⟩ := h k x hx
 exact ⟨g, o, rfl, hg, hi, hc 0 _ rfl, hc 1 _ rfl, hc 2 _ rfl⟩
theorem cN {w : World} {X : Nat} {a b c : Value} {t : TypeId} (h : w.heap[X]? = some (.cells #[a, b, c] t (0, 0))) : w.cell? ⟨X, 0, none⟩ = some a ∧ w.cell? ⟨X, 1, none⟩ = some b ∧ w.cell? ⟨X, 2, none⟩ = some c := ⟨by rw [cell_of_row w X 0 _ _ (0, 0) h]; rfl, by rw [cell_of_row w X 1 _ _ (0, 0) h]; rfl, by rw [cell_of_row w X 2 _ _ (0, 0) h]; rfl⟩
theorem insV_at {w : World} {A : Option Addr} {xs : List I} {k : Nat} {x : I} (h : HasL w (· < w.heap.size) A xs) (hx : xs[k]? = some x) : ∃ g o A' c, A = some ⟨g, o, none⟩ ∧ g < w.heap.size ∧ x.wf ∧ ∀ j u, (insCells x A' c)[j]? = some u → w.cell? ⟨g, o + k * 5 + j, none⟩ = some u := by
 obtain ⟨g, o, cs, rfl, hg, _, ⟨A', c, rfl, h1, _⟩, hc⟩ := h k x hx
 exact ⟨g, o, A', c, rfl, hg, h1, hc⟩
theorem cdV_at {w : World} {A : Option Addr} {xs : List Cd} {k : Nat} {x : Cd} (h : HasL w (· < w.heap.size) A xs) (hx : xs[k]? = some x) : ∃ g o u v, A = some ⟨g, o, none⟩ ∧ g < w.heap.size ∧ w.cell? ⟨g, o + k * 2, none⟩ = some u ∧ w.cell? ⟨g, o + k * 2 + 1, none⟩ = some v ∧ ab w (· < w.heap.size) x.locals u ∧ ab w (· < w.heap.size) x.body v := by
 obtain ⟨g, o, cs, rfl, hg, _, ⟨u, v, rfl, h1, h2⟩, hc⟩ := h k x hx
 exact ⟨g, o, u, v, rfl, hg, hc 0 _ rfl, hc 1 _ rfl, h1, h2⟩
theorem htV_at {w : World} {A : Option Addr} {xs : List Va.Ht} {k : Nat} {x : Va.Ht} (h : HasL w (· < w.heap.size) A xs) (hx : xs[k]? = some x) : ∃ g o, A = some ⟨g, o, none⟩ ∧ g < w.heap.size ∧ w.cell? ⟨g, o + k, none⟩ = some (.int .i64 (x.h : Int)) := by
 obtain ⟨g, o, cs, rfl, hg, _, e, hc⟩ := h k x hx
 obtain rfl : cs = [.int .i64 (x.h : Int)] := e
 have := hc 0 _ rfl
 rw [show Lay.size Va.Ht = 1 from rfl, Nat.mul_one, Nat.add_zero] at this
 exact ⟨g, o, rfl, hg, this⟩
theorem vthere_any (hv : bi) (m : M) (v1 v2 v3 v4 v5 v6 v7 v8 v9 v10 : Value) (w : World) (hM : RepM w (· < w.heap.size) m v1 v2 v3 v4 v5 v6 v7 v8 v9 v10) (hB : BigM m) (hF : wtM m ≤ 1048576) :
  Calls Tryz.prog 3 #[.agg (modCells m v1 v2 v3 v4 v5 v6 v7 v8 v9 v10)] w fun e w' => e = .returned (.bool true) ∧ Below w.heap.size w w' := by
 have hfit := fitV_of hF
 have hft : ∀ t ∈ funs m, t < 4294967296 := dz hM
 generalize hcs : modCells m v1 v2 v3 v4 v5 v6 v7 v8 v9 v10 = cs
 have HV : Hid (∀ W, Below w.heap.size w W → Calls Tryz.prog 6 #[.agg cs] W fun e w' => ∃ A c, e = .returned (.tuple #[.slice A (Va.hts (Va.check m)).length c, .int .i64 (Va.num (Va.check m) : Int)]) ∧ ab w' (· < w'.heap.size) (Va.hts (Va.check m)) (.slice A (Va.hts (Va.check m)).length c) ∧ Below W.heap.size W w') := J (fun W hb => by
  subst hcs
  refine (hv m v1 v2 v3 v4 v5 v6 v7 v8 v9 v10 W (hM.grow hb) hfit).mono ?_
  intro e w' h
  obtain ⟨A, k, c, h1, h2, h3, h4⟩ := dI h
  subst h2
  exact ⟨A, c, h1, h3, h4⟩)
 have HG : Hid (∀ W, Below w.heap.size w W → Calls Tryz.prog 7 #[.agg cs] W fun e w' => ∃ g : Bool, e = .returned (.bool g) ∧ Below W.heap.size W w') := J (fun W hb => by
  subst hcs
  refine (bgreat_any m v1 v2 v3 v4 v5 v6 v7 v8 v9 v10 W (hM.grow hb) hB).mono ?_
  rintro e w' ⟨g, h1, h2, _⟩
  exact ⟨g, h1, h2⟩)
 have HOF : Hid (∀ W, Below w.heap.size w W → Calls Tryz.prog 8 #[.agg cs] W fun e w' => ∃ P, e = .returned (.pointer (some ⟨P, 0, none⟩)) ∧ aI w' P m ∧ Below W.heap.size W w') := J (fun W hb => by
  subst hcs
  exact sofL_any m v1 v2 v3 v4 v5 v6 v7 v8 v9 v10 W (hM.grow hb) hfit.lots)
 have HKN : Hid (∀ W, Calls Tryz.prog 5 #[] W fun e w' => e = .returned (.bool true) ∧ Below W.heap.size W w') := J (fun W => known11 hv W)
 have HM := J hM
 have HF := J hfit
 have HFT := J hft
 have HE7 := J hM.exports
 have HE8 := J hM.elems
 have HE9 := J hM.codes
 unfold modCells at hcs
 obtain ⟨hs, hhs⟩ : ∃ b, m.hasStart = b := ⟨_, rfl⟩
 obtain ⟨st, hst⟩ : ∃ b, m.start = b := ⟨_, rfl⟩
 have HHS := J hhs
 have HST := J hst
 have hstl : st < 4294967296 := by rw [← hst]; exact hM.start
 rw [hhs, hst] at hcs
 subst hcs
 clear hv hM hB hF hfit hhs hst hft
 obtain ⟨q, hq⟩ : ∃ q, Va.num (Va.check m) = q := ⟨_, rfl⟩
 obtain ⟨xh, hxh⟩ : ∃ q, Va.hts (Va.check m) = q := ⟨_, rfl⟩
 rw [hq, hxh] at HV
 obtain ⟨nh, hnh⟩ : ∃ q, xh.length = q := ⟨_, rfl⟩
 rw [hnh] at HV
 have HQ := J hq
 have HXH := J hxh
 have HNH := J hnh
 clear hq hxh hnh
 obtain ⟨A7, c7, rfl, hcap7, hcm7, hnil7, hL7⟩ := HE7.out
 obtain ⟨A8, c8, rfl, hcap8, hcm8, hnil8, hL8⟩ := HE8.out
 obtain ⟨A9, c9, rfl, hcap9, hcm9, hnil9, hL9⟩ := HE9.out
 have HL7 := J hL7
 have HL8 := J hL8
 have HL9 := J hL9
 obtain ⟨es, hes⟩ : ∃ es, m.exports = es := ⟨_, rfl⟩
 obtain ⟨els, hels⟩ : ∃ es, m.elems = es := ⟨_, rfl⟩
 obtain ⟨cds, hcds⟩ : ∃ es, m.codes = es := ⟨_, rfl⟩
 rw [hes] at HL7 hcap7 HV HG HOF ⊢
 rw [hels] at HL8 hcap8 HV HG HOF ⊢
 rw [hcds] at HL9 hcap9 HV HG HOF ⊢
 obtain ⟨n7, hn7⟩ : ∃ n, es.length = n := ⟨_, rfl⟩
 obtain ⟨n8, hn8⟩ : ∃ n, els.length = n := ⟨_, rfl⟩
 obtain ⟨n9, hn9⟩ : ∃ n, cds.length = n := ⟨_, rfl⟩
 rw [hn7] at hcap7 HV HG HOF ⊢
 rw [hn8] at hcap8 HV HG HOF ⊢
 rw [hn9] at hcap9 HV HG HOF ⊢
 have HN7 := J hn7
 have HN8 := J hn8
 have HN9 := J hn9
 have HES := J hes
 have HEL := J hels
 have HCD := J hcds
 have hb7 : n7 ≤ 1050000 := by have := HF.out.lots.exports; rw [hes, hn7] at this; exact this
 have hb8 : n8 ≤ 1050000 := by have := HF.out.elems.1; rw [hels, hn8] at this; exact this
 have hb9 : n9 ≤ 1050000 := by have := HF.out.codes.1; rw [hcds, hn9] at this; exact this
 unfold maxLen at hcm7 hcm8 hcm9
 clear hL7 hL8 hL9 hnil7 hnil8 hnil9 HE7 HE8 HE9 hes hels hcds hn7 hn8 hn9
 have HX0 := J (heap_alloc_new w (.cells #[v1, v2, v3, v4, v5, v6, .slice A7 n7 c7, .bool hs, .int .u32 (st : Int), .slice A8 n8 c8, .slice A9 n9 c9, v10] 33))
 have HB0 : Hid (Below w.heap.size w (w.alloc (.cells #[v1, v2, v3, v4, v5, v6, .slice A7 n7 c7, .bool hs, .int .u32 (st : Int), .slice A8 n8 c8, .slice A9 n9 c9, v10] 33))) := J ((Below.refl _ _).alloc (Nat.le_refl _) _)
 go_enter Tryz.func3, Tryz.ntmps3
 go_upto_region 1 with fail
 generalize w.alloc (.cells #[v1, v2, v3, v4, v5, v6, .slice A7 n7 c7, .bool hs, .int .u32 (st : Int), .slice A8 n8 c8, .slice A9 n9 c9, v10] 33) = w0 at HX0 HB0 ⊢
 obtain ⟨X, hX⟩ : ∃ X, w.heap.size = X := ⟨_, rfl⟩
 rw [hX] at HX0
 simp only [hX]
 clear hX
 have HAL := J (fun W (hW : Below w0.heap.size w0 W) => cells12 HX0.out hW)
 go_upto_region 3 with (go_at_call 5; refine (HKN.out _).mono ?_; rintro e w1 ⟨rfl, hb⟩; have HW1 := J hb; clear hb)
 have HB1 := J (HB0.out.trans (HW1.out.mono HB0.out.size))
 obtain ⟨a0, a1, a2, a3, a4, a5, a6, a7, a8, a9, a10, a11⟩ := HAL.out _ HW1.out
 go_upto_region 4 with (go_at_call 6; refine (HV.out _ HB1.out).mono ?_; rintro e w2 ⟨Ah, ch, rfl, hh, hb⟩; have HH2 := J hh; have HW2 := J (HW1.out.trans (hb.mono HW1.out.size)); have HB2 := J (HB1.out.trans (hb.mono HB1.out.size)); clear hb hh)
 clear a0 a1 a2 a3 a4 a5 a6 a7 a8 a9 a10 a11
 obtain ⟨a0, a1, a2, a3, a4, a5, a6, a7, a8, a9, a10, a11⟩ := HAL.out _ HW2.out
 go_cut [35] from 30 to 35 (fun t wx => ∃ b : Bool, t = .bool b ∧ Hid (Below w2.heap.size w2 wx) ∧ Hid (b = false → q = 0))
 case first =>
  as_aux_lemma =>
   by_cases hq0 : q = 0
   ·have e1 : ((q : Int) != 0) = false := by rw [bne_eq_false_iff_eq]; omega
    have HQA := J hq0
    clear hq0
    go_wp2_with (go_at_call 7; refine (HG.out _ HB2.out).mono ?_; rintro e w3 ⟨g, rfl, hb⟩; have HW3 := J hb; clear hb a0 a1 a2 a3 a4 a5 a6 a7 a8 a9 a10 a11)
    all_goals (go_meet; case rel => first | exact ⟨true, rfl, HW3, J (fun h => by cases h)⟩ | exact ⟨false, rfl, HW3, J (fun _ => HQA.out)⟩)
   ·have e1 : ((q : Int) != 0) = true := by rw [bne_iff_ne]; omega
    go_wp2_with (go_at_call 7; refine (HG.out _ HB2.out).mono ?_; rintro e w3 ⟨g, rfl, hb⟩; have HW3 := J hb; clear hb a0 a1 a2 a3 a4 a5 a6 a7 a8 a9 a10 a11)
    all_goals (go_meet; case rel => exact ⟨true, rfl, HW3, J (fun h => by cases h)⟩)
 case rest =>
 obtain ⟨b, rfl, HW3, HQA⟩ := hcut
 clear a0 a1 a2 a3 a4 a5 a6 a7 a8 a9 a10 a11 HV HG HKN
 have HH3 := J (growV HH2.out HW3.out)
 have HW3 := J (HW2.out.trans (HW3.out.mono HW2.out.size))
 have HB3 := J (HB0.out.trans (HW3.out.mono HB0.out.size))
 cases b with
 | true =>
  go_wp2_with fail
  go_ret
  exact ⟨rfl, HB3.out⟩
 | false =>
 obtain ⟨hh, hgood⟩ := Va.num_zero.1 (HQ.out.trans (HQA.out rfl))
 have HGD := J hgood
 have hq0 := HQA.out rfl
 have hxh := HXH.out
 rw [Va.check_ok.2 hgood] at hxh
 have HXH : Hid (xh = hh.map Va.Ht.mk) := J hxh.symm
 have hnc : nh = n9 := by
  have h1 := hgood.len
  have h2 := HNH.out
  rw [← hxh] at h2
  have h3 := HN9.out
  have h4 := HCD.out
  rw [h4, h3] at h1
  rw [← h2]
  show (hh.map Va.Ht.mk).length = n9
  rw [List.length_map]
  exact h1
 subst hnc
 rw [show (q : Int) = 0 by omega]
 clear hgood HQA HQ HW1 HW2 HB1 HB2 hq0 hxh HH2
 obtain ⟨a0, a1, a2, a3, a4, a5, a6, a7, a8, a9, a10, a11⟩ := HAL.out _ HW3.out
 have HPL := J (fun W P => heap_alloc_new W (.cells #[.pointer (some ⟨P, 0, none⟩)] 40))
 go_upto_region 8 with (go_at_call 8; refine (HOF.out _ HB3.out).mono ?_; rintro e w4 ⟨P, rfl, hsp, hb⟩; have HS4 := J hsp; have HW4 := J hb; clear hb hsp)
 clear a0 a1 a2 a3 a4 a5 a6 a7 a8 a9 a10 a11
 have HZ0 := J (heap_alloc_new w4 (.cells #[.pointer (some ⟨P, 0, none⟩)] 40))
 have hbz : Below w4.heap.size w4 (w4.alloc (.cells #[.pointer (some ⟨P, 0, none⟩)] 40)) := (Below.refl _ _).alloc (Nat.le_refl _) _
 have HW3 := J (HW3.out.trans ((HW4.out.trans (hbz.mono HW4.out.size)).mono HW3.out.size))
 have HHZ := J (growV HH3.out (HW4.out.trans (hbz.mono HW4.out.size)))
 have HSZ := J (HS4.out.grow hbz)
 clear hbz HW4 HS4 HH3 HB3 HOF
 generalize w4.alloc (.cells #[.pointer (some ⟨P, 0, none⟩)] 40) = wz at HZ0 HW3 HHZ HSZ ⊢
 obtain ⟨Z, hZ⟩ : ∃ Z, w4.heap.size = Z := ⟨_, rfl⟩
 rw [hZ] at HZ0
 simp only [hZ]
 clear hZ
 have HOL := J (fun W (hW : Below wz.heap.size wz W) => HB0.out.trans ((HW3.out.trans (hW.mono HW3.out.size)).mono HB0.out.size))
 have HAL := J (fun W (hW : Below wz.heap.size wz W) => HAL.out W (HW3.out.trans (hW.mono HW3.out.size)))
 have HZC := J (fun W (hW : Below wz.heap.size wz W) => (hW.block Z (Array.getElem?_eq_some_iff.1 HZ0.out).1).trans HZ0.out)
 have HZP := J (fun W (hW : Below wz.heap.size wz W) => (show W.cell? ⟨Z, 0, none⟩ = some (.pointer (some ⟨P, 0, none⟩)) from by rw [cell_of_row W Z 0 _ _ (0, 0) (HZC.out W hW)]; rfl))
 have HSP := J (fun W (hW : Below wz.heap.size wz W) => HSZ.out.grow hW)
 have HRV := J (fun W (hW : Below wz.heap.size wz W) => (show Recv W (some ⟨P, 0, none⟩) m from .inl ⟨P, rfl, HSP.out W hW⟩))
 have HTH := J (fun W (k i : Nat) (hW : Below wz.heap.size wz W) (hk : k < 256) (hi : i < 4294967296) => tthere_any P Z m k i hk hi W (HZC.out W hW) (HSP.out W hW) HF.out.lots)
 have HT0 : Hid (∀ W (i : Nat), Below wz.heap.size wz W → i < 4294967296 → i < count m 0 → Calls Tryz.prog 9 #[.int .u8 0, .int .u32 (i : Int), .pointer (some ⟨Z, 0, none⟩)] W fun e w' => e = .returned (.bool true) ∧ Below W.heap.size W w') := J (fun W i hW hi hc => by
  have h := HTH.out W 0 i hW (by decide) hi
  rw [decide_eq_true hc] at h
  exact h)
 have HT1 : Hid (∀ W (i : Nat), Below wz.heap.size wz W → i < 4294967296 → i < count m 1 → Calls Tryz.prog 9 #[.int .u8 1, .int .u32 (i : Int), .pointer (some ⟨Z, 0, none⟩)] W fun e w' => e = .returned (.bool true) ∧ Below W.heap.size W w') := J (fun W i hW hi hc => by
  have h := HTH.out W 1 i hW (by decide) hi
  rw [decide_eq_true hc] at h
  exact h)
 have HT3 : Hid (∀ W (i : Nat), Below wz.heap.size wz W → i < 4294967296 → i < count m 3 → Calls Tryz.prog 9 #[.int .u8 3, .int .u32 (i : Int), .pointer (some ⟨Z, 0, none⟩)] W fun e w' => e = .returned (.bool true) ∧ Below W.heap.size W w') := J (fun W i hW hi hc => by
  have h := HTH.out W 3 i hW (by decide) hi
  rw [decide_eq_true hc] at h
  exact h)
 have HT1z : Hid (∀ W, Below wz.heap.size wz W → 0 < count m 1 → Calls Tryz.prog 9 #[.int .u8 1, .int .u32 0, .pointer (some ⟨Z, 0, none⟩)] W fun e w' => e = .returned (.bool true) ∧ Below W.heap.size W w') := J (fun W hW hc => HT1.out W 0 hW (by decide) hc)
 have HT2z : Hid (∀ W, Below wz.heap.size wz W → 0 < count m 2 → Calls Tryz.prog 9 #[.int .u8 2, .int .u32 0, .pointer (some ⟨Z, 0, none⟩)] W fun e w' => e = .returned (.bool true) ∧ Below W.heap.size W w') := J (fun W hW hc => by
  have h := HTH.out W 2 0 hW (by decide) (by decide)
  rw [decide_eq_true hc] at h
  exact h)
 obtain ⟨q1, hq1⟩ : ∃ q, count m 1 = q := ⟨_, rfl⟩
 obtain ⟨q2, hq2⟩ : ∃ q, count m 2 = q := ⟨_, rfl⟩
 have HC1 : Hid (∀ W, Below wz.heap.size wz W → Calls Tryz.prog 10 #[.pointer (some ⟨P, 0, none⟩), .int .u8 1] W fun e w' => e = .returned (.int .i64 (q1 : Int)) ∧ Below W.heap.size W w') := J (fun W hW => by
  have h := aW (some ⟨P, 0, none⟩) m 1 (by decide) W (HRV.out W hW) (Lots.some HF.out.lots)
  rw [hq1] at h
  exact h)
 have HC2 : Hid (∀ W, Below wz.heap.size wz W → Calls Tryz.prog 10 #[.pointer (some ⟨P, 0, none⟩), .int .u8 2] W fun e w' => e = .returned (.int .i64 (q2 : Int)) ∧ Below W.heap.size W w') := J (fun W hW => by
  have h := aW (some ⟨P, 0, none⟩) m 2 (by decide) W (HRV.out W hW) (Lots.some HF.out.lots)
  rw [hq2] at h
  exact h)
 have hd1 : decide ((1 : Int) < (q1 : Int)) = false := decide_eq_false (by have := HGD.out.few.1; omega)
 have hd2 : decide ((1 : Int) < (q2 : Int)) = false := decide_eq_false (by have := HGD.out.few.2; omega)
 have hdn : ((nh : Int) != (nh : Int)) = false := by rw [bne_eq_false_iff_eq]
 clear hq1 hq2
 obtain ⟨a0, a1, a2, a3, a4, a5, a6, a7, a8, a9, a10, a11⟩ := HAL.out _ (Below.refl _ _)
 have z0 := HZP.out _ (Below.refl _ _)
 have tok1 : True := trivial
 have tok2 : True := trivial
 go_upto_region 10 with (first | (clear tok1; go_at_call 10; refine (HC1.out wz (Below.refl _ _)).mono ?_; rintro e w5 ⟨rfl, hb⟩; have HB5 := J hb; have z1 := HZP.out _ HB5.out; clear hb) | (clear tok2; go_at_call 10; refine (HC2.out w5 HB5.out).mono ?_; rintro e w6 ⟨rfl, hb⟩; have HB6 := J (HB5.out.trans (hb.mono HB5.out.size)); clear hb))
 clear a0 a1 a2 a3 a4 a5 a6 a7 a8 a9 a10 a11 z0 z1 HC1 HC2 hd1 hd2 hdn HB5
 obtain ⟨a0, a1, a2, a3, a4, a5, a6, a7, a8, a9, a10, a11⟩ := HAL.out _ HB6.out
 go_wp2_with fail
 go_loopw [58] (fun iv wr => ∃ i : Nat, i ≤ nh ∧ iv = .int .i64 (i : Int) ∧ Hid (Below wz.heap.size wz wr)) (fun iv _ => nh - (intOf iv).toNat)
 case atStart => exact ⟨0, by omega, rfl, HB6⟩
 case round =>
  obtain ⟨i, hi, rfl, HB⟩ := hrel
  by_cases hin : i < nh
  ·have hini : (i : Int) < (nh : Int) := by omega
   obtain ⟨cd, hcd⟩ : ∃ x, cds[i]? = some x := ⟨_, List.getElem?_eq_getElem (by have := HN9.out; omega)⟩
   obtain ⟨g9, o9, u, v, rfl, hg9, k0, k1, hu, hvb⟩ := cdV_at HL9.out hcd
   have HU := J (fun W (hW : Below wz.heap.size wz W) => growV hu (HOL.out W hW))
   have HVB := J (fun W (hW : Below wz.heap.size wz W) => growV hvb (HOL.out W hW))
   obtain ⟨Al, cl, rfl, _⟩ := hu
   obtain ⟨Ab, cb, rfl, hcapb, _, hnilb, hLb⟩ := hvb
   have HLB := J hLb
   have k0 := ((HOL.out _ HB.out).cell (p := ⟨g9, o9 + i * 2, none⟩) hg9).trans k0
   have k1 := ((HOL.out _ HB.out).cell (p := ⟨g9, o9 + i * 2 + 1, none⟩) hg9).trans k1
   obtain ⟨f, n, hf, hchk, hhi⟩ := HGD.out.code (i := i) (c := cd) (by rw [HCD.out]; exact hcd)
   have HFN := J hf
   have HCHK := J hchk
   have HHI := J hhi
   have HCDI := J hcd
   clear hf hchk hhi hcd hLb hnilb
   obtain ⟨nl, hnl⟩ : ∃ n, cd.locals.length = n := ⟨_, rfl⟩
   obtain ⟨nb, hnb⟩ : ∃ n, cd.body.length = n := ⟨_, rfl⟩
   rw [hnl] at k0 HU
   rw [hnb] at k1 HVB hcapb
   have hnbl : nb ≤ 1050000 := by
    have h := (HF.out.codes.2 cd (by rw [HCD.out]; exact List.mem_of_getElem? HCDI.out)).2.1
    omega
   have HNB := J hnb
   have HNLO := J hnl
   clear hnb hnl
   go_upto_region 13 with fail
   have HY0 := J (heap_alloc_new wr (.cells #[.slice Al nl cl, .slice Ab nb cb] 48))
   have HB7 : Hid (Below wz.heap.size wz (wr.alloc (.cells #[.slice Al nl cl, .slice Ab nb cb] 48))) := J (HB.out.alloc HB.out.size _)
   generalize wr.alloc (.cells #[.slice Al nl cl, .slice Ab nb cb] 48) = w7 at HY0 HB7 ⊢
   obtain ⟨Y, hY⟩ : ∃ Y, wr.heap.size = Y := ⟨_, rfl⟩
   rw [hY] at HY0
   simp only [hY]
   clear hY k0 k1
   have HYC := J (fun W (hW : Below w7.heap.size w7 W) => bK ((hW.block Y (Array.getElem?_eq_some_iff.1 HY0.out).1).trans HY0.out))
   have HZ7 := J (fun W (hW : Below w7.heap.size w7 W) => HZP.out W (HB7.out.trans (hW.mono HB7.out.size)))
   obtain ⟨q0, hq0⟩ : ∃ q, imported m 0 = q := ⟨_, rfl⟩
   obtain ⟨qi, hqi⟩ : ∃ q, q0 + i = q := ⟨_, rfl⟩
   have HIM : Hid (∀ W, Below w7.heap.size w7 W → Calls Tryz.prog 12 #[.pointer (some ⟨P, 0, none⟩), .int .u8 0] W fun e w' => e = .returned (.int .i64 (q0 : Int)) ∧ Below W.heap.size W w') := J (fun W hW => by
    have h := bx (some ⟨P, 0, none⟩) m 0 (by decide) W (HRV.out W (HB7.out.trans (hW.mono HB7.out.size))) (Lots.some HF.out.lots)
    rw [hq0] at h
    exact h)
   have hql : qi < 4294967296 := by
    have h1 := bS m 0
    have h2 := HF.out.lots.imports
    omega
   obtain ⟨np, hnp⟩ : ∃ n, f.params.length = n := ⟨_, rfl⟩
   obtain ⟨nr, hnr⟩ : ∃ n, f.results.length = n := ⟨_, rfl⟩
   have HFC : Hid (∀ W, Below w7.heap.size w7 W → Calls Tryz.prog 11 #[.pointer (some ⟨P, 0, none⟩), .int .u32 (qi : Int)] W fun e w' => ∃ A1 d1 A2 d2, e = .returned (.tuple #[.agg #[.slice A1 np d1, .slice A2 nr d2], .bool true]) ∧ ab w' (W.heap.size ≤ ·) f.params (.slice A1 np d1) ∧ ab w' (W.heap.size ≤ ·) f.results (.slice A2 nr d2) ∧ Below W.heap.size W w') := J (fun W hW => by
    have h := bG (some ⟨P, 0, none⟩) m qi W (HRV.out W (HB7.out.trans (hW.mono HB7.out.size))) (Lots.some HF.out.lots) hql HFT.out
    have hf := HFN.out
    rw [hq0, hqi] at hf
    rw [hf] at h
    refine h.mono ?_
    intro e w' he
    obtain ⟨A1, d1, A2, d2, h1, h2, h3, h4⟩ := aR.yes he
    rw [hnp, hnr] at h1
    rw [hnp] at h2
    rw [hnr] at h3
    exact ⟨A1, d1, A2, d2, h1, h2, h3, h4⟩)
   have HNP := J hnp
   have HNR := J hnr
   have hql0 : q0 ≤ 1050000 := by
    have h1 := bS m 0
    have h2 := HF.out.lots.imports
    omega
   have hwr : IntKind.i64.wrap ((q0 : Int) + (i : Int)) = (qi : Int) := by rw [IntWalk.i64_in _ ⟨by omega, by omega⟩]; omega
   have hwu : IntKind.u32.wrap (qi : Int) = (qi : Int) := by rw [IntKind.wrap_u32]; omega
   clear hq0 hqi hnp hnr
   go_cut [9, 10] from 63 to 72 (fun p b wx => ∃ Fb A1 d1 A2 d2, p = .pointer (some ⟨Fb, 0, none⟩) ∧ b = .bool true ∧ Hid (Below w7.heap.size w7 wx) ∧ Hid (wx.heap[Fb]? = some (.cells #[.slice A1 np d1, .slice A2 nr d2] 51 (0, 0))) ∧ Hid (ab wx (· < wx.heap.size) f.params (.slice A1 np d1)) ∧ Hid (ab wx (· < wx.heap.size) f.results (.slice A2 nr d2)))
   case first =>
    as_aux_lemma =>
     refine wp_region_held_drew (S := fun W' => Below w7.heap.size w7 W') (by kernel_rfl) (Below.drew (Below.refl _ _)) (fun hHeld => ?_)
     refine dt 0 rfl (v := ?_) ?_ ?_
     rotate_left
     ·(intro wy hSw; have z0 := HZ7.out wy hSw; go_simp; try with_reducible rfl)
     simp only [Act.put, O]
     refine dt 1 rfl (v := ?_) ?_ ?_
     rotate_left
     ·(intro wy hSw; have z0 := HZ7.out wy hSw; go_simp; try with_reducible rfl)
     simp only [Act.put, O]
     refine dt 3 rfl (v := ?_) ?_ ?_
     rotate_left
     ·(intro wy hSw; have z0 := HZ7.out wy hSw; go_simp; try with_reducible rfl)
     simp only [Act.put, O]
     refine ah 2 10 rfl rfl (by kernel_rfl) (fun K hK => ?_) (fun K hK => ?_)
     ·try (rw [if_pos]; case hc => rfl)
      go_simp
      refine (HIM.out _ hHeld).mono ?_
      rintro e w8 ⟨rfl, hb⟩
      have hH : Below w7.heap.size w7 w8 := hHeld.trans (hb.mono hHeld.size)
      go_wp2_with fail
      refine hK.out _ _ hH (fun hHeld2 => ?_)
      clear hK K hHeld
      have hHeld := hHeld2
      clear hHeld2
      refine dv 4 rfl ?_
      refine dv 5 rfl ?_
      refine ah 6 10 rfl rfl (by kernel_rfl) (fun K hK => ?_) (fun K hK => ?_)
      ·try (rw [if_pos]; case hc => rfl)
       go_simp
       refine (HFC.out _ hHeld).mono ?_
       rintro e w9 ⟨A1, d1, A2, d2, rfl, s1, s2, hb⟩
       have hH : Below w7.heap.size w7 w9 := hHeld.trans (hb.mono hHeld.size)
       have HS1 : Hid (ab w9 (· ≠ w9.heap.size) f.params (.slice A1 np d1)) := J (s1.more (fun k hk _ => Nat.ne_of_lt hk))
       have HS2 : Hid (ab w9 (· ≠ w9.heap.size) f.results (.slice A2 nr d2)) := J (s2.more (fun k hk _ => Nat.ne_of_lt hk))
       clear s1 s2
       go_wp2_with fail
       refine hK.out _ _ hH (fun hHeld2 => ?_)
       clear hK K hHeld
       have hHeld := hHeld2
       clear hHeld2
       refine dv 7 rfl ?_
       refine dv 8 rfl ?_
       refine dv 9 rfl ?_
       have HFL : Hid (w7.heap.size ≤ w9.heap.size) := J hHeld.size
       have HBF : Hid (Below w7.heap.size w7 (w9.alloc (.cells #[.slice none 0 0, .slice none 0 0] 51))) := J (hHeld.alloc hHeld.size _)
       have HZF := J (heap_alloc_new w9 (.cells #[.slice none 0 0, .slice none 0 0] 51))
       have hba : Below w9.heap.size w9 (w9.alloc (.cells #[.slice none 0 0, .slice none 0 0] 51)) := (Below.refl _ _).alloc (Nat.le_refl _) _
       have HS1 := J (HS1.out.mod (T := fun _ => False) (Mod.of_below hba) (fun _ _ _ h => h))
       have HS2 := J (HS2.out.mod (T := fun _ => False) (Mod.of_below hba) (fun _ _ _ h => h))
       clear hba
       refine aa 10 rfl (by kernel_rfl) (fun K hK => ?_)
       try (rw [if_pos]; case hc => rfl)
       go_simp
       refine hK.out _ _ HBF.out (fun hHeld2 => ?_)
       clear hK K hHeld
       have hHeld := hHeld2
       clear hHeld2
       refine aa 11 rfl (by kernel_rfl) (fun K hK => ?_)
       try (rw [if_pos]; case hc => rfl)
       refine wp_store_row 51 (.tmp 9) (.tmp 71) rfl w9.heap.size #[.slice A1 np d1, .slice A2 nr d2] rfl rfl 51 #[.slice none 0 0, .slice none 0 0] HZF.out al rfl (by simp [Value.oneCell']) ?_
       refine hK.out _ _ (ac HBF.out HFL.out _) (fun hHeld2 => ?_)
       clear hK K hHeld
       have hHeld := hHeld2
       clear hHeld2
       refine dv 12 rfl ?_
       refine wpAnyH_done (by kernel_rfl) ?_ _
       have HBG := J (ac HBF.out HFL.out #[.slice A1 np d1, .slice A2 nr d2])
       have HZG := J (setRow_heap _ _ #[.slice none 0 0, .slice none 0 0] #[.slice A1 np d1, .slice A2 nr d2] _ _ HZF.out)
       have HV1 := J ((aF HS1.out #[.slice A1 np d1, .slice A2 nr d2] (fun k _ hs => hs)).more (S' := (· < (World.setRow (w9.alloc (.cells #[.slice none 0 0, .slice none 0 0] 51)) w9.heap.size #[.slice A1 np d1, .slice A2 nr d2]).heap.size)) (fun _ hk _ => hk))
       have HV2 := J ((aF HS2.out #[.slice A1 np d1, .slice A2 nr d2] (fun k _ hs => hs)).more (S' := (· < (World.setRow (w9.alloc (.cells #[.slice none 0 0, .slice none 0 0] 51)) w9.heap.size #[.slice A1 np d1, .slice A2 nr d2]).heap.size)) (fun _ hk _ => hk))
       go_wp2_with fail
       go_meet
       case rel => exact ⟨_, A1, d1, A2, d2, rfl, rfl, HBG, HZG, HV1, HV2⟩
      ·try (rw [if_pos]; case hc => rfl)
       go_simp
       have hA : Below w7.heap.size w7 (w8.alloc (.cells #[.slice none 0 0, .slice none 0 0] 51)) := hHeld.alloc hHeld.size _
       have hZA := heap_alloc_new w8 (.cells #[.slice none 0 0, .slice none 0 0] 51)
       refine hK.out _ _ hA (fun hHeld2 => ?_)
       clear hK K hHeld
       have hHeld := hHeld2
       clear hHeld2
       have hFs : w8.heap.size < (w8.alloc (.cells #[.slice none 0 0, .slice none 0 0] 51)).heap.size := by simp
       have hFL : w7.heap.size ≤ w8.heap.size := hH.size
       refine aa 6 rfl (by kernel_rfl) (fun K hK => ?_)
       try (rw [if_pos]; case hc => rfl)
       go_simp
       refine (HFC.out _ hHeld).mono ?_
       rintro e w9 ⟨A1, d1, A2, d2, rfl, s1, s2, hb⟩
       have hH : Below w7.heap.size w7 w9 := hHeld.trans (hb.mono hHeld.size)
       have HFL : Hid (w7.heap.size ≤ w8.heap.size) := J hFL
       have HBF := J hH
       have HZF := J ((hb.block w8.heap.size hFs).trans hZA)
       have HS1 : Hid (ab w9 (· ≠ w8.heap.size) f.params (.slice A1 np d1)) := J (s1.more (fun k _ hk => by have hk' := Nat.le_trans (Nat.succ_le_of_lt hFs) hk; omega))
       have HS2 : Hid (ab w9 (· ≠ w8.heap.size) f.results (.slice A2 nr d2)) := J (s2.more (fun k _ hk => by have hk' := Nat.le_trans (Nat.succ_le_of_lt hFs) hk; omega))
       clear s1 s2 hFL
       go_wp2_with fail
       refine hK.out _ _ hH (fun hHeld2 => ?_)
       clear hK K hHeld
       have hHeld := hHeld2
       clear hHeld2
       refine dv 7 rfl ?_
       refine dv 8 rfl ?_
       refine dv 9 rfl ?_
       refine aa 11 rfl (by kernel_rfl) (fun K hK => ?_)
       try (rw [if_pos]; case hc => rfl)
       refine wp_store_row 51 (.tmp 9) (.tmp 71) rfl w8.heap.size #[.slice A1 np d1, .slice A2 nr d2] rfl rfl 51 #[.slice none 0 0, .slice none 0 0] HZF.out al rfl (by simp [Value.oneCell']) ?_
       refine hK.out _ _ (ac HBF.out HFL.out _) (fun hHeld2 => ?_)
       clear hK K hHeld
       have hHeld := hHeld2
       clear hHeld2
       refine dv 12 rfl ?_
       refine wpAnyH_done (by kernel_rfl) ?_ _
       have HBG := J (ac HBF.out HFL.out #[.slice A1 np d1, .slice A2 nr d2])
       have HZG := J (setRow_heap _ _ #[.slice none 0 0, .slice none 0 0] #[.slice A1 np d1, .slice A2 nr d2] _ _ HZF.out)
       have HV1 := J ((aF HS1.out #[.slice A1 np d1, .slice A2 nr d2] (fun k _ hs => hs)).more (S' := (· < (World.setRow w9 w8.heap.size #[.slice A1 np d1, .slice A2 nr d2]).heap.size)) (fun _ hk _ => hk))
       have HV2 := J ((aF HS2.out #[.slice A1 np d1, .slice A2 nr d2] (fun k _ hs => hs)).more (S' := (· < (World.setRow w9 w8.heap.size #[.slice A1 np d1, .slice A2 nr d2]).heap.size)) (fun _ hk _ => hk))
       go_wp2_with fail
       go_meet
       case rel => exact ⟨_, A1, d1, A2, d2, rfl, rfl, HBG, HZG, HV1, HV2⟩
     ·try (rw [if_pos]; case hc => rfl)
      go_simp
      have hA : Below w7.heap.size w7 (w7.drew.alloc (.cells #[.slice none 0 0, .slice none 0 0] 51)) := hHeld.alloc hHeld.size _
      have hZA := heap_alloc_new w7.drew (.cells #[.slice none 0 0, .slice none 0 0] 51)
      refine hK.out _ _ hA (fun hHeld2 => ?_)
      clear hK K hHeld
      have hHeld := hHeld2
      clear hHeld2
      have hFs0 : w7.heap.size < (w7.drew.alloc (.cells #[.slice none 0 0, .slice none 0 0] 51)).heap.size := by simp
      refine aa 2 rfl (by kernel_rfl) (fun K hK => ?_)
      try (rw [if_pos]; case hc => rfl)
      go_simp
      refine (HIM.out _ hHeld).mono ?_
      rintro e w8 ⟨rfl, hb⟩
      have hH : Below w7.heap.size w7 w8 := hHeld.trans (hb.mono hHeld.size)
      have hFs : w7.heap.size < w8.heap.size := Nat.lt_of_lt_of_le hFs0 hb.size
      replace hZA := (hb.block _ hFs0).trans hZA
      have hFL : w7.heap.size ≤ w7.heap.size := Nat.le_refl _
      go_wp2_with fail
      refine hK.out _ _ hH (fun hHeld2 => ?_)
      clear hK K hHeld
      have hHeld := hHeld2
      clear hHeld2
      refine dv 4 rfl ?_
      refine dv 5 rfl ?_
      refine aa 6 rfl (by kernel_rfl) (fun K hK => ?_)
      try (rw [if_pos]; case hc => rfl)
      go_simp
      refine (HFC.out _ hHeld).mono ?_
      rintro e w9 ⟨A1, d1, A2, d2, rfl, s1, s2, hb⟩
      have hH : Below w7.heap.size w7 w9 := hHeld.trans (hb.mono hHeld.size)
      have HFL : Hid (w7.heap.size ≤ w7.heap.size) := J hFL
      have HBF := J hH
      have HZF := J ((hb.block w7.heap.size hFs).trans hZA)
      have HS1 : Hid (ab w9 (· ≠ w7.heap.size) f.params (.slice A1 np d1)) := J (s1.more (fun k _ hk => by have hk' := Nat.le_trans (Nat.succ_le_of_lt hFs) hk; omega))
      have HS2 : Hid (ab w9 (· ≠ w7.heap.size) f.results (.slice A2 nr d2)) := J (s2.more (fun k _ hk => by have hk' := Nat.le_trans (Nat.succ_le_of_lt hFs) hk; omega))
      clear s1 s2 hFL
      go_wp2_with fail
      refine hK.out _ _ hH (fun hHeld2 => ?_)
      clear hK K hHeld
      have hHeld := hHeld2
      clear hHeld2
      refine dv 7 rfl ?_
      refine dv 8 rfl ?_
      refine dv 9 rfl ?_
      refine aa 11 rfl (by kernel_rfl) (fun K hK => ?_)
      try (rw [if_pos]; case hc => rfl)
      refine wp_store_row 51 (.tmp 9) (.tmp 71) rfl w7.heap.size #[.slice A1 np d1, .slice A2 nr d2] rfl rfl 51 #[.slice none 0 0, .slice none 0 0] HZF.out al rfl (by simp [Value.oneCell']) ?_
      refine hK.out _ _ (ac HBF.out HFL.out _) (fun hHeld2 => ?_)
      clear hK K hHeld
      have hHeld := hHeld2
      clear hHeld2
      refine dv 12 rfl ?_
      refine wpAnyH_done (by kernel_rfl) ?_ _
      have HBG := J (ac HBF.out HFL.out #[.slice A1 np d1, .slice A2 nr d2])
      have HZG := J (setRow_heap _ _ #[.slice none 0 0, .slice none 0 0] #[.slice A1 np d1, .slice A2 nr d2] _ _ HZF.out)
      have HV1 := J ((aF HS1.out #[.slice A1 np d1, .slice A2 nr d2] (fun k _ hs => hs)).more (S' := (· < (World.setRow w9 w7.heap.size #[.slice A1 np d1, .slice A2 nr d2]).heap.size)) (fun _ hk _ => hk))
      have HV2 := J ((aF HS2.out #[.slice A1 np d1, .slice A2 nr d2] (fun k _ hs => hs)).more (S' := (· < (World.setRow w9 w7.heap.size #[.slice A1 np d1, .slice A2 nr d2]).heap.size)) (fun _ hk _ => hk))
      go_wp2_with fail
      go_meet
      case rel => exact ⟨_, A1, d1, A2, d2, rfl, rfl, HBG, HZG, HV1, HV2⟩
   case rest =>
   obtain ⟨Fb, A1, d1, A2, d2, rfl, rfl, HB10, HF10, HP10, HR10⟩ := hcut
   clear HIM HFC hwr hwu
   obtain ⟨wf, rfl⟩ : ∃ q, q = wc := ⟨wc, rfl⟩
   have HBF := J (HB7.out.trans (HB10.out.mono HB7.out.size))
   have HCC : Hid (Calls Tryz.prog 13 #[.pointer (some ⟨P, 0, none⟩), .agg #[.slice A1 np d1, .slice A2 nr d2], .agg #[.slice Al nl cl, .slice Ab nb cb]] wf fun e w' => e = .returned (.tuple #[.int .i64 (n : Int), .int .i64 0]) ∧ Below wf.heap.size wf w') := J (by
    have hmem : f ∈ m.types := by
     have h := HFN.out
     unfold func at h
     rw [Option.bind_eq_some_iff] at h
     obtain ⟨k, _, hk⟩ := h
     exact List.mem_of_getElem? hk
    have hcm : cd ∈ m.codes := by rw [HCD.out]; exact List.mem_of_getElem? HCDI.out
    have hcf := HF.out.codes.2 cd hcm
    have hfe := HF.out.lots.each f hmem
    have h := dp m P f.params f.results cd.locals cd.body _ _ _ _ wf (HSP.out wf HBF.out) HF.out.lots HFT.out HP10.out HR10.out (HU.out wf HBF.out) (HVB.out wf HBF.out) hfe.1 hfe.2 hcf.1 2 (fun t ht => Nat.le_trans (HGD.out.types t ht) (by decide)) (Nat.le_trans (HGD.out.types f hmem) (by decide)) (by decide) (by decide) (by have := hcf.2.1; omega) hcf.2.1 hcf.2.2
    rw [HCHK.out] at h
    exact h)
   obtain ⟨y0, y1⟩ := HYC.out wf HB10.out
   obtain ⟨f0, f1⟩ := bK HF10.out
   have z0 := HZP.out wf HBF.out
   go_upto_region 15 with (go_at_call 13; refine HCC.out.mono ?_; rintro e w11 ⟨rfl, hb⟩; have HB11 := J (HB10.out.trans (hb.mono HB10.out.size)); clear hb)
   clear y0 y1 f0 f1 z0 HCC HP10 HR10 HF10 HU HVB HNP HNR hql hql0 HBF HB10
   have HB12 := J (HB7.out.trans (HB11.out.mono HB7.out.size))
   obtain ⟨Ah2, ch2, hce, _, _, _, hLh⟩ := HHZ.out
   injection hce with hce1 hce2 hce3
   obtain ⟨gh, oh, hAh, hgh, hkh⟩ := htV_at hLh (k := i) (x := ⟨n⟩) (by rw [HXH.out, List.getElem?_map, HHI.out]; rfl)
   obtain rfl : Ah = some ⟨gh, oh, none⟩ := hce1.trans hAh
   clear hce1 hce2 hce3 hAh hLh
   have kh := (HB12.out.cell (p := ⟨gh, oh + i, none⟩) hgh).trans hkh
   have hnn : ((n : Int) != (n : Int)) = false := by rw [bne_eq_false_iff_eq]
   clear hkh
   obtain ⟨y0, y1⟩ := HYC.out w11 HB11.out
   go_wp2_with fail
   clear y0 y1 kh hnn hgh
   go_loopw [97] (fun iv wr => ∃ j : Nat, j ≤ nb ∧ iv = .int .i64 (j : Int) ∧ Hid (Below wz.heap.size wz wr)) (fun iv _ => nb - (intOf iv).toNat)
   case atStart => exact ⟨0, by omega, rfl, HB12⟩
   case round =>
    obtain ⟨j, hj, rfl, HBj⟩ := hrel
    by_cases hjn : j < nb
    ·have hjni : (j : Int) < (nb : Int) := by omega
     obtain ⟨x, hx⟩ : ∃ x, cd.body[j]? = some x := ⟨_, List.getElem?_eq_getElem (by have := HNB.out; omega)⟩
     have HIT := J (Va.chk_there HCHK.out x (List.mem_of_getElem? hx))
     obtain ⟨gb, ob, Ax, cx, rfl, hgb, hwf, hcx⟩ := insV_at HLB.out hx
     obtain ⟨op, xa, xb, xc, xl⟩ := x
     have hwa : xa < 4294967296 := hwf.2.1
     have hwo : op < 256 := hwf.1
     have k0 := ((HOL.out _ HBj.out).cell (p := ⟨gb, ob + j * 5, none⟩) hgb).trans (hcx 0 _ rfl)
     have k1 := ((HOL.out _ HBj.out).cell (p := ⟨gb, ob + j * 5 + 1, none⟩) hgb).trans (hcx 1 _ rfl)
     have k2 := ((HOL.out _ HBj.out).cell (p := ⟨gb, ob + j * 5 + 2, none⟩) hgb).trans (hcx 2 _ rfl)
     have k3 := ((HOL.out _ HBj.out).cell (p := ⟨gb, ob + j * 5 + 3, none⟩) hgb).trans (hcx 3 _ rfl)
     have k4 := ((HOL.out _ HBj.out).cell (p := ⟨gb, ob + j * 5 + 4, none⟩) hgb).trans (hcx 4 _ rfl)
     clear hx hcx hwf hgb
     go_upto_region 20 with fail
     clear k0 k1 k2 k3 k4
     have HI0 := J (heap_alloc_new wr (.cells #[.int .u8 (op : Int), .int .u32 (xa : Int), .int .u32 (xb : Int), .int .i64 xc, .slice Ax xl.length cx] 57))
     have HI12 : Hid (Below wz.heap.size wz (wr.alloc (.cells #[.int .u8 (op : Int), .int .u32 (xa : Int), .int .u32 (xb : Int), .int .i64 xc, .slice Ax xl.length cx] 57))) := J (HBj.out.alloc HBj.out.size _)
     generalize wr.alloc (.cells #[.int .u8 (op : Int), .int .u32 (xa : Int), .int .u32 (xb : Int), .int .i64 xc, .slice Ax xl.length cx] 57) = w12 at HI0 HI12 ⊢
     obtain ⟨Q, hQ⟩ : ∃ Q, wr.heap.size = Q := ⟨_, rfl⟩
     rw [hQ] at HI0
     simp only [hQ]
     clear hQ
     obtain ⟨i0, i1, i2, i3, i4⟩ := cells5 HI0.out
     by_cases h16 : op = 16
     ·subst h16
      have hit := HIT.out.1 rfl
      clear HIT
      go_wp2_with (go_at_call 9; refine (HT0.out _ xa HI12.out hwa hit).mono ?_; rintro e w13 ⟨rfl, hb⟩; have Hw13 := J (HI12.out.trans (hb.mono HI12.out.size)); clear hb)
      go_roundw
      case rel => exact ⟨j + 1, by omega, by go_num, Hw13⟩
      case measure => simp [intOf]; omega
     by_cases h17 : op = 17
     ·subst h17
      have hit := HIT.out.2.1 rfl
      obtain ⟨t, ht⟩ := Option.isSome_iff_exists.1 hit.1
      have HTY : Hid (∀ W, Below wz.heap.size wz W → Calls Tryz.prog 14 #[.pointer (some ⟨P, 0, none⟩), .int .u32 (xa : Int)] W fun e w' => ∃ A3 d3 A4 d4, e = .returned (.tuple #[.agg #[.slice A3 t.params.length d3, .slice A4 t.results.length d4], .bool true]) ∧ Below W.heap.size W w') := J (fun W hW => by
       have h := cZ (some ⟨P, 0, none⟩) m xa W (HRV.out W hW) (Lots.some HF.out.lots) hwa
       rw [ht] at h
       refine h.mono ?_
       intro e w' he
       obtain ⟨A3, d3, A4, d4, h1, _, _, h4⟩ := aR.yes he
       exact ⟨A3, d3, A4, d4, h1, h4⟩)
      have HTL := J hit.2
      generalize t.params.length = tp at HTY
      generalize t.results.length = tr at HTY
      have z0 := HZP.out _ HI12.out
      clear HIT hit ht
      go_upto_region 26 with (go_at_call 14; refine (HTY.out _ HI12.out).mono ?_; rintro e w13 ⟨A3, d3, A4, d4, rfl, hb⟩; have Hw13 := J (HI12.out.trans (hb.mono HI12.out.size)); have z1 := HZP.out _ Hw13.out; clear hb)
      clear z0 z1
      have HB14 := J (Hw13.out.alloc Hw13.out.size (.cells #[.slice A3 tp d3, .slice A4 tr d4] 51))
      generalize w13.alloc (.cells #[.slice A3 tp d3, .slice A4 tr d4] 51) = w14 at HB14 ⊢
      go_wp2_with (go_at_call 9; refine (HT1z.out _ HB14.out HTL.out).mono ?_; rintro e w15 ⟨rfl, hb⟩; have Hw15 := J (HB14.out.trans (hb.mono HB14.out.size)); clear hb)
      go_roundw
      case rel => exact ⟨j + 1, by omega, by go_num, Hw15⟩
      case measure => simp [intOf]; omega
     by_cases h35 : op = 35
     ·subst h35
      have hit := HIT.out.2.2.1 (by first | exact .inl rfl | exact .inr rfl)
      clear HIT
      go_wp2_with (go_at_call 9; refine (HT3.out _ xa HI12.out hwa hit).mono ?_; rintro e w13 ⟨rfl, hb⟩; have Hw13 := J (HI12.out.trans (hb.mono HI12.out.size)); clear hb)
      go_roundw
      case rel => exact ⟨j + 1, by omega, by go_num, Hw13⟩
      case measure => simp [intOf]; omega
     by_cases h36 : op = 36
     ·subst h36
      have hit := HIT.out.2.2.1 (by first | exact .inl rfl | exact .inr rfl)
      clear HIT
      go_wp2_with (go_at_call 9; refine (HT3.out _ xa HI12.out hwa hit).mono ?_; rintro e w13 ⟨rfl, hb⟩; have Hw13 := J (HI12.out.trans (hb.mono HI12.out.size)); clear hb)
      go_roundw
      case rel => exact ⟨j + 1, by omega, by go_num, Hw13⟩
      case measure => simp [intOf]; omega
     by_cases h64 : op = 64
     ·subst h64
      have hit := HIT.out.2.2.2 (by first | exact .inl rfl | exact .inr rfl)
      clear HIT
      go_wp2_with (go_at_call 9; refine (HT2z.out _ HI12.out hit).mono ?_; rintro e w13 ⟨rfl, hb⟩; have Hw13 := J (HI12.out.trans (hb.mono HI12.out.size)); clear hb)
      go_roundw
      case rel => exact ⟨j + 1, by omega, by go_num, Hw13⟩
      case measure => simp [intOf]; omega
     by_cases h63 : op = 63
     ·subst h63
      have hit := HIT.out.2.2.2 (by first | exact .inl rfl | exact .inr rfl)
      clear HIT
      go_wp2_with (go_at_call 9; refine (HT2z.out _ HI12.out hit).mono ?_; rintro e w13 ⟨rfl, hb⟩; have Hw13 := J (HI12.out.trans (hb.mono HI12.out.size)); clear hb)
      go_roundw
      case rel => exact ⟨j + 1, by omega, by go_num, Hw13⟩
      case measure => simp [intOf]; omega
     have e16 : ((op : Int) == 16) = false := by rw [beq_eq_false_iff_ne]; omega
     have e17 : ((op : Int) == 17) = false := by rw [beq_eq_false_iff_ne]; omega
     have e35 : ((op : Int) == 35) = false := by rw [beq_eq_false_iff_ne]; omega
     have e36 : ((op : Int) == 36) = false := by rw [beq_eq_false_iff_ne]; omega
     have e64 : ((op : Int) == 64) = false := by rw [beq_eq_false_iff_ne]; omega
     have e63 : ((op : Int) == 63) = false := by rw [beq_eq_false_iff_ne]; omega
     clear h16 h17 h35 h36 h63 h64 HIT
     go_wp2_with fail
     go_roundw
     case rel => exact ⟨j + 1, by omega, by go_num, HI12⟩
     case measure => simp [intOf]; omega
    ·obtain rfl : j = nb := by omega
     go_wp2_with fail
     go_roundw
     case rel => exact ⟨i + 1, by omega, by go_num, HBj⟩
     case measure => simp [intOf]; omega
  ·obtain rfl : i = nh := by omega
   obtain ⟨a0, a1, a2, a3, a4, a5, a6, a7, a8, a9, a10, a11⟩ := HAL.out _ HB.out
   go_wp2_with fail
   clear a0 a1 a2 a3 a4 a5 a6 a7 a8 a9 a10 a11
   go_loopw [145] (fun iv wr => ∃ i : Nat, i ≤ n8 ∧ iv = .int .i64 (i : Int) ∧ Hid (Below wz.heap.size wz wr)) (fun iv _ => n8 - (intOf iv).toNat)
   case atStart => exact ⟨0, by omega, rfl, HB⟩
   case round =>
    obtain ⟨i8, hi8, rfl, HBe⟩ := hrel
    by_cases hin8 : i8 < n8
    ·have hini8 : (i8 : Int) < (n8 : Int) := by omega
     obtain ⟨x, hx⟩ : ∃ x, els[i8]? = some x := ⟨_, List.getElem?_eq_getElem (by have := HN8.out; omega)⟩
     have HXE := J (HGD.out.elems x (by rw [HEL.out]; exact List.mem_of_getElem? hx))
     obtain ⟨g8, o8, u, v, rfl, hg8, hxt, k0, k1, k2, hu, hvf⟩ := elV_at HL8.out hx
     have hfl := (HF.out.elems.2 x (by rw [HEL.out]; exact List.mem_of_getElem? hx)).2
     obtain ⟨Ao, co, rfl, _⟩ := hu
     obtain ⟨Af, cf, rfl, hcapf, _, _, hLf⟩ := hvf
     have HLFN := J hLf
     generalize x.off.length = no at k1
     obtain ⟨nf, hnf⟩ : ∃ n, x.funcs.length = n := ⟨_, rfl⟩
     rw [hnf] at k2 hcapf hfl
     have HNF := J hnf
     have k0 := ((HOL.out _ HBe.out).cell (p := ⟨g8, o8 + i8 * 3, none⟩) hg8).trans k0
     have k1 := ((HOL.out _ HBe.out).cell (p := ⟨g8, o8 + i8 * 3 + 1, none⟩) hg8).trans k1
     have k2 := ((HOL.out _ HBe.out).cell (p := ⟨g8, o8 + i8 * 3 + 2, none⟩) hg8).trans k2
     obtain ⟨xt, hxt0⟩ : ∃ t, x.table = t := ⟨_, rfl⟩
     rw [hxt0] at k0 hxt
     have HXT := J hxt0
     clear hx hLf hnf hxt0 hg8
     go_upto_region 41 with fail
     clear k0 k1 k2
     have HI0 := J (heap_alloc_new wr (.cells #[.int .u32 (xt : Int), .slice Ao no co, .slice Af nf cf] 59))
     have HI12 : Hid (Below wz.heap.size wz (wr.alloc (.cells #[.int .u32 (xt : Int), .slice Ao no co, .slice Af nf cf] 59))) := J (HBe.out.alloc HBe.out.size _)
     generalize wr.alloc (.cells #[.int .u32 (xt : Int), .slice Ao no co, .slice Af nf cf] 59) = w12 at HI0 HI12 ⊢
     obtain ⟨Q, hQ⟩ : ∃ Q, wr.heap.size = Q := ⟨_, rfl⟩
     rw [hQ] at HI0
     simp only [hQ]
     clear hQ
     have HQC := J (fun W (hW : Below w12.heap.size w12 W) => cN ((hW.block Q (Array.getElem?_eq_some_iff.1 HI0.out).1).trans HI0.out))
     obtain ⟨i0, i1, i2⟩ := HQC.out _ (Below.refl _ _)
     go_wp2_with fail
     clear i0 i1 i2
     go_loopw [152] (fun iv wr => ∃ j : Nat, j ≤ nf ∧ iv = .int .i64 (j : Int) ∧ Hid (Below w12.heap.size w12 wr)) (fun iv _ => nf - (intOf iv).toNat)
     case atStart => exact ⟨0, by omega, rfl, J (Below.refl _ _)⟩
     case round =>
      obtain ⟨j, hj, rfl, HBj⟩ := hrel
      by_cases hjn : j < nf
      ·have hjni : (j : Int) < (nf : Int) := by omega
       obtain ⟨f, hf⟩ : ∃ x', x.funcs[j]? = some x' := ⟨_, List.getElem?_eq_getElem (by have := HNF.out; omega)⟩
       have hfc := HXE.out.2 f (List.mem_of_getElem? hf)
       have htc := HXE.out.1
       rw [HXT.out] at htc
       obtain ⟨gf, of, rfl, hgf, hfb, kf⟩ := natV_at HLFN.out hf
       have HBz := J (HI12.out.trans (HBj.out.mono HI12.out.size))
       have kf := ((HOL.out _ HBz.out).cell (p := ⟨gf, of + j, none⟩) hgf).trans kf
       have HFC := J (HT0.out _ f HBz.out hfb hfc)
       have HTC := J (fun W hW => HT1.out W xt hW hxt htc)
       have tok1 : True := trivial
       have tok2 : True := trivial
       clear hf hfc htc hgf
       go_wp2_with (first | (clear tok1; go_at_call 9; refine HFC.out.mono ?_; rintro e w13 ⟨rfl, hb⟩; have Hw13 := J (HBz.out.trans (hb.mono HBz.out.size)); have Hj13 := J (HBj.out.trans (hb.mono HBj.out.size)); obtain ⟨i0, i1, i2⟩ := HQC.out _ Hj13.out; clear hb) | (clear tok2; go_at_call 9; refine (HTC.out w13 Hw13.out).mono ?_; rintro e w14 ⟨rfl, hb⟩; have Hj14 := J (Hj13.out.trans (hb.mono Hj13.out.size)); clear hb))
       go_roundw
       case rel => exact ⟨j + 1, by omega, by go_num, Hj14⟩
       case measure => simp [intOf]; omega
      ·obtain rfl : j = nf := by omega
       go_wp2_with fail
       go_roundw
       case rel => exact ⟨i8 + 1, by omega, by go_num, J (HI12.out.trans (HBj.out.mono HI12.out.size))⟩
       case measure => simp [intOf]; omega
    ·obtain rfl : i8 = n8 := by omega
     obtain ⟨a0, a1, a2, a3, a4, a5, a6, a7, a8, a9, a10, a11⟩ := HAL.out _ HBe.out
     go_wp2_with fail
     clear a0 a1 a2 a3 a4 a5 a6 a7 a8 a9 a10 a11
     go_loopw [172] (fun iv wr => ∃ i : Nat, i ≤ n7 ∧ iv = .int .i64 (i : Int) ∧ Hid (Below wz.heap.size wz wr)) (fun iv _ => n7 - (intOf iv).toNat)
     case atStart => exact ⟨0, by omega, rfl, HBe⟩
     case round =>
      obtain ⟨i7, hi7, rfl, HBx⟩ := hrel
      by_cases hin7 : i7 < n7
      ·have hini7 : (i7 : Int) < (n7 : Int) := by omega
       obtain ⟨x, hx⟩ : ∃ x, es[i7]? = some x := ⟨_, List.getElem?_eq_getElem (by have := HN7.out; omega)⟩
       have hxc := HGD.out.exports x (by rw [HES.out]; exact List.mem_of_getElem? hx)
       obtain ⟨g7, o7, rfl, hg7, hxi, k0, k1, k2⟩ := expW_at HL7.out hx
       have k0 := ((HOL.out _ HBx.out).cell (p := ⟨g7, o7 + i7 * 3, none⟩) hg7).trans k0
       have k1 := ((HOL.out _ HBx.out).cell (p := ⟨g7, o7 + i7 * 3 + 1, none⟩) hg7).trans k1
       have k2 := ((HOL.out _ HBx.out).cell (p := ⟨g7, o7 + i7 * 3 + 2, none⟩) hg7).trans k2
       have hkl := x.kind.toNat_lt
       obtain ⟨kd, hkd⟩ : ∃ k, x.kind.toNat = k := ⟨_, rfl⟩
       obtain ⟨xi, hxi0⟩ : ∃ k, x.index = k := ⟨_, rfl⟩
       rw [hkd] at hkl hxc k1
       rw [hxi0] at hxc hxi k2
       have HXC : Hid (∀ W, Below wz.heap.size wz W → Calls Tryz.prog 9 #[.int .u8 (kd : Int), .int .u32 (xi : Int), .pointer (some ⟨Z, 0, none⟩)] W fun e w' => e = .returned (.bool true) ∧ Below W.heap.size W w') := J (fun W hW => by
        have h := HTH.out W kd xi hW hkl hxi
        rw [decide_eq_true hxc] at h
        exact h)
       unfold strV at k0
       generalize (⟨x.name.toArray⟩ : ByteArray) = nm at k0
       clear hx hkd hxi0 hxc hg7 hxi hkl
       go_upto_region 51 with fail
       clear k0 k1 k2
       have HI0 := J (heap_alloc_new wr (.cells #[.string nm, .int .u8 (kd : Int), .int .u32 (xi : Int)] 61))
       have HI12 : Hid (Below wz.heap.size wz (wr.alloc (.cells #[.string nm, .int .u8 (kd : Int), .int .u32 (xi : Int)] 61))) := J (HBx.out.alloc HBx.out.size _)
       generalize wr.alloc (.cells #[.string nm, .int .u8 (kd : Int), .int .u32 (xi : Int)] 61) = w12 at HI0 HI12 ⊢
       obtain ⟨Q, hQ⟩ : ∃ Q, wr.heap.size = Q := ⟨_, rfl⟩
       rw [hQ] at HI0
       simp only [hQ]
       clear hQ
       obtain ⟨i0, i1, i2⟩ := cN HI0.out
       go_wp2_with (go_at_call 9; refine (HXC.out _ HI12.out).mono ?_; rintro e w13 ⟨rfl, hb⟩; have Hw13 := J (HI12.out.trans (hb.mono HI12.out.size)); clear hb)
       go_roundw
       case rel => exact ⟨i7 + 1, by omega, by go_num, Hw13⟩
       case measure => simp [intOf]; omega
      ·obtain rfl : i7 = n7 := by omega
       obtain ⟨a0, a1, a2, a3, a4, a5, a6, a7, a8, a9, a10, a11⟩ := HAL.out _ HBx.out
       cases hs with
       | false =>
        go_wp2_with fail
        go_ret
        exact ⟨rfl, HOL.out _ HBx.out⟩
       | true =>
        have hsc := HGD.out.start HHS.out
        rw [HST.out] at hsc
        have HSC := J (HT0.out _ st HBx.out hstl hsc)
        clear hsc
        go_wp2_with (go_at_call 9; refine HSC.out.mono ?_; rintro e w13 ⟨rfl, hb⟩; have Hw13 := J (HBx.out.trans (hb.mono HBx.out.size)); clear hb)
        go_ret
        exact ⟨rfl, HOL.out _ Hw13.out⟩
end Go.Proofs.YtelcdmkbaegjoaaGreat
