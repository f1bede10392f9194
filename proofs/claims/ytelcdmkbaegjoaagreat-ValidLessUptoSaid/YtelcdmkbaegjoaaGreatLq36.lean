/-
  The walk over ValidLess, given what Check does. (gen/valid/less.py)
-/
import Derived.Test.YtelcdmkbaegjoaaGreatLq01
import Derived.Test.YtelcdmkbaegjoaaGreatLq27
import Derived.Test.YtelcdmkbaegjoaaGreatLq19
import Derived.Test.YtelcdmkbaegjoaaGreatLq35
import Derived.Test.YtelcdmkbaegjoaaGreatLq06
import Derived.Deep.Cut
import Derived.Deep.CutRange
set_option maxRecDepth 100000
set_option maxHeartbeats 4000000
namespace Go.Proofs.YtelcdmkbaegjoaaGreat
open Go.RowKit Ins Bin Sp
theorem modV_one {w : World} {S : Nat → Prop} {m : M} {v1 v2 v3 v4 v5 v6 v7 v8 v9 v10 : Value} (h : RepM w S m v1 v2 v3 v4 v5 v6 v7 v8 v9 v10) : (modCells m v1 v2 v3 v4 v5 v6 v7 v8 v9 v10).all (·.oneCell') = true := by
 obtain ⟨_, _, rfl, _⟩ := h.types
 obtain ⟨_, _, rfl, _⟩ := h.imports
 obtain ⟨_, _, rfl, _⟩ := h.funcs
 obtain ⟨_, _, rfl, _⟩ := h.tables
 obtain ⟨_, _, rfl, _⟩ := h.mems
 obtain ⟨_, _, rfl, _⟩ := h.globals
 obtain ⟨_, _, rfl, _⟩ := h.exports
 obtain ⟨_, _, rfl, _⟩ := h.elems
 obtain ⟨_, _, rfl, _⟩ := h.codes
 obtain ⟨_, _, rfl, _⟩ := h.datas
 unfold modCells
 exact all_oneCell_toArray (by simp [Value.oneCell'])
theorem fitV_more {m : M} (hF : FitV m) (hl : m.exports.length ≤ 1048576) {x : Exp} (hx : x ∈ m.exports) : FitV { m with exports := m.exports ++ [x] } :=
 ⟨⟨hF.lots.imports, hF.lots.funcs, hF.lots.tables, hF.lots.mems, hF.lots.globals, by show (m.exports ++ [x]).length ≤ 1050000; simp; omega, hF.lots.types, hF.lots.each⟩, fun y hy => hF.names y (by
  rcases List.mem_append.1 hy with h | h
  ·exact h
  ·simp at h; subst h; exact hx), hF.globals, hF.elems, hF.codes, hF.datas⟩
theorem fitV_less {m : M} (hF : FitV m) {es : List Exp} {els : List El} (he : es.Sublist m.exports) (hl : els.Sublist m.elems) : FitV { m with exports := es, elems := els, datas := [], hasStart := false, start := 0 } :=
 ⟨⟨hF.lots.imports, hF.lots.funcs, hF.lots.tables, hF.lots.mems, hF.lots.globals, Nat.le_trans he.length_le hF.lots.exports, hF.lots.types, hF.lots.each⟩, fun y hy => hF.names y (he.subset hy), hF.globals, ⟨Nat.le_trans hl.length_le hF.elems.1, fun y hy => hF.elems.2 y (hl.subset hy)⟩, hF.codes, ⟨by simp, nofun⟩⟩
theorem apartV {α : Type} [Lay α] {w w' : World} {Z : Nat} {xs : List α} {v : Value} (h : ab w (· < w.heap.size) xs v) (hb : Below w.heap.size w w') (hz : w.heap.size ≤ Z) : ab w' (fun k => k < w'.heap.size ∧ k ≠ Z) xs v :=
 (h.mod (T := fun _ => False) (Mod.of_below hb) (fun _ _ _ h => h)).more (fun _ hk (hk2 : _ < w.heap.size) => ⟨hk, by omega⟩)
theorem cU {α : Type} [Lay α] {w w' : World} {Z : Nat} {xs : List α} {v : Value} (h : ab w (fun k => k < w.heap.size ∧ k ≠ Z) xs v) (hb : Below w.heap.size w w') : ab w' (fun k => k < w'.heap.size ∧ k ≠ Z) xs v :=
 (h.mod (T := fun _ => False) (Mod.of_below hb) (fun _ _ _ h => h)).more (fun _ hk hk2 => ⟨hk, hk2.2⟩)
theorem aL {α : Type} [Lay α] {w w' : World} {Z : Nat} {xs : List α} {v : Value} (h : ab w (fun k => k < w.heap.size ∧ k ≠ Z) xs v) (hm : Mod (· = Z) w w') : ab w' (fun k => k < w'.heap.size ∧ k ≠ Z) xs v :=
 (h.mod hm (fun _ _ hk e => hk.2 e)).more (fun _ hk hk2 => ⟨hk, hk2.2⟩)
theorem cr {α : Type} [Lay α] {w w1 w2 : World} {Y Z : Nat} {xs : List α} {v : Value} (h : ab w (fun k => k < Y ∧ k ≠ Z) xs v) (hb : Below w.heap.size w w1) (hm : Mod (· = Y) w1 w2) : ab w2 (fun k => k < w2.heap.size ∧ k ≠ Z) xs v :=
 (((h.mod (T := fun _ => False) (Mod.of_below hb) (fun _ _ _ h => h)).mod hm (fun k _ hk e => by have e' : k = Y := e; have := hk.1; omega))).more (fun _ hk hk2 => ⟨hk, hk2.2⟩)
theorem expV_at {w : World} {S : Nat → Prop} {A : Option Addr} {xs : List Exp} {k : Nat} {x : Exp} (h : HasL w S A xs) (hx : xs[k]? = some x) : ∃ g o, A = some ⟨g, o, none⟩ ∧ x.index < 4294967296 ∧ w.cell? ⟨g, o + k * 3, none⟩ = some (strV x.name) ∧ w.cell? ⟨g, o + k * 3 + 1, none⟩ = some (.int .u8 (x.kind.toNat : Int)) ∧ w.cell? ⟨g, o + k * 3 + 2, none⟩ = some (.int .u32 (x.index : Int)) := by
 obtain ⟨g, o, cs, rfl, _, _, ⟨rfl, hi⟩, hc⟩ := h k x hx
 exact ⟨g, o, rfl, hi, hc 0 _ rfl, hc 1 _ rfl, hc 2 _ rfl⟩
theorem sub_cut {α : Type} (l : List α) (k : Nat) : (l.take k ++ l.drop (k + 1)).Sublist l := by
 have h : l = l.take k ++ l.drop k := (List.take_append_drop k l).symm
 conv => rhs; rw [h]
 exact List.Sublist.append (List.Sublist.refl _) (by rw [← List.drop_drop]; exact List.drop_sublist 1 _)
theorem vless_any (hv : bj) (m : M) (v1 v2 v3 v4 v5 v6 v7 v8 v9 v10 : Value) (at_ : Int) (w : World) (hM : RepM w (· < w.heap.size) m v1 v2 v3 v4 v5 v6 v7 v8 v9 v10) (hB : BigM m) (hF : wtM m ≤ 1048576) (p1 : -9223372036854775808 ≤ at_) (p2 : at_ ≤ 9223372036854775807) :
  Calls Tryz.prog 4 #[.agg (modCells m v1 v2 v3 v4 v5 v6 v7 v8 v9 v10), .int .i64 at_] w fun e w' => e = .returned (.bool true) ∧ Below w.heap.size w w' := by
 have hfit := fitV_of hF
 generalize hcs : modCells m v1 v2 v3 v4 v5 v6 v7 v8 v9 v10 = cs
 have HV : Hid (∀ W, Below w.heap.size w W → Calls Tryz.prog 6 #[.agg cs] W fun e w' => ∃ A c, e = .returned (.tuple #[.slice A (Va.hts (Va.check m)).length c, .int .i64 (Va.num (Va.check m) : Int)]) ∧ Below W.heap.size W w') := J (fun W hb => by
  subst hcs
  refine (hv m v1 v2 v3 v4 v5 v6 v7 v8 v9 v10 W (hM.grow hb) hfit).mono ?_
  intro e w' h
  obtain ⟨A, k, c, h1, h2, _, h4⟩ := cG h
  subst h2
  exact ⟨A, c, h1, h4⟩)
 have HG : Hid (∀ W, Below w.heap.size w W → Calls Tryz.prog 7 #[.agg cs] W fun e w' => ∃ g : Bool, e = .returned (.bool g) ∧ Below W.heap.size W w') := J (fun W hb => by
  subst hcs
  refine (bgreat_any m v1 v2 v3 v4 v5 v6 v7 v8 v9 v10 W (hM.grow hb) hB).mono ?_
  rintro e w' ⟨g, h1, h2, _⟩
  exact ⟨g, h1, h2⟩)
 have HKN : Hid (∀ W, Calls Tryz.prog 5 #[] W fun e w' => e = .returned (.bool true) ∧ Below W.heap.size W w') := J (fun W => known11 hv W)
 have HVO := J hv
 have HM := J hM
 have HF := J hfit
 have HE7 := J hM.exports
 have HE8 := J hM.elems
 have hone := modV_one hM
 rw [hcs] at hone
 have HNL : Hid (m.exports.length ≤ 1048576 ∧ m.elems.length ≤ 1048576) := J ⟨by have h := aU m.exports (fun x => by show 1 ≤ x.name.length + 1; omega); unfold wtM at hF; omega, by have h := aU m.elems (fun x => by show 1 ≤ tot x.off + x.funcs.length + 1; omega); unfold wtM at hF; omega⟩
 unfold modCells at hcs
 obtain ⟨hs, hhs⟩ : ∃ b, m.hasStart = b := ⟨_, rfl⟩
 obtain ⟨st, hst⟩ : ∃ b, m.start = b := ⟨_, rfl⟩
 have HHS := J hhs
 have HST := J hst
 obtain ⟨sti, hsti⟩ : ∃ s, (st : Int) = s := ⟨_, rfl⟩
 have HSTI := J hsti
 rw [hhs, hst, hsti] at hcs
 subst hcs
 clear hv hM hB hF hfit hhs hst hsti
 obtain ⟨q, hq⟩ : ∃ q, Va.num (Va.check m) = q := ⟨_, rfl⟩
 obtain ⟨nh, hnh⟩ : ∃ q, (Va.hts (Va.check m)).length = q := ⟨_, rfl⟩
 rw [hq, hnh] at HV
 have HQ := J hq
 have HNH := J hnh
 clear hq hnh
 obtain ⟨A7, c7, rfl, hcap7, hcm7, hnil7, hL7⟩ := HE7.out
 obtain ⟨A8, c8, rfl, hcap8, hcm8, hnil8, hL8⟩ := HE8.out
 have HL7 := J hL7
 have HS7 : Hid (ab w (· < w.heap.size) m.exports (.slice A7 m.exports.length c7)) := J ⟨A7, c7, rfl, hcap7, hcm7, hnil7, hL7⟩
 have HS8 : Hid (ab w (· < w.heap.size) m.elems (.slice A8 m.elems.length c8)) := J ⟨A8, c8, rfl, hcap8, hcm8, hnil8, hL8⟩
 have HL8 := J hL8
 obtain ⟨es, hes⟩ : ∃ es, m.exports = es := ⟨_, rfl⟩
 obtain ⟨els, hels⟩ : ∃ es, m.elems = es := ⟨_, rfl⟩
 rw [hes] at HL7 HS7 HNL hcap7 HV HG hone ⊢
 rw [hels] at HL8 HS8 HNL hcap8 HV HG hone ⊢
 obtain ⟨n7, hn7⟩ : ∃ n, es.length = n := ⟨_, rfl⟩
 obtain ⟨n8, hn8⟩ : ∃ n, els.length = n := ⟨_, rfl⟩
 rw [hn7] at HS7 HNL hcap7 HV HG hone ⊢
 rw [hn8] at HS8 HNL hcap8 HV HG hone ⊢
 have HN7 := J hn7
 have HN8 := J hn8
 have HES := J hes
 have HEL := J hels
 have hb7 := HNL.out.1
 have hb8 := HNL.out.2
 unfold maxLen at hcm7 hcm8
 clear hL7 hL8 hnil7 hnil8 HE7 HE8 HNL hes hels hn7 hn8
 have HONE := J hone
 clear hone
 have HX0 := J (heap_alloc_new w (.cells #[v1, v2, v3, v4, v5, v6, .slice A7 n7 c7, .bool hs, .int .u32 sti, .slice A8 n8 c8, v9, v10] 33))
 have HB0 : Hid (Below w.heap.size w (w.alloc (.cells #[v1, v2, v3, v4, v5, v6, .slice A7 n7 c7, .bool hs, .int .u32 sti, .slice A8 n8 c8, v9, v10] 33))) := J ((Below.refl _ _).alloc (Nat.le_refl _) _)
 go_enter Tryz.func4, Tryz.ntmps4
 go_upto_region 1 with fail
 generalize w.alloc (.cells #[v1, v2, v3, v4, v5, v6, .slice A7 n7 c7, .bool hs, .int .u32 sti, .slice A8 n8 c8, v9, v10] 33) = w0 at HX0 HB0 ⊢
 obtain ⟨X, hX⟩ : ∃ X, w.heap.size = X := ⟨_, rfl⟩
 rw [hX] at HX0
 have HXW : Hid (w.heap.size ≤ X) := J (by omega)
 simp only [hX]
 clear hX
 have HAL := J (fun W (hW : Below w0.heap.size w0 W) => cells12 HX0.out hW)
 go_upto_region 3 with (go_at_call 5; refine (HKN.out _).mono ?_; rintro e w1 ⟨rfl, hb⟩; have HW1 := J hb; clear hb)
 have HB1 := J (HB0.out.trans (HW1.out.mono HB0.out.size))
 obtain ⟨a0, a1, a2, a3, a4, a5, a6, a7, a8, a9, a10, a11⟩ := HAL.out _ HW1.out
 go_upto_region 4 with (go_at_call 6; refine (HV.out _ HB1.out).mono ?_; rintro e w2 ⟨Ah, ch, rfl, hb⟩; have HW2 := J (HW1.out.trans (hb.mono HW1.out.size)); have HB2 := J (HB1.out.trans (hb.mono HB1.out.size)); clear hb)
 clear a0 a1 a2 a3 a4 a5 a6 a7 a8 a9 a10 a11
 obtain ⟨a0, a1, a2, a3, a4, a5, a6, a7, a8, a9, a10, a11⟩ := HAL.out _ HW2.out
 go_cut [28] from 19 to 28 (fun t wx => ∃ b : Bool, t = .bool b ∧ Hid (Below w0.heap.size w0 wx) ∧ Hid (b = false → q = 0 ∧ 0 ≤ at_))
 case first =>
  as_aux_lemma =>
   by_cases hq0 : q = 0
   ·by_cases ha0 : at_ < 0
    ·have e1 : ((q : Int) != 0) = false := by rw [bne_eq_false_iff_eq]; omega
     have e2 : decide (at_ < 0) = true := decide_eq_true ha0
     clear hq0
     go_wp2_with (go_at_call 7; refine (HG.out _ HB2.out).mono ?_; rintro e w3 ⟨g, rfl, hb⟩; have HW3 := J (HW2.out.trans (hb.mono HW2.out.size)); clear hb a0 a1 a2 a3 a4 a5 a6 a7 a8 a9 a10 a11)
     all_goals (go_meet; case rel => exact ⟨true, rfl, HW3, J (fun h => by cases h)⟩)
    ·have e1 : ((q : Int) != 0) = false := by rw [bne_eq_false_iff_eq]; omega
     have e2 : decide (at_ < 0) = false := decide_eq_false ha0
     have HQA : Hid (q = 0 ∧ 0 ≤ at_) := J ⟨hq0, by omega⟩
     clear hq0
     go_wp2_with (go_at_call 7; refine (HG.out _ HB2.out).mono ?_; rintro e w3 ⟨g, rfl, hb⟩; have HW3 := J (HW2.out.trans (hb.mono HW2.out.size)); clear hb a0 a1 a2 a3 a4 a5 a6 a7 a8 a9 a10 a11)
     all_goals (go_meet; case rel => first | exact ⟨true, rfl, HW3, J (fun h => by cases h)⟩ | exact ⟨false, rfl, HW3, J (fun _ => HQA.out)⟩)
   ·have e1 : ((q : Int) != 0) = true := by rw [bne_iff_ne]; omega
    go_wp2_with (go_at_call 7; refine (HG.out _ HB2.out).mono ?_; rintro e w3 ⟨g, rfl, hb⟩; have HW3 := J (HW2.out.trans (hb.mono HW2.out.size)); clear hb a0 a1 a2 a3 a4 a5 a6 a7 a8 a9 a10 a11)
    all_goals (go_meet; case rel => exact ⟨true, rfl, HW3, J (fun h => by cases h)⟩)
 case rest =>
 obtain ⟨b, rfl, HW3, HQA⟩ := hcut
 clear a0 a1 a2 a3 a4 a5 a6 a7 a8 a9 a10 a11 HV HG HKN
 have HB3 := J (HB0.out.trans (HW3.out.mono HB0.out.size))
 cases b with
 | true =>
  go_wp2_with fail
  go_ret
  exact ⟨rfl, HB3.out⟩
 | false =>
 obtain ⟨k0, rfl⟩ := Int.eq_ofNat_of_zero_le (HQA.out rfl).2
 obtain ⟨hh, hgood⟩ := Va.num_zero.1 (HQ.out.trans (HQA.out rfl).1)
 have HGD := J hgood
 have hq0 := (HQA.out rfl).1
 rw [show (q : Int) = 0 by omega]
 clear hq0
 clear hgood HQA HQ HW1 HW2 HB1 HB2
 obtain ⟨a0, a1, a2, a3, a4, a5, a6, a7, a8, a9, a10, a11⟩ := HAL.out _ HW3.out
 have hbz : Below wc.heap.size wc (wc.alloc (.cells #[.slice none 0 0, .slice none 0 0, .slice none 0 0, .slice none 0 0, .slice none 0 0, .slice none 0 0, .slice none 0 0, .bool false, .int .u32 0, .slice none 0 0, .slice none 0 0, .slice none 0 0] 33)) := (Below.refl _ _).alloc (Nat.le_refl _) _
 have HZA := J (heap_alloc_new wc (.cells #[.slice none 0 0, .slice none 0 0, .slice none 0 0, .slice none 0 0, .slice none 0 0, .slice none 0 0, .slice none 0 0, .bool false, .int .u32 0, .slice none 0 0, .slice none 0 0, .slice none 0 0] 33))
 go_upto_region 7 with (refine aj rfl 33 (.tmp 7) (.tmp 29) rfl rfl wc.heap.size #[v1, v2, v3, v4, v5, v6, .slice A7 n7 c7, .bool hs, .int .u32 sti, .slice A8 n8 c8, v9, v10] rfl rfl 33 #[.slice none 0 0, .slice none 0 0, .slice none 0 0, .slice none 0 0, .slice none 0 0, .slice none 0 0, .slice none 0 0, .bool false, .int .u32 0, .slice none 0 0, .slice none 0 0, .slice none 0 0] HZA.out bB rfl HONE.out ?_)
 have HZ0 := J (setRow_heap _ _ #[.slice none 0 0, .slice none 0 0, .slice none 0 0, .slice none 0 0, .slice none 0 0, .slice none 0 0, .slice none 0 0, .bool false, .int .u32 0, .slice none 0 0, .slice none 0 0, .slice none 0 0] #[v1, v2, v3, v4, v5, v6, .slice A7 n7 c7, .bool hs, .int .u32 sti, .slice A8 n8 c8, v9, v10] _ _ HZA.out)
 have HWZ : Hid (Below w0.heap.size w0 ((wc.alloc (.cells #[.slice none 0 0, .slice none 0 0, .slice none 0 0, .slice none 0 0, .slice none 0 0, .slice none 0 0, .slice none 0 0, .bool false, .int .u32 0, .slice none 0 0, .slice none 0 0, .slice none 0 0] 33)).setRow wc.heap.size #[v1, v2, v3, v4, v5, v6, .slice A7 n7 c7, .bool hs, .int .u32 sti, .slice A8 n8 c8, v9, v10])) := J (HW3.out.trans ((ac hbz (Nat.le_refl _) #[v1, v2, v3, v4, v5, v6, .slice A7 n7 c7, .bool hs, .int .u32 sti, .slice A8 n8 c8, v9, v10]).mono HW3.out.size))
 have HZL : Hid (w0.heap.size ≤ wc.heap.size) := J HW3.out.size
 clear hbz HZA
 generalize (wc.alloc (.cells #[.slice none 0 0, .slice none 0 0, .slice none 0 0, .slice none 0 0, .slice none 0 0, .slice none 0 0, .slice none 0 0, .bool false, .int .u32 0, .slice none 0 0, .slice none 0 0, .slice none 0 0] 33)).setRow wc.heap.size #[v1, v2, v3, v4, v5, v6, .slice A7 n7 c7, .bool hs, .int .u32 sti, .slice A8 n8 c8, v9, v10] = wz at HZ0 HWZ ⊢
 obtain ⟨Z, hZ⟩ : ∃ Z, wc.heap.size = Z := ⟨_, rfl⟩
 rw [hZ] at HZ0 HZL
 simp only [hZ]
 clear hZ
 clear a0 a1 a2 a3 a4 a5 a6 a7 a8 a9 a10 a11
 have HWW : Hid (w.heap.size ≤ w0.heap.size ∧ w0.heap.size ≤ Z ∧ Z < wz.heap.size) := J ⟨HB0.out.size, HZL.out, (Array.getElem?_eq_some_iff.1 HZ0.out).1⟩
 have HWZL : Hid (Z < wz.heap.size) := J HWW.out.2.2
 have HA6 := J (fun W (hW : Below w0.heap.size w0 W) => (show W.cell? ⟨X, 6, none⟩ = some (.slice A7 n7 c7) from by obtain ⟨_, _, _, _, _, _, h, _⟩ := HAL.out W hW; exact h))
 have HA9 := J (fun W (hW : Below w0.heap.size w0 W) => (show W.cell? ⟨X, 9, none⟩ = some (.slice A8 n8 c8) from by obtain ⟨_, _, _, _, _, _, _, _, _, h, _⟩ := HAL.out W hW; exact h))
 have HOL := J (fun W (hW : Below w0.heap.size w0 W) => HB0.out.trans (hW.mono HB0.out.size))
 obtain ⟨a0, a1, a2, a3, a4, a5, a6, a7, a8, a9, a10, a11⟩ := HAL.out _ HWZ.out
 go_upto_if 33 with fail
 clear a0 a1 a2 a3 a4 a5 a6 a7 a8 a9 a10 a11
 go_cut [] from 33 to 67 (fun wx => ∃ (es' : List Exp) (v7z : Value), Hid (Below w0.heap.size w0 wx) ∧ Hid (wx.heap[Z]? = some (.cells #[v1, v2, v3, v4, v5, v6, v7z, .bool hs, .int .u32 sti, .slice A8 n8 c8, v9, v10] 33 (0, 0))) ∧ Hid (ab wx (fun k => k < wx.heap.size ∧ k ≠ Z) es' v7z) ∧ Hid (es'.Sublist es))
 case first =>
  by_cases hn0 : n7 = 0
  ·subst hn0
   go_wp2_with fail
   go_meet
   case rel => exact ⟨es, _, HWZ, HZ0, J (apartV HS7.out (HOL.out _ HWZ.out) (by have := HWW.out; omega)), J (List.Sublist.refl _)⟩
  have hn0i : (0 : Int) < (n7 : Int) := by omega
  obtain ⟨a0, a1, a2, a3, a4, a5, a6, a7, a8, a9, a10, a11⟩ := HAL.out _ HWZ.out
  go_upto_region 9 with fail
  clear a0 a1 a2 a3 a4 a5 a6 a7 a8 a9 a10 a11
  obtain ⟨k, hk⟩ : ∃ k, k0 % n7 = k := ⟨_, rfl⟩
  have hkn : k < n7 := by rw [← hk]; exact Nat.mod_lt _ (by omega)
  have hki : (k0 : Int) % (n7 : Int) = (k : Int) := by omega
  simp only [hki]
  clear hki
  go_cut [] from 33 to 51 (fun wx => ∃ A6 n6 c6, Hid (Below w0.heap.size w0 wx) ∧ Hid (wx.heap[Z]? = some (.cells #[v1, v2, v3, v4, v5, v6, .slice A6 n6 c6, .bool hs, .int .u32 sti, .slice A8 n8 c8, v9, v10] 33 (0, 0))) ∧ Hid (ab wx (fun k => k < wx.heap.size ∧ k ≠ Z) (es.take k ++ es.drop (k + 1)) (.slice A6 n6 c6)))
  case first =>
   as_aux_lemma =>
    obtain ⟨x0, hx0⟩ : ∃ x, es[0]? = some x := ⟨_, List.getElem?_eq_getElem (by have := HN7.out; omega)⟩
    obtain ⟨g7, o7, cs7, rfl, _⟩ := HL7.out 0 x0 hx0
    clear hx0
    have hkc : k ≤ c7 := by omega
    have hkci : (k : Int) ≤ (c7 : Int) := by omega
    have hk1 : k + 1 ≤ n7 := by omega
    have hk1i : (k : Int) + 1 ≤ (n7 : Int) := by omega
    have hk1c : (k : Int) + 1 ≤ (c7 : Int) := by omega
    have hk0 : 0 ≤ (k : Int) + 1 := by omega
    have hkx : (k : Int) ≤ (k : Int) + 1 := by omega
    have hkt : ((k : Int) + 1).toNat = k + 1 := by omega
    have hwr : IntKind.i64.wrap ((k : Int) + 1) = (k : Int) + 1 := IntWalk.i64_in _ ⟨by omega, by omega⟩
    by_cases hck : c7 = k + 1
    ·obtain rfl : n7 = k + 1 := by omega
     subst hck
     have HPR : Hid (HasL w (· < w.heap.size) (some ⟨g7, o7, none⟩) (es.take k)) := J (ca HL7.out k)
     have HSU : Hid (HasL w (· < w.heap.size) (some ⟨g7, o7, none⟩) (es.drop (k + 1))) := J ((by rw [List.drop_eq_nil_of_le (by have := HN7.out; omega)]; exact HasL.nil _ _ _))
     have HLP : Hid (k = (es.take k).length ∧ 0 = (es.drop (k + 1)).length) := J ⟨by rw [List.length_take]; have := HN7.out; omega, by rw [List.length_drop]; have := HN7.out; omega⟩
     have HS0 : Hid (wz.drew.cell? ⟨X, 6, none⟩ = some (.slice (some ⟨g7, o7, none⟩) (k + 1) (k + 1))) := J (HA6.out wz HWZ.out)
     refine wp_region_held_drew (S := fun W' => W'.cell? ⟨X, 6, none⟩ = some (.slice (some ⟨g7, o7, none⟩) (k + 1) (k + 1))) (by kernel_rfl) (HS0.out) (fun hHeld => ?_)
     refine dv 1 rfl ?_
     refine dv 2 rfl ?_
     refine dv 3 rfl ?_
     refine dv 4 rfl ?_
     refine dv 6 rfl ?_
     refine dv 7 rfl ?_
     refine dv 8 rfl ?_
     refine dv 9 rfl ?_
     refine dv 10 rfl ?_
     have hbE : Below wz.heap.size wz (wz.drew.alloc (.cells #[] 61)) := (Below.drew (Below.refl _ _)).alloc (Nat.le_refl _) _
     have hmE := az.lit0 (α := Exp) 61 wz.drew wz.heap.size w.heap.size (Nat.le_refl _) (by have := HWW.out; have := HWZ.out.size; show w.heap.size ≤ wz.heap.size; omega)
     have hszE : (wz.drew.alloc (.cells #[] 61)).heap.size = wz.heap.size + 1 := by simp
     have hbW := HOL.out _ (HWZ.out.trans (hbE.mono HWZ.out.size))
     obtain ⟨A5, c5, w5, A6, c6, w6, hr5, hr6, hm6, hb5, hb6⟩ := bE (n1 := k) (n2 := 0) (c1 := (k + 1)) (c2 := 0) undExp infExp (by decide) rfl (by decide) hmE (by rw [hszE]; omega) (by have := HWW.out; have := HWZ.out.size; omega) (aP HPR.out hbW rfl) (aP HSU.out hbW rfl) HLP.out.1 HLP.out.2 (by omega)
     have HSE : Hid ((wz.drew.alloc (.cells #[] 61)).cell? ⟨X, 6, none⟩ = some (.slice (some ⟨g7, o7, none⟩) (k + 1) (k + 1))) := J (HA6.out _ (HWZ.out.trans (hbE.mono HWZ.out.size)))
     have HB5 := J (HWZ.out.trans ((hbE.trans hb5).mono HWZ.out.size))
     have HB6 := J (HWZ.out.trans ((hbE.trans hb6).mono HWZ.out.size))
     have HBW6 := J (hbE.trans hb6)
     have HR5 := J hr5
     have HR6 := J hr6
     have HM6 := J hm6
     clear hbE hmE hszE hbW hr5 hr6 hm6 hb5 hb6
     refine aa 0 rfl (by kernel_rfl) (fun K hK => ?_)
     try (rw [if_pos]; case hc => rfl)
     go_simp
     refine hK.out _ _ (HSE.out) (fun hHeld2 => ?_)
     clear hK K hHeld
     have hHeld := hHeld2
     clear hHeld2
     refine aa 5 rfl (by kernel_rfl) (fun K hK => ?_)
     rw [if_pos]
     case hc => rfl
     refine ai (.tmp 39) (.tmp 43) 27 rfl _ _ _ _ rfl rfl HR5.out ?_
     refine hK.out _ _ (HA6.out _ HB5.out) (fun hHeld2 => ?_)
     clear hK K hHeld
     have hHeld := hHeld2
     clear hHeld2
     try simp only [Act.put, O]
     refine aa 11 rfl (by kernel_rfl) (fun K hK => ?_)
     rw [if_pos]
     case hc => rfl
     refine ai (.tmp 44) (.tmp 49) 27 rfl _ _ _ _ rfl rfl HR6.out ?_
     refine hK.out _ _ (HA6.out _ HB6.out) (fun hHeld2 => ?_)
     clear hK K hHeld
     have hHeld := hHeld2
     clear hHeld2
     try simp only [Act.put, O]
     have HZ6 : Hid (w6.heap[Z]? = some (.cells #[v1, v2, v3, v4, v5, v6, .slice (some ⟨g7, o7, none⟩) (k + 1) (k + 1), .bool hs, .int .u32 sti, .slice A8 n8 c8, v9, v10] 33 (0, 0))) := J ((HBW6.out.block Z (by have := HWW.out; have := HWZL.out; omega)).trans HZ0.out)
     have HM7 : Hid (Mod (· = Z) w6 (w6.setCell ⟨Z, 6, none⟩ (.slice A6 (k + 0) c6))) := J (Mod.setCell (T := (· = Z)) (Mod.refl _ w6) (fun _ => rfl) _)
     have HB7 : Hid (Below w0.heap.size w0 (w6.setCell ⟨Z, 6, none⟩ (.slice A6 (k + 0) c6))) := J (HB6.out.trans (HM7.out.below HB6.out.size (fun j hj e => by have := HWW.out; omega)))
     have HZ7 : Hid ((w6.setCell ⟨Z, 6, none⟩ (.slice A6 (k + 0) c6)).heap[Z]? = some (.cells #[v1, v2, v3, v4, v5, v6, .slice A6 (k + 0) c6, .bool hs, .int .u32 sti, .slice A8 n8 c8, v9, v10] 33 (0, 0))) := J (by rw [heap_setCell_same w6 Z 6 _ _ _ HZ6.out]; rfl)
     have HV7 := J (aL (HM6.out.sliceN (Z := Z) (by have := HWW.out; omega) HWZL.out (by have := HB6.out.size; have := HWW.out; omega)) HM7.out)
     have HC7 : Hid (w6.cell? ⟨Z, 6, none⟩ = some (.slice (some ⟨g7, o7, none⟩) (k + 1) (k + 1))) := J (by rw [cell_of_row w6 Z 6 _ _ (0, 0) HZ6.out]; rfl)
     have HF7 : Hid (w6.frozen? ⟨Z, 6, none⟩ = false) := J (frozen_of_row w6 Z 6 _ _ HZ6.out)
     refine dv 12 rfl ?_
     refine aa 13 rfl (by kernel_rfl) (fun K hK => ?_)
     have hl := HC7.out
     have gl := HF7.out
     try (rw [if_pos]; case hc => rfl)
     go_simp
     clear hl gl
     refine hK.out _ _ (HA6.out _ HB7.out) (fun hHeld2 => ?_)
     clear hK K hHeld
     have hHeld := hHeld2
     clear hHeld2
     refine wpAnyH_done (by kernel_rfl) ?_ _
     go_wp2_with fail
     go_meet
     case rel => exact ⟨A6, k + 0, c6, HB7, HZ7, HV7⟩
    ·have hck2 : ¬ (c7 - (k + 1) = 0) := by omega
     have HPR : Hid (HasL w (· < w.heap.size) (some ⟨g7, o7, none⟩) (es.take k)) := J (ca HL7.out k)
     have HSU : Hid (HasL w (· < w.heap.size) (some ⟨g7, o7 + (k + 1) * 3, none⟩) (es.drop (k + 1))) := J (dY HL7.out (k + 1))
     have HLP : Hid (k = (es.take k).length ∧ (n7 - (k + 1)) = (es.drop (k + 1)).length) := J ⟨by rw [List.length_take]; have := HN7.out; omega, by rw [List.length_drop]; have := HN7.out; omega⟩
     have HS0 : Hid (wz.drew.cell? ⟨X, 6, none⟩ = some (.slice (some ⟨g7, o7, none⟩) n7 c7)) := J (HA6.out wz HWZ.out)
     refine wp_region_held_drew (S := fun W' => W'.cell? ⟨X, 6, none⟩ = some (.slice (some ⟨g7, o7, none⟩) n7 c7)) (by kernel_rfl) (HS0.out) (fun hHeld => ?_)
     refine dv 1 rfl ?_
     refine dv 2 rfl ?_
     refine dv 3 rfl ?_
     refine dv 4 rfl ?_
     refine dv 6 rfl ?_
     refine dv 7 rfl ?_
     refine dv 8 rfl ?_
     refine dv 9 rfl ?_
     refine dv 10 rfl ?_
     have hbE : Below wz.heap.size wz (wz.drew.alloc (.cells #[] 61)) := (Below.drew (Below.refl _ _)).alloc (Nat.le_refl _) _
     have hmE := az.lit0 (α := Exp) 61 wz.drew wz.heap.size w.heap.size (Nat.le_refl _) (by have := HWW.out; have := HWZ.out.size; show w.heap.size ≤ wz.heap.size; omega)
     have hszE : (wz.drew.alloc (.cells #[] 61)).heap.size = wz.heap.size + 1 := by simp
     have hbW := HOL.out _ (HWZ.out.trans (hbE.mono HWZ.out.size))
     obtain ⟨A5, c5, w5, A6, c6, w6, hr5, hr6, hm6, hb5, hb6⟩ := bE (n1 := k) (n2 := (n7 - (k + 1))) (c1 := c7) (c2 := (c7 - (k + 1))) undExp infExp (by decide) rfl (by decide) hmE (by rw [hszE]; omega) (by have := HWW.out; have := HWZ.out.size; omega) (aP HPR.out hbW rfl) (aP HSU.out hbW rfl) HLP.out.1 HLP.out.2 (by omega)
     have HSE : Hid ((wz.drew.alloc (.cells #[] 61)).cell? ⟨X, 6, none⟩ = some (.slice (some ⟨g7, o7, none⟩) n7 c7)) := J (HA6.out _ (HWZ.out.trans (hbE.mono HWZ.out.size)))
     have HB5 := J (HWZ.out.trans ((hbE.trans hb5).mono HWZ.out.size))
     have HB6 := J (HWZ.out.trans ((hbE.trans hb6).mono HWZ.out.size))
     have HBW6 := J (hbE.trans hb6)
     have HR5 := J hr5
     have HR6 := J hr6
     have HM6 := J hm6
     clear hbE hmE hszE hbW hr5 hr6 hm6 hb5 hb6
     refine aa 0 rfl (by kernel_rfl) (fun K hK => ?_)
     try (rw [if_pos]; case hc => rfl)
     go_simp
     refine hK.out _ _ (HSE.out) (fun hHeld2 => ?_)
     clear hK K hHeld
     have hHeld := hHeld2
     clear hHeld2
     refine aa 5 rfl (by kernel_rfl) (fun K hK => ?_)
     rw [if_pos]
     case hc => rfl
     refine ai (.tmp 39) (.tmp 43) 27 rfl _ _ _ _ rfl rfl HR5.out ?_
     refine hK.out _ _ (HA6.out _ HB5.out) (fun hHeld2 => ?_)
     clear hK K hHeld
     have hHeld := hHeld2
     clear hHeld2
     try simp only [Act.put, O]
     refine aa 11 rfl (by kernel_rfl) (fun K hK => ?_)
     rw [if_pos]
     case hc => rfl
     refine ai (.tmp 44) (.tmp 49) 27 rfl _ _ _ _ rfl rfl HR6.out ?_
     refine hK.out _ _ (HA6.out _ HB6.out) (fun hHeld2 => ?_)
     clear hK K hHeld
     have hHeld := hHeld2
     clear hHeld2
     try simp only [Act.put, O]
     have HZ6 : Hid (w6.heap[Z]? = some (.cells #[v1, v2, v3, v4, v5, v6, .slice (some ⟨g7, o7, none⟩) n7 c7, .bool hs, .int .u32 sti, .slice A8 n8 c8, v9, v10] 33 (0, 0))) := J ((HBW6.out.block Z (by have := HWW.out; have := HWZL.out; omega)).trans HZ0.out)
     have HM7 : Hid (Mod (· = Z) w6 (w6.setCell ⟨Z, 6, none⟩ (.slice A6 (k + (n7 - (k + 1))) c6))) := J (Mod.setCell (T := (· = Z)) (Mod.refl _ w6) (fun _ => rfl) _)
     have HB7 : Hid (Below w0.heap.size w0 (w6.setCell ⟨Z, 6, none⟩ (.slice A6 (k + (n7 - (k + 1))) c6))) := J (HB6.out.trans (HM7.out.below HB6.out.size (fun j hj e => by have := HWW.out; omega)))
     have HZ7 : Hid ((w6.setCell ⟨Z, 6, none⟩ (.slice A6 (k + (n7 - (k + 1))) c6)).heap[Z]? = some (.cells #[v1, v2, v3, v4, v5, v6, .slice A6 (k + (n7 - (k + 1))) c6, .bool hs, .int .u32 sti, .slice A8 n8 c8, v9, v10] 33 (0, 0))) := J (by rw [heap_setCell_same w6 Z 6 _ _ _ HZ6.out]; rfl)
     have HV7 := J (aL (HM6.out.sliceN (Z := Z) (by have := HWW.out; omega) HWZL.out (by have := HB6.out.size; have := HWW.out; omega)) HM7.out)
     have HC7 : Hid (w6.cell? ⟨Z, 6, none⟩ = some (.slice (some ⟨g7, o7, none⟩) n7 c7)) := J (by rw [cell_of_row w6 Z 6 _ _ (0, 0) HZ6.out]; rfl)
     have HF7 : Hid (w6.frozen? ⟨Z, 6, none⟩ = false) := J (frozen_of_row w6 Z 6 _ _ HZ6.out)
     refine dv 12 rfl ?_
     refine aa 13 rfl (by kernel_rfl) (fun K hK => ?_)
     have hl := HC7.out
     have gl := HF7.out
     try (rw [if_pos]; case hc => rfl)
     go_simp
     clear hl gl
     refine hK.out _ _ (HA6.out _ HB7.out) (fun hHeld2 => ?_)
     clear hK K hHeld
     have hHeld := hHeld2
     clear hHeld2
     refine wpAnyH_done (by kernel_rfl) ?_ _
     go_wp2_with fail
     go_meet
     case rel => exact ⟨A6, k + (n7 - (k + 1)), c6, HB7, HZ7, HV7⟩
  case rest =>
  obtain ⟨A6z, n6, c6z, HB7, HZ7, HV7⟩ := hcut
  obtain ⟨a0, a1, a2, a3, a4, a5, a6, a7, a8, a9, a10, a11⟩ := HAL.out _ HB7.out
  have hbz : Below wc.heap.size wc (wc.alloc (.cells #[.slice none 0 0, .slice none 0 0, .slice none 0 0, .slice none 0 0, .slice none 0 0, .slice none 0 0, .slice none 0 0, .bool false, .int .u32 0, .slice none 0 0, .slice none 0 0, .slice none 0 0] 33)) := (Below.refl _ _).alloc (Nat.le_refl _) _
  have HZA := J (heap_alloc_new wc (.cells #[.slice none 0 0, .slice none 0 0, .slice none 0 0, .slice none 0 0, .slice none 0 0, .slice none 0 0, .slice none 0 0, .bool false, .int .u32 0, .slice none 0 0, .slice none 0 0, .slice none 0 0] 33))
  go_upto_region 11 with (refine aj rfl 33 (.tmp 9) (.tmp 52) rfl rfl wc.heap.size #[v1, v2, v3, v4, v5, v6, .slice A7 n7 c7, .bool hs, .int .u32 sti, .slice A8 n8 c8, v9, v10] rfl rfl 33 #[.slice none 0 0, .slice none 0 0, .slice none 0 0, .slice none 0 0, .slice none 0 0, .slice none 0 0, .slice none 0 0, .bool false, .int .u32 0, .slice none 0 0, .slice none 0 0, .slice none 0 0] HZA.out bB rfl HONE.out ?_)
  clear a0 a1 a2 a3 a4 a5 a6 a7 a8 a9 a10 a11
  have HY0 := J (setRow_heap _ _ #[.slice none 0 0, .slice none 0 0, .slice none 0 0, .slice none 0 0, .slice none 0 0, .slice none 0 0, .slice none 0 0, .bool false, .int .u32 0, .slice none 0 0, .slice none 0 0, .slice none 0 0] #[v1, v2, v3, v4, v5, v6, .slice A7 n7 c7, .bool hs, .int .u32 sti, .slice A8 n8 c8, v9, v10] _ _ HZA.out)
  have hbs := ac hbz (Nat.le_refl _) #[v1, v2, v3, v4, v5, v6, .slice A7 n7 c7, .bool hs, .int .u32 sti, .slice A8 n8 c8, v9, v10]
  have HWY : Hid (Below w0.heap.size w0 ((wc.alloc (.cells #[.slice none 0 0, .slice none 0 0, .slice none 0 0, .slice none 0 0, .slice none 0 0, .slice none 0 0, .slice none 0 0, .bool false, .int .u32 0, .slice none 0 0, .slice none 0 0, .slice none 0 0] 33)).setRow wc.heap.size #[v1, v2, v3, v4, v5, v6, .slice A7 n7 c7, .bool hs, .int .u32 sti, .slice A8 n8 c8, v9, v10])) := J (HB7.out.trans (hbs.mono HB7.out.size))
  have HZ8 := J ((hbs.block Z (Array.getElem?_eq_some_iff.1 HZ7.out).1).trans HZ7.out)
  have HV8 : Hid (ab ((wc.alloc (.cells #[.slice none 0 0, .slice none 0 0, .slice none 0 0, .slice none 0 0, .slice none 0 0, .slice none 0 0, .slice none 0 0, .bool false, .int .u32 0, .slice none 0 0, .slice none 0 0, .slice none 0 0] 33)).setRow wc.heap.size #[v1, v2, v3, v4, v5, v6, .slice A7 n7 c7, .bool hs, .int .u32 sti, .slice A8 n8 c8, v9, v10]) (fun k => k < wc.heap.size ∧ k ≠ Z) _ _) := J (HV7.out.mod (T := fun _ => False) (Mod.of_below hbs) (fun _ _ _ h => h))
  have HYL : Hid (Z < wc.heap.size) := J (Array.getElem?_eq_some_iff.1 HZ7.out).1
  clear hbz HZA hbs
  generalize (wc.alloc (.cells #[.slice none 0 0, .slice none 0 0, .slice none 0 0, .slice none 0 0, .slice none 0 0, .slice none 0 0, .slice none 0 0, .bool false, .int .u32 0, .slice none 0 0, .slice none 0 0, .slice none 0 0] 33)).setRow wc.heap.size #[v1, v2, v3, v4, v5, v6, .slice A7 n7 c7, .bool hs, .int .u32 sti, .slice A8 n8 c8, v9, v10] = wy at HY0 HWY HZ8 HV8 ⊢
  obtain ⟨Y, hY⟩ : ∃ Y, wc.heap.size = Y := ⟨_, rfl⟩
  rw [hY] at HY0 HYL HV8
  simp only [hY]
  clear hY HB7 HZ7 HV7 HZ0
  have HWYL : Hid (Y < wy.heap.size) := J (Array.getElem?_eq_some_iff.1 HY0.out).1
  obtain ⟨x, hx⟩ : ∃ x, es[k]? = some x := ⟨_, List.getElem?_eq_getElem (by have := HN7.out; omega)⟩
  have HX := J hx
  clear hx
  go_cut [] from 33 to 64 (fun wx => ∃ A6 c6, Hid (Below w0.heap.size w0 wx) ∧ Hid (wx.heap[Y]? = some (.cells #[v1, v2, v3, v4, v5, v6, .slice A6 (n7 + 1) c6, .bool hs, .int .u32 sti, .slice A8 n8 c8, v9, v10] 33 (0, 0))) ∧ Hid (wx.heap[Z]? = some (.cells #[v1, v2, v3, v4, v5, v6, .slice A6z n6 c6z, .bool hs, .int .u32 sti, .slice A8 n8 c8, v9, v10] 33 (0, 0))) ∧ Hid (ab wx (· < wx.heap.size) (es ++ [x]) (.slice A6 (n7 + 1) c6)) ∧ Hid (ab wx (fun k => k < wx.heap.size ∧ k ≠ Z) (es.take k ++ es.drop (k + 1)) (.slice A6z n6 c6z)))
  case first =>
   as_aux_lemma =>
    obtain ⟨g7, o7, rfl, hxi, hcx0, hcx1, hcx2⟩ := expV_at HL7.out HX.out
    have HXI := J hxi
    have HCX := J (And.intro hcx0 (And.intro hcx1 hcx2))
    have HGB : Hid (g7 < w.heap.size) := J (er hcx0)
    clear hxi hcx0 hcx1 hcx2
    have HS4 : Hid (∀ W, Below w0.heap.size w0 W → (W.cell? ⟨X, 6, none⟩ = some (.slice (some ⟨g7, o7, none⟩) n7 c7) ∧ W.cell? ⟨g7, o7 + k * 3, none⟩ = some (strV x.name) ∧ W.cell? ⟨g7, o7 + k * 3 + 1, none⟩ = some (.int .u8 (x.kind.toNat : Int)) ∧ W.cell? ⟨g7, o7 + k * 3 + 2, none⟩ = some (.int .u32 (x.index : Int)))) := J (fun W hW => ⟨HA6.out W hW, ((HOL.out W hW).cell (p := ⟨g7, o7 + k * 3, none⟩) HGB.out).trans HCX.out.1, ((HOL.out W hW).cell (p := ⟨g7, o7 + k * 3 + 1, none⟩) HGB.out).trans HCX.out.2.1, ((HOL.out W hW).cell (p := ⟨g7, o7 + k * 3 + 2, none⟩) HGB.out).trans HCX.out.2.2⟩)
    have hkni : (k : Int) < (n7 : Int) := by omega
    have hk0 : 0 ≤ (k : Int) := by omega
    have HWQ : Hid (w.heap.size ≤ wy.heap.size) := J (by have := HWW.out; have := HWY.out.size; omega)
    have HPE := J (HN7.out.symm)
    have HS0 := J (HS4.out wy HWY.out)
    refine wp_region_held_drew (S := fun W' => W'.cell? ⟨X, 6, none⟩ = some (.slice (some ⟨g7, o7, none⟩) n7 c7) ∧ W'.cell? ⟨g7, o7 + k * 3, none⟩ = some (strV x.name) ∧ W'.cell? ⟨g7, o7 + k * 3 + 1, none⟩ = some (.int .u8 (x.kind.toNat : Int)) ∧ W'.cell? ⟨g7, o7 + k * 3 + 2, none⟩ = some (.int .u32 (x.index : Int))) (by kernel_rfl) (HS0.out) (fun hHeld => ?_)
    refine dt 1 rfl (v := ?_) ?_ ?_
    rotate_left
    ·(intro wy hSw; obtain ⟨s0, s1, s2, s3⟩ := hSw; go_simp; try with_reducible rfl)
    simp only [Act.put, O]
    refine dt 2 rfl (v := ?_) ?_ ?_
    rotate_left
    ·(intro wy hSw; obtain ⟨s0, s1, s2, s3⟩ := hSw; go_simp; try with_reducible rfl)
    simp only [Act.put, O]
    refine dt 4 rfl (v := ?_) ?_ ?_
    rotate_left
    ·(intro wy hSw; obtain ⟨s0, s1, s2, s3⟩ := hSw; go_simp; try with_reducible rfl)
    simp only [Act.put, O]
    refine dt 5 rfl (v := ?_) ?_ ?_
    rotate_left
    ·(intro wy hSw; obtain ⟨s0, s1, s2, s3⟩ := hSw; go_simp; try with_reducible rfl)
    simp only [Act.put, O]
    refine dt 6 rfl (v := ?_) ?_ ?_
    rotate_left
    ·(intro wy hSw; obtain ⟨s0, s1, s2, s3⟩ := hSw; go_simp; try with_reducible rfl)
    simp only [Act.put, O]
    refine dt 7 rfl (v := ?_) ?_ ?_
    rotate_left
    ·(intro wy hSw; obtain ⟨s0, s1, s2, s3⟩ := hSw; go_simp; try with_reducible rfl)
    simp only [Act.put, O]
    refine dt 8 rfl (v := ?_) ?_ ?_
    rotate_left
    ·(intro wy hSw; obtain ⟨s0, s1, s2, s3⟩ := hSw; go_simp; try with_reducible rfl)
    simp only [Act.put, O]
    refine ah 0 9 rfl rfl (by kernel_rfl) (fun K hK => ?_) (fun K hK => ?_)
    ·have hbE : Below wy.heap.size wy (wy.drew.alloc (.cells #[] 61)) := (Below.drew (Below.refl _ _)).alloc (Nat.le_refl _) _
     have hmE := az.lit0 (α := Exp) 61 wy.drew wy.heap.size w.heap.size (Nat.le_refl _) HWQ.out
     have hszE : (wy.drew.alloc (.cells #[] 61)).heap.size = wy.heap.size + 1 := by simp
     try (rw [if_pos]; case hc => rfl)
     go_simp
     refine hK.out _ _ (HS4.out _ (HWY.out.trans (hbE.mono HWY.out.size))) (fun hHeld2 => ?_)
     clear hK K hHeld
     have hHeld := hHeld2
     clear hHeld2
     refine ah 3 9 rfl rfl (by kernel_rfl) (fun K hK => ?_) (fun K hK => ?_)
     ·obtain ⟨A5, c5, w5, A6, c6, w6, hr5, hr6, hm6, hb5, hb6⟩ := chain_expA (c := c7) hmE (by rw [hszE]; omega) HWQ.out (aP HL7.out (HOL.out _ (HWY.out.trans (hbE.mono HWY.out.size))) rfl) HPE.out (by omega) HXI.out
      replace hb5 := hbE.trans hb5
      replace hb6 := hbE.trans hb6
      have HR5 := J hr5
      have HR6 := J hr6
      have HM6 := J hm6
      have HB5 := J (HWY.out.trans (hb5.mono HWY.out.size))
      have HB6 := J (HWY.out.trans (hb6.mono HWY.out.size))
      have HBW6 := J hb6
      clear hr5 hr6 hm6 hb5 hb6
      rw [if_pos]
      case hc => rfl
      refine ai (.tmp 53) (.tmp 55) 27 rfl _ _ _ _ rfl rfl HR5.out ?_
      refine hK.out _ _ (HS4.out _ HB5.out) (fun hHeld2 => ?_)
      clear hK K hHeld
      have hHeld := hHeld2
      clear hHeld2
      try simp only [Act.put, O]
      refine aa 9 rfl (by kernel_rfl) (fun K hK => ?_)
      try (rw [if_pos]; case hc => rfl)
      go_simp
      refine hK.out _ _ (HS4.out _ (HB5.out.alloc HB5.out.size _)) (fun hHeld2 => ?_)
      clear hK K hHeld
      have hHeld := hHeld2
      clear hHeld2
      refine aa 10 rfl (by kernel_rfl) (fun K hK => ?_)
      rw [if_pos]
      case hc => rfl
      refine ai (.tmp 56) (.tmp 62) 27 rfl _ _ _ _ rfl rfl HR6.out ?_
      refine hK.out _ _ (HS4.out _ HB6.out) (fun hHeld2 => ?_)
      clear hK K hHeld
      have hHeld := hHeld2
      clear hHeld2
      try simp only [Act.put, O]
      have HY6 : Hid (w6.heap[Y]? = some (.cells #[v1, v2, v3, v4, v5, v6, .slice (some ⟨g7, o7, none⟩) n7 c7, .bool hs, .int .u32 sti, .slice A8 n8 c8, v9, v10] 33 (0, 0))) := J ((HBW6.out.block Y HWYL.out).trans HY0.out)
      have HZ6 : Hid (w6.heap[Z]? = some (.cells #[v1, v2, v3, v4, v5, v6, .slice A6z n6 c6z, .bool hs, .int .u32 sti, .slice A8 n8 c8, v9, v10] 33 (0, 0))) := J ((HBW6.out.block Z (by have := HWYL.out; have := HYL.out; omega)).trans HZ8.out)
      have HM7 : Hid (Mod (· = Y) w6 (w6.setCell ⟨Y, 6, none⟩ (.slice A6 (n7 + 1) c6))) := J (Mod.setCell (T := (· = Y)) (Mod.refl _ w6) (fun _ => rfl) _)
      have HB7 : Hid (Below w0.heap.size w0 (w6.setCell ⟨Y, 6, none⟩ (.slice A6 (n7 + 1) c6))) := J (HB6.out.trans (HM7.out.below HB6.out.size (fun j hj e => by have := HWW.out; have := HYL.out; omega)))
      have HY7 : Hid ((w6.setCell ⟨Y, 6, none⟩ (.slice A6 (n7 + 1) c6)).heap[Y]? = some (.cells #[v1, v2, v3, v4, v5, v6, .slice A6 (n7 + 1) c6, .bool hs, .int .u32 sti, .slice A8 n8 c8, v9, v10] 33 (0, 0))) := J (by rw [heap_setCell_same w6 Y 6 _ _ _ HY6.out]; rfl)
      have HZ7 := J (HM7.out.heap HZ6.out (fun e => by have := HYL.out; have e' : Z = Y := e; omega))
      have HV7 := J ((HM6.out.mod HM7.out (fun j hj e => by have := HWW.out; have := HYL.out; have e' : j = Y := e; omega) (fun j hj e => by have := HM6.out.2 j hj; have := HWYL.out; have e' : j = Y := e; omega)).slice)
      have HVZ7 := J (cr HV8.out HBW6.out HM7.out)
      have HC7 : Hid (w6.cell? ⟨Y, 6, none⟩ = some (.slice (some ⟨g7, o7, none⟩) n7 c7)) := J (by rw [cell_of_row w6 Y 6 _ _ (0, 0) HY6.out]; rfl)
      have HF7 : Hid (w6.frozen? ⟨Y, 6, none⟩ = false) := J (frozen_of_row w6 Y 6 _ _ HY6.out)
      refine dt 11 rfl (v := ?_) ?_ ?_
      rotate_left
      ·(intro wy hSw; obtain ⟨s0, s1, s2, s3⟩ := hSw; go_simp; try with_reducible rfl)
      simp only [Act.put, O]
      refine aa 12 rfl (by kernel_rfl) (fun K hK => ?_)
      have hl := HC7.out
      have gl := HF7.out
      try (rw [if_pos]; case hc => rfl)
      go_simp
      clear hl gl
      refine hK.out _ _ (HS4.out _ HB7.out) (fun hHeld2 => ?_)
      clear hK K hHeld
      have hHeld := hHeld2
      clear hHeld2
      refine wpAnyH_done (by kernel_rfl) ?_ _
      go_wp2_with fail
      go_meet
      case rel => exact ⟨A6, c6, HB7, HY7, HZ7, HV7, HVZ7⟩
     ·have hbL : Below wy.heap.size wy ((wy.drew.alloc (.cells #[] 61)).alloc (.cells #[strV x.name, .int .u8 (x.kind.toNat : Int), .int .u32 (x.index : Int)] 61)) := hbE.alloc (by rw [hszE]; omega) _
      have hlL := heap_alloc_new (wy.drew.alloc (.cells #[] 61)) (.cells #[strV x.name, .int .u8 (x.kind.toNat : Int), .int .u32 (x.index : Int)] 61)
      rw [hszE] at hlL
      have hszL : ((wy.drew.alloc (.cells #[] 61)).alloc (.cells #[strV x.name, .int .u8 (x.kind.toNat : Int), .int .u32 (x.index : Int)] 61)).heap.size = wy.heap.size + 2 := by simp
      obtain ⟨A5, c5, w5, A6, c6, w6, hr5, hr6, hm6, hb5, hb6⟩ := dr (c := c7) (hmE.on ((Below.refl _ _).alloc (Nat.le_refl _) (.cells #[strV x.name, .int .u8 (x.kind.toNat : Int), .int .u32 (x.index : Int)] 61))) (by rw [hszL]; omega) HWQ.out (aP HL7.out (HOL.out _ (HWY.out.trans (hbL.mono HWY.out.size))) rfl) HPE.out (by omega) HXI.out hlL (by omega) (fun e => by simp [Value.ownBlock] at e)
      replace hb5 := hbL.trans hb5
      replace hb6 := hbL.trans hb6
      have HR5 := J hr5
      have HR6 := J hr6
      have HM6 := J hm6
      have HB5 := J (HWY.out.trans (hb5.mono HWY.out.size))
      have HB6 := J (HWY.out.trans (hb6.mono HWY.out.size))
      have HBW6 := J hb6
      clear hr5 hr6 hm6 hb5 hb6
      try (rw [if_pos]; case hc => rfl)
      go_simp
      refine hK.out _ _ (HS4.out _ (HWY.out.trans (hbL.mono HWY.out.size))) (fun hHeld2 => ?_)
      clear hK K hHeld
      have hHeld := hHeld2
      clear hHeld2
      refine aa 3 rfl (by kernel_rfl) (fun K hK => ?_)
      rw [if_pos]
      case hc => rfl
      refine ai (.tmp 53) (.tmp 55) 27 rfl _ _ _ _ rfl rfl HR5.out ?_
      refine hK.out _ _ (HS4.out _ HB5.out) (fun hHeld2 => ?_)
      clear hK K hHeld
      have hHeld := hHeld2
      clear hHeld2
      try simp only [Act.put, O]
      refine aa 10 rfl (by kernel_rfl) (fun K hK => ?_)
      rw [if_pos]
      case hc => rfl
      refine ai (.tmp 56) (.tmp 62) 27 rfl _ _ _ _ rfl rfl HR6.out ?_
      refine hK.out _ _ (HS4.out _ HB6.out) (fun hHeld2 => ?_)
      clear hK K hHeld
      have hHeld := hHeld2
      clear hHeld2
      try simp only [Act.put, O]
      have HY6 : Hid (w6.heap[Y]? = some (.cells #[v1, v2, v3, v4, v5, v6, .slice (some ⟨g7, o7, none⟩) n7 c7, .bool hs, .int .u32 sti, .slice A8 n8 c8, v9, v10] 33 (0, 0))) := J ((HBW6.out.block Y HWYL.out).trans HY0.out)
      have HZ6 : Hid (w6.heap[Z]? = some (.cells #[v1, v2, v3, v4, v5, v6, .slice A6z n6 c6z, .bool hs, .int .u32 sti, .slice A8 n8 c8, v9, v10] 33 (0, 0))) := J ((HBW6.out.block Z (by have := HWYL.out; have := HYL.out; omega)).trans HZ8.out)
      have HM7 : Hid (Mod (· = Y) w6 (w6.setCell ⟨Y, 6, none⟩ (.slice A6 (n7 + 1) c6))) := J (Mod.setCell (T := (· = Y)) (Mod.refl _ w6) (fun _ => rfl) _)
      have HB7 : Hid (Below w0.heap.size w0 (w6.setCell ⟨Y, 6, none⟩ (.slice A6 (n7 + 1) c6))) := J (HB6.out.trans (HM7.out.below HB6.out.size (fun j hj e => by have := HWW.out; have := HYL.out; omega)))
      have HY7 : Hid ((w6.setCell ⟨Y, 6, none⟩ (.slice A6 (n7 + 1) c6)).heap[Y]? = some (.cells #[v1, v2, v3, v4, v5, v6, .slice A6 (n7 + 1) c6, .bool hs, .int .u32 sti, .slice A8 n8 c8, v9, v10] 33 (0, 0))) := J (by rw [heap_setCell_same w6 Y 6 _ _ _ HY6.out]; rfl)
      have HZ7 := J (HM7.out.heap HZ6.out (fun e => by have := HYL.out; have e' : Z = Y := e; omega))
      have HV7 := J ((HM6.out.mod HM7.out (fun j hj e => by have := HWW.out; have := HYL.out; have e' : j = Y := e; omega) (fun j hj e => by have := HM6.out.2 j hj; have := HWYL.out; have e' : j = Y := e; omega)).slice)
      have HVZ7 := J (cr HV8.out HBW6.out HM7.out)
      have HC7 : Hid (w6.cell? ⟨Y, 6, none⟩ = some (.slice (some ⟨g7, o7, none⟩) n7 c7)) := J (by rw [cell_of_row w6 Y 6 _ _ (0, 0) HY6.out]; rfl)
      have HF7 : Hid (w6.frozen? ⟨Y, 6, none⟩ = false) := J (frozen_of_row w6 Y 6 _ _ HY6.out)
      refine dt 11 rfl (v := ?_) ?_ ?_
      rotate_left
      ·(intro wy hSw; obtain ⟨s0, s1, s2, s3⟩ := hSw; go_simp; try with_reducible rfl)
      simp only [Act.put, O]
      refine aa 12 rfl (by kernel_rfl) (fun K hK => ?_)
      have hl := HC7.out
      have gl := HF7.out
      try (rw [if_pos]; case hc => rfl)
      go_simp
      clear hl gl
      refine hK.out _ _ (HS4.out _ HB7.out) (fun hHeld2 => ?_)
      clear hK K hHeld
      have hHeld := hHeld2
      clear hHeld2
      refine wpAnyH_done (by kernel_rfl) ?_ _
      go_wp2_with fail
      go_meet
      case rel => exact ⟨A6, c6, HB7, HY7, HZ7, HV7, HVZ7⟩
    ·have hbN : Below wy.heap.size wy (wy.drew.alloc (.cells #[strV x.name, .int .u8 (x.kind.toNat : Int), .int .u32 (x.index : Int)] 61)) := (Below.drew (Below.refl _ _)).alloc (Nat.le_refl _) _
     have hszN : (wy.drew.alloc (.cells #[strV x.name, .int .u8 (x.kind.toNat : Int), .int .u32 (x.index : Int)] 61)).heap.size = wy.heap.size + 1 := by simp
     have hbL : Below wy.heap.size wy ((wy.drew.alloc (.cells #[strV x.name, .int .u8 (x.kind.toNat : Int), .int .u32 (x.index : Int)] 61)).alloc (.cells #[] 61)) := hbN.alloc (by rw [hszN]; omega) _
     have hlN := (Below.heap_alloc (wy.drew.alloc (.cells #[strV x.name, .int .u8 (x.kind.toNat : Int), .int .u32 (x.index : Int)] 61)) (.cells #[] 61) wy.heap.size (by rw [hszN]; omega)).trans (heap_alloc_new wy.drew (.cells #[strV x.name, .int .u8 (x.kind.toNat : Int), .int .u32 (x.index : Int)] 61))
     have hmE := az.lit0 (α := Exp) 61 (wy.drew.alloc (.cells #[strV x.name, .int .u8 (x.kind.toNat : Int), .int .u32 (x.index : Int)] 61)) wy.heap.size w.heap.size (by rw [hszN]; omega) (by rw [hszN]; have := HWQ.out; omega)
     rw [hszN] at hmE
     have hszL : ((wy.drew.alloc (.cells #[strV x.name, .int .u8 (x.kind.toNat : Int), .int .u32 (x.index : Int)] 61)).alloc (.cells #[] 61)).heap.size = wy.heap.size + 2 := by simp
     obtain ⟨A5, c5, w5, A6, c6, w6, hr5, hr6, hm6, hb5, hb6⟩ := dr (c := c7) hmE (by rw [hszL]; omega) HWQ.out (aP HL7.out (HOL.out _ (HWY.out.trans (hbL.mono HWY.out.size))) rfl) HPE.out (by omega) HXI.out hlN (Nat.le_refl _) (fun e => by simp [Value.ownBlock] at e)
     replace hb5 := hbL.trans hb5
     replace hb6 := hbL.trans hb6
     have HR5 := J hr5
     have HR6 := J hr6
     have HM6 := J hm6
     have HB5 := J (HWY.out.trans (hb5.mono HWY.out.size))
     have HB6 := J (HWY.out.trans (hb6.mono HWY.out.size))
     have HBW6 := J hb6
     clear hr5 hr6 hm6 hb5 hb6
     try (rw [if_pos]; case hc => rfl)
     go_simp
     refine hK.out _ _ (HS4.out _ (HWY.out.trans (hbN.mono HWY.out.size))) (fun hHeld2 => ?_)
     clear hK K hHeld
     have hHeld := hHeld2
     clear hHeld2
     refine aa 0 rfl (by kernel_rfl) (fun K hK => ?_)
     try (rw [if_pos]; case hc => rfl)
     go_simp
     refine hK.out _ _ (HS4.out _ (HWY.out.trans (hbL.mono HWY.out.size))) (fun hHeld2 => ?_)
     clear hK K hHeld
     have hHeld := hHeld2
     clear hHeld2
     refine aa 3 rfl (by kernel_rfl) (fun K hK => ?_)
     rw [if_pos]
     case hc => rfl
     refine ai (.tmp 53) (.tmp 55) 27 rfl _ _ _ _ rfl rfl HR5.out ?_
     refine hK.out _ _ (HS4.out _ HB5.out) (fun hHeld2 => ?_)
     clear hK K hHeld
     have hHeld := hHeld2
     clear hHeld2
     try simp only [Act.put, O]
     refine aa 10 rfl (by kernel_rfl) (fun K hK => ?_)
     rw [if_pos]
     case hc => rfl
     refine ai (.tmp 56) (.tmp 62) 27 rfl _ _ _ _ rfl rfl HR6.out ?_
     refine hK.out _ _ (HS4.out _ HB6.out) (fun hHeld2 => ?_)
     clear hK K hHeld
     have hHeld := hHeld2
     clear hHeld2
     try simp only [Act.put, O]
     have HY6 : Hid (w6.heap[Y]? = some (.cells #[v1, v2, v3, v4, v5, v6, .slice (some ⟨g7, o7, none⟩) n7 c7, .bool hs, .int .u32 sti, .slice A8 n8 c8, v9, v10] 33 (0, 0))) := J ((HBW6.out.block Y HWYL.out).trans HY0.out)
     have HZ6 : Hid (w6.heap[Z]? = some (.cells #[v1, v2, v3, v4, v5, v6, .slice A6z n6 c6z, .bool hs, .int .u32 sti, .slice A8 n8 c8, v9, v10] 33 (0, 0))) := J ((HBW6.out.block Z (by have := HWYL.out; have := HYL.out; omega)).trans HZ8.out)
     have HM7 : Hid (Mod (· = Y) w6 (w6.setCell ⟨Y, 6, none⟩ (.slice A6 (n7 + 1) c6))) := J (Mod.setCell (T := (· = Y)) (Mod.refl _ w6) (fun _ => rfl) _)
     have HB7 : Hid (Below w0.heap.size w0 (w6.setCell ⟨Y, 6, none⟩ (.slice A6 (n7 + 1) c6))) := J (HB6.out.trans (HM7.out.below HB6.out.size (fun j hj e => by have := HWW.out; have := HYL.out; omega)))
     have HY7 : Hid ((w6.setCell ⟨Y, 6, none⟩ (.slice A6 (n7 + 1) c6)).heap[Y]? = some (.cells #[v1, v2, v3, v4, v5, v6, .slice A6 (n7 + 1) c6, .bool hs, .int .u32 sti, .slice A8 n8 c8, v9, v10] 33 (0, 0))) := J (by rw [heap_setCell_same w6 Y 6 _ _ _ HY6.out]; rfl)
     have HZ7 := J (HM7.out.heap HZ6.out (fun e => by have := HYL.out; have e' : Z = Y := e; omega))
     have HV7 := J ((HM6.out.mod HM7.out (fun j hj e => by have := HWW.out; have := HYL.out; have e' : j = Y := e; omega) (fun j hj e => by have := HM6.out.2 j hj; have := HWYL.out; have e' : j = Y := e; omega)).slice)
     have HVZ7 := J (cr HV8.out HBW6.out HM7.out)
     have HC7 : Hid (w6.cell? ⟨Y, 6, none⟩ = some (.slice (some ⟨g7, o7, none⟩) n7 c7)) := J (by rw [cell_of_row w6 Y 6 _ _ (0, 0) HY6.out]; rfl)
     have HF7 : Hid (w6.frozen? ⟨Y, 6, none⟩ = false) := J (frozen_of_row w6 Y 6 _ _ HY6.out)
     refine dt 11 rfl (v := ?_) ?_ ?_
     rotate_left
     ·(intro wy hSw; obtain ⟨s0, s1, s2, s3⟩ := hSw; go_simp; try with_reducible rfl)
     simp only [Act.put, O]
     refine aa 12 rfl (by kernel_rfl) (fun K hK => ?_)
     have hl := HC7.out
     have gl := HF7.out
     try (rw [if_pos]; case hc => rfl)
     go_simp
     clear hl gl
     refine hK.out _ _ (HS4.out _ HB7.out) (fun hHeld2 => ?_)
     clear hK K hHeld
     have hHeld := hHeld2
     clear hHeld2
     refine wpAnyH_done (by kernel_rfl) ?_ _
     go_wp2_with fail
     go_meet
     case rel => exact ⟨A6, c6, HB7, HY7, HZ7, HV7, HVZ7⟩
  case rest =>
  obtain ⟨A6y, c6y, HB12, HY12, HZ12, HV12, HVZ12⟩ := hcut
  clear HWY HY0 HWYL HYL
  have HMM := J (Va.Good.twice HGD.out (x := x) (by rw [HES.out]; exact List.mem_of_getElem? HX.out))
  have HIS : Hid (∀ W A c, Below w0.heap.size w0 W → ab W (· < W.heap.size) (es ++ [x]) (.slice A (n7 + 1) c) → Calls Tryz.prog 15 #[.agg #[v1, v2, v3, v4, v5, v6, .slice A (n7 + 1) c, .bool hs, .int .u32 sti, .slice A8 n8 c8, v9, v10], .int .i64 111] W fun e w' => e = .returned (.bool true) ∧ Below W.heap.size W w') := J (fun W A c hW hs7 => by
   have hr := HM.out.grow (HOL.out W hW)
   have h := cg HVO.out { m with exports := m.exports ++ [x] } v1 v2 v3 v4 v5 v6 (.slice A (n7 + 1) c) _ v9 v10 111 W ⟨hr.types, hr.imports, hr.funcs, hr.tables, hr.mems, hr.globals, by rw [HES.out]; exact hs7, hr.start, hr.elems, hr.codes, hr.datas⟩ (fitV_more HF.out (by rw [HES.out, HN7.out]; exact hb7) (by rw [HES.out]; exact List.mem_of_getElem? HX.out))
   rw [HMM.out] at h
   unfold modCells at h
   dsimp only at h
   rw [HHS.out, HST.out, HSTI.out, HEL.out, HN8.out] at h
   exact h)
  have HBC := J HB12.out
  obtain ⟨z0, z1, z2, z3, z4, z5, z6, z7, z8, z9, z10, z11⟩ := cells12 HY12.out (Below.refl _ _)
  go_wp2_with (go_at_call 15; refine (HIS.out _ _ _ HB12.out HV12.out).mono ?_; rintro e w13 ⟨rfl, hb⟩; have HB13 := J hb; clear hb)
  go_meet
  case rel => exact ⟨_, _, J (HB12.out.trans (HB13.out.mono HB12.out.size)), J ((HB13.out.block Z (Array.getElem?_eq_some_iff.1 HZ12.out).1).trans HZ12.out), J (cU HVZ12.out HB13.out), J (sub_cut es k)⟩
 case rest =>
 obtain ⟨es', v7z, HB13, HZ13, HV13, HSU⟩ := hcut
 obtain ⟨wq, rfl⟩ : ∃ q, q = wc := ⟨wc, rfl⟩
 clear HWZ HZ0
 have HWQL : Hid (Z < wq.heap.size) := J (Array.getElem?_eq_some_iff.1 HZ13.out).1
 obtain ⟨a0, a1, a2, a3, a4, a5, a6, a7, a8, a9, a10, a11⟩ := HAL.out _ HB13.out
 go_upto_if 71 with fail
 clear a0 a1 a2 a3 a4 a5 a6 a7 a8 a9 a10 a11
 go_cut [] from 71 to 89 (fun wx => ∃ (els' : List El) (v8z : Value), Hid (Below w0.heap.size w0 wx) ∧ Hid (wx.heap[Z]? = some (.cells #[v1, v2, v3, v4, v5, v6, v7z, .bool hs, .int .u32 sti, v8z, v9, v10] 33 (0, 0))) ∧ Hid (ab wx (fun k => k < wx.heap.size ∧ k ≠ Z) es' v7z) ∧ Hid (ab wx (fun k => k < wx.heap.size ∧ k ≠ Z) els' v8z) ∧ Hid (els'.Sublist els))
 case first =>
  by_cases hn0 : n8 = 0
  ·subst hn0
   go_wp2_with fail
   go_meet
   case rel => exact ⟨els, _, HB13, HZ13, HV13, J (apartV HS8.out (HOL.out _ HB13.out) (by have := HWW.out; omega)), J (List.Sublist.refl _)⟩
  have hn0i : (0 : Int) < (n8 : Int) := by omega
  obtain ⟨a0, a1, a2, a3, a4, a5, a6, a7, a8, a9, a10, a11⟩ := HAL.out _ HB13.out
  go_upto_region 16 with fail
  clear a0 a1 a2 a3 a4 a5 a6 a7 a8 a9 a10 a11
  obtain ⟨k, hk⟩ : ∃ k, k0 % n8 = k := ⟨_, rfl⟩
  have hkn : k < n8 := by rw [← hk]; exact Nat.mod_lt _ (by omega)
  have hki : (k0 : Int) % (n8 : Int) = (k : Int) := by omega
  simp only [hki]
  clear hki
  go_cut [] from 71 to 89 (fun wx => ∃ A6 n6 c6, Hid (Below w0.heap.size w0 wx) ∧ Hid (wx.heap[Z]? = some (.cells #[v1, v2, v3, v4, v5, v6, v7z, .bool hs, .int .u32 sti, .slice A6 n6 c6, v9, v10] 33 (0, 0))) ∧ Hid (ab wx (fun k => k < wx.heap.size ∧ k ≠ Z) (els.take k ++ els.drop (k + 1)) (.slice A6 n6 c6)) ∧ Hid (ab wx (fun k => k < wx.heap.size ∧ k ≠ Z) es' v7z))
  case first =>
   as_aux_lemma =>
    obtain ⟨x0, hx0⟩ : ∃ x, els[0]? = some x := ⟨_, List.getElem?_eq_getElem (by have := HN8.out; omega)⟩
    obtain ⟨g8, o8, cs8, rfl, _⟩ := HL8.out 0 x0 hx0
    clear hx0
    have hkc : k ≤ c8 := by omega
    have hkci : (k : Int) ≤ (c8 : Int) := by omega
    have hk1 : k + 1 ≤ n8 := by omega
    have hk1i : (k : Int) + 1 ≤ (n8 : Int) := by omega
    have hk1c : (k : Int) + 1 ≤ (c8 : Int) := by omega
    have hk0 : 0 ≤ (k : Int) + 1 := by omega
    have hkx : (k : Int) ≤ (k : Int) + 1 := by omega
    have hkt : ((k : Int) + 1).toNat = k + 1 := by omega
    have hwr : IntKind.i64.wrap ((k : Int) + 1) = (k : Int) + 1 := IntWalk.i64_in _ ⟨by omega, by omega⟩
    by_cases hck : c8 = k + 1
    ·obtain rfl : n8 = k + 1 := by omega
     subst hck
     have HPR : Hid (HasL w (· < w.heap.size) (some ⟨g8, o8, none⟩) (els.take k)) := J (ca HL8.out k)
     have HSU : Hid (HasL w (· < w.heap.size) (some ⟨g8, o8, none⟩) (els.drop (k + 1))) := J ((by rw [List.drop_eq_nil_of_le (by have := HN8.out; omega)]; exact HasL.nil _ _ _))
     have HLP : Hid (k = (els.take k).length ∧ 0 = (els.drop (k + 1)).length) := J ⟨by rw [List.length_take]; have := HN8.out; omega, by rw [List.length_drop]; have := HN8.out; omega⟩
     have HS0 : Hid (wq.drew.cell? ⟨X, 9, none⟩ = some (.slice (some ⟨g8, o8, none⟩) (k + 1) (k + 1))) := J (HA9.out wq HB13.out)
     refine wp_region_held_drew (S := fun W' => W'.cell? ⟨X, 9, none⟩ = some (.slice (some ⟨g8, o8, none⟩) (k + 1) (k + 1))) (by kernel_rfl) (HS0.out) (fun hHeld => ?_)
     refine dv 1 rfl ?_
     refine dv 2 rfl ?_
     refine dv 3 rfl ?_
     refine dv 4 rfl ?_
     refine dv 6 rfl ?_
     refine dv 7 rfl ?_
     refine dv 8 rfl ?_
     refine dv 9 rfl ?_
     refine dv 10 rfl ?_
     have hbE : Below wq.heap.size wq (wq.drew.alloc (.cells #[] 59)) := (Below.drew (Below.refl _ _)).alloc (Nat.le_refl _) _
     have hmE := az.lit0 (α := El) 59 wq.drew wq.heap.size w.heap.size (Nat.le_refl _) (by have := HWW.out; have := HB13.out.size; show w.heap.size ≤ wq.heap.size; omega)
     have hszE : (wq.drew.alloc (.cells #[] 59)).heap.size = wq.heap.size + 1 := by simp
     have hbW := HOL.out _ (HB13.out.trans (hbE.mono HB13.out.size))
     obtain ⟨A5, c5, w5, A6, c6, w6, hr5, hr6, hm6, hb5, hb6⟩ := bE (n1 := k) (n2 := 0) (c1 := (k + 1)) (c2 := 0) undEl infEl (by decide) rfl (by decide) hmE (by rw [hszE]; omega) (by have := HWW.out; have := HB13.out.size; omega) (aP HPR.out hbW rfl) (aP HSU.out hbW rfl) HLP.out.1 HLP.out.2 (by omega)
     have HSE : Hid ((wq.drew.alloc (.cells #[] 59)).cell? ⟨X, 9, none⟩ = some (.slice (some ⟨g8, o8, none⟩) (k + 1) (k + 1))) := J (HA9.out _ (HB13.out.trans (hbE.mono HB13.out.size)))
     have HB5 := J (HB13.out.trans ((hbE.trans hb5).mono HB13.out.size))
     have HB6 := J (HB13.out.trans ((hbE.trans hb6).mono HB13.out.size))
     have HBW6 := J (hbE.trans hb6)
     have HR5 := J hr5
     have HR6 := J hr6
     have HM6 := J hm6
     clear hbE hmE hszE hbW hr5 hr6 hm6 hb5 hb6
     refine aa 0 rfl (by kernel_rfl) (fun K hK => ?_)
     try (rw [if_pos]; case hc => rfl)
     go_simp
     refine hK.out _ _ (HSE.out) (fun hHeld2 => ?_)
     clear hK K hHeld
     have hHeld := hHeld2
     clear hHeld2
     refine aa 5 rfl (by kernel_rfl) (fun K hK => ?_)
     rw [if_pos]
     case hc => rfl
     refine ai (.tmp 77) (.tmp 81) 29 rfl _ _ _ _ rfl rfl HR5.out ?_
     refine hK.out _ _ (HA9.out _ HB5.out) (fun hHeld2 => ?_)
     clear hK K hHeld
     have hHeld := hHeld2
     clear hHeld2
     try simp only [Act.put, O]
     refine aa 11 rfl (by kernel_rfl) (fun K hK => ?_)
     rw [if_pos]
     case hc => rfl
     refine ai (.tmp 82) (.tmp 87) 29 rfl _ _ _ _ rfl rfl HR6.out ?_
     refine hK.out _ _ (HA9.out _ HB6.out) (fun hHeld2 => ?_)
     clear hK K hHeld
     have hHeld := hHeld2
     clear hHeld2
     try simp only [Act.put, O]
     have HZ6 : Hid (w6.heap[Z]? = some (.cells #[v1, v2, v3, v4, v5, v6, v7z, .bool hs, .int .u32 sti, .slice (some ⟨g8, o8, none⟩) (k + 1) (k + 1), v9, v10] 33 (0, 0))) := J ((HBW6.out.block Z (by have := HWW.out; have := HWQL.out; omega)).trans HZ13.out)
     have HM7 : Hid (Mod (· = Z) w6 (w6.setCell ⟨Z, 9, none⟩ (.slice A6 (k + 0) c6))) := J (Mod.setCell (T := (· = Z)) (Mod.refl _ w6) (fun _ => rfl) _)
     have HB7 : Hid (Below w0.heap.size w0 (w6.setCell ⟨Z, 9, none⟩ (.slice A6 (k + 0) c6))) := J (HB6.out.trans (HM7.out.below HB6.out.size (fun j hj e => by have := HWW.out; omega)))
     have HZ7 : Hid ((w6.setCell ⟨Z, 9, none⟩ (.slice A6 (k + 0) c6)).heap[Z]? = some (.cells #[v1, v2, v3, v4, v5, v6, v7z, .bool hs, .int .u32 sti, .slice A6 (k + 0) c6, v9, v10] 33 (0, 0))) := J (by rw [heap_setCell_same w6 Z 9 _ _ _ HZ6.out]; rfl)
     have HV7 := J (aL (HM6.out.sliceN (Z := Z) (by have := HWW.out; omega) HWQL.out (by have := HB6.out.size; have := HWW.out; omega)) HM7.out)
     have HVK7 := J (aL (cU HV13.out HBW6.out) HM7.out)
     have HC7 : Hid (w6.cell? ⟨Z, 9, none⟩ = some (.slice (some ⟨g8, o8, none⟩) (k + 1) (k + 1))) := J (by rw [cell_of_row w6 Z 9 _ _ (0, 0) HZ6.out]; rfl)
     have HF7 : Hid (w6.frozen? ⟨Z, 9, none⟩ = false) := J (frozen_of_row w6 Z 9 _ _ HZ6.out)
     refine dv 12 rfl ?_
     refine aa 13 rfl (by kernel_rfl) (fun K hK => ?_)
     have hl := HC7.out
     have gl := HF7.out
     try (rw [if_pos]; case hc => rfl)
     go_simp
     clear hl gl
     refine hK.out _ _ (HA9.out _ HB7.out) (fun hHeld2 => ?_)
     clear hK K hHeld
     have hHeld := hHeld2
     clear hHeld2
     refine wpAnyH_done (by kernel_rfl) ?_ _
     go_wp2_with fail
     go_meet
     case rel => exact ⟨A6, k + 0, c6, HB7, HZ7, HV7, HVK7⟩
    ·have hck2 : ¬ (c8 - (k + 1) = 0) := by omega
     have HPR : Hid (HasL w (· < w.heap.size) (some ⟨g8, o8, none⟩) (els.take k)) := J (ca HL8.out k)
     have HSU : Hid (HasL w (· < w.heap.size) (some ⟨g8, o8 + (k + 1) * 3, none⟩) (els.drop (k + 1))) := J (dY HL8.out (k + 1))
     have HLP : Hid (k = (els.take k).length ∧ (n8 - (k + 1)) = (els.drop (k + 1)).length) := J ⟨by rw [List.length_take]; have := HN8.out; omega, by rw [List.length_drop]; have := HN8.out; omega⟩
     have HS0 : Hid (wq.drew.cell? ⟨X, 9, none⟩ = some (.slice (some ⟨g8, o8, none⟩) n8 c8)) := J (HA9.out wq HB13.out)
     refine wp_region_held_drew (S := fun W' => W'.cell? ⟨X, 9, none⟩ = some (.slice (some ⟨g8, o8, none⟩) n8 c8)) (by kernel_rfl) (HS0.out) (fun hHeld => ?_)
     refine dv 1 rfl ?_
     refine dv 2 rfl ?_
     refine dv 3 rfl ?_
     refine dv 4 rfl ?_
     refine dv 6 rfl ?_
     refine dv 7 rfl ?_
     refine dv 8 rfl ?_
     refine dv 9 rfl ?_
     refine dv 10 rfl ?_
     have hbE : Below wq.heap.size wq (wq.drew.alloc (.cells #[] 59)) := (Below.drew (Below.refl _ _)).alloc (Nat.le_refl _) _
     have hmE := az.lit0 (α := El) 59 wq.drew wq.heap.size w.heap.size (Nat.le_refl _) (by have := HWW.out; have := HB13.out.size; show w.heap.size ≤ wq.heap.size; omega)
     have hszE : (wq.drew.alloc (.cells #[] 59)).heap.size = wq.heap.size + 1 := by simp
     have hbW := HOL.out _ (HB13.out.trans (hbE.mono HB13.out.size))
     obtain ⟨A5, c5, w5, A6, c6, w6, hr5, hr6, hm6, hb5, hb6⟩ := bE (n1 := k) (n2 := (n8 - (k + 1))) (c1 := c8) (c2 := (c8 - (k + 1))) undEl infEl (by decide) rfl (by decide) hmE (by rw [hszE]; omega) (by have := HWW.out; have := HB13.out.size; omega) (aP HPR.out hbW rfl) (aP HSU.out hbW rfl) HLP.out.1 HLP.out.2 (by omega)
     have HSE : Hid ((wq.drew.alloc (.cells #[] 59)).cell? ⟨X, 9, none⟩ = some (.slice (some ⟨g8, o8, none⟩) n8 c8)) := J (HA9.out _ (HB13.out.trans (hbE.mono HB13.out.size)))
     have HB5 := J (HB13.out.trans ((hbE.trans hb5).mono HB13.out.size))
     have HB6 := J (HB13.out.trans ((hbE.trans hb6).mono HB13.out.size))
     have HBW6 := J (hbE.trans hb6)
     have HR5 := J hr5
     have HR6 := J hr6
     have HM6 := J hm6
     clear hbE hmE hszE hbW hr5 hr6 hm6 hb5 hb6
     refine aa 0 rfl (by kernel_rfl) (fun K hK => ?_)
     try (rw [if_pos]; case hc => rfl)
     go_simp
     refine hK.out _ _ (HSE.out) (fun hHeld2 => ?_)
     clear hK K hHeld
     have hHeld := hHeld2
     clear hHeld2
     refine aa 5 rfl (by kernel_rfl) (fun K hK => ?_)
     rw [if_pos]
     case hc => rfl
     refine ai (.tmp 77) (.tmp 81) 29 rfl _ _ _ _ rfl rfl HR5.out ?_
     refine hK.out _ _ (HA9.out _ HB5.out) (fun hHeld2 => ?_)
     clear hK K hHeld
     have hHeld := hHeld2
     clear hHeld2
     try simp only [Act.put, O]
     refine aa 11 rfl (by kernel_rfl) (fun K hK => ?_)
     rw [if_pos]
     case hc => rfl
     refine ai (.tmp 82) (.tmp 87) 29 rfl _ _ _ _ rfl rfl HR6.out ?_
     refine hK.out _ _ (HA9.out _ HB6.out) (fun hHeld2 => ?_)
     clear hK K hHeld
     have hHeld := hHeld2
     clear hHeld2
     try simp only [Act.put, O]
     have HZ6 : Hid (w6.heap[Z]? = some (.cells #[v1, v2, v3, v4, v5, v6, v7z, .bool hs, .int .u32 sti, .slice (some ⟨g8, o8, none⟩) n8 c8, v9, v10] 33 (0, 0))) := J ((HBW6.out.block Z (by have := HWW.out; have := HWQL.out; omega)).trans HZ13.out)
     have HM7 : Hid (Mod (· = Z) w6 (w6.setCell ⟨Z, 9, none⟩ (.slice A6 (k + (n8 - (k + 1))) c6))) := J (Mod.setCell (T := (· = Z)) (Mod.refl _ w6) (fun _ => rfl) _)
     have HB7 : Hid (Below w0.heap.size w0 (w6.setCell ⟨Z, 9, none⟩ (.slice A6 (k + (n8 - (k + 1))) c6))) := J (HB6.out.trans (HM7.out.below HB6.out.size (fun j hj e => by have := HWW.out; omega)))
     have HZ7 : Hid ((w6.setCell ⟨Z, 9, none⟩ (.slice A6 (k + (n8 - (k + 1))) c6)).heap[Z]? = some (.cells #[v1, v2, v3, v4, v5, v6, v7z, .bool hs, .int .u32 sti, .slice A6 (k + (n8 - (k + 1))) c6, v9, v10] 33 (0, 0))) := J (by rw [heap_setCell_same w6 Z 9 _ _ _ HZ6.out]; rfl)
     have HV7 := J (aL (HM6.out.sliceN (Z := Z) (by have := HWW.out; omega) HWQL.out (by have := HB6.out.size; have := HWW.out; omega)) HM7.out)
     have HVK7 := J (aL (cU HV13.out HBW6.out) HM7.out)
     have HC7 : Hid (w6.cell? ⟨Z, 9, none⟩ = some (.slice (some ⟨g8, o8, none⟩) n8 c8)) := J (by rw [cell_of_row w6 Z 9 _ _ (0, 0) HZ6.out]; rfl)
     have HF7 : Hid (w6.frozen? ⟨Z, 9, none⟩ = false) := J (frozen_of_row w6 Z 9 _ _ HZ6.out)
     refine dv 12 rfl ?_
     refine aa 13 rfl (by kernel_rfl) (fun K hK => ?_)
     have hl := HC7.out
     have gl := HF7.out
     try (rw [if_pos]; case hc => rfl)
     go_simp
     clear hl gl
     refine hK.out _ _ (HA9.out _ HB7.out) (fun hHeld2 => ?_)
     clear hK K hHeld
     have hHeld := hHeld2
     clear hHeld2
     refine wpAnyH_done (by kernel_rfl) ?_ _
     go_wp2_with fail
     go_meet
     case rel => exact ⟨A6, k + (n8 - (k + 1)), c6, HB7, HZ7, HV7, HVK7⟩
  case rest =>
  obtain ⟨A6, n6, c6, HB7, HZ7, HV7, HVK7⟩ := hcut
  go_wp2_with fail
  go_meet
  case rel => exact ⟨_, _, HB7, HZ7, HVK7, HV7, J (sub_cut els k)⟩
 case rest =>
 obtain ⟨els', v8z, HB14, HZ14, HV14, HE14, HSE⟩ := hcut
 obtain ⟨wr, rfl⟩ : ∃ q, q = wc := ⟨wc, rfl⟩
 clear HB13 HZ13 HV13 HWQL
 have h0 := HZ14.out
 obtain ⟨z0, z1, z2, z3, z4, z5, z6, z7, z8, z9, z10, z11⟩ := cells12 h0 (Below.refl _ _)
 have f11 := frozen_of_row wr Z 11 _ _ h0
 have h1 := heap_setCell_same wr Z 11 _ _ (.slice none 0 0) h0
 simp only [List.setIfInBounds_toArray, List.set_cons_zero, List.set_cons_succ] at h1
 have f7 := frozen_of_row _ Z 7 _ _ h1
 have k7 : (wr.setCell ⟨Z, 11, none⟩ (.slice none 0 0)).cell? ⟨Z, 7, none⟩ = some (.bool hs) := by rw [cell_of_row _ Z 7 _ _ (0, 0) h1]; rfl
 have h2 := heap_setCell_same _ Z 7 _ _ (.bool false) h1
 simp only [List.setIfInBounds_toArray, List.set_cons_zero, List.set_cons_succ] at h2
 have f8 := frozen_of_row _ Z 8 _ _ h2
 have k8 : ((wr.setCell ⟨Z, 11, none⟩ (.slice none 0 0)).setCell ⟨Z, 7, none⟩ (.bool false)).cell? ⟨Z, 8, none⟩ = some (.int .u32 sti) := by rw [cell_of_row _ Z 8 _ _ (0, 0) h2]; rfl
 have h3 := heap_setCell_same _ Z 8 _ _ (.int .u32 0) h2
 simp only [List.setIfInBounds_toArray, List.set_cons_zero, List.set_cons_succ] at h3
 have HZ15 := J h3
 have HM1 : Hid (Mod (· = Z) wr (((wr.setCell ⟨Z, 11, none⟩ (.slice none 0 0)).setCell ⟨Z, 7, none⟩ (.bool false)).setCell ⟨Z, 8, none⟩ (.int .u32 0))) := J (Mod.setCell (T := (· = Z)) (Mod.setCell (T := (· = Z)) (Mod.setCell (T := (· = Z)) (Mod.refl _ wr) (fun _ => rfl) _) (fun _ => rfl) _) (fun _ => rfl) _)
 clear h0 h1 h2 h3
 go_upto_region 18 with fail
 clear z0 z1 z2 z3 z4 z5 z6 z7 z8 z9 z10 z11 f11 f7 k7 f8 k8
 generalize ((wr.setCell ⟨Z, 11, none⟩ (.slice none 0 0)).setCell ⟨Z, 7, none⟩ (.bool false)).setCell ⟨Z, 8, none⟩ (.int .u32 0) = wl at HZ15 HM1 ⊢
 have HB15 : Hid (Below w0.heap.size w0 wl) := J (HB14.out.trans (HM1.out.below HB14.out.size (fun j hj e => by have := HWW.out; have e' : j = Z := e; omega)))
 have HV15 := J ((aL HV14.out HM1.out).more (S' := (· < wl.heap.size)) (fun _ hk _ => hk))
 have HE15 := J ((aL HE14.out HM1.out).more (S' := (· < wl.heap.size)) (fun _ hk _ => hk))
 have HCL : Hid (Calls Tryz.prog 6 #[.agg #[v1, v2, v3, v4, v5, v6, v7z, .bool false, .int .u32 0, v8z, v9, .slice none 0 0]] wl fun e w' => ∃ A c, e = .returned (.tuple #[.slice A nh c, .int .i64 0]) ∧ Below wl.heap.size wl w') := J (by
  have hr := HM.out.grow (HOL.out wl HB15.out)
  have he : es'.Sublist m.exports := by rw [HES.out]; exact HSU.out
  have hl : els'.Sublist m.elems := by rw [HEL.out]; exact HSE.out
  have hg := Va.Good.less HGD.out he hl
  have h := HVO.out { m with exports := es', elems := els', datas := [], hasStart := false, start := 0 } v1 v2 v3 v4 v5 v6 v7z v8z v9 (.slice none 0 0) wl ⟨hr.types, hr.imports, hr.funcs, hr.tables, hr.mems, hr.globals, HV15.out, by show (0 : Nat) < 4294967296; omega, HE15.out, hr.codes, ab.nil _ _⟩ (fitV_less HF.out he hl)
  refine h.mono ?_
  intro e w' hp
  obtain ⟨A, k, c, h1, h2, _, h4⟩ := cG hp
  rw [Va.check_ok.2 hg] at h1 h2
  have hn := HNH.out
  rw [Va.check_ok.2 HGD.out] at hn
  rw [hn] at h2
  subst h2
  exact ⟨A, c, h1, h4⟩)
 obtain ⟨z0, z1, z2, z3, z4, z5, z6, z7, z8, z9, z10, z11⟩ := cells12 HZ15.out (Below.refl _ _)
 go_wp2_with (go_at_call 6; refine HCL.out.mono ?_; rintro e w16 ⟨A, c, rfl, hb⟩; have HB16 := J (HB15.out.trans (hb.mono HB15.out.size)); clear hb)
 go_ret
 exact ⟨rfl, HOL.out _ HB16.out⟩
end Go.Proofs.YtelcdmkbaegjoaaGreat
