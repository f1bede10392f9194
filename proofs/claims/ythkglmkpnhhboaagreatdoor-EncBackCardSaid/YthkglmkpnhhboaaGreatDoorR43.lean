/-
  Decode of layer 6 is the plain dec: DecOk.
-/
import Derived.Test.YthkglmkpnhhboaaGreatDoorR01
import Derived.Test.YthkglmkpnhhboaaGreatDoorR41
import Derived.Test.YthkglmkpnhhboaaGreatDoorR27
set_option maxRecDepth 100000
set_option maxHeartbeats 4000000
namespace Go.Proofs.YthkglmkpnhhboaaGreatDoor
open Go.RowKit Ins Bin
theorem bO {P : Program} {fn : Func} {p r : Tmp} {ty : TypeId} (h : fn.results = #[.cell p ty, .tmp r]) (tmps : Array Value) (w : World) (g : Nat) (t : TypeId) (cs : Array Value) (fr : Nat × Nat) (d : TypeDesc)
  (hp : tmps.getD p undef = .pointer (some ⟨g, 0, none⟩)) (hg : w.heap[g]? = some (.cells cs t fr)) (hu : P.underlying ty = some d) (hd : aggI d = true) (hi : (P.info? ty).map (·.size) = some cs.size)
  (y : Value) (hr : tmps.getD r undef = y) :
  (results fn tmps).run P w = .ok (.tuple #[.agg cs, y]) w := by
 have hp' : tmps[p]?.getD undef = .pointer (some ⟨g, 0, none⟩) := by simpa using hp
 have hr' : tmps[r]?.getD undef = y := by simpa using hr
 simp [results, h, hp', hr', asAddr, run_loadVar_row w g t ty cs fr d hg hu (by cases d <;> first | rfl | cases hd) hi]
theorem im {w : World} {S : Nat → Prop} {m : M} {v : Value} (h : ModV w S m v) : ∃ v1 v2 v3 v4 v5 v6 v7 v8 v9 v10, v = .agg (modCells m v1 v2 v3 v4 v5 v6 v7 v8 v9 v10) ∧ (modCells m v1 v2 v3 v4 v5 v6 v7 v8 v9 v10).all (·.oneCell') = true ∧ RepM w S m v1 v2 v3 v4 v5 v6 v7 v8 v9 v10 := by
 obtain ⟨v1, v2, v3, v4, v5, v6, v7, v8, v9, v10, rfl, h⟩ := h
 refine ⟨v1, v2, v3, v4, v5, v6, v7, v8, v9, v10, rfl, ?_, h⟩
 obtain ⟨_, _, rfl, _⟩ := h.types
 obtain ⟨_, _, rfl, _⟩ := h.imports
 obtain ⟨_, _, rfl, _⟩ := h.funcs
 obtain ⟨_, _, rfl, _⟩ := h.tables
 obtain ⟨_, _, rfl, _⟩ := h.mems
 obtain ⟨_, _, rfl, _⟩ := h.globals
 obtain ⟨_, _, rfl, _⟩ := h.exports
 obtain ⟨_, _, rfl, _⟩ := h.elems
 obtain ⟨_, _, rfl, _⟩ := h.codes
 obtain ⟨_, _, rfl, _⟩ := h.datas
 simp [modCells, Value.oneCell']
theorem dec_ok_any : DecOk := by
 intro A l n c w hA hn hsz hc hcm hAc hT
 obtain ⟨D, hu, hd⟩ := desOf desM
 have HU := Y hu
 have HD := Y hd
 clear hu hd
 have HM0 : Hid ((w.alloc (.cells zeroM 33)).heap[w.heap.size]? = some (.cells zeroM 33 (0, 0))) := Y (heap_alloc_new w _)
 have hb0 : Below w.heap.size w (w.alloc (.cells zeroM 33)) := (Below.refl _ _).alloc (Nat.le_refl _) _
 have HB0 := Y hb0
 have hone0 : zeroM.all (·.oneCell') = true := by simp [zeroM, Value.oneCell']
 have HONE0 := Y hone0
 clear hone0
 by_cases hlong : 65536 < n
 ·have HE : Hid (dec l = .error 3) := Y (dec_long (by omega))
  have hd : (65536 : Int) < (n : Int) := by omega
  clear hA hn hT hlong hb0
  go_enter Tryz.func10, Tryz.ntmps10
  go_wp2_with (refine ac rfl 33 (.tmp 2) (.tmp 9) rfl rfl w.heap.size zeroM rfl rfl 33 zeroM HM0.out sizM rfl HONE0.out ?_)
  refine bodyPost_ret (v := .tuple #[.agg zeroM, .int .i64 3]) (bO (p := 2) (r := 3) (ty := 33) (by kernel_rfl) _ _ w.heap.size 33 zeroM (0, 0) D rfl (setRow_heap _ _ zeroM _ _ _ HM0.out) HU.out HD.out sizM _ rfl) rfl ?_
  refine ⟨HB0.out.trans ((O (T := (· = w.heap.size)) (Mod.refl _ _) (fun _ => rfl) zeroM).below (by simp) (fun k hk e => by omega)), ?_⟩
  rw [HE.out]
  exact ⟨_, rfl, cJ _ _⟩
 ·have hd : decide ((65536 : Int) < (n : Int)) = false := decide_eq_false (by omega)
  have hA1 := hA.on hb0
  have hT1 := hT.on hb0
  cases hs : Sec.split l with
  | none =>
   have HE : Hid (dec l = .error 60) := Y (dec_none (by omega) hs)
   have HC := Y (split_ok.none hA1 hn hsz hc hcm hAc hT1 hs)
   clear hA hn hT hlong hb0 hA1 hT1 hs
   go_enter Tryz.func10, Tryz.ntmps10
   go_wp2_with (first | (go_at_call 12; refine HC.out.mono ?_; rintro e w1 ⟨A1, c1, rfl, hb⟩; have HB1 := Y hb; have HM1 := Y ((hb.block w.heap.size (by simp)).trans HM0.out); clear hb) | (refine ac rfl 33 (.tmp 2) (.tmp 17) rfl rfl w.heap.size zeroM rfl rfl 33 zeroM HM1.out sizM rfl HONE0.out ?_))
   refine bodyPost_ret (v := .tuple #[.agg zeroM, .int .i64 60]) (bO (p := 2) (r := 3) (ty := 33) (by kernel_rfl) _ _ w.heap.size 33 zeroM (0, 0) D rfl (setRow_heap _ _ zeroM _ _ _ HM1.out) HU.out HD.out sizM _ rfl) rfl ?_
   have hb1 := HB0.out.trans (HB1.out.mono (by simp))
   refine ⟨hb1.trans ((O (T := (· = w.heap.size)) (Mod.refl _ _) (fun _ => rfl) zeroM).below hb1.size (fun k hk e => by omega)), ?_⟩
   rw [HE.out]
   exact ⟨_, rfl, cJ _ _⟩
  | some xs =>
   have HE := Y (dec_some (by omega) hs)
   have HC := Y (split_ok.some hA1 hn hsz hc hcm hAc hT1 hs)
   have hpart := split_part hs
   have HP : Hid (∀ s ∈ xs, 1 ≤ s.id ∧ s.id ≤ 11 ∧ s.b.length ≤ 65536) := Y (fun s hm => by have := hpart s hm; omega)
   have hxl : xs.length ≤ 140737488355328 := by
    have h1 := (Sec.split_back hs).2.2.1
    have h2 : xs.length ≤ (Sec.encAll xs).length := by
     clear h1 HP hpart HC HE hs
     induction xs with
     | nil => simp
     | cons x xs ih => simp only [Sec.encAll, List.flatMap_cons, List.length_append, List.length_cons] at ih ⊢; have := enc_len x; omega
    simp only [Sec.join, List.length_append] at h1
    omega
   have HXL := Y hxl
   have HT1 := Y hT1
   clear hA hn hT hlong hb0 hA1 hT1 hs hpart hxl
   obtain ⟨q, hq⟩ : ∃ q, xs.length = q := ⟨_, rfl⟩
   have HQ := Y hq
   rw [hq] at HC
   clear hq
   cases hdec : decS xs with
   | error k =>
    have HDE := Y hdec
    clear hdec
    go_enter Tryz.func10, Tryz.ntmps10
    go_wp2_with (first | (go_at_call 12; refine HC.out.mono ?_; rintro e w1 ⟨A1, c1, rfl, _, _, hx, hb⟩; have HB1 := Y hb; have HM1 := Y ((hb.block w.heap.size (by simp)).trans HM0.out); have HC2 := Y (gG A1 xs q c1 w1 hx HQ.out.symm (HT1.out.on hb) HP.out (by have := HXL.out; have := HQ.out; omega)); clear hb hx) | (go_at_call 20; refine HC2.out.mono ?_; rintro e w2 ⟨hb, hp⟩; rw [HDE.out] at hp; obtain ⟨v, rfl, hv⟩ := hp; obtain ⟨v1, v2, v3, v4, v5, v6, v7, v8, v9, v10, rfl, hone, hrep⟩ := im hv; have HREP := Y hrep; have HONE := Y hone; have HB2 := Y hb; have HM2 := Y ((hb.block w.heap.size (by have := HB1.out.size; simp at this; omega)).trans HM1.out); clear hb hv hrep hone) | (refine ac rfl 33 (.tmp 2) (.tmp 21) rfl rfl w.heap.size _ rfl rfl 33 zeroM HM2.out sizM rfl HONE.out ?_))
    refine bodyPost_ret (v := .tuple #[.agg (modCells M.zero v1 v2 v3 v4 v5 v6 v7 v8 v9 v10), .int .i64 (k : Int)]) (bO (p := 2) (r := 3) (ty := 33) (by kernel_rfl) _ _ w.heap.size 33 (modCells M.zero v1 v2 v3 v4 v5 v6 v7 v8 v9 v10) (0, 0) D rfl (setRow_heap _ _ zeroM _ _ _ HM2.out) HU.out HD.out sizM _ rfl) rfl ?_
    have hb1 := HB0.out.trans (HB1.out.mono (by simp))
    have hb2 := hb1.trans (HB2.out.mono hb1.size)
    have hms := O (T := (· = w.heap.size)) (Mod.refl _ w2) (fun _ => rfl) (modCells M.zero v1 v2 v3 v4 v5 v6 v7 v8 v9 v10)
    refine ⟨hb2.trans (hms.below hb2.size (fun k hk e => by omega)), ?_⟩
    rw [HE.out, HDE.out]
    have hs1 := HB1.out.size
    rw [World.size_alloc] at hs1
    exact ⟨_, rfl, ⟨_, _, _, _, _, _, _, _, _, _, rfl, (HREP.out.mod hms (fun g _ hg e => by omega)).more (fun g _ hg => by omega)⟩⟩
   | ok m =>
    have HDE := Y hdec
    clear hdec
    go_enter Tryz.func10, Tryz.ntmps10
    go_wp2_with (first | (go_at_call 12; refine HC.out.mono ?_; rintro e w1 ⟨A1, c1, rfl, _, _, hx, hb⟩; have HB1 := Y hb; have HM1 := Y ((hb.block w.heap.size (by simp)).trans HM0.out); have HC2 := Y (gG A1 xs q c1 w1 hx HQ.out.symm (HT1.out.on hb) HP.out (by have := HXL.out; have := HQ.out; omega)); clear hb hx) | (go_at_call 20; refine HC2.out.mono ?_; rintro e w2 ⟨hb, hp⟩; rw [HDE.out] at hp; obtain ⟨v, rfl, hv⟩ := hp; obtain ⟨v1, v2, v3, v4, v5, v6, v7, v8, v9, v10, rfl, hone, hrep⟩ := im hv; have HREP := Y hrep; have HONE := Y hone; have HB2 := Y hb; have HM2 := Y ((hb.block w.heap.size (by have := HB1.out.size; simp at this; omega)).trans HM1.out); clear hb hv hrep hone) | (refine ac rfl 33 (.tmp 2) (.tmp 21) rfl rfl w.heap.size _ rfl rfl 33 zeroM HM2.out sizM rfl HONE.out ?_))
    refine bodyPost_ret (v := .tuple #[.agg (modCells m v1 v2 v3 v4 v5 v6 v7 v8 v9 v10), .int .i64 0]) (bO (p := 2) (r := 3) (ty := 33) (by kernel_rfl) _ _ w.heap.size 33 (modCells m v1 v2 v3 v4 v5 v6 v7 v8 v9 v10) (0, 0) D rfl (setRow_heap _ _ zeroM _ _ _ HM2.out) HU.out HD.out sizM _ rfl) rfl ?_
    have hb1 := HB0.out.trans (HB1.out.mono (by simp))
    have hb2 := hb1.trans (HB2.out.mono hb1.size)
    have hms := O (T := (· = w.heap.size)) (Mod.refl _ w2) (fun _ => rfl) (modCells m v1 v2 v3 v4 v5 v6 v7 v8 v9 v10)
    refine ⟨hb2.trans (hms.below hb2.size (fun k hk e => by omega)), ?_⟩
    rw [HE.out, HDE.out]
    have hs1 := HB1.out.size
    rw [World.size_alloc] at hs1
    exact ⟨_, rfl, ⟨_, _, _, _, _, _, _, _, _, _, rfl, (HREP.out.mod hms (fun g _ hg e => by omega)).more (fun g _ hg => by omega)⟩⟩
end Go.Proofs.YthkglmkpnhhboaaGreatDoor
