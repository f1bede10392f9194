/-
  blocks.pass: which blocks are open behind an instruction, in a variable known whole and a row of the call's own.
-/
import Derived.Test.YthkglmkpnhhboaaGreatDoorR01
import Derived.Test.YthkglmkpnhhboaaGreatDoorR11
import Derived.Test.YthkglmkpnhhboaaGreatDoorR02
import Derived.OwnWalk
import Derived.Test.YthkglmkpnhhboaaGreatDoorR18
import Derived.Deep.LoopGhost
import Derived.Deep.Cut
import Derived.Test.YthkglmkpnhhboaaGreatDoorR06
import Derived.Test.YthkglmkpnhhboaaGreatDoorR04
set_option maxRecDepth 100000
set_option maxHeartbeats 4000000
namespace Go.Proofs.YthkglmkpnhhboaaGreatDoor
open Go.RowKit Ins
def bools (l : List Bool) : List Value := l.map Value.bool
theorem bg (l : List Bool) : (bools l).length = l.length := by simp [bools]
theorem dZ (a b : List Bool) : bools (a ++ b) = bools a ++ bools b := by simp [bools]
theorem gP (l : List Bool) : ∀ u ∈ bools l, u.oneCell' = true := by
 intro u hu
 simp only [bools, List.mem_map] at hu
 obtain ⟨x, _, rfl⟩ := hu
 rfl
theorem und57 : Tryz.prog.underlying 230 = some (.slice 4) := by kernel_rfl
theorem info4 : (Tryz.prog.info? 4).map (fun i => (i.zero, i.size, i.bytes)) = some (some (.bool false), 1, 1) := by kernel_rfl
def bm (w : World) (K base : Nat) (o : List Bool) (own : Option Nat) : Prop :=
 ∃ v m, w.heap[K]? = some (.cells #[v] 230 (0, 0)) ∧ w.ownsRow base 4 1 v m (bools o) ∧ own = v.ownBlock ∧ own ≠ some K
def br (K base : Nat) (o : List Bool) (own : Option Nat) (op : Nat) (w : World) (e : Ending) (w' : World) : Prop :=
 (e = .returned (.bool (Ins.step o op).isSome)) ∧ Mod (fun g => g = K ∨ own = some g) w w' ∧
  ∀ o', Ins.step o op = some o' → ∃ own', bm w' K base o' own' ∧ ∀ g, own' = some g → own = some g ∨ w.heap.size ≤ g
theorem append1b (w : World) (base n : Nat) (v : Value) (l : List Bool) (x : Bool) (hown : w.ownsRow base 4 1 v n (bools l)) (hsz : n + 1 ≤ 140737488355328) (hb : base ≤ w.heap.size) :
  ∃ v' w', (Builtin.append_ #[230, 230] 230 #[v, .slice (some ⟨w.heap.size, 0, none⟩) 1 1]).run Tryz.prog (w.alloc (.cells #[.bool x] 4)) = .ok v' w' ∧ w'.ownsRow base 4 1 v' (n + 1) (bools (l ++ [x])) ∧ Mod (fun g => v.ownBlock = some g) w w' ∧ ∀ g, v'.ownBlock = some g → v.ownBlock = some g ∨ w.heap.size ≤ g := by
 obtain ⟨i0, hi, hz0, hz1, hz2⟩ := info_parts info4
 have hown1 := hown.alloc (.cells #[.bool x] 4)
 obtain ⟨v', w', hrun, h2, h3, _⟩ := run_append_own (P := Tryz.prog) (w.alloc (.cells #[.bool x] 4)) base 230 230 4 i0 (.bool false) 1 1 und57 hi hz0 hz1 hz2 rfl (by decide) v n (bools l) hown1 ⟨w.heap.size, 0, none⟩ 1 1 (bools [x]) rfl (cZ w _ _) (gP [x]) (by unfold maxLen; omega) (by omega) (by simp; omega)
 have ht := bz (P := Tryz.prog) _ base 230 230 4 i0 (.bool false) 1 1 und57 hi hz0 hz1 hz2 v n (bools l) hown1 ⟨w.heap.size, 0, none⟩ 1 1 (bools [x]) rfl (cZ w _ _) (gP [x]) (by omega) (by unfold maxLen; omega) (by omega) hrun
 refine ⟨v', w', hrun, by rw [dZ]; exact h2, ((Mod.refl _ w).alloc _).trans (T' := fun g => v.ownBlock = some g) (Mod.of_grown h3 (fun _ h => h)) (fun _ _ h => h), fun g hg => ?_⟩
 rcases ht g hg with h | h
 ·exact .inl h
 ·exact .inr (by simp at h; omega)
theorem gT {o : List Bool} {d : Nat} (h : o.length = d + 1) : o.getLast? = o[d]? := by
 rw [List.getLast?_eq_getElem?, h]; rfl
theorem pass_push (K base : Nat) (o : List Bool) (own : Option Nat) (op : Nat) (w : World) (h : bm w K base o own) (hb : base ≤ w.heap.size) (hlen : o.length < 1000000000000) (hop : op = 2 ∨ op = 3 ∨ op = 4) :
  Calls Tryz.prog 152 #[.pointer (some ⟨K, 0, none⟩), .int .u8 (op : Int)] w (br K base o own op w) := by
 obtain ⟨v, m, hK, hO, rfl, hne⟩ := h
 obtain ⟨A, c, rfl, hmc, hcm⟩ := cO hO
 have hm : m = o.length := by have := hO.1; rw [bg] at this; omega
 unfold maxLen at hcm
 obtain ⟨x, hx⟩ : ∃ x : Bool, x = ((op : Int) == 4) := ⟨_, rfl⟩
 have hst : Ins.step o op = some (o ++ [x]) := by
  rcases hop with rfl | rfl | rfl <;> subst hx <;> simp [Ins.step]
 have HST := Y hst
 obtain ⟨v', w', hrun, ho', hm', ht'⟩ := append1b w base m (.slice A m c) o x hO (by omega) hb
 obtain ⟨A', c', rfl, _, _⟩ := cO ho'
 have k0 : w.cell? ⟨K, 0, none⟩ = some (.slice A m c) := by rw [cell_of_row w K 0 _ _ (0, 0) hK]; rfl
 have hK' := hm'.heap hK (fun e => hne e)
 have kf' : w'.frozen? ⟨K, 0, none⟩ = false := frozen_of_row w' K 0 _ _ hK'
 have k0' : w'.cell? ⟨K, 0, none⟩ = some (.slice A m c) := by rw [cell_of_row w' K 0 _ _ (0, 0) hK']; rfl
 have HK := Y hK'
 have HRUN := Y hrun
 have HO := Y ho'
 have HM := Y hm'
 have HT := Y ht'
 have HNE := Y hne
 have HKL := Y (Array.getElem?_eq_some_iff.1 hK).1
 clear hrun ho' hm' ht' hne hK hO hst hK' hm
 have fin : ∀ w2, w2 = w'.setCell ⟨K, 0, none⟩ (.slice A' (m + 1) c') → br K base o (Value.slice A m c).ownBlock op w (.returned (.bool true)) w2 := by
  rintro w2 rfl
  refine ⟨by rw [HST.out]; rfl, Mod.setCell (HM.out.more (fun g _ hg => .inr hg)) (fun _ => .inl rfl) _, fun o' ho' => ?_⟩
  rw [HST.out] at ho'
  injection ho' with ho'
  subst ho'
  have hneK : (Value.slice A' (m + 1) c').ownBlock ≠ some K := fun e => by
   rcases HT.out K e with h | h
   ·exact HNE.out h
   ·have := HKL.out; omega
  exact ⟨(Value.slice A' (m + 1) c').ownBlock, ⟨_, m + 1, by rw [heap_setCell_same w' K 0 _ _ _ HK.out]; rfl, (Mod.setCell (T := (· = K)) (Mod.refl _ w') (fun _ => rfl) _).own HO.out (fun g hg e => hneK (by rw [hg]; exact congrArg some e)), rfl, hneK⟩, HT.out⟩
 have FIN := Y fin
 clear fin
 rcases hop with rfl | rfl | rfl
 ·obtain rfl : x = false := hx
  go_enter Tryz.func152, Tryz.ntmps152
  go_wp2_with (at_builtin; refine aa rfl (.tmp 19) (.tmp 22) 230 rfl _ _ _ w' rfl rfl HRUN.out ?_)
  go_ret
  exact FIN.out _ rfl
 ·obtain rfl : x = false := hx
  go_enter Tryz.func152, Tryz.ntmps152
  go_wp2_with (at_builtin; refine aa rfl (.tmp 19) (.tmp 22) 230 rfl _ _ _ w' rfl rfl HRUN.out ?_)
  go_ret
  exact FIN.out _ rfl
 ·obtain rfl : x = true := hx
  go_enter Tryz.func152, Tryz.ntmps152
  go_wp2_with (at_builtin; refine aa rfl (.tmp 19) (.tmp 22) 230 rfl _ _ _ w' rfl rfl HRUN.out ?_)
  go_ret
  exact FIN.out _ rfl
theorem ip (K base : Nat) (o : List Bool) (own : Option Nat) (op : Nat) (w : World) (h : bm w K base o own) (hop : op = 5 ∨ op = 11) (hst : Ins.step o op = none) :
  Calls Tryz.prog 152 #[.pointer (some ⟨K, 0, none⟩), .int .u8 (op : Int)] w (br K base o own op w) := by
 obtain ⟨v, m, hK, hO, rfl, hne⟩ := h
 have hm : m = o.length := by have := hO.1; rw [bg] at this; omega
 have fin : br K base o v.ownBlock op w (.returned (.bool false)) w := ⟨by rw [hst]; rfl, Mod.refl _ _, fun o' ho' => by rw [hst] at ho'; cases ho'⟩
 have FIN := Y fin
 clear fin
 by_cases h0 : m = 0
 ·subst h0
  obtain ⟨A, c, rfl, hmc, hcm⟩ := cO hO
  have k0 : w.cell? ⟨K, 0, none⟩ = some (.slice A 0 c) := by rw [cell_of_row w K 0 _ _ (0, 0) hK]; rfl
  clear hK hO hne hst hm
  rcases hop with rfl | rfl
  all_goals
   go_enter Tryz.func152, Tryz.ntmps152
   go_wp2
   go_ret
   exact FIN.out
 ·obtain ⟨d, rfl⟩ : ∃ d, m = d + 1 := ⟨m - 1, by omega⟩
  obtain ⟨g, c, rfl, hmc, hcm, hbg⟩ := eF hO (by omega)
  unfold maxLen at hcm
  have k0 : w.cell? ⟨K, 0, none⟩ = some (.slice (some ⟨g, 0, none⟩) (d + 1) c) := by rw [cell_of_row w K 0 _ _ (0, 0) hK]; rfl
  have hb5 : op = 5 := by
   rcases hop with h | rfl
   ·exact h
   ·simp only [Ins.step] at hst
    simp at hst
    subst hst
    simp at hm
  subst hb5
  have hlast : o[d]? = some false := by
   simp only [Ins.step] at hst
   simp at hst
   rw [gT hm.symm] at hst
   have hd : d < o.length := by omega
   rw [List.getElem?_eq_getElem hd] at hst ⊢
   simp at hst
   rw [hst]
  have kd : w.cell? ⟨g, d, none⟩ = some (.bool false) := by
   have := hO.cells (g := g) rfl d (.bool false) (by simp [bools, hlast])
   have e2 : (⟨g, 0, none⟩ : Addr).add d = ⟨g, d, none⟩ := by unfold Addr.add; split <;> simp_all
   rwa [e2] at this
  have hi : (d : Int) < ((d + 1 : Nat) : Int) := by omega
  clear hK hO hne hst hm hop hlast
  go_enter Tryz.func152, Tryz.ntmps152
  go_wp2
  go_ret
  exact FIN.out
theorem pass_else (K base : Nat) (o : List Bool) (own : Option Nat) (w : World) (h : bm w K base o own) (hl : o.getLast? = some true) :
  Calls Tryz.prog 152 #[.pointer (some ⟨K, 0, none⟩), .int .u8 5] w (br K base o own 5 w) := by
 obtain ⟨v, m, hK, hO, rfl, hne⟩ := h
 have hm : m = o.length := by have := hO.1; rw [bg] at this; omega
 have h0 : m ≠ 0 := by
  rintro rfl
  have : o = [] := List.eq_nil_of_length_eq_zero hm.symm
  subst this
  cases hl
 obtain ⟨d, rfl⟩ : ∃ d, m = d + 1 := ⟨m - 1, by omega⟩
 obtain ⟨g, c, rfl, hmc, hcm, hbg⟩ := eF hO (by omega)
 unfold maxLen at hcm
 have k0 : w.cell? ⟨K, 0, none⟩ = some (.slice (some ⟨g, 0, none⟩) (d + 1) c) := by rw [cell_of_row w K 0 _ _ (0, 0) hK]; rfl
 have hst : Ins.step o 5 = some (o.dropLast ++ [false]) := by simp [Ins.step, hl]
 have hld : o[d]? = some true := by rw [← gT hm.symm]; exact hl
 have kd : w.cell? ⟨g, d, none⟩ = some (.bool true) := by
  have := hO.cells (g := g) rfl d (.bool true) (by simp [bools, hld])
  have e2 : (⟨g, 0, none⟩ : Addr).add d = ⟨g, d, none⟩ := by unfold Addr.add; split <;> simp_all
  rwa [e2] at this
 have kf := hO.frozenAt d
 obtain ⟨ho2, hg2⟩ := hO.stored d (.bool false)
 have hset : (bools o).set d (.bool false) = bools (o.dropLast ++ [false]) := by
  apply List.ext_getElem?
  intro j
  have hd : d < o.length := by omega
  rw [List.getElem?_set, bg]
  simp only [bools, List.getElem?_map]
  by_cases hj : d = j
  ·subst hj
   rw [if_pos rfl, if_pos hd, List.getElem?_append_right (by simp; omega)]
   simp
   rw [show d - (o.length - 1) = 0 by omega]
   rfl
  ·rw [if_neg hj]
   by_cases hjd : j < d
   ·rw [List.getElem?_append_left (by simp; omega), List.getElem?_dropLast, if_pos (by omega)]
   ·rw [List.getElem?_eq_none (by omega), List.getElem?_eq_none (by simp; omega)]
 rw [hset] at ho2
 have hgK : g ≠ K := fun e => hne (by subst e; rfl)
 have fin : ∀ w2, w2 = w.setCell ⟨g, d, none⟩ (.bool false) → br K base o (Value.slice (some ⟨g, 0, none⟩) (d + 1) c).ownBlock 5 w (.returned (.bool true)) w2 := by
  rintro w2 rfl
  refine ⟨by rw [hst]; rfl, (Mod.of_grown hg2 (fun k hk => .inr hk)), fun o' ho' => ?_⟩
  rw [hst] at ho'
  injection ho' with ho'
  subst ho'
  exact ⟨_, ⟨_, d + 1, (heap_setCell_other w ⟨g, d, none⟩ K _ (fun e => hgK e.symm)).trans hK, ho2, rfl, hne⟩, fun g hg => .inl hg⟩
 have FIN := Y fin
 clear fin hK hO hne hst hm hl hld ho2 hg2 hset hgK
 go_enter Tryz.func152, Tryz.ntmps152
 go_wp2
 go_ret
 exact FIN.out _ rfl
theorem pass_end (K base : Nat) (o : List Bool) (own : Option Nat) (w : World) (h : bm w K base o own) (hl : o ≠ []) :
  Calls Tryz.prog 152 #[.pointer (some ⟨K, 0, none⟩), .int .u8 11] w (br K base o own 11 w) := by
 obtain ⟨v, m, hK, hO, rfl, hne⟩ := h
 have hm : m = o.length := by have := hO.1; rw [bg] at this; omega
 have h0 : m ≠ 0 := by
  rintro rfl
  exact hl (List.eq_nil_of_length_eq_zero hm.symm)
 obtain ⟨d, rfl⟩ : ∃ d, m = d + 1 := ⟨m - 1, by omega⟩
 obtain ⟨g, c, rfl, hmc, hcm, hbg⟩ := eF hO (by omega)
 unfold maxLen at hcm
 have k0 : w.cell? ⟨K, 0, none⟩ = some (.slice (some ⟨g, 0, none⟩) (d + 1) c) := by rw [cell_of_row w K 0 _ _ (0, 0) hK]; rfl
 have kf : w.frozen? ⟨K, 0, none⟩ = false := frozen_of_row w K 0 _ _ hK
 have hst : Ins.step o 11 = some o.dropLast := by simp [Ins.step, hl]
 have hlast : bools o = bools o.dropLast ++ bools [o.getLast hl] := by rw [← dZ, List.dropLast_concat_getLast]
 rw [hlast] at hO
 have ho2 := ownsRow_pop (by rw [bg]; simp; omega) hO
 have hgK : g ≠ K := fun e => hne (by subst e; rfl)
 have fin : ∀ w2, w2 = w.setCell ⟨K, 0, none⟩ (.slice (some ⟨g, 0, none⟩) d c) → br K base o (Value.slice (some ⟨g, 0, none⟩) (d + 1) c).ownBlock 11 w (.returned (.bool true)) w2 := by
  rintro w2 rfl
  refine ⟨by rw [hst]; rfl, Mod.setCell (Mod.refl _ _) (fun _ => .inl rfl) _, fun o' ho' => ?_⟩
  rw [hst] at ho'
  injection ho' with ho'
  subst ho'
  exact ⟨some g, ⟨.slice (some ⟨g, 0, none⟩) d c, d, by rw [heap_setCell_same w K 0 _ _ _ hK]; rfl, (Mod.setCell (T := (· = K)) (Mod.refl _ w) (fun _ => rfl) _).own ho2 (fun k hk e => hgK ((Option.some.inj hk).trans e)), rfl, hne⟩, fun g hg => .inl hg⟩
 have FIN := Y fin
 have hdc : d ≤ c := by omega
 clear fin hK hO hne hst hm hl ho2 hgK hlast
 go_enter Tryz.func152, Tryz.ntmps152
 go_wp2
 go_ret
 exact FIN.out _ rfl
theorem pass_other (K base : Nat) (o : List Bool) (own : Option Nat) (op : Nat) (w : World) (h : bm w K base o own) (h2 : op ≠ 2) (h3 : op ≠ 3) (h4 : op ≠ 4) (h5 : op ≠ 5) (h11 : op ≠ 11) :
  Calls Tryz.prog 152 #[.pointer (some ⟨K, 0, none⟩), .int .u8 (op : Int)] w (br K base o own op w) := by
 have hst : Ins.step o op = some o := by simp [Ins.step, h2, h3, h4, h5, h11]
 have fin : br K base o own op w (.returned (.bool true)) w := ⟨by rw [hst]; rfl, Mod.refl _ _, fun o' ho' => by rw [hst] at ho'; injection ho' with ho'; subst ho'; exact ⟨own, h, fun g hg => .inl hg⟩⟩
 obtain ⟨v, m, hK, hO, rfl, hne⟩ := h
 obtain ⟨A, c, rfl, hmc, hcm⟩ := cO hO
 unfold maxLen at hcm
 have k0 : w.cell? ⟨K, 0, none⟩ = some (.slice A m c) := by rw [cell_of_row w K 0 _ _ (0, 0) hK]; rfl
 have FIN := Y fin
 have e2 : ((op : Int) == 2) = false := by simp; omega
 have e3 : ((op : Int) == 3) = false := by simp; omega
 have e4 : ((op : Int) == 4) = false := by simp; omega
 have e5 : ((op : Int) == 5) = false := by simp; omega
 have e11 : ((op : Int) == 11) = false := by simp; omega
 clear fin hK hO hne hst h2 h3 h4 h5 h11
 go_enter Tryz.func152, Tryz.ntmps152
 go_wp2
 go_ret
 exact FIN.out
theorem pass_any (K base : Nat) (o : List Bool) (own : Option Nat) (op : Nat) (w : World) (h : bm w K base o own) (hb : base ≤ w.heap.size) (hlen : o.length < 1000000000000) :
  Calls Tryz.prog 152 #[.pointer (some ⟨K, 0, none⟩), .int .u8 (op : Int)] w (br K base o own op w) := by
 by_cases h1 : op = 2 ∨ op = 3 ∨ op = 4
 ·exact pass_push K base o own op w h hb hlen h1
 ·by_cases h5 : op = 5
  ·subst h5
   by_cases hl : o.getLast? = some true
   ·exact pass_else K base o own w h hl
   ·exact ip K base o own 5 w h (.inl rfl) (by simp [Ins.step, hl])
  ·by_cases h11 : op = 11
   ·subst h11
    by_cases hl : o = []
    ·exact ip K base o own 11 w h (.inr rfl) (by simp [Ins.step, hl])
    ·exact pass_end K base o own w h hl
   ·exact pass_other K base o own op w h (by omega) (by omega) (by omega) h5 h11
theorem und27 : Tryz.prog.underlying 52 = some (.slice 95) := by kernel_rfl
theorem info26 : (Tryz.prog.info? 95).map (fun i => (i.zero, i.size, i.bytes)) = some (some (.agg #[.int .u8 0, .int .u32 0, .int .u32 0, .int .i64 0, .slice none 0 0]), 5, 48) := by kernel_rfl
def rowI (ys : List (I × Option Addr × Nat)) : List Value := ys.flatMap fun y => insCells y.1 y.2.1 y.2.2
theorem rowI_length (ys : List (I × Option Addr × Nat)) : (rowI ys).length = ys.length * 5 := by
 induction ys with
 | nil => rfl
 | cons y ys ih => simp only [rowI, List.flatMap_cons, List.length_append, List.length_cons] at ih ⊢; rw [ih]; simp [insCells]; omega
theorem rowI_append (a b : List (I × Option Addr × Nat)) : rowI (a ++ b) = rowI a ++ rowI b := by simp [rowI]
theorem rowI_at : ∀ (ys : List (I × Option Addr × Nat)) (k : Nat) (y : I × Option Addr × Nat), ys[k]? = some y → ∀ j u, (insCells y.1 y.2.1 y.2.2)[j]? = some u → (rowI ys)[k * 5 + j]? = some u
 | [], k, y, h, _, _, _ => by simp at h
 | z :: ys, 0, y, h, j, u, hj => by
  simp at h; subst h
  simp only [rowI, List.flatMap_cons, Nat.zero_mul, Nat.zero_add]
  rw [List.getElem?_append_left (by exact (List.getElem?_eq_some_iff.1 hj).1)]
  exact hj
 | z :: ys, k + 1, y, h, j, u, hj => by
  have ih := rowI_at ys k y (by simpa using h) j u hj
  simp only [rowI, List.flatMap_cons] at ih ⊢
  rw [List.getElem?_append_right (by simp [insCells]; omega), ← ih]
  congr 1
  simp [insCells]; omega
def OwnI (w : World) (base : Nat) (S : Nat → Prop) (v : Value) (n : Nat) (xs : List I) : Prop :=
 ∃ ys, ys.map (·.1) = xs ∧ w.ownsRow base 95 5 v n (rowI ys) ∧ ∀ y ∈ ys, y.1.wf ∧ y.1.l.length ≤ y.2.2 ∧ y.2.2 ≤ maxLen ∧ HasU w S y.2.1 y.1.l
theorem OwnI.len {w : World} {base : Nat} {S : Nat → Prop} {v : Value} {n : Nat} {xs : List I} (h : OwnI w base S v n xs) : n = xs.length := by
 obtain ⟨ys, rfl, h1, _⟩ := h
 have := h1.1
 rw [rowI_length] at this
 simp; omega
theorem OwnI.mod {w w' : World} {T : Nat → Prop} {base : Nat} {S : Nat → Prop} {v : Value} {n : Nat} {xs : List I} (h : OwnI w base S v n xs) (hm : Mod T w w') (hv : ∀ g, v.ownBlock = some g → ¬ T g) (hs : ∀ g, g < w.heap.size → S g → ¬ T g) : OwnI w' base S v n xs := by
 obtain ⟨ys, h0, h1, h2⟩ := h
 exact ⟨ys, h0, hm.own h1 hv, fun y hy => ⟨(h2 y hy).1, (h2 y hy).2.1, (h2 y hy).2.2.1, (h2 y hy).2.2.2.mod hm hs⟩⟩
theorem OwnI.more {w : World} {base : Nat} {S S' : Nat → Prop} {v : Value} {n : Nat} {xs : List I} (h : OwnI w base S v n xs) (hs : ∀ g, g < w.heap.size → S g → S' g) : OwnI w base S' v n xs := by
 obtain ⟨ys, h0, h1, h2⟩ := h
 exact ⟨ys, h0, h1, fun y hy => ⟨(h2 y hy).1, (h2 y hy).2.1, (h2 y hy).2.2.1, (h2 y hy).2.2.2.more hs⟩⟩
theorem OwnI.nil (w : World) (base : Nat) (S : Nat → Prop) : OwnI w base S (.slice none 0 0) 0 [] := ⟨[], rfl, World.ownsRow_nil _ _ _ _, by simp⟩
def InsL (B : Nat) (w : World) (v : Value) (xs : List I) : Prop := ∃ A c, v = .slice A xs.length c ∧ xs.length ≤ c ∧ (c ≤ maxLen ∧ (A = none → c = 0)) ∧ HasI w (B ≤ ·) A xs
theorem OwnI.tell {w : World} {base : Nat} {S : Nat → Prop} {v : Value} {n : Nat} {xs : List I} (h : OwnI w base S v n xs) (hs : ∀ g, S g → base ≤ g) : InsL base w v xs := by
 have hn := h.len
 obtain ⟨ys, h0, h1, h2⟩ := h
 subst hn
 rcases h1.2 with ⟨rfl, h3⟩ | ⟨g, cap, cur, rfl, hb, hh, hc, hm, _, htk⟩
 ·have : xs = [] := List.eq_nil_of_length_eq_zero h3
  subst this
  exact ⟨none, 0, rfl, Nat.le_refl _, ⟨by unfold maxLen; omega, fun _ => rfl⟩, HasI.nil _ _ _⟩
 ·refine ⟨_, cap, rfl, hc, ⟨hm, fun e => by cases e⟩, fun k x hk => ?_⟩
  rw [← h0, List.getElem?_map, Option.map_eq_some_iff] at hk
  obtain ⟨y, hy, rfl⟩ := hk
  obtain ⟨q1, q2, q3, q4⟩ := h2 y (List.mem_of_getElem? hy)
  refine ⟨g, 0, y.2.1, y.2.2, rfl, hb, q1, q2, q3, q4.more (fun g _ => hs g), fun j u hj => ?_⟩
  have := h1.cells (g := g) rfl (k * 5 + j) u (rowI_at ys k y hy j u hj)
  have e2 : (⟨g, 0, none⟩ : Addr).add (k * 5 + j) = ⟨g, 0 + k * 5 + j, none⟩ := by
   unfold Addr.add; split
   ·next h => simp at h; simp
   ·simp
  rwa [e2] at this
theorem append1i (w : World) (base n : Nat) (S : Nat → Prop) (v : Value) (xs : List I) (x : I) (A : Option Addr) (c : Nat) (hown : OwnI w base S v n xs) (hsz : n + 1 ≤ 2000000000000) (hb : base ≤ w.heap.size)
  (hx : x.wf ∧ x.l.length ≤ c ∧ c ≤ maxLen ∧ HasU w S A x.l) (hs : ∀ g, g < w.heap.size → S g → v.ownBlock ≠ some g) :
  ∃ v' w', (Builtin.append_ #[52, 52] 52 #[v, .slice (some ⟨w.heap.size, 0, none⟩) 1 1]).run Tryz.prog (w.alloc (.cells (insCells x A c).toArray 95)) = .ok v' w' ∧ OwnI w' base (fun g => S g ∧ v'.ownBlock ≠ some g) v' (n + 1) (xs ++ [x]) ∧ Mod (fun g => v.ownBlock = some g) w w' ∧ ∀ g, v'.ownBlock = some g → v.ownBlock = some g ∨ w.heap.size ≤ g := by
 obtain ⟨i0, hi, hz0, hz1, hz2⟩ := info_parts info26
 obtain ⟨ys, h0, h1, h2⟩ := hown
 have hown1 := h1.alloc (.cells (insCells x A c).toArray 95)
 obtain ⟨v', w', hrun, h3, h4, _⟩ := run_append_own (P := Tryz.prog) (w.alloc (.cells (insCells x A c).toArray 95)) base 52 52 95 i0 _ 5 48 und27 hi hz0 hz1 hz2 rfl (by decide) v n (rowI ys) hown1 ⟨w.heap.size, 0, none⟩ 1 1 (insCells x A c) rfl (bG w _ _) (cV x A c) (by unfold maxLen; omega) (by omega) (by simp; omega)
 have ht := bz (P := Tryz.prog) _ base 52 52 95 i0 _ 5 48 und27 hi hz0 hz1 hz2 v n (rowI ys) hown1 ⟨w.heap.size, 0, none⟩ 1 1 (insCells x A c) rfl (bG w _ _) (cV x A c) (by omega) (by unfold maxLen; omega) (by omega) hrun
 have hM : Mod (fun g => v.ownBlock = some g) w w' := ((Mod.refl _ w).alloc _).trans (T' := fun g => v.ownBlock = some g) (Mod.of_grown h4 (fun _ h => h)) (fun _ _ h => h)
 have ht2 : ∀ g, v'.ownBlock = some g → v.ownBlock = some g ∨ w.heap.size ≤ g := fun g hg => by
  rcases ht g hg with h | h
  ·exact .inl h
  ·exact .inr (by simp at h; omega)
 have hS : ∀ g, g < w.heap.size → S g → S g ∧ v'.ownBlock ≠ some g := fun g hg hsg => ⟨hsg, fun e => by
  rcases ht2 g e with h | h
  ·exact hs g hg hsg h
  ·omega⟩
 refine ⟨v', w', hrun, ⟨ys ++ [(x, A, c)], by simp [h0], by rw [rowI_append]; simpa [rowI] using h3, fun y hy => ?_⟩, hM, ht2⟩
 rcases List.mem_append.1 hy with hy | hy
 ·exact ⟨(h2 y hy).1, (h2 y hy).2.1, (h2 y hy).2.2.1, ((h2 y hy).2.2.2.more hS).mod hM (fun g hg hsg => hs g hg hsg.1)⟩
 ·simp at hy; subst hy
  exact ⟨hx.1, hx.2.1, hx.2.2.1, (hx.2.2.2.more hS).mod hM (fun g hg hsg => hs g hg hsg.1)⟩
end Go.Proofs.YthkglmkpnhhboaaGreatDoor
namespace Ins
theorem rdExpr_end {n : Nat} {l : List UInt8} {x : I} {k : Nat} (h : rdInstr l = .ok (x, k)) (hx : x.op = 11) : rdExpr (n + 1) [] l = .ok ([], k) := by
 simp [rdExpr, h, hx]
theorem rdExpr_stop {n : Nat} {o : List Bool} {l : List UInt8} {e : Nat} (h : rdInstr l = .error e) : rdExpr (n + 1) o l = .error e := by
 simp [rdExpr, h]
theorem rdExpr_none {n : Nat} {o : List Bool} {l : List UInt8} {x : I} {k : Nat} (h : rdInstr l = .ok (x, k)) (hx : ¬ (x.op = 11 ∧ o = [])) (hs : step o x.op = none) : rdExpr (n + 1) o l = .error 60 := by
 simp [rdExpr, h, hx, hs]
theorem rdExpr_step {n : Nat} {o o' : List Bool} {l : List UInt8} {x : I} {k : Nat} (h : rdInstr l = .ok (x, k)) (hx : ¬ (x.op = 11 ∧ o = [])) (hs : step o x.op = some o') : rdExpr (n + 1) o l = onto [x] k (rdExpr n o' (l.drop k)) := by
 simp [rdExpr, h, hx, hs]
theorem eW {o o' : List Bool} {op : Nat} (h : step o op = some o') : o'.length ≤ o.length + 1 := by
 unfold step at h
 split at h
 ·injection h with h; subst h; simp
 split at h
 ·injection h with h; subst h; simp
 split at h
 ·split at h
  ·injection h with h; subst h; simp
  ·cases h
 split at h
 ·split at h
  ·cases h
  ·injection h with h; subst h; simp; omega
 ·injection h with h; subst h; omega
theorem onto_nil {α : Type} (r : Except Nat (List α × Nat)) : onto [] 0 r = r := by
 cases r with
 | error e => rfl
 | ok q => simp [onto]
end Ins
namespace Go.Proofs.YthkglmkpnhhboaaGreatDoor
open Go.RowKit Ins
theorem eV {w : World} {K base : Nat} {o : List Bool} {own : Option Nat} (h : bm w K base o own) : ∃ A c, w.cell? ⟨K, 0, none⟩ = some (.slice A o.length c) ∧ o.length ≤ c ∧ c ≤ maxLen := by
 obtain ⟨v, m, hK, hO, _, _⟩ := h
 have hm : m = o.length := by have := hO.1; rw [bg] at this; omega
 subst hm
 obtain ⟨A, c, rfl, h1, h2⟩ := cO hO
 exact ⟨A, c, by rw [cell_of_row w K 0 _ _ (0, 0) hK]; rfl, h1, h2⟩
theorem bm.mod {w w' : World} {T : Nat → Prop} {K base : Nat} {o : List Bool} {own : Option Nat} (h : bm w K base o own) (hm : Mod T w w') (hK : ¬ T K) (ho : ∀ g, own = some g → ¬ T g) : bm w' K base o own := by
 obtain ⟨v, m, h1, h2, h3, h4⟩ := h
 exact ⟨v, m, hm.heap h1 hK, hm.own h2 (fun g hg => ho g (by rw [h3]; exact hg)), h3, h4⟩
theorem bm.own_lt {w : World} {K base : Nat} {o : List Bool} {own : Option Nat} (h : bm w K base o own) : K < w.heap.size ∧ ∀ g, own = some g → base ≤ g ∧ g < w.heap.size := by
 obtain ⟨v, m, h1, h2, h3, h4⟩ := h
 exact ⟨(Array.getElem?_eq_some_iff.1 h1).1, fun g hg => h2.lt g (by rw [← h3]; exact hg)⟩
def dx (K : Nat) (own vown : Option Nat) (g : Nat) : Prop := K < g ∧ own ≠ some g ∧ vown ≠ some g
theorem expr_any (R : Nat) (A : Option Addr) (c : Nat) (l : List UInt8) (p F : Nat) (w : World) (h : Rd w R A c l p) (hlen : l.length ≤ 1000000000000) (hF : l.length - p < F) :
  Calls Tryz.prog 149 #[.pointer (some ⟨R, 0, none⟩)] w (bf R A c l p w (rdExpr F [] (l.drop p)) (InsL w.heap.size)) := by
 have HLT := Y h.lt
 have HR0 := Y h
 clear h
 go_enter Tryz.func149, Tryz.ntmps149
 go_wp2_with fail
 go_loopg [3] (l.length + 1) (fun gk v wr => ∃ (m f n : Nat) (xs : List I) (o : List Bool) (own : Option Nat), l.length - (p + m) < gk ∧ l.length - (p + m) < f ∧ n ≤ m ∧ Hid (OwnI wr (w.heap.size + 1) (dx w.heap.size own v.ownBlock) v n xs) ∧ Hid (bm wr w.heap.size (w.heap.size + 1) o own) ∧ Hid (∀ g, own = some g → v.ownBlock ≠ some g) ∧ o.length ≤ m ∧ Hid (Rd wr R A c l (p + m)) ∧ Hid (Mod (· = R) w wr) ∧ Hid (rdExpr F [] (l.drop p) = onto xs m (rdExpr f o (l.drop (p + m)))))
 case atStart =>
  refine ⟨0, F, 0, [], [], none, by omega, by simpa using hF, Nat.le_refl _, Y (OwnI.nil _ _ _), Y ⟨.slice none 0 0, 0, heap_alloc_new w _, World.ownsRow_nil _ _ _ _, rfl, by simp⟩, Y (fun g hg => by cases hg), Nat.le_refl _, Y ?_, Y ((Mod.refl _ w).alloc _), Y (onto_nil _).symm⟩
  exact HR0.out.keep ((Mod.refl (fun _ => False) w).alloc _) (fun _ _ h => h)
 case round =>
  obtain ⟨m, f, n, xs, o, own, hg, hf, hnm, HO, HB, HD, hol, HR, HM, HE⟩ := hrel
  obtain ⟨f, rfl⟩ : ∃ f', f = f' + 1 := ⟨f - 1, by omega⟩
  have HC := Y (instr_any R A c l (p + m) wr HR.out)
  have hbs : w.heap.size + 1 ≤ wr.heap.size := HB.out.own_lt.1
  cases hr : rdInstr (l.drop (p + m)) with
  | error e =>
   rw [hr] at HC
   have HS := Y (rdExpr_stop (n := f) (o := o) hr)
   clear hr
   have hee : e = 60 ∨ e = 61 := cU _ _ _ _ HS.out
   go_wp2_with (go_at_call 155; refine HC.out.mono ?_; rintro e2 w2 ⟨rfl, hm⟩; have HM2 := Y hm; clear hm)
   rw [HE.out, HS.out]
   exact ⟨rfl, rfl, HM.out.trans HM2.out (fun _ _ h => h)⟩
  | ok q =>
   obtain ⟨x, k⟩ := q
   rw [hr] at HC
   obtain ⟨hmay, hwf, hxl, hk1, hkl, _⟩ := aK hr
   rw [List.length_drop] at hkl
   have HI := Y hr
   clear hr hmay
   obtain ⟨op, xa, xb, xc, xl⟩ := x
   go_upto_region 4 with (go_at_call 155; refine HC.out.mono ?_; rintro e2 w2 ⟨v, rfl, ⟨A4, c4, rfl, hwf2, hlc, hcm, hU⟩, hr2, hm2⟩; dsimp only [insVal, insCells]; have HU4 := Y hU; have HR2 := Y hr2; have HM2 := Y hm2; clear hU hr2 hm2)
   have hsz := HM2.out.size
   have HX3 : Hid ((w2.alloc (.cells #[.int .u8 (op : Int), .int .u32 (xa : Int), .int .u32 (xb : Int), .int .i64 xc, .slice A4 xl.length c4] 95)).heap[w2.heap.size]? = some (.cells (insCells ⟨op, xa, xb, xc, xl⟩ A4 c4).toArray 95 (0, 0))) := Y (heap_alloc_new w2 _)
   have HM3 : Hid (Mod (fun _ => False) w2 (w2.alloc (.cells #[.int .u8 (op : Int), .int .u32 (xa : Int), .int .u32 (xb : Int), .int .i64 xc, .slice A4 xl.length c4] 95))) := Y ((Mod.refl _ w2).alloc _)
   have hs3 : w2.heap.size + 1 = (w2.alloc (.cells #[.int .u8 (op : Int), .int .u32 (xa : Int), .int .u32 (xb : Int), .int .i64 xc, .slice A4 xl.length c4] 95)).heap.size := by simp
   obtain ⟨X, hX⟩ : ∃ X, X = w2.heap.size := ⟨_, rfl⟩
   rw [← hX] at HX3 hs3 ⊢
   generalize w2.alloc (.cells #[.int .u8 (op : Int), .int .u32 (xa : Int), .int .u32 (xb : Int), .int .i64 xc, .slice A4 xl.length c4] 95) = w3 at HX3 HM3 hs3 ⊢
   obtain ⟨z0, z1, z2, z3, z4⟩ := cells5 (show w3.heap[X]? = some (.cells #[.int .u8 (op : Int), .int .u32 (xa : Int), .int .u32 (xb : Int), .int .i64 xc, .slice A4 xl.length c4] 95 (0, 0)) from HX3.out)
   have hXw : wr.heap.size ≤ X := by omega
   have hRl := HLT.out
   have hwb := HB.out.own_lt
   have hB3 : bm w3 w.heap.size (w.heap.size + 1) o own := (HB.out.mod HM2.out (fun e => by omega) (fun g hgo e => by have := (hwb.2 g hgo).1; omega)).mod HM3.out (fun h => h) (fun _ _ h => h)
   have hO2 : OwnI w2 (w.heap.size + 1) (dx w.heap.size own u3.ownBlock) u3 n xs := HO.out.mod HM2.out (fun g hgv e => by obtain ⟨ys, _, h1, _⟩ := HO.out; have := (h1.lt g hgv).1; omega) (fun g _ hap e => by have := hap.1; omega)
   have hO3 : OwnI w3 (w.heap.size + 1) (fun g => dx w.heap.size own u3.ownBlock g ∧ g < wr.heap.size ∨ (wr.heap.size ≤ g ∧ g < X)) u3 n xs := by
    have h0 : OwnI wr (w.heap.size + 1) (fun g => dx w.heap.size own u3.ownBlock g ∧ g < wr.heap.size ∨ (wr.heap.size ≤ g ∧ g < X)) u3 n xs := HO.out.more (fun g hgs hap => .inl ⟨hap, hgs⟩)
    refine (h0.mod HM2.out (fun g hgv e => ?_) (fun g _ hap e => ?_)).mod HM3.out (fun _ _ h => h) (fun _ _ _ h => h)
    ·obtain ⟨ys, _, h1, _⟩ := HO.out
     have := (h1.lt g hgv).1
     omega
    ·rcases hap with hap | hap
     ·have := hap.1.1; omega
     ·omega
   have hU3 : HasU w3 (fun g => dx w.heap.size own u3.ownBlock g ∧ g < wr.heap.size ∨ (wr.heap.size ≤ g ∧ g < X)) A4 xl := (HU4.out.more (fun g hgs hge => .inr ⟨hge, by omega⟩)).mod HM3.out (fun _ _ _ h => h)
   have hvlt : ∀ g, u3.ownBlock = some g → w.heap.size + 1 ≤ g ∧ g < wr.heap.size := fun g hgv => by obtain ⟨ys, _, h1, _⟩ := HO.out; exact h1.lt g hgv
   have hR3 : Rd w3 R A c l (p + m + k) := HR2.out.keep HM3.out (fun _ _ h => h)
   have hM3 : Mod (· = R) w w3 := (HM.out.trans HM2.out (fun _ _ h => h)).trans HM3.out (fun _ _ h => h.elim)
   obtain ⟨A5, c5, kK, hoc, hcm5⟩ := eV hB3
   have HB3 := Y hB3
   have HO3 := Y hO3
   have HU3 := Y hU3
   have HVL := Y hvlt
   have HR3 := Y hR3
   have HMM3 := Y hM3
   have HWB := Y hwb
   have HWF := Y hwf2
   have HLC := Y hlc
   have HCM := Y hcm
   have HXX := Y hX
   clear hB3 hO2 hO3 hU3 hvlt hR3 hM3 hwb HC HM2 HU4 HR2 hwf hwf2 hX hlc hcm hxl
   unfold maxLen at hcm5
   by_cases hend : op = 11 ∧ o = []
   ·obtain ⟨rfl, rfl⟩ := hend
    have HS := Y (rdExpr_end (n := f) HI.out rfl)
    go_wp2_with fail
    go_ret
    rw [HE.out, HS.out]
    have hOT := HO3.out.tell (fun g hgs => by rcases hgs with h | h <;> first | exact h.1.1 | omega)
    obtain ⟨A6, c6, e1, e2, e3, e4⟩ := hOT
    simp only [onto, List.append_nil]
    exact ⟨_, rfl, ⟨A6, c6, e1, e2, e3, e4.more (fun g _ h => by omega)⟩, by rw [← Nat.add_assoc]; exact HR3.out, HMM3.out⟩
   ·have HP := Y (pass_any w.heap.size (w.heap.size + 1) o own op w3 HB3.out (by omega) (by omega))
    have HNE := Y hend
    have htest : ((op : Int) == 11) = false ∨ ((op : Int) == 11) = true ∧ ((o.length : Int) == 0) = false := by
     by_cases h11 : op = 11
     ·refine .inr ⟨by subst h11; rfl, ?_⟩
      have : o ≠ [] := fun e => hend ⟨h11, e⟩
      have := List.length_pos_iff.2 this
      simp; omega
     ·exact .inl (by simp; omega)
    clear hend
    cases hs : Ins.step o op with
    | none =>
     have HS := Y (rdExpr_none (n := f) HI.out HNE.out hs)
     have HSN := Y hs
     clear hs
     rcases htest with h11 | ⟨h11, h12⟩
     all_goals
      go_wp2_with (go_at_call 152; refine HP.out.mono ?_; rintro e2 w4 ⟨he, hm4, _⟩; rw [HSN.out] at he; obtain rfl : e2 = .returned (.bool false) := he; have HM4 := Y hm4; clear hm4)
      rw [HE.out, HS.out]
      refine ⟨rfl, rfl, HMM3.out.trans HM4.out (fun g hgs h => ?_)⟩
      rcases h with h | h
      ·omega
      ·have := (HWB.out.2 g h).1; omega
    | some o' =>
     have HS := Y (rdExpr_step (n := f) HI.out HNE.out hs)
     have HSN := Y hs
     have hsl := eW hs
     clear hs
     rcases htest with h11 | ⟨h11, h12⟩
     all_goals
      go_upto_region 8 with (go_at_call 152; refine HP.out.mono ?_; rintro e2 w4 ⟨he, hm4, hst4⟩; rw [HSN.out] at he; obtain rfl : e2 = .returned (.bool true) := he; have HM4 := Y hm4; have HST4 := Y hst4; clear hm4 hst4)
      obtain ⟨own', hB4, ht4⟩ := HST4.out o' HSN.out
      have hs4 := HM4.out.size
      have hX4 := HM4.out.heap HX3.out (fun h => by rcases h with h | h <;> first | omega | (have := (HWB.out.2 X h).2; omega))
      obtain ⟨y0, y1, y2, y3, y4⟩ := cells5 (show w4.heap[X]? = some (.cells #[.int .u8 (op : Int), .int .u32 (xa : Int), .int .u32 (xb : Int), .int .i64 xc, .slice A4 xl.length c4] 95 (0, 0)) from hX4)
      have hSS : ∀ g, g < w3.heap.size → (dx w.heap.size own u3.ownBlock g ∧ g < wr.heap.size ∨ (wr.heap.size ≤ g ∧ g < X)) → dx w.heap.size own' u3.ownBlock g ∧ ¬ (g = w.heap.size ∨ own = some g) := fun g hgs h => by
       have hno : own ≠ some g := fun e => by
        have := (HWB.out.2 g e).2
        rcases h with h | h
        ·exact h.1.2.1 e
        ·omega
       refine ⟨⟨by rcases h with h | h <;> first | exact h.1.1 | omega, fun e => ?_, fun e => ?_⟩, fun e => ?_⟩
       ·rcases ht4 g e with h' | h'
        ·exact hno h'
        ·omega
       ·have := (HVL.out g e).2
        rcases h with h | h
        ·exact h.1.2.2 e
        ·omega
       ·rcases e with e | e
        ·rcases h with h | h
         ·have := h.1.1; omega
         ·omega
        ·exact hno e
      have hO4 : OwnI w4 (w.heap.size + 1) (dx w.heap.size own' u3.ownBlock) u3 n xs := by
       have h1 : OwnI w3 (w.heap.size + 1) (fun g => dx w.heap.size own' u3.ownBlock g ∧ ¬ (g = w.heap.size ∨ own = some g)) u3 n xs := HO3.out.more hSS
       refine (h1.mod HM4.out (fun g hgv e => ?_) (fun g _ h e => h.2 e)).more (fun g _ h => h.1)
       rcases e with e | e
       ·have := (HVL.out g hgv).1; omega
       ·exact HD.out g e hgv
      have hU4 : HasU w4 (dx w.heap.size own' u3.ownBlock) A4 xl := ((HU3.out.more hSS).mod HM4.out (fun g _ h e => h.2 e)).more (fun g _ h => h.1)
      obtain ⟨v5, w5, hrun5, hO5, hm5, ht5⟩ := append1i w4 (w.heap.size + 1) n (dx w.heap.size own' u3.ownBlock) u3 xs ⟨op, xa, xb, xc, xl⟩ A4 c4 hO4 (by omega) (by omega) ⟨HWF.out, HLC.out, HCM.out, hU4⟩ (fun g _ h => h.2.2)
      have HRUN5 := Y hrun5
      have HO5 := Y hO5
      have HM5 := Y hm5
      have HT5 := Y ht5
      have HB4 := Y hB4
      have HT4 := Y ht4
      clear hrun5 hO5 hm5 ht5 hO4 hU4 hSS hX4 hB4 ht4 HST4
      go_wp2_with (at_builtin; refine aa rfl (.tmp 22) (.tmp 24) 52 rfl _ _ _ w5 rfl rfl HRUN5.out ?_)
      go_roundg (l.length - (p + (m + k)) + 1)
      case measure => omega
      case rel =>
       have hdis : ∀ g, own' = some g → u3.ownBlock ≠ some g := fun g e e2 => by
        rcases HT4.out g e with h | h
        ·exact HD.out g h e2
        ·have := (HVL.out g e2).2; omega
       refine ⟨m + k, f, n + 1, xs ++ [⟨op, xa, xb, xc, xl⟩], o', own', by omega, by omega, by omega, Y (HO5.out.more (fun g _ h => ⟨h.1.1, h.1.2.1, h.2⟩)), Y (HB4.out.mod HM5.out (fun e => by have := (HVL.out _ e).1; omega) (fun g e => hdis g e)), Y (fun g e e2 => ?_), by omega, Y ?_, Y ?_, Y ?_⟩
       ·rcases HT5.out g e2 with h | h
        ·exact hdis g e h
        ·have := (HB4.out.own_lt.2 g e).2; omega
       ·rw [← Nat.add_assoc]
        refine (HR3.out.keep HM4.out (fun g hgs e => ?_)).keep HM5.out (fun g hgs e => ?_)
        ·rcases e with e | e
         ·omega
         ·have := (HWB.out.2 g e).1; omega
        ·have := (HVL.out g e).1; omega
       ·refine (HMM3.out.trans HM4.out (fun g hgs e => ?_)).trans HM5.out (fun g hgs e => ?_)
        ·rcases e with e | e
         ·omega
         ·have := (HWB.out.2 g e).1; omega
        ·have := (HVL.out g e).1; omega
       ·rw [HE.out, HS.out, aI, List.drop_drop, Nat.add_assoc]
def OwnPost (l : List UInt8) (w : World) (e : Ending) (w' : World) : Prop := ∃ v', e = .returned v' ∧ w'.ownsRow w.heap.size 5 1 v' l.length (bytesOf l) ∧ Below w.heap.size w w'
theorem own_any (A : Option Addr) (l : List UInt8) (c : Nat) (w : World) (hA : Has w w.heap.size A l) (hsz : l.length ≤ 140737488355328) :
  Calls Tryz.prog 150 #[.slice A l.length c] w (OwnPost l w) := by
 have hb0 : Below w.heap.size w (w.alloc (.cells #[] 5)) := (Below.refl _ _).alloc (Nat.le_refl _) _
 have hown0 : (w.alloc (.cells #[] 5)).ownsRow w.heap.size 5 1 (.slice (some ⟨w.heap.size, 0, none⟩) 0 0) 0 (bytesOf []) :=
  ⟨rfl, .inr ⟨w.heap.size, 0, #[], rfl, Nat.le_refl _, heap_alloc_new w _, Nat.le_refl _, by unfold maxLen; omega, rfl, rfl⟩⟩
 obtain ⟨v', w', hrun, ho, hm, ht⟩ := fl (w.alloc (.cells #[] 5)) w.heap.size 0 l.length c _ [] l A hown0 (hA.on hb0) rfl (by omega) hb0.size
 have HR := Y hrun
 have HO := Y ho
 have HB := Y (hb0.trans (hm.below (by simp) (fun k hk e => by simp [Value.ownBlock] at e; omega)))
 clear hrun ho hm ht hb0 hown0 hA
 go_enter Tryz.func150, Tryz.ntmps150
 go_wp2_with (at_builtin; refine aa rfl (.tmp 3) (.tmp 4) 36 rfl _ _ _ w' rfl rfl HR.out ?_)
 go_ret
 have h := HO.out
 rw [Nat.zero_add, List.nil_append] at h
 exact ⟨_, rfl, h, HB.out⟩
theorem aM (base : Nat) (v : Value) (l : List UInt8) (N : Nat) (w : World) (hown : w.ownsRow base 5 1 v l.length (bytesOf l)) (hb : base ≤ w.heap.size) (hN : N < 4294967296) (hsz : l.length ≤ 100000000000000) :
  Calls Tryz.prog 160 #[v, .int .u32 (N : Int)] w (aD base v (l ++ Leb.encU N) w) := by
 have HC := Y (c11 none [] 0 0 N w rfl (by omega) (Has.nil _ _ _) (by omega))
 have HO := Y hown
 have hle := Leb.encU_le10 N (by omega)
 have hw : IntKind.u64.wrap (N : Int) = (N : Int) := IntWalk.u64_in _ (by omega)
 clear hown
 generalize Leb.encU N = E at HC hle ⊢
 go_enter Tryz.func160, Tryz.ntmps160
 go_wp2_with fail
 refine HC.out.mono ?_
 rintro e w1 ⟨v1, rfl, ho1, hb1⟩
 rw [List.nil_append, Nat.zero_add] at ho1
 obtain ⟨A1, c1, rfl, _, hn1, hh1⟩ := Has.own ho1
 obtain ⟨v2, w2, hr2, ha2⟩ := aT w1 base E.length c1 v l E A1 ((Mod.of_below (T := fun _ => False) hb1).own HO.out (fun _ _ h => h)) hh1 hn1 (by omega) (Nat.le_trans hb hb1.size)
 have HR2 := Y hr2
 have HA2 := Y (Adds.behind hb1 ha2)
 clear ho1 hh1 hr2 ha2 hb1 hn1 HC HO hw
 go_wp2_with (at_builtin; refine aa rfl (.tmp 5) (.tmp 8) 36 rfl _ _ _ w2 rfl rfl HR2.out ?_)
 go_ret
 exact ⟨_, rfl, HA2.out⟩
theorem gN (base : Nat) (v : Value) (l : List UInt8) (S : Nat → Prop) (A : Option Addr) (c : Nat) (L : List Nat) (w : World) (hown : w.ownsRow base 5 1 v l.length (bytesOf l)) (hb : base ≤ w.heap.size) (hL : HasU w S A L) (hS : ∀ g, S g → v.ownBlock ≠ some g) (hw : ∀ n ∈ L, n < 4294967296)
  (hlen : L.length < 4294967296) (hsz : l.length + 10 * (L.length + 1) ≤ 100000000000000) :
  Calls Tryz.prog 161 #[v, .slice A L.length c] w (aD base v (l ++ (Leb.encU L.length ++ labs L)) w) := by
 obtain ⟨n, hn⟩ : ∃ n, L.length = n := ⟨_, rfl⟩
 have HN := Y hn
 have HC := Y (aM base v l n w hown hb (by omega) (by omega))
 have HW := Y hw
 have HS := Y hS
 have HL := Y hL
 have HOV := Y (own_lt hown)
 have hle := Leb.encU_le10 n (by omega)
 have hwr : IntKind.u32.wrap (n : Int) = (n : Int) := IntWalk.u32_in _ (by omega)
 rw [hn] at hlen hsz ⊢
 clear hown hL hS hw hn
 generalize Leb.encU n = E at HC hle ⊢
 go_enter Tryz.func161, Tryz.ntmps161
 go_wp2_with (go_at_call 160; refine HC.out.mono ?_; rintro e w1 ⟨v1, rfl, ha1⟩; have HA1 := Y ha1; clear ha1)
 clear HC
 go_loopw [0, 14] (fun u i wr => ∃ (j : Nat) (done : List UInt8), j ≤ n ∧ i = .int .i64 (j : Int) ∧ Hid (done = l ++ (E ++ labs (L.take j))) ∧ done.length ≤ l.length + 10 * (j + 1) ∧ Hid (Adds base w v wr u done)) (fun _ i _ => n - (intOf i).toNat)
 case atStart => exact ⟨0, l ++ E, by omega, rfl, Y (by simp [labs]), by simp; omega, HA1⟩
 case round =>
  obtain ⟨j, done, hj, rfl, HD, hdl, HA⟩ := hrel
  by_cases hjn : j < n
  ·obtain ⟨x, hx⟩ : ∃ x, L[j]? = some x := ⟨_, List.getElem?_eq_getElem (by have := HN.out; omega)⟩
   have hLr : HasU wr S A L := HL.out.mod HA.out.2.1 (fun g _ hg e => HS.out g hg e)
   obtain ⟨g, o, rfl, _, hcell⟩ := hLr j x hx
   have hx32 : x < 4294967296 := HW.out x (List.mem_of_getElem? hx)
   have HX := Y hx
   have hji : (j : Int) < (n : Int) := by omega
   have HP := Y (aM base _ done x wr HA.out.1 (Nat.le_trans hb HA.out.2.1.size) hx32 (by omega))
   have hle2 := Leb.encU_le10 x (by omega)
   have hlab : labs (L.take (j + 1)) = labs (L.take j) ++ Leb.encU x := by rw [List.take_add_one, hx]; simp [labs]
   have HLB := Y hlab
   clear hx hLr hlab
   generalize Leb.encU x = EX at HP hle2 HLB
   go_wp2_with (go_at_call 160; refine HP.out.mono ?_; rintro e w2 ⟨v2, rfl, ha2⟩; have HA2 := Y ha2; clear ha2)
   go_roundw
   case rel => exact ⟨j + 1, done ++ EX, by omega, by go_num, Y (by rw [HD.out, HLB.out]; simp), by simp; omega, Y (HA.out.trans HA2.out)⟩
   case measure => simp [intOf]; omega
  ·obtain rfl : j = n := by omega
   go_wp2_with fail
   go_ret
   have h := HD.out
   rw [← HN.out, List.take_length] at h
   rw [← h]
   exact ⟨_, rfl, HA.out⟩
end Go.Proofs.YthkglmkpnhhboaaGreatDoor
