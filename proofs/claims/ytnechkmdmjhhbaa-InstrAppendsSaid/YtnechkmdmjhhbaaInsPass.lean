/-
  blocks.pass: which blocks are open behind an instruction, in a variable known whole and a row of the call's own.
-/
import Derived.Test.YtnechkmdmjhhbaaInsMem
import Derived.Test.YtnechkmdmjhhbaaInsM
import Derived.OwnWalk
namespace Go.Proofs.Ytnechkmdmjhhbaa
open Go.RowKit Ins
def bools (l : List Bool) : List Value := l.map Value.bool
theorem bools_length (l : List Bool) : (bools l).length = l.length := by simp [bools]
theorem bools_append (a b : List Bool) : bools (a ++ b) = bools a ++ bools b := by simp [bools]
theorem bools_one (l : List Bool) : ∀ u ∈ bools l, u.oneCell' = true := by
  intro u hu
  simp only [bools, List.mem_map] at hu
  obtain ⟨x, _, rfl⟩ := hu
  rfl
theorem und57 : Try.prog.underlying 57 = some (.slice 4) := by kernel_rfl
theorem info4 : (Try.prog.info? 4).map (fun i => (i.zero, i.size, i.bytes)) = some (some (.bool false), 1, 1) := by kernel_rfl
theorem own_form {w : World} {base e size n : Nat} {v : Value} {xs : List Value} (h : w.ownsRow base e size v n xs) : ∃ A c, v = .slice A n c ∧ n ≤ c ∧ c ≤ maxLen := by
  rcases h.2 with ⟨rfl, rfl⟩ | ⟨g, cap, cur, rfl, _, _, h1, h2, _⟩
  · exact ⟨none, 0, rfl, Nat.le_refl _, by unfold maxLen; omega⟩
  · exact ⟨_, cap, rfl, h1, h2⟩
theorem own_form1 {w : World} {base e size n : Nat} {v : Value} {xs : List Value} (h : w.ownsRow base e size v n xs) (hn : 0 < n) : ∃ g c, v = .slice (some ⟨g, 0, none⟩) n c ∧ n ≤ c ∧ c ≤ maxLen ∧ base ≤ g := by
  rcases h.2 with ⟨rfl, rfl⟩ | ⟨g, cap, cur, rfl, hb, _, h1, h2, _⟩
  · omega
  · exact ⟨g, cap, rfl, h1, h2, hb⟩
/-- The blocks that are open, in a variable. -/
def Blocks (w : World) (K base : Nat) (o : List Bool) (own : Option Nat) : Prop :=
  ∃ v m, w.heap[K]? = some (.cells #[v] 57 (0, 0)) ∧ w.ownsRow base 4 1 v m (bools o) ∧ own = v.ownBlock ∧ own ≠ some K
def PassPost (K base : Nat) (o : List Bool) (own : Option Nat) (op : Nat) (w : World) (e : Ending) (w' : World) : Prop :=
  (e = .returned (.bool (Ins.step o op).isSome)) ∧ Mod (fun g => g = K ∨ own = some g) w w' ∧
    ∀ o', Ins.step o op = some o' → ∃ own', Blocks w' K base o' own' ∧ ∀ g, own' = some g → own = some g ∨ w.heap.size ≤ g
/-- An append leaves the row where it was, or lays a new one. -/
theorem append_tight {P : Program} (w : World) (base : Nat) (t ty e : TypeId) (i : TypeInfo) (z : Value) (size bytes : Nat) (ht : P.underlying t = some (.slice e)) (hi : P.info? e = some i) (hz : i.zero = some z)
    (hsize : i.size = size) (hby : i.bytes = bytes) (v : Value) (n : Nat) (xs : List Value) (hown : w.ownsRow base e size v n xs)
    (a : Addr) (m c : Nat) (news : List Value) (hl : news.length = m * size) (hnews : ∀ j u, news[j]? = some u → w.cell? (a.add j) = some u) (h1 : ∀ u ∈ news, u.oneCell' = true) (hm : 0 < m)
    (h63 : n + m ≤ maxLen) (hbytes : (n + m) * bytes ≤ 140737488355328) {v' : Value} {w' : World} (hrun : (Builtin.append_ #[t, t] ty #[v, .slice (some a) m c]).run P w = .ok v' w') :
    ∀ g, v'.ownBlock = some g → v.ownBlock = some g ∨ w.heap.size ≤ g := by
  subst hsize
  subst hby
  have hsmall : n + m ≤ 9223372036854775807 := by simp only [maxLen] at h63; omega
  intro g' hg'
  rcases hown.2 with ⟨rfl, rfl⟩ | ⟨g, cap, cur, rfl, hbg, hg, hnc, hcm, hcs, htake⟩
  · have hr := Go.run_append_nil (P := P) w t ty e i z ht hi hz a m c news hl hnews hm (by omega) (by have hb := hbytes; simp only [Nat.zero_add] at hb; omega)
    rw [hr] at hrun
    injection hrun with h1 h2
    subst h1
    simp [Value.ownBlock] at hg'
    omega
  · by_cases hroom : n + m ≤ cap
    · have hfit : n * i.size + news.length ≤ cur.size := by rw [hl, hcs, ← Nat.add_mul]; exact Nat.mul_le_mul_right _ hroom
      have hr := run_append_room (P := P) w t ty e i ht hi g n cap cur hg a m c news hl hnews h1 hroom hfit
      rw [hr] at hrun
      injection hrun with h1 h2
      subst h1
      exact .inl hg'
    · have holds : ∀ j u, xs[j]? = some u → w.cell? ((⟨g, 0, none⟩ : Addr).add j) = some u := hown.cells (g := g) rfl
      have hr := run_append_grow (P := P) w t ty e i z ht hi hz ⟨g, 0, none⟩ n cap xs hown.1 holds a m c news hl hnews (by omega) (by omega) (growslice_fits (by omega) hbytes)
      rw [hr] at hrun
      injection hrun with h1 h2
      subst h1
      simp [Value.ownBlock] at hg'
      omega
set_option maxRecDepth 100000 in
theorem append1b (w : World) (base n : Nat) (v : Value) (l : List Bool) (x : Bool) (hown : w.ownsRow base 4 1 v n (bools l)) (hsz : n + 1 ≤ 140737488355328) (hb : base ≤ w.heap.size) :
    ∃ v' w', (Builtin.append_ #[57, 57] 57 #[v, .slice (some ⟨w.heap.size, 0, none⟩) 1 1]).run Try.prog (w.alloc (.cells #[.bool x] 4)) = .ok v' w' ∧ w'.ownsRow base 4 1 v' (n + 1) (bools (l ++ [x])) ∧ Mod (fun g => v.ownBlock = some g) w w' ∧ ∀ g, v'.ownBlock = some g → v.ownBlock = some g ∨ w.heap.size ≤ g := by
  obtain ⟨i0, hi, hz0, hz1, hz2⟩ := info_parts info4
  have hown1 := hown.alloc (.cells #[.bool x] 4)
  obtain ⟨v', w', hrun, h2, h3, _⟩ := run_append_own (P := Try.prog) (w.alloc (.cells #[.bool x] 4)) base 57 57 4 i0 (.bool false) 1 1 und57 hi hz0 hz1 hz2 rfl (by decide) v n (bools l) hown1 ⟨w.heap.size, 0, none⟩ 1 1 (bools [x]) rfl (one_new w _ _) (bools_one [x]) (by unfold maxLen; omega) (by omega) (by simp; omega)
  have ht := append_tight (P := Try.prog) _ base 57 57 4 i0 (.bool false) 1 1 und57 hi hz0 hz1 hz2 v n (bools l) hown1 ⟨w.heap.size, 0, none⟩ 1 1 (bools [x]) rfl (one_new w _ _) (bools_one [x]) (by omega) (by unfold maxLen; omega) (by omega) hrun
  refine ⟨v', w', hrun, by rw [bools_append]; exact h2, ((Mod.refl _ w).alloc _).trans (T' := fun g => v.ownBlock = some g) (Mod.of_grown h3 (fun _ h => h)) (fun _ _ h => h), fun g hg => ?_⟩
  rcases ht g hg with h | h
  · exact .inl h
  · exact .inr (by simp at h; omega)
theorem bool_last {o : List Bool} {d : Nat} (h : o.length = d + 1) : o.getLast? = o[d]? := by
  rw [List.getLast?_eq_getElem?, h]; rfl
set_option maxRecDepth 100000 in
set_option maxHeartbeats 2000000 in
theorem pass_push (K base : Nat) (o : List Bool) (own : Option Nat) (op : Nat) (w : World) (h : Blocks w K base o own) (hb : base ≤ w.heap.size) (hlen : o.length < 1000000000000) (hop : op = 2 ∨ op = 3 ∨ op = 4) :
    Calls Try.prog 22 #[.pointer (some ⟨K, 0, none⟩), .int .u8 (op : Int)] w (PassPost K base o own op w) := by
  obtain ⟨v, m, hK, hO, rfl, hne⟩ := h
  obtain ⟨A, c, rfl, hmc, hcm⟩ := own_form hO
  have hm : m = o.length := by have := hO.1; rw [bools_length] at this; omega
  unfold maxLen at hcm
  obtain ⟨x, hx⟩ : ∃ x : Bool, x = ((op : Int) == 4) := ⟨_, rfl⟩
  have hst : Ins.step o op = some (o ++ [x]) := by
    rcases hop with rfl | rfl | rfl <;> subst hx <;> simp [Ins.step]
  have HST := Lib.hid hst
  obtain ⟨v', w', hrun, ho', hm', ht'⟩ := append1b w base m (.slice A m c) o x hO (by omega) hb
  obtain ⟨A', c', rfl, _, _⟩ := own_form ho'
  have k0 : w.cell? ⟨K, 0, none⟩ = some (.slice A m c) := by rw [cell_of_row w K 0 _ _ (0, 0) hK]; rfl
  have hK' := hm'.heap hK (fun e => hne e)
  have kf' : w'.frozen? ⟨K, 0, none⟩ = false := frozen_of_row w' K 0 _ _ hK'
  have k0' : w'.cell? ⟨K, 0, none⟩ = some (.slice A m c) := by rw [cell_of_row w' K 0 _ _ (0, 0) hK']; rfl
  have HK := Lib.hid hK'
  have HRUN := Lib.hid hrun
  have HO := Lib.hid ho'
  have HM := Lib.hid hm'
  have HT := Lib.hid ht'
  have HNE := Lib.hid hne
  have HKL := Lib.hid (Array.getElem?_eq_some_iff.1 hK).1
  clear hrun ho' hm' ht' hne hK hO hst hK' hm
  have fin : ∀ w2, w2 = w'.setCell ⟨K, 0, none⟩ (.slice A' (m + 1) c') → PassPost K base o (Value.slice A m c).ownBlock op w (.returned (.bool true)) w2 := by
    rintro w2 rfl
    refine ⟨by rw [HST.out]; rfl, Mod.setCell (HM.out.more (fun g _ hg => .inr hg)) (fun _ => .inl rfl) _, fun o' ho' => ?_⟩
    rw [HST.out] at ho'
    injection ho' with ho'
    subst ho'
    have hneK : (Value.slice A' (m + 1) c').ownBlock ≠ some K := fun e => by
      rcases HT.out K e with h | h
      · exact HNE.out h
      · have := HKL.out; omega
    exact ⟨(Value.slice A' (m + 1) c').ownBlock, ⟨_, m + 1, by rw [heap_setCell_same w' K 0 _ _ _ HK.out]; rfl, (Mod.setCell (T := (· = K)) (Mod.refl _ w') (fun _ => rfl) _).own HO.out (fun g hg e => hneK (by rw [hg]; exact congrArg some e)), rfl, hneK⟩, HT.out⟩
  have FIN := Lib.hid fin
  clear fin
  rcases hop with rfl | rfl | rfl
  · obtain rfl : x = false := hx
    go_enter Try.func22, Try.ntmps22
    go_wp2_with (at_builtin; refine wpList_appends rfl (.tmp 19) (.tmp 22) 57 rfl _ _ _ w' rfl rfl HRUN.out ?_)
    go_ret
    exact FIN.out _ rfl
  · obtain rfl : x = false := hx
    go_enter Try.func22, Try.ntmps22
    go_wp2_with (at_builtin; refine wpList_appends rfl (.tmp 19) (.tmp 22) 57 rfl _ _ _ w' rfl rfl HRUN.out ?_)
    go_ret
    exact FIN.out _ rfl
  · obtain rfl : x = true := hx
    go_enter Try.func22, Try.ntmps22
    go_wp2_with (at_builtin; refine wpList_appends rfl (.tmp 19) (.tmp 22) 57 rfl _ _ _ w' rfl rfl HRUN.out ?_)
    go_ret
    exact FIN.out _ rfl
set_option maxRecDepth 100000 in
set_option maxHeartbeats 2000000 in
/-- An else, an end where no block is open; an else where none may stand. -/
theorem pass_none (K base : Nat) (o : List Bool) (own : Option Nat) (op : Nat) (w : World) (h : Blocks w K base o own) (hop : op = 5 ∨ op = 11) (hst : Ins.step o op = none) :
    Calls Try.prog 22 #[.pointer (some ⟨K, 0, none⟩), .int .u8 (op : Int)] w (PassPost K base o own op w) := by
  obtain ⟨v, m, hK, hO, rfl, hne⟩ := h
  have hm : m = o.length := by have := hO.1; rw [bools_length] at this; omega
  have fin : PassPost K base o v.ownBlock op w (.returned (.bool false)) w := ⟨by rw [hst]; rfl, Mod.refl _ _, fun o' ho' => by rw [hst] at ho'; cases ho'⟩
  have FIN := Lib.hid fin
  clear fin
  by_cases h0 : m = 0
  · subst h0
    obtain ⟨A, c, rfl, hmc, hcm⟩ := own_form hO
    have k0 : w.cell? ⟨K, 0, none⟩ = some (.slice A 0 c) := by rw [cell_of_row w K 0 _ _ (0, 0) hK]; rfl
    clear hK hO hne hst hm
    rcases hop with rfl | rfl
    all_goals
      go_enter Try.func22, Try.ntmps22
      go_wp2
      go_ret
      exact FIN.out
  · obtain ⟨d, rfl⟩ : ∃ d, m = d + 1 := ⟨m - 1, by omega⟩
    obtain ⟨g, c, rfl, hmc, hcm, hbg⟩ := own_form1 hO (by omega)
    unfold maxLen at hcm
    have k0 : w.cell? ⟨K, 0, none⟩ = some (.slice (some ⟨g, 0, none⟩) (d + 1) c) := by rw [cell_of_row w K 0 _ _ (0, 0) hK]; rfl
    have hb5 : op = 5 := by
      rcases hop with h | rfl
      · exact h
      · simp only [Ins.step] at hst
        simp at hst
        subst hst
        simp at hm
    subst hb5
    have hlast : o[d]? = some false := by
      simp only [Ins.step] at hst
      simp at hst
      rw [bool_last hm.symm] at hst
      have hd : d < o.length := by omega
      rw [List.getElem?_eq_getElem hd] at hst ⊢
      simp at hst
      rw [hst]
    have kd : w.cell? ⟨g, d, none⟩ = some (.bool false) := by
      have := hO.cells (g := g) rfl d (.bool false) (by simp [bools, hlast])
      have e2 : (⟨g, 0, none⟩ : Addr).add d = ⟨g, d, none⟩ := by unfold Addr.add; split <;> simp_all
      rwa [e2] at this
    have hi : (d : Int) < ((d + 1 : Nat) : Int) := by omega
    clear hK hO hne hst hm hop hlast
    go_enter Try.func22, Try.ntmps22
    go_wp2
    go_ret
    exact FIN.out
set_option maxRecDepth 100000 in
set_option maxHeartbeats 2000000 in
/-- An else that may stand. -/
theorem pass_else (K base : Nat) (o : List Bool) (own : Option Nat) (w : World) (h : Blocks w K base o own) (hl : o.getLast? = some true) :
    Calls Try.prog 22 #[.pointer (some ⟨K, 0, none⟩), .int .u8 5] w (PassPost K base o own 5 w) := by
  obtain ⟨v, m, hK, hO, rfl, hne⟩ := h
  have hm : m = o.length := by have := hO.1; rw [bools_length] at this; omega
  have h0 : m ≠ 0 := by
    rintro rfl
    have : o = [] := List.eq_nil_of_length_eq_zero hm.symm
    subst this
    cases hl
  obtain ⟨d, rfl⟩ : ∃ d, m = d + 1 := ⟨m - 1, by omega⟩
  obtain ⟨g, c, rfl, hmc, hcm, hbg⟩ := own_form1 hO (by omega)
  unfold maxLen at hcm
  have k0 : w.cell? ⟨K, 0, none⟩ = some (.slice (some ⟨g, 0, none⟩) (d + 1) c) := by rw [cell_of_row w K 0 _ _ (0, 0) hK]; rfl
  have hst : Ins.step o 5 = some (o.dropLast ++ [false]) := by simp [Ins.step, hl]
  have hld : o[d]? = some true := by rw [← bool_last hm.symm]; exact hl
  have kd : w.cell? ⟨g, d, none⟩ = some (.bool true) := by
    have := hO.cells (g := g) rfl d (.bool true) (by simp [bools, hld])
    have e2 : (⟨g, 0, none⟩ : Addr).add d = ⟨g, d, none⟩ := by unfold Addr.add; split <;> simp_all
    rwa [e2] at this
  have kf := hO.frozenAt d
  obtain ⟨ho2, hg2⟩ := hO.stored d (.bool false)
  have hset : (bools o).set d (.bool false) = bools (o.dropLast ++ [false]) := by
    apply List.ext_getElem?
    intro j
    have hd : d < o.length := by omega
    rw [List.getElem?_set, bools_length]
    simp only [bools, List.getElem?_map]
    by_cases hj : d = j
    · subst hj
      rw [if_pos rfl, if_pos hd, List.getElem?_append_right (by simp; omega)]
      simp
      rw [show d - (o.length - 1) = 0 by omega]
      rfl
    · rw [if_neg hj]
      by_cases hjd : j < d
      · rw [List.getElem?_append_left (by simp; omega), List.getElem?_dropLast, if_pos (by omega)]
      · rw [List.getElem?_eq_none (by omega), List.getElem?_eq_none (by simp; omega)]
  rw [hset] at ho2
  have hgK : g ≠ K := fun e => hne (by subst e; rfl)
  have fin : ∀ w2, w2 = w.setCell ⟨g, d, none⟩ (.bool false) → PassPost K base o (Value.slice (some ⟨g, 0, none⟩) (d + 1) c).ownBlock 5 w (.returned (.bool true)) w2 := by
    rintro w2 rfl
    refine ⟨by rw [hst]; rfl, (Mod.of_grown hg2 (fun k hk => .inr hk)), fun o' ho' => ?_⟩
    rw [hst] at ho'
    injection ho' with ho'
    subst ho'
    exact ⟨_, ⟨_, d + 1, (heap_setCell_other w ⟨g, d, none⟩ K _ (fun e => hgK e.symm)).trans hK, ho2, rfl, hne⟩, fun g hg => .inl hg⟩
  have FIN := Lib.hid fin
  clear fin hK hO hne hst hm hl hld ho2 hg2 hset hgK
  go_enter Try.func22, Try.ntmps22
  go_wp2
  go_ret
  exact FIN.out _ rfl
set_option maxRecDepth 100000 in
set_option maxHeartbeats 2000000 in
/-- An end. -/
theorem pass_end (K base : Nat) (o : List Bool) (own : Option Nat) (w : World) (h : Blocks w K base o own) (hl : o ≠ []) :
    Calls Try.prog 22 #[.pointer (some ⟨K, 0, none⟩), .int .u8 11] w (PassPost K base o own 11 w) := by
  obtain ⟨v, m, hK, hO, rfl, hne⟩ := h
  have hm : m = o.length := by have := hO.1; rw [bools_length] at this; omega
  have h0 : m ≠ 0 := by
    rintro rfl
    exact hl (List.eq_nil_of_length_eq_zero hm.symm)
  obtain ⟨d, rfl⟩ : ∃ d, m = d + 1 := ⟨m - 1, by omega⟩
  obtain ⟨g, c, rfl, hmc, hcm, hbg⟩ := own_form1 hO (by omega)
  unfold maxLen at hcm
  have k0 : w.cell? ⟨K, 0, none⟩ = some (.slice (some ⟨g, 0, none⟩) (d + 1) c) := by rw [cell_of_row w K 0 _ _ (0, 0) hK]; rfl
  have kf : w.frozen? ⟨K, 0, none⟩ = false := frozen_of_row w K 0 _ _ hK
  have hst : Ins.step o 11 = some o.dropLast := by simp [Ins.step, hl]
  have hlast : bools o = bools o.dropLast ++ bools [o.getLast hl] := by rw [← bools_append, List.dropLast_concat_getLast]
  rw [hlast] at hO
  have ho2 := ownsRow_pop (by rw [bools_length]; simp; omega) hO
  have hgK : g ≠ K := fun e => hne (by subst e; rfl)
  have fin : ∀ w2, w2 = w.setCell ⟨K, 0, none⟩ (.slice (some ⟨g, 0, none⟩) d c) → PassPost K base o (Value.slice (some ⟨g, 0, none⟩) (d + 1) c).ownBlock 11 w (.returned (.bool true)) w2 := by
    rintro w2 rfl
    refine ⟨by rw [hst]; rfl, Mod.setCell (Mod.refl _ _) (fun _ => .inl rfl) _, fun o' ho' => ?_⟩
    rw [hst] at ho'
    injection ho' with ho'
    subst ho'
    exact ⟨some g, ⟨.slice (some ⟨g, 0, none⟩) d c, d, by rw [heap_setCell_same w K 0 _ _ _ hK]; rfl, (Mod.setCell (T := (· = K)) (Mod.refl _ w) (fun _ => rfl) _).own ho2 (fun k hk e => hgK ((Option.some.inj hk).trans e)), rfl, hne⟩, fun g hg => .inl hg⟩
  have FIN := Lib.hid fin
  have hdc : d ≤ c := by omega
  clear fin hK hO hne hst hm hl ho2 hgK hlast
  go_enter Try.func22, Try.ntmps22
  go_wp2
  go_ret
  exact FIN.out _ rfl
set_option maxRecDepth 100000 in
set_option maxHeartbeats 2000000 in
/-- Any other instruction. -/
theorem pass_other (K base : Nat) (o : List Bool) (own : Option Nat) (op : Nat) (w : World) (h : Blocks w K base o own) (h2 : op ≠ 2) (h3 : op ≠ 3) (h4 : op ≠ 4) (h5 : op ≠ 5) (h11 : op ≠ 11) :
    Calls Try.prog 22 #[.pointer (some ⟨K, 0, none⟩), .int .u8 (op : Int)] w (PassPost K base o own op w) := by
  have hst : Ins.step o op = some o := by simp [Ins.step, h2, h3, h4, h5, h11]
  have fin : PassPost K base o own op w (.returned (.bool true)) w := ⟨by rw [hst]; rfl, Mod.refl _ _, fun o' ho' => by rw [hst] at ho'; injection ho' with ho'; subst ho'; exact ⟨own, h, fun g hg => .inl hg⟩⟩
  obtain ⟨v, m, hK, hO, rfl, hne⟩ := h
  obtain ⟨A, c, rfl, hmc, hcm⟩ := own_form hO
  unfold maxLen at hcm
  have k0 : w.cell? ⟨K, 0, none⟩ = some (.slice A m c) := by rw [cell_of_row w K 0 _ _ (0, 0) hK]; rfl
  have FIN := Lib.hid fin
  have e2 : ((op : Int) == 2) = false := by simp; omega
  have e3 : ((op : Int) == 3) = false := by simp; omega
  have e4 : ((op : Int) == 4) = false := by simp; omega
  have e5 : ((op : Int) == 5) = false := by simp; omega
  have e11 : ((op : Int) == 11) = false := by simp; omega
  clear fin hK hO hne hst h2 h3 h4 h5 h11
  go_enter Try.func22, Try.ntmps22
  go_wp2
  go_ret
  exact FIN.out
/-- pass, of any instruction. -/
theorem pass_any (K base : Nat) (o : List Bool) (own : Option Nat) (op : Nat) (w : World) (h : Blocks w K base o own) (hb : base ≤ w.heap.size) (hlen : o.length < 1000000000000) :
    Calls Try.prog 22 #[.pointer (some ⟨K, 0, none⟩), .int .u8 (op : Int)] w (PassPost K base o own op w) := by
  by_cases h1 : op = 2 ∨ op = 3 ∨ op = 4
  · exact pass_push K base o own op w h hb hlen h1
  · by_cases h5 : op = 5
    · subst h5
      by_cases hl : o.getLast? = some true
      · exact pass_else K base o own w h hl
      · exact pass_none K base o own 5 w h (.inl rfl) (by simp [Ins.step, hl])
    · by_cases h11 : op = 11
      · subst h11
        by_cases hl : o = []
        · exact pass_none K base o own 11 w h (.inr rfl) (by simp [Ins.step, hl])
        · exact pass_end K base o own w h hl
      · exact pass_other K base o own op w h (by omega) (by omega) (by omega) h5 h11
end Go.Proofs.Ytnechkmdmjhhbaa
