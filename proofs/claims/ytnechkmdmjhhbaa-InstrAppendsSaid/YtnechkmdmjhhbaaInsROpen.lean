/-
  The document's Open: which blocks are open behind an instruction, in a row of the call's own.
-/
import Derived.Test.YtnechkmdmjhhbaaInsPass
import Derived.Laws.OwnMore
namespace Ins
/-- Which blocks are open, of the document's codes: an else may stand where the last one is 2. -/
def opensOf (L : List Nat) : List Bool := L.map (· == 2)
/-- The document's codes behind an instruction. -/
def openR (L : List Nat) (op : Nat) : Option (List Nat) :=
  if op = 2 ∨ op = 3 then some (L ++ [1])
  else if op = 4 then some (L ++ [2])
  else if op = 5 then (if L.getLast? = some 2 then some (L.dropLast ++ [3]) else none)
  else if op = 11 then (if L = [] then none else some L.dropLast)
  else some L
theorem step_openR (L : List Nat) (op : Nat) : step (opensOf L) op = (openR L op).map opensOf := by
  unfold step openR opensOf
  by_cases h1 : op = 2 ∨ op = 3
  · rw [if_pos h1, if_pos h1]; simp
  · rw [if_neg h1, if_neg h1]
    by_cases h2 : op = 4
    · rw [if_pos h2, if_pos h2]; simp
    · rw [if_neg h2, if_neg h2]
      by_cases h3 : op = 5
      · rw [if_pos h3, if_pos h3, List.getLast?_map]
        cases hL : L.getLast? with
        | none => simp
        | some k =>
          by_cases hk : k = 2
          · subst hk; simp [List.map_dropLast]
          · have hk' : (k == 2) = false := by simp [hk]
            simp [hk', hk]
      · rw [if_neg h3, if_neg h3]
        by_cases h4 : op = 11
        · rw [if_pos h4, if_pos h4]
          by_cases h5 : L = []
          · subst h5; simp
          · simp [h5, List.map_dropLast]
        · rw [if_neg h4, if_neg h4]; simp
theorem openR_len {L L' : List Nat} {op : Nat} (h : openR L op = some L') : L'.length ≤ L.length + 1 := by
  unfold openR at h
  (repeat' split at h) <;> simp at h <;> subst h <;> simp
  omega
end Ins
namespace Go.Proofs.Ytnechkmdmjhhbaa
open Go.RowKit Ins
def codes (L : List Nat) : List Value := L.map fun k : Nat => Value.int .i64 (k : Int)
theorem codes_length (L : List Nat) : (codes L).length = L.length := by simp [codes]
theorem codes_append (a b : List Nat) : codes (a ++ b) = codes a ++ codes b := by simp [codes]
theorem codes_one (L : List Nat) : ∀ u ∈ codes L, u.oneCell' = true := by
  intro u hu
  simp only [codes, List.mem_map] at hu
  obtain ⟨x, _, rfl⟩ := hu
  rfl
theorem und59 : Try.prog.underlying 59 = some (.slice 3) := by kernel_rfl
theorem info3i : (Try.prog.info? 3).map (fun i => (i.zero, i.size, i.bytes)) = some (some (.int .i64 0), 1, 8) := by kernel_rfl
/-- What a call of the document's Open comes to. -/
def ROPost (L : List Nat) (op : Nat) (w : World) (e : Ending) (w' : World) : Prop :=
  Below w.heap.size w w' ∧ match openR L op with
    | none => e = .returned (.tuple #[.slice none 0 0, .bool false])
    | some L' => ∃ v, e = .returned (.tuple #[v, .bool true]) ∧ w'.ownsRow w.heap.size 3 1 v L'.length (codes L')
/-- Codes laid in a row of their own. -/
theorem copy_codes (w : World) (b : Nat) (v : Value) (L : List Nat) (hO : w.ownsRow b 3 1 v L.length (codes L)) (hlen : L.length < 1000000000000) :
    ∃ v' w', (Builtin.append_ #[59, 59] 59 #[.slice (some ⟨w.heap.size, 0, none⟩) 0 0, v]).run Try.prog (w.alloc (.cells #[] 3)) = .ok v' w' ∧ w'.ownsRow w.heap.size 3 1 v' L.length (codes L) ∧ Below w.heap.size w w' := by
  obtain ⟨i0, hi, hz0, hz1, hz2⟩ := info_parts info3i
  have hb0 : Below w.heap.size w (w.alloc (.cells #[] 3)) := (Below.refl _ _).alloc (Nat.le_refl _) _
  have hown0 : (w.alloc (.cells #[] 3)).ownsRow w.heap.size 3 1 (.slice (some ⟨w.heap.size, 0, none⟩) 0 0) 0 (codes []) := World.ownsRow_lit w #[] 0 (Nat.le_refl _) (by unfold maxLen; omega) rfl
  have hO1 := hO.alloc (.cells #[] 3)
  rcases hO.2 with ⟨rfl, h⟩ | ⟨g, cap, cur, rfl, _⟩
  · refine ⟨_, _, run_append_owned_none (P := Try.prog) _ w.heap.size 59 59 3 i0 1 und59 hi _ 0 _ hown0, ?_, hb0⟩
    have h0 : L = [] := by
      cases L with
      | nil => rfl
      | cons x r => simp at h
    subst h0
    exact hown0
  · have hnews : ∀ j u, (codes L)[j]? = some u → (w.alloc (.cells #[] 3)).cell? ((⟨g, 0, none⟩ : Addr).add j) = some u := hO1.cells (g := g) rfl
    obtain ⟨v', w', hrun, h2, h3, _⟩ := run_append_own (P := Try.prog) (w.alloc (.cells #[] 3)) w.heap.size 59 59 3 i0 (.int .i64 0) 1 8 und59 hi hz0 hz1 hz2 rfl (by decide) _ 0 (codes []) hown0 ⟨g, 0, none⟩ L.length cap (codes L) (by rw [codes_length, Nat.mul_one]) hnews (codes_one L) (by unfold maxLen; omega) (by omega) (by simp)
    rw [Nat.zero_add] at h2
    refine ⟨v', w', hrun, h2, ?_⟩
    have hm : Mod (fun k => k = w.heap.size) (w.alloc (.cells #[] 3)) w' := Mod.of_grown h3 (fun k hk => by simp [Value.ownBlock] at hk; omega)
    exact hb0.trans (hm.below (by simp) (fun k hk e => by omega))
/-- One code more. -/
theorem append_code (w : World) (base : Nat) (v : Value) (L : List Nat) (k : Nat) (hown : w.ownsRow base 3 1 v L.length (codes L)) (hlen : L.length < 1000000000000) (hb : base ≤ w.heap.size) (hv : ∀ g, v.ownBlock = some g → base ≤ g) :
    ∃ v' w', (Builtin.append_ #[59, 59] 59 #[v, .slice (some ⟨w.heap.size, 0, none⟩) 1 1]).run Try.prog (w.alloc (.cells #[.int .i64 (k : Int)] 3)) = .ok v' w' ∧ w'.ownsRow base 3 1 v' (L ++ [k]).length (codes (L ++ [k])) ∧ Below base w w' := by
  obtain ⟨i0, hi, hz0, hz1, hz2⟩ := info_parts info3i
  have hown1 := hown.alloc (.cells #[.int .i64 (k : Int)] 3)
  obtain ⟨v', w', hrun, h2, h3, _⟩ := run_append_own (P := Try.prog) (w.alloc (.cells #[.int .i64 (k : Int)] 3)) base 59 59 3 i0 (.int .i64 0) 1 8 und59 hi hz0 hz1 hz2 rfl (by decide) v L.length (codes L) hown1 ⟨w.heap.size, 0, none⟩ 1 1 (codes [k]) rfl (one_new w _ _) (codes_one [k]) (by unfold maxLen; omega) (by omega) (by simp; omega)
  refine ⟨v', w', hrun, by rw [codes_append, List.length_append]; exact h2, ?_⟩
  have hm : Mod (fun g => v.ownBlock = some g) w w' := ((Mod.refl _ w).alloc _).trans (T' := fun g => v.ownBlock = some g) (Mod.of_grown h3 (fun _ h => h)) (fun _ _ h => h)
  exact hm.below hb (fun g hg e => by have := hv g e; omega)
theorem last_at {L : List Nat} {d : Nat} (h : L.length = d + 1) : L.getLast? = L[d]? := by
  rw [List.getLast?_eq_getElem?, h]; rfl
set_option maxRecDepth 100000 in
set_option maxHeartbeats 2000000 in
theorem ropen_push (b : Nat) (v : Value) (L : List Nat) (op : Nat) (w : World) (hO : w.ownsRow b 3 1 v L.length (codes L)) (hlen : L.length < 1000000000) (hop : op = 2 ∨ op = 3 ∨ op = 4) :
    Calls Try.prog 23 #[v, .int .u8 (op : Int)] w (ROPost L op w) := by
  obtain ⟨k, hk⟩ : ∃ k : Nat, k = if op = 4 then 2 else 1 := ⟨_, rfl⟩
  have hst : openR L op = some (L ++ [k]) := by
    rcases hop with rfl | rfl | rfl <;> subst hk <;> simp [openR]
  obtain ⟨v1, w1, hr1, ho1, hb1⟩ := copy_codes w b v L hO (by omega)
  obtain ⟨v2, w2, hr2, ho2, hb2⟩ := append_code w1 w.heap.size v1 L k ho1 (by omega) hb1.size (own_ge ho1)
  have FIN : Hid (ROPost L op w (.returned (.tuple #[v2, .bool true])) w2) := Lib.hid ⟨hb1.trans (hb2.mono (Nat.le_refl _)), by rw [hst]; exact ⟨v2, rfl, ho2⟩⟩
  obtain ⟨A, c, rfl, hmc, hcm⟩ := own_form hO
  obtain ⟨A1, c1, rfl, hmc1, hcm1⟩ := own_form ho1
  unfold maxLen at hcm hcm1
  have HR1 := Lib.hid hr1
  have HR2 := Lib.hid hr2
  clear hr1 hr2 ho1 ho2 hb1 hb2 hO hst
  generalize L.length = n at HR1 HR2 hmc hmc1 hlen ⊢
  rcases hop with rfl | rfl | rfl
  · obtain rfl : k = 1 := hk
    go_enter Try.func23, Try.ntmps23
    go_wp2_with (first | (at_builtin; refine wpList_appends rfl (.tmp 8) (.tmp 9) 59 rfl _ _ _ w1 rfl rfl HR1.out ?_) | (at_builtin; refine wpList_appends rfl (.tmp 17) (.tmp 18) 59 rfl _ _ _ w2 rfl rfl HR2.out ?_))
    go_ret2
    exact FIN.out
  · obtain rfl : k = 1 := hk
    go_enter Try.func23, Try.ntmps23
    go_wp2_with (first | (at_builtin; refine wpList_appends rfl (.tmp 8) (.tmp 9) 59 rfl _ _ _ w1 rfl rfl HR1.out ?_) | (at_builtin; refine wpList_appends rfl (.tmp 17) (.tmp 18) 59 rfl _ _ _ w2 rfl rfl HR2.out ?_))
    go_ret2
    exact FIN.out
  · obtain rfl : k = 2 := hk
    go_enter Try.func23, Try.ntmps23
    go_wp2_with (first | (at_builtin; refine wpList_appends rfl (.tmp 8) (.tmp 9) 59 rfl _ _ _ w1 rfl rfl HR1.out ?_) | (at_builtin; refine wpList_appends rfl (.tmp 22) (.tmp 23) 59 rfl _ _ _ w2 rfl rfl HR2.out ?_))
    go_ret2
    exact FIN.out
set_option maxRecDepth 100000 in
set_option maxHeartbeats 2000000 in
theorem ropen_other (b : Nat) (v : Value) (L : List Nat) (op : Nat) (w : World) (hO : w.ownsRow b 3 1 v L.length (codes L)) (hlen : L.length < 1000000000) (h2 : op ≠ 2) (h3 : op ≠ 3) (h4 : op ≠ 4) (h5 : op ≠ 5) (h11 : op ≠ 11) :
    Calls Try.prog 23 #[v, .int .u8 (op : Int)] w (ROPost L op w) := by
  have hst : openR L op = some L := by simp [openR, h2, h3, h4, h5, h11]
  obtain ⟨v1, w1, hr1, ho1, hb1⟩ := copy_codes w b v L hO (by omega)
  have FIN : Hid (ROPost L op w (.returned (.tuple #[v1, .bool true])) w1) := Lib.hid ⟨hb1, by rw [hst]; exact ⟨v1, rfl, ho1⟩⟩
  obtain ⟨A, c, rfl, hmc, hcm⟩ := own_form hO
  obtain ⟨A1, c1, rfl, hmc1, hcm1⟩ := own_form ho1
  unfold maxLen at hcm hcm1
  have HR1 := Lib.hid hr1
  have e2 : ((op : Int) == 2) = false := by simp; omega
  have e3 : ((op : Int) == 3) = false := by simp; omega
  have e4 : ((op : Int) == 4) = false := by simp; omega
  have e5 : ((op : Int) == 5) = false := by simp; omega
  have e11 : ((op : Int) == 11) = false := by simp; omega
  clear hr1 ho1 hb1 hO hst h2 h3 h4 h5 h11
  generalize L.length = n at HR1 FIN hmc hmc1 hlen ⊢
  go_enter Try.func23, Try.ntmps23
  go_wp2_with (at_builtin; refine wpList_appends rfl (.tmp 8) (.tmp 9) 59 rfl _ _ _ w1 rfl rfl HR1.out ?_)
  go_ret2
  exact FIN.out
set_option maxRecDepth 100000 in
set_option maxHeartbeats 2000000 in
theorem ropen_nil (b : Nat) (v : Value) (op : Nat) (w : World) (hO : w.ownsRow b 3 1 v 0 (codes [])) (hop : op = 5 ∨ op = 11) :
    Calls Try.prog 23 #[v, .int .u8 (op : Int)] w (ROPost [] op w) := by
  have hst : openR [] op = none := by rcases hop with rfl | rfl <;> simp [openR]
  obtain ⟨v1, w1, hr1, ho1, hb1⟩ := copy_codes w b v [] hO (by simp)
  have FIN : Hid (ROPost [] op w (.returned (.tuple #[.slice none 0 0, .bool false])) w1) := Lib.hid ⟨hb1, by rw [hst]⟩
  obtain ⟨A, c, rfl, hmc, hcm⟩ := own_form hO
  obtain ⟨A1, c1, rfl, hmc1, hcm1⟩ := own_form ho1
  unfold maxLen at hcm hcm1
  have HR1 := Lib.hid hr1
  clear hr1 ho1 hb1 hO hst
  simp only [List.length_nil] at HR1
  rcases hop with rfl | rfl
  all_goals
    go_enter Try.func23, Try.ntmps23
    go_wp2_with (at_builtin; refine wpList_appends rfl (.tmp 8) (.tmp 9) 59 rfl _ _ _ w1 rfl rfl HR1.out ?_)
    go_ret2
    exact FIN.out
set_option maxRecDepth 100000 in
set_option maxHeartbeats 2000000 in
theorem ropen_else (b : Nat) (v : Value) (L : List Nat) (w : World) (hO : w.ownsRow b 3 1 v L.length (codes L)) (hlen : L.length < 1000000000) (hL : L ≠ []) :
    Calls Try.prog 23 #[v, .int .u8 5] w (ROPost L 5 w) := by
  obtain ⟨d, hd⟩ : ∃ d, L.length = d + 1 := ⟨L.length - 1, by have := List.length_pos_iff.2 hL; omega⟩
  obtain ⟨v1, w1, hr1, ho1, hb1⟩ := copy_codes w b v L hO (by omega)
  obtain ⟨A, c, rfl, hmc, hcm⟩ := own_form hO
  obtain ⟨g, c1, rfl, hmc1, hcm1, hbg⟩ := own_form1 ho1 (by omega)
  unfold maxLen at hcm hcm1
  obtain ⟨k, hk⟩ : ∃ k, L[d]? = some k := ⟨_, List.getElem?_eq_getElem (by omega)⟩
  have kd : w1.cell? ⟨g, d, none⟩ = some (.int .i64 (k : Int)) := by
    have := ho1.cells (g := g) rfl d (.int .i64 (k : Int)) (by simp [codes, hk])
    have e2 : (⟨g, 0, none⟩ : Addr).add d = ⟨g, d, none⟩ := by unfold Addr.add; split <;> simp_all
    rwa [e2] at this
  have HR1 := Lib.hid hr1
  have hd1 : (d : Int) < ((d + 1 : Nat) : Int) := by omega
  have hd0 : (((d + 1 : Nat) : Int) == 0) = false := by simp; omega
  have hlast := last_at hd
  rw [hk] at hlast
  by_cases hk2 : k = 2
  · subst hk2
    have hst : openR L 5 = some (L.dropLast ++ [3]) := by simp [openR, hlast]
    have kf := ho1.frozenAt d
    obtain ⟨ho2, hg2⟩ := ho1.stored d (.int .i64 3)
    have hset : (codes L).set d (.int .i64 3) = codes (L.dropLast ++ [3]) := by
      apply List.ext_getElem?
      intro j
      rw [List.getElem?_set, codes_length]
      simp only [codes, List.getElem?_map]
      by_cases hj : d = j
      · subst hj
        rw [if_pos rfl, if_pos (by omega), List.getElem?_append_right (by simp; omega)]
        simp
        rw [show d - (L.length - 1) = 0 by omega]
        rfl
      · rw [if_neg hj]
        by_cases hjd : j < d
        · rw [List.getElem?_append_left (by simp; omega), List.getElem?_dropLast, if_pos (by omega)]
        · rw [List.getElem?_eq_none (by omega), List.getElem?_eq_none (by simp; omega)]
    rw [hset] at ho2
    have hl2 : (L.dropLast ++ [3]).length = d + 1 := by simp; omega
    have FIN : Hid (ROPost L 5 w (.returned (.tuple #[.slice (some ⟨g, 0, none⟩) (d + 1) c1, .bool true])) (w1.setCell ⟨g, d, none⟩ (.int .i64 3))) := Lib.hid ⟨hb1.trans ((Mod.of_grown (T := fun k => k = g) hg2 (fun k hk => by simp at hk; omega)).below hb1.size (fun k hk e => by omega)), by rw [hst]; exact ⟨_, rfl, by rw [hl2]; rw [hd] at ho2; exact ho2⟩⟩
    rw [hd] at HR1 hmc hmc1 ⊢
    clear ho1 ho2 hg2 hset hst hO hr1 hb1 hlast hk hL hd hl2
    go_enter Try.func23, Try.ntmps23
    go_wp2_with (at_builtin; refine wpList_appends rfl (.tmp 8) (.tmp 9) 59 rfl _ _ _ w1 rfl rfl HR1.out ?_)
    go_ret2
    exact FIN.out
  · have hst : openR L 5 = none := by simp [openR, hlast, hk2]
    have FIN : Hid (ROPost L 5 w (.returned (.tuple #[.slice none 0 0, .bool false])) w1) := Lib.hid ⟨hb1, by rw [hst]⟩
    have hkn : ((k : Int) != 2) = true := by simp; omega
    rw [hd] at HR1 hmc hmc1 ⊢
    clear ho1 hst hO hr1 hb1 hlast hk hL hd hk2
    go_enter Try.func23, Try.ntmps23
    go_wp2_with (at_builtin; refine wpList_appends rfl (.tmp 8) (.tmp 9) 59 rfl _ _ _ w1 rfl rfl HR1.out ?_)
    go_ret2
    exact FIN.out
set_option maxRecDepth 100000 in
set_option maxHeartbeats 2000000 in
theorem ropen_end (b : Nat) (v : Value) (L : List Nat) (w : World) (hO : w.ownsRow b 3 1 v L.length (codes L)) (hlen : L.length < 1000000000) (hL : L ≠ []) :
    Calls Try.prog 23 #[v, .int .u8 11] w (ROPost L 11 w) := by
  obtain ⟨d, hd⟩ : ∃ d, L.length = d + 1 := ⟨L.length - 1, by have := List.length_pos_iff.2 hL; omega⟩
  obtain ⟨v1, w1, hr1, ho1, hb1⟩ := copy_codes w b v L hO (by omega)
  obtain ⟨A, c, rfl, hmc, hcm⟩ := own_form hO
  obtain ⟨g, c1, rfl, hmc1, hcm1, hbg⟩ := own_form1 ho1 (by omega)
  unfold maxLen at hcm hcm1
  have hst : openR L 11 = some L.dropLast := by simp [openR, hL]
  have hlast : codes L = codes L.dropLast ++ codes [L.getLast hL] := by rw [← codes_append, List.dropLast_concat_getLast]
  have hl2 : L.dropLast.length = d := by simp; omega
  rw [hlast, hd] at ho1
  have ho2 := ownsRow_pop (by rw [codes_length]; simp; omega) ho1
  have HR1 := Lib.hid hr1
  have hdc : d ≤ c1 := by omega
  have hd0 : (((d + 1 : Nat) : Int) == 0) = false := by simp; omega
  have FIN : Hid (ROPost L 11 w (.returned (.tuple #[.slice (some ⟨g, 0, none⟩) d c1, .bool true])) w1) := Lib.hid ⟨hb1, by rw [hst]; exact ⟨_, rfl, by rw [hl2]; exact ho2⟩⟩
  rw [hd] at HR1 hmc hmc1 ⊢
  clear ho1 ho2 hst hO hr1 hb1 hlast hL hd hl2
  go_enter Try.func23, Try.ntmps23
  go_wp2_with (at_builtin; refine wpList_appends rfl (.tmp 8) (.tmp 9) 59 rfl _ _ _ w1 rfl rfl HR1.out ?_)
  go_ret2
  exact FIN.out
/-- The document's Open, of any instruction. -/
theorem ropen_any (b : Nat) (v : Value) (L : List Nat) (op : Nat) (w : World) (hO : w.ownsRow b 3 1 v L.length (codes L)) (hlen : L.length < 1000000000) :
    Calls Try.prog 23 #[v, .int .u8 (op : Int)] w (ROPost L op w) := by
  by_cases h1 : op = 2 ∨ op = 3 ∨ op = 4
  · exact ropen_push b v L op w hO hlen h1
  · by_cases hL : L = []
    · subst hL
      by_cases h5 : op = 5 ∨ op = 11
      · exact ropen_nil b v op w hO h5
      · exact ropen_other b v [] op w hO hlen (by omega) (by omega) (by omega) (by omega) (by omega)
    · by_cases h5 : op = 5
      · subst h5; exact ropen_else b v L w hO hlen hL
      · by_cases h11 : op = 11
        · subst h11; exact ropen_end b v L w hO hlen hL
        · exact ropen_other b v L op w hO hlen (by omega) (by omega) (by omega) h5 h11
end Go.Proofs.Ytnechkmdmjhhbaa
