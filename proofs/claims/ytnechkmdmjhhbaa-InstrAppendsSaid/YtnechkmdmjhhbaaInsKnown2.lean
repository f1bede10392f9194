/-
  The statements' first step: the chapter's rows hold: the walk.
-/
import Derived.Test.YtnechkmdmjhhbaaInsKnown
import Derived.Test.YtnechkmdmjhhbaaInsKnown0
namespace Go.Proofs.Ytnechkmdmjhhbaa
open Go.RowKit Ins
theorem HasU.lit (w : World) (l : List Nat) (t : TypeId) (S : Nat → Prop) (hS : S w.heap.size) : HasU (w.alloc (.cells (u32s l).toArray t)) S (some ⟨w.heap.size, 0, none⟩) l := fun k n hk => by
  refine ⟨w.heap.size, 0, rfl, hS, ?_⟩
  rw [Nat.zero_add, World.cell?_alloc_new]
  simp [u32s, hk]
/-- is, of a literal. -/
theorem is_lit (l : List UInt8) (n : Nat) (x : I) (w : World) (cs : Array Value) (v : Value) (hcs : cs = (bytesOf l).toArray) (hn : n = l.length) (hv : v = insVal x none 0) (hxl : x.l = []) (hl : n ≤ 1000) (h : rdInstr l = .ok (x, l.length)) :
    Calls Try.prog 15 #[.slice (some ⟨w.heap.size, 0, none⟩) n n, v] (w.alloc (.cells cs 5)) fun e w' => e = .returned (.bool true) ∧ Below w.heap.size w w' := by
  subst hcs hn hv
  have hh := (Has.lit w l 5).more (B' := (w.alloc (.cells (bytesOf l).toArray 5)).heap.size) (by simp)
  refine (is_any (fun _ => True) _ l l.length x none 0 _ hh (Nat.le_refl _) (by unfold maxLen; omega) (by simp) (by rw [hxl]; exact HasU.nil _ _ _) (by rw [hxl]; simp) h).mono ?_
  rintro e w' ⟨rfl, hb⟩
  exact ⟨rfl, ((Below.refl _ _).alloc (Nat.le_refl _) _).trans (hb.mono (by simp))⟩
/-- is, of a literal with labels. -/
theorem is_lits (l : List UInt8) (n : Nat) (x : I) (w : World) (cs us : Array Value) (v : Value) (hcs : cs = (bytesOf l).toArray) (hus : us = (u32s x.l).toArray) (hn : n = l.length) (hv : v = insVal x (some ⟨w.heap.size + 1, 0, none⟩) x.l.length) (hl : n ≤ 1000) (hxl : x.l.length ≤ 1000) (h : rdInstr l = .ok (x, l.length)) :
    Calls Try.prog 15 #[.slice (some ⟨w.heap.size, 0, none⟩) n n, v] ((w.alloc (.cells cs 5)).alloc (.cells us 23)) fun e w' => e = .returned (.bool true) ∧ Below w.heap.size w w' := by
  subst hcs hus hn hv
  have hh := ((Has.lit w l 5).alloc (by simp) (.cells (u32s x.l).toArray 23)).more (B' := ((w.alloc (.cells (bytesOf l).toArray 5)).alloc (.cells (u32s x.l).toArray 23)).heap.size) (by simp)
  have hu := HasU.lit (w.alloc (.cells (bytesOf l).toArray 5)) x.l 23 (fun _ => True) trivial
  simp only [World.size_alloc] at hu
  refine (is_any (fun _ => True) _ l l.length x (some ⟨w.heap.size + 1, 0, none⟩) x.l.length _ hh (Nat.le_refl _) (by unfold maxLen; omega) (by simp) hu hxl h).mono ?_
  rintro e w' ⟨rfl, hb⟩
  exact ⟨rfl, (((Below.refl _ _).alloc (Nat.le_refl _) _).alloc (by simp) _).trans (hb.mono (by simp <;> omega))⟩
/-- Take, of a literal that is no instruction's. -/
theorem take_lit (l : List UInt8) (n : Nat) (k : Nat) (A : Option Addr) (w : World) (hA : Has w w.heap.size A l) (hn : n = l.length) (hl : n ≤ 1000) (hAc : A = none → n = 0) (h : rdInstr l = .error k) :
    Calls Try.prog 16 #[.slice A n n] w fun e w' => e = .returned (.tuple #[.agg #[.int .u8 0, .int .u32 0, .int .u32 0, .int .i64 0, .slice none 0 0], .int .i64 0, .int .i64 (k : Int)]) ∧ Below w.heap.size w w' := by
  have ht := take_any A l n w hA (by omega) (by unfold maxLen; omega) hAc
  unfold TPost at ht
  rw [h, ← hn] at ht
  exact ht
/-- The five rows that are no instruction's. -/
def fourW (w : World) : World := (((w.alloc (.cells #[.int .u8 2, .int .u8 125] 5)).alloc (.cells #[.int .u8 67] 5)).alloc (.cells #[.int .u8 192] 5)).alloc (.cells #[.int .u8 63, .int .u8 1] 5)
def rowsV (w : World) : Array Value := #[.slice (some ⟨w.heap.size, 0, none⟩) 2 2, .slice (some ⟨w.heap.size + 1, 0, none⟩) 1 1, .slice (some ⟨w.heap.size + 1 + 1, 0, none⟩) 1 1, .slice (some ⟨w.heap.size + 1 + 1 + 1, 0, none⟩) 2 2, .slice (some ⟨w.heap.size + 1 + 1 + 1 + 1, 0, none⟩) 0 0]
def fiveW (w : World) : World := ((fourW w).alloc (.cells #[] 5)).alloc (.cells (rowsV w) 22)
theorem fiveW_below (w : World) : Below w.heap.size w (fiveW w) := by
  unfold fiveW fourW
  exact ((((((Below.refl _ _).alloc (Nat.le_refl _) _).alloc (by simp) _).alloc (by simp <;> omega) _).alloc (by simp <;> omega) _).alloc (by simp <;> omega) _).alloc (by simp <;> omega) _
theorem fiveW_cell (w W : World) (hb : Below (fiveW w).heap.size (fiveW w) W) (j : Nat) (v : Value) (h : (rowsV w)[j]? = some v) : W.cell? ⟨w.heap.size + 1 + 1 + 1 + 1 + 1, j, none⟩ = some v := by
  have e : w.heap.size + 1 + 1 + 1 + 1 + 1 = ((fourW w).alloc (.cells #[] 5)).heap.size := by simp [fourW]
  have h1 : (fiveW w).cell? ⟨w.heap.size + 1 + 1 + 1 + 1 + 1, j, none⟩ = some v := by
    unfold fiveW
    rw [e, World.cell?_alloc_new]
    exact h
  exact (hb.cell (World.block_lt_of_cell? _ _ h1)).trans h1
theorem five_row (w W : World) (hb : Below (fiveW w).heap.size (fiveW w) W) (j : Nat) (hj : j < 5) : ∃ g n l, W.cell? ⟨w.heap.size + 1 + 1 + 1 + 1 + 1, j, none⟩ = some (.slice (some ⟨g, 0, none⟩) (n : Nat) n) ∧ Has W W.heap.size (some ⟨g, 0, none⟩) l ∧ n = l.length ∧ n ≤ 2 ∧ rdInstr l = .error (if j < 2 then 61 else 60) := by
  have go : ∀ (g : Nat) (l : List UInt8), Has (fiveW w) (fiveW w).heap.size (some ⟨g, 0, none⟩) l → Has W W.heap.size (some ⟨g, 0, none⟩) l := fun g l h => h.on hb
  match j, hj with
  | 0, _ =>
    refine ⟨_, 2, [2, 125], fiveW_cell w W hb 0 _ rfl, go _ _ ?_, rfl, by omega, bad1⟩
    have h := (((((Has.lit w [2, 125] 5).alloc (by simp) (.cells #[.int .u8 67] 5)).alloc (by simp <;> omega) (.cells #[.int .u8 192] 5)).alloc (by simp <;> omega) (.cells #[.int .u8 63, .int .u8 1] 5)).alloc (by simp <;> omega) (.cells #[] 5)).alloc (by simp <;> omega) (.cells (rowsV w) 22)
    exact h.more (by simp [fiveW, fourW] <;> omega)
  | 1, _ =>
    refine ⟨_, 1, [67], fiveW_cell w W hb 1 _ rfl, go _ _ ?_, rfl, by omega, bad2⟩
    have h := ((((Has.lit (w.alloc (.cells #[.int .u8 2, .int .u8 125] 5)) [67] 5).alloc (by simp) (.cells #[.int .u8 192] 5)).alloc (by simp <;> omega) (.cells #[.int .u8 63, .int .u8 1] 5)).alloc (by simp <;> omega) (.cells #[] 5)).alloc (by simp <;> omega) (.cells (rowsV w) 22)
    rw [World.size_alloc] at h
    exact h.more (by simp [fiveW, fourW] <;> omega)
  | 2, _ =>
    refine ⟨_, 1, [192], fiveW_cell w W hb 2 _ rfl, go _ _ ?_, rfl, by omega, bad3⟩
    have h := (((Has.lit ((w.alloc (.cells #[.int .u8 2, .int .u8 125] 5)).alloc (.cells #[.int .u8 67] 5)) [192] 5).alloc (by simp) (.cells #[.int .u8 63, .int .u8 1] 5)).alloc (by simp <;> omega) (.cells #[] 5)).alloc (by simp <;> omega) (.cells (rowsV w) 22)
    rw [World.size_alloc, World.size_alloc] at h
    exact h.more (by simp [fiveW, fourW] <;> omega)
  | 3, _ =>
    refine ⟨_, 2, [63, 1], fiveW_cell w W hb 3 _ rfl, go _ _ ?_, rfl, by omega, bad4⟩
    have h := ((Has.lit (((w.alloc (.cells #[.int .u8 2, .int .u8 125] 5)).alloc (.cells #[.int .u8 67] 5)).alloc (.cells #[.int .u8 192] 5)) [63, 1] 5).alloc (by simp) (.cells #[] 5)).alloc (by simp <;> omega) (.cells (rowsV w) 22)
    rw [World.size_alloc, World.size_alloc, World.size_alloc] at h
    exact h.more (by simp [fiveW, fourW] <;> omega)
  | 4, _ => exact ⟨_, 0, [], fiveW_cell w W hb 4 _ rfl, Has.nil _ _ _, rfl, by omega, bad5⟩
/-- TakeExpr, of a literal that is no expression's. -/
theorem expr_lit (l : List UInt8) (n : Nat) (k : Nat) (w : World) (cs : Array Value) (hcs : cs = (bytesOf l).toArray) (hn : n = l.length) (hl : n ≤ 1000) (h : rdExpr (n + 1) [] l = .error k) :
    Calls Try.prog 13 #[.slice (some ⟨w.heap.size, 0, none⟩) n n] (w.alloc (.cells cs 5)) fun e w' => e = .returned (.tuple #[.slice none 0 0, .int .i64 0, .int .i64 (k : Int)]) ∧ Below w.heap.size w w' := by
  subst hcs hn
  have hh := (Has.lit w l 5).more (B' := (w.alloc (.cells (bytesOf l).toArray 5)).heap.size) (by simp)
  have ht := takeExpr_any _ l l.length _ hh (by omega) (Nat.le_refl _) (by unfold maxLen; omega) (by simp)
  unfold TEPost takeExpr at ht
  rw [h] at ht
  refine ht.mono ?_
  rintro e w' ⟨rfl, hb⟩
  exact ⟨rfl, ((Below.refl _ _).alloc (Nat.le_refl _) _).trans (hb.mono (by simp))⟩
def xs1 : List I := [⟨2, 64, 0, 0, []⟩, ⟨1, 0, 0, 0, []⟩, ⟨11, 0, 0, 0, []⟩]
theorem expr_lit1 (w : World) (cs : Array Value) (hcs : cs = (bytesOf [2, 64, 1, 11, 11, 1]).toArray) :
    Calls Try.prog 13 #[.slice (some ⟨w.heap.size, 0, none⟩) 6 6] (w.alloc (.cells cs 5)) fun e w' => ∃ v, e = .returned (.tuple #[v, .int .i64 5, .int .i64 0]) ∧ InsL (w.heap.size + 1) w' v xs1 ∧ Below w.heap.size w w' := by
  subst hcs
  have hh := (Has.lit w [2, 64, 1, 11, 11, 1] 5).more (B' := (w.alloc (.cells (bytesOf [2, 64, 1, 11, 11, 1]).toArray 5)).heap.size) (by simp)
  have ht := takeExpr_any _ [2, 64, 1, 11, 11, 1] 6 _ hh (by simp) (Nat.le_refl _) (by unfold maxLen; omega) (by simp)
  have hr : takeExpr [2, 64, 1, 11, 11, 1] = .ok (xs1, 5) := body1
  unfold TEPost at ht
  rw [hr] at ht
  refine ht.mono ?_
  rintro e w' ⟨v, rfl, hi, hb⟩
  rw [World.size_alloc] at hi
  exact ⟨v, rfl, hi, ((Below.refl _ _).alloc (Nat.le_refl _) _).trans (hb.mono (by simp))⟩
def cs15 : Array Value := #[.int .u8 2, .int .u32 64, .int .u32 0, .int .i64 0, .slice none 0 0, .int .u8 1, .int .u32 0, .int .u32 0, .int .i64 0, .slice none 0 0, .int .u8 11, .int .u32 0, .int .u32 0, .int .i64 0, .slice none 0 0]
theorem lit_hasI (w : World) (t : TypeId) : HasI (w.alloc (.cells cs15 t)) (fun _ => True) (some ⟨w.heap.size, 0, none⟩) xs1 := by
  have hc : ∀ (j : Nat) (u : Value), cs15[j]? = some u → (w.alloc (.cells cs15 t)).cell? ⟨w.heap.size, j, none⟩ = some u := fun j u h => by
    rw [World.cell?_alloc_new]; exact h
  intro k x hk
  match k, hk with
  | 0, hk =>
    obtain rfl : (⟨2, 64, 0, 0, []⟩ : I) = x := Option.some.inj hk
    refine ⟨_, 0, none, 0, rfl, trivial, ⟨by decide, by decide, by decide, by decide, by decide, fun n hn => by simp at hn⟩, by simp, by unfold maxLen; omega, HasU.nil _ _ _, fun j u hj => ?_⟩
    match j, hj with
    | 0, hj => exact hc 0 u hj
    | 1, hj => exact hc 1 u hj
    | 2, hj => exact hc 2 u hj
    | 3, hj => exact hc 3 u hj
    | 4, hj => exact hc 4 u hj
    | j + 5, hj => simp [insCells] at hj
  | 1, hk =>
    obtain rfl : (⟨1, 0, 0, 0, []⟩ : I) = x := Option.some.inj hk
    refine ⟨_, 0, none, 0, rfl, trivial, ⟨by decide, by decide, by decide, by decide, by decide, fun n hn => by simp at hn⟩, by simp, by unfold maxLen; omega, HasU.nil _ _ _, fun j u hj => ?_⟩
    match j, hj with
    | 0, hj => exact hc 5 u hj
    | 1, hj => exact hc 6 u hj
    | 2, hj => exact hc 7 u hj
    | 3, hj => exact hc 8 u hj
    | 4, hj => exact hc 9 u hj
    | j + 5, hj => simp [insCells] at hj
  | 2, hk =>
    obtain rfl : (⟨11, 0, 0, 0, []⟩ : I) = x := Option.some.inj hk
    refine ⟨_, 0, none, 0, rfl, trivial, ⟨by decide, by decide, by decide, by decide, by decide, fun n hn => by simp at hn⟩, by simp, by unfold maxLen; omega, HasU.nil _ _ _, fun j u hj => ?_⟩
    match j, hj with
    | 0, hj => exact hc 10 u hj
    | 1, hj => exact hc 11 u hj
    | 2, hj => exact hc 12 u hj
    | 3, hj => exact hc 13 u hj
    | 4, hj => exact hc 14 u hj
    | j + 5, hj => simp [insCells] at hj
  | k + 3, hk => simp [xs1] at hk
set_option maxRecDepth 100000 in
set_option maxHeartbeats 2000000 in
theorem rows_hold (w : World) : Calls Try.prog 6 #[] w fun e w' => e = .returned (.bool true) ∧ Below w.heap.size w w' := by
  go_enter Try.func6, Try.ntmps6
  go_wp2_with fail
  refine (is_lit [65, 127] 2 ⟨65, 0, 0, -1, []⟩ _ _ _ rfl rfl rfl rfl (by omega) row1).mono ?_
  rintro e w1 ⟨rfl, hb⟩
  have HB1 := Lib.hid hb
  clear hb
  go_wp2_with fail
  refine (is_lit [40, 2, 16] 3 ⟨40, 2, 16, 0, []⟩ _ _ _ rfl rfl rfl rfl (by omega) row2).mono ?_
  rintro e w2 ⟨rfl, hb⟩
  have HB2 := Lib.hid (HB1.out.trans (hb.mono HB1.out.size))
  clear hb HB1
  go_wp2_with fail
  refine (is_lits [14, 2, 0, 1, 2] 5 ⟨14, 2, 0, 0, [0, 1]⟩ _ _ _ _ rfl rfl rfl rfl (by omega) (by decide) row3).mono ?_
  rintro e w3 ⟨rfl, hb⟩
  have HB3 := Lib.hid (HB2.out.trans (hb.mono HB2.out.size))
  clear hb HB2
  go_wp2_with fail
  refine (is_lit [17, 3, 0] 3 ⟨17, 3, 0, 0, []⟩ _ _ _ rfl rfl rfl rfl (by omega) row4).mono ?_
  rintro e w4 ⟨rfl, hb⟩
  have HB4 := Lib.hid (HB3.out.trans (hb.mono HB3.out.size))
  clear hb HB3
  go_wp2_with fail
  have hb5 := fiveW_below w4
  have h5 : ((((((w4.alloc (.cells #[.int .u8 2, .int .u8 125] 5)).alloc (.cells #[.int .u8 67] 5)).alloc (.cells #[.int .u8 192] 5)).alloc (.cells #[.int .u8 63, .int .u8 1] 5)).alloc (.cells #[] 5)).alloc (.cells #[.slice (some ⟨w4.heap.size, 0, none⟩) 2 2, .slice (some ⟨w4.heap.size + 1, 0, none⟩) 1 1, .slice (some ⟨w4.heap.size + 1 + 1, 0, none⟩) 1 1, .slice (some ⟨w4.heap.size + 1 + 1 + 1, 0, none⟩) 2 2, .slice (some ⟨w4.heap.size + 1 + 1 + 1 + 1, 0, none⟩) 0 0] 22)) = fiveW w4 := rfl
  rw [h5]
  have HF := Lib.hid (fun W hb j hj => five_row w4 W hb j hj)
  generalize fiveW w4 = w5 at hb5 HF ⊢
  generalize w4.heap.size + 1 + 1 + 1 + 1 + 1 = X at HF ⊢
  have HB5 := Lib.hid (HB4.out.trans (hb5.mono HB4.out.size))
  clear hb5 HB4 h5
  go_loopw [46] (fun i wr => ∃ j : Nat, j ≤ 5 ∧ i = .int .i64 (j : Int) ∧ Hid (Below w5.heap.size w5 wr)) (fun i _ => 5 - (intOf i).toNat)
  case atStart => exact ⟨0, by omega, rfl, Lib.hid (Below.refl _ _)⟩
  case round =>
    obtain ⟨j, hj, rfl, HB⟩ := hrel
    by_cases hjn : j < 5
    · obtain ⟨g, n, l, hc, hh, hn, hn2, hr⟩ := HF.out wr HB.out j hjn
      by_cases h2 : j < 2
      · rw [if_pos h2] at hr
        have HT := Lib.hid (take_lit l n 61 _ wr hh hn (by omega) (by simp) hr)
        have hji : (j : Int) < 5 := by omega
        have hj2 : (j : Int) < 2 := by omega
        clear hr hh hn
        go_wp2_with fail
        refine HT.out.mono ?_
        rintro e wa ⟨rfl, hb⟩
        have HBa := Lib.hid ((HB.out.trans (hb.mono HB.out.size)).alloc (Nat.le_trans HB.out.size hb.size) (.cells #[.int .u8 0, .int .u32 0, .int .u32 0, .int .i64 0, .slice none 0 0] 26))
        clear hb
        go_wp2_with fail
        go_roundw
        case rel => exact ⟨j + 1, by omega, by go_num, HBa⟩
        case measure => simp [intOf]; omega
      · rw [if_neg h2] at hr
        have HT := Lib.hid (take_lit l n 60 _ wr hh hn (by omega) (by simp) hr)
        have hji : (j : Int) < 5 := by omega
        have hj2 : ¬ (j : Int) < 2 := by omega
        clear hr hh hn
        go_wp2_with fail
        refine HT.out.mono ?_
        rintro e wa ⟨rfl, hb⟩
        have HBa := Lib.hid ((HB.out.trans (hb.mono HB.out.size)).alloc (Nat.le_trans HB.out.size hb.size) (.cells #[.int .u8 0, .int .u32 0, .int .u32 0, .int .i64 0, .slice none 0 0] 26))
        clear hb
        go_wp2_with fail
        go_roundw
        case rel => exact ⟨j + 1, by omega, by go_num, HBa⟩
        case measure => simp [intOf]; omega
    · obtain rfl : j = 5 := by omega
      have HB0 := Lib.hid (HB5.out.trans (HB.out.mono HB5.out.size))
      clear HF HB HB5
      go_wp2_with fail
      refine (expr_lit1 _ _ rfl).mono ?_
      rintro e w6 ⟨v, rfl, ⟨A6, c6, rfl, hl6, hm6, hi6⟩, hb6⟩
      rw [show xs1.length = 3 from rfl]
      have HB6 := Lib.hid (HB0.out.trans (hb6.mono HB0.out.size))
      have HI6 := Lib.hid hi6
      clear hb6 HB0 hl6 hm6 hi6
      go_wp2_with fail
      refine (expr_lit [5, 11] 2 60 _ _ rfl rfl (by omega) body2).mono ?_
      rintro e w7 ⟨rfl, hb7⟩
      have HB7 := Lib.hid (HB6.out.trans (hb7.mono HB6.out.size))
      have HI7 := Lib.hid (HI6.out.mod (Mod.of_below (T := fun _ => False) hb7) (fun _ _ _ h => h))
      clear hb7 HB6 HI6
      go_wp2_with fail
      refine (expr_lit [1] 1 60 _ _ rfl rfl (by omega) body3).mono ?_
      rintro e w8 ⟨rfl, hb8⟩
      have HB8 := Lib.hid (HB7.out.trans (hb8.mono HB7.out.size))
      have HI8 := Lib.hid (HI7.out.mod (Mod.of_below (T := fun _ => False) hb8) (fun _ _ _ h => h))
      clear hb8 HB7 HI7
      go_wp2_with fail
      have HI9 := HI8.out.mod ((Mod.refl (fun _ => False) w8).alloc (.cells cs15 26)) (fun _ _ _ h => h)
      refine (sameAll_any _ (fun _ => True) xs1 A6 (some ⟨w8.heap.size, 0, none⟩) c6 3 (w8.alloc (.cells cs15 26)) HI9 (lit_hasI w8 _) (by decide) (by decide)).mono ?_
      rintro e w9 ⟨rfl, hb9⟩
      have HB9 := Lib.hid ((HB8.out.alloc HB8.out.size (.cells cs15 26)).trans (hb9.mono (by have := HB8.out.size; simp; omega)))
      clear hb9 HB8 HI8 HI9
      go_wp2_with fail
      go_ret
      exact ⟨rfl, HB9.out⟩
end Go.Proofs.Ytnechkmdmjhhbaa
