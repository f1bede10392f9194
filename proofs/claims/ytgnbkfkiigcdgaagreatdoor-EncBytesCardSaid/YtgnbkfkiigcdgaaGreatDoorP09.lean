/-
  The document's Find: an opcode's row, and whether there is one.
-/
import Derived.Test.YtgnbkfkiigcdgaaGreatDoorP08
import Derived.Test.YtgnbkfkiigcdgaaGreatDoorP06
import Derived.Deep.RegionHeld3
import Derived.Lib.Hide
import Derived.Test.YtgnbkfkiigcdgaaGreatDoorP01
import Derived.Orders
import Derived.Deep.Cut
namespace Opc
def NoneOf (p : Row → Bool) (l : List Row) (k : Nat) : Prop := ∀ j r, j < k → l[j]? = some r → p r = false
theorem noneOf_zero (p : Row → Bool) (l : List Row) : NoneOf p l 0 := fun _ _ h => absurd h (Nat.not_lt_zero _)
theorem noneOf_succ {p : Row → Bool} {l : List Row} {k : Nat} {r : Row} (hr : l[k]? = some r) (h : p r = false) (hno : NoneOf p l k) : NoneOf p l (k + 1) := fun j r' hj hr' => by
  by_cases hjk : j = k
  · subst hjk
    rw [hr] at hr'
    injection hr' with hr'
    subst hr'
    exact h
  · exact hno j r' (by omega) hr'
theorem find_of {p : Row → Bool} : ∀ {l : List Row} {k : Nat} {r : Row}, l[k]? = some r → p r = true → NoneOf p l k → l.find? p = some r
  | [], _, _, hr, _, _ => by simp at hr
  | x :: l, 0, r, hr, h, _ => by
    simp at hr; subst hr
    simp [h]
  | x :: l, k + 1, r, hr, h, hno => by
    have hx : p x = false := hno 0 x (by omega) rfl
    rw [List.find?_cons, hx]
    exact find_of (by simpa using hr) h (fun j r' hj hr' => hno (j + 1) r' (by omega) (by simpa using hr'))
theorem find_no {p : Row → Bool} {l : List Row} {k : Nat} (hk : l.length ≤ k) (hno : NoneOf p l k) : l.find? p = Option.none := by
  rw [List.find?_eq_none]
  intro x hx
  obtain ⟨j, hj, rfl⟩ := List.mem_iff_getElem.1 hx
  rw [hno j l[j] (by omega) (List.getElem?_eq_getElem hj)]
  simp
end Opc
namespace Go.Proofs.YtgnbkfkiigcdgaaGreatDoor
open Go.RowKit
def aggD : TypeDesc → Bool
  | .struct _ => true
  | .array _ _ => true
  | _ => false
theorem results_cell_tmp {P : Program} {fn : Func} {p q : Tmp} {ty : TypeId} (h : fn.results = #[.cell p ty, .tmp q]) (tmps : Array Value) (w : World) (g : Nat) (t : TypeId) (cs : Array Value) (fr : Nat × Nat) (d : TypeDesc)
    (hp : tmps.getD p undef = .pointer (some ⟨g, 0, none⟩)) (hg : w.heap[g]? = some (.cells cs t fr))
    (hu : P.underlying ty = some d) (hd : aggD d = true) (hi : (P.info? ty).map (·.size) = some cs.size) (b : Value) (hb : tmps.getD q undef = b) :
    (results fn tmps).run P w = .ok (.tuple #[.agg cs, b]) w := by
  have hp' : tmps[p]?.getD undef = .pointer (some ⟨g, 0, none⟩) := by simpa using hp
  have hb' : tmps[q]?.getD undef = b := by simpa using hb
  simp [results, h, hp', hb', asAddr, run_loadVar_row w g t ty cs fr d hg hu (by cases d <;> first | rfl | cases hd) hi]
def zero24 : Array Value := #[.int .u8 0, .string ⟨#[]⟩, .int .u8 0, .string ⟨#[]⟩, .int .i64 0]
theorem size24 (r : Opc.Row) : (Tryz.prog.info? 187).map (·.size) = some (rowCells r).toArray.size := by
  have h : (Tryz.prog.info? 187).map (·.size) = some 5 := by kernel_rfl
  rw [h]; rfl
theorem und24d : ∃ d, Tryz.prog.underlying 187 = some d ∧ aggD d = true := by
  have h : (Tryz.prog.underlying 187).map aggD = some true := by kernel_rfl
  obtain ⟨d, h1, h2⟩ := Option.map_eq_some_iff.1 h
  exact ⟨d, h1, h2⟩
theorem rowCells_one (r : Opc.Row) : ∀ u ∈ rowCells r, u.oneCell' = true := fun u hu => flat_one [r] u (by simpa [flat] using hu)
theorem row_at {w : World} {base n g c : Nat} {l : List Opc.Row} (h : w.ownsRow base 187 5 (.slice (some ⟨g, 0, none⟩) n c) n (flat l)) {k : Nat} {r : Opc.Row} (hr : l[k]? = some r) :
    w.cell? ⟨g, k * 5, none⟩ = some (.int .u8 (r.op : Int)) ∧ w.cell? ⟨g, k * 5 + 1, none⟩ = some (.string ⟨r.name.toArray⟩) ∧ w.cell? ⟨g, k * 5 + 2, none⟩ = some (.int .u8 (r.form : Int)) ∧ w.cell? ⟨g, k * 5 + 3, none⟩ = some (.string ⟨r.sig.toArray⟩) ∧ w.cell? ⟨g, k * 5 + 4, none⟩ = some (.int .i64 (r.width : Int)) :=
  ⟨own_cells h _ _ (flat_at l k r hr 0 (by decide)), own_cells h _ _ (flat_at l k r hr 1 (by decide)), own_cells h _ _ (flat_at l k r hr 2 (by decide)), own_cells h _ _ (flat_at l k r hr 3 (by decide)), own_cells h _ _ (flat_at l k r hr 4 (by decide))⟩
/-- What a call of the document's Find comes to. -/
def FindPost (o : Option Opc.Row) (w : World) (e : Ending) (w' : World) : Prop :=
  e = .returned (.tuple #[.agg (rowCells (o.getD Opc.none)).toArray, .bool o.isSome]) ∧ Below w.heap.size w w'
set_option maxRecDepth 100000 in
set_option maxHeartbeats 2000000 in
theorem row_find_low (n : Nat) (_h1 : n < 69) (HP : Hid (Opc.row? n = Opc.low.find? (fun r => r.op == n))) (w : World) : Calls Tryz.prog 113 #[.int .u8 (n : Int)] w (FindPost (Opc.row? n) w) := by
    obtain ⟨D, hu, hd⟩ := und24d
    have HU := Lib.hid hu
    have HD := Lib.hid hd
    clear hu hd
    go_enter Tryz.func113, Tryz.ntmps113
    go_wp2_with (first | (go_at_call 136; refine (high_any _).mono ?_; rintro e w0 ⟨g0, c0, rfl, ho0, hb0⟩; have HB0 := Lib.hid hb0; clear ho0 hb0) | (go_at_call 137; refine (low_any _).mono ?_; rintro e w1 ⟨g, c, rfl, ho, hb⟩; have HO := Lib.hid ho; have HB := Lib.hid hb; clear ho hb))
    have HZ : Hid (w1.heap[w.heap.size]? = some (.cells zero24 187 (0, 0))) := Lib.hid ((HB.out.block w.heap.size (by have := HB0.out.size; simp at this; omega)).trans ((HB0.out.block w.heap.size (by simp)).trans (heap_alloc_new w _)))
    have HB1 : Hid (Below w.heap.size w w1) := Lib.hid ((((Below.refl _ _).alloc (Nat.le_refl _) _).trans (HB0.out.mono (by simp))).trans (HB.out.mono (by have := HB0.out.size; simp at this; omega)))
    clear HB HB0
    go_loop [3, 5] (fun b i => ∃ k : Nat, k ≤ 43 ∧ b = .bool false ∧ i = .int .i64 (k : Int) ∧ Hid (Opc.NoneOf (fun r => r.op == n) Opc.low k)) (fun _ i => 43 - (intOf i).toNat)
    case atStart => exact ⟨0, by omega, rfl, rfl, Lib.hid (Opc.noneOf_zero _ _)⟩
    case round =>
      obtain ⟨k, hk, rfl, rfl, HNO⟩ := hrel
      by_cases hlt : k < 43
      · obtain ⟨r, hr⟩ : ∃ r, Opc.low[k]? = some r := ⟨_, List.getElem?_eq_getElem (show k < Opc.low.length from hlt)⟩
        obtain ⟨c0, c1, c2, c3, c4⟩ := row_at HO.out hr
        have HR := Lib.hid hr
        clear hr
        have HC : Hid ((rowCells r).toArray = #[.int .u8 (r.op : Int), .string ⟨r.name.toArray⟩, .int .u8 (r.form : Int), .string ⟨r.sig.toArray⟩, .int .i64 (r.width : Int)]) := Lib.hid rfl
        generalize (⟨r.name.toArray⟩ : ByteArray) = NM at c1 HC
        generalize (⟨r.sig.toArray⟩ : ByteArray) = SG at c3 HC
        by_cases hop : r.op = n
        · have hf := Lib.hid (Opc.find_of (p := fun r => r.op == n) HR.out (by show (r.op == n) = true; simp [hop]) HNO.out)
          have hop' : ((r.op : Int)) = (n : Int) := by omega
          clear hop
          go_wp2_with (refine wpList_store_to rfl 187 (.tmp 2) (.tmp 29) rfl rfl w.heap.size (rowCells r).toArray rfl ?h1 187 zero24 HZ.out (size24 r) rfl ?h2 ?_)
          case h1 => rw [← hop']; exact (congrArg Array.toList HC.out).symm
          case h2 => exact rowCells_one r
          exact bodyPost_ret (v := .tuple #[.agg (rowCells r).toArray, .bool true]) (results_cell_tmp (p := 2) (q := 3) (ty := 187) (by kernel_rfl) _ _ w.heap.size 187 (rowCells r).toArray (0, 0) D rfl (setRow_heap _ _ zero24 _ _ _ HZ.out) HU.out HD.out (size24 r) (.bool true) rfl) rfl ⟨by rw [HP.out, hf.out]; rfl, below_setRow HB1.out (Nat.le_refl _) _⟩
        · have hop' : ((r.op : Int) == (n : Int)) = false := by simp; omega
          have HN := Lib.hid (Opc.noneOf_succ HR.out (by show (r.op == n) = false; simp [hop]) HNO.out)
          clear hop
          go_wp2_with fail
          go_round
          case rel => exact ⟨k + 1, by omega, rfl, by go_num, HN⟩
          case measure => simp [intOf]; omega
      · have hf := Lib.hid (Opc.find_no (p := fun r => r.op == n) (l := Opc.low) (k := k) (by show 43 ≤ k; omega) HNO.out)
        go_wp2_with (refine wpList_store_to rfl 187 (.tmp 2) (.tmp 30) rfl rfl w.heap.size (rowCells Opc.none).toArray rfl ?h3 187 zero24 HZ.out (size24 _) rfl ?h4 ?_)
        case h3 => rfl
        case h4 => exact rowCells_one _
        exact bodyPost_ret (v := .tuple #[.agg (rowCells Opc.none).toArray, .bool false]) (results_cell_tmp (p := 2) (q := 3) (ty := 187) (by kernel_rfl) _ _ w.heap.size 187 (rowCells Opc.none).toArray (0, 0) D rfl (setRow_heap _ _ zero24 _ _ _ HZ.out) HU.out HD.out (size24 _) (.bool false) rfl) rfl ⟨by rw [HP.out, hf.out]; rfl, below_setRow HB1.out (Nat.le_refl _) _⟩
set_option maxRecDepth 100000 in
set_option maxHeartbeats 2000000 in
theorem row_find_middle (n : Nat) (_h1 : 69 ≤ n) (_h2 : n < 121) (HP : Hid (Opc.row? n = Opc.middle.find? (fun r => r.op == n))) (w : World) : Calls Tryz.prog 113 #[.int .u8 (n : Int)] w (FindPost (Opc.row? n) w) := by
    obtain ⟨D, hu, hd⟩ := und24d
    have HU := Lib.hid hu
    have HD := Lib.hid hd
    clear hu hd
    go_enter Tryz.func113, Tryz.ntmps113
    go_wp2_with (first | (go_at_call 136; refine (high_any _).mono ?_; rintro e w0 ⟨g0, c0, rfl, ho0, hb0⟩; have HB0 := Lib.hid hb0; clear ho0 hb0) | (go_at_call 138; refine (middle_any _).mono ?_; rintro e w1 ⟨g, c, rfl, ho, hb⟩; have HO := Lib.hid ho; have HB := Lib.hid hb; clear ho hb))
    have HZ : Hid (w1.heap[w.heap.size]? = some (.cells zero24 187 (0, 0))) := Lib.hid ((HB.out.block w.heap.size (by have := HB0.out.size; simp at this; omega)).trans ((HB0.out.block w.heap.size (by simp)).trans (heap_alloc_new w _)))
    have HB1 : Hid (Below w.heap.size w w1) := Lib.hid ((((Below.refl _ _).alloc (Nat.le_refl _) _).trans (HB0.out.mono (by simp))).trans (HB.out.mono (by have := HB0.out.size; simp at this; omega)))
    clear HB HB0
    go_loop [3, 5] (fun b i => ∃ k : Nat, k ≤ 40 ∧ b = .bool false ∧ i = .int .i64 (k : Int) ∧ Hid (Opc.NoneOf (fun r => r.op == n) Opc.middle k)) (fun _ i => 40 - (intOf i).toNat)
    case atStart => exact ⟨0, by omega, rfl, rfl, Lib.hid (Opc.noneOf_zero _ _)⟩
    case round =>
      obtain ⟨k, hk, rfl, rfl, HNO⟩ := hrel
      by_cases hlt : k < 40
      · obtain ⟨r, hr⟩ : ∃ r, Opc.middle[k]? = some r := ⟨_, List.getElem?_eq_getElem (show k < Opc.middle.length from hlt)⟩
        obtain ⟨c0, c1, c2, c3, c4⟩ := row_at HO.out hr
        have HR := Lib.hid hr
        clear hr
        have HC : Hid ((rowCells r).toArray = #[.int .u8 (r.op : Int), .string ⟨r.name.toArray⟩, .int .u8 (r.form : Int), .string ⟨r.sig.toArray⟩, .int .i64 (r.width : Int)]) := Lib.hid rfl
        generalize (⟨r.name.toArray⟩ : ByteArray) = NM at c1 HC
        generalize (⟨r.sig.toArray⟩ : ByteArray) = SG at c3 HC
        by_cases hop : r.op = n
        · have hf := Lib.hid (Opc.find_of (p := fun r => r.op == n) HR.out (by show (r.op == n) = true; simp [hop]) HNO.out)
          have hop' : ((r.op : Int)) = (n : Int) := by omega
          clear hop
          go_wp2_with (refine wpList_store_to rfl 187 (.tmp 2) (.tmp 29) rfl rfl w.heap.size (rowCells r).toArray rfl ?h1 187 zero24 HZ.out (size24 r) rfl ?h2 ?_)
          case h1 => rw [← hop']; exact (congrArg Array.toList HC.out).symm
          case h2 => exact rowCells_one r
          exact bodyPost_ret (v := .tuple #[.agg (rowCells r).toArray, .bool true]) (results_cell_tmp (p := 2) (q := 3) (ty := 187) (by kernel_rfl) _ _ w.heap.size 187 (rowCells r).toArray (0, 0) D rfl (setRow_heap _ _ zero24 _ _ _ HZ.out) HU.out HD.out (size24 r) (.bool true) rfl) rfl ⟨by rw [HP.out, hf.out]; rfl, below_setRow HB1.out (Nat.le_refl _) _⟩
        · have hop' : ((r.op : Int) == (n : Int)) = false := by simp; omega
          have HN := Lib.hid (Opc.noneOf_succ HR.out (by show (r.op == n) = false; simp [hop]) HNO.out)
          clear hop
          go_wp2_with fail
          go_round
          case rel => exact ⟨k + 1, by omega, rfl, by go_num, HN⟩
          case measure => simp [intOf]; omega
      · have hf := Lib.hid (Opc.find_no (p := fun r => r.op == n) (l := Opc.middle) (k := k) (by show 40 ≤ k; omega) HNO.out)
        go_wp2_with (refine wpList_store_to rfl 187 (.tmp 2) (.tmp 30) rfl rfl w.heap.size (rowCells Opc.none).toArray rfl ?h3 187 zero24 HZ.out (size24 _) rfl ?h4 ?_)
        case h3 => rfl
        case h4 => exact rowCells_one _
        exact bodyPost_ret (v := .tuple #[.agg (rowCells Opc.none).toArray, .bool false]) (results_cell_tmp (p := 2) (q := 3) (ty := 187) (by kernel_rfl) _ _ w.heap.size 187 (rowCells Opc.none).toArray (0, 0) D rfl (setRow_heap _ _ zero24 _ _ _ HZ.out) HU.out HD.out (size24 _) (.bool false) rfl) rfl ⟨by rw [HP.out, hf.out]; rfl, below_setRow HB1.out (Nat.le_refl _) _⟩
set_option maxRecDepth 100000 in
set_option maxHeartbeats 2000000 in
theorem row_find_high (n : Nat) (_h1 : 121 ≤ n) (HP : Hid (Opc.row? n = Opc.high.find? (fun r => r.op == n))) (w : World) : Calls Tryz.prog 113 #[.int .u8 (n : Int)] w (FindPost (Opc.row? n) w) := by
    obtain ⟨D, hu, hd⟩ := und24d
    have HU := Lib.hid hu
    have HD := Lib.hid hd
    clear hu hd
    go_enter Tryz.func113, Tryz.ntmps113
    go_wp2_with (go_at_call 136; refine (high_any _).mono ?_; rintro e w1 ⟨g, c, rfl, ho, hb⟩; have HO := Lib.hid ho; have HB := Lib.hid hb; clear ho hb)
    have HZ : Hid (w1.heap[w.heap.size]? = some (.cells zero24 187 (0, 0))) := Lib.hid ((HB.out.block w.heap.size (by simp)).trans (heap_alloc_new w _))
    have HB1 : Hid (Below w.heap.size w w1) := Lib.hid (((Below.refl _ _).alloc (Nat.le_refl _) _).trans (HB.out.mono (by simp)))
    clear HB
    go_loop [3, 5] (fun b i => ∃ k : Nat, k ≤ 21 ∧ b = .bool false ∧ i = .int .i64 (k : Int) ∧ Hid (Opc.NoneOf (fun r => r.op == n) Opc.high k)) (fun _ i => 21 - (intOf i).toNat)
    case atStart => exact ⟨0, by omega, rfl, rfl, Lib.hid (Opc.noneOf_zero _ _)⟩
    case round =>
      obtain ⟨k, hk, rfl, rfl, HNO⟩ := hrel
      by_cases hlt : k < 21
      · obtain ⟨r, hr⟩ : ∃ r, Opc.high[k]? = some r := ⟨_, List.getElem?_eq_getElem (show k < Opc.high.length from hlt)⟩
        obtain ⟨c0, c1, c2, c3, c4⟩ := row_at HO.out hr
        have HR := Lib.hid hr
        clear hr
        have HC : Hid ((rowCells r).toArray = #[.int .u8 (r.op : Int), .string ⟨r.name.toArray⟩, .int .u8 (r.form : Int), .string ⟨r.sig.toArray⟩, .int .i64 (r.width : Int)]) := Lib.hid rfl
        generalize (⟨r.name.toArray⟩ : ByteArray) = NM at c1 HC
        generalize (⟨r.sig.toArray⟩ : ByteArray) = SG at c3 HC
        by_cases hop : r.op = n
        · have hf := Lib.hid (Opc.find_of (p := fun r => r.op == n) HR.out (by show (r.op == n) = true; simp [hop]) HNO.out)
          have hop' : ((r.op : Int)) = (n : Int) := by omega
          clear hop
          go_wp2_with (refine wpList_store_to rfl 187 (.tmp 2) (.tmp 29) rfl rfl w.heap.size (rowCells r).toArray rfl ?h1 187 zero24 HZ.out (size24 r) rfl ?h2 ?_)
          case h1 => rw [← hop']; exact (congrArg Array.toList HC.out).symm
          case h2 => exact rowCells_one r
          exact bodyPost_ret (v := .tuple #[.agg (rowCells r).toArray, .bool true]) (results_cell_tmp (p := 2) (q := 3) (ty := 187) (by kernel_rfl) _ _ w.heap.size 187 (rowCells r).toArray (0, 0) D rfl (setRow_heap _ _ zero24 _ _ _ HZ.out) HU.out HD.out (size24 r) (.bool true) rfl) rfl ⟨by rw [HP.out, hf.out]; rfl, below_setRow HB1.out (Nat.le_refl _) _⟩
        · have hop' : ((r.op : Int) == (n : Int)) = false := by simp; omega
          have HN := Lib.hid (Opc.noneOf_succ HR.out (by show (r.op == n) = false; simp [hop]) HNO.out)
          clear hop
          go_wp2_with fail
          go_round
          case rel => exact ⟨k + 1, by omega, rfl, by go_num, HN⟩
          case measure => simp [intOf]; omega
      · have hf := Lib.hid (Opc.find_no (p := fun r => r.op == n) (l := Opc.high) (k := k) (by show 21 ≤ k; omega) HNO.out)
        go_wp2_with (refine wpList_store_to rfl 187 (.tmp 2) (.tmp 30) rfl rfl w.heap.size (rowCells Opc.none).toArray rfl ?h3 187 zero24 HZ.out (size24 _) rfl ?h4 ?_)
        case h3 => rfl
        case h4 => exact rowCells_one _
        exact bodyPost_ret (v := .tuple #[.agg (rowCells Opc.none).toArray, .bool false]) (results_cell_tmp (p := 2) (q := 3) (ty := 187) (by kernel_rfl) _ _ w.heap.size 187 (rowCells Opc.none).toArray (0, 0) D rfl (setRow_heap _ _ zero24 _ _ _ HZ.out) HU.out HD.out (size24 _) (.bool false) rfl) rfl ⟨by rw [HP.out, hf.out]; rfl, below_setRow HB1.out (Nat.le_refl _) _⟩
theorem row_find (n : Nat) (w : World) : Calls Tryz.prog 113 #[.int .u8 (n : Int)] w (FindPost (Opc.row? n) w) := by
  by_cases h1 : n < 69
  · exact row_find_low n h1 (Lib.hid (by unfold Opc.row? Opc.part; rw [if_pos h1])) w
  · by_cases h2 : n < 121
    · exact row_find_middle n (by omega) h2 (Lib.hid (by unfold Opc.row? Opc.part; rw [if_neg h1, if_pos h2])) w
    · exact row_find_high n (by omega) (Lib.hid (by unfold Opc.row? Opc.part; rw [if_neg h1, if_neg h2])) w
end Go.Proofs.YtgnbkfkiigcdgaaGreatDoor
/-
  A list of operations cut in two: what the first ones come to is all that the rest is walked from.
-/
namespace Go.Proofs.YtgnbkfkiigcdgaaGreatDoor
open Go.RowKit
theorem oper_mono {P : Program} {Q Q' : Exit → Act → World → Prop} {o : Oper} {a : Act} {w : World} {K K' : Act → World → Prop} (h : ∀ a w, K a w → K' a w) (hp : ∀ c a w, Q (.panic c) a w → Q' (.panic c) a w) (ho : LetsOut Q → LetsOut Q')
    (hh : o.wp P a w K Q) : o.wp P a w K' Q' := by
  unfold Oper.wp at *
  generalize (execOp a.eval o).run P w = r at *
  cases r with
  | ok n w' =>
    cases n <;> simp only [Oper.upon] at hh ⊢ <;>
      first
        | exact h _ _ hh
        | exact Calls.mono hh (fun e w'' he => by cases e <;> first | exact h _ _ he | exact hp _ _ _ he | exact ho he)
        | exact Rows.mono hh (fun _ _ he => h _ _ he)
  | halt x w' => cases x <;> simp only [Oper.upon] at hh ⊢ <;> exact hp _ _ _ hh
/-- What the first operations come to. -/
def CutPost (R : Act → World → Prop) (e : Exit) (a : Act) (w : World) : Prop := e = .normal ∧ R a w
theorem cutFin {a : Act} {F : (Nat → Value) → Act} (h : a = F (fun k => a.tmps.getD k undef)) : ∃ t, a = F t := ⟨_, h⟩
theorem wpList_cut {P : Program} {ops : Array Oper} {Q : Exit → Act → World → Prop} (R : Act → World → Prop) : ∀ (n : Nat) (l : List Oper) (a : Act) (w : World),
    wpList P ops (CutPost R) (l.take n) a w → (∀ a w, R a w → wpList P ops Q (l.drop n) a w) → wpList P ops Q l a w
  | 0, l, a, w, h, hr => by
    rw [List.take_zero] at h
    exact hr a w h.2
  | n + 1, [], a, w, h, hr => hr a w h.2
  | n + 1, o :: l, a, w, h, hr => by
    have hno : ¬ LetsOut (CutPost R) := by
      rintro ⟨_, _, h, _⟩
      cases h
    rw [List.take_succ_cons] at h
    rw [List.drop_succ_cons] at hr
    unfold wpList at h ⊢
    split
    · next hw =>
      rw [if_pos hw] at h
      rcases h with h | ⟨_, h⟩
      · exact .inl (oper_mono (fun a w h => wpList_cut R n l a w h hr) (fun c a w h => by cases h.1) (fun h => (hno h).elim) h)
      · exact (hno h).elim
    · next hw =>
      rw [if_neg hw] at h
      exact wpList_cut R n l _ _ h hr
/-- An operation without what orders it. -/
def strip (o : Oper) : Oper := { dst := o.dst, op := o.op, type := o.type, pos := o.pos, after := #[], guard := o.guard }
/-- An operation of which its slot alone is left: guards ask for no more. -/
def thin (o : Oper) : Oper := { dst := o.dst, op := .move (.const undef), type := 0, pos := "", after := #[], guard := none }
theorem strip_exec (o : Oper) (ρ : Operand → Value) : execOp ρ (strip o) = execOp ρ o := by
  obtain ⟨d, op, t, p, af, g⟩ := o
  unfold strip
  cases op <;> rfl
theorem strip_wp (o : Oper) {P : Program} {a : Act} {w : World} {K : Act → World → Prop} {Q : Exit → Act → World → Prop} (h : (strip o).wp P a w K Q) : o.wp P a w K Q := by
  unfold Oper.wp at *
  rw [strip_exec] at h
  exact h
theorem strip_asks (o : Oper) {P : Program} {a : Act} {w : World} (h : (strip o).asks P a w) : o.asks P a w := by
  unfold Oper.asks at *
  rw [strip_exec] at h
  exact h
theorem thin_yielded (ops : Array Oper) (t : Array Value) : yielded (ops.map thin) t = yielded ops t := by
  funext j
  unfold yielded
  rw [Array.getElem?_map]
  cases ops[j]? <;> rfl
theorem wpList_light {P : Program} {ops : Array Oper} {Q : Exit → Act → World → Prop} : ∀ (l : List Oper) (a : Act) (w : World), wpList P (ops.map thin) Q (l.map strip) a w → wpList P ops Q l a w
  | [], _, _, h => h
  | o :: l, a, w, h => by
    rw [List.map_cons] at h
    unfold wpList at h ⊢
    rw [thin_yielded] at h
    have e : Region.wanted (strip o) (yielded ops a.tmps) = Region.wanted o (yielded ops a.tmps) := rfl
    rw [e] at h
    split
    · next hw =>
      rw [if_pos hw] at h
      rcases h with h | ⟨h1, h2⟩
      · exact .inl (Oper.wp_mono (fun a w h => wpList_light l a w h) (strip_wp o h))
      · exact .inr ⟨strip_asks o h1, h2⟩
    · next hw =>
      rw [if_neg hw] at h
      exact wpList_light l _ w h
theorem region_light {P : Program} {Q : Exit → Act → World → Prop} {a : Act} {w : World} {id : Nat} {l : List Oper} (h : wpList P (l.map thin).toArray Q (l.map strip) a w) : (Code.region id l.toArray false).wp P Q a w :=
  wp_region_lit (wpList_light l a w (by rw [List.map_toArray]; exact h))
end Go.Proofs.YtgnbkfkiigcdgaaGreatDoor
/-
  The document's May: whether an instruction has bytes, as the plain function tells it; of its two regions of guards each test by itself. (gen/may.py)
-/
namespace Opc
theorem row_form {n : Nat} (h : n < 256) : ((row n).form : Int) = form n ∧ (row? n).isSome = known n := by
  have : ∀ n : Nat, n < 256 → ((row n).form : Int) = form n ∧ (row? n).isSome = known n := by decide +kernel
  exact this n h
end Opc
namespace Go.Proofs.YtgnbkfkiigcdgaaGreatDoor
open Go.RowKit Ins
/-- The document's Find, its row in letters. -/
theorem find_letters (op : Nat) (h : op < 256) : ∃ (o wd : Int) (nm sg : ByteArray), ∀ w, Calls Tryz.prog 113 #[.int .u8 (op : Int)] w fun e w' => e = .returned (.tuple #[.agg #[.int .u8 o, .string nm, .int .u8 (Opc.form op), .string sg, .int .i64 wd], .bool (Opc.known op)]) ∧ Below w.heap.size w w' := by
  obtain ⟨h1, h2⟩ := Opc.row_form h
  refine ⟨((Opc.row op).op : Int), ((Opc.row op).width : Int), ⟨(Opc.row op).name.toArray⟩, ⟨(Opc.row op).sig.toArray⟩, fun w => (row_find op w).mono ?_⟩
  rintro e w' ⟨rfl, hb⟩
  refine ⟨?_, hb⟩
  rw [← h1, ← h2]
  rfl
set_option maxRecDepth 100000 in
set_option maxHeartbeats 4000000 in
theorem may_at (op a b : Nat) (n : Int) (m : Nat) (A : Option Addr) (c : Nat) (w : World) (F o wd : Int) (nm sg : ByteArray) (k : Bool) (p1 p2 q1 q2 q3 q4 : Bool)
    (HFI : Hid (∀ w, Calls Tryz.prog 113 #[.int .u8 (op : Int)] w fun e w' => e = .returned (.tuple #[.agg #[.int .u8 o, .string nm, .int .u8 F, .string sg, .int .i64 wd], .bool k]) ∧ Below w.heap.size w w'))
    (H1 : Hid (p1 = (!k || ((((F == 1 && (a : Int) != 64) && (a : Int) != 127)) && (a : Int) != 126)))) (H2 : Hid (p2 = (p1 || (F == 8 && (decide (n < -2147483648) || decide (2147483647 < n))))))
    (H3 : Hid (q1 = ((F == 0 || decide (6 < F)) && (a : Int) != 0))) (H4 : Hid (q2 = (q1 || (F != 6 && (b : Int) != 0)))) (H5 : Hid (q3 = (q2 || (decide (F < 8) && n != 0)))) (H6 : Hid (q4 = (q3 || (F != 3 && decide (0 < (m : Int)))))) :
    Calls Tryz.prog 65 #[.agg #[.int .u8 (op : Int), .int .u32 (a : Int), .int .u32 (b : Int), .int .i64 n, .slice A m c]] w fun e w' => e = .returned (.bool (!p2 && !q4)) ∧ Below w.heap.size w w' := by
  have HX0 : Hid ((w.alloc (.cells #[.int .u8 (op : Int), .int .u32 (a : Int), .int .u32 (b : Int), .int .i64 n, .slice A m c] 95)).heap[w.heap.size]? = some (.cells #[.int .u8 (op : Int), .int .u32 (a : Int), .int .u32 (b : Int), .int .i64 n, .slice A m c] 95 (0, 0))) := Lib.hid (heap_alloc_new w _)
  have HB0 : Hid (Below w.heap.size w (w.alloc (.cells #[.int .u8 (op : Int), .int .u32 (a : Int), .int .u32 (b : Int), .int .i64 n, .slice A m c] 95))) := Lib.hid ((Below.refl _ _).alloc (Nat.le_refl _) _)
  have hs0 : w.heap.size < (w.alloc (.cells #[.int .u8 (op : Int), .int .u32 (a : Int), .int .u32 (b : Int), .int .i64 n, .slice A m c] 95)).heap.size := by simp
  go_enter Tryz.func65, Tryz.ntmps65
  go_upto_region 1 with (fail)
  generalize w.alloc (.cells #[.int .u8 (op : Int), .int .u32 (a : Int), .int .u32 (b : Int), .int .i64 n, .slice A m c] 95) = w0 at HB0 HX0 hs0 ⊢
  obtain ⟨y0, y1, y2, y3, y4⟩ := cells5 HX0.out
  go_upto_region 2 with (go_at_call 113; refine (HFI.out _).mono ?_; rintro e w1 ⟨rfl, hb1⟩; have HB1 := Lib.hid (HB0.out.trans (hb1.mono HB0.out.size)); have HC1 := Lib.hid hb1; clear hb1)
  have HX2 : Hid ((w1.alloc (.cells #[.int .u8 o, .string nm, .int .u8 F, .string sg, .int .i64 wd] 187)).heap[w.heap.size]? = some (.cells #[.int .u8 (op : Int), .int .u32 (a : Int), .int .u32 (b : Int), .int .i64 n, .slice A m c] 95 (0, 0))) := Lib.hid ((Below.heap_alloc _ _ _ (Nat.lt_of_lt_of_le hs0 HC1.out.size)).trans ((HC1.out.block _ hs0).trans HX0.out))
  have HR2 : Hid ((w1.alloc (.cells #[.int .u8 o, .string nm, .int .u8 F, .string sg, .int .i64 wd] 187)).heap[w1.heap.size]? = some (.cells #[.int .u8 o, .string nm, .int .u8 F, .string sg, .int .i64 wd] 187 (0, 0))) := Lib.hid (heap_alloc_new w1 _)
  have HB2 : Hid (Below w.heap.size w (w1.alloc (.cells #[.int .u8 o, .string nm, .int .u8 F, .string sg, .int .i64 wd] 187))) := Lib.hid (HB1.out.alloc HB1.out.size _)
  obtain ⟨R, hR⟩ : ∃ R, R = w1.heap.size := ⟨_, rfl⟩
  rw [← hR] at HR2 ⊢
  clear hR y0 y1 y2 y3 y4 HX0 HB0 HB1 HC1 hs0
  generalize w1.alloc (.cells #[.int .u8 o, .string nm, .int .u8 F, .string sg, .int .i64 wd] 187) = w2 at HX2 HR2 HB2 ⊢
  obtain ⟨y0, y1, y2, y3, y4⟩ := cells5 HX2.out
  obtain ⟨z0, z1, z2, z3, z4⟩ := cells5 HR2.out
  clear HX2 HR2 HFI
  go_upto_region 3 with (fail)
  apply region_light
  simp only [List.map_cons, List.map_nil, strip, thin]
  refine wpList_cut (fun (ax : Act) (wx : World) => wx = w2 ∧ ∃ t : Nat → Value, ax = ⟨#[(Value.agg #[.int .u8 (op : Int), .int .u32 (a : Int), .int .u32 (b : Int), .int .i64 n, .slice A m c]), (.pointer (some ⟨w.heap.size, 0, none⟩)), (.bool false), (.pointer (some ⟨R, 0, none⟩)), (.bool k), (.int .u8 F), t 6, t 7, t 8, t 9, t 10, t 11, t 12, t 13, t 14, t 15, t 16, t 17, t 18, t 19, t 20, t 21, t 22, t 23, t 24, t 25, t 26, t 27, t 28, t 29, t 30, t 31, t 32, t 33, (.bool p1), undef, undef, undef, undef, undef, undef, undef, undef, undef, undef, undef, undef, undef, undef, undef, undef, undef, undef, undef, undef, undef, undef, undef, undef, undef, undef, undef, undef, undef, undef, undef, undef, undef, undef, undef, undef, undef, undef, undef, undef, undef, undef, undef, undef, undef, undef, undef, undef, undef, undef, undef, undef, undef], []⟩) 21 _ _ _ ?_ ?_
  · dsimp only [List.take]
    obtain rfl := H1.out
    cases k
    · go_wp2_with fail
      all_goals (first | exact ⟨rfl, rfl, cutFin rfl⟩ | (rename_i hx _; simp [undef] at hx))
    cases ht1 : (F == 1)
    · go_wp2_with fail
      all_goals (first | exact ⟨rfl, rfl, cutFin rfl⟩ | (rename_i hx _; simp [undef] at hx))
    cases ht2 : ((a : Int) != 64)
    · go_wp2_with fail
      all_goals (first | exact ⟨rfl, rfl, cutFin rfl⟩ | (rename_i hx _; simp [undef] at hx))
    cases ht3 : ((a : Int) != 127)
    · go_wp2_with fail
      all_goals (first | exact ⟨rfl, rfl, cutFin rfl⟩ | (rename_i hx _; simp [undef] at hx))
    go_wp2_with fail
    all_goals (first | exact ⟨rfl, rfl, cutFin rfl⟩ | (rename_i hx _; simp [undef] at hx))
  intro ax wx hx
  obtain ⟨hwx, t, rfl⟩ := hx
  rw [hwx]
  clear hwx
  dsimp only [List.drop]
  refine wpList_cut (fun (ax : Act) (wx : World) => wx = w2 ∧ ∃ t : Nat → Value, ax = ⟨#[(Value.agg #[.int .u8 (op : Int), .int .u32 (a : Int), .int .u32 (b : Int), .int .i64 n, .slice A m c]), (.pointer (some ⟨w.heap.size, 0, none⟩)), (.bool false), (.pointer (some ⟨R, 0, none⟩)), (.bool k), (.int .u8 F), t 6, t 7, t 8, t 9, t 10, t 11, t 12, t 13, t 14, t 15, t 16, t 17, t 18, t 19, t 20, t 21, t 22, t 23, t 24, t 25, t 26, t 27, t 28, t 29, t 30, t 31, t 32, t 33, t 34, t 35, t 36, t 37, t 38, t 39, t 40, t 41, t 42, t 43, t 44, t 45, t 46, t 47, (.bool p2), undef, undef, undef, undef, undef, undef, undef, undef, undef, undef, undef, undef, undef, undef, undef, undef, undef, undef, undef, undef, undef, undef, undef, undef, undef, undef, undef, undef, undef, undef, undef, undef, undef, undef, undef, undef, undef, undef, undef], []⟩) 14 _ _ _ ?_ ?_
  · dsimp only [List.take]
    obtain rfl := H2.out
    cases p1
    rotate_left
    · go_wp2_with fail
      all_goals (first | exact ⟨rfl, rfl, cutFin rfl⟩ | (rename_i hx _; simp [undef] at hx))
    cases ht1 : (F == 8)
    · go_wp2_with fail
      all_goals (first | exact ⟨rfl, rfl, cutFin rfl⟩ | (rename_i hx _; simp [undef] at hx))
    cases ht2 : (decide (n < -2147483648))
    rotate_left
    · go_wp2_with fail
      all_goals (first | exact ⟨rfl, rfl, cutFin rfl⟩ | (rename_i hx _; simp [undef] at hx))
    go_wp2_with fail
    all_goals (first | exact ⟨rfl, rfl, cutFin rfl⟩ | (rename_i hx _; simp [undef] at hx))
  intro ax wx hx
  obtain ⟨hwx, t, rfl⟩ := hx
  rw [hwx]
  clear hwx
  dsimp only [List.drop]
  cases p2
  rotate_left
  · go_wp2_with fail
    go_ret
    exact ⟨rfl, HB2.out⟩
  go_upto_region 5 with (fail)
  apply region_light
  simp only [List.map_cons, List.map_nil, strip, thin]
  refine wpList_cut (fun (ax : Act) (wx : World) => wx = w2 ∧ ∃ t : Nat → Value, ax = ⟨#[(Value.agg #[.int .u8 (op : Int), .int .u32 (a : Int), .int .u32 (b : Int), .int .i64 n, .slice A m c]), (.pointer (some ⟨w.heap.size, 0, none⟩)), (.bool false), (.pointer (some ⟨R, 0, none⟩)), (.bool k), (.int .u8 F), t 6, t 7, t 8, t 9, t 10, t 11, t 12, t 13, t 14, t 15, t 16, t 17, t 18, t 19, t 20, t 21, t 22, t 23, t 24, t 25, t 26, t 27, t 28, t 29, t 30, t 31, t 32, t 33, t 34, t 35, t 36, t 37, t 38, t 39, t 40, t 41, t 42, t 43, t 44, t 45, t 46, t 47, t 48, t 49, t 50, t 51, t 52, t 53, t 54, t 55, t 56, t 57, t 58, (.bool q1), undef, undef, undef, undef, undef, undef, undef, undef, undef, undef, undef, undef, undef, undef, undef, undef, undef, undef, undef, undef, undef, undef, undef, undef, undef, undef, undef, undef], []⟩) 11 _ _ _ ?_ ?_
  · dsimp only [List.take]
    obtain rfl := H3.out
    cases ht0 : (F == 0)
    rotate_left
    · go_wp2_with fail
      all_goals (first | exact ⟨rfl, rfl, cutFin rfl⟩ | (rename_i hx _; simp [undef] at hx))
    cases ht1 : (decide (6 < F))
    · go_wp2_with fail
      all_goals (first | exact ⟨rfl, rfl, cutFin rfl⟩ | (rename_i hx _; simp [undef] at hx))
    go_wp2_with fail
    all_goals (first | exact ⟨rfl, rfl, cutFin rfl⟩ | (rename_i hx _; simp [undef] at hx))
  intro ax wx hx
  obtain ⟨hwx, t, rfl⟩ := hx
  rw [hwx]
  clear hwx
  dsimp only [List.drop]
  refine wpList_cut (fun (ax : Act) (wx : World) => wx = w2 ∧ ∃ t : Nat → Value, ax = ⟨#[(Value.agg #[.int .u8 (op : Int), .int .u32 (a : Int), .int .u32 (b : Int), .int .i64 n, .slice A m c]), (.pointer (some ⟨w.heap.size, 0, none⟩)), (.bool false), (.pointer (some ⟨R, 0, none⟩)), (.bool k), (.int .u8 F), t 6, t 7, t 8, t 9, t 10, t 11, t 12, t 13, t 14, t 15, t 16, t 17, t 18, t 19, t 20, t 21, t 22, t 23, t 24, t 25, t 26, t 27, t 28, t 29, t 30, t 31, t 32, t 33, t 34, t 35, t 36, t 37, t 38, t 39, t 40, t 41, t 42, t 43, t 44, t 45, t 46, t 47, t 48, t 49, t 50, t 51, t 52, t 53, t 54, t 55, t 56, t 57, t 58, t 59, t 60, t 61, t 62, t 63, t 64, t 65, t 66, t 67, (.bool q2), undef, undef, undef, undef, undef, undef, undef, undef, undef, undef, undef, undef, undef, undef, undef, undef, undef, undef, undef], []⟩) 9 _ _ _ ?_ ?_
  · dsimp only [List.take]
    obtain rfl := H4.out
    cases q1
    rotate_left
    · go_wp2_with fail
      all_goals (first | exact ⟨rfl, rfl, cutFin rfl⟩ | (rename_i hx _; simp [undef] at hx))
    cases ht1 : (F != 6)
    · go_wp2_with fail
      all_goals (first | exact ⟨rfl, rfl, cutFin rfl⟩ | (rename_i hx _; simp [undef] at hx))
    go_wp2_with fail
    all_goals (first | exact ⟨rfl, rfl, cutFin rfl⟩ | (rename_i hx _; simp [undef] at hx))
  intro ax wx hx
  obtain ⟨hwx, t, rfl⟩ := hx
  rw [hwx]
  clear hwx
  dsimp only [List.drop]
  refine wpList_cut (fun (ax : Act) (wx : World) => wx = w2 ∧ ∃ t : Nat → Value, ax = ⟨#[(Value.agg #[.int .u8 (op : Int), .int .u32 (a : Int), .int .u32 (b : Int), .int .i64 n, .slice A m c]), (.pointer (some ⟨w.heap.size, 0, none⟩)), (.bool false), (.pointer (some ⟨R, 0, none⟩)), (.bool k), (.int .u8 F), t 6, t 7, t 8, t 9, t 10, t 11, t 12, t 13, t 14, t 15, t 16, t 17, t 18, t 19, t 20, t 21, t 22, t 23, t 24, t 25, t 26, t 27, t 28, t 29, t 30, t 31, t 32, t 33, t 34, t 35, t 36, t 37, t 38, t 39, t 40, t 41, t 42, t 43, t 44, t 45, t 46, t 47, t 48, t 49, t 50, t 51, t 52, t 53, t 54, t 55, t 56, t 57, t 58, t 59, t 60, t 61, t 62, t 63, t 64, t 65, t 66, t 67, t 68, t 69, t 70, t 71, t 72, t 73, t 74, t 75, t 76, (.bool q3), undef, undef, undef, undef, undef, undef, undef, undef, undef, undef], []⟩) 9 _ _ _ ?_ ?_
  · dsimp only [List.take]
    obtain rfl := H5.out
    cases q2
    rotate_left
    · go_wp2_with fail
      all_goals (first | exact ⟨rfl, rfl, cutFin rfl⟩ | (rename_i hx _; simp [undef] at hx))
    cases ht1 : (decide (F < 8))
    · go_wp2_with fail
      all_goals (first | exact ⟨rfl, rfl, cutFin rfl⟩ | (rename_i hx _; simp [undef] at hx))
    go_wp2_with fail
    all_goals (first | exact ⟨rfl, rfl, cutFin rfl⟩ | (rename_i hx _; simp [undef] at hx))
  intro ax wx hx
  obtain ⟨hwx, t, rfl⟩ := hx
  rw [hwx]
  clear hwx
  dsimp only [List.drop]
  refine wpList_cut (fun (ax : Act) (wx : World) => wx = w2 ∧ ∃ t : Nat → Value, ax = ⟨#[(Value.agg #[.int .u8 (op : Int), .int .u32 (a : Int), .int .u32 (b : Int), .int .i64 n, .slice A m c]), (.pointer (some ⟨w.heap.size, 0, none⟩)), (.bool false), (.pointer (some ⟨R, 0, none⟩)), (.bool k), (.int .u8 F), t 6, t 7, t 8, t 9, t 10, t 11, t 12, t 13, t 14, t 15, t 16, t 17, t 18, t 19, t 20, t 21, t 22, t 23, t 24, t 25, t 26, t 27, t 28, t 29, t 30, t 31, t 32, t 33, t 34, t 35, t 36, t 37, t 38, t 39, t 40, t 41, t 42, t 43, t 44, t 45, t 46, t 47, t 48, t 49, t 50, t 51, t 52, t 53, t 54, t 55, t 56, t 57, t 58, t 59, t 60, t 61, t 62, t 63, t 64, t 65, t 66, t 67, t 68, t 69, t 70, t 71, t 72, t 73, t 74, t 75, t 76, t 77, t 78, t 79, t 80, t 81, t 82, t 83, t 84, t 85, t 86, (.bool q4)], []⟩) 10 _ _ _ ?_ ?_
  · dsimp only [List.take]
    obtain rfl := H6.out
    cases q3
    rotate_left
    · go_wp2_with fail
      all_goals (first | exact ⟨rfl, rfl, cutFin rfl⟩ | (rename_i hx _; simp [undef] at hx))
    cases ht1 : (F != 3)
    · go_wp2_with fail
      all_goals (first | exact ⟨rfl, rfl, cutFin rfl⟩ | (rename_i hx _; simp [undef] at hx))
    go_wp2_with fail
    all_goals (first | exact ⟨rfl, rfl, cutFin rfl⟩ | (rename_i hx _; simp [undef] at hx))
  intro ax wx hx
  obtain ⟨hwx, t, rfl⟩ := hx
  rw [hwx]
  clear hwx
  dsimp only [List.drop]
  cases q4
  · go_wp2_with fail
    go_ret
    exact ⟨rfl, HB2.out⟩
  · go_wp2_with fail
    go_ret
    exact ⟨rfl, HB2.out⟩
theorem may_bool (k : Bool) (F : Int) (hF : F = 0 ∨ F = 1 ∨ F = 2 ∨ F = 3 ∨ F = 4 ∨ F = 5 ∨ F = 6 ∨ F = 7 ∨ F = 8 ∨ F = 9) (x : I) : (k && mayF F x) =
    (!((!k || ((((F == 1 && (x.a : Int) != 64) && (x.a : Int) != 127)) && (x.a : Int) != 126)) || (F == 8 && (decide (x.c < -2147483648) || decide (2147483647 < x.c)))) &&
     !(((((F == 0 || decide (6 < F)) && (x.a : Int) != 0) || (F != 6 && (x.b : Int) != 0)) || (decide (F < 8) && x.c != 0)) || (F != 3 && decide (0 < (x.l.length : Int))))) := by
  obtain ⟨op, a, b, c, l⟩ := x
  have e0 : ((a : Int) != 0) = !(a == 0) := by rw [Bool.eq_iff_iff]; simp
  have e1 : ((b : Int) != 0) = !(b == 0) := by rw [Bool.eq_iff_iff]; simp
  have e2 : (c != 0) = !(c == 0) := rfl
  have e3 : decide (0 < (l.length : Int)) = !l.isEmpty := by cases l <;> simp
  have e4 : blockB a = !(((a : Int) != 64 && (a : Int) != 127) && (a : Int) != 126) := by
    unfold blockB; rw [Bool.eq_iff_iff]; simp; omega
  have e5 : in32 c = !(decide (c < -2147483648) || decide (2147483647 < c)) := by
    unfold in32; rw [Bool.eq_iff_iff]; simp
  simp only [e0, e1, e2, e3]
  cases k
  · simp
  · simp only [mayF, e4, e5]
    generalize (a == 0) = ta
    generalize (b == 0) = tb
    generalize (c == 0) = tc
    generalize l.isEmpty = tl
    generalize ((a : Int) != 64) = t1
    generalize ((a : Int) != 127) = t2
    generalize ((a : Int) != 126) = t3
    generalize decide (c < -2147483648) = t4
    generalize decide (2147483647 < c) = t5
    rcases hF with rfl | rfl | rfl | rfl | rfl | rfl | rfl | rfl | rfl | rfl <;> simp [hasA] <;> cases ta <;> cases tb <;> cases tc <;> cases tl <;> simp <;> cases t1 <;> cases t2 <;> cases t3 <;> cases t4 <;> cases t5 <;> rfl
/-- The document's May. -/
theorem rmay_any (x : I) (A : Option Addr) (c : Nat) (w : World) (hw : x.wf) : Calls Tryz.prog 65 #[insVal x A c] w fun e w' => e = .returned (.bool (may x)) ∧ Below w.heap.size w w' := by
  obtain ⟨op, a, b, n, l⟩ := x
  obtain ⟨o, wd, nm, sg, hfi⟩ := find_letters op hw.1
  have h := may_at op a b n l.length A c w (Opc.form op) o wd nm sg (Opc.known op) _ _ _ _ _ _ (Lib.hid hfi) (Lib.hid rfl) (Lib.hid rfl) (Lib.hid rfl) (Lib.hid rfl) (Lib.hid rfl) (Lib.hid rfl)
  have e : may ⟨op, a, b, n, l⟩ = _ := may_bool (Opc.known op) (Opc.form op) (form_range op) ⟨op, a, b, n, l⟩
  rw [e]
  exact h
end Go.Proofs.YtgnbkfkiigcdgaaGreatDoor
