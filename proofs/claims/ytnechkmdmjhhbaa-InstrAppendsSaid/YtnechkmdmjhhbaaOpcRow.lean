/-
  The document's Find: an opcode's row, and whether there is one.
-/
import Derived.Test.YtnechkmdmjhhbaaOpcRef
import Derived.Test.YtnechkmdmjhhbaaRowStore
import Derived.Deep.RegionHeld3
import Derived.Lib.Hide
namespace Opc
def NoneOf (p : Row → Bool) (l : List Row) (k : Nat) : Prop := ∀ j r, j < k → l[j]? = some r → p r = false
theorem noneOf_zero (p : Row → Bool) (l : List Row) : NoneOf p l 0 := fun _ _ h => absurd h (Nat.not_lt_zero _)
theorem noneOf_succ {p : Row → Bool} {l : List Row} {k : Nat} {r : Row} (hr : l[k]? = some r) (h : p r = false) (hno : NoneOf p l k) : NoneOf p l (k + 1) := fun j r' hj hr' => by
  by_cases hjk : j = k
  · subst hjk
    rw [hr] at hr'
    injection hr' with hr'
    subst hr'
    exact h
  · exact hno j r' (by omega) hr'
theorem find_of {p : Row → Bool} : ∀ {l : List Row} {k : Nat} {r : Row}, l[k]? = some r → p r = true → NoneOf p l k → l.find? p = some r
  | [], _, _, hr, _, _ => by simp at hr
  | x :: l, 0, r, hr, h, _ => by
    simp at hr; subst hr
    simp [h]
  | x :: l, k + 1, r, hr, h, hno => by
    have hx : p x = false := hno 0 x (by omega) rfl
    rw [List.find?_cons, hx]
    exact find_of (by simpa using hr) h (fun j r' hj hr' => hno (j + 1) r' (by omega) (by simpa using hr'))
theorem find_no {p : Row → Bool} {l : List Row} {k : Nat} (hk : l.length ≤ k) (hno : NoneOf p l k) : l.find? p = Option.none := by
  rw [List.find?_eq_none]
  intro x hx
  obtain ⟨j, hj, rfl⟩ := List.mem_iff_getElem.1 hx
  rw [hno j l[j] (by omega) (List.getElem?_eq_getElem hj)]
  simp
end Opc
namespace Go.Proofs.Ytnechkmdmjhhbaa
open Go.RowKit
def aggD : TypeDesc → Bool
  | .struct _ => true
  | .array _ _ => true
  | _ => false
theorem results_cell_tmp {P : Program} {fn : Func} {p q : Tmp} {ty : TypeId} (h : fn.results = #[.cell p ty, .tmp q]) (tmps : Array Value) (w : World) (g : Nat) (t : TypeId) (cs : Array Value) (fr : Nat × Nat) (d : TypeDesc)
    (hp : tmps.getD p undef = .pointer (some ⟨g, 0, none⟩)) (hg : w.heap[g]? = some (.cells cs t fr))
    (hu : P.underlying ty = some d) (hd : aggD d = true) (hi : (P.info? ty).map (·.size) = some cs.size) (b : Value) (hb : tmps.getD q undef = b) :
    (results fn tmps).run P w = .ok (.tuple #[.agg cs, b]) w := by
  have hp' : tmps[p]?.getD undef = .pointer (some ⟨g, 0, none⟩) := by simpa using hp
  have hb' : tmps[q]?.getD undef = b := by simpa using hb
  simp [results, h, hp', hb', asAddr, run_loadVar_row w g t ty cs fr d hg hu (by cases d <;> first | rfl | cases hd) hi]
def zero24 : Array Value := #[.int .u8 0, .string ⟨#[]⟩, .int .u8 0, .string ⟨#[]⟩, .int .i64 0]
theorem size24 (r : Opc.Row) : (Try.prog.info? 51).map (·.size) = some (rowCells r).toArray.size := by
  have h : (Try.prog.info? 51).map (·.size) = some 5 := by kernel_rfl
  rw [h]; rfl
theorem und24d : ∃ d, Try.prog.underlying 51 = some d ∧ aggD d = true := by
  have h : (Try.prog.underlying 51).map aggD = some true := by kernel_rfl
  obtain ⟨d, h1, h2⟩ := Option.map_eq_some_iff.1 h
  exact ⟨d, h1, h2⟩
theorem rowCells_one (r : Opc.Row) : ∀ u ∈ rowCells r, u.oneCell' = true := fun u hu => flat_one [r] u (by simpa [flat] using hu)
theorem row_at {w : World} {base n g c : Nat} {l : List Opc.Row} (h : w.ownsRow base 51 5 (.slice (some ⟨g, 0, none⟩) n c) n (flat l)) {k : Nat} {r : Opc.Row} (hr : l[k]? = some r) :
    w.cell? ⟨g, k * 5, none⟩ = some (.int .u8 (r.op : Int)) ∧ w.cell? ⟨g, k * 5 + 1, none⟩ = some (.string ⟨r.name.toArray⟩) ∧ w.cell? ⟨g, k * 5 + 2, none⟩ = some (.int .u8 (r.form : Int)) ∧ w.cell? ⟨g, k * 5 + 3, none⟩ = some (.string ⟨r.sig.toArray⟩) ∧ w.cell? ⟨g, k * 5 + 4, none⟩ = some (.int .i64 (r.width : Int)) :=
  ⟨own_cells h _ _ (flat_at l k r hr 0 (by decide)), own_cells h _ _ (flat_at l k r hr 1 (by decide)), own_cells h _ _ (flat_at l k r hr 2 (by decide)), own_cells h _ _ (flat_at l k r hr 3 (by decide)), own_cells h _ _ (flat_at l k r hr 4 (by decide))⟩
/-- What a call of the document's Find comes to. -/
def FindPost (o : Option Opc.Row) (w : World) (e : Ending) (w' : World) : Prop :=
  e = .returned (.tuple #[.agg (rowCells (o.getD Opc.none)).toArray, .bool o.isSome]) ∧ Below w.heap.size w w'
set_option maxRecDepth 100000 in
set_option maxHeartbeats 2000000 in
theorem row_find_low (n : Nat) (_h1 : n < 69) (HP : Hid (Opc.row? n = Opc.low.find? (fun r => r.op == n))) (w : World) : Calls Try.prog 20 #[.int .u8 (n : Int)] w (FindPost (Opc.row? n) w) := by
    obtain ⟨D, hu, hd⟩ := und24d
    have HU := Lib.hid hu
    have HD := Lib.hid hd
    clear hu hd
    go_enter Try.func20, Try.ntmps20
    go_wp2_with (first | (go_at_call 36; refine (high_any _).mono ?_; rintro e w0 ⟨g0, c0, rfl, ho0, hb0⟩; have HB0 := Lib.hid hb0; clear ho0 hb0) | (go_at_call 37; refine (low_any _).mono ?_; rintro e w1 ⟨g, c, rfl, ho, hb⟩; have HO := Lib.hid ho; have HB := Lib.hid hb; clear ho hb))
    have HZ : Hid (w1.heap[w.heap.size]? = some (.cells zero24 51 (0, 0))) := Lib.hid ((HB.out.block w.heap.size (by have := HB0.out.size; simp at this; omega)).trans ((HB0.out.block w.heap.size (by simp)).trans (heap_alloc_new w _)))
    have HB1 : Hid (Below w.heap.size w w1) := Lib.hid ((((Below.refl _ _).alloc (Nat.le_refl _) _).trans (HB0.out.mono (by simp))).trans (HB.out.mono (by have := HB0.out.size; simp at this; omega)))
    clear HB HB0
    go_loop [3, 5] (fun b i => ∃ k : Nat, k ≤ 43 ∧ b = .bool false ∧ i = .int .i64 (k : Int) ∧ Hid (Opc.NoneOf (fun r => r.op == n) Opc.low k)) (fun _ i => 43 - (intOf i).toNat)
    case atStart => exact ⟨0, by omega, rfl, rfl, Lib.hid (Opc.noneOf_zero _ _)⟩
    case round =>
      obtain ⟨k, hk, rfl, rfl, HNO⟩ := hrel
      by_cases hlt : k < 43
      · obtain ⟨r, hr⟩ : ∃ r, Opc.low[k]? = some r := ⟨_, List.getElem?_eq_getElem (show k < Opc.low.length from hlt)⟩
        obtain ⟨c0, c1, c2, c3, c4⟩ := row_at HO.out hr
        have HR := Lib.hid hr
        clear hr
        have HC : Hid ((rowCells r).toArray = #[.int .u8 (r.op : Int), .string ⟨r.name.toArray⟩, .int .u8 (r.form : Int), .string ⟨r.sig.toArray⟩, .int .i64 (r.width : Int)]) := Lib.hid rfl
        generalize (⟨r.name.toArray⟩ : ByteArray) = NM at c1 HC
        generalize (⟨r.sig.toArray⟩ : ByteArray) = SG at c3 HC
        by_cases hop : r.op = n
        · have hf := Lib.hid (Opc.find_of (p := fun r => r.op == n) HR.out (by show (r.op == n) = true; simp [hop]) HNO.out)
          have hop' : ((r.op : Int)) = (n : Int) := by omega
          clear hop
          go_wp2_with (refine wpList_store_to rfl 51 (.tmp 2) (.tmp 29) rfl rfl w.heap.size (rowCells r).toArray rfl ?h1 51 zero24 HZ.out (size24 r) rfl ?h2 ?_)
          case h1 => rw [← hop']; exact (congrArg Array.toList HC.out).symm
          case h2 => exact rowCells_one r
          exact bodyPost_ret (v := .tuple #[.agg (rowCells r).toArray, .bool true]) (results_cell_tmp (p := 2) (q := 3) (ty := 51) (by kernel_rfl) _ _ w.heap.size 51 (rowCells r).toArray (0, 0) D rfl (setRow_heap _ _ zero24 _ _ _ HZ.out) HU.out HD.out (size24 r) (.bool true) rfl) rfl ⟨by rw [HP.out, hf.out]; rfl, below_setRow HB1.out (Nat.le_refl _) _⟩
        · have hop' : ((r.op : Int) == (n : Int)) = false := by simp; omega
          have HN := Lib.hid (Opc.noneOf_succ HR.out (by show (r.op == n) = false; simp [hop]) HNO.out)
          clear hop
          go_wp2_with fail
          go_round
          case rel => exact ⟨k + 1, by omega, rfl, by go_num, HN⟩
          case measure => simp [intOf]; omega
      · have hf := Lib.hid (Opc.find_no (p := fun r => r.op == n) (l := Opc.low) (k := k) (by show 43 ≤ k; omega) HNO.out)
        go_wp2_with (refine wpList_store_to rfl 51 (.tmp 2) (.tmp 30) rfl rfl w.heap.size (rowCells Opc.none).toArray rfl ?h3 51 zero24 HZ.out (size24 _) rfl ?h4 ?_)
        case h3 => rfl
        case h4 => exact rowCells_one _
        exact bodyPost_ret (v := .tuple #[.agg (rowCells Opc.none).toArray, .bool false]) (results_cell_tmp (p := 2) (q := 3) (ty := 51) (by kernel_rfl) _ _ w.heap.size 51 (rowCells Opc.none).toArray (0, 0) D rfl (setRow_heap _ _ zero24 _ _ _ HZ.out) HU.out HD.out (size24 _) (.bool false) rfl) rfl ⟨by rw [HP.out, hf.out]; rfl, below_setRow HB1.out (Nat.le_refl _) _⟩
set_option maxRecDepth 100000 in
set_option maxHeartbeats 2000000 in
theorem row_find_middle (n : Nat) (_h1 : 69 ≤ n) (_h2 : n < 121) (HP : Hid (Opc.row? n = Opc.middle.find? (fun r => r.op == n))) (w : World) : Calls Try.prog 20 #[.int .u8 (n : Int)] w (FindPost (Opc.row? n) w) := by
    obtain ⟨D, hu, hd⟩ := und24d
    have HU := Lib.hid hu
    have HD := Lib.hid hd
    clear hu hd
    go_enter Try.func20, Try.ntmps20
    go_wp2_with (first | (go_at_call 36; refine (high_any _).mono ?_; rintro e w0 ⟨g0, c0, rfl, ho0, hb0⟩; have HB0 := Lib.hid hb0; clear ho0 hb0) | (go_at_call 38; refine (middle_any _).mono ?_; rintro e w1 ⟨g, c, rfl, ho, hb⟩; have HO := Lib.hid ho; have HB := Lib.hid hb; clear ho hb))
    have HZ : Hid (w1.heap[w.heap.size]? = some (.cells zero24 51 (0, 0))) := Lib.hid ((HB.out.block w.heap.size (by have := HB0.out.size; simp at this; omega)).trans ((HB0.out.block w.heap.size (by simp)).trans (heap_alloc_new w _)))
    have HB1 : Hid (Below w.heap.size w w1) := Lib.hid ((((Below.refl _ _).alloc (Nat.le_refl _) _).trans (HB0.out.mono (by simp))).trans (HB.out.mono (by have := HB0.out.size; simp at this; omega)))
    clear HB HB0
    go_loop [3, 5] (fun b i => ∃ k : Nat, k ≤ 40 ∧ b = .bool false ∧ i = .int .i64 (k : Int) ∧ Hid (Opc.NoneOf (fun r => r.op == n) Opc.middle k)) (fun _ i => 40 - (intOf i).toNat)
    case atStart => exact ⟨0, by omega, rfl, rfl, Lib.hid (Opc.noneOf_zero _ _)⟩
    case round =>
      obtain ⟨k, hk, rfl, rfl, HNO⟩ := hrel
      by_cases hlt : k < 40
      · obtain ⟨r, hr⟩ : ∃ r, Opc.middle[k]? = some r := ⟨_, List.getElem?_eq_getElem (show k < Opc.middle.length from hlt)⟩
        obtain ⟨c0, c1, c2, c3, c4⟩ := row_at HO.out hr
        have HR := Lib.hid hr
        clear hr
        have HC : Hid ((rowCells r).toArray = #[.int .u8 (r.op : Int), .string ⟨r.name.toArray⟩, .int .u8 (r.form : Int), .string ⟨r.sig.toArray⟩, .int .i64 (r.width : Int)]) := Lib.hid rfl
        generalize (⟨r.name.toArray⟩ : ByteArray) = NM at c1 HC
        generalize (⟨r.sig.toArray⟩ : ByteArray) = SG at c3 HC
        by_cases hop : r.op = n
        · have hf := Lib.hid (Opc.find_of (p := fun r => r.op == n) HR.out (by show (r.op == n) = true; simp [hop]) HNO.out)
          have hop' : ((r.op : Int)) = (n : Int) := by omega
          clear hop
          go_wp2_with (refine wpList_store_to rfl 51 (.tmp 2) (.tmp 29) rfl rfl w.heap.size (rowCells r).toArray rfl ?h1 51 zero24 HZ.out (size24 r) rfl ?h2 ?_)
          case h1 => rw [← hop']; exact (congrArg Array.toList HC.out).symm
          case h2 => exact rowCells_one r
          exact bodyPost_ret (v := .tuple #[.agg (rowCells r).toArray, .bool true]) (results_cell_tmp (p := 2) (q := 3) (ty := 51) (by kernel_rfl) _ _ w.heap.size 51 (rowCells r).toArray (0, 0) D rfl (setRow_heap _ _ zero24 _ _ _ HZ.out) HU.out HD.out (size24 r) (.bool true) rfl) rfl ⟨by rw [HP.out, hf.out]; rfl, below_setRow HB1.out (Nat.le_refl _) _⟩
        · have hop' : ((r.op : Int) == (n : Int)) = false := by simp; omega
          have HN := Lib.hid (Opc.noneOf_succ HR.out (by show (r.op == n) = false; simp [hop]) HNO.out)
          clear hop
          go_wp2_with fail
          go_round
          case rel => exact ⟨k + 1, by omega, rfl, by go_num, HN⟩
          case measure => simp [intOf]; omega
      · have hf := Lib.hid (Opc.find_no (p := fun r => r.op == n) (l := Opc.middle) (k := k) (by show 40 ≤ k; omega) HNO.out)
        go_wp2_with (refine wpList_store_to rfl 51 (.tmp 2) (.tmp 30) rfl rfl w.heap.size (rowCells Opc.none).toArray rfl ?h3 51 zero24 HZ.out (size24 _) rfl ?h4 ?_)
        case h3 => rfl
        case h4 => exact rowCells_one _
        exact bodyPost_ret (v := .tuple #[.agg (rowCells Opc.none).toArray, .bool false]) (results_cell_tmp (p := 2) (q := 3) (ty := 51) (by kernel_rfl) _ _ w.heap.size 51 (rowCells Opc.none).toArray (0, 0) D rfl (setRow_heap _ _ zero24 _ _ _ HZ.out) HU.out HD.out (size24 _) (.bool false) rfl) rfl ⟨by rw [HP.out, hf.out]; rfl, below_setRow HB1.out (Nat.le_refl _) _⟩
set_option maxRecDepth 100000 in
set_option maxHeartbeats 2000000 in
theorem row_find_high (n : Nat) (_h1 : 121 ≤ n) (HP : Hid (Opc.row? n = Opc.high.find? (fun r => r.op == n))) (w : World) : Calls Try.prog 20 #[.int .u8 (n : Int)] w (FindPost (Opc.row? n) w) := by
    obtain ⟨D, hu, hd⟩ := und24d
    have HU := Lib.hid hu
    have HD := Lib.hid hd
    clear hu hd
    go_enter Try.func20, Try.ntmps20
    go_wp2_with (go_at_call 36; refine (high_any _).mono ?_; rintro e w1 ⟨g, c, rfl, ho, hb⟩; have HO := Lib.hid ho; have HB := Lib.hid hb; clear ho hb)
    have HZ : Hid (w1.heap[w.heap.size]? = some (.cells zero24 51 (0, 0))) := Lib.hid ((HB.out.block w.heap.size (by simp)).trans (heap_alloc_new w _))
    have HB1 : Hid (Below w.heap.size w w1) := Lib.hid (((Below.refl _ _).alloc (Nat.le_refl _) _).trans (HB.out.mono (by simp)))
    clear HB
    go_loop [3, 5] (fun b i => ∃ k : Nat, k ≤ 21 ∧ b = .bool false ∧ i = .int .i64 (k : Int) ∧ Hid (Opc.NoneOf (fun r => r.op == n) Opc.high k)) (fun _ i => 21 - (intOf i).toNat)
    case atStart => exact ⟨0, by omega, rfl, rfl, Lib.hid (Opc.noneOf_zero _ _)⟩
    case round =>
      obtain ⟨k, hk, rfl, rfl, HNO⟩ := hrel
      by_cases hlt : k < 21
      · obtain ⟨r, hr⟩ : ∃ r, Opc.high[k]? = some r := ⟨_, List.getElem?_eq_getElem (show k < Opc.high.length from hlt)⟩
        obtain ⟨c0, c1, c2, c3, c4⟩ := row_at HO.out hr
        have HR := Lib.hid hr
        clear hr
        have HC : Hid ((rowCells r).toArray = #[.int .u8 (r.op : Int), .string ⟨r.name.toArray⟩, .int .u8 (r.form : Int), .string ⟨r.sig.toArray⟩, .int .i64 (r.width : Int)]) := Lib.hid rfl
        generalize (⟨r.name.toArray⟩ : ByteArray) = NM at c1 HC
        generalize (⟨r.sig.toArray⟩ : ByteArray) = SG at c3 HC
        by_cases hop : r.op = n
        · have hf := Lib.hid (Opc.find_of (p := fun r => r.op == n) HR.out (by show (r.op == n) = true; simp [hop]) HNO.out)
          have hop' : ((r.op : Int)) = (n : Int) := by omega
          clear hop
          go_wp2_with (refine wpList_store_to rfl 51 (.tmp 2) (.tmp 29) rfl rfl w.heap.size (rowCells r).toArray rfl ?h1 51 zero24 HZ.out (size24 r) rfl ?h2 ?_)
          case h1 => rw [← hop']; exact (congrArg Array.toList HC.out).symm
          case h2 => exact rowCells_one r
          exact bodyPost_ret (v := .tuple #[.agg (rowCells r).toArray, .bool true]) (results_cell_tmp (p := 2) (q := 3) (ty := 51) (by kernel_rfl) _ _ w.heap.size 51 (rowCells r).toArray (0, 0) D rfl (setRow_heap _ _ zero24 _ _ _ HZ.out) HU.out HD.out (size24 r) (.bool true) rfl) rfl ⟨by rw [HP.out, hf.out]; rfl, below_setRow HB1.out (Nat.le_refl _) _⟩
        · have hop' : ((r.op : Int) == (n : Int)) = false := by simp; omega
          have HN := Lib.hid (Opc.noneOf_succ HR.out (by show (r.op == n) = false; simp [hop]) HNO.out)
          clear hop
          go_wp2_with fail
          go_round
          case rel => exact ⟨k + 1, by omega, rfl, by go_num, HN⟩
          case measure => simp [intOf]; omega
      · have hf := Lib.hid (Opc.find_no (p := fun r => r.op == n) (l := Opc.high) (k := k) (by show 21 ≤ k; omega) HNO.out)
        go_wp2_with (refine wpList_store_to rfl 51 (.tmp 2) (.tmp 30) rfl rfl w.heap.size (rowCells Opc.none).toArray rfl ?h3 51 zero24 HZ.out (size24 _) rfl ?h4 ?_)
        case h3 => rfl
        case h4 => exact rowCells_one _
        exact bodyPost_ret (v := .tuple #[.agg (rowCells Opc.none).toArray, .bool false]) (results_cell_tmp (p := 2) (q := 3) (ty := 51) (by kernel_rfl) _ _ w.heap.size 51 (rowCells Opc.none).toArray (0, 0) D rfl (setRow_heap _ _ zero24 _ _ _ HZ.out) HU.out HD.out (size24 _) (.bool false) rfl) rfl ⟨by rw [HP.out, hf.out]; rfl, below_setRow HB1.out (Nat.le_refl _) _⟩
theorem row_find (n : Nat) (w : World) : Calls Try.prog 20 #[.int .u8 (n : Int)] w (FindPost (Opc.row? n) w) := by
  by_cases h1 : n < 69
  · exact row_find_low n h1 (Lib.hid (by unfold Opc.row? Opc.part; rw [if_pos h1])) w
  · by_cases h2 : n < 121
    · exact row_find_middle n (by omega) h2 (Lib.hid (by unfold Opc.row? Opc.part; rw [if_neg h1, if_pos h2])) w
    · exact row_find_high n (by omega) (Lib.hid (by unfold Opc.row? Opc.part; rw [if_neg h1, if_neg h2])) w
end Go.Proofs.Ytnechkmdmjhhbaa
