/-
  The document's Find, types and Sig: an opcode's row; the types of letters; what an opcode takes and gives.
-/
import Derived.Test.YtejjkihggdmdlaaOpcTypes
import Derived.Deep.RegionHeld3
namespace Go.Proofs.Ytejjkihggdmdlaa
open Go.RowKit
/-- What a call of the document's Find comes to. -/
def FindPost (o : Option Opc.Row) (w : World) (e : Ending) (w' : World) : Prop :=
  e = .returned (.tuple #[.agg (rowCells (o.getD Opc.none)).toArray, .bool o.isSome]) ∧ Below w.heap.size w w'
set_option maxRecDepth 100000 in
set_option maxHeartbeats 2000000 in
theorem row_find_low (n : Nat) (_h1 : n < 69) (HP : Hid (Opc.row? n = Opc.low.find? (fun r => r.op == n))) (w : World) : Calls Try.prog 7 #[.int .u8 (n : Int)] w (FindPost (Opc.row? n) w) := by
    obtain ⟨D, hu, hd⟩ := und24d
    have HU := Lib.hid hu
    have HD := Lib.hid hd
    clear hu hd
    go_enter Try.func7, Try.ntmps7
    go_wp2_with (first | (go_at_call 18; refine (high_any _).mono ?_; rintro e w0 ⟨g0, c0, rfl, ho0, hb0⟩; have HB0 := Lib.hid hb0; clear ho0 hb0) | (go_at_call 19; refine (low_any _).mono ?_; rintro e w1 ⟨g, c, rfl, ho, hb⟩; have HO := Lib.hid ho; have HB := Lib.hid hb; clear ho hb))
    have HZ : Hid (w1.heap[w.heap.size]? = some (.cells zero24 24 (0, 0))) := Lib.hid ((HB.out.block w.heap.size (by have := HB0.out.size; simp at this; omega)).trans ((HB0.out.block w.heap.size (by simp)).trans (heap_alloc_new w _)))
    have HB1 : Hid (Below w.heap.size w w1) := Lib.hid ((((Below.refl _ _).alloc (Nat.le_refl _) _).trans (HB0.out.mono (by simp))).trans (HB.out.mono (by have := HB0.out.size; simp at this; omega)))
    clear HB HB0
    go_loop [3, 5] (fun b i => ∃ k : Nat, k ≤ 43 ∧ b = .bool false ∧ i = .int .i64 (k : Int) ∧ Hid (Opc.NoneOf (fun r => r.op == n) Opc.low k)) (fun _ i => 43 - (intOf i).toNat)
    case atStart => exact ⟨0, by omega, rfl, rfl, Lib.hid (Opc.noneOf_zero _ _)⟩
    case round =>
      obtain ⟨k, hk, rfl, rfl, HNO⟩ := hrel
      by_cases hlt : k < 43
      · obtain ⟨r, hr⟩ : ∃ r, Opc.low[k]? = some r := ⟨_, List.getElem?_eq_getElem (show k < Opc.low.length from hlt)⟩
        obtain ⟨c0, c1, c2, c3, c4⟩ := row_at HO.out hr
        have HR := Lib.hid hr
        clear hr
        have HC : Hid ((rowCells r).toArray = #[.int .u8 (r.op : Int), .string ⟨r.name.toArray⟩, .int .u8 (r.form : Int), .string ⟨r.sig.toArray⟩, .int .i64 (r.width : Int)]) := Lib.hid rfl
        generalize (⟨r.name.toArray⟩ : ByteArray) = NM at c1 HC
        generalize (⟨r.sig.toArray⟩ : ByteArray) = SG at c3 HC
        by_cases hop : r.op = n
        · have hf := Lib.hid (Opc.find_of (p := fun r => r.op == n) HR.out (by show (r.op == n) = true; simp [hop]) HNO.out)
          have hop' : ((r.op : Int)) = (n : Int) := by omega
          clear hop
          go_wp2_with (refine wpList_store_to rfl 24 (.tmp 2) (.tmp 29) rfl rfl w.heap.size (rowCells r).toArray rfl ?h1 24 zero24 HZ.out (size24 r) rfl ?h2 ?_)
          case h1 => rw [← hop']; exact (congrArg Array.toList HC.out).symm
          case h2 => exact rowCells_one r
          exact bodyPost_ret (v := .tuple #[.agg (rowCells r).toArray, .bool true]) (results_cell_tmp (p := 2) (q := 3) (ty := 24) (by kernel_rfl) _ _ w.heap.size 24 (rowCells r).toArray (0, 0) D rfl (setRow_heap _ _ zero24 _ _ _ HZ.out) HU.out HD.out (size24 r) (.bool true) rfl) rfl ⟨by rw [HP.out, hf.out]; rfl, below_setRow HB1.out (Nat.le_refl _) _⟩
        · have hop' : ((r.op : Int) == (n : Int)) = false := by simp; omega
          have HN := Lib.hid (Opc.noneOf_succ HR.out (by show (r.op == n) = false; simp [hop]) HNO.out)
          clear hop
          go_wp2_with fail
          go_round
          case rel => exact ⟨k + 1, by omega, rfl, by go_num, HN⟩
          case measure => simp [intOf]; omega
      · have hf := Lib.hid (Opc.find_no (p := fun r => r.op == n) (l := Opc.low) (k := k) (by show 43 ≤ k; omega) HNO.out)
        go_wp2_with (refine wpList_store_to rfl 24 (.tmp 2) (.tmp 30) rfl rfl w.heap.size (rowCells Opc.none).toArray rfl ?h3 24 zero24 HZ.out (size24 _) rfl ?h4 ?_)
        case h3 => rfl
        case h4 => exact rowCells_one _
        exact bodyPost_ret (v := .tuple #[.agg (rowCells Opc.none).toArray, .bool false]) (results_cell_tmp (p := 2) (q := 3) (ty := 24) (by kernel_rfl) _ _ w.heap.size 24 (rowCells Opc.none).toArray (0, 0) D rfl (setRow_heap _ _ zero24 _ _ _ HZ.out) HU.out HD.out (size24 _) (.bool false) rfl) rfl ⟨by rw [HP.out, hf.out]; rfl, below_setRow HB1.out (Nat.le_refl _) _⟩
set_option maxRecDepth 100000 in
set_option maxHeartbeats 2000000 in
theorem row_find_middle (n : Nat) (_h1 : 69 ≤ n) (_h2 : n < 121) (HP : Hid (Opc.row? n = Opc.middle.find? (fun r => r.op == n))) (w : World) : Calls Try.prog 7 #[.int .u8 (n : Int)] w (FindPost (Opc.row? n) w) := by
    obtain ⟨D, hu, hd⟩ := und24d
    have HU := Lib.hid hu
    have HD := Lib.hid hd
    clear hu hd
    go_enter Try.func7, Try.ntmps7
    go_wp2_with (first | (go_at_call 18; refine (high_any _).mono ?_; rintro e w0 ⟨g0, c0, rfl, ho0, hb0⟩; have HB0 := Lib.hid hb0; clear ho0 hb0) | (go_at_call 20; refine (middle_any _).mono ?_; rintro e w1 ⟨g, c, rfl, ho, hb⟩; have HO := Lib.hid ho; have HB := Lib.hid hb; clear ho hb))
    have HZ : Hid (w1.heap[w.heap.size]? = some (.cells zero24 24 (0, 0))) := Lib.hid ((HB.out.block w.heap.size (by have := HB0.out.size; simp at this; omega)).trans ((HB0.out.block w.heap.size (by simp)).trans (heap_alloc_new w _)))
    have HB1 : Hid (Below w.heap.size w w1) := Lib.hid ((((Below.refl _ _).alloc (Nat.le_refl _) _).trans (HB0.out.mono (by simp))).trans (HB.out.mono (by have := HB0.out.size; simp at this; omega)))
    clear HB HB0
    go_loop [3, 5] (fun b i => ∃ k : Nat, k ≤ 40 ∧ b = .bool false ∧ i = .int .i64 (k : Int) ∧ Hid (Opc.NoneOf (fun r => r.op == n) Opc.middle k)) (fun _ i => 40 - (intOf i).toNat)
    case atStart => exact ⟨0, by omega, rfl, rfl, Lib.hid (Opc.noneOf_zero _ _)⟩
    case round =>
      obtain ⟨k, hk, rfl, rfl, HNO⟩ := hrel
      by_cases hlt : k < 40
      · obtain ⟨r, hr⟩ : ∃ r, Opc.middle[k]? = some r := ⟨_, List.getElem?_eq_getElem (show k < Opc.middle.length from hlt)⟩
        obtain ⟨c0, c1, c2, c3, c4⟩ := row_at HO.out hr
        have HR := Lib.hid hr
        clear hr
        have HC : Hid ((rowCells r).toArray = #[.int .u8 (r.op : Int), .string ⟨r.name.toArray⟩, .int .u8 (r.form : Int), .string ⟨r.sig.toArray⟩, .int .i64 (r.width : Int)]) := Lib.hid rfl
        generalize (⟨r.name.toArray⟩ : ByteArray) = NM at c1 HC
        generalize (⟨r.sig.toArray⟩ : ByteArray) = SG at c3 HC
        by_cases hop : r.op = n
        · have hf := Lib.hid (Opc.find_of (p := fun r => r.op == n) HR.out (by show (r.op == n) = true; simp [hop]) HNO.out)
          have hop' : ((r.op : Int)) = (n : Int) := by omega
          clear hop
          go_wp2_with (refine wpList_store_to rfl 24 (.tmp 2) (.tmp 29) rfl rfl w.heap.size (rowCells r).toArray rfl ?h1 24 zero24 HZ.out (size24 r) rfl ?h2 ?_)
          case h1 => rw [← hop']; exact (congrArg Array.toList HC.out).symm
          case h2 => exact rowCells_one r
          exact bodyPost_ret (v := .tuple #[.agg (rowCells r).toArray, .bool true]) (results_cell_tmp (p := 2) (q := 3) (ty := 24) (by kernel_rfl) _ _ w.heap.size 24 (rowCells r).toArray (0, 0) D rfl (setRow_heap _ _ zero24 _ _ _ HZ.out) HU.out HD.out (size24 r) (.bool true) rfl) rfl ⟨by rw [HP.out, hf.out]; rfl, below_setRow HB1.out (Nat.le_refl _) _⟩
        · have hop' : ((r.op : Int) == (n : Int)) = false := by simp; omega
          have HN := Lib.hid (Opc.noneOf_succ HR.out (by show (r.op == n) = false; simp [hop]) HNO.out)
          clear hop
          go_wp2_with fail
          go_round
          case rel => exact ⟨k + 1, by omega, rfl, by go_num, HN⟩
          case measure => simp [intOf]; omega
      · have hf := Lib.hid (Opc.find_no (p := fun r => r.op == n) (l := Opc.middle) (k := k) (by show 40 ≤ k; omega) HNO.out)
        go_wp2_with (refine wpList_store_to rfl 24 (.tmp 2) (.tmp 30) rfl rfl w.heap.size (rowCells Opc.none).toArray rfl ?h3 24 zero24 HZ.out (size24 _) rfl ?h4 ?_)
        case h3 => rfl
        case h4 => exact rowCells_one _
        exact bodyPost_ret (v := .tuple #[.agg (rowCells Opc.none).toArray, .bool false]) (results_cell_tmp (p := 2) (q := 3) (ty := 24) (by kernel_rfl) _ _ w.heap.size 24 (rowCells Opc.none).toArray (0, 0) D rfl (setRow_heap _ _ zero24 _ _ _ HZ.out) HU.out HD.out (size24 _) (.bool false) rfl) rfl ⟨by rw [HP.out, hf.out]; rfl, below_setRow HB1.out (Nat.le_refl _) _⟩
set_option maxRecDepth 100000 in
set_option maxHeartbeats 2000000 in
theorem row_find_high (n : Nat) (_h1 : 121 ≤ n) (HP : Hid (Opc.row? n = Opc.high.find? (fun r => r.op == n))) (w : World) : Calls Try.prog 7 #[.int .u8 (n : Int)] w (FindPost (Opc.row? n) w) := by
    obtain ⟨D, hu, hd⟩ := und24d
    have HU := Lib.hid hu
    have HD := Lib.hid hd
    clear hu hd
    go_enter Try.func7, Try.ntmps7
    go_wp2_with (go_at_call 18; refine (high_any _).mono ?_; rintro e w1 ⟨g, c, rfl, ho, hb⟩; have HO := Lib.hid ho; have HB := Lib.hid hb; clear ho hb)
    have HZ : Hid (w1.heap[w.heap.size]? = some (.cells zero24 24 (0, 0))) := Lib.hid ((HB.out.block w.heap.size (by simp)).trans (heap_alloc_new w _))
    have HB1 : Hid (Below w.heap.size w w1) := Lib.hid (((Below.refl _ _).alloc (Nat.le_refl _) _).trans (HB.out.mono (by simp)))
    clear HB
    go_loop [3, 5] (fun b i => ∃ k : Nat, k ≤ 21 ∧ b = .bool false ∧ i = .int .i64 (k : Int) ∧ Hid (Opc.NoneOf (fun r => r.op == n) Opc.high k)) (fun _ i => 21 - (intOf i).toNat)
    case atStart => exact ⟨0, by omega, rfl, rfl, Lib.hid (Opc.noneOf_zero _ _)⟩
    case round =>
      obtain ⟨k, hk, rfl, rfl, HNO⟩ := hrel
      by_cases hlt : k < 21
      · obtain ⟨r, hr⟩ : ∃ r, Opc.high[k]? = some r := ⟨_, List.getElem?_eq_getElem (show k < Opc.high.length from hlt)⟩
        obtain ⟨c0, c1, c2, c3, c4⟩ := row_at HO.out hr
        have HR := Lib.hid hr
        clear hr
        have HC : Hid ((rowCells r).toArray = #[.int .u8 (r.op : Int), .string ⟨r.name.toArray⟩, .int .u8 (r.form : Int), .string ⟨r.sig.toArray⟩, .int .i64 (r.width : Int)]) := Lib.hid rfl
        generalize (⟨r.name.toArray⟩ : ByteArray) = NM at c1 HC
        generalize (⟨r.sig.toArray⟩ : ByteArray) = SG at c3 HC
        by_cases hop : r.op = n
        · have hf := Lib.hid (Opc.find_of (p := fun r => r.op == n) HR.out (by show (r.op == n) = true; simp [hop]) HNO.out)
          have hop' : ((r.op : Int)) = (n : Int) := by omega
          clear hop
          go_wp2_with (refine wpList_store_to rfl 24 (.tmp 2) (.tmp 29) rfl rfl w.heap.size (rowCells r).toArray rfl ?h1 24 zero24 HZ.out (size24 r) rfl ?h2 ?_)
          case h1 => rw [← hop']; exact (congrArg Array.toList HC.out).symm
          case h2 => exact rowCells_one r
          exact bodyPost_ret (v := .tuple #[.agg (rowCells r).toArray, .bool true]) (results_cell_tmp (p := 2) (q := 3) (ty := 24) (by kernel_rfl) _ _ w.heap.size 24 (rowCells r).toArray (0, 0) D rfl (setRow_heap _ _ zero24 _ _ _ HZ.out) HU.out HD.out (size24 r) (.bool true) rfl) rfl ⟨by rw [HP.out, hf.out]; rfl, below_setRow HB1.out (Nat.le_refl _) _⟩
        · have hop' : ((r.op : Int) == (n : Int)) = false := by simp; omega
          have HN := Lib.hid (Opc.noneOf_succ HR.out (by show (r.op == n) = false; simp [hop]) HNO.out)
          clear hop
          go_wp2_with fail
          go_round
          case rel => exact ⟨k + 1, by omega, rfl, by go_num, HN⟩
          case measure => simp [intOf]; omega
      · have hf := Lib.hid (Opc.find_no (p := fun r => r.op == n) (l := Opc.high) (k := k) (by show 21 ≤ k; omega) HNO.out)
        go_wp2_with (refine wpList_store_to rfl 24 (.tmp 2) (.tmp 30) rfl rfl w.heap.size (rowCells Opc.none).toArray rfl ?h3 24 zero24 HZ.out (size24 _) rfl ?h4 ?_)
        case h3 => rfl
        case h4 => exact rowCells_one _
        exact bodyPost_ret (v := .tuple #[.agg (rowCells Opc.none).toArray, .bool false]) (results_cell_tmp (p := 2) (q := 3) (ty := 24) (by kernel_rfl) _ _ w.heap.size 24 (rowCells Opc.none).toArray (0, 0) D rfl (setRow_heap _ _ zero24 _ _ _ HZ.out) HU.out HD.out (size24 _) (.bool false) rfl) rfl ⟨by rw [HP.out, hf.out]; rfl, below_setRow HB1.out (Nat.le_refl _) _⟩
theorem row_find (n : Nat) (w : World) : Calls Try.prog 7 #[.int .u8 (n : Int)] w (FindPost (Opc.row? n) w) := by
  by_cases h1 : n < 69
  · exact row_find_low n h1 (Lib.hid (by unfold Opc.row? Opc.part; rw [if_pos h1])) w
  · by_cases h2 : n < 121
    · exact row_find_middle n (by omega) h2 (Lib.hid (by unfold Opc.row? Opc.part; rw [if_neg h1, if_pos h2])) w
    · exact row_find_high n (by omega) (Lib.hid (by unfold Opc.row? Opc.part; rw [if_neg h1, if_neg h2])) w
set_option maxHeartbeats 1000000 in
theorem types_any (s : ByteArray) (hs : s.size ≤ 1000) (w : World) : Calls Try.prog 23 #[.string s] w fun e w' => ∃ v, e = .returned v ∧ w'.ownsRow w.heap.size 5 1 v s.size (bytesOf (Opc.letters s.data.toList)) ∧ Below w.heap.size w w' := by
  go_enter Try.func23, Try.ntmps23
  go_wp2_with fail
  go_loopw [3, 4] (fun v i wr => ∃ k : Nat, k ≤ s.size ∧ i = .int .i64 (k : Int) ∧ Hid (wr.ownsRow w.heap.size 5 1 v k (bytesOf (Opc.letters (s.data.toList.take k)))) ∧ Hid (Below w.heap.size w wr)) (fun _ i _ => s.size - (intOf i).toNat)
  case atStart => exact ⟨0, by omega, rfl, Lib.hid ⟨rfl, .inl ⟨rfl, rfl⟩⟩, Lib.hid (Below.refl _ _)⟩
  case round =>
    obtain ⟨k, hk, rfl, HO, HB⟩ := hrel
    by_cases hlt : k < s.size
    · have HL := Lib.hid (Opc.letters_snoc s.data.toList k s[k] (by rw [List.getElem?_eq_getElem (by simpa using hlt)]; rfl))
      by_cases hc : s[k] = 105
      · have HX : Hid (Opc.letter s[k] = 127) := Lib.hid (by unfold Opc.letter; rw [if_pos hc])
        have hc' : ((s[k].toNat : Int) == 105) = true := by rw [hc]; rfl
        obtain ⟨v', w', hr, ho, hb⟩ := append1 wr w.heap.size k _ _ 127 HO.out (by omega) HB.out.size
        have HR := Lib.hid hr
        have HO2 := Lib.hid ho
        have HB2 := Lib.hid (HB.out.trans hb)
        clear hr ho hb hc HO HB
        go_wp2_with (at_builtin; refine wpList_appends rfl (.tmp 15) (.tmp 16) 27 rfl _ _ _ w' rfl rfl HR.out ?_)
        go_roundw
        case rel => exact ⟨k + 1, by omega, by go_num, Lib.hid (by rw [HL.out, HX.out]; exact HO2.out), HB2⟩
        case measure => simp [intOf]; omega
      · have HX : Hid (Opc.letter s[k] = 126) := Lib.hid (by unfold Opc.letter; rw [if_neg hc])
        have hc' : ((s[k].toNat : Int) == 105) = false := by
          simp only [beq_eq_false_iff_ne, ne_eq]
          intro h
          exact hc (UInt8.toNat_inj.1 (by have : (105 : UInt8).toNat = 105 := rfl; omega))
        obtain ⟨v', w', hr, ho, hb⟩ := append1 wr w.heap.size k _ _ 126 HO.out (by omega) HB.out.size
        have HR := Lib.hid hr
        have HO2 := Lib.hid ho
        have HB2 := Lib.hid (HB.out.trans hb)
        clear hr ho hb hc HO HB
        go_wp2_with (at_builtin; refine wpList_appends rfl (.tmp 18) (.tmp 19) 27 rfl _ _ _ w' rfl rfl HR.out ?_)
        go_roundw
        case rel => exact ⟨k + 1, by omega, by go_num, Lib.hid (by rw [HL.out, HX.out]; exact HO2.out), HB2⟩
        case measure => simp [intOf]; omega
    · have HT := Lib.hid (show s.data.toList.take k = s.data.toList from List.take_of_length_le (by simp; omega))
      have hks : k = s.size := by omega
      subst hks
      go_wp2_with fail
      go_ret
      exact ⟨_, rfl, by rw [← HT.out]; exact HO.out, HB.out⟩
end Go.Proofs.Ytejjkihggdmdlaa
