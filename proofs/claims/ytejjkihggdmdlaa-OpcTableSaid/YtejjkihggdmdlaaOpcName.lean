/-
  opc.names and opc.Name: the names stand in an array as the table has them; all memory that was there is as it was.
-/
import Derived.Test.YtejjkihggdmdlaaOpcSig
import Derived.Laws.Tables
import Derived.Laws.Rows
import Derived.Great.Walk
namespace Go.Proofs.Ytejjkihggdmdlaa
open Go.RowKit
def namesArr : Array Value := ((List.range 256).map fun n => Value.string ⟨(Opc.row n).name.toArray⟩).toArray
def zeroArr : Array Value := ((List.range 256).map fun _ => Value.string ⟨#[]⟩).toArray
theorem wpList_build_to {P : Program} {ops : Array Oper} {rest : List Oper} {o : Oper} {a : Act} {w : World} {Q : Exit → Act → World → Prop} (hg : o.guard = none) (t : TypeId) (parts : Array (Nat × Operand)) (ho : o.op = .build t parts)
    (dst : Option Tmp) (hdst : o.dst = dst) (cells : Array Value) (hf : P.built t (parts.map fun (i, x) => (i, a.eval x)).toList = some cells)
    (h : wpList P ops Q rest (a.put dst (.agg cells)) w) : wpList P ops Q (o :: rest) a w := by
  subst hdst
  exact wpList_build hg t parts ho (by rw [hf]; rfl) (by rw [hf]; exact h)
theorem wpList_store_to {P : Program} {ops : Array Oper} {rest : List Oper} {o : Oper} {a : Act} {w : World} {Q : Exit → Act → World → Prop} (hgd : o.guard = none) (ty : TypeId) (x y : Operand) (ho : o.op = .store ty x y)
    (hdst : o.dst = none)
    (g : Nat) (cells : Array Value) (hx : a.eval x = .pointer (some ⟨g, 0, none⟩)) (hy : a.eval y = .agg cells)
    (t : TypeId) (old : Array Value) (hg : w.heap[g]? = some (.cells old t (0, 0))) (hi : (P.info? ty).map (·.size) = some cells.size)
    (hold : old.size = cells.size) (h1 : cells.all (·.oneCell') = true)
    (h : wpList P ops Q rest a (w.setRow g cells)) : wpList P ops Q (o :: rest) a w :=
  wpList_store_row hgd ty x y ho g cells hx hy t old hg hi hold h1 (by rw [hdst]; exact h)
theorem below_setRow {B g : Nat} {a w : World} (h : Below B a w) (hg : B ≤ g) (cs : Array Value) : Below B a (w.setRow g cs) :=
  ⟨h.os, h.tape, h.output, by simpa using h.size, fun b hb => (setRow_other w g b cs (by omega)).trans (h.block b hb)⟩
set_option maxRecDepth 100000 in
theorem names_any (w : World) : Calls Try.prog 24 #[] w fun e w' => e = .returned (.agg namesArr) ∧ Below w.heap.size w w' := by
  go_enter Try.func24, Try.ntmps24
  apply wp_seq_k; intro K1 hK1
  apply wp_region_lit
  refine Great.wpList_allocTo rfl (some 0) rfl (.pointer (some ⟨w.heap.size, 0, none⟩)) (.cells zeroArr 43) (by as_aux_lemma => kernel_rfl) ?_
  apply wpList_nil
  refine hK1 _ _ ?_
  clear hK1 K1
  apply wp_seq_k; intro K1 hK1
  apply wp_region_lit
  refine wpList_build_to rfl 43 _ rfl (some 1) rfl namesArr (by as_aux_lemma => kernel_rfl) ?_
  refine wpList_store_to rfl 43 (.tmp 0) (.tmp 1) rfl rfl w.heap.size namesArr rfl rfl 43 zeroArr (heap_alloc_new _ _) (by as_aux_lemma => kernel_rfl) (by as_aux_lemma => kernel_rfl) (by as_aux_lemma => kernel_rfl) ?_
  apply wpList_nil
  refine hK1 _ _ ?_
  clear hK1 K1
  apply wp_ret
  refine bodyPost_ret (v := .agg namesArr) (results_cell_row (p := 0) (ty := 43) (by kernel_rfl) _ _ w.heap.size 43 namesArr (0, 0) (.array 256 9) rfl (setRow_heap _ _ zeroArr _ _ _ (heap_alloc_new _ _)) (by kernel_rfl) rfl (by as_aux_lemma => kernel_rfl)) rfl ⟨rfl, below_setRow ((Below.refl _ _).alloc (Nat.le_refl _) _) (Nat.le_refl _) _⟩
theorem names_at (n : Nat) (hn : n < 256) : namesArr[n]? = some (.string ⟨(Opc.row n).name.toArray⟩) := by
  unfold namesArr
  rw [List.getElem?_toArray, List.getElem?_map, List.getElem?_range hn]; rfl
theorem run_index_names (k : IntKind) (n : Nat) (hn : n < 256) (w : World) : (Instr.index 43 (.agg namesArr) (.int k (n : Int))).run Try.prog w = .ok (.string ⟨(Opc.row n).name.toArray⟩) w := by
  have hu : Try.prog.underlying 43 = some (.array 256 9) := by kernel_rfl
  have hs : (Try.prog.info? 9).map (·.size) = some 1 := by kernel_rfl
  obtain ⟨i9, hi, hs⟩ := Option.map_eq_some_iff.1 hs
  have ha := names_at n hn
  simp [Instr.index, asIntOf, run_underlying hu, sizeOf, typeInfo, hi, hs, part, ha]
  intro h; omega
/-- A name, as the program has it. -/
def nm (n : Nat) : ByteArray := ⟨(Opc.row n).name.toArray⟩
theorem name_any (n : Nat) (hn : n < 256) (w : World) : Calls Try.prog 15 #[.int .u8 (n : Int)] w fun e w' => e = .returned (.string (nm n)) ∧ Below w.heap.size w w' := by
  have hix := run_index_names .u8 n hn
  have hnm : (⟨(Opc.row n).name.toArray⟩ : ByteArray) = nm n := rfl
  rw [hnm] at hix
  clear hnm
  go_enter Try.func15, Try.ntmps15
  go_wp2_with (go_at_call 24; refine (names_any _).mono ?_; rintro e w' ⟨rfl, hb⟩)
  go_ret
  exact ⟨rfl, hb⟩
end Go.Proofs.Ytejjkihggdmdlaa
