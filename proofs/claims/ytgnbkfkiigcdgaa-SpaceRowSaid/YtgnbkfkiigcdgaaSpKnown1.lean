/-
  Layer 8's statements: the chapter's module. (gen/space/known1.py)
-/
import Derived.Test.YtgnbkfkiigcdgaaSpAsk3
namespace Go.Proofs.Ytgnbkfkiigcdgaa
open Go.RowKit Ins Bin Sp
def mk8 : M := ⟨[⟨[], []⟩, ⟨[127], []⟩], [⟨[], [], 0, 1, ⟨0, 0⟩, ⟨0, false⟩⟩, ⟨[], [], 2, 0, ⟨1, -1⟩, ⟨0, false⟩⟩, ⟨[], [], 0, 0, ⟨0, 0⟩, ⟨0, false⟩⟩], [1, 7], [], [], [], [⟨[109, 97, 105, 110], 0, 2⟩], false, 0, [], [], []⟩
theorem des_smod : (Try.prog.underlying 33).map aggS = some true := by kernel_rfl
theorem siz_smod : (Try.prog.info? 33).map (·.size) = some 12 := by kernel_rfl
theorem new_at (W : World) (o : Obj) (n : Nat) (h : W.heap.size = n) : (W.alloc o).heap[n]? = some o := by subst h; exact heap_alloc_new W o
theorem six_new (w : World) (o0 o1 o2 o3 o4 o5 : Obj) : ((((((w.alloc o0).alloc o1).alloc o2).alloc o3).alloc o4).alloc o5).heap[w.heap.size]? = some o0 ∧ ((((((w.alloc o0).alloc o1).alloc o2).alloc o3).alloc o4).alloc o5).heap[w.heap.size + 1]? = some o1 ∧ ((((((w.alloc o0).alloc o1).alloc o2).alloc o3).alloc o4).alloc o5).heap[w.heap.size + 2]? = some o2 ∧ ((((((w.alloc o0).alloc o1).alloc o2).alloc o3).alloc o4).alloc o5).heap[w.heap.size + 3]? = some o3 ∧ ((((((w.alloc o0).alloc o1).alloc o2).alloc o3).alloc o4).alloc o5).heap[w.heap.size + 4]? = some o4 ∧ ((((((w.alloc o0).alloc o1).alloc o2).alloc o3).alloc o4).alloc o5).heap[w.heap.size + 5]? = some o5 := by
  refine ⟨?_, ?_, ?_, ?_, ?_, ?_⟩
  · exact (Below.heap_alloc _ _ _ (by simp <;> omega)).trans ((Below.heap_alloc _ _ _ (by simp <;> omega)).trans ((Below.heap_alloc _ _ _ (by simp <;> omega)).trans ((Below.heap_alloc _ _ _ (by simp <;> omega)).trans ((Below.heap_alloc _ _ _ (by simp <;> omega)).trans (new_at _ _ _ (by simp))))))
  · exact (Below.heap_alloc _ _ _ (by simp <;> omega)).trans ((Below.heap_alloc _ _ _ (by simp <;> omega)).trans ((Below.heap_alloc _ _ _ (by simp <;> omega)).trans ((Below.heap_alloc _ _ _ (by simp <;> omega)).trans (new_at _ _ _ (by simp)))))
  · exact (Below.heap_alloc _ _ _ (by simp <;> omega)).trans ((Below.heap_alloc _ _ _ (by simp <;> omega)).trans ((Below.heap_alloc _ _ _ (by simp <;> omega)).trans (new_at _ _ _ (by simp))))
  · exact (Below.heap_alloc _ _ _ (by simp <;> omega)).trans ((Below.heap_alloc _ _ _ (by simp <;> omega)).trans (new_at _ _ _ (by simp)))
  · exact (Below.heap_alloc _ _ _ (by simp <;> omega)).trans (new_at _ _ _ (by simp))
  · exact new_at _ _ _ (by simp)
set_option maxRecDepth 100000 in
set_option maxHeartbeats 4000000 in
theorem smodule_any (w : World) : Calls Try.prog 25 #[] w fun e w' => ∃ v1 v2 v3 v4 v5 v6 v7 v8 v9 v10, e = .returned (.agg (modCells mk8 v1 v2 v3 v4 v5 v6 v7 v8 v9 v10)) ∧ RepM w' (· < w'.heap.size) mk8 v1 v2 v3 v4 v5 v6 v7 v8 v9 v10 ∧ Below w.heap.size w w' := by
  obtain ⟨D, hu, hd⟩ := descOf des_smod
  have HU := Lib.hid hu
  have HD := Lib.hid hd
  clear hu hd
  have hsix := six_new w (.cells #[.slice none 0 0, .slice none 0 0, .slice none 0 0, .slice none 0 0, .slice none 0 0, .slice none 0 0, .slice none 0 0, .bool false, .int .u32 0, .slice none 0 0, .slice none 0 0, .slice none 0 0] 33) (.cells #[.int .u8 127] 5) (.cells #[.slice none 0 0, .slice none 0 0, .slice (some ⟨w.heap.size + 1, 0, none⟩) 1 1, .slice none 0 0] 40) (.cells #[.string ⟨#[]⟩, .string ⟨#[]⟩, .int .u8 0, .int .u32 1, .int .u32 0, .int .i64 0, .int .u8 0, .bool false, .string ⟨#[]⟩, .string ⟨#[]⟩, .int .u8 2, .int .u32 0, .int .u32 1, .int .i64 (-1), .int .u8 0, .bool false, .string ⟨#[]⟩, .string ⟨#[]⟩, .int .u8 0, .int .u32 0, .int .u32 0, .int .i64 0, .int .u8 0, .bool false] 63) (.cells #[.int .u32 1, .int .u32 7] 28) (.cells #[.string ⟨#[109, 97, 105, 110]⟩, .int .u8 0, .int .u32 2] 86)
  have H0 := Lib.hid hsix.1
  have H1 := Lib.hid hsix.2.1
  have H2 := Lib.hid hsix.2.2.1
  have H3 := Lib.hid hsix.2.2.2.1
  have H4 := Lib.hid hsix.2.2.2.2.1
  have H5 := Lib.hid hsix.2.2.2.2.2
  clear hsix
  have HB : Hid (Below w.heap.size w ((((((w.alloc (.cells #[.slice none 0 0, .slice none 0 0, .slice none 0 0, .slice none 0 0, .slice none 0 0, .slice none 0 0, .slice none 0 0, .bool false, .int .u32 0, .slice none 0 0, .slice none 0 0, .slice none 0 0] 33)).alloc (.cells #[.int .u8 127] 5)).alloc (.cells #[.slice none 0 0, .slice none 0 0, .slice (some ⟨w.heap.size + 1, 0, none⟩) 1 1, .slice none 0 0] 40)).alloc (.cells #[.string ⟨#[]⟩, .string ⟨#[]⟩, .int .u8 0, .int .u32 1, .int .u32 0, .int .i64 0, .int .u8 0, .bool false, .string ⟨#[]⟩, .string ⟨#[]⟩, .int .u8 2, .int .u32 0, .int .u32 1, .int .i64 (-1), .int .u8 0, .bool false, .string ⟨#[]⟩, .string ⟨#[]⟩, .int .u8 0, .int .u32 0, .int .u32 0, .int .i64 0, .int .u8 0, .bool false] 63)).alloc (.cells #[.int .u32 1, .int .u32 7] 28)).alloc (.cells #[.string ⟨#[109, 97, 105, 110]⟩, .int .u8 0, .int .u32 2] 86))) := Lib.hid ((((((((Below.refl _ _).alloc (Nat.le_refl _) _).alloc (by simp) _).alloc (by simp; omega) _).alloc (by simp; omega) _).alloc (by simp; omega) _).alloc (by simp; omega) _))
  have HSZ : Hid (((((((w.alloc (.cells #[.slice none 0 0, .slice none 0 0, .slice none 0 0, .slice none 0 0, .slice none 0 0, .slice none 0 0, .slice none 0 0, .bool false, .int .u32 0, .slice none 0 0, .slice none 0 0, .slice none 0 0] 33)).alloc (.cells #[.int .u8 127] 5)).alloc (.cells #[.slice none 0 0, .slice none 0 0, .slice (some ⟨w.heap.size + 1, 0, none⟩) 1 1, .slice none 0 0] 40)).alloc (.cells #[.string ⟨#[]⟩, .string ⟨#[]⟩, .int .u8 0, .int .u32 1, .int .u32 0, .int .i64 0, .int .u8 0, .bool false, .string ⟨#[]⟩, .string ⟨#[]⟩, .int .u8 2, .int .u32 0, .int .u32 1, .int .i64 (-1), .int .u8 0, .bool false, .string ⟨#[]⟩, .string ⟨#[]⟩, .int .u8 0, .int .u32 0, .int .u32 0, .int .i64 0, .int .u8 0, .bool false] 63)).alloc (.cells #[.int .u32 1, .int .u32 7] 28)).alloc (.cells #[.string ⟨#[109, 97, 105, 110]⟩, .int .u8 0, .int .u32 2] 86)).heap.size = w.heap.size + 6) := Lib.hid (by simp)
  go_enter Try.func25, Try.ntmps25
  go_wp2_with (refine wpList_store_to rfl 33 (.tmp 0) (.tmp 13) rfl rfl w.heap.size #[.slice (some ⟨w.heap.size + 2, 0, none⟩) 2 2, .slice (some ⟨w.heap.size + 3, 0, none⟩) 3 3, .slice (some ⟨w.heap.size + 4, 0, none⟩) 2 2, .slice none 0 0, .slice none 0 0, .slice none 0 0, .slice (some ⟨w.heap.size + 5, 0, none⟩) 1 1, .bool false, .int .u32 0, .slice none 0 0, .slice none 0 0, .slice none 0 0] rfl rfl 33 #[.slice none 0 0, .slice none 0 0, .slice none 0 0, .slice none 0 0, .slice none 0 0, .slice none 0 0, .slice none 0 0, .bool false, .int .u32 0, .slice none 0 0, .slice none 0 0, .slice none 0 0] H0.out siz_smod rfl (by simp [Value.oneCell']) ?_)
  generalize ((((((w.alloc (.cells #[.slice none 0 0, .slice none 0 0, .slice none 0 0, .slice none 0 0, .slice none 0 0, .slice none 0 0, .slice none 0 0, .bool false, .int .u32 0, .slice none 0 0, .slice none 0 0, .slice none 0 0] 33)).alloc (.cells #[.int .u8 127] 5)).alloc (.cells #[.slice none 0 0, .slice none 0 0, .slice (some ⟨w.heap.size + 1, 0, none⟩) 1 1, .slice none 0 0] 40)).alloc (.cells #[.string ⟨#[]⟩, .string ⟨#[]⟩, .int .u8 0, .int .u32 1, .int .u32 0, .int .i64 0, .int .u8 0, .bool false, .string ⟨#[]⟩, .string ⟨#[]⟩, .int .u8 2, .int .u32 0, .int .u32 1, .int .i64 (-1), .int .u8 0, .bool false, .string ⟨#[]⟩, .string ⟨#[]⟩, .int .u8 0, .int .u32 0, .int .u32 0, .int .i64 0, .int .u8 0, .bool false] 63)).alloc (.cells #[.int .u32 1, .int .u32 7] 28)).alloc (.cells #[.string ⟨#[109, 97, 105, 110]⟩, .int .u8 0, .int .u32 2] 86)) = w6 at H0 H1 H2 H3 H4 H5 HB HSZ ⊢
  have HZ := setRow_heap w6 w.heap.size #[.slice none 0 0, .slice none 0 0, .slice none 0 0, .slice none 0 0, .slice none 0 0, .slice none 0 0, .slice none 0 0, .bool false, .int .u32 0, .slice none 0 0, .slice none 0 0, .slice none 0 0] #[.slice (some ⟨w.heap.size + 2, 0, none⟩) 2 2, .slice (some ⟨w.heap.size + 3, 0, none⟩) 3 3, .slice (some ⟨w.heap.size + 4, 0, none⟩) 2 2, .slice none 0 0, .slice none 0 0, .slice none 0 0, .slice (some ⟨w.heap.size + 5, 0, none⟩) 1 1, .bool false, .int .u32 0, .slice none 0 0, .slice none 0 0, .slice none 0 0] _ _ H0.out
  refine bodyPost_ret (v := .agg #[.slice (some ⟨w.heap.size + 2, 0, none⟩) 2 2, .slice (some ⟨w.heap.size + 3, 0, none⟩) 3 3, .slice (some ⟨w.heap.size + 4, 0, none⟩) 2 2, .slice none 0 0, .slice none 0 0, .slice none 0 0, .slice (some ⟨w.heap.size + 5, 0, none⟩) 1 1, .bool false, .int .u32 0, .slice none 0 0, .slice none 0 0, .slice none 0 0]) (res_cell (p := 0) (ty := 33) (by kernel_rfl) _ _ w.heap.size 33 #[.slice (some ⟨w.heap.size + 2, 0, none⟩) 2 2, .slice (some ⟨w.heap.size + 3, 0, none⟩) 3 3, .slice (some ⟨w.heap.size + 4, 0, none⟩) 2 2, .slice none 0 0, .slice none 0 0, .slice none 0 0, .slice (some ⟨w.heap.size + 5, 0, none⟩) 1 1, .bool false, .int .u32 0, .slice none 0 0, .slice none 0 0, .slice none 0 0] (0, 0) D rfl HZ HU.out HD.out siz_smod) rfl ?_
  have G1 := (setRow_other w6 w.heap.size (w.heap.size + 1) #[.slice (some ⟨w.heap.size + 2, 0, none⟩) 2 2, .slice (some ⟨w.heap.size + 3, 0, none⟩) 3 3, .slice (some ⟨w.heap.size + 4, 0, none⟩) 2 2, .slice none 0 0, .slice none 0 0, .slice none 0 0, .slice (some ⟨w.heap.size + 5, 0, none⟩) 1 1, .bool false, .int .u32 0, .slice none 0 0, .slice none 0 0, .slice none 0 0] (by omega)).trans H1.out
  have G2 := (setRow_other w6 w.heap.size (w.heap.size + 2) #[.slice (some ⟨w.heap.size + 2, 0, none⟩) 2 2, .slice (some ⟨w.heap.size + 3, 0, none⟩) 3 3, .slice (some ⟨w.heap.size + 4, 0, none⟩) 2 2, .slice none 0 0, .slice none 0 0, .slice none 0 0, .slice (some ⟨w.heap.size + 5, 0, none⟩) 1 1, .bool false, .int .u32 0, .slice none 0 0, .slice none 0 0, .slice none 0 0] (by omega)).trans H2.out
  have G3 := (setRow_other w6 w.heap.size (w.heap.size + 3) #[.slice (some ⟨w.heap.size + 2, 0, none⟩) 2 2, .slice (some ⟨w.heap.size + 3, 0, none⟩) 3 3, .slice (some ⟨w.heap.size + 4, 0, none⟩) 2 2, .slice none 0 0, .slice none 0 0, .slice none 0 0, .slice (some ⟨w.heap.size + 5, 0, none⟩) 1 1, .bool false, .int .u32 0, .slice none 0 0, .slice none 0 0, .slice none 0 0] (by omega)).trans H3.out
  have G4 := (setRow_other w6 w.heap.size (w.heap.size + 4) #[.slice (some ⟨w.heap.size + 2, 0, none⟩) 2 2, .slice (some ⟨w.heap.size + 3, 0, none⟩) 3 3, .slice (some ⟨w.heap.size + 4, 0, none⟩) 2 2, .slice none 0 0, .slice none 0 0, .slice none 0 0, .slice (some ⟨w.heap.size + 5, 0, none⟩) 1 1, .bool false, .int .u32 0, .slice none 0 0, .slice none 0 0, .slice none 0 0] (by omega)).trans H4.out
  have G5 := (setRow_other w6 w.heap.size (w.heap.size + 5) #[.slice (some ⟨w.heap.size + 2, 0, none⟩) 2 2, .slice (some ⟨w.heap.size + 3, 0, none⟩) 3 3, .slice (some ⟨w.heap.size + 4, 0, none⟩) 2 2, .slice none 0 0, .slice none 0 0, .slice none 0 0, .slice (some ⟨w.heap.size + 5, 0, none⟩) 1 1, .bool false, .int .u32 0, .slice none 0 0, .slice none 0 0, .slice none 0 0] (by omega)).trans H5.out
  have hbe := below_setRow HB.out (Nat.le_refl _) #[.slice (some ⟨w.heap.size + 2, 0, none⟩) 2 2, .slice (some ⟨w.heap.size + 3, 0, none⟩) 3 3, .slice (some ⟨w.heap.size + 4, 0, none⟩) 2 2, .slice none 0 0, .slice none 0 0, .slice none 0 0, .slice (some ⟨w.heap.size + 5, 0, none⟩) 1 1, .bool false, .int .u32 0, .slice none 0 0, .slice none 0 0, .slice none 0 0]
  have hsz : (w6.setRow w.heap.size #[.slice (some ⟨w.heap.size + 2, 0, none⟩) 2 2, .slice (some ⟨w.heap.size + 3, 0, none⟩) 3 3, .slice (some ⟨w.heap.size + 4, 0, none⟩) 2 2, .slice none 0 0, .slice none 0 0, .slice none 0 0, .slice (some ⟨w.heap.size + 5, 0, none⟩) 1 1, .bool false, .int .u32 0, .slice none 0 0, .slice none 0 0, .slice none 0 0]).heap.size = w.heap.size + 6 := by rw [← HSZ.out]; simp
  generalize w6.setRow w.heap.size #[.slice (some ⟨w.heap.size + 2, 0, none⟩) 2 2, .slice (some ⟨w.heap.size + 3, 0, none⟩) 3 3, .slice (some ⟨w.heap.size + 4, 0, none⟩) 2 2, .slice none 0 0, .slice none 0 0, .slice none 0 0, .slice (some ⟨w.heap.size + 5, 0, none⟩) 1 1, .bool false, .int .u32 0, .slice none 0 0, .slice none 0 0, .slice none 0 0] = wz at G1 G2 G3 G4 G5 hbe hsz ⊢
  clear HZ
  have c1 : ∀ j, wz.cell? ⟨w.heap.size + 1, j, none⟩ = (#[Value.int .u8 127] : Array Value)[j]? := fun j => cell_of_row wz _ j _ _ (0, 0) G1
  have c2 := fun j => cell_of_row wz _ j _ _ (0, 0) G2
  have c3 := fun j => cell_of_row wz _ j _ _ (0, 0) G3
  have c4 := fun j => cell_of_row wz _ j _ _ (0, 0) G4
  have c5 := fun j => cell_of_row wz _ j _ _ (0, 0) G5
  have m63 : (6 : Nat) ≤ maxLen := by unfold maxLen; omega
  have s1 : SliceV wz (· < wz.heap.size) ([127] : List UInt8) (.slice (some ⟨w.heap.size + 1, 0, none⟩) 1 1) := ⟨_, 1, rfl, Nat.le_refl _, by omega, (fun e => by cases e), fun k x hx => by
    match k, hx with
    | 0, hx => exact ⟨_, 0, [.int .u8 127], rfl, by show _ < _; omega, by omega, by injection hx with hx; subst hx; rfl, fun j u hj => by rw [show 0 + 0 * Lay.size UInt8 + j = j by omega, c1]; simpa using hj⟩⟩
  have s2 : SliceV wz (· < wz.heap.size) mk8.types (.slice (some ⟨w.heap.size + 2, 0, none⟩) 2 2) := ⟨_, 2, rfl, Nat.le_refl _, by omega, (fun e => by cases e), fun k x hx => by
    match k, hx with
    | 0, hx => exact ⟨_, 0, [.slice none 0 0, .slice none 0 0], rfl, by show _ < _; omega, by omega, by injection hx with hx; subst hx; exact ⟨_, _, rfl, SliceV.nil _ _, SliceV.nil _ _⟩, fun j u hj => by
        rw [show 0 + 0 * Lay.size FT + j = j by omega, c2]
        match j, hj with
        | 0, hj => exact hj
        | 1, hj => exact hj⟩
    | 1, hx => exact ⟨_, 0, [.slice (some ⟨w.heap.size + 1, 0, none⟩) 1 1, .slice none 0 0], rfl, by show _ < _; omega, by omega, by injection hx with hx; subst hx; exact ⟨_, _, rfl, s1, SliceV.nil _ _⟩, fun j u hj => by
        rw [show 0 + 1 * Lay.size FT + j = 2 + j by show 0 + 1 * 2 + j = 2 + j; omega, c2]
        match j, hj with
        | 0, hj => exact hj
        | 1, hj => exact hj⟩⟩
  have s3 : SliceV wz (· < wz.heap.size) mk8.imports (.slice (some ⟨w.heap.size + 3, 0, none⟩) 3 3) := ⟨_, 3, rfl, Nat.le_refl _, by omega, (fun e => by cases e), fun k x hx => by
    match k, hx with
    | 0, hx => exact ⟨_, 0, _, rfl, by show _ < _; omega, by omega, ⟨rfl, by injection hx with hx; subst hx; decide, by injection hx with hx; subst hx; unfold Lim.wf; decide⟩, fun j u hj => by
        injection hx with hx
        subst hx
        rw [show 0 + 0 * Lay.size Imp + j = j by omega, c3]
        match j, hj with
        | 0, hj | 1, hj | 2, hj | 3, hj | 4, hj | 5, hj | 6, hj | 7, hj => exact hj⟩
    | 1, hx => exact ⟨_, 0, _, rfl, by show _ < _; omega, by omega, ⟨rfl, by injection hx with hx; subst hx; decide, by injection hx with hx; subst hx; unfold Lim.wf; decide⟩, fun j u hj => by
        injection hx with hx
        subst hx
        rw [show 0 + 1 * Lay.size Imp + j = 8 + j by show 0 + 1 * 8 + j = 8 + j; omega, c3]
        match j, hj with
        | 0, hj | 1, hj | 2, hj | 3, hj | 4, hj | 5, hj | 6, hj | 7, hj => exact hj⟩
    | 2, hx => exact ⟨_, 0, _, rfl, by show _ < _; omega, by omega, ⟨rfl, by injection hx with hx; subst hx; decide, by injection hx with hx; subst hx; unfold Lim.wf; decide⟩, fun j u hj => by
        injection hx with hx
        subst hx
        rw [show 0 + 2 * Lay.size Imp + j = 16 + j by show 0 + 2 * 8 + j = 16 + j; omega, c3]
        match j, hj with
        | 0, hj | 1, hj | 2, hj | 3, hj | 4, hj | 5, hj | 6, hj | 7, hj => exact hj⟩⟩
  have s4 : SliceV wz (· < wz.heap.size) mk8.funcs (.slice (some ⟨w.heap.size + 4, 0, none⟩) 2 2) := ⟨_, 2, rfl, Nat.le_refl _, by omega, (fun e => by cases e), fun k x hx => by
    match k, hx with
    | 0, hx => exact ⟨_, 0, [.int .u32 1], rfl, by show _ < _; omega, by omega, by injection hx with hx; subst hx; exact ⟨rfl, by decide⟩, fun j u hj => by
        rw [show 0 + 0 * Lay.size Nat + j = j by omega, c4]
        match j, hj with
        | 0, hj => exact hj⟩
    | 1, hx => exact ⟨_, 0, [.int .u32 7], rfl, by show _ < _; omega, by omega, by injection hx with hx; subst hx; exact ⟨rfl, by decide⟩, fun j u hj => by
        rw [show 0 + 1 * Lay.size Nat + j = 1 + j by show 0 + 1 * 1 + j = 1 + j; omega, c4]
        match j, hj with
        | 0, hj => exact hj⟩⟩
  have s5 : SliceV wz (· < wz.heap.size) mk8.exports (.slice (some ⟨w.heap.size + 5, 0, none⟩) 1 1) := ⟨_, 1, rfl, Nat.le_refl _, by omega, (fun e => by cases e), fun k x hx => by
    match k, hx with
    | 0, hx => exact ⟨_, 0, _, rfl, by show _ < _; omega, by omega, ⟨rfl, by injection hx with hx; subst hx; decide⟩, fun j u hj => by
        injection hx with hx
        subst hx
        rw [show 0 + 0 * Lay.size Exp + j = j by omega, c5]
        match j, hj with
        | 0, hj | 1, hj | 2, hj => exact hj⟩⟩
  exact ⟨_, _, _, _, _, _, _, _, _, _, rfl, ⟨s2, s3, s4, SliceV.nil _ _, SliceV.nil _ _, SliceV.nil _ _, s5, by decide, SliceV.nil _ _, SliceV.nil _ _, SliceV.nil _ _⟩, hbe⟩
end Go.Proofs.Ytgnbkfkiigcdgaa
