/-
  Layer 8's program: what it copies (Clone, copyOf), and what it asks an import. (gen/space/of1.py)
-/
import Derived.Test.YtgnbkfkiigcdgaaSpRef4
import Derived.Test.YtgnbkfkiigcdgaaDrawn
import Derived.Laws.EntriesVeiled
import Derived.Lib.SliceRun
namespace Go.Proofs.Ytgnbkfkiigcdgaa
open Go.RowKit Ins Bin Sp
theorem HasL.grow {α : Type} [Lay α] {w w' : World} {A : Option Addr} {xs : List α} (h : HasL w (· < w.heap.size) A xs) (hb : Below w.heap.size w w') : HasL w' (· < w'.heap.size) A xs := (h.mod (T := fun _ => False) (Mod.of_below hb) (fun _ _ _ h => h)).more (fun _ _ hk => Nat.lt_of_lt_of_le hk hb.size)
theorem SliceV.grow {α : Type} [Lay α] {w w' : World} {xs : List α} {v : Value} (h : SliceV w (· < w.heap.size) xs v) (hb : Below w.heap.size w w') : SliceV w' (· < w'.heap.size) xs v := (h.mod (T := fun _ => False) (Mod.of_below hb) (fun _ _ _ h => h)).more (fun _ _ hk => Nat.lt_of_lt_of_le hk hb.size)
set_option maxRecDepth 100000 in
set_option maxHeartbeats 4000000 in
/-- Clone: a row of the call's own, where it isn't nil. -/
theorem sclone8_any (xs : List UInt8) (v : Value) (w : World) (hv : SliceV w (· < w.heap.size) xs v) (hl : xs.length ≤ 4294967296) :
    Calls Try.prog 44 #[v] w fun e w' => ∃ u, e = .returned u ∧ OwnL 5 w' w.heap.size (· < w'.heap.size) u xs ∧ Below w.heap.size w w' ∧ ∀ g, u.ownBlock = some g → w.heap.size ≤ g := by
  obtain ⟨A, c, rfl, h1, h2, h3, hL⟩ := hv
  cases A with
  | none =>
    obtain rfl := h3 rfl
    have hx : xs = [] := List.eq_nil_of_length_eq_zero (by omega)
    subst hx
    clear h1 h2 h3 hL hl
    have heq := Lib.run_eql_slice_nil (P := Try.prog) w 38 5 none 0 0 0 0 undUInt8
    simp only [List.length_nil]
    go_enter Try.func44, Try.ntmps44
    go_wp2_with fail
    go_ret
    exact ⟨_, rfl, OwnL.nil _ _ _ _, Below.refl _ _, fun g hg => by simp [Value.ownBlock] at hg⟩
  | some a =>
    have hb0 : Below w.heap.size w (w.alloc (.cells #[] 5)) := (Below.refl _ _).alloc (Nat.le_refl _) _
    have hO := OwnL.lit0 (α := UInt8) 5 w w.heap.size (fun k => k < w.heap.size) (Nat.le_refl _)
    obtain ⟨v5, w5, hrun, hO5, hM5, hT5⟩ := appendL undUInt8 infUInt8 (by decide) rfl (by decide) (w.alloc (.cells #[] 5)) w.heap.size (fun k => k < w.heap.size) (.slice (some ⟨w.heap.size, 0, none⟩) 0 0) [] xs (some a) xs.length c hO (hL.mod (T := fun _ => False) (Mod.of_below hb0) (fun _ _ _ h => h)) rfl (by simpa using hl) hb0.size (fun g _ hg e => by simp [Value.ownBlock] at e; omega)
    have HRUN := Lib.hid hrun
    have hB : Below w.heap.size w w5 := hb0.trans (hM5.below hb0.size (fun k hk e => by simp [Value.ownBlock] at e; omega))
    have HO := Lib.hid ((hO5.more (S' := (· < w5.heap.size)) (fun g _ hg => Nat.lt_of_lt_of_le hg.1 hB.size)))
    have HB := Lib.hid hB
    have HG : Hid (∀ g, v5.ownBlock = some g → w.heap.size ≤ g) := Lib.hid (fun g hg => by
      rcases hT5 g hg with h | h
      · simp [Value.ownBlock] at h; omega
      · simp at h; omega)
    obtain ⟨n, hn⟩ : ∃ n, xs.length = n := ⟨_, rfl⟩
    rw [hn] at HRUN
    rw [hn]
    clear hn hrun hO5 hM5 hT5 hB hO hb0 hL h1 h2 h3 hl
    have heq := Lib.run_eql_slice_nil (P := Try.prog) w 38 5 (some a) n c 0 0 undUInt8
    go_enter Try.func44, Try.ntmps44
    go_wp2_with (at_builtin; refine wpList_appends rfl (.tmp 5) (.tmp 6) 38 rfl _ _ _ w5 rfl rfl HRUN.out ?_)
    go_ret
    exact ⟨_, rfl, HO.out, HB.out, HG.out⟩
set_option maxRecDepth 100000 in
set_option maxHeartbeats 4000000 in
/-- Clone: a row of the call's own, where it isn't nil. -/
theorem scloneE_any (xs : List Exp) (v : Value) (w : World) (hv : SliceV w (· < w.heap.size) xs v) (hl : xs.length ≤ 4294967296) :
    Calls Try.prog 33 #[v] w fun e w' => ∃ u, e = .returned u ∧ OwnL 86 w' w.heap.size (· < w'.heap.size) u xs ∧ Below w.heap.size w w' ∧ ∀ g, u.ownBlock = some g → w.heap.size ≤ g := by
  obtain ⟨A, c, rfl, h1, h2, h3, hL⟩ := hv
  cases A with
  | none =>
    obtain rfl := h3 rfl
    have hx : xs = [] := List.eq_nil_of_length_eq_zero (by omega)
    subst hx
    clear h1 h2 h3 hL hl
    have heq := Lib.run_eql_slice_nil (P := Try.prog) w 27 86 none 0 0 0 0 undExp
    simp only [List.length_nil]
    go_enter Try.func33, Try.ntmps33
    go_wp2_with fail
    go_ret
    exact ⟨_, rfl, OwnL.nil _ _ _ _, Below.refl _ _, fun g hg => by simp [Value.ownBlock] at hg⟩
  | some a =>
    have hb0 : Below w.heap.size w (w.alloc (.cells #[] 86)) := (Below.refl _ _).alloc (Nat.le_refl _) _
    have hO := OwnL.lit0 (α := Exp) 86 w w.heap.size (fun k => k < w.heap.size) (Nat.le_refl _)
    obtain ⟨v5, w5, hrun, hO5, hM5, hT5⟩ := appendL undExp infExp (by decide) rfl (by decide) (w.alloc (.cells #[] 86)) w.heap.size (fun k => k < w.heap.size) (.slice (some ⟨w.heap.size, 0, none⟩) 0 0) [] xs (some a) xs.length c hO (hL.mod (T := fun _ => False) (Mod.of_below hb0) (fun _ _ _ h => h)) rfl (by simpa using hl) hb0.size (fun g _ hg e => by simp [Value.ownBlock] at e; omega)
    have HRUN := Lib.hid hrun
    have hB : Below w.heap.size w w5 := hb0.trans (hM5.below hb0.size (fun k hk e => by simp [Value.ownBlock] at e; omega))
    have HO := Lib.hid ((hO5.more (S' := (· < w5.heap.size)) (fun g _ hg => Nat.lt_of_lt_of_le hg.1 hB.size)))
    have HB := Lib.hid hB
    have HG : Hid (∀ g, v5.ownBlock = some g → w.heap.size ≤ g) := Lib.hid (fun g hg => by
      rcases hT5 g hg with h | h
      · simp [Value.ownBlock] at h; omega
      · simp at h; omega)
    obtain ⟨n, hn⟩ : ∃ n, xs.length = n := ⟨_, rfl⟩
    rw [hn] at HRUN
    rw [hn]
    clear hn hrun hO5 hM5 hT5 hB hO hb0 hL h1 h2 h3 hl
    have heq := Lib.run_eql_slice_nil (P := Try.prog) w 27 86 (some a) n c 0 0 undExp
    go_enter Try.func33, Try.ntmps33
    go_wp2_with (at_builtin; refine wpList_appends rfl (.tmp 5) (.tmp 6) 27 rfl _ _ _ w5 rfl rfl HRUN.out ?_)
    go_ret
    exact ⟨_, rfl, HO.out, HB.out, HG.out⟩
set_option maxRecDepth 100000 in
set_option maxHeartbeats 4000000 in
theorem sask0_any (x : Imp) (w : World) : Calls Try.prog 27 #[.agg #[.string ⟨x.mod.toArray⟩, .string ⟨x.name.toArray⟩, .int .u8 (x.kind.toNat : Int), .int .u32 (x.type : Int), .int .u32 (x.lim.min : Int), .int .i64 x.lim.max, .int .u8 (x.glob.t.toNat : Int), .bool x.glob.mu]] w fun e w' => e = .returned (.int .u32 (x.type : Int)) ∧ Below w.heap.size w w' := by
  have HX0 := Lib.hid (heap_alloc_new w (.cells #[.string ⟨x.mod.toArray⟩, .string ⟨x.name.toArray⟩, .int .u8 (x.kind.toNat : Int), .int .u32 (x.type : Int), .int .u32 (x.lim.min : Int), .int .i64 x.lim.max, .int .u8 (x.glob.t.toNat : Int), .bool x.glob.mu] 71))
  have HB0 : Hid (Below w.heap.size w (w.alloc (.cells #[.string ⟨x.mod.toArray⟩, .string ⟨x.name.toArray⟩, .int .u8 (x.kind.toNat : Int), .int .u32 (x.type : Int), .int .u32 (x.lim.min : Int), .int .i64 x.lim.max, .int .u8 (x.glob.t.toNat : Int), .bool x.glob.mu] 71))) := Lib.hid ((Below.refl _ _).alloc (Nat.le_refl _) _)
  go_enter Try.func27, Try.ntmps27
  go_upto_region 1 with fail
  generalize w.alloc (.cells #[.string ⟨x.mod.toArray⟩, .string ⟨x.name.toArray⟩, .int .u8 (x.kind.toNat : Int), .int .u32 (x.type : Int), .int .u32 (x.lim.min : Int), .int .i64 x.lim.max, .int .u8 (x.glob.t.toNat : Int), .bool x.glob.mu] 71) = w0 at HX0 HB0 ⊢
  have y3 : w0.cell? ⟨w.heap.size, 3, none⟩ = some (.int .u32 (x.type : Int)) := by rw [cell_of_row w0 _ 3 _ _ (0, 0) HX0.out]; rfl
  go_wp2_with fail
  go_ret
  exact ⟨rfl, HB0.out⟩
set_option maxRecDepth 100000 in
set_option maxHeartbeats 4000000 in
theorem sask1_any (x : Imp) (w : World) : Calls Try.prog 29 #[.agg #[.string ⟨x.mod.toArray⟩, .string ⟨x.name.toArray⟩, .int .u8 (x.kind.toNat : Int), .int .u32 (x.type : Int), .int .u32 (x.lim.min : Int), .int .i64 x.lim.max, .int .u8 (x.glob.t.toNat : Int), .bool x.glob.mu]] w fun e w' => e = .returned (.agg #[.int .u32 (x.lim.min : Int), .int .i64 x.lim.max]) ∧ Below w.heap.size w w' := by
  obtain ⟨D, hu, hd⟩ := descOf des_slim
  have HU := Lib.hid hu
  have HD := Lib.hid hd
  clear hu hd
  have HX0 : Hid (((w.alloc (.cells #[.string ⟨x.mod.toArray⟩, .string ⟨x.name.toArray⟩, .int .u8 (x.kind.toNat : Int), .int .u32 (x.type : Int), .int .u32 (x.lim.min : Int), .int .i64 x.lim.max, .int .u8 (x.glob.t.toNat : Int), .bool x.glob.mu] 71)).alloc (.cells #[.int .u32 0, .int .i64 0] 51)).heap[w.heap.size]? = some (.cells #[.string ⟨x.mod.toArray⟩, .string ⟨x.name.toArray⟩, .int .u8 (x.kind.toNat : Int), .int .u32 (x.type : Int), .int .u32 (x.lim.min : Int), .int .i64 x.lim.max, .int .u8 (x.glob.t.toNat : Int), .bool x.glob.mu] 71 (0, 0))) := Lib.hid ((Below.heap_alloc _ _ _ (by simp)).trans (heap_alloc_new w _))
  have HZ0 : Hid (((w.alloc (.cells #[.string ⟨x.mod.toArray⟩, .string ⟨x.name.toArray⟩, .int .u8 (x.kind.toNat : Int), .int .u32 (x.type : Int), .int .u32 (x.lim.min : Int), .int .i64 x.lim.max, .int .u8 (x.glob.t.toNat : Int), .bool x.glob.mu] 71)).alloc (.cells #[.int .u32 0, .int .i64 0] 51)).heap[w.heap.size + 1]? = some (.cells #[.int .u32 0, .int .i64 0] 51 (0, 0))) := Lib.hid (by have := heap_alloc_new (w.alloc (.cells #[.string ⟨x.mod.toArray⟩, .string ⟨x.name.toArray⟩, .int .u8 (x.kind.toNat : Int), .int .u32 (x.type : Int), .int .u32 (x.lim.min : Int), .int .i64 x.lim.max, .int .u8 (x.glob.t.toNat : Int), .bool x.glob.mu] 71)) (.cells #[.int .u32 0, .int .i64 0] 51); simpa using this)
  have HB0 : Hid (Below w.heap.size w ((w.alloc (.cells #[.string ⟨x.mod.toArray⟩, .string ⟨x.name.toArray⟩, .int .u8 (x.kind.toNat : Int), .int .u32 (x.type : Int), .int .u32 (x.lim.min : Int), .int .i64 x.lim.max, .int .u8 (x.glob.t.toNat : Int), .bool x.glob.mu] 71)).alloc (.cells #[.int .u32 0, .int .i64 0] 51))) := Lib.hid (((Below.refl _ _).alloc (Nat.le_refl _) _).alloc (by simp) _)
  go_enter Try.func29, Try.ntmps29
  go_upto_region 1 with fail
  generalize (w.alloc (.cells #[.string ⟨x.mod.toArray⟩, .string ⟨x.name.toArray⟩, .int .u8 (x.kind.toNat : Int), .int .u32 (x.type : Int), .int .u32 (x.lim.min : Int), .int .i64 x.lim.max, .int .u8 (x.glob.t.toNat : Int), .bool x.glob.mu] 71)).alloc (.cells #[.int .u32 0, .int .i64 0] 51) = w0 at HX0 HZ0 HB0 ⊢
  have y0 : w0.cell? ⟨w.heap.size, 4, none⟩ = some (.int .u32 (x.lim.min : Int)) := by rw [cell_of_row w0 _ 4 _ _ (0, 0) HX0.out]; rfl
  have y1 : w0.cell? ⟨w.heap.size, 5, none⟩ = some (.int .i64 x.lim.max) := by rw [cell_of_row w0 _ 5 _ _ (0, 0) HX0.out]; rfl
  obtain ⟨Y, hY⟩ : ∃ Y, w.heap.size + 1 = Y := ⟨_, rfl⟩
  rw [hY] at HZ0
  have HY : Hid (w.heap.size ≤ Y) := Lib.hid (by omega)
  simp only [hY]
  clear hY
  go_wp2_with (refine wpList_store_to rfl 51 (.tmp 2) (.tmp 4) rfl rfl Y #[.int .u32 (x.lim.min : Int), .int .i64 x.lim.max] rfl rfl 51 #[.int .u32 0, .int .i64 0] HZ0.out siz_slim rfl (by simp [Value.oneCell']) ?_)
  refine bodyPost_ret (v := .agg #[.int .u32 (x.lim.min : Int), .int .i64 x.lim.max]) (res_cell (p := 2) (ty := 51) (by kernel_rfl) _ _ Y 51 #[.int .u32 (x.lim.min : Int), .int .i64 x.lim.max] (0, 0) D rfl (setRow_heap _ _ #[.int .u32 0, .int .i64 0] _ _ _ HZ0.out) HU.out HD.out siz_slim) rfl ?_
  exact ⟨rfl, below_setRow HB0.out HY.out _⟩
set_option maxRecDepth 100000 in
set_option maxHeartbeats 4000000 in
theorem sask3_any (x : Imp) (w : World) : Calls Try.prog 31 #[.agg #[.string ⟨x.mod.toArray⟩, .string ⟨x.name.toArray⟩, .int .u8 (x.kind.toNat : Int), .int .u32 (x.type : Int), .int .u32 (x.lim.min : Int), .int .i64 x.lim.max, .int .u8 (x.glob.t.toNat : Int), .bool x.glob.mu]] w fun e w' => e = .returned (.agg #[.int .u8 (x.glob.t.toNat : Int), .bool x.glob.mu]) ∧ Below w.heap.size w w' := by
  obtain ⟨D, hu, hd⟩ := descOf des_sglob
  have HU := Lib.hid hu
  have HD := Lib.hid hd
  clear hu hd
  have HX0 : Hid (((w.alloc (.cells #[.string ⟨x.mod.toArray⟩, .string ⟨x.name.toArray⟩, .int .u8 (x.kind.toNat : Int), .int .u32 (x.type : Int), .int .u32 (x.lim.min : Int), .int .i64 x.lim.max, .int .u8 (x.glob.t.toNat : Int), .bool x.glob.mu] 71)).alloc (.cells #[.int .u8 0, .bool false] 45)).heap[w.heap.size]? = some (.cells #[.string ⟨x.mod.toArray⟩, .string ⟨x.name.toArray⟩, .int .u8 (x.kind.toNat : Int), .int .u32 (x.type : Int), .int .u32 (x.lim.min : Int), .int .i64 x.lim.max, .int .u8 (x.glob.t.toNat : Int), .bool x.glob.mu] 71 (0, 0))) := Lib.hid ((Below.heap_alloc _ _ _ (by simp)).trans (heap_alloc_new w _))
  have HZ0 : Hid (((w.alloc (.cells #[.string ⟨x.mod.toArray⟩, .string ⟨x.name.toArray⟩, .int .u8 (x.kind.toNat : Int), .int .u32 (x.type : Int), .int .u32 (x.lim.min : Int), .int .i64 x.lim.max, .int .u8 (x.glob.t.toNat : Int), .bool x.glob.mu] 71)).alloc (.cells #[.int .u8 0, .bool false] 45)).heap[w.heap.size + 1]? = some (.cells #[.int .u8 0, .bool false] 45 (0, 0))) := Lib.hid (by have := heap_alloc_new (w.alloc (.cells #[.string ⟨x.mod.toArray⟩, .string ⟨x.name.toArray⟩, .int .u8 (x.kind.toNat : Int), .int .u32 (x.type : Int), .int .u32 (x.lim.min : Int), .int .i64 x.lim.max, .int .u8 (x.glob.t.toNat : Int), .bool x.glob.mu] 71)) (.cells #[.int .u8 0, .bool false] 45); simpa using this)
  have HB0 : Hid (Below w.heap.size w ((w.alloc (.cells #[.string ⟨x.mod.toArray⟩, .string ⟨x.name.toArray⟩, .int .u8 (x.kind.toNat : Int), .int .u32 (x.type : Int), .int .u32 (x.lim.min : Int), .int .i64 x.lim.max, .int .u8 (x.glob.t.toNat : Int), .bool x.glob.mu] 71)).alloc (.cells #[.int .u8 0, .bool false] 45))) := Lib.hid (((Below.refl _ _).alloc (Nat.le_refl _) _).alloc (by simp) _)
  go_enter Try.func31, Try.ntmps31
  go_upto_region 1 with fail
  generalize (w.alloc (.cells #[.string ⟨x.mod.toArray⟩, .string ⟨x.name.toArray⟩, .int .u8 (x.kind.toNat : Int), .int .u32 (x.type : Int), .int .u32 (x.lim.min : Int), .int .i64 x.lim.max, .int .u8 (x.glob.t.toNat : Int), .bool x.glob.mu] 71)).alloc (.cells #[.int .u8 0, .bool false] 45) = w0 at HX0 HZ0 HB0 ⊢
  have y0 : w0.cell? ⟨w.heap.size, 6, none⟩ = some (.int .u8 (x.glob.t.toNat : Int)) := by rw [cell_of_row w0 _ 6 _ _ (0, 0) HX0.out]; rfl
  have y1 : w0.cell? ⟨w.heap.size, 7, none⟩ = some (.bool x.glob.mu) := by rw [cell_of_row w0 _ 7 _ _ (0, 0) HX0.out]; rfl
  obtain ⟨Y, hY⟩ : ∃ Y, w.heap.size + 1 = Y := ⟨_, rfl⟩
  rw [hY] at HZ0
  have HY : Hid (w.heap.size ≤ Y) := Lib.hid (by omega)
  simp only [hY]
  clear hY
  go_wp2_with (refine wpList_store_to rfl 45 (.tmp 2) (.tmp 4) rfl rfl Y #[.int .u8 (x.glob.t.toNat : Int), .bool x.glob.mu] rfl rfl 45 #[.int .u8 0, .bool false] HZ0.out siz_sglob rfl (by simp [Value.oneCell']) ?_)
  refine bodyPost_ret (v := .agg #[.int .u8 (x.glob.t.toNat : Int), .bool x.glob.mu]) (res_cell (p := 2) (ty := 45) (by kernel_rfl) _ _ Y 45 #[.int .u8 (x.glob.t.toNat : Int), .bool x.glob.mu] (0, 0) D rfl (setRow_heap _ _ #[.int .u8 0, .bool false] _ _ _ HZ0.out) HU.out HD.out siz_sglob) rfl ?_
  exact ⟨rfl, below_setRow HB0.out HY.out _⟩
end Go.Proofs.Ytgnbkfkiigcdgaa
