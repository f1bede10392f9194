/-
  Layer 8's program: what it copies (Clone, copyOf), and what it asks an import. (gen/space/of1.py)
-/
import Derived.Test.YtelcdmkbaegjoaaGreatTq19
import Derived.Test.YtelcdmkbaegjoaaGreatTq01
import Derived.Test.YtelcdmkbaegjoaaGreatTq27
import Derived.Test.YtelcdmkbaegjoaaGreatTq06
import Derived.Laws.EntriesVeiled
import Derived.Lib.SliceRun
set_option maxRecDepth 100000
set_option maxHeartbeats 4000000
namespace Go.Proofs.YtelcdmkbaegjoaaGreat
open Go.RowKit Ins Bin Sp
theorem scloneE_any (xs : List Exp) (v : Value) (w : World) (hv : ab w (· < w.heap.size) xs v) (hl : xs.length ≤ 4294967296) :
  Calls Tryz.prog 40 #[v] w fun e w' => ∃ u, e = .returned u ∧ OwnL 61 w' w.heap.size (· < w'.heap.size) u xs ∧ Below w.heap.size w w' ∧ ∀ g, u.ownBlock = some g → w.heap.size ≤ g := by
 obtain ⟨A, c, rfl, h1, h2, h3, hL⟩ := hv
 cases A with
 | none =>
  obtain rfl := h3 rfl
  have hx : xs = [] := List.eq_nil_of_length_eq_zero (by omega)
  subst hx
  clear h1 h2 h3 hL hl
  have heq := Lib.run_eql_slice_nil (P := Tryz.prog) w 27 61 none 0 0 0 0 undExp
  simp only [List.length_nil]
  go_enter Tryz.func40, Tryz.ntmps40
  go_wp2_with fail
  go_ret
  exact ⟨_, rfl, OwnL.nil _ _ _ _, Below.refl _ _, fun g hg => by simp [Value.ownBlock] at hg⟩
 | some a =>
  have hb0 : Below w.heap.size w (w.alloc (.cells #[] 61)) := (Below.refl _ _).alloc (Nat.le_refl _) _
  have hO := OwnL.lit0 (α := Exp) 61 w w.heap.size (fun k => k < w.heap.size) (Nat.le_refl _)
  obtain ⟨v5, w5, hrun, hO5, hM5, hT5⟩ := appendL undExp infExp (by decide) rfl (by decide) (w.alloc (.cells #[] 61)) w.heap.size (fun k => k < w.heap.size) (.slice (some ⟨w.heap.size, 0, none⟩) 0 0) [] xs (some a) xs.length c hO (hL.mod (T := fun _ => False) (Mod.of_below hb0) (fun _ _ _ h => h)) rfl (by simpa using hl) hb0.size (fun g _ hg e => by simp [Value.ownBlock] at e; omega)
  have HRUN := J hrun
  have hB : Below w.heap.size w w5 := hb0.trans (hM5.below hb0.size (fun k hk e => by simp [Value.ownBlock] at e; omega))
  have HO := J ((hO5.more (S' := (· < w5.heap.size)) (fun g _ hg => Nat.lt_of_lt_of_le hg.1 hB.size)))
  have HB := J hB
  have HG : Hid (∀ g, v5.ownBlock = some g → w.heap.size ≤ g) := J (fun g hg => by
   rcases hT5 g hg with h | h
   ·simp [Value.ownBlock] at h; omega
   ·simp at h; omega)
  obtain ⟨n, hn⟩ : ∃ n, xs.length = n := ⟨_, rfl⟩
  rw [hn] at HRUN
  rw [hn]
  clear hn hrun hO5 hM5 hT5 hB hO hb0 hL h1 h2 h3 hl
  have heq := Lib.run_eql_slice_nil (P := Tryz.prog) w 27 61 (some a) n c 0 0 undExp
  go_enter Tryz.func40, Tryz.ntmps40
  go_wp2_with (at_builtin; refine ag rfl (.tmp 5) (.tmp 6) 27 rfl _ _ _ w5 rfl rfl HRUN.out ?_)
  go_ret
  exact ⟨_, rfl, HO.out, HB.out, HG.out⟩
theorem sask0_any (x : Imp) (w : World) : Calls Tryz.prog 34 #[.agg #[.string ⟨x.mod.toArray⟩, .string ⟨x.name.toArray⟩, .int .u8 (x.kind.toNat : Int), .int .u32 (x.type : Int), .int .u32 (x.lim.min : Int), .int .i64 x.lim.max, .int .u8 (x.glob.t.toNat : Int), .bool x.glob.mu]] w fun e w' => e = .returned (.int .u32 (x.type : Int)) ∧ Below w.heap.size w w' := by
 have HX0 := J (heap_alloc_new w (.cells #[.string ⟨x.mod.toArray⟩, .string ⟨x.name.toArray⟩, .int .u8 (x.kind.toNat : Int), .int .u32 (x.type : Int), .int .u32 (x.lim.min : Int), .int .i64 x.lim.max, .int .u8 (x.glob.t.toNat : Int), .bool x.glob.mu] 89))
 have HB0 : Hid (Below w.heap.size w (w.alloc (.cells #[.string ⟨x.mod.toArray⟩, .string ⟨x.name.toArray⟩, .int .u8 (x.kind.toNat : Int), .int .u32 (x.type : Int), .int .u32 (x.lim.min : Int), .int .i64 x.lim.max, .int .u8 (x.glob.t.toNat : Int), .bool x.glob.mu] 89))) := J ((Below.refl _ _).alloc (Nat.le_refl _) _)
 go_enter Tryz.func34, Tryz.ntmps34
 go_upto_region 1 with fail
 generalize w.alloc (.cells #[.string ⟨x.mod.toArray⟩, .string ⟨x.name.toArray⟩, .int .u8 (x.kind.toNat : Int), .int .u32 (x.type : Int), .int .u32 (x.lim.min : Int), .int .i64 x.lim.max, .int .u8 (x.glob.t.toNat : Int), .bool x.glob.mu] 89) = w0 at HX0 HB0 ⊢
 have y3 : w0.cell? ⟨w.heap.size, 3, none⟩ = some (.int .u32 (x.type : Int)) := by rw [cell_of_row w0 _ 3 _ _ (0, 0) HX0.out]; rfl
 go_wp2_with fail
 go_ret
 exact ⟨rfl, HB0.out⟩
theorem sask1_any (x : Imp) (w : World) : Calls Tryz.prog 36 #[.agg #[.string ⟨x.mod.toArray⟩, .string ⟨x.name.toArray⟩, .int .u8 (x.kind.toNat : Int), .int .u32 (x.type : Int), .int .u32 (x.lim.min : Int), .int .i64 x.lim.max, .int .u8 (x.glob.t.toNat : Int), .bool x.glob.mu]] w fun e w' => e = .returned (.agg #[.int .u32 (x.lim.min : Int), .int .i64 x.lim.max]) ∧ Below w.heap.size w w' := by
 obtain ⟨D, hu, hd⟩ := descOf cH
 have HU := J hu
 have HD := J hd
 clear hu hd
 have HX0 : Hid (((w.alloc (.cells #[.string ⟨x.mod.toArray⟩, .string ⟨x.name.toArray⟩, .int .u8 (x.kind.toNat : Int), .int .u32 (x.type : Int), .int .u32 (x.lim.min : Int), .int .i64 x.lim.max, .int .u8 (x.glob.t.toNat : Int), .bool x.glob.mu] 89)).alloc (.cells #[.int .u32 0, .int .i64 0] 65)).heap[w.heap.size]? = some (.cells #[.string ⟨x.mod.toArray⟩, .string ⟨x.name.toArray⟩, .int .u8 (x.kind.toNat : Int), .int .u32 (x.type : Int), .int .u32 (x.lim.min : Int), .int .i64 x.lim.max, .int .u8 (x.glob.t.toNat : Int), .bool x.glob.mu] 89 (0, 0))) := J ((Below.heap_alloc _ _ _ (by simp)).trans (heap_alloc_new w _))
 have HZ0 : Hid (((w.alloc (.cells #[.string ⟨x.mod.toArray⟩, .string ⟨x.name.toArray⟩, .int .u8 (x.kind.toNat : Int), .int .u32 (x.type : Int), .int .u32 (x.lim.min : Int), .int .i64 x.lim.max, .int .u8 (x.glob.t.toNat : Int), .bool x.glob.mu] 89)).alloc (.cells #[.int .u32 0, .int .i64 0] 65)).heap[w.heap.size + 1]? = some (.cells #[.int .u32 0, .int .i64 0] 65 (0, 0))) := J (by have := heap_alloc_new (w.alloc (.cells #[.string ⟨x.mod.toArray⟩, .string ⟨x.name.toArray⟩, .int .u8 (x.kind.toNat : Int), .int .u32 (x.type : Int), .int .u32 (x.lim.min : Int), .int .i64 x.lim.max, .int .u8 (x.glob.t.toNat : Int), .bool x.glob.mu] 89)) (.cells #[.int .u32 0, .int .i64 0] 65); simpa using this)
 have HB0 : Hid (Below w.heap.size w ((w.alloc (.cells #[.string ⟨x.mod.toArray⟩, .string ⟨x.name.toArray⟩, .int .u8 (x.kind.toNat : Int), .int .u32 (x.type : Int), .int .u32 (x.lim.min : Int), .int .i64 x.lim.max, .int .u8 (x.glob.t.toNat : Int), .bool x.glob.mu] 89)).alloc (.cells #[.int .u32 0, .int .i64 0] 65))) := J (((Below.refl _ _).alloc (Nat.le_refl _) _).alloc (by simp) _)
 go_enter Tryz.func36, Tryz.ntmps36
 go_upto_region 1 with fail
 generalize (w.alloc (.cells #[.string ⟨x.mod.toArray⟩, .string ⟨x.name.toArray⟩, .int .u8 (x.kind.toNat : Int), .int .u32 (x.type : Int), .int .u32 (x.lim.min : Int), .int .i64 x.lim.max, .int .u8 (x.glob.t.toNat : Int), .bool x.glob.mu] 89)).alloc (.cells #[.int .u32 0, .int .i64 0] 65) = w0 at HX0 HZ0 HB0 ⊢
 have y0 : w0.cell? ⟨w.heap.size, 4, none⟩ = some (.int .u32 (x.lim.min : Int)) := by rw [cell_of_row w0 _ 4 _ _ (0, 0) HX0.out]; rfl
 have y1 : w0.cell? ⟨w.heap.size, 5, none⟩ = some (.int .i64 x.lim.max) := by rw [cell_of_row w0 _ 5 _ _ (0, 0) HX0.out]; rfl
 obtain ⟨Y, hY⟩ : ∃ Y, w.heap.size + 1 = Y := ⟨_, rfl⟩
 rw [hY] at HZ0
 have HY : Hid (w.heap.size ≤ Y) := J (by omega)
 simp only [hY]
 clear hY
 go_wp2_with (refine aj rfl 65 (.tmp 2) (.tmp 4) rfl rfl Y #[.int .u32 (x.lim.min : Int), .int .i64 x.lim.max] rfl rfl 65 #[.int .u32 0, .int .i64 0] HZ0.out aT rfl (by simp [Value.oneCell']) ?_)
 refine bodyPost_ret (v := .agg #[.int .u32 (x.lim.min : Int), .int .i64 x.lim.max]) (bh (p := 2) (ty := 65) (by kernel_rfl) _ _ Y 65 #[.int .u32 (x.lim.min : Int), .int .i64 x.lim.max] (0, 0) D rfl (setRow_heap _ _ #[.int .u32 0, .int .i64 0] _ _ _ HZ0.out) HU.out HD.out aT) rfl ?_
 exact ⟨rfl, ac HB0.out HY.out _⟩
theorem sask3_any (x : Imp) (w : World) : Calls Tryz.prog 38 #[.agg #[.string ⟨x.mod.toArray⟩, .string ⟨x.name.toArray⟩, .int .u8 (x.kind.toNat : Int), .int .u32 (x.type : Int), .int .u32 (x.lim.min : Int), .int .i64 x.lim.max, .int .u8 (x.glob.t.toNat : Int), .bool x.glob.mu]] w fun e w' => e = .returned (.agg #[.int .u8 (x.glob.t.toNat : Int), .bool x.glob.mu]) ∧ Below w.heap.size w w' := by
 obtain ⟨D, hu, hd⟩ := descOf cU
 have HU := J hu
 have HD := J hd
 clear hu hd
 have HX0 : Hid (((w.alloc (.cells #[.string ⟨x.mod.toArray⟩, .string ⟨x.name.toArray⟩, .int .u8 (x.kind.toNat : Int), .int .u32 (x.type : Int), .int .u32 (x.lim.min : Int), .int .i64 x.lim.max, .int .u8 (x.glob.t.toNat : Int), .bool x.glob.mu] 89)).alloc (.cells #[.int .u8 0, .bool false] 76)).heap[w.heap.size]? = some (.cells #[.string ⟨x.mod.toArray⟩, .string ⟨x.name.toArray⟩, .int .u8 (x.kind.toNat : Int), .int .u32 (x.type : Int), .int .u32 (x.lim.min : Int), .int .i64 x.lim.max, .int .u8 (x.glob.t.toNat : Int), .bool x.glob.mu] 89 (0, 0))) := J ((Below.heap_alloc _ _ _ (by simp)).trans (heap_alloc_new w _))
 have HZ0 : Hid (((w.alloc (.cells #[.string ⟨x.mod.toArray⟩, .string ⟨x.name.toArray⟩, .int .u8 (x.kind.toNat : Int), .int .u32 (x.type : Int), .int .u32 (x.lim.min : Int), .int .i64 x.lim.max, .int .u8 (x.glob.t.toNat : Int), .bool x.glob.mu] 89)).alloc (.cells #[.int .u8 0, .bool false] 76)).heap[w.heap.size + 1]? = some (.cells #[.int .u8 0, .bool false] 76 (0, 0))) := J (by have := heap_alloc_new (w.alloc (.cells #[.string ⟨x.mod.toArray⟩, .string ⟨x.name.toArray⟩, .int .u8 (x.kind.toNat : Int), .int .u32 (x.type : Int), .int .u32 (x.lim.min : Int), .int .i64 x.lim.max, .int .u8 (x.glob.t.toNat : Int), .bool x.glob.mu] 89)) (.cells #[.int .u8 0, .bool false] 76); simpa using this)
 have HB0 : Hid (Below w.heap.size w ((w.alloc (.cells #[.string ⟨x.mod.toArray⟩, .string ⟨x.name.toArray⟩, .int .u8 (x.kind.toNat : Int), .int .u32 (x.type : Int), .int .u32 (x.lim.min : Int), .int .i64 x.lim.max, .int .u8 (x.glob.t.toNat : Int), .bool x.glob.mu] 89)).alloc (.cells #[.int .u8 0, .bool false] 76))) := J (((Below.refl _ _).alloc (Nat.le_refl _) _).alloc (by simp) _)
 go_enter Tryz.func38, Tryz.ntmps38
 go_upto_region 1 with fail
 generalize (w.alloc (.cells #[.string ⟨x.mod.toArray⟩, .string ⟨x.name.toArray⟩, .int .u8 (x.kind.toNat : Int), .int .u32 (x.type : Int), .int .u32 (x.lim.min : Int), .int .i64 x.lim.max, .int .u8 (x.glob.t.toNat : Int), .bool x.glob.mu] 89)).alloc (.cells #[.int .u8 0, .bool false] 76) = w0 at HX0 HZ0 HB0 ⊢
 have y0 : w0.cell? ⟨w.heap.size, 6, none⟩ = some (.int .u8 (x.glob.t.toNat : Int)) := by rw [cell_of_row w0 _ 6 _ _ (0, 0) HX0.out]; rfl
 have y1 : w0.cell? ⟨w.heap.size, 7, none⟩ = some (.bool x.glob.mu) := by rw [cell_of_row w0 _ 7 _ _ (0, 0) HX0.out]; rfl
 obtain ⟨Y, hY⟩ : ∃ Y, w.heap.size + 1 = Y := ⟨_, rfl⟩
 rw [hY] at HZ0
 have HY : Hid (w.heap.size ≤ Y) := J (by omega)
 simp only [hY]
 clear hY
 go_wp2_with (refine aj rfl 76 (.tmp 2) (.tmp 4) rfl rfl Y #[.int .u8 (x.glob.t.toNat : Int), .bool x.glob.mu] rfl rfl 76 #[.int .u8 0, .bool false] HZ0.out ao rfl (by simp [Value.oneCell']) ?_)
 refine bodyPost_ret (v := .agg #[.int .u8 (x.glob.t.toNat : Int), .bool x.glob.mu]) (bh (p := 2) (ty := 76) (by kernel_rfl) _ _ Y 76 #[.int .u8 (x.glob.t.toNat : Int), .bool x.glob.mu] (0, 0) D rfl (setRow_heap _ _ #[.int .u8 0, .bool false] _ _ _ HZ0.out) HU.out HD.out ao) rfl ?_
 exact ⟨rfl, ac HB0.out HY.out _⟩
class Flat (α : Type) [Lay α] : Prop where
 flat : ∀ {w w' : World} {S S' : Nat → Prop} {x : α} {cs : List Value}, Lay.rep w S x cs → Lay.rep w' S' x cs
instance : Flat UInt8 := ⟨fun h => h⟩
instance : Flat Nat := ⟨fun h => h⟩
instance : Flat Lim := ⟨fun h => h⟩
instance : Flat Glob := ⟨fun h => h⟩
instance : Flat Exp := ⟨fun h => h⟩
theorem OwnL.flat {α : Type} [Lay α] [Flat α] {t : TypeId} {w : World} {base : Nat} {S S' : Nat → Prop} {v : Value} {xs : List α} (h : OwnL t w base S v xs) : OwnL t w base S' v xs := by
 obtain ⟨ys, h0, h1, h2⟩ := h
 exact ⟨ys, h0, h1, fun y hy => Flat.flat (h2 y hy)⟩
theorem OwnL.slice {α : Type} [Lay α] [Flat α] {t : TypeId} {w : World} {base : Nat} {S : Nat → Prop} {v : Value} {xs : List α} (h : OwnL t w base S v xs) : ab w (base ≤ ·) xs v := (h.flat (S' := fun _ => False)).tell (fun _ h => h.elim)
theorem OwnL.form {α : Type} [Lay α] {t : TypeId} {w : World} {base : Nat} {S : Nat → Prop} {v : Value} {xs : List α} (h : OwnL t w base S v xs) : ∃ A c, v = .slice A xs.length c ∧ xs.length ≤ c ∧ c ≤ maxLen := by
 obtain ⟨ys, _, h1, _⟩ := h
 exact aB h1
theorem ae {w : World} {X : Nat} {a b : Value} {t : TypeId} (h : w.heap[X]? = some (.cells #[a, b] t (0, 0))) : w.cell? ⟨X, 0, none⟩ = some a ∧ w.cell? ⟨X, 1, none⟩ = some b := ⟨by rw [cell_of_row w X 0 _ _ (0, 0) h]; rfl, by rw [cell_of_row w X 1 _ _ (0, 0) h]; rfl⟩
theorem ab.at {α : Type} [Lay α] {w W : World} {xs : List α} {v : Value} (h : ab w (· < w.heap.size) xs v) (hb : Below w.heap.size w W) : ab W (· < W.heap.size) xs v := h.grow hb
theorem d8 (t : FT) (u v : Value) (w : World) (hu0 : ab w (· < w.heap.size) t.params u) (hv0 : ab w (· < w.heap.size) t.results v) (h1 : t.params.length ≤ 4294967296) (h2 : t.results.length ≤ 4294967296) :
  Calls Tryz.prog 41 #[.agg #[u, v]] w fun e w' => ∃ A c A' c', e = .returned (.agg #[.slice A t.params.length c, .slice A' t.results.length c']) ∧ ab w' (w.heap.size ≤ ·) t.params (.slice A t.params.length c) ∧ ab w' (w.heap.size ≤ ·) t.results (.slice A' t.results.length c') ∧ Below w.heap.size w w' := by
 obtain ⟨D, hu, hd⟩ := descOf cG
 have HU := J hu
 have HD := J hd
 clear hu hd
 have HC1 := J (fun W (hb : Below w.heap.size w W) => bq t.params u W (hu0.grow hb) h1)
 have HC2 := J (fun W (hb : Below w.heap.size w W) => bq t.results v W (hv0.grow hb) h2)
 obtain ⟨A1, c1, rfl, _⟩ := hu0
 obtain ⟨A2, c2, rfl, _⟩ := hv0
 clear h1 h2
 obtain ⟨n1, hn1⟩ : ∃ n, t.params.length = n := ⟨_, rfl⟩
 obtain ⟨n2, hn2⟩ : ∃ n, t.results.length = n := ⟨_, rfl⟩
 rw [hn1] at HC1 ⊢
 rw [hn2] at HC2 ⊢
 have HN1 := J hn1
 have HN2 := J hn2
 clear hn1 hn2
 have HX0 : Hid (((w.alloc (.cells #[.slice A1 n1 c1, .slice A2 n2 c2] 51)).alloc (.cells #[.slice none 0 0, .slice none 0 0] 51)).heap[w.heap.size]? = some (.cells #[.slice A1 n1 c1, .slice A2 n2 c2] 51 (0, 0))) := J ((Below.heap_alloc _ _ _ (by simp)).trans (heap_alloc_new w _))
 have HZ0 : Hid (((w.alloc (.cells #[.slice A1 n1 c1, .slice A2 n2 c2] 51)).alloc (.cells #[.slice none 0 0, .slice none 0 0] 51)).heap[w.heap.size + 1]? = some (.cells #[.slice none 0 0, .slice none 0 0] 51 (0, 0))) := J (by have := heap_alloc_new (w.alloc (.cells #[.slice A1 n1 c1, .slice A2 n2 c2] 51)) (.cells #[.slice none 0 0, .slice none 0 0] 51); simpa using this)
 have HB0 : Hid (Below w.heap.size w ((w.alloc (.cells #[.slice A1 n1 c1, .slice A2 n2 c2] 51)).alloc (.cells #[.slice none 0 0, .slice none 0 0] 51))) := J (((Below.refl _ _).alloc (Nat.le_refl _) _).alloc (by simp) _)
 go_enter Tryz.func41, Tryz.ntmps41
 go_upto_region 1 with fail
 generalize (w.alloc (.cells #[.slice A1 n1 c1, .slice A2 n2 c2] 51)).alloc (.cells #[.slice none 0 0, .slice none 0 0] 51) = w0 at HX0 HZ0 HB0 ⊢
 obtain ⟨X, hX⟩ : ∃ X, w.heap.size = X := ⟨_, rfl⟩
 obtain ⟨Y, hY⟩ : ∃ Y, w.heap.size + 1 = Y := ⟨_, rfl⟩
 rw [hX] at HX0
 rw [hY] at HZ0
 have HXY : Hid (X ≠ Y ∧ w.heap.size ≤ Y) := J ⟨by omega, by omega⟩
 simp only [hY]
 simp only [hX]
 clear hX hY
 have HXW := J (fun W (hb : Below w0.heap.size w0 W) => (hb.block X (Array.getElem?_eq_some_iff.1 HX0.out).1).trans HX0.out)
 have HZW := J (fun W (hb : Below w0.heap.size w0 W) => (hb.block Y (Array.getElem?_eq_some_iff.1 HZ0.out).1).trans HZ0.out)
 have HZL : Hid (Y < w0.heap.size) := J (Array.getElem?_eq_some_iff.1 HZ0.out).1
 clear HX0 HZ0
 refine wp_region_held_drew (S := fun W' => W'.heap[X]? = some (.cells #[.slice A1 n1 c1, .slice A2 n2 c2] 51 (0, 0))) (by kernel_rfl) (HXW.out _ (Below.drew (Below.refl _ _))) (fun hHeld => ?_)
 refine dt 0 rfl (v := ?_) ?_ ?_
 rotate_left
 ·(intro wy hSw; obtain ⟨q0, q1⟩ := ae hSw; go_simp; try with_reducible rfl)
 simp only [Act.put, O]
 refine dt 1 rfl (v := ?_) ?_ ?_
 rotate_left
 ·(intro wy hSw; obtain ⟨q0, q1⟩ := ae hSw; go_simp; try with_reducible rfl)
 simp only [Act.put, O]
 refine dt 3 rfl (v := ?_) ?_ ?_
 rotate_left
 ·(intro wy hSw; obtain ⟨q0, q1⟩ := ae hSw; go_simp; try with_reducible rfl)
 simp only [Act.put, O]
 refine dt 4 rfl (v := ?_) ?_ ?_
 rotate_left
 ·(intro wy hSw; obtain ⟨q0, q1⟩ := ae hSw; go_simp; try with_reducible rfl)
 simp only [Act.put, O]
 refine aa 2 rfl (by kernel_rfl) (fun K hK => ?_)
 go_simp
 refine (HC1.out _ HB0.out.drew).mono ?_
 rintro e w1 ⟨a, rfl, hO1, hb1, _⟩
 obtain ⟨E1, f1, rfl, _⟩ := hO1.form
 rw [HN1.out] at hO1
 rw [HN1.out]
 have HO1 := J hO1
 have HB1 : Hid (Below w0.heap.size w0 w1) := J ((Below.drew (Below.refl _ _)).trans hb1)
 clear hb1 hO1
 go_wp2_with fail
 refine hK.out _ _ (HXW.out w1 HB1.out) (fun hHeld2 => ?_)
 clear hK K hHeld
 have hHeld := hHeld2
 clear hHeld2
 refine aa 5 rfl (by kernel_rfl) (fun K hK => ?_)
 go_simp
 refine (HC2.out _ (HB0.out.trans (HB1.out.mono HB0.out.size))).mono ?_
 rintro e w2 ⟨b, rfl, hO2, hb2, _⟩
 obtain ⟨E2, f2, rfl, _⟩ := hO2.form
 rw [HN2.out] at hO2
 rw [HN2.out]
 have HO2 := J hO2
 have HO1 := J (HO1.out.mod (T := fun _ => False) (Mod.of_below hb2) (fun _ _ h => h) (fun _ _ _ h => h))
 have HBB := J hb2
 have HB2 : Hid (Below w0.heap.size w0 w2) := J (HB1.out.trans (hb2.mono HB1.out.size))
 clear hb2 hO2
 go_wp2_with fail
 refine hK.out _ _ (HXW.out w2 HB2.out) (fun hHeld2 => ?_)
 clear hK K hHeld
 have hHeld := hHeld2
 clear hHeld2
 refine dv 6 rfl ?_
 refine aa 7 rfl (by kernel_rfl) (fun K hK => ?_)
 rw [if_pos]
 case hc => rfl
 refine wp_store_row 51 (.tmp 2) (.tmp 9) rfl Y #[.slice E1 n1 f1, .slice E2 n2 f2] rfl rfl 51 #[.slice none 0 0, .slice none 0 0] (HZW.out w2 HB2.out) al rfl (by simp [Value.oneCell']) ?_
 refine hK.out _ _ ((setRow_other w2 Y X _ HXY.out.1).trans (HXW.out w2 HB2.out)) (fun hHeld2 => ?_)
 clear hK K hHeld hHeld2
 refine wpAnyH_done (by kernel_rfl) ?_ _
 have HZZ := setRow_heap w2 Y #[.slice none 0 0, .slice none 0 0] #[.slice E1 n1 f1, .slice E2 n2 f2] _ _ (HZW.out w2 HB2.out)
 have hbe : Below w.heap.size w (w2.setRow Y #[.slice E1 n1 f1, .slice E2 n2 f2]) := ac (HB0.out.trans (HB2.out.mono HB0.out.size)) HXY.out.2 _
 have hms : Mod (· = Y) w2 (w2.setRow Y #[.slice E1 n1 f1, .slice E2 n2 f2]) := ⟨rfl, rfl, rfl, by simp, fun k _ ht => setRow_other w2 Y k _ ht⟩
 go_wp2_with fail
 refine bodyPost_ret (v := .agg #[.slice E1 n1 f1, .slice E2 n2 f2]) (bh (p := 2) (ty := 51) (by kernel_rfl) _ _ Y 51 #[.slice E1 n1 f1, .slice E2 n2 f2] (0, 0) D rfl HZZ HU.out HD.out al) rfl ?_
 refine ⟨E1, f1, E2, f2, rfl, ?_, ?_, hbe⟩
 ·exact ((HO1.out.slice.more (S' := fun g => w0.heap.size ≤ g) (fun g _ hg => hg)).mod hms (fun g _ hg e => by have := HZL.out; omega)).more (fun g _ hg => Nat.le_trans HB0.out.size hg)
 ·exact ((HO2.out.slice.more (S' := fun g => w0.heap.size ≤ g) (fun g _ hg => Nat.le_trans HB1.out.size hg)).mod hms (fun g _ hg e => by have := HZL.out; omega)).more (fun g _ hg => Nat.le_trans HB0.out.size hg)
end Go.Proofs.YtelcdmkbaegjoaaGreat
