/-
  The document's answer for layer 7: the bytes of a section's entry. (gen/encentry.py)
-/
import Derived.Test.YtgnbkfkiigcdgaaGreatDoorP13
import Derived.Test.YtgnbkfkiigcdgaaGreatDoorP14
namespace Go.Proofs.YtgnbkfkiigcdgaaGreatDoor
open Go.RowKit Ins Bin
theorem HasL.up {α : Type} [Lay α] {w W : World} {A : Option Addr} {xs : List α} (h : HasL w (· < w.heap.size) A xs) (hb : Below w.heap.size w W) : HasL W (· < W.heap.size) A xs :=
  (h.mod (Mod.of_below (T := fun _ => False) hb) (fun _ _ _ h => h)).more (fun _ _ hg => Nat.lt_of_lt_of_le hg hb.size)
theorem own_up {w W : World} {base base' n : Nat} {v : Value} {l : List Value} {t : TypeId} (h : w.ownsRow base t 1 v n l) (hb : Below w.heap.size w W) (hle : base' ≤ base) : W.ownsRow base' t 1 v n l :=
  own_base ((Mod.of_below (T := fun _ => False) hb).own h (fun _ _ h => h)) hle
theorem flat10 : ∀ (l : List Nat), (∀ z ∈ l, z < 4294967296) → (l.flatMap Leb.encU).length ≤ 10 * l.length
  | [], _ => by simp
  | y :: l, h => by
    have h1 := flat10 l (fun z hz => h z (by simp [hz]))
    have h2 := Leb.encU_le10 y (by have := h y (by simp); omega)
    simp only [List.flatMap_cons, List.length_append, List.length_cons]
    omega
set_option maxRecDepth 100000 in
set_option maxHeartbeats 4000000 in
theorem bentry_funcs (u0 u1 u3 u4 u5 u6 u7 u8 u9 u10 u11 : Value) (A : Option Addr) (n c : Nat) (xs : List Nat) (x : Nat) (i : Nat) (w : World) (h : HasL w (· < w.heap.size) A xs) (hn : xs.length = n) (hx : xs[i]? = some x) :
    Calls Tryz.prog 19 #[.agg #[u0, u1, .slice A n c, u3, u4, u5, u6, u7, u8, u9, u10, u11], .int .u8 3, .int .i64 (i : Int)] w (BResN 3000000000 (true) (Leb.encU x) w) := by
  have hin : i < n := by have := (List.getElem?_eq_some_iff.1 hx).1; omega
  have hii : (i : Int) < (n : Int) := by omega
  obtain ⟨g, o, cs, rfl, _, hg, ⟨rfl, hxn⟩, k⟩ := h i x hx
  have hsz : Lay.size Nat = 1 := rfl
  rw [hsz] at k
  simp only [Nat.mul_one] at k
  have c0 := k 0 _ rfl
  simp only [Nat.add_zero] at c0
  have HX0 : Hid ((w.alloc (.cells #[u0, u1, .slice (some ⟨g, o, none⟩) n c, u3, u4, u5, u6, u7, u8, u9, u10, u11] 33)).heap[w.heap.size]? = some (.cells #[u0, u1, .slice (some ⟨g, o, none⟩) n c, u3, u4, u5, u6, u7, u8, u9, u10, u11] 33 (0, 0))) := Lib.hid (heap_alloc_new w _)
  have HB0 : Hid (Below w.heap.size w (w.alloc (.cells #[u0, u1, .slice (some ⟨g, o, none⟩) n c, u3, u4, u5, u6, u7, u8, u9, u10, u11] 33))) := Lib.hid ((Below.refl _ _).alloc (Nat.le_refl _) _)
  have HS0 : Hid ((w.alloc (.cells #[u0, u1, .slice (some ⟨g, o, none⟩) n c, u3, u4, u5, u6, u7, u8, u9, u10, u11] 33)).heap.size = w.heap.size + 1) := Lib.hid (by simp)
  clear h hn hx k hin hsz
  go_enter Tryz.func19, Tryz.ntmps19
  go_upto_region 1 with fail
  generalize (w.alloc (.cells #[u0, u1, .slice (some ⟨g, o, none⟩) n c, u3, u4, u5, u6, u7, u8, u9, u10, u11] 33)) = w0 at HX0 HB0 HS0 ⊢
  have HXB : Hid (∀ W, Below w0.heap.size w0 W → W.heap[w.heap.size]? = some (.cells #[u0, u1, .slice (some ⟨g, o, none⟩) n c, u3, u4, u5, u6, u7, u8, u9, u10, u11] 33 (0, 0))) := Lib.hid (fun W hb => (hb.block w.heap.size (by have := HS0.out; omega)).trans HX0.out)
  have HALL : Hid (∀ W, Below w0.heap.size w0 W → W.cell? ⟨w.heap.size, 2, none⟩ = some (.slice (some ⟨g, o, none⟩) n c) ∧ W.cell? ⟨g, o + i, none⟩ = some (.int .u32 (x : Int))) := Lib.hid (fun W hb => ⟨by rw [cell_of_row W _ 2 _ _ (0, 0) (HXB.out W hb)]; rfl, ((HB0.out.trans (hb.mono HB0.out.size)).cell (p := ⟨g, o + i, none⟩) hg).trans c0⟩)
  clear c0 hg
  obtain ⟨p, q0⟩ := HALL.out w0 (Below.refl _ _)
  have hwx : IntKind.u64.wrap (x : Int) = (x : Int) := IntWalk.u64_in _ (by omega)
  have HC := Lib.hid (bU_any x w0 (by omega))
  have hle := Leb.encU_le10 x (by omega)
  go_wp2_with (go_at_call 18; refine HC.out.mono ?_; rintro e wa ⟨v, rfl, ho, hb⟩; have HO := Lib.hid ho; have HB := Lib.hid hb; clear ho hb)
  go_ret2
  exact bres_of (HB0.out.trans (HB.out.mono HB0.out.size)) (own_base HO.out HB0.out.size) (by omega) (fun _ => rfl)
set_option maxRecDepth 100000 in
set_option maxHeartbeats 4000000 in
theorem bentry_mems (u0 u1 u2 u3 u5 u6 u7 u8 u9 u10 u11 : Value) (A : Option Addr) (n c : Nat) (xs : List Lim) (x : Lim) (i : Nat) (w : World) (h : HasL w (· < w.heap.size) A xs) (hn : xs.length = n) (hx : xs[i]? = some x) :
    Calls Tryz.prog 19 #[.agg #[u0, u1, u2, u3, .slice A n c, u5, u6, u7, u8, u9, u10, u11], .int .u8 5, .int .i64 (i : Int)] w (BResN 3000000000 (limOk x) (encLim x) w) := by
  have hin : i < n := by have := (List.getElem?_eq_some_iff.1 hx).1; omega
  have hii : (i : Int) < (n : Int) := by omega
  obtain ⟨g, o, cs, rfl, _, hg, ⟨rfl, hw1, hw2, hw3⟩, k⟩ := h i x hx
  have hsz : Lay.size Lim = 2 := rfl
  rw [hsz] at k
  have c0 := k 0 _ rfl
  have c1 := k 1 _ rfl
  simp only [Nat.add_zero] at c0
  have HX0 : Hid ((w.alloc (.cells #[u0, u1, u2, u3, .slice (some ⟨g, o, none⟩) n c, u5, u6, u7, u8, u9, u10, u11] 33)).heap[w.heap.size]? = some (.cells #[u0, u1, u2, u3, .slice (some ⟨g, o, none⟩) n c, u5, u6, u7, u8, u9, u10, u11] 33 (0, 0))) := Lib.hid (heap_alloc_new w _)
  have HB0 : Hid (Below w.heap.size w (w.alloc (.cells #[u0, u1, u2, u3, .slice (some ⟨g, o, none⟩) n c, u5, u6, u7, u8, u9, u10, u11] 33))) := Lib.hid ((Below.refl _ _).alloc (Nat.le_refl _) _)
  have HS0 : Hid ((w.alloc (.cells #[u0, u1, u2, u3, .slice (some ⟨g, o, none⟩) n c, u5, u6, u7, u8, u9, u10, u11] 33)).heap.size = w.heap.size + 1) := Lib.hid (by simp)
  clear h hn hx k hin hsz
  go_enter Tryz.func19, Tryz.ntmps19
  go_upto_region 1 with fail
  generalize (w.alloc (.cells #[u0, u1, u2, u3, .slice (some ⟨g, o, none⟩) n c, u5, u6, u7, u8, u9, u10, u11] 33)) = w0 at HX0 HB0 HS0 ⊢
  have HXB : Hid (∀ W, Below w0.heap.size w0 W → W.heap[w.heap.size]? = some (.cells #[u0, u1, u2, u3, .slice (some ⟨g, o, none⟩) n c, u5, u6, u7, u8, u9, u10, u11] 33 (0, 0))) := Lib.hid (fun W hb => (hb.block w.heap.size (by have := HS0.out; omega)).trans HX0.out)
  have HALL : Hid (∀ W, Below w0.heap.size w0 W → W.cell? ⟨w.heap.size, 4, none⟩ = some (.slice (some ⟨g, o, none⟩) n c) ∧ W.cell? ⟨g, o + i * 2, none⟩ = some (.int .u32 (x.min : Int)) ∧ W.cell? ⟨g, o + i * 2 + 1, none⟩ = some (.int .i64 x.max)) := Lib.hid (fun W hb => ⟨by rw [cell_of_row W _ 4 _ _ (0, 0) (HXB.out W hb)]; rfl, ((HB0.out.trans (hb.mono HB0.out.size)).cell (p := ⟨g, o + i * 2, none⟩) hg).trans c0, ((HB0.out.trans (hb.mono HB0.out.size)).cell (p := ⟨g, o + i * 2 + 1, none⟩) hg).trans c1⟩)
  clear c0 c1 hg
  obtain ⟨p, q0, q1⟩ := HALL.out w0 (Below.refl _ _)
  have HC := Lib.hid (blims_any x.min x.max w0 hw1 hw2 hw3)
  go_wp2_with (go_at_call 35; refine HC.out.mono ?_; rintro e wa ⟨hb, v, l8, rfl, ho, hl, hx⟩; have HO := Lib.hid ho; have HB := Lib.hid hb; have HX := Lib.hid hx; clear ho hb hx)
  go_ret2
  exact bres_of (HB0.out.trans (HB.out.mono HB0.out.size)) (own_base HO.out HB0.out.size) (by omega) HX.out
set_option maxRecDepth 100000 in
set_option maxHeartbeats 4000000 in
theorem bentry_tables (u0 u1 u2 u4 u5 u6 u7 u8 u9 u10 u11 : Value) (A : Option Addr) (n c : Nat) (xs : List Lim) (x : Lim) (i : Nat) (w : World) (h : HasL w (· < w.heap.size) A xs) (hn : xs.length = n) (hx : xs[i]? = some x) :
    Calls Tryz.prog 19 #[.agg #[u0, u1, u2, .slice A n c, u4, u5, u6, u7, u8, u9, u10, u11], .int .u8 4, .int .i64 (i : Int)] w (BResN 3000000000 (limOk x) (encTable x) w) := by
  have hin : i < n := by have := (List.getElem?_eq_some_iff.1 hx).1; omega
  have hii : (i : Int) < (n : Int) := by omega
  obtain ⟨g, o, cs, rfl, _, hg, ⟨rfl, hw1, hw2, hw3⟩, k⟩ := h i x hx
  have hsz : Lay.size Lim = 2 := rfl
  rw [hsz] at k
  have c0 := k 0 _ rfl
  have c1 := k 1 _ rfl
  simp only [Nat.add_zero] at c0
  have HX0 : Hid ((w.alloc (.cells #[u0, u1, u2, .slice (some ⟨g, o, none⟩) n c, u4, u5, u6, u7, u8, u9, u10, u11] 33)).heap[w.heap.size]? = some (.cells #[u0, u1, u2, .slice (some ⟨g, o, none⟩) n c, u4, u5, u6, u7, u8, u9, u10, u11] 33 (0, 0))) := Lib.hid (heap_alloc_new w _)
  have HB0 : Hid (Below w.heap.size w (w.alloc (.cells #[u0, u1, u2, .slice (some ⟨g, o, none⟩) n c, u4, u5, u6, u7, u8, u9, u10, u11] 33))) := Lib.hid ((Below.refl _ _).alloc (Nat.le_refl _) _)
  have HS0 : Hid ((w.alloc (.cells #[u0, u1, u2, .slice (some ⟨g, o, none⟩) n c, u4, u5, u6, u7, u8, u9, u10, u11] 33)).heap.size = w.heap.size + 1) := Lib.hid (by simp)
  clear h hn hx k hin hsz
  go_enter Tryz.func19, Tryz.ntmps19
  go_upto_region 1 with fail
  generalize (w.alloc (.cells #[u0, u1, u2, .slice (some ⟨g, o, none⟩) n c, u4, u5, u6, u7, u8, u9, u10, u11] 33)) = w0 at HX0 HB0 HS0 ⊢
  have HXB : Hid (∀ W, Below w0.heap.size w0 W → W.heap[w.heap.size]? = some (.cells #[u0, u1, u2, .slice (some ⟨g, o, none⟩) n c, u4, u5, u6, u7, u8, u9, u10, u11] 33 (0, 0))) := Lib.hid (fun W hb => (hb.block w.heap.size (by have := HS0.out; omega)).trans HX0.out)
  have HALL : Hid (∀ W, Below w0.heap.size w0 W → W.cell? ⟨w.heap.size, 3, none⟩ = some (.slice (some ⟨g, o, none⟩) n c) ∧ W.cell? ⟨g, o + i * 2, none⟩ = some (.int .u32 (x.min : Int)) ∧ W.cell? ⟨g, o + i * 2 + 1, none⟩ = some (.int .i64 x.max)) := Lib.hid (fun W hb => ⟨by rw [cell_of_row W _ 3 _ _ (0, 0) (HXB.out W hb)]; rfl, ((HB0.out.trans (hb.mono HB0.out.size)).cell (p := ⟨g, o + i * 2, none⟩) hg).trans c0, ((HB0.out.trans (hb.mono HB0.out.size)).cell (p := ⟨g, o + i * 2 + 1, none⟩) hg).trans c1⟩)
  clear c0 c1 hg
  obtain ⟨p, q0, q1⟩ := HALL.out w0 (Below.refl _ _)
  have HC := Lib.hid (blims_any x.min x.max w0 hw1 hw2 hw3)
  go_upto_region 12 with (go_at_call 35; refine HC.out.mono ?_; rintro e wa ⟨hb, v, l8, rfl, ho, hl, hx⟩; have HO := Lib.hid ho; have HB := Lib.hid hb; have HX := Lib.hid hx; clear ho hb hx)
  obtain ⟨A7, c7, n7, v9, w9, rfl, hr9, ha9⟩ := own_app (wa.alloc (.cells #[.int .u8 112] 5)) wa.heap.size w0.heap.size _ v [UInt8.ofNat 112] l8 (own_lit1 wa wa.heap.size 112 (by omega) (Nat.le_refl _)) (HO.out.alloc _) (by simp; omega) (by simp)
  have hb9 := ha9.below (own_ge (own_lit1 wa wa.heap.size 112 (by omega) (Nat.le_refl _))) (by simp)
  have HB9 := Lib.hid (HB.out.trans ((((Below.refl wa.heap.size wa).alloc (Nat.le_refl _) _).trans hb9).mono HB.out.size))
  have HR9 := Lib.hid hr9
  have HA9 := Lib.hid ha9
  clear hr9 ha9 hb9
  go_wp2_with (at_builtin; refine wpList_appends rfl (.tmp 89) (.tmp 90) 36 rfl _ _ _ w9 rfl rfl HR9.out ?_)
  go_ret2
  exact bres_of (HB0.out.trans (HB9.out.mono HB0.out.size)) (own_base HA9.out.1 (Nat.le_trans HB0.out.size HB.out.size)) (by simp; omega) (fun e => by rw [HX.out e]; rfl)
set_option maxRecDepth 100000 in
set_option maxHeartbeats 4000000 in
theorem bentry_imports (u0 u2 u3 u4 u5 u6 u7 u8 u9 u10 u11 : Value) (A : Option Addr) (n c : Nat) (xs : List Imp) (x : Imp) (i : Nat) (w : World) (h : HasL w (· < w.heap.size) A xs) (hn : xs.length = n) (hx : xs[i]? = some x) (hs : x.mod.length ≤ 1000000 ∧ x.name.length ≤ 1000000) :
    Calls Tryz.prog 19 #[.agg #[u0, .slice A n c, u2, u3, u4, u5, u6, u7, u8, u9, u10, u11], .int .u8 2, .int .i64 (i : Int)] w (BResN 3000000000 (impOk x) (encImp x) w) := by
  have hin : i < n := by have := (List.getElem?_eq_some_iff.1 hx).1; omega
  have hii : (i : Int) < (n : Int) := by omega
  obtain ⟨g, o, cs, rfl, _, hg, ⟨rfl, ht, hw1, hw2, hw3⟩, k⟩ := h i x hx
  have hsz : Lay.size Imp = 8 := rfl
  rw [hsz] at k
  have c0 := k 0 _ rfl
  have c1 := k 1 _ rfl
  have c2 := k 2 _ rfl
  have c3 := k 3 _ rfl
  have c4 := k 4 _ rfl
  have c5 := k 5 _ rfl
  have c6 := k 6 _ rfl
  have c7 := k 7 _ rfl
  simp only [Nat.add_zero] at c0
  have HX0 : Hid ((w.alloc (.cells #[u0, .slice (some ⟨g, o, none⟩) n c, u2, u3, u4, u5, u6, u7, u8, u9, u10, u11] 33)).heap[w.heap.size]? = some (.cells #[u0, .slice (some ⟨g, o, none⟩) n c, u2, u3, u4, u5, u6, u7, u8, u9, u10, u11] 33 (0, 0))) := Lib.hid (heap_alloc_new w _)
  have HB0 : Hid (Below w.heap.size w (w.alloc (.cells #[u0, .slice (some ⟨g, o, none⟩) n c, u2, u3, u4, u5, u6, u7, u8, u9, u10, u11] 33))) := Lib.hid ((Below.refl _ _).alloc (Nat.le_refl _) _)
  have HS0 : Hid ((w.alloc (.cells #[u0, .slice (some ⟨g, o, none⟩) n c, u2, u3, u4, u5, u6, u7, u8, u9, u10, u11] 33)).heap.size = w.heap.size + 1) := Lib.hid (by simp)
  clear h hn hx k hin hsz
  go_enter Tryz.func19, Tryz.ntmps19
  go_upto_region 1 with fail
  generalize (w.alloc (.cells #[u0, .slice (some ⟨g, o, none⟩) n c, u2, u3, u4, u5, u6, u7, u8, u9, u10, u11] 33)) = w0 at HX0 HB0 HS0 ⊢
  have HXB : Hid (∀ W, Below w0.heap.size w0 W → W.heap[w.heap.size]? = some (.cells #[u0, .slice (some ⟨g, o, none⟩) n c, u2, u3, u4, u5, u6, u7, u8, u9, u10, u11] 33 (0, 0))) := Lib.hid (fun W hb => (hb.block w.heap.size (by have := HS0.out; omega)).trans HX0.out)
  have HALL : Hid (∀ W, Below w0.heap.size w0 W → W.cell? ⟨w.heap.size, 1, none⟩ = some (.slice (some ⟨g, o, none⟩) n c) ∧ W.cell? ⟨g, o + i * 8, none⟩ = some (strV x.mod) ∧ W.cell? ⟨g, o + i * 8 + 1, none⟩ = some (strV x.name) ∧ W.cell? ⟨g, o + i * 8 + 2, none⟩ = some (.int .u8 (x.kind.toNat : Int)) ∧ W.cell? ⟨g, o + i * 8 + 3, none⟩ = some (.int .u32 (x.type : Int)) ∧ W.cell? ⟨g, o + i * 8 + 4, none⟩ = some (.int .u32 (x.lim.min : Int)) ∧ W.cell? ⟨g, o + i * 8 + 5, none⟩ = some (.int .i64 x.lim.max) ∧ W.cell? ⟨g, o + i * 8 + 6, none⟩ = some (.int .u8 (x.glob.t.toNat : Int)) ∧ W.cell? ⟨g, o + i * 8 + 7, none⟩ = some (.bool x.glob.mu)) := Lib.hid (fun W hb => ⟨by rw [cell_of_row W _ 1 _ _ (0, 0) (HXB.out W hb)]; rfl, ((HB0.out.trans (hb.mono HB0.out.size)).cell (p := ⟨g, o + i * 8, none⟩) hg).trans c0, ((HB0.out.trans (hb.mono HB0.out.size)).cell (p := ⟨g, o + i * 8 + 1, none⟩) hg).trans c1, ((HB0.out.trans (hb.mono HB0.out.size)).cell (p := ⟨g, o + i * 8 + 2, none⟩) hg).trans c2, ((HB0.out.trans (hb.mono HB0.out.size)).cell (p := ⟨g, o + i * 8 + 3, none⟩) hg).trans c3, ((HB0.out.trans (hb.mono HB0.out.size)).cell (p := ⟨g, o + i * 8 + 4, none⟩) hg).trans c4, ((HB0.out.trans (hb.mono HB0.out.size)).cell (p := ⟨g, o + i * 8 + 5, none⟩) hg).trans c5, ((HB0.out.trans (hb.mono HB0.out.size)).cell (p := ⟨g, o + i * 8 + 6, none⟩) hg).trans c6, ((HB0.out.trans (hb.mono HB0.out.size)).cell (p := ⟨g, o + i * 8 + 7, none⟩) hg).trans c7⟩)
  clear c0 c1 c2 c3 c4 c5 c6 c7 hg
  obtain ⟨p, q0, q1, q2, q3, q4, q5, q6, q7⟩ := HALL.out w0 (Below.refl _ _)
  have HC := Lib.hid (bimps_any x.mod x.name x.kind x.type x.lim.min x.lim.max x.glob.t x.glob.mu w0 hs.1 hs.2 ht hw1 hw2 hw3)
  unfold strV at q0 q1
  go_wp2_with (go_at_call 34; refine HC.out.mono ?_; rintro e wa ⟨hb, v, l8, rfl, ho, hl, hx⟩; have HO := Lib.hid ho; have HB := Lib.hid hb; have HX := Lib.hid hx; clear ho hb hx)
  go_ret2
  exact bres_of (HB0.out.trans (HB.out.mono HB0.out.size)) (own_base HO.out HB0.out.size) (by omega) HX.out
set_option maxRecDepth 100000 in
set_option maxHeartbeats 4000000 in
theorem bentry_codes (u0 u1 u2 u3 u4 u5 u6 u7 u8 u9 u11 : Value) (A : Option Addr) (n c : Nat) (xs : List Cd) (x : Cd) (i : Nat) (w : World) (h : HasL w (· < w.heap.size) A xs) (hn : xs.length = n) (hx : xs[i]? = some x) (hs : x.locals.length ≤ 100000 ∧ Ins.many x.body ≤ 200000) :
    Calls Tryz.prog 19 #[.agg #[u0, u1, u2, u3, u4, u5, u6, u7, u8, u9, .slice A n c, u11], .int .u8 10, .int .i64 (i : Int)] w (BResN 3000000000 (cdOk x) (encCd x) w) := by
  have hin : i < n := by have := (List.getElem?_eq_some_iff.1 hx).1; omega
  have hii : (i : Int) < (n : Int) := by omega
  obtain ⟨g, o, cs, rfl, _, hg, ⟨_, _, rfl, ⟨A1, d1, rfl, hc1, _, _, h1⟩, ⟨A2, d2, rfl, hc2, _, _, h2⟩⟩, k⟩ := h i x hx
  have hsz : Lay.size Cd = 2 := rfl
  rw [hsz] at k
  have c0 := k 0 _ rfl
  have c1 := k 1 _ rfl
  simp only [Nat.add_zero] at c0
  have HX0 : Hid ((w.alloc (.cells #[u0, u1, u2, u3, u4, u5, u6, u7, u8, u9, .slice (some ⟨g, o, none⟩) n c, u11] 33)).heap[w.heap.size]? = some (.cells #[u0, u1, u2, u3, u4, u5, u6, u7, u8, u9, .slice (some ⟨g, o, none⟩) n c, u11] 33 (0, 0))) := Lib.hid (heap_alloc_new w _)
  have HB0 : Hid (Below w.heap.size w (w.alloc (.cells #[u0, u1, u2, u3, u4, u5, u6, u7, u8, u9, .slice (some ⟨g, o, none⟩) n c, u11] 33))) := Lib.hid ((Below.refl _ _).alloc (Nat.le_refl _) _)
  have HS0 : Hid ((w.alloc (.cells #[u0, u1, u2, u3, u4, u5, u6, u7, u8, u9, .slice (some ⟨g, o, none⟩) n c, u11] 33)).heap.size = w.heap.size + 1) := Lib.hid (by simp)
  obtain ⟨n1, hn1⟩ : ∃ n, x.locals.length = n := ⟨_, rfl⟩
  obtain ⟨n2, hn2⟩ : ∃ n, x.body.length = n := ⟨_, rfl⟩
  rw [hn1] at c0
  rw [hn2] at c1
  have H1 := Lib.hid h1
  have H2 := Lib.hid h2
  have HN1 := Lib.hid hn1
  have HN2 := Lib.hid hn2
  clear h1 h2 hn1 hn2 hc1 hc2
  clear h hn hx k hin hsz
  go_enter Tryz.func19, Tryz.ntmps19
  go_upto_region 1 with fail
  generalize (w.alloc (.cells #[u0, u1, u2, u3, u4, u5, u6, u7, u8, u9, .slice (some ⟨g, o, none⟩) n c, u11] 33)) = w0 at HX0 HB0 HS0 ⊢
  have HXB : Hid (∀ W, Below w0.heap.size w0 W → W.heap[w.heap.size]? = some (.cells #[u0, u1, u2, u3, u4, u5, u6, u7, u8, u9, .slice (some ⟨g, o, none⟩) n c, u11] 33 (0, 0))) := Lib.hid (fun W hb => (hb.block w.heap.size (by have := HS0.out; omega)).trans HX0.out)
  have HALL : Hid (∀ W, Below w0.heap.size w0 W → W.cell? ⟨w.heap.size, 10, none⟩ = some (.slice (some ⟨g, o, none⟩) n c) ∧ W.cell? ⟨g, o + i * 2, none⟩ = some (.slice A1 n1 d1) ∧ W.cell? ⟨g, o + i * 2 + 1, none⟩ = some (.slice A2 n2 d2)) := Lib.hid (fun W hb => ⟨by rw [cell_of_row W _ 10 _ _ (0, 0) (HXB.out W hb)]; rfl, ((HB0.out.trans (hb.mono HB0.out.size)).cell (p := ⟨g, o + i * 2, none⟩) hg).trans c0, ((HB0.out.trans (hb.mono HB0.out.size)).cell (p := ⟨g, o + i * 2 + 1, none⟩) hg).trans c1⟩)
  clear c0 c1 hg
  obtain ⟨p, q0, q1⟩ := HALL.out w0 (Below.refl _ _)
  have HC := Lib.hid (bcode_any x.locals x.body A1 A2 n1 d1 n2 d2 w0 (H1.out.up HB0.out) HN1.out (by have := HN1.out; omega) (H2.out.up HB0.out).ins HN2.out hs.2)
  go_wp2_with (go_at_call 40; refine HC.out.mono ?_; rintro e wa ⟨hb, v, l8, rfl, ho, hl, hx⟩; have HO := Lib.hid ho; have HB := Lib.hid hb; have HX := Lib.hid hx; clear ho hb hx)
  go_ret2
  exact bres_of (HB0.out.trans (HB.out.mono HB0.out.size)) (own_base HO.out HB0.out.size) (by omega) HX.out
set_option maxRecDepth 100000 in
set_option maxHeartbeats 4000000 in
theorem bentry_types (u1 u2 u3 u4 u5 u6 u7 u8 u9 u10 u11 : Value) (A : Option Addr) (n c : Nat) (xs : List FT) (x : FT) (i : Nat) (w : World) (h : HasL w (· < w.heap.size) A xs) (hn : xs.length = n) (hx : xs[i]? = some x) (hs : x.params.length ≤ 1000000 ∧ x.results.length ≤ 1000000) :
    Calls Tryz.prog 19 #[.agg #[.slice A n c, u1, u2, u3, u4, u5, u6, u7, u8, u9, u10, u11], .int .u8 1, .int .i64 (i : Int)] w (BResN 3000000000 (ftOk x) (encFT x) w) := by
  have hin : i < n := by have := (List.getElem?_eq_some_iff.1 hx).1; omega
  have hii : (i : Int) < (n : Int) := by omega
  obtain ⟨g, o, cs, rfl, _, hg, ⟨_, _, rfl, ⟨A1, d1, rfl, hc1, _, _, h1⟩, ⟨A2, d2, rfl, hc2, _, _, h2⟩⟩, k⟩ := h i x hx
  have hsz : Lay.size FT = 2 := rfl
  rw [hsz] at k
  have c0 := k 0 _ rfl
  have c1 := k 1 _ rfl
  simp only [Nat.add_zero] at c0
  have HX0 : Hid ((w.alloc (.cells #[.slice (some ⟨g, o, none⟩) n c, u1, u2, u3, u4, u5, u6, u7, u8, u9, u10, u11] 33)).heap[w.heap.size]? = some (.cells #[.slice (some ⟨g, o, none⟩) n c, u1, u2, u3, u4, u5, u6, u7, u8, u9, u10, u11] 33 (0, 0))) := Lib.hid (heap_alloc_new w _)
  have HB0 : Hid (Below w.heap.size w (w.alloc (.cells #[.slice (some ⟨g, o, none⟩) n c, u1, u2, u3, u4, u5, u6, u7, u8, u9, u10, u11] 33))) := Lib.hid ((Below.refl _ _).alloc (Nat.le_refl _) _)
  have HS0 : Hid ((w.alloc (.cells #[.slice (some ⟨g, o, none⟩) n c, u1, u2, u3, u4, u5, u6, u7, u8, u9, u10, u11] 33)).heap.size = w.heap.size + 1) := Lib.hid (by simp)
  obtain ⟨n1, hn1⟩ : ∃ n, x.params.length = n := ⟨_, rfl⟩
  obtain ⟨n2, hn2⟩ : ∃ n, x.results.length = n := ⟨_, rfl⟩
  rw [hn1] at c0
  rw [hn2] at c1
  have H1 := Lib.hid h1
  have H2 := Lib.hid h2
  have HN1 := Lib.hid hn1
  have HN2 := Lib.hid hn2
  clear h1 h2 hn1 hn2 hc1 hc2
  clear h hn hx k hin hsz
  go_enter Tryz.func19, Tryz.ntmps19
  go_upto_region 1 with fail
  generalize (w.alloc (.cells #[.slice (some ⟨g, o, none⟩) n c, u1, u2, u3, u4, u5, u6, u7, u8, u9, u10, u11] 33)) = w0 at HX0 HB0 HS0 ⊢
  have HXB : Hid (∀ W, Below w0.heap.size w0 W → W.heap[w.heap.size]? = some (.cells #[.slice (some ⟨g, o, none⟩) n c, u1, u2, u3, u4, u5, u6, u7, u8, u9, u10, u11] 33 (0, 0))) := Lib.hid (fun W hb => (hb.block w.heap.size (by have := HS0.out; omega)).trans HX0.out)
  have HALL : Hid (∀ W, Below w0.heap.size w0 W → W.cell? ⟨w.heap.size, 0, none⟩ = some (.slice (some ⟨g, o, none⟩) n c) ∧ W.cell? ⟨g, o + i * 2, none⟩ = some (.slice A1 n1 d1) ∧ W.cell? ⟨g, o + i * 2 + 1, none⟩ = some (.slice A2 n2 d2)) := Lib.hid (fun W hb => ⟨by rw [cell_of_row W _ 0 _ _ (0, 0) (HXB.out W hb)]; rfl, ((HB0.out.trans (hb.mono HB0.out.size)).cell (p := ⟨g, o + i * 2, none⟩) hg).trans c0, ((HB0.out.trans (hb.mono HB0.out.size)).cell (p := ⟨g, o + i * 2 + 1, none⟩) hg).trans c1⟩)
  clear c0 c1 hg
  obtain ⟨p, q0, q1⟩ := HALL.out w0 (Below.refl _ _)
  have HV1 := Lib.hid (bvals_any A1 x.params n1 d1 w0 (H1.out.up HB0.out).has HN1.out.symm (by have := HN1.out; omega))
  have HV2 := Lib.hid (fun W (hb : Below w0.heap.size w0 W) => bvals_any A2 x.results n2 d2 W (H2.out.up (HB0.out.trans (hb.mono HB0.out.size))).has HN2.out.symm (by have := HN2.out; omega))
  obtain ⟨o1, ho1⟩ : ∃ b, x.params.all whole1 = b := ⟨_, rfl⟩
  obtain ⟨o2, ho2⟩ : ∃ b, x.results.all whole1 = b := ⟨_, rfl⟩
  rw [ho1] at HV1
  rw [ho2] at HV2
  have HOK : Hid (ftOk x = (o1 && o2)) := Lib.hid (by unfold ftOk; rw [ho1, ho2])
  clear ho1 ho2 hs
  go_upto_region 4 with (go_at_call 33; refine HV1.out.mono ?_; rintro e wa ⟨hba, va, la, rfl, hoa, hla, hxa⟩; have HOa := Lib.hid hoa; have HBa := Lib.hid hba; have HXa := Lib.hid hxa; clear hoa hba hxa)
  obtain ⟨p', q0', q1'⟩ := HALL.out wa HBa.out
  go_upto_region 5 with (go_at_call 33; refine (HV2.out _ HBa.out).mono ?_; rintro e wb ⟨hbb, vb, lb, rfl, hob, hlb, hxb⟩; have HOb := Lib.hid hob; have HBb := Lib.hid hbb; have HXb := Lib.hid hxb; clear hob hbb hxb)
  obtain ⟨A7, c7, n7, v9, w9, rfl, hr9, ha9⟩ := own_app (wb.alloc (.cells #[.int .u8 96] 5)) wb.heap.size w0.heap.size _ va [UInt8.ofNat 96] la (own_lit1 wb wb.heap.size 96 (by omega) (Nat.le_refl _)) ((own_up HOa.out HBb.out (Nat.le_refl _)).alloc _) (by simp; omega) (by simp)
  have hb9 : Below wb.heap.size wb w9 := ((Below.refl wb.heap.size wb).alloc (Nat.le_refl _) _).trans (ha9.below (own_ge (own_lit1 wb wb.heap.size 96 (by omega) (Nat.le_refl _))) (by simp))
  obtain ⟨A8, c8, n8, v10, w10, rfl, hr10, ha10⟩ := own_app w9 wb.heap.size wa.heap.size v9 vb _ lb ha9.1 (own_up HOb.out hb9 (Nat.le_refl _)) (by simp; omega) hb9.size
  have hb10 := ha10.below (own_ge ha9.1) hb9.size
  have HB10 := Lib.hid (HBa.out.trans ((HBb.out.trans ((hb9.trans hb10).mono HBb.out.size)).mono HBa.out.size))
  have HR9 := Lib.hid hr9
  have HR10 := Lib.hid hr10
  have HA10 := Lib.hid ha10
  clear hr9 ha9 hb9 hr10 ha10 hb10
  cases o1 <;> cases o2
  all_goals
    go_wp2_with (first | (at_builtin; refine wpList_appends rfl (.tmp 50) (.tmp 51) 36 rfl _ _ _ w9 rfl rfl HR9.out ?_) | (at_builtin; refine wpList_appends rfl (.tmp 52) (.tmp 53) 36 rfl _ _ _ w10 rfl rfl HR10.out ?_))
    go_ret2
    rw [HOK.out]
    refine bres_of (N := 3000000000) (HB0.out.trans (HB10.out.mono HB0.out.size)) (own_base HA10.out.1 (Nat.le_trans HB0.out.size (Nat.le_trans HBa.out.size HBb.out.size))) (by simp; omega) (fun e => ?_)
    first | (cases e; done) | (rw [HXa.out (by first | exact trivial | rfl), HXb.out (by first | exact trivial | rfl)]; simp [encFT])
set_option maxRecDepth 100000 in
set_option maxHeartbeats 4000000 in
theorem bentry_globals (u0 u1 u2 u3 u4 u6 u7 u8 u9 u10 u11 : Value) (A : Option Addr) (n c : Nat) (xs : List GV) (x : GV) (i : Nat) (w : World) (h : HasL w (· < w.heap.size) A xs) (hn : xs.length = n) (hx : xs[i]? = some x) (hs : Ins.many x.init ≤ 200000) :
    Calls Tryz.prog 19 #[.agg #[u0, u1, u2, u3, u4, .slice A n c, u6, u7, u8, u9, u10, u11], .int .u8 6, .int .i64 (i : Int)] w (BResN 3000000000 (gvOk x) (encGV x) w) := by
  have hin : i < n := by have := (List.getElem?_eq_some_iff.1 hx).1; omega
  have hii : (i : Int) < (n : Int) := by omega
  obtain ⟨g, o, cs, rfl, _, hg, ⟨_, rfl, ⟨A1, d1, rfl, hc1, _, _, h1⟩⟩, k⟩ := h i x hx
  have hsz : Lay.size GV = 3 := rfl
  rw [hsz] at k
  have c0 := k 0 _ rfl
  have c1 := k 1 _ rfl
  have c2 := k 2 _ rfl
  simp only [Nat.add_zero] at c0
  have HX0 : Hid ((w.alloc (.cells #[u0, u1, u2, u3, u4, .slice (some ⟨g, o, none⟩) n c, u6, u7, u8, u9, u10, u11] 33)).heap[w.heap.size]? = some (.cells #[u0, u1, u2, u3, u4, .slice (some ⟨g, o, none⟩) n c, u6, u7, u8, u9, u10, u11] 33 (0, 0))) := Lib.hid (heap_alloc_new w _)
  have HB0 : Hid (Below w.heap.size w (w.alloc (.cells #[u0, u1, u2, u3, u4, .slice (some ⟨g, o, none⟩) n c, u6, u7, u8, u9, u10, u11] 33))) := Lib.hid ((Below.refl _ _).alloc (Nat.le_refl _) _)
  have HS0 : Hid ((w.alloc (.cells #[u0, u1, u2, u3, u4, .slice (some ⟨g, o, none⟩) n c, u6, u7, u8, u9, u10, u11] 33)).heap.size = w.heap.size + 1) := Lib.hid (by simp)
  obtain ⟨n1, hn1⟩ : ∃ n, x.init.length = n := ⟨_, rfl⟩
  rw [hn1] at c2
  have H1 := Lib.hid h1
  have HN1 := Lib.hid hn1
  clear h1 hn1 hc1
  clear h hn hx k hin hsz
  go_enter Tryz.func19, Tryz.ntmps19
  go_upto_region 1 with fail
  generalize (w.alloc (.cells #[u0, u1, u2, u3, u4, .slice (some ⟨g, o, none⟩) n c, u6, u7, u8, u9, u10, u11] 33)) = w0 at HX0 HB0 HS0 ⊢
  have HXB : Hid (∀ W, Below w0.heap.size w0 W → W.heap[w.heap.size]? = some (.cells #[u0, u1, u2, u3, u4, .slice (some ⟨g, o, none⟩) n c, u6, u7, u8, u9, u10, u11] 33 (0, 0))) := Lib.hid (fun W hb => (hb.block w.heap.size (by have := HS0.out; omega)).trans HX0.out)
  have HALL : Hid (∀ W, Below w0.heap.size w0 W → W.cell? ⟨w.heap.size, 5, none⟩ = some (.slice (some ⟨g, o, none⟩) n c) ∧ W.cell? ⟨g, o + i * 3, none⟩ = some (.int .u8 (x.type.t.toNat : Int)) ∧ W.cell? ⟨g, o + i * 3 + 1, none⟩ = some (.bool x.type.mu) ∧ W.cell? ⟨g, o + i * 3 + 2, none⟩ = some (.slice A1 n1 d1)) := Lib.hid (fun W hb => ⟨by rw [cell_of_row W _ 5 _ _ (0, 0) (HXB.out W hb)]; rfl, ((HB0.out.trans (hb.mono HB0.out.size)).cell (p := ⟨g, o + i * 3, none⟩) hg).trans c0, ((HB0.out.trans (hb.mono HB0.out.size)).cell (p := ⟨g, o + i * 3 + 1, none⟩) hg).trans c1, ((HB0.out.trans (hb.mono HB0.out.size)).cell (p := ⟨g, o + i * 3 + 2, none⟩) hg).trans c2⟩)
  clear c0 c1 c2 hg
  obtain ⟨p, q0, q1, q2⟩ := HALL.out w0 (Below.refl _ _)
  have HV1 := Lib.hid (bglobs_any x.type.t x.type.mu w0)
  have HV2 := Lib.hid (fun W (hb : Below w0.heap.size w0 W) => rexpr2_any A1 x.init n1 d1 W (H1.out.up (HB0.out.trans (hb.mono HB0.out.size))).ins HN1.out.symm hs)
  obtain ⟨o1, ho1⟩ : ∃ b, whole1 x.type.t = b := ⟨_, rfl⟩
  obtain ⟨o2, ho2⟩ : ∃ b, exprB x.init = b := ⟨_, rfl⟩
  rw [ho1] at HV1
  have HEB := Lib.hid ho2
  have HOK : Hid (gvOk x = (o1 && o2)) := Lib.hid (by unfold gvOk; rw [ho1, ho2])
  clear ho1 ho2 hs
  go_upto_region 17 with (go_at_call 36; refine HV1.out.mono ?_; rintro e wa ⟨hba, va, la, rfl, hoa, hla, hxa⟩; have HOa := Lib.hid hoa; have HBa := Lib.hid hba; have HXa := Lib.hid hxa; clear hoa hba hxa)
  obtain ⟨p', q0', q1', q2'⟩ := HALL.out wa HBa.out
  go_upto_region 18 with (go_at_call 37; refine (HV2.out _ HBa.out).mono ?_; rintro e wb ⟨hbb, vb, lb, heb, hob, hlb, hxb⟩; rw [HEB.out] at heb; subst heb; have HOb := Lib.hid hob; have HBb := Lib.hid hbb; have HXb := Lib.hid hxb; clear hob hbb hxb)
  obtain ⟨A7, c7, n7, v9, w9, rfl, hr9, ha9⟩ := own_app wb w0.heap.size wa.heap.size va vb la lb (own_up HOa.out HBb.out (Nat.le_refl _)) HOb.out (by omega) (Nat.le_trans HBa.out.size HBb.out.size)
  have hb9 := ha9.below (own_ge (own_up HOa.out HBb.out (Nat.le_refl _))) (Nat.le_trans HBa.out.size HBb.out.size)
  have HB9 := Lib.hid (HBa.out.trans ((HBb.out.mono HBa.out.size).trans hb9))
  have HR9 := Lib.hid hr9
  have HA9 := Lib.hid ha9
  clear hr9 ha9 hb9
  cases o1 <;> cases o2
  all_goals
    go_wp2_with (at_builtin; refine wpList_appends rfl (.tmp 125) (.tmp 126) 36 rfl _ _ _ w9 rfl rfl HR9.out ?_)
    go_ret2
    rw [HOK.out]
    refine bres_of (N := 3000000000) (HB0.out.trans (HB9.out.mono HB0.out.size)) (own_base HA9.out.1 HB0.out.size) (by simp; omega) (fun e => ?_)
    first | (cases e; done) | (rw [HXa.out (by first | exact trivial | rfl), HXb.out HEB.out]; rfl)
set_option maxRecDepth 100000 in
set_option maxHeartbeats 4000000 in
theorem bentry_datas (u0 u1 u2 u3 u4 u5 u6 u7 u8 u9 u10 : Value) (A : Option Addr) (n c : Nat) (xs : List Da) (x : Da) (i : Nat) (w : World) (h : HasL w (· < w.heap.size) A xs) (hn : xs.length = n) (hx : xs[i]? = some x) (hs : Ins.many x.off ≤ 200000 ∧ x.b.length ≤ 1000000) :
    Calls Tryz.prog 19 #[.agg #[u0, u1, u2, u3, u4, u5, u6, u7, u8, u9, u10, .slice A n c], .int .u8 11, .int .i64 (i : Int)] w (BResN 3000000000 (daOk x) (encDa x) w) := by
  have hin : i < n := by have := (List.getElem?_eq_some_iff.1 hx).1; omega
  have hii : (i : Int) < (n : Int) := by omega
  obtain ⟨g, o, cs, rfl, _, hg, ⟨_, _, rfl, hxn, ⟨A1, d1, rfl, hc1, _, _, h1⟩, ⟨A2, d2, rfl, hc2, _, _, h2⟩⟩, k⟩ := h i x hx
  have hsz : Lay.size Da = 3 := rfl
  rw [hsz] at k
  have c0 := k 0 _ rfl
  have c1 := k 1 _ rfl
  have c2 := k 2 _ rfl
  simp only [Nat.add_zero] at c0
  have HX0 : Hid ((w.alloc (.cells #[u0, u1, u2, u3, u4, u5, u6, u7, u8, u9, u10, .slice (some ⟨g, o, none⟩) n c] 33)).heap[w.heap.size]? = some (.cells #[u0, u1, u2, u3, u4, u5, u6, u7, u8, u9, u10, .slice (some ⟨g, o, none⟩) n c] 33 (0, 0))) := Lib.hid (heap_alloc_new w _)
  have HB0 : Hid (Below w.heap.size w (w.alloc (.cells #[u0, u1, u2, u3, u4, u5, u6, u7, u8, u9, u10, .slice (some ⟨g, o, none⟩) n c] 33))) := Lib.hid ((Below.refl _ _).alloc (Nat.le_refl _) _)
  have HS0 : Hid ((w.alloc (.cells #[u0, u1, u2, u3, u4, u5, u6, u7, u8, u9, u10, .slice (some ⟨g, o, none⟩) n c] 33)).heap.size = w.heap.size + 1) := Lib.hid (by simp)
  obtain ⟨n1, hn1⟩ : ∃ n, x.off.length = n := ⟨_, rfl⟩
  obtain ⟨n2, hn2⟩ : ∃ n, x.b.length = n := ⟨_, rfl⟩
  rw [hn1] at c1
  rw [hn2] at c2
  have H1 := Lib.hid h1
  have H2 := Lib.hid h2
  have HN1 := Lib.hid hn1
  have HN2 := Lib.hid hn2
  clear h1 h2 hn1 hn2 hc1 hc2
  clear h hn hx k hin hsz
  go_enter Tryz.func19, Tryz.ntmps19
  go_upto_region 1 with fail
  generalize (w.alloc (.cells #[u0, u1, u2, u3, u4, u5, u6, u7, u8, u9, u10, .slice (some ⟨g, o, none⟩) n c] 33)) = w0 at HX0 HB0 HS0 ⊢
  have HXB : Hid (∀ W, Below w0.heap.size w0 W → W.heap[w.heap.size]? = some (.cells #[u0, u1, u2, u3, u4, u5, u6, u7, u8, u9, u10, .slice (some ⟨g, o, none⟩) n c] 33 (0, 0))) := Lib.hid (fun W hb => (hb.block w.heap.size (by have := HS0.out; omega)).trans HX0.out)
  have HALL : Hid (∀ W, Below w0.heap.size w0 W → W.cell? ⟨w.heap.size, 11, none⟩ = some (.slice (some ⟨g, o, none⟩) n c) ∧ W.cell? ⟨g, o + i * 3, none⟩ = some (.int .u32 (x.mem : Int)) ∧ W.cell? ⟨g, o + i * 3 + 1, none⟩ = some (.slice A1 n1 d1) ∧ W.cell? ⟨g, o + i * 3 + 2, none⟩ = some (.slice A2 n2 d2)) := Lib.hid (fun W hb => ⟨by rw [cell_of_row W _ 11 _ _ (0, 0) (HXB.out W hb)]; rfl, ((HB0.out.trans (hb.mono HB0.out.size)).cell (p := ⟨g, o + i * 3, none⟩) hg).trans c0, ((HB0.out.trans (hb.mono HB0.out.size)).cell (p := ⟨g, o + i * 3 + 1, none⟩) hg).trans c1, ((HB0.out.trans (hb.mono HB0.out.size)).cell (p := ⟨g, o + i * 3 + 2, none⟩) hg).trans c2⟩)
  clear c0 c1 c2 hg
  obtain ⟨p, q0, q1, q2⟩ := HALL.out w0 (Below.refl _ _)
  have hwx : IntKind.u64.wrap (x.mem : Int) = (x.mem : Int) := IntWalk.u64_in _ (by omega)
  have hwn : IntKind.u64.wrap (n2 : Int) = (n2 : Int) := IntWalk.u64_in _ (by have := HN2.out; omega)
  have hlx := Leb.encU_le10 x.mem (by omega)
  have hln := Leb.encU_le10 n2 (by have := HN2.out; omega)
  have HV1 := Lib.hid (rexpr2_any A1 x.off n1 d1 w0 (H1.out.up HB0.out).ins HN1.out.symm hs.1)
  have HV2 := Lib.hid (fun W => bU_any x.mem W (by omega))
  have HV3 := Lib.hid (fun W => bU_any n2 W (by have := HN2.out; omega))
  obtain ⟨o2, ho2⟩ : ∃ b, exprB x.off = b := ⟨_, rfl⟩
  have HEB := Lib.hid ho2
  clear ho2
  go_upto_region 35 with (go_at_call 37; refine HV1.out.mono ?_; rintro e wa ⟨hba, va, la, hea, hoa, hla, hxa⟩; rw [HEB.out] at hea; subst hea; have HOa := Lib.hid hoa; have HBa := Lib.hid hba; have HXa := Lib.hid hxa; clear hoa hba hxa)
  obtain ⟨p', q0', q1', q2'⟩ := HALL.out wa HBa.out
  go_upto_region 36 with (first | (go_at_call 18; refine (HV2.out _).mono ?_; rintro e wb ⟨vb, rfl, hob, hbb⟩; obtain ⟨A7, d7, n7, v9, w9, h79, hr9, ha9⟩ := own_app wb wa.heap.size w0.heap.size vb va _ la hob (own_up HOa.out hbb (Nat.le_refl _)) (by omega) hbb.size; subst h79; have hb9 := hbb.trans (ha9.below (own_ge hob) hbb.size); have HR9 := Lib.hid hr9; have HO9 := Lib.hid ha9.1; have HB9 := Lib.hid hb9; clear hob hbb hr9 ha9 hb9) | (at_builtin; refine wpList_appends rfl (.tmp 247) (.tmp 248) 36 rfl _ _ _ w9 rfl rfl HR9.out ?_))
  obtain ⟨p'', q0'', q1'', q2''⟩ := HALL.out w9 (HBa.out.trans (HB9.out.mono HBa.out.size))
  have hl9 : (Leb.encU x.mem ++ la).length ≤ 20000010 := by rw [List.length_append]; omega
  go_upto_region 37 with (first | (go_at_call 18; refine (HV3.out _).mono ?_; rintro e wc ⟨vc, rfl, hoc, hbc⟩; obtain ⟨A8, d8, n8, v10, w10, h80, hr10, ha10⟩ := own_app wc wa.heap.size w9.heap.size v9 vc _ _ (own_up HO9.out hbc (Nat.le_refl _)) hoc (by omega) (Nat.le_trans HB9.out.size hbc.size); subst h80; have hb10 := (hbc.mono HB9.out.size).trans (ha10.below (own_ge (own_up HO9.out hbc (Nat.le_refl _))) (Nat.le_trans HB9.out.size hbc.size)); have HR10 := Lib.hid hr10; have HO10 := Lib.hid ha10.1; have HB10 := Lib.hid hb10; clear hoc hbc hr10 ha10 hb10) | (at_builtin; refine wpList_appends rfl (.tmp 250) (.tmp 259) 36 rfl _ _ _ w10 rfl rfl HR10.out ?_))
  have HBW := Lib.hid (HBa.out.trans ((HB9.out.trans HB10.out).mono HBa.out.size))
  obtain ⟨p3, q03, q13, q23⟩ := HALL.out w10 HBW.out
  have hl10 : (Leb.encU x.mem ++ la ++ Leb.encU n2).length ≤ 20000020 := by rw [List.length_append]; omega
  obtain ⟨v11, w11, hr11, ha11⟩ := appends_adds w10 wa.heap.size n2 d2 v10 (Leb.encU x.mem ++ la ++ Leb.encU n2) x.b A2 HO10.out (H2.out.up (HB0.out.trans (HBW.out.mono HB0.out.size))).has HN2.out.symm (by omega) (Nat.le_trans HB9.out.size HB10.out.size)
  have HBX := Lib.hid ((HBa.out.trans (((HB9.out.trans HB10.out).trans (ha11.below (own_ge HO10.out) (Nat.le_trans HB9.out.size HB10.out.size))).mono HBa.out.size)))
  have HR11 := Lib.hid hr11
  have HO11 := Lib.hid ha11.1
  clear hr11 ha11
  have HOK : Hid (daOk x = o2) := Lib.hid HEB.out
  go_wp2_with (at_builtin; refine wpList_appends rfl (.tmp 261) (.tmp 267) 36 rfl _ _ _ w11 rfl rfl HR11.out ?_)
  go_ret2
  rw [HOK.out]
  refine bres_of (N := 3000000000) (HB0.out.trans (HBX.out.mono HB0.out.size)) (own_base HO11.out (Nat.le_trans HB0.out.size HBa.out.size)) (by rw [List.length_append]; omega) (fun e => ?_)
  rw [HXa.out (HEB.out.trans e), ← HN2.out]
  simp [encDa]
set_option maxRecDepth 100000 in
set_option maxHeartbeats 4000000 in
theorem bentry_elems (u0 u1 u2 u3 u4 u5 u6 u7 u8 u10 u11 : Value) (A : Option Addr) (n c : Nat) (xs : List El) (x : El) (i : Nat) (w : World) (h : HasL w (· < w.heap.size) A xs) (hn : xs.length = n) (hx : xs[i]? = some x) (hs : Ins.many x.off ≤ 200000 ∧ x.funcs.length ≤ 100000) :
    Calls Tryz.prog 19 #[.agg #[u0, u1, u2, u3, u4, u5, u6, u7, u8, .slice A n c, u10, u11], .int .u8 9, .int .i64 (i : Int)] w (BResN 3000000000 (elOk x) (encEl x) w) := by
  have hin : i < n := by have := (List.getElem?_eq_some_iff.1 hx).1; omega
  have hii : (i : Int) < (n : Int) := by omega
  obtain ⟨g, o, cs, rfl, _, hg, ⟨_, _, rfl, hxn, ⟨A1, d1, rfl, hc1, _, _, h1⟩, ⟨A2, d2, rfl, hc2, _, _, h2⟩⟩, k⟩ := h i x hx
  have hsz : Lay.size El = 3 := rfl
  rw [hsz] at k
  have c0 := k 0 _ rfl
  have c1 := k 1 _ rfl
  have c2 := k 2 _ rfl
  simp only [Nat.add_zero] at c0
  have HX0 : Hid ((w.alloc (.cells #[u0, u1, u2, u3, u4, u5, u6, u7, u8, .slice (some ⟨g, o, none⟩) n c, u10, u11] 33)).heap[w.heap.size]? = some (.cells #[u0, u1, u2, u3, u4, u5, u6, u7, u8, .slice (some ⟨g, o, none⟩) n c, u10, u11] 33 (0, 0))) := Lib.hid (heap_alloc_new w _)
  have HB0 : Hid (Below w.heap.size w (w.alloc (.cells #[u0, u1, u2, u3, u4, u5, u6, u7, u8, .slice (some ⟨g, o, none⟩) n c, u10, u11] 33))) := Lib.hid ((Below.refl _ _).alloc (Nat.le_refl _) _)
  have HS0 : Hid ((w.alloc (.cells #[u0, u1, u2, u3, u4, u5, u6, u7, u8, .slice (some ⟨g, o, none⟩) n c, u10, u11] 33)).heap.size = w.heap.size + 1) := Lib.hid (by simp)
  obtain ⟨n1, hn1⟩ : ∃ n, x.off.length = n := ⟨_, rfl⟩
  obtain ⟨n2, hn2⟩ : ∃ n, x.funcs.length = n := ⟨_, rfl⟩
  rw [hn1] at c1
  rw [hn2] at c2
  have H1 := Lib.hid h1
  have H2 := Lib.hid h2
  have HN1 := Lib.hid hn1
  have HN2 := Lib.hid hn2
  clear h1 h2 hn1 hn2 hc1 hc2
  clear h hn hx k hin hsz
  go_enter Tryz.func19, Tryz.ntmps19
  go_upto_region 1 with fail
  generalize (w.alloc (.cells #[u0, u1, u2, u3, u4, u5, u6, u7, u8, .slice (some ⟨g, o, none⟩) n c, u10, u11] 33)) = w0 at HX0 HB0 HS0 ⊢
  have HXB : Hid (∀ W, Below w0.heap.size w0 W → W.heap[w.heap.size]? = some (.cells #[u0, u1, u2, u3, u4, u5, u6, u7, u8, .slice (some ⟨g, o, none⟩) n c, u10, u11] 33 (0, 0))) := Lib.hid (fun W hb => (hb.block w.heap.size (by have := HS0.out; omega)).trans HX0.out)
  have HALL : Hid (∀ W, Below w0.heap.size w0 W → W.cell? ⟨w.heap.size, 9, none⟩ = some (.slice (some ⟨g, o, none⟩) n c) ∧ W.cell? ⟨g, o + i * 3, none⟩ = some (.int .u32 (x.table : Int)) ∧ W.cell? ⟨g, o + i * 3 + 1, none⟩ = some (.slice A1 n1 d1) ∧ W.cell? ⟨g, o + i * 3 + 2, none⟩ = some (.slice A2 n2 d2)) := Lib.hid (fun W hb => ⟨by rw [cell_of_row W _ 9 _ _ (0, 0) (HXB.out W hb)]; rfl, ((HB0.out.trans (hb.mono HB0.out.size)).cell (p := ⟨g, o + i * 3, none⟩) hg).trans c0, ((HB0.out.trans (hb.mono HB0.out.size)).cell (p := ⟨g, o + i * 3 + 1, none⟩) hg).trans c1, ((HB0.out.trans (hb.mono HB0.out.size)).cell (p := ⟨g, o + i * 3 + 2, none⟩) hg).trans c2⟩)
  clear c0 c1 c2 hg
  obtain ⟨p, q0, q1, q2⟩ := HALL.out w0 (Below.refl _ _)
  have hwx : IntKind.u64.wrap (x.table : Int) = (x.table : Int) := IntWalk.u64_in _ (by omega)
  have hwn : IntKind.u64.wrap (n2 : Int) = (n2 : Int) := IntWalk.u64_in _ (by have := HN2.out; omega)
  have hlx := Leb.encU_le10 x.table (by omega)
  have hln := Leb.encU_le10 n2 (by have := HN2.out; omega)
  have HV1 := Lib.hid (rexpr2_any A1 x.off n1 d1 w0 (H1.out.up HB0.out).ins HN1.out.symm hs.1)
  have HV2 := Lib.hid (fun W => bU_any x.table W (by omega))
  have HV3 := Lib.hid (fun W => bU_any n2 W (by have := HN2.out; omega))
  obtain ⟨o2, ho2⟩ : ∃ b, exprB x.off = b := ⟨_, rfl⟩
  have HEB := Lib.hid ho2
  clear ho2
  go_upto_region 25 with (go_at_call 37; refine HV1.out.mono ?_; rintro e wa ⟨hba, va, la, hea, hoa, hla, hxa⟩; rw [HEB.out] at hea; subst hea; have HOa := Lib.hid hoa; have HBa := Lib.hid hba; have HXa := Lib.hid hxa; clear hoa hba hxa)
  obtain ⟨p', q0', q1', q2'⟩ := HALL.out wa HBa.out
  go_upto_region 26 with (first | (go_at_call 18; refine (HV2.out _).mono ?_; rintro e wb ⟨vb, rfl, hob, hbb⟩; obtain ⟨A7, d7, n7, v9, w9, h79, hr9, ha9⟩ := own_app wb wa.heap.size w0.heap.size vb va _ la hob (own_up HOa.out hbb (Nat.le_refl _)) (by omega) hbb.size; subst h79; have hb9 := hbb.trans (ha9.below (own_ge hob) hbb.size); have HR9 := Lib.hid hr9; have HO9 := Lib.hid ha9.1; have HB9 := Lib.hid hb9; clear hob hbb hr9 ha9 hb9) | (at_builtin; refine wpList_appends rfl (.tmp 180) (.tmp 181) 36 rfl _ _ _ w9 rfl rfl HR9.out ?_))
  obtain ⟨p'', q0'', q1'', q2''⟩ := HALL.out w9 (HBa.out.trans (HB9.out.mono HBa.out.size))
  have hl9 : (Leb.encU x.table ++ la).length ≤ 20000010 := by rw [List.length_append]; omega
  go_upto_region 28 with (first | (go_at_call 18; refine (HV3.out _).mono ?_; rintro e wc ⟨vc, rfl, hoc, hbc⟩; obtain ⟨A8, d8, n8, v10, w10, h80, hr10, ha10⟩ := own_app wc wa.heap.size w9.heap.size v9 vc _ _ (own_up HO9.out hbc (Nat.le_refl _)) hoc (by omega) (Nat.le_trans HB9.out.size hbc.size); subst h80; have hb10 := (hbc.mono HB9.out.size).trans (ha10.below (own_ge (own_up HO9.out hbc (Nat.le_refl _))) (Nat.le_trans HB9.out.size hbc.size)); have HR10 := Lib.hid hr10; have HO10 := Lib.hid ha10.1; have HB10 := Lib.hid hb10; clear hoc hbc hr10 ha10 hb10) | (at_builtin; refine wpList_appends rfl (.tmp 183) (.tmp 192) 36 rfl _ _ _ w10 rfl rfl HR10.out ?_))
  have HBW := Lib.hid (HBa.out.trans ((HB9.out.trans HB10.out).mono HBa.out.size))
  have hl10 : (Leb.encU x.table ++ la ++ Leb.encU n2).length ≤ 20000020 := by rw [List.length_append]; omega
  have HO := Lib.hid (own_base HO10.out HBa.out.size)
  have hn2b : n2 ≤ 100000 := by have := HN2.out; omega
  have HXE : Hid (exprB x.off = true → Leb.encU x.table ++ la ++ Leb.encU n2 ++ x.funcs.flatMap Leb.encU = encEl x) := Lib.hid (fun e => by
    rw [HXa.out e, ← HN2.out]
    simp [encEl, encNums, encList])
  clear p' q0' q1' q2' p'' q0'' q1'' q2''
  obtain ⟨E, hE⟩ : ∃ E, Leb.encU x.table ++ la ++ Leb.encU n2 = E := ⟨_, rfl⟩
  rw [hE] at HO HXE hl10
  clear hE HR9 HR10 HO9 HO10
  go_loopw [22, 23] (fun u k wr => ∃ j : Nat, j ≤ n2 ∧ k = .int .i64 (j : Int) ∧ Hid (wr.ownsRow w0.heap.size 5 1 u (E ++ (x.funcs.take j).flatMap Leb.encU).length (bytesOf (E ++ (x.funcs.take j).flatMap Leb.encU))) ∧ Hid (Below w0.heap.size w0 wr)) (fun _ k _ => n2 - (intOf k).toNat)
  case atStart => exact ⟨0, by omega, rfl, Lib.hid (by simpa using HO.out), HBW⟩
  case round =>
    obtain ⟨j, hj, rfl, HOj, HBj⟩ := hrel
    obtain ⟨p4, q04, q14, q24⟩ := HALL.out wr HBj.out
    by_cases hjn : j < n2
    · obtain ⟨y, hy⟩ : ∃ y, x.funcs[j]? = some y := ⟨_, List.getElem?_eq_getElem (by have := HN2.out; omega)⟩
      obtain ⟨g2, o5, cs2, rfl, _, hg2, ⟨rfl, hyn⟩, k2⟩ := (H2.out.up HB0.out) j y hy
      have hsz : Lay.size Nat = 1 := rfl
      rw [hsz] at k2
      simp only [Nat.mul_one] at k2
      have y0 := (HBj.out.cell (p := ⟨g2, o5 + j + 0, none⟩) hg2).trans (k2 0 _ rfl)
      simp only [Nat.add_zero] at y0
      have hji : (j : Int) < (n2 : Int) := by omega
      have hwy : IntKind.u64.wrap (y : Int) = (y : Int) := IntWalk.u64_in _ (by omega)
      have hly := Leb.encU_le10 y (by omega)
      have htk : x.funcs.take (j + 1) = x.funcs.take j ++ [y] := by rw [List.take_add_one, hy]; rfl
      have hol : (E ++ (x.funcs.take j).flatMap Leb.encU).length ≤ 20000020 + 10 * j := by
        have h2 := flat10 (x.funcs.take j) (fun z hz => by
          obtain ⟨q, hq⟩ := List.mem_iff_getElem?.1 (List.mem_of_mem_take hz)
          obtain ⟨_, _, _, _, _, _, hr, _⟩ := H2.out q z hq
          exact hr.2)
        have h3 : (x.funcs.take j).length ≤ j := by rw [List.length_take]; omega
        rw [List.length_append]
        omega
      have HTK : Hid (E ++ (x.funcs.take j).flatMap Leb.encU ++ Leb.encU y = E ++ (x.funcs.take (j + 1)).flatMap Leb.encU) := Lib.hid (by rw [htk]; simp)
      have HQ := Lib.hid (bU_adds w0.heap.size u22 (E ++ (x.funcs.take j).flatMap Leb.encU) y wr HOj.out HBj.out.size (by omega) (by omega))
      clear hy hsz k2 htk hg2
      go_wp2_with (first | (go_at_call 18; refine HQ.out.mono ?_; rintro e wf ⟨Af, cf, mf, w4, v4, rfl, hr, ha4, hbf⟩; have HR := Lib.hid hr; have HA4 := Lib.hid ha4; clear hr ha4 hbf) | (at_builtin; refine wpList_appends rfl (.tmp 205) (.tmp 216) 36 rfl _ _ _ w4 rfl rfl HR.out ?_))
      go_roundw
      case rel =>
        have h := HA4.out
        rw [HTK.out] at h
        refine ⟨j + 1, ?_, by go_num, Lib.hid h.1, Lib.hid (HBj.out.trans (h.below (own_ge HOj.out) HBj.out.size))⟩
        omega
      case measure => simp [intOf]; omega
    · obtain rfl : j = n2 := by omega
      have hall : x.funcs.take j = x.funcs := by rw [List.take_of_length_le (by rw [HN2.out]; omega)]
      have hO := HOj.out
      rw [hall] at hO
      have hfl := flat10 x.funcs (fun z hz => by
        obtain ⟨q, hq⟩ := List.mem_iff_getElem?.1 hz
        obtain ⟨_, _, _, _, _, _, hr, _⟩ := H2.out q z hq
        exact hr.2)
      have hol : (E ++ x.funcs.flatMap Leb.encU).length ≤ 3000000000 := by rw [List.length_append]; have := HN2.out; omega
      have HO5 := Lib.hid hO
      have HOK : Hid (elOk x = o2) := Lib.hid HEB.out
      clear hO hall hfl
      go_wp2_with fail
      go_ret2
      rw [HOK.out]
      exact bres_of (N := 3000000000) (HB0.out.trans (HBj.out.mono HB0.out.size)) (own_base HO5.out HB0.out.size) hol (fun e => HXE.out (HEB.out.trans e))
set_option maxRecDepth 100000 in
set_option maxHeartbeats 4000000 in
theorem bentry_exports (u0 u1 u2 u3 u4 u5 u7 u8 u9 u10 u11 : Value) (A : Option Addr) (n c : Nat) (xs : List Exp) (x : Exp) (i : Nat) (w : World) (h : HasL w (· < w.heap.size) A xs) (hn : xs.length = n) (hx : xs[i]? = some x) (hs : x.name.length ≤ 1000000) :
    Calls Tryz.prog 19 #[.agg #[u0, u1, u2, u3, u4, u5, .slice A n c, u7, u8, u9, u10, u11], .int .u8 7, .int .i64 (i : Int)] w (BResN 3000000000 (expOk x) (encExp x) w) := by
  have hin : i < n := by have := (List.getElem?_eq_some_iff.1 hx).1; omega
  have hii : (i : Int) < (n : Int) := by omega
  obtain ⟨g, o, cs, rfl, _, hg, ⟨rfl, hxn⟩, k⟩ := h i x hx
  have hsz : Lay.size Exp = 3 := rfl
  rw [hsz] at k
  have c0 := k 0 _ rfl
  have c1 := k 1 _ rfl
  have c2 := k 2 _ rfl
  simp only [Nat.add_zero] at c0
  have HX0 : Hid ((w.alloc (.cells #[u0, u1, u2, u3, u4, u5, .slice (some ⟨g, o, none⟩) n c, u7, u8, u9, u10, u11] 33)).heap[w.heap.size]? = some (.cells #[u0, u1, u2, u3, u4, u5, .slice (some ⟨g, o, none⟩) n c, u7, u8, u9, u10, u11] 33 (0, 0))) := Lib.hid (heap_alloc_new w _)
  have HB0 : Hid (Below w.heap.size w (w.alloc (.cells #[u0, u1, u2, u3, u4, u5, .slice (some ⟨g, o, none⟩) n c, u7, u8, u9, u10, u11] 33))) := Lib.hid ((Below.refl _ _).alloc (Nat.le_refl _) _)
  have HS0 : Hid ((w.alloc (.cells #[u0, u1, u2, u3, u4, u5, .slice (some ⟨g, o, none⟩) n c, u7, u8, u9, u10, u11] 33)).heap.size = w.heap.size + 1) := Lib.hid (by simp)
  clear h hn hx k hin hsz
  go_enter Tryz.func19, Tryz.ntmps19
  go_upto_region 1 with fail
  generalize (w.alloc (.cells #[u0, u1, u2, u3, u4, u5, .slice (some ⟨g, o, none⟩) n c, u7, u8, u9, u10, u11] 33)) = w0 at HX0 HB0 HS0 ⊢
  have HXB : Hid (∀ W, Below w0.heap.size w0 W → W.heap[w.heap.size]? = some (.cells #[u0, u1, u2, u3, u4, u5, .slice (some ⟨g, o, none⟩) n c, u7, u8, u9, u10, u11] 33 (0, 0))) := Lib.hid (fun W hb => (hb.block w.heap.size (by have := HS0.out; omega)).trans HX0.out)
  have HALL : Hid (∀ W, Below w0.heap.size w0 W → W.cell? ⟨w.heap.size, 6, none⟩ = some (.slice (some ⟨g, o, none⟩) n c) ∧ W.cell? ⟨g, o + i * 3, none⟩ = some (strV x.name) ∧ W.cell? ⟨g, o + i * 3 + 1, none⟩ = some (.int .u8 (x.kind.toNat : Int)) ∧ W.cell? ⟨g, o + i * 3 + 2, none⟩ = some (.int .u32 (x.index : Int))) := Lib.hid (fun W hb => ⟨by rw [cell_of_row W _ 6 _ _ (0, 0) (HXB.out W hb)]; rfl, ((HB0.out.trans (hb.mono HB0.out.size)).cell (p := ⟨g, o + i * 3, none⟩) hg).trans c0, ((HB0.out.trans (hb.mono HB0.out.size)).cell (p := ⟨g, o + i * 3 + 1, none⟩) hg).trans c1, ((HB0.out.trans (hb.mono HB0.out.size)).cell (p := ⟨g, o + i * 3 + 2, none⟩) hg).trans c2⟩)
  clear c0 c1 c2 hg
  obtain ⟨p, q0, q1, q2⟩ := HALL.out w0 (Below.refl _ _)
  obtain ⟨B1, hB1⟩ : ∃ B : ByteArray, B = ⟨x.name.toArray⟩ := ⟨_, rfl⟩
  have hsz1 : B1.size = x.name.length := by rw [hB1]; simp [ByteArray.size]
  have hd1 : B1.data.toList = x.name := by rw [hB1]
  have HT1 := Lib.hid (fun W => btext_any x.name W (by omega))
  have HV1 := Lib.hid (fun W => bytes_ofE W B1 (by unfold maxLen; omega))
  unfold strV at q0
  rw [← hB1] at HT1 q0
  rw [hd1, hsz1] at HV1
  clear hB1 hsz1 hd1
  have hE1 : (encName x.name).length ≤ 1000010 := by have := Leb.encU_le10 x.name.length (by omega); simp [encName]; omega
  obtain ⟨n1, hn1⟩ : ∃ n, x.name.length = n := ⟨_, rfl⟩
  rw [hn1] at HV1 hs
  have HN1 := Lib.hid hn1
  clear hn1
  have hwx : IntKind.u64.wrap (x.index : Int) = (x.index : Int) := IntWalk.u64_in _ (by omega)
  have hlx := Leb.encU_le10 x.index (by omega)
  have HV2 := Lib.hid (fun W => bU_any x.index W (by omega))
  go_upto_region 21 with fail
  have HX1 : Hid ((w0.alloc (.cells #[.string B1, .int .u8 (x.kind.toNat : Int), .int .u32 (x.index : Int)] 66)).heap[w0.heap.size]? = some (.cells #[.string B1, .int .u8 (x.kind.toNat : Int), .int .u32 (x.index : Int)] 66 (0, 0))) := Lib.hid (heap_alloc_new w0 _)
  have HB1 : Hid (Below w0.heap.size w0 (w0.alloc (.cells #[.string B1, .int .u8 (x.kind.toNat : Int), .int .u32 (x.index : Int)] 66))) := Lib.hid ((Below.refl _ _).alloc (Nat.le_refl _) _)
  have HS1 : Hid ((w0.alloc (.cells #[.string B1, .int .u8 (x.kind.toNat : Int), .int .u32 (x.index : Int)] 66)).heap.size = w0.heap.size + 1) := Lib.hid (by simp)
  generalize (w0.alloc (.cells #[.string B1, .int .u8 (x.kind.toNat : Int), .int .u32 (x.index : Int)] 66)) = wx at HX1 HB1 HS1 ⊢
  have HC0 : Hid (∀ W, Below wx.heap.size wx W → (fun W => W.cell? ⟨w0.heap.size, 0, none⟩ = some (.string B1) ∧ W.cell? ⟨w0.heap.size, 1, none⟩ = some (.int .u8 (x.kind.toNat : Int)) ∧ W.cell? ⟨w0.heap.size, 2, none⟩ = some (.int .u32 (x.index : Int))) W) := Lib.hid (fun W hb => by
    have hx := (hb.block w0.heap.size (by have := HS1.out; omega)).trans HX1.out
    exact ⟨by rw [cell_of_row W _ 0 _ _ (0, 0) hx]; rfl, by rw [cell_of_row W _ 1 _ _ (0, 0) hx]; rfl, by rw [cell_of_row W _ 2 _ _ (0, 0) hx]; rfl⟩)
  have HFIN : Hid (∀ (ok : Bool) (W : World) (v : Value), Below wx.heap.size wx W → W.ownsRow wx.heap.size 5 1 v (encName x.name ++ [x.kind] ++ Leb.encU x.index).length (bytesOf (encName x.name ++ [x.kind] ++ Leb.encU x.index)) → BResN 3000000000 ok (encExp x) w (.returned (.tuple #[v, .bool ok])) W) := Lib.hid (fun ok W v hb ho => bres_of (N := 3000000000) (HB0.out.trans ((HB1.out.trans (hb.mono HB1.out.size)).mono HB0.out.size)) (own_base ho (Nat.le_trans HB0.out.size HB1.out.size)) (by rw [List.length_append, List.length_append]; simp; omega) (fun _ => by simp [encExp]))
  clear p q0 q1 q2 HX0 HXB HALL HX1
  refine wp_region_held_drew (S := (fun W => W.cell? ⟨w0.heap.size, 0, none⟩ = some (.string B1) ∧ W.cell? ⟨w0.heap.size, 1, none⟩ = some (.int .u8 (x.kind.toNat : Int)) ∧ W.cell? ⟨w0.heap.size, 2, none⟩ = some (.int .u32 (x.index : Int)))) (by kernel_rfl) (HC0.out _ (Below.drew (Below.refl _ _))) (fun hHeld => ?_)
  refine dt 0 rfl (v := ?_) ?_ ?_
  rotate_left
  · (intro wy hSw; (try dsimp only at hSw); go_simp; try with_reducible rfl)
  simp only [Act.put, List.setIfInBounds_toArray, List.set_cons_zero, List.set_cons_succ]
  refine dt 1 rfl (v := ?_) ?_ ?_
  rotate_left
  · (intro wy hSw; (try dsimp only at hSw); obtain ⟨s0, s1, s2⟩ := hSw; go_simp; try with_reducible rfl)
  simp only [Act.put, List.setIfInBounds_toArray, List.set_cons_zero, List.set_cons_succ]
  refine dt 3 rfl (v := ?_) ?_ ?_
  rotate_left
  · (intro wy hSw; (try dsimp only at hSw); go_simp; try with_reducible rfl)
  simp only [Act.put, List.setIfInBounds_toArray, List.set_cons_zero, List.set_cons_succ]
  refine dt 4 rfl (v := ?_) ?_ ?_
  rotate_left
  · (intro wy hSw; (try dsimp only at hSw); obtain ⟨s0, s1, s2⟩ := hSw; go_simp; try with_reducible rfl)
  simp only [Act.put, List.setIfInBounds_toArray, List.set_cons_zero, List.set_cons_succ]
  refine dt 7 rfl (v := ?_) ?_ ?_
  rotate_left
  · (intro wy hSw; (try dsimp only at hSw); go_simp; try with_reducible rfl)
  simp only [Act.put, List.setIfInBounds_toArray, List.set_cons_zero, List.set_cons_succ]
  refine dt 8 rfl (v := ?_) ?_ ?_
  rotate_left
  · (intro wy hSw; (try dsimp only at hSw); obtain ⟨s0, s1, s2⟩ := hSw; go_simp; try with_reducible rfl)
  simp only [Act.put, List.setIfInBounds_toArray, List.set_cons_zero, List.set_cons_succ]
  refine dt 9 rfl (v := ?_) ?_ ?_
  rotate_left
  · (intro wy hSw; (try dsimp only at hSw); obtain ⟨s0, s1, s2⟩ := hSw; go_simp; try with_reducible rfl)
  simp only [Act.put, List.setIfInBounds_toArray, List.set_cons_zero, List.set_cons_succ]
  refine drawn_two 2 5 rfl rfl (by kernel_rfl) (fun K hK => ?_) (fun K hK => ?_)
  · go_simp
    refine (HT1.out _).mono ?_
    rintro e wa ⟨va, rfl, hoa, hba⟩
    have hbw : Below wx.heap.size wx wa := (Below.drew (Below.refl _ _)).trans hba
    obtain ⟨v9, w9, hr9, ha9⟩ := append1_adds wa wx.heap.size va (encName x.name) x.kind hoa (by omega) hbw.size
    have HR9 := Lib.hid hr9
    have HO9 := Lib.hid ha9.1
    have HB9 := Lib.hid (hbw.trans (ha9.below (own_ge hoa) hbw.size))
    have HBA := Lib.hid hbw
    clear hr9 ha9 hbw hoa hba
    go_wp2_with fail
    refine hK.out _ _ (HC0.out _ HBA.out) (fun hHeld2 => ?_)
    clear hK K hHeld
    have hHeld := hHeld2
    clear hHeld2
    try simp only [Act.put, List.setIfInBounds_toArray, List.set_cons_zero, List.set_cons_succ]
    refine drawn_sole 5 rfl (by kernel_rfl) (fun K hK => ?_)
    go_simp
    refine hK.out _ _ (HC0.out _ (HBA.out.alloc HBA.out.size _)) (fun hHeld2 => ?_)
    clear hK K hHeld
    have hHeld := hHeld2
    clear hHeld2
    try simp only [Act.put, List.setIfInBounds_toArray, List.set_cons_zero, List.set_cons_succ]
    refine drawn_sole 6 rfl (by kernel_rfl) (fun K hK => ?_)
    rw [if_pos]
    case hc => rfl
    refine wp_appendE (.tmp 141) (.tmp 144) 36 rfl _ _ _ w9 rfl rfl HR9.out ?_
    refine hK.out _ _ (HC0.out _ HB9.out) (fun hHeld2 => ?_)
    clear hK K hHeld
    have hHeld := hHeld2
    clear hHeld2
    try simp only [Act.put, List.setIfInBounds_toArray, List.set_cons_zero, List.set_cons_succ]
    refine drawn_sole 10 rfl (by kernel_rfl) (fun K hK => ?_)
    go_simp
    refine (HV2.out _).mono ?_
    rintro e wb ⟨vb, rfl, hob, hbb⟩
    obtain ⟨A8, d8, n8, v10, w10, h80, hr10, ha10⟩ := own_app wb wx.heap.size w9.heap.size v9 vb _ _ (own_up HO9.out hbb (Nat.le_refl _)) hob (by rw [List.length_append]; simp; omega) (Nat.le_trans HB9.out.size hbb.size)
    rw [← h80] at hr10
    clear h80
    have HR10 := Lib.hid hr10
    have HO10 := Lib.hid ha10.1
    have hbz := HB9.out.trans (hbb.mono HB9.out.size)
    have HBB := Lib.hid hbz
    have HB10 := Lib.hid (hbz.trans (ha10.below (own_ge (own_up HO9.out hbb (Nat.le_refl _))) hbz.size))
    clear hbz hr10 ha10 hob hbb
    go_wp2_with fail
    refine hK.out _ _ (HC0.out _ HBB.out) (fun hHeld2 => ?_)
    clear hK K hHeld
    have hHeld := hHeld2
    clear hHeld2
    try simp only [Act.put, List.setIfInBounds_toArray, List.set_cons_zero, List.set_cons_succ]
    refine drawn_sole 11 rfl (by kernel_rfl) (fun K hK => ?_)
    rw [if_pos]
    case hc => rfl
    refine wp_appendE (.tmp 145) (.tmp 149) 36 rfl _ _ _ w10 rfl rfl HR10.out ?_
    refine hK.out _ _ (HC0.out _ HB10.out) (fun hHeld2 => ?_)
    clear hK K hHeld
    have hHeld := hHeld2
    clear hHeld2
    try simp only [Act.put, List.setIfInBounds_toArray, List.set_cons_zero, List.set_cons_succ]
    refine dt 12 rfl (v := ?_) ?_ ?_
    rotate_left
    · (intro wy hSw; (try dsimp only at hSw); go_simp; try with_reducible rfl)
    simp only [Act.put, List.setIfInBounds_toArray, List.set_cons_zero, List.set_cons_succ]
    refine wpAnyH_done (by kernel_rfl) ?_ _
    clear hHeld HR9 HR10 HO9 HB9 HBA HBB
    go_upto_region 22 with fail
    obtain ⟨r0, r1, r2⟩ := HC0.out w10 HB10.out
    by_cases hk : x.kind.toNat < 4
    · have hki : ((x.kind.toNat : Int) < 4) := by omega
      obtain ⟨A5, c5, w5, hr5, hnc5, hcm5, hh5, hb5⟩ := HV1.out w10
      have HVA := Lib.hid (rvalid_any A5 x.name n1 c5 w5 HN1.out.symm hs hnc5 (by unfold maxLen at hcm5; omega) hh5)
      have HB5 := Lib.hid hb5
      clear hh5 hb5 hnc5 hcm5
      have HOK : Hid (expOk x = U8.text x.name) := Lib.hid (by unfold expOk; rw [decide_eq_true hk]; rfl)
      obtain ⟨tb, htb⟩ : ∃ t, U8.text x.name = t := ⟨_, rfl⟩
      rw [htb] at HVA HOK
      clear htb hk
      go_wp2_with (go_at_call 39; refine HVA.out.mono ?_; rintro e wq ⟨rfl, rfl⟩)
      all_goals
        go_ret2
        rw [HOK.out]
        exact HFIN.out _ _ _ (HB10.out.trans (HB5.out.mono HB10.out.size)) (own_up HO10.out HB5.out (Nat.le_refl _))
    · have hki : ¬ ((x.kind.toNat : Int) < 4) := by omega
      have HOK : Hid (expOk x = false) := Lib.hid (by unfold expOk; rw [decide_eq_false hk]; rfl)
      clear hk
      go_wp2_with fail
      go_ret2
      rw [HOK.out]
      exact HFIN.out _ _ _ HB10.out HO10.out
  · go_simp
    refine hK.out _ _ (HC0.out _ ((Below.drew (Below.refl _ _)).alloc (Nat.le_refl _) _)) (fun hHeld2 => ?_)
    clear hK K hHeld
    have hHeld := hHeld2
    clear hHeld2
    try simp only [Act.put, List.setIfInBounds_toArray, List.set_cons_zero, List.set_cons_succ]
    refine drawn_sole 2 rfl (by kernel_rfl) (fun K hK => ?_)
    go_simp
    refine (HT1.out _).mono ?_
    rintro e wa ⟨va, rfl, hoa, hba⟩
    have hb1 : Below wx.heap.size wx (wx.drew.alloc (.cells #[.int .u8 (x.kind.toNat : Int)] 5)) := (Below.drew (Below.refl _ _)).alloc (Nat.le_refl _) _
    have hbw : Below wx.heap.size wx wa := hb1.trans (hba.mono hb1.size)
    have hlo := own_up (base' := wx.heap.size) (own_lit1 wx.drew wx.heap.size x.kind.toNat (UInt8.toNat_lt x.kind) (Nat.le_refl _)) hba (Nat.le_refl _)
    obtain ⟨A8, d8, n8, v9, w9, h89, hr9, ha9⟩ := own_app wa (wx.drew.alloc (.cells #[.int .u8 (x.kind.toNat : Int)] 5)).heap.size wx.heap.size va _ (encName x.name) _ hoa hlo (by simp; omega) hba.size
    rw [← h89] at hr9
    clear h89
    rw [UInt8.ofNat_toNat] at ha9
    have HR9 := Lib.hid hr9
    have HO9 := Lib.hid (own_base ha9.1 hb1.size)
    have HB9 := Lib.hid (hbw.trans ((ha9.below (own_ge hoa) hba.size).mono hb1.size))
    have HBA := Lib.hid hbw
    clear hr9 ha9 hbw hoa hba hlo hb1
    go_wp2_with fail
    refine hK.out _ _ (HC0.out _ HBA.out) (fun hHeld2 => ?_)
    clear hK K hHeld
    have hHeld := hHeld2
    clear hHeld2
    try simp only [Act.put, List.setIfInBounds_toArray, List.set_cons_zero, List.set_cons_succ]
    refine drawn_sole 6 rfl (by kernel_rfl) (fun K hK => ?_)
    rw [if_pos]
    case hc => rfl
    refine wp_appendE (.tmp 141) (.tmp 144) 36 rfl _ _ _ w9 rfl rfl HR9.out ?_
    refine hK.out _ _ (HC0.out _ HB9.out) (fun hHeld2 => ?_)
    clear hK K hHeld
    have hHeld := hHeld2
    clear hHeld2
    try simp only [Act.put, List.setIfInBounds_toArray, List.set_cons_zero, List.set_cons_succ]
    refine drawn_sole 10 rfl (by kernel_rfl) (fun K hK => ?_)
    go_simp
    refine (HV2.out _).mono ?_
    rintro e wb ⟨vb, rfl, hob, hbb⟩
    obtain ⟨A8, d8, n8, v10, w10, h80, hr10, ha10⟩ := own_app wb wx.heap.size w9.heap.size v9 vb _ _ (own_up HO9.out hbb (Nat.le_refl _)) hob (by rw [List.length_append]; simp; omega) (Nat.le_trans HB9.out.size hbb.size)
    rw [← h80] at hr10
    clear h80
    have HR10 := Lib.hid hr10
    have HO10 := Lib.hid ha10.1
    have hbz := HB9.out.trans (hbb.mono HB9.out.size)
    have HBB := Lib.hid hbz
    have HB10 := Lib.hid (hbz.trans (ha10.below (own_ge (own_up HO9.out hbb (Nat.le_refl _))) hbz.size))
    clear hbz hr10 ha10 hob hbb
    go_wp2_with fail
    refine hK.out _ _ (HC0.out _ HBB.out) (fun hHeld2 => ?_)
    clear hK K hHeld
    have hHeld := hHeld2
    clear hHeld2
    try simp only [Act.put, List.setIfInBounds_toArray, List.set_cons_zero, List.set_cons_succ]
    refine drawn_sole 11 rfl (by kernel_rfl) (fun K hK => ?_)
    rw [if_pos]
    case hc => rfl
    refine wp_appendE (.tmp 145) (.tmp 149) 36 rfl _ _ _ w10 rfl rfl HR10.out ?_
    refine hK.out _ _ (HC0.out _ HB10.out) (fun hHeld2 => ?_)
    clear hK K hHeld
    have hHeld := hHeld2
    clear hHeld2
    try simp only [Act.put, List.setIfInBounds_toArray, List.set_cons_zero, List.set_cons_succ]
    refine dt 12 rfl (v := ?_) ?_ ?_
    rotate_left
    · (intro wy hSw; (try dsimp only at hSw); go_simp; try with_reducible rfl)
    simp only [Act.put, List.setIfInBounds_toArray, List.set_cons_zero, List.set_cons_succ]
    refine wpAnyH_done (by kernel_rfl) ?_ _
    clear hHeld HR9 HR10 HO9 HB9 HBA HBB
    go_upto_region 22 with fail
    obtain ⟨r0, r1, r2⟩ := HC0.out w10 HB10.out
    by_cases hk : x.kind.toNat < 4
    · have hki : ((x.kind.toNat : Int) < 4) := by omega
      obtain ⟨A5, c5, w5, hr5, hnc5, hcm5, hh5, hb5⟩ := HV1.out w10
      have HVA := Lib.hid (rvalid_any A5 x.name n1 c5 w5 HN1.out.symm hs hnc5 (by unfold maxLen at hcm5; omega) hh5)
      have HB5 := Lib.hid hb5
      clear hh5 hb5 hnc5 hcm5
      have HOK : Hid (expOk x = U8.text x.name) := Lib.hid (by unfold expOk; rw [decide_eq_true hk]; rfl)
      obtain ⟨tb, htb⟩ : ∃ t, U8.text x.name = t := ⟨_, rfl⟩
      rw [htb] at HVA HOK
      clear htb hk
      go_wp2_with (go_at_call 39; refine HVA.out.mono ?_; rintro e wq ⟨rfl, rfl⟩)
      all_goals
        go_ret2
        rw [HOK.out]
        exact HFIN.out _ _ _ (HB10.out.trans (HB5.out.mono HB10.out.size)) (own_up HO10.out HB5.out (Nat.le_refl _))
    · have hki : ¬ ((x.kind.toNat : Int) < 4) := by omega
      have HOK : Hid (expOk x = false) := Lib.hid (by unfold expOk; rw [decide_eq_false hk]; rfl)
      clear hk
      go_wp2_with fail
      go_ret2
      rw [HOK.out]
      exact HFIN.out _ _ _ HB10.out HO10.out
end Go.Proofs.YtgnbkfkiigcdgaaGreatDoor
