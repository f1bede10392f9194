/-
  The document's answer for layer 7: the bytes of limits and of globals' types. (gen/encref.py)
-/
import Derived.Test.YtgnbkfkiigcdgaaGreatDoorP07
import Derived.Test.YtgnbkfkiigcdgaaGreatDoorP10
import Derived.Laws.OwnMore
import Derived.Test.YtgnbkfkiigcdgaaGreatDoorP06
import Derived.Test.YtgnbkfkiigcdgaaGreatDoorP05
import Derived.Deep.Cut
import Derived.Deep.RegionHeld3
namespace Go.Proofs.YtgnbkfkiigcdgaaGreatDoor
open Go.RowKit Ins Bin
def limB (b : Int) : Bool := decide (-1 ≤ b) && decide (b ≤ 4294967295)
theorem wp_appendE {P : Program} {o : Oper} {a : Act} {w : World} {K : Act → World → Prop} {Q : Exit → Act → World → Prop} (s x : Operand) (t : TypeId)
    (ho : o.op = .call { callee := .builtin .append, args := #[s, x], argTypes := #[t, t] }) (v u r : Value) (w' : World) (hs : a.eval s = v) (hx : a.eval x = u)
    (hrun : (Builtin.append_ #[t, t] o.type #[v, u]).run P w = .ok r w') (h : K (a.put o.dst r) w') : o.wp P a w K Q := by
  unfold Oper.wp execOp
  simp only [ho, resolve, invoke, builtin, Sem.run_bind, Sem.run_pure, Result.andThen_ok, List.map_toArray, List.map_cons, List.map_nil, hs, hx, hrun]
  exact h
/-- Two that may come up: the one first, or the other. -/
theorem drawn_two {P : Program} {ops : Array Oper} {Q : Exit → Act → World → Prop} {md : Region.Mode} {S : World → Prop} (i j : Nat) {d : Option Tmp} {op : Op} {ty : TypeId} {pos : String} {af : Array Edge} {g : Option (Nat × Bool)}
    {d2 : Option Tmp} {op2 : Op} {ty2 : TypeId} {pos2 : String} {af2 : Array Edge} {g2 : Option (Nat × Bool)} {fuel : Nat} {listed : Array Bool} {a : Act} {w : World} (hi : ops[i]? = some ⟨d, op, ty, pos, af, g⟩) (hj : ops[j]? = some ⟨d2, op2, ty2, pos2, af2, g2⟩)
    (hr : Region.ready md ops listed = [i, j])
    (h : ∀ K' : Act → World → Prop, Shut (∀ a w, S w → (S w → wpAnyH P md ops Q S fuel (listed.setIfInBounds i true) a w) → K' a w) → if Region.wanted ⟨d, op, ty, pos, af, g⟩ (yielded ops a.tmps) = true then Oper.wp P ⟨d, op, ty, pos, af, g⟩ a w K' Q else K' (a.put d undef) w)
    (h2 : ∀ K' : Act → World → Prop, Shut (∀ a w, S w → (S w → wpAnyH P md ops Q S fuel (listed.setIfInBounds j true) a w) → K' a w) → if Region.wanted ⟨d2, op2, ty2, pos2, af2, g2⟩ (yielded ops a.tmps) = true then Oper.wp P ⟨d2, op2, ty2, pos2, af2, g2⟩ a w K' Q else K' (a.put d2 undef) w) :
    wpAnyH P md ops Q S (fuel + 1) listed a w :=
  wpAnyH_ready hr (by simp) (AllReadyH.cons hi h (AllReadyH.cons hj h2 AllReadyH.nil))
theorem bres_of {N : Nat} {ok : Bool} {l l' : List UInt8} {v : Value} {w w' : World} (hb : Below w.heap.size w w') (ho : w'.ownsRow w.heap.size 5 1 v l'.length (bytesOf l')) (hl : l'.length ≤ N) (h : ok = true → l' = l) : BResN N ok l w (.returned (.tuple #[v, .bool ok])) w' :=
  ⟨hb, v, l', rfl, ho, hl, h⟩
set_option maxRecDepth 100000 in
set_option maxHeartbeats 4000000 in
theorem blims_any (a : Nat) (b : Int) (w : World) (ha : a < 4294967296) (h0 : -9223372036854775808 ≤ b) (h1 : b ≤ 9223372036854775807) :
    Calls Tryz.prog 35 #[.agg #[.int .u32 (a : Int), .int .i64 b]] w (BResN 1000 (limB b) (encLim ⟨a, b⟩) w) := by
  have hwa : IntKind.u64.wrap (a : Int) = (a : Int) := IntWalk.u64_in _ (by omega)
  have HX0 : Hid ((w.alloc (.cells #[.int .u32 (a : Int), .int .i64 b] 57)).heap[w.heap.size]? = some (.cells #[.int .u32 (a : Int), .int .i64 b] 57 (0, 0))) := Lib.hid (heap_alloc_new w _)
  have HB0 : Hid (Below w.heap.size w (w.alloc (.cells #[.int .u32 (a : Int), .int .i64 b] 57))) := Lib.hid ((Below.refl _ _).alloc (Nat.le_refl _) _)
  have hle := Leb.encU_le10 a (by omega)
  by_cases hm : b = -1
  · subst hm
    have HL : Hid (encLim ⟨a, -1⟩ = 0 :: Leb.encU a) := Lib.hid (by unfold encLim; rw [if_pos rfl])
    clear h0 h1
    go_enter Tryz.func35, Tryz.ntmps35
    go_upto_region 1 with fail
    generalize (w.alloc (.cells #[.int .u32 (a : Int), .int .i64 (-1)] 57)) = w0 at HX0 HB0 ⊢
    obtain ⟨y0, y1⟩ : w0.cell? ⟨w.heap.size, 0, none⟩ = some (.int .u32 (a : Int)) ∧ w0.cell? ⟨w.heap.size, 1, none⟩ = some (.int .i64 (-1)) := ⟨by rw [cell_of_row w0 _ 0 _ _ (0, 0) HX0.out]; rfl, by rw [cell_of_row w0 _ 1 _ _ (0, 0) HX0.out]; rfl⟩
    go_upto_region 2 with fail
    have HO1 := Lib.hid (own_lit1 w0 w.heap.size 0 (by omega) HB0.out.size)
    have hx1 : w.heap.size < w0.heap.size := (Array.getElem?_eq_some_iff.1 HX0.out).1
    have z0 : (w0.alloc (.cells #[.int .u8 0] 5)).cell? ⟨w.heap.size, 0, none⟩ = some (.int .u32 (a : Int)) := (World.cell?_alloc_lt _ _ _ hx1).trans y0
    have HQ := Lib.hid (bU_adds w.heap.size (.slice (some ⟨w0.heap.size, 0, none⟩) 1 1) [UInt8.ofNat 0] a (w0.alloc (.cells #[.int .u8 0] 5)) HO1.out (by have := HB0.out.size; simp; omega) (by omega) (by simp))
    have HB1 := Lib.hid (HB0.out.alloc HB0.out.size (.cells #[.int .u8 0] 5))
    clear y0 y1
    go_wp2_with (first | (go_at_call 18; refine HQ.out.mono ?_; rintro e wf ⟨Af, cf, mf, w4, v4, rfl, hr, ha4, _⟩; have HR := Lib.hid hr; have HA4 := Lib.hid ha4; clear hr ha4) | (at_builtin; refine wpList_appends rfl (.tmp 8) (.tmp 12) 36 rfl _ _ _ w4 rfl rfl HR.out ?_))
    go_ret2
    have h := HA4.out
    refine bres_of (HB1.out.trans (h.below (fun g e => by simp [Value.ownBlock] at e; have := HB0.out.size; omega) HB1.out.size)) h.1 (by simp; omega) (fun _ => ?_)
    rw [HL.out]; rfl
  · obtain ⟨X, hX⟩ : ∃ X : Nat, (X : Int) = b % 18446744073709551616 := ⟨(b % 18446744073709551616).toNat, by omega⟩
    have hwb : IntKind.u64.wrap b = (X : Int) := by rw [hX]; simp [IntKind.wrap, IntKind.bits, IntKind.signed]
    have hX2 : X < 18446744073709551616 := by omega
    have hle2 := Leb.encU_le10 X hX2
    have hXb : 0 ≤ b → b.toNat = X := fun h => by omega
    have HXB := Lib.hid hXb
    have HL : Hid (encLim ⟨a, b⟩ = 1 :: (Leb.encU a ++ Leb.encU b.toNat)) := Lib.hid (by unfold encLim; rw [if_neg hm])
    have hne : (b == -1) = false := by rw [beq_eq_false_iff_ne]; exact hm
    have HM := Lib.hid hm
    clear hX hXb hm
    go_enter Tryz.func35, Tryz.ntmps35
    go_upto_region 1 with fail
    generalize (w.alloc (.cells #[.int .u32 (a : Int), .int .i64 b] 57)) = w0 at HX0 HB0 ⊢
    obtain ⟨y0, y1⟩ : w0.cell? ⟨w.heap.size, 0, none⟩ = some (.int .u32 (a : Int)) ∧ w0.cell? ⟨w.heap.size, 1, none⟩ = some (.int .i64 b) := ⟨by rw [cell_of_row w0 _ 0 _ _ (0, 0) HX0.out]; rfl, by rw [cell_of_row w0 _ 1 _ _ (0, 0) HX0.out]; rfl⟩
    go_upto_region 3 with fail
    have HO1 := Lib.hid (own_lit1 w0 w.heap.size 1 (by omega) HB0.out.size)
    have hx1 : w.heap.size < w0.heap.size := (Array.getElem?_eq_some_iff.1 HX0.out).1
    have z0 : (w0.alloc (.cells #[.int .u8 1] 5)).cell? ⟨w.heap.size, 0, none⟩ = some (.int .u32 (a : Int)) := (World.cell?_alloc_lt _ _ _ hx1).trans y0
    have z1 : (w0.alloc (.cells #[.int .u8 1] 5)).cell? ⟨w.heap.size, 1, none⟩ = some (.int .i64 b) := (World.cell?_alloc_lt _ _ _ hx1).trans y1
    have HZ1 := Lib.hid z1
    have HQ := Lib.hid (bU_adds w.heap.size (.slice (some ⟨w0.heap.size, 0, none⟩) 1 1) [UInt8.ofNat 1] a (w0.alloc (.cells #[.int .u8 1] 5)) HO1.out (by have := HB0.out.size; simp; omega) (by omega) (by simp))
    have HB1 := Lib.hid (HB0.out.alloc HB0.out.size (.cells #[.int .u8 1] 5))
    clear y0 y1 z1
    go_upto_region 4 with (first | (go_at_call 18; refine HQ.out.mono ?_; rintro e wf ⟨Af, cf, mf, w4, v4, rfl, hr, ha4, _⟩; have HR := Lib.hid hr; have HA4 := Lib.hid ha4; clear hr ha4) | (at_builtin; refine wpList_appends rfl (.tmp 14) (.tmp 18) 36 rfl _ _ _ w4 rfl rfl HR.out ?_))
    have k1 : w4.cell? ⟨w.heap.size, 1, none⟩ = some (.int .i64 b) := HA4.out.2.1.cell HZ1.out (fun e => by simp [Value.ownBlock] at e; omega)
    have HB4 := Lib.hid (HB1.out.trans (HA4.out.below (fun g e => by simp [Value.ownBlock] at e; have := HB0.out.size; omega) HB1.out.size))
    have HO4 := Lib.hid HA4.out.1
    have hl4 : ([UInt8.ofNat 1] ++ Leb.encU a).length ≤ 100000000000000 := by simp; omega
    have HQ4 := Lib.hid (fun W (hb : Below w4.heap.size w4 W) => bU_adds w.heap.size v4 ([UInt8.ofNat 1] ++ Leb.encU a) X W ((Mod.of_below (T := fun _ => False) hb).own HO4.out (fun _ _ h => h)) (Nat.le_trans HB4.out.size hb.size) hX2 hl4)
    have HFIN : Hid (∀ (ok : Bool) (W W' : World) (v : Value), Below w4.heap.size w4 W → Adds w.heap.size W v4 W' v ([UInt8.ofNat 1] ++ Leb.encU a ++ Leb.encU X) → (ok = true → 0 ≤ b) → BResN 1000 ok (encLim ⟨a, b⟩) w (.returned (.tuple #[v, .bool ok])) W') := Lib.hid (fun ok W W' v hb h hok => by
      refine bres_of (HB4.out.trans ((hb.mono HB4.out.size).trans (h.below (own_ge HO4.out) (Nat.le_trans HB4.out.size hb.size)))) h.1 (by simp; omega) (fun e => ?_)
      rw [HL.out, HXB.out (hok e)]
      simp)
    have HOB : Hid (¬ v4.ownBlock = some w.heap.size) := Lib.hid (fun e => by
      rcases HA4.out.2.2 _ e with h | h
      · simp [Value.ownBlock] at h; omega
      · simp at h; omega)
    clear HQ HR HA4 HZ1 HO1
    by_cases hb0 : b < 0
    · have hg : decide ((0 : Int) ≤ b) = false := decide_eq_false (by omega)
      have hg2 : limB b = false := by
        unfold limB
        rw [decide_eq_false (by have := HM.out; omega : ¬ (-1 ≤ b))]; rfl
      have HOK := Lib.hid hg2
      clear hg2
      refine wp_region_held_drew (S := fun W' => W'.cell? ⟨w.heap.size, 1, none⟩ = some (.int .i64 b)) (by kernel_rfl) (k1) (fun hHeld => ?_)
      refine dt 0 rfl (v := ?_) ?_ ?_
      rotate_left
      · (intro wy hSw; (try dsimp only at hSw); go_simp; try with_reducible rfl)
      simp only [Act.put, List.setIfInBounds_toArray, List.set_cons_zero, List.set_cons_succ]
      refine dt 1 rfl (v := ?_) ?_ ?_
      rotate_left
      · (intro wy hSw; (try dsimp only at hSw); go_simp; try with_reducible rfl)
      simp only [Act.put, List.setIfInBounds_toArray, List.set_cons_zero, List.set_cons_succ]
      refine dt 2 rfl (v := ?_) ?_ ?_
      rotate_left
      · (intro wy hSw; (try dsimp only at hSw); go_simp; try with_reducible rfl)
      simp only [Act.put, List.setIfInBounds_toArray, List.set_cons_zero, List.set_cons_succ]
      refine dt 3 rfl (v := ?_) ?_ ?_
      rotate_left
      · (intro wy hSw; (try dsimp only at hSw); go_simp; try with_reducible rfl)
      simp only [Act.put, List.setIfInBounds_toArray, List.set_cons_zero, List.set_cons_succ]
      refine dt 6 rfl (v := ?_) ?_ ?_
      rotate_left
      · (intro wy hSw; (try dsimp only at hSw); go_simp; try with_reducible rfl)
      simp only [Act.put, List.setIfInBounds_toArray, List.set_cons_zero, List.set_cons_succ]
      refine dt 7 rfl (v := ?_) ?_ ?_
      rotate_left
      · (intro wy hSw; (try dsimp only at hSw); go_simp; try with_reducible rfl)
      simp only [Act.put, List.setIfInBounds_toArray, List.set_cons_zero, List.set_cons_succ]
      refine dt 8 rfl (v := ?_) ?_ ?_
      rotate_left
      · (intro wy hSw; (try dsimp only at hSw); go_simp; try with_reducible rfl)
      simp only [Act.put, List.setIfInBounds_toArray, List.set_cons_zero, List.set_cons_succ]
      refine drawn_sole 4 rfl (by kernel_rfl) (fun K hK => ?_)
      go_simp
      refine (HQ4.out _ (Below.drew (Below.refl _ _))).mono ?_
      rintro e wf ⟨Af, cf, mf, w5, v5, rfl, hr5, ha5, hbf⟩
      have HR5 := Lib.hid hr5
      have HA5 := Lib.hid ha5
      clear hr5 ha5
      have hx4 : w.heap.size < w4.heap.size := World.block_lt_of_cell? w4 _ k1
      have kf : wf.cell? ⟨w.heap.size, 1, none⟩ = some (.int .i64 b) := (hbf.cell (p := ⟨w.heap.size, 1, none⟩) hx4).trans k1
      have k5 : w5.cell? ⟨w.heap.size, 1, none⟩ = some (.int .i64 b) := HA5.out.2.1.cell (show w4.drew.cell? ⟨w.heap.size, 1, none⟩ = _ from k1) (fun e => HOB.out e)
      clear hbf hx4
      go_wp2_with fail
      refine hK.out _ _ kf (fun hHeld2 => ?_)
      clear hK K hHeld hHeld2
      refine drawn_sole 5 rfl (by kernel_rfl) (fun K hK => ?_)
      rw [if_pos]
      case hc => rfl
      refine wp_appendE (.tmp 20) (.tmp 24) 36 rfl _ _ _ w5 rfl rfl HR5.out ?_
      refine hK.out _ _ k5 (fun hHeld2 => ?_)
      clear hK K
      have hHeld := hHeld2
      clear hHeld2
      try simp only [Act.put, List.setIfInBounds_toArray, List.set_cons_zero, List.set_cons_succ]
      refine dt 9 rfl (v := ?_) ?_ ?_
      rotate_left
      · (intro wy hSw; (try dsimp only at hSw); go_simp; try with_reducible rfl)
      simp only [Act.put, List.setIfInBounds_toArray, List.set_cons_zero, List.set_cons_succ]
      refine dt 14 rfl (v := ?_) ?_ ?_
      rotate_left
      · (intro wy hSw; (try dsimp only at hSw); go_simp; try with_reducible rfl)
      simp only [Act.put, List.setIfInBounds_toArray, List.set_cons_zero, List.set_cons_succ]
      refine drawn_skip 10 rfl (by kernel_rfl) (by kernel_rfl) (by kernel_rfl) (fun _ _ _ h => h) (by rfl) (by assumption) ?_
      simp only [Act.put, List.setIfInBounds_toArray, List.set_cons_zero, List.set_cons_succ]
      refine drawn_skip 11 rfl (by kernel_rfl) (by kernel_rfl) (by kernel_rfl) (fun _ _ _ h => h) (by rfl) (by assumption) ?_
      simp only [Act.put, List.setIfInBounds_toArray, List.set_cons_zero, List.set_cons_succ]
      refine drawn_skip 12 rfl (by kernel_rfl) (by kernel_rfl) (by kernel_rfl) (fun _ _ _ h => h) (by rfl) (by assumption) ?_
      simp only [Act.put, List.setIfInBounds_toArray, List.set_cons_zero, List.set_cons_succ]
      refine dt 13 rfl (v := ?_) ?_ ?_
      rotate_left
      · (intro wy hSw; (try dsimp only at hSw); go_simp; try with_reducible rfl)
      simp only [Act.put, List.setIfInBounds_toArray, List.set_cons_zero, List.set_cons_succ]
      refine dt 15 rfl (v := ?_) ?_ ?_
      rotate_left
      · (intro wy hSw; (try dsimp only at hSw); go_simp; try with_reducible rfl)
      simp only [Act.put, List.setIfInBounds_toArray, List.set_cons_zero, List.set_cons_succ]
      refine wpAnyH_done (by kernel_rfl) ?_ _
      go_wp2_with fail
      go_ret2
      rw [HOK.out]
      exact HFIN.out _ _ _ _ (Below.drew (Below.refl _ _)) HA5.out (fun e => by cases e)
    · have hg : decide ((0 : Int) ≤ b) = true := decide_eq_true (by omega)
      have hg0 : (0 : Int) ≤ b := by omega
      have HOK : Hid (limB b = decide (b ≤ 4294967295)) := Lib.hid (by
        unfold limB
        rw [decide_eq_true (by omega : -1 ≤ b)]; rfl)
      refine wp_region_held_drew (S := fun W' => W'.cell? ⟨w.heap.size, 1, none⟩ = some (.int .i64 b)) (by kernel_rfl) (k1) (fun hHeld => ?_)
      refine dt 0 rfl (v := ?_) ?_ ?_
      rotate_left
      · (intro wy hSw; (try dsimp only at hSw); go_simp; try with_reducible rfl)
      simp only [Act.put, List.setIfInBounds_toArray, List.set_cons_zero, List.set_cons_succ]
      refine dt 1 rfl (v := ?_) ?_ ?_
      rotate_left
      · (intro wy hSw; (try dsimp only at hSw); go_simp; try with_reducible rfl)
      simp only [Act.put, List.setIfInBounds_toArray, List.set_cons_zero, List.set_cons_succ]
      refine dt 2 rfl (v := ?_) ?_ ?_
      rotate_left
      · (intro wy hSw; (try dsimp only at hSw); go_simp; try with_reducible rfl)
      simp only [Act.put, List.setIfInBounds_toArray, List.set_cons_zero, List.set_cons_succ]
      refine dt 3 rfl (v := ?_) ?_ ?_
      rotate_left
      · (intro wy hSw; (try dsimp only at hSw); go_simp; try with_reducible rfl)
      simp only [Act.put, List.setIfInBounds_toArray, List.set_cons_zero, List.set_cons_succ]
      refine dt 6 rfl (v := ?_) ?_ ?_
      rotate_left
      · (intro wy hSw; (try dsimp only at hSw); go_simp; try with_reducible rfl)
      simp only [Act.put, List.setIfInBounds_toArray, List.set_cons_zero, List.set_cons_succ]
      refine dt 7 rfl (v := ?_) ?_ ?_
      rotate_left
      · (intro wy hSw; (try dsimp only at hSw); go_simp; try with_reducible rfl)
      simp only [Act.put, List.setIfInBounds_toArray, List.set_cons_zero, List.set_cons_succ]
      refine dt 8 rfl (v := ?_) ?_ ?_
      rotate_left
      · (intro wy hSw; (try dsimp only at hSw); go_simp; try with_reducible rfl)
      simp only [Act.put, List.setIfInBounds_toArray, List.set_cons_zero, List.set_cons_succ]
      refine drawn_sole 4 rfl (by kernel_rfl) (fun K hK => ?_)
      go_simp
      refine (HQ4.out _ (Below.drew (Below.refl _ _))).mono ?_
      rintro e wf ⟨Af, cf, mf, w5, v5, rfl, hr5, ha5, hbf⟩
      have HR5 := Lib.hid hr5
      have HA5 := Lib.hid ha5
      clear hr5 ha5
      have hx4 : w.heap.size < w4.heap.size := World.block_lt_of_cell? w4 _ k1
      have kf : wf.cell? ⟨w.heap.size, 1, none⟩ = some (.int .i64 b) := (hbf.cell (p := ⟨w.heap.size, 1, none⟩) hx4).trans k1
      have k5 : w5.cell? ⟨w.heap.size, 1, none⟩ = some (.int .i64 b) := HA5.out.2.1.cell (show w4.drew.cell? ⟨w.heap.size, 1, none⟩ = _ from k1) (fun e => HOB.out e)
      clear hbf hx4
      go_wp2_with fail
      refine hK.out _ _ kf (fun hHeld2 => ?_)
      clear hK K hHeld hHeld2
      refine drawn_sole 5 rfl (by kernel_rfl) (fun K hK => ?_)
      rw [if_pos]
      case hc => rfl
      refine wp_appendE (.tmp 20) (.tmp 24) 36 rfl _ _ _ w5 rfl rfl HR5.out ?_
      refine hK.out _ _ k5 (fun hHeld2 => ?_)
      clear hK K
      have hHeld := hHeld2
      clear hHeld2
      try simp only [Act.put, List.setIfInBounds_toArray, List.set_cons_zero, List.set_cons_succ]
      refine dt 9 rfl (v := ?_) ?_ ?_
      rotate_left
      · (intro wy hSw; (try dsimp only at hSw); go_simp; try with_reducible rfl)
      simp only [Act.put, List.setIfInBounds_toArray, List.set_cons_zero, List.set_cons_succ]
      refine dt 14 rfl (v := ?_) ?_ ?_
      rotate_left
      · (intro wy hSw; (try dsimp only at hSw); go_simp; try with_reducible rfl)
      simp only [Act.put, List.setIfInBounds_toArray, List.set_cons_zero, List.set_cons_succ]
      refine dt 10 rfl (v := ?_) ?_ ?_
      rotate_left
      · (intro wy hSw; (try dsimp only at hSw); go_simp; try with_reducible rfl)
      simp only [Act.put, List.setIfInBounds_toArray, List.set_cons_zero, List.set_cons_succ]
      refine dt 11 rfl (v := ?_) ?_ ?_
      rotate_left
      · (intro wy hSw; (try dsimp only at hSw); go_simp; try with_reducible rfl)
      simp only [Act.put, List.setIfInBounds_toArray, List.set_cons_zero, List.set_cons_succ]
      refine dt 12 rfl (v := ?_) ?_ ?_
      rotate_left
      · (intro wy hSw; (try dsimp only at hSw); go_simp; try with_reducible rfl)
      simp only [Act.put, List.setIfInBounds_toArray, List.set_cons_zero, List.set_cons_succ]
      refine dt 13 rfl (v := ?_) ?_ ?_
      rotate_left
      · (intro wy hSw; (try dsimp only at hSw); go_simp; try with_reducible rfl)
      simp only [Act.put, List.setIfInBounds_toArray, List.set_cons_zero, List.set_cons_succ]
      refine dt 15 rfl (v := ?_) ?_ ?_
      rotate_left
      · (intro wy hSw; (try dsimp only at hSw); go_simp; try with_reducible rfl)
      simp only [Act.put, List.setIfInBounds_toArray, List.set_cons_zero, List.set_cons_succ]
      refine wpAnyH_done (by kernel_rfl) ?_ _
      go_wp2_with fail
      go_ret2
      rw [HOK.out]
      exact HFIN.out _ _ _ _ (Below.drew (Below.refl _ _)) HA5.out (fun e => hg0)
theorem own_lit2 (w : World) (base : Nat) (x y : UInt8) (hb : base ≤ w.heap.size) : (w.alloc (.cells #[.int .u8 (x.toNat : Int), .int .u8 (y.toNat : Int)] 5)).ownsRow base 5 1 (.slice (some ⟨w.heap.size, 0, none⟩) 2 2) 2 (bytesOf [x, y]) :=
  ⟨rfl, .inr ⟨w.heap.size, 2, #[.int .u8 (x.toNat : Int), .int .u8 (y.toNat : Int)], rfl, hb, heap_alloc_new w _, Nat.le_refl _, by unfold maxLen; omega, rfl, rfl⟩⟩
set_option maxRecDepth 100000 in
set_option maxHeartbeats 4000000 in
theorem bglobs_any (t : UInt8) (mu : Bool) (w : World) :
    Calls Tryz.prog 36 #[.agg #[.int .u8 (t.toNat : Int), .bool mu]] w (BResN 1000 (whole1 t) (encGlob ⟨t, mu⟩) w) := by
  have HV := Lib.hid (fun W => bval_any t W)
  cases mu
  case true =>
    have HX0 : Hid ((w.alloc (.cells #[.int .u8 (t.toNat : Int), .bool true] 59)).heap[w.heap.size]? = some (.cells #[.int .u8 (t.toNat : Int), .bool true] 59 (0, 0))) := Lib.hid (heap_alloc_new w _)
    have HB0 : Hid (Below w.heap.size w (w.alloc (.cells #[.int .u8 (t.toNat : Int), .bool true] 59))) := Lib.hid ((Below.refl _ _).alloc (Nat.le_refl _) _)
    go_enter Tryz.func36, Tryz.ntmps36
    go_upto_region 1 with fail
    generalize (w.alloc (.cells #[.int .u8 (t.toNat : Int), .bool true] 59)) = w0 at HX0 HB0 ⊢
    obtain ⟨y0, y1⟩ : w0.cell? ⟨w.heap.size, 0, none⟩ = some (.int .u8 (t.toNat : Int)) ∧ w0.cell? ⟨w.heap.size, 1, none⟩ = some (.bool true) := ⟨by rw [cell_of_row w0 _ 0 _ _ (0, 0) HX0.out]; rfl, by rw [cell_of_row w0 _ 1 _ _ (0, 0) HX0.out]; rfl⟩
    have HFIN : Hid (∀ (W : World), Below w0.heap.size w0 W → BResN 1000 (whole1 t) (encGlob ⟨t, true⟩) w (.returned (.tuple #[.slice (some ⟨W.heap.size, 0, none⟩) 2 2, .bool (whole1 t)])) (W.alloc (.cells #[.int .u8 (t.toNat : Int), .int .u8 1] 5))) := Lib.hid (fun W hb => by
      have hb2 := HB0.out.trans (hb.mono HB0.out.size)
      exact bres_of (l' := [t, 1]) (hb2.alloc hb2.size _) (own_lit2 W w.heap.size t 1 hb2.size) (by simp) (fun _ => rfl))
    obtain ⟨ok, hwt⟩ : ∃ ok, whole1 t = ok := ⟨_, rfl⟩
    have HVX := HV
    rw [hwt] at HVX HFIN
    have HWT := Lib.hid hwt
    clear hwt
    go_upto_region 2 with fail
    refine wp_region_held_drew (S := fun W => W.cell? ⟨w.heap.size, 0, none⟩ = some (.int .u8 (t.toNat : Int))) (by kernel_rfl) (y0) (fun hHeld => ?_)
    refine dt 0 rfl (v := ?_) ?_ ?_
    rotate_left
    · (intro wy hSw; (try dsimp only at hSw); go_simp; try with_reducible rfl)
    simp only [Act.put, List.setIfInBounds_toArray, List.set_cons_zero, List.set_cons_succ]
    refine dt 1 rfl (v := ?_) ?_ ?_
    rotate_left
    · (intro wy hSw; (try dsimp only at hSw); go_simp; try with_reducible rfl)
    simp only [Act.put, List.setIfInBounds_toArray, List.set_cons_zero, List.set_cons_succ]
    refine dt 3 rfl (v := ?_) ?_ ?_
    rotate_left
    · (intro wy hSw; (try dsimp only at hSw); go_simp; try with_reducible rfl)
    simp only [Act.put, List.setIfInBounds_toArray, List.set_cons_zero, List.set_cons_succ]
    refine dt 4 rfl (v := ?_) ?_ ?_
    rotate_left
    · (intro wy hSw; (try dsimp only at hSw); go_simp; try with_reducible rfl)
    simp only [Act.put, List.setIfInBounds_toArray, List.set_cons_zero, List.set_cons_succ]
    refine drawn_two 2 5 rfl rfl (by kernel_rfl) (fun K hK => ?_) (fun K hK => ?_)
    · go_simp
      refine hK.out _ _ ((World.cell?_alloc_lt _ _ _ (World.block_lt_of_cell? _ _ hHeld)).trans hHeld) (fun hHeld2 => ?_)
      clear hK K hHeld
      have hHeld := hHeld2
      clear hHeld2
      try simp only [Act.put, List.setIfInBounds_toArray, List.set_cons_zero, List.set_cons_succ]
      refine drawn_sole 5 rfl (by kernel_rfl) (fun K hK => ?_)
      go_simp
      refine (HVX.out _).mono ?_
      rintro e wf ⟨rfl, rfl⟩
      go_wp2_with fail
      refine hK.out _ _ (hHeld) (fun hHeld2 => ?_)
      clear hK K hHeld
      have hHeld := hHeld2
      clear hHeld2
      try simp only [Act.put, List.setIfInBounds_toArray, List.set_cons_zero, List.set_cons_succ]
      refine dt 6 rfl (v := ?_) ?_ ?_
      rotate_left
      · (intro wy hSw; (try dsimp only at hSw); go_simp; try with_reducible rfl)
      simp only [Act.put, List.setIfInBounds_toArray, List.set_cons_zero, List.set_cons_succ]
      refine dt 7 rfl (v := ?_) ?_ ?_
      rotate_left
      · (intro wy hSw; (try dsimp only at hSw); go_simp; try with_reducible rfl)
      simp only [Act.put, List.setIfInBounds_toArray, List.set_cons_zero, List.set_cons_succ]
      refine wpAnyH_done (by kernel_rfl) ?_ _
      go_wp2_with fail
      go_ret2
      rw [HWT.out]
      exact HFIN.out _ (Below.drew (Below.refl _ _))
    · go_simp
      refine (HVX.out _).mono ?_
      rintro e wf ⟨rfl, rfl⟩
      go_wp2_with fail
      refine hK.out _ _ (hHeld) (fun hHeld2 => ?_)
      clear hK K hHeld
      have hHeld := hHeld2
      clear hHeld2
      try simp only [Act.put, List.setIfInBounds_toArray, List.set_cons_zero, List.set_cons_succ]
      refine drawn_sole 2 rfl (by kernel_rfl) (fun K hK => ?_)
      go_simp
      refine hK.out _ _ ((World.cell?_alloc_lt _ _ _ (World.block_lt_of_cell? _ _ hHeld)).trans hHeld) (fun hHeld2 => ?_)
      clear hK K hHeld
      have hHeld := hHeld2
      clear hHeld2
      try simp only [Act.put, List.setIfInBounds_toArray, List.set_cons_zero, List.set_cons_succ]
      refine dt 6 rfl (v := ?_) ?_ ?_
      rotate_left
      · (intro wy hSw; (try dsimp only at hSw); go_simp; try with_reducible rfl)
      simp only [Act.put, List.setIfInBounds_toArray, List.set_cons_zero, List.set_cons_succ]
      refine dt 7 rfl (v := ?_) ?_ ?_
      rotate_left
      · (intro wy hSw; (try dsimp only at hSw); go_simp; try with_reducible rfl)
      simp only [Act.put, List.setIfInBounds_toArray, List.set_cons_zero, List.set_cons_succ]
      refine wpAnyH_done (by kernel_rfl) ?_ _
      go_wp2_with fail
      go_ret2
      rw [HWT.out]
      exact HFIN.out _ (Below.drew (Below.refl _ _))
  case false =>
    have HX0 : Hid ((w.alloc (.cells #[.int .u8 (t.toNat : Int), .bool false] 59)).heap[w.heap.size]? = some (.cells #[.int .u8 (t.toNat : Int), .bool false] 59 (0, 0))) := Lib.hid (heap_alloc_new w _)
    have HB0 : Hid (Below w.heap.size w (w.alloc (.cells #[.int .u8 (t.toNat : Int), .bool false] 59))) := Lib.hid ((Below.refl _ _).alloc (Nat.le_refl _) _)
    go_enter Tryz.func36, Tryz.ntmps36
    go_upto_region 1 with fail
    generalize (w.alloc (.cells #[.int .u8 (t.toNat : Int), .bool false] 59)) = w0 at HX0 HB0 ⊢
    obtain ⟨y0, y1⟩ : w0.cell? ⟨w.heap.size, 0, none⟩ = some (.int .u8 (t.toNat : Int)) ∧ w0.cell? ⟨w.heap.size, 1, none⟩ = some (.bool false) := ⟨by rw [cell_of_row w0 _ 0 _ _ (0, 0) HX0.out]; rfl, by rw [cell_of_row w0 _ 1 _ _ (0, 0) HX0.out]; rfl⟩
    have HFIN : Hid (∀ (W : World), Below w0.heap.size w0 W → BResN 1000 (whole1 t) (encGlob ⟨t, false⟩) w (.returned (.tuple #[.slice (some ⟨W.heap.size, 0, none⟩) 2 2, .bool (whole1 t)])) (W.alloc (.cells #[.int .u8 (t.toNat : Int), .int .u8 0] 5))) := Lib.hid (fun W hb => by
      have hb2 := HB0.out.trans (hb.mono HB0.out.size)
      exact bres_of (l' := [t, 0]) (hb2.alloc hb2.size _) (own_lit2 W w.heap.size t 0 hb2.size) (by simp) (fun _ => rfl))
    obtain ⟨ok, hwt⟩ : ∃ ok, whole1 t = ok := ⟨_, rfl⟩
    have HVX := HV
    rw [hwt] at HVX HFIN
    have HWT := Lib.hid hwt
    clear hwt
    go_upto_region 3 with fail
    refine wp_region_held_drew (S := fun W => W.cell? ⟨w.heap.size, 0, none⟩ = some (.int .u8 (t.toNat : Int))) (by kernel_rfl) (y0) (fun hHeld => ?_)
    refine dt 0 rfl (v := ?_) ?_ ?_
    rotate_left
    · (intro wy hSw; (try dsimp only at hSw); go_simp; try with_reducible rfl)
    simp only [Act.put, List.setIfInBounds_toArray, List.set_cons_zero, List.set_cons_succ]
    refine dt 1 rfl (v := ?_) ?_ ?_
    rotate_left
    · (intro wy hSw; (try dsimp only at hSw); go_simp; try with_reducible rfl)
    simp only [Act.put, List.setIfInBounds_toArray, List.set_cons_zero, List.set_cons_succ]
    refine dt 3 rfl (v := ?_) ?_ ?_
    rotate_left
    · (intro wy hSw; (try dsimp only at hSw); go_simp; try with_reducible rfl)
    simp only [Act.put, List.setIfInBounds_toArray, List.set_cons_zero, List.set_cons_succ]
    refine dt 4 rfl (v := ?_) ?_ ?_
    rotate_left
    · (intro wy hSw; (try dsimp only at hSw); go_simp; try with_reducible rfl)
    simp only [Act.put, List.setIfInBounds_toArray, List.set_cons_zero, List.set_cons_succ]
    refine drawn_two 2 5 rfl rfl (by kernel_rfl) (fun K hK => ?_) (fun K hK => ?_)
    · go_simp
      refine hK.out _ _ ((World.cell?_alloc_lt _ _ _ (World.block_lt_of_cell? _ _ hHeld)).trans hHeld) (fun hHeld2 => ?_)
      clear hK K hHeld
      have hHeld := hHeld2
      clear hHeld2
      try simp only [Act.put, List.setIfInBounds_toArray, List.set_cons_zero, List.set_cons_succ]
      refine drawn_sole 5 rfl (by kernel_rfl) (fun K hK => ?_)
      go_simp
      refine (HVX.out _).mono ?_
      rintro e wf ⟨rfl, rfl⟩
      go_wp2_with fail
      refine hK.out _ _ (hHeld) (fun hHeld2 => ?_)
      clear hK K hHeld
      have hHeld := hHeld2
      clear hHeld2
      try simp only [Act.put, List.setIfInBounds_toArray, List.set_cons_zero, List.set_cons_succ]
      refine dt 6 rfl (v := ?_) ?_ ?_
      rotate_left
      · (intro wy hSw; (try dsimp only at hSw); go_simp; try with_reducible rfl)
      simp only [Act.put, List.setIfInBounds_toArray, List.set_cons_zero, List.set_cons_succ]
      refine dt 7 rfl (v := ?_) ?_ ?_
      rotate_left
      · (intro wy hSw; (try dsimp only at hSw); go_simp; try with_reducible rfl)
      simp only [Act.put, List.setIfInBounds_toArray, List.set_cons_zero, List.set_cons_succ]
      refine wpAnyH_done (by kernel_rfl) ?_ _
      go_wp2_with fail
      go_ret2
      rw [HWT.out]
      exact HFIN.out _ (Below.drew (Below.refl _ _))
    · go_simp
      refine (HVX.out _).mono ?_
      rintro e wf ⟨rfl, rfl⟩
      go_wp2_with fail
      refine hK.out _ _ (hHeld) (fun hHeld2 => ?_)
      clear hK K hHeld
      have hHeld := hHeld2
      clear hHeld2
      try simp only [Act.put, List.setIfInBounds_toArray, List.set_cons_zero, List.set_cons_succ]
      refine drawn_sole 2 rfl (by kernel_rfl) (fun K hK => ?_)
      go_simp
      refine hK.out _ _ ((World.cell?_alloc_lt _ _ _ (World.block_lt_of_cell? _ _ hHeld)).trans hHeld) (fun hHeld2 => ?_)
      clear hK K hHeld
      have hHeld := hHeld2
      clear hHeld2
      try simp only [Act.put, List.setIfInBounds_toArray, List.set_cons_zero, List.set_cons_succ]
      refine dt 6 rfl (v := ?_) ?_ ?_
      rotate_left
      · (intro wy hSw; (try dsimp only at hSw); go_simp; try with_reducible rfl)
      simp only [Act.put, List.setIfInBounds_toArray, List.set_cons_zero, List.set_cons_succ]
      refine dt 7 rfl (v := ?_) ?_ ?_
      rotate_left
      · (intro wy hSw; (try dsimp only at hSw); go_simp; try with_reducible rfl)
      simp only [Act.put, List.setIfInBounds_toArray, List.set_cons_zero, List.set_cons_succ]
      refine wpAnyH_done (by kernel_rfl) ?_ _
      go_wp2_with fail
      go_ret2
      rw [HWT.out]
      exact HFIN.out _ (Below.drew (Below.refl _ _))
end Go.Proofs.YtgnbkfkiigcdgaaGreatDoor
/-
  The document's Open: which blocks are open behind an instruction, in a row of the call's own.
-/
namespace Ins
/-- Which blocks are open, of the document's codes: an else may stand where the last one is 2. -/
def opensOf (L : List Nat) : List Bool := L.map (· == 2)
/-- The document's codes behind an instruction. -/
def openR (L : List Nat) (op : Nat) : Option (List Nat) :=
  if op = 2 ∨ op = 3 then some (L ++ [1])
  else if op = 4 then some (L ++ [2])
  else if op = 5 then (if L.getLast? = some 2 then some (L.dropLast ++ [3]) else none)
  else if op = 11 then (if L = [] then none else some L.dropLast)
  else some L
theorem step_openR (L : List Nat) (op : Nat) : step (opensOf L) op = (openR L op).map opensOf := by
  unfold step openR opensOf
  by_cases h1 : op = 2 ∨ op = 3
  · rw [if_pos h1, if_pos h1]; simp
  · rw [if_neg h1, if_neg h1]
    by_cases h2 : op = 4
    · rw [if_pos h2, if_pos h2]; simp
    · rw [if_neg h2, if_neg h2]
      by_cases h3 : op = 5
      · rw [if_pos h3, if_pos h3, List.getLast?_map]
        cases hL : L.getLast? with
        | none => simp
        | some k =>
          by_cases hk : k = 2
          · subst hk; simp [List.map_dropLast]
          · have hk' : (k == 2) = false := by simp [hk]
            simp [hk', hk]
      · rw [if_neg h3, if_neg h3]
        by_cases h4 : op = 11
        · rw [if_pos h4, if_pos h4]
          by_cases h5 : L = []
          · subst h5; simp
          · simp [h5, List.map_dropLast]
        · rw [if_neg h4, if_neg h4]; simp
theorem openR_len {L L' : List Nat} {op : Nat} (h : openR L op = some L') : L'.length ≤ L.length + 1 := by
  unfold openR at h
  (repeat' split at h) <;> simp at h <;> subst h <;> simp
  omega
end Ins
namespace Go.Proofs.YtgnbkfkiigcdgaaGreatDoor
open Go.RowKit Ins
def codes (L : List Nat) : List Value := L.map fun k : Nat => Value.int .i64 (k : Int)
theorem codes_length (L : List Nat) : (codes L).length = L.length := by simp [codes]
theorem codes_append (a b : List Nat) : codes (a ++ b) = codes a ++ codes b := by simp [codes]
theorem codes_one (L : List Nat) : ∀ u ∈ codes L, u.oneCell' = true := by
  intro u hu
  simp only [codes, List.mem_map] at hu
  obtain ⟨x, _, rfl⟩ := hu
  rfl
theorem und59 : Tryz.prog.underlying 106 = some (.slice 3) := by kernel_rfl
theorem info3i : (Tryz.prog.info? 3).map (fun i => (i.zero, i.size, i.bytes)) = some (some (.int .i64 0), 1, 8) := by kernel_rfl
/-- What a call of the document's Open comes to. -/
def ROPost (L : List Nat) (op : Nat) (w : World) (e : Ending) (w' : World) : Prop :=
  Below w.heap.size w w' ∧ match openR L op with
    | none => e = .returned (.tuple #[.slice none 0 0, .bool false])
    | some L' => ∃ v, e = .returned (.tuple #[v, .bool true]) ∧ w'.ownsRow w.heap.size 3 1 v L'.length (codes L')
/-- Codes laid in a row of their own. -/
theorem copy_codes (w : World) (b : Nat) (v : Value) (L : List Nat) (hO : w.ownsRow b 3 1 v L.length (codes L)) (hlen : L.length < 1000000000000) :
    ∃ v' w', (Builtin.append_ #[106, 106] 106 #[.slice (some ⟨w.heap.size, 0, none⟩) 0 0, v]).run Tryz.prog (w.alloc (.cells #[] 3)) = .ok v' w' ∧ w'.ownsRow w.heap.size 3 1 v' L.length (codes L) ∧ Below w.heap.size w w' := by
  obtain ⟨i0, hi, hz0, hz1, hz2⟩ := info_parts info3i
  have hb0 : Below w.heap.size w (w.alloc (.cells #[] 3)) := (Below.refl _ _).alloc (Nat.le_refl _) _
  have hown0 : (w.alloc (.cells #[] 3)).ownsRow w.heap.size 3 1 (.slice (some ⟨w.heap.size, 0, none⟩) 0 0) 0 (codes []) := World.ownsRow_lit w #[] 0 (Nat.le_refl _) (by unfold maxLen; omega) rfl
  have hO1 := hO.alloc (.cells #[] 3)
  rcases hO.2 with ⟨rfl, h⟩ | ⟨g, cap, cur, rfl, _⟩
  · refine ⟨_, _, run_append_owned_none (P := Tryz.prog) _ w.heap.size 106 106 3 i0 1 und59 hi _ 0 _ hown0, ?_, hb0⟩
    have h0 : L = [] := by
      cases L with
      | nil => rfl
      | cons x r => simp at h
    subst h0
    exact hown0
  · have hnews : ∀ j u, (codes L)[j]? = some u → (w.alloc (.cells #[] 3)).cell? ((⟨g, 0, none⟩ : Addr).add j) = some u := hO1.cells (g := g) rfl
    obtain ⟨v', w', hrun, h2, h3, _⟩ := run_append_own (P := Tryz.prog) (w.alloc (.cells #[] 3)) w.heap.size 106 106 3 i0 (.int .i64 0) 1 8 und59 hi hz0 hz1 hz2 rfl (by decide) _ 0 (codes []) hown0 ⟨g, 0, none⟩ L.length cap (codes L) (by rw [codes_length, Nat.mul_one]) hnews (codes_one L) (by unfold maxLen; omega) (by omega) (by simp)
    rw [Nat.zero_add] at h2
    refine ⟨v', w', hrun, h2, ?_⟩
    have hm : Mod (fun k => k = w.heap.size) (w.alloc (.cells #[] 3)) w' := Mod.of_grown h3 (fun k hk => by simp [Value.ownBlock] at hk; omega)
    exact hb0.trans (hm.below (by simp) (fun k hk e => by omega))
/-- One code more. -/
theorem append_code (w : World) (base : Nat) (v : Value) (L : List Nat) (k : Nat) (hown : w.ownsRow base 3 1 v L.length (codes L)) (hlen : L.length < 1000000000000) (hb : base ≤ w.heap.size) (hv : ∀ g, v.ownBlock = some g → base ≤ g) :
    ∃ v' w', (Builtin.append_ #[106, 106] 106 #[v, .slice (some ⟨w.heap.size, 0, none⟩) 1 1]).run Tryz.prog (w.alloc (.cells #[.int .i64 (k : Int)] 3)) = .ok v' w' ∧ w'.ownsRow base 3 1 v' (L ++ [k]).length (codes (L ++ [k])) ∧ Below base w w' := by
  obtain ⟨i0, hi, hz0, hz1, hz2⟩ := info_parts info3i
  have hown1 := hown.alloc (.cells #[.int .i64 (k : Int)] 3)
  obtain ⟨v', w', hrun, h2, h3, _⟩ := run_append_own (P := Tryz.prog) (w.alloc (.cells #[.int .i64 (k : Int)] 3)) base 106 106 3 i0 (.int .i64 0) 1 8 und59 hi hz0 hz1 hz2 rfl (by decide) v L.length (codes L) hown1 ⟨w.heap.size, 0, none⟩ 1 1 (codes [k]) rfl (one_new w _ _) (codes_one [k]) (by unfold maxLen; omega) (by omega) (by simp; omega)
  refine ⟨v', w', hrun, by rw [codes_append, List.length_append]; exact h2, ?_⟩
  have hm : Mod (fun g => v.ownBlock = some g) w w' := ((Mod.refl _ w).alloc _).trans (T' := fun g => v.ownBlock = some g) (Mod.of_grown h3 (fun _ h => h)) (fun _ _ h => h)
  exact hm.below hb (fun g hg e => by have := hv g e; omega)
theorem last_at {L : List Nat} {d : Nat} (h : L.length = d + 1) : L.getLast? = L[d]? := by
  rw [List.getLast?_eq_getElem?, h]; rfl
set_option maxRecDepth 100000 in
set_option maxHeartbeats 2000000 in
theorem ropen_push (b : Nat) (v : Value) (L : List Nat) (op : Nat) (w : World) (hO : w.ownsRow b 3 1 v L.length (codes L)) (hlen : L.length < 1000000000) (hop : op = 2 ∨ op = 3 ∨ op = 4) :
    Calls Tryz.prog 64 #[v, .int .u8 (op : Int)] w (ROPost L op w) := by
  obtain ⟨k, hk⟩ : ∃ k : Nat, k = if op = 4 then 2 else 1 := ⟨_, rfl⟩
  have hst : openR L op = some (L ++ [k]) := by
    rcases hop with rfl | rfl | rfl <;> subst hk <;> simp [openR]
  obtain ⟨v1, w1, hr1, ho1, hb1⟩ := copy_codes w b v L hO (by omega)
  obtain ⟨v2, w2, hr2, ho2, hb2⟩ := append_code w1 w.heap.size v1 L k ho1 (by omega) hb1.size (own_ge ho1)
  have FIN : Hid (ROPost L op w (.returned (.tuple #[v2, .bool true])) w2) := Lib.hid ⟨hb1.trans (hb2.mono (Nat.le_refl _)), by rw [hst]; exact ⟨v2, rfl, ho2⟩⟩
  obtain ⟨A, c, rfl, hmc, hcm⟩ := own_form hO
  obtain ⟨A1, c1, rfl, hmc1, hcm1⟩ := own_form ho1
  unfold maxLen at hcm hcm1
  have HR1 := Lib.hid hr1
  have HR2 := Lib.hid hr2
  clear hr1 hr2 ho1 ho2 hb1 hb2 hO hst
  generalize L.length = n at HR1 HR2 hmc hmc1 hlen ⊢
  rcases hop with rfl | rfl | rfl
  · obtain rfl : k = 1 := hk
    go_enter Tryz.func64, Tryz.ntmps64
    go_wp2_with (first | (at_builtin; refine wpList_appends rfl (.tmp 8) (.tmp 9) 106 rfl _ _ _ w1 rfl rfl HR1.out ?_) | (at_builtin; refine wpList_appends rfl (.tmp 17) (.tmp 18) 106 rfl _ _ _ w2 rfl rfl HR2.out ?_))
    go_ret2
    exact FIN.out
  · obtain rfl : k = 1 := hk
    go_enter Tryz.func64, Tryz.ntmps64
    go_wp2_with (first | (at_builtin; refine wpList_appends rfl (.tmp 8) (.tmp 9) 106 rfl _ _ _ w1 rfl rfl HR1.out ?_) | (at_builtin; refine wpList_appends rfl (.tmp 17) (.tmp 18) 106 rfl _ _ _ w2 rfl rfl HR2.out ?_))
    go_ret2
    exact FIN.out
  · obtain rfl : k = 2 := hk
    go_enter Tryz.func64, Tryz.ntmps64
    go_wp2_with (first | (at_builtin; refine wpList_appends rfl (.tmp 8) (.tmp 9) 106 rfl _ _ _ w1 rfl rfl HR1.out ?_) | (at_builtin; refine wpList_appends rfl (.tmp 22) (.tmp 23) 106 rfl _ _ _ w2 rfl rfl HR2.out ?_))
    go_ret2
    exact FIN.out
set_option maxRecDepth 100000 in
set_option maxHeartbeats 2000000 in
theorem ropen_other (b : Nat) (v : Value) (L : List Nat) (op : Nat) (w : World) (hO : w.ownsRow b 3 1 v L.length (codes L)) (hlen : L.length < 1000000000) (h2 : op ≠ 2) (h3 : op ≠ 3) (h4 : op ≠ 4) (h5 : op ≠ 5) (h11 : op ≠ 11) :
    Calls Tryz.prog 64 #[v, .int .u8 (op : Int)] w (ROPost L op w) := by
  have hst : openR L op = some L := by simp [openR, h2, h3, h4, h5, h11]
  obtain ⟨v1, w1, hr1, ho1, hb1⟩ := copy_codes w b v L hO (by omega)
  have FIN : Hid (ROPost L op w (.returned (.tuple #[v1, .bool true])) w1) := Lib.hid ⟨hb1, by rw [hst]; exact ⟨v1, rfl, ho1⟩⟩
  obtain ⟨A, c, rfl, hmc, hcm⟩ := own_form hO
  obtain ⟨A1, c1, rfl, hmc1, hcm1⟩ := own_form ho1
  unfold maxLen at hcm hcm1
  have HR1 := Lib.hid hr1
  have e2 : ((op : Int) == 2) = false := by simp; omega
  have e3 : ((op : Int) == 3) = false := by simp; omega
  have e4 : ((op : Int) == 4) = false := by simp; omega
  have e5 : ((op : Int) == 5) = false := by simp; omega
  have e11 : ((op : Int) == 11) = false := by simp; omega
  clear hr1 ho1 hb1 hO hst h2 h3 h4 h5 h11
  generalize L.length = n at HR1 FIN hmc hmc1 hlen ⊢
  go_enter Tryz.func64, Tryz.ntmps64
  go_wp2_with (at_builtin; refine wpList_appends rfl (.tmp 8) (.tmp 9) 106 rfl _ _ _ w1 rfl rfl HR1.out ?_)
  go_ret2
  exact FIN.out
set_option maxRecDepth 100000 in
set_option maxHeartbeats 2000000 in
theorem ropen_nil (b : Nat) (v : Value) (op : Nat) (w : World) (hO : w.ownsRow b 3 1 v 0 (codes [])) (hop : op = 5 ∨ op = 11) :
    Calls Tryz.prog 64 #[v, .int .u8 (op : Int)] w (ROPost [] op w) := by
  have hst : openR [] op = none := by rcases hop with rfl | rfl <;> simp [openR]
  obtain ⟨v1, w1, hr1, ho1, hb1⟩ := copy_codes w b v [] hO (by simp)
  have FIN : Hid (ROPost [] op w (.returned (.tuple #[.slice none 0 0, .bool false])) w1) := Lib.hid ⟨hb1, by rw [hst]⟩
  obtain ⟨A, c, rfl, hmc, hcm⟩ := own_form hO
  obtain ⟨A1, c1, rfl, hmc1, hcm1⟩ := own_form ho1
  unfold maxLen at hcm hcm1
  have HR1 := Lib.hid hr1
  clear hr1 ho1 hb1 hO hst
  simp only [List.length_nil] at HR1
  rcases hop with rfl | rfl
  all_goals
    go_enter Tryz.func64, Tryz.ntmps64
    go_wp2_with (at_builtin; refine wpList_appends rfl (.tmp 8) (.tmp 9) 106 rfl _ _ _ w1 rfl rfl HR1.out ?_)
    go_ret2
    exact FIN.out
set_option maxRecDepth 100000 in
set_option maxHeartbeats 2000000 in
theorem ropen_else (b : Nat) (v : Value) (L : List Nat) (w : World) (hO : w.ownsRow b 3 1 v L.length (codes L)) (hlen : L.length < 1000000000) (hL : L ≠ []) :
    Calls Tryz.prog 64 #[v, .int .u8 5] w (ROPost L 5 w) := by
  obtain ⟨d, hd⟩ : ∃ d, L.length = d + 1 := ⟨L.length - 1, by have := List.length_pos_iff.2 hL; omega⟩
  obtain ⟨v1, w1, hr1, ho1, hb1⟩ := copy_codes w b v L hO (by omega)
  obtain ⟨A, c, rfl, hmc, hcm⟩ := own_form hO
  obtain ⟨g, c1, rfl, hmc1, hcm1, hbg⟩ := own_form1 ho1 (by omega)
  unfold maxLen at hcm hcm1
  obtain ⟨k, hk⟩ : ∃ k, L[d]? = some k := ⟨_, List.getElem?_eq_getElem (by omega)⟩
  have kd : w1.cell? ⟨g, d, none⟩ = some (.int .i64 (k : Int)) := by
    have := ho1.cells (g := g) rfl d (.int .i64 (k : Int)) (by simp [codes, hk])
    have e2 : (⟨g, 0, none⟩ : Addr).add d = ⟨g, d, none⟩ := by unfold Addr.add; split <;> simp_all
    rwa [e2] at this
  have HR1 := Lib.hid hr1
  have hd1 : (d : Int) < ((d + 1 : Nat) : Int) := by omega
  have hd0 : (((d + 1 : Nat) : Int) == 0) = false := by simp; omega
  have hlast := last_at hd
  rw [hk] at hlast
  by_cases hk2 : k = 2
  · subst hk2
    have hst : openR L 5 = some (L.dropLast ++ [3]) := by simp [openR, hlast]
    have kf := ho1.frozenAt d
    obtain ⟨ho2, hg2⟩ := ho1.stored d (.int .i64 3)
    have hset : (codes L).set d (.int .i64 3) = codes (L.dropLast ++ [3]) := by
      apply List.ext_getElem?
      intro j
      rw [List.getElem?_set, codes_length]
      simp only [codes, List.getElem?_map]
      by_cases hj : d = j
      · subst hj
        rw [if_pos rfl, if_pos (by omega), List.getElem?_append_right (by simp; omega)]
        simp
        rw [show d - (L.length - 1) = 0 by omega]
        rfl
      · rw [if_neg hj]
        by_cases hjd : j < d
        · rw [List.getElem?_append_left (by simp; omega), List.getElem?_dropLast, if_pos (by omega)]
        · rw [List.getElem?_eq_none (by omega), List.getElem?_eq_none (by simp; omega)]
    rw [hset] at ho2
    have hl2 : (L.dropLast ++ [3]).length = d + 1 := by simp; omega
    have FIN : Hid (ROPost L 5 w (.returned (.tuple #[.slice (some ⟨g, 0, none⟩) (d + 1) c1, .bool true])) (w1.setCell ⟨g, d, none⟩ (.int .i64 3))) := Lib.hid ⟨hb1.trans ((Mod.of_grown (T := fun k => k = g) hg2 (fun k hk => by simp at hk; omega)).below hb1.size (fun k hk e => by omega)), by rw [hst]; exact ⟨_, rfl, by rw [hl2]; rw [hd] at ho2; exact ho2⟩⟩
    rw [hd] at HR1 hmc hmc1 ⊢
    clear ho1 ho2 hg2 hset hst hO hr1 hb1 hlast hk hL hd hl2
    go_enter Tryz.func64, Tryz.ntmps64
    go_wp2_with (at_builtin; refine wpList_appends rfl (.tmp 8) (.tmp 9) 106 rfl _ _ _ w1 rfl rfl HR1.out ?_)
    go_ret2
    exact FIN.out
  · have hst : openR L 5 = none := by simp [openR, hlast, hk2]
    have FIN : Hid (ROPost L 5 w (.returned (.tuple #[.slice none 0 0, .bool false])) w1) := Lib.hid ⟨hb1, by rw [hst]⟩
    have hkn : ((k : Int) != 2) = true := by simp; omega
    rw [hd] at HR1 hmc hmc1 ⊢
    clear ho1 hst hO hr1 hb1 hlast hk hL hd hk2
    go_enter Tryz.func64, Tryz.ntmps64
    go_wp2_with (at_builtin; refine wpList_appends rfl (.tmp 8) (.tmp 9) 106 rfl _ _ _ w1 rfl rfl HR1.out ?_)
    go_ret2
    exact FIN.out
set_option maxRecDepth 100000 in
set_option maxHeartbeats 2000000 in
theorem ropen_end (b : Nat) (v : Value) (L : List Nat) (w : World) (hO : w.ownsRow b 3 1 v L.length (codes L)) (hlen : L.length < 1000000000) (hL : L ≠ []) :
    Calls Tryz.prog 64 #[v, .int .u8 11] w (ROPost L 11 w) := by
  obtain ⟨d, hd⟩ : ∃ d, L.length = d + 1 := ⟨L.length - 1, by have := List.length_pos_iff.2 hL; omega⟩
  obtain ⟨v1, w1, hr1, ho1, hb1⟩ := copy_codes w b v L hO (by omega)
  obtain ⟨A, c, rfl, hmc, hcm⟩ := own_form hO
  obtain ⟨g, c1, rfl, hmc1, hcm1, hbg⟩ := own_form1 ho1 (by omega)
  unfold maxLen at hcm hcm1
  have hst : openR L 11 = some L.dropLast := by simp [openR, hL]
  have hlast : codes L = codes L.dropLast ++ codes [L.getLast hL] := by rw [← codes_append, List.dropLast_concat_getLast]
  have hl2 : L.dropLast.length = d := by simp; omega
  rw [hlast, hd] at ho1
  have ho2 := ownsRow_pop (by rw [codes_length]; simp; omega) ho1
  have HR1 := Lib.hid hr1
  have hdc : d ≤ c1 := by omega
  have hd0 : (((d + 1 : Nat) : Int) == 0) = false := by simp; omega
  have FIN : Hid (ROPost L 11 w (.returned (.tuple #[.slice (some ⟨g, 0, none⟩) d c1, .bool true])) w1) := Lib.hid ⟨hb1, by rw [hst]; exact ⟨_, rfl, by rw [hl2]; exact ho2⟩⟩
  rw [hd] at HR1 hmc hmc1 ⊢
  clear ho1 ho2 hst hO hr1 hb1 hlast hL hd hl2
  go_enter Tryz.func64, Tryz.ntmps64
  go_wp2_with (at_builtin; refine wpList_appends rfl (.tmp 8) (.tmp 9) 106 rfl _ _ _ w1 rfl rfl HR1.out ?_)
  go_ret2
  exact FIN.out
/-- The document's Open, of any instruction. -/
theorem ropen_any (b : Nat) (v : Value) (L : List Nat) (op : Nat) (w : World) (hO : w.ownsRow b 3 1 v L.length (codes L)) (hlen : L.length < 1000000000) :
    Calls Tryz.prog 64 #[v, .int .u8 (op : Int)] w (ROPost L op w) := by
  by_cases h1 : op = 2 ∨ op = 3 ∨ op = 4
  · exact ropen_push b v L op w hO hlen h1
  · by_cases hL : L = []
    · subst hL
      by_cases h5 : op = 5 ∨ op = 11
      · exact ropen_nil b v op w hO h5
      · exact ropen_other b v [] op w hO hlen (by omega) (by omega) (by omega) (by omega) (by omega)
    · by_cases h5 : op = 5
      · subst h5; exact ropen_else b v L w hO hlen hL
      · by_cases h11 : op = 11
        · subst h11; exact ropen_end b v L w hO hlen hL
        · exact ropen_other b v L op w hO hlen (by omega) (by omega) (by omega) h5 h11
end Go.Proofs.YtgnbkfkiigcdgaaGreatDoor
/-
  The document's Great, Same and SameAll: they tell what the plain functions tell, and leave all that was there as it was.
-/
namespace Ins
/-- Instructions and labels together. -/
def many : List I → Nat
  | [] => 0
  | x :: xs => 1 + x.l.length + many xs
theorem many_append : ∀ (a b : List I), many (a ++ b) = many a + many b
  | [], b => by simp [many]
  | x :: a, b => by simp only [List.cons_append, many, many_append a b]; omega
theorem many_take {xs : List I} {j : Nat} {x : I} (h : xs[j]? = some x) : many (xs.take (j + 1)) = many (xs.take j) + (1 + x.l.length) := by
  rw [List.take_add_one, h, many_append]; simp [many]
theorem tot_many : ∀ (xs : List I), tot xs ≤ 5 * many xs
  | [] => by simp [tot]
  | x :: xs => by have := tot_many xs; simp only [tot, many]; omega
theorem many_len {xs : List I} {x : I} (h : x ∈ xs) : x.l.length < many xs := by
  induction xs with
  | nil => cases h
  | cons y ys ih =>
    simp only [many]
    rcases List.mem_cons.1 h with rfl | h
    · omega
    · have := ih h; omega
end Ins
namespace Go.Proofs.YtgnbkfkiigcdgaaGreatDoor
open Go.RowKit Ins
end Go.Proofs.YtgnbkfkiigcdgaaGreatDoor
/-
  The document's ExprBytes: the bytes of instructions one behind the other, and an end; or that they are no expression's.
-/
namespace Go.Proofs.YtgnbkfkiigcdgaaGreatDoor
open Go.RowKit Ins
/-- The document's Bytes, and what it tells laid behind bytes. -/
theorem rbytes_adds (base : Nat) (v : Value) (l : List UInt8) (S : Nat → Prop) (A : Option Addr) (c : Nat) (x : I) (W : World) (hO : W.ownsRow base 5 1 v l.length (bytesOf l)) (hB : base ≤ W.heap.size) (hV : HasU W S A x.l) (hS : ∀ g, S g → g < W.heap.size) (hwf : x.wf) (hm : may x = true)
    (hxl : x.l.length < 4294967296) (hL : l.length ≤ 10000000000000) :
    Calls Tryz.prog 66 #[insVal x A c] W fun e w1 => ∃ A1 c1 m w2 v2, e = .returned (.slice A1 m c1) ∧ (Builtin.append_ #[36, 36] 36 #[v, .slice A1 m c1]).run Tryz.prog w1 = .ok v2 w2 ∧ Adds base W v w2 v2 (l ++ enc x) := by
  have hle := enc_le x hwf hxl
  refine (rbytes_any S A c x W hV hS hwf hm (by omega)).mono ?_
  rintro e w1 ⟨v1, rfl, ho1, hb1⟩
  obtain ⟨A1, c1, rfl, _, hn1, hh1⟩ := Has.own ho1
  obtain ⟨v2, w2, hr2, ha2⟩ := appends_adds w1 base (enc x).length c1 v l (enc x) A1 ((Mod.of_below (T := fun _ => False) hb1).own hO (fun _ _ h => h)) hh1 hn1 (by omega) (Nat.le_trans hB hb1.size)
  exact ⟨A1, c1, _, w2, v2, rfl, hr2, Adds.behind hb1 ha2⟩
/-- The same, and what it tells where they are no expression's. -/
def REPost2 (xs : List I) (w : World) (e : Ending) (w' : World) : Prop :=
  Below w.heap.size w w' ∧ ∃ v l', e = .returned (.tuple #[v, .bool (exprB xs)]) ∧ w'.ownsRow w.heap.size 5 1 v l'.length (bytesOf l') ∧ l'.length ≤ 20000000 ∧ (exprB xs = true → l' = exprEnc xs)
theorem rePost2_no {xs : List I} {w w' : World} (h : exprB xs = false) (hb : Below w.heap.size w w') : REPost2 xs w (.returned (.tuple #[.slice none 0 0, .bool false])) w' :=
  ⟨hb, _, [], by rw [h], World.ownsRow_nil _ _ _ _, by simp, fun e => by rw [h] at e; cases e⟩
set_option maxRecDepth 100000 in
set_option maxHeartbeats 4000000 in
theorem rexpr2_any (B : Option Addr) (xs : List I) (n cx : Nat) (w : World) (hX : HasI w (· < w.heap.size) B xs) (hn : n = xs.length) (h3 : many xs ≤ 200000) :
    Calls Tryz.prog 37 #[.slice B n cx] w (REPost2 xs w) := by
  have hwf := hX.wf
  have hxn := tot_len xs
  have htm := tot_many xs
  have hl4 : ∀ x ∈ xs, x.wf ∧ x.l.length < 4294967296 := fun x h => ⟨hwf x h, by have := many_len h; omega⟩
  have HX := Lib.hid hX
  have HL4 := Lib.hid hl4
  have HN := Lib.hid hn
  have hn3 : n ≤ 200000 := by omega
  have HTM : Hid (tot xs ≤ 1000000) := Lib.hid (by omega)
  clear hX hn hwf hxn htm hl4 h3
  go_enter Tryz.func37, Tryz.ntmps37
  go_wp2_with fail
  go_loopw [4, 5, 6] (fun u o i wr => ∃ (j : Nat) (out : List UInt8) (L : List Nat), j ≤ n ∧ i = .int .i64 (j : Int) ∧ Hid (out = encAll (xs.take j)) ∧ out.length ≤ 10000000 ∧ Hid (wr.ownsRow w.heap.size 5 1 u out.length (bytesOf out)) ∧ Hid (wr.ownsRow w.heap.size 3 1 o L.length (codes L)) ∧ L.length ≤ j ∧ Hid (Below w.heap.size w wr) ∧ Hid ((xs.take j).all may = true ∧ steps [] (xs.take j) = some (opensOf L))) (fun _ _ i _ => n - (intOf i).toNat)
  case atStart => exact ⟨0, [], [], by omega, rfl, Lib.hid (by simp [encAll]), by simp, Lib.hid (World.ownsRow_nil _ _ _ _), Lib.hid (World.ownsRow_nil _ _ _ _), by simp, Lib.hid (Below.refl _ _), Lib.hid ⟨rfl, rfl⟩⟩
  case round =>
    obtain ⟨j, out, L, hj, rfl, HD, hol, HO, HOP, hLj, HBW, HE⟩ := hrel
    by_cases hjn : j < n
    · obtain ⟨x, hx⟩ : ∃ x, xs[j]? = some x := ⟨_, List.getElem?_eq_getElem (by have := HN.out; omega)⟩
      obtain ⟨hwx, hxx⟩ := HL4.out x (List.mem_of_getElem? hx)
      obtain ⟨g, oo, A4, c4, rfl, hgB, _, hlc, hcm, hU, hcells⟩ := HX.out j x hx
      have hji : (j : Int) < (n : Int) := by omega
      have HSM := Lib.hid (fun (h : may x = false) => exprB_may hx h)
      have HSN := Lib.hid (fun (h : Ins.step (opensOf L) x.op = none) => exprB_step HE.out.2 hx h)
      have HSS := Lib.hid (fun (o' : List Bool) (h : Ins.step (opensOf L) x.op = some o') => steps_next HE.out.2 hx h)
      have HALL := Lib.hid (fun (h : may x = true) => all_take HE.out.1 hx h)
      have HEA := Lib.hid (encAll_take hx)
      have HLEN : Hid ((encAll (xs.take (j + 1))).length ≤ 10000000) := Lib.hid (by
        have h1 := encAll_le (xs.take (j + 1)) (fun y hy => HL4.out y (List.mem_of_mem_take hy))
        have h2 := tot_take_le xs (j + 1)
        have h3 := HTM.out
        omega)
      have HSO := Lib.hid (step_openR L x.op)
      have HRO := Lib.hid (ropen_any w.heap.size u5 L x.op wr HOP.out (by omega))
      have HBY := Lib.hid (fun W (hb : Below wr.heap.size wr W) (hm : may x = true) => rbytes_adds w.heap.size u4 out (· < w.heap.size) A4 c4 x W ((Mod.of_below (T := fun _ => False) hb).own HO.out (fun _ _ h => h)) (Nat.le_trans HBW.out.size hb.size) (hU.mod (Mod.of_below (T := fun _ => False) (HBW.out.trans (hb.mono HBW.out.size))) (fun _ _ _ h => h)) (fun g hg => Nat.lt_of_lt_of_le hg (Nat.le_trans HBW.out.size hb.size)) hwx hm hxx (by omega))
      have HMY := Lib.hid (fun W => rmay_any x A4 c4 W hwx)
      have HC := Lib.hid (fun W (hb : Below wr.heap.size wr W) k u (h : (insCells x A4 c4)[k]? = some u) => ((HBW.out.trans (hb.mono HBW.out.size)).cell (p := ⟨g, oo + j * 5 + k, none⟩) hgB).trans (hcells k u h))
      obtain ⟨ys, hys⟩ : ∃ ys, ys = encAll (xs.take (j + 1)) := ⟨_, rfl⟩
      rw [← hys] at HEA HLEN
      have HYS := Lib.hid hys
      clear hx hwx hxx hcells hU hlc hcm hys
      obtain ⟨ex, hex⟩ : ∃ ex, enc x = ex := ⟨_, rfl⟩
      rw [hex] at HEA HBY
      clear hex
      generalize hmx : may x = mx at HSM HALL HBY HMY
      obtain ⟨op, xa, xb, xc, xl⟩ := x
      simp only [insVal] at HMY HBY
      simp only [insCells] at HMY HBY HC
      generalize xl.length = q at HMY HBY HC
      have hC : Hid (∀ W, Below wr.heap.size wr W → W.cell? ⟨g, oo + j * 5, none⟩ = some (.int .u8 (op : Int)) ∧ W.cell? ⟨g, oo + j * 5 + 1, none⟩ = some (.int .u32 (xa : Int)) ∧ W.cell? ⟨g, oo + j * 5 + 2, none⟩ = some (.int .u32 (xb : Int)) ∧ W.cell? ⟨g, oo + j * 5 + 3, none⟩ = some (.int .i64 xc) ∧ W.cell? ⟨g, oo + j * 5 + 4, none⟩ = some (.slice A4 q c4)) := Lib.hid (fun W hb => ⟨HC.out W hb 0 _ rfl, HC.out W hb 1 _ rfl, HC.out W hb 2 _ rfl, HC.out W hb 3 _ rfl, HC.out W hb 4 _ rfl⟩)
      obtain ⟨k0, k1, k2, k3, k4⟩ := hC.out wr (Below.refl _ _)
      clear HC hmx
      unfold ROPost at HRO
      simp only at HRO HSN HSS HSO
      cases hop : openR L op with
      | none =>
        rw [hop] at HRO HSO
        have HNO := Lib.hid (HSN.out HSO.out)
        clear hop
        go_wp2_with (go_at_call 64; refine HRO.out.mono ?_; rintro e w1 ⟨hb1, rfl⟩; have HB1 := Lib.hid (HBW.out.trans (hb1.mono HBW.out.size)); clear hb1)
        go_ret2
        exact rePost2_no HNO.out HB1.out
      | some L' =>
        rw [hop] at HRO HSO
        have hLL := openR_len hop
        have HST := Lib.hid (HSS.out (opensOf L') HSO.out)
        clear hop HSN HSS HSO
        cases mx with
        | false =>
          have HNO := Lib.hid (HSM.out rfl)
          go_wp2_with (first | (go_at_call 64; refine HRO.out.mono ?_; rintro e w1 ⟨hb1, v1, rfl, _⟩; have HB1 := Lib.hid hb1; obtain ⟨p0, p1, p2, p3, p4⟩ := hC.out _ hb1; clear hb1) | (go_at_call 65; refine (HMY.out _).mono ?_; rintro e w2 ⟨rfl, hb2⟩; have HB2 := Lib.hid (HBW.out.trans ((HB1.out.trans (hb2.mono HB1.out.size)).mono HBW.out.size)); clear hb2))
          go_ret2
          exact rePost2_no HNO.out HB2.out
        | true =>
          have HAL := Lib.hid (HALL.out rfl)
          go_wp2_with (first | (go_at_call 64; refine HRO.out.mono ?_; rintro e w1 ⟨hb1, v1, rfl, ho1⟩; have HB1 := Lib.hid hb1; have HO1 := Lib.hid ho1; obtain ⟨p0, p1, p2, p3, p4⟩ := hC.out _ hb1; clear hb1 ho1) | (go_at_call 65; refine (HMY.out _).mono ?_; rintro e w2 ⟨rfl, hb2⟩; have HB2 := Lib.hid (HB1.out.trans (hb2.mono HB1.out.size)); have HB12 := Lib.hid hb2; obtain ⟨q0, q1, q2, q3, q4⟩ := hC.out _ HB2.out; clear hb2) | (go_at_call 66; refine (HBY.out _ HB2.out (by first | trivial | rfl)).mono ?_; rintro e wf ⟨Af, cf, mf, w3, v3, rfl, hr3, ha3⟩; have HR3 := Lib.hid hr3; have HA3 := Lib.hid ha3; clear hr3 ha3) | (at_builtin; refine wpList_appends rfl (.tmp 36) (.tmp 41) 36 rfl _ _ _ w3 rfl rfl HR3.out ?_))
          go_roundw
          case rel =>
            have hys : ys = out ++ ex := by rw [HEA.out, HD.out]
            have h1 := HA3.out
            rw [← hys] at h1
            have hs1 := HB1.out.size
            have hs2 := HB12.out.size
            have hsw := HBW.out.size
            refine ⟨j + 1, ys, L', by omega, by go_num, HYS, HLEN.out, Lib.hid h1.1, Lib.hid ?_, by omega, Lib.hid (HBW.out.trans ((HB2.out.mono hsw).trans (h1.below (own_ge HO.out) (by omega)))), Lib.hid ⟨HAL.out, HST.out⟩⟩
            refine own_base (h1.2.1.own ((Mod.of_below (T := fun _ => False) HB12.out).own HO1.out (fun _ _ h => h)) (fun g hg e => ?_)) hsw
            have h4 := own_ge HO1.out g hg
            have h5 := own_lt HO.out g e
            omega
          case measure => simp [intOf]; omega
    · obtain rfl : j = n := by omega
      obtain ⟨A5, c5, rfl, hl5, hm5⟩ := own_form HOP.out
      unfold maxLen at hm5
      have hs := HBW.out.size
      obtain ⟨v2, w2, hr2, ha2⟩ := append1_adds wr w.heap.size u4 out 11 HO.out (by omega) hs
      have HR2 := Lib.hid hr2
      have HA2 := Lib.hid ha2
      have hall : (xs.take j) = xs := by rw [HN.out, List.take_length]
      have hd := HD.out
      have he := HE.out
      rw [hall] at hd he
      have hx : exprB xs = ((L.length : Int) == 0) := by
        unfold exprB
        rw [he.1, he.2]
        cases L with
        | nil => rfl
        | cons a r => simp [opensOf]; omega
      have HFIN : Hid (REPost2 xs w (.returned (.tuple #[v2, .bool ((L.length : Int) == 0)])) w2) := Lib.hid ⟨HBW.out.trans (ha2.below (own_ge HO.out) hs), v2, out ++ [11], by rw [hx], ha2.1, by simp; omega, fun _ => by rw [hd]; rfl⟩
      clear hr2 ha2 hall hd he hx
      go_wp2_with (at_builtin; refine wpList_appends rfl (.tmp 43) (.tmp 44) 36 rfl _ _ _ w2 rfl rfl HR2.out ?_)
      go_ret2
      exact HFIN.out
end Go.Proofs.YtgnbkfkiigcdgaaGreatDoor
