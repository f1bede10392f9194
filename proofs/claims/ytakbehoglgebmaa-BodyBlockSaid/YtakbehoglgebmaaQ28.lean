/-
  Layer 10's program: local.get, local.set, local.tee; loads and stores; call_indirect. (gen/body/meth4.py)
-/
import Derived.Test.YtakbehoglgebmaaQ27
namespace Go.Proofs.Ytakbehoglgebmaa
open Go.RowKit Ins Bin Sp
set_option maxRecDepth 100000 in
set_option maxHeartbeats 4000000 in
theorem blocl_any {C : Ctx} {R P n : Nat} {w : World} {G : Nat → Prop} {s : Ty.T} {o : List Bool} (hC : C.Good) (h : Wk C R P w G s o) (hs : s.sm n) (hn : n ≤ 400000000) (op a b : Nat) (c : Int) (A4 : Option Addr) (l4 c4 : Nat) (ha : a < 4294967296) :
    Calls Try.prog 49 #[.pointer (some ⟨R, 0, none⟩), .agg #[.int .u8 (op : Int), .int .u32 (a : Int), .int .u32 (b : Int), .int .i64 c, .slice A4 l4 c4]] w (WPost C R P G o w (Bo.locl C.env op a s)) := by
  have HX0 := Lib.hid (heap_alloc_new w (.cells #[.int .u8 (op : Int), .int .u32 (a : Int), .int .u32 (b : Int), .int .i64 c, .slice A4 l4 c4] 49))
  have HB0 : Hid (Below w.heap.size w (w.alloc (.cells #[.int .u8 (op : Int), .int .u32 (a : Int), .int .u32 (b : Int), .int .i64 c, .slice A4 l4 c4] 49))) := Lib.hid ((Below.refl _ _).alloc (Nat.le_refl _) _)
  have H0 := Lib.hid (h.on HB0.out)
  have HN0 : Hid (Nxt G w G (w.alloc (.cells #[.int .u8 (op : Int), .int .u32 (a : Int), .int .u32 (b : Int), .int .i64 c, .slice A4 l4 c4] 49))) := Lib.hid (Nxt.of_below HB0.out)
  have HGX : Hid (¬ G w.heap.size ∧ w.heap.size < (w.alloc (.cells #[.int .u8 (op : Int), .int .u32 (a : Int), .int .u32 (b : Int), .int .i64 c, .slice A4 l4 c4] 49)).heap.size) := Lib.hid ⟨fun hg => Nat.lt_irrefl _ (h.out _ hg).2, by simp⟩
  have HLO := Lib.hid (fun (W : World) (hW : Wk C R P W G s o) => blocal_any C.ps C.ls C.v1 C.v2 C.v3 C.v4 a ha W (hC.ps.grow hW.base) (hC.ls.grow hW.base) hC.lp hC.ll)
  clear h
  go_enter Try.func49, Try.ntmps49
  go_upto_region 1 with fail
  generalize (w.alloc (.cells #[.int .u8 (op : Int), .int .u32 (a : Int), .int .u32 (b : Int), .int .i64 c, .slice A4 l4 c4] 49)) = w0 at HX0 HB0 H0 HN0 HGX ⊢
  obtain ⟨X, hX⟩ : ∃ X, w.heap.size = X := ⟨_, rfl⟩
  rw [hX] at HX0 HGX
  simp only [hX]
  clear hX HB0
  obtain ⟨z0, z1, z2, z3, z4⟩ := cells5 HX0.out
  obtain ⟨q0, q1, q2, q3, q4, q5⟩ := H0.out.cells
  have HCC := Lib.hid (fun W (hb : Below w0.heap.size w0 W) => And.intro (cells5 ((hb.block X HGX.out.2).trans HX0.out)) (H0.out.on hb).cells)
  clear z0 z1 z2 z3 z4 q0 q1 q2 q3 q4 q5
  have HLO := Lib.hid (fun W (hb : Below w0.heap.size w0 W) => HLO.out W (H0.out.on hb))
  obtain ⟨A11, c11, e11, _⟩ := hC.ps
  obtain ⟨A12, c12, e12, _⟩ := hC.rs
  obtain ⟨A13, c13, e13, _⟩ := hC.ls
  clear hC
  rw [e11, e12, e13] at HCC
  rw [e11, e12, e13] at HLO
  cases hx : Bo.local' C.ps C.ls a with
  | none =>
    have HLO : Hid (∀ W, Below w0.heap.size w0 W → Calls Try.prog 9 #[.agg #[.slice A11 C.ps.length c11, .slice A12 C.rs.length c12], .agg #[.slice A13 C.ls.length c13, C.v4], .int .u32 (a : Int)] W fun e w' => e = .returned (.tuple #[.int .u8 0, .bool false]) ∧ Below W.heap.size W w') := Lib.hid (fun W hb => by
      have h := HLO.out W hb
      rw [hx] at h
      exact h)
    have HT : Hid (Bo.locl C.env op a s = .error 80) := Lib.hid (by unfold Bo.locl Ctx.env; dsimp only; rw [hx])
    clear hx hs hn ha e11 e12 e13
    generalize C.ps.length = n1 at HLO HCC
    generalize C.rs.length = n2 at HLO HCC
    generalize C.ls.length = n3 at HLO HCC
    generalize C.v4 = v4 at HLO HCC
    go_upto_region 1 with fail
    refine wp_region_held_drew (S := fun W' => Below w0.heap.size w0 W') (by kernel_rfl) (Below.drew (Below.refl _ _)) (fun hHeld => ?_)
    refine drawn_take 0 rfl (by kernel_rfl) (by kernel_rfl) (by kernel_rfl) (fun _ _ _ h => h) (by rfl) (by assumption) (v := ?_) ?_ ?_
    rotate_left
    · (intro wy hSw; obtain ⟨⟨z0, z1, z2, z3, z4⟩, q0, q1, q2, q3, q4, q5⟩ := HCC.out wy hSw; go_simp; try with_reducible rfl)
    simp only [Act.put, List.setIfInBounds_toArray, List.set_cons_zero, List.set_cons_succ]
    refine drawn_take 1 rfl (by kernel_rfl) (by kernel_rfl) (by kernel_rfl) (fun _ _ _ h => h) (by rfl) (by assumption) (v := ?_) ?_ ?_
    rotate_left
    · (intro wy hSw; obtain ⟨⟨z0, z1, z2, z3, z4⟩, q0, q1, q2, q3, q4, q5⟩ := HCC.out wy hSw; go_simp; try with_reducible rfl)
    simp only [Act.put, List.setIfInBounds_toArray, List.set_cons_zero, List.set_cons_succ]
    refine drawn_take 2 rfl (by kernel_rfl) (by kernel_rfl) (by kernel_rfl) (fun _ _ _ h => h) (by rfl) (by assumption) (v := ?_) ?_ ?_
    rotate_left
    · (intro wy hSw; obtain ⟨⟨z0, z1, z2, z3, z4⟩, q0, q1, q2, q3, q4, q5⟩ := HCC.out wy hSw; go_simp; try with_reducible rfl)
    simp only [Act.put, List.setIfInBounds_toArray, List.set_cons_zero, List.set_cons_succ]
    refine drawn_take 3 rfl (by kernel_rfl) (by kernel_rfl) (by kernel_rfl) (fun _ _ _ h => h) (by rfl) (by assumption) (v := ?_) ?_ ?_
    rotate_left
    · (intro wy hSw; obtain ⟨⟨z0, z1, z2, z3, z4⟩, q0, q1, q2, q3, q4, q5⟩ := HCC.out wy hSw; go_simp; try with_reducible rfl)
    simp only [Act.put, List.setIfInBounds_toArray, List.set_cons_zero, List.set_cons_succ]
    refine drawn_take 4 rfl (by kernel_rfl) (by kernel_rfl) (by kernel_rfl) (fun _ _ _ h => h) (by rfl) (by assumption) (v := ?_) ?_ ?_
    rotate_left
    · (intro wy hSw; obtain ⟨⟨z0, z1, z2, z3, z4⟩, q0, q1, q2, q3, q4, q5⟩ := HCC.out wy hSw; go_simp; try with_reducible rfl)
    simp only [Act.put, List.setIfInBounds_toArray, List.set_cons_zero, List.set_cons_succ]
    refine drawn_take 5 rfl (by kernel_rfl) (by kernel_rfl) (by kernel_rfl) (fun _ _ _ h => h) (by rfl) (by assumption) (v := ?_) ?_ ?_
    rotate_left
    · (intro wy hSw; obtain ⟨⟨z0, z1, z2, z3, z4⟩, q0, q1, q2, q3, q4, q5⟩ := HCC.out wy hSw; go_simp; try with_reducible rfl)
    simp only [Act.put, List.setIfInBounds_toArray, List.set_cons_zero, List.set_cons_succ]
    refine drawn_take 6 rfl (by kernel_rfl) (by kernel_rfl) (by kernel_rfl) (fun _ _ _ h => h) (by rfl) (by assumption) (v := ?_) ?_ ?_
    rotate_left
    · (intro wy hSw; obtain ⟨⟨z0, z1, z2, z3, z4⟩, q0, q1, q2, q3, q4, q5⟩ := HCC.out wy hSw; go_simp; try with_reducible rfl)
    simp only [Act.put, List.setIfInBounds_toArray, List.set_cons_zero, List.set_cons_succ]
    refine drawn_take 7 rfl (by kernel_rfl) (by kernel_rfl) (by kernel_rfl) (fun _ _ _ h => h) (by rfl) (by assumption) (v := ?_) ?_ ?_
    rotate_left
    · (intro wy hSw; obtain ⟨⟨z0, z1, z2, z3, z4⟩, q0, q1, q2, q3, q4, q5⟩ := HCC.out wy hSw; go_simp; try with_reducible rfl)
    simp only [Act.put, List.setIfInBounds_toArray, List.set_cons_zero, List.set_cons_succ]
    refine drawn_take 8 rfl (by kernel_rfl) (by kernel_rfl) (by kernel_rfl) (fun _ _ _ h => h) (by rfl) (by assumption) (v := ?_) ?_ ?_
    rotate_left
    · (intro wy hSw; obtain ⟨⟨z0, z1, z2, z3, z4⟩, q0, q1, q2, q3, q4, q5⟩ := HCC.out wy hSw; go_simp; try with_reducible rfl)
    simp only [Act.put, List.setIfInBounds_toArray, List.set_cons_zero, List.set_cons_succ]
    refine drawn_take 9 rfl (by kernel_rfl) (by kernel_rfl) (by kernel_rfl) (fun _ _ _ h => h) (by rfl) (by assumption) (v := ?_) ?_ ?_
    rotate_left
    · (intro wy hSw; obtain ⟨⟨z0, z1, z2, z3, z4⟩, q0, q1, q2, q3, q4, q5⟩ := HCC.out wy hSw; go_simp; try with_reducible rfl)
    simp only [Act.put, List.setIfInBounds_toArray, List.set_cons_zero, List.set_cons_succ]
    refine drawn_sole 10 rfl (by kernel_rfl) (fun K hK => ?_)
    try (rw [if_pos]; case hc => rfl)
    go_simp
    refine (HLO.out _ hHeld).mono ?_
    rintro e w1 ⟨rfl, hb⟩
    have hH : Below w0.heap.size w0 w1 := hHeld.trans (hb.mono hHeld.size)
    have HW1 := Lib.hid hH
    clear hb
    go_wp2_with fail
    refine hK.out _ _ (hH) (fun hHeld2 => ?_)
    clear hK K hHeld
    have hHeld := hHeld2
    clear hHeld2
    refine drawn_take 11 rfl (by kernel_rfl) (by kernel_rfl) (by kernel_rfl) (fun _ _ _ h => h) (by rfl) (by assumption) (v := ?_) ?_ ?_
    rotate_left
    · (intro wy hSw; (try dsimp only at hSw); go_simp; try with_reducible rfl)
    simp only [Act.put, List.setIfInBounds_toArray, List.set_cons_zero, List.set_cons_succ]
    refine drawn_take 12 rfl (by kernel_rfl) (by kernel_rfl) (by kernel_rfl) (fun _ _ _ h => h) (by rfl) (by assumption) (v := ?_) ?_ ?_
    rotate_left
    · (intro wy hSw; (try dsimp only at hSw); go_simp; try with_reducible rfl)
    simp only [Act.put, List.setIfInBounds_toArray, List.set_cons_zero, List.set_cons_succ]
    refine drawn_take 13 rfl (by kernel_rfl) (by kernel_rfl) (by kernel_rfl) (fun _ _ _ h => h) (by rfl) (by assumption) (v := ?_) ?_ ?_
    rotate_left
    · (intro wy hSw; (try dsimp only at hSw); go_simp; try with_reducible rfl)
    simp only [Act.put, List.setIfInBounds_toArray, List.set_cons_zero, List.set_cons_succ]
    refine drawn_take 14 rfl (by kernel_rfl) (by kernel_rfl) (by kernel_rfl) (fun _ _ _ h => h) (by rfl) (by assumption) (v := ?_) ?_ ?_
    rotate_left
    · (intro wy hSw; (try dsimp only at hSw); go_simp; try with_reducible rfl)
    simp only [Act.put, List.setIfInBounds_toArray, List.set_cons_zero, List.set_cons_succ]
    refine drawn_take 15 rfl (by kernel_rfl) (by kernel_rfl) (by kernel_rfl) (fun _ _ _ h => h) (by rfl) (by assumption) (v := ?_) ?_ ?_
    rotate_left
    · (intro wy hSw; (try dsimp only at hSw); go_simp; try with_reducible rfl)
    simp only [Act.put, List.setIfInBounds_toArray, List.set_cons_zero, List.set_cons_succ]
    refine wpAnyH_done (by kernel_rfl) ?_ _
    go_wp2_with fail
    go_ret
    exact WPost.err HT.out (H0.out.on HW1.out).base
  | some t =>
    have HLO : Hid (∀ W, Below w0.heap.size w0 W → Calls Try.prog 9 #[.agg #[.slice A11 C.ps.length c11, .slice A12 C.rs.length c12], .agg #[.slice A13 C.ls.length c13, C.v4], .int .u32 (a : Int)] W fun e w' => e = .returned (.tuple #[.int .u8 (t.toNat : Int), .bool true]) ∧ Below W.heap.size W w') := Lib.hid (fun W hb => by
      have h := HLO.out W hb
      rw [hx] at h
      exact h)
    have HT : Hid (Bo.locl C.env op a s = if op = 32 then Bo.turned s [] [t] else if op = 33 then Bo.turned s [t] [] else Bo.turned s [t] [t]) := Lib.hid (by unfold Bo.locl Ctx.env; dsimp only; rw [hx])
    have HT1 := Lib.hid (fun W v1 (hW : Wk C R P W G s o) (h1 : SliceV W (Apt W G) [t] v1) => turned_any hW hs hn [] [t] (.slice none 0 0) v1 (SliceV.nil _ _) h1 (by simp) (by simp))
    have HT2 := Lib.hid (fun W v1 (hW : Wk C R P W G s o) (h1 : SliceV W (Apt W G) [t] v1) => turned_any hW hs hn [t] [] v1 (.slice none 0 0) h1 (SliceV.nil _ _) (by simp) (by simp))
    have HT3 := Lib.hid (fun W v1 (hW : Wk C R P W G s o) (h1 : SliceV W (Apt W G) [t] v1) => turned_any hW hs hn [t] [t] v1 v1 h1 h1 (by simp) (by simp))
    clear hx hs hn ha e11 e12 e13
    generalize C.ps.length = n1 at HLO HCC
    generalize C.rs.length = n2 at HLO HCC
    generalize C.ls.length = n3 at HLO HCC
    generalize C.v4 = v4 at HLO HCC
    go_upto_region 1 with fail
    refine wp_region_held_drew (S := fun W' => Below w0.heap.size w0 W') (by kernel_rfl) (Below.drew (Below.refl _ _)) (fun hHeld => ?_)
    refine drawn_take 0 rfl (by kernel_rfl) (by kernel_rfl) (by kernel_rfl) (fun _ _ _ h => h) (by rfl) (by assumption) (v := ?_) ?_ ?_
    rotate_left
    · (intro wy hSw; obtain ⟨⟨z0, z1, z2, z3, z4⟩, q0, q1, q2, q3, q4, q5⟩ := HCC.out wy hSw; go_simp; try with_reducible rfl)
    simp only [Act.put, List.setIfInBounds_toArray, List.set_cons_zero, List.set_cons_succ]
    refine drawn_take 1 rfl (by kernel_rfl) (by kernel_rfl) (by kernel_rfl) (fun _ _ _ h => h) (by rfl) (by assumption) (v := ?_) ?_ ?_
    rotate_left
    · (intro wy hSw; obtain ⟨⟨z0, z1, z2, z3, z4⟩, q0, q1, q2, q3, q4, q5⟩ := HCC.out wy hSw; go_simp; try with_reducible rfl)
    simp only [Act.put, List.setIfInBounds_toArray, List.set_cons_zero, List.set_cons_succ]
    refine drawn_take 2 rfl (by kernel_rfl) (by kernel_rfl) (by kernel_rfl) (fun _ _ _ h => h) (by rfl) (by assumption) (v := ?_) ?_ ?_
    rotate_left
    · (intro wy hSw; obtain ⟨⟨z0, z1, z2, z3, z4⟩, q0, q1, q2, q3, q4, q5⟩ := HCC.out wy hSw; go_simp; try with_reducible rfl)
    simp only [Act.put, List.setIfInBounds_toArray, List.set_cons_zero, List.set_cons_succ]
    refine drawn_take 3 rfl (by kernel_rfl) (by kernel_rfl) (by kernel_rfl) (fun _ _ _ h => h) (by rfl) (by assumption) (v := ?_) ?_ ?_
    rotate_left
    · (intro wy hSw; obtain ⟨⟨z0, z1, z2, z3, z4⟩, q0, q1, q2, q3, q4, q5⟩ := HCC.out wy hSw; go_simp; try with_reducible rfl)
    simp only [Act.put, List.setIfInBounds_toArray, List.set_cons_zero, List.set_cons_succ]
    refine drawn_take 4 rfl (by kernel_rfl) (by kernel_rfl) (by kernel_rfl) (fun _ _ _ h => h) (by rfl) (by assumption) (v := ?_) ?_ ?_
    rotate_left
    · (intro wy hSw; obtain ⟨⟨z0, z1, z2, z3, z4⟩, q0, q1, q2, q3, q4, q5⟩ := HCC.out wy hSw; go_simp; try with_reducible rfl)
    simp only [Act.put, List.setIfInBounds_toArray, List.set_cons_zero, List.set_cons_succ]
    refine drawn_take 5 rfl (by kernel_rfl) (by kernel_rfl) (by kernel_rfl) (fun _ _ _ h => h) (by rfl) (by assumption) (v := ?_) ?_ ?_
    rotate_left
    · (intro wy hSw; obtain ⟨⟨z0, z1, z2, z3, z4⟩, q0, q1, q2, q3, q4, q5⟩ := HCC.out wy hSw; go_simp; try with_reducible rfl)
    simp only [Act.put, List.setIfInBounds_toArray, List.set_cons_zero, List.set_cons_succ]
    refine drawn_take 6 rfl (by kernel_rfl) (by kernel_rfl) (by kernel_rfl) (fun _ _ _ h => h) (by rfl) (by assumption) (v := ?_) ?_ ?_
    rotate_left
    · (intro wy hSw; obtain ⟨⟨z0, z1, z2, z3, z4⟩, q0, q1, q2, q3, q4, q5⟩ := HCC.out wy hSw; go_simp; try with_reducible rfl)
    simp only [Act.put, List.setIfInBounds_toArray, List.set_cons_zero, List.set_cons_succ]
    refine drawn_take 7 rfl (by kernel_rfl) (by kernel_rfl) (by kernel_rfl) (fun _ _ _ h => h) (by rfl) (by assumption) (v := ?_) ?_ ?_
    rotate_left
    · (intro wy hSw; obtain ⟨⟨z0, z1, z2, z3, z4⟩, q0, q1, q2, q3, q4, q5⟩ := HCC.out wy hSw; go_simp; try with_reducible rfl)
    simp only [Act.put, List.setIfInBounds_toArray, List.set_cons_zero, List.set_cons_succ]
    refine drawn_take 8 rfl (by kernel_rfl) (by kernel_rfl) (by kernel_rfl) (fun _ _ _ h => h) (by rfl) (by assumption) (v := ?_) ?_ ?_
    rotate_left
    · (intro wy hSw; obtain ⟨⟨z0, z1, z2, z3, z4⟩, q0, q1, q2, q3, q4, q5⟩ := HCC.out wy hSw; go_simp; try with_reducible rfl)
    simp only [Act.put, List.setIfInBounds_toArray, List.set_cons_zero, List.set_cons_succ]
    refine drawn_take 9 rfl (by kernel_rfl) (by kernel_rfl) (by kernel_rfl) (fun _ _ _ h => h) (by rfl) (by assumption) (v := ?_) ?_ ?_
    rotate_left
    · (intro wy hSw; obtain ⟨⟨z0, z1, z2, z3, z4⟩, q0, q1, q2, q3, q4, q5⟩ := HCC.out wy hSw; go_simp; try with_reducible rfl)
    simp only [Act.put, List.setIfInBounds_toArray, List.set_cons_zero, List.set_cons_succ]
    refine drawn_sole 10 rfl (by kernel_rfl) (fun K hK => ?_)
    try (rw [if_pos]; case hc => rfl)
    go_simp
    refine (HLO.out _ hHeld).mono ?_
    rintro e w1 ⟨rfl, hb⟩
    have hH : Below w0.heap.size w0 w1 := hHeld.trans (hb.mono hHeld.size)
    have HW1 := Lib.hid hH
    clear hb
    go_wp2_with fail
    refine hK.out _ _ (hH) (fun hHeld2 => ?_)
    clear hK K hHeld
    have hHeld := hHeld2
    clear hHeld2
    refine drawn_take 11 rfl (by kernel_rfl) (by kernel_rfl) (by kernel_rfl) (fun _ _ _ h => h) (by rfl) (by assumption) (v := ?_) ?_ ?_
    rotate_left
    · (intro wy hSw; (try dsimp only at hSw); go_simp; try with_reducible rfl)
    simp only [Act.put, List.setIfInBounds_toArray, List.set_cons_zero, List.set_cons_succ]
    refine drawn_take 12 rfl (by kernel_rfl) (by kernel_rfl) (by kernel_rfl) (fun _ _ _ h => h) (by rfl) (by assumption) (v := ?_) ?_ ?_
    rotate_left
    · (intro wy hSw; (try dsimp only at hSw); go_simp; try with_reducible rfl)
    simp only [Act.put, List.setIfInBounds_toArray, List.set_cons_zero, List.set_cons_succ]
    refine drawn_take 13 rfl (by kernel_rfl) (by kernel_rfl) (by kernel_rfl) (fun _ _ _ h => h) (by rfl) (by assumption) (v := ?_) ?_ ?_
    rotate_left
    · (intro wy hSw; (try dsimp only at hSw); go_simp; try with_reducible rfl)
    simp only [Act.put, List.setIfInBounds_toArray, List.set_cons_zero, List.set_cons_succ]
    refine drawn_take 14 rfl (by kernel_rfl) (by kernel_rfl) (by kernel_rfl) (fun _ _ _ h => h) (by rfl) (by assumption) (v := ?_) ?_ ?_
    rotate_left
    · (intro wy hSw; (try dsimp only at hSw); go_simp; try with_reducible rfl)
    simp only [Act.put, List.setIfInBounds_toArray, List.set_cons_zero, List.set_cons_succ]
    refine drawn_take 15 rfl (by kernel_rfl) (by kernel_rfl) (by kernel_rfl) (fun _ _ _ h => h) (by rfl) (by assumption) (v := ?_) ?_ ?_
    rotate_left
    · (intro wy hSw; (try dsimp only at hSw); go_simp; try with_reducible rfl)
    simp only [Act.put, List.setIfInBounds_toArray, List.set_cons_zero, List.set_cons_succ]
    refine wpAnyH_done (by kernel_rfl) ?_ _
    obtain ⟨hl1, hl2, hl3⟩ := (H0.out.on HW1.out).lit t
    have HL1 := Lib.hid hl1
    have HL2 := Lib.hid hl2
    have HL3 := Lib.hid hl3
    clear hl1 hl2 hl3
    obtain ⟨⟨x0, x1, x2, x3, x4⟩, _⟩ := HCC.out (w1.alloc (.cells #[.int .u8 (t.toNat : Int)] 5)) (HW1.out.alloc HW1.out.size _)
    by_cases h32 : op = 32
    · subst h32
      have HTE : Hid (Bo.locl C.env 32 a s = Bo.turned s [] [t]) := Lib.hid (HT.out.trans (if_pos rfl))
      have HTU := HT1
      clear HT2 HT3 HT1
      go_wp2_with (go_at_call 71; refine (HTU.out _ _ HL1.out HL3.out).mono ?_; rintro e w9 he; obtain ⟨k, rfl, hk⟩ := he.num; have HK := Lib.hid hk; clear he hk)
      go_ret
      rw [HTE.out]
      exact ((HK.out.ahead HL2.out).ahead (Nxt.of_below HW1.out)).ahead HN0.out
    · have h32i : ((op : Int) == 32) = false := by rw [beq_eq_false_iff_ne]; omega
      have h32j : ¬ ((op : Int) = 32) := by omega
      by_cases h33 : op = 33
      · subst h33
        have HTE : Hid (Bo.locl C.env 33 a s = Bo.turned s [t] []) := Lib.hid ((HT.out.trans (if_neg (by decide))).trans (if_pos rfl))
        have HTU := HT2
        clear HT1 HT3 HT2
        go_wp2_with (go_at_call 71; refine (HTU.out _ _ HL1.out HL3.out).mono ?_; rintro e w9 he; obtain ⟨k, rfl, hk⟩ := he.num; have HK := Lib.hid hk; clear he hk)
        go_ret
        rw [HTE.out]
        exact ((HK.out.ahead HL2.out).ahead (Nxt.of_below HW1.out)).ahead HN0.out
      · have h33i : ((op : Int) == 33) = false := by rw [beq_eq_false_iff_ne]; omega
        have h33j : ¬ ((op : Int) = 33) := by omega
        have HTU := HT3
        clear HT1 HT2 HT3
        go_wp2_with (go_at_call 71; refine (HTU.out _ _ HL1.out HL3.out).mono ?_; rintro e w9 he; obtain ⟨k, rfl, hk⟩ := he.num; have HK := Lib.hid hk; clear he hk)
        go_ret
        rw [HT.out, if_neg h32, if_neg h33]
        exact ((HK.out.ahead HL2.out).ahead (Nxt.of_below HW1.out)).ahead HN0.out
set_option maxRecDepth 100000 in
set_option maxHeartbeats 4000000 in
theorem baccess_any {C : Ctx} {R P n : Nat} {w : World} {G : Nat → Prop} {s : Ty.T} {o : List Bool} (hC : C.Good) (h : Wk C R P w G s o) (hs : s.sm n) (hn : n ≤ 400000000) (op a b : Nat) (c : Int) (A4 : Option Addr) (l4 c4 : Nat) (hwd : 0 < Opc.width op) :
    Calls Try.prog 54 #[.pointer (some ⟨R, 0, none⟩), .agg #[.int .u8 (op : Int), .int .u32 (a : Int), .int .u32 (b : Int), .int .i64 c, .slice A4 l4 c4]] w (WPost C R P G o w (Bo.access C.env op a s)) := by
  have HX0 := Lib.hid (heap_alloc_new w (.cells #[.int .u8 (op : Int), .int .u32 (a : Int), .int .u32 (b : Int), .int .i64 c, .slice A4 l4 c4] 49))
  have HB0 : Hid (Below w.heap.size w (w.alloc (.cells #[.int .u8 (op : Int), .int .u32 (a : Int), .int .u32 (b : Int), .int .i64 c, .slice A4 l4 c4] 49))) := Lib.hid ((Below.refl _ _).alloc (Nat.le_refl _) _)
  have H0 := Lib.hid (h.on HB0.out)
  have HN0 : Hid (Nxt G w G (w.alloc (.cells #[.int .u8 (op : Int), .int .u32 (a : Int), .int .u32 (b : Int), .int .i64 c, .slice A4 l4 c4] 49))) := Lib.hid (Nxt.of_below HB0.out)
  have HGX : Hid (¬ G w.heap.size ∧ w.heap.size < (w.alloc (.cells #[.int .u8 (op : Int), .int .u32 (a : Int), .int .u32 (b : Int), .int .i64 c, .slice A4 l4 c4] 49)).heap.size) := Lib.hid ⟨fun hg => Nat.lt_irrefl _ (h.out _ hg).2, by simp⟩
  have HM := Lib.hid (fun (W : World) (hW : Wk C R P W G s o) => smem_any (some ⟨C.sp, 0, none⟩) C.m 0 W (.inl ⟨C.sp, rfl, hC.space.grow hW.base⟩) (Few.some hC.few) (by omega))
  have HPL : Hid (∀ W G1, Wk C R P W G1 s o → Calls Try.prog 55 #[.pointer (some ⟨R, 0, none⟩), .agg #[.int .u8 (op : Int), .int .u32 (a : Int), .int .u32 (b : Int), .int .i64 c, .slice A4 l4 c4]] W (WPost C R P G1 o W (Bo.plain op s))) := Lib.hid (fun W G1 hW => bplain_any hW hs hn op a b c A4 l4 c4)
  clear h hs hn hC
  go_enter Try.func54, Try.ntmps54
  go_upto_region 1 with fail
  generalize (w.alloc (.cells #[.int .u8 (op : Int), .int .u32 (a : Int), .int .u32 (b : Int), .int .i64 c, .slice A4 l4 c4] 49)) = w0 at HX0 HB0 H0 HN0 HGX ⊢
  obtain ⟨X, hX⟩ : ∃ X, w.heap.size = X := ⟨_, rfl⟩
  rw [hX] at HX0 HGX
  simp only [hX]
  clear hX HB0
  obtain ⟨z0, z1, z2, z3, z4⟩ := cells5 HX0.out
  obtain ⟨q0, q1, q2, q3, q4, q5⟩ := H0.out.cells
  have hm := HM.out _ H0.out
  clear HM
  unfold LimPost at hm
  have HE : Hid (C.env.mem = ((mems C.m)[0]?).isSome) := Lib.hid rfl
  obtain ⟨y1, y2, hy⟩ : ∃ y1 y2 : Int, limArr (((mems C.m)[0]?).getD ⟨0, 0⟩) = #[.int .u32 y1, .int .i64 y2] := ⟨_, _, rfl⟩
  rw [hy] at hm
  clear hy
  obtain ⟨hbl, hw0, hw8⟩ := width_bits op hwd
  have HWD : Hid (∀ W, Calls Try.prog 53 #[.int .u8 (op : Int)] W fun e w' => e = .returned (.int .i64 (Opc.width op)) ∧ W = w') := Lib.hid (fun W => width_any (op : Int) W)
  have HLN : Hid (∀ W, Calls Try.prog 79 #[.int .u64 (Opc.width op)] W fun e w' => e = .returned (.int .i64 (Bo.blen (Opc.width op) : Int)) ∧ W = w') := Lib.hid (fun W => by
    have h := blen_any (Opc.width op) W hw0 (by omega)
    rw [hbl] at h
    exact h)
  have hb4 : Bo.blen (Opc.width op) ≤ 4 := by unfold Bo.blen; (repeat' split) <;> omega
  cases hp : ((mems C.m)[0]?).isSome with
  | false =>
    rw [hp] at hm HE
    have HT : Hid (Bo.access C.env op a s = .error 80) := Lib.hid (by unfold Bo.access; rw [HE.out]; rfl)
    have HM := Lib.hid hm
    clear hm hp hbl hw0 hw8 hwd hb4 HWD HLN
    go_wp2_with (go_at_call 78; refine HM.out.mono ?_; rintro e w1 ⟨rfl, hb⟩; have hb2 : Below w0.heap.size w0 (w1.alloc (.cells #[.int .u32 y1, .int .i64 y2] 64)) := hb.alloc hb.size _; obtain ⟨x0, x1, x2, x3, x4⟩ := cells5 ((hb2.block X HGX.out.2).trans HX0.out); have HB1 := Lib.hid hb2; clear hb hb2)
    go_ret
    exact WPost.err HT.out (H0.out.on HB1.out).base
  | true =>
    rw [hp] at hm HE
    have HT : Hid (Bo.access C.env op a s = if Bo.blen (Opc.width op) ≤ a then .error 100 else Bo.plain op s) := Lib.hid (by unfold Bo.access; rw [HE.out]; rfl)
    have HM := Lib.hid hm
    clear hm hp hbl hwd
    generalize Opc.width op = wd at HWD HLN HT hw0 hw8 hb4
    generalize Bo.blen wd = bl at HLN HT hb4
    have hwu : IntKind.u64.wrap wd = wd := by simp [IntKind.wrap, IntKind.bits, IntKind.signed]; omega
    have hwv : IntKind.u32.wrap (bl : Int) = (bl : Int) := by simp [IntKind.wrap, IntKind.bits, IntKind.signed]; omega
    by_cases hle : bl ≤ a
    · have hlei : (bl : Int) ≤ (a : Int) := by omega
      go_upto_region 4 with (go_at_call 78; refine HM.out.mono ?_; rintro e w1 ⟨rfl, hb⟩; have hb2 : Below w0.heap.size w0 (w1.alloc (.cells #[.int .u32 y1, .int .i64 y2] 64)) := hb.alloc hb.size _; obtain ⟨x0, x1, x2, x3, x4⟩ := cells5 ((hb2.block X HGX.out.2).trans HX0.out); have HB1 := Lib.hid hb2; clear hb hb2)
      generalize w1.alloc (.cells #[.int .u32 y1, .int .i64 y2] 64) = wm at HB1 x0 x1 x2 x3 x4 ⊢
      refine wp_region_held_drew (S := fun W' => W'.cell? ⟨X, 0, none⟩ = some (.int .u8 (op : Int)) ∧ W'.cell? ⟨X, 1, none⟩ = some (.int .u32 (a : Int))) (by kernel_rfl) (⟨x0, x1⟩) (fun hHeld => ?_)
      refine drawn_take 0 rfl (by kernel_rfl) (by kernel_rfl) (by kernel_rfl) (fun _ _ _ h => h) (by rfl) (by assumption) (v := ?_) ?_ ?_
      rotate_left
      · (intro wy hSw; obtain ⟨h0, h1⟩ := hSw; go_simp; try with_reducible rfl)
      simp only [Act.put, List.setIfInBounds_toArray, List.set_cons_zero, List.set_cons_succ]
      refine drawn_take 1 rfl (by kernel_rfl) (by kernel_rfl) (by kernel_rfl) (fun _ _ _ h => h) (by rfl) (by assumption) (v := ?_) ?_ ?_
      rotate_left
      · (intro wy hSw; obtain ⟨h0, h1⟩ := hSw; go_simp; try with_reducible rfl)
      simp only [Act.put, List.setIfInBounds_toArray, List.set_cons_zero, List.set_cons_succ]
      refine drawn_take 2 rfl (by kernel_rfl) (by kernel_rfl) (by kernel_rfl) (fun _ _ _ h => h) (by rfl) (by assumption) (v := ?_) ?_ ?_
      rotate_left
      · (intro wy hSw; obtain ⟨h0, h1⟩ := hSw; go_simp; try with_reducible rfl)
      simp only [Act.put, List.setIfInBounds_toArray, List.set_cons_zero, List.set_cons_succ]
      refine drawn_take 3 rfl (by kernel_rfl) (by kernel_rfl) (by kernel_rfl) (fun _ _ _ h => h) (by rfl) (by assumption) (v := ?_) ?_ ?_
      rotate_left
      · (intro wy hSw; obtain ⟨h0, h1⟩ := hSw; go_simp; try with_reducible rfl)
      simp only [Act.put, List.setIfInBounds_toArray, List.set_cons_zero, List.set_cons_succ]
      refine drawn_sole 4 rfl (by kernel_rfl) (fun K hK => ?_)
      try (rw [if_pos]; case hc => rfl)
      go_simp
      refine (HWD.out _).mono ?_
      rintro e w9 ⟨rfl, rfl⟩
      go_wp2_with fail
      refine hK.out _ _ (hHeld) (fun hHeld2 => ?_)
      clear hK K hHeld
      have hHeld := hHeld2
      clear hHeld2
      refine drawn_take 5 rfl (by kernel_rfl) (by kernel_rfl) (by kernel_rfl) (fun _ _ _ h => h) (by rfl) (by assumption) (v := ?_) ?_ ?_
      rotate_left
      · (intro wy hSw; (try dsimp only at hSw); go_simp; try with_reducible rfl)
      simp only [Act.put, List.setIfInBounds_toArray, List.set_cons_zero, List.set_cons_succ]
      refine drawn_sole 6 rfl (by kernel_rfl) (fun K hK => ?_)
      try (rw [if_pos]; case hc => rfl)
      go_simp
      refine (HLN.out _).mono ?_
      rintro e w9 ⟨rfl, rfl⟩
      go_wp2_with fail
      refine hK.out _ _ (hHeld) (fun hHeld2 => ?_)
      clear hK K hHeld
      have hHeld := hHeld2
      clear hHeld2
      refine drawn_take 7 rfl (by kernel_rfl) (by kernel_rfl) (by kernel_rfl) (fun _ _ _ h => h) (by rfl) (by assumption) (v := ?_) ?_ ?_
      rotate_left
      · (intro wy hSw; (try dsimp only at hSw); go_simp; try with_reducible rfl)
      simp only [Act.put, List.setIfInBounds_toArray, List.set_cons_zero, List.set_cons_succ]
      refine drawn_take 8 rfl (by kernel_rfl) (by kernel_rfl) (by kernel_rfl) (fun _ _ _ h => h) (by rfl) (by assumption) (v := ?_) ?_ ?_
      rotate_left
      · (intro wy hSw; (try dsimp only at hSw); go_simp; try with_reducible rfl)
      simp only [Act.put, List.setIfInBounds_toArray, List.set_cons_zero, List.set_cons_succ]
      refine wpAnyH_done (by kernel_rfl) ?_ _
      have HBD : Hid (Below w0.heap.size w0 wm.drew) := Lib.hid (Below.drew HB1.out)
      obtain ⟨d0, d1, d2, d3, d4⟩ := cells5 ((HBD.out.block X HGX.out.2).trans HX0.out)
      generalize wm.drew = wn at HBD d0 d1 d2 d3 d4 ⊢
      go_wp2_with fail
      go_ret
      exact WPost.err (by rw [HT.out, if_pos hle]) (H0.out.on HBD.out).base
    · have hlei : decide ((bl : Int) ≤ (a : Int)) = false := decide_eq_false (by omega)
      have hlej : decide (bl ≤ a) = false := decide_eq_false hle
      go_upto_region 4 with (go_at_call 78; refine HM.out.mono ?_; rintro e w1 ⟨rfl, hb⟩; have hb2 : Below w0.heap.size w0 (w1.alloc (.cells #[.int .u32 y1, .int .i64 y2] 64)) := hb.alloc hb.size _; obtain ⟨x0, x1, x2, x3, x4⟩ := cells5 ((hb2.block X HGX.out.2).trans HX0.out); have HB1 := Lib.hid hb2; clear hb hb2)
      generalize w1.alloc (.cells #[.int .u32 y1, .int .i64 y2] 64) = wm at HB1 x0 x1 x2 x3 x4 ⊢
      refine wp_region_held_drew (S := fun W' => W'.cell? ⟨X, 0, none⟩ = some (.int .u8 (op : Int)) ∧ W'.cell? ⟨X, 1, none⟩ = some (.int .u32 (a : Int))) (by kernel_rfl) (⟨x0, x1⟩) (fun hHeld => ?_)
      refine drawn_take 0 rfl (by kernel_rfl) (by kernel_rfl) (by kernel_rfl) (fun _ _ _ h => h) (by rfl) (by assumption) (v := ?_) ?_ ?_
      rotate_left
      · (intro wy hSw; obtain ⟨h0, h1⟩ := hSw; go_simp; try with_reducible rfl)
      simp only [Act.put, List.setIfInBounds_toArray, List.set_cons_zero, List.set_cons_succ]
      refine drawn_take 1 rfl (by kernel_rfl) (by kernel_rfl) (by kernel_rfl) (fun _ _ _ h => h) (by rfl) (by assumption) (v := ?_) ?_ ?_
      rotate_left
      · (intro wy hSw; obtain ⟨h0, h1⟩ := hSw; go_simp; try with_reducible rfl)
      simp only [Act.put, List.setIfInBounds_toArray, List.set_cons_zero, List.set_cons_succ]
      refine drawn_take 2 rfl (by kernel_rfl) (by kernel_rfl) (by kernel_rfl) (fun _ _ _ h => h) (by rfl) (by assumption) (v := ?_) ?_ ?_
      rotate_left
      · (intro wy hSw; obtain ⟨h0, h1⟩ := hSw; go_simp; try with_reducible rfl)
      simp only [Act.put, List.setIfInBounds_toArray, List.set_cons_zero, List.set_cons_succ]
      refine drawn_take 3 rfl (by kernel_rfl) (by kernel_rfl) (by kernel_rfl) (fun _ _ _ h => h) (by rfl) (by assumption) (v := ?_) ?_ ?_
      rotate_left
      · (intro wy hSw; obtain ⟨h0, h1⟩ := hSw; go_simp; try with_reducible rfl)
      simp only [Act.put, List.setIfInBounds_toArray, List.set_cons_zero, List.set_cons_succ]
      refine drawn_sole 4 rfl (by kernel_rfl) (fun K hK => ?_)
      try (rw [if_pos]; case hc => rfl)
      go_simp
      refine (HWD.out _).mono ?_
      rintro e w9 ⟨rfl, rfl⟩
      go_wp2_with fail
      refine hK.out _ _ (hHeld) (fun hHeld2 => ?_)
      clear hK K hHeld
      have hHeld := hHeld2
      clear hHeld2
      refine drawn_take 5 rfl (by kernel_rfl) (by kernel_rfl) (by kernel_rfl) (fun _ _ _ h => h) (by rfl) (by assumption) (v := ?_) ?_ ?_
      rotate_left
      · (intro wy hSw; (try dsimp only at hSw); go_simp; try with_reducible rfl)
      simp only [Act.put, List.setIfInBounds_toArray, List.set_cons_zero, List.set_cons_succ]
      refine drawn_sole 6 rfl (by kernel_rfl) (fun K hK => ?_)
      try (rw [if_pos]; case hc => rfl)
      go_simp
      refine (HLN.out _).mono ?_
      rintro e w9 ⟨rfl, rfl⟩
      go_wp2_with fail
      refine hK.out _ _ (hHeld) (fun hHeld2 => ?_)
      clear hK K hHeld
      have hHeld := hHeld2
      clear hHeld2
      refine drawn_take 7 rfl (by kernel_rfl) (by kernel_rfl) (by kernel_rfl) (fun _ _ _ h => h) (by rfl) (by assumption) (v := ?_) ?_ ?_
      rotate_left
      · (intro wy hSw; (try dsimp only at hSw); go_simp; try with_reducible rfl)
      simp only [Act.put, List.setIfInBounds_toArray, List.set_cons_zero, List.set_cons_succ]
      refine drawn_take 8 rfl (by kernel_rfl) (by kernel_rfl) (by kernel_rfl) (fun _ _ _ h => h) (by rfl) (by assumption) (v := ?_) ?_ ?_
      rotate_left
      · (intro wy hSw; (try dsimp only at hSw); go_simp; try with_reducible rfl)
      simp only [Act.put, List.setIfInBounds_toArray, List.set_cons_zero, List.set_cons_succ]
      refine wpAnyH_done (by kernel_rfl) ?_ _
      have HBD : Hid (Below w0.heap.size w0 wm.drew) := Lib.hid (Below.drew HB1.out)
      obtain ⟨d0, d1, d2, d3, d4⟩ := cells5 ((HBD.out.block X HGX.out.2).trans HX0.out)
      generalize wm.drew = wn at HBD d0 d1 d2 d3 d4 ⊢
      go_wp2_with (go_at_call 55; refine (HPL.out _ _ (H0.out.on HBD.out)).mono ?_; rintro e w9 he; obtain ⟨k, rfl, hk⟩ := he.num; have HK := Lib.hid hk; clear he hk)
      go_ret
      rw [HT.out, if_neg hle]
      exact (HK.out.ahead (Nxt.of_below HBD.out)).ahead HN0.out
end Go.Proofs.Ytakbehoglgebmaa
