/-
  Layer 10's program: br and br_if. (gen/body/meth2.py)
-/
import Derived.Test.YtelcdmkbaegjoaaGreatTq01
import Derived.Test.YtelcdmkbaegjoaaGreatTq35
set_option maxRecDepth 100000
set_option maxHeartbeats 4000000
namespace Go.Proofs.YtelcdmkbaegjoaaGreat
open Go.RowKit Ins Bin Sp
theorem Bo.sm_label {s : Ty.T} {n k : Nat} {l : List UInt8} (h : s.sm n) (hl : s.labelA k = some l) : l.length ≤ n := by
 unfold Ty.T.labelA at hl
 rw [Option.map_eq_some_iff] at hl
 obtain ⟨f, hf, rfl⟩ := hl
 exact (h.2.2.2 f (by have := List.mem_of_getElem? hf; simpa using this)).1
theorem bbr_any {C : Ctx} {R P n : Nat} {w : World} {G : Nat → Prop} {s : Ty.T} {o : List Bool} (h : Wk C R P w G s o) (hs : s.sm n) (hn : n ≤ 400000000) (op a b : Nat) (c : Int) (A4 : Option Addr) (l4 c4 : Nat) (ha : a < 4294967296) :
  Calls Tryz.prog 74 #[.pointer (some ⟨R, 0, none⟩), .agg #[.int .u8 (op : Int), .int .u32 (a : Int), .int .u32 (b : Int), .int .i64 c, .slice A4 l4 c4]] w (ai C R P G o w (Bo.br a s)) := by
 have HX0 := J (heap_alloc_new w (.cells #[.int .u8 (op : Int), .int .u32 (a : Int), .int .u32 (b : Int), .int .i64 c, .slice A4 l4 c4] 57))
 have HB0 : Hid (Below w.heap.size w (w.alloc (.cells #[.int .u8 (op : Int), .int .u32 (a : Int), .int .u32 (b : Int), .int .i64 c, .slice A4 l4 c4] 57))) := J ((Below.refl _ _).alloc (Nat.le_refl _) _)
 have H0 := J (h.on HB0.out)
 have HN0 : Hid (Nxt G w G (w.alloc (.cells #[.int .u8 (op : Int), .int .u32 (a : Int), .int .u32 (b : Int), .int .i64 c, .slice A4 l4 c4] 57))) := J (Nxt.of_below HB0.out)
 have HGX : Hid (¬ G w.heap.size ∧ w.heap.size < (w.alloc (.cells #[.int .u8 (op : Int), .int .u32 (a : Int), .int .u32 (b : Int), .int .i64 c, .slice A4 l4 c4] 57)).heap.size) := J ⟨fun hg => Nat.lt_irrefl _ (h.out _ hg).2, by simp⟩
 clear h
 go_enter Tryz.func74, Tryz.ntmps74
 go_upto_region 1 with fail
 generalize (w.alloc (.cells #[.int .u8 (op : Int), .int .u32 (a : Int), .int .u32 (b : Int), .int .i64 c, .slice A4 l4 c4] 57)) = w0 at HX0 HB0 H0 HN0 HGX ⊢
 obtain ⟨X, hX⟩ : ∃ X, w.heap.size = X := ⟨_, rfl⟩
 rw [hX] at HX0 HGX
 simp only [hX]
 clear hX HB0
 obtain ⟨z0, z1, z2, z3, z4⟩ := cells5 HX0.out
 obtain ⟨q0, q1, q2, q3, q4, q5⟩ := H0.out.cells
 have HCC := J (fun W (hb : Below w0.heap.size w0 W) => And.intro (cells5 ((hb.block X HGX.out.2).trans HX0.out)) (H0.out.on hb).cells)
 clear z0 z1 z2 z3 z4 q0 q1 q2 q3 q4 q5
 have HLB := J (fun W (hb : Below w0.heap.size w0 W) => bZ (H0.out.on hb) hs (by omega) a ha)
 cases hl : s.labelA a with
 | none =>
  rw [hl] at HLB
  have HT : Hid (Bo.br a s = .error 101) := J (by unfold Bo.br; rw [hl])
  clear hl hs hn ha
  go_upto_region 1 with fail
  refine wp_region_held_drew (S := fun W' => Below w0.heap.size w0 W') (by kernel_rfl) (Below.drew (Below.refl _ _)) (fun hHeld => ?_)
  refine dt 0 rfl (v := ?_) ?_ ?_
  rotate_left
  ·(intro wy hSw; obtain ⟨⟨z0, z1, z2, z3, z4⟩, q0, q1, q2, q3, q4, q5⟩ := HCC.out wy hSw; go_simp; try with_reducible rfl)
  simp only [Act.put, O]
  refine dt 1 rfl (v := ?_) ?_ ?_
  rotate_left
  ·(intro wy hSw; obtain ⟨⟨z0, z1, z2, z3, z4⟩, q0, q1, q2, q3, q4, q5⟩ := HCC.out wy hSw; go_simp; try with_reducible rfl)
  simp only [Act.put, O]
  refine dt 2 rfl (v := ?_) ?_ ?_
  rotate_left
  ·(intro wy hSw; obtain ⟨⟨z0, z1, z2, z3, z4⟩, q0, q1, q2, q3, q4, q5⟩ := HCC.out wy hSw; go_simp; try with_reducible rfl)
  simp only [Act.put, O]
  refine dt 3 rfl (v := ?_) ?_ ?_
  rotate_left
  ·(intro wy hSw; obtain ⟨⟨z0, z1, z2, z3, z4⟩, q0, q1, q2, q3, q4, q5⟩ := HCC.out wy hSw; go_simp; try with_reducible rfl)
  simp only [Act.put, O]
  refine dt 4 rfl (v := ?_) ?_ ?_
  rotate_left
  ·(intro wy hSw; obtain ⟨⟨z0, z1, z2, z3, z4⟩, q0, q1, q2, q3, q4, q5⟩ := HCC.out wy hSw; go_simp; try with_reducible rfl)
  simp only [Act.put, O]
  refine dt 5 rfl (v := ?_) ?_ ?_
  rotate_left
  ·(intro wy hSw; obtain ⟨⟨z0, z1, z2, z3, z4⟩, q0, q1, q2, q3, q4, q5⟩ := HCC.out wy hSw; go_simp; try with_reducible rfl)
  simp only [Act.put, O]
  refine aa 6 rfl (by kernel_rfl) (fun K hK => ?_)
  try (rw [if_pos]; case hc => rfl)
  go_simp
  refine (HLB.out _ hHeld).mono ?_
  rintro e w1 ⟨he, hb⟩
  obtain rfl : e = .returned (.tuple #[.slice none 0 0, .bool false]) := he
  have hH : Below w0.heap.size w0 w1 := hHeld.trans (hb.mono hHeld.size)
  have HW1 := J hH
  clear hb
  go_wp2_with fail
  refine hK.out _ _ (hH) (fun hHeld2 => ?_)
  clear hK K hHeld
  have hHeld := hHeld2
  clear hHeld2
  refine dv 7 rfl ?_
  refine dv 8 rfl ?_
  refine dv 9 rfl ?_
  refine dv 10 rfl ?_
  refine dv 11 rfl ?_
  refine wpAnyH_done (by kernel_rfl) ?_ _
  go_wp2_with fail
  go_ret
  exact ai.err HT.out (H0.out.on HW1.out).base
 | some l =>
  rw [hl] at HLB
  have hll := Bo.sm_label hs hl
  have HT : Hid (Bo.br a s = Bo.goes s l) := J (by unfold Bo.br; rw [hl])
  have HGO := J (fun W v (hW : Below w0.heap.size w0 W) (hv : ab W (Apt W G) l v) => cJ (H0.out.on hW) hs hn l v hv (by omega))
  clear hl hs hn ha hll
  go_upto_region 1 with fail
  refine wp_region_held_drew (S := fun W' => Below w0.heap.size w0 W') (by kernel_rfl) (Below.drew (Below.refl _ _)) (fun hHeld => ?_)
  refine dt 0 rfl (v := ?_) ?_ ?_
  rotate_left
  ·(intro wy hSw; obtain ⟨⟨z0, z1, z2, z3, z4⟩, q0, q1, q2, q3, q4, q5⟩ := HCC.out wy hSw; go_simp; try with_reducible rfl)
  simp only [Act.put, O]
  refine dt 1 rfl (v := ?_) ?_ ?_
  rotate_left
  ·(intro wy hSw; obtain ⟨⟨z0, z1, z2, z3, z4⟩, q0, q1, q2, q3, q4, q5⟩ := HCC.out wy hSw; go_simp; try with_reducible rfl)
  simp only [Act.put, O]
  refine dt 2 rfl (v := ?_) ?_ ?_
  rotate_left
  ·(intro wy hSw; obtain ⟨⟨z0, z1, z2, z3, z4⟩, q0, q1, q2, q3, q4, q5⟩ := HCC.out wy hSw; go_simp; try with_reducible rfl)
  simp only [Act.put, O]
  refine dt 3 rfl (v := ?_) ?_ ?_
  rotate_left
  ·(intro wy hSw; obtain ⟨⟨z0, z1, z2, z3, z4⟩, q0, q1, q2, q3, q4, q5⟩ := HCC.out wy hSw; go_simp; try with_reducible rfl)
  simp only [Act.put, O]
  refine dt 4 rfl (v := ?_) ?_ ?_
  rotate_left
  ·(intro wy hSw; obtain ⟨⟨z0, z1, z2, z3, z4⟩, q0, q1, q2, q3, q4, q5⟩ := HCC.out wy hSw; go_simp; try with_reducible rfl)
  simp only [Act.put, O]
  refine dt 5 rfl (v := ?_) ?_ ?_
  rotate_left
  ·(intro wy hSw; obtain ⟨⟨z0, z1, z2, z3, z4⟩, q0, q1, q2, q3, q4, q5⟩ := HCC.out wy hSw; go_simp; try with_reducible rfl)
  simp only [Act.put, O]
  refine aa 6 rfl (by kernel_rfl) (fun K hK => ?_)
  try (rw [if_pos]; case hc => rfl)
  go_simp
  have hz := hHeld.size
  refine (HLB.out _ hHeld).mono ?_
  rintro e w1 ⟨⟨A1, c1, rfl, hv⟩, hb⟩
  have hH : Below w0.heap.size w0 w1 := hHeld.trans (hb.mono hHeld.size)
  have HW1 := J hH
  have HV1 : Hid (ab w1 (Apt w1 G) l (.slice A1 l.length c1)) := J (H0.out.fresh hH (hv.more (fun k _ hk => Nat.le_trans hz hk)))
  clear hb hv hz
  go_wp2_with fail
  refine hK.out _ _ (hH) (fun hHeld2 => ?_)
  clear hK K hHeld
  have hHeld := hHeld2
  clear hHeld2
  refine dv 7 rfl ?_
  refine dv 8 rfl ?_
  refine dv 9 rfl ?_
  refine dv 10 rfl ?_
  refine dv 11 rfl ?_
  refine wpAnyH_done (by kernel_rfl) ?_ _
  go_wp2_with (go_at_call 107; refine (HGO.out _ _ HW1.out HV1.out).mono ?_; rintro e w9 he; obtain ⟨k, rfl, hk⟩ := he.num; have HK := J hk; clear he hk)
  go_ret
  rw [HT.out]
  exact (HK.out.ahead (Nxt.of_below HW1.out)).ahead HN0.out
theorem bbrIf_any {C : Ctx} {R P n : Nat} {w : World} {G : Nat → Prop} {s : Ty.T} {o : List Bool} (h : Wk C R P w G s o) (hs : s.sm n) (hn : n ≤ 400000000) (op a b : Nat) (c : Int) (A4 : Option Addr) (l4 c4 : Nat) (ha : a < 4294967296) :
  Calls Tryz.prog 75 #[.pointer (some ⟨R, 0, none⟩), .agg #[.int .u8 (op : Int), .int .u32 (a : Int), .int .u32 (b : Int), .int .i64 c, .slice A4 l4 c4]] w (ai C R P G o w (Bo.brIf a s)) := by
 have HX0 := J (heap_alloc_new w (.cells #[.int .u8 (op : Int), .int .u32 (a : Int), .int .u32 (b : Int), .int .i64 c, .slice A4 l4 c4] 57))
 have HB0 : Hid (Below w.heap.size w (w.alloc (.cells #[.int .u8 (op : Int), .int .u32 (a : Int), .int .u32 (b : Int), .int .i64 c, .slice A4 l4 c4] 57))) := J ((Below.refl _ _).alloc (Nat.le_refl _) _)
 have H0 := J (h.on HB0.out)
 have HN0 : Hid (Nxt G w G (w.alloc (.cells #[.int .u8 (op : Int), .int .u32 (a : Int), .int .u32 (b : Int), .int .i64 c, .slice A4 l4 c4] 57))) := J (Nxt.of_below HB0.out)
 have HGX : Hid (¬ G w.heap.size ∧ w.heap.size < (w.alloc (.cells #[.int .u8 (op : Int), .int .u32 (a : Int), .int .u32 (b : Int), .int .i64 c, .slice A4 l4 c4] 57)).heap.size) := J ⟨fun hg => Nat.lt_irrefl _ (h.out _ hg).2, by simp⟩
 clear h
 go_enter Tryz.func75, Tryz.ntmps75
 go_upto_region 1 with fail
 generalize (w.alloc (.cells #[.int .u8 (op : Int), .int .u32 (a : Int), .int .u32 (b : Int), .int .i64 c, .slice A4 l4 c4] 57)) = w0 at HX0 HB0 H0 HN0 HGX ⊢
 obtain ⟨X, hX⟩ : ∃ X, w.heap.size = X := ⟨_, rfl⟩
 rw [hX] at HX0 HGX
 simp only [hX]
 clear hX HB0
 obtain ⟨z0, z1, z2, z3, z4⟩ := cells5 HX0.out
 obtain ⟨q0, q1, q2, q3, q4, q5⟩ := H0.out.cells
 have HCC := J (fun W (hb : Below w0.heap.size w0 W) => And.intro (cells5 ((hb.block X HGX.out.2).trans HX0.out)) (H0.out.on hb).cells)
 clear z0 z1 z2 z3 z4 q0 q1 q2 q3 q4 q5
 have HLB := J (fun W (hb : Below w0.heap.size w0 W) => bZ (H0.out.on hb) hs (by omega) a ha)
 cases hl : s.labelA a with
 | none =>
  rw [hl] at HLB
  have HT : Hid (Bo.brIf a s = .error 101) := J (by unfold Bo.brIf; rw [hl])
  clear hl hs hn ha
  go_upto_region 1 with fail
  refine wp_region_held_drew (S := fun W' => Below w0.heap.size w0 W') (by kernel_rfl) (Below.drew (Below.refl _ _)) (fun hHeld => ?_)
  refine dt 0 rfl (v := ?_) ?_ ?_
  rotate_left
  ·(intro wy hSw; obtain ⟨⟨z0, z1, z2, z3, z4⟩, q0, q1, q2, q3, q4, q5⟩ := HCC.out wy hSw; go_simp; try with_reducible rfl)
  simp only [Act.put, O]
  refine dt 1 rfl (v := ?_) ?_ ?_
  rotate_left
  ·(intro wy hSw; obtain ⟨⟨z0, z1, z2, z3, z4⟩, q0, q1, q2, q3, q4, q5⟩ := HCC.out wy hSw; go_simp; try with_reducible rfl)
  simp only [Act.put, O]
  refine dt 2 rfl (v := ?_) ?_ ?_
  rotate_left
  ·(intro wy hSw; obtain ⟨⟨z0, z1, z2, z3, z4⟩, q0, q1, q2, q3, q4, q5⟩ := HCC.out wy hSw; go_simp; try with_reducible rfl)
  simp only [Act.put, O]
  refine dt 3 rfl (v := ?_) ?_ ?_
  rotate_left
  ·(intro wy hSw; obtain ⟨⟨z0, z1, z2, z3, z4⟩, q0, q1, q2, q3, q4, q5⟩ := HCC.out wy hSw; go_simp; try with_reducible rfl)
  simp only [Act.put, O]
  refine dt 4 rfl (v := ?_) ?_ ?_
  rotate_left
  ·(intro wy hSw; obtain ⟨⟨z0, z1, z2, z3, z4⟩, q0, q1, q2, q3, q4, q5⟩ := HCC.out wy hSw; go_simp; try with_reducible rfl)
  simp only [Act.put, O]
  refine dt 5 rfl (v := ?_) ?_ ?_
  rotate_left
  ·(intro wy hSw; obtain ⟨⟨z0, z1, z2, z3, z4⟩, q0, q1, q2, q3, q4, q5⟩ := HCC.out wy hSw; go_simp; try with_reducible rfl)
  simp only [Act.put, O]
  refine aa 6 rfl (by kernel_rfl) (fun K hK => ?_)
  try (rw [if_pos]; case hc => rfl)
  go_simp
  refine (HLB.out _ hHeld).mono ?_
  rintro e w1 ⟨he, hb⟩
  obtain rfl : e = .returned (.tuple #[.slice none 0 0, .bool false]) := he
  have hH : Below w0.heap.size w0 w1 := hHeld.trans (hb.mono hHeld.size)
  have HW1 := J hH
  clear hb
  go_wp2_with fail
  refine hK.out _ _ (hH) (fun hHeld2 => ?_)
  clear hK K hHeld
  have hHeld := hHeld2
  clear hHeld2
  refine dv 7 rfl ?_
  refine dv 8 rfl ?_
  refine dv 9 rfl ?_
  refine dv 10 rfl ?_
  refine dv 11 rfl ?_
  refine wpAnyH_done (by kernel_rfl) ?_ _
  go_wp2_with fail
  go_ret
  exact ai.err HT.out (H0.out.on HW1.out).base
 | some l =>
  rw [hl] at HLB
  have hll := Bo.sm_label hs hl
  have hwa := fun W (hW : Below w0.heap.size w0 W) => Wk.i32 (H0.out.on hW) hs (by omega)
  cases hw : s.wantA [127] with
  | false =>
   rw [hw] at hwa
   have HWA := J hwa
   have HT : Hid (Bo.brIf a s = .error 100) := J (by unfold Bo.brIf; rw [hl]; dsimp only; rw [hw]; rfl)
   clear hl hs hn ha hll hw hwa
   go_upto_region 1 with fail
   refine wp_region_held_drew (S := fun W' => Below w0.heap.size w0 W') (by kernel_rfl) (Below.drew (Below.refl _ _)) (fun hHeld => ?_)
   refine dt 0 rfl (v := ?_) ?_ ?_
   rotate_left
   ·(intro wy hSw; obtain ⟨⟨z0, z1, z2, z3, z4⟩, q0, q1, q2, q3, q4, q5⟩ := HCC.out wy hSw; go_simp; try with_reducible rfl)
   simp only [Act.put, O]
   refine dt 1 rfl (v := ?_) ?_ ?_
   rotate_left
   ·(intro wy hSw; obtain ⟨⟨z0, z1, z2, z3, z4⟩, q0, q1, q2, q3, q4, q5⟩ := HCC.out wy hSw; go_simp; try with_reducible rfl)
   simp only [Act.put, O]
   refine dt 2 rfl (v := ?_) ?_ ?_
   rotate_left
   ·(intro wy hSw; obtain ⟨⟨z0, z1, z2, z3, z4⟩, q0, q1, q2, q3, q4, q5⟩ := HCC.out wy hSw; go_simp; try with_reducible rfl)
   simp only [Act.put, O]
   refine dt 3 rfl (v := ?_) ?_ ?_
   rotate_left
   ·(intro wy hSw; obtain ⟨⟨z0, z1, z2, z3, z4⟩, q0, q1, q2, q3, q4, q5⟩ := HCC.out wy hSw; go_simp; try with_reducible rfl)
   simp only [Act.put, O]
   refine dt 4 rfl (v := ?_) ?_ ?_
   rotate_left
   ·(intro wy hSw; obtain ⟨⟨z0, z1, z2, z3, z4⟩, q0, q1, q2, q3, q4, q5⟩ := HCC.out wy hSw; go_simp; try with_reducible rfl)
   simp only [Act.put, O]
   refine dt 5 rfl (v := ?_) ?_ ?_
   rotate_left
   ·(intro wy hSw; obtain ⟨⟨z0, z1, z2, z3, z4⟩, q0, q1, q2, q3, q4, q5⟩ := HCC.out wy hSw; go_simp; try with_reducible rfl)
   simp only [Act.put, O]
   refine aa 6 rfl (by kernel_rfl) (fun K hK => ?_)
   try (rw [if_pos]; case hc => rfl)
   go_simp
   have hz := hHeld.size
   refine (HLB.out _ hHeld).mono ?_
   rintro e w1 ⟨⟨A1, c1, rfl, hv⟩, hb⟩
   have hH : Below w0.heap.size w0 w1 := hHeld.trans (hb.mono hHeld.size)
   have HW1 := J hH
   have HV1 : Hid (ab w1 (Apt w1 G) l (.slice A1 l.length c1)) := J (H0.out.fresh hH (hv.more (fun k _ hk => Nat.le_trans hz hk)))
   clear hb hv hz
   go_wp2_with fail
   refine hK.out _ _ (hH) (fun hHeld2 => ?_)
   clear hK K hHeld
   have hHeld := hHeld2
   clear hHeld2
   refine dv 7 rfl ?_
   refine dv 8 rfl ?_
   refine dv 9 rfl ?_
   refine dv 10 rfl ?_
   refine dv 11 rfl ?_
   refine wpAnyH_done (by kernel_rfl) ?_ _
   obtain ⟨⟨x0, x1, x2, x3, x4⟩, y0, y1, y2, y3, y4, y5⟩ := HCC.out w1 HW1.out
   go_wp2_with (go_at_call 104; refine (HWA.out _ HW1.out).mono ?_; rintro e w2 ⟨rfl, G2, h2, n2⟩; have H2 := J h2; have HN2 := J n2; clear h2 n2)
   go_ret
   exact ai.err HT.out ((H0.out.on HW1.out).below HN2.out)
  | true =>
   rw [hw] at hwa
   have HWA := J hwa
   have HT : Hid (Bo.brIf a s = Bo.turned (s.want [127]) l l) := J (by unfold Bo.brIf; rw [hl]; dsimp only; rw [hw]; rfl)
   have HTU := J (fun W G2 v (hW : Wk C R P W G2 (s.want [127]) o) (hv : ab W (Apt W G2) l v) => aK hW (Ty.sm_want hs _) hn l l v v hv hv (by omega) (by omega))
   clear hl hs hn ha hll hw hwa
   go_upto_region 1 with fail
   refine wp_region_held_drew (S := fun W' => Below w0.heap.size w0 W') (by kernel_rfl) (Below.drew (Below.refl _ _)) (fun hHeld => ?_)
   refine dt 0 rfl (v := ?_) ?_ ?_
   rotate_left
   ·(intro wy hSw; obtain ⟨⟨z0, z1, z2, z3, z4⟩, q0, q1, q2, q3, q4, q5⟩ := HCC.out wy hSw; go_simp; try with_reducible rfl)
   simp only [Act.put, O]
   refine dt 1 rfl (v := ?_) ?_ ?_
   rotate_left
   ·(intro wy hSw; obtain ⟨⟨z0, z1, z2, z3, z4⟩, q0, q1, q2, q3, q4, q5⟩ := HCC.out wy hSw; go_simp; try with_reducible rfl)
   simp only [Act.put, O]
   refine dt 2 rfl (v := ?_) ?_ ?_
   rotate_left
   ·(intro wy hSw; obtain ⟨⟨z0, z1, z2, z3, z4⟩, q0, q1, q2, q3, q4, q5⟩ := HCC.out wy hSw; go_simp; try with_reducible rfl)
   simp only [Act.put, O]
   refine dt 3 rfl (v := ?_) ?_ ?_
   rotate_left
   ·(intro wy hSw; obtain ⟨⟨z0, z1, z2, z3, z4⟩, q0, q1, q2, q3, q4, q5⟩ := HCC.out wy hSw; go_simp; try with_reducible rfl)
   simp only [Act.put, O]
   refine dt 4 rfl (v := ?_) ?_ ?_
   rotate_left
   ·(intro wy hSw; obtain ⟨⟨z0, z1, z2, z3, z4⟩, q0, q1, q2, q3, q4, q5⟩ := HCC.out wy hSw; go_simp; try with_reducible rfl)
   simp only [Act.put, O]
   refine dt 5 rfl (v := ?_) ?_ ?_
   rotate_left
   ·(intro wy hSw; obtain ⟨⟨z0, z1, z2, z3, z4⟩, q0, q1, q2, q3, q4, q5⟩ := HCC.out wy hSw; go_simp; try with_reducible rfl)
   simp only [Act.put, O]
   refine aa 6 rfl (by kernel_rfl) (fun K hK => ?_)
   try (rw [if_pos]; case hc => rfl)
   go_simp
   have hz := hHeld.size
   refine (HLB.out _ hHeld).mono ?_
   rintro e w1 ⟨⟨A1, c1, rfl, hv⟩, hb⟩
   have hH : Below w0.heap.size w0 w1 := hHeld.trans (hb.mono hHeld.size)
   have HW1 := J hH
   have HV1 : Hid (ab w1 (Apt w1 G) l (.slice A1 l.length c1)) := J (H0.out.fresh hH (hv.more (fun k _ hk => Nat.le_trans hz hk)))
   clear hb hv hz
   go_wp2_with fail
   refine hK.out _ _ (hH) (fun hHeld2 => ?_)
   clear hK K hHeld
   have hHeld := hHeld2
   clear hHeld2
   refine dv 7 rfl ?_
   refine dv 8 rfl ?_
   refine dv 9 rfl ?_
   refine dv 10 rfl ?_
   refine dv 11 rfl ?_
   refine wpAnyH_done (by kernel_rfl) ?_ _
   obtain ⟨⟨x0, x1, x2, x3, x4⟩, y0, y1, y2, y3, y4, y5⟩ := HCC.out w1 HW1.out
   go_wp2_with (first | (go_at_call 104; refine (HWA.out _ HW1.out).mono ?_; rintro e w2 ⟨rfl, G2, h2, n2⟩; have H2 := J h2; have HN2 := J n2; clear h2 n2) | (go_at_call 108; refine (HTU.out _ _ _ H2.out (Apt.next HV1.out HN2.out)).mono ?_; rintro e w9 he; obtain ⟨k, rfl, hk⟩ := he.num; have HK := J hk; clear he hk))
   go_ret
   rw [HT.out]
   exact ((HK.out.ahead HN2.out).ahead (Nxt.of_below HW1.out)).ahead HN0.out
end Go.Proofs.YtelcdmkbaegjoaaGreat
