/-
  Layer 10's program: call, call_indirect, global.get, global.set. (gen/body/meth3.py)
-/
import Derived.Test.YtelcdmkbaegjoaaGreatLq01
import Derived.Test.YtelcdmkbaegjoaaGreatLq37
import Derived.Test.YtelcdmkbaegjoaaGreatLq33
set_option maxRecDepth 100000
set_option maxHeartbeats 4000000
namespace Sp
theorem few_func {m : Bin.M} {i : Nat} {t : Bin.FT} (hF : Lots m) (h : func m i = some t) : t.params.length ≤ 1050000 ∧ t.results.length ≤ 1050000 := by
 unfold func at h
 cases hx : (funs m)[i]? with
 | none => rw [hx] at h; cases h
 | some k =>
  rw [hx] at h
  exact hF.each t (List.mem_of_getElem? h)
end Sp
namespace Go.Proofs.YtelcdmkbaegjoaaGreat
open Go.RowKit Ins Bin Sp
theorem bg.no {w w' : World} {e : Ending} (h : bg none w e w') : ∃ A1 c1 A2 c2, e = .returned (.tuple #[.agg #[.slice A1 0 c1, .slice A2 0 c2], .bool false]) ∧ Below w.heap.size w w' := by
 obtain ⟨u, v, rfl, ⟨A1, c1, rfl, _⟩, ⟨A2, c2, rfl, _⟩, hb⟩ := h
 exact ⟨A1, c1, A2, c2, rfl, hb⟩
theorem bg.yes {w w' : World} {e : Ending} {t : FT} (h : bg (some t) w e w') : ∃ A1 c1 A2 c2, e = .returned (.tuple #[.agg #[.slice A1 t.params.length c1, .slice A2 t.results.length c2], .bool true]) ∧ ab w' (w.heap.size ≤ ·) t.params (.slice A1 t.params.length c1) ∧ ab w' (w.heap.size ≤ ·) t.results (.slice A2 t.results.length c2) ∧ Below w.heap.size w w' := by
 obtain ⟨u, v, rfl, h1, h2, hb⟩ := h
 obtain ⟨A1, c1, rfl, _⟩ := id h1
 obtain ⟨A2, c2, rfl, _⟩ := id h2
 exact ⟨A1, c1, A2, c2, rfl, h1, h2, hb⟩
theorem bz.no {w w' : World} {e : Ending} (h : bz none w e w') : e = .returned (.tuple #[.agg #[.int .u8 0, .bool false], .bool false]) ∧ Below w.heap.size w w' := h
theorem bz.yes {w w' : World} {e : Ending} {g : Glob} (h : bz (some g) w e w') : e = .returned (.tuple #[.agg #[.int .u8 (g.t.toNat : Int), .bool g.mu], .bool true]) ∧ Below w.heap.size w w' := h
theorem ar {α : Type} [Lay α] {w : World} {S : Nat → Prop} {xs : List α} {v : Value} {Y : Nat} (h : ab w S xs v) (cs : Array Value) (hy : ∀ k, k < w.heap.size → S k → k ≠ Y) : ab (w.setRow Y cs) S xs v :=
 h.mod (T := (· = Y)) ⟨rfl, rfl, rfl, by simp, fun k _ ht => setRow_other w Y k _ ht⟩ (fun k hk hs e => hy k hk hs e)
theorem bcall_any {C : Ctx} {R P n : Nat} {w : World} {G : Nat → Prop} {s : Ty.T} {o : List Bool} (hC : C.Good) (h : Wk C R P w G s o) (hs : s.sm n) (hn : n ≤ 400000000) (op a b : Nat) (c : Int) (A4 : Option Addr) (l4 c4 : Nat) (ha : a < 4294967296) :
  Calls Tryz.prog 79 #[.pointer (some ⟨R, 0, none⟩), .agg #[.int .u8 (op : Int), .int .u32 (a : Int), .int .u32 (b : Int), .int .i64 c, .slice A4 l4 c4]] w (ak C R P G o w (Bo.call C.env a s)) := by
 have HX0 := J (heap_alloc_new w (.cells #[.int .u8 (op : Int), .int .u32 (a : Int), .int .u32 (b : Int), .int .i64 c, .slice A4 l4 c4] 57))
 have HB0 : Hid (Below w.heap.size w (w.alloc (.cells #[.int .u8 (op : Int), .int .u32 (a : Int), .int .u32 (b : Int), .int .i64 c, .slice A4 l4 c4] 57))) := J ((Below.refl _ _).alloc (Nat.le_refl _) _)
 have H0 := J (h.on HB0.out)
 have HN0 : Hid (Nxt G w G (w.alloc (.cells #[.int .u8 (op : Int), .int .u32 (a : Int), .int .u32 (b : Int), .int .i64 c, .slice A4 l4 c4] 57))) := J (Nxt.of_below HB0.out)
 have HGX : Hid (¬ G w.heap.size ∧ w.heap.size < (w.alloc (.cells #[.int .u8 (op : Int), .int .u32 (a : Int), .int .u32 (b : Int), .int .i64 c, .slice A4 l4 c4] 57)).heap.size) := J ⟨fun hg => Nat.lt_irrefl _ (h.out _ hg).2, by simp⟩
 have HFN := J (fun W (hW : Wk C R P W G s o) => cB (some ⟨C.sp, 0, none⟩) C.m a W (.inl ⟨C.sp, rfl, hC.space.grow hW.base⟩) (Lots.some hC.few) ha hC.funs)
 have HLN := J (fun t (ht : func C.m a = some t) => few_func hC.few ht)
 clear h hC
 go_enter Tryz.func79, Tryz.ntmps79
 go_upto_region 1 with fail
 generalize (w.alloc (.cells #[.int .u8 (op : Int), .int .u32 (a : Int), .int .u32 (b : Int), .int .i64 c, .slice A4 l4 c4] 57)) = w0 at HX0 HB0 H0 HN0 HGX ⊢
 obtain ⟨X, hX⟩ : ∃ X, w.heap.size = X := ⟨_, rfl⟩
 rw [hX] at HX0 HGX
 simp only [hX]
 clear hX HB0
 obtain ⟨z0, z1, z2, z3, z4⟩ := cells5 HX0.out
 obtain ⟨q0, q1, q2, q3, q4, q5⟩ := H0.out.cells
 have HCC := J (fun W (hb : Below w0.heap.size w0 W) => And.intro (cells5 ((hb.block X HGX.out.2).trans HX0.out)) (H0.out.on hb).cells)
 clear z0 z1 z2 z3 z4 q0 q1 q2 q3 q4 q5
 have HFN := J (fun W (hb : Below w0.heap.size w0 W) => HFN.out W (H0.out.on hb))
 cases hx : func C.m a with
 | none =>
  rw [hx] at HFN
  have HT : Hid (Bo.call C.env a s = .error 80) := J (by unfold Bo.call Ctx.env; dsimp only; rw [hx]; rfl)
  clear hx hs hn ha
  go_upto_region 1 with fail
  refine wp_region_held_drew (S := fun W' => Below w0.heap.size w0 W') (by kernel_rfl) (Below.drew (Below.refl _ _)) (fun hHeld => ?_)
  refine dt 0 rfl (v := ?_) ?_ ?_
  rotate_left
  ·(intro wy hSw; obtain ⟨⟨z0, z1, z2, z3, z4⟩, q0, q1, q2, q3, q4, q5⟩ := HCC.out wy hSw; go_simp; try with_reducible rfl)
  simp only [Act.put, O]
  refine dt 1 rfl (v := ?_) ?_ ?_
  rotate_left
  ·(intro wy hSw; obtain ⟨⟨z0, z1, z2, z3, z4⟩, q0, q1, q2, q3, q4, q5⟩ := HCC.out wy hSw; go_simp; try with_reducible rfl)
  simp only [Act.put, O]
  refine dt 2 rfl (v := ?_) ?_ ?_
  rotate_left
  ·(intro wy hSw; obtain ⟨⟨z0, z1, z2, z3, z4⟩, q0, q1, q2, q3, q4, q5⟩ := HCC.out wy hSw; go_simp; try with_reducible rfl)
  simp only [Act.put, O]
  refine dt 3 rfl (v := ?_) ?_ ?_
  rotate_left
  ·(intro wy hSw; obtain ⟨⟨z0, z1, z2, z3, z4⟩, q0, q1, q2, q3, q4, q5⟩ := HCC.out wy hSw; go_simp; try with_reducible rfl)
  simp only [Act.put, O]
  refine dt 4 rfl (v := ?_) ?_ ?_
  rotate_left
  ·(intro wy hSw; obtain ⟨⟨z0, z1, z2, z3, z4⟩, q0, q1, q2, q3, q4, q5⟩ := HCC.out wy hSw; go_simp; try with_reducible rfl)
  simp only [Act.put, O]
  refine dt 5 rfl (v := ?_) ?_ ?_
  rotate_left
  ·(intro wy hSw; obtain ⟨⟨z0, z1, z2, z3, z4⟩, q0, q1, q2, q3, q4, q5⟩ := HCC.out wy hSw; go_simp; try with_reducible rfl)
  simp only [Act.put, O]
  refine ah 6 10 rfl rfl (by kernel_rfl) (fun K hK => ?_) (fun K hK => ?_)
  ·try (rw [if_pos]; case hc => rfl)
   go_simp
   refine (HFN.out _ hHeld).mono ?_
   rintro e w1 he
   obtain ⟨A1, c1, A2, c2, rfl, hb⟩ := he.no
   have hH : Below w0.heap.size w0 w1 := hHeld.trans (hb.mono hHeld.size)
   have hz1 : w0.heap.size ≤ w1.heap.size := hH.size
   go_wp2_with fail
   refine hK.out _ _ hH (fun hHeld2 => ?_)
   clear hK K hHeld
   have hHeld := hHeld2
   clear hHeld2
   refine dv 7 rfl ?_
   refine dv 8 rfl ?_
   refine dv 9 rfl ?_
   have HB1 : Hid (Below w0.heap.size w0 (w1.alloc (.cells #[.slice none 0 0, .slice none 0 0] 51))) := J (hHeld.alloc hHeld.size _)
   have HZ1 := J (heap_alloc_new w1 (.cells #[.slice none 0 0, .slice none 0 0] 51))
   have HY1 : Hid (w0.heap.size ≤ w1.heap.size) := J hz1
   refine aa 10 rfl (by kernel_rfl) (fun K hK => ?_)
   try (rw [if_pos]; case hc => rfl)
   go_simp
   refine hK.out _ _ HB1.out (fun hHeld2 => ?_)
   clear hK K hHeld
   have hHeld := hHeld2
   clear hHeld2
   refine aa 11 rfl (by kernel_rfl) (fun K hK => ?_)
   try (rw [if_pos]; case hc => rfl)
   refine wp_store_row 51 (.tmp 5) (.tmp 15) rfl w1.heap.size #[.slice A1 0 c1, .slice A2 0 c2] rfl rfl 51 #[.slice none 0 0, .slice none 0 0] HZ1.out ao rfl (by simp [Value.oneCell']) ?_
   refine hK.out _ _ (ac HB1.out HY1.out _) (fun hHeld2 => ?_)
   clear hK K hHeld
   have hHeld := hHeld2
   clear hHeld2
   refine dv 12 rfl ?_
   refine wpAnyH_done (by kernel_rfl) ?_ _
   have HBF : Hid (Below w0.heap.size w0 ((w1.alloc (.cells #[.slice none 0 0, .slice none 0 0] 51)).setRow w1.heap.size #[.slice A1 0 c1, .slice A2 0 c2])) := J hHeld
   go_wp2_with fail
   go_ret
   exact ak.err HT.out (H0.out.on HBF.out).base
  ·try (rw [if_pos]; case hc => rfl)
   go_simp
   have hB0 : Below w0.heap.size w0 (w0.drew.alloc (.cells #[.slice none 0 0, .slice none 0 0] 51)) := hHeld.alloc hHeld.size _
   have hZ0 := heap_alloc_new w0.drew (.cells #[.slice none 0 0, .slice none 0 0] 51)
   have hl0 : w0.heap.size < (w0.drew.alloc (.cells #[.slice none 0 0, .slice none 0 0] 51)).heap.size := by simp
   refine hK.out _ _ hB0 (fun hHeld2 => ?_)
   clear hK K hHeld
   have hHeld := hHeld2
   clear hHeld2
   refine aa 6 rfl (by kernel_rfl) (fun K hK => ?_)
   try (rw [if_pos]; case hc => rfl)
   go_simp
   refine (HFN.out _ hB0).mono ?_
   rintro e w1 he
   obtain ⟨A1, c1, A2, c2, rfl, hb⟩ := he.no
   have hH : Below w0.heap.size w0 w1 := hB0.trans (hb.mono hB0.size)
   have HB1 : Hid (Below w0.heap.size w0 w1) := J hH
   have HZ1 : Hid (w1.heap[w0.heap.size]? = some (.cells #[.slice none 0 0, .slice none 0 0] 51 (0, 0))) := J ((hb.block _ hl0).trans hZ0)
   have HY1 : Hid (w0.heap.size ≤ w0.heap.size) := J (Nat.le_refl _)
   go_wp2_with fail
   refine hK.out _ _ hH (fun hHeld2 => ?_)
   clear hK K hHeld
   have hHeld := hHeld2
   clear hHeld2
   refine dv 7 rfl ?_
   refine dv 8 rfl ?_
   refine dv 9 rfl ?_
   refine aa 11 rfl (by kernel_rfl) (fun K hK => ?_)
   try (rw [if_pos]; case hc => rfl)
   refine wp_store_row 51 (.tmp 5) (.tmp 15) rfl w0.heap.size #[.slice A1 0 c1, .slice A2 0 c2] rfl rfl 51 #[.slice none 0 0, .slice none 0 0] HZ1.out ao rfl (by simp [Value.oneCell']) ?_
   refine hK.out _ _ (ac HB1.out HY1.out _) (fun hHeld2 => ?_)
   clear hK K hHeld
   have hHeld := hHeld2
   clear hHeld2
   refine dv 12 rfl ?_
   refine wpAnyH_done (by kernel_rfl) ?_ _
   have HBF : Hid (Below w0.heap.size w0 (w1.setRow w0.heap.size #[.slice A1 0 c1, .slice A2 0 c2])) := J hHeld
   go_wp2_with fail
   go_ret
   exact ak.err HT.out (H0.out.on HBF.out).base
 | some t =>
  rw [hx] at HFN
  obtain ⟨hl1, hl2⟩ := HLN.out t hx
  have HT : Hid (Bo.call C.env a s = Bo.turned s t.params t.results) := J (by unfold Bo.call Ctx.env; dsimp only; rw [hx]; rfl)
  have HTU := J (fun W v1 v2 (hW : Below w0.heap.size w0 W) (h1 : ab W (Apt W G) t.params v1) (h2 : ab W (Apt W G) t.results v2) => aI (H0.out.on hW) hs hn _ _ v1 v2 h1 h2 (by omega) (by omega))
  clear hx hs hn ha hl1 hl2 HLN
  go_upto_region 1 with fail
  refine wp_region_held_drew (S := fun W' => Below w0.heap.size w0 W') (by kernel_rfl) (Below.drew (Below.refl _ _)) (fun hHeld => ?_)
  refine dt 0 rfl (v := ?_) ?_ ?_
  rotate_left
  ·(intro wy hSw; obtain ⟨⟨z0, z1, z2, z3, z4⟩, q0, q1, q2, q3, q4, q5⟩ := HCC.out wy hSw; go_simp; try with_reducible rfl)
  simp only [Act.put, O]
  refine dt 1 rfl (v := ?_) ?_ ?_
  rotate_left
  ·(intro wy hSw; obtain ⟨⟨z0, z1, z2, z3, z4⟩, q0, q1, q2, q3, q4, q5⟩ := HCC.out wy hSw; go_simp; try with_reducible rfl)
  simp only [Act.put, O]
  refine dt 2 rfl (v := ?_) ?_ ?_
  rotate_left
  ·(intro wy hSw; obtain ⟨⟨z0, z1, z2, z3, z4⟩, q0, q1, q2, q3, q4, q5⟩ := HCC.out wy hSw; go_simp; try with_reducible rfl)
  simp only [Act.put, O]
  refine dt 3 rfl (v := ?_) ?_ ?_
  rotate_left
  ·(intro wy hSw; obtain ⟨⟨z0, z1, z2, z3, z4⟩, q0, q1, q2, q3, q4, q5⟩ := HCC.out wy hSw; go_simp; try with_reducible rfl)
  simp only [Act.put, O]
  refine dt 4 rfl (v := ?_) ?_ ?_
  rotate_left
  ·(intro wy hSw; obtain ⟨⟨z0, z1, z2, z3, z4⟩, q0, q1, q2, q3, q4, q5⟩ := HCC.out wy hSw; go_simp; try with_reducible rfl)
  simp only [Act.put, O]
  refine dt 5 rfl (v := ?_) ?_ ?_
  rotate_left
  ·(intro wy hSw; obtain ⟨⟨z0, z1, z2, z3, z4⟩, q0, q1, q2, q3, q4, q5⟩ := HCC.out wy hSw; go_simp; try with_reducible rfl)
  simp only [Act.put, O]
  refine ah 6 10 rfl rfl (by kernel_rfl) (fun K hK => ?_) (fun K hK => ?_)
  ·try (rw [if_pos]; case hc => rfl)
   go_simp
   refine (HFN.out _ hHeld).mono ?_
   rintro e w1 he
   obtain ⟨A1, c1, A2, c2, rfl, s1, s2, hb⟩ := he.yes
   have hH : Below w0.heap.size w0 w1 := hHeld.trans (hb.mono hHeld.size)
   have hz1 : w0.heap.size ≤ w1.heap.size := hH.size
   have HS1 : Hid (ab w1 (fun k => w0.heap.size ≤ k ∧ k ≠ w1.heap.size) t.params (.slice A1 t.params.length c1)) := J (s1.more (fun k hk h => ⟨h, by omega⟩))
   have HS2 : Hid (ab w1 (fun k => w0.heap.size ≤ k ∧ k ≠ w1.heap.size) t.results (.slice A2 t.results.length c2)) := J (s2.more (fun k hk h => ⟨h, by omega⟩))
   clear s1 s2
   go_wp2_with fail
   refine hK.out _ _ hH (fun hHeld2 => ?_)
   clear hK K hHeld
   have hHeld := hHeld2
   clear hHeld2
   refine dv 7 rfl ?_
   refine dv 8 rfl ?_
   refine dv 9 rfl ?_
   have HB1 : Hid (Below w0.heap.size w0 (w1.alloc (.cells #[.slice none 0 0, .slice none 0 0] 51))) := J (hHeld.alloc hHeld.size _)
   have HZ1 := J (heap_alloc_new w1 (.cells #[.slice none 0 0, .slice none 0 0] 51))
   have HY1 : Hid (w0.heap.size ≤ w1.heap.size) := J hz1
   refine aa 10 rfl (by kernel_rfl) (fun K hK => ?_)
   try (rw [if_pos]; case hc => rfl)
   go_simp
   refine hK.out _ _ HB1.out (fun hHeld2 => ?_)
   clear hK K hHeld
   have hHeld := hHeld2
   clear hHeld2
   refine aa 11 rfl (by kernel_rfl) (fun K hK => ?_)
   try (rw [if_pos]; case hc => rfl)
   refine wp_store_row 51 (.tmp 5) (.tmp 15) rfl w1.heap.size #[.slice A1 t.params.length c1, .slice A2 t.results.length c2] rfl rfl 51 #[.slice none 0 0, .slice none 0 0] HZ1.out ao rfl (by simp [Value.oneCell']) ?_
   refine hK.out _ _ (ac HB1.out HY1.out _) (fun hHeld2 => ?_)
   clear hK K hHeld
   have hHeld := hHeld2
   clear hHeld2
   refine dv 12 rfl ?_
   refine wpAnyH_done (by kernel_rfl) ?_ _
   have HBF : Hid (Below w0.heap.size w0 ((w1.alloc (.cells #[.slice none 0 0, .slice none 0 0] 51)).setRow w1.heap.size #[.slice A1 t.params.length c1, .slice A2 t.results.length c2])) := J hHeld
   obtain ⟨y0, y1⟩ := ae (setRow_heap _ _ #[.slice none 0 0, .slice none 0 0] #[.slice A1 t.params.length c1, .slice A2 t.results.length c2] _ _ HZ1.out)
   have HV1 := J ((ar (HS1.out.mod (T := fun _ => False) (Mod.of_below ((Below.refl _ _).alloc (Nat.le_refl _) _)) (fun _ _ _ h => h)) #[.slice A1 t.params.length c1, .slice A2 t.results.length c2] (fun k _ hs => hs.2)).more (S' := Apt ((w1.alloc (.cells #[.slice none 0 0, .slice none 0 0] 51)).setRow w1.heap.size #[.slice A1 t.params.length c1, .slice A2 t.results.length c2]) G) (fun k hk hs => ⟨fun hg => by have := (H0.out.out k hg).2; have := hs.1; omega, hk⟩))
   have HV2 := J ((ar (HS2.out.mod (T := fun _ => False) (Mod.of_below ((Below.refl _ _).alloc (Nat.le_refl _) _)) (fun _ _ _ h => h)) #[.slice A1 t.params.length c1, .slice A2 t.results.length c2] (fun k _ hs => hs.2)).more (S' := Apt ((w1.alloc (.cells #[.slice none 0 0, .slice none 0 0] 51)).setRow w1.heap.size #[.slice A1 t.params.length c1, .slice A2 t.results.length c2]) G) (fun k hk hs => ⟨fun hg => by have := (H0.out.out k hg).2; have := hs.1; omega, hk⟩))
   generalize (w1.alloc (.cells #[.slice none 0 0, .slice none 0 0] 51)).setRow w1.heap.size #[.slice A1 t.params.length c1, .slice A2 t.results.length c2] = wf at HBF y0 y1 HV1 HV2 ⊢
   go_wp2_with (go_at_call 108; refine (HTU.out _ _ _ HBF.out HV1.out HV2.out).mono ?_; rintro e w9 he; obtain ⟨k, rfl, hk⟩ := he.num; have HK := J hk; clear he hk)
   go_ret
   rw [HT.out]
   exact (HK.out.ahead (Nxt.of_below HBF.out)).ahead HN0.out
  ·try (rw [if_pos]; case hc => rfl)
   go_simp
   have hB0 : Below w0.heap.size w0 (w0.drew.alloc (.cells #[.slice none 0 0, .slice none 0 0] 51)) := hHeld.alloc hHeld.size _
   have hZ0 := heap_alloc_new w0.drew (.cells #[.slice none 0 0, .slice none 0 0] 51)
   have hl0 : w0.heap.size < (w0.drew.alloc (.cells #[.slice none 0 0, .slice none 0 0] 51)).heap.size := by simp
   refine hK.out _ _ hB0 (fun hHeld2 => ?_)
   clear hK K hHeld
   have hHeld := hHeld2
   clear hHeld2
   refine aa 6 rfl (by kernel_rfl) (fun K hK => ?_)
   try (rw [if_pos]; case hc => rfl)
   go_simp
   refine (HFN.out _ hB0).mono ?_
   rintro e w1 he
   obtain ⟨A1, c1, A2, c2, rfl, s1, s2, hb⟩ := he.yes
   have hH : Below w0.heap.size w0 w1 := hB0.trans (hb.mono hB0.size)
   have HB1 : Hid (Below w0.heap.size w0 w1) := J hH
   have HZ1 : Hid (w1.heap[w0.heap.size]? = some (.cells #[.slice none 0 0, .slice none 0 0] 51 (0, 0))) := J ((hb.block _ hl0).trans hZ0)
   have HY1 : Hid (w0.heap.size ≤ w0.heap.size) := J (Nat.le_refl _)
   have HS1 : Hid (ab w1 (fun k => w0.heap.size ≤ k ∧ k ≠ w0.heap.size) t.params (.slice A1 t.params.length c1)) := J (s1.more (fun k hk h => by have h' : (w0.drew.alloc (.cells #[.slice none 0 0, .slice none 0 0] 51)).heap.size ≤ k := h; simp at h'; exact ⟨by omega, by omega⟩))
   have HS2 : Hid (ab w1 (fun k => w0.heap.size ≤ k ∧ k ≠ w0.heap.size) t.results (.slice A2 t.results.length c2)) := J (s2.more (fun k hk h => by have h' : (w0.drew.alloc (.cells #[.slice none 0 0, .slice none 0 0] 51)).heap.size ≤ k := h; simp at h'; exact ⟨by omega, by omega⟩))
   clear s1 s2
   go_wp2_with fail
   refine hK.out _ _ hH (fun hHeld2 => ?_)
   clear hK K hHeld
   have hHeld := hHeld2
   clear hHeld2
   refine dv 7 rfl ?_
   refine dv 8 rfl ?_
   refine dv 9 rfl ?_
   refine aa 11 rfl (by kernel_rfl) (fun K hK => ?_)
   try (rw [if_pos]; case hc => rfl)
   refine wp_store_row 51 (.tmp 5) (.tmp 15) rfl w0.heap.size #[.slice A1 t.params.length c1, .slice A2 t.results.length c2] rfl rfl 51 #[.slice none 0 0, .slice none 0 0] HZ1.out ao rfl (by simp [Value.oneCell']) ?_
   refine hK.out _ _ (ac HB1.out HY1.out _) (fun hHeld2 => ?_)
   clear hK K hHeld
   have hHeld := hHeld2
   clear hHeld2
   refine dv 12 rfl ?_
   refine wpAnyH_done (by kernel_rfl) ?_ _
   have HBF : Hid (Below w0.heap.size w0 (w1.setRow w0.heap.size #[.slice A1 t.params.length c1, .slice A2 t.results.length c2])) := J hHeld
   obtain ⟨y0, y1⟩ := ae (setRow_heap _ _ #[.slice none 0 0, .slice none 0 0] #[.slice A1 t.params.length c1, .slice A2 t.results.length c2] _ _ HZ1.out)
   have HV1 := J ((ar HS1.out #[.slice A1 t.params.length c1, .slice A2 t.results.length c2] (fun k _ hs => hs.2)).more (S' := Apt (w1.setRow w0.heap.size #[.slice A1 t.params.length c1, .slice A2 t.results.length c2]) G) (fun k hk hs => ⟨fun hg => by have := (H0.out.out k hg).2; have := hs.1; omega, hk⟩))
   have HV2 := J ((ar HS2.out #[.slice A1 t.params.length c1, .slice A2 t.results.length c2] (fun k _ hs => hs.2)).more (S' := Apt (w1.setRow w0.heap.size #[.slice A1 t.params.length c1, .slice A2 t.results.length c2]) G) (fun k hk hs => ⟨fun hg => by have := (H0.out.out k hg).2; have := hs.1; omega, hk⟩))
   generalize w1.setRow w0.heap.size #[.slice A1 t.params.length c1, .slice A2 t.results.length c2] = wf at HBF y0 y1 HV1 HV2 ⊢
   go_wp2_with (go_at_call 108; refine (HTU.out _ _ _ HBF.out HV1.out HV2.out).mono ?_; rintro e w9 he; obtain ⟨k, rfl, hk⟩ := he.num; have HK := J hk; clear he hk)
   go_ret
   rw [HT.out]
   exact (HK.out.ahead (Nxt.of_below HBF.out)).ahead HN0.out
theorem bgget_any {C : Ctx} {R P n : Nat} {w : World} {G : Nat → Prop} {s : Ty.T} {o : List Bool} (hC : C.Good) (h : Wk C R P w G s o) (hs : s.sm n) (hn : n ≤ 400000000) (op a b : Nat) (c : Int) (A4 : Option Addr) (l4 c4 : Nat) (ha : a < 4294967296) :
  Calls Tryz.prog 84 #[.pointer (some ⟨R, 0, none⟩), .agg #[.int .u8 (op : Int), .int .u32 (a : Int), .int .u32 (b : Int), .int .i64 c, .slice A4 l4 c4]] w (ak C R P G o w (Bo.gget C.env a s)) := by
 have HX0 := J (heap_alloc_new w (.cells #[.int .u8 (op : Int), .int .u32 (a : Int), .int .u32 (b : Int), .int .i64 c, .slice A4 l4 c4] 57))
 have HB0 : Hid (Below w.heap.size w (w.alloc (.cells #[.int .u8 (op : Int), .int .u32 (a : Int), .int .u32 (b : Int), .int .i64 c, .slice A4 l4 c4] 57))) := J ((Below.refl _ _).alloc (Nat.le_refl _) _)
 have H0 := J (h.on HB0.out)
 have HN0 : Hid (Nxt G w G (w.alloc (.cells #[.int .u8 (op : Int), .int .u32 (a : Int), .int .u32 (b : Int), .int .i64 c, .slice A4 l4 c4] 57))) := J (Nxt.of_below HB0.out)
 have HGX : Hid (¬ G w.heap.size ∧ w.heap.size < (w.alloc (.cells #[.int .u8 (op : Int), .int .u32 (a : Int), .int .u32 (b : Int), .int .i64 c, .slice A4 l4 c4] 57)).heap.size) := J ⟨fun hg => Nat.lt_irrefl _ (h.out _ hg).2, by simp⟩
 have HFN := J (fun W (hW : Wk C R P W G s o) => bT (some ⟨C.sp, 0, none⟩) C.m a W (.inl ⟨C.sp, rfl, hC.space.grow hW.base⟩) (Lots.some hC.few) ha)
 clear h hC
 go_enter Tryz.func84, Tryz.ntmps84
 go_upto_region 1 with fail
 generalize (w.alloc (.cells #[.int .u8 (op : Int), .int .u32 (a : Int), .int .u32 (b : Int), .int .i64 c, .slice A4 l4 c4] 57)) = w0 at HX0 HB0 H0 HN0 HGX ⊢
 obtain ⟨X, hX⟩ : ∃ X, w.heap.size = X := ⟨_, rfl⟩
 rw [hX] at HX0 HGX
 simp only [hX]
 clear hX HB0
 obtain ⟨z0, z1, z2, z3, z4⟩ := cells5 HX0.out
 obtain ⟨q0, q1, q2, q3, q4, q5⟩ := H0.out.cells
 have HCC := J (fun W (hb : Below w0.heap.size w0 W) => And.intro (cells5 ((hb.block X HGX.out.2).trans HX0.out)) (H0.out.on hb).cells)
 clear z0 z1 z2 z3 z4 q0 q1 q2 q3 q4 q5
 have HFN := J (fun W (hb : Below w0.heap.size w0 W) => HFN.out W (H0.out.on hb))
 cases hx : (globs C.m)[a]? with
 | none =>
  rw [hx] at HFN
  have HT : Hid (Bo.gget C.env a s = .error 80) := J (by unfold Bo.gget Ctx.env; dsimp only; rw [hx]; rfl)
  clear hx hs hn ha
  go_upto_region 1 with fail
  refine wp_region_held_drew (S := fun W' => Below w0.heap.size w0 W') (by kernel_rfl) (Below.drew (Below.refl _ _)) (fun hHeld => ?_)
  refine dt 0 rfl (v := ?_) ?_ ?_
  rotate_left
  ·(intro wy hSw; obtain ⟨⟨z0, z1, z2, z3, z4⟩, q0, q1, q2, q3, q4, q5⟩ := HCC.out wy hSw; go_simp; try with_reducible rfl)
  simp only [Act.put, O]
  refine dt 1 rfl (v := ?_) ?_ ?_
  rotate_left
  ·(intro wy hSw; obtain ⟨⟨z0, z1, z2, z3, z4⟩, q0, q1, q2, q3, q4, q5⟩ := HCC.out wy hSw; go_simp; try with_reducible rfl)
  simp only [Act.put, O]
  refine dt 2 rfl (v := ?_) ?_ ?_
  rotate_left
  ·(intro wy hSw; obtain ⟨⟨z0, z1, z2, z3, z4⟩, q0, q1, q2, q3, q4, q5⟩ := HCC.out wy hSw; go_simp; try with_reducible rfl)
  simp only [Act.put, O]
  refine dt 3 rfl (v := ?_) ?_ ?_
  rotate_left
  ·(intro wy hSw; obtain ⟨⟨z0, z1, z2, z3, z4⟩, q0, q1, q2, q3, q4, q5⟩ := HCC.out wy hSw; go_simp; try with_reducible rfl)
  simp only [Act.put, O]
  refine dt 4 rfl (v := ?_) ?_ ?_
  rotate_left
  ·(intro wy hSw; obtain ⟨⟨z0, z1, z2, z3, z4⟩, q0, q1, q2, q3, q4, q5⟩ := HCC.out wy hSw; go_simp; try with_reducible rfl)
  simp only [Act.put, O]
  refine dt 5 rfl (v := ?_) ?_ ?_
  rotate_left
  ·(intro wy hSw; obtain ⟨⟨z0, z1, z2, z3, z4⟩, q0, q1, q2, q3, q4, q5⟩ := HCC.out wy hSw; go_simp; try with_reducible rfl)
  simp only [Act.put, O]
  refine ah 6 10 rfl rfl (by kernel_rfl) (fun K hK => ?_) (fun K hK => ?_)
  ·try (rw [if_pos]; case hc => rfl)
   go_simp
   refine (HFN.out _ hHeld).mono ?_
   rintro e w1 he
   obtain ⟨rfl, hb⟩ := he.no
   have hH : Below w0.heap.size w0 w1 := hHeld.trans (hb.mono hHeld.size)
   have hz1 : w0.heap.size ≤ w1.heap.size := hH.size
   go_wp2_with fail
   refine hK.out _ _ hH (fun hHeld2 => ?_)
   clear hK K hHeld
   have hHeld := hHeld2
   clear hHeld2
   refine dv 7 rfl ?_
   refine dv 8 rfl ?_
   refine dv 9 rfl ?_
   have HB1 : Hid (Below w0.heap.size w0 (w1.alloc (.cells #[.int .u8 0, .bool false] 76))) := J (hHeld.alloc hHeld.size _)
   have HZ1 := J (heap_alloc_new w1 (.cells #[.int .u8 0, .bool false] 76))
   have HY1 : Hid (w0.heap.size ≤ w1.heap.size) := J hz1
   refine aa 10 rfl (by kernel_rfl) (fun K hK => ?_)
   try (rw [if_pos]; case hc => rfl)
   go_simp
   refine hK.out _ _ HB1.out (fun hHeld2 => ?_)
   clear hK K hHeld
   have hHeld := hHeld2
   clear hHeld2
   refine aa 11 rfl (by kernel_rfl) (fun K hK => ?_)
   try (rw [if_pos]; case hc => rfl)
   refine wp_store_row 76 (.tmp 5) (.tmp 15) rfl w1.heap.size #[.int .u8 0, .bool false] rfl rfl 76 #[.int .u8 0, .bool false] HZ1.out am rfl (by simp [Value.oneCell']) ?_
   refine hK.out _ _ (ac HB1.out HY1.out _) (fun hHeld2 => ?_)
   clear hK K hHeld
   have hHeld := hHeld2
   clear hHeld2
   refine dv 12 rfl ?_
   refine wpAnyH_done (by kernel_rfl) ?_ _
   have HBF : Hid (Below w0.heap.size w0 ((w1.alloc (.cells #[.int .u8 0, .bool false] 76)).setRow w1.heap.size #[.int .u8 0, .bool false])) := J hHeld
   go_wp2_with fail
   go_ret
   exact ak.err HT.out (H0.out.on HBF.out).base
  ·try (rw [if_pos]; case hc => rfl)
   go_simp
   have hB0 : Below w0.heap.size w0 (w0.drew.alloc (.cells #[.int .u8 0, .bool false] 76)) := hHeld.alloc hHeld.size _
   have hZ0 := heap_alloc_new w0.drew (.cells #[.int .u8 0, .bool false] 76)
   have hl0 : w0.heap.size < (w0.drew.alloc (.cells #[.int .u8 0, .bool false] 76)).heap.size := by simp
   refine hK.out _ _ hB0 (fun hHeld2 => ?_)
   clear hK K hHeld
   have hHeld := hHeld2
   clear hHeld2
   refine aa 6 rfl (by kernel_rfl) (fun K hK => ?_)
   try (rw [if_pos]; case hc => rfl)
   go_simp
   refine (HFN.out _ hB0).mono ?_
   rintro e w1 he
   obtain ⟨rfl, hb⟩ := he.no
   have hH : Below w0.heap.size w0 w1 := hB0.trans (hb.mono hB0.size)
   have HB1 : Hid (Below w0.heap.size w0 w1) := J hH
   have HZ1 : Hid (w1.heap[w0.heap.size]? = some (.cells #[.int .u8 0, .bool false] 76 (0, 0))) := J ((hb.block _ hl0).trans hZ0)
   have HY1 : Hid (w0.heap.size ≤ w0.heap.size) := J (Nat.le_refl _)
   go_wp2_with fail
   refine hK.out _ _ hH (fun hHeld2 => ?_)
   clear hK K hHeld
   have hHeld := hHeld2
   clear hHeld2
   refine dv 7 rfl ?_
   refine dv 8 rfl ?_
   refine dv 9 rfl ?_
   refine aa 11 rfl (by kernel_rfl) (fun K hK => ?_)
   try (rw [if_pos]; case hc => rfl)
   refine wp_store_row 76 (.tmp 5) (.tmp 15) rfl w0.heap.size #[.int .u8 0, .bool false] rfl rfl 76 #[.int .u8 0, .bool false] HZ1.out am rfl (by simp [Value.oneCell']) ?_
   refine hK.out _ _ (ac HB1.out HY1.out _) (fun hHeld2 => ?_)
   clear hK K hHeld
   have hHeld := hHeld2
   clear hHeld2
   refine dv 12 rfl ?_
   refine wpAnyH_done (by kernel_rfl) ?_ _
   have HBF : Hid (Below w0.heap.size w0 (w1.setRow w0.heap.size #[.int .u8 0, .bool false])) := J hHeld
   go_wp2_with fail
   go_ret
   exact ak.err HT.out (H0.out.on HBF.out).base
 | some g =>
  rw [hx] at HFN
  have HT : Hid (Bo.gget C.env a s = Bo.turned s [] [g.t]) := J (by unfold Bo.gget Ctx.env; dsimp only; rw [hx]; rfl)
  have HTU := J (fun W v1 (hW : Wk C R P W G s o) (h1 : ab W (Apt W G) [g.t] v1) => aI hW hs hn [] [g.t] (.slice none 0 0) v1 (ab.nil _ _) h1 (by simp) (by simp))
  clear hx hs hn ha
  go_upto_region 1 with fail
  refine wp_region_held_drew (S := fun W' => Below w0.heap.size w0 W') (by kernel_rfl) (Below.drew (Below.refl _ _)) (fun hHeld => ?_)
  refine dt 0 rfl (v := ?_) ?_ ?_
  rotate_left
  ·(intro wy hSw; obtain ⟨⟨z0, z1, z2, z3, z4⟩, q0, q1, q2, q3, q4, q5⟩ := HCC.out wy hSw; go_simp; try with_reducible rfl)
  simp only [Act.put, O]
  refine dt 1 rfl (v := ?_) ?_ ?_
  rotate_left
  ·(intro wy hSw; obtain ⟨⟨z0, z1, z2, z3, z4⟩, q0, q1, q2, q3, q4, q5⟩ := HCC.out wy hSw; go_simp; try with_reducible rfl)
  simp only [Act.put, O]
  refine dt 2 rfl (v := ?_) ?_ ?_
  rotate_left
  ·(intro wy hSw; obtain ⟨⟨z0, z1, z2, z3, z4⟩, q0, q1, q2, q3, q4, q5⟩ := HCC.out wy hSw; go_simp; try with_reducible rfl)
  simp only [Act.put, O]
  refine dt 3 rfl (v := ?_) ?_ ?_
  rotate_left
  ·(intro wy hSw; obtain ⟨⟨z0, z1, z2, z3, z4⟩, q0, q1, q2, q3, q4, q5⟩ := HCC.out wy hSw; go_simp; try with_reducible rfl)
  simp only [Act.put, O]
  refine dt 4 rfl (v := ?_) ?_ ?_
  rotate_left
  ·(intro wy hSw; obtain ⟨⟨z0, z1, z2, z3, z4⟩, q0, q1, q2, q3, q4, q5⟩ := HCC.out wy hSw; go_simp; try with_reducible rfl)
  simp only [Act.put, O]
  refine dt 5 rfl (v := ?_) ?_ ?_
  rotate_left
  ·(intro wy hSw; obtain ⟨⟨z0, z1, z2, z3, z4⟩, q0, q1, q2, q3, q4, q5⟩ := HCC.out wy hSw; go_simp; try with_reducible rfl)
  simp only [Act.put, O]
  refine ah 6 10 rfl rfl (by kernel_rfl) (fun K hK => ?_) (fun K hK => ?_)
  ·try (rw [if_pos]; case hc => rfl)
   go_simp
   refine (HFN.out _ hHeld).mono ?_
   rintro e w1 he
   obtain ⟨rfl, hb⟩ := he.yes
   have hH : Below w0.heap.size w0 w1 := hHeld.trans (hb.mono hHeld.size)
   have hz1 : w0.heap.size ≤ w1.heap.size := hH.size
   go_wp2_with fail
   refine hK.out _ _ hH (fun hHeld2 => ?_)
   clear hK K hHeld
   have hHeld := hHeld2
   clear hHeld2
   refine dv 7 rfl ?_
   refine dv 8 rfl ?_
   refine dv 9 rfl ?_
   have HB1 : Hid (Below w0.heap.size w0 (w1.alloc (.cells #[.int .u8 0, .bool false] 76))) := J (hHeld.alloc hHeld.size _)
   have HZ1 := J (heap_alloc_new w1 (.cells #[.int .u8 0, .bool false] 76))
   have HY1 : Hid (w0.heap.size ≤ w1.heap.size) := J hz1
   refine aa 10 rfl (by kernel_rfl) (fun K hK => ?_)
   try (rw [if_pos]; case hc => rfl)
   go_simp
   refine hK.out _ _ HB1.out (fun hHeld2 => ?_)
   clear hK K hHeld
   have hHeld := hHeld2
   clear hHeld2
   refine aa 11 rfl (by kernel_rfl) (fun K hK => ?_)
   try (rw [if_pos]; case hc => rfl)
   refine wp_store_row 76 (.tmp 5) (.tmp 15) rfl w1.heap.size #[.int .u8 (g.t.toNat : Int), .bool g.mu] rfl rfl 76 #[.int .u8 0, .bool false] HZ1.out am rfl (by simp [Value.oneCell']) ?_
   refine hK.out _ _ (ac HB1.out HY1.out _) (fun hHeld2 => ?_)
   clear hK K hHeld
   have hHeld := hHeld2
   clear hHeld2
   refine dv 12 rfl ?_
   refine wpAnyH_done (by kernel_rfl) ?_ _
   have HBF : Hid (Below w0.heap.size w0 ((w1.alloc (.cells #[.int .u8 0, .bool false] 76)).setRow w1.heap.size #[.int .u8 (g.t.toNat : Int), .bool g.mu])) := J hHeld
   obtain ⟨y0, y1⟩ := ae (setRow_heap _ _ #[.int .u8 0, .bool false] #[.int .u8 (g.t.toNat : Int), .bool g.mu] _ _ HZ1.out)
   generalize (w1.alloc (.cells #[.int .u8 0, .bool false] 76)).setRow w1.heap.size #[.int .u8 (g.t.toNat : Int), .bool g.mu] = wf at HBF y0 y1 ⊢
   obtain ⟨hl1, hl2, hl3⟩ := (H0.out.on HBF.out).lit g.t
   have HL1 := J hl1
   have HL2 := J hl2
   have HL3 := J hl3
   clear hl1 hl2 hl3
   go_wp2_with (go_at_call 108; refine (HTU.out _ _ HL1.out HL3.out).mono ?_; rintro e w9 he; obtain ⟨k, rfl, hk⟩ := he.num; have HK := J hk; clear he hk)
   go_ret
   rw [HT.out]
   exact ((HK.out.ahead HL2.out).ahead (Nxt.of_below HBF.out)).ahead HN0.out
  ·try (rw [if_pos]; case hc => rfl)
   go_simp
   have hB0 : Below w0.heap.size w0 (w0.drew.alloc (.cells #[.int .u8 0, .bool false] 76)) := hHeld.alloc hHeld.size _
   have hZ0 := heap_alloc_new w0.drew (.cells #[.int .u8 0, .bool false] 76)
   have hl0 : w0.heap.size < (w0.drew.alloc (.cells #[.int .u8 0, .bool false] 76)).heap.size := by simp
   refine hK.out _ _ hB0 (fun hHeld2 => ?_)
   clear hK K hHeld
   have hHeld := hHeld2
   clear hHeld2
   refine aa 6 rfl (by kernel_rfl) (fun K hK => ?_)
   try (rw [if_pos]; case hc => rfl)
   go_simp
   refine (HFN.out _ hB0).mono ?_
   rintro e w1 he
   obtain ⟨rfl, hb⟩ := he.yes
   have hH : Below w0.heap.size w0 w1 := hB0.trans (hb.mono hB0.size)
   have HB1 : Hid (Below w0.heap.size w0 w1) := J hH
   have HZ1 : Hid (w1.heap[w0.heap.size]? = some (.cells #[.int .u8 0, .bool false] 76 (0, 0))) := J ((hb.block _ hl0).trans hZ0)
   have HY1 : Hid (w0.heap.size ≤ w0.heap.size) := J (Nat.le_refl _)
   go_wp2_with fail
   refine hK.out _ _ hH (fun hHeld2 => ?_)
   clear hK K hHeld
   have hHeld := hHeld2
   clear hHeld2
   refine dv 7 rfl ?_
   refine dv 8 rfl ?_
   refine dv 9 rfl ?_
   refine aa 11 rfl (by kernel_rfl) (fun K hK => ?_)
   try (rw [if_pos]; case hc => rfl)
   refine wp_store_row 76 (.tmp 5) (.tmp 15) rfl w0.heap.size #[.int .u8 (g.t.toNat : Int), .bool g.mu] rfl rfl 76 #[.int .u8 0, .bool false] HZ1.out am rfl (by simp [Value.oneCell']) ?_
   refine hK.out _ _ (ac HB1.out HY1.out _) (fun hHeld2 => ?_)
   clear hK K hHeld
   have hHeld := hHeld2
   clear hHeld2
   refine dv 12 rfl ?_
   refine wpAnyH_done (by kernel_rfl) ?_ _
   have HBF : Hid (Below w0.heap.size w0 (w1.setRow w0.heap.size #[.int .u8 (g.t.toNat : Int), .bool g.mu])) := J hHeld
   obtain ⟨y0, y1⟩ := ae (setRow_heap _ _ #[.int .u8 0, .bool false] #[.int .u8 (g.t.toNat : Int), .bool g.mu] _ _ HZ1.out)
   generalize w1.setRow w0.heap.size #[.int .u8 (g.t.toNat : Int), .bool g.mu] = wf at HBF y0 y1 ⊢
   obtain ⟨hl1, hl2, hl3⟩ := (H0.out.on HBF.out).lit g.t
   have HL1 := J hl1
   have HL2 := J hl2
   have HL3 := J hl3
   clear hl1 hl2 hl3
   go_wp2_with (go_at_call 108; refine (HTU.out _ _ HL1.out HL3.out).mono ?_; rintro e w9 he; obtain ⟨k, rfl, hk⟩ := he.num; have HK := J hk; clear he hk)
   go_ret
   rw [HT.out]
   exact ((HK.out.ahead HL2.out).ahead (Nxt.of_below HBF.out)).ahead HN0.out
theorem bgset_any {C : Ctx} {R P n : Nat} {w : World} {G : Nat → Prop} {s : Ty.T} {o : List Bool} (hC : C.Good) (h : Wk C R P w G s o) (hs : s.sm n) (hn : n ≤ 400000000) (op a b : Nat) (c : Int) (A4 : Option Addr) (l4 c4 : Nat) (ha : a < 4294967296) :
  Calls Tryz.prog 85 #[.pointer (some ⟨R, 0, none⟩), .agg #[.int .u8 (op : Int), .int .u32 (a : Int), .int .u32 (b : Int), .int .i64 c, .slice A4 l4 c4]] w (ak C R P G o w (Bo.gset C.env a s)) := by
 have HX0 := J (heap_alloc_new w (.cells #[.int .u8 (op : Int), .int .u32 (a : Int), .int .u32 (b : Int), .int .i64 c, .slice A4 l4 c4] 57))
 have HB0 : Hid (Below w.heap.size w (w.alloc (.cells #[.int .u8 (op : Int), .int .u32 (a : Int), .int .u32 (b : Int), .int .i64 c, .slice A4 l4 c4] 57))) := J ((Below.refl _ _).alloc (Nat.le_refl _) _)
 have H0 := J (h.on HB0.out)
 have HN0 : Hid (Nxt G w G (w.alloc (.cells #[.int .u8 (op : Int), .int .u32 (a : Int), .int .u32 (b : Int), .int .i64 c, .slice A4 l4 c4] 57))) := J (Nxt.of_below HB0.out)
 have HGX : Hid (¬ G w.heap.size ∧ w.heap.size < (w.alloc (.cells #[.int .u8 (op : Int), .int .u32 (a : Int), .int .u32 (b : Int), .int .i64 c, .slice A4 l4 c4] 57)).heap.size) := J ⟨fun hg => Nat.lt_irrefl _ (h.out _ hg).2, by simp⟩
 have HFN := J (fun W (hW : Wk C R P W G s o) => bT (some ⟨C.sp, 0, none⟩) C.m a W (.inl ⟨C.sp, rfl, hC.space.grow hW.base⟩) (Lots.some hC.few) ha)
 clear h hC
 go_enter Tryz.func85, Tryz.ntmps85
 go_upto_region 1 with fail
 generalize (w.alloc (.cells #[.int .u8 (op : Int), .int .u32 (a : Int), .int .u32 (b : Int), .int .i64 c, .slice A4 l4 c4] 57)) = w0 at HX0 HB0 H0 HN0 HGX ⊢
 obtain ⟨X, hX⟩ : ∃ X, w.heap.size = X := ⟨_, rfl⟩
 rw [hX] at HX0 HGX
 simp only [hX]
 clear hX HB0
 obtain ⟨z0, z1, z2, z3, z4⟩ := cells5 HX0.out
 obtain ⟨q0, q1, q2, q3, q4, q5⟩ := H0.out.cells
 have HCC := J (fun W (hb : Below w0.heap.size w0 W) => And.intro (cells5 ((hb.block X HGX.out.2).trans HX0.out)) (H0.out.on hb).cells)
 clear z0 z1 z2 z3 z4 q0 q1 q2 q3 q4 q5
 have HFN := J (fun W (hb : Below w0.heap.size w0 W) => HFN.out W (H0.out.on hb))
 cases hx : (globs C.m)[a]? with
 | none =>
  rw [hx] at HFN
  have HT : Hid (Bo.gset C.env a s = .error 80) := J (by unfold Bo.gset Ctx.env; dsimp only; rw [hx]; rfl)
  clear hx hs hn ha
  go_upto_region 1 with fail
  refine wp_region_held_drew (S := fun W' => Below w0.heap.size w0 W') (by kernel_rfl) (Below.drew (Below.refl _ _)) (fun hHeld => ?_)
  refine dt 0 rfl (v := ?_) ?_ ?_
  rotate_left
  ·(intro wy hSw; obtain ⟨⟨z0, z1, z2, z3, z4⟩, q0, q1, q2, q3, q4, q5⟩ := HCC.out wy hSw; go_simp; try with_reducible rfl)
  simp only [Act.put, O]
  refine dt 1 rfl (v := ?_) ?_ ?_
  rotate_left
  ·(intro wy hSw; obtain ⟨⟨z0, z1, z2, z3, z4⟩, q0, q1, q2, q3, q4, q5⟩ := HCC.out wy hSw; go_simp; try with_reducible rfl)
  simp only [Act.put, O]
  refine dt 2 rfl (v := ?_) ?_ ?_
  rotate_left
  ·(intro wy hSw; obtain ⟨⟨z0, z1, z2, z3, z4⟩, q0, q1, q2, q3, q4, q5⟩ := HCC.out wy hSw; go_simp; try with_reducible rfl)
  simp only [Act.put, O]
  refine dt 3 rfl (v := ?_) ?_ ?_
  rotate_left
  ·(intro wy hSw; obtain ⟨⟨z0, z1, z2, z3, z4⟩, q0, q1, q2, q3, q4, q5⟩ := HCC.out wy hSw; go_simp; try with_reducible rfl)
  simp only [Act.put, O]
  refine dt 4 rfl (v := ?_) ?_ ?_
  rotate_left
  ·(intro wy hSw; obtain ⟨⟨z0, z1, z2, z3, z4⟩, q0, q1, q2, q3, q4, q5⟩ := HCC.out wy hSw; go_simp; try with_reducible rfl)
  simp only [Act.put, O]
  refine dt 5 rfl (v := ?_) ?_ ?_
  rotate_left
  ·(intro wy hSw; obtain ⟨⟨z0, z1, z2, z3, z4⟩, q0, q1, q2, q3, q4, q5⟩ := HCC.out wy hSw; go_simp; try with_reducible rfl)
  simp only [Act.put, O]
  refine ah 6 10 rfl rfl (by kernel_rfl) (fun K hK => ?_) (fun K hK => ?_)
  ·try (rw [if_pos]; case hc => rfl)
   go_simp
   refine (HFN.out _ hHeld).mono ?_
   rintro e w1 he
   obtain ⟨rfl, hb⟩ := he.no
   have hH : Below w0.heap.size w0 w1 := hHeld.trans (hb.mono hHeld.size)
   have hz1 : w0.heap.size ≤ w1.heap.size := hH.size
   go_wp2_with fail
   refine hK.out _ _ hH (fun hHeld2 => ?_)
   clear hK K hHeld
   have hHeld := hHeld2
   clear hHeld2
   refine dv 7 rfl ?_
   refine dv 8 rfl ?_
   refine dv 9 rfl ?_
   have HB1 : Hid (Below w0.heap.size w0 (w1.alloc (.cells #[.int .u8 0, .bool false] 76))) := J (hHeld.alloc hHeld.size _)
   have HZ1 := J (heap_alloc_new w1 (.cells #[.int .u8 0, .bool false] 76))
   have HY1 : Hid (w0.heap.size ≤ w1.heap.size) := J hz1
   refine aa 10 rfl (by kernel_rfl) (fun K hK => ?_)
   try (rw [if_pos]; case hc => rfl)
   go_simp
   refine hK.out _ _ HB1.out (fun hHeld2 => ?_)
   clear hK K hHeld
   have hHeld := hHeld2
   clear hHeld2
   refine aa 11 rfl (by kernel_rfl) (fun K hK => ?_)
   try (rw [if_pos]; case hc => rfl)
   refine wp_store_row 76 (.tmp 5) (.tmp 15) rfl w1.heap.size #[.int .u8 0, .bool false] rfl rfl 76 #[.int .u8 0, .bool false] HZ1.out am rfl (by simp [Value.oneCell']) ?_
   refine hK.out _ _ (ac HB1.out HY1.out _) (fun hHeld2 => ?_)
   clear hK K hHeld
   have hHeld := hHeld2
   clear hHeld2
   refine dv 12 rfl ?_
   refine wpAnyH_done (by kernel_rfl) ?_ _
   have HBF : Hid (Below w0.heap.size w0 ((w1.alloc (.cells #[.int .u8 0, .bool false] 76)).setRow w1.heap.size #[.int .u8 0, .bool false])) := J hHeld
   go_wp2_with fail
   go_ret
   exact ak.err HT.out (H0.out.on HBF.out).base
  ·try (rw [if_pos]; case hc => rfl)
   go_simp
   have hB0 : Below w0.heap.size w0 (w0.drew.alloc (.cells #[.int .u8 0, .bool false] 76)) := hHeld.alloc hHeld.size _
   have hZ0 := heap_alloc_new w0.drew (.cells #[.int .u8 0, .bool false] 76)
   have hl0 : w0.heap.size < (w0.drew.alloc (.cells #[.int .u8 0, .bool false] 76)).heap.size := by simp
   refine hK.out _ _ hB0 (fun hHeld2 => ?_)
   clear hK K hHeld
   have hHeld := hHeld2
   clear hHeld2
   refine aa 6 rfl (by kernel_rfl) (fun K hK => ?_)
   try (rw [if_pos]; case hc => rfl)
   go_simp
   refine (HFN.out _ hB0).mono ?_
   rintro e w1 he
   obtain ⟨rfl, hb⟩ := he.no
   have hH : Below w0.heap.size w0 w1 := hB0.trans (hb.mono hB0.size)
   have HB1 : Hid (Below w0.heap.size w0 w1) := J hH
   have HZ1 : Hid (w1.heap[w0.heap.size]? = some (.cells #[.int .u8 0, .bool false] 76 (0, 0))) := J ((hb.block _ hl0).trans hZ0)
   have HY1 : Hid (w0.heap.size ≤ w0.heap.size) := J (Nat.le_refl _)
   go_wp2_with fail
   refine hK.out _ _ hH (fun hHeld2 => ?_)
   clear hK K hHeld
   have hHeld := hHeld2
   clear hHeld2
   refine dv 7 rfl ?_
   refine dv 8 rfl ?_
   refine dv 9 rfl ?_
   refine aa 11 rfl (by kernel_rfl) (fun K hK => ?_)
   try (rw [if_pos]; case hc => rfl)
   refine wp_store_row 76 (.tmp 5) (.tmp 15) rfl w0.heap.size #[.int .u8 0, .bool false] rfl rfl 76 #[.int .u8 0, .bool false] HZ1.out am rfl (by simp [Value.oneCell']) ?_
   refine hK.out _ _ (ac HB1.out HY1.out _) (fun hHeld2 => ?_)
   clear hK K hHeld
   have hHeld := hHeld2
   clear hHeld2
   refine dv 12 rfl ?_
   refine wpAnyH_done (by kernel_rfl) ?_ _
   have HBF : Hid (Below w0.heap.size w0 (w1.setRow w0.heap.size #[.int .u8 0, .bool false])) := J hHeld
   go_wp2_with fail
   go_ret
   exact ak.err HT.out (H0.out.on HBF.out).base
 | some g =>
  rw [hx] at HFN
  obtain ⟨gt, gm⟩ := g
  cases gm with
  | false =>
   have HT : Hid (Bo.gset C.env a s = .error 100) := J (by unfold Bo.gset Ctx.env; dsimp only; rw [hx]; rfl)
   clear hx hs hn ha
   go_upto_region 1 with fail
   refine wp_region_held_drew (S := fun W' => Below w0.heap.size w0 W') (by kernel_rfl) (Below.drew (Below.refl _ _)) (fun hHeld => ?_)
   refine dt 0 rfl (v := ?_) ?_ ?_
   rotate_left
   ·(intro wy hSw; obtain ⟨⟨z0, z1, z2, z3, z4⟩, q0, q1, q2, q3, q4, q5⟩ := HCC.out wy hSw; go_simp; try with_reducible rfl)
   simp only [Act.put, O]
   refine dt 1 rfl (v := ?_) ?_ ?_
   rotate_left
   ·(intro wy hSw; obtain ⟨⟨z0, z1, z2, z3, z4⟩, q0, q1, q2, q3, q4, q5⟩ := HCC.out wy hSw; go_simp; try with_reducible rfl)
   simp only [Act.put, O]
   refine dt 2 rfl (v := ?_) ?_ ?_
   rotate_left
   ·(intro wy hSw; obtain ⟨⟨z0, z1, z2, z3, z4⟩, q0, q1, q2, q3, q4, q5⟩ := HCC.out wy hSw; go_simp; try with_reducible rfl)
   simp only [Act.put, O]
   refine dt 3 rfl (v := ?_) ?_ ?_
   rotate_left
   ·(intro wy hSw; obtain ⟨⟨z0, z1, z2, z3, z4⟩, q0, q1, q2, q3, q4, q5⟩ := HCC.out wy hSw; go_simp; try with_reducible rfl)
   simp only [Act.put, O]
   refine dt 4 rfl (v := ?_) ?_ ?_
   rotate_left
   ·(intro wy hSw; obtain ⟨⟨z0, z1, z2, z3, z4⟩, q0, q1, q2, q3, q4, q5⟩ := HCC.out wy hSw; go_simp; try with_reducible rfl)
   simp only [Act.put, O]
   refine dt 5 rfl (v := ?_) ?_ ?_
   rotate_left
   ·(intro wy hSw; obtain ⟨⟨z0, z1, z2, z3, z4⟩, q0, q1, q2, q3, q4, q5⟩ := HCC.out wy hSw; go_simp; try with_reducible rfl)
   simp only [Act.put, O]
   refine ah 6 10 rfl rfl (by kernel_rfl) (fun K hK => ?_) (fun K hK => ?_)
   ·try (rw [if_pos]; case hc => rfl)
    go_simp
    refine (HFN.out _ hHeld).mono ?_
    rintro e w1 he
    obtain ⟨rfl, hb⟩ := he.yes
    have hH : Below w0.heap.size w0 w1 := hHeld.trans (hb.mono hHeld.size)
    have hz1 : w0.heap.size ≤ w1.heap.size := hH.size
    go_wp2_with fail
    refine hK.out _ _ hH (fun hHeld2 => ?_)
    clear hK K hHeld
    have hHeld := hHeld2
    clear hHeld2
    refine dv 7 rfl ?_
    refine dv 8 rfl ?_
    refine dv 9 rfl ?_
    have HB1 : Hid (Below w0.heap.size w0 (w1.alloc (.cells #[.int .u8 0, .bool false] 76))) := J (hHeld.alloc hHeld.size _)
    have HZ1 := J (heap_alloc_new w1 (.cells #[.int .u8 0, .bool false] 76))
    have HY1 : Hid (w0.heap.size ≤ w1.heap.size) := J hz1
    refine aa 10 rfl (by kernel_rfl) (fun K hK => ?_)
    try (rw [if_pos]; case hc => rfl)
    go_simp
    refine hK.out _ _ HB1.out (fun hHeld2 => ?_)
    clear hK K hHeld
    have hHeld := hHeld2
    clear hHeld2
    refine aa 11 rfl (by kernel_rfl) (fun K hK => ?_)
    try (rw [if_pos]; case hc => rfl)
    refine wp_store_row 76 (.tmp 5) (.tmp 15) rfl w1.heap.size #[.int .u8 (gt.toNat : Int), .bool false] rfl rfl 76 #[.int .u8 0, .bool false] HZ1.out am rfl (by simp [Value.oneCell']) ?_
    refine hK.out _ _ (ac HB1.out HY1.out _) (fun hHeld2 => ?_)
    clear hK K hHeld
    have hHeld := hHeld2
    clear hHeld2
    refine dv 12 rfl ?_
    refine wpAnyH_done (by kernel_rfl) ?_ _
    have HBF : Hid (Below w0.heap.size w0 ((w1.alloc (.cells #[.int .u8 0, .bool false] 76)).setRow w1.heap.size #[.int .u8 (gt.toNat : Int), .bool false])) := J hHeld
    obtain ⟨y0, y1⟩ := ae (setRow_heap _ _ #[.int .u8 0, .bool false] #[.int .u8 (gt.toNat : Int), .bool false] _ _ HZ1.out)
    generalize (w1.alloc (.cells #[.int .u8 0, .bool false] 76)).setRow w1.heap.size #[.int .u8 (gt.toNat : Int), .bool false] = wf at HBF y0 y1 ⊢
    obtain ⟨hl1, hl2, hl3⟩ := (H0.out.on HBF.out).lit gt
    have HL1 := J hl1
    have HL2 := J hl2
    have HL3 := J hl3
    clear hl1 hl2 hl3
    go_wp2_with fail
    go_ret
    exact ak.err HT.out (H0.out.on HBF.out).base
   ·try (rw [if_pos]; case hc => rfl)
    go_simp
    have hB0 : Below w0.heap.size w0 (w0.drew.alloc (.cells #[.int .u8 0, .bool false] 76)) := hHeld.alloc hHeld.size _
    have hZ0 := heap_alloc_new w0.drew (.cells #[.int .u8 0, .bool false] 76)
    have hl0 : w0.heap.size < (w0.drew.alloc (.cells #[.int .u8 0, .bool false] 76)).heap.size := by simp
    refine hK.out _ _ hB0 (fun hHeld2 => ?_)
    clear hK K hHeld
    have hHeld := hHeld2
    clear hHeld2
    refine aa 6 rfl (by kernel_rfl) (fun K hK => ?_)
    try (rw [if_pos]; case hc => rfl)
    go_simp
    refine (HFN.out _ hB0).mono ?_
    rintro e w1 he
    obtain ⟨rfl, hb⟩ := he.yes
    have hH : Below w0.heap.size w0 w1 := hB0.trans (hb.mono hB0.size)
    have HB1 : Hid (Below w0.heap.size w0 w1) := J hH
    have HZ1 : Hid (w1.heap[w0.heap.size]? = some (.cells #[.int .u8 0, .bool false] 76 (0, 0))) := J ((hb.block _ hl0).trans hZ0)
    have HY1 : Hid (w0.heap.size ≤ w0.heap.size) := J (Nat.le_refl _)
    go_wp2_with fail
    refine hK.out _ _ hH (fun hHeld2 => ?_)
    clear hK K hHeld
    have hHeld := hHeld2
    clear hHeld2
    refine dv 7 rfl ?_
    refine dv 8 rfl ?_
    refine dv 9 rfl ?_
    refine aa 11 rfl (by kernel_rfl) (fun K hK => ?_)
    try (rw [if_pos]; case hc => rfl)
    refine wp_store_row 76 (.tmp 5) (.tmp 15) rfl w0.heap.size #[.int .u8 (gt.toNat : Int), .bool false] rfl rfl 76 #[.int .u8 0, .bool false] HZ1.out am rfl (by simp [Value.oneCell']) ?_
    refine hK.out _ _ (ac HB1.out HY1.out _) (fun hHeld2 => ?_)
    clear hK K hHeld
    have hHeld := hHeld2
    clear hHeld2
    refine dv 12 rfl ?_
    refine wpAnyH_done (by kernel_rfl) ?_ _
    have HBF : Hid (Below w0.heap.size w0 (w1.setRow w0.heap.size #[.int .u8 (gt.toNat : Int), .bool false])) := J hHeld
    obtain ⟨y0, y1⟩ := ae (setRow_heap _ _ #[.int .u8 0, .bool false] #[.int .u8 (gt.toNat : Int), .bool false] _ _ HZ1.out)
    generalize w1.setRow w0.heap.size #[.int .u8 (gt.toNat : Int), .bool false] = wf at HBF y0 y1 ⊢
    obtain ⟨hl1, hl2, hl3⟩ := (H0.out.on HBF.out).lit gt
    have HL1 := J hl1
    have HL2 := J hl2
    have HL3 := J hl3
    clear hl1 hl2 hl3
    go_wp2_with fail
    go_ret
    exact ak.err HT.out (H0.out.on HBF.out).base
  | true =>
   have HT : Hid (Bo.gset C.env a s = Bo.turned s [gt] []) := J (by unfold Bo.gset Ctx.env; dsimp only; rw [hx]; rfl)
   have HTU := J (fun W v1 (hW : Wk C R P W G s o) (h1 : ab W (Apt W G) [gt] v1) => aI hW hs hn [gt] [] v1 (.slice none 0 0) h1 (ab.nil _ _) (by simp) (by simp))
   clear hx hs hn ha
   go_upto_region 1 with fail
   refine wp_region_held_drew (S := fun W' => Below w0.heap.size w0 W') (by kernel_rfl) (Below.drew (Below.refl _ _)) (fun hHeld => ?_)
   refine dt 0 rfl (v := ?_) ?_ ?_
   rotate_left
   ·(intro wy hSw; obtain ⟨⟨z0, z1, z2, z3, z4⟩, q0, q1, q2, q3, q4, q5⟩ := HCC.out wy hSw; go_simp; try with_reducible rfl)
   simp only [Act.put, O]
   refine dt 1 rfl (v := ?_) ?_ ?_
   rotate_left
   ·(intro wy hSw; obtain ⟨⟨z0, z1, z2, z3, z4⟩, q0, q1, q2, q3, q4, q5⟩ := HCC.out wy hSw; go_simp; try with_reducible rfl)
   simp only [Act.put, O]
   refine dt 2 rfl (v := ?_) ?_ ?_
   rotate_left
   ·(intro wy hSw; obtain ⟨⟨z0, z1, z2, z3, z4⟩, q0, q1, q2, q3, q4, q5⟩ := HCC.out wy hSw; go_simp; try with_reducible rfl)
   simp only [Act.put, O]
   refine dt 3 rfl (v := ?_) ?_ ?_
   rotate_left
   ·(intro wy hSw; obtain ⟨⟨z0, z1, z2, z3, z4⟩, q0, q1, q2, q3, q4, q5⟩ := HCC.out wy hSw; go_simp; try with_reducible rfl)
   simp only [Act.put, O]
   refine dt 4 rfl (v := ?_) ?_ ?_
   rotate_left
   ·(intro wy hSw; obtain ⟨⟨z0, z1, z2, z3, z4⟩, q0, q1, q2, q3, q4, q5⟩ := HCC.out wy hSw; go_simp; try with_reducible rfl)
   simp only [Act.put, O]
   refine dt 5 rfl (v := ?_) ?_ ?_
   rotate_left
   ·(intro wy hSw; obtain ⟨⟨z0, z1, z2, z3, z4⟩, q0, q1, q2, q3, q4, q5⟩ := HCC.out wy hSw; go_simp; try with_reducible rfl)
   simp only [Act.put, O]
   refine ah 6 10 rfl rfl (by kernel_rfl) (fun K hK => ?_) (fun K hK => ?_)
   ·try (rw [if_pos]; case hc => rfl)
    go_simp
    refine (HFN.out _ hHeld).mono ?_
    rintro e w1 he
    obtain ⟨rfl, hb⟩ := he.yes
    have hH : Below w0.heap.size w0 w1 := hHeld.trans (hb.mono hHeld.size)
    have hz1 : w0.heap.size ≤ w1.heap.size := hH.size
    go_wp2_with fail
    refine hK.out _ _ hH (fun hHeld2 => ?_)
    clear hK K hHeld
    have hHeld := hHeld2
    clear hHeld2
    refine dv 7 rfl ?_
    refine dv 8 rfl ?_
    refine dv 9 rfl ?_
    have HB1 : Hid (Below w0.heap.size w0 (w1.alloc (.cells #[.int .u8 0, .bool false] 76))) := J (hHeld.alloc hHeld.size _)
    have HZ1 := J (heap_alloc_new w1 (.cells #[.int .u8 0, .bool false] 76))
    have HY1 : Hid (w0.heap.size ≤ w1.heap.size) := J hz1
    refine aa 10 rfl (by kernel_rfl) (fun K hK => ?_)
    try (rw [if_pos]; case hc => rfl)
    go_simp
    refine hK.out _ _ HB1.out (fun hHeld2 => ?_)
    clear hK K hHeld
    have hHeld := hHeld2
    clear hHeld2
    refine aa 11 rfl (by kernel_rfl) (fun K hK => ?_)
    try (rw [if_pos]; case hc => rfl)
    refine wp_store_row 76 (.tmp 5) (.tmp 15) rfl w1.heap.size #[.int .u8 (gt.toNat : Int), .bool true] rfl rfl 76 #[.int .u8 0, .bool false] HZ1.out am rfl (by simp [Value.oneCell']) ?_
    refine hK.out _ _ (ac HB1.out HY1.out _) (fun hHeld2 => ?_)
    clear hK K hHeld
    have hHeld := hHeld2
    clear hHeld2
    refine dv 12 rfl ?_
    refine wpAnyH_done (by kernel_rfl) ?_ _
    have HBF : Hid (Below w0.heap.size w0 ((w1.alloc (.cells #[.int .u8 0, .bool false] 76)).setRow w1.heap.size #[.int .u8 (gt.toNat : Int), .bool true])) := J hHeld
    obtain ⟨y0, y1⟩ := ae (setRow_heap _ _ #[.int .u8 0, .bool false] #[.int .u8 (gt.toNat : Int), .bool true] _ _ HZ1.out)
    generalize (w1.alloc (.cells #[.int .u8 0, .bool false] 76)).setRow w1.heap.size #[.int .u8 (gt.toNat : Int), .bool true] = wf at HBF y0 y1 ⊢
    obtain ⟨hl1, hl2, hl3⟩ := (H0.out.on HBF.out).lit gt
    have HL1 := J hl1
    have HL2 := J hl2
    have HL3 := J hl3
    clear hl1 hl2 hl3
    go_wp2_with (go_at_call 108; refine (HTU.out _ _ HL1.out HL3.out).mono ?_; rintro e w9 he; obtain ⟨k, rfl, hk⟩ := he.num; have HK := J hk; clear he hk)
    go_ret
    rw [HT.out]
    exact ((HK.out.ahead HL2.out).ahead (Nxt.of_below HBF.out)).ahead HN0.out
   ·try (rw [if_pos]; case hc => rfl)
    go_simp
    have hB0 : Below w0.heap.size w0 (w0.drew.alloc (.cells #[.int .u8 0, .bool false] 76)) := hHeld.alloc hHeld.size _
    have hZ0 := heap_alloc_new w0.drew (.cells #[.int .u8 0, .bool false] 76)
    have hl0 : w0.heap.size < (w0.drew.alloc (.cells #[.int .u8 0, .bool false] 76)).heap.size := by simp
    refine hK.out _ _ hB0 (fun hHeld2 => ?_)
    clear hK K hHeld
    have hHeld := hHeld2
    clear hHeld2
    refine aa 6 rfl (by kernel_rfl) (fun K hK => ?_)
    try (rw [if_pos]; case hc => rfl)
    go_simp
    refine (HFN.out _ hB0).mono ?_
    rintro e w1 he
    obtain ⟨rfl, hb⟩ := he.yes
    have hH : Below w0.heap.size w0 w1 := hB0.trans (hb.mono hB0.size)
    have HB1 : Hid (Below w0.heap.size w0 w1) := J hH
    have HZ1 : Hid (w1.heap[w0.heap.size]? = some (.cells #[.int .u8 0, .bool false] 76 (0, 0))) := J ((hb.block _ hl0).trans hZ0)
    have HY1 : Hid (w0.heap.size ≤ w0.heap.size) := J (Nat.le_refl _)
    go_wp2_with fail
    refine hK.out _ _ hH (fun hHeld2 => ?_)
    clear hK K hHeld
    have hHeld := hHeld2
    clear hHeld2
    refine dv 7 rfl ?_
    refine dv 8 rfl ?_
    refine dv 9 rfl ?_
    refine aa 11 rfl (by kernel_rfl) (fun K hK => ?_)
    try (rw [if_pos]; case hc => rfl)
    refine wp_store_row 76 (.tmp 5) (.tmp 15) rfl w0.heap.size #[.int .u8 (gt.toNat : Int), .bool true] rfl rfl 76 #[.int .u8 0, .bool false] HZ1.out am rfl (by simp [Value.oneCell']) ?_
    refine hK.out _ _ (ac HB1.out HY1.out _) (fun hHeld2 => ?_)
    clear hK K hHeld
    have hHeld := hHeld2
    clear hHeld2
    refine dv 12 rfl ?_
    refine wpAnyH_done (by kernel_rfl) ?_ _
    have HBF : Hid (Below w0.heap.size w0 (w1.setRow w0.heap.size #[.int .u8 (gt.toNat : Int), .bool true])) := J hHeld
    obtain ⟨y0, y1⟩ := ae (setRow_heap _ _ #[.int .u8 0, .bool false] #[.int .u8 (gt.toNat : Int), .bool true] _ _ HZ1.out)
    generalize w1.setRow w0.heap.size #[.int .u8 (gt.toNat : Int), .bool true] = wf at HBF y0 y1 ⊢
    obtain ⟨hl1, hl2, hl3⟩ := (H0.out.on HBF.out).lit gt
    have HL1 := J hl1
    have HL2 := J hl2
    have HL3 := J hl3
    clear hl1 hl2 hl3
    go_wp2_with (go_at_call 108; refine (HTU.out _ _ HL1.out HL3.out).mono ?_; rintro e w9 he; obtain ⟨k, rfl, hk⟩ := he.num; have HK := J hk; clear he hk)
    go_ret
    rw [HT.out]
    exact ((HK.out.ahead HL2.out).ahead (Nxt.of_below HBF.out)).ahead HN0.out
end Go.Proofs.YtelcdmkbaegjoaaGreat
