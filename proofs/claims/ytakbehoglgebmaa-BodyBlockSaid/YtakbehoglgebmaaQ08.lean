/-
  Layer 9's program: Open, New. (gen/typing/open.py)
-/
import Derived.Test.YtakbehoglgebmaaQ07
namespace Go.Proofs.Ytakbehoglgebmaa
open Go.RowKit Ins Bin
theorem wp_appendX {P : Program} {o : Oper} {a : Act} {w : World} {K : Act → World → Prop} {Q : Exit → Act → World → Prop} (s x : Operand) (t : TypeId)
    (ho : o.op = .call { callee := .builtin .append, args := #[s, x], argTypes := #[t, t] }) (v u r : Value) (w' : World) (hs : a.eval s = v) (hx : a.eval x = u)
    (hrun : (Builtin.append_ #[t, t] o.type #[v, u]).run P w = .ok r w') (h : K (a.put o.dst r) w') : o.wp P a w K Q := by
  unfold Oper.wp execOp
  simp only [ho, resolve, invoke, builtin, Sem.run_bind, Sem.run_pure, Result.andThen_ok, List.map_toArray, List.map_cons, List.map_nil, hs, hx, hrun]
  exact h
/-- Two that may come up: the one first, or the other. -/
theorem drawn_pair {P : Program} {ops : Array Oper} {Q : Exit → Act → World → Prop} {md : Region.Mode} {S : World → Prop} (i j : Nat) {d : Option Tmp} {op : Op} {ty : TypeId} {pos : String} {af : Array Edge} {g : Option (Nat × Bool)}
    {d2 : Option Tmp} {op2 : Op} {ty2 : TypeId} {pos2 : String} {af2 : Array Edge} {g2 : Option (Nat × Bool)} {fuel : Nat} {listed : Array Bool} {a : Act} {w : World} (hi : ops[i]? = some ⟨d, op, ty, pos, af, g⟩) (hj : ops[j]? = some ⟨d2, op2, ty2, pos2, af2, g2⟩)
    (hr : Region.ready md ops listed = [i, j])
    (h : ∀ K' : Act → World → Prop, Shut (∀ a w, S w → (S w → wpAnyH P md ops Q S fuel (listed.setIfInBounds i true) a w) → K' a w) → if Region.wanted ⟨d, op, ty, pos, af, g⟩ (yielded ops a.tmps) = true then Oper.wp P ⟨d, op, ty, pos, af, g⟩ a w K' Q else K' (a.put d undef) w)
    (h2 : ∀ K' : Act → World → Prop, Shut (∀ a w, S w → (S w → wpAnyH P md ops Q S fuel (listed.setIfInBounds j true) a w) → K' a w) → if Region.wanted ⟨d2, op2, ty2, pos2, af2, g2⟩ (yielded ops a.tmps) = true then Oper.wp P ⟨d2, op2, ty2, pos2, af2, g2⟩ a w K' Q else K' (a.put d2 undef) w) :
    wpAnyH P md ops Q S (fuel + 1) listed a w :=
  wpAnyH_ready hr (by simp) (AllReadyH.cons hi h (AllReadyH.cons hj h2 AllReadyH.nil))
theorem own8 {t : TypeId} {w : World} {base : Nat} {S S' : Nat → Prop} {v : Value} {xs : List UInt8} (h : OwnL t w base S v xs) : OwnL t w base S' v xs := by
  obtain ⟨ys, h0, h1, h2⟩ := h
  exact ⟨ys, h0, h1, fun y hy => h2 y hy⟩
/-- Clone, as a slice in new memory. -/
theorem tclone_any (xs : List UInt8) (v : Value) (w : World) (hv : SliceV w (· < w.heap.size) xs v) (hl : xs.length ≤ 1000000000) :
    Calls Try.prog 31 #[v] w fun e w' => ∃ A c, e = .returned (.slice A xs.length c) ∧ SliceV w' (w.heap.size ≤ ·) xs (.slice A xs.length c) ∧ Below w.heap.size w w' := by
  refine (sclone8_any xs v w hv (by omega)).mono ?_
  rintro e w' ⟨u, rfl, h1, h2, h3⟩
  have h4 := (own8 (S' := (w.heap.size ≤ ·)) h1).tell (fun _ h => h)
  obtain ⟨A, c, rfl, h5⟩ := h4
  exact ⟨A, c, rfl, ⟨A, c, rfl, h5⟩, h2⟩
theorem undTFr : Try.prog.underlying 112 = some (.slice 122) := by kernel_rfl
theorem infTFr : (Try.prog.info? 122).map (fun i => (i.zero, i.size, i.bytes)) = some (some (.agg #[.slice none 0 0, .slice none 0 0, .int .i64 0, .bool false]), Lay.size Ty.Fr, 64) := by kernel_rfl
/-- A frame is laid behind. -/
theorem Stk.opened {w w2 : World} {F : Nat → Prop} {P : Nat} {s : Ty.T} {vo vf u1 u2 : Value} {a b : List UInt8} (h : Stk w F P s vo vf) (hb : Below w.heap.size w w2) (h1 : SliceV w2 (w.heap.size ≤ ·) a u1) (h2 : SliceV w2 (w.heap.size ≤ ·) b u2) (hl : s.frs.length ≤ 1000000000) :
    ∃ G5 n5 k5 w5, (Builtin.append_ #[112, 112] 112 #[vf, .slice (some ⟨w2.heap.size, 0, none⟩) 1 1]).run Try.prog (w2.alloc (.cells #[u1, u2, .int .i64 (s.ops.length : Int), .bool false] 122)) = .ok (.slice G5 n5 k5) w5 ∧
      w5.cell? ⟨P, 0, none⟩ = some vo ∧ w5.cell? ⟨P, 1, none⟩ = some vf ∧ w5.frozen? ⟨P, 1, none⟩ = false ∧ (w5.setCell ⟨P, 1, none⟩ (.slice G5 n5 k5)).cell? ⟨P, 0, none⟩ = some vo ∧ TPost F w P (s.op a b) (w5.setCell ⟨P, 1, none⟩ (.slice G5 n5 k5)) := by
  have hP := h.lt
  have hO := own_lt h.ops
  have hF := h.frs.lt
  have h' := h.on hb
  have hfr : OwnL 122 w2 0 (inS (fun k => F k ∨ w.heap.size ≤ k) P vo vf) vf s.frs := h'.frs.more (fun k _ hs => ⟨.inl hs.1, hs.2⟩)
  have hnew : ∀ k, w.heap.size ≤ k → inS (fun k => F k ∨ w.heap.size ≤ k) P vo vf k := fun k hk => ⟨.inr hk, by omega, fun e => by have := hO k e; omega, fun e => by have := (hF k e).2; omega⟩
  have hrep : Lay.rep w2 (inS (fun k => F k ∨ w.heap.size ≤ k) P vo vf) (⟨a, b, s.ops.length, false⟩ : Ty.Fr) [u1, u2, .int .i64 (s.ops.length : Int), .bool false] := ⟨u1, u2, rfl, h1.more (fun k _ hk => hnew k hk), h2.more (fun k _ hk => hnew k hk)⟩
  obtain ⟨v5, w5, hrun, hO5, hM5, hT5⟩ := append1L undTFr infTFr (by decide) rfl (by decide) w2 0 _ vf s.frs ⟨a, b, s.ops.length, false⟩ _ hfr (by omega) (Nat.zero_le _) hrep (fun u hu => Ones.one hrep u hu) (fun g _ hs => hs.2.2.2)
  have hblk := hM5.heap h'.blk h'.neF
  have hne5 : v5.ownBlock ≠ some P := fun e => by
    rcases hT5 P e with e | e
    · exact h.neF e
    · have := hb.size; omega
  have hS : Mod (· = P) w5 (w5.setCell ⟨P, 1, none⟩ v5) := Mod.setCell (T := (· = P)) (Mod.refl _ w5) (fun _ => rfl) _
  have hblk6 : (w5.setCell ⟨P, 1, none⟩ v5).heap[P]? = some (.cells #[vo, v5, .int .i64 (s.most : Int)] 114 (0, 0)) := by rw [heap_setCell_same w5 P 1 _ _ _ hblk]; rfl
  have hO5' := hO5
  obtain ⟨ys5, _, hy5, _⟩ := hO5'
  obtain ⟨G5, k5, e5, _, _⟩ := own_form hy5
  clear hy5
  generalize (s.frs ++ [(⟨a, b, s.ops.length, false⟩ : Ty.Fr)]).length = n5 at e5
  subst e5
  refine ⟨G5, n5, k5, w5, hrun, by rw [cell_of_row w5 P 0 _ _ (0, 0) hblk]; rfl, by rw [cell_of_row w5 P 1 _ _ (0, 0) hblk]; rfl, frozen_of_row w5 P 1 _ _ hblk, by rw [cell_of_row _ P 0 _ _ (0, 0) hblk6]; rfl, ?_⟩
  refine ⟨fun k => F k ∨ w.heap.size ≤ k, vo, .slice G5 n5 k5, ⟨hblk6, ?_, ?_, .inl h.inP, fun k e => .inl (h.inO k e), fun k e => ?_⟩, fun k hk => hk, ?_⟩
  · exact hS.own (hM5.own h'.ops (fun k hk e => h.neOF k hk e)) (fun k hk e => h.neO (by rw [hk, e]))
  · exact (hO5.more (S' := inS (fun k => F k ∨ w.heap.size ≤ k) P vo (.slice G5 n5 k5)) (fun k _ hs => ⟨hs.1.1, hs.1.2.1, hs.1.2.2.1, hs.2⟩)).mod hS (fun k hk e => hne5 (by rw [hk, e])) (fun k _ hs e => hs.2.1 e)
  · rcases hT5 k e with e | e
    · exact .inl (h.inF k e)
    · exact .inr (Nat.le_trans hb.size e)
  · exact ((Mod.of_below (T := F) hb).trans hM5 (fun k _ e => h.inF k e)).trans hS (fun k _ e => by rw [e]; exact h.inP)
set_option maxRecDepth 100000 in
set_option maxHeartbeats 4000000 in
theorem topen_any {w : World} {F : Nat → Prop} {P : Nat} {s : Ty.T} {vo vf : Value} (h : Stk w F P s vo vf) (a b : List UInt8) (va vb : Value) (ha : SliceV w (· < w.heap.size) a va) (hb : SliceV w (· < w.heap.size) b vb) (h1 : a.length ≤ 1000000000) (h2 : b.length ≤ 1000000000) (h3 : s.frs.length ≤ 1000000000) :
    Calls Try.prog 36 #[.pointer (some ⟨P, 0, none⟩), va, vb] w fun e w' => e = .returned (.tuple #[]) ∧ TPost F w P (s.op a b) w' := by
  have HCA : Hid (∀ W, Below w.heap.size w W → Calls Try.prog 31 #[va] W fun e w' => ∃ A c, e = .returned (.slice A a.length c) ∧ SliceV w' (W.heap.size ≤ ·) a (.slice A a.length c) ∧ Below W.heap.size W w') := Lib.hid (fun W hW => tclone_any a va W (ha.grow hW) h1)
  have HCB : Hid (∀ W, Below w.heap.size w W → Calls Try.prog 31 #[vb] W fun e w' => ∃ A c, e = .returned (.slice A b.length c) ∧ SliceV w' (W.heap.size ≤ ·) b (.slice A b.length c) ∧ Below W.heap.size W w') := Lib.hid (fun W hW => tclone_any b vb W (hb.grow hW) h2)
  have HEND : Hid (∀ w2 u1 u2, Below w.heap.size w w2 → SliceV w2 (w.heap.size ≤ ·) a u1 → SliceV w2 (w.heap.size ≤ ·) b u2 → _) := Lib.hid (fun w2 u1 u2 hb q1 q2 => h.opened hb q1 q2 h3)
  have HC0 : Hid (∀ W, Below w.heap.size w W → W.cell? ⟨P, 0, none⟩ = some vo) := Lib.hid (fun W hW => (h.on hW).cell0)
  have HC1 : Hid (∀ W, Below w.heap.size w W → W.cell? ⟨P, 1, none⟩ = some vf) := Lib.hid (fun W hW => (h.on hW).cell1)
  obtain ⟨A0, c0, rfl, _, _⟩ := own_form h.ops
  obtain ⟨ys, _, hys, _⟩ := h.frs
  obtain ⟨B0, d0, rfl, _, _⟩ := own_form hys
  obtain ⟨A1, c1, rfl, _⟩ := ha
  obtain ⟨A2, c2, rfl, _⟩ := hb
  clear hys h h1 h2 h3
  obtain ⟨m, hm⟩ : ∃ m, s.ops.length = m := ⟨_, rfl⟩
  obtain ⟨fl, hfl⟩ : ∃ m, s.frs.length = m := ⟨_, rfl⟩
  obtain ⟨na, hna⟩ : ∃ m, a.length = m := ⟨_, rfl⟩
  obtain ⟨nb, hnb⟩ : ∃ m, b.length = m := ⟨_, rfl⟩
  rw [hna] at HCA
  rw [hna]
  rw [hnb] at HCB
  rw [hnb]
  rw [hm] at HC0 HEND
  rw [hfl] at HC1 HEND
  clear hm hfl hna hnb
  have HB0 : Hid (Below w.heap.size w w.drew) := Lib.hid (Below.drew (Below.refl _ _))
  go_enter Try.func36, Try.ntmps36
  go_upto_region 1 with fail
  refine wp_region_held_drew (S := fun W' => W'.cell? ⟨P, 0, none⟩ = some (.slice A0 m c0)) (by kernel_rfl) ((HC0.out _ HB0.out)) (fun hHeld => ?_)
  refine drawn_take 0 rfl (by kernel_rfl) (by kernel_rfl) (by kernel_rfl) (fun _ _ _ h => h) (by rfl) (by assumption) (v := ?_) ?_ ?_
  rotate_left
  · (intro wy hSw; go_simp; try with_reducible rfl)
  simp only [Act.put, List.setIfInBounds_toArray, List.set_cons_zero, List.set_cons_succ]
  refine drawn_take 1 rfl (by kernel_rfl) (by kernel_rfl) (by kernel_rfl) (fun _ _ _ h => h) (by rfl) (by assumption) (v := ?_) ?_ ?_
  rotate_left
  · (intro wy hSw; go_simp; try with_reducible rfl)
  simp only [Act.put, List.setIfInBounds_toArray, List.set_cons_zero, List.set_cons_succ]
  refine drawn_take 2 rfl (by kernel_rfl) (by kernel_rfl) (by kernel_rfl) (fun _ _ _ h => h) (by rfl) (by assumption) (v := ?_) ?_ ?_
  rotate_left
  · (intro wy hSw; go_simp; try with_reducible rfl)
  simp only [Act.put, List.setIfInBounds_toArray, List.set_cons_zero, List.set_cons_succ]
  refine drawn_take 3 rfl (by kernel_rfl) (by kernel_rfl) (by kernel_rfl) (fun _ _ _ h => h) (by rfl) (by assumption) (v := ?_) ?_ ?_
  rotate_left
  · (intro wy hSw; go_simp; try with_reducible rfl)
  simp only [Act.put, List.setIfInBounds_toArray, List.set_cons_zero, List.set_cons_succ]
  refine drawn_take 5 rfl (by kernel_rfl) (by kernel_rfl) (by kernel_rfl) (fun _ _ _ h => h) (by rfl) (by assumption) (v := ?_) ?_ ?_
  rotate_left
  · (intro wy hSw; go_simp; try with_reducible rfl)
  simp only [Act.put, List.setIfInBounds_toArray, List.set_cons_zero, List.set_cons_succ]
  refine drawn_take 7 rfl (by kernel_rfl) (by kernel_rfl) (by kernel_rfl) (fun _ _ _ h => h) (by rfl) (by assumption) (v := ?_) ?_ ?_
  rotate_left
  · (intro wy hSw; go_simp; try with_reducible rfl)
  simp only [Act.put, List.setIfInBounds_toArray, List.set_cons_zero, List.set_cons_succ]
  refine drawn_take 9 rfl (by kernel_rfl) (by kernel_rfl) (by kernel_rfl) (fun _ _ _ h => h) (by rfl) (by assumption) (v := ?_) ?_ ?_
  rotate_left
  · (intro wy hSw; go_simp; try with_reducible rfl)
  simp only [Act.put, List.setIfInBounds_toArray, List.set_cons_zero, List.set_cons_succ]
  refine drawn_take 10 rfl (by kernel_rfl) (by kernel_rfl) (by kernel_rfl) (fun _ _ _ h => h) (by rfl) (by assumption) (v := ?_) ?_ ?_
  rotate_left
  · (intro wy hSw; go_simp; try with_reducible rfl)
  simp only [Act.put, List.setIfInBounds_toArray, List.set_cons_zero, List.set_cons_succ]
  refine drawn_take 11 rfl (by kernel_rfl) (by kernel_rfl) (by kernel_rfl) (fun _ _ _ h => h) (by rfl) (by assumption) (v := ?_) ?_ ?_
  rotate_left
  · (intro wy hSw; go_simp; try with_reducible rfl)
  simp only [Act.put, List.setIfInBounds_toArray, List.set_cons_zero, List.set_cons_succ]
  refine drawn_take 12 rfl (by kernel_rfl) (by kernel_rfl) (by kernel_rfl) (fun _ _ _ h => h) (by rfl) (by assumption) (v := ?_) ?_ ?_
  rotate_left
  · (intro wy hSw; go_simp; try with_reducible rfl)
  simp only [Act.put, List.setIfInBounds_toArray, List.set_cons_zero, List.set_cons_succ]
  refine drawn_take 13 rfl (by kernel_rfl) (by kernel_rfl) (by kernel_rfl) (fun _ _ _ h => h) (by rfl) (by assumption) (v := ?_) ?_ ?_
  rotate_left
  · (intro wy hSw; go_simp; try with_reducible rfl)
  simp only [Act.put, List.setIfInBounds_toArray, List.set_cons_zero, List.set_cons_succ]
  refine drawn_pair 4 6 rfl rfl (by kernel_rfl) (fun K hK => ?_) (fun K hK => ?_)
  · have hl := HC1.out w.drew HB0.out
    go_simp
    clear hl
    refine hK.out _ _ hHeld (fun hHeld2 => ?_)
    clear hK K hHeld
    have hHeld := hHeld2
    clear hHeld2
    refine drawn_sole 6 rfl (by kernel_rfl) (fun K hK => ?_)
    go_simp
    refine (HCA.out _ HB0.out).mono ?_
    rintro e w1 ⟨E1, f1, rfl, hs1, hb⟩
    have HB1 : Hid (Below w.heap.size w w1) := Lib.hid (Below.trans HB0.out (hb.mono (Below.size HB0.out)))
    have HS1 : Hid (SliceV w1 (w.heap.size ≤ ·) a (.slice E1 na f1)) := Lib.hid (hs1.more (fun k _ hk => Nat.le_trans (Below.size HB0.out) hk))
    clear hs1 hb
    go_wp2_with fail
    refine hK.out _ _ (HC0.out _ HB1.out) (fun hHeld2 => ?_)
    clear hK K hHeld
    have hHeld := hHeld2
    clear hHeld2
    refine drawn_sole 8 rfl (by kernel_rfl) (fun K hK => ?_)
    go_simp
    refine (HCB.out _ HB1.out).mono ?_
    rintro e w2 ⟨E2, f2, rfl, hs2, hb⟩
    have HB2 : Hid (Below w.heap.size w w2) := Lib.hid (Below.trans HB1.out (hb.mono (Below.size HB1.out)))
    have HS2 : Hid (SliceV w2 (w.heap.size ≤ ·) b (.slice E2 nb f2)) := Lib.hid (hs2.more (fun k _ hk => Nat.le_trans (Below.size HB1.out) hk))
    have HS1 : Hid (SliceV w2 (w.heap.size ≤ ·) a (.slice E1 na f1)) := Lib.hid (HS1.out.mod (T := fun _ => False) (Mod.of_below hb) (fun _ _ _ h => h))
    have HB3 : Hid (Below w.heap.size w (w2.alloc (.cells #[.slice E1 na f1, .slice E2 nb f2, .int .i64 (m : Int), .bool false] 122))) := Lib.hid (HB2.out.alloc HB2.out.size _)
    obtain ⟨G5, n5, k5, w5, hrun, hc5, hc51, hf5, hc6, htp⟩ := HEND.out w2 _ _ HB2.out HS1.out HS2.out
    have HRUN := Lib.hid hrun
    have HC5 := Lib.hid hc5
    have HC51 := Lib.hid hc51
    have HF5 := Lib.hid hf5
    have HC6 := Lib.hid hc6
    have HTP := Lib.hid htp
    clear hs2 hb hrun hc5 hc51 hf5 hc6 htp
    go_wp2_with fail
    refine hK.out _ _ (HC0.out _ HB2.out) (fun hHeld2 => ?_)
    clear hK K hHeld
    have hHeld := hHeld2
    clear hHeld2
    refine drawn_take 14 rfl (by kernel_rfl) (by kernel_rfl) (by kernel_rfl) (fun _ _ _ h => h) (by rfl) (by assumption) (v := ?_) ?_ ?_
    rotate_left
    · (intro wy hSw; go_simp; try with_reducible rfl)
    simp only [Act.put, List.setIfInBounds_toArray, List.set_cons_zero, List.set_cons_succ]
    refine drawn_sole 15 rfl (by kernel_rfl) (fun K hK => ?_)
    go_simp
    refine hK.out _ _ (HC0.out _ HB3.out) (fun hHeld2 => ?_)
    clear hK K hHeld
    have hHeld := hHeld2
    clear hHeld2
    refine drawn_sole 16 rfl (by kernel_rfl) (fun K hK => ?_)
    rw [if_pos]
    case hc => rfl
    refine wp_appendX (.tmp 12) (.tmp 23) 112 rfl _ _ _ w5 rfl rfl HRUN.out ?_
    refine hK.out _ _ HC5.out (fun hHeld2 => ?_)
    clear hK K hHeld
    have hHeld := hHeld2
    clear hHeld2
    try simp only [Act.put, List.setIfInBounds_toArray, List.set_cons_zero, List.set_cons_succ]
    refine drawn_take 17 rfl (by kernel_rfl) (by kernel_rfl) (by kernel_rfl) (fun _ _ _ h => h) (by rfl) (by assumption) (v := ?_) ?_ ?_
    rotate_left
    · (intro wy hSw; go_simp; try with_reducible rfl)
    simp only [Act.put, List.setIfInBounds_toArray, List.set_cons_zero, List.set_cons_succ]
    refine drawn_take 18 rfl (by kernel_rfl) (by kernel_rfl) (by kernel_rfl) (fun _ _ _ h => h) (by rfl) (by assumption) (v := ?_) ?_ ?_
    rotate_left
    · (intro wy hSw; go_simp; try with_reducible rfl)
    simp only [Act.put, List.setIfInBounds_toArray, List.set_cons_zero, List.set_cons_succ]
    refine drawn_sole 19 rfl (by kernel_rfl) (fun K hK => ?_)
    have hl := HC51.out
    have gl := HF5.out
    go_simp
    clear hl gl
    refine hK.out _ _ HC6.out (fun hHeld2 => ?_)
    clear hK K hHeld hHeld2
    refine wpAnyH_done (by kernel_rfl) ?_ _
    go_wp2_with fail
    go_end0
    exact ⟨rfl, HTP.out⟩
  · go_simp
    refine (HCA.out _ HB0.out).mono ?_
    rintro e w1 ⟨E1, f1, rfl, hs1, hb⟩
    have HB1 : Hid (Below w.heap.size w w1) := Lib.hid (Below.trans HB0.out (hb.mono (Below.size HB0.out)))
    have HS1 : Hid (SliceV w1 (w.heap.size ≤ ·) a (.slice E1 na f1)) := Lib.hid (hs1.more (fun k _ hk => Nat.le_trans (Below.size HB0.out) hk))
    clear hs1 hb
    go_wp2_with fail
    refine hK.out _ _ (HC0.out _ HB1.out) (fun hHeld2 => ?_)
    clear hK K hHeld
    have hHeld := hHeld2
    clear hHeld2
    refine drawn_pair 4 8 rfl rfl (by kernel_rfl) (fun K hK => ?_) (fun K hK => ?_)
    · have hl := HC1.out w1 HB1.out
      go_simp
      clear hl
      refine hK.out _ _ hHeld (fun hHeld2 => ?_)
      clear hK K hHeld
      have hHeld := hHeld2
      clear hHeld2
      refine drawn_sole 8 rfl (by kernel_rfl) (fun K hK => ?_)
      go_simp
      refine (HCB.out _ HB1.out).mono ?_
      rintro e w2 ⟨E2, f2, rfl, hs2, hb⟩
      have HB2 : Hid (Below w.heap.size w w2) := Lib.hid (Below.trans HB1.out (hb.mono (Below.size HB1.out)))
      have HS2 : Hid (SliceV w2 (w.heap.size ≤ ·) b (.slice E2 nb f2)) := Lib.hid (hs2.more (fun k _ hk => Nat.le_trans (Below.size HB1.out) hk))
      have HS1 : Hid (SliceV w2 (w.heap.size ≤ ·) a (.slice E1 na f1)) := Lib.hid (HS1.out.mod (T := fun _ => False) (Mod.of_below hb) (fun _ _ _ h => h))
      have HB3 : Hid (Below w.heap.size w (w2.alloc (.cells #[.slice E1 na f1, .slice E2 nb f2, .int .i64 (m : Int), .bool false] 122))) := Lib.hid (HB2.out.alloc HB2.out.size _)
      obtain ⟨G5, n5, k5, w5, hrun, hc5, hc51, hf5, hc6, htp⟩ := HEND.out w2 _ _ HB2.out HS1.out HS2.out
      have HRUN := Lib.hid hrun
      have HC5 := Lib.hid hc5
      have HC51 := Lib.hid hc51
      have HF5 := Lib.hid hf5
      have HC6 := Lib.hid hc6
      have HTP := Lib.hid htp
      clear hs2 hb hrun hc5 hc51 hf5 hc6 htp
      go_wp2_with fail
      refine hK.out _ _ (HC0.out _ HB2.out) (fun hHeld2 => ?_)
      clear hK K hHeld
      have hHeld := hHeld2
      clear hHeld2
      refine drawn_take 14 rfl (by kernel_rfl) (by kernel_rfl) (by kernel_rfl) (fun _ _ _ h => h) (by rfl) (by assumption) (v := ?_) ?_ ?_
      rotate_left
      · (intro wy hSw; go_simp; try with_reducible rfl)
      simp only [Act.put, List.setIfInBounds_toArray, List.set_cons_zero, List.set_cons_succ]
      refine drawn_sole 15 rfl (by kernel_rfl) (fun K hK => ?_)
      go_simp
      refine hK.out _ _ (HC0.out _ HB3.out) (fun hHeld2 => ?_)
      clear hK K hHeld
      have hHeld := hHeld2
      clear hHeld2
      refine drawn_sole 16 rfl (by kernel_rfl) (fun K hK => ?_)
      rw [if_pos]
      case hc => rfl
      refine wp_appendX (.tmp 12) (.tmp 23) 112 rfl _ _ _ w5 rfl rfl HRUN.out ?_
      refine hK.out _ _ HC5.out (fun hHeld2 => ?_)
      clear hK K hHeld
      have hHeld := hHeld2
      clear hHeld2
      try simp only [Act.put, List.setIfInBounds_toArray, List.set_cons_zero, List.set_cons_succ]
      refine drawn_take 17 rfl (by kernel_rfl) (by kernel_rfl) (by kernel_rfl) (fun _ _ _ h => h) (by rfl) (by assumption) (v := ?_) ?_ ?_
      rotate_left
      · (intro wy hSw; go_simp; try with_reducible rfl)
      simp only [Act.put, List.setIfInBounds_toArray, List.set_cons_zero, List.set_cons_succ]
      refine drawn_take 18 rfl (by kernel_rfl) (by kernel_rfl) (by kernel_rfl) (fun _ _ _ h => h) (by rfl) (by assumption) (v := ?_) ?_ ?_
      rotate_left
      · (intro wy hSw; go_simp; try with_reducible rfl)
      simp only [Act.put, List.setIfInBounds_toArray, List.set_cons_zero, List.set_cons_succ]
      refine drawn_sole 19 rfl (by kernel_rfl) (fun K hK => ?_)
      have hl := HC51.out
      have gl := HF5.out
      go_simp
      clear hl gl
      refine hK.out _ _ HC6.out (fun hHeld2 => ?_)
      clear hK K hHeld hHeld2
      refine wpAnyH_done (by kernel_rfl) ?_ _
      go_wp2_with fail
      go_end0
      exact ⟨rfl, HTP.out⟩
    · go_simp
      refine (HCB.out _ HB1.out).mono ?_
      rintro e w2 ⟨E2, f2, rfl, hs2, hb⟩
      have HB2 : Hid (Below w.heap.size w w2) := Lib.hid (Below.trans HB1.out (hb.mono (Below.size HB1.out)))
      have HS2 : Hid (SliceV w2 (w.heap.size ≤ ·) b (.slice E2 nb f2)) := Lib.hid (hs2.more (fun k _ hk => Nat.le_trans (Below.size HB1.out) hk))
      have HS1 : Hid (SliceV w2 (w.heap.size ≤ ·) a (.slice E1 na f1)) := Lib.hid (HS1.out.mod (T := fun _ => False) (Mod.of_below hb) (fun _ _ _ h => h))
      have HB3 : Hid (Below w.heap.size w (w2.alloc (.cells #[.slice E1 na f1, .slice E2 nb f2, .int .i64 (m : Int), .bool false] 122))) := Lib.hid (HB2.out.alloc HB2.out.size _)
      obtain ⟨G5, n5, k5, w5, hrun, hc5, hc51, hf5, hc6, htp⟩ := HEND.out w2 _ _ HB2.out HS1.out HS2.out
      have HRUN := Lib.hid hrun
      have HC5 := Lib.hid hc5
      have HC51 := Lib.hid hc51
      have HF5 := Lib.hid hf5
      have HC6 := Lib.hid hc6
      have HTP := Lib.hid htp
      clear hs2 hb hrun hc5 hc51 hf5 hc6 htp
      go_wp2_with fail
      refine hK.out _ _ (HC0.out _ HB2.out) (fun hHeld2 => ?_)
      clear hK K hHeld
      have hHeld := hHeld2
      clear hHeld2
      refine drawn_take 14 rfl (by kernel_rfl) (by kernel_rfl) (by kernel_rfl) (fun _ _ _ h => h) (by rfl) (by assumption) (v := ?_) ?_ ?_
      rotate_left
      · (intro wy hSw; go_simp; try with_reducible rfl)
      simp only [Act.put, List.setIfInBounds_toArray, List.set_cons_zero, List.set_cons_succ]
      refine drawn_pair 4 15 rfl rfl (by kernel_rfl) (fun K hK => ?_) (fun K hK => ?_)
      · have hl := HC1.out w2 HB2.out
        go_simp
        clear hl
        refine hK.out _ _ hHeld (fun hHeld2 => ?_)
        clear hK K hHeld
        have hHeld := hHeld2
        clear hHeld2
        refine drawn_sole 15 rfl (by kernel_rfl) (fun K hK => ?_)
        go_simp
        refine hK.out _ _ (HC0.out _ HB3.out) (fun hHeld2 => ?_)
        clear hK K hHeld
        have hHeld := hHeld2
        clear hHeld2
        refine drawn_sole 16 rfl (by kernel_rfl) (fun K hK => ?_)
        rw [if_pos]
        case hc => rfl
        refine wp_appendX (.tmp 12) (.tmp 23) 112 rfl _ _ _ w5 rfl rfl HRUN.out ?_
        refine hK.out _ _ HC5.out (fun hHeld2 => ?_)
        clear hK K hHeld
        have hHeld := hHeld2
        clear hHeld2
        try simp only [Act.put, List.setIfInBounds_toArray, List.set_cons_zero, List.set_cons_succ]
        refine drawn_take 17 rfl (by kernel_rfl) (by kernel_rfl) (by kernel_rfl) (fun _ _ _ h => h) (by rfl) (by assumption) (v := ?_) ?_ ?_
        rotate_left
        · (intro wy hSw; go_simp; try with_reducible rfl)
        simp only [Act.put, List.setIfInBounds_toArray, List.set_cons_zero, List.set_cons_succ]
        refine drawn_take 18 rfl (by kernel_rfl) (by kernel_rfl) (by kernel_rfl) (fun _ _ _ h => h) (by rfl) (by assumption) (v := ?_) ?_ ?_
        rotate_left
        · (intro wy hSw; go_simp; try with_reducible rfl)
        simp only [Act.put, List.setIfInBounds_toArray, List.set_cons_zero, List.set_cons_succ]
        refine drawn_sole 19 rfl (by kernel_rfl) (fun K hK => ?_)
        have hl := HC51.out
        have gl := HF5.out
        go_simp
        clear hl gl
        refine hK.out _ _ HC6.out (fun hHeld2 => ?_)
        clear hK K hHeld hHeld2
        refine wpAnyH_done (by kernel_rfl) ?_ _
        go_wp2_with fail
        go_end0
        exact ⟨rfl, HTP.out⟩
      · go_simp
        refine hK.out _ _ (HC0.out _ HB3.out) (fun hHeld2 => ?_)
        clear hK K hHeld
        have hHeld := hHeld2
        clear hHeld2
        refine drawn_sole 4 rfl (by kernel_rfl) (fun K hK => ?_)
        have hl := HC1.out (w2.alloc (.cells #[.slice E1 na f1, .slice E2 nb f2, .int .i64 (m : Int), .bool false] 122)) HB3.out
        go_simp
        clear hl
        refine hK.out _ _ hHeld (fun hHeld2 => ?_)
        clear hK K hHeld
        have hHeld := hHeld2
        clear hHeld2
        refine drawn_sole 16 rfl (by kernel_rfl) (fun K hK => ?_)
        rw [if_pos]
        case hc => rfl
        refine wp_appendX (.tmp 12) (.tmp 23) 112 rfl _ _ _ w5 rfl rfl HRUN.out ?_
        refine hK.out _ _ HC5.out (fun hHeld2 => ?_)
        clear hK K hHeld
        have hHeld := hHeld2
        clear hHeld2
        try simp only [Act.put, List.setIfInBounds_toArray, List.set_cons_zero, List.set_cons_succ]
        refine drawn_take 17 rfl (by kernel_rfl) (by kernel_rfl) (by kernel_rfl) (fun _ _ _ h => h) (by rfl) (by assumption) (v := ?_) ?_ ?_
        rotate_left
        · (intro wy hSw; go_simp; try with_reducible rfl)
        simp only [Act.put, List.setIfInBounds_toArray, List.set_cons_zero, List.set_cons_succ]
        refine drawn_take 18 rfl (by kernel_rfl) (by kernel_rfl) (by kernel_rfl) (fun _ _ _ h => h) (by rfl) (by assumption) (v := ?_) ?_ ?_
        rotate_left
        · (intro wy hSw; go_simp; try with_reducible rfl)
        simp only [Act.put, List.setIfInBounds_toArray, List.set_cons_zero, List.set_cons_succ]
        refine drawn_sole 19 rfl (by kernel_rfl) (fun K hK => ?_)
        have hl := HC51.out
        have gl := HF5.out
        go_simp
        clear hl gl
        refine hK.out _ _ HC6.out (fun hHeld2 => ?_)
        clear hK K hHeld hHeld2
        refine wpAnyH_done (by kernel_rfl) ?_ _
        go_wp2_with fail
        go_end0
        exact ⟨rfl, HTP.out⟩
set_option maxRecDepth 100000 in
set_option maxHeartbeats 4000000 in
theorem tnew_any (e : List UInt8) (ve : Value) (w : World) (he : SliceV w (· < w.heap.size) e ve) (h1 : e.length ≤ 1000000000) :
    Calls Try.prog 27 #[ve] w fun r w' => ∃ P F vo vf, r = .returned (.pointer (some ⟨P, 0, none⟩)) ∧ Stk w' F P (Ty.T.new e) vo vf ∧ (∀ k, F k → w.heap.size ≤ k) ∧ Below w.heap.size w w' := by
  have hb0 : Below w.heap.size w (w.alloc (.cells #[.slice none 0 0, .slice none 0 0, .int .i64 0] 114)) := (Below.refl _ _).alloc (Nat.le_refl _) _
  have hS0 : Stk (w.alloc (.cells #[.slice none 0 0, .slice none 0 0, .int .i64 0] 114)) (fun k => k = w.heap.size) w.heap.size Ty.T.start (.slice none 0 0) (.slice none 0 0) :=
    ⟨heap_alloc_new w _, World.ownsRow_nil _ _ _ _, OwnL.nil _ _ _ _, rfl, fun k e => (by cases e), fun k e => (by cases e)⟩
  have HO := Lib.hid (topen_any hS0 e e ve ve (he.grow hb0) (he.grow hb0) h1 h1 (by simp [Ty.T.start]))
  have HB0 := Lib.hid hb0
  obtain ⟨A, c, rfl, _⟩ := he
  obtain ⟨n, hn⟩ : ∃ n, e.length = n := ⟨_, rfl⟩
  rw [hn] at HO
  rw [hn]
  clear hS0 hb0 h1 hn
  obtain ⟨P, hP⟩ : ∃ P, w.heap.size = P := ⟨_, rfl⟩
  rw [hP] at HO
  have HP := Lib.hid hP
  have HX : Hid (∀ W, Below w.heap.size w W → W = W) := Lib.hid (fun _ _ => rfl)
  obtain ⟨W0, hW0⟩ : ∃ W0, w.alloc (.cells #[.slice none 0 0, .slice none 0 0, .int .i64 0] 114) = W0 := ⟨_, rfl⟩
  go_enter Try.func27, Try.ntmps27
  go_upto_region 2 with fail
  try simp only [hP]
  clear hP HX
  try rw [hW0]
  rw [hW0] at HO HB0
  have HZ : Hid (w.heap.size < W0.heap.size) := Lib.hid (by rw [← hW0]; simp)
  clear hW0
  go_wp2_with (go_at_call 36; refine HO.out.mono ?_; rintro r w1 ⟨rfl, F', vo', vf', q1, q2, q3⟩; have HS1 := Lib.hid q1; have HF1 := Lib.hid q2; have HM1 := Lib.hid q3; clear q1 q2 q3)
  go_ret
  have hp := HP.out
  have hz := HZ.out
  have hq := HB0.out.size
  refine ⟨P, F', vo', vf', rfl, HS1.out, fun k hk => ?_, HB0.out.trans (HM1.out.below hq (fun k hk e => by omega))⟩
  rcases HF1.out k hk with e | e
  · omega
  · omega
end Go.Proofs.Ytakbehoglgebmaa
