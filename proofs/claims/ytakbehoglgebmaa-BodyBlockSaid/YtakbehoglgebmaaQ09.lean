/-
  Layer 9's program: Delete, Close, Label. (gen/typing/close.py)
-/
import Derived.Test.YtakbehoglgebmaaQ08
import Derived.Deep.RegionLaw
namespace Go.Proofs.Ytakbehoglgebmaa
open Go.RowKit Ins Bin
theorem zTFr : ∀ w, (zeroValue 122).run Try.prog w = .ok (.agg #[.slice none 0 0, .slice none 0 0, .int .i64 0, .bool false]) w := fun w => by
  obtain ⟨i0, hi, hz0, _, _⟩ := info_parts infTFr
  simp [zeroValue, typeInfo, hi, hz0]
theorem setCells_row (b : Nat) (t : TypeId) : ∀ (vs : List Value) (o : Nat) (w : World) (cur : Array Value), w.heap[b]? = some (.cells cur t (0, 0)) →
    ∃ cur', (w.setCells b o vs).heap[b]? = some (.cells cur' t (0, 0)) ∧ cur'.size = cur.size ∧ (∀ j, j < o → cur'[j]? = cur[j]?) ∧ Mod (· = b) w (w.setCells b o vs)
  | [], o, w, cur, h => ⟨cur, h, rfl, fun _ _ => rfl, Mod.refl _ _⟩
  | v :: vs, o, w, cur, h => by
    obtain ⟨cur', h1, h2, h3, h4⟩ := setCells_row b t vs (o + 1) (w.setCell ⟨b, o, none⟩ v) _ (heap_setCell_same w b o _ _ v h)
    refine ⟨cur', h1, h2.trans (by simp), fun j hj => (h3 j (by omega)).trans (by rw [Array.getElem?_setIfInBounds_ne (by omega)]), ?_⟩
    exact (Mod.setCell (T := (· = b)) (Mod.refl _ w) (fun _ => rfl) v).trans h4 (fun _ _ h => h)
set_option maxRecDepth 100000 in
set_option maxHeartbeats 4000000 in
theorem tdelete_any (g m c : Nat) (cur : Array Value) (w : World) (hg : w.heap[g]? = some (.cells cur 122 (0, 0))) (hsz : cur.size = c * 4) (hm : m + 1 ≤ c) (hc : c ≤ maxLen) (hl : m ≤ 1000000000) :
    Calls Try.prog 59 #[.slice (some ⟨g, 0, none⟩) (m + 1) c, .int .i64 (m : Int), .int .i64 ((m : Int) + 1)] w fun e w' => e = .returned (.slice (some ⟨g, 0, none⟩) m c) ∧
      ∃ cur', w'.heap[g]? = some (.cells cur' 122 (0, 0)) ∧ cur'.size = cur.size ∧ (∀ j, j < m * 4 → cur'[j]? = cur[j]?) ∧ Mod (· = g) w w' := by
  have HRUN : Hid (∀ (X : Addr) (c' : Nat), (Builtin.append_ #[112, 112] 112 #[.slice (some ⟨g, 0, none⟩) m c, .slice (some X) 0 c']).run Try.prog w.drew = .ok (.slice (some ⟨g, 0, none⟩) m c) w.drew) := Lib.hid (fun X c' => by
    obtain ⟨i0, hi, hz0, hz1, hz2⟩ := info_parts infTFr
    have h := run_append_room_cells (P := Try.prog) w.drew 112 112 122 i0 undTFr hi g 0 m c X 0 c' [] (by simp) (by simp) (by simp) (by omega) (by simp) (by simp)
    exact h)
  have f1 : (m : Int) + 1 ≤ (c : Int) := by omega
  have f2 : (m : Int) ≤ (c : Int) := by omega
  have f3 : ((m : Int) == (m : Int) + 1) = false := by rw [beq_eq_false_iff_ne]; omega
  have f4 : m ≤ c := by omega
  have f6 : (0 : Int) ≤ (m : Int) + 1 := by omega
  have f7 : (m : Int) ≤ (m : Int) + 1 := by omega
  unfold maxLen at hc
  have hcel : ∀ j, j < 4 → (w.drew.cell? ⟨g, m * 4 + j, none⟩).isSome = true := fun j hj => by
    show (w.cell? ⟨g, m * 4 + j, none⟩).isSome = true
    rw [cell_of_row w g _ _ _ (0, 0) hg, Array.getElem?_eq_getElem (by rw [hsz]; omega)]
    rfl
  have hclr : ∀ c', (Builtin.clear_ #[112] 0 #[.slice (some ⟨g, m * 4, none⟩) 1 c']).run Try.prog w.drew = .ok (.tuple #[]) (w.drew.setCells g (m * 4) [.slice none 0 0, .slice none 0 0, .int .i64 0, .bool false]) := fun c' =>
    run_clear_one w.drew 112 122 0 (.agg #[.slice none 0 0, .slice none 0 0, .int .i64 0, .bool false]) undTFr zTFr (by decide) g (m * 4) c' hcel (fun j _ => frozen_of_row w.drew g _ _ _ hg)
  obtain ⟨cur', hr1, hr2, hr3, hr4⟩ := setCells_row g 122 [.slice none 0 0, .slice none 0 0, .int .i64 0, .bool false] (m * 4) w.drew cur hg
  have HR : Hid (∃ cur', (w.drew.setCells g (m * 4) [.slice none 0 0, .slice none 0 0, .int .i64 0, .bool false]).heap[g]? = some (.cells cur' 122 (0, 0)) ∧ cur'.size = cur.size ∧ (∀ j, j < m * 4 → cur'[j]? = cur[j]?) ∧ Mod (· = g) w (w.drew.setCells g (m * 4) [.slice none 0 0, .slice none 0 0, .int .i64 0, .bool false])) := Lib.hid ⟨cur', hr1, hr2, hr3, ((Mod.refl (· = g) w).drew).trans hr4 (fun _ _ h => h)⟩
  generalize w.drew.setCells g (m * 4) [.slice none 0 0, .slice none 0 0, .int .i64 0, .bool false] = W5 at hclr HR
  clear hcel hr1 hr2 hr3 hr4 hg hsz
  have f5 : ¬ (c - m = 0) := by omega
  by_cases hcm : c = m + 1
  · subst hcm
    have hcl := hclr 1
    clear hclr
    go_enter Try.func59, Try.ntmps59
    go_wp2_with fail
    refine wp_region_held_drew (S := fun _ => True) (by kernel_rfl) (trivial) (fun hHeld => ?_)
    refine drawn_take 0 rfl (by kernel_rfl) (by kernel_rfl) (by kernel_rfl) (fun _ _ _ h => h) (by rfl) (by assumption) (v := ?_) ?_ ?_
    rotate_left
    · (intro wy hSw; go_simp; try with_reducible rfl)
    simp only [Act.put, List.setIfInBounds_toArray, List.set_cons_zero, List.set_cons_succ]
    refine drawn_take 1 rfl (by kernel_rfl) (by kernel_rfl) (by kernel_rfl) (fun _ _ _ h => h) (by rfl) (by assumption) (v := ?_) ?_ ?_
    rotate_left
    · (intro wy hSw; go_simp; try with_reducible rfl)
    simp only [Act.put, List.setIfInBounds_toArray, List.set_cons_zero, List.set_cons_succ]
    refine drawn_take 2 rfl (by kernel_rfl) (by kernel_rfl) (by kernel_rfl) (fun _ _ _ h => h) (by rfl) (by assumption) (v := ?_) ?_ ?_
    rotate_left
    · (intro wy hSw; go_simp; try with_reducible rfl)
    simp only [Act.put, List.setIfInBounds_toArray, List.set_cons_zero, List.set_cons_succ]
    refine drawn_take 3 rfl (by kernel_rfl) (by kernel_rfl) (by kernel_rfl) (fun _ _ _ h => h) (by rfl) (by assumption) (v := ?_) ?_ ?_
    rotate_left
    · (intro wy hSw; go_simp; try with_reducible rfl)
    simp only [Act.put, List.setIfInBounds_toArray, List.set_cons_zero, List.set_cons_succ]
    refine drawn_take 4 rfl (by kernel_rfl) (by kernel_rfl) (by kernel_rfl) (fun _ _ _ h => h) (by rfl) (by assumption) (v := ?_) ?_ ?_
    rotate_left
    · (intro wy hSw; go_simp; try with_reducible rfl)
    simp only [Act.put, List.setIfInBounds_toArray, List.set_cons_zero, List.set_cons_succ]
    refine drawn_take 5 rfl (by kernel_rfl) (by kernel_rfl) (by kernel_rfl) (fun _ _ _ h => h) (by rfl) (by assumption) (v := ?_) ?_ ?_
    rotate_left
    · (intro wy hSw; go_simp; try with_reducible rfl)
    simp only [Act.put, List.setIfInBounds_toArray, List.set_cons_zero, List.set_cons_succ]
    refine drawn_sole 6 rfl (by kernel_rfl) (fun K hK => ?_)
    rw [if_pos]
    case hc => rfl
    refine wp_appendX (.tmp 22) (.tmp 25) 112 rfl _ _ _ _ rfl rfl (HRUN.out ⟨g, 0, none⟩ 0) ?_
    refine hK.out _ _ trivial (fun hHeld2 => ?_)
    clear hK K hHeld hHeld2
    have hHeld : True := trivial
    try simp only [Act.put, List.setIfInBounds_toArray, List.set_cons_zero, List.set_cons_succ]
    refine drawn_take 7 rfl (by kernel_rfl) (by kernel_rfl) (by kernel_rfl) (fun _ _ _ h => h) (by rfl) (by assumption) (v := ?_) ?_ ?_
    rotate_left
    · (intro wy hSw; go_simp; try with_reducible rfl)
    simp only [Act.put, List.setIfInBounds_toArray, List.set_cons_zero]
    refine wpAnyH_done (by kernel_rfl) ?_ _
    clear hHeld
    go_wp2_with fail
    go_ret
    exact ⟨rfl, HR.out⟩
  · have hcm2 : ¬ (c - (m + 1) = 0) := by omega
    have hcl := hclr (c - m)
    clear hclr
    go_enter Try.func59, Try.ntmps59
    go_wp2_with fail
    refine wp_region_held_drew (S := fun _ => True) (by kernel_rfl) (trivial) (fun hHeld => ?_)
    refine drawn_take 0 rfl (by kernel_rfl) (by kernel_rfl) (by kernel_rfl) (fun _ _ _ h => h) (by rfl) (by assumption) (v := ?_) ?_ ?_
    rotate_left
    · (intro wy hSw; go_simp; try with_reducible rfl)
    simp only [Act.put, List.setIfInBounds_toArray, List.set_cons_zero, List.set_cons_succ]
    refine drawn_take 1 rfl (by kernel_rfl) (by kernel_rfl) (by kernel_rfl) (fun _ _ _ h => h) (by rfl) (by assumption) (v := ?_) ?_ ?_
    rotate_left
    · (intro wy hSw; go_simp; try with_reducible rfl)
    simp only [Act.put, List.setIfInBounds_toArray, List.set_cons_zero, List.set_cons_succ]
    refine drawn_take 2 rfl (by kernel_rfl) (by kernel_rfl) (by kernel_rfl) (fun _ _ _ h => h) (by rfl) (by assumption) (v := ?_) ?_ ?_
    rotate_left
    · (intro wy hSw; go_simp; try with_reducible rfl)
    simp only [Act.put, List.setIfInBounds_toArray, List.set_cons_zero, List.set_cons_succ]
    refine drawn_take 3 rfl (by kernel_rfl) (by kernel_rfl) (by kernel_rfl) (fun _ _ _ h => h) (by rfl) (by assumption) (v := ?_) ?_ ?_
    rotate_left
    · (intro wy hSw; go_simp; try with_reducible rfl)
    simp only [Act.put, List.setIfInBounds_toArray, List.set_cons_zero, List.set_cons_succ]
    refine drawn_take 4 rfl (by kernel_rfl) (by kernel_rfl) (by kernel_rfl) (fun _ _ _ h => h) (by rfl) (by assumption) (v := ?_) ?_ ?_
    rotate_left
    · (intro wy hSw; go_simp; try with_reducible rfl)
    simp only [Act.put, List.setIfInBounds_toArray, List.set_cons_zero, List.set_cons_succ]
    refine drawn_take 5 rfl (by kernel_rfl) (by kernel_rfl) (by kernel_rfl) (fun _ _ _ h => h) (by rfl) (by assumption) (v := ?_) ?_ ?_
    rotate_left
    · (intro wy hSw; go_simp; try with_reducible rfl)
    simp only [Act.put, List.setIfInBounds_toArray, List.set_cons_zero, List.set_cons_succ]
    refine drawn_sole 6 rfl (by kernel_rfl) (fun K hK => ?_)
    rw [if_pos]
    case hc => rfl
    refine wp_appendX (.tmp 22) (.tmp 25) 112 rfl _ _ _ _ rfl rfl (HRUN.out ⟨g, (m + 1) * 4, none⟩ (c - (m + 1))) ?_
    refine hK.out _ _ trivial (fun hHeld2 => ?_)
    clear hK K hHeld hHeld2
    have hHeld : True := trivial
    try simp only [Act.put, List.setIfInBounds_toArray, List.set_cons_zero, List.set_cons_succ]
    refine drawn_take 7 rfl (by kernel_rfl) (by kernel_rfl) (by kernel_rfl) (fun _ _ _ h => h) (by rfl) (by assumption) (v := ?_) ?_ ?_
    rotate_left
    · (intro wy hSw; go_simp; try with_reducible rfl)
    simp only [Act.put, List.setIfInBounds_toArray, List.set_cons_zero]
    refine wpAnyH_done (by kernel_rfl) ?_ _
    clear hHeld
    go_wp2_with fail
    go_ret
    exact ⟨rfl, HR.out⟩
/-- Three that may come up. -/
theorem drawn_three {P : Program} {ops : Array Oper} {Q : Exit → Act → World → Prop} {md : Region.Mode} {S : World → Prop} (i j k : Nat) {d : Option Tmp} {op : Op} {ty : TypeId} {pos : String} {af : Array Edge} {g : Option (Nat × Bool)}
    {d2 : Option Tmp} {op2 : Op} {ty2 : TypeId} {pos2 : String} {af2 : Array Edge} {g2 : Option (Nat × Bool)} {d3 : Option Tmp} {op3 : Op} {ty3 : TypeId} {pos3 : String} {af3 : Array Edge} {g3 : Option (Nat × Bool)} {fuel : Nat} {listed : Array Bool} {a : Act} {w : World}
    (hi : ops[i]? = some ⟨d, op, ty, pos, af, g⟩) (hj : ops[j]? = some ⟨d2, op2, ty2, pos2, af2, g2⟩) (hk : ops[k]? = some ⟨d3, op3, ty3, pos3, af3, g3⟩) (hr : Region.ready md ops listed = [i, j, k])
    (h : ∀ K' : Act → World → Prop, Shut (∀ a w, S w → (S w → wpAnyH P md ops Q S fuel (listed.setIfInBounds i true) a w) → K' a w) → if Region.wanted ⟨d, op, ty, pos, af, g⟩ (yielded ops a.tmps) = true then Oper.wp P ⟨d, op, ty, pos, af, g⟩ a w K' Q else K' (a.put d undef) w)
    (h2 : ∀ K' : Act → World → Prop, Shut (∀ a w, S w → (S w → wpAnyH P md ops Q S fuel (listed.setIfInBounds j true) a w) → K' a w) → if Region.wanted ⟨d2, op2, ty2, pos2, af2, g2⟩ (yielded ops a.tmps) = true then Oper.wp P ⟨d2, op2, ty2, pos2, af2, g2⟩ a w K' Q else K' (a.put d2 undef) w)
    (h3 : ∀ K' : Act → World → Prop, Shut (∀ a w, S w → (S w → wpAnyH P md ops Q S fuel (listed.setIfInBounds k true) a w) → K' a w) → if Region.wanted ⟨d3, op3, ty3, pos3, af3, g3⟩ (yielded ops a.tmps) = true then Oper.wp P ⟨d3, op3, ty3, pos3, af3, g3⟩ a w K' Q else K' (a.put d3 undef) w) :
    wpAnyH P md ops Q S (fuel + 1) listed a w :=
  wpAnyH_ready hr (by simp) (AllReadyH.cons hi h (AllReadyH.cons hj h2 (AllReadyH.cons hk h3 AllReadyH.nil)))
/-- The innermost frame is left out. -/
theorem Stk.closed {w2 w3 : World} {F : Nat → Prop} {P : Nat} {s : Ty.T} {vo : Value} {i : List Ty.Fr} {f : Ty.Fr} {g c : Nat} {cur' : Array Value} (h : Stk w2 F P s vo (.slice (some ⟨g, 0, none⟩) (i.length + 1) c)) (hf : s.frs = i ++ [f])
    (h3 : w3.heap[g]? = some (.cells cur' 122 (0, 0))) (hsz : ∀ cur, w2.heap[g]? = some (.cells cur 122 (0, 0)) → cur'.size = cur.size ∧ ∀ j, j < i.length * 4 → cur'[j]? = cur[j]?) (hm : Mod (· = g) w2 w3) :
    w3.cell? ⟨P, 1, none⟩ = some (.slice (some ⟨g, 0, none⟩) (i.length + 1) c) ∧ w3.frozen? ⟨P, 1, none⟩ = false ∧ Stk (w3.setCell ⟨P, 1, none⟩ (.slice (some ⟨g, 0, none⟩) i.length c)) F P ⟨s.ops, i, s.most⟩ vo (.slice (some ⟨g, 0, none⟩) i.length c) := by
  have hne := h.neF
  have hPg : P ≠ g := fun e => hne (by rw [e]; rfl)
  have hl := h.frs
  rw [hf] at hl
  obtain ⟨g', c', cur, cs, e, h2, _, _, h5, _, _, _, h9⟩ := hl.last
  injection e with e1 _ e3
  injection e1 with e1
  injection e1 with e1 _ _
  subst e1 e3
  obtain ⟨q1, q2⟩ := hsz cur h5
  have hd := (h9 w3 cur' h3 q1 q2 hm (fun k _ hs e => hs.2.2.2 (by rw [e]; rfl))).1
  have hblk := hm.heap h.blk hPg
  have hS : Mod (· = P) w3 (w3.setCell ⟨P, 1, none⟩ (.slice (some ⟨g, 0, none⟩) i.length c)) := Mod.setCell (T := (· = P)) (Mod.refl _ w3) (fun _ => rfl) _
  refine ⟨by rw [cell_of_row w3 P 1 _ _ (0, 0) hblk]; rfl, frozen_of_row w3 P 1 _ _ hblk, ⟨by rw [heap_setCell_same w3 P 1 _ _ _ hblk]; rfl, ?_, ?_, h.inP, h.inO, fun k e => h.inF k e⟩⟩
  · exact hS.own (hm.own h.ops (fun k hk e => h.neOF k hk (by rw [e]; rfl))) (fun k hk e => h.neO (by rw [hk, e]))
  · exact OwnL.mod hd hS (fun k hk e => hne (by rw [← e]; exact hk)) (fun k _ hs e => hs.2.1 e)
/-- What a call of Close or Label tells; it lies in blocks of S. -/
def ansS (S : Nat → Prop) (o : Option (List UInt8)) (e : Ending) (w' : World) : Prop :=
  match o with
  | none => e = .returned (.tuple #[.slice none 0 0, .bool false])
  | some l => ∃ A c, e = .returned (.tuple #[.slice A l.length c, .bool true]) ∧ SliceV w' S l (.slice A l.length c)
set_option maxRecDepth 100000 in
set_option maxHeartbeats 4000000 in
theorem tclose_any {w : World} {F : Nat → Prop} {P : Nat} {s : Ty.T} {vo vf : Value} (h : Stk w F P s vo vf) (hok : s.ok) (h1 : s.ops.length ≤ 1000000000) (h2 : ∀ f ∈ s.frs, f.ends.length ≤ 1000000000) (h3 : s.frs.length ≤ 1000000000) :
    Calls Try.prog 29 #[.pointer (some ⟨P, 0, none⟩)] w fun e w' => ansS F s.closeA e w' ∧ TPost F w P s.close w' := by
  have HS := Lib.hid h
  rcases Ty.parts s with hn | ⟨i, f, hf⟩
  · have HK : Hid (s.close = s ∧ s.closeA = none) := Lib.hid (by unfold Ty.T.close Ty.T.closeA; rw [Ty.last_nil hn]; exact ⟨rfl, rfl⟩)
    have HC := Lib.hid (tinner_none h hn)
    rw [HK.out.1, HK.out.2]
    clear h hok h1 h2 h3 hn
    go_enter Try.func29, Try.ntmps29
    go_wp2_with (go_at_call 56; refine HC.out.mono ?_; rintro e w1 ⟨rfl, rfl⟩)
    go_ret2
    exact ⟨rfl, HS.out.same (Below.refl _ _)⟩
  · obtain ⟨g, cf, u, v, rfl, hcf1, hcf2, hFg, hg, hcell, _, hv⟩ := h.inner hf
    have hil : i.length ≤ 1000000000 := by rw [hf] at h3; simp at h3; omega
    have hfh := Ty.last_h hok hf
    have hel : f.ends.length ≤ 1000000000 := h2 f (by rw [hf]; simp)
    have HC := Lib.hid (tinner_some h hf hil)
    have hv0 := hv
    obtain ⟨A, c, rfl, _, _, _, hvl⟩ := hv0
    have hA : Has w w.heap.size A f.ends := hvl.has
    have HG : Hid (∀ W, Below w.heap.size w W → W.cell? ⟨g, i.length * 4 + 1, none⟩ = some (.slice A f.ends.length c) ∧ W.cell? ⟨g, i.length * 4 + 2, none⟩ = some (.int .i64 (f.h : Int))) := Lib.hid (fun W hb => ⟨(hcell W (hb.block g hg)).2.1, (hcell W (hb.block g hg)).2.2.1⟩)
    have hw0 : s.wout f.ends = Ty.without s.ops f f.ends := by unfold Ty.T.wout; rw [Ty.last_of hf]
    have hwo : ∀ W, Below w.heap.size w W → Calls Try.prog 57 #[.pointer (some ⟨P, 0, none⟩), .slice A f.ends.length c] W fun e w' => e = .returned (woV (Ty.without s.ops f f.ends)) ∧ Below W.heap.size W w' := fun W hb => by
      have := twithout_any (h.on hb) hok f.ends A c (hA.on hb) h1 hel h3
      rwa [hw0] at this
    cases hw : Ty.without s.ops f f.ends with
    | none =>
      have HK : Hid (s.close = s ∧ s.closeA = none) := Lib.hid (by unfold Ty.T.close Ty.T.closeA; rw [Ty.last_of hf]; dsimp only; rw [hw]; exact ⟨rfl, rfl⟩)
      rw [HK.out.1, HK.out.2]
      rw [hw] at hwo
      have HW : Hid (∀ W, Below w.heap.size w W → Calls Try.prog 57 #[.pointer (some ⟨P, 0, none⟩), .slice A f.ends.length c] W fun e w' => e = .returned (.tuple #[.int .i64 0, .bool false]) ∧ Below W.heap.size W w') := Lib.hid hwo
      obtain ⟨I, hI⟩ : ∃ I, i.length * 4 = I := ⟨_, rfl⟩
      rw [hI] at HC HG
      obtain ⟨n, hn⟩ : ∃ n, f.ends.length = n := ⟨_, rfl⟩
      rw [hn] at HG HW
      clear h hok h1 h2 h3 hf hcf1 hcf2 hFg hg hcell hil hfh hel hA hv hvl hw0 hwo hw hI hn
      go_enter Try.func29, Try.ntmps29
      go_wp2_with (first | (go_at_call 56; refine HC.out.mono ?_; rintro e w1 ⟨hb, rfl⟩; obtain ⟨q1, q2⟩ := HG.out w1 hb; have HB := Lib.hid hb; clear hb) | (go_at_call 57; refine (HW.out _ HB.out).mono ?_; rintro e w2 ⟨rfl, hb⟩; have HB2 := Lib.hid (HB.out.trans (hb.mono HB.out.size)); clear hb q1 q2))
      go_ret2
      exact ⟨rfl, HS.out.same HB2.out⟩
    | some k =>
      rw [hw] at hwo
      have HW : Hid (∀ W, Below w.heap.size w W → Calls Try.prog 57 #[.pointer (some ⟨P, 0, none⟩), .slice A f.ends.length c] W fun e w' => e = .returned (.tuple #[.int .i64 (k : Int), .bool true]) ∧ Below W.heap.size W w') := Lib.hid hwo
      obtain ⟨hk1, hk2⟩ := Ty.without_ge hfh hw
      by_cases hle : k ≤ f.h
      · have HK : Hid (s.close = ⟨s.ops.take k, i, s.most⟩ ∧ s.closeA = some f.ends) := Lib.hid (by unfold Ty.T.close Ty.T.closeA; rw [Ty.last_of hf]; dsimp only; rw [hw]; dsimp only; rw [if_pos hle, if_pos hle, hf]; exact ⟨by simp, rfl⟩)
        have HL : Hid (∀ W, Below w.heap.size w W → Calls Try.prog 58 #[.pointer (some ⟨P, 0, none⟩), .int .i64 (k : Int)] W fun e w' => e = .returned (.tuple #[]) ∧ ∃ vo', Stk w' F P (s.cutTo k) vo' (.slice (some ⟨g, 0, none⟩) (i.length + 1) cf) ∧ Mod (· = P) W w') := Lib.hid (fun W hb => tleave_any (h.on hb) k hk2)
        have HD : Hid (∀ W vo', Stk W F P (s.cutTo k) vo' (.slice (some ⟨g, 0, none⟩) (i.length + 1) cf) → W.cell? ⟨P, 1, none⟩ = some (.slice (some ⟨g, 0, none⟩) (i.length + 1) cf) ∧ Calls Try.prog 59 #[.slice (some ⟨g, 0, none⟩) (i.length + 1) cf, .int .i64 (i.length : Int), .int .i64 ((i.length : Int) + 1)] W.drew fun e w' => e = .returned (.slice (some ⟨g, 0, none⟩) i.length cf) ∧
            w'.cell? ⟨P, 1, none⟩ = some (.slice (some ⟨g, 0, none⟩) (i.length + 1) cf) ∧ w'.frozen? ⟨P, 1, none⟩ = false ∧ Stk (w'.setCell ⟨P, 1, none⟩ (.slice (some ⟨g, 0, none⟩) i.length cf)) F P ⟨s.ops.take k, i, s.most⟩ vo' (.slice (some ⟨g, 0, none⟩) i.length cf) ∧ Mod (fun k => k = P ∨ k = g) W (w'.setCell ⟨P, 1, none⟩ (.slice (some ⟨g, 0, none⟩) i.length cf))) := Lib.hid (fun W vo' hs => by
          refine ⟨hs.cell1, ?_⟩
          have hl := hs.frs
          rw [show (s.cutTo k).frs = i ++ [f] from hf] at hl
          obtain ⟨g', c', cur, cs, e, _, _, _, h5, h6, _, _, _⟩ := hl.last
          injection e with e1 _ e3
          injection e1 with e1
          injection e1 with e1 _ _
          subst e1 e3
          refine (tdelete_any g i.length cf cur W.drew h5 h6 hcf1 hcf2 hil).mono ?_
          rintro e w' ⟨rfl, cur', r1, r2, r3, r4⟩
          have r5 : Mod (· = g) W w' := ((Mod.refl (· = g) W).drew).trans r4 (fun _ _ h => h)
          obtain ⟨t1, t2, t3⟩ := hs.closed (show (s.cutTo k).frs = i ++ [f] from hf) r1 (fun cur2 hc => by
            rw [h5] at hc
            injection hc with hc
            injection hc with hc _
            subst hc
            exact ⟨r2, r3⟩) r5
          exact ⟨rfl, t1, t2, t3, (r5.more (T' := fun k => k = P ∨ k = g) (fun k _ e => .inr e)).setCell (fun _ => .inl rfl) _⟩)
        have HEND : Hid (∀ W, Mod (fun k => k = P ∨ k = g) w W → SliceV W F f.ends (.slice A f.ends.length c)) := Lib.hid (fun W hm => (hv.mod hm (fun k _ hs e => by
            rcases e with e | e
            · exact hs.2.1 e
            · exact hs.2.2.2 (by rw [e]; rfl))).more (fun k _ hs => hs.1))
        have HFG : Hid (F g ∧ P < w.heap.size ∧ g < w.heap.size) := Lib.hid ⟨hFg, h.lt, hg⟩
        obtain ⟨I, hI⟩ : ∃ I, i.length * 4 = I := ⟨_, rfl⟩
        rw [hI] at HC HG
        obtain ⟨n, hn⟩ : ∃ n, f.ends.length = n := ⟨_, rfl⟩
        rw [hn] at HG HW
        have HN := Lib.hid hn
        obtain ⟨m, hm⟩ : ∃ m, i.length = m := ⟨_, rfl⟩
        rw [hm] at HL HD
        have hml : m ≤ 1000000000 := by omega
        rw [HK.out.1, HK.out.2]
        have hle2 : ¬ ((f.h : Int) < (k : Int)) := by omega
        have hle3 : decide ((f.h : Int) < (k : Int)) = false := decide_eq_false hle2
        have hle4 : decide (f.h < k) = false := decide_eq_false (by omega)
        generalize f.h = fh at *
        clear h hok h1 h2 h3 hf hcf1 hcf2 hFg hg hcell hil hfh hel hA hv hvl hw0 hwo hw hI hn hm hle hk1 hk2 hle2
        go_enter Try.func29, Try.ntmps29
        go_upto_region 9 with (first | (go_at_call 56; refine HC.out.mono ?_; rintro e w1 ⟨hb, rfl⟩; obtain ⟨q1, q2⟩ := HG.out w1 hb; have HB := Lib.hid hb; clear hb) | (go_at_call 57; refine (HW.out _ HB.out).mono ?_; rintro e w2 ⟨rfl, hb⟩; have HB2 := Lib.hid (HB.out.trans (hb.mono HB.out.size)); clear hb q1 q2; obtain ⟨q1, q2⟩ := HG.out w2 HB2.out) | (go_at_call 58; refine (HL.out _ HB2.out).mono ?_; rintro e w3 ⟨rfl, vo3, hs, hm⟩; have HS3 := Lib.hid hs; have HM3 := Lib.hid hm; clear hs hm q1 q2))
        obtain ⟨hd1, hd2⟩ := HD.out w3 vo3 HS3.out
        have HL1 := Lib.hid hd1
        have HDL := Lib.hid hd2
        clear hd1 hd2
        refine wp_region_held_drew (S := fun _ => True) (by kernel_rfl) (trivial) (fun hHeld => ?_)
        refine drawn_take 0 rfl (by kernel_rfl) (by kernel_rfl) (by kernel_rfl) (fun _ _ _ h => h) (by rfl) (by assumption) (v := ?_) ?_ ?_
        rotate_left
        · (intro wy hSw; go_simp; try with_reducible rfl)
        simp only [Act.put, List.setIfInBounds_toArray, List.set_cons_zero, List.set_cons_succ]
        refine drawn_take 1 rfl (by kernel_rfl) (by kernel_rfl) (by kernel_rfl) (fun _ _ _ h => h) (by rfl) (by assumption) (v := ?_) ?_ ?_
        rotate_left
        · (intro wy hSw; go_simp; try with_reducible rfl)
        simp only [Act.put, List.setIfInBounds_toArray, List.set_cons_zero, List.set_cons_succ]
        refine drawn_take 2 rfl (by kernel_rfl) (by kernel_rfl) (by kernel_rfl) (fun _ _ _ h => h) (by rfl) (by assumption) (v := ?_) ?_ ?_
        rotate_left
        · (intro wy hSw; go_simp; try with_reducible rfl)
        simp only [Act.put, List.setIfInBounds_toArray, List.set_cons_zero, List.set_cons_succ]
        refine drawn_take 3 rfl (by kernel_rfl) (by kernel_rfl) (by kernel_rfl) (fun _ _ _ h => h) (by rfl) (by assumption) (v := ?_) ?_ ?_
        rotate_left
        · (intro wy hSw; go_simp; try with_reducible rfl)
        simp only [Act.put, List.setIfInBounds_toArray, List.set_cons_zero, List.set_cons_succ]
        refine drawn_take 5 rfl (by kernel_rfl) (by kernel_rfl) (by kernel_rfl) (fun _ _ _ h => h) (by rfl) (by assumption) (v := ?_) ?_ ?_
        rotate_left
        · (intro wy hSw; go_simp; try with_reducible rfl)
        simp only [Act.put, List.setIfInBounds_toArray, List.set_cons_zero, List.set_cons_succ]
        refine drawn_take 6 rfl (by kernel_rfl) (by kernel_rfl) (by kernel_rfl) (fun _ _ _ h => h) (by rfl) (by assumption) (v := ?_) ?_ ?_
        rotate_left
        · (intro wy hSw; go_simp; try with_reducible rfl)
        simp only [Act.put, List.setIfInBounds_toArray, List.set_cons_zero, List.set_cons_succ]
        refine drawn_take 7 rfl (by kernel_rfl) (by kernel_rfl) (by kernel_rfl) (fun _ _ _ h => h) (by rfl) (by assumption) (v := ?_) ?_ ?_
        rotate_left
        · (intro wy hSw; go_simp; try with_reducible rfl)
        simp only [Act.put, List.setIfInBounds_toArray, List.set_cons_zero, List.set_cons_succ]
        refine drawn_take 11 rfl (by kernel_rfl) (by kernel_rfl) (by kernel_rfl) (fun _ _ _ h => h) (by rfl) (by assumption) (v := ?_) ?_ ?_
        rotate_left
        · (intro wy hSw; go_simp; try with_reducible rfl)
        simp only [Act.put, List.setIfInBounds_toArray, List.set_cons_zero, List.set_cons_succ]
        refine drawn_take 12 rfl (by kernel_rfl) (by kernel_rfl) (by kernel_rfl) (fun _ _ _ h => h) (by rfl) (by assumption) (v := ?_) ?_ ?_
        rotate_left
        · (intro wy hSw; go_simp; try with_reducible rfl)
        simp only [Act.put, List.setIfInBounds_toArray, List.set_cons_zero, List.set_cons_succ]
        refine drawn_take 13 rfl (by kernel_rfl) (by kernel_rfl) (by kernel_rfl) (fun _ _ _ h => h) (by rfl) (by assumption) (v := ?_) ?_ ?_
        rotate_left
        · (intro wy hSw; go_simp; try with_reducible rfl)
        simp only [Act.put, List.setIfInBounds_toArray, List.set_cons_zero, List.set_cons_succ]
        refine drawn_three 4 8 14 rfl rfl rfl (by kernel_rfl) (fun K hK => ?_) (fun K hK => ?_) (fun K hK => ?_)
        · have hl : w3.drew.cell? ⟨P, 1, none⟩ = some (.slice (some ⟨g, 0, none⟩) (m + 1) cf) := HL1.out
          go_simp
          clear hl
          refine hK.out _ _ trivial (fun hHeld2 => ?_)
          clear hK K hHeld hHeld2
          have hHeld : True := trivial
          refine drawn_pair 8 14 rfl rfl (by kernel_rfl) (fun K hK => ?_) (fun K hK => ?_)
          · have hl : w3.drew.cell? ⟨P, 1, none⟩ = some (.slice (some ⟨g, 0, none⟩) (m + 1) cf) := HL1.out
            go_simp
            clear hl
            refine hK.out _ _ trivial (fun hHeld2 => ?_)
            clear hK K hHeld hHeld2
            have hHeld : True := trivial
            refine drawn_take 9 rfl (by kernel_rfl) (by kernel_rfl) (by kernel_rfl) (fun _ _ _ h => h) (by rfl) (by assumption) (v := ?_) ?_ ?_
            rotate_left
            · (intro wy hSw; go_simp; try with_reducible rfl)
            simp only [Act.put, List.setIfInBounds_toArray, List.set_cons_zero, List.set_cons_succ]
            refine drawn_take 10 rfl (by kernel_rfl) (by kernel_rfl) (by kernel_rfl) (fun _ _ _ h => h) (by rfl) (by assumption) (v := ?_) ?_ ?_
            rotate_left
            · (intro wy hSw; go_simp; try with_reducible rfl)
            simp only [Act.put, List.setIfInBounds_toArray, List.set_cons_zero, List.set_cons_succ]
            refine drawn_sole 14 rfl (by kernel_rfl) (fun K hK => ?_)
            have hl : w3.drew.cell? ⟨P, 1, none⟩ = some (.slice (some ⟨g, 0, none⟩) (m + 1) cf) := HL1.out
            go_simp
            clear hl
            refine hK.out _ _ trivial (fun hHeld2 => ?_)
            clear hK K hHeld hHeld2
            have hHeld : True := trivial
            refine drawn_take 15 rfl (by kernel_rfl) (by kernel_rfl) (by kernel_rfl) (fun _ _ _ h => h) (by rfl) (by assumption) (v := ?_) ?_ ?_
            rotate_left
            · (intro wy hSw; go_simp; try with_reducible rfl)
            simp only [Act.put, List.setIfInBounds_toArray, List.set_cons_zero, List.set_cons_succ]
            refine drawn_sole 16 rfl (by kernel_rfl) (fun K hK => ?_)
            go_simp
            rw [show IntKind.i64.wrap (m : Int) = (m : Int) from IntWalk.i64_in _ (by omega)]
            refine HDL.out.mono ?_
            rintro e w4 ⟨rfl, hc4, hf4, hs4, hm4⟩
            have HC4 := Lib.hid hc4
            have HF4 := Lib.hid hf4
            have HS4 := Lib.hid hs4
            have HM4 := Lib.hid hm4
            clear hc4 hf4 hs4 hm4
            go_wp2_with fail
            refine hK.out _ _ trivial (fun hHeld2 => ?_)
            clear hK K hHeld hHeld2
            have hHeld : True := trivial
            refine drawn_take 17 rfl (by kernel_rfl) (by kernel_rfl) (by kernel_rfl) (fun _ _ _ h => h) (by rfl) (by assumption) (v := ?_) ?_ ?_
            rotate_left
            · (intro wy hSw; go_simp; try with_reducible rfl)
            simp only [Act.put, List.setIfInBounds_toArray, List.set_cons_zero, List.set_cons_succ]
            refine drawn_take 18 rfl (by kernel_rfl) (by kernel_rfl) (by kernel_rfl) (fun _ _ _ h => h) (by rfl) (by assumption) (v := ?_) ?_ ?_
            rotate_left
            · (intro wy hSw; go_simp; try with_reducible rfl)
            simp only [Act.put, List.setIfInBounds_toArray, List.set_cons_zero, List.set_cons_succ]
            refine drawn_sole 19 rfl (by kernel_rfl) (fun K hK => ?_)
            have hl := HC4.out
            have gl := HF4.out
            go_simp
            clear hl gl
            refine hK.out _ _ trivial (fun hHeld2 => ?_)
            clear hK K hHeld hHeld2
            have hHeld : True := trivial
            refine wpAnyH_done (by kernel_rfl) ?_ _
            clear hHeld
            go_wp2_with fail
            go_ret2
            have hp := HFG.out
            have hMM : Mod (fun k => k = P ∨ k = g) w (w4.setCell ⟨P, 1, none⟩ (.slice (some ⟨g, 0, none⟩) m cf)) := ((Mod.of_below (T := fun k => k = P ∨ k = g) HB2.out).trans HM3.out (fun k _ e => .inl e)).trans HM4.out (fun _ _ h => h)
            exact ⟨⟨A, c, by rw [HN.out]; rfl, HEND.out _ hMM⟩, TPost.of HS4.out (hMM.more (fun k _ e => by rcases e with e | e <;> rw [e] <;> first | exact HS.out.inP | exact hp.1))⟩
          · have hl : w3.drew.cell? ⟨P, 1, none⟩ = some (.slice (some ⟨g, 0, none⟩) (m + 1) cf) := HL1.out
            go_simp
            clear hl
            refine hK.out _ _ trivial (fun hHeld2 => ?_)
            clear hK K hHeld hHeld2
            have hHeld : True := trivial
            refine drawn_take 15 rfl (by kernel_rfl) (by kernel_rfl) (by kernel_rfl) (fun _ _ _ h => h) (by rfl) (by assumption) (v := ?_) ?_ ?_
            rotate_left
            · (intro wy hSw; go_simp; try with_reducible rfl)
            simp only [Act.put, List.setIfInBounds_toArray, List.set_cons_zero, List.set_cons_succ]
            refine drawn_sole 8 rfl (by kernel_rfl) (fun K hK => ?_)
            have hl : w3.drew.cell? ⟨P, 1, none⟩ = some (.slice (some ⟨g, 0, none⟩) (m + 1) cf) := HL1.out
            go_simp
            clear hl
            refine hK.out _ _ trivial (fun hHeld2 => ?_)
            clear hK K hHeld hHeld2
            have hHeld : True := trivial
            refine drawn_take 9 rfl (by kernel_rfl) (by kernel_rfl) (by kernel_rfl) (fun _ _ _ h => h) (by rfl) (by assumption) (v := ?_) ?_ ?_
            rotate_left
            · (intro wy hSw; go_simp; try with_reducible rfl)
            simp only [Act.put, List.setIfInBounds_toArray, List.set_cons_zero, List.set_cons_succ]
            refine drawn_take 10 rfl (by kernel_rfl) (by kernel_rfl) (by kernel_rfl) (fun _ _ _ h => h) (by rfl) (by assumption) (v := ?_) ?_ ?_
            rotate_left
            · (intro wy hSw; go_simp; try with_reducible rfl)
            simp only [Act.put, List.setIfInBounds_toArray, List.set_cons_zero, List.set_cons_succ]
            refine drawn_sole 16 rfl (by kernel_rfl) (fun K hK => ?_)
            go_simp
            rw [show IntKind.i64.wrap (m : Int) = (m : Int) from IntWalk.i64_in _ (by omega)]
            refine HDL.out.mono ?_
            rintro e w4 ⟨rfl, hc4, hf4, hs4, hm4⟩
            have HC4 := Lib.hid hc4
            have HF4 := Lib.hid hf4
            have HS4 := Lib.hid hs4
            have HM4 := Lib.hid hm4
            clear hc4 hf4 hs4 hm4
            go_wp2_with fail
            refine hK.out _ _ trivial (fun hHeld2 => ?_)
            clear hK K hHeld hHeld2
            have hHeld : True := trivial
            refine drawn_take 17 rfl (by kernel_rfl) (by kernel_rfl) (by kernel_rfl) (fun _ _ _ h => h) (by rfl) (by assumption) (v := ?_) ?_ ?_
            rotate_left
            · (intro wy hSw; go_simp; try with_reducible rfl)
            simp only [Act.put, List.setIfInBounds_toArray, List.set_cons_zero, List.set_cons_succ]
            refine drawn_take 18 rfl (by kernel_rfl) (by kernel_rfl) (by kernel_rfl) (fun _ _ _ h => h) (by rfl) (by assumption) (v := ?_) ?_ ?_
            rotate_left
            · (intro wy hSw; go_simp; try with_reducible rfl)
            simp only [Act.put, List.setIfInBounds_toArray, List.set_cons_zero, List.set_cons_succ]
            refine drawn_sole 19 rfl (by kernel_rfl) (fun K hK => ?_)
            have hl := HC4.out
            have gl := HF4.out
            go_simp
            clear hl gl
            refine hK.out _ _ trivial (fun hHeld2 => ?_)
            clear hK K hHeld hHeld2
            have hHeld : True := trivial
            refine wpAnyH_done (by kernel_rfl) ?_ _
            clear hHeld
            go_wp2_with fail
            go_ret2
            have hp := HFG.out
            have hMM : Mod (fun k => k = P ∨ k = g) w (w4.setCell ⟨P, 1, none⟩ (.slice (some ⟨g, 0, none⟩) m cf)) := ((Mod.of_below (T := fun k => k = P ∨ k = g) HB2.out).trans HM3.out (fun k _ e => .inl e)).trans HM4.out (fun _ _ h => h)
            exact ⟨⟨A, c, by rw [HN.out]; rfl, HEND.out _ hMM⟩, TPost.of HS4.out (hMM.more (fun k _ e => by rcases e with e | e <;> rw [e] <;> first | exact HS.out.inP | exact hp.1))⟩
        · have hl : w3.drew.cell? ⟨P, 1, none⟩ = some (.slice (some ⟨g, 0, none⟩) (m + 1) cf) := HL1.out
          go_simp
          clear hl
          refine hK.out _ _ trivial (fun hHeld2 => ?_)
          clear hK K hHeld hHeld2
          have hHeld : True := trivial
          refine drawn_take 9 rfl (by kernel_rfl) (by kernel_rfl) (by kernel_rfl) (fun _ _ _ h => h) (by rfl) (by assumption) (v := ?_) ?_ ?_
          rotate_left
          · (intro wy hSw; go_simp; try with_reducible rfl)
          simp only [Act.put, List.setIfInBounds_toArray, List.set_cons_zero, List.set_cons_succ]
          refine drawn_take 10 rfl (by kernel_rfl) (by kernel_rfl) (by kernel_rfl) (fun _ _ _ h => h) (by rfl) (by assumption) (v := ?_) ?_ ?_
          rotate_left
          · (intro wy hSw; go_simp; try with_reducible rfl)
          simp only [Act.put, List.setIfInBounds_toArray, List.set_cons_zero, List.set_cons_succ]
          refine drawn_pair 4 14 rfl rfl (by kernel_rfl) (fun K hK => ?_) (fun K hK => ?_)
          · have hl : w3.drew.cell? ⟨P, 1, none⟩ = some (.slice (some ⟨g, 0, none⟩) (m + 1) cf) := HL1.out
            go_simp
            clear hl
            refine hK.out _ _ trivial (fun hHeld2 => ?_)
            clear hK K hHeld hHeld2
            have hHeld : True := trivial
            refine drawn_sole 14 rfl (by kernel_rfl) (fun K hK => ?_)
            have hl : w3.drew.cell? ⟨P, 1, none⟩ = some (.slice (some ⟨g, 0, none⟩) (m + 1) cf) := HL1.out
            go_simp
            clear hl
            refine hK.out _ _ trivial (fun hHeld2 => ?_)
            clear hK K hHeld hHeld2
            have hHeld : True := trivial
            refine drawn_take 15 rfl (by kernel_rfl) (by kernel_rfl) (by kernel_rfl) (fun _ _ _ h => h) (by rfl) (by assumption) (v := ?_) ?_ ?_
            rotate_left
            · (intro wy hSw; go_simp; try with_reducible rfl)
            simp only [Act.put, List.setIfInBounds_toArray, List.set_cons_zero, List.set_cons_succ]
            refine drawn_sole 16 rfl (by kernel_rfl) (fun K hK => ?_)
            go_simp
            rw [show IntKind.i64.wrap (m : Int) = (m : Int) from IntWalk.i64_in _ (by omega)]
            refine HDL.out.mono ?_
            rintro e w4 ⟨rfl, hc4, hf4, hs4, hm4⟩
            have HC4 := Lib.hid hc4
            have HF4 := Lib.hid hf4
            have HS4 := Lib.hid hs4
            have HM4 := Lib.hid hm4
            clear hc4 hf4 hs4 hm4
            go_wp2_with fail
            refine hK.out _ _ trivial (fun hHeld2 => ?_)
            clear hK K hHeld hHeld2
            have hHeld : True := trivial
            refine drawn_take 17 rfl (by kernel_rfl) (by kernel_rfl) (by kernel_rfl) (fun _ _ _ h => h) (by rfl) (by assumption) (v := ?_) ?_ ?_
            rotate_left
            · (intro wy hSw; go_simp; try with_reducible rfl)
            simp only [Act.put, List.setIfInBounds_toArray, List.set_cons_zero, List.set_cons_succ]
            refine drawn_take 18 rfl (by kernel_rfl) (by kernel_rfl) (by kernel_rfl) (fun _ _ _ h => h) (by rfl) (by assumption) (v := ?_) ?_ ?_
            rotate_left
            · (intro wy hSw; go_simp; try with_reducible rfl)
            simp only [Act.put, List.setIfInBounds_toArray, List.set_cons_zero, List.set_cons_succ]
            refine drawn_sole 19 rfl (by kernel_rfl) (fun K hK => ?_)
            have hl := HC4.out
            have gl := HF4.out
            go_simp
            clear hl gl
            refine hK.out _ _ trivial (fun hHeld2 => ?_)
            clear hK K hHeld hHeld2
            have hHeld : True := trivial
            refine wpAnyH_done (by kernel_rfl) ?_ _
            clear hHeld
            go_wp2_with fail
            go_ret2
            have hp := HFG.out
            have hMM : Mod (fun k => k = P ∨ k = g) w (w4.setCell ⟨P, 1, none⟩ (.slice (some ⟨g, 0, none⟩) m cf)) := ((Mod.of_below (T := fun k => k = P ∨ k = g) HB2.out).trans HM3.out (fun k _ e => .inl e)).trans HM4.out (fun _ _ h => h)
            exact ⟨⟨A, c, by rw [HN.out]; rfl, HEND.out _ hMM⟩, TPost.of HS4.out (hMM.more (fun k _ e => by rcases e with e | e <;> rw [e] <;> first | exact HS.out.inP | exact hp.1))⟩
          · have hl : w3.drew.cell? ⟨P, 1, none⟩ = some (.slice (some ⟨g, 0, none⟩) (m + 1) cf) := HL1.out
            go_simp
            clear hl
            refine hK.out _ _ trivial (fun hHeld2 => ?_)
            clear hK K hHeld hHeld2
            have hHeld : True := trivial
            refine drawn_take 15 rfl (by kernel_rfl) (by kernel_rfl) (by kernel_rfl) (fun _ _ _ h => h) (by rfl) (by assumption) (v := ?_) ?_ ?_
            rotate_left
            · (intro wy hSw; go_simp; try with_reducible rfl)
            simp only [Act.put, List.setIfInBounds_toArray, List.set_cons_zero, List.set_cons_succ]
            refine drawn_sole 4 rfl (by kernel_rfl) (fun K hK => ?_)
            have hl : w3.drew.cell? ⟨P, 1, none⟩ = some (.slice (some ⟨g, 0, none⟩) (m + 1) cf) := HL1.out
            go_simp
            clear hl
            refine hK.out _ _ trivial (fun hHeld2 => ?_)
            clear hK K hHeld hHeld2
            have hHeld : True := trivial
            refine drawn_sole 16 rfl (by kernel_rfl) (fun K hK => ?_)
            go_simp
            rw [show IntKind.i64.wrap (m : Int) = (m : Int) from IntWalk.i64_in _ (by omega)]
            refine HDL.out.mono ?_
            rintro e w4 ⟨rfl, hc4, hf4, hs4, hm4⟩
            have HC4 := Lib.hid hc4
            have HF4 := Lib.hid hf4
            have HS4 := Lib.hid hs4
            have HM4 := Lib.hid hm4
            clear hc4 hf4 hs4 hm4
            go_wp2_with fail
            refine hK.out _ _ trivial (fun hHeld2 => ?_)
            clear hK K hHeld hHeld2
            have hHeld : True := trivial
            refine drawn_take 17 rfl (by kernel_rfl) (by kernel_rfl) (by kernel_rfl) (fun _ _ _ h => h) (by rfl) (by assumption) (v := ?_) ?_ ?_
            rotate_left
            · (intro wy hSw; go_simp; try with_reducible rfl)
            simp only [Act.put, List.setIfInBounds_toArray, List.set_cons_zero, List.set_cons_succ]
            refine drawn_take 18 rfl (by kernel_rfl) (by kernel_rfl) (by kernel_rfl) (fun _ _ _ h => h) (by rfl) (by assumption) (v := ?_) ?_ ?_
            rotate_left
            · (intro wy hSw; go_simp; try with_reducible rfl)
            simp only [Act.put, List.setIfInBounds_toArray, List.set_cons_zero, List.set_cons_succ]
            refine drawn_sole 19 rfl (by kernel_rfl) (fun K hK => ?_)
            have hl := HC4.out
            have gl := HF4.out
            go_simp
            clear hl gl
            refine hK.out _ _ trivial (fun hHeld2 => ?_)
            clear hK K hHeld hHeld2
            have hHeld : True := trivial
            refine wpAnyH_done (by kernel_rfl) ?_ _
            clear hHeld
            go_wp2_with fail
            go_ret2
            have hp := HFG.out
            have hMM : Mod (fun k => k = P ∨ k = g) w (w4.setCell ⟨P, 1, none⟩ (.slice (some ⟨g, 0, none⟩) m cf)) := ((Mod.of_below (T := fun k => k = P ∨ k = g) HB2.out).trans HM3.out (fun k _ e => .inl e)).trans HM4.out (fun _ _ h => h)
            exact ⟨⟨A, c, by rw [HN.out]; rfl, HEND.out _ hMM⟩, TPost.of HS4.out (hMM.more (fun k _ e => by rcases e with e | e <;> rw [e] <;> first | exact HS.out.inP | exact hp.1))⟩
        · have hl : w3.drew.cell? ⟨P, 1, none⟩ = some (.slice (some ⟨g, 0, none⟩) (m + 1) cf) := HL1.out
          go_simp
          clear hl
          refine hK.out _ _ trivial (fun hHeld2 => ?_)
          clear hK K hHeld hHeld2
          have hHeld : True := trivial
          refine drawn_take 15 rfl (by kernel_rfl) (by kernel_rfl) (by kernel_rfl) (fun _ _ _ h => h) (by rfl) (by assumption) (v := ?_) ?_ ?_
          rotate_left
          · (intro wy hSw; go_simp; try with_reducible rfl)
          simp only [Act.put, List.setIfInBounds_toArray, List.set_cons_zero, List.set_cons_succ]
          refine drawn_pair 4 8 rfl rfl (by kernel_rfl) (fun K hK => ?_) (fun K hK => ?_)
          · have hl : w3.drew.cell? ⟨P, 1, none⟩ = some (.slice (some ⟨g, 0, none⟩) (m + 1) cf) := HL1.out
            go_simp
            clear hl
            refine hK.out _ _ trivial (fun hHeld2 => ?_)
            clear hK K hHeld hHeld2
            have hHeld : True := trivial
            refine drawn_sole 8 rfl (by kernel_rfl) (fun K hK => ?_)
            have hl : w3.drew.cell? ⟨P, 1, none⟩ = some (.slice (some ⟨g, 0, none⟩) (m + 1) cf) := HL1.out
            go_simp
            clear hl
            refine hK.out _ _ trivial (fun hHeld2 => ?_)
            clear hK K hHeld hHeld2
            have hHeld : True := trivial
            refine drawn_take 9 rfl (by kernel_rfl) (by kernel_rfl) (by kernel_rfl) (fun _ _ _ h => h) (by rfl) (by assumption) (v := ?_) ?_ ?_
            rotate_left
            · (intro wy hSw; go_simp; try with_reducible rfl)
            simp only [Act.put, List.setIfInBounds_toArray, List.set_cons_zero, List.set_cons_succ]
            refine drawn_take 10 rfl (by kernel_rfl) (by kernel_rfl) (by kernel_rfl) (fun _ _ _ h => h) (by rfl) (by assumption) (v := ?_) ?_ ?_
            rotate_left
            · (intro wy hSw; go_simp; try with_reducible rfl)
            simp only [Act.put, List.setIfInBounds_toArray, List.set_cons_zero, List.set_cons_succ]
            refine drawn_sole 16 rfl (by kernel_rfl) (fun K hK => ?_)
            go_simp
            rw [show IntKind.i64.wrap (m : Int) = (m : Int) from IntWalk.i64_in _ (by omega)]
            refine HDL.out.mono ?_
            rintro e w4 ⟨rfl, hc4, hf4, hs4, hm4⟩
            have HC4 := Lib.hid hc4
            have HF4 := Lib.hid hf4
            have HS4 := Lib.hid hs4
            have HM4 := Lib.hid hm4
            clear hc4 hf4 hs4 hm4
            go_wp2_with fail
            refine hK.out _ _ trivial (fun hHeld2 => ?_)
            clear hK K hHeld hHeld2
            have hHeld : True := trivial
            refine drawn_take 17 rfl (by kernel_rfl) (by kernel_rfl) (by kernel_rfl) (fun _ _ _ h => h) (by rfl) (by assumption) (v := ?_) ?_ ?_
            rotate_left
            · (intro wy hSw; go_simp; try with_reducible rfl)
            simp only [Act.put, List.setIfInBounds_toArray, List.set_cons_zero, List.set_cons_succ]
            refine drawn_take 18 rfl (by kernel_rfl) (by kernel_rfl) (by kernel_rfl) (fun _ _ _ h => h) (by rfl) (by assumption) (v := ?_) ?_ ?_
            rotate_left
            · (intro wy hSw; go_simp; try with_reducible rfl)
            simp only [Act.put, List.setIfInBounds_toArray, List.set_cons_zero, List.set_cons_succ]
            refine drawn_sole 19 rfl (by kernel_rfl) (fun K hK => ?_)
            have hl := HC4.out
            have gl := HF4.out
            go_simp
            clear hl gl
            refine hK.out _ _ trivial (fun hHeld2 => ?_)
            clear hK K hHeld hHeld2
            have hHeld : True := trivial
            refine wpAnyH_done (by kernel_rfl) ?_ _
            clear hHeld
            go_wp2_with fail
            go_ret2
            have hp := HFG.out
            have hMM : Mod (fun k => k = P ∨ k = g) w (w4.setCell ⟨P, 1, none⟩ (.slice (some ⟨g, 0, none⟩) m cf)) := ((Mod.of_below (T := fun k => k = P ∨ k = g) HB2.out).trans HM3.out (fun k _ e => .inl e)).trans HM4.out (fun _ _ h => h)
            exact ⟨⟨A, c, by rw [HN.out]; rfl, HEND.out _ hMM⟩, TPost.of HS4.out (hMM.more (fun k _ e => by rcases e with e | e <;> rw [e] <;> first | exact HS.out.inP | exact hp.1))⟩
          · have hl : w3.drew.cell? ⟨P, 1, none⟩ = some (.slice (some ⟨g, 0, none⟩) (m + 1) cf) := HL1.out
            go_simp
            clear hl
            refine hK.out _ _ trivial (fun hHeld2 => ?_)
            clear hK K hHeld hHeld2
            have hHeld : True := trivial
            refine drawn_take 9 rfl (by kernel_rfl) (by kernel_rfl) (by kernel_rfl) (fun _ _ _ h => h) (by rfl) (by assumption) (v := ?_) ?_ ?_
            rotate_left
            · (intro wy hSw; go_simp; try with_reducible rfl)
            simp only [Act.put, List.setIfInBounds_toArray, List.set_cons_zero, List.set_cons_succ]
            refine drawn_take 10 rfl (by kernel_rfl) (by kernel_rfl) (by kernel_rfl) (fun _ _ _ h => h) (by rfl) (by assumption) (v := ?_) ?_ ?_
            rotate_left
            · (intro wy hSw; go_simp; try with_reducible rfl)
            simp only [Act.put, List.setIfInBounds_toArray, List.set_cons_zero, List.set_cons_succ]
            refine drawn_sole 4 rfl (by kernel_rfl) (fun K hK => ?_)
            have hl : w3.drew.cell? ⟨P, 1, none⟩ = some (.slice (some ⟨g, 0, none⟩) (m + 1) cf) := HL1.out
            go_simp
            clear hl
            refine hK.out _ _ trivial (fun hHeld2 => ?_)
            clear hK K hHeld hHeld2
            have hHeld : True := trivial
            refine drawn_sole 16 rfl (by kernel_rfl) (fun K hK => ?_)
            go_simp
            rw [show IntKind.i64.wrap (m : Int) = (m : Int) from IntWalk.i64_in _ (by omega)]
            refine HDL.out.mono ?_
            rintro e w4 ⟨rfl, hc4, hf4, hs4, hm4⟩
            have HC4 := Lib.hid hc4
            have HF4 := Lib.hid hf4
            have HS4 := Lib.hid hs4
            have HM4 := Lib.hid hm4
            clear hc4 hf4 hs4 hm4
            go_wp2_with fail
            refine hK.out _ _ trivial (fun hHeld2 => ?_)
            clear hK K hHeld hHeld2
            have hHeld : True := trivial
            refine drawn_take 17 rfl (by kernel_rfl) (by kernel_rfl) (by kernel_rfl) (fun _ _ _ h => h) (by rfl) (by assumption) (v := ?_) ?_ ?_
            rotate_left
            · (intro wy hSw; go_simp; try with_reducible rfl)
            simp only [Act.put, List.setIfInBounds_toArray, List.set_cons_zero, List.set_cons_succ]
            refine drawn_take 18 rfl (by kernel_rfl) (by kernel_rfl) (by kernel_rfl) (fun _ _ _ h => h) (by rfl) (by assumption) (v := ?_) ?_ ?_
            rotate_left
            · (intro wy hSw; go_simp; try with_reducible rfl)
            simp only [Act.put, List.setIfInBounds_toArray, List.set_cons_zero, List.set_cons_succ]
            refine drawn_sole 19 rfl (by kernel_rfl) (fun K hK => ?_)
            have hl := HC4.out
            have gl := HF4.out
            go_simp
            clear hl gl
            refine hK.out _ _ trivial (fun hHeld2 => ?_)
            clear hK K hHeld hHeld2
            have hHeld : True := trivial
            refine wpAnyH_done (by kernel_rfl) ?_ _
            clear hHeld
            go_wp2_with fail
            go_ret2
            have hp := HFG.out
            have hMM : Mod (fun k => k = P ∨ k = g) w (w4.setCell ⟨P, 1, none⟩ (.slice (some ⟨g, 0, none⟩) m cf)) := ((Mod.of_below (T := fun k => k = P ∨ k = g) HB2.out).trans HM3.out (fun k _ e => .inl e)).trans HM4.out (fun _ _ h => h)
            exact ⟨⟨A, c, by rw [HN.out]; rfl, HEND.out _ hMM⟩, TPost.of HS4.out (hMM.more (fun k _ e => by rcases e with e | e <;> rw [e] <;> first | exact HS.out.inP | exact hp.1))⟩
      · have HK : Hid (s.close = s ∧ s.closeA = none) := Lib.hid (by unfold Ty.T.close Ty.T.closeA; rw [Ty.last_of hf]; dsimp only; rw [hw]; dsimp only; rw [if_neg hle, if_neg hle]; exact ⟨rfl, rfl⟩)
        rw [HK.out.1, HK.out.2]
        obtain ⟨I, hI⟩ : ∃ I, i.length * 4 = I := ⟨_, rfl⟩
        rw [hI] at HC HG
        obtain ⟨n, hn⟩ : ∃ n, f.ends.length = n := ⟨_, rfl⟩
        rw [hn] at HG HW
        have hle2 : (f.h : Int) < (k : Int) := by omega
        have hle3 : f.h < k := by omega
        generalize f.h = fh at *
        clear h hok h1 h2 h3 hf hcf1 hcf2 hFg hg hcell hil hfh hel hA hv hvl hw0 hwo hw hI hn hle hk1 hk2
        go_enter Try.func29, Try.ntmps29
        go_wp2_with (first | (go_at_call 56; refine HC.out.mono ?_; rintro e w1 ⟨hb, rfl⟩; obtain ⟨q1, q2⟩ := HG.out w1 hb; have HB := Lib.hid hb; clear hb) | (go_at_call 57; refine (HW.out _ HB.out).mono ?_; rintro e w2 ⟨rfl, hb⟩; have HB2 := Lib.hid (HB.out.trans (hb.mono HB.out.size)); clear hb q1 q2; obtain ⟨q1, q2⟩ := HG.out w2 HB2.out))
        go_ret2
        exact ⟨rfl, HS.out.same HB2.out⟩
end Go.Proofs.Ytakbehoglgebmaa
