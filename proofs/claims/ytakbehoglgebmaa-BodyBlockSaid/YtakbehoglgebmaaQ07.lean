/-
  Layer 9's program: Push, Want, Pop, Dead. (gen/typing/push.py)
-/
import Derived.Test.YtakbehoglgebmaaQ06
namespace Go.Proofs.Ytakbehoglgebmaa
open Go.RowKit Ins Bin
/-- What a call of a stack comes to. -/
def TPost (F : Nat → Prop) (w : World) (P : Nat) (s' : Ty.T) (w' : World) : Prop := ∃ F' vo' vf', Stk w' F' P s' vo' vf' ∧ (∀ k, F' k → F k ∨ w.heap.size ≤ k) ∧ Mod F w w'
theorem TPost.ahead {F : Nat → Prop} {w w1 w' : World} {P : Nat} {s' : Ty.T} (hb : Below w.heap.size w w1) (h : TPost F w1 P s' w') : TPost F w P s' w' := by
  obtain ⟨F', vo', vf', h1, h2, h3⟩ := h
  exact ⟨F', vo', vf', h1, fun k hk => (h2 k hk).imp id (fun h => Nat.le_trans hb.size h), (Mod.of_below hb).trans h3 (fun _ _ h => h)⟩
theorem TPost.trans {F F1 : Nat → Prop} {w w1 w' : World} {P : Nat} {s' : Ty.T} (hm : Mod F w w1) (hf : ∀ k, F1 k → F k ∨ w.heap.size ≤ k) (h : TPost F1 w1 P s' w') : TPost F w P s' w' := by
  obtain ⟨F', vo', vf', h1, h2, h3⟩ := h
  refine ⟨F', vo', vf', h1, fun k hk => ?_, hm.trans h3 (fun k hk h => ?_)⟩
  · rcases h2 k hk with h | h
    · exact hf k h
    · exact .inr (Nat.le_trans hm.size h)
  · rcases hf k h with h | h
    · exact h
    · omega
theorem Stk.same {w w' : World} {F : Nat → Prop} {P : Nat} {s : Ty.T} {vo vf : Value} (h : Stk w F P s vo vf) (hb : Below w.heap.size w w') : TPost F w P s w' := ⟨F, vo, vf, h.on hb, fun _ h => .inl h, Mod.of_below hb⟩
/-- Operands are laid behind. -/
theorem Stk.grown {w w1 w' : World} {F : Nat → Prop} {P m' : Nat} {s : Ty.T} {vo vf vo' : Value} {l : List UInt8} (h : Stk w F P s vo vf) (ha : Adds 0 w vo w1 vo' (s.ops ++ l)) (hm : Mod (· = P) w1 w')
    (hc : w'.heap[P]? = some (.cells #[vo', vf, .int .i64 (m' : Int)] 114 (0, 0))) : TPost F w P ⟨s.ops ++ l, s.frs, m'⟩ w' := by
  have hP := h.lt
  obtain ⟨ha1, ha2, ha3⟩ := ha
  have hne : vo'.ownBlock ≠ some P := fun e => by
    rcases ha3 P e with e | e
    · exact h.neO e
    · omega
  refine ⟨fun k => F k ∨ w.heap.size ≤ k, vo', vf, ⟨hc, hm.own ha1 (fun g hg e => hne (by rw [hg, e])), ?_, .inl h.inP, fun k hk => ?_, fun k hk => .inl (h.inF k hk)⟩, fun k hk => hk, ?_⟩
  · have h1 := h.frs.more (S' := fun k => inS F P vo vf k ∧ inS (fun k => F k ∨ w.heap.size ≤ k) P vo' vf k) (fun k hk hs => ⟨hs, .inl hs.1, hs.2.1, fun e => by
      rcases ha3 k e with e | e
      · exact hs.2.2.1 e
      · omega, hs.2.2.2⟩)
    have h2 := (h1.mod ha2 (fun k hk e => h.neOF k e hk) (fun k _ hs e => hs.1.2.2.1 e)).more (S' := inS (fun k => F k ∨ w.heap.size ≤ k) P vo' vf) (fun _ _ hs => hs.2)
    exact h2.mod hm (fun g hg e => h.neF (by rw [hg, e])) (fun g _ hs e => hs.2.1 e)
  · rcases ha3 k hk with e | e
    · exact .inl (h.inO k e)
    · exact .inr e
  · exact (ha2.more (fun k _ e => h.inO k e)).trans hm (fun k _ e => by rw [e]; exact h.inP)
set_option maxRecDepth 100000 in
set_option maxHeartbeats 4000000 in
theorem tpush_any {w : World} {F : Nat → Prop} {P : Nat} {s : Ty.T} {vo vf : Value} (h : Stk w F P s vo vf) (l : List UInt8) (A : Option Addr) (c : Nat) (hA : Has w w.heap.size A l) (h1 : s.ops.length + l.length ≤ 1000000000) (_h2 : s.most ≤ 1000000000) :
    Calls Try.prog 68 #[.pointer (some ⟨P, 0, none⟩), .slice A l.length c] w fun e w' => e = .returned (.tuple #[]) ∧ TPost F w P (s.push l) w' := by
  obtain ⟨vo', w1, hrun, ha⟩ := appends_adds w 0 l.length c vo s.ops l A h.ops hA rfl (by omega) (Nat.zero_le _)
  have HRUN := Lib.hid hrun
  have HA := Lib.hid ha
  have h0 := h.cell0
  have hB1 : Hid (w1.heap[P]? = some (.cells #[vo, vf, .int .i64 (s.most : Int)] 114 (0, 0))) := Lib.hid (ha.2.1.heap h.blk h.neO)
  obtain ⟨A', c', rfl, _, _⟩ := own_form ha.1
  have hlen : (s.ops ++ l).length = s.ops.length + l.length := List.length_append
  have HS := Lib.hid h
  obtain ⟨B, c2, rfl, _, _⟩ := own_form h.ops
  unfold Ty.T.push
  obtain ⟨S0, hS0⟩ : ∃ S0, s.ops = S0 := ⟨_, rfl⟩
  have hk1 := hB1.out
  have f0 : w1.cell? ⟨P, 0, none⟩ = some (.slice B s.ops.length c2) := by rw [cell_of_row w1 P 0 _ _ (0, 0) hk1]; rfl
  have f1 : w1.frozen? ⟨P, 0, none⟩ = false := frozen_of_row w1 P 0 _ _ hk1
  have HP2 : Hid ((w1.setCell ⟨P, 0, none⟩ (.slice A' (s.ops ++ l).length c')).heap[P]? = some (.cells #[.slice A' (s.ops ++ l).length c', vf, .int .i64 (s.most : Int)] 114 (0, 0))) := Lib.hid (by rw [heap_setCell_same w1 P 0 _ _ _ hk1]; rfl)
  have HM2 : Hid (Mod (· = P) w1 (w1.setCell ⟨P, 0, none⟩ (.slice A' (s.ops ++ l).length c'))) := Lib.hid (Mod.setCell (T := (· = P)) (Mod.refl _ w1) (fun _ => rfl) _)
  rw [hlen] at HRUN HP2 HM2
  obtain ⟨m, hm⟩ : ∃ m, s.ops.length = m := ⟨_, rfl⟩
  obtain ⟨n, hn⟩ : ∃ n, l.length = n := ⟨_, rfl⟩
  obtain ⟨mo, hmo⟩ : ∃ n, s.most = n := ⟨_, rfl⟩
  rw [hm] at h0 f0 h1
  rw [hm, hn] at HRUN HP2 HM2
  rw [hn] at h1
  rw [hmo] at HP2
  rw [hn]
  have HM := Lib.hid hm
  have HN := Lib.hid hn
  have HMO := Lib.hid hmo
  clear h hA hrun ha hB1 hk1 hlen hS0 hm hn hmo
  go_enter Try.func68, Try.ntmps68
  go_upto_region 2 with (at_builtin; refine wpList_appends rfl (.tmp 10) (.tmp 11) 34 rfl _ _ _ w1 rfl rfl HRUN.out ?_; clear h0)
  generalize w1.setCell ⟨P, 0, none⟩ (.slice A' (m + n) c') = w2 at HP2 HM2 ⊢
  clear f0 f1
  have HC0 : Hid (w2.cell? ⟨P, 0, none⟩ = some (.slice A' (m + n) c')) := Lib.hid (by rw [cell_of_row w2 P 0 _ _ (0, 0) HP2.out]; rfl)
  refine wp_region_held_drew (S := fun W' => W'.cell? ⟨P, 0, none⟩ = some (.slice A' (m + n) c')) (by kernel_rfl) (HC0.out) (fun hHeld => ?_)
  refine drawn_take 0 rfl (by kernel_rfl) (by kernel_rfl) (by kernel_rfl) (fun _ _ _ h => h) (by rfl) (by assumption) (v := ?_) ?_ ?_
  rotate_left
  · (intro wy hSw; go_simp; try with_reducible rfl)
  simp only [Act.put, List.setIfInBounds_toArray, List.set_cons_zero, List.set_cons_succ]
  refine drawn_take 1 rfl (by kernel_rfl) (by kernel_rfl) (by kernel_rfl) (fun _ _ _ h => h) (by rfl) (by assumption) (v := ?_) ?_ ?_
  rotate_left
  · (intro wy hSw; go_simp; try with_reducible rfl)
  simp only [Act.put, List.setIfInBounds_toArray, List.set_cons_zero, List.set_cons_succ]
  refine drawn_take 2 rfl (by kernel_rfl) (by kernel_rfl) (by kernel_rfl) (fun _ _ _ h => h) (by rfl) (by assumption) (v := ?_) ?_ ?_
  rotate_left
  · (intro wy hSw; go_simp; try with_reducible rfl)
  simp only [Act.put, List.setIfInBounds_toArray, List.set_cons_zero, List.set_cons_succ]
  refine drawn_take 3 rfl (by kernel_rfl) (by kernel_rfl) (by kernel_rfl) (fun _ _ _ h => h) (by rfl) (by assumption) (v := ?_) ?_ ?_
  rotate_left
  · (intro wy hSw; go_simp; try with_reducible rfl)
  simp only [Act.put, List.setIfInBounds_toArray, List.set_cons_zero, List.set_cons_succ]
  refine drawn_take 5 rfl (by kernel_rfl) (by kernel_rfl) (by kernel_rfl) (fun _ _ _ h => h) (by rfl) (by assumption) (v := ?_) ?_ ?_
  rotate_left
  · (intro wy hSw; go_simp; try with_reducible rfl)
  simp only [Act.put, List.setIfInBounds_toArray, List.set_cons_zero, List.set_cons_succ]
  refine drawn_take 6 rfl (by kernel_rfl) (by kernel_rfl) (by kernel_rfl) (fun _ _ _ h => h) (by rfl) (by assumption) (v := ?_) ?_ ?_
  rotate_left
  · (intro wy hSw; go_simp; try with_reducible rfl)
  simp only [Act.put, List.setIfInBounds_toArray, List.set_cons_zero, List.set_cons_succ]
  refine drawn_take 7 rfl (by kernel_rfl) (by kernel_rfl) (by kernel_rfl) (fun _ _ _ h => h) (by rfl) (by assumption) (v := ?_) ?_ ?_
  rotate_left
  · (intro wy hSw; go_simp; try with_reducible rfl)
  simp only [Act.put, List.setIfInBounds_toArray, List.set_cons_zero, List.set_cons_succ]
  refine drawn_take 8 rfl (by kernel_rfl) (by kernel_rfl) (by kernel_rfl) (fun _ _ _ h => h) (by rfl) (by assumption) (v := ?_) ?_ ?_
  rotate_left
  · (intro wy hSw; go_simp; try with_reducible rfl)
  simp only [Act.put, List.setIfInBounds_toArray, List.set_cons_zero, List.set_cons_succ]
  refine drawn_take 9 rfl (by kernel_rfl) (by kernel_rfl) (by kernel_rfl) (fun _ _ _ h => h) (by rfl) (by assumption) (v := ?_) ?_ ?_
  rotate_left
  · (intro wy hSw; go_simp; try with_reducible rfl)
  simp only [Act.put, List.setIfInBounds_toArray, List.set_cons_zero, List.set_cons_succ]
  refine drawn_sole 4 rfl (by kernel_rfl) (fun K hK => ?_)
  have hl : w2.drew.cell? ⟨P, 2, none⟩ = some (.int .i64 (mo : Int)) := by show w2.cell? _ = _; rw [cell_of_row w2 P 2 _ _ (0, 0) HP2.out]; rfl
  go_simp
  clear hl
  refine hK.out _ _ hHeld (fun hHeld2 => ?_)
  clear hK K hHeld
  have hHeld := hHeld2
  clear hHeld2
  refine drawn_take 10 rfl (by kernel_rfl) (by kernel_rfl) (by kernel_rfl) (fun _ _ _ h => h) (by rfl) (by assumption) (v := ?_) ?_ ?_
  rotate_left
  · (intro wy hSw; go_simp; try with_reducible rfl)
  simp only [Act.put, List.setIfInBounds_toArray, List.set_cons_zero, List.set_cons_succ]
  refine drawn_take 11 rfl (by kernel_rfl) (by kernel_rfl) (by kernel_rfl) (fun _ _ _ h => h) (by rfl) (by assumption) (v := ?_) ?_ ?_
  rotate_left
  · (intro wy hSw; go_simp; try with_reducible rfl)
  simp only [Act.put, List.setIfInBounds_toArray, List.set_cons_zero, List.set_cons_succ]
  refine drawn_take 12 rfl (by kernel_rfl) (by kernel_rfl) (by kernel_rfl) (fun _ _ _ h => h) (by rfl) (by assumption) (v := ?_) ?_ ?_
  rotate_left
  · (intro wy hSw; go_simp; try with_reducible rfl)
  simp only [Act.put, List.setIfInBounds_toArray, List.set_cons_zero, List.set_cons_succ]
  refine drawn_sole 13 rfl (by kernel_rfl) (fun K hK => ?_)
  have hf : w2.drew.frozen? ⟨P, 2, none⟩ = false := frozen_of_row w2 P 2 _ _ HP2.out
  have hl : w2.drew.cell? ⟨P, 2, none⟩ = some (.int .i64 (mo : Int)) := by show w2.cell? _ = _; rw [cell_of_row w2 P 2 _ _ (0, 0) HP2.out]; rfl
  go_simp
  clear hl hf
  have hmx : max (mo : Int) ((m : Int) + (n : Int)) = ((max mo (m + n) : Nat) : Int) := by omega
  rw [hmx]
  clear hmx
  obtain ⟨mx, hmx⟩ : ∃ mx, max mo (m + n) = mx := ⟨_, rfl⟩
  rw [hmx]
  have HMX := Lib.hid hmx
  clear hmx
  have HP3 : Hid (((w2.setCell ⟨P, 2, none⟩ (.int .i64 (mx : Int))).drew).heap[P]? = some (.cells #[.slice A' (m + n) c', vf, .int .i64 (mx : Int)] 114 (0, 0))) := Lib.hid (by show (w2.setCell ⟨P, 2, none⟩ (.int .i64 (mx : Int))).heap[P]? = _; rw [heap_setCell_same w2 P 2 _ _ _ HP2.out]; rfl)
  have HM3 : Hid (Mod (· = P) w1 (w2.setCell ⟨P, 2, none⟩ (.int .i64 (mx : Int))).drew) := Lib.hid ((HM2.out.setCell (fun _ => rfl) _).drew)
  generalize (w2.setCell ⟨P, 2, none⟩ (.int .i64 (mx : Int))).drew = w3 at HP3 HM3 ⊢
  refine hK.out _ _ (by rw [cell_of_row w3 P 0 _ _ (0, 0) HP3.out]; rfl) (fun hHeld2 => ?_)
  clear hK K hHeld hHeld2
  refine wpAnyH_done (by kernel_rfl) ?_ _
  go_wp2_with fail
  go_end0
  refine ⟨rfl, ?_⟩
  have hg := HS.out.grown HA.out HM3.out (m' := mx) (by rw [List.length_append, HM.out, HN.out]; exact HP3.out)
  rw [← HMX.out] at hg
  rw [← HMO.out, ← HM.out] at hg
  exact hg
end Go.Proofs.Ytakbehoglgebmaa
/-
  Layer 9's program: Want, Pop, Dead.
-/
namespace Go.Proofs.Ytakbehoglgebmaa
open Go.RowKit Ins Bin
/-- One cell of the innermost frame is written. -/
theorem Stk.setLast {w : World} {F : Nat → Prop} {P : Nat} {s : Ty.T} {vo : Value} {i : List Ty.Fr} {f : Ty.Fr} {g c : Nat} (h : Stk w F P s vo (.slice (some ⟨g, 0, none⟩) (i.length + 1) c)) (hf : s.frs = i ++ [f]) (j : Nat) (z : Value) (f' : Ty.Fr)
    (hrep : ∀ cs, Lay.rep w (inS F P vo (.slice (some ⟨g, 0, none⟩) (i.length + 1) c)) f cs → Lay.rep w (inS F P vo (.slice (some ⟨g, 0, none⟩) (i.length + 1) c)) f' (cs.set j z)) :
    Stk (w.setCell ⟨g, i.length * 4 + j, none⟩ z) F P ⟨s.ops, i ++ [f'], s.most⟩ vo (.slice (some ⟨g, 0, none⟩) (i.length + 1) c) := by
  have hne := h.neF
  have hl := h.frs
  rw [hf] at hl
  have hM : Mod (· = g) w (w.setCell ⟨g, i.length * 4 + j, none⟩ z) := Mod.setCell (T := (· = g)) (Mod.refl _ w) (fun _ => rfl) _
  refine ⟨(heap_setCell_other w _ P _ (fun e => hne (by rw [e]; rfl))).trans h.blk, hM.own h.ops (fun k hk e => h.neOF k hk (by rw [e]; rfl)), OwnL.setLast hl (fun k _ hs e => hs.2.2.2 (by rw [e]; rfl)) j z f' hrep, h.inP, h.inO, h.inF⟩
theorem TPost.of {F : Nat → Prop} {w w' : World} {P : Nat} {s' : Ty.T} {vo vf : Value} (h : Stk w' F P s' vo vf) (hm : Mod F w w') : TPost F w P s' w' := ⟨F, vo, vf, h, fun _ h => .inl h, hm⟩
set_option maxRecDepth 100000 in
set_option maxHeartbeats 4000000 in
theorem twant_any {w : World} {F : Nat → Prop} {P : Nat} {s : Ty.T} {vo vf : Value} (h : Stk w F P s vo vf) (hok : s.ok) (l : List UInt8) (A : Option Addr) (c : Nat) (hA : Has w w.heap.size A l) (h1 : s.ops.length ≤ 1000000000) (h2 : l.length ≤ 1000000000) (h3 : s.frs.length ≤ 1000000000) :
    Calls Try.prog 67 #[.pointer (some ⟨P, 0, none⟩), .slice A l.length c] w fun e w' => e = .returned (.bool (s.wantA l)) ∧ TPost F w P (s.want l) w' := by
  have hc := twithout_any h hok l A c hA h1 h2 h3
  have HS := Lib.hid h
  cases hw : s.wout l with
  | none =>
    rw [hw] at hc
    have HC : Hid (Calls Try.prog 57 #[.pointer (some ⟨P, 0, none⟩), .slice A l.length c] w fun e w' => e = .returned (.tuple #[.int .i64 0, .bool false]) ∧ Below w.heap.size w w') := Lib.hid hc
    have HW := Lib.hid hw
    obtain ⟨n, hn⟩ : ∃ n, l.length = n := ⟨_, rfl⟩
    rw [hn] at HC
    rw [hn]
    clear h hok hA h1 h2 h3 hc hw hn
    go_enter Try.func67, Try.ntmps67
    go_wp2_with (go_at_call 57; refine HC.out.mono ?_; rintro e w1 ⟨rfl, hb⟩; have HB := Lib.hid hb; clear hb)
    go_ret
    refine ⟨?_, ?_⟩
    · unfold Ty.T.wantA; rw [HW.out]; rfl
    · unfold Ty.T.want; rw [HW.out]; exact HS.out.same HB.out
  | some k =>
    rw [hw] at hc
    have HC : Hid (Calls Try.prog 57 #[.pointer (some ⟨P, 0, none⟩), .slice A l.length c] w fun e w' => e = .returned (.tuple #[.int .i64 (k : Int), .bool true]) ∧ Below w.heap.size w w') := Lib.hid hc
    have HW := Lib.hid hw
    have hk : k ≤ s.ops.length := by
      unfold Ty.T.wout at hw
      rcases Ty.parts s with hn | ⟨i, f, hf⟩
      · rw [Ty.last_nil hn] at hw; cases hw
      · rw [Ty.last_of hf] at hw
        exact (Ty.without_ge (Ty.last_h hok hf) hw).2
    have HL : Hid (∀ W, Below w.heap.size w W → Calls Try.prog 58 #[.pointer (some ⟨P, 0, none⟩), .int .i64 (k : Int)] W fun e w' => e = .returned (.tuple #[]) ∧ ∃ vo', Stk w' F P (s.cutTo k) vo' vf ∧ Mod (· = P) W w') := Lib.hid (fun W hb => tleave_any (h.on hb) k hk)
    obtain ⟨n, hn⟩ : ∃ n, l.length = n := ⟨_, rfl⟩
    rw [hn] at HC
    rw [hn]
    clear h hok hA h1 h2 h3 hc hw hn hk
    go_enter Try.func67, Try.ntmps67
    go_wp2_with (first | (go_at_call 57; refine HC.out.mono ?_; rintro e w1 ⟨rfl, hb⟩; have HB := Lib.hid hb; clear hb) | (go_at_call 58; refine (HL.out _ HB.out).mono ?_; rintro e w2 ⟨rfl, vo2, hs, hm⟩; have HS2 := Lib.hid hs; have HM2 := Lib.hid hm; clear hs hm))
    go_ret
    refine ⟨?_, ?_⟩
    · unfold Ty.T.wantA; rw [HW.out]; rfl
    · unfold Ty.T.want; rw [HW.out]
      exact TPost.ahead HB.out (TPost.of HS2.out (HM2.out.more (fun k _ e => by rw [e]; exact HS.out.inP)))
set_option maxRecDepth 100000 in
set_option maxHeartbeats 4000000 in
theorem tdead_any {w : World} {F : Nat → Prop} {P : Nat} {s : Ty.T} {vo vf : Value} (h : Stk w F P s vo vf) (hok : s.ok) (h3 : s.frs.length ≤ 1000000000) :
    Calls Try.prog 87 #[.pointer (some ⟨P, 0, none⟩)] w fun e w' => e = .returned (.tuple #[]) ∧ TPost F w P s.kill w' := by
  have HS := Lib.hid h
  rcases Ty.parts s with hn | ⟨i, f, hf⟩
  · have HK : Hid (s.kill = s) := Lib.hid (by unfold Ty.T.kill; rw [Ty.last_nil hn])
    have HC := Lib.hid (tinner_none h hn)
    clear h hok h3 hn
    go_enter Try.func87, Try.ntmps87
    go_wp2_with (go_at_call 56; refine HC.out.mono ?_; rintro e w1 ⟨rfl, rfl⟩)
    go_end0
    refine ⟨rfl, ?_⟩
    rw [HK.out]
    exact HS.out.same (Below.refl _ _)
  · have HK : Hid (s.kill = ⟨s.ops.take f.h, i ++ [⟨f.label, f.ends, f.h, true⟩], s.most⟩) := Lib.hid (by unfold Ty.T.kill; rw [Ty.last_of hf, hf]; simp)
    obtain ⟨g, cf, u, v, rfl, hcf1, hcf2, hFg, hg, hcell, _, _⟩ := h.inner hf
    have hil : i.length ≤ 1000000000 := by rw [hf] at h3; simp at h3; omega
    have hfh := Ty.last_h hok hf
    have HC := Lib.hid (tinner_some h hf hil)
    have HG : Hid (∀ W, Below w.heap.size w W → W.cell? ⟨g, i.length * 4 + 2, none⟩ = some (.int .i64 (f.h : Int))) := Lib.hid (fun W hb => (hcell W (hb.block g hg)).2.2.1)
    have HL : Hid (∀ W, Below w.heap.size w W → Calls Try.prog 58 #[.pointer (some ⟨P, 0, none⟩), .int .i64 (f.h : Int)] W fun e w' => e = .returned (.tuple #[]) ∧ ∃ vo', Stk w' F P (s.cutTo f.h) vo' (.slice (some ⟨g, 0, none⟩) (i.length + 1) cf) ∧ Mod (· = P) W w') := Lib.hid (fun W hb => tleave_any (h.on hb) f.h hfh)
    have HD : Hid (∀ W vo', Stk W F P (s.cutTo f.h) vo' (.slice (some ⟨g, 0, none⟩) (i.length + 1) cf) → W.cell? ⟨g, i.length * 4 + 3, none⟩ = some (.bool f.dead) ∧ W.frozen? ⟨g, i.length * 4 + 3, none⟩ = false ∧ Stk (W.setCell ⟨g, i.length * 4 + 3, none⟩ (.bool true)) F P s.kill vo' (.slice (some ⟨g, 0, none⟩) (i.length + 1) cf)) := Lib.hid (fun W vo' hs => by
      obtain ⟨g', cf', u', v', e, _, _, _, _, hcell', _, _⟩ := hs.inner (show (s.cutTo f.h).frs = i ++ [f] from hf)
      injection e with e1 _ e3
      injection e1 with e1
      injection e1 with e1 _ _
      subst e1 e3
      obtain ⟨_, _, _, q3, q4⟩ := hcell' W rfl
      refine ⟨q3, q4 _, ?_⟩
      rw [HK.out]
      exact hs.setLast (show (s.cutTo f.h).frs = i ++ [f] from hf) 3 (.bool true) ⟨f.label, f.ends, f.h, true⟩ (fun cs hr => by
        obtain ⟨a, b, rfl, r1, r2⟩ := hr
        exact ⟨a, b, rfl, r1, r2⟩))
    have HFG := Lib.hid hFg
    obtain ⟨I, hI⟩ : ∃ I, i.length * 4 = I := ⟨_, rfl⟩
    rw [hI] at HC HG HD
    obtain ⟨fh, hfh'⟩ : ∃ x, f.h = x := ⟨_, rfl⟩
    rw [hfh'] at HG HL HD
    clear h hok h3 hf hcf1 hcf2 hFg hg hcell hil hfh hI hfh' HK
    go_enter Try.func87, Try.ntmps87
    go_wp2_with (first | (go_at_call 56; refine HC.out.mono ?_; rintro e w1 ⟨hb, rfl⟩; have q := HG.out w1 hb; have HB := Lib.hid hb; clear hb) | (go_at_call 58; refine (HL.out _ HB.out).mono ?_; rintro e w2 ⟨rfl, vo2, hs, hm⟩; obtain ⟨p1, p2, p3⟩ := HD.out w2 vo2 hs; have HS2 := Lib.hid p3; have HM2 := Lib.hid hm; clear hs hm p3 q))
    go_end0
    refine ⟨rfl, TPost.ahead HB.out (TPost.of HS2.out ?_)⟩
    exact (HM2.out.more (fun k _ e => by rw [e]; exact HS.out.inP)).setCell (fun _ => HFG.out) _
set_option maxRecDepth 100000 in
set_option maxHeartbeats 4000000 in
theorem tpop_any {w : World} {F : Nat → Prop} {P : Nat} {s : Ty.T} {vo vf : Value} (h : Stk w F P s vo vf) (hok : s.ok) (h1 : s.ops.length ≤ 1000000000) (h3 : s.frs.length ≤ 1000000000) :
    Calls Try.prog 76 #[.pointer (some ⟨P, 0, none⟩)] w fun e w' => e = .returned (.tuple #[.int .u8 (s.popA.1.toNat : Int), .bool s.popA.2]) ∧ TPost F w P s.pop w' := by
  have HS := Lib.hid h
  rcases Ty.parts s with hn | ⟨i, f, hf⟩
  · have HK : Hid (s.pop = s ∧ s.popA = (0, false)) := Lib.hid (by unfold Ty.T.pop Ty.T.popA; rw [Ty.last_nil hn]; exact ⟨rfl, rfl⟩)
    have HC := Lib.hid (tinner_none h hn)
    rw [HK.out.1, HK.out.2]
    clear h hok h1 h3 hn
    go_enter Try.func76, Try.ntmps76
    go_wp2_with (go_at_call 56; refine HC.out.mono ?_; rintro e w1 ⟨rfl, rfl⟩)
    go_ret2
    exact ⟨rfl, HS.out.same (Below.refl _ _)⟩
  · obtain ⟨g, cf, u, v, rfl, hcf1, hcf2, hFg, hg, hcell, _, _⟩ := h.inner hf
    have hil : i.length ≤ 1000000000 := by rw [hf] at h3; simp at h3; omega
    have hfh := Ty.last_h hok hf
    have HC := Lib.hid (tinner_some h hf hil)
    have HG : Hid (∀ W, Below w.heap.size w W → W.cell? ⟨g, i.length * 4 + 2, none⟩ = some (.int .i64 (f.h : Int)) ∧ W.cell? ⟨g, i.length * 4 + 3, none⟩ = some (.bool f.dead)) := Lib.hid (fun W hb => ⟨(hcell W (hb.block g hg)).2.2.1, (hcell W (hb.block g hg)).2.2.2.1⟩)
    obtain ⟨B, c2, rfl, hc1, hc2⟩ := own_form h.ops
    have HP : Hid (∀ W, Below w.heap.size w W → W.cell? ⟨P, 0, none⟩ = some (.slice B s.ops.length c2)) := Lib.hid (fun W hb => (h.on hb).cell0)
    obtain ⟨I, hI⟩ : ∃ I, i.length * 4 = I := ⟨_, rfl⟩
    rw [hI] at HC HG
    obtain ⟨fh, hfh'⟩ : ∃ x, f.h = x := ⟨_, rfl⟩
    obtain ⟨fd, hfd⟩ : ∃ x, f.dead = x := ⟨_, rfl⟩
    unfold Ty.T.pop Ty.T.popA
    rw [Ty.last_of hf]
    dsimp only
    rw [hfh'] at HG hfh
    rw [hfd] at HG
    rw [hfh', hfd]
    clear hI hfh' hfd
    by_cases hle : s.ops.length ≤ fh
    · rw [if_pos hle, if_pos hle]
      obtain ⟨m, hm⟩ : ∃ x, s.ops.length = x := ⟨_, rfl⟩
      rw [hm] at HP hle h1
      have f1 : (m : Int) - 1 < (fh : Int) := by omega
      clear h hok h3 hf hcf1 hcf2 hFg hg hcell hil hfh hc1 hc2 hm
      go_enter Try.func76, Try.ntmps76
      go_upto_region 6 with (go_at_call 56; refine HC.out.mono ?_; rintro e w1 ⟨hb, rfl⟩; obtain ⟨q1, q2⟩ := HG.out w1 hb; have q3 := HP.out w1 hb; have HB := Lib.hid hb; clear hb)
      go_quiet (fail)
      go_wp2_with fail
      go_ret2
      exact ⟨rfl, HS.out.same (Below.dn HB.out _)⟩
    · rw [if_neg hle, if_neg hle]
      obtain ⟨p, hp⟩ : ∃ p, s.ops.length = p + 1 := ⟨s.ops.length - 1, by omega⟩
      obtain ⟨x, hx⟩ : ∃ x, s.ops[p]? = some x := ⟨_, List.getElem?_eq_getElem (by omega)⟩
      have hlast : s.ops.getLast?.getD 0 = x := by rw [List.getLast?_eq_getElem?, hp]; simp [hx]
      have hH0 : Has w w.heap.size B s.ops := by
        obtain ⟨A', c', e, _, _, _, _, hh⟩ := own_sl h.ops
        injection e with e1 _ _
        subst e1
        exact hh
      obtain ⟨ad, rfl, _, hxc⟩ := hH0 p x hx
      have HX : Hid (∀ W, Below w.heap.size w W → W.cell? (ad.add p) = some (.int .u8 (x.toNat : Int))) := Lib.hid (fun W hb => by
        obtain ⟨ad', e, _, hc⟩ := (hH0.on hb) p x hx
        injection e with e
        subst e
        exact hc)
      have HL : Hid (∀ W, Below w.heap.size w W → Calls Try.prog 58 #[.pointer (some ⟨P, 0, none⟩), .int .i64 (p : Int)] W fun e w' => e = .returned (.tuple #[]) ∧ ∃ vo', Stk w' F P (s.cutTo p) vo' (.slice (some ⟨g, 0, none⟩) (i.length + 1) cf) ∧ Mod (· = P) W w') := Lib.hid (fun W hb => tleave_any (h.on hb) p (by omega))
      have HDL : Hid (s.ops.dropLast = s.ops.take p) := Lib.hid (by rw [List.dropLast_eq_take, hp]; rfl)
      rw [hlast]
      rw [hp] at HP h1 hle
      have f1 : ¬ ((p : Int) < (fh : Int)) := by omega
      have f2 : decide ((p : Int) < (fh : Int)) = false := decide_eq_false f1
      have f3 : decide (p < fh) = false := decide_eq_false (by omega)
      clear h hok h3 hf hcf1 hcf2 hFg hg hcell hil hfh hc1 hc2 hp hx hlast hH0 hxc hle f1
      go_enter Try.func76, Try.ntmps76
      go_wp2_with (first | (go_at_call 56; refine HC.out.mono ?_; rintro e w1 ⟨hb, rfl⟩; obtain ⟨q1, q2⟩ := HG.out w1 hb; have q3 := HP.out w1 hb; have q4 := HX.out w1 hb; have HB := Lib.hid hb; clear hb) | (go_at_call 58; refine (HL.out _ HB.out).mono ?_; rintro e w2 ⟨rfl, vo2, hs, hm⟩; have HS2 := Lib.hid hs; have HM2 := Lib.hid hm; clear hs hm q1 q2 q3 q4))
      go_ret2
      refine ⟨rfl, ?_⟩
      rw [HDL.out]
      exact TPost.ahead HB.out (TPost.of HS2.out (HM2.out.more (fun k _ e => by rw [e]; exact HS.out.inP)))
end Go.Proofs.Ytakbehoglgebmaa
