/-
  Layer 9's program: Label; what is told of no stack. (gen/typing/label.py)
-/
import Derived.Test.YtakbehoglgebmaaQ09
import Derived.Test.YtakbehoglgebmaaQ03
import Derived.WalkKit
import Derived.ProofKit
import Derived.OpenShut
import Derived.Below
import Derived.Carry
import Derived.ChangeSame
import Derived.WideKeyArgs
import Derived.Test.YtakbehoglgebmaaQ01
import Derived.JoinedTies
namespace Go.Proofs.Ytakbehoglgebmaa
open Go.RowKit Ins Bin
/-- A frame of a stack, by its number from the outermost one on: its label's slice. -/
theorem Stk.labelAt {w : World} {F : Nat → Prop} {P : Nat} {s : Ty.T} {vo vf : Value} (h : Stk w F P s vo vf) (k : Nat) (f : Ty.Fr) (hk : s.frs[k]? = some f) :
    ∃ g c u, vf = .slice (some ⟨g, 0, none⟩) s.frs.length c ∧ (∀ W, Below w.heap.size w W → W.cell? ⟨g, k * 4, none⟩ = some u) ∧ ∀ W, Below w.heap.size w W → SliceV W (· < W.heap.size) f.label u := by
  have hkl := (List.getElem?_eq_some_iff.1 hk).1
  obtain ⟨A, c, rfl, _, _, _, hL⟩ := h.frs.tell (fun _ _ => Nat.zero_le _)
  obtain ⟨g, o, cs, rfl, _, hg, ⟨u, v, rfl, h1, _⟩, hc⟩ := hL k f hk
  have ho : o = 0 := by
    obtain ⟨ys, _, hy, _⟩ := h.frs
    obtain ⟨g', c', e, _⟩ := own_form1 hy (by omega)
    injection e with e _ _
    injection e with e
    injection e with _ e _
  subst ho
  refine ⟨g, c, u, rfl, fun W hW => ?_, fun W hW => ?_⟩
  · have h0 := hW.cell (p := ⟨g, 0 + k * Lay.size Ty.Fr + 0, none⟩) hg
    have h2 := h0.trans (hc 0 u rfl)
    have e : 0 + k * Lay.size Ty.Fr + 0 = k * 4 := by show 0 + k * 4 + 0 = k * 4; omega
    rwa [e] at h2
  · exact (h1.more (S' := (· < w.heap.size)) (fun k hk _ => hk)).grow hW
set_option maxRecDepth 100000 in
set_option maxHeartbeats 2000000 in
theorem tlabel_any {w : World} {F : Nat → Prop} {P : Nat} {s : Ty.T} {vo vf : Value} (h : Stk w F P s vo vf) (n : Nat) (hn : n < 4294967296) (h2 : ∀ f ∈ s.frs, f.label.length ≤ 1000000000) (h3 : s.frs.length ≤ 1000000000) :
    Calls Try.prog 69 #[.pointer (some ⟨P, 0, none⟩), .int .u32 (n : Int)] w fun e w' => ansS (w.heap.size ≤ ·) (s.labelA n) e w' ∧ Below w.heap.size w w' := by
  have HC := Lib.hid (tframes_any h)
  by_cases hlt : n < s.frs.length
  · have hrev : s.frs.reverse[n]? = s.frs[s.frs.length - 1 - n]? := by rw [List.getElem?_reverse hlt]
    obtain ⟨f, hf⟩ : ∃ f, s.frs[s.frs.length - 1 - n]? = some f := ⟨_, List.getElem?_eq_getElem (by omega)⟩
    have HA : Hid (s.labelA n = some f.label) := Lib.hid (by unfold Ty.T.labelA; rw [hrev, hf]; rfl)
    rw [HA.out]
    obtain ⟨g, c, u, rfl, hc, hsl⟩ := h.labelAt _ f hf
    have hfl := h2 f (List.mem_of_getElem? hf)
    have HCL : Hid (∀ W, Below w.heap.size w W → Calls Try.prog 31 #[u] W fun e w' => ∃ A c, e = .returned (.slice A f.label.length c) ∧ SliceV w' (W.heap.size ≤ ·) f.label (.slice A f.label.length c) ∧ Below W.heap.size W w') := Lib.hid (fun W hW => tclone_any f.label u W (hsl W hW) hfl)
    obtain ⟨m, hm⟩ : ∃ m, s.frs.length = m := ⟨_, rfl⟩
    have HCELL : Hid (∀ W, Below w.heap.size w W → W.cell? ⟨P, 1, none⟩ = some (.slice (some ⟨g, 0, none⟩) m c) ∧ W.cell? ⟨g, (m - 1 - n) * 4, none⟩ = some u) := Lib.hid (fun W hW => ⟨by rw [← hm]; exact (h.on hW).cell1, by rw [← hm]; exact hc W hW⟩)
    obtain ⟨A, c1, rfl, _⟩ := hsl w (Below.refl _ _)
    obtain ⟨fl, hfl'⟩ : ∃ x, f.label.length = x := ⟨_, rfl⟩
    rw [hfl'] at HCL HCELL
    have HFL := Lib.hid hfl'
    rw [hm] at hlt h3 HC
    clear h hrev hf h2 hc hsl hfl hm hfl'
    have e1 : IntKind.u64.wrap (n : Int) = (n : Int) := IntWalk.u64_in _ (by omega)
    have e2 : IntKind.u64.wrap (m : Int) = (m : Int) := IntWalk.u64_in _ (by omega)
    have e3 : IntKind.i64.wrap (n : Int) = (n : Int) := IntWalk.i64_in _ (by omega)
    have e4 : (n : Int) < (m : Int) := by omega
    have e5 : decide ((m : Int) ≤ (n : Int)) = false := decide_eq_false (by omega)
    have e6 : decide (m ≤ n) = false := decide_eq_false (by omega)
    have HB0 : Hid (Below w.heap.size w w.drew) := Lib.hid (Below.drew (Below.refl _ _))
    go_enter Try.func69, Try.ntmps69
    go_upto_region 3 with (go_at_call 81; refine HC.out.mono ?_; rintro e w1 ⟨hw1, rfl⟩; obtain rfl : w = w1 := hw1.symm)
    clear e1 e2 e5 e6
    have e7 : IntKind.i64.wrap ((m : Int) - 1) = (m : Int) - 1 := IntWalk.i64_in _ (by omega)
    have e8 : IntKind.i64.wrap ((m : Int) - 1 - (n : Int)) = ((m - 1 - n : Nat) : Int) := by rw [IntWalk.i64_in _ (by omega)]; omega
    have e9 : m - 1 - n < m := by omega
    refine wp_region_held_drew (S := fun W' => Below w.heap.size w W') (by kernel_rfl) (HB0.out) (fun hHeld => ?_)
    refine drawn_take 0 rfl (by kernel_rfl) (by kernel_rfl) (by kernel_rfl) (fun _ _ _ h => h) (by rfl) (by assumption) (v := ?_) ?_ ?_
    rotate_left
    · (intro wy hSw; obtain ⟨z0, z1⟩ := HCELL.out wy hSw; go_simp; try with_reducible rfl)
    simp only [Act.put, List.setIfInBounds_toArray, List.set_cons_zero, List.set_cons_succ]
    refine drawn_take 1 rfl (by kernel_rfl) (by kernel_rfl) (by kernel_rfl) (fun _ _ _ h => h) (by rfl) (by assumption) (v := ?_) ?_ ?_
    rotate_left
    · (intro wy hSw; obtain ⟨z0, z1⟩ := HCELL.out wy hSw; go_simp; try with_reducible rfl)
    simp only [Act.put, List.setIfInBounds_toArray, List.set_cons_zero, List.set_cons_succ]
    refine drawn_take 2 rfl (by kernel_rfl) (by kernel_rfl) (by kernel_rfl) (fun _ _ _ h => h) (by rfl) (by assumption) (v := ?_) ?_ ?_
    rotate_left
    · (intro wy hSw; obtain ⟨z0, z1⟩ := HCELL.out wy hSw; go_simp; try with_reducible rfl)
    simp only [Act.put, List.setIfInBounds_toArray, List.set_cons_zero, List.set_cons_succ]
    refine drawn_take 3 rfl (by kernel_rfl) (by kernel_rfl) (by kernel_rfl) (fun _ _ _ h => h) (by rfl) (by assumption) (v := ?_) ?_ ?_
    rotate_left
    · (intro wy hSw; obtain ⟨z0, z1⟩ := HCELL.out wy hSw; go_simp; try with_reducible rfl)
    simp only [Act.put, List.setIfInBounds_toArray, List.set_cons_zero, List.set_cons_succ]
    refine drawn_take 4 rfl (by kernel_rfl) (by kernel_rfl) (by kernel_rfl) (fun _ _ _ h => h) (by rfl) (by assumption) (v := ?_) ?_ ?_
    rotate_left
    · (intro wy hSw; obtain ⟨z0, z1⟩ := HCELL.out wy hSw; go_simp; try with_reducible rfl)
    simp only [Act.put, List.setIfInBounds_toArray, List.set_cons_zero, List.set_cons_succ]
    refine drawn_take 5 rfl (by kernel_rfl) (by kernel_rfl) (by kernel_rfl) (fun _ _ _ h => h) (by rfl) (by assumption) (v := ?_) ?_ ?_
    rotate_left
    · (intro wy hSw; obtain ⟨z0, z1⟩ := HCELL.out wy hSw; go_simp; try with_reducible rfl)
    simp only [Act.put, List.setIfInBounds_toArray, List.set_cons_zero, List.set_cons_succ]
    refine drawn_take 6 rfl (by kernel_rfl) (by kernel_rfl) (by kernel_rfl) (fun _ _ _ h => h) (by rfl) (by assumption) (v := ?_) ?_ ?_
    rotate_left
    · (intro wy hSw; obtain ⟨z0, z1⟩ := HCELL.out wy hSw; go_simp; try with_reducible rfl)
    simp only [Act.put, List.setIfInBounds_toArray, List.set_cons_zero, List.set_cons_succ]
    refine drawn_take 7 rfl (by kernel_rfl) (by kernel_rfl) (by kernel_rfl) (fun _ _ _ h => h) (by rfl) (by assumption) (v := ?_) ?_ ?_
    rotate_left
    · (intro wy hSw; obtain ⟨z0, z1⟩ := HCELL.out wy hSw; go_simp; try with_reducible rfl)
    simp only [Act.put, List.setIfInBounds_toArray, List.set_cons_zero, List.set_cons_succ]
    refine drawn_take 8 rfl (by kernel_rfl) (by kernel_rfl) (by kernel_rfl) (fun _ _ _ h => h) (by rfl) (by assumption) (v := ?_) ?_ ?_
    rotate_left
    · (intro wy hSw; obtain ⟨z0, z1⟩ := HCELL.out wy hSw; go_simp; try with_reducible rfl)
    simp only [Act.put, List.setIfInBounds_toArray, List.set_cons_zero, List.set_cons_succ]
    refine drawn_take 9 rfl (by kernel_rfl) (by kernel_rfl) (by kernel_rfl) (fun _ _ _ h => h) (by rfl) (by assumption) (v := ?_) ?_ ?_
    rotate_left
    · (intro wy hSw; obtain ⟨z0, z1⟩ := HCELL.out wy hSw; go_simp; try with_reducible rfl)
    simp only [Act.put, List.setIfInBounds_toArray, List.set_cons_zero, List.set_cons_succ]
    refine drawn_take 10 rfl (by kernel_rfl) (by kernel_rfl) (by kernel_rfl) (fun _ _ _ h => h) (by rfl) (by assumption) (v := ?_) ?_ ?_
    rotate_left
    · (intro wy hSw; obtain ⟨z0, z1⟩ := HCELL.out wy hSw; go_simp; try with_reducible rfl)
    simp only [Act.put, List.setIfInBounds_toArray, List.set_cons_zero, List.set_cons_succ]
    refine drawn_take 11 rfl (by kernel_rfl) (by kernel_rfl) (by kernel_rfl) (fun _ _ _ h => h) (by rfl) (by assumption) (v := ?_) ?_ ?_
    rotate_left
    · (intro wy hSw; obtain ⟨z0, z1⟩ := HCELL.out wy hSw; go_simp; try with_reducible rfl)
    simp only [Act.put, List.setIfInBounds_toArray, List.set_cons_zero, List.set_cons_succ]
    refine drawn_take 12 rfl (by kernel_rfl) (by kernel_rfl) (by kernel_rfl) (fun _ _ _ h => h) (by rfl) (by assumption) (v := ?_) ?_ ?_
    rotate_left
    · (intro wy hSw; obtain ⟨z0, z1⟩ := HCELL.out wy hSw; go_simp; try with_reducible rfl)
    simp only [Act.put, List.setIfInBounds_toArray, List.set_cons_zero, List.set_cons_succ]
    refine drawn_take 13 rfl (by kernel_rfl) (by kernel_rfl) (by kernel_rfl) (fun _ _ _ h => h) (by rfl) (by assumption) (v := ?_) ?_ ?_
    rotate_left
    · (intro wy hSw; obtain ⟨z0, z1⟩ := HCELL.out wy hSw; go_simp; try with_reducible rfl)
    simp only [Act.put, List.setIfInBounds_toArray, List.set_cons_zero, List.set_cons_succ]
    refine drawn_take 14 rfl (by kernel_rfl) (by kernel_rfl) (by kernel_rfl) (fun _ _ _ h => h) (by rfl) (by assumption) (v := ?_) ?_ ?_
    rotate_left
    · (intro wy hSw; obtain ⟨z0, z1⟩ := HCELL.out wy hSw; go_simp; try with_reducible rfl)
    simp only [Act.put, List.setIfInBounds_toArray, List.set_cons_zero, List.set_cons_succ]
    refine drawn_take 15 rfl (by kernel_rfl) (by kernel_rfl) (by kernel_rfl) (fun _ _ _ h => h) (by rfl) (by assumption) (v := ?_) ?_ ?_
    rotate_left
    · (intro wy hSw; obtain ⟨z0, z1⟩ := HCELL.out wy hSw; go_simp; try with_reducible rfl)
    simp only [Act.put, List.setIfInBounds_toArray, List.set_cons_zero, List.set_cons_succ]
    refine drawn_sole 16 rfl (by kernel_rfl) (fun K hK => ?_)
    go_simp
    refine (HCL.out _ HB0.out).mono ?_
    rintro e w1 ⟨A1, d1, rfl, hs1, hb⟩
    have HB1 : Hid (Below w.heap.size w w1) := Lib.hid (HB0.out.trans (hb.mono HB0.out.size))
    have HS1 := Lib.hid hs1
    clear hs1 hb
    go_wp2_with fail
    refine hK.out _ _ HB1.out (fun hHeld2 => ?_)
    clear hK K hHeld
    have hHeld := hHeld2
    clear hHeld2
    refine drawn_take 17 rfl (by kernel_rfl) (by kernel_rfl) (by kernel_rfl) (fun _ _ _ h => h) (by rfl) (by assumption) (v := ?_) ?_ ?_
    rotate_left
    · (intro wy hSw; go_simp; try with_reducible rfl)
    simp only [Act.put, List.setIfInBounds_toArray, List.set_cons_zero, List.set_cons_succ]
    refine drawn_take 18 rfl (by kernel_rfl) (by kernel_rfl) (by kernel_rfl) (fun _ _ _ h => h) (by rfl) (by assumption) (v := ?_) ?_ ?_
    rotate_left
    · (intro wy hSw; go_simp; try with_reducible rfl)
    simp only [Act.put, List.setIfInBounds_toArray, List.set_cons_zero, List.set_cons_succ]
    refine wpAnyH_done (by kernel_rfl) ?_ _
    clear hHeld
    go_wp2_with fail
    go_ret2
    refine ⟨⟨A1, d1, by rw [HFL.out]; rfl, ?_⟩, HB1.out⟩
    rw [HFL.out]
    exact HS1.out
  · have HA : Hid (s.labelA n = none) := Lib.hid (by unfold Ty.T.labelA; rw [List.getElem?_eq_none (by simp; omega)]; rfl)
    rw [HA.out]
    obtain ⟨m, hm⟩ : ∃ m, s.frs.length = m := ⟨_, rfl⟩
    rw [hm] at hlt h3 HC
    clear h h2 hm
    have e1 : IntKind.u64.wrap (n : Int) = (n : Int) := IntWalk.u64_in _ (by omega)
    have e2 : IntKind.u64.wrap (m : Int) = (m : Int) := IntWalk.u64_in _ (by omega)
    have e4 : (m : Int) ≤ (n : Int) := by omega
    have e5 : m ≤ n := by omega
    go_enter Try.func69, Try.ntmps69
    go_wp2_with (go_at_call 81; refine HC.out.mono ?_; rintro e w1 ⟨hw1, rfl⟩; obtain rfl : w = w1 := hw1.symm)
    go_ret2
    exact ⟨rfl, Below.refl _ _⟩
end Go.Proofs.Ytakbehoglgebmaa
/-
  Layer 9's program: the calls of a stack whose blocks go by one letter; of one stack that a law has made. (gen/typing/at.py)
-/
namespace Ty
/-- No more than n of anything. -/
def T.sm (s : T) (n : Nat) : Prop := s.ops.length ≤ n ∧ s.most ≤ n ∧ s.frs.length ≤ n ∧ ∀ f ∈ s.frs, f.label.length ≤ n ∧ f.ends.length ≤ n
theorem sm_cut {s : T} {n : Nat} (h : s.sm n) (k : Nat) : (s.cutTo k).sm n := ⟨by have := h.1; simp [T.cutTo]; omega, h.2.1, h.2.2.1, h.2.2.2⟩
theorem sm_pop {s : T} {n : Nat} (h : s.sm n) : s.pop.sm n := by
  unfold T.pop
  cases s.last with
  | none => exact h
  | some f =>
    dsimp only
    split
    · exact h
    · exact ⟨by have := h.1; simp; omega, h.2.1, h.2.2.1, h.2.2.2⟩
theorem sm_want {s : T} {n : Nat} (h : s.sm n) (l : List UInt8) : (s.want l).sm n := by
  unfold T.want
  cases s.wout l with
  | none => exact h
  | some k => exact sm_cut h k
theorem sm_close {s : T} {n : Nat} (h : s.sm n) : s.close.sm n := by
  unfold T.close
  cases s.last with
  | none => exact h
  | some f =>
    dsimp only
    cases without s.ops f f.ends with
    | none => exact h
    | some k =>
      dsimp only
      split
      · exact ⟨by have := h.1; simp; omega, h.2.1, by have := h.2.2.1; simp; omega, fun g hg => h.2.2.2 g ((List.dropLast_sublist _).subset hg)⟩
      · exact h
end Ty
namespace Go.Proofs.Ytakbehoglgebmaa
open Go.RowKit Ins Bin
/-- The stack in block P; its blocks are F's, all of them there. -/
def AtF (w : World) (F : Nat → Prop) (P : Nat) (s : Ty.T) : Prop := (∃ vo vf, Stk w F P s vo vf) ∧ s.ok ∧ ∀ k, F k → k < w.heap.size
/-- From one world to another a stack's blocks alone have changed, or new ones come. -/
def Nxt (F : Nat → Prop) (w : World) (F' : Nat → Prop) (w' : World) : Prop := (∀ k, F' k → F k ∨ w.heap.size ≤ k) ∧ Mod F w w'
theorem TPost.at {F : Nat → Prop} {w w' : World} {P : Nat} {s' : Ty.T} (h : TPost F w P s' w') (hok : s'.ok) : ∃ F', AtF w' F' P s' ∧ Nxt F w F' w' := by
  obtain ⟨F', vo, vf, h1, h2, h3⟩ := h
  have hO := own_lt h1.ops
  have hF := h1.frs.lt
  refine ⟨fun k => F' k ∧ k < w'.heap.size, ⟨⟨vo, vf, ⟨h1.blk, h1.ops, h1.frs.more (fun k hk hs => ⟨⟨hs.1, hk⟩, hs.2⟩), ⟨h1.inP, h1.lt⟩, fun k e => ⟨h1.inO k e, hO k e⟩, fun k e => ⟨h1.inF k e, (hF k e).2⟩⟩⟩, hok, fun k hk => hk.2⟩, fun k hk => h2 k hk.1, h3⟩
theorem AtF.on {w w' : World} {F : Nat → Prop} {P : Nat} {s : Ty.T} (h : AtF w F P s) (hb : Below w.heap.size w w') : AtF w' F P s := by
  obtain ⟨⟨vo, vf, h1⟩, h2, h3⟩ := h
  exact ⟨⟨vo, vf, h1.on hb⟩, h2, fun k hk => Nat.lt_of_lt_of_le (h3 k hk) hb.size⟩
theorem AtF.mod {w w' : World} {F T : Nat → Prop} {P : Nat} {s : Ty.T} (h : AtF w F P s) (hm : Mod T w w') (ht : ∀ k, F k → ¬ T k) : AtF w' F P s := by
  obtain ⟨⟨vo, vf, h1⟩, h2, h3⟩ := h
  exact ⟨⟨vo, vf, h1.mod hm (fun k _ hk => ht k hk)⟩, h2, fun k hk => Nat.lt_of_lt_of_le (h3 k hk) hm.size⟩
section
variable {w : World} {F : Nat → Prop} {P n : Nat} {s : Ty.T}
theorem at_push (h : AtF w F P s) (hs : s.sm n) (hn : n ≤ 500000000) (l : List UInt8) (A : Option Addr) (c : Nat) (hA : Has w w.heap.size A l) (hl : l.length ≤ 400000000) :
    Calls Try.prog 68 #[.pointer (some ⟨P, 0, none⟩), .slice A l.length c] w fun e w' => e = .returned (.tuple #[]) ∧ ∃ F', AtF w' F' P (s.push l) ∧ Nxt F w F' w' := by
  obtain ⟨⟨vo, vf, h1⟩, h2, h3⟩ := h
  refine (tpush_any h1 l A c hA (by have := hs.1; omega) (by have := hs.2.1; omega)).mono ?_
  rintro e w' ⟨rfl, ht⟩
  exact ⟨rfl, ht.at (Ty.ok_push h2 l)⟩
theorem at_want (h : AtF w F P s) (hs : s.sm n) (hn : n ≤ 500000000) (l : List UInt8) (A : Option Addr) (c : Nat) (hA : Has w w.heap.size A l) (hl : l.length ≤ 400000000) :
    Calls Try.prog 67 #[.pointer (some ⟨P, 0, none⟩), .slice A l.length c] w fun e w' => e = .returned (.bool (s.wantA l)) ∧ ∃ F', AtF w' F' P (s.want l) ∧ Nxt F w F' w' := by
  obtain ⟨⟨vo, vf, h1⟩, h2, h3⟩ := h
  refine (twant_any h1 h2 l A c hA (by have := hs.1; omega) (by omega) (by have := hs.2.2.1; omega)).mono ?_
  rintro e w' ⟨rfl, ht⟩
  exact ⟨rfl, ht.at (Ty.ok_want h2 l)⟩
theorem at_pop (h : AtF w F P s) (hs : s.sm n) (hn : n ≤ 500000000) :
    Calls Try.prog 76 #[.pointer (some ⟨P, 0, none⟩)] w fun e w' => e = .returned (.tuple #[.int .u8 (s.popA.1.toNat : Int), .bool s.popA.2]) ∧ ∃ F', AtF w' F' P s.pop ∧ Nxt F w F' w' := by
  obtain ⟨⟨vo, vf, h1⟩, h2, h3⟩ := h
  refine (tpop_any h1 h2 (by have := hs.1; omega) (by have := hs.2.2.1; omega)).mono ?_
  rintro e w' ⟨rfl, ht⟩
  exact ⟨rfl, ht.at (Ty.ok_pop h2)⟩
theorem at_dead (h : AtF w F P s) (hs : s.sm n) (hn : n ≤ 500000000) :
    Calls Try.prog 87 #[.pointer (some ⟨P, 0, none⟩)] w fun e w' => e = .returned (.tuple #[]) ∧ ∃ F', AtF w' F' P s.kill ∧ Nxt F w F' w' := by
  obtain ⟨⟨vo, vf, h1⟩, h2, h3⟩ := h
  refine (tdead_any h1 h2 (by have := hs.2.2.1; omega)).mono ?_
  rintro e w' ⟨rfl, ht⟩
  exact ⟨rfl, ht.at (Ty.ok_kill h2)⟩
theorem at_open (h : AtF w F P s) (hs : s.sm n) (hn : n ≤ 500000000) (a b : List UInt8) (va vb : Value) (ha : SliceV w (· < w.heap.size) a va) (hb : SliceV w (· < w.heap.size) b vb) (hl1 : a.length ≤ 400000000) (hl2 : b.length ≤ 400000000) :
    Calls Try.prog 36 #[.pointer (some ⟨P, 0, none⟩), va, vb] w fun e w' => e = .returned (.tuple #[]) ∧ ∃ F', AtF w' F' P (s.op a b) ∧ Nxt F w F' w' := by
  obtain ⟨⟨vo, vf, h1⟩, h2, h3⟩ := h
  refine (topen_any h1 a b va vb ha hb (by omega) (by omega) (by have := hs.2.2.1; omega)).mono ?_
  rintro e w' ⟨rfl, ht⟩
  exact ⟨rfl, ht.at (Ty.ok_op h2 a b)⟩
theorem at_close (h : AtF w F P s) (hs : s.sm n) (hn : n ≤ 500000000) :
    Calls Try.prog 29 #[.pointer (some ⟨P, 0, none⟩)] w fun e w' => ansS F s.closeA e w' ∧ ∃ F', AtF w' F' P s.close ∧ Nxt F w F' w' := by
  obtain ⟨⟨vo, vf, h1⟩, h2, h3⟩ := h
  refine (tclose_any h1 h2 (by have := hs.1; omega) (fun f hf => by have := (hs.2.2.2 f hf).2; omega) (by have := hs.2.2.1; omega)).mono ?_
  rintro e w' ⟨ha, ht⟩
  exact ⟨ha, ht.at (Ty.ok_close h2)⟩
theorem at_label (h : AtF w F P s) (hs : s.sm n) (hn : n ≤ 500000000) (k : Nat) (hk : k < 4294967296) :
    Calls Try.prog 69 #[.pointer (some ⟨P, 0, none⟩), .int .u32 (k : Int)] w fun e w' => ansS (w.heap.size ≤ ·) (s.labelA k) e w' ∧ Below w.heap.size w w' := by
  obtain ⟨⟨vo, vf, h1⟩, h2, h3⟩ := h
  exact tlabel_any h1 k hk (fun f hf => by have := (hs.2.2.2 f hf).1; omega) (by have := hs.2.2.1; omega)
theorem at_most (h : AtF w F P s) : Calls Try.prog 30 #[.pointer (some ⟨P, 0, none⟩)] w fun e w' => w' = w ∧ e = .returned (.int .i64 (s.most : Int)) := by
  obtain ⟨⟨vo, vf, h1⟩, _⟩ := h
  exact tmost_any h1
theorem at_new (e : List UInt8) (ve : Value) (w : World) (he : SliceV w (· < w.heap.size) e ve) (h1 : e.length ≤ 400000000) :
    Calls Try.prog 27 #[ve] w fun r w' => ∃ P F, r = .returned (.pointer (some ⟨P, 0, none⟩)) ∧ AtF w' F P (Ty.T.new e) ∧ (∀ k, F k → w.heap.size ≤ k) ∧ Below w.heap.size w w' := by
  refine (tnew_any e ve w he (by omega)).mono ?_
  rintro r w' ⟨P, F, vo, vf, rfl, q1, q2, q3⟩
  have hO := own_lt q1.ops
  have hF := q1.frs.lt
  exact ⟨P, fun k => F k ∧ k < w'.heap.size, rfl, ⟨⟨vo, vf, ⟨q1.blk, q1.ops, q1.frs.more (fun k hk hs => ⟨⟨hs.1, hk⟩, hs.2⟩), ⟨q1.inP, q1.lt⟩, fun k e => ⟨q1.inO k e, hO k e⟩, fun k e => ⟨q1.inF k e, (hF k e).2⟩⟩⟩, Ty.ok_new e, fun k hk => hk.2⟩, fun k hk => q2 k hk.1, q3⟩
end
/-- One stack, made since w0. -/
def One (w0 w : World) (P : Nat) (s : Ty.T) : Prop := ∃ F, AtF w F P s ∧ (∀ k, F k → w0.heap.size ≤ k) ∧ Below w0.heap.size w0 w
theorem One.next {w0 w w' : World} {F F' : Nat → Prop} {P : Nat} {s' : Ty.T} (h1 : ∀ k, F k → w0.heap.size ≤ k) (h2 : Below w0.heap.size w0 w) (h3 : AtF w' F' P s') (h4 : Nxt F w F' w') : One w0 w' P s' :=
  ⟨F', h3, fun k hk => by
    rcases h4.1 k hk with h | h
    · exact h1 k h
    · exact Nat.le_trans h2.size h, h2.trans (h4.2.below h2.size (fun k hk hf => by have := h1 k hf; omega))⟩
theorem One.on {w0 w w' : World} {P : Nat} {s : Ty.T} (h : One w0 w P s) (hb : Below w.heap.size w w') : One w0 w' P s := by
  obtain ⟨F, h1, h2, h3⟩ := h
  exact ⟨F, h1.on hb, h2, h3.trans (hb.mono h3.size)⟩
theorem One.below {w0 w : World} {P : Nat} {s : Ty.T} (h : One w0 w P s) : Below w0.heap.size w0 w := by
  obtain ⟨_, _, _, h⟩ := h
  exact h
section
variable {w0 w : World} {P n : Nat} {s : Ty.T}
/-- What Close or Label tells, read in the world at hand. -/
def ansH (o : Option (List UInt8)) (e : Ending) (w' : World) : Prop :=
  match o with
  | none => e = .returned (.tuple #[.slice none 0 0, .bool false])
  | some l => ∃ A c, e = .returned (.tuple #[.slice A l.length c, .bool true]) ∧ l.length ≤ c ∧ c ≤ maxLen ∧ (A = none → c = 0) ∧ Has w' w'.heap.size A l
theorem ansS.h {S : Nat → Prop} {o : Option (List UInt8)} {e : Ending} {w' : World} (h : ansS S o e w') : ansH o e w' := by
  cases o with
  | none => exact h
  | some l =>
    obtain ⟨A, c, rfl, A', c', e1, h1, h2, h3, h4⟩ := h
    injection e1 with e1 _ e2
    subst e1 e2
    exact ⟨A, c, rfl, h1, h2, h3, h4.has⟩
end
end Go.Proofs.Ytakbehoglgebmaa
/-
  Plain mathematics of a module's index spaces: what its imports of a kind are, what its numbers mean.
-/
namespace Sp
open Bin
/-- A module's imports of a kind, in their order. -/
def imps (m : M) (k : Nat) : List Imp := m.imports.filter (fun x => x.kind.toNat == k)
def funs (m : M) : List Nat := (imps m 0).map (·.type) ++ m.funcs
def tabs (m : M) : List Lim := (imps m 1).map (·.lim) ++ m.tables
def mems (m : M) : List Lim := (imps m 2).map (·.lim) ++ m.mems
def globs (m : M) : List Glob := (imps m 3).map (·.glob) ++ m.globals.map (·.type)
/-- A function's type. -/
def func (m : M) (i : Nat) : Option FT := (funs m)[i]?.bind fun t => m.types[t]?
/-- What is gone through: nothing has more than 3000. -/
structure Few (m : M) : Prop where
  imports : m.imports.length ≤ 4000
  funcs : m.funcs.length ≤ 4000
  tables : m.tables.length ≤ 4000
  mems : m.mems.length ≤ 4000
  globals : m.globals.length ≤ 4000
  exports : m.exports.length ≤ 4000
  types : m.types.length ≤ 4000
  each : ∀ x ∈ m.types, x.params.length ≤ 4000 ∧ x.results.length ≤ 4000
section
variable {α : Type}
/-- One entry more is gone through. -/
theorem take_yes {p : α → Bool} {xs : List α} {k : Nat} {x : α} (hx : xs[k]? = some x) (hp : p x = true) : (xs.take (k + 1)).filter p = (xs.take k).filter p ++ [x] := by
  rw [List.take_add_one, hx, List.filter_append]
  simp [hp]
theorem take_no {p : α → Bool} {xs : List α} {k : Nat} {x : α} (hx : xs[k]? = some x) (hp : p x = false) : (xs.take (k + 1)).filter p = (xs.take k).filter p := by
  rw [List.take_add_one, hx, List.filter_append]
  simp [hp]
theorem take_le (p : α → Bool) (xs : List α) (k : Nat) : ((xs.take k).filter p).length ≤ k := by
  have := List.length_filter_le p (xs.take k)
  have := List.length_take_le k xs
  omega
theorem take_all {p : α → Bool} {xs : List α} {k : Nat} (h : xs.length ≤ k) : (xs.take k).filter p = xs.filter p := by rw [List.take_of_length_le h]
end
theorem imps_le (m : M) (k : Nat) : (imps m k).length ≤ m.imports.length := List.length_filter_le _ _
end Sp
/-
  The last step from a walk to a statement: a call that answers true and leaves what was there as it was meets the row of a law. Over any program.
-/
namespace Go.Proofs.Ytakbehoglgebmaa
open Go.ChangeShapes Go.WideShapes Go.ChangeAt Go.RowKit
section
variable {H : Type} {enc : TypeId × Value → H} {P : Program}
theorem trodAll_below (hl : laidOutB P = true) {W W' : World} (hb : Below W.heap.size W W') {sp : Nat → Bool} : ∀ {ts : List TypeId} {vs : List Value} {ds : List (DataW H)} {ps : List MemPlace},
    (∀ t ∈ ts, P.readableRec t = true ∧ t < P.types.size) → DataW.TrodAll enc P W 0 (fun _ => true) true ts vs ds ps → (∀ x ∈ ps, x.block < W.heap.size) → (∀ x ∈ ps, sp x.block = true) → DataW.TrodAll enc P W' 0 sp true ts vs ds ps
  | [], [], [], _, _, h, _, _ => h
  | t :: ts, v :: vs, d :: ds, ps, ht, h, hlt, hs => by
    obtain ⟨p, q, h1, h2, rfl⟩ := h
    have ht1 := ht t (by simp)
    exact ⟨p, q, WideElems.Trod_stays hl ht1.1 ht1.2 h1 (fun x hx => hb.same (hlt x (by simp [hx]))) (fun x hx => hs x (by simp [hx])),
      trodAll_below hl hb (fun t h => ht t (by simp [h])) h2 (fun x hx => hlt x (by simp [hx])) (fun x hx => hs x (by simp [hx])), rfl⟩
  | [], _ :: _, _, _, _, h, _, _ => h.elim
  | [], [], _ :: _, _, _, h, _, _ => h.elim
  | _ :: _, [], _, _, _, h, _, _ => h.elim
  | _ :: _, _ :: _, [], _, _, h, _, _ => h.elim
/-- The last step of a statement 'it answers true, and each argument reads as it did': what was there before the call is as it was. -/
theorem law_post {f : Func} {s : ChangeSpec} {apart fresh handsOn again : Bool} {W W' : World} {args : Array Value} {ds gs : List (DataW H)} {before : List MemPlace} {b : TypeId}
    (hl : laidOutB P = true) (htb : (f.params.toList.all fun t => P.readableRec t && decide (t < P.types.size)) = true) (hv : s.vars = []) (hr : f.resultTypes = #[b]) (hbool : P.underlying b = some .bool)
    (hW : DataW.Whole enc P f.params.toList s.vars apart W args.toList ds gs before) (hfn : s.fn H ds = { results := [.lit (.bool true)], args := ds }) (hb : Below W.heap.size W W') :
    s.post enc P f apart fresh handsOn again W args (.bool true) W' := by
  have hts : ∀ t ∈ f.params.toList, P.readableRec t = true ∧ t < P.types.size := fun t ht => by
    have := List.all_eq_true.1 htb t ht
    simpa using this
  have hlt : ∀ p ∈ before, p.block < W.heap.size := fun p hp => hW.lt p hp
  have hold : ∀ p ∈ before, (fun b => decide (b < W.heap.size)) p.block = true := fun p hp => by simpa using hlt p hp
  have hW0 := hW
  obtain ⟨pa, q, hA, hV, hps, hz, hn⟩ := hW
  rw [hv] at hV
  obtain ⟨rfl, rfl⟩ := trodVars_none hV
  rw [List.append_nil] at hps
  subst hps
  have hargs : ∀ sp : Nat → Bool, (∀ p ∈ before, sp p.block = true) → DataW.TrodAll enc P W' 0 sp true f.params.toList args.toList ds before := fun sp hsp => trodAll_below hl hb hts hA hlt hsp
  have hres : ∀ (b : Nat) (sp : Nat → Bool) (hd : Bool), DataW.TrodAll enc P W' b sp hd f.resultTypes.toList ((Value.bool true).resultList f.resultTypes.size) [.lit (.bool true)] [] := fun b sp hd => by
    rw [hr]
    exact trodAll_cons_mk (p := []) (p' := []) (shut_bool hbool _) trodAll_mk0
  have hvars : ∀ sp : Nat → Bool, DataW.TrodVars enc P W' sp s.vars [] [] := fun sp => by rw [hv]; rfl
  have e : s.fn H (ds ++ []) = { results := [.lit (.bool true)], args := ds } := by rw [List.append_nil]; exact hfn
  refine ⟨ds, [], before, [], before, [], hW0, ?_, ?_, ?_, World.keptBut_mono (fun p hp => ⟨hp, ?_⟩) (hb.frame (· ∈ before)), fun _ => ?_⟩
  · rw [e]; exact hres _ _ _
  · rw [e]; exact hargs _ hold
  · rw [e]; exact hvars _
  · exact Or.inr (.inl hp)
  · refine ⟨ok_one hr rfl (okWide_bool_mk hbool _), _, _, ([] ++ before) ++ [], ⟨[] ++ before, [], trodAll_append (hargs _ (fun _ _ => rfl)) (hres _ _ _), hvars _, rfl, ?_, ?_⟩, ?_⟩
    · intro b off hp
      have hin : MemPlace.cell b off ∈ before := by simpa using hp
      rw [hb.frozen (hlt _ hin)]
      exact hz b off hin
    · intro ha
      simpa using hn ha
    · intro p hp _
      simpa using hp
end
end Go.Proofs.Ytakbehoglgebmaa
/-
  How a slice of bytes that came in is opened; closed facts on the program's types.
-/
namespace Go.Proofs.Ytakbehoglgebmaa
open Go.RowKit
open Go.ChangeShapes Go.WideShapes Go.ChangeAt
theorem own : ownKnob Try.prog.godebug = none := by kernel_rfl
theorem laid : laidOutB Try.prog = true := by kernel_rfl
theorem und4 : Try.prog.underlying 4 = some .bool := by kernel_rfl
theorem cell_lt {w : World} {p : Addr} {v : Value} (h : w.cell? p = some v) : p.block < w.heap.size := by
  rcases Nat.lt_or_ge p.block w.heap.size with h1 | h1
  · exact h1
  · exfalso
    unfold World.cell? at h
    rw [Array.getElem?_eq_none h1] at h
    split at h <;> simp_all
end Go.Proofs.Ytakbehoglgebmaa
