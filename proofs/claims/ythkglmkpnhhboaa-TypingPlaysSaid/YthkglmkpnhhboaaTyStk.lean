/-
  Layer 9's program: a stack in memory; its counts, its innermost frame, what is left of its operands.
-/
import Derived.Test.YthkglmkpnhhboaaTyRow
namespace Go.Proofs.Ythkglmkpnhhboaa
open Go.RowKit Ins Bin
/-- Where a stack's labels and ends lie: in the stack's own blocks F, but those of the stack itself and its two rows. -/
def inS (F : Nat → Prop) (P : Nat) (vo vf : Value) : Nat → Prop := fun k => F k ∧ k ≠ P ∧ vo.ownBlock ≠ some k ∧ vf.ownBlock ≠ some k
/-- The stack in block P: its operands lie in the row vo, its frames in vf. -/
structure Stk (w : World) (F : Nat → Prop) (P : Nat) (s : Ty.T) (vo vf : Value) : Prop where
  blk : w.heap[P]? = some (.cells #[vo, vf, .int .i64 (s.most : Int)] 52 (0, 0))
  ops : w.ownsRow 0 5 1 vo s.ops.length (bytesOf s.ops)
  frs : OwnL 58 w 0 (inS F P vo vf) vf s.frs
  inP : F P
  inO : ∀ k, vo.ownBlock = some k → F k
  inF : ∀ k, vf.ownBlock = some k → F k
theorem own_block {w : World} {base e size n g : Nat} {v : Value} {xs : List Value} (h : w.ownsRow base e size v n xs) (hg : v.ownBlock = some g) : ∃ cur, w.heap[g]? = some (.cells cur e (0, 0)) := by
  rcases h.2 with ⟨rfl, _⟩ | ⟨g', cap, cur, rfl, _, hh, _⟩
  · cases hg
  · injection hg with hg
    subst hg
    exact ⟨cur, hh⟩
theorem OwnL.block {α : Type} [Lay α] {t : TypeId} {w : World} {base g : Nat} {S : Nat → Prop} {v : Value} {xs : List α} (h : OwnL t w base S v xs) (hg : v.ownBlock = some g) : ∃ cur, w.heap[g]? = some (.cells cur t (0, 0)) := by
  obtain ⟨ys, _, h1, _⟩ := h
  exact own_block h1 hg
section
variable {w : World} {F : Nat → Prop} {P : Nat} {s : Ty.T} {vo vf : Value}
theorem Stk.neO (h : Stk w F P s vo vf) : vo.ownBlock ≠ some P := fun e => by
  obtain ⟨cur, hc⟩ := own_block h.ops e
  rw [h.blk] at hc
  injection hc with hc
  injection hc with _ hc
  exact absurd hc (by decide)
theorem Stk.neF (h : Stk w F P s vo vf) : vf.ownBlock ≠ some P := fun e => by
  obtain ⟨cur, hc⟩ := h.frs.block e
  rw [h.blk] at hc
  injection hc with hc
  injection hc with _ hc
  exact absurd hc (by decide)
theorem Stk.neOF (h : Stk w F P s vo vf) : ∀ k, vo.ownBlock = some k → vf.ownBlock ≠ some k := fun k e1 e2 => by
  obtain ⟨c1, h1⟩ := own_block h.ops e1
  obtain ⟨c2, h2⟩ := h.frs.block e2
  rw [h1] at h2
  injection h2 with h2
  injection h2 with _ h2
  exact absurd h2 (by decide)
theorem Stk.lt (h : Stk w F P s vo vf) : P < w.heap.size := (Array.getElem?_eq_some_iff.1 h.blk).1
theorem Stk.mod {w' : World} {T : Nat → Prop} (h : Stk w F P s vo vf) (hm : Mod T w w') (ht : ∀ k, k < w.heap.size → F k → ¬ T k) : Stk w' F P s vo vf := by
  have hO := own_lt h.ops
  have hF := h.frs.lt
  exact ⟨hm.heap h.blk (ht P h.lt h.inP), hm.own h.ops (fun k hk => ht k (hO k hk) (h.inO k hk)), h.frs.mod hm (fun k hk => ht k (hF k hk).2 (h.inF k hk)) (fun k hk hs => ht k hk hs.1), h.inP, h.inO, h.inF⟩
theorem Stk.on {w' : World} (h : Stk w F P s vo vf) (hb : Below w.heap.size w w') : Stk w' F P s vo vf := h.mod (T := fun _ => False) (Mod.of_below hb) (fun _ _ _ h => h)
theorem Stk.more {F' : Nat → Prop} (h : Stk w F P s vo vf) (hf : ∀ k, F k → F' k) : Stk w F' P s vo vf :=
  ⟨h.blk, h.ops, h.frs.more (fun _ _ hs => ⟨hf _ hs.1, hs.2⟩), hf _ h.inP, fun k e => hf _ (h.inO k e), fun k e => hf _ (h.inF k e)⟩
theorem Stk.cell0 (h : Stk w F P s vo vf) : w.cell? ⟨P, 0, none⟩ = some vo := by rw [cell_of_row w P 0 _ _ (0, 0) h.blk]; rfl
theorem Stk.cell1 (h : Stk w F P s vo vf) : w.cell? ⟨P, 1, none⟩ = some vf := by rw [cell_of_row w P 1 _ _ (0, 0) h.blk]; rfl
theorem Stk.cell2 (h : Stk w F P s vo vf) : w.cell? ⟨P, 2, none⟩ = some (.int .i64 (s.most : Int)) := by rw [cell_of_row w P 2 _ _ (0, 0) h.blk]; rfl
theorem Stk.frozen (h : Stk w F P s vo vf) (j : Nat) : w.frozen? ⟨P, j, none⟩ = false := frozen_of_row w P j _ _ h.blk
/-- Operands are left. -/
theorem Stk.leave {A : Option Addr} {m c n : Nat} (h : Stk w F P s (.slice A m c) vf) (hm : m = s.ops.length) (hn : n ≤ s.ops.length) : Stk (w.setCell ⟨P, 0, none⟩ (.slice A n c)) F P (s.cutTo n) (.slice A n c) vf := by
  subst hm
  have hM : Mod (· = P) w (w.setCell ⟨P, 0, none⟩ (.slice A n c)) := Mod.setCell (T := (· = P)) (Mod.refl _ w) (fun _ => rfl) _
  have hO : w.ownsRow 0 5 1 (.slice A n c) (s.cutTo n).ops.length (bytesOf (s.cutTo n).ops) := by
    have := own_cut h.ops hn
    rw [show (s.cutTo n).ops.length = n by simp [Ty.T.cutTo]; omega]
    exact this
  have e : (Value.slice A n c).ownBlock = (Value.slice A s.ops.length c).ownBlock := by cases A <;> rfl
  have hn1 := h.neO
  have hn2 := h.neF
  refine ⟨?_, hM.own hO (fun g hg e' => hn1 (by rw [← e, hg, e'])), ?_, h.inP, fun k hk => h.inO k (by rw [← e]; exact hk), h.inF⟩
  · rw [heap_setCell_same w P 0 _ _ _ h.blk]; rfl
  · have := h.frs.mod hM (fun g hg e' => hn2 (by rw [hg, e'])) (fun g _ hs e' => hs.2.1 e')
    unfold inS at this ⊢
    rw [e]
    exact this
end
set_option maxRecDepth 100000 in
theorem tframes_any {w : World} {F : Nat → Prop} {P : Nat} {s : Ty.T} {vo vf : Value} (h : Stk w F P s vo vf) :
    Calls Try.prog 24 #[.pointer (some ⟨P, 0, none⟩)] w fun e w' => w' = w ∧ e = .returned (.int .i64 (s.frs.length : Int)) := by
  have h0 := h.cell1
  obtain ⟨ys, _, h1, _⟩ := h.frs
  obtain ⟨A, c, rfl, _, _⟩ := own_form h1
  clear h1 h
  obtain ⟨m, hm⟩ : ∃ m, s.frs.length = m := ⟨_, rfl⟩
  rw [hm] at h0
  rw [hm]
  clear hm
  go_enter Try.func24, Try.ntmps24
  go_wp2_with fail
  go_ret
  exact ⟨rfl, rfl⟩
set_option maxRecDepth 100000 in
theorem theight_any {w : World} {F : Nat → Prop} {P : Nat} {s : Ty.T} {vo vf : Value} (h : Stk w F P s vo vf) :
    Calls Try.prog 25 #[.pointer (some ⟨P, 0, none⟩)] w fun e w' => w' = w ∧ e = .returned (.int .i64 (s.ops.length : Int)) := by
  have h0 := h.cell0
  obtain ⟨A, c, rfl, _, _⟩ := own_form h.ops
  clear h
  obtain ⟨m, hm⟩ : ∃ m, s.ops.length = m := ⟨_, rfl⟩
  rw [hm] at h0
  rw [hm]
  clear hm
  go_enter Try.func25, Try.ntmps25
  go_wp2_with fail
  go_ret
  exact ⟨rfl, rfl⟩
set_option maxRecDepth 100000 in
theorem tmost_any {w : World} {F : Nat → Prop} {P : Nat} {s : Ty.T} {vo vf : Value} (h : Stk w F P s vo vf) :
    Calls Try.prog 27 #[.pointer (some ⟨P, 0, none⟩)] w fun e w' => w' = w ∧ e = .returned (.int .i64 (s.most : Int)) := by
  have h0 := h.cell2
  clear h
  go_enter Try.func27, Try.ntmps27
  go_wp2_with fail
  go_ret
  exact ⟨rfl, rfl⟩
set_option maxRecDepth 100000 in
theorem tleave_any {w : World} {F : Nat → Prop} {P : Nat} {s : Ty.T} {vo vf : Value} (h : Stk w F P s vo vf) (n : Nat) (hn : n ≤ s.ops.length) :
    Calls Try.prog 29 #[.pointer (some ⟨P, 0, none⟩), .int .i64 (n : Int)] w fun e w' => e = .returned (.tuple #[]) ∧ ∃ vo', Stk w' F P (s.cutTo n) vo' vf ∧ Mod (· = P) w w' := by
  obtain ⟨A, c, rfl, hnc, hcm⟩ := own_form h.ops
  have h0 := h.cell0
  have hf := h.frozen 0
  have HR := Lib.hid (h.leave rfl hn)
  have HM : Hid (Mod (· = P) w (w.setCell ⟨P, 0, none⟩ (.slice A n c))) := Lib.hid (Mod.setCell (T := (· = P)) (Mod.refl _ w) (fun _ => rfl) _)
  clear h
  unfold maxLen at hcm
  have h1 : (n : Int) ≤ (c : Int) := by omega
  have h2 : n ≤ c := by omega
  obtain ⟨m, hm⟩ : ∃ m, s.ops.length = m := ⟨_, rfl⟩
  rw [hm] at h0 hn hnc
  clear hm
  go_enter Try.func29, Try.ntmps29
  go_wp2_with fail
  go_end0
  exact ⟨rfl, _, HR.out, HM.out⟩
set_option maxRecDepth 100000 in
theorem tinner_none {w : World} {F : Nat → Prop} {P : Nat} {s : Ty.T} {vo vf : Value} (h : Stk w F P s vo vf) (hn : s.frs = []) :
    Calls Try.prog 28 #[.pointer (some ⟨P, 0, none⟩)] w fun e w' => w' = w ∧ e = .returned (.pointer none) := by
  have HC := Lib.hid (tframes_any h)
  rw [hn] at HC
  simp only [List.length_nil] at HC
  clear h hn
  go_enter Try.func28, Try.ntmps28
  go_wp2_with (go_at_call 24; refine HC.out.mono ?_; rintro e w1 ⟨rfl, rfl⟩)
  go_ret
  exact ⟨rfl, rfl⟩
set_option maxRecDepth 100000 in
theorem tinner_some {w : World} {F : Nat → Prop} {P : Nat} {s : Ty.T} {vo : Value} {i : List Ty.Fr} {f : Ty.Fr} {g c : Nat} (h : Stk w F P s vo (.slice (some ⟨g, 0, none⟩) (i.length + 1) c)) (hf : s.frs = i ++ [f]) (hl : i.length ≤ 1000000000) :
    Calls Try.prog 28 #[.pointer (some ⟨P, 0, none⟩)] w fun e w' => Below w.heap.size w w' ∧ e = .returned (.pointer (some ⟨g, i.length * 4, none⟩)) := by
  have HC := Lib.hid (tframes_any h)
  have hlen : s.frs.length = i.length + 1 := by rw [hf]; simp
  rw [hlen] at HC
  have h0 := h.cell1
  obtain ⟨m, hm⟩ : ∃ m, i.length = m := ⟨_, rfl⟩
  rw [hm] at h0 HC hl
  rw [hm]
  clear h hf hlen hm
  have hne : ((m : Int) + 1 == 0) = false := by simp; omega
  go_enter Try.func28, Try.ntmps28
  go_wp2_with (go_at_call 24; refine HC.out.mono ?_; rintro e w1 ⟨rfl, rfl⟩)
  go_quiet (fail)
  go_wp2_with fail
  go_ret
  exact ⟨Below.dn (Below.refl _ _) _, rfl⟩
end Go.Proofs.Ythkglmkpnhhboaa
