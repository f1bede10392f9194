/-
  Layer 10's statements: great; rows of instructions that a law makes. (gen/body/law0.py)
-/
import Derived.Test.YtakbehoglgebmaaQ40
import Derived.Test.YtakbehoglgebmaaQ13
import Derived.Deep.MidRow
namespace Go.Proofs.Ytakbehoglgebmaa
open Go.RowKit Ins Bin Sp
theorem three_new (w : World) (o0 o1 o2 : Obj) : (((w.alloc o0).alloc o1).alloc o2).heap[w.heap.size]? = some o0 ∧ (((w.alloc o0).alloc o1).alloc o2).heap[w.heap.size + 1]? = some o1 ∧ (((w.alloc o0).alloc o1).alloc o2).heap[w.heap.size + 2]? = some o2 ∧ Below w.heap.size w (((w.alloc o0).alloc o1).alloc o2) := by
  have e1 : (w.alloc o0).heap.size = w.heap.size + 1 := by simp
  have e2 : ((w.alloc o0).alloc o1).heap.size = w.heap.size + 2 := by simp
  have h1 := heap_alloc_new (w.alloc o0) o1
  have h2 := heap_alloc_new ((w.alloc o0).alloc o1) o2
  rw [e1] at h1
  rw [e2] at h2
  refine ⟨(Below.heap_alloc _ _ _ (by omega)).trans ((Below.heap_alloc _ _ _ (by omega)).trans (heap_alloc_new w o0)), (Below.heap_alloc _ _ _ (by omega)).trans h1, h2, (((Below.refl _ _).alloc (Nat.le_refl _) _).alloc (by omega) _).alloc (by omega) _⟩
/-- What great tells. -/
def GrPost (w : World) (F : Prop) (mx n : Nat) (e : Ending) (w' : World) : Prop := ∃ g : Bool, e = .returned (.bool g) ∧ Below w.heap.size w w' ∧ (g = false → F ∧ mx ≤ 3000 ∧ n ≤ 500)
set_option maxRecDepth 100000 in
set_option maxHeartbeats 4000000 in
theorem bgreat_any (m : M) (v1 v2 v3 v4 v5 v6 v7 v8 v9 v10 : Value) (ps rs : List UInt8) (ls : List Lc) (xs : List I) (u1 u2 u3 u4 : Value) (w : World) (hM : RepM w (· < w.heap.size) m v1 v2 v3 v4 v5 v6 v7 v8 v9 v10) (hB : BigM m)
    (h1 : SliceV w (· < w.heap.size) ps u1) (h2 : SliceV w (· < w.heap.size) rs u2) (h3 : SliceV w (· < w.heap.size) ls u3) (h4 : SliceV w (· < w.heap.size) xs u4) (l1 : ps.length ≤ 140737488355328) (l2 : rs.length ≤ 140737488355328) (l3 : ls.length ≤ 140737488355328) (l4 : xs.length ≤ 140737488355328) (l5 : ∀ x ∈ xs, x.l.length ≤ 140737488355328) :
    Calls Try.prog 6 #[.agg (modCells m v1 v2 v3 v4 v5 v6 v7 v8 v9 v10), .agg #[u1, u2], .agg #[u3, u4]] w (GrPost w (Few m) (many xs) (ps.length + rs.length + ls.length)) := by
  generalize hcs : modCells m v1 v2 v3 v4 v5 v6 v7 v8 v9 v10 = cs
  have HG : Hid (∀ W, Below w.heap.size w W → Calls Try.prog 14 #[.agg cs] W fun e w' => ∃ g : Bool, e = .returned (.bool g) ∧ Below W.heap.size W w' ∧ (g = false → Few m ∧ m.imports.length ≤ 3000)) := Lib.hid (fun W hb => by
    subst hcs
    exact rgreat_any m _ _ _ _ _ _ _ _ _ _ W (hM.grow hb) hB)
  obtain ⟨A1, c1, rfl, _⟩ := h1
  obtain ⟨A2, c2, rfl, _⟩ := h2
  obtain ⟨A3, c3, rfl, _⟩ := h3
  obtain ⟨A4, c4, rfl, _, _, _, hL⟩ := h4
  have H15 : Hid (∀ W, Below w.heap.size w W → Calls Try.prog 15 #[.slice A4 xs.length c4] W fun e w' => e = .returned (.bool (decide (3000 < many xs))) ∧ W = w') := Lib.hid (fun W hb => great_any _ A4 xs c4 W (hL.grow hb).ins l4 l5)
  unfold modCells at hcs
  generalize m.hasStart = hs at hcs
  generalize (m.start : Int) = st at hcs
  subst hcs
  generalize ps.length = n1 at l1 ⊢
  generalize rs.length = n2 at l2 ⊢
  generalize ls.length = n3 at l3 ⊢
  generalize xs.length = n4 at l4 H15 ⊢
  generalize many xs = mx at H15 ⊢
  obtain ⟨t0, t1, t2, t3⟩ := three_new w (.cells #[v1, v2, v3, v4, v5, v6, v7, .bool hs, .int .u32 st, v8, v9, v10] 33) (.cells #[.slice A1 n1 c1, .slice A2 n2 c2] 36) (.cells #[.slice A3 n3 c3, .slice A4 n4 c4] 40)
  have HX0 := Lib.hid t0
  have HX1 := Lib.hid t1
  have HX2 := Lib.hid t2
  have HB0 := Lib.hid t3
  clear t0 t1 t2 t3 hM hB hL l5
  go_enter Try.func6, Try.ntmps6
  go_upto_region 1 with fail
  generalize ((w.alloc (.cells #[v1, v2, v3, v4, v5, v6, v7, .bool hs, .int .u32 st, v8, v9, v10] 33)).alloc (.cells #[.slice A1 n1 c1, .slice A2 n2 c2] 36)).alloc (.cells #[.slice A3 n3 c3, .slice A4 n4 c4] 40) = w0 at HX0 HX1 HX2 HB0 ⊢
  obtain ⟨X0, hX0⟩ : ∃ X, w.heap.size = X := ⟨_, rfl⟩
  obtain ⟨X1, hX1⟩ : ∃ X, w.heap.size + 1 = X := ⟨_, rfl⟩
  obtain ⟨X2, hX2⟩ : ∃ X, w.heap.size + 2 = X := ⟨_, rfl⟩
  simp only [hX2] at HX2 ⊢
  simp only [hX1] at HX1 ⊢
  simp only [hX0] at HX0 ⊢
  clear hX0 hX1 hX2
  have HALL := Lib.hid (fun W (hW : Below w0.heap.size w0 W) => And.intro (cells12 HX0.out hW) (And.intro (two_cells ((hW.block X1 (Array.getElem?_eq_some_iff.1 HX1.out).1).trans HX1.out)) (two_cells ((hW.block X2 (Array.getElem?_eq_some_iff.1 HX2.out).1).trans HX2.out))))
  obtain ⟨⟨a0, a1, a2, a3, a4, a5, a6, a7, a8, a9, a10, a11⟩, _, _⟩ := HALL.out _ (Below.refl _ _)
  by_cases hm : 3000 < mx
  · rw [decide_eq_true hm] at H15
    clear hm
    go_wp2_with (first | (go_at_call 14; refine (HG.out _ HB0.out).mono ?_; rintro e w2 ⟨g, rfl, hb, hsm⟩; obtain ⟨_, ⟨y0, y1⟩, ⟨y2, y3⟩⟩ := HALL.out _ hb; have HBW := Lib.hid (HB0.out.trans (hb.mono HB0.out.size)); have HSM := Lib.hid hsm; clear a0 a1 a2 a3 a4 a5 a6 a7 a8 a9 a10 a11 hb hsm) | (go_at_call 15; refine (H15.out _ HBW.out).mono ?_; rintro e w3 ⟨rfl, rfl⟩))
    all_goals (go_ret; exact ⟨true, rfl, HBW.out, fun h => by cases h⟩)
  · rw [decide_eq_false hm] at H15
    have HMX : Hid (mx ≤ 3000) := Lib.hid (by omega)
    clear hm
    by_cases hl : 500 < n1 + n2 + n3
    · have hli : (500 : Int) < (n1 : Int) + (n2 : Int) + (n3 : Int) := by omega
      clear hl
      go_wp2_with (first | (go_at_call 14; refine (HG.out _ HB0.out).mono ?_; rintro e w2 ⟨g, rfl, hb, hsm⟩; obtain ⟨_, ⟨y0, y1⟩, ⟨y2, y3⟩⟩ := HALL.out _ hb; have HBW := Lib.hid (HB0.out.trans (hb.mono HB0.out.size)); have HSM := Lib.hid hsm; clear a0 a1 a2 a3 a4 a5 a6 a7 a8 a9 a10 a11 hb hsm) | (go_at_call 15; refine (H15.out _ HBW.out).mono ?_; rintro e w3 ⟨rfl, rfl⟩))
      all_goals (go_ret; exact ⟨true, rfl, HBW.out, fun h => by cases h⟩)
    · have hli : decide ((500 : Int) < (n1 : Int) + (n2 : Int) + (n3 : Int)) = false := decide_eq_false (by omega)
      have HLL : Hid (n1 + n2 + n3 ≤ 500) := Lib.hid (by omega)
      clear hl
      go_wp2_with (first | (go_at_call 14; refine (HG.out _ HB0.out).mono ?_; rintro e w2 ⟨g, rfl, hb, hsm⟩; obtain ⟨_, ⟨y0, y1⟩, ⟨y2, y3⟩⟩ := HALL.out _ hb; have HBW := Lib.hid (HB0.out.trans (hb.mono HB0.out.size)); have HSM := Lib.hid hsm; clear a0 a1 a2 a3 a4 a5 a6 a7 a8 a9 a10 a11 hb hsm) | (go_at_call 15; refine (H15.out _ HBW.out).mono ?_; rintro e w3 ⟨rfl, rfl⟩))
      all_goals (go_ret; first | exact ⟨true, rfl, HBW.out, fun h => by cases h⟩ | exact ⟨false, rfl, HBW.out, fun _ => ⟨(HSM.out (by first | rfl | assumption | simp_all)).1, HMX.out, HLL.out⟩⟩)
/-- A row of the call's own that reads as instructions; their labels lie in blocks of S, which are there, and not the row's. -/
def Mine (w : World) (B : Nat) (S : Nat → Prop) (v : Value) (xs : List I) : Prop := OwnL 49 w B S v xs ∧ ∀ g, S g → g < w.heap.size ∧ v.ownBlock ≠ some g
theorem undIn : Try.prog.underlying 38 = some (.slice 49) := by kernel_rfl
theorem infIn : (Try.prog.info? 49).map (fun i => (i.zero, i.size, i.bytes)) = some (some (.agg #[.int .u8 0, .int .u32 0, .int .u32 0, .int .i64 0, .slice none 0 0]), Lay.size I, 48) := by kernel_rfl
instance : Ones I := ⟨fun h u hu => by
  obtain ⟨A, c, rfl, _⟩ := h
  exact insCells_one _ _ _ u hu⟩
theorem Mine.lit0 (w : World) (B : Nat) (hb : B ≤ w.heap.size) : Mine (w.alloc (.cells #[] 49)) B (· < B) (.slice (some ⟨w.heap.size, 0, none⟩) 0 0) [] :=
  ⟨OwnL.lit0 _ _ _ _ hb, fun g hg => ⟨by simp; omega, fun e => by simp [Value.ownBlock] at e; omega⟩⟩
theorem Mine.lit1 (w : World) (B : Nat) (hb : B ≤ w.heap.size) (x : I) (hx : x.wf ∧ x.l = []) : Mine (w.alloc (.cells (insCells x none 0).toArray 49)) B (· < B) (.slice (some ⟨w.heap.size, 0, none⟩) 1 1) [x] :=
  ⟨⟨[(x, insCells x none 0)], rfl, ⟨rfl, .inr ⟨w.heap.size, 1, (insCells x none 0).toArray, rfl, hb, heap_alloc_new w _, by simp, by unfold maxLen; omega, rfl, rfl⟩⟩, fun y hy => by
    simp at hy
    subst hy
    exact ⟨none, 0, rfl, hx.1, by simp [hx.2], by unfold maxLen; omega, by rw [hx.2]; exact HasU.nil _ _ _⟩⟩, fun g hg => ⟨by simp; omega, fun e => by simp [Value.ownBlock] at e; omega⟩⟩
theorem Mine.mod {w w' : World} {B : Nat} {S T : Nat → Prop} {v : Value} {xs : List I} (h : Mine w B S v xs) (hm : Mod T w w') (hv : ∀ g, v.ownBlock = some g → ¬ T g) (ht : ∀ k, S k → ¬ T k) : Mine w' B S v xs :=
  ⟨OwnL.mod h.1 hm hv (fun g _ hg => ht g hg), fun g hg => ⟨Nat.lt_of_lt_of_le (h.2 g hg).1 hm.size, (h.2 g hg).2⟩⟩
theorem Mine.on {w w' : World} {B : Nat} {S : Nat → Prop} {v : Value} {xs : List I} (h : Mine w B S v xs) (hb : Below w.heap.size w w') : Mine w' B S v xs := h.mod (T := fun _ => False) (Mod.of_below hb) (fun _ _ h => h) (fun _ _ h => h)
theorem Mine.slice {w : World} {B : Nat} {S : Nat → Prop} {v : Value} {xs : List I} (h : Mine w B S v xs) : SliceV w (· < w.heap.size) xs v := by
  obtain ⟨⟨ys, h0, h1, h2⟩, _⟩ := h
  have h' : OwnL 49 w 0 S v xs := ⟨ys, h0, own_base h1 (Nat.zero_le _), h2⟩
  exact (h'.tell (fun _ _ => Nat.zero_le _)).more (fun k hk _ => hk)
theorem Mine.lt {w : World} {B : Nat} {S : Nat → Prop} {v : Value} {xs : List I} (h : Mine w B S v xs) : ∀ g, v.ownBlock = some g → B ≤ g ∧ g < w.heap.size := OwnL.lt h.1
/-- Instructions are laid behind. -/
theorem Mine.app {w : World} {B : Nat} {S : Nat → Prop} {v : Value} {xs ys : List I} (h : Mine w B S v xs) (A : Option Addr) (n c : Nat) (hA : HasL w S A ys) (hn : n = ys.length) (hsz : xs.length + n ≤ 1000000000) (hb : B ≤ w.heap.size) :
    ∃ A' c' w', (Builtin.append_ #[38, 38] 38 #[v, .slice A n c]).run Try.prog w = .ok (.slice A' (xs.length + n) c') w' ∧ Mine w' B S (.slice A' (xs.length + n) c') (xs ++ ys) ∧ Mod (fun g => v.ownBlock = some g) w w' ∧ ∀ g, (Value.slice A' (xs.length + n) c').ownBlock = some g → v.ownBlock = some g ∨ w.heap.size ≤ g := by
  subst hn
  obtain ⟨v', w', hrun, hO, hM, hT⟩ := appendL undIn infIn (by decide) rfl (by decide) w B S v xs ys A ys.length c h.1 hA rfl (by omega) hb (fun g _ hg => (h.2 g hg).2)
  obtain ⟨A', c', e, _⟩ := OwnL.form hO
  rw [List.length_append] at e
  subst e
  exact ⟨A', c', w', hrun, ⟨hO.more (fun g _ hg => hg.1), fun g hg => ⟨Nat.lt_of_lt_of_le (h.2 g hg).1 hM.size, fun e => by
    rcases hT g e with e | e
    · exact (h.2 g hg).2 e
    · have := (h.2 g hg).1; omega⟩⟩, hM, hT⟩
/-- A literal of one instruction is laid behind. -/
theorem Mine.app1 {w : World} {B : Nat} {S : Nat → Prop} {v : Value} {xs : List I} (h : Mine w B S v xs) (x : I) (hx : x.wf ∧ x.l = []) (L : Nat) (hL : w.heap[L]? = some (.cells (insCells x none 0).toArray 49 (0, 0))) (hne : v.ownBlock ≠ some L) (hsz : xs.length + 1 ≤ 1000000000) (hb : B ≤ w.heap.size) :
    ∃ A' c' w', (Builtin.append_ #[38, 38] 38 #[v, .slice (some ⟨L, 0, none⟩) 1 1]).run Try.prog w = .ok (.slice A' (xs.length + 1) c') w' ∧ Mine w' B (fun g => S g ∨ g = L) (.slice A' (xs.length + 1) c') (xs ++ [x]) ∧ Mod (fun g => v.ownBlock = some g) w w' ∧ ∀ g, (Value.slice A' (xs.length + 1) c').ownBlock = some g → v.ownBlock = some g ∨ w.heap.size ≤ g := by
  have hLs : L < w.heap.size := (Array.getElem?_eq_some_iff.1 hL).1
  have hA : HasL w (fun g => S g ∨ g = L) (some ⟨L, 0, none⟩) [x] := fun k y hk => by
    cases k with
    | zero =>
      simp at hk
      subst hk
      refine ⟨L, 0, insCells x none 0, rfl, .inr rfl, hLs, ⟨none, 0, rfl, hx.1, by simp [hx.2], by unfold maxLen; omega, by rw [hx.2]; exact HasU.nil _ _ _⟩, fun j u hj => ?_⟩
      rw [cell_of_row w L _ _ _ (0, 0) hL]
      simpa using hj
    | succ k => simp at hk
  have h' : Mine w B (fun g => S g ∨ g = L) v xs := ⟨h.1.more (fun g _ hg => .inl hg), fun g hg => by
    rcases hg with hg | hg
    · exact h.2 g hg
    · subst hg; exact ⟨hLs, hne⟩⟩
  exact h'.app (some ⟨L, 0, none⟩) 1 1 hA rfl hsz hb
end Go.Proofs.Ytakbehoglgebmaa
/-
  Layer 10's statements: rows of instructions that a law makes, apart from what was there.
-/
namespace Go.Proofs.Ytakbehoglgebmaa
open Go.RowKit Ins Bin Sp
/-- A row of instructions made since there were N blocks; labels that were there lie below B. -/
def Made (N B : Nat) (w : World) (v : Value) (xs : List I) : Prop := ∃ S, Mine w B S v xs ∧ (∀ k, k < B → S k) ∧ (∀ k, S k → k < B ∨ N ≤ k) ∧ ∀ k, v.ownBlock = some k → N ≤ k
section
variable {N B n : Nat} {w w' : World} {v : Value} {xs : List I}
theorem Made.lit0 (w : World) (N B : Nat) (hN : N ≤ w.heap.size) (hB : B ≤ w.heap.size) : Made N B (w.alloc (.cells #[] 49)) (.slice (some ⟨w.heap.size, 0, none⟩) 0 0) [] :=
  ⟨_, Mine.lit0 w B hB, fun _ h => h, fun _ h => .inl h, fun k hk => by simp [Value.ownBlock] at hk; omega⟩
theorem Made.lit1 (w : World) (N B : Nat) (hN : N ≤ w.heap.size) (hB : B ≤ w.heap.size) (x : I) (hx : x.wf ∧ x.l = []) : Made N B (w.alloc (.cells (insCells x none 0).toArray 49)) (.slice (some ⟨w.heap.size, 0, none⟩) 1 1) [x] :=
  ⟨_, Mine.lit1 w B hB x hx, fun _ h => h, fun _ h => .inl h, fun k hk => by simp [Value.ownBlock] at hk; omega⟩
theorem Made.on (h : Made N B w v xs) (hb : Below w.heap.size w w') : Made N B w' v xs := by
  obtain ⟨S, h1, h2⟩ := h
  exact ⟨S, h1.on hb, h2⟩
theorem Made.slice (h : Made N B w v xs) : SliceV w (· < w.heap.size) xs v := by
  obtain ⟨S, h1, _⟩ := h
  exact h1.slice
theorem Made.store {Z : Nat} (h : Made N B w v xs) (hm : Mod (· = Z) w w') (h1 : B ≤ Z) (h2 : Z < N) : Made N B w' v xs := by
  obtain ⟨S, q1, q2, q3, q4⟩ := h
  exact ⟨S, q1.mod hm (fun g hg e => by have := q4 g hg; omega) (fun k hk e => by rcases q3 k hk with h | h <;> omega), q2, q3, q4⟩
theorem Made.app {ys : List I} (h : Made N B w v xs) (hN : N ≤ w.heap.size) (hB : B ≤ w.heap.size) (A : Option Addr) (c : Nat) (hA : HasL w (· < B) A ys) (hn : n = ys.length) (hsz : xs.length + n ≤ 1000000000) :
    ∃ A' c' w', (Builtin.append_ #[38, 38] 38 #[v, .slice A n c]).run Try.prog w = .ok (.slice A' (xs.length + n) c') w' ∧ Made N B w' (.slice A' (xs.length + n) c') (xs ++ ys) ∧ Below N w w' := by
  obtain ⟨S, q1, q2, q3, q4⟩ := h
  obtain ⟨A', c', w', hrun, hM, hmod, hT⟩ := q1.app A n c (hA.more (fun k _ hk => q2 k hk)) hn hsz hB
  exact ⟨A', c', w', hrun, ⟨S, hM, q2, q3, fun k hk => by
    rcases hT k hk with h | h
    · exact q4 k h
    · omega⟩, hmod.below hN (fun k hk e => by have := q4 k e; omega)⟩
theorem Made.app1 (h : Made N B w v xs) (hN : N ≤ w.heap.size) (hB : B ≤ w.heap.size) (x : I) (hx : x.wf ∧ x.l = []) (L : Nat) (hL : w.heap[L]? = some (.cells (insCells x none 0).toArray 49 (0, 0))) (hNL : N ≤ L) (hne : v.ownBlock ≠ some L) (hsz : xs.length + 1 ≤ 1000000000) :
    ∃ A' c' w', (Builtin.append_ #[38, 38] 38 #[v, .slice (some ⟨L, 0, none⟩) 1 1]).run Try.prog w = .ok (.slice A' (xs.length + 1) c') w' ∧ Made N B w' (.slice A' (xs.length + 1) c') (xs ++ [x]) ∧ Below N w w' := by
  obtain ⟨S, q1, q2, q3, q4⟩ := h
  obtain ⟨A', c', w', hrun, hM, hmod, hT⟩ := q1.app1 x hx L hL hne hsz hB
  exact ⟨A', c', w', hrun, ⟨_, hM, fun k hk => .inl (q2 k hk), fun k hk => by
    rcases hk with hk | hk
    · exact q3 k hk
    · exact .inr (by omega), fun k hk => by
    rcases hT k hk with h | h
    · exact q4 k h
    · omega⟩, hmod.below hN (fun k hk e => by have := q4 k e; omega)⟩
end
theorem HasL.old {w w' : World} {B : Nat} {A : Option Addr} {xs : List I} (h : HasL w (· < w.heap.size) A xs) (hb : Below w.heap.size w w') (hB : B = w.heap.size) : HasL w' (· < B) A xs := by
  subst hB
  exact h.mod (T := fun _ => False) (Mod.of_below hb) (fun _ _ _ h => h)
/-- What a row of instructions has from k on. -/
theorem HasL.from {w : World} {S : Nat → Prop} {g o : Nat} {xs : List I} (h : HasL w S (some ⟨g, o, none⟩) xs) (k : Nat) : HasL w S (some ⟨g, o + k * 5, none⟩) (xs.drop k) := fun j x hx => by
  rw [List.getElem?_drop] at hx
  obtain ⟨g', o', cs, e, h1, h2, h3, h4⟩ := h (k + j) x hx
  injection e with e
  injection e with e1 e2 _
  subst e1 e2
  refine ⟨g, o + k * 5, cs, rfl, h1, h2, h3, fun i u hi => ?_⟩
  have := h4 i u hi
  have e : o + (k + j) * Lay.size I + i = o + k * 5 + j * Lay.size I + i := by
    show o + (k + j) * 5 + i = o + k * 5 + j * 5 + i
    omega
  rw [e] at this
  exact this
theorem endI_ok : Bo.endI.wf ∧ Bo.endI.l = [] := wfB_of (xs := [Bo.endI]) (by decide) _ (by simp)
section
variable {w : World} {N B n1 n2 : Nat} {pre suf : List I} {A1 A2 : Option Addr} {c1 c2 : Nat} {x : I}
end
end Go.Proofs.Ytakbehoglgebmaa
/-
  The walk over BodyNops. (gen/body/law1.py)
-/
namespace Bo
theorem run_err {E : Env} : ∀ (xs : List Ins.I) (o o' : List Bool) (s : Ty.T) (m : Nat), Ins.steps o xs = some o' → run E o xs s = .error m → eNum m
  | [], _, _, _, _, _, h => by rw [run] at h; cases h
  | x :: xs, o, o', s, m, hs, h => by
    rw [run] at h
    rw [Ins.steps] at hs
    split at h
    · next e he =>
      injection h with h
      subst h
      exact e_one he
    · next s1 h1 =>
      split at h
      · next hn => rw [hn] at hs; cases hs
      · next o1 ho =>
        rw [ho] at hs
        exact run_err xs o1 o' s1 m hs h
theorem chk_err {E : Env} {lb : Bool} {xs : List Ins.I} {m : Nat} (h : chk E lb xs = .error m) : m ≠ 0 := by
  unfold chk at h
  split at h
  · next hx =>
    split at h
    · split at h
      · next e he =>
        injection h with h
        subst h
        rcases run_err xs [] _ _ _ (exprB_parts hx).2 he with e | e | e <;> omega
      · split at h
        · cases h
        · injection h with h; omega
    · injection h with h; omega
  · injection h with h; omega
end Bo
namespace Go.Proofs.Ytakbehoglgebmaa
open Go.RowKit Ins Bin Sp
theorem rep_funs {w : World} {S : Nat → Prop} {m : M} {v1 v2 v3 v4 v5 v6 v7 v8 v9 v10 : Value} (hM : RepM w S m v1 v2 v3 v4 v5 v6 v7 v8 v9 v10) : ∀ t ∈ funs m, t < 4294967296 := fun t ht => by
  unfold funs at ht
  rcases List.mem_append.1 ht with h | h
  · obtain ⟨x, hx, rfl⟩ := List.mem_map.1 h
    have hx' := (List.mem_filter.1 hx).1
    obtain ⟨_, _, _, _, _, _, hL⟩ := hM.imports
    obtain ⟨j, hj⟩ := List.mem_iff_getElem?.1 hx'
    obtain ⟨_, _, _, _, _, h5, _⟩ := imp_at hL hj
    exact h5
  · obtain ⟨_, _, _, _, _, _, hL⟩ := hM.funcs
    obtain ⟨j, hj⟩ := List.mem_iff_getElem?.1 h
    obtain ⟨_, _, _, _, _, h5⟩ := nat_at hL hj
    exact h5
theorem loc_none (m : M) (rs : List UInt8) {ps : List UInt8} {ls : List Lc} {i : Nat} {lc : Option UInt8} {tb : Bool} (h : Bo.local' ps ls i = lc) (hb : lc.isSome = tb) : tb = false → (envOf m ps rs ls).loc i = none := fun e => by
  show Bo.local' ps ls i = none
  rw [h]
  subst e
  exact Option.isSome_eq_false_iff.1 hb |> Option.isNone_iff_eq_none.1
theorem chkE_form (r : Except Nat Nat) : ∃ a b : Int, chkE r = .returned (.tuple #[.int .i64 a, .int .i64 b]) := by
  cases r with
  | error n => exact ⟨0, n, rfl⟩
  | ok h => exact ⟨h, 0, rfl⟩
theorem chkE_err {n : Nat} {a b : Int} (h : chkE (.error n) = .returned (.tuple #[.int .i64 a, .int .i64 b])) : a = 0 ∧ b = (n : Int) := by
  unfold chkE at h
  simp only [Ending.returned.injEq, Value.tuple.injEq, Array.mk.injEq, List.cons.injEq, Value.int.injEq, true_and, and_true] at h
  exact ⟨h.1.symm, h.2.symm⟩
theorem chkE_ok {n : Nat} {a b : Int} (h : chkE (.ok n) = .returned (.tuple #[.int .i64 a, .int .i64 b])) : a = (n : Int) ∧ b = 0 := by
  unfold chkE at h
  simp only [Ending.returned.injEq, Value.tuple.injEq, Array.mk.injEq, List.cons.injEq, Value.int.injEq, true_and, and_true] at h
  exact ⟨h.1.symm, h.2.symm⟩
theorem many_len' : ∀ (xs : List I), xs.length ≤ Ins.many xs
  | [] => by simp
  | x :: xs => by have := many_len' xs; simp only [Ins.many, List.length_cons]; omega
end Go.Proofs.Ytakbehoglgebmaa
/-
  Layer 10's statements: a row of instructions of a law's own, one of them written otherwise.
-/
namespace Bo
theorem rets_step {xs : List Ins.I} {j d : Nat} {x : Ins.I} (h : xs[j]? = some x) : rets d (xs.drop j) = (if x.op = 12 ∧ x.a = d then ret else x) :: rets (deepN d x.op) (xs.drop (j + 1)) := by
  obtain ⟨hj, e⟩ := List.getElem?_eq_some_iff.1 h
  rw [List.drop_eq_getElem_cons hj, e, rets]
theorem take_step {ys : List Ins.I} {j : Nat} {y : Ins.I} (h : ys[j]? = some y) : ys.take (j + 1) = ys.take j ++ [y] := by
  rw [List.take_add_one, h]
  rfl
theorem drop_get {xs ys : List Ins.I} {j : Nat} {x : Ins.I} (h : ys.drop j = xs.drop j) (hx : xs[j]? = some x) : ys[j]? = some x := by
  have h1 : (ys.drop j)[0]? = (xs.drop j)[0]? := by rw [h]
  rw [List.getElem?_drop, List.getElem?_drop, Nat.add_zero] at h1
  rw [h1, hx]
theorem drop_next {xs ys : List Ins.I} {j : Nat} (h : ys.drop j = xs.drop j) : ys.drop (j + 1) = xs.drop (j + 1) := by
  rw [Nat.add_comm, ← List.drop_drop, ← List.drop_drop, List.drop_drop, List.drop_drop]
  have := congrArg (List.drop 1) h
  rw [List.drop_drop, List.drop_drop] at this
  rw [Nat.add_comm 1 j]
  rw [Nat.add_comm j 1] at this ⊢
  simpa [Nat.add_comm] using this
theorem loop_keep {xs ys : List Ins.I} {d j : Nat} {x : Ins.I} (hx : xs[j]? = some x) (h : ys.length = xs.length ∧ ys.drop j = xs.drop j ∧ rets 0 xs = ys.take j ++ rets d (xs.drop j)) (hc : ¬ (x.op = 12 ∧ x.a = d)) :
    ys.length = xs.length ∧ ys.drop (j + 1) = xs.drop (j + 1) ∧ rets 0 xs = ys.take (j + 1) ++ rets (deepN d x.op) (xs.drop (j + 1)) := by
  obtain ⟨h1, h2, h3⟩ := h
  refine ⟨h1, drop_next h2, ?_⟩
  rw [h3, rets_step hx, if_neg hc, take_step (drop_get h2 hx)]
  simp
theorem loop_set {xs ys : List Ins.I} {d j : Nat} {x : Ins.I} (hx : xs[j]? = some x) (h : ys.length = xs.length ∧ ys.drop j = xs.drop j ∧ rets 0 xs = ys.take j ++ rets d (xs.drop j)) (hc : x.op = 12 ∧ x.a = d) :
    (ys.set j ret).length = xs.length ∧ (ys.set j ret).drop (j + 1) = xs.drop (j + 1) ∧ rets 0 xs = (ys.set j ret).take (j + 1) ++ rets d (xs.drop (j + 1)) := by
  obtain ⟨h1, h2, h3⟩ := h
  have hj : j < ys.length := by rw [h1]; exact (List.getElem?_eq_some_iff.1 hx).1
  refine ⟨by simp [h1], ?_, ?_⟩
  · rw [List.drop_set_of_lt (by omega)]
    exact drop_next h2
  · have hd : deepN d x.op = d := by rw [hc.1]; rfl
    have hg : (ys.set j ret)[j]? = some ret := by rw [List.getElem?_set_self hj]
    rw [h3, rets_step hx, if_pos hc, hd, take_step hg, List.take_set_of_le (Nat.le_refl j)]
    simp
theorem loop_end {xs ys : List Ins.I} {d n : Nat} (hn : xs.length = n) (h : ys.length = xs.length ∧ ys.drop n = xs.drop n ∧ rets 0 xs = ys.take n ++ rets d (xs.drop n)) : rets 0 xs = ys := by
  obtain ⟨h1, h2, h3⟩ := h
  rw [h3, List.drop_eq_nil_of_le (by omega), List.take_of_length_le (by omega)]
  simp [rets]
end Bo
namespace Go.Proofs.Ytakbehoglgebmaa
open Go.RowKit Ins Bin Sp
/-- Instructions in a row of blocks from N on, which may be written; their labels lie below B. -/
def RowA (N B : Nat) (w : World) (A : Option Addr) (ys : List I) : Prop := ∀ (k : Nat) (x : I), ys[k]? = some x → ∃ g A' c, A = some ⟨g, 0, none⟩ ∧ N ≤ g ∧ B ≤ g ∧ g < w.heap.size ∧ x.wf ∧ x.l.length ≤ c ∧ c ≤ maxLen ∧ HasU w (· < B) A' x.l ∧ w.rangeAt g (k * 5) (insCells x A' c) ∧ w.there g (k * 5) 5
theorem rowA_of {N B n c : Nat} {w : World} {A : Option Addr} {xs : List I} (h : Mine w B (· < B) (.slice A n c) xs) (hN : ∀ k, (Value.slice A n c).ownBlock = some k → N ≤ k) : RowA N B w A xs := fun k x hk => by
  obtain ⟨⟨ys, h0, h1, h2⟩, _⟩ := h
  have hlen : ys.length = xs.length := by rw [← h0]; simp
  rw [← h0, List.getElem?_map, Option.map_eq_some_iff] at hk
  obtain ⟨y, hy, rfl⟩ := hk
  have hkl := (List.getElem?_eq_some_iff.1 hy).1
  obtain ⟨A', c', e, q1, q2, q3, q4⟩ := h2 y (List.mem_of_getElem? hy)
  have hfl := flat_at ys h2 k y hy
  rcases h1.2 with ⟨_, h3⟩ | ⟨g, cap, cur, e2, hb, hh, hc, hm, hcs, htk⟩
  · omega
  · injection e2 with e2 _ e3
    subst e2 e3
    have hr : w.rangeAt g (k * 5) (insCells y.1 A' c') := fun j u hj => by
      have := h1.cells (g := g) rfl (k * 5 + j) u (hfl j u (by rw [e]; exact hj))
      rwa [addr_at, Nat.zero_add] at this
    refine ⟨g, A', c', rfl, hN g rfl, hb, (Array.getElem?_eq_some_iff.1 hh).1, q1, q2, q3, q4, hr, fun j hj => ⟨?_, frozen_of_row w g _ _ _ hh⟩⟩
    obtain ⟨u, hu⟩ : ∃ u, (insCells y.1 A' c')[j]? = some u := ⟨_, List.getElem?_eq_getElem (by simpa [insCells] using hj)⟩
    rw [hr j u hu]
    rfl
theorem below_setCells10 {N g : Nat} (hg : N ≤ g) : ∀ (vs : List Value) (o : Nat) (w : World), Below N w (w.setCells g o vs)
  | [], _, w => Below.refl _ _
  | v :: r, o, w => by
    rw [World.setCells]
    have h1 : Below N w (w.setCell ⟨g, o, none⟩ v) := ⟨rfl, rfl, rfl, by simp [World.setCell], fun k hk => Below.heap_setCell _ _ _ _ (by intro e; have e' : k = g := e; omega)⟩
    exact h1.trans (below_setCells10 hg r (o + 1) _)
section
variable {N B : Nat} {w : World} {A : Option Addr} {ys : List I}
theorem RowA.on {w' : World} (h : RowA N B w A ys) (hb : Below w.heap.size w w') : RowA N B w' A ys := fun k x hk => by
  obtain ⟨g, A', c, h1, h2, h2', h3, h4, h5, h6, h7, h8, h9⟩ := h k x hk
  refine ⟨g, A', c, h1, h2, h2', Nat.lt_of_lt_of_le h3 hb.size, h4, h5, h6, h7.mod (T := fun _ => False) (Mod.of_below hb) (fun _ _ _ h => h), fun j u hj => (hb.cell (p := ⟨g, k * 5 + j, none⟩) h3).trans (h8 j u hj), fun j hj => ⟨?_, ?_⟩⟩
  · rw [hb.cell (p := ⟨g, k * 5 + j, none⟩) h3]
    exact (h9 j hj).1
  · have := (h9 j hj).2
    unfold World.frozen? at this ⊢
    rw [hb.block g h3]
    exact this
theorem RowA.store {w' : World} {Z : Nat} (h : RowA N B w A ys) (hm : Mod (· = Z) w w') (h1 : B ≤ Z) (h2 : Z < N) : RowA N B w' A ys := fun k x hk => by
  obtain ⟨g, A', c, q1, q2, q2', q3, q4, q5, q6, q7, q8, q9⟩ := h k x hk
  have hne : ¬ g = Z := by omega
  have hcell : ∀ j, w'.cell? ⟨g, k * 5 + j, none⟩ = w.cell? ⟨g, k * 5 + j, none⟩ := fun j => World.cell?_of_block (hm.block g q3 hne)
  refine ⟨g, A', c, q1, q2, q2', Nat.lt_of_lt_of_le q3 hm.size, q4, q5, q6, q7.mod hm (fun i _ hi e => by have hi' : i < B := hi; have e' : i = Z := e; omega), fun j u hj => (hcell j).trans (q8 j u hj), fun j hj => ⟨?_, ?_⟩⟩
  · rw [hcell j]
    exact (q9 j hj).1
  · have := (q9 j hj).2
    unfold World.frozen? at this ⊢
    rw [hm.block g q3 hne]
    exact this
theorem RowA.slice {n c : Nat} (h : RowA N B w A ys) (hn : ys.length = n) (hc : n ≤ c) (hm : c ≤ maxLen) (hnil : A = none → c = 0) : SliceV w (· < w.heap.size) ys (.slice A n c) := by
  subst hn
  refine ⟨A, c, rfl, hc, hm, hnil, fun k x hk => ?_⟩
  obtain ⟨g, A', c', h1, h2, _, h3, h4, h5, h6, h7, h8, h9⟩ := h k x hk
  refine ⟨g, 0, insCells x A' c', h1, h3, h3, ⟨A', c', rfl, h4, h5, h6, h7.more (fun j hj _ => hj)⟩, fun j u hj => ?_⟩
  have := h8 j u hj
  show w.cell? ⟨g, 0 + k * 5 + j, none⟩ = some u
  rw [Nat.zero_add]
  exact this
/-- One of them is written otherwise. -/
theorem RowA.set {g j : Nat} {x : I} (h : RowA N B w (some ⟨g, 0, none⟩) ys) (hg : B ≤ g) (hj : j < ys.length) (hx : x.wf ∧ x.l = []) : RowA N B (w.setCells g (j * 5) (insCells x none 0)) (some ⟨g, 0, none⟩) (ys.set j x) := fun k y hk => by
  have hBw : Below g w (w.setCells g (j * 5) (insCells x none 0)) := below_setCells10 (Nat.le_refl g) _ _ _
  obtain ⟨y0, hy0⟩ : ∃ y0, ys[k]? = some y0 := ⟨_, List.getElem?_eq_getElem (by have := (List.getElem?_eq_some_iff.1 hk).1; simpa using this)⟩
  obtain ⟨g', A', c, h1, h2, h2', h3, h4, h5, h6, h7, h8, h9⟩ := h k y0 hy0
  injection h1 with h1
  injection h1 with h1 _ _
  subst h1
  have hth : (w.setCells g (j * 5) (insCells x none 0)).there g (k * 5) 5 := World.there_setCells h9 _ _ _
  have hsz : g < (w.setCells g (j * 5) (insCells x none 0)).heap.size := Nat.lt_of_lt_of_le h3 hBw.size
  rw [List.getElem?_set] at hk
  by_cases hkj : j = k
  · subst hkj
    rw [if_pos rfl, if_pos hj] at hk
    injection hk with hk
    subst hk
    exact ⟨g, none, 0, rfl, h2, h2', hsz, hx.1, by simp [hx.2], by unfold maxLen; omega, by rw [hx.2]; exact HasU.nil _ _ _, World.rangeAt_setCells_same w g (j * 5) _ h9, hth⟩
  · rw [if_neg hkj, hy0] at hk
    injection hk with hk
    subst hk
    refine ⟨g, A', c, rfl, h2, h2', hsz, h4, h5, h6, ?_, World.rangeAt_setCells_apart h8 g (j * 5) _ (.inr ?_), hth⟩
    · exact h7.mod (T := (g ≤ ·)) ⟨hBw.os, hBw.tape, hBw.output, hBw.size, fun i _ ht => hBw.block i (Nat.lt_of_not_le ht)⟩ (fun i _ hi e => by have hi' : i < B := hi; have e' : g ≤ i := e; omega)
    · have e1 : (insCells y0 A' c).length = 5 := rfl
      have e2 : (insCells x none 0).length = 5 := rfl
      rw [e1, e2]
      omega
end
end Go.Proofs.Ytakbehoglgebmaa
