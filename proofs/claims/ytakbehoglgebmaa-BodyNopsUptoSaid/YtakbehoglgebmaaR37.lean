/-
  Layer 10's statements: great; rows of instructions that a law makes. (gen/body/law0.py)
-/
import Derived.Test.YtakbehoglgebmaaR36
import Derived.Test.YtakbehoglgebmaaR13
namespace Go.Proofs.Ytakbehoglgebmaa
open Go.RowKit Ins Bin Sp
theorem three_new (w : World) (o0 o1 o2 : Obj) : (((w.alloc o0).alloc o1).alloc o2).heap[w.heap.size]? = some o0 ∧ (((w.alloc o0).alloc o1).alloc o2).heap[w.heap.size + 1]? = some o1 ∧ (((w.alloc o0).alloc o1).alloc o2).heap[w.heap.size + 2]? = some o2 ∧ Below w.heap.size w (((w.alloc o0).alloc o1).alloc o2) := by
  have e1 : (w.alloc o0).heap.size = w.heap.size + 1 := by simp
  have e2 : ((w.alloc o0).alloc o1).heap.size = w.heap.size + 2 := by simp
  have h1 := heap_alloc_new (w.alloc o0) o1
  have h2 := heap_alloc_new ((w.alloc o0).alloc o1) o2
  rw [e1] at h1
  rw [e2] at h2
  refine ⟨(Below.heap_alloc _ _ _ (by omega)).trans ((Below.heap_alloc _ _ _ (by omega)).trans (heap_alloc_new w o0)), (Below.heap_alloc _ _ _ (by omega)).trans h1, h2, (((Below.refl _ _).alloc (Nat.le_refl _) _).alloc (by omega) _).alloc (by omega) _⟩
/-- What great tells. -/
def GrPost (w : World) (F : Prop) (mx n : Nat) (e : Ending) (w' : World) : Prop := ∃ g : Bool, e = .returned (.bool g) ∧ Below w.heap.size w w' ∧ (g = false → F ∧ mx ≤ 3000 ∧ n ≤ 500)
set_option maxRecDepth 100000 in
set_option maxHeartbeats 4000000 in
theorem bgreat_any (m : M) (v1 v2 v3 v4 v5 v6 v7 v8 v9 v10 : Value) (ps rs : List UInt8) (ls : List Lc) (xs : List I) (u1 u2 u3 u4 : Value) (w : World) (hM : RepM w (· < w.heap.size) m v1 v2 v3 v4 v5 v6 v7 v8 v9 v10) (hB : BigM m)
    (h1 : SliceV w (· < w.heap.size) ps u1) (h2 : SliceV w (· < w.heap.size) rs u2) (h3 : SliceV w (· < w.heap.size) ls u3) (h4 : SliceV w (· < w.heap.size) xs u4) (l1 : ps.length ≤ 140737488355328) (l2 : rs.length ≤ 140737488355328) (l3 : ls.length ≤ 140737488355328) (l4 : xs.length ≤ 140737488355328) (l5 : ∀ x ∈ xs, x.l.length ≤ 140737488355328) :
    Calls Try.prog 6 #[.agg (modCells m v1 v2 v3 v4 v5 v6 v7 v8 v9 v10), .agg #[u1, u2], .agg #[u3, u4]] w (GrPost w (Few m) (many xs) (ps.length + rs.length + ls.length)) := by
  generalize hcs : modCells m v1 v2 v3 v4 v5 v6 v7 v8 v9 v10 = cs
  have HG : Hid (∀ W, Below w.heap.size w W → Calls Try.prog 14 #[.agg cs] W fun e w' => ∃ g : Bool, e = .returned (.bool g) ∧ Below W.heap.size W w' ∧ (g = false → Few m ∧ m.imports.length ≤ 3000)) := Lib.hid (fun W hb => by
    subst hcs
    exact rgreat_any m _ _ _ _ _ _ _ _ _ _ W (hM.grow hb) hB)
  obtain ⟨A1, c1, rfl, _⟩ := h1
  obtain ⟨A2, c2, rfl, _⟩ := h2
  obtain ⟨A3, c3, rfl, _⟩ := h3
  obtain ⟨A4, c4, rfl, _, _, _, hL⟩ := h4
  have H15 : Hid (∀ W, Below w.heap.size w W → Calls Try.prog 15 #[.slice A4 xs.length c4] W fun e w' => e = .returned (.bool (decide (3000 < many xs))) ∧ W = w') := Lib.hid (fun W hb => great_any _ A4 xs c4 W (hL.grow hb).ins l4 l5)
  unfold modCells at hcs
  generalize m.hasStart = hs at hcs
  generalize (m.start : Int) = st at hcs
  subst hcs
  generalize ps.length = n1 at l1 ⊢
  generalize rs.length = n2 at l2 ⊢
  generalize ls.length = n3 at l3 ⊢
  generalize xs.length = n4 at l4 H15 ⊢
  generalize many xs = mx at H15 ⊢
  obtain ⟨t0, t1, t2, t3⟩ := three_new w (.cells #[v1, v2, v3, v4, v5, v6, v7, .bool hs, .int .u32 st, v8, v9, v10] 33) (.cells #[.slice A1 n1 c1, .slice A2 n2 c2] 36) (.cells #[.slice A3 n3 c3, .slice A4 n4 c4] 40)
  have HX0 := Lib.hid t0
  have HX1 := Lib.hid t1
  have HX2 := Lib.hid t2
  have HB0 := Lib.hid t3
  clear t0 t1 t2 t3 hM hB hL l5
  go_enter Try.func6, Try.ntmps6
  go_upto_region 1 with fail
  generalize ((w.alloc (.cells #[v1, v2, v3, v4, v5, v6, v7, .bool hs, .int .u32 st, v8, v9, v10] 33)).alloc (.cells #[.slice A1 n1 c1, .slice A2 n2 c2] 36)).alloc (.cells #[.slice A3 n3 c3, .slice A4 n4 c4] 40) = w0 at HX0 HX1 HX2 HB0 ⊢
  obtain ⟨X0, hX0⟩ : ∃ X, w.heap.size = X := ⟨_, rfl⟩
  obtain ⟨X1, hX1⟩ : ∃ X, w.heap.size + 1 = X := ⟨_, rfl⟩
  obtain ⟨X2, hX2⟩ : ∃ X, w.heap.size + 2 = X := ⟨_, rfl⟩
  simp only [hX2] at HX2 ⊢
  simp only [hX1] at HX1 ⊢
  simp only [hX0] at HX0 ⊢
  clear hX0 hX1 hX2
  have HALL := Lib.hid (fun W (hW : Below w0.heap.size w0 W) => And.intro (cells12 HX0.out hW) (And.intro (two_cells ((hW.block X1 (Array.getElem?_eq_some_iff.1 HX1.out).1).trans HX1.out)) (two_cells ((hW.block X2 (Array.getElem?_eq_some_iff.1 HX2.out).1).trans HX2.out))))
  obtain ⟨⟨a0, a1, a2, a3, a4, a5, a6, a7, a8, a9, a10, a11⟩, _, _⟩ := HALL.out _ (Below.refl _ _)
  by_cases hm : 3000 < mx
  · rw [decide_eq_true hm] at H15
    clear hm
    go_wp2_with (first | (go_at_call 14; refine (HG.out _ HB0.out).mono ?_; rintro e w2 ⟨g, rfl, hb, hsm⟩; obtain ⟨_, ⟨y0, y1⟩, ⟨y2, y3⟩⟩ := HALL.out _ hb; have HBW := Lib.hid (HB0.out.trans (hb.mono HB0.out.size)); have HSM := Lib.hid hsm; clear a0 a1 a2 a3 a4 a5 a6 a7 a8 a9 a10 a11 hb hsm) | (go_at_call 15; refine (H15.out _ HBW.out).mono ?_; rintro e w3 ⟨rfl, rfl⟩))
    all_goals (go_ret; exact ⟨true, rfl, HBW.out, fun h => by cases h⟩)
  · rw [decide_eq_false hm] at H15
    have HMX : Hid (mx ≤ 3000) := Lib.hid (by omega)
    clear hm
    by_cases hl : 500 < n1 + n2 + n3
    · have hli : (500 : Int) < (n1 : Int) + (n2 : Int) + (n3 : Int) := by omega
      clear hl
      go_wp2_with (first | (go_at_call 14; refine (HG.out _ HB0.out).mono ?_; rintro e w2 ⟨g, rfl, hb, hsm⟩; obtain ⟨_, ⟨y0, y1⟩, ⟨y2, y3⟩⟩ := HALL.out _ hb; have HBW := Lib.hid (HB0.out.trans (hb.mono HB0.out.size)); have HSM := Lib.hid hsm; clear a0 a1 a2 a3 a4 a5 a6 a7 a8 a9 a10 a11 hb hsm) | (go_at_call 15; refine (H15.out _ HBW.out).mono ?_; rintro e w3 ⟨rfl, rfl⟩))
      all_goals (go_ret; exact ⟨true, rfl, HBW.out, fun h => by cases h⟩)
    · have hli : decide ((500 : Int) < (n1 : Int) + (n2 : Int) + (n3 : Int)) = false := decide_eq_false (by omega)
      have HLL : Hid (n1 + n2 + n3 ≤ 500) := Lib.hid (by omega)
      clear hl
      go_wp2_with (first | (go_at_call 14; refine (HG.out _ HB0.out).mono ?_; rintro e w2 ⟨g, rfl, hb, hsm⟩; obtain ⟨_, ⟨y0, y1⟩, ⟨y2, y3⟩⟩ := HALL.out _ hb; have HBW := Lib.hid (HB0.out.trans (hb.mono HB0.out.size)); have HSM := Lib.hid hsm; clear a0 a1 a2 a3 a4 a5 a6 a7 a8 a9 a10 a11 hb hsm) | (go_at_call 15; refine (H15.out _ HBW.out).mono ?_; rintro e w3 ⟨rfl, rfl⟩))
      all_goals (go_ret; first | exact ⟨true, rfl, HBW.out, fun h => by cases h⟩ | exact ⟨false, rfl, HBW.out, fun _ => ⟨(HSM.out (by first | rfl | assumption | simp_all)).1, HMX.out, HLL.out⟩⟩)
/-- A row of the call's own that reads as instructions; their labels lie in blocks of S, which are there, and not the row's. -/
def Mine (w : World) (B : Nat) (S : Nat → Prop) (v : Value) (xs : List I) : Prop := OwnL 49 w B S v xs ∧ ∀ g, S g → g < w.heap.size ∧ v.ownBlock ≠ some g
theorem undIn : Try.prog.underlying 38 = some (.slice 49) := by kernel_rfl
theorem infIn : (Try.prog.info? 49).map (fun i => (i.zero, i.size, i.bytes)) = some (some (.agg #[.int .u8 0, .int .u32 0, .int .u32 0, .int .i64 0, .slice none 0 0]), Lay.size I, 48) := by kernel_rfl
instance : Ones I := ⟨fun h u hu => by
  obtain ⟨A, c, rfl, _⟩ := h
  exact insCells_one _ _ _ u hu⟩
theorem Mine.lit0 (w : World) (B : Nat) (hb : B ≤ w.heap.size) : Mine (w.alloc (.cells #[] 49)) B (· < B) (.slice (some ⟨w.heap.size, 0, none⟩) 0 0) [] :=
  ⟨OwnL.lit0 _ _ _ _ hb, fun g hg => ⟨by simp; omega, fun e => by simp [Value.ownBlock] at e; omega⟩⟩
theorem Mine.lit1 (w : World) (B : Nat) (hb : B ≤ w.heap.size) (x : I) (hx : x.wf ∧ x.l = []) : Mine (w.alloc (.cells (insCells x none 0).toArray 49)) B (· < B) (.slice (some ⟨w.heap.size, 0, none⟩) 1 1) [x] :=
  ⟨⟨[(x, insCells x none 0)], rfl, ⟨rfl, .inr ⟨w.heap.size, 1, (insCells x none 0).toArray, rfl, hb, heap_alloc_new w _, by simp, by unfold maxLen; omega, rfl, rfl⟩⟩, fun y hy => by
    simp at hy
    subst hy
    exact ⟨none, 0, rfl, hx.1, by simp [hx.2], by unfold maxLen; omega, by rw [hx.2]; exact HasU.nil _ _ _⟩⟩, fun g hg => ⟨by simp; omega, fun e => by simp [Value.ownBlock] at e; omega⟩⟩
theorem Mine.mod {w w' : World} {B : Nat} {S T : Nat → Prop} {v : Value} {xs : List I} (h : Mine w B S v xs) (hm : Mod T w w') (hv : ∀ g, v.ownBlock = some g → ¬ T g) (ht : ∀ k, S k → ¬ T k) : Mine w' B S v xs :=
  ⟨OwnL.mod h.1 hm hv (fun g _ hg => ht g hg), fun g hg => ⟨Nat.lt_of_lt_of_le (h.2 g hg).1 hm.size, (h.2 g hg).2⟩⟩
theorem Mine.on {w w' : World} {B : Nat} {S : Nat → Prop} {v : Value} {xs : List I} (h : Mine w B S v xs) (hb : Below w.heap.size w w') : Mine w' B S v xs := h.mod (T := fun _ => False) (Mod.of_below hb) (fun _ _ h => h) (fun _ _ h => h)
theorem Mine.slice {w : World} {B : Nat} {S : Nat → Prop} {v : Value} {xs : List I} (h : Mine w B S v xs) : SliceV w (· < w.heap.size) xs v := by
  obtain ⟨⟨ys, h0, h1, h2⟩, _⟩ := h
  have h' : OwnL 49 w 0 S v xs := ⟨ys, h0, own_base h1 (Nat.zero_le _), h2⟩
  exact (h'.tell (fun _ _ => Nat.zero_le _)).more (fun k hk _ => hk)
theorem Mine.lt {w : World} {B : Nat} {S : Nat → Prop} {v : Value} {xs : List I} (h : Mine w B S v xs) : ∀ g, v.ownBlock = some g → B ≤ g ∧ g < w.heap.size := OwnL.lt h.1
/-- Instructions are laid behind. -/
theorem Mine.app {w : World} {B : Nat} {S : Nat → Prop} {v : Value} {xs ys : List I} (h : Mine w B S v xs) (A : Option Addr) (n c : Nat) (hA : HasL w S A ys) (hn : n = ys.length) (hsz : xs.length + n ≤ 1000000000) (hb : B ≤ w.heap.size) :
    ∃ A' c' w', (Builtin.append_ #[38, 38] 38 #[v, .slice A n c]).run Try.prog w = .ok (.slice A' (xs.length + n) c') w' ∧ Mine w' B S (.slice A' (xs.length + n) c') (xs ++ ys) ∧ Mod (fun g => v.ownBlock = some g) w w' ∧ ∀ g, (Value.slice A' (xs.length + n) c').ownBlock = some g → v.ownBlock = some g ∨ w.heap.size ≤ g := by
  subst hn
  obtain ⟨v', w', hrun, hO, hM, hT⟩ := appendL undIn infIn (by decide) rfl (by decide) w B S v xs ys A ys.length c h.1 hA rfl (by omega) hb (fun g _ hg => (h.2 g hg).2)
  obtain ⟨A', c', e, _⟩ := OwnL.form hO
  rw [List.length_append] at e
  subst e
  exact ⟨A', c', w', hrun, ⟨hO.more (fun g _ hg => hg.1), fun g hg => ⟨Nat.lt_of_lt_of_le (h.2 g hg).1 hM.size, fun e => by
    rcases hT g e with e | e
    · exact (h.2 g hg).2 e
    · have := (h.2 g hg).1; omega⟩⟩, hM, hT⟩
/-- A literal of one instruction is laid behind. -/
theorem Mine.app1 {w : World} {B : Nat} {S : Nat → Prop} {v : Value} {xs : List I} (h : Mine w B S v xs) (x : I) (hx : x.wf ∧ x.l = []) (L : Nat) (hL : w.heap[L]? = some (.cells (insCells x none 0).toArray 49 (0, 0))) (hne : v.ownBlock ≠ some L) (hsz : xs.length + 1 ≤ 1000000000) (hb : B ≤ w.heap.size) :
    ∃ A' c' w', (Builtin.append_ #[38, 38] 38 #[v, .slice (some ⟨L, 0, none⟩) 1 1]).run Try.prog w = .ok (.slice A' (xs.length + 1) c') w' ∧ Mine w' B (fun g => S g ∨ g = L) (.slice A' (xs.length + 1) c') (xs ++ [x]) ∧ Mod (fun g => v.ownBlock = some g) w w' ∧ ∀ g, (Value.slice A' (xs.length + 1) c').ownBlock = some g → v.ownBlock = some g ∨ w.heap.size ≤ g := by
  have hLs : L < w.heap.size := (Array.getElem?_eq_some_iff.1 hL).1
  have hA : HasL w (fun g => S g ∨ g = L) (some ⟨L, 0, none⟩) [x] := fun k y hk => by
    cases k with
    | zero =>
      simp at hk
      subst hk
      refine ⟨L, 0, insCells x none 0, rfl, .inr rfl, hLs, ⟨none, 0, rfl, hx.1, by simp [hx.2], by unfold maxLen; omega, by rw [hx.2]; exact HasU.nil _ _ _⟩, fun j u hj => ?_⟩
      rw [cell_of_row w L _ _ _ (0, 0) hL]
      simpa using hj
    | succ k => simp at hk
  have h' : Mine w B (fun g => S g ∨ g = L) v xs := ⟨h.1.more (fun g _ hg => .inl hg), fun g hg => by
    rcases hg with hg | hg
    · exact h.2 g hg
    · subst hg; exact ⟨hLs, hne⟩⟩
  exact h'.app (some ⟨L, 0, none⟩) 1 1 hA rfl hsz hb
end Go.Proofs.Ytakbehoglgebmaa
/-
  Layer 10's statements: rows of instructions that a law makes, apart from what was there.
-/
namespace Go.Proofs.Ytakbehoglgebmaa
open Go.RowKit Ins Bin Sp
/-- A row of instructions made since there were N blocks; labels that were there lie below B. -/
def Made (N B : Nat) (w : World) (v : Value) (xs : List I) : Prop := ∃ S, Mine w B S v xs ∧ (∀ k, k < B → S k) ∧ (∀ k, S k → k < B ∨ N ≤ k) ∧ ∀ k, v.ownBlock = some k → N ≤ k
section
variable {N B n : Nat} {w w' : World} {v : Value} {xs : List I}
theorem Made.lit0 (w : World) (N B : Nat) (hN : N ≤ w.heap.size) (hB : B ≤ w.heap.size) : Made N B (w.alloc (.cells #[] 49)) (.slice (some ⟨w.heap.size, 0, none⟩) 0 0) [] :=
  ⟨_, Mine.lit0 w B hB, fun _ h => h, fun _ h => .inl h, fun k hk => by simp [Value.ownBlock] at hk; omega⟩
theorem Made.lit1 (w : World) (N B : Nat) (hN : N ≤ w.heap.size) (hB : B ≤ w.heap.size) (x : I) (hx : x.wf ∧ x.l = []) : Made N B (w.alloc (.cells (insCells x none 0).toArray 49)) (.slice (some ⟨w.heap.size, 0, none⟩) 1 1) [x] :=
  ⟨_, Mine.lit1 w B hB x hx, fun _ h => h, fun _ h => .inl h, fun k hk => by simp [Value.ownBlock] at hk; omega⟩
theorem Made.on (h : Made N B w v xs) (hb : Below w.heap.size w w') : Made N B w' v xs := by
  obtain ⟨S, h1, h2⟩ := h
  exact ⟨S, h1.on hb, h2⟩
theorem Made.slice (h : Made N B w v xs) : SliceV w (· < w.heap.size) xs v := by
  obtain ⟨S, h1, _⟩ := h
  exact h1.slice
theorem Made.store {Z : Nat} (h : Made N B w v xs) (hm : Mod (· = Z) w w') (h1 : B ≤ Z) (h2 : Z < N) : Made N B w' v xs := by
  obtain ⟨S, q1, q2, q3, q4⟩ := h
  exact ⟨S, q1.mod hm (fun g hg e => by have := q4 g hg; omega) (fun k hk e => by rcases q3 k hk with h | h <;> omega), q2, q3, q4⟩
theorem Made.app {ys : List I} (h : Made N B w v xs) (hN : N ≤ w.heap.size) (hB : B ≤ w.heap.size) (A : Option Addr) (c : Nat) (hA : HasL w (· < B) A ys) (hn : n = ys.length) (hsz : xs.length + n ≤ 1000000000) :
    ∃ A' c' w', (Builtin.append_ #[38, 38] 38 #[v, .slice A n c]).run Try.prog w = .ok (.slice A' (xs.length + n) c') w' ∧ Made N B w' (.slice A' (xs.length + n) c') (xs ++ ys) ∧ Below N w w' := by
  obtain ⟨S, q1, q2, q3, q4⟩ := h
  obtain ⟨A', c', w', hrun, hM, hmod, hT⟩ := q1.app A n c (hA.more (fun k _ hk => q2 k hk)) hn hsz hB
  exact ⟨A', c', w', hrun, ⟨S, hM, q2, q3, fun k hk => by
    rcases hT k hk with h | h
    · exact q4 k h
    · omega⟩, hmod.below hN (fun k hk e => by have := q4 k e; omega)⟩
theorem Made.app1 (h : Made N B w v xs) (hN : N ≤ w.heap.size) (hB : B ≤ w.heap.size) (x : I) (hx : x.wf ∧ x.l = []) (L : Nat) (hL : w.heap[L]? = some (.cells (insCells x none 0).toArray 49 (0, 0))) (hNL : N ≤ L) (hne : v.ownBlock ≠ some L) (hsz : xs.length + 1 ≤ 1000000000) :
    ∃ A' c' w', (Builtin.append_ #[38, 38] 38 #[v, .slice (some ⟨L, 0, none⟩) 1 1]).run Try.prog w = .ok (.slice A' (xs.length + 1) c') w' ∧ Made N B w' (.slice A' (xs.length + 1) c') (xs ++ [x]) ∧ Below N w w' := by
  obtain ⟨S, q1, q2, q3, q4⟩ := h
  obtain ⟨A', c', w', hrun, hM, hmod, hT⟩ := q1.app1 x hx L hL hne hsz hB
  exact ⟨A', c', w', hrun, ⟨_, hM, fun k hk => .inl (q2 k hk), fun k hk => by
    rcases hk with hk | hk
    · exact q3 k hk
    · exact .inr (by omega), fun k hk => by
    rcases hT k hk with h | h
    · exact q4 k h
    · omega⟩, hmod.below hN (fun k hk e => by have := q4 k e; omega)⟩
end
theorem HasL.old {w w' : World} {B : Nat} {A : Option Addr} {xs : List I} (h : HasL w (· < w.heap.size) A xs) (hb : Below w.heap.size w w') (hB : B = w.heap.size) : HasL w' (· < B) A xs := by
  subst hB
  exact h.mod (T := fun _ => False) (Mod.of_below hb) (fun _ _ _ h => h)
/-- What a row of instructions has from k on. -/
theorem HasL.from {w : World} {S : Nat → Prop} {g o : Nat} {xs : List I} (h : HasL w S (some ⟨g, o, none⟩) xs) (k : Nat) : HasL w S (some ⟨g, o + k * 5, none⟩) (xs.drop k) := fun j x hx => by
  rw [List.getElem?_drop] at hx
  obtain ⟨g', o', cs, e, h1, h2, h3, h4⟩ := h (k + j) x hx
  injection e with e
  injection e with e1 e2 _
  subst e1 e2
  refine ⟨g, o + k * 5, cs, rfl, h1, h2, h3, fun i u hi => ?_⟩
  have := h4 i u hi
  have e : o + (k + j) * Lay.size I + i = o + k * 5 + j * Lay.size I + i := by
    show o + (k + j) * 5 + i = o + k * 5 + j * 5 + i
    omega
  rw [e] at this
  exact this
theorem HasL.upto {w : World} {S : Nat → Prop} {A : Option Addr} {xs : List I} (h : HasL w S A xs) (k : Nat) : HasL w S A (xs.take k) := fun j x hx => h j x (by
  rw [List.getElem?_take] at hx
  split at hx
  · exact hx
  · cases hx)
theorem nop_ok : Bo.nop.wf ∧ Bo.nop.l = [] := wfB_of (xs := [Bo.nop]) (by decide) _ (by simp)
theorem bad_ok : Bo.bad.wf ∧ Bo.bad.l = [] := wfB_of (xs := [Bo.bad]) (by decide) _ (by simp)
theorem endI_ok : Bo.endI.wf ∧ Bo.endI.l = [] := wfB_of (xs := [Bo.endI]) (by decide) _ (by simp)
section
variable {w : World} {N B n1 n2 : Nat} {pre suf : List I} {A1 A2 : Option Addr} {c1 c2 : Nat} {x : I}
/-- Rows laid one behind the other, around a literal of one instruction that is there before. -/
theorem chain_two {W : World} {v : Value} {L : Nat} (hM : Made N B W v []) (hN : N ≤ W.heap.size) (hB : B ≤ W.heap.size) (hx : x.wf ∧ x.l = []) (hp : HasL W (· < B) A1 pre) (hn1 : n1 = pre.length) (hn2 : n2 = suf.length) (hsz : n1 + n2 ≤ 100000000) (hBN : B ≤ N)
    (hs : HasL W (· < B) A2 suf) (hL : W.heap[L]? = some (.cells (insCells x none 0).toArray 49 (0, 0))) (hNL : N ≤ L) (hne : v.ownBlock ≠ some L) :
    ∃ A5 c5 w5 A6 c6 w6 A7 c7 w7, (Builtin.append_ #[38, 38] 38 #[v, .slice A1 n1 c1]).run Try.prog W = .ok (.slice A5 n1 c5) w5 ∧
      (Builtin.append_ #[38, 38] 38 #[.slice A5 n1 c5, .slice (some ⟨L, 0, none⟩) 1 1]).run Try.prog w5 = .ok (.slice A6 (n1 + 1) c6) w6 ∧
      (Builtin.append_ #[38, 38] 38 #[.slice A6 (n1 + 1) c6, .slice A2 n2 c2]).run Try.prog w6 = .ok (.slice A7 (n1 + 1 + n2) c7) w7 ∧
      Made N B w7 (.slice A7 (n1 + 1 + n2) c7) (pre ++ [x] ++ suf) ∧ Below N W w5 ∧ Below N W w6 ∧ Below N W w7 := by
  subst hn1 hn2
  obtain ⟨S, q1, q2, q3, q4⟩ := hM
  obtain ⟨A5, c5, w5, hr5, hM5, hmod5, hT5⟩ := q1.app A1 pre.length c1 (hp.more (fun k _ hk => q2 k hk)) rfl (by simp; omega) hB
  simp only [List.length_nil, Nat.zero_add, List.nil_append] at hr5 hM5 hT5
  have hb5 : Below N W w5 := hmod5.below hN (fun k hk e => by have := q4 k e; omega)
  have hMd5 : Made N B w5 (.slice A5 pre.length c5) pre := ⟨S, hM5, q2, q3, fun k hk => by
    rcases hT5 k hk with h | h
    · exact q4 k h
    · omega⟩
  have hL5 : w5.heap[L]? = some (.cells (insCells x none 0).toArray 49 (0, 0)) := hmod5.heap hL hne
  obtain ⟨A6, c6, w6, hr6, hM6, hb6⟩ := hMd5.app1 (Nat.le_trans hN hb5.size) (Nat.le_trans hB hb5.size) x hx L hL5 hNL (fun e => by
    rcases hT5 L e with h | h
    · exact hne h
    · have := (Array.getElem?_eq_some_iff.1 hL).1; omega) (by omega)
  have hb56 := hb5.trans hb6
  have hs6 : HasL w6 (· < B) A2 suf := hs.mod (T := (N ≤ ·)) ⟨hb56.os, hb56.tape, hb56.output, hb56.size, fun k _ ht => hb56.block k (Nat.lt_of_not_le ht)⟩ (fun k _ hk e => by have hk' : k < B := hk; have e' : N ≤ k := e; omega)
  obtain ⟨A7, c7, w7, hr7, hM7, hb7⟩ := hM6.app (Nat.le_trans hN hb56.size) (Nat.le_trans hB hb56.size) A2 c2 hs6 rfl (by simp; omega)
  rw [show (pre ++ [x]).length = pre.length + 1 by simp] at hr7 hM7
  exact ⟨A5, c5, w5, A6, c6, w6, A7, c7, w7, hr5, hr6, hr7, hM7, hb5, hb56, hb56.trans hb7⟩
theorem chain_mid {W : World} {v : Value} (hM : Made N B W v []) (hN : N ≤ W.heap.size) (hB : B ≤ W.heap.size) (hx : x.wf ∧ x.l = []) (hp : HasL W (· < B) A1 pre) (hn1 : n1 = pre.length) (hn2 : n2 = suf.length) (hsz : n1 + n2 ≤ 100000000) (hBN : B ≤ N)
    (hs : HasL W (· < B) A2 suf) :
    ∃ A5 c5 w5 A6 c6 w6 A7 c7 w7, (Builtin.append_ #[38, 38] 38 #[v, .slice A1 n1 c1]).run Try.prog W = .ok (.slice A5 n1 c5) w5 ∧
      (Builtin.append_ #[38, 38] 38 #[.slice A5 n1 c5, .slice (some ⟨w5.heap.size, 0, none⟩) 1 1]).run Try.prog (w5.alloc (.cells (insCells x none 0).toArray 49)) = .ok (.slice A6 (n1 + 1) c6) w6 ∧
      (Builtin.append_ #[38, 38] 38 #[.slice A6 (n1 + 1) c6, .slice A2 n2 c2]).run Try.prog w6 = .ok (.slice A7 (n1 + 1 + n2) c7) w7 ∧
      Made N B w7 (.slice A7 (n1 + 1 + n2) c7) (pre ++ [x] ++ suf) ∧ Below N W w5 ∧ Below N W w6 ∧ Below N W w7 := by
  subst hn1 hn2
  obtain ⟨A5, c5, w5, hr5, hM5, hb5⟩ := hM.app hN hB A1 c1 hp rfl (by simp; omega)
  simp only [List.length_nil, Nat.zero_add, List.nil_append] at hr5 hM5
  have hba : Below w5.heap.size w5 (w5.alloc (.cells (insCells x none 0).toArray 49)) := (Below.refl _ _).alloc (Nat.le_refl _) _
  have hN5 := Nat.le_trans hN hb5.size
  have hB5 := Nat.le_trans hB hb5.size
  have hlt : ∀ k, (Value.slice A5 pre.length c5).ownBlock = some k → k < w5.heap.size := by
    obtain ⟨S, q1, _⟩ := hM5
    exact fun k hk => (q1.lt k hk).2
  obtain ⟨A6, c6, w6, hr6, hM6, hb6⟩ := (hM5.on hba).app1 (Nat.le_trans hN5 hba.size) (Nat.le_trans hB5 hba.size) x hx w5.heap.size (heap_alloc_new w5 _) hN5 (fun e => by have := hlt _ e; omega) (by omega)
  have hb56 := (hb5.trans (hba.mono hN5)).trans hb6
  have hs6 : HasL w6 (· < B) A2 suf := hs.mod (T := (N ≤ ·)) ⟨hb56.os, hb56.tape, hb56.output, hb56.size, fun k _ ht => hb56.block k (Nat.lt_of_not_le ht)⟩ (fun k _ hk e => by have hk' : k < B := hk; have e' : N ≤ k := e; omega)
  obtain ⟨A7, c7, w7, hr7, hM7, hb7⟩ := hM6.app (Nat.le_trans hN hb56.size) (Nat.le_trans hB hb56.size) A2 c2 hs6 rfl (by simp; omega)
  rw [show (pre ++ [x]).length = pre.length + 1 by simp] at hr7 hM7
  exact ⟨A5, c5, w5, A6, c6, w6, A7, c7, w7, hr5, hr6, hr7, hM7, hb5, hb56, hb56.trans hb7⟩
end
end Go.Proofs.Ytakbehoglgebmaa
