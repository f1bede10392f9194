/-
  The program's All and Parts: a copy of the body; a range over a method's value, each part appended. (gen/part/all.py)
-/
import Derived.Test.YtknnkmakfcfnjaaDoorPartEach
import Derived.Test.YtknnkmakfcfnjaaDoorLayRow
import Derived.Lib.SliceRun
namespace Go.Proofs.YtknnkmakfcfnjaaDoor
open Go.RowKit Ins Go.Shelf
/-- A row of the call's own reads, whatever else it refers to. -/
theorem OwnL.tellS {α : Type} [Lay α] {t : TypeId} {w : World} {base : Nat} {S S' : Nat → Prop} {v : Value} {xs : List α} (h : OwnL t w base S v xs) (hs : ∀ g, S g → S' g) (ho : ∀ g, base ≤ g → S' g) : SliceV w S' xs v := by
  obtain ⟨ys, h0, h1, h2⟩ := h
  rcases h1.2 with ⟨rfl, h3⟩ | ⟨g, cap, cur, rfl, hb, hh, hc, hm, hcs, htk⟩
  · obtain rfl : xs = [] := List.eq_nil_of_length_eq_zero h3
    exact SliceV.nil _ _
  · refine ⟨_, cap, rfl, hc, hm, fun e => (by cases e), fun k x hk => ?_⟩
    rw [← h0, List.getElem?_map, Option.map_eq_some_iff] at hk
    obtain ⟨y, hy, rfl⟩ := hk
    refine ⟨g, 0, y.2, rfl, ho g hb, (Array.getElem?_eq_some_iff.1 hh).1, Lay.more (h2 y (List.mem_of_getElem? hy)) (fun g _ hg => hs g hg), fun j u hj => ?_⟩
    have := h1.cells (g := g) rfl (k * Lay.size α + j) u (flat_at ys h2 k y hy j u hj)
    rw [addr_at] at this
    rwa [← Nat.add_assoc] at this
set_option maxRecDepth 100000 in
set_option maxHeartbeats 4000000 in
/-- Clone: a row of the call's own, where it isn't nil. -/
theorem pclone_any (xs : List I) (S : Nat → Prop) (A : Option Addr) (n c : Nat) (w : World) (hn : n = xs.length) (hs : n ≤ 1000000) (hcp : CapOk A n c) (hL : HasL w S A xs) (hS : ∀ b, S b → b < w.heap.size) :
    Calls Tryd.prog 16 #[.slice A n c] w fun e w' => ∃ A' c', e = .returned (.slice A' n c') ∧ CapOk A' n c' ∧ HasL w' (fun b => S b ∨ w.heap.size ≤ b) A' xs ∧ Below w.heap.size w w' := by
  obtain ⟨h1, h2, h3⟩ := hcp
  cases A with
  | none =>
    obtain rfl := h3 rfl
    obtain rfl : n = 0 := by omega
    obtain rfl : xs = [] := List.eq_nil_of_length_eq_zero hn.symm
    clear h1 h2 h3 hL hs hn hS
    have heq := Lib.run_eql_slice_nil (P := Tryd.prog) w 22 41 none 0 0 0 0 undIn
    go_enter Tryd.func16, Tryd.ntmps16
    go_wp2_with fail
    go_ret
    exact ⟨_, _, rfl, ⟨Nat.le_refl _, Nat.zero_le _, fun _ => rfl⟩, HasL.nil _ _ _, Below.refl _ _⟩
  | some a =>
    have hb0 : Below w.heap.size w (w.alloc (.cells #[] 41)) := (Below.refl _ _).alloc (Nat.le_refl _) _
    have hO := OwnL.lit0 (α := I) 41 w w.heap.size S (Nat.le_refl _)
    obtain ⟨v5, w5, hrun, hO5, hM5, hT5⟩ := appendL undIn infIn (by decide) rfl (by decide) (w.alloc (.cells #[] 41)) w.heap.size S (.slice (some ⟨w.heap.size, 0, none⟩) 0 0) [] xs (some a) n c hO (hL.on hb0) hn (by simp; omega) hb0.size (fun g _ hg e => by have := hS g hg; simp [Value.ownBlock] at e; omega)
    have HRUN := Lib.hid hrun
    have hB : Below w.heap.size w w5 := hb0.trans (hM5.below hb0.size (fun k hk e => by simp [Value.ownBlock] at e; omega))
    have hO6 : OwnL 41 w5 w.heap.size S v5 xs := hO5.more (fun g _ hg => hg.1)
    obtain ⟨A', c', e', q1, q2, q3, q4⟩ := hO6.tellS (S' := fun b => S b ∨ w.heap.size ≤ b) (fun _ h => .inl h) (fun _ h => .inr h)
    subst e'
    rw [← hn] at q1 HRUN
    have HC : Hid (CapOk A' n c') := Lib.hid ⟨q1, by unfold maxLen at q2; omega, q3⟩
    have HL := Lib.hid q4
    have HB := Lib.hid hB
    clear hrun hO5 hM5 hT5 hB hO hb0 hL h1 h2 h3 hs hO6 q1 q2 q3 q4 hn
    have heq := Lib.run_eql_slice_nil (P := Tryd.prog) w 22 41 (some a) n c 0 0 undIn
    go_enter Tryd.func16, Tryd.ntmps16
    go_wp2_with (at_builtin; refine wpList_appends rfl (.tmp 5) (.tmp 6) 22 rfl _ _ _ w5 rfl rfl HRUN.out ?_)
    go_ret
    exact ⟨_, _, rfl, HC.out, HL.out, HB.out⟩
theorem pall_any (xs : List I) (S : Nat → Prop) (A : Option Addr) (n c : Nat) (w : World) (hn : n = xs.length) (hs : n ≤ 1000000) (hcp : CapOk A n c) (hL : HasL w S A xs) (hS : ∀ b, S b → b < w.heap.size) :
    Calls Tryd.prog 11 #[.slice A n c] w fun e w' => ∃ A' c', e = .returned (.func (.func 14) #[.slice A' n c'] #[]) ∧ CapOk A' n c' ∧ HasL w' (fun b => S b ∨ w.heap.size ≤ b) A' xs ∧ Below w.heap.size w w' := by
  have HC := Lib.hid (pclone_any xs S A n c w hn hs hcp hL hS)
  clear hn hs hcp hL hS
  go_enter Tryd.func11, Tryd.ntmps11
  go_wp2_with (go_at_call 16; refine HC.out.mono ?_; rintro e w2 ⟨A', c', rfl, q1, q2, q3⟩; have HQ1 := Lib.hid q1; have HQ2 := Lib.hid q2; have HQ3 := Lib.hid q3; clear q1 q2 q3)
  go_ret
  exact ⟨_, _, rfl, HQ1.out, HQ2.out, HQ3.out⟩
theorem wpListIn_appends {F : Fence} {n : Nat} {P : Program} {w : World} {ops : Array Oper} {rest : List Oper} {o : Oper} {a : Act} {Q : Exit → Act → World → Prop} (hgd : o.guard = none) (s x : Operand) (t : TypeId)
    (ho : o.op = .call { callee := .builtin .append, args := #[s, x], argTypes := #[t, t] }) (v u r : Value) (w' : World) (hs : a.eval s = v) (hx : a.eval x = u)
    (hrun : (Builtin.append_ #[t, t] o.type #[v, u]).run P w = .ok r w') (h : wpListIn F n P ops Q rest (a.put o.dst r) w') : wpListIn F n P ops Q (o :: rest) a w := by
  refine wpListIn_plain hgd fun K hK => ?_
  refine ⟨fun f hf => ?_, ?_⟩
  · simp [Oper.about, ho, resolve, Target.leads, Sem.run_pure] at hf
  · rw [Oper.semAt_plain F a.eval o (by rw [ho]; intro c h; cases h)]
    unfold execOp
    simp only [ho, resolve, invoke, builtin, Sem.run_bind, Sem.run_pure, Result.andThen_ok, List.map_toArray, List.map_cons, List.map_nil, hs, hx, hrun]
    exact hK _ _ h
attribute [local go_sem] Oper.semAt_some
set_option maxRecDepth 100000 in
set_option maxHeartbeats 4000000 in
theorem pparts_any (xs : List I) (S : Nat → Prop) (A : Option Addr) (n c : Nat) (w : World) (hn : n = xs.length) (hs : n ≤ 1000000) (hcp : CapOk A n c) (hL : HasL w S A xs) (hT : TbC w) :
    Calls Tryd.prog 7 #[.slice A n c] w fun e w' => ∃ A' c', e = .returned (.slice A' (Pa.parts xs).length c') ∧ HasL w' (w.heap.size ≤ ·) A' (Pa.parts xs) ∧ Below w.heap.size w w' := by
  have HGO : Hid (∀ (W : World), Below w.heap.size w W → ∀ (m : Nat), GoesOwn Fence.wide m Tryd.prog 14 (.slice A n c) (fun (p : Pa.P) => #[Value.agg (partCells p).toArray]) (Pa.parts xs) w.heap.size W) := Lib.hid (fun W hb m =>
    (each_flat m xs (· < w.heap.size) (w.heap.size ≤ ·) A n c w.heap.size W hn hs hcp ((hL.more (S' := (· < w.heap.size)) (fun k hk _ => hk)).on hb) (fun V hV => hT.on (hb.trans hV)) hb.size (fun b hb => ⟨hb, Nat.not_lt_of_le hb⟩)).own)
  have HPL : Hid ((Pa.parts xs).length ≤ 1000000) := Lib.hid (by have := Pa.parts_len xs; omega)
  have HX := Lib.hid (heap_alloc_new w (.cells #[.slice none 0 0] 24))
  have HB := Lib.hid ((Below.refl w.heap.size w).alloc (Nat.le_refl _) (.cells #[.slice none 0 0] 24))
  clear hL hT hn hs hcp
  refine (callsIn_wide (n := 6)).1 (callsIn_of_wp_marks Tryd.func7 rfl trivial ?_ rfl)
  refine wpIn_wide.2 ?_
  simp only [Tryd.ntmps7, List.size_toArray, List.length_cons, List.length_nil, Nat.reduceAdd, Nat.reduceSub, Array.replicate_succ, Array.replicate_zero, List.push_toArray, List.append_toArray, List.nil_append, List.cons_append]
  go_upto_region 2 with fail
  generalize w.alloc (.cells #[.slice none 0 0] 24) = w8 at HX HB ⊢
  obtain ⟨X, hX⟩ : ∃ X, w.heap.size = X := ⟨_, rfl⟩
  have HXS := Lib.hid hX
  rw [hX] at HX
  simp only [hX]
  clear hX
  have hX8 : X < w8.heap.size := (Array.getElem?_eq_some_iff.1 HX.out).1
  go_wp2_with fail
  have HX8 := Lib.hid HX.out
  have HD8 := Lib.hid HB.out
  clear HX HB
  have hB0 : w.heap.size ≤ w8.heap.size := HD8.out.size
  obtain ⟨S8, hS8⟩ : ∃ S8, w8.heap.size = S8 := ⟨_, rfl⟩
  refine (wpIn_wide (n := 6)).1 (wpIn_range_own (F := Fence.wide) (n := 6) (xs := Pa.parts xs) (B0 := w.heap.size) (gf := 14) (rv := .slice A n c) (encs := fun (p : Pa.P) => #[Value.agg (partCells p).toArray]) rfl (by decide) rfl trivial (fun _ _ => rfl) hB0 (HGO.out w8 HD8.out 5) (fun _ => rfl)
    (fun k T W => ∃ v, W.heap[X]? = some (.cells #[v] 24 (0, 0)) ∧ OwnL 31 W (X + 1) (fun _ => False) v ((Pa.parts xs).take k) ∧ (∀ g, v.ownBlock = some g → ¬ T g ∧ g ≠ w8.heap.size ∧ g ≠ w8.heap.size + 1) ∧ Below w.heap.size w W)
    (fun _ _ _ _ => False)
    ?hI (fun _ _ _ _ _ _ h => h.elim) ⟨_, HX8.out, OwnL.nil _ _ _ _, fun g h => (by cases h), HD8.out⟩
    (fun k p T a₁ W => ∃ v Z, W.heap[X]? = some (.cells #[v] 24 (0, 0)) ∧ OwnL 31 W (X + 1) (fun _ => False) v ((Pa.parts xs).take k) ∧ (∀ g, v.ownBlock = some g → ¬ T g ∧ g ≠ w8.heap.size ∧ g ≠ w8.heap.size + 1) ∧ Below w.heap.size w W ∧ W.heap[Z]? = some (.cells #[.int .i64 (p.at_ : Int), .int .i64 (p.to : Int), .int .u64 (p.cost : Int)] 31 (0, 0)) ∧ w8.heap.size + 2 ≤ Z ∧
      a₁ = { tmps := #[(.slice A n c : Value), undef, .slice none 0 0, .pointer (some ⟨X, 0, none⟩), .pointer (some ⟨Z, 0, none⟩), .slice A n c, .func (.func 14) #[.slice A n c] #[], (.agg #[.int .i64 (p.at_ : Int), .int .i64 (p.to : Int), .int .u64 (p.cost : Int)]), undef, undef, undef, undef, undef], defers := [] })
    ?hAx ?assign ?body ?done (fun _ _ _ _ _ h => h.elim))
  case hI =>
    rintro k T T' U V ⟨v, h1, h2, h3, h4⟩ hs hm hg hT'
    have hXT : ¬ (T X ∨ X = w8.heap.size ∨ X = w8.heap.size + 1) := by
      rintro (h | h | h)
      · have := hT' _ (hg.1 _ h); omega
      · omega
      · omega
    refine ⟨v, hm.heap h1 hXT, h2.mod hm (fun g hg2 h => ?_) (fun _ _ h => h.elim), fun g hg2 => ⟨fun ht => ?_, (h3 g hg2).2⟩, h4.trans (hm.below h4.size (fun b hb ht => ?_))⟩
    · have := h3 g hg2
      rcases h with h | h | h
      · exact this.1 h
      · exact this.2.1 h
      · exact this.2.2 h
    · rcases hg.2.1 g ht with h | h
      · exact (h3 g hg2).1 h
      · have := (h2.lt g hg2).2; omega
    · rcases ht with h | h | h
      · have := hT' _ (hg.1 _ h); omega
      · omega
      · omega
  case hAx =>
    rintro k p T a₁ U V ⟨v, Z, h1, h2, h3, h4, h5, h6, h7⟩ hm
    exact ⟨v, Z, hm.heap h1 (by omega), h2.mod hm (fun g hg h => (h3 g hg).2.2 h) (fun _ _ h => h.elim), h3, h4.trans (hm.below h4.size (fun b hb ht => by omega)), hm.heap h5 (by omega), h6, h7⟩
  case assign =>
    rintro l k p T W hx ⟨v, h1, h2, h3, h4⟩ hle hG
    simp only [partCells]
    gi_wp2
    have hb : Below W.heap.size W (W.alloc (.cells #[.int .i64 (p.at_ : Int), .int .i64 (p.to : Int), .int .u64 (p.cost : Int)] 31)) := (Below.refl _ _).alloc (Nat.le_refl _) _
    have hXW : X < W.heap.size := (Array.getElem?_eq_some_iff.1 h1).1
    exact ⟨⟨v, W.heap.size, (hb.block X hXW).trans h1, own_next h2 hb, h3, h4.trans (hb.mono h4.size), heap_alloc_new W _, hle, rfl⟩, below_self_mod hb _⟩
  case body =>
    rintro l k p T a₁ W hx ⟨v, Z, h1, h2, h3, h4, h5, h6, rfl⟩ hle hG
    have hkm : k < (Pa.parts xs).length := (List.getElem?_eq_some_iff.1 hx).1
    have hXW : X < W.heap.size := (Array.getElem?_eq_some_iff.1 h1).1
    obtain ⟨v', w3, hrun, hO3, hM3, hT3⟩ := append1L undPa infPa (by decide) rfl (by decide) W (X + 1) (fun _ => False) v ((Pa.parts xs).take k) p [.int .i64 (p.at_ : Int), .int .i64 (p.to : Int), .int .u64 (p.cost : Int)] h2 (by rw [List.length_take]; have := HPL.out; omega) hXW (by show _ = partCells _; simp [partCells]) (by simp; exact ⟨rfl, rfl, rfl⟩) (fun _ _ h => h.elim)
    have hT1 : (Pa.parts xs).take k ++ [p] = (Pa.parts xs).take (k + 1) := by rw [List.take_add_one, hx]; rfl
    rw [hT1] at hO3
    obtain ⟨A3, c3, e3, _⟩ := (hO3.more (S' := fun _ => False) (fun _ _ h => h.1.elim)).tell (fun _ h => h.elim)
    rw [show ((Pa.parts xs).take (k + 1)).length = k + 1 by rw [List.length_take]; omega] at e3
    subst e3
    have hXv : ¬ v.ownBlock = some X := fun h => by have := (h2.lt X h).1; omega
    have h31 := hM3.heap h1 hXv
    have cl := cellP h1 0 _ rfl
    have z0 := cellP h5 0 _ rfl
    have z1 := cellP h5 1 _ rfl
    have z2 := cellP h5 2 _ rfl
    have fl := frozen_of_row w3 X 0 _ _ h31
    have cl3 := cellP h31 0 _ rfl
    have HI : Hid (Mod (Outs w.heap.size w8.heap.size T) W (w3.setCell ⟨X, 0, none⟩ (.slice A3 (k + 1) c3)) ∧ ∃ v, (w3.setCell ⟨X, 0, none⟩ (.slice A3 (k + 1) c3)).heap[X]? = some (.cells #[v] 24 (0, 0)) ∧ OwnL 31 (w3.setCell ⟨X, 0, none⟩ (.slice A3 (k + 1) c3)) (X + 1) (fun _ => False) v ((Pa.parts xs).take (k + 1)) ∧ (∀ g, v.ownBlock = some g → ¬ T g ∧ g ≠ w8.heap.size ∧ g ≠ w8.heap.size + 1) ∧ Below w.heap.size w (w3.setCell ⟨X, 0, none⟩ (.slice A3 (k + 1) c3))) := Lib.hid (by
      have hXT : ¬ T X := fun h => by have := (hG X h).1; omega
      have hown : ∀ g, (Value.slice A3 (k + 1) c3).ownBlock = some g → ¬ T g ∧ g ≠ w8.heap.size ∧ g ≠ w8.heap.size + 1 := fun g hg => by
        rcases hT3 g hg with h | h
        · exact h3 g h
        · exact ⟨fun ht => by have := (hG g ht).2; omega, by omega, by omega⟩
      have hM4 : Mod (Outs w.heap.size w8.heap.size T) W (w3.setCell ⟨X, 0, none⟩ (.slice A3 (k + 1) c3)) := Mod.setCell (hM3.more (fun g hg h => ⟨by have := (h2.lt g h).1; rw [← HXS.out] at this; omega, h3 g h⟩)) (fun _ => ⟨by rw [HXS.out]; exact Nat.le_refl _, hXT, by show ¬ X = _; omega, by show ¬ X = _; omega⟩) (.slice A3 (k + 1) c3)
      refine ⟨hM4, (.slice A3 (k + 1) c3), set_heap h31 0 (.slice A3 (k + 1) c3), (hO3.more (fun _ _ h => h.1.elim)).mod (Mod.setCell (T := fun b => b = X) (p := ⟨X, 0, none⟩) (Mod.refl _ w3) (fun _ => rfl) (.slice A3 (k + 1) c3)) (fun g hg h => by have := (hO3.lt g hg).1; omega) (fun _ _ h => h.elim), hown, h4.trans (hM4.below h4.size (fun b hb h => by have := h.1; omega))⟩)
    clear h1 h2 h3 h4 h5 h31 hO3 hM3 hT3 hT1 hXv hx
    have HRUN := Lib.hid hrun
    clear hrun
    gi_wp2_with (gi_at_builtin; refine wpListIn_appends rfl (.tmp 8) (.tmp 10) 24 rfl _ _ _ w3 rfl rfl HRUN.out ?_)
    exact HI.out
  case done =>
    rintro T W ⟨v, h1, h2, h3, h4⟩ hle hd
    have hS : S8 < W.heap.size := by omega
    have hm := mod_putObj (T := fun b => b = w8.heap.size) (Mod.refl _ W) rfl (.deferred none)
    have hr := (h2.mod hm (fun g hg h => (h3 g hg).2.1 h) (fun _ _ h => h.elim)).tell (fun _ h => h.elim)
    rw [List.take_length] at hr
    obtain ⟨A', c', rfl, r1, r2, r3, r4⟩ := hr
    have cl := cellP h1 0 _ rfl
    have HDD := Lib.hid hd
    have HR4 := Lib.hid (r4.more (S' := fun b => X ≤ b) (fun g _ h => by have : X + 1 ≤ g := h; omega))
    have HBB := Lib.hid (h4.trans (below_putObj W hB0 (.deferred none)))
    clear h1 h2 h3 h4 hm r1 r2 r3 r4
    go_wp2
    refine ⟨by simp, .inl ⟨_, _, rfl, run_takeDeferred HDD.out, ?_⟩⟩
    refine ⟨_, ?_, A', c', rfl, by rw [HXS.out]; exact HR4.out, HBB.out⟩
    simp [results, Tryd.f7, go_sem]
end Go.Proofs.YtknnkmakfcfnjaaDoor
