/-
  sect.take and sect.mayStand: the section with which bytes begin, and whether it may stand. (gen/sectake.py)
-/
import Derived.Test.YtanhgpdeoffmfaaDoorSecLow
import Derived.Test.YtanhgpdeoffmfaaDoorSecSame
import Derived.Test.YtanhgpdeoffmfaaDoorNmTake
import Derived.Test.YtanhgpdeoffmfaaDoorDrawn
namespace Go.Proofs.YtanhgpdeoffmfaaDoor
open Go.RowKit Sec Leb
/-- What a call of take comes to. -/
def TkPost (A : Option Addr) (l : List UInt8) (c : Nat) (w : World) (e : Ending) (w' : World) : Prop :=
  Below w.heap.size w w' ∧ match hd l with
    | none => e = .returned (.tuple #[.agg #[.int .u8 0, .slice none 0 0], .int .i64 0, .bool false])
    | some (id, own, _) => ∃ A' c', e = .returned (.tuple #[.agg #[.int .u8 (id : Int), .slice A' own.length c'], .int .i64 (hlen l : Int), .bool true]) ∧ own.length ≤ c' ∧ c' ≤ c ∧ (A' = none → c' = 0) ∧ ∀ W B, Has W B A l → Has W B A' own
theorem tkPost_no {A : Option Addr} {l : List UInt8} {c : Nat} {w w' : World} (h : hd l = none) (hb : Below w.heap.size w w') : TkPost A l c w (.returned (.tuple #[.agg #[.int .u8 0, .slice none 0 0], .int .i64 0, .bool false])) w' := ⟨hb, by rw [h]⟩
theorem tkPost_yes {A A' : Option Addr} {l own rest : List UInt8} {c c' id H U : Nat} {z : Int} {w w' : World} (h : hd l = some (id, own, rest)) (hb : Below w.heap.size w w') (hU : own.length = U) (hH : hlen l = H) (hz : z = (H : Int)) (h1 : U ≤ c') (h2 : c' ≤ c) (h3 : A' = none → c' = 0) (h4 : ∀ W B, Has W B A l → Has W B A' own) :
    TkPost A l c w (.returned (.tuple #[.agg #[.int .u8 (id : Int), .slice A' U c'], .int .i64 z, .bool true])) w' := by
  subst hU hH hz
  exact ⟨hb, by rw [h]; exact ⟨A', c', rfl, h1, h2, h3, h4⟩⟩
theorem slot_of {w w1 : World} {o : Obj} (hb : Below (w.alloc o).heap.size (w.alloc o) w1) : w1.heap[w.heap.size]? = some o := (hb.block w.heap.size (by simp)).trans (heap_alloc_new w o)
theorem slot_two {w : World} {g : Nat} {x0 x1 a b : Value} {t : TypeId} (h : w.heap[g]? = some (.cells #[x0, x1] t (0, 0))) : ((w.setCell ⟨g, 0, none⟩ a).setCell ⟨g, 1, none⟩ b).heap[g]? = some (.cells #[a, b] t (0, 0)) := heap_setCell_same _ g 1 _ t b (heap_setCell_same w g 0 _ t a h)
theorem results_cell_two {fn : Func} {p u v : Tmp} {ty : TypeId} (h : fn.results = #[.cell p ty, .tmp u, .tmp v]) (tmps : Array Value) (P : Program) (w : World) :
    (results fn tmps).run P w = ((asAddr (tmps.getD p undef)).run P w).andThen fun a w1 => ((loadVar ty a).run P w1).andThen fun x w2 => .ok (.tuple #[x, tmps.getD u undef, tmps.getD v undef]) w2 := by
  simp only [results, h]
  simp [Sem.run_bind, Result.andThen]
theorem desSec : (Tryd.prog.underlying 35).map (fun d => match d with | .struct _ | .array _ _ => true | _ => false) = some true := by kernel_rfl
theorem sizSec : (Tryd.prog.info? 35).map (·.size) = some 2 := by kernel_rfl
theorem results_sec {fn : Func} {p u v : Tmp} (h : fn.results = #[.cell p 35, .tmp u, .tmp v]) (tmps : Array Value) (w : World) (g : Nat) (c0 c1 : Value) (hp : tmps.getD p undef = .pointer (some ⟨g, 0, none⟩)) (hg : w.heap[g]? = some (.cells #[c0, c1] 35 (0, 0))) :
    (results fn tmps).run Tryd.prog w = .ok (.tuple #[.agg #[c0, c1], tmps.getD u undef, tmps.getD v undef]) w := by
  obtain ⟨d, hd1, hd2⟩ := Option.map_eq_some_iff.1 desSec
  rw [results_cell_two h, hp]
  have h2 := run_loadVar_row (P := Tryd.prog) w g 35 35 #[c0, c1] (0, 0) d hg hd1 (by cases d <;> first | rfl | cases hd2) sizSec
  simp [asAddr, h2, Result.andThen]
set_option maxHeartbeats 1000000 in
theorem stake_any (A : Option Addr) (l : List UInt8) (n c : Nat) (w : World) (hA : Has w w.heap.size A l) (hn : n = l.length) (h0 : 0 < n) (hmax : n ≤ 140737488355328) (hc : n ≤ c) (hcm : c ≤ maxLen) :
    Calls Tryd.prog 23 #[.slice A n c] w (TkPost A l c w) := by
  unfold maxLen at hcm
  have HB0 : Hid (Below w.heap.size w (w.alloc (.cells #[.int .u8 0, .slice none 0 0] 35))) := Lib.hid ((Below.refl _ _).alloc (Nat.le_refl _) _)
  obtain ⟨ad, rfl⟩ := hA.someAddr (by omega)
  obtain ⟨x, r, hl⟩ : ∃ x r, l = x :: r := List.exists_cons_of_ne_nil (by intro e; subst e; simp at hn; omega)
  subst hl
  have hr : r.length = n - 1 := by rw [hn]; simp
  have HNONE : Hid (okU r 32 = false ∨ n < 1 + run r + used r → hd (x :: r) = none) := Lib.hid (fun h => by
    simp only [hd]
    rw [if_neg]
    rintro ⟨h1, h2⟩
    rcases h with h | h
    · rw [h1] at h; cases h
    · omega)
  by_cases hc1 : c = 1
  · obtain rfl : n = 1 := by omega
    subst hc1
    have hr0 : r = [] := List.eq_nil_of_length_eq_zero (by omega)
    subst hr0
    have HC := Lib.hid (fun W (_ : Below w.heap.size w W) => c8 (some ad) [] 0 0 32 W rfl (by omega) (Has.nil _ _ _))
    have e1 : numU [] 32 = 0 := by decide
    have e2 : cntU [] 32 = 0 := by decide
    have e3 : okU [] 32 = false := by decide
    rw [e1, e2, e3] at HC
    have HNO := Lib.hid (HNONE.out (.inl e3))
    clear e1 e2 e3 hr hA HNONE hn
    go_enter Tryd.func23, Tryd.ntmps23
    go_wp2_with (go_at_call 19; refine (HC.out _ HB0.out).mono ?_; rintro e w1 ⟨rfl, hb⟩; have hX := slot_of hb; have HB := Lib.hid (HB0.out.trans (hb.mono (by simp))); clear hb; obtain ⟨z0, z1⟩ := cells2 hX; have f0 := frozen_of_row _ _ 0 _ _ hX; have f1 := frozen_of_row _ _ 1 _ _ hX; have HX := Lib.hid hX; clear hX)
    refine bodyPost_ret (results_sec rfl _ _ _ _ _ rfl (slot_two HX.out)) rfl ?_
    exact tkPost_no HNO.out ((HB.out.setCell (Nat.le_refl _) _).setCell (Nat.le_refl _) _)
  have hck : ¬ (c = 1) := hc1
  have hck2 : ¬ (c - 1 = 0) := by omega
  have HC := Lib.hid (fun W (hb : Below w.heap.size w W) => c8 (some ⟨ad.block, ad.off + 1, none⟩) r (n - 1) (c - 1) 32 W hr.symm (by omega) (by have h := (hA.on hb).from 1; exact h))
  cases hok : okU r 32 with
  | false =>
    have e1 : numU r 32 = 0 := by unfold numU; rw [hok]; rfl
    have e2 : cntU r 32 = 0 := by unfold cntU; rw [hok]; rfl
    rw [e1, e2, hok] at HC
    have HNO := Lib.hid (HNONE.out (.inl hok))
    have hn1 : (1 : Int) ≤ (n : Int) := by omega
    have hcc1 : (1 : Int) ≤ (c : Int) := by omega
    clear e1 e2 hok hr hA HNONE hn
    go_enter Tryd.func23, Tryd.ntmps23
    go_wp2_with (go_at_call 19; refine (HC.out _ HB0.out).mono ?_; rintro e w1 ⟨rfl, hb⟩; have hX := slot_of hb; have HB := Lib.hid (HB0.out.trans (hb.mono (by simp))); clear hb; obtain ⟨z0, z1⟩ := cells2 hX; have f0 := frozen_of_row _ _ 0 _ _ hX; have f1 := frozen_of_row _ _ 1 _ _ hX; have HX := Lib.hid hX; clear hX)
    refine bodyPost_ret (results_sec rfl _ _ _ _ _ rfl (slot_two HX.out)) rfl ?_
    exact tkPost_no HNO.out ((HB.out.setCell (Nat.le_refl _) _).setCell (Nat.le_refl _) _)
  | true =>
    have e1 : numU r 32 = (used r : Int) := by unfold numU; rw [hok]; rfl
    have e2 : cntU r 32 = (run r : Int) := by unfold cntU; rw [hok]; rfl
    rw [e1, e2, hok] at HC
    obtain ⟨hu32, hr1, hr2, _⟩ := okU_32 hok
    have HYES : Hid (1 + run r + used r ≤ n → hd (x :: r) = some (x.toNat, (r.drop (run r)).take (used r), r.drop (run r + used r))) := Lib.hid (fun h => by
      simp only [hd]
      rw [if_pos ⟨hok, by omega⟩])
    obtain ⟨R, hR⟩ : ∃ R, run r = R := ⟨_, rfl⟩
    obtain ⟨U, hU⟩ : ∃ U, used r = U := ⟨_, rfl⟩
    have HHL : Hid (hlen (x :: r) = 1 + R + U) := Lib.hid (by unfold hlen; simp [hR, hU])
    rw [hR, hU] at HC HNONE HYES
    rw [hR] at hr1 hr2
    rw [hU] at hu32
    obtain ⟨S0, hS0⟩ : ∃ S0, S0 = 1 + R := ⟨_, rfl⟩
    have hw0 : (1 : Int) + (R : Int) = (S0 : Int) := by omega
    have hw1 : IntKind.i64.wrap (1 + (R : Int)) = (S0 : Int) := by rw [IntWalk.i64_in _ (by omega)]; exact hw0
    have hsub : IntKind.u64.wrap ((n : Int) - (S0 : Int)) = (n : Int) - (S0 : Int) := IntWalk.u64_in _ (by omega)
    have HS0 := Lib.hid hS0
    have hn1 : (1 : Int) ≤ (n : Int) := by omega
    have hcc1 : (1 : Int) ≤ (c : Int) := by omega
    have hr2' : S0 ≤ n := by omega
    have hr2i : (S0 : Int) ≤ (n : Int) := by omega
    by_cases hlong : n < 1 + R + U
    · have HNO := Lib.hid (HNONE.out (.inr hlong))
      have hl : (n : Int) - (S0 : Int) < (U : Int) := by omega
      clear e1 e2 hok hr hA HNONE hn HYES hR hU HHL hr2 hS0
      go_enter Tryd.func23, Tryd.ntmps23
      go_wp2_with (go_at_call 19; refine (HC.out _ HB0.out).mono ?_; rintro e w1 ⟨rfl, hb⟩; have hX := slot_of hb; have HB := Lib.hid (HB0.out.trans (hb.mono (by simp))); clear hb; obtain ⟨z0, z1⟩ := cells2 hX; have f0 := frozen_of_row _ _ 0 _ _ hX; have f1 := frozen_of_row _ _ 1 _ _ hX; have HX := Lib.hid hX; clear hX)
      refine bodyPost_ret (results_sec rfl _ _ _ _ _ rfl (slot_two HX.out)) rfl ?_
      exact tkPost_no HNO.out ((HB.out.setCell (Nat.le_refl _) _).setCell (Nat.le_refl _) _)
    · have hl : decide ((n : Int) - (S0 : Int) < (U : Int)) = false := decide_eq_false (by omega)
      have hle : 1 + R + U ≤ n := by omega
      have HY := Lib.hid (HYES.out hle)
      have hUw : IntKind.i64.wrap (U : Int) = (U : Int) := IntWalk.i64_in _ (by omega)
      have hcell : w.cell? ad = some (.int .u8 (x.toNat : Int)) := by
        obtain ⟨ad2, e1, _, e3⟩ := hA 0 x rfl
        injection e1 with e1
        subst e1
        exact e3
      have hadb : ad.block < w.heap.size := by
        obtain ⟨ad2, e1, e2, _⟩ := hA 0 x rfl
        injection e1 with e1
        subst e1
        exact e2
      have HCELL : Hid (∀ W, Below w.heap.size w W → W.cell? ad = some (.int .u8 (x.toNat : Int))) := Lib.hid (fun W hb => (hb.cell hadb).trans hcell)
      have HOL : Hid (((r.drop R).take U).length = U) := Lib.hid (by simp; omega)
      have HN := Lib.hid hn
      have HRL := Lib.hid hr
      obtain ⟨E0, hE0⟩ : ∃ E0, E0 = S0 + U := ⟨_, rfl⟩
      have hw2 : (S0 : Int) + (U : Int) = (E0 : Int) := by omega
      have hle1 : S0 ≤ E0 ∧ E0 ≤ n ∧ E0 ≤ c ∧ E0 - S0 = U := by omega
      have hle2 : (E0 : Int) ≤ (c : Int) := by omega
      have hle3 : (S0 : Int) ≤ (E0 : Int) := by omega
      have hle4 : ((S0 : Int)) ≤ (c : Int) := by omega
      obtain ⟨hle5, hle6, hle7, hle8⟩ := hle1
      have HE0 := Lib.hid hE0
      clear hE0
      generalize x.toNat = id at HY HCELL
      clear e1 e2 hok hr hA HNONE hn HYES hR hU hr2 hcell hadb hS0
      go_enter Tryd.func23, Tryd.ntmps23
      go_upto_region 6 with (go_at_call 19; refine (HC.out _ HB0.out).mono ?_; rintro e w1 ⟨rfl, hb⟩; have hX := slot_of hb; have HB := Lib.hid (HB0.out.trans (hb.mono (by simp))); clear hb; obtain ⟨z0, z1⟩ := cells2 hX; have f0 := frozen_of_row _ _ 0 _ _ hX; have f1 := frozen_of_row _ _ 1 _ _ hX; have HX := Lib.hid hX; clear hX)
      have hcd : w1.drew.cell? ad = some (.int .u8 (id : Int)) := HCELL.out _ (HB.out.drew)
      by_cases hq : c = S0
      · have hU0 : U = 0 := by have := HE0.out; omega
        have hqi : (c : Int) = (S0 : Int) := by omega
        obtain rfl : E0 = S0 := by have := HE0.out; omega
        subst hq
        obtain rfl : n = c := by omega
        have HU0 := Lib.hid hU0
        clear hU0
        refine wp_region_held_drew (S := (fun w' => w'.cell? ad = some (.int .u8 (id : Int)))) (by kernel_rfl) (hcd) (fun hHeld => ?_)
        refine drawn_take 0 rfl (by kernel_rfl) (by kernel_rfl) (by kernel_rfl) (fun _ _ _ h => h) (by rfl) (by assumption) (v := ?_) ?_ ?_
        rotate_left
        · (intro wy hSw; (try dsimp only at hSw); go_simp; try with_reducible rfl)
        simp only [Act.put, List.setIfInBounds_toArray, List.set_cons_zero, List.set_cons_succ]
        refine drawn_take 1 rfl (by kernel_rfl) (by kernel_rfl) (by kernel_rfl) (fun _ _ _ h => h) (by rfl) (by assumption) (v := ?_) ?_ ?_
        rotate_left
        · (intro wy hSw; (try dsimp only at hSw); go_simp; try with_reducible rfl)
        simp only [Act.put, List.setIfInBounds_toArray, List.set_cons_zero, List.set_cons_succ]
        refine drawn_take 2 rfl (by kernel_rfl) (by kernel_rfl) (by kernel_rfl) (fun _ _ _ h => h) (by rfl) (by assumption) (v := ?_) ?_ ?_
        rotate_left
        · (intro wy hSw; (try dsimp only at hSw); go_simp; try with_reducible rfl)
        simp only [Act.put, List.setIfInBounds_toArray, List.set_cons_zero, List.set_cons_succ]
        refine drawn_take 3 rfl (by kernel_rfl) (by kernel_rfl) (by kernel_rfl) (fun _ _ _ h => h) (by rfl) (by assumption) (v := ?_) ?_ ?_
        rotate_left
        · (intro wy hSw; (try dsimp only at hSw); go_simp; try with_reducible rfl)
        simp only [Act.put, List.setIfInBounds_toArray, List.set_cons_zero, List.set_cons_succ]
        refine drawn_take 4 rfl (by kernel_rfl) (by kernel_rfl) (by kernel_rfl) (fun _ _ _ h => h) (by rfl) (by assumption) (v := ?_) ?_ ?_
        rotate_left
        · (intro wy hSw; (try dsimp only at hSw); go_simp; try with_reducible rfl)
        simp only [Act.put, List.setIfInBounds_toArray, List.set_cons_zero, List.set_cons_succ]
        refine drawn_take 5 rfl (by kernel_rfl) (by kernel_rfl) (by kernel_rfl) (fun _ _ _ h => h) (by rfl) (by assumption) (v := ?_) ?_ ?_
        rotate_left
        · (intro wy hSw; (try dsimp only at hSw); go_simp; try with_reducible rfl)
        simp only [Act.put, List.setIfInBounds_toArray, List.set_cons_zero, List.set_cons_succ]
        refine drawn_take 6 rfl (by kernel_rfl) (by kernel_rfl) (by kernel_rfl) (fun _ _ _ h => h) (by rfl) (by assumption) (v := ?_) ?_ ?_
        rotate_left
        · (intro wy hSw; (try dsimp only at hSw); go_simp; try with_reducible rfl)
        simp only [Act.put, List.setIfInBounds_toArray, List.set_cons_zero, List.set_cons_succ]
        refine drawn_take 7 rfl (by kernel_rfl) (by kernel_rfl) (by kernel_rfl) (fun _ _ _ h => h) (by rfl) (by assumption) (v := ?_) ?_ ?_
        rotate_left
        · (intro wy hSw; (try dsimp only at hSw); go_simp; try with_reducible rfl)
        simp only [Act.put, List.setIfInBounds_toArray, List.set_cons_zero, List.set_cons_succ]
        refine drawn_take 8 rfl (by kernel_rfl) (by kernel_rfl) (by kernel_rfl) (fun _ _ _ h => h) (by rfl) (by assumption) (v := ?_) ?_ ?_
        rotate_left
        · (intro wy hSw; (try dsimp only at hSw); go_simp; try with_reducible rfl)
        simp only [Act.put, List.setIfInBounds_toArray, List.set_cons_zero, List.set_cons_succ]
        refine drawn_sole 9 rfl (by kernel_rfl) (fun K hK => ?_)
        go_simp
        skip
        refine hK.out _ _ (HCELL.out _ ((HB.out.drew.setCell (Nat.le_refl _) _).setCell (Nat.le_refl _) _)) (fun hHeld2 => ?_)
        clear hK K
        clear hHeld
        have hHeld := hHeld2
        clear hHeld2
        refine drawn_take 10 rfl (by kernel_rfl) (by kernel_rfl) (by kernel_rfl) (fun _ _ _ h => h) (by rfl) (by assumption) (v := ?_) ?_ ?_
        rotate_left
        · (intro wy hSw; (try dsimp only at hSw); go_simp; try with_reducible rfl)
        simp only [Act.put, List.setIfInBounds_toArray, List.set_cons_zero, List.set_cons_succ]
        refine drawn_take 11 rfl (by kernel_rfl) (by kernel_rfl) (by kernel_rfl) (fun _ _ _ h => h) (by rfl) (by assumption) (v := ?_) ?_ ?_
        rotate_left
        · (intro wy hSw; (try dsimp only at hSw); go_simp; try with_reducible rfl)
        simp only [Act.put, List.setIfInBounds_toArray, List.set_cons_zero, List.set_cons_succ]
        refine wpAnyH_done (by kernel_rfl) ?_ _
        go_wp2_with fail
        refine bodyPost_ret (results_sec rfl _ _ _ _ _ rfl (slot_two (w := w1.drew) HX.out)) rfl ?_
        exact tkPost_yes HY.out ((HB.out.drew.setCell (Nat.le_refl _) _).setCell (Nat.le_refl _) _) HOL.out HHL.out (by have := HS0.out; have := HE0.out; omega) (by omega) (by omega) (by simp) (fun W B h => by
          have h0 : (r.drop R).take U = [] := (congrArg (fun k => (r.drop R).take k) HU0.out).trans rfl
          rw [h0]
          exact Has.nil _ _ _)
      · have hck3 : ¬ (c - S0 = 0) := by omega
        refine wp_region_held_drew (S := (fun w' => w'.cell? ad = some (.int .u8 (id : Int)))) (by kernel_rfl) (hcd) (fun hHeld => ?_)
        refine drawn_take 0 rfl (by kernel_rfl) (by kernel_rfl) (by kernel_rfl) (fun _ _ _ h => h) (by rfl) (by assumption) (v := ?_) ?_ ?_
        rotate_left
        · (intro wy hSw; (try dsimp only at hSw); go_simp; try with_reducible rfl)
        simp only [Act.put, List.setIfInBounds_toArray, List.set_cons_zero, List.set_cons_succ]
        refine drawn_take 1 rfl (by kernel_rfl) (by kernel_rfl) (by kernel_rfl) (fun _ _ _ h => h) (by rfl) (by assumption) (v := ?_) ?_ ?_
        rotate_left
        · (intro wy hSw; (try dsimp only at hSw); go_simp; try with_reducible rfl)
        simp only [Act.put, List.setIfInBounds_toArray, List.set_cons_zero, List.set_cons_succ]
        refine drawn_take 2 rfl (by kernel_rfl) (by kernel_rfl) (by kernel_rfl) (fun _ _ _ h => h) (by rfl) (by assumption) (v := ?_) ?_ ?_
        rotate_left
        · (intro wy hSw; (try dsimp only at hSw); go_simp; try with_reducible rfl)
        simp only [Act.put, List.setIfInBounds_toArray, List.set_cons_zero, List.set_cons_succ]
        refine drawn_take 3 rfl (by kernel_rfl) (by kernel_rfl) (by kernel_rfl) (fun _ _ _ h => h) (by rfl) (by assumption) (v := ?_) ?_ ?_
        rotate_left
        · (intro wy hSw; (try dsimp only at hSw); go_simp; try with_reducible rfl)
        simp only [Act.put, List.setIfInBounds_toArray, List.set_cons_zero, List.set_cons_succ]
        refine drawn_take 4 rfl (by kernel_rfl) (by kernel_rfl) (by kernel_rfl) (fun _ _ _ h => h) (by rfl) (by assumption) (v := ?_) ?_ ?_
        rotate_left
        · (intro wy hSw; (try dsimp only at hSw); go_simp; try with_reducible rfl)
        simp only [Act.put, List.setIfInBounds_toArray, List.set_cons_zero, List.set_cons_succ]
        refine drawn_take 5 rfl (by kernel_rfl) (by kernel_rfl) (by kernel_rfl) (fun _ _ _ h => h) (by rfl) (by assumption) (v := ?_) ?_ ?_
        rotate_left
        · (intro wy hSw; (try dsimp only at hSw); go_simp; try with_reducible rfl)
        simp only [Act.put, List.setIfInBounds_toArray, List.set_cons_zero, List.set_cons_succ]
        refine drawn_take 6 rfl (by kernel_rfl) (by kernel_rfl) (by kernel_rfl) (fun _ _ _ h => h) (by rfl) (by assumption) (v := ?_) ?_ ?_
        rotate_left
        · (intro wy hSw; (try dsimp only at hSw); go_simp; try with_reducible rfl)
        simp only [Act.put, List.setIfInBounds_toArray, List.set_cons_zero, List.set_cons_succ]
        refine drawn_take 7 rfl (by kernel_rfl) (by kernel_rfl) (by kernel_rfl) (fun _ _ _ h => h) (by rfl) (by assumption) (v := ?_) ?_ ?_
        rotate_left
        · (intro wy hSw; (try dsimp only at hSw); go_simp; try with_reducible rfl)
        simp only [Act.put, List.setIfInBounds_toArray, List.set_cons_zero, List.set_cons_succ]
        refine drawn_take 8 rfl (by kernel_rfl) (by kernel_rfl) (by kernel_rfl) (fun _ _ _ h => h) (by rfl) (by assumption) (v := ?_) ?_ ?_
        rotate_left
        · (intro wy hSw; (try dsimp only at hSw); go_simp; try with_reducible rfl)
        simp only [Act.put, List.setIfInBounds_toArray, List.set_cons_zero, List.set_cons_succ]
        refine drawn_sole 9 rfl (by kernel_rfl) (fun K hK => ?_)
        go_simp
        skip
        refine hK.out _ _ (HCELL.out _ ((HB.out.drew.setCell (Nat.le_refl _) _).setCell (Nat.le_refl _) _)) (fun hHeld2 => ?_)
        clear hK K
        clear hHeld
        have hHeld := hHeld2
        clear hHeld2
        refine drawn_take 10 rfl (by kernel_rfl) (by kernel_rfl) (by kernel_rfl) (fun _ _ _ h => h) (by rfl) (by assumption) (v := ?_) ?_ ?_
        rotate_left
        · (intro wy hSw; (try dsimp only at hSw); go_simp; try with_reducible rfl)
        simp only [Act.put, List.setIfInBounds_toArray, List.set_cons_zero, List.set_cons_succ]
        refine drawn_take 11 rfl (by kernel_rfl) (by kernel_rfl) (by kernel_rfl) (fun _ _ _ h => h) (by rfl) (by assumption) (v := ?_) ?_ ?_
        rotate_left
        · (intro wy hSw; (try dsimp only at hSw); go_simp; try with_reducible rfl)
        simp only [Act.put, List.setIfInBounds_toArray, List.set_cons_zero, List.set_cons_succ]
        refine wpAnyH_done (by kernel_rfl) ?_ _
        go_wp2_with fail
        refine bodyPost_ret (results_sec rfl _ _ _ _ _ rfl (slot_two (w := w1.drew) HX.out)) rfl ?_
        exact tkPost_yes HY.out ((HB.out.drew.setCell (Nat.le_refl _) _).setCell (Nat.le_refl _) _) HOL.out HHL.out (by have := HS0.out; have := HE0.out; omega) (by omega) (by omega) (by simp) (fun W B h => by
          have h2 := (h.from S0).take U
          rw [HS0.out, Nat.add_comm, List.drop_succ_cons] at h2
          rw [HS0.out, Nat.add_comm]
          exact h2)
/-- What a call of mayStand comes to: the closure's cell holds the last number. -/
def MsPost (id : Nat) (own : List UInt8) (k g : Nat) (w : World) (e : Ending) (w' : World) : Prop :=
  Mod (fun b => b = g) w w' ∧ if id = 0 then e = .returned (.bool (named own)) ∧ Cl w' g k else e = .returned (.bool (decide (k < id) && decide (id ≤ 11))) ∧ Cl w' g (if k < id ∧ id ≤ 11 then id else k)
theorem nm_named (l : List UInt8) : Nm.ok l = named l := rfl
theorem mayStand_any (A : Option Addr) (own : List UInt8) (id k g U c : Nat) (w : World) (hid : id < 256) (hp : Cl w g k) (hA : Has w w.heap.size A own) (hn : U = own.length) (hmax : U ≤ 140737488355328) (hc : U ≤ c) (hcm : c ≤ maxLen) (hT : Tb w) :
    Calls Tryd.prog 24 #[.agg #[.int .u8 (id : Int), .slice A U c], .func (.func 34) #[] #[.pointer (some ⟨g, 0, none⟩)]] w (MsPost id own k g w) := by
  unfold maxLen at hcm
  by_cases h0 : id = 0
  · subst h0
    have HC := Lib.hid (fun W (hb : Below w.heap.size w W) => ntake_any A own U c W hn hmax hc (by omega) (hA.on hb) (hT.on hb))
    unfold TakePost at HC
    rw [nm_named] at HC
    have HP := Lib.hid hp
    have HF : Hid (∀ w', Below w.heap.size w w' → MsPost 0 own k g w (.returned (.bool (named own))) w') := Lib.hid (fun w' hb => ⟨Mod.more (Mod.of_below (T := fun _ => False) hb) (fun _ _ h => h.elim), by rw [if_pos rfl]; exact ⟨rfl, hp.mod (Mod.of_below (T := fun _ => False) hb) (fun h => h)⟩⟩)
    generalize named own = ok at HC HF
    generalize ByteArray.mk (Nm.str own).toArray = sn at HC
    generalize Nm.cnt own = cn at HC
    clear hp hA hT hn hid
    go_enter Tryd.func24, Tryd.ntmps24
    go_wp2_with (go_at_call 35; refine (HC.out _ ((Below.refl _ _).alloc (Nat.le_refl _) _)).mono ?_; rintro e w1 ⟨rfl, hb⟩; have HB := Lib.hid (((Below.refl _ w).alloc (Nat.le_refl _) _).trans (hb.mono (by simp))); clear hb)
    go_ret
    exact HF.out _ HB.out
  · have h0i : ((id : Int) == 0) = false := by simp; omega
    have HP := Lib.hid hp
    have HF : Hid (∀ w', Mod (fun b => b = g) w w' → Cl w' g (if k < id ∧ id ≤ 11 then id else k) → MsPost id own k g w (.returned (.bool (decide (k < id) && decide (id ≤ 11)))) w') := Lib.hid (fun w' hm hc => ⟨hm, by rw [if_neg h0]; exact ⟨rfl, hc⟩⟩)
    clear hp hA hT hn h0
    go_enter Tryd.func24, Tryd.ntmps24
    go_wp2_with fail
    refine (rising1_any id k g _ hid (HP.out.mod (Mod.of_below (T := fun _ => False) ((Below.refl _ w).alloc (Nat.le_refl _) _)) (fun h => h))).mono ?_
    rintro e w1 ⟨rfl, hm, hc1⟩
    have HM := Lib.hid (((Mod.refl (fun b => b = g) w).alloc _).trans hm (fun _ _ h => h))
    have HC1 := Lib.hid hc1
    clear hm hc1
    generalize (decide (k < id) && decide (id ≤ 11)) = ok at HF ⊢
    go_wp2_with fail
    go_ret
    exact HF.out _ HM.out HC1.out
end Go.Proofs.YtanhgpdeoffmfaaDoor
