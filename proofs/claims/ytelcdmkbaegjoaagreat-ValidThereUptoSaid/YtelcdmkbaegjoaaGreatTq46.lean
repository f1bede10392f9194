/-
  Layer 11's program: what a module that is checked has in memory; unless, ofWholeNumbers, mayBe.
-/
import Derived.Test.YtelcdmkbaegjoaaGreatTq01
import Derived.Test.YtelcdmkbaegjoaaGreatTq25
import Derived.Test.YtelcdmkbaegjoaaGreatTq32
import Derived.Test.YtelcdmkbaegjoaaGreatTq38
import Derived.Test.YtelcdmkbaegjoaaGreatTq06
set_option maxRecDepth 100000
set_option maxHeartbeats 4000000
namespace Go.Proofs.YtelcdmkbaegjoaaGreat
open Go.RowKit Ins Bin Sp
structure VIn (w : World) (P sp mp : Nat) (m : M) (v1 v2 v3 v4 v5 v6 v7 v8 v9 v10 hv : Value) : Prop where
 cells : w.heap[P]? = some (.cells #[v1, v2, v3, v4, v5, v6, v7, .bool m.hasStart, .int .u32 (m.start : Int), v8, v9, v10, .pointer (some ⟨sp, 0, none⟩), .map (some mp), hv] 71 (0, 0))
 rep : RepM w (· < w.heap.size) m v1 v2 v3 v4 v5 v6 v7 v8 v9 v10
 space : aI w sp m
 fit : FitV m
theorem VIn.grow {w w' : World} {P sp mp : Nat} {m : M} {v1 v2 v3 v4 v5 v6 v7 v8 v9 v10 hv : Value} (h : VIn w P sp mp m v1 v2 v3 v4 v5 v6 v7 v8 v9 v10 hv) (hb : Below w.heap.size w w') : VIn w' P sp mp m v1 v2 v3 v4 v5 v6 v7 v8 v9 v10 hv :=
 ⟨(hb.block P (Array.getElem?_eq_some_iff.1 h.cells).1).trans h.cells, h.rep.grow hb, h.space.grow hb, h.fit⟩
theorem VIn.recv {w : World} {P sp mp : Nat} {m : M} {v1 v2 v3 v4 v5 v6 v7 v8 v9 v10 hv : Value} (h : VIn w P sp mp m v1 v2 v3 v4 v5 v6 v7 v8 v9 v10 hv) : Recv w (some ⟨sp, 0, none⟩) m := .inl ⟨sp, rfl, h.space⟩
theorem cell15 {w : World} {P : Nat} {cs : Array Value} {t : TypeId} (h : w.heap[P]? = some (.cells cs t (0, 0))) (k : Nat) (u : Value) (hk : cs[k]? = some u) : w.cell? ⟨P, k, none⟩ = some u := by
 rw [cell_of_row w P k _ _ (0, 0) h]; exact hk
theorem ak (b : Bool) (n : Nat) (z : Int) (w : World) (hz : z = (n : Int)) :
  Calls Tryz.prog 53 #[.bool b, .int .i64 z] w fun e w' => e = .returned (.int .i64 ((Va.okE b n : Nat) : Int)) ∧ w = w' := by
 subst hz
 cases b
 ·go_enter Tryz.func53, Tryz.ntmps53
  go_wp2
  go_ret
  exact ⟨rfl, rfl⟩
 ·go_enter Tryz.func53, Tryz.ntmps53
  go_wp2
  go_ret
  exact ⟨rfl, rfl⟩
theorem wholeB_take {l : List UInt8} {j : Nat} {x : UInt8} (h : l[j]? = some x) : Va.wholeB (l.take (j + 1)) = (Va.wholeB (l.take j) && (x == 127 || x == 126)) := by
 unfold Va.wholeB
 rw [List.take_add_one, h, List.all_append]
 simp
theorem wholeB_no {l : List UInt8} {j : Nat} {x : UInt8} (h : l[j]? = some x) (hx : (x == 127 || x == 126) = false) : Va.wholeB l = false := by
 unfold Va.wholeB
 rw [List.all_eq_false]
 exact ⟨x, List.mem_of_getElem? h, by simp [hx]⟩
theorem not127 {x : UInt8} {t : Nat} (ht : x.toNat = t) (h : ¬ x = 127) : ((t : Int) == 127) = false ∧ ((t : Int) != 127) = true ∧ ¬ ((t : Int) = 127) := by
 have h0 : ¬ t = 127 := fun e => h (UInt8.toNat_inj.1 (by rw [ht, e]; rfl))
 have h1 : ((t : Int) == 127) = false := by rw [beq_eq_false_iff_ne]; omega
 exact ⟨h1, by rw [bne, h1]; rfl, by omega⟩
theorem not126 {x : UInt8} {t : Nat} (ht : x.toNat = t) (h : ¬ x = 126) : ((t : Int) == 126) = false ∧ ((t : Int) != 126) = true ∧ ¬ ((t : Int) = 126) := by
 have h0 : ¬ t = 126 := fun e => h (UInt8.toNat_inj.1 (by rw [ht, e]; rfl))
 have h1 : ((t : Int) == 126) = false := by rw [beq_eq_false_iff_ne]; omega
 exact ⟨h1, by rw [bne, h1]; rfl, by omega⟩
theorem cE (l : List UInt8) (v : Value) (w : World) (h : ab w (· < w.heap.size) l v) (hl : l.length ≤ 1050000) :
  Calls Tryz.prog 54 #[v] w fun e w' => e = .returned (.bool (Va.wholeB l)) ∧ w = w' := by
 obtain ⟨A3, c3, rfl, _, _, _, hL⟩ := h
 obtain ⟨n3, hn3⟩ : ∃ n, l.length = n := ⟨_, rfl⟩
 rw [hn3] at hl ⊢
 have HN3 := J hn3
 have HL := J hL
 clear hL hn3
 go_enter Tryz.func54, Tryz.ntmps54
 go_wp2_with fail
 go_loop [7] (fun iv => ∃ j : Nat, j ≤ n3 ∧ iv = .int .i64 (j : Int) ∧ Hid (Va.wholeB (l.take j) = true)) (fun iv => n3 - (intOf iv).toNat)
 case atStart => exact ⟨0, by omega, rfl, J rfl⟩
 case round =>
  obtain ⟨j, hj, rfl, HQ⟩ := hrel
  by_cases hjn : j < n3
  ·obtain ⟨x, hx⟩ : ∃ x, l[j]? = some x := ⟨_, List.getElem?_eq_getElem (by have := HN3.out; omega)⟩
   obtain ⟨g, oo, rfl, hg, k0⟩ := by_at HL.out hx
   have hji : (j : Int) < (n3 : Int) := by omega
   have HST := J (wholeB_take hx)
   have HNO := J (wholeB_no hx)
   clear hx
   cases hb : (x == 127 || x == 126) with
   | true =>
    have HTR : Hid (Va.wholeB (l.take (j + 1)) = true) := J (by rw [HST.out, HQ.out, hb]; rfl)
    clear HNO HST
    have hxt : x = 127 ∨ x = 126 := by
     rw [Bool.or_eq_true, beq_iff_eq, beq_iff_eq] at hb
     exact hb
    clear hb
    rcases hxt with rfl | rfl
    ·go_wp2_with fail
     go_round
     case rel => exact ⟨j + 1, by omega, by go_num, HTR⟩
     case measure => simp [intOf]; omega
    ·go_wp2_with fail
     go_round
     case rel => exact ⟨j + 1, by omega, by go_num, HTR⟩
     case measure => simp [intOf]; omega
   | false =>
    have HFL := J (HNO.out hb)
    rw [Bool.or_eq_false_iff, beq_eq_false_iff_ne, beq_eq_false_iff_ne] at hb
    obtain ⟨h1, h2⟩ := hb
    obtain ⟨t, ht⟩ : ∃ t, x.toNat = t := ⟨_, rfl⟩
    obtain ⟨ht1, ht3, ht5⟩ := not127 ht h1
    obtain ⟨ht2, ht4, ht6⟩ := not126 ht h2
    rw [ht] at k0
    clear HNO HST h1 h2 ht
    go_wp2_with fail
    go_ret
    rw [HFL.out]
    exact ⟨rfl, rfl⟩
  ·have hji : decide ((j : Int) < (n3 : Int)) = false := decide_eq_false (by omega)
   have hjn2 : decide (j < n3) = false := decide_eq_false hjn
   have HTR : Hid (Va.wholeB l = true) := J (by
    have h := HQ.out
    rw [List.take_of_length_le (by have := HN3.out; omega)] at h
    exact h)
   go_wp2_with fail
   go_ret
   rw [HTR.out]
   exact ⟨rfl, rfl⟩
def mayB (l : Lim) : Bool := decide (l.max = -1) || (decide ((l.min : Int) ≤ l.max) && decide (l.max ≤ 4294967295))
theorem dX (l : Lim) (hl : Lim.wf l) (w : World) :
  Calls Tryz.prog 57 #[.agg #[.int .u32 (l.min : Int), .int .i64 l.max]] w fun e w' => e = .returned (.bool (mayB l)) ∧ Below w.heap.size w w' := by
 obtain ⟨a, b⟩ := l
 obtain ⟨h1, h2, h3⟩ := hl
 dsimp only at h1 h2 h3
 unfold mayB
 dsimp only
 have HB0 : Hid (Below w.heap.size w (w.alloc (.cells #[.int .u32 (a : Int), .int .i64 b] 65))) := J ((Below.refl _ _).alloc (Nat.le_refl _) _)
 by_cases hb : b = -1
 ·subst hb
  go_enter Tryz.func57, Tryz.ntmps57
  go_wp2_with fail
  go_ret
  exact ⟨rfl, HB0.out⟩
 ·have hb1 : (b == -1) = false := by rw [beq_eq_false_iff_ne]; exact hb
  have hb2 : decide (b = -1) = false := decide_eq_false hb
  have hw : IntKind.i64.wrap (a : Int) = (a : Int) := IntWalk.i64_in _ (by omega)
  rw [hb2, Bool.false_or]
  by_cases hab : (a : Int) ≤ b
  ·have hab2 : decide ((a : Int) ≤ b) = true := decide_eq_true hab
   rw [hab2, Bool.true_and]
   by_cases hm : b ≤ 4294967295
   ·have hm2 : decide (b ≤ 4294967295) = true := decide_eq_true hm
    rw [hm2]
    go_enter Tryz.func57, Tryz.ntmps57
    go_wp2_with fail
    go_ret
    exact ⟨rfl, HB0.out⟩
   ·have hm2 : decide (b ≤ 4294967295) = false := decide_eq_false hm
    rw [hm2]
    go_enter Tryz.func57, Tryz.ntmps57
    go_wp2_with fail
    go_ret
    exact ⟨rfl, HB0.out⟩
  ·have hab2 : decide ((a : Int) ≤ b) = false := decide_eq_false hab
   rw [hab2, Bool.false_and]
   go_enter Tryz.func57, Tryz.ntmps57
   go_wp2_with fail
   go_ret
   exact ⟨rfl, HB0.out⟩
end Go.Proofs.YtelcdmkbaegjoaaGreat
namespace Va
open Bin Sp Ins
def giveE (m : M) (op a : Nat) : UInt8 × Nat :=
 if op = 35 then (match (imps m 3)[a]? with
  | none => (0, 80)
  | some g => if g.glob.mu = true then (0, 110) else (g.glob.t, 0))
 else if op = 65 then (127, 0)
 else if op = 66 then (126, 0)
 else (0, 110)
theorem constE_one (m : M) (x : I) (t : UInt8) : constE m [x] t = if (giveE m x.op x.a).2 = 0 then okE (decide ((giveE m x.op x.a).1 = t)) 100 else (giveE m x.op x.a).2 := by
 unfold constE giveE okE
 dsimp only
 split
 ·cases (imps m 3)[x.a]? with
  | none => rfl
  | some g =>
   dsimp only
   split
   ·rfl
   ·simp
 ·split
  ·simp [eq_comm]
  ·split
   ·simp [eq_comm]
   ·rfl
theorem glob_imp {m : M} {i : Nat} {g : Imp} (h : (imps m 3)[i]? = some g) : (globs m)[i]? = some g.glob := by
 unfold globs
 rw [List.getElem?_append_left (by simpa using (List.getElem?_eq_some_iff.1 h).1), List.getElem?_map, h]
 rfl
end Va
namespace Go.Proofs.YtelcdmkbaegjoaaGreat
open Go.RowKit Ins Bin Sp
section
variable {w : World} {P sp mp : Nat} {m : M} {v1 v2 v3 v4 v5 v6 v7 v8 v9 v10 hv : Value}
theorem cp (h : VIn w P sp mp m v1 v2 v3 v4 v5 v6 v7 v8 v9 v10 hv) (t : Nat) (ht : t < 4294967296) :
  Calls Tryz.prog 55 #[.pointer (some ⟨P, 0, none⟩), .int .u32 (t : Int)] w fun e w' => e = .returned (.int .i64 ((Va.okE (decide (t < m.types.length)) 80 : Nat) : Int)) ∧ w = w' := by
 obtain ⟨A, c, hv1, _⟩ := h.rep.types
 have x0 := cell15 h.cells 0 _ rfl
 rw [hv1] at x0
 have hn := h.fit.lots.types
 clear h hv1
 obtain ⟨n, e⟩ : ∃ n, m.types.length = n := ⟨_, rfl⟩
 rw [e] at x0 hn ⊢
 clear e
 have hw1 : IntKind.u64.wrap (t : Int) = (t : Int) := IntWalk.u64_in _ (by omega)
 have hw2 : IntKind.u64.wrap (n : Int) = (n : Int) := IntWalk.u64_in _ (by omega)
 by_cases hlt : t < n
 ·have hi : (t : Int) < (n : Int) := by omega
  have hi2 : decide ((t : Int) < (n : Int)) = true := decide_eq_true hi
  have hd : decide (t < n) = true := decide_eq_true hlt
  rw [hd]
  go_enter Tryz.func55, Tryz.ntmps55
  go_wp2_with (go_at_call 53; refine (ak true 80 80 _ rfl).mono ?_; rintro e w' ⟨rfl, rfl⟩)
  go_ret
  exact ⟨rfl, rfl⟩
 ·have hi2 : decide ((t : Int) < (n : Int)) = false := decide_eq_false (by omega)
  have hd : decide (t < n) = false := decide_eq_false hlt
  rw [hd]
  go_enter Tryz.func55, Tryz.ntmps55
  go_wp2_with (go_at_call 53; refine (ak false 80 80 _ rfl).mono ?_; rintro e w' ⟨rfl, rfl⟩)
  go_ret
  exact ⟨rfl, rfl⟩
theorem du (h : FitV m) (k : Nat) : count m k ≤ 2100000 := by
 have h1 := bE m k
 have h2 := h.lots
 have := h2.imports
 have := h2.funcs
 have := h2.tables
 have := h2.mems
 have := h2.globals
 unfold count imported mine
 (repeat' split) <;> omega
theorem bv (h : VIn w P sp mp m v1 v2 v3 v4 v5 v6 v7 v8 v9 v10 hv) (k t : Nat) (hk : k < 256) (ht : t < 4294967296) :
  Calls Tryz.prog 60 #[.pointer (some ⟨P, 0, none⟩), .int .u8 (k : Int), .int .u32 (t : Int)] w fun e w' => e = .returned (.bool (decide (t < count m k))) ∧ Below w.heap.size w w' := by
 have x12 := cell15 h.cells 12 _ rfl
 have HC := J (aW (some ⟨sp, 0, none⟩) m k hk w h.recv (Lots.some h.fit.lots))
 have hn := du h.fit k
 clear h
 obtain ⟨n, e⟩ : ∃ n, count m k = n := ⟨_, rfl⟩
 rw [e] at HC hn ⊢
 clear e
 have hw1 : IntKind.u64.wrap (t : Int) = (t : Int) := IntWalk.u64_in _ (by omega)
 have hw2 : IntKind.u64.wrap (n : Int) = (n : Int) := IntWalk.u64_in _ (by omega)
 by_cases hlt : t < n
 ·have hi : (t : Int) < (n : Int) := by omega
  have hi2 : decide ((t : Int) < (n : Int)) = true := decide_eq_true hi
  have hd : decide (t < n) = true := decide_eq_true hlt
  rw [hd]
  go_enter Tryz.func60, Tryz.ntmps60
  go_wp2_with (go_at_call 10; refine HC.out.mono ?_; rintro e w' ⟨rfl, hb⟩; have HB := J hb; clear hb)
  go_ret
  exact ⟨rfl, HB.out⟩
 ·have hi2 : decide ((t : Int) < (n : Int)) = false := decide_eq_false (by omega)
  have hd : decide (t < n) = false := decide_eq_false hlt
  rw [hd]
  go_enter Tryz.func60, Tryz.ntmps60
  go_wp2_with (go_at_call 10; refine HC.out.mono ?_; rintro e w' ⟨rfl, hb⟩; have HB := J hb; clear hb)
  go_ret
  exact ⟨rfl, HB.out⟩
end
end Go.Proofs.YtelcdmkbaegjoaaGreat
