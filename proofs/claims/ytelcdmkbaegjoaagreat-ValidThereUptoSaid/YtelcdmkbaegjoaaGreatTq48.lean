/-
  Layer 11's program: types, imports, own functions, counts, tables, memories: asked one by one. (gen/valid/step1.py)
-/
import Derived.Test.YtelcdmkbaegjoaaGreatTq01
import Derived.Test.YtelcdmkbaegjoaaGreatTq47
import Derived.Test.YtelcdmkbaegjoaaGreatTq27
set_option maxRecDepth 100000
set_option maxHeartbeats 4000000
namespace Va
open Bin Sp Ins
theorem limE_table {l : Lim} (h : l.min < 4294967296) : limE 4294967295 l = okE (Go.Proofs.YtelcdmkbaegjoaaGreat.mayB l) 112 := by
 unfold limE Go.Proofs.YtelcdmkbaegjoaaGreat.mayB
 rw [show decide (l.min ≤ 4294967295) = true from decide_eq_true (by omega)]
 simp
theorem limE_mem {l : Lim} : limE 65536 l = okE ((Go.Proofs.YtelcdmkbaegjoaaGreat.mayB l && decide (l.min ≤ 65536)) && decide (l.max ≤ 65536)) 112 := by
 unfold limE Go.Proofs.YtelcdmkbaegjoaaGreat.mayB
 congr 1
 by_cases h1 : l.min ≤ 65536 <;> by_cases h2 : l.max = -1 <;> by_cases h3 : (l.min : Int) ≤ l.max <;> by_cases h4 : l.max ≤ 65536 <;> simp [h1, h2, h3, h4] <;> omega
end Va
namespace Go.Proofs.YtelcdmkbaegjoaaGreat
open Go.RowKit Ins Bin Sp
section
variable {w : World} {P sp mp : Nat} {m : M} {v1 v2 v3 v4 v5 v6 v7 v8 v9 v10 hv : Value}
theorem dJ (x : UInt8) (t : Nat) (ht : x.toNat = t) (w : World) :
  Calls Tryz.prog 54 #[.slice (some ⟨w.heap.size, 0, none⟩) 1 1] (w.alloc (.cells #[.int .u8 (t : Int)] 5)) fun e w' => e = .returned (.bool (x == 127 || x == 126)) ∧ (w.alloc (.cells #[.int .u8 (t : Int)] 5)) = w' := by
 have h := cE [x] (.slice (some ⟨w.heap.size, 0, none⟩) 1 1) (w.alloc (.cells #[.int .u8 (t : Int)] 5)) (by
  subst ht
  refine ⟨_, 1, rfl, Nat.le_refl _, by unfold maxLen; omega, fun e => (by cases e), fun k y hk => ⟨w.heap.size, 0, [.int .u8 (y.toNat : Int)], rfl, by simp, by simp, rfl, fun j u hj => ?_⟩⟩
  cases k with
  | succ k => simp at hk
  | zero =>
   simp at hk
   subst hk
   cases j with
   | succ j => simp at hj
   | zero =>
    simp at hj
    subst hj
    rw [cell_of_row _ _ _ _ _ (0, 0) (heap_alloc_new w _)]
    rfl) (by simp)
 rw [show Va.wholeB [x] = (x == 127 || x == 126) from by simp [Va.wholeB]] at h
 exact h
theorem rep_tabs {S : Nat → Prop} (hM : RepM w S m v1 v2 v3 v4 v5 v6 v7 v8 v9 v10) : ∀ l ∈ tabs m, Lim.wf l := fun l hl => by
 unfold tabs at hl
 rcases List.mem_append.1 hl with h | h
 ·obtain ⟨x, hx, rfl⟩ := List.mem_map.1 h
  obtain ⟨A, c, _, _, _, _, hL⟩ := hM.imports
  obtain ⟨k, hk⟩ := List.mem_iff_getElem?.1 (show x ∈ m.imports by unfold imps at hx; exact (List.mem_filter.1 hx).1)
  obtain ⟨_, _, _, _, _, _, ⟨_, _, h4⟩, _⟩ := hL k x hk
  exact h4
 ·obtain ⟨A, c, _, _, _, _, hL⟩ := hM.tables
  obtain ⟨k, hk⟩ := List.mem_iff_getElem?.1 h
  obtain ⟨_, _, _, _, _, _, ⟨_, h4⟩, _⟩ := hL k l hk
  exact h4
theorem rep_mems {S : Nat → Prop} (hM : RepM w S m v1 v2 v3 v4 v5 v6 v7 v8 v9 v10) : ∀ l ∈ mems m, Lim.wf l := fun l hl => by
 unfold mems at hl
 rcases List.mem_append.1 hl with h | h
 ·obtain ⟨x, hx, rfl⟩ := List.mem_map.1 h
  obtain ⟨A, c, _, _, _, _, hL⟩ := hM.imports
  obtain ⟨k, hk⟩ := List.mem_iff_getElem?.1 (show x ∈ m.imports by unfold imps at hx; exact (List.mem_filter.1 hx).1)
  obtain ⟨_, _, _, _, _, _, ⟨_, _, h4⟩, _⟩ := hL k x hk
  exact h4
 ·obtain ⟨A, c, _, _, _, _, hL⟩ := hM.mems
  obtain ⟨k, hk⟩ := List.mem_iff_getElem?.1 h
  obtain ⟨_, _, _, _, _, _, ⟨_, h4⟩, _⟩ := hL k l hk
  exact h4
theorem dO (h : VIn w P sp mp m v1 v2 v3 v4 v5 v6 v7 v8 v9 v10 hv) (i : Nat) (t : FT) (ht : m.types[i]? = some t) :
  Calls Tryz.prog 20 #[.pointer (some ⟨P, 0, none⟩), .int .i64 (i : Int)] w fun e w' => e = .returned (.int .i64 ((Va.typE t : Nat) : Int)) ∧ Below w.heap.size w w' := by
 have hl := h.fit.lots.types
 obtain ⟨hl1, hl2⟩ := h.fit.lots.each t (List.mem_of_getElem? ht)
 have hi := (List.getElem?_eq_some_iff.1 ht).1
 obtain ⟨A, c, rfl, hc, _, _, hL⟩ := h.rep.types
 have x0 := cell15 h.cells 0 _ rfl
 obtain ⟨g, o, cs, rfl, _, hg, ⟨u, v, rfl, hu, hv⟩, hcs⟩ := hL i t ht
 have k0 : w.cell? ⟨g, o + i * 2, none⟩ = some u := hcs 0 _ rfl
 have k1 : w.cell? ⟨g, o + i * 2 + 1, none⟩ = some v := hcs 1 _ rfl
 have hB0 : Below w.heap.size w (w.alloc (.cells #[u, v] 51)) := (Below.refl _ _).alloc (Nat.le_refl _) _
 have HB := J hB0
 have HW1 := J (cE t.params u _ (hu.grow hB0) hl1)
 have HW2 := J (cE t.results v _ (hv.grow hB0) hl2)
 have HZ := J (heap_alloc_new w (.cells #[u, v] 51))
 obtain ⟨Au, cu, rfl, _⟩ := id hu
 obtain ⟨Av, cv, rfl, _⟩ := id hv
 have HT0 : Hid (Va.typE t = Va.okE (decide (t.results.length ≤ 1) && (Va.wholeB t.params && Va.wholeB t.results)) 100) := J rfl
 clear h hL hcs hu hv hB0
 obtain ⟨n, e⟩ : ∃ n, m.types.length = n := ⟨_, rfl⟩
 rw [e] at x0 hi hl hc
 clear e
 have hii : (i : Int) < (n : Int) := by omega
 generalize Va.wholeB t.params = b1 at HW1 HT0
 generalize Va.wholeB t.results = b2 at HW2 HT0
 generalize t.params.length = n1 at *
 obtain ⟨n2, e2⟩ : ∃ n, t.results.length = n := ⟨_, rfl⟩
 rw [e2] at HT0 k1 HB HW1 HW2 HZ hl2
 clear e2 ht
 go_enter Tryz.func20, Tryz.ntmps20
 go_upto_region 2 with fail
 generalize w.alloc (.cells #[.slice Au n1 cu, .slice Av n2 cv] 51) = w0 at HB HZ HW1 HW2 ⊢
 obtain ⟨z0, z1⟩ := ae HZ.out
 by_cases h1 : n2 ≤ 1
 ·have h1i : (n2 : Int) ≤ 1 := by omega
  have h1b : decide ((n2 : Int) ≤ 1) = true := decide_eq_true h1i
  rw [show decide (n2 ≤ 1) = true from decide_eq_true h1, Bool.true_and] at HT0
  cases b1 with
  | false =>
   have HT : Hid (Va.typE t = 100) := J HT0.out
   clear HT0
   have tok1 : True := trivial
   go_wp2_with (first | (go_at_call 54; clear tok1; refine HW1.out.mono ?_; rintro e w1 ⟨rfl, rfl⟩) | (go_at_call 54; refine HW2.out.mono ?_; rintro e w1 ⟨rfl, rfl⟩) | (go_at_call 53; refine (ak false 100 100 _ rfl).mono ?_; rintro e w2 ⟨rfl, rfl⟩))
   go_ret
   rw [HT.out]
   exact ⟨rfl, HB.out⟩
  | true =>
   cases b2 with
   | false =>
    have HT : Hid (Va.typE t = 100) := J HT0.out
    clear HT0
    have tok1 : True := trivial
    go_wp2_with (first | (go_at_call 54; clear tok1; refine HW1.out.mono ?_; rintro e w1 ⟨rfl, rfl⟩) | (go_at_call 54; refine HW2.out.mono ?_; rintro e w1 ⟨rfl, rfl⟩) | (go_at_call 53; refine (ak false 100 100 _ rfl).mono ?_; rintro e w2 ⟨rfl, rfl⟩))
    go_ret
    rw [HT.out]
    exact ⟨rfl, HB.out⟩
   | true =>
    have HT : Hid (Va.typE t = 0) := J HT0.out
    clear HT0
    have tok1 : True := trivial
    go_wp2_with (first | (go_at_call 54; clear tok1; refine HW1.out.mono ?_; rintro e w1 ⟨rfl, rfl⟩) | (go_at_call 54; refine HW2.out.mono ?_; rintro e w1 ⟨rfl, rfl⟩) | (go_at_call 53; refine (ak true 100 100 _ rfl).mono ?_; rintro e w2 ⟨rfl, rfl⟩))
    go_ret
    rw [HT.out]
    exact ⟨rfl, HB.out⟩
 ·have h1b : decide ((n2 : Int) ≤ 1) = false := decide_eq_false (by omega)
  rw [show decide (n2 ≤ 1) = false from decide_eq_false h1, Bool.false_and] at HT0
  have HT : Hid (Va.typE t = 100) := J HT0.out
  clear HT0
  have tok1 : True := trivial
  go_wp2_with (first | (go_at_call 54; clear tok1; refine HW1.out.mono ?_; rintro e w1 ⟨rfl, rfl⟩) | (go_at_call 54; refine HW2.out.mono ?_; rintro e w1 ⟨rfl, rfl⟩) | (go_at_call 53; refine (ak false 100 100 _ rfl).mono ?_; rintro e w2 ⟨rfl, rfl⟩))
  go_ret
  rw [HT.out]
  exact ⟨rfl, HB.out⟩
theorem dP (h : VIn w P sp mp m v1 v2 v3 v4 v5 v6 v7 v8 v9 v10 hv) (i : Nat) (t : Nat) (ht : m.funcs[i]? = some t) :
  Calls Tryz.prog 22 #[.pointer (some ⟨P, 0, none⟩), .int .i64 (i : Int)] w fun e w' => e = .returned (.int .i64 ((Va.funE m t : Nat) : Int)) ∧ Below w.heap.size w w' := by
 have hl := h.fit.lots.funcs
 have hi := (List.getElem?_eq_some_iff.1 ht).1
 obtain ⟨A, c, rfl, hc, _, _, hL⟩ := h.rep.funcs
 have x2 := cell15 h.cells 2 _ rfl
 obtain ⟨g, o, rfl, hg, k0, htl⟩ := eq hL ht
 have HT := J (cp h t htl)
 clear h hL ht
 obtain ⟨n, e⟩ : ∃ n, m.funcs.length = n := ⟨_, rfl⟩
 rw [e] at x2 hi hl hc
 clear e
 have hii : (i : Int) < (n : Int) := by omega
 unfold Va.funE
 go_enter Tryz.func22, Tryz.ntmps22
 go_wp2_with (go_at_call 55; refine HT.out.mono ?_; rintro e w1 ⟨rfl, rfl⟩)
 go_ret
 exact ⟨rfl, Below.refl _ _⟩
theorem dQ (h : VIn w P sp mp m v1 v2 v3 v4 v5 v6 v7 v8 v9 v10 hv) (i : Nat) (x : Imp) (hx : m.imports[i]? = some x) :
  Calls Tryz.prog 21 #[.pointer (some ⟨P, 0, none⟩), .int .i64 (i : Int)] w fun e w' => e = .returned (.int .i64 ((Va.impE m x : Nat) : Int)) ∧ Below w.heap.size w w' := by
 have hl := h.fit.lots.imports
 have hi := (List.getElem?_eq_some_iff.1 hx).1
 obtain ⟨A, c, rfl, hc, _, _, hL⟩ := h.rep.imports
 have x1 := cell15 h.cells 1 _ rfl
 obtain ⟨g, o, rfl, hg, _, hxt, _, hcs⟩ := cV hL hx
 have HB0 : Hid (Below w.heap.size w (w.alloc (.cells #[strV x.mod, strV x.name, .int .u8 (x.kind.toNat : Int), .int .u32 (x.type : Int), .int .u32 (x.lim.min : Int), .int .i64 x.lim.max, .int .u8 (x.glob.t.toNat : Int), .bool x.glob.mu] 78))) := J ((Below.refl _ _).alloc (Nat.le_refl _) _)
 have HZ := J (heap_alloc_new w (.cells #[strV x.mod, strV x.name, .int .u8 (x.kind.toNat : Int), .int .u32 (x.type : Int), .int .u32 (x.lim.min : Int), .int .i64 x.lim.max, .int .u8 (x.glob.t.toNat : Int), .bool x.glob.mu] 78))
 have HTT := J (cp (h.grow HB0.out) x.type hxt)
 have HW := J (fun (W : World) => dJ x.glob.t x.glob.t.toNat rfl W)
 have k0 : w.cell? ⟨g, o + i * 8, none⟩ = some (strV x.mod) := hcs 0 _ rfl
 have k1 : w.cell? ⟨g, o + i * 8 + 1, none⟩ = some (strV x.name) := hcs 1 _ rfl
 have k2 : w.cell? ⟨g, o + i * 8 + 2, none⟩ = some (.int .u8 (x.kind.toNat : Int)) := hcs 2 _ rfl
 have k3 : w.cell? ⟨g, o + i * 8 + 3, none⟩ = some (.int .u32 (x.type : Int)) := hcs 3 _ rfl
 have k4 : w.cell? ⟨g, o + i * 8 + 4, none⟩ = some (.int .u32 (x.lim.min : Int)) := hcs 4 _ rfl
 have k5 : w.cell? ⟨g, o + i * 8 + 5, none⟩ = some (.int .i64 x.lim.max) := hcs 5 _ rfl
 have k6 : w.cell? ⟨g, o + i * 8 + 6, none⟩ = some (.int .u8 (x.glob.t.toNat : Int)) := hcs 6 _ rfl
 have k7 : w.cell? ⟨g, o + i * 8 + 7, none⟩ = some (.bool x.glob.mu) := hcs 7 _ rfl
 have HT : Hid (Va.impE m x = if x.kind.toNat = 0 then Va.okE (decide (x.type < m.types.length)) 80 else if x.kind.toNat = 3 then Va.okE (x.glob.t == 127 || x.glob.t == 126) 100 else 0) := J rfl
 clear h hL hx hcs hxt
 obtain ⟨n, e⟩ : ∃ n, m.imports.length = n := ⟨_, rfl⟩
 rw [e] at x1 hi hl hc
 clear e
 have hii : (i : Int) < (n : Int) := by omega
 unfold strV at k0 k1 HB0 HZ HTT
 generalize Va.okE (decide (x.type < m.types.length)) 80 = r0 at HTT HT
 generalize (x.glob.t == 127 || x.glob.t == 126) = b3 at HW HT
 generalize x.glob.t.toNat = gt at *
 generalize x.kind.toNat = kd at *
 generalize (x.type : Int) = xt at *
 generalize (x.lim.min : Int) = xm at *
 generalize x.lim.max = xM at *
 generalize x.glob.mu = gm at *
 go_enter Tryz.func21, Tryz.ntmps21
 go_upto_region 2 with fail
 generalize w.alloc (.cells #[.string ⟨x.mod.toArray⟩, .string ⟨x.name.toArray⟩, .int .u8 (kd : Int), .int .u32 xt, .int .u32 xm, .int .i64 xM, .int .u8 (gt : Int), .bool gm] 78) = w0 at HB0 HZ HTT ⊢
 have z2 := cell15 HZ.out 2 _ rfl
 have z3 := cell15 HZ.out 3 _ rfl
 have z6 := cell15 HZ.out 6 _ rfl
 by_cases hk : kd = 0
 ·subst hk
  rw [if_pos rfl] at HT
  go_wp2_with (go_at_call 55; refine HTT.out.mono ?_; rintro e w1 ⟨rfl, rfl⟩)
  go_ret
  rw [HT.out]
  exact ⟨rfl, HB0.out⟩
 ·rw [if_neg hk] at HT
  have hk0 : ((kd : Int) == 0) = false := by rw [beq_eq_false_iff_ne]; omega
  by_cases hk3 : kd = 3
  ·subst hk3
   rw [if_pos rfl] at HT
   clear hk
   have HB1 : Hid (Below w.heap.size w (w0.alloc (.cells #[.int .u8 (gt : Int)] 5))) := J (HB0.out.alloc HB0.out.size _)
   go_wp2_with (first | (go_at_call 54; refine (HW.out _).mono ?_; rintro e w1 ⟨rfl, rfl⟩) | (go_at_call 53; refine (ak _ 100 100 _ rfl).mono ?_; rintro e w2 ⟨rfl, rfl⟩))
   go_ret
   rw [HT.out]
   exact ⟨rfl, HB1.out⟩
  ·rw [if_neg hk3] at HT
   have hk4 : ((kd : Int) == 3) = false := by rw [beq_eq_false_iff_ne]; omega
   clear hk hk3
   go_wp2_with fail
   go_ret
   rw [HT.out]
   exact ⟨rfl, HB0.out⟩
theorem vcounts_any (h : VIn w P sp mp m v1 v2 v3 v4 v5 v6 v7 v8 v9 v10 hv) (i : Nat)  :
  Calls Tryz.prog 23 #[.pointer (some ⟨P, 0, none⟩), .int .i64 (i : Int)] w fun e w' => e = .returned (.int .i64 ((Va.countE m : Nat) : Int)) ∧ Below w.heap.size w w' := by
 have x12 := cell15 h.cells 12 _ rfl
 have H12 : Hid (∀ W, Below w.heap.size w W → W.cell? ⟨P, 12, none⟩ = some (.pointer (some ⟨sp, 0, none⟩))) := J (fun W hb => cell15 (h.grow hb).cells 12 _ rfl)
 have HC1 := J (fun W (hb : Below w.heap.size w W) => aW (some ⟨sp, 0, none⟩) m 1 (by decide) W (h.grow hb).recv (Lots.some h.fit.lots))
 have HC2 := J (fun W (hb : Below w.heap.size w W) => aW (some ⟨sp, 0, none⟩) m 2 (by decide) W (h.grow hb).recv (Lots.some h.fit.lots))
 have HT : Hid (Va.countE m = Va.okE (decide (count m 1 ≤ 1) && decide (count m 2 ≤ 1)) 112) := J rfl
 clear h
 generalize count m 1 = n1 at *
 generalize count m 2 = n2 at *
 by_cases h1 : n1 ≤ 1
 ·have h1i : (n1 : Int) ≤ 1 := by omega
  have h1b : decide ((n1 : Int) ≤ 1) = true := decide_eq_true h1i
  rw [show decide (n1 ≤ 1) = true from decide_eq_true h1, Bool.true_and] at HT
  by_cases h2 : n2 ≤ 1
  ·have h2i : (n2 : Int) ≤ 1 := by omega
   have h2b : decide ((n2 : Int) ≤ 1) = true := decide_eq_true h2i
   rw [show decide (n2 ≤ 1) = true from decide_eq_true h2] at HT
   go_enter Tryz.func23, Tryz.ntmps23
   have tok1 : True := trivial
   go_wp2_with (first | (go_at_call 10; clear tok1; refine (HC1.out _ (Below.refl _ _)).mono ?_; rintro e w1 ⟨rfl, hb⟩; have HB1 := J hb; have y12 := H12.out _ hb; clear hb) | (go_at_call 10; refine (HC2.out _ HB1.out).mono ?_; rintro e w3 ⟨rfl, hb⟩; have HB2 := J (HB1.out.trans (hb.mono HB1.out.size)); clear hb) | (go_at_call 53; refine (ak true 112 112 _ rfl).mono ?_; rintro e w2 ⟨rfl, rfl⟩))
   go_ret
   rw [HT.out]
   exact ⟨rfl, HB2.out⟩
  ·have h2b : decide ((n2 : Int) ≤ 1) = false := decide_eq_false (by omega)
   rw [show decide (n2 ≤ 1) = false from decide_eq_false h2] at HT
   go_enter Tryz.func23, Tryz.ntmps23
   have tok1 : True := trivial
   go_wp2_with (first | (go_at_call 10; clear tok1; refine (HC1.out _ (Below.refl _ _)).mono ?_; rintro e w1 ⟨rfl, hb⟩; have HB1 := J hb; have y12 := H12.out _ hb; clear hb) | (go_at_call 10; refine (HC2.out _ HB1.out).mono ?_; rintro e w3 ⟨rfl, hb⟩; have HB2 := J (HB1.out.trans (hb.mono HB1.out.size)); clear hb) | (go_at_call 53; refine (ak false 112 112 _ rfl).mono ?_; rintro e w2 ⟨rfl, rfl⟩))
   go_ret
   rw [HT.out]
   exact ⟨rfl, HB2.out⟩
 ·have h1b : decide ((n1 : Int) ≤ 1) = false := decide_eq_false (by omega)
  rw [show decide (n1 ≤ 1) = false from decide_eq_false h1, Bool.false_and] at HT
  go_enter Tryz.func23, Tryz.ntmps23
  have tok1 : True := trivial
  go_wp2_with (first | (go_at_call 10; clear tok1; refine (HC1.out _ (Below.refl _ _)).mono ?_; rintro e w1 ⟨rfl, hb⟩; have HB1 := J hb; have y12 := H12.out _ hb; clear hb) | (go_at_call 10; refine (HC2.out _ HB1.out).mono ?_; rintro e w3 ⟨rfl, hb⟩; have HB2 := J (HB1.out.trans (hb.mono HB1.out.size)); clear hb) | (go_at_call 53; refine (ak false 112 112 _ rfl).mono ?_; rintro e w2 ⟨rfl, rfl⟩))
  go_ret
  rw [HT.out]
  exact ⟨rfl, HB1.out⟩
theorem vtable_any (h : VIn w P sp mp m v1 v2 v3 v4 v5 v6 v7 v8 v9 v10 hv) (i : Nat) (l : Lim) (hx : (tabs m)[i]? = some l) :
  Calls Tryz.prog 24 #[.pointer (some ⟨P, 0, none⟩), .int .i64 (i : Int)] w fun e w' => e = .returned (.int .i64 ((Va.limE 4294967295 l : Nat) : Int)) ∧ Below w.heap.size w w' := by
 have hi := (List.getElem?_eq_some_iff.1 hx).1
 have hb := (Lots.some h.fit.lots).tabs
 have hwf := rep_tabs h.rep l (List.mem_of_getElem? hx)
 have x12 := cell15 h.cells 12 _ rfl
 have hi2 : i < 4294967296 := by omega
 have HF := J (dB (some ⟨sp, 0, none⟩) m i w h.recv (Lots.some h.fit.lots) hi2)
 unfold bC at HF
 rw [hx] at HF
 have HT := J (Va.limE_table hwf.1)
 have HM := J (fun W => dX l hwf W)
 have hw : IntKind.u32.wrap (i : Int) = (i : Int) := IntWalk.u32_in _ (by omega)
 clear h hx hwf hb hi
 generalize mayB l = b at HM HT
 obtain ⟨a, z⟩ := l
 unfold limArr at HF
 dsimp only [Option.getD, Option.isSome] at HF HM HT
 go_enter Tryz.func24, Tryz.ntmps24
 go_wp2_with (first | (go_at_call 56; refine HF.out.mono ?_; rintro e w1 ⟨rfl, hb⟩; have HB := J hb; have HB1 : Hid (Below w.heap.size w (w1.alloc (.cells #[.int .u32 (a : Int), .int .i64 z] 65))) := J (hb.alloc hb.size _); have HZ := J (heap_alloc_new w1 (.cells #[.int .u32 (a : Int), .int .i64 z] 65)); clear hb; obtain ⟨z0, z1⟩ := ae HZ.out) | (go_at_call 57; refine (HM.out _).mono ?_; rintro e w3 ⟨rfl, hb⟩; have HB2 := J (HB1.out.trans (hb.mono HB1.out.size)); clear hb) | (go_at_call 53; refine (ak _ 112 112 _ rfl).mono ?_; rintro e w2 ⟨rfl, rfl⟩))
 go_ret
 rw [HT.out]
 exact ⟨rfl, HB2.out⟩
theorem vmemory_any (h : VIn w P sp mp m v1 v2 v3 v4 v5 v6 v7 v8 v9 v10 hv) (i : Nat) (l : Lim) (hx : (mems m)[i]? = some l) :
  Calls Tryz.prog 25 #[.pointer (some ⟨P, 0, none⟩), .int .i64 (i : Int)] w fun e w' => e = .returned (.int .i64 ((Va.limE 65536 l : Nat) : Int)) ∧ Below w.heap.size w w' := by
 have hi := (List.getElem?_eq_some_iff.1 hx).1
 have hb := (Lots.some h.fit.lots).mems
 have hwf := rep_mems h.rep l (List.mem_of_getElem? hx)
 have x12 := cell15 h.cells 12 _ rfl
 have hi2 : i < 4294967296 := by omega
 have HF := J (dA (some ⟨sp, 0, none⟩) m i w h.recv (Lots.some h.fit.lots) hi2)
 unfold bC at HF
 rw [hx] at HF
 have HT := J (Va.limE_mem (l := l))
 have HM := J (fun W => dX l hwf W)
 have hw : IntKind.u32.wrap (i : Int) = (i : Int) := IntWalk.u32_in _ (by omega)
 clear h hx hwf hb hi
 generalize mayB l = b at HM HT
 obtain ⟨a, z⟩ := l
 unfold limArr at HF
 dsimp only [Option.getD, Option.isSome] at HF HM HT
 cases b with
 | false =>
  rw [Bool.false_and, Bool.false_and] at HT
  go_enter Tryz.func25, Tryz.ntmps25
  go_wp2_with (first | (go_at_call 58; refine HF.out.mono ?_; rintro e w1 ⟨rfl, hb⟩; have HB := J hb; have HB1 : Hid (Below w.heap.size w (w1.alloc (.cells #[.int .u32 (a : Int), .int .i64 z] 65))) := J (hb.alloc hb.size _); have HZ := J (heap_alloc_new w1 (.cells #[.int .u32 (a : Int), .int .i64 z] 65)); clear hb; obtain ⟨z0, z1⟩ := ae HZ.out) | (go_at_call 57; refine (HM.out _).mono ?_; rintro e w3 ⟨rfl, hb⟩; have HB2 := J (HB1.out.trans (hb.mono HB1.out.size)); obtain ⟨y0, y1⟩ := ae ((hb.block _ (by simp)).trans HZ.out); clear hb) | (go_at_call 53; refine (ak false 112 112 _ rfl).mono ?_; rintro e w2 ⟨rfl, rfl⟩))
  go_ret
  rw [HT.out]
  exact ⟨rfl, HB2.out⟩
 | true =>
  by_cases h1 : a ≤ 65536
  ·have h1i : (a : Int) ≤ 65536 := by omega
   have h1b : decide ((a : Int) ≤ 65536) = true := decide_eq_true h1i
   rw [show decide (a ≤ 65536) = true from decide_eq_true h1, Bool.true_and] at HT
   by_cases h2 : z ≤ 65536
   ·have h2b : decide (z ≤ 65536) = true := decide_eq_true h2
    rw [h2b] at HT
    go_enter Tryz.func25, Tryz.ntmps25
    go_wp2_with (first | (go_at_call 58; refine HF.out.mono ?_; rintro e w1 ⟨rfl, hb⟩; have HB := J hb; have HB1 : Hid (Below w.heap.size w (w1.alloc (.cells #[.int .u32 (a : Int), .int .i64 z] 65))) := J (hb.alloc hb.size _); have HZ := J (heap_alloc_new w1 (.cells #[.int .u32 (a : Int), .int .i64 z] 65)); clear hb; obtain ⟨z0, z1⟩ := ae HZ.out) | (go_at_call 57; refine (HM.out _).mono ?_; rintro e w3 ⟨rfl, hb⟩; have HB2 := J (HB1.out.trans (hb.mono HB1.out.size)); obtain ⟨y0, y1⟩ := ae ((hb.block _ (by simp)).trans HZ.out); clear hb) | (go_at_call 53; refine (ak true 112 112 _ rfl).mono ?_; rintro e w2 ⟨rfl, rfl⟩))
    go_ret
    rw [HT.out]
    exact ⟨rfl, HB2.out⟩
   ·have h2b : decide (z ≤ 65536) = false := decide_eq_false h2
    rw [h2b] at HT
    go_enter Tryz.func25, Tryz.ntmps25
    go_wp2_with (first | (go_at_call 58; refine HF.out.mono ?_; rintro e w1 ⟨rfl, hb⟩; have HB := J hb; have HB1 : Hid (Below w.heap.size w (w1.alloc (.cells #[.int .u32 (a : Int), .int .i64 z] 65))) := J (hb.alloc hb.size _); have HZ := J (heap_alloc_new w1 (.cells #[.int .u32 (a : Int), .int .i64 z] 65)); clear hb; obtain ⟨z0, z1⟩ := ae HZ.out) | (go_at_call 57; refine (HM.out _).mono ?_; rintro e w3 ⟨rfl, hb⟩; have HB2 := J (HB1.out.trans (hb.mono HB1.out.size)); obtain ⟨y0, y1⟩ := ae ((hb.block _ (by simp)).trans HZ.out); clear hb) | (go_at_call 53; refine (ak false 112 112 _ rfl).mono ?_; rintro e w2 ⟨rfl, rfl⟩))
    go_ret
    rw [HT.out]
    exact ⟨rfl, HB2.out⟩
  ·have h1b : decide ((a : Int) ≤ 65536) = false := decide_eq_false (by omega)
   rw [show decide (a ≤ 65536) = false from decide_eq_false h1, Bool.true_and, Bool.false_and] at HT
   go_enter Tryz.func25, Tryz.ntmps25
   go_wp2_with (first | (go_at_call 58; refine HF.out.mono ?_; rintro e w1 ⟨rfl, hb⟩; have HB := J hb; have HB1 : Hid (Below w.heap.size w (w1.alloc (.cells #[.int .u32 (a : Int), .int .i64 z] 65))) := J (hb.alloc hb.size _); have HZ := J (heap_alloc_new w1 (.cells #[.int .u32 (a : Int), .int .i64 z] 65)); clear hb; obtain ⟨z0, z1⟩ := ae HZ.out) | (go_at_call 57; refine (HM.out _).mono ?_; rintro e w3 ⟨rfl, hb⟩; have HB2 := J (HB1.out.trans (hb.mono HB1.out.size)); obtain ⟨y0, y1⟩ := ae ((hb.block _ (by simp)).trans HZ.out); clear hb) | (go_at_call 53; refine (ak false 112 112 _ rfl).mono ?_; rintro e w2 ⟨rfl, rfl⟩))
   go_ret
   rw [HT.out]
   exact ⟨rfl, HB2.out⟩
end
end Go.Proofs.YtelcdmkbaegjoaaGreat
