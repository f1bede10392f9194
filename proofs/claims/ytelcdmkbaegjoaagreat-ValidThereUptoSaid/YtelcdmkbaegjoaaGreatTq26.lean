/-
  Layer 11's statements: the chapter's rows hold, given what Check does. (gen/valid/known.py)
-/
import Derived.Test.YtelcdmkbaegjoaaGreatTq01
import Derived.Test.YtelcdmkbaegjoaaGreatTq25
set_option maxRecDepth 100000
set_option maxHeartbeats 4000000
namespace Va
open Bin
def nilM : M := ⟨[], [], [], [], [], [], [], false, 0, [], [], []⟩
def k2 : M := ⟨[], [], [], [], [⟨0, -1⟩, ⟨0, -1⟩], [], [], false, 0, [], [], []⟩
def k3 : M := ⟨[], [], [], [], [⟨2, 1⟩], [], [], false, 0, [], [], []⟩
def kB (x : Ins.I) : M := ⟨[], [], [], [], [], [⟨⟨127, false⟩, [x]⟩], [], false, 0, [], [], []⟩
def kN (n : Nat) : M := ⟨[⟨[], []⟩], [], [0], [], [], [], [⟨[97], 0, 0⟩, ⟨[97], 0, n⟩], false, 0, [], [⟨[], []⟩], []⟩
theorem n0 : num (check nilM) = 0 := by rfl
theorem n2 : num (check k2) = 112 := by rfl
theorem n3 : num (check k3) = 112 := by rfl
theorem n4 : num (check (kB ⟨66, 0, 0, 0, []⟩)) = 100 := by rfl
theorem n5 : num (check (kB ⟨35, 0, 0, 0, []⟩)) = 80 := by rfl
theorem n6 : num (check (kN 0)) = 111 := by rfl
theorem n7 : num (check (kN 1)) = 80 := by rfl
end Va
namespace Go.Proofs.YtelcdmkbaegjoaaGreat
open Go.RowKit Ins Bin Sp
theorem des_vmod : (Tryz.prog.underlying 33).map aggS = some true := by kernel_rfl
theorem cM : (Tryz.prog.info? 33).map (·.size) = some 12 := by kernel_rfl
theorem aF {α : Type} [Lay α] {w : World} {S : Nat → Prop} {xs : List α} {v : Value} {Y : Nat} (h : ab w S xs v) (cs : Array Value) (hy : ∀ k, k < w.heap.size → S k → k ≠ Y) : ab (w.setRow Y cs) S xs v :=
 h.mod (T := (· = Y)) ⟨rfl, rfl, rfl, by simp, fun k _ ht => setRow_other w Y k _ ht⟩ (fun k hk hs e => hy k hk hs e)
theorem litV {α : Type} [Lay α] {W : World} {S : Nat → Prop} {g : Nat} (ys : List (α × List Value)) {xs : List α} {cs : Array Value} {t : TypeId} (h : W.heap[g]? = some (.cells cs t (0, 0))) (hg : S g) (hr : ∀ y ∈ ys, Lay.rep W S y.1 y.2) (hc : (ys.flatMap (·.2)).toArray = cs) (hx : ys.map (·.1) = xs) (n : Nat) (hn : ys.length = n) (hl : n ≤ 1000) : ab W S xs (.slice (some ⟨g, 0, none⟩) n n) := by
 subst hx hc hn
 refine ⟨some ⟨g, 0, none⟩, ys.length, by rw [List.length_map], by rw [List.length_map]; exact Nat.le_refl _, by unfold maxLen; omega, (fun e => by cases e), fun k x hk => ?_⟩
 rw [List.getElem?_map, Option.map_eq_some_iff] at hk
 obtain ⟨y, hy, rfl⟩ := hk
 refine ⟨g, 0, y.2, rfl, hg, (Array.getElem?_eq_some_iff.1 h).1, hr y (List.mem_of_getElem? hy), fun j u hj => ?_⟩
 rw [cell_of_row W g _ _ _ (0, 0) h, Nat.zero_add]
 simpa using di ys hr k y hy j u hj
theorem bK {w : World} {X : Nat} {a b : Value} {t : TypeId} (h : w.heap[X]? = some (.cells #[a, b] t (0, 0))) : w.cell? ⟨X, 0, none⟩ = some a ∧ w.cell? ⟨X, 1, none⟩ = some b := ⟨by rw [cell_of_row w X 0 _ _ (0, 0) h]; rfl, by rw [cell_of_row w X 1 _ _ (0, 0) h]; rfl⟩
theorem dI {m : M} {w w' : World} {e : Ending} (h : VPost m w e w') : ∃ A n c, e = .returned (.tuple #[.slice A n c, .int .i64 (Va.num (Va.check m) : Int)]) ∧ n = (Va.hts (Va.check m)).length ∧ ab w' (· < w'.heap.size) (Va.hts (Va.check m)) (.slice A n c) ∧ Below w.heap.size w w' := by
 obtain ⟨v, rfl, h1, h2⟩ := h
 obtain ⟨A, c, rfl, _⟩ := id h1
 exact ⟨A, _, c, rfl, rfl, h1, h2⟩
theorem cP (hv : bi) (m : M) (v1 v2 v3 v4 v5 v6 v7 v8 v9 v10 : Value) (n : Nat) (w : World) (hM : RepM w (· < w.heap.size) m v1 v2 v3 v4 v5 v6 v7 v8 v9 v10) (hF : FitV m) :
  Calls Tryz.prog 15 #[.agg (modCells m v1 v2 v3 v4 v5 v6 v7 v8 v9 v10), .int .i64 (n : Int)] w fun e w' => e = .returned (.bool (Va.num (Va.check m) == n)) ∧ Below w.heap.size w w' := by
 generalize hcs : modCells m v1 v2 v3 v4 v5 v6 v7 v8 v9 v10 = cs
 have HV : Hid (∀ W, Below w.heap.size w W → Calls Tryz.prog 6 #[.agg cs] W fun e w' => ∃ A k c, e = .returned (.tuple #[.slice A k c, .int .i64 (Va.num (Va.check m) : Int)]) ∧ (Va.num (Va.check m) ≠ 0 → k = 0) ∧ Below W.heap.size W w') := J (fun W hb => by
  subst hcs
  refine (hv m v1 v2 v3 v4 v5 v6 v7 v8 v9 v10 W (hM.grow hb) hF).mono ?_
  intro e w' h
  obtain ⟨A, k, c, h1, h2, _, h4⟩ := dI h
  exact ⟨A, k, c, h1, fun h0 => by rw [h2, Va.hts_err h0]; rfl, h4⟩)
 unfold modCells at hcs
 generalize m.hasStart = hs at hcs
 generalize (m.start : Int) = st at hcs
 subst hcs
 clear hM hF hv
 generalize Va.num (Va.check m) = q at HV ⊢
 have HX0 := J (heap_alloc_new w (.cells #[v1, v2, v3, v4, v5, v6, v7, .bool hs, .int .u32 st, v8, v9, v10] 33))
 have HB0 : Hid (Below w.heap.size w (w.alloc (.cells #[v1, v2, v3, v4, v5, v6, v7, .bool hs, .int .u32 st, v8, v9, v10] 33))) := J ((Below.refl _ _).alloc (Nat.le_refl _) _)
 go_enter Tryz.func15, Tryz.ntmps15
 go_upto_region 1 with fail
 generalize w.alloc (.cells #[v1, v2, v3, v4, v5, v6, v7, .bool hs, .int .u32 st, v8, v9, v10] 33) = w0 at HX0 HB0 ⊢
 obtain ⟨X, hX⟩ : ∃ X, w.heap.size = X := ⟨_, rfl⟩
 rw [hX] at HX0
 simp only [hX]
 clear hX
 obtain ⟨a0, a1, a2, a3, a4, a5, a6, a7, a8, a9, a10, a11⟩ := cells12 HX0.out (Below.refl _ _)
 go_upto_region 2 with (go_at_call 6; refine (HV.out _ HB0.out).mono ?_; rintro e w1 ⟨A, k, c, rfl, h0, hb⟩; have HK := J h0; have HB1 := J (HB0.out.trans (hb.mono HB0.out.size)); clear h0 hb)
 clear a0 a1 a2 a3 a4 a5 a6 a7 a8 a9 a10 a11 HX0
 by_cases hqn : q = n
 ·have HQN := J hqn
  by_cases hq0 : q = 0
  ·have e1 : ((q : Int) == (n : Int)) = true := by rw [beq_iff_eq]; omega
   have e2 : ((q : Int) == 0) = true := by rw [beq_iff_eq]; omega
   clear hqn hq0
   go_wp2_with fail
   go_ret
   exact ⟨by rw [show (q == n) = true by rw [beq_iff_eq]; exact HQN.out]; rfl, HB1.out⟩
  ·obtain rfl := HK.out hq0
   have e1 : ((q : Int) == (n : Int)) = true := by rw [beq_iff_eq]; omega
   have e2 : ((q : Int) == 0) = false := by rw [beq_eq_false_iff_ne]; omega
   clear hqn hq0
   go_wp2_with fail
   go_ret
   exact ⟨by rw [show (q == n) = true by rw [beq_iff_eq]; exact HQN.out]; rfl, HB1.out⟩
 ·have e1 : ((q : Int) == (n : Int)) = false := by rw [beq_eq_false_iff_ne]; omega
  have HQN := J hqn
  clear hqn
  go_wp2_with fail
  go_ret
  exact ⟨by rw [show (q == n) = false by rw [beq_eq_false_iff_ne]; exact HQN.out]; rfl, HB1.out⟩
theorem fit_nilM : FitV Va.nilM := ⟨⟨by simp [Va.nilM], by simp [Va.nilM], by simp [Va.nilM], by simp [Va.nilM], by simp [Va.nilM], by simp [Va.nilM], by simp [Va.nilM], nofun⟩, nofun, nofun, ⟨by simp [Va.nilM], nofun⟩, ⟨by simp [Va.nilM], nofun⟩, ⟨by simp [Va.nilM], nofun⟩⟩
theorem fit_k2 : FitV Va.k2 := ⟨⟨by simp [Va.k2], by simp [Va.k2], by simp [Va.k2], by simp [Va.k2], by simp [Va.k2], by simp [Va.k2], by simp [Va.k2], nofun⟩, nofun, nofun, ⟨by simp [Va.k2], nofun⟩, ⟨by simp [Va.k2], nofun⟩, ⟨by simp [Va.k2], nofun⟩⟩
theorem fit_k3 : FitV Va.k3 := ⟨⟨by simp [Va.k3], by simp [Va.k3], by simp [Va.k3], by simp [Va.k3], by simp [Va.k3], by simp [Va.k3], by simp [Va.k3], nofun⟩, nofun, nofun, ⟨by simp [Va.k3], nofun⟩, ⟨by simp [Va.k3], nofun⟩, ⟨by simp [Va.k3], nofun⟩⟩
theorem fit_kB (x : I) (hx : x.l.length ≤ 1000) : FitV (Va.kB x) := ⟨⟨by simp [Va.kB], by simp [Va.kB], by simp [Va.kB], by simp [Va.kB], by simp [Va.kB], by simp [Va.kB], by simp [Va.kB], nofun⟩, nofun, (fun y hy => by simp [Va.kB] at hy; subst hy; exact ⟨by simp, by simp [tot]; omega⟩), ⟨by simp [Va.kB], nofun⟩, ⟨by simp [Va.kB], nofun⟩, ⟨by simp [Va.kB], nofun⟩⟩
theorem fit_kN (n : Nat) : FitV (Va.kN n) := ⟨⟨by simp [Va.kN], by simp [Va.kN], by simp [Va.kN], by simp [Va.kN], by simp [Va.kN], by simp [Va.kN], by simp [Va.kN], (fun y hy => by simp [Va.kN] at hy; subst hy; exact ⟨by simp, by simp⟩)⟩, (fun y hy => by simp [Va.kN] at hy; rcases hy with rfl | rfl <;> simp), nofun, ⟨by simp [Va.kN], nofun⟩, ⟨by simp [Va.kN], (fun y hy => by simp [Va.kN] at hy; subst hy; exact ⟨by simp, by simp, by simp [tot]⟩)⟩, ⟨by simp [Va.kN], nofun⟩⟩
theorem vis0 (hv : bi) (W : World) :
  Calls Tryz.prog 15 #[.agg #[.slice none 0 0, .slice none 0 0, .slice none 0 0, .slice none 0 0, .slice none 0 0, .slice none 0 0, .slice none 0 0, .bool false, .int .u32 0, .slice none 0 0, .slice none 0 0, .slice none 0 0], .int .i64 0] W fun e w' => e = .returned (.bool true) ∧ Below W.heap.size W w' := by
 have h := cP hv Va.nilM (.slice none 0 0) (.slice none 0 0) (.slice none 0 0) (.slice none 0 0) (.slice none 0 0) (.slice none 0 0) (.slice none 0 0) (.slice none 0 0) (.slice none 0 0) (.slice none 0 0) 0 W ⟨ab.nil _ _, ab.nil _ _, ab.nil _ _, ab.nil _ _, ab.nil _ _, ab.nil _ _, ab.nil _ _, (by show (0 : Nat) < 4294967296; omega), ab.nil _ _, ab.nil _ _, ab.nil _ _⟩ fit_nilM
 rw [Va.n0] at h
 exact h
theorem vis2 (hv : bi) (g : Nat) (W : World) (h0 : W.heap[g]? = some (.cells #[.int .u32 0, .int .i64 (-1), .int .u32 0, .int .i64 (-1)] 65 (0, 0))) :
  Calls Tryz.prog 15 #[.agg #[.slice none 0 0, .slice none 0 0, .slice none 0 0, .slice none 0 0, .slice (some ⟨g, 0, none⟩) 2 2, .slice none 0 0, .slice none 0 0, .bool false, .int .u32 0, .slice none 0 0, .slice none 0 0, .slice none 0 0], .int .i64 112] W fun e w' => e = .returned (.bool true) ∧ Below W.heap.size W w' := by
 have h := cP hv Va.k2 (.slice none 0 0) (.slice none 0 0) (.slice none 0 0) (.slice none 0 0) (.slice (some ⟨g, 0, none⟩) 2 2) (.slice none 0 0) (.slice none 0 0) (.slice none 0 0) (.slice none 0 0) (.slice none 0 0) 112 W ⟨ab.nil _ _, ab.nil _ _, ab.nil _ _, ab.nil _ _, litV (α := Lim) [(⟨0, -1⟩, [.int .u32 0, .int .i64 (-1)]), (⟨0, -1⟩, [.int .u32 0, .int .i64 (-1)])] h0 (Array.getElem?_eq_some_iff.1 h0).1 (by intro y hy; simp at hy; subst hy; exact ⟨rfl, by unfold Lim.wf; decide⟩) rfl rfl 2 rfl (by decide), ab.nil _ _, ab.nil _ _, (by show (0 : Nat) < 4294967296; omega), ab.nil _ _, ab.nil _ _, ab.nil _ _⟩ fit_k2
 rw [Va.n2] at h
 exact h
theorem vis3 (hv : bi) (g : Nat) (W : World) (h0 : W.heap[g]? = some (.cells #[.int .u32 2, .int .i64 1] 65 (0, 0))) :
  Calls Tryz.prog 15 #[.agg #[.slice none 0 0, .slice none 0 0, .slice none 0 0, .slice none 0 0, .slice (some ⟨g, 0, none⟩) 1 1, .slice none 0 0, .slice none 0 0, .bool false, .int .u32 0, .slice none 0 0, .slice none 0 0, .slice none 0 0], .int .i64 112] W fun e w' => e = .returned (.bool true) ∧ Below W.heap.size W w' := by
 have h := cP hv Va.k3 (.slice none 0 0) (.slice none 0 0) (.slice none 0 0) (.slice none 0 0) (.slice (some ⟨g, 0, none⟩) 1 1) (.slice none 0 0) (.slice none 0 0) (.slice none 0 0) (.slice none 0 0) (.slice none 0 0) 112 W ⟨ab.nil _ _, ab.nil _ _, ab.nil _ _, ab.nil _ _, litV (α := Lim) [(⟨2, 1⟩, [.int .u32 2, .int .i64 1])] h0 (Array.getElem?_eq_some_iff.1 h0).1 (by intro y hy; simp at hy; subst hy; exact ⟨rfl, by unfold Lim.wf; decide⟩) rfl rfl 1 rfl (by decide), ab.nil _ _, ab.nil _ _, (by show (0 : Nat) < 4294967296; omega), ab.nil _ _, ab.nil _ _, ab.nil _ _⟩ fit_k3
 rw [Va.n3] at h
 exact h
theorem dg (x : I) (v : Value) (w : World) (hx : ab w (· < w.heap.size) [x] v) :
  Calls Tryz.prog 16 #[v] w fun e w' => ∃ v6, e = .returned (.agg #[.slice none 0 0, .slice none 0 0, .slice none 0 0, .slice none 0 0, .slice none 0 0, v6, .slice none 0 0, .bool false, .int .u32 0, .slice none 0 0, .slice none 0 0, .slice none 0 0]) ∧ ab w' (· < w'.heap.size) (Va.kB x).globals v6 ∧ Below w.heap.size w w' := by
 obtain ⟨A, c, rfl, hcap, hcm, hnil, hL⟩ := hx
 have HX : Hid (ab w (· < w.heap.size) [x] (.slice A 1 c)) := J ⟨A, c, rfl, hcap, hcm, hnil, hL⟩
 clear hcap hcm hnil hL
 obtain ⟨D, hu, hd⟩ := descOf des_vmod
 have HU := J hu
 have HD := J hd
 clear hu hd
 have HZ0 := J (heap_alloc_new w (.cells #[.slice none 0 0, .slice none 0 0, .slice none 0 0, .slice none 0 0, .slice none 0 0, .slice none 0 0, .slice none 0 0, .bool false, .int .u32 0, .slice none 0 0, .slice none 0 0, .slice none 0 0] 33))
 have HB0 : Hid (Below w.heap.size w (w.alloc (.cells #[.slice none 0 0, .slice none 0 0, .slice none 0 0, .slice none 0 0, .slice none 0 0, .slice none 0 0, .slice none 0 0, .bool false, .int .u32 0, .slice none 0 0, .slice none 0 0, .slice none 0 0] 33))) := J ((Below.refl _ _).alloc (Nat.le_refl _) _)
 go_enter Tryz.func16, Tryz.ntmps16
 go_upto_region 1 with fail
 generalize w.alloc (.cells #[.slice none 0 0, .slice none 0 0, .slice none 0 0, .slice none 0 0, .slice none 0 0, .slice none 0 0, .slice none 0 0, .bool false, .int .u32 0, .slice none 0 0, .slice none 0 0, .slice none 0 0] 33) = w0 at HZ0 HB0 ⊢
 obtain ⟨Y, hY⟩ : ∃ Y, w.heap.size = Y := ⟨_, rfl⟩
 rw [hY] at HZ0
 have HY : Hid (w.heap.size = Y) := J hY
 simp only [hY]
 clear hY
 have HYL : Hid (Y < w0.heap.size) := J (Array.getElem?_eq_some_iff.1 HZ0.out).1
 have HG0 := J (heap_alloc_new w0 (.cells #[.int .u8 127, .bool false, .slice A 1 c] 81))
 have HB1 : Hid (Below w0.heap.size w0 (w0.alloc (.cells #[.int .u8 127, .bool false, .slice A 1 c] 81))) := J ((Below.refl _ _).alloc (Nat.le_refl _) _)
 have HZ1 := J ((HB1.out.block Y HYL.out).trans HZ0.out)
 go_wp2_with (refine aj rfl 33 (.tmp 2) (.tmp 7) rfl rfl Y #[.slice none 0 0, .slice none 0 0, .slice none 0 0, .slice none 0 0, .slice none 0 0, .slice (some ⟨w0.heap.size, 0, none⟩) 1 1, .slice none 0 0, .bool false, .int .u32 0, .slice none 0 0, .slice none 0 0, .slice none 0 0] rfl rfl 33 #[.slice none 0 0, .slice none 0 0, .slice none 0 0, .slice none 0 0, .slice none 0 0, .slice none 0 0, .slice none 0 0, .bool false, .int .u32 0, .slice none 0 0, .slice none 0 0, .slice none 0 0] HZ1.out cM rfl (by simp [Value.oneCell']) ?_)
 generalize w0.alloc (.cells #[.int .u8 127, .bool false, .slice A 1 c] 81) = w1 at HG0 HB1 HZ1 ⊢
 refine bodyPost_ret (v := .agg #[.slice none 0 0, .slice none 0 0, .slice none 0 0, .slice none 0 0, .slice none 0 0, .slice (some ⟨w0.heap.size, 0, none⟩) 1 1, .slice none 0 0, .bool false, .int .u32 0, .slice none 0 0, .slice none 0 0, .slice none 0 0]) (bh (p := 2) (ty := 33) (by kernel_rfl) _ _ Y 33 #[.slice none 0 0, .slice none 0 0, .slice none 0 0, .slice none 0 0, .slice none 0 0, .slice (some ⟨w0.heap.size, 0, none⟩) 1 1, .slice none 0 0, .bool false, .int .u32 0, .slice none 0 0, .slice none 0 0, .slice none 0 0] (0, 0) D rfl (setRow_heap _ _ #[.slice none 0 0, .slice none 0 0, .slice none 0 0, .slice none 0 0, .slice none 0 0, .slice none 0 0, .slice none 0 0, .bool false, .int .u32 0, .slice none 0 0, .slice none 0 0, .slice none 0 0] _ _ _ HZ1.out) HU.out HD.out cM) rfl ?_
 have hb1 := HB0.out.trans (HB1.out.mono HB0.out.size)
 have hs1 : ab w1 (fun k => k < w1.heap.size ∧ k ≠ Y) [x] (.slice A 1 c) := (HX.out.mod (T := fun _ => False) (Mod.of_below hb1) (fun _ _ _ h => h)).more (fun k hk hk2 => ⟨hk, by have := HY.out; have hk3 : k < w.heap.size := hk2; omega⟩)
 have hs2 : ab w1 (fun k => k < w1.heap.size ∧ k ≠ Y) (Va.kB x).globals (.slice (some ⟨w0.heap.size, 0, none⟩) 1 1) :=
  litV (α := GV) [(⟨⟨127, false⟩, [x]⟩, [.int .u8 127, .bool false, .slice A 1 c])] HG0.out ⟨(Array.getElem?_eq_some_iff.1 HG0.out).1, by have := HYL.out; omega⟩ (by intro y hy; simp at hy; subst hy; exact ⟨_, rfl, hs1⟩) rfl rfl 1 rfl (by decide)
 exact ⟨_, rfl, (aF hs2 _ (fun _ _ hk => hk.2)).more (fun _ hk _ => hk), ac hb1 (Nat.le_of_eq HY.out) _⟩
theorem visB (hv : bi) (x : I) (hx : x.l.length ≤ 1000) (n : Nat) (hn : Va.num (Va.check (Va.kB x)) = n) (v6 : Value) (W : World) (h6 : ab W (· < W.heap.size) (Va.kB x).globals v6) :
  Calls Tryz.prog 15 #[.agg #[.slice none 0 0, .slice none 0 0, .slice none 0 0, .slice none 0 0, .slice none 0 0, v6, .slice none 0 0, .bool false, .int .u32 0, .slice none 0 0, .slice none 0 0, .slice none 0 0], .int .i64 (n : Int)] W fun e w' => e = .returned (.bool true) ∧ Below W.heap.size W w' := by
 have h := cP hv (Va.kB x) (.slice none 0 0) (.slice none 0 0) (.slice none 0 0) (.slice none 0 0) (.slice none 0 0) (v6) (.slice none 0 0) (.slice none 0 0) (.slice none 0 0) (.slice none 0 0) n W ⟨ab.nil _ _, ab.nil _ _, ab.nil _ _, ab.nil _ _, ab.nil _ _, h6, ab.nil _ _, (by show (0 : Nat) < 4294967296; omega), ab.nil _ _, ab.nil _ _, ab.nil _ _⟩ (fit_kB x hx)
 rw [hn, beq_self_eq_true] at h
 exact h
theorem dj (W : World) (o : Obj) (n : Nat) (h : W.heap.size = n) : (W.alloc o).heap[n]? = some o := by subst h; exact heap_alloc_new W o
theorem fourV (w : World) (o0 o1 o2 o3 : Obj) : ((((w.alloc o0).alloc o1).alloc o2).alloc o3).heap[w.heap.size]? = some o0 ∧ ((((w.alloc o0).alloc o1).alloc o2).alloc o3).heap[w.heap.size + 1]? = some o1 ∧ ((((w.alloc o0).alloc o1).alloc o2).alloc o3).heap[w.heap.size + 2]? = some o2 ∧ ((((w.alloc o0).alloc o1).alloc o2).alloc o3).heap[w.heap.size + 3]? = some o3 ∧ Below w.heap.size w ((((w.alloc o0).alloc o1).alloc o2).alloc o3) := by
 refine ⟨?_, ?_, ?_, ?_, ?_⟩
 ·exact (Below.heap_alloc _ _ _ (by simp <;> omega)).trans ((Below.heap_alloc _ _ _ (by simp <;> omega)).trans ((Below.heap_alloc _ _ _ (by simp <;> omega)).trans (dj _ _ _ (by simp))))
 ·exact (Below.heap_alloc _ _ _ (by simp <;> omega)).trans ((Below.heap_alloc _ _ _ (by simp <;> omega)).trans (dj _ _ _ (by simp)))
 ·exact (Below.heap_alloc _ _ _ (by simp <;> omega)).trans (dj _ _ _ (by simp))
 ·exact dj _ _ _ (by simp)
 ·exact ((((Below.refl _ _).alloc (Nat.le_refl _) _).alloc (by simp) _).alloc (by simp; omega) _).alloc (by simp; omega) _
theorem dH (n : Nat) (hn : n < 4294967296) (w : World) :
  Calls Tryz.prog 17 #[.int .u32 (n : Int)] w fun e w' => ∃ v1 v3 v7 v9, e = .returned (.agg #[v1, .slice none 0 0, v3, .slice none 0 0, .slice none 0 0, .slice none 0 0, v7, .bool false, .int .u32 0, .slice none 0 0, v9, .slice none 0 0]) ∧ ab w' (· < w'.heap.size) (Va.kN n).types v1 ∧ ab w' (· < w'.heap.size) (Va.kN n).funcs v3 ∧ ab w' (· < w'.heap.size) (Va.kN n).exports v7 ∧ ab w' (· < w'.heap.size) (Va.kN n).codes v9 ∧ Below w.heap.size w w' := by
 obtain ⟨D, hu, hd⟩ := descOf des_vmod
 have HU := J hu
 have HD := J hd
 clear hu hd
 have HNN := J hn
 clear hn
 have HZ0 := J (heap_alloc_new w (.cells #[.slice none 0 0, .slice none 0 0, .slice none 0 0, .slice none 0 0, .slice none 0 0, .slice none 0 0, .slice none 0 0, .bool false, .int .u32 0, .slice none 0 0, .slice none 0 0, .slice none 0 0] 33))
 have HB0 : Hid (Below w.heap.size w (w.alloc (.cells #[.slice none 0 0, .slice none 0 0, .slice none 0 0, .slice none 0 0, .slice none 0 0, .slice none 0 0, .slice none 0 0, .bool false, .int .u32 0, .slice none 0 0, .slice none 0 0, .slice none 0 0] 33))) := J ((Below.refl _ _).alloc (Nat.le_refl _) _)
 go_enter Tryz.func17, Tryz.ntmps17
 go_upto_region 1 with fail
 generalize w.alloc (.cells #[.slice none 0 0, .slice none 0 0, .slice none 0 0, .slice none 0 0, .slice none 0 0, .slice none 0 0, .slice none 0 0, .bool false, .int .u32 0, .slice none 0 0, .slice none 0 0, .slice none 0 0] 33) = w0 at HZ0 HB0 ⊢
 obtain ⟨Y, hY⟩ : ∃ Y, w.heap.size = Y := ⟨_, rfl⟩
 rw [hY] at HZ0
 have HY : Hid (w.heap.size = Y) := J hY
 simp only [hY]
 clear hY
 have HYL : Hid (Y < w0.heap.size) := J (Array.getElem?_eq_some_iff.1 HZ0.out).1
 obtain ⟨t0, t1, t2, t3, t4⟩ := fourV w0 (.cells #[.slice none 0 0, .slice none 0 0] 51) (.cells #[.int .u32 0] 28) (.cells #[.slice none 0 0, .slice none 0 0] 48) (.cells #[.string ⟨#[97]⟩, .int .u8 0, .int .u32 0, .string ⟨#[97]⟩, .int .u8 0, .int .u32 (n : Int)] 61)
 have G0 := J t0
 have G1 := J t1
 have G2 := J t2
 have G3 := J t3
 have HB1 := J t4
 have HZ1 := J ((HB1.out.block Y HYL.out).trans HZ0.out)
 clear t0 t1 t2 t3 t4
 go_wp2_with (refine aj rfl 33 (.tmp 2) (.tmp 12) rfl rfl Y #[.slice (some ⟨w0.heap.size, 0, none⟩) 1 1, .slice none 0 0, .slice (some ⟨w0.heap.size + 1, 0, none⟩) 1 1, .slice none 0 0, .slice none 0 0, .slice none 0 0, .slice (some ⟨w0.heap.size + 3, 0, none⟩) 2 2, .bool false, .int .u32 0, .slice none 0 0, .slice (some ⟨w0.heap.size + 2, 0, none⟩) 1 1, .slice none 0 0] rfl rfl 33 #[.slice none 0 0, .slice none 0 0, .slice none 0 0, .slice none 0 0, .slice none 0 0, .slice none 0 0, .slice none 0 0, .bool false, .int .u32 0, .slice none 0 0, .slice none 0 0, .slice none 0 0] HZ1.out cM rfl (by simp [Value.oneCell']) ?_)
 generalize ((((w0.alloc (.cells #[.slice none 0 0, .slice none 0 0] 51)).alloc (.cells #[.int .u32 0] 28)).alloc (.cells #[.slice none 0 0, .slice none 0 0] 48)).alloc (.cells #[.string ⟨#[97]⟩, .int .u8 0, .int .u32 0, .string ⟨#[97]⟩, .int .u8 0, .int .u32 (n : Int)] 61)) = w1 at G0 G1 G2 G3 HB1 HZ1 ⊢
 refine bodyPost_ret (v := .agg #[.slice (some ⟨w0.heap.size, 0, none⟩) 1 1, .slice none 0 0, .slice (some ⟨w0.heap.size + 1, 0, none⟩) 1 1, .slice none 0 0, .slice none 0 0, .slice none 0 0, .slice (some ⟨w0.heap.size + 3, 0, none⟩) 2 2, .bool false, .int .u32 0, .slice none 0 0, .slice (some ⟨w0.heap.size + 2, 0, none⟩) 1 1, .slice none 0 0]) (bh (p := 2) (ty := 33) (by kernel_rfl) _ _ Y 33 #[.slice (some ⟨w0.heap.size, 0, none⟩) 1 1, .slice none 0 0, .slice (some ⟨w0.heap.size + 1, 0, none⟩) 1 1, .slice none 0 0, .slice none 0 0, .slice none 0 0, .slice (some ⟨w0.heap.size + 3, 0, none⟩) 2 2, .bool false, .int .u32 0, .slice none 0 0, .slice (some ⟨w0.heap.size + 2, 0, none⟩) 1 1, .slice none 0 0] (0, 0) D rfl (setRow_heap _ _ #[.slice none 0 0, .slice none 0 0, .slice none 0 0, .slice none 0 0, .slice none 0 0, .slice none 0 0, .slice none 0 0, .bool false, .int .u32 0, .slice none 0 0, .slice none 0 0, .slice none 0 0] _ _ _ HZ1.out) HU.out HD.out cM) rfl ?_
 have hb1 := HB0.out.trans (HB1.out.mono HB0.out.size)
 have hin : ∀ k o, w1.heap[w0.heap.size + k]? = some o → w0.heap.size + k < w1.heap.size ∧ w0.heap.size + k ≠ Y := fun k o h => ⟨(Array.getElem?_eq_some_iff.1 h).1, by have := HYL.out; omega⟩
 have s0 : ab w1 (fun k => k < w1.heap.size ∧ k ≠ Y) (Va.kN n).types (.slice (some ⟨w0.heap.size, 0, none⟩) 1 1) := litV (α := FT) [(⟨[], []⟩, [.slice none 0 0, .slice none 0 0])] G0.out (hin 0 _ G0.out) (by intro y hy; simp at hy; subst hy; exact ⟨_, _, rfl, ab.nil _ _, ab.nil _ _⟩) rfl rfl 1 rfl (by decide)
 have s1 : ab w1 (fun k => k < w1.heap.size ∧ k ≠ Y) (Va.kN n).funcs (.slice (some ⟨w0.heap.size + 1, 0, none⟩) 1 1) := litV (α := Nat) [(0, [.int .u32 0])] G1.out (hin 1 _ G1.out) (by intro y hy; simp at hy; subst hy; exact ⟨rfl, by decide⟩) rfl rfl 1 rfl (by decide)
 have s2 : ab w1 (fun k => k < w1.heap.size ∧ k ≠ Y) (Va.kN n).codes (.slice (some ⟨w0.heap.size + 2, 0, none⟩) 1 1) := litV (α := Cd) [(⟨[], []⟩, [.slice none 0 0, .slice none 0 0])] G2.out (hin 2 _ G2.out) (by intro y hy; simp at hy; subst hy; exact ⟨_, _, rfl, ab.nil _ _, ab.nil _ _⟩) rfl rfl 1 rfl (by decide)
 have s3 : ab w1 (fun k => k < w1.heap.size ∧ k ≠ Y) (Va.kN n).exports (.slice (some ⟨w0.heap.size + 3, 0, none⟩) 2 2) := litV (α := Exp) [(⟨[97], 0, 0⟩, [.string ⟨#[97]⟩, .int .u8 0, .int .u32 0]), (⟨[97], 0, n⟩, [.string ⟨#[97]⟩, .int .u8 0, .int .u32 (n : Int)])] G3.out (hin 3 _ G3.out) (by intro y hy; simp at hy; rcases hy with rfl | rfl; exact ⟨rfl, by decide⟩; exact ⟨rfl, HNN.out⟩) rfl rfl 2 rfl (by decide)
 exact ⟨_, _, _, _, rfl, (aF s0 _ (fun _ _ hk => hk.2)).more (fun _ hk _ => hk), (aF s1 _ (fun _ _ hk => hk.2)).more (fun _ hk _ => hk), (aF s3 _ (fun _ _ hk => hk.2)).more (fun _ hk _ => hk), (aF s2 _ (fun _ _ hk => hk.2)).more (fun _ hk _ => hk), ac hb1 (Nat.le_of_eq HY.out) _⟩
theorem visN (hv : bi) (k n : Nat) (hn : Va.num (Va.check (Va.kN k)) = n) (v1 v3 v7 v9 : Value) (W : World) (h1 : ab W (· < W.heap.size) (Va.kN k).types v1) (h3 : ab W (· < W.heap.size) (Va.kN k).funcs v3) (h7 : ab W (· < W.heap.size) (Va.kN k).exports v7) (h9 : ab W (· < W.heap.size) (Va.kN k).codes v9) :
  Calls Tryz.prog 15 #[.agg #[v1, .slice none 0 0, v3, .slice none 0 0, .slice none 0 0, .slice none 0 0, v7, .bool false, .int .u32 0, .slice none 0 0, v9, .slice none 0 0], .int .i64 (n : Int)] W fun e w' => e = .returned (.bool true) ∧ Below W.heap.size W w' := by
 have h := cP hv (Va.kN k) (v1) (.slice none 0 0) (v3) (.slice none 0 0) (.slice none 0 0) (.slice none 0 0) (v7) (.slice none 0 0) (v9) (.slice none 0 0) n W ⟨h1, ab.nil _ _, h3, ab.nil _ _, ab.nil _ _, ab.nil _ _, h7, (by show (0 : Nat) < 4294967296; omega), ab.nil _ _, h9, ab.nil _ _⟩ (fit_kN k)
 rw [hn, beq_self_eq_true] at h
 exact h
theorem known11 (hv : bi) (w : World) : Calls Tryz.prog 5 #[] w fun e w' => e = .returned (.bool true) ∧ Below w.heap.size w w' := by
 have HV := J hv
 clear hv
 go_enter Tryz.func5, Tryz.ntmps5
 go_upto_region 2 with fail
 have HZ := J (heap_alloc_new w (.cells #[.int .u32 0, .int .i64 (-1)] 65))
 have HBz0 : Hid (Below w.heap.size w (w.alloc (.cells #[.int .u32 0, .int .i64 (-1)] 65))) := J ((Below.refl _ _).alloc (Nat.le_refl _) _)
 generalize w.alloc (.cells #[.int .u32 0, .int .i64 (-1)] 65) = z0 at HZ HBz0 ⊢
 obtain ⟨Z, hZ⟩ : ∃ Z, w.heap.size = Z := ⟨_, rfl⟩
 rw [hZ] at HZ
 simp only [hZ]
 clear hZ
 have tok1 : True := trivial
 have tok2 : True := trivial
 have tok3 : True := trivial
 have tok4 : True := trivial
 have tok5 : True := trivial
 have tok6 : True := trivial
 have tok7 : True := trivial
 have tok8 : True := trivial
 have tok9 : True := trivial
 have tok10 : True := trivial
 have tok11 : True := trivial
 go_wp2_with (first | (clear tok1; go_at_call 15; refine (vis0 HV.out z0).mono ?_; rintro e z1 ⟨rfl, hb⟩; have HBz1 : Hid (Below w.heap.size w z1) := J (HBz0.out.trans (hb.mono HBz0.out.size)); have hz1 := (hb.block Z (Array.getElem?_eq_some_iff.1 HZ.out).1).trans HZ.out; have q0 := (bK hz1).1; have q1 := (bK hz1).2; clear hb hz1) | (clear tok2; go_at_call 15; refine (vis2 HV.out _ (z1.alloc (.cells #[.int .u32 0, .int .i64 (-1), .int .u32 0, .int .i64 (-1)] 65)) (heap_alloc_new z1 _)).mono ?_; rintro e z2 ⟨rfl, hb⟩; have HBz2 : Hid (Below w.heap.size w z2) := J ((HBz1.out.alloc HBz1.out.size _).trans (hb.mono (by have := HBz1.out.size; simp; omega))); clear hb) | (clear tok3; go_at_call 15; refine (vis3 HV.out _ (z2.alloc (.cells #[.int .u32 2, .int .i64 1] 65)) (heap_alloc_new z2 _)).mono ?_; rintro e z3 ⟨rfl, hb⟩; have HBz3 : Hid (Below w.heap.size w z3) := J ((HBz2.out.alloc HBz2.out.size _).trans (hb.mono (by have := HBz2.out.size; simp; omega))); clear hb) | (clear tok4; go_at_call 16; refine (dg ⟨66, 0, 0, 0, []⟩ _ (z3.alloc (.cells #[.int .u8 66, .int .u32 0, .int .u32 0, .int .i64 0, .slice none 0 0] 57)) (litV (α := I) [(⟨66, 0, 0, 0, []⟩, [.int .u8 66, .int .u32 0, .int .u32 0, .int .i64 0, .slice none 0 0])] (heap_alloc_new z3 _) (by simp) (by intro y hy; simp at hy; subst hy; exact ⟨none, 0, rfl, ⟨by decide, by decide, by decide, by decide, by decide, nofun⟩, by decide, by unfold maxLen; omega, HasU.nil _ _ _⟩) rfl rfl 1 rfl (by decide))).mono ?_; rintro e z4 ⟨v6, rfl, h6, hb⟩; have Hz4 := J h6; have HBz4 : Hid (Below w.heap.size w z4) := J ((HBz3.out.alloc HBz3.out.size _).trans (hb.mono (by have := HBz3.out.size; simp; omega))); clear h6 hb) | (clear tok5; go_at_call 15; refine (visB HV.out ⟨66, 0, 0, 0, []⟩ (by decide) 100 Va.n4 v6 z4 Hz4.out).mono ?_; rintro e z5 ⟨rfl, hb⟩; have HBz5 : Hid (Below w.heap.size w z5) := J (HBz4.out.trans (hb.mono HBz4.out.size)); clear hb) | (clear tok6; go_at_call 16; refine (dg ⟨35, 0, 0, 0, []⟩ _ (z5.alloc (.cells #[.int .u8 35, .int .u32 0, .int .u32 0, .int .i64 0, .slice none 0 0] 57)) (litV (α := I) [(⟨35, 0, 0, 0, []⟩, [.int .u8 35, .int .u32 0, .int .u32 0, .int .i64 0, .slice none 0 0])] (heap_alloc_new z5 _) (by simp) (by intro y hy; simp at hy; subst hy; exact ⟨none, 0, rfl, ⟨by decide, by decide, by decide, by decide, by decide, nofun⟩, by decide, by unfold maxLen; omega, HasU.nil _ _ _⟩) rfl rfl 1 rfl (by decide))).mono ?_; rintro e z6 ⟨v6, rfl, h6, hb⟩; have Hz6 := J h6; have HBz6 : Hid (Below w.heap.size w z6) := J ((HBz5.out.alloc HBz5.out.size _).trans (hb.mono (by have := HBz5.out.size; simp; omega))); clear h6 hb) | (clear tok7; go_at_call 15; refine (visB HV.out ⟨35, 0, 0, 0, []⟩ (by decide) 80 Va.n5 v6 z6 Hz6.out).mono ?_; rintro e z7 ⟨rfl, hb⟩; have HBz7 : Hid (Below w.heap.size w z7) := J (HBz6.out.trans (hb.mono HBz6.out.size)); clear hb) | (clear tok8; go_at_call 17; refine (dH 0 (by decide) z7).mono ?_; rintro e z8 ⟨v1, v3, v7, v9, rfl, h1, h3, h7, h9, hb⟩; have Hz8 := J (And.intro h1 (And.intro h3 (And.intro h7 h9))); have HBz8 : Hid (Below w.heap.size w z8) := J (HBz7.out.trans (hb.mono HBz7.out.size)); clear h1 h3 h7 h9 hb) | (clear tok9; go_at_call 15; refine (visN HV.out 0 111 Va.n6 v1 v3 v7 v9 z8 Hz8.out.1 Hz8.out.2.1 Hz8.out.2.2.1 Hz8.out.2.2.2).mono ?_; rintro e z9 ⟨rfl, hb⟩; have HBz9 : Hid (Below w.heap.size w z9) := J (HBz8.out.trans (hb.mono HBz8.out.size)); clear hb) | (clear tok10; go_at_call 17; refine (dH 1 (by decide) z9).mono ?_; rintro e z10 ⟨v1, v3, v7, v9, rfl, h1, h3, h7, h9, hb⟩; have Hz10 := J (And.intro h1 (And.intro h3 (And.intro h7 h9))); have HBz10 : Hid (Below w.heap.size w z10) := J (HBz9.out.trans (hb.mono HBz9.out.size)); clear h1 h3 h7 h9 hb) | (clear tok11; go_at_call 15; refine (visN HV.out 1 80 Va.n7 v1 v3 v7 v9 z10 Hz10.out.1 Hz10.out.2.1 Hz10.out.2.2.1 Hz10.out.2.2.2).mono ?_; rintro e z11 ⟨rfl, hb⟩; have HBz11 : Hid (Below w.heap.size w z11) := J (HBz10.out.trans (hb.mono HBz10.out.size)); clear hb))
 go_ret
 exact ⟨rfl, HBz11.out⟩
def limArr (x : Lim) : Array Value := #[.int .u32 (x.min : Int), .int .i64 x.max]
def globArr (x : Glob) : Array Value := #[.int .u8 (x.t.toNat : Int), .bool x.mu]
def bC (o : Option Lim) (w : World) (e : Ending) (w' : World) : Prop := e = .returned (.tuple #[.agg (limArr (o.getD ⟨0, 0⟩)), .bool o.isSome]) ∧ Below w.heap.size w w'
def bz (o : Option Glob) (w : World) (e : Ending) (w' : World) : Prop := e = .returned (.tuple #[.agg (globArr (o.getD ⟨0, false⟩)), .bool o.isSome]) ∧ Below w.heap.size w w'
theorem lim_at {w : World} {S : Nat → Prop} {A : Option Addr} {xs : List Lim} {k : Nat} {x : Lim} (h : HasL w S A xs) (hx : xs[k]? = some x) : ∃ g o, A = some ⟨g, o, none⟩ ∧ g < w.heap.size ∧ w.cell? ⟨g, o + k * 2, none⟩ = some (.int .u32 (x.min : Int)) ∧ w.cell? ⟨g, o + k * 2 + 1, none⟩ = some (.int .i64 x.max) := by
 obtain ⟨g, o, cs, h1, _, h3, ⟨rfl, _⟩, h6⟩ := h k x hx
 exact ⟨g, o, h1, h3, h6 0 _ rfl, h6 1 _ rfl⟩
end Go.Proofs.YtelcdmkbaegjoaaGreat
