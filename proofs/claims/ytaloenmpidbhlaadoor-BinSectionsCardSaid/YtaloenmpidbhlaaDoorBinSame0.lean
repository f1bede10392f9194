/-
  The document's numbers, limits, codes of lists that are one. (gen/binsame.py)
-/
import Derived.Test.YtaloenmpidbhlaaDoorBinLay
import Derived.Test.YtaloenmpidbhlaaDoorInsSame
import Derived.Test.YtaloenmpidbhlaaDoorDrawn
import Derived.Deep.CutRange
namespace Go.Proofs.YtaloenmpidbhlaaDoor
open Go.RowKit Ins Bin
set_option maxRecDepth 100000 in
set_option maxHeartbeats 2000000 in
theorem numbers_any (S1 S2 : Nat → Prop) (l : List Nat) (A1 A2 : Option Addr) (c1 c2 : Nat) (w : World) (h1 : HasL w S1 A1 l) (h2 : HasL w S2 A2 l) (hlen : l.length ≤ 140737488355328) :
    Calls Tryd.prog 14 #[.slice A1 l.length c1, .slice A2 l.length c2] w fun e w' => e = .returned (.bool true) ∧ Below w.heap.size w w' := by
  obtain ⟨n, hn⟩ : ∃ n, l.length = n := ⟨_, rfl⟩
  rw [hn] at hlen ⊢
  have HN := Lib.hid hn
  have H1 := Lib.hid h1
  have H2 := Lib.hid h2
  clear h1 h2 hn
  have e5 : ((n : Int) == (n : Int)) = true := by simp
  go_enter Tryd.func14, Tryd.ntmps14
  go_wp2_with fail
  go_loopw [5, 6] (fun b i wr => ∃ j : Nat, j ≤ n ∧ i = .int .i64 (j : Int) ∧ b = .bool true ∧ Hid (Below w.heap.size w wr)) (fun _ i _ => n - (intOf i).toNat)
  case atStart => exact ⟨0, by omega, rfl, rfl, Lib.hid (Below.refl _ _)⟩
  case round =>
    obtain ⟨j, hj, rfl, rfl, HB⟩ := hrel
    by_cases hjn : j < n
    · obtain ⟨x, hx⟩ : ∃ x, l[j]? = some x := ⟨_, List.getElem?_eq_getElem (by have := HN.out; omega)⟩
      have hji : (j : Int) < (n : Int) := by omega
      obtain ⟨g1, o1, cs1, rfl, _, hg1, ⟨rfl, _⟩, k1⟩ := H1.out j x hx
      obtain ⟨g2, o2, cs2, rfl, _, hg2, ⟨rfl, _⟩, k2⟩ := H2.out j x hx
      have p0 := (HB.out.cell (p := ⟨g1, o1 + j * 1 + 0, none⟩) hg1).trans (k1 0 _ rfl)
      have q0 := (HB.out.cell (p := ⟨g2, o2 + j * 1 + 0, none⟩) hg2).trans (k2 0 _ rfl)
      simp only [Nat.mul_one, Nat.add_zero] at p0 q0
      have eu : ((x : Int) == (x : Int)) = true := by simp
      clear k1 k2 hx
      go_wp2_with fail
      go_quiet (fail)
      go_wp2_with fail
      go_roundw
      case rel => exact ⟨j + 1, by omega, by go_num, rfl, Lib.hid (Go.Proofs.YtaloenmpidbhlaaDoor.Below.dn HB.out _)⟩
      case measure => simp [intOf]; omega
    · obtain rfl : j = n := by omega
      go_wp2_with fail
      go_ret
      exact ⟨rfl, HB.out⟩
set_option maxRecDepth 100000 in
set_option maxHeartbeats 2000000 in
theorem limits_any (S1 S2 : Nat → Prop) (l : List Lim) (A1 A2 : Option Addr) (c1 c2 : Nat) (w : World) (h1 : HasL w S1 A1 l) (h2 : HasL w S2 A2 l) (hlen : l.length ≤ 140737488355328) :
    Calls Tryd.prog 15 #[.slice A1 l.length c1, .slice A2 l.length c2] w fun e w' => e = .returned (.bool true) ∧ Below w.heap.size w w' := by
  obtain ⟨n, hn⟩ : ∃ n, l.length = n := ⟨_, rfl⟩
  rw [hn] at hlen ⊢
  have HN := Lib.hid hn
  have H1 := Lib.hid h1
  have H2 := Lib.hid h2
  clear h1 h2 hn
  have e5 : ((n : Int) == (n : Int)) = true := by simp
  go_enter Tryd.func15, Tryd.ntmps15
  go_wp2_with fail
  go_loopw [5, 6] (fun b i wr => ∃ j : Nat, j ≤ n ∧ i = .int .i64 (j : Int) ∧ b = .bool true ∧ Hid (Below w.heap.size w wr)) (fun _ i _ => n - (intOf i).toNat)
  case atStart => exact ⟨0, by omega, rfl, rfl, Lib.hid (Below.refl _ _)⟩
  case round =>
    obtain ⟨j, hj, rfl, rfl, HB⟩ := hrel
    by_cases hjn : j < n
    · obtain ⟨x, hx⟩ : ∃ x, l[j]? = some x := ⟨_, List.getElem?_eq_getElem (by have := HN.out; omega)⟩
      have hji : (j : Int) < (n : Int) := by omega
      obtain ⟨g1, o1, cs1, rfl, _, hg1, ⟨rfl, _⟩, k1⟩ := H1.out j x hx
      obtain ⟨g2, o2, cs2, rfl, _, hg2, ⟨rfl, _⟩, k2⟩ := H2.out j x hx
      have p0 := (HB.out.cell (p := ⟨g1, o1 + j * 2 + 0, none⟩) hg1).trans (k1 0 _ rfl)
      have p1 := (HB.out.cell (p := ⟨g1, o1 + j * 2 + 1, none⟩) hg1).trans (k1 1 _ rfl)
      have q0 := (HB.out.cell (p := ⟨g2, o2 + j * 2 + 0, none⟩) hg2).trans (k2 0 _ rfl)
      have q1 := (HB.out.cell (p := ⟨g2, o2 + j * 2 + 1, none⟩) hg2).trans (k2 1 _ rfl)
      simp only [Nat.add_zero] at p0 q0
      obtain ⟨mi, ma⟩ := x
      simp only at p0 p1 q0 q1
      have eu : ((mi : Int) == (mi : Int)) = true := by simp
      have ev : (ma == ma) = true := by simp
      clear k1 k2 hx
      go_wp2_with fail
      go_quiet (fail)
      go_wp2_with fail
      go_roundw
      case rel => exact ⟨j + 1, by omega, by go_num, rfl, Lib.hid (Go.Proofs.YtaloenmpidbhlaaDoor.Below.dn HB.out _)⟩
      case measure => simp [intOf]; omega
    · obtain rfl : j = n := by omega
      go_wp2_with fail
      go_ret
      exact ⟨rfl, HB.out⟩
set_option maxRecDepth 100000 in
set_option maxHeartbeats 4000000 in
theorem codes_any (S1 S2 : Nat → Prop) (l : List Cd) (A1 A2 : Option Addr) (c1 c2 : Nat) (w : World) (h1 : HasL w S1 A1 l) (h2 : HasL w S2 A2 l) (hlen : l.length ≤ 140737488355328) (hin : ∀ x ∈ l, x.locals.length ≤ 140737488355328 ∧ x.body.length ≤ 140737488355328 ∧ ∀ y ∈ x.body, y.l.length ≤ 140737488355328) :
    Calls Tryd.prog 16 #[.slice A1 l.length c1, .slice A2 l.length c2] w fun e w' => e = .returned (.bool true) ∧ Below w.heap.size w w' := by
  obtain ⟨n, hn⟩ : ∃ n, l.length = n := ⟨_, rfl⟩
  rw [hn] at hlen ⊢
  have HN := Lib.hid hn
  have H1 := Lib.hid h1
  have H2 := Lib.hid h2
  have HIN := Lib.hid hin
  clear h1 h2 hn hin
  have e5 : ((n : Int) == (n : Int)) = true := by simp
  go_enter Tryd.func16, Tryd.ntmps16
  go_wp2_with fail
  go_loopw [5, 6] (fun b i wr => ∃ j : Nat, j ≤ n ∧ i = .int .i64 (j : Int) ∧ b = .bool true ∧ Hid (Below w.heap.size w wr)) (fun _ i _ => n - (intOf i).toNat)
  case atStart => exact ⟨0, by omega, rfl, rfl, Lib.hid (Below.refl _ _)⟩
  case round =>
    obtain ⟨j, hj, rfl, rfl, HB⟩ := hrel
    by_cases hjn : j < n
    · obtain ⟨x, hx⟩ : ∃ x, l[j]? = some x := ⟨_, List.getElem?_eq_getElem (by have := HN.out; omega)⟩
      have hji : (j : Int) < (n : Int) := by omega
      have hxi := HIN.out x (List.mem_of_getElem? hx)
      obtain ⟨g1, o1, cs1, rfl, _, hg1, ⟨u1, t1, rfl, ⟨B1, d1, rfl, _, _, _, hl1⟩, ⟨C1, b1, rfl, _, _, _, hi1⟩⟩, k1⟩ := H1.out j x hx
      obtain ⟨g2, o2, cs2, rfl, _, hg2, ⟨u2, t2, rfl, ⟨B2, d2, rfl, _, _, _, hl2⟩, ⟨C2, b2, rfl, _, _, _, hi2⟩⟩, k2⟩ := H2.out j x hx
      obtain ⟨ls, bd⟩ := x
      simp only at hxi hl1 hl2 hi1 hi2 k1 k2
      have HC := Lib.hid (fun W (hb : Below w.heap.size w W) => sameAll_any S1 S2 bd C1 C2 b1 b2 W (hi1.ins.mod (Mod.of_below (T := fun _ => False) hb) (fun _ _ _ h => h)) (hi2.ins.mod (Mod.of_below (T := fun _ => False) hb) (fun _ _ _ h => h)) hxi.2.1 hxi.2.2)
      obtain ⟨m, hm⟩ : ∃ m, ls.length = m := ⟨_, rfl⟩
      obtain ⟨nb, hnb⟩ : ∃ nb, bd.length = nb := ⟨_, rfl⟩
      have HM := Lib.hid hm
      have hm47 : m ≤ 140737488355328 := by omega
      rw [hnb] at HC
      rw [hm, hnb] at k1 k2
      have HQ := Lib.hid (fun W (hb : Below w.heap.size w W) => (⟨(hb.cell (p := ⟨g1, o1 + j * 2 + 0, none⟩) hg1).trans (k1 0 _ rfl), (hb.cell (p := ⟨g1, o1 + j * 2 + 1, none⟩) hg1).trans (k1 1 _ rfl), (hb.cell (p := ⟨g2, o2 + j * 2 + 0, none⟩) hg2).trans (k2 0 _ rfl), (hb.cell (p := ⟨g2, o2 + j * 2 + 1, none⟩) hg2).trans (k2 1 _ rfl)⟩ :
        W.cell? ⟨g1, o1 + j * 2, none⟩ = some (.slice B1 m d1) ∧ W.cell? ⟨g1, o1 + j * 2 + 1, none⟩ = some (.slice C1 nb b1) ∧ W.cell? ⟨g2, o2 + j * 2, none⟩ = some (.slice B2 m d2) ∧ W.cell? ⟨g2, o2 + j * 2 + 1, none⟩ = some (.slice C2 nb b2)))
      have HL1 := Lib.hid hl1
      have HL2 := Lib.hid hl2
      have em : ((m : Int) == (m : Int)) = true := by simp
      clear k1 k2 hx hm hnb hxi hl1 hl2 hi1 hi2 hg1 hg2
      go_upto_region 5 with fail
      have hcd := HQ.out _ (HB.out.drew)
      refine wp_region_held_drew (S := (fun w' => w'.cell? ⟨g1, o1 + j * 2, none⟩ = some (.slice B1 m d1) ∧ w'.cell? ⟨g1, o1 + j * 2 + 1, none⟩ = some (.slice C1 nb b1) ∧ w'.cell? ⟨g2, o2 + j * 2, none⟩ = some (.slice B2 m d2) ∧ w'.cell? ⟨g2, o2 + j * 2 + 1, none⟩ = some (.slice C2 nb b2))) (by kernel_rfl) (hcd) (fun hHeld => ?_)
      refine drawn_take 0 rfl (by kernel_rfl) (by kernel_rfl) (by kernel_rfl) (fun _ _ _ h => h) (by rfl) (by assumption) (v := ?_) ?_ ?_
      rotate_left
      · (intro wy hSw; (try dsimp only at hSw); go_simp; try with_reducible rfl)
      simp only [Act.put, List.setIfInBounds_toArray, List.set_cons_zero, List.set_cons_succ]
      refine drawn_take 1 rfl (by kernel_rfl) (by kernel_rfl) (by kernel_rfl) (fun _ _ _ h => h) (by rfl) (by assumption) (v := ?_) ?_ ?_
      rotate_left
      · (intro wy hSw; (try dsimp only at hSw); go_simp; try with_reducible rfl)
      simp only [Act.put, List.setIfInBounds_toArray, List.set_cons_zero, List.set_cons_succ]
      refine drawn_take 2 rfl (by kernel_rfl) (by kernel_rfl) (by kernel_rfl) (fun _ _ _ h => h) (by rfl) (by assumption) (v := ?_) ?_ ?_
      rotate_left
      · (intro wy hSw; (try dsimp only at hSw); go_simp; try with_reducible rfl)
      simp only [Act.put, List.setIfInBounds_toArray, List.set_cons_zero, List.set_cons_succ]
      refine drawn_take 3 rfl (by kernel_rfl) (by kernel_rfl) (by kernel_rfl) (fun _ _ _ h => h) (by rfl) (by assumption) (v := ?_) ?_ ?_
      rotate_left
      · (intro wy hSw; (try dsimp only at hSw); go_simp; try with_reducible rfl)
      simp only [Act.put, List.setIfInBounds_toArray, List.set_cons_zero, List.set_cons_succ]
      refine drawn_take 4 rfl (by kernel_rfl) (by kernel_rfl) (by kernel_rfl) (fun _ _ _ h => h) (by rfl) (by assumption) (v := ?_) ?_ ?_
      rotate_left
      · (intro wy hSw; (try dsimp only at hSw); go_simp; try with_reducible rfl)
      simp only [Act.put, List.setIfInBounds_toArray, List.set_cons_zero, List.set_cons_succ]
      refine drawn_take 5 rfl (by kernel_rfl) (by kernel_rfl) (by kernel_rfl) (fun _ _ _ h => h) (by rfl) (by assumption) (v := ?_) ?_ ?_
      rotate_left
      · (intro wy hSw; (try dsimp only at hSw); go_simp; try with_reducible rfl)
      simp only [Act.put, List.setIfInBounds_toArray, List.set_cons_zero, List.set_cons_succ]
      refine drawn_take 6 rfl (by kernel_rfl) (by kernel_rfl) (by kernel_rfl) (fun _ _ _ h => h) (by rfl) (by assumption) (v := ?_) ?_ ?_
      rotate_left
      · (intro wy hSw; (try dsimp only at hSw); go_simp; try with_reducible rfl)
      simp only [Act.put, List.setIfInBounds_toArray, List.set_cons_zero, List.set_cons_succ]
      refine drawn_take 7 rfl (by kernel_rfl) (by kernel_rfl) (by kernel_rfl) (fun _ _ _ h => h) (by rfl) (by assumption) (v := ?_) ?_ ?_
      rotate_left
      · (intro wy hSw; (try dsimp only at hSw); go_simp; try with_reducible rfl)
      simp only [Act.put, List.setIfInBounds_toArray, List.set_cons_zero, List.set_cons_succ]
      refine drawn_take 8 rfl (by kernel_rfl) (by kernel_rfl) (by kernel_rfl) (fun _ _ _ h => h) (by rfl) (by assumption) (v := ?_) ?_ ?_
      rotate_left
      · (intro wy hSw; (try dsimp only at hSw); go_simp; try with_reducible rfl)
      simp only [Act.put, List.setIfInBounds_toArray, List.set_cons_zero, List.set_cons_succ]
      refine drawn_take 9 rfl (by kernel_rfl) (by kernel_rfl) (by kernel_rfl) (fun _ _ _ h => h) (by rfl) (by assumption) (v := ?_) ?_ ?_
      rotate_left
      · (intro wy hSw; (try dsimp only at hSw); go_simp; try with_reducible rfl)
      simp only [Act.put, List.setIfInBounds_toArray, List.set_cons_zero, List.set_cons_succ]
      refine drawn_take 10 rfl (by kernel_rfl) (by kernel_rfl) (by kernel_rfl) (fun _ _ _ h => h) (by rfl) (by assumption) (v := ?_) ?_ ?_
      rotate_left
      · (intro wy hSw; (try dsimp only at hSw); go_simp; try with_reducible rfl)
      simp only [Act.put, List.setIfInBounds_toArray, List.set_cons_zero, List.set_cons_succ]
      refine drawn_take 11 rfl (by kernel_rfl) (by kernel_rfl) (by kernel_rfl) (fun _ _ _ h => h) (by rfl) (by assumption) (v := ?_) ?_ ?_
      rotate_left
      · (intro wy hSw; (try dsimp only at hSw); go_simp; try with_reducible rfl)
      simp only [Act.put, List.setIfInBounds_toArray, List.set_cons_zero, List.set_cons_succ]
      refine drawn_take 12 rfl (by kernel_rfl) (by kernel_rfl) (by kernel_rfl) (fun _ _ _ h => h) (by rfl) (by assumption) (v := ?_) ?_ ?_
      rotate_left
      · (intro wy hSw; (try dsimp only at hSw); go_simp; try with_reducible rfl)
      simp only [Act.put, List.setIfInBounds_toArray, List.set_cons_zero, List.set_cons_succ]
      refine drawn_take 13 rfl (by kernel_rfl) (by kernel_rfl) (by kernel_rfl) (fun _ _ _ h => h) (by rfl) (by assumption) (v := ?_) ?_ ?_
      rotate_left
      · (intro wy hSw; (try dsimp only at hSw); go_simp; try with_reducible rfl)
      simp only [Act.put, List.setIfInBounds_toArray, List.set_cons_zero, List.set_cons_succ]
      refine drawn_take 14 rfl (by kernel_rfl) (by kernel_rfl) (by kernel_rfl) (fun _ _ _ h => h) (by rfl) (by assumption) (v := ?_) ?_ ?_
      rotate_left
      · (intro wy hSw; (try dsimp only at hSw); go_simp; try with_reducible rfl)
      simp only [Act.put, List.setIfInBounds_toArray, List.set_cons_zero, List.set_cons_succ]
      refine drawn_take 15 rfl (by kernel_rfl) (by kernel_rfl) (by kernel_rfl) (fun _ _ _ h => h) (by rfl) (by assumption) (v := ?_) ?_ ?_
      rotate_left
      · (intro wy hSw; (try dsimp only at hSw); go_simp; try with_reducible rfl)
      simp only [Act.put, List.setIfInBounds_toArray, List.set_cons_zero, List.set_cons_succ]
      refine drawn_take 16 rfl (by kernel_rfl) (by kernel_rfl) (by kernel_rfl) (fun _ _ _ h => h) (by rfl) (by assumption) (v := ?_) ?_ ?_
      rotate_left
      · (intro wy hSw; (try dsimp only at hSw); go_simp; try with_reducible rfl)
      simp only [Act.put, List.setIfInBounds_toArray, List.set_cons_zero, List.set_cons_succ]
      refine drawn_take 17 rfl (by kernel_rfl) (by kernel_rfl) (by kernel_rfl) (fun _ _ _ h => h) (by rfl) (by assumption) (v := ?_) ?_ ?_
      rotate_left
      · (intro wy hSw; (try dsimp only at hSw); go_simp; try with_reducible rfl)
      simp only [Act.put, List.setIfInBounds_toArray, List.set_cons_zero, List.set_cons_succ]
      refine drawn_take 18 rfl (by kernel_rfl) (by kernel_rfl) (by kernel_rfl) (fun _ _ _ h => h) (by rfl) (by assumption) (v := ?_) ?_ ?_
      rotate_left
      · (intro wy hSw; (try dsimp only at hSw); go_simp; try with_reducible rfl)
      simp only [Act.put, List.setIfInBounds_toArray, List.set_cons_zero, List.set_cons_succ]
      refine drawn_take 19 rfl (by kernel_rfl) (by kernel_rfl) (by kernel_rfl) (fun _ _ _ h => h) (by rfl) (by assumption) (v := ?_) ?_ ?_
      rotate_left
      · (intro wy hSw; (try dsimp only at hSw); go_simp; try with_reducible rfl)
      simp only [Act.put, List.setIfInBounds_toArray, List.set_cons_zero, List.set_cons_succ]
      refine drawn_take 20 rfl (by kernel_rfl) (by kernel_rfl) (by kernel_rfl) (fun _ _ _ h => h) (by rfl) (by assumption) (v := ?_) ?_ ?_
      rotate_left
      · (intro wy hSw; (try dsimp only at hSw); go_simp; try with_reducible rfl)
      simp only [Act.put, List.setIfInBounds_toArray, List.set_cons_zero, List.set_cons_succ]
      refine drawn_take 21 rfl (by kernel_rfl) (by kernel_rfl) (by kernel_rfl) (fun _ _ _ h => h) (by rfl) (by assumption) (v := ?_) ?_ ?_
      rotate_left
      · (intro wy hSw; (try dsimp only at hSw); go_simp; try with_reducible rfl)
      simp only [Act.put, List.setIfInBounds_toArray, List.set_cons_zero, List.set_cons_succ]
      refine drawn_take 22 rfl (by kernel_rfl) (by kernel_rfl) (by kernel_rfl) (fun _ _ _ h => h) (by rfl) (by assumption) (v := ?_) ?_ ?_
      rotate_left
      · (intro wy hSw; (try dsimp only at hSw); go_simp; try with_reducible rfl)
      simp only [Act.put, List.setIfInBounds_toArray, List.set_cons_zero, List.set_cons_succ]
      refine drawn_take 23 rfl (by kernel_rfl) (by kernel_rfl) (by kernel_rfl) (fun _ _ _ h => h) (by rfl) (by assumption) (v := ?_) ?_ ?_
      rotate_left
      · (intro wy hSw; (try dsimp only at hSw); go_simp; try with_reducible rfl)
      simp only [Act.put, List.setIfInBounds_toArray, List.set_cons_zero, List.set_cons_succ]
      refine drawn_sole 24 rfl (by kernel_rfl) (fun K hK => ?_)
      go_simp
      refine (HC.out _ HB.out.drew).mono ?_
      rintro e w5 ⟨rfl, hb5⟩
      have HB2 := Lib.hid (HB.out.drew.trans (hb5.mono HB.out.size))
      clear hb5
      go_wp2_with fail
      refine hK.out _ _ (HQ.out _ HB2.out) (fun hHeld2 => ?_)
      clear hK K
      clear hHeld
      have hHeld := hHeld2
      clear hHeld2
      refine drawn_take 25 rfl (by kernel_rfl) (by kernel_rfl) (by kernel_rfl) (fun _ _ _ h => h) (by rfl) (by assumption) (v := ?_) ?_ ?_
      rotate_left
      · (intro wy hSw; (try dsimp only at hSw); go_simp; try with_reducible rfl)
      simp only [Act.put, List.setIfInBounds_toArray, List.set_cons_zero, List.set_cons_succ]
      refine drawn_take 26 rfl (by kernel_rfl) (by kernel_rfl) (by kernel_rfl) (fun _ _ _ h => h) (by rfl) (by assumption) (v := ?_) ?_ ?_
      rotate_left
      · (intro wy hSw; (try dsimp only at hSw); go_simp; try with_reducible rfl)
      simp only [Act.put, List.setIfInBounds_toArray, List.set_cons_zero, List.set_cons_succ]
      refine wpAnyH_done (by kernel_rfl) ?_ _
      obtain ⟨p0, p1, q0, q1⟩ := HQ.out _ HB2.out
      go_wp2_with fail
      go_loopw [5, 7] (fun b i wr => ∃ k : Nat, k ≤ m ∧ i = .int .i64 (k : Int) ∧ b = .bool true ∧ Hid (Below w.heap.size w wr)) (fun _ i _ => m - (intOf i).toNat)
      case atStart => exact ⟨0, by omega, rfl, rfl, HB2⟩
      case round =>
        clear p0 p1 q0 q1
        obtain ⟨k, hk, rfl, rfl, HB3⟩ := hrel
        obtain ⟨p0, p1, q0, q1⟩ := HQ.out _ HB3.out
        by_cases hkm : k < m
        · obtain ⟨y, hy⟩ : ∃ y, ls[k]? = some y := ⟨_, List.getElem?_eq_getElem (by have := HM.out; omega)⟩
          have hki : (k : Int) < (m : Int) := by omega
          obtain ⟨r1, s1, cs1, rfl, _, hr1, ⟨rfl, _⟩, k1⟩ := HL1.out k y hy
          obtain ⟨r2, s2, cs2, rfl, _, hr2, ⟨rfl, _⟩, k2⟩ := HL2.out k y hy
          have y0 := (HB3.out.cell (p := ⟨r1, s1 + k * 2 + 0, none⟩) hr1).trans (k1 0 _ rfl)
          have y1 := (HB3.out.cell (p := ⟨r1, s1 + k * 2 + 1, none⟩) hr1).trans (k1 1 _ rfl)
          have z0 := (HB3.out.cell (p := ⟨r2, s2 + k * 2 + 0, none⟩) hr2).trans (k2 0 _ rfl)
          have z1 := (HB3.out.cell (p := ⟨r2, s2 + k * 2 + 1, none⟩) hr2).trans (k2 1 _ rfl)
          simp only [Nat.add_zero] at y0 z0
          obtain ⟨yn, yt⟩ := y
          simp only at y0 y1 z0 z1
          have eu : ((yn : Int) == (yn : Int)) = true := by simp
          have ev : ((yt.toNat : Int) == (yt.toNat : Int)) = true := by simp
          clear k1 k2 hy
          go_wp2_with fail
          go_quiet (fail)
          go_wp2_with fail
          go_roundw
          case rel => exact ⟨k + 1, by omega, by go_num, rfl, Lib.hid (Go.Proofs.YtaloenmpidbhlaaDoor.Below.dn HB3.out _)⟩
          case measure => simp [intOf]; omega
        · obtain rfl : k = m := by omega
          go_wp2_with fail
          go_roundw
          case rel => exact ⟨j + 1, by omega, by go_num, rfl, HB3⟩
          case measure => simp [intOf]; omega
    · obtain rfl : j = n := by omega
      go_wp2_with fail
      go_ret
      exact ⟨rfl, HB.out⟩
end Go.Proofs.YtaloenmpidbhlaaDoor
