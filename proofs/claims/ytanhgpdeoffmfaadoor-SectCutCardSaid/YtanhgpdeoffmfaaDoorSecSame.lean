/-
  Layer 5's small functions: the document's Begin and E; sections in the document's type; whether sections are the document's. (gen/secref.py)
-/
import Derived.Test.YtanhgpdeoffmfaaDoorSecMem
import Derived.Test.YtanhgpdeoffmfaaDoorDrawn
import Derived.Deep.Cut
import Derived.IntWalk
namespace Go.Proofs.YtanhgpdeoffmfaaDoor
open Go.RowKit Sec
theorem undS : Tryd.prog.underlying 24 = some (.slice 35) := by kernel_rfl
theorem undR : Tryd.prog.underlying 28 = some (.slice 51) := by kernel_rfl
theorem infoS : (Tryd.prog.info? 35).map (fun i => (i.zero, i.size, i.bytes)) = some (some (.agg #[.int .u8 0, .slice none 0 0]), 2, 32) := by kernel_rfl
theorem infoR : (Tryd.prog.info? 51).map (fun i => (i.zero, i.size, i.bytes)) = some (some (.agg #[.int .u8 0, .slice none 0 0]), 2, 32) := by kernel_rfl
theorem cells2 {w : World} {X : Nat} {x0 x1 : Value} {t : TypeId} (h : w.heap[X]? = some (.cells #[x0, x1] t (0, 0))) : w.cell? ⟨X, 0, none⟩ = some x0 ∧ w.cell? ⟨X, 1, none⟩ = some x1 := by
  refine ⟨?_, ?_⟩ <;> (rw [cell_of_row w X _ _ t (0, 0) h]; rfl)
theorem byteN (n : Nat) (h : n < 256) : ((UInt8.ofNat n).toNat : Int) = (n : Int) := by rw [nat_of n h]
theorem begin_any (w : World) : Calls Tryd.prog 20 #[] w fun e w' => ∃ v, e = .returned v ∧ w'.ownsRow w.heap.size 5 1 v begin8.length (bytesOf begin8) ∧ Below w.heap.size w w' := by
  have HO : Hid ((w.alloc (.cells #[.int .u8 0, .int .u8 97, .int .u8 115, .int .u8 109, .int .u8 1, .int .u8 0, .int .u8 0, .int .u8 0] 5)).ownsRow w.heap.size 5 1 (.slice (some ⟨w.heap.size, 0, none⟩) 8 8) begin8.length (bytesOf begin8)) := Lib.hid (World.ownsRow_lit w _ 8 (Nat.le_refl _) (by unfold maxLen; omega) rfl)
  have HB : Hid (Below w.heap.size w (w.alloc (.cells #[.int .u8 0, .int .u8 97, .int .u8 115, .int .u8 109, .int .u8 1, .int .u8 0, .int .u8 0, .int .u8 0] 5))) := Lib.hid ((Below.refl _ _).alloc (Nat.le_refl _) _)
  go_enter Tryd.func20, Tryd.ntmps20
  go_wp2_with fail
  go_ret
  exact ⟨_, rfl, HO.out, HB.out⟩
theorem e_any (ok : Bool) (bad : Int) (w : World) : Calls Tryd.prog 12 #[.bool ok, .int .i64 bad] w fun e w' => e = .returned (.int .i64 (if ok = true then 0 else bad)) ∧ w = w' := by
  cases ok
  all_goals
    go_enter Tryd.func12, Tryd.ntmps12
    go_wp2_with fail
    go_ret
    exact ⟨rfl, rfl⟩
set_option maxRecDepth 100000 in
set_option maxHeartbeats 2000000 in
/-- Sections in the document's type. -/
theorem others_any (A : Option Addr) (xs : List S) (n c : Nat) (w : World) (hX : HasS w w.heap.size A xs) (hn : n = xs.length) (hsz : n ≤ 1000000000000) :
    Calls Tryd.prog 15 #[.slice A n c] w fun e w' => ∃ A' c', e = .returned (.slice A' n c') ∧ n ≤ c' ∧ c' ≤ maxLen ∧ HasS w' w'.heap.size A' xs ∧ Below w.heap.size w w' := by
  have HX := Lib.hid hX
  have HN := Lib.hid hn
  clear hX hn
  go_enter Tryd.func15, Tryd.ntmps15
  go_wp2_with fail
  go_loopw [3, 8] (fun u i wr => ∃ j : Nat, j ≤ n ∧ i = .int .i64 (j : Int) ∧ Hid (OwnS wr 51 w.heap.size u j (xs.take j)) ∧ Hid (Below w.heap.size w wr)) (fun _ i _ => n - (intOf i).toNat)
  case atStart => exact ⟨0, by omega, rfl, Lib.hid (by simpa using OwnS.nil _ _ _), Lib.hid (Below.refl _ _)⟩
  case round =>
    obtain ⟨j, hj, rfl, HO, HB⟩ := hrel
    by_cases hjn : j < n
    · obtain ⟨x, hx⟩ : ∃ x, xs[j]? = some x := ⟨_, List.getElem?_eq_getElem (by have := HN.out; omega)⟩
      obtain ⟨g, oo, A4, c4, rfl, hgB, hid4, hlc, hcm, hAc, hh, k0', k1'⟩ := HX.out j x hx
      have k0 := (HB.out.cell (p := ⟨g, oo + j * 2, none⟩) hgB).trans k0'
      have k1 := (HB.out.cell (p := ⟨g, oo + j * 2 + 1, none⟩) hgB).trans k1'
      have hji : (j : Int) < (n : Int) := by omega
      have hws := HB.out.size
      have hb3 : Below wr.heap.size wr (wr.alloc (.cells (secCells x A4 c4).toArray 35)) := (Below.refl _ _).alloc (Nat.le_refl _) _
      have hs3 := hb3.size
      have ho3 := HO.out.on hb3
      obtain ⟨v', w4, hrun, ho, hm, ht⟩ := append1s (P := Tryd.prog) 51 28 undR infoR (wr.alloc (.cells (secCells x A4 c4).toArray 35)) w.heap.size j u3 (xs.take j) x A4 c4 ho3 (by omega) (by omega) ⟨hid4, hlc, hcm, hAc, (hh.on HB.out).on hb3⟩ (apart_of ho3 hh)
      have htk : xs.take j ++ [x] = xs.take (j + 1) := by rw [List.take_add_one, hx]; rfl
      rw [htk] at ho
      have HRUN := Lib.hid hrun
      have HO4 := Lib.hid ho
      have HB4 := Lib.hid (HB.out.trans ((hb3.mono hws).trans (hm.below (by omega) (fun k hk e => by have := (own_blk ho3 k e).1; omega))))
      have HX3 : Hid ((wr.alloc (.cells (secCells x A4 c4).toArray 35)).heap[wr.heap.size]? = some (.cells (secCells x A4 c4).toArray 35 (0, 0))) := Lib.hid (heap_alloc_new wr _)
      clear hrun ho hm ht htk ho3 hb3 hh hx hid4 hlc hcm hAc k0' k1'
      obtain ⟨xi, xb⟩ := x
      simp only [secCells] at HRUN HX3 HB4 k0 k1 hs3
      generalize xb.length = q at HRUN HX3 k1 hs3
      go_upto_region 5 with (fail)
      generalize wr.alloc (.cells #[.int .u8 (xi : Int), .slice A4 q c4] 35) = w3 at HRUN HX3 hs3 ⊢
      obtain ⟨z0, z1⟩ := cells2 HX3.out
      go_wp2_with (at_builtin; refine wpList_appends rfl (.tmp 12) (.tmp 14) 28 rfl _ _ _ w4 rfl rfl HRUN.out ?_)
      go_roundw
      case rel => exact ⟨j + 1, by omega, by go_num, HO4, HB4⟩
      case measure => simp [intOf]; omega
    · obtain rfl : j = n := by omega
      have hall : xs.take j = xs := by rw [HN.out, List.take_length]
      obtain ⟨A', c', hv, h1, h2, h3⟩ := HO.out.tell
      rw [hall] at hv h1 h3
      rw [← HN.out] at hv h1
      subst hv
      go_wp2_with fail
      go_ret
      exact ⟨A', c', rfl, h1, h2, h3, HB.out⟩
theorem bytes_same (a b : List UInt8) : ((ByteArray.mk a.toArray).toList != (ByteArray.mk b.toArray).toList) = decide (a ≠ b) := by
  rw [ByteArray.toList_eq, ByteArray.toList_eq]
  rw [Bool.eq_iff_iff]
  simp
set_option maxRecDepth 100000 in
set_option maxHeartbeats 4000000 in
/-- Whether sections are the document's. -/
theorem same5_any (A : Option Addr) (xs : List S) (n c : Nat) (B : Option Addr) (ys : List S) (m d : Nat) (w : World) (hX : HasS w w.heap.size A xs) (hn : n = xs.length) (hY : HasS w w.heap.size B ys) (hm : m = ys.length) (hsz : n ≤ 1000000000000) :
    Calls Tryd.prog 11 #[.slice A n c, .slice B m d] w fun e w' => e = .returned (.bool (decide (xs = ys))) ∧ Below w.heap.size w w' := by
  by_cases hnm : n = m
  rotate_left
  · have hne : ((n : Int) != (m : Int)) = true := by simp; omega
    have hdd : decide (xs = ys) = false := decide_eq_false (fun e => hnm (by rw [hn, hm, e]))
    rw [hdd]
    clear hX hY hn hm hdd
    go_enter Tryd.func11, Tryd.ntmps11
    go_wp2_with fail
    go_ret
    exact ⟨rfl, Below.refl _ _⟩
  subst hnm
  have HX := Lib.hid hX
  have HY := Lib.hid hY
  have HN := Lib.hid hn
  have HM := Lib.hid hm
  clear hX hY hn hm
  go_enter Tryd.func11, Tryd.ntmps11
  go_wp2_with fail
  go_loopw [14] (fun i wr => ∃ j : Nat, j ≤ n ∧ i = .int .i64 (j : Int) ∧ Hid (xs.take j = ys.take j) ∧ Hid (Below w.heap.size w wr)) (fun i _ => n - (intOf i).toNat)
  case atStart => exact ⟨0, by omega, rfl, Lib.hid (by simp), Lib.hid (Below.refl _ _)⟩
  case round =>
    obtain ⟨j, hj, rfl, HE, HB⟩ := hrel
    by_cases hjn : j < n
    · obtain ⟨x, hx⟩ : ∃ x, xs[j]? = some x := ⟨_, List.getElem?_eq_getElem (by have := HN.out; omega)⟩
      obtain ⟨y, hy⟩ : ∃ y, ys[j]? = some y := ⟨_, List.getElem?_eq_getElem (by have := HM.out; omega)⟩
      obtain ⟨g, oo, A4, c4, rfl, hgB, _, _, _, _, hh, k0', k1'⟩ := HX.out j x hx
      obtain ⟨g2, oo2, A5, c5, rfl, hgB2, _, _, _, _, hh2, l0', l1'⟩ := HY.out j y hy
      have hji : (j : Int) < (n : Int) := by omega
      have hws := HB.out.size
      have hxj : ∀ (_ : x = y), xs.take (j + 1) = ys.take (j + 1) := fun e => by rw [List.take_add_one, List.take_add_one, hx, hy, HE.out, e]
      have hxne : ∀ (_ : x ≠ y), xs ≠ ys := fun h e => by rw [e, hy] at hx; exact h (Option.some.inj hx).symm
      have HXJ := Lib.hid hxj
      have HXN := Lib.hid hxne
      have k0 := (HB.out.cell (p := ⟨g, oo + j * 2, none⟩) hgB).trans k0'
      have k1 := (HB.out.cell (p := ⟨g, oo + j * 2 + 1, none⟩) hgB).trans k1'
      have HL := Lib.hid (fun W (hb : Below w.heap.size w W) => (⟨(hb.cell (p := ⟨g2, oo2 + j * 2, none⟩) hgB2).trans l0', (hb.cell (p := ⟨g2, oo2 + j * 2 + 1, none⟩) hgB2).trans l1', run_str (hh.on hb) rfl c4, run_str (hh2.on hb) rfl c5⟩ : W.cell? ⟨g2, oo2 + j * 2, none⟩ = some (.int .u8 (y.id : Int)) ∧ W.cell? ⟨g2, oo2 + j * 2 + 1, none⟩ = some (.slice A5 y.b.length c5) ∧ (convert 22 9 (.slice A4 x.b.length c4)).run Tryd.prog W = .ok (.string ⟨x.b.toArray⟩) W ∧ (convert 22 9 (.slice A5 y.b.length c5)).run Tryd.prog W = .ok (.string ⟨y.b.toArray⟩) W))
      have HX3 : Hid ((wr.alloc (.cells (secCells x A4 c4).toArray 35)).heap[wr.heap.size]? = some (.cells (secCells x A4 c4).toArray 35 (0, 0))) := Lib.hid (heap_alloc_new wr _)
      have HB3 : Hid (Below w.heap.size w (wr.alloc (.cells (secCells x A4 c4).toArray 35))) := Lib.hid (HB.out.alloc hws _)
      clear hxj hxne hx hy hh hh2 k0' k1' l0' l1'
      obtain ⟨xi, xb⟩ := x
      obtain ⟨yi, yb⟩ := y
      have HEQ : Hid ((xi = yi ∧ xb = yb → (⟨xi, xb⟩ : S) = ⟨yi, yb⟩) ∧ ((xi ≠ yi ∨ xb ≠ yb) → (⟨xi, xb⟩ : S) ≠ ⟨yi, yb⟩)) := Lib.hid ⟨fun ⟨a, b⟩ => by rw [a, b], fun h e => by injection e with e1 e2; rcases h with h | h <;> contradiction⟩
      simp only [secCells] at HX3 HB3 HL k0 k1
      generalize hq : xb.length = q at HX3 HB3 HL k1
      generalize hq2 : yb.length = q2 at HL
      clear hq hq2
      go_upto_region 6 with (fail)
      generalize wr.alloc (.cells #[.int .u8 (xi : Int), .slice A4 q c4] 35) = w3 at HX3 HB3 ⊢
      obtain ⟨z0, z1⟩ := cells2 HX3.out
      have hdr : Below w.heap.size w w3.drew := HB3.out.drew
      obtain ⟨l0, l1, cv1, cv2⟩ := HL.out w3.drew hdr
      have HBD := Lib.hid hdr
      obtain ⟨X, hX⟩ : ∃ X, X = wr.heap.size := ⟨_, rfl⟩
      rw [← hX] at z0 z1 ⊢
      clear HX3 HL hX hdr
      by_cases hid : xi = yi
      · have hne : ((xi : Int) != (yi : Int)) = false := by simp; omega
        by_cases hbb : xb = yb
        · have hcm : (!(xb == yb)) = false := by simp [hbb]
          refine wp_region_held_drew (S := (fun w' => w'.cell? ⟨X, 0, none⟩ = some (.int .u8 (xi : Int)) ∧ w'.cell? ⟨X, 1, none⟩ = some (.slice A4 q c4) ∧ w'.cell? ⟨g2, oo2 + j * 2, none⟩ = some (.int .u8 (yi : Int)) ∧ w'.cell? ⟨g2, oo2 + j * 2 + 1, none⟩ = some (.slice A5 q2 c5) ∧ (convert 22 9 (.slice A4 q c4)).run Tryd.prog w' = .ok (.string ⟨xb.toArray⟩) w' ∧ (convert 22 9 (.slice A5 q2 c5)).run Tryd.prog w' = .ok (.string ⟨yb.toArray⟩) w')) (by kernel_rfl) (⟨z0, z1, l0, l1, cv1, cv2⟩) (fun hHeld => ?_)
          refine drawn_take 0 rfl (by kernel_rfl) (by kernel_rfl) (by kernel_rfl) (fun _ _ _ h => h) (by rfl) (by assumption) (v := ?_) ?_ ?_
          rotate_left
          · (intro wy hSw; (try dsimp only at hSw); go_simp; try with_reducible rfl)
          simp only [Act.put, List.setIfInBounds_toArray, List.set_cons_zero, List.set_cons_succ]
          refine drawn_take 1 rfl (by kernel_rfl) (by kernel_rfl) (by kernel_rfl) (fun _ _ _ h => h) (by rfl) (by assumption) (v := ?_) ?_ ?_
          rotate_left
          · (intro wy hSw; (try dsimp only at hSw); go_simp; try with_reducible rfl)
          simp only [Act.put, List.setIfInBounds_toArray, List.set_cons_zero, List.set_cons_succ]
          refine drawn_take 2 rfl (by kernel_rfl) (by kernel_rfl) (by kernel_rfl) (fun _ _ _ h => h) (by rfl) (by assumption) (v := ?_) ?_ ?_
          rotate_left
          · (intro wy hSw; (try dsimp only at hSw); go_simp; try with_reducible rfl)
          simp only [Act.put, List.setIfInBounds_toArray, List.set_cons_zero, List.set_cons_succ]
          refine drawn_take 3 rfl (by kernel_rfl) (by kernel_rfl) (by kernel_rfl) (fun _ _ _ h => h) (by rfl) (by assumption) (v := ?_) ?_ ?_
          rotate_left
          · (intro wy hSw; (try dsimp only at hSw); go_simp; try with_reducible rfl)
          simp only [Act.put, List.setIfInBounds_toArray, List.set_cons_zero, List.set_cons_succ]
          refine drawn_take 4 rfl (by kernel_rfl) (by kernel_rfl) (by kernel_rfl) (fun _ _ _ h => h) (by rfl) (by assumption) (v := ?_) ?_ ?_
          rotate_left
          · (intro wy hSw; (try dsimp only at hSw); go_simp; try with_reducible rfl)
          simp only [Act.put, List.setIfInBounds_toArray, List.set_cons_zero, List.set_cons_succ]
          refine drawn_take 5 rfl (by kernel_rfl) (by kernel_rfl) (by kernel_rfl) (fun _ _ _ h => h) (by rfl) (by assumption) (v := ?_) ?_ ?_
          rotate_left
          · (intro wy hSw; (try dsimp only at hSw); go_simp; try with_reducible rfl)
          simp only [Act.put, List.setIfInBounds_toArray, List.set_cons_zero, List.set_cons_succ]
          refine drawn_take 6 rfl (by kernel_rfl) (by kernel_rfl) (by kernel_rfl) (fun _ _ _ h => h) (by rfl) (by assumption) (v := ?_) ?_ ?_
          rotate_left
          · (intro wy hSw; (try dsimp only at hSw); go_simp; try with_reducible rfl)
          simp only [Act.put, List.setIfInBounds_toArray, List.set_cons_zero, List.set_cons_succ]
          refine drawn_take 7 rfl (by kernel_rfl) (by kernel_rfl) (by kernel_rfl) (fun _ _ _ h => h) (by rfl) (by assumption) (v := ?_) ?_ ?_
          rotate_left
          · (intro wy hSw; (try dsimp only at hSw); go_simp; try with_reducible rfl)
          simp only [Act.put, List.setIfInBounds_toArray, List.set_cons_zero, List.set_cons_succ]
          refine drawn_take 8 rfl (by kernel_rfl) (by kernel_rfl) (by kernel_rfl) (fun _ _ _ h => h) (by rfl) (by assumption) (v := ?_) ?_ ?_
          rotate_left
          · (intro wy hSw; (try dsimp only at hSw); go_simp; try with_reducible rfl)
          simp only [Act.put, List.setIfInBounds_toArray, List.set_cons_zero, List.set_cons_succ]
          refine drawn_take 9 rfl (by kernel_rfl) (by kernel_rfl) (by kernel_rfl) (fun _ _ _ h => h) (by rfl) (by assumption) (v := ?_) ?_ ?_
          rotate_left
          · (intro wy hSw; (try dsimp only at hSw); go_simp; try with_reducible rfl)
          simp only [Act.put, List.setIfInBounds_toArray, List.set_cons_zero, List.set_cons_succ]
          refine drawn_take 10 rfl (by kernel_rfl) (by kernel_rfl) (by kernel_rfl) (fun _ _ _ h => h) (by rfl) (by assumption) (v := ?_) ?_ ?_
          rotate_left
          · (intro wy hSw; (try dsimp only at hSw); go_simp; try with_reducible rfl)
          simp only [Act.put, List.setIfInBounds_toArray, List.set_cons_zero, List.set_cons_succ]
          refine drawn_take 11 rfl (by kernel_rfl) (by kernel_rfl) (by kernel_rfl) (fun _ _ _ h => h) (by rfl) (by assumption) (v := ?_) ?_ ?_
          rotate_left
          · (intro wy hSw; (try dsimp only at hSw); go_simp; try with_reducible rfl)
          simp only [Act.put, List.setIfInBounds_toArray, List.set_cons_zero, List.set_cons_succ]
          refine drawn_take 12 rfl (by kernel_rfl) (by kernel_rfl) (by kernel_rfl) (fun _ _ _ h => h) (by rfl) (by assumption) (v := ?_) ?_ ?_
          rotate_left
          · (intro wy hSw; (try dsimp only at hSw); go_simp; try with_reducible rfl)
          simp only [Act.put, List.setIfInBounds_toArray, List.set_cons_zero, List.set_cons_succ]
          refine drawn_take 13 rfl (by kernel_rfl) (by kernel_rfl) (by kernel_rfl) (fun _ _ _ h => h) (by rfl) (by assumption) (v := ?_) ?_ ?_
          rotate_left
          · (intro wy hSw; (try dsimp only at hSw); go_simp; try with_reducible rfl)
          simp only [Act.put, List.setIfInBounds_toArray, List.set_cons_zero, List.set_cons_succ]
          refine drawn_take 14 rfl (by kernel_rfl) (by kernel_rfl) (by kernel_rfl) (fun _ _ _ h => h) (by rfl) (by assumption) (v := ?_) ?_ ?_
          rotate_left
          · (intro wy hSw; (try dsimp only at hSw); go_simp; try with_reducible rfl)
          simp only [Act.put, List.setIfInBounds_toArray, List.set_cons_zero, List.set_cons_succ]
          refine drawn_take 15 rfl (by kernel_rfl) (by kernel_rfl) (by kernel_rfl) (fun _ _ _ h => h) (by rfl) (by assumption) (v := ?_) ?_ ?_
          rotate_left
          · (intro wy hSw; (try dsimp only at hSw); go_simp; try with_reducible rfl)
          simp only [Act.put, List.setIfInBounds_toArray, List.set_cons_zero, List.set_cons_succ]
          refine drawn_take 16 rfl (by kernel_rfl) (by kernel_rfl) (by kernel_rfl) (fun _ _ _ h => h) (by rfl) (by assumption) (v := ?_) ?_ ?_
          rotate_left
          · (intro wy hSw; (try dsimp only at hSw); go_simp; try with_reducible rfl)
          simp only [Act.put, List.setIfInBounds_toArray, List.set_cons_zero, List.set_cons_succ]
          refine drawn_take 17 rfl (by kernel_rfl) (by kernel_rfl) (by kernel_rfl) (fun _ _ _ h => h) (by rfl) (by assumption) (v := ?_) ?_ ?_
          rotate_left
          · (intro wy hSw; (try dsimp only at hSw); go_simp; try with_reducible rfl)
          simp only [Act.put, List.setIfInBounds_toArray, List.set_cons_zero, List.set_cons_succ]
          refine drawn_take 18 rfl (by kernel_rfl) (by kernel_rfl) (by kernel_rfl) (fun _ _ _ h => h) (by rfl) (by assumption) (v := ?_) ?_ ?_
          rotate_left
          · (intro wy hSw; (try dsimp only at hSw); go_simp; try with_reducible rfl)
          simp only [Act.put, List.setIfInBounds_toArray, List.set_cons_zero, List.set_cons_succ]
          refine drawn_take 19 rfl (by kernel_rfl) (by kernel_rfl) (by kernel_rfl) (fun _ _ _ h => h) (by rfl) (by assumption) (v := ?_) ?_ ?_
          rotate_left
          · (intro wy hSw; (try dsimp only at hSw); go_simp; try with_reducible rfl)
          simp only [Act.put, List.setIfInBounds_toArray, List.set_cons_zero, List.set_cons_succ]
          refine wpAnyH_done (by kernel_rfl) ?_ _
          go_wp2_with fail
          go_roundw
          case rel => exact ⟨j + 1, by omega, by go_num, Lib.hid (HXJ.out (HEQ.out.1 ⟨hid, hbb⟩)), HBD⟩
          case measure => simp [intOf]; omega
        · have hcm : (!(xb == yb)) = true := by simp [hbb]
          refine wp_region_held_drew (S := (fun w' => w'.cell? ⟨X, 0, none⟩ = some (.int .u8 (xi : Int)) ∧ w'.cell? ⟨X, 1, none⟩ = some (.slice A4 q c4) ∧ w'.cell? ⟨g2, oo2 + j * 2, none⟩ = some (.int .u8 (yi : Int)) ∧ w'.cell? ⟨g2, oo2 + j * 2 + 1, none⟩ = some (.slice A5 q2 c5) ∧ (convert 22 9 (.slice A4 q c4)).run Tryd.prog w' = .ok (.string ⟨xb.toArray⟩) w' ∧ (convert 22 9 (.slice A5 q2 c5)).run Tryd.prog w' = .ok (.string ⟨yb.toArray⟩) w')) (by kernel_rfl) (⟨z0, z1, l0, l1, cv1, cv2⟩) (fun hHeld => ?_)
          refine drawn_take 0 rfl (by kernel_rfl) (by kernel_rfl) (by kernel_rfl) (fun _ _ _ h => h) (by rfl) (by assumption) (v := ?_) ?_ ?_
          rotate_left
          · (intro wy hSw; (try dsimp only at hSw); go_simp; try with_reducible rfl)
          simp only [Act.put, List.setIfInBounds_toArray, List.set_cons_zero, List.set_cons_succ]
          refine drawn_take 1 rfl (by kernel_rfl) (by kernel_rfl) (by kernel_rfl) (fun _ _ _ h => h) (by rfl) (by assumption) (v := ?_) ?_ ?_
          rotate_left
          · (intro wy hSw; (try dsimp only at hSw); go_simp; try with_reducible rfl)
          simp only [Act.put, List.setIfInBounds_toArray, List.set_cons_zero, List.set_cons_succ]
          refine drawn_take 2 rfl (by kernel_rfl) (by kernel_rfl) (by kernel_rfl) (fun _ _ _ h => h) (by rfl) (by assumption) (v := ?_) ?_ ?_
          rotate_left
          · (intro wy hSw; (try dsimp only at hSw); go_simp; try with_reducible rfl)
          simp only [Act.put, List.setIfInBounds_toArray, List.set_cons_zero, List.set_cons_succ]
          refine drawn_take 3 rfl (by kernel_rfl) (by kernel_rfl) (by kernel_rfl) (fun _ _ _ h => h) (by rfl) (by assumption) (v := ?_) ?_ ?_
          rotate_left
          · (intro wy hSw; (try dsimp only at hSw); go_simp; try with_reducible rfl)
          simp only [Act.put, List.setIfInBounds_toArray, List.set_cons_zero, List.set_cons_succ]
          refine drawn_take 4 rfl (by kernel_rfl) (by kernel_rfl) (by kernel_rfl) (fun _ _ _ h => h) (by rfl) (by assumption) (v := ?_) ?_ ?_
          rotate_left
          · (intro wy hSw; (try dsimp only at hSw); go_simp; try with_reducible rfl)
          simp only [Act.put, List.setIfInBounds_toArray, List.set_cons_zero, List.set_cons_succ]
          refine drawn_take 5 rfl (by kernel_rfl) (by kernel_rfl) (by kernel_rfl) (fun _ _ _ h => h) (by rfl) (by assumption) (v := ?_) ?_ ?_
          rotate_left
          · (intro wy hSw; (try dsimp only at hSw); go_simp; try with_reducible rfl)
          simp only [Act.put, List.setIfInBounds_toArray, List.set_cons_zero, List.set_cons_succ]
          refine drawn_take 6 rfl (by kernel_rfl) (by kernel_rfl) (by kernel_rfl) (fun _ _ _ h => h) (by rfl) (by assumption) (v := ?_) ?_ ?_
          rotate_left
          · (intro wy hSw; (try dsimp only at hSw); go_simp; try with_reducible rfl)
          simp only [Act.put, List.setIfInBounds_toArray, List.set_cons_zero, List.set_cons_succ]
          refine drawn_take 7 rfl (by kernel_rfl) (by kernel_rfl) (by kernel_rfl) (fun _ _ _ h => h) (by rfl) (by assumption) (v := ?_) ?_ ?_
          rotate_left
          · (intro wy hSw; (try dsimp only at hSw); go_simp; try with_reducible rfl)
          simp only [Act.put, List.setIfInBounds_toArray, List.set_cons_zero, List.set_cons_succ]
          refine drawn_take 8 rfl (by kernel_rfl) (by kernel_rfl) (by kernel_rfl) (fun _ _ _ h => h) (by rfl) (by assumption) (v := ?_) ?_ ?_
          rotate_left
          · (intro wy hSw; (try dsimp only at hSw); go_simp; try with_reducible rfl)
          simp only [Act.put, List.setIfInBounds_toArray, List.set_cons_zero, List.set_cons_succ]
          refine drawn_take 9 rfl (by kernel_rfl) (by kernel_rfl) (by kernel_rfl) (fun _ _ _ h => h) (by rfl) (by assumption) (v := ?_) ?_ ?_
          rotate_left
          · (intro wy hSw; (try dsimp only at hSw); go_simp; try with_reducible rfl)
          simp only [Act.put, List.setIfInBounds_toArray, List.set_cons_zero, List.set_cons_succ]
          refine drawn_take 10 rfl (by kernel_rfl) (by kernel_rfl) (by kernel_rfl) (fun _ _ _ h => h) (by rfl) (by assumption) (v := ?_) ?_ ?_
          rotate_left
          · (intro wy hSw; (try dsimp only at hSw); go_simp; try with_reducible rfl)
          simp only [Act.put, List.setIfInBounds_toArray, List.set_cons_zero, List.set_cons_succ]
          refine drawn_take 11 rfl (by kernel_rfl) (by kernel_rfl) (by kernel_rfl) (fun _ _ _ h => h) (by rfl) (by assumption) (v := ?_) ?_ ?_
          rotate_left
          · (intro wy hSw; (try dsimp only at hSw); go_simp; try with_reducible rfl)
          simp only [Act.put, List.setIfInBounds_toArray, List.set_cons_zero, List.set_cons_succ]
          refine drawn_take 12 rfl (by kernel_rfl) (by kernel_rfl) (by kernel_rfl) (fun _ _ _ h => h) (by rfl) (by assumption) (v := ?_) ?_ ?_
          rotate_left
          · (intro wy hSw; (try dsimp only at hSw); go_simp; try with_reducible rfl)
          simp only [Act.put, List.setIfInBounds_toArray, List.set_cons_zero, List.set_cons_succ]
          refine drawn_take 13 rfl (by kernel_rfl) (by kernel_rfl) (by kernel_rfl) (fun _ _ _ h => h) (by rfl) (by assumption) (v := ?_) ?_ ?_
          rotate_left
          · (intro wy hSw; (try dsimp only at hSw); go_simp; try with_reducible rfl)
          simp only [Act.put, List.setIfInBounds_toArray, List.set_cons_zero, List.set_cons_succ]
          refine drawn_take 14 rfl (by kernel_rfl) (by kernel_rfl) (by kernel_rfl) (fun _ _ _ h => h) (by rfl) (by assumption) (v := ?_) ?_ ?_
          rotate_left
          · (intro wy hSw; (try dsimp only at hSw); go_simp; try with_reducible rfl)
          simp only [Act.put, List.setIfInBounds_toArray, List.set_cons_zero, List.set_cons_succ]
          refine drawn_take 15 rfl (by kernel_rfl) (by kernel_rfl) (by kernel_rfl) (fun _ _ _ h => h) (by rfl) (by assumption) (v := ?_) ?_ ?_
          rotate_left
          · (intro wy hSw; (try dsimp only at hSw); go_simp; try with_reducible rfl)
          simp only [Act.put, List.setIfInBounds_toArray, List.set_cons_zero, List.set_cons_succ]
          refine drawn_take 16 rfl (by kernel_rfl) (by kernel_rfl) (by kernel_rfl) (fun _ _ _ h => h) (by rfl) (by assumption) (v := ?_) ?_ ?_
          rotate_left
          · (intro wy hSw; (try dsimp only at hSw); go_simp; try with_reducible rfl)
          simp only [Act.put, List.setIfInBounds_toArray, List.set_cons_zero, List.set_cons_succ]
          refine drawn_take 17 rfl (by kernel_rfl) (by kernel_rfl) (by kernel_rfl) (fun _ _ _ h => h) (by rfl) (by assumption) (v := ?_) ?_ ?_
          rotate_left
          · (intro wy hSw; (try dsimp only at hSw); go_simp; try with_reducible rfl)
          simp only [Act.put, List.setIfInBounds_toArray, List.set_cons_zero, List.set_cons_succ]
          refine drawn_take 18 rfl (by kernel_rfl) (by kernel_rfl) (by kernel_rfl) (fun _ _ _ h => h) (by rfl) (by assumption) (v := ?_) ?_ ?_
          rotate_left
          · (intro wy hSw; (try dsimp only at hSw); go_simp; try with_reducible rfl)
          simp only [Act.put, List.setIfInBounds_toArray, List.set_cons_zero, List.set_cons_succ]
          refine drawn_take 19 rfl (by kernel_rfl) (by kernel_rfl) (by kernel_rfl) (fun _ _ _ h => h) (by rfl) (by assumption) (v := ?_) ?_ ?_
          rotate_left
          · (intro wy hSw; (try dsimp only at hSw); go_simp; try with_reducible rfl)
          simp only [Act.put, List.setIfInBounds_toArray, List.set_cons_zero, List.set_cons_succ]
          refine wpAnyH_done (by kernel_rfl) ?_ _
          go_wp2_with fail
          go_ret
          rw [decide_eq_false (HXN.out (HEQ.out.2 (.inr hbb)))]
          exact ⟨rfl, HBD.out⟩
      · have hne : ((xi : Int) != (yi : Int)) = true := by simp; omega
        refine wp_region_held_drew (S := (fun w' => w'.cell? ⟨X, 0, none⟩ = some (.int .u8 (xi : Int)) ∧ w'.cell? ⟨X, 1, none⟩ = some (.slice A4 q c4) ∧ w'.cell? ⟨g2, oo2 + j * 2, none⟩ = some (.int .u8 (yi : Int)) ∧ w'.cell? ⟨g2, oo2 + j * 2 + 1, none⟩ = some (.slice A5 q2 c5) ∧ (convert 22 9 (.slice A4 q c4)).run Tryd.prog w' = .ok (.string ⟨xb.toArray⟩) w' ∧ (convert 22 9 (.slice A5 q2 c5)).run Tryd.prog w' = .ok (.string ⟨yb.toArray⟩) w')) (by kernel_rfl) (⟨z0, z1, l0, l1, cv1, cv2⟩) (fun hHeld => ?_)
        refine drawn_take 0 rfl (by kernel_rfl) (by kernel_rfl) (by kernel_rfl) (fun _ _ _ h => h) (by rfl) (by assumption) (v := ?_) ?_ ?_
        rotate_left
        · (intro wy hSw; (try dsimp only at hSw); go_simp; try with_reducible rfl)
        simp only [Act.put, List.setIfInBounds_toArray, List.set_cons_zero, List.set_cons_succ]
        refine drawn_take 1 rfl (by kernel_rfl) (by kernel_rfl) (by kernel_rfl) (fun _ _ _ h => h) (by rfl) (by assumption) (v := ?_) ?_ ?_
        rotate_left
        · (intro wy hSw; (try dsimp only at hSw); go_simp; try with_reducible rfl)
        simp only [Act.put, List.setIfInBounds_toArray, List.set_cons_zero, List.set_cons_succ]
        refine drawn_take 2 rfl (by kernel_rfl) (by kernel_rfl) (by kernel_rfl) (fun _ _ _ h => h) (by rfl) (by assumption) (v := ?_) ?_ ?_
        rotate_left
        · (intro wy hSw; (try dsimp only at hSw); go_simp; try with_reducible rfl)
        simp only [Act.put, List.setIfInBounds_toArray, List.set_cons_zero, List.set_cons_succ]
        refine drawn_take 3 rfl (by kernel_rfl) (by kernel_rfl) (by kernel_rfl) (fun _ _ _ h => h) (by rfl) (by assumption) (v := ?_) ?_ ?_
        rotate_left
        · (intro wy hSw; (try dsimp only at hSw); go_simp; try with_reducible rfl)
        simp only [Act.put, List.setIfInBounds_toArray, List.set_cons_zero, List.set_cons_succ]
        refine drawn_take 4 rfl (by kernel_rfl) (by kernel_rfl) (by kernel_rfl) (fun _ _ _ h => h) (by rfl) (by assumption) (v := ?_) ?_ ?_
        rotate_left
        · (intro wy hSw; (try dsimp only at hSw); go_simp; try with_reducible rfl)
        simp only [Act.put, List.setIfInBounds_toArray, List.set_cons_zero, List.set_cons_succ]
        refine drawn_take 5 rfl (by kernel_rfl) (by kernel_rfl) (by kernel_rfl) (fun _ _ _ h => h) (by rfl) (by assumption) (v := ?_) ?_ ?_
        rotate_left
        · (intro wy hSw; (try dsimp only at hSw); go_simp; try with_reducible rfl)
        simp only [Act.put, List.setIfInBounds_toArray, List.set_cons_zero, List.set_cons_succ]
        refine drawn_take 6 rfl (by kernel_rfl) (by kernel_rfl) (by kernel_rfl) (fun _ _ _ h => h) (by rfl) (by assumption) (v := ?_) ?_ ?_
        rotate_left
        · (intro wy hSw; (try dsimp only at hSw); go_simp; try with_reducible rfl)
        simp only [Act.put, List.setIfInBounds_toArray, List.set_cons_zero, List.set_cons_succ]
        refine drawn_take 7 rfl (by kernel_rfl) (by kernel_rfl) (by kernel_rfl) (fun _ _ _ h => h) (by rfl) (by assumption) (v := ?_) ?_ ?_
        rotate_left
        · (intro wy hSw; (try dsimp only at hSw); go_simp; try with_reducible rfl)
        simp only [Act.put, List.setIfInBounds_toArray, List.set_cons_zero, List.set_cons_succ]
        refine drawn_take 8 rfl (by kernel_rfl) (by kernel_rfl) (by kernel_rfl) (fun _ _ _ h => h) (by rfl) (by assumption) (v := ?_) ?_ ?_
        rotate_left
        · (intro wy hSw; (try dsimp only at hSw); go_simp; try with_reducible rfl)
        simp only [Act.put, List.setIfInBounds_toArray, List.set_cons_zero, List.set_cons_succ]
        refine drawn_skip 9 rfl (by kernel_rfl) (by kernel_rfl) (by kernel_rfl) (fun _ _ _ h => h) (by rfl) (by assumption) ?_
        simp only [Act.put, List.setIfInBounds_toArray, List.set_cons_zero, List.set_cons_succ]
        refine drawn_skip 10 rfl (by kernel_rfl) (by kernel_rfl) (by kernel_rfl) (fun _ _ _ h => h) (by rfl) (by assumption) ?_
        simp only [Act.put, List.setIfInBounds_toArray, List.set_cons_zero, List.set_cons_succ]
        refine drawn_skip 11 rfl (by kernel_rfl) (by kernel_rfl) (by kernel_rfl) (fun _ _ _ h => h) (by rfl) (by assumption) ?_
        simp only [Act.put, List.setIfInBounds_toArray, List.set_cons_zero, List.set_cons_succ]
        refine drawn_skip 12 rfl (by kernel_rfl) (by kernel_rfl) (by kernel_rfl) (fun _ _ _ h => h) (by rfl) (by assumption) ?_
        simp only [Act.put, List.setIfInBounds_toArray, List.set_cons_zero, List.set_cons_succ]
        refine drawn_skip 13 rfl (by kernel_rfl) (by kernel_rfl) (by kernel_rfl) (fun _ _ _ h => h) (by rfl) (by assumption) ?_
        simp only [Act.put, List.setIfInBounds_toArray, List.set_cons_zero, List.set_cons_succ]
        refine drawn_skip 14 rfl (by kernel_rfl) (by kernel_rfl) (by kernel_rfl) (fun _ _ _ h => h) (by rfl) (by assumption) ?_
        simp only [Act.put, List.setIfInBounds_toArray, List.set_cons_zero, List.set_cons_succ]
        refine drawn_skip 15 rfl (by kernel_rfl) (by kernel_rfl) (by kernel_rfl) (fun _ _ _ h => h) (by rfl) (by assumption) ?_
        simp only [Act.put, List.setIfInBounds_toArray, List.set_cons_zero, List.set_cons_succ]
        refine drawn_skip 16 rfl (by kernel_rfl) (by kernel_rfl) (by kernel_rfl) (fun _ _ _ h => h) (by rfl) (by assumption) ?_
        simp only [Act.put, List.setIfInBounds_toArray, List.set_cons_zero, List.set_cons_succ]
        refine drawn_skip 17 rfl (by kernel_rfl) (by kernel_rfl) (by kernel_rfl) (fun _ _ _ h => h) (by rfl) (by assumption) ?_
        simp only [Act.put, List.setIfInBounds_toArray, List.set_cons_zero, List.set_cons_succ]
        refine drawn_skip 18 rfl (by kernel_rfl) (by kernel_rfl) (by kernel_rfl) (fun _ _ _ h => h) (by rfl) (by assumption) ?_
        simp only [Act.put, List.setIfInBounds_toArray, List.set_cons_zero, List.set_cons_succ]
        refine drawn_take 19 rfl (by kernel_rfl) (by kernel_rfl) (by kernel_rfl) (fun _ _ _ h => h) (by rfl) (by assumption) (v := ?_) ?_ ?_
        rotate_left
        · (intro wy hSw; (try dsimp only at hSw); go_simp; try with_reducible rfl)
        simp only [Act.put, List.setIfInBounds_toArray, List.set_cons_zero, List.set_cons_succ]
        refine wpAnyH_done (by kernel_rfl) ?_ _
        go_wp2_with fail
        go_ret
        rw [decide_eq_false (HXN.out (HEQ.out.2 (.inl hid)))]
        exact ⟨rfl, HBD.out⟩
    · obtain rfl : j = n := by omega
      have hall : xs = ys := by
        have h := HE.out
        have h1 : xs.take j = xs := by rw [HN.out, List.take_length]
        have h2 : ys.take j = ys := by rw [HM.out, List.take_length]
        rw [h1, h2] at h
        exact h
      have hdd : decide (xs = ys) = true := decide_eq_true hall
      go_wp2_with fail
      go_ret
      rw [hdd]
      exact ⟨rfl, HB.out⟩
end Go.Proofs.YtanhgpdeoffmfaaDoor
