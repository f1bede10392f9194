/-
  Layer 14: the document's Parts. (gen/cost/pref.py)
-/
import Derived.Test.YtknnkmakfcfnjaaDoorPaEnds
import Derived.Test.YtknnkmakfcfnjaaDoorPaCon
import Derived.Test.YtknnkmakfcfnjaaDoorCoRef2
import Derived.Deep.CutRange
import Derived.Deep.CutBlock
import Derived.Deep.RegionWith
namespace Go.Proofs.YtknnkmakfcfnjaaDoor
open Go.RowKit Ins
set_option maxRecDepth 100000 in
set_option maxHeartbeats 4000000 in
theorem rparts_any (xs : List I) (S : Nat → Prop) (A : Option Addr) (n c0 : Nat) (w : World) (hn : n = xs.length) (hs : n ≤ 1000000) (hL : HasL w S A xs) :
    Calls Tryd.prog 8 #[.slice A n c0] w fun e w' => ∃ A' c', e = .returned (.slice A' (Pa.parts xs).length c') ∧ HasL w' (w.heap.size ≤ ·) A' (Pa.parts xs) ∧ Below w.heap.size w w' := by
  have HL := Lib.hid hL
  have HN := Lib.hid hn
  clear hL hn
  have HX := Lib.hid (heap_alloc_new w (.cells #[.int .i64 0, .int .i64 0, .int .u64 0] 32))
  have HB := Lib.hid ((Below.refl w.heap.size w).alloc (Nat.le_refl _) (.cells #[.int .i64 0, .int .i64 0, .int .u64 0] 32))
  go_enter Tryd.func8, Tryd.ntmps8
  go_upto_region 3 with fail
  generalize w.alloc (.cells #[.int .i64 0, .int .i64 0, .int .u64 0] 32) = wa at HX HB ⊢
  obtain ⟨X, hX⟩ : ∃ X, w.heap.size = X := ⟨_, rfl⟩
  have HXS := Lib.hid hX
  rw [hX] at HX HB
  simp only [hX]
  clear hX
  have HLB : Hid (∀ W, Below X w W → HasL W S A xs) := Lib.hid (fun W hb => HL.out.on (by rw [HXS.out]; exact hb))
  go_wp2
  go_loopw [5, 3] (fun i v wr => ∃ (k a c : Nat) (t : Int) (ps : List Pa.P), k ≤ n ∧ i = .int .i64 (k : Int) ∧ a ≤ k ∧ c ≤ 20 * k ∧ ps.length ≤ k ∧ Hid (Pa.parts xs = ps ++ Pa.go a k c (xs.drop k)) ∧ Hid (wr.heap[X]? = some (.cells #[.int .i64 (a : Int), .int .i64 t, .int .u64 (c : Int)] 32 (0, 0))) ∧ Hid (OwnL 32 wr (X + 1) (fun _ => False) v ps) ∧ Hid (Below X w wr)) (fun i _ _ => n - (intOf i).toNat)
  case atStart => exact ⟨0, 0, 0, 0, [], Nat.zero_le _, rfl, Nat.le_refl _, Nat.zero_le _, Nat.zero_le _, Lib.hid (by rw [List.drop_zero]; rfl), HX, Lib.hid (OwnL.nil _ _ _ _), HB⟩
  case round =>
    clear HX HB
    obtain ⟨k, a, c, t, ps, hk, rfl, hak, hck, hpk, HG, HC, HO, HB⟩ := hrel
    by_cases hlt : k < n
    · have hlti : (k : Int) < (n : Int) := by omega
      obtain ⟨x, hx⟩ : ∃ x, xs[k]? = some x := ⟨_, List.getElem?_eq_getElem (by rw [← HN.out]; exact hlt)⟩
      have HLX := Lib.hid (HLB.out _ HB.out)
      obtain ⟨g, o, v1, v2, v3, v4, rfl, hop, z0, z1, z2, z3, ⟨A', n', c', rfl⟩, z4⟩ := HLX.out.five (Below.refl _ _) hx
      have HST := Lib.hid (Pa.go_step hx a c)
      rw [← HN.out] at HST
      have HXX := Lib.hid hx
      clear hx
      obtain ⟨op, hop'⟩ : ∃ o1, x.op = o1 := ⟨_, rfl⟩
      rw [hop'] at hop z0 HST
      have HOP := Lib.hid hop
      have HOPX := Lib.hid hop'
      clear hop' hop
      have hq20 := Co.of_le op
      have hw : IntKind.u64.wrap ((c : Int) + (Co.of op : Int)) = (c : Int) + (Co.of op : Int) := IntWalk.u64_in _ (by omega)
      obtain ⟨q, hq⟩ : ∃ q, Co.of op = q := ⟨_, rfl⟩
      rw [hq] at hw HST hq20
      have HQ := Lib.hid hq
      clear hq
      have p0 := cellP HC.out 0 _ rfl
      have p1 := cellP HC.out 1 _ rfl
      have p2 := cellP HC.out 2 _ rfl
      have hXl : X < wr.heap.size := (Array.getElem?_eq_some_iff.1 HC.out).1
      go_upto_region 6 with fail
      go_cut [20] from 13 to 21 (fun u wx => Hid (wx.heap[X]? = some (.cells #[.int .i64 (a : Int), .int .i64 t, .int .u64 ((c : Int) + (q : Int))] 32 (0, 0))) ∧ Hid (OwnL 32 wx (X + 1) (fun _ => False) u3 ps) ∧ Hid (Below X w wx) ∧ Hid (HasL wx S (some ⟨g, o, none⟩) xs))
      case first =>
        go_region_with (go_at_call 15; refine (cref_any op _ _ _ _ _ HOP.out).mono ?_; rintro e w2 ⟨rfl, hb2⟩; rw [HQ.out]; have HB2 : Hid (Below wr.heap.size wr w2) := Lib.hid (by first | exact (Below.drew (Below.refl wr.heap.size wr)).trans hb2 | exact hb2); clear hb2; have HC2 := Lib.hid ((HB2.out.block X hXl).trans HC.out); have c2 := cellP HC2.out 2 _ rfl; have f2 := frozen_of_row w2 X 2 _ _ HC2.out)
        all_goals
          have HR2 := Lib.hid (set_heap HC2.out 2 (.int .u64 ((c : Int) + (q : Int))))
          have HR3 := Lib.hid (own_set (own_next HO.out HB2.out) 2 (.int .u64 ((c : Int) + (q : Int))))
          have HR4 := Lib.hid ((HB.out.trans (HB2.out.mono (Nat.le_of_lt hXl))).setCell (p := ⟨X, 2, none⟩) (Nat.le_refl _) (.int .u64 ((c : Int) + (q : Int))))
          have HR5 := Lib.hid (HLB.out _ HR4.out)
          go_wp2_with fail
          go_meet
          case rel => exact ⟨HR2, HR3, HR4, HR5⟩
      case rest =>
        obtain ⟨HCX, HOX, HBX, HLX2⟩ := hcut
        clear HC HO HB HLX z0 z1 z2 z3 z4 p0 p1 p2 hXl hw
        have p2 := cellP HCX.out 1 _ rfl
        have f2 := frozen_of_row wc X 1 _ _ HCX.out
        have hwk : IntKind.i64.wrap ((k : Int) + 1) = (k : Int) + 1 := IntWalk.i64_in _ (by omega)
        go_upto_region 8 with fail
        have HC : Hid ((wc.setCell ⟨X, 1, none⟩ (.int .i64 ((k : Int) + 1))).heap[X]? = some (.cells #[.int .i64 (a : Int), .int .i64 ((k : Int) + 1), .int .u64 ((c : Int) + (q : Int))] 32 (0, 0))) := Lib.hid (set_heap HCX.out 1 (.int .i64 ((k : Int) + 1)))
        have HO := Lib.hid (own_set HOX.out 1 (.int .i64 ((k : Int) + 1)))
        have HB := Lib.hid (HBX.out.setCell (p := ⟨X, 1, none⟩) (Nat.le_refl _) (.int .i64 ((k : Int) + 1)))
        have HL2 := Lib.hid (HLB.out _ HB.out)
        clear p2 f2 HCX HOX HBX HLX2
        generalize wc.setCell ⟨X, 1, none⟩ (.int .i64 ((k : Int) + 1)) = wd at HC HO HB HL2 ⊢
        have hXd : X < wd.heap.size := (Array.getElem?_eq_some_iff.1 HC.out).1
        obtain ⟨g2, o2, y1, y2, y3, y4, hgo, _, z0, _⟩ := HL2.out.five (Below.refl _ _) HXX.out
        injection hgo with hgo
        injection hgo with hg1 hg2 _
        subst hg1 hg2
        rw [HOPX.out] at z0
        obtain ⟨en, hen⟩ : ∃ b, Pa.ends op = b := ⟨_, rfl⟩
        have HE := Lib.hid hen
        rw [hen] at HST
        clear hen
        have hwn : IntKind.i64.wrap ((n : Int) - 1) = (n : Int) - 1 := IntWalk.i64_in _ (by omega)
        cases en with
        | false =>
          by_cases hkn : k + 1 = n
          · have ekn : ((k : Int) == (n : Int) - 1) = true := by rw [beq_iff_eq]; omega
            have HG2 : Hid (Pa.parts xs = ps ++ (if 0 < c + q then ⟨a, k + 1, c + q⟩ :: Pa.go (k + 1) (k + 1) 0 (xs.drop (k + 1)) else Pa.go (k + 1) (k + 1) 0 (xs.drop (k + 1)))) := Lib.hid (by
              rw [HG.out, HST.out, decide_eq_true hkn]; rfl)
            clear hkn
            go_upto_region 9 with (go_at_call 10; refine (rends_any op _ HOP.out).mono ?_; rintro e w2 ⟨rfl, hb2⟩; rw [HE.out]; have HB2 := Lib.hid hb2; clear hb2; have HC2 := Lib.hid ((HB2.out.block X hXd).trans HC.out); have c0 := cellP HC2.out 0 _ rfl; have c1 := cellP HC2.out 1 _ rfl; have c2 := cellP HC2.out 2 _ rfl; have f0 := frozen_of_row w2 X 0 _ _ HC2.out; have f1 := frozen_of_row w2 X 1 _ _ HC2.out; have f2 := frozen_of_row w2 X 2 _ _ HC2.out; have HO2 := Lib.hid (own_next HO.out HB2.out); have HBB := Lib.hid (HB.out.trans (HB2.out.mono (Nat.le_of_lt hXd))))
            clear z0
            by_cases hp : 0 < c + q
            · have ep : (0 : Int) < (c : Int) + (q : Int) := by omega
              have HG3 : Hid (Pa.parts xs = (ps ++ [⟨a, k + 1, c + q⟩]) ++ Pa.go (k + 1) (k + 1) 0 (xs.drop (k + 1))) := Lib.hid (by rw [HG2.out, if_pos hp, List.append_assoc]; rfl)
              have hXe : X + 1 ≤ w2.heap.size := (Array.getElem?_eq_some_iff.1 HC2.out).1
              obtain ⟨v', w3, hrun, hO3, hM3, hT3⟩ := append1L undPr infPr (by decide) rfl (by decide) w2 (X + 1) (fun _ => False) u3 ps ⟨a, k + 1, c + q⟩ [.int .i64 (a : Int), .int .i64 ((k : Int) + 1), .int .u64 ((c : Int) + (q : Int))] HO2.out (by omega) hXe (by show _ = partCells _; simp [partCells]) (by simp; exact ⟨rfl, rfl, rfl⟩) (fun _ _ h => h.elim)
              have hne : ∀ g, u3.ownBlock = some g → g ≠ X := fun g hg e => by have := (OwnL.lt HO2.out g hg).1; omega
              have HC3 := Lib.hid (hM3.heap HC2.out (fun e => hne X e rfl))
              have HO3 : Hid (OwnL 32 w3 (X + 1) (fun _ => False) v' (ps ++ [⟨a, k + 1, c + q⟩])) := Lib.hid (hO3.more (fun _ _ h => h.1.elim))
              have HB3 := Lib.hid (HBB.out.trans (hM3.below (Nat.le_of_lt hXe) (fun g hg e => by have := (OwnL.lt HO2.out g e).1; omega)))
              have HRUN := Lib.hid hrun
              clear hrun hO3 hM3 hT3 hne hXe hp
              have d0 := cellP HC3.out 0 _ rfl
              have d1 := cellP HC3.out 1 _ rfl
              have d2 := cellP HC3.out 2 _ rfl
              have g0 := frozen_of_row w3 X 0 _ _ HC3.out
              have g1 := frozen_of_row w3 X 1 _ _ HC3.out
              have g2 := frozen_of_row w3 X 2 _ _ HC3.out
              go_wp2_with (at_builtin; refine wpList_appends rfl (.tmp 41) (.tmp 43) 26 rfl _ _ _ w3 rfl rfl HRUN.out ?_)
              have HC5 : Hid ((((w3.setCell ⟨X, 0, none⟩ (.int .i64 ((k : Int) + 1))).setCell ⟨X, 1, none⟩ (.int .i64 0)).setCell ⟨X, 2, none⟩ (.int .u64 0)).heap[X]? = some (.cells #[.int .i64 ((k + 1 : Nat) : Int), .int .i64 0, .int .u64 ((0 : Nat) : Int)] 32 (0, 0))) := Lib.hid (by rw [Int.natCast_add]; exact set_heap (set_heap (set_heap HC3.out 0 _) 1 _) 2 _)
              have HO5 := Lib.hid (own_set (own_set (own_set HO3.out 0 (.int .i64 ((k : Int) + 1))) 1 (.int .i64 0)) 2 (.int .u64 0))
              have HB5 := Lib.hid (((HB3.out.setCell (p := ⟨X, 0, none⟩) (Nat.le_refl _) (.int .i64 ((k : Int) + 1))).setCell (p := ⟨X, 1, none⟩) (Nat.le_refl _) (.int .i64 0)).setCell (p := ⟨X, 2, none⟩) (Nat.le_refl _) (.int .u64 0))
              go_roundw
              case rel => exact ⟨k + 1, k + 1, 0, 0, _, by omega, by go_num, by omega, by omega, by simp; omega, HG3, HC5, HO5, HB5⟩
              case measure => simp [intOf]; omega
            · have ep : decide ((0 : Int) < (c : Int) + (q : Int)) = false := decide_eq_false (by omega)
              have ep2 : decide (0 < c + q) = false := decide_eq_false hp
              have HG3 : Hid (Pa.parts xs = ps ++ Pa.go (k + 1) (k + 1) 0 (xs.drop (k + 1))) := Lib.hid (by rw [HG2.out, if_neg hp])
              clear hp
              go_wp2_with fail
              have HC5 : Hid ((((w2.setCell ⟨X, 0, none⟩ (.int .i64 ((k : Int) + 1))).setCell ⟨X, 1, none⟩ (.int .i64 0)).setCell ⟨X, 2, none⟩ (.int .u64 0)).heap[X]? = some (.cells #[.int .i64 ((k + 1 : Nat) : Int), .int .i64 0, .int .u64 ((0 : Nat) : Int)] 32 (0, 0))) := Lib.hid (by rw [Int.natCast_add]; exact set_heap (set_heap (set_heap HC2.out 0 _) 1 _) 2 _)
              have HO5 := Lib.hid (own_set (own_set (own_set HO2.out 0 (.int .i64 ((k : Int) + 1))) 1 (.int .i64 0)) 2 (.int .u64 0))
              have HB5 := Lib.hid (((HBB.out.setCell (p := ⟨X, 0, none⟩) (Nat.le_refl _) (.int .i64 ((k : Int) + 1))).setCell (p := ⟨X, 1, none⟩) (Nat.le_refl _) (.int .i64 0)).setCell (p := ⟨X, 2, none⟩) (Nat.le_refl _) (.int .u64 0))
              go_roundw
              case rel => exact ⟨k + 1, k + 1, 0, 0, ps, by omega, by go_num, by omega, by omega, by omega, HG3, HC5, HO5, HB5⟩
              case measure => simp [intOf]; omega
          · have ekn : ((k : Int) == (n : Int) - 1) = false := by rw [beq_eq_false_iff_ne]; omega
            have HG2 : Hid (Pa.parts xs = ps ++ Pa.go a (k + 1) (c + q) (xs.drop (k + 1))) := Lib.hid (by
              rw [HG.out, HST.out, decide_eq_false hkn]; rfl)
            clear hkn
            go_wp2_with (go_at_call 10; refine (rends_any op _ HOP.out).mono ?_; rintro e w2 ⟨rfl, hb2⟩; rw [HE.out]; have HB2 := Lib.hid hb2; clear hb2; have HC2 := Lib.hid ((HB2.out.block X hXd).trans HC.out); have c0 := cellP HC2.out 0 _ rfl; have c1 := cellP HC2.out 1 _ rfl; have c2 := cellP HC2.out 2 _ rfl; have f0 := frozen_of_row w2 X 0 _ _ HC2.out; have f1 := frozen_of_row w2 X 1 _ _ HC2.out; have f2 := frozen_of_row w2 X 2 _ _ HC2.out; have HO2 := Lib.hid (own_next HO.out HB2.out); have HBB := Lib.hid (HB.out.trans (HB2.out.mono (Nat.le_of_lt hXd))))
            have HC4 : Hid (w2.heap[X]? = some (.cells #[.int .i64 (a : Int), .int .i64 ((k : Int) + 1), .int .u64 ((c + q : Nat) : Int)] 32 (0, 0))) := Lib.hid (by rw [Int.natCast_add]; exact HC2.out)
            go_roundw
            case rel => exact ⟨k + 1, a, c + q, _, ps, by omega, by go_num, by omega, by omega, by omega, HG2, HC4, HO2, HBB⟩
            case measure => simp [intOf]; omega
        | true =>
          have HG2 : Hid (Pa.parts xs = ps ++ (if 0 < c + q then ⟨a, k + 1, c + q⟩ :: Pa.go (k + 1) (k + 1) 0 (xs.drop (k + 1)) else Pa.go (k + 1) (k + 1) 0 (xs.drop (k + 1)))) := Lib.hid (by
            rw [HG.out, HST.out]; rfl)
          go_upto_region 9 with (go_at_call 10; refine (rends_any op _ HOP.out).mono ?_; rintro e w2 ⟨rfl, hb2⟩; rw [HE.out]; have HB2 := Lib.hid hb2; clear hb2; have HC2 := Lib.hid ((HB2.out.block X hXd).trans HC.out); have c0 := cellP HC2.out 0 _ rfl; have c1 := cellP HC2.out 1 _ rfl; have c2 := cellP HC2.out 2 _ rfl; have f0 := frozen_of_row w2 X 0 _ _ HC2.out; have f1 := frozen_of_row w2 X 1 _ _ HC2.out; have f2 := frozen_of_row w2 X 2 _ _ HC2.out; have HO2 := Lib.hid (own_next HO.out HB2.out); have HBB := Lib.hid (HB.out.trans (HB2.out.mono (Nat.le_of_lt hXd))))
          clear z0
          by_cases hp : 0 < c + q
          · have ep : (0 : Int) < (c : Int) + (q : Int) := by omega
            have HG3 : Hid (Pa.parts xs = (ps ++ [⟨a, k + 1, c + q⟩]) ++ Pa.go (k + 1) (k + 1) 0 (xs.drop (k + 1))) := Lib.hid (by rw [HG2.out, if_pos hp, List.append_assoc]; rfl)
            have hXe : X + 1 ≤ w2.heap.size := (Array.getElem?_eq_some_iff.1 HC2.out).1
            obtain ⟨v', w3, hrun, hO3, hM3, hT3⟩ := append1L undPr infPr (by decide) rfl (by decide) w2 (X + 1) (fun _ => False) u3 ps ⟨a, k + 1, c + q⟩ [.int .i64 (a : Int), .int .i64 ((k : Int) + 1), .int .u64 ((c : Int) + (q : Int))] HO2.out (by omega) hXe (by show _ = partCells _; simp [partCells]) (by simp; exact ⟨rfl, rfl, rfl⟩) (fun _ _ h => h.elim)
            have hne : ∀ g, u3.ownBlock = some g → g ≠ X := fun g hg e => by have := (OwnL.lt HO2.out g hg).1; omega
            have HC3 := Lib.hid (hM3.heap HC2.out (fun e => hne X e rfl))
            have HO3 : Hid (OwnL 32 w3 (X + 1) (fun _ => False) v' (ps ++ [⟨a, k + 1, c + q⟩])) := Lib.hid (hO3.more (fun _ _ h => h.1.elim))
            have HB3 := Lib.hid (HBB.out.trans (hM3.below (Nat.le_of_lt hXe) (fun g hg e => by have := (OwnL.lt HO2.out g e).1; omega)))
            have HRUN := Lib.hid hrun
            clear hrun hO3 hM3 hT3 hne hXe hp
            have d0 := cellP HC3.out 0 _ rfl
            have d1 := cellP HC3.out 1 _ rfl
            have d2 := cellP HC3.out 2 _ rfl
            have g0 := frozen_of_row w3 X 0 _ _ HC3.out
            have g1 := frozen_of_row w3 X 1 _ _ HC3.out
            have g2 := frozen_of_row w3 X 2 _ _ HC3.out
            go_wp2_with (at_builtin; refine wpList_appends rfl (.tmp 41) (.tmp 43) 26 rfl _ _ _ w3 rfl rfl HRUN.out ?_)
            have HC5 : Hid ((((w3.setCell ⟨X, 0, none⟩ (.int .i64 ((k : Int) + 1))).setCell ⟨X, 1, none⟩ (.int .i64 0)).setCell ⟨X, 2, none⟩ (.int .u64 0)).heap[X]? = some (.cells #[.int .i64 ((k + 1 : Nat) : Int), .int .i64 0, .int .u64 ((0 : Nat) : Int)] 32 (0, 0))) := Lib.hid (by rw [Int.natCast_add]; exact set_heap (set_heap (set_heap HC3.out 0 _) 1 _) 2 _)
            have HO5 := Lib.hid (own_set (own_set (own_set HO3.out 0 (.int .i64 ((k : Int) + 1))) 1 (.int .i64 0)) 2 (.int .u64 0))
            have HB5 := Lib.hid (((HB3.out.setCell (p := ⟨X, 0, none⟩) (Nat.le_refl _) (.int .i64 ((k : Int) + 1))).setCell (p := ⟨X, 1, none⟩) (Nat.le_refl _) (.int .i64 0)).setCell (p := ⟨X, 2, none⟩) (Nat.le_refl _) (.int .u64 0))
            go_roundw
            case rel => exact ⟨k + 1, k + 1, 0, 0, _, by omega, by go_num, by omega, by omega, by simp; omega, HG3, HC5, HO5, HB5⟩
            case measure => simp [intOf]; omega
          · have ep : decide ((0 : Int) < (c : Int) + (q : Int)) = false := decide_eq_false (by omega)
            have ep2 : decide (0 < c + q) = false := decide_eq_false hp
            have HG3 : Hid (Pa.parts xs = ps ++ Pa.go (k + 1) (k + 1) 0 (xs.drop (k + 1))) := Lib.hid (by rw [HG2.out, if_neg hp])
            clear hp
            go_wp2_with fail
            have HC5 : Hid ((((w2.setCell ⟨X, 0, none⟩ (.int .i64 ((k : Int) + 1))).setCell ⟨X, 1, none⟩ (.int .i64 0)).setCell ⟨X, 2, none⟩ (.int .u64 0)).heap[X]? = some (.cells #[.int .i64 ((k + 1 : Nat) : Int), .int .i64 0, .int .u64 ((0 : Nat) : Int)] 32 (0, 0))) := Lib.hid (by rw [Int.natCast_add]; exact set_heap (set_heap (set_heap HC2.out 0 _) 1 _) 2 _)
            have HO5 := Lib.hid (own_set (own_set (own_set HO2.out 0 (.int .i64 ((k : Int) + 1))) 1 (.int .i64 0)) 2 (.int .u64 0))
            have HB5 := Lib.hid (((HBB.out.setCell (p := ⟨X, 0, none⟩) (Nat.le_refl _) (.int .i64 ((k : Int) + 1))).setCell (p := ⟨X, 1, none⟩) (Nat.le_refl _) (.int .i64 0)).setCell (p := ⟨X, 2, none⟩) (Nat.le_refl _) (.int .u64 0))
            go_roundw
            case rel => exact ⟨k + 1, k + 1, 0, 0, ps, by omega, by go_num, by omega, by omega, by omega, HG3, HC5, HO5, HB5⟩
            case measure => simp [intOf]; omega
    · have hkn : k = n := by omega
      have HR : Hid (Pa.parts xs = ps) := Lib.hid (by rw [HG.out, Pa.go_end (by rw [← HN.out]; omega), List.append_nil])
      have hge : decide ((k : Int) < (n : Int)) = false := decide_eq_false (by omega)
      have hge2 : decide (k < n) = false := decide_eq_false hlt
      obtain ⟨A3, c3, rfl, _, _, _, hl⟩ := HO.out.tell (fun _ h => h.elim)
      have HLR := Lib.hid hl
      clear hlt hkn hl
      go_wp2
      go_ret
      exact ⟨A3, c3, by rw [HR.out]; rfl, by rw [HR.out, HXS.out]; exact HLR.out.more (fun g _ h => by omega), by rw [HXS.out]; exact HB.out⟩
end Go.Proofs.YtknnkmakfcfnjaaDoor
