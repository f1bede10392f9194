/-
  The program's Ends, end, each: what they come to. (gen/part/each.py)
-/
import Derived.Test.YtknnkmakfcfnjaaDoorPaKnown
import Derived.Test.YtknnkmakfcfnjaaDoorRangeO
import Derived.Deep.RegionWith
import Derived.RangeFuncBound
import Derived.RangeFuncCalls
import Derived.RangeFuncLeaves
import Derived.Shelf.RegionOpen
import Derived.OwnWalkIn
import Derived.TacticsInMore
namespace Go.Proofs.YtknnkmakfcfnjaaDoor
open Go.RowKit Ins Go.Shelf
set_option maxRecDepth 100000 in
set_option maxHeartbeats 4000000 in
theorem pends_any (op : Nat) (w : World) (hop : op < 256) : Calls Tryd.prog 9 #[.int .u8 (op : Int)] w fun e w' => e = .returned (.bool (Pa.ends op)) ∧ Below w.heap.size w w' := by
  cases h : Pa.ends op
  case true =>
    have h2 := h
    unfold Pa.ends at h2
    simp only [Bool.or_eq_true, beq_iff_eq] at h2
    rcases h2 with (((((((((((h | h) | h) | h) | h) | h) | h) | h) | h) | h) | h) | h)
    all_goals
      subst h
      go_enter Tryd.func9, Tryd.ntmps9
      go_wp2
      go_ret
      exact ⟨rfl, Below.refl _ _⟩
  case false =>
    unfold Pa.ends at h
    simp only [Bool.or_eq_false_iff, beq_eq_false_iff_ne] at h
    obtain ⟨⟨⟨⟨⟨⟨⟨⟨⟨⟨⟨h0, h1⟩, h2⟩, h3⟩, h4⟩, h5⟩, h6⟩, h7⟩, h8⟩, h9⟩, h10⟩, h11⟩ := h
    have e0 : ((op : Int) == 0) = false := by rw [beq_eq_false_iff_ne]; omega
    have e1 : ((op : Int) == 3) = false := by rw [beq_eq_false_iff_ne]; omega
    have e2 : ((op : Int) == 4) = false := by rw [beq_eq_false_iff_ne]; omega
    have e3 : ((op : Int) == 5) = false := by rw [beq_eq_false_iff_ne]; omega
    have e4 : ((op : Int) == 11) = false := by rw [beq_eq_false_iff_ne]; omega
    have e5 : ((op : Int) == 12) = false := by rw [beq_eq_false_iff_ne]; omega
    have e6 : ((op : Int) == 13) = false := by rw [beq_eq_false_iff_ne]; omega
    have e7 : ((op : Int) == 14) = false := by rw [beq_eq_false_iff_ne]; omega
    have e8 : ((op : Int) == 15) = false := by rw [beq_eq_false_iff_ne]; omega
    have e9 : ((op : Int) == 16) = false := by rw [beq_eq_false_iff_ne]; omega
    have e10 : ((op : Int) == 17) = false := by rw [beq_eq_false_iff_ne]; omega
    have e11 : ((op : Int) == 64) = false := by rw [beq_eq_false_iff_ne]; omega
    clear h0 h1 h2 h3 h4 h5 h6 h7 h8 h9 h10 h11
    go_enter Tryd.func9, Tryd.ntmps9
    go_wp2
    go_ret
    exact ⟨rfl, Below.refl _ _⟩
set_option maxRecDepth 100000 in
set_option maxHeartbeats 4000000 in
theorem pend_any (xs : List I) (S : Nat → Prop) (A : Option Addr) (n c a : Nat) (w : World) (hn : n = xs.length) (ha : a < n) (hcp : CapOk A n c) (hL : HasL w S A xs) :
    Calls Tryd.prog 18 #[.slice A n c, .int .i64 (a : Int)] w fun e w' => e = .returned (.int .i64 ((a + Pa.nx (xs.drop a) : Nat) : Int)) ∧ Below w.heap.size w w' := by
  obtain ⟨x0, hx0⟩ : ∃ x, xs[a]? = some x := ⟨_, List.getElem?_eq_getElem (by rw [← hn]; exact ha)⟩
  obtain ⟨g, o, hA⟩ : ∃ g o, A = some ⟨g, o, none⟩ := by
    obtain ⟨g, o, _, _, _, _, h, _⟩ := hL.five (Below.refl _ _) hx0
    exact ⟨g, o, h⟩
  subst hA
  clear hx0 x0
  obtain ⟨h1, h2, _⟩ := hcp
  have HL := Lib.hid (fun W (hb : Below w.heap.size w W) => (hL.on hb).fromI a)
  have hl : (xs.drop a).length = n - a := by rw [List.length_drop, hn]
  obtain ⟨ys, hys⟩ : ∃ ys, xs.drop a = ys := ⟨_, rfl⟩
  rw [hys] at HL hl ⊢
  have HN := Lib.hid hl
  clear hL hys hl hn
  have s1 : ¬ c = a := by omega
  have s2 : ¬ c - a = 0 := by omega
  have b1 : (0 : Int) ≤ (a : Int) := by omega
  have b2 : (a : Int) ≤ (n : Int) := by omega
  have b3 : (n : Int) ≤ (c : Int) := by omega
  go_enter Tryd.func18, Tryd.ntmps18
  go_upto_region 2 with fail
  go_loopw [11] (fun i wr => ∃ k : Nat, k ≤ n - a ∧ i = .int .i64 (k : Int) ∧ Hid (Pa.nx ys = k + Pa.nx (ys.drop k)) ∧ Hid (Below w.heap.size w wr)) (fun i _ => (n - a) - (intOf i).toNat)
  case atStart => exact ⟨0, Nat.zero_le _, rfl, Lib.hid (by rw [List.drop_zero, Nat.zero_add]), Lib.hid (Below.refl _ _)⟩
  case round =>
    obtain ⟨k, hk, rfl, HX, HB⟩ := hrel
    by_cases hlk : k < n - a
    · have hlk1 : (k : Int) < ((n - a : Nat) : Int) := by omega
      have hlk2 : (k : Int) < (n : Int) - (a : Int) := by omega
      obtain ⟨x, hx⟩ : ∃ x, ys[k]? = some x := ⟨_, List.getElem?_eq_getElem (by rw [HN.out]; exact hlk)⟩
      obtain ⟨g5, o5, v1, v2, v3, v4, hgo, hop, z0, z1, z2, z3, ⟨A', n', c', rfl⟩, z4⟩ := (HL.out _ HB.out).five (Below.refl _ _) hx
      injection hgo with hgo
      injection hgo with hg1 hg2 _
      subst hg1 hg2
      have HE1 : Hid (Pa.ends x.op = true → Pa.nx ys = k + 1) := Lib.hid (Pa.nx_end hx HX.out)
      have HE2 : Hid (Pa.ends x.op = false → Pa.nx ys = k + 1 + Pa.nx (ys.drop (k + 1))) := Lib.hid (Pa.nx_go hx HX.out)
      clear hx HX
      obtain ⟨op, hop'⟩ : ∃ o1, x.op = o1 := ⟨_, rfl⟩
      rw [hop'] at hop z0 HE1 HE2
      have HOP := Lib.hid hop
      clear hop hop'
      have HBJ := Lib.hid (fun o => HB.out.alloc HB.out.size o)
      cases hen : Pa.ends op with
      | true =>
        have HEN := Lib.hid hen
        have HK := Lib.hid (HE1.out hen)
        clear hen HE1 HE2
        have w1 : IntKind.i64.wrap ((a : Int) + (k : Int)) = (a : Int) + (k : Int) := IntWalk.i64_in _ (by omega)
        have w2 : IntKind.i64.wrap ((a : Int) + (k : Int) + 1) = (a : Int) + (k : Int) + 1 := IntWalk.i64_in _ (by omega)
        go_wp2_with (go_at_call 9; refine (pends_any op _ HOP.out).mono ?_; rintro e w8 ⟨rfl, hb8⟩; rw [HEN.out]; have HB8 := Lib.hid (Below.next (HBJ.out _) hb8); clear hb8)
        go_ret
        exact ⟨by rw [HK.out]; go_num, HB8.out⟩
      | false =>
        have HEN := Lib.hid hen
        have HK := Lib.hid (HE2.out hen)
        clear hen HE1 HE2
        go_wp2_with (go_at_call 9; refine (pends_any op _ HOP.out).mono ?_; rintro e w8 ⟨rfl, hb8⟩; rw [HEN.out]; have HB8 := Lib.hid (Below.next (HBJ.out _) hb8); clear hb8)
        go_roundw
        case rel => exact ⟨k + 1, by omega, by go_num, HK, HB8⟩
        case measure => simp [intOf]; omega
    · have hge : decide ((k : Int) < ((n - a : Nat) : Int)) = false := decide_eq_false (by omega)
      have hge2 : decide (k < n - a) = false := decide_eq_false hlk
      have hge3 : decide ((k : Int) < (n : Int) - (a : Int)) = false := decide_eq_false (by omega)
      have HK : Hid (a + Pa.nx ys = n) := Lib.hid (by
        rw [HX.out, List.drop_eq_nil_of_le (by rw [HN.out]; omega)]
        show a + (k + 0) = n
        omega)
      clear hlk HX
      go_wp2_with fail
      go_ret
      exact ⟨by rw [HK.out]; rfl, HB.out⟩
theorem wide_sums (xs : List I) (a b : Nat) (h : xs.length ≤ 1000000) : Co.sum ((xs.take b).drop a) ≤ 20000000 := by
  have h1 := Co.sum_le ((xs.take b).drop a)
  have h2 : ((xs.take b).drop a).length ≤ xs.length := by rw [List.length_drop, List.length_take]; omega
  omega
attribute [local go_sem] Oper.semAt_some
set_option maxRecDepth 100000 in
set_option maxHeartbeats 4000000 in
theorem each_flat (m : Nat) (xs : List I) (S D : Nat → Prop) (A : Option Addr) (n c B0 : Nat) (w : World) (hn : n = xs.length) (hs : n ≤ 1000000) (hcp : CapOk A n c) (hL : HasL w S A xs) (hT : ∀ V, Below B0 w V → TbC V) (hB : B0 ≤ w.heap.size) (hD : ∀ b, D b → B0 ≤ b ∧ ¬ S b) :
    GoesFlat Fence.wide m Tryd.prog 14 (.slice A n c) (fun (p : Pa.P) => #[Value.agg (partCells p).toArray]) (Pa.parts xs) D w := by
  intro l K Z W hW hKb hZb hY h0
  refine callsIn_wide.2 ?_
  have HL0 := Lib.hid (hL.on hW)
  have HTB := Lib.hid hT
  have HN := Lib.hid hn
  have HDD := Lib.hid hD
  have HKB := Lib.hid hKb
  have HZB := Lib.hid hZb
  have HY := Lib.hid hY
  have HK0 := Lib.hid h0
  have HW := Lib.hid (hW.mono hB)
  have HCP := Lib.hid hcp
  have hcn : n ≤ c := hcp.1
  have hcm : c ≤ 9223372036854775807 := hcp.2.1
  have hBW : B0 ≤ W.heap.size := Nat.le_trans hB hW.size
  clear hL hT hn hD hKb hZb hY h0 hW hcp
  go_enter Tryd.func14, Tryd.ntmps14
  go_upto_region 1 with fail
  go_loopw [4] (fun i wr => ∃ (a : Nat) (ps : List Pa.P), a ≤ n ∧ i = .int .i64 (a : Int) ∧ Hid (Pa.parts xs = ps ++ Pa.go a a 0 (xs.drop a)) ∧ Hid (K ps.length wr) ∧ Hid (HasL wr S A xs) ∧ Hid (W.heap.size ≤ wr.heap.size) ∧ Hid (Below B0 w wr)) (fun i _ => n - (intOf i).toNat)
  case atStart => exact ⟨0, [], Nat.zero_le _, rfl, Lib.hid (by rw [List.drop_zero]; rfl), HK0, HL0, Lib.hid (Nat.le_refl _), HW⟩
  case round =>
    clear HK0 HL0
    obtain ⟨a, ps, hak, rfl, HG, HK, HL, HSZ, HB⟩ := hrel
    by_cases hlt : a < n
    · have hlti : (a : Int) < (n : Int) := by omega
      have hat := Pa.go_at (xs := xs) (a := a) (by rw [← HN.out]; exact hlt)
      have hnx : xs.drop a ≠ [] := fun e => by have h := congrArg List.length e; rw [List.length_drop, ← HN.out] at h; simp at h; omega
      have hp1 := Pa.nx_pos hnx
      have hp2 := Pa.nx_le (xs.drop a)
      rw [List.length_drop, ← HN.out] at hp2
      have HGO : Hid (Pa.parts xs = ps ++ ((if 0 < Co.sum ((xs.take (a + Pa.nx (xs.drop a))).drop a) then [⟨a, a + Pa.nx (xs.drop a), Co.sum ((xs.take (a + Pa.nx (xs.drop a))).drop a)⟩] else []) ++ Pa.go (a + Pa.nx (xs.drop a)) (a + Pa.nx (xs.drop a)) 0 (xs.drop (a + Pa.nx (xs.drop a))))) := Lib.hid (by rw [HG.out, hat])
      have HEND := Lib.hid (fun (V : World) (h : HasL V S A xs) => pend_any xs S A n c a V HN.out hlt HCP.out h)
      obtain ⟨e, he⟩ : ∃ e, a + Pa.nx (xs.drop a) = e := ⟨_, rfl⟩
      rw [he] at HGO HEND
      have hae : a < e := by omega
      have hen : e ≤ n := by omega
      clear hat hnx hp1 hp2 he HG
      have hq20 := wide_sums xs a e (by rw [← HN.out]; exact hs)
      have HSUM := Lib.hid (fun (V : World) g o (hA : A = some ⟨g, o, none⟩) (h : HasL V S A xs) (ht : TbC V) => csum_any ((xs.take e).drop a) S (some ⟨g, o + a * 5, none⟩) (e - a) (c - a) V (by rw [List.length_drop, List.length_take, ← HN.out]; omega) (by omega) (by rw [hA] at h; exact h.midI a e) ht)
      obtain ⟨q, hq⟩ : ∃ q, Co.sum ((xs.take e).drop a) = q := ⟨_, rfl⟩
      rw [hq] at HGO HSUM hq20
      clear hq
      obtain ⟨x0, hx0⟩ : ∃ x, xs[a]? = some x := ⟨_, List.getElem?_eq_getElem (by rw [← HN.out]; exact hlt)⟩
      obtain ⟨g, o, hA⟩ : ∃ g o, A = some ⟨g, o, none⟩ := by
        obtain ⟨g, o, _, _, _, _, h, _⟩ := HL.out.five (Below.refl _ _) hx0
        exact ⟨g, o, h⟩
      clear hx0 x0
      have HSUM2 := Lib.hid (fun V => HSUM.out V g o hA)
      subst hA
      clear HSUM
      have s1 : ¬ c = a := by omega
      have s2 : ¬ c - a = 0 := by omega
      have b1 : (0 : Int) ≤ (a : Int) := by omega
      have b2 : (a : Int) ≤ (e : Int) := by omega
      have b3 : (e : Int) ≤ (c : Int) := by omega
      go_upto_region 3 with (go_at_call 18; refine (HEND.out _ HL.out).mono ?_; rintro e1 w2 ⟨rfl, hb2⟩; have HB2 := Lib.hid hb2; clear hb2)
      have HL2 := Lib.hid (HL.out.on HB2.out)
      have HK2 := Lib.hid (HKB.out _ _ _ HK.out HB2.out)
      have HBB2 := Lib.hid (HB.out.trans (HB2.out.mono (Nat.le_trans hB HB.out.size)))
      have HSZ2 : Hid (W.heap.size ≤ w2.heap.size) := Lib.hid (Nat.le_trans HSZ.out HB2.out.size)
      clear HL HK HB HB2 HSZ HEND
      go_upto_region 4 with (go_at_call 12; refine (HSUM2.out _ HL2.out (HTB.out _ HBB2.out)).mono ?_; rintro e1 w3 ⟨rfl, hb3⟩; have HB3 := Lib.hid hb3; clear hb3)
      have HL3 := Lib.hid (HL2.out.on HB3.out)
      have HK3 := Lib.hid (HKB.out _ _ _ HK2.out HB3.out)
      have HBB3 := Lib.hid (HBB2.out.trans (HB3.out.mono (Nat.le_trans hB HBB2.out.size)))
      have hsz3 := Nat.le_trans HSZ2.out HB3.out.size
      have HSZ3 := Lib.hid hsz3
      clear HL2 HK2 HBB2 HB3 HSZ2 HSUM2 hsz3 s1 s2 b1 b2 b3
      by_cases hp : 0 < q
      · have ep : (0 : Int) < (q : Int) := by omega
        have HG3 : Hid (Pa.parts xs = (ps ++ [⟨a, e, q⟩]) ++ Pa.go e e 0 (xs.drop e)) := Lib.hid (by rw [HGO.out, if_pos hp, List.append_assoc])
        have hat : (Pa.parts xs)[ps.length]? = some ⟨a, e, q⟩ := by rw [HGO.out, if_pos hp, List.getElem?_append_right (Nat.le_refl _), Nat.sub_self]; rfl
        have hpl : ps.length < (Pa.parts xs).length := (List.getElem?_eq_some_iff.1 hat).1
        obtain ⟨fn, tmps, assign, body, hy, hR⟩ := HY.out ps.length ⟨a, e, q⟩ w3 hat HK3.out HSZ3.out
        have epc : partCells ⟨a, e, q⟩ = [.int .i64 (a : Int), .int .i64 (e : Int), .int .u64 (q : Int)] := by simp [partCells]
        simp only [epc] at hy
        have HRR := Lib.hid hR
        have HPL := Lib.hid hpl
        clear hp hat epc hR hpl HGO
        refine (wpIn_wide (n := m)).1 ?_
        gi_wp2
        refine ⟨fun h => (by cases h), HRR.out.mono ?_⟩
        rintro e1 W3 (⟨rfl, hK3, hM3⟩ | ⟨rfl, hZ3, hZs⟩)
        · have HL4 := Lib.hid (HL3.out.mod hM3 (fun b _ hb hd => (HDD.out b hd).2 hb))
          have HBB4 := Lib.hid (HBB3.out.trans (hM3.below (Nat.le_trans hB HBB3.out.size) (fun b hb hd => by have := (HDD.out b hd).1; omega)))
          have HK4 : Hid (K (ps ++ [(⟨a, e, q⟩ : Pa.P)]).length W3) := Lib.hid (by rw [List.length_append]; exact hK3)
          have HSZ4 : Hid (W.heap.size ≤ W3.heap.size) := Lib.hid (Nat.le_trans HSZ3.out hM3.size)
          clear hK3 hM3
          gi_wp2
          go_wp2_with fail
          go_roundw
          case rel => exact ⟨e, _, hen, by go_num, HG3, HK4, HL4, HSZ4, HBB4⟩
          case measure => simp [intOf]; omega
        · gi_wp2
          go_wp2_with fail
          refine bodyPost_ret (results_none rfl _ _ _) rfl ?_
          exact ⟨⟨_, rfl⟩, .inr ⟨ps.length + 1, HPL.out, hZ3⟩⟩
      · have ep : decide ((0 : Int) < (q : Int)) = false := decide_eq_false (by omega)
        have ep2 : decide (0 < q) = false := decide_eq_false hp
        have HG3 : Hid (Pa.parts xs = ps ++ Pa.go e e 0 (xs.drop e)) := Lib.hid (by rw [HGO.out, if_neg hp, List.nil_append])
        clear hp HGO
        go_wp2_with fail
        go_roundw
        case rel => exact ⟨e, ps, hen, by go_num, HG3, HK3, HL3, HSZ3, HBB3⟩
        case measure => simp [intOf]; omega
    · have hkn : a = n := by omega
      have HR : Hid (Pa.parts xs = ps) := Lib.hid (by rw [HG.out, Pa.go_end (by rw [← HN.out]; omega), List.append_nil])
      have hge : decide ((a : Int) < (n : Int)) = false := decide_eq_false (by omega)
      have hge2 : decide (a < n) = false := decide_eq_false hlt
      clear hlt hkn
      go_wp2
      go_end0
      exact ⟨⟨_, rfl⟩, .inl (by rw [HR.out]; exact HK.out)⟩
end Go.Proofs.YtknnkmakfcfnjaaDoor
