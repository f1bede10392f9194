/-
  The document's Split: a binary's sections, in a row of the call's own; or that the bytes are none. (gen/secrsplit.py)
-/
import Derived.Test.YtanhgpdeoffmfaaDoorSecSame
import Derived.Test.YtanhgpdeoffmfaaDoorNmRTake
import Derived.Deep.CutRange
namespace Sec
open Leb
theorem split_short {l : List UInt8} (h : l.length < 8) : split l = none := by
  rw [split_eq, if_neg]
  intro e
  have := congrArg List.length e
  simp [begin8] at this
  omega
theorem split_bad {l : List UInt8} (h : l.take 8 ≠ begin8) : split l = none := by rw [split_eq, if_neg h]
theorem split_good {l : List UInt8} (h : l.take 8 = begin8) : split l = rdc 0 (l.drop 8) := by rw [split_eq, if_pos h]
/-- What is read from a place on. -/
def st (l : List UInt8) (xs : List S) (k p : Nat) : Prop := split l = (rdc k (l.drop p)).map (xs ++ ·)
theorem st_zero {l : List UInt8} (h : l.take 8 = begin8) : st l [] 0 8 := by
  unfold st; rw [split_good h]; simp
theorem st_end {l : List UInt8} {xs : List S} {k p : Nat} (h : st l xs k p) (hp : l.length ≤ p) : split l = some xs := by
  unfold st at h
  rw [h, List.drop_of_length_le hp, rdc_nil]; simp
theorem drop_at {l : List UInt8} {p : Nat} {x : UInt8} (h : l[p]? = some x) : l.drop p = x :: l.drop (p + 1) := by
  have hp : p < l.length := (List.getElem?_eq_some_iff.1 h).1
  rw [List.drop_eq_getElem_cons hp, (List.getElem?_eq_some_iff.1 h).2]
theorem st_none {l : List UInt8} {xs : List S} {k p : Nat} {x : UInt8} (h : st l xs k p) (hx : l[p]? = some x) (hb : okU (l.drop (p + 1)) 32 = false ∨ l.length < p + 1 + run (l.drop (p + 1)) + used (l.drop (p + 1))) : split l = none := by
  unfold st at h
  have hp : p < l.length := (List.getElem?_eq_some_iff.1 hx).1
  rw [h, drop_at hx, rdc_none (by simp)]
  · rfl
  · simp only [hd]
    rw [if_neg]
    rintro ⟨h1, h2⟩
    rcases hb with hb | hb
    · rw [hb] at h1; cases h1
    · rw [List.length_drop] at h2; omega
theorem hd_at {l : List UInt8} {p : Nat} {x : UInt8} (hx : l[p]? = some x) (h1 : okU (l.drop (p + 1)) 32 = true) (h2 : p + 1 + run (l.drop (p + 1)) + used (l.drop (p + 1)) ≤ l.length) : hd (l.drop p) = some (x.toNat, (l.drop (p + 1 + run (l.drop (p + 1)))).take (used (l.drop (p + 1))), l.drop (p + 1 + run (l.drop (p + 1)) + used (l.drop (p + 1)))) := by
  rw [drop_at hx]
  simp only [hd]
  rw [if_pos ⟨h1, by rw [List.length_drop]; omega⟩, List.drop_drop, List.drop_drop]
  congr 3
  congr 1
  omega
theorem st_step {l : List UInt8} {xs : List S} {k p : Nat} {x : UInt8} {R U : Nat} (h : st l xs k p) (hx : l[p]? = some x) (h1 : okU (l.drop (p + 1)) 32 = true) (hR : run (l.drop (p + 1)) = R) (hU : used (l.drop (p + 1)) = U) (h2 : p + 1 + R + U ≤ l.length) :
    (x.toNat = 0 → if named ((l.drop (p + 1 + R)).take U) = true then st l xs k (p + 1 + R + U) else split l = none) ∧
    (x.toNat ≠ 0 → if k < x.toNat ∧ x.toNat ≤ 11 then st l (xs ++ [⟨x.toNat, (l.drop (p + 1 + R)).take U⟩]) x.toNat (p + 1 + R + U) else split l = none) := by
  subst hR hU
  have hh := rdc_some (k := k) (hd_at hx h1 h2)
  unfold st at h ⊢
  constructor
  · intro h0
    rw [if_pos h0] at hh
    split
    · next hn => rw [h, hh, if_pos hn]
    · next hn => rw [h, hh, if_neg hn]; rfl
  · intro h0
    rw [if_neg h0] at hh
    split
    · next hn => rw [h, hh, if_pos hn, Option.map_map]; congr 1; funext a; simp
    · next hn => rw [h, hh, if_neg hn]; rfl
end Sec
namespace Go.Proofs.YtanhgpdeoffmfaaDoor
open Go.RowKit Sec
/-- What a call of the document's Split comes to. -/
def RSPost (l : List UInt8) (w : World) (e : Ending) (w' : World) : Prop :=
  Below w.heap.size w w' ∧ match split l with
    | none => e = .returned (.tuple #[.slice none 0 0, .bool false])
    | some xs => ∃ v, e = .returned (.tuple #[v, .bool true]) ∧ OwnS w' 51 w.heap.size v xs.length xs
theorem rsPost_no {l : List UInt8} {w w' : World} (h : split l = none) (hb : Below w.heap.size w w') : RSPost l w (.returned (.tuple #[.slice none 0 0, .bool false])) w' := ⟨hb, by rw [h]⟩
theorem named_ok (l : List UInt8) : Nm.ok l = named l := rfl
theorem add_add (ad : Addr) (a b : Nat) : (ad.add a).add b = ad.add (a + b) := by
  unfold Addr.add
  by_cases ha : a = 0
  · subst ha; simp
  · by_cases hb : b = 0
    · subst hb; simp [ha]
    · simp [ha, hb]; omega
set_option maxRecDepth 100000 in
set_option maxHeartbeats 4000000 in
theorem rsplit_any (A : Option Addr) (l : List UInt8) (n c : Nat) (w : World) (hA : Has w w.heap.size A l) (hn : n = l.length) (hmax : n ≤ 1000000) (hc : n ≤ c) (hcm : c ≤ maxLen) :
    Calls Tryd.prog 10 #[.slice A n c] w (RSPost l w) := by
  unfold maxLen at hcm
  by_cases h8 : n < 8
  · have hs := split_short (l := l) (by omega)
    have HS := Lib.hid hs
    have h8i : decide ((n : Int) < 8) = true := by simp; omega
    clear hs hA hn
    go_enter Tryd.func10, Tryd.ntmps10
    go_upto_region 1 with (fail)
    refine wp_region_held_drew (S := (fun _ => True)) (by kernel_rfl) (trivial) (fun hHeld => ?_)
    refine drawn_take 0 rfl (by kernel_rfl) (by kernel_rfl) (by kernel_rfl) (fun _ _ _ h => h) (by rfl) (by assumption) (v := ?_) ?_ ?_
    rotate_left
    · (intro wy hSw; (try dsimp only at hSw); go_simp; try with_reducible rfl)
    simp only [Act.put, List.setIfInBounds_toArray, List.set_cons_zero, List.set_cons_succ]
    refine drawn_take 1 rfl (by kernel_rfl) (by kernel_rfl) (by kernel_rfl) (fun _ _ _ h => h) (by rfl) (by assumption) (v := ?_) ?_ ?_
    rotate_left
    · (intro wy hSw; (try dsimp only at hSw); go_simp; try with_reducible rfl)
    simp only [Act.put, List.setIfInBounds_toArray, List.set_cons_zero, List.set_cons_succ]
    refine drawn_take 2 rfl (by kernel_rfl) (by kernel_rfl) (by kernel_rfl) (fun _ _ _ h => h) (by rfl) (by assumption) (v := ?_) ?_ ?_
    rotate_left
    · (intro wy hSw; (try dsimp only at hSw); go_simp; try with_reducible rfl)
    simp only [Act.put, List.setIfInBounds_toArray, List.set_cons_zero, List.set_cons_succ]
    refine drawn_take 3 rfl (by kernel_rfl) (by kernel_rfl) (by kernel_rfl) (fun _ _ _ h => h) (by rfl) (by assumption) (v := ?_) ?_ ?_
    rotate_left
    · (intro wy hSw; (try dsimp only at hSw); go_simp; try with_reducible rfl)
    simp only [Act.put, List.setIfInBounds_toArray, List.set_cons_zero, List.set_cons_succ]
    refine drawn_skip 4 rfl (by kernel_rfl) (by kernel_rfl) (by kernel_rfl) (fun _ _ _ h => h) (by rfl) (by assumption) ?_
    simp only [Act.put, List.setIfInBounds_toArray, List.set_cons_zero, List.set_cons_succ]
    refine drawn_skip 5 rfl (by kernel_rfl) (by kernel_rfl) (by kernel_rfl) (fun _ _ _ h => h) (by rfl) (by assumption) ?_
    simp only [Act.put, List.setIfInBounds_toArray, List.set_cons_zero, List.set_cons_succ]
    refine drawn_skip 6 rfl (by kernel_rfl) (by kernel_rfl) (by kernel_rfl) (fun _ _ _ h => h) (by rfl) (by assumption) ?_
    simp only [Act.put, List.setIfInBounds_toArray, List.set_cons_zero, List.set_cons_succ]
    refine drawn_skip 7 rfl (by kernel_rfl) (by kernel_rfl) (by kernel_rfl) (fun _ _ _ h => h) (by rfl) (by assumption) ?_
    simp only [Act.put, List.setIfInBounds_toArray, List.set_cons_zero, List.set_cons_succ]
    refine drawn_skip 8 rfl (by kernel_rfl) (by kernel_rfl) (by kernel_rfl) (fun _ _ _ h => h) (by rfl) (by assumption) ?_
    simp only [Act.put, List.setIfInBounds_toArray, List.set_cons_zero, List.set_cons_succ]
    refine drawn_skip 9 rfl (by kernel_rfl) (by kernel_rfl) (by kernel_rfl) (fun _ _ _ h => h) (by rfl) (by assumption) ?_
    simp only [Act.put, List.setIfInBounds_toArray, List.set_cons_zero, List.set_cons_succ]
    refine drawn_take 10 rfl (by kernel_rfl) (by kernel_rfl) (by kernel_rfl) (fun _ _ _ h => h) (by rfl) (by assumption) (v := ?_) ?_ ?_
    rotate_left
    · (intro wy hSw; (try dsimp only at hSw); go_simp; try with_reducible rfl)
    simp only [Act.put, List.setIfInBounds_toArray, List.set_cons_zero, List.set_cons_succ]
    refine wpAnyH_done (by kernel_rfl) ?_ _
    go_wp2_with fail
    go_ret2
    exact rsPost_no HS.out (Below.drew (Below.refl _ _))
  obtain ⟨ad, rfl⟩ := hA.someAddr (by omega)
  have h8i : decide ((n : Int) < 8) = false := by simp; omega
  have h8c : (8 : Int) ≤ (c : Int) := by omega
  have h8n : ¬ c = 0 := by omega
  have HA := Lib.hid (fun W (hb : Below w.heap.size w W) => hA.on hb)
  have HN := Lib.hid hn
  have HC8 := Lib.hid (fun W (hb : Below w.heap.size w W) => run_str ((hA.on hb).take 8) (show 8 = (l.take 8).length by rw [List.length_take]; omega) c)
  obtain ⟨bad, hbad⟩ : ∃ bad, bad = !(decide (l.take 8 = begin8)) := ⟨_, rfl⟩
  have HBAD := Lib.hid hbad
  have HEQ : Hid ((!(l.take 8 == begin8)) = bad) := Lib.hid (by rw [hbad]; congr 1; rw [Bool.eq_iff_iff]; simp)
  clear hA hn hbad
  obtain ⟨H, hH⟩ : ∃ H, l.take 8 = H := ⟨_, rfl⟩
  rw [hH] at HC8 HEQ
  go_enter Tryd.func10, Tryd.ntmps10
  go_upto_region 1 with (fail)
  go_cut [24] from 14 (fun s wx => s = .bool bad ∧ Hid (Below w.heap.size w wx))
  case first =>
    have HBD : Hid (Below w.heap.size w w.drew) := Lib.hid (Below.drew (Below.refl _ _))
    clear HA HBAD hH
    refine wp_region_held_drew (S := (fun w' => (convert 22 9 (.slice (some ad) 8 c)).run Tryd.prog w' = .ok (.string ⟨H.toArray⟩) w' ∧ Hid (Below w.heap.size w w'))) (by kernel_rfl) (⟨HC8.out _ HBD.out, HBD⟩) (fun hHeld => ?_)
    refine drawn_take 0 rfl (by kernel_rfl) (by kernel_rfl) (by kernel_rfl) (fun _ _ _ h => h) (by rfl) (by assumption) (v := ?_) ?_ ?_
    rotate_left
    · (intro wy hSw; (try dsimp only at hSw); go_simp; try with_reducible rfl)
    simp only [Act.put, List.setIfInBounds_toArray, List.set_cons_zero, List.set_cons_succ]
    refine drawn_take 1 rfl (by kernel_rfl) (by kernel_rfl) (by kernel_rfl) (fun _ _ _ h => h) (by rfl) (by assumption) (v := ?_) ?_ ?_
    rotate_left
    · (intro wy hSw; (try dsimp only at hSw); go_simp; try with_reducible rfl)
    simp only [Act.put, List.setIfInBounds_toArray, List.set_cons_zero, List.set_cons_succ]
    refine drawn_take 2 rfl (by kernel_rfl) (by kernel_rfl) (by kernel_rfl) (fun _ _ _ h => h) (by rfl) (by assumption) (v := ?_) ?_ ?_
    rotate_left
    · (intro wy hSw; (try dsimp only at hSw); go_simp; try with_reducible rfl)
    simp only [Act.put, List.setIfInBounds_toArray, List.set_cons_zero, List.set_cons_succ]
    refine drawn_take 3 rfl (by kernel_rfl) (by kernel_rfl) (by kernel_rfl) (fun _ _ _ h => h) (by rfl) (by assumption) (v := ?_) ?_ ?_
    rotate_left
    · (intro wy hSw; (try dsimp only at hSw); go_simp; try with_reducible rfl)
    simp only [Act.put, List.setIfInBounds_toArray, List.set_cons_zero, List.set_cons_succ]
    refine drawn_take 4 rfl (by kernel_rfl) (by kernel_rfl) (by kernel_rfl) (fun _ _ _ h => h) (by rfl) (by assumption) (v := ?_) ?_ ?_
    rotate_left
    · (intro wy hSw; (try dsimp only at hSw); go_simp; try with_reducible rfl)
    simp only [Act.put, List.setIfInBounds_toArray, List.set_cons_zero, List.set_cons_succ]
    refine drawn_take 5 rfl (by kernel_rfl) (by kernel_rfl) (by kernel_rfl) (fun _ _ _ h => h) (by rfl) (by assumption) (v := ?_) ?_ ?_
    rotate_left
    · (intro wy hSw; (try dsimp only at hSw); go_simp; try with_reducible rfl)
    simp only [Act.put, List.setIfInBounds_toArray, List.set_cons_zero, List.set_cons_succ]
    refine drawn_take 6 rfl (by kernel_rfl) (by kernel_rfl) (by kernel_rfl) (fun _ _ _ h => h) (by rfl) (by assumption) (v := ?_) ?_ ?_
    rotate_left
    · (intro wy hSw; (try dsimp only at hSw); go_simp; try with_reducible rfl)
    simp only [Act.put, List.setIfInBounds_toArray, List.set_cons_zero, List.set_cons_succ]
    refine drawn_sole 7 rfl (by kernel_rfl) (fun K hK => ?_)
    go_simp
    refine (begin_any _).mono ?_
    rintro e w5 ⟨v5, rfl, ho5, hb5⟩
    obtain ⟨A5, c5, rfl, hx51, hx52, hh5⟩ := Has.own ho5
    have HB5 := Lib.hid (HBD.out.trans (hb5.mono HBD.out.size))
    have kb5 := run_str hh5 rfl c5
    clear ho5 hh5 hb5 hx51 hx52
    go_wp2_with fail
    refine hK.out _ _ (⟨HC8.out _ HB5.out, HB5⟩) (fun hHeld2 => ?_)
    clear hK K
    clear hHeld
    have hHeld := hHeld2
    clear hHeld2
    refine drawn_sole 8 rfl (by kernel_rfl) (fun K hK => ?_)
    go_simp
    skip
    refine hK.out _ _ (⟨HC8.out _ HB5.out, HB5⟩) (fun hHeld2 => ?_)
    clear hK K
    clear hHeld
    have hHeld := hHeld2
    clear hHeld2
    refine drawn_take 9 rfl (by kernel_rfl) (by kernel_rfl) (by kernel_rfl) (fun _ _ _ h => h) (by rfl) (by assumption) (v := ?_) ?_ ?_
    rotate_left
    · (intro wy hSw; (try dsimp only at hSw); go_simp; try with_reducible rfl)
    simp only [Act.put, List.setIfInBounds_toArray, List.set_cons_zero, List.set_cons_succ]
    refine drawn_take 10 rfl (by kernel_rfl) (by kernel_rfl) (by kernel_rfl) (fun _ _ _ h => h) (by rfl) (by assumption) (v := ?_) ?_ ?_
    rotate_left
    · (intro wy hSw; (try dsimp only at hSw); go_simp; try with_reducible rfl)
    simp only [Act.put, List.setIfInBounds_toArray, List.set_cons_zero, List.set_cons_succ]
    refine wpAnyH_done (by kernel_rfl) ?_ _
    go_wp2_with fail
    go_meet
    case rel => exact ⟨congrArg Value.bool HEQ.out, HB5⟩
  case rest =>
    obtain ⟨rfl, HBc⟩ := hcut
    cases bad with
    | true =>
      have hno : split l = none := split_bad (by
        have := HBAD.out
        intro e
        rw [decide_eq_true e] at this
        cases this)
      have HNO := Lib.hid hno
      clear hno
      go_wp2_with fail
      go_ret2
      exact rsPost_no HNO.out HBc.out
    | false =>
      have hst := st_zero (l := l) (by
        have := HBAD.out
        by_cases e : l.take 8 = begin8
        · exact e
        · rw [decide_eq_false e] at this; cases this)
      have HST := Lib.hid hst
      clear hst HBAD HEQ HC8 hH H
      go_wp2_with fail
      go_loopw [4, 5, 6] (fun u at_ la wr => ∃ (p k : Nat) (xs : List S), p ≤ n ∧ at_ = .int .i64 (p : Int) ∧ la = .int .u8 (k : Int) ∧ xs.length ≤ p ∧ k < 256 ∧ Hid (OwnS wr 51 w.heap.size u xs.length xs) ∧ Hid (Below w.heap.size w wr) ∧ Hid (st l xs k p)) (fun _ at_ _ _ => n - (intOf at_).toNat)
      case atStart => exact ⟨8, 0, [], by omega, rfl, rfl, by simp, by omega, Lib.hid (OwnS.nil _ _ _), HBc, HST⟩
      case round =>
        obtain ⟨p, k, xs, hp, rfl, rfl, hxl, hk, HO, HB, HST⟩ := hrel
        by_cases hpn : p < n
        · obtain ⟨x, hx⟩ : ∃ x, l[p]? = some x := ⟨_, List.getElem?_eq_getElem (by have := HN.out; omega)⟩
          have hcell : wr.cell? (ad.add p) = some (.int .u8 (x.toNat : Int)) := by
            obtain ⟨ad2, e1, _, e3⟩ := HA.out wr HB.out p x hx
            injection e1 with e1
            subst e1
            exact e3
          have hx256 := x.toNat_lt
          have hpi : (p : Int) < (n : Int) := by omega
          have hp1 : (p : Int) + 1 ≤ (n : Int) := by omega
          have hws := HB.out.size
          obtain ⟨r, hr⟩ : ∃ r, l.drop (p + 1) = r := ⟨_, rfl⟩
          have hrl : r.length = n - (p + 1) := by rw [← hr, List.length_drop, HN.out]
          have HNONE := Lib.hid (fun hb => st_none HST.out hx (hr.symm ▸ hb))
          have HNL := HN.out
          by_cases hend : c = p + 1
          · have hr0 : r = [] := List.eq_nil_of_length_eq_zero (by omega)
            subst hr0
            have HC := Lib.hid (fun W => c9u (some ad) [] 0 0 32 W rfl (by omega) (Nat.le_refl _) (Has.nil W W.heap.size (some ad)))
            have e1 : Leb.numU [] 32 = 0 := by decide
            have e2 : Leb.cntU [] 32 = 0 := by decide
            rw [e1, e2] at HC
            have HNO := Lib.hid (HNONE.out (.inl (by decide)))
            obtain rfl : n = p + 1 := by omega
            subst hend
            clear e1 e2 hrl hr
            go_wp2_with (go_at_call 26; refine (HC.out _).mono ?_; rintro e w5 ⟨rfl, rfl⟩)
            go_ret2
            exact rsPost_no HNO.out HB.out
          · have hck : ¬ (c = p + 1) := hend
            have hck2 : ¬ (c - (p + 1) = 0) := by omega
            have HC := Lib.hid (fun W (hb : Below w.heap.size w W) => c9u (some (ad.add (p + 1))) r (n - (p + 1)) (c - (p + 1)) 32 W hrl.symm (by omega) (by omega) (by rw [← hr]; exact (HA.out W hb).from (p + 1)))
            cases hok : Leb.okU r 32 with
            | false =>
              have e1 : Leb.numU r 32 = 0 := by unfold Leb.numU; rw [hok]; rfl
              have e2 : Leb.cntU r 32 = 0 := by unfold Leb.cntU; rw [hok]; rfl
              rw [e1, e2] at HC
              have HNO := Lib.hid (HNONE.out (.inl hok))
              clear e1 e2 hok hr hrl HNL
              go_wp2_with (go_at_call 26; refine (HC.out _ HB.out).mono ?_; rintro e w5 ⟨rfl, rfl⟩)
              go_ret2
              exact rsPost_no HNO.out HB.out
            | true =>
              have e1 : Leb.numU r 32 = (Leb.used r : Int) := by unfold Leb.numU; rw [hok]; rfl
              have e2 : Leb.cntU r 32 = (Leb.run r : Int) := by unfold Leb.cntU; rw [hok]; rfl
              rw [e1, e2] at HC
              obtain ⟨hu32, hr1, hr2, _⟩ := okU_32 hok
              obtain ⟨R, hR⟩ : ∃ R, Leb.run r = R := ⟨_, rfl⟩
              obtain ⟨U, hU⟩ : ∃ U, Leb.used r = U := ⟨_, rfl⟩
              rw [hR, hU] at HC
              rw [hR] at hr1 hr2
              rw [hU] at hu32
              have hR0 : ((R : Int) == 0) = false := by simp; omega
              have hpr : (p : Int) + 1 + (R : Int) ≤ (n : Int) := by omega
              have hsub : IntKind.u64.wrap ((n : Int) - ((p : Int) + 1 + (R : Int))) = (n : Int) - ((p : Int) + 1 + (R : Int)) := IntWalk.u64_in _ (by omega)
              by_cases hlong : n < p + 1 + R + U
              · have HNO := Lib.hid (HNONE.out (.inr (by rw [hR, hU]; omega)))
                have hl : (n : Int) - ((p : Int) + 1 + (R : Int)) < (U : Int) := by omega
                clear e1 e2 hok hr hrl HNL hR hU
                go_wp2_with (go_at_call 26; refine (HC.out _ HB.out).mono ?_; rintro e w5 ⟨rfl, rfl⟩)
                go_ret2
                exact rsPost_no HNO.out HB.out
              · have hl : decide ((n : Int) - ((p : Int) + 1 + (R : Int)) < (U : Int)) = false := decide_eq_false (by omega)
                have HSTEP := Lib.hid (st_step (R := R) (U := U) HST.out hx (by rw [hr]; exact hok) (by rw [hr]; exact hR) (by rw [hr]; exact hU) (by omega))
                have hUw : IntKind.i64.wrap (U : Int) = (U : Int) := IntWalk.i64_in _ (by omega)
                have hq2 : (p : Int) + 1 + (R : Int) + (U : Int) ≤ (n : Int) := by omega
                clear e1 e2 hok HNONE hr hrl HNL hR hU hr2
                go_upto_region 12 with (go_at_call 26; refine (HC.out _ HB.out).mono ?_; rintro e w5 ⟨rfl, rfl⟩)
                obtain ⟨own, hown⟩ : ∃ own, own = (l.drop (p + 1 + R)).take U := ⟨_, rfl⟩
                have hownl : own.length = U := by have := HN.out; rw [hown, List.length_take, List.length_drop]; omega
                rw [← hown] at HSTEP
                have HOL := Lib.hid hownl
                have HOWN := Lib.hid (fun W (hb : Below w.heap.size w W) => (show Has W W.heap.size (some (ad.add (p + 1 + R))) own by rw [hown]; exact ((HA.out W hb).from (p + 1 + R)).take U))
                clear hown hownl
                go_cut [10] from 56 to 62 (fun s wx => ∃ AX cX, s = .slice AX U cX ∧ U ≤ cX ∧ cX ≤ c ∧ Hid (∀ W, Below w.heap.size w W → Has W W.heap.size AX own) ∧ wx = wr)
                case first =>
                  by_cases hq : c = p + 1 + R
                  · have hU0 : U = 0 := by omega
                    have hn0 : own = [] := List.eq_nil_of_length_eq_zero (by have := HOL.out; omega)
                    have HNIL := Lib.hid hn0
                    have hcq : (c : Int) = (p : Int) + 1 + (R : Int) := by omega
                    have HU0 := Lib.hid hU0
                    clear hn0 hU0
                    go_wp2_with fail
                    go_meet
                    case rel =>
                      have h0 := HU0.out
                      exact ⟨some ad, 0, by congr 1 <;> omega, by omega, by omega, Lib.hid (fun W _ => by rw [HNIL.out]; exact Has.nil _ _ _), rfl⟩
                  · have hck3 : ¬ (c - (p + 1 + R) = 0) := by omega
                    go_wp2_with fail
                    go_meet
                    case rel => exact ⟨some (ad.add (p + 1 + R)), c - (p + 1 + R), by congr 1; omega, by omega, by omega, HOWN, rfl⟩
                case rest =>
                  obtain ⟨AX, cX, rfl, hUX, hcX, HOX, hwc⟩ := hcut
                  rw [hwc]
                  clear hwc
                  clear HOWN HA
                  by_cases h0 : x.toNat = 0
                  · have h0i : ((x.toNat : Int) == 0) = true := by simp; omega
                    have HT := Lib.hid (fun W hb => rtake_any AX own U cX W HOL.out.symm (by omega) hUX (by omega) (HOX.out W hb))
                    unfold RTakePost at HT
                    have hs1 := HSTEP.out.1 h0
                    rw [← named_ok] at hs1
                    have HS1 := Lib.hid hs1
                    generalize Nm.ok own = ok at HT HS1
                    generalize ByteArray.mk (Nm.str own).toArray = sn at HT
                    generalize Nm.cnt own = cn at HT
                    clear hs1 HSTEP
                    cases ok with
                    | false =>
                      have HNO : Hid (split l = none) := Lib.hid (by simpa using HS1.out)
                      go_wp2_with (go_at_call 27; refine (HT.out _ HB.out).mono ?_; rintro e w6 ⟨rfl, rfl⟩)
                      go_ret2
                      exact rsPost_no HNO.out HB.out
                    | true =>
                      have HST2 : Hid (st l xs k (p + 1 + R + U)) := Lib.hid (by simpa using HS1.out)
                      go_wp2_with (go_at_call 27; refine (HT.out _ HB.out).mono ?_; rintro e w6 ⟨rfl, rfl⟩)
                      go_roundw
                      case rel => exact ⟨p + 1 + R + U, k, xs, by omega, by go_num, rfl, by omega, hk, HO, HB, HST2⟩
                      case measure => simp [intOf]; omega
                  · have h0i : ((x.toNat : Int) == 0) = false := by simp; omega
                    have HS2 := Lib.hid (HSTEP.out.2 h0)
                    clear HSTEP h0
                    generalize x.toNat = id at *
                    by_cases hle : id ≤ k
                    · have hlei : decide ((id : Int) ≤ (k : Int)) = true := decide_eq_true (by omega)
                      have HNO : Hid (split l = none) := Lib.hid (by have h := HS2.out; rw [if_neg (by omega)] at h; exact h)
                      go_wp2_with fail
                      go_ret2
                      exact rsPost_no HNO.out HB.out
                    · have hlei : decide ((id : Int) ≤ (k : Int)) = false := decide_eq_false (by omega)
                      by_cases h11 : 11 < id
                      · have h11i : decide ((11 : Int) < (id : Int)) = true := decide_eq_true (by omega)
                        have HNO : Hid (split l = none) := Lib.hid (by have h := HS2.out; rw [if_neg (by omega)] at h; exact h)
                        go_wp2_with fail
                        go_ret2
                        exact rsPost_no HNO.out HB.out
                      · have h11i : decide ((11 : Int) < (id : Int)) = false := decide_eq_false (by omega)
                        have HST2 : Hid (st l (xs ++ [⟨id, own⟩]) id (p + 1 + R + U)) := Lib.hid (by have h := HS2.out; rw [if_pos (by omega)] at h; exact h)
                        have hb1 : Below wr.heap.size wr (wr.alloc (.cells #[] 5)) := (Below.refl _ _).alloc (Nat.le_refl _) _
                        have ho1 : (wr.alloc (.cells #[] 5)).ownsRow wr.heap.size 5 1 (.slice (some ⟨wr.heap.size, 0, none⟩) 0 0) ([] : List UInt8).length (bytesOf []) := World.ownsRow_lit (base := wr.heap.size) (e := 5) (size := 1) wr #[] 0 (Nat.le_refl _) (by unfold maxLen; omega) rfl
                        obtain ⟨v6, w6, hr6, ha6⟩ := appends_adds (wr.alloc (.cells #[] 5)) wr.heap.size U cX _ [] own AX ho1 ((HOX.out wr HB.out).on hb1) HOL.out.symm (by have := HOL.out; simp; omega) hb1.size
                        rw [List.nil_append] at ha6
                        obtain ⟨A6, c6, rfl, _, h61, h62, h63, h64⟩ := own_sl ha6.1
                        have hb6 : Below wr.heap.size wr w6 := hb1.trans (ha6.below (own_ge ho1) hb1.size)
                        have ho6 := HO.out.on hb6
                        have hge := own_ge ha6.1
                        have hu4 := own_blk HO.out
                        have hs6 := hb6.size
                        obtain ⟨v7, w7, hr7, ho7, hm7, _⟩ := append1s (P := Tryd.prog) 51 28 undR infoR w6 w.heap.size xs.length u4 xs ⟨id, own⟩ A6 c6 ho6 (by omega) (by omega) ⟨hx256, h61, h62, h63, h64⟩ (fun ad had _ e => by
                          have h1 := hge ad.block (by rw [had]; rfl)
                          have h2 := (hu4 _ e).2
                          omega)
                        have HR6 := Lib.hid hr6
                        have HR7 := Lib.hid hr7
                        have HO7 : Hid (OwnS w7 51 w.heap.size v7 (xs ++ [(⟨id, own⟩ : S)]).length (xs ++ [⟨id, own⟩])) := Lib.hid (by simpa using ho7)
                        have HB7 := Lib.hid (HB.out.trans ((hb6.mono hws).trans (hm7.below (by omega) (fun g hg e => by have := (hu4 g e).1; omega))))
                        have hlen7 : (xs ++ [(⟨id, own⟩ : S)]).length = xs.length + 1 := by simp
                        simp only [secCells] at HR7
                        generalize own.length = q at HR7 HR6
                        generalize xs ++ [(⟨id, own⟩ : S)] = zs at HO7 HST2 hlen7
                        clear hr6 hr7 ho7 hm7 ho6 hb6 hb1 ho1 ha6 hge hu4 h61 h62 h63 h64
                        go_wp2_with (first | (at_builtin; refine wpList_appends rfl (.tmp 87) (.tmp 88) 22 rfl _ _ _ w6 rfl rfl HR6.out ?_) | (at_builtin; refine wpList_appends rfl (.tmp 85) (.tmp 91) 28 rfl _ _ _ w7 rfl rfl HR7.out ?_))
                        go_roundw
                        case rel => exact ⟨p + 1 + R + U, id, zs, by omega, by go_num, rfl, by omega, hx256, HO7, HB7, HST2⟩
                        case measure => simp [intOf]; omega
        · obtain rfl : p = n := by omega
          have hs := st_end HST.out (by have := HN.out; omega)
          have HFIN : Hid (RSPost l w (.returned (.tuple #[u4, .bool true])) wr) := Lib.hid ⟨HB.out, by rw [hs]; exact ⟨u4, rfl, HO.out⟩⟩
          clear hs
          go_wp2_with fail
          go_ret2
          exact HFIN.out
end Go.Proofs.YtanhgpdeoffmfaaDoor
