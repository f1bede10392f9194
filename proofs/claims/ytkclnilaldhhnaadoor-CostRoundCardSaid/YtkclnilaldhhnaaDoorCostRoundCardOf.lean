/-
  PROVED (a tied card): for every uint8 and every uint32 and every uint32 and every slice of instructions and every slice of instructions the statement CostRound answers true, and each argument reads afterwards as it read before. Conditions: the given row's own (the cost package's two tables lie as the program's text lays them; the card ties them), over a pruned copy of the project.
-/
import Derived.Test.YtkclnilaldhhnaaDoorCostRoundWalk
import Derived.Test.YtkclnilaldhhnaaDoorCoTab
import Derived.Test.YtkclnilaldhhnaaDoorInsOpen
import Derived.Test.YtkclnilaldhhnaaDoorCards
import Derived.Test.YtkclnilaldhhnaaDoorTie
import Derived.ProofKit
import Derived.SevenTiedAt
import Derived.SizedLaws
namespace Go.Proofs.YtkclnilaldhhnaaDoor
open Go.RowKit Ins
open Go.ChangeShapes Go.WideShapes Go.ChangeAt
set_option maxRecDepth 100000 in
theorem liftedCostRound (os : Os) (started : os.Started) (H : Type) (enc : TypeId × Value → H) :
    ReturnsInHanded {} Tryd.checked os 4 .any (fun w args => (Rows.costRoundSpec.pre enc Tryd.prog Tryd.f4 [] false w args ∧ laidMetH Tryd.prog tabsC w) ∧ sizedMet enc Tryd.prog Tryd.f4 (OpenSpec.ofChange Rows.costRoundSpec) false w args) (Rows.costRoundSpec.post enc Tryd.prog Tryd.f4 false true false false) := by
  refine returnsInHanded_of_change_and (C := Tryd.checked) (X := fun w _ => laidMetH Tryd.prog tabsC w) (fun _ _ _ hh h => h.of_heap hh) own started (by kernel_rfl) Tryd.func4
    (ChangeSpec.witness_at (enc := enc) (C := Tryd.checked) (os := os) (X := fun w _ => laidMetH Tryd.prog tabsC w) false (tabWorldC os) #[.int .u8 0, .int .u32 0, .int .u32 0, .slice none 0 0, .slice none 0 0] 8 rfl (by kernel_rfl) (by kernel_rfl) (by kernel_rfl) (by kernel_rfl) (by kernel_rfl) (tabWorldC_met os _)) ?_
  intro W base args ds gs before hval0 hW _ hsz hL _
  have hval : ∀ (j : Nat) t v, Tryd.f4.params[j]? = some t → args[j]? = some v → Value.okWide Tryd.prog W .any base t v := hval0
  have hW' := hW
  obtain ⟨p, q, hA0, hV, rfl, hfz, hnd⟩ := hW
  have hA : DataW.TrodAll enc Tryd.prog W 0 (fun _ => true) true Tryd.f4.params.toList args.toList ds p := hA0
  rw [Tryd.params4] at hA hval
  obtain ⟨v0, vs0, d0, ds0, p0, q0, hargs, rfl, rfl, h0, r0⟩ := trodAll_cons hA
  obtain ⟨v1, vs1, d1, ds1, p1, q1, rfl, rfl, rfl, h1, r1⟩ := trodAll_cons r0
  obtain ⟨v2, vs2, d2, ds2, p2, q2, rfl, rfl, rfl, h2, r2⟩ := trodAll_cons r1
  obtain ⟨v3, vs3, d3, ds3, p3, q3, rfl, rfl, rfl, h3, r3⟩ := trodAll_cons r2
  obtain ⟨v4, vs4, d4, ds4, p4, q4, rfl, rfl, rfl, h4, r4⟩ := trodAll_cons r3
  obtain ⟨rfl, rfl, rfl⟩ := trodAll_nil r4
  obtain rfl : args = #[v0, v1, v2, v3, v4] := by cases args; simp_all
  obtain ⟨b0, rfl, rfl, rfl, wb0⟩ := open_int und5 (hval 0 5 v0 rfl rfl) h0
  obtain ⟨ub0, ub0'⟩ := bounds_u8 wb0
  obtain ⟨x0, rfl⟩ := Int.eq_ofNat_of_zero_le ub0
  obtain ⟨b1, rfl, rfl, rfl, wb1⟩ := open_int o_und23u (hval 1 22 v1 rfl rfl) h1
  obtain ⟨ub1, ub1'⟩ := bounds_u32 wb1
  obtain ⟨b2, rfl, rfl, rfl, wb2⟩ := open_int o_und23u (hval 2 22 v2 rfl rfl) h2
  obtain ⟨ub2, ub2'⟩ := bounds_u32 wb2
  obtain ⟨A3, n3, c3, x3, rfl, hn3, hm3, hl3, hx3, tb3⟩ := open_instrs (hval 3 26 v3 rfl rfl) h3 (fun k hk => by
    have h := List.all_eq_true.1 hsz k (DataW.weights_mem_each (j := 3) (t := 26) rfl rfl k hk)
    simpa using h)
  obtain ⟨A4, n4, c4, x4, rfl, hn4, hm4, hl4, hx4, tb4⟩ := open_instrs (hval 4 26 v4 rfl rfl) h4 (fun k hk => by
    have h := List.all_eq_true.1 hsz k (DataW.weights_mem_each (j := 4) (t := 26) rfl rfl k hk)
    simpa using h)
  refine (costRound_any x0 b1 b2 x3 x4 A3 A4 n3 c3 n4 c4 W (by omega) ⟨ub1, by omega⟩ hn3 hn4 hm3 hm4 (HasI.lay hx3) (HasI.lay hx4) (tbC_of_laid hL)).mono fun e W' ⟨he, hb⟩ => ?_
  subst he
  exact ⟨_, rfl, law_post (P := Tryd.prog) (f := Tryd.f4) (s := Rows.costRoundSpec) laid (by kernel_rfl) rfl rfl und4 hW' rfl hb⟩
theorem overCostRound : Rows.costRoundRow.holds Tryd.pinned (OpenSpec.ofChange Rows.costRoundSpec) :=
  OpenClaim.holds_of_wide 4 Tryd.f4 rfl rfl rfl rfl rfl rfl rfl ⟨rfl, rfl, rfl, rfl, rfl⟩ rfl rfl rfl rfl rfl (by kernel_rfl) Tryd.func4 (by kernel_rfl)
    (of_decide_eq_true (by kernel_rfl)) (by unfold Func.isWrapper; first | (rw [if_pos (by decide +kernel)]; kernel_rfl) | (rw [if_neg (by decide +kernel)]; exact ⟨rfl, rfl⟩))
    (fun os started H enc _ => liftedCostRound os started H enc)
theorem costRound_holds : Rows.CostRoundCardSaid :=
  Claim7.holds_tied_plain_at .later [] _ true _ _
    overCostRound (fun _ h => by cases h) (by kernel_rfl) (fun _ h => by cases h) costRound_row_tie rfl ⟨rfl, rfl⟩ (by kernel_rfl) rfl
    (fun f fn hf hfn => by
      obtain rfl : f = 4 := Option.some.inj (hf.symm.trans (show Tryd.prog.funcNamed "gabelle/gabellelaw13.CostRound" = some 4 by kernel_rfl))
      obtain rfl : fn = Tryd.f4 := Option.some.inj (hfn.symm.trans Tryd.func4)
      refine ⟨by kernel_rfl, fun j t ht => ?_⟩
      rw [Tryd.params4] at ht
      have hm : t ∈ [5, 22, 26] := by
        have := Array.mem_of_getElem? ht
        simp at this
        simp
        omega
      have hall : ([5, 22, 26].all fun u => !Tryd.prog.wantsStandIn u) = true := by kernel_rfl
      have := List.all_eq_true.1 hall t hm
      have h2 : Tryd.prog.wantsStandIn t = false := by simpa using this
      exact h2)
    (by kernel_rfl)
#print axioms costRound_holds
end Go.Proofs.YtkclnilaldhhnaaDoor
