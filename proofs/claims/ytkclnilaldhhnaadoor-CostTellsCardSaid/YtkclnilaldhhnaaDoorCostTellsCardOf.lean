/-
  PROVED (a tied card): for every instruction and every slice of instructions the statement CostTells answers true, and each argument reads afterwards as it read before. Conditions: the given row's own (the cost package's two tables lie as the program's text lays them; the card ties them), over a pruned copy of the project.
-/
import Derived.Test.YtkclnilaldhhnaaDoorCostTellsWalk
import Derived.Test.YtkclnilaldhhnaaDoorCoTab
import Derived.Test.YtkclnilaldhhnaaDoorInsOpen
import Derived.Test.YtkclnilaldhhnaaDoorCards
import Derived.Test.YtkclnilaldhhnaaDoorTie
import Derived.ProofKit
import Derived.SevenTiedAt
import Derived.SizedLaws
namespace Go.Proofs.YtkclnilaldhhnaaDoor
open Go.RowKit Ins
open Go.ChangeShapes Go.WideShapes Go.ChangeAt
set_option maxRecDepth 100000 in
theorem liftedCostTells (os : Os) (started : os.Started) (H : Type) (enc : TypeId × Value → H) :
    ReturnsInHanded {} Tryd.checked os 3 .any (fun w args => (Rows.costTellsSpec.pre enc Tryd.prog Tryd.f3 [] false w args ∧ laidMetH Tryd.prog tabsC w) ∧ sizedMet enc Tryd.prog Tryd.f3 (OpenSpec.ofChange Rows.costTellsSpec) false w args) (Rows.costTellsSpec.post enc Tryd.prog Tryd.f3 false true false false) := by
  refine returnsInHanded_of_change_and (C := Tryd.checked) (X := fun w _ => laidMetH Tryd.prog tabsC w) (fun _ _ _ hh h => h.of_heap hh) own started (by kernel_rfl) Tryd.func3
    (ChangeSpec.witness_at (enc := enc) (C := Tryd.checked) (os := os) (X := fun w _ => laidMetH Tryd.prog tabsC w) false (tabWorldC os) #[.agg #[.int .u8 0, .int .u32 0, .int .u32 0, .int .i64 0, .slice none 0 0], .slice none 0 0] 8 rfl (by kernel_rfl) (by kernel_rfl) (by kernel_rfl) (by kernel_rfl) (by kernel_rfl) (tabWorldC_met os _)) ?_
  intro W base args ds gs before hval0 hW _ hsz hL _
  have hval : ∀ (j : Nat) t v, Tryd.f3.params[j]? = some t → args[j]? = some v → Value.okWide Tryd.prog W .any base t v := hval0
  have hW' := hW
  obtain ⟨p, q, hA0, hV, rfl, hfz, hnd⟩ := hW
  have hA : DataW.TrodAll enc Tryd.prog W 0 (fun _ => true) true Tryd.f3.params.toList args.toList ds p := hA0
  rw [Tryd.params3] at hA hval
  obtain ⟨v0, vs0, d0, ds0, p0, q0, hargs, rfl, rfl, h0, r0⟩ := trodAll_cons hA
  obtain ⟨v1, vs1, d1, ds1, p1, q1, rfl, rfl, rfl, h1, r1⟩ := trodAll_cons r0
  obtain ⟨rfl, rfl, rfl⟩ := trodAll_nil r1
  obtain rfl : args = #[v0, v1] := by cases args; simp_all
  obtain ⟨x0, A0, c0, rfl, wf0, lc0, cm0, ll0, hu0, tb0⟩ := open_one (hval 0 25 v0 rfl rfl) h0 (fun k hk => by
    have h := List.all_eq_true.1 hsz k (DataW.weights_mem_each (j := 0) (t := 25) rfl rfl k hk)
    simpa using h)
  obtain ⟨A1, n1, c1, x1, rfl, hn1, hm1, hl1, hx1, tb1⟩ := open_instrs (hval 1 26 v1 rfl rfl) h1 (fun k hk => by
    have h := List.all_eq_true.1 hsz k (DataW.weights_mem_each (j := 1) (t := 26) rfl rfl k hk)
    simpa using h)
  refine (costTells_any x0.op _ _ _ A0 _ c0 x1 (· < W.heap.size) A1 n1 c1 W wf0.1 hn1 hm1 (HasI.lay hx1) (tbC_of_laid hL)).mono fun e W' ⟨he, hb⟩ => ?_
  subst he
  exact ⟨_, rfl, law_post (P := Tryd.prog) (f := Tryd.f3) (s := Rows.costTellsSpec) laid (by kernel_rfl) rfl rfl und4 hW' rfl hb⟩
theorem overCostTells : Rows.costTellsRow.holds Tryd.pinned (OpenSpec.ofChange Rows.costTellsSpec) :=
  OpenClaim.holds_of_wide 3 Tryd.f3 rfl rfl rfl rfl rfl rfl rfl ⟨rfl, rfl, rfl, rfl, rfl⟩ rfl rfl rfl rfl rfl (by kernel_rfl) Tryd.func3 (by kernel_rfl)
    (of_decide_eq_true (by kernel_rfl)) (by unfold Func.isWrapper; first | (rw [if_pos (by decide +kernel)]; kernel_rfl) | (rw [if_neg (by decide +kernel)]; exact ⟨rfl, rfl⟩))
    (fun os started H enc _ => liftedCostTells os started H enc)
theorem costTells_holds : Rows.CostTellsCardSaid :=
  Claim7.holds_tied_plain_at .later [] _ true _ _
    overCostTells (fun _ h => by cases h) (by kernel_rfl) (fun _ h => by cases h) costTells_row_tie rfl ⟨rfl, rfl⟩ (by kernel_rfl) rfl
    (fun f fn hf hfn => by
      obtain rfl : f = 3 := Option.some.inj (hf.symm.trans (show Tryd.prog.funcNamed "gabelle/gabellelaw13.CostTells" = some 3 by kernel_rfl))
      obtain rfl : fn = Tryd.f3 := Option.some.inj (hfn.symm.trans Tryd.func3)
      refine ⟨by kernel_rfl, fun j t ht => ?_⟩
      rw [Tryd.params3] at ht
      have hm : t ∈ [25, 26] := by
        have := Array.mem_of_getElem? ht
        simp at this
        simp
        omega
      have hall : ([25, 26].all fun u => !Tryd.prog.wantsStandIn u) = true := by kernel_rfl
      have := List.all_eq_true.1 hall t hm
      have h2 : Tryd.prog.wantsStandIn t = false := by simpa using this
      exact h2)
    (by kernel_rfl)
#print axioms costTells_holds
end Go.Proofs.YtkclnilaldhhnaaDoor
