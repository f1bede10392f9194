/-
  PROVED (a tied card): for every slice of bytes and every int the statement BinSections answers true, and each argument reads afterwards as it read before. Conditions: the given row's own (unicode/utf8's two tables lie as the program's text lays them; the card ties them), over a pruned copy of the project.
-/
import Derived.Test.YtaloenmpidbhlaaDoorBinSecsWalk
import Derived.Test.YtaloenmpidbhlaaDoorSecOpen
import Derived.Test.YtaloenmpidbhlaaDoorTied
import Derived.Test.YtaloenmpidbhlaaDoorCards
import Derived.Test.YtaloenmpidbhlaaDoorTie
import Derived.ProofKit
import Derived.SevenTiedAt
import Derived.SizedLaws
namespace Go.Proofs.YtaloenmpidbhlaaDoor
open Go.RowKit
open Go.ChangeShapes Go.WideShapes Go.ChangeAt
set_option maxRecDepth 100000 in
theorem liftedBinSections (hd : DecOk) (hs : SplitOk) (hj : JoinOk) (os : Os) (started : os.Started) (H : Type) (enc : TypeId × Value → H) :
    ReturnsInHanded {} Tryd.checked os 4 .any (fun w args => (Rows.binSectionsSpec.pre enc Tryd.prog Tryd.f4 [] false w args ∧ laidMetH Tryd.prog tabs w) ∧ sizedMet enc Tryd.prog Tryd.f4 (OpenSpec.ofChange Rows.binSectionsSpec) false w args) (Rows.binSectionsSpec.post enc Tryd.prog Tryd.f4 false true false false) := by
  refine returnsInHanded_of_change_and (C := Tryd.checked) (X := fun w _ => laidMetH Tryd.prog tabs w) (fun _ _ _ hh h => h.of_heap hh) own started (by kernel_rfl) Tryd.func4
    (ChangeSpec.witness_at (enc := enc) (C := Tryd.checked) (os := os) (X := fun w _ => laidMetH Tryd.prog tabs w) false (tabWorld os) #[.slice none 0 0, .int .i64 0] 8 rfl (by kernel_rfl) (by kernel_rfl) (by kernel_rfl) (by kernel_rfl) (by kernel_rfl) (tabWorld_met os _)) ?_
  intro W base args ds gs before hval0 hW _ hsz hL _
  have hval : ∀ (j : Nat) t v, Tryd.f4.params[j]? = some t → args[j]? = some v → Value.okWide Tryd.prog W .any base t v := hval0
  have hW' := hW
  obtain ⟨p, q, hA0, hV, rfl, hfz, hnd⟩ := hW
  have hA : DataW.TrodAll enc Tryd.prog W 0 (fun _ => true) true Tryd.f4.params.toList args.toList ds p := hA0
  rw [Tryd.params4] at hA hval
  obtain ⟨v0, vs0, d0, ds0, p0, q0, hargs, rfl, rfl, h0, r0⟩ := trodAll_cons hA
  obtain ⟨v1, vs1, d1, ds1, p1, q1, rfl, rfl, rfl, h1, r1⟩ := trodAll_cons r0
  obtain ⟨rfl, rfl, rfl⟩ := trodAll_nil r1
  obtain rfl : args = #[v0, v1] := by cases args; simp_all
  obtain ⟨A0, n0, c0, l0, rfl, hn0, hnc0, hm0, hnn0, ha0, hhas0⟩ := open_bytesS (hval 0 22 v0 rfl rfl) h0 (fun k hk => by
    have h := List.all_eq_true.1 hsz k (DataW.weights_mem_each (j := 0) (t := 22) rfl rfl k hk)
    simpa using h)
  obtain ⟨b1, rfl, rfl, rfl, wb1⟩ := open_int und3 (hval 1 3 v1 rfl rfl) h1
  refine (binSections_any hd hs hj A0 l0 n0 c0 b1 W hhas0 hn0 hnn0 hnc0 hm0 ha0 (by have h := wb1; simp [Lit.wf] at h; exact h.1) (by have h := wb1; simp [Lit.wf] at h; exact h.2) (tb_of_laid hL)).mono fun e W' ⟨he, hb⟩ => ?_
  subst he
  exact ⟨_, rfl, law_post (P := Tryd.prog) (f := Tryd.f4) (s := Rows.binSectionsSpec) laid (by kernel_rfl) rfl rfl und4 hW' rfl hb⟩
theorem overBinSections (hd : DecOk) (hs : SplitOk) (hj : JoinOk) : Rows.binSectionsRow.holds Tryd.pinned (OpenSpec.ofChange Rows.binSectionsSpec) :=
  OpenClaim.holds_of_wide 4 Tryd.f4 rfl rfl rfl rfl rfl rfl rfl ⟨rfl, rfl, rfl, rfl, rfl⟩ rfl rfl rfl rfl rfl (by kernel_rfl) Tryd.func4 (by kernel_rfl)
    (of_decide_eq_true (by kernel_rfl)) (by unfold Func.isWrapper; first | (rw [if_pos (by decide +kernel)]; kernel_rfl) | (rw [if_neg (by decide +kernel)]; exact ⟨rfl, rfl⟩))
    (fun os started H enc _ => liftedBinSections hd hs hj os started H enc)
theorem binSections_of (hd : DecOk) (hs : SplitOk) (hj : JoinOk) : Rows.BinSectionsCardSaid :=
  Claim7.holds_tied_plain_at .later [] _ true _ _
    (overBinSections hd hs hj) (fun _ h => by cases h) (by kernel_rfl) (fun _ h => by cases h) binSections_row_tie rfl ⟨rfl, rfl⟩ (by kernel_rfl) rfl
    (fun f fn hf hfn => by
      obtain rfl : f = 4 := Option.some.inj (hf.symm.trans (show Tryd.prog.funcNamed "gabelle/gabellelaw06.BinSections" = some 4 by kernel_rfl))
      obtain rfl : fn = Tryd.f4 := Option.some.inj (hfn.symm.trans Tryd.func4)
      refine ⟨by kernel_rfl, fun j t ht => ?_⟩
      rw [Tryd.params4] at ht
      have hm : t ∈ [22, 3] := by
        have := Array.mem_of_getElem? ht
        simp at this
        simp
        omega
      have hall : ([22, 3].all fun u => !Tryd.prog.wantsStandIn u) = true := by kernel_rfl
      have := List.all_eq_true.1 hall t hm
      have h2 : Tryd.prog.wantsStandIn t = false := by simpa using this
      exact h2)
    (by kernel_rfl)
#print axioms binSections_of
end Go.Proofs.YtaloenmpidbhlaaDoor
