/-
  PROVED (a tied card): for every module and every slice of bytes the statement EncBack answers true, and each argument reads afterwards as it read before. Conditions: the given row's own (unicode/utf8's two tables lie as the program's text lays them; the card ties them), over a pruned copy of the project.
-/
import Derived.Test.YthkglmkpnhhboaaGreatDoorR01
import Derived.Test.YthkglmkpnhhboaaGreatDoorR47
import Derived.Test.YthkglmkpnhhboaaGreatDoorR44
import Derived.Test.YthkglmkpnhhboaaGreatDoorR34
import Derived.Test.YthkglmkpnhhboaaGreatDoorCards
import Derived.Test.YthkglmkpnhhboaaGreatDoorTie
import Derived.ProofKit
import Derived.SevenTiedAt
import Derived.SizedLaws
set_option maxRecDepth 100000
set_option maxHeartbeats 4000000
namespace Go.Proofs.YthkglmkpnhhboaaGreatDoor
open Go.RowKit
open Go.ChangeShapes Go.WideShapes Go.ChangeAt
theorem liftedEncBack (hen : du) (hd : DecOk) (os : Os) (started : os.Started) (H : Type) (enc : TypeId × Value → H) :
  ReturnsInHanded {} Tryz.checked os 4 .any (fun w args => (Rows.encBackSpec.pre enc Tryz.prog Tryz.f4 [] false w args ∧ laidMetH Tryz.prog tabs w) ∧ sizedMet enc Tryz.prog Tryz.f4 (OpenSpec.ofChange Rows.encBackSpec) false w args) (Rows.encBackSpec.post enc Tryz.prog Tryz.f4 false true false false) := by
 refine returnsInHanded_of_change_and (C := Tryz.checked) (X := fun w _ => laidMetH Tryz.prog tabs w) (fun _ _ _ hh h => h.of_heap hh) own started (by kernel_rfl) Tryz.func4
  (ChangeSpec.witness_at (enc := enc) (C := Tryz.checked) (os := os) (X := fun w _ => laidMetH Tryz.prog tabs w) false (tabWorld os) #[.agg #[.slice none 0 0, .slice none 0 0, .slice none 0 0, .slice none 0 0, .slice none 0 0, .slice none 0 0, .slice none 0 0, .bool false, .int .u32 0, .slice none 0 0, .slice none 0 0, .slice none 0 0], .slice none 0 0] 8 rfl (by kernel_rfl) (by kernel_rfl) (by kernel_rfl) (by kernel_rfl) (by kernel_rfl) (jb os _)) ?_
 intro W base args ds gs before hval0 hW _ hsz hL _
 have hval : ∀ (j : Nat) t v, Tryz.f4.params[j]? = some t → args[j]? = some v → Value.okWide Tryz.prog W .any base t v := hval0
 have hW' := hW
 obtain ⟨p, q, hA0, hV, rfl, hfz, hnd⟩ := hW
 have hA : DataW.TrodAll enc Tryz.prog W 0 (fun _ => true) true Tryz.f4.params.toList args.toList ds p := hA0
 rw [Tryz.params4] at hA hval
 obtain ⟨v0, vs0, d0, ds0, p0, q0, hargs, rfl, rfl, h0, r0⟩ := trodAll_cons hA
 obtain ⟨v1, vs1, d1, ds1, p1, q1, rfl, rfl, rfl, h1, r1⟩ := trodAll_cons r0
 obtain ⟨rfl, rfl, rfl⟩ := trodAll_nil r1
 obtain rfl : args = #[v0, v1] := by cases args; simp_all
 obtain ⟨m0, u1, u2, u3, u4, u5, u6, u7, u8, u9, u10, rfl, hM0, hB0⟩ := open_mod (hval 0 33 v0 rfl rfl) h0 (fun k hk => by
  have h := List.all_eq_true.1 hsz k (DataW.weights_mem_each (j := 0) (t := 33) rfl rfl k hk)
  simpa using h)
 obtain ⟨A1, n1, c1, l1, rfl, hn1, hnc1, hm1, hnn1, ha1, hhas1⟩ := open_bytesS (hval 1 36 v1 rfl rfl) h1 (fun k hk => by
  have h := List.all_eq_true.1 hsz k (DataW.weights_mem_each (j := 1) (t := 36) rfl rfl k hk)
  simpa using h)
 refine (encBack_any hen hd m0 u1 u2 u3 u4 u5 u6 u7 u8 u9 u10 A1 l1 n1 c1 W hM0 hB0 hhas1 hn1 hnc1 hm1 ha1 (tb_of_laid hL)).mono fun e W' ⟨he, hb⟩ => ?_
 subst he
 exact ⟨_, rfl, law_post (P := Tryz.prog) (f := Tryz.f4) (s := Rows.encBackSpec) laid (by kernel_rfl) rfl rfl und4 hW' rfl hb⟩
theorem overEncBack (hen : du) (hd : DecOk) : Rows.encBackRow.holds Tryz.pinned (OpenSpec.ofChange Rows.encBackSpec) :=
 OpenClaim.holds_of_wide 4 Tryz.f4 rfl rfl rfl rfl rfl rfl rfl ⟨rfl, rfl, rfl, rfl, rfl⟩ rfl rfl rfl rfl rfl (by kernel_rfl) Tryz.func4 (by kernel_rfl)
  (of_decide_eq_true (by kernel_rfl)) (by unfold Func.isWrapper; first | (rw [if_pos (by decide +kernel)]; kernel_rfl) | (rw [if_neg (by decide +kernel)]; exact ⟨rfl, rfl⟩))
  (fun os started H enc _ => liftedEncBack hen hd os started H enc)
theorem fG (hen : du) (hd : DecOk) : Rows.EncBackCardSaid :=
 Claim7.holds_tied_plain_at .later [] _ true _ _
  (overEncBack hen hd) (fun _ h => by cases h) (by kernel_rfl) (fun _ h => by cases h) encBack_row_tie rfl ⟨rfl, rfl⟩ (by kernel_rfl) rfl
  (fun f fn hf hfn => by
   obtain rfl : f = 4 := Option.some.inj (hf.symm.trans (show Tryz.prog.funcNamed "gabelle/gabellelaw07.EncBack" = some 4 by kernel_rfl))
   obtain rfl : fn = Tryz.f4 := Option.some.inj (hfn.symm.trans Tryz.func4)
   refine ⟨by kernel_rfl, fun j t ht => ?_⟩
   rw [Tryz.params4] at ht
   have hm : t ∈ [33, 36] := by
    have := Array.mem_of_getElem? ht
    simp at this
    simp
    omega
   have hall : ([33, 36].all fun u => !Tryz.prog.wantsStandIn u) = true := by kernel_rfl
   have := List.all_eq_true.1 hall t hm
   have h2 : Tryz.prog.wantsStandIn t = false := by simpa using this
   exact h2)
  (by kernel_rfl)
#print axioms fG
end Go.Proofs.YthkglmkpnhhboaaGreatDoor
