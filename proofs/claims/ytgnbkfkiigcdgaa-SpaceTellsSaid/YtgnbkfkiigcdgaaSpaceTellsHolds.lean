/-
  PROVED: for every module and every uint32 and every uint8 and every string the statement SpaceTells answers true, and each argument reads afterwards as it read before. Conditions: none beyond the given row's own.
-/
import Derived.Test.YtgnbkfkiigcdgaaSpTellsWalk
import Derived.Test.YtgnbkfkiigcdgaaSpOpen
import Derived.SizedLaws
import Derived.ChangeMaps5
namespace Go.Proofs.Ytgnbkfkiigcdgaa
open Go.RowKit Ins Bin Sp
open Go.ChangeShapes Go.WideShapes Go.ChangeAt
set_option maxRecDepth 100000 in
theorem liftedSpaceTells (os : Os) (started : os.Started) (H : Type) (enc : TypeId × Value → H) :
    ReturnsInHanded {} Try.checked os 3 .any (Rows.spaceTellsSpec.pre6 enc Try.prog Try.f3 Rows.spaceTellsRow.domain false) (Rows.spaceTellsSpec.post enc Try.prog Try.f3 false true false false) := by
  refine returnsInHanded_of_change_sized (C := Try.checked) own started (by kernel_rfl) Try.func3
    (ChangeSpec.witness6 (enc := enc) (C := Try.checked) false ⟨#[], #[.agg #[.slice none 0 0, .slice none 0 0, .slice none 0 0, .slice none 0 0, .slice none 0 0, .slice none 0 0, .slice none 0 0, .bool false, .int .u32 0, .slice none 0 0, .slice none 0 0, .slice none 0 0], .int .u32 0, .int .u8 0, .string ⟨#[]⟩], []⟩ 8 (by kernel_rfl) (by kernel_rfl) (by kernel_rfl) (by kernel_rfl)) ?_
  intro W base args ds gs before hval0 hW _ hsz _
  have hval : ∀ (j : Nat) t v, Try.f3.params[j]? = some t → args[j]? = some v → Value.okWide Try.prog W .any base t v := hval0
  have hW' := hW
  obtain ⟨p, q, hA0, hV, rfl, hfz, hnd⟩ := hW
  have hA : DataW.TrodAll enc Try.prog W 0 (fun _ => true) true Try.f3.params.toList args.toList ds p := hA0
  rw [Try.params3] at hA hval
  obtain ⟨v0, vs0, d0, ds0, p0, q0, hargs, rfl, rfl, h0, r0⟩ := trodAll_cons hA
  obtain ⟨v1, vs1, d1, ds1, p1, q1, rfl, rfl, rfl, h1, r1⟩ := trodAll_cons r0
  obtain ⟨v2, vs2, d2, ds2, p2, q2, rfl, rfl, rfl, h2, r2⟩ := trodAll_cons r1
  obtain ⟨v3, vs3, d3, ds3, p3, q3, rfl, rfl, rfl, h3, r3⟩ := trodAll_cons r2
  obtain ⟨rfl, rfl, rfl⟩ := trodAll_nil r3
  obtain rfl : args = #[v0, v1, v2, v3] := by cases args; simp_all
  obtain ⟨m0, u1, u2, u3, u4, u5, u6, u7, u8, u9, u10, rfl, hM0, hB0⟩ := open_mod (hval 0 33 v0 rfl rfl) h0 (fun k hk => by
    have h := List.all_eq_true.1 hsz k (DataW.weights_mem_each (j := 0) (t := 33) rfl rfl k hk)
    simpa using h)
  obtain ⟨b1, rfl, rfl, rfl, wb1⟩ := open_int o_und23u (hval 1 28 v1 rfl rfl) h1
  obtain ⟨ub1, ub1'⟩ := bounds_u32 wb1
  obtain ⟨x1, rfl⟩ := Int.eq_ofNat_of_zero_le ub1
  obtain ⟨b2, rfl, rfl, rfl, wb2⟩ := open_int und5 (hval 2 5 v2 rfl rfl) h2
  obtain ⟨ub2, ub2'⟩ := bounds_u8 wb2
  obtain ⟨x2, rfl⟩ := Int.eq_ofNat_of_zero_le ub2
  obtain ⟨s3, rfl, rfl, rfl, ws3⟩ := Go.ChangeMaps.open_string und9 (hval 3 9 v3 rfl rfl) h3
  refine (spaceTells_any m0 u1 u2 u3 u4 u5 u6 u7 u8 u9 u10 x1 (by omega) x2 (by omega) s3.data.toList _ hM0 hB0).mono fun e W' ⟨he, hb⟩ => ?_
  subst he
  exact ⟨_, rfl, law_post (P := Try.prog) (f := Try.f3) (s := Rows.spaceTellsSpec) laid (by kernel_rfl) rfl rfl und4 hW' rfl hb⟩
theorem overSpaceTells : Rows.spaceTellsRow.holds Try.pinned (OpenSpec.ofChange Rows.spaceTellsSpec) :=
  OpenClaim.holds_of_wide 3 Try.f3 rfl rfl rfl rfl rfl rfl rfl ⟨rfl, rfl, rfl, rfl, rfl⟩ rfl rfl rfl rfl rfl (by kernel_rfl) Try.func3 (by kernel_rfl)
    (of_decide_eq_true (by kernel_rfl)) (by unfold Func.isWrapper; first | (rw [if_pos (by decide +kernel)]; kernel_rfl) | (rw [if_neg (by decide +kernel)]; exact ⟨rfl, rfl⟩))
    (fun os started H enc _ => liftedSpaceTells os started H enc)
theorem spaceTells_holds : Rows.SpaceTellsSaid := overSpaceTells
#print axioms spaceTells_holds
end Go.Proofs.Ytgnbkfkiigcdgaa
