/-
  PROVED: for every module and every uint32 and every uint8 the statement SpaceRow answers true, and each argument reads afterwards as it read before. Conditions: none beyond the given row's own.
-/
import Derived.Test.YtgnbkfkiigcdgaaSpRowWalk
import Derived.Test.YtgnbkfkiigcdgaaSpOpen
import Derived.SizedLaws
namespace Go.Proofs.Ytgnbkfkiigcdgaa
open Go.RowKit Ins Bin Sp
open Go.ChangeShapes Go.WideShapes Go.ChangeAt
set_option maxRecDepth 100000 in
theorem liftedSpaceRow (os : Os) (started : os.Started) (H : Type) (enc : TypeId × Value → H) :
    ReturnsInHanded {} Try.checked os 5 .any (Rows.spaceRowSpec.pre6 enc Try.prog Try.f5 Rows.spaceRowRow.domain false) (Rows.spaceRowSpec.post enc Try.prog Try.f5 false true false false) := by
  refine returnsInHanded_of_change_sized (C := Try.checked) own started (by kernel_rfl) Try.func5
    (ChangeSpec.witness6 (enc := enc) (C := Try.checked) false ⟨#[], #[.agg #[.slice none 0 0, .slice none 0 0, .slice none 0 0, .slice none 0 0, .slice none 0 0, .slice none 0 0, .slice none 0 0, .bool false, .int .u32 0, .slice none 0 0, .slice none 0 0, .slice none 0 0], .int .u32 0, .int .u8 0], []⟩ 8 (by kernel_rfl) (by kernel_rfl) (by kernel_rfl) (by kernel_rfl)) ?_
  intro W base args ds gs before hval0 hW _ hsz _
  have hval : ∀ (j : Nat) t v, Try.f5.params[j]? = some t → args[j]? = some v → Value.okWide Try.prog W .any base t v := hval0
  have hW' := hW
  obtain ⟨p, q, hA0, hV, rfl, hfz, hnd⟩ := hW
  have hA : DataW.TrodAll enc Try.prog W 0 (fun _ => true) true Try.f5.params.toList args.toList ds p := hA0
  rw [Try.params5] at hA hval
  obtain ⟨v0, vs0, d0, ds0, p0, q0, hargs, rfl, rfl, h0, r0⟩ := trodAll_cons hA
  obtain ⟨v1, vs1, d1, ds1, p1, q1, rfl, rfl, rfl, h1, r1⟩ := trodAll_cons r0
  obtain ⟨v2, vs2, d2, ds2, p2, q2, rfl, rfl, rfl, h2, r2⟩ := trodAll_cons r1
  obtain ⟨rfl, rfl, rfl⟩ := trodAll_nil r2
  obtain rfl : args = #[v0, v1, v2] := by cases args; simp_all
  obtain ⟨m0, u1, u2, u3, u4, u5, u6, u7, u8, u9, u10, rfl, hM0, hB0⟩ := open_mod (hval 0 33 v0 rfl rfl) h0 (fun k hk => by
    have h := List.all_eq_true.1 hsz k (DataW.weights_mem_each (j := 0) (t := 33) rfl rfl k hk)
    simpa using h)
  obtain ⟨b1, rfl, rfl, rfl, wb1⟩ := open_int o_und23u (hval 1 28 v1 rfl rfl) h1
  obtain ⟨ub1, ub1'⟩ := bounds_u32 wb1
  obtain ⟨x1, rfl⟩ := Int.eq_ofNat_of_zero_le ub1
  obtain ⟨b2, rfl, rfl, rfl, wb2⟩ := open_int und5 (hval 2 5 v2 rfl rfl) h2
  obtain ⟨ub2, ub2'⟩ := bounds_u8 wb2
  obtain ⟨x2, rfl⟩ := Int.eq_ofNat_of_zero_le ub2
  refine (spaceRow_any m0 u1 u2 u3 u4 u5 u6 u7 u8 u9 u10 x1 (by omega) x2 (by omega) _ hM0 hB0).mono fun e W' ⟨he, hb⟩ => ?_
  subst he
  exact ⟨_, rfl, law_post (P := Try.prog) (f := Try.f5) (s := Rows.spaceRowSpec) laid (by kernel_rfl) rfl rfl und4 hW' rfl hb⟩
theorem overSpaceRow : Rows.spaceRowRow.holds Try.pinned (OpenSpec.ofChange Rows.spaceRowSpec) :=
  OpenClaim.holds_of_wide 5 Try.f5 rfl rfl rfl rfl rfl rfl rfl ⟨rfl, rfl, rfl, rfl, rfl⟩ rfl rfl rfl rfl rfl (by kernel_rfl) Try.func5 (by kernel_rfl)
    (of_decide_eq_true (by kernel_rfl)) (by unfold Func.isWrapper; first | (rw [if_pos (by decide +kernel)]; kernel_rfl) | (rw [if_neg (by decide +kernel)]; exact ⟨rfl, rfl⟩))
    (fun os started H enc _ => liftedSpaceRow os started H enc)
theorem spaceRow_holds : Rows.SpaceRowSaid := overSpaceRow
#print axioms spaceRow_holds
end Go.Proofs.Ytgnbkfkiigcdgaa
