/-
  PROVED: for every slice of bytes and every uint64 the statement LebAppends answers true, and each argument reads afterwards as it read before. Conditions: none beyond the given row's own.
-/
import Derived.Test.YtbpnlnonhjnnbaaLebOpen
import Derived.Test.YtbpnlnonhjnnbaaLebAppendsWalk
namespace Go.Proofs.Ytbpnlnonhjnnbaa
open Go.RowKit
open Go.ChangeShapes Go.WideShapes Go.ChangeAt
set_option maxRecDepth 100000 in
theorem liftedLebAppends (os : Os) (started : os.Started) (H : Type) (enc : TypeId × Value → H) :
    ReturnsInHanded {} Try.checked os 4 .any (Rows.lebAppendsSpec.pre6 enc Try.prog Try.f4 Rows.lebAppendsRow.domain false) (Rows.lebAppendsSpec.post enc Try.prog Try.f4 false true false false) := by
  refine returnsInHanded_of_change (C := Try.checked) own started (by kernel_rfl) Try.func4
    (ChangeSpec.witness6 (enc := enc) (C := Try.checked) false ⟨#[], #[.slice none 0 0, .int .u64 0], []⟩ 8 (by kernel_rfl) (by kernel_rfl) (by kernel_rfl) (by kernel_rfl)) ?_
  intro W base args ds gs before hval0 hW _ _
  have hval : ∀ (j : Nat) t v, Try.f4.params[j]? = some t → args[j]? = some v → Value.okWide Try.prog W .any base t v := hval0
  have hW' := hW
  obtain ⟨p, q, hA0, hV, rfl, hfz, hnd⟩ := hW
  have hA : DataW.TrodAll enc Try.prog W 0 (fun _ => true) true Try.f4.params.toList args.toList ds p := hA0
  rw [Try.params4] at hA hval
  obtain ⟨v0, vs0, d0, ds0, p0, q0, hargs, rfl, rfl, h0, r0⟩ := trodAll_cons hA
  obtain ⟨v1, vs1, d1, ds1, p1, q1, rfl, rfl, rfl, h1, r1⟩ := trodAll_cons r0
  obtain ⟨rfl, rfl, rfl⟩ := trodAll_nil r1
  obtain rfl : args = #[v0, v1] := by cases args; simp_all
  obtain ⟨A0, n0, c0, l0, rfl, hn0, hnc0, hm0, hhas0⟩ := open_bytes (hval 0 22 v0 rfl rfl) h0
  obtain ⟨b1, rfl, rfl, rfl, wb1⟩ := open_int und24 (hval 1 24 v1 rfl rfl) h1
  obtain ⟨ub1, ub1'⟩ := bounds_u64 wb1
  obtain ⟨u1, rfl⟩ := Int.eq_ofNat_of_zero_le ub1
  refine (walk4 A0 l0 n0 c0 u1 W hn0 (by unfold maxLen at hm0; omega) (by omega) hhas0).mono fun e W' ⟨he, hb⟩ => ?_
  subst he
  exact ⟨_, rfl, law_post (P := Try.prog) (f := Try.f4) (s := Rows.lebAppendsSpec) laid (by kernel_rfl) rfl rfl und4 hW' rfl hb⟩
theorem overLebAppends : Rows.lebAppendsRow.holds Try.pinned (OpenSpec.ofChange Rows.lebAppendsSpec) :=
  OpenClaim.holds_of_wide 4 Try.f4 rfl rfl rfl rfl rfl rfl rfl ⟨rfl, rfl, rfl, rfl, rfl⟩ rfl rfl rfl rfl rfl (by kernel_rfl) Try.func4 (by kernel_rfl)
    (of_decide_eq_true (by kernel_rfl)) (by unfold Func.isWrapper; first | (rw [if_pos (by decide +kernel)]; kernel_rfl) | (rw [if_neg (by decide +kernel)]; exact ⟨rfl, rfl⟩))
    (fun os started H enc _ => liftedLebAppends os started H enc)
theorem lebAppends_holds : Rows.LebAppendsSaid := overLebAppends
#print axioms lebAppends_holds
end Go.Proofs.Ytbpnlnonhjnnbaa
