/-
  PROVED: for every slice of bytes and every slice of bytes and every bool the statement TypingDead answers true, and each argument reads afterwards as it read before. Conditions: none beyond the given row's own.
-/
import Derived.Test.YthkglmkpnhhboaaTyKnown
import Derived.Test.YthkglmkpnhhboaaTyOpn
import Derived.SizedLaws
namespace Go.Proofs.Ythkglmkpnhhboaa
open Go.RowKit Ins Bin
open Go.ChangeShapes Go.WideShapes Go.ChangeAt
set_option maxRecDepth 100000 in
theorem liftedTypingDead (os : Os) (started : os.Started) (H : Type) (enc : TypeId × Value → H) :
    ReturnsInHanded {} Try.checked os 4 .any (Rows.typingDeadSpec.pre6 enc Try.prog Try.f4 Rows.typingDeadRow.domain false) (Rows.typingDeadSpec.post enc Try.prog Try.f4 false true false false) := by
  refine returnsInHanded_of_change_sized (C := Try.checked) own started (by kernel_rfl) Try.func4
    (ChangeSpec.witness6 (enc := enc) (C := Try.checked) false ⟨#[], #[.slice none 0 0, .slice none 0 0, .bool false], []⟩ 8 (by kernel_rfl) (by kernel_rfl) (by kernel_rfl) (by kernel_rfl)) ?_
  intro W base args ds gs before hval0 hW _ hsz _
  have hval : ∀ (j : Nat) t v, Try.f4.params[j]? = some t → args[j]? = some v → Value.okWide Try.prog W .any base t v := hval0
  have hW' := hW
  obtain ⟨p, q, hA0, hV, rfl, hfz, hnd⟩ := hW
  have hA : DataW.TrodAll enc Try.prog W 0 (fun _ => true) true Try.f4.params.toList args.toList ds p := hA0
  rw [Try.params4] at hA hval
  obtain ⟨v0, vs0, d0, ds0, p0, q0, hargs, rfl, rfl, h0, r0⟩ := trodAll_cons hA
  obtain ⟨v1, vs1, d1, ds1, p1, q1, rfl, rfl, rfl, h1, r1⟩ := trodAll_cons r0
  obtain ⟨v2, vs2, d2, ds2, p2, q2, rfl, rfl, rfl, h2, r2⟩ := trodAll_cons r1
  obtain ⟨rfl, rfl, rfl⟩ := trodAll_nil r2
  obtain rfl : args = #[v0, v1, v2] := by cases args; simp_all
  obtain ⟨l0, A0, c0, rfl, hS0, hl0, _⟩ := open_slv (α := UInt8) o_und22 (hval 0 22 v0 rfl rfl) h0 (fun k hk => by
    have h := List.all_eq_true.1 hsz k (DataW.weights_mem_each (j := 0) (t := 22) rfl rfl k hk)
    simpa using h)
  obtain ⟨l1, A1, c1, rfl, hS1, hl1, _⟩ := open_slv (α := UInt8) o_und22 (hval 1 22 v1 rfl rfl) h1 (fun k hk => by
    have h := List.all_eq_true.1 hsz k (DataW.weights_mem_each (j := 1) (t := 22) rfl rfl k hk)
    simpa using h)
  obtain ⟨b2, rfl, rfl, rfl⟩ := Go.RowKit.open_bool und4 (hval 2 4 v2 rfl rfl) h2
  refine (typingDead_any known9 l0 l1 b2 A0 A1 c0 c1 W hS0 hS1 hl0 hl1).mono fun e W' ⟨he, hb⟩ => ?_
  subst he
  exact ⟨_, rfl, law_post (P := Try.prog) (f := Try.f4) (s := Rows.typingDeadSpec) laid (by kernel_rfl) rfl rfl und4 hW' rfl hb⟩
theorem overTypingDead : Rows.typingDeadRow.holds Try.pinned (OpenSpec.ofChange Rows.typingDeadSpec) :=
  OpenClaim.holds_of_wide 4 Try.f4 rfl rfl rfl rfl rfl rfl rfl ⟨rfl, rfl, rfl, rfl, rfl⟩ rfl rfl rfl rfl rfl (by kernel_rfl) Try.func4 (by kernel_rfl)
    (of_decide_eq_true (by kernel_rfl)) (by unfold Func.isWrapper; first | (rw [if_pos (by decide +kernel)]; kernel_rfl) | (rw [if_neg (by decide +kernel)]; exact ⟨rfl, rfl⟩))
    (fun os started H enc _ => liftedTypingDead os started H enc)
theorem typingDead_holds : Rows.TypingDeadSaid := overTypingDead
#print axioms typingDead_holds
end Go.Proofs.Ythkglmkpnhhboaa
