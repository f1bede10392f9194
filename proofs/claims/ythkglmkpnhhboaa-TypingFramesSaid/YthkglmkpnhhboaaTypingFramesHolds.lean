/-
  PROVED: for every slice of bytes and every uint8 the statement TypingFrames answers true, and each argument reads afterwards as it read before. Conditions: none beyond the given row's own.
-/
import Derived.Test.YthkglmkpnhhboaaTyFramesWalk
import Derived.Test.YthkglmkpnhhboaaTyOpn
import Derived.SizedLaws
namespace Go.Proofs.Ythkglmkpnhhboaa
open Go.RowKit Ins Bin
open Go.ChangeShapes Go.WideShapes Go.ChangeAt
set_option maxRecDepth 100000 in
theorem liftedTypingFrames (os : Os) (started : os.Started) (H : Type) (enc : TypeId × Value → H) :
    ReturnsInHanded {} Try.checked os 5 .any (Rows.typingFramesSpec.pre6 enc Try.prog Try.f5 Rows.typingFramesRow.domain false) (Rows.typingFramesSpec.post enc Try.prog Try.f5 false true false false) := by
  refine returnsInHanded_of_change_sized (C := Try.checked) own started (by kernel_rfl) Try.func5
    (ChangeSpec.witness6 (enc := enc) (C := Try.checked) false ⟨#[], #[.slice none 0 0, .int .u8 0], []⟩ 8 (by kernel_rfl) (by kernel_rfl) (by kernel_rfl) (by kernel_rfl)) ?_
  intro W base args ds gs before hval0 hW _ hsz _
  have hval : ∀ (j : Nat) t v, Try.f5.params[j]? = some t → args[j]? = some v → Value.okWide Try.prog W .any base t v := hval0
  have hW' := hW
  obtain ⟨p, q, hA0, hV, rfl, hfz, hnd⟩ := hW
  have hA : DataW.TrodAll enc Try.prog W 0 (fun _ => true) true Try.f5.params.toList args.toList ds p := hA0
  rw [Try.params5] at hA hval
  obtain ⟨v0, vs0, d0, ds0, p0, q0, hargs, rfl, rfl, h0, r0⟩ := trodAll_cons hA
  obtain ⟨v1, vs1, d1, ds1, p1, q1, rfl, rfl, rfl, h1, r1⟩ := trodAll_cons r0
  obtain ⟨rfl, rfl, rfl⟩ := trodAll_nil r1
  obtain rfl : args = #[v0, v1] := by cases args; simp_all
  obtain ⟨l0, A0, c0, rfl, hS0, hl0, _⟩ := open_slv (α := UInt8) o_und22 (hval 0 22 v0 rfl rfl) h0 (fun k hk => by
    have h := List.all_eq_true.1 hsz k (DataW.weights_mem_each (j := 0) (t := 22) rfl rfl k hk)
    simpa using h)
  obtain ⟨b1, rfl, rfl, rfl, wb1⟩ := open_int und5 (hval 1 5 v1 rfl rfl) h1
  obtain ⟨ub1, ub1'⟩ := bounds_u8 wb1
  obtain ⟨x1, rfl⟩ := Int.eq_ofNat_of_zero_le ub1
  refine ((by
    have h := typingFrames_any known9 l0 (UInt8.ofNat x1) A0 c0 W hS0
    rwa [show ((UInt8.ofNat x1).toNat : Int) = (x1 : Int) by rw [UInt8.toNat_ofNat']; omega] at h : Calls Try.prog 5 #[.slice A0 l0.length c0, .int .u8 (x1 : Int)] W fun e w' => e = .returned (.bool true) ∧ Below W.heap.size W w')).mono fun e W' ⟨he, hb⟩ => ?_
  subst he
  exact ⟨_, rfl, law_post (P := Try.prog) (f := Try.f5) (s := Rows.typingFramesSpec) laid (by kernel_rfl) rfl rfl und4 hW' rfl hb⟩
theorem overTypingFrames : Rows.typingFramesRow.holds Try.pinned (OpenSpec.ofChange Rows.typingFramesSpec) :=
  OpenClaim.holds_of_wide 5 Try.f5 rfl rfl rfl rfl rfl rfl rfl ⟨rfl, rfl, rfl, rfl, rfl⟩ rfl rfl rfl rfl rfl (by kernel_rfl) Try.func5 (by kernel_rfl)
    (of_decide_eq_true (by kernel_rfl)) (by unfold Func.isWrapper; first | (rw [if_pos (by decide +kernel)]; kernel_rfl) | (rw [if_neg (by decide +kernel)]; exact ⟨rfl, rfl⟩))
    (fun os started H enc _ => liftedTypingFrames os started H enc)
theorem typingFrames_holds : Rows.TypingFramesSaid := overTypingFrames
#print axioms typingFrames_holds
end Go.Proofs.Ythkglmkpnhhboaa
