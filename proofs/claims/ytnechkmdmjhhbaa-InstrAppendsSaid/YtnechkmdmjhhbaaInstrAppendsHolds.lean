/-
  PROVED: for every slice of bytes and every instruction and every slice of instructions the statement InstrAppends answers true, and each argument reads afterwards as it read before. Conditions: none beyond the given row's own.
-/
import Derived.Test.YtnechkmdmjhhbaaInsAppWalk
import Derived.Test.YtnechkmdmjhhbaaInsOpen
import Derived.SizedLaws
namespace Go.Proofs.Ytnechkmdmjhhbaa
open Go.RowKit
open Go.ChangeShapes Go.WideShapes Go.ChangeAt
set_option maxRecDepth 100000 in
theorem liftedInstrAppends (os : Os) (started : os.Started) (H : Type) (enc : TypeId × Value → H) :
    ReturnsInHanded {} Try.checked os 3 .any (Rows.instrAppendsSpec.pre6 enc Try.prog Try.f3 Rows.instrAppendsRow.domain false) (Rows.instrAppendsSpec.post enc Try.prog Try.f3 false true false false) := by
  refine returnsInHanded_of_change_sized (C := Try.checked) own started (by kernel_rfl) Try.func3
    (ChangeSpec.witness6 (enc := enc) (C := Try.checked) false ⟨#[], #[.slice none 0 0, .agg #[.int .u8 0, .int .u32 0, .int .u32 0, .int .i64 0, .slice none 0 0], .slice none 0 0], []⟩ 8 (by kernel_rfl) (by kernel_rfl) (by kernel_rfl) (by kernel_rfl)) ?_
  intro W base args ds gs before hval0 hW _ hsz _
  have hval : ∀ (j : Nat) t v, Try.f3.params[j]? = some t → args[j]? = some v → Value.okWide Try.prog W .any base t v := hval0
  have hW' := hW
  obtain ⟨p, q, hA0, hV, rfl, hfz, hnd⟩ := hW
  have hA : DataW.TrodAll enc Try.prog W 0 (fun _ => true) true Try.f3.params.toList args.toList ds p := hA0
  rw [Try.params3] at hA hval
  obtain ⟨v0, vs0, d0, ds0, p0, q0, hargs, rfl, rfl, h0, r0⟩ := trodAll_cons hA
  obtain ⟨v1, vs1, d1, ds1, p1, q1, rfl, rfl, rfl, h1, r1⟩ := trodAll_cons r0
  obtain ⟨v2, vs2, d2, ds2, p2, q2, rfl, rfl, rfl, h2, r2⟩ := trodAll_cons r1
  obtain ⟨rfl, rfl, rfl⟩ := trodAll_nil r2
  obtain rfl : args = #[v0, v1, v2] := by cases args; simp_all
  obtain ⟨A0, n0, c0, l0, rfl, hn0, hnc0, hm0, hhas0⟩ := open_bytes (hval 0 22 v0 rfl rfl) h0
  obtain ⟨x1, A1, c1, rfl, hw1, hl1, hm1, hn1, hx1, tb1⟩ := open_one (hval 1 26 v1 rfl rfl) h1 (fun k hk => by
    have h := List.all_eq_true.1 hsz k (DataW.weights_mem_each (j := 1) (t := 26) rfl rfl k hk)
    simpa using h)
  obtain ⟨A2, n2, c2, x2, rfl, hn2, hm2, hl2, hx2, tb2⟩ := open_instrs (hval 2 27 v2 rfl rfl) h2 (fun k hk => by
    have h := List.all_eq_true.1 hsz k (DataW.weights_mem_each (j := 2) (t := 27) rfl rfl k hk)
    simpa using h)
  refine (appends_any A0 l0 n0 c0 x1 A1 c1 A2 x2 n2 c2 _ hhas0 hn0 hx1 hw1 hl1 hm1 hn1 hx2 hn2 hm2 hl2).mono fun e W' ⟨he, hb⟩ => ?_
  subst he
  exact ⟨_, rfl, law_post (P := Try.prog) (f := Try.f3) (s := Rows.instrAppendsSpec) laid (by kernel_rfl) rfl rfl und4 hW' rfl hb⟩
theorem overInstrAppends : Rows.instrAppendsRow.holds Try.pinned (OpenSpec.ofChange Rows.instrAppendsSpec) :=
  OpenClaim.holds_of_wide 3 Try.f3 rfl rfl rfl rfl rfl rfl rfl ⟨rfl, rfl, rfl, rfl, rfl⟩ rfl rfl rfl rfl rfl (by kernel_rfl) Try.func3 (by kernel_rfl)
    (of_decide_eq_true (by kernel_rfl)) (by unfold Func.isWrapper; first | (rw [if_pos (by decide +kernel)]; kernel_rfl) | (rw [if_neg (by decide +kernel)]; exact ⟨rfl, rfl⟩))
    (fun os started H enc _ => liftedInstrAppends os started H enc)
theorem instrAppends_holds : Rows.InstrAppendsSaid := overInstrAppends
#print axioms instrAppends_holds
end Go.Proofs.Ytnechkmdmjhhbaa
