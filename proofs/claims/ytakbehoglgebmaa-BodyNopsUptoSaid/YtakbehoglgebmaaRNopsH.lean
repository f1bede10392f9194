/-
  PROVED: where what came in is of bulk at most 1048576, for every module and every type of functions and every code and every int and every slice of instructions the statement BodyNops answers true, and each argument reads afterwards as it read before. Conditions: none beyond the given row's own.
-/
import Derived.Test.YtakbehoglgebmaaR38
import Derived.Test.YtakbehoglgebmaaR39
import Derived.Deep.CondSized
namespace Go.Proofs.Ytakbehoglgebmaa
open Go.RowKit Ins Bin Sp
open Go.ChangeShapes Go.WideShapes Go.ChangeAt
set_option maxRecDepth 100000 in
theorem liftedBodyNops (os : Os) (started : os.Started) (H : Type) (enc : TypeId × Value → H) (F : Stop.Interp) :
    ReturnsInHanded {} Try.checked os 3 .any ((Rows.OpenSpec.upto Rows.bodyNopsSpec).pre6 enc Try.prog Try.f3 Rows.bodyNopsUptoRow.domain false) (((Rows.OpenSpec.upto Rows.bodyNopsSpec).at F).post enc Try.prog Try.f3 false true false false) := by
  refine returnsInHanded_of_cond_sized (C := Try.checked) (s := Rows.OpenSpec.upto Rows.bodyNopsSpec) (k := Rows.uptoSmall) rfl own started (by kernel_rfl) Try.func3
    (OpenSpec.witness (enc := enc) (C := Try.checked) (s := Rows.OpenSpec.upto Rows.bodyNopsSpec) (k := Rows.uptoSmall) rfl false ⟨#[], #[.agg #[.slice none 0 0, .slice none 0 0, .slice none 0 0, .slice none 0 0, .slice none 0 0, .slice none 0 0, .slice none 0 0, .bool false, .int .u32 0, .slice none 0 0, .slice none 0 0, .slice none 0 0], .agg #[.slice none 0 0, .slice none 0 0], .agg #[.slice none 0 0, .slice none 0 0], .int .i64 0, .slice none 0 0], []⟩ 8 (by kernel_rfl) (by kernel_rfl) (by kernel_rfl)
      (x := ([.agg [.nil, .nil, .nil, .nil, .nil, .nil, .nil, .lit (.bool false), .lit (.int .u32 0), .nil, .nil, .nil], .agg [.nil, .nil], .agg [.nil, .nil], .lit (.int .i64 0), .nil], [], [])) (by kernel_rfl) rfl (by kernel_rfl)) ?_
  intro W base args ds gs before hval0 hW _ hbk0 hsz _
  have hval : ∀ (j : Nat) t v, Try.f3.params[j]? = some t → args[j]? = some v → Value.okWide Try.prog W .any base t v := hval0
  have hW' := hW
  obtain ⟨p, q, hA0, hV, rfl, hfz, hnd⟩ := hW
  have hA : DataW.TrodAll enc Try.prog W 0 (fun _ => true) true Try.f3.params.toList args.toList ds p := hA0
  rw [Try.params3] at hA hval
  obtain ⟨v0, vs0, d0, ds0, p0, q0, hargs, rfl, rfl, h0, r0⟩ := trodAll_cons hA
  obtain ⟨v1, vs1, d1, ds1, p1, q1, rfl, rfl, rfl, h1, r1⟩ := trodAll_cons r0
  obtain ⟨v2, vs2, d2, ds2, p2, q2, rfl, rfl, rfl, h2, r2⟩ := trodAll_cons r1
  obtain ⟨v3, vs3, d3, ds3, p3, q3, rfl, rfl, rfl, h3, r3⟩ := trodAll_cons r2
  obtain ⟨v4, vs4, d4, ds4, p4, q4, rfl, rfl, rfl, h4, r4⟩ := trodAll_cons r3
  obtain ⟨rfl, rfl, rfl⟩ := trodAll_nil r4
  obtain ⟨rfl, rfl⟩ := trodVars_none hV
  have hbk : Rows.uptoBulkAll [d0, d1, d2, d3, d4] ≤ 1048576 := by simpa [Rows.uptoSmall] using hbk0
  simp only [Rows.uptoBulkAll] at hbk
  obtain rfl : args = #[v0, v1, v2, v3, v4] := by cases args; simp_all
  obtain ⟨m0, u1, u2, u3, u4, u5, u6, u7, u8, u9, u10, rfl, hM0, hB0⟩ := open_mod (hval 0 33 v0 rfl rfl) h0 (fun k hk => by
    have h := List.all_eq_true.1 hsz k (DataW.weights_mem_each (j := 0) (t := 33) rfl rfl k hk)
    simpa using h)
  obtain ⟨x1, a1, b1, rfl, ha1, hb1, hl1⟩ := open_ftype (hval 1 36 v1 rfl rfl) h1 (fun k hk => by
    have h := List.all_eq_true.1 hsz k (DataW.weights_mem_each (j := 1) (t := 36) rfl rfl k hk)
    simpa using h)
  obtain ⟨x2, a2, b2, rfl, ha2, hb2, hl2, hbe2⟩ := open_code (hval 2 40 v2 rfl rfl) h2 (fun k hk => by
    have h := List.all_eq_true.1 hsz k (DataW.weights_mem_each (j := 2) (t := 40) rfl rfl k hk)
    simpa using h)
  obtain ⟨b3, rfl, rfl, rfl, wb3⟩ := open_int und3 (hval 3 3 v3 rfl rfl) h3
  obtain ⟨ub3, ub3'⟩ := bounds_i64 wb3
  obtain ⟨A4, n4, c4, x4, rfl, hn4, hm4, hl4, hx4, tb4⟩ := open_instrs (hval 4 38 v4 rfl rfl) h4 (fun k hk => by
    have h := List.all_eq_true.1 hsz k (DataW.weights_mem_each (j := 4) (t := 38) rfl rfl k hk)
    simpa using h)
  refine (bodyNops_any m0 u1 u2 u3 u4 u5 u6 u7 u8 u9 u10 x1 a1 b1 x2 a2 b2 b3 x4 A4 n4 c4 _ hM0 hB0 ha1 hb1 ha2 hb2 hl1.1 hl1.2 hl2 hbe2.1 hbe2.2 ub3 ub3' hx4 hn4 (by have := tb4; omega)).mono fun e W' ⟨he, hb⟩ => ?_
  subst he
  exact ⟨_, rfl, law_post (P := Try.prog) (f := Try.f3) (s := Rows.bodyNopsSpec) laid (by kernel_rfl) rfl rfl und4 hW' rfl hb⟩
theorem overBodyNops : Rows.bodyNopsUptoRow.holds Try.pinned (Rows.OpenSpec.upto Rows.bodyNopsSpec) :=
  OpenClaim.holds_of_cond 3 Try.f3 rfl rfl rfl rfl rfl rfl rfl ⟨rfl, rfl, rfl, rfl, rfl⟩ rfl rfl rfl rfl rfl (by kernel_rfl) Try.func3 (by kernel_rfl)
    (of_decide_eq_true (by kernel_rfl)) (by unfold Func.isWrapper; first | (rw [if_pos (by decide +kernel)]; kernel_rfl) | (rw [if_neg (by decide +kernel)]; exact ⟨rfl, rfl⟩))
    (fun os started H enc _ F => liftedBodyNops os started H enc F)
theorem bodyNops_holds : Rows.BodyNopsUptoSaid := overBodyNops
#print axioms bodyNops_holds
end Go.Proofs.Ytakbehoglgebmaa

