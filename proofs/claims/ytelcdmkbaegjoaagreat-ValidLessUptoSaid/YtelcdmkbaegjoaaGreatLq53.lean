/-
  PROVED: where what came in is of bulk at most 1048576, for every module and every int the statement ValidLess answers true, and each argument reads afterwards as it read before. Conditions: none beyond the given row's own.
-/
import Derived.Test.YtelcdmkbaegjoaaGreatLq01
import Derived.Test.YtelcdmkbaegjoaaGreatLq36
import Derived.Test.YtelcdmkbaegjoaaGreatLq52
import Derived.Deep.CondSized
set_option maxRecDepth 100000
set_option maxHeartbeats 4000000
namespace Go.Proofs.YtelcdmkbaegjoaaGreat
open Go.RowKit Ins Bin Sp
open Go.ChangeShapes Go.WideShapes Go.ChangeAt
theorem liftedValidLess (os : Os) (started : os.Started) (H : Type) (enc : TypeId × Value → H) (F : Stop.Interp) :
  ReturnsInHanded {} Tryz.checked os 4 .any ((Rows.OpenSpec.upto Rows.validLessSpec).pre6 enc Tryz.prog Tryz.f4 Rows.validLessUptoRow.domain false) (((Rows.OpenSpec.upto Rows.validLessSpec).at F).post enc Tryz.prog Tryz.f4 false true false false) := by
 refine returnsInHanded_of_cond_sized (C := Tryz.checked) (s := Rows.OpenSpec.upto Rows.validLessSpec) (k := Rows.uptoSmall) rfl own started (by kernel_rfl) Tryz.func4
  (OpenSpec.witness (enc := enc) (C := Tryz.checked) (s := Rows.OpenSpec.upto Rows.validLessSpec) (k := Rows.uptoSmall) rfl false ⟨#[], #[.agg #[.slice none 0 0, .slice none 0 0, .slice none 0 0, .slice none 0 0, .slice none 0 0, .slice none 0 0, .slice none 0 0, .bool false, .int .u32 0, .slice none 0 0, .slice none 0 0, .slice none 0 0], .int .i64 0], []⟩ 8 (by kernel_rfl) (by kernel_rfl) (by kernel_rfl)
   (x := ([.agg [.nil, .nil, .nil, .nil, .nil, .nil, .nil, .lit (.bool false), .lit (.int .u32 0), .nil, .nil, .nil], .lit (.int .i64 0)], [], [])) (by kernel_rfl) rfl (by kernel_rfl)) ?_
 intro W base args ds gs before hval0 hW _ hbk0 hsz _
 have hval : ∀ (j : Nat) t v, Tryz.f4.params[j]? = some t → args[j]? = some v → Value.okWide Tryz.prog W .any base t v := hval0
 have hW' := hW
 obtain ⟨p, q, hA0, hV, rfl, hfz, hnd⟩ := hW
 have hA : DataW.TrodAll enc Tryz.prog W 0 (fun _ => true) true Tryz.f4.params.toList args.toList ds p := hA0
 rw [Tryz.params4] at hA hval
 obtain ⟨v0, vs0, d0, ds0, p0, q0, hargs, rfl, rfl, h0, r0⟩ := trodAll_cons hA
 obtain ⟨v1, vs1, d1, ds1, p1, q1, rfl, rfl, rfl, h1, r1⟩ := trodAll_cons r0
 obtain ⟨rfl, rfl, rfl⟩ := trodAll_nil r1
 obtain ⟨rfl, rfl⟩ := trodVars_none hV
 have hbk : Rows.uptoBulkAll [d0, d1] ≤ 1048576 := by simpa [Rows.uptoSmall] using hbk0
 simp only [Rows.uptoBulkAll] at hbk
 obtain rfl : args = #[v0, v1] := by cases args; simp_all
 obtain ⟨m0, u1, u2, u3, u4, u5, u6, u7, u8, u9, u10, rfl, hM0, hB0, hW0⟩ := open_modW (hval 0 33 v0 rfl rfl) h0 (fun k hk => by
  have h := List.all_eq_true.1 hsz k (DataW.weights_mem_each (j := 0) (t := 33) rfl rfl k hk)
  simpa using h)
 obtain ⟨b1, rfl, rfl, rfl, wb1⟩ := open_int und3 (hval 1 3 v1 rfl rfl) h1
 obtain ⟨ub1, ub1'⟩ := bounds_i64 wb1
 refine (vless_any valid_ok m0 u1 u2 u3 u4 u5 u6 u7 u8 u9 u10 b1 _ hM0 hB0 (by omega) ub1 ub1').mono fun e W' ⟨he, hb⟩ => ?_
 subst he
 exact ⟨_, rfl, law_post (P := Tryz.prog) (f := Tryz.f4) (s := Rows.validLessSpec) laid (by kernel_rfl) rfl rfl und4 hW' rfl hb⟩
theorem overValidLess : Rows.validLessUptoRow.holds Tryz.pinned (Rows.OpenSpec.upto Rows.validLessSpec) :=
 OpenClaim.holds_of_cond 4 Tryz.f4 rfl rfl rfl rfl rfl rfl rfl ⟨rfl, rfl, rfl, rfl, rfl⟩ rfl rfl rfl rfl rfl (by kernel_rfl) Tryz.func4 (by kernel_rfl)
  (of_decide_eq_true (by kernel_rfl)) (by unfold Func.isWrapper; first | (rw [if_pos (by decide +kernel)]; kernel_rfl) | (rw [if_neg (by decide +kernel)]; exact ⟨rfl, rfl⟩))
  (fun os started H enc _ F => liftedValidLess os started H enc F)
theorem validLess_holds : Rows.ValidLessUptoSaid := overValidLess
#print axioms validLess_holds
end Go.Proofs.YtelcdmkbaegjoaaGreat
