/-
  PROVED: for every uint8 and every int the statement RuleSizes answers true, and each argument reads afterwards as it read before. Conditions: none beyond the given row's own.
-/
import Derived.Test.YtmpelmihdpomjaaGreatSq01
import Derived.Test.YtmpelmihdpomjaaGreatSq45
import Derived.Test.YtmpelmihdpomjaaGreatSq44
import Derived.SizedLaws
set_option maxRecDepth 100000
set_option maxHeartbeats 4000000
namespace Go.Proofs.YtmpelmihdpomjaaGreat
open Go.RowKit Ins Bin Sp
open Go.ChangeShapes Go.WideShapes Go.ChangeAt
theorem liftedRuleSizes (os:Os) (started:os.Started) (H:Type) (enc:TypeId × Value → H) :
  ReturnsInHanded {} Tryz.checked os 4 .any (Rows.ruleSizesSpec.pre6 enc Tryz.prog Tryz.f4 Rows.ruleSizesRow.domain false) (Rows.ruleSizesSpec.post enc Tryz.prog Tryz.f4 false true false false):=by
 refine returnsInHanded_of_change_sized (C:=Tryz.checked) own started (by kernel_rfl) Tryz.func4
  (ChangeSpec.witness6 (enc:=enc) (C:=Tryz.checked) false ⟨#[],#[.int .u8 0,.int .i64 0],[]⟩ 8 (by kernel_rfl) (by kernel_rfl) (by kernel_rfl) (by kernel_rfl)) ?_
 intro W base args ds gs before hval0 hW _ hsz _
 have hval:∀ (j:Nat) t v,Tryz.f4.params[j]? = some t → args[j]? = some v → Value.okWide Tryz.prog W .any base t v:=hval0
 have hW':=hW
 obtain ⟨p,q,hA0,hV,rfl,hfz,hnd⟩:=hW
 have hA:DataW.TrodAll enc Tryz.prog W 0 (fun _=>true) true Tryz.f4.params.toList args.toList ds p:=hA0
 rw [Tryz.params4] at hA hval
 obtain ⟨v0,vs0,d0,ds0,p0,q0,hargs,rfl,rfl,h0,r0⟩:=trodAll_cons hA
 obtain ⟨v1,vs1,d1,ds1,p1,q1,rfl,rfl,rfl,h1,r1⟩:=trodAll_cons r0
 obtain ⟨rfl,rfl,rfl⟩:=trodAll_nil r1
 obtain rfl:args = #[v0,v1]:=by cases args;simp_all
 obtain ⟨b0,rfl,rfl,rfl,wb0⟩:=open_int und5 (hval 0 5 v0 rfl rfl) h0
 obtain ⟨ub0,ub0'⟩:=bounds_u8 wb0
 obtain ⟨x0,rfl⟩:=Int.eq_ofNat_of_zero_le ub0
 obtain ⟨b1,rfl,rfl,rfl,wb1⟩:=open_int und3 (hval 1 3 v1 rfl rfl) h1
 obtain ⟨ub1,ub1'⟩:=bounds_i64 wb1
 refine (rsizes_any rule_ok fF x0 (by omega) b1 ub1 ub1' W).mono fun e W' ⟨he,hb⟩=>?_
 subst he
 exact ⟨_,rfl,law_post (P:=Tryz.prog) (f:=Tryz.f4) (s:=Rows.ruleSizesSpec) laid (by kernel_rfl) rfl rfl und4 hW' rfl hb⟩
theorem overRuleSizes:Rows.ruleSizesRow.holds Tryz.pinned (OpenSpec.ofChange Rows.ruleSizesSpec) :=
 OpenClaim.holds_of_wide 4 Tryz.f4 rfl rfl rfl rfl rfl rfl rfl ⟨rfl,rfl,rfl,rfl,rfl⟩ rfl rfl rfl rfl rfl (by kernel_rfl) Tryz.func4 (by kernel_rfl)
  (of_decide_eq_true (by kernel_rfl)) (by unfold Func.isWrapper;first | (rw [if_pos (by decide +kernel)];kernel_rfl) | (rw [if_neg (by decide +kernel)];exact ⟨rfl,rfl⟩))
  (fun os started H enc _=>liftedRuleSizes os started H enc)
theorem ruleSizes_holds:Rows.RuleSizesSaid:=overRuleSizes
#print axioms ruleSizes_holds
end Go.Proofs.YtmpelmihdpomjaaGreat
