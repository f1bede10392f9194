/-
  PROVED: for every module and every type of functions and every code the statement BodyBlock answers true, and each argument reads afterwards as it read before. Conditions: none beyond the given row's own.
-/
import Derived.Test.YtakbehoglgebmaaQ12
import Derived.Test.YtakbehoglgebmaaQ42
import Derived.SizedLaws
/-
  A type of functions handed in by value, opened.
-/
namespace Go.Proofs.Ytakbehoglgebmaa
open Go.RowKit Ins Bin
open Go.ChangeShapes Go.WideShapes Go.ChangeAt Go.Deep
set_option maxRecDepth 100000
theorem o_undF' : isStructD (Try.prog.underlying 36) = true := by kernel_rfl
theorem o_undF : ∃ fs, Try.prog.underlying 36 = some (.struct fs) := by
  have h := o_undF'
  generalize Try.prog.underlying 36 = x at h
  unfold isStructD at h
  split at h
  · exact ⟨_, rfl⟩
  · cases h
section
variable {H : Type} {enc : TypeId × Value → H} {W : World}
theorem open_ftype {base : Nat} {v : Value} {d : DataW H} {p : List MemPlace} (hval : Value.okWide Try.prog W .any base 36 v) (h : DataW.Trod enc Try.prog W 0 (fun _ => true) true 36 v d p) (hs : ∀ k ∈ d.weights Try.prog 36, k ≤ reachBytes) :
    ∃ (x : FT) (a b : Value), v = .agg #[a, b] ∧ SliceV W (· < W.heap.size) x.params a ∧ SliceV W (· < W.heap.size) x.results b ∧ x.params.length ≤ most ∧ x.results.length ≤ most := by
  obtain ⟨fs, hu⟩ := o_undF
  obtain ⟨cs, rfl, _⟩ := okWide_struct hu hval
  obtain ⟨fuel, hf⟩ := h
  obtain ⟨x, ⟨a, b, hcs, h1, h2⟩, h3⟩ := Opn.open_ (α := FT) ⟨⟨p, hf⟩, hs⟩
  refine ⟨x, a, b, ?_, h1, h2, h3⟩
  have hc : cs.toList = (#[a, b] : Array Value).toList := by rw [← hcs]; simp [Value.cells]
  rw [Array.toList_inj.1 hc]
end
end Go.Proofs.Ytakbehoglgebmaa
/-
  A function's code handed in by value, opened.
-/
namespace Go.Proofs.Ytakbehoglgebmaa
open Go.RowKit Ins Bin
open Go.ChangeShapes Go.WideShapes Go.ChangeAt Go.Deep
set_option maxRecDepth 100000
theorem o_undC' : isStructD (Try.prog.underlying 40) = true := by kernel_rfl
theorem o_undC : ∃ fs, Try.prog.underlying 40 = some (.struct fs) := by
  have h := o_undC'
  generalize Try.prog.underlying 40 = x at h
  unfold isStructD at h
  split at h
  · exact ⟨_, rfl⟩
  · cases h
section
variable {H : Type} {enc : TypeId × Value → H} {W : World}
theorem open_code {base : Nat} {v : Value} {d : DataW H} {p : List MemPlace} (hval : Value.okWide Try.prog W .any base 40 v) (h : DataW.Trod enc Try.prog W 0 (fun _ => true) true 40 v d p) (hs : ∀ k ∈ d.weights Try.prog 40, k ≤ reachBytes) :
    ∃ (x : Cd) (a b : Value), v = .agg #[a, b] ∧ SliceV W (· < W.heap.size) x.locals a ∧ SliceV W (· < W.heap.size) x.body b ∧ x.locals.length ≤ most ∧ bigE x.body := by
  obtain ⟨fs, hu⟩ := o_undC
  obtain ⟨cs, rfl, _⟩ := okWide_struct hu hval
  obtain ⟨fuel, hf⟩ := h
  obtain ⟨x, ⟨a, b, hcs, h1, h2⟩, h3⟩ := Opn.open_ (α := Cd) ⟨⟨p, hf⟩, hs⟩
  refine ⟨x, a, b, ?_, h1, h2, h3⟩
  have hc : cs.toList = (#[a, b] : Array Value).toList := by rw [← hcs]; simp [Value.cells]
  rw [Array.toList_inj.1 hc]
end
end Go.Proofs.Ytakbehoglgebmaa
namespace Go.Proofs.Ytakbehoglgebmaa
open Go.RowKit Ins Bin Sp
open Go.ChangeShapes Go.WideShapes Go.ChangeAt
set_option maxRecDepth 100000 in
theorem liftedBodyBlock (os : Os) (started : os.Started) (H : Type) (enc : TypeId × Value → H) :
    ReturnsInHanded {} Try.checked os 4 .any (Rows.bodyBlockSpec.pre6 enc Try.prog Try.f4 Rows.bodyBlockRow.domain false) (Rows.bodyBlockSpec.post enc Try.prog Try.f4 false true false false) := by
  refine returnsInHanded_of_change_sized (C := Try.checked) own started (by kernel_rfl) Try.func4
    (ChangeSpec.witness6 (enc := enc) (C := Try.checked) false ⟨#[], #[.agg #[.slice none 0 0, .slice none 0 0, .slice none 0 0, .slice none 0 0, .slice none 0 0, .slice none 0 0, .slice none 0 0, .bool false, .int .u32 0, .slice none 0 0, .slice none 0 0, .slice none 0 0], .agg #[.slice none 0 0, .slice none 0 0], .agg #[.slice none 0 0, .slice none 0 0]], []⟩ 8 (by kernel_rfl) (by kernel_rfl) (by kernel_rfl) (by kernel_rfl)) ?_
  intro W base args ds gs before hval0 hW _ hsz _
  have hval : ∀ (j : Nat) t v, Try.f4.params[j]? = some t → args[j]? = some v → Value.okWide Try.prog W .any base t v := hval0
  have hW' := hW
  obtain ⟨p, q, hA0, hV, rfl, hfz, hnd⟩ := hW
  have hA : DataW.TrodAll enc Try.prog W 0 (fun _ => true) true Try.f4.params.toList args.toList ds p := hA0
  rw [Try.params4] at hA hval
  obtain ⟨v0, vs0, d0, ds0, p0, q0, hargs, rfl, rfl, h0, r0⟩ := trodAll_cons hA
  obtain ⟨v1, vs1, d1, ds1, p1, q1, rfl, rfl, rfl, h1, r1⟩ := trodAll_cons r0
  obtain ⟨v2, vs2, d2, ds2, p2, q2, rfl, rfl, rfl, h2, r2⟩ := trodAll_cons r1
  obtain ⟨rfl, rfl, rfl⟩ := trodAll_nil r2
  obtain rfl : args = #[v0, v1, v2] := by cases args; simp_all
  obtain ⟨m0, u1, u2, u3, u4, u5, u6, u7, u8, u9, u10, rfl, hM0, hB0⟩ := open_mod (hval 0 33 v0 rfl rfl) h0 (fun k hk => by
    have h := List.all_eq_true.1 hsz k (DataW.weights_mem_each (j := 0) (t := 33) rfl rfl k hk)
    simpa using h)
  obtain ⟨x1, a1, b1, rfl, ha1, hb1, hl1⟩ := open_ftype (hval 1 36 v1 rfl rfl) h1 (fun k hk => by
    have h := List.all_eq_true.1 hsz k (DataW.weights_mem_each (j := 1) (t := 36) rfl rfl k hk)
    simpa using h)
  obtain ⟨x2, a2, b2, rfl, ha2, hb2, hl2, hbe2⟩ := open_code (hval 2 40 v2 rfl rfl) h2 (fun k hk => by
    have h := List.all_eq_true.1 hsz k (DataW.weights_mem_each (j := 2) (t := 40) rfl rfl k hk)
    simpa using h)
  refine (bodyBlock_any m0 u1 u2 u3 u4 u5 u6 u7 u8 u9 u10 x1 a1 b1 x2 a2 b2 _ hM0 hB0 ha1 hb1 ha2 hb2 hl1.1 hl1.2 hl2 hbe2.1 hbe2.2).mono fun e W' ⟨he, hb⟩ => ?_
  subst he
  exact ⟨_, rfl, law_post (P := Try.prog) (f := Try.f4) (s := Rows.bodyBlockSpec) laid (by kernel_rfl) rfl rfl und4 hW' rfl hb⟩
theorem overBodyBlock : Rows.bodyBlockRow.holds Try.pinned (OpenSpec.ofChange Rows.bodyBlockSpec) :=
  OpenClaim.holds_of_wide 4 Try.f4 rfl rfl rfl rfl rfl rfl rfl ⟨rfl, rfl, rfl, rfl, rfl⟩ rfl rfl rfl rfl rfl (by kernel_rfl) Try.func4 (by kernel_rfl)
    (of_decide_eq_true (by kernel_rfl)) (by unfold Func.isWrapper; first | (rw [if_pos (by decide +kernel)]; kernel_rfl) | (rw [if_neg (by decide +kernel)]; exact ⟨rfl, rfl⟩))
    (fun os started H enc _ => liftedBodyBlock os started H enc)
theorem bodyBlock_holds : Rows.BodyBlockSaid := overBodyBlock
#print axioms bodyBlock_holds
end Go.Proofs.Ytakbehoglgebmaa
