/-
  Layer 10's program: an instruction's method: which one it is, and that it does what the chapter asks. (gen/body/disp.py)
-/
import Derived.Test.YtakbehoglgebmaaQ23
import Derived.Test.YtakbehoglgebmaaQ32
import Derived.Test.YtakbehoglgebmaaQ33
import Derived.Test.YtakbehoglgebmaaQ20
namespace Bo
theorem step_same {o o' : List Bool} {op : Nat} (h : Ins.step o op = some o') (h1 : ¬ (op = 2 ∨ op = 3 ∨ op = 4)) (h2 : op ≠ 5) (h3 : op ≠ 11) : o' = o := (step_len h).2.2.2 h1 h2 h3
theorem step_block {o o' : List Bool} {op : Nat} (h : Ins.step o op = some o') (h1 : op = 2 ∨ op = 3 ∨ op = 4) : o' = o ++ [decide (op = 4)] := by
  rcases h1 with rfl | rfl | rfl <;> (unfold Ins.step at h; simp at h; rw [← h]; rfl)
theorem step_else {o o' : List Bool} (h : Ins.step o 5 = some o') : ∃ i f, o = i ++ [f] ∧ o' = i ++ [false] := by
  unfold Ins.step at h
  simp only [show ¬ (5 = 2 ∨ 5 = 3) by decide, show ¬ (5 = 4) by decide, if_false, if_true] at h
  split at h
  · next hg =>
    injection h with h
    subst h
    rcases List.eq_nil_or_concat o with e | ⟨i, f, e⟩
    · subst e; simp at hg
    · have e' : o = i ++ [f] := by simpa using e
      subst e'
      exact ⟨i, f, rfl, by simp⟩
  · cases h
theorem step_end {o o' : List Bool} (h : Ins.step o 11 = some o') : ∃ f, o = o' ++ [f] ∧ isIf o = f := by
  unfold Ins.step at h
  simp only [show ¬ (11 = 2 ∨ 11 = 3) by decide, show ¬ (11 = 4) by decide, show ¬ (11 = 5) by decide, if_false, if_true] at h
  split at h
  · cases h
  · next hg =>
    injection h with h
    subst h
    rcases List.eq_nil_or_concat o with e | ⟨i, f, e⟩
    · exact absurd e hg
    · have e' : o = i ++ [f] := by simpa using e
      subst e'
      exact ⟨f, by simp, by unfold isIf; simp⟩
theorem one_memo {E : Env} {b : Bool} {x : Ins.I} {s : Ty.T} (h0 : ¬ x.op = 0) (h2 : ¬ x.op = 2) (h3 : ¬ x.op = 3) (h4 : ¬ x.op = 4) (h5 : ¬ x.op = 5) (h11 : ¬ x.op = 11) (h12 : ¬ x.op = 12) (h13 : ¬ x.op = 13) (h14 : ¬ x.op = 14) (h15 : ¬ x.op = 15) (h16 : ¬ x.op = 16) (h17 : ¬ x.op = 17) (h26 : ¬ x.op = 26) (h27 : ¬ x.op = 27) (h32 : ¬ x.op = 32) (h33 : ¬ x.op = 33) (h34 : ¬ x.op = 34) (h35 : ¬ x.op = 35) (h36 : ¬ x.op = 36) (h63 : ¬ x.op = 63) (h64 : ¬ x.op = 64) : one E b x s = memo E x s := by
  unfold one
  rw [if_neg (by omega), if_neg (by omega), if_neg (by omega)]
  unfold flow
  rw [if_neg (by omega), if_neg (by omega), if_neg (by omega), if_neg (by omega), if_neg (by omega), if_neg (by omega), if_neg (by omega)]
  unfold vari
  rw [if_neg (by omega), if_neg (by omega), if_neg (by omega), if_neg (by omega), if_neg (by omega)]
end Bo
namespace Go.Proofs.Ytakbehoglgebmaa
open Go.RowKit Ins Bin Sp
/-- An opcode's method is k: it is told, and does what the chapter asks. -/
def Disp (op k : Nat) : Prop :=
  (∀ (a : Array Value) (w : World), (callFunc k a).run Try.prog w = .ok (.enter k a) w) ∧
  (∀ (R : Nat) (w : World), Calls Try.prog 28 #[.pointer (some ⟨R, 0, none⟩), .int .u8 (op : Int)] w fun e w' => e = .returned (.func (.func k) #[.pointer (some ⟨R, 0, none⟩)] #[]) ∧ w = w') ∧
  ∀ (C : Ctx) (R P n : Nat) (w : World) (G : Nat → Prop) (s : Ty.T) (o o' : List Bool) (a b : Nat) (c : Int) (A4 : Option Addr) (c4 : Nat) (l : List Nat), C.Good → Wk C R P w G s o → s.sm n → n ≤ 400000000 → (∀ k l, s.labelA k = some l → l.length ≤ 1000000) → o.length ≤ 100000 → a < 4294967296 → (∀ n ∈ l, n < 4294967296) → HasU C.w0 (· < C.w0.heap.size) A4 l → l.length ≤ 1000000000 → Ins.step o op = some o' →
    Calls Try.prog k #[.pointer (some ⟨R, 0, none⟩), .agg #[.int .u8 (op : Int), .int .u32 (a : Int), .int .u32 (b : Int), .int .i64 c, .slice A4 l.length c4]] w (WPost C R P G o' w (Bo.one C.env (Bo.isIf o) ⟨op, a, b, c, l⟩ s))
set_option maxRecDepth 100000 in
theorem disp2 : Disp 2 37 := by
  refine ⟨fun a w => by kernel_rfl, fun R w => asks2_any R w, ?_⟩
  intro C R P n w G s o o' a b c A4 c4 l hC h hs hn hlab ho ha hlw hU hl5 hst
  obtain rfl := Bo.step_block hst (by decide)
  exact bblock_any h hs hn 2 a b c A4 l.length c4 ho
set_option maxRecDepth 100000 in
theorem disp3 : Disp 3 37 := by
  refine ⟨fun a w => by kernel_rfl, fun R w => asks3_any R w, ?_⟩
  intro C R P n w G s o o' a b c A4 c4 l hC h hs hn hlab ho ha hlw hU hl5 hst
  obtain rfl := Bo.step_block hst (by decide)
  exact bblock_any h hs hn 3 a b c A4 l.length c4 ho
set_option maxRecDepth 100000 in
theorem disp4 : Disp 4 37 := by
  refine ⟨fun a w => by kernel_rfl, fun R w => asks4_any R w, ?_⟩
  intro C R P n w G s o o' a b c A4 c4 l hC h hs hn hlab ho ha hlw hU hl5 hst
  obtain rfl := Bo.step_block hst (by decide)
  exact bblock_any h hs hn 4 a b c A4 l.length c4 ho
set_option maxRecDepth 100000 in
theorem disp5 : Disp 5 38 := by
  refine ⟨fun a w => by kernel_rfl, fun R w => asks5_any R w, ?_⟩
  intro C R P n w G s o o' a b c A4 c4 l hC h hs hn hlab ho ha hlw hU hl5 hst
  obtain ⟨i, f, hi, rfl⟩ := Bo.step_else hst
  exact bother_any h hs hn 5 a b c A4 l.length c4 i f hi
set_option maxRecDepth 100000 in
theorem disp11 : Disp 11 39 := by
  refine ⟨fun a w => by kernel_rfl, fun R w => asks11_any R w, ?_⟩
  intro C R P n w G s o o' a b c A4 c4 l hC h hs hn hlab ho ha hlw hU hl5 hst
  obtain ⟨f, hi, hf⟩ := Bo.step_end hst
  rw [hf]
  exact bend_any h hs hn 11 a b c A4 l.length c4 o' f hi
set_option maxRecDepth 100000 in
theorem disp12 : Disp 12 40 := by
  refine ⟨fun a w => by kernel_rfl, fun R w => asks12_any R w, ?_⟩
  intro C R P n w G s o o' a b c A4 c4 l hC h hs hn hlab ho ha hlw hU hl5 hst
  obtain rfl := Bo.step_same hst (by decide) (by decide) (by decide)
  exact bbr_any h hs hn 12 a b c A4 l.length c4 ha
set_option maxRecDepth 100000 in
theorem disp13 : Disp 13 41 := by
  refine ⟨fun a w => by kernel_rfl, fun R w => asks13_any R w, ?_⟩
  intro C R P n w G s o o' a b c A4 c4 l hC h hs hn hlab ho ha hlw hU hl5 hst
  obtain rfl := Bo.step_same hst (by decide) (by decide) (by decide)
  exact bbrIf_any h hs hn 13 a b c A4 l.length c4 ha
set_option maxRecDepth 100000 in
theorem disp14 : Disp 14 42 := by
  refine ⟨fun a w => by kernel_rfl, fun R w => asks14_any R w, ?_⟩
  intro C R P n w G s o o' a b c A4 c4 l hC h hs hn hlab ho ha hlw hU hl5 hst
  obtain rfl := Bo.step_same hst (by decide) (by decide) (by decide)
  exact bbrTable_any h hs hn 14 a b c A4 l.length c4 ha l rfl hlw hU hlab hl5
set_option maxRecDepth 100000 in
theorem disp15 : Disp 15 43 := by
  refine ⟨fun a w => by kernel_rfl, fun R w => asks15_any R w, ?_⟩
  intro C R P n w G s o o' a b c A4 c4 l hC h hs hn hlab ho ha hlw hU hl5 hst
  obtain rfl := Bo.step_same hst (by decide) (by decide) (by decide)
  exact bleave_any hC h hs hn 15 a b c A4 l.length c4
set_option maxRecDepth 100000 in
theorem disp0 : Disp 0 44 := by
  refine ⟨fun a w => by kernel_rfl, fun R w => asks0_any R w, ?_⟩
  intro C R P n w G s o o' a b c A4 c4 l hC h hs hn hlab ho ha hlw hU hl5 hst
  obtain rfl := Bo.step_same hst (by decide) (by decide) (by decide)
  exact bunreach_any h hs hn 0 a b c A4 l.length c4
set_option maxRecDepth 100000 in
theorem disp16 : Disp 16 45 := by
  refine ⟨fun a w => by kernel_rfl, fun R w => asks16_any R w, ?_⟩
  intro C R P n w G s o o' a b c A4 c4 l hC h hs hn hlab ho ha hlw hU hl5 hst
  obtain rfl := Bo.step_same hst (by decide) (by decide) (by decide)
  exact bcall_any hC h hs hn 16 a b c A4 l.length c4 ha
set_option maxRecDepth 100000 in
theorem disp17 : Disp 17 46 := by
  refine ⟨fun a w => by kernel_rfl, fun R w => asks17_any R w, ?_⟩
  intro C R P n w G s o o' a b c A4 c4 l hC h hs hn hlab ho ha hlw hU hl5 hst
  obtain rfl := Bo.step_same hst (by decide) (by decide) (by decide)
  exact bcallI_any hC h hs hn 17 a b c A4 l.length c4 ha
set_option maxRecDepth 100000 in
theorem disp26 : Disp 26 47 := by
  refine ⟨fun a w => by kernel_rfl, fun R w => asks26_any R w, ?_⟩
  intro C R P n w G s o o' a b c A4 c4 l hC h hs hn hlab ho ha hlw hU hl5 hst
  obtain rfl := Bo.step_same hst (by decide) (by decide) (by decide)
  exact bdrop_any h hs hn 26 a b c A4 l.length c4
set_option maxRecDepth 100000 in
theorem disp27 : Disp 27 48 := by
  refine ⟨fun a w => by kernel_rfl, fun R w => asks27_any R w, ?_⟩
  intro C R P n w G s o o' a b c A4 c4 l hC h hs hn hlab ho ha hlw hU hl5 hst
  obtain rfl := Bo.step_same hst (by decide) (by decide) (by decide)
  exact bchoose_any h hs hn 27 a b c A4 l.length c4
set_option maxRecDepth 100000 in
theorem disp32 : Disp 32 49 := by
  refine ⟨fun a w => by kernel_rfl, fun R w => asks32_any R w, ?_⟩
  intro C R P n w G s o o' a b c A4 c4 l hC h hs hn hlab ho ha hlw hU hl5 hst
  obtain rfl := Bo.step_same hst (by decide) (by decide) (by decide)
  exact blocl_any hC h hs hn 32 a b c A4 l.length c4 ha
set_option maxRecDepth 100000 in
theorem disp33 : Disp 33 49 := by
  refine ⟨fun a w => by kernel_rfl, fun R w => asks33_any R w, ?_⟩
  intro C R P n w G s o o' a b c A4 c4 l hC h hs hn hlab ho ha hlw hU hl5 hst
  obtain rfl := Bo.step_same hst (by decide) (by decide) (by decide)
  exact blocl_any hC h hs hn 33 a b c A4 l.length c4 ha
set_option maxRecDepth 100000 in
theorem disp34 : Disp 34 49 := by
  refine ⟨fun a w => by kernel_rfl, fun R w => asks34_any R w, ?_⟩
  intro C R P n w G s o o' a b c A4 c4 l hC h hs hn hlab ho ha hlw hU hl5 hst
  obtain rfl := Bo.step_same hst (by decide) (by decide) (by decide)
  exact blocl_any hC h hs hn 34 a b c A4 l.length c4 ha
set_option maxRecDepth 100000 in
theorem disp35 : Disp 35 50 := by
  refine ⟨fun a w => by kernel_rfl, fun R w => asks35_any R w, ?_⟩
  intro C R P n w G s o o' a b c A4 c4 l hC h hs hn hlab ho ha hlw hU hl5 hst
  obtain rfl := Bo.step_same hst (by decide) (by decide) (by decide)
  exact bgget_any hC h hs hn 35 a b c A4 l.length c4 ha
set_option maxRecDepth 100000 in
theorem disp36 : Disp 36 51 := by
  refine ⟨fun a w => by kernel_rfl, fun R w => asks36_any R w, ?_⟩
  intro C R P n w G s o o' a b c A4 c4 l hC h hs hn hlab ho ha hlw hU hl5 hst
  obtain rfl := Bo.step_same hst (by decide) (by decide) (by decide)
  exact bgset_any hC h hs hn 36 a b c A4 l.length c4 ha
set_option maxRecDepth 100000 in
theorem disp63 : Disp 63 52 := by
  refine ⟨fun a w => by kernel_rfl, fun R w => asks63_any R w, ?_⟩
  intro C R P n w G s o o' a b c A4 c4 l hC h hs hn hlab ho ha hlw hU hl5 hst
  obtain rfl := Bo.step_same hst (by decide) (by decide) (by decide)
  exact bpages_any hC h hs hn 63 a b c A4 l.length c4
set_option maxRecDepth 100000 in
theorem disp64 : Disp 64 52 := by
  refine ⟨fun a w => by kernel_rfl, fun R w => asks64_any R w, ?_⟩
  intro C R P n w G s o o' a b c A4 c4 l hC h hs hn hlab ho ha hlw hU hl5 hst
  obtain rfl := Bo.step_same hst (by decide) (by decide) (by decide)
  exact bpages_any hC h hs hn 64 a b c A4 l.length c4
theorem dispAcc (op : Nat) (h0 : ¬ op = 0) (h2 : ¬ op = 2) (h3 : ¬ op = 3) (h4 : ¬ op = 4) (h5 : ¬ op = 5) (h11 : ¬ op = 11) (h12 : ¬ op = 12) (h13 : ¬ op = 13) (h14 : ¬ op = 14) (h15 : ¬ op = 15) (h16 : ¬ op = 16) (h17 : ¬ op = 17) (h26 : ¬ op = 26) (h27 : ¬ op = 27) (h32 : ¬ op = 32) (h33 : ¬ op = 33) (h34 : ¬ op = 34) (h35 : ¬ op = 35) (h36 : ¬ op = 36) (h63 : ¬ op = 63) (h64 : ¬ op = 64) (hw : 0 < Opc.width op) : Disp op 54 := by
  refine ⟨fun a w => by kernel_rfl, fun R w => asksAcc_any R op h0 h2 h3 h4 h5 h11 h12 h13 h14 h15 h16 h17 h26 h27 h32 h33 h34 h35 h36 h63 h64 hw w, ?_⟩
  intro C R P n w G s o o' a b c A4 c4 l hC h hs hn hlab ho ha hlw hU hl5 hst
  obtain rfl := Bo.step_same hst (by omega) h5 h11
  have e : Bo.one C.env (Bo.isIf o') ⟨op, a, b, c, l⟩ s = Bo.access C.env op a s := by
    rw [Bo.one_memo h0 h2 h3 h4 h5 h11 h12 h13 h14 h15 h16 h17 h26 h27 h32 h33 h34 h35 h36 h63 h64]
    unfold Bo.memo
    rw [if_neg (by simp only; omega), if_pos hw]
  rw [e]
  exact baccess_any hC h hs hn op a b c A4 l.length c4 hw
theorem dispPln (op : Nat) (h0 : ¬ op = 0) (h2 : ¬ op = 2) (h3 : ¬ op = 3) (h4 : ¬ op = 4) (h5 : ¬ op = 5) (h11 : ¬ op = 11) (h12 : ¬ op = 12) (h13 : ¬ op = 13) (h14 : ¬ op = 14) (h15 : ¬ op = 15) (h16 : ¬ op = 16) (h17 : ¬ op = 17) (h26 : ¬ op = 26) (h27 : ¬ op = 27) (h32 : ¬ op = 32) (h33 : ¬ op = 33) (h34 : ¬ op = 34) (h35 : ¬ op = 35) (h36 : ¬ op = 36) (h63 : ¬ op = 63) (h64 : ¬ op = 64) (hw : ¬ 0 < Opc.width op) : Disp op 55 := by
  refine ⟨fun a w => by kernel_rfl, fun R w => asksPln_any R op h0 h2 h3 h4 h5 h11 h12 h13 h14 h15 h16 h17 h26 h27 h32 h33 h34 h35 h36 h63 h64 hw w, ?_⟩
  intro C R P n w G s o o' a b c A4 c4 l hC h hs hn hlab ho ha hlw hU hl5 hst
  obtain rfl := Bo.step_same hst (by omega) h5 h11
  have e : Bo.one C.env (Bo.isIf o') ⟨op, a, b, c, l⟩ s = Bo.plain op s := by
    rw [Bo.one_memo h0 h2 h3 h4 h5 h11 h12 h13 h14 h15 h16 h17 h26 h27 h32 h33 h34 h35 h36 h63 h64]
    unfold Bo.memo
    rw [if_neg (by simp only; omega), if_neg hw]
  rw [e]
  exact bplain_any h hs hn op a b c A4 l.length c4
theorem disp_any (op : Nat) : ∃ k, Disp op k := by
  by_cases h0 : op = 0
  · subst h0; exact ⟨_, disp0⟩
  by_cases h2 : op = 2
  · subst h2; exact ⟨_, disp2⟩
  by_cases h3 : op = 3
  · subst h3; exact ⟨_, disp3⟩
  by_cases h4 : op = 4
  · subst h4; exact ⟨_, disp4⟩
  by_cases h5 : op = 5
  · subst h5; exact ⟨_, disp5⟩
  by_cases h11 : op = 11
  · subst h11; exact ⟨_, disp11⟩
  by_cases h12 : op = 12
  · subst h12; exact ⟨_, disp12⟩
  by_cases h13 : op = 13
  · subst h13; exact ⟨_, disp13⟩
  by_cases h14 : op = 14
  · subst h14; exact ⟨_, disp14⟩
  by_cases h15 : op = 15
  · subst h15; exact ⟨_, disp15⟩
  by_cases h16 : op = 16
  · subst h16; exact ⟨_, disp16⟩
  by_cases h17 : op = 17
  · subst h17; exact ⟨_, disp17⟩
  by_cases h26 : op = 26
  · subst h26; exact ⟨_, disp26⟩
  by_cases h27 : op = 27
  · subst h27; exact ⟨_, disp27⟩
  by_cases h32 : op = 32
  · subst h32; exact ⟨_, disp32⟩
  by_cases h33 : op = 33
  · subst h33; exact ⟨_, disp33⟩
  by_cases h34 : op = 34
  · subst h34; exact ⟨_, disp34⟩
  by_cases h35 : op = 35
  · subst h35; exact ⟨_, disp35⟩
  by_cases h36 : op = 36
  · subst h36; exact ⟨_, disp36⟩
  by_cases h63 : op = 63
  · subst h63; exact ⟨_, disp63⟩
  by_cases h64 : op = 64
  · subst h64; exact ⟨_, disp64⟩
  by_cases hw : 0 < Opc.width op
  · exact ⟨_, dispAcc op h0 h2 h3 h4 h5 h11 h12 h13 h14 h15 h16 h17 h26 h27 h32 h33 h34 h35 h36 h63 h64 hw⟩
  · exact ⟨_, dispPln op h0 h2 h3 h4 h5 h11 h12 h13 h14 h15 h16 h17 h26 h27 h32 h33 h34 h35 h36 h63 h64 hw⟩
end Go.Proofs.Ytakbehoglgebmaa
/-
  Layer 10's plain mathematics (no program): which errors there are; a body step by step.
-/
namespace Bo
open Ty
def eNum (m : Nat) : Prop := m = 80 ∨ m = 100 ∨ m = 101
theorem e_turned {s : T} {a b : List UInt8} {m : Nat} (h : turned s a b = .error m) : eNum m := by
  unfold turned at h
  split at h
  · cases h
  · injection h with h; subst h; exact .inr (.inl rfl)
theorem e_goes {s : T} {a : List UInt8} {m : Nat} (h : goes s a = .error m) : eNum m := by
  unfold goes at h
  split at h
  · cases h
  · injection h with h; subst h; exact .inr (.inl rfl)
section
variable {E : Env} {x : Ins.I} {s : T} {m : Nat}
theorem e_memo (h : memo E x s = .error m) : eNum m := by
  unfold memo at h
  split at h
  · unfold pages at h; split at h
    · exact e_turned h
    · injection h with h; subst h; exact .inl rfl
  · split at h
    · unfold access at h; split at h
      · split at h
        · injection h with h; subst h; exact .inr (.inl rfl)
        · exact e_turned h
      · injection h with h; subst h; exact .inl rfl
    · exact e_turned h
theorem e_vari (h : vari E x s = .error m) : eNum m := by
  unfold vari at h
  split at h
  · unfold drop at h; split at h
    · cases h
    · injection h with h; subst h; exact .inr (.inl rfl)
  · split at h
    · unfold choose at h; split at h
      · split at h
        · cases h
        · injection h with h; subst h; exact .inr (.inl rfl)
      · injection h with h; subst h; exact .inr (.inl rfl)
    · split at h
      · unfold locl at h; split at h
        · injection h with h; subst h; exact .inl rfl
        · split at h
          · exact e_turned h
          · split at h
            · exact e_turned h
            · exact e_turned h
      · split at h
        · unfold gget at h; split at h
          · injection h with h; subst h; exact .inl rfl
          · exact e_turned h
        · split at h
          · unfold gset at h; split at h
            · injection h with h; subst h; exact .inl rfl
            · split at h
              · exact e_turned h
              · injection h with h; subst h; exact .inr (.inl rfl)
          · exact e_memo h
theorem e_flow (h : flow E x s = .error m) : eNum m := by
  unfold flow at h
  split at h
  · unfold br at h; split at h
    · injection h with h; subst h; exact .inr (.inr rfl)
    · exact e_goes h
  · split at h
    · unfold brIf at h; split at h
      · injection h with h; subst h; exact .inr (.inr rfl)
      · split at h
        · exact e_turned h
        · injection h with h; subst h; exact .inr (.inl rfl)
    · split at h
      · unfold brTable at h; split at h
        · injection h with h; subst h; exact .inr (.inr rfl)
        · split at h
          · split at h
            · exact e_goes h
            · injection h with h; subst h; exact .inr (.inl rfl)
          · injection h with h; subst h; exact .inr (.inr rfl)
      · split at h
        · exact e_goes h
        · split at h
          · exact e_goes h
          · split at h
            · unfold call at h; split at h
              · injection h with h; subst h; exact .inl rfl
              · exact e_turned h
            · split at h
              · unfold callI at h; split at h
                · injection h with h; subst h; exact .inl rfl
                · split at h
                  · split at h
                    · exact e_turned h
                    · injection h with h; subst h; exact .inr (.inl rfl)
                  · injection h with h; subst h; exact .inl rfl
              · exact e_vari h
theorem e_one {b : Bool} (h : one E b x s = .error m) : eNum m := by
  unfold one at h
  split at h
  · unfold block at h
    split at h
    · split at h
      · cases h
      · injection h with h; subst h; exact .inr (.inl rfl)
    · cases h
  · split at h
    · unfold other at h
      split at h
      · injection h with h; subst h; exact .inr (.inl rfl)
      · cases h
    · split at h
      · unfold fin at h
        split at h
        · injection h with h; subst h; exact .inr (.inl rfl)
        · split at h
          · injection h with h; subst h; exact .inr (.inl rfl)
          · cases h
      · exact e_flow h
end
theorem close_most {s : T} {e : List UInt8} (h : s.closeA = some e) : s.close.most = s.most := by
  obtain ⟨i, f, n, _, _, _, _, hc⟩ := closeA_some h
  rw [hc]
theorem run_at {E : Env} {xs : List Ins.I} {j : Nat} {x : Ins.I} {o : List Bool} {s : T} (hx : xs[j]? = some x) : run E o (xs.drop j) s = match one E (isIf o) x s with
    | .error e => .error e
    | .ok s' => match Ins.step o x.op with
      | none => .error 0
      | some o' => run E o' (xs.drop (j + 1)) s' := by
  obtain ⟨hj, e⟩ := List.getElem?_eq_some_iff.1 hx
  rw [List.drop_eq_getElem_cons hj, e, run]
  rfl
theorem sz_new {res : List UInt8} (h : res.length ≤ 4000) : Sz 4000 (4000 * (0 + 1)) (T.new res) :=
  ⟨by simp [T.new, T.op, T.start], by simp [T.new, T.op, T.start], by simp [T.new, T.op, T.start], fun f hf => by
    simp [T.new, T.op, T.start] at hf
    subst hf
    exact ⟨h, h⟩⟩
end Bo
