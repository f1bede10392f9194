/-
  The reader's instruction: by its form what stands behind its opcode, in a struct of the call's own.
-/
import Derived.Test.YthkglmkpnhhboaaGreatDoorR01
import Derived.Test.YthkglmkpnhhboaaGreatDoorR17
import Derived.Test.YthkglmkpnhhboaaGreatDoorR04
import Derived.Deep.Cut
set_option maxRecDepth 100000
set_option maxHeartbeats 4000000
namespace Go.Proofs.YthkglmkpnhhboaaGreatDoor
open Go.RowKit Ins
def zeroI : Array Value := #[.int .u8 0, .int .u32 0, .int .u32 0, .int .i64 0, .slice none 0 0]
theorem sizeI : (Tryz.prog.info? 95).map (·.size) = some 5 := by kernel_rfl
def aggI : TypeDesc → Bool
 | .struct _ => true
 | .array _ _ => true
 | _ => false
theorem undI : ∃ d, Tryz.prog.underlying 95 = some d ∧ aggI d = true := by
 have h : (Tryz.prog.underlying 95).map aggI = some true := by kernel_rfl
 obtain ⟨d, h1, h2⟩ := Option.map_eq_some_iff.1 h
 exact ⟨d, h1, h2⟩
theorem ai {P : Program} {fn : Func} {p : Tmp} {ty : TypeId} (h : fn.results = #[.cell p ty]) (tmps : Array Value) (w : World) (g : Nat) (t : TypeId) (cs : Array Value) (fr : Nat × Nat) (d : TypeDesc)
  (hp : tmps.getD p undef = .pointer (some ⟨g, 0, none⟩)) (hg : w.heap[g]? = some (.cells cs t fr)) (hu : P.underlying ty = some d) (hd : aggI d = true) (hi : (P.info? ty).map (·.size) = some cs.size) :
  (results fn tmps).run P w = .ok (.agg cs) w := by
 have hp' : tmps[p]?.getD undef = .pointer (some ⟨g, 0, none⟩) := by simpa using hp
 simp [results, h, hp', asAddr, run_loadVar_row w g t ty cs fr d hg hu (by cases d <;> first | rfl | cases hd) hi]
theorem cV (x : I) (A : Option Addr) (c : Nat) : ∀ u ∈ insCells x A c, u.oneCell' = true := by
 intro u hu
 simp only [insCells, List.mem_cons, List.not_mem_nil, or_false] at hu
 rcases hu with rfl | rfl | rfl | rfl | rfl <;> rfl
theorem aH (x : I) (A : Option Addr) (c : Nat) : (insCells x A c).toArray.all (·.oneCell') = true := by
 rw [List.all_toArray]
 exact List.all_eq_true.2 (cV x A c)
theorem cells5 {w : World} {X : Nat} {x0 x1 x2 x3 x4 : Value} {t : TypeId} (h : w.heap[X]? = some (.cells #[x0, x1, x2, x3, x4] t (0, 0))) :
  w.cell? ⟨X, 0, none⟩ = some x0 ∧ w.cell? ⟨X, 1, none⟩ = some x1 ∧ w.cell? ⟨X, 2, none⟩ = some x2 ∧ w.cell? ⟨X, 3, none⟩ = some x3 ∧ w.cell? ⟨X, 4, none⟩ = some x4 := by
 refine ⟨?_, ?_, ?_, ?_, ?_⟩ <;> (rw [cell_of_row w X _ _ t (0, 0) h]; rfl)
theorem frozen5 {w : World} {X : Nat} {cs : Array Value} {t : TypeId} (h : w.heap[X]? = some (.cells cs t (0, 0))) (j : Nat) : w.frozen? ⟨X, j, none⟩ = false := frozen_of_row w X j cs t h
theorem O {T : Nat → Prop} {a w : World} {g : Nat} (h : Mod T a w) (hg : g < a.heap.size → T g) (cs : Array Value) : Mod T a (w.setRow g cs) :=
 h.trans (T' := fun k => k = g) ⟨rfl, rfl, rfl, by simp, fun k _ ht => setRow_other w g k cs ht⟩ (fun k hk e => by subst e; exact hg hk)
theorem instr_0 (R : Nat) (A : Option Addr) (c : Nat) (l : List UInt8) (p : Nat) (w : World) (h : Rd w R A c l p) (op k : Nat) (hop : rdOp (l.drop p) = .ok (op, k)) (hf : Opc.form op = 0) :
  Calls Tryz.prog 155 #[.pointer (some ⟨R, 0, none⟩)] w (bf R A c l p w (rdInstr (l.drop p)) fun w' v x => InsV w' (w.heap.size ≤ ·) v x) := by
 obtain ⟨D, hu, hd⟩ := undI
 have HU := Y hu
 have HD := Y hd
 clear hu hd
 have HLT := Y h.lt
 have HR0 := Y h
 clear h
 have HOP := Y hop
 have HC := Y (fun W (hW : Rd W R A c l p) => aO R A c l p W hW)
 rw [hop] at HC
 have HFM := Y (az (op : Int))
 rw [hf] at HFM
 have HFF := Y hf
 clear hop hf
 go_enter Tryz.func155, Tryz.ntmps155
 go_upto_region 23 with (first | (go_at_call 163; refine (HC.out _ (HR0.out.keep ((Mod.refl (fun _ => False) w).alloc _) (fun _ _ h => h))).mono ?_; rintro e w1 ⟨v, rfl, rfl, hr, hm⟩; have HR := Y hr; have HM := Y hm; clear hr hm) | (go_at_call 156; refine (HFM.out _).mono ?_; rintro e w2 ⟨rfl, rfl⟩))
 have HE : Hid (rdInstr (l.drop p) = .ok ((⟨op, 0, 0, 0, []⟩ : I), k + 0)) := Y (by simp [rdInstr, HOP.out, HFF.out, rdF])
 have HWF := Y (aK HE.out)
 have HXZ : Hid ((w1.alloc (.cells #[.int .u8 (op : Int), .int .u32 0, .int .u32 0, .int .i64 0, .slice none 0 0] 95)).heap[w1.heap.size]? = some (.cells (insCells (⟨op, 0, 0, 0, []⟩ : I) none 0).toArray 95 (0, 0))) := Y ((heap_alloc_new w1 _))
 have HZZ : Hid ((w1.alloc (.cells #[.int .u8 (op : Int), .int .u32 0, .int .u32 0, .int .i64 0, .slice none 0 0] 95)).heap[w.heap.size]? = some (.cells zeroI 95 (0, 0))) := Y (((Below.heap_alloc w1 _ _ (by have := HM.out.size; simp at this; omega)).trans (HM.out.heap (heap_alloc_new w _) (fun e => by have := HLT.out; omega))))
 have HRZ : Hid (Rd (w1.alloc (.cells #[.int .u8 (op : Int), .int .u32 0, .int .u32 0, .int .i64 0, .slice none 0 0] 95)) R A c l (p + k)) := Y (HR.out.keep ((Mod.refl (fun _ => False) w1).alloc _) (fun _ _ h => h))
 have HMZ : Hid (Mod (· = R) w (w1.alloc (.cells #[.int .u8 (op : Int), .int .u32 0, .int .u32 0, .int .i64 0, .slice none 0 0] 95))) := Y ((((Mod.refl (· = R) w).alloc _).trans HM.out (fun _ _ h => h)).alloc _)
 generalize (w1.alloc (.cells #[.int .u8 (op : Int), .int .u32 0, .int .u32 0, .int .i64 0, .slice none 0 0] 95)) = wz at HXZ HZZ HRZ HMZ ⊢
 obtain ⟨z0, z1, z2, z3, z4⟩ := cells5 (show wz.heap[w1.heap.size]? = some (.cells #[.int .u8 (op : Int), .int .u32 (0 : Nat), .int .u32 (0 : Nat), .int .i64 0, .slice none ([] : List Nat).length 0] 95 (0, 0)) from HXZ.out)
 go_wp2_with (refine ac rfl 95 (.tmp 2) (.tmp 58) rfl rfl w.heap.size (insCells (⟨op, 0, 0, 0, []⟩ : I) none 0).toArray rfl rfl 95 zeroI HZZ.out sizeI rfl (aH _ _ _) ?_)
 refine bodyPost_ret (v := insVal (⟨op, 0, 0, 0, []⟩ : I) none 0) (ai (p := 2) (ty := 95) (by kernel_rfl) _ _ w.heap.size 95 _ (0, 0) D rfl (setRow_heap _ _ zeroI _ _ _ HZZ.out) HU.out HD.out sizeI) rfl ?_
 rw [HE.out]
 refine ⟨_, rfl, ⟨none, 0, rfl, HWF.out.2.1, Nat.le_refl _, by unfold maxLen; omega, HasU.nil _ _ _⟩, ?_, ?_⟩
 ·have hq := HRZ.out.keep (O (T := (· = w.heap.size)) (Mod.refl _ wz) (fun _ => rfl) (insCells (⟨op, 0, 0, 0, []⟩ : I) none 0).toArray) (fun g hg e => by have := HLT.out; omega)
  simpa [Nat.add_assoc] using hq
 ·exact O HMZ.out (fun hg => by omega) _
theorem instr_1 (R : Nat) (A : Option Addr) (c : Nat) (l : List UInt8) (p : Nat) (w : World) (h : Rd w R A c l p) (op k : Nat) (hop : rdOp (l.drop p) = .ok (op, k)) (hf : Opc.form op = 1) :
  Calls Tryz.prog 155 #[.pointer (some ⟨R, 0, none⟩)] w (bf R A c l p w (rdInstr (l.drop p)) fun w' v x => InsV w' (w.heap.size ≤ ·) v x) := by
 obtain ⟨D, hu, hd⟩ := undI
 have HU := Y hu
 have HD := Y hd
 clear hu hd
 have HLT := Y h.lt
 have HR0 := Y h
 clear h
 have HOP := Y hop
 have HC := Y (fun W (hW : Rd W R A c l p) => aO R A c l p W hW)
 rw [hop] at HC
 have HFM := Y (az (op : Int))
 rw [hf] at HFM
 have HFF := Y hf
 clear hop hf
 have HC0 := Y (fun W (hW : Rd W R A c l (p + k)) => gK R A c l (p + k) W hW)
 cases hr0 : rdBlock (l.drop (p + k)) with
 | error e0 =>
  simp only [hr0] at HC0
  have HE : Hid (rdInstr (l.drop p) = .error e0) := Y (by simp [rdInstr, HOP.out, HFF.out, rdF, List.drop_drop, hr0])
  clear hr0
  have tok0 : True := trivial
  go_enter Tryz.func155, Tryz.ntmps155
  go_wp2_with (first | (go_at_call 163; refine (HC.out _ (HR0.out.keep ((Mod.refl (fun _ => False) w).alloc _) (fun _ _ h => h))).mono ?_; rintro e w1 ⟨v, rfl, rfl, hr, hm⟩; have HR := Y hr; have HM := Y hm; clear hr hm) | (go_at_call 156; refine (HFM.out _).mono ?_; rintro e w2 ⟨rfl, rfl⟩) | (go_at_call 164; clear tok0; refine (HC0.out _ (HR.out.keep ((Mod.refl (fun _ => False) w1).alloc _) (fun _ _ h => h))).mono ?_; rintro e w3 ⟨rfl, hm0⟩; have HM0 := Y (((((Mod.refl (· = R) w).alloc _).trans HM.out (fun _ _ h => h)).alloc _).trans hm0 (fun _ _ h => h)); clear hm0))
  exact ⟨rfl, by rw [HE.out]; exact ⟨rfl, HM0.out⟩⟩
 | ok q0 =>
  obtain ⟨x0, n0⟩ := q0
  simp only [hr0] at HC0
  have HRR0 := Y hr0
  clear hr0
  have tok0 : True := trivial
  go_enter Tryz.func155, Tryz.ntmps155
  go_upto_region 23 with (first | (go_at_call 163; refine (HC.out _ (HR0.out.keep ((Mod.refl (fun _ => False) w).alloc _) (fun _ _ h => h))).mono ?_; rintro e w1 ⟨v, rfl, rfl, hr, hm⟩; have HR := Y hr; have HM := Y hm; clear hr hm) | (go_at_call 156; refine (HFM.out _).mono ?_; rintro e w2 ⟨rfl, rfl⟩) | (go_at_call 164; clear tok0; refine (HC0.out _ (HR.out.keep ((Mod.refl (fun _ => False) w1).alloc _) (fun _ _ h => h))).mono ?_; rintro e w3 ⟨v, rfl, rfl, hr0, hm0⟩; have HR0 := Y hr0; have HM0 := Y (((((Mod.refl (· = R) w).alloc _).trans HM.out (fun _ _ h => h)).alloc _).trans hm0 (fun _ _ h => h)); have HX0 := Y (hm0.heap (heap_alloc_new w1 _) (fun e => by have q1 := HM.out.size; have q2 := HLT.out; simp at q1; omega)); have HZ0 := Y (hm0.heap ((Below.heap_alloc w1 _ _ (by have := HM.out.size; simp at this; omega)).trans (HM.out.heap (heap_alloc_new w _) (fun e => by have := HLT.out; omega))) (fun e => by have := HLT.out; omega)); obtain ⟨b00, b01, b02, b03, b04⟩ := cells5 HX0.out; have g0 := frozen5 HX0.out 1; have HMN0 := Y hm0; clear hr0 hm0))
  have HE : Hid (rdInstr (l.drop p) = .ok ((⟨op, x0, 0, 0, []⟩ : I), k + (n0))) := Y (by simp [rdInstr, HOP.out, HFF.out, rdF, List.drop_drop, HRR0.out])
  have HWF := Y (aK HE.out)
  have HXZ : Hid ((w3.setCell ⟨w1.heap.size, 1, none⟩ (.int .u32 (x0 : Int))).heap[w1.heap.size]? = some (.cells (insCells (⟨op, x0, 0, 0, []⟩ : I) none 0).toArray 95 (0, 0))) := Y ((heap_setCell_same w3 w1.heap.size 1 _ _ _ HX0.out))
  have HZZ : Hid ((w3.setCell ⟨w1.heap.size, 1, none⟩ (.int .u32 (x0 : Int))).heap[w.heap.size]? = some (.cells zeroI 95 (0, 0))) := Y (((heap_setCell_other w3 ⟨w1.heap.size, 1, none⟩ w.heap.size _ (by have := HM.out.size; simp at this; show ¬ w.heap.size = w1.heap.size; omega)).trans HZ0.out))
  have HRZ : Hid (Rd (w3.setCell ⟨w1.heap.size, 1, none⟩ (.int .u32 (x0 : Int))) R A c l (p + k + n0)) := Y (HR0.out.keep (Mod.setCell (T := (· = w1.heap.size)) (Mod.refl _ w3) (fun _ => rfl) _) (fun k hk e => by have q1 := HM.out.size; have q2 := HLT.out; simp at q1; omega))
  have HMZ : Hid (Mod (· = R) w (w3.setCell ⟨w1.heap.size, 1, none⟩ (.int .u32 (x0 : Int)))) := Y (Mod.setCell (T := (· = R)) HM0.out (fun hk => by have := HM.out.size; simp at this hk; omega) _)
  generalize (w3.setCell ⟨w1.heap.size, 1, none⟩ (.int .u32 (x0 : Int))) = wz at HXZ HZZ HRZ HMZ ⊢
  obtain ⟨z0, z1, z2, z3, z4⟩ := cells5 (show wz.heap[w1.heap.size]? = some (.cells #[.int .u8 (op : Int), .int .u32 (x0 : Nat), .int .u32 (0 : Nat), .int .i64 0, .slice none ([] : List Nat).length 0] 95 (0, 0)) from HXZ.out)
  go_wp2_with (refine ac rfl 95 (.tmp 2) (.tmp 58) rfl rfl w.heap.size (insCells (⟨op, x0, 0, 0, []⟩ : I) none 0).toArray rfl rfl 95 zeroI HZZ.out sizeI rfl (aH _ _ _) ?_)
  refine bodyPost_ret (v := insVal (⟨op, x0, 0, 0, []⟩ : I) none 0) (ai (p := 2) (ty := 95) (by kernel_rfl) _ _ w.heap.size 95 _ (0, 0) D rfl (setRow_heap _ _ zeroI _ _ _ HZZ.out) HU.out HD.out sizeI) rfl ?_
  rw [HE.out]
  refine ⟨_, rfl, ⟨none, 0, rfl, HWF.out.2.1, Nat.le_refl _, by unfold maxLen; omega, HasU.nil _ _ _⟩, ?_, ?_⟩
  ·have hq := HRZ.out.keep (O (T := (· = w.heap.size)) (Mod.refl _ wz) (fun _ => rfl) (insCells (⟨op, x0, 0, 0, []⟩ : I) none 0).toArray) (fun g hg e => by have := HLT.out; omega)
   simpa [Nat.add_assoc] using hq
  ·exact O HMZ.out (fun hg => by omega) _
theorem instr_2 (R : Nat) (A : Option Addr) (c : Nat) (l : List UInt8) (p : Nat) (w : World) (h : Rd w R A c l p) (op k : Nat) (hop : rdOp (l.drop p) = .ok (op, k)) (hf : Opc.form op = 2) :
  Calls Tryz.prog 155 #[.pointer (some ⟨R, 0, none⟩)] w (bf R A c l p w (rdInstr (l.drop p)) fun w' v x => InsV w' (w.heap.size ≤ ·) v x) := by
 obtain ⟨D, hu, hd⟩ := undI
 have HU := Y hu
 have HD := Y hd
 clear hu hd
 have HLT := Y h.lt
 have HR0 := Y h
 clear h
 have HOP := Y hop
 have HC := Y (fun W (hW : Rd W R A c l p) => aO R A c l p W hW)
 rw [hop] at HC
 have HFM := Y (az (op : Int))
 rw [hf] at HFM
 have HFF := Y hf
 clear hop hf
 have HC0 := Y (fun W (hW : Rd W R A c l (p + k)) => bp R A c l (p + k) W hW)
 cases hr0 : rdNum (l.drop (p + k)) with
 | error e0 =>
  simp only [hr0] at HC0
  have HE : Hid (rdInstr (l.drop p) = .error e0) := Y (by simp [rdInstr, HOP.out, HFF.out, rdF, List.drop_drop, hr0])
  clear hr0
  have tok0 : True := trivial
  go_enter Tryz.func155, Tryz.ntmps155
  go_wp2_with (first | (go_at_call 163; refine (HC.out _ (HR0.out.keep ((Mod.refl (fun _ => False) w).alloc _) (fun _ _ h => h))).mono ?_; rintro e w1 ⟨v, rfl, rfl, hr, hm⟩; have HR := Y hr; have HM := Y hm; clear hr hm) | (go_at_call 156; refine (HFM.out _).mono ?_; rintro e w2 ⟨rfl, rfl⟩) | (go_at_call 165; clear tok0; refine (HC0.out _ (HR.out.keep ((Mod.refl (fun _ => False) w1).alloc _) (fun _ _ h => h))).mono ?_; rintro e w3 ⟨rfl, hm0⟩; have HM0 := Y (((((Mod.refl (· = R) w).alloc _).trans HM.out (fun _ _ h => h)).alloc _).trans hm0 (fun _ _ h => h)); clear hm0))
  exact ⟨rfl, by rw [HE.out]; exact ⟨rfl, HM0.out⟩⟩
 | ok q0 =>
  obtain ⟨x0, n0⟩ := q0
  simp only [hr0] at HC0
  have HRR0 := Y hr0
  clear hr0
  have tok0 : True := trivial
  go_enter Tryz.func155, Tryz.ntmps155
  go_upto_region 23 with (first | (go_at_call 163; refine (HC.out _ (HR0.out.keep ((Mod.refl (fun _ => False) w).alloc _) (fun _ _ h => h))).mono ?_; rintro e w1 ⟨v, rfl, rfl, hr, hm⟩; have HR := Y hr; have HM := Y hm; clear hr hm) | (go_at_call 156; refine (HFM.out _).mono ?_; rintro e w2 ⟨rfl, rfl⟩) | (go_at_call 165; clear tok0; refine (HC0.out _ (HR.out.keep ((Mod.refl (fun _ => False) w1).alloc _) (fun _ _ h => h))).mono ?_; rintro e w3 ⟨v, rfl, rfl, hr0, hm0⟩; have HR0 := Y hr0; have HM0 := Y (((((Mod.refl (· = R) w).alloc _).trans HM.out (fun _ _ h => h)).alloc _).trans hm0 (fun _ _ h => h)); have HX0 := Y (hm0.heap (heap_alloc_new w1 _) (fun e => by have q1 := HM.out.size; have q2 := HLT.out; simp at q1; omega)); have HZ0 := Y (hm0.heap ((Below.heap_alloc w1 _ _ (by have := HM.out.size; simp at this; omega)).trans (HM.out.heap (heap_alloc_new w _) (fun e => by have := HLT.out; omega))) (fun e => by have := HLT.out; omega)); obtain ⟨b00, b01, b02, b03, b04⟩ := cells5 HX0.out; have g0 := frozen5 HX0.out 1; have HMN0 := Y hm0; clear hr0 hm0))
  have HE : Hid (rdInstr (l.drop p) = .ok ((⟨op, x0, 0, 0, []⟩ : I), k + (n0))) := Y (by simp [rdInstr, HOP.out, HFF.out, rdF, List.drop_drop, HRR0.out])
  have HWF := Y (aK HE.out)
  have HXZ : Hid ((w3.setCell ⟨w1.heap.size, 1, none⟩ (.int .u32 (x0 : Int))).heap[w1.heap.size]? = some (.cells (insCells (⟨op, x0, 0, 0, []⟩ : I) none 0).toArray 95 (0, 0))) := Y ((heap_setCell_same w3 w1.heap.size 1 _ _ _ HX0.out))
  have HZZ : Hid ((w3.setCell ⟨w1.heap.size, 1, none⟩ (.int .u32 (x0 : Int))).heap[w.heap.size]? = some (.cells zeroI 95 (0, 0))) := Y (((heap_setCell_other w3 ⟨w1.heap.size, 1, none⟩ w.heap.size _ (by have := HM.out.size; simp at this; show ¬ w.heap.size = w1.heap.size; omega)).trans HZ0.out))
  have HRZ : Hid (Rd (w3.setCell ⟨w1.heap.size, 1, none⟩ (.int .u32 (x0 : Int))) R A c l (p + k + n0)) := Y (HR0.out.keep (Mod.setCell (T := (· = w1.heap.size)) (Mod.refl _ w3) (fun _ => rfl) _) (fun k hk e => by have q1 := HM.out.size; have q2 := HLT.out; simp at q1; omega))
  have HMZ : Hid (Mod (· = R) w (w3.setCell ⟨w1.heap.size, 1, none⟩ (.int .u32 (x0 : Int)))) := Y (Mod.setCell (T := (· = R)) HM0.out (fun hk => by have := HM.out.size; simp at this hk; omega) _)
  generalize (w3.setCell ⟨w1.heap.size, 1, none⟩ (.int .u32 (x0 : Int))) = wz at HXZ HZZ HRZ HMZ ⊢
  obtain ⟨z0, z1, z2, z3, z4⟩ := cells5 (show wz.heap[w1.heap.size]? = some (.cells #[.int .u8 (op : Int), .int .u32 (x0 : Nat), .int .u32 (0 : Nat), .int .i64 0, .slice none ([] : List Nat).length 0] 95 (0, 0)) from HXZ.out)
  go_wp2_with (refine ac rfl 95 (.tmp 2) (.tmp 58) rfl rfl w.heap.size (insCells (⟨op, x0, 0, 0, []⟩ : I) none 0).toArray rfl rfl 95 zeroI HZZ.out sizeI rfl (aH _ _ _) ?_)
  refine bodyPost_ret (v := insVal (⟨op, x0, 0, 0, []⟩ : I) none 0) (ai (p := 2) (ty := 95) (by kernel_rfl) _ _ w.heap.size 95 _ (0, 0) D rfl (setRow_heap _ _ zeroI _ _ _ HZZ.out) HU.out HD.out sizeI) rfl ?_
  rw [HE.out]
  refine ⟨_, rfl, ⟨none, 0, rfl, HWF.out.2.1, Nat.le_refl _, by unfold maxLen; omega, HasU.nil _ _ _⟩, ?_, ?_⟩
  ·have hq := HRZ.out.keep (O (T := (· = w.heap.size)) (Mod.refl _ wz) (fun _ => rfl) (insCells (⟨op, x0, 0, 0, []⟩ : I) none 0).toArray) (fun g hg e => by have := HLT.out; omega)
   simpa [Nat.add_assoc] using hq
  ·exact O HMZ.out (fun hg => by omega) _
theorem instr_3 (R : Nat) (A : Option Addr) (c : Nat) (l : List UInt8) (p : Nat) (w : World) (h : Rd w R A c l p) (op k : Nat) (hop : rdOp (l.drop p) = .ok (op, k)) (hf : Opc.form op = 3) :
  Calls Tryz.prog 155 #[.pointer (some ⟨R, 0, none⟩)] w (bf R A c l p w (rdInstr (l.drop p)) fun w' v x => InsV w' (w.heap.size ≤ ·) v x) := by
 obtain ⟨D, hu, hd⟩ := undI
 have HU := Y hu
 have HD := Y hd
 clear hu hd
 have HLT := Y h.lt
 have HR0 := Y h
 clear h
 have HOP := Y hop
 have HC := Y (fun W (hW : Rd W R A c l p) => aO R A c l p W hW)
 rw [hop] at HC
 have HFM := Y (az (op : Int))
 rw [hf] at HFM
 have HFF := Y hf
 clear hop hf
 have HC0 := Y (fun W (hW : Rd W R A c l (p + k)) => labels_any R A c l (p + k) W hW)
 cases hr0 : rdLabels (l.drop (p + k)) with
 | error e0 =>
  simp only [hr0] at HC0
  have HE : Hid (rdInstr (l.drop p) = .error e0) := Y (by simp [rdInstr, HOP.out, HFF.out, rdF, List.drop_drop, hr0])
  clear hr0
  have tok0 : True := trivial
  go_enter Tryz.func155, Tryz.ntmps155
  go_wp2_with (first | (go_at_call 163; refine (HC.out _ (HR0.out.keep ((Mod.refl (fun _ => False) w).alloc _) (fun _ _ h => h))).mono ?_; rintro e w1 ⟨v, rfl, rfl, hr, hm⟩; have HR := Y hr; have HM := Y hm; clear hr hm) | (go_at_call 156; refine (HFM.out _).mono ?_; rintro e w2 ⟨rfl, rfl⟩) | (go_at_call 166; clear tok0; refine (HC0.out _ (HR.out.keep ((Mod.refl (fun _ => False) w1).alloc _) (fun _ _ h => h))).mono ?_; rintro e w3 ⟨rfl, hm0⟩; have HM0 := Y (((((Mod.refl (· = R) w).alloc _).trans HM.out (fun _ _ h => h)).alloc _).trans hm0 (fun _ _ h => h)); clear hm0))
  exact ⟨rfl, by rw [HE.out]; exact ⟨rfl, HM0.out⟩⟩
 | ok q0 =>
  obtain ⟨x0, n0⟩ := q0
  simp only [hr0] at HC0
  have HRR0 := Y hr0
  clear hr0
  have HC1 := Y (fun W (hW : Rd W R A c l (p + k + n0)) => bp R A c l (p + k + n0) W hW)
  cases hr1 : rdNum (l.drop (p + k + n0)) with
  | error e1 =>
   simp only [hr1] at HC1
   have HE : Hid (rdInstr (l.drop p) = .error e1) := Y (by simp [rdInstr, HOP.out, HFF.out, rdF, List.drop_drop, HRR0.out, hr1])
   clear hr1
   have tok0 : True := trivial
   have tok1 : True := trivial
   go_enter Tryz.func155, Tryz.ntmps155
   go_wp2_with (first | (go_at_call 163; refine (HC.out _ (HR0.out.keep ((Mod.refl (fun _ => False) w).alloc _) (fun _ _ h => h))).mono ?_; rintro e w1 ⟨v, rfl, rfl, hr, hm⟩; have HR := Y hr; have HM := Y hm; clear hr hm) | (go_at_call 156; refine (HFM.out _).mono ?_; rintro e w2 ⟨rfl, rfl⟩) | (go_at_call 166; clear tok0; refine (HC0.out _ (HR.out.keep ((Mod.refl (fun _ => False) w1).alloc _) (fun _ _ h => h))).mono ?_; rintro e w3 ⟨v, rfl, ⟨A0, c0, rfl, hl0, hL0, hU0⟩, hr0, hm0⟩; have HR0 := Y hr0; have HM0 := Y (((((Mod.refl (· = R) w).alloc _).trans HM.out (fun _ _ h => h)).alloc _).trans hm0 (fun _ _ h => h)); have HX0 := Y (hm0.heap (heap_alloc_new w1 _) (fun e => by have q1 := HM.out.size; have q2 := HLT.out; simp at q1; omega)); have HZ0 := Y (hm0.heap ((Below.heap_alloc w1 _ _ (by have := HM.out.size; simp at this; omega)).trans (HM.out.heap (heap_alloc_new w _) (fun e => by have := HLT.out; omega))) (fun e => by have := HLT.out; omega)); obtain ⟨b00, b01, b02, b03, b04⟩ := cells5 HX0.out; have HL0 := Y hl0; have HLL0 := Y hL0; have HUU0 := Y hU0; clear hl0 hL0 hU0; have g0 := frozen5 HX0.out 4; have HMN0 := Y hm0; clear hr0 hm0) | (go_at_call 165; clear tok1; refine (HC1.out _ (HR0.out.keep (Mod.setCell (T := (· = w1.heap.size)) (Mod.refl _ w3) (fun _ => rfl) _) (fun k hk e => by have q1 := HM.out.size; have q2 := HLT.out; simp at q1; omega))).mono ?_; rintro e w4 ⟨rfl, hm1⟩; have HM1 := Y ((Mod.setCell (T := (· = R)) HM0.out (fun hk => by have := HM.out.size; simp at this hk; omega) _).trans hm1 (fun _ _ h => h)); clear hm1))
   exact ⟨rfl, by rw [HE.out]; exact ⟨rfl, HM1.out⟩⟩
  | ok q1 =>
   obtain ⟨x1, n1⟩ := q1
   simp only [hr1] at HC1
   have HRR1 := Y hr1
   clear hr1
   have tok0 : True := trivial
   have tok1 : True := trivial
   go_enter Tryz.func155, Tryz.ntmps155
   go_upto_region 23 with (first | (go_at_call 163; refine (HC.out _ (HR0.out.keep ((Mod.refl (fun _ => False) w).alloc _) (fun _ _ h => h))).mono ?_; rintro e w1 ⟨v, rfl, rfl, hr, hm⟩; have HR := Y hr; have HM := Y hm; clear hr hm) | (go_at_call 156; refine (HFM.out _).mono ?_; rintro e w2 ⟨rfl, rfl⟩) | (go_at_call 166; clear tok0; refine (HC0.out _ (HR.out.keep ((Mod.refl (fun _ => False) w1).alloc _) (fun _ _ h => h))).mono ?_; rintro e w3 ⟨v, rfl, ⟨A0, c0, rfl, hl0, hL0, hU0⟩, hr0, hm0⟩; have HR0 := Y hr0; have HM0 := Y (((((Mod.refl (· = R) w).alloc _).trans HM.out (fun _ _ h => h)).alloc _).trans hm0 (fun _ _ h => h)); have HX0 := Y (hm0.heap (heap_alloc_new w1 _) (fun e => by have q1 := HM.out.size; have q2 := HLT.out; simp at q1; omega)); have HZ0 := Y (hm0.heap ((Below.heap_alloc w1 _ _ (by have := HM.out.size; simp at this; omega)).trans (HM.out.heap (heap_alloc_new w _) (fun e => by have := HLT.out; omega))) (fun e => by have := HLT.out; omega)); obtain ⟨b00, b01, b02, b03, b04⟩ := cells5 HX0.out; have HL0 := Y hl0; have HLL0 := Y hL0; have HUU0 := Y hU0; clear hl0 hL0 hU0; have g0 := frozen5 HX0.out 4; have HMN0 := Y hm0; clear hr0 hm0) | (go_at_call 165; clear tok1; refine (HC1.out _ (HR0.out.keep (Mod.setCell (T := (· = w1.heap.size)) (Mod.refl _ w3) (fun _ => rfl) _) (fun k hk e => by have q1 := HM.out.size; have q2 := HLT.out; simp at q1; omega))).mono ?_; rintro e w4 ⟨v, rfl, rfl, hr1, hm1⟩; have HR1 := Y hr1; have HM1 := Y ((Mod.setCell (T := (· = R)) HM0.out (fun hk => by have := HM.out.size; simp at this hk; omega) _).trans hm1 (fun _ _ h => h)); have HX1 := Y (hm1.heap (heap_setCell_same w3 w1.heap.size 4 _ _ _ HX0.out) (fun e => by have q1 := HM.out.size; have q2 := HLT.out; simp at q1; omega)); have HZ1 := Y (hm1.heap ((heap_setCell_other w3 ⟨w1.heap.size, 4, none⟩ w.heap.size _ (by have := HM.out.size; simp at this; show ¬ w.heap.size = w1.heap.size; omega)).trans HZ0.out) (fun e => by have := HLT.out; omega)); obtain ⟨b10, b11, b12, b13, b14⟩ := cells5 HX1.out; have g1 := frozen5 HX1.out 1; have HMN1 := Y hm1; clear hr1 hm1))
   have HE : Hid (rdInstr (l.drop p) = .ok ((⟨op, x1, 0, 0, x0⟩ : I), k + (n0 + n1))) := Y (by simp [rdInstr, HOP.out, HFF.out, rdF, List.drop_drop, HRR0.out, HRR1.out])
   have HWF := Y (aK HE.out)
   have HXZ : Hid ((w4.setCell ⟨w1.heap.size, 1, none⟩ (.int .u32 (x1 : Int))).heap[w1.heap.size]? = some (.cells (insCells (⟨op, x1, 0, 0, x0⟩ : I) A0 c0).toArray 95 (0, 0))) := Y ((heap_setCell_same w4 w1.heap.size 1 _ _ _ HX1.out))
   have HZZ : Hid ((w4.setCell ⟨w1.heap.size, 1, none⟩ (.int .u32 (x1 : Int))).heap[w.heap.size]? = some (.cells zeroI 95 (0, 0))) := Y (((heap_setCell_other w4 ⟨w1.heap.size, 1, none⟩ w.heap.size _ (by have := HM.out.size; simp at this; show ¬ w.heap.size = w1.heap.size; omega)).trans HZ1.out))
   have HRZ : Hid (Rd (w4.setCell ⟨w1.heap.size, 1, none⟩ (.int .u32 (x1 : Int))) R A c l (p + k + n0 + n1)) := Y (HR1.out.keep (Mod.setCell (T := (· = w1.heap.size)) (Mod.refl _ w4) (fun _ => rfl) _) (fun k hk e => by have q1 := HM.out.size; have q2 := HLT.out; simp at q1; omega))
   have HMZ : Hid (Mod (· = R) w (w4.setCell ⟨w1.heap.size, 1, none⟩ (.int .u32 (x1 : Int)))) := Y (Mod.setCell (T := (· = R)) HM1.out (fun hk => by have := HM.out.size; simp at this hk; omega) _)
   have HUZ : Hid (HasU (w4.setCell ⟨w1.heap.size, 1, none⟩ (.int .u32 (x1 : Int))) (w1.heap.size < ·) A0 x0) := Y (by
    have hs := HM.out.size
    have hlt := HLT.out
    simp at hs
    have q0 := HUU0.out.mod (Mod.setCell (T := (· = w1.heap.size)) (Mod.refl _ w3) (fun _ => rfl) (.slice A0 x0.length c0) (p := ⟨w1.heap.size, 4, none⟩)) (fun g _ hg e => by simp at hg; omega)
    have q1 := q0.mod HMN1.out (fun g _ hg e => by simp at hg; omega)
    exact (q1.mod (Mod.setCell (T := (· = w1.heap.size)) (Mod.refl _ w4) (fun _ => rfl) _) (fun g _ hg e => by simp at hg; omega)).more (fun g _ hg => by simp at hg ⊢; omega))
   generalize (w4.setCell ⟨w1.heap.size, 1, none⟩ (.int .u32 (x1 : Int))) = wz at HXZ HZZ HRZ HMZ HUZ ⊢
   obtain ⟨z0, z1, z2, z3, z4⟩ := cells5 (show wz.heap[w1.heap.size]? = some (.cells #[.int .u8 (op : Int), .int .u32 (x1 : Nat), .int .u32 (0 : Nat), .int .i64 0, .slice A0 (x0 : List Nat).length c0] 95 (0, 0)) from HXZ.out)
   go_wp2_with (refine ac rfl 95 (.tmp 2) (.tmp 58) rfl rfl w.heap.size (insCells (⟨op, x1, 0, 0, x0⟩ : I) A0 c0).toArray rfl rfl 95 zeroI HZZ.out sizeI rfl (aH _ _ _) ?_)
   refine bodyPost_ret (v := insVal (⟨op, x1, 0, 0, x0⟩ : I) A0 c0) (ai (p := 2) (ty := 95) (by kernel_rfl) _ _ w.heap.size 95 _ (0, 0) D rfl (setRow_heap _ _ zeroI _ _ _ HZZ.out) HU.out HD.out sizeI) rfl ?_
   rw [HE.out]
   refine ⟨_, rfl, ⟨A0, c0, rfl, HWF.out.2.1, HL0.out, HLL0.out, (HUZ.out.mod (O (T := (· = w.heap.size)) (Mod.refl _ wz) (fun _ => rfl) _) (fun g _ hg e => by have := HM.out.size; simp at this; omega)).more (fun g _ hg => by have := HM.out.size; simp at this; omega)⟩, ?_, ?_⟩
   ·have hq := HRZ.out.keep (O (T := (· = w.heap.size)) (Mod.refl _ wz) (fun _ => rfl) (insCells (⟨op, x1, 0, 0, x0⟩ : I) A0 c0).toArray) (fun g hg e => by have := HLT.out; omega)
    simpa [Nat.add_assoc] using hq
   ·exact O HMZ.out (fun hg => by omega) _
theorem instr_4 (R : Nat) (A : Option Addr) (c : Nat) (l : List UInt8) (p : Nat) (w : World) (h : Rd w R A c l p) (op k : Nat) (hop : rdOp (l.drop p) = .ok (op, k)) (hf : Opc.form op = 4) :
  Calls Tryz.prog 155 #[.pointer (some ⟨R, 0, none⟩)] w (bf R A c l p w (rdInstr (l.drop p)) fun w' v x => InsV w' (w.heap.size ≤ ·) v x) := by
 obtain ⟨D, hu, hd⟩ := undI
 have HU := Y hu
 have HD := Y hd
 clear hu hd
 have HLT := Y h.lt
 have HR0 := Y h
 clear h
 have HOP := Y hop
 have HC := Y (fun W (hW : Rd W R A c l p) => aO R A c l p W hW)
 rw [hop] at HC
 have HFM := Y (az (op : Int))
 rw [hf] at HFM
 have HFF := Y hf
 clear hop hf
 have HC0 := Y (fun W (hW : Rd W R A c l (p + k)) => bp R A c l (p + k) W hW)
 cases hr0 : rdNum (l.drop (p + k)) with
 | error e0 =>
  simp only [hr0] at HC0
  have HE : Hid (rdInstr (l.drop p) = .error e0) := Y (by simp [rdInstr, HOP.out, HFF.out, rdF, List.drop_drop, hr0])
  clear hr0
  have tok0 : True := trivial
  go_enter Tryz.func155, Tryz.ntmps155
  go_wp2_with (first | (go_at_call 163; refine (HC.out _ (HR0.out.keep ((Mod.refl (fun _ => False) w).alloc _) (fun _ _ h => h))).mono ?_; rintro e w1 ⟨v, rfl, rfl, hr, hm⟩; have HR := Y hr; have HM := Y hm; clear hr hm) | (go_at_call 156; refine (HFM.out _).mono ?_; rintro e w2 ⟨rfl, rfl⟩) | (go_at_call 165; clear tok0; refine (HC0.out _ (HR.out.keep ((Mod.refl (fun _ => False) w1).alloc _) (fun _ _ h => h))).mono ?_; rintro e w3 ⟨rfl, hm0⟩; have HM0 := Y (((((Mod.refl (· = R) w).alloc _).trans HM.out (fun _ _ h => h)).alloc _).trans hm0 (fun _ _ h => h)); clear hm0))
  exact ⟨rfl, by rw [HE.out]; exact ⟨rfl, HM0.out⟩⟩
 | ok q0 =>
  obtain ⟨x0, n0⟩ := q0
  simp only [hr0] at HC0
  have HRR0 := Y hr0
  clear hr0
  have tok0 : True := trivial
  go_enter Tryz.func155, Tryz.ntmps155
  go_upto_region 23 with (first | (go_at_call 163; refine (HC.out _ (HR0.out.keep ((Mod.refl (fun _ => False) w).alloc _) (fun _ _ h => h))).mono ?_; rintro e w1 ⟨v, rfl, rfl, hr, hm⟩; have HR := Y hr; have HM := Y hm; clear hr hm) | (go_at_call 156; refine (HFM.out _).mono ?_; rintro e w2 ⟨rfl, rfl⟩) | (go_at_call 165; clear tok0; refine (HC0.out _ (HR.out.keep ((Mod.refl (fun _ => False) w1).alloc _) (fun _ _ h => h))).mono ?_; rintro e w3 ⟨v, rfl, rfl, hr0, hm0⟩; have HR0 := Y hr0; have HM0 := Y (((((Mod.refl (· = R) w).alloc _).trans HM.out (fun _ _ h => h)).alloc _).trans hm0 (fun _ _ h => h)); have HX0 := Y (hm0.heap (heap_alloc_new w1 _) (fun e => by have q1 := HM.out.size; have q2 := HLT.out; simp at q1; omega)); have HZ0 := Y (hm0.heap ((Below.heap_alloc w1 _ _ (by have := HM.out.size; simp at this; omega)).trans (HM.out.heap (heap_alloc_new w _) (fun e => by have := HLT.out; omega))) (fun e => by have := HLT.out; omega)); obtain ⟨b00, b01, b02, b03, b04⟩ := cells5 HX0.out; have g0 := frozen5 HX0.out 1; have HMN0 := Y hm0; clear hr0 hm0))
  have HE : Hid (rdInstr (l.drop p) = .ok ((⟨op, x0, 0, 0, []⟩ : I), k + (n0))) := Y (by simp [rdInstr, HOP.out, HFF.out, rdF, List.drop_drop, HRR0.out])
  have HWF := Y (aK HE.out)
  have HXZ : Hid ((w3.setCell ⟨w1.heap.size, 1, none⟩ (.int .u32 (x0 : Int))).heap[w1.heap.size]? = some (.cells (insCells (⟨op, x0, 0, 0, []⟩ : I) none 0).toArray 95 (0, 0))) := Y ((heap_setCell_same w3 w1.heap.size 1 _ _ _ HX0.out))
  have HZZ : Hid ((w3.setCell ⟨w1.heap.size, 1, none⟩ (.int .u32 (x0 : Int))).heap[w.heap.size]? = some (.cells zeroI 95 (0, 0))) := Y (((heap_setCell_other w3 ⟨w1.heap.size, 1, none⟩ w.heap.size _ (by have := HM.out.size; simp at this; show ¬ w.heap.size = w1.heap.size; omega)).trans HZ0.out))
  have HRZ : Hid (Rd (w3.setCell ⟨w1.heap.size, 1, none⟩ (.int .u32 (x0 : Int))) R A c l (p + k + n0)) := Y (HR0.out.keep (Mod.setCell (T := (· = w1.heap.size)) (Mod.refl _ w3) (fun _ => rfl) _) (fun k hk e => by have q1 := HM.out.size; have q2 := HLT.out; simp at q1; omega))
  have HMZ : Hid (Mod (· = R) w (w3.setCell ⟨w1.heap.size, 1, none⟩ (.int .u32 (x0 : Int)))) := Y (Mod.setCell (T := (· = R)) HM0.out (fun hk => by have := HM.out.size; simp at this hk; omega) _)
  generalize (w3.setCell ⟨w1.heap.size, 1, none⟩ (.int .u32 (x0 : Int))) = wz at HXZ HZZ HRZ HMZ ⊢
  obtain ⟨z0, z1, z2, z3, z4⟩ := cells5 (show wz.heap[w1.heap.size]? = some (.cells #[.int .u8 (op : Int), .int .u32 (x0 : Nat), .int .u32 (0 : Nat), .int .i64 0, .slice none ([] : List Nat).length 0] 95 (0, 0)) from HXZ.out)
  go_wp2_with (refine ac rfl 95 (.tmp 2) (.tmp 58) rfl rfl w.heap.size (insCells (⟨op, x0, 0, 0, []⟩ : I) none 0).toArray rfl rfl 95 zeroI HZZ.out sizeI rfl (aH _ _ _) ?_)
  refine bodyPost_ret (v := insVal (⟨op, x0, 0, 0, []⟩ : I) none 0) (ai (p := 2) (ty := 95) (by kernel_rfl) _ _ w.heap.size 95 _ (0, 0) D rfl (setRow_heap _ _ zeroI _ _ _ HZZ.out) HU.out HD.out sizeI) rfl ?_
  rw [HE.out]
  refine ⟨_, rfl, ⟨none, 0, rfl, HWF.out.2.1, Nat.le_refl _, by unfold maxLen; omega, HasU.nil _ _ _⟩, ?_, ?_⟩
  ·have hq := HRZ.out.keep (O (T := (· = w.heap.size)) (Mod.refl _ wz) (fun _ => rfl) (insCells (⟨op, x0, 0, 0, []⟩ : I) none 0).toArray) (fun g hg e => by have := HLT.out; omega)
   simpa [Nat.add_assoc] using hq
  ·exact O HMZ.out (fun hg => by omega) _
theorem instr_5 (R : Nat) (A : Option Addr) (c : Nat) (l : List UInt8) (p : Nat) (w : World) (h : Rd w R A c l p) (op k : Nat) (hop : rdOp (l.drop p) = .ok (op, k)) (hf : Opc.form op = 5) :
  Calls Tryz.prog 155 #[.pointer (some ⟨R, 0, none⟩)] w (bf R A c l p w (rdInstr (l.drop p)) fun w' v x => InsV w' (w.heap.size ≤ ·) v x) := by
 obtain ⟨D, hu, hd⟩ := undI
 have HU := Y hu
 have HD := Y hd
 clear hu hd
 have HLT := Y h.lt
 have HR0 := Y h
 clear h
 have HOP := Y hop
 have HC := Y (fun W (hW : Rd W R A c l p) => aO R A c l p W hW)
 rw [hop] at HC
 have HFM := Y (az (op : Int))
 rw [hf] at HFM
 have HFF := Y hf
 clear hop hf
 have HC0 := Y (fun W (hW : Rd W R A c l (p + k)) => bp R A c l (p + k) W hW)
 cases hr0 : rdNum (l.drop (p + k)) with
 | error e0 =>
  simp only [hr0] at HC0
  have HE : Hid (rdInstr (l.drop p) = .error e0) := Y (by simp [rdInstr, HOP.out, HFF.out, rdF, List.drop_drop, hr0])
  clear hr0
  have tok0 : True := trivial
  go_enter Tryz.func155, Tryz.ntmps155
  go_wp2_with (first | (go_at_call 163; refine (HC.out _ (HR0.out.keep ((Mod.refl (fun _ => False) w).alloc _) (fun _ _ h => h))).mono ?_; rintro e w1 ⟨v, rfl, rfl, hr, hm⟩; have HR := Y hr; have HM := Y hm; clear hr hm) | (go_at_call 156; refine (HFM.out _).mono ?_; rintro e w2 ⟨rfl, rfl⟩) | (go_at_call 165; clear tok0; refine (HC0.out _ (HR.out.keep ((Mod.refl (fun _ => False) w1).alloc _) (fun _ _ h => h))).mono ?_; rintro e w3 ⟨rfl, hm0⟩; have HM0 := Y (((((Mod.refl (· = R) w).alloc _).trans HM.out (fun _ _ h => h)).alloc _).trans hm0 (fun _ _ h => h)); clear hm0))
  exact ⟨rfl, by rw [HE.out]; exact ⟨rfl, HM0.out⟩⟩
 | ok q0 =>
  obtain ⟨x0, n0⟩ := q0
  simp only [hr0] at HC0
  have HRR0 := Y hr0
  clear hr0
  have HC1 := Y (fun W (hW : Rd W R A c l (p + k + n0)) => zero_any R A c l (p + k + n0) W hW)
  unfold rdZ at HC1
  cases hr1 : rdZero (l.drop (p + k + n0)) with
  | error e1 =>
   simp only [hr1] at HC1
   have HE : Hid (rdInstr (l.drop p) = .error e1) := Y (by simp [rdInstr, HOP.out, HFF.out, rdF, List.drop_drop, HRR0.out, hr1])
   clear hr1
   have tok0 : True := trivial
   have tok1 : True := trivial
   go_enter Tryz.func155, Tryz.ntmps155
   go_wp2_with (first | (go_at_call 163; refine (HC.out _ (HR0.out.keep ((Mod.refl (fun _ => False) w).alloc _) (fun _ _ h => h))).mono ?_; rintro e w1 ⟨v, rfl, rfl, hr, hm⟩; have HR := Y hr; have HM := Y hm; clear hr hm) | (go_at_call 156; refine (HFM.out _).mono ?_; rintro e w2 ⟨rfl, rfl⟩) | (go_at_call 165; clear tok0; refine (HC0.out _ (HR.out.keep ((Mod.refl (fun _ => False) w1).alloc _) (fun _ _ h => h))).mono ?_; rintro e w3 ⟨v, rfl, rfl, hr0, hm0⟩; have HR0 := Y hr0; have HM0 := Y (((((Mod.refl (· = R) w).alloc _).trans HM.out (fun _ _ h => h)).alloc _).trans hm0 (fun _ _ h => h)); have HX0 := Y (hm0.heap (heap_alloc_new w1 _) (fun e => by have q1 := HM.out.size; have q2 := HLT.out; simp at q1; omega)); have HZ0 := Y (hm0.heap ((Below.heap_alloc w1 _ _ (by have := HM.out.size; simp at this; omega)).trans (HM.out.heap (heap_alloc_new w _) (fun e => by have := HLT.out; omega))) (fun e => by have := HLT.out; omega)); obtain ⟨b00, b01, b02, b03, b04⟩ := cells5 HX0.out; have g0 := frozen5 HX0.out 1; have HMN0 := Y hm0; clear hr0 hm0) | (go_at_call 167; clear tok1; refine (HC1.out _ (HR0.out.keep (Mod.setCell (T := (· = w1.heap.size)) (Mod.refl _ w3) (fun _ => rfl) _) (fun k hk e => by have q1 := HM.out.size; have q2 := HLT.out; simp at q1; omega))).mono ?_; rintro e w4 ⟨rfl, hm1⟩; have HM1 := Y ((Mod.setCell (T := (· = R)) HM0.out (fun hk => by have := HM.out.size; simp at this hk; omega) _).trans hm1 (fun _ _ h => h)); clear hm1))
   exact ⟨rfl, by rw [HE.out]; exact ⟨rfl, HM1.out⟩⟩
  | ok n1 =>
   simp only [hr1] at HC1
   have HRR1 := Y hr1
   clear hr1
   have tok0 : True := trivial
   have tok1 : True := trivial
   go_enter Tryz.func155, Tryz.ntmps155
   go_upto_region 23 with (first | (go_at_call 163; refine (HC.out _ (HR0.out.keep ((Mod.refl (fun _ => False) w).alloc _) (fun _ _ h => h))).mono ?_; rintro e w1 ⟨v, rfl, rfl, hr, hm⟩; have HR := Y hr; have HM := Y hm; clear hr hm) | (go_at_call 156; refine (HFM.out _).mono ?_; rintro e w2 ⟨rfl, rfl⟩) | (go_at_call 165; clear tok0; refine (HC0.out _ (HR.out.keep ((Mod.refl (fun _ => False) w1).alloc _) (fun _ _ h => h))).mono ?_; rintro e w3 ⟨v, rfl, rfl, hr0, hm0⟩; have HR0 := Y hr0; have HM0 := Y (((((Mod.refl (· = R) w).alloc _).trans HM.out (fun _ _ h => h)).alloc _).trans hm0 (fun _ _ h => h)); have HX0 := Y (hm0.heap (heap_alloc_new w1 _) (fun e => by have q1 := HM.out.size; have q2 := HLT.out; simp at q1; omega)); have HZ0 := Y (hm0.heap ((Below.heap_alloc w1 _ _ (by have := HM.out.size; simp at this; omega)).trans (HM.out.heap (heap_alloc_new w _) (fun e => by have := HLT.out; omega))) (fun e => by have := HLT.out; omega)); obtain ⟨b00, b01, b02, b03, b04⟩ := cells5 HX0.out; have g0 := frozen5 HX0.out 1; have HMN0 := Y hm0; clear hr0 hm0) | (go_at_call 167; clear tok1; refine (HC1.out _ (HR0.out.keep (Mod.setCell (T := (· = w1.heap.size)) (Mod.refl _ w3) (fun _ => rfl) _) (fun k hk e => by have q1 := HM.out.size; have q2 := HLT.out; simp at q1; omega))).mono ?_; rintro e w4 ⟨v, rfl, rfl, hr1, hm1⟩; have HR1 := Y hr1; have HM1 := Y ((Mod.setCell (T := (· = R)) HM0.out (fun hk => by have := HM.out.size; simp at this hk; omega) _).trans hm1 (fun _ _ h => h)); have HX1 := Y (hm1.heap (heap_setCell_same w3 w1.heap.size 1 _ _ _ HX0.out) (fun e => by have q1 := HM.out.size; have q2 := HLT.out; simp at q1; omega)); have HZ1 := Y (hm1.heap ((heap_setCell_other w3 ⟨w1.heap.size, 1, none⟩ w.heap.size _ (by have := HM.out.size; simp at this; show ¬ w.heap.size = w1.heap.size; omega)).trans HZ0.out) (fun e => by have := HLT.out; omega)); obtain ⟨b10, b11, b12, b13, b14⟩ := cells5 HX1.out; have HMN1 := Y hm1; clear hr1 hm1))
   have HE : Hid (rdInstr (l.drop p) = .ok ((⟨op, x0, 0, 0, []⟩ : I), k + (n0 + n1))) := Y (by simp [rdInstr, HOP.out, HFF.out, rdF, List.drop_drop, HRR0.out, HRR1.out])
   have HWF := Y (aK HE.out)
   have HXZ : Hid (w4.heap[w1.heap.size]? = some (.cells (insCells (⟨op, x0, 0, 0, []⟩ : I) none 0).toArray 95 (0, 0))) := Y (HX1.out)
   have HZZ : Hid (w4.heap[w.heap.size]? = some (.cells zeroI 95 (0, 0))) := Y (HZ1.out)
   have HRZ : Hid (Rd w4 R A c l (p + k + n0 + n1)) := Y HR1.out
   have HMZ : Hid (Mod (· = R) w w4) := Y HM1.out
   generalize w4 = wz at HXZ HZZ HRZ HMZ ⊢
   obtain ⟨z0, z1, z2, z3, z4⟩ := cells5 (show wz.heap[w1.heap.size]? = some (.cells #[.int .u8 (op : Int), .int .u32 (x0 : Nat), .int .u32 (0 : Nat), .int .i64 0, .slice none ([] : List Nat).length 0] 95 (0, 0)) from HXZ.out)
   go_wp2_with (refine ac rfl 95 (.tmp 2) (.tmp 58) rfl rfl w.heap.size (insCells (⟨op, x0, 0, 0, []⟩ : I) none 0).toArray rfl rfl 95 zeroI HZZ.out sizeI rfl (aH _ _ _) ?_)
   refine bodyPost_ret (v := insVal (⟨op, x0, 0, 0, []⟩ : I) none 0) (ai (p := 2) (ty := 95) (by kernel_rfl) _ _ w.heap.size 95 _ (0, 0) D rfl (setRow_heap _ _ zeroI _ _ _ HZZ.out) HU.out HD.out sizeI) rfl ?_
   rw [HE.out]
   refine ⟨_, rfl, ⟨none, 0, rfl, HWF.out.2.1, Nat.le_refl _, by unfold maxLen; omega, HasU.nil _ _ _⟩, ?_, ?_⟩
   ·have hq := HRZ.out.keep (O (T := (· = w.heap.size)) (Mod.refl _ wz) (fun _ => rfl) (insCells (⟨op, x0, 0, 0, []⟩ : I) none 0).toArray) (fun g hg e => by have := HLT.out; omega)
    simpa [Nat.add_assoc] using hq
   ·exact O HMZ.out (fun hg => by omega) _
theorem instr_6 (R : Nat) (A : Option Addr) (c : Nat) (l : List UInt8) (p : Nat) (w : World) (h : Rd w R A c l p) (op k : Nat) (hop : rdOp (l.drop p) = .ok (op, k)) (hf : Opc.form op = 6) :
  Calls Tryz.prog 155 #[.pointer (some ⟨R, 0, none⟩)] w (bf R A c l p w (rdInstr (l.drop p)) fun w' v x => InsV w' (w.heap.size ≤ ·) v x) := by
 obtain ⟨D, hu, hd⟩ := undI
 have HU := Y hu
 have HD := Y hd
 clear hu hd
 have HLT := Y h.lt
 have HR0 := Y h
 clear h
 have HOP := Y hop
 have HC := Y (fun W (hW : Rd W R A c l p) => aO R A c l p W hW)
 rw [hop] at HC
 have HFM := Y (az (op : Int))
 rw [hf] at HFM
 have HFF := Y hf
 clear hop hf
 have HC0 := Y (fun W (hW : Rd W R A c l (p + k)) => bp R A c l (p + k) W hW)
 cases hr0 : rdNum (l.drop (p + k)) with
 | error e0 =>
  simp only [hr0] at HC0
  have HE : Hid (rdInstr (l.drop p) = .error e0) := Y (by simp [rdInstr, HOP.out, HFF.out, rdF, List.drop_drop, hr0])
  clear hr0
  have tok0 : True := trivial
  go_enter Tryz.func155, Tryz.ntmps155
  go_wp2_with (first | (go_at_call 163; refine (HC.out _ (HR0.out.keep ((Mod.refl (fun _ => False) w).alloc _) (fun _ _ h => h))).mono ?_; rintro e w1 ⟨v, rfl, rfl, hr, hm⟩; have HR := Y hr; have HM := Y hm; clear hr hm) | (go_at_call 156; refine (HFM.out _).mono ?_; rintro e w2 ⟨rfl, rfl⟩) | (go_at_call 165; clear tok0; refine (HC0.out _ (HR.out.keep ((Mod.refl (fun _ => False) w1).alloc _) (fun _ _ h => h))).mono ?_; rintro e w3 ⟨rfl, hm0⟩; have HM0 := Y (((((Mod.refl (· = R) w).alloc _).trans HM.out (fun _ _ h => h)).alloc _).trans hm0 (fun _ _ h => h)); clear hm0))
  exact ⟨rfl, by rw [HE.out]; exact ⟨rfl, HM0.out⟩⟩
 | ok q0 =>
  obtain ⟨x0, n0⟩ := q0
  simp only [hr0] at HC0
  have HRR0 := Y hr0
  clear hr0
  have HC1 := Y (fun W (hW : Rd W R A c l (p + k + n0)) => bp R A c l (p + k + n0) W hW)
  cases hr1 : rdNum (l.drop (p + k + n0)) with
  | error e1 =>
   simp only [hr1] at HC1
   have HE : Hid (rdInstr (l.drop p) = .error e1) := Y (by simp [rdInstr, HOP.out, HFF.out, rdF, List.drop_drop, HRR0.out, hr1])
   clear hr1
   have tok0 : True := trivial
   have tok1 : True := trivial
   go_enter Tryz.func155, Tryz.ntmps155
   go_wp2_with (first | (go_at_call 163; refine (HC.out _ (HR0.out.keep ((Mod.refl (fun _ => False) w).alloc _) (fun _ _ h => h))).mono ?_; rintro e w1 ⟨v, rfl, rfl, hr, hm⟩; have HR := Y hr; have HM := Y hm; clear hr hm) | (go_at_call 156; refine (HFM.out _).mono ?_; rintro e w2 ⟨rfl, rfl⟩) | (go_at_call 165; clear tok0; refine (HC0.out _ (HR.out.keep ((Mod.refl (fun _ => False) w1).alloc _) (fun _ _ h => h))).mono ?_; rintro e w3 ⟨v, rfl, rfl, hr0, hm0⟩; have HR0 := Y hr0; have HM0 := Y (((((Mod.refl (· = R) w).alloc _).trans HM.out (fun _ _ h => h)).alloc _).trans hm0 (fun _ _ h => h)); have HX0 := Y (hm0.heap (heap_alloc_new w1 _) (fun e => by have q1 := HM.out.size; have q2 := HLT.out; simp at q1; omega)); have HZ0 := Y (hm0.heap ((Below.heap_alloc w1 _ _ (by have := HM.out.size; simp at this; omega)).trans (HM.out.heap (heap_alloc_new w _) (fun e => by have := HLT.out; omega))) (fun e => by have := HLT.out; omega)); obtain ⟨b00, b01, b02, b03, b04⟩ := cells5 HX0.out; have g0 := frozen5 HX0.out 1; have HMN0 := Y hm0; clear hr0 hm0) | (go_at_call 165; clear tok1; refine (HC1.out _ (HR0.out.keep (Mod.setCell (T := (· = w1.heap.size)) (Mod.refl _ w3) (fun _ => rfl) _) (fun k hk e => by have q1 := HM.out.size; have q2 := HLT.out; simp at q1; omega))).mono ?_; rintro e w4 ⟨rfl, hm1⟩; have HM1 := Y ((Mod.setCell (T := (· = R)) HM0.out (fun hk => by have := HM.out.size; simp at this hk; omega) _).trans hm1 (fun _ _ h => h)); clear hm1))
   exact ⟨rfl, by rw [HE.out]; exact ⟨rfl, HM1.out⟩⟩
  | ok q1 =>
   obtain ⟨x1, n1⟩ := q1
   simp only [hr1] at HC1
   have HRR1 := Y hr1
   clear hr1
   have tok0 : True := trivial
   have tok1 : True := trivial
   go_enter Tryz.func155, Tryz.ntmps155
   go_upto_region 23 with (first | (go_at_call 163; refine (HC.out _ (HR0.out.keep ((Mod.refl (fun _ => False) w).alloc _) (fun _ _ h => h))).mono ?_; rintro e w1 ⟨v, rfl, rfl, hr, hm⟩; have HR := Y hr; have HM := Y hm; clear hr hm) | (go_at_call 156; refine (HFM.out _).mono ?_; rintro e w2 ⟨rfl, rfl⟩) | (go_at_call 165; clear tok0; refine (HC0.out _ (HR.out.keep ((Mod.refl (fun _ => False) w1).alloc _) (fun _ _ h => h))).mono ?_; rintro e w3 ⟨v, rfl, rfl, hr0, hm0⟩; have HR0 := Y hr0; have HM0 := Y (((((Mod.refl (· = R) w).alloc _).trans HM.out (fun _ _ h => h)).alloc _).trans hm0 (fun _ _ h => h)); have HX0 := Y (hm0.heap (heap_alloc_new w1 _) (fun e => by have q1 := HM.out.size; have q2 := HLT.out; simp at q1; omega)); have HZ0 := Y (hm0.heap ((Below.heap_alloc w1 _ _ (by have := HM.out.size; simp at this; omega)).trans (HM.out.heap (heap_alloc_new w _) (fun e => by have := HLT.out; omega))) (fun e => by have := HLT.out; omega)); obtain ⟨b00, b01, b02, b03, b04⟩ := cells5 HX0.out; have g0 := frozen5 HX0.out 1; have HMN0 := Y hm0; clear hr0 hm0) | (go_at_call 165; clear tok1; refine (HC1.out _ (HR0.out.keep (Mod.setCell (T := (· = w1.heap.size)) (Mod.refl _ w3) (fun _ => rfl) _) (fun k hk e => by have q1 := HM.out.size; have q2 := HLT.out; simp at q1; omega))).mono ?_; rintro e w4 ⟨v, rfl, rfl, hr1, hm1⟩; have HR1 := Y hr1; have HM1 := Y ((Mod.setCell (T := (· = R)) HM0.out (fun hk => by have := HM.out.size; simp at this hk; omega) _).trans hm1 (fun _ _ h => h)); have HX1 := Y (hm1.heap (heap_setCell_same w3 w1.heap.size 1 _ _ _ HX0.out) (fun e => by have q1 := HM.out.size; have q2 := HLT.out; simp at q1; omega)); have HZ1 := Y (hm1.heap ((heap_setCell_other w3 ⟨w1.heap.size, 1, none⟩ w.heap.size _ (by have := HM.out.size; simp at this; show ¬ w.heap.size = w1.heap.size; omega)).trans HZ0.out) (fun e => by have := HLT.out; omega)); obtain ⟨b10, b11, b12, b13, b14⟩ := cells5 HX1.out; have g1 := frozen5 HX1.out 2; have HMN1 := Y hm1; clear hr1 hm1))
   have HE : Hid (rdInstr (l.drop p) = .ok ((⟨op, x0, x1, 0, []⟩ : I), k + (n0 + n1))) := Y (by simp [rdInstr, HOP.out, HFF.out, rdF, List.drop_drop, HRR0.out, HRR1.out])
   have HWF := Y (aK HE.out)
   have HXZ : Hid ((w4.setCell ⟨w1.heap.size, 2, none⟩ (.int .u32 (x1 : Int))).heap[w1.heap.size]? = some (.cells (insCells (⟨op, x0, x1, 0, []⟩ : I) none 0).toArray 95 (0, 0))) := Y ((heap_setCell_same w4 w1.heap.size 2 _ _ _ HX1.out))
   have HZZ : Hid ((w4.setCell ⟨w1.heap.size, 2, none⟩ (.int .u32 (x1 : Int))).heap[w.heap.size]? = some (.cells zeroI 95 (0, 0))) := Y (((heap_setCell_other w4 ⟨w1.heap.size, 2, none⟩ w.heap.size _ (by have := HM.out.size; simp at this; show ¬ w.heap.size = w1.heap.size; omega)).trans HZ1.out))
   have HRZ : Hid (Rd (w4.setCell ⟨w1.heap.size, 2, none⟩ (.int .u32 (x1 : Int))) R A c l (p + k + n0 + n1)) := Y (HR1.out.keep (Mod.setCell (T := (· = w1.heap.size)) (Mod.refl _ w4) (fun _ => rfl) _) (fun k hk e => by have q1 := HM.out.size; have q2 := HLT.out; simp at q1; omega))
   have HMZ : Hid (Mod (· = R) w (w4.setCell ⟨w1.heap.size, 2, none⟩ (.int .u32 (x1 : Int)))) := Y (Mod.setCell (T := (· = R)) HM1.out (fun hk => by have := HM.out.size; simp at this hk; omega) _)
   generalize (w4.setCell ⟨w1.heap.size, 2, none⟩ (.int .u32 (x1 : Int))) = wz at HXZ HZZ HRZ HMZ ⊢
   obtain ⟨z0, z1, z2, z3, z4⟩ := cells5 (show wz.heap[w1.heap.size]? = some (.cells #[.int .u8 (op : Int), .int .u32 (x0 : Nat), .int .u32 (x1 : Nat), .int .i64 0, .slice none ([] : List Nat).length 0] 95 (0, 0)) from HXZ.out)
   go_wp2_with (refine ac rfl 95 (.tmp 2) (.tmp 58) rfl rfl w.heap.size (insCells (⟨op, x0, x1, 0, []⟩ : I) none 0).toArray rfl rfl 95 zeroI HZZ.out sizeI rfl (aH _ _ _) ?_)
   refine bodyPost_ret (v := insVal (⟨op, x0, x1, 0, []⟩ : I) none 0) (ai (p := 2) (ty := 95) (by kernel_rfl) _ _ w.heap.size 95 _ (0, 0) D rfl (setRow_heap _ _ zeroI _ _ _ HZZ.out) HU.out HD.out sizeI) rfl ?_
   rw [HE.out]
   refine ⟨_, rfl, ⟨none, 0, rfl, HWF.out.2.1, Nat.le_refl _, by unfold maxLen; omega, HasU.nil _ _ _⟩, ?_, ?_⟩
   ·have hq := HRZ.out.keep (O (T := (· = w.heap.size)) (Mod.refl _ wz) (fun _ => rfl) (insCells (⟨op, x0, x1, 0, []⟩ : I) none 0).toArray) (fun g hg e => by have := HLT.out; omega)
    simpa [Nat.add_assoc] using hq
   ·exact O HMZ.out (fun hg => by omega) _
theorem instr_7 (R : Nat) (A : Option Addr) (c : Nat) (l : List UInt8) (p : Nat) (w : World) (h : Rd w R A c l p) (op k : Nat) (hop : rdOp (l.drop p) = .ok (op, k)) (hf : Opc.form op = 7) :
  Calls Tryz.prog 155 #[.pointer (some ⟨R, 0, none⟩)] w (bf R A c l p w (rdInstr (l.drop p)) fun w' v x => InsV w' (w.heap.size ≤ ·) v x) := by
 obtain ⟨D, hu, hd⟩ := undI
 have HU := Y hu
 have HD := Y hd
 clear hu hd
 have HLT := Y h.lt
 have HR0 := Y h
 clear h
 have HOP := Y hop
 have HC := Y (fun W (hW : Rd W R A c l p) => aO R A c l p W hW)
 rw [hop] at HC
 have HFM := Y (az (op : Int))
 rw [hf] at HFM
 have HFF := Y hf
 clear hop hf
 have HC0 := Y (fun W (hW : Rd W R A c l (p + k)) => zero_any R A c l (p + k) W hW)
 unfold rdZ at HC0
 cases hr0 : rdZero (l.drop (p + k)) with
 | error e0 =>
  simp only [hr0] at HC0
  have HE : Hid (rdInstr (l.drop p) = .error e0) := Y (by simp [rdInstr, HOP.out, HFF.out, rdF, List.drop_drop, hr0])
  clear hr0
  have tok0 : True := trivial
  go_enter Tryz.func155, Tryz.ntmps155
  go_wp2_with (first | (go_at_call 163; refine (HC.out _ (HR0.out.keep ((Mod.refl (fun _ => False) w).alloc _) (fun _ _ h => h))).mono ?_; rintro e w1 ⟨v, rfl, rfl, hr, hm⟩; have HR := Y hr; have HM := Y hm; clear hr hm) | (go_at_call 156; refine (HFM.out _).mono ?_; rintro e w2 ⟨rfl, rfl⟩) | (go_at_call 167; clear tok0; refine (HC0.out _ (HR.out.keep ((Mod.refl (fun _ => False) w1).alloc _) (fun _ _ h => h))).mono ?_; rintro e w3 ⟨rfl, hm0⟩; have HM0 := Y (((((Mod.refl (· = R) w).alloc _).trans HM.out (fun _ _ h => h)).alloc _).trans hm0 (fun _ _ h => h)); clear hm0))
  exact ⟨rfl, by rw [HE.out]; exact ⟨rfl, HM0.out⟩⟩
 | ok n0 =>
  simp only [hr0] at HC0
  have HRR0 := Y hr0
  clear hr0
  have tok0 : True := trivial
  go_enter Tryz.func155, Tryz.ntmps155
  go_upto_region 23 with (first | (go_at_call 163; refine (HC.out _ (HR0.out.keep ((Mod.refl (fun _ => False) w).alloc _) (fun _ _ h => h))).mono ?_; rintro e w1 ⟨v, rfl, rfl, hr, hm⟩; have HR := Y hr; have HM := Y hm; clear hr hm) | (go_at_call 156; refine (HFM.out _).mono ?_; rintro e w2 ⟨rfl, rfl⟩) | (go_at_call 167; clear tok0; refine (HC0.out _ (HR.out.keep ((Mod.refl (fun _ => False) w1).alloc _) (fun _ _ h => h))).mono ?_; rintro e w3 ⟨v, rfl, rfl, hr0, hm0⟩; have HR0 := Y hr0; have HM0 := Y (((((Mod.refl (· = R) w).alloc _).trans HM.out (fun _ _ h => h)).alloc _).trans hm0 (fun _ _ h => h)); have HX0 := Y (hm0.heap (heap_alloc_new w1 _) (fun e => by have q1 := HM.out.size; have q2 := HLT.out; simp at q1; omega)); have HZ0 := Y (hm0.heap ((Below.heap_alloc w1 _ _ (by have := HM.out.size; simp at this; omega)).trans (HM.out.heap (heap_alloc_new w _) (fun e => by have := HLT.out; omega))) (fun e => by have := HLT.out; omega)); obtain ⟨b00, b01, b02, b03, b04⟩ := cells5 HX0.out; have HMN0 := Y hm0; clear hr0 hm0))
  have HE : Hid (rdInstr (l.drop p) = .ok ((⟨op, 0, 0, 0, []⟩ : I), k + (n0))) := Y (by simp [rdInstr, HOP.out, HFF.out, rdF, List.drop_drop, HRR0.out])
  have HWF := Y (aK HE.out)
  have HXZ : Hid (w3.heap[w1.heap.size]? = some (.cells (insCells (⟨op, 0, 0, 0, []⟩ : I) none 0).toArray 95 (0, 0))) := Y (HX0.out)
  have HZZ : Hid (w3.heap[w.heap.size]? = some (.cells zeroI 95 (0, 0))) := Y (HZ0.out)
  have HRZ : Hid (Rd w3 R A c l (p + k + n0)) := Y HR0.out
  have HMZ : Hid (Mod (· = R) w w3) := Y HM0.out
  generalize w3 = wz at HXZ HZZ HRZ HMZ ⊢
  obtain ⟨z0, z1, z2, z3, z4⟩ := cells5 (show wz.heap[w1.heap.size]? = some (.cells #[.int .u8 (op : Int), .int .u32 (0 : Nat), .int .u32 (0 : Nat), .int .i64 0, .slice none ([] : List Nat).length 0] 95 (0, 0)) from HXZ.out)
  go_wp2_with (refine ac rfl 95 (.tmp 2) (.tmp 58) rfl rfl w.heap.size (insCells (⟨op, 0, 0, 0, []⟩ : I) none 0).toArray rfl rfl 95 zeroI HZZ.out sizeI rfl (aH _ _ _) ?_)
  refine bodyPost_ret (v := insVal (⟨op, 0, 0, 0, []⟩ : I) none 0) (ai (p := 2) (ty := 95) (by kernel_rfl) _ _ w.heap.size 95 _ (0, 0) D rfl (setRow_heap _ _ zeroI _ _ _ HZZ.out) HU.out HD.out sizeI) rfl ?_
  rw [HE.out]
  refine ⟨_, rfl, ⟨none, 0, rfl, HWF.out.2.1, Nat.le_refl _, by unfold maxLen; omega, HasU.nil _ _ _⟩, ?_, ?_⟩
  ·have hq := HRZ.out.keep (O (T := (· = w.heap.size)) (Mod.refl _ wz) (fun _ => rfl) (insCells (⟨op, 0, 0, 0, []⟩ : I) none 0).toArray) (fun g hg e => by have := HLT.out; omega)
   simpa [Nat.add_assoc] using hq
  ·exact O HMZ.out (fun hg => by omega) _
theorem instr_8 (R : Nat) (A : Option Addr) (c : Nat) (l : List UInt8) (p : Nat) (w : World) (h : Rd w R A c l p) (op k : Nat) (hop : rdOp (l.drop p) = .ok (op, k)) (hf : Opc.form op = 8) :
  Calls Tryz.prog 155 #[.pointer (some ⟨R, 0, none⟩)] w (bf R A c l p w (rdInstr (l.drop p)) fun w' v x => InsV w' (w.heap.size ≤ ·) v x) := by
 obtain ⟨D, hu, hd⟩ := undI
 have HU := Y hu
 have HD := Y hd
 clear hu hd
 have HLT := Y h.lt
 have HR0 := Y h
 clear h
 have HOP := Y hop
 have HC := Y (fun W (hW : Rd W R A c l p) => aO R A c l p W hW)
 rw [hop] at HC
 have HFM := Y (az (op : Int))
 rw [hf] at HFM
 have HFF := Y hf
 clear hop hf
 have HC0 := Y (fun W (hW : Rd W R A c l (p + k)) => ew R A c l (p + k) 32 W hW)
 cases hr0 : rdConst (l.drop (p + k)) 32 with
 | error e0 =>
  simp only [hr0] at HC0
  have HE : Hid (rdInstr (l.drop p) = .error e0) := Y (by simp [rdInstr, HOP.out, HFF.out, rdF, List.drop_drop, hr0])
  clear hr0
  have tok0 : True := trivial
  go_enter Tryz.func155, Tryz.ntmps155
  go_wp2_with (first | (go_at_call 163; refine (HC.out _ (HR0.out.keep ((Mod.refl (fun _ => False) w).alloc _) (fun _ _ h => h))).mono ?_; rintro e w1 ⟨v, rfl, rfl, hr, hm⟩; have HR := Y hr; have HM := Y hm; clear hr hm) | (go_at_call 156; refine (HFM.out _).mono ?_; rintro e w2 ⟨rfl, rfl⟩) | (go_at_call 168; clear tok0; refine (HC0.out _ (HR.out.keep ((Mod.refl (fun _ => False) w1).alloc _) (fun _ _ h => h))).mono ?_; rintro e w3 ⟨rfl, hm0⟩; have HM0 := Y (((((Mod.refl (· = R) w).alloc _).trans HM.out (fun _ _ h => h)).alloc _).trans hm0 (fun _ _ h => h)); clear hm0))
  exact ⟨rfl, by rw [HE.out]; exact ⟨rfl, HM0.out⟩⟩
 | ok q0 =>
  obtain ⟨x0, n0⟩ := q0
  simp only [hr0] at HC0
  have HRR0 := Y hr0
  clear hr0
  have tok0 : True := trivial
  go_enter Tryz.func155, Tryz.ntmps155
  go_upto_region 23 with (first | (go_at_call 163; refine (HC.out _ (HR0.out.keep ((Mod.refl (fun _ => False) w).alloc _) (fun _ _ h => h))).mono ?_; rintro e w1 ⟨v, rfl, rfl, hr, hm⟩; have HR := Y hr; have HM := Y hm; clear hr hm) | (go_at_call 156; refine (HFM.out _).mono ?_; rintro e w2 ⟨rfl, rfl⟩) | (go_at_call 168; clear tok0; refine (HC0.out _ (HR.out.keep ((Mod.refl (fun _ => False) w1).alloc _) (fun _ _ h => h))).mono ?_; rintro e w3 ⟨v, rfl, rfl, hr0, hm0⟩; have HR0 := Y hr0; have HM0 := Y (((((Mod.refl (· = R) w).alloc _).trans HM.out (fun _ _ h => h)).alloc _).trans hm0 (fun _ _ h => h)); have HX0 := Y (hm0.heap (heap_alloc_new w1 _) (fun e => by have q1 := HM.out.size; have q2 := HLT.out; simp at q1; omega)); have HZ0 := Y (hm0.heap ((Below.heap_alloc w1 _ _ (by have := HM.out.size; simp at this; omega)).trans (HM.out.heap (heap_alloc_new w _) (fun e => by have := HLT.out; omega))) (fun e => by have := HLT.out; omega)); obtain ⟨b00, b01, b02, b03, b04⟩ := cells5 HX0.out; have g0 := frozen5 HX0.out 3; have HMN0 := Y hm0; clear hr0 hm0))
  have HE : Hid (rdInstr (l.drop p) = .ok ((⟨op, 0, 0, x0, []⟩ : I), k + (n0))) := Y (by simp [rdInstr, HOP.out, HFF.out, rdF, List.drop_drop, HRR0.out])
  have HWF := Y (aK HE.out)
  have HXZ : Hid ((w3.setCell ⟨w1.heap.size, 3, none⟩ (.int .i64 x0)).heap[w1.heap.size]? = some (.cells (insCells (⟨op, 0, 0, x0, []⟩ : I) none 0).toArray 95 (0, 0))) := Y ((heap_setCell_same w3 w1.heap.size 3 _ _ _ HX0.out))
  have HZZ : Hid ((w3.setCell ⟨w1.heap.size, 3, none⟩ (.int .i64 x0)).heap[w.heap.size]? = some (.cells zeroI 95 (0, 0))) := Y (((heap_setCell_other w3 ⟨w1.heap.size, 3, none⟩ w.heap.size _ (by have := HM.out.size; simp at this; show ¬ w.heap.size = w1.heap.size; omega)).trans HZ0.out))
  have HRZ : Hid (Rd (w3.setCell ⟨w1.heap.size, 3, none⟩ (.int .i64 x0)) R A c l (p + k + n0)) := Y (HR0.out.keep (Mod.setCell (T := (· = w1.heap.size)) (Mod.refl _ w3) (fun _ => rfl) _) (fun k hk e => by have q1 := HM.out.size; have q2 := HLT.out; simp at q1; omega))
  have HMZ : Hid (Mod (· = R) w (w3.setCell ⟨w1.heap.size, 3, none⟩ (.int .i64 x0))) := Y (Mod.setCell (T := (· = R)) HM0.out (fun hk => by have := HM.out.size; simp at this hk; omega) _)
  generalize (w3.setCell ⟨w1.heap.size, 3, none⟩ (.int .i64 x0)) = wz at HXZ HZZ HRZ HMZ ⊢
  obtain ⟨z0, z1, z2, z3, z4⟩ := cells5 (show wz.heap[w1.heap.size]? = some (.cells #[.int .u8 (op : Int), .int .u32 (0 : Nat), .int .u32 (0 : Nat), .int .i64 x0, .slice none ([] : List Nat).length 0] 95 (0, 0)) from HXZ.out)
  go_wp2_with (refine ac rfl 95 (.tmp 2) (.tmp 58) rfl rfl w.heap.size (insCells (⟨op, 0, 0, x0, []⟩ : I) none 0).toArray rfl rfl 95 zeroI HZZ.out sizeI rfl (aH _ _ _) ?_)
  refine bodyPost_ret (v := insVal (⟨op, 0, 0, x0, []⟩ : I) none 0) (ai (p := 2) (ty := 95) (by kernel_rfl) _ _ w.heap.size 95 _ (0, 0) D rfl (setRow_heap _ _ zeroI _ _ _ HZZ.out) HU.out HD.out sizeI) rfl ?_
  rw [HE.out]
  refine ⟨_, rfl, ⟨none, 0, rfl, HWF.out.2.1, Nat.le_refl _, by unfold maxLen; omega, HasU.nil _ _ _⟩, ?_, ?_⟩
  ·have hq := HRZ.out.keep (O (T := (· = w.heap.size)) (Mod.refl _ wz) (fun _ => rfl) (insCells (⟨op, 0, 0, x0, []⟩ : I) none 0).toArray) (fun g hg e => by have := HLT.out; omega)
   simpa [Nat.add_assoc] using hq
  ·exact O HMZ.out (fun hg => by omega) _
theorem instr_9 (R : Nat) (A : Option Addr) (c : Nat) (l : List UInt8) (p : Nat) (w : World) (h : Rd w R A c l p) (op k : Nat) (hop : rdOp (l.drop p) = .ok (op, k)) (hf : Opc.form op = 9) :
  Calls Tryz.prog 155 #[.pointer (some ⟨R, 0, none⟩)] w (bf R A c l p w (rdInstr (l.drop p)) fun w' v x => InsV w' (w.heap.size ≤ ·) v x) := by
 obtain ⟨D, hu, hd⟩ := undI
 have HU := Y hu
 have HD := Y hd
 clear hu hd
 have HLT := Y h.lt
 have HR0 := Y h
 clear h
 have HOP := Y hop
 have HC := Y (fun W (hW : Rd W R A c l p) => aO R A c l p W hW)
 rw [hop] at HC
 have HFM := Y (az (op : Int))
 rw [hf] at HFM
 have HFF := Y hf
 clear hop hf
 have HC0 := Y (fun W (hW : Rd W R A c l (p + k)) => ew R A c l (p + k) 64 W hW)
 cases hr0 : rdConst (l.drop (p + k)) 64 with
 | error e0 =>
  simp only [hr0] at HC0
  have HE : Hid (rdInstr (l.drop p) = .error e0) := Y (by simp [rdInstr, HOP.out, HFF.out, rdF, List.drop_drop, hr0])
  clear hr0
  have tok0 : True := trivial
  go_enter Tryz.func155, Tryz.ntmps155
  go_wp2_with (first | (go_at_call 163; refine (HC.out _ (HR0.out.keep ((Mod.refl (fun _ => False) w).alloc _) (fun _ _ h => h))).mono ?_; rintro e w1 ⟨v, rfl, rfl, hr, hm⟩; have HR := Y hr; have HM := Y hm; clear hr hm) | (go_at_call 156; refine (HFM.out _).mono ?_; rintro e w2 ⟨rfl, rfl⟩) | (go_at_call 168; clear tok0; refine (HC0.out _ (HR.out.keep ((Mod.refl (fun _ => False) w1).alloc _) (fun _ _ h => h))).mono ?_; rintro e w3 ⟨rfl, hm0⟩; have HM0 := Y (((((Mod.refl (· = R) w).alloc _).trans HM.out (fun _ _ h => h)).alloc _).trans hm0 (fun _ _ h => h)); clear hm0))
  exact ⟨rfl, by rw [HE.out]; exact ⟨rfl, HM0.out⟩⟩
 | ok q0 =>
  obtain ⟨x0, n0⟩ := q0
  simp only [hr0] at HC0
  have HRR0 := Y hr0
  clear hr0
  have tok0 : True := trivial
  go_enter Tryz.func155, Tryz.ntmps155
  go_upto_region 23 with (first | (go_at_call 163; refine (HC.out _ (HR0.out.keep ((Mod.refl (fun _ => False) w).alloc _) (fun _ _ h => h))).mono ?_; rintro e w1 ⟨v, rfl, rfl, hr, hm⟩; have HR := Y hr; have HM := Y hm; clear hr hm) | (go_at_call 156; refine (HFM.out _).mono ?_; rintro e w2 ⟨rfl, rfl⟩) | (go_at_call 168; clear tok0; refine (HC0.out _ (HR.out.keep ((Mod.refl (fun _ => False) w1).alloc _) (fun _ _ h => h))).mono ?_; rintro e w3 ⟨v, rfl, rfl, hr0, hm0⟩; have HR0 := Y hr0; have HM0 := Y (((((Mod.refl (· = R) w).alloc _).trans HM.out (fun _ _ h => h)).alloc _).trans hm0 (fun _ _ h => h)); have HX0 := Y (hm0.heap (heap_alloc_new w1 _) (fun e => by have q1 := HM.out.size; have q2 := HLT.out; simp at q1; omega)); have HZ0 := Y (hm0.heap ((Below.heap_alloc w1 _ _ (by have := HM.out.size; simp at this; omega)).trans (HM.out.heap (heap_alloc_new w _) (fun e => by have := HLT.out; omega))) (fun e => by have := HLT.out; omega)); obtain ⟨b00, b01, b02, b03, b04⟩ := cells5 HX0.out; have g0 := frozen5 HX0.out 3; have HMN0 := Y hm0; clear hr0 hm0))
  have HE : Hid (rdInstr (l.drop p) = .ok ((⟨op, 0, 0, x0, []⟩ : I), k + (n0))) := Y (by simp [rdInstr, HOP.out, HFF.out, rdF, List.drop_drop, HRR0.out])
  have HWF := Y (aK HE.out)
  have HXZ : Hid ((w3.setCell ⟨w1.heap.size, 3, none⟩ (.int .i64 x0)).heap[w1.heap.size]? = some (.cells (insCells (⟨op, 0, 0, x0, []⟩ : I) none 0).toArray 95 (0, 0))) := Y ((heap_setCell_same w3 w1.heap.size 3 _ _ _ HX0.out))
  have HZZ : Hid ((w3.setCell ⟨w1.heap.size, 3, none⟩ (.int .i64 x0)).heap[w.heap.size]? = some (.cells zeroI 95 (0, 0))) := Y (((heap_setCell_other w3 ⟨w1.heap.size, 3, none⟩ w.heap.size _ (by have := HM.out.size; simp at this; show ¬ w.heap.size = w1.heap.size; omega)).trans HZ0.out))
  have HRZ : Hid (Rd (w3.setCell ⟨w1.heap.size, 3, none⟩ (.int .i64 x0)) R A c l (p + k + n0)) := Y (HR0.out.keep (Mod.setCell (T := (· = w1.heap.size)) (Mod.refl _ w3) (fun _ => rfl) _) (fun k hk e => by have q1 := HM.out.size; have q2 := HLT.out; simp at q1; omega))
  have HMZ : Hid (Mod (· = R) w (w3.setCell ⟨w1.heap.size, 3, none⟩ (.int .i64 x0))) := Y (Mod.setCell (T := (· = R)) HM0.out (fun hk => by have := HM.out.size; simp at this hk; omega) _)
  generalize (w3.setCell ⟨w1.heap.size, 3, none⟩ (.int .i64 x0)) = wz at HXZ HZZ HRZ HMZ ⊢
  obtain ⟨z0, z1, z2, z3, z4⟩ := cells5 (show wz.heap[w1.heap.size]? = some (.cells #[.int .u8 (op : Int), .int .u32 (0 : Nat), .int .u32 (0 : Nat), .int .i64 x0, .slice none ([] : List Nat).length 0] 95 (0, 0)) from HXZ.out)
  go_wp2_with (refine ac rfl 95 (.tmp 2) (.tmp 58) rfl rfl w.heap.size (insCells (⟨op, 0, 0, x0, []⟩ : I) none 0).toArray rfl rfl 95 zeroI HZZ.out sizeI rfl (aH _ _ _) ?_)
  refine bodyPost_ret (v := insVal (⟨op, 0, 0, x0, []⟩ : I) none 0) (ai (p := 2) (ty := 95) (by kernel_rfl) _ _ w.heap.size 95 _ (0, 0) D rfl (setRow_heap _ _ zeroI _ _ _ HZZ.out) HU.out HD.out sizeI) rfl ?_
  rw [HE.out]
  refine ⟨_, rfl, ⟨none, 0, rfl, HWF.out.2.1, Nat.le_refl _, by unfold maxLen; omega, HasU.nil _ _ _⟩, ?_, ?_⟩
  ·have hq := HRZ.out.keep (O (T := (· = w.heap.size)) (Mod.refl _ wz) (fun _ => rfl) (insCells (⟨op, 0, 0, x0, []⟩ : I) none 0).toArray) (fun g hg e => by have := HLT.out; omega)
   simpa [Nat.add_assoc] using hq
  ·exact O HMZ.out (fun hg => by omega) _
theorem instr_any (R : Nat) (A : Option Addr) (c : Nat) (l : List UInt8) (p : Nat) (w : World) (h : Rd w R A c l p) :
  Calls Tryz.prog 155 #[.pointer (some ⟨R, 0, none⟩)] w (bf R A c l p w (rdInstr (l.drop p)) fun w' v x => InsV w' (w.heap.size ≤ ·) v x) := by
 cases hop : rdOp (l.drop p) with
 | error e =>
  have HC := Y (fun W (hW : Rd W R A c l p) => aO R A c l p W hW)
  rw [hop] at HC
  have he : rdInstr (l.drop p) = .error e := by unfold rdInstr; rw [hop]
  rw [he]
  have hee := rdOp_err hop
  clear hop he
  go_enter Tryz.func155, Tryz.ntmps155
  go_wp2_with (go_at_call 163; refine (HC.out _ (h.keep ((Mod.refl (fun _ => False) w).alloc _) (fun _ _ h => h))).mono ?_; rintro e w1 ⟨rfl, hm⟩)
  exact ⟨rfl, rfl, ((Mod.refl _ w).alloc _).trans hm (fun _ _ h => h)⟩
 | ok q =>
  obtain ⟨op, k⟩ := q
  rcases bP op with hf | hf | hf | hf | hf | hf | hf | hf | hf | hf
  ·exact instr_0 R A c l p w h op k hop hf
  ·exact instr_1 R A c l p w h op k hop hf
  ·exact instr_2 R A c l p w h op k hop hf
  ·exact instr_3 R A c l p w h op k hop hf
  ·exact instr_4 R A c l p w h op k hop hf
  ·exact instr_5 R A c l p w h op k hop hf
  ·exact instr_6 R A c l p w h op k hop hf
  ·exact instr_7 R A c l p w h op k hop hf
  ·exact instr_8 R A c l p w h op k hop hf
  ·exact instr_9 R A c l p w h op k hop hf
end Go.Proofs.YthkglmkpnhhboaaGreatDoor
