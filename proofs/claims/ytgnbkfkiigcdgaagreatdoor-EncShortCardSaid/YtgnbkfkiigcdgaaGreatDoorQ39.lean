/-
  Layer 7's statements: the chapter's rows hold. (gen/enc/known.py)
-/
import Derived.Test.YtgnbkfkiigcdgaaGreatDoorQ01
import Derived.Test.YtgnbkfkiigcdgaaGreatDoorQ38
import Derived.Test.YtgnbkfkiigcdgaaGreatDoorQ25
import Derived.Deep.Cut
import Derived.Test.YtgnbkfkiigcdgaaGreatDoorQ23
import Derived.Test.YtgnbkfkiigcdgaaGreatDoorQ32
import Derived.Test.YtgnbkfkiigcdgaaGreatDoorQ09
set_option maxRecDepth 100000
set_option maxHeartbeats 4000000
namespace Go.Proofs.YtgnbkfkiigcdgaaGreatDoor
open Go.RowKit Ins Bin
theorem fc {w : World} {o : Obj} {k : Nat} (h : k = w.heap.size) : (w.alloc o).heap[k]? = some o := by subst h; exact heap_alloc_new w o
theorem hasL_one {α : Type} [Lay α] {W : World} {S : Nat → Prop} {g : Nat} {x : α} {cs : Array Value} {t : TypeId} (h : W.heap[g]? = some (.cells cs t (0, 0))) (hg : S g) (hr : Lay.rep W S x cs.toList) : HasL W S (some ⟨g, 0, none⟩) [x] := fun k y hy => by
 cases k with
 | succ k => simp at hy
 | zero =>
  simp at hy
  subst hy
  refine ⟨g, 0, cs.toList, rfl, hg, (Array.getElem?_eq_some_iff.1 h).1, hr, fun j u hj => ?_⟩
  rw [cell_of_row W g _ _ _ (0, 0) h]
  simpa using hj
theorem bF {α : Type} [Lay α] {W : World} {S : Nat → Prop} {g : Nat} {x : α} {cs : Array Value} {t : TypeId} (h : W.heap[g]? = some (.cells cs t (0, 0))) (hg : S g) (hr : Lay.rep W S x cs.toList) : J W S [x] (.slice (some ⟨g, 0, none⟩) 1 1) := ⟨_, 1, rfl, Nat.le_refl _, by unfold maxLen; omega, by simp, hasL_one h hg hr⟩
def k1 : M := ⟨[⟨[], []⟩], [], [0], [], [], [], [], false, 0, [], [⟨[], []⟩], []⟩
def k2 : M := ⟨[], [], [0], [], [], [], [], false, 0, [], [], []⟩
def k3 : M := ⟨[], [⟨[], [], 4, 0, ⟨0, 0⟩, ⟨0, false⟩⟩], [], [], [], [], [], false, 0, [], [], []⟩
def k4 : M := ⟨[], [], [], [], [], [⟨⟨124, false⟩, []⟩], [], false, 0, [], [], []⟩
def l16 : List UInt8 := [1, 4, 1, 96, 0, 0, 3, 2, 1, 0, 10, 4, 1, 2, 0, 11]
theorem k0_enc : encode M.zero = .ok Sec.begin8 := eh ⟨zero_okF, rfl⟩ (by decide)
theorem k1_ok : okM k1 where
 types x hx := by simp [k1] at hx; subst hx; exact ⟨nofun, nofun⟩
 imports := nofun
 funcs x hx := by simp [k1] at hx; subst hx; show (0 : Nat) < 4294967296; omega
 tables := nofun
 mems := nofun
 globals := nofun
 exports := nofun
 start := ⟨by show (0 : Nat) < 4294967296; omega, fun _ => rfl⟩
 elems := nofun
 codes x hx := by simp [k1] at hx; subst hx; exact ⟨nofun, by show (0 : Nat) < 4294967296; omega, ⟨rfl, nofun, rfl⟩⟩
 datas := nofun
 many := rfl
theorem k1_bytes : encM k1 = Sec.begin8 ++ l16 := by
 have e : ∀ n, n < 128 → Leb.encU n = [UInt8.ofNat n] := fun n h => Leb.encU_small h
 have b1 : body k1 1 = [1, 96, 0, 0] := by
  show encList encFT [⟨[], []⟩] = _
  simp [encList, encFT, encVals, e]
 have b3 : body k1 3 = [1, 0] := by
  show encList Leb.encU [0] = _
  simp [encList, e]
 have b10 : body k1 10 = [1, 2, 0, 11] := by
  show encList encCd [⟨[], []⟩] = _
  simp [encList, encCd, cdB, exprEnc, Ins.encAll, e]
 have ho : own k1 = [1, 3, 10] := by decide
 unfold encM secsOf
 rw [ho]
 simp [Sec.join, Sec.encAll, Sec.enc, b1, b3, b10, e, l16]
theorem k1_enc : encode k1 = .ok (Sec.begin8 ++ l16) := by
 rw [← k1_bytes]
 exact eh k1_ok (by rw [k1_bytes]; decide)
theorem k2_enc : encode k2 = .error 2 := by
 unfold encode
 rw [if_neg (fun h => absurd h.many (by decide))]
theorem k3_enc : encode k3 = .error 2 := by
 unfold encode
 refine if_neg (fun h => ?_)
 obtain ⟨_, _, h⟩ := h.imports _ (by simp [k3] : (⟨[], [], 4, 0, ⟨0, 0⟩, ⟨0, false⟩⟩ : Imp) ∈ k3.imports)
 rcases h with ⟨h, _⟩ | ⟨h, _⟩ | ⟨h, _⟩ | ⟨h, _⟩ <;> exact absurd h (by decide)
theorem k4_enc : encode k4 = .error 2 := by
 unfold encode
 refine if_neg (fun h => ?_)
 obtain ⟨h, _⟩ := h.globals _ (by simp [k4] : (⟨⟨124, false⟩, []⟩ : GV) ∈ k4.globals)
 exact absurd h (by show ¬ whole1 124 = true; decide)
theorem aF {a b : World} (h : Below a.heap.size a b) {k : Nat} {o : Obj} (hk : a.heap[k]? = some o) : b.heap[k]? = some o := (h.block k (Array.getElem?_eq_some_iff.1 hk).1).trans hk
theorem four_new (w : World) (a b c d : List Value) (ta tb tc td : TypeId) : ∃ wq, (((w.alloc (.cells a.toArray ta)).alloc (.cells b.toArray tb)).alloc (.cells c.toArray tc)).alloc (.cells d.toArray td) = wq ∧ Below w.heap.size w wq ∧ wq.heap[w.heap.size]? = some (.cells a.toArray ta (0, 0)) ∧ wq.heap[w.heap.size + 1]? = some (.cells b.toArray tb (0, 0)) ∧ wq.heap[w.heap.size + 2]? = some (.cells c.toArray tc (0, 0)) ∧ wq.heap[w.heap.size + 3]? = some (.cells d.toArray td (0, 0)) := by
 have h0 := heap_alloc_new w (.cells a.toArray ta)
 have b0 : Below w.heap.size w (w.alloc (.cells a.toArray ta)) := (Below.refl _ _).alloc (Nat.le_refl _) _
 have s0 : (w.alloc (.cells a.toArray ta)).heap.size = w.heap.size + 1 := by simp
 generalize w.alloc (.cells a.toArray ta) = w1 at h0 b0 s0 ⊢
 have h1 := heap_alloc_new w1 (.cells b.toArray tb)
 have c1 : Below w1.heap.size w1 (w1.alloc (.cells b.toArray tb)) := (Below.refl _ _).alloc (Nat.le_refl _) _
 have s1 : (w1.alloc (.cells b.toArray tb)).heap.size = w1.heap.size + 1 := by simp
 generalize w1.alloc (.cells b.toArray tb) = w2 at h1 c1 s1 ⊢
 have h2 := heap_alloc_new w2 (.cells c.toArray tc)
 have c2 : Below w2.heap.size w2 (w2.alloc (.cells c.toArray tc)) := (Below.refl _ _).alloc (Nat.le_refl _) _
 have s2 : (w2.alloc (.cells c.toArray tc)).heap.size = w2.heap.size + 1 := by simp
 generalize w2.alloc (.cells c.toArray tc) = w3 at h2 c2 s2 ⊢
 have h3 := heap_alloc_new w3 (.cells d.toArray td)
 have c3 : Below w3.heap.size w3 (w3.alloc (.cells d.toArray td)) := (Below.refl _ _).alloc (Nat.le_refl _) _
 generalize w3.alloc (.cells d.toArray td) = w4 at h3 c3 ⊢
 have e1 : w1.heap.size = w.heap.size + 1 := s0
 have e2 : w2.heap.size = w.heap.size + 2 := by omega
 have e3 : w3.heap.size = w.heap.size + 3 := by omega
 rw [e1] at h1
 rw [e2] at h2
 rw [e3] at h3
 refine ⟨w4, rfl, b0.trans ((c1.trans ((c2.trans (c3.mono (by omega))).mono (by omega))).mono (by omega)), ?_, ?_, ?_, h3⟩
 ·exact aF c3 (aF c2 (aF c1 h0))
 ·exact aF c3 (aF c2 h1)
 ·exact aF c3 h2
theorem fit_nil : Fit [] := ⟨by simp [tot], nofun⟩
theorem cU {m : M} {w w' : World} {e : Ending} (h : bO m w e w') (he : encode m = .error 2) : e = .returned (.tuple #[.slice none 0 0, .int .i64 2]) ∧ Below w.heap.size w w' := by
 obtain ⟨hb, h⟩ := h
 rw [he] at h
 exact ⟨h, hb⟩
theorem bR {m : M} {w w' : World} {e : Ending} {b : List UInt8} (h : bO m w e w') (he : encode m = .ok b) : ∃ A c, e = .returned (.tuple #[.slice A b.length c, .int .i64 0]) ∧ b.length ≤ c ∧ c ≤ maxLen ∧ (A = none → c = 0) ∧ Has w' w'.heap.size A b ∧ Below w.heap.size w w' := by
 obtain ⟨hb, h⟩ := h
 rw [he] at h
 obtain ⟨A, c, h1, h2, h3, h4, h5⟩ := h
 exact ⟨A, c, h1, h2, h3, h4, h5, hb⟩
theorem k0_call (he : cX) (W : World) (hT : Tb W) :
  Calls Tryz.prog 8 #[.agg #[.slice none 0 0, .slice none 0 0, .slice none 0 0, .slice none 0 0, .slice none 0 0, .slice none 0 0, .slice none 0 0, .bool false, .int .u32 0, .slice none 0 0, .slice none 0 0, .slice none 0 0]] W fun e w' => ∃ A c, e = .returned (.tuple #[.slice A 8 c, .int .i64 0]) ∧ Has w' w'.heap.size A (Sec.begin8) ∧ Below W.heap.size W w' := by
 refine (he M.zero (.slice none 0 0) (.slice none 0 0) (.slice none 0 0) (.slice none 0 0) (.slice none 0 0) (.slice none 0 0) (.slice none 0 0) (.slice none 0 0) (.slice none 0 0) (.slice none 0 0) W ⟨J.nil _ _, J.nil _ _, J.nil _ _, J.nil _ _, J.nil _ _, J.nil _ _, J.nil _ _, (by show (0 : Nat) < 4294967296; omega), J.nil _ _, J.nil _ _, J.nil _ _⟩ { imports := nofun, globals := nofun, exports := nofun, elems := nofun, codes := nofun, datas := nofun } hT).mono ?_
 intro e w' h
 obtain ⟨A, c, h1, _, _, _, h5, h6⟩ := bR h k0_enc
 exact ⟨A, c, h1, h5, h6⟩
theorem k1_call (he : cX) (g1 g2 g3 : Nat) (W : World) (hT : Tb W) (h1 : W.heap[g1]? = some (.cells #[.slice none 0 0, .slice none 0 0] 50 (0, 0))) (h2 : W.heap[g2]? = some (.cells #[.int .u32 0] 28 (0, 0))) (h3 : W.heap[g3]? = some (.cells #[.slice none 0 0, .slice none 0 0] 54 (0, 0))) :
  Calls Tryz.prog 8 #[.agg #[.slice (some ⟨g1, 0, none⟩) 1 1, .slice none 0 0, .slice (some ⟨g2, 0, none⟩) 1 1, .slice none 0 0, .slice none 0 0, .slice none 0 0, .slice none 0 0, .bool false, .int .u32 0, .slice none 0 0, .slice (some ⟨g3, 0, none⟩) 1 1, .slice none 0 0]] W fun e w' => ∃ A c, e = .returned (.tuple #[.slice A 24 c, .int .i64 0]) ∧ Has w' w'.heap.size A (Sec.begin8 ++ l16) ∧ Below W.heap.size W w' := by
 refine (he k1 (.slice (some ⟨g1, 0, none⟩) 1 1) (.slice none 0 0) (.slice (some ⟨g2, 0, none⟩) 1 1) (.slice none 0 0) (.slice none 0 0) (.slice none 0 0) (.slice none 0 0) (.slice none 0 0) (.slice (some ⟨g3, 0, none⟩) 1 1) (.slice none 0 0) W ⟨bF h1 (Array.getElem?_eq_some_iff.1 h1).1 ⟨_, _, rfl, J.nil _ _, J.nil _ _⟩, J.nil _ _, bF h2 (Array.getElem?_eq_some_iff.1 h2).1 ⟨rfl, by decide⟩, J.nil _ _, J.nil _ _, J.nil _ _, J.nil _ _, (by show (0 : Nat) < 4294967296; omega), J.nil _ _, bF h3 (Array.getElem?_eq_some_iff.1 h3).1 ⟨_, _, rfl, J.nil _ _, J.nil _ _⟩, J.nil _ _⟩ { imports := nofun, globals := nofun, exports := nofun, elems := nofun, codes := fun x hx => by simp [k1] at hx; subst hx; exact ⟨by simp, fit_nil⟩, datas := nofun } hT).mono ?_
 intro e w' h
 obtain ⟨A, c, h1, _, _, _, h5, h6⟩ := bR h k1_enc
 exact ⟨A, c, h1, h5, h6⟩
theorem k2_call (he : cX) (g : Nat) (W : World) (hT : Tb W) (h1 : W.heap[g]? = some (.cells #[.int .u32 0] 28 (0, 0))) :
  Calls Tryz.prog 8 #[.agg #[.slice none 0 0, .slice none 0 0, .slice (some ⟨g, 0, none⟩) 1 1, .slice none 0 0, .slice none 0 0, .slice none 0 0, .slice none 0 0, .bool false, .int .u32 0, .slice none 0 0, .slice none 0 0, .slice none 0 0]] W fun e w' => e = .returned (.tuple #[.slice none 0 0, .int .i64 2]) ∧ Below W.heap.size W w' := by
 refine (he k2 (.slice none 0 0) (.slice none 0 0) (.slice (some ⟨g, 0, none⟩) 1 1) (.slice none 0 0) (.slice none 0 0) (.slice none 0 0) (.slice none 0 0) (.slice none 0 0) (.slice none 0 0) (.slice none 0 0) W ⟨J.nil _ _, J.nil _ _, bF h1 (Array.getElem?_eq_some_iff.1 h1).1 ⟨rfl, by decide⟩, J.nil _ _, J.nil _ _, J.nil _ _, J.nil _ _, (by show (0 : Nat) < 4294967296; omega), J.nil _ _, J.nil _ _, J.nil _ _⟩ { imports := nofun, globals := nofun, exports := nofun, elems := nofun, codes := nofun, datas := nofun } hT).mono ?_
 intro e w' h
 exact cU h k2_enc
theorem k3_call (he : cX) (g : Nat) (W : World) (hT : Tb W) (h1 : W.heap[g]? = some (.cells #[.string ⟨#[]⟩, .string ⟨#[]⟩, .int .u8 4, .int .u32 0, .int .u32 0, .int .i64 0, .int .u8 0, .bool false] 61 (0, 0))) :
  Calls Tryz.prog 8 #[.agg #[.slice none 0 0, .slice (some ⟨g, 0, none⟩) 1 1, .slice none 0 0, .slice none 0 0, .slice none 0 0, .slice none 0 0, .slice none 0 0, .bool false, .int .u32 0, .slice none 0 0, .slice none 0 0, .slice none 0 0]] W fun e w' => e = .returned (.tuple #[.slice none 0 0, .int .i64 2]) ∧ Below W.heap.size W w' := by
 refine (he k3 (.slice none 0 0) (.slice (some ⟨g, 0, none⟩) 1 1) (.slice none 0 0) (.slice none 0 0) (.slice none 0 0) (.slice none 0 0) (.slice none 0 0) (.slice none 0 0) (.slice none 0 0) (.slice none 0 0) W ⟨J.nil _ _, bF h1 (Array.getElem?_eq_some_iff.1 h1).1 ⟨rfl, by decide, by show (0 : Nat) < 4294967296 ∧ (-9223372036854775808 : Int) ≤ 0 ∧ (0 : Int) ≤ 9223372036854775807; omega⟩, J.nil _ _, J.nil _ _, J.nil _ _, J.nil _ _, J.nil _ _, (by show (0 : Nat) < 4294967296; omega), J.nil _ _, J.nil _ _, J.nil _ _⟩ { imports := fun x hx => by simp [k3] at hx; subst hx; exact ⟨by simp, by simp⟩, globals := nofun, exports := nofun, elems := nofun, codes := nofun, datas := nofun } hT).mono ?_
 intro e w' h
 exact cU h k3_enc
theorem k4_call (he : cX) (g : Nat) (W : World) (hT : Tb W) (h1 : W.heap[g]? = some (.cells #[.int .u8 124, .bool false, .slice none 0 0] 63 (0, 0))) :
  Calls Tryz.prog 8 #[.agg #[.slice none 0 0, .slice none 0 0, .slice none 0 0, .slice none 0 0, .slice none 0 0, .slice (some ⟨g, 0, none⟩) 1 1, .slice none 0 0, .bool false, .int .u32 0, .slice none 0 0, .slice none 0 0, .slice none 0 0]] W fun e w' => e = .returned (.tuple #[.slice none 0 0, .int .i64 2]) ∧ Below W.heap.size W w' := by
 refine (he k4 (.slice none 0 0) (.slice none 0 0) (.slice none 0 0) (.slice none 0 0) (.slice none 0 0) (.slice (some ⟨g, 0, none⟩) 1 1) (.slice none 0 0) (.slice none 0 0) (.slice none 0 0) (.slice none 0 0) W ⟨J.nil _ _, J.nil _ _, J.nil _ _, J.nil _ _, J.nil _ _, bF h1 (Array.getElem?_eq_some_iff.1 h1).1 ⟨_, rfl, J.nil _ _⟩, J.nil _ _, (by show (0 : Nat) < 4294967296; omega), J.nil _ _, J.nil _ _, J.nil _ _⟩ { imports := nofun, globals := fun x hx => by simp [k4] at hx; subst hx; exact fit_nil, exports := nofun, elems := nofun, codes := nofun, datas := nofun } hT).mono ?_
 intro e w' h
 exact cU h k4_enc
theorem known7 (he : cX) (w : World) (hT : Tb w) : Calls Tryz.prog 6 #[] w fun e w' => e = .returned (.bool true) ∧ Below w.heap.size w w' := by
 have HE := Y he
 have HT := Y hT
 clear he hT
 go_enter Tryz.func6, Tryz.ntmps6
 go_upto_region 2 with (go_at_call 8; refine (k0_call HE.out _ HT.out).mono ?_; rintro e w1 ⟨A1, c1, rfl, hh, hb⟩; have HH1 := Y hh; have HB1 := Y hb; clear hh hb)
 have HB3 : Hid (Below w1.heap.size w1 (((w1.alloc (.cells #[.slice none 0 0, .slice none 0 0] 50)).alloc (.cells #[.int .u32 0] 28)).alloc (.cells #[.slice none 0 0, .slice none 0 0] 54))) := Y ((((Below.refl _ _).alloc (Nat.le_refl _) _).alloc (by simp) _).alloc (by simp; omega) _)
 have HC3 := Y (k1_call HE.out w1.heap.size (w1.heap.size + 1) (w1.heap.size + 2) (((w1.alloc (.cells #[.slice none 0 0, .slice none 0 0] 50)).alloc (.cells #[.int .u32 0] 28)).alloc (.cells #[.slice none 0 0, .slice none 0 0] 54)) (HT.out.on (HB1.out.trans (HB3.out.mono HB1.out.size))) ((Below.heap_alloc _ _ _ (by simp; omega)).trans ((Below.heap_alloc _ _ _ (by simp)).trans (fc (by simp)))) ((Below.heap_alloc _ _ _ (by simp)).trans (fc (by simp))) (fc (by simp)))
 go_upto_region 3 with (go_at_call 8; refine HC3.out.mono ?_; rintro e w2 ⟨A2, c2, rfl, hh, hb⟩; have HB2 := Y (HB3.out.trans (hb.mono HB3.out.size)); have HH2 := Y hh; clear hh hb)
 clear HC3 HB3
 obtain ⟨W0, hW0⟩ : ∃ W0 : ByteArray, W0 = ⟨Sec.begin8.toArray⟩ := ⟨_, rfl⟩
 obtain ⟨V0, hV0⟩ : ∃ V0 : ByteArray, V0 = ⟨(Sec.begin8 ++ l16).toArray⟩ := ⟨_, rfl⟩
 have hadd : W0 ++ ⟨#[1, 4, 1, 96, 0, 0, 3, 2, 1, 0, 10, 4, 1, 2, 0, 11]⟩ = V0 := by rw [hW0, hV0]; rfl
 have hws : ¬ (9223372036854775807 < W0.size + 16) := by rw [hW0]; decide
 have HWW := Y hW0
 have HVV := Y hV0
 clear hW0 hV0
 have HB02 := Y (HB1.out.trans (HB2.out.mono HB1.out.size))
 go_upto_region 4 with (go_at_call 13; refine (begin_any _).mono ?_; rintro e w3 ⟨v3, rfl, ho3, hb3⟩; obtain ⟨A3, c3, (rfl : v3 = .slice A3 8 c3), _, _, _, _, hh3⟩ := bG ho3; have HB3 := Y (HB02.out.trans (hb3.mono HB02.out.size)); have cv1 := bQ hh3 (show 8 = Sec.begin8.length from rfl) c3; have cv2 := bQ ((HH1.out.on HB2.out).on hb3) (show 8 = Sec.begin8.length from rfl) c1; have cv3 := bQ (HH2.out.on hb3) (show 24 = (Sec.begin8 ++ l16).length from rfl) c2; rw [← HWW.out] at cv1 cv2; rw [← HVV.out] at cv3; clear ho3 hb3 hh3)
 clear HH1 HH2 HB1 HB2 HB02
 go_upto_region 6 with fail
 clear hadd hws cv1 cv2 cv3 HWW HVV
 go_upto_region 7 with fail
 obtain ⟨wq, hwq, hbq, n0, n1, n2, n3⟩ := four_new w3 [.int .u32 0] [.string ⟨#[]⟩, .string ⟨#[]⟩, .int .u8 4, .int .u32 0, .int .u32 0, .int .i64 0, .int .u8 0, .bool false] [.int .u8 124, .bool false, .slice none 0 0] [.slice none 0 0, .slice none 0 0, .slice (some ⟨w3.heap.size, 0, none⟩) 1 1, .slice none 0 0, .slice none 0 0, .slice none 0 0, .slice none 0 0, .bool false, .int .u32 0, .slice none 0 0, .slice none 0 0, .slice none 0 0, .slice none 0 0, .slice (some ⟨(w3.heap.size + 1), 0, none⟩) 1 1, .slice none 0 0, .slice none 0 0, .slice none 0 0, .slice none 0 0, .slice none 0 0, .bool false, .int .u32 0, .slice none 0 0, .slice none 0 0, .slice none 0 0, .slice none 0 0, .slice none 0 0, .slice none 0 0, .slice none 0 0, .slice none 0 0, .slice (some ⟨(w3.heap.size + 2), 0, none⟩) 1 1, .slice none 0 0, .bool false, .int .u32 0, .slice none 0 0, .slice none 0 0, .slice none 0 0] 28 61 63 33
 have HQ1 := Y n0
 have HQ2 := Y n1
 have HQ3 := Y n2
 have HQ4 := Y n3
 have HBQ := Y (HB3.out.trans (hbq.mono HB3.out.size))
 rw [hwq]
 clear n0 n1 n2 n3 hbq hwq
 obtain ⟨Q, hQ⟩ : ∃ Q, w3.heap.size = Q := ⟨_, rfl⟩
 rw [hQ] at HQ1 HQ2 HQ3 HQ4 ⊢
 clear hQ
 go_loopw [57] (fun i wr => ∃ j : Nat, j ≤ 3 ∧ i = .int .i64 (j : Int) ∧ Hid (Below wq.heap.size wq wr)) (fun i _ => 3 - (intOf i).toNat)
 case atStart => exact ⟨0, by omega, rfl, Y (Below.refl _ _)⟩
 case round =>
  obtain ⟨j, hj, rfl, HB⟩ := hrel
  have HBX := Y (HBQ.out.trans (HB.out.mono HBQ.out.size))
  have h36 := aF HB.out HQ4.out
  by_cases hj3 : j < 3
  ·have hc : j = 0 ∨ j = 1 ∨ j = 2 := by omega
   rcases hc with rfl | rfl | rfl
   ·have z0 : wr.cell? ⟨Q + 3, 0, none⟩ = some (.slice none 0 0) := by rw [cell_of_row wr _ 0 _ _ (0, 0) h36]; rfl
    have z1 : wr.cell? ⟨Q + 3, 1, none⟩ = some (.slice none 0 0) := by rw [cell_of_row wr _ 1 _ _ (0, 0) h36]; rfl
    have z2 : wr.cell? ⟨Q + 3, 2, none⟩ = some (.slice (some ⟨Q, 0, none⟩) 1 1) := by rw [cell_of_row wr _ 2 _ _ (0, 0) h36]; rfl
    have z3 : wr.cell? ⟨Q + 3, 3, none⟩ = some (.slice none 0 0) := by rw [cell_of_row wr _ 3 _ _ (0, 0) h36]; rfl
    have z4 : wr.cell? ⟨Q + 3, 4, none⟩ = some (.slice none 0 0) := by rw [cell_of_row wr _ 4 _ _ (0, 0) h36]; rfl
    have z5 : wr.cell? ⟨Q + 3, 5, none⟩ = some (.slice none 0 0) := by rw [cell_of_row wr _ 5 _ _ (0, 0) h36]; rfl
    have z6 : wr.cell? ⟨Q + 3, 6, none⟩ = some (.slice none 0 0) := by rw [cell_of_row wr _ 6 _ _ (0, 0) h36]; rfl
    have z7 : wr.cell? ⟨Q + 3, 7, none⟩ = some (.bool false) := by rw [cell_of_row wr _ 7 _ _ (0, 0) h36]; rfl
    have z8 : wr.cell? ⟨Q + 3, 8, none⟩ = some (.int .u32 0) := by rw [cell_of_row wr _ 8 _ _ (0, 0) h36]; rfl
    have z9 : wr.cell? ⟨Q + 3, 9, none⟩ = some (.slice none 0 0) := by rw [cell_of_row wr _ 9 _ _ (0, 0) h36]; rfl
    have z10 : wr.cell? ⟨Q + 3, 10, none⟩ = some (.slice none 0 0) := by rw [cell_of_row wr _ 10 _ _ (0, 0) h36]; rfl
    have z11 : wr.cell? ⟨Q + 3, 11, none⟩ = some (.slice none 0 0) := by rw [cell_of_row wr _ 11 _ _ (0, 0) h36]; rfl
    have HBA : Hid (Below wr.heap.size wr (wr.alloc (.cells #[.slice none 0 0, .slice none 0 0, .slice (some ⟨Q, 0, none⟩) 1 1, .slice none 0 0, .slice none 0 0, .slice none 0 0, .slice none 0 0, .bool false, .int .u32 0, .slice none 0 0, .slice none 0 0, .slice none 0 0] 33))) := Y ((Below.refl _ _).alloc (Nat.le_refl _) _)
    have HC := Y (k2_call HE.out Q (wr.alloc (.cells #[.slice none 0 0, .slice none 0 0, .slice (some ⟨Q, 0, none⟩) 1 1, .slice none 0 0, .slice none 0 0, .slice none 0 0, .slice none 0 0, .bool false, .int .u32 0, .slice none 0 0, .slice none 0 0, .slice none 0 0] 33)) (HT.out.on (HBX.out.trans (HBA.out.mono HBX.out.size))) (aF HBA.out (aF HB.out HQ1.out)))
    clear h36 hj3
    go_wp2_with (go_at_call 8; refine HC.out.mono ?_; rintro e w5 ⟨rfl, hb⟩; have HB5 := Y (HB.out.trans ((HBA.out.trans (hb.mono HBA.out.size)).mono HB.out.size)); clear hb)
    go_roundw
    case rel => exact ⟨1, by omega, by go_num, HB5⟩
    case measure => simp [intOf]
   ·have z0 : wr.cell? ⟨Q + 3, 12, none⟩ = some (.slice none 0 0) := by rw [cell_of_row wr _ 12 _ _ (0, 0) h36]; rfl
    have z1 : wr.cell? ⟨Q + 3, 13, none⟩ = some (.slice (some ⟨(Q + 1), 0, none⟩) 1 1) := by rw [cell_of_row wr _ 13 _ _ (0, 0) h36]; rfl
    have z2 : wr.cell? ⟨Q + 3, 14, none⟩ = some (.slice none 0 0) := by rw [cell_of_row wr _ 14 _ _ (0, 0) h36]; rfl
    have z3 : wr.cell? ⟨Q + 3, 15, none⟩ = some (.slice none 0 0) := by rw [cell_of_row wr _ 15 _ _ (0, 0) h36]; rfl
    have z4 : wr.cell? ⟨Q + 3, 16, none⟩ = some (.slice none 0 0) := by rw [cell_of_row wr _ 16 _ _ (0, 0) h36]; rfl
    have z5 : wr.cell? ⟨Q + 3, 17, none⟩ = some (.slice none 0 0) := by rw [cell_of_row wr _ 17 _ _ (0, 0) h36]; rfl
    have z6 : wr.cell? ⟨Q + 3, 18, none⟩ = some (.slice none 0 0) := by rw [cell_of_row wr _ 18 _ _ (0, 0) h36]; rfl
    have z7 : wr.cell? ⟨Q + 3, 19, none⟩ = some (.bool false) := by rw [cell_of_row wr _ 19 _ _ (0, 0) h36]; rfl
    have z8 : wr.cell? ⟨Q + 3, 20, none⟩ = some (.int .u32 0) := by rw [cell_of_row wr _ 20 _ _ (0, 0) h36]; rfl
    have z9 : wr.cell? ⟨Q + 3, 21, none⟩ = some (.slice none 0 0) := by rw [cell_of_row wr _ 21 _ _ (0, 0) h36]; rfl
    have z10 : wr.cell? ⟨Q + 3, 22, none⟩ = some (.slice none 0 0) := by rw [cell_of_row wr _ 22 _ _ (0, 0) h36]; rfl
    have z11 : wr.cell? ⟨Q + 3, 23, none⟩ = some (.slice none 0 0) := by rw [cell_of_row wr _ 23 _ _ (0, 0) h36]; rfl
    have HBA : Hid (Below wr.heap.size wr (wr.alloc (.cells #[.slice none 0 0, .slice (some ⟨(Q + 1), 0, none⟩) 1 1, .slice none 0 0, .slice none 0 0, .slice none 0 0, .slice none 0 0, .slice none 0 0, .bool false, .int .u32 0, .slice none 0 0, .slice none 0 0, .slice none 0 0] 33))) := Y ((Below.refl _ _).alloc (Nat.le_refl _) _)
    have HC := Y (k3_call HE.out (Q + 1) (wr.alloc (.cells #[.slice none 0 0, .slice (some ⟨(Q + 1), 0, none⟩) 1 1, .slice none 0 0, .slice none 0 0, .slice none 0 0, .slice none 0 0, .slice none 0 0, .bool false, .int .u32 0, .slice none 0 0, .slice none 0 0, .slice none 0 0] 33)) (HT.out.on (HBX.out.trans (HBA.out.mono HBX.out.size))) (aF HBA.out (aF HB.out HQ2.out)))
    clear h36 hj3
    go_wp2_with (go_at_call 8; refine HC.out.mono ?_; rintro e w5 ⟨rfl, hb⟩; have HB5 := Y (HB.out.trans ((HBA.out.trans (hb.mono HBA.out.size)).mono HB.out.size)); clear hb)
    go_roundw
    case rel => exact ⟨2, by omega, by go_num, HB5⟩
    case measure => simp [intOf]
   ·have z0 : wr.cell? ⟨Q + 3, 24, none⟩ = some (.slice none 0 0) := by rw [cell_of_row wr _ 24 _ _ (0, 0) h36]; rfl
    have z1 : wr.cell? ⟨Q + 3, 25, none⟩ = some (.slice none 0 0) := by rw [cell_of_row wr _ 25 _ _ (0, 0) h36]; rfl
    have z2 : wr.cell? ⟨Q + 3, 26, none⟩ = some (.slice none 0 0) := by rw [cell_of_row wr _ 26 _ _ (0, 0) h36]; rfl
    have z3 : wr.cell? ⟨Q + 3, 27, none⟩ = some (.slice none 0 0) := by rw [cell_of_row wr _ 27 _ _ (0, 0) h36]; rfl
    have z4 : wr.cell? ⟨Q + 3, 28, none⟩ = some (.slice none 0 0) := by rw [cell_of_row wr _ 28 _ _ (0, 0) h36]; rfl
    have z5 : wr.cell? ⟨Q + 3, 29, none⟩ = some (.slice (some ⟨(Q + 2), 0, none⟩) 1 1) := by rw [cell_of_row wr _ 29 _ _ (0, 0) h36]; rfl
    have z6 : wr.cell? ⟨Q + 3, 30, none⟩ = some (.slice none 0 0) := by rw [cell_of_row wr _ 30 _ _ (0, 0) h36]; rfl
    have z7 : wr.cell? ⟨Q + 3, 31, none⟩ = some (.bool false) := by rw [cell_of_row wr _ 31 _ _ (0, 0) h36]; rfl
    have z8 : wr.cell? ⟨Q + 3, 32, none⟩ = some (.int .u32 0) := by rw [cell_of_row wr _ 32 _ _ (0, 0) h36]; rfl
    have z9 : wr.cell? ⟨Q + 3, 33, none⟩ = some (.slice none 0 0) := by rw [cell_of_row wr _ 33 _ _ (0, 0) h36]; rfl
    have z10 : wr.cell? ⟨Q + 3, 34, none⟩ = some (.slice none 0 0) := by rw [cell_of_row wr _ 34 _ _ (0, 0) h36]; rfl
    have z11 : wr.cell? ⟨Q + 3, 35, none⟩ = some (.slice none 0 0) := by rw [cell_of_row wr _ 35 _ _ (0, 0) h36]; rfl
    have HBA : Hid (Below wr.heap.size wr (wr.alloc (.cells #[.slice none 0 0, .slice none 0 0, .slice none 0 0, .slice none 0 0, .slice none 0 0, .slice (some ⟨(Q + 2), 0, none⟩) 1 1, .slice none 0 0, .bool false, .int .u32 0, .slice none 0 0, .slice none 0 0, .slice none 0 0] 33))) := Y ((Below.refl _ _).alloc (Nat.le_refl _) _)
    have HC := Y (k4_call HE.out (Q + 2) (wr.alloc (.cells #[.slice none 0 0, .slice none 0 0, .slice none 0 0, .slice none 0 0, .slice none 0 0, .slice (some ⟨(Q + 2), 0, none⟩) 1 1, .slice none 0 0, .bool false, .int .u32 0, .slice none 0 0, .slice none 0 0, .slice none 0 0] 33)) (HT.out.on (HBX.out.trans (HBA.out.mono HBX.out.size))) (aF HBA.out (aF HB.out HQ3.out)))
    clear h36 hj3
    go_wp2_with (go_at_call 8; refine HC.out.mono ?_; rintro e w5 ⟨rfl, hb⟩; have HB5 := Y (HB.out.trans ((HBA.out.trans (hb.mono HBA.out.size)).mono HB.out.size)); clear hb)
    go_roundw
    case rel => exact ⟨3, by omega, by go_num, HB5⟩
    case measure => simp [intOf]
  ·obtain rfl : j = 3 := by omega
   clear h36
   go_wp2_with fail
   go_ret
   exact ⟨rfl, HBX.out⟩
end Go.Proofs.YtgnbkfkiigcdgaaGreatDoor
namespace Bin
def l1 : List UInt8 := [1, 4, 1, 96, 0, 0, 3, 2, 1, 0, 10, 4, 1, 2, 0, 11]
def l2 : List UInt8 := [1, 5, 1, 96, 1, 125, 0]
def l3 : List UInt8 := [3, 2, 1, 0]
def l4 : List UInt8 := [5, 3, 1, 0, 2]
def l5 : List UInt8 := [5, 4, 1, 1, 2, 3]
def m1 : M := ⟨[⟨[], []⟩], [], [0], [], [], [], [], false, 0, [], [⟨[], []⟩], []⟩
def m4 : M := ⟨[], [], [], [], [⟨2, -1⟩], [], [], false, 0, [], [], []⟩
def m5 : M := ⟨[], [], [], [], [⟨2, 3⟩], [], [], false, 0, [], [], []⟩
end Bin
namespace Go.Proofs.YtgnbkfkiigcdgaaGreatDoor
open Go.RowKit Ins Bin Sec
theorem J.one {α : Type} [Lay α] {W : World} {g : Nat} {x : α} (h : HasL W (fun _ => True) (some ⟨g, 0, none⟩) [x]) : J W (fun _ => True) [x] (.slice (some ⟨g, 0, none⟩) 1 1) := ⟨_, 1, rfl, Nat.le_refl _, by unfold maxLen; omega, by simp, h⟩
theorem modV_at {w : World} {S : Nat → Prop} {m : M} {v : Value} (h : ModV w S m v) : ∃ a1 x1 a2 x2 a3 x3 a4 x4 a5 x5 a6 x6 a7 x7 a8 x8 a9 x9 a10 x10, v = .agg #[.slice a1 m.types.length x1, .slice a2 m.imports.length x2, .slice a3 m.funcs.length x3, .slice a4 m.tables.length x4, .slice a5 m.mems.length x5, .slice a6 m.globals.length x6, .slice a7 m.exports.length x7, .bool m.hasStart, .int .u32 (m.start : Int), .slice a8 m.elems.length x8, .slice a9 m.codes.length x9, .slice a10 m.datas.length x10] ∧ RepM w S m (.slice a1 m.types.length x1) (.slice a2 m.imports.length x2) (.slice a3 m.funcs.length x3) (.slice a4 m.tables.length x4) (.slice a5 m.mems.length x5) (.slice a6 m.globals.length x6) (.slice a7 m.exports.length x7) (.slice a8 m.elems.length x8) (.slice a9 m.codes.length x9) (.slice a10 m.datas.length x10) := by
 obtain ⟨v1, v2, v3, v4, v5, v6, v7, v8, v9, v10, hv, hr⟩ := h
 have hr' := hr
 obtain ⟨⟨a1, x1, rfl, _⟩, ⟨a2, x2, rfl, _⟩, ⟨a3, x3, rfl, _⟩, ⟨a4, x4, rfl, _⟩, ⟨a5, x5, rfl, _⟩, ⟨a6, x6, rfl, _⟩, ⟨a7, x7, rfl, _⟩, _, ⟨a8, x8, rfl, _⟩, ⟨a9, x9, rfl, _⟩, ⟨a10, x10, rfl, _⟩⟩ := hr'
 exact ⟨a1, x1, a2, x2, a3, x3, a4, x4, a5, x5, a6, x6, a7, x7, a8, x8, a9, x9, a10, x10, hv, hr⟩
theorem dPost_own {l : List UInt8} {m : M} (h : dec l = .ok m) {w w' : World} {e : Ending} (hp : DPost l w e w') : ∃ a1 x1 a2 x2 a3 x3 a4 x4 a5 x5 a6 x6 a7 x7 a8 x8 a9 x9 a10 x10, e = .returned (.tuple #[.agg #[.slice a1 m.types.length x1, .slice a2 m.imports.length x2, .slice a3 m.funcs.length x3, .slice a4 m.tables.length x4, .slice a5 m.mems.length x5, .slice a6 m.globals.length x6, .slice a7 m.exports.length x7, .bool m.hasStart, .int .u32 (m.start : Int), .slice a8 m.elems.length x8, .slice a9 m.codes.length x9, .slice a10 m.datas.length x10], .int .i64 0]) ∧ RepM w' (fun b => w.heap.size ≤ b) m (.slice a1 m.types.length x1) (.slice a2 m.imports.length x2) (.slice a3 m.funcs.length x3) (.slice a4 m.tables.length x4) (.slice a5 m.mems.length x5) (.slice a6 m.globals.length x6) (.slice a7 m.exports.length x7) (.slice a8 m.elems.length x8) (.slice a9 m.codes.length x9) (.slice a10 m.datas.length x10) ∧ Below w.heap.size w w' := by
 unfold DPost at hp
 rw [h] at hp
 obtain ⟨hb, v, he, hm⟩ := hp
 obtain ⟨a1, x1, a2, x2, a3, x3, a4, x4, a5, x5, a6, x6, a7, x7, a8, x8, a9, x9, a10, x10, hv, hr⟩ := modV_at hm
 exact ⟨a1, x1, a2, x2, a3, x3, a4, x4, a5, x5, a6, x6, a7, x7, a8, x8, a9, x9, a10, x10, by rw [he, hv], hr, hb⟩
end Go.Proofs.YtgnbkfkiigcdgaaGreatDoor
namespace Bin
open Leb Ins Sec
def Sm {α : Type} (p : P α) (Q : α → Prop) : Prop := ∀ l x k, l.length ≤ 4294967296 → p l = .ok (x, k) → Q x
theorem Sm.ret {α : Type} {a : α} {Q : α → Prop} (h : Q a) : Sm (P.ret a) Q := fun l x k _ hx => by
 obtain ⟨rfl, _⟩ := cr hx
 exact h
theorem Sm.fail {α : Type} {e : Nat} {Q : α → Prop} : Sm (P.fail e : P α) Q := fun l x k _ hx => by cases hx
theorem Sm.then {α β : Type} {p : P α} {f : α → P β} {R : α → Prop} {Q : β → Prop} (hp : Sm p R) (hf : ∀ a, R a → Sm (f a) Q) : Sm (p.then f) Q := fun l x k hl hx => by
 obtain ⟨a, i, j, h1, h2, _⟩ := P.then_ok hx
 exact hf a (hp l a i hl h1) (l.drop i) x j (by rw [List.length_drop]; omega) h2
theorem Sm.any {α : Type} (p : P α) : Sm p (fun _ => True) := fun _ _ _ _ _ => trivial
theorem Sm.ite {α : Type} {c : Prop} [Decidable c] {p q : P α} {Q : α → Prop} (hp : Sm p Q) (hq : Sm q Q) : Sm (if c then p else q) Q := by split <;> assumption
end Bin
namespace Go.Proofs.YtgnbkfkiigcdgaaGreatDoor
open Bin Sec
end Go.Proofs.YtgnbkfkiigcdgaaGreatDoor
namespace Bin
open Leb Ins Sec
def Er {α : Type} (p : P α) : Prop := ∀ l k, p l = .error k → k ≠ 0
theorem Er.ret {α : Type} {a : α} : Er (P.ret a) := fun _ _ h => by cases h
theorem Er.fail {α : Type} {e : Nat} (h : e ≠ 0) : Er (P.fail e : P α) := fun _ _ hx => by injection hx with hx; subst hx; exact h
theorem Er.then {α β : Type} {p : P α} {f : α → P β} (hp : Er p) (hf : ∀ a, Er (f a)) : Er (p.then f) := fun l k h => by
 unfold P.then at h
 split at h
 ·next e he => injection h with h; subst h; exact hp _ _ he
 ·next a i he =>
  split at h
  ·next e he2 => injection h with h; subst h; exact hf _ _ _ he2
  ·cases h
theorem Er.ite {α : Type} {c : Prop} [Decidable c] {p q : P α} (hp : Er p) (hq : Er q) : Er (if c then p else q) := by split <;> assumption
end Bin
