/-
  Encode of layer 7: its contract, over those of contents and Join.
-/
import Derived.Test.YtgnbkfkiigcdgaaGreatDoorP23
import Derived.Test.YtgnbkfkiigcdgaaGreatDoorP16
import Derived.Deep.Cut
import Derived.WalkKit
import Derived.ProofKit
import Derived.OpenShut
import Derived.Below
import Derived.Carry
import Derived.ChangeSame
import Derived.WideKeyArgs
import Derived.Test.YtgnbkfkiigcdgaaGreatDoorP01
import Derived.JoinedTies
import Derived.Test.YtgnbkfkiigcdgaaGreatDoorP05
import Derived.Deep.Slices
import Derived.Deep.Fields
import Derived.SizedLaws
namespace Bin
open Ins Sec Leb
theorem RelS.small : ∀ {a b : List S}, RelS a b → (Sec.encAll b).length ≤ 65547 * b.length
  | [], [], _ => by simp [Sec.encAll]
  | s :: a, t :: b, h => by
    have ih := RelS.small h.2
    have ht : t.b.length ≤ 65536 := by
      rcases h.1.2 with ⟨h1, h2⟩ | ⟨_, h2⟩
      · rw [h2]; exact h1
      · omega
    have := encU_le10 t.b.length (by omega)
    simp only [Sec.encAll, List.flatMap_cons, Sec.enc, List.length_append, List.length_cons] at ih ⊢
    omega
  | [], _ :: _, h => h.elim
  | _ :: _, [], h => h.elim
theorem RelS.joined {a b : List S} (h : RelS a b) : b = a ∨ 65536 < (Sec.join a).length ∧ 65536 < (Sec.join b).length := by
  rcases h.join with h | ⟨h1, h2⟩
  · exact .inl h
  · refine .inr ⟨?_, ?_⟩ <;> (simp only [Sec.join, List.length_append]; omega)
end Bin
namespace Go.Proofs.YtgnbkfkiigcdgaaGreatDoor
open Go.RowKit Ins Bin
/-- What a call of Encode comes to. -/
def EncPost (m : M) (w : World) (e : Ending) (w' : World) : Prop :=
  Below w.heap.size w w' ∧ match encode m with
    | .error k => e = .returned (.tuple #[.slice none 0 0, .int .i64 (k : Int)])
    | .ok b => ∃ A c, e = .returned (.tuple #[.slice A b.length c, .int .i64 0]) ∧ b.length ≤ c ∧ c ≤ maxLen ∧ (A = none → c = 0) ∧ Has w' w'.heap.size A b
def EncOk : Prop := ∀ (m : M) (v1 v2 v3 v4 v5 v6 v7 v8 v9 v10 : Value) (w : World), RepM w (· < w.heap.size) m v1 v2 v3 v4 v5 v6 v7 v8 v9 v10 → FitM m → Tb w → Calls Tryz.prog 8 #[.agg (modCells m v1 v2 v3 v4 v5 v6 v7 v8 v9 v10)] w (EncPost m w)
theorem encPost_no {m : M} {w w' : World} (h : ¬ okM m) (hb : Below w.heap.size w w') : EncPost m w (.returned (.tuple #[.slice none 0 0, .int .i64 2])) w' := by
  refine ⟨hb, ?_⟩
  unfold encode
  rw [if_neg h]
  rfl
theorem encPost_long {m : M} {w w' : World} (h : okM m) (hl : 65536 < (encM m).length) (hb : Below w.heap.size w w') : EncPost m w (.returned (.tuple #[.slice none 0 0, .int .i64 3])) w' := by
  refine ⟨hb, ?_⟩
  unfold encode
  rw [if_pos h, if_pos hl]
  rfl
theorem encPost_yes {m : M} {w w' : World} {A : Option Addr} {n c : Nat} (h : okM m) (hl : (encM m).length ≤ 65536) (hb : Below w.heap.size w w') (hn : (encM m).length = n) (hc : n ≤ c) (hcm : c ≤ maxLen) (hA : A = none → c = 0) (hh : Has w' w'.heap.size A (encM m)) : EncPost m w (.returned (.tuple #[.slice A n c, .int .i64 0])) w' := by
  refine ⟨hb, ?_⟩
  rw [encode_of h hl]
  subst hn
  exact ⟨A, c, rfl, hc, hcm, hA, hh⟩
set_option maxRecDepth 100000 in
set_option maxHeartbeats 1000000 in
theorem enc_ok (hc : ContOk) (hj : JoinOk) : EncOk := by
  intro m v1 v2 v3 v4 v5 v6 v7 v8 v9 v10 w hM hF hT
  have HM := Lib.hid hM
  obtain ⟨A1, c1, rfl, _⟩ := hM.types
  obtain ⟨A2, c2, rfl, _⟩ := hM.imports
  obtain ⟨A3, c3, rfl, _⟩ := hM.funcs
  obtain ⟨A4, c4, rfl, _⟩ := hM.tables
  obtain ⟨A5, c5, rfl, _⟩ := hM.mems
  obtain ⟨A6, c6, rfl, _⟩ := hM.globals
  obtain ⟨A7, c7, rfl, _⟩ := hM.exports
  obtain ⟨A9, c9, rfl, _⟩ := hM.elems
  obtain ⟨A10, c10, rfl, _⟩ := hM.codes
  obtain ⟨A11, c11, rfl, _⟩ := hM.datas
  clear hM
  generalize hcs : modCells m (.slice A1 m.types.length c1) (.slice A2 m.imports.length c2) (.slice A3 m.funcs.length c3) (.slice A4 m.tables.length c4) (.slice A5 m.mems.length c5) (.slice A6 m.globals.length c6) (.slice A7 m.exports.length c7) (.slice A9 m.elems.length c9) (.slice A10 m.codes.length c10) (.slice A11 m.datas.length c11) = cs
  have HSC : Hid (∀ W, Below w.heap.size w W → W.heap[w.heap.size]? = some (.cells cs 33 (0, 0)) → Calls Tryz.prog 15 #[.pointer (some ⟨w.heap.size, 0, none⟩)] W (SecsPost m W)) := Lib.hid (fun W hb hx => by
    subst hcs
    exact esections_any hc w.heap.size m _ _ _ _ _ _ _ _ _ _ W hx ((HM.out.on hb).more' (fun k hk => Nat.lt_of_lt_of_le hk hb.size)) hF (hT.on hb))
  unfold modCells at hcs
  generalize m.types.length = n1 at hcs
  generalize m.imports.length = n2 at hcs
  generalize m.funcs.length = n3 at hcs
  generalize m.tables.length = n4 at hcs
  generalize m.mems.length = n5 at hcs
  generalize m.globals.length = n6 at hcs
  generalize m.exports.length = n7 at hcs
  generalize m.elems.length = n9 at hcs
  generalize m.codes.length = n10 at hcs
  generalize m.datas.length = n11 at hcs
  generalize m.hasStart = hs at hcs
  generalize (m.start : Int) = st at hcs
  subst hcs
  have HX0 := Lib.hid (heap_alloc_new w (.cells #[.slice A1 n1 c1, .slice A2 n2 c2, .slice A3 n3 c3, .slice A4 n4 c4, .slice A5 n5 c5, .slice A6 n6 c6, .slice A7 n7 c7, .bool hs, .int .u32 st, .slice A9 n9 c9, .slice A10 n10 c10, .slice A11 n11 c11] 33))
  have HB0 : Hid (Below w.heap.size w (w.alloc (.cells #[.slice A1 n1 c1, .slice A2 n2 c2, .slice A3 n3 c3, .slice A4 n4 c4, .slice A5 n5 c5, .slice A6 n6 c6, .slice A7 n7 c7, .bool hs, .int .u32 st, .slice A9 n9 c9, .slice A10 n10 c10, .slice A11 n11 c11] 33))) := Lib.hid ((Below.refl _ _).alloc (Nat.le_refl _) _)
  have HC := Lib.hid (HSC.out _ HB0.out HX0.out)
  have HJ := Lib.hid hj
  clear HM HSC hF hT hj hc
  by_cases hok : okM m
  · go_enter Tryz.func8, Tryz.ntmps8
    go_upto_region 1 with fail
    generalize w.alloc (.cells #[.slice A1 n1 c1, .slice A2 n2 c2, .slice A3 n3 c3, .slice A4 n4 c4, .slice A5 n5 c5, .slice A6 n6 c6, .slice A7 n7 c7, .bool hs, .int .u32 st, .slice A9 n9 c9, .slice A10 n10 c10, .slice A11 n11 c11] 33) = w0 at HX0 HB0 HC ⊢
    go_upto_region 4 with (go_at_call 15; refine HC.out.mono ?_; rintro e w1 ⟨hb, hyes, _⟩; obtain ⟨A, c, xs, rfl, hc1, hc2, hX, hR⟩ := hyes hok; have HB1 := Lib.hid (HB0.out.trans (hb.mono HB0.out.size)); have HXS := Lib.hid hX; have HR := Lib.hid hR; clear hb hyes hX hR)
    have hlen : (Sec.join xs).length ≤ 140737488355328 := by
      have h1 := HR.out.small
      have h2 := HR.out.len
      have h3 := upto_len m 11
      have h4 : (secsOf m).length ≤ 11 := h3
      have h5 : xs.length ≤ 11 := by omega
      have h6 : (Sec.encAll xs).length ≤ 65547 * 11 := Nat.le_trans h1 (Nat.mul_le_mul_left _ h5)
      simp only [Sec.join, List.length_append, Sec.begin8, List.length_cons, List.length_nil]
      omega
    have HJC := Lib.hid (HJ.out.yes (w := w1) HXS.out rfl hc1 hc2 hlen (by rw [HR.out.rises]; exact own_rises m))
    have HOK := Lib.hid hok
    clear HX0 HC HB0
    by_cases hl : 65536 < (Sec.join xs).length
    · have HLL : Hid (65536 < (encM m).length) := Lib.hid (by
        rcases HR.out.joined with h | ⟨h, _⟩
        · rw [h] at hl; exact hl
        · exact h)
      have hli : (65536 : Int) < ((Sec.join xs).length : Int) := by omega
      have hd : decide (65536 < (Sec.join xs).length) = true := decide_eq_true hl
      clear hlen hc1 hc2 hok
      generalize (Sec.join xs).length = q at hl hli hd HJC
      generalize xs.length = nx at HJC ⊢
      go_wp2_with (go_at_call 16; refine HJC.out.mono ?_; rintro e w2 ⟨A', c', rfl, _, _, _, _, hb⟩; have HB2 := Lib.hid (HB1.out.trans (hb.mono HB1.out.size)); clear hb)
      go_ret2
      exact encPost_long HOK.out HLL.out HB2.out
    · have hxs : xs = secsOf m := by
        rcases HR.out.joined with h | ⟨_, h⟩
        · exact h
        · omega
      have HLL : Hid ((encM m).length ≤ 65536) := Lib.hid (by
        show (Sec.join (secsOf m)).length ≤ 65536
        rw [← hxs]; omega)
      have HXM : Hid (Sec.join xs = encM m) := Lib.hid (by rw [hxs]; rfl)
      have hli : ¬ (65536 : Int) < ((Sec.join xs).length : Int) := by omega
      have hd : decide (65536 < (Sec.join xs).length) = false := decide_eq_false hl
      have HQ : Hid ((encM m).length = (Sec.join xs).length) := Lib.hid (by rw [HXM.out])
      rw [HXM.out] at HJC
      clear hlen hc1 hc2 hok hxs
      generalize (Sec.join xs).length = q at hl hli hd HQ
      rw [HQ.out] at HJC
      generalize xs.length = nx at HJC ⊢
      go_wp2_with (go_at_call 16; refine HJC.out.mono ?_; rintro e w2 ⟨A', c', rfl, hq1, hq2, hq3, hh, hb⟩; have HB2 := Lib.hid (HB1.out.trans (hb.mono HB1.out.size)); have HH := Lib.hid hh; have HQ1 := Lib.hid hq1; have HQ2 := Lib.hid hq2; have HQ3 := Lib.hid hq3; clear hb hh hq1 hq2 hq3)
      go_ret2
      exact encPost_yes HOK.out HLL.out HB2.out HQ.out HQ1.out HQ2.out HQ3.out HH.out
  · go_enter Tryz.func8, Tryz.ntmps8
    go_upto_region 1 with fail
    generalize w.alloc (.cells #[.slice A1 n1 c1, .slice A2 n2 c2, .slice A3 n3 c3, .slice A4 n4 c4, .slice A5 n5 c5, .slice A6 n6 c6, .slice A7 n7 c7, .bool hs, .int .u32 st, .slice A9 n9 c9, .slice A10 n10 c10, .slice A11 n11 c11] 33) = w0 at HX0 HB0 HC ⊢
    have HOK := Lib.hid hok
    go_wp2_with (go_at_call 15; refine HC.out.mono ?_; rintro e w1 ⟨hb, _, hno⟩; obtain rfl := hno HOK.out; have HB1 := Lib.hid (HB0.out.trans (hb.mono HB0.out.size)); clear hb hno)
    go_ret2
    exact encPost_no HOK.out HB1.out
end Go.Proofs.YtgnbkfkiigcdgaaGreatDoor
/-
  Layer 7's statements: the chapter's rows hold. (gen/enc/known.py)
-/
namespace Go.Proofs.YtgnbkfkiigcdgaaGreatDoor
open Go.RowKit Ins Bin
theorem heapE_at {w : World} {o : Obj} {k : Nat} (h : k = w.heap.size) : (w.alloc o).heap[k]? = some o := by subst h; exact heap_alloc_new w o
theorem hasL_one {α : Type} [Lay α] {W : World} {S : Nat → Prop} {g : Nat} {x : α} {cs : Array Value} {t : TypeId} (h : W.heap[g]? = some (.cells cs t (0, 0))) (hg : S g) (hr : Lay.rep W S x cs.toList) : HasL W S (some ⟨g, 0, none⟩) [x] := fun k y hy => by
  cases k with
  | succ k => simp at hy
  | zero =>
    simp at hy
    subst hy
    refine ⟨g, 0, cs.toList, rfl, hg, (Array.getElem?_eq_some_iff.1 h).1, hr, fun j u hj => ?_⟩
    rw [cell_of_row W g _ _ _ (0, 0) h]
    simpa using hj
theorem sliceE_one {α : Type} [Lay α] {W : World} {S : Nat → Prop} {g : Nat} {x : α} {cs : Array Value} {t : TypeId} (h : W.heap[g]? = some (.cells cs t (0, 0))) (hg : S g) (hr : Lay.rep W S x cs.toList) : SliceV W S [x] (.slice (some ⟨g, 0, none⟩) 1 1) := ⟨_, 1, rfl, Nat.le_refl _, by unfold maxLen; omega, by simp, hasL_one h hg hr⟩
def k1 : M := ⟨[⟨[], []⟩], [], [0], [], [], [], [], false, 0, [], [⟨[], []⟩], []⟩
def k2 : M := ⟨[], [], [0], [], [], [], [], false, 0, [], [], []⟩
def k3 : M := ⟨[], [⟨[], [], 4, 0, ⟨0, 0⟩, ⟨0, false⟩⟩], [], [], [], [], [], false, 0, [], [], []⟩
def k4 : M := ⟨[], [], [], [], [], [⟨⟨124, false⟩, []⟩], [], false, 0, [], [], []⟩
def l16 : List UInt8 := [1, 4, 1, 96, 0, 0, 3, 2, 1, 0, 10, 4, 1, 2, 0, 11]
theorem k0_enc : encode M.zero = .ok Sec.begin8 := encode_of ⟨zero_okF, rfl⟩ (by decide)
theorem k1_ok : okM k1 where
  types x hx := by simp [k1] at hx; subst hx; exact ⟨nofun, nofun⟩
  imports := nofun
  funcs x hx := by simp [k1] at hx; subst hx; show (0 : Nat) < 4294967296; omega
  tables := nofun
  mems := nofun
  globals := nofun
  exports := nofun
  start := ⟨by show (0 : Nat) < 4294967296; omega, fun _ => rfl⟩
  elems := nofun
  codes x hx := by simp [k1] at hx; subst hx; exact ⟨nofun, by show (0 : Nat) < 4294967296; omega, ⟨rfl, nofun, rfl⟩⟩
  datas := nofun
  many := rfl
theorem k1_bytes : encM k1 = Sec.begin8 ++ l16 := by
  have e : ∀ n, n < 128 → Leb.encU n = [UInt8.ofNat n] := fun n h => Leb.encU_small h
  have b1 : body k1 1 = [1, 96, 0, 0] := by
    show encList encFT [⟨[], []⟩] = _
    simp [encList, encFT, encVals, e]
  have b3 : body k1 3 = [1, 0] := by
    show encList Leb.encU [0] = _
    simp [encList, e]
  have b10 : body k1 10 = [1, 2, 0, 11] := by
    show encList encCd [⟨[], []⟩] = _
    simp [encList, encCd, cdB, exprEnc, Ins.encAll, e]
  have ho : own k1 = [1, 3, 10] := by decide
  unfold encM secsOf
  rw [ho]
  simp [Sec.join, Sec.encAll, Sec.enc, b1, b3, b10, e, l16]
theorem k1_enc : encode k1 = .ok (Sec.begin8 ++ l16) := by
  rw [← k1_bytes]
  exact encode_of k1_ok (by rw [k1_bytes]; decide)
theorem k2_enc : encode k2 = .error 2 := by
  unfold encode
  rw [if_neg (fun h => absurd h.many (by decide))]
theorem k3_enc : encode k3 = .error 2 := by
  unfold encode
  refine if_neg (fun h => ?_)
  obtain ⟨_, _, h⟩ := h.imports _ (by simp [k3] : (⟨[], [], 4, 0, ⟨0, 0⟩, ⟨0, false⟩⟩ : Imp) ∈ k3.imports)
  rcases h with ⟨h, _⟩ | ⟨h, _⟩ | ⟨h, _⟩ | ⟨h, _⟩ <;> exact absurd h (by decide)
theorem k4_enc : encode k4 = .error 2 := by
  unfold encode
  refine if_neg (fun h => ?_)
  obtain ⟨h, _⟩ := h.globals _ (by simp [k4] : (⟨⟨124, false⟩, []⟩ : GV) ∈ k4.globals)
  exact absurd h (by show ¬ whole1 124 = true; decide)
theorem below_heap {a b : World} (h : Below a.heap.size a b) {k : Nat} {o : Obj} (hk : a.heap[k]? = some o) : b.heap[k]? = some o := (h.block k (Array.getElem?_eq_some_iff.1 hk).1).trans hk
theorem four_new (w : World) (a b c d : List Value) (ta tb tc td : TypeId) : ∃ wq, (((w.alloc (.cells a.toArray ta)).alloc (.cells b.toArray tb)).alloc (.cells c.toArray tc)).alloc (.cells d.toArray td) = wq ∧ Below w.heap.size w wq ∧ wq.heap[w.heap.size]? = some (.cells a.toArray ta (0, 0)) ∧ wq.heap[w.heap.size + 1]? = some (.cells b.toArray tb (0, 0)) ∧ wq.heap[w.heap.size + 2]? = some (.cells c.toArray tc (0, 0)) ∧ wq.heap[w.heap.size + 3]? = some (.cells d.toArray td (0, 0)) := by
  have h0 := heap_alloc_new w (.cells a.toArray ta)
  have b0 : Below w.heap.size w (w.alloc (.cells a.toArray ta)) := (Below.refl _ _).alloc (Nat.le_refl _) _
  have s0 : (w.alloc (.cells a.toArray ta)).heap.size = w.heap.size + 1 := by simp
  generalize w.alloc (.cells a.toArray ta) = w1 at h0 b0 s0 ⊢
  have h1 := heap_alloc_new w1 (.cells b.toArray tb)
  have c1 : Below w1.heap.size w1 (w1.alloc (.cells b.toArray tb)) := (Below.refl _ _).alloc (Nat.le_refl _) _
  have s1 : (w1.alloc (.cells b.toArray tb)).heap.size = w1.heap.size + 1 := by simp
  generalize w1.alloc (.cells b.toArray tb) = w2 at h1 c1 s1 ⊢
  have h2 := heap_alloc_new w2 (.cells c.toArray tc)
  have c2 : Below w2.heap.size w2 (w2.alloc (.cells c.toArray tc)) := (Below.refl _ _).alloc (Nat.le_refl _) _
  have s2 : (w2.alloc (.cells c.toArray tc)).heap.size = w2.heap.size + 1 := by simp
  generalize w2.alloc (.cells c.toArray tc) = w3 at h2 c2 s2 ⊢
  have h3 := heap_alloc_new w3 (.cells d.toArray td)
  have c3 : Below w3.heap.size w3 (w3.alloc (.cells d.toArray td)) := (Below.refl _ _).alloc (Nat.le_refl _) _
  generalize w3.alloc (.cells d.toArray td) = w4 at h3 c3 ⊢
  have e1 : w1.heap.size = w.heap.size + 1 := s0
  have e2 : w2.heap.size = w.heap.size + 2 := by omega
  have e3 : w3.heap.size = w.heap.size + 3 := by omega
  rw [e1] at h1
  rw [e2] at h2
  rw [e3] at h3
  refine ⟨w4, rfl, b0.trans ((c1.trans ((c2.trans (c3.mono (by omega))).mono (by omega))).mono (by omega)), ?_, ?_, ?_, h3⟩
  · exact below_heap c3 (below_heap c2 (below_heap c1 h0))
  · exact below_heap c3 (below_heap c2 h1)
  · exact below_heap c3 h2
theorem fit_nil : Fit [] := ⟨by simp [tot], nofun⟩
theorem encPost_bad {m : M} {w w' : World} {e : Ending} (h : EncPost m w e w') (he : encode m = .error 2) : e = .returned (.tuple #[.slice none 0 0, .int .i64 2]) ∧ Below w.heap.size w w' := by
  obtain ⟨hb, h⟩ := h
  rw [he] at h
  exact ⟨h, hb⟩
theorem encPost_good {m : M} {w w' : World} {e : Ending} {b : List UInt8} (h : EncPost m w e w') (he : encode m = .ok b) : ∃ A c, e = .returned (.tuple #[.slice A b.length c, .int .i64 0]) ∧ b.length ≤ c ∧ c ≤ maxLen ∧ (A = none → c = 0) ∧ Has w' w'.heap.size A b ∧ Below w.heap.size w w' := by
  obtain ⟨hb, h⟩ := h
  rw [he] at h
  obtain ⟨A, c, h1, h2, h3, h4, h5⟩ := h
  exact ⟨A, c, h1, h2, h3, h4, h5, hb⟩
theorem k0_call (he : EncOk) (W : World) (hT : Tb W) :
    Calls Tryz.prog 8 #[.agg #[.slice none 0 0, .slice none 0 0, .slice none 0 0, .slice none 0 0, .slice none 0 0, .slice none 0 0, .slice none 0 0, .bool false, .int .u32 0, .slice none 0 0, .slice none 0 0, .slice none 0 0]] W fun e w' => ∃ A c, e = .returned (.tuple #[.slice A 8 c, .int .i64 0]) ∧ Has w' w'.heap.size A (Sec.begin8) ∧ Below W.heap.size W w' := by
  refine (he M.zero (.slice none 0 0) (.slice none 0 0) (.slice none 0 0) (.slice none 0 0) (.slice none 0 0) (.slice none 0 0) (.slice none 0 0) (.slice none 0 0) (.slice none 0 0) (.slice none 0 0) W ⟨SliceV.nil _ _, SliceV.nil _ _, SliceV.nil _ _, SliceV.nil _ _, SliceV.nil _ _, SliceV.nil _ _, SliceV.nil _ _, (by show (0 : Nat) < 4294967296; omega), SliceV.nil _ _, SliceV.nil _ _, SliceV.nil _ _⟩ { imports := nofun, globals := nofun, exports := nofun, elems := nofun, codes := nofun, datas := nofun } hT).mono ?_
  intro e w' h
  obtain ⟨A, c, h1, _, _, _, h5, h6⟩ := encPost_good h k0_enc
  exact ⟨A, c, h1, h5, h6⟩
theorem k1_call (he : EncOk) (g1 g2 g3 : Nat) (W : World) (hT : Tb W) (h1 : W.heap[g1]? = some (.cells #[.slice none 0 0, .slice none 0 0] 50 (0, 0))) (h2 : W.heap[g2]? = some (.cells #[.int .u32 0] 28 (0, 0))) (h3 : W.heap[g3]? = some (.cells #[.slice none 0 0, .slice none 0 0] 54 (0, 0))) :
    Calls Tryz.prog 8 #[.agg #[.slice (some ⟨g1, 0, none⟩) 1 1, .slice none 0 0, .slice (some ⟨g2, 0, none⟩) 1 1, .slice none 0 0, .slice none 0 0, .slice none 0 0, .slice none 0 0, .bool false, .int .u32 0, .slice none 0 0, .slice (some ⟨g3, 0, none⟩) 1 1, .slice none 0 0]] W fun e w' => ∃ A c, e = .returned (.tuple #[.slice A 24 c, .int .i64 0]) ∧ Has w' w'.heap.size A (Sec.begin8 ++ l16) ∧ Below W.heap.size W w' := by
  refine (he k1 (.slice (some ⟨g1, 0, none⟩) 1 1) (.slice none 0 0) (.slice (some ⟨g2, 0, none⟩) 1 1) (.slice none 0 0) (.slice none 0 0) (.slice none 0 0) (.slice none 0 0) (.slice none 0 0) (.slice (some ⟨g3, 0, none⟩) 1 1) (.slice none 0 0) W ⟨sliceE_one h1 (Array.getElem?_eq_some_iff.1 h1).1 ⟨_, _, rfl, SliceV.nil _ _, SliceV.nil _ _⟩, SliceV.nil _ _, sliceE_one h2 (Array.getElem?_eq_some_iff.1 h2).1 ⟨rfl, by decide⟩, SliceV.nil _ _, SliceV.nil _ _, SliceV.nil _ _, SliceV.nil _ _, (by show (0 : Nat) < 4294967296; omega), SliceV.nil _ _, sliceE_one h3 (Array.getElem?_eq_some_iff.1 h3).1 ⟨_, _, rfl, SliceV.nil _ _, SliceV.nil _ _⟩, SliceV.nil _ _⟩ { imports := nofun, globals := nofun, exports := nofun, elems := nofun, codes := fun x hx => by simp [k1] at hx; subst hx; exact ⟨by simp, fit_nil⟩, datas := nofun } hT).mono ?_
  intro e w' h
  obtain ⟨A, c, h1, _, _, _, h5, h6⟩ := encPost_good h k1_enc
  exact ⟨A, c, h1, h5, h6⟩
theorem k2_call (he : EncOk) (g : Nat) (W : World) (hT : Tb W) (h1 : W.heap[g]? = some (.cells #[.int .u32 0] 28 (0, 0))) :
    Calls Tryz.prog 8 #[.agg #[.slice none 0 0, .slice none 0 0, .slice (some ⟨g, 0, none⟩) 1 1, .slice none 0 0, .slice none 0 0, .slice none 0 0, .slice none 0 0, .bool false, .int .u32 0, .slice none 0 0, .slice none 0 0, .slice none 0 0]] W fun e w' => e = .returned (.tuple #[.slice none 0 0, .int .i64 2]) ∧ Below W.heap.size W w' := by
  refine (he k2 (.slice none 0 0) (.slice none 0 0) (.slice (some ⟨g, 0, none⟩) 1 1) (.slice none 0 0) (.slice none 0 0) (.slice none 0 0) (.slice none 0 0) (.slice none 0 0) (.slice none 0 0) (.slice none 0 0) W ⟨SliceV.nil _ _, SliceV.nil _ _, sliceE_one h1 (Array.getElem?_eq_some_iff.1 h1).1 ⟨rfl, by decide⟩, SliceV.nil _ _, SliceV.nil _ _, SliceV.nil _ _, SliceV.nil _ _, (by show (0 : Nat) < 4294967296; omega), SliceV.nil _ _, SliceV.nil _ _, SliceV.nil _ _⟩ { imports := nofun, globals := nofun, exports := nofun, elems := nofun, codes := nofun, datas := nofun } hT).mono ?_
  intro e w' h
  exact encPost_bad h k2_enc
theorem k3_call (he : EncOk) (g : Nat) (W : World) (hT : Tb W) (h1 : W.heap[g]? = some (.cells #[.string ⟨#[]⟩, .string ⟨#[]⟩, .int .u8 4, .int .u32 0, .int .u32 0, .int .i64 0, .int .u8 0, .bool false] 61 (0, 0))) :
    Calls Tryz.prog 8 #[.agg #[.slice none 0 0, .slice (some ⟨g, 0, none⟩) 1 1, .slice none 0 0, .slice none 0 0, .slice none 0 0, .slice none 0 0, .slice none 0 0, .bool false, .int .u32 0, .slice none 0 0, .slice none 0 0, .slice none 0 0]] W fun e w' => e = .returned (.tuple #[.slice none 0 0, .int .i64 2]) ∧ Below W.heap.size W w' := by
  refine (he k3 (.slice none 0 0) (.slice (some ⟨g, 0, none⟩) 1 1) (.slice none 0 0) (.slice none 0 0) (.slice none 0 0) (.slice none 0 0) (.slice none 0 0) (.slice none 0 0) (.slice none 0 0) (.slice none 0 0) W ⟨SliceV.nil _ _, sliceE_one h1 (Array.getElem?_eq_some_iff.1 h1).1 ⟨rfl, by decide, by show (0 : Nat) < 4294967296 ∧ (-9223372036854775808 : Int) ≤ 0 ∧ (0 : Int) ≤ 9223372036854775807; omega⟩, SliceV.nil _ _, SliceV.nil _ _, SliceV.nil _ _, SliceV.nil _ _, SliceV.nil _ _, (by show (0 : Nat) < 4294967296; omega), SliceV.nil _ _, SliceV.nil _ _, SliceV.nil _ _⟩ { imports := fun x hx => by simp [k3] at hx; subst hx; exact ⟨by simp, by simp⟩, globals := nofun, exports := nofun, elems := nofun, codes := nofun, datas := nofun } hT).mono ?_
  intro e w' h
  exact encPost_bad h k3_enc
theorem k4_call (he : EncOk) (g : Nat) (W : World) (hT : Tb W) (h1 : W.heap[g]? = some (.cells #[.int .u8 124, .bool false, .slice none 0 0] 63 (0, 0))) :
    Calls Tryz.prog 8 #[.agg #[.slice none 0 0, .slice none 0 0, .slice none 0 0, .slice none 0 0, .slice none 0 0, .slice (some ⟨g, 0, none⟩) 1 1, .slice none 0 0, .bool false, .int .u32 0, .slice none 0 0, .slice none 0 0, .slice none 0 0]] W fun e w' => e = .returned (.tuple #[.slice none 0 0, .int .i64 2]) ∧ Below W.heap.size W w' := by
  refine (he k4 (.slice none 0 0) (.slice none 0 0) (.slice none 0 0) (.slice none 0 0) (.slice none 0 0) (.slice (some ⟨g, 0, none⟩) 1 1) (.slice none 0 0) (.slice none 0 0) (.slice none 0 0) (.slice none 0 0) W ⟨SliceV.nil _ _, SliceV.nil _ _, SliceV.nil _ _, SliceV.nil _ _, SliceV.nil _ _, sliceE_one h1 (Array.getElem?_eq_some_iff.1 h1).1 ⟨_, rfl, SliceV.nil _ _⟩, SliceV.nil _ _, (by show (0 : Nat) < 4294967296; omega), SliceV.nil _ _, SliceV.nil _ _, SliceV.nil _ _⟩ { imports := nofun, globals := fun x hx => by simp [k4] at hx; subst hx; exact fit_nil, exports := nofun, elems := nofun, codes := nofun, datas := nofun } hT).mono ?_
  intro e w' h
  exact encPost_bad h k4_enc
set_option maxRecDepth 100000 in
set_option maxHeartbeats 2000000 in
theorem known7 (he : EncOk) (w : World) (hT : Tb w) : Calls Tryz.prog 6 #[] w fun e w' => e = .returned (.bool true) ∧ Below w.heap.size w w' := by
  have HE := Lib.hid he
  have HT := Lib.hid hT
  clear he hT
  go_enter Tryz.func6, Tryz.ntmps6
  go_upto_region 2 with (go_at_call 8; refine (k0_call HE.out _ HT.out).mono ?_; rintro e w1 ⟨A1, c1, rfl, hh, hb⟩; have HH1 := Lib.hid hh; have HB1 := Lib.hid hb; clear hh hb)
  have HB3 : Hid (Below w1.heap.size w1 (((w1.alloc (.cells #[.slice none 0 0, .slice none 0 0] 50)).alloc (.cells #[.int .u32 0] 28)).alloc (.cells #[.slice none 0 0, .slice none 0 0] 54))) := Lib.hid ((((Below.refl _ _).alloc (Nat.le_refl _) _).alloc (by simp) _).alloc (by simp; omega) _)
  have HC3 := Lib.hid (k1_call HE.out w1.heap.size (w1.heap.size + 1) (w1.heap.size + 2) (((w1.alloc (.cells #[.slice none 0 0, .slice none 0 0] 50)).alloc (.cells #[.int .u32 0] 28)).alloc (.cells #[.slice none 0 0, .slice none 0 0] 54)) (HT.out.on (HB1.out.trans (HB3.out.mono HB1.out.size))) ((Below.heap_alloc _ _ _ (by simp; omega)).trans ((Below.heap_alloc _ _ _ (by simp)).trans (heapE_at (by simp)))) ((Below.heap_alloc _ _ _ (by simp)).trans (heapE_at (by simp))) (heapE_at (by simp)))
  go_upto_region 3 with (go_at_call 8; refine HC3.out.mono ?_; rintro e w2 ⟨A2, c2, rfl, hh, hb⟩; have HB2 := Lib.hid (HB3.out.trans (hb.mono HB3.out.size)); have HH2 := Lib.hid hh; clear hh hb)
  clear HC3 HB3
  obtain ⟨W0, hW0⟩ : ∃ W0 : ByteArray, W0 = ⟨Sec.begin8.toArray⟩ := ⟨_, rfl⟩
  obtain ⟨V0, hV0⟩ : ∃ V0 : ByteArray, V0 = ⟨(Sec.begin8 ++ l16).toArray⟩ := ⟨_, rfl⟩
  have hadd : W0 ++ ⟨#[1, 4, 1, 96, 0, 0, 3, 2, 1, 0, 10, 4, 1, 2, 0, 11]⟩ = V0 := by rw [hW0, hV0]; rfl
  have hws : ¬ (9223372036854775807 < W0.size + 16) := by rw [hW0]; decide
  have HWW := Lib.hid hW0
  have HVV := Lib.hid hV0
  clear hW0 hV0
  have HB02 := Lib.hid (HB1.out.trans (HB2.out.mono HB1.out.size))
  go_upto_region 4 with (go_at_call 13; refine (begin_any _).mono ?_; rintro e w3 ⟨v3, rfl, ho3, hb3⟩; obtain ⟨A3, c3, (rfl : v3 = .slice A3 8 c3), _, _, _, _, hh3⟩ := own_sl ho3; have HB3 := Lib.hid (HB02.out.trans (hb3.mono HB02.out.size)); have cv1 := run_str hh3 (show 8 = Sec.begin8.length from rfl) c3; have cv2 := run_str ((HH1.out.on HB2.out).on hb3) (show 8 = Sec.begin8.length from rfl) c1; have cv3 := run_str (HH2.out.on hb3) (show 24 = (Sec.begin8 ++ l16).length from rfl) c2; rw [← HWW.out] at cv1 cv2; rw [← HVV.out] at cv3; clear ho3 hb3 hh3)
  clear HH1 HH2 HB1 HB2 HB02
  go_upto_region 6 with fail
  clear hadd hws cv1 cv2 cv3 HWW HVV
  go_upto_region 7 with fail
  obtain ⟨wq, hwq, hbq, n0, n1, n2, n3⟩ := four_new w3 [.int .u32 0] [.string ⟨#[]⟩, .string ⟨#[]⟩, .int .u8 4, .int .u32 0, .int .u32 0, .int .i64 0, .int .u8 0, .bool false] [.int .u8 124, .bool false, .slice none 0 0] [.slice none 0 0, .slice none 0 0, .slice (some ⟨w3.heap.size, 0, none⟩) 1 1, .slice none 0 0, .slice none 0 0, .slice none 0 0, .slice none 0 0, .bool false, .int .u32 0, .slice none 0 0, .slice none 0 0, .slice none 0 0, .slice none 0 0, .slice (some ⟨(w3.heap.size + 1), 0, none⟩) 1 1, .slice none 0 0, .slice none 0 0, .slice none 0 0, .slice none 0 0, .slice none 0 0, .bool false, .int .u32 0, .slice none 0 0, .slice none 0 0, .slice none 0 0, .slice none 0 0, .slice none 0 0, .slice none 0 0, .slice none 0 0, .slice none 0 0, .slice (some ⟨(w3.heap.size + 2), 0, none⟩) 1 1, .slice none 0 0, .bool false, .int .u32 0, .slice none 0 0, .slice none 0 0, .slice none 0 0] 28 61 63 33
  have HQ1 := Lib.hid n0
  have HQ2 := Lib.hid n1
  have HQ3 := Lib.hid n2
  have HQ4 := Lib.hid n3
  have HBQ := Lib.hid (HB3.out.trans (hbq.mono HB3.out.size))
  rw [hwq]
  clear n0 n1 n2 n3 hbq hwq
  obtain ⟨Q, hQ⟩ : ∃ Q, w3.heap.size = Q := ⟨_, rfl⟩
  rw [hQ] at HQ1 HQ2 HQ3 HQ4 ⊢
  clear hQ
  go_loopw [57] (fun i wr => ∃ j : Nat, j ≤ 3 ∧ i = .int .i64 (j : Int) ∧ Hid (Below wq.heap.size wq wr)) (fun i _ => 3 - (intOf i).toNat)
  case atStart => exact ⟨0, by omega, rfl, Lib.hid (Below.refl _ _)⟩
  case round =>
    obtain ⟨j, hj, rfl, HB⟩ := hrel
    have HBX := Lib.hid (HBQ.out.trans (HB.out.mono HBQ.out.size))
    have h36 := below_heap HB.out HQ4.out
    by_cases hj3 : j < 3
    · have hc : j = 0 ∨ j = 1 ∨ j = 2 := by omega
      rcases hc with rfl | rfl | rfl
      · have z0 : wr.cell? ⟨Q + 3, 0, none⟩ = some (.slice none 0 0) := by rw [cell_of_row wr _ 0 _ _ (0, 0) h36]; rfl
        have z1 : wr.cell? ⟨Q + 3, 1, none⟩ = some (.slice none 0 0) := by rw [cell_of_row wr _ 1 _ _ (0, 0) h36]; rfl
        have z2 : wr.cell? ⟨Q + 3, 2, none⟩ = some (.slice (some ⟨Q, 0, none⟩) 1 1) := by rw [cell_of_row wr _ 2 _ _ (0, 0) h36]; rfl
        have z3 : wr.cell? ⟨Q + 3, 3, none⟩ = some (.slice none 0 0) := by rw [cell_of_row wr _ 3 _ _ (0, 0) h36]; rfl
        have z4 : wr.cell? ⟨Q + 3, 4, none⟩ = some (.slice none 0 0) := by rw [cell_of_row wr _ 4 _ _ (0, 0) h36]; rfl
        have z5 : wr.cell? ⟨Q + 3, 5, none⟩ = some (.slice none 0 0) := by rw [cell_of_row wr _ 5 _ _ (0, 0) h36]; rfl
        have z6 : wr.cell? ⟨Q + 3, 6, none⟩ = some (.slice none 0 0) := by rw [cell_of_row wr _ 6 _ _ (0, 0) h36]; rfl
        have z7 : wr.cell? ⟨Q + 3, 7, none⟩ = some (.bool false) := by rw [cell_of_row wr _ 7 _ _ (0, 0) h36]; rfl
        have z8 : wr.cell? ⟨Q + 3, 8, none⟩ = some (.int .u32 0) := by rw [cell_of_row wr _ 8 _ _ (0, 0) h36]; rfl
        have z9 : wr.cell? ⟨Q + 3, 9, none⟩ = some (.slice none 0 0) := by rw [cell_of_row wr _ 9 _ _ (0, 0) h36]; rfl
        have z10 : wr.cell? ⟨Q + 3, 10, none⟩ = some (.slice none 0 0) := by rw [cell_of_row wr _ 10 _ _ (0, 0) h36]; rfl
        have z11 : wr.cell? ⟨Q + 3, 11, none⟩ = some (.slice none 0 0) := by rw [cell_of_row wr _ 11 _ _ (0, 0) h36]; rfl
        have HBA : Hid (Below wr.heap.size wr (wr.alloc (.cells #[.slice none 0 0, .slice none 0 0, .slice (some ⟨Q, 0, none⟩) 1 1, .slice none 0 0, .slice none 0 0, .slice none 0 0, .slice none 0 0, .bool false, .int .u32 0, .slice none 0 0, .slice none 0 0, .slice none 0 0] 33))) := Lib.hid ((Below.refl _ _).alloc (Nat.le_refl _) _)
        have HC := Lib.hid (k2_call HE.out Q (wr.alloc (.cells #[.slice none 0 0, .slice none 0 0, .slice (some ⟨Q, 0, none⟩) 1 1, .slice none 0 0, .slice none 0 0, .slice none 0 0, .slice none 0 0, .bool false, .int .u32 0, .slice none 0 0, .slice none 0 0, .slice none 0 0] 33)) (HT.out.on (HBX.out.trans (HBA.out.mono HBX.out.size))) (below_heap HBA.out (below_heap HB.out HQ1.out)))
        clear h36 hj3
        go_wp2_with (go_at_call 8; refine HC.out.mono ?_; rintro e w5 ⟨rfl, hb⟩; have HB5 := Lib.hid (HB.out.trans ((HBA.out.trans (hb.mono HBA.out.size)).mono HB.out.size)); clear hb)
        go_roundw
        case rel => exact ⟨1, by omega, by go_num, HB5⟩
        case measure => simp [intOf]
      · have z0 : wr.cell? ⟨Q + 3, 12, none⟩ = some (.slice none 0 0) := by rw [cell_of_row wr _ 12 _ _ (0, 0) h36]; rfl
        have z1 : wr.cell? ⟨Q + 3, 13, none⟩ = some (.slice (some ⟨(Q + 1), 0, none⟩) 1 1) := by rw [cell_of_row wr _ 13 _ _ (0, 0) h36]; rfl
        have z2 : wr.cell? ⟨Q + 3, 14, none⟩ = some (.slice none 0 0) := by rw [cell_of_row wr _ 14 _ _ (0, 0) h36]; rfl
        have z3 : wr.cell? ⟨Q + 3, 15, none⟩ = some (.slice none 0 0) := by rw [cell_of_row wr _ 15 _ _ (0, 0) h36]; rfl
        have z4 : wr.cell? ⟨Q + 3, 16, none⟩ = some (.slice none 0 0) := by rw [cell_of_row wr _ 16 _ _ (0, 0) h36]; rfl
        have z5 : wr.cell? ⟨Q + 3, 17, none⟩ = some (.slice none 0 0) := by rw [cell_of_row wr _ 17 _ _ (0, 0) h36]; rfl
        have z6 : wr.cell? ⟨Q + 3, 18, none⟩ = some (.slice none 0 0) := by rw [cell_of_row wr _ 18 _ _ (0, 0) h36]; rfl
        have z7 : wr.cell? ⟨Q + 3, 19, none⟩ = some (.bool false) := by rw [cell_of_row wr _ 19 _ _ (0, 0) h36]; rfl
        have z8 : wr.cell? ⟨Q + 3, 20, none⟩ = some (.int .u32 0) := by rw [cell_of_row wr _ 20 _ _ (0, 0) h36]; rfl
        have z9 : wr.cell? ⟨Q + 3, 21, none⟩ = some (.slice none 0 0) := by rw [cell_of_row wr _ 21 _ _ (0, 0) h36]; rfl
        have z10 : wr.cell? ⟨Q + 3, 22, none⟩ = some (.slice none 0 0) := by rw [cell_of_row wr _ 22 _ _ (0, 0) h36]; rfl
        have z11 : wr.cell? ⟨Q + 3, 23, none⟩ = some (.slice none 0 0) := by rw [cell_of_row wr _ 23 _ _ (0, 0) h36]; rfl
        have HBA : Hid (Below wr.heap.size wr (wr.alloc (.cells #[.slice none 0 0, .slice (some ⟨(Q + 1), 0, none⟩) 1 1, .slice none 0 0, .slice none 0 0, .slice none 0 0, .slice none 0 0, .slice none 0 0, .bool false, .int .u32 0, .slice none 0 0, .slice none 0 0, .slice none 0 0] 33))) := Lib.hid ((Below.refl _ _).alloc (Nat.le_refl _) _)
        have HC := Lib.hid (k3_call HE.out (Q + 1) (wr.alloc (.cells #[.slice none 0 0, .slice (some ⟨(Q + 1), 0, none⟩) 1 1, .slice none 0 0, .slice none 0 0, .slice none 0 0, .slice none 0 0, .slice none 0 0, .bool false, .int .u32 0, .slice none 0 0, .slice none 0 0, .slice none 0 0] 33)) (HT.out.on (HBX.out.trans (HBA.out.mono HBX.out.size))) (below_heap HBA.out (below_heap HB.out HQ2.out)))
        clear h36 hj3
        go_wp2_with (go_at_call 8; refine HC.out.mono ?_; rintro e w5 ⟨rfl, hb⟩; have HB5 := Lib.hid (HB.out.trans ((HBA.out.trans (hb.mono HBA.out.size)).mono HB.out.size)); clear hb)
        go_roundw
        case rel => exact ⟨2, by omega, by go_num, HB5⟩
        case measure => simp [intOf]
      · have z0 : wr.cell? ⟨Q + 3, 24, none⟩ = some (.slice none 0 0) := by rw [cell_of_row wr _ 24 _ _ (0, 0) h36]; rfl
        have z1 : wr.cell? ⟨Q + 3, 25, none⟩ = some (.slice none 0 0) := by rw [cell_of_row wr _ 25 _ _ (0, 0) h36]; rfl
        have z2 : wr.cell? ⟨Q + 3, 26, none⟩ = some (.slice none 0 0) := by rw [cell_of_row wr _ 26 _ _ (0, 0) h36]; rfl
        have z3 : wr.cell? ⟨Q + 3, 27, none⟩ = some (.slice none 0 0) := by rw [cell_of_row wr _ 27 _ _ (0, 0) h36]; rfl
        have z4 : wr.cell? ⟨Q + 3, 28, none⟩ = some (.slice none 0 0) := by rw [cell_of_row wr _ 28 _ _ (0, 0) h36]; rfl
        have z5 : wr.cell? ⟨Q + 3, 29, none⟩ = some (.slice (some ⟨(Q + 2), 0, none⟩) 1 1) := by rw [cell_of_row wr _ 29 _ _ (0, 0) h36]; rfl
        have z6 : wr.cell? ⟨Q + 3, 30, none⟩ = some (.slice none 0 0) := by rw [cell_of_row wr _ 30 _ _ (0, 0) h36]; rfl
        have z7 : wr.cell? ⟨Q + 3, 31, none⟩ = some (.bool false) := by rw [cell_of_row wr _ 31 _ _ (0, 0) h36]; rfl
        have z8 : wr.cell? ⟨Q + 3, 32, none⟩ = some (.int .u32 0) := by rw [cell_of_row wr _ 32 _ _ (0, 0) h36]; rfl
        have z9 : wr.cell? ⟨Q + 3, 33, none⟩ = some (.slice none 0 0) := by rw [cell_of_row wr _ 33 _ _ (0, 0) h36]; rfl
        have z10 : wr.cell? ⟨Q + 3, 34, none⟩ = some (.slice none 0 0) := by rw [cell_of_row wr _ 34 _ _ (0, 0) h36]; rfl
        have z11 : wr.cell? ⟨Q + 3, 35, none⟩ = some (.slice none 0 0) := by rw [cell_of_row wr _ 35 _ _ (0, 0) h36]; rfl
        have HBA : Hid (Below wr.heap.size wr (wr.alloc (.cells #[.slice none 0 0, .slice none 0 0, .slice none 0 0, .slice none 0 0, .slice none 0 0, .slice (some ⟨(Q + 2), 0, none⟩) 1 1, .slice none 0 0, .bool false, .int .u32 0, .slice none 0 0, .slice none 0 0, .slice none 0 0] 33))) := Lib.hid ((Below.refl _ _).alloc (Nat.le_refl _) _)
        have HC := Lib.hid (k4_call HE.out (Q + 2) (wr.alloc (.cells #[.slice none 0 0, .slice none 0 0, .slice none 0 0, .slice none 0 0, .slice none 0 0, .slice (some ⟨(Q + 2), 0, none⟩) 1 1, .slice none 0 0, .bool false, .int .u32 0, .slice none 0 0, .slice none 0 0, .slice none 0 0] 33)) (HT.out.on (HBX.out.trans (HBA.out.mono HBX.out.size))) (below_heap HBA.out (below_heap HB.out HQ3.out)))
        clear h36 hj3
        go_wp2_with (go_at_call 8; refine HC.out.mono ?_; rintro e w5 ⟨rfl, hb⟩; have HB5 := Lib.hid (HB.out.trans ((HBA.out.trans (hb.mono HBA.out.size)).mono HB.out.size)); clear hb)
        go_roundw
        case rel => exact ⟨3, by omega, by go_num, HB5⟩
        case measure => simp [intOf]
    · obtain rfl : j = 3 := by omega
      clear h36
      go_wp2_with fail
      go_ret
      exact ⟨rfl, HBX.out⟩
end Go.Proofs.YtgnbkfkiigcdgaaGreatDoor
/-
  The last step from a walk to a statement: a call that answers true and leaves what was there as it was meets the row of a law. Over any program.
-/
namespace Go.Proofs.YtgnbkfkiigcdgaaGreatDoor
open Go.ChangeShapes Go.WideShapes Go.ChangeAt Go.RowKit
section
variable {H : Type} {enc : TypeId × Value → H} {P : Program}
theorem trodAll_below (hl : laidOutB P = true) {W W' : World} (hb : Below W.heap.size W W') {sp : Nat → Bool} : ∀ {ts : List TypeId} {vs : List Value} {ds : List (DataW H)} {ps : List MemPlace},
    (∀ t ∈ ts, P.readableRec t = true ∧ t < P.types.size) → DataW.TrodAll enc P W 0 (fun _ => true) true ts vs ds ps → (∀ x ∈ ps, x.block < W.heap.size) → (∀ x ∈ ps, sp x.block = true) → DataW.TrodAll enc P W' 0 sp true ts vs ds ps
  | [], [], [], _, _, h, _, _ => h
  | t :: ts, v :: vs, d :: ds, ps, ht, h, hlt, hs => by
    obtain ⟨p, q, h1, h2, rfl⟩ := h
    have ht1 := ht t (by simp)
    exact ⟨p, q, WideElems.Trod_stays hl ht1.1 ht1.2 h1 (fun x hx => hb.same (hlt x (by simp [hx]))) (fun x hx => hs x (by simp [hx])),
      trodAll_below hl hb (fun t h => ht t (by simp [h])) h2 (fun x hx => hlt x (by simp [hx])) (fun x hx => hs x (by simp [hx])), rfl⟩
  | [], _ :: _, _, _, _, h, _, _ => h.elim
  | [], [], _ :: _, _, _, h, _, _ => h.elim
  | _ :: _, [], _, _, _, h, _, _ => h.elim
  | _ :: _, _ :: _, [], _, _, h, _, _ => h.elim
/-- The last step of a statement 'it answers true, and each argument reads as it did': what was there before the call is as it was. -/
theorem law_post {f : Func} {s : ChangeSpec} {apart fresh handsOn again : Bool} {W W' : World} {args : Array Value} {ds gs : List (DataW H)} {before : List MemPlace} {b : TypeId}
    (hl : laidOutB P = true) (htb : (f.params.toList.all fun t => P.readableRec t && decide (t < P.types.size)) = true) (hv : s.vars = []) (hr : f.resultTypes = #[b]) (hbool : P.underlying b = some .bool)
    (hW : DataW.Whole enc P f.params.toList s.vars apart W args.toList ds gs before) (hfn : s.fn H ds = { results := [.lit (.bool true)], args := ds }) (hb : Below W.heap.size W W') :
    s.post enc P f apart fresh handsOn again W args (.bool true) W' := by
  have hts : ∀ t ∈ f.params.toList, P.readableRec t = true ∧ t < P.types.size := fun t ht => by
    have := List.all_eq_true.1 htb t ht
    simpa using this
  have hlt : ∀ p ∈ before, p.block < W.heap.size := fun p hp => hW.lt p hp
  have hold : ∀ p ∈ before, (fun b => decide (b < W.heap.size)) p.block = true := fun p hp => by simpa using hlt p hp
  have hW0 := hW
  obtain ⟨pa, q, hA, hV, hps, hz, hn⟩ := hW
  rw [hv] at hV
  obtain ⟨rfl, rfl⟩ := trodVars_none hV
  rw [List.append_nil] at hps
  subst hps
  have hargs : ∀ sp : Nat → Bool, (∀ p ∈ before, sp p.block = true) → DataW.TrodAll enc P W' 0 sp true f.params.toList args.toList ds before := fun sp hsp => trodAll_below hl hb hts hA hlt hsp
  have hres : ∀ (b : Nat) (sp : Nat → Bool) (hd : Bool), DataW.TrodAll enc P W' b sp hd f.resultTypes.toList ((Value.bool true).resultList f.resultTypes.size) [.lit (.bool true)] [] := fun b sp hd => by
    rw [hr]
    exact trodAll_cons_mk (p := []) (p' := []) (shut_bool hbool _) trodAll_mk0
  have hvars : ∀ sp : Nat → Bool, DataW.TrodVars enc P W' sp s.vars [] [] := fun sp => by rw [hv]; rfl
  have e : s.fn H (ds ++ []) = { results := [.lit (.bool true)], args := ds } := by rw [List.append_nil]; exact hfn
  refine ⟨ds, [], before, [], before, [], hW0, ?_, ?_, ?_, World.keptBut_mono (fun p hp => ⟨hp, ?_⟩) (hb.frame (· ∈ before)), fun _ => ?_⟩
  · rw [e]; exact hres _ _ _
  · rw [e]; exact hargs _ hold
  · rw [e]; exact hvars _
  · exact Or.inr (.inl hp)
  · refine ⟨ok_one hr rfl (okWide_bool_mk hbool _), _, _, ([] ++ before) ++ [], ⟨[] ++ before, [], trodAll_append (hargs _ (fun _ _ => rfl)) (hres _ _ _), hvars _, rfl, ?_, ?_⟩, ?_⟩
    · intro b off hp
      have hin : MemPlace.cell b off ∈ before := by simpa using hp
      rw [hb.frozen (hlt _ hin)]
      exact hz b off hin
    · intro ha
      simpa using hn ha
    · intro p hp _
      simpa using hp
end
end Go.Proofs.YtgnbkfkiigcdgaaGreatDoor
/-
  How a slice of bytes that came in is opened; closed facts on the program's types.
-/
namespace Go.Proofs.YtgnbkfkiigcdgaaGreatDoor
open Go.RowKit
open Go.ChangeShapes Go.WideShapes Go.ChangeAt
theorem own : ownKnob Tryz.prog.godebug = none := by kernel_rfl
theorem laid : laidOutB Tryz.prog = true := by kernel_rfl
theorem und4 : Tryz.prog.underlying 4 = some .bool := by kernel_rfl
theorem cell_lt {w : World} {p : Addr} {v : Value} (h : w.cell? p = some v) : p.block < w.heap.size := by
  rcases Nat.lt_or_ge p.block w.heap.size with h1 | h1
  · exact h1
  · exfalso
    unfold World.cell? at h
    rw [Array.getElem?_eq_none h1] at h
    split at h <;> simp_all
end Go.Proofs.YtgnbkfkiigcdgaaGreatDoor
/-
  How a slice of instructions that came in is opened: to instructions, each one's labels opened too; and how long they are at most.
-/
namespace Go.Proofs.YtgnbkfkiigcdgaaGreatDoor
open Go.RowKit Ins
open Go.ChangeShapes Go.WideShapes Go.ChangeAt Go.Deep
noncomputable def fsI : Array Field := match Tryz.prog.underlying 95 with
  | some (.struct fs) => fs
  | _ => #[]
theorem o_undI : Tryz.prog.underlying 95 = some (.struct fsI) := by kernel_rfl
theorem o_und24s : Tryz.prog.underlying 24 = some (.slice 28) := by kernel_rfl
theorem o_und23u : Tryz.prog.underlying 28 = some (.int .u32) := by kernel_rfl
theorem o_und2i : Tryz.prog.underlying 2 = some (.int .i64) := by kernel_rfl
theorem o_cells23 : Tryz.prog.cellsOf 28 = 1 := by kernel_rfl
theorem o_cellsI : Tryz.prog.cellsOf 95 = 5 := by kernel_rfl
theorem o_oneI : oneCellFields Tryz.prog fsI = true := by kernel_rfl
theorem o_sizeFs : fsI.size = 5 := by kernel_rfl
theorem o_typesFs : fsI.toList.map (·.type) = [5, 28, 28, 2, 24] := by kernel_rfl
theorem o_bytes23 : Tryz.prog.bytesOf 28 = 4 := by kernel_rfl
theorem fieldI (j : Nat) (t : TypeId) (h : [5, 28, 28, 2, 24][j]? = some t) : ∃ f, fsI[j]? = some f ∧ f.type = t := by
  rw [← o_typesFs, List.getElem?_map] at h
  cases hf : fsI.toList[j]? with
  | none => rw [hf] at h; cases h
  | some f =>
    rw [hf] at h
    exact ⟨f, by rw [← Array.getElem?_toList]; exact hf, Option.some.inj h⟩
theorem exists_list {α : Type} {E : Nat → α → Prop} : ∀ (n : Nat), (∀ i, i < n → ∃ x, E i x) → ∃ xs : List α, xs.length = n ∧ ∀ i x, xs[i]? = some x → E i x
  | 0, _ => ⟨[], rfl, fun i x h => by simp at h⟩
  | n + 1, h => by
    obtain ⟨xs, h1, h2⟩ := exists_list n (fun i hi => h i (by omega))
    obtain ⟨x, hx⟩ := h n (by omega)
    refine ⟨xs ++ [x], by simp [h1], fun i y hy => ?_⟩
    by_cases hi : i < n
    · rw [List.getElem?_append_left (by omega)] at hy
      exact h2 i y hy
    · rw [List.getElem?_append_right (by omega)] at hy
      have e : i - xs.length = 0 := by
        rcases Nat.eq_zero_or_pos (i - xs.length) with h | h
        · exact h
        · rw [List.getElem?_eq_none (by simp; omega)] at hy; cases hy
      rw [e] at hy
      obtain rfl : x = y := Option.some.inj hy
      obtain rfl : i = n := by omega
      exact hx
theorem weightsAll_mem {H : Type} {P : Program} {e : TypeId} : ∀ {ds : List (DataW H)} {d : DataW H} {n : Nat}, d ∈ ds → n ∈ d.weights P e → n ∈ DataW.weightsAll P e ds
  | d0 :: ds, d, n, hd, hn => by
    simp only [DataW.weightsAll, List.mem_append]
    rcases List.mem_cons.1 hd with rfl | hd
    · exact .inl hn
    · exact .inr (weightsAll_mem hd hn)
set_option maxRecDepth 100000
theorem spot_none {w : World} {a : Addr} {v : Value} (h : w.cell? a = some v) : a.spot = none := by
  unfold World.cell? at h
  split at h
  · split at h
    · cases h
    · rename_i hs
      cases ha : a.spot with
      | none => rfl
      | some x => rw [ha] at hs; simp at hs
  · cases h
theorem add_mk (g o k : Nat) : (⟨g, o, none⟩ : Addr).add k = ⟨g, o + k, none⟩ := by
  unfold Addr.add
  split
  · rename_i h0; subst h0; rfl
  · rfl
theorem bulk_one {H : Type} (d : DataW H) : 1 ≤ Rows.uptoBulk d := by
  cases d with
  | lit l => cases l <;> simp [Rows.uptoBulk]
  | nil => simp [Rows.uptoBulk]
  | ptr d => simp [Rows.uptoBulk]
  | slice elems spare => simp [Rows.uptoBulk]
  | agg parts => simp [Rows.uptoBulk]
  | iface t d => simp [Rows.uptoBulk]
  | map entries => simp [Rows.uptoBulk]
  | held h => simp [Rows.uptoBulk]
theorem bulk_len {H : Type} (l : List (DataW H)) : l.length ≤ Rows.uptoBulkAll l := by
  induction l with
  | nil => simp [Rows.uptoBulkAll]
  | cons x r ih => have := bulk_one x; simp only [Rows.uptoBulkAll, List.length_cons]; omega
section
variable {H : Type} {enc : TypeId × Value → H} {W : World}
/-- Labels that came in. -/
theorem open_labels {n : Nat} {v : Value} {y : DataW H × List MemPlace} (h : DataW.trod enc Tryz.prog W 0 (fun _ => true) true n 24 [v] = some y) (hs : ∀ k ∈ y.1.weights Tryz.prog 24, k ≤ reachBytes) :
    ∃ (A : Option Addr) (c : Nat) (l : List Nat), v = .slice A l.length c ∧ l.length ≤ c ∧ c ≤ maxLen ∧ l.length ≤ 140737488355328 ∧ (∀ x ∈ l, x < 4294967296) ∧ HasU W (· < W.heap.size) A l ∧ l.length ≤ Rows.uptoBulk y.1 := by
  rcases open_ints o_und24s o_und23u o_cells23 h with ⟨hcs, rfl⟩ | ⟨a, len, cap, zs, hcs, _, hl, hm, hz, rfl, hcell, hwz⟩
  · obtain rfl : v = .slice none 0 0 := by simpa using hcs
    exact ⟨none, 0, [], rfl, Nat.le_refl _, by unfold maxLen; omega, by simp, by simp, HasU.nil _ _ _, by simp⟩
  · obtain rfl : v = .slice (some a) len cap := by simpa using hcs
    simp only [if_true] at hz
    have hlen : ((zs.take len).map Int.toNat).length = len := by simp; omega
    have hw := hs ((len + (cap - len)) * 4) (by
      simp only [DataW.weights, o_und24s, o_bytes23, List.mem_cons]
      left
      simp [lits]
      omega)
    have hrb := reachBytes_lt
    refine ⟨some a, cap, (zs.take len).map Int.toNat, by rw [hlen], by omega, hm, by omega, ?_, ?_, ?_⟩
    rotate_left 2
    · have h1 := bulk_len (H := H) (lits .u32 (zs.take len))
      have h2 : (lits (H := H) .u32 (zs.take len)).length = (zs.take len).length := by simp [lits]
      simp only [Rows.uptoBulk, List.length_map]
      omega
    · intro x hx
      obtain ⟨z, hz1, rfl⟩ := List.mem_map.1 hx
      have hr := bounds_u32 (hwz z (List.mem_of_mem_take hz1))
      omega
    · intro k x hk
      rw [List.getElem?_map, List.getElem?_take] at hk
      split at hk
      case isFalse => simp at hk
      case isTrue hkl =>
        have hkz : k < zs.length := by omega
        rw [List.getElem?_eq_getElem hkz] at hk
        simp only [Option.map_some, Option.some.injEq] at hk
        have hc0 := hcell 0 (by omega)
        have hc := hcell k hkz
        rw [List.getD_eq_getElem?_getD, List.getElem?_eq_getElem hkz, Option.getD_some] at hc
        have hr := bounds_u32 (hwz zs[k] (List.getElem_mem hkz))
        have hsp := spot_none hc0
        obtain ⟨g, o, sp⟩ := a
        obtain rfl : sp = none := by simpa [Addr.add] using hsp
        refine ⟨g, o, rfl, cell_lt hc0, ?_⟩
        rw [add_mk] at hc
        rw [hc, ← hk]
        congr 2
        omega
/-- An instruction that came in, out of its five cells. -/
theorem open_cells {n : Nat} {cs : List Value} {y : DataW H × List MemPlace} (h : DataW.trod enc Tryz.prog W 0 (fun _ => true) true n 95 cs = some y) (hs : ∀ k ∈ y.1.weights Tryz.prog 95, k ≤ reachBytes) :
    ∃ (A : Option Addr) (c : Nat) (x : I), cs = insCells x A c ∧ x.wf ∧ x.l.length ≤ c ∧ c ≤ maxLen ∧ x.l.length ≤ 140737488355328 ∧ HasU W (· < W.heap.size) A x.l ∧ x.l.length + 5 ≤ Rows.uptoBulk y.1 := by
  obtain ⟨ys, n', _, rfl, hcl, hyl, hf⟩ := DataW.trod_struct o_undI h
  rw [o_cellsI] at hcl
  rw [o_sizeFs] at hyl
  obtain ⟨f0, hf0, ht0⟩ := fieldI 0 _ rfl
  obtain ⟨f1, hf1, ht1⟩ := fieldI 1 _ rfl
  obtain ⟨f2, hf2, ht2⟩ := fieldI 2 _ rfl
  obtain ⟨f3, hf3, ht3⟩ := fieldI 3 _ rfl
  obtain ⟨f4, hf4, ht4⟩ := fieldI 4 _ rfl
  obtain ⟨o0, k0⟩ := hone_of o_oneI 0 f0 hf0
  obtain ⟨o1, k1⟩ := hone_of o_oneI 1 f1 hf1
  obtain ⟨o2, k2⟩ := hone_of o_oneI 2 f2 hf2
  obtain ⟨o3, k3⟩ := hone_of o_oneI 3 f3 hf3
  obtain ⟨o4, k4⟩ := hone_of o_oneI 4 f4 hf4
  match cs, hcl with
  | [c0, c1, c2, c3, c4], _ =>
    match ys, hyl with
    | [y0, y1, y2, y3, y4], _ =>
      have g0 := hf 0 f0 hf0
      have g1 := hf 1 f1 hf1
      have g2 := hf 2 f2 hf2
      have g3 := hf 3 f3 hf3
      have g4 := hf 4 f4 hf4
      rw [o0, k0, ht0] at g0
      rw [o1, k1, ht1] at g1
      rw [o2, k2, ht2] at g2
      rw [o3, k3, ht3] at g3
      rw [o4, k4, ht4] at g4
      obtain ⟨m0, e0, _, w0⟩ := DataW.trod_int und5 g0
      obtain ⟨m1, e1, _, w1⟩ := DataW.trod_int o_und23u g1
      obtain ⟨m2, e2, _, w2⟩ := DataW.trod_int o_und23u g2
      obtain ⟨m3, e3, _, w3⟩ := DataW.trod_int o_und2i g3
      obtain rfl : c0 = .int .u8 m0 := by simpa using e0
      obtain rfl : c1 = .int .u32 m1 := by simpa using e1
      obtain rfl : c2 = .int .u32 m2 := by simpa using e2
      obtain rfl : c3 = .int .i64 m3 := by simpa using e3
      have b0 := bounds_u8 w0
      have b1 := bounds_u32 w1
      have b2 := bounds_u32 w2
      have b3 := bounds_i64 w3
      have g4' : DataW.trod enc Tryz.prog W 0 (fun _ => true) true n' 24 [c4] = some y4 := g4
      obtain ⟨A, c, l, rfl, hl1, hl2, hl3, hl4, hU, hbk⟩ := open_labels g4' (fun k hk => hs k (by
        simp only [DataW.weights, o_undI, o_typesFs, List.map_cons, List.map_nil, DataW.weightsEach, List.mem_append]
        simp [hk]))
      refine ⟨A, c, ⟨m0.toNat, m1.toNat, m2.toNat, m3, l⟩, ?_, ⟨by simp only; omega, by simp only; omega, by simp only; omega, b3.1, b3.2, hl4⟩, hl1, hl2, hl3, hU, ?_⟩
      rotate_left 1
      · have q0 := bulk_one y0.1
        have q1 := bulk_one y1.1
        have q2 := bulk_one y2.1
        have q3 := bulk_one y3.1
        simp only [List.map_cons, List.map_nil, Rows.uptoBulk, Rows.uptoBulkAll]
        omega
      simp only [insCells]
      rw [Int.toNat_of_nonneg b0.1, Int.toNat_of_nonneg b1.1, Int.toNat_of_nonneg b2.1]
end
end Go.Proofs.YtgnbkfkiigcdgaaGreatDoor
/-
  How a slice of sections that came in is opened: to sections, each one's bytes opened too; and how long they are at most.
-/
namespace Go.Proofs.YtgnbkfkiigcdgaaGreatDoor
open Go.RowKit Sec
open Go.ChangeShapes Go.WideShapes Go.ChangeAt Go.Deep
set_option maxRecDepth 100000
section
variable {H : Type} {enc : TypeId × Value → H} {W : World}
end
end Go.Proofs.YtgnbkfkiigcdgaaGreatDoor
