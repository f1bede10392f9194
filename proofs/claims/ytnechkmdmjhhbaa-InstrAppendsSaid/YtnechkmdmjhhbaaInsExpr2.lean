/-
  The reader's expression: the walk.
-/
import Derived.Test.YtnechkmdmjhhbaaInsExpr
import Derived.Deep.Cut
namespace Ins
theorem rdExpr_end {n : Nat} {l : List UInt8} {x : I} {k : Nat} (h : rdInstr l = .ok (x, k)) (hx : x.op = 11) : rdExpr (n + 1) [] l = .ok ([], k) := by
  simp [rdExpr, h, hx]
theorem rdExpr_stop {n : Nat} {o : List Bool} {l : List UInt8} {e : Nat} (h : rdInstr l = .error e) : rdExpr (n + 1) o l = .error e := by
  simp [rdExpr, h]
theorem rdExpr_none {n : Nat} {o : List Bool} {l : List UInt8} {x : I} {k : Nat} (h : rdInstr l = .ok (x, k)) (hx : ¬ (x.op = 11 ∧ o = [])) (hs : step o x.op = none) : rdExpr (n + 1) o l = .error 60 := by
  simp [rdExpr, h, hx, hs]
theorem rdExpr_step {n : Nat} {o o' : List Bool} {l : List UInt8} {x : I} {k : Nat} (h : rdInstr l = .ok (x, k)) (hx : ¬ (x.op = 11 ∧ o = [])) (hs : step o x.op = some o') : rdExpr (n + 1) o l = onto [x] k (rdExpr n o' (l.drop k)) := by
  simp [rdExpr, h, hx, hs]
theorem step_length {o o' : List Bool} {op : Nat} (h : step o op = some o') : o'.length ≤ o.length + 1 := by
  unfold step at h
  split at h
  · injection h with h; subst h; simp
  split at h
  · injection h with h; subst h; simp
  split at h
  · split at h
    · injection h with h; subst h; simp
    · cases h
  split at h
  · split at h
    · cases h
    · injection h with h; subst h; simp; omega
  · injection h with h; subst h; omega
theorem onto_nil {α : Type} (r : Except Nat (List α × Nat)) : onto [] 0 r = r := by
  cases r with
  | error e => rfl
  | ok q => simp [onto]
end Ins
namespace Go.Proofs.Ytnechkmdmjhhbaa
open Go.RowKit Ins
theorem blocks_cell {w : World} {K base : Nat} {o : List Bool} {own : Option Nat} (h : Blocks w K base o own) : ∃ A c, w.cell? ⟨K, 0, none⟩ = some (.slice A o.length c) ∧ o.length ≤ c ∧ c ≤ maxLen := by
  obtain ⟨v, m, hK, hO, _, _⟩ := h
  have hm : m = o.length := by have := hO.1; rw [bools_length] at this; omega
  subst hm
  obtain ⟨A, c, rfl, h1, h2⟩ := own_form hO
  exact ⟨A, c, by rw [cell_of_row w K 0 _ _ (0, 0) hK]; rfl, h1, h2⟩
theorem Blocks.mod {w w' : World} {T : Nat → Prop} {K base : Nat} {o : List Bool} {own : Option Nat} (h : Blocks w K base o own) (hm : Mod T w w') (hK : ¬ T K) (ho : ∀ g, own = some g → ¬ T g) : Blocks w' K base o own := by
  obtain ⟨v, m, h1, h2, h3, h4⟩ := h
  exact ⟨v, m, hm.heap h1 hK, hm.own h2 (fun g hg => ho g (by rw [h3]; exact hg)), h3, h4⟩
theorem Blocks.own_lt {w : World} {K base : Nat} {o : List Bool} {own : Option Nat} (h : Blocks w K base o own) : K < w.heap.size ∧ ∀ g, own = some g → base ≤ g ∧ g < w.heap.size := by
  obtain ⟨v, m, h1, h2, h3, h4⟩ := h
  exact ⟨(Array.getElem?_eq_some_iff.1 h1).1, fun g hg => h2.lt g (by rw [← h3]; exact hg)⟩
/-- Where the labels of what was read lie: behind the variable, apart from both rows. -/
def Apart (K : Nat) (own vown : Option Nat) (g : Nat) : Prop := K < g ∧ own ≠ some g ∧ vown ≠ some g
set_option maxRecDepth 100000 in
set_option maxHeartbeats 4000000 in
theorem expr_any (R : Nat) (A : Option Addr) (c : Nat) (l : List UInt8) (p F : Nat) (w : World) (h : Rd w R A c l p) (hlen : l.length ≤ 1000000000000) (hF : l.length - p < F) :
    Calls Try.prog 25 #[.pointer (some ⟨R, 0, none⟩)] w (RdPost R A c l p w (rdExpr F [] (l.drop p)) (InsL w.heap.size)) := by
  have HLT := Lib.hid h.lt
  have HR0 := Lib.hid h
  clear h
  go_enter Try.func25, Try.ntmps25
  go_wp2_with fail
  go_loopg [3] (l.length + 1) (fun gk v wr => ∃ (m f n : Nat) (xs : List I) (o : List Bool) (own : Option Nat), l.length - (p + m) < gk ∧ l.length - (p + m) < f ∧ n ≤ m ∧ Hid (OwnI wr (w.heap.size + 1) (Apart w.heap.size own v.ownBlock) v n xs) ∧ Hid (Blocks wr w.heap.size (w.heap.size + 1) o own) ∧ Hid (∀ g, own = some g → v.ownBlock ≠ some g) ∧ o.length ≤ m ∧ Hid (Rd wr R A c l (p + m)) ∧ Hid (Mod (· = R) w wr) ∧ Hid (rdExpr F [] (l.drop p) = onto xs m (rdExpr f o (l.drop (p + m)))))
  case atStart =>
    refine ⟨0, F, 0, [], [], none, by omega, by simpa using hF, Nat.le_refl _, Lib.hid (OwnI.nil _ _ _), Lib.hid ⟨.slice none 0 0, 0, heap_alloc_new w _, World.ownsRow_nil _ _ _ _, rfl, by simp⟩, Lib.hid (fun g hg => by cases hg), Nat.le_refl _, Lib.hid ?_, Lib.hid ((Mod.refl _ w).alloc _), Lib.hid (onto_nil _).symm⟩
    exact HR0.out.keep ((Mod.refl (fun _ => False) w).alloc _) (fun _ _ h => h)
  case round =>
    obtain ⟨m, f, n, xs, o, own, hg, hf, hnm, HO, HB, HD, hol, HR, HM, HE⟩ := hrel
    obtain ⟨f, rfl⟩ : ∃ f', f = f' + 1 := ⟨f - 1, by omega⟩
    have HC := Lib.hid (instr_any R A c l (p + m) wr HR.out)
    have hbs : w.heap.size + 1 ≤ wr.heap.size := HB.out.own_lt.1
    cases hr : rdInstr (l.drop (p + m)) with
    | error e =>
      rw [hr] at HC
      have HS := Lib.hid (rdExpr_stop (n := f) (o := o) hr)
      clear hr
      have hee : e = 60 ∨ e = 61 := rdExpr_err _ _ _ _ HS.out
      go_wp2_with (go_at_call 28; refine HC.out.mono ?_; rintro e2 w2 ⟨rfl, hm⟩; have HM2 := Lib.hid hm; clear hm)
      rw [HE.out, HS.out]
      exact ⟨rfl, rfl, HM.out.trans HM2.out (fun _ _ h => h)⟩
    | ok q =>
      obtain ⟨x, k⟩ := q
      rw [hr] at HC
      obtain ⟨hmay, hwf, hxl, hk1, hkl, _⟩ := rdInstr_ok hr
      rw [List.length_drop] at hkl
      have HI := Lib.hid hr
      clear hr hmay
      obtain ⟨op, xa, xb, xc, xl⟩ := x
      go_upto_region 4 with (go_at_call 28; refine HC.out.mono ?_; rintro e2 w2 ⟨v, rfl, ⟨A4, c4, rfl, hwf2, hlc, hcm, hU⟩, hr2, hm2⟩; dsimp only [insVal, insCells]; have HU4 := Lib.hid hU; have HR2 := Lib.hid hr2; have HM2 := Lib.hid hm2; clear hU hr2 hm2)
      -- the variable x is laid: one letter for the world
      have hsz := HM2.out.size
      have HX3 : Hid ((w2.alloc (.cells #[.int .u8 (op : Int), .int .u32 (xa : Int), .int .u32 (xb : Int), .int .i64 xc, .slice A4 xl.length c4] 26)).heap[w2.heap.size]? = some (.cells (insCells ⟨op, xa, xb, xc, xl⟩ A4 c4).toArray 26 (0, 0))) := Lib.hid (heap_alloc_new w2 _)
      have HM3 : Hid (Mod (fun _ => False) w2 (w2.alloc (.cells #[.int .u8 (op : Int), .int .u32 (xa : Int), .int .u32 (xb : Int), .int .i64 xc, .slice A4 xl.length c4] 26))) := Lib.hid ((Mod.refl _ w2).alloc _)
      have hs3 : w2.heap.size + 1 = (w2.alloc (.cells #[.int .u8 (op : Int), .int .u32 (xa : Int), .int .u32 (xb : Int), .int .i64 xc, .slice A4 xl.length c4] 26)).heap.size := by simp
      obtain ⟨X, hX⟩ : ∃ X, X = w2.heap.size := ⟨_, rfl⟩
      rw [← hX] at HX3 hs3 ⊢
      generalize w2.alloc (.cells #[.int .u8 (op : Int), .int .u32 (xa : Int), .int .u32 (xb : Int), .int .i64 xc, .slice A4 xl.length c4] 26) = w3 at HX3 HM3 hs3 ⊢
      obtain ⟨z0, z1, z2, z3, z4⟩ := cells5 (show w3.heap[X]? = some (.cells #[.int .u8 (op : Int), .int .u32 (xa : Int), .int .u32 (xb : Int), .int .i64 xc, .slice A4 xl.length c4] 26 (0, 0)) from HX3.out)
      have hXw : wr.heap.size ≤ X := by omega
      have hRl := HLT.out
      have hwb := HB.out.own_lt
      -- all that is kept, at w3
      have hB3 : Blocks w3 w.heap.size (w.heap.size + 1) o own := (HB.out.mod HM2.out (fun e => by omega) (fun g hgo e => by have := (hwb.2 g hgo).1; omega)).mod HM3.out (fun h => h) (fun _ _ h => h)
      have hO2 : OwnI w2 (w.heap.size + 1) (Apart w.heap.size own u3.ownBlock) u3 n xs := HO.out.mod HM2.out (fun g hgv e => by obtain ⟨ys, _, h1, _⟩ := HO.out; have := (h1.lt g hgv).1; omega) (fun g _ hap e => by have := hap.1; omega)
      have hO3 : OwnI w3 (w.heap.size + 1) (fun g => Apart w.heap.size own u3.ownBlock g ∧ g < wr.heap.size ∨ (wr.heap.size ≤ g ∧ g < X)) u3 n xs := by
        have h0 : OwnI wr (w.heap.size + 1) (fun g => Apart w.heap.size own u3.ownBlock g ∧ g < wr.heap.size ∨ (wr.heap.size ≤ g ∧ g < X)) u3 n xs := HO.out.more (fun g hgs hap => .inl ⟨hap, hgs⟩)
        refine (h0.mod HM2.out (fun g hgv e => ?_) (fun g _ hap e => ?_)).mod HM3.out (fun _ _ h => h) (fun _ _ _ h => h)
        · obtain ⟨ys, _, h1, _⟩ := HO.out
          have := (h1.lt g hgv).1
          omega
        · rcases hap with hap | hap
          · have := hap.1.1; omega
          · omega
      have hU3 : HasU w3 (fun g => Apart w.heap.size own u3.ownBlock g ∧ g < wr.heap.size ∨ (wr.heap.size ≤ g ∧ g < X)) A4 xl := (HU4.out.more (fun g hgs hge => .inr ⟨hge, by omega⟩)).mod HM3.out (fun _ _ _ h => h)
      have hvlt : ∀ g, u3.ownBlock = some g → w.heap.size + 1 ≤ g ∧ g < wr.heap.size := fun g hgv => by obtain ⟨ys, _, h1, _⟩ := HO.out; exact h1.lt g hgv
      have hR3 : Rd w3 R A c l (p + m + k) := HR2.out.keep HM3.out (fun _ _ h => h)
      have hM3 : Mod (· = R) w w3 := (HM.out.trans HM2.out (fun _ _ h => h)).trans HM3.out (fun _ _ h => h.elim)
      obtain ⟨A5, c5, kK, hoc, hcm5⟩ := blocks_cell hB3
      have HB3 := Lib.hid hB3
      have HO3 := Lib.hid hO3
      have HU3 := Lib.hid hU3
      have HVL := Lib.hid hvlt
      have HR3 := Lib.hid hR3
      have HMM3 := Lib.hid hM3
      have HWB := Lib.hid hwb
      have HWF := Lib.hid hwf2
      have HLC := Lib.hid hlc
      have HCM := Lib.hid hcm
      have HXX := Lib.hid hX
      clear hB3 hO2 hO3 hU3 hvlt hR3 hM3 hwb HC HM2 HU4 HR2 hwf hwf2 hX hlc hcm hxl
      unfold maxLen at hcm5
      by_cases hend : op = 11 ∧ o = []
      · obtain ⟨rfl, rfl⟩ := hend
        have HS := Lib.hid (rdExpr_end (n := f) HI.out rfl)
        go_wp2_with fail
        go_ret
        rw [HE.out, HS.out]
        have hOT := HO3.out.tell (fun g hgs => by rcases hgs with h | h <;> first | exact h.1.1 | omega)
        obtain ⟨A6, c6, e1, e2, e3, e4⟩ := hOT
        simp only [onto, List.append_nil]
        exact ⟨_, rfl, ⟨A6, c6, e1, e2, e3, e4.more (fun g _ h => by omega)⟩, by rw [← Nat.add_assoc]; exact HR3.out, HMM3.out⟩
      · have HP := Lib.hid (pass_any w.heap.size (w.heap.size + 1) o own op w3 HB3.out (by omega) (by omega))
        have HNE := Lib.hid hend
        -- the test ahead
        have htest : ((op : Int) == 11) = false ∨ ((op : Int) == 11) = true ∧ ((o.length : Int) == 0) = false := by
          by_cases h11 : op = 11
          · refine .inr ⟨by subst h11; rfl, ?_⟩
            have : o ≠ [] := fun e => hend ⟨h11, e⟩
            have := List.length_pos_iff.2 this
            simp; omega
          · exact .inl (by simp; omega)
        clear hend
        cases hs : Ins.step o op with
        | none =>
          have HS := Lib.hid (rdExpr_none (n := f) HI.out HNE.out hs)
          have HSN := Lib.hid hs
          clear hs
          rcases htest with h11 | ⟨h11, h12⟩
          all_goals
            go_wp2_with (go_at_call 22; refine HP.out.mono ?_; rintro e2 w4 ⟨he, hm4, _⟩; rw [HSN.out] at he; obtain rfl : e2 = .returned (.bool false) := he; have HM4 := Lib.hid hm4; clear hm4)
            rw [HE.out, HS.out]
            refine ⟨rfl, rfl, HMM3.out.trans HM4.out (fun g hgs h => ?_)⟩
            rcases h with h | h
            · omega
            · have := (HWB.out.2 g h).1; omega
        | some o' =>
          have HS := Lib.hid (rdExpr_step (n := f) HI.out HNE.out hs)
          have HSN := Lib.hid hs
          have hsl := step_length hs
          clear hs
          rcases htest with h11 | ⟨h11, h12⟩
          all_goals
            go_upto_region 8 with (go_at_call 22; refine HP.out.mono ?_; rintro e2 w4 ⟨he, hm4, hst4⟩; rw [HSN.out] at he; obtain rfl : e2 = .returned (.bool true) := he; have HM4 := Lib.hid hm4; have HST4 := Lib.hid hst4; clear hm4 hst4)
            obtain ⟨own', hB4, ht4⟩ := HST4.out o' HSN.out
            have hs4 := HM4.out.size
            have hX4 := HM4.out.heap HX3.out (fun h => by rcases h with h | h <;> first | omega | (have := (HWB.out.2 X h).2; omega))
            obtain ⟨y0, y1, y2, y3, y4⟩ := cells5 (show w4.heap[X]? = some (.cells #[.int .u8 (op : Int), .int .u32 (xa : Int), .int .u32 (xb : Int), .int .i64 xc, .slice A4 xl.length c4] 26 (0, 0)) from hX4)
            have hSS : ∀ g, g < w3.heap.size → (Apart w.heap.size own u3.ownBlock g ∧ g < wr.heap.size ∨ (wr.heap.size ≤ g ∧ g < X)) → Apart w.heap.size own' u3.ownBlock g ∧ ¬ (g = w.heap.size ∨ own = some g) := fun g hgs h => by
              have hno : own ≠ some g := fun e => by
                have := (HWB.out.2 g e).2
                rcases h with h | h
                · exact h.1.2.1 e
                · omega
              refine ⟨⟨by rcases h with h | h <;> first | exact h.1.1 | omega, fun e => ?_, fun e => ?_⟩, fun e => ?_⟩
              · rcases ht4 g e with h' | h'
                · exact hno h'
                · omega
              · have := (HVL.out g e).2
                rcases h with h | h
                · exact h.1.2.2 e
                · omega
              · rcases e with e | e
                · rcases h with h | h
                  · have := h.1.1; omega
                  · omega
                · exact hno e
            have hO4 : OwnI w4 (w.heap.size + 1) (Apart w.heap.size own' u3.ownBlock) u3 n xs := by
              have h1 : OwnI w3 (w.heap.size + 1) (fun g => Apart w.heap.size own' u3.ownBlock g ∧ ¬ (g = w.heap.size ∨ own = some g)) u3 n xs := HO3.out.more hSS
              refine (h1.mod HM4.out (fun g hgv e => ?_) (fun g _ h e => h.2 e)).more (fun g _ h => h.1)
              rcases e with e | e
              · have := (HVL.out g hgv).1; omega
              · exact HD.out g e hgv
            have hU4 : HasU w4 (Apart w.heap.size own' u3.ownBlock) A4 xl := ((HU3.out.more hSS).mod HM4.out (fun g _ h e => h.2 e)).more (fun g _ h => h.1)
            obtain ⟨v5, w5, hrun5, hO5, hm5, ht5⟩ := append1i w4 (w.heap.size + 1) n (Apart w.heap.size own' u3.ownBlock) u3 xs ⟨op, xa, xb, xc, xl⟩ A4 c4 hO4 (by omega) (by omega) ⟨HWF.out, HLC.out, HCM.out, hU4⟩ (fun g _ h => h.2.2)
            have HRUN5 := Lib.hid hrun5
            have HO5 := Lib.hid hO5
            have HM5 := Lib.hid hm5
            have HT5 := Lib.hid ht5
            have HB4 := Lib.hid hB4
            have HT4 := Lib.hid ht4
            clear hrun5 hO5 hm5 ht5 hO4 hU4 hSS hX4 hB4 ht4 HST4
            go_wp2_with (at_builtin; refine wpList_appends rfl (.tmp 22) (.tmp 24) 27 rfl _ _ _ w5 rfl rfl HRUN5.out ?_)
            go_roundg (l.length - (p + (m + k)) + 1)
            case measure => omega
            case rel =>
              have hdis : ∀ g, own' = some g → u3.ownBlock ≠ some g := fun g e e2 => by
                rcases HT4.out g e with h | h
                · exact HD.out g h e2
                · have := (HVL.out g e2).2; omega
              refine ⟨m + k, f, n + 1, xs ++ [⟨op, xa, xb, xc, xl⟩], o', own', by omega, by omega, by omega, Lib.hid (HO5.out.more (fun g _ h => ⟨h.1.1, h.1.2.1, h.2⟩)), Lib.hid (HB4.out.mod HM5.out (fun e => by have := (HVL.out _ e).1; omega) (fun g e => hdis g e)), Lib.hid (fun g e e2 => ?_), by omega, Lib.hid ?_, Lib.hid ?_, Lib.hid ?_⟩
              · rcases HT5.out g e2 with h | h
                · exact hdis g e h
                · have := (HB4.out.own_lt.2 g e).2; omega
              · rw [← Nat.add_assoc]
                refine (HR3.out.keep HM4.out (fun g hgs e => ?_)).keep HM5.out (fun g hgs e => ?_)
                · rcases e with e | e
                  · omega
                  · have := (HWB.out.2 g e).1; omega
                · have := (HVL.out g e).1; omega
              · refine (HMM3.out.trans HM4.out (fun g hgs e => ?_)).trans HM5.out (fun g hgs e => ?_)
                · rcases e with e | e
                  · omega
                  · have := (HWB.out.2 g e).1; omega
                · have := (HVL.out g e).1; omega
              · rw [HE.out, HS.out, onto_onto, List.drop_drop, Nat.add_assoc]
end Go.Proofs.Ytnechkmdmjhhbaa
