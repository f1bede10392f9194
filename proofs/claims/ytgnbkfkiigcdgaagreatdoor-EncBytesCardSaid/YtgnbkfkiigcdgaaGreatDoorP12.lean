/-
  The document's answer for layer 7: the bytes of a code.
-/
import Derived.Test.YtgnbkfkiigcdgaaGreatDoorP11
import Derived.Test.YtgnbkfkiigcdgaaGreatDoorP01
import Derived.Laws.IdiomStrings
import Derived.Laws.AppendOwn
namespace Bin
open Ins
def encLcs (xs : List Lc) : List UInt8 := xs.flatMap encLc
theorem encLcs_le (xs : List Lc) (h : ∀ x ∈ xs, x.n < 4294967296) : (encLcs xs).length ≤ 11 * xs.length := by
  induction xs with
  | nil => simp [encLcs]
  | cons x xs ih =>
    have h1 := ih (fun y hy => h y (by simp [hy]))
    have h2 := Leb.encU_le10 x.n (by have := h x (by simp); omega)
    simp only [encLcs, List.flatMap_cons, List.length_append, List.length_cons, encLc] at h1 ⊢
    simp only [List.length_nil]
    omega
def sumL (xs : List Lc) (j : Nat) : Nat := locSum (xs.take j)
theorem sumL_succ {xs : List Lc} {j : Nat} {x : Lc} (h : xs[j]? = some x) : sumL xs (j + 1) = sumL xs j + x.n := by
  unfold sumL locSum
  rw [List.take_add_one, h]
  simp
theorem sumL_le {xs : List Lc} (h : ∀ x ∈ xs, x.n < 4294967296) : ∀ (j : Nat), sumL xs j ≤ j * 4294967296
  | 0 => by simp [sumL, locSum]
  | j + 1 => by
    have ih := sumL_le h j
    cases hx : xs[j]? with
    | none =>
      have : sumL xs (j + 1) = sumL xs j := by
        unfold sumL
        rw [List.take_add_one, hx]
        simp
      omega
    | some x =>
      have := h x (List.mem_of_getElem? hx)
      rw [sumL_succ hx]
      omega
def moreOk (x : Imp) : Bool :=
  if x.kind = 0 then decide (x.lim = ⟨0, 0⟩) && decide (x.glob = ⟨0, false⟩)
  else if x.kind = 1 ∨ x.kind = 2 then (decide (-1 ≤ x.lim.max) && decide (x.lim.max ≤ 4294967295)) && decide (x.type = 0) && decide (x.glob = ⟨0, false⟩)
  else if x.kind = 3 then whole1 x.glob.t && decide (x.type = 0) && decide (x.lim = ⟨0, 0⟩)
  else false
def impOk (x : Imp) : Bool := U8.text x.mod && U8.text x.name && moreOk x
def cdOk (c : Cd) : Bool := c.locals.all (fun x => whole1 x.t) && exprB c.body && decide (locSum c.locals ≤ 4294967295)
end Bin
namespace Go.Proofs.YtgnbkfkiigcdgaaGreatDoor
open Go.RowKit Ins Bin
set_option maxRecDepth 100000 in
set_option maxHeartbeats 4000000 in
theorem bcode_any (ls : List Lc) (bd : List I) (A1 A2 : Option Addr) (n1 c1 n2 c2 : Nat) (w : World) (h1 : HasL w (· < w.heap.size) A1 ls) (hn1 : ls.length = n1) (hs1 : n1 ≤ 100000) (h2 : HasI w (· < w.heap.size) A2 bd) (hn2 : bd.length = n2) (hs2 : many bd ≤ 200000) :
    Calls Tryz.prog 40 #[.agg #[.slice A1 n1 c1, .slice A2 n2 c2]] w (BRes (cdOk ⟨ls, bd⟩) (encCd ⟨ls, bd⟩) w) := by
  have hlt : ∀ x ∈ ls, x.n < 4294967296 := fun x hx => by
    obtain ⟨k, hk⟩ := List.mem_iff_getElem?.1 hx
    obtain ⟨_, _, _, _, _, _, hr, _⟩ := h1 k x hk
    exact hr.2
  have HSL := Lib.hid (sumL_le hlt)
  have HLL := Lib.hid (fun j => encLcs_le (ls.take j) (fun x hx => hlt x (List.mem_of_mem_take hx)))
  have H1 := Lib.hid h1
  have H2 := Lib.hid h2
  have HN1 := Lib.hid hn1
  have HN2 := Lib.hid hn2
  have HMB := Lib.hid hs2
  have HX0 : Hid ((w.alloc (.cells #[.slice A1 n1 c1, .slice A2 n2 c2] 54)).heap[w.heap.size]? = some (.cells #[.slice A1 n1 c1, .slice A2 n2 c2] 54 (0, 0))) := Lib.hid (heap_alloc_new w _)
  have HB0 : Hid (Below w.heap.size w (w.alloc (.cells #[.slice A1 n1 c1, .slice A2 n2 c2] 54))) := Lib.hid ((Below.refl _ _).alloc (Nat.le_refl _) _)
  have HS0 : Hid ((w.alloc (.cells #[.slice A1 n1 c1, .slice A2 n2 c2] 54)).heap.size = w.heap.size + 1) := Lib.hid (by simp)
  have hw : IntKind.u64.wrap (n1 : Int) = (n1 : Int) := IntWalk.u64_in _ (by omega)
  have HC := Lib.hid (fun W => bU_any n1 W (by omega))
  have hle := Leb.encU_le10 n1 (by omega)
  obtain ⟨E, hE⟩ : ∃ E, Leb.encU n1 = E := ⟨_, rfl⟩
  rw [hE] at HC hle
  have HE := Lib.hid hE
  clear h1 h2 hn1 hn2 hs2 hE hlt
  go_enter Tryz.func40, Tryz.ntmps40
  go_upto_region 1 with fail
  generalize w.alloc (.cells #[.slice A1 n1 c1, .slice A2 n2 c2] 54) = w0 at HX0 HB0 HS0 ⊢
  have HXB : Hid (∀ W, Below w0.heap.size w0 W → W.cell? ⟨w.heap.size, 0, none⟩ = some (.slice A1 n1 c1) ∧ W.cell? ⟨w.heap.size, 1, none⟩ = some (.slice A2 n2 c2)) := Lib.hid (fun W hb => by
    have h := (hb.block w.heap.size (by have := HS0.out; omega)).trans HX0.out
    exact ⟨by rw [cell_of_row W _ 0 _ _ (0, 0) h]; rfl, by rw [cell_of_row W _ 1 _ _ (0, 0) h]; rfl⟩)
  obtain ⟨y0, y1⟩ := HXB.out w0 (Below.refl _ _)
  go_upto_region 5 with (go_at_call 18; refine (HC.out _).mono ?_; rintro e wa ⟨v, rfl, ho, hb⟩; have HO1 := Lib.hid ho; have HB1 := Lib.hid hb; clear ho hb)
  go_loopw [4, 5, 6, 7] (fun u s k i wr => ∃ j : Nat, j ≤ n1 ∧ i = .int .i64 (j : Int) ∧ s = .int .u64 (sumL ls j : Int) ∧ k = .bool ((ls.take j).all fun x => whole1 x.t) ∧ Hid (wr.ownsRow w0.heap.size 5 1 u (E ++ encLcs (ls.take j)).length (bytesOf (E ++ encLcs (ls.take j)))) ∧ Hid (Below w0.heap.size w0 wr)) (fun _ _ _ i _ => n1 - (intOf i).toNat)
  case atStart => exact ⟨0, by omega, rfl, rfl, rfl, Lib.hid (by simpa [encLcs] using HO1.out), Lib.hid HB1.out⟩
  case round =>
    obtain ⟨j, hj, rfl, rfl, rfl, HO, HB⟩ := hrel
    obtain ⟨k0, k1⟩ := HXB.out wr HB.out
    by_cases hjn : j < n1
    · obtain ⟨x, hx⟩ : ∃ x, ls[j]? = some x := ⟨_, List.getElem?_eq_getElem (by rw [HN1.out]; exact hjn)⟩
      obtain ⟨g, o, cs, rfl, _, hg, ⟨hcs, hxn⟩, hcell⟩ := H1.out j x hx
      subst hcs
      have hji : (j : Int) < (n1 : Int) := by omega
      have hsz : Lay.size Lc = 2 := rfl
      rw [hsz] at hcell
      have hc0 := hcell 0 _ rfl
      have hc1 := hcell 1 _ rfl
      simp only [Nat.add_zero] at hc0
      have HALL : Hid (∀ W, Below w0.heap.size w0 W → W.cell? ⟨w.heap.size, 0, none⟩ = some (.slice (some ⟨g, o, none⟩) n1 c1) ∧ W.cell? ⟨g, o + j * 2, none⟩ = some (.int .u32 (x.n : Int)) ∧ W.cell? ⟨g, o + j * 2 + 1, none⟩ = some (.int .u8 (x.t.toNat : Int))) := Lib.hid (fun W hb => by
        have h := HB0.out.trans (hb.mono HB0.out.size)
        exact ⟨(HXB.out W hb).1, (h.cell (p := ⟨g, o + j * 2, none⟩) hg).trans hc0, (h.cell (p := ⟨g, o + j * 2 + 1, none⟩) hg).trans hc1⟩)
      obtain ⟨_, z0, z1⟩ := HALL.out wr HB.out
      have hs1 := HSL.out j
      have hs2 := sumL_succ hx
      have hwn : IntKind.u64.wrap (x.n : Int) = (x.n : Int) := IntWalk.u64_in _ (by omega)
      have hws : IntKind.u64.wrap ((sumL ls j : Int) + (x.n : Int)) = (sumL ls j : Int) + (x.n : Int) := IntWalk.u64_in _ (by omega)
      have HS2 := Lib.hid hs2
      have htk : ls.take (j + 1) = ls.take j ++ [x] := by rw [List.take_add_one, hx]; rfl
      have HTK := Lib.hid htk
      have hol : (E ++ encLcs (ls.take j)).length ≤ 10 + 11 * j := by
        have h1 := HLL.out j
        rw [List.length_append]
        have h2 : (ls.take j).length ≤ j := by rw [List.length_take]; omega
        omega
      have HQ := Lib.hid (bU_adds w0.heap.size u4 (E ++ encLcs (ls.take j)) x.n wr HO.out HB.out.size (by omega) (by omega))
      have hle2 := Leb.encU_le10 x.n (by omega)
      have HNEW : Hid (∀ W v, Adds w0.heap.size wr u4 W v (E ++ encLcs (ls.take j) ++ Leb.encU x.n) → ∃ v6 w6, (Builtin.append_ #[36, 36] 36 #[v, .slice (some ⟨W.heap.size, 0, none⟩) 1 1]).run Tryz.prog (W.alloc (.cells #[.int .u8 (x.t.toNat : Int)] 5)) = .ok v6 w6 ∧ w6.ownsRow w0.heap.size 5 1 v6 (E ++ encLcs (ls.take (j + 1))).length (bytesOf (E ++ encLcs (ls.take (j + 1)))) ∧ Below w0.heap.size w0 W ∧ Below w0.heap.size w0 w6) := Lib.hid (fun W v ha => by
        have hbW := HB.out.trans (ha.below (own_ge HO.out) HB.out.size)
        obtain ⟨v6, w6, hr6, ha6⟩ := append1_adds W w0.heap.size v (E ++ encLcs (ls.take j) ++ Leb.encU x.n) x.t ha.1 (by rw [List.length_append]; omega) hbW.size
        have e : E ++ encLcs (ls.take j) ++ Leb.encU x.n ++ [x.t] = E ++ encLcs (ls.take (j + 1)) := by
          rw [HTK.out]
          simp [encLcs, encLc]
        rw [e] at ha6
        exact ⟨v6, w6, hr6, ha6.1, hbW, hbW.trans (ha6.below (own_ge ha.1) hbW.size)⟩)
      have HV := Lib.hid (fun W => bval_any x.t W)
      have HKB : Hid ((ls.take (j + 1)).all (fun x => whole1 x.t) = ((ls.take j).all (fun x => whole1 x.t) && whole1 x.t)) := Lib.hid (by rw [htk, List.all_append]; simp)
      obtain ⟨kb, hkb⟩ : ∃ kb, (ls.take j).all (fun x => whole1 x.t) = kb := ⟨_, rfl⟩
      rw [hkb] at HKB ⊢
      obtain ⟨wt, hwt⟩ : ∃ wt, whole1 x.t = wt := ⟨_, rfl⟩
      rw [hwt] at HKB HV
      clear hx hcell hsz hc0 hc1 hs2 htk hkb hwt hle2 y0 y1
      generalize sumL ls j = s at hs1 hws HS2 ⊢
      cases kb
      all_goals
        go_wp2_with (first | (go_at_call 18; refine HQ.out.mono ?_; rintro e wf ⟨Af, cf, mf, w4, v4, rfl, hr, ha4, hbf⟩; obtain ⟨v6, w6, hr6, ho6, hbW, hb6⟩ := HNEW.out _ _ ha4; have HR := Lib.hid hr; have HR6 := Lib.hid hr6; have HO6 := Lib.hid ho6; have HB6 := Lib.hid hb6; obtain ⟨p0, p1, p2⟩ := HALL.out _ (HB.out.trans (hbf.mono HB.out.size)); obtain ⟨q0, q1, q2⟩ := HALL.out _ hbW; obtain ⟨r0, r1, r2⟩ := HALL.out _ hb6; clear hr ha4 hbf hr6 ho6 hbW hb6) | (go_at_call 63; refine (HV.out _).mono ?_; rintro e w7 ⟨rfl, rfl⟩) | (at_builtin; refine wpList_appends rfl (.tmp 22) (.tmp 30) 36 rfl _ _ _ w4 rfl rfl HR.out ?_) | (at_builtin; refine wpList_appends rfl (.tmp 32) (.tmp 39) 36 rfl _ _ _ w6 rfl rfl HR6.out ?_))
        go_roundw
        case rel => exact ⟨j + 1, by omega, by go_num, by rw [HS2.out]; go_num, by rw [HKB.out]; rfl, HO6, HB6⟩
        case measure => simp [intOf]; omega
    · obtain rfl : j = n1 := by omega
      have hall : ls.take j = ls := by rw [List.take_of_length_le (by rw [HN1.out]; omega)]
      have hO := HO.out
      rw [hall] at hO
      have hsum : sumL ls j = locSum ls := by unfold sumL; rw [hall]
      rw [hall, hsum]
      have hoL := HLL.out j
      rw [hall, HN1.out] at hoL
      have hol : (E ++ encLcs ls).length ≤ 10 + 11 * j := by rw [List.length_append]; omega
      have HOO := Lib.hid hO
      have hbw := HB0.out.trans (HB.out.mono HB0.out.size)
      have HRE := Lib.hid (rexpr2_any A2 bd n2 c2 wr ((H2.out.mod (Mod.of_below (T := fun _ => False) hbw) (fun _ _ _ h => h)).more (fun g _ hg => Nat.lt_of_lt_of_le hg hbw.size)) HN2.out.symm HMB.out)
      have hfin : ∀ W v8 l8, Below wr.heap.size wr W → W.ownsRow wr.heap.size 5 1 v8 l8.length (bytesOf l8) → l8.length ≤ 20000000 →
          ∃ A8 c8 n8 w9 A9 c9 q, v8 = .slice A8 n8 c8 ∧ (E ++ encLcs ls ++ l8).length = q ∧ q ≤ 30000000 ∧ (Builtin.append_ #[36, 36] 36 #[u4, .slice A8 n8 c8]).run Tryz.prog W = .ok (.slice A9 q c9) w9 ∧ Below w0.heap.size w0 w9 ∧
            ∀ W2 v10, Below w9.heap.size w9 W2 → W2.ownsRow w9.heap.size 5 1 v10 (Leb.encU q).length (bytesOf (Leb.encU q)) →
              ∃ v11 w11, (Builtin.append_ #[36, 36] 36 #[v10, .slice A9 q c9]).run Tryz.prog W2 = .ok v11 w11 ∧ w11.ownsRow w.heap.size 5 1 v11 (Leb.encU q ++ (E ++ encLcs ls ++ l8)).length (bytesOf (Leb.encU q ++ (E ++ encLcs ls ++ l8))) ∧ Below w.heap.size w w11 := by
        intro W v8 l8 hb ho hl
        obtain ⟨A8, c8, rfl, _, _, _, _, hh8⟩ := own_sl ho
        obtain ⟨v9, w9, hr9, ha9⟩ := appends_adds W w0.heap.size l8.length c8 u4 (E ++ encLcs ls) l8 A8 ((Mod.of_below (T := fun _ => False) hb).own HOO.out (fun _ _ h => h)) hh8 rfl (by omega) (Nat.le_trans HB.out.size hb.size)
        obtain ⟨A9, c9, rfl, _, _, _, _, hh9⟩ := own_sl ha9.1
        have hb9 : Below w0.heap.size w0 w9 := HB.out.trans ((hb.mono HB.out.size).trans (ha9.below (own_ge HOO.out) (Nat.le_trans HB.out.size hb.size)))
        have hq : (E ++ encLcs ls ++ l8).length ≤ 30000000 := by rw [List.length_append]; omega
        refine ⟨A8, c8, _, w9, A9, _, _, rfl, rfl, hq, hr9, hb9, fun W2 v10 hb2 ho10 => ?_⟩
        have hll : (Leb.encU (E ++ encLcs ls ++ l8).length).length ≤ 10 := Leb.encU_le10 _ (by omega)
        obtain ⟨v11, w11, hr11, ha11⟩ := appends_adds W2 w9.heap.size _ c9 v10 (Leb.encU (E ++ encLcs ls ++ l8).length) (E ++ encLcs ls ++ l8) A9 ho10 (hh9.on hb2) rfl (by omega) hb2.size
        have hbw9 := HB0.out.trans (hb9.mono HB0.out.size)
        exact ⟨v11, w11, hr11, own_base ha11.1 hbw9.size, (hbw9.trans (hb2.mono hbw9.size)).trans ((ha11.below (own_ge ho10) hb2.size).mono hbw9.size)⟩
      have HFIN := Lib.hid hfin
      have HTOT : Hid (∀ l8 : List UInt8, (exprB bd = true → l8 = exprEnc bd) → cdOk ⟨ls, bd⟩ = true → Leb.encU (E ++ encLcs ls ++ l8).length ++ (E ++ encLcs ls ++ l8) = encCd ⟨ls, bd⟩) := Lib.hid (fun l8 h hok => by
        have hb : exprB bd = true := by
          unfold cdOk at hok
          simp only [Bool.and_eq_true] at hok
          exact hok.1.2
        rw [h hb, ← HE.out, ← HN1.out]
        rfl)
      clear hO hall hsum hbw hfin hoL
      have hcd : cdOk ⟨ls, bd⟩ = ((ls.all fun x => whole1 x.t) && exprB bd && decide (locSum ls ≤ 4294967295)) := rfl
      have HCD := Lib.hid hcd
      clear hcd
      obtain ⟨kb, hkb⟩ : ∃ kb, ls.all (fun x => whole1 x.t) = kb := ⟨_, rfl⟩
      obtain ⟨eb, heb⟩ : ∃ eb, exprB bd = eb := ⟨_, rfl⟩
      have HEB := Lib.hid heb
      rw [hkb, heb] at HCD
      rw [hkb]
      obtain ⟨s, hs⟩ : ∃ s, locSum ls = s := ⟨_, rfl⟩
      rw [hs] at HCD ⊢
      have hcase : decide ((s : Int) ≤ 4294967295) = decide (s ≤ 4294967295) := by
        by_cases h : s ≤ 4294967295
        · rw [decide_eq_true h, decide_eq_true (by omega)]
        · rw [decide_eq_false h, decide_eq_false (by omega)]
      obtain ⟨db, hdb⟩ : ∃ db, decide (s ≤ 4294967295) = db := ⟨_, rfl⟩
      rw [hdb] at HCD hcase
      have HDB := Lib.hid hcase
      clear hkb heb hs hdb hcase
      cases kb <;> cases eb <;> cases db
      all_goals
        have hdd := HDB.out
        go_wp2_with (first | (go_at_call 37; refine HRE.out.mono ?_; rintro e w7 ⟨hb7, v8, l8, he, ho8, hl8, hx8⟩; rw [HEB.out] at he; obtain ⟨A8, c8, n8, w9, A9, c9, q, rfl, hq, hq3, hr9, hb9, hnx⟩ := HFIN.out _ _ _ hb7 ho8 hl8; subst he; have HR9 := Lib.hid hr9; have HNX := Lib.hid hnx; have HX8 := Lib.hid hx8; have HQ := Lib.hid hq; have hwq : IntKind.u64.wrap (q : Int) = (q : Int) := IntWalk.u64_in _ (by omega); have HU9 := Lib.hid (bU_any q w9 (by omega)); obtain ⟨k2, k3⟩ := HXB.out _ hb9; clear hb7 ho8 hx8 hr9 hb9 hnx hq) | (at_builtin; refine wpList_appends rfl (.tmp 66) (.tmp 67) 36 rfl _ _ _ w9 rfl rfl HR9.out ?_) | (go_at_call 18; refine HU9.out.mono ?_; rintro e w10 ⟨v10, rfl, ho10, hb10⟩; obtain ⟨v11, w11, hr11, ho11, hb11⟩ := HNX.out _ _ hb10 ho10; have HR11 := Lib.hid hr11; have HO11 := Lib.hid ho11; have HB11 := Lib.hid hb11; clear ho10 hb10 hr11 ho11 hb11) | (at_builtin; refine wpList_appends rfl (.tmp 72) (.tmp 73) 36 rfl _ _ _ w11 rfl rfl HR11.out ?_))
        go_ret2
        rw [HCD.out]
        refine bres_of HB11.out HO11.out (by have := HQ.out; have := Leb.encU_le10 q (by omega); rw [List.length_append]; omega) (fun e => ?_)
        have := HTOT.out l8 (fun h => HX8.out h) (by rw [HCD.out]; exact e)
        rw [HQ.out] at this
        exact this
end Go.Proofs.YtgnbkfkiigcdgaaGreatDoor
/-
  []byte(s), as an equation of a run: a new slice that reads as the string's bytes; all that was there is as it was.
-/
namespace Go.Proofs.YtgnbkfkiigcdgaaGreatDoor
open Go.RowKit
theorem bytes_of (w : World) (s : ByteArray) : ∃ A c w', (convert 9 36 (.string s)).run Tryz.prog w = .ok (.slice A s.size c) w' ∧ s.size ≤ c ∧ Has w' w'.heap.size A s.data.toList ∧ Below w.heap.size w w' := by
  refine ⟨_, _, _, run_bytes_of_string w 9 36 5 s und9 und22 und5, grownCap_ge _ _ _ _, fun k x hx => ⟨_, rfl, by simp, ?_⟩, ((Below.drew (Below.refl _ _)).alloc (Nat.le_refl _) _)⟩
  have hk : k < s.data.size := by
    have := (List.getElem?_eq_some_iff.1 hx).1; simpa using this
  have e2 : (⟨w.heap.size, 0, none⟩ : Addr).add k = ⟨w.drew.heap.size, k, none⟩ := by
    unfold Addr.add; split
    · next h => subst h; rfl
    · simp
  rw [e2, World.cell?_alloc_mark, bytesRow_at _ _ _ hk]
  have : s.data[k] = x := by
    have h := (List.getElem?_eq_some_iff.1 hx).2
    simpa using h
  rw [this]
end Go.Proofs.YtgnbkfkiigcdgaaGreatDoor
