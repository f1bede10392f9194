/-
  Layer 6's lists: the walks, part 1. (gen/bindec/lists.py)
-/
import Derived.Test.YtaloenmpidbhlaaDoorBinRb
import Derived.Deep.Cut
namespace Go.Proofs.YtaloenmpidbhlaaDoor
open Go.RowKit Ins Bin
set_option maxRecDepth 100000 in
set_option maxHeartbeats 4000000 in
theorem vals_any (p : P UInt8) (R : Nat) (l : List UInt8) (w : World) (hR : Rb w R l) (hT : Tb w) (hp : ∀ l' W, Rb W R l' → Tb W → Calls Tryd.prog 62 #[.pointer (some ⟨R, 0, none⟩)] W (BPost R W l' (p l') (Tell1 W.heap.size))) :
    Calls Tryd.prog 61 #[.pointer (some ⟨R, 0, none⟩), .func (.func 62) #[] #[]] w (BPost R w l (list p l) fun w' xs v => SliceV w' (w.heap.size ≤ ·) xs v) := by
  have HLT := Lib.hid hR.lt
  have HRR := Lib.hid hR
  have HTT := Lib.hid hT
  have HPP := Lib.hid hp
  have HN := Lib.hid (bnum_any R l w hR)
  clear hR hT hp
  cases hn : num l with
  | error e0 =>
    rw [list_stop hn]
    rw [hn] at HN
    clear hn
    go_enter Tryd.func61, Tryd.ntmps61
    go_wp2_with (go_at_call 42; refine HN.out.mono ?_; rintro e w1 ⟨rfl, hm⟩)
    exact ⟨rfl, rfl, hm⟩
  | ok q =>
    obtain ⟨n, i0⟩ := q
    have HL := Lib.hid (list_go (p := p) hn)
    rw [hn] at HN
    clear hn
    go_enter Tryd.func61, Tryd.ntmps61
    go_upto_region 3 with (go_at_call 42; refine HN.out.mono ?_; rintro e w1 ⟨v, rfl, ⟨rfl, hnlt⟩, hr, hm⟩; have HR1 := Lib.hid hr; have HM1 := Lib.hid hm; clear hr hm)
    have HT1 := Lib.hid (HTT.out.rb HRR.out HM1.out)
    have HS1 := Lib.hid HM1.out.size
    go_loopw [5, 8] (fun v i wr => ∃ (j k : Nat) (xs : List UInt8), j ≤ n ∧ i = .int .u32 (j : Int) ∧ xs.length = j ∧ Hid (OwnL 5 wr w.heap.size (fun g => w.heap.size ≤ g ∧ v.ownBlock ≠ some g) v xs) ∧ Hid (Rb wr R (l.drop k)) ∧ Hid (Mod (· = R) w wr) ∧ Hid (Tb wr) ∧ Hid (list p l = onto xs k (many p (n - j) (l.drop k)))) (fun _ i _ => n - (intOf i).toNat)
    case atStart => exact ⟨0, i0, [], by omega, rfl, rfl, Lib.hid (OwnL.nil _ _ _ _), Lib.hid HR1.out, Lib.hid HM1.out, Lib.hid HT1.out, Lib.hid (by rw [HL.out, Nat.sub_zero])⟩
    case round =>
      obtain ⟨j, k, xs, hj, rfl, hxl, HO, HR, HM, HT, HE⟩ := hrel
      by_cases hjn : j < n
      · have hji : (j : Int) < (n : Int) := by omega
        obtain ⟨d, hd⟩ : ∃ d, n - j = d + 1 := ⟨n - j - 1, by omega⟩
        rw [hd] at HE
        have hd' : n - (j + 1) = d := by omega
        have HD := Lib.hid hd'
        have HXL := Lib.hid hxl
        have HP := Lib.hid (HPP.out (l.drop k) wr HR.out HT.out)
        clear hd hd' hxl
        cases hx : p (l.drop k) with
        | error e0 =>
          rw [hx] at HP
          have HS := Lib.hid (many_stop (n := d) hx)
          clear hx
          go_wp2_with (go_at_call 62; refine HP.out.mono ?_; rintro e w2 ⟨rfl, hm⟩)
          rw [HE.out, HS.out]
          exact ⟨rfl, rfl, HM.out.trans hm (fun _ _ h => h)⟩
        | ok q =>
          obtain ⟨x, k1⟩ := q
          rw [hx] at HP
          have HS := Lib.hid (many_go (n := d) hx)
          have hw : IntKind.u32.wrap ((j : Int) + 1) = ((j + 1 : Nat) : Int) := by rw [IntWalk.u32_in _ (by omega)]; omega
          clear hx
          go_upto_region 5 with (first | (go_at_call 62; refine HP.out.mono ?_; rintro e w2 ⟨v, rfl, ht, hr2, hm2⟩; obtain rfl : v = .int .u8 (x.toNat : Int) := (List.cons.inj ht).1; have hrep := ht; have hsz2 := hm2.size; have hlt := HLT.out; have hov : ∀ g, u5.ownBlock = some g → ¬ g = R := (fun g hg e => by have := (HO.out.lt g hg).1; omega); have hO2 : OwnL 5 w2 w.heap.size (fun g => w.heap.size ≤ g ∧ u5.ownBlock ≠ some g) u5 xs := HO.out.mod hm2 hov (fun g _ hg e => by have := hg.1; omega); obtain ⟨v5, w5, hrun, hO5, hM5, hT5⟩ := append1L undUInt8 infUInt8 (by decide) rfl (by decide) w2 w.heap.size (fun g => w.heap.size ≤ g ∧ u5.ownBlock ≠ some g) u5 xs x [.int .u8 (x.toNat : Int)] hO2 (by have := HXL.out; omega) (by have := HM.out.size; omega) (Lay.more hrep (fun g hg h => ⟨by have := HM.out.size; omega, fun e => by have := (HO.out.lt g e).2; omega⟩)) (by simp [Value.oneCell']) (fun g _ h => h.2); have HRUN := Lib.hid hrun; have HO5 := Lib.hid hO5; have HM5 := Lib.hid hM5; have HR2 := Lib.hid hr2; have HM2 := Lib.hid hm2; have HOV := Lib.hid hov; clear hrun hO5 hM5 hT5 hr2 hm2 hO2 hrep ht hov) | (at_builtin; refine wpList_appends rfl (.tmp 10) (.tmp 14) 22 rfl _ _ _ w5 rfl rfl HRUN.out ?_))
          go_wp2_with fail
          go_roundw
          case rel =>
            have hlt := HLT.out
            have hM2' := HM.out.trans HM2.out (fun _ _ h => h)
            refine ⟨j + 1, k + k1, xs ++ [x], by omega, by go_num, by rw [List.length_append, HXL.out]; rfl, Lib.hid (HO5.out.more (fun g _ h => ⟨h.1.1, h.2⟩)), Lib.hid ?_, Lib.hid ?_, Lib.hid ?_, Lib.hid ?_⟩
            · have := HR2.out
              rw [List.drop_drop] at this
              exact this.keep HM5.out (fun g hg e => by have := (HO.out.lt g e).1; omega)
            · exact hM2'.trans HM5.out (fun g hg e => by have := (HO.out.lt g e).1; omega)
            · exact (HT.out.rb HR.out HM2.out).mod HM5.out (fun g hg e => by have := (HO.out.lt g e).1; have := HRR.out.two; omega)
            · rw [HE.out, HS.out, onto_onto, List.drop_drop, HD.out]
          case measure => simp [intOf]; omega
      · obtain rfl : n = j := by omega
        go_wp2_with fail
        go_ret
        have hE := HE.out
        rw [Nat.sub_self, onto_done] at hE
        rw [hE]
        exact ⟨_, rfl, HO.out.tell (fun g h => h.1), HR.out, HM.out⟩
set_option maxRecDepth 100000 in
set_option maxHeartbeats 4000000 in
theorem nums_any (p : P Nat) (R : Nat) (l : List UInt8) (w : World) (hR : Rb w R l) (hT : Tb w) (hp : ∀ l' W, Rb W R l' → Tb W → Calls Tryd.prog 42 #[.pointer (some ⟨R, 0, none⟩)] W (BPost R W l' (p l') (Tell1 W.heap.size))) :
    Calls Tryd.prog 41 #[.pointer (some ⟨R, 0, none⟩), .func (.func 42) #[] #[]] w (BPost R w l (list p l) fun w' xs v => SliceV w' (w.heap.size ≤ ·) xs v) := by
  have HLT := Lib.hid hR.lt
  have HRR := Lib.hid hR
  have HTT := Lib.hid hT
  have HPP := Lib.hid hp
  have HN := Lib.hid (bnum_any R l w hR)
  clear hR hT hp
  cases hn : num l with
  | error e0 =>
    rw [list_stop hn]
    rw [hn] at HN
    clear hn
    go_enter Tryd.func41, Tryd.ntmps41
    go_wp2_with (go_at_call 42; refine HN.out.mono ?_; rintro e w1 ⟨rfl, hm⟩)
    exact ⟨rfl, rfl, hm⟩
  | ok q =>
    obtain ⟨n, i0⟩ := q
    have HL := Lib.hid (list_go (p := p) hn)
    rw [hn] at HN
    clear hn
    go_enter Tryd.func41, Tryd.ntmps41
    go_upto_region 3 with (go_at_call 42; refine HN.out.mono ?_; rintro e w1 ⟨v, rfl, ⟨rfl, hnlt⟩, hr, hm⟩; have HR1 := Lib.hid hr; have HM1 := Lib.hid hm; clear hr hm)
    have HT1 := Lib.hid (HTT.out.rb HRR.out HM1.out)
    have HS1 := Lib.hid HM1.out.size
    go_loopw [5, 8] (fun v i wr => ∃ (j k : Nat) (xs : List Nat), j ≤ n ∧ i = .int .u32 (j : Int) ∧ xs.length = j ∧ Hid (OwnL 30 wr w.heap.size (fun g => w.heap.size ≤ g ∧ v.ownBlock ≠ some g) v xs) ∧ Hid (Rb wr R (l.drop k)) ∧ Hid (Mod (· = R) w wr) ∧ Hid (Tb wr) ∧ Hid (list p l = onto xs k (many p (n - j) (l.drop k)))) (fun _ i _ => n - (intOf i).toNat)
    case atStart => exact ⟨0, i0, [], by omega, rfl, rfl, Lib.hid (OwnL.nil _ _ _ _), Lib.hid HR1.out, Lib.hid HM1.out, Lib.hid HT1.out, Lib.hid (by rw [HL.out, Nat.sub_zero])⟩
    case round =>
      obtain ⟨j, k, xs, hj, rfl, hxl, HO, HR, HM, HT, HE⟩ := hrel
      by_cases hjn : j < n
      · have hji : (j : Int) < (n : Int) := by omega
        obtain ⟨d, hd⟩ : ∃ d, n - j = d + 1 := ⟨n - j - 1, by omega⟩
        rw [hd] at HE
        have hd' : n - (j + 1) = d := by omega
        have HD := Lib.hid hd'
        have HXL := Lib.hid hxl
        have HP := Lib.hid (HPP.out (l.drop k) wr HR.out HT.out)
        clear hd hd' hxl
        cases hx : p (l.drop k) with
        | error e0 =>
          rw [hx] at HP
          have HS := Lib.hid (many_stop (n := d) hx)
          clear hx
          go_wp2_with (go_at_call 42; refine HP.out.mono ?_; rintro e w2 ⟨rfl, hm⟩)
          rw [HE.out, HS.out]
          exact ⟨rfl, rfl, HM.out.trans hm (fun _ _ h => h)⟩
        | ok q =>
          obtain ⟨x, k1⟩ := q
          rw [hx] at HP
          have HS := Lib.hid (many_go (n := d) hx)
          have hw : IntKind.u32.wrap ((j : Int) + 1) = ((j + 1 : Nat) : Int) := by rw [IntWalk.u32_in _ (by omega)]; omega
          clear hx
          go_upto_region 5 with (first | (go_at_call 42; refine HP.out.mono ?_; rintro e w2 ⟨v, rfl, ht, hr2, hm2⟩; obtain rfl : v = .int .u32 (x : Int) := (List.cons.inj ht.1).1; have hrep := ht; have hsz2 := hm2.size; have hlt := HLT.out; have hov : ∀ g, u5.ownBlock = some g → ¬ g = R := (fun g hg e => by have := (HO.out.lt g hg).1; omega); have hO2 : OwnL 30 w2 w.heap.size (fun g => w.heap.size ≤ g ∧ u5.ownBlock ≠ some g) u5 xs := HO.out.mod hm2 hov (fun g _ hg e => by have := hg.1; omega); obtain ⟨v5, w5, hrun, hO5, hM5, hT5⟩ := append1L undNat infNat (by decide) rfl (by decide) w2 w.heap.size (fun g => w.heap.size ≤ g ∧ u5.ownBlock ≠ some g) u5 xs x [.int .u32 (x : Int)] hO2 (by have := HXL.out; omega) (by have := HM.out.size; omega) (Lay.more hrep (fun g hg h => ⟨by have := HM.out.size; omega, fun e => by have := (HO.out.lt g e).2; omega⟩)) (by simp [Value.oneCell']) (fun g _ h => h.2); have HRUN := Lib.hid hrun; have HO5 := Lib.hid hO5; have HM5 := Lib.hid hM5; have HR2 := Lib.hid hr2; have HM2 := Lib.hid hm2; have HOV := Lib.hid hov; clear hrun hO5 hM5 hT5 hr2 hm2 hO2 hrep ht hov) | (at_builtin; refine wpList_appends rfl (.tmp 10) (.tmp 14) 26 rfl _ _ _ w5 rfl rfl HRUN.out ?_))
          go_wp2_with fail
          go_roundw
          case rel =>
            have hlt := HLT.out
            have hM2' := HM.out.trans HM2.out (fun _ _ h => h)
            refine ⟨j + 1, k + k1, xs ++ [x], by omega, by go_num, by rw [List.length_append, HXL.out]; rfl, Lib.hid (HO5.out.more (fun g _ h => ⟨h.1.1, h.2⟩)), Lib.hid ?_, Lib.hid ?_, Lib.hid ?_, Lib.hid ?_⟩
            · have := HR2.out
              rw [List.drop_drop] at this
              exact this.keep HM5.out (fun g hg e => by have := (HO.out.lt g e).1; omega)
            · exact hM2'.trans HM5.out (fun g hg e => by have := (HO.out.lt g e).1; omega)
            · exact (HT.out.rb HR.out HM2.out).mod HM5.out (fun g hg e => by have := (HO.out.lt g e).1; have := HRR.out.two; omega)
            · rw [HE.out, HS.out, onto_onto, List.drop_drop, HD.out]
          case measure => simp [intOf]; omega
      · obtain rfl : n = j := by omega
        go_wp2_with fail
        go_ret
        have hE := HE.out
        rw [Nat.sub_self, onto_done] at hE
        rw [hE]
        exact ⟨_, rfl, HO.out.tell (fun g h => h.1), HR.out, HM.out⟩
set_option maxRecDepth 100000 in
set_option maxHeartbeats 4000000 in
theorem tabs_any (p : P Lim) (R : Nat) (l : List UInt8) (w : World) (hR : Rb w R l) (hT : Tb w) (hp : ∀ l' W, Rb W R l' → Tb W → Calls Tryd.prog 44 #[.pointer (some ⟨R, 0, none⟩)] W (BPost R W l' (p l') (TellA W.heap.size))) :
    Calls Tryd.prog 43 #[.pointer (some ⟨R, 0, none⟩), .func (.func 44) #[] #[]] w (BPost R w l (list p l) fun w' xs v => SliceV w' (w.heap.size ≤ ·) xs v) := by
  have HLT := Lib.hid hR.lt
  have HRR := Lib.hid hR
  have HTT := Lib.hid hT
  have HPP := Lib.hid hp
  have HN := Lib.hid (bnum_any R l w hR)
  clear hR hT hp
  cases hn : num l with
  | error e0 =>
    rw [list_stop hn]
    rw [hn] at HN
    clear hn
    go_enter Tryd.func43, Tryd.ntmps43
    go_wp2_with (go_at_call 42; refine HN.out.mono ?_; rintro e w1 ⟨rfl, hm⟩)
    exact ⟨rfl, rfl, hm⟩
  | ok q =>
    obtain ⟨n, i0⟩ := q
    have HL := Lib.hid (list_go (p := p) hn)
    rw [hn] at HN
    clear hn
    go_enter Tryd.func43, Tryd.ntmps43
    go_upto_region 3 with (go_at_call 42; refine HN.out.mono ?_; rintro e w1 ⟨v, rfl, ⟨rfl, hnlt⟩, hr, hm⟩; have HR1 := Lib.hid hr; have HM1 := Lib.hid hm; clear hr hm)
    have HT1 := Lib.hid (HTT.out.rb HRR.out HM1.out)
    have HS1 := Lib.hid HM1.out.size
    go_loopw [5, 8] (fun v i wr => ∃ (j k : Nat) (xs : List Lim), j ≤ n ∧ i = .int .u32 (j : Int) ∧ xs.length = j ∧ Hid (OwnL 44 wr w.heap.size (fun g => w.heap.size ≤ g ∧ v.ownBlock ≠ some g) v xs) ∧ Hid (Rb wr R (l.drop k)) ∧ Hid (Mod (· = R) w wr) ∧ Hid (Tb wr) ∧ Hid (list p l = onto xs k (many p (n - j) (l.drop k)))) (fun _ i _ => n - (intOf i).toNat)
    case atStart => exact ⟨0, i0, [], by omega, rfl, rfl, Lib.hid (OwnL.nil _ _ _ _), Lib.hid HR1.out, Lib.hid HM1.out, Lib.hid HT1.out, Lib.hid (by rw [HL.out, Nat.sub_zero])⟩
    case round =>
      obtain ⟨j, k, xs, hj, rfl, hxl, HO, HR, HM, HT, HE⟩ := hrel
      by_cases hjn : j < n
      · have hji : (j : Int) < (n : Int) := by omega
        obtain ⟨d, hd⟩ : ∃ d, n - j = d + 1 := ⟨n - j - 1, by omega⟩
        rw [hd] at HE
        have hd' : n - (j + 1) = d := by omega
        have HD := Lib.hid hd'
        have HXL := Lib.hid hxl
        have HP := Lib.hid (HPP.out (l.drop k) wr HR.out HT.out)
        clear hd hd' hxl
        cases hx : p (l.drop k) with
        | error e0 =>
          rw [hx] at HP
          have HS := Lib.hid (many_stop (n := d) hx)
          clear hx
          go_wp2_with (go_at_call 44; refine HP.out.mono ?_; rintro e w2 ⟨rfl, hm⟩)
          rw [HE.out, HS.out]
          exact ⟨rfl, rfl, HM.out.trans hm (fun _ _ h => h)⟩
        | ok q =>
          obtain ⟨x, k1⟩ := q
          rw [hx] at HP
          have HS := Lib.hid (many_go (n := d) hx)
          have hw : IntKind.u32.wrap ((j : Int) + 1) = ((j + 1 : Nat) : Int) := by rw [IntWalk.u32_in _ (by omega)]; omega
          clear hx
          go_upto_region 5 with (first | (go_at_call 44; refine HP.out.mono ?_; rintro e w2 ⟨v, rfl, ht, hr2, hm2⟩; obtain ⟨cs, rfl, hcs⟩ := ht; obtain rfl : cs = [.int .u32 (x.min : Int), .int .i64 x.max] := hcs.1; have ht := hcs; have hrep := ht; have hsz2 := hm2.size; have hlt := HLT.out; have hov : ∀ g, u5.ownBlock = some g → ¬ g = R := (fun g hg e => by have := (HO.out.lt g hg).1; omega); have hO2 : OwnL 44 w2 w.heap.size (fun g => w.heap.size ≤ g ∧ u5.ownBlock ≠ some g) u5 xs := HO.out.mod hm2 hov (fun g _ hg e => by have := hg.1; omega); obtain ⟨v5, w5, hrun, hO5, hM5, hT5⟩ := append1L undLim infLim (by decide) rfl (by decide) w2 w.heap.size (fun g => w.heap.size ≤ g ∧ u5.ownBlock ≠ some g) u5 xs x [.int .u32 (x.min : Int), .int .i64 x.max] hO2 (by have := HXL.out; omega) (by have := HM.out.size; omega) (Lay.more hrep (fun g hg h => ⟨by have := HM.out.size; omega, fun e => by have := (HO.out.lt g e).2; omega⟩)) (by simp [Value.oneCell']) (fun g _ h => h.2); have HRUN := Lib.hid hrun; have HO5 := Lib.hid hO5; have HM5 := Lib.hid hM5; have HR2 := Lib.hid hr2; have HM2 := Lib.hid hm2; have HOV := Lib.hid hov; clear hrun hO5 hM5 hT5 hr2 hm2 hO2 hrep ht hov) | (at_builtin; refine wpList_appends rfl (.tmp 10) (.tmp 14) 27 rfl _ _ _ w5 rfl rfl HRUN.out ?_))
          go_wp2_with fail
          go_roundw
          case rel =>
            have hlt := HLT.out
            have hM2' := HM.out.trans HM2.out (fun _ _ h => h)
            refine ⟨j + 1, k + k1, xs ++ [x], by omega, by go_num, by rw [List.length_append, HXL.out]; rfl, Lib.hid (HO5.out.more (fun g _ h => ⟨h.1.1, h.2⟩)), Lib.hid ?_, Lib.hid ?_, Lib.hid ?_, Lib.hid ?_⟩
            · have := HR2.out
              rw [List.drop_drop] at this
              exact this.keep HM5.out (fun g hg e => by have := (HO.out.lt g e).1; omega)
            · exact hM2'.trans HM5.out (fun g hg e => by have := (HO.out.lt g e).1; omega)
            · exact (HT.out.rb HR.out HM2.out).mod HM5.out (fun g hg e => by have := (HO.out.lt g e).1; have := HRR.out.two; omega)
            · rw [HE.out, HS.out, onto_onto, List.drop_drop, HD.out]
          case measure => simp [intOf]; omega
      · obtain rfl : n = j := by omega
        go_wp2_with fail
        go_ret
        have hE := HE.out
        rw [Nat.sub_self, onto_done] at hE
        rw [hE]
        exact ⟨_, rfl, HO.out.tell (fun g h => h.1), HR.out, HM.out⟩
set_option maxRecDepth 100000 in
set_option maxHeartbeats 4000000 in
theorem lims_any (p : P Lim) (R : Nat) (l : List UInt8) (w : World) (hR : Rb w R l) (hT : Tb w) (hp : ∀ l' W, Rb W R l' → Tb W → Calls Tryd.prog 45 #[.pointer (some ⟨R, 0, none⟩)] W (BPost R W l' (p l') (TellA W.heap.size))) :
    Calls Tryd.prog 43 #[.pointer (some ⟨R, 0, none⟩), .func (.func 45) #[] #[]] w (BPost R w l (list p l) fun w' xs v => SliceV w' (w.heap.size ≤ ·) xs v) := by
  have HLT := Lib.hid hR.lt
  have HRR := Lib.hid hR
  have HTT := Lib.hid hT
  have HPP := Lib.hid hp
  have HN := Lib.hid (bnum_any R l w hR)
  clear hR hT hp
  cases hn : num l with
  | error e0 =>
    rw [list_stop hn]
    rw [hn] at HN
    clear hn
    go_enter Tryd.func43, Tryd.ntmps43
    go_wp2_with (go_at_call 42; refine HN.out.mono ?_; rintro e w1 ⟨rfl, hm⟩)
    exact ⟨rfl, rfl, hm⟩
  | ok q =>
    obtain ⟨n, i0⟩ := q
    have HL := Lib.hid (list_go (p := p) hn)
    rw [hn] at HN
    clear hn
    go_enter Tryd.func43, Tryd.ntmps43
    go_upto_region 3 with (go_at_call 42; refine HN.out.mono ?_; rintro e w1 ⟨v, rfl, ⟨rfl, hnlt⟩, hr, hm⟩; have HR1 := Lib.hid hr; have HM1 := Lib.hid hm; clear hr hm)
    have HT1 := Lib.hid (HTT.out.rb HRR.out HM1.out)
    have HS1 := Lib.hid HM1.out.size
    go_loopw [5, 8] (fun v i wr => ∃ (j k : Nat) (xs : List Lim), j ≤ n ∧ i = .int .u32 (j : Int) ∧ xs.length = j ∧ Hid (OwnL 44 wr w.heap.size (fun g => w.heap.size ≤ g ∧ v.ownBlock ≠ some g) v xs) ∧ Hid (Rb wr R (l.drop k)) ∧ Hid (Mod (· = R) w wr) ∧ Hid (Tb wr) ∧ Hid (list p l = onto xs k (many p (n - j) (l.drop k)))) (fun _ i _ => n - (intOf i).toNat)
    case atStart => exact ⟨0, i0, [], by omega, rfl, rfl, Lib.hid (OwnL.nil _ _ _ _), Lib.hid HR1.out, Lib.hid HM1.out, Lib.hid HT1.out, Lib.hid (by rw [HL.out, Nat.sub_zero])⟩
    case round =>
      obtain ⟨j, k, xs, hj, rfl, hxl, HO, HR, HM, HT, HE⟩ := hrel
      by_cases hjn : j < n
      · have hji : (j : Int) < (n : Int) := by omega
        obtain ⟨d, hd⟩ : ∃ d, n - j = d + 1 := ⟨n - j - 1, by omega⟩
        rw [hd] at HE
        have hd' : n - (j + 1) = d := by omega
        have HD := Lib.hid hd'
        have HXL := Lib.hid hxl
        have HP := Lib.hid (HPP.out (l.drop k) wr HR.out HT.out)
        clear hd hd' hxl
        cases hx : p (l.drop k) with
        | error e0 =>
          rw [hx] at HP
          have HS := Lib.hid (many_stop (n := d) hx)
          clear hx
          go_wp2_with (go_at_call 45; refine HP.out.mono ?_; rintro e w2 ⟨rfl, hm⟩)
          rw [HE.out, HS.out]
          exact ⟨rfl, rfl, HM.out.trans hm (fun _ _ h => h)⟩
        | ok q =>
          obtain ⟨x, k1⟩ := q
          rw [hx] at HP
          have HS := Lib.hid (many_go (n := d) hx)
          have hw : IntKind.u32.wrap ((j : Int) + 1) = ((j + 1 : Nat) : Int) := by rw [IntWalk.u32_in _ (by omega)]; omega
          clear hx
          go_upto_region 5 with (first | (go_at_call 45; refine HP.out.mono ?_; rintro e w2 ⟨v, rfl, ht, hr2, hm2⟩; obtain ⟨cs, rfl, hcs⟩ := ht; obtain rfl : cs = [.int .u32 (x.min : Int), .int .i64 x.max] := hcs.1; have ht := hcs; have hrep := ht; have hsz2 := hm2.size; have hlt := HLT.out; have hov : ∀ g, u5.ownBlock = some g → ¬ g = R := (fun g hg e => by have := (HO.out.lt g hg).1; omega); have hO2 : OwnL 44 w2 w.heap.size (fun g => w.heap.size ≤ g ∧ u5.ownBlock ≠ some g) u5 xs := HO.out.mod hm2 hov (fun g _ hg e => by have := hg.1; omega); obtain ⟨v5, w5, hrun, hO5, hM5, hT5⟩ := append1L undLim infLim (by decide) rfl (by decide) w2 w.heap.size (fun g => w.heap.size ≤ g ∧ u5.ownBlock ≠ some g) u5 xs x [.int .u32 (x.min : Int), .int .i64 x.max] hO2 (by have := HXL.out; omega) (by have := HM.out.size; omega) (Lay.more hrep (fun g hg h => ⟨by have := HM.out.size; omega, fun e => by have := (HO.out.lt g e).2; omega⟩)) (by simp [Value.oneCell']) (fun g _ h => h.2); have HRUN := Lib.hid hrun; have HO5 := Lib.hid hO5; have HM5 := Lib.hid hM5; have HR2 := Lib.hid hr2; have HM2 := Lib.hid hm2; have HOV := Lib.hid hov; clear hrun hO5 hM5 hT5 hr2 hm2 hO2 hrep ht hov) | (at_builtin; refine wpList_appends rfl (.tmp 10) (.tmp 14) 27 rfl _ _ _ w5 rfl rfl HRUN.out ?_))
          go_wp2_with fail
          go_roundw
          case rel =>
            have hlt := HLT.out
            have hM2' := HM.out.trans HM2.out (fun _ _ h => h)
            refine ⟨j + 1, k + k1, xs ++ [x], by omega, by go_num, by rw [List.length_append, HXL.out]; rfl, Lib.hid (HO5.out.more (fun g _ h => ⟨h.1.1, h.2⟩)), Lib.hid ?_, Lib.hid ?_, Lib.hid ?_, Lib.hid ?_⟩
            · have := HR2.out
              rw [List.drop_drop] at this
              exact this.keep HM5.out (fun g hg e => by have := (HO.out.lt g e).1; omega)
            · exact hM2'.trans HM5.out (fun g hg e => by have := (HO.out.lt g e).1; omega)
            · exact (HT.out.rb HR.out HM2.out).mod HM5.out (fun g hg e => by have := (HO.out.lt g e).1; have := HRR.out.two; omega)
            · rw [HE.out, HS.out, onto_onto, List.drop_drop, HD.out]
          case measure => simp [intOf]; omega
      · obtain rfl : n = j := by omega
        go_wp2_with fail
        go_ret
        have hE := HE.out
        rw [Nat.sub_self, onto_done] at hE
        rw [hE]
        exact ⟨_, rfl, HO.out.tell (fun g h => h.1), HR.out, HM.out⟩
end Go.Proofs.YtaloenmpidbhlaaDoor
/-
  Layer 6's lists: the walks, part 2. (gen/bindec/lists.py)
-/
namespace Go.Proofs.YtaloenmpidbhlaaDoor
open Go.RowKit Ins Bin
set_option maxRecDepth 100000 in
set_option maxHeartbeats 4000000 in
theorem fts_any (p : P FT) (R : Nat) (l : List UInt8) (w : World) (hR : Rb w R l) (hT : Tb w) (hp : ∀ l' W, Rb W R l' → Tb W → Calls Tryd.prog 38 #[.pointer (some ⟨R, 0, none⟩)] W (BPost R W l' (p l') (TellA W.heap.size))) :
    Calls Tryd.prog 37 #[.pointer (some ⟨R, 0, none⟩), .func (.func 38) #[] #[]] w (BPost R w l (list p l) fun w' xs v => SliceV w' (w.heap.size ≤ ·) xs v) := by
  have HLT := Lib.hid hR.lt
  have HRR := Lib.hid hR
  have HTT := Lib.hid hT
  have HPP := Lib.hid hp
  have HN := Lib.hid (bnum_any R l w hR)
  clear hR hT hp
  cases hn : num l with
  | error e0 =>
    rw [list_stop hn]
    rw [hn] at HN
    clear hn
    go_enter Tryd.func37, Tryd.ntmps37
    go_wp2_with (go_at_call 42; refine HN.out.mono ?_; rintro e w1 ⟨rfl, hm⟩)
    exact ⟨rfl, rfl, hm⟩
  | ok q =>
    obtain ⟨n, i0⟩ := q
    have HL := Lib.hid (list_go (p := p) hn)
    rw [hn] at HN
    clear hn
    go_enter Tryd.func37, Tryd.ntmps37
    go_upto_region 3 with (go_at_call 42; refine HN.out.mono ?_; rintro e w1 ⟨v, rfl, ⟨rfl, hnlt⟩, hr, hm⟩; have HR1 := Lib.hid hr; have HM1 := Lib.hid hm; clear hr hm)
    have HT1 := Lib.hid (HTT.out.rb HRR.out HM1.out)
    have HS1 := Lib.hid HM1.out.size
    go_loopw [5, 8] (fun v i wr => ∃ (j k : Nat) (xs : List FT), j ≤ n ∧ i = .int .u32 (j : Int) ∧ xs.length = j ∧ Hid (OwnL 41 wr w.heap.size (fun g => w.heap.size ≤ g ∧ v.ownBlock ≠ some g) v xs) ∧ Hid (Rb wr R (l.drop k)) ∧ Hid (Mod (· = R) w wr) ∧ Hid (Tb wr) ∧ Hid (list p l = onto xs k (many p (n - j) (l.drop k)))) (fun _ i _ => n - (intOf i).toNat)
    case atStart => exact ⟨0, i0, [], by omega, rfl, rfl, Lib.hid (OwnL.nil _ _ _ _), Lib.hid HR1.out, Lib.hid HM1.out, Lib.hid HT1.out, Lib.hid (by rw [HL.out, Nat.sub_zero])⟩
    case round =>
      obtain ⟨j, k, xs, hj, rfl, hxl, HO, HR, HM, HT, HE⟩ := hrel
      by_cases hjn : j < n
      · have hji : (j : Int) < (n : Int) := by omega
        obtain ⟨d, hd⟩ : ∃ d, n - j = d + 1 := ⟨n - j - 1, by omega⟩
        rw [hd] at HE
        have hd' : n - (j + 1) = d := by omega
        have HD := Lib.hid hd'
        have HXL := Lib.hid hxl
        have HP := Lib.hid (HPP.out (l.drop k) wr HR.out HT.out)
        clear hd hd' hxl
        cases hx : p (l.drop k) with
        | error e0 =>
          rw [hx] at HP
          have HS := Lib.hid (many_stop (n := d) hx)
          clear hx
          go_wp2_with (go_at_call 38; refine HP.out.mono ?_; rintro e w2 ⟨rfl, hm⟩)
          rw [HE.out, HS.out]
          exact ⟨rfl, rfl, HM.out.trans hm (fun _ _ h => h)⟩
        | ok q =>
          obtain ⟨x, k1⟩ := q
          rw [hx] at HP
          have HS := Lib.hid (many_go (n := d) hx)
          have hw : IntKind.u32.wrap ((j : Int) + 1) = ((j + 1 : Nat) : Int) := by rw [IntWalk.u32_in _ (by omega)]; omega
          clear hx
          go_upto_region 5 with (first | (go_at_call 38; refine HP.out.mono ?_; rintro e w2 ⟨v, rfl, ht, hr2, hm2⟩; obtain ⟨cs, rfl, hcs⟩ := ht; have ht := hcs; obtain ⟨u1, u2, rfl, ⟨A1, c1, rfl, _⟩, ⟨A2, c2, rfl, _⟩⟩ := hcs; have hrep := ht; have hsz2 := hm2.size; have hlt := HLT.out; have hov : ∀ g, u5.ownBlock = some g → ¬ g = R := (fun g hg e => by have := (HO.out.lt g hg).1; omega); have hO2 : OwnL 41 w2 w.heap.size (fun g => w.heap.size ≤ g ∧ u5.ownBlock ≠ some g) u5 xs := HO.out.mod hm2 hov (fun g _ hg e => by have := hg.1; omega); obtain ⟨v5, w5, hrun, hO5, hM5, hT5⟩ := append1L undFT infFT (by decide) rfl (by decide) w2 w.heap.size (fun g => w.heap.size ≤ g ∧ u5.ownBlock ≠ some g) u5 xs x [.slice A1 x.params.length c1, .slice A2 x.results.length c2] hO2 (by have := HXL.out; omega) (by have := HM.out.size; omega) (Lay.more hrep (fun g hg h => ⟨by have := HM.out.size; omega, fun e => by have := (HO.out.lt g e).2; omega⟩)) (by simp [Value.oneCell']) (fun g _ h => h.2); have HRUN := Lib.hid hrun; have HO5 := Lib.hid hO5; have HM5 := Lib.hid hM5; have HR2 := Lib.hid hr2; have HM2 := Lib.hid hm2; have HOV := Lib.hid hov; clear hrun hO5 hM5 hT5 hr2 hm2 hO2 hrep ht hov) | (at_builtin; refine wpList_appends rfl (.tmp 10) (.tmp 14) 24 rfl _ _ _ w5 rfl rfl HRUN.out ?_))
          go_wp2_with fail
          go_roundw
          case rel =>
            have hlt := HLT.out
            have hM2' := HM.out.trans HM2.out (fun _ _ h => h)
            refine ⟨j + 1, k + k1, xs ++ [x], by omega, by go_num, by rw [List.length_append, HXL.out]; rfl, Lib.hid (HO5.out.more (fun g _ h => ⟨h.1.1, h.2⟩)), Lib.hid ?_, Lib.hid ?_, Lib.hid ?_, Lib.hid ?_⟩
            · have := HR2.out
              rw [List.drop_drop] at this
              exact this.keep HM5.out (fun g hg e => by have := (HO.out.lt g e).1; omega)
            · exact hM2'.trans HM5.out (fun g hg e => by have := (HO.out.lt g e).1; omega)
            · exact (HT.out.rb HR.out HM2.out).mod HM5.out (fun g hg e => by have := (HO.out.lt g e).1; have := HRR.out.two; omega)
            · rw [HE.out, HS.out, onto_onto, List.drop_drop, HD.out]
          case measure => simp [intOf]; omega
      · obtain rfl : n = j := by omega
        go_wp2_with fail
        go_ret
        have hE := HE.out
        rw [Nat.sub_self, onto_done] at hE
        rw [hE]
        exact ⟨_, rfl, HO.out.tell (fun g h => h.1), HR.out, HM.out⟩
set_option maxRecDepth 100000 in
set_option maxHeartbeats 4000000 in
theorem imps_any (p : P Imp) (R : Nat) (l : List UInt8) (w : World) (hR : Rb w R l) (hT : Tb w) (hp : ∀ l' W, Rb W R l' → Tb W → Calls Tryd.prog 40 #[.pointer (some ⟨R, 0, none⟩)] W (BPost R W l' (p l') (TellA W.heap.size))) :
    Calls Tryd.prog 39 #[.pointer (some ⟨R, 0, none⟩), .func (.func 40) #[] #[]] w (BPost R w l (list p l) fun w' xs v => SliceV w' (w.heap.size ≤ ·) xs v) := by
  have HLT := Lib.hid hR.lt
  have HRR := Lib.hid hR
  have HTT := Lib.hid hT
  have HPP := Lib.hid hp
  have HN := Lib.hid (bnum_any R l w hR)
  clear hR hT hp
  cases hn : num l with
  | error e0 =>
    rw [list_stop hn]
    rw [hn] at HN
    clear hn
    go_enter Tryd.func39, Tryd.ntmps39
    go_wp2_with (go_at_call 42; refine HN.out.mono ?_; rintro e w1 ⟨rfl, hm⟩)
    exact ⟨rfl, rfl, hm⟩
  | ok q =>
    obtain ⟨n, i0⟩ := q
    have HL := Lib.hid (list_go (p := p) hn)
    rw [hn] at HN
    clear hn
    go_enter Tryd.func39, Tryd.ntmps39
    go_upto_region 3 with (go_at_call 42; refine HN.out.mono ?_; rintro e w1 ⟨v, rfl, ⟨rfl, hnlt⟩, hr, hm⟩; have HR1 := Lib.hid hr; have HM1 := Lib.hid hm; clear hr hm)
    have HT1 := Lib.hid (HTT.out.rb HRR.out HM1.out)
    have HS1 := Lib.hid HM1.out.size
    go_loopw [5, 8] (fun v i wr => ∃ (j k : Nat) (xs : List Imp), j ≤ n ∧ i = .int .u32 (j : Int) ∧ xs.length = j ∧ Hid (OwnL 48 wr w.heap.size (fun g => w.heap.size ≤ g ∧ v.ownBlock ≠ some g) v xs) ∧ Hid (Rb wr R (l.drop k)) ∧ Hid (Mod (· = R) w wr) ∧ Hid (Tb wr) ∧ Hid (list p l = onto xs k (many p (n - j) (l.drop k)))) (fun _ i _ => n - (intOf i).toNat)
    case atStart => exact ⟨0, i0, [], by omega, rfl, rfl, Lib.hid (OwnL.nil _ _ _ _), Lib.hid HR1.out, Lib.hid HM1.out, Lib.hid HT1.out, Lib.hid (by rw [HL.out, Nat.sub_zero])⟩
    case round =>
      obtain ⟨j, k, xs, hj, rfl, hxl, HO, HR, HM, HT, HE⟩ := hrel
      by_cases hjn : j < n
      · have hji : (j : Int) < (n : Int) := by omega
        obtain ⟨d, hd⟩ : ∃ d, n - j = d + 1 := ⟨n - j - 1, by omega⟩
        rw [hd] at HE
        have hd' : n - (j + 1) = d := by omega
        have HD := Lib.hid hd'
        have HXL := Lib.hid hxl
        have HP := Lib.hid (HPP.out (l.drop k) wr HR.out HT.out)
        clear hd hd' hxl
        cases hx : p (l.drop k) with
        | error e0 =>
          rw [hx] at HP
          have HS := Lib.hid (many_stop (n := d) hx)
          clear hx
          go_wp2_with (go_at_call 40; refine HP.out.mono ?_; rintro e w2 ⟨rfl, hm⟩)
          rw [HE.out, HS.out]
          exact ⟨rfl, rfl, HM.out.trans hm (fun _ _ h => h)⟩
        | ok q =>
          obtain ⟨x, k1⟩ := q
          rw [hx] at HP
          have HS := Lib.hid (many_go (n := d) hx)
          have hw : IntKind.u32.wrap ((j : Int) + 1) = ((j + 1 : Nat) : Int) := by rw [IntWalk.u32_in _ (by omega)]; omega
          clear hx
          go_upto_region 5 with (first | (go_at_call 40; refine HP.out.mono ?_; rintro e w2 ⟨v, rfl, ht, hr2, hm2⟩; obtain ⟨cs, rfl, hcs⟩ := ht; have ht := hcs; obtain rfl : cs = [strV x.mod, strV x.name, .int .u8 (x.kind.toNat : Int), .int .u32 (x.type : Int), .int .u32 (x.lim.min : Int), .int .i64 x.lim.max, .int .u8 (x.glob.t.toNat : Int), .bool x.glob.mu] := hcs.1; unfold strV at ht ⊢; have hrep := ht; have hsz2 := hm2.size; have hlt := HLT.out; have hov : ∀ g, u5.ownBlock = some g → ¬ g = R := (fun g hg e => by have := (HO.out.lt g hg).1; omega); have hO2 : OwnL 48 w2 w.heap.size (fun g => w.heap.size ≤ g ∧ u5.ownBlock ≠ some g) u5 xs := HO.out.mod hm2 hov (fun g _ hg e => by have := hg.1; omega); obtain ⟨v5, w5, hrun, hO5, hM5, hT5⟩ := append1L undImp infImp (by decide) rfl (by decide) w2 w.heap.size (fun g => w.heap.size ≤ g ∧ u5.ownBlock ≠ some g) u5 xs x [.string ⟨x.mod.toArray⟩, .string ⟨x.name.toArray⟩, .int .u8 (x.kind.toNat : Int), .int .u32 (x.type : Int), .int .u32 (x.lim.min : Int), .int .i64 x.lim.max, .int .u8 (x.glob.t.toNat : Int), .bool x.glob.mu] hO2 (by have := HXL.out; omega) (by have := HM.out.size; omega) (Lay.more hrep (fun g hg h => ⟨by have := HM.out.size; omega, fun e => by have := (HO.out.lt g e).2; omega⟩)) (by simp [Value.oneCell']) (fun g _ h => h.2); have HRUN := Lib.hid hrun; have HO5 := Lib.hid hO5; have HM5 := Lib.hid hM5; have HR2 := Lib.hid hr2; have HM2 := Lib.hid hm2; have HOV := Lib.hid hov; clear hrun hO5 hM5 hT5 hr2 hm2 hO2 hrep ht hov) | (at_builtin; refine wpList_appends rfl (.tmp 10) (.tmp 14) 25 rfl _ _ _ w5 rfl rfl HRUN.out ?_))
          go_wp2_with fail
          go_roundw
          case rel =>
            have hlt := HLT.out
            have hM2' := HM.out.trans HM2.out (fun _ _ h => h)
            refine ⟨j + 1, k + k1, xs ++ [x], by omega, by go_num, by rw [List.length_append, HXL.out]; rfl, Lib.hid (HO5.out.more (fun g _ h => ⟨h.1.1, h.2⟩)), Lib.hid ?_, Lib.hid ?_, Lib.hid ?_, Lib.hid ?_⟩
            · have := HR2.out
              rw [List.drop_drop] at this
              exact this.keep HM5.out (fun g hg e => by have := (HO.out.lt g e).1; omega)
            · exact hM2'.trans HM5.out (fun g hg e => by have := (HO.out.lt g e).1; omega)
            · exact (HT.out.rb HR.out HM2.out).mod HM5.out (fun g hg e => by have := (HO.out.lt g e).1; have := HRR.out.two; omega)
            · rw [HE.out, HS.out, onto_onto, List.drop_drop, HD.out]
          case measure => simp [intOf]; omega
      · obtain rfl : n = j := by omega
        go_wp2_with fail
        go_ret
        have hE := HE.out
        rw [Nat.sub_self, onto_done] at hE
        rw [hE]
        exact ⟨_, rfl, HO.out.tell (fun g h => h.1), HR.out, HM.out⟩
set_option maxRecDepth 100000 in
set_option maxHeartbeats 4000000 in
theorem gvs_any (p : P GV) (R : Nat) (l : List UInt8) (w : World) (hR : Rb w R l) (hT : Tb w) (hp : ∀ l' W, Rb W R l' → Tb W → Calls Tryd.prog 47 #[.pointer (some ⟨R, 0, none⟩)] W (BPost R W l' (p l') (TellA W.heap.size))) :
    Calls Tryd.prog 46 #[.pointer (some ⟨R, 0, none⟩), .func (.func 47) #[] #[]] w (BPost R w l (list p l) fun w' xs v => SliceV w' (w.heap.size ≤ ·) xs v) := by
  have HLT := Lib.hid hR.lt
  have HRR := Lib.hid hR
  have HTT := Lib.hid hT
  have HPP := Lib.hid hp
  have HN := Lib.hid (bnum_any R l w hR)
  clear hR hT hp
  cases hn : num l with
  | error e0 =>
    rw [list_stop hn]
    rw [hn] at HN
    clear hn
    go_enter Tryd.func46, Tryd.ntmps46
    go_wp2_with (go_at_call 42; refine HN.out.mono ?_; rintro e w1 ⟨rfl, hm⟩)
    exact ⟨rfl, rfl, hm⟩
  | ok q =>
    obtain ⟨n, i0⟩ := q
    have HL := Lib.hid (list_go (p := p) hn)
    rw [hn] at HN
    clear hn
    go_enter Tryd.func46, Tryd.ntmps46
    go_upto_region 3 with (go_at_call 42; refine HN.out.mono ?_; rintro e w1 ⟨v, rfl, ⟨rfl, hnlt⟩, hr, hm⟩; have HR1 := Lib.hid hr; have HM1 := Lib.hid hm; clear hr hm)
    have HT1 := Lib.hid (HTT.out.rb HRR.out HM1.out)
    have HS1 := Lib.hid HM1.out.size
    go_loopw [5, 8] (fun v i wr => ∃ (j k : Nat) (xs : List GV), j ≤ n ∧ i = .int .u32 (j : Int) ∧ xs.length = j ∧ Hid (OwnL 51 wr w.heap.size (fun g => w.heap.size ≤ g ∧ v.ownBlock ≠ some g) v xs) ∧ Hid (Rb wr R (l.drop k)) ∧ Hid (Mod (· = R) w wr) ∧ Hid (Tb wr) ∧ Hid (list p l = onto xs k (many p (n - j) (l.drop k)))) (fun _ i _ => n - (intOf i).toNat)
    case atStart => exact ⟨0, i0, [], by omega, rfl, rfl, Lib.hid (OwnL.nil _ _ _ _), Lib.hid HR1.out, Lib.hid HM1.out, Lib.hid HT1.out, Lib.hid (by rw [HL.out, Nat.sub_zero])⟩
    case round =>
      obtain ⟨j, k, xs, hj, rfl, hxl, HO, HR, HM, HT, HE⟩ := hrel
      by_cases hjn : j < n
      · have hji : (j : Int) < (n : Int) := by omega
        obtain ⟨d, hd⟩ : ∃ d, n - j = d + 1 := ⟨n - j - 1, by omega⟩
        rw [hd] at HE
        have hd' : n - (j + 1) = d := by omega
        have HD := Lib.hid hd'
        have HXL := Lib.hid hxl
        have HP := Lib.hid (HPP.out (l.drop k) wr HR.out HT.out)
        clear hd hd' hxl
        cases hx : p (l.drop k) with
        | error e0 =>
          rw [hx] at HP
          have HS := Lib.hid (many_stop (n := d) hx)
          clear hx
          go_wp2_with (go_at_call 47; refine HP.out.mono ?_; rintro e w2 ⟨rfl, hm⟩)
          rw [HE.out, HS.out]
          exact ⟨rfl, rfl, HM.out.trans hm (fun _ _ h => h)⟩
        | ok q =>
          obtain ⟨x, k1⟩ := q
          rw [hx] at HP
          have HS := Lib.hid (many_go (n := d) hx)
          have hw : IntKind.u32.wrap ((j : Int) + 1) = ((j + 1 : Nat) : Int) := by rw [IntWalk.u32_in _ (by omega)]; omega
          clear hx
          go_upto_region 5 with (first | (go_at_call 47; refine HP.out.mono ?_; rintro e w2 ⟨v, rfl, ht, hr2, hm2⟩; obtain ⟨cs, rfl, hcs⟩ := ht; have ht := hcs; obtain ⟨u1, rfl, ⟨A1, c1, rfl, _⟩⟩ := hcs; have hrep := ht; have hsz2 := hm2.size; have hlt := HLT.out; have hov : ∀ g, u5.ownBlock = some g → ¬ g = R := (fun g hg e => by have := (HO.out.lt g hg).1; omega); have hO2 : OwnL 51 w2 w.heap.size (fun g => w.heap.size ≤ g ∧ u5.ownBlock ≠ some g) u5 xs := HO.out.mod hm2 hov (fun g _ hg e => by have := hg.1; omega); obtain ⟨v5, w5, hrun, hO5, hM5, hT5⟩ := append1L undGV infGV (by decide) rfl (by decide) w2 w.heap.size (fun g => w.heap.size ≤ g ∧ u5.ownBlock ≠ some g) u5 xs x [.int .u8 (x.type.t.toNat : Int), .bool x.type.mu, .slice A1 x.init.length c1] hO2 (by have := HXL.out; omega) (by have := HM.out.size; omega) (Lay.more hrep (fun g hg h => ⟨by have := HM.out.size; omega, fun e => by have := (HO.out.lt g e).2; omega⟩)) (by simp [Value.oneCell']) (fun g _ h => h.2); have HRUN := Lib.hid hrun; have HO5 := Lib.hid hO5; have HM5 := Lib.hid hM5; have HR2 := Lib.hid hr2; have HM2 := Lib.hid hm2; have HOV := Lib.hid hov; clear hrun hO5 hM5 hT5 hr2 hm2 hO2 hrep ht hov) | (at_builtin; refine wpList_appends rfl (.tmp 10) (.tmp 14) 28 rfl _ _ _ w5 rfl rfl HRUN.out ?_))
          go_wp2_with fail
          go_roundw
          case rel =>
            have hlt := HLT.out
            have hM2' := HM.out.trans HM2.out (fun _ _ h => h)
            refine ⟨j + 1, k + k1, xs ++ [x], by omega, by go_num, by rw [List.length_append, HXL.out]; rfl, Lib.hid (HO5.out.more (fun g _ h => ⟨h.1.1, h.2⟩)), Lib.hid ?_, Lib.hid ?_, Lib.hid ?_, Lib.hid ?_⟩
            · have := HR2.out
              rw [List.drop_drop] at this
              exact this.keep HM5.out (fun g hg e => by have := (HO.out.lt g e).1; omega)
            · exact hM2'.trans HM5.out (fun g hg e => by have := (HO.out.lt g e).1; omega)
            · exact (HT.out.rb HR.out HM2.out).mod HM5.out (fun g hg e => by have := (HO.out.lt g e).1; have := HRR.out.two; omega)
            · rw [HE.out, HS.out, onto_onto, List.drop_drop, HD.out]
          case measure => simp [intOf]; omega
      · obtain rfl : n = j := by omega
        go_wp2_with fail
        go_ret
        have hE := HE.out
        rw [Nat.sub_self, onto_done] at hE
        rw [hE]
        exact ⟨_, rfl, HO.out.tell (fun g h => h.1), HR.out, HM.out⟩
set_option maxRecDepth 100000 in
set_option maxHeartbeats 4000000 in
theorem exps_any (p : P Exp) (R : Nat) (l : List UInt8) (w : World) (hR : Rb w R l) (hT : Tb w) (hp : ∀ l' W, Rb W R l' → Tb W → Calls Tryd.prog 49 #[.pointer (some ⟨R, 0, none⟩)] W (BPost R W l' (p l') (TellA W.heap.size))) :
    Calls Tryd.prog 48 #[.pointer (some ⟨R, 0, none⟩), .func (.func 49) #[] #[]] w (BPost R w l (list p l) fun w' xs v => SliceV w' (w.heap.size ≤ ·) xs v) := by
  have HLT := Lib.hid hR.lt
  have HRR := Lib.hid hR
  have HTT := Lib.hid hT
  have HPP := Lib.hid hp
  have HN := Lib.hid (bnum_any R l w hR)
  clear hR hT hp
  cases hn : num l with
  | error e0 =>
    rw [list_stop hn]
    rw [hn] at HN
    clear hn
    go_enter Tryd.func48, Tryd.ntmps48
    go_wp2_with (go_at_call 42; refine HN.out.mono ?_; rintro e w1 ⟨rfl, hm⟩)
    exact ⟨rfl, rfl, hm⟩
  | ok q =>
    obtain ⟨n, i0⟩ := q
    have HL := Lib.hid (list_go (p := p) hn)
    rw [hn] at HN
    clear hn
    go_enter Tryd.func48, Tryd.ntmps48
    go_upto_region 3 with (go_at_call 42; refine HN.out.mono ?_; rintro e w1 ⟨v, rfl, ⟨rfl, hnlt⟩, hr, hm⟩; have HR1 := Lib.hid hr; have HM1 := Lib.hid hm; clear hr hm)
    have HT1 := Lib.hid (HTT.out.rb HRR.out HM1.out)
    have HS1 := Lib.hid HM1.out.size
    go_loopw [5, 8] (fun v i wr => ∃ (j k : Nat) (xs : List Exp), j ≤ n ∧ i = .int .u32 (j : Int) ∧ xs.length = j ∧ Hid (OwnL 78 wr w.heap.size (fun g => w.heap.size ≤ g ∧ v.ownBlock ≠ some g) v xs) ∧ Hid (Rb wr R (l.drop k)) ∧ Hid (Mod (· = R) w wr) ∧ Hid (Tb wr) ∧ Hid (list p l = onto xs k (many p (n - j) (l.drop k)))) (fun _ i _ => n - (intOf i).toNat)
    case atStart => exact ⟨0, i0, [], by omega, rfl, rfl, Lib.hid (OwnL.nil _ _ _ _), Lib.hid HR1.out, Lib.hid HM1.out, Lib.hid HT1.out, Lib.hid (by rw [HL.out, Nat.sub_zero])⟩
    case round =>
      obtain ⟨j, k, xs, hj, rfl, hxl, HO, HR, HM, HT, HE⟩ := hrel
      by_cases hjn : j < n
      · have hji : (j : Int) < (n : Int) := by omega
        obtain ⟨d, hd⟩ : ∃ d, n - j = d + 1 := ⟨n - j - 1, by omega⟩
        rw [hd] at HE
        have hd' : n - (j + 1) = d := by omega
        have HD := Lib.hid hd'
        have HXL := Lib.hid hxl
        have HP := Lib.hid (HPP.out (l.drop k) wr HR.out HT.out)
        clear hd hd' hxl
        cases hx : p (l.drop k) with
        | error e0 =>
          rw [hx] at HP
          have HS := Lib.hid (many_stop (n := d) hx)
          clear hx
          go_wp2_with (go_at_call 49; refine HP.out.mono ?_; rintro e w2 ⟨rfl, hm⟩)
          rw [HE.out, HS.out]
          exact ⟨rfl, rfl, HM.out.trans hm (fun _ _ h => h)⟩
        | ok q =>
          obtain ⟨x, k1⟩ := q
          rw [hx] at HP
          have HS := Lib.hid (many_go (n := d) hx)
          have hw : IntKind.u32.wrap ((j : Int) + 1) = ((j + 1 : Nat) : Int) := by rw [IntWalk.u32_in _ (by omega)]; omega
          clear hx
          go_upto_region 5 with (first | (go_at_call 49; refine HP.out.mono ?_; rintro e w2 ⟨v, rfl, ht, hr2, hm2⟩; obtain ⟨cs, rfl, hcs⟩ := ht; have ht := hcs; obtain rfl : cs = [strV x.name, .int .u8 (x.kind.toNat : Int), .int .u32 (x.index : Int)] := hcs.1; unfold strV at ht ⊢; have hrep := ht; have hsz2 := hm2.size; have hlt := HLT.out; have hov : ∀ g, u5.ownBlock = some g → ¬ g = R := (fun g hg e => by have := (HO.out.lt g hg).1; omega); have hO2 : OwnL 78 w2 w.heap.size (fun g => w.heap.size ≤ g ∧ u5.ownBlock ≠ some g) u5 xs := HO.out.mod hm2 hov (fun g _ hg e => by have := hg.1; omega); obtain ⟨v5, w5, hrun, hO5, hM5, hT5⟩ := append1L undExp infExp (by decide) rfl (by decide) w2 w.heap.size (fun g => w.heap.size ≤ g ∧ u5.ownBlock ≠ some g) u5 xs x [.string ⟨x.name.toArray⟩, .int .u8 (x.kind.toNat : Int), .int .u32 (x.index : Int)] hO2 (by have := HXL.out; omega) (by have := HM.out.size; omega) (Lay.more hrep (fun g hg h => ⟨by have := HM.out.size; omega, fun e => by have := (HO.out.lt g e).2; omega⟩)) (by simp [Value.oneCell']) (fun g _ h => h.2); have HRUN := Lib.hid hrun; have HO5 := Lib.hid hO5; have HM5 := Lib.hid hM5; have HR2 := Lib.hid hr2; have HM2 := Lib.hid hm2; have HOV := Lib.hid hov; clear hrun hO5 hM5 hT5 hr2 hm2 hO2 hrep ht hov) | (at_builtin; refine wpList_appends rfl (.tmp 10) (.tmp 14) 29 rfl _ _ _ w5 rfl rfl HRUN.out ?_))
          go_wp2_with fail
          go_roundw
          case rel =>
            have hlt := HLT.out
            have hM2' := HM.out.trans HM2.out (fun _ _ h => h)
            refine ⟨j + 1, k + k1, xs ++ [x], by omega, by go_num, by rw [List.length_append, HXL.out]; rfl, Lib.hid (HO5.out.more (fun g _ h => ⟨h.1.1, h.2⟩)), Lib.hid ?_, Lib.hid ?_, Lib.hid ?_, Lib.hid ?_⟩
            · have := HR2.out
              rw [List.drop_drop] at this
              exact this.keep HM5.out (fun g hg e => by have := (HO.out.lt g e).1; omega)
            · exact hM2'.trans HM5.out (fun g hg e => by have := (HO.out.lt g e).1; omega)
            · exact (HT.out.rb HR.out HM2.out).mod HM5.out (fun g hg e => by have := (HO.out.lt g e).1; have := HRR.out.two; omega)
            · rw [HE.out, HS.out, onto_onto, List.drop_drop, HD.out]
          case measure => simp [intOf]; omega
      · obtain rfl : n = j := by omega
        go_wp2_with fail
        go_ret
        have hE := HE.out
        rw [Nat.sub_self, onto_done] at hE
        rw [hE]
        exact ⟨_, rfl, HO.out.tell (fun g h => h.1), HR.out, HM.out⟩
end Go.Proofs.YtaloenmpidbhlaaDoor
/-
  Layer 6's lists: the walks, part 3. (gen/bindec/lists.py)
-/
namespace Go.Proofs.YtaloenmpidbhlaaDoor
open Go.RowKit Ins Bin
set_option maxRecDepth 100000 in
set_option maxHeartbeats 4000000 in
theorem els_any (p : P El) (R : Nat) (l : List UInt8) (w : World) (hR : Rb w R l) (hT : Tb w) (hp : ∀ l' W, Rb W R l' → Tb W → Calls Tryd.prog 51 #[.pointer (some ⟨R, 0, none⟩)] W (BPost R W l' (p l') (TellA W.heap.size))) :
    Calls Tryd.prog 50 #[.pointer (some ⟨R, 0, none⟩), .func (.func 51) #[] #[]] w (BPost R w l (list p l) fun w' xs v => SliceV w' (w.heap.size ≤ ·) xs v) := by
  have HLT := Lib.hid hR.lt
  have HRR := Lib.hid hR
  have HTT := Lib.hid hT
  have HPP := Lib.hid hp
  have HN := Lib.hid (bnum_any R l w hR)
  clear hR hT hp
  cases hn : num l with
  | error e0 =>
    rw [list_stop hn]
    rw [hn] at HN
    clear hn
    go_enter Tryd.func50, Tryd.ntmps50
    go_wp2_with (go_at_call 42; refine HN.out.mono ?_; rintro e w1 ⟨rfl, hm⟩)
    exact ⟨rfl, rfl, hm⟩
  | ok q =>
    obtain ⟨n, i0⟩ := q
    have HL := Lib.hid (list_go (p := p) hn)
    rw [hn] at HN
    clear hn
    go_enter Tryd.func50, Tryd.ntmps50
    go_upto_region 3 with (go_at_call 42; refine HN.out.mono ?_; rintro e w1 ⟨v, rfl, ⟨rfl, hnlt⟩, hr, hm⟩; have HR1 := Lib.hid hr; have HM1 := Lib.hid hm; clear hr hm)
    have HT1 := Lib.hid (HTT.out.rb HRR.out HM1.out)
    have HS1 := Lib.hid HM1.out.size
    go_loopw [5, 8] (fun v i wr => ∃ (j k : Nat) (xs : List El), j ≤ n ∧ i = .int .u32 (j : Int) ∧ xs.length = j ∧ Hid (OwnL 59 wr w.heap.size (fun g => w.heap.size ≤ g ∧ v.ownBlock ≠ some g) v xs) ∧ Hid (Rb wr R (l.drop k)) ∧ Hid (Mod (· = R) w wr) ∧ Hid (Tb wr) ∧ Hid (list p l = onto xs k (many p (n - j) (l.drop k)))) (fun _ i _ => n - (intOf i).toNat)
    case atStart => exact ⟨0, i0, [], by omega, rfl, rfl, Lib.hid (OwnL.nil _ _ _ _), Lib.hid HR1.out, Lib.hid HM1.out, Lib.hid HT1.out, Lib.hid (by rw [HL.out, Nat.sub_zero])⟩
    case round =>
      obtain ⟨j, k, xs, hj, rfl, hxl, HO, HR, HM, HT, HE⟩ := hrel
      by_cases hjn : j < n
      · have hji : (j : Int) < (n : Int) := by omega
        obtain ⟨d, hd⟩ : ∃ d, n - j = d + 1 := ⟨n - j - 1, by omega⟩
        rw [hd] at HE
        have hd' : n - (j + 1) = d := by omega
        have HD := Lib.hid hd'
        have HXL := Lib.hid hxl
        have HP := Lib.hid (HPP.out (l.drop k) wr HR.out HT.out)
        clear hd hd' hxl
        cases hx : p (l.drop k) with
        | error e0 =>
          rw [hx] at HP
          have HS := Lib.hid (many_stop (n := d) hx)
          clear hx
          go_wp2_with (go_at_call 51; refine HP.out.mono ?_; rintro e w2 ⟨rfl, hm⟩)
          rw [HE.out, HS.out]
          exact ⟨rfl, rfl, HM.out.trans hm (fun _ _ h => h)⟩
        | ok q =>
          obtain ⟨x, k1⟩ := q
          rw [hx] at HP
          have HS := Lib.hid (many_go (n := d) hx)
          have hw : IntKind.u32.wrap ((j : Int) + 1) = ((j + 1 : Nat) : Int) := by rw [IntWalk.u32_in _ (by omega)]; omega
          clear hx
          go_upto_region 5 with (first | (go_at_call 51; refine HP.out.mono ?_; rintro e w2 ⟨v, rfl, ht, hr2, hm2⟩; obtain ⟨cs, rfl, hcs⟩ := ht; have ht := hcs; obtain ⟨u1, u2, rfl, _, ⟨A1, c1, rfl, _⟩, ⟨A2, c2, rfl, _⟩⟩ := hcs; have hrep := ht; have hsz2 := hm2.size; have hlt := HLT.out; have hov : ∀ g, u5.ownBlock = some g → ¬ g = R := (fun g hg e => by have := (HO.out.lt g hg).1; omega); have hO2 : OwnL 59 w2 w.heap.size (fun g => w.heap.size ≤ g ∧ u5.ownBlock ≠ some g) u5 xs := HO.out.mod hm2 hov (fun g _ hg e => by have := hg.1; omega); obtain ⟨v5, w5, hrun, hO5, hM5, hT5⟩ := append1L undEl infEl (by decide) rfl (by decide) w2 w.heap.size (fun g => w.heap.size ≤ g ∧ u5.ownBlock ≠ some g) u5 xs x [.int .u32 (x.table : Int), .slice A1 x.off.length c1, .slice A2 x.funcs.length c2] hO2 (by have := HXL.out; omega) (by have := HM.out.size; omega) (Lay.more hrep (fun g hg h => ⟨by have := HM.out.size; omega, fun e => by have := (HO.out.lt g e).2; omega⟩)) (by simp [Value.oneCell']) (fun g _ h => h.2); have HRUN := Lib.hid hrun; have HO5 := Lib.hid hO5; have HM5 := Lib.hid hM5; have HR2 := Lib.hid hr2; have HM2 := Lib.hid hm2; have HOV := Lib.hid hov; clear hrun hO5 hM5 hT5 hr2 hm2 hO2 hrep ht hov) | (at_builtin; refine wpList_appends rfl (.tmp 10) (.tmp 14) 31 rfl _ _ _ w5 rfl rfl HRUN.out ?_))
          go_wp2_with fail
          go_roundw
          case rel =>
            have hlt := HLT.out
            have hM2' := HM.out.trans HM2.out (fun _ _ h => h)
            refine ⟨j + 1, k + k1, xs ++ [x], by omega, by go_num, by rw [List.length_append, HXL.out]; rfl, Lib.hid (HO5.out.more (fun g _ h => ⟨h.1.1, h.2⟩)), Lib.hid ?_, Lib.hid ?_, Lib.hid ?_, Lib.hid ?_⟩
            · have := HR2.out
              rw [List.drop_drop] at this
              exact this.keep HM5.out (fun g hg e => by have := (HO.out.lt g e).1; omega)
            · exact hM2'.trans HM5.out (fun g hg e => by have := (HO.out.lt g e).1; omega)
            · exact (HT.out.rb HR.out HM2.out).mod HM5.out (fun g hg e => by have := (HO.out.lt g e).1; have := HRR.out.two; omega)
            · rw [HE.out, HS.out, onto_onto, List.drop_drop, HD.out]
          case measure => simp [intOf]; omega
      · obtain rfl : n = j := by omega
        go_wp2_with fail
        go_ret
        have hE := HE.out
        rw [Nat.sub_self, onto_done] at hE
        rw [hE]
        exact ⟨_, rfl, HO.out.tell (fun g h => h.1), HR.out, HM.out⟩
set_option maxRecDepth 100000 in
set_option maxHeartbeats 4000000 in
theorem cds_any (p : P Cd) (R : Nat) (l : List UInt8) (w : World) (hR : Rb w R l) (hT : Tb w) (hp : ∀ l' W, Rb W R l' → Tb W → Calls Tryd.prog 53 #[.pointer (some ⟨R, 0, none⟩)] W (BPost R W l' (p l') (TellA W.heap.size))) :
    Calls Tryd.prog 52 #[.pointer (some ⟨R, 0, none⟩), .func (.func 53) #[] #[]] w (BPost R w l (list p l) fun w' xs v => SliceV w' (w.heap.size ≤ ·) xs v) := by
  have HLT := Lib.hid hR.lt
  have HRR := Lib.hid hR
  have HTT := Lib.hid hT
  have HPP := Lib.hid hp
  have HN := Lib.hid (bnum_any R l w hR)
  clear hR hT hp
  cases hn : num l with
  | error e0 =>
    rw [list_stop hn]
    rw [hn] at HN
    clear hn
    go_enter Tryd.func52, Tryd.ntmps52
    go_wp2_with (go_at_call 42; refine HN.out.mono ?_; rintro e w1 ⟨rfl, hm⟩)
    exact ⟨rfl, rfl, hm⟩
  | ok q =>
    obtain ⟨n, i0⟩ := q
    have HL := Lib.hid (list_go (p := p) hn)
    rw [hn] at HN
    clear hn
    go_enter Tryd.func52, Tryd.ntmps52
    go_upto_region 3 with (go_at_call 42; refine HN.out.mono ?_; rintro e w1 ⟨v, rfl, ⟨rfl, hnlt⟩, hr, hm⟩; have HR1 := Lib.hid hr; have HM1 := Lib.hid hm; clear hr hm)
    have HT1 := Lib.hid (HTT.out.rb HRR.out HM1.out)
    have HS1 := Lib.hid HM1.out.size
    go_loopw [5, 8] (fun v i wr => ∃ (j k : Nat) (xs : List Cd), j ≤ n ∧ i = .int .u32 (j : Int) ∧ xs.length = j ∧ Hid (OwnL 55 wr w.heap.size (fun g => w.heap.size ≤ g ∧ v.ownBlock ≠ some g) v xs) ∧ Hid (Rb wr R (l.drop k)) ∧ Hid (Mod (· = R) w wr) ∧ Hid (Tb wr) ∧ Hid (list p l = onto xs k (many p (n - j) (l.drop k)))) (fun _ i _ => n - (intOf i).toNat)
    case atStart => exact ⟨0, i0, [], by omega, rfl, rfl, Lib.hid (OwnL.nil _ _ _ _), Lib.hid HR1.out, Lib.hid HM1.out, Lib.hid HT1.out, Lib.hid (by rw [HL.out, Nat.sub_zero])⟩
    case round =>
      obtain ⟨j, k, xs, hj, rfl, hxl, HO, HR, HM, HT, HE⟩ := hrel
      by_cases hjn : j < n
      · have hji : (j : Int) < (n : Int) := by omega
        obtain ⟨d, hd⟩ : ∃ d, n - j = d + 1 := ⟨n - j - 1, by omega⟩
        rw [hd] at HE
        have hd' : n - (j + 1) = d := by omega
        have HD := Lib.hid hd'
        have HXL := Lib.hid hxl
        have HP := Lib.hid (HPP.out (l.drop k) wr HR.out HT.out)
        clear hd hd' hxl
        cases hx : p (l.drop k) with
        | error e0 =>
          rw [hx] at HP
          have HS := Lib.hid (many_stop (n := d) hx)
          clear hx
          go_wp2_with (go_at_call 53; refine HP.out.mono ?_; rintro e w2 ⟨rfl, hm⟩)
          rw [HE.out, HS.out]
          exact ⟨rfl, rfl, HM.out.trans hm (fun _ _ h => h)⟩
        | ok q =>
          obtain ⟨x, k1⟩ := q
          rw [hx] at HP
          have HS := Lib.hid (many_go (n := d) hx)
          have hw : IntKind.u32.wrap ((j : Int) + 1) = ((j + 1 : Nat) : Int) := by rw [IntWalk.u32_in _ (by omega)]; omega
          clear hx
          go_upto_region 5 with (first | (go_at_call 53; refine HP.out.mono ?_; rintro e w2 ⟨v, rfl, ht, hr2, hm2⟩; obtain ⟨cs, rfl, hcs⟩ := ht; have ht := hcs; obtain ⟨u1, u2, rfl, ⟨A1, c1, rfl, _⟩, ⟨A2, c2, rfl, _⟩⟩ := hcs; have hrep := ht; have hsz2 := hm2.size; have hlt := HLT.out; have hov : ∀ g, u5.ownBlock = some g → ¬ g = R := (fun g hg e => by have := (HO.out.lt g hg).1; omega); have hO2 : OwnL 55 w2 w.heap.size (fun g => w.heap.size ≤ g ∧ u5.ownBlock ≠ some g) u5 xs := HO.out.mod hm2 hov (fun g _ hg e => by have := hg.1; omega); obtain ⟨v5, w5, hrun, hO5, hM5, hT5⟩ := append1L undCd infCd (by decide) rfl (by decide) w2 w.heap.size (fun g => w.heap.size ≤ g ∧ u5.ownBlock ≠ some g) u5 xs x [.slice A1 x.locals.length c1, .slice A2 x.body.length c2] hO2 (by have := HXL.out; omega) (by have := HM.out.size; omega) (Lay.more hrep (fun g hg h => ⟨by have := HM.out.size; omega, fun e => by have := (HO.out.lt g e).2; omega⟩)) (by simp [Value.oneCell']) (fun g _ h => h.2); have HRUN := Lib.hid hrun; have HO5 := Lib.hid hO5; have HM5 := Lib.hid hM5; have HR2 := Lib.hid hr2; have HM2 := Lib.hid hm2; have HOV := Lib.hid hov; clear hrun hO5 hM5 hT5 hr2 hm2 hO2 hrep ht hov) | (at_builtin; refine wpList_appends rfl (.tmp 10) (.tmp 14) 32 rfl _ _ _ w5 rfl rfl HRUN.out ?_))
          go_wp2_with fail
          go_roundw
          case rel =>
            have hlt := HLT.out
            have hM2' := HM.out.trans HM2.out (fun _ _ h => h)
            refine ⟨j + 1, k + k1, xs ++ [x], by omega, by go_num, by rw [List.length_append, HXL.out]; rfl, Lib.hid (HO5.out.more (fun g _ h => ⟨h.1.1, h.2⟩)), Lib.hid ?_, Lib.hid ?_, Lib.hid ?_, Lib.hid ?_⟩
            · have := HR2.out
              rw [List.drop_drop] at this
              exact this.keep HM5.out (fun g hg e => by have := (HO.out.lt g e).1; omega)
            · exact hM2'.trans HM5.out (fun g hg e => by have := (HO.out.lt g e).1; omega)
            · exact (HT.out.rb HR.out HM2.out).mod HM5.out (fun g hg e => by have := (HO.out.lt g e).1; have := HRR.out.two; omega)
            · rw [HE.out, HS.out, onto_onto, List.drop_drop, HD.out]
          case measure => simp [intOf]; omega
      · obtain rfl : n = j := by omega
        go_wp2_with fail
        go_ret
        have hE := HE.out
        rw [Nat.sub_self, onto_done] at hE
        rw [hE]
        exact ⟨_, rfl, HO.out.tell (fun g h => h.1), HR.out, HM.out⟩
set_option maxRecDepth 100000 in
set_option maxHeartbeats 4000000 in
theorem das_any (p : P Da) (R : Nat) (l : List UInt8) (w : World) (hR : Rb w R l) (hT : Tb w) (hp : ∀ l' W, Rb W R l' → Tb W → Calls Tryd.prog 55 #[.pointer (some ⟨R, 0, none⟩)] W (BPost R W l' (p l') (TellA W.heap.size))) :
    Calls Tryd.prog 54 #[.pointer (some ⟨R, 0, none⟩), .func (.func 55) #[] #[]] w (BPost R w l (list p l) fun w' xs v => SliceV w' (w.heap.size ≤ ·) xs v) := by
  have HLT := Lib.hid hR.lt
  have HRR := Lib.hid hR
  have HTT := Lib.hid hT
  have HPP := Lib.hid hp
  have HN := Lib.hid (bnum_any R l w hR)
  clear hR hT hp
  cases hn : num l with
  | error e0 =>
    rw [list_stop hn]
    rw [hn] at HN
    clear hn
    go_enter Tryd.func54, Tryd.ntmps54
    go_wp2_with (go_at_call 42; refine HN.out.mono ?_; rintro e w1 ⟨rfl, hm⟩)
    exact ⟨rfl, rfl, hm⟩
  | ok q =>
    obtain ⟨n, i0⟩ := q
    have HL := Lib.hid (list_go (p := p) hn)
    rw [hn] at HN
    clear hn
    go_enter Tryd.func54, Tryd.ntmps54
    go_upto_region 3 with (go_at_call 42; refine HN.out.mono ?_; rintro e w1 ⟨v, rfl, ⟨rfl, hnlt⟩, hr, hm⟩; have HR1 := Lib.hid hr; have HM1 := Lib.hid hm; clear hr hm)
    have HT1 := Lib.hid (HTT.out.rb HRR.out HM1.out)
    have HS1 := Lib.hid HM1.out.size
    go_loopw [5, 8] (fun v i wr => ∃ (j k : Nat) (xs : List Da), j ≤ n ∧ i = .int .u32 (j : Int) ∧ xs.length = j ∧ Hid (OwnL 61 wr w.heap.size (fun g => w.heap.size ≤ g ∧ v.ownBlock ≠ some g) v xs) ∧ Hid (Rb wr R (l.drop k)) ∧ Hid (Mod (· = R) w wr) ∧ Hid (Tb wr) ∧ Hid (list p l = onto xs k (many p (n - j) (l.drop k)))) (fun _ i _ => n - (intOf i).toNat)
    case atStart => exact ⟨0, i0, [], by omega, rfl, rfl, Lib.hid (OwnL.nil _ _ _ _), Lib.hid HR1.out, Lib.hid HM1.out, Lib.hid HT1.out, Lib.hid (by rw [HL.out, Nat.sub_zero])⟩
    case round =>
      obtain ⟨j, k, xs, hj, rfl, hxl, HO, HR, HM, HT, HE⟩ := hrel
      by_cases hjn : j < n
      · have hji : (j : Int) < (n : Int) := by omega
        obtain ⟨d, hd⟩ : ∃ d, n - j = d + 1 := ⟨n - j - 1, by omega⟩
        rw [hd] at HE
        have hd' : n - (j + 1) = d := by omega
        have HD := Lib.hid hd'
        have HXL := Lib.hid hxl
        have HP := Lib.hid (HPP.out (l.drop k) wr HR.out HT.out)
        clear hd hd' hxl
        cases hx : p (l.drop k) with
        | error e0 =>
          rw [hx] at HP
          have HS := Lib.hid (many_stop (n := d) hx)
          clear hx
          go_wp2_with (go_at_call 55; refine HP.out.mono ?_; rintro e w2 ⟨rfl, hm⟩)
          rw [HE.out, HS.out]
          exact ⟨rfl, rfl, HM.out.trans hm (fun _ _ h => h)⟩
        | ok q =>
          obtain ⟨x, k1⟩ := q
          rw [hx] at HP
          have HS := Lib.hid (many_go (n := d) hx)
          have hw : IntKind.u32.wrap ((j : Int) + 1) = ((j + 1 : Nat) : Int) := by rw [IntWalk.u32_in _ (by omega)]; omega
          clear hx
          go_upto_region 5 with (first | (go_at_call 55; refine HP.out.mono ?_; rintro e w2 ⟨v, rfl, ht, hr2, hm2⟩; obtain ⟨cs, rfl, hcs⟩ := ht; have ht := hcs; obtain ⟨u1, u2, rfl, _, ⟨A1, c1, rfl, _⟩, ⟨A2, c2, rfl, _⟩⟩ := hcs; have hrep := ht; have hsz2 := hm2.size; have hlt := HLT.out; have hov : ∀ g, u5.ownBlock = some g → ¬ g = R := (fun g hg e => by have := (HO.out.lt g hg).1; omega); have hO2 : OwnL 61 w2 w.heap.size (fun g => w.heap.size ≤ g ∧ u5.ownBlock ≠ some g) u5 xs := HO.out.mod hm2 hov (fun g _ hg e => by have := hg.1; omega); obtain ⟨v5, w5, hrun, hO5, hM5, hT5⟩ := append1L undDa infDa (by decide) rfl (by decide) w2 w.heap.size (fun g => w.heap.size ≤ g ∧ u5.ownBlock ≠ some g) u5 xs x [.int .u32 (x.mem : Int), .slice A1 x.off.length c1, .slice A2 x.b.length c2] hO2 (by have := HXL.out; omega) (by have := HM.out.size; omega) (Lay.more hrep (fun g hg h => ⟨by have := HM.out.size; omega, fun e => by have := (HO.out.lt g e).2; omega⟩)) (by simp [Value.oneCell']) (fun g _ h => h.2); have HRUN := Lib.hid hrun; have HO5 := Lib.hid hO5; have HM5 := Lib.hid hM5; have HR2 := Lib.hid hr2; have HM2 := Lib.hid hm2; have HOV := Lib.hid hov; clear hrun hO5 hM5 hT5 hr2 hm2 hO2 hrep ht hov) | (at_builtin; refine wpList_appends rfl (.tmp 10) (.tmp 14) 33 rfl _ _ _ w5 rfl rfl HRUN.out ?_))
          go_wp2_with fail
          go_roundw
          case rel =>
            have hlt := HLT.out
            have hM2' := HM.out.trans HM2.out (fun _ _ h => h)
            refine ⟨j + 1, k + k1, xs ++ [x], by omega, by go_num, by rw [List.length_append, HXL.out]; rfl, Lib.hid (HO5.out.more (fun g _ h => ⟨h.1.1, h.2⟩)), Lib.hid ?_, Lib.hid ?_, Lib.hid ?_, Lib.hid ?_⟩
            · have := HR2.out
              rw [List.drop_drop] at this
              exact this.keep HM5.out (fun g hg e => by have := (HO.out.lt g e).1; omega)
            · exact hM2'.trans HM5.out (fun g hg e => by have := (HO.out.lt g e).1; omega)
            · exact (HT.out.rb HR.out HM2.out).mod HM5.out (fun g hg e => by have := (HO.out.lt g e).1; have := HRR.out.two; omega)
            · rw [HE.out, HS.out, onto_onto, List.drop_drop, HD.out]
          case measure => simp [intOf]; omega
      · obtain rfl : n = j := by omega
        go_wp2_with fail
        go_ret
        have hE := HE.out
        rw [Nat.sub_self, onto_done] at hE
        rw [hE]
        exact ⟨_, rfl, HO.out.tell (fun g h => h.1), HR.out, HM.out⟩
set_option maxRecDepth 100000 in
set_option maxHeartbeats 4000000 in
theorem locs_any (p : P Lc) (R : Nat) (l : List UInt8) (w : World) (hR : Rb w R l) (hT : Tb w) (hp : ∀ l' W, Rb W R l' → Tb W → Calls Tryd.prog 73 #[.pointer (some ⟨R, 0, none⟩)] W (BPost R W l' (p l') (TellA W.heap.size))) :
    Calls Tryd.prog 72 #[.pointer (some ⟨R, 0, none⟩), .func (.func 73) #[] #[]] w (BPost R w l (list p l) fun w' xs v => SliceV w' (w.heap.size ≤ ·) xs v) := by
  have HLT := Lib.hid hR.lt
  have HRR := Lib.hid hR
  have HTT := Lib.hid hT
  have HPP := Lib.hid hp
  have HN := Lib.hid (bnum_any R l w hR)
  clear hR hT hp
  cases hn : num l with
  | error e0 =>
    rw [list_stop hn]
    rw [hn] at HN
    clear hn
    go_enter Tryd.func72, Tryd.ntmps72
    go_wp2_with (go_at_call 42; refine HN.out.mono ?_; rintro e w1 ⟨rfl, hm⟩)
    exact ⟨rfl, rfl, hm⟩
  | ok q =>
    obtain ⟨n, i0⟩ := q
    have HL := Lib.hid (list_go (p := p) hn)
    rw [hn] at HN
    clear hn
    go_enter Tryd.func72, Tryd.ntmps72
    go_upto_region 3 with (go_at_call 42; refine HN.out.mono ?_; rintro e w1 ⟨v, rfl, ⟨rfl, hnlt⟩, hr, hm⟩; have HR1 := Lib.hid hr; have HM1 := Lib.hid hm; clear hr hm)
    have HT1 := Lib.hid (HTT.out.rb HRR.out HM1.out)
    have HS1 := Lib.hid HM1.out.size
    go_loopw [5, 8] (fun v i wr => ∃ (j k : Nat) (xs : List Lc), j ≤ n ∧ i = .int .u32 (j : Int) ∧ xs.length = j ∧ Hid (OwnL 57 wr w.heap.size (fun g => w.heap.size ≤ g ∧ v.ownBlock ≠ some g) v xs) ∧ Hid (Rb wr R (l.drop k)) ∧ Hid (Mod (· = R) w wr) ∧ Hid (Tb wr) ∧ Hid (list p l = onto xs k (many p (n - j) (l.drop k)))) (fun _ i _ => n - (intOf i).toNat)
    case atStart => exact ⟨0, i0, [], by omega, rfl, rfl, Lib.hid (OwnL.nil _ _ _ _), Lib.hid HR1.out, Lib.hid HM1.out, Lib.hid HT1.out, Lib.hid (by rw [HL.out, Nat.sub_zero])⟩
    case round =>
      obtain ⟨j, k, xs, hj, rfl, hxl, HO, HR, HM, HT, HE⟩ := hrel
      by_cases hjn : j < n
      · have hji : (j : Int) < (n : Int) := by omega
        obtain ⟨d, hd⟩ : ∃ d, n - j = d + 1 := ⟨n - j - 1, by omega⟩
        rw [hd] at HE
        have hd' : n - (j + 1) = d := by omega
        have HD := Lib.hid hd'
        have HXL := Lib.hid hxl
        have HP := Lib.hid (HPP.out (l.drop k) wr HR.out HT.out)
        clear hd hd' hxl
        cases hx : p (l.drop k) with
        | error e0 =>
          rw [hx] at HP
          have HS := Lib.hid (many_stop (n := d) hx)
          clear hx
          go_wp2_with (go_at_call 73; refine HP.out.mono ?_; rintro e w2 ⟨rfl, hm⟩)
          rw [HE.out, HS.out]
          exact ⟨rfl, rfl, HM.out.trans hm (fun _ _ h => h)⟩
        | ok q =>
          obtain ⟨x, k1⟩ := q
          rw [hx] at HP
          have HS := Lib.hid (many_go (n := d) hx)
          have hw : IntKind.u32.wrap ((j : Int) + 1) = ((j + 1 : Nat) : Int) := by rw [IntWalk.u32_in _ (by omega)]; omega
          clear hx
          go_upto_region 5 with (first | (go_at_call 73; refine HP.out.mono ?_; rintro e w2 ⟨v, rfl, ht, hr2, hm2⟩; obtain ⟨cs, rfl, hcs⟩ := ht; have ht := hcs; obtain rfl : cs = [.int .u32 (x.n : Int), .int .u8 (x.t.toNat : Int)] := hcs.1; have hrep := ht; have hsz2 := hm2.size; have hlt := HLT.out; have hov : ∀ g, u5.ownBlock = some g → ¬ g = R := (fun g hg e => by have := (HO.out.lt g hg).1; omega); have hO2 : OwnL 57 w2 w.heap.size (fun g => w.heap.size ≤ g ∧ u5.ownBlock ≠ some g) u5 xs := HO.out.mod hm2 hov (fun g _ hg e => by have := hg.1; omega); obtain ⟨v5, w5, hrun, hO5, hM5, hT5⟩ := append1L undLc infLc (by decide) rfl (by decide) w2 w.heap.size (fun g => w.heap.size ≤ g ∧ u5.ownBlock ≠ some g) u5 xs x [.int .u32 (x.n : Int), .int .u8 (x.t.toNat : Int)] hO2 (by have := HXL.out; omega) (by have := HM.out.size; omega) (Lay.more hrep (fun g hg h => ⟨by have := HM.out.size; omega, fun e => by have := (HO.out.lt g e).2; omega⟩)) (by simp [Value.oneCell']) (fun g _ h => h.2); have HRUN := Lib.hid hrun; have HO5 := Lib.hid hO5; have HM5 := Lib.hid hM5; have HR2 := Lib.hid hr2; have HM2 := Lib.hid hm2; have HOV := Lib.hid hov; clear hrun hO5 hM5 hT5 hr2 hm2 hO2 hrep ht hov) | (at_builtin; refine wpList_appends rfl (.tmp 10) (.tmp 14) 53 rfl _ _ _ w5 rfl rfl HRUN.out ?_))
          go_wp2_with fail
          go_roundw
          case rel =>
            have hlt := HLT.out
            have hM2' := HM.out.trans HM2.out (fun _ _ h => h)
            refine ⟨j + 1, k + k1, xs ++ [x], by omega, by go_num, by rw [List.length_append, HXL.out]; rfl, Lib.hid (HO5.out.more (fun g _ h => ⟨h.1.1, h.2⟩)), Lib.hid ?_, Lib.hid ?_, Lib.hid ?_, Lib.hid ?_⟩
            · have := HR2.out
              rw [List.drop_drop] at this
              exact this.keep HM5.out (fun g hg e => by have := (HO.out.lt g e).1; omega)
            · exact hM2'.trans HM5.out (fun g hg e => by have := (HO.out.lt g e).1; omega)
            · exact (HT.out.rb HR.out HM2.out).mod HM5.out (fun g hg e => by have := (HO.out.lt g e).1; have := HRR.out.two; omega)
            · rw [HE.out, HS.out, onto_onto, List.drop_drop, HD.out]
          case measure => simp [intOf]; omega
      · obtain rfl : n = j := by omega
        go_wp2_with fail
        go_ret
        have hE := HE.out
        rw [Nat.sub_self, onto_done] at hE
        rw [hE]
        exact ⟨_, rfl, HO.out.tell (fun g h => h.1), HR.out, HM.out⟩
end Go.Proofs.YtaloenmpidbhlaaDoor
