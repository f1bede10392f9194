/-
  Layer 6's lists: the walks, part 1. (gen/bindec/lists.py)
-/
import Derived.Test.YthkglmkpnhhboaaGreatDoorR01
import Derived.Test.YthkglmkpnhhboaaGreatDoorR35
import Derived.Deep.Cut
set_option maxRecDepth 100000
set_option maxHeartbeats 4000000
namespace Go.Proofs.YthkglmkpnhhboaaGreatDoor
open Go.RowKit Ins Bin
theorem vals_any (p : P UInt8) (R : Nat) (l : List UInt8) (w : World) (hR : Rb w R l) (hT : Tb w) (hp : ∀ l' W, Rb W R l' → Tb W → Calls Tryz.prog 116 #[.pointer (some ⟨R, 0, none⟩)] W (ap R W l' (p l') (Tell1 W.heap.size))) :
  Calls Tryz.prog 115 #[.pointer (some ⟨R, 0, none⟩), .func (.func 116) #[] #[]] w (ap R w l (list p l) fun w' xs v => J w' (w.heap.size ≤ ·) xs v) := by
 have HLT := Y hR.lt
 have HRR := Y hR
 have HTT := Y hT
 have HPP := Y hp
 have HN := Y (ar R l w hR)
 clear hR hT hp
 cases hn : num l with
 | error e0 =>
  rw [aS hn]
  rw [hn] at HN
  clear hn
  go_enter Tryz.func115, Tryz.ntmps115
  go_wp2_with (go_at_call 73; refine HN.out.mono ?_; rintro e w1 ⟨rfl, hm⟩)
  exact ⟨rfl, rfl, hm⟩
 | ok q =>
  obtain ⟨n, i0⟩ := q
  have HL := Y (bC (p := p) hn)
  rw [hn] at HN
  clear hn
  go_enter Tryz.func115, Tryz.ntmps115
  go_upto_region 3 with (go_at_call 73; refine HN.out.mono ?_; rintro e w1 ⟨v, rfl, ⟨rfl, hnlt⟩, hr, hm⟩; have HR1 := Y hr; have HM1 := Y hm; clear hr hm)
  have HT1 := Y (HTT.out.rb HRR.out HM1.out)
  have HS1 := Y HM1.out.size
  go_loopw [5, 8] (fun v i wr => ∃ (j k : Nat) (xs : List UInt8), j ≤ n ∧ i = .int .u32 (j : Int) ∧ xs.length = j ∧ Hid (OwnL 5 wr w.heap.size (fun g => w.heap.size ≤ g ∧ v.ownBlock ≠ some g) v xs) ∧ Hid (Rb wr R (l.drop k)) ∧ Hid (Mod (· = R) w wr) ∧ Hid (Tb wr) ∧ Hid (list p l = onto xs k (many p (n - j) (l.drop k)))) (fun _ i _ => n - (intOf i).toNat)
  case atStart => exact ⟨0, i0, [], by omega, rfl, rfl, Y (OwnL.nil _ _ _ _), Y HR1.out, Y HM1.out, Y HT1.out, Y (by rw [HL.out, Nat.sub_zero])⟩
  case round =>
   obtain ⟨j, k, xs, hj, rfl, hxl, HO, HR, HM, HT, HE⟩ := hrel
   by_cases hjn : j < n
   ·have hji : (j : Int) < (n : Int) := by omega
    obtain ⟨d, hd⟩ : ∃ d, n - j = d + 1 := ⟨n - j - 1, by omega⟩
    rw [hd] at HE
    have hd' : n - (j + 1) = d := by omega
    have HD := Y hd'
    have HXL := Y hxl
    have HP := Y (HPP.out (l.drop k) wr HR.out HT.out)
    clear hd hd' hxl
    cases hx : p (l.drop k) with
    | error e0 =>
     rw [hx] at HP
     have HS := Y (aR (n := d) hx)
     clear hx
     go_wp2_with (go_at_call 116; refine HP.out.mono ?_; rintro e w2 ⟨rfl, hm⟩)
     rw [HE.out, HS.out]
     exact ⟨rfl, rfl, HM.out.trans hm (fun _ _ h => h)⟩
    | ok q =>
     obtain ⟨x, k1⟩ := q
     rw [hx] at HP
     have HS := Y (bD (n := d) hx)
     have hw : IntKind.u32.wrap ((j : Int) + 1) = ((j + 1 : Nat) : Int) := by rw [IntWalk.u32_in _ (by omega)]; omega
     clear hx
     go_upto_region 5 with (first | (go_at_call 116; refine HP.out.mono ?_; rintro e w2 ⟨v, rfl, ht, hr2, hm2⟩; obtain rfl : v = .int .u8 (x.toNat : Int) := (List.cons.inj ht).1; have hrep := ht; have hsz2 := hm2.size; have hlt := HLT.out; have hov : ∀ g, u5.ownBlock = some g → ¬ g = R := (fun g hg e => by have := (HO.out.lt g hg).1; omega); have hO2 : OwnL 5 w2 w.heap.size (fun g => w.heap.size ≤ g ∧ u5.ownBlock ≠ some g) u5 xs := HO.out.mod hm2 hov (fun g _ hg e => by have := hg.1; omega); obtain ⟨v5, w5, hrun, hO5, hM5, hT5⟩ := append1L undUInt8 infUInt8 (by decide) rfl (by decide) w2 w.heap.size (fun g => w.heap.size ≤ g ∧ u5.ownBlock ≠ some g) u5 xs x [.int .u8 (x.toNat : Int)] hO2 (by have := HXL.out; omega) (by have := HM.out.size; omega) (Lay.more hrep (fun g hg h => ⟨by have := HM.out.size; omega, fun e => by have := (HO.out.lt g e).2; omega⟩)) (by simp [Value.oneCell']) (fun g _ h => h.2); have HRUN := Y hrun; have HO5 := Y hO5; have HM5 := Y hM5; have HR2 := Y hr2; have HM2 := Y hm2; have HOV := Y hov; clear hrun hO5 hM5 hT5 hr2 hm2 hO2 hrep ht hov) | (at_builtin; refine aa rfl (.tmp 10) (.tmp 14) 36 rfl _ _ _ w5 rfl rfl HRUN.out ?_))
     go_wp2_with fail
     go_roundw
     case rel =>
      have hlt := HLT.out
      have hM2' := HM.out.trans HM2.out (fun _ _ h => h)
      refine ⟨j + 1, k + k1, xs ++ [x], by omega, by go_num, by rw [List.length_append, HXL.out]; rfl, Y (HO5.out.more (fun g _ h => ⟨h.1.1, h.2⟩)), Y ?_, Y ?_, Y ?_, Y ?_⟩
      ·have := HR2.out
       rw [List.drop_drop] at this
       exact this.keep HM5.out (fun g hg e => by have := (HO.out.lt g e).1; omega)
      ·exact hM2'.trans HM5.out (fun g hg e => by have := (HO.out.lt g e).1; omega)
      ·exact (HT.out.rb HR.out HM2.out).mod HM5.out (fun g hg e => by have := (HO.out.lt g e).1; have := HRR.out.two; omega)
      ·rw [HE.out, HS.out, aI, List.drop_drop, HD.out]
     case measure => simp [intOf]; omega
   ·obtain rfl : n = j := by omega
    go_wp2_with fail
    go_ret
    have hE := HE.out
    rw [Nat.sub_self, aQ] at hE
    rw [hE]
    exact ⟨_, rfl, HO.out.tell (fun g h => h.1), HR.out, HM.out⟩
theorem nums_any (p : P Nat) (R : Nat) (l : List UInt8) (w : World) (hR : Rb w R l) (hT : Tb w) (hp : ∀ l' W, Rb W R l' → Tb W → Calls Tryz.prog 73 #[.pointer (some ⟨R, 0, none⟩)] W (ap R W l' (p l') (Tell1 W.heap.size))) :
  Calls Tryz.prog 72 #[.pointer (some ⟨R, 0, none⟩), .func (.func 73) #[] #[]] w (ap R w l (list p l) fun w' xs v => J w' (w.heap.size ≤ ·) xs v) := by
 have HLT := Y hR.lt
 have HRR := Y hR
 have HTT := Y hT
 have HPP := Y hp
 have HN := Y (ar R l w hR)
 clear hR hT hp
 cases hn : num l with
 | error e0 =>
  rw [aS hn]
  rw [hn] at HN
  clear hn
  go_enter Tryz.func72, Tryz.ntmps72
  go_wp2_with (go_at_call 73; refine HN.out.mono ?_; rintro e w1 ⟨rfl, hm⟩)
  exact ⟨rfl, rfl, hm⟩
 | ok q =>
  obtain ⟨n, i0⟩ := q
  have HL := Y (bC (p := p) hn)
  rw [hn] at HN
  clear hn
  go_enter Tryz.func72, Tryz.ntmps72
  go_upto_region 3 with (go_at_call 73; refine HN.out.mono ?_; rintro e w1 ⟨v, rfl, ⟨rfl, hnlt⟩, hr, hm⟩; have HR1 := Y hr; have HM1 := Y hm; clear hr hm)
  have HT1 := Y (HTT.out.rb HRR.out HM1.out)
  have HS1 := Y HM1.out.size
  go_loopw [5, 8] (fun v i wr => ∃ (j k : Nat) (xs : List Nat), j ≤ n ∧ i = .int .u32 (j : Int) ∧ xs.length = j ∧ Hid (OwnL 28 wr w.heap.size (fun g => w.heap.size ≤ g ∧ v.ownBlock ≠ some g) v xs) ∧ Hid (Rb wr R (l.drop k)) ∧ Hid (Mod (· = R) w wr) ∧ Hid (Tb wr) ∧ Hid (list p l = onto xs k (many p (n - j) (l.drop k)))) (fun _ i _ => n - (intOf i).toNat)
  case atStart => exact ⟨0, i0, [], by omega, rfl, rfl, Y (OwnL.nil _ _ _ _), Y HR1.out, Y HM1.out, Y HT1.out, Y (by rw [HL.out, Nat.sub_zero])⟩
  case round =>
   obtain ⟨j, k, xs, hj, rfl, hxl, HO, HR, HM, HT, HE⟩ := hrel
   by_cases hjn : j < n
   ·have hji : (j : Int) < (n : Int) := by omega
    obtain ⟨d, hd⟩ : ∃ d, n - j = d + 1 := ⟨n - j - 1, by omega⟩
    rw [hd] at HE
    have hd' : n - (j + 1) = d := by omega
    have HD := Y hd'
    have HXL := Y hxl
    have HP := Y (HPP.out (l.drop k) wr HR.out HT.out)
    clear hd hd' hxl
    cases hx : p (l.drop k) with
    | error e0 =>
     rw [hx] at HP
     have HS := Y (aR (n := d) hx)
     clear hx
     go_wp2_with (go_at_call 73; refine HP.out.mono ?_; rintro e w2 ⟨rfl, hm⟩)
     rw [HE.out, HS.out]
     exact ⟨rfl, rfl, HM.out.trans hm (fun _ _ h => h)⟩
    | ok q =>
     obtain ⟨x, k1⟩ := q
     rw [hx] at HP
     have HS := Y (bD (n := d) hx)
     have hw : IntKind.u32.wrap ((j : Int) + 1) = ((j + 1 : Nat) : Int) := by rw [IntWalk.u32_in _ (by omega)]; omega
     clear hx
     go_upto_region 5 with (first | (go_at_call 73; refine HP.out.mono ?_; rintro e w2 ⟨v, rfl, ht, hr2, hm2⟩; obtain rfl : v = .int .u32 (x : Int) := (List.cons.inj ht.1).1; have hrep := ht; have hsz2 := hm2.size; have hlt := HLT.out; have hov : ∀ g, u5.ownBlock = some g → ¬ g = R := (fun g hg e => by have := (HO.out.lt g hg).1; omega); have hO2 : OwnL 28 w2 w.heap.size (fun g => w.heap.size ≤ g ∧ u5.ownBlock ≠ some g) u5 xs := HO.out.mod hm2 hov (fun g _ hg e => by have := hg.1; omega); obtain ⟨v5, w5, hrun, hO5, hM5, hT5⟩ := append1L undNat infNat (by decide) rfl (by decide) w2 w.heap.size (fun g => w.heap.size ≤ g ∧ u5.ownBlock ≠ some g) u5 xs x [.int .u32 (x : Int)] hO2 (by have := HXL.out; omega) (by have := HM.out.size; omega) (Lay.more hrep (fun g hg h => ⟨by have := HM.out.size; omega, fun e => by have := (HO.out.lt g e).2; omega⟩)) (by simp [Value.oneCell']) (fun g _ h => h.2); have HRUN := Y hrun; have HO5 := Y hO5; have HM5 := Y hM5; have HR2 := Y hr2; have HM2 := Y hm2; have HOV := Y hov; clear hrun hO5 hM5 hT5 hr2 hm2 hO2 hrep ht hov) | (at_builtin; refine aa rfl (.tmp 10) (.tmp 14) 24 rfl _ _ _ w5 rfl rfl HRUN.out ?_))
     go_wp2_with fail
     go_roundw
     case rel =>
      have hlt := HLT.out
      have hM2' := HM.out.trans HM2.out (fun _ _ h => h)
      refine ⟨j + 1, k + k1, xs ++ [x], by omega, by go_num, by rw [List.length_append, HXL.out]; rfl, Y (HO5.out.more (fun g _ h => ⟨h.1.1, h.2⟩)), Y ?_, Y ?_, Y ?_, Y ?_⟩
      ·have := HR2.out
       rw [List.drop_drop] at this
       exact this.keep HM5.out (fun g hg e => by have := (HO.out.lt g e).1; omega)
      ·exact hM2'.trans HM5.out (fun g hg e => by have := (HO.out.lt g e).1; omega)
      ·exact (HT.out.rb HR.out HM2.out).mod HM5.out (fun g hg e => by have := (HO.out.lt g e).1; have := HRR.out.two; omega)
      ·rw [HE.out, HS.out, aI, List.drop_drop, HD.out]
     case measure => simp [intOf]; omega
   ·obtain rfl : n = j := by omega
    go_wp2_with fail
    go_ret
    have hE := HE.out
    rw [Nat.sub_self, aQ] at hE
    rw [hE]
    exact ⟨_, rfl, HO.out.tell (fun g h => h.1), HR.out, HM.out⟩
theorem tabs_any (p : P Lim) (R : Nat) (l : List UInt8) (w : World) (hR : Rb w R l) (hT : Tb w) (hp : ∀ l' W, Rb W R l' → Tb W → Calls Tryz.prog 75 #[.pointer (some ⟨R, 0, none⟩)] W (ap R W l' (p l') (bI W.heap.size))) :
  Calls Tryz.prog 74 #[.pointer (some ⟨R, 0, none⟩), .func (.func 75) #[] #[]] w (ap R w l (list p l) fun w' xs v => J w' (w.heap.size ≤ ·) xs v) := by
 have HLT := Y hR.lt
 have HRR := Y hR
 have HTT := Y hT
 have HPP := Y hp
 have HN := Y (ar R l w hR)
 clear hR hT hp
 cases hn : num l with
 | error e0 =>
  rw [aS hn]
  rw [hn] at HN
  clear hn
  go_enter Tryz.func74, Tryz.ntmps74
  go_wp2_with (go_at_call 73; refine HN.out.mono ?_; rintro e w1 ⟨rfl, hm⟩)
  exact ⟨rfl, rfl, hm⟩
 | ok q =>
  obtain ⟨n, i0⟩ := q
  have HL := Y (bC (p := p) hn)
  rw [hn] at HN
  clear hn
  go_enter Tryz.func74, Tryz.ntmps74
  go_upto_region 3 with (go_at_call 73; refine HN.out.mono ?_; rintro e w1 ⟨v, rfl, ⟨rfl, hnlt⟩, hr, hm⟩; have HR1 := Y hr; have HM1 := Y hm; clear hr hm)
  have HT1 := Y (HTT.out.rb HRR.out HM1.out)
  have HS1 := Y HM1.out.size
  go_loopw [5, 8] (fun v i wr => ∃ (j k : Nat) (xs : List Lim), j ≤ n ∧ i = .int .u32 (j : Int) ∧ xs.length = j ∧ Hid (OwnL 57 wr w.heap.size (fun g => w.heap.size ≤ g ∧ v.ownBlock ≠ some g) v xs) ∧ Hid (Rb wr R (l.drop k)) ∧ Hid (Mod (· = R) w wr) ∧ Hid (Tb wr) ∧ Hid (list p l = onto xs k (many p (n - j) (l.drop k)))) (fun _ i _ => n - (intOf i).toNat)
  case atStart => exact ⟨0, i0, [], by omega, rfl, rfl, Y (OwnL.nil _ _ _ _), Y HR1.out, Y HM1.out, Y HT1.out, Y (by rw [HL.out, Nat.sub_zero])⟩
  case round =>
   obtain ⟨j, k, xs, hj, rfl, hxl, HO, HR, HM, HT, HE⟩ := hrel
   by_cases hjn : j < n
   ·have hji : (j : Int) < (n : Int) := by omega
    obtain ⟨d, hd⟩ : ∃ d, n - j = d + 1 := ⟨n - j - 1, by omega⟩
    rw [hd] at HE
    have hd' : n - (j + 1) = d := by omega
    have HD := Y hd'
    have HXL := Y hxl
    have HP := Y (HPP.out (l.drop k) wr HR.out HT.out)
    clear hd hd' hxl
    cases hx : p (l.drop k) with
    | error e0 =>
     rw [hx] at HP
     have HS := Y (aR (n := d) hx)
     clear hx
     go_wp2_with (go_at_call 75; refine HP.out.mono ?_; rintro e w2 ⟨rfl, hm⟩)
     rw [HE.out, HS.out]
     exact ⟨rfl, rfl, HM.out.trans hm (fun _ _ h => h)⟩
    | ok q =>
     obtain ⟨x, k1⟩ := q
     rw [hx] at HP
     have HS := Y (bD (n := d) hx)
     have hw : IntKind.u32.wrap ((j : Int) + 1) = ((j + 1 : Nat) : Int) := by rw [IntWalk.u32_in _ (by omega)]; omega
     clear hx
     go_upto_region 5 with (first | (go_at_call 75; refine HP.out.mono ?_; rintro e w2 ⟨v, rfl, ht, hr2, hm2⟩; obtain ⟨cs, rfl, hcs⟩ := ht; obtain rfl : cs = [.int .u32 (x.min : Int), .int .i64 x.max] := hcs.1; have ht := hcs; have hrep := ht; have hsz2 := hm2.size; have hlt := HLT.out; have hov : ∀ g, u5.ownBlock = some g → ¬ g = R := (fun g hg e => by have := (HO.out.lt g hg).1; omega); have hO2 : OwnL 57 w2 w.heap.size (fun g => w.heap.size ≤ g ∧ u5.ownBlock ≠ some g) u5 xs := HO.out.mod hm2 hov (fun g _ hg e => by have := hg.1; omega); obtain ⟨v5, w5, hrun, hO5, hM5, hT5⟩ := append1L undLim infLim (by decide) rfl (by decide) w2 w.heap.size (fun g => w.heap.size ≤ g ∧ u5.ownBlock ≠ some g) u5 xs x [.int .u32 (x.min : Int), .int .i64 x.max] hO2 (by have := HXL.out; omega) (by have := HM.out.size; omega) (Lay.more hrep (fun g hg h => ⟨by have := HM.out.size; omega, fun e => by have := (HO.out.lt g e).2; omega⟩)) (by simp [Value.oneCell']) (fun g _ h => h.2); have HRUN := Y hrun; have HO5 := Y hO5; have HM5 := Y hM5; have HR2 := Y hr2; have HM2 := Y hm2; have HOV := Y hov; clear hrun hO5 hM5 hT5 hr2 hm2 hO2 hrep ht hov) | (at_builtin; refine aa rfl (.tmp 10) (.tmp 14) 25 rfl _ _ _ w5 rfl rfl HRUN.out ?_))
     go_wp2_with fail
     go_roundw
     case rel =>
      have hlt := HLT.out
      have hM2' := HM.out.trans HM2.out (fun _ _ h => h)
      refine ⟨j + 1, k + k1, xs ++ [x], by omega, by go_num, by rw [List.length_append, HXL.out]; rfl, Y (HO5.out.more (fun g _ h => ⟨h.1.1, h.2⟩)), Y ?_, Y ?_, Y ?_, Y ?_⟩
      ·have := HR2.out
       rw [List.drop_drop] at this
       exact this.keep HM5.out (fun g hg e => by have := (HO.out.lt g e).1; omega)
      ·exact hM2'.trans HM5.out (fun g hg e => by have := (HO.out.lt g e).1; omega)
      ·exact (HT.out.rb HR.out HM2.out).mod HM5.out (fun g hg e => by have := (HO.out.lt g e).1; have := HRR.out.two; omega)
      ·rw [HE.out, HS.out, aI, List.drop_drop, HD.out]
     case measure => simp [intOf]; omega
   ·obtain rfl : n = j := by omega
    go_wp2_with fail
    go_ret
    have hE := HE.out
    rw [Nat.sub_self, aQ] at hE
    rw [hE]
    exact ⟨_, rfl, HO.out.tell (fun g h => h.1), HR.out, HM.out⟩
theorem lims_any (p : P Lim) (R : Nat) (l : List UInt8) (w : World) (hR : Rb w R l) (hT : Tb w) (hp : ∀ l' W, Rb W R l' → Tb W → Calls Tryz.prog 76 #[.pointer (some ⟨R, 0, none⟩)] W (ap R W l' (p l') (bI W.heap.size))) :
  Calls Tryz.prog 74 #[.pointer (some ⟨R, 0, none⟩), .func (.func 76) #[] #[]] w (ap R w l (list p l) fun w' xs v => J w' (w.heap.size ≤ ·) xs v) := by
 have HLT := Y hR.lt
 have HRR := Y hR
 have HTT := Y hT
 have HPP := Y hp
 have HN := Y (ar R l w hR)
 clear hR hT hp
 cases hn : num l with
 | error e0 =>
  rw [aS hn]
  rw [hn] at HN
  clear hn
  go_enter Tryz.func74, Tryz.ntmps74
  go_wp2_with (go_at_call 73; refine HN.out.mono ?_; rintro e w1 ⟨rfl, hm⟩)
  exact ⟨rfl, rfl, hm⟩
 | ok q =>
  obtain ⟨n, i0⟩ := q
  have HL := Y (bC (p := p) hn)
  rw [hn] at HN
  clear hn
  go_enter Tryz.func74, Tryz.ntmps74
  go_upto_region 3 with (go_at_call 73; refine HN.out.mono ?_; rintro e w1 ⟨v, rfl, ⟨rfl, hnlt⟩, hr, hm⟩; have HR1 := Y hr; have HM1 := Y hm; clear hr hm)
  have HT1 := Y (HTT.out.rb HRR.out HM1.out)
  have HS1 := Y HM1.out.size
  go_loopw [5, 8] (fun v i wr => ∃ (j k : Nat) (xs : List Lim), j ≤ n ∧ i = .int .u32 (j : Int) ∧ xs.length = j ∧ Hid (OwnL 57 wr w.heap.size (fun g => w.heap.size ≤ g ∧ v.ownBlock ≠ some g) v xs) ∧ Hid (Rb wr R (l.drop k)) ∧ Hid (Mod (· = R) w wr) ∧ Hid (Tb wr) ∧ Hid (list p l = onto xs k (many p (n - j) (l.drop k)))) (fun _ i _ => n - (intOf i).toNat)
  case atStart => exact ⟨0, i0, [], by omega, rfl, rfl, Y (OwnL.nil _ _ _ _), Y HR1.out, Y HM1.out, Y HT1.out, Y (by rw [HL.out, Nat.sub_zero])⟩
  case round =>
   obtain ⟨j, k, xs, hj, rfl, hxl, HO, HR, HM, HT, HE⟩ := hrel
   by_cases hjn : j < n
   ·have hji : (j : Int) < (n : Int) := by omega
    obtain ⟨d, hd⟩ : ∃ d, n - j = d + 1 := ⟨n - j - 1, by omega⟩
    rw [hd] at HE
    have hd' : n - (j + 1) = d := by omega
    have HD := Y hd'
    have HXL := Y hxl
    have HP := Y (HPP.out (l.drop k) wr HR.out HT.out)
    clear hd hd' hxl
    cases hx : p (l.drop k) with
    | error e0 =>
     rw [hx] at HP
     have HS := Y (aR (n := d) hx)
     clear hx
     go_wp2_with (go_at_call 76; refine HP.out.mono ?_; rintro e w2 ⟨rfl, hm⟩)
     rw [HE.out, HS.out]
     exact ⟨rfl, rfl, HM.out.trans hm (fun _ _ h => h)⟩
    | ok q =>
     obtain ⟨x, k1⟩ := q
     rw [hx] at HP
     have HS := Y (bD (n := d) hx)
     have hw : IntKind.u32.wrap ((j : Int) + 1) = ((j + 1 : Nat) : Int) := by rw [IntWalk.u32_in _ (by omega)]; omega
     clear hx
     go_upto_region 5 with (first | (go_at_call 76; refine HP.out.mono ?_; rintro e w2 ⟨v, rfl, ht, hr2, hm2⟩; obtain ⟨cs, rfl, hcs⟩ := ht; obtain rfl : cs = [.int .u32 (x.min : Int), .int .i64 x.max] := hcs.1; have ht := hcs; have hrep := ht; have hsz2 := hm2.size; have hlt := HLT.out; have hov : ∀ g, u5.ownBlock = some g → ¬ g = R := (fun g hg e => by have := (HO.out.lt g hg).1; omega); have hO2 : OwnL 57 w2 w.heap.size (fun g => w.heap.size ≤ g ∧ u5.ownBlock ≠ some g) u5 xs := HO.out.mod hm2 hov (fun g _ hg e => by have := hg.1; omega); obtain ⟨v5, w5, hrun, hO5, hM5, hT5⟩ := append1L undLim infLim (by decide) rfl (by decide) w2 w.heap.size (fun g => w.heap.size ≤ g ∧ u5.ownBlock ≠ some g) u5 xs x [.int .u32 (x.min : Int), .int .i64 x.max] hO2 (by have := HXL.out; omega) (by have := HM.out.size; omega) (Lay.more hrep (fun g hg h => ⟨by have := HM.out.size; omega, fun e => by have := (HO.out.lt g e).2; omega⟩)) (by simp [Value.oneCell']) (fun g _ h => h.2); have HRUN := Y hrun; have HO5 := Y hO5; have HM5 := Y hM5; have HR2 := Y hr2; have HM2 := Y hm2; have HOV := Y hov; clear hrun hO5 hM5 hT5 hr2 hm2 hO2 hrep ht hov) | (at_builtin; refine aa rfl (.tmp 10) (.tmp 14) 25 rfl _ _ _ w5 rfl rfl HRUN.out ?_))
     go_wp2_with fail
     go_roundw
     case rel =>
      have hlt := HLT.out
      have hM2' := HM.out.trans HM2.out (fun _ _ h => h)
      refine ⟨j + 1, k + k1, xs ++ [x], by omega, by go_num, by rw [List.length_append, HXL.out]; rfl, Y (HO5.out.more (fun g _ h => ⟨h.1.1, h.2⟩)), Y ?_, Y ?_, Y ?_, Y ?_⟩
      ·have := HR2.out
       rw [List.drop_drop] at this
       exact this.keep HM5.out (fun g hg e => by have := (HO.out.lt g e).1; omega)
      ·exact hM2'.trans HM5.out (fun g hg e => by have := (HO.out.lt g e).1; omega)
      ·exact (HT.out.rb HR.out HM2.out).mod HM5.out (fun g hg e => by have := (HO.out.lt g e).1; have := HRR.out.two; omega)
      ·rw [HE.out, HS.out, aI, List.drop_drop, HD.out]
     case measure => simp [intOf]; omega
   ·obtain rfl : n = j := by omega
    go_wp2_with fail
    go_ret
    have hE := HE.out
    rw [Nat.sub_self, aQ] at hE
    rw [hE]
    exact ⟨_, rfl, HO.out.tell (fun g h => h.1), HR.out, HM.out⟩
theorem fts_any (p : P FT) (R : Nat) (l : List UInt8) (w : World) (hR : Rb w R l) (hT : Tb w) (hp : ∀ l' W, Rb W R l' → Tb W → Calls Tryz.prog 69 #[.pointer (some ⟨R, 0, none⟩)] W (ap R W l' (p l') (bI W.heap.size))) :
  Calls Tryz.prog 68 #[.pointer (some ⟨R, 0, none⟩), .func (.func 69) #[] #[]] w (ap R w l (list p l) fun w' xs v => J w' (w.heap.size ≤ ·) xs v) := by
 have HLT := Y hR.lt
 have HRR := Y hR
 have HTT := Y hT
 have HPP := Y hp
 have HN := Y (ar R l w hR)
 clear hR hT hp
 cases hn : num l with
 | error e0 =>
  rw [aS hn]
  rw [hn] at HN
  clear hn
  go_enter Tryz.func68, Tryz.ntmps68
  go_wp2_with (go_at_call 73; refine HN.out.mono ?_; rintro e w1 ⟨rfl, hm⟩)
  exact ⟨rfl, rfl, hm⟩
 | ok q =>
  obtain ⟨n, i0⟩ := q
  have HL := Y (bC (p := p) hn)
  rw [hn] at HN
  clear hn
  go_enter Tryz.func68, Tryz.ntmps68
  go_upto_region 3 with (go_at_call 73; refine HN.out.mono ?_; rintro e w1 ⟨v, rfl, ⟨rfl, hnlt⟩, hr, hm⟩; have HR1 := Y hr; have HM1 := Y hm; clear hr hm)
  have HT1 := Y (HTT.out.rb HRR.out HM1.out)
  have HS1 := Y HM1.out.size
  go_loopw [5, 8] (fun v i wr => ∃ (j k : Nat) (xs : List FT), j ≤ n ∧ i = .int .u32 (j : Int) ∧ xs.length = j ∧ Hid (OwnL 50 wr w.heap.size (fun g => w.heap.size ≤ g ∧ v.ownBlock ≠ some g) v xs) ∧ Hid (Rb wr R (l.drop k)) ∧ Hid (Mod (· = R) w wr) ∧ Hid (Tb wr) ∧ Hid (list p l = onto xs k (many p (n - j) (l.drop k)))) (fun _ i _ => n - (intOf i).toNat)
  case atStart => exact ⟨0, i0, [], by omega, rfl, rfl, Y (OwnL.nil _ _ _ _), Y HR1.out, Y HM1.out, Y HT1.out, Y (by rw [HL.out, Nat.sub_zero])⟩
  case round =>
   obtain ⟨j, k, xs, hj, rfl, hxl, HO, HR, HM, HT, HE⟩ := hrel
   by_cases hjn : j < n
   ·have hji : (j : Int) < (n : Int) := by omega
    obtain ⟨d, hd⟩ : ∃ d, n - j = d + 1 := ⟨n - j - 1, by omega⟩
    rw [hd] at HE
    have hd' : n - (j + 1) = d := by omega
    have HD := Y hd'
    have HXL := Y hxl
    have HP := Y (HPP.out (l.drop k) wr HR.out HT.out)
    clear hd hd' hxl
    cases hx : p (l.drop k) with
    | error e0 =>
     rw [hx] at HP
     have HS := Y (aR (n := d) hx)
     clear hx
     go_wp2_with (go_at_call 69; refine HP.out.mono ?_; rintro e w2 ⟨rfl, hm⟩)
     rw [HE.out, HS.out]
     exact ⟨rfl, rfl, HM.out.trans hm (fun _ _ h => h)⟩
    | ok q =>
     obtain ⟨x, k1⟩ := q
     rw [hx] at HP
     have HS := Y (bD (n := d) hx)
     have hw : IntKind.u32.wrap ((j : Int) + 1) = ((j + 1 : Nat) : Int) := by rw [IntWalk.u32_in _ (by omega)]; omega
     clear hx
     go_upto_region 5 with (first | (go_at_call 69; refine HP.out.mono ?_; rintro e w2 ⟨v, rfl, ht, hr2, hm2⟩; obtain ⟨cs, rfl, hcs⟩ := ht; have ht := hcs; obtain ⟨u1, u2, rfl, ⟨A1, c1, rfl, _⟩, ⟨A2, c2, rfl, _⟩⟩ := hcs; have hrep := ht; have hsz2 := hm2.size; have hlt := HLT.out; have hov : ∀ g, u5.ownBlock = some g → ¬ g = R := (fun g hg e => by have := (HO.out.lt g hg).1; omega); have hO2 : OwnL 50 w2 w.heap.size (fun g => w.heap.size ≤ g ∧ u5.ownBlock ≠ some g) u5 xs := HO.out.mod hm2 hov (fun g _ hg e => by have := hg.1; omega); obtain ⟨v5, w5, hrun, hO5, hM5, hT5⟩ := append1L undFT infFT (by decide) rfl (by decide) w2 w.heap.size (fun g => w.heap.size ≤ g ∧ u5.ownBlock ≠ some g) u5 xs x [.slice A1 x.params.length c1, .slice A2 x.results.length c2] hO2 (by have := HXL.out; omega) (by have := HM.out.size; omega) (Lay.more hrep (fun g hg h => ⟨by have := HM.out.size; omega, fun e => by have := (HO.out.lt g e).2; omega⟩)) (by simp [Value.oneCell']) (fun g _ h => h.2); have HRUN := Y hrun; have HO5 := Y hO5; have HM5 := Y hM5; have HR2 := Y hr2; have HM2 := Y hm2; have HOV := Y hov; clear hrun hO5 hM5 hT5 hr2 hm2 hO2 hrep ht hov) | (at_builtin; refine aa rfl (.tmp 10) (.tmp 14) 22 rfl _ _ _ w5 rfl rfl HRUN.out ?_))
     go_wp2_with fail
     go_roundw
     case rel =>
      have hlt := HLT.out
      have hM2' := HM.out.trans HM2.out (fun _ _ h => h)
      refine ⟨j + 1, k + k1, xs ++ [x], by omega, by go_num, by rw [List.length_append, HXL.out]; rfl, Y (HO5.out.more (fun g _ h => ⟨h.1.1, h.2⟩)), Y ?_, Y ?_, Y ?_, Y ?_⟩
      ·have := HR2.out
       rw [List.drop_drop] at this
       exact this.keep HM5.out (fun g hg e => by have := (HO.out.lt g e).1; omega)
      ·exact hM2'.trans HM5.out (fun g hg e => by have := (HO.out.lt g e).1; omega)
      ·exact (HT.out.rb HR.out HM2.out).mod HM5.out (fun g hg e => by have := (HO.out.lt g e).1; have := HRR.out.two; omega)
      ·rw [HE.out, HS.out, aI, List.drop_drop, HD.out]
     case measure => simp [intOf]; omega
   ·obtain rfl : n = j := by omega
    go_wp2_with fail
    go_ret
    have hE := HE.out
    rw [Nat.sub_self, aQ] at hE
    rw [hE]
    exact ⟨_, rfl, HO.out.tell (fun g h => h.1), HR.out, HM.out⟩
theorem imps_any (p : P Imp) (R : Nat) (l : List UInt8) (w : World) (hR : Rb w R l) (hT : Tb w) (hp : ∀ l' W, Rb W R l' → Tb W → Calls Tryz.prog 71 #[.pointer (some ⟨R, 0, none⟩)] W (ap R W l' (p l') (bI W.heap.size))) :
  Calls Tryz.prog 70 #[.pointer (some ⟨R, 0, none⟩), .func (.func 71) #[] #[]] w (ap R w l (list p l) fun w' xs v => J w' (w.heap.size ≤ ·) xs v) := by
 have HLT := Y hR.lt
 have HRR := Y hR
 have HTT := Y hT
 have HPP := Y hp
 have HN := Y (ar R l w hR)
 clear hR hT hp
 cases hn : num l with
 | error e0 =>
  rw [aS hn]
  rw [hn] at HN
  clear hn
  go_enter Tryz.func70, Tryz.ntmps70
  go_wp2_with (go_at_call 73; refine HN.out.mono ?_; rintro e w1 ⟨rfl, hm⟩)
  exact ⟨rfl, rfl, hm⟩
 | ok q =>
  obtain ⟨n, i0⟩ := q
  have HL := Y (bC (p := p) hn)
  rw [hn] at HN
  clear hn
  go_enter Tryz.func70, Tryz.ntmps70
  go_upto_region 3 with (go_at_call 73; refine HN.out.mono ?_; rintro e w1 ⟨v, rfl, ⟨rfl, hnlt⟩, hr, hm⟩; have HR1 := Y hr; have HM1 := Y hm; clear hr hm)
  have HT1 := Y (HTT.out.rb HRR.out HM1.out)
  have HS1 := Y HM1.out.size
  go_loopw [5, 8] (fun v i wr => ∃ (j k : Nat) (xs : List Imp), j ≤ n ∧ i = .int .u32 (j : Int) ∧ xs.length = j ∧ Hid (OwnL 61 wr w.heap.size (fun g => w.heap.size ≤ g ∧ v.ownBlock ≠ some g) v xs) ∧ Hid (Rb wr R (l.drop k)) ∧ Hid (Mod (· = R) w wr) ∧ Hid (Tb wr) ∧ Hid (list p l = onto xs k (many p (n - j) (l.drop k)))) (fun _ i _ => n - (intOf i).toNat)
  case atStart => exact ⟨0, i0, [], by omega, rfl, rfl, Y (OwnL.nil _ _ _ _), Y HR1.out, Y HM1.out, Y HT1.out, Y (by rw [HL.out, Nat.sub_zero])⟩
  case round =>
   obtain ⟨j, k, xs, hj, rfl, hxl, HO, HR, HM, HT, HE⟩ := hrel
   by_cases hjn : j < n
   ·have hji : (j : Int) < (n : Int) := by omega
    obtain ⟨d, hd⟩ : ∃ d, n - j = d + 1 := ⟨n - j - 1, by omega⟩
    rw [hd] at HE
    have hd' : n - (j + 1) = d := by omega
    have HD := Y hd'
    have HXL := Y hxl
    have HP := Y (HPP.out (l.drop k) wr HR.out HT.out)
    clear hd hd' hxl
    cases hx : p (l.drop k) with
    | error e0 =>
     rw [hx] at HP
     have HS := Y (aR (n := d) hx)
     clear hx
     go_wp2_with (go_at_call 71; refine HP.out.mono ?_; rintro e w2 ⟨rfl, hm⟩)
     rw [HE.out, HS.out]
     exact ⟨rfl, rfl, HM.out.trans hm (fun _ _ h => h)⟩
    | ok q =>
     obtain ⟨x, k1⟩ := q
     rw [hx] at HP
     have HS := Y (bD (n := d) hx)
     have hw : IntKind.u32.wrap ((j : Int) + 1) = ((j + 1 : Nat) : Int) := by rw [IntWalk.u32_in _ (by omega)]; omega
     clear hx
     go_upto_region 5 with (first | (go_at_call 71; refine HP.out.mono ?_; rintro e w2 ⟨v, rfl, ht, hr2, hm2⟩; obtain ⟨cs, rfl, hcs⟩ := ht; have ht := hcs; obtain rfl : cs = [strV x.mod, strV x.name, .int .u8 (x.kind.toNat : Int), .int .u32 (x.type : Int), .int .u32 (x.lim.min : Int), .int .i64 x.lim.max, .int .u8 (x.glob.t.toNat : Int), .bool x.glob.mu] := hcs.1; unfold strV at ht ⊢; have hrep := ht; have hsz2 := hm2.size; have hlt := HLT.out; have hov : ∀ g, u5.ownBlock = some g → ¬ g = R := (fun g hg e => by have := (HO.out.lt g hg).1; omega); have hO2 : OwnL 61 w2 w.heap.size (fun g => w.heap.size ≤ g ∧ u5.ownBlock ≠ some g) u5 xs := HO.out.mod hm2 hov (fun g _ hg e => by have := hg.1; omega); obtain ⟨v5, w5, hrun, hO5, hM5, hT5⟩ := append1L undImp infImp (by decide) rfl (by decide) w2 w.heap.size (fun g => w.heap.size ≤ g ∧ u5.ownBlock ≠ some g) u5 xs x [.string ⟨x.mod.toArray⟩, .string ⟨x.name.toArray⟩, .int .u8 (x.kind.toNat : Int), .int .u32 (x.type : Int), .int .u32 (x.lim.min : Int), .int .i64 x.lim.max, .int .u8 (x.glob.t.toNat : Int), .bool x.glob.mu] hO2 (by have := HXL.out; omega) (by have := HM.out.size; omega) (Lay.more hrep (fun g hg h => ⟨by have := HM.out.size; omega, fun e => by have := (HO.out.lt g e).2; omega⟩)) (by simp [Value.oneCell']) (fun g _ h => h.2); have HRUN := Y hrun; have HO5 := Y hO5; have HM5 := Y hM5; have HR2 := Y hr2; have HM2 := Y hm2; have HOV := Y hov; clear hrun hO5 hM5 hT5 hr2 hm2 hO2 hrep ht hov) | (at_builtin; refine aa rfl (.tmp 10) (.tmp 14) 23 rfl _ _ _ w5 rfl rfl HRUN.out ?_))
     go_wp2_with fail
     go_roundw
     case rel =>
      have hlt := HLT.out
      have hM2' := HM.out.trans HM2.out (fun _ _ h => h)
      refine ⟨j + 1, k + k1, xs ++ [x], by omega, by go_num, by rw [List.length_append, HXL.out]; rfl, Y (HO5.out.more (fun g _ h => ⟨h.1.1, h.2⟩)), Y ?_, Y ?_, Y ?_, Y ?_⟩
      ·have := HR2.out
       rw [List.drop_drop] at this
       exact this.keep HM5.out (fun g hg e => by have := (HO.out.lt g e).1; omega)
      ·exact hM2'.trans HM5.out (fun g hg e => by have := (HO.out.lt g e).1; omega)
      ·exact (HT.out.rb HR.out HM2.out).mod HM5.out (fun g hg e => by have := (HO.out.lt g e).1; have := HRR.out.two; omega)
      ·rw [HE.out, HS.out, aI, List.drop_drop, HD.out]
     case measure => simp [intOf]; omega
   ·obtain rfl : n = j := by omega
    go_wp2_with fail
    go_ret
    have hE := HE.out
    rw [Nat.sub_self, aQ] at hE
    rw [hE]
    exact ⟨_, rfl, HO.out.tell (fun g h => h.1), HR.out, HM.out⟩
theorem gvs_any (p : P GV) (R : Nat) (l : List UInt8) (w : World) (hR : Rb w R l) (hT : Tb w) (hp : ∀ l' W, Rb W R l' → Tb W → Calls Tryz.prog 78 #[.pointer (some ⟨R, 0, none⟩)] W (ap R W l' (p l') (bI W.heap.size))) :
  Calls Tryz.prog 77 #[.pointer (some ⟨R, 0, none⟩), .func (.func 78) #[] #[]] w (ap R w l (list p l) fun w' xs v => J w' (w.heap.size ≤ ·) xs v) := by
 have HLT := Y hR.lt
 have HRR := Y hR
 have HTT := Y hT
 have HPP := Y hp
 have HN := Y (ar R l w hR)
 clear hR hT hp
 cases hn : num l with
 | error e0 =>
  rw [aS hn]
  rw [hn] at HN
  clear hn
  go_enter Tryz.func77, Tryz.ntmps77
  go_wp2_with (go_at_call 73; refine HN.out.mono ?_; rintro e w1 ⟨rfl, hm⟩)
  exact ⟨rfl, rfl, hm⟩
 | ok q =>
  obtain ⟨n, i0⟩ := q
  have HL := Y (bC (p := p) hn)
  rw [hn] at HN
  clear hn
  go_enter Tryz.func77, Tryz.ntmps77
  go_upto_region 3 with (go_at_call 73; refine HN.out.mono ?_; rintro e w1 ⟨v, rfl, ⟨rfl, hnlt⟩, hr, hm⟩; have HR1 := Y hr; have HM1 := Y hm; clear hr hm)
  have HT1 := Y (HTT.out.rb HRR.out HM1.out)
  have HS1 := Y HM1.out.size
  go_loopw [5, 8] (fun v i wr => ∃ (j k : Nat) (xs : List GV), j ≤ n ∧ i = .int .u32 (j : Int) ∧ xs.length = j ∧ Hid (OwnL 63 wr w.heap.size (fun g => w.heap.size ≤ g ∧ v.ownBlock ≠ some g) v xs) ∧ Hid (Rb wr R (l.drop k)) ∧ Hid (Mod (· = R) w wr) ∧ Hid (Tb wr) ∧ Hid (list p l = onto xs k (many p (n - j) (l.drop k)))) (fun _ i _ => n - (intOf i).toNat)
  case atStart => exact ⟨0, i0, [], by omega, rfl, rfl, Y (OwnL.nil _ _ _ _), Y HR1.out, Y HM1.out, Y HT1.out, Y (by rw [HL.out, Nat.sub_zero])⟩
  case round =>
   obtain ⟨j, k, xs, hj, rfl, hxl, HO, HR, HM, HT, HE⟩ := hrel
   by_cases hjn : j < n
   ·have hji : (j : Int) < (n : Int) := by omega
    obtain ⟨d, hd⟩ : ∃ d, n - j = d + 1 := ⟨n - j - 1, by omega⟩
    rw [hd] at HE
    have hd' : n - (j + 1) = d := by omega
    have HD := Y hd'
    have HXL := Y hxl
    have HP := Y (HPP.out (l.drop k) wr HR.out HT.out)
    clear hd hd' hxl
    cases hx : p (l.drop k) with
    | error e0 =>
     rw [hx] at HP
     have HS := Y (aR (n := d) hx)
     clear hx
     go_wp2_with (go_at_call 78; refine HP.out.mono ?_; rintro e w2 ⟨rfl, hm⟩)
     rw [HE.out, HS.out]
     exact ⟨rfl, rfl, HM.out.trans hm (fun _ _ h => h)⟩
    | ok q =>
     obtain ⟨x, k1⟩ := q
     rw [hx] at HP
     have HS := Y (bD (n := d) hx)
     have hw : IntKind.u32.wrap ((j : Int) + 1) = ((j + 1 : Nat) : Int) := by rw [IntWalk.u32_in _ (by omega)]; omega
     clear hx
     go_upto_region 5 with (first | (go_at_call 78; refine HP.out.mono ?_; rintro e w2 ⟨v, rfl, ht, hr2, hm2⟩; obtain ⟨cs, rfl, hcs⟩ := ht; have ht := hcs; obtain ⟨u1, rfl, ⟨A1, c1, rfl, _⟩⟩ := hcs; have hrep := ht; have hsz2 := hm2.size; have hlt := HLT.out; have hov : ∀ g, u5.ownBlock = some g → ¬ g = R := (fun g hg e => by have := (HO.out.lt g hg).1; omega); have hO2 : OwnL 63 w2 w.heap.size (fun g => w.heap.size ≤ g ∧ u5.ownBlock ≠ some g) u5 xs := HO.out.mod hm2 hov (fun g _ hg e => by have := hg.1; omega); obtain ⟨v5, w5, hrun, hO5, hM5, hT5⟩ := append1L undGV infGV (by decide) rfl (by decide) w2 w.heap.size (fun g => w.heap.size ≤ g ∧ u5.ownBlock ≠ some g) u5 xs x [.int .u8 (x.type.t.toNat : Int), .bool x.type.mu, .slice A1 x.init.length c1] hO2 (by have := HXL.out; omega) (by have := HM.out.size; omega) (Lay.more hrep (fun g hg h => ⟨by have := HM.out.size; omega, fun e => by have := (HO.out.lt g e).2; omega⟩)) (by simp [Value.oneCell']) (fun g _ h => h.2); have HRUN := Y hrun; have HO5 := Y hO5; have HM5 := Y hM5; have HR2 := Y hr2; have HM2 := Y hm2; have HOV := Y hov; clear hrun hO5 hM5 hT5 hr2 hm2 hO2 hrep ht hov) | (at_builtin; refine aa rfl (.tmp 10) (.tmp 14) 26 rfl _ _ _ w5 rfl rfl HRUN.out ?_))
     go_wp2_with fail
     go_roundw
     case rel =>
      have hlt := HLT.out
      have hM2' := HM.out.trans HM2.out (fun _ _ h => h)
      refine ⟨j + 1, k + k1, xs ++ [x], by omega, by go_num, by rw [List.length_append, HXL.out]; rfl, Y (HO5.out.more (fun g _ h => ⟨h.1.1, h.2⟩)), Y ?_, Y ?_, Y ?_, Y ?_⟩
      ·have := HR2.out
       rw [List.drop_drop] at this
       exact this.keep HM5.out (fun g hg e => by have := (HO.out.lt g e).1; omega)
      ·exact hM2'.trans HM5.out (fun g hg e => by have := (HO.out.lt g e).1; omega)
      ·exact (HT.out.rb HR.out HM2.out).mod HM5.out (fun g hg e => by have := (HO.out.lt g e).1; have := HRR.out.two; omega)
      ·rw [HE.out, HS.out, aI, List.drop_drop, HD.out]
     case measure => simp [intOf]; omega
   ·obtain rfl : n = j := by omega
    go_wp2_with fail
    go_ret
    have hE := HE.out
    rw [Nat.sub_self, aQ] at hE
    rw [hE]
    exact ⟨_, rfl, HO.out.tell (fun g h => h.1), HR.out, HM.out⟩
theorem exps_any (p : P Exp) (R : Nat) (l : List UInt8) (w : World) (hR : Rb w R l) (hT : Tb w) (hp : ∀ l' W, Rb W R l' → Tb W → Calls Tryz.prog 80 #[.pointer (some ⟨R, 0, none⟩)] W (ap R W l' (p l') (bI W.heap.size))) :
  Calls Tryz.prog 79 #[.pointer (some ⟨R, 0, none⟩), .func (.func 80) #[] #[]] w (ap R w l (list p l) fun w' xs v => J w' (w.heap.size ≤ ·) xs v) := by
 have HLT := Y hR.lt
 have HRR := Y hR
 have HTT := Y hT
 have HPP := Y hp
 have HN := Y (ar R l w hR)
 clear hR hT hp
 cases hn : num l with
 | error e0 =>
  rw [aS hn]
  rw [hn] at HN
  clear hn
  go_enter Tryz.func79, Tryz.ntmps79
  go_wp2_with (go_at_call 73; refine HN.out.mono ?_; rintro e w1 ⟨rfl, hm⟩)
  exact ⟨rfl, rfl, hm⟩
 | ok q =>
  obtain ⟨n, i0⟩ := q
  have HL := Y (bC (p := p) hn)
  rw [hn] at HN
  clear hn
  go_enter Tryz.func79, Tryz.ntmps79
  go_upto_region 3 with (go_at_call 73; refine HN.out.mono ?_; rintro e w1 ⟨v, rfl, ⟨rfl, hnlt⟩, hr, hm⟩; have HR1 := Y hr; have HM1 := Y hm; clear hr hm)
  have HT1 := Y (HTT.out.rb HRR.out HM1.out)
  have HS1 := Y HM1.out.size
  go_loopw [5, 8] (fun v i wr => ∃ (j k : Nat) (xs : List Exp), j ≤ n ∧ i = .int .u32 (j : Int) ∧ xs.length = j ∧ Hid (OwnL 66 wr w.heap.size (fun g => w.heap.size ≤ g ∧ v.ownBlock ≠ some g) v xs) ∧ Hid (Rb wr R (l.drop k)) ∧ Hid (Mod (· = R) w wr) ∧ Hid (Tb wr) ∧ Hid (list p l = onto xs k (many p (n - j) (l.drop k)))) (fun _ i _ => n - (intOf i).toNat)
  case atStart => exact ⟨0, i0, [], by omega, rfl, rfl, Y (OwnL.nil _ _ _ _), Y HR1.out, Y HM1.out, Y HT1.out, Y (by rw [HL.out, Nat.sub_zero])⟩
  case round =>
   obtain ⟨j, k, xs, hj, rfl, hxl, HO, HR, HM, HT, HE⟩ := hrel
   by_cases hjn : j < n
   ·have hji : (j : Int) < (n : Int) := by omega
    obtain ⟨d, hd⟩ : ∃ d, n - j = d + 1 := ⟨n - j - 1, by omega⟩
    rw [hd] at HE
    have hd' : n - (j + 1) = d := by omega
    have HD := Y hd'
    have HXL := Y hxl
    have HP := Y (HPP.out (l.drop k) wr HR.out HT.out)
    clear hd hd' hxl
    cases hx : p (l.drop k) with
    | error e0 =>
     rw [hx] at HP
     have HS := Y (aR (n := d) hx)
     clear hx
     go_wp2_with (go_at_call 80; refine HP.out.mono ?_; rintro e w2 ⟨rfl, hm⟩)
     rw [HE.out, HS.out]
     exact ⟨rfl, rfl, HM.out.trans hm (fun _ _ h => h)⟩
    | ok q =>
     obtain ⟨x, k1⟩ := q
     rw [hx] at HP
     have HS := Y (bD (n := d) hx)
     have hw : IntKind.u32.wrap ((j : Int) + 1) = ((j + 1 : Nat) : Int) := by rw [IntWalk.u32_in _ (by omega)]; omega
     clear hx
     go_upto_region 5 with (first | (go_at_call 80; refine HP.out.mono ?_; rintro e w2 ⟨v, rfl, ht, hr2, hm2⟩; obtain ⟨cs, rfl, hcs⟩ := ht; have ht := hcs; obtain rfl : cs = [strV x.name, .int .u8 (x.kind.toNat : Int), .int .u32 (x.index : Int)] := hcs.1; unfold strV at ht ⊢; have hrep := ht; have hsz2 := hm2.size; have hlt := HLT.out; have hov : ∀ g, u5.ownBlock = some g → ¬ g = R := (fun g hg e => by have := (HO.out.lt g hg).1; omega); have hO2 : OwnL 66 w2 w.heap.size (fun g => w.heap.size ≤ g ∧ u5.ownBlock ≠ some g) u5 xs := HO.out.mod hm2 hov (fun g _ hg e => by have := hg.1; omega); obtain ⟨v5, w5, hrun, hO5, hM5, hT5⟩ := append1L undExp infExp (by decide) rfl (by decide) w2 w.heap.size (fun g => w.heap.size ≤ g ∧ u5.ownBlock ≠ some g) u5 xs x [.string ⟨x.name.toArray⟩, .int .u8 (x.kind.toNat : Int), .int .u32 (x.index : Int)] hO2 (by have := HXL.out; omega) (by have := HM.out.size; omega) (Lay.more hrep (fun g hg h => ⟨by have := HM.out.size; omega, fun e => by have := (HO.out.lt g e).2; omega⟩)) (by simp [Value.oneCell']) (fun g _ h => h.2); have HRUN := Y hrun; have HO5 := Y hO5; have HM5 := Y hM5; have HR2 := Y hr2; have HM2 := Y hm2; have HOV := Y hov; clear hrun hO5 hM5 hT5 hr2 hm2 hO2 hrep ht hov) | (at_builtin; refine aa rfl (.tmp 10) (.tmp 14) 27 rfl _ _ _ w5 rfl rfl HRUN.out ?_))
     go_wp2_with fail
     go_roundw
     case rel =>
      have hlt := HLT.out
      have hM2' := HM.out.trans HM2.out (fun _ _ h => h)
      refine ⟨j + 1, k + k1, xs ++ [x], by omega, by go_num, by rw [List.length_append, HXL.out]; rfl, Y (HO5.out.more (fun g _ h => ⟨h.1.1, h.2⟩)), Y ?_, Y ?_, Y ?_, Y ?_⟩
      ·have := HR2.out
       rw [List.drop_drop] at this
       exact this.keep HM5.out (fun g hg e => by have := (HO.out.lt g e).1; omega)
      ·exact hM2'.trans HM5.out (fun g hg e => by have := (HO.out.lt g e).1; omega)
      ·exact (HT.out.rb HR.out HM2.out).mod HM5.out (fun g hg e => by have := (HO.out.lt g e).1; have := HRR.out.two; omega)
      ·rw [HE.out, HS.out, aI, List.drop_drop, HD.out]
     case measure => simp [intOf]; omega
   ·obtain rfl : n = j := by omega
    go_wp2_with fail
    go_ret
    have hE := HE.out
    rw [Nat.sub_self, aQ] at hE
    rw [hE]
    exact ⟨_, rfl, HO.out.tell (fun g h => h.1), HR.out, HM.out⟩
theorem els_any (p : P El) (R : Nat) (l : List UInt8) (w : World) (hR : Rb w R l) (hT : Tb w) (hp : ∀ l' W, Rb W R l' → Tb W → Calls Tryz.prog 82 #[.pointer (some ⟨R, 0, none⟩)] W (ap R W l' (p l') (bI W.heap.size))) :
  Calls Tryz.prog 81 #[.pointer (some ⟨R, 0, none⟩), .func (.func 82) #[] #[]] w (ap R w l (list p l) fun w' xs v => J w' (w.heap.size ≤ ·) xs v) := by
 have HLT := Y hR.lt
 have HRR := Y hR
 have HTT := Y hT
 have HPP := Y hp
 have HN := Y (ar R l w hR)
 clear hR hT hp
 cases hn : num l with
 | error e0 =>
  rw [aS hn]
  rw [hn] at HN
  clear hn
  go_enter Tryz.func81, Tryz.ntmps81
  go_wp2_with (go_at_call 73; refine HN.out.mono ?_; rintro e w1 ⟨rfl, hm⟩)
  exact ⟨rfl, rfl, hm⟩
 | ok q =>
  obtain ⟨n, i0⟩ := q
  have HL := Y (bC (p := p) hn)
  rw [hn] at HN
  clear hn
  go_enter Tryz.func81, Tryz.ntmps81
  go_upto_region 3 with (go_at_call 73; refine HN.out.mono ?_; rintro e w1 ⟨v, rfl, ⟨rfl, hnlt⟩, hr, hm⟩; have HR1 := Y hr; have HM1 := Y hm; clear hr hm)
  have HT1 := Y (HTT.out.rb HRR.out HM1.out)
  have HS1 := Y HM1.out.size
  go_loopw [5, 8] (fun v i wr => ∃ (j k : Nat) (xs : List El), j ≤ n ∧ i = .int .u32 (j : Int) ∧ xs.length = j ∧ Hid (OwnL 69 wr w.heap.size (fun g => w.heap.size ≤ g ∧ v.ownBlock ≠ some g) v xs) ∧ Hid (Rb wr R (l.drop k)) ∧ Hid (Mod (· = R) w wr) ∧ Hid (Tb wr) ∧ Hid (list p l = onto xs k (many p (n - j) (l.drop k)))) (fun _ i _ => n - (intOf i).toNat)
  case atStart => exact ⟨0, i0, [], by omega, rfl, rfl, Y (OwnL.nil _ _ _ _), Y HR1.out, Y HM1.out, Y HT1.out, Y (by rw [HL.out, Nat.sub_zero])⟩
  case round =>
   obtain ⟨j, k, xs, hj, rfl, hxl, HO, HR, HM, HT, HE⟩ := hrel
   by_cases hjn : j < n
   ·have hji : (j : Int) < (n : Int) := by omega
    obtain ⟨d, hd⟩ : ∃ d, n - j = d + 1 := ⟨n - j - 1, by omega⟩
    rw [hd] at HE
    have hd' : n - (j + 1) = d := by omega
    have HD := Y hd'
    have HXL := Y hxl
    have HP := Y (HPP.out (l.drop k) wr HR.out HT.out)
    clear hd hd' hxl
    cases hx : p (l.drop k) with
    | error e0 =>
     rw [hx] at HP
     have HS := Y (aR (n := d) hx)
     clear hx
     go_wp2_with (go_at_call 82; refine HP.out.mono ?_; rintro e w2 ⟨rfl, hm⟩)
     rw [HE.out, HS.out]
     exact ⟨rfl, rfl, HM.out.trans hm (fun _ _ h => h)⟩
    | ok q =>
     obtain ⟨x, k1⟩ := q
     rw [hx] at HP
     have HS := Y (bD (n := d) hx)
     have hw : IntKind.u32.wrap ((j : Int) + 1) = ((j + 1 : Nat) : Int) := by rw [IntWalk.u32_in _ (by omega)]; omega
     clear hx
     go_upto_region 5 with (first | (go_at_call 82; refine HP.out.mono ?_; rintro e w2 ⟨v, rfl, ht, hr2, hm2⟩; obtain ⟨cs, rfl, hcs⟩ := ht; have ht := hcs; obtain ⟨u1, u2, rfl, _, ⟨A1, c1, rfl, _⟩, ⟨A2, c2, rfl, _⟩⟩ := hcs; have hrep := ht; have hsz2 := hm2.size; have hlt := HLT.out; have hov : ∀ g, u5.ownBlock = some g → ¬ g = R := (fun g hg e => by have := (HO.out.lt g hg).1; omega); have hO2 : OwnL 69 w2 w.heap.size (fun g => w.heap.size ≤ g ∧ u5.ownBlock ≠ some g) u5 xs := HO.out.mod hm2 hov (fun g _ hg e => by have := hg.1; omega); obtain ⟨v5, w5, hrun, hO5, hM5, hT5⟩ := append1L undEl infEl (by decide) rfl (by decide) w2 w.heap.size (fun g => w.heap.size ≤ g ∧ u5.ownBlock ≠ some g) u5 xs x [.int .u32 (x.table : Int), .slice A1 x.off.length c1, .slice A2 x.funcs.length c2] hO2 (by have := HXL.out; omega) (by have := HM.out.size; omega) (Lay.more hrep (fun g hg h => ⟨by have := HM.out.size; omega, fun e => by have := (HO.out.lt g e).2; omega⟩)) (by simp [Value.oneCell']) (fun g _ h => h.2); have HRUN := Y hrun; have HO5 := Y hO5; have HM5 := Y hM5; have HR2 := Y hr2; have HM2 := Y hm2; have HOV := Y hov; clear hrun hO5 hM5 hT5 hr2 hm2 hO2 hrep ht hov) | (at_builtin; refine aa rfl (.tmp 10) (.tmp 14) 29 rfl _ _ _ w5 rfl rfl HRUN.out ?_))
     go_wp2_with fail
     go_roundw
     case rel =>
      have hlt := HLT.out
      have hM2' := HM.out.trans HM2.out (fun _ _ h => h)
      refine ⟨j + 1, k + k1, xs ++ [x], by omega, by go_num, by rw [List.length_append, HXL.out]; rfl, Y (HO5.out.more (fun g _ h => ⟨h.1.1, h.2⟩)), Y ?_, Y ?_, Y ?_, Y ?_⟩
      ·have := HR2.out
       rw [List.drop_drop] at this
       exact this.keep HM5.out (fun g hg e => by have := (HO.out.lt g e).1; omega)
      ·exact hM2'.trans HM5.out (fun g hg e => by have := (HO.out.lt g e).1; omega)
      ·exact (HT.out.rb HR.out HM2.out).mod HM5.out (fun g hg e => by have := (HO.out.lt g e).1; have := HRR.out.two; omega)
      ·rw [HE.out, HS.out, aI, List.drop_drop, HD.out]
     case measure => simp [intOf]; omega
   ·obtain rfl : n = j := by omega
    go_wp2_with fail
    go_ret
    have hE := HE.out
    rw [Nat.sub_self, aQ] at hE
    rw [hE]
    exact ⟨_, rfl, HO.out.tell (fun g h => h.1), HR.out, HM.out⟩
theorem cds_any (p : P Cd) (R : Nat) (l : List UInt8) (w : World) (hR : Rb w R l) (hT : Tb w) (hp : ∀ l' W, Rb W R l' → Tb W → Calls Tryz.prog 84 #[.pointer (some ⟨R, 0, none⟩)] W (ap R W l' (p l') (bI W.heap.size))) :
  Calls Tryz.prog 83 #[.pointer (some ⟨R, 0, none⟩), .func (.func 84) #[] #[]] w (ap R w l (list p l) fun w' xs v => J w' (w.heap.size ≤ ·) xs v) := by
 have HLT := Y hR.lt
 have HRR := Y hR
 have HTT := Y hT
 have HPP := Y hp
 have HN := Y (ar R l w hR)
 clear hR hT hp
 cases hn : num l with
 | error e0 =>
  rw [aS hn]
  rw [hn] at HN
  clear hn
  go_enter Tryz.func83, Tryz.ntmps83
  go_wp2_with (go_at_call 73; refine HN.out.mono ?_; rintro e w1 ⟨rfl, hm⟩)
  exact ⟨rfl, rfl, hm⟩
 | ok q =>
  obtain ⟨n, i0⟩ := q
  have HL := Y (bC (p := p) hn)
  rw [hn] at HN
  clear hn
  go_enter Tryz.func83, Tryz.ntmps83
  go_upto_region 3 with (go_at_call 73; refine HN.out.mono ?_; rintro e w1 ⟨v, rfl, ⟨rfl, hnlt⟩, hr, hm⟩; have HR1 := Y hr; have HM1 := Y hm; clear hr hm)
  have HT1 := Y (HTT.out.rb HRR.out HM1.out)
  have HS1 := Y HM1.out.size
  go_loopw [5, 8] (fun v i wr => ∃ (j k : Nat) (xs : List Cd), j ≤ n ∧ i = .int .u32 (j : Int) ∧ xs.length = j ∧ Hid (OwnL 54 wr w.heap.size (fun g => w.heap.size ≤ g ∧ v.ownBlock ≠ some g) v xs) ∧ Hid (Rb wr R (l.drop k)) ∧ Hid (Mod (· = R) w wr) ∧ Hid (Tb wr) ∧ Hid (list p l = onto xs k (many p (n - j) (l.drop k)))) (fun _ i _ => n - (intOf i).toNat)
  case atStart => exact ⟨0, i0, [], by omega, rfl, rfl, Y (OwnL.nil _ _ _ _), Y HR1.out, Y HM1.out, Y HT1.out, Y (by rw [HL.out, Nat.sub_zero])⟩
  case round =>
   obtain ⟨j, k, xs, hj, rfl, hxl, HO, HR, HM, HT, HE⟩ := hrel
   by_cases hjn : j < n
   ·have hji : (j : Int) < (n : Int) := by omega
    obtain ⟨d, hd⟩ : ∃ d, n - j = d + 1 := ⟨n - j - 1, by omega⟩
    rw [hd] at HE
    have hd' : n - (j + 1) = d := by omega
    have HD := Y hd'
    have HXL := Y hxl
    have HP := Y (HPP.out (l.drop k) wr HR.out HT.out)
    clear hd hd' hxl
    cases hx : p (l.drop k) with
    | error e0 =>
     rw [hx] at HP
     have HS := Y (aR (n := d) hx)
     clear hx
     go_wp2_with (go_at_call 84; refine HP.out.mono ?_; rintro e w2 ⟨rfl, hm⟩)
     rw [HE.out, HS.out]
     exact ⟨rfl, rfl, HM.out.trans hm (fun _ _ h => h)⟩
    | ok q =>
     obtain ⟨x, k1⟩ := q
     rw [hx] at HP
     have HS := Y (bD (n := d) hx)
     have hw : IntKind.u32.wrap ((j : Int) + 1) = ((j + 1 : Nat) : Int) := by rw [IntWalk.u32_in _ (by omega)]; omega
     clear hx
     go_upto_region 5 with (first | (go_at_call 84; refine HP.out.mono ?_; rintro e w2 ⟨v, rfl, ht, hr2, hm2⟩; obtain ⟨cs, rfl, hcs⟩ := ht; have ht := hcs; obtain ⟨u1, u2, rfl, ⟨A1, c1, rfl, _⟩, ⟨A2, c2, rfl, _⟩⟩ := hcs; have hrep := ht; have hsz2 := hm2.size; have hlt := HLT.out; have hov : ∀ g, u5.ownBlock = some g → ¬ g = R := (fun g hg e => by have := (HO.out.lt g hg).1; omega); have hO2 : OwnL 54 w2 w.heap.size (fun g => w.heap.size ≤ g ∧ u5.ownBlock ≠ some g) u5 xs := HO.out.mod hm2 hov (fun g _ hg e => by have := hg.1; omega); obtain ⟨v5, w5, hrun, hO5, hM5, hT5⟩ := append1L undCd infCd (by decide) rfl (by decide) w2 w.heap.size (fun g => w.heap.size ≤ g ∧ u5.ownBlock ≠ some g) u5 xs x [.slice A1 x.locals.length c1, .slice A2 x.body.length c2] hO2 (by have := HXL.out; omega) (by have := HM.out.size; omega) (Lay.more hrep (fun g hg h => ⟨by have := HM.out.size; omega, fun e => by have := (HO.out.lt g e).2; omega⟩)) (by simp [Value.oneCell']) (fun g _ h => h.2); have HRUN := Y hrun; have HO5 := Y hO5; have HM5 := Y hM5; have HR2 := Y hr2; have HM2 := Y hm2; have HOV := Y hov; clear hrun hO5 hM5 hT5 hr2 hm2 hO2 hrep ht hov) | (at_builtin; refine aa rfl (.tmp 10) (.tmp 14) 30 rfl _ _ _ w5 rfl rfl HRUN.out ?_))
     go_wp2_with fail
     go_roundw
     case rel =>
      have hlt := HLT.out
      have hM2' := HM.out.trans HM2.out (fun _ _ h => h)
      refine ⟨j + 1, k + k1, xs ++ [x], by omega, by go_num, by rw [List.length_append, HXL.out]; rfl, Y (HO5.out.more (fun g _ h => ⟨h.1.1, h.2⟩)), Y ?_, Y ?_, Y ?_, Y ?_⟩
      ·have := HR2.out
       rw [List.drop_drop] at this
       exact this.keep HM5.out (fun g hg e => by have := (HO.out.lt g e).1; omega)
      ·exact hM2'.trans HM5.out (fun g hg e => by have := (HO.out.lt g e).1; omega)
      ·exact (HT.out.rb HR.out HM2.out).mod HM5.out (fun g hg e => by have := (HO.out.lt g e).1; have := HRR.out.two; omega)
      ·rw [HE.out, HS.out, aI, List.drop_drop, HD.out]
     case measure => simp [intOf]; omega
   ·obtain rfl : n = j := by omega
    go_wp2_with fail
    go_ret
    have hE := HE.out
    rw [Nat.sub_self, aQ] at hE
    rw [hE]
    exact ⟨_, rfl, HO.out.tell (fun g h => h.1), HR.out, HM.out⟩
theorem das_any (p : P Da) (R : Nat) (l : List UInt8) (w : World) (hR : Rb w R l) (hT : Tb w) (hp : ∀ l' W, Rb W R l' → Tb W → Calls Tryz.prog 86 #[.pointer (some ⟨R, 0, none⟩)] W (ap R W l' (p l') (bI W.heap.size))) :
  Calls Tryz.prog 85 #[.pointer (some ⟨R, 0, none⟩), .func (.func 86) #[] #[]] w (ap R w l (list p l) fun w' xs v => J w' (w.heap.size ≤ ·) xs v) := by
 have HLT := Y hR.lt
 have HRR := Y hR
 have HTT := Y hT
 have HPP := Y hp
 have HN := Y (ar R l w hR)
 clear hR hT hp
 cases hn : num l with
 | error e0 =>
  rw [aS hn]
  rw [hn] at HN
  clear hn
  go_enter Tryz.func85, Tryz.ntmps85
  go_wp2_with (go_at_call 73; refine HN.out.mono ?_; rintro e w1 ⟨rfl, hm⟩)
  exact ⟨rfl, rfl, hm⟩
 | ok q =>
  obtain ⟨n, i0⟩ := q
  have HL := Y (bC (p := p) hn)
  rw [hn] at HN
  clear hn
  go_enter Tryz.func85, Tryz.ntmps85
  go_upto_region 3 with (go_at_call 73; refine HN.out.mono ?_; rintro e w1 ⟨v, rfl, ⟨rfl, hnlt⟩, hr, hm⟩; have HR1 := Y hr; have HM1 := Y hm; clear hr hm)
  have HT1 := Y (HTT.out.rb HRR.out HM1.out)
  have HS1 := Y HM1.out.size
  go_loopw [5, 8] (fun v i wr => ∃ (j k : Nat) (xs : List Da), j ≤ n ∧ i = .int .u32 (j : Int) ∧ xs.length = j ∧ Hid (OwnL 71 wr w.heap.size (fun g => w.heap.size ≤ g ∧ v.ownBlock ≠ some g) v xs) ∧ Hid (Rb wr R (l.drop k)) ∧ Hid (Mod (· = R) w wr) ∧ Hid (Tb wr) ∧ Hid (list p l = onto xs k (many p (n - j) (l.drop k)))) (fun _ i _ => n - (intOf i).toNat)
  case atStart => exact ⟨0, i0, [], by omega, rfl, rfl, Y (OwnL.nil _ _ _ _), Y HR1.out, Y HM1.out, Y HT1.out, Y (by rw [HL.out, Nat.sub_zero])⟩
  case round =>
   obtain ⟨j, k, xs, hj, rfl, hxl, HO, HR, HM, HT, HE⟩ := hrel
   by_cases hjn : j < n
   ·have hji : (j : Int) < (n : Int) := by omega
    obtain ⟨d, hd⟩ : ∃ d, n - j = d + 1 := ⟨n - j - 1, by omega⟩
    rw [hd] at HE
    have hd' : n - (j + 1) = d := by omega
    have HD := Y hd'
    have HXL := Y hxl
    have HP := Y (HPP.out (l.drop k) wr HR.out HT.out)
    clear hd hd' hxl
    cases hx : p (l.drop k) with
    | error e0 =>
     rw [hx] at HP
     have HS := Y (aR (n := d) hx)
     clear hx
     go_wp2_with (go_at_call 86; refine HP.out.mono ?_; rintro e w2 ⟨rfl, hm⟩)
     rw [HE.out, HS.out]
     exact ⟨rfl, rfl, HM.out.trans hm (fun _ _ h => h)⟩
    | ok q =>
     obtain ⟨x, k1⟩ := q
     rw [hx] at HP
     have HS := Y (bD (n := d) hx)
     have hw : IntKind.u32.wrap ((j : Int) + 1) = ((j + 1 : Nat) : Int) := by rw [IntWalk.u32_in _ (by omega)]; omega
     clear hx
     go_upto_region 5 with (first | (go_at_call 86; refine HP.out.mono ?_; rintro e w2 ⟨v, rfl, ht, hr2, hm2⟩; obtain ⟨cs, rfl, hcs⟩ := ht; have ht := hcs; obtain ⟨u1, u2, rfl, _, ⟨A1, c1, rfl, _⟩, ⟨A2, c2, rfl, _⟩⟩ := hcs; have hrep := ht; have hsz2 := hm2.size; have hlt := HLT.out; have hov : ∀ g, u5.ownBlock = some g → ¬ g = R := (fun g hg e => by have := (HO.out.lt g hg).1; omega); have hO2 : OwnL 71 w2 w.heap.size (fun g => w.heap.size ≤ g ∧ u5.ownBlock ≠ some g) u5 xs := HO.out.mod hm2 hov (fun g _ hg e => by have := hg.1; omega); obtain ⟨v5, w5, hrun, hO5, hM5, hT5⟩ := append1L undDa infDa (by decide) rfl (by decide) w2 w.heap.size (fun g => w.heap.size ≤ g ∧ u5.ownBlock ≠ some g) u5 xs x [.int .u32 (x.mem : Int), .slice A1 x.off.length c1, .slice A2 x.b.length c2] hO2 (by have := HXL.out; omega) (by have := HM.out.size; omega) (Lay.more hrep (fun g hg h => ⟨by have := HM.out.size; omega, fun e => by have := (HO.out.lt g e).2; omega⟩)) (by simp [Value.oneCell']) (fun g _ h => h.2); have HRUN := Y hrun; have HO5 := Y hO5; have HM5 := Y hM5; have HR2 := Y hr2; have HM2 := Y hm2; have HOV := Y hov; clear hrun hO5 hM5 hT5 hr2 hm2 hO2 hrep ht hov) | (at_builtin; refine aa rfl (.tmp 10) (.tmp 14) 31 rfl _ _ _ w5 rfl rfl HRUN.out ?_))
     go_wp2_with fail
     go_roundw
     case rel =>
      have hlt := HLT.out
      have hM2' := HM.out.trans HM2.out (fun _ _ h => h)
      refine ⟨j + 1, k + k1, xs ++ [x], by omega, by go_num, by rw [List.length_append, HXL.out]; rfl, Y (HO5.out.more (fun g _ h => ⟨h.1.1, h.2⟩)), Y ?_, Y ?_, Y ?_, Y ?_⟩
      ·have := HR2.out
       rw [List.drop_drop] at this
       exact this.keep HM5.out (fun g hg e => by have := (HO.out.lt g e).1; omega)
      ·exact hM2'.trans HM5.out (fun g hg e => by have := (HO.out.lt g e).1; omega)
      ·exact (HT.out.rb HR.out HM2.out).mod HM5.out (fun g hg e => by have := (HO.out.lt g e).1; have := HRR.out.two; omega)
      ·rw [HE.out, HS.out, aI, List.drop_drop, HD.out]
     case measure => simp [intOf]; omega
   ·obtain rfl : n = j := by omega
    go_wp2_with fail
    go_ret
    have hE := HE.out
    rw [Nat.sub_self, aQ] at hE
    rw [hE]
    exact ⟨_, rfl, HO.out.tell (fun g h => h.1), HR.out, HM.out⟩
theorem locs_any (p : P Lc) (R : Nat) (l : List UInt8) (w : World) (hR : Rb w R l) (hT : Tb w) (hp : ∀ l' W, Rb W R l' → Tb W → Calls Tryz.prog 142 #[.pointer (some ⟨R, 0, none⟩)] W (ap R W l' (p l') (bI W.heap.size))) :
  Calls Tryz.prog 141 #[.pointer (some ⟨R, 0, none⟩), .func (.func 142) #[] #[]] w (ap R w l (list p l) fun w' xs v => J w' (w.heap.size ≤ ·) xs v) := by
 have HLT := Y hR.lt
 have HRR := Y hR
 have HTT := Y hT
 have HPP := Y hp
 have HN := Y (ar R l w hR)
 clear hR hT hp
 cases hn : num l with
 | error e0 =>
  rw [aS hn]
  rw [hn] at HN
  clear hn
  go_enter Tryz.func141, Tryz.ntmps141
  go_wp2_with (go_at_call 73; refine HN.out.mono ?_; rintro e w1 ⟨rfl, hm⟩)
  exact ⟨rfl, rfl, hm⟩
 | ok q =>
  obtain ⟨n, i0⟩ := q
  have HL := Y (bC (p := p) hn)
  rw [hn] at HN
  clear hn
  go_enter Tryz.func141, Tryz.ntmps141
  go_upto_region 3 with (go_at_call 73; refine HN.out.mono ?_; rintro e w1 ⟨v, rfl, ⟨rfl, hnlt⟩, hr, hm⟩; have HR1 := Y hr; have HM1 := Y hm; clear hr hm)
  have HT1 := Y (HTT.out.rb HRR.out HM1.out)
  have HS1 := Y HM1.out.size
  go_loopw [5, 8] (fun v i wr => ∃ (j k : Nat) (xs : List Lc), j ≤ n ∧ i = .int .u32 (j : Int) ∧ xs.length = j ∧ Hid (OwnL 121 wr w.heap.size (fun g => w.heap.size ≤ g ∧ v.ownBlock ≠ some g) v xs) ∧ Hid (Rb wr R (l.drop k)) ∧ Hid (Mod (· = R) w wr) ∧ Hid (Tb wr) ∧ Hid (list p l = onto xs k (many p (n - j) (l.drop k)))) (fun _ i _ => n - (intOf i).toNat)
  case atStart => exact ⟨0, i0, [], by omega, rfl, rfl, Y (OwnL.nil _ _ _ _), Y HR1.out, Y HM1.out, Y HT1.out, Y (by rw [HL.out, Nat.sub_zero])⟩
  case round =>
   obtain ⟨j, k, xs, hj, rfl, hxl, HO, HR, HM, HT, HE⟩ := hrel
   by_cases hjn : j < n
   ·have hji : (j : Int) < (n : Int) := by omega
    obtain ⟨d, hd⟩ : ∃ d, n - j = d + 1 := ⟨n - j - 1, by omega⟩
    rw [hd] at HE
    have hd' : n - (j + 1) = d := by omega
    have HD := Y hd'
    have HXL := Y hxl
    have HP := Y (HPP.out (l.drop k) wr HR.out HT.out)
    clear hd hd' hxl
    cases hx : p (l.drop k) with
    | error e0 =>
     rw [hx] at HP
     have HS := Y (aR (n := d) hx)
     clear hx
     go_wp2_with (go_at_call 142; refine HP.out.mono ?_; rintro e w2 ⟨rfl, hm⟩)
     rw [HE.out, HS.out]
     exact ⟨rfl, rfl, HM.out.trans hm (fun _ _ h => h)⟩
    | ok q =>
     obtain ⟨x, k1⟩ := q
     rw [hx] at HP
     have HS := Y (bD (n := d) hx)
     have hw : IntKind.u32.wrap ((j : Int) + 1) = ((j + 1 : Nat) : Int) := by rw [IntWalk.u32_in _ (by omega)]; omega
     clear hx
     go_upto_region 5 with (first | (go_at_call 142; refine HP.out.mono ?_; rintro e w2 ⟨v, rfl, ht, hr2, hm2⟩; obtain ⟨cs, rfl, hcs⟩ := ht; have ht := hcs; obtain rfl : cs = [.int .u32 (x.n : Int), .int .u8 (x.t.toNat : Int)] := hcs.1; have hrep := ht; have hsz2 := hm2.size; have hlt := HLT.out; have hov : ∀ g, u5.ownBlock = some g → ¬ g = R := (fun g hg e => by have := (HO.out.lt g hg).1; omega); have hO2 : OwnL 121 w2 w.heap.size (fun g => w.heap.size ≤ g ∧ u5.ownBlock ≠ some g) u5 xs := HO.out.mod hm2 hov (fun g _ hg e => by have := hg.1; omega); obtain ⟨v5, w5, hrun, hO5, hM5, hT5⟩ := append1L undLc infLc (by decide) rfl (by decide) w2 w.heap.size (fun g => w.heap.size ≤ g ∧ u5.ownBlock ≠ some g) u5 xs x [.int .u32 (x.n : Int), .int .u8 (x.t.toNat : Int)] hO2 (by have := HXL.out; omega) (by have := HM.out.size; omega) (Lay.more hrep (fun g hg h => ⟨by have := HM.out.size; omega, fun e => by have := (HO.out.lt g e).2; omega⟩)) (by simp [Value.oneCell']) (fun g _ h => h.2); have HRUN := Y hrun; have HO5 := Y hO5; have HM5 := Y hM5; have HR2 := Y hr2; have HM2 := Y hm2; have HOV := Y hov; clear hrun hO5 hM5 hT5 hr2 hm2 hO2 hrep ht hov) | (at_builtin; refine aa rfl (.tmp 10) (.tmp 14) 51 rfl _ _ _ w5 rfl rfl HRUN.out ?_))
     go_wp2_with fail
     go_roundw
     case rel =>
      have hlt := HLT.out
      have hM2' := HM.out.trans HM2.out (fun _ _ h => h)
      refine ⟨j + 1, k + k1, xs ++ [x], by omega, by go_num, by rw [List.length_append, HXL.out]; rfl, Y (HO5.out.more (fun g _ h => ⟨h.1.1, h.2⟩)), Y ?_, Y ?_, Y ?_, Y ?_⟩
      ·have := HR2.out
       rw [List.drop_drop] at this
       exact this.keep HM5.out (fun g hg e => by have := (HO.out.lt g e).1; omega)
      ·exact hM2'.trans HM5.out (fun g hg e => by have := (HO.out.lt g e).1; omega)
      ·exact (HT.out.rb HR.out HM2.out).mod HM5.out (fun g hg e => by have := (HO.out.lt g e).1; have := HRR.out.two; omega)
      ·rw [HE.out, HS.out, aI, List.drop_drop, HD.out]
     case measure => simp [intOf]; omega
   ·obtain rfl : n = j := by omega
    go_wp2_with fail
    go_ret
    have hE := HE.out
    rw [Nat.sub_self, aQ] at hE
    rw [hE]
    exact ⟨_, rfl, HO.out.tell (fun g h => h.1), HR.out, HM.out⟩
end Go.Proofs.YthkglmkpnhhboaaGreatDoor
