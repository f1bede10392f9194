/-
  The document's Join: the bytes of sections, in a row of the call's own; or that they may not be. (gen/secrjoin.py)
-/
import Derived.Test.YtgnbkfkiigcdgaaGreatDoorQ01
import Derived.Test.YtgnbkfkiigcdgaaGreatDoorQ25
import Derived.Deep.CutRange
import Derived.Test.YtgnbkfkiigcdgaaGreatDoorQ26
set_option maxRecDepth 100000
set_option maxHeartbeats 4000000
namespace Sec
open Leb
theorem bJ (a b : List S) : encAll (a ++ b) = encAll a ++ encAll b := by simp [encAll]
theorem cP {xs : List S} {j : Nat} {x : S} (h : xs[j]? = some x) : encAll (xs.take (j + 1)) = encAll (xs.take j) ++ enc x := by
 rw [List.take_add_one, h, bJ]; simp [encAll]
theorem eY (xs : List S) (j : Nat) : (encAll (xs.take j)).length ≤ (encAll xs).length := by
 have h : encAll xs = encAll (xs.take j) ++ encAll (xs.drop j) := by rw [← bJ, List.take_append_drop]
 rw [h, List.length_append]; omega
theorem fi : ∀ (xs : List S), 2 * xs.length ≤ (encAll xs).length
 | [] => by simp [encAll]
 | x :: xs => by
  have h1 := fi xs
  have h2 := encU_pos x.b.length
  have e : encAll (x :: xs) = enc x ++ encAll xs := by simp [encAll]
  rw [e, List.length_append, List.length_cons]
  simp only [enc, List.length_cons, List.length_append]
  omega
theorem rises_take {xs : List S} {j : Nat} {x : S} (h : xs[j]? = some x) : rises 0 (xs.take (j + 1)) = (rises 0 (xs.take j) && (decide (lastId 0 (xs.take j) < x.id) && decide (x.id ≤ 11))) := by
 rw [List.take_add_one, h, Option.toList_some, cI]
 simp [rises]
theorem fO {xs : List S} {j : Nat} (h : rises 0 (xs.take j) = false) : rises 0 xs = false := by
 have e : xs = xs.take j ++ xs.drop j := (List.take_append_drop j xs).symm
 rw [e, cI, h]; rfl
theorem dp : ∀ (a b : List S) (k : Nat), lastId k (a ++ b) = lastId (lastId k a) b
 | [], b, k => rfl
 | s :: a, b, k => by simp only [List.cons_append, lastId]; exact dp a b s.id
theorem lastId_take {xs : List S} {j : Nat} {x : S} (h : xs[j]? = some x) : lastId 0 (xs.take (j + 1)) = x.id := by
 rw [List.take_add_one, h, Option.toList_some, dp]; rfl
end Sec
namespace Go.Proofs.YtgnbkfkiigcdgaaGreatDoor
open Go.RowKit Sec
theorem full_adds (w : World) (base m c : Nat) (a0 a : Addr) (l1 l2 : List UInt8) (h1 : Has w w.heap.size (some a0) l1) (h2 : Has w w.heap.size (some a) l2) (hm : m = l2.length) (h0 : 0 < m) (h00 : 0 < l1.length) (hsz : l1.length + m ≤ 140737488355328) (hb : base ≤ w.heap.size) :
  ∃ v' w', (Builtin.append_ #[36, 36] 36 #[.slice (some a0) l1.length l1.length, .slice (some a) m c]).run Tryz.prog w = .ok v' w' ∧ w'.ownsRow base 5 1 v' (l1 ++ l2).length (bytesOf (l1 ++ l2)) ∧ Below w.heap.size w w' ∧ ∀ g, v'.ownBlock = some g → w.heap.size ≤ g := by
 obtain ⟨i0, hi, hz0, hz1, hz2⟩ := info_parts info5
 have cells : ∀ (ad : Addr) (l : List UInt8), Has w w.heap.size (some ad) l → 0 < l.length → ∀ j u, (bytesOf l)[j]? = some u → w.cell? (ad.add j) = some u := fun ad l h hl j u hu => by
  obtain ⟨ad', e, hc⟩ := h.cells (by rw [am]; exact hl)
  injection e with e
  subst e
  exact hc j u hu
 have hlen : (l1 ++ l2).length = l1.length + m := by rw [List.length_append, hm]
 have h63 : l1.length + m ≤ maxLen := by unfold maxLen; omega
 have hr := run_append_grow (P := Tryz.prog) w 36 36 5 i0 (.int .u8 0) und22 hi hz0 a0 l1.length l1.length (bytesOf l1) (by rw [am, hz1, Nat.mul_one]) (cells a0 l1 h1 h00) a m c (bytesOf l2) (by rw [am, hz1, Nat.mul_one, hm]) (cells a l2 h2 (by omega)) (by omega) (by omega) (growslice_fits (by omega) (by rw [hz2, Nat.mul_one]; exact hsz))
 refine ⟨_, _, hr, ?_, (Below.drew (Below.refl _ _)).alloc (Nat.le_refl _) _, fun g hg => by simp [Value.ownBlock] at hg; omega⟩
 have hge := grownCap_ge w (l1.length + m) l1.length 5
 have hcm := grownCap_le_maxLen w (l1.length + m) l1.length 5 h63
 rw [hlen]
 refine ⟨by rw [am, hlen, Nat.mul_one], .inr ⟨w.heap.size, _, _, rfl, hb, heap_alloc_new w.drew _, hge, hcm, ?_, ?_⟩⟩
 ·simp only [Array.size_append, List.size_toArray, size_zeroCells, am]
  rw [← hm, show (Value.int IntKind.u8 0).cells.size = 1 from rfl]
  omega
 ·simp only [Array.toList_append]
  rw [← aC, Nat.mul_one, ← hlen, ← am (l1 ++ l2)]
  exact List.take_left
def OutR (base g : Nat) (w : World) (v : Value) (l : List UInt8) : Prop :=
 w.ownsRow base 5 1 v l.length (bytesOf l) ∨ (v = .slice (some ⟨g, 0, none⟩) 8 8 ∧ l = begin8 ∧ Has w w.heap.size (some ⟨g, 0, none⟩) begin8 ∧ base ≤ g)
theorem OutR.on {base g : Nat} {w w' : World} {v : Value} {l : List UInt8} (h : OutR base g w v l) (hb : Below w.heap.size w w') : OutR base g w' v l := by
 rcases h with h | ⟨h1, h2, h3, h4⟩
 ·exact .inl ((Mod.of_below (T := fun _ => False) hb).own h (fun _ _ h => h))
 ·exact .inr ⟨h1, h2, h3.on hb, h4⟩
theorem OutR.blk {base g : Nat} {w : World} {v : Value} {l : List UInt8} (h : OutR base g w v l) : ∀ k, v.ownBlock = some k → base ≤ k := fun k hk => by
 rcases h with h | ⟨rfl, _, _, h4⟩
 ·exact av h k hk
 ·have : g = k := by simpa [Value.ownBlock] using hk
  omega
theorem OutR.lt {base g : Nat} {w : World} {v : Value} {l : List UInt8} (h : OutR base g w v l) : ∀ k, v.ownBlock = some k → k < w.heap.size := fun k hk => by
 rcases h with h | ⟨rfl, _, h3, _⟩
 ·exact own_lt h k hk
 ·have e : g = k := by simpa [Value.ownBlock] using hk
  obtain ⟨ad, e1, e2, _⟩ := h3 0 0 rfl
  injection e1 with e1
  subst e1
  subst e
  exact e2
theorem ie (w : World) (base g : Nat) (v : Value) (l : List UInt8) (x : UInt8) (h : OutR base g w v l) (hsz : l.length + 1 ≤ 140737488355328) (hb : base ≤ w.heap.size) :
  ∃ v' w', (Builtin.append_ #[36, 36] 36 #[v, .slice (some ⟨w.heap.size, 0, none⟩) 1 1]).run Tryz.prog (w.alloc (.cells #[.int .u8 (x.toNat : Int)] 5)) = .ok v' w' ∧ Adds base w v w' v' (l ++ [x]) := by
 rcases h with h | ⟨rfl, rfl, h3, h4⟩
 ·exact ao w base v l x h hsz hb
 ·have hb1 : Below w.heap.size w (w.alloc (.cells #[.int .u8 (x.toNat : Int)] 5)) := (Below.refl _ _).alloc (Nat.le_refl _) _
  have hlit : Has (w.alloc (.cells #[.int .u8 (x.toNat : Int)] 5)) (w.heap.size + 1) (some ⟨w.heap.size, 0, none⟩) [x] := Has.lit w [x] 5
  obtain ⟨v', w', hr, ho, hbw, hg⟩ := full_adds (w.alloc (.cells #[.int .u8 (x.toNat : Int)] 5)) base 1 1 ⟨g, 0, none⟩ ⟨w.heap.size, 0, none⟩ begin8 [x] (h3.on hb1) (hlit.more (by simp)) rfl (by omega) (by decide) (by simpa using hsz) (Nat.le_trans hb hb1.size)
  refine ⟨v', w', hr, ho, Mod.more (Mod.of_below (T := fun _ => False) (hb1.trans (hbw.mono hb1.size))) (fun _ _ h => h.elim), fun k hk => .inr ?_⟩
  have := hg k hk
  simp at this
  omega
theorem jPost_no {xs : List S} {w w' : World} {A : Option Addr} {c : Nat} (h : rises 0 xs = false) (hb : Below w.heap.size w w') : JPost xs w (.returned (.tuple #[.slice A 0 c, .int .i64 2])) w' := ⟨hb, by rw [h]; exact ⟨A, c, rfl⟩⟩
theorem jPost_yes {xs : List S} {base g : Nat} {v : Value} {w w' : World} (h : rises 0 xs = true) (hb : Below w.heap.size w w') (ho : OutR base g w' v (join xs)) : JPost xs w (.returned (.tuple #[v, .int .i64 0])) w' := by
 refine ⟨hb, ?_⟩
 rw [if_pos h]
 rcases ho with ho | ⟨rfl, h2, h3, _⟩
 ·obtain ⟨A, c, rfl, _, h2, h3, h4, h5⟩ := bG ho
  exact ⟨A, c, rfl, h2, h3, h4, h5⟩
 ·rw [h2]
  exact ⟨_, 8, rfl, by decide, by unfold maxLen; omega, by simp, h3⟩
theorem join_ok : gM := by
 intro A xs n c w hX hn hnc hcm hsz
 have kc := fun (w : World) (C : Array Value) (n c : Nat) => Lib.run_convert_bytes_const (P := Tryz.prog) w 36 5 C n c und22 und5
 have hlen := fi xs
 have hjl : (join xs).length = 8 + (encAll xs).length := by simp [join, begin8]; omega
 have hn2 : n ≤ 140737488355328 := by omega
 have HTL := Y (fun j => eY xs j)
 have HSZ : Hid (8 + (encAll xs).length ≤ 140737488355328) := Y (by omega)
 have HX := Y (fun W (hb : Below w.heap.size w W) => hX.on hb)
 have HN := Y hn
 have HX0 := Y hX
 clear hX hn hlen hjl hsz
 go_enter Tryz.func16, Tryz.ntmps16
 go_wp2_with (go_at_call 26; refine (fv _).mono ?_; rintro e w1 ⟨rfl, hc1, hb1, hs1⟩; have HCL := Y hc1; have HB1 := Y hb1; have HS1 := Y hs1; clear hc1 hb1 hs1)
 have HGE : Hid (w.heap.size ≤ w.heap.size) := Y (Nat.le_refl _)
 obtain ⟨g, hg⟩ : ∃ g, g = w.heap.size := ⟨_, rfl⟩
 rw [← hg] at HCL
 rw [← hg]
 have HS1' : Hid (g < w1.heap.size) := Y (by rw [hg]; exact HS1.out)
 have HG := Y hg
 clear hg HGE HS1
 go_loopw [13] (fun i wr => ∃ j : Nat, j ≤ n ∧ i = .int .i64 (j : Int) ∧ Hid (Cl wr g (lastId 0 (xs.take j))) ∧ Hid (rises 0 (xs.take j) = true) ∧ Hid (Below w.heap.size w wr) ∧ Hid (g < wr.heap.size)) (fun i _ => n - (intOf i).toNat)
 case atStart => exact ⟨0, by omega, rfl, HCL, Y rfl, HB1, HS1'⟩
 case round =>
  clear HCL HB1 HS1'
  obtain ⟨j, hj, rfl, HCL, HR, HB, HGS⟩ := hrel
  by_cases hjn : j < n
  ·obtain ⟨x, hx⟩ : ∃ x, xs[j]? = some x := ⟨_, List.getElem?_eq_getElem (by have := HN.out; omega)⟩
   obtain ⟨ga, oo, A4, c4, rfl, hgB, hid4, hlc, hcm4, hA4, hh, k0', k1'⟩ := HX0.out j x hx
   have k0 := (HB.out.cell (p := ⟨ga, oo + j * 2, none⟩) hgB).trans k0'
   have k1 := (HB.out.cell (p := ⟨ga, oo + j * 2 + 1, none⟩) hgB).trans k1'
   have hji : (j : Int) < (n : Int) := by omega
   have HRT := Y (rises_take hx)
   have HLT := Y (lastId_take hx)
   clear hh k0' k1' hlc hcm4 hA4 hx
   obtain ⟨xi, xb⟩ := x
   simp only at k0 k1 hid4
   generalize xb.length = q at k1
   simp only at HRT HLT
   obtain ⟨k, hk⟩ : ∃ k, lastId 0 (xs.take j) = k := ⟨_, rfl⟩
   rw [hk] at HRT HCL
   rw [HR.out, Bool.true_and] at HRT
   clear hk
   have HC1 := Y (fun o => em xi k g (wr.alloc o) hid4 (HCL.out.mod (T := fun _ => False) ((Mod.refl _ _).alloc o) (fun h => h)))
   have HB2 := Y (fun o => HB.out.alloc HB.out.size o)
   by_cases hok : k < xi ∧ xi ≤ 11
   ·have hob : (decide (k < xi) && decide (xi ≤ 11)) = true := by simp; omega
    rw [hob] at HC1 HRT
    simp only [if_pos hok] at HC1
    clear hob hok
    go_wp2_with (go_at_call 46; refine (HC1.out _).mono ?_; rintro e w3 ⟨rfl, hm3, hc3⟩; have HCL3 := Y hc3; have HB3 := Y ((HB2.out _).trans (hm3.below (HB2.out _).size (fun b hb e => by have := HG.out; omega))); have HGS3 : Hid (g < w3.heap.size) := Y (Nat.lt_of_lt_of_le HGS.out (Nat.le_trans (by simp) hm3.size)); clear hm3 hc3)
    go_roundw
    case rel => exact ⟨j + 1, by omega, by go_num, Y (by rw [HLT.out]; exact HCL3.out), HRT, HB3, HGS3⟩
    case measure => simp [intOf]; omega
   ·have hob : (decide (k < xi) && decide (xi ≤ 11)) = false := by simp; omega
    rw [hob] at HC1 HRT
    have HNO := Y (fO HRT.out)
    clear hob hok
    go_wp2_with (go_at_call 46; refine (HC1.out _).mono ?_; rintro e w3 ⟨rfl, hm3, hc3⟩; have HB3 := Y ((HB2.out _).trans (hm3.below (HB2.out _).size (fun b hb e => by have := HG.out; omega))); clear hm3 hc3)
    go_ret2
    exact jPost_no HNO.out HB3.out
  ·obtain rfl : n = j := by omega
   have hall : xs.take n = xs := by rw [HN.out, List.take_length]
   have HRA : Hid (rises 0 xs = true) := Y (by rw [← hall]; exact HR.out)
   have HM : Hid (OutR w.heap.size wr.heap.size (wr.alloc (.cells (bytesOf begin8).toArray 5 (8, 9))) (.slice (some ⟨wr.heap.size, 0, none⟩) 8 8) begin8) := Y (.inr ⟨rfl, rfl, Has.mark wr begin8 5 (8, 9), HB.out.size⟩)
   have HB2 := Y (fun o => HB.out.alloc HB.out.size o)
   clear hall HCL HR hj hjn HGS
   go_wp2_with fail
   obtain ⟨g2, hg2⟩ : ∃ g2, wr.heap.size = g2 := ⟨_, rfl⟩
   rw [hg2] at HM ⊢
   clear hg2
   have HBS : Hid (Below w.heap.size w (wr.alloc (.cells (bytesOf begin8).toArray 5 (8, 9)))) := Y (HB2.out _)
   clear HB2 HB
   go_loopw [7, 27] (fun u i wr => ∃ (j : Nat) (done : List UInt8), j ≤ n ∧ i = .int .i64 (j : Int) ∧ Hid (done = begin8 ++ encAll (xs.take j)) ∧ Hid (OutR w.heap.size g2 wr u done) ∧ Hid (Below w.heap.size w wr)) (fun _ i _ => n - (intOf i).toNat)
   case atStart => exact ⟨0, begin8, by omega, rfl, Y (by simp [encAll]), HM, HBS⟩
   case round =>
    clear HM HBS
    obtain ⟨j, done, hj, rfl, HD, HO, HB⟩ := hrel
    by_cases hjn : j < n
    ·obtain ⟨x, hx⟩ : ∃ x, xs[j]? = some x := ⟨_, List.getElem?_eq_getElem (by have := HN.out; omega)⟩
     obtain ⟨ga, oo, A4, c4, rfl, hgB, hid4, hlc, hcm4, hA4, hh, k0', k1'⟩ := HX0.out j x hx
     have k0 := (HB.out.cell (p := ⟨ga, oo + j * 2, none⟩) hgB).trans k0'
     have k1 := (HB.out.cell (p := ⟨ga, oo + j * 2 + 1, none⟩) hgB).trans k1'
     have hji : (j : Int) < (n : Int) := by omega
     have HEA := Y (cP hx)
     have hxl := HTL.out (j + 1)
     rw [HEA.out, List.length_append] at hxl
     have HHB := Y (fun W (hb : Below w.heap.size w W) => hh.on hb)
     have HSZD : Hid (done.length + (enc x).length ≤ 140737488355328) := Y (by rw [HD.out, List.length_append]; have h8 : begin8.length = 8 := rfl; have := HSZ.out; omega)
     have HENC : Hid ((enc x).length = 1 + (Leb.encU x.b.length).length + x.b.length ∧ done ++ [UInt8.ofNat x.id] ++ Leb.encU x.b.length ++ x.b = done ++ enc x) := Y ⟨by simp [enc]; omega, by simp [enc]⟩
     clear hh k0' k1' hx hxl
     obtain ⟨xi, xb⟩ := x
     simp only at k0 k1 hid4 HHB HENC hlc
     obtain ⟨q, hq⟩ : ∃ q, xb.length = q := ⟨_, rfl⟩
     have HQ := Y hq
     rw [hq] at k1 hlc HENC
     clear hq
     have hq47 : q ≤ 140737488355328 := by have := HSZD.out; have := HENC.out.1; omega
     have hqw : IntKind.u64.wrap (q : Int) = (q : Int) := IntWalk.u64_in _ (by omega)
     have hws := HB.out.size
     have hb3 : Below wr.heap.size wr (wr.alloc (.cells #[.int .u8 (xi : Int), .slice A4 q c4] 48)) := (Below.refl _ _).alloc (Nat.le_refl _) _
     have HX3 : Hid ((wr.alloc (.cells #[.int .u8 (xi : Int), .slice A4 q c4] 48)).heap[wr.heap.size]? = some (.cells #[.int .u8 (xi : Int), .slice A4 q c4] 48 (0, 0))) := Y (heap_alloc_new wr _)
     obtain ⟨v4, w4, hr4, ha4⟩ := ie _ w.heap.size g2 u7 done (UInt8.ofNat xi) (HO.out.on hb3) (by have := HSZD.out; have := HENC.out.1; omega) (Nat.le_trans hws hb3.size)
     rw [byteN xi hid4] at hr4
     have HR4 := Y hr4
     have HA4 := Y ha4
     have HB3 := Y (HB.out.trans (hb3.mono hws))
     have HB4 := Y (HB3.out.trans (ha4.below HO.out.blk HB3.out.size))
     have HLT := Y (HO.out.lt)
     have HX4 := Y (ha4.2.1.heap HX3.out (fun e => by have := HO.out.lt _ e; omega))
     have HV4 : Hid (∀ b, v4.ownBlock = some b → b ≠ wr.heap.size) := Y (fun b hb e => by
      rcases ha4.2.2 b hb with h | h
      ·have := HO.out.lt _ h; omega
      ·simp at h; omega)
     have HV4b : Hid (∀ b, v4.ownBlock = some b → w.heap.size ≤ b) := Y (av ha4.1)
     clear hr4 ha4 hb3
     obtain ⟨z40, z41⟩ := cells2 HX4.out
     go_upto_region 12 with fail
     generalize wr.alloc (.cells #[.int .u8 (xi : Int), .slice A4 q c4] 48) = w3 at HX3 HR4 HA4 HB3 ⊢
     obtain ⟨z30, z31⟩ := cells2 HX3.out
     go_wp2_with (first | (at_builtin; refine ab rfl (.tmp 31) (.tmp 34) 36 rfl _ _ _ w4 rfl rfl HR4.out ?_) | (go_at_call 31; refine (c11 none [] 0 0 q _ rfl (by omega) (Has.nil _ _ _) (by omega)).mono ?_; rintro e w5 ⟨v5, rfl, ho5, hb5⟩; simp only [Nat.zero_add, List.nil_append] at ho5; obtain ⟨A5, c5, rfl, h51, hn5, hh5⟩ := Has.own ho5; obtain ⟨v6, w6, hr6, ha6⟩ := aT w5 w.heap.size (Leb.encU q).length c5 v4 (done ++ [UInt8.ofNat xi]) (Leb.encU q) A5 ((Mod.of_below (T := fun _ => False) hb5).own HA4.out.1 (fun _ _ h => h)) hh5 hn5 (by have := HSZD.out; have := HENC.out.1; simp; omega) (Nat.le_trans HB4.out.size hb5.size); have HR6 := Y hr6; have HA6 := Y ha6; have HB5 := Y (HB4.out.trans (hb5.mono HB4.out.size)); have HB6 := Y (HB5.out.trans (ha6.below HV4b.out HB5.out.size)); have HX6 := Y (ha6.2.1.heap ((hb5.block _ (Array.getElem?_eq_some_iff.1 HX4.out).1).trans HX4.out) (fun e => HV4.out _ e rfl)); clear hr6 ha6 ho5 hb5 hh5; obtain ⟨z60, z61⟩ := cells2 HX6.out; obtain ⟨v7, w7, hr7, ha7⟩ := aT w6 w.heap.size q c4 v6 (done ++ [UInt8.ofNat xi] ++ Leb.encU q) xb A4 HA6.out.1 (HHB.out _ HB6.out) HQ.out.symm (by have := HSZD.out; have := HENC.out.1; have := HQ.out; simp; omega) HB6.out.size; have HR7 := Y hr7; have HA7 := Y ha7; clear hr7 ha7) | (at_builtin; refine ab rfl (.tmp 36) (.tmp 41) 36 rfl _ _ _ w6 rfl rfl HR6.out ?_) | (at_builtin; refine ab rfl (.tmp 43) (.tmp 45) 36 rfl _ _ _ w7 rfl rfl HR7.out ?_))
     go_roundw
     case rel => exact ⟨j + 1, _, by omega, by go_num, Y (by rw [HEA.out, ← List.append_assoc, ← HD.out]; exact HENC.out.2), Y (.inl HA7.out.1), Y (HB6.out.trans (HA7.out.below (av HA6.out.1) HB6.out.size))⟩
     case measure => simp [intOf]; omega
    ·obtain rfl : n = j := by omega
     have hall : xs.take n = xs := by rw [HN.out, List.take_length]
     have HFIN : Hid (JPost xs w (.returned (.tuple #[u7, .int .i64 0])) wr) := Y (jPost_yes HRA.out HB.out (by have h := HO.out; rw [HD.out, hall] at h; exact h))
     clear hall
     go_wp2_with fail
     go_ret2
     exact HFIN.out
end Go.Proofs.YtgnbkfkiigcdgaaGreatDoor
