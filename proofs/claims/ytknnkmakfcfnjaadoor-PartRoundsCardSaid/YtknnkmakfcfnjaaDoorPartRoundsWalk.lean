/-
  The statement PartRounds, walked. (gen/part/rounds.py)
-/
import Derived.Test.YtknnkmakfcfnjaaDoorPaRd
namespace Go.Proofs.YtknnkmakfcfnjaaDoor
open Go.RowKit Ins
set_option maxRecDepth 100000 in
set_option maxHeartbeats 4000000 in
theorem partRounds_any (hp : PartsOk) (he : PEndsOk) (xs : List I) (S : Nat → Prop) (A : Option Addr) (n c : Nat) (w : World) (hn : n = xs.length) (hs : n ≤ 140737488355328) (hcp : CapOk A n c) (hL : HasL w S A xs) (hT : TbC w) :
    Calls Tryd.prog 5 #[.slice A n c] w fun e w' => e = .returned (.bool true) ∧ Below w.heap.size w w' := by
  have HL := Lib.hid (fun W (hb : Below w.heap.size w W) => hL.on hb)
  have HT := Lib.hid (fun W (hb : Below w.heap.size w W) => hT.on hb)
  have HN := Lib.hid hn
  have HP := Lib.hid hp
  have HE := Lib.hid he
  have HK := Lib.hid (known14 hp he w hT)
  have HCP := Lib.hid hcp
  clear hcp hL hT hn hp he
  by_cases hgt : 2000 < n
  · have hgti : (2000 : Int) < (n : Int) := by omega
    go_enter Tryd.func5, Tryd.ntmps5
    go_wp2_with (go_at_call 6; refine HK.out.mono ?_; rintro e w2 ⟨rfl, hb2⟩; have HB2 := Lib.hid hb2; clear hb2)
    go_ret
    exact ⟨rfl, HB2.out⟩
  have hgti : decide ((2000 : Int) < (n : Int)) = false := decide_eq_false (by omega)
  have hgti2 : decide (2000 < n) = false := decide_eq_false hgt
  obtain ⟨N, hN⟩ : ∃ N, n + 1 = N := ⟨_, rfl⟩
  have hwN : IntKind.i64.wrap ((n : Int) + 1) = (N : Int) := by rw [IntWalk.i64_in _ (by omega)]; omega
  have HNN := Lib.hid hN
  have hmk := fun w => run_make_row' (P := Tryd.prog) 43 4 (.bool false) 1 undBools infBool rfl .i64 .i64 N (by omega) (by omega) w
  have hmk2 := fun w => run_make_row' (P := Tryd.prog) 44 29 (.int .u64 0) 8 undU64s infU64 rfl .i64 .i64 N (by omega) (by omega) w
  have hN0 : (0 : Int) < (N : Int) := by omega
  clear hN
  go_enter Tryd.func5, Tryd.ntmps5
  go_upto_region 6 with (go_at_call 6; refine HK.out.mono ?_; rintro e w2 ⟨rfl, hb2⟩; have HB2 := Lib.hid hb2; clear hb2)
  clear hmk
  have HG0 := Lib.hid (World.rowIs_made w2 (.bool false) N 4)
  have HBG := Lib.hid (HB2.out.alloc HB2.out.size (.cells (madeCells #[.bool false] N) 4))
  generalize w2.alloc (.cells (madeCells #[.bool false] N) 4) = w3 at HG0 HBG ⊢
  have hGw : w.heap.size ≤ w2.heap.size := HB2.out.size
  generalize w2.heap.size = G at HG0 hGw ⊢
  have cg := HG0.out.cell (i := 0) (by have := HNN.out; omega)
  have fg := HG0.out.frozen 0
  go_upto_region 8 with fail
  have HG1 : Hid ((w3.setCell ⟨G, 0, none⟩ (.bool true)).rowIs G 4 N (fun k => .bool (decide (k ≤ 0) && Pa.beg xs k))) := Lib.hid ((HG0.out.set 0 (.bool true)).congr (fun i hi => by
    by_cases h : i = 0
    · subst h; rfl
    · rw [if_neg h, decide_eq_false (by omega)]; rfl))
  have HB1 := Lib.hid (HBG.out.setCell (p := ⟨G, 0, none⟩) hGw (.bool true))
  clear cg fg HG0 HBG
  generalize w3.setCell ⟨G, 0, none⟩ (.bool true) = w4 at HG1 HB1 ⊢
  go_loopw [27] (fun i wr => ∃ j : Nat, j ≤ n ∧ i = .int .i64 (j : Int) ∧ Hid (wr.rowIs G 4 N (fun k => .bool (decide (k ≤ j) && Pa.beg xs k))) ∧ Hid (Below w.heap.size w wr)) (fun i _ => n - (intOf i).toNat)
  case atStart => exact ⟨0, Nat.zero_le _, rfl, HG1, HB1⟩
  case round =>
    clear HG1 HB1
    obtain ⟨j, hj, rfl, HG, HB⟩ := hrel
    by_cases hlt : j < n
    · have hlti : (j : Int) < (n : Int) := by omega
      obtain ⟨x, hx⟩ : ∃ x, xs[j]? = some x := ⟨_, List.getElem?_eq_getElem (by rw [← HN.out]; exact hlt)⟩
      have HBE := Lib.hid (Pa.beg_at hx)
      obtain ⟨g, o, v1, v2, v3, v4, rfl, hop, z0, z1, z2, z3, ⟨A', n', c', rfl⟩, z4⟩ := (HL.out _ HB.out).five (Below.refl _ _) hx
      clear hx
      obtain ⟨op, hop'⟩ : ∃ o1, x.op = o1 := ⟨_, rfl⟩
      rw [hop'] at hop z0 HBE
      have HOP := Lib.hid hop
      clear hop hop'
      obtain ⟨en, hen⟩ : ∃ b, Pa.ends op = b := ⟨_, rfl⟩
      rw [hen] at HBE
      have HEN := Lib.hid hen
      clear hen
      have HBJ := Lib.hid (fun o => HB.out.alloc HB.out.size o)
      have HGJ := Lib.hid (fun o => HG.out.alloc o)
      have hwj : IntKind.i64.wrap ((j : Int) + 1) = (j : Int) + 1 := IntWalk.i64_in _ (by omega)
      have hjN : (j : Int) + 1 < (N : Int) := by have := HNN.out; omega
      have hjN' : j + 1 < N := by have := HNN.out; omega
      go_wp2_with (go_at_call 9; refine (HE.out op _ HOP.out (HT.out _ (HBJ.out _))).mono ?_; rintro e w8 ⟨rfl, hb8⟩; rw [HEN.out]; have HB8 := Lib.hid (Below.next (HBJ.out _) hb8); have HG8 := Lib.hid (row_on (HGJ.out _) hb8); have c8 := HG8.out.cell (i := j + 1) hjN'; have f8 := HG8.out.frozen (j + 1); clear hb8)
      have HG9 : Hid ((w8.setCell ⟨G, j + 1, none⟩ (.bool en)).rowIs G 4 N (fun k => .bool (decide (k ≤ j + 1) && Pa.beg xs k))) := Lib.hid ((HG8.out.set (j + 1) (.bool en)).congr (fun i hi => by
        by_cases h : i = j + 1
        · subst h
          rw [if_pos rfl, HBE.out, decide_eq_true (Nat.le_refl _), Bool.true_and]
        · rw [if_neg h]
          by_cases h2 : i ≤ j
          · rw [decide_eq_true h2, decide_eq_true (show i ≤ j + 1 by omega)]
          · rw [decide_eq_false h2, decide_eq_false (show ¬ i ≤ j + 1 by omega)]))
      have HB9 := Lib.hid (HB8.out.setCell (p := ⟨G, j + 1, none⟩) hGw (.bool en))
      go_roundw
      case rel => exact ⟨j + 1, by omega, by go_num, HG9, HB9⟩
      case measure => simp [intOf]; omega
    · have hge : decide ((j : Int) < (n : Int)) = false := decide_eq_false (by omega)
      have hge2 : decide (j < n) = false := decide_eq_false hlt
      have HG1 : Hid (wr.rowIs G 4 N (fun k => .bool (Pa.beg xs k))) := Lib.hid (HG.out.congr (fun i hi => by
        rw [decide_eq_true (show i ≤ j by have := HNN.out; omega), Bool.true_and]))
      have hGl := HG1.out.lt
      clear hlt HG
      go_upto_region 13 with fail
      clear hmk2 hge hge2
      have HH0 := Lib.hid (World.rowIs_made wr (.int .u64 0) N 29)
      have HG2 := Lib.hid (HG1.out.alloc (.cells (madeCells #[.int .u64 0] N) 29))
      have HB2 := Lib.hid (HB.out.alloc HB.out.size (.cells (madeCells #[.int .u64 0] N) 29))
      have hHw : w.heap.size ≤ wr.heap.size := HB.out.size
      generalize wr.alloc (.cells (madeCells #[.int .u64 0] N) 29) = w5 at HH0 HG2 HB2 ⊢
      generalize wr.heap.size = H at HH0 hHw hGl ⊢
      obtain ⟨m, hm⟩ : ∃ m, (Pa.parts xs).length = m := ⟨_, rfl⟩
      have HM := Lib.hid hm
      have hmb : m ≤ 2000 := by have h := Pa.parts_len xs; rw [hm, ← HN.out] at h; omega
      clear hm
      go_upto_region 14 with (go_at_call 7; refine (HP.out xs S A n c w5 HN.out (by omega) HCP.out (HL.out _ HB2.out) (HT.out _ HB2.out)).mono ?_; rintro e w6 ⟨A3, c3, rfl, hl3, hb3⟩; have HL3 := Lib.hid hl3; have HB3 := Lib.hid (Below.next HB2.out hb3); have HG3 := Lib.hid (row_on HG2.out hb3); have HH3 := Lib.hid (row_on HH0.out hb3); have hH5 := HH0.out.lt; clear hl3 hb3)
      rw [HM.out]
      clear HG2 HH0 HB2
      have hGH : ¬ G = H := by omega
      have HH4 : Hid (w6.rowIs H 29 N (fun k => .int .u64 (Pa.at0 ((Pa.parts xs).take 0) k : Int))) := Lib.hid (HH3.out.congr (fun i _ => by rw [List.take_zero]; rfl))
      go_loopw [47] (fun i wr => ∃ j : Nat, j ≤ m ∧ i = .int .i64 (j : Int) ∧ Hid (wr.rowIs H 29 N (fun k => .int .u64 (Pa.at0 ((Pa.parts xs).take j) k : Int))) ∧ Hid (wr.rowIs G 4 N (fun k => .bool (Pa.beg xs k))) ∧ Hid (HasL wr (w5.heap.size ≤ ·) A3 (Pa.parts xs)) ∧ Hid (Below w.heap.size w wr)) (fun i _ => m - (intOf i).toNat)
      case atStart => exact ⟨0, Nat.zero_le _, rfl, HH4, HG3, HL3, HB3⟩
      case round =>
        clear HH4 HH3 HG3 HL3 HB3
        obtain ⟨j, hj, rfl, HH, HG, HLP, HB⟩ := hrel
        by_cases hlt : j < m
        · have hlti : (j : Int) < (m : Int) := by omega
          obtain ⟨p, hpj⟩ : ∃ p, (Pa.parts xs)[j]? = some p := ⟨_, List.getElem?_eq_getElem (by rw [HM.out]; exact hlt)⟩
          obtain ⟨g4, o4, rfl, hg4, z0, z1, z2⟩ := HLP.out.three (Below.refl _ _) hpj
          obtain ⟨b0, hok⟩ := Pa.chain_mem xs _ 0 (Pa.chain_parts xs) p (List.mem_of_getElem? hpj)
          have hpa : p.at_ < n := by have h1 := hok.lt; have h2 := hok.len; rw [← HN.out] at h2; omega
          have HAT := Lib.hid (fun k => Pa.at0_take hpj k)
          have hbd : Pa.at0 ((Pa.parts xs).take j) p.at_ + p.cost ≤ 40000 := by
            have h1 := Pa.at0_take_le (Pa.parts xs) (j + 1) p.at_
            rw [HAT.out p.at_, if_pos rfl] at h1
            have h2 := Pa.costs_le xs
            rw [← HN.out] at h2
            omega
          clear hok hpj
          obtain ⟨pa, hpa'⟩ : ∃ x, p.at_ = x := ⟨_, rfl⟩
          obtain ⟨pt, hpt'⟩ : ∃ x, p.to = x := ⟨_, rfl⟩
          obtain ⟨pc, hpc'⟩ : ∃ x, p.cost = x := ⟨_, rfl⟩
          simp only [hpa', hpt', hpc'] at z0 z1 z2 hpa HAT hbd
          clear hpa' hpt' hpc'
          obtain ⟨q, hq⟩ : ∃ q, Pa.at0 ((Pa.parts xs).take j) pa = q := ⟨_, rfl⟩
          rw [hq] at hbd
          have hw : IntKind.u64.wrap ((q : Int) + (pc : Int)) = ((q + pc : Nat) : Int) := by rw [IntWalk.u64_in _ (by omega)]; omega
          have hpaN : (pa : Int) < (N : Int) := by have := HNN.out; omega
          have hpaN' : pa < N := by have := HNN.out; omega
          have HX1 := Lib.hid (heap_alloc_new wr (.cells #[.int .i64 (pa : Int), .int .i64 (pt : Int), .int .u64 (pc : Int)] 31))
          have HB1 := Lib.hid (HB.out.alloc HB.out.size (.cells #[.int .i64 (pa : Int), .int .i64 (pt : Int), .int .u64 (pc : Int)] 31))
          have HH1 := Lib.hid (HH.out.alloc (.cells #[.int .i64 (pa : Int), .int .i64 (pt : Int), .int .u64 (pc : Int)] 31))
          have HG1 := Lib.hid (HG.out.alloc (.cells #[.int .i64 (pa : Int), .int .i64 (pt : Int), .int .u64 (pc : Int)] 31))
          have HL1 := Lib.hid (HLP.out.on ((Below.refl wr.heap.size wr).alloc (Nat.le_refl _) (.cells #[.int .i64 (pa : Int), .int .i64 (pt : Int), .int .u64 (pc : Int)] 31)))
          go_upto_region 16 with fail
          clear z0 z1 z2 HH HG HLP HB
          generalize wr.alloc (.cells #[.int .i64 (pa : Int), .int .i64 (pt : Int), .int .u64 (pc : Int)] 31) = wb at HX1 HB1 HH1 HG1 HL1 ⊢
          generalize wr.heap.size = X at HX1 ⊢
          have x0 := cellP HX1.out 0 _ rfl
          have x1 := cellP HX1.out 1 _ rfl
          have x2 := cellP HX1.out 2 _ rfl
          have ch := HH1.out.cell hpaN'
          have fh := HH1.out.frozen pa
          rw [hq] at ch
          have HQ := Lib.hid hq
          clear hq
          go_region
          all_goals
            have HH2 : Hid ((wb.drew.setCell ⟨H, pa, none⟩ (.int .u64 ((q + pc : Nat) : Int))).rowIs H 29 N (fun k => .int .u64 (Pa.at0 ((Pa.parts xs).take (j + 1)) k : Int))) := Lib.hid ((HH1.out.drew.set pa (.int .u64 ((q + pc : Nat) : Int))).congr (fun i hi => by
              rw [HAT.out i]
              by_cases h : i = pa
              · subst h; rw [if_pos rfl, if_pos rfl, HQ.out]
              · rw [if_neg h, if_neg (fun e => h e.symm), Nat.add_zero]))
            have HG2 := Lib.hid (HG1.out.drew.setOther (a := ⟨H, pa, none⟩) hGH (.int .u64 ((q + pc : Nat) : Int)))
            have HB2 := Lib.hid ((Below.drew HB1.out).setCell (p := ⟨H, pa, none⟩) hHw (.int .u64 ((q + pc : Nat) : Int)))
            have HL2 : Hid (HasL (wb.drew.setCell ⟨H, pa, none⟩ (.int .u64 ((q + pc : Nat) : Int))) (w5.heap.size ≤ ·) (some ⟨g4, o4, none⟩) (Pa.parts xs)) := Lib.hid (HL1.out.mod (Mod.setCell (T := fun g => g = H) (p := ⟨H, pa, none⟩) (Mod.drew (Mod.refl _ wb)) (fun _ => rfl) _) (fun k _ hk e => by have := hH5; omega))
            go_wp2_with fail
            go_roundw
            case rel => exact ⟨j + 1, by omega, by go_num, HH2, HG2, HL2, HB2⟩
            case measure => simp [intOf]; omega
        · have hge : decide ((j : Int) < (m : Int)) = false := decide_eq_false (by omega)
          have hge2 : decide (j < m) = false := decide_eq_false hlt
          have HH1 : Hid (wr.rowIs H 29 N (fun k => .int .u64 (Pa.mix (Pa.parts xs) 0 k : Int))) := Lib.hid (HH.out.congr (fun i _ => by
            rw [Pa.mix_zero, List.take_of_length_le (by rw [HM.out]; omega)]))
          have HG1 := HG
          have HB1 := HB
          clear hlt HH HG HB HLP
          go_upto_region 19 with fail
          clear hge hge2
          go_loopw [63] (fun i wr => ∃ j : Nat, j ≤ n ∧ i = .int .i64 (j : Int) ∧ Hid (wr.rowIs H 29 N (fun k => .int .u64 (Pa.mix (Pa.parts xs) j k : Int))) ∧ Hid (wr.rowIs G 4 N (fun k => .bool (Pa.beg xs k))) ∧ Hid (Below w.heap.size w wr)) (fun i _ => n - (intOf i).toNat)
          case atStart => exact ⟨0, Nat.zero_le _, rfl, HH1, HG1, HB1⟩
          case round =>
            clear HH1 HG1 HB1
            obtain ⟨j, hj, rfl, HH, HG, HB⟩ := hrel
            by_cases hlt : j < n
            · have hlti : (j : Int) < (n : Int) := by omega
              have hjN : (j : Int) + 1 < (N : Int) := by have := HNN.out; omega
              have hjN' : j + 1 < N := by have := HNN.out; omega
              have hjN2 : (j : Int) < (N : Int) := by omega
              have hwj : IntKind.i64.wrap ((j : Int) + 1) = (j : Int) + 1 := IntWalk.i64_in _ (by omega)
              have hcl : Pa.costs (Pa.parts xs) ≤ 40000 := by have h2 := Pa.costs_le xs; rw [← HN.out] at h2; omega
              have hm1 := Pa.mix_le (Pa.parts xs) j (j + 1)
              have hm2 := Pa.mix_le (Pa.parts xs) j j
              have c1 := HH.out.cell (i := j + 1) hjN'
              have c2 := HH.out.cell (i := j) (by omega)
              have f1 := HH.out.frozen (j + 1)
              have HMS := Lib.hid (fun i => Pa.mix_step (Pa.parts xs) j i)
              obtain ⟨q1, hq1⟩ : ∃ q, Pa.mix (Pa.parts xs) j (j + 1) = q := ⟨_, rfl⟩
              obtain ⟨q2, hq2⟩ : ∃ q, Pa.mix (Pa.parts xs) j j = q := ⟨_, rfl⟩
              simp only [hq1, hq2] at hm1 hm2 c1 c2 HMS
              clear hq1 hq2
              have hw : IntKind.u64.wrap ((q1 : Int) + (q2 : Int)) = ((q1 + q2 : Nat) : Int) := by rw [IntWalk.u64_in _ (by omega)]; omega
              have HH2 : Hid ((wr.drew.setCell ⟨H, j + 1, none⟩ (.int .u64 ((q1 + q2 : Nat) : Int))).rowIs H 29 N (fun k => .int .u64 (Pa.mix (Pa.parts xs) (j + 1) k : Int))) := Lib.hid ((HH.out.drew.set (j + 1) (.int .u64 ((q1 + q2 : Nat) : Int))).congr (fun i hi => by
                rw [HMS.out i]
                by_cases h : i = j + 1
                · rw [if_pos h, if_pos h]
                · rw [if_neg h, if_neg h]))
              have HG2 := Lib.hid (HG.out.drew.setOther (a := ⟨H, j + 1, none⟩) hGH (.int .u64 ((q1 + q2 : Nat) : Int)))
              have HB2 := Lib.hid ((Below.drew HB.out).setCell (p := ⟨H, j + 1, none⟩) hHw (.int .u64 ((q1 + q2 : Nat) : Int)))
              clear hm1 hm2 hcl
              go_upto_region 21 with fail
              go_region
              all_goals
                go_wp2_with fail
                go_roundw
                case rel => exact ⟨j + 1, by omega, by go_num, HH2, HG2, HB2⟩
                case measure => simp [intOf]; omega
            · have hge : decide ((j : Int) < (n : Int)) = false := decide_eq_false (by omega)
              have hge2 : decide (j < n) = false := decide_eq_false hlt
              have HH1 : Hid (wr.rowIs H 29 N (fun k => .int .u64 (Pa.pre (Pa.parts xs) k : Int))) := Lib.hid (HH.out.congr (fun i hi => by
                unfold Pa.mix
                rw [if_pos (by have := HNN.out; omega)]))
              have HG1 := HG
              have HB1 := HB
              clear hlt HH HG HB
              go_upto_region 25 with fail
              clear hge hge2
              obtain ⟨w7, rfl⟩ : ∃ w7, w7 = wr := ⟨_, rfl⟩
              have HBT := HB1
              have hw7 := HBT.out.size
              have hG7 := HG1.out.lt
              have hH7 := HH1.out.lt
              have HG7 := HG1
              have HH7 := HH1
              clear HB1 HG1 HH1
              go_loopw [80, 10] (fun i v wr => ∃ (j : Nat) (os : List Pa.Ix), j ≤ n ∧ i = .int .i64 (j : Int) ∧ os.length ≤ j ∧ Hid (OwnL 3 wr w7.heap.size (fun _ => False) v os) ∧ Hid (∀ t ∈ os, t.v < j) ∧ Hid (Below w7.heap.size w7 wr)) (fun i _ _ => n - (intOf i).toNat)
              case atStart => exact ⟨0, [], Nat.zero_le _, rfl, Nat.zero_le _, Lib.hid (OwnL.nil _ _ _ _), Lib.hid (fun t ht => by simp at ht), Lib.hid (Below.refl _ _)⟩
              case round =>
                obtain ⟨j, os, hj, rfl, hol, HO, HI, HB⟩ := hrel
                by_cases hlt : j < n
                · have hlti : (j : Int) < (n : Int) := by omega
                  have hjN : (j : Int) + 1 < (N : Int) := by have := HNN.out; omega
                  have hjN' : j + 1 < N := by have := HNN.out; omega
                  have hjN2 : (j : Int) < (N : Int) := by omega
                  have hwj : IntKind.i64.wrap ((j : Int) + 1) = (j : Int) + 1 := IntWalk.i64_in _ (by omega)
                  obtain ⟨x, hx⟩ : ∃ x, xs[j]? = some x := ⟨_, List.getElem?_eq_getElem (by rw [← HN.out]; exact hlt)⟩
                  have HBE := Lib.hid (Pa.beg_at hx)
                  obtain ⟨g, o, A', c', rfl, hwf, z0, z1, z2, z3, z4⟩ := (HL.out _ (HBT.out.trans (HB.out.mono hw7))).fiveA (Below.refl _ _) hx
                  have hxl := hwf.2.1
                  have HX := Lib.hid hx
                  clear hx hwf
                  obtain ⟨op, hop'⟩ : ∃ o1, x.op = o1 := ⟨_, rfl⟩
                  obtain ⟨xa, hxa'⟩ : ∃ o1, x.a = o1 := ⟨_, rfl⟩
                  rw [hop'] at z0 HBE
                  rw [hxa'] at z1 hxl
                  have HOPX := Lib.hid hop'
                  clear hop' hxa'
                  generalize (x.b : Int) = xb at z2
                  generalize x.c = xc at z3
                  generalize x.l.length = xn at z4
                  have HX1 := Lib.hid (heap_alloc_new wr (.cells #[.int .u8 (op : Int), .int .u32 (xa : Int), .int .u32 xb, .int .i64 xc, .slice A' xn c'] 41))
                  have hbn := (Below.refl wr.heap.size wr).alloc (Nat.le_refl _) (.cells #[.int .u8 (op : Int), .int .u32 (xa : Int), .int .u32 xb, .int .i64 xc, .slice A' xn c'] 41)
                  have HB1 := Lib.hid (Below.next HB.out hbn)
                  have HO1 := Lib.hid (own_next HO.out hbn)
                  have HG1 := Lib.hid (row_on HG7.out HB1.out)
                  have HH1 := Lib.hid (row_on HH7.out HB1.out)
                  have HLX := Lib.hid (HL.out _ (HBT.out.trans (HB1.out.mono hw7)))
                  have HI1 : Hid (∀ t ∈ os, t.v < j + 1) := Lib.hid (fun t ht => by have := HI.out t ht; omega)
                  go_upto_region 27 with fail
                  clear z0 z1 z2 z3 z4 HB HO hbn
                  generalize wr.alloc (.cells #[.int .u8 (op : Int), .int .u32 (xa : Int), .int .u32 xb, .int .i64 xc, .slice A' xn c'] 41) = wb at HX1 HB1 HO1 HG1 HH1 HLX ⊢
                  generalize wr.heap.size = X at HX1 ⊢
                  have x0 := cellP HX1.out 0 _ rfl
                  have x1 := cellP HX1.out 1 _ rfl
                  by_cases h2 : op = 2
                  · have e2 : ((op : Int) == 2) = true := by rw [beq_iff_eq]; omega
                    clear h2
                    obtain ⟨v', w8, hrun, hO8, hM8, hT8⟩ := append1L undInt infInt (by decide) rfl (by decide) wb w7.heap.size (fun _ => False) u10 os ⟨j⟩ [.int .i64 (j : Int)] HO1.out (by omega) HB1.out.size rfl (by simp; rfl) (fun _ _ h => h.elim)
                    have HO8 : Hid (OwnL 3 w8 w7.heap.size (fun _ => False) v' (os ++ [⟨j⟩])) := Lib.hid (hO8.more (fun _ _ h => h.1.elim))
                    have HB8 := Lib.hid (HB1.out.trans (hM8.below HB1.out.size (fun g hg e => by have := (OwnL.lt HO1.out g e).1; omega)))
                    have HRUN := Lib.hid hrun
                    clear hrun hO8 hM8 hT8
                    have HI8 : Hid (∀ t ∈ os ++ [(⟨j⟩ : Pa.Ix)], t.v < j + 1) := Lib.hid (fun t ht => by
                      rcases List.mem_append.1 ht with h | h
                      · have := HI.out t h; omega
                      · simp at h; subst h; show j < j + 1; omega)
                    go_wp2_with (at_builtin; refine wpList_appends rfl (.tmp 91) (.tmp 93) 45 rfl _ _ _ w8 rfl rfl HRUN.out ?_)
                    go_roundw
                    case rel => exact ⟨j + 1, _, by omega, by go_num, by simp; omega, HO8, HI8, HB8⟩
                    case measure => simp [intOf]; omega
                  by_cases h3 : op = 3
                  · have e2 : ((op : Int) == 2) = false := by rw [beq_eq_false_iff_ne]; omega
                    have e3 : ((op : Int) == 3) = true := by rw [beq_iff_eq]; omega
                    clear h3
                    obtain ⟨v', w8, hrun, hO8, hM8, hT8⟩ := append1L undInt infInt (by decide) rfl (by decide) wb w7.heap.size (fun _ => False) u10 os ⟨j⟩ [.int .i64 (j : Int)] HO1.out (by omega) HB1.out.size rfl (by simp; rfl) (fun _ _ h => h.elim)
                    have HO8 : Hid (OwnL 3 w8 w7.heap.size (fun _ => False) v' (os ++ [⟨j⟩])) := Lib.hid (hO8.more (fun _ _ h => h.1.elim))
                    have HB8 := Lib.hid (HB1.out.trans (hM8.below HB1.out.size (fun g hg e => by have := (OwnL.lt HO1.out g e).1; omega)))
                    have HRUN := Lib.hid hrun
                    clear hrun hO8 hM8 hT8
                    have HI8 : Hid (∀ t ∈ os ++ [(⟨j⟩ : Pa.Ix)], t.v < j + 1) := Lib.hid (fun t ht => by
                      rcases List.mem_append.1 ht with h | h
                      · have := HI.out t h; omega
                      · simp at h; subst h; show j < j + 1; omega)
                    go_wp2_with (at_builtin; refine wpList_appends rfl (.tmp 91) (.tmp 93) 45 rfl _ _ _ w8 rfl rfl HRUN.out ?_)
                    go_roundw
                    case rel => exact ⟨j + 1, _, by omega, by go_num, by simp; omega, HO8, HI8, HB8⟩
                    case measure => simp [intOf]; omega
                  by_cases h4 : op = 4
                  · have e2 : ((op : Int) == 2) = false := by rw [beq_eq_false_iff_ne]; omega
                    have e3 : ((op : Int) == 3) = false := by rw [beq_eq_false_iff_ne]; omega
                    have e4 : ((op : Int) == 4) = true := by rw [beq_iff_eq]; omega
                    clear h4
                    obtain ⟨v', w8, hrun, hO8, hM8, hT8⟩ := append1L undInt infInt (by decide) rfl (by decide) wb w7.heap.size (fun _ => False) u10 os ⟨j⟩ [.int .i64 (j : Int)] HO1.out (by omega) HB1.out.size rfl (by simp; rfl) (fun _ _ h => h.elim)
                    have HO8 : Hid (OwnL 3 w8 w7.heap.size (fun _ => False) v' (os ++ [⟨j⟩])) := Lib.hid (hO8.more (fun _ _ h => h.1.elim))
                    have HB8 := Lib.hid (HB1.out.trans (hM8.below HB1.out.size (fun g hg e => by have := (OwnL.lt HO1.out g e).1; omega)))
                    have HRUN := Lib.hid hrun
                    clear hrun hO8 hM8 hT8
                    have HI8 : Hid (∀ t ∈ os ++ [(⟨j⟩ : Pa.Ix)], t.v < j + 1) := Lib.hid (fun t ht => by
                      rcases List.mem_append.1 ht with h | h
                      · have := HI.out t h; omega
                      · simp at h; subst h; show j < j + 1; omega)
                    go_wp2_with (at_builtin; refine wpList_appends rfl (.tmp 91) (.tmp 93) 45 rfl _ _ _ w8 rfl rfl HRUN.out ?_)
                    go_roundw
                    case rel => exact ⟨j + 1, _, by omega, by go_num, by simp; omega, HO8, HI8, HB8⟩
                    case measure => simp [intOf]; omega
                  by_cases h11 : op = 11
                  · have e2 : ((op : Int) == 2) = false := by rw [beq_eq_false_iff_ne]; omega
                    have e3 : ((op : Int) == 3) = false := by rw [beq_eq_false_iff_ne]; omega
                    have e4 : ((op : Int) == 4) = false := by rw [beq_eq_false_iff_ne]; omega
                    have e11 : ((op : Int) == 11) = true := by rw [beq_iff_eq]; omega
                    have HOPE := Lib.hid h11
                    clear h11
                    by_cases h0 : os.length = 0
                    · have hnil : os = [] := List.eq_nil_of_length_eq_zero h0
                      subst hnil
                      obtain ⟨A9, c9, rfl, _⟩ := HO1.out.tell (fun _ h => h.elim)
                      have HF := Lib.hid (HBT.out.trans (HB1.out.mono hw7))
                      clear h0
                      go_wp2_with fail
                      go_ret
                      exact ⟨rfl, HF.out⟩
                    · obtain ⟨oi, f, hof⟩ : ∃ oi f, os = oi ++ [f] := ⟨os.dropLast, os.getLast (fun h => h0 (by rw [h]; rfl)), (List.dropLast_concat_getLast _).symm⟩
                      have hO1 := HO1.out
                      rw [hof] at hO1
                      obtain ⟨g9, c9, _, _, rfl, hc9, hcm9, _⟩ := hO1.last
                      have HO2 := Lib.hid (hO1.dropLast (fun _ _ h => h.elim))
                      have HI2 : Hid (∀ t ∈ oi, t.v < j + 1) := Lib.hid (fun t ht => by have := HI.out t (by rw [hof]; simp [ht]); omega)
                      have hol2 : oi.length + 1 = os.length := by rw [hof]; simp
                      clear hO1 hof h0
                      have HOJ : Hid (os.length ≤ j) := Lib.hid (by assumption)
                      obtain ⟨m9, hm9⟩ : ∃ m9, oi.length = m9 := ⟨_, rfl⟩
                      rw [hm9] at hol2 hc9 HO2 ⊢
                      have HM9 := Lib.hid hm9
                      clear hm9
                      unfold maxLen at hcm9
                      have hm9n : m9 + 1 ≤ 2000 := by omega
                      have HOL := Lib.hid hol2
                      clear hol2
                      have d1 : (((m9 : Int) + 1) == 0) = false := by rw [beq_eq_false_iff_ne]; omega
                      have hwm : IntKind.i64.wrap ((m9 : Int) + 1 - 1) = (m9 : Int) := by rw [IntWalk.i64_in _ (by omega)]; omega
                      have d2 : (0 : Int) ≤ (m9 : Int) := by omega
                      have d3 : (m9 : Int) ≤ (c9 : Int) := by omega
                      have cg := HG1.out.cell (i := j + 1) hjN'
                      rw [HBE.out, HOPE.out] at cg
                      have cg2 : wb.cell? ⟨G, j + 1, none⟩ = some (.bool true) := cg
                      clear cg
                      go_wp2_with fail
                      go_roundw
                      case rel => exact ⟨j + 1, oi, by omega, by go_num, by have := HOL.out; have := HM9.out; have := HOJ.out; omega, HO2, HI2, HB1⟩
                      case measure => simp [intOf]; omega
                  by_cases h12 : op = 12
                  · have e2 : ((op : Int) == 2) = false := by rw [beq_eq_false_iff_ne]; omega
                    have e3 : ((op : Int) == 3) = false := by rw [beq_eq_false_iff_ne]; omega
                    have e4 : ((op : Int) == 4) = false := by rw [beq_eq_false_iff_ne]; omega
                    have e11 : ((op : Int) == 11) = false := by rw [beq_eq_false_iff_ne]; omega
                    have e12 : ((op : Int) == 12) = true := by rw [beq_iff_eq]; omega
                    have HOPE := Lib.hid h12
                    clear h12
                    obtain ⟨A9, c9, rfl, hc9, hcm9, _, hl9⟩ := HO1.out.tell (fun _ h => h.elim)
                    have HL9 := Lib.hid hl9
                    clear hl9
                    obtain ⟨m9, hm9⟩ : ∃ m9, os.length = m9 := ⟨_, rfl⟩
                    rw [hm9] at hol hc9 ⊢
                    have HM9 := Lib.hid hm9
                    clear hm9
                    have hwa1 : IntKind.u64.wrap (xa : Int) = (xa : Int) := IntWalk.u64_in _ (by omega)
                    have hwa2 : IntKind.u64.wrap (m9 : Int) = (m9 : Int) := IntWalk.u64_in _ (by omega)
                    have hwa3 : IntKind.i64.wrap (xa : Int) = (xa : Int) := IntWalk.i64_in _ (by omega)
                    by_cases hxa : m9 ≤ xa
                    · have d1 : (m9 : Int) ≤ (xa : Int) := by omega
                      have HO1' : Hid (OwnL 3 wb w7.heap.size (fun _ => False) (.slice A9 m9 c9) os) := by
                        have h := HO1
                        rw [HM9.out] at h
                        exact h
                      go_wp2_with fail
                      go_roundw
                      case rel => exact ⟨j + 1, os, by omega, by go_num, by rw [HM9.out]; omega, HO1', HI1, HB1⟩
                      case measure => simp [intOf]; omega
                    · have d1 : decide ((m9 : Int) ≤ (xa : Int)) = false := decide_eq_false (by omega)
                      have d1' : decide (m9 ≤ xa) = false := decide_eq_false hxa
                      obtain ⟨r, hr⟩ : ∃ r, m9 = r + 1 + xa := ⟨m9 - 1 - xa, by omega⟩
                      have hwr1 : IntKind.i64.wrap ((m9 : Int) - 1) = (m9 : Int) - 1 := IntWalk.i64_in _ (by omega)
                      have hwr2 : IntKind.i64.wrap ((m9 : Int) - 1 - (xa : Int)) = (r : Int) := by rw [IntWalk.i64_in _ (by omega)]; omega
                      obtain ⟨t, ht⟩ : ∃ t, os[r]? = some t := ⟨_, List.getElem?_eq_getElem (by rw [HM9.out]; omega)⟩
                      have htj := HI.out t (List.mem_of_getElem? ht)
                      obtain ⟨g9, o9, cs9, rfl, _, hg9, hcs9, hcell9⟩ := HL9.out r t ht
                      have hcs9' : cs9 = [.int .i64 (t.v : Int)] := hcs9
                      subst hcs9'
                      have q0 : wb.cell? ⟨g9, o9 + r, none⟩ = some (.int .i64 (t.v : Int)) := by
                        have := hcell9 0 _ rfl
                        simpa [show Lay.size Pa.Ix = 1 from rfl] using this
                      obtain ⟨tv, htv⟩ : ∃ tv, t.v = tv := ⟨_, rfl⟩
                      rw [htv] at q0 htj
                      clear hcs9 hcell9 ht htv
                      have d2 : (r : Int) < (m9 : Int) := by omega
                      obtain ⟨y, hy⟩ : ∃ y, xs[tv]? = some y := ⟨_, List.getElem?_eq_getElem (by rw [← HN.out]; omega)⟩
                      obtain ⟨gy, oy, _, _, hgo, _, y0, _⟩ := HLX.out.fiveA (Below.refl _ _) hy
                      injection hgo with hgo
                      injection hgo with hg1 hg2 _
                      subst hg1 hg2
                      have d3 : (tv : Int) < (n : Int) := by omega
                      have hwt : IntKind.i64.wrap ((tv : Int) + 1) = (tv : Int) + 1 := IntWalk.i64_in _ (by omega)
                      obtain ⟨oy2, hoy⟩ : ∃ o, y.op = o := ⟨_, rfl⟩
                      rw [hoy] at y0
                      have HO1' : Hid (OwnL 3 wb.drew w7.heap.size (fun _ => False) (.slice (some ⟨g9, o9, none⟩) m9 c9) os) := by
                        have h := Lib.hid (HO1.out.mod (T := fun _ => False) (Mod.drew (Mod.refl _ wb)) (fun _ _ h => h) (fun _ _ h => h.elim))
                        rw [HM9.out] at h
                        exact h
                      have HB1' := Lib.hid (Below.drew HB1.out)
                      by_cases h3 : oy2 = 3
                      · have d4 : ((oy2 : Int) == 3) = true := by rw [beq_iff_eq]; omega
                        have hen : Pa.ends y.op = true := by rw [hoy, h3]; rfl
                        have cg := HG1.out.cell (i := tv + 1) (by have := HNN.out; omega)
                        rw [Pa.beg_at hy, hen] at cg
                        have chh := HH1.out.cell (i := j) (by have := HNN.out; omega)
                        have cht := HH1.out.cell (i := tv) (by have := HNN.out; omega)
                        have hlt3 := Pa.charged HX.out hy htj (by rw [HOPX.out, HOPE.out]; decide +kernel) hen
                        obtain ⟨s1, hs1⟩ : ∃ s, Pa.pre (Pa.parts xs) j = s := ⟨_, rfl⟩
                        obtain ⟨s2, hs2⟩ : ∃ s, Pa.pre (Pa.parts xs) tv = s := ⟨_, rfl⟩
                        simp only [hs1, hs2] at chh cht hlt3
                        have d5 : ((s1 : Int) == (s2 : Int)) = false := by rw [beq_eq_false_iff_ne]; omega
                        have d6 : (tv : Int) + 1 < (N : Int) := by have := HNN.out; omega
                        have d7 : (tv : Int) < (N : Int) := by have := HNN.out; omega
                        clear hs1 hs2 hen hy hoy h3
                        go_upto_region 42 with fail
                        go_region
                        all_goals
                          go_wp2_with fail
                          go_roundw
                          case rel => exact ⟨j + 1, os, by omega, by go_num, by rw [HM9.out]; omega, HO1', HI1, HB1'⟩
                          case measure => simp [intOf]; omega
                      · have d4 : ((oy2 : Int) == 3) = false := by rw [beq_eq_false_iff_ne]; omega
                        clear hy hoy h3
                        go_upto_region 42 with fail
                        go_region
                        all_goals
                          go_wp2_with fail
                          go_roundw
                          case rel => exact ⟨j + 1, os, by omega, by go_num, by rw [HM9.out]; omega, HO1', HI1, HB1'⟩
                          case measure => simp [intOf]; omega
                  by_cases h13 : op = 13
                  · have e2 : ((op : Int) == 2) = false := by rw [beq_eq_false_iff_ne]; omega
                    have e3 : ((op : Int) == 3) = false := by rw [beq_eq_false_iff_ne]; omega
                    have e4 : ((op : Int) == 4) = false := by rw [beq_eq_false_iff_ne]; omega
                    have e11 : ((op : Int) == 11) = false := by rw [beq_eq_false_iff_ne]; omega
                    have e12 : ((op : Int) == 12) = false := by rw [beq_eq_false_iff_ne]; omega
                    have e13 : ((op : Int) == 13) = true := by rw [beq_iff_eq]; omega
                    have HOPE := Lib.hid h13
                    clear h13
                    obtain ⟨A9, c9, rfl, hc9, hcm9, _, hl9⟩ := HO1.out.tell (fun _ h => h.elim)
                    have HL9 := Lib.hid hl9
                    clear hl9
                    obtain ⟨m9, hm9⟩ : ∃ m9, os.length = m9 := ⟨_, rfl⟩
                    rw [hm9] at hol hc9 ⊢
                    have HM9 := Lib.hid hm9
                    clear hm9
                    have hwa1 : IntKind.u64.wrap (xa : Int) = (xa : Int) := IntWalk.u64_in _ (by omega)
                    have hwa2 : IntKind.u64.wrap (m9 : Int) = (m9 : Int) := IntWalk.u64_in _ (by omega)
                    have hwa3 : IntKind.i64.wrap (xa : Int) = (xa : Int) := IntWalk.i64_in _ (by omega)
                    by_cases hxa : m9 ≤ xa
                    · have d1 : (m9 : Int) ≤ (xa : Int) := by omega
                      have HO1' : Hid (OwnL 3 wb w7.heap.size (fun _ => False) (.slice A9 m9 c9) os) := by
                        have h := HO1
                        rw [HM9.out] at h
                        exact h
                      go_wp2_with fail
                      go_roundw
                      case rel => exact ⟨j + 1, os, by omega, by go_num, by rw [HM9.out]; omega, HO1', HI1, HB1⟩
                      case measure => simp [intOf]; omega
                    · have d1 : decide ((m9 : Int) ≤ (xa : Int)) = false := decide_eq_false (by omega)
                      have d1' : decide (m9 ≤ xa) = false := decide_eq_false hxa
                      obtain ⟨r, hr⟩ : ∃ r, m9 = r + 1 + xa := ⟨m9 - 1 - xa, by omega⟩
                      have hwr1 : IntKind.i64.wrap ((m9 : Int) - 1) = (m9 : Int) - 1 := IntWalk.i64_in _ (by omega)
                      have hwr2 : IntKind.i64.wrap ((m9 : Int) - 1 - (xa : Int)) = (r : Int) := by rw [IntWalk.i64_in _ (by omega)]; omega
                      obtain ⟨t, ht⟩ : ∃ t, os[r]? = some t := ⟨_, List.getElem?_eq_getElem (by rw [HM9.out]; omega)⟩
                      have htj := HI.out t (List.mem_of_getElem? ht)
                      obtain ⟨g9, o9, cs9, rfl, _, hg9, hcs9, hcell9⟩ := HL9.out r t ht
                      have hcs9' : cs9 = [.int .i64 (t.v : Int)] := hcs9
                      subst hcs9'
                      have q0 : wb.cell? ⟨g9, o9 + r, none⟩ = some (.int .i64 (t.v : Int)) := by
                        have := hcell9 0 _ rfl
                        simpa [show Lay.size Pa.Ix = 1 from rfl] using this
                      obtain ⟨tv, htv⟩ : ∃ tv, t.v = tv := ⟨_, rfl⟩
                      rw [htv] at q0 htj
                      clear hcs9 hcell9 ht htv
                      have d2 : (r : Int) < (m9 : Int) := by omega
                      obtain ⟨y, hy⟩ : ∃ y, xs[tv]? = some y := ⟨_, List.getElem?_eq_getElem (by rw [← HN.out]; omega)⟩
                      obtain ⟨gy, oy, _, _, hgo, _, y0, _⟩ := HLX.out.fiveA (Below.refl _ _) hy
                      injection hgo with hgo
                      injection hgo with hg1 hg2 _
                      subst hg1 hg2
                      have d3 : (tv : Int) < (n : Int) := by omega
                      have hwt : IntKind.i64.wrap ((tv : Int) + 1) = (tv : Int) + 1 := IntWalk.i64_in _ (by omega)
                      obtain ⟨oy2, hoy⟩ : ∃ o, y.op = o := ⟨_, rfl⟩
                      rw [hoy] at y0
                      have HO1' : Hid (OwnL 3 wb.drew w7.heap.size (fun _ => False) (.slice (some ⟨g9, o9, none⟩) m9 c9) os) := by
                        have h := Lib.hid (HO1.out.mod (T := fun _ => False) (Mod.drew (Mod.refl _ wb)) (fun _ _ h => h) (fun _ _ h => h.elim))
                        rw [HM9.out] at h
                        exact h
                      have HB1' := Lib.hid (Below.drew HB1.out)
                      by_cases h3 : oy2 = 3
                      · have d4 : ((oy2 : Int) == 3) = true := by rw [beq_iff_eq]; omega
                        have hen : Pa.ends y.op = true := by rw [hoy, h3]; rfl
                        have cg := HG1.out.cell (i := tv + 1) (by have := HNN.out; omega)
                        rw [Pa.beg_at hy, hen] at cg
                        have chh := HH1.out.cell (i := j) (by have := HNN.out; omega)
                        have cht := HH1.out.cell (i := tv) (by have := HNN.out; omega)
                        have hlt3 := Pa.charged HX.out hy htj (by rw [HOPX.out, HOPE.out]; decide +kernel) hen
                        obtain ⟨s1, hs1⟩ : ∃ s, Pa.pre (Pa.parts xs) j = s := ⟨_, rfl⟩
                        obtain ⟨s2, hs2⟩ : ∃ s, Pa.pre (Pa.parts xs) tv = s := ⟨_, rfl⟩
                        simp only [hs1, hs2] at chh cht hlt3
                        have d5 : ((s1 : Int) == (s2 : Int)) = false := by rw [beq_eq_false_iff_ne]; omega
                        have d6 : (tv : Int) + 1 < (N : Int) := by have := HNN.out; omega
                        have d7 : (tv : Int) < (N : Int) := by have := HNN.out; omega
                        clear hs1 hs2 hen hy hoy h3
                        go_upto_region 42 with fail
                        go_region
                        all_goals
                          go_wp2_with fail
                          go_roundw
                          case rel => exact ⟨j + 1, os, by omega, by go_num, by rw [HM9.out]; omega, HO1', HI1, HB1'⟩
                          case measure => simp [intOf]; omega
                      · have d4 : ((oy2 : Int) == 3) = false := by rw [beq_eq_false_iff_ne]; omega
                        clear hy hoy h3
                        go_upto_region 42 with fail
                        go_region
                        all_goals
                          go_wp2_with fail
                          go_roundw
                          case rel => exact ⟨j + 1, os, by omega, by go_num, by rw [HM9.out]; omega, HO1', HI1, HB1'⟩
                          case measure => simp [intOf]; omega
                  have e2 : ((op : Int) == 2) = false := by rw [beq_eq_false_iff_ne]; omega
                  have e3 : ((op : Int) == 3) = false := by rw [beq_eq_false_iff_ne]; omega
                  have e4 : ((op : Int) == 4) = false := by rw [beq_eq_false_iff_ne]; omega
                  have e11 : ((op : Int) == 11) = false := by rw [beq_eq_false_iff_ne]; omega
                  have e12 : ((op : Int) == 12) = false := by rw [beq_eq_false_iff_ne]; omega
                  have e13 : ((op : Int) == 13) = false := by rw [beq_eq_false_iff_ne]; omega
                  clear h2 h3 h4 h11 h12 h13
                  go_wp2_with fail
                  go_roundw
                  case rel => exact ⟨j + 1, os, by omega, by go_num, by omega, HO1, HI1, HB1⟩
                  case measure => simp [intOf]; omega
                · have hge : decide ((j : Int) < (n : Int)) = false := decide_eq_false (by omega)
                  have hge2 : decide (j < n) = false := decide_eq_false hlt
                  have HF := Lib.hid (HBT.out.trans (HB.out.mono hw7))
                  clear hlt
                  go_wp2_with fail
                  go_ret
                  exact ⟨rfl, HF.out⟩
end Go.Proofs.YtknnkmakfcfnjaaDoor
