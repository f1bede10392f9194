/-
  TypingPlays: every call of it. (gen/typing/plays.py)
-/
import Derived.Test.YthkglmkpnhhboaaTyHeavy
namespace Go.Proofs.Ythkglmkpnhhboaa
open Go.RowKit Ins Bin
section
variable {w : World} {G : Nat → Prop} {B0 Q : Nat} {r : Ty.R}
theorem ag_push (h : AtG w G B0 Q r) (l : List UInt8) (A : Option Addr) (c : Nat) (hA : Has w w.heap.size A l) (hl : r.l.length ≤ 500000000) (hh : r.height ≤ 500000000) (hll : l.length ≤ 400000000) :
    Calls Try.prog 11 #[.pointer (some ⟨Q, 0, none⟩), .slice A l.length c] w fun e w' => e = .returned (.tuple #[]) ∧ ∃ G', AtG w' G' B0 Q (r.push l) ∧ Nxt G w G' w' := by
  obtain ⟨⟨vL, h1⟩, _⟩ := h
  refine (rpush_any h1 l A c hA (by omega) (by omega)).mono ?_
  rintro e w' ⟨rfl, ht⟩
  exact ⟨rfl, ht.at⟩
theorem ag_pop (h : AtG w G B0 Q r) (hl : r.l.length ≤ 500000000) (hh : r.height ≤ 500000000) :
    Calls Try.prog 13 #[.pointer (some ⟨Q, 0, none⟩)] w fun e w' => e = .returned (.tuple #[.int .u8 (r.popA.1.toNat : Int), .bool r.popA.2]) ∧ ∃ G', AtG w' G' B0 Q r.pop ∧ Nxt G w G' w' := by
  obtain ⟨⟨vL, h1⟩, _⟩ := h
  refine (rpop_any h1 (by omega) (by omega)).mono ?_
  rintro e w' ⟨rfl, ht⟩
  exact ⟨rfl, ht.at⟩
theorem ag_want (h : AtG w G B0 Q r) (l : List UInt8) (A : Option Addr) (c : Nat) (hA : Has w w.heap.size A l) (hl : r.l.length ≤ 500000000) (hh : r.height ≤ 500000000) (hll : l.length ≤ 400000000) :
    Calls Try.prog 15 #[.pointer (some ⟨Q, 0, none⟩), .slice A l.length c] w fun e w' => e = .returned (.bool (r.wantA l)) ∧ ∃ G', AtG w' G' B0 Q (r.want l) ∧ Nxt G w G' w' := by
  obtain ⟨⟨vL, h1⟩, _⟩ := h
  refine (rwant_any h1 l A c hA (by omega) (by omega) (by omega)).mono ?_
  rintro e w' ⟨rfl, ht⟩
  exact ⟨rfl, ht.at⟩
theorem ag_open (h : AtG w G B0 Q r) (a b : List UInt8) (va vb : Value) (ha : SliceV w (· < B0) a va) (hb : SliceV w (· < B0) b vb) (hG : ∀ k, G k → B0 ≤ k) (hl : r.l.length ≤ 500000000) :
    Calls Try.prog 17 #[.pointer (some ⟨Q, 0, none⟩), va, vb] w fun e w' => e = .returned (.tuple #[]) ∧ ∃ G', AtG w' G' B0 Q (r.op a b) ∧ Nxt G w G' w' := by
  obtain ⟨⟨vL, h1⟩, _⟩ := h
  refine (ropen_any h1 ha hb hG (by omega)).mono ?_
  rintro e w' ⟨rfl, ht⟩
  exact ⟨rfl, ht.at⟩
theorem ag_close (h : AtG w G B0 Q r) (hl : r.l.length ≤ 500000000) (hh : r.height ≤ 500000000) (hel : ∀ f ∈ r.l, f.ends.length ≤ 500000000) :
    Calls Try.prog 19 #[.pointer (some ⟨Q, 0, none⟩)] w fun e w' => ansS (fun k => G k ∨ k < B0) r.closeA e w' ∧ ∃ G', AtG w' G' B0 Q r.close ∧ Nxt G w G' w' := by
  obtain ⟨⟨vL, h1⟩, _⟩ := h
  refine (rclose_any h1 (by omega) (by omega) (fun f hf => by have := hel f hf; omega)).mono ?_
  rintro e w' ⟨ha, ht⟩
  exact ⟨ha, ht.at⟩
theorem ag_kill (h : AtG w G B0 Q r) (hl : r.l.length ≤ 500000000) :
    Calls Try.prog 21 #[.pointer (some ⟨Q, 0, none⟩)] w fun e w' => e = .returned (.tuple #[]) ∧ ∃ G', AtG w' G' B0 Q r.kill ∧ Nxt G w G' w' := by
  obtain ⟨⟨vL, h1⟩, _⟩ := h
  refine (rkill_any h1 (by omega)).mono ?_
  rintro e w' ⟨rfl, ht⟩
  exact ⟨rfl, ht.at⟩
theorem ag_label (h : AtG w G B0 Q r) (n : Nat) (hn : n < 4294967296) (hl : r.l.length ≤ 500000000) :
    Calls Try.prog 23 #[.pointer (some ⟨Q, 0, none⟩), .int .u32 (n : Int)] w fun e w' => ansS (fun k => G k ∨ k < B0) (r.labelA n) e w' ∧ Below w.heap.size w w' := by
  obtain ⟨⟨vL, h1⟩, _⟩ := h
  exact rlabel_any h1 n hn (by omega)
theorem ag_height (h : AtG w G B0 Q r) (hl : r.l.length ≤ 500000000) (hh : r.height ≤ 500000000) :
    Calls Try.prog 26 #[.pointer (some ⟨Q, 0, none⟩)] w fun e w' => w' = w ∧ e = .returned (.int .i64 (r.height : Int)) := by
  obtain ⟨⟨vL, h1⟩, _⟩ := h
  exact rheight_any h1 (by omega) (by omega)
end
/-- What is asked at a round's end, in whatever world behind. -/
theorem Pr.asks {w0 w : World} {F G : Nat → Prop} {P Q X n : Nat} {cx : Array Value} {s : Ty.T} {r : Ty.R} (h : Pr w0 w F G P Q X cx s r) (hs : Ty.sim s r) (hm : s.sm n) (hn : n ≤ 500000000) : ∀ W, Below w.heap.size w W →
    (Calls Try.prog 24 #[.pointer (some ⟨P, 0, none⟩)] W fun e w' => e = .returned (.int .i64 (r.l.length : Int)) ∧ w' = W) ∧ (Calls Try.prog 25 #[.pointer (some ⟨P, 0, none⟩)] W fun e w' => e = .returned (.int .i64 (r.height : Int)) ∧ w' = W) ∧
      (Calls Try.prog 27 #[.pointer (some ⟨P, 0, none⟩)] W fun e w' => e = .returned (.int .i64 (r.most : Int)) ∧ w' = W) ∧ (Calls Try.prog 26 #[.pointer (some ⟨Q, 0, none⟩)] W fun e w' => e = .returned (.int .i64 (r.height : Int)) ∧ w' = W) ∧
      ∃ A c, W.cell? ⟨Q, 0, none⟩ = some (.slice A r.l.length c) ∧ W.cell? ⟨Q, 2, none⟩ = some (.int .i64 (r.most : Int)) := by
  intro W hW
  have hf := h.f.on hW
  have hg := h.g.on hW
  have e1 := Ty.sim_frames hs
  have e2 := Ty.sim_height hs
  have e3 := Ty.sim_most hs
  obtain ⟨m1, m2, m3, _⟩ := hm
  refine ⟨(at_frames hf).mono (fun e w' hq => ⟨by rw [hq.2, e1], hq.1⟩), (at_height hf).mono (fun e w' hq => ⟨by rw [hq.2, e2], hq.1⟩), (at_most hf).mono (fun e w' hq => ⟨by rw [hq.2, e3], hq.1⟩), (ag_height hg (by omega) (by omega)).mono (fun e w' hq => ⟨hq.2, hq.1⟩), ?_⟩
  obtain ⟨⟨vL, h1⟩, _⟩ := hg
  obtain ⟨A, c, rfl, _, _⟩ := h1.form
  exact ⟨A, c, h1.cell0, h1.cell2⟩
theorem Pr.cells {w0 w : World} {F G : Nat → Prop} {P Q X : Nat} {a b c d : Value} {s : Ty.T} {r : Ty.R} (h : Pr w0 w F G P Q X #[a, b, c, d] s r) : w.cell? ⟨X, 0, none⟩ = some a ∧ w.cell? ⟨X, 1, none⟩ = some b ∧ w.cell? ⟨X, 2, none⟩ = some c ∧ w.cell? ⟨X, 3, none⟩ = some d :=
  ⟨by rw [cell_of_row w X 0 _ _ (0, 0) h.xc]; rfl, by rw [cell_of_row w X 1 _ _ (0, 0) h.xc]; rfl, by rw [cell_of_row w X 2 _ _ (0, 0) h.xc]; rfl, by rw [cell_of_row w X 3 _ _ (0, 0) h.xc]; rfl⟩
set_option linter.unusedSimpArgs false in
set_option linter.unusedVariables false in
set_option maxRecDepth 100000 in
set_option maxHeartbeats 60000000 in
theorem typingPlays_any (hk : KnownOk) (ends : List UInt8) (xs : List Do9) (AE AX : Option Addr) (cE cX : Nat) (w : World) (hE : SliceV w (· < w.heap.size) ends (.slice AE ends.length cE)) (hX : SliceV w (· < w.heap.size) xs (.slice AX xs.length cX)) (hl1 : ends.length ≤ 140737488355328) (hl2 : xs.length ≤ 140737488355328) (hbig : ∀ x ∈ xs, x.l.length ≤ 140737488355328 ∧ x.ends.length ≤ 140737488355328) :
    Calls Try.prog 3 #[.slice AE ends.length cE, .slice AX xs.length cX] w fun e w' => e = .returned (.bool true) ∧ Below w.heap.size w w' := by
  have HKN := Lib.hid hk
  have HE := Lib.hid hE
  have hXL : HasL w (· < w.heap.size) AX xs := by
    obtain ⟨A', c', e, _, _, _, h5⟩ := hX
    injection e with e1 _ _
    subst e1
    exact h5
  have HX := Lib.hid hXL
  have HHV : Hid (∀ W, Below w.heap.size w W → Calls Try.prog 7 #[.slice AX xs.length cX] W fun e w' => ∃ b : Bool, e = .returned (.bool b) ∧ Below W.heap.size W w' ∧ (b = false → xs.length ≤ 300 ∧ ∀ x ∈ xs, x.l.length ≤ 2000 ∧ x.ends.length ≤ 2000)) := Lib.hid (fun W hW => heavy_any xs AX cX W (hXL.grow hW) hl2 hbig)
  obtain ⟨nE, hnE⟩ : ∃ n, ends.length = n := ⟨_, rfl⟩
  obtain ⟨n, hn⟩ : ∃ n, xs.length = n := ⟨_, rfl⟩
  rw [hnE] at hl1
  rw [hn] at HHV hl2
  rw [hnE, hn]
  have HNE := Lib.hid hnE
  have HN := Lib.hid hn
  clear hk hE hX hXL hbig hnE hn
  go_enter Try.func3, Try.ntmps3
  go_upto_region 3 with (go_at_call 6; refine (HKN.out _).mono ?_; rintro e w1 ⟨rfl, hb⟩; have HB1 := Lib.hid hb; clear hb)
  go_cut [29] from 23 to 29 (fun s wx => ∃ q : Bool, s = .bool q ∧ Hid (Below w.heap.size w wx) ∧ Hid (q = false → (n ≤ 300 ∧ ∀ x ∈ xs, x.l.length ≤ 2000 ∧ x.ends.length ≤ 2000) ∧ nE ≤ 1000))
  case first =>
    by_cases hn3 : nE ≤ 1000
    · have hn3i : ¬ (1000 : Int) < (nE : Int) := by omega
      go_wp2_with (go_at_call 7; refine (HHV.out _ HB1.out).mono ?_; rintro e w2 ⟨b, rfl, hb, hsm⟩; have HB2 := Lib.hid (HB1.out.trans (hb.mono HB1.out.size)); have HSM := Lib.hid hsm; clear hb hsm)
      all_goals
        go_meet
        case rel => exact ⟨_, rfl, HB2, Lib.hid (fun h => ⟨HSM.out (by first | assumption | (simp at h; done) | (simp at h; exact h) | simp_all), hn3⟩)⟩
    · have hn3i : (1000 : Int) < (nE : Int) := by omega
      go_wp2_with (go_at_call 7; refine (HHV.out _ HB1.out).mono ?_; rintro e w2 ⟨b, rfl, hb, hsm⟩; have HB2 := Lib.hid (HB1.out.trans (hb.mono HB1.out.size)); have HSM := Lib.hid hsm; clear hb hsm)
      all_goals
        go_meet
        case rel => exact ⟨_, rfl, HB2, Lib.hid (fun h => by simp_all)⟩
  case rest =>
    obtain ⟨q, rfl, HB2, HQ⟩ := hcut
    cases q with
    | true =>
      go_wp2_with fail
      go_ret
      exact ⟨rfl, HB2.out⟩
    | false =>
      obtain ⟨⟨hn300, hsmall⟩, hnE1⟩ := HQ.out rfl
      have HSL := Lib.hid hsmall
      clear HQ HB1 HHV hsmall hl1 hl2
      go_upto_region 7 with (first
        | (go_at_call 8; (have hc := at_new ends _ wc (HE.out.grow HB2.out) (by rw [HNE.out]; omega)); rw [HNE.out] at hc; refine hc.mono ?_; rintro e w3 ⟨P, F, rfl, h3, hf3, hb3⟩; have HA3 := Lib.hid h3; have HF3 := Lib.hid hf3; have HB3 : Hid (Below w.heap.size w w3) := Lib.hid (HB2.out.trans (hb3.mono HB2.out.size)); clear h3 hf3 hb3 hc)
        | (go_at_call 9; (have hc := rnew_any ends _ w3 w.heap.size HB3.out.size (HE.out.mod (T := fun _ => False) (Mod.of_below HB3.out) (fun _ _ _ h => h))); rw [HNE.out] at hc; refine hc.mono ?_; rintro e w4 ⟨Q, G, rfl, h4, hg4, hb4⟩; have hrel : Rel9 w w4 P Q 0 := ⟨F, G, _, _, HA3.out.on hb4, h4, fun k hk => Nat.le_trans HB2.out.size (HF3.out k hk), fun k hk => Nat.le_trans HB3.out.size (hg4 k hk), fun k hk hg => (by have := HA3.out.2.2 k hk; have := hg4 k hg; omega), HB3.out.trans (hb4.mono HB3.out.size), Ty.sim_new ends, Ty.sm_new (by rw [HNE.out]; omega) (by omega)⟩; have HREL := Lib.hid hrel; clear h4 hg4 hb4 hc hrel))
      clear HB3 HA3 HF3 HB2
      go_loopw [36] (fun i wr => ∃ j : Nat, j ≤ n ∧ i = .int .i64 (j : Int) ∧ Hid (Rel9 w wr P Q j)) (fun i _ => n - (intOf i).toNat)
      case atStart => exact ⟨0, by omega, rfl, HREL⟩
      case round =>
        obtain ⟨j, hj, rfl, HR⟩ := hrel
        clear HREL
        by_cases hjn : j < n
        · obtain ⟨x, hx⟩ : ∃ x, xs[j]? = some x := ⟨_, List.getElem?_eq_getElem (by have := HN.out; omega)⟩
          obtain ⟨g0, o0, A1, c1, A2, c2, rfl, hcc, hxn, hsl1, hsl2⟩ := do_at HX.out hx
          obtain ⟨b1, b2⟩ := HSL.out x (List.mem_of_getElem? hx)
          have hwr : Below w.heap.size w wr := by
            obtain ⟨F, G, s, r, _, _, _, _, _, h6, _⟩ := HR.out
            exact h6
          obtain ⟨k0, k1, k2, k3⟩ := hcc wr hwr
          have hji : (j : Int) < (n : Int) := by omega
          obtain ⟨wa, hwa⟩ : ∃ W, wr.alloc (.cells #[.int .i64 x.kind, .slice A1 x.l.length c1, .slice A2 x.ends.length c2, .int .u32 (x.n : Int)] 32) = W := ⟨_, rfl⟩
          obtain ⟨F, G, s, r, hpr, hsim, hsm⟩ := HR.out.pr hwa.symm
          have hrl : r.l.length ≤ 500000000 := by rw [← Ty.sim_frames hsim]; have := hsm.2.2.1; omega
          have hrh : r.height ≤ 500000000 := by rw [← Ty.sim_height hsim]; have := hsm.1; omega
          have hre : ∀ f ∈ r.l, f.ends.length ≤ 500000000 := fun f hf => by have := Ty.sim_ends hsim hsm f hf; omega
          have HRL := Lib.hid hrl
          have HRH := Lib.hid hrh
          have HRE := Lib.hid hre
          have HSIM := Lib.hid hsim
          have HSM := Lib.hid hsm
          have HL1 := Lib.hid hsl1
          have HL2 := Lib.hid hsl2
          have HXN := Lib.hid hxn
          obtain ⟨X, hX⟩ : ∃ X, wr.heap.size = X := ⟨_, rfl⟩
          rw [hX] at hpr
          obtain ⟨n1, hn1⟩ : ∃ x', x.l.length = x' := ⟨_, rfl⟩
          obtain ⟨n2, hn2⟩ : ∃ x', x.ends.length = x' := ⟨_, rfl⟩
          obtain ⟨xn, hnn⟩ : ∃ x', (x.n : Int) = x' := ⟨_, rfl⟩
          obtain ⟨kd, hkd⟩ : ∃ x', x.kind = x' := ⟨_, rfl⟩
          rw [hn1, hn2, hnn, hkd] at hwa hpr
          rw [hn1] at k1 b1
          rw [hn2] at k2 b2
          rw [hnn] at k3
          rw [hkd] at k0
          have HN1 := Lib.hid hn1
          have HN2 := Lib.hid hn2
          have HNN := Lib.hid hnn
          have HJ := Lib.hid hjn
          have HPA := Lib.hid hpr
          obtain ⟨q0, q1, q2, q3⟩ := hpr.cells
          have hj3 : j ≤ 300 := by omega
          clear hcc hwr hpr hsim hsm hrl hrh hre hsl1 hsl2 hxn hn1 hn2 hnn hkd hjn hj hx HR
          go_upto_region 9 with fail
          try simp only [hX]
          clear hX
          try rw [hwa]
          clear hwa k0 k1 k2 k3
          by_cases hk0 : kd = 0
          · as_aux_lemma =>
              subst hk0
              have HSI : Hid (Ty.sim (s.push x.l) (r.push x.l)) := Lib.hid (Ty.sim_push HSIM.out x.l)
              have HSMN : Hid ((s.push x.l).sm (2000 * (j + 1 + 1))) := Lib.hid ((Ty.sm_push (k := 2000) HSM.out (by rw [HN1.out]; omega)).up (by omega))
              go_upto_region 37 with (first | (go_at_call 10; (have hc := at_push HPA.out.f HSM.out (by omega) x.l A1 c1 ((HL1.out.hasA).on HPA.out.b) (by rw [HN1.out]; omega)); rw [HN1.out] at hc; refine hc.mono ?_; rintro e w5 ⟨rfl, F5, h5, hn5⟩; have HP5 := Lib.hid (HPA.out.stepF h5 hn5); clear q0 q1 q2 q3; obtain ⟨z0, z1, z2, z3⟩ := HP5.out.cells; clear h5 hn5 hc) | (go_at_call 11; (have hc := ag_push HP5.out.g x.l A1 c1 ((HL1.out.hasA).on HP5.out.b) HRL.out HRH.out (by rw [HN1.out]; omega)); rw [HN1.out] at hc; refine hc.mono ?_; rintro e w6 ⟨rfl, G6, h6, hn6⟩; have HP6 := Lib.hid (HP5.out.stepG h6 hn6); clear h6 hn6 hc z0 z1 z2 z3))
              have has := HP6.out.asks HSI.out HSMN.out (by omega)
              obtain ⟨AL, cL, y0, y2⟩ := (has w6 (Below.refl _ _)).2.2.2.2
              obtain ⟨fl, hfl⟩ : ∃ vv, (r.push x.l).l.length = vv := ⟨_, rfl⟩
              obtain ⟨hg9, hhg9⟩ : ∃ vv, (r.push x.l).height = vv := ⟨_, rfl⟩
              obtain ⟨mo9, hmo9⟩ : ∃ vv, (r.push x.l).most = vv := ⟨_, rfl⟩
              rw [hfl, hhg9, hmo9] at has
              rw [hfl] at y0
              rw [hmo9] at y2
              have HAS := Lib.hid has
              clear has hfl hhg9 hmo9
              go_wp2_with fail
              go_quiet ((first | (go_at_call 24; exact Calls.quiet_of_same (HAS.out _ (Below.dn (Below.refl _ _) _)).1) | (go_at_call 25; exact Calls.quiet_of_same (HAS.out _ (Below.dn (Below.refl _ _) _)).2.1) | (go_at_call 27; exact Calls.quiet_of_same (HAS.out _ (Below.dn (Below.refl _ _) _)).2.2.1) | (go_at_call 26; exact Calls.quiet_of_same (HAS.out _ (Below.dn (Below.refl _ _) _)).2.2.2.1)))
              go_wp2_with fail
              go_roundw
              case rel => exact ⟨j + 1, by have := HJ.out; omega, by go_num, Lib.hid ((HP6.out.on (Below.dn (Below.refl _ _) _)).rel HSI.out HSMN.out)⟩
              case measure => have := HJ.out; simp [intOf]; omega
          · have hk0b : (kd == 0) = false := by rw [beq_eq_false_iff_ne]; exact hk0
            clear hk0
            by_cases hk1 : kd = 1
            · as_aux_lemma =>
                subst hk1
                have HPO := Lib.hid (Ty.sim_pop HSIM.out).1.symm
                have HSI := Lib.hid (Ty.sim_pop HSIM.out).2
                have HSMN : Hid (s.pop.sm (2000 * (j + 1 + 1))) := Lib.hid ((Ty.sm_pop HSM.out).up (by omega))
                obtain ⟨pa, hpa⟩ : ∃ x, s.popA = x := ⟨_, rfl⟩
                have HPAA := Lib.hid hpa
                clear hpa
                obtain ⟨pz, hpz⟩ : ∃ z, ((s.popA.1).toNat : Int) = z := ⟨_, rfl⟩
                have hpne : (((s.popA.1).toNat : Int) != ((s.popA.1).toNat : Int)) = false := by simp
                have hpne2 : (s.popA.2 != s.popA.2) = false := by simp
                clear hpz
                go_upto_region 37 with (first | (go_at_call 12; (have hc := at_pop HPA.out.f HSM.out (by omega)); refine hc.mono ?_; rintro e w5 ⟨rfl, F5, h5, hn5⟩; have HP5 := Lib.hid (HPA.out.stepF h5 hn5); clear q0 q1 q2 q3; clear h5 hn5 hc) | (go_at_call 13; (have hc := ag_pop HP5.out.g HRL.out HRH.out); rw [HPO.out] at hc; refine hc.mono ?_; rintro e w6 ⟨rfl, G6, h6, hn6⟩; have HP6 := Lib.hid (HP5.out.stepG h6 hn6); clear h6 hn6 hc))
                have has := HP6.out.asks HSI.out HSMN.out (by omega)
                obtain ⟨AL, cL, y0, y2⟩ := (has w6 (Below.refl _ _)).2.2.2.2
                obtain ⟨fl, hfl⟩ : ∃ vv, r.pop.l.length = vv := ⟨_, rfl⟩
                obtain ⟨hg9, hhg9⟩ : ∃ vv, r.pop.height = vv := ⟨_, rfl⟩
                obtain ⟨mo9, hmo9⟩ : ∃ vv, r.pop.most = vv := ⟨_, rfl⟩
                rw [hfl, hhg9, hmo9] at has
                rw [hfl] at y0
                rw [hmo9] at y2
                have HAS := Lib.hid has
                clear has hfl hhg9 hmo9
                go_wp2_with fail
                go_quiet ((first | (go_at_call 24; exact Calls.quiet_of_same (HAS.out _ (Below.dn (Below.refl _ _) _)).1) | (go_at_call 25; exact Calls.quiet_of_same (HAS.out _ (Below.dn (Below.refl _ _) _)).2.1) | (go_at_call 27; exact Calls.quiet_of_same (HAS.out _ (Below.dn (Below.refl _ _) _)).2.2.1) | (go_at_call 26; exact Calls.quiet_of_same (HAS.out _ (Below.dn (Below.refl _ _) _)).2.2.2.1)))
                go_wp2_with fail
                go_roundw
                case rel => exact ⟨j + 1, by have := HJ.out; omega, by go_num, Lib.hid ((HP6.out.on (Below.dn (Below.refl _ _) _)).rel HSI.out HSMN.out)⟩
                case measure => have := HJ.out; simp [intOf]; omega
            · have hk1b : (kd == 1) = false := by rw [beq_eq_false_iff_ne]; exact hk1
              clear hk1
              by_cases hk2 : kd = 2
              · as_aux_lemma =>
                  subst hk2
                  have HWQ := Lib.hid (Ty.sim_want HSIM.out x.l).1.symm
                  have HSI := Lib.hid (Ty.sim_want HSIM.out x.l).2
                  have HSMN : Hid ((s.want x.l).sm (2000 * (j + 1 + 1))) := Lib.hid ((Ty.sm_want HSM.out x.l).up (by omega))
                  have hwne : (s.wantA x.l != s.wantA x.l) = false := by simp
                  go_upto_region 19 with fail
                  clear q0 q1 q2 q3
                  refine wp_region_held_drew (S := fun W' => W'.cell? ⟨X, 1, none⟩ = some (.slice A1 n1 c1)) (by kernel_rfl) (HPA.out.cells.2.1) (fun hHeld => ?_)
                  refine drawn_take 0 rfl (by kernel_rfl) (by kernel_rfl) (by kernel_rfl) (fun _ _ _ h => h) (by rfl) (by assumption) (v := ?_) ?_ ?_
                  rotate_left
                  · (intro wy hSw; go_simp; try with_reducible rfl)
                  simp only [Act.put, List.setIfInBounds_toArray, List.set_cons_zero, List.set_cons_succ]
                  refine drawn_take 1 rfl (by kernel_rfl) (by kernel_rfl) (by kernel_rfl) (fun _ _ _ h => h) (by rfl) (by assumption) (v := ?_) ?_ ?_
                  rotate_left
                  · (intro wy hSw; go_simp; try with_reducible rfl)
                  simp only [Act.put, List.setIfInBounds_toArray, List.set_cons_zero, List.set_cons_succ]
                  refine drawn_take 2 rfl (by kernel_rfl) (by kernel_rfl) (by kernel_rfl) (fun _ _ _ h => h) (by rfl) (by assumption) (v := ?_) ?_ ?_
                  rotate_left
                  · (intro wy hSw; go_simp; try with_reducible rfl)
                  simp only [Act.put, List.setIfInBounds_toArray, List.set_cons_zero, List.set_cons_succ]
                  refine drawn_take 4 rfl (by kernel_rfl) (by kernel_rfl) (by kernel_rfl) (fun _ _ _ h => h) (by rfl) (by assumption) (v := ?_) ?_ ?_
                  rotate_left
                  · (intro wy hSw; go_simp; try with_reducible rfl)
                  simp only [Act.put, List.setIfInBounds_toArray, List.set_cons_zero, List.set_cons_succ]
                  refine drawn_take 5 rfl (by kernel_rfl) (by kernel_rfl) (by kernel_rfl) (fun _ _ _ h => h) (by rfl) (by assumption) (v := ?_) ?_ ?_
                  rotate_left
                  · (intro wy hSw; go_simp; try with_reducible rfl)
                  simp only [Act.put, List.setIfInBounds_toArray, List.set_cons_zero, List.set_cons_succ]
                  refine drawn_take 6 rfl (by kernel_rfl) (by kernel_rfl) (by kernel_rfl) (fun _ _ _ h => h) (by rfl) (by assumption) (v := ?_) ?_ ?_
                  rotate_left
                  · (intro wy hSw; go_simp; try with_reducible rfl)
                  simp only [Act.put, List.setIfInBounds_toArray, List.set_cons_zero, List.set_cons_succ]
                  refine drawn_sole 3 rfl (by kernel_rfl) (fun K hK => ?_)
                  go_simp
                  have hPD := HPA.out.on (w' := wa.drew) (Below.drew (Below.refl _ _))
                  have hc := at_want hPD.f HSM.out (by omega) x.l A1 c1 ((HL1.out.hasA).on hPD.b) (by rw [HN1.out]; omega)
                  rw [HN1.out] at hc
                  refine hc.mono ?_
                  rintro e w5 ⟨rfl, F5, h5, hn5⟩
                  have HP5 := Lib.hid (hPD.stepF h5 hn5)
                  clear h5 hn5 hc hPD
                  go_wp2_with fail
                  refine hK.out _ _ HP5.out.cells.2.1 (fun hHeld2 => ?_)
                  clear hK K hHeld
                  have hHeld := hHeld2
                  clear hHeld2
                  refine drawn_sole 7 rfl (by kernel_rfl) (fun K hK => ?_)
                  go_simp
                  have hc := ag_want HP5.out.g x.l A1 c1 ((HL1.out.hasA).on HP5.out.b) HRL.out HRH.out (by rw [HN1.out]; omega)
                  rw [HN1.out, HWQ.out] at hc
                  refine hc.mono ?_
                  rintro e w6 ⟨rfl, G6, h6, hn6⟩
                  have HP6 := Lib.hid (HP5.out.stepG h6 hn6)
                  clear h6 hn6 hc
                  go_wp2_with fail
                  refine hK.out _ _ HP6.out.cells.2.1 (fun hHeld2 => ?_)
                  clear hK K hHeld
                  have hHeld := hHeld2
                  clear hHeld2
                  refine drawn_take 8 rfl (by kernel_rfl) (by kernel_rfl) (by kernel_rfl) (fun _ _ _ h => h) (by rfl) (by assumption) (v := ?_) ?_ ?_
                  rotate_left
                  · (intro wy hSw; go_simp; try with_reducible rfl)
                  simp only [Act.put, List.setIfInBounds_toArray, List.set_cons_zero, List.set_cons_succ]
                  refine wpAnyH_done (by kernel_rfl) ?_ _
                  clear hHeld
                  go_upto_region 37 with fail
                  have has := HP6.out.asks HSI.out HSMN.out (by omega)
                  obtain ⟨AL, cL, y0, y2⟩ := (has w6 (Below.refl _ _)).2.2.2.2
                  obtain ⟨fl, hfl⟩ : ∃ vv, (r.want x.l).l.length = vv := ⟨_, rfl⟩
                  obtain ⟨hg9, hhg9⟩ : ∃ vv, (r.want x.l).height = vv := ⟨_, rfl⟩
                  obtain ⟨mo9, hmo9⟩ : ∃ vv, (r.want x.l).most = vv := ⟨_, rfl⟩
                  rw [hfl, hhg9, hmo9] at has
                  rw [hfl] at y0
                  rw [hmo9] at y2
                  have HAS := Lib.hid has
                  clear has hfl hhg9 hmo9
                  go_wp2_with fail
                  go_quiet ((first | (go_at_call 24; exact Calls.quiet_of_same (HAS.out _ (Below.dn (Below.refl _ _) _)).1) | (go_at_call 25; exact Calls.quiet_of_same (HAS.out _ (Below.dn (Below.refl _ _) _)).2.1) | (go_at_call 27; exact Calls.quiet_of_same (HAS.out _ (Below.dn (Below.refl _ _) _)).2.2.1) | (go_at_call 26; exact Calls.quiet_of_same (HAS.out _ (Below.dn (Below.refl _ _) _)).2.2.2.1)))
                  go_wp2_with fail
                  go_roundw
                  case rel => exact ⟨j + 1, by have := HJ.out; omega, by go_num, Lib.hid ((HP6.out.on (Below.dn (Below.refl _ _) _)).rel HSI.out HSMN.out)⟩
                  case measure => have := HJ.out; simp [intOf]; omega
              · have hk2b : (kd == 2) = false := by rw [beq_eq_false_iff_ne]; exact hk2
                clear hk2
                by_cases hk3 : kd = 3
                · as_aux_lemma =>
                    subst hk3
                    have HSI := Lib.hid (Ty.sim_op HSIM.out x.l x.ends)
                    have HSMN : Hid ((s.op x.l x.ends).sm (2000 * (j + 1 + 1))) := Lib.hid ((Ty.sm_op (k := 2000) HSM.out (by rw [HN1.out]; omega) (by rw [HN2.out]; omega) (by omega)).up (by omega))
                    go_upto_region 37 with (first | (go_at_call 16; (have hc := at_open HPA.out.f HSM.out (by omega) x.l x.ends _ _ ((HL1.out).grow HPA.out.b) ((HL2.out).grow HPA.out.b) (by rw [HN1.out]; omega) (by rw [HN2.out]; omega)); rw [HN1.out, HN2.out] at hc; refine hc.mono ?_; rintro e w5 ⟨rfl, F5, h5, hn5⟩; have HP5 := Lib.hid (HPA.out.stepF h5 hn5); clear q0 q1 q2 q3; obtain ⟨z0, z1, z2, z3⟩ := HP5.out.cells; clear h5 hn5 hc) | (go_at_call 17; (have hc := ag_open HP5.out.g x.l x.ends _ _ (HL1.out.mod (T := fun _ => False) (Mod.of_below HP5.out.b) (fun _ _ _ h => h)) (HL2.out.mod (T := fun _ => False) (Mod.of_below HP5.out.b) (fun _ _ _ h => h)) HP5.out.gB HRL.out); rw [HN1.out, HN2.out] at hc; refine hc.mono ?_; rintro e w6 ⟨rfl, G6, h6, hn6⟩; have HP6 := Lib.hid (HP5.out.stepG h6 hn6); clear h6 hn6 hc z0 z1 z2 z3))
                    have has := HP6.out.asks HSI.out HSMN.out (by omega)
                    obtain ⟨AL, cL, y0, y2⟩ := (has w6 (Below.refl _ _)).2.2.2.2
                    obtain ⟨fl, hfl⟩ : ∃ vv, (r.op x.l x.ends).l.length = vv := ⟨_, rfl⟩
                    obtain ⟨hg9, hhg9⟩ : ∃ vv, (r.op x.l x.ends).height = vv := ⟨_, rfl⟩
                    obtain ⟨mo9, hmo9⟩ : ∃ vv, (r.op x.l x.ends).most = vv := ⟨_, rfl⟩
                    rw [hfl, hhg9, hmo9] at has
                    rw [hfl] at y0
                    rw [hmo9] at y2
                    have HAS := Lib.hid has
                    clear has hfl hhg9 hmo9
                    go_wp2_with fail
                    go_quiet ((first | (go_at_call 24; exact Calls.quiet_of_same (HAS.out _ (Below.dn (Below.refl _ _) _)).1) | (go_at_call 25; exact Calls.quiet_of_same (HAS.out _ (Below.dn (Below.refl _ _) _)).2.1) | (go_at_call 27; exact Calls.quiet_of_same (HAS.out _ (Below.dn (Below.refl _ _) _)).2.2.1) | (go_at_call 26; exact Calls.quiet_of_same (HAS.out _ (Below.dn (Below.refl _ _) _)).2.2.2.1)))
                    go_wp2_with fail
                    go_roundw
                    case rel => exact ⟨j + 1, by have := HJ.out; omega, by go_num, Lib.hid ((HP6.out.on (Below.dn (Below.refl _ _) _)).rel HSI.out HSMN.out)⟩
                    case measure => have := HJ.out; simp [intOf]; omega
                · have hk3b : (kd == 3) = false := by rw [beq_eq_false_iff_ne]; exact hk3
                  clear hk3
                  by_cases hk4 : kd = 4
                  · as_aux_lemma =>
                      subst hk4
                      have HCE := Lib.hid (Ty.sim_close HSIM.out).1
                      have HSI := Lib.hid (Ty.sim_close HSIM.out).2
                      have HSMN : Hid (s.close.sm (2000 * (j + 1 + 1))) := Lib.hid ((Ty.sm_close HSM.out).up (by omega))
                      cases hca : s.closeA with
                      | none =>
                        have HCA := Lib.hid hca
                        clear hca
                        go_upto_region 37 with (first | (go_at_call 18; (have hc := at_close HPA.out.f HSM.out (by omega)); rw [HCA.out] at hc; refine hc.mono ?_; rintro e w5 ⟨rfl, F5, h5, hn5⟩; have HP5 := Lib.hid (HPA.out.stepF h5 hn5); clear q0 q1 q2 q3; clear h5 hn5 hc) | (go_at_call 19; (have hc := ag_close HP5.out.g HRL.out HRH.out HRE.out); rw [← HCE.out, HCA.out] at hc; refine hc.mono ?_; rintro e w6 ⟨rfl, G6, h6, hn6⟩; have HP6 := Lib.hid (HP5.out.stepG h6 hn6); have hs1 : (convert 22 9 (.slice none 0 0)).run Try.prog w6 = .ok (.string ⟨([] : List UInt8).toArray⟩) w6 := run_str (Has.nil w6 w6.heap.size none) rfl 0; clear h6 hn6 hc))
                        have has := HP6.out.asks HSI.out HSMN.out (by omega)
                        obtain ⟨AL, cL, y0, y2⟩ := (has w6 (Below.refl _ _)).2.2.2.2
                        obtain ⟨fl, hfl⟩ : ∃ vv, r.close.l.length = vv := ⟨_, rfl⟩
                        obtain ⟨hg9, hhg9⟩ : ∃ vv, r.close.height = vv := ⟨_, rfl⟩
                        obtain ⟨mo9, hmo9⟩ : ∃ vv, r.close.most = vv := ⟨_, rfl⟩
                        rw [hfl, hhg9, hmo9] at has
                        rw [hfl] at y0
                        rw [hmo9] at y2
                        have HAS := Lib.hid has
                        clear has hfl hhg9 hmo9
                        go_wp2_with fail
                        go_quiet ((first | (go_at_call 24; exact Calls.quiet_of_same (HAS.out _ (Below.dn (Below.refl _ _) _)).1) | (go_at_call 25; exact Calls.quiet_of_same (HAS.out _ (Below.dn (Below.refl _ _) _)).2.1) | (go_at_call 27; exact Calls.quiet_of_same (HAS.out _ (Below.dn (Below.refl _ _) _)).2.2.1) | (go_at_call 26; exact Calls.quiet_of_same (HAS.out _ (Below.dn (Below.refl _ _) _)).2.2.2.1)))
                        go_wp2_with fail
                        go_roundw
                        case rel => exact ⟨j + 1, by have := HJ.out; omega, by go_num, Lib.hid ((HP6.out.on (Below.dn (Below.refl _ _) _)).rel HSI.out HSMN.out)⟩
                        case measure => have := HJ.out; simp [intOf]; omega
                      | some ll =>
                        have HCA := Lib.hid hca
                        clear hca
                        obtain ⟨nl, hnl⟩ : ∃ x, ll.length = x := ⟨_, rfl⟩
                        have HLL := Lib.hid hnl
                        clear hnl
                        go_upto_region 37 with (first | (go_at_call 18; (have hc := at_close HPA.out.f HSM.out (by omega)); rw [HCA.out] at hc; refine hc.mono ?_; rintro e w5 ⟨⟨Aa, ca, he, hsa⟩, F5, h5, hn5⟩; rw [HLL.out] at he; subst he; have HP5 := Lib.hid (HPA.out.stepF h5 hn5); have HSA := Lib.hid hsa; clear q0 q1 q2 q3; clear h5 hn5 hc hsa) | (go_at_call 19; (have hc := ag_close HP5.out.g HRL.out HRH.out HRE.out); rw [← HCE.out, HCA.out] at hc; refine hc.mono ?_; rintro e w6 ⟨⟨Ab, cb, he, hsb⟩, G6, h6, hn6⟩; rw [HLL.out] at he; subst he; have HP6 := Lib.hid (HP5.out.stepG h6 hn6); have hsa := HSA.out.mod hn6.2 (fun k _ hk hg => HPA.out.fg k hk hg); have hs1 := run_str hsa.hasA HLL.out.symm ca; have hs2 := run_str hsb.hasA HLL.out.symm cb; generalize (⟨ll.toArray⟩ : ByteArray) = st at hs1 hs2; clear h6 hn6 hc hsa hsb))
                        have has := HP6.out.asks HSI.out HSMN.out (by omega)
                        obtain ⟨AL, cL, y0, y2⟩ := (has w6 (Below.refl _ _)).2.2.2.2
                        obtain ⟨fl, hfl⟩ : ∃ vv, r.close.l.length = vv := ⟨_, rfl⟩
                        obtain ⟨hg9, hhg9⟩ : ∃ vv, r.close.height = vv := ⟨_, rfl⟩
                        obtain ⟨mo9, hmo9⟩ : ∃ vv, r.close.most = vv := ⟨_, rfl⟩
                        rw [hfl, hhg9, hmo9] at has
                        rw [hfl] at y0
                        rw [hmo9] at y2
                        have HAS := Lib.hid has
                        clear has hfl hhg9 hmo9
                        go_wp2_with fail
                        go_quiet ((first | (go_at_call 24; exact Calls.quiet_of_same (HAS.out _ (Below.dn (Below.refl _ _) _)).1) | (go_at_call 25; exact Calls.quiet_of_same (HAS.out _ (Below.dn (Below.refl _ _) _)).2.1) | (go_at_call 27; exact Calls.quiet_of_same (HAS.out _ (Below.dn (Below.refl _ _) _)).2.2.1) | (go_at_call 26; exact Calls.quiet_of_same (HAS.out _ (Below.dn (Below.refl _ _) _)).2.2.2.1)))
                        go_wp2_with fail
                        go_roundw
                        case rel => exact ⟨j + 1, by have := HJ.out; omega, by go_num, Lib.hid ((HP6.out.on (Below.dn (Below.refl _ _) _)).rel HSI.out HSMN.out)⟩
                        case measure => have := HJ.out; simp [intOf]; omega
                  · have hk4b : (kd == 4) = false := by rw [beq_eq_false_iff_ne]; exact hk4
                    clear hk4
                    by_cases hk5 : kd = 5
                    · as_aux_lemma =>
                        subst hk5
                        have HSI := Lib.hid (Ty.sim_kill HSIM.out)
                        have HSMN : Hid (s.kill.sm (2000 * (j + 1 + 1))) := Lib.hid ((Ty.sm_kill HSM.out).up (by omega))
                        go_upto_region 37 with (first | (go_at_call 20; (have hc := at_dead HPA.out.f HSM.out (by omega)); refine hc.mono ?_; rintro e w5 ⟨rfl, F5, h5, hn5⟩; have HP5 := Lib.hid (HPA.out.stepF h5 hn5); clear q0 q1 q2 q3; clear h5 hn5 hc) | (go_at_call 21; (have hc := ag_kill HP5.out.g HRL.out); refine hc.mono ?_; rintro e w6 ⟨rfl, G6, h6, hn6⟩; have HP6 := Lib.hid (HP5.out.stepG h6 hn6); clear h6 hn6 hc))
                        have has := HP6.out.asks HSI.out HSMN.out (by omega)
                        obtain ⟨AL, cL, y0, y2⟩ := (has w6 (Below.refl _ _)).2.2.2.2
                        obtain ⟨fl, hfl⟩ : ∃ vv, r.kill.l.length = vv := ⟨_, rfl⟩
                        obtain ⟨hg9, hhg9⟩ : ∃ vv, r.kill.height = vv := ⟨_, rfl⟩
                        obtain ⟨mo9, hmo9⟩ : ∃ vv, r.kill.most = vv := ⟨_, rfl⟩
                        rw [hfl, hhg9, hmo9] at has
                        rw [hfl] at y0
                        rw [hmo9] at y2
                        have HAS := Lib.hid has
                        clear has hfl hhg9 hmo9
                        go_wp2_with fail
                        go_quiet ((first | (go_at_call 24; exact Calls.quiet_of_same (HAS.out _ (Below.dn (Below.refl _ _) _)).1) | (go_at_call 25; exact Calls.quiet_of_same (HAS.out _ (Below.dn (Below.refl _ _) _)).2.1) | (go_at_call 27; exact Calls.quiet_of_same (HAS.out _ (Below.dn (Below.refl _ _) _)).2.2.1) | (go_at_call 26; exact Calls.quiet_of_same (HAS.out _ (Below.dn (Below.refl _ _) _)).2.2.2.1)))
                        go_wp2_with fail
                        go_roundw
                        case rel => exact ⟨j + 1, by have := HJ.out; omega, by go_num, Lib.hid ((HP6.out.on (Below.dn (Below.refl _ _) _)).rel HSI.out HSMN.out)⟩
                        case measure => have := HJ.out; simp [intOf]; omega
                    · have hk5b : (kd == 5) = false := by rw [beq_eq_false_iff_ne]; exact hk5
                      clear hk5
                      by_cases hk6 : kd = 6
                      · as_aux_lemma =>
                          subst hk6
                          have HCE := Lib.hid (Ty.sim_label HSIM.out x.n)
                          have HSI := HSIM
                          have HSMN : Hid (s.sm (2000 * (j + 1 + 1))) := Lib.hid (HSM.out.up (by omega))
                          cases hca : s.labelA x.n with
                          | none =>
                            have HCA := Lib.hid hca
                            clear hca
                            go_upto_region 37 with (first | (go_at_call 22; (have hc := at_label HPA.out.f HSM.out (by omega) x.n HXN.out); rw [HCA.out, HNN.out] at hc; refine hc.mono ?_; rintro e w5 ⟨rfl, hb5⟩; have HP5 := Lib.hid (HPA.out.on hb5); clear q0 q1 q2 q3; obtain ⟨z0, z1, z2, z3⟩ := HP5.out.cells; clear hb5 hc) | (go_at_call 23; (have hc := ag_label HP5.out.g x.n HXN.out HRL.out); rw [← HCE.out, HCA.out, HNN.out] at hc; refine hc.mono ?_; rintro e w6 ⟨rfl, hb6⟩; have HP6 := Lib.hid (HP5.out.on hb6); have hs1 : (convert 22 9 (.slice none 0 0)).run Try.prog w6 = .ok (.string ⟨([] : List UInt8).toArray⟩) w6 := run_str (Has.nil w6 w6.heap.size none) rfl 0; clear hb6 hc z0 z1 z2 z3))
                            have has := HP6.out.asks HSI.out HSMN.out (by omega)
                            obtain ⟨AL, cL, y0, y2⟩ := (has w6 (Below.refl _ _)).2.2.2.2
                            obtain ⟨fl, hfl⟩ : ∃ vv, r.l.length = vv := ⟨_, rfl⟩
                            obtain ⟨hg9, hhg9⟩ : ∃ vv, r.height = vv := ⟨_, rfl⟩
                            obtain ⟨mo9, hmo9⟩ : ∃ vv, r.most = vv := ⟨_, rfl⟩
                            rw [hfl, hhg9, hmo9] at has
                            rw [hfl] at y0
                            rw [hmo9] at y2
                            have HAS := Lib.hid has
                            clear has hfl hhg9 hmo9
                            go_wp2_with fail
                            go_quiet ((first | (go_at_call 24; exact Calls.quiet_of_same (HAS.out _ (Below.dn (Below.refl _ _) _)).1) | (go_at_call 25; exact Calls.quiet_of_same (HAS.out _ (Below.dn (Below.refl _ _) _)).2.1) | (go_at_call 27; exact Calls.quiet_of_same (HAS.out _ (Below.dn (Below.refl _ _) _)).2.2.1) | (go_at_call 26; exact Calls.quiet_of_same (HAS.out _ (Below.dn (Below.refl _ _) _)).2.2.2.1)))
                            go_wp2_with fail
                            go_roundw
                            case rel => exact ⟨j + 1, by have := HJ.out; omega, by go_num, Lib.hid ((HP6.out.on (Below.dn (Below.refl _ _) _)).rel HSI.out HSMN.out)⟩
                            case measure => have := HJ.out; simp [intOf]; omega
                          | some ll =>
                            have HCA := Lib.hid hca
                            clear hca
                            obtain ⟨nl, hnl⟩ : ∃ x, ll.length = x := ⟨_, rfl⟩
                            have HLL := Lib.hid hnl
                            clear hnl
                            go_upto_region 37 with (first | (go_at_call 22; (have hc := at_label HPA.out.f HSM.out (by omega) x.n HXN.out); rw [HCA.out, HNN.out] at hc; refine hc.mono ?_; rintro e w5 ⟨⟨Aa, ca, he, hsa⟩, hb5⟩; rw [HLL.out] at he; subst he; have HP5 := Lib.hid (HPA.out.on hb5); have HSA := Lib.hid hsa; clear q0 q1 q2 q3; obtain ⟨z0, z1, z2, z3⟩ := HP5.out.cells; clear hb5 hc hsa) | (go_at_call 23; (have hc := ag_label HP5.out.g x.n HXN.out HRL.out); rw [← HCE.out, HCA.out, HNN.out] at hc; refine hc.mono ?_; rintro e w6 ⟨⟨Ab, cb, he, hsb⟩, hb6⟩; rw [HLL.out] at he; subst he; have HP6 := Lib.hid (HP5.out.on hb6); have hsa := HSA.out.mod (T := fun _ => False) (Mod.of_below hb6) (fun _ _ _ h => h); have hs1 := run_str hsa.hasA HLL.out.symm ca; have hs2 := run_str hsb.hasA HLL.out.symm cb; generalize (⟨ll.toArray⟩ : ByteArray) = st at hs1 hs2; clear hb6 hc hsa hsb z0 z1 z2 z3))
                            have has := HP6.out.asks HSI.out HSMN.out (by omega)
                            obtain ⟨AL, cL, y0, y2⟩ := (has w6 (Below.refl _ _)).2.2.2.2
                            obtain ⟨fl, hfl⟩ : ∃ vv, r.l.length = vv := ⟨_, rfl⟩
                            obtain ⟨hg9, hhg9⟩ : ∃ vv, r.height = vv := ⟨_, rfl⟩
                            obtain ⟨mo9, hmo9⟩ : ∃ vv, r.most = vv := ⟨_, rfl⟩
                            rw [hfl, hhg9, hmo9] at has
                            rw [hfl] at y0
                            rw [hmo9] at y2
                            have HAS := Lib.hid has
                            clear has hfl hhg9 hmo9
                            go_wp2_with fail
                            go_quiet ((first | (go_at_call 24; exact Calls.quiet_of_same (HAS.out _ (Below.dn (Below.refl _ _) _)).1) | (go_at_call 25; exact Calls.quiet_of_same (HAS.out _ (Below.dn (Below.refl _ _) _)).2.1) | (go_at_call 27; exact Calls.quiet_of_same (HAS.out _ (Below.dn (Below.refl _ _) _)).2.2.1) | (go_at_call 26; exact Calls.quiet_of_same (HAS.out _ (Below.dn (Below.refl _ _) _)).2.2.2.1)))
                            go_wp2_with fail
                            go_roundw
                            case rel => exact ⟨j + 1, by have := HJ.out; omega, by go_num, Lib.hid ((HP6.out.on (Below.dn (Below.refl _ _) _)).rel HSI.out HSMN.out)⟩
                            case measure => have := HJ.out; simp [intOf]; omega
                      · have hk6b : (kd == 6) = false := by rw [beq_eq_false_iff_ne]; exact hk6
                        clear hk6
                        have HSI := HSIM
                        have HSMN : Hid (s.sm (2000 * (j + 1 + 1))) := Lib.hid (HSM.out.up (by omega))
                        go_upto_region 37 with fail
                        have has := HPA.out.asks HSI.out HSMN.out (by omega)
                        obtain ⟨AL, cL, y0, y2⟩ := (has wa (Below.refl _ _)).2.2.2.2
                        obtain ⟨fl, hfl⟩ : ∃ vv, r.l.length = vv := ⟨_, rfl⟩
                        obtain ⟨hg9, hhg9⟩ : ∃ vv, r.height = vv := ⟨_, rfl⟩
                        obtain ⟨mo9, hmo9⟩ : ∃ vv, r.most = vv := ⟨_, rfl⟩
                        rw [hfl, hhg9, hmo9] at has
                        rw [hfl] at y0
                        rw [hmo9] at y2
                        have HAS := Lib.hid has
                        clear has hfl hhg9 hmo9
                        go_wp2_with fail
                        go_quiet ((first | (go_at_call 24; exact Calls.quiet_of_same (HAS.out _ (Below.dn (Below.refl _ _) _)).1) | (go_at_call 25; exact Calls.quiet_of_same (HAS.out _ (Below.dn (Below.refl _ _) _)).2.1) | (go_at_call 27; exact Calls.quiet_of_same (HAS.out _ (Below.dn (Below.refl _ _) _)).2.2.1) | (go_at_call 26; exact Calls.quiet_of_same (HAS.out _ (Below.dn (Below.refl _ _) _)).2.2.2.1)))
                        go_wp2_with fail
                        go_roundw
                        case rel => exact ⟨j + 1, by have := HJ.out; omega, by go_num, Lib.hid ((HPA.out.on (Below.dn (Below.refl _ _) _)).rel HSI.out HSMN.out)⟩
                        case measure => have := HJ.out; simp [intOf]; omega
        · obtain rfl : n = j := by omega
          have hli : decide ((n : Int) < (n : Int)) = false := decide_eq_false (by omega)
          have HBZ : Hid (Below w.heap.size w wr) := Lib.hid (by
            obtain ⟨F, G, s, r, _, _, _, _, _, h6, _⟩ := HR.out
            exact h6)
          go_wp2_with fail
          go_ret
          exact ⟨rfl, HBZ.out⟩
end Go.Proofs.Ythkglmkpnhhboaa
