/-
  Layer 9's reference: Close, Push. (gen/typing/reff.py)
-/
import Derived.Test.YthkglmkpnhhboaaTyRefE
namespace Go.Proofs.Ythkglmkpnhhboaa
open Go.RowKit Ins Bin
set_option linter.unusedSimpArgs false in
set_option maxRecDepth 100000 in
set_option maxHeartbeats 4000000 in
theorem rclose_any {w : World} {G : Nat → Prop} {B0 Q : Nat} {r : Ty.R} {vL : Value} (h : Rfk w G B0 Q r vL) (hl : r.l.length ≤ 1000000000) (hh : r.height ≤ 1000000000) (hel : ∀ f ∈ r.l, f.ends.length ≤ 1000000000) :
    Calls Try.prog 19 #[.pointer (some ⟨Q, 0, none⟩)] w fun e w' => ansS (fun k => G k ∨ k < B0) r.closeA e w' ∧ RPost G w B0 Q r.close w' := by
  have HS := Lib.hid h
  have y0 := h.cell0
  rcases Ty.rparts r with hn | ⟨i, f, hf⟩
  · have HK : Hid (r.close = r ∧ r.closeA = none) := Lib.hid (by unfold Ty.R.close Ty.R.closeA Ty.R.last; rw [hn]; exact ⟨rfl, rfl⟩)
    obtain ⟨A', c', rfl, _, _⟩ := h.form
    rw [hn] at y0
    simp only [List.length_nil] at y0
    rw [HK.out.1, HK.out.2]
    clear h hl hh hn hel
    go_enter Try.func19, Try.ntmps19
    go_wp2_with fail
    go_ret2
    exact ⟨rfl, HS.out.same (Below.refl _ _)⟩
  · obtain ⟨g, c', u, v, oo, rfl, hc1, hc2, hGg, hg, hgQ, hcell, hu, hv, ho⟩ := h.inner hf
    have hil : i.length ≤ 1000000000 := by rw [hf] at hl; simp at hl; omega
    have hol : f.own.length ≤ 1000000000 := by
      have : r.height = r.loose + (Ty.total i + (f.own.length + 0)) := by unfold Ty.R.height; rw [hf, Ty.total_append]; rfl
      omega
    have hen := hel f (by rw [hf]; simp)
    obtain ⟨q0, q1, q2, q3, qf⟩ := hcell w rfl
    have ho0 := ho
    obtain ⟨B, d, rfl, hd1, hd2, hd3, hoL⟩ := ho0
    obtain ⟨AU, cu, rfl, _, _, _, huL⟩ := hu
    have hv0 := hv
    obtain ⟨A, c, rfl, hv1, hv2, hv3, hvL⟩ := hv0
    obtain ⟨w0, hw0⟩ : ∃ W, w.alloc (.cells #[.slice AU f.label.length cu, .slice A f.ends.length c, .slice B f.own.length d, .bool f.dead] 54) = W := ⟨_, rfl⟩
    have hx0 : w0.heap[w.heap.size]? = some (.cells #[.slice AU f.label.length cu, .slice A f.ends.length c, .slice B f.own.length d, .bool f.dead] 54 (0, 0)) := by rw [← hw0]; exact heap_alloc_new w _
    have hb0 : Below w.heap.size w w0 := by rw [← hw0]; exact (Below.refl _ _).alloc (Nat.le_refl _) _
    have hfc := rfits_any f.own f.ends f.dead (.slice AU f.label.length cu) (.slice A f.ends.length c) A B c d w0 (hoL.has.on hb0) (hvL.has.on hb0) hol hen hd1 hd2
    rw [fitsL_eq] at hfc
    have hX := hx0
    obtain ⟨X, hXX⟩ : ∃ X, w.heap.size = X := ⟨_, rfl⟩
    rw [hXX] at hx0
    have p0 : w0.cell? ⟨X, 0, none⟩ = some (.slice AU f.label.length cu) := by rw [cell_of_row w0 X 0 _ _ (0, 0) hx0]; rfl
    have p1 : w0.cell? ⟨X, 1, none⟩ = some (.slice A f.ends.length c) := by rw [cell_of_row w0 X 1 _ _ (0, 0) hx0]; rfl
    have p2 : w0.cell? ⟨X, 2, none⟩ = some (.slice B f.own.length d) := by rw [cell_of_row w0 X 2 _ _ (0, 0) hx0]; rfl
    have p3 : w0.cell? ⟨X, 3, none⟩ = some (.bool f.dead) := by rw [cell_of_row w0 X 3 _ _ (0, 0) hx0]; rfl
    have hXQ : X ≠ Q := by have := h.lt; omega
    have HB0 := Lib.hid hb0
    have HEND : Hid (∀ W, Below w0.heap.size w0 W → W.cell? ⟨Q, 0, none⟩ = some (.slice (some ⟨g, 0, none⟩) (i.length + 1) c') ∧ W.frozen? ⟨Q, 0, none⟩ = false ∧ (W.setCell ⟨Q, 0, none⟩ (.slice (some ⟨g, 0, none⟩) i.length c')).cell? ⟨X, 1, none⟩ = some (.slice A f.ends.length c) ∧
        RPost G w B0 Q ⟨i, r.loose, r.most⟩ (W.setCell ⟨Q, 0, none⟩ (.slice (some ⟨g, 0, none⟩) i.length c')) ∧ SliceV (W.setCell ⟨Q, 0, none⟩ (.slice (some ⟨g, 0, none⟩) i.length c')) (fun k => G k ∨ k < B0) f.ends (.slice A f.ends.length c)) := Lib.hid (fun W hW0 => by
      have hW : Below w.heap.size w W := hb0.trans (hW0.mono hb0.size)
      have h' := h.on hW
      have hMS : Mod (· = Q) W (W.setCell ⟨Q, 0, none⟩ (.slice (some ⟨g, 0, none⟩) i.length c')) := Mod.setCell (T := (· = Q)) (Mod.refl _ W) (fun _ => rfl) _
      have hlr := h'.l
      rw [hf] at hlr
      have hdr := hlr.dropLast (fun k _ hs e => hs.2.2.1 (by rw [e]; rfl))
      have hxW : W.heap[X]? = some (.cells #[.slice AU f.label.length cu, .slice A f.ends.length c, .slice B f.own.length d, .bool f.dead] 54 (0, 0)) := (hW0.block X (Array.getElem?_eq_some_iff.1 hx0).1).trans hx0
      refine ⟨h'.cell0, h'.frozen 0, ?_, ⟨G, _, rset h'.blk 0 _ rfl (hdr.more (fun _ _ hs => hs)) h.inQ (fun k e => h.inL k e), fun _ hk => .inl hk, ((Mod.of_below (T := G) hW).setCell (fun _ => h.inQ) _)⟩, ?_⟩
      · rw [cell_of_row _ X 1 _ _ (0, 0) ((heap_setCell_other W _ X _ hXQ).trans hxW)]; rfl
      · exact ((hv.mod (T := fun _ => False) (Mod.of_below hW) (fun _ _ _ h => h)).mod hMS (fun k _ hs e => hs.2.1 e)).more (fun _ _ hs => hs.1))
    cases hfl : Ty.fitsL f f.ends with
    | none =>
      rw [hfl] at hfc
      have HK : Hid (r.close = r ∧ r.closeA = none) := Lib.hid (by unfold Ty.R.close Ty.R.closeA Ty.R.last; rw [Ty.rlast hf]; dsimp only; rw [hfl]; exact ⟨rfl, rfl⟩)
      rw [HK.out.1, HK.out.2]
      have HFC := Lib.hid hfc
      obtain ⟨m, hm⟩ : ∃ m, i.length = m := ⟨_, rfl⟩
      obtain ⟨n, hn⟩ : ∃ m, f.ends.length = m := ⟨_, rfl⟩
      obtain ⟨k, hk⟩ : ∃ m, f.own.length = m := ⟨_, rfl⟩
      obtain ⟨fd, hfd⟩ : ∃ x, f.dead = x := ⟨_, rfl⟩
      rw [hm] at q0 q1 q2 q3 y0 hil HEND hc1
      rw [hk, hfd, hn] at HFC hw0
      generalize f.label.length = nl at *
      rw [hn] at q1 p1 HEND
      rw [hk] at q2 p2
      rw [hfd] at q3 p3
      have HEN := Lib.hid hn
      clear h hl hh hf hel hc1 hc2 hGg hg hgQ hcell huL hv ho hd1 hd2 hd3 hoL hv1 hv2 hv3 hvL hfc hfl hm hn hk hfd qf hol hen hx0 hb0 hX hXQ
      go_enter Try.func19, Try.ntmps19
      go_upto_region 5 with fail
      try simp only [hXX]
      clear hXX
      try rw [hw0]
      clear hw0
      go_wp2_with (go_at_call 31; refine HFC.out.mono ?_; rintro e w1 ⟨he, hb⟩; have he2 : e = .returned (.tuple #[.slice none 0 0, .bool false]) := he; subst he2; have HB := Lib.hid hb; clear hb he)
      go_ret2
      exact ⟨rfl, HS.out.same (HB0.out.trans (HB.out.mono HB0.out.size))⟩
    | some o =>
      rw [hfl] at hfc
      by_cases ho0 : o.length = 0
      · have HK : Hid (r.close = ⟨i, r.loose, r.most⟩ ∧ r.closeA = some f.ends) := Lib.hid (by unfold Ty.R.close Ty.R.closeA Ty.R.last; rw [Ty.rlast hf]; dsimp only; rw [hfl]; dsimp only; rw [if_pos ho0, if_pos ho0, hf]; exact ⟨by simp, rfl⟩)
        rw [HK.out.1, HK.out.2]
        have HFC : Hid (Calls Try.prog 31 #[.agg #[.slice AU f.label.length cu, .slice A f.ends.length c, .slice B f.own.length d, .bool f.dead], .slice A f.ends.length c] w0 fun e w' => e = .returned (.tuple #[.slice B 0 d, .bool true]) ∧ Below w0.heap.size w0 w') := Lib.hid (hfc.mono (fun e w' hq => ⟨by
          have h1 : e = .returned (.tuple #[.slice B o.length d, .bool true]) := hq.1
          rw [ho0] at h1
          exact h1, hq.2⟩))
        obtain ⟨m, hm⟩ : ∃ m, i.length = m := ⟨_, rfl⟩
        obtain ⟨n, hn⟩ : ∃ m, f.ends.length = m := ⟨_, rfl⟩
        obtain ⟨k, hk⟩ : ∃ m, f.own.length = m := ⟨_, rfl⟩
        obtain ⟨fd, hfd⟩ : ∃ x, f.dead = x := ⟨_, rfl⟩
        rw [hm] at q0 q1 q2 q3 y0 hil HEND hc1
        rw [hk, hfd, hn] at HFC hw0
        generalize f.label.length = nl at *
        rw [hn] at q1 p1 HEND
        rw [hk] at q2 p2
        rw [hfd] at q3 p3
        have HEN := Lib.hid hn
        have hml1 : m ≤ m + 1 := by omega
        have hmc : (m : Int) ≤ (c' : Int) := by omega
        have hmc2 : m ≤ c' := by omega
        unfold maxLen at hc2
        clear h hl hh hf hel hc1 hGg hg hgQ hcell huL hv ho hd1 hd2 hd3 hoL hv1 hv2 hv3 hvL hfc hfl hm hn hk hfd qf hol hen hx0 hb0 hX hXQ ho0
        go_enter Try.func19, Try.ntmps19
        go_upto_region 5 with fail
        try simp only [hXX]
        clear hXX
        try rw [hw0]
        clear hw0
        go_wp2_with (go_at_call 31; refine HFC.out.mono ?_; rintro e w1 ⟨rfl, hb⟩; obtain ⟨z0, z1, z2, z3, z4⟩ := HEND.out w1 hb; have HZ := Lib.hid z3; have HY := Lib.hid z4; clear hb z3 z4 y0 q0 q1 q2 q3 p0 p1 p2 p3)
        go_ret2
        exact ⟨⟨A, c, by rw [HEN.out]; rfl, by rw [HEN.out]; exact HY.out⟩, HZ.out⟩
      · have HK : Hid (r.close = r ∧ r.closeA = none) := Lib.hid (by unfold Ty.R.close Ty.R.closeA Ty.R.last; rw [Ty.rlast hf]; dsimp only; rw [hfl]; dsimp only; rw [if_neg ho0, if_neg ho0]; exact ⟨rfl, rfl⟩)
        rw [HK.out.1, HK.out.2]
        obtain ⟨ol, hol2⟩ : ∃ x, o.length = x := ⟨_, rfl⟩
        have HFC : Hid (Calls Try.prog 31 #[.agg #[.slice AU f.label.length cu, .slice A f.ends.length c, .slice B f.own.length d, .bool f.dead], .slice A f.ends.length c] w0 fun e w' => e = .returned (.tuple #[.slice B ol d, .bool true]) ∧ Below w0.heap.size w0 w') := Lib.hid (hfc.mono (fun e w' hq => ⟨by
          have h1 : e = .returned (.tuple #[.slice B o.length d, .bool true]) := hq.1
          rw [hol2] at h1
          exact h1, hq.2⟩))
        rw [hol2] at ho0
        have hgt : (0 : Int) < (ol : Int) := by omega
        have hgt2 : 0 < ol := by omega
        clear hol2
        obtain ⟨m, hm⟩ : ∃ m, i.length = m := ⟨_, rfl⟩
        obtain ⟨n, hn⟩ : ∃ m, f.ends.length = m := ⟨_, rfl⟩
        obtain ⟨k, hk⟩ : ∃ m, f.own.length = m := ⟨_, rfl⟩
        obtain ⟨fd, hfd⟩ : ∃ x, f.dead = x := ⟨_, rfl⟩
        rw [hm] at q0 q1 q2 q3 y0 hil HEND hc1
        rw [hk, hfd, hn] at HFC hw0
        generalize f.label.length = nl at *
        rw [hn] at q1 p1 HEND
        rw [hk] at q2 p2
        rw [hfd] at q3 p3
        have HEN := Lib.hid hn
        clear h hl hh hf hel hc1 hc2 hGg hg hgQ hcell huL hv ho hd1 hd2 hd3 hoL hv1 hv2 hv3 hvL hfc hfl hm hn hk hfd qf hol hen hx0 hb0 hX hXQ ho0
        go_enter Try.func19, Try.ntmps19
        go_upto_region 5 with fail
        try simp only [hXX]
        clear hXX
        try rw [hw0]
        clear hw0
        go_wp2_with (go_at_call 31; refine HFC.out.mono ?_; rintro e w1 ⟨rfl, hb⟩; have HB := Lib.hid hb; clear hb)
        go_ret2
        exact ⟨rfl, HS.out.same (HB0.out.trans (HB.out.mono HB0.out.size))⟩
end Go.Proofs.Ythkglmkpnhhboaa
