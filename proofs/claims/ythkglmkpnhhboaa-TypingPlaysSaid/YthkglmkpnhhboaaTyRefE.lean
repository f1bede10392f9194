/-
  Layer 9's reference: Want, Close, Push. (gen/typing/refe.py)
-/
import Derived.Test.YthkglmkpnhhboaaTyRefD
namespace Go.Proofs.Ythkglmkpnhhboaa
open Go.RowKit Ins Bin
theorem SliceV.cutTo {w : World} {S : Nat → Prop} {xs : List UInt8} {A : Option Addr} {n c : Nat} (h : SliceV w S xs (.slice A n c)) (m : Nat) (hm : m ≤ xs.length) : SliceV w S (xs.take m) (.slice A m c) := by
  obtain ⟨A', c', e, h1, h2, h3, h4⟩ := h
  injection e with e1 e2 e3
  subst e1 e2 e3
  refine ⟨A, c, by rw [List.length_take, Nat.min_eq_left hm], by rw [List.length_take]; omega, h2, h3, fun k x hk => ?_⟩
  rw [List.getElem?_take] at hk
  split at hk
  · exact h4 k x hk
  · cases hk
theorem own_lay {w : World} {base n : Nat} {v : Value} {l : List UInt8} {t : TypeId} (h : w.ownsRow base t 1 v n (bytesOf l)) : SliceV w (base ≤ ·) l v := by
  have hl := h.1
  rw [bytesOf_length, Nat.mul_one] at hl
  rcases h.2 with ⟨rfl, h0⟩ | ⟨g, cap, cur, rfl, hg, hh, hc, hm, hcs, htk⟩
  · have : l = [] := List.eq_nil_of_length_eq_zero (by omega)
    subst this
    exact SliceV.nil _ _
  · refine ⟨_, cap, by rw [hl], by omega, hm, fun e => (by cases e), fun k x hk => ⟨g, 0, [.int .u8 (x.toNat : Int)], rfl, hg, (Array.getElem?_eq_some_iff.1 hh).1, rfl, fun j u hj => ?_⟩⟩
    cases j with
    | zero =>
      simp at hj
      subst hj
      have h3 := h.cells (g := g) rfl k (.int .u8 (x.toNat : Int)) (by simp [bytesOf, hk])
      rw [addr_at] at h3
      have e2 : (0 + k : Nat) = 0 + k * Lay.size UInt8 + 0 := by show 0 + k = 0 + k * 1 + 0; omega
      rwa [e2] at h3
    | succ j => simp at hj
/-- []byte{}, then two appends, in new memory. -/
theorem joined2 (w : World) (A B : Option Addr) (l1 l2 : List UInt8) (c1 c2 : Nat) (h1 : Has w w.heap.size A l1) (h2 : Has w w.heap.size B l2) (hsz : l1.length + l2.length ≤ 1000000000) :
    ∃ v1 w1 C c3 w2, (Builtin.append_ #[22, 22] 22 #[.slice (some ⟨w.heap.size, 0, none⟩) 0 0, .slice A l1.length c1]).run Try.prog (w.alloc (.cells #[] 5)) = .ok v1 w1 ∧
      (Builtin.append_ #[22, 22] 22 #[v1, .slice B l2.length c2]).run Try.prog w1 = .ok (.slice C (l1.length + l2.length) c3) w2 ∧ SliceV w2 (w.heap.size ≤ ·) (l1 ++ l2) (.slice C (l1.length + l2.length) c3) ∧ Below w.heap.size w w1 ∧ Below w.heap.size w w2 := by
  have hb0 : Below w.heap.size w (w.alloc (.cells #[] 5)) := (Below.refl _ _).alloc (Nat.le_refl _) _
  have hown0 : (w.alloc (.cells #[] 5)).ownsRow w.heap.size 5 1 (.slice (some ⟨w.heap.size, 0, none⟩) 0 0) 0 (bytesOf []) :=
    ⟨rfl, .inr ⟨w.heap.size, 0, #[], rfl, Nat.le_refl _, heap_alloc_new w _, Nat.le_refl _, by unfold maxLen; omega, rfl, rfl⟩⟩
  obtain ⟨v1, w1, hr1, ha1⟩ := appends_adds _ w.heap.size l1.length c1 _ [] l1 A hown0 (h1.on hb0) rfl (by simp; omega) hb0.size
  have hb1 : Below w.heap.size w w1 := hb0.trans (ha1.below (fun g hg => by simp [Value.ownBlock] at hg; omega) hb0.size)
  have ho1 := ha1.1
  rw [List.nil_append] at ho1
  obtain ⟨v2, w2, hr2, ha2⟩ := appends_adds w1 w.heap.size l2.length c2 v1 l1 l2 B ho1 (h2.on hb1) rfl (by omega) hb1.size
  have hb2 : Below w.heap.size w w2 := hb1.trans (ha2.below (own_ge ho1) hb1.size)
  have hs := own_lay ha2.1
  obtain ⟨C, c3, e, _, _⟩ := own_form ha2.1
  rw [List.length_append] at e
  subst e
  exact ⟨v1, w1, C, c3, w2, hr1, hr2, hs, hb1, hb2⟩
theorem fitsL_eq (f : Ty.RF) (l : List UInt8) : (Ty.fits f.dead f.own.reverse l.reverse).map List.reverse = Ty.fitsL f l := rfl
theorem fitsL_take {f : Ty.RF} {l o : List UInt8} (h : Ty.fitsL f l = some o) : o = f.own.take o.length ∧ o.length ≤ f.own.length := by
  have h1 := (Ty.fitsL_without [] f l).2 o h
  refine ⟨h1, ?_⟩
  have := congrArg List.length h1
  rw [List.length_take] at this
  omega
/-- The innermost frame's own operands become others. -/
theorem Rfk.own {w w' : World} {G : Nat → Prop} {B0 Q : Nat} {r : Ty.R} {i : List Ty.RF} {f : Ty.RF} {g c : Nat} (h : Rfk w G B0 Q r (.slice (some ⟨g, 0, none⟩) (i.length + 1) c)) (hf : r.l = i ++ [f]) (hb : Below w.heap.size w w') (o : List UInt8) (vo : Value)
    (ho : SliceV w' (fun k => inR G B0 Q (.slice (some ⟨g, 0, none⟩) (i.length + 1) c) k ∨ w.heap.size ≤ k) o vo) (hG : G g) : RPost G w B0 Q (r.setOwn o) (w'.setCell ⟨g, i.length * 4 + 2, none⟩ vo) := by
  have e : r.setOwn o = ⟨i ++ [⟨f.label, f.ends, o, f.dead⟩], r.loose, r.most⟩ := by
    unfold Ty.R.setOwn Ty.R.last; rw [Ty.rlast hf, hf]; simp
  have hlt := h.lt
  have hL := h.l.lt
  have h1 := (h.on hb).more (G' := fun k => G k ∨ w.heap.size ≤ k) (fun k hk => .inl hk)
  have h2 := h1.setLast hf 2 vo ⟨f.label, f.ends, o, f.dead⟩ (fun cs hr => by
    obtain ⟨a, b, o', rfl, r1, r2, _⟩ := hr
    refine ⟨a, b, _, rfl, r1, r2, ho.more (fun k hk hs => ?_)⟩
    rcases hs with hs | hs
    · exact ⟨hs.1.imp .inl id, hs.2⟩
    · exact ⟨.inl (.inr hs), by omega, fun e => by have := (hL k e).2; omega, fun e => by have := (hL k e).2; omega⟩)
  rw [e]
  exact ⟨_, _, h2, fun k hk => hk, (Mod.of_below (T := G) hb).setCell (fun _ => hG) _⟩
set_option linter.unusedSimpArgs false in
set_option maxRecDepth 100000 in
set_option maxHeartbeats 4000000 in
theorem rwant_any {w : World} {G : Nat → Prop} {B0 Q : Nat} {r : Ty.R} {vL : Value} (h : Rfk w G B0 Q r vL) (l : List UInt8) (A : Option Addr) (c : Nat) (hA : Has w w.heap.size A l) (hl : r.l.length ≤ 1000000000) (hh : r.height ≤ 1000000000) (hll : l.length ≤ 1000000000) :
    Calls Try.prog 15 #[.pointer (some ⟨Q, 0, none⟩), .slice A l.length c] w fun e w' => e = .returned (.bool (r.wantA l)) ∧ RPost G w B0 Q (r.want l) w' := by
  have HS := Lib.hid h
  have y0 := h.cell0
  rcases Ty.rparts r with hn | ⟨i, f, hf⟩
  · have HK : Hid (r.want l = r ∧ r.wantA l = false) := Lib.hid (by unfold Ty.R.want Ty.R.wantA Ty.R.last; rw [hn]; exact ⟨rfl, rfl⟩)
    obtain ⟨A', c', rfl, _, _⟩ := h.form
    rw [hn] at y0
    simp only [List.length_nil] at y0
    rw [HK.out.1, HK.out.2]
    generalize l.length = n at *
    clear h hl hh hn hA hll
    go_enter Try.func15, Try.ntmps15
    go_wp2_with fail
    go_ret
    exact ⟨rfl, HS.out.same (Below.refl _ _)⟩
  · obtain ⟨g, c', u, v, oo, rfl, hc1, hc2, hGg, hg, hgQ, hcell, hu, hv, ho⟩ := h.inner hf
    have hil : i.length ≤ 1000000000 := by rw [hf] at hl; simp at hl; omega
    have hol : f.own.length ≤ 1000000000 := by
      have : r.height = r.loose + (Ty.total i + (f.own.length + 0)) := by unfold Ty.R.height; rw [hf, Ty.total_append]; rfl
      omega
    obtain ⟨q0, q1, q2, q3, qf⟩ := hcell w rfl
    have ho0 := ho
    obtain ⟨B, d, rfl, hd1, hd2, hd3, hoL⟩ := ho0
    have hfc := rfits_any f.own l f.dead u v A B c d w hoL.has hA hol hll hd1 hd2
    rw [fitsL_eq] at hfc
    cases hfl : Ty.fitsL f l with
    | none =>
      rw [hfl] at hfc
      have HK : Hid (r.want l = r ∧ r.wantA l = false) := Lib.hid (by unfold Ty.R.want Ty.R.wantA Ty.R.last; rw [Ty.rlast hf]; dsimp only; rw [hfl]; exact ⟨rfl, rfl⟩)
      rw [HK.out.1, HK.out.2]
      have HFC := Lib.hid hfc
      obtain ⟨m, hm⟩ : ∃ m, i.length = m := ⟨_, rfl⟩
      obtain ⟨n, hn⟩ : ∃ m, l.length = m := ⟨_, rfl⟩
      obtain ⟨k, hk⟩ : ∃ m, f.own.length = m := ⟨_, rfl⟩
      obtain ⟨fd, hfd⟩ : ∃ x, f.dead = x := ⟨_, rfl⟩
      rw [hm] at q0 q1 q2 q3 y0 hil
      rw [hk] at q2
      rw [hfd] at q3
      rw [hn, hk, hfd] at HFC
      rw [hn]
      clear h hl hh hf hA hll hc1 hc2 hGg hg hgQ hcell hu hv ho hd1 hd2 hd3 hoL hfc hfl hm hn hk hfd qf hol
      go_enter Try.func15, Try.ntmps15
      go_wp2_with (go_at_call 31; refine HFC.out.mono ?_; rintro e w1 ⟨he, hb⟩; have he2 : e = .returned (.tuple #[.slice none 0 0, .bool false]) := he; subst he2; have HB := Lib.hid hb; clear hb he)
      go_ret
      exact ⟨rfl, HS.out.same HB.out⟩
    | some o =>
      rw [hfl] at hfc
      have HK : Hid (r.want l = r.setOwn o ∧ r.wantA l = true) := Lib.hid (by unfold Ty.R.want Ty.R.wantA Ty.R.last; rw [Ty.rlast hf]; dsimp only; rw [hfl]; exact ⟨rfl, rfl⟩)
      rw [HK.out.1, HK.out.2]
      obtain ⟨ht1, ht2⟩ := fitsL_take hfl
      have HEND : Hid (∀ W, Below w.heap.size w W → W.cell? ⟨Q, 0, none⟩ = some (.slice (some ⟨g, 0, none⟩) (i.length + 1) c') ∧ W.cell? ⟨g, i.length * 4 + 2, none⟩ = some (.slice B f.own.length d) ∧ W.frozen? ⟨g, i.length * 4 + 2, none⟩ = false ∧ RPost G w B0 Q (r.setOwn o) (W.setCell ⟨g, i.length * 4 + 2, none⟩ (.slice B o.length d))) := Lib.hid (fun W hW => by
        obtain ⟨_, _, z2, _, zf⟩ := hcell W (hW.block g hg)
        refine ⟨(h.on hW).cell0, z2, zf _, h.own hf hW o _ ?_ hGg⟩
        have hs := (ho.mod (T := fun _ => False) (Mod.of_below hW) (fun _ _ _ h => h)).cutTo o.length ht2
        rw [← ht1] at hs
        exact hs.more (fun k _ hk => .inl hk))
      have HFC := Lib.hid hfc
      obtain ⟨m, hm⟩ : ∃ m, i.length = m := ⟨_, rfl⟩
      obtain ⟨n, hn⟩ : ∃ m, l.length = m := ⟨_, rfl⟩
      obtain ⟨k, hk⟩ : ∃ m, f.own.length = m := ⟨_, rfl⟩
      obtain ⟨fd, hfd⟩ : ∃ x, f.dead = x := ⟨_, rfl⟩
      rw [hm] at q0 q1 q2 q3 y0 hil HEND
      rw [hk] at q2 HEND
      rw [hfd] at q3
      rw [hn, hk, hfd] at HFC
      rw [hn]
      clear h hl hh hf hA hll hc1 hc2 hGg hg hgQ hcell hu hv ho hd1 hd2 hd3 hoL hfc hfl hm hn hk hfd qf hol ht1 ht2
      go_enter Try.func15, Try.ntmps15
      go_wp2_with (go_at_call 31; refine HFC.out.mono ?_; rintro e w1 ⟨he, hb⟩; have he2 : e = .returned (.tuple #[.slice B o.length d, .bool true]) := he; subst he2; obtain ⟨z0, z2, z3, z4⟩ := HEND.out w1 hb; have HZ := Lib.hid z4; clear hb he q0 q1 q2 q3 z4 y0)
      go_ret
      exact ⟨rfl, HZ.out⟩
end Go.Proofs.Ythkglmkpnhhboaa
