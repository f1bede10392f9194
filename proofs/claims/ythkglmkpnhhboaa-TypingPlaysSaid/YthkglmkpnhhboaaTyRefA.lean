/-
  Layer 9's reference: Height, Open, New, Kill, Label. (gen/typing/refc.py)
-/
import Derived.Test.YthkglmkpnhhboaaTyRef
import Derived.Test.YthkglmkpnhhboaaTyAt
namespace Ty
theorem total_take {l : List RF} {j : Nat} {f : RF} (h : l[j]? = some f) : total (l.take (j + 1)) = total (l.take j) + f.own.length := by
  rw [List.take_add_one, h, total_append]
  simp [total]
theorem total_le : ∀ (l : List RF) (j : Nat), total (l.take j) ≤ total l
  | l, 0 => by simp [total]
  | [], j + 1 => by simp
  | f :: l, j + 1 => by simp [total]; exact total_le l j
end Ty
namespace Go.Proofs.Ythkglmkpnhhboaa
open Go.RowKit Ins Bin
theorem undRF : Try.prog.underlying 44 = some (.slice 54) := by kernel_rfl
theorem infRF : (Try.prog.info? 54).map (fun i => (i.zero, i.size, i.bytes)) = some (some (.agg #[.slice none 0 0, .slice none 0 0, .slice none 0 0, .bool false]), Lay.size Ty.RF, 80) := by kernel_rfl
/-- The stack in block Q; its blocks are G's, all of them there. -/
def AtG (w : World) (G : Nat → Prop) (B0 Q : Nat) (r : Ty.R) : Prop := (∃ vL, Rfk w G B0 Q r vL) ∧ ∀ k, G k → k < w.heap.size
theorem RPost.at {G : Nat → Prop} {w w' : World} {B0 Q : Nat} {r' : Ty.R} (h : RPost G w B0 Q r' w') : ∃ G', AtG w' G' B0 Q r' ∧ Nxt G w G' w' := by
  obtain ⟨G', vL, h1, h2, h3⟩ := h
  have hL := h1.l.lt
  exact ⟨fun k => G' k ∧ k < w'.heap.size, ⟨⟨vL, ⟨h1.blk, h1.l.more (fun k hk hs => ⟨hs.1.imp (fun h => ⟨h, hk⟩) id, hs.2⟩), ⟨h1.inQ, h1.lt⟩, fun k e => ⟨h1.inL k e, (hL k e).2⟩⟩⟩, fun k hk => hk.2⟩, fun k hk => h2 k hk.1, h3⟩
theorem AtG.on {w w' : World} {G : Nat → Prop} {B0 Q : Nat} {r : Ty.R} (h : AtG w G B0 Q r) (hb : Below w.heap.size w w') : AtG w' G B0 Q r := by
  obtain ⟨⟨vL, h1⟩, h3⟩ := h
  exact ⟨⟨vL, h1.on hb⟩, fun k hk => Nat.lt_of_lt_of_le (h3 k hk) hb.size⟩
theorem AtG.mod {w w' : World} {G T : Nat → Prop} {B0 Q : Nat} {r : Ty.R} (h : AtG w G B0 Q r) (hm : Mod T w w') (ht : ∀ k, G k ∨ k < B0 → ¬ T k) : AtG w' G B0 Q r := by
  obtain ⟨⟨vL, h1⟩, h3⟩ := h
  exact ⟨⟨vL, h1.mod hm (fun k _ hk => ht k hk)⟩, fun k hk => Nat.lt_of_lt_of_le (h3 k hk) hm.size⟩
theorem RPost.ahead {G : Nat → Prop} {w w1 w' : World} {B0 Q : Nat} {r' : Ty.R} (hb : Below w.heap.size w w1) (h : RPost G w1 B0 Q r' w') : RPost G w B0 Q r' w' := by
  obtain ⟨G', vL, h1, h2, h3⟩ := h
  exact ⟨G', vL, h1, fun k hk => (h2 k hk).imp id (fun h => Nat.le_trans hb.size h), (Mod.of_below hb).trans h3 (fun _ _ h => h)⟩
theorem Rfk.same {w w' : World} {G : Nat → Prop} {B0 Q : Nat} {r : Ty.R} {vL : Value} (h : Rfk w G B0 Q r vL) (hb : Below w.heap.size w w') : RPost G w B0 Q r w' := ⟨G, vL, h.on hb, fun _ h => .inl h, Mod.of_below hb⟩
theorem RPost.of {G : Nat → Prop} {w w' : World} {B0 Q : Nat} {r' : Ty.R} {vL : Value} (h : Rfk w' G B0 Q r' vL) (hm : Mod G w w') : RPost G w B0 Q r' w' := ⟨G, vL, h, fun _ h => .inl h, hm⟩
/-- A frame by its number from the outermost one on. -/
theorem Rfk.rowAt {w : World} {G : Nat → Prop} {B0 Q : Nat} {r : Ty.R} {vL : Value} (h : Rfk w G B0 Q r vL) (k : Nat) (f : Ty.RF) (hk : r.l[k]? = some f) :
    ∃ g c u v oo, vL = .slice (some ⟨g, 0, none⟩) r.l.length c ∧ w.cell? ⟨g, k * 4, none⟩ = some u ∧ w.cell? ⟨g, k * 4 + 2, none⟩ = some oo ∧ SliceV w (fun k => G k ∨ k < B0) f.label u ∧ SliceV w (fun k => G k ∨ k < B0) f.ends v ∧ SliceV w (fun k => G k ∨ k < B0) f.own oo := by
  have hkl := (List.getElem?_eq_some_iff.1 hk).1
  obtain ⟨ys, h0, h1, h2⟩ := h.l
  obtain ⟨g, c, rfl, _, _, _⟩ := own_form1 h1 (by omega)
  have hyk : k < ys.length := by rw [← List.length_map (f := (·.1)), h0]; exact hkl
  have hyr := h2 ys[k] (List.getElem_mem hyk)
  have hf1 : ys[k].1 = f := by
    have := congrArg (fun l => l[k]?) h0
    simp only [List.getElem?_map, List.getElem?_eq_getElem hyk, hk, Option.map_some] at this
    exact Option.some.inj this
  rw [hf1] at hyr
  obtain ⟨u, v, oo, hcs, q1, q2, q3⟩ := hyr
  have hat := flat_at ys h2 k ys[k] (List.getElem?_eq_getElem hyk)
  have hc : ∀ j z, [u, v, oo, .bool f.dead][j]? = some z → w.cell? ⟨g, k * 4 + j, none⟩ = some z := fun j z hj => by
    have h3 := h1.cells (g := g) rfl (k * 4 + j) z (hat j z (by rw [hcs]; exact hj))
    rw [addr_at] at h3
    rwa [show 0 + (k * 4 + j) = k * 4 + j by omega] at h3
  exact ⟨g, c, u, v, oo, rfl, hc 0 _ rfl, hc 2 _ rfl, q1.more (fun _ _ h => h.1), q2.more (fun _ _ h => h.1), q3.more (fun _ _ h => h.1)⟩
set_option maxRecDepth 100000 in
set_option maxHeartbeats 4000000 in
theorem rheight_any {w : World} {G : Nat → Prop} {B0 Q : Nat} {r : Ty.R} {vL : Value} (h : Rfk w G B0 Q r vL) (hb : r.height ≤ 1000000000) (hl : r.l.length ≤ 1000000000) :
    Calls Try.prog 26 #[.pointer (some ⟨Q, 0, none⟩)] w fun e w' => w' = w ∧ e = .returned (.int .i64 (r.height : Int)) := by
  obtain ⟨A, c, hv, _, _⟩ := h.form
  have HR : Hid (∀ k f, r.l[k]? = some f → ∃ g B d, A = some ⟨g, 0, none⟩ ∧ w.cell? ⟨g, k * 4 + 2, none⟩ = some (.slice B f.own.length d)) := Lib.hid (fun k f hk => by
    obtain ⟨g, c', u, v, oo, e, _, h2, _, _, B, d, rfl, _⟩ := h.rowAt k f hk
    rw [hv] at e
    injection e with e1 _ _
    exact ⟨g, B, d, e1, h2⟩)
  have y0 := h.cell0
  have y1 := h.cell1
  rw [hv] at y0
  obtain ⟨n, hn⟩ : ∃ n, r.l.length = n := ⟨_, rfl⟩
  obtain ⟨lo, hlo⟩ : ∃ n, r.loose = n := ⟨_, rfl⟩
  rw [hn] at y0 hl
  rw [hlo] at y1
  have HN := Lib.hid hn
  have HLO := Lib.hid hlo
  have hbb : lo + Ty.total r.l ≤ 1000000000 := by rw [← hlo]; exact hb
  have HBB := Lib.hid hbb
  have hlo1 : (lo : Int) ≤ 1000000000 := by omega
  clear h hv hn hlo hb hbb
  go_enter Try.func26, Try.ntmps26
  go_wp2_with fail
  go_loopw [3, 4] (fun s i wr => ∃ (j : Nat) (z : Int), j ≤ n ∧ i = .int .i64 (j : Int) ∧ s = .int .i64 z ∧ Hid (z = ((lo + Ty.total (r.l.take j) : Nat) : Int)) ∧ wr = w) (fun _ i _ => n - (intOf i).toNat)
  case atStart => exact ⟨0, lo, by omega, rfl, rfl, Lib.hid (by simp [Ty.total]), rfl⟩
  case round =>
    obtain ⟨j, z, hj, rfl, rfl, HZ, hwr⟩ := hrel
    subst hwr
    by_cases hjn : j < n
    · obtain ⟨f, hf⟩ : ∃ f, r.l[j]? = some f := ⟨_, List.getElem?_eq_getElem (by have := HN.out; omega)⟩
      obtain ⟨g, B, d, rfl, hc⟩ := HR.out j f hf
      have hji : (j : Int) < (n : Int) := by omega
      have htk := Ty.total_take hf
      have htl := Ty.total_le r.l (j + 1)
      have hz0 : 0 ≤ z := by have := HZ.out; omega
      have hz1 : z + (f.own.length : Int) ≤ 1000000000 := by have := HZ.out; have := HBB.out; omega
      have HZ2 : Hid (z + (f.own.length : Int) = ((lo + Ty.total (r.l.take (j + 1)) : Nat) : Int)) := Lib.hid (by have := HZ.out; omega)
      obtain ⟨fo, hfo⟩ : ∃ x, f.own.length = x := ⟨_, rfl⟩
      rw [hfo] at hc hz1 HZ2
      have HJ := Lib.hid hjn
      clear hf htk htl hfo hjn
      go_wp2_with fail
      go_roundw
      case rel => exact ⟨j + 1, z + (fo : Int), by have := HJ.out; omega, by go_num, rfl, HZ2, (by first | trivial | rfl)⟩
      case measure => have := HJ.out; simp [intOf]; omega
    · obtain rfl : n = j := by omega
      have hli : decide ((n : Int) < (n : Int)) = false := decide_eq_false (by omega)
      have HZ3 : Hid (z = (r.height : Int)) := Lib.hid (by
        have h1 := HZ.out
        rw [List.take_of_length_le (by rw [HN.out]; exact Nat.le_refl _), ← HLO.out] at h1
        exact h1)
      go_wp2_with fail
      go_ret
      exact ⟨rfl, by rw [← HZ3.out]; rfl⟩
/-- A frame is laid behind. -/
theorem Rfk.opened {w : World} {G : Nat → Prop} {B0 Q : Nat} {r : Ty.R} {vL va vb : Value} {a b : List UInt8} (h : Rfk w G B0 Q r vL) (ha : SliceV w (· < B0) a va) (hb : SliceV w (· < B0) b vb) (hG : ∀ k, G k → B0 ≤ k) (hl : r.l.length ≤ 1000000000) :
    ∃ A5 n5 c5 w5, (Builtin.append_ #[44, 44] 44 #[vL, .slice (some ⟨w.heap.size, 0, none⟩) 1 1]).run Try.prog (w.alloc (.cells #[va, vb, .slice none 0 0, .bool false] 54)) = .ok (.slice A5 n5 c5) w5 ∧
      w5.cell? ⟨Q, 0, none⟩ = some vL ∧ w5.frozen? ⟨Q, 0, none⟩ = false ∧ RPost G w B0 Q (r.op a b) (w5.setCell ⟨Q, 0, none⟩ (.slice A5 n5 c5)) := by
  have hL := h.l.lt
  have hne := rne h.blk h.l
  have hnew : ∀ k, k < B0 → inR G B0 Q vL k := fun k hk => ⟨.inr hk, fun e => by have := hG Q h.inQ; omega, fun e => by have := hG k (h.inL k e); omega, fun e => by have := hG k (h.inL k e); omega⟩
  have hrep : Lay.rep w (inR G B0 Q vL) (⟨a, b, [], false⟩ : Ty.RF) [va, vb, .slice none 0 0, .bool false] := ⟨va, vb, _, rfl, ha.more (fun k _ hk => hnew k hk), hb.more (fun k _ hk => hnew k hk), SliceV.nil _ _⟩
  obtain ⟨v5, w5, hrun, hO5, hM5, hT5⟩ := append1L undRF infRF (by decide) rfl (by decide) w 0 _ vL r.l ⟨a, b, [], false⟩ _ h.l (by omega) (Nat.zero_le _) hrep (fun u hu => Ones.one hrep u hu) (fun g _ hs => hs.2.2.2)
  have hblk := hM5.heap h.blk hne
  have hne5 : v5.ownBlock ≠ some Q := fun e => by
    rcases hT5 Q e with e | e
    · exact hne e
    · have := h.lt; omega
  have hO5' := hO5
  obtain ⟨ys5, _, hy5, _⟩ := hO5'
  obtain ⟨A5, c5, e5, _, _⟩ := own_form hy5
  clear hy5
  generalize (r.l ++ [(⟨a, b, [], false⟩ : Ty.RF)]).length = n5 at e5
  subst e5
  refine ⟨A5, n5, c5, w5, hrun, by rw [cell_of_row w5 Q 0 _ _ (0, 0) hblk]; rfl, frozen_of_row w5 Q 0 _ _ hblk, fun k => G k ∨ w.heap.size ≤ k, .slice A5 n5 c5, ?_, fun k hk => hk, ?_⟩
  · refine rset hblk 0 _ rfl (hO5.more (fun k hk hs => ⟨hs.1.1.imp .inl id, hs.1.2.1, hs.2, hs.2⟩)) (.inl h.inQ) (fun k e => ?_)
    rcases hT5 k e with e | e
    · exact .inl (h.inL k e)
    · exact .inr e
  · exact (hM5.more (fun k _ e => h.inL k e)).setCell (fun _ => h.inQ) _
set_option maxRecDepth 100000 in
set_option maxHeartbeats 4000000 in
theorem ropen_any {w : World} {G : Nat → Prop} {B0 Q : Nat} {r : Ty.R} {vL va vb : Value} {a b : List UInt8} (h : Rfk w G B0 Q r vL) (ha : SliceV w (· < B0) a va) (hb : SliceV w (· < B0) b vb) (hG : ∀ k, G k → B0 ≤ k) (hl : r.l.length ≤ 1000000000) :
    Calls Try.prog 17 #[.pointer (some ⟨Q, 0, none⟩), va, vb] w fun e w' => e = .returned (.tuple #[]) ∧ RPost G w B0 Q (r.op a b) w' := by
  obtain ⟨A5, n5, c5, w5, hrun, hc5, hf5, htp⟩ := h.opened ha hb hG hl
  have y0 := h.cell0
  obtain ⟨A, c, rfl, _, _⟩ := h.form
  obtain ⟨A1, c1, rfl, _⟩ := ha
  obtain ⟨A2, c2, rfl, _⟩ := hb
  have HRUN := Lib.hid hrun
  have HTP := Lib.hid htp
  clear h hG hl hrun htp
  generalize r.l.length = n at *
  generalize a.length = na at *
  generalize b.length = nb at *
  go_enter Try.func17, Try.ntmps17
  go_wp2_with (at_builtin; refine wpList_appends rfl (.tmp 10) (.tmp 14) 44 rfl _ _ _ w5 rfl rfl HRUN.out ?_)
  go_end0
  exact ⟨rfl, HTP.out⟩
end Go.Proofs.Ythkglmkpnhhboaa
