/-
  Layer 9's program: Open, New. (gen/typing/open.py)
-/
import Derived.Test.YtelcdmkbaegjoaaGreatLq01
import Derived.Test.YtelcdmkbaegjoaaGreatLq21
import Derived.Test.YtelcdmkbaegjoaaGreatLq06
set_option maxRecDepth 100000
set_option maxHeartbeats 4000000
namespace Go.Proofs.YtelcdmkbaegjoaaGreat
open Go.RowKit Ins Bin
theorem own8 {t : TypeId} {w : World} {base : Nat} {S S' : Nat → Prop} {v : Value} {xs : List UInt8} (h : OwnL t w base S v xs) : OwnL t w base S' v xs := by
 obtain ⟨ys, h0, h1, h2⟩ := h
 exact ⟨ys, h0, h1, fun y hy => h2 y hy⟩
theorem cC (xs : List UInt8) (v : Value) (w : World) (hv : ab w (· < w.heap.size) xs v) (hl : xs.length ≤ 1000000000) :
  Calls Tryz.prog 62 #[v] w fun e w' => ∃ A c, e = .returned (.slice A xs.length c) ∧ ab w' (w.heap.size ≤ ·) xs (.slice A xs.length c) ∧ Below w.heap.size w w' := by
 refine (bt xs v w hv (by omega)).mono ?_
 rintro e w' ⟨u, rfl, h1, h2, h3⟩
 have h4 := (own8 (S' := (w.heap.size ≤ ·)) h1).tell (fun _ h => h)
 obtain ⟨A, c, rfl, h5⟩ := h4
 exact ⟨A, c, rfl, ⟨A, c, rfl, h5⟩, h2⟩
theorem undTFr : Tryz.prog.underlying 143 = some (.slice 151) := by kernel_rfl
theorem infTFr : (Tryz.prog.info? 151).map (fun i => (i.zero, i.size, i.bytes)) = some (some (.agg #[.slice none 0 0, .slice none 0 0, .int .i64 0, .bool false]), Lay.size Ty.Fr, 64) := by kernel_rfl
theorem Stk.opened {w w2 : World} {F : Nat → Prop} {P : Nat} {s : Ty.T} {vo vf u1 u2 : Value} {a b : List UInt8} (h : Stk w F P s vo vf) (hb : Below w.heap.size w w2) (h1 : ab w2 (w.heap.size ≤ ·) a u1) (h2 : ab w2 (w.heap.size ≤ ·) b u2) (hl : s.frs.length ≤ 1000000000) :
  ∃ G5 n5 k5 w5, (Builtin.append_ #[143, 143] 143 #[vf, .slice (some ⟨w2.heap.size, 0, none⟩) 1 1]).run Tryz.prog (w2.alloc (.cells #[u1, u2, .int .i64 (s.ops.length : Int), .bool false] 151)) = .ok (.slice G5 n5 k5) w5 ∧
   w5.cell? ⟨P, 0, none⟩ = some vo ∧ w5.cell? ⟨P, 1, none⟩ = some vf ∧ w5.frozen? ⟨P, 1, none⟩ = false ∧ (w5.setCell ⟨P, 1, none⟩ (.slice G5 n5 k5)).cell? ⟨P, 0, none⟩ = some vo ∧ aB F w P (s.op a b) (w5.setCell ⟨P, 1, none⟩ (.slice G5 n5 k5)) := by
 have hP := h.lt
 have hO := own_lt h.ops
 have hF := h.frs.lt
 have h' := h.on hb
 have hfr : OwnL 151 w2 0 (inS (fun k => F k ∨ w.heap.size ≤ k) P vo vf) vf s.frs := h'.frs.more (fun k _ hs => ⟨.inl hs.1, hs.2⟩)
 have hnew : ∀ k, w.heap.size ≤ k → inS (fun k => F k ∨ w.heap.size ≤ k) P vo vf k := fun k hk => ⟨.inr hk, by omega, fun e => by have := hO k e; omega, fun e => by have := (hF k e).2; omega⟩
 have hrep : Lay.rep w2 (inS (fun k => F k ∨ w.heap.size ≤ k) P vo vf) (⟨a, b, s.ops.length, false⟩ : Ty.Fr) [u1, u2, .int .i64 (s.ops.length : Int), .bool false] := ⟨u1, u2, rfl, h1.more (fun k _ hk => hnew k hk), h2.more (fun k _ hk => hnew k hk)⟩
 obtain ⟨v5, w5, hrun, hO5, hM5, hT5⟩ := append1L undTFr infTFr (by decide) rfl (by decide) w2 0 _ vf s.frs ⟨a, b, s.ops.length, false⟩ _ hfr (by omega) (Nat.zero_le _) hrep (fun u hu => Ones.one hrep u hu) (fun g _ hs => hs.2.2.2)
 have hblk := hM5.heap h'.blk h'.neF
 have hne5 : v5.ownBlock ≠ some P := fun e => by
  rcases hT5 P e with e | e
  ·exact h.neF e
  ·have := hb.size; omega
 have hS : Mod (· = P) w5 (w5.setCell ⟨P, 1, none⟩ v5) := Mod.setCell (T := (· = P)) (Mod.refl _ w5) (fun _ => rfl) _
 have hblk6 : (w5.setCell ⟨P, 1, none⟩ v5).heap[P]? = some (.cells #[vo, v5, .int .i64 (s.most : Int)] 145 (0, 0)) := by rw [heap_setCell_same w5 P 1 _ _ _ hblk]; rfl
 have hO5' := hO5
 obtain ⟨ys5, _, hy5, _⟩ := hO5'
 obtain ⟨G5, k5, e5, _, _⟩ := aC hy5
 clear hy5
 generalize (s.frs ++ [(⟨a, b, s.ops.length, false⟩ : Ty.Fr)]).length = n5 at e5
 subst e5
 refine ⟨G5, n5, k5, w5, hrun, by rw [cell_of_row w5 P 0 _ _ (0, 0) hblk]; rfl, by rw [cell_of_row w5 P 1 _ _ (0, 0) hblk]; rfl, frozen_of_row w5 P 1 _ _ hblk, by rw [cell_of_row _ P 0 _ _ (0, 0) hblk6]; rfl, ?_⟩
 refine ⟨fun k => F k ∨ w.heap.size ≤ k, vo, .slice G5 n5 k5, ⟨hblk6, ?_, ?_, .inl h.inP, fun k e => .inl (h.inO k e), fun k e => ?_⟩, fun k hk => hk, ?_⟩
 ·exact hS.own (hM5.own h'.ops (fun k hk e => h.neOF k hk e)) (fun k hk e => h.neO (by rw [hk, e]))
 ·exact (hO5.more (S' := inS (fun k => F k ∨ w.heap.size ≤ k) P vo (.slice G5 n5 k5)) (fun k _ hs => ⟨hs.1.1, hs.1.2.1, hs.1.2.2.1, hs.2⟩)).mod hS (fun k hk e => hne5 (by rw [hk, e])) (fun k _ hs e => hs.2.1 e)
 ·rcases hT5 k e with e | e
  ·exact .inl (h.inF k e)
  ·exact .inr (Nat.le_trans hb.size e)
 ·exact ((Mod.of_below (T := F) hb).trans hM5 (fun k _ e => h.inF k e)).trans hS (fun k _ e => by rw [e]; exact h.inP)
theorem en {w : World} {F : Nat → Prop} {P : Nat} {s : Ty.T} {vo vf : Value} (h : Stk w F P s vo vf) (a b : List UInt8) (va vb : Value) (ha : ab w (· < w.heap.size) a va) (hb : ab w (· < w.heap.size) b vb) (h1 : a.length ≤ 1000000000) (h2 : b.length ≤ 1000000000) (h3 : s.frs.length ≤ 1000000000) :
  Calls Tryz.prog 70 #[.pointer (some ⟨P, 0, none⟩), va, vb] w fun e w' => e = .returned (.tuple #[]) ∧ aB F w P (s.op a b) w' := by
 have HCA : Hid (∀ W, Below w.heap.size w W → Calls Tryz.prog 62 #[va] W fun e w' => ∃ A c, e = .returned (.slice A a.length c) ∧ ab w' (W.heap.size ≤ ·) a (.slice A a.length c) ∧ Below W.heap.size W w') := J (fun W hW => cC a va W (ha.grow hW) h1)
 have HCB : Hid (∀ W, Below w.heap.size w W → Calls Tryz.prog 62 #[vb] W fun e w' => ∃ A c, e = .returned (.slice A b.length c) ∧ ab w' (W.heap.size ≤ ·) b (.slice A b.length c) ∧ Below W.heap.size W w') := J (fun W hW => cC b vb W (hb.grow hW) h2)
 have HEND : Hid (∀ w2 u1 u2, Below w.heap.size w w2 → ab w2 (w.heap.size ≤ ·) a u1 → ab w2 (w.heap.size ≤ ·) b u2 → _) := J (fun w2 u1 u2 hb q1 q2 => h.opened hb q1 q2 h3)
 have HC0 : Hid (∀ W, Below w.heap.size w W → W.cell? ⟨P, 0, none⟩ = some vo) := J (fun W hW => (h.on hW).cell0)
 have HC1 : Hid (∀ W, Below w.heap.size w W → W.cell? ⟨P, 1, none⟩ = some vf) := J (fun W hW => (h.on hW).cell1)
 obtain ⟨A0, c0, rfl, _, _⟩ := aC h.ops
 obtain ⟨ys, _, hys, _⟩ := h.frs
 obtain ⟨B0, d0, rfl, _, _⟩ := aC hys
 obtain ⟨A1, c1, rfl, _⟩ := ha
 obtain ⟨A2, c2, rfl, _⟩ := hb
 clear hys h h1 h2 h3
 obtain ⟨m, hm⟩ : ∃ m, s.ops.length = m := ⟨_, rfl⟩
 obtain ⟨fl, hfl⟩ : ∃ m, s.frs.length = m := ⟨_, rfl⟩
 obtain ⟨na, hna⟩ : ∃ m, a.length = m := ⟨_, rfl⟩
 obtain ⟨nb, hnb⟩ : ∃ m, b.length = m := ⟨_, rfl⟩
 rw [hna] at HCA
 rw [hna]
 rw [hnb] at HCB
 rw [hnb]
 rw [hm] at HC0 HEND
 rw [hfl] at HC1 HEND
 clear hm hfl hna hnb
 have HB0 : Hid (Below w.heap.size w w.drew) := J (Below.drew (Below.refl _ _))
 go_enter Tryz.func70, Tryz.ntmps70
 go_upto_region 1 with fail
 refine wp_region_held_drew (S := fun W' => W'.cell? ⟨P, 0, none⟩ = some (.slice A0 m c0)) (by kernel_rfl) ((HC0.out _ HB0.out)) (fun hHeld => ?_)
 refine dv 0 rfl ?_
 refine dv 1 rfl ?_
 refine dv 2 rfl ?_
 refine dv 3 rfl ?_
 refine dv 5 rfl ?_
 refine dv 7 rfl ?_
 refine dv 9 rfl ?_
 refine dv 10 rfl ?_
 refine dv 11 rfl ?_
 refine dv 12 rfl ?_
 refine dv 13 rfl ?_
 refine ah 4 6 rfl rfl (by kernel_rfl) (fun K hK => ?_) (fun K hK => ?_)
 ·have hl := HC1.out w.drew HB0.out
  go_simp
  clear hl
  refine hK.out _ _ hHeld (fun hHeld2 => ?_)
  clear hK K hHeld
  have hHeld := hHeld2
  clear hHeld2
  refine aa 6 rfl (by kernel_rfl) (fun K hK => ?_)
  go_simp
  refine (HCA.out _ HB0.out).mono ?_
  rintro e w1 ⟨E1, f1, rfl, hs1, hb⟩
  have HB1 : Hid (Below w.heap.size w w1) := J (Below.trans HB0.out (hb.mono (Below.size HB0.out)))
  have HS1 : Hid (ab w1 (w.heap.size ≤ ·) a (.slice E1 na f1)) := J (hs1.more (fun k _ hk => Nat.le_trans (Below.size HB0.out) hk))
  clear hs1 hb
  go_wp2_with fail
  refine hK.out _ _ (HC0.out _ HB1.out) (fun hHeld2 => ?_)
  clear hK K hHeld
  have hHeld := hHeld2
  clear hHeld2
  refine aa 8 rfl (by kernel_rfl) (fun K hK => ?_)
  go_simp
  refine (HCB.out _ HB1.out).mono ?_
  rintro e w2 ⟨E2, f2, rfl, hs2, hb⟩
  have HB2 : Hid (Below w.heap.size w w2) := J (Below.trans HB1.out (hb.mono (Below.size HB1.out)))
  have HS2 : Hid (ab w2 (w.heap.size ≤ ·) b (.slice E2 nb f2)) := J (hs2.more (fun k _ hk => Nat.le_trans (Below.size HB1.out) hk))
  have HS1 : Hid (ab w2 (w.heap.size ≤ ·) a (.slice E1 na f1)) := J (HS1.out.mod (T := fun _ => False) (Mod.of_below hb) (fun _ _ _ h => h))
  have HB3 : Hid (Below w.heap.size w (w2.alloc (.cells #[.slice E1 na f1, .slice E2 nb f2, .int .i64 (m : Int), .bool false] 151))) := J (HB2.out.alloc HB2.out.size _)
  obtain ⟨G5, n5, k5, w5, hrun, hc5, hc51, hf5, hc6, htp⟩ := HEND.out w2 _ _ HB2.out HS1.out HS2.out
  have HRUN := J hrun
  have HC5 := J hc5
  have HC51 := J hc51
  have HF5 := J hf5
  have HC6 := J hc6
  have HTP := J htp
  clear hs2 hb hrun hc5 hc51 hf5 hc6 htp
  go_wp2_with fail
  refine hK.out _ _ (HC0.out _ HB2.out) (fun hHeld2 => ?_)
  clear hK K hHeld
  have hHeld := hHeld2
  clear hHeld2
  refine dv 14 rfl ?_
  refine aa 15 rfl (by kernel_rfl) (fun K hK => ?_)
  go_simp
  refine hK.out _ _ (HC0.out _ HB3.out) (fun hHeld2 => ?_)
  clear hK K hHeld
  have hHeld := hHeld2
  clear hHeld2
  refine aa 16 rfl (by kernel_rfl) (fun K hK => ?_)
  rw [if_pos]
  case hc => rfl
  refine ai (.tmp 12) (.tmp 23) 143 rfl _ _ _ w5 rfl rfl HRUN.out ?_
  refine hK.out _ _ HC5.out (fun hHeld2 => ?_)
  clear hK K hHeld
  have hHeld := hHeld2
  clear hHeld2
  try simp only [Act.put, O]
  refine dv 17 rfl ?_
  refine dv 18 rfl ?_
  refine aa 19 rfl (by kernel_rfl) (fun K hK => ?_)
  have hl := HC51.out
  have gl := HF5.out
  go_simp
  clear hl gl
  refine hK.out _ _ HC6.out (fun hHeld2 => ?_)
  clear hK K hHeld hHeld2
  refine wpAnyH_done (by kernel_rfl) ?_ _
  go_wp2_with fail
  go_end0
  exact ⟨rfl, HTP.out⟩
 ·go_simp
  refine (HCA.out _ HB0.out).mono ?_
  rintro e w1 ⟨E1, f1, rfl, hs1, hb⟩
  have HB1 : Hid (Below w.heap.size w w1) := J (Below.trans HB0.out (hb.mono (Below.size HB0.out)))
  have HS1 : Hid (ab w1 (w.heap.size ≤ ·) a (.slice E1 na f1)) := J (hs1.more (fun k _ hk => Nat.le_trans (Below.size HB0.out) hk))
  clear hs1 hb
  go_wp2_with fail
  refine hK.out _ _ (HC0.out _ HB1.out) (fun hHeld2 => ?_)
  clear hK K hHeld
  have hHeld := hHeld2
  clear hHeld2
  refine ah 4 8 rfl rfl (by kernel_rfl) (fun K hK => ?_) (fun K hK => ?_)
  ·have hl := HC1.out w1 HB1.out
   go_simp
   clear hl
   refine hK.out _ _ hHeld (fun hHeld2 => ?_)
   clear hK K hHeld
   have hHeld := hHeld2
   clear hHeld2
   refine aa 8 rfl (by kernel_rfl) (fun K hK => ?_)
   go_simp
   refine (HCB.out _ HB1.out).mono ?_
   rintro e w2 ⟨E2, f2, rfl, hs2, hb⟩
   have HB2 : Hid (Below w.heap.size w w2) := J (Below.trans HB1.out (hb.mono (Below.size HB1.out)))
   have HS2 : Hid (ab w2 (w.heap.size ≤ ·) b (.slice E2 nb f2)) := J (hs2.more (fun k _ hk => Nat.le_trans (Below.size HB1.out) hk))
   have HS1 : Hid (ab w2 (w.heap.size ≤ ·) a (.slice E1 na f1)) := J (HS1.out.mod (T := fun _ => False) (Mod.of_below hb) (fun _ _ _ h => h))
   have HB3 : Hid (Below w.heap.size w (w2.alloc (.cells #[.slice E1 na f1, .slice E2 nb f2, .int .i64 (m : Int), .bool false] 151))) := J (HB2.out.alloc HB2.out.size _)
   obtain ⟨G5, n5, k5, w5, hrun, hc5, hc51, hf5, hc6, htp⟩ := HEND.out w2 _ _ HB2.out HS1.out HS2.out
   have HRUN := J hrun
   have HC5 := J hc5
   have HC51 := J hc51
   have HF5 := J hf5
   have HC6 := J hc6
   have HTP := J htp
   clear hs2 hb hrun hc5 hc51 hf5 hc6 htp
   go_wp2_with fail
   refine hK.out _ _ (HC0.out _ HB2.out) (fun hHeld2 => ?_)
   clear hK K hHeld
   have hHeld := hHeld2
   clear hHeld2
   refine dv 14 rfl ?_
   refine aa 15 rfl (by kernel_rfl) (fun K hK => ?_)
   go_simp
   refine hK.out _ _ (HC0.out _ HB3.out) (fun hHeld2 => ?_)
   clear hK K hHeld
   have hHeld := hHeld2
   clear hHeld2
   refine aa 16 rfl (by kernel_rfl) (fun K hK => ?_)
   rw [if_pos]
   case hc => rfl
   refine ai (.tmp 12) (.tmp 23) 143 rfl _ _ _ w5 rfl rfl HRUN.out ?_
   refine hK.out _ _ HC5.out (fun hHeld2 => ?_)
   clear hK K hHeld
   have hHeld := hHeld2
   clear hHeld2
   try simp only [Act.put, O]
   refine dv 17 rfl ?_
   refine dv 18 rfl ?_
   refine aa 19 rfl (by kernel_rfl) (fun K hK => ?_)
   have hl := HC51.out
   have gl := HF5.out
   go_simp
   clear hl gl
   refine hK.out _ _ HC6.out (fun hHeld2 => ?_)
   clear hK K hHeld hHeld2
   refine wpAnyH_done (by kernel_rfl) ?_ _
   go_wp2_with fail
   go_end0
   exact ⟨rfl, HTP.out⟩
  ·go_simp
   refine (HCB.out _ HB1.out).mono ?_
   rintro e w2 ⟨E2, f2, rfl, hs2, hb⟩
   have HB2 : Hid (Below w.heap.size w w2) := J (Below.trans HB1.out (hb.mono (Below.size HB1.out)))
   have HS2 : Hid (ab w2 (w.heap.size ≤ ·) b (.slice E2 nb f2)) := J (hs2.more (fun k _ hk => Nat.le_trans (Below.size HB1.out) hk))
   have HS1 : Hid (ab w2 (w.heap.size ≤ ·) a (.slice E1 na f1)) := J (HS1.out.mod (T := fun _ => False) (Mod.of_below hb) (fun _ _ _ h => h))
   have HB3 : Hid (Below w.heap.size w (w2.alloc (.cells #[.slice E1 na f1, .slice E2 nb f2, .int .i64 (m : Int), .bool false] 151))) := J (HB2.out.alloc HB2.out.size _)
   obtain ⟨G5, n5, k5, w5, hrun, hc5, hc51, hf5, hc6, htp⟩ := HEND.out w2 _ _ HB2.out HS1.out HS2.out
   have HRUN := J hrun
   have HC5 := J hc5
   have HC51 := J hc51
   have HF5 := J hf5
   have HC6 := J hc6
   have HTP := J htp
   clear hs2 hb hrun hc5 hc51 hf5 hc6 htp
   go_wp2_with fail
   refine hK.out _ _ (HC0.out _ HB2.out) (fun hHeld2 => ?_)
   clear hK K hHeld
   have hHeld := hHeld2
   clear hHeld2
   refine dv 14 rfl ?_
   refine ah 4 15 rfl rfl (by kernel_rfl) (fun K hK => ?_) (fun K hK => ?_)
   ·have hl := HC1.out w2 HB2.out
    go_simp
    clear hl
    refine hK.out _ _ hHeld (fun hHeld2 => ?_)
    clear hK K hHeld
    have hHeld := hHeld2
    clear hHeld2
    refine aa 15 rfl (by kernel_rfl) (fun K hK => ?_)
    go_simp
    refine hK.out _ _ (HC0.out _ HB3.out) (fun hHeld2 => ?_)
    clear hK K hHeld
    have hHeld := hHeld2
    clear hHeld2
    refine aa 16 rfl (by kernel_rfl) (fun K hK => ?_)
    rw [if_pos]
    case hc => rfl
    refine ai (.tmp 12) (.tmp 23) 143 rfl _ _ _ w5 rfl rfl HRUN.out ?_
    refine hK.out _ _ HC5.out (fun hHeld2 => ?_)
    clear hK K hHeld
    have hHeld := hHeld2
    clear hHeld2
    try simp only [Act.put, O]
    refine dv 17 rfl ?_
    refine dv 18 rfl ?_
    refine aa 19 rfl (by kernel_rfl) (fun K hK => ?_)
    have hl := HC51.out
    have gl := HF5.out
    go_simp
    clear hl gl
    refine hK.out _ _ HC6.out (fun hHeld2 => ?_)
    clear hK K hHeld hHeld2
    refine wpAnyH_done (by kernel_rfl) ?_ _
    go_wp2_with fail
    go_end0
    exact ⟨rfl, HTP.out⟩
   ·go_simp
    refine hK.out _ _ (HC0.out _ HB3.out) (fun hHeld2 => ?_)
    clear hK K hHeld
    have hHeld := hHeld2
    clear hHeld2
    refine aa 4 rfl (by kernel_rfl) (fun K hK => ?_)
    have hl := HC1.out (w2.alloc (.cells #[.slice E1 na f1, .slice E2 nb f2, .int .i64 (m : Int), .bool false] 151)) HB3.out
    go_simp
    clear hl
    refine hK.out _ _ hHeld (fun hHeld2 => ?_)
    clear hK K hHeld
    have hHeld := hHeld2
    clear hHeld2
    refine aa 16 rfl (by kernel_rfl) (fun K hK => ?_)
    rw [if_pos]
    case hc => rfl
    refine ai (.tmp 12) (.tmp 23) 143 rfl _ _ _ w5 rfl rfl HRUN.out ?_
    refine hK.out _ _ HC5.out (fun hHeld2 => ?_)
    clear hK K hHeld
    have hHeld := hHeld2
    clear hHeld2
    try simp only [Act.put, O]
    refine dv 17 rfl ?_
    refine dv 18 rfl ?_
    refine aa 19 rfl (by kernel_rfl) (fun K hK => ?_)
    have hl := HC51.out
    have gl := HF5.out
    go_simp
    clear hl gl
    refine hK.out _ _ HC6.out (fun hHeld2 => ?_)
    clear hK K hHeld hHeld2
    refine wpAnyH_done (by kernel_rfl) ?_ _
    go_wp2_with fail
    go_end0
    exact ⟨rfl, HTP.out⟩
theorem tnew_any (e : List UInt8) (ve : Value) (w : World) (he : ab w (· < w.heap.size) e ve) (h1 : e.length ≤ 1000000000) :
  Calls Tryz.prog 47 #[ve] w fun r w' => ∃ P F vo vf, r = .returned (.pointer (some ⟨P, 0, none⟩)) ∧ Stk w' F P (Ty.T.new e) vo vf ∧ (∀ k, F k → w.heap.size ≤ k) ∧ Below w.heap.size w w' := by
 have hb0 : Below w.heap.size w (w.alloc (.cells #[.slice none 0 0, .slice none 0 0, .int .i64 0] 145)) := (Below.refl _ _).alloc (Nat.le_refl _) _
 have hS0 : Stk (w.alloc (.cells #[.slice none 0 0, .slice none 0 0, .int .i64 0] 145)) (fun k => k = w.heap.size) w.heap.size Ty.T.start (.slice none 0 0) (.slice none 0 0) :=
  ⟨heap_alloc_new w _, World.ownsRow_nil _ _ _ _, OwnL.nil _ _ _ _, rfl, fun k e => (by cases e), fun k e => (by cases e)⟩
 have HO := J (en hS0 e e ve ve (he.grow hb0) (he.grow hb0) h1 h1 (by simp [Ty.T.start]))
 have HB0 := J hb0
 obtain ⟨A, c, rfl, _⟩ := he
 obtain ⟨n, hn⟩ : ∃ n, e.length = n := ⟨_, rfl⟩
 rw [hn] at HO
 rw [hn]
 clear hS0 hb0 h1 hn
 obtain ⟨P, hP⟩ : ∃ P, w.heap.size = P := ⟨_, rfl⟩
 rw [hP] at HO
 have HP := J hP
 have HX : Hid (∀ W, Below w.heap.size w W → W = W) := J (fun _ _ => rfl)
 obtain ⟨W0, hW0⟩ : ∃ W0, w.alloc (.cells #[.slice none 0 0, .slice none 0 0, .int .i64 0] 145) = W0 := ⟨_, rfl⟩
 go_enter Tryz.func47, Tryz.ntmps47
 go_upto_region 2 with fail
 try simp only [hP]
 clear hP HX
 try rw [hW0]
 rw [hW0] at HO HB0
 have HZ : Hid (w.heap.size < W0.heap.size) := J (by rw [← hW0]; simp)
 clear hW0
 go_wp2_with (go_at_call 70; refine HO.out.mono ?_; rintro r w1 ⟨rfl, F', vo', vf', q1, q2, q3⟩; have HS1 := J q1; have HF1 := J q2; have HM1 := J q3; clear q1 q2 q3)
 go_ret
 have hp := HP.out
 have hz := HZ.out
 have hq := HB0.out.size
 refine ⟨P, F', vo', vf', rfl, HS1.out, fun k hk => ?_, HB0.out.trans (HM1.out.below hq (fun k hk e => by omega))⟩
 rcases HF1.out k hk with e | e
 ·omega
 ·omega
end Go.Proofs.YtelcdmkbaegjoaaGreat
