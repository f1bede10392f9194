/-
  Layer 13's program: what all instructions of a list cost together.
-/
import Derived.Test.YtknnkmakfcfnjaaDoorCoOf
import Derived.Test.YtknnkmakfcfnjaaDoorLayRow
import Derived.Deep.CutRange
import Derived.Deep.CutBlock
namespace Go.Proofs.YtknnkmakfcfnjaaDoor
open Go.RowKit Ins
theorem Below.next {w w1 w2 : World} (h : Below w.heap.size w w1) (h2 : Below w1.heap.size w1 w2) : Below w.heap.size w w2 := h.trans (h2.mono h.size)
theorem HasL.on {α : Type} [Lay α] {S : Nat → Prop} {w w' : World} {A : Option Addr} {xs : List α} (h : HasL w S A xs) (hb : Below w.heap.size w w') : HasL w' S A xs := h.mod (T := fun _ => False) (Mod.of_below hb) (fun _ _ _ h => h)
/-- An instruction's five cells in a row that reads as instructions. -/
theorem HasL.five {S : Nat → Prop} {w w' : World} {A : Option Addr} {xs : List I} (h : HasL w S A xs) (hb : Below w.heap.size w w') {j : Nat} {x : I} (hx : xs[j]? = some x) :
    ∃ g o v1 v2 v3 v4, A = some ⟨g, o, none⟩ ∧ x.op < 256 ∧ w'.cell? ⟨g, o + j * 5, none⟩ = some (.int .u8 (x.op : Int)) ∧ w'.cell? ⟨g, o + j * 5 + 1, none⟩ = some (.int .u32 v1) ∧ w'.cell? ⟨g, o + j * 5 + 2, none⟩ = some (.int .u32 v2) ∧ w'.cell? ⟨g, o + j * 5 + 3, none⟩ = some (.int .i64 v3) ∧ (∃ A' n c, v4 = .slice A' n c) ∧ w'.cell? ⟨g, o + j * 5 + 4, none⟩ = some v4 := by
  obtain ⟨g, of, cs, rfl, _, hg, ⟨Al, cl, rfl, hwf, _⟩, hcs⟩ := h j x hx
  exact ⟨g, of, _, _, _, _, rfl, hwf.1, (hb.cell (p := ⟨g, of + j * 5, none⟩) hg).trans (hcs 0 _ rfl), (hb.cell (p := ⟨g, of + j * 5 + 1, none⟩) hg).trans (hcs 1 _ rfl), (hb.cell (p := ⟨g, of + j * 5 + 2, none⟩) hg).trans (hcs 2 _ rfl), (hb.cell (p := ⟨g, of + j * 5 + 3, none⟩) hg).trans (hcs 3 _ rfl), ⟨_, _, _, rfl⟩, (hb.cell (p := ⟨g, of + j * 5 + 4, none⟩) hg).trans (hcs 4 _ rfl)⟩
set_option maxRecDepth 100000 in
set_option maxHeartbeats 4000000 in
theorem csum_any (xs : List I) (S : Nat → Prop) (A : Option Addr) (n c : Nat) (w : World) (hn : n = xs.length) (hs : n ≤ 140737488355328) (hL : HasL w S A xs) (hT : TbC w) :
    Calls Tryd.prog 12 #[.slice A n c] w fun e w' => e = .returned (.int .u64 (Co.sum xs : Int)) ∧ Below w.heap.size w w' := by
  have HL := Lib.hid hL
  have HT := Lib.hid hT
  have HN := Lib.hid hn
  clear hL hT hn
  go_enter Tryd.func12, Tryd.ntmps12
  go_upto_region 3 with fail
  go_loopw [8, 3] (fun i sv wr => ∃ j s : Nat, j ≤ n ∧ i = .int .i64 (j : Int) ∧ sv = .int .u64 (s : Int) ∧ Hid (s = Co.sum (xs.take j)) ∧ Hid (Below w.heap.size w wr)) (fun i _ _ => n - (intOf i).toNat)
  case atStart => exact ⟨0, 0, Nat.zero_le _, rfl, rfl, Lib.hid rfl, Lib.hid (Below.refl _ _)⟩
  case round =>
    obtain ⟨j, s, hj, rfl, rfl, HS, HB⟩ := hrel
    by_cases hlt : j < n
    · have hlti : (j : Int) < (n : Int) := by omega
      obtain ⟨x, hx⟩ : ∃ x, xs[j]? = some x := ⟨_, List.getElem?_eq_getElem (by rw [← HN.out]; exact hlt)⟩
      have HST := Lib.hid (Co.sum_step hx)
      have hsl : s + Co.of x.op ≤ 20 * n := by
        have h1 := Co.sum_le (xs.take (j + 1))
        rw [HST.out, ← HS.out, List.length_take] at h1
        omega
      obtain ⟨g, o, v1, v2, v3, v4, rfl, hop, z0, z1, z2, z3, ⟨A', n', c', rfl⟩, z4⟩ := HL.out.five HB.out hx
      clear hx
      obtain ⟨op, hop'⟩ : ∃ op, x.op = op := ⟨_, rfl⟩
      rw [hop'] at hop z0 HST hsl
      have HOP := Lib.hid hop
      clear hop' hop
      have hw : IntKind.u64.wrap ((s : Int) + (Co.of op : Int)) = ((s + Co.of op : Nat) : Int) := by rw [IntWalk.u64_in _ (by omega)]; omega
      obtain ⟨q, hq⟩ : ∃ q, Co.of op = q := ⟨_, rfl⟩
      rw [hq] at hw hsl HST
      have HQ := Lib.hid hq
      clear hq
      have HT1 := Lib.hid ((HT.out.on HB.out).on ((Below.refl _ _).alloc (Nat.le_refl _) (.cells #[.int .u8 (op : Int), .int .u32 v1, .int .u32 v2, .int .i64 v3, .slice A' n' c'] 41)))
      have HB1 := Lib.hid (HB.out.alloc (HB.out.size) (.cells #[.int .u8 (op : Int), .int .u32 v1, .int .u32 v2, .int .i64 v3, .slice A' n' c'] 41))
      go_wp2_with (go_at_call 17; refine (cof_any op _ _ _ _ _ HOP.out HT1.out).mono ?_; rintro e w' ⟨rfl, hb⟩; have HB2 := Lib.hid (HB1.out.trans (hb.mono HB1.out.size)); clear hb; rw [HQ.out])
      go_roundw
      case rel => exact ⟨j + 1, s + q, by omega, by go_num, rfl, Lib.hid (by rw [HST.out, HS.out]), HB2⟩
      case measure => simp [intOf]; omega
    · have hjn : j = n := by omega
      have HR : Hid (s = Co.sum xs) := Lib.hid (by rw [HS.out, hjn, List.take_of_length_le (by rw [← HN.out]; omega)])
      have hge : decide ((j : Int) < (n : Int)) = false := decide_eq_false (by omega)
      have hge2 : decide (j < n) = false := decide_eq_false hlt
      clear hlt hjn
      go_wp2
      go_ret
      exact ⟨by rw [HR.out]; rfl, HB.out⟩
end Go.Proofs.YtknnkmakfcfnjaaDoor
