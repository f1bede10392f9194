/-
  Layer 14's statement PartRounds: a row of indexes; what begins where; plain facts.
-/
import Derived.Test.YtknnkmakfcfnjaaDoorPaKnown
import Derived.Deep.OwnRows
namespace Pa
open Ins
/-- An index. -/
structure Ix where
  v : Nat
/-- Whether a part begins at a place. -/
def beg (xs : List I) : Nat → Bool
  | 0 => true
  | k + 1 => match xs[k]? with
    | some x => ends x.op
    | none => false
theorem beg_at {xs : List I} {k : Nat} {x : I} (h : xs[k]? = some x) : beg xs (k + 1) = ends x.op := by simp [beg, h]
/-- What has been charged when places up to k are added up. -/
def mix (ps : List P) (k i : Nat) : Nat := if i ≤ k then pre ps i else at0 ps i
theorem mix_le (ps : List P) (k i : Nat) : mix ps k i ≤ costs ps := by
  unfold mix
  split
  · exact pre_le ps i
  · exact Nat.le_trans (at0_le ps i) (pre_le ps i)
theorem mix_step (ps : List P) (k i : Nat) : mix ps (k + 1) i = if i = k + 1 then mix ps k (k + 1) + mix ps k k else mix ps k i := by
  unfold mix
  by_cases h : i = k + 1
  · subst h
    rw [if_pos (Nat.le_refl _), if_pos rfl, if_neg (by omega), if_pos (Nat.le_refl _), pre]
  · rw [if_neg h]
    by_cases h2 : i ≤ k
    · rw [if_pos (by omega), if_pos h2]
    · rw [if_neg (by omega), if_neg h2]
theorem mix_zero (ps : List P) (i : Nat) : mix ps 0 i = at0 ps i := by
  unfold mix
  split
  · next h => have : i = 0 := by omega
              rw [this, pre]
  · rfl
theorem at0_take {ps : List P} {j : Nat} {p : P} (h : ps[j]? = some p) (k : Nat) : at0 (ps.take (j + 1)) k = at0 (ps.take j) k + if p.at_ = k then p.cost else 0 := by
  rw [List.take_add_one, h, at0_append]
  simp only [Option.toList]
  rw [at0_one]
theorem at0_take_le (ps : List P) (j k : Nat) : at0 (ps.take j) k ≤ costs ps := by
  have h1 : ps = ps.take j ++ ps.drop j := (List.take_append_drop j ps).symm
  have h2 : at0 ps k = at0 (ps.take j) k + at0 (ps.drop j) k := by conv => lhs; rw [h1, at0_append]
  have h3 := Nat.le_trans (at0_le ps k) (pre_le ps k)
  omega
theorem costs_le (xs : List I) : costs (parts xs) ≤ 20 * xs.length := by
  have h1 := chain_sum xs _ 0 (chain_parts xs)
  have h2 := Co.sum_le xs
  omega
end Pa
namespace Go.Proofs.YtknnkmakfcfnjaaDoor
open Go.RowKit Ins
instance : Lay Pa.Ix where
  size := 1
  rep _ _ x cs := cs = [.int .i64 (x.v : Int)]
  len h := by rw [h]; rfl
  mod h _ _ := h
  more h _ := h
theorem undInt : Tryd.prog.underlying 45 = some (.slice 3) := by kernel_rfl
theorem infInt : (Tryd.prog.info? 3).map (fun i => (i.zero, i.size, i.bytes)) = some (some (.int .i64 0), Lay.size Pa.Ix, 8) := by kernel_rfl
theorem undBools : Tryd.prog.underlying 43 = some (.slice 4) := by kernel_rfl
theorem infBool : (Tryd.prog.info? 4).map (fun i => (i.zero, i.size, i.bytes)) = some (some (.bool false), 1, 1) := by kernel_rfl
theorem undU64s : Tryd.prog.underlying 44 = some (.slice 29) := by kernel_rfl
theorem infU64 : (Tryd.prog.info? 29).map (fun i => (i.zero, i.size, i.bytes)) = some (some (.int .u64 0), 1, 8) := by kernel_rfl
/-- An instruction's five cells, with what they are. -/
theorem HasL.fiveA {S : Nat → Prop} {w w' : World} {A : Option Addr} {xs : List I} (h : HasL w S A xs) (hb : Below w.heap.size w w') {j : Nat} {x : I} (hx : xs[j]? = some x) :
    ∃ g o A' c, A = some ⟨g, o, none⟩ ∧ x.wf ∧ w'.cell? ⟨g, o + j * 5, none⟩ = some (.int .u8 (x.op : Int)) ∧ w'.cell? ⟨g, o + j * 5 + 1, none⟩ = some (.int .u32 (x.a : Int)) ∧ w'.cell? ⟨g, o + j * 5 + 2, none⟩ = some (.int .u32 (x.b : Int)) ∧ w'.cell? ⟨g, o + j * 5 + 3, none⟩ = some (.int .i64 x.c) ∧ w'.cell? ⟨g, o + j * 5 + 4, none⟩ = some (.slice A' x.l.length c) := by
  obtain ⟨g, of, cs, rfl, _, hg, ⟨Al, cl, rfl, hwf, _⟩, hcs⟩ := h j x hx
  exact ⟨g, of, Al, cl, rfl, hwf, (hb.cell (p := ⟨g, of + j * 5, none⟩) hg).trans (hcs 0 _ rfl), (hb.cell (p := ⟨g, of + j * 5 + 1, none⟩) hg).trans (hcs 1 _ rfl), (hb.cell (p := ⟨g, of + j * 5 + 2, none⟩) hg).trans (hcs 2 _ rfl), (hb.cell (p := ⟨g, of + j * 5 + 3, none⟩) hg).trans (hcs 3 _ rfl), (hb.cell (p := ⟨g, of + j * 5 + 4, none⟩) hg).trans (hcs 4 _ rfl)⟩
theorem row_on {w w' : World} {b n : Nat} {t : TypeId} {f : Nat → Value} (h : w.rowIs b t n f) (hb : Below w.heap.size w w') : w'.rowIs b t n f := h.of_block (hb.block b h.lt)
end Go.Proofs.YtknnkmakfcfnjaaDoor
