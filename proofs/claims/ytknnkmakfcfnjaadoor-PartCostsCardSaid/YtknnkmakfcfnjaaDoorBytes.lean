/-
  A slice that reads as bytes; rows of a call's own and literals, read as bytes; string(b).
-/
import Derived.Test.YtknnkmakfcfnjaaDoorRows
import Derived.WalkKit
import Derived.RegionTactic
import Derived.Deep.QuietTactic
import Derived.BigQuiet
import Derived.Below
import Derived.Outline
import Derived.OwnWalk
import Derived.Lib.Hide
namespace Go.Proofs.YtknnkmakfcfnjaaDoor
open Go.RowKit
/-- A slice (its address, as the model has it) reads as these bytes, and lies below block B. -/
def Has (w : World) (B : Nat) (A : Option Addr) (l : List UInt8) : Prop := ∀ (k : Nat) (x : UInt8), l[k]? = some x → ∃ ad, A = some ad ∧ ad.block < B ∧ w.cell? (ad.add k) = some (.int .u8 (x.toNat : Int))
theorem Has.keep {w w' : World} {B : Nat} {A : Option Addr} {l : List UInt8} (h : Has w B A l) (hk : ∀ p : Addr, p.block < B → w'.cell? p = w.cell? p) : Has w' B A l := fun k x hx => by
  obtain ⟨ad, h1, h2, h3⟩ := h k x hx
  have hb : (ad.add k).block = ad.block := by unfold Addr.add; split <;> rfl
  exact ⟨ad, h1, h2, (hk _ (by rw [hb]; exact h2)).trans h3⟩
theorem Has.more {w : World} {B B' : Nat} {A : Option Addr} {l : List UInt8} (h : Has w B A l) (hB : B ≤ B') : Has w B' A l := fun k x hx => by
  obtain ⟨ad, h1, h2, h3⟩ := h k x hx
  exact ⟨ad, h1, by omega, h3⟩
theorem Has.below {w w' : World} {B : Nat} {A : Option Addr} {l : List UInt8} (h : Has w B A l) (hb : Below B w w') : Has w' B A l := h.keep fun _ hp => hb.cell hp
/-- Behind a call that leaves what was there as it was. -/
theorem Has.on {w w' : World} {A : Option Addr} {l : List UInt8} (h : Has w w.heap.size A l) (hb : Below w.heap.size w w') : Has w' w'.heap.size A l := (h.below hb).more hb.size
theorem Has.alloc {w : World} {B : Nat} {A : Option Addr} {l : List UInt8} (h : Has w B A l) (hB : B ≤ w.heap.size) (o : Obj) : Has (w.alloc o) B A l := h.keep fun p hp => World.cell?_alloc_lt w o p (by omega)
theorem Has.nil (w : World) (B : Nat) (A : Option Addr) : Has w B A [] := fun k x hx => by simp at hx
theorem Below.dn {B : Nat} {a w : World} (h : Below B a w) (n : Nat) : Below B a (w.drewN n) := ⟨h.os, h.tape, h.output, h.size, h.block⟩
/-- The cells of bytes. -/
def bytesOf (l : List UInt8) : List Value := l.map fun x => .int .u8 (x.toNat : Int)
theorem bytesOf_length (l : List UInt8) : (bytesOf l).length = l.length := by simp [bytesOf]
theorem bytesOf_at {l : List UInt8} {k : Nat} {u : Value} (h : (bytesOf l)[k]? = some u) : ∃ x, l[k]? = some x ∧ u = .int .u8 (x.toNat : Int) := by
  simp only [bytesOf, List.getElem?_map, Option.map_eq_some_iff] at h
  obtain ⟨x, hx, rfl⟩ := h
  exact ⟨x, hx, rfl⟩
theorem bytesOf_one (l : List UInt8) : ∀ u ∈ bytesOf l, u.oneCell' = true := by
  intro u hu
  simp only [bytesOf, List.mem_map] at hu
  obtain ⟨x, _, rfl⟩ := hu
  rfl
theorem Has.cells {w : World} {B : Nat} {A : Option Addr} {l : List UInt8} (h : Has w B A l) (h0 : 0 < (bytesOf l).length) : ∃ ad, A = some ad ∧ ∀ j v, (bytesOf l)[j]? = some v → w.cell? (ad.add j) = some v := by
  rw [bytesOf_length] at h0
  obtain ⟨ad, hA, _, _⟩ := h 0 l[0] (List.getElem?_eq_getElem h0)
  refine ⟨ad, hA, fun j v hv => ?_⟩
  obtain ⟨x, hx, rfl⟩ := bytesOf_at hv
  obtain ⟨ad', hA', _, hc⟩ := h j x hx
  rw [hA] at hA'
  injection hA' with hA'
  subst hA'
  exact hc
theorem one_new (W : World) (x : Value) (t : TypeId) : ∀ (j : Nat) (u : Value), [x][j]? = some u → (W.alloc (.cells #[x] t)).cell? ((⟨W.heap.size, 0, none⟩ : Addr).add j) = some u := by
  intro j u h
  cases j with
  | zero => simp at h; subst h; simp [Addr.add]
  | succ j => simp at h
theorem own_ge {w : World} {base e size n : Nat} {v : Value} {xs : List Value} (h : w.ownsRow base e size v n xs) : ∀ k, v.ownBlock = some k → base ≤ k := by
  intro k hk
  rcases h.2 with ⟨rfl, _⟩ | ⟨g, cap, cur, rfl, hg, _⟩
  · simp [Value.ownBlock] at hk
  · simp [Value.ownBlock] at hk; omega
theorem bytesOf_append (a b : List UInt8) : bytesOf (a ++ b) = bytesOf a ++ bytesOf b := by simp [bytesOf]
theorem bytesOf_nat (x : Nat) (h : x < 256) (z : Int) (hz : z = (x : Int)) : bytesOf [UInt8.ofNat x] = [Value.int .u8 z] := by
  subst hz
  have : (UInt8.ofNat x).toNat = x := by rw [UInt8.toNat_ofNat']; exact Nat.mod_eq_of_lt h
  show [Value.int .u8 ((UInt8.ofNat x).toNat : Int)] = _
  rw [this]
theorem und22 : Tryd.prog.underlying 47 = some (.slice 5) := by kernel_rfl
theorem info5 : (Tryd.prog.info? 5).map (fun i => (i.zero, i.size, i.bytes)) = some (some (.int .u8 0), 1, 1) := by kernel_rfl
theorem Has.take {w : World} {B : Nat} {A : Option Addr} {l : List UInt8} (h : Has w B A l) (n : Nat) : Has w B A (l.take n) := fun k x hx => by
  rw [List.getElem?_take] at hx
  split at hx
  · exact h k x hx
  · simp at hx
theorem Has.of_own {w : World} {base n : Nat} {e : TypeId} {v : Value} {l : List UInt8} (h : w.ownsRow base e 1 v n (bytesOf l)) (hn : 1 ≤ n) : ∃ (ad : Addr) (c : Nat), v = .slice (some ad) n c ∧ n ≤ c ∧ n = l.length ∧ Has w w.heap.size (some ad) l := by
  have hl := h.1
  rw [bytesOf_length, Nat.mul_one] at hl
  rcases h.2 with ⟨_, h0⟩ | ⟨g, cap, cur, rfl, hg, hh, hnc, _, _, htk⟩
  · omega
  · have hlt : g < w.heap.size := by
      rcases Nat.lt_or_ge g w.heap.size with h | h
      · exact h
      · rw [Array.getElem?_eq_none h] at hh; cases hh
    refine ⟨⟨g, 0, none⟩, cap, rfl, hnc, hl.symm, fun k x hx => ⟨_, rfl, hlt, ?_⟩⟩
    have hkl : k < l.length := (List.getElem?_eq_some_iff.1 hx).1
    have e1 : (bytesOf l)[k]? = some (.int .u8 (x.toNat : Int)) := by simp [bytesOf, hx]
    rw [← htk, Nat.mul_one, List.getElem?_take, if_pos (by omega)] at e1
    have e2 : (⟨g, 0, none⟩ : Addr).add k = ⟨g, k, none⟩ := by
      unfold Addr.add; split <;> simp_all
    rw [e2, cell_of_row w g k cur e (0, 0) hh]
    simpa using e1
theorem und5 : Tryd.prog.underlying 5 = some (.int .u8) := by kernel_rfl
theorem und9 : Tryd.prog.underlying 9 = some .string := by kernel_rfl
/-- string(b). -/
theorem run_str {w : World} {B n : Nat} {A : Option Addr} {l : List UInt8} (hA : Has w B A l) (hn : n = l.length) (c : Nat) : (convert 47 9 (.slice A n c)).run Tryd.prog w = .ok (.string ⟨l.toArray⟩) w := by
  subst hn
  cases A with
  | none =>
    have : l = [] := by
      cases l with
      | nil => rfl
      | cons x r =>
        obtain ⟨ad, h, _⟩ := hA 0 x (by simp)
        cases h
    subst this
    exact (run_convert_bytes_string w 47 9 5 none 0 c und22 und5 und9).trans rfl
  | some a =>
    refine run_convert_bytes_back w 47 9 5 a c l und22 und5 und9 (fun j hj => ?_)
    obtain ⟨ad, h, _, hc⟩ := hA j l[j] (List.getElem?_eq_getElem hj)
    injection h with h
    subst h
    exact hc
/-- A row of the call's own reads as its bytes. -/
theorem Has.own {w : World} {base n : Nat} {e : TypeId} {v : Value} {l : List UInt8} (h : w.ownsRow base e 1 v n (bytesOf l)) : ∃ (A : Option Addr) (c : Nat), v = .slice A n c ∧ n ≤ c ∧ n = l.length ∧ Has w w.heap.size A l := by
  by_cases hn : 1 ≤ n
  · obtain ⟨ad, c, h1, h2, h3, h4⟩ := Has.of_own h hn
    exact ⟨_, c, h1, h2, h3, h4⟩
  · have hl := h.1
    rw [bytesOf_length, Nat.mul_one] at hl
    have : l = [] := List.eq_nil_of_length_eq_zero (by omega)
    subst this
    rcases h.2 with ⟨rfl, h0⟩ | ⟨g, cap, cur, rfl, _, _, hc, _⟩
    · subst h0; exact ⟨none, 0, rfl, Nat.le_refl _, rfl, Has.nil _ _ _⟩
    · exact ⟨_, cap, rfl, hc, hl.symm, Has.nil _ _ _⟩
/-- A literal of bytes. -/
theorem Has.lit (w : World) (l : List UInt8) (t : TypeId) : Has (w.alloc (.cells (bytesOf l).toArray t)) (w.heap.size + 1) (some ⟨w.heap.size, 0, none⟩) l := fun k x hx => by
  refine ⟨_, rfl, Nat.lt_succ_self _, ?_⟩
  have e2 : (⟨w.heap.size, 0, none⟩ : Addr).add k = ⟨w.heap.size, k, none⟩ := by
    unfold Addr.add; split <;> simp_all
  rw [e2, World.cell?_alloc_new]
  simp [bytesOf, hx]
end Go.Proofs.YtknnkmakfcfnjaaDoor
