/-
  leb.grown's contract: a copy of the bytes that came in, in a new row of its own; all memory that was there is as it was.
-/
import Derived.Test.YtbpnlnonhjnnbaaLebWords
import Derived.Laws.CopyOwn
namespace Go.Proofs.Ytbpnlnonhjnnbaa
open Go.RowKit
/-- The cells of bytes. -/
def bytesOf (l : List UInt8) : List Value := l.map fun x => .int .u8 (x.toNat : Int)
theorem bytesOf_length (l : List UInt8) : (bytesOf l).length = l.length := by simp [bytesOf]
theorem bytesOf_at {l : List UInt8} {k : Nat} {u : Value} (h : (bytesOf l)[k]? = some u) : ∃ x, l[k]? = some x ∧ u = .int .u8 (x.toNat : Int) := by
  simp only [bytesOf, List.getElem?_map, Option.map_eq_some_iff] at h
  obtain ⟨x, hx, rfl⟩ := h
  exact ⟨x, hx, rfl⟩
theorem bytesOf_one (l : List UInt8) : ∀ u ∈ bytesOf l, u.oneCell' = true := by
  intro u hu
  simp only [bytesOf, List.mem_map] at hu
  obtain ⟨x, _, rfl⟩ := hu
  rfl
theorem Has.cells {w : World} {B : Nat} {A : Option Addr} {l : List UInt8} (h : Has w B A l) (h0 : 0 < (bytesOf l).length) : ∃ ad, A = some ad ∧ ∀ j v, (bytesOf l)[j]? = some v → w.cell? (ad.add j) = some v := by
  rw [bytesOf_length] at h0
  obtain ⟨ad, hA, _, _⟩ := h 0 l[0] (List.getElem?_eq_getElem h0)
  refine ⟨ad, hA, fun j v hv => ?_⟩
  obtain ⟨x, hx, rfl⟩ := bytesOf_at hv
  obtain ⟨ad', hA', _, hc⟩ := h j x hx
  rw [hA] at hA'
  injection hA' with hA'
  subst hA'
  exact hc
theorem one_new (W : World) (x : Value) (t : TypeId) : ∀ (j : Nat) (u : Value), [x][j]? = some u → (W.alloc (.cells #[x] t)).cell? ((⟨W.heap.size, 0, none⟩ : Addr).add j) = some u := by
  intro j u h
  cases j with
  | zero => simp at h; subst h; simp [Addr.add]
  | succ j => simp at h
theorem own_ge {w : World} {base e size n : Nat} {v : Value} {xs : List Value} (h : w.ownsRow base e size v n xs) : ∀ k, v.ownBlock = some k → base ≤ k := by
  intro k hk
  rcases h.2 with ⟨rfl, _⟩ | ⟨g, cap, cur, rfl, hg, _⟩
  · simp [Value.ownBlock] at hk
  · simp [Value.ownBlock] at hk; omega
theorem bytesOf_append (a b : List UInt8) : bytesOf (a ++ b) = bytesOf a ++ bytesOf b := by simp [bytesOf]
theorem bytesOf_nat (x : Nat) (h : x < 256) (z : Int) (hz : z = (x : Int)) : bytesOf [UInt8.ofNat x] = [Value.int .u8 z] := by
  subst hz
  have : (UInt8.ofNat x).toNat = x := by rw [UInt8.toNat_ofNat']; exact Nat.mod_eq_of_lt h
  show [Value.int .u8 ((UInt8.ofNat x).toNat : Int)] = _
  rw [this]
theorem und22 : Try.prog.underlying 22 = some (.slice 5) := by kernel_rfl
theorem info5 : (Try.prog.info? 5).map (fun i => (i.zero, i.size, i.bytes)) = some (some (.int .u8 0), 1, 1) := by kernel_rfl
set_option maxHeartbeats 400000 in
/-- leb.grown: a copy, in a new row that has room. -/
theorem c22 (A : Option Addr) (l : List UInt8) (n c : Nat) (w : World) (hn : n = l.length) (hsz : n + 10 ≤ 140737488355328) (hA : Has w w.heap.size A l) :
    Calls Try.prog 22 #[.slice A n c] w fun e w' => ∃ v, e = .returned v ∧ w'.ownsRow w.heap.size 5 1 v n (bytesOf l) ∧ Below w.heap.size w w' := by
  obtain ⟨i0, hi, hz0, hz1, hz2⟩ := info_parts info5
  have HA := Lib.hid hA
  have HN := Lib.hid hn
  have hmk := fun W => run_make (P := Try.prog) W 22 5 i0 (.int .u8 0) und22 hi hz0 .i64 .i64 (n : Int) ((n : Int) + 10) (by omega) (by omega) (by rw [hz2]; omega) (by omega)
  clear hA hn
  go_enter Try.func22, Try.ntmps22
  go_wp2_with (with_reducible refine wpList_copy_splice rfl (.tmp 10) (.tmp 11) 22 22 rfl 5 und22 ?hsz1 (some ⟨w.heap.size, 0, none⟩) A n (n + 10) n c rfl rfl w.heap.size 0 (madeCells #[Value.int IntKind.u8 0] (n + 10)).toList 5 ?hg (bytesOf l) ?hn ?hpos ?hfit (bytesOf_one l) w.heap.size w ?hb (Nat.le_refl _) ?_)
  case hsz1 => rw [hi]; simp [hz1]
  case hg => simpa using heap_alloc_new w _
  case hn => rw [bytesOf_length, ← HN.out]; exact (Nat.min_self n).symm
  case hpos => exact fun h0 => (HA.out.alloc (Nat.le_refl _) _).cells h0
  case hfit => rw [bytesOf_length, ← HN.out]; simp [size_madeCells]
  case hb => exact (Below.refl _ _).alloc (Nat.le_refl _) _
  intro w' hrow hbel
  clear hmk
  go_wp2
  go_ret
  refine ⟨_, rfl, ⟨by rw [bytesOf_length, ← HN.out]; omega, .inr ⟨w.heap.size, n + 10, _, rfl, Nat.le_refl _, hrow.out, by omega, by unfold maxLen; omega, ?_, ?_⟩⟩, hbel⟩
  · simp [splice, size_madeCells, bytesOf_length, ← HN.out]
  · rw [Nat.mul_one, show n = (bytesOf l).length by rw [bytesOf_length]; exact HN.out]
    simp [splice]
end Go.Proofs.Ytbpnlnonhjnnbaa
