/-
  How a slice of sections that came in is opened: to sections, each one's bytes opened too; and how long they are at most.
-/
import Derived.Test.YthkglmkpnhhboaaSecSame
import Derived.Test.YthkglmkpnhhboaaOpen
import Derived.Deep.Slices
import Derived.Deep.Fields
import Derived.ChangeSame
import Derived.SizedLaws
namespace Go.Proofs.Ythkglmkpnhhboaa
open Go.RowKit Sec
open Go.ChangeShapes Go.WideShapes Go.ChangeAt Go.Deep
theorem o_bytes5 : Try.prog.bytesOf 5 = 1 := by kernel_rfl
set_option maxRecDepth 100000
private theorem spot_none {w : World} {a : Addr} {v : Value} (h : w.cell? a = some v) : a.spot = none := by
  unfold World.cell? at h
  split at h
  · split at h
    · cases h
    · rename_i hs
      cases ha : a.spot with
      | none => rfl
      | some x => rw [ha] at hs; simp at hs
  · cases h
private theorem add_mk (g o k : Nat) : (⟨g, o, none⟩ : Addr).add k = ⟨g, o + k, none⟩ := by
  unfold Addr.add
  split
  · rename_i h0; subst h0; rfl
  · rfl
section
variable {H : Type} {enc : TypeId × Value → H} {W : World}
/-- Bytes that came in, out of their one cell. -/
theorem open_row {n : Nat} {v : Value} {y : DataW H × List MemPlace} (h : DataW.trod enc Try.prog W 0 (fun _ => true) true n 22 [v] = some y) (hs : ∀ k ∈ y.1.weights Try.prog 22, k ≤ reachBytes) :
    ∃ (A : Option Addr) (c : Nat) (l : List UInt8), v = .slice A l.length c ∧ l.length ≤ c ∧ c ≤ maxLen ∧ l.length ≤ 140737488355328 ∧ (A = none → c = 0) ∧ Has W W.heap.size A l := by
  rcases open_ints und22 und5 cellsU8 h with ⟨hcs, rfl⟩ | ⟨a, len, cap, zs, hcs, _, hl, hm, hz, rfl, hcell, hwz⟩
  · obtain rfl : v = .slice none 0 0 := by simpa using hcs
    exact ⟨none, 0, [], rfl, Nat.le_refl _, by unfold maxLen; omega, by simp, fun _ => rfl, Has.nil _ _ _⟩
  · obtain rfl : v = .slice (some a) len cap := by simpa using hcs
    simp only [if_true] at hz
    have hlen : ((zs.take len).map fun n => UInt8.ofNat n.toNat).length = len := by simp; omega
    have hw := hs ((len + (cap - len)) * 1) (by
      simp only [DataW.weights, und22, o_bytes5, List.mem_cons]
      left
      simp [lits]
      omega)
    have hrb := reachBytes_lt
    refine ⟨some a, cap, (zs.take len).map fun n => UInt8.ofNat n.toNat, by rw [hlen], by omega, hm, by omega, by simp, fun k x hx => ⟨a, rfl, ?_, ?_⟩⟩
    all_goals
      rw [List.getElem?_map, List.getElem?_take] at hx
      split at hx
      case isFalse => simp at hx
      case isTrue hk =>
        have hkz : k < zs.length := by omega
        rw [List.getElem?_eq_getElem hkz] at hx
        simp only [Option.map_some, Option.some.injEq] at hx
        have hc := hcell k hkz
        rw [List.getD_eq_getElem?_getD, List.getElem?_eq_getElem hkz, Option.getD_some] at hc
        first
        | (have hlt := cell_lt hc
           have hb : (a.add k).block = a.block := by unfold Addr.add; split <;> rfl
           rw [hb] at hlt
           exact hlt)
        | (have hr := bounds_u8 (hwz zs[k] (List.getElem_mem hkz))
           rw [hc, ← hx, UInt8.toNat_ofNat']
           congr 2
           omega)
/-- A slice of bytes that came in, with its bounds. -/
theorem open_bytesS {base : Nat} {v : Value} {d : DataW H} {p : List MemPlace} (hval : Value.okWide Try.prog W .any base 22 v) (h : DataW.Trod enc Try.prog W 0 (fun _ => true) true 22 v d p) (hs : ∀ k ∈ d.weights Try.prog 22, k ≤ reachBytes) :
    ∃ (A : Option Addr) (n c : Nat) (l : List UInt8), v = .slice A n c ∧ n = l.length ∧ n ≤ c ∧ c ≤ maxLen ∧ n ≤ 140737488355328 ∧ (A = none → c = 0) ∧ Has W W.heap.size A l := by
  obtain ⟨a1, len, cap, rfl⟩ := okWide_slice und22 hval
  obtain ⟨fuel, hf⟩ := h
  have hf' : DataW.trod enc Try.prog W 0 (fun _ => true) true fuel 22 [.slice a1 len cap] = some (d, p) := by simpa [Value.cells] using hf
  obtain ⟨A, c, l, he, h1, h2, h3, h4, h5⟩ := open_row hf' hs
  exact ⟨A, l.length, c, l, he, rfl, h1, h2, h3, h4, h5⟩
end
end Go.Proofs.Ythkglmkpnhhboaa
