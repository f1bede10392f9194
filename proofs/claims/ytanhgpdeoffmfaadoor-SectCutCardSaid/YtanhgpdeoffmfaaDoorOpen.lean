/-
  How a slice of bytes that came in is opened; closed facts on the program's types.
-/
import Derived.Test.YtanhgpdeoffmfaaDoorLift
import Derived.Test.YtanhgpdeoffmfaaDoorBytes
import Derived.JoinedTies
namespace Go.Proofs.YtanhgpdeoffmfaaDoor
open Go.RowKit
open Go.ChangeShapes Go.WideShapes Go.ChangeAt
theorem cellsU8 : Tryd.prog.cellsOf 5 = 1 := by kernel_rfl
theorem own : ownKnob Tryd.prog.godebug = none := by kernel_rfl
theorem laid : laidOutB Tryd.prog = true := by kernel_rfl
theorem und4 : Tryd.prog.underlying 4 = some .bool := by kernel_rfl
theorem und3 : Tryd.prog.underlying 3 = some (.int .i64) := by kernel_rfl
theorem cell_lt {w : World} {p : Addr} {v : Value} (h : w.cell? p = some v) : p.block < w.heap.size := by
  rcases Nat.lt_or_ge p.block w.heap.size with h1 | h1
  · exact h1
  · exfalso
    unfold World.cell? at h
    rw [Array.getElem?_eq_none h1] at h
    split at h <;> simp_all
set_option maxRecDepth 100000 in
/-- What a slice of bytes that came in gives. -/
theorem open_bytes {H : Type} {enc : TypeId × Value → H} {W : World} {base : Nat} {v : Value} {d : DataW H} {p : List MemPlace} (hval : Value.okWide Tryd.prog W .any base 22 v) (h : DataW.Trod enc Tryd.prog W 0 (fun _ => true) true 22 v d p) :
    ∃ (A : Option Addr) (n c : Nat) (l : List UInt8), v = .slice A n c ∧ n = l.length ∧ n ≤ c ∧ c ≤ maxLen ∧ Has W W.heap.size A l := by
  obtain ⟨a1, len, cap, rfl⟩ := okWide_slice und22 hval
  obtain ⟨fuel, hf⟩ := h
  rcases open_ints und22 und5 cellsU8 hf with ⟨hcs, hx⟩ | ⟨a, len', cap', zs, hcs, _, hl, hm, hz, hx, hcell, hwz⟩
  · simp [Value.cells] at hcs
    obtain ⟨rfl, rfl, rfl⟩ := hcs
    exact ⟨none, 0, 0, [], rfl, rfl, Nat.le_refl _, by unfold maxLen; omega, Has.nil _ _ _⟩
  · simp [Value.cells] at hcs
    obtain ⟨rfl, rfl, rfl⟩ := hcs
    simp only [if_true] at hz
    refine ⟨some a, len, cap, (zs.take len).map fun n => UInt8.ofNat n.toNat, rfl, by simp; omega, hl, hm, fun k x hx => ⟨a, rfl, ?_, ?_⟩⟩
    all_goals
      rw [List.getElem?_map, List.getElem?_take] at hx
      split at hx
      case isFalse => simp at hx
      case isTrue hk =>
        have hkz : k < zs.length := by omega
        rw [List.getElem?_eq_getElem hkz] at hx
        simp only [Option.map_some, Option.some.injEq] at hx
        have hc := hcell k hkz
        rw [List.getD_eq_getElem?_getD, List.getElem?_eq_getElem hkz, Option.getD_some] at hc
        first
        | (have hlt := cell_lt hc
           have hb : (a.add k).block = a.block := by unfold Addr.add; split <;> rfl
           rw [hb] at hlt
           exact hlt)
        | (have hr := bounds_u8 (hwz zs[k] (List.getElem_mem hkz))
           rw [hc, ← hx, UInt8.toNat_ofNat']
           congr 2
           omega)
end Go.Proofs.YtanhgpdeoffmfaaDoor
