/-
  What a row that lists the cost package's two tables gives a walk; the witness: a world in which both lie as the row lists them.
-/
import Derived.Test.YtknnkmakfcfnjaaDoorCoM
import Derived.Test.YtknnkmakfcfnjaaDoorOpen
import Derived.Test.YtknnkmakfcfnjaaDoorRows
import Derived.Lib.LaidTab
import Derived.LaidMore
import Derived.Stop.Joined
namespace Go.Proofs.YtknnkmakfcfnjaaDoor
open Go.RowKit
open Go.ChangeShapes Go.WideShapes Go.ChangeAt
/-- Both tables lie as the program's text lays them. -/
structure TbC (w : World) : Prop where
  ctl : ∀ k, k < 18 → w.cell? ⟨0, k, none⟩ = some (.int .u64 ((Co.ctl.getD k 0 : Nat) : Int))
  mul : ∀ k, k < 5 → w.cell? ⟨1, k, none⟩ = some (.int .u64 ((Co.mul.getD k 0 : Nat) : Int))
theorem TbC.on {w w' : World} (h : TbC w) (hb : Below w.heap.size w w') : TbC w' := by
  refine ⟨fun k hk => ?_, fun k hk => ?_⟩
  · exact (hb.cell (p := ⟨0, k, none⟩) (cell_lt (h.ctl k hk))).trans (h.ctl k hk)
  · exact (hb.cell (p := ⟨1, k, none⟩) (cell_lt (h.mul k hk))).trans (h.mul k hk)
def tabsC : List (String × DataW Unit) := [("gabelle/cost.control", Rows.laid_gabelle_cost_control), ("gabelle/cost.fromMul", Rows.laid_gabelle_cost_fromMul)]
theorem tabsC_is : tabsC = [("gabelle/cost.control", Lib.tabData .u64 [1, 1, 0, 0, 2, 0, 0, 0, 0, 0, 0, 0, 2, 2, 3, 2, 8, 10]), ("gabelle/cost.fromMul", Lib.tabData .u64 [2, 5, 5, 5, 5])] := by kernel_rfl
theorem laid_tail {P : Program} {w : World} {x : String × DataW Unit} {l : List (String × DataW Unit)} (h : laidMet P (x :: l) w) : laidMet P l w := by
  obtain ⟨ps, ⟨g, t, cs, fuel, p, q, h1, h2, h3, h4, h5, rfl⟩, h6, h7⟩ := h
  exact ⟨q, h5, (List.nodup_append.1 h6).2.1, fun b off hp => h7 b off (List.mem_append_right _ hp)⟩
theorem tbC_of_laid {W : World} (h : laidMetH Tryd.prog tabsC W) : TbC W := by
  rw [MakeChecks.laidMetH_plain _ _ _ (by kernel_rfl), tabsC_is] at h
  have h1 := Lib.tabIs_of_head (P := Tryd.prog) (g := 0) (t := 54) (e := 29) (n := 18) (by kernel_rfl) (by kernel_rfl) (by kernel_rfl) (by kernel_rfl) (by kernel_rfl) (by kernel_rfl) h
  have h2 := Lib.tabIs_of_head (P := Tryd.prog) (g := 1) (t := 56) (e := 29) (n := 5) (by kernel_rfl) (by kernel_rfl) (by kernel_rfl) (by kernel_rfl) (by kernel_rfl) (by kernel_rfl) (laid_tail h)
  refine ⟨fun k hk => ?_, fun k hk => ?_⟩
  · rw [Lib.TabIs.cell h1 (g := 0) (by kernel_rfl) k (by simpa using hk)]
    have : ∀ k : Fin 18, ([1, 1, 0, 0, 2, 0, 0, 0, 0, 0, 0, 0, 2, 2, 3, 2, 8, 10] : List Int).getD k.val 0 = ((Co.ctl.getD k.val 0 : Nat) : Int) := by decide
    rw [this ⟨k, hk⟩]
  · rw [Lib.TabIs.cell h2 (g := 1) (by kernel_rfl) k (by simpa using hk)]
    have : ∀ k : Fin 5, ([2, 5, 5, 5, 5] : List Int).getD k.val 0 = ((Co.mul.getD k.val 0 : Nat) : Int) := by decide
    rw [this ⟨k, hk⟩]
/-- The witness's world. -/
noncomputable def tabWorldC (os : Os) : World :=
  let w0 := World.holding Tryd.prog os ⟨#[], #[], []⟩
  let lay (h : Array Obj) (g : Nat) (cs : Array Value) : Array Obj := h.modify g fun
    | .cells _ t fr => .cells cs t fr
    | o => o
  { w0 with heap := lay (lay w0.heap 0 (Co.ctl.map fun (z : Nat) => Value.int .u64 (z : Int)).toArray) 1 (Co.mul.map fun (z : Nat) => Value.int .u64 (z : Int)).toArray }
theorem tabWorldC_met (os : Os) (args : Array Value) : laidMetH Tryd.prog tabsC ((tabWorldC os).forCall (fun _ _ => 0) ⟨#[], args, []⟩).memory :=
  laidMetH_of_parts3 (fuel := 8) (laidMet_of_run' 8 (by kernel_rfl) (by kernel_rfl)) (by kernel_rfl) (by kernel_rfl)
end Go.Proofs.YtknnkmakfcfnjaaDoor
