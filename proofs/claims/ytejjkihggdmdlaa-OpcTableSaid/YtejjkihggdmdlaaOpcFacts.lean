/-
  Layer 3's facts for all 256 opcodes, by reckoning.
-/
import Derived.Test.YtejjkihggdmdlaaOpcFind
namespace Opc
def all (f : Nat → Bool) : Bool := (List.range 256).all f
theorem all_at {f : Nat → Bool} (h : all f = true) {n : Nat} (hn : n < 256) : f n = true := List.all_eq_true.1 h n (List.mem_range.2 hn)
theorem fact1 : all (fun n => !(known n && float n) && (known n == !(row n).name.isEmpty)) = true := by decide +kernel
theorem fact2 : all (fun n => !known n || (find (row n).name == some n)) = true := by decide +kernel
theorem fact3 : all (fun n => (sigP n ++ sigR n).all (fun t => t == 126 || t == 127) && decide ((sigP n).length ≤ 2) && decide ((sigR n).length ≤ 1) && (plain n || ((sigP n).length == 0 && (sigR n).length == 0)) && (!plain n || known n)) = true := by decide +kernel
theorem fact4 : all (fun n => ((form n == 6) == decide (0 < width n)) && (!plain n || (((sigR n).length == 0) == (form n == 6 && (sigP n).length == 2)))) = true := by decide +kernel
end Opc
