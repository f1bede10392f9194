/-
  What Decode of layer 6 must do, as a statement that the walks over layer 6's laws take as given; whole and plain of the laws.
-/
import Derived.Test.YthkglmkpnhhboaaGreatDoorR01
import Derived.Test.YthkglmkpnhhboaaGreatDoorR23
import Derived.Test.YthkglmkpnhhboaaGreatDoorR16
import Derived.Test.YthkglmkpnhhboaaGreatDoorR03
set_option maxRecDepth 100000
set_option maxHeartbeats 4000000
namespace Go.Proofs.YthkglmkpnhhboaaGreatDoor
open Go.RowKit Ins Bin
theorem RepM.more {S S' : Nat → Prop} {w : World} {m : M} {v1 v2 v3 v4 v5 v6 v7 v8 v9 v10 : Value} (h : RepM w S m v1 v2 v3 v4 v5 v6 v7 v8 v9 v10) (hs : ∀ k, k < w.heap.size → S k → S' k) : RepM w S' m v1 v2 v3 v4 v5 v6 v7 v8 v9 v10 :=
 ⟨h.types.more hs, h.imports.more hs, h.funcs.more hs, h.tables.more hs, h.mems.more hs, h.globals.more hs, h.exports.more hs, h.start, h.elems.more hs, h.codes.more hs, h.datas.more hs⟩
def ir (l : List UInt8) (w : World) (e : Ending) (w' : World) : Prop :=
 Below w.heap.size w w' ∧ match dec l with
  | .error k => ∃ v, e = .returned (.tuple #[v, .int .i64 (k : Int)]) ∧ ModV w' (fun b => w.heap.size ≤ b) M.zero v
  | .ok m => ∃ v, e = .returned (.tuple #[v, .int .i64 0]) ∧ ModV w' (fun b => w.heap.size ≤ b) m v
def DecOk : Prop := ∀ (A : Option Addr) (l : List UInt8) (n c : Nat) (w : World), Has w w.heap.size A l → n = l.length → n ≤ 140737488355328 → n ≤ c → c ≤ maxLen → (A = none → c = 0) → Tb w → Calls Tryz.prog 10 #[.slice A n c] w (ir l w)
end Go.Proofs.YthkglmkpnhhboaaGreatDoor
