/-
  NARROWER THAN 'FOR EVERY INPUT', by the rows' own cells (each row's printed sentence says how): CostTells: laid · CostRound: laid.
  DERIVED. THE GIVEN ROWS OF THIS SEAT. 2 by the template 'for every input the law returns true; each argument reads behind the call as it read before'; 0 by the template 'total and deterministic' (their statements: YtkclnilaldhhnaaDoorTotals.lean).
  GIVEN WITH THE SEED: the statements are not yours to turn. If you find one false, say at which input.
  Laid BY PROGRAM, IN A SANDBOX (cutbox-rows.mjs): the forced cells as the released guide's own fill.sh prints them over the translation 911b9aa6833cda20… (all of the seat's roots in one cut). By AI agents, Wed Nov 11 2026. No macro, syntax, notation, axiom, sorry.
-/
import Derived.Test.YtkclnilaldhhnaaDoorChecked
import GoSem.Claim
import GoSem.ClaimJoined
import GoSem.ClaimMapViews
import Derived.JoinedTies
import Derived.KernelRfl
namespace Go.Proofs.YtkclnilaldhhnaaDoor
/- THE CELL 'sum', in the pinned program and in every row, IS THE sha256 OF THE DUMP (.gsa) THAT YtkclnilaldhhnaaDoorProg.lean LOADS. Nothing in Lean hashes anything: it is a label: what it is worth is what the hold of that sum in a sandbox is worth. -/
noncomputable def Tryd.pinned : Pinned := { name := "ytkclnilaldhhnaadoor", sum := "911b9aa6833cda209d0fc2417e4ac656c8d58fec605a2505cca8f1596d726671", checked := Tryd.checked }
namespace Rows
def none {H : Type} : Left H := { results := [], args := [] }

/- WHAT THE LISTED PACKAGE-LEVEL VARIABLES READ AS WHEN THE CALL BEGINS. Each datum BY PROGRAM (the guide's laid-datum.mjs) off the statement by which the dump's own 'gosem.cut.vars' lays the variable. In a bare row this is a premise. The card (YtkclnilaldhhnaaDoorCards.lean) ties it to the program's text. -/
def laid_gabelle_cost_control {H : Type} : DataW H := .agg [.lit (.int .u64 1), .lit (.int .u64 1), .lit (.int .u64 0), .lit (.int .u64 0), .lit (.int .u64 2), .lit (.int .u64 0), .lit (.int .u64 0), .lit (.int .u64 0), .lit (.int .u64 0), .lit (.int .u64 0), .lit (.int .u64 0), .lit (.int .u64 0), .lit (.int .u64 2), .lit (.int .u64 2), .lit (.int .u64 3), .lit (.int .u64 2), .lit (.int .u64 8), .lit (.int .u64 10)]
def laid_gabelle_cost_fromMul {H : Type} : DataW H := .agg [.lit (.int .u64 2), .lit (.int .u64 5), .lit (.int .u64 5), .lit (.int .u64 5), .lit (.int .u64 5)]

/-- 'gabellelaw13.CostTells': WHATEVER THE INPUT: true; the input reads as it did. -/
def costTellsSpec : ChangeSpec := { name := "costTells", fn := fun _ => fun
  | [d1, d2] => { results := [.lit (.bool true)], args := [d1, d2] }
  | _ => none }
def costTellsRow : OpenClaim := { program := "ytkclnilaldhhnaadoor", sum := "911b9aa6833cda209d0fc2417e4ac656c8d58fec605a2505cca8f1596d726671", func := "gabelle/gabellelaw13.CostTells", spec := "costTells", named := ["gabelle/cost.control", "gabelle/cost.fromMul"], apart := false, laid := [("gabelle/cost.control", laid_gabelle_cost_control), ("gabelle/cost.fromMul", laid_gabelle_cost_fromMul)] }
def CostTellsSaid : Prop := costTellsRow.holds Tryd.pinned (OpenSpec.ofChange costTellsSpec)

/-- ITS FALSE NEIGHBOUR: 'it returns false'. Refute it at one input. -/
def costTellsWrong : ChangeSpec := { name := "costTells", fn := fun _ => fun
  | [d1, d2] => { results := [.lit (.bool false)], args := [d1, d2] }
  | _ => none }
def CostTellsWrongFalsely : Prop := costTellsRow.holds Tryd.pinned (OpenSpec.ofChange costTellsWrong)

/-- 'gabellelaw13.CostRound': WHATEVER THE INPUT: true; the input reads as it did. -/
def costRoundSpec : ChangeSpec := { name := "costRound", fn := fun _ => fun
  | [d1, d2, d3, d4, d5] => { results := [.lit (.bool true)], args := [d1, d2, d3, d4, d5] }
  | _ => none }
def costRoundRow : OpenClaim := { program := "ytkclnilaldhhnaadoor", sum := "911b9aa6833cda209d0fc2417e4ac656c8d58fec605a2505cca8f1596d726671", func := "gabelle/gabellelaw13.CostRound", spec := "costRound", named := ["gabelle/cost.control", "gabelle/cost.fromMul"], apart := false, laid := [("gabelle/cost.control", laid_gabelle_cost_control), ("gabelle/cost.fromMul", laid_gabelle_cost_fromMul)] }
def CostRoundSaid : Prop := costRoundRow.holds Tryd.pinned (OpenSpec.ofChange costRoundSpec)

/-- ITS FALSE NEIGHBOUR: 'it returns false'. Refute it at one input. -/
def costRoundWrong : ChangeSpec := { name := "costRound", fn := fun _ => fun
  | [d1, d2, d3, d4, d5] => { results := [.lit (.bool false)], args := [d1, d2, d3, d4, d5] }
  | _ => none }
def CostRoundWrongFalsely : Prop := costRoundRow.holds Tryd.pinned (OpenSpec.ofChange costRoundWrong)

/- THE SECOND FORM. 'bulk': how many values and letters a reading holds, each counted each time it is reached (what is shared counts as often as it is met; a slice's spare places count too). A statement '..UptoSaid' is the law's where the arguments, and the package variables that the reading takes, are together of bulk at most 1048576: NARROWER than '..Said'. Prove '..Said' where nothing that the law and all that it calls make is longer than what came in: it says more and counts as full. Else prove '..UptoSaid'. A law counts once. -/
mutual
def uptoBulk {H : Type} : DataW H → Nat
  | .lit (.string bytes) => bytes.length + 1
  | .lit _ => 1
  | .nil => 1
  | .ptr d => uptoBulk d + 1
  | .slice elems spare => uptoBulkAll elems + uptoBulkAll spare + 1
  | .agg parts => uptoBulkAll parts + 1
  | .iface _ d => uptoBulk d + 1
  | .map entries => uptoBulkEntries entries + 1
  | .held _ => 1
def uptoBulkAll {H : Type} : List (DataW H) → Nat
  | [] => 0
  | d :: r => uptoBulk d + uptoBulkAll r
def uptoBulkEntries {H : Type} : List (Lit × DataW H) → Nat
  | [] => 0
  | x :: r => uptoBulkEntry x + uptoBulkEntries r
def uptoBulkEntry {H : Type} : Lit × DataW H → Nat
  | (.string bytes, d) => bytes.length + uptoBulk d + 1
  | (_, d) => uptoBulk d + 1
 end
def uptoSmall : (H : Type) → List (DataW H) → Bool := fun _ ds => decide (uptoBulkAll ds ≤ 1048576)
def OpenSpec.upto (s : _root_.Go.ChangeSpec) : _root_.Go.OpenSpec := { _root_.Go.OpenSpec.ofChange s with cond := some uptoSmall }

/-- 'gabellelaw13.CostTells', WHERE WHAT IT READS IS OF BULK AT MOST 1048576: true; the input reads as it did. -/
def costTellsUptoRow : OpenClaim := { program := "ytkclnilaldhhnaadoor", sum := "911b9aa6833cda209d0fc2417e4ac656c8d58fec605a2505cca8f1596d726671", func := "gabelle/gabellelaw13.CostTells", spec := "costTells", named := ["gabelle/cost.control", "gabelle/cost.fromMul"], apart := false, laid := [("gabelle/cost.control", laid_gabelle_cost_control), ("gabelle/cost.fromMul", laid_gabelle_cost_fromMul)], narrowed := true }
def CostTellsUptoSaid : Prop := costTellsUptoRow.holds Tryd.pinned (OpenSpec.upto costTellsSpec)

/-- 'gabellelaw13.CostRound', WHERE WHAT IT READS IS OF BULK AT MOST 1048576: true; the input reads as it did. -/
def costRoundUptoRow : OpenClaim := { program := "ytkclnilaldhhnaadoor", sum := "911b9aa6833cda209d0fc2417e4ac656c8d58fec605a2505cca8f1596d726671", func := "gabelle/gabellelaw13.CostRound", spec := "costRound", named := ["gabelle/cost.control", "gabelle/cost.fromMul"], apart := false, laid := [("gabelle/cost.control", laid_gabelle_cost_control), ("gabelle/cost.fromMul", laid_gabelle_cost_fromMul)], narrowed := true }
def CostRoundUptoSaid : Prop := costRoundUptoRow.holds Tryd.pinned (OpenSpec.upto costRoundSpec)

end Rows
end Go.Proofs.YtkclnilaldhhnaaDoor
