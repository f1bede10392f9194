/-
  NARROWER THAN 'FOR EVERY INPUT', by the rows' own cells (each row's printed sentence says how): PartTells: laid · PartCosts: laid · PartRounds: laid.
  DERIVED. THE GIVEN ROWS OF THIS SEAT. 3 by the template 'for every input the law returns true; each argument reads behind the call as it read before'; 0 by the template 'total and deterministic' (their statements: YtknnkmakfcfnjaaDoorTotals.lean).
  GIVEN WITH THE SEED: the statements are not yours to turn. If you find one false, say at which input.
  Laid BY PROGRAM, IN A SANDBOX (cutbox-rows.mjs): the forced cells as the released guide's own fill.sh prints them over the translation 1eddb68b93b21818… (all of the seat's roots in one cut). By AI agents, Wed Nov 11 2026. No macro, syntax, notation, axiom, sorry.
-/
import Derived.Test.YtknnkmakfcfnjaaDoorChecked
import GoSem.Claim
import GoSem.ClaimJoined
import GoSem.ClaimMapViews
import Derived.JoinedTies
import Derived.KernelRfl
namespace Go.Proofs.YtknnkmakfcfnjaaDoor
/- THE CELL 'sum', in the pinned program and in every row, IS THE sha256 OF THE DUMP (.gsa) THAT YtknnkmakfcfnjaaDoorProg.lean LOADS. Nothing in Lean hashes anything: it is a label: what it is worth is what the hold of that sum in a sandbox is worth. -/
noncomputable def Tryd.pinned : Pinned := { name := "ytknnkmakfcfnjaadoor", sum := "1eddb68b93b21818aafb44c03bf761ffd5acfca419cc2902674f71e0be9fb609", checked := Tryd.checked }
namespace Rows
def none {H : Type} : Left H := { results := [], args := [] }

/- WHAT THE LISTED PACKAGE-LEVEL VARIABLES READ AS WHEN THE CALL BEGINS. Each datum BY PROGRAM (the guide's laid-datum.mjs) off the statement by which the dump's own 'gosem.cut.vars' lays the variable. In a bare row this is a premise. The card (YtknnkmakfcfnjaaDoorCards.lean) ties it to the program's text. -/
def laid_gabelle_cost_control {H : Type} : DataW H := .agg [.lit (.int .u64 1), .lit (.int .u64 1), .lit (.int .u64 0), .lit (.int .u64 0), .lit (.int .u64 2), .lit (.int .u64 0), .lit (.int .u64 0), .lit (.int .u64 0), .lit (.int .u64 0), .lit (.int .u64 0), .lit (.int .u64 0), .lit (.int .u64 0), .lit (.int .u64 2), .lit (.int .u64 2), .lit (.int .u64 3), .lit (.int .u64 2), .lit (.int .u64 8), .lit (.int .u64 10)]
def laid_gabelle_cost_fromMul {H : Type} : DataW H := .agg [.lit (.int .u64 2), .lit (.int .u64 5), .lit (.int .u64 5), .lit (.int .u64 5), .lit (.int .u64 5)]

/-- 'gabellelaw14.PartTells': WHATEVER THE INPUT: true; the input reads as it did. -/
def partTellsSpec : ChangeSpec := { name := "partTells", fn := fun _ => fun
  | [d1, d2, d3] => { results := [.lit (.bool true)], args := [d1, d2, d3] }
  | _ => none }
def partTellsRow : OpenClaim := { program := "ytknnkmakfcfnjaadoor", sum := "1eddb68b93b21818aafb44c03bf761ffd5acfca419cc2902674f71e0be9fb609", func := "gabelle/gabellelaw14.PartTells", spec := "partTells", unfollowed := true, recurses := true, named := ["gabelle/cost.control", "gabelle/cost.fromMul"], apart := false, laid := [("gabelle/cost.control", laid_gabelle_cost_control), ("gabelle/cost.fromMul", laid_gabelle_cost_fromMul)] }
def PartTellsSaid : Prop := partTellsRow.holds Tryd.pinned (OpenSpec.ofChange partTellsSpec)

/-- ITS FALSE NEIGHBOUR: 'it returns false'. Refute it at one input. -/
def partTellsWrong : ChangeSpec := { name := "partTells", fn := fun _ => fun
  | [d1, d2, d3] => { results := [.lit (.bool false)], args := [d1, d2, d3] }
  | _ => none }
def PartTellsWrongFalsely : Prop := partTellsRow.holds Tryd.pinned (OpenSpec.ofChange partTellsWrong)

/-- 'gabellelaw14.PartCosts': WHATEVER THE INPUT: true; the input reads as it did. -/
def partCostsSpec : ChangeSpec := { name := "partCosts", fn := fun _ => fun
  | [d] => { results := [.lit (.bool true)], args := [d] }
  | _ => none }
def partCostsRow : OpenClaim := { program := "ytknnkmakfcfnjaadoor", sum := "1eddb68b93b21818aafb44c03bf761ffd5acfca419cc2902674f71e0be9fb609", func := "gabelle/gabellelaw14.PartCosts", spec := "partCosts", unfollowed := true, recurses := true, named := ["gabelle/cost.control", "gabelle/cost.fromMul"], apart := false, laid := [("gabelle/cost.control", laid_gabelle_cost_control), ("gabelle/cost.fromMul", laid_gabelle_cost_fromMul)] }
def PartCostsSaid : Prop := partCostsRow.holds Tryd.pinned (OpenSpec.ofChange partCostsSpec)

/-- ITS FALSE NEIGHBOUR: 'it returns false'. Refute it at one input. -/
def partCostsWrong : ChangeSpec := { name := "partCosts", fn := fun _ => fun
  | [d] => { results := [.lit (.bool false)], args := [d] }
  | _ => none }
def PartCostsWrongFalsely : Prop := partCostsRow.holds Tryd.pinned (OpenSpec.ofChange partCostsWrong)

/-- 'gabellelaw14.PartRounds': WHATEVER THE INPUT: true; the input reads as it did. -/
def partRoundsSpec : ChangeSpec := { name := "partRounds", fn := fun _ => fun
  | [d] => { results := [.lit (.bool true)], args := [d] }
  | _ => none }
def partRoundsRow : OpenClaim := { program := "ytknnkmakfcfnjaadoor", sum := "1eddb68b93b21818aafb44c03bf761ffd5acfca419cc2902674f71e0be9fb609", func := "gabelle/gabellelaw14.PartRounds", spec := "partRounds", unfollowed := true, recurses := true, named := ["gabelle/cost.control", "gabelle/cost.fromMul"], apart := false, laid := [("gabelle/cost.control", laid_gabelle_cost_control), ("gabelle/cost.fromMul", laid_gabelle_cost_fromMul)] }
def PartRoundsSaid : Prop := partRoundsRow.holds Tryd.pinned (OpenSpec.ofChange partRoundsSpec)

/-- ITS FALSE NEIGHBOUR: 'it returns false'. Refute it at one input. -/
def partRoundsWrong : ChangeSpec := { name := "partRounds", fn := fun _ => fun
  | [d] => { results := [.lit (.bool false)], args := [d] }
  | _ => none }
def PartRoundsWrongFalsely : Prop := partRoundsRow.holds Tryd.pinned (OpenSpec.ofChange partRoundsWrong)

/- THE SECOND FORM. 'bulk': how many values and letters a reading holds, each counted each time it is reached (what is shared counts as often as it is met; a slice's spare places count too). A statement '..UptoSaid' is the law's where the arguments, and the package variables that the reading takes, are together of bulk at most 1048576: NARROWER than '..Said'. Prove '..Said' where nothing that the law and all that it calls make is longer than what came in: it says more and counts as full. Else prove '..UptoSaid'. A law counts once. -/
mutual
def uptoBulk {H : Type} : DataW H → Nat
  | .lit (.string bytes) => bytes.length + 1
  | .lit _ => 1
  | .nil => 1
  | .ptr d => uptoBulk d + 1
  | .slice elems spare => uptoBulkAll elems + uptoBulkAll spare + 1
  | .agg parts => uptoBulkAll parts + 1
  | .iface _ d => uptoBulk d + 1
  | .map entries => uptoBulkEntries entries + 1
  | .held _ => 1
def uptoBulkAll {H : Type} : List (DataW H) → Nat
  | [] => 0
  | d :: r => uptoBulk d + uptoBulkAll r
def uptoBulkEntries {H : Type} : List (Lit × DataW H) → Nat
  | [] => 0
  | x :: r => uptoBulkEntry x + uptoBulkEntries r
def uptoBulkEntry {H : Type} : Lit × DataW H → Nat
  | (.string bytes, d) => bytes.length + uptoBulk d + 1
  | (_, d) => uptoBulk d + 1
 end
def uptoSmall : (H : Type) → List (DataW H) → Bool := fun _ ds => decide (uptoBulkAll ds ≤ 1048576)
def OpenSpec.upto (s : _root_.Go.ChangeSpec) : _root_.Go.OpenSpec := { _root_.Go.OpenSpec.ofChange s with cond := some uptoSmall }

/-- 'gabellelaw14.PartTells', WHERE WHAT IT READS IS OF BULK AT MOST 1048576: true; the input reads as it did. -/
def partTellsUptoRow : OpenClaim := { program := "ytknnkmakfcfnjaadoor", sum := "1eddb68b93b21818aafb44c03bf761ffd5acfca419cc2902674f71e0be9fb609", func := "gabelle/gabellelaw14.PartTells", spec := "partTells", unfollowed := true, recurses := true, named := ["gabelle/cost.control", "gabelle/cost.fromMul"], apart := false, laid := [("gabelle/cost.control", laid_gabelle_cost_control), ("gabelle/cost.fromMul", laid_gabelle_cost_fromMul)], narrowed := true }
def PartTellsUptoSaid : Prop := partTellsUptoRow.holds Tryd.pinned (OpenSpec.upto partTellsSpec)

/-- 'gabellelaw14.PartCosts', WHERE WHAT IT READS IS OF BULK AT MOST 1048576: true; the input reads as it did. -/
def partCostsUptoRow : OpenClaim := { program := "ytknnkmakfcfnjaadoor", sum := "1eddb68b93b21818aafb44c03bf761ffd5acfca419cc2902674f71e0be9fb609", func := "gabelle/gabellelaw14.PartCosts", spec := "partCosts", unfollowed := true, recurses := true, named := ["gabelle/cost.control", "gabelle/cost.fromMul"], apart := false, laid := [("gabelle/cost.control", laid_gabelle_cost_control), ("gabelle/cost.fromMul", laid_gabelle_cost_fromMul)], narrowed := true }
def PartCostsUptoSaid : Prop := partCostsUptoRow.holds Tryd.pinned (OpenSpec.upto partCostsSpec)

/-- 'gabellelaw14.PartRounds', WHERE WHAT IT READS IS OF BULK AT MOST 1048576: true; the input reads as it did. -/
def partRoundsUptoRow : OpenClaim := { program := "ytknnkmakfcfnjaadoor", sum := "1eddb68b93b21818aafb44c03bf761ffd5acfca419cc2902674f71e0be9fb609", func := "gabelle/gabellelaw14.PartRounds", spec := "partRounds", unfollowed := true, recurses := true, named := ["gabelle/cost.control", "gabelle/cost.fromMul"], apart := false, laid := [("gabelle/cost.control", laid_gabelle_cost_control), ("gabelle/cost.fromMul", laid_gabelle_cost_fromMul)], narrowed := true }
def PartRoundsUptoSaid : Prop := partRoundsUptoRow.holds Tryd.pinned (OpenSpec.upto partRoundsSpec)

end Rows
end Go.Proofs.YtknnkmakfcfnjaaDoor
