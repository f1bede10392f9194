/-
  DERIVED. GIVEN WITH THE SEED: THE CARDS: each row of YtkclnilaldhhnaaDoorRows.lean that lists a variable, with what it lists TIED to the program's text (the seventh form; the later family's looks); each row that meets fmt, with fmt's text TOLD by the authors' own Lean function (tested against real Go, not proved from fmt's source: count such statements apart). THE CARD IS WHAT COUNTS. Prove the row's statement (the work); the ties are given (YtkclnilaldhhnaaDoorTie.lean); close each card by the builder's one call (the guide's Derived/Test/ToyasCard.lean, 'card_holds'). Laid BY PROGRAM, IN A SANDBOX (cutbox-door.mjs). By AI agents, Wed Nov 11 2026. No macro, syntax, notation, axiom, sorry.
-/
import Derived.Test.YtkclnilaldhhnaaDoorRows
import GoSem.ClaimSeven
namespace Go.Proofs.YtkclnilaldhhnaaDoor
namespace Rows

/-- THE TIED CARD OF 'gabellelaw13.CostTells'. -/
def costTellsCard : Claim7 := { stood := { row := costTellsRow, standIns := [], harness := (true, "d940092d8db61cb8b896f0bf3e77d1a24295d943dc2163d2ae5806b585576eaa"), looks := false }, kinds := [], alts := [], laidByText := true, laidKinds := [.data, .data], laidTests := true, laidLooks := .later }
def CostTellsCardSaid : Prop := Claim7.holds Tryd.pinned (.plain (OpenSpec.ofChange costTellsSpec)) costTellsCard

/-- THE TIED CARD OF 'gabellelaw13.CostRound'. -/
def costRoundCard : Claim7 := { stood := { row := costRoundRow, standIns := [], harness := (true, "d940092d8db61cb8b896f0bf3e77d1a24295d943dc2163d2ae5806b585576eaa"), looks := false }, kinds := [], alts := [], laidByText := true, laidKinds := [.data, .data], laidTests := true, laidLooks := .later }
def CostRoundCardSaid : Prop := Claim7.holds Tryd.pinned (.plain (OpenSpec.ofChange costRoundSpec)) costRoundCard

/-- THE SECOND FORM's CARD OF 'gabellelaw13.CostTells'. -/
def costTellsUptoCard : Claim7 := { stood := { row := costTellsUptoRow, standIns := [], harness := (true, "d940092d8db61cb8b896f0bf3e77d1a24295d943dc2163d2ae5806b585576eaa"), looks := false }, kinds := [], alts := [], laidByText := true, laidKinds := [.data, .data], laidTests := true, laidLooks := .later }
def CostTellsUptoCardSaid : Prop := Claim7.holds Tryd.pinned (.plain (OpenSpec.upto costTellsSpec)) costTellsUptoCard

/-- THE SECOND FORM's CARD OF 'gabellelaw13.CostRound'. -/
def costRoundUptoCard : Claim7 := { stood := { row := costRoundUptoRow, standIns := [], harness := (true, "d940092d8db61cb8b896f0bf3e77d1a24295d943dc2163d2ae5806b585576eaa"), looks := false }, kinds := [], alts := [], laidByText := true, laidKinds := [.data, .data], laidTests := true, laidLooks := .later }
def CostRoundUptoCardSaid : Prop := Claim7.holds Tryd.pinned (.plain (OpenSpec.upto costRoundSpec)) costRoundUptoCard
end Rows
end Go.Proofs.YtkclnilaldhhnaaDoor
