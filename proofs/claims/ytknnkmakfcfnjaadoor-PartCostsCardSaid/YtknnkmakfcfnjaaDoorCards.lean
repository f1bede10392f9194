/-
  DERIVED. GIVEN WITH THE SEED: THE CARDS: each row of YtknnkmakfcfnjaaDoorRows.lean that lists a variable, with what it lists TIED to the program's text (the seventh form; the later family's looks); each row that meets fmt, with fmt's text TOLD by the authors' own Lean function (tested against real Go, not proved from fmt's source: count such statements apart). THE CARD IS WHAT COUNTS. Prove the row's statement (the work); the ties are given (YtknnkmakfcfnjaaDoorTie.lean); close each card by the builder's one call (the guide's Derived/Test/ToyasCard.lean, 'card_holds'). Laid BY PROGRAM, IN A SANDBOX (cutbox-door.mjs). By AI agents, Wed Nov 11 2026. No macro, syntax, notation, axiom, sorry.
-/
import Derived.Test.YtknnkmakfcfnjaaDoorRows
import GoSem.ClaimSeven
namespace Go.Proofs.YtknnkmakfcfnjaaDoor
namespace Rows

/-- THE TIED CARD OF 'gabellelaw14.PartTells'. -/
def partTellsCard : Claim7 := { stood := { row := partTellsRow, standIns := [], harness := (true, "0aa1fc00020c9afad185027dd3198176d92186780f3df180bae1c4a2b1e58365"), looks := false }, kinds := [], alts := [], laidByText := true, laidKinds := [.data, .data], laidTests := true, laidLooks := .later }
def PartTellsCardSaid : Prop := Claim7.holds Tryd.pinned (.plain (OpenSpec.ofChange partTellsSpec)) partTellsCard

/-- THE TIED CARD OF 'gabellelaw14.PartCosts'. -/
def partCostsCard : Claim7 := { stood := { row := partCostsRow, standIns := [], harness := (true, "0aa1fc00020c9afad185027dd3198176d92186780f3df180bae1c4a2b1e58365"), looks := false }, kinds := [], alts := [], laidByText := true, laidKinds := [.data, .data], laidTests := true, laidLooks := .later }
def PartCostsCardSaid : Prop := Claim7.holds Tryd.pinned (.plain (OpenSpec.ofChange partCostsSpec)) partCostsCard

/-- THE TIED CARD OF 'gabellelaw14.PartRounds'. -/
def partRoundsCard : Claim7 := { stood := { row := partRoundsRow, standIns := [], harness := (true, "0aa1fc00020c9afad185027dd3198176d92186780f3df180bae1c4a2b1e58365"), looks := false }, kinds := [], alts := [], laidByText := true, laidKinds := [.data, .data], laidTests := true, laidLooks := .later }
def PartRoundsCardSaid : Prop := Claim7.holds Tryd.pinned (.plain (OpenSpec.ofChange partRoundsSpec)) partRoundsCard

/-- THE SECOND FORM's CARD OF 'gabellelaw14.PartTells'. -/
def partTellsUptoCard : Claim7 := { stood := { row := partTellsUptoRow, standIns := [], harness := (true, "0aa1fc00020c9afad185027dd3198176d92186780f3df180bae1c4a2b1e58365"), looks := false }, kinds := [], alts := [], laidByText := true, laidKinds := [.data, .data], laidTests := true, laidLooks := .later }
def PartTellsUptoCardSaid : Prop := Claim7.holds Tryd.pinned (.plain (OpenSpec.upto partTellsSpec)) partTellsUptoCard

/-- THE SECOND FORM's CARD OF 'gabellelaw14.PartCosts'. -/
def partCostsUptoCard : Claim7 := { stood := { row := partCostsUptoRow, standIns := [], harness := (true, "0aa1fc00020c9afad185027dd3198176d92186780f3df180bae1c4a2b1e58365"), looks := false }, kinds := [], alts := [], laidByText := true, laidKinds := [.data, .data], laidTests := true, laidLooks := .later }
def PartCostsUptoCardSaid : Prop := Claim7.holds Tryd.pinned (.plain (OpenSpec.upto partCostsSpec)) partCostsUptoCard

/-- THE SECOND FORM's CARD OF 'gabellelaw14.PartRounds'. -/
def partRoundsUptoCard : Claim7 := { stood := { row := partRoundsUptoRow, standIns := [], harness := (true, "0aa1fc00020c9afad185027dd3198176d92186780f3df180bae1c4a2b1e58365"), looks := false }, kinds := [], alts := [], laidByText := true, laidKinds := [.data, .data], laidTests := true, laidLooks := .later }
def PartRoundsUptoCardSaid : Prop := Claim7.holds Tryd.pinned (.plain (OpenSpec.upto partRoundsSpec)) partRoundsUptoCard
end Rows
end Go.Proofs.YtknnkmakfcfnjaaDoor
