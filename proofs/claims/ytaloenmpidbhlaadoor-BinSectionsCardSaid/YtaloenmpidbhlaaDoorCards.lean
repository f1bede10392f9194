/-
  DERIVED. GIVEN WITH THE SEED: THE CARDS: each row of YtaloenmpidbhlaaDoorRows.lean that lists a variable, with what it lists TIED to the program's text (the seventh form; the later family's looks); each row that meets fmt, with fmt's text TOLD by the authors' own Lean function (tested against real Go, not proved from fmt's source: count such statements apart). THE CARD IS WHAT COUNTS. Prove the row's statement (the work); the ties are given (YtaloenmpidbhlaaDoorTie.lean); close each card by the builder's one call (the guide's Derived/Test/ToyasCard.lean, 'card_holds'). Laid BY PROGRAM, IN A SANDBOX (cutbox-door.mjs). By AI agents, Wed Nov 11 2026. No macro, syntax, notation, axiom, sorry.
-/
import Derived.Test.YtaloenmpidbhlaaDoorRows
import GoSem.ClaimSeven
namespace Go.Proofs.YtaloenmpidbhlaaDoor
namespace Rows

/-- THE TIED CARD OF 'gabellelaw06.BinWhole'. -/
def binWholeCard : Claim7 := { stood := { row := binWholeRow, standIns := [], harness := (true, "4b9cbe7da0362bfccbad70af28a906ad745e57de94831176a7339380daee9a2d"), looks := true }, kinds := [], alts := [], laidByText := true, laidKinds := [.data, .pinned], laidTests := true, laidLooks := .later }
def BinWholeCardSaid : Prop := Claim7.holds Tryd.pinned (.plain (OpenSpec.ofChange binWholeSpec)) binWholeCard

/-- THE TIED CARD OF 'gabellelaw06.BinSections'. -/
def binSectionsCard : Claim7 := { stood := { row := binSectionsRow, standIns := [], harness := (true, "4b9cbe7da0362bfccbad70af28a906ad745e57de94831176a7339380daee9a2d"), looks := true }, kinds := [], alts := [], laidByText := true, laidKinds := [.data, .pinned], laidTests := true, laidLooks := .later }
def BinSectionsCardSaid : Prop := Claim7.holds Tryd.pinned (.plain (OpenSpec.ofChange binSectionsSpec)) binSectionsCard

/-- THE SECOND FORM's CARD OF 'gabellelaw06.BinWhole'. -/
def binWholeUptoCard : Claim7 := { stood := { row := binWholeUptoRow, standIns := [], harness := (true, "4b9cbe7da0362bfccbad70af28a906ad745e57de94831176a7339380daee9a2d"), looks := true }, kinds := [], alts := [], laidByText := true, laidKinds := [.data, .pinned], laidTests := true, laidLooks := .later }
def BinWholeUptoCardSaid : Prop := Claim7.holds Tryd.pinned (.plain (OpenSpec.upto binWholeSpec)) binWholeUptoCard

/-- THE SECOND FORM's CARD OF 'gabellelaw06.BinSections'. -/
def binSectionsUptoCard : Claim7 := { stood := { row := binSectionsUptoRow, standIns := [], harness := (true, "4b9cbe7da0362bfccbad70af28a906ad745e57de94831176a7339380daee9a2d"), looks := true }, kinds := [], alts := [], laidByText := true, laidKinds := [.data, .pinned], laidTests := true, laidLooks := .later }
def BinSectionsUptoCardSaid : Prop := Claim7.holds Tryd.pinned (.plain (OpenSpec.upto binSectionsSpec)) binSectionsUptoCard
end Rows
end Go.Proofs.YtaloenmpidbhlaaDoor
