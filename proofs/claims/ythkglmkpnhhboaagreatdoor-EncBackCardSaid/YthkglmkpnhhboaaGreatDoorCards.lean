/-
  DERIVED. GIVEN WITH THE SEED: THE CARDS: each row of YthkglmkpnhhboaaGreatDoorRows.lean that lists a variable, with what it lists TIED to the program's text (the seventh form; the later family's looks); each row that meets fmt, with fmt's text TOLD by the authors' own Lean function (tested against real Go, not proved from fmt's source: count such statements apart). THE CARD IS WHAT COUNTS. Prove the row's statement (the work); the ties are given (YthkglmkpnhhboaaGreatDoorTie.lean); close each card by the builder's one call (the guide's Derived/Test/ToyasCard.lean, 'card_holds'). Laid BY PROGRAM, IN A SANDBOX (cutbox-door.mjs). By AI agents, Wed Nov 11 2026. No macro, syntax, notation, axiom, sorry.
-/
import Derived.Test.YthkglmkpnhhboaaGreatDoorRows
import GoSem.ClaimSeven
namespace Go.Proofs.YthkglmkpnhhboaaGreatDoor
namespace Rows

/-- THE TIED CARD OF 'gabellelaw07.EncBytes'. -/
def encBytesCard : Claim7 := { stood := { row := encBytesRow, standIns := [], harness := (true, "bb2f423e8644338119800341bb2d35cc0666ab97be04103e7b1f14e9291eaf54"), looks := true }, kinds := [], alts := [], laidByText := true, laidKinds := [.data, .pinned], laidTests := true, laidLooks := .later }
def EncBytesCardSaid : Prop := Claim7.holds Tryz.pinned (.plain (OpenSpec.ofChange encBytesSpec)) encBytesCard

/-- THE TIED CARD OF 'gabellelaw07.EncBack'. -/
def encBackCard : Claim7 := { stood := { row := encBackRow, standIns := [], harness := (true, "bb2f423e8644338119800341bb2d35cc0666ab97be04103e7b1f14e9291eaf54"), looks := true }, kinds := [], alts := [], laidByText := true, laidKinds := [.data, .pinned], laidTests := true, laidLooks := .later }
def EncBackCardSaid : Prop := Claim7.holds Tryz.pinned (.plain (OpenSpec.ofChange encBackSpec)) encBackCard

/-- THE TIED CARD OF 'gabellelaw07.EncShort'. -/
def encShortCard : Claim7 := { stood := { row := encShortRow, standIns := [], harness := (true, "bb2f423e8644338119800341bb2d35cc0666ab97be04103e7b1f14e9291eaf54"), looks := true }, kinds := [], alts := [], laidByText := true, laidKinds := [.data, .pinned], laidTests := true, laidLooks := .later }
def EncShortCardSaid : Prop := Claim7.holds Tryz.pinned (.plain (OpenSpec.ofChange encShortSpec)) encShortCard

/-- THE SECOND FORM's CARD OF 'gabellelaw07.EncBytes'. -/
def encBytesUptoCard : Claim7 := { stood := { row := encBytesUptoRow, standIns := [], harness := (true, "bb2f423e8644338119800341bb2d35cc0666ab97be04103e7b1f14e9291eaf54"), looks := true }, kinds := [], alts := [], laidByText := true, laidKinds := [.data, .pinned], laidTests := true, laidLooks := .later }
def EncBytesUptoCardSaid : Prop := Claim7.holds Tryz.pinned (.plain (OpenSpec.upto encBytesSpec)) encBytesUptoCard

/-- THE SECOND FORM's CARD OF 'gabellelaw07.EncBack'. -/
def encBackUptoCard : Claim7 := { stood := { row := encBackUptoRow, standIns := [], harness := (true, "bb2f423e8644338119800341bb2d35cc0666ab97be04103e7b1f14e9291eaf54"), looks := true }, kinds := [], alts := [], laidByText := true, laidKinds := [.data, .pinned], laidTests := true, laidLooks := .later }
def EncBackUptoCardSaid : Prop := Claim7.holds Tryz.pinned (.plain (OpenSpec.upto encBackSpec)) encBackUptoCard

/-- THE SECOND FORM's CARD OF 'gabellelaw07.EncShort'. -/
def encShortUptoCard : Claim7 := { stood := { row := encShortUptoRow, standIns := [], harness := (true, "bb2f423e8644338119800341bb2d35cc0666ab97be04103e7b1f14e9291eaf54"), looks := true }, kinds := [], alts := [], laidByText := true, laidKinds := [.data, .pinned], laidTests := true, laidLooks := .later }
def EncShortUptoCardSaid : Prop := Claim7.holds Tryz.pinned (.plain (OpenSpec.upto encShortSpec)) encShortUptoCard
end Rows
end Go.Proofs.YthkglmkpnhhboaaGreatDoor
