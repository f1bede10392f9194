/-
  DERIVED. GIVEN WITH THE SEED: THE CARDS: each row of YtanhgpdeoffmfaaDoorRows.lean that lists a variable, with what it lists TIED to the program's text (the seventh form; the later family's looks); each row that meets fmt, with fmt's text TOLD by the authors' own Lean function (tested against real Go, not proved from fmt's source: count such statements apart). THE CARD IS WHAT COUNTS. Prove the row's statement (the work); the ties are given (YtanhgpdeoffmfaaDoorTie.lean); close each card by the builder's one call (the guide's Derived/Test/ToyasCard.lean, 'card_holds'). Laid BY PROGRAM, IN A SANDBOX (cutbox-door.mjs). By AI agents, Wed Nov 11 2026. No macro, syntax, notation, axiom, sorry.
-/
import Derived.Test.YtanhgpdeoffmfaaDoorRows
import GoSem.ClaimSeven
namespace Go.Proofs.YtanhgpdeoffmfaaDoor
namespace Rows

/-- THE TIED CARD OF 'gabellelaw05.SectSplits'. -/
def sectSplitsCard : Claim7 := { stood := { row := sectSplitsRow, standIns := [], harness := (true, "e628ccf4590fe1571a435a4e74961ca70239e0bd57703ab5f87b515f4ab33242"), looks := false }, kinds := [], alts := [], laidByText := true, laidKinds := [.data, .pinned], laidTests := true, laidLooks := .later }
def SectSplitsCardSaid : Prop := Claim7.holds Tryd.pinned (.plain (OpenSpec.ofChange sectSplitsSpec)) sectSplitsCard

/-- THE TIED CARD OF 'gabellelaw05.SectJoins'. -/
def sectJoinsCard : Claim7 := { stood := { row := sectJoinsRow, standIns := [], harness := (true, "e628ccf4590fe1571a435a4e74961ca70239e0bd57703ab5f87b515f4ab33242"), looks := false }, kinds := [], alts := [], laidByText := true, laidKinds := [.data, .pinned], laidTests := true, laidLooks := .later }
def SectJoinsCardSaid : Prop := Claim7.holds Tryd.pinned (.plain (OpenSpec.ofChange sectJoinsSpec)) sectJoinsCard

/-- THE TIED CARD OF 'gabellelaw05.SectBack'. -/
def sectBackCard : Claim7 := { stood := { row := sectBackRow, standIns := [], harness := (true, "e628ccf4590fe1571a435a4e74961ca70239e0bd57703ab5f87b515f4ab33242"), looks := false }, kinds := [], alts := [], laidByText := true, laidKinds := [.data, .pinned], laidTests := true, laidLooks := .later }
def SectBackCardSaid : Prop := Claim7.holds Tryd.pinned (.plain (OpenSpec.ofChange sectBackSpec)) sectBackCard

/-- THE TIED CARD OF 'gabellelaw05.SectCustom'. -/
def sectCustomCard : Claim7 := { stood := { row := sectCustomRow, standIns := [], harness := (true, "e628ccf4590fe1571a435a4e74961ca70239e0bd57703ab5f87b515f4ab33242"), looks := false }, kinds := [], alts := [], laidByText := true, laidKinds := [.data, .pinned], laidTests := true, laidLooks := .later }
def SectCustomCardSaid : Prop := Claim7.holds Tryd.pinned (.plain (OpenSpec.ofChange sectCustomSpec)) sectCustomCard

/-- THE TIED CARD OF 'gabellelaw05.SectCut'. -/
def sectCutCard : Claim7 := { stood := { row := sectCutRow, standIns := [], harness := (true, "e628ccf4590fe1571a435a4e74961ca70239e0bd57703ab5f87b515f4ab33242"), looks := false }, kinds := [], alts := [], laidByText := true, laidKinds := [.data, .pinned], laidTests := true, laidLooks := .later }
def SectCutCardSaid : Prop := Claim7.holds Tryd.pinned (.plain (OpenSpec.ofChange sectCutSpec)) sectCutCard

/-- THE SECOND FORM's CARD OF 'gabellelaw05.SectSplits'. -/
def sectSplitsUptoCard : Claim7 := { stood := { row := sectSplitsUptoRow, standIns := [], harness := (true, "e628ccf4590fe1571a435a4e74961ca70239e0bd57703ab5f87b515f4ab33242"), looks := false }, kinds := [], alts := [], laidByText := true, laidKinds := [.data, .pinned], laidTests := true, laidLooks := .later }
def SectSplitsUptoCardSaid : Prop := Claim7.holds Tryd.pinned (.plain (OpenSpec.upto sectSplitsSpec)) sectSplitsUptoCard

/-- THE SECOND FORM's CARD OF 'gabellelaw05.SectJoins'. -/
def sectJoinsUptoCard : Claim7 := { stood := { row := sectJoinsUptoRow, standIns := [], harness := (true, "e628ccf4590fe1571a435a4e74961ca70239e0bd57703ab5f87b515f4ab33242"), looks := false }, kinds := [], alts := [], laidByText := true, laidKinds := [.data, .pinned], laidTests := true, laidLooks := .later }
def SectJoinsUptoCardSaid : Prop := Claim7.holds Tryd.pinned (.plain (OpenSpec.upto sectJoinsSpec)) sectJoinsUptoCard

/-- THE SECOND FORM's CARD OF 'gabellelaw05.SectBack'. -/
def sectBackUptoCard : Claim7 := { stood := { row := sectBackUptoRow, standIns := [], harness := (true, "e628ccf4590fe1571a435a4e74961ca70239e0bd57703ab5f87b515f4ab33242"), looks := false }, kinds := [], alts := [], laidByText := true, laidKinds := [.data, .pinned], laidTests := true, laidLooks := .later }
def SectBackUptoCardSaid : Prop := Claim7.holds Tryd.pinned (.plain (OpenSpec.upto sectBackSpec)) sectBackUptoCard

/-- THE SECOND FORM's CARD OF 'gabellelaw05.SectCustom'. -/
def sectCustomUptoCard : Claim7 := { stood := { row := sectCustomUptoRow, standIns := [], harness := (true, "e628ccf4590fe1571a435a4e74961ca70239e0bd57703ab5f87b515f4ab33242"), looks := false }, kinds := [], alts := [], laidByText := true, laidKinds := [.data, .pinned], laidTests := true, laidLooks := .later }
def SectCustomUptoCardSaid : Prop := Claim7.holds Tryd.pinned (.plain (OpenSpec.upto sectCustomSpec)) sectCustomUptoCard

/-- THE SECOND FORM's CARD OF 'gabellelaw05.SectCut'. -/
def sectCutUptoCard : Claim7 := { stood := { row := sectCutUptoRow, standIns := [], harness := (true, "e628ccf4590fe1571a435a4e74961ca70239e0bd57703ab5f87b515f4ab33242"), looks := false }, kinds := [], alts := [], laidByText := true, laidKinds := [.data, .pinned], laidTests := true, laidLooks := .later }
def SectCutUptoCardSaid : Prop := Claim7.holds Tryd.pinned (.plain (OpenSpec.upto sectCutSpec)) sectCutUptoCard
end Rows
end Go.Proofs.YtanhgpdeoffmfaaDoor
