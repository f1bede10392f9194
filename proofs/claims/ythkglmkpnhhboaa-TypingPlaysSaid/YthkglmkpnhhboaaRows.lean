/-
  No cell of these rows narrows 'for every input' (looked for: loops, veiled, ifaces, maps, wideKeys, modest, calm, conditions, laid).
  DERIVED. THE GIVEN ROWS OF THIS SEAT. 3 by the template 'for every input the law returns true; each argument reads behind the call as it read before'; 0 by the template 'total and deterministic' (their statements: YthkglmkpnhhboaaTotals.lean).
  GIVEN WITH THE SEED: the statements are not yours to turn. If you find one false, say at which input.
  Laid BY PROGRAM, IN A SANDBOX (cutbox-rows.mjs): the forced cells as the released guide's own fill.sh prints them over the translation 465897a2f19445a7… (all of the seat's roots in one cut). By AI agents, Wed Nov 11 2026. No macro, syntax, notation, axiom, sorry.
-/
import Derived.Test.YthkglmkpnhhboaaChecked
import GoSem.Claim
import GoSem.ClaimJoined
import GoSem.ClaimMapViews
import Derived.JoinedTies
import Derived.KernelRfl
namespace Go.Proofs.Ythkglmkpnhhboaa
/- THE CELL 'sum', in the pinned program and in every row, IS THE sha256 OF THE DUMP (.gsa) THAT YthkglmkpnhhboaaProg.lean LOADS. Nothing in Lean hashes anything: it is a label: what it is worth is what the hold of that sum in a sandbox is worth. -/
noncomputable def Try.pinned : Pinned := { name := "ythkglmkpnhhboaa", sum := "465897a2f19445a73cdd5f2daf0711e25844584307bafab2f4338665d5825eff", checked := Try.checked }
namespace Rows
def none {H : Type} : Left H := { results := [], args := [] }

/-- 'gabellelaw09.TypingPlays': WHATEVER THE INPUT: true; the input reads as it did. -/
def typingPlaysSpec : ChangeSpec := { name := "typingPlays", fn := fun _ => fun
  | [d1, d2] => { results := [.lit (.bool true)], args := [d1, d2] }
  | _ => none }
def typingPlaysRow : OpenClaim := { program := "ythkglmkpnhhboaa", sum := "465897a2f19445a73cdd5f2daf0711e25844584307bafab2f4338665d5825eff", func := "gabelle/gabellelaw09.TypingPlays", spec := "typingPlays", apart := false }
def TypingPlaysSaid : Prop := typingPlaysRow.holds Try.pinned (OpenSpec.ofChange typingPlaysSpec)

/-- ITS FALSE NEIGHBOUR: 'it returns false'. Refute it at one input. -/
def typingPlaysWrong : ChangeSpec := { name := "typingPlays", fn := fun _ => fun
  | [d1, d2] => { results := [.lit (.bool false)], args := [d1, d2] }
  | _ => none }
def TypingPlaysWrongFalsely : Prop := typingPlaysRow.holds Try.pinned (OpenSpec.ofChange typingPlaysWrong)

/-- 'gabellelaw09.TypingDead': WHATEVER THE INPUT: true; the input reads as it did. -/
def typingDeadSpec : ChangeSpec := { name := "typingDead", fn := fun _ => fun
  | [d1, d2, d3] => { results := [.lit (.bool true)], args := [d1, d2, d3] }
  | _ => none }
def typingDeadRow : OpenClaim := { program := "ythkglmkpnhhboaa", sum := "465897a2f19445a73cdd5f2daf0711e25844584307bafab2f4338665d5825eff", func := "gabelle/gabellelaw09.TypingDead", spec := "typingDead", apart := false }
def TypingDeadSaid : Prop := typingDeadRow.holds Try.pinned (OpenSpec.ofChange typingDeadSpec)

/-- ITS FALSE NEIGHBOUR: 'it returns false'. Refute it at one input. -/
def typingDeadWrong : ChangeSpec := { name := "typingDead", fn := fun _ => fun
  | [d1, d2, d3] => { results := [.lit (.bool false)], args := [d1, d2, d3] }
  | _ => none }
def TypingDeadWrongFalsely : Prop := typingDeadRow.holds Try.pinned (OpenSpec.ofChange typingDeadWrong)

/-- 'gabellelaw09.TypingFrames': WHATEVER THE INPUT: true; the input reads as it did. -/
def typingFramesSpec : ChangeSpec := { name := "typingFrames", fn := fun _ => fun
  | [d1, d2] => { results := [.lit (.bool true)], args := [d1, d2] }
  | _ => none }
def typingFramesRow : OpenClaim := { program := "ythkglmkpnhhboaa", sum := "465897a2f19445a73cdd5f2daf0711e25844584307bafab2f4338665d5825eff", func := "gabelle/gabellelaw09.TypingFrames", spec := "typingFrames", apart := false }
def TypingFramesSaid : Prop := typingFramesRow.holds Try.pinned (OpenSpec.ofChange typingFramesSpec)

/-- ITS FALSE NEIGHBOUR: 'it returns false'. Refute it at one input. -/
def typingFramesWrong : ChangeSpec := { name := "typingFrames", fn := fun _ => fun
  | [d1, d2] => { results := [.lit (.bool false)], args := [d1, d2] }
  | _ => none }
def TypingFramesWrongFalsely : Prop := typingFramesRow.holds Try.pinned (OpenSpec.ofChange typingFramesWrong)

/- THE SECOND FORM. 'bulk': how many values and letters a reading holds, each counted each time it is reached (what is shared counts as often as it is met; a slice's spare places count too). A statement '..UptoSaid' is the law's where the arguments, and the package variables that the reading takes, are together of bulk at most 1048576: NARROWER than '..Said'. Prove '..Said' where nothing that the law and all that it calls make is longer than what came in: it says more and counts as full. Else prove '..UptoSaid'. A law counts once. -/
mutual
def uptoBulk {H : Type} : DataW H → Nat
  | .lit (.string bytes) => bytes.length + 1
  | .lit _ => 1
  | .nil => 1
  | .ptr d => uptoBulk d + 1
  | .slice elems spare => uptoBulkAll elems + uptoBulkAll spare + 1
  | .agg parts => uptoBulkAll parts + 1
  | .iface _ d => uptoBulk d + 1
  | .map entries => uptoBulkEntries entries + 1
  | .held _ => 1
def uptoBulkAll {H : Type} : List (DataW H) → Nat
  | [] => 0
  | d :: r => uptoBulk d + uptoBulkAll r
def uptoBulkEntries {H : Type} : List (Lit × DataW H) → Nat
  | [] => 0
  | x :: r => uptoBulkEntry x + uptoBulkEntries r
def uptoBulkEntry {H : Type} : Lit × DataW H → Nat
  | (.string bytes, d) => bytes.length + uptoBulk d + 1
  | (_, d) => uptoBulk d + 1
 end
def uptoSmall : (H : Type) → List (DataW H) → Bool := fun _ ds => decide (uptoBulkAll ds ≤ 1048576)
def OpenSpec.upto (s : _root_.Go.ChangeSpec) : _root_.Go.OpenSpec := { _root_.Go.OpenSpec.ofChange s with cond := some uptoSmall }

/-- 'gabellelaw09.TypingPlays', WHERE WHAT IT READS IS OF BULK AT MOST 1048576: true; the input reads as it did. -/
def typingPlaysUptoRow : OpenClaim := { program := "ythkglmkpnhhboaa", sum := "465897a2f19445a73cdd5f2daf0711e25844584307bafab2f4338665d5825eff", func := "gabelle/gabellelaw09.TypingPlays", spec := "typingPlays", apart := false, narrowed := true }
def TypingPlaysUptoSaid : Prop := typingPlaysUptoRow.holds Try.pinned (OpenSpec.upto typingPlaysSpec)

/-- 'gabellelaw09.TypingDead', WHERE WHAT IT READS IS OF BULK AT MOST 1048576: true; the input reads as it did. -/
def typingDeadUptoRow : OpenClaim := { program := "ythkglmkpnhhboaa", sum := "465897a2f19445a73cdd5f2daf0711e25844584307bafab2f4338665d5825eff", func := "gabelle/gabellelaw09.TypingDead", spec := "typingDead", apart := false, narrowed := true }
def TypingDeadUptoSaid : Prop := typingDeadUptoRow.holds Try.pinned (OpenSpec.upto typingDeadSpec)

/-- 'gabellelaw09.TypingFrames', WHERE WHAT IT READS IS OF BULK AT MOST 1048576: true; the input reads as it did. -/
def typingFramesUptoRow : OpenClaim := { program := "ythkglmkpnhhboaa", sum := "465897a2f19445a73cdd5f2daf0711e25844584307bafab2f4338665d5825eff", func := "gabelle/gabellelaw09.TypingFrames", spec := "typingFrames", apart := false, narrowed := true }
def TypingFramesUptoSaid : Prop := typingFramesUptoRow.holds Try.pinned (OpenSpec.upto typingFramesSpec)

end Rows
end Go.Proofs.Ythkglmkpnhhboaa
