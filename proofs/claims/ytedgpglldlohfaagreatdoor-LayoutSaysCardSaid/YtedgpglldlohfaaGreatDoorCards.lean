/-
  DERIVED. GIVEN WITH THE SEED: THE CARDS: each row of YtedgpglldlohfaaGreatDoorRows.lean that lists a variable, with what it lists TIED to the program's text (the seventh form; the later family's looks); each row that meets fmt, with fmt's text TOLD by the authors' own Lean function (tested against real Go, not proved from fmt's source: count such statements apart). THE CARD IS WHAT COUNTS. Prove the row's statement (the work); the ties are given (YtedgpglldlohfaaGreatDoorTie.lean); close each card by the builder's one call (the guide's Derived/Test/ToyasCard.lean, 'card_holds'). Laid BY PROGRAM, IN A SANDBOX (cutbox-door.mjs). By AI agents, Wed Nov 11 2026. No macro, syntax, notation, axiom, sorry.
-/
import Derived.Test.YtedgpglldlohfaaGreatDoorRows
import GoSem.ClaimSeven
namespace Go.Proofs.YtedgpglldlohfaaGreatDoor
namespace Rows

/-- THE TIED CARD OF 'murmurlaw19.LayoutSays'. -/
def layoutSaysCard : Claim7 := { stood := { row := layoutSaysRow, standIns := [], harness := (true, "5b0696aaec2f628e099544dd23cd94dd601f43c0f5ee4c0d2bb8688df90ab4c4"), looks := false }, kinds := [], alts := [], laidByText := true, laidKinds := [.data, .data, .pinned], laidTests := true, laidLooks := .later }
def LayoutSaysCardSaid : Prop := Claim7.holds Tryz.pinned (.plain (OpenSpec.ofChange layoutSaysSpec)) layoutSaysCard

/-- THE SECOND FORM's CARD OF 'murmurlaw19.LayoutSays'. -/
def layoutSaysUptoCard : Claim7 := { stood := { row := layoutSaysUptoRow, standIns := [], harness := (true, "5b0696aaec2f628e099544dd23cd94dd601f43c0f5ee4c0d2bb8688df90ab4c4"), looks := false }, kinds := [], alts := [], laidByText := true, laidKinds := [.data, .data, .pinned], laidTests := true, laidLooks := .later }
def LayoutSaysUptoCardSaid : Prop := Claim7.holds Tryz.pinned (.plain (OpenSpec.upto layoutSaysSpec)) layoutSaysUptoCard
end Rows
end Go.Proofs.YtedgpglldlohfaaGreatDoor
