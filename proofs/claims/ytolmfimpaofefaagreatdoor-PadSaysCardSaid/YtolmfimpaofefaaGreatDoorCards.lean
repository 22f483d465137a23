/-
  DERIVED. GIVEN WITH THE SEED: THE CARDS: each row of YtolmfimpaofefaaGreatDoorRows.lean that lists a variable, with what it lists TIED to the program's text (the seventh form; the later family's looks); each row that meets fmt, with fmt's text TOLD by the authors' own Lean function (tested against real Go, not proved from fmt's source: count such statements apart). THE CARD IS WHAT COUNTS. Prove the row's statement (the work); the ties are given (YtolmfimpaofefaaGreatDoorTie.lean); close each card by the builder's one call (the guide's Derived/Test/ToyasCard.lean, 'card_holds'). Laid BY PROGRAM, IN A SANDBOX (cutbox-door.mjs). By AI agents, Wed Nov 11 2026. No macro, syntax, notation, axiom, sorry.
-/
import Derived.Test.YtolmfimpaofefaaGreatDoorRows
import GoSem.ClaimSeven
namespace Go.Proofs.YtolmfimpaofefaaGreatDoor
namespace Rows

/-- THE TIED CARD OF 'murmurlaw17.PadSays'. -/
def padSaysCard : Claim7 := { stood := { row := padSaysRow, standIns := [], harness := (true, "cf4968ab4ecc9ceed3a08e72794106fddd3723023928f139600c034468031d2e"), looks := false }, kinds := [], alts := [], laidByText := true, laidKinds := [.data, .data, .data, .data], laidTests := true, laidLooks := .later }
def PadSaysCardSaid : Prop := Claim7.holds Tryz.pinned (.plain (OpenSpec.ofChange padSaysSpec)) padSaysCard

/-- THE TIED CARD OF 'murmurlaw17.PadAgain'. -/
def padAgainCard : Claim7 := { stood := { row := padAgainRow, standIns := [], harness := (true, "cf4968ab4ecc9ceed3a08e72794106fddd3723023928f139600c034468031d2e"), looks := false }, kinds := [], alts := [], laidByText := true, laidKinds := [.data, .data, .data, .data], laidTests := true, laidLooks := .later }
def PadAgainCardSaid : Prop := Claim7.holds Tryz.pinned (.plain (OpenSpec.ofChange padAgainSpec)) padAgainCard

/-- THE TIED CARD OF 'murmurlaw17.PadLonger'. -/
def padLongerCard : Claim7 := { stood := { row := padLongerRow, standIns := [], harness := (true, "cf4968ab4ecc9ceed3a08e72794106fddd3723023928f139600c034468031d2e"), looks := false }, kinds := [], alts := [], laidByText := true, laidKinds := [.data, .data, .data, .data], laidTests := true, laidLooks := .later }
def PadLongerCardSaid : Prop := Claim7.holds Tryz.pinned (.plain (OpenSpec.ofChange padLongerSpec)) padLongerCard

/-- THE SECOND FORM's CARD OF 'murmurlaw17.PadSays'. -/
def padSaysUptoCard : Claim7 := { stood := { row := padSaysUptoRow, standIns := [], harness := (true, "cf4968ab4ecc9ceed3a08e72794106fddd3723023928f139600c034468031d2e"), looks := false }, kinds := [], alts := [], laidByText := true, laidKinds := [.data, .data, .data, .data], laidTests := true, laidLooks := .later }
def PadSaysUptoCardSaid : Prop := Claim7.holds Tryz.pinned (.plain (OpenSpec.upto padSaysSpec)) padSaysUptoCard

/-- THE SECOND FORM's CARD OF 'murmurlaw17.PadAgain'. -/
def padAgainUptoCard : Claim7 := { stood := { row := padAgainUptoRow, standIns := [], harness := (true, "cf4968ab4ecc9ceed3a08e72794106fddd3723023928f139600c034468031d2e"), looks := false }, kinds := [], alts := [], laidByText := true, laidKinds := [.data, .data, .data, .data], laidTests := true, laidLooks := .later }
def PadAgainUptoCardSaid : Prop := Claim7.holds Tryz.pinned (.plain (OpenSpec.upto padAgainSpec)) padAgainUptoCard

/-- THE SECOND FORM's CARD OF 'murmurlaw17.PadLonger'. -/
def padLongerUptoCard : Claim7 := { stood := { row := padLongerUptoRow, standIns := [], harness := (true, "cf4968ab4ecc9ceed3a08e72794106fddd3723023928f139600c034468031d2e"), looks := false }, kinds := [], alts := [], laidByText := true, laidKinds := [.data, .data, .data, .data], laidTests := true, laidLooks := .later }
def PadLongerUptoCardSaid : Prop := Claim7.holds Tryz.pinned (.plain (OpenSpec.upto padLongerSpec)) padLongerUptoCard
end Rows
end Go.Proofs.YtolmfimpaofefaaGreatDoor
