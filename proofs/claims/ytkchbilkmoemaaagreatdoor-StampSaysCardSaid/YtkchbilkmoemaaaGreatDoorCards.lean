/-
  DERIVED. GIVEN WITH THE SEED: THE CARDS: each row of YtkchbilkmoemaaaGreatDoorRows.lean that lists a variable, with what it lists TIED to the program's text (the seventh form; the later family's looks); each row that meets fmt, with fmt's text TOLD by the authors' own Lean function (tested against real Go, not proved from fmt's source: count such statements apart). THE CARD IS WHAT COUNTS. Prove the row's statement (the work); the ties are given (YtkchbilkmoemaaaGreatDoorTie.lean); close each card by the builder's one call (the guide's Derived/Test/ToyasCard.lean, 'card_holds'). Laid BY PROGRAM, IN A SANDBOX (cutbox-door.mjs). By AI agents, Wed Nov 11 2026. No macro, syntax, notation, axiom, sorry.
-/
import Derived.Test.YtkchbilkmoemaaaGreatDoorRows
import GoSem.ClaimSeven
namespace Go.Proofs.YtkchbilkmoemaaaGreatDoor
namespace Rows

/-- THE TIED CARD OF 'murmurlaw09.StampSays'. -/
def stampSaysCard : Claim7 := { stood := { row := stampSaysRow, standIns := [], harness := (true, "a06a616a6fd74394986995a52ac78bd3f7d0216da19e0698710afc6488b4793b"), looks := false }, kinds := [], alts := [], laidByText := true, laidKinds := [.data], laidTests := true, laidLooks := .later }
def StampSaysCardSaid : Prop := Claim7.holds Tryz.pinned (.plain (OpenSpec.ofChange stampSaysSpec)) stampSaysCard

/-- THE SECOND FORM's CARD OF 'murmurlaw09.StampSays'. -/
def stampSaysUptoCard : Claim7 := { stood := { row := stampSaysUptoRow, standIns := [], harness := (true, "a06a616a6fd74394986995a52ac78bd3f7d0216da19e0698710afc6488b4793b"), looks := false }, kinds := [], alts := [], laidByText := true, laidKinds := [.data], laidTests := true, laidLooks := .later }
def StampSaysUptoCardSaid : Prop := Claim7.holds Tryz.pinned (.plain (OpenSpec.upto stampSaysSpec)) stampSaysUptoCard
end Rows
end Go.Proofs.YtkchbilkmoemaaaGreatDoor
