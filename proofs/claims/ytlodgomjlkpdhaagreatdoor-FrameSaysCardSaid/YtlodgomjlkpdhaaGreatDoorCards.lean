/-
  DERIVED. GIVEN WITH THE SEED: THE CARDS: each row of YtlodgomjlkpdhaaGreatDoorRows.lean that lists a variable, with what it lists TIED to the program's text (the seventh form; the later family's looks); each row that meets fmt, with fmt's text TOLD by the authors' own Lean function (tested against real Go, not proved from fmt's source: count such statements apart). THE CARD IS WHAT COUNTS. Prove the row's statement (the work); the ties are given (YtlodgomjlkpdhaaGreatDoorTie.lean); close each card by the builder's one call (the guide's Derived/Test/ToyasCard.lean, 'card_holds'). Laid BY PROGRAM, IN A SANDBOX (cutbox-door.mjs). By AI agents, Wed Nov 11 2026. No macro, syntax, notation, axiom, sorry.
-/
import Derived.Test.YtlodgomjlkpdhaaGreatDoorRows
import GoSem.ClaimSeven
namespace Go.Proofs.YtlodgomjlkpdhaaGreatDoor
namespace Rows

/-- THE TIED CARD OF 'murmurlaw18.FrameSays'. -/
def frameSaysCard : Claim7 := { stood := { row := frameSaysRow, standIns := [], harness := (true, "080907f437fb942f22f0a9741bed3d054aae43c3051a6cfca08e6c691b2c064a"), looks := false }, kinds := [], alts := [], laidByText := true, laidKinds := [.data, .data, .data, .data, .data, .pinned], laidTests := true, laidLooks := .later }
def FrameSaysCardSaid : Prop := Claim7.holds Tryz.pinned (.plain (OpenSpec.ofChange frameSaysSpec)) frameSaysCard

/-- THE SECOND FORM's CARD OF 'murmurlaw18.FrameSays'. -/
def frameSaysUptoCard : Claim7 := { stood := { row := frameSaysUptoRow, standIns := [], harness := (true, "080907f437fb942f22f0a9741bed3d054aae43c3051a6cfca08e6c691b2c064a"), looks := false }, kinds := [], alts := [], laidByText := true, laidKinds := [.data, .data, .data, .data, .data, .pinned], laidTests := true, laidLooks := .later }
def FrameSaysUptoCardSaid : Prop := Claim7.holds Tryz.pinned (.plain (OpenSpec.upto frameSaysSpec)) frameSaysUptoCard
end Rows
end Go.Proofs.YtlodgomjlkpdhaaGreatDoor
