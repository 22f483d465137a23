/-
  DERIVED. GIVEN WITH THE SEED: THE CARDS: each row of YtlecmpmfgeneoaaDoorRows.lean that lists a variable, with what it lists TIED to the program's text (the seventh form; the later family's looks); each row that meets fmt, with fmt's text TOLD by the authors' own Lean function (tested against real Go, not proved from fmt's source: count such statements apart). THE CARD IS WHAT COUNTS. Prove the row's statement (the work); the ties are given (YtlecmpmfgeneoaaDoorTie.lean); close each card by the builder's one call (the guide's Derived/Test/ToyasCard.lean, 'card_holds'). Laid BY PROGRAM, IN A SANDBOX (cutbox-door.mjs). By AI agents, Wed Nov 11 2026. No macro, syntax, notation, axiom, sorry.
-/
import Derived.Test.YtlecmpmfgeneoaaDoorRows
import GoSem.ClaimSeven
namespace Go.Proofs.YtlecmpmfgeneoaaDoor
namespace Rows

/-- THE TIED CARD OF 'murmurlaw02.DigestSays'. -/
def digestSaysCard : Claim7 := { stood := { row := digestSaysRow, standIns := [], harness := (true, "d8e4ecc32832f3465efe9ae1b2e59ac8f9741422f71c05861f5ffd0a7f90f5e3"), looks := false }, kinds := [], alts := [], laidByText := true, laidKinds := [.data], laidTests := true, laidLooks := .later }
def DigestSaysCardSaid : Prop := Claim7.holds Tryd.pinned (.plain (OpenSpec.ofChange digestSaysSpec)) digestSaysCard

/-- THE TIED CARD OF 'murmurlaw02.DigestBlocks'. -/
def digestBlocksCard : Claim7 := { stood := { row := digestBlocksRow, standIns := [], harness := (true, "d8e4ecc32832f3465efe9ae1b2e59ac8f9741422f71c05861f5ffd0a7f90f5e3"), looks := false }, kinds := [], alts := [], laidByText := true, laidKinds := [.data], laidTests := true, laidLooks := .later }
def DigestBlocksCardSaid : Prop := Claim7.holds Tryd.pinned (.plain (OpenSpec.ofChange digestBlocksSpec)) digestBlocksCard

/-- THE TIED CARD OF 'murmurlaw02.DigestRounds'. -/
def digestRoundsCard : Claim7 := { stood := { row := digestRoundsRow, standIns := [], harness := (true, "d8e4ecc32832f3465efe9ae1b2e59ac8f9741422f71c05861f5ffd0a7f90f5e3"), looks := false }, kinds := [], alts := [], laidByText := true, laidKinds := [.data], laidTests := true, laidLooks := .later }
def DigestRoundsCardSaid : Prop := Claim7.holds Tryd.pinned (.plain (OpenSpec.ofChange digestRoundsSpec)) digestRoundsCard

/-- THE TIED CARD OF 'murmurlaw02.DigestFeeds'. -/
def digestFeedsCard : Claim7 := { stood := { row := digestFeedsRow, standIns := [], harness := (true, "d8e4ecc32832f3465efe9ae1b2e59ac8f9741422f71c05861f5ffd0a7f90f5e3"), looks := false }, kinds := [], alts := [], laidByText := true, laidKinds := [.data], laidTests := true, laidLooks := .later }
def DigestFeedsCardSaid : Prop := Claim7.holds Tryd.pinned (.plain (OpenSpec.ofChange digestFeedsSpec)) digestFeedsCard

/-- THE SECOND FORM's CARD OF 'murmurlaw02.DigestSays'. -/
def digestSaysUptoCard : Claim7 := { stood := { row := digestSaysUptoRow, standIns := [], harness := (true, "d8e4ecc32832f3465efe9ae1b2e59ac8f9741422f71c05861f5ffd0a7f90f5e3"), looks := false }, kinds := [], alts := [], laidByText := true, laidKinds := [.data], laidTests := true, laidLooks := .later }
def DigestSaysUptoCardSaid : Prop := Claim7.holds Tryd.pinned (.plain (OpenSpec.upto digestSaysSpec)) digestSaysUptoCard

/-- THE SECOND FORM's CARD OF 'murmurlaw02.DigestBlocks'. -/
def digestBlocksUptoCard : Claim7 := { stood := { row := digestBlocksUptoRow, standIns := [], harness := (true, "d8e4ecc32832f3465efe9ae1b2e59ac8f9741422f71c05861f5ffd0a7f90f5e3"), looks := false }, kinds := [], alts := [], laidByText := true, laidKinds := [.data], laidTests := true, laidLooks := .later }
def DigestBlocksUptoCardSaid : Prop := Claim7.holds Tryd.pinned (.plain (OpenSpec.upto digestBlocksSpec)) digestBlocksUptoCard

/-- THE SECOND FORM's CARD OF 'murmurlaw02.DigestRounds'. -/
def digestRoundsUptoCard : Claim7 := { stood := { row := digestRoundsUptoRow, standIns := [], harness := (true, "d8e4ecc32832f3465efe9ae1b2e59ac8f9741422f71c05861f5ffd0a7f90f5e3"), looks := false }, kinds := [], alts := [], laidByText := true, laidKinds := [.data], laidTests := true, laidLooks := .later }
def DigestRoundsUptoCardSaid : Prop := Claim7.holds Tryd.pinned (.plain (OpenSpec.upto digestRoundsSpec)) digestRoundsUptoCard

/-- THE SECOND FORM's CARD OF 'murmurlaw02.DigestFeeds'. -/
def digestFeedsUptoCard : Claim7 := { stood := { row := digestFeedsUptoRow, standIns := [], harness := (true, "d8e4ecc32832f3465efe9ae1b2e59ac8f9741422f71c05861f5ffd0a7f90f5e3"), looks := false }, kinds := [], alts := [], laidByText := true, laidKinds := [.data], laidTests := true, laidLooks := .later }
def DigestFeedsUptoCardSaid : Prop := Claim7.holds Tryd.pinned (.plain (OpenSpec.upto digestFeedsSpec)) digestFeedsUptoCard
end Rows
end Go.Proofs.YtlecmpmfgeneoaaDoor
