/-
  DERIVED. GIVEN WITH THE SEED: THE CARDS: each row of YtdhipdoaefdfeaaGreatDoorRows.lean that lists a variable, with what it lists TIED to the program's text (the seventh form; the later family's looks); each row that meets fmt, with fmt's text TOLD by the authors' own Lean function (tested against real Go, not proved from fmt's source: count such statements apart). THE CARD IS WHAT COUNTS. Prove the row's statement (the work); the ties are given (YtdhipdoaefdfeaaGreatDoorTie.lean); close each card by the builder's one call (the guide's Derived/Test/ToyasCard.lean, 'card_holds'). Laid BY PROGRAM, IN A SANDBOX (cutbox-door.mjs). By AI agents, Wed Nov 11 2026. No macro, syntax, notation, axiom, sorry.
-/
import Derived.Test.YtdhipdoaefdfeaaGreatDoorRows
import GoSem.ClaimSeven
namespace Go.Proofs.YtdhipdoaefdfeaaGreatDoor
namespace Rows

/-- THE TIED CARD OF 'murmurlaw16.BookSigns'. -/
def bookSignsCard : Claim7 := { stood := { row := bookSignsRow, standIns := [], harness := (true, "410a0dd2a9646337aab1f5930d04d51c3b424f0ca689e4931a29e351438cf4d0"), looks := false }, kinds := [], alts := [], laidByText := true, laidKinds := [.data, .data, .data, .data], laidTests := true, laidLooks := .later }
def BookSignsCardSaid : Prop := Claim7.holds Tryz.pinned (.plain (OpenSpec.ofChange bookSignsSpec)) bookSignsCard

/-- THE TIED CARD OF 'murmurlaw16.BookPerms'. -/
def bookPermsCard : Claim7 := { stood := { row := bookPermsRow, standIns := [], harness := (true, "410a0dd2a9646337aab1f5930d04d51c3b424f0ca689e4931a29e351438cf4d0"), looks := false }, kinds := [], alts := [], laidByText := true, laidKinds := [.data, .data, .data, .data], laidTests := true, laidLooks := .later }
def BookPermsCardSaid : Prop := Claim7.holds Tryz.pinned (.plain (OpenSpec.ofChange bookPermsSpec)) bookPermsCard

/-- THE TIED CARD OF 'murmurlaw16.BookLifts'. -/
def bookLiftsCard : Claim7 := { stood := { row := bookLiftsRow, standIns := [], harness := (true, "410a0dd2a9646337aab1f5930d04d51c3b424f0ca689e4931a29e351438cf4d0"), looks := false }, kinds := [], alts := [], laidByText := true, laidKinds := [.data, .data, .data, .data], laidTests := true, laidLooks := .later }
def BookLiftsCardSaid : Prop := Claim7.holds Tryz.pinned (.plain (OpenSpec.ofChange bookLiftsSpec)) bookLiftsCard

/-- THE SECOND FORM's CARD OF 'murmurlaw16.BookSigns'. -/
def bookSignsUptoCard : Claim7 := { stood := { row := bookSignsUptoRow, standIns := [], harness := (true, "410a0dd2a9646337aab1f5930d04d51c3b424f0ca689e4931a29e351438cf4d0"), looks := false }, kinds := [], alts := [], laidByText := true, laidKinds := [.data, .data, .data, .data], laidTests := true, laidLooks := .later }
def BookSignsUptoCardSaid : Prop := Claim7.holds Tryz.pinned (.plain (OpenSpec.upto bookSignsSpec)) bookSignsUptoCard

/-- THE SECOND FORM's CARD OF 'murmurlaw16.BookPerms'. -/
def bookPermsUptoCard : Claim7 := { stood := { row := bookPermsUptoRow, standIns := [], harness := (true, "410a0dd2a9646337aab1f5930d04d51c3b424f0ca689e4931a29e351438cf4d0"), looks := false }, kinds := [], alts := [], laidByText := true, laidKinds := [.data, .data, .data, .data], laidTests := true, laidLooks := .later }
def BookPermsUptoCardSaid : Prop := Claim7.holds Tryz.pinned (.plain (OpenSpec.upto bookPermsSpec)) bookPermsUptoCard

/-- THE SECOND FORM's CARD OF 'murmurlaw16.BookLifts'. -/
def bookLiftsUptoCard : Claim7 := { stood := { row := bookLiftsUptoRow, standIns := [], harness := (true, "410a0dd2a9646337aab1f5930d04d51c3b424f0ca689e4931a29e351438cf4d0"), looks := false }, kinds := [], alts := [], laidByText := true, laidKinds := [.data, .data, .data, .data], laidTests := true, laidLooks := .later }
def BookLiftsUptoCardSaid : Prop := Claim7.holds Tryz.pinned (.plain (OpenSpec.upto bookLiftsSpec)) bookLiftsUptoCard
end Rows
end Go.Proofs.YtdhipdoaefdfeaaGreatDoor
