/-
  DERIVED. GIVEN WITH THE SEED: THE CARDS: each row of YtpamdpfgcbadhaaDoorRows.lean that lists a variable, with what it lists TIED to the program's text (the seventh form; the later family's looks); each row that meets fmt, with fmt's text TOLD by the authors' own Lean function (tested against real Go, not proved from fmt's source: count such statements apart). THE CARD IS WHAT COUNTS. Prove the row's statement (the work); the ties are given (YtpamdpfgcbadhaaDoorTie.lean); close each card by the builder's one call (the guide's Derived/Test/ToyasCard.lean, 'card_holds'). Laid BY PROGRAM, IN A SANDBOX (cutbox-door.mjs). By AI agents, Wed Nov 11 2026. No macro, syntax, notation, axiom, sorry.
-/
import Derived.Test.YtpamdpfgcbadhaaDoorRows
import GoSem.ClaimSeven
namespace Go.Proofs.YtpamdpfgcbadhaaDoor
namespace Rows

/-- THE TIED CARD OF 'murmurlaw15.TapeSays'. -/
def tapeSaysCard : Claim7 := { stood := { row := tapeSaysRow, standIns := [], harness := (true, "72d43a7d874fcbafae564a76ea51a88584c37e5b974b28d9d8495814d76b42b9"), looks := false }, kinds := [], alts := [], laidByText := true, laidKinds := [.data, .data, .data], laidTests := true, laidLooks := .later }
def TapeSaysCardSaid : Prop := Claim7.holds Tryd.pinned (.plain (OpenSpec.ofChange tapeSaysSpec)) tapeSaysCard

/-- THE TIED CARD OF 'murmurlaw15.TapePuts'. -/
def tapePutsCard : Claim7 := { stood := { row := tapePutsRow, standIns := [], harness := (true, "72d43a7d874fcbafae564a76ea51a88584c37e5b974b28d9d8495814d76b42b9"), looks := false }, kinds := [], alts := [], laidByText := true, laidKinds := [.data, .data, .data], laidTests := true, laidLooks := .later }
def TapePutsCardSaid : Prop := Claim7.holds Tryd.pinned (.plain (OpenSpec.ofChange tapePutsSpec)) tapePutsCard

/-- THE TIED CARD OF 'murmurlaw15.TapeNames'. -/
def tapeNamesCard : Claim7 := { stood := { row := tapeNamesRow, standIns := [], harness := (true, "72d43a7d874fcbafae564a76ea51a88584c37e5b974b28d9d8495814d76b42b9"), looks := false }, kinds := [], alts := [], laidByText := true, laidKinds := [.data, .data, .data], laidTests := true, laidLooks := .later }
def TapeNamesCardSaid : Prop := Claim7.holds Tryd.pinned (.plain (OpenSpec.ofChange tapeNamesSpec)) tapeNamesCard

/-- THE TIED CARD OF 'murmurlaw15.TapePrints'. -/
def tapePrintsCard : Claim7 := { stood := { row := tapePrintsRow, standIns := [], harness := (true, "72d43a7d874fcbafae564a76ea51a88584c37e5b974b28d9d8495814d76b42b9"), looks := false }, kinds := [], alts := [], laidByText := true, laidKinds := [.data, .data, .data], laidTests := true, laidLooks := .later }
def TapePrintsCardSaid : Prop := Claim7.holds Tryd.pinned (.plain (OpenSpec.ofChange tapePrintsSpec)) tapePrintsCard

/-- THE TIED CARD OF 'murmurlaw15.TapeBack'. -/
def tapeBackCard : Claim7 := { stood := { row := tapeBackRow, standIns := [], harness := (true, "72d43a7d874fcbafae564a76ea51a88584c37e5b974b28d9d8495814d76b42b9"), looks := false }, kinds := [], alts := [], laidByText := true, laidKinds := [.data, .data, .data], laidTests := true, laidLooks := .later }
def TapeBackCardSaid : Prop := Claim7.holds Tryd.pinned (.plain (OpenSpec.ofChange tapeBackSpec)) tapeBackCard

/-- THE SECOND FORM's CARD OF 'murmurlaw15.TapeSays'. -/
def tapeSaysUptoCard : Claim7 := { stood := { row := tapeSaysUptoRow, standIns := [], harness := (true, "72d43a7d874fcbafae564a76ea51a88584c37e5b974b28d9d8495814d76b42b9"), looks := false }, kinds := [], alts := [], laidByText := true, laidKinds := [.data, .data, .data], laidTests := true, laidLooks := .later }
def TapeSaysUptoCardSaid : Prop := Claim7.holds Tryd.pinned (.plain (OpenSpec.upto tapeSaysSpec)) tapeSaysUptoCard

/-- THE SECOND FORM's CARD OF 'murmurlaw15.TapePuts'. -/
def tapePutsUptoCard : Claim7 := { stood := { row := tapePutsUptoRow, standIns := [], harness := (true, "72d43a7d874fcbafae564a76ea51a88584c37e5b974b28d9d8495814d76b42b9"), looks := false }, kinds := [], alts := [], laidByText := true, laidKinds := [.data, .data, .data], laidTests := true, laidLooks := .later }
def TapePutsUptoCardSaid : Prop := Claim7.holds Tryd.pinned (.plain (OpenSpec.upto tapePutsSpec)) tapePutsUptoCard

/-- THE SECOND FORM's CARD OF 'murmurlaw15.TapeNames'. -/
def tapeNamesUptoCard : Claim7 := { stood := { row := tapeNamesUptoRow, standIns := [], harness := (true, "72d43a7d874fcbafae564a76ea51a88584c37e5b974b28d9d8495814d76b42b9"), looks := false }, kinds := [], alts := [], laidByText := true, laidKinds := [.data, .data, .data], laidTests := true, laidLooks := .later }
def TapeNamesUptoCardSaid : Prop := Claim7.holds Tryd.pinned (.plain (OpenSpec.upto tapeNamesSpec)) tapeNamesUptoCard

/-- THE SECOND FORM's CARD OF 'murmurlaw15.TapePrints'. -/
def tapePrintsUptoCard : Claim7 := { stood := { row := tapePrintsUptoRow, standIns := [], harness := (true, "72d43a7d874fcbafae564a76ea51a88584c37e5b974b28d9d8495814d76b42b9"), looks := false }, kinds := [], alts := [], laidByText := true, laidKinds := [.data, .data, .data], laidTests := true, laidLooks := .later }
def TapePrintsUptoCardSaid : Prop := Claim7.holds Tryd.pinned (.plain (OpenSpec.upto tapePrintsSpec)) tapePrintsUptoCard

/-- THE SECOND FORM's CARD OF 'murmurlaw15.TapeBack'. -/
def tapeBackUptoCard : Claim7 := { stood := { row := tapeBackUptoRow, standIns := [], harness := (true, "72d43a7d874fcbafae564a76ea51a88584c37e5b974b28d9d8495814d76b42b9"), looks := false }, kinds := [], alts := [], laidByText := true, laidKinds := [.data, .data, .data], laidTests := true, laidLooks := .later }
def TapeBackUptoCardSaid : Prop := Claim7.holds Tryd.pinned (.plain (OpenSpec.upto tapeBackSpec)) tapeBackUptoCard
end Rows
end Go.Proofs.YtpamdpfgcbadhaaDoor
