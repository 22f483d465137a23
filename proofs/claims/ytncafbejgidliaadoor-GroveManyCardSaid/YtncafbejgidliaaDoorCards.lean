/-
  DERIVED. GIVEN WITH THE SEED: THE CARDS: each row of YtncafbejgidliaaDoorRows.lean that lists a variable, with what it lists TIED to the program's text (the seventh form; the later family's looks); each row that meets fmt, with fmt's text TOLD by the authors' own Lean function (tested against real Go, not proved from fmt's source: count such statements apart). THE CARD IS WHAT COUNTS. Prove the row's statement (the work); the ties are given (YtncafbejgidliaaDoorTie.lean); close each card by the builder's one call (the guide's Derived/Test/ToyasCard.lean, 'card_holds'). Laid BY PROGRAM, IN A SANDBOX (cutbox-door.mjs). By AI agents, Wed Nov 11 2026. No macro, syntax, notation, axiom, sorry.
-/
import Derived.Test.YtncafbejgidliaaDoorRows
import GoSem.ClaimSeven
namespace Go.Proofs.YtncafbejgidliaaDoor
namespace Rows

/-- THE TIED CARD OF 'murmurlaw08.GroveSays'. -/
def groveSaysCard : Claim7 := { stood := { row := groveSaysRow, standIns := [], harness := (true, "e461e96a37d679d202d42438882b9645a646e7341c8c66d328c188606e5edf28"), looks := false }, kinds := [], alts := [], laidByText := true, laidKinds := [.data], laidTests := true, laidLooks := .later }
def GroveSaysCardSaid : Prop := Claim7.holds Tryd.pinned (.plain (OpenSpec.ofChange groveSaysSpec)) groveSaysCard

/-- THE TIED CARD OF 'murmurlaw08.GroveClimbs'. -/
def groveClimbsCard : Claim7 := { stood := { row := groveClimbsRow, standIns := [], harness := (true, "e461e96a37d679d202d42438882b9645a646e7341c8c66d328c188606e5edf28"), looks := false }, kinds := [], alts := [], laidByText := true, laidKinds := [.data], laidTests := true, laidLooks := .later }
def GroveClimbsCardSaid : Prop := Claim7.holds Tryd.pinned (.plain (OpenSpec.ofChange groveClimbsSpec)) groveClimbsCard

/-- THE TIED CARD OF 'murmurlaw08.GroveMany'. -/
def groveManyCard : Claim7 := { stood := { row := groveManyRow, standIns := [], harness := (true, "e461e96a37d679d202d42438882b9645a646e7341c8c66d328c188606e5edf28"), looks := false }, kinds := [], alts := [], laidByText := true, laidKinds := [.data], laidTests := true, laidLooks := .later }
def GroveManyCardSaid : Prop := Claim7.holds Tryd.pinned (.plain (OpenSpec.ofChange groveManySpec)) groveManyCard

/-- THE TIED CARD OF 'murmurlaw08.GroveProves'. -/
def groveProvesCard : Claim7 := { stood := { row := groveProvesRow, standIns := [], harness := (true, "e461e96a37d679d202d42438882b9645a646e7341c8c66d328c188606e5edf28"), looks := false }, kinds := [], alts := [], laidByText := true, laidKinds := [.data], laidTests := true, laidLooks := .later }
def GroveProvesCardSaid : Prop := Claim7.holds Tryd.pinned (.plain (OpenSpec.ofChange groveProvesSpec)) groveProvesCard

/-- THE SECOND FORM's CARD OF 'murmurlaw08.GroveSays'. -/
def groveSaysUptoCard : Claim7 := { stood := { row := groveSaysUptoRow, standIns := [], harness := (true, "e461e96a37d679d202d42438882b9645a646e7341c8c66d328c188606e5edf28"), looks := false }, kinds := [], alts := [], laidByText := true, laidKinds := [.data], laidTests := true, laidLooks := .later }
def GroveSaysUptoCardSaid : Prop := Claim7.holds Tryd.pinned (.plain (OpenSpec.upto groveSaysSpec)) groveSaysUptoCard

/-- THE SECOND FORM's CARD OF 'murmurlaw08.GroveClimbs'. -/
def groveClimbsUptoCard : Claim7 := { stood := { row := groveClimbsUptoRow, standIns := [], harness := (true, "e461e96a37d679d202d42438882b9645a646e7341c8c66d328c188606e5edf28"), looks := false }, kinds := [], alts := [], laidByText := true, laidKinds := [.data], laidTests := true, laidLooks := .later }
def GroveClimbsUptoCardSaid : Prop := Claim7.holds Tryd.pinned (.plain (OpenSpec.upto groveClimbsSpec)) groveClimbsUptoCard

/-- THE SECOND FORM's CARD OF 'murmurlaw08.GroveMany'. -/
def groveManyUptoCard : Claim7 := { stood := { row := groveManyUptoRow, standIns := [], harness := (true, "e461e96a37d679d202d42438882b9645a646e7341c8c66d328c188606e5edf28"), looks := false }, kinds := [], alts := [], laidByText := true, laidKinds := [.data], laidTests := true, laidLooks := .later }
def GroveManyUptoCardSaid : Prop := Claim7.holds Tryd.pinned (.plain (OpenSpec.upto groveManySpec)) groveManyUptoCard

/-- THE SECOND FORM's CARD OF 'murmurlaw08.GroveProves'. -/
def groveProvesUptoCard : Claim7 := { stood := { row := groveProvesUptoRow, standIns := [], harness := (true, "e461e96a37d679d202d42438882b9645a646e7341c8c66d328c188606e5edf28"), looks := false }, kinds := [], alts := [], laidByText := true, laidKinds := [.data], laidTests := true, laidLooks := .later }
def GroveProvesUptoCardSaid : Prop := Claim7.holds Tryd.pinned (.plain (OpenSpec.upto groveProvesSpec)) groveProvesUptoCard
end Rows
end Go.Proofs.YtncafbejgidliaaDoor
