/-
  DERIVED. GIVEN WITH THE SEED: THE CARDS: each row of YtjhilaiilckalaaDoorRows.lean that lists a variable, with what it lists TIED to the program's text (the seventh form; the later family's looks); each row that meets fmt, with fmt's text TOLD by the authors' own Lean function (tested against real Go, not proved from fmt's source: count such statements apart). THE CARD IS WHAT COUNTS. Prove the row's statement (the work); the ties are given (YtjhilaiilckalaaDoorTie.lean); close each card by the builder's one call (the guide's Derived/Test/ToyasCard.lean, 'card_holds'). Laid BY PROGRAM, IN A SANDBOX (cutbox-door.mjs). By AI agents, Wed Nov 11 2026. No macro, syntax, notation, axiom, sorry.
-/
import Derived.Test.YtjhilaiilckalaaDoorRows
import GoSem.ClaimSeven
namespace Go.Proofs.YtjhilaiilckalaaDoor
namespace Rows

/-- THE TIED CARD OF 'murmurlaw07.ChainsSay'. -/
def chainsSayCard : Claim7 := { stood := { row := chainsSayRow, standIns := [], harness := (true, "387d41828718d26546c47980a24cd0bb2168877b08fd8cf4419531bf44df8aa0"), looks := false }, kinds := [], alts := [], laidByText := true, laidKinds := [.data], laidTests := true, laidLooks := .later }
def ChainsSayCardSaid : Prop := Claim7.holds Tryd.pinned (.plain (OpenSpec.ofChange chainsSaySpec)) chainsSayCard

/-- THE TIED CARD OF 'murmurlaw07.ChainsFind'. -/
def chainsFindCard : Claim7 := { stood := { row := chainsFindRow, standIns := [], harness := (true, "387d41828718d26546c47980a24cd0bb2168877b08fd8cf4419531bf44df8aa0"), looks := false }, kinds := [], alts := [], laidByText := true, laidKinds := [.data], laidTests := true, laidLooks := .later }
def ChainsFindCardSaid : Prop := Claim7.holds Tryd.pinned (.plain (OpenSpec.ofChange chainsFindSpec)) chainsFindCard

/-- THE TIED CARD OF 'murmurlaw07.ChainsRun'. -/
def chainsRunCard : Claim7 := { stood := { row := chainsRunRow, standIns := [], harness := (true, "387d41828718d26546c47980a24cd0bb2168877b08fd8cf4419531bf44df8aa0"), looks := false }, kinds := [], alts := [], laidByText := true, laidKinds := [.data], laidTests := true, laidLooks := .later }
def ChainsRunCardSaid : Prop := Claim7.holds Tryd.pinned (.plain (OpenSpec.ofChange chainsRunSpec)) chainsRunCard

/-- THE TIED CARD OF 'murmurlaw07.ChainsDigits'. -/
def chainsDigitsCard : Claim7 := { stood := { row := chainsDigitsRow, standIns := [], harness := (true, "387d41828718d26546c47980a24cd0bb2168877b08fd8cf4419531bf44df8aa0"), looks := false }, kinds := [], alts := [], laidByText := true, laidKinds := [.data], laidTests := true, laidLooks := .later }
def ChainsDigitsCardSaid : Prop := Claim7.holds Tryd.pinned (.plain (OpenSpec.ofChange chainsDigitsSpec)) chainsDigitsCard

/-- THE SECOND FORM's CARD OF 'murmurlaw07.ChainsSay'. -/
def chainsSayUptoCard : Claim7 := { stood := { row := chainsSayUptoRow, standIns := [], harness := (true, "387d41828718d26546c47980a24cd0bb2168877b08fd8cf4419531bf44df8aa0"), looks := false }, kinds := [], alts := [], laidByText := true, laidKinds := [.data], laidTests := true, laidLooks := .later }
def ChainsSayUptoCardSaid : Prop := Claim7.holds Tryd.pinned (.plain (OpenSpec.upto chainsSaySpec)) chainsSayUptoCard

/-- THE SECOND FORM's CARD OF 'murmurlaw07.ChainsFind'. -/
def chainsFindUptoCard : Claim7 := { stood := { row := chainsFindUptoRow, standIns := [], harness := (true, "387d41828718d26546c47980a24cd0bb2168877b08fd8cf4419531bf44df8aa0"), looks := false }, kinds := [], alts := [], laidByText := true, laidKinds := [.data], laidTests := true, laidLooks := .later }
def ChainsFindUptoCardSaid : Prop := Claim7.holds Tryd.pinned (.plain (OpenSpec.upto chainsFindSpec)) chainsFindUptoCard

/-- THE SECOND FORM's CARD OF 'murmurlaw07.ChainsRun'. -/
def chainsRunUptoCard : Claim7 := { stood := { row := chainsRunUptoRow, standIns := [], harness := (true, "387d41828718d26546c47980a24cd0bb2168877b08fd8cf4419531bf44df8aa0"), looks := false }, kinds := [], alts := [], laidByText := true, laidKinds := [.data], laidTests := true, laidLooks := .later }
def ChainsRunUptoCardSaid : Prop := Claim7.holds Tryd.pinned (.plain (OpenSpec.upto chainsRunSpec)) chainsRunUptoCard

/-- THE SECOND FORM's CARD OF 'murmurlaw07.ChainsDigits'. -/
def chainsDigitsUptoCard : Claim7 := { stood := { row := chainsDigitsUptoRow, standIns := [], harness := (true, "387d41828718d26546c47980a24cd0bb2168877b08fd8cf4419531bf44df8aa0"), looks := false }, kinds := [], alts := [], laidByText := true, laidKinds := [.data], laidTests := true, laidLooks := .later }
def ChainsDigitsUptoCardSaid : Prop := Claim7.holds Tryd.pinned (.plain (OpenSpec.upto chainsDigitsSpec)) chainsDigitsUptoCard
end Rows
end Go.Proofs.YtjhilaiilckalaaDoor
