/-
  DERIVED. GIVEN WITH THE SEED: THE CARDS: each row of YtedgpglldlohfaaDoorRows.lean that lists a variable, with what it lists TIED to the program's text (the seventh form; the later family's looks); each row that meets fmt, with fmt's text TOLD by the authors' own Lean function (tested against real Go, not proved from fmt's source: count such statements apart). THE CARD IS WHAT COUNTS. Prove the row's statement (the work); the ties are given (YtedgpglldlohfaaDoorTie.lean); close each card by the builder's one call (the guide's Derived/Test/ToyasCard.lean, 'card_holds'). Laid BY PROGRAM, IN A SANDBOX (cutbox-door.mjs). By AI agents, Wed Nov 11 2026. No macro, syntax, notation, axiom, sorry.
-/
import Derived.Test.YtedgpglldlohfaaDoorRows
import GoSem.ClaimSeven
namespace Go.Proofs.YtedgpglldlohfaaDoor
namespace Rows

/-- THE TIED CARD OF 'murmurlaw19.LayoutWhole'. -/
def layoutWholeCard : Claim7 := { stood := { row := layoutWholeRow, standIns := [], harness := (true, "27aa1048e678648046d0924169d4069dfecca662f051b0e0bb22819f51ec35c0"), looks := false }, kinds := [], alts := [], laidByText := true, laidKinds := [.data, .data, .pinned], laidTests := true, laidLooks := .later }
def LayoutWholeCardSaid : Prop := Claim7.holds Tryd.pinned (.plain (OpenSpec.ofChange layoutWholeSpec)) layoutWholeCard

/-- THE TIED CARD OF 'murmurlaw19.LayoutNext'. -/
def layoutNextCard : Claim7 := { stood := { row := layoutNextRow, standIns := [], harness := (true, "27aa1048e678648046d0924169d4069dfecca662f051b0e0bb22819f51ec35c0"), looks := false }, kinds := [], alts := [], laidByText := true, laidKinds := [.data, .data, .pinned], laidTests := true, laidLooks := .later }
def LayoutNextCardSaid : Prop := Claim7.holds Tryd.pinned (.plain (OpenSpec.ofChange layoutNextSpec)) layoutNextCard

/-- THE TIED CARD OF 'murmurlaw19.LayoutBudgets'. -/
def layoutBudgetsCard : Claim7 := { stood := { row := layoutBudgetsRow, standIns := [], harness := (true, "27aa1048e678648046d0924169d4069dfecca662f051b0e0bb22819f51ec35c0"), looks := false }, kinds := [], alts := [], laidByText := true, laidKinds := [.data, .data, .pinned], laidTests := true, laidLooks := .later }
def LayoutBudgetsCardSaid : Prop := Claim7.holds Tryd.pinned (.plain (OpenSpec.ofChange layoutBudgetsSpec)) layoutBudgetsCard

/-- THE TIED CARD OF 'murmurlaw19.LayoutFits'. -/
def layoutFitsCard : Claim7 := { stood := { row := layoutFitsRow, standIns := [], harness := (true, "27aa1048e678648046d0924169d4069dfecca662f051b0e0bb22819f51ec35c0"), looks := false }, kinds := [], alts := [], laidByText := true, laidKinds := [.data, .data, .pinned], laidTests := true, laidLooks := .later }
def LayoutFitsCardSaid : Prop := Claim7.holds Tryd.pinned (.plain (OpenSpec.ofChange layoutFitsSpec)) layoutFitsCard

/-- THE SECOND FORM's CARD OF 'murmurlaw19.LayoutWhole'. -/
def layoutWholeUptoCard : Claim7 := { stood := { row := layoutWholeUptoRow, standIns := [], harness := (true, "27aa1048e678648046d0924169d4069dfecca662f051b0e0bb22819f51ec35c0"), looks := false }, kinds := [], alts := [], laidByText := true, laidKinds := [.data, .data, .pinned], laidTests := true, laidLooks := .later }
def LayoutWholeUptoCardSaid : Prop := Claim7.holds Tryd.pinned (.plain (OpenSpec.upto layoutWholeSpec)) layoutWholeUptoCard

/-- THE SECOND FORM's CARD OF 'murmurlaw19.LayoutNext'. -/
def layoutNextUptoCard : Claim7 := { stood := { row := layoutNextUptoRow, standIns := [], harness := (true, "27aa1048e678648046d0924169d4069dfecca662f051b0e0bb22819f51ec35c0"), looks := false }, kinds := [], alts := [], laidByText := true, laidKinds := [.data, .data, .pinned], laidTests := true, laidLooks := .later }
def LayoutNextUptoCardSaid : Prop := Claim7.holds Tryd.pinned (.plain (OpenSpec.upto layoutNextSpec)) layoutNextUptoCard

/-- THE SECOND FORM's CARD OF 'murmurlaw19.LayoutBudgets'. -/
def layoutBudgetsUptoCard : Claim7 := { stood := { row := layoutBudgetsUptoRow, standIns := [], harness := (true, "27aa1048e678648046d0924169d4069dfecca662f051b0e0bb22819f51ec35c0"), looks := false }, kinds := [], alts := [], laidByText := true, laidKinds := [.data, .data, .pinned], laidTests := true, laidLooks := .later }
def LayoutBudgetsUptoCardSaid : Prop := Claim7.holds Tryd.pinned (.plain (OpenSpec.upto layoutBudgetsSpec)) layoutBudgetsUptoCard

/-- THE SECOND FORM's CARD OF 'murmurlaw19.LayoutFits'. -/
def layoutFitsUptoCard : Claim7 := { stood := { row := layoutFitsUptoRow, standIns := [], harness := (true, "27aa1048e678648046d0924169d4069dfecca662f051b0e0bb22819f51ec35c0"), looks := false }, kinds := [], alts := [], laidByText := true, laidKinds := [.data, .data, .pinned], laidTests := true, laidLooks := .later }
def LayoutFitsUptoCardSaid : Prop := Claim7.holds Tryd.pinned (.plain (OpenSpec.upto layoutFitsSpec)) layoutFitsUptoCard
end Rows
end Go.Proofs.YtedgpglldlohfaaDoor
