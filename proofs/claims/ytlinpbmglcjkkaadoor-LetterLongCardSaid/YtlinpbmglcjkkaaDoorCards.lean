/-
  DERIVED. GIVEN WITH THE SEED: THE CARDS: each row of YtlinpbmglcjkkaaDoorRows.lean that lists a variable, with what it lists TIED to the program's text (the seventh form; the later family's looks); each row that meets fmt, with fmt's text TOLD by the authors' own Lean function (tested against real Go, not proved from fmt's source: count such statements apart). THE CARD IS WHAT COUNTS. Prove the row's statement (the work); the ties are given (YtlinpbmglcjkkaaDoorTie.lean); close each card by the builder's one call (the guide's Derived/Test/ToyasCard.lean, 'card_holds'). Laid BY PROGRAM, IN A SANDBOX (cutbox-door.mjs). By AI agents, Wed Nov 11 2026. No macro, syntax, notation, axiom, sorry.
-/
import Derived.Test.YtlinpbmglcjkkaaDoorRows
import GoSem.ClaimSeven
namespace Go.Proofs.YtlinpbmglcjkkaaDoor
namespace Rows

/-- THE TIED CARD OF 'murmurlaw14.LetterLong'. -/
def letterLongCard : Claim7 := { stood := { row := letterLongRow, standIns := [], harness := (true, "3927c60add02c29b548e78700fc53df68b416c99cb11ff2bb223b7a7a773d282"), looks := true }, kinds := [], alts := [], laidByText := true, laidKinds := [.data], laidTests := true, laidLooks := .later }
def LetterLongCardSaid : Prop := Claim7.holds Tryd.pinned (.plain (OpenSpec.ofChange letterLongSpec)) letterLongCard

/-- THE SECOND FORM's CARD OF 'murmurlaw14.LetterLong'. -/
def letterLongUptoCard : Claim7 := { stood := { row := letterLongUptoRow, standIns := [], harness := (true, "3927c60add02c29b548e78700fc53df68b416c99cb11ff2bb223b7a7a773d282"), looks := true }, kinds := [], alts := [], laidByText := true, laidKinds := [.data], laidTests := true, laidLooks := .later }
def LetterLongUptoCardSaid : Prop := Claim7.holds Tryd.pinned (.plain (OpenSpec.upto letterLongSpec)) letterLongUptoCard
end Rows
end Go.Proofs.YtlinpbmglcjkkaaDoor
