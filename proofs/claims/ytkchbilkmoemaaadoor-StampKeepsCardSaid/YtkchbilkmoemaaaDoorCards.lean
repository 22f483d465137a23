/-
  DERIVED. GIVEN WITH THE SEED: THE CARDS: each row of YtkchbilkmoemaaaDoorRows.lean that lists a variable, with what it lists TIED to the program's text (the seventh form; the later family's looks); each row that meets fmt, with fmt's text TOLD by the authors' own Lean function (tested against real Go, not proved from fmt's source: count such statements apart). THE CARD IS WHAT COUNTS. Prove the row's statement (the work); the ties are given (YtkchbilkmoemaaaDoorTie.lean); close each card by the builder's one call (the guide's Derived/Test/ToyasCard.lean, 'card_holds'). Laid BY PROGRAM, IN A SANDBOX (cutbox-door.mjs). By AI agents, Wed Nov 11 2026. No macro, syntax, notation, axiom, sorry.
-/
import Derived.Test.YtkchbilkmoemaaaDoorRows
import GoSem.ClaimSeven
namespace Go.Proofs.YtkchbilkmoemaaaDoor
namespace Rows

/-- THE TIED CARD OF 'murmurlaw09.StampSigns'. -/
def stampSignsCard : Claim7 := { stood := { row := stampSignsRow, standIns := [], harness := (true, "85ad044f604d97c925f10c5e252852e508338366723ace2d7a6ca483cda26051"), looks := false }, kinds := [], alts := [], laidByText := true, laidKinds := [.data], laidTests := true, laidLooks := .later }
def StampSignsCardSaid : Prop := Claim7.holds Tryd.pinned (.plain (OpenSpec.ofChange stampSignsSpec)) stampSignsCard

/-- THE TIED CARD OF 'murmurlaw09.StampKeeps'. -/
def stampKeepsCard : Claim7 := { stood := { row := stampKeepsRow, standIns := [], harness := (true, "85ad044f604d97c925f10c5e252852e508338366723ace2d7a6ca483cda26051"), looks := false }, kinds := [], alts := [], laidByText := true, laidKinds := [.data], laidTests := true, laidLooks := .later }
def StampKeepsCardSaid : Prop := Claim7.holds Tryd.pinned (.plain (OpenSpec.ofChange stampKeepsSpec)) stampKeepsCard

/-- THE TIED CARD OF 'murmurlaw09.StampBack'. -/
def stampBackCard : Claim7 := { stood := { row := stampBackRow, standIns := [], harness := (true, "85ad044f604d97c925f10c5e252852e508338366723ace2d7a6ca483cda26051"), looks := false }, kinds := [], alts := [], laidByText := true, laidKinds := [.data], laidTests := true, laidLooks := .later }
def StampBackCardSaid : Prop := Claim7.holds Tryd.pinned (.plain (OpenSpec.ofChange stampBackSpec)) stampBackCard

/-- THE SECOND FORM's CARD OF 'murmurlaw09.StampSigns'. -/
def stampSignsUptoCard : Claim7 := { stood := { row := stampSignsUptoRow, standIns := [], harness := (true, "85ad044f604d97c925f10c5e252852e508338366723ace2d7a6ca483cda26051"), looks := false }, kinds := [], alts := [], laidByText := true, laidKinds := [.data], laidTests := true, laidLooks := .later }
def StampSignsUptoCardSaid : Prop := Claim7.holds Tryd.pinned (.plain (OpenSpec.upto stampSignsSpec)) stampSignsUptoCard

/-- THE SECOND FORM's CARD OF 'murmurlaw09.StampKeeps'. -/
def stampKeepsUptoCard : Claim7 := { stood := { row := stampKeepsUptoRow, standIns := [], harness := (true, "85ad044f604d97c925f10c5e252852e508338366723ace2d7a6ca483cda26051"), looks := false }, kinds := [], alts := [], laidByText := true, laidKinds := [.data], laidTests := true, laidLooks := .later }
def StampKeepsUptoCardSaid : Prop := Claim7.holds Tryd.pinned (.plain (OpenSpec.upto stampKeepsSpec)) stampKeepsUptoCard

/-- THE SECOND FORM's CARD OF 'murmurlaw09.StampBack'. -/
def stampBackUptoCard : Claim7 := { stood := { row := stampBackUptoRow, standIns := [], harness := (true, "85ad044f604d97c925f10c5e252852e508338366723ace2d7a6ca483cda26051"), looks := false }, kinds := [], alts := [], laidByText := true, laidKinds := [.data], laidTests := true, laidLooks := .later }
def StampBackUptoCardSaid : Prop := Claim7.holds Tryd.pinned (.plain (OpenSpec.upto stampBackSpec)) stampBackUptoCard
end Rows
end Go.Proofs.YtkchbilkmoemaaaDoor
