/-
  DERIVED. GIVEN WITH THE SEED: THE CARDS: each row of YthlhhmhldpmpiaaDoorRows.lean that lists a variable, with what it lists TIED to the program's text (the seventh form; the later family's looks); each row that meets fmt, with fmt's text TOLD by the authors' own Lean function (tested against real Go, not proved from fmt's source: count such statements apart). THE CARD IS WHAT COUNTS. Prove the row's statement (the work); the ties are given (YthlhhmhldpmpiaaDoorTie.lean); close each card by the builder's one call (the guide's Derived/Test/ToyasCard.lean, 'card_holds'). Laid BY PROGRAM, IN A SANDBOX (cutbox-door.mjs). By AI agents, Wed Nov 11 2026. No macro, syntax, notation, axiom, sorry.
-/
import Derived.Test.YthlhhmhldpmpiaaDoorRows
import GoSem.ClaimSeven
namespace Go.Proofs.YthlhhmhldpmpiaaDoor
namespace Rows

/-- THE TIED CARD OF 'murmurlaw11.PhraseSays'. -/
def phraseSaysCard : Claim7 := { stood := { row := phraseSaysRow, standIns := [], harness := (true, "8bfeb69a0424d41ab01408f356a74323a2eca2c49d019f5b9b45cecabbca4347"), looks := false }, kinds := [], alts := [], laidByText := true, laidKinds := [.data, .pinned], laidTests := true, laidLooks := .later }
def PhraseSaysCardSaid : Prop := Claim7.holds Tryd.pinned (.plain (OpenSpec.ofChange phraseSaysSpec)) phraseSaysCard

/-- THE TIED CARD OF 'murmurlaw11.PhraseOrders'. -/
def phraseOrdersCard : Claim7 := { stood := { row := phraseOrdersRow, standIns := [], harness := (true, "8bfeb69a0424d41ab01408f356a74323a2eca2c49d019f5b9b45cecabbca4347"), looks := false }, kinds := [], alts := [], laidByText := true, laidKinds := [.data, .pinned], laidTests := true, laidLooks := .later }
def PhraseOrdersCardSaid : Prop := Claim7.holds Tryd.pinned (.plain (OpenSpec.ofChange phraseOrdersSpec)) phraseOrdersCard

/-- THE TIED CARD OF 'murmurlaw11.PhraseOrder'. -/
def phraseOrderCard : Claim7 := { stood := { row := phraseOrderRow, standIns := [], harness := (true, "8bfeb69a0424d41ab01408f356a74323a2eca2c49d019f5b9b45cecabbca4347"), looks := false }, kinds := [], alts := [], laidByText := true, laidKinds := [.data, .pinned], laidTests := true, laidLooks := .later }
def PhraseOrderCardSaid : Prop := Claim7.holds Tryd.pinned (.plain (OpenSpec.ofChange phraseOrderSpec)) phraseOrderCard

/-- THE TIED CARD OF 'murmurlaw11.PhraseWraps'. -/
def phraseWrapsCard : Claim7 := { stood := { row := phraseWrapsRow, standIns := [], harness := (true, "8bfeb69a0424d41ab01408f356a74323a2eca2c49d019f5b9b45cecabbca4347"), looks := false }, kinds := [], alts := [], laidByText := true, laidKinds := [.data, .pinned], laidTests := true, laidLooks := .later }
def PhraseWrapsCardSaid : Prop := Claim7.holds Tryd.pinned (.plain (OpenSpec.ofChange phraseWrapsSpec)) phraseWrapsCard

/-- THE TIED CARD OF 'murmurlaw11.PhraseBack'. -/
def phraseBackCard : Claim7 := { stood := { row := phraseBackRow, standIns := [], harness := (true, "8bfeb69a0424d41ab01408f356a74323a2eca2c49d019f5b9b45cecabbca4347"), looks := false }, kinds := [], alts := [], laidByText := true, laidKinds := [.data, .pinned], laidTests := true, laidLooks := .later }
def PhraseBackCardSaid : Prop := Claim7.holds Tryd.pinned (.plain (OpenSpec.ofChange phraseBackSpec)) phraseBackCard

/-- THE TIED CARD OF 'murmurlaw11.PhraseCut'. -/
def phraseCutCard : Claim7 := { stood := { row := phraseCutRow, standIns := [], harness := (true, "8bfeb69a0424d41ab01408f356a74323a2eca2c49d019f5b9b45cecabbca4347"), looks := false }, kinds := [], alts := [], laidByText := true, laidKinds := [.data, .pinned], laidTests := true, laidLooks := .later }
def PhraseCutCardSaid : Prop := Claim7.holds Tryd.pinned (.plain (OpenSpec.ofChange phraseCutSpec)) phraseCutCard

/-- THE SECOND FORM's CARD OF 'murmurlaw11.PhraseSays'. -/
def phraseSaysUptoCard : Claim7 := { stood := { row := phraseSaysUptoRow, standIns := [], harness := (true, "8bfeb69a0424d41ab01408f356a74323a2eca2c49d019f5b9b45cecabbca4347"), looks := false }, kinds := [], alts := [], laidByText := true, laidKinds := [.data, .pinned], laidTests := true, laidLooks := .later }
def PhraseSaysUptoCardSaid : Prop := Claim7.holds Tryd.pinned (.plain (OpenSpec.upto phraseSaysSpec)) phraseSaysUptoCard

/-- THE SECOND FORM's CARD OF 'murmurlaw11.PhraseOrders'. -/
def phraseOrdersUptoCard : Claim7 := { stood := { row := phraseOrdersUptoRow, standIns := [], harness := (true, "8bfeb69a0424d41ab01408f356a74323a2eca2c49d019f5b9b45cecabbca4347"), looks := false }, kinds := [], alts := [], laidByText := true, laidKinds := [.data, .pinned], laidTests := true, laidLooks := .later }
def PhraseOrdersUptoCardSaid : Prop := Claim7.holds Tryd.pinned (.plain (OpenSpec.upto phraseOrdersSpec)) phraseOrdersUptoCard

/-- THE SECOND FORM's CARD OF 'murmurlaw11.PhraseOrder'. -/
def phraseOrderUptoCard : Claim7 := { stood := { row := phraseOrderUptoRow, standIns := [], harness := (true, "8bfeb69a0424d41ab01408f356a74323a2eca2c49d019f5b9b45cecabbca4347"), looks := false }, kinds := [], alts := [], laidByText := true, laidKinds := [.data, .pinned], laidTests := true, laidLooks := .later }
def PhraseOrderUptoCardSaid : Prop := Claim7.holds Tryd.pinned (.plain (OpenSpec.upto phraseOrderSpec)) phraseOrderUptoCard

/-- THE SECOND FORM's CARD OF 'murmurlaw11.PhraseWraps'. -/
def phraseWrapsUptoCard : Claim7 := { stood := { row := phraseWrapsUptoRow, standIns := [], harness := (true, "8bfeb69a0424d41ab01408f356a74323a2eca2c49d019f5b9b45cecabbca4347"), looks := false }, kinds := [], alts := [], laidByText := true, laidKinds := [.data, .pinned], laidTests := true, laidLooks := .later }
def PhraseWrapsUptoCardSaid : Prop := Claim7.holds Tryd.pinned (.plain (OpenSpec.upto phraseWrapsSpec)) phraseWrapsUptoCard

/-- THE SECOND FORM's CARD OF 'murmurlaw11.PhraseBack'. -/
def phraseBackUptoCard : Claim7 := { stood := { row := phraseBackUptoRow, standIns := [], harness := (true, "8bfeb69a0424d41ab01408f356a74323a2eca2c49d019f5b9b45cecabbca4347"), looks := false }, kinds := [], alts := [], laidByText := true, laidKinds := [.data, .pinned], laidTests := true, laidLooks := .later }
def PhraseBackUptoCardSaid : Prop := Claim7.holds Tryd.pinned (.plain (OpenSpec.upto phraseBackSpec)) phraseBackUptoCard

/-- THE SECOND FORM's CARD OF 'murmurlaw11.PhraseCut'. -/
def phraseCutUptoCard : Claim7 := { stood := { row := phraseCutUptoRow, standIns := [], harness := (true, "8bfeb69a0424d41ab01408f356a74323a2eca2c49d019f5b9b45cecabbca4347"), looks := false }, kinds := [], alts := [], laidByText := true, laidKinds := [.data, .pinned], laidTests := true, laidLooks := .later }
def PhraseCutUptoCardSaid : Prop := Claim7.holds Tryd.pinned (.plain (OpenSpec.upto phraseCutSpec)) phraseCutUptoCard
end Rows
end Go.Proofs.YthlhhmhldpmpiaaDoor
