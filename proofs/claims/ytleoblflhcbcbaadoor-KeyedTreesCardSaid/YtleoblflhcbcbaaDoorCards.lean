/-
  DERIVED. GIVEN WITH THE SEED: THE CARDS: each row of YtleoblflhcbcbaaDoorRows.lean that lists a variable, with what it lists TIED to the program's text (the seventh form; the later family's looks); each row that meets fmt, with fmt's text TOLD by the authors' own Lean function (tested against real Go, not proved from fmt's source: count such statements apart). THE CARD IS WHAT COUNTS. Prove the row's statement (the work); the ties are given (YtleoblflhcbcbaaDoorTie.lean); close each card by the builder's one call (the guide's Derived/Test/ToyasCard.lean, 'card_holds'). Laid BY PROGRAM, IN A SANDBOX (cutbox-door.mjs). By AI agents, Wed Nov 11 2026. No macro, syntax, notation, axiom, sorry.
-/
import Derived.Test.YtleoblflhcbcbaaDoorRows
import GoSem.ClaimSeven
namespace Go.Proofs.YtleoblflhcbcbaaDoor
namespace Rows

/-- THE TIED CARD OF 'murmurlaw03.KeyedSays'. -/
def keyedSaysCard : Claim7 := { stood := { row := keyedSaysRow, standIns := [], harness := (true, "9d5aaa0f78be084984347a49a4255de9bd01b35c1b3c93759b4ebe2164fa91e7"), looks := false }, kinds := [], alts := [], laidByText := true, laidKinds := [.data], laidTests := true, laidLooks := .later }
def KeyedSaysCardSaid : Prop := Claim7.holds Tryd.pinned (.plain (OpenSpec.ofChange keyedSaysSpec)) keyedSaysCard

/-- THE TIED CARD OF 'murmurlaw03.KeyedLonger'. -/
def keyedLongerCard : Claim7 := { stood := { row := keyedLongerRow, standIns := [], harness := (true, "9d5aaa0f78be084984347a49a4255de9bd01b35c1b3c93759b4ebe2164fa91e7"), looks := false }, kinds := [], alts := [], laidByText := true, laidKinds := [.data], laidTests := true, laidLooks := .later }
def KeyedLongerCardSaid : Prop := Claim7.holds Tryd.pinned (.plain (OpenSpec.ofChange keyedLongerSpec)) keyedLongerCard

/-- THE TIED CARD OF 'murmurlaw03.KeyedTrees'. -/
def keyedTreesCard : Claim7 := { stood := { row := keyedTreesRow, standIns := [], harness := (true, "9d5aaa0f78be084984347a49a4255de9bd01b35c1b3c93759b4ebe2164fa91e7"), looks := false }, kinds := [], alts := [], laidByText := true, laidKinds := [.data], laidTests := true, laidLooks := .later }
def KeyedTreesCardSaid : Prop := Claim7.holds Tryd.pinned (.plain (OpenSpec.ofChange keyedTreesSpec)) keyedTreesCard

/-- THE TIED CARD OF 'murmurlaw03.KeyedLeaves'. -/
def keyedLeavesCard : Claim7 := { stood := { row := keyedLeavesRow, standIns := [], harness := (true, "9d5aaa0f78be084984347a49a4255de9bd01b35c1b3c93759b4ebe2164fa91e7"), looks := false }, kinds := [], alts := [], laidByText := true, laidKinds := [.data], laidTests := true, laidLooks := .later }
def KeyedLeavesCardSaid : Prop := Claim7.holds Tryd.pinned (.plain (OpenSpec.ofChange keyedLeavesSpec)) keyedLeavesCard

/-- THE SECOND FORM's CARD OF 'murmurlaw03.KeyedSays'. -/
def keyedSaysUptoCard : Claim7 := { stood := { row := keyedSaysUptoRow, standIns := [], harness := (true, "9d5aaa0f78be084984347a49a4255de9bd01b35c1b3c93759b4ebe2164fa91e7"), looks := false }, kinds := [], alts := [], laidByText := true, laidKinds := [.data], laidTests := true, laidLooks := .later }
def KeyedSaysUptoCardSaid : Prop := Claim7.holds Tryd.pinned (.plain (OpenSpec.upto keyedSaysSpec)) keyedSaysUptoCard

/-- THE SECOND FORM's CARD OF 'murmurlaw03.KeyedLonger'. -/
def keyedLongerUptoCard : Claim7 := { stood := { row := keyedLongerUptoRow, standIns := [], harness := (true, "9d5aaa0f78be084984347a49a4255de9bd01b35c1b3c93759b4ebe2164fa91e7"), looks := false }, kinds := [], alts := [], laidByText := true, laidKinds := [.data], laidTests := true, laidLooks := .later }
def KeyedLongerUptoCardSaid : Prop := Claim7.holds Tryd.pinned (.plain (OpenSpec.upto keyedLongerSpec)) keyedLongerUptoCard

/-- THE SECOND FORM's CARD OF 'murmurlaw03.KeyedTrees'. -/
def keyedTreesUptoCard : Claim7 := { stood := { row := keyedTreesUptoRow, standIns := [], harness := (true, "9d5aaa0f78be084984347a49a4255de9bd01b35c1b3c93759b4ebe2164fa91e7"), looks := false }, kinds := [], alts := [], laidByText := true, laidKinds := [.data], laidTests := true, laidLooks := .later }
def KeyedTreesUptoCardSaid : Prop := Claim7.holds Tryd.pinned (.plain (OpenSpec.upto keyedTreesSpec)) keyedTreesUptoCard

/-- THE SECOND FORM's CARD OF 'murmurlaw03.KeyedLeaves'. -/
def keyedLeavesUptoCard : Claim7 := { stood := { row := keyedLeavesUptoRow, standIns := [], harness := (true, "9d5aaa0f78be084984347a49a4255de9bd01b35c1b3c93759b4ebe2164fa91e7"), looks := false }, kinds := [], alts := [], laidByText := true, laidKinds := [.data], laidTests := true, laidLooks := .later }
def KeyedLeavesUptoCardSaid : Prop := Claim7.holds Tryd.pinned (.plain (OpenSpec.upto keyedLeavesSpec)) keyedLeavesUptoCard
end Rows
end Go.Proofs.YtleoblflhcbcbaaDoor
