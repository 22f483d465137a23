/-
  No cell of these rows narrows 'for every input' (looked for: loops, veiled, ifaces, maps, wideKeys, modest, calm, conditions, laid).
  DERIVED. THE GIVEN ROWS OF THIS SEAT. 6 by the template 'for every input the law returns true; each argument reads behind the call as it read before'; 0 by the template 'total and deterministic' (their statements: YtcglobpklhkebaaTotals.lean).
  GIVEN WITH THE SEED: the statements are not yours to turn. If you find one false, say at which input.
  Laid BY PROGRAM, IN A SANDBOX (cutbox-rows.mjs): the forced cells as the released guide's own fill.sh prints them over the translation e2304885007909ee… (all of the seat's roots in one cut). By AI agents, Wed Nov 11 2026. No macro, syntax, notation, axiom, sorry.
-/
import Derived.Test.YtcglobpklhkebaaChecked
import GoSem.Claim
import GoSem.ClaimJoined
import GoSem.ClaimMapViews
import Derived.JoinedTies
import Derived.KernelRfl
namespace Go.Proofs.Ytcglobpklhkebaa
/- THE CELL 'sum', in the pinned program and in every row, IS THE sha256 OF THE DUMP (.gsa) THAT YtcglobpklhkebaaProg.lean LOADS. Nothing in Lean hashes anything: it is a label: what it is worth is what the hold of that sum in a sandbox is worth. -/
noncomputable def Try.pinned : Pinned := { name := "ytcglobpklhkebaa", sum := "e2304885007909eeadb3d2f76344d6bc4e6cecf804d99ed6f3eb332c22da6346", checked := Try.checked }
namespace Rows
def none {H : Type} : Left H := { results := [], args := [] }

/-- 'murmurlaw05.LimbsSay': WHATEVER THE INPUT: true; the input reads as it did. -/
def limbsSaySpec : ChangeSpec := { name := "limbsSay", fn := fun _ => fun
  | [d1, d2, d3] => { results := [.lit (.bool true)], args := [d1, d2, d3] }
  | _ => none }
def limbsSayRow : OpenClaim := { program := "ytcglobpklhkebaa", sum := "e2304885007909eeadb3d2f76344d6bc4e6cecf804d99ed6f3eb332c22da6346", func := "murmur/murmurlaw05.LimbsSay", spec := "limbsSay", inPlace := ["math/bits.Add64"], apart := false }
def LimbsSaySaid : Prop := limbsSayRow.holds Try.pinned (OpenSpec.ofChange limbsSaySpec)

/-- ITS FALSE NEIGHBOUR: 'it returns false'. Refute it at one input. -/
def limbsSayWrong : ChangeSpec := { name := "limbsSay", fn := fun _ => fun
  | [d1, d2, d3] => { results := [.lit (.bool false)], args := [d1, d2, d3] }
  | _ => none }
def LimbsSayWrongFalsely : Prop := limbsSayRow.holds Try.pinned (OpenSpec.ofChange limbsSayWrong)

/-- 'murmurlaw05.LimbsPowers': WHATEVER THE INPUT: true; the input reads as it did. -/
def limbsPowersSpec : ChangeSpec := { name := "limbsPowers", fn := fun _ => fun
  | [d1, d2] => { results := [.lit (.bool true)], args := [d1, d2] }
  | _ => none }
def limbsPowersRow : OpenClaim := { program := "ytcglobpklhkebaa", sum := "e2304885007909eeadb3d2f76344d6bc4e6cecf804d99ed6f3eb332c22da6346", func := "murmur/murmurlaw05.LimbsPowers", spec := "limbsPowers", inPlace := ["math/bits.Add64"], apart := false }
def LimbsPowersSaid : Prop := limbsPowersRow.holds Try.pinned (OpenSpec.ofChange limbsPowersSpec)

/-- ITS FALSE NEIGHBOUR: 'it returns false'. Refute it at one input. -/
def limbsPowersWrong : ChangeSpec := { name := "limbsPowers", fn := fun _ => fun
  | [d1, d2] => { results := [.lit (.bool false)], args := [d1, d2] }
  | _ => none }
def LimbsPowersWrongFalsely : Prop := limbsPowersRow.holds Try.pinned (OpenSpec.ofChange limbsPowersWrong)

/-- 'murmurlaw06.LadderSays': WHATEVER THE INPUT: true; the input reads as it did. -/
def ladderSaysSpec : ChangeSpec := { name := "ladderSays", fn := fun _ => fun
  | [d1, d2] => { results := [.lit (.bool true)], args := [d1, d2] }
  | _ => none }
def ladderSaysRow : OpenClaim := { program := "ytcglobpklhkebaa", sum := "e2304885007909eeadb3d2f76344d6bc4e6cecf804d99ed6f3eb332c22da6346", func := "murmur/murmurlaw06.LadderSays", spec := "ladderSays", inPlace := ["math/bits.Add64"], apart := false }
def LadderSaysSaid : Prop := ladderSaysRow.holds Try.pinned (OpenSpec.ofChange ladderSaysSpec)

/-- ITS FALSE NEIGHBOUR: 'it returns false'. Refute it at one input. -/
def ladderSaysWrong : ChangeSpec := { name := "ladderSays", fn := fun _ => fun
  | [d1, d2] => { results := [.lit (.bool false)], args := [d1, d2] }
  | _ => none }
def LadderSaysWrongFalsely : Prop := ladderSaysRow.holds Try.pinned (OpenSpec.ofChange ladderSaysWrong)

/-- 'murmurlaw06.LadderPublic': WHATEVER THE INPUT: true; the input reads as it did. -/
def ladderPublicSpec : ChangeSpec := { name := "ladderPublic", fn := fun _ => fun
  | [d] => { results := [.lit (.bool true)], args := [d] }
  | _ => none }
def ladderPublicRow : OpenClaim := { program := "ytcglobpklhkebaa", sum := "e2304885007909eeadb3d2f76344d6bc4e6cecf804d99ed6f3eb332c22da6346", func := "murmur/murmurlaw06.LadderPublic", spec := "ladderPublic", inPlace := ["math/bits.Add64"], apart := false }
def LadderPublicSaid : Prop := ladderPublicRow.holds Try.pinned (OpenSpec.ofChange ladderPublicSpec)

/-- ITS FALSE NEIGHBOUR: 'it returns false'. Refute it at one input. -/
def ladderPublicWrong : ChangeSpec := { name := "ladderPublic", fn := fun _ => fun
  | [d] => { results := [.lit (.bool false)], args := [d] }
  | _ => none }
def LadderPublicWrongFalsely : Prop := ladderPublicRow.holds Try.pinned (OpenSpec.ofChange ladderPublicWrong)

/-- 'murmurlaw06.LadderClamped': WHATEVER THE INPUT: true; the input reads as it did. -/
def ladderClampedSpec : ChangeSpec := { name := "ladderClamped", fn := fun _ => fun
  | [d1, d2] => { results := [.lit (.bool true)], args := [d1, d2] }
  | _ => none }
def ladderClampedRow : OpenClaim := { program := "ytcglobpklhkebaa", sum := "e2304885007909eeadb3d2f76344d6bc4e6cecf804d99ed6f3eb332c22da6346", func := "murmur/murmurlaw06.LadderClamped", spec := "ladderClamped", inPlace := ["math/bits.Add64"], apart := false }
def LadderClampedSaid : Prop := ladderClampedRow.holds Try.pinned (OpenSpec.ofChange ladderClampedSpec)

/-- ITS FALSE NEIGHBOUR: 'it returns false'. Refute it at one input. -/
def ladderClampedWrong : ChangeSpec := { name := "ladderClamped", fn := fun _ => fun
  | [d1, d2] => { results := [.lit (.bool false)], args := [d1, d2] }
  | _ => none }
def LadderClampedWrongFalsely : Prop := ladderClampedRow.holds Try.pinned (OpenSpec.ofChange ladderClampedWrong)

/-- 'murmurlaw06.LadderWeak': WHATEVER THE INPUT: true; the input reads as it did. -/
def ladderWeakSpec : ChangeSpec := { name := "ladderWeak", fn := fun _ => fun
  | [d1, d2] => { results := [.lit (.bool true)], args := [d1, d2] }
  | _ => none }
def ladderWeakRow : OpenClaim := { program := "ytcglobpklhkebaa", sum := "e2304885007909eeadb3d2f76344d6bc4e6cecf804d99ed6f3eb332c22da6346", func := "murmur/murmurlaw06.LadderWeak", spec := "ladderWeak", inPlace := ["math/bits.Add64"], apart := false }
def LadderWeakSaid : Prop := ladderWeakRow.holds Try.pinned (OpenSpec.ofChange ladderWeakSpec)

/-- ITS FALSE NEIGHBOUR: 'it returns false'. Refute it at one input. -/
def ladderWeakWrong : ChangeSpec := { name := "ladderWeak", fn := fun _ => fun
  | [d1, d2] => { results := [.lit (.bool false)], args := [d1, d2] }
  | _ => none }
def LadderWeakWrongFalsely : Prop := ladderWeakRow.holds Try.pinned (OpenSpec.ofChange ladderWeakWrong)

/- THE SECOND FORM. 'bulk': how many values and letters a reading holds, each counted each time it is reached (what is shared counts as often as it is met; a slice's spare places count too). A statement '..UptoSaid' is the law's where the arguments, and the package variables that the reading takes, are together of bulk at most 1048576: NARROWER than '..Said'. Prove '..Said' where nothing that the law and all that it calls make is longer than what came in: it says more and counts as full. Else prove '..UptoSaid'. A law counts once. -/
mutual
def uptoBulk {H : Type} : DataW H → Nat
  | .lit (.string bytes) => bytes.length + 1
  | .lit _ => 1
  | .nil => 1
  | .ptr d => uptoBulk d + 1
  | .slice elems spare => uptoBulkAll elems + uptoBulkAll spare + 1
  | .agg parts => uptoBulkAll parts + 1
  | .iface _ d => uptoBulk d + 1
  | .map entries => uptoBulkEntries entries + 1
  | .held _ => 1
def uptoBulkAll {H : Type} : List (DataW H) → Nat
  | [] => 0
  | d :: r => uptoBulk d + uptoBulkAll r
def uptoBulkEntries {H : Type} : List (Lit × DataW H) → Nat
  | [] => 0
  | x :: r => uptoBulkEntry x + uptoBulkEntries r
def uptoBulkEntry {H : Type} : Lit × DataW H → Nat
  | (.string bytes, d) => bytes.length + uptoBulk d + 1
  | (_, d) => uptoBulk d + 1
 end
def uptoSmall : (H : Type) → List (DataW H) → Bool := fun _ ds => decide (uptoBulkAll ds ≤ 1048576)
def OpenSpec.upto (s : _root_.Go.ChangeSpec) : _root_.Go.OpenSpec := { _root_.Go.OpenSpec.ofChange s with cond := some uptoSmall }

/-- 'murmurlaw05.LimbsSay', WHERE WHAT IT READS IS OF BULK AT MOST 1048576: true; the input reads as it did. -/
def limbsSayUptoRow : OpenClaim := { program := "ytcglobpklhkebaa", sum := "e2304885007909eeadb3d2f76344d6bc4e6cecf804d99ed6f3eb332c22da6346", func := "murmur/murmurlaw05.LimbsSay", spec := "limbsSay", inPlace := ["math/bits.Add64"], apart := false, narrowed := true }
def LimbsSayUptoSaid : Prop := limbsSayUptoRow.holds Try.pinned (OpenSpec.upto limbsSaySpec)

/-- 'murmurlaw05.LimbsPowers', WHERE WHAT IT READS IS OF BULK AT MOST 1048576: true; the input reads as it did. -/
def limbsPowersUptoRow : OpenClaim := { program := "ytcglobpklhkebaa", sum := "e2304885007909eeadb3d2f76344d6bc4e6cecf804d99ed6f3eb332c22da6346", func := "murmur/murmurlaw05.LimbsPowers", spec := "limbsPowers", inPlace := ["math/bits.Add64"], apart := false, narrowed := true }
def LimbsPowersUptoSaid : Prop := limbsPowersUptoRow.holds Try.pinned (OpenSpec.upto limbsPowersSpec)

/-- 'murmurlaw06.LadderSays', WHERE WHAT IT READS IS OF BULK AT MOST 1048576: true; the input reads as it did. -/
def ladderSaysUptoRow : OpenClaim := { program := "ytcglobpklhkebaa", sum := "e2304885007909eeadb3d2f76344d6bc4e6cecf804d99ed6f3eb332c22da6346", func := "murmur/murmurlaw06.LadderSays", spec := "ladderSays", inPlace := ["math/bits.Add64"], apart := false, narrowed := true }
def LadderSaysUptoSaid : Prop := ladderSaysUptoRow.holds Try.pinned (OpenSpec.upto ladderSaysSpec)

/-- 'murmurlaw06.LadderPublic', WHERE WHAT IT READS IS OF BULK AT MOST 1048576: true; the input reads as it did. -/
def ladderPublicUptoRow : OpenClaim := { program := "ytcglobpklhkebaa", sum := "e2304885007909eeadb3d2f76344d6bc4e6cecf804d99ed6f3eb332c22da6346", func := "murmur/murmurlaw06.LadderPublic", spec := "ladderPublic", inPlace := ["math/bits.Add64"], apart := false, narrowed := true }
def LadderPublicUptoSaid : Prop := ladderPublicUptoRow.holds Try.pinned (OpenSpec.upto ladderPublicSpec)

/-- 'murmurlaw06.LadderClamped', WHERE WHAT IT READS IS OF BULK AT MOST 1048576: true; the input reads as it did. -/
def ladderClampedUptoRow : OpenClaim := { program := "ytcglobpklhkebaa", sum := "e2304885007909eeadb3d2f76344d6bc4e6cecf804d99ed6f3eb332c22da6346", func := "murmur/murmurlaw06.LadderClamped", spec := "ladderClamped", inPlace := ["math/bits.Add64"], apart := false, narrowed := true }
def LadderClampedUptoSaid : Prop := ladderClampedUptoRow.holds Try.pinned (OpenSpec.upto ladderClampedSpec)

/-- 'murmurlaw06.LadderWeak', WHERE WHAT IT READS IS OF BULK AT MOST 1048576: true; the input reads as it did. -/
def ladderWeakUptoRow : OpenClaim := { program := "ytcglobpklhkebaa", sum := "e2304885007909eeadb3d2f76344d6bc4e6cecf804d99ed6f3eb332c22da6346", func := "murmur/murmurlaw06.LadderWeak", spec := "ladderWeak", inPlace := ["math/bits.Add64"], apart := false, narrowed := true }
def LadderWeakUptoSaid : Prop := ladderWeakUptoRow.holds Try.pinned (OpenSpec.upto ladderWeakSpec)

end Rows
end Go.Proofs.Ytcglobpklhkebaa
