/-
  No cell of these rows narrows 'for every input' (looked for: loops, veiled, ifaces, maps, wideKeys, modest, calm, conditions, laid).
  DERIVED. THE GIVEN ROWS OF THIS SEAT. 5 by the template 'for every input the law returns true; each argument reads behind the call as it read before'; 0 by the template 'total and deterministic' (their statements: YtblheplpaiokkabTotals.lean).
  GIVEN WITH THE SEED: the statements are not yours to turn. If you find one false, say at which input.
  Laid BY PROGRAM, IN A SANDBOX (cutbox-rows.mjs): the forced cells as the released guide's own fill.sh prints them over the translation 11701912966ec970… (all of the seat's roots in one cut). By AI agents, Wed Nov 11 2026. No macro, syntax, notation, axiom, sorry.
-/
import Derived.Test.YtblheplpaiokkabChecked
import GoSem.Claim
import GoSem.ClaimJoined
import GoSem.ClaimMapViews
import Derived.JoinedTies
import Derived.KernelRfl
namespace Go.Proofs.Ytblheplpaiokkab
/- THE CELL 'sum', in the pinned program and in every row, IS THE sha256 OF THE DUMP (.gsa) THAT YtblheplpaiokkabProg.lean LOADS. Nothing in Lean hashes anything: it is a label: what it is worth is what the hold of that sum in a sandbox is worth. -/
noncomputable def Try.pinned : Pinned := { name := "ytblheplpaiokkab", sum := "11701912966ec970f22bcb9b489fb33bdf173e6a742637bac6cfe9a35858ea8d", checked := Try.checked }
namespace Rows
def none {H : Type} : Left H := { results := [], args := [] }

/-- 'murmurlaw05.LimbsRing': WHATEVER THE INPUT: true; the input reads as it did. -/
def limbsRingSpec : ChangeSpec := { name := "limbsRing", fn := fun _ => fun
  | [d1, d2, d3] => { results := [.lit (.bool true)], args := [d1, d2, d3] }
  | _ => none }
def limbsRingRow : OpenClaim := { program := "ytblheplpaiokkab", sum := "11701912966ec970f22bcb9b489fb33bdf173e6a742637bac6cfe9a35858ea8d", func := "murmur/murmurlaw05.LimbsRing", spec := "limbsRing", inPlace := ["math/bits.Add64"], apart := false }
def LimbsRingSaid : Prop := limbsRingRow.holds Try.pinned (OpenSpec.ofChange limbsRingSpec)

/-- ITS FALSE NEIGHBOUR: 'it returns false'. Refute it at one input. -/
def limbsRingWrong : ChangeSpec := { name := "limbsRing", fn := fun _ => fun
  | [d1, d2, d3] => { results := [.lit (.bool false)], args := [d1, d2, d3] }
  | _ => none }
def LimbsRingWrongFalsely : Prop := limbsRingRow.holds Try.pinned (OpenSpec.ofChange limbsRingWrong)

/-- 'murmurlaw05.LimbsInverse': WHATEVER THE INPUT: true; the input reads as it did. -/
def limbsInverseSpec : ChangeSpec := { name := "limbsInverse", fn := fun _ => fun
  | [d] => { results := [.lit (.bool true)], args := [d] }
  | _ => none }
def limbsInverseRow : OpenClaim := { program := "ytblheplpaiokkab", sum := "11701912966ec970f22bcb9b489fb33bdf173e6a742637bac6cfe9a35858ea8d", func := "murmur/murmurlaw05.LimbsInverse", spec := "limbsInverse", inPlace := ["math/bits.Add64"], apart := false }
def LimbsInverseSaid : Prop := limbsInverseRow.holds Try.pinned (OpenSpec.ofChange limbsInverseSpec)

/-- ITS FALSE NEIGHBOUR: 'it returns false'. Refute it at one input. -/
def limbsInverseWrong : ChangeSpec := { name := "limbsInverse", fn := fun _ => fun
  | [d] => { results := [.lit (.bool false)], args := [d] }
  | _ => none }
def LimbsInverseWrongFalsely : Prop := limbsInverseRow.holds Try.pinned (OpenSpec.ofChange limbsInverseWrong)

/-- 'murmurlaw05.LimbsBack': WHATEVER THE INPUT: true; the input reads as it did. -/
def limbsBackSpec : ChangeSpec := { name := "limbsBack", fn := fun _ => fun
  | [d1, d2] => { results := [.lit (.bool true)], args := [d1, d2] }
  | _ => none }
def limbsBackRow : OpenClaim := { program := "ytblheplpaiokkab", sum := "11701912966ec970f22bcb9b489fb33bdf173e6a742637bac6cfe9a35858ea8d", func := "murmur/murmurlaw05.LimbsBack", spec := "limbsBack", inPlace := ["math/bits.Add64"], apart := false }
def LimbsBackSaid : Prop := limbsBackRow.holds Try.pinned (OpenSpec.ofChange limbsBackSpec)

/-- ITS FALSE NEIGHBOUR: 'it returns false'. Refute it at one input. -/
def limbsBackWrong : ChangeSpec := { name := "limbsBack", fn := fun _ => fun
  | [d1, d2] => { results := [.lit (.bool false)], args := [d1, d2] }
  | _ => none }
def LimbsBackWrongFalsely : Prop := limbsBackRow.holds Try.pinned (OpenSpec.ofChange limbsBackWrong)

/-- 'murmurlaw05.LimbsPowers': WHATEVER THE INPUT: true; the input reads as it did. -/
def limbsPowersSpec : ChangeSpec := { name := "limbsPowers", fn := fun _ => fun
  | [d1, d2] => { results := [.lit (.bool true)], args := [d1, d2] }
  | _ => none }
def limbsPowersRow : OpenClaim := { program := "ytblheplpaiokkab", sum := "11701912966ec970f22bcb9b489fb33bdf173e6a742637bac6cfe9a35858ea8d", func := "murmur/murmurlaw05.LimbsPowers", spec := "limbsPowers", inPlace := ["math/bits.Add64"], apart := false }
def LimbsPowersSaid : Prop := limbsPowersRow.holds Try.pinned (OpenSpec.ofChange limbsPowersSpec)

/-- ITS FALSE NEIGHBOUR: 'it returns false'. Refute it at one input. -/
def limbsPowersWrong : ChangeSpec := { name := "limbsPowers", fn := fun _ => fun
  | [d1, d2] => { results := [.lit (.bool false)], args := [d1, d2] }
  | _ => none }
def LimbsPowersWrongFalsely : Prop := limbsPowersRow.holds Try.pinned (OpenSpec.ofChange limbsPowersWrong)

/-- 'murmurlaw05.LimbsRoots': WHATEVER THE INPUT: true; the input reads as it did. -/
def limbsRootsSpec : ChangeSpec := { name := "limbsRoots", fn := fun _ => fun
  | [d1, d2] => { results := [.lit (.bool true)], args := [d1, d2] }
  | _ => none }
def limbsRootsRow : OpenClaim := { program := "ytblheplpaiokkab", sum := "11701912966ec970f22bcb9b489fb33bdf173e6a742637bac6cfe9a35858ea8d", func := "murmur/murmurlaw05.LimbsRoots", spec := "limbsRoots", inPlace := ["math/bits.Add64"], apart := false }
def LimbsRootsSaid : Prop := limbsRootsRow.holds Try.pinned (OpenSpec.ofChange limbsRootsSpec)

/-- ITS FALSE NEIGHBOUR: 'it returns false'. Refute it at one input. -/
def limbsRootsWrong : ChangeSpec := { name := "limbsRoots", fn := fun _ => fun
  | [d1, d2] => { results := [.lit (.bool false)], args := [d1, d2] }
  | _ => none }
def LimbsRootsWrongFalsely : Prop := limbsRootsRow.holds Try.pinned (OpenSpec.ofChange limbsRootsWrong)

/- THE SECOND FORM. 'bulk': how many values and letters a reading holds, each counted each time it is reached (what is shared counts as often as it is met; a slice's spare places count too). A statement '..UptoSaid' is the law's where the arguments, and the package variables that the reading takes, are together of bulk at most 1048576: NARROWER than '..Said'. Prove '..Said' where nothing that the law and all that it calls make is longer than what came in: it says more and counts as full. Else prove '..UptoSaid'. A law counts once. -/
mutual
def uptoBulk {H : Type} : DataW H → Nat
  | .lit (.string bytes) => bytes.length + 1
  | .lit _ => 1
  | .nil => 1
  | .ptr d => uptoBulk d + 1
  | .slice elems spare => uptoBulkAll elems + uptoBulkAll spare + 1
  | .agg parts => uptoBulkAll parts + 1
  | .iface _ d => uptoBulk d + 1
  | .map entries => uptoBulkEntries entries + 1
  | .held _ => 1
def uptoBulkAll {H : Type} : List (DataW H) → Nat
  | [] => 0
  | d :: r => uptoBulk d + uptoBulkAll r
def uptoBulkEntries {H : Type} : List (Lit × DataW H) → Nat
  | [] => 0
  | x :: r => uptoBulkEntry x + uptoBulkEntries r
def uptoBulkEntry {H : Type} : Lit × DataW H → Nat
  | (.string bytes, d) => bytes.length + uptoBulk d + 1
  | (_, d) => uptoBulk d + 1
 end
def uptoSmall : (H : Type) → List (DataW H) → Bool := fun _ ds => decide (uptoBulkAll ds ≤ 1048576)
def OpenSpec.upto (s : _root_.Go.ChangeSpec) : _root_.Go.OpenSpec := { _root_.Go.OpenSpec.ofChange s with cond := some uptoSmall }

/-- 'murmurlaw05.LimbsRing', WHERE WHAT IT READS IS OF BULK AT MOST 1048576: true; the input reads as it did. -/
def limbsRingUptoRow : OpenClaim := { program := "ytblheplpaiokkab", sum := "11701912966ec970f22bcb9b489fb33bdf173e6a742637bac6cfe9a35858ea8d", func := "murmur/murmurlaw05.LimbsRing", spec := "limbsRing", inPlace := ["math/bits.Add64"], apart := false, narrowed := true }
def LimbsRingUptoSaid : Prop := limbsRingUptoRow.holds Try.pinned (OpenSpec.upto limbsRingSpec)

/-- 'murmurlaw05.LimbsInverse', WHERE WHAT IT READS IS OF BULK AT MOST 1048576: true; the input reads as it did. -/
def limbsInverseUptoRow : OpenClaim := { program := "ytblheplpaiokkab", sum := "11701912966ec970f22bcb9b489fb33bdf173e6a742637bac6cfe9a35858ea8d", func := "murmur/murmurlaw05.LimbsInverse", spec := "limbsInverse", inPlace := ["math/bits.Add64"], apart := false, narrowed := true }
def LimbsInverseUptoSaid : Prop := limbsInverseUptoRow.holds Try.pinned (OpenSpec.upto limbsInverseSpec)

/-- 'murmurlaw05.LimbsBack', WHERE WHAT IT READS IS OF BULK AT MOST 1048576: true; the input reads as it did. -/
def limbsBackUptoRow : OpenClaim := { program := "ytblheplpaiokkab", sum := "11701912966ec970f22bcb9b489fb33bdf173e6a742637bac6cfe9a35858ea8d", func := "murmur/murmurlaw05.LimbsBack", spec := "limbsBack", inPlace := ["math/bits.Add64"], apart := false, narrowed := true }
def LimbsBackUptoSaid : Prop := limbsBackUptoRow.holds Try.pinned (OpenSpec.upto limbsBackSpec)

/-- 'murmurlaw05.LimbsPowers', WHERE WHAT IT READS IS OF BULK AT MOST 1048576: true; the input reads as it did. -/
def limbsPowersUptoRow : OpenClaim := { program := "ytblheplpaiokkab", sum := "11701912966ec970f22bcb9b489fb33bdf173e6a742637bac6cfe9a35858ea8d", func := "murmur/murmurlaw05.LimbsPowers", spec := "limbsPowers", inPlace := ["math/bits.Add64"], apart := false, narrowed := true }
def LimbsPowersUptoSaid : Prop := limbsPowersUptoRow.holds Try.pinned (OpenSpec.upto limbsPowersSpec)

/-- 'murmurlaw05.LimbsRoots', WHERE WHAT IT READS IS OF BULK AT MOST 1048576: true; the input reads as it did. -/
def limbsRootsUptoRow : OpenClaim := { program := "ytblheplpaiokkab", sum := "11701912966ec970f22bcb9b489fb33bdf173e6a742637bac6cfe9a35858ea8d", func := "murmur/murmurlaw05.LimbsRoots", spec := "limbsRoots", inPlace := ["math/bits.Add64"], apart := false, narrowed := true }
def LimbsRootsUptoSaid : Prop := limbsRootsUptoRow.holds Try.pinned (OpenSpec.upto limbsRootsSpec)

end Rows
end Go.Proofs.Ytblheplpaiokkab
