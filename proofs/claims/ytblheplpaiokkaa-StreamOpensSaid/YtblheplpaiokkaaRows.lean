/-
  No cell of these rows narrows 'for every input' (looked for: loops, veiled, ifaces, maps, wideKeys, modest, calm, conditions, laid).
  DERIVED. THE GIVEN ROWS OF THIS SEAT. 6 by the template 'for every input the law returns true; each argument reads behind the call as it read before'; 0 by the template 'total and deterministic' (their statements: YtblheplpaiokkaaTotals.lean).
  GIVEN WITH THE SEED: the statements are not yours to turn. If you find one false, say at which input.
  Laid BY PROGRAM, IN A SANDBOX (cutbox-rows.mjs): the forced cells as the released guide's own fill.sh prints them over the translation 0bb951dffce68b5d… (all of the seat's roots in one cut). By AI agents, Wed Nov 11 2026. No macro, syntax, notation, axiom, sorry.
-/
import Derived.Test.YtblheplpaiokkaaChecked
import GoSem.Claim
import GoSem.ClaimJoined
import GoSem.ClaimMapViews
import Derived.JoinedTies
import Derived.KernelRfl
namespace Go.Proofs.Ytblheplpaiokkaa
/- THE CELL 'sum', in the pinned program and in every row, IS THE sha256 OF THE DUMP (.gsa) THAT YtblheplpaiokkaaProg.lean LOADS. Nothing in Lean hashes anything: it is a label: what it is worth is what the hold of that sum in a sandbox is worth. -/
noncomputable def Try.pinned : Pinned := { name := "ytblheplpaiokkaa", sum := "0bb951dffce68b5d900468a57d1f139782d04e43dff6bb3cbbace314b4d7421d", checked := Try.checked }
namespace Rows
def none {H : Type} : Left H := { results := [], args := [] }

/-- 'murmurlaw04.StreamSays': WHATEVER THE INPUT: true; the input reads as it did. -/
def streamSaysSpec : ChangeSpec := { name := "streamSays", fn := fun _ => fun
  | [d1, d2, d3] => { results := [.lit (.bool true)], args := [d1, d2, d3] }
  | _ => none }
def streamSaysRow : OpenClaim := { program := "ytblheplpaiokkaa", sum := "0bb951dffce68b5d900468a57d1f139782d04e43dff6bb3cbbace314b4d7421d", func := "murmur/murmurlaw04.StreamSays", spec := "streamSays", apart := false }
def StreamSaysSaid : Prop := streamSaysRow.holds Try.pinned (OpenSpec.ofChange streamSaysSpec)

/-- ITS FALSE NEIGHBOUR: 'it returns false'. Refute it at one input. -/
def streamSaysWrong : ChangeSpec := { name := "streamSays", fn := fun _ => fun
  | [d1, d2, d3] => { results := [.lit (.bool false)], args := [d1, d2, d3] }
  | _ => none }
def StreamSaysWrongFalsely : Prop := streamSaysRow.holds Try.pinned (OpenSpec.ofChange streamSaysWrong)

/-- 'murmurlaw04.StreamTwice': WHATEVER THE INPUT: true; the input reads as it did. -/
def streamTwiceSpec : ChangeSpec := { name := "streamTwice", fn := fun _ => fun
  | [d1, d2] => { results := [.lit (.bool true)], args := [d1, d2] }
  | _ => none }
def streamTwiceRow : OpenClaim := { program := "ytblheplpaiokkaa", sum := "0bb951dffce68b5d900468a57d1f139782d04e43dff6bb3cbbace314b4d7421d", func := "murmur/murmurlaw04.StreamTwice", spec := "streamTwice", apart := false }
def StreamTwiceSaid : Prop := streamTwiceRow.holds Try.pinned (OpenSpec.ofChange streamTwiceSpec)

/-- ITS FALSE NEIGHBOUR: 'it returns false'. Refute it at one input. -/
def streamTwiceWrong : ChangeSpec := { name := "streamTwice", fn := fun _ => fun
  | [d1, d2] => { results := [.lit (.bool false)], args := [d1, d2] }
  | _ => none }
def StreamTwiceWrongFalsely : Prop := streamTwiceRow.holds Try.pinned (OpenSpec.ofChange streamTwiceWrong)

/-- 'murmurlaw04.StreamBack': WHATEVER THE INPUT: true; the input reads as it did. -/
def streamBackSpec : ChangeSpec := { name := "streamBack", fn := fun _ => fun
  | [d] => { results := [.lit (.bool true)], args := [d] }
  | _ => none }
def streamBackRow : OpenClaim := { program := "ytblheplpaiokkaa", sum := "0bb951dffce68b5d900468a57d1f139782d04e43dff6bb3cbbace314b4d7421d", func := "murmur/murmurlaw04.StreamBack", spec := "streamBack", apart := false }
def StreamBackSaid : Prop := streamBackRow.holds Try.pinned (OpenSpec.ofChange streamBackSpec)

/-- ITS FALSE NEIGHBOUR: 'it returns false'. Refute it at one input. -/
def streamBackWrong : ChangeSpec := { name := "streamBack", fn := fun _ => fun
  | [d] => { results := [.lit (.bool false)], args := [d] }
  | _ => none }
def StreamBackWrongFalsely : Prop := streamBackRow.holds Try.pinned (OpenSpec.ofChange streamBackWrong)

/-- 'murmurlaw04.StreamTags': WHATEVER THE INPUT: true; the input reads as it did. -/
def streamTagsSpec : ChangeSpec := { name := "streamTags", fn := fun _ => fun
  | [d] => { results := [.lit (.bool true)], args := [d] }
  | _ => none }
def streamTagsRow : OpenClaim := { program := "ytblheplpaiokkaa", sum := "0bb951dffce68b5d900468a57d1f139782d04e43dff6bb3cbbace314b4d7421d", func := "murmur/murmurlaw04.StreamTags", spec := "streamTags", inPlace := ["math/bits.Add64", "internal/abi.NoEscape", "internal/bytealg.MakeNoZero"], apart := false }
def StreamTagsSaid : Prop := streamTagsRow.holds Try.pinned (OpenSpec.ofChange streamTagsSpec)

/-- ITS FALSE NEIGHBOUR: 'it returns false'. Refute it at one input. -/
def streamTagsWrong : ChangeSpec := { name := "streamTags", fn := fun _ => fun
  | [d] => { results := [.lit (.bool false)], args := [d] }
  | _ => none }
def StreamTagsWrongFalsely : Prop := streamTagsRow.holds Try.pinned (OpenSpec.ofChange streamTagsWrong)

/-- 'murmurlaw04.StreamOpens': WHATEVER THE INPUT: true; the input reads as it did. -/
def streamOpensSpec : ChangeSpec := { name := "streamOpens", fn := fun _ => fun
  | [d] => { results := [.lit (.bool true)], args := [d] }
  | _ => none }
def streamOpensRow : OpenClaim := { program := "ytblheplpaiokkaa", sum := "0bb951dffce68b5d900468a57d1f139782d04e43dff6bb3cbbace314b4d7421d", func := "murmur/murmurlaw04.StreamOpens", spec := "streamOpens", inPlace := ["internal/abi.NoEscape", "internal/bytealg.MakeNoZero", "math/bits.Add64"], apart := false }
def StreamOpensSaid : Prop := streamOpensRow.holds Try.pinned (OpenSpec.ofChange streamOpensSpec)

/-- ITS FALSE NEIGHBOUR: 'it returns false'. Refute it at one input. -/
def streamOpensWrong : ChangeSpec := { name := "streamOpens", fn := fun _ => fun
  | [d] => { results := [.lit (.bool false)], args := [d] }
  | _ => none }
def StreamOpensWrongFalsely : Prop := streamOpensRow.holds Try.pinned (OpenSpec.ofChange streamOpensWrong)

/-- 'murmurlaw05.LimbsSay': WHATEVER THE INPUT: true; the input reads as it did. -/
def limbsSaySpec : ChangeSpec := { name := "limbsSay", fn := fun _ => fun
  | [d1, d2, d3] => { results := [.lit (.bool true)], args := [d1, d2, d3] }
  | _ => none }
def limbsSayRow : OpenClaim := { program := "ytblheplpaiokkaa", sum := "0bb951dffce68b5d900468a57d1f139782d04e43dff6bb3cbbace314b4d7421d", func := "murmur/murmurlaw05.LimbsSay", spec := "limbsSay", inPlace := ["math/bits.Add64"], apart := false }
def LimbsSaySaid : Prop := limbsSayRow.holds Try.pinned (OpenSpec.ofChange limbsSaySpec)

/-- ITS FALSE NEIGHBOUR: 'it returns false'. Refute it at one input. -/
def limbsSayWrong : ChangeSpec := { name := "limbsSay", fn := fun _ => fun
  | [d1, d2, d3] => { results := [.lit (.bool false)], args := [d1, d2, d3] }
  | _ => none }
def LimbsSayWrongFalsely : Prop := limbsSayRow.holds Try.pinned (OpenSpec.ofChange limbsSayWrong)

/- THE SECOND FORM. 'bulk': how many values and letters a reading holds, each counted each time it is reached (what is shared counts as often as it is met; a slice's spare places count too). A statement '..UptoSaid' is the law's where the arguments, and the package variables that the reading takes, are together of bulk at most 1048576: NARROWER than '..Said'. Prove '..Said' where nothing that the law and all that it calls make is longer than what came in: it says more and counts as full. Else prove '..UptoSaid'. A law counts once. -/
mutual
def uptoBulk {H : Type} : DataW H → Nat
  | .lit (.string bytes) => bytes.length + 1
  | .lit _ => 1
  | .nil => 1
  | .ptr d => uptoBulk d + 1
  | .slice elems spare => uptoBulkAll elems + uptoBulkAll spare + 1
  | .agg parts => uptoBulkAll parts + 1
  | .iface _ d => uptoBulk d + 1
  | .map entries => uptoBulkEntries entries + 1
  | .held _ => 1
def uptoBulkAll {H : Type} : List (DataW H) → Nat
  | [] => 0
  | d :: r => uptoBulk d + uptoBulkAll r
def uptoBulkEntries {H : Type} : List (Lit × DataW H) → Nat
  | [] => 0
  | x :: r => uptoBulkEntry x + uptoBulkEntries r
def uptoBulkEntry {H : Type} : Lit × DataW H → Nat
  | (.string bytes, d) => bytes.length + uptoBulk d + 1
  | (_, d) => uptoBulk d + 1
 end
def uptoSmall : (H : Type) → List (DataW H) → Bool := fun _ ds => decide (uptoBulkAll ds ≤ 1048576)
def OpenSpec.upto (s : _root_.Go.ChangeSpec) : _root_.Go.OpenSpec := { _root_.Go.OpenSpec.ofChange s with cond := some uptoSmall }

/-- 'murmurlaw04.StreamSays', WHERE WHAT IT READS IS OF BULK AT MOST 1048576: true; the input reads as it did. -/
def streamSaysUptoRow : OpenClaim := { program := "ytblheplpaiokkaa", sum := "0bb951dffce68b5d900468a57d1f139782d04e43dff6bb3cbbace314b4d7421d", func := "murmur/murmurlaw04.StreamSays", spec := "streamSays", apart := false, narrowed := true }
def StreamSaysUptoSaid : Prop := streamSaysUptoRow.holds Try.pinned (OpenSpec.upto streamSaysSpec)

/-- 'murmurlaw04.StreamTwice', WHERE WHAT IT READS IS OF BULK AT MOST 1048576: true; the input reads as it did. -/
def streamTwiceUptoRow : OpenClaim := { program := "ytblheplpaiokkaa", sum := "0bb951dffce68b5d900468a57d1f139782d04e43dff6bb3cbbace314b4d7421d", func := "murmur/murmurlaw04.StreamTwice", spec := "streamTwice", apart := false, narrowed := true }
def StreamTwiceUptoSaid : Prop := streamTwiceUptoRow.holds Try.pinned (OpenSpec.upto streamTwiceSpec)

/-- 'murmurlaw04.StreamBack', WHERE WHAT IT READS IS OF BULK AT MOST 1048576: true; the input reads as it did. -/
def streamBackUptoRow : OpenClaim := { program := "ytblheplpaiokkaa", sum := "0bb951dffce68b5d900468a57d1f139782d04e43dff6bb3cbbace314b4d7421d", func := "murmur/murmurlaw04.StreamBack", spec := "streamBack", apart := false, narrowed := true }
def StreamBackUptoSaid : Prop := streamBackUptoRow.holds Try.pinned (OpenSpec.upto streamBackSpec)

/-- 'murmurlaw04.StreamTags', WHERE WHAT IT READS IS OF BULK AT MOST 1048576: true; the input reads as it did. -/
def streamTagsUptoRow : OpenClaim := { program := "ytblheplpaiokkaa", sum := "0bb951dffce68b5d900468a57d1f139782d04e43dff6bb3cbbace314b4d7421d", func := "murmur/murmurlaw04.StreamTags", spec := "streamTags", inPlace := ["math/bits.Add64", "internal/abi.NoEscape", "internal/bytealg.MakeNoZero"], apart := false, narrowed := true }
def StreamTagsUptoSaid : Prop := streamTagsUptoRow.holds Try.pinned (OpenSpec.upto streamTagsSpec)

/-- 'murmurlaw04.StreamOpens', WHERE WHAT IT READS IS OF BULK AT MOST 1048576: true; the input reads as it did. -/
def streamOpensUptoRow : OpenClaim := { program := "ytblheplpaiokkaa", sum := "0bb951dffce68b5d900468a57d1f139782d04e43dff6bb3cbbace314b4d7421d", func := "murmur/murmurlaw04.StreamOpens", spec := "streamOpens", inPlace := ["internal/abi.NoEscape", "internal/bytealg.MakeNoZero", "math/bits.Add64"], apart := false, narrowed := true }
def StreamOpensUptoSaid : Prop := streamOpensUptoRow.holds Try.pinned (OpenSpec.upto streamOpensSpec)

/-- 'murmurlaw05.LimbsSay', WHERE WHAT IT READS IS OF BULK AT MOST 1048576: true; the input reads as it did. -/
def limbsSayUptoRow : OpenClaim := { program := "ytblheplpaiokkaa", sum := "0bb951dffce68b5d900468a57d1f139782d04e43dff6bb3cbbace314b4d7421d", func := "murmur/murmurlaw05.LimbsSay", spec := "limbsSay", inPlace := ["math/bits.Add64"], apart := false, narrowed := true }
def LimbsSayUptoSaid : Prop := limbsSayUptoRow.holds Try.pinned (OpenSpec.upto limbsSaySpec)

end Rows
end Go.Proofs.Ytblheplpaiokkaa
