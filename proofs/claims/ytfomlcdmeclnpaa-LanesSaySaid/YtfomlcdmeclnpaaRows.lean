/-
  No cell of these rows narrows 'for every input' (looked for: loops, veiled, ifaces, maps, wideKeys, modest, calm, conditions, laid).
  DERIVED. THE GIVEN ROWS OF THIS SEAT. 3 by the template 'for every input the law returns true; each argument reads behind the call as it read before'; 0 by the template 'total and deterministic' (their statements: YtfomlcdmeclnpaaTotals.lean).
  GIVEN WITH THE SEED: the statements are not yours to turn. If you find one false, say at which input.
  Laid BY PROGRAM, IN A SANDBOX (cutbox-rows.mjs): the forced cells as the released guide's own fill.sh prints them over the translation 80f9890610637deb… (all of the seat's roots in one cut). By AI agents, Wed Nov 11 2026. No macro, syntax, notation, axiom, sorry.
-/
import Derived.Test.YtfomlcdmeclnpaaChecked
import GoSem.Claim
import GoSem.ClaimJoined
import GoSem.ClaimMapViews
import Derived.JoinedTies
import Derived.KernelRfl
namespace Go.Proofs.Ytfomlcdmeclnpaa
/- THE CELL 'sum', in the pinned program and in every row, IS THE sha256 OF THE DUMP (.gsa) THAT YtfomlcdmeclnpaaProg.lean LOADS. Nothing in Lean hashes anything: it is a label: what it is worth is what the hold of that sum in a sandbox is worth. -/
noncomputable def Try.pinned : Pinned := { name := "ytfomlcdmeclnpaa", sum := "80f9890610637debe7cea569b412f7829cfc115ce247c2820de69253a48616c6", checked := Try.checked }
namespace Rows
def none {H : Type} : Left H := { results := [], args := [] }

/-- 'murmurlaw01.LanesSay': WHATEVER THE INPUT: true; the input reads as it did. -/
def lanesSaySpec : ChangeSpec := { name := "lanesSay", fn := fun _ => fun
  | [d1, d2, d3] => { results := [.lit (.bool true)], args := [d1, d2, d3] }
  | _ => none }
def lanesSayRow : OpenClaim := { program := "ytfomlcdmeclnpaa", sum := "80f9890610637debe7cea569b412f7829cfc115ce247c2820de69253a48616c6", func := "murmur/murmurlaw01.LanesSay", spec := "lanesSay", apart := false }
def LanesSaySaid : Prop := lanesSayRow.holds Try.pinned (OpenSpec.ofChange lanesSaySpec)

/-- ITS FALSE NEIGHBOUR: 'it returns false'. Refute it at one input. -/
def lanesSayWrong : ChangeSpec := { name := "lanesSay", fn := fun _ => fun
  | [d1, d2, d3] => { results := [.lit (.bool false)], args := [d1, d2, d3] }
  | _ => none }
def LanesSayWrongFalsely : Prop := lanesSayRow.holds Try.pinned (OpenSpec.ofChange lanesSayWrong)

/-- 'murmurlaw01.LanesBack': WHATEVER THE INPUT: true; the input reads as it did. -/
def lanesBackSpec : ChangeSpec := { name := "lanesBack", fn := fun _ => fun
  | [d1, d2, d3] => { results := [.lit (.bool true)], args := [d1, d2, d3] }
  | _ => none }
def lanesBackRow : OpenClaim := { program := "ytfomlcdmeclnpaa", sum := "80f9890610637debe7cea569b412f7829cfc115ce247c2820de69253a48616c6", func := "murmur/murmurlaw01.LanesBack", spec := "lanesBack", apart := false }
def LanesBackSaid : Prop := lanesBackRow.holds Try.pinned (OpenSpec.ofChange lanesBackSpec)

/-- ITS FALSE NEIGHBOUR: 'it returns false'. Refute it at one input. -/
def lanesBackWrong : ChangeSpec := { name := "lanesBack", fn := fun _ => fun
  | [d1, d2, d3] => { results := [.lit (.bool false)], args := [d1, d2, d3] }
  | _ => none }
def LanesBackWrongFalsely : Prop := lanesBackRow.holds Try.pinned (OpenSpec.ofChange lanesBackWrong)

/-- 'murmurlaw01.LanesXor': WHATEVER THE INPUT: true; the input reads as it did. -/
def lanesXorSpec : ChangeSpec := { name := "lanesXor", fn := fun _ => fun
  | [d1, d2, d3] => { results := [.lit (.bool true)], args := [d1, d2, d3] }
  | _ => none }
def lanesXorRow : OpenClaim := { program := "ytfomlcdmeclnpaa", sum := "80f9890610637debe7cea569b412f7829cfc115ce247c2820de69253a48616c6", func := "murmur/murmurlaw01.LanesXor", spec := "lanesXor", apart := false }
def LanesXorSaid : Prop := lanesXorRow.holds Try.pinned (OpenSpec.ofChange lanesXorSpec)

/-- ITS FALSE NEIGHBOUR: 'it returns false'. Refute it at one input. -/
def lanesXorWrong : ChangeSpec := { name := "lanesXor", fn := fun _ => fun
  | [d1, d2, d3] => { results := [.lit (.bool false)], args := [d1, d2, d3] }
  | _ => none }
def LanesXorWrongFalsely : Prop := lanesXorRow.holds Try.pinned (OpenSpec.ofChange lanesXorWrong)

/- THE SECOND FORM. 'bulk': how many values and letters a reading holds, each counted each time it is reached (what is shared counts as often as it is met; a slice's spare places count too). A statement '..UptoSaid' is the law's where the arguments, and the package variables that the reading takes, are together of bulk at most 1048576: NARROWER than '..Said'. Prove '..Said' where nothing that the law and all that it calls make is longer than what came in: it says more and counts as full. Else prove '..UptoSaid'. A law counts once. -/
mutual
def uptoBulk {H : Type} : DataW H → Nat
  | .lit (.string bytes) => bytes.length + 1
  | .lit _ => 1
  | .nil => 1
  | .ptr d => uptoBulk d + 1
  | .slice elems spare => uptoBulkAll elems + uptoBulkAll spare + 1
  | .agg parts => uptoBulkAll parts + 1
  | .iface _ d => uptoBulk d + 1
  | .map entries => uptoBulkEntries entries + 1
  | .held _ => 1
def uptoBulkAll {H : Type} : List (DataW H) → Nat
  | [] => 0
  | d :: r => uptoBulk d + uptoBulkAll r
def uptoBulkEntries {H : Type} : List (Lit × DataW H) → Nat
  | [] => 0
  | x :: r => uptoBulkEntry x + uptoBulkEntries r
def uptoBulkEntry {H : Type} : Lit × DataW H → Nat
  | (.string bytes, d) => bytes.length + uptoBulk d + 1
  | (_, d) => uptoBulk d + 1
 end
def uptoSmall : (H : Type) → List (DataW H) → Bool := fun _ ds => decide (uptoBulkAll ds ≤ 1048576)
def OpenSpec.upto (s : _root_.Go.ChangeSpec) : _root_.Go.OpenSpec := { _root_.Go.OpenSpec.ofChange s with cond := some uptoSmall }

/-- 'murmurlaw01.LanesSay', WHERE WHAT IT READS IS OF BULK AT MOST 1048576: true; the input reads as it did. -/
def lanesSayUptoRow : OpenClaim := { program := "ytfomlcdmeclnpaa", sum := "80f9890610637debe7cea569b412f7829cfc115ce247c2820de69253a48616c6", func := "murmur/murmurlaw01.LanesSay", spec := "lanesSay", apart := false, narrowed := true }
def LanesSayUptoSaid : Prop := lanesSayUptoRow.holds Try.pinned (OpenSpec.upto lanesSaySpec)

/-- 'murmurlaw01.LanesBack', WHERE WHAT IT READS IS OF BULK AT MOST 1048576: true; the input reads as it did. -/
def lanesBackUptoRow : OpenClaim := { program := "ytfomlcdmeclnpaa", sum := "80f9890610637debe7cea569b412f7829cfc115ce247c2820de69253a48616c6", func := "murmur/murmurlaw01.LanesBack", spec := "lanesBack", apart := false, narrowed := true }
def LanesBackUptoSaid : Prop := lanesBackUptoRow.holds Try.pinned (OpenSpec.upto lanesBackSpec)

/-- 'murmurlaw01.LanesXor', WHERE WHAT IT READS IS OF BULK AT MOST 1048576: true; the input reads as it did. -/
def lanesXorUptoRow : OpenClaim := { program := "ytfomlcdmeclnpaa", sum := "80f9890610637debe7cea569b412f7829cfc115ce247c2820de69253a48616c6", func := "murmur/murmurlaw01.LanesXor", spec := "lanesXor", apart := false, narrowed := true }
def LanesXorUptoSaid : Prop := lanesXorUptoRow.holds Try.pinned (OpenSpec.upto lanesXorSpec)

end Rows
end Go.Proofs.Ytfomlcdmeclnpaa
