/-
  No cell of these rows narrows 'for every input' (looked for: loops, veiled, ifaces, maps, wideKeys, modest, calm, conditions, laid).
  DERIVED. THE GIVEN ROWS OF THIS SEAT. 4 by the template 'for every input the law returns true; each argument reads behind the call as it read before'; 0 by the template 'total and deterministic' (their statements: YtlinpbmglcjkkaaTotals.lean).
  GIVEN WITH THE SEED: the statements are not yours to turn. If you find one false, say at which input.
  Laid BY PROGRAM, IN A SANDBOX (cutbox-rows.mjs): the forced cells as the released guide's own fill.sh prints them over the translation db0e7c38a82cf9c2… (all of the seat's roots in one cut). By AI agents, Wed Nov 11 2026. No macro, syntax, notation, axiom, sorry.
-/
import Derived.Test.YtlinpbmglcjkkaaChecked
import GoSem.Claim
import GoSem.ClaimJoined
import GoSem.ClaimMapViews
import Derived.JoinedTies
import Derived.KernelRfl
namespace Go.Proofs.Ytlinpbmglcjkkaa
/- THE CELL 'sum', in the pinned program and in every row, IS THE sha256 OF THE DUMP (.gsa) THAT YtlinpbmglcjkkaaProg.lean LOADS. Nothing in Lean hashes anything: it is a label: what it is worth is what the hold of that sum in a sandbox is worth. -/
noncomputable def Try.pinned : Pinned := { name := "ytlinpbmglcjkkaa", sum := "db0e7c38a82cf9c2d7c18f5bc8161dc4f9bd78968dba098b9d18621b1e3b1a13", checked := Try.checked }
namespace Rows
def none {H : Type} : Left H := { results := [], args := [] }

/-- 'murmurlaw14.LetterLays': WHATEVER THE INPUT: true; the input reads as it did. -/
def letterLaysSpec : ChangeSpec := { name := "letterLays", fn := fun _ => fun
  | [d1, d2, d3] => { results := [.lit (.bool true)], args := [d1, d2, d3] }
  | _ => none }
def letterLaysRow : OpenClaim := { program := "ytlinpbmglcjkkaa", sum := "db0e7c38a82cf9c2d7c18f5bc8161dc4f9bd78968dba098b9d18621b1e3b1a13", func := "murmur/murmurlaw14.LetterLays", spec := "letterLays", inPlace := ["internal/abi.NoEscape"], unfollowed := true, recurses := true, apart := false }
def LetterLaysSaid : Prop := letterLaysRow.holds Try.pinned (OpenSpec.ofChange letterLaysSpec)

/-- ITS FALSE NEIGHBOUR: 'it returns false'. Refute it at one input. -/
def letterLaysWrong : ChangeSpec := { name := "letterLays", fn := fun _ => fun
  | [d1, d2, d3] => { results := [.lit (.bool false)], args := [d1, d2, d3] }
  | _ => none }
def LetterLaysWrongFalsely : Prop := letterLaysRow.holds Try.pinned (OpenSpec.ofChange letterLaysWrong)

/-- 'murmurlaw14.LetterReads': WHATEVER THE INPUT: true; the input reads as it did. -/
def letterReadsSpec : ChangeSpec := { name := "letterReads", fn := fun _ => fun
  | [d] => { results := [.lit (.bool true)], args := [d] }
  | _ => none }
def letterReadsRow : OpenClaim := { program := "ytlinpbmglcjkkaa", sum := "db0e7c38a82cf9c2d7c18f5bc8161dc4f9bd78968dba098b9d18621b1e3b1a13", func := "murmur/murmurlaw14.LetterReads", spec := "letterReads", inPlace := ["internal/abi.NoEscape"], unfollowed := true, recurses := true, apart := false }
def LetterReadsSaid : Prop := letterReadsRow.holds Try.pinned (OpenSpec.ofChange letterReadsSpec)

/-- ITS FALSE NEIGHBOUR: 'it returns false'. Refute it at one input. -/
def letterReadsWrong : ChangeSpec := { name := "letterReads", fn := fun _ => fun
  | [d] => { results := [.lit (.bool false)], args := [d] }
  | _ => none }
def LetterReadsWrongFalsely : Prop := letterReadsRow.holds Try.pinned (OpenSpec.ofChange letterReadsWrong)

/-- 'murmurlaw14.LetterBack': WHATEVER THE INPUT: true; the input reads as it did. -/
def letterBackSpec : ChangeSpec := { name := "letterBack", fn := fun _ => fun
  | [d1, d2] => { results := [.lit (.bool true)], args := [d1, d2] }
  | _ => none }
def letterBackRow : OpenClaim := { program := "ytlinpbmglcjkkaa", sum := "db0e7c38a82cf9c2d7c18f5bc8161dc4f9bd78968dba098b9d18621b1e3b1a13", func := "murmur/murmurlaw14.LetterBack", spec := "letterBack", inPlace := ["internal/abi.NoEscape"], unfollowed := true, recurses := true, apart := false }
def LetterBackSaid : Prop := letterBackRow.holds Try.pinned (OpenSpec.ofChange letterBackSpec)

/-- ITS FALSE NEIGHBOUR: 'it returns false'. Refute it at one input. -/
def letterBackWrong : ChangeSpec := { name := "letterBack", fn := fun _ => fun
  | [d1, d2] => { results := [.lit (.bool false)], args := [d1, d2] }
  | _ => none }
def LetterBackWrongFalsely : Prop := letterBackRow.holds Try.pinned (OpenSpec.ofChange letterBackWrong)

/-- 'murmurlaw14.LetterTold': WHATEVER THE INPUT: true; the input reads as it did. -/
def letterToldSpec : ChangeSpec := { name := "letterTold", fn := fun _ => fun
  | [d1, d2, d3] => { results := [.lit (.bool true)], args := [d1, d2, d3] }
  | _ => none }
def letterToldRow : OpenClaim := { program := "ytlinpbmglcjkkaa", sum := "db0e7c38a82cf9c2d7c18f5bc8161dc4f9bd78968dba098b9d18621b1e3b1a13", func := "murmur/murmurlaw14.LetterTold", spec := "letterTold", inPlace := ["internal/abi.NoEscape"], unfollowed := true, recurses := true, apart := false }
def LetterToldSaid : Prop := letterToldRow.holds Try.pinned (OpenSpec.ofChange letterToldSpec)

/-- ITS FALSE NEIGHBOUR: 'it returns false'. Refute it at one input. -/
def letterToldWrong : ChangeSpec := { name := "letterTold", fn := fun _ => fun
  | [d1, d2, d3] => { results := [.lit (.bool false)], args := [d1, d2, d3] }
  | _ => none }
def LetterToldWrongFalsely : Prop := letterToldRow.holds Try.pinned (OpenSpec.ofChange letterToldWrong)

/- THE SECOND FORM. 'bulk': how many values and letters a reading holds, each counted each time it is reached (what is shared counts as often as it is met; a slice's spare places count too). A statement '..UptoSaid' is the law's where the arguments, and the package variables that the reading takes, are together of bulk at most 1048576: NARROWER than '..Said'. Prove '..Said' where nothing that the law and all that it calls make is longer than what came in: it says more and counts as full. Else prove '..UptoSaid'. A law counts once. -/
mutual
def uptoBulk {H : Type} : DataW H → Nat
  | .lit (.string bytes) => bytes.length + 1
  | .lit _ => 1
  | .nil => 1
  | .ptr d => uptoBulk d + 1
  | .slice elems spare => uptoBulkAll elems + uptoBulkAll spare + 1
  | .agg parts => uptoBulkAll parts + 1
  | .iface _ d => uptoBulk d + 1
  | .map entries => uptoBulkEntries entries + 1
  | .held _ => 1
def uptoBulkAll {H : Type} : List (DataW H) → Nat
  | [] => 0
  | d :: r => uptoBulk d + uptoBulkAll r
def uptoBulkEntries {H : Type} : List (Lit × DataW H) → Nat
  | [] => 0
  | x :: r => uptoBulkEntry x + uptoBulkEntries r
def uptoBulkEntry {H : Type} : Lit × DataW H → Nat
  | (.string bytes, d) => bytes.length + uptoBulk d + 1
  | (_, d) => uptoBulk d + 1
 end
def uptoSmall : (H : Type) → List (DataW H) → Bool := fun _ ds => decide (uptoBulkAll ds ≤ 1048576)
def OpenSpec.upto (s : _root_.Go.ChangeSpec) : _root_.Go.OpenSpec := { _root_.Go.OpenSpec.ofChange s with cond := some uptoSmall }

/-- 'murmurlaw14.LetterLays', WHERE WHAT IT READS IS OF BULK AT MOST 1048576: true; the input reads as it did. -/
def letterLaysUptoRow : OpenClaim := { program := "ytlinpbmglcjkkaa", sum := "db0e7c38a82cf9c2d7c18f5bc8161dc4f9bd78968dba098b9d18621b1e3b1a13", func := "murmur/murmurlaw14.LetterLays", spec := "letterLays", inPlace := ["internal/abi.NoEscape"], unfollowed := true, recurses := true, apart := false, narrowed := true }
def LetterLaysUptoSaid : Prop := letterLaysUptoRow.holds Try.pinned (OpenSpec.upto letterLaysSpec)

/-- 'murmurlaw14.LetterReads', WHERE WHAT IT READS IS OF BULK AT MOST 1048576: true; the input reads as it did. -/
def letterReadsUptoRow : OpenClaim := { program := "ytlinpbmglcjkkaa", sum := "db0e7c38a82cf9c2d7c18f5bc8161dc4f9bd78968dba098b9d18621b1e3b1a13", func := "murmur/murmurlaw14.LetterReads", spec := "letterReads", inPlace := ["internal/abi.NoEscape"], unfollowed := true, recurses := true, apart := false, narrowed := true }
def LetterReadsUptoSaid : Prop := letterReadsUptoRow.holds Try.pinned (OpenSpec.upto letterReadsSpec)

/-- 'murmurlaw14.LetterBack', WHERE WHAT IT READS IS OF BULK AT MOST 1048576: true; the input reads as it did. -/
def letterBackUptoRow : OpenClaim := { program := "ytlinpbmglcjkkaa", sum := "db0e7c38a82cf9c2d7c18f5bc8161dc4f9bd78968dba098b9d18621b1e3b1a13", func := "murmur/murmurlaw14.LetterBack", spec := "letterBack", inPlace := ["internal/abi.NoEscape"], unfollowed := true, recurses := true, apart := false, narrowed := true }
def LetterBackUptoSaid : Prop := letterBackUptoRow.holds Try.pinned (OpenSpec.upto letterBackSpec)

/-- 'murmurlaw14.LetterTold', WHERE WHAT IT READS IS OF BULK AT MOST 1048576: true; the input reads as it did. -/
def letterToldUptoRow : OpenClaim := { program := "ytlinpbmglcjkkaa", sum := "db0e7c38a82cf9c2d7c18f5bc8161dc4f9bd78968dba098b9d18621b1e3b1a13", func := "murmur/murmurlaw14.LetterTold", spec := "letterTold", inPlace := ["internal/abi.NoEscape"], unfollowed := true, recurses := true, apart := false, narrowed := true }
def LetterToldUptoSaid : Prop := letterToldUptoRow.holds Try.pinned (OpenSpec.upto letterToldSpec)

end Rows
end Go.Proofs.Ytlinpbmglcjkkaa
