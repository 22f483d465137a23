/-
  NARROWER THAN 'FOR EVERY INPUT', by the rows' own cells (each row's printed sentence says how): PhraseSays: laid · PhraseOrders: laid · PhraseOrder: laid · PhraseWraps: laid · PhraseBack: laid · PhraseCut: laid.
  DERIVED. THE GIVEN ROWS OF THIS SEAT. 6 by the template 'for every input the law returns true; each argument reads behind the call as it read before'; 0 by the template 'total and deterministic' (their statements: YthlhhmhldpmpiaaDoorTotals.lean).
  GIVEN WITH THE SEED: the statements are not yours to turn. If you find one false, say at which input.
  Laid BY PROGRAM, IN A SANDBOX (cutbox-rows.mjs): the forced cells as the released guide's own fill.sh prints them over the translation a4f62a7673170a06… (all of the seat's roots in one cut). By AI agents, Wed Nov 11 2026. No macro, syntax, notation, axiom, sorry.
-/
import Derived.Test.YthlhhmhldpmpiaaDoorChecked
import GoSem.PinnedTables
import GoSem.Claim
import GoSem.ClaimJoined
import GoSem.ClaimMapViews
import Derived.JoinedTies
import Derived.KernelRfl
namespace Go.Proofs.YthlhhmhldpmpiaaDoor
/- THE CELL 'sum', in the pinned program and in every row, IS THE sha256 OF THE DUMP (.gsa) THAT YthlhhmhldpmpiaaDoorProg.lean LOADS. Nothing in Lean hashes anything: it is a label: what it is worth is what the hold of that sum in a sandbox is worth. -/
noncomputable def Tryd.pinned : Pinned := { name := "ythlhhmhldpmpiaadoor", sum := "a4f62a7673170a066c27d469924c419a7dba1438691d24506b7e0194f493facc", checked := Tryd.checked }
namespace Rows
def none {H : Type} : Left H := { results := [], args := [] }

/- WHAT THE LISTED PACKAGE-LEVEL VARIABLES READ AS WHEN THE CALL BEGINS. Each datum BY PROGRAM (the guide's laid-datum.mjs) off the statement by which the dump's own 'gosem.cut.vars' lays the variable. In a bare row this is a premise. The card (YthlhhmhldpmpiaaDoorCards.lean) ties it to the program's text. -/
def laid_unicode_utf8_acceptRanges {H : Type} : DataW H := .agg [.agg [.lit (.int .u8 128), .lit (.int .u8 191)], .agg [.lit (.int .u8 160), .lit (.int .u8 191)], .agg [.lit (.int .u8 128), .lit (.int .u8 159)], .agg [.lit (.int .u8 144), .lit (.int .u8 191)], .agg [.lit (.int .u8 128), .lit (.int .u8 143)], .agg [.lit (.int .u8 0), .lit (.int .u8 0)], .agg [.lit (.int .u8 0), .lit (.int .u8 0)], .agg [.lit (.int .u8 0), .lit (.int .u8 0)], .agg [.lit (.int .u8 0), .lit (.int .u8 0)], .agg [.lit (.int .u8 0), .lit (.int .u8 0)], .agg [.lit (.int .u8 0), .lit (.int .u8 0)], .agg [.lit (.int .u8 0), .lit (.int .u8 0)], .agg [.lit (.int .u8 0), .lit (.int .u8 0)], .agg [.lit (.int .u8 0), .lit (.int .u8 0)], .agg [.lit (.int .u8 0), .lit (.int .u8 0)], .agg [.lit (.int .u8 0), .lit (.int .u8 0)]]
/-- One of Go's own tables, pinned by name: the form's constant. -/
def laid_unicode_utf8_first : DataW Unit := Go.Pinned.utf8First

/-- 'murmurlaw11.PhraseSays': WHATEVER THE INPUT: true; the input reads as it did. -/
def phraseSaysSpec : ChangeSpec := { name := "phraseSays", fn := fun _ => fun
  | [d1, d2] => { results := [.lit (.bool true)], args := [d1, d2] }
  | _ => none }
def phraseSaysRow : OpenClaim := { program := "ythlhhmhldpmpiaadoor", sum := "a4f62a7673170a066c27d469924c419a7dba1438691d24506b7e0194f493facc", func := "murmur/murmurlaw11.PhraseSays", spec := "phraseSays", inPlace := ["internal/abi.NoEscape", "internal/bytealg.MakeNoZero", "internal/bytealg.abigen_runtime_cmpstring", "internal/bytealg.CountString", "internal/bytealg.IndexByteString", "internal/bytealg.IndexString"], named := ["unicode/utf8.first", "unicode/utf8.acceptRanges", "internal/bytealg.MaxLen"], apart := false, laid := [("unicode/utf8.acceptRanges", laid_unicode_utf8_acceptRanges), ("unicode/utf8.first", laid_unicode_utf8_first)] }
def PhraseSaysSaid : Prop := phraseSaysRow.holds Tryd.pinned (OpenSpec.ofChange phraseSaysSpec)

/-- ITS FALSE NEIGHBOUR: 'it returns false'. Refute it at one input. -/
def phraseSaysWrong : ChangeSpec := { name := "phraseSays", fn := fun _ => fun
  | [d1, d2] => { results := [.lit (.bool false)], args := [d1, d2] }
  | _ => none }
def PhraseSaysWrongFalsely : Prop := phraseSaysRow.holds Tryd.pinned (OpenSpec.ofChange phraseSaysWrong)

/-- 'murmurlaw11.PhraseOrders': WHATEVER THE INPUT: true; the input reads as it did. -/
def phraseOrdersSpec : ChangeSpec := { name := "phraseOrders", fn := fun _ => fun
  | [d1, d2, d3] => { results := [.lit (.bool true)], args := [d1, d2, d3] }
  | _ => none }
def phraseOrdersRow : OpenClaim := { program := "ythlhhmhldpmpiaadoor", sum := "a4f62a7673170a066c27d469924c419a7dba1438691d24506b7e0194f493facc", func := "murmur/murmurlaw11.PhraseOrders", spec := "phraseOrders", inPlace := ["internal/abi.NoEscape", "internal/bytealg.MakeNoZero", "internal/bytealg.abigen_runtime_cmpstring", "internal/bytealg.CountString", "internal/bytealg.IndexByteString", "internal/bytealg.IndexString"], named := ["unicode/utf8.first", "unicode/utf8.acceptRanges", "internal/bytealg.MaxLen"], apart := false, laid := [("unicode/utf8.acceptRanges", laid_unicode_utf8_acceptRanges), ("unicode/utf8.first", laid_unicode_utf8_first)] }
def PhraseOrdersSaid : Prop := phraseOrdersRow.holds Tryd.pinned (OpenSpec.ofChange phraseOrdersSpec)

/-- ITS FALSE NEIGHBOUR: 'it returns false'. Refute it at one input. -/
def phraseOrdersWrong : ChangeSpec := { name := "phraseOrders", fn := fun _ => fun
  | [d1, d2, d3] => { results := [.lit (.bool false)], args := [d1, d2, d3] }
  | _ => none }
def PhraseOrdersWrongFalsely : Prop := phraseOrdersRow.holds Tryd.pinned (OpenSpec.ofChange phraseOrdersWrong)

/-- 'murmurlaw11.PhraseOrder': WHATEVER THE INPUT: true; the input reads as it did. -/
def phraseOrderSpec : ChangeSpec := { name := "phraseOrder", fn := fun _ => fun
  | [d1, d2, d3] => { results := [.lit (.bool true)], args := [d1, d2, d3] }
  | _ => none }
def phraseOrderRow : OpenClaim := { program := "ythlhhmhldpmpiaadoor", sum := "a4f62a7673170a066c27d469924c419a7dba1438691d24506b7e0194f493facc", func := "murmur/murmurlaw11.PhraseOrder", spec := "phraseOrder", inPlace := ["internal/abi.NoEscape", "internal/bytealg.MakeNoZero", "internal/bytealg.abigen_runtime_cmpstring", "internal/bytealg.CountString", "internal/bytealg.IndexByteString", "internal/bytealg.IndexString"], named := ["unicode/utf8.first", "unicode/utf8.acceptRanges", "internal/bytealg.MaxLen"], apart := false, laid := [("unicode/utf8.acceptRanges", laid_unicode_utf8_acceptRanges), ("unicode/utf8.first", laid_unicode_utf8_first)] }
def PhraseOrderSaid : Prop := phraseOrderRow.holds Tryd.pinned (OpenSpec.ofChange phraseOrderSpec)

/-- ITS FALSE NEIGHBOUR: 'it returns false'. Refute it at one input. -/
def phraseOrderWrong : ChangeSpec := { name := "phraseOrder", fn := fun _ => fun
  | [d1, d2, d3] => { results := [.lit (.bool false)], args := [d1, d2, d3] }
  | _ => none }
def PhraseOrderWrongFalsely : Prop := phraseOrderRow.holds Tryd.pinned (OpenSpec.ofChange phraseOrderWrong)

/-- 'murmurlaw11.PhraseWraps': WHATEVER THE INPUT: true; the input reads as it did. -/
def phraseWrapsSpec : ChangeSpec := { name := "phraseWraps", fn := fun _ => fun
  | [d1, d2] => { results := [.lit (.bool true)], args := [d1, d2] }
  | _ => none }
def phraseWrapsRow : OpenClaim := { program := "ythlhhmhldpmpiaadoor", sum := "a4f62a7673170a066c27d469924c419a7dba1438691d24506b7e0194f493facc", func := "murmur/murmurlaw11.PhraseWraps", spec := "phraseWraps", inPlace := ["internal/abi.NoEscape", "internal/bytealg.MakeNoZero", "internal/bytealg.abigen_runtime_cmpstring", "internal/bytealg.CountString", "internal/bytealg.IndexByteString", "internal/bytealg.IndexString"], named := ["unicode/utf8.first", "unicode/utf8.acceptRanges", "internal/bytealg.MaxLen"], apart := false, laid := [("unicode/utf8.acceptRanges", laid_unicode_utf8_acceptRanges), ("unicode/utf8.first", laid_unicode_utf8_first)] }
def PhraseWrapsSaid : Prop := phraseWrapsRow.holds Tryd.pinned (OpenSpec.ofChange phraseWrapsSpec)

/-- ITS FALSE NEIGHBOUR: 'it returns false'. Refute it at one input. -/
def phraseWrapsWrong : ChangeSpec := { name := "phraseWraps", fn := fun _ => fun
  | [d1, d2] => { results := [.lit (.bool false)], args := [d1, d2] }
  | _ => none }
def PhraseWrapsWrongFalsely : Prop := phraseWrapsRow.holds Tryd.pinned (OpenSpec.ofChange phraseWrapsWrong)

/-- 'murmurlaw11.PhraseBack': WHATEVER THE INPUT: true; the input reads as it did. -/
def phraseBackSpec : ChangeSpec := { name := "phraseBack", fn := fun _ => fun
  | [d] => { results := [.lit (.bool true)], args := [d] }
  | _ => none }
def phraseBackRow : OpenClaim := { program := "ythlhhmhldpmpiaadoor", sum := "a4f62a7673170a066c27d469924c419a7dba1438691d24506b7e0194f493facc", func := "murmur/murmurlaw11.PhraseBack", spec := "phraseBack", inPlace := ["internal/abi.NoEscape", "internal/bytealg.MakeNoZero", "internal/bytealg.abigen_runtime_cmpstring", "internal/bytealg.CountString", "internal/bytealg.IndexByteString", "internal/bytealg.IndexString"], named := ["unicode/utf8.first", "unicode/utf8.acceptRanges", "internal/bytealg.MaxLen"], apart := false, laid := [("unicode/utf8.acceptRanges", laid_unicode_utf8_acceptRanges), ("unicode/utf8.first", laid_unicode_utf8_first)] }
def PhraseBackSaid : Prop := phraseBackRow.holds Tryd.pinned (OpenSpec.ofChange phraseBackSpec)

/-- ITS FALSE NEIGHBOUR: 'it returns false'. Refute it at one input. -/
def phraseBackWrong : ChangeSpec := { name := "phraseBack", fn := fun _ => fun
  | [d] => { results := [.lit (.bool false)], args := [d] }
  | _ => none }
def PhraseBackWrongFalsely : Prop := phraseBackRow.holds Tryd.pinned (OpenSpec.ofChange phraseBackWrong)

/-- 'murmurlaw11.PhraseCut': WHATEVER THE INPUT: true; the input reads as it did. -/
def phraseCutSpec : ChangeSpec := { name := "phraseCut", fn := fun _ => fun
  | [d1, d2] => { results := [.lit (.bool true)], args := [d1, d2] }
  | _ => none }
def phraseCutRow : OpenClaim := { program := "ythlhhmhldpmpiaadoor", sum := "a4f62a7673170a066c27d469924c419a7dba1438691d24506b7e0194f493facc", func := "murmur/murmurlaw11.PhraseCut", spec := "phraseCut", inPlace := ["internal/abi.NoEscape", "internal/bytealg.MakeNoZero", "internal/bytealg.abigen_runtime_cmpstring", "internal/bytealg.CountString", "internal/bytealg.IndexByteString", "internal/bytealg.IndexString"], named := ["unicode/utf8.first", "unicode/utf8.acceptRanges", "internal/bytealg.MaxLen"], apart := false, laid := [("unicode/utf8.acceptRanges", laid_unicode_utf8_acceptRanges), ("unicode/utf8.first", laid_unicode_utf8_first)] }
def PhraseCutSaid : Prop := phraseCutRow.holds Tryd.pinned (OpenSpec.ofChange phraseCutSpec)

/-- ITS FALSE NEIGHBOUR: 'it returns false'. Refute it at one input. -/
def phraseCutWrong : ChangeSpec := { name := "phraseCut", fn := fun _ => fun
  | [d1, d2] => { results := [.lit (.bool false)], args := [d1, d2] }
  | _ => none }
def PhraseCutWrongFalsely : Prop := phraseCutRow.holds Tryd.pinned (OpenSpec.ofChange phraseCutWrong)

/- THE SECOND FORM. 'bulk': how many values and letters a reading holds, each counted each time it is reached (what is shared counts as often as it is met; a slice's spare places count too). A statement '..UptoSaid' is the law's where the arguments, and the package variables that the reading takes, are together of bulk at most 1048576: NARROWER than '..Said'. Prove '..Said' where nothing that the law and all that it calls make is longer than what came in: it says more and counts as full. Else prove '..UptoSaid'. A law counts once. -/
mutual
def uptoBulk {H : Type} : DataW H → Nat
  | .lit (.string bytes) => bytes.length + 1
  | .lit _ => 1
  | .nil => 1
  | .ptr d => uptoBulk d + 1
  | .slice elems spare => uptoBulkAll elems + uptoBulkAll spare + 1
  | .agg parts => uptoBulkAll parts + 1
  | .iface _ d => uptoBulk d + 1
  | .map entries => uptoBulkEntries entries + 1
  | .held _ => 1
def uptoBulkAll {H : Type} : List (DataW H) → Nat
  | [] => 0
  | d :: r => uptoBulk d + uptoBulkAll r
def uptoBulkEntries {H : Type} : List (Lit × DataW H) → Nat
  | [] => 0
  | x :: r => uptoBulkEntry x + uptoBulkEntries r
def uptoBulkEntry {H : Type} : Lit × DataW H → Nat
  | (.string bytes, d) => bytes.length + uptoBulk d + 1
  | (_, d) => uptoBulk d + 1
 end
def uptoSmall : (H : Type) → List (DataW H) → Bool := fun _ ds => decide (uptoBulkAll ds ≤ 1048576)
def OpenSpec.upto (s : _root_.Go.ChangeSpec) : _root_.Go.OpenSpec := { _root_.Go.OpenSpec.ofChange s with cond := some uptoSmall }

/-- 'murmurlaw11.PhraseSays', WHERE WHAT IT READS IS OF BULK AT MOST 1048576: true; the input reads as it did. -/
def phraseSaysUptoRow : OpenClaim := { program := "ythlhhmhldpmpiaadoor", sum := "a4f62a7673170a066c27d469924c419a7dba1438691d24506b7e0194f493facc", func := "murmur/murmurlaw11.PhraseSays", spec := "phraseSays", inPlace := ["internal/abi.NoEscape", "internal/bytealg.MakeNoZero", "internal/bytealg.abigen_runtime_cmpstring", "internal/bytealg.CountString", "internal/bytealg.IndexByteString", "internal/bytealg.IndexString"], named := ["unicode/utf8.first", "unicode/utf8.acceptRanges", "internal/bytealg.MaxLen"], apart := false, laid := [("unicode/utf8.acceptRanges", laid_unicode_utf8_acceptRanges), ("unicode/utf8.first", laid_unicode_utf8_first)], narrowed := true }
def PhraseSaysUptoSaid : Prop := phraseSaysUptoRow.holds Tryd.pinned (OpenSpec.upto phraseSaysSpec)

/-- 'murmurlaw11.PhraseOrders', WHERE WHAT IT READS IS OF BULK AT MOST 1048576: true; the input reads as it did. -/
def phraseOrdersUptoRow : OpenClaim := { program := "ythlhhmhldpmpiaadoor", sum := "a4f62a7673170a066c27d469924c419a7dba1438691d24506b7e0194f493facc", func := "murmur/murmurlaw11.PhraseOrders", spec := "phraseOrders", inPlace := ["internal/abi.NoEscape", "internal/bytealg.MakeNoZero", "internal/bytealg.abigen_runtime_cmpstring", "internal/bytealg.CountString", "internal/bytealg.IndexByteString", "internal/bytealg.IndexString"], named := ["unicode/utf8.first", "unicode/utf8.acceptRanges", "internal/bytealg.MaxLen"], apart := false, laid := [("unicode/utf8.acceptRanges", laid_unicode_utf8_acceptRanges), ("unicode/utf8.first", laid_unicode_utf8_first)], narrowed := true }
def PhraseOrdersUptoSaid : Prop := phraseOrdersUptoRow.holds Tryd.pinned (OpenSpec.upto phraseOrdersSpec)

/-- 'murmurlaw11.PhraseOrder', WHERE WHAT IT READS IS OF BULK AT MOST 1048576: true; the input reads as it did. -/
def phraseOrderUptoRow : OpenClaim := { program := "ythlhhmhldpmpiaadoor", sum := "a4f62a7673170a066c27d469924c419a7dba1438691d24506b7e0194f493facc", func := "murmur/murmurlaw11.PhraseOrder", spec := "phraseOrder", inPlace := ["internal/abi.NoEscape", "internal/bytealg.MakeNoZero", "internal/bytealg.abigen_runtime_cmpstring", "internal/bytealg.CountString", "internal/bytealg.IndexByteString", "internal/bytealg.IndexString"], named := ["unicode/utf8.first", "unicode/utf8.acceptRanges", "internal/bytealg.MaxLen"], apart := false, laid := [("unicode/utf8.acceptRanges", laid_unicode_utf8_acceptRanges), ("unicode/utf8.first", laid_unicode_utf8_first)], narrowed := true }
def PhraseOrderUptoSaid : Prop := phraseOrderUptoRow.holds Tryd.pinned (OpenSpec.upto phraseOrderSpec)

/-- 'murmurlaw11.PhraseWraps', WHERE WHAT IT READS IS OF BULK AT MOST 1048576: true; the input reads as it did. -/
def phraseWrapsUptoRow : OpenClaim := { program := "ythlhhmhldpmpiaadoor", sum := "a4f62a7673170a066c27d469924c419a7dba1438691d24506b7e0194f493facc", func := "murmur/murmurlaw11.PhraseWraps", spec := "phraseWraps", inPlace := ["internal/abi.NoEscape", "internal/bytealg.MakeNoZero", "internal/bytealg.abigen_runtime_cmpstring", "internal/bytealg.CountString", "internal/bytealg.IndexByteString", "internal/bytealg.IndexString"], named := ["unicode/utf8.first", "unicode/utf8.acceptRanges", "internal/bytealg.MaxLen"], apart := false, laid := [("unicode/utf8.acceptRanges", laid_unicode_utf8_acceptRanges), ("unicode/utf8.first", laid_unicode_utf8_first)], narrowed := true }
def PhraseWrapsUptoSaid : Prop := phraseWrapsUptoRow.holds Tryd.pinned (OpenSpec.upto phraseWrapsSpec)

/-- 'murmurlaw11.PhraseBack', WHERE WHAT IT READS IS OF BULK AT MOST 1048576: true; the input reads as it did. -/
def phraseBackUptoRow : OpenClaim := { program := "ythlhhmhldpmpiaadoor", sum := "a4f62a7673170a066c27d469924c419a7dba1438691d24506b7e0194f493facc", func := "murmur/murmurlaw11.PhraseBack", spec := "phraseBack", inPlace := ["internal/abi.NoEscape", "internal/bytealg.MakeNoZero", "internal/bytealg.abigen_runtime_cmpstring", "internal/bytealg.CountString", "internal/bytealg.IndexByteString", "internal/bytealg.IndexString"], named := ["unicode/utf8.first", "unicode/utf8.acceptRanges", "internal/bytealg.MaxLen"], apart := false, laid := [("unicode/utf8.acceptRanges", laid_unicode_utf8_acceptRanges), ("unicode/utf8.first", laid_unicode_utf8_first)], narrowed := true }
def PhraseBackUptoSaid : Prop := phraseBackUptoRow.holds Tryd.pinned (OpenSpec.upto phraseBackSpec)

/-- 'murmurlaw11.PhraseCut', WHERE WHAT IT READS IS OF BULK AT MOST 1048576: true; the input reads as it did. -/
def phraseCutUptoRow : OpenClaim := { program := "ythlhhmhldpmpiaadoor", sum := "a4f62a7673170a066c27d469924c419a7dba1438691d24506b7e0194f493facc", func := "murmur/murmurlaw11.PhraseCut", spec := "phraseCut", inPlace := ["internal/abi.NoEscape", "internal/bytealg.MakeNoZero", "internal/bytealg.abigen_runtime_cmpstring", "internal/bytealg.CountString", "internal/bytealg.IndexByteString", "internal/bytealg.IndexString"], named := ["unicode/utf8.first", "unicode/utf8.acceptRanges", "internal/bytealg.MaxLen"], apart := false, laid := [("unicode/utf8.acceptRanges", laid_unicode_utf8_acceptRanges), ("unicode/utf8.first", laid_unicode_utf8_first)], narrowed := true }
def PhraseCutUptoSaid : Prop := phraseCutUptoRow.holds Tryd.pinned (OpenSpec.upto phraseCutSpec)

end Rows
end Go.Proofs.YthlhhmhldpmpiaaDoor
