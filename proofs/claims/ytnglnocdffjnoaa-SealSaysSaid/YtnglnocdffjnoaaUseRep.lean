/-
  strings.Repeat, by the library's contract. Condition: what is made takes no more than 2^47 bytes.
-/
import Derived.Test.YtnglnocdffjnoaaChecked
import Derived.Test.YtnglnocdffjnoaaShelf
namespace Go.Proofs.Ytnglnocdffjnoaa.Use
open Go.RowKit Go.Shelf
set_option maxRecDepth 100000

theorem repeat_any (s : ByteArray) (c : Nat) (w : World) (hc : c ≤ 9223372036854775807) (hlen : s.size * c ≤ 140737488355328) :
    Calls Try.prog 40 #[.string s, .int .i64 c] w fun e w' => e = .returned (.string ⟨(Lib.repeatL s.data.toList c).toArray⟩) ∧ Below w.heap.size w w' :=
  Any.strings_Repeat Try.lays105 Try.Builder_Extra_105 s c w hc hlen
end Go.Proofs.Ytnglnocdffjnoaa.Use
