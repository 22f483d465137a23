/-
  What the condition on the listed tables gives: the table of powers of ten lies in its variable; and that the program's own start meets it. No condition.
-/
import Derived.Test.YtpamdpfgcbadhaaDoorTpT
import Derived.Test.YtpamdpfgcbadhaaDoorRows
import Derived.Test.YtpamdpfgcbadhaaDoorHoldB
import Derived.Test.YtpamdpfgcbadhaaDoorTie
import Derived.Test.YtpamdpfgcbadhaaDoorCards
import Derived.ProofKit
import Derived.LaidMore
import Derived.OpenShut
import Derived.Stop.Joined
import Derived.Stop.LaidErr
import Derived.SevenTiedAt
namespace Go.Proofs.YtpamdpfgcbadhaaDoor.Tape
open Go.ChangeShapes Go.WideShapes Go.ChangeAt Go.RowKit Mur
set_option maxRecDepth 100000

theorem keptI {w0 : World} {m : List Hold.Blk} {f : FuncId} {args : Array Value} {v : Value} (R : ∀ u, Below w0.heap.size w0 u → Calls Tryd.prog f args u fun e w' => e = .returned v ∧ Below u.heap.size u w') : ∀ u, Hold.Hld w0 m u → Calls Tryd.prog f args u fun e w' => e = .returned v ∧ Hold.Hld w0 m w' := fun u h =>
  (R u h.below).mono fun _ _ ⟨he, hb⟩ => ⟨he, h.next hb⟩

def laidL : List (String × DataW Unit) := [("math/bits.deBruijn32tab", Rows.laid_math_bits_deBruijn32tab), ("math/bits.deBruijn64tab", Rows.laid_math_bits_deBruijn64tab), ("internal/strconv.uint64pow10", Rows.laid_internal_strconv_uint64pow10)]
theorem own : ownKnob Tryd.prog.godebug = none := by kernel_rfl
theorem laidOut : laidOutB Tryd.prog = true := by kernel_rfl
theorem door_met (os : Os) (args : Array Value) : laidMetH Tryd.prog laidL ((World.doorLaid Tryd.prog 400 os).forCall (fun _ _ => 0) ⟨#[], args, []⟩).memory :=
  laidMetH_of_parts3 (fuel := 8) (laidMet_of_run' 8 (by kernel_rfl) (by kernel_rfl)) (by kernel_rfl) (by kernel_rfl)
theorem tab_data : Rows.laid_internal_strconv_uint64pow10 (H := Unit) = Lib.tabData .u64 Lib.pow10Tab := by kernel_rfl
theorem of_laid {W : World} (h : laidMetH Tryd.prog laidL W) : Pow W := by
  rw [MakeChecks.laidMetH_plain _ _ _ (by kernel_rfl)] at h
  have h2 := laidMet.tail (laidMet.tail h)
  rw [tab_data] at h2
  exact Lib.tabIs_of_head (g := 0) (t := 72) (e := 38) (n := 20) (by kernel_rfl) (by kernel_rfl) Tryd.underlying72 Tryd.underlying38 (by kernel_rfl) (by kernel_rfl) h2
end Go.Proofs.YtpamdpfgcbadhaaDoor.Tape
