/-
  What the condition on the listed tables of layer 19 gives (digest's constants); a world of its own making meets it; lists of operations and numbers that came in. No condition.
-/
import Derived.Test.YtedgpglldlohfaaDoorFrC
import Derived.Test.YtedgpglldlohfaaDoorRows
import Derived.Test.YtedgpglldlohfaaDoorTie
import Derived.Test.YtedgpglldlohfaaDoorCards
import Derived.ProofKit
import Derived.LaidMore
import Derived.OpenShut
import Derived.Stop.Joined
import Derived.Stop.LaidErr
import Derived.Lay
import Derived.Shelf.Vars
import Derived.ChangeMaps5
import Derived.SizedLaws
import Derived.SevenTiedAt
import Derived.Deep.SlicePairs
namespace Go.Proofs.YtedgpglldlohfaaDoor.Lyk
open Go.ChangeShapes Go.WideShapes Go.ChangeAt Go.ChangeMaps Go.RowKit Mur Frm
set_option maxRecDepth 100000

def laidL : List (String × DataW Unit) := [("unicode/utf8.acceptRanges", Rows.laid_unicode_utf8_acceptRanges), ("murmur/digest.constants", Rows.laid_murmur_digest_constants), ("unicode/utf8.first", Rows.laid_unicode_utf8_first)]
theorem own : ownKnob Tryd.prog.godebug = none := by kernel_rfl
theorem laidOut : laidOutB Tryd.prog = true := by kernel_rfl
theorem table_met (os : Os) (args : Array Value) : laidMetH Tryd.prog laidL ((World.laidAll Tryd.prog os laidL).forCall (fun _ _ => 0) ⟨#[], args, []⟩).memory := by
  rw [MakeChecks.laidMetH_plain _ _ _ (by kernel_rfl)]
  exact laidMet_laidAll _ (by kernel_rfl) (by kernel_rfl)
theorem table_shaped (os : Os) (args : Array Value) : ((World.laidAll Tryd.prog os laidL).forCall (fun _ _ => 0) ⟨#[], args, []⟩).Shaped Tryd.prog := World.shaped_of_ZipB (by kernel_rfl) (by kernel_rfl)
theorem tab_ks : Rows.laid_murmur_digest_constants (H := Unit) = Lib.tabData .u32 (Sha.ks.map fun n : Nat => (n : Int)) := by kernel_rfl
theorem of_laid {W : World} (h : laidMetH Tryd.prog laidL W) : Laid W := by
  rw [MakeChecks.laidMetH_plain _ _ _ (by kernel_rfl)] at h
  have h3 := laidMet.tail h
  rw [tab_ks] at h3
  have k3 := Lib.tabIs_of_head (g := 3) (t := 133) (e := 87) (n := 64) (by kernel_rfl) (by kernel_rfl) Tryd.underlying133 Tryd.underlying87 (by kernel_rfl) (by kernel_rfl) h3
  refine ⟨?_⟩
  have one : ∀ i, i < 64 → W.cell? ⟨3, i, none⟩ = some (.int .u32 (Sha.ks.getD i 0 : Nat)) := fun i hi => by
    have hl : Sha.ks.length = 64 := rfl
    have h := k3.cell (g := 3) (by kernel_rfl) i (by rw [List.length_map, hl]; exact hi)
    rw [h]
    congr 2
    simp [List.getD, hl, hi]
  refine ⟨?_, one⟩
  have := one 0 (by omega)
  rcases Nat.lt_or_ge 3 W.heap.size with h0 | h0
  · exact h0
  · have e : W.heap[3]? = none := by simp [h0]
    simp [World.cell?, e] at this
end Go.Proofs.YtedgpglldlohfaaDoor.Lyk
