/-
  What the condition on the listed tables gives (digest's constants, the powers of ten); that the program's own start meets it; lists of operations and numbers that came in. No condition.
-/
import Derived.Test.YtolmfimpaofefaaGreatDoorMBk
import Derived.Test.YtolmfimpaofefaaGreatDoorRows
import Derived.Test.YtolmfimpaofefaaGreatDoorTie
import Derived.Test.YtolmfimpaofefaaGreatDoorCards
import Derived.ProofKit
import Derived.LaidMore
import Derived.OpenShut
import Derived.Stop.Joined
import Derived.Stop.LaidErr
import Derived.SevenTiedAt
import Derived.Deep.SlicePairs
namespace Go.Proofs.YtolmfimpaofefaaGreatDoor.Bkk
open Go.ChangeShapes Go.WideShapes Go.ChangeAt Go.ChangeMaps Go.RowKit Mur Bkr
set_option maxRecDepth 100000

def laidL : List (String × DataW Unit) := [("math/bits.deBruijn32tab", Rows.laid_math_bits_deBruijn32tab), ("math/bits.deBruijn64tab", Rows.laid_math_bits_deBruijn64tab), ("internal/strconv.uint64pow10", Rows.laid_internal_strconv_uint64pow10), ("murmur/digest.constants", Rows.laid_murmur_digest_constants)]
theorem own : ownKnob Tryz.prog.godebug = none := by kernel_rfl
theorem laidOut : laidOutB Tryz.prog = true := by kernel_rfl
theorem door_met (os : Os) (args : Array Value) : laidMetH Tryz.prog laidL ((World.doorLaid Tryz.prog 400 os).forCall (fun _ _ => 0) ⟨#[], args, []⟩).memory :=
  laidMetH_of_parts3 (fuel := 8) (laidMet_of_run' 8 (by kernel_rfl) (by kernel_rfl)) (by kernel_rfl) (by kernel_rfl)
theorem tab_pow : Rows.laid_internal_strconv_uint64pow10 (H := Unit) = Lib.tabData .u64 Lib.pow10Tab := by kernel_rfl
theorem tab_ks : Rows.laid_murmur_digest_constants (H := Unit) = Lib.tabData .u32 (Sha.ks.map fun n : Nat => (n : Int)) := by kernel_rfl
theorem of_laid {W : World} (h : laidMetH Tryz.prog laidL W) : Laid W := by
  rw [MakeChecks.laidMetH_plain _ _ _ (by kernel_rfl)] at h
  have h2 := laidMet.tail (laidMet.tail h)
  have h3 := laidMet.tail h2
  rw [tab_pow] at h2
  rw [tab_ks] at h3
  have k3 := Lib.tabIs_of_head (g := 4) (t := 171) (e := 84) (n := 64) (by kernel_rfl) (by kernel_rfl) Tryz.underlying171 Tryz.underlying84 (by kernel_rfl) (by kernel_rfl) h3
  refine ⟨?_, Lib.tabIs_of_head (g := 0) (t := 167) (e := 45) (n := 20) (by kernel_rfl) (by kernel_rfl) Tryz.underlying167 Tryz.underlying45 (by kernel_rfl) (by kernel_rfl) h2⟩
  have one : ∀ i, i < 64 → W.cell? ⟨4, i, none⟩ = some (.int .u32 (Sha.ks.getD i 0 : Nat)) := fun i hi => by
    have hl : Sha.ks.length = 64 := rfl
    have h := k3.cell (g := 4) (by kernel_rfl) i (by rw [List.length_map, hl]; exact hi)
    rw [h]
    congr 2
    simp [List.getD, hl, hi]
  refine ⟨?_, one⟩
  have := one 0 (by omega)
  rcases Nat.lt_or_ge 4 W.heap.size with h0 | h0
  · exact h0
  · have e : W.heap[4]? = none := by simp [h0]
    simp [World.cell?, e] at this
end Go.Proofs.YtolmfimpaofefaaGreatDoor.Bkk
