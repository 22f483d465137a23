/-
  What the condition on the listed tables gives (digest's constants, the powers of ten); a world of its own making meets it; lists of operations and numbers that came in. No condition.
-/
import Derived.Test.YtlodgomjlkpdhaaGreatDoorFrC
import Derived.Test.YtlodgomjlkpdhaaGreatDoorRows
import Derived.Test.YtlodgomjlkpdhaaGreatDoorTie
import Derived.Test.YtlodgomjlkpdhaaGreatDoorCards
import Derived.ProofKit
import Derived.LaidMore
import Derived.OpenShut
import Derived.Stop.Joined
import Derived.Stop.LaidErr
import Derived.Lay
import Derived.Shelf.Vars
import Derived.ChangeMaps5
import Derived.SizedLaws
import Derived.SevenTiedAt
import Derived.Deep.SlicePairs
namespace Go.Proofs.YtlodgomjlkpdhaaGreatDoor.Frk
open Go.ChangeShapes Go.WideShapes Go.ChangeAt Go.ChangeMaps Go.RowKit Mur Frm
set_option maxRecDepth 100000

def laidL : List (String × DataW Unit) := [("math/bits.deBruijn32tab", Rows.laid_math_bits_deBruijn32tab), ("math/bits.deBruijn64tab", Rows.laid_math_bits_deBruijn64tab), ("internal/strconv.uint64pow10", Rows.laid_internal_strconv_uint64pow10), ("unicode/utf8.acceptRanges", Rows.laid_unicode_utf8_acceptRanges), ("murmur/digest.constants", Rows.laid_murmur_digest_constants), ("unicode/utf8.first", Rows.laid_unicode_utf8_first)]
theorem own : ownKnob Tryz.prog.godebug = none := by kernel_rfl
theorem laidOut : laidOutB Tryz.prog = true := by kernel_rfl
theorem table_met (os : Os) (args : Array Value) : laidMetH Tryz.prog laidL ((World.laidAll Tryz.prog os laidL).forCall (fun _ _ => 0) ⟨#[], args, []⟩).memory := by
  rw [MakeChecks.laidMetH_plain _ _ _ (by kernel_rfl)]
  exact laidMet_laidAll _ (by kernel_rfl) (by kernel_rfl)
theorem table_shaped (os : Os) (args : Array Value) : ((World.laidAll Tryz.prog os laidL).forCall (fun _ _ => 0) ⟨#[], args, []⟩).Shaped Tryz.prog := World.shaped_of_ZipB (by kernel_rfl) (by kernel_rfl)
theorem tab_pow : Rows.laid_internal_strconv_uint64pow10 (H := Unit) = Lib.tabData .u64 Lib.pow10Tab := by kernel_rfl
theorem tab_ks : Rows.laid_murmur_digest_constants (H := Unit) = Lib.tabData .u32 (Sha.ks.map fun n : Nat => (n : Int)) := by kernel_rfl
theorem of_laid {W : World} (h : laidMetH Tryz.prog laidL W) : Laid W := by
  rw [MakeChecks.laidMetH_plain _ _ _ (by kernel_rfl)] at h
  have h2 := laidMet.tail (laidMet.tail h)
  have h3 := laidMet.tail (laidMet.tail h2)
  rw [tab_pow] at h2
  rw [tab_ks] at h3
  have k3 := Lib.tabIs_of_head (g := 6) (t := 121) (e := 67) (n := 64) (by kernel_rfl) (by kernel_rfl) Tryz.underlying121 Tryz.underlying67 (by kernel_rfl) (by kernel_rfl) h3
  refine ⟨?_, Lib.tabIs_of_head (g := 1) (t := 109) (e := 51) (n := 20) (by kernel_rfl) (by kernel_rfl) Tryz.underlying109 Tryz.underlying51 (by kernel_rfl) (by kernel_rfl) h2⟩
  have one : ∀ i, i < 64 → W.cell? ⟨6, i, none⟩ = some (.int .u32 (Sha.ks.getD i 0 : Nat)) := fun i hi => by
    have hl : Sha.ks.length = 64 := rfl
    have h := k3.cell (g := 6) (by kernel_rfl) i (by rw [List.length_map, hl]; exact hi)
    rw [h]
    congr 2
    simp [List.getD, hl, hi]
  refine ⟨?_, one⟩
  have := one 0 (by omega)
  rcases Nat.lt_or_ge 6 W.heap.size with h0 | h0
  · exact h0
  · have e : W.heap[6]? = none := by simp [h0]
    simp [World.cell?, e] at this
end Go.Proofs.YtlodgomjlkpdhaaGreatDoor.Frk
