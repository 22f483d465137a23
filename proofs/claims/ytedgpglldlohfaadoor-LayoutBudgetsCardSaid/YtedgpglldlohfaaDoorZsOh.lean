/-
  What came in, opened: arrays of three numbers. No condition.
-/
import Derived.Test.YtedgpglldlohfaaDoorZsO
namespace Go.Proofs.YtedgpglldlohfaaDoor.Zs
open Go.ChangeShapes Go.WideShapes Go.ChangeAt Go.ChangeMaps Go.RowKit Mur
set_option maxRecDepth 100000
section
variable {H : Type} {enc : TypeId × Value → H} {w : World} {base : Nat} {spare : Nat → Bool} {held : Bool}
theorem open_three {r : Reach} {b0 : Nat} {v : Value} {d : DataW H} {p : List MemPlace} (hv : Value.okWide Tryd.prog w r b0 33 v) (h : DataW.Trod enc Tryd.prog w base spare held 33 v d p) : ∃ x y z : Int, v = .agg #[.int .i64 x, .int .i64 y, .int .i64 z] ∧ (-9223372036854775808 ≤ x ∧ x ≤ 9223372036854775807) ∧ (-9223372036854775808 ≤ y ∧ y ≤ 9223372036854775807) ∧ (-9223372036854775808 ≤ z ∧ z ≤ 9223372036854775807) := by
  obtain ⟨ss, hl, rfl, -, -, hs⟩ := Open.open_int_array Tryd.underlying33 Tryd.underlying3 (by kernel_rfl) (by kernel_rfl) hv h
  match ss, hl with
  | [x, y, z], _ => exact ⟨x, y, z, rfl, int_wf (hs x (by simp)), int_wf (hs y (by simp)), int_wf (hs z (by simp))⟩
end
end Go.Proofs.YtedgpglldlohfaaDoor.Zs
