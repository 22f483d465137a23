/-
  What came in, opened: arrays of two numbers. No condition.
-/
import Derived.Test.YtedgpglldlohfaaGreatDoorZsO
namespace Go.Proofs.YtedgpglldlohfaaGreatDoor.Zs
open Go.ChangeShapes Go.WideShapes Go.ChangeAt Go.ChangeMaps Go.RowKit Mur
set_option maxRecDepth 100000
section
variable {H : Type} {enc : TypeId × Value → H} {w : World} {base : Nat} {spare : Nat → Bool} {held : Bool}
theorem open_two {r : Reach} {b0 : Nat} {v : Value} {d : DataW H} {p : List MemPlace} (hv : Value.okWide Tryz.prog w r b0 23 v) (h : DataW.Trod enc Tryz.prog w base spare held 23 v d p) : ∃ x y : Int, v = .agg #[.int .i64 x, .int .i64 y] ∧ (-9223372036854775808 ≤ x ∧ x ≤ 9223372036854775807) ∧ (-9223372036854775808 ≤ y ∧ y ≤ 9223372036854775807) := by
  obtain ⟨ss, hl, rfl, -, -, hs⟩ := Open.open_int_array Tryz.underlying23 Tryz.underlying3 (by kernel_rfl) (by kernel_rfl) hv h
  match ss, hl with
  | [x, y], _ => exact ⟨x, y, rfl, int_wf (hs x (by simp)), int_wf (hs y (by simp))⟩
end
end Go.Proofs.YtedgpglldlohfaaGreatDoor.Zs
