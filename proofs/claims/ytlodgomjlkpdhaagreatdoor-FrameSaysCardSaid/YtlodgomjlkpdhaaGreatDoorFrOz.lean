/-
  What came in, opened: arrays of texts and of numbers. No condition.
-/
import Derived.Test.YtlodgomjlkpdhaaGreatDoorFrO
namespace Go.Proofs.YtlodgomjlkpdhaaGreatDoor.FrO
open Go.ChangeShapes Go.WideShapes Go.ChangeAt Go.ChangeMaps Go.RowKit Mur
set_option maxRecDepth 100000
section
variable {H : Type} {enc : TypeId × Value → H} {w : World} {base : Nat} {spare : Nat → Bool} {held : Bool}
theorem open_texts {r : Reach} {b0 : Nat} {v : Value} {d : DataW H} {p : List MemPlace} (hv : Value.okWide Tryz.prog w r b0 24 v) (h : DataW.Trod enc Tryz.prog w base spare held 24 v d p) : ∃ a b : ByteArray, v = .agg #[.string a, .string b] ∧ d = .agg ([a, b].map fun s => .lit (.string s.data.toList)) := by
  obtain ⟨ss, hl, rfl, rfl, -, -⟩ := Open.open_string_array Tryz.underlying24 Tryz.underlying9 (by kernel_rfl) (by kernel_rfl) hv h
  match ss, hl with
  | [a, b], _ => exact ⟨a, b, rfl, rfl⟩
theorem open_four {r : Reach} {b0 : Nat} {v : Value} {d : DataW H} {p : List MemPlace} (hv : Value.okWide Tryz.prog w r b0 25 v) (h : DataW.Trod enc Tryz.prog w base spare held 25 v d p) : ∃ x y z u : Int, v = .agg #[.int .i64 x, .int .i64 y, .int .i64 z, .int .i64 u] ∧ (-9223372036854775808 ≤ x ∧ x ≤ 9223372036854775807) ∧ (-9223372036854775808 ≤ y ∧ y ≤ 9223372036854775807) ∧ (-9223372036854775808 ≤ z ∧ z ≤ 9223372036854775807) ∧ (-9223372036854775808 ≤ u ∧ u ≤ 9223372036854775807) := by
  obtain ⟨ss, hl, rfl, -, -, hs⟩ := Open.open_int_array Tryz.underlying25 Tryz.underlying3 (by kernel_rfl) (by kernel_rfl) hv h
  match ss, hl with
  | [x, y, z, u], _ => exact ⟨x, y, z, u, rfl, int_wf (hs x (by simp)), int_wf (hs y (by simp)), int_wf (hs z (by simp)), int_wf (hs u (by simp))⟩
end
end Go.Proofs.YtlodgomjlkpdhaaGreatDoor.FrO
