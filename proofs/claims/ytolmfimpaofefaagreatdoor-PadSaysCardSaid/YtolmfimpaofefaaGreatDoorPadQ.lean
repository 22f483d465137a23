/-
  The order of the last statement of PadSays: all of its operations but the last may be taken in the text's order. No condition: the kernel reckons it.
-/
import Derived.Test.YtolmfimpaofefaaGreatDoorMWk
namespace Go.Proofs.YtolmfimpaofefaaGreatDoor.PadQ
open Go Go.RowKit
set_option maxRecDepth 100000

/-- The operations of a statement. -/
def regionOf (k : Nat) : Code → Option (Array Oper)
  | .region i o _ => if i == k then some o else none
  | .seq a b => match regionOf k a with
    | some o => some o
    | none => regionOf k b
  | .cond _ a b => match regionOf k a with
    | some o => some o
    | none => regionOf k b
  | .block _ a => regionOf k a
  | .loop a => regionOf k a
  | .scope a => regionOf k a
  | _ => none
noncomputable def ops9 : Array Oper := (Tryz.f3.body.bind (regionOf 9)).getD #[]
theorem tail9 : Region.lexTailB .any ops9.toList.toArray 90 = true := by kernel_rfl
end Go.Proofs.YtolmfimpaofefaaGreatDoor.PadQ
