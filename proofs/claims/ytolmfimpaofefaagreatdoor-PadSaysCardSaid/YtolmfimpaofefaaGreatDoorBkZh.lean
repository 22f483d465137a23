/-
  One operation of a drawn region. Nothing here speaks of a program: no condition but those that the lemma names.
-/
import Derived.Test.YtolmfimpaofefaaGreatDoorMBkX
namespace Go.Proofs.YtolmfimpaofefaaGreatDoor.Hold
open Go Go.RowKit Mur
theorem op_wp {P : Program} {ops : Array Oper} {i : Nat} {o : Oper} {a : Act} {w : World} {K : Act → World → Prop} {Q : Exit → Act → World → Prop} (hi : ops[i]? = some o) (hw : Region.wanted o (yielded ops a.tmps) = true) (h : Oper.wp P o a w K Q) : wpOp P ops Q i K a w := by
  unfold wpOp
  simp only [hi]
  rw [if_pos hw]
  exact .inl h
end Go.Proofs.YtolmfimpaofefaaGreatDoor.Hold
