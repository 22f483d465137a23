/-
  The plain mathematics of blocks one behind the other: blocks of a text are those of its parts, and a digest is that of the padded blocks. Nothing here speaks of a program: no condition but those that each lemma names.
-/
import Derived.Test.YtncafbejgidliaaDoorSha
namespace Go.Proofs.YtncafbejgidliaaDoor.Sha
open Go.RowKit Mur

theorem blocksOf_add (h : S8) (l : List UInt8) (q n : Nat) : blocksOf h l (q + n) = blocksOf (blocksOf h l q) (l.drop (64 * q)) n := by
  induction n with
  | zero => rfl
  | succ n ih =>
    show blockOf (blocksOf h l (q + n)) ((l.drop (64 * (q + n))).take 64) = blockOf (blocksOf (blocksOf h l q) (l.drop (64 * q)) n) (((l.drop (64 * q)).drop (64 * n)).take 64)
    rw [ih, List.drop_drop]
    have e : 64 * (q + n) = 64 * q + 64 * n := by omega
    rw [e]
theorem blocksOf_left (h : S8) (x y : List UInt8) (q : Nat) (hq : 64 * q ≤ x.length) : blocksOf h (x ++ y) q = blocksOf h x q := by
  induction q with
  | zero => rfl
  | succ q ih =>
    rw [blocksOf, blocksOf, ih (by omega)]
    congr 1
    rw [List.drop_append_of_le_length (by omega), List.take_append_of_le_length (by rw [List.length_drop]; omega)]
theorem blocksOf_split (h : S8) (x y : List UInt8) (q n : Nat) (hq : 64 * q ≤ x.length) : blocksOf h (x ++ y) (q + n) = blocksOf (blocksOf h x q) (x.drop (64 * q) ++ y) n := by
  rw [blocksOf_add, blocksOf_left h x y q hq, List.drop_append_of_le_length hq]

theorem tail_length (m long : Nat) : (tail m long).length = 1 + fillOf m + 8 := by
  simp [tail, Lanes.high]
  omega
theorem finish_whole (h : S8) (l : List UInt8) (long : Nat) : finish h l long = Lanes.text (blocksOf h (l ++ tail (l.length % 64) long) ((l.length + (tail (l.length % 64) long).length) / 64)).list true := by
  have e : (l.length + (tail (l.length % 64) long).length) / 64 = l.length / 64 + (l.length % 64 + (tail (l.length % 64) long).length) / 64 := by omega
  rw [e, blocksOf_split h l _ _ _ (by omega)]
  rfl
end Go.Proofs.YtncafbejgidliaaDoor.Sha
