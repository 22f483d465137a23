/-
  What the laws of layer 19 want of package layout: its functions' answers, as the plain mathematics of the text Lyo says, as one structure; all memory that was there is left as it was. Conditions: those that each part names (no more than a hundred slots, numbers of 64 bits, short texts, the listed tables).
-/
import Derived.Test.YtedgpglldlohfaaGreatDoorLyo
import Derived.Test.YtedgpglldlohfaaGreatDoorZs
namespace Go.Proofs.YtedgpglldlohfaaGreatDoor.Lyo
open Go.RowKit Mur Lanes Prt Tap Cel Frm Zs
set_option maxRecDepth 100000

/-- A slice of numbers that may be read. -/
structure In (w : World) (a : Option Addr) (n c : Nat) (l : List Int) : Prop where
  row : ZsR w a l
  len : l.length = n
  most : n ≤ 100
  cap : n ≤ c
  fit : ∀ z ∈ l, InR z
theorem In.below {w w' : World} {a : Option Addr} {n c : Nat} {l : List Int} (h : In w a n c l) (k : Below w.heap.size w w') : In w' a n c l := ⟨h.row.below k, h.len, h.most, h.cap, h.fit⟩
/-- A slice that was answered. -/
def Out (w : World) (L : List Int) (N : Nat) (z : Ending) (w' : World) : Prop := ∃ a c, z = .returned (.slice a N c) ∧ N ≤ c ∧ ZsR w' a L ∧ Below w.heap.size w w'
structure Con : Prop where
  total : ∀ (l : List Int) (a : Option Addr) (n c : Nat) (s T : Int) (w : World), T = total l s → In w a n c l → InR s →
    Calls Tryz.prog 7 #[.slice a n c, .int .i64 s] w fun z w' => z = .returned (.int .i64 T) ∧ Below w.heap.size w w'
  spot : ∀ (l : List Int) (a : Option Addr) (n c : Nat) (s k A B : Int) (w : World), A = spotA l s k → B = spotB l s k → In w a n c l → InR s → InR k →
    Calls Tryz.prog 5 #[.slice a n c, .int .i64 s, .int .i64 k] w fun z w' => z = .returned (.tuple #[.int .i64 A, .int .i64 B]) ∧ Below w.heap.size w w'
  slot : ∀ (l : List Int) (a : Option Addr) (n c : Nat) (s k : Int) (t X : ByteArray) (w : World), X = tx (slotT l s k t.data.toList) → In w a n c l → InR s → InR k → t.size ≤ 10000 →
    Calls Tryz.prog 9 #[.slice a n c, .int .i64 s, .int .i64 k, .string t] w fun z w' => z = .returned (.string X) ∧ Below w.heap.size w w'
  want : ∀ (l : List Int) (a : Option Addr) (n c : Nat) (k W : Int) (t : ByteArray) (w : World), W = want l k t.data.toList → In w a n c l → InR k → t.size ≤ 10000 →
    Calls Tryz.prog 11 #[.slice a n c, .int .i64 k, .string t] w fun z w' => z = .returned (.int .i64 W) ∧ Below w.heap.size w w'
  next : ∀ (l : List Int) (a : Option Addr) (n c : Nat) (s : Int) (t : ByteArray) (L : List Int) (N : Nat) (w : World), L = next l s t.data.toList → L.length = N → In w a n c l → InR s → t.size ≤ 10000 → Laid w →
    Calls Tryz.prog 16 #[.slice a n c, .int .i64 s, .string t] w (Out w L N)
  first : ∀ (k : Int) (L : List Int) (N : Nat) (w : World), L = first k → L.length = N → InR k →
    Calls Tryz.prog 14 #[.int .i64 k] w (Out w L N)
end Go.Proofs.YtedgpglldlohfaaGreatDoor.Lyo
