/-
  The plain mathematics of package stream's second half (Poly1305), limb by limb as the code has it, with all wrap-rounds. Nothing here speaks of a program: no condition but those that each lemma names.
-/
import Derived.Test.YtcglobpklhkebabLanesSpec
namespace Go.Proofs.Ytcglobpklhkebab.Poly
open Go.RowKit Mur Lanes

/-- A row of words of 64 bits, as the model has them. -/
def numsV (ns : List Nat) : List Value := ns.map fun (n : Nat) => Value.int .u64 (n : Int)
theorem numsV_length (ns : List Nat) : (numsV ns).length = ns.length := by simp [numsV]
theorem numsV_at {ns : List Nat} {i : Nat} (h : i < ns.length) : (numsV ns)[i]? = some (.int .u64 (ns[i] : Int)) := by simp [numsV, h]
theorem numsV_set (ns : List Nat) (i n : Nat) : (numsV ns).set i (.int .u64 (n : Int)) = numsV (ns.set i n) := by simp [numsV, List.map_set]

/-- Five limbs below 2^64. -/
def Five (a : List Nat) : Prop := a.length = 5 ∧ ∀ x ∈ a, x < 18446744073709551616
theorem Five.at {a : List Nat} (h : Five a) (i : Nat) : a.getD i 0 < 18446744073709551616 := by
  by_cases hi : i < a.length
  · rw [List.getD, List.getElem?_eq_getElem hi]
    exact h.2 _ (List.getElem_mem hi)
  · rw [List.getD, List.getElem?_eq_none (by omega)]
    decide
theorem Five.set {a : List Nat} (h : Five a) (i x : Nat) (hx : x < 18446744073709551616) : Five (a.set i x) := by
  refine ⟨by rw [List.length_set]; exact h.1, fun y hy => ?_⟩
  rcases List.mem_or_eq_of_mem_set hy with hy | rfl
  · exact h.2 y hy
  · exact hx
def zeros : List Nat := [0, 0, 0, 0, 0]
theorem zeros_ok : Five zeros := ⟨rfl, by decide⟩

/-- The limbs below k are added. -/
def addTo (a b : List Nat) : Nat → List Nat
  | 0 => a
  | k + 1 => (addTo a b k).set k (((addTo a b k).getD k 0 + b.getD k 0) % 18446744073709551616)
def add (a b : List Nat) : List Nat := addTo a b 5
theorem addTo_ok {a : List Nat} (h : Five a) (b : List Nat) (k : Nat) : Five (addTo a b k) := by
  induction k with
  | zero => exact h
  | succ k ih => exact ih.set _ _ (Nat.mod_lt _ (by decide))

/-- The limbs below k are within their bits, and what is over. -/
def carTo (n : List Nat) : Nat → List Nat × Nat
  | 0 => (n, 0)
  | k + 1 => ((carTo n k).1.set k (((carTo n k).1.getD k 0 + (carTo n k).2) % 18446744073709551616 % 67108864), ((carTo n k).1.getD k 0 + (carTo n k).2) % 18446744073709551616 / 67108864)
theorem carTo_ok {n : List Nat} (h : Five n) (k : Nat) : Five (carTo n k).1 ∧ (carTo n k).2 < 18446744073709551616 := by
  induction k with
  | zero => exact ⟨h, by show 0 < _; omega⟩
  | succ k ih => exact ⟨ih.1.set _ _ (Nat.lt_of_lt_of_le (Nat.mod_lt _ (by decide)) (by decide)), Nat.lt_of_le_of_lt (Nat.div_le_self _ _) (Nat.mod_lt _ (by decide))⟩
def car (n : List Nat) : List Nat := (carTo n 5).1
def over (n : List Nat) : Nat := (carTo n 5).2
theorem car_ok {n : List Nat} (h : Five n) : Five (car n) := (carTo_ok h 5).1
theorem over_lt {n : List Nat} (h : Five n) : over n < 18446744073709551616 := (carTo_ok h 5).2
def fold (n : List Nat) : List Nat := (car n).set 0 (((car n).getD 0 0 + 5 * over n % 18446744073709551616) % 18446744073709551616)
theorem fold_ok {n : List Nat} (h : Five n) : Five (fold n) := (car_ok h).set _ _ (Nat.mod_lt _ (by decide))

/-- What two limbs bring. -/
def part (a b : List Nat) (i j : Nat) : Nat := if 5 ≤ i + j then (a.getD i 0 * b.getD j 0 % 18446744073709551616) * 5 % 18446744073709551616 else a.getD i 0 * b.getD j 0 % 18446744073709551616
def mulIn (a b : List Nat) (i : Nat) (out : List Nat) : Nat → List Nat
  | 0 => out
  | j + 1 => (mulIn a b i out j).set ((i + j) % 5) (((mulIn a b i out j).getD ((i + j) % 5) 0 + part a b i j) % 18446744073709551616)
def mulTo (a b : List Nat) : Nat → List Nat
  | 0 => zeros
  | i + 1 => mulIn a b i (mulTo a b i) 5
theorem mulIn_ok (a b : List Nat) (i : Nat) {out : List Nat} (h : Five out) (j : Nat) : Five (mulIn a b i out j) := by
  induction j with
  | zero => exact h
  | succ j ih => exact ih.set _ _ (Nat.mod_lt _ (by decide))
theorem mulTo_ok (a b : List Nat) (i : Nat) : Five (mulTo a b i) := by
  induction i with
  | zero => exact zeros_ok
  | succ i ih => exact mulIn_ok _ _ _ ih _
def mul (a b : List Nat) : List Nat := fold (fold (mulTo a b 5))
theorem mul_ok (a b : List Nat) : Five (mul a b) := fold_ok (fold_ok (mulTo_ok a b 5))
theorem part_lt (a b : List Nat) (i j : Nat) : part a b i j < 18446744073709551616 := by
  unfold part
  split <;> exact Nat.mod_lt _ (by decide)

def red (n : List Nat) : List Nat := car (add n [5 * over (add n [5, 0, 0, 0, 0]) % 18446744073709551616, 0, 0, 0, 0])
theorem red_ok {n : List Nat} (h : Five n) : Five (red n) := car_ok (addTo_ok h _ 5)

/-- The limbs of a text. -/
def limbsTo (l : List UInt8) : Nat → List Nat
  | 0 => zeros
  | k + 1 => (limbsTo l k).set k (low (l.drop (min (26 * k / 8) l.length)) / 2 ^ (26 * k % 8) % 67108864)
def limbs (l : List UInt8) : List Nat := limbsTo l 5
theorem limbsTo_ok (l : List UInt8) (k : Nat) : Five (limbsTo l k) := by
  induction k with
  | zero => exact zeros_ok
  | succ k ih => exact ih.set _ _ (Nat.lt_of_lt_of_le (Nat.mod_lt _ (by decide)) (by decide))

/-- The sum of a number's lowest 128 bits and sixteen bytes. -/
def lowW (n : List Nat) : Nat := (n.getD 0 0 ||| n.getD 1 0 * 67108864 % 18446744073709551616) ||| n.getD 2 0 * 4503599627370496 % 18446744073709551616
def highW (n : List Nat) : Nat := (n.getD 2 0 / 4096 ||| n.getD 3 0 * 16384 % 18446744073709551616) ||| n.getD 4 0 * 1099511627776 % 18446744073709551616
def sumLow (n : List Nat) (l : List UInt8) : Nat := (lowW n + low l) % 18446744073709551616
def sumHigh (n : List Nat) (l : List UInt8) : Nat := (highW n + low (l.drop 8) + (lowW n + low l) / 18446744073709551616) % 18446744073709551616
def closing (n : List Nat) (l : List UInt8) : List UInt8 := text [sumLow n l % 4294967296, sumLow n l / 4294967296, sumHigh n l % 4294967296, sumHigh n l / 4294967296] false
theorem closing_length (n : List Nat) (l : List UInt8) : (closing n l).length = 16 := by
  unfold closing
  rw [text_length]
  rfl

/-- The bytes of r, of a key: those below k that must lack bits lack them. -/
def facAt (l : List UInt8) (i : Nat) : UInt8 := if i % 4 = 3 then l.getD i 0 &&& 15 else if i % 4 = 0 ∧ i ≠ 0 then l.getD i 0 &&& 252 else l.getD i 0
def fac (l : List UInt8) : List UInt8 := (List.range 16).map (facAt l)

/-- The sum behind k pieces. -/
def sums (r : List Nat) (l : List UInt8) : Nat → List Nat
  | 0 => zeros
  | k + 1 => mul (add (sums r l k) (limbs ((l.drop (16 * k)).take 16 ++ [1]))) r
theorem sums_ok (r : List Nat) (l : List UInt8) (k : Nat) : Five (sums r l k) := by
  cases k with
  | zero => exact zeros_ok
  | succ k => exact mul_ok _ _
def tag (key s : List UInt8) : List UInt8 := closing (red (sums (limbs (fac key)) s ((s.length + 15) / 16))) (key.drop 16)
theorem tag_length (key s : List UInt8) : (tag key s).length = 16 := closing_length _ _
end Go.Proofs.Ytcglobpklhkebab.Poly
