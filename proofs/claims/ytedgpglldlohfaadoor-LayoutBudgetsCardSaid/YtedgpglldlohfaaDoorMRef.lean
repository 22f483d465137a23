/-
  Several texts as one (RefHigh, RefXor, RefWords, RefBit, RefLow). The document's own answer for High of layer 1 answers, for every input, what the plain mathematics of the text LanesSpec says. No condition but that the numbers fit. the document answer for Xor, for every two texts: the bytes of the first, each exclusively or'ed with that of the second at its place, as far as the second goes. Condition: the first text takes no more than the reach of the form. The document's own answers for Words and Text, for every input, are what the plain mathematics of the text LanesSpec says. Conditions: each text and list takes no more than the reach of the form. The document's own answer for Bit is what the plain mathematics of the text LanesSpec says; the world stays as it was. Condition: the text takes no more than the reach of the form. The document's Low of layer 1 answers what the plain mathematics of the text LanesSpec says, and leaves the world as it was. Condition: the text takes no more than the reach of the form.
-/
import Derived.Test.YtedgpglldlohfaaDoorChecked
import Derived.Test.YtedgpglldlohfaaDoorMLn
import Derived.BigQuiet
import Derived.Deep.QuietTactic
import Derived.Test.YtedgpglldlohfaaDoorMur
import Derived.ProofKit
import Derived.OpenShut
import Derived.Below
import Derived.StillTailTactics
namespace Go.Proofs.YtedgpglldlohfaaDoor.RefOne
open Go.RowKit Mur Lanes
set_option maxRecDepth 100000

end Go.Proofs.YtedgpglldlohfaaDoor.RefOne

namespace Go.Proofs.YtedgpglldlohfaaDoor.RefXor
open Go.RowKit Mur LanesXor
set_option maxRecDepth 100000

end Go.Proofs.YtedgpglldlohfaaDoor.RefXor

namespace Go.Proofs.YtedgpglldlohfaaDoor.RefTwo
open Go.RowKit Mur Lanes
set_option maxRecDepth 100000

theorem word_sum (l : List UInt8) (j : Nat) : word l false j = byt l (4 * j) + byt l (4 * j + 1) * 256 + byt l (4 * j + 2) * 65536 + byt l (4 * j + 3) * 16777216 ∧
    word l true j = byt l (4 * j) * 16777216 + byt l (4 * j + 1) * 65536 + byt l (4 * j + 2) * 256 + byt l (4 * j + 3) := by
  have e : 4 * j + 4 - 4 * j = 4 := by omega
  unfold word wordPart
  rw [e]
  constructor <;> simp [term, shiftN]

def wordsTo (l : List UInt8) (big : Bool) (k : Nat) : List Nat := (List.range k).map (word l big)
theorem wordsTo_succ (l : List UInt8) (big : Bool) (k : Nat) : wordsV (wordsTo l big (k + 1)) = wordsV (wordsTo l big k) ++ [.int .u32 (word l big k : Int)] := by
  simp [wordsTo, wordsV, List.range_succ]
theorem wordsTo_end (l : List UInt8) (big : Bool) : wordsTo l big (l.length / 4) = words l big := rfl

/-- A slice of its own that a call has filled is a slice of words. -/
theorem owns_words {w : World} {base n : Nat} {e : TypeId} {v : Value} {ws : List Nat} (h : w.ownsRow base e 1 v n (wordsV ws)) (hl : ∀ x ∈ ws, x < 4294967296) : Words32 w v ws := by
  have hn : ws.length = n := by have := h.1; rw [wordsV_length] at this; omega
  refine ⟨hl, ?_⟩
  rcases h.2 with ⟨rfl, h0⟩ | ⟨g, cap, cur, rfl, hb, hg, hnc, hm, hs, ht⟩
  · exact .inl ⟨List.eq_nil_of_length_eq_zero (by omega), none, 0, rfl⟩
  · refine .inr ⟨g, 0, cap, by rw [hn], lt_of_block hg, fun i hi => ?_⟩
    rw [Nat.zero_add, h.cellAt i (by omega)]
    exact wordsV_at hi

theorem one_new (w : World) (v : Value) (t : TypeId) : ∀ (j : Nat) (u : Value), [v][j]? = some u → (w.alloc (.cells #[v] t)).cell? ((⟨w.heap.size, 0, none⟩ : Addr).add j) = some u := by
  intro j u hj
  match j, hj with
  | 0, hj =>
    simp at hj
    subst hj
    simp [Addr.add]
theorem one_cells (n : Int) {k : IntKind} : ∀ u ∈ [Value.int k n], u.oneCell' = true := by
  intro u hu
  simp at hu
  subst hu
  rfl
theorem wrap_byte (l : List UInt8) (i : Nat) : (byt l i : Int) % 4294967296 = (byt l i : Int) := by
  have := byt_lt l i
  omega
/-- The four bytes of a word, or'ed as the text of the document's answer has them. -/
theorem or_four (a b c d : Nat) (ha : a < 256) (hb : b < 256) (hc : c < 256) (hd : d < 256) :
    bits .or .u32 (bits .or .u32 (bits .or .u32 ((a : Int) % 4294967296) ((b : Int) % 4294967296 * 256 % 4294967296)) ((c : Int) % 4294967296 * 65536 % 4294967296)) ((d : Int) % 4294967296 * 16777216 % 4294967296) =
      ((a + b * 256 + c * 65536 + d * 16777216 : Nat) : Int) := by
  have e0 : (a : Int) % 4294967296 = (a : Int) := by omega
  have e1 : (b : Int) % 4294967296 * 256 % 4294967296 = ((b * 2 ^ 8 : Nat) : Int) := by omega
  have e2 : (c : Int) % 4294967296 * 65536 % 4294967296 = ((c * 2 ^ 16 : Nat) : Int) := by omega
  have e3 : (d : Int) % 4294967296 * 16777216 % 4294967296 = ((d * 2 ^ 24 : Nat) : Int) := by omega
  rw [e0, e1, e2, e3, u32_or_nat _ _ (by omega) (by omega), or_add _ _ _ (by omega), u32_or_nat _ _ (by omega) (by omega), or_add _ _ _ (by omega), u32_or_nat _ _ (by omega) (by omega), or_add _ _ _ (by omega)]

theorem word_lt (l : List UInt8) (big : Bool) (k : Nat) : word l big k < 4294967296 := wordPart_lt _ _ _ _
theorem or_little (s : ByteArray) (k : Nat) (h : 4 * k + 4 ≤ s.size) :
    bits .or .u32 (bits .or .u32 (bits .or .u32 (((s[4 * k]'(by omega)).toNat : Int) % 4294967296) (((s[4 * k + 1]'(by omega)).toNat : Int) % 4294967296 * 256 % 4294967296)) (((s[4 * k + 2]'(by omega)).toNat : Int) % 4294967296 * 65536 % 4294967296)) (((s[4 * k + 3]'(by omega)).toNat : Int) % 4294967296 * 16777216 % 4294967296) =
      (word s.data.toList false k : Int) := by
  rw [or_four _ _ _ _ (UInt8.toNat_lt _) (UInt8.toNat_lt _) (UInt8.toNat_lt _) (UInt8.toNat_lt _), (word_sum _ k).1]
  rw [byt_get (l := s.data.toList) (i := 4 * k) (by show _ < s.size; omega), byt_get (l := s.data.toList) (i := 4 * k + 1) (by show _ < s.size; omega), byt_get (l := s.data.toList) (i := 4 * k + 2) (by show _ < s.size; omega), byt_get (l := s.data.toList) (i := 4 * k + 3) (by show _ < s.size; omega)]
  rfl
theorem or_big (s : ByteArray) (k : Nat) (h : 4 * k + 4 ≤ s.size) :
    bits .or .u32 (bits .or .u32 (bits .or .u32 (((s[4 * k + 3]'(by omega)).toNat : Int) % 4294967296) (((s[4 * k + 2]'(by omega)).toNat : Int) % 4294967296 * 256 % 4294967296)) (((s[4 * k + 1]'(by omega)).toNat : Int) % 4294967296 * 65536 % 4294967296)) (((s[4 * k]'(by omega)).toNat : Int) % 4294967296 * 16777216 % 4294967296) =
      (word s.data.toList true k : Int) := by
  rw [or_four _ _ _ _ (UInt8.toNat_lt _) (UInt8.toNat_lt _) (UInt8.toNat_lt _) (UInt8.toNat_lt _), (word_sum _ k).2]
  rw [byt_get (l := s.data.toList) (i := 4 * k) (by show _ < s.size; omega), byt_get (l := s.data.toList) (i := 4 * k + 1) (by show _ < s.size; omega), byt_get (l := s.data.toList) (i := 4 * k + 2) (by show _ < s.size; omega), byt_get (l := s.data.toList) (i := 4 * k + 3) (by show _ < s.size; omega)]
  have e : ∀ a b c d : Nat, a + b * 256 + c * 65536 + d * 16777216 = d * 16777216 + c * 65536 + b * 256 + a := by omega
  rw [e]
  rfl

/-- The bytes of the words below j, and k of the j-th: those are laid. -/
def textAt (ws : List Nat) (big : Bool) (j k : Nat) : List UInt8 := (List.range (4 * ws.length)).map fun i => if i / 4 < j ∨ (i / 4 = j ∧ shiftN i big < 8 * k) then UInt8.ofNat (ws.getD (i / 4) 0 / 2 ^ shiftN i big) else 0
def placeOf (j k : Nat) (big : Bool) : Nat := if big then 4 * j + 3 - k else 4 * j + k
theorem shiftN_place (j k : Nat) (big : Bool) (hk : k < 4) : shiftN (placeOf j k big) big = 8 * k ∧ placeOf j k big / 4 = j := by
  cases big <;> simp [shiftN, placeOf] <;> omega
theorem shiftN_inj (i j k : Nat) (big : Bool) (hk : k < 4) (h1 : i / 4 = j) (h2 : shiftN i big = 8 * k) : i = placeOf j k big := by
  cases big <;> simp [shiftN, placeOf] at * <;> omega
theorem shiftN_eight (i : Nat) (big : Bool) : ∃ t, shiftN i big = 8 * t ∧ t < 4 := by
  cases big
  · exact ⟨i % 4, by simp [shiftN], by omega⟩
  · exact ⟨3 - i % 4, by simp [shiftN], by omega⟩
theorem textAt_length (ws : List Nat) (big : Bool) (j k : Nat) : (textAt ws big j k).length = 4 * ws.length := by simp [textAt]
theorem textAt_zero (ws : List Nat) (big : Bool) : textAt ws big 0 0 = List.replicate (4 * ws.length) 0 := by
  apply List.ext_getElem (by simp [textAt])
  intro i h1 h2
  simp [textAt]
theorem textAt_next (ws : List Nat) (big : Bool) (j : Nat) : textAt ws big j 4 = textAt ws big (j + 1) 0 := by
  apply List.ext_getElem (by simp [textAt])
  intro i h1 h2
  obtain ⟨t, ht, ht4⟩ := shiftN_eight i big
  have e : (i / 4 < j ∨ (i / 4 = j ∧ shiftN i big < 8 * 4)) = (i / 4 < j + 1 ∨ (i / 4 = j + 1 ∧ shiftN i big < 8 * 0)) := by
    rw [ht]
    simp only [eq_iff_iff]
    omega
  simp only [textAt, List.getElem_map, List.getElem_range, e]
theorem textAt_end (ws : List Nat) (big : Bool) (j : Nat) (h : ws.length ≤ j) : textAt ws big j 0 = text ws big := by
  apply List.ext_getElem (by simp [textAt, text])
  intro i h1 h2
  have hi : i < 4 * ws.length := by simpa [textAt] using h1
  have hk : i / 4 < j := by omega
  simp [textAt, text, hk]
theorem textAt_succ (ws : List Nat) (big : Bool) (j k : Nat) (hk : k < 4) : (textAt ws big j k).set (placeOf j k big) (UInt8.ofNat (ws.getD j 0 / 2 ^ (8 * k))) = textAt ws big j (k + 1) := by
  apply List.ext_getElem (by simp [textAt])
  intro i h1 h2
  obtain ⟨hp1, hp2⟩ := shiftN_place j k big hk
  rw [List.getElem_set]
  by_cases e : placeOf j k big = i
  · subst e
    simp [textAt, hp1, hp2]
  · obtain ⟨t, ht, ht4⟩ := shiftN_eight i big
    have hne : ¬ (i / 4 = j ∧ t = k) := fun ⟨h1, h2⟩ => e (shiftN_inj i j k big hk h1 (by rw [ht, h2])).symm
    have e1 : (i / 4 < j ∨ (i / 4 = j ∧ shiftN i big < 8 * (k + 1))) = (i / 4 < j ∨ (i / 4 = j ∧ shiftN i big < 8 * k)) := by
      rw [ht]
      simp only [eq_iff_iff]
      omega
    simp only [textAt, List.getElem_map, List.getElem_range, e1, e, if_false]

end Go.Proofs.YtedgpglldlohfaaDoor.RefTwo

namespace Go.Proofs.YtedgpglldlohfaaDoor.RefOne
open Go.RowKit Mur Lanes

end Go.Proofs.YtedgpglldlohfaaDoor.RefOne

namespace Go.Proofs.YtedgpglldlohfaaDoor.RefOne
open Go.RowKit Mur Lanes

/-- The j highest of the lowest m bytes as a number. -/
def topN (l : List UInt8) (m : Nat) : Nat → Nat
  | 0 => 0
  | j + 1 => topN l m j * 256 + byt l (m - 1 - j)
theorem topN_low (l : List UInt8) (m j : Nat) (h : j ≤ m) : lowN l m = lowN l (m - j) + 2 ^ (8 * (m - j)) * topN l m j := by
  induction j with
  | zero => simp [topN]
  | succ j ih =>
    rw [ih (by omega)]
    obtain ⟨t, ht⟩ : ∃ t, m - j = t + 1 := ⟨m - j - 1, by omega⟩
    have e1 : m - (j + 1) = t := by omega
    have e2 : m - 1 - j = t := by omega
    rw [ht, e1, topN, e2, lowN, Nat.mul_add, Nat.pow_add]
    have : 2 ^ (8 * t) * 2 ^ (8 * 1) * topN l m j = 2 ^ (8 * t) * (topN l m j * 256) := by
      rw [Nat.mul_assoc, Nat.mul_comm (topN l m j)]
    rw [this, Nat.mul_add, Nat.mul_comm (byt l t)]
    omega
theorem topN_lt (l : List UInt8) (m j : Nat) : topN l m j < 2 ^ (8 * j) := by
  induction j with
  | zero => simp [topN]
  | succ j ih =>
    have := byt_lt l (m - 1 - j)
    rw [topN, Nat.mul_add, Nat.pow_add]
    omega
theorem topN_all (l : List UInt8) (m : Nat) : topN l m m = lowN l m := by
  have := topN_low l m m (Nat.le_refl _)
  simp [lowN] at this
  exact this.symm

end Go.Proofs.YtedgpglldlohfaaDoor.RefOne
