/-
  The plain mathematics of package lanes: what its functions answer, as functions on lists of bytes. Nothing here speaks of a program: no condition but those that each lemma names.
-/
import Derived.Test.YtpamdpfgcbadhaaDoorMur
namespace Go.Proofs.YtpamdpfgcbadhaaDoor.Lanes
open Go.RowKit Mur

/-- A byte of a text, 0 beyond its end. -/
def byt (l : List UInt8) (i : Nat) : Nat := (l.getD i 0).toNat
theorem byt_lt (l : List UInt8) (i : Nat) : byt l i < 256 := (l.getD i 0).toNat_lt
theorem byt_get {l : List UInt8} {i : Nat} (h : i < l.length) : byt l i = l[i].toNat := by simp [byt, List.getD, h]

def shiftN (i : Nat) (big : Bool) : Nat := if big then 8 * (3 - i % 4) else 8 * (i % 4)

/-- The lowest k bytes as a number. -/
def lowN (l : List UInt8) : Nat → Nat
  | 0 => 0
  | k + 1 => lowN l k + byt l k * 2 ^ (8 * k)
theorem lowN_lt (l : List UInt8) (k : Nat) : lowN l k < 2 ^ (8 * k) := by
  induction k with
  | zero => simp [lowN]
  | succ k ih =>
    have hb := byt_lt l k
    have e : 2 ^ (8 * (k + 1)) = 256 * 2 ^ (8 * k) := by rw [Nat.mul_add, Nat.pow_add]; omega
    have h1 : byt l k * 2 ^ (8 * k) ≤ 255 * 2 ^ (8 * k) := Nat.mul_le_mul_right _ (by omega)
    rw [lowN, e]
    omega
/-- Low's answer. -/
def low (l : List UInt8) : Nat := lowN l (min l.length 8)

theorem or_add (a b k : Nat) (h : a < 2 ^ k) : a ||| b * 2 ^ k = a + b * 2 ^ k := by
  have := Nat.two_pow_add_eq_or_of_lt h b
  rw [Nat.mul_comm] at this
  rw [Nat.or_comm, ← this, Nat.add_comm]
theorem or_add' (a b k : Nat) (h : a < 2 ^ k) : b * 2 ^ k ||| a = b * 2 ^ k + a := by
  rw [Nat.or_comm, or_add a b k h, Nat.add_comm]

/-- Alike's answer, and what the loop has gathered. -/
def differ (a b : List UInt8) : Nat → UInt8
  | 0 => 0
  | k + 1 => differ a b k ||| (a.getD k 0 ^^^ b.getD k 0)

theorem or_eq_zero (x y : UInt8) : (x ||| y) = 0 ↔ x = 0 ∧ y = 0 := by
  constructor
  · intro h
    have h2 : x.toNat ||| y.toNat = 0 := by rw [← UInt8.toNat_or, h]; rfl
    have h3 := Nat.or_eq_zero_iff.mp h2
    exact ⟨UInt8.toNat_inj.mp h3.1, UInt8.toNat_inj.mp h3.2⟩
  · rintro ⟨rfl, rfl⟩; rfl
theorem xor_eq_zero (x y : UInt8) : (x ^^^ y) = 0 ↔ x = y := UInt8.xor_eq_zero_iff
theorem differ_zero (a b : List UInt8) (k : Nat) : differ a b k = 0 ↔ ∀ i, i < k → a.getD i 0 = b.getD i 0 := by
  induction k with
  | zero => simp [differ]
  | succ k ih =>
    rw [differ, or_eq_zero, xor_eq_zero, ih]
    constructor
    · rintro ⟨h1, h2⟩ i hi
      by_cases e : i = k
      · rw [e]; exact h2
      · exact h1 i (by omega)
    · intro h
      exact ⟨fun i hi => h i (by omega), h k (by omega)⟩
theorem differ_same (a b : List UInt8) : (a.length = b.length ∧ differ a b (min a.length b.length) = 0) ↔ a = b := by
  rw [differ_zero]
  constructor
  · rintro ⟨h1, h2⟩
    apply List.ext_getElem h1
    intro i hi1 hi2
    have := h2 i (by omega)
    simpa [List.getD, hi1, hi2] using this
  · rintro rfl
    exact ⟨rfl, fun _ _ => rfl⟩

/-- Bit's answer. -/
def bit (l : List UInt8) (at_ : Int) : Nat := if at_ < 0 ∨ (l.length : Int) ≤ at_ / 8 then 0 else byt l (at_ / 8).toNat / 2 ^ (at_ % 8).toNat % 2
theorem bit_lt (l : List UInt8) (at_ : Int) : bit l at_ < 2 := by unfold bit; split <;> omega

/-- High's answer: the lowest m bytes of n, the highest first. -/
def high (n m : Nat) : List UInt8 := (List.range m).map fun i => UInt8.ofNat (n / 2 ^ (8 * (m - 1 - i)))
/-- The last k of them are done. -/
def highPart (n m k : Nat) : List UInt8 := (List.range m).map fun i => if m - 1 - i < k then UInt8.ofNat (n / 2 ^ (8 * (m - 1 - i))) else 0
def widthOf (wd : Int) : Nat := (min (max wd 0) 64).toNat

theorem highPart_zero (n m : Nat) : highPart n m 0 = List.replicate m 0 := by
  apply List.ext_getElem (by simp [highPart])
  intro i h1 h2
  simp [highPart]
theorem highPart_succ (n m k : Nat) (h : k < m) : (highPart n m k).set (m - 1 - k) (UInt8.ofNat (n / 2 ^ (8 * k))) = highPart n m (k + 1) := by
  apply List.ext_getElem (by simp [highPart])
  intro i h1 h2
  have hi : i < m := by simpa [highPart] using h2
  rw [List.getElem_set]
  by_cases e : m - 1 - k = i
  · have e2 : m - 1 - i = k := by omega
    simp [highPart, e, e2]
  · have e1 : (m - 1 - i < k + 1) = (m - 1 - i < k) := by simp; omega
    simp [highPart, e, e1]
theorem highPart_end (n m : Nat) (hn : n < 18446744073709551616) : highPart n m (min m 8) = high n m := by
  apply List.ext_getElem (by simp [highPart, high])
  intro i h1 h2
  have hi : i < m := by simpa [highPart] using h1
  simp only [highPart, high, List.getElem_map, List.getElem_range]
  split
  · rfl
  · have h8 : 8 ≤ m - 1 - i := by omega
    have hp : 2 ^ 64 ≤ 2 ^ (8 * (m - 1 - i)) := Nat.pow_le_pow_right (by omega) (by omega)
    have : n / 2 ^ (8 * (m - 1 - i)) = 0 := Nat.div_eq_of_lt (by omega)
    rw [this]; rfl

/-- A word of four bytes as far as its bytes below k are laid; whole, it is what Words answers. -/
def term (l : List UInt8) (big : Bool) (c j i : Nat) : Nat := if i < c then byt l (4 * j + i) * 2 ^ shiftN i big else 0
def wordPart (l : List UInt8) (big : Bool) (k j : Nat) : Nat := term l big (k - 4 * j) j 0 + term l big (k - 4 * j) j 1 + term l big (k - 4 * j) j 2 + term l big (k - 4 * j) j 3
def word (l : List UInt8) (big : Bool) (j : Nat) : Nat := wordPart l big (4 * j + 4) j
def words (l : List UInt8) (big : Bool) : List Nat := (List.range (l.length / 4)).map (word l big)
def wordsPart (l : List UInt8) (big : Bool) (k : Nat) : List Nat := (List.range (l.length / 4)).map (wordPart l big k)

theorem shiftN_le (i : Nat) (big : Bool) : shiftN i big ≤ 24 := by unfold shiftN; split <;> omega
theorem shiftN_mod (q r : Nat) (big : Bool) : shiftN (4 * q + r) big = shiftN r big := by
  unfold shiftN
  have e : (4 * q + r) % 4 = r % 4 := by omega
  rw [e]
theorem term_past (l : List UInt8) (big : Bool) (c d j i : Nat) (h : i < 4) (hc : 4 ≤ c) (hd : 4 ≤ d) : term l big c j i = term l big d j i := by
  have e1 : i < c := by omega
  have e2 : i < d := by omega
  simp [term, e1, e2]
theorem wordPart_past (l : List UInt8) (big : Bool) (k j : Nat) (h : 4 * j + 4 ≤ k) : wordPart l big k j = word l big j := by
  unfold word wordPart
  rw [term_past l big (k - 4 * j) (4 * j + 4 - 4 * j) j 0 (by omega) (by omega) (by omega), term_past l big (k - 4 * j) (4 * j + 4 - 4 * j) j 1 (by omega) (by omega) (by omega),
    term_past l big (k - 4 * j) (4 * j + 4 - 4 * j) j 2 (by omega) (by omega) (by omega), term_past l big (k - 4 * j) (4 * j + 4 - 4 * j) j 3 (by omega) (by omega) (by omega)]
theorem wordPart_far (l : List UInt8) (big : Bool) (k j : Nat) (h : k / 4 ≠ j) : wordPart l big (k + 1) j = wordPart l big k j := by
  by_cases hk : k < 4 * j
  · have e1 : k + 1 - 4 * j = 0 := by omega
    have e2 : k - 4 * j = 0 := by omega
    unfold wordPart
    rw [e1, e2]
  · rw [wordPart_past l big k j (by omega), wordPart_past l big (k + 1) j (by omega)]
theorem wordPart_step (l : List UInt8) (big : Bool) (k : Nat) : wordPart l big k (k / 4) ||| byt l k * 2 ^ shiftN k big = wordPart l big (k + 1) (k / 4) := by
  obtain ⟨q, r, hk, hr⟩ : ∃ q r, k = 4 * q + r ∧ r < 4 := ⟨k / 4, k % 4, by omega, by omega⟩
  have hq : k / 4 = q := by omega
  have b0 := byt_lt l (4 * q)
  have b1 := byt_lt l (4 * q + 1)
  have b2 := byt_lt l (4 * q + 2)
  have b3 := byt_lt l (4 * q + 3)
  rw [hq]
  subst hk
  have e1 : 4 * q + r - 4 * q = r := by omega
  have e2 : 4 * q + r + 1 - 4 * q = r + 1 := by omega
  unfold wordPart
  rw [shiftN_mod, e1, e2]
  clear e1 e2 hq
  obtain rfl | rfl | rfl | rfl : r = 0 ∨ r = 1 ∨ r = 2 ∨ r = 3 := by omega
  all_goals
    cases big
    all_goals simp [term, shiftN]
  · exact or_add _ _ 8 (by omega)
  · have := or_add' (byt l (4 * q + 1) * 65536) (byt l (4 * q)) 24 (by omega)
    simpa using this
  · exact or_add _ _ 16 (by omega)
  · have := or_add' (byt l (4 * q + 2) * 256) (byt l (4 * q) * 256 + byt l (4 * q + 1)) 16 (by omega)
    have e : (byt l (4 * q) * 256 + byt l (4 * q + 1)) * 2 ^ 16 = byt l (4 * q) * 16777216 + byt l (4 * q + 1) * 65536 := by omega
    rw [e] at this
    exact this
  · exact or_add _ _ 24 (by omega)
  · have := or_add' (byt l (4 * q + 3)) (byt l (4 * q) * 65536 + byt l (4 * q + 1) * 256 + byt l (4 * q + 2)) 8 (by omega)
    have e : (byt l (4 * q) * 65536 + byt l (4 * q + 1) * 256 + byt l (4 * q + 2)) * 2 ^ 8 = byt l (4 * q) * 16777216 + byt l (4 * q + 1) * 65536 + byt l (4 * q + 2) * 256 := by omega
    rw [e] at this
    exact this
theorem wordPart_lt (l : List UInt8) (big : Bool) (k j : Nat) : wordPart l big k j < 4294967296 := by
  have b0 := byt_lt l (4 * j)
  have b1 := byt_lt l (4 * j + 1)
  have b2 := byt_lt l (4 * j + 2)
  have b3 := byt_lt l (4 * j + 3)
  cases big <;> simp [wordPart, term, shiftN] <;> (repeat' split) <;> omega
theorem wordsPart_zero (l : List UInt8) (big : Bool) : wordsPart l big 0 = List.replicate (l.length / 4) 0 := by
  apply List.ext_getElem (by simp [wordsPart])
  intro i h1 h2
  simp [wordsPart, wordPart, term]
theorem wordsPart_succ (l : List UInt8) (big : Bool) (k : Nat) : (wordsPart l big k).set (k / 4) (wordPart l big k (k / 4) ||| byt l k * 2 ^ shiftN k big) = wordsPart l big (k + 1) := by
  apply List.ext_getElem (by simp [wordsPart])
  intro i h1 h2
  rw [List.getElem_set]
  by_cases e : k / 4 = i
  · have hs := wordPart_step l big k
    rw [e] at hs
    simp [wordsPart, e, hs]
  · simp [wordsPart, e, wordPart_far l big k i e]
theorem wordsPart_end (l : List UInt8) (big : Bool) (k : Nat) (h : 4 * (l.length / 4) ≤ k) : wordsPart l big k = words l big := by
  apply List.ext_getElem (by simp [wordsPart, words])
  intro i h1 h2
  have hi : i < l.length / 4 := by simpa [wordsPart] using h1
  simp [wordsPart, words, wordPart_past l big k i (by omega)]
theorem words_length (l : List UInt8) (big : Bool) : (words l big).length = l.length / 4 := by simp [words]
theorem wordsPart_length (l : List UInt8) (big : Bool) (k : Nat) : (wordsPart l big k).length = l.length / 4 := by simp [wordsPart]

/-- Text's answer. -/
def text (ws : List Nat) (big : Bool) : List UInt8 := (List.range (4 * ws.length)).map fun i => UInt8.ofNat (ws.getD (i / 4) 0 / 2 ^ shiftN i big)
def textPart (ws : List Nat) (big : Bool) (k : Nat) : List UInt8 := (List.range (4 * ws.length)).map fun i => if i < k then UInt8.ofNat (ws.getD (i / 4) 0 / 2 ^ shiftN i big) else 0
theorem textPart_zero (ws : List Nat) (big : Bool) : textPart ws big 0 = List.replicate (4 * ws.length) 0 := by
  apply List.ext_getElem (by simp [textPart])
  intro i h1 h2
  simp [textPart]
theorem textPart_succ (ws : List Nat) (big : Bool) (k : Nat) : (textPart ws big k).set k (UInt8.ofNat (ws.getD (k / 4) 0 / 2 ^ shiftN k big)) = textPart ws big (k + 1) := by
  apply List.ext_getElem (by simp [textPart])
  intro i h1 h2
  rw [List.getElem_set]
  by_cases e : k = i
  · subst e; simp [textPart]
  · have e1 : (i < k + 1) = (i < k) := by simp; omega
    simp [textPart, e, e1]
theorem textPart_end (ws : List Nat) (big : Bool) (k : Nat) (h : 4 * ws.length ≤ k) : textPart ws big k = text ws big := by
  apply List.ext_getElem (by simp [textPart, text])
  intro i h1 h2
  have hi : i < 4 * ws.length := by simpa [textPart] using h1
  have hk : i < k := by omega
  simp [textPart, text, hk]
theorem text_length (ws : List Nat) (big : Bool) : (text ws big).length = 4 * ws.length := by simp [text]
theorem textPart_length (ws : List Nat) (big : Bool) (k : Nat) : (textPart ws big k).length = 4 * ws.length := by simp [textPart]

/-- A row of words of 32 bits, as the model has them. -/
def wordsV (ws : List Nat) : List Value := ws.map fun (n : Nat) => Value.int .u32 (n : Int)
theorem wordsV_length (ws : List Nat) : (wordsV ws).length = ws.length := by simp [wordsV]
theorem wordsV_at {ws : List Nat} {i : Nat} (h : i < ws.length) : (wordsV ws)[i]? = some (.int .u32 (ws[i] : Int)) := by simp [wordsV, h]
theorem wordsV_set (ws : List Nat) (i n : Nat) : (wordsV ws).set i (.int .u32 (n : Int)) = wordsV (ws.set i n) := by simp [wordsV, List.map_set]

theorem shl32 (x s : Nat) (h : x < 4294967296) (h2 : x * 2 ^ s < 4294967296) : ((x : Int) % 4294967296 * 2 ^ s % 4294967296) = ((x * 2 ^ s : Nat) : Int) := by
  have e1 : (x : Int) % 4294967296 = (x : Int) := by omega
  have e2 : ((x : Int) * 2 ^ s) = ((x * 2 ^ s : Nat) : Int) := by rw [Int.natCast_mul, Int.natCast_pow]; rfl
  rw [e1, e2]
  omega
theorem shr8 (x s : Nat) : ((x : Int) / 2 ^ s % 256) = ((UInt8.ofNat (x / 2 ^ s)).toNat : Int) := by
  rw [UInt8.toNat_ofNat', Int.natCast_emod, Int.natCast_ediv, Int.natCast_pow]
  rfl

/-- v is a slice of the words ws, that lie in memory. -/
def Words32 (w : World) (v : Value) (ws : List Nat) : Prop :=
  (∀ x ∈ ws, x < 4294967296) ∧ ((ws = [] ∧ ∃ a c, v = .slice a 0 c) ∨ ∃ b o cap, v = .slice (some ⟨b, o, none⟩) ws.length cap ∧ b < w.heap.size ∧ ∀ i (h : i < ws.length), w.cell? ⟨b, o + i, none⟩ = some (.int .u32 (ws[i] : Int)))
theorem Words32.below {B : Nat} {w w' : World} {v : Value} {ws : List Nat} (h : Words32 w v ws) (k : Below B w w') (hB : B = w.heap.size) : Words32 w' v ws := by
  subst hB
  refine ⟨h.1, ?_⟩
  rcases h.2 with h | ⟨b, o, cap, hv, hb, hc⟩
  · exact .inl h
  · exact .inr ⟨b, o, cap, hv, Nat.lt_of_lt_of_le hb k.size, fun i hi => by rw [k.cell (p := ⟨b, o + i, none⟩) hb]; exact hc i hi⟩
theorem words_lt (l : List UInt8) (big : Bool) : ∀ x ∈ words l big, x < 4294967296 := by
  intro x hx
  simp only [words, List.mem_map] at hx
  obtain ⟨j, _, rfl⟩ := hx
  exact wordPart_lt _ _ _ _
theorem Words32.of_row {w : World} {b n cap : Nat} {ws : List Nat} (h : Row w b (wordsV ws)) (hn : n = ws.length) (hl : ∀ x ∈ ws, x < 4294967296) : Words32 w (.slice (some ⟨b, 0, none⟩) n cap) ws := by
  subst hn
  exact ⟨hl, .inr ⟨b, 0, cap, rfl, h.lt, fun i hi => by rw [Nat.zero_add]; exact h.cell (wordsV_at hi)⟩⟩

end Go.Proofs.YtpamdpfgcbadhaaDoor.Lanes
