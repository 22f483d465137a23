/-
  Several texts as one (LanesSpec, LnBase, LnHigh, LnText, LnWords, LanesTwo, LanesXor, LnBit). The plain mathematics of package lanes: what its functions answer, as functions on lists of bytes. Nothing here speaks of a program: no condition but those that each lemma names. The shift of package lanes, and what make makes of bytes and words: what the plain mathematics of the text LanesSpec says. No condition but those that each names. lanes.High answers what the plain mathematics of the text LanesSpec says, and leaves all memory that was there as it was. Condition: the number and the width are of their kinds. lanes.Text answers what the plain mathematics of the text LanesSpec says, and leaves all memory that was there as it was. Condition: the list takes no more than the reach of the form. lanes.Words answers what the plain mathematics of the text LanesSpec says, and leaves all memory that was there as it was. Condition: the text takes no more than the reach of the form. Words and Text of package lanes: their contracts stand in the texts that are named here. No condition of its own. lanes.Xor, for every two texts: the bytes of the first, each exclusively or'ed with that of the second at its place, as far as the second goes. Condition: the first text takes no more than the reach of the form. lanes.Bit answers what the plain mathematics of the text LanesSpec says, and leaves the world as it was. Condition: the text takes no more than the reach of the form.
-/
import Derived.Test.YtedgpglldlohfaaDoorMur
import Derived.Test.YtedgpglldlohfaaDoorChecked
import Derived.BigQuiet
import Derived.StillTailTactics
import Derived.Deep.QuietTactic
namespace Go.Proofs.YtedgpglldlohfaaDoor.Lanes
open Go.RowKit Mur

/-- A byte of a text, 0 beyond its end. -/
def byt (l : List UInt8) (i : Nat) : Nat := (l.getD i 0).toNat
theorem byt_lt (l : List UInt8) (i : Nat) : byt l i < 256 := (l.getD i 0).toNat_lt
theorem byt_get {l : List UInt8} {i : Nat} (h : i < l.length) : byt l i = l[i].toNat := by simp [byt, List.getD, h]

def shiftN (i : Nat) (big : Bool) : Nat := if big then 8 * (3 - i % 4) else 8 * (i % 4)

/-- The lowest k bytes as a number. -/
def lowN (l : List UInt8) : Nat → Nat
  | 0 => 0
  | k + 1 => lowN l k + byt l k * 2 ^ (8 * k)
theorem lowN_lt (l : List UInt8) (k : Nat) : lowN l k < 2 ^ (8 * k) := by
  induction k with
  | zero => simp [lowN]
  | succ k ih =>
    have hb := byt_lt l k
    have e : 2 ^ (8 * (k + 1)) = 256 * 2 ^ (8 * k) := by rw [Nat.mul_add, Nat.pow_add]; omega
    have h1 : byt l k * 2 ^ (8 * k) ≤ 255 * 2 ^ (8 * k) := Nat.mul_le_mul_right _ (by omega)
    rw [lowN, e]
    omega
/-- Low's answer. -/
def low (l : List UInt8) : Nat := lowN l (min l.length 8)

theorem or_add (a b k : Nat) (h : a < 2 ^ k) : a ||| b * 2 ^ k = a + b * 2 ^ k := by
  have := Nat.two_pow_add_eq_or_of_lt h b
  rw [Nat.mul_comm] at this
  rw [Nat.or_comm, ← this, Nat.add_comm]
theorem or_add' (a b k : Nat) (h : a < 2 ^ k) : b * 2 ^ k ||| a = b * 2 ^ k + a := by
  rw [Nat.or_comm, or_add a b k h, Nat.add_comm]

/-- Alike's answer, and what the loop has gathered. -/
def differ (a b : List UInt8) : Nat → UInt8
  | 0 => 0
  | k + 1 => differ a b k ||| (a.getD k 0 ^^^ b.getD k 0)

theorem or_eq_zero (x y : UInt8) : (x ||| y) = 0 ↔ x = 0 ∧ y = 0 := by
  constructor
  · intro h
    have h2 : x.toNat ||| y.toNat = 0 := by rw [← UInt8.toNat_or, h]; rfl
    have h3 := Nat.or_eq_zero_iff.mp h2
    exact ⟨UInt8.toNat_inj.mp h3.1, UInt8.toNat_inj.mp h3.2⟩
  · rintro ⟨rfl, rfl⟩; rfl
theorem xor_eq_zero (x y : UInt8) : (x ^^^ y) = 0 ↔ x = y := UInt8.xor_eq_zero_iff
theorem differ_zero (a b : List UInt8) (k : Nat) : differ a b k = 0 ↔ ∀ i, i < k → a.getD i 0 = b.getD i 0 := by
  induction k with
  | zero => simp [differ]
  | succ k ih =>
    rw [differ, or_eq_zero, xor_eq_zero, ih]
    constructor
    · rintro ⟨h1, h2⟩ i hi
      by_cases e : i = k
      · rw [e]; exact h2
      · exact h1 i (by omega)
    · intro h
      exact ⟨fun i hi => h i (by omega), h k (by omega)⟩
theorem differ_same (a b : List UInt8) : (a.length = b.length ∧ differ a b (min a.length b.length) = 0) ↔ a = b := by
  rw [differ_zero]
  constructor
  · rintro ⟨h1, h2⟩
    apply List.ext_getElem h1
    intro i hi1 hi2
    have := h2 i (by omega)
    simpa [List.getD, hi1, hi2] using this
  · rintro rfl
    exact ⟨rfl, fun _ _ => rfl⟩

/-- Bit's answer. -/
def bit (l : List UInt8) (at_ : Int) : Nat := if at_ < 0 ∨ (l.length : Int) ≤ at_ / 8 then 0 else byt l (at_ / 8).toNat / 2 ^ (at_ % 8).toNat % 2
theorem bit_lt (l : List UInt8) (at_ : Int) : bit l at_ < 2 := by unfold bit; split <;> omega

/-- High's answer: the lowest m bytes of n, the highest first. -/
def high (n m : Nat) : List UInt8 := (List.range m).map fun i => UInt8.ofNat (n / 2 ^ (8 * (m - 1 - i)))
/-- The last k of them are done. -/
def highPart (n m k : Nat) : List UInt8 := (List.range m).map fun i => if m - 1 - i < k then UInt8.ofNat (n / 2 ^ (8 * (m - 1 - i))) else 0
def widthOf (wd : Int) : Nat := (min (max wd 0) 64).toNat

theorem highPart_zero (n m : Nat) : highPart n m 0 = List.replicate m 0 := by
  apply List.ext_getElem (by simp [highPart])
  intro i h1 h2
  simp [highPart]
theorem highPart_succ (n m k : Nat) (h : k < m) : (highPart n m k).set (m - 1 - k) (UInt8.ofNat (n / 2 ^ (8 * k))) = highPart n m (k + 1) := by
  apply List.ext_getElem (by simp [highPart])
  intro i h1 h2
  have hi : i < m := by simpa [highPart] using h2
  rw [List.getElem_set]
  by_cases e : m - 1 - k = i
  · have e2 : m - 1 - i = k := by omega
    simp [highPart, e, e2]
  · have e1 : (m - 1 - i < k + 1) = (m - 1 - i < k) := by simp; omega
    simp [highPart, e, e1]
theorem highPart_end (n m : Nat) (hn : n < 18446744073709551616) : highPart n m (min m 8) = high n m := by
  apply List.ext_getElem (by simp [highPart, high])
  intro i h1 h2
  have hi : i < m := by simpa [highPart] using h1
  simp only [highPart, high, List.getElem_map, List.getElem_range]
  split
  · rfl
  · have h8 : 8 ≤ m - 1 - i := by omega
    have hp : 2 ^ 64 ≤ 2 ^ (8 * (m - 1 - i)) := Nat.pow_le_pow_right (by omega) (by omega)
    have : n / 2 ^ (8 * (m - 1 - i)) = 0 := Nat.div_eq_of_lt (by omega)
    rw [this]; rfl

/-- A word of four bytes as far as its bytes below k are laid; whole, it is what Words answers. -/
def term (l : List UInt8) (big : Bool) (c j i : Nat) : Nat := if i < c then byt l (4 * j + i) * 2 ^ shiftN i big else 0
def wordPart (l : List UInt8) (big : Bool) (k j : Nat) : Nat := term l big (k - 4 * j) j 0 + term l big (k - 4 * j) j 1 + term l big (k - 4 * j) j 2 + term l big (k - 4 * j) j 3
def word (l : List UInt8) (big : Bool) (j : Nat) : Nat := wordPart l big (4 * j + 4) j
def words (l : List UInt8) (big : Bool) : List Nat := (List.range (l.length / 4)).map (word l big)
def wordsPart (l : List UInt8) (big : Bool) (k : Nat) : List Nat := (List.range (l.length / 4)).map (wordPart l big k)

theorem shiftN_le (i : Nat) (big : Bool) : shiftN i big ≤ 24 := by unfold shiftN; split <;> omega
theorem shiftN_mod (q r : Nat) (big : Bool) : shiftN (4 * q + r) big = shiftN r big := by
  unfold shiftN
  have e : (4 * q + r) % 4 = r % 4 := by omega
  rw [e]
theorem term_past (l : List UInt8) (big : Bool) (c d j i : Nat) (h : i < 4) (hc : 4 ≤ c) (hd : 4 ≤ d) : term l big c j i = term l big d j i := by
  have e1 : i < c := by omega
  have e2 : i < d := by omega
  simp [term, e1, e2]
theorem wordPart_past (l : List UInt8) (big : Bool) (k j : Nat) (h : 4 * j + 4 ≤ k) : wordPart l big k j = word l big j := by
  unfold word wordPart
  rw [term_past l big (k - 4 * j) (4 * j + 4 - 4 * j) j 0 (by omega) (by omega) (by omega), term_past l big (k - 4 * j) (4 * j + 4 - 4 * j) j 1 (by omega) (by omega) (by omega),
    term_past l big (k - 4 * j) (4 * j + 4 - 4 * j) j 2 (by omega) (by omega) (by omega), term_past l big (k - 4 * j) (4 * j + 4 - 4 * j) j 3 (by omega) (by omega) (by omega)]
theorem wordPart_far (l : List UInt8) (big : Bool) (k j : Nat) (h : k / 4 ≠ j) : wordPart l big (k + 1) j = wordPart l big k j := by
  by_cases hk : k < 4 * j
  · have e1 : k + 1 - 4 * j = 0 := by omega
    have e2 : k - 4 * j = 0 := by omega
    unfold wordPart
    rw [e1, e2]
  · rw [wordPart_past l big k j (by omega), wordPart_past l big (k + 1) j (by omega)]
theorem wordPart_step (l : List UInt8) (big : Bool) (k : Nat) : wordPart l big k (k / 4) ||| byt l k * 2 ^ shiftN k big = wordPart l big (k + 1) (k / 4) := by
  obtain ⟨q, r, hk, hr⟩ : ∃ q r, k = 4 * q + r ∧ r < 4 := ⟨k / 4, k % 4, by omega, by omega⟩
  have hq : k / 4 = q := by omega
  have b0 := byt_lt l (4 * q)
  have b1 := byt_lt l (4 * q + 1)
  have b2 := byt_lt l (4 * q + 2)
  have b3 := byt_lt l (4 * q + 3)
  rw [hq]
  subst hk
  have e1 : 4 * q + r - 4 * q = r := by omega
  have e2 : 4 * q + r + 1 - 4 * q = r + 1 := by omega
  unfold wordPart
  rw [shiftN_mod, e1, e2]
  clear e1 e2 hq
  obtain rfl | rfl | rfl | rfl : r = 0 ∨ r = 1 ∨ r = 2 ∨ r = 3 := by omega
  all_goals
    cases big
    all_goals simp [term, shiftN]
  · exact or_add _ _ 8 (by omega)
  · have := or_add' (byt l (4 * q + 1) * 65536) (byt l (4 * q)) 24 (by omega)
    simpa using this
  · exact or_add _ _ 16 (by omega)
  · have := or_add' (byt l (4 * q + 2) * 256) (byt l (4 * q) * 256 + byt l (4 * q + 1)) 16 (by omega)
    have e : (byt l (4 * q) * 256 + byt l (4 * q + 1)) * 2 ^ 16 = byt l (4 * q) * 16777216 + byt l (4 * q + 1) * 65536 := by omega
    rw [e] at this
    exact this
  · exact or_add _ _ 24 (by omega)
  · have := or_add' (byt l (4 * q + 3)) (byt l (4 * q) * 65536 + byt l (4 * q + 1) * 256 + byt l (4 * q + 2)) 8 (by omega)
    have e : (byt l (4 * q) * 65536 + byt l (4 * q + 1) * 256 + byt l (4 * q + 2)) * 2 ^ 8 = byt l (4 * q) * 16777216 + byt l (4 * q + 1) * 65536 + byt l (4 * q + 2) * 256 := by omega
    rw [e] at this
    exact this
theorem wordPart_lt (l : List UInt8) (big : Bool) (k j : Nat) : wordPart l big k j < 4294967296 := by
  have b0 := byt_lt l (4 * j)
  have b1 := byt_lt l (4 * j + 1)
  have b2 := byt_lt l (4 * j + 2)
  have b3 := byt_lt l (4 * j + 3)
  cases big <;> simp [wordPart, term, shiftN] <;> (repeat' split) <;> omega
theorem wordsPart_zero (l : List UInt8) (big : Bool) : wordsPart l big 0 = List.replicate (l.length / 4) 0 := by
  apply List.ext_getElem (by simp [wordsPart])
  intro i h1 h2
  simp [wordsPart, wordPart, term]
theorem wordsPart_succ (l : List UInt8) (big : Bool) (k : Nat) : (wordsPart l big k).set (k / 4) (wordPart l big k (k / 4) ||| byt l k * 2 ^ shiftN k big) = wordsPart l big (k + 1) := by
  apply List.ext_getElem (by simp [wordsPart])
  intro i h1 h2
  rw [List.getElem_set]
  by_cases e : k / 4 = i
  · have hs := wordPart_step l big k
    rw [e] at hs
    simp [wordsPart, e, hs]
  · simp [wordsPart, e, wordPart_far l big k i e]
theorem wordsPart_end (l : List UInt8) (big : Bool) (k : Nat) (h : 4 * (l.length / 4) ≤ k) : wordsPart l big k = words l big := by
  apply List.ext_getElem (by simp [wordsPart, words])
  intro i h1 h2
  have hi : i < l.length / 4 := by simpa [wordsPart] using h1
  simp [wordsPart, words, wordPart_past l big k i (by omega)]
theorem words_length (l : List UInt8) (big : Bool) : (words l big).length = l.length / 4 := by simp [words]
theorem wordsPart_length (l : List UInt8) (big : Bool) (k : Nat) : (wordsPart l big k).length = l.length / 4 := by simp [wordsPart]

/-- Text's answer. -/
def text (ws : List Nat) (big : Bool) : List UInt8 := (List.range (4 * ws.length)).map fun i => UInt8.ofNat (ws.getD (i / 4) 0 / 2 ^ shiftN i big)
def textPart (ws : List Nat) (big : Bool) (k : Nat) : List UInt8 := (List.range (4 * ws.length)).map fun i => if i < k then UInt8.ofNat (ws.getD (i / 4) 0 / 2 ^ shiftN i big) else 0
theorem textPart_zero (ws : List Nat) (big : Bool) : textPart ws big 0 = List.replicate (4 * ws.length) 0 := by
  apply List.ext_getElem (by simp [textPart])
  intro i h1 h2
  simp [textPart]
theorem textPart_succ (ws : List Nat) (big : Bool) (k : Nat) : (textPart ws big k).set k (UInt8.ofNat (ws.getD (k / 4) 0 / 2 ^ shiftN k big)) = textPart ws big (k + 1) := by
  apply List.ext_getElem (by simp [textPart])
  intro i h1 h2
  rw [List.getElem_set]
  by_cases e : k = i
  · subst e; simp [textPart]
  · have e1 : (i < k + 1) = (i < k) := by simp; omega
    simp [textPart, e, e1]
theorem textPart_end (ws : List Nat) (big : Bool) (k : Nat) (h : 4 * ws.length ≤ k) : textPart ws big k = text ws big := by
  apply List.ext_getElem (by simp [textPart, text])
  intro i h1 h2
  have hi : i < 4 * ws.length := by simpa [textPart] using h1
  have hk : i < k := by omega
  simp [textPart, text, hk]
theorem text_length (ws : List Nat) (big : Bool) : (text ws big).length = 4 * ws.length := by simp [text]
theorem textPart_length (ws : List Nat) (big : Bool) (k : Nat) : (textPart ws big k).length = 4 * ws.length := by simp [textPart]

/-- A row of words of 32 bits, as the model has them. -/
def wordsV (ws : List Nat) : List Value := ws.map fun (n : Nat) => Value.int .u32 (n : Int)
theorem wordsV_length (ws : List Nat) : (wordsV ws).length = ws.length := by simp [wordsV]
theorem wordsV_at {ws : List Nat} {i : Nat} (h : i < ws.length) : (wordsV ws)[i]? = some (.int .u32 (ws[i] : Int)) := by simp [wordsV, h]
theorem wordsV_set (ws : List Nat) (i n : Nat) : (wordsV ws).set i (.int .u32 (n : Int)) = wordsV (ws.set i n) := by simp [wordsV, List.map_set]

theorem shl32 (x s : Nat) (h : x < 4294967296) (h2 : x * 2 ^ s < 4294967296) : ((x : Int) % 4294967296 * 2 ^ s % 4294967296) = ((x * 2 ^ s : Nat) : Int) := by
  have e1 : (x : Int) % 4294967296 = (x : Int) := by omega
  have e2 : ((x : Int) * 2 ^ s) = ((x * 2 ^ s : Nat) : Int) := by rw [Int.natCast_mul, Int.natCast_pow]; rfl
  rw [e1, e2]
  omega
theorem shr8 (x s : Nat) : ((x : Int) / 2 ^ s % 256) = ((UInt8.ofNat (x / 2 ^ s)).toNat : Int) := by
  rw [UInt8.toNat_ofNat', Int.natCast_emod, Int.natCast_ediv, Int.natCast_pow]
  rfl

/-- v is a slice of the words ws, that lie in memory. -/
def Words32 (w : World) (v : Value) (ws : List Nat) : Prop :=
  (∀ x ∈ ws, x < 4294967296) ∧ ((ws = [] ∧ ∃ a c, v = .slice a 0 c) ∨ ∃ b o cap, v = .slice (some ⟨b, o, none⟩) ws.length cap ∧ b < w.heap.size ∧ ∀ i (h : i < ws.length), w.cell? ⟨b, o + i, none⟩ = some (.int .u32 (ws[i] : Int)))
theorem Words32.below {B : Nat} {w w' : World} {v : Value} {ws : List Nat} (h : Words32 w v ws) (k : Below B w w') (hB : B = w.heap.size) : Words32 w' v ws := by
  subst hB
  refine ⟨h.1, ?_⟩
  rcases h.2 with h | ⟨b, o, cap, hv, hb, hc⟩
  · exact .inl h
  · exact .inr ⟨b, o, cap, hv, Nat.lt_of_lt_of_le hb k.size, fun i hi => by rw [k.cell (p := ⟨b, o + i, none⟩) hb]; exact hc i hi⟩
theorem words_lt (l : List UInt8) (big : Bool) : ∀ x ∈ words l big, x < 4294967296 := by
  intro x hx
  simp only [words, List.mem_map] at hx
  obtain ⟨j, _, rfl⟩ := hx
  exact wordPart_lt _ _ _ _
theorem Words32.of_row {w : World} {b n cap : Nat} {ws : List Nat} (h : Row w b (wordsV ws)) (hn : n = ws.length) (hl : ∀ x ∈ ws, x < 4294967296) : Words32 w (.slice (some ⟨b, 0, none⟩) n cap) ws := by
  subst hn
  exact ⟨hl, .inr ⟨b, 0, cap, rfl, h.lt, fun i hi => by rw [Nat.zero_add]; exact h.cell (wordsV_at hi)⟩⟩

end Go.Proofs.YtedgpglldlohfaaDoor.Lanes

namespace Go.Proofs.YtedgpglldlohfaaDoor.Lanes
open Go.RowKit Mur

theorem ret_int {k : IntKind} {a b : Int} (h : a = b) : Ending.returned (.int k a) = .returned (.int k b) := by rw [h]
theorem ret_bool {a b : Bool} (h : a = b) : Ending.returned (.bool a) = .returned (.bool b) := by rw [h]

set_option maxHeartbeats 800000 in
theorem shift_any (i : Nat) (big : Bool) (w : World) (hi : i ≤ 9000000000000000000) :
    Calls Tryd.prog 73 #[.int .i64 i, .bool big] w fun e w' => e = .returned (.int .i64 (shiftN i big : Nat)) ∧ w = w' := by
  cases big
  all_goals
    go_enter Tryd.func73, Tryd.ntmps73
    go_wp2
    go_ret
    exact ⟨ret_int (by simp only [shiftN]; simp <;> omega), rfl⟩

theorem shift_q (i : Nat) (big : Bool) (w : World) (hi : i ≤ 9000000000000000000) :
    Calls Tryd.prog 73 #[.int .i64 i, .bool big] w fun e w' => e = .returned (.int .i64 (shiftN i big : Nat)) ∧ w' = w :=
  (shift_any i big w hi).mono fun _ _ h => ⟨h.1, h.2.symm⟩

theorem info_u8 : (Tryd.prog.info? 5).map (fun i => (i.zero, i.size, i.bytes)) = some (some (.int .u8 0), 1, 1) := by kernel_rfl
theorem info_u32 : (Tryd.prog.info? 87).map (fun i => (i.zero, i.size, i.bytes)) = some (some (.int .u32 0), 1, 4) := by kernel_rfl

/-- What 'make([]byte, n)' and 'make([]uint32, n)' make. -/
theorem made_row (w : World) (k : IntKind) (e : TypeId) (n : Nat) : Row (w.alloc (.cells (madeCells #[.int k 0] n) e)) w.heap.size (List.replicate n (.int k 0)) := by
  refine ⟨by simp, fun i v hv => ⟨?_, by simp⟩⟩
  rw [World.cell?_alloc_new]
  rw [← toList_madeCells_one] at hv
  simpa using hv
theorem make_u8 (w : World) (n : Nat) (hn : n ≤ 281474976710656) : (Instr.makeSlice 55 (.int .i64 (n : Int)) (.int .i64 (n : Int))).run Tryd.prog w =
    .ok (.slice (some ⟨w.heap.size, 0, none⟩) n n) (w.alloc (.cells (madeCells #[.int .u8 0] n) 5)) := by
  obtain ⟨i0, hi, hz0, hz1, hz2⟩ := info_parts info_u8
  have h := run_make (P := Tryd.prog) w 55 5 i0 (.int .u8 0) Tryd.underlying55 hi hz0 .i64 .i64 (n : Int) (n : Int) (by omega) (Int.le_refl _) (by rw [hz2]; omega) (by omega)
  simpa [hz1, Value.cells] using h
theorem make_u32 (w : World) (n : Nat) (hn : 4 * n ≤ 281474976710656) : (Instr.makeSlice 91 (.int .i64 (n : Int)) (.int .i64 (n : Int))).run Tryd.prog w =
    .ok (.slice (some ⟨w.heap.size, 0, none⟩) n n) (w.alloc (.cells (madeCells #[.int .u32 0] n) 87)) := by
  obtain ⟨i0, hi, hz0, hz1, hz2⟩ := info_parts info_u32
  have h := run_make (P := Tryd.prog) w 91 87 i0 (.int .u32 0) Tryd.underlying91 hi hz0 .i64 .i64 (n : Int) (n : Int) (by omega) (Int.le_refl _) (by rw [hz2]; omega) (by omega)
  simpa [hz1, Value.cells] using h

theorem zero_bytes (n : Nat) : List.replicate n (Value.int .u8 0) = bytesV (List.replicate n 0) := by simp [bytesV]
theorem zero_words (n : Nat) : List.replicate n (Value.int .u32 0) = wordsV (List.replicate n 0) := by simp [wordsV]
end Go.Proofs.YtedgpglldlohfaaDoor.Lanes

namespace Go.Proofs.YtedgpglldlohfaaDoor.Lanes
open Go.RowKit Mur
set_option maxRecDepth 100000

set_option maxHeartbeats 800000 in
theorem high_any (n : Nat) (wd : Int) (w : World) (hn : n < 18446744073709551616) (h1 : -9223372036854775808 ≤ wd) (h2 : wd ≤ 9223372036854775807) :
    Calls Tryd.prog 37 #[.int .u64 n, .int .i64 wd] w fun e w' => e = .returned (.string ⟨(high n (widthOf wd)).toArray⟩) ∧ Below w.heap.size w w' := by
  obtain ⟨m, hm⟩ : ∃ m, m = widthOf wd := ⟨_, rfl⟩
  have hm64 : m ≤ 64 := by rw [hm]; unfold widthOf; omega
  have hmw : min (max wd 0) 64 = (m : Int) := by rw [hm]; unfold widthOf; omega
  rw [← hm]
  clear hm
  have hmk : ∀ u : World, (Instr.makeSlice 55 (.int .i64 (m : Int)) (.int .i64 (m : Int))).run Tryd.prog u = .ok (.slice (some ⟨u.heap.size, 0, none⟩) m m) (u.alloc (.cells (madeCells #[.int .u8 0] m) 5)) := fun u => make_u8 u m (by omega)
  go_enter Tryd.func37, Tryd.ntmps37
  go_wp2
  clear hmk
  go_loopw [14] (fun i wr => ∃ k : Nat, k ≤ m ∧ k ≤ 8 ∧ i = .int .i64 k ∧ Row wr w.heap.size (bytesV (highPart n m k)) ∧ Below w.heap.size w wr) (fun i _ => 8 - (intOf i).toNat)
  case atStart => exact ⟨0, Nat.zero_le _, Nat.zero_le _, rfl, by rw [highPart_zero, ← zero_bytes]; exact made_row _ _ _ _, (Below.refl _ _).alloc (Nat.le_refl _) _⟩
  case round =>
    obtain ⟨k, hka, hkb, rfl, hrow, hbel⟩ := hrel
    by_cases hlt : k < m ∧ k < 8
    · obtain ⟨hlta, hltb⟩ := hlt
      have hj : ((m : Int) - 1 - (k : Int)).toNat = m - 1 - k := by omega
      have hjl : m - 1 - k < (highPart n m k).length := by simp [highPart]; omega
      have hc := hrow.cell (i := m - 1 - k) (bytesV_at hjl)
      have hf := hrow.free (i := m - 1 - k) (by rw [bytesV_length]; exact hjl)
      have hset := hrow.set (m - 1 - k) (u8 (UInt8.ofNat (n / 2 ^ (8 * k))))
      rw [bytesV_set, highPart_succ n m k hlta] at hset
      have HS := Lib.hid hset
      clear hset
      go_wp2
      go_roundw
      case rel =>
        refine ⟨k + 1, by omega, by omega, by go_num, ?_, hbel.setCell (p := ⟨w.heap.size, m - 1 - k, none⟩) (Nat.le_refl _) _⟩
        rw [shr8]
        exact HS.out
      case measure => simp [intOf]; omega
    · have hend : k = min m 8 := by omega
      have hrow' := hrow
      rw [hend, highPart_end n m hn] at hrow'
      have hback := string_row (P := Tryd.prog) hrow' 55 5 9 Tryd.underlying55 Tryd.underlying5 Tryd.underlying9 m m (by simp [high])
      clear hend hrow hrow'
      go_wp2
      go_ret
      exact ⟨rfl, hbel⟩
end Go.Proofs.YtedgpglldlohfaaDoor.Lanes

namespace Go.Proofs.YtedgpglldlohfaaDoor.Lanes
open Go.RowKit Mur
set_option maxRecDepth 100000

set_option maxHeartbeats 800000 in
theorem text_some (ws : List Nat) (b o cap : Nat) (big : Bool) (w : World) (hl : ws.length ≤ 35184372080640) (hws : ∀ x ∈ ws, x < 4294967296) (hb : b < w.heap.size) (hcell : ∀ i (h : i < ws.length), w.cell? ⟨b, o + i, none⟩ = some (.int .u32 (ws[i] : Int))) :
    Calls Tryd.prog 61 #[.slice (some ⟨b, o, none⟩) ws.length cap, .bool big] w fun e w' => e = .returned (.string ⟨(text ws big).toArray⟩) ∧ Below w.heap.size w w' := by
  have hmk : ∀ u : World, (Instr.makeSlice 55 (.int .i64 (4 * (ws.length : Int))) (.int .i64 (4 * (ws.length : Int)))).run Tryd.prog u = .ok (.slice (some ⟨u.heap.size, 0, none⟩) (4 * ws.length) (4 * ws.length)) (u.alloc (.cells (madeCells #[.int .u8 0] (4 * ws.length)) 5)) := fun u => make_u8 u (4 * ws.length) (by omega)
  have HC := Lib.hid hcell
  clear hcell
  go_enter Tryd.func61, Tryd.ntmps61
  go_wp2
  clear hmk
  go_loopw [14] (fun i wr => ∃ k : Nat, k ≤ 4 * ws.length ∧ i = .int .i64 k ∧ Row wr w.heap.size (bytesV (textPart ws big k)) ∧ Below w.heap.size w wr) (fun i _ => 4 * ws.length - (intOf i).toNat)
  case atStart => exact ⟨0, Nat.zero_le _, rfl, by rw [textPart_zero, ← zero_bytes]; exact made_row _ _ _ _, (Below.refl _ _).alloc (Nat.le_refl _) _⟩
  case round =>
    obtain ⟨k, hk, rfl, hrow, hbel⟩ := hrel
    by_cases hlt : k < 4 * ws.length
    · have hj : k / 4 < ws.length := by omega
      have hx : ws[k / 4] < 4294967296 := hws _ (List.getElem_mem hj)
      have hg : ws.getD (k / 4) 0 = ws[k / 4] := by simp [List.getD, hj]
      have hcx := (hbel.cell (p := ⟨b, o + k / 4, none⟩) hb).trans (HC.out _ hj)
      have hkl : k < (textPart ws big k).length := by rw [textPart_length]; omega
      have hc := hrow.cell (i := k) (bytesV_at hkl)
      have hf := hrow.free (i := k) (by rw [bytesV_length]; exact hkl)
      have hsh := shiftN_le k big
      have hset := hrow.set k (u8 (UInt8.ofNat (ws.getD (k / 4) 0 / 2 ^ shiftN k big)))
      rw [bytesV_set, textPart_succ, hg] at hset
      have HS := Lib.hid hset
      clear hset hg
      have w1 : IntKind.i64.wrap ((k : Int) / 4) = (k : Int) / 4 := IntWalk.i64_in _ (by omega)
      have w2 : 0 ≤ (k : Int) / 4 := by omega
      have w3 : ((k : Int) / 4).toNat = k / 4 := by omega
      have w4 : (k : Int) / 4 < (ws.length : Int) := by omega
      generalize ws[k / 4] = x at *
      go_wp2
      go_still_tail 12, (by kernel_rfl)
      still_call (shift_q _ _ _ (by omega))
      repeat still_step
      refine wpStill_nil ?_
      change wpList _ _ _ _ _ wr.drew
      have hc' : wr.drew.cell? ⟨w.heap.size, k, none⟩ = _ := hc
      have hf' : wr.drew.frozen? ⟨w.heap.size, k, none⟩ = _ := hf
      clear hc hf w1
      go_wp2
      go_roundw
      case rel =>
        refine ⟨k + 1, by omega, by go_num, ?_, (hbel.setCell (p := ⟨w.heap.size, k, none⟩) (Nat.le_refl _) _).drew⟩
        rw [shr8]
        exact HS.out.drew
      case measure => simp [intOf]; omega
    · have hend := textPart_end ws big k (by omega)
      rw [hend] at hrow
      have hback := string_row (P := Tryd.prog) hrow 55 5 9 Tryd.underlying55 Tryd.underlying5 Tryd.underlying9 (4 * ws.length) (4 * ws.length) (by rw [text_length])
      clear hend hrow
      go_wp2
      go_ret
      exact ⟨rfl, hbel⟩

set_option maxHeartbeats 800000 in
theorem text_none (a : Option Addr) (cap : Nat) (big : Bool) (w : World) :
    Calls Tryd.prog 61 #[.slice a 0 cap, .bool big] w fun e w' => e = .returned (.string ⟨(text [] big).toArray⟩) ∧ Below w.heap.size w w' := by
  have hmk : ∀ u : World, (Instr.makeSlice 55 (.int .i64 0) (.int .i64 0)).run Tryd.prog u = .ok (.slice (some ⟨u.heap.size, 0, none⟩) 0 0) (u.alloc (.cells (madeCells #[.int .u8 0] 0) 5)) := fun u => make_u8 u 0 (by omega)
  go_enter Tryd.func61, Tryd.ntmps61
  go_wp2
  clear hmk
  go_loopw [14] (fun i wr => i = .int .i64 0 ∧ Row wr w.heap.size (bytesV []) ∧ Below w.heap.size w wr) (fun _ _ => 0)
  case atStart => exact ⟨rfl, made_row _ _ _ _, (Below.refl _ _).alloc (Nat.le_refl _) _⟩
  case round =>
    obtain ⟨rfl, hrow, hbel⟩ := hrel
    have hback := string_row (P := Tryd.prog) hrow 55 5 9 Tryd.underlying55 Tryd.underlying5 Tryd.underlying9 0 0 rfl
    clear hrow
    go_wp2
    go_ret
    exact ⟨rfl, hbel⟩

theorem text_any (ws : List Nat) (v : Value) (big : Bool) (w : World) (hl : ws.length ≤ 35184372080640) (hv : Words32 w v ws) :
    Calls Tryd.prog 61 #[v, .bool big] w fun e w' => e = .returned (.string ⟨(text ws big).toArray⟩) ∧ Below w.heap.size w w' := by
  rcases hv.2 with ⟨rfl, a, c, rfl⟩ | ⟨b, o, cap, rfl, hb, hc⟩
  · exact text_none a c big w
  · exact text_some ws b o cap big w hl hv.1 hb hc
end Go.Proofs.YtedgpglldlohfaaDoor.Lanes

namespace Go.Proofs.YtedgpglldlohfaaDoor.Lanes
open Go.RowKit Mur
set_option maxRecDepth 100000

set_option maxHeartbeats 800000 in
theorem words_any (s : ByteArray) (big : Bool) (w : World) (hs : s.size ≤ 140737488351232) :
    Calls Tryd.prog 71 #[.string s, .bool big] w fun e w' => e = .returned (.slice (some ⟨w.heap.size, 0, none⟩) (s.size / 4) (s.size / 4)) ∧ Row w' w.heap.size (wordsV (words s.data.toList big)) ∧ Below w.heap.size w w' := by
  have hmk : ∀ u : World, (Instr.makeSlice 91 (.int .i64 ((s.size : Int) / 4)) (.int .i64 ((s.size : Int) / 4))).run Tryd.prog u = .ok (.slice (some ⟨u.heap.size, 0, none⟩) (s.size / 4) (s.size / 4)) (u.alloc (.cells (madeCells #[.int .u32 0] (s.size / 4)) 87)) := fun u => make_u32 u (s.size / 4) (by omega)
  have hl : s.data.toList.length = s.size := rfl
  go_enter Tryd.func71, Tryd.ntmps71
  go_wp2
  clear hmk
  go_loopw [14] (fun i wr => ∃ k : Nat, k ≤ 4 * (s.size / 4) ∧ i = .int .i64 k ∧ Row wr w.heap.size (wordsV (wordsPart s.data.toList big k)) ∧ Below w.heap.size w wr) (fun i _ => s.size - (intOf i).toNat)
  case atStart => exact ⟨0, Nat.zero_le _, rfl, by rw [wordsPart_zero, hl, ← zero_words]; exact made_row _ _ _ _, (Below.refl _ _).alloc (Nat.le_refl _) _⟩
  case round =>
    obtain ⟨k, hk, rfl, hrow, hbel⟩ := hrel
    have hlen : (wordsPart s.data.toList big k).length = s.size / 4 := wordsPart_length _ _ _
    by_cases hlt : k < 4 * (s.size / 4)
    · have hks : k < s.size := by omega
      have hj : k / 4 < s.size / 4 := by omega
      have hjl : k / 4 < (wordsPart s.data.toList big k).length := by omega
      have hc := hrow.cell (i := k / 4) (wordsV_at hjl)
      have hf := hrow.free (i := k / 4) (by rw [wordsV_length]; exact hjl)
      have hsh := shiftN_le k big
      have hset := hrow.set (k / 4) (.int .u32 ((wordPart s.data.toList big k (k / 4) ||| byt s.data.toList k * 2 ^ shiftN k big : Nat) : Int))
      rw [wordsV_set, wordsPart_succ] at hset
      have HS := Lib.hid hset
      clear hset hl
      have HL := Lib.hid hlen
      clear hlen
      have w1 : IntKind.i64.wrap ((k : Int) / 4) = (k : Int) / 4 := IntWalk.i64_in _ (by omega)
      have w2 : 0 ≤ (k : Int) / 4 := by omega
      have w3 : ((k : Int) / 4).toNat = k / 4 := by omega
      have w4 : (k : Int) / 4 < (s.size : Int) / 4 := by omega
      go_wp2
      go_still_tail 15, (by kernel_rfl)
      still_call (shift_q _ _ _ (by omega))
      repeat still_step
      refine wpStill_nil ?_
      change wpList _ _ _ _ _ wr.drew
      have hc' : wr.drew.cell? ⟨w.heap.size, k / 4, none⟩ = _ := hc
      have hf' : wr.drew.frozen? ⟨w.heap.size, k / 4, none⟩ = _ := hf
      clear hc hf w1
      go_wp2
      go_roundw
      case rel =>
        refine ⟨k + 1, by omega, by go_num, ?_, (hbel.setCell (p := ⟨w.heap.size, k / 4, none⟩) (Nat.le_refl _) _).drew⟩
        have hb : byt s.data.toList k = s[k].toNat := byt_get (l := s.data.toList) (i := k) hks
        have h1 := byt_lt s.data.toList k
        have hw : (wordsPart s.data.toList big k)[k / 4] = wordPart s.data.toList big k (k / 4) := by simp [wordsPart]
        have h2 := wordPart_lt s.data.toList big k (k / 4)
        have hp : 2 ^ shiftN k big ≤ 2 ^ 24 := Nat.pow_le_pow_right (by omega) (by omega)
        have h3 : byt s.data.toList k * 2 ^ shiftN k big ≤ 255 * 2 ^ 24 := Nat.mul_le_mul (by omega) hp
        rw [← hb, hw]
        rw [shl32 _ _ (by omega) (by omega), u32_or_nat _ _ h2 (by omega)]
        exact HS.out.drew
      case measure => simp [intOf]; omega
    · have hend := wordsPart_end s.data.toList big k (by omega)
      rw [hend] at hrow
      clear hend hlen hl
      go_wp2
      go_ret
      exact ⟨rfl, hrow, hbel⟩
end Go.Proofs.YtedgpglldlohfaaDoor.Lanes



namespace Go.Proofs.YtedgpglldlohfaaDoor.LanesXor
open Go.RowKit Mur
set_option maxRecDepth 100000

def xorAt (a b : List UInt8) (i : Nat) : UInt8 := if i < b.length then a.getD i 0 ^^^ b.getD i 0 else a.getD i 0
/-- The bytes below k are done. -/
def part (a b : List UInt8) (k : Nat) : List UInt8 := (List.range a.length).map fun i => if i < k then xorAt a b i else a.getD i 0
def xorL (a b : List UInt8) : List UInt8 := (List.range a.length).map fun i => xorAt a b i
def xorS (a b : ByteArray) : ByteArray := ⟨(xorL a.data.toList b.data.toList).toArray⟩

theorem part_length (a b : List UInt8) (k : Nat) : (part a b k).length = a.length := by simp [part]
theorem part_zero (a b : List UInt8) : part a b 0 = a := by
  apply List.ext_getElem (by simp [part])
  intro i h1 h2
  simp [part, List.getD, h2]

theorem part_succ (a b : List UInt8) (k : Nat) (ha : k < a.length) (hb : k < b.length) : (part a b k).set k ((part a b k)[k]'(by rw [part_length]; exact ha) ^^^ b[k]) = part a b (k + 1) := by
  apply List.ext_getElem (by simp [part])
  intro i h1 h2
  rw [List.getElem_set]
  by_cases e : k = i
  · subst e
    simp [part, xorAt, List.getD, ha, hb]
  · have e1 : (i < k + 1) = (i < k) := by simp; omega
    simp [part, e, e1]
theorem part_end (a b : List UInt8) (k : Nat) (h : a.length ≤ k ∨ b.length ≤ k) : part a b k = xorL a b := by
  apply List.ext_getElem (by simp [part, xorL])
  intro i h1 h2
  have h1' : i < a.length := by simpa [part] using h1
  by_cases e : i < k
  · simp [part, xorL, e]
  · have eb : ¬ i < b.length := by omega
    simp [part, xorL, xorAt, e, eb]

set_option maxHeartbeats 800000 in
theorem xor_any (a b : ByteArray) (w : World) (ha : a.size ≤ 140737488351232) (_hb : b.size ≤ 140737488351232) :
    Calls Tryd.prog 46 #[.string a, .string b] w fun e w' => e = .returned (.string (xorS a b)) ∧ Below w.heap.size w w' := by
  have hconv := conv_row (P := Tryd.prog) w 9 55 5 a Tryd.underlying9 Tryd.underlying55 Tryd.underlying5
  obtain ⟨cap, w1, hcap, hconv, hrow, hbel⟩ := hconv
  go_enter Tryd.func46, Tryd.ntmps46
  go_wp2
  clear hconv
  go_loopw [14] (fun i wr => ∃ k : Nat, k ≤ a.size ∧ k ≤ b.size ∧ i = .int .i64 k ∧ Row wr w.heap.size (bytesV (part a.data.toList b.data.toList k)) ∧ Below w.heap.size w wr) (fun i _ => a.size - (intOf i).toNat)
  case atStart => exact ⟨0, Nat.zero_le _, Nat.zero_le _, rfl, by rw [part_zero]; exact hrow, hbel⟩
  case round =>
    obtain ⟨k, hka, hkb, rfl, hrow, hbel⟩ := hrel
    by_cases hlt : k < a.size ∧ k < b.size
    · obtain ⟨hlta, hltb⟩ := hlt
      have hc := hrow.cell (i := k) (bytesV_at (by rw [part_length]; exact hlta))
      have hf := hrow.free (i := k) (by rw [bytesV_length, part_length]; exact hlta)
      have hs := part_succ a.data.toList b.data.toList k hlta hltb
      have hset := hrow.set k (u8 ((part a.data.toList b.data.toList k)[k]'(by rw [part_length]; exact hlta) ^^^ b.data.toList[k]'hltb))
      rw [bytesV_set, hs] at hset
      have HS := Lib.hid hset
      clear hs hset
      go_wp2
      go_region
      all_goals go_wp2
      all_goals go_roundw
      case rel => exact ⟨k + 1, by omega, by omega, by go_num, by rw [xor_u8]; exact (HS.out).drew, (hbel.setCell (p := ⟨w.heap.size, k, none⟩) (Nat.le_refl _) _).drew⟩
      case measure => simp [intOf]; omega
    · have hend := part_end a.data.toList b.data.toList k (by have h1 : a.data.toList.length = a.size := rfl; have h2 : b.data.toList.length = b.size := rfl; omega)
      rw [hend] at hrow
      have hback := string_row (P := Tryd.prog) hrow 55 5 9 Tryd.underlying55 Tryd.underlying5 Tryd.underlying9 a.size cap (by simp [xorL])
      clear hend hrow
      go_wp2
      go_ret
      exact ⟨rfl, hbel⟩
end Go.Proofs.YtedgpglldlohfaaDoor.LanesXor

namespace Go.Proofs.YtedgpglldlohfaaDoor.Lanes
open Go.RowKit Mur

end Go.Proofs.YtedgpglldlohfaaDoor.Lanes
