/-
  The model's own words for runes, held against the plain mathematics of package phrase: decoding and encoding, a range over a text, []rune(s), the order of texts. No condition but those that each lemma names.
-/
import Derived.Test.YthlhhmhldpmpiaaDoorPhrB
import Derived.Laws.RangeAny
import GoSem.Conv.StringToRunes
import GoSem.Op.String
namespace Go.Proofs.YthlhhmhldpmpiaaDoor.Phr
open Go.RowKit Mur

theorem encode_enc (c : Nat) (h : c < 0x800) : Utf8.encode (c : Int) = ⟨(enc c).toArray⟩ := by
  have hv : Utf8.valid (c : Int) = true := by
    simp only [Utf8.valid, Bool.or_eq_true, Bool.and_eq_true, decide_eq_true_eq]
    omega
  simp only [Utf8.encode, hv, if_true, Int.toNat_natCast, enc]
  by_cases hc : c < 128
  · rw [if_pos hc, if_pos hc]
  · rw [if_neg hc, if_neg hc, if_pos h]
theorem decode_width (s : ByteArray) (pos : Nat) : 1 ≤ (Utf8.decode s pos).2 := by
  simp only [Utf8.decode]
  repeat' split
  all_goals simp
/-- What a range over a text yields, from a place on. -/
def decs (s : ByteArray) : Nat → Nat → List Nat
  | 0, _ => []
  | k + 1, i => if i < s.size then (Utf8.decode s i).1 :: decs s k (i + (Utf8.decode s i).2) else []
theorem decs_end (s : ByteArray) (k i : Nat) (h : ¬ i < s.size) : decs s k i = [] := by
  cases k with
  | zero => rfl
  | succ k => rw [decs, if_neg h]
theorem decs_more (s : ByteArray) (k i : Nat) (h : i < s.size) : decs s (k + 1) i = (Utf8.decode s i).1 :: decs s k (i + (Utf8.decode s i).2) := by rw [decs, if_pos h]
/-- A text may be said just if all that a range yields may be; then these are its runes. -/
theorem runes_decs (s : ByteArray) (k : Nat) : ∀ i, s.size ≤ i + k → runes (s.data.toList.drop i) = if (decs s k i).all may then some (decs s k i) else none := by
  induction k with
  | zero =>
    intro i h
    rw [decs_end s 0 i (by omega), List.drop_eq_nil_of_le (show s.data.toList.length ≤ i from h), runes_nil]
    rfl
  | succ k ih =>
    intro i h
    by_cases hi : i < s.size
    · have hw := decode_width s i
      rw [runes_decode s i hi, decs_more s k i hi, List.all_cons, ih (i + (Utf8.decode s i).2) (by omega)]
      cases may (Utf8.decode s i).1 with
      | false => rfl
      | true =>
        rw [if_pos rfl, Bool.true_and]
        split <;> rfl
    · rw [decs_end s (k + 1) i hi, List.drop_eq_nil_of_le (show s.data.toList.length ≤ i by have : s.data.toList.length = s.size := rfl; omega), runes_nil]
      rfl
theorem runes_all (s : ByteArray) : runes s.data.toList = if (decs s s.size 0).all may then some (decs s s.size 0) else none := by
  have := runes_decs s s.size 0 (by omega)
  rw [List.drop_zero] at this
  exact this
/-- []rune(s). -/
theorem runesFrom_decs (s : ByteArray) (k : Nat) : ∀ i acc, Conv.runesFrom s k i acc = acc ++ ((decs s k i).map fun c : Nat => Value.int .i32 (c : Int)).toArray := by
  induction k with
  | zero => intro i acc; simp [Conv.runesFrom, decs]
  | succ k ih =>
    intro i acc
    by_cases hi : i < s.size
    · rw [decs_more s k i hi, Conv.runesFrom, if_pos hi]
      show Conv.runesFrom s k (i + (Utf8.decode s i).2) (acc.push (.int .i32 (Int.ofNat (Utf8.decode s i).1))) = _
      rw [ih]
      apply Array.ext'
      simp
    · rw [decs_end s (k + 1) i hi, Conv.runesFrom, if_neg hi]
      simp
/-- The order of texts. -/
theorem bytesLess_cmp : ∀ a b : List UInt8, Op.bytesLess a b = decide (cmpL (bytesN a) (bytesN b) = -1)
  | [], [] => rfl
  | [], _ :: _ => rfl
  | _ :: _, [] => rfl
  | x :: a, y :: b => by
    have ih := bytesLess_cmp a b
    show (decide (x < y) || (x == y && Op.bytesLess a b)) = decide ((if x.toNat < y.toNat then (-1 : Int) else if y.toNat < x.toNat then 1 else cmpL (bytesN a) (bytesN b)) = -1)
    rw [ih]
    have hlt : (x < y) ↔ x.toNat < y.toNat := UInt8.lt_iff_toNat_lt
    rcases Nat.lt_trichotomy x.toNat y.toNat with h | h | h
    · rw [if_pos h, decide_eq_true (hlt.2 h)]
      rfl
    · have e : x = y := UInt8.toNat_inj.mp h
      subst e
      rw [if_neg (by omega), if_neg (by omega), decide_eq_false (fun k => by have := hlt.1 k; omega)]
      simp
    · have e : (x == y) = false := by
        rw [beq_eq_false_iff_ne]
        intro e
        rw [e] at h
        omega
      rw [if_neg (by omega), if_pos h, decide_eq_false (fun k => by have := hlt.1 k; omega), e]
      rfl
end Go.Proofs.YthlhhmhldpmpiaaDoor.Phr
