/-
  More of the plain mathematics of package phrase: what stands at a place of a text that may be said, how many runes Go's library counts in it. Nothing here speaks of the project's code: no condition but those that each lemma names.
-/
import Derived.Test.YthlhhmhldpmpiaaDoorPhrC
import Derived.Lib.MapLaws
import Derived.Lib.OthersKept
import Derived.Lib.RuneCount
namespace Go.Proofs.YthlhhmhldpmpiaaDoor.Phr
open Go.RowKit Mur

abbrev tx (l : List UInt8) : ByteArray := ⟨l.toArray⟩
theorem tx_size (l : List UInt8) : (tx l).size = l.length := rfl
theorem tx_self (s : ByteArray) : tx s.data.toList = s := rfl
theorem tx_list (l : List UInt8) : (tx l).data.toList = l := rfl
theorem tx_append (a b : List UInt8) : tx a ++ tx b = tx (a ++ b) := by
  apply ByteArray.ext
  apply Array.ext'
  simp
theorem tx_inj {a b : List UInt8} (h : tx a = tx b) : a = b := by
  have := congrArg (fun x : ByteArray => x.data.toList) h
  exact this
theorem tx_extract (s : ByteArray) (a b : Nat) : s.extract a b = tx ((s.data.toList.drop a).take (b - a)) := by
  apply ByteArray.ext
  apply Array.ext'
  simp [ByteArray.data_extract, Array.toList_extract, List.extract]

/-- What stands at a place of a text whose rest may be said. -/
theorem at_place (s : ByteArray) (p : Nat) (r : List Nat) (h : runes (s.data.toList.drop p) = some r) (hp : p ≤ s.size) :
    (r = [] ∧ p = s.size) ∨ ∃ c r', r = c :: r' ∧ p < s.size ∧ (Utf8.decode s p).1 = c ∧ may c = true ∧ (Utf8.decode s p).2 = (enc c).length ∧ runes (s.data.toList.drop (p + (enc c).length)) = some r' ∧ p + (enc c).length ≤ s.size := by
  have hsl : s.data.toList.length = s.size := rfl
  by_cases hlt : p < s.size
  · right
    have hne : s.data.toList.drop p ≠ [] := fun h0 => by
      have := congrArg List.length h0
      rw [List.length_drop, hsl] at this
      simp at this
      omega
    have hwn : p + (Utf8.decode s p).2 ≤ s.size := by
      have := Lib.decodeL_le _ hne
      rw [Lib.decodeL_drop, List.length_drop, hsl] at this
      omega
    have h2 := h
    rw [runes_decode s p hlt] at h2
    split at h2
    · rename_i hm
      cases hr : runes (s.data.toList.drop (p + (Utf8.decode s p).2)) with
      | none => rw [hr] at h2; cases h2
      | some r' =>
        rw [hr] at h2
        cases h2
        have e1 := congrArg List.length (text_of_runes h).1
        have e2 := congrArg List.length (text_of_runes hr).1
        rw [text_cons, List.length_append, List.length_drop, hsl] at e1
        rw [List.length_drop, hsl] at e2
        have e3 : (Utf8.decode s p).2 = (enc (Utf8.decode s p).1).length := by omega
        refine ⟨_, _, rfl, hlt, rfl, hm, e3, ?_, by omega⟩
        rw [← e3]
        exact hr
    · cases h2
  · left
    have hd : s.data.toList.drop p = [] := List.drop_eq_nil_of_le (by omega)
    rw [hd, runes_nil] at h
    cases h
    exact ⟨rfl, by omega⟩

theorem count_decs (s : ByteArray) (k : Nat) : ∀ i, Lib.runeCountFrom s k i = (decs s k i).length := by
  induction k with
  | zero => intro i; rfl
  | succ k ih =>
    intro i
    by_cases hi : i < s.size
    · rw [decs_more s k i hi, List.length_cons, ← ih]
      simp [Lib.runeCountFrom, hi]
      omega
    · rw [decs_end s (k + 1) i hi, Lib.runeCountFrom_end s _ i hi]
      rfl
theorem runeCount_some {s : ByteArray} {l : List Nat} (h : runes s.data.toList = some l) : Lib.runeCount s = l.length := by
  rw [runes_all] at h
  split at h
  · cases h
    exact count_decs s s.size 0
  · cases h

/-- A text, or nothing, if it may not be said. -/
def sd (s : List UInt8) : List UInt8 := if (runes s).isSome then s else []
theorem sd_runes (s : List UInt8) : runes (sd s) = some (rs s) := by
  unfold sd rs
  cases h : runes s with
  | none => exact runes_nil
  | some l => simp [h]
theorem text_rs (s : List UInt8) : text (rs s) = sd s := (text_of_runes (sd_runes s)).1
theorem sd_some {s : List UInt8} {l : List Nat} (h : runes s = some l) : sd s = s := by simp [sd, h]
theorem sd_length (s : List UInt8) : (sd s).length ≤ s.length := by
  unfold sd
  split
  · exact Nat.le_refl _
  · exact Nat.zero_le _
theorem rs_sd (s : List UInt8) : rs (sd s) = rs s := rs_some (sd_runes s)
/-- How many bytes the first runes have. -/
def begins (l : List Nat) (n : Int) : Nat := (text (l.take (clamp n l.length))).length
theorem text_take (l : List Nat) (k : Nat) : (text l).take (text (l.take k)).length = text (l.take k) := by
  have h : text l = text (l.take k) ++ text (l.drop k) := by rw [← text_append, List.take_append_drop]
  rw [h]
  exact List.take_left
theorem text_drop (l : List Nat) (k : Nat) : (text l).drop (text (l.take k)).length = text (l.drop k) := by
  have h : text l = text (l.take k) ++ text (l.drop k) := by rw [← text_append, List.take_append_drop]
  rw [h]
  exact List.drop_left
theorem begins_le (l : List Nat) (n : Int) : begins l n ≤ (text l).length := by
  have h : text l = text (l.take (clamp n l.length)) ++ text (l.drop (clamp n l.length)) := by rw [← text_append, List.take_append_drop]
  have := congrArg List.length h
  rw [List.length_append] at this
  unfold begins
  omega
theorem begins_cut (s : List UInt8) (n : Int) : (sd s).take (begins (rs s) n) = cutB s n := by
  rw [← text_rs]
  exact text_take _ _
theorem begins_zero (l : List Nat) (n : Int) (h : n ≤ 0) : begins l n = 0 := by
  have e : clamp n l.length = 0 := by unfold clamp; omega
  rw [begins, e]
  rfl
theorem begins_nil (n : Int) : begins [] n = 0 := by simp [begins, text]
theorem begins_cons (c : Nat) (l : List Nat) (n : Int) (h : 0 < n) : begins (c :: l) n = (enc c).length + begins l (n - 1) := by
  have e : clamp n (c :: l).length = clamp (n - 1) l.length + 1 := by
    unfold clamp
    rw [List.length_cons]
    omega
  rw [begins, e, List.take_succ_cons, text_cons, List.length_append]
  rfl
end Go.Proofs.YthlhhmhldpmpiaaDoor.Phr
