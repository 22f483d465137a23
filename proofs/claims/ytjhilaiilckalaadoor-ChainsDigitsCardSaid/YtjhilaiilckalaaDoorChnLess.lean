/-
  The plain mathematics of digits held against each other: of two unlike texts one digit at least of either is the lesser one. Nothing here speaks of a program: no condition but those that each lemma names.
-/
import Derived.Test.YtjhilaiilckalaaDoorChn
namespace Go.Proofs.YtjhilaiilckalaaDoor.Chn
open Go.RowKit Mur Sha

/-- One of the first k of the first list is less than that of the second. -/
def lessB (X Y : List Nat) : Nat → Bool
  | 0 => false
  | k + 1 => lessB X Y k || decide (X.getD k 0 < Y.getD k 0)
theorem lessB_false (X Y : List Nat) (k : Nat) (h : lessB X Y k = false) : ∀ i, i < k → Y.getD i 0 ≤ X.getD i 0 := by
  induction k with
  | zero => intro i hi; omega
  | succ k ih =>
    rw [lessB, Bool.or_eq_false_iff, decide_eq_false_iff_not] at h
    intro i hi
    rcases Nat.lt_or_ge i k with h1 | h1
    · exact ih h.1 i h1
    · obtain rfl : i = k := by omega
      omega
theorem lessB_same (X : List Nat) (k : Nat) : lessB X X k = false := by
  induction k with
  | zero => rfl
  | succ k ih => rw [lessB, ih]; simp

theorem same_of_sum : ∀ (l m : List Nat), l.length = m.length → (∀ i, i < l.length → m.getD i 0 ≤ l.getD i 0) → l.sum ≤ m.sum → l = m
  | [], [], _, _, _ => rfl
  | x :: l, y :: m, hl, hp, hs => by
    have h0 : y ≤ x := hp 0 (by simp)
    have hp' : ∀ i, i < l.length → m.getD i 0 ≤ l.getD i 0 := fun i hi => hp (i + 1) (by simp; omega)
    have hl' : l.length = m.length := by simpa using hl
    have hle : m.sum ≤ l.sum := by
      clear hs hl hp h0
      induction l generalizing m with
      | nil =>
        obtain rfl := List.eq_nil_of_length_eq_zero hl'.symm
        exact Nat.le_refl _
      | cons a l ih =>
        match m, hl' with
        | b :: m, hl' =>
          have h1 : b ≤ a := hp' 0 (by simp)
          have h2 := ih m (fun i hi => hp' (i + 1) (by simp; omega)) (by simpa using hl')
          simp only [List.sum_cons]
          omega
    simp only [List.sum_cons] at hs
    have hxy : x = y := by omega
    rw [hxy, same_of_sum l m hl' hp' (by omega)]
theorem nibs_inj : ∀ (l m : List UInt8), nibs l = nibs m → l = m
  | [], [], _ => rfl
  | [], b :: m, h => by simp [nibs, nib] at h
  | a :: l, [], h => by simp [nibs, nib] at h
  | a :: l, b :: m, h => by
    have h1 : nib a ++ nibs l = nib b ++ nibs m := h
    simp only [nib, List.cons_append, List.nil_append, List.cons.injEq] at h1
    have hab : a = b := by
      apply UInt8.toNat_inj.1
      omega
    rw [hab, nibs_inj l m h1.2.2]

theorem getD_left (l m : List Nat) (i : Nat) (h : i < l.length) : (l ++ m).getD i 0 = l.getD i 0 := by
  simp [List.getD_eq_getElem?_getD, List.getElem?_append_left h]
theorem getD_right (l m : List Nat) (i : Nat) : (l ++ m).getD (l.length + i) 0 = m.getD i 0 := by
  simp [List.getD_eq_getElem?_getD, List.getElem?_append_right]

theorem told_same (N : Nat) (d : List UInt8) (h : d.length = N) : told N d = d := by
  unfold told
  rw [List.take_of_length_le (by omega), show N - d.length = 0 by omega]
  simp

/-- If no digit of the first is less than that of the second, then they are the same. -/
theorem digs_less (N : Nat) (a b : List UInt8) (ha : a.length = N) (hb : b.length = N) (h : lessB (digs N a) (digs N b) (2 * N + 3) = false) : a = b := by
  have hp := lessB_false _ _ _ h
  unfold digs at hp
  rw [told_same N a ha, told_same N b hb] at hp
  have la : (nibs a).length = 2 * N := by rw [nibs_length, ha]
  have lb : (nibs b).length = 2 * N := by rw [nibs_length, hb]
  have sa := nibs_sum a
  have sb := nibs_sum b
  have hn : ∀ i, i < (nibs a).length → (nibs b).getD i 0 ≤ (nibs a).getD i 0 := fun i hi => by
    have := hp i (by omega)
    rw [getD_left _ _ _ hi, getD_left _ _ _ (by omega)] at this
    exact this
  have hr : ∀ i, i < 3 → (rest (left N b)).getD i 0 ≤ (rest (left N a)).getD i 0 := fun i hi => by
    have h1 := getD_right (nibs a) (rest (left N a)) i
    have h2 := getD_right (nibs b) (rest (left N b)) i
    rw [la] at h1
    rw [lb] at h2
    have := hp (2 * N + i) (by omega)
    rw [h1, h2] at this
    exact this
  have r0 : left N b / 256 ≤ left N a / 256 := hr 0 (by omega)
  have r1 : left N b / 16 % 16 ≤ left N a / 16 % 16 := hr 1 (by omega)
  have r2 : left N b % 16 ≤ left N a % 16 := hr 2 (by omega)
  have hle : left N b ≤ left N a := by
    clear hr hn hp h
    generalize left N a = x at *
    generalize left N b = y at *
    omega
  have e1 : left N a = 30 * N - (nibs a).sum := rfl
  have e2 : left N b = 30 * N - (nibs b).sum := rfl
  rw [ha] at sa
  rw [hb] at sb
  exact nibs_inj a b (same_of_sum _ _ (by rw [la, lb]) hn (by clear r0 r1 r2; omega))
end Go.Proofs.YtjhilaiilckalaaDoor.Chn
