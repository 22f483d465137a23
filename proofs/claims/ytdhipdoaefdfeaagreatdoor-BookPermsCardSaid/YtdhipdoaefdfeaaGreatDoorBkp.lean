/-
  Drawing an order from bytes (chapter 16): the place of each byte among all. Plain mathematics, no condition but those that each lemma names.
-/
import Derived.Test.YtdhipdoaefdfeaaGreatDoorMTap
namespace Go.Proofs.YtdhipdoaefdfeaaGreatDoor.Bkp
/-- Byte number j comes ahead of byte number i: it is less, or the same and stands ahead. -/
def ahead (l : List UInt8) (i j : Nat) : Bool := decide ((l.getD j 0).toNat < (l.getD i 0).toNat) || (decide ((l.getD j 0).toNat = (l.getD i 0).toNat) && decide (j < i))
def rank (l : List UInt8) (i : Nat) : Nat := (List.range l.length).countP (ahead l i)
def perm (l : List UInt8) : List Nat := (List.range l.length).map (rank l)
theorem perm_length (l : List UInt8) : (perm l).length = l.length := by simp [perm]
theorem ahead_iff (l : List UInt8) (i j : Nat) : ahead l i j = true ↔ (l.getD j 0).toNat < (l.getD i 0).toNat ∨ ((l.getD j 0).toNat = (l.getD i 0).toNat ∧ j < i) := by
  simp [ahead]
theorem countP_less {p q : Nat → Bool} (l : List Nat) (h : ∀ x ∈ l, p x = true → q x = true) (x : Nat) (hx : x ∈ l) (hq : q x = true) (hp : p x = false) : l.countP p < l.countP q := by
  induction l with
  | nil => cases hx
  | cons y l ih =>
    rw [List.countP_cons, List.countP_cons]
    have hle : l.countP p ≤ l.countP q := List.countP_mono_left fun z hz => h z (List.mem_cons_of_mem _ hz)
    rcases List.mem_cons.1 hx with rfl | hx
    · rw [hp, hq]
      simp
      omega
    · have := ih (fun z hz => h z (List.mem_cons_of_mem _ hz)) hx
      have hy := h y List.mem_cons_self
      cases hpy : p y with
      | false => simp; split <;> omega
      | true => rw [hy hpy]; simp; omega
theorem rank_less (l : List UInt8) (i j : Nat) (hi : i < l.length) (h : ahead l j i = true) : rank l i < rank l j := by
  rw [ahead_iff] at h
  refine countP_less _ (fun k _ hk => ?_) i (List.mem_range.2 hi) ((ahead_iff _ _ _).2 h) ?_
  · rw [ahead_iff] at hk ⊢
    omega
  · cases hb : ahead l i i with
    | false => rfl
    | true =>
      rw [ahead_iff] at hb
      omega
theorem rank_apart (l : List UInt8) (i j : Nat) (hi : i < l.length) (hj : j < l.length) (h : i ≠ j) : rank l i ≠ rank l j := by
  by_cases h1 : ahead l j i = true
  · have := rank_less l i j hi h1
    omega
  · have h2 : ahead l i j = true := by
      rw [ahead_iff] at h1 ⊢
      omega
    have := rank_less l j i hj h2
    omega
/-- Each place is one of so many. -/
theorem rank_lt (l : List UInt8) (i : Nat) (hi : i < l.length) : rank l i < l.length := by
  have : (List.range l.length).countP (ahead l i) < (List.range l.length).countP (fun _ => true) := by
    refine countP_less _ (fun _ _ _ => rfl) i (List.mem_range.2 hi) rfl ?_
    cases hb : ahead l i i with
    | false => rfl
    | true =>
      rw [ahead_iff] at hb
      omega
  rw [List.countP_true, List.length_range] at this
  exact this
theorem perm_get (l : List UInt8) (i : Nat) (hi : i < l.length) : (perm l)[i]? = some (rank l i) := by
  simp [perm, hi]
/-- No place is told twice: it is not among those ahead. -/
theorem perm_new (l : List UInt8) (i : Nat) (hi : i < l.length) : rank l i ∉ (perm l).take i := by
  intro h
  rw [List.mem_iff_getElem?] at h
  obtain ⟨j, hj⟩ := h
  rw [List.getElem?_take] at hj
  split at hj
  · rename_i hji
    rw [perm_get l j (by omega)] at hj
    exact rank_apart l j i (by omega) hi (by omega) (Option.some.inj hj)
  · cases hj
theorem perm_lt (l : List UInt8) (x : Nat) (hx : x ∈ perm l) : x < l.length := by
  rw [perm, List.mem_map] at hx
  obtain ⟨i, hi, rfl⟩ := hx
  exact rank_lt l i (List.mem_range.1 hi)
end Go.Proofs.YtdhipdoaefdfeaaGreatDoor.Bkp
