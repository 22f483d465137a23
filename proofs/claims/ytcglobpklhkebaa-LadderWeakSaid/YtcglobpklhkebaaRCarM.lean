/-
  The plain mathematics of the document's Carry of layer 5: limbs carried side by side, three times, and reduced. Nothing here speaks of a program: no condition but those that each lemma names.
-/
import Derived.Test.YtcglobpklhkebaaRTimes
namespace Go.Proofs.Ytcglobpklhkebaa.RefLimb
open Go.RowKit Mur Lanes Limb Hold
set_option maxRecDepth 100000

/-- What is carried over behind k limbs, and the limbs that remain. -/
def cc (X : List Nat) : Nat → Nat
  | 0 => 0
  | k + 1 => (X.getD k 0 + cc X k) / 2251799813685248
def carried (X : List Nat) : List Nat := (List.range 5).map fun k => (X.getD k 0 + cc X k) % 2251799813685248
theorem carried_at (X : List Nat) (k : Nat) (h : k < 5) : (carried X).getD k 0 = (X.getD k 0 + cc X k) % 2251799813685248 := by
  unfold carried
  simp [List.getD, h]
theorem carried_length (X : List Nat) : (carried X).length = 5 := rfl
def worL (X : List Nat) : Nat := wor (X.getD 0 0) (X.getD 1 0) (X.getD 2 0) (X.getD 3 0) (X.getD 4 0)
theorem carried_lim (X : List Nat) : carried X = lim (worL X) := by
  unfold worL
  rw [← carry_lim]
  show [(X.getD 0 0 + 0) % 2251799813685248, (X.getD 1 0 + (X.getD 0 0 + 0) / 2251799813685248) % 2251799813685248, _, _, _] = _
  rw [Nat.add_zero]
  rfl
theorem cc_over (X : List Nat) : cc X 5 = worL X / 57896044618658097711785492504343953926634992332820282019728792003956564819968 := by
  unfold worL
  rw [← over_eq]
  show (X.getD 4 0 + (X.getD 3 0 + (X.getD 2 0 + (X.getD 1 0 + (X.getD 0 0 + 0) / 2251799813685248) / 2251799813685248) / 2251799813685248) / 2251799813685248) / 2251799813685248 = _
  rw [Nat.add_zero]
/-- Limbs below 2^53. -/
def Big (X : List Nat) : Prop := X.length = 5 ∧ ∀ i, X.getD i 0 < 9007199254740992
theorem RoomL.big {X : List Nat} (h : RoomL X) : Big X := ⟨h.1, fun i => Nat.lt_trans (h.2 i) (by decide)⟩
theorem cc_le {X : List Nat} (h : Big X) (k : Nat) : cc X k ≤ 8 := by
  induction k with
  | zero => exact Nat.zero_le _
  | succ k ih =>
    have := h.2 k
    rw [cc]
    omega
theorem list_nat5 {X : List Nat} (h : X.length = 5) : X = [X.getD 0 0, X.getD 1 0, X.getD 2 0, X.getD 3 0, X.getD 4 0] := by
  match X, h with
  | [a, b, c, d, e], _ => rfl

theorem rnd_wor (W c : Nat) (hc : c = W / 57896044618658097711785492504343953926634992332820282019728792003956564819968) : wor (W % 2251799813685248 + 19 * c) (W / 2251799813685248 % 2251799813685248) (W / 5070602400912917605986812821504 % 2251799813685248) (W / 11417981541647679048466287755595961091061972992 % 2251799813685248) (W / 25711008708143844408671393477458601640355247900524685364822016 % 2251799813685248) + 57896044618658097711785492504343953926634992332820282019728792003956564819949 * c = W := by
  unfold wor
  omega
theorem worL_lt {X : List Nat} (h : RoomL X) : worL X < 2 * 57896044618658097711785492504343953926634992332820282019728792003956564819968 := by
  have h0 := h.2 0
  have h1 := h.2 1
  have h2 := h.2 2
  have h3 := h.2 3
  have h4 := h.2 4
  unfold worL
  generalize X.getD 0 0 = a at *
  generalize X.getD 1 0 = b at *
  generalize X.getD 2 0 = c at *
  generalize X.getD 3 0 = d at *
  generalize X.getD 4 0 = e at *
  unfold wor
  omega
/-- One round. -/
def rnd (X : List Nat) : List Nat := (carried X).set 0 ((carried X).getD 0 0 + 19 * cc X 5)
theorem rnd_ok {X : List Nat} (h : RoomL X) : RoomL (rnd X) ∧ worL (rnd X) % Prime.P = worL X % Prime.P := by
  have hlen : (rnd X).length = 5 := by unfold rnd; rw [List.length_set]; rfl
  have hW := worL_lt h
  have hc := cc_over X
  have hcar := carried_lim X
  have hget : ∀ i, i < 5 → (carried X).getD i 0 < 2251799813685248 := fun i hi => by
    rw [carried_at X i hi]
    exact Nat.mod_lt _ (by decide)
  have g : ∀ i, (rnd X).getD i 0 = if i = 0 then (carried X).getD 0 0 + 19 * cc X 5 else (carried X).getD i 0 := fun i => by
    unfold rnd
    by_cases e : i = 0
    · subst e
      rw [if_pos rfl]
      simp [List.getD, carried_length]
    · rw [if_neg e, List.getD, List.getElem?_set_ne (by omega), ← List.getD]
  refine ⟨⟨hlen, fun i => ?_⟩, ?_⟩
  · rw [g i]
    by_cases e : i = 0
    · rw [if_pos e]
      have := hget 0 (by decide)
      omega
    · rw [if_neg e]
      by_cases hi : i < 5
      · have := hget i hi
        omega
      · rw [List.getD, List.getElem?_eq_none (by rw [carried_length]; omega)]
        decide
  · have e0 : (rnd X).getD 0 0 = (carried X).getD 0 0 + 19 * cc X 5 := by rw [g 0, if_pos rfl]
    have e1 : (rnd X).getD 1 0 = (carried X).getD 1 0 := by rw [g 1, if_neg (by decide)]
    have e2 : (rnd X).getD 2 0 = (carried X).getD 2 0 := by rw [g 2, if_neg (by decide)]
    have e3 : (rnd X).getD 3 0 = (carried X).getD 3 0 := by rw [g 3, if_neg (by decide)]
    have e4 : (rnd X).getD 4 0 = (carried X).getD 4 0 := by rw [g 4, if_neg (by decide)]
    have hw : worL (rnd X) + Prime.P * cc X 5 = worL X := by
      rw [worL, e0, e1, e2, e3, e4, hcar, P_eq]
      unfold lim
      simp only [List.getD_cons_zero, List.getD_cons_succ]
      exact rnd_wor (worL X) (cc X 5) hc
    rw [← hw, Nat.add_mul_mod_self_left]

/-- What is above, reckoned limb by limb. -/
def qc (X : List Nat) : Nat → Nat
  | 0 => (X.getD 0 0 + 19) / 2251799813685248
  | k + 1 => (X.getD (k + 1) 0 + qc X k) / 2251799813685248
theorem qc_le {X : List Nat} (h : Big X) (k : Nat) : qc X k ≤ 8 := by
  induction k with
  | zero =>
    have := h.2 0
    rw [qc]
    omega
  | succ k ih =>
    have := h.2 (k + 1)
    rw [qc]
    omega
theorem last_ok {X : List Nat} (h : RoomL X) : Big (X.set 0 (X.getD 0 0 + 19 * qc X 4)) ∧ carried (X.set 0 (X.getD 0 0 + 19 * qc X 4)) = lim (worL X % Prime.P) := by
  have hq := qc_le h.big 4
  have hr : Limb.Roomy (X.getD 0 0) (X.getD 1 0) (X.getD 2 0) (X.getD 3 0) (X.getD 4 0) := ⟨h.2 0, h.2 1, h.2 2, h.2 3, h.2 4⟩
  have hred := reduce (q := qc X 4) hr rfl
  have g : ∀ i, (X.set 0 (X.getD 0 0 + 19 * qc X 4)).getD i 0 = if i = 0 then X.getD 0 0 + 19 * qc X 4 else X.getD i 0 := fun i => by
    by_cases e : i = 0
    · subst e
      rw [if_pos rfl]
      simp [List.getD, h.1]
    · rw [if_neg e, List.getD, List.getElem?_set_ne (by omega), ← List.getD]
  refine ⟨⟨by rw [List.length_set]; exact h.1, fun i => ?_⟩, ?_⟩
  · rw [g i]
    split
    · have := h.2 0
      omega
    · exact Nat.lt_trans (h.2 i) (by decide)
  · rw [carried_lim, worL, g 0, g 1, g 2, g 3, g 4, if_pos rfl, if_neg (by decide), if_neg (by decide), if_neg (by decide), if_neg (by decide), ← carry_lim]
    exact hred.2
end Go.Proofs.Ytcglobpklhkebaa.RefLimb
