/-
  A book's cells and signatures in the real mode, and once more in the ideal one with what was used as its tape (chapter 16): plain mathematics. Conditions: no cell that is asked for has a signature's name; signatures have one length, at most 6000.
-/
import Derived.Test.YtdhipdoaefdfeaaGreatDoorMTap
namespace Go.Proofs.YtdhipdoaefdfeaaGreatDoor.Bkl
open Tap Prt
structure St where
  used : List C
  counts : List (List UInt8 × Nat)
  issued : List (List UInt8 × List UInt8 × List UInt8)
inductive Op where
  | cell (name : List UInt8)
  | sign (who msg : List UInt8)
def count : List (List UInt8 × Nat) → List UInt8 → Nat
  | [], _ => 0
  | c :: l, who => if c.1 = who then c.2 else count l who
def counted : List (List UInt8 × Nat) → List UInt8 → List (List UInt8 × Nat)
  | [], who => [(who, 1)]
  | c :: l, who => if c.1 = who then (c.1, c.2 + 1) :: l else c :: counted l who
theorem count_same (l : List (List UInt8 × Nat)) (who : List UInt8) : count (counted l who) who = count l who + 1 := by
  induction l with
  | nil => simp [counted, count]
  | cons c l ih =>
    rw [counted]
    split
    · rename_i h
      simp [count, h]
    · rename_i h
      simp [count, h, ih]
theorem count_other (l : List (List UInt8 × Nat)) (who other : List UInt8) (h : other ≠ who) : count (counted l who) other = count l other := by
  induction l with
  | nil => simp [counted, count, Ne.symm h]
  | cons c l ih =>
    rw [counted]
    split
    · rename_i hc
      simp [count, hc, Ne.symm h]
    · rw [count, count, ih]
def sigName (who : List UInt8) (n : Nat) : List UInt8 := joined ([115, 105, 103, 32] ++ who) [(n : Int)]
theorem last_blank (a b d e : List UInt8) (hd : ∀ x ∈ d, x ≠ 32) (he : ∀ x ∈ e, x ≠ 32) (h : a ++ 32 :: d = b ++ 32 :: e) : a = b ∧ d = e := by
  rcases List.append_eq_append_iff.1 h with ⟨t, h1, h2⟩ | ⟨t, h1, h2⟩
  · cases t with
    | nil => simp at h1 h2; exact ⟨h1.symm, h2⟩
    | cons x t =>
      simp only [List.cons_append, List.cons.injEq] at h2
      exact absurd rfl (hd 32 (by rw [h2.2]; simp))
  · cases t with
    | nil => simp at h1 h2; exact ⟨h1, h2.symm⟩
    | cons x t =>
      simp only [List.cons_append, List.cons.injEq] at h2
      exact absurd rfl (he 32 (by rw [h2.2]; simp))
theorem sigName_same (who other : List UInt8) (n m : Nat) (h : sigName who n = sigName other m) : who = other ∧ n = m := by
  have h' : ([115, 105, 103, 32] ++ who) ++ 32 :: digits n = ([115, 105, 103, 32] ++ other) ++ 32 :: digits m := by
    have e : ∀ (w : List UInt8) (k : Nat), joined w [(k : Int)] = w ++ 32 :: digits k := fun w k => by
      rw [joined]
      simp only [tail, dec_nat, List.append_nil]
    rw [← e, ← e]
    exact h
  obtain ⟨h1, h2⟩ := last_blank _ _ _ _ (digits_plain n) (digits_plain m) h'
  exact ⟨List.append_cancel_left h1, digits_same _ _ h2⟩
theorem sigName_begins (who : List UInt8) (n : Nat) : (sigName who n).take 4 = [115, 105, 103, 32] := rfl
def add (l : List (List UInt8 × List UInt8 × List UInt8)) (x : List UInt8 × List UInt8 × List UInt8) : List (List UInt8 × List UInt8 × List UInt8) := if x ∈ l then l else l ++ [x]
/-- An answer: bytes, and whether there was an error. -/
abbrev Ans := List UInt8 × Bool
variable (D : List UInt8 → List UInt8) (S : List UInt8 → Nat → List UInt8 → List UInt8) (L : Nat) (U : List C)
def real (st : St) : Op → Ans × St
  | .cell n => match get st.used n with
    | some s => ((fit s 8, false), st)
    | none => ((fit (D n) 8, false), { st with used := put st.used n (fit (D n) 8) })
  | .sign who msg => if 2 ≤ count st.counts who then (([], true), st) else
    ((S who (count st.counts who) msg, false), ⟨put st.used (sigName who (count st.counts who)) (S who (count st.counts who) msg), counted st.counts who, add st.issued (who, msg, S who (count st.counts who) msg)⟩)
def cellI (n : List UInt8) (k : Nat) (used : List C) : List UInt8 × List C := match get used n with
  | some s => (fit s k, used)
  | none => (fit ((get U n).getD []) k, put used n (fit ((get U n).getD []) k))
def ideal (st : St) : Op → Ans × St
  | .cell n => (((cellI U n 8 st.used).1, false), { st with used := (cellI U n 8 st.used).2 })
  | .sign who msg => if 2 ≤ count st.counts who then (([], true), st) else
    (((cellI U (sigName who (count st.counts who)) L st.used).1, false), ⟨(cellI U (sigName who (count st.counts who)) L st.used).2, counted st.counts who, add st.issued (who, msg, (cellI U (sigName who (count st.counts who)) L st.used).1)⟩)
def Good (st : St) : Prop := ∀ who n s, get st.used (sigName who n) = some s → n < count st.counts who
def okOp : Op → Prop
  | .cell n => n.take 4 ≠ [115, 105, 103, 32]
  | .sign _ _ => True
theorem fit_self (s : List UInt8) (n : Nat) (h : s.length = n) (hn : n ≤ 6000) : fit s n = s := by
  have e : (max 0 (min (n : Int) 6000)).toNat = n := by omega
  rw [fit, e, ← h]
  exact List.take_left ..
theorem fit_length (s : List UInt8) (n : Nat) (hn : n ≤ 6000) : (fit s n).length = n := by
  have e : (max 0 (min (n : Int) 6000)).toNat = n := by omega
  rw [fit, e]
  simp
theorem fit_fit (s : List UInt8) (n : Nat) (hn : n ≤ 6000) : fit (fit s n) n = fit s n := fit_self _ _ (fit_length s n hn) hn
theorem real_grows (st : St) (op : Op) (hg : Good st) (hok : okOp op) : (∀ m s, get st.used m = some s → get (real D S st op).2.used m = some s) ∧ Good (real D S st op).2 := by
  cases op with
  | cell n =>
    rw [real]
    cases hu : get st.used n with
    | some s => exact ⟨fun m s h => h, hg⟩
    | none =>
      refine ⟨fun m s h => ?_, fun who k s h => ?_⟩
      · have : m ≠ n := by rintro rfl; rw [hu] at h; cases h
        show get (put _ _ _) m = _
        rw [put_other _ _ _ _ this, h]
      · have hne : sigName who k ≠ n := by rintro rfl; exact hok (sigName_begins who k)
        have h' : get (put st.used n (fit (D n) 8)) (sigName who k) = some s := h
        rw [put_other _ _ _ _ hne] at h'
        exact hg who k s h'
  | sign who msg =>
    rw [real]
    split
    · exact ⟨fun m s h => h, hg⟩
    · refine ⟨fun m s h => ?_, fun other k s h => ?_⟩
      · have : m ≠ sigName who (count st.counts who) := by
          rintro rfl
          have := hg _ _ _ h
          omega
        show get (put _ _ _) m = _
        rw [put_other _ _ _ _ this, h]
      · have h' : get (put st.used (sigName who (count st.counts who)) (S who (count st.counts who) msg)) (sigName other k) = some s := h
        show k < count (counted st.counts who) other
        by_cases hs : sigName other k = sigName who (count st.counts who)
        · obtain ⟨rfl, rfl⟩ := sigName_same _ _ _ _ hs
          rw [count_same]
          omega
        · rw [put_other _ _ _ _ hs] at h'
          have := hg _ _ _ h'
          by_cases ho : other = who
          · subst ho
            rw [count_same]
            omega
          · rw [count_other _ _ _ ho]
            exact this
def play (step : St → Op → Ans × St) (st : St) : List Op → List Ans × St
  | [] => ([], st)
  | op :: l => let r := step st op; let q := play step r.2 l; (r.1 :: q.1, q.2)
theorem play_grows (ops : List Op) : ∀ (st : St), Good st → (∀ o ∈ ops, okOp o) → ∀ m s, get st.used m = some s → get (play (real D S) st ops).2.used m = some s := by
  induction ops with
  | nil => intro st _ _ m s h; exact h
  | cons op ops ih =>
    intro st hg hok m s h
    obtain ⟨h1, h2⟩ := real_grows D S st op hg (hok op List.mem_cons_self)
    exact ih _ h2 (fun o ho => hok o (List.mem_cons_of_mem _ ho)) m s (h1 m s h)
theorem step_same (st : St) (op : Op) (hg : Good st) (hL : L ≤ 6000) (hS : ∀ who n msg, (S who n msg).length = L) (hU : ∀ m s, get (real D S st op).2.used m = some s → get U m = some s) : ideal L U st op = real D S st op := by
  cases op with
  | cell n =>
    rw [real] at hU ⊢
    rw [ideal, cellI]
    cases hu : get st.used n with
    | some s => rfl
    | none =>
      rw [hu] at hU
      have := hU n _ (put_got _ _ _)
      rw [this]
      simp only [Option.getD_some]
      rw [show fit (fit (D n) 8) ((8 : Nat) : Int) = fit (D n) 8 from fit_fit (D n) 8 (by omega)]
  | sign who msg =>
    rw [real] at hU ⊢
    rw [ideal]
    split
    · rfl
    · rename_i h2
      rw [if_neg h2] at hU
      have hn : get st.used (sigName who (count st.counts who)) = none := by
        cases hu : get st.used (sigName who (count st.counts who)) with
        | none => rfl
        | some s => exact absurd (hg _ _ _ hu) (Nat.lt_irrefl _)
      have := hU _ _ (put_got _ _ _)
      rw [cellI, hn]
      simp only [this, Option.getD_some]
      rw [fit_self _ L (hS _ _ _) hL]
/-- What was played for real is played so again from what it used. -/
theorem lifts (hL : L ≤ 6000) (hS : ∀ who n msg, (S who n msg).length = L) (ops : List Op) : ∀ (st : St), Good st → (∀ o ∈ ops, okOp o) → (∀ m s, get (play (real D S) st ops).2.used m = some s → get U m = some s) → play (ideal L U) st ops = play (real D S) st ops := by
  induction ops with
  | nil => intro st _ _ _; rfl
  | cons op ops ih =>
    intro st hg hok hU
    obtain ⟨_, h2⟩ := real_grows D S st op hg (hok op List.mem_cons_self)
    have hok' : ∀ o ∈ ops, okOp o := fun o ho => hok o (List.mem_cons_of_mem _ ho)
    have e := step_same D S L U st op hg hL hS (fun m s h => hU m s (play_grows D S ops _ h2 hok' m s h))
    rw [play, play]
    simp only [e]
    rw [ih _ h2 hok' hU]
theorem good_start : Good ⟨[], [], []⟩ := by
  intro who n s h
  cases h
end Go.Proofs.YtdhipdoaefdfeaaGreatDoor.Bkl
