/-
  Plain mathematics of BookLifts (P16.9): what was played for real in a book is played so again, answer by answer, in its lifted book, and both end with the same bytes used and the same signatures issued. Nothing here speaks of a program: no condition but those that each lemma names.
-/
import Derived.Test.YtdhipdoaefdfeaaGreatDoorBkR
namespace Go.Proofs.YtdhipdoaefdfeaaGreatDoor.Bkn
open Go.RowKit Mur Prt Lanes Tap Bkl Bkm Rec Cel Bkr
set_option maxRecDepth 100000

/-- A call of the law: whether it signs, a name and a text. -/
structure Call where
  signs : Bool
  name : List UInt8
  text : List UInt8
def stepB (b : Bk) (o : Call) : Bk := if o.signs = true then (signO b o.name o.text).2.1 else cellB b o.name 8
def ansB (b : Bk) (o : Call) : List UInt8 := if o.signs = true then (signO b o.name o.text).1 else cellS b o.name 8
def errB (b : Bk) (o : Call) : Int := if o.signs = true then (signO b o.name o.text).2.2 else 0
def playB (b : Bk) : List Call → Bk
  | [] => b
  | o :: l => playB (stepB b o) l
theorem playB_snoc (b : Bk) (l : List Call) (o : Call) : playB b (l ++ [o]) = stepB (playB b l) o := by
  induction l generalizing b with
  | nil => rfl
  | cons c l ih => exact ih _
theorem playB_append (b : Bk) (l m : List Call) : playB b (l ++ m) = playB (playB b l) m := by
  induction l generalizing b with
  | nil => rfl
  | cons c l ih => exact ih _
def opOf (o : Call) : Bkl.Op := if o.signs = true then .sign o.name o.text else .cell o.name
def stOf (b : Bk) : St := ⟨b.used, b.counts, b.issued⟩
def okCall (o : Call) : Prop := o.signs = false → o.name.take 4 ≠ [115, 105, 103, 32]
theorem ok_of {o : Call} (h : okCall o) : okOp (opOf o) := by
  unfold opOf
  split
  · trivial
  · rename_i hs
    exact h (by simpa using hs)
def dOf (seed : List UInt8) (n : List UInt8) : List UInt8 := Ked.derive seed (many 8) [cellT, n]
def sOf (seed : List UInt8) (who : List UInt8) (k : Nat) (msg : List UInt8) : List UInt8 := Stp.signature 2 1 (signerSeed seed who) k msg
theorem sOf_length (seed who : List UInt8) (k : Nat) (msg : List UInt8) : (sOf seed who k msg).length = 18 := Stp.signature_length 2 1 _ _ _ (by omega)
/-- A call of a book that is real. -/
theorem step_real (b : Bk) (o : Call) (hi : b.ideal = false) :
    stOf (stepB b o) = (real (dOf b.seed) (sOf b.seed) (stOf b) (opOf o)).2 ∧ ansB b o = (real (dOf b.seed) (sOf b.seed) (stOf b) (opOf o)).1.1 ∧ errB b o = (if (real (dOf b.seed) (sOf b.seed) (stOf b) (opOf o)).1.2 = true then 6 else 0) ∧ (stepB b o).ideal = false ∧ (stepB b o).seed = b.seed := by
  have hi' : ¬ b.ideal = true := by rw [hi]; decide
  unfold stepB ansB errB opOf
  by_cases hs : o.signs = true
  · simp only [if_pos hs]
    rw [real, signO]
    have e0 : count (stOf b).counts o.name = count b.counts o.name := rfl
    rw [e0]
    by_cases h2 : 2 ≤ count b.counts o.name
    · rw [if_pos h2, if_pos h2]
      exact ⟨rfl, rfl, rfl, hi, rfl⟩
    · rw [if_neg h2, if_neg h2]
      have e1 : signS b o.name o.text = sOf b.seed o.name (count b.counts o.name) o.text := by rw [signS, if_neg hi']; rfl
      have e2 : usedB b o.name o.text = { b with used := put b.used (sigName o.name (count b.counts o.name)) (signS b o.name o.text) } := by rw [usedB, if_neg hi']
      refine ⟨?_, e1, rfl, ?_, ?_⟩
      · show stOf { usedB b o.name o.text with counts := counted b.counts o.name, issued := add b.issued (o.name, o.text, signS b o.name o.text) } = _
        rw [e2, e1]
        rfl
      · show (usedB b o.name o.text).ideal = false
        rw [e2]
        exact hi
      · show (usedB b o.name o.text).seed = b.seed
        rw [e2]
  · simp only [if_neg hs]
    rw [real, cellS, cellB]
    have e0 : (stOf b).used = b.used := rfl
    rw [e0]
    cases hu : get b.used o.name with
    | some s => exact ⟨rfl, rfl, rfl, hi, rfl⟩
    | none =>
      have e1 : freshS b o.name 8 = fit (dOf b.seed o.name) 8 := by rw [freshS, if_neg hi']; rfl
      dsimp only
      rw [e1]
      exact ⟨rfl, rfl, rfl, hi, rfl⟩
/-- A call of a book that is ideal. -/
theorem step_ideal (b : Bk) (o : Call) (hi : b.ideal = true) :
    stOf (stepB b o) = (ideal 18 b.cells (stOf b) (opOf o)).2 ∧ ansB b o = (ideal 18 b.cells (stOf b) (opOf o)).1.1 ∧ errB b o = (if (ideal 18 b.cells (stOf b) (opOf o)).1.2 = true then 6 else 0) ∧ (stepB b o).ideal = true ∧ (stepB b o).cells = b.cells := by
  have cS : ∀ n (k : Nat), cellS b n k = (Bkl.cellI b.cells n k b.used).1 := fun n k => by
    rw [cellS, Bkl.cellI]
    cases hu : get b.used n with
    | some s => rfl
    | none => show freshS b n k = _; rw [freshS, if_pos hi]
  have cB : ∀ n (k : Nat), cellB b n k = { b with used := (Bkl.cellI b.cells n k b.used).2 } := fun n k => by
    rw [cellB, Bkl.cellI]
    cases hu : get b.used n with
    | some s => rfl
    | none => show { b with used := put b.used n (freshS b n k) } = _; rw [freshS, if_pos hi]
  unfold stepB ansB errB opOf
  by_cases hs : o.signs = true
  · simp only [if_pos hs]
    rw [ideal, signO]
    have e0 : count (stOf b).counts o.name = count b.counts o.name := rfl
    rw [e0]
    by_cases h2 : 2 ≤ count b.counts o.name
    · rw [if_pos h2, if_pos h2]
      exact ⟨rfl, rfl, rfl, hi, rfl⟩
    · rw [if_neg h2, if_neg h2]
      have e1 : signS b o.name o.text = (Bkl.cellI b.cells (sigName o.name (count b.counts o.name)) 18 b.used).1 := by rw [signS, if_pos hi]; exact cS _ 18
      have e2 : usedB b o.name o.text = { b with used := (Bkl.cellI b.cells (sigName o.name (count b.counts o.name)) 18 b.used).2 } := by rw [usedB, if_pos hi]; exact cB _ 18
      refine ⟨?_, e1, rfl, ?_, ?_⟩
      · show stOf { usedB b o.name o.text with counts := counted b.counts o.name, issued := add b.issued (o.name, o.text, signS b o.name o.text) } = _
        rw [e2, e1]
        rfl
      · show (usedB b o.name o.text).ideal = true
        rw [e2]
        exact hi
      · show (usedB b o.name o.text).cells = b.cells
        rw [e2]
  · simp only [if_neg hs]
    rw [ideal]
    have e1 := cS o.name 8
    have e2 := cB o.name 8
    refine ⟨?_, e1, rfl, ?_, ?_⟩
    · show stOf (cellB b o.name ((8 : Nat) : Int)) = _
      rw [e2]
      rfl
    · show (cellB b o.name ((8 : Nat) : Int)).ideal = true
      rw [e2]
      exact hi
    · show (cellB b o.name ((8 : Nat) : Int)).cells = b.cells
      rw [e2]
theorem play_real (l : List Call) : ∀ (b : Bk), b.ideal = false → stOf (playB b l) = (play (real (dOf b.seed) (sOf b.seed)) (stOf b) (l.map opOf)).2 ∧ (playB b l).ideal = false ∧ (playB b l).seed = b.seed := by
  induction l with
  | nil => intro b hi; exact ⟨rfl, hi, rfl⟩
  | cons o l ih =>
    intro b hi
    obtain ⟨h1, _, _, h4, h5⟩ := step_real b o hi
    obtain ⟨k1, k2, k3⟩ := ih (stepB b o) h4
    rw [h5, h1] at k1
    exact ⟨k1, k2, k3.trans h5⟩
theorem good_play (seed : List UInt8) (l : List Bkl.Op) : ∀ (st : St), Bkl.Good st → (∀ o ∈ l, okOp o) → Bkl.Good (play (real (dOf seed) (sOf seed)) st l).2 := by
  induction l with
  | nil => intro st h _; exact h
  | cons o l ih =>
    intro st h hok
    exact ih _ (real_grows _ _ st o h (hok o List.mem_cons_self)).2 fun x hx => hok x (List.mem_cons_of_mem _ hx)
/-- Both books behind the same calls, before the next one. -/
structure Pair (b0 : Bk) (ops done rest : List Call) (r u : Bk) : Prop where
  all : ops = done ++ rest
  real : r = playB b0 done
  ri : r.ideal = false
  rs : r.seed = b0.seed
  ui : u.ideal = true
  uc : u.cells = (playB b0 ops).used
  st : stOf u = stOf r
  good : Bkl.Good (stOf r)
theorem pair_start (b0 : Bk) (ops : List Call) (hi : b0.ideal = false) (h0 : stOf b0 = ⟨[], [], []⟩) : Pair b0 ops [] ops b0 (liftB (playB b0 ops)) :=
  ⟨rfl, rfl, hi, rfl, rfl, rfl, h0.symm, by rw [h0]; exact good_start⟩
/-- The next call: the same answer, the same error, and on. -/
theorem pair_next {b0 : Bk} {ops done rest : List Call} {r u : Bk} {o : Call} (h : Pair b0 ops done (o :: rest) r u) (hok : ∀ x ∈ ops, okCall x) :
    ansB u o = ansB r o ∧ errB u o = errB r o ∧ Pair b0 ops (done ++ [o]) rest (stepB r o) (stepB u o) := by
  obtain ⟨a1, a2, a3, a4, a5⟩ := step_real r o h.ri
  obtain ⟨c1, c2, c3, c4, c5⟩ := step_ideal u o h.ui
  have hsuf : ∀ x ∈ o :: rest, okCall x := fun x hx => hok x (by rw [h.all]; exact List.mem_append_right _ hx)
  have hg2 := real_grows (dOf r.seed) (sOf r.seed) (stOf r) (opOf o) h.good (ok_of (hsuf o List.mem_cons_self))
  have hfull : playB b0 ops = playB (stepB r o) rest := by
    rw [h.all, playB_append, ← h.real]
    rfl
  have hU : ∀ m s, get (Bkl.real (dOf r.seed) (sOf r.seed) (stOf r) (opOf o)).2.used m = some s → get u.cells m = some s := by
    intro m s hm
    obtain ⟨k1, -, -⟩ := play_real rest (stepB r o) a4
    have hh := play_grows (dOf r.seed) (sOf r.seed) (rest.map opOf) _ hg2.2 (by
      intro x hx
      obtain ⟨y, hy, rfl⟩ := List.mem_map.1 hx
      exact ok_of (hsuf y (List.mem_cons_of_mem _ hy))) m s hm
    rw [h.uc, hfull]
    rw [a5, a1] at k1
    have : (playB (stepB r o) rest).used = (play (Bkl.real (dOf r.seed) (sOf r.seed)) (Bkl.real (dOf r.seed) (sOf r.seed) (stOf r) (opOf o)).2 (rest.map opOf)).2.used := congrArg St.used k1
    rw [this]
    exact hh
  have e := step_same (dOf r.seed) (sOf r.seed) 18 u.cells (stOf r) (opOf o) h.good (by decide) (fun who n msg => sOf_length r.seed who n msg) hU
  rw [h.st, e] at c1 c2 c3
  refine ⟨by rw [c2, a2], by rw [c3, a3], ⟨?_, ?_, a4, a5.trans h.rs, c4, c5.trans h.uc, by rw [c1, a1], by rw [a1]; exact hg2.2⟩⟩
  · rw [h.all, List.append_assoc]
    rfl
  · rw [playB_snoc, ← h.real]
theorem pair_end {b0 : Bk} {ops done : List Call} {r u : Bk} (h : Pair b0 ops done [] r u) : u.used = r.used ∧ u.issued = r.issued := ⟨congrArg St.used h.st, congrArg St.issued h.st⟩
theorem Room.step {b : Bk} {m : Nat} (h : Room b m) (o : Call) : Room (stepB b o) (m + 1) := by
  unfold stepB signO
  split
  · split
    · exact h.more (Nat.le_succ m)
    · exact h.sign _ _
  · exact h.cell _ _
theorem Room.play {b : Bk} {m : Nat} (h : Room b m) (l : List Call) : Room (playB b l) (m + l.length) := by
  induction l generalizing b m with
  | nil => exact h
  | cons o l ih =>
    have := ih (Room.step h o)
    rw [List.length_cons]
    show Room (playB (stepB b o) l) _
    rw [show m + (l.length + 1) = m + 1 + l.length by omega]
    exact this
end Go.Proofs.YtdhipdoaefdfeaaGreatDoor.Bkn
