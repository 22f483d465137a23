/-
  The plain mathematics of roster's Read, list after list, and of what fits into it (text RosB). No condition but those that each lemma names.
-/
import Derived.Test.YtofnjonmfgdpaaaRosS
import Derived.Test.YtofnjonmfgdpaaaPrtD
namespace Go.Proofs.Ytofnjonmfgdpaaa.Ros
open Go.RowKit Mur Prt
set_option maxRecDepth 100000

theorem zl_ints (l : List Nat) : zl l = ints l := rfl
/-- Three lists, one behind the other. -/
def lists (s : List UInt8) (k p : Nat) : Except Nat (List (List Nat) × Nat) := readN (readAll readNum s) k p
theorem lists_ok (s : List UInt8) (k p q : Nat) (x : List Nat) (h : readAll readNum s (p : Int) = .ok (x, q)) : lists s (k + 1) p = front [x] (lists s k q) := readN_ok _ k p q x h
theorem lists_error (s : List UInt8) (k p e : Nat) (h : readAll readNum s (p : Int) = .error e) : lists s (k + 1) p = .error e := readN_error _ k p e h
theorem lists_zero (s : List UInt8) (p : Nat) : lists s 0 p = .ok ([], p) := rfl
/-- What is read of the lists. -/
def told (s g : List UInt8) (r : Except Nat (List (List Nat) × Nat)) : Except Nat R := match r with
  | .error e => .error e
  | .ok (ls, p) => if p = s.length ∧ (ls.getD 0 []).length = 2 ∧ right (ros g (ls.getD 0 []) (ls.getD 1 []) (ls.getD 2 [])) = true then .ok (ros g (ls.getD 0 []) (ls.getD 1 []) (ls.getD 2 [])) else .error 3
theorem told_error (s g : List UInt8) (e : Nat) : told s g (.error e) = .error e := rfl
theorem read_error (s : List UInt8) (e : Nat) (h : readStr s 0 = .error e) : read s = .error e := by
  unfold read
  rw [h]
theorem read_told (s g : List UInt8) (p : Nat) (h : readStr s 0 = .ok (g, p)) : read s = told s g (lists s 3 p) := by
  unfold read
  rw [h]
  dsimp only
  cases h1 : readAll readNum s (p : Int) with
  | error e => rw [lists_error s 2 p e h1]; rfl
  | ok x1 =>
    obtain ⟨two, p1⟩ := x1
    rw [lists_ok s 2 p p1 two h1]
    dsimp only
    cases h2 : readAll readNum s (p1 : Int) with
    | error e => rw [lists_error s 1 p1 e h2]; rfl
    | ok x2 =>
      obtain ⟨bs, p2⟩ := x2
      rw [lists_ok s 1 p1 p2 bs h2, front_front]
      dsimp only
      cases h3 : readAll readNum s (p2 : Int) with
      | error e => rw [lists_error s 0 p2 e h3]; rfl
      | ok x3 =>
        obtain ⟨gs, p3⟩ := x3
        rw [lists_ok s 0 p2 p3 gs h3, front_front, lists_zero]
        rfl

/-- What is laid has few numbers, and small ones. -/
theorem each_fits (l : List Int) : ∀ b, each num l = .ok b → ∀ z ∈ l, 0 ≤ z ∧ z < 1099511627776 := by
  induction l with
  | nil => intro b _ z hz; cases hz
  | cons x l ih =>
    intro b h z hz
    cases hx : num x with
    | error e => rw [each_error num x l e hx] at h; cases h
    | ok a =>
      rw [each_ok num x l a hx] at h
      cases hl : each num l with
      | error e => rw [hl] at h; cases h
      | ok c =>
        rcases List.mem_cons.1 hz with rfl | hz
        · exact num_nat z a hx
        · exact ih c hl z hz
theorem lay_fits (l : List Int) (b : List UInt8) (h : layAll num l = .ok b) : l.length ≤ 255 ∧ ∀ z ∈ l, 0 ≤ z ∧ z < 1099511627776 := by
  unfold layAll at h
  split at h
  · cases h
  · cases hl : each num l with
    | error e => rw [hl] at h; cases h
    | ok c => exact ⟨by omega, each_fits l c hl⟩
theorem read_fits (s : List UInt8) (p q : Nat) (l : List Nat) (h : readAll readNum s (p : Int) = .ok (l, q)) : l.length ≤ 255 ∧ (∀ z ∈ zl l, -9223372036854775808 ≤ z ∧ z ≤ 9223372036854775807) ∧ q ≤ s.length := by
  obtain ⟨h1, h2, h3⟩ := nums_laid s p q l h
  obtain ⟨h4, h5⟩ := lay_fits _ _ h1
  rw [ints_length] at h4
  exact ⟨h4, fun z hz => by have := h5 z hz; omega, h3⟩
theorem readAll_err (s : List UInt8) (p : Int) (e : Nat) (h : readAll readNum s p = .error e) : 1 ≤ e ∧ e ≤ 4 := by
  unfold readAll at h
  cases hh : readHigh s p 1 with
  | error y => rw [hh] at h; cases h; have := readHigh_err s p 1 e hh; omega
  | ok r =>
    obtain ⟨n, q⟩ := r
    rw [hh] at h
    dsimp only at h
    clear hh
    induction n generalizing q with
    | zero => rw [readN_zero] at h; cases h
    | succ n ih =>
      cases hx : readNum s (q : Int) with
      | error y => rw [readN_error _ n q y hx] at h; cases h; exact readNum_err s q e hx
      | ok t =>
        obtain ⟨x, q2⟩ := t
        rw [readN_ok _ n q q2 x hx] at h
        cases hn : readN (readNum s) n q2 with
        | error y => rw [hn] at h; cases h; exact ih q2 hn
        | ok t => rw [hn] at h; cases h
end Go.Proofs.Ytofnjonmfgdpaaa.Ros
