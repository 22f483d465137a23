/-
  The plain mathematics of seal's Read, in the words of what the program answers: what fits into a list that was read; the letter that is answered. No condition but those that each lemma names.
-/
import Derived.Test.YtnglnocdffjnoaaSeaC
import Derived.Test.YtnglnocdffjnoaaPrtD
namespace Go.Proofs.Ytnglnocdffjnoaa.Sea
open Go.RowKit Mur Prt Lanes
open Ros (ints ints_length nums_laid num_nat)
set_option maxRecDepth 100000

theorem zl_ints (l : List Nat) : zl l = ints l := rfl
/-- What is laid has few numbers, and small ones. -/
theorem each_fits (l : List Int) : ∀ b, each num l = .ok b → ∀ z ∈ l, 0 ≤ z ∧ z < 1099511627776 := by
  induction l with
  | nil => intro b _ z hz; cases hz
  | cons x l ih =>
    intro b h z hz
    cases hx : num x with
    | error e => rw [each_error num x l e hx] at h; cases h
    | ok a =>
      rw [each_ok num x l a hx] at h
      cases hl : each num l with
      | error e => rw [hl] at h; cases h
      | ok c =>
        rcases List.mem_cons.1 hz with rfl | hz
        · exact num_nat z a hx
        · exact ih c hl z hz
theorem lay_fits (l : List Int) (b : List UInt8) (h : layAll num l = .ok b) : l.length ≤ 255 ∧ ∀ z ∈ l, 0 ≤ z ∧ z < 1099511627776 := by
  unfold layAll at h
  split at h
  · cases h
  · cases hl : each num l with
    | error e => rw [hl] at h; cases h
    | ok c => exact ⟨by omega, each_fits l c hl⟩
theorem read_fits (s : List UInt8) (p q : Nat) (l : List Nat) (h : readAll readNum s (p : Int) = .ok (l, q)) : l.length ≤ 255 ∧ (∀ z ∈ zl l, -9223372036854775808 ≤ z ∧ z ≤ 9223372036854775807) ∧ q ≤ s.length := by
  obtain ⟨h1, h2, h3⟩ := nums_laid s p q l h
  obtain ⟨h4, h5⟩ := lay_fits _ _ h1
  rw [ints_length] at h4
  exact ⟨h4, fun z hz => by have := h5 z hz; omega, h3⟩
theorem readAll_err (s : List UInt8) (p : Int) (e : Nat) (h : readAll readNum s p = .error e) : 1 ≤ e ∧ e ≤ 4 := by
  unfold readAll at h
  cases hh : readHigh s p 1 with
  | error y => rw [hh] at h; cases h; have := readHigh_err s p 1 e hh; omega
  | ok r =>
    obtain ⟨n, q⟩ := r
    rw [hh] at h
    dsimp only at h
    clear hh
    induction n generalizing q with
    | zero => rw [readN_zero] at h; cases h
    | succ n ih =>
      cases hx : readNum s (q : Int) with
      | error y => rw [readN_error _ n q y hx] at h; cases h; exact readNum_err s q e hx
      | ok t =>
        obtain ⟨x, q2⟩ := t
        rw [readN_ok _ n q q2 x hx] at h
        cases hn : readN (readNum s) n q2 with
        | error y => rw [hn] at h; cases h; exact ih q2 hn
        | ok t => rw [hn] at h; cases h

/-- A letter, as values. -/
def svOf (l : L) : SV := ⟨tx l.group, l.epoch, l.round, l.kind, l.from', tx l.body, tx l.sig⟩
theorem svOf_l (l : L) : (svOf l).l = l := by cases l; rfl
/-- The letter that Read answers. -/
def seaV (r : Except Nat L) : SV := match r with
  | .ok l => svOf l
  | .error _ => zero
theorem fit_svOf (l : L) (h : right l = true) : Fit (svOf l) := by
  obtain ⟨h1, h2, h3, h4, h5, h6, h7⟩ := (right_iff l).1 h
  have e1 : (svOf l).g.size = l.group.length := rfl
  have e2 : (svOf l).b.size = l.body.length := rfl
  have e3 : (svOf l).x.size = l.sig.length := rfl
  refine ⟨by omega, by omega, by omega, ?_, ?_, ?_, ?_⟩
  · show _ ≤ l.epoch ∧ l.epoch ≤ _; omega
  · show _ ≤ l.round ∧ l.round ≤ _; omega
  · show _ ≤ l.kind ∧ l.kind ≤ _; omega
  · show _ ≤ l.from' ∧ l.from' ≤ _; omega
/-- What is read so far of the two texts at the end. -/
def St (s : List UInt8) (p j q : Nat) (T0 T1 : ByteArray) : Prop := match j with
  | 0 => q = p ∧ T0 = ⟨#[]⟩ ∧ T1 = ⟨#[]⟩
  | 1 => readStr s (p : Int) = .ok (T0.data.toList, q) ∧ T1 = ⟨#[]⟩
  | _ => ∃ r : Nat, readStr s (p : Int) = .ok (T0.data.toList, r) ∧ readStr s (r : Int) = .ok (T1.data.toList, q)
theorem st_next (s : List UInt8) (p j q q' : Nat) (T0 T1 T : ByteArray) (hj : j < 2) (h : St s p j q T0 T1) (hr : readStr s (q : Int) = .ok (T.data.toList, q')) :
    ∃ U0 U1, ([.string T0, .string T1] : List Value).set j (.string T) = [.string U0, .string U1] ∧ St s p (j + 1) q' U0 U1 := by
  match j, hj, h with
  | 0, _, h =>
    obtain ⟨rfl, rfl, rfl⟩ := h
    exact ⟨T, ⟨#[]⟩, rfl, hr, rfl⟩
  | 1, _, h =>
    obtain ⟨h', rfl⟩ := h
    exact ⟨T0, T, rfl, q, h', hr⟩
theorem st_error (s g : List UInt8) (ns : List Nat) (p0 p j q y : Nat) (T0 T1 : ByteArray) (hj : j < 2) (h1 : readStr s 0 = .ok (g, p0)) (h2 : readAll readNum s (p0 : Int) = .ok (ns, p)) (h : St s p j q T0 T1) (hr : readStr s (q : Int) = .error y) : read s = .error y := by
  match j, hj, h with
  | 0, _, h =>
    obtain ⟨rfl, -, -⟩ := h
    exact read_three s g ns p0 q y h1 h2 hr
  | 1, _, h =>
    obtain ⟨h', -⟩ := h
    exact read_four s g _ ns p0 p q y h1 h2 h' hr
theorem st_end (s g : List UInt8) (ns : List Nat) (p0 p q : Nat) (T0 T1 : ByteArray) (h1 : readStr s 0 = .ok (g, p0)) (h2 : readAll readNum s (p0 : Int) = .ok (ns, p)) (h : St s p 2 q T0 T1) : read s = told s g ns T0.data.toList T1.data.toList q := by
  obtain ⟨r, h3, h4⟩ := h
  exact read_of s g _ _ ns p0 p r q h1 h2 h3 h4
theorem zl_at (a b c d : Nat) : zl [a, b, c, d] = [(a : Int), (b : Int), (c : Int), (d : Int)] := rfl
end Go.Proofs.Ytnglnocdffjnoaa.Sea
