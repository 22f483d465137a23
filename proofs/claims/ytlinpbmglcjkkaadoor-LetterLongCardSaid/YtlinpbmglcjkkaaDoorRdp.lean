/-
  Parts read one by one: a part is read where the one before was read right, else nothing (next of package letter); and the plain mathematics of that. Conditions: those that each lemma names.
-/
import Derived.Test.YtlinpbmglcjkkaaDoorWho
namespace Go.Proofs.YtlinpbmglcjkkaaDoor.Rdr
open Go.RowKit Mur Prt Lanes Hold Cod
set_option maxRecDepth 100000

theorem set_same {α : Type} (m : List α) (i : Nat) (x : α) (h : m[i]? = some x) : m.set i x = m := by
  refine List.ext_getElem? fun j => ?_
  by_cases hj : i = j
  · subst hj
    rw [List.getElem?_set_self (List.getElem?_eq_some_iff.1 h).1, h]
  · rw [List.getElem?_set_ne hj]

theorem nextNum_both (s : ByteArray) (p e0 : Int) (X : Int) (P E : Int) (R : e0 = 0 → ∀ u, Calls Tryd.prog 23 #[.string s, .int .i64 p] u fun e w' => e = .returned (.tuple #[.int .i64 X, .int .i64 P, .int .i64 E]) ∧ Below u.heap.size u w') (hz : e0 ≠ 0 → X = 0 ∧ P = p ∧ E = e0)
    (w0 w : World) (m : List Blk) (i b : Nat) (h : Hld w0 m w) (hi : m[i]? = some ⟨b, 68, [.string s, .int .i64 p, .int .i64 e0]⟩) :
    Calls Tryd.prog 22 #[.pointer (some ⟨b, 0, none⟩), .func (.func 23) #[] #[]] w fun e w' => e = .returned (.int .i64 X) ∧ (∀ a l, IntsR w a l → (∀ q, a = some q → q.block ≠ b) → IntsR w' a l) ∧ Hld w0 (m.set i ⟨b, 68, [.string s, .int .i64 P, .int .i64 E]⟩) w' := by
  by_cases h0 : e0 = 0
  · subst h0
    exact nextNum_any s p X P E (R rfl) w0 w m i b h hi
  · obtain ⟨rfl, rfl, rfl⟩ := hz h0
    refine (nextNum_stop s P E _ h0 w0 w m i b h hi).mono ?_
    rintro e w' ⟨rfl, rfl⟩
    exact ⟨rfl, fun _ _ k _ => k, by rw [set_same m i _ hi]; exact h⟩
theorem nextNums_both (s : ByteArray) (p e0 : Int) (L : List Nat) (n : Nat) (P E : Int) (R : e0 = 0 → ∀ u, Calls Tryd.prog 21 #[.string s, .int .i64 p] u fun e w' => ∃ ao c, e = .returned (.tuple #[.slice ao n c, .int .i64 P, .int .i64 E]) ∧ IntsR w' ao (zl L) ∧ (∀ q, ao = some q → u.heap.size ≤ q.block) ∧ Below u.heap.size u w') (hz : e0 ≠ 0 → L = [] ∧ n = 0 ∧ P = p ∧ E = e0)
    (w0 w : World) (m : List Blk) (i b : Nat) (h : Hld w0 m w) (hi : m[i]? = some ⟨b, 68, [.string s, .int .i64 p, .int .i64 e0]⟩) :
    Calls Tryd.prog 20 #[.pointer (some ⟨b, 0, none⟩), .func (.func 21) #[] #[]] w fun e w' => ∃ ao c, e = .returned (.slice ao n c) ∧ IntsR w' ao (zl L) ∧ (∀ q, ao = some q → w.heap.size ≤ q.block) ∧ Hld w0 (m.set i ⟨b, 68, [.string s, .int .i64 P, .int .i64 E]⟩) w' := by
  by_cases h0 : e0 = 0
  · subst h0
    exact nextNums_any s p L n P E (R rfl) w0 w m i b h hi
  · obtain ⟨rfl, rfl, rfl, rfl⟩ := hz h0
    refine (nextNums_stop s P E _ h0 w0 w m i b h hi).mono ?_
    rintro e w' ⟨rfl, rfl⟩
    exact ⟨none, 0, rfl, fun k => absurd rfl k, (fun q hq => by cases hq), by rw [set_same m i _ hi]; exact h⟩
theorem nextStrs_both (s : ByteArray) (p e0 : Int) (L : List (List UInt8)) (n : Nat) (P E : Int) (R : e0 = 0 → ∀ u, Calls Tryd.prog 45 #[.string s, .int .i64 p] u fun e w' => ∃ ao c, e = .returned (.tuple #[.slice ao n c, .int .i64 P, .int .i64 E]) ∧ StrsR w' ao (tl L) ∧ (∀ q, ao = some q → u.heap.size ≤ q.block) ∧ Below u.heap.size u w') (hz : e0 ≠ 0 → L = [] ∧ n = 0 ∧ P = p ∧ E = e0)
    (w0 w : World) (m : List Blk) (i b : Nat) (h : Hld w0 m w) (hi : m[i]? = some ⟨b, 68, [.string s, .int .i64 p, .int .i64 e0]⟩) :
    Calls Tryd.prog 44 #[.pointer (some ⟨b, 0, none⟩), .func (.func 45) #[] #[]] w fun e w' => ∃ ao c, e = .returned (.slice ao n c) ∧ StrsR w' ao (tl L) ∧ (∀ q, ao = some q → w.heap.size ≤ q.block) ∧ Hld w0 (m.set i ⟨b, 68, [.string s, .int .i64 P, .int .i64 E]⟩) w' := by
  by_cases h0 : e0 = 0
  · subst h0
    exact nextStrs_any s p L n P E (R rfl) w0 w m i b h hi
  · obtain ⟨rfl, rfl, rfl, rfl⟩ := hz h0
    refine (nextStrs_stop s P E _ h0 w0 w m i b h hi).mono ?_
    rintro e w' ⟨rfl, rfl⟩
    exact ⟨none, 0, rfl, fun k => absurd rfl k, (fun q hq => by cases hq), by rw [set_same m i _ hi]; exact h⟩

section
variable {α β : Type} {rf : List UInt8 → Int → Except Nat (α × Nat)} {rg : List UInt8 → Int → Except Nat (β × Nat)}
theorem ok_of {r : Except Nat α} (he : ∀ e, r = .error e → 1 ≤ e ∧ e ≤ 4) (h : errV r = 0) : ∃ x, r = .ok x := by
  cases r with
  | ok x => exact ⟨x, rfl⟩
  | error e =>
    have := he e rfl
    have h : (e : Int) = 0 := h
    omega
/-- Two parts one by one stand where both in one stand. -/
theorem two_pos (s : List UInt8) (p P0 E0 P1 E1 : Int) (hP0 : P0 = posV (rf s p)) (hE0 : E0 = errV (rf s p)) (he : ∀ e, rf s p = .error e → 1 ≤ e ∧ e ≤ 4)
    (hP1 : P1 = if E0 = 0 then posV (rg s P0) else P0) (hE1 : E1 = if E0 = 0 then errV (rg s P0) else E0) : P1 = posV (readP rf rg s p) ∧ E1 = errV (readP rf rg s p) := by
  cases h : rf s p with
  | error e =>
    have h4 := he e h
    rw [h] at hP0 hE0
    have hE0 : E0 = (e : Int) := hE0
    rw [readP_one s p e h]
    rw [if_neg (by omega)] at hP1 hE1
    exact ⟨hP1.trans hP0, hE1.trans hE0⟩
  | ok x =>
    obtain ⟨x, q⟩ := x
    rw [h] at hP0 hE0
    obtain rfl : E0 = 0 := hE0
    obtain rfl : P0 = (q : Int) := hP0
    rw [if_pos rfl] at hP1 hE1
    cases k : rg s (q : Int) with
    | error e => rw [readP_two s p x q e h k, hP1, hE1, k]; exact ⟨rfl, rfl⟩
    | ok y =>
      obtain ⟨y, r⟩ := y
      rw [readP_ok s p x y q r h k, hP1, hE1, k]
      exact ⟨rfl, rfl⟩
theorem pos_range (r : Except Nat (α × Nat)) (n : Nat) (h : ∀ x q, r = .ok (x, q) → q ≤ n) : 0 ≤ posV r ∧ posV r ≤ (n : Int) := by
  cases r with
  | error e => exact ⟨Int.le_refl 0, Int.natCast_nonneg n⟩
  | ok x =>
    have := h x.1 x.2 rfl
    show 0 ≤ (x.2 : Int) ∧ (x.2 : Int) ≤ n
    omega
/-- Where all is read. -/
theorem ends_yes (s : List UInt8) (r : Except Nat (α × Nat)) (P E : Int) (hP : P = posV r) (hE : E = errV r) (he : ∀ e, r = .error e → 1 ≤ e ∧ e ≤ 4) (hq : ∀ x q, r = .ok (x, q) → q ≤ s.length) (h0 : E = 0) (h1 : ¬ P < (s.length : Int)) : ∃ x, r = .ok (x, s.length) ∧ ends s r = .ok x := by
  obtain ⟨⟨x, q⟩, rfl⟩ := ok_of he (hE.symm.trans h0)
  have h2 := hq x q rfl
  have hP : P = (q : Int) := hP
  obtain rfl : q = s.length := by omega
  exact ⟨x, rfl, ends_ok s x⟩
theorem ends_no (s : List UInt8) (r : Except Nat (α × Nat)) (P E F : Int) (hP : P = posV r) (hE : E = errV r) (he : ∀ e, r = .error e → 1 ≤ e ∧ e ≤ 4) (h : ¬ (E = 0 ∧ ¬ P < (s.length : Int))) (hF : F = if E = 0 then (if P < (s.length : Int) then 3 else 0) else E) : ∃ e : Nat, ends s r = .error e ∧ F = (e : Int) := by
  cases r with
  | error e =>
    have h4 := he e rfl
    have hE : E = (e : Int) := hE
    exact ⟨e, rfl, by rw [hF, if_neg (by omega)]; exact hE⟩
  | ok x =>
    obtain ⟨x, q⟩ := x
    obtain rfl : E = 0 := hE
    have hP : P = (q : Int) := hP
    have hlt : P < (s.length : Int) := Classical.byContradiction fun k => h ⟨rfl, k⟩
    exact ⟨3, ends_left s x q (by omega), by rw [hF, if_pos rfl, if_pos hlt]; rfl⟩
theorem ends_f (s : List UInt8) (P E F : Int) (h0 : E = 0) (h1 : ¬ P < (s.length : Int)) (hF : F = if E = 0 then (if P < (s.length : Int) then 3 else 0) else E) : F = 0 := by rw [hF, if_pos h0, if_neg h1]
end
end Go.Proofs.YtlinpbmglcjkkaaDoor.Rdr
