/-
  Parts that are laid and read, as one notion: what is laid is read, what is read is laid so; two of them one behind the other, lists of them, and the whole of a text. Plain mathematics upon XPrt and XRosB: nothing here speaks of a program.
-/
import Derived.Test.YtlinpbmglcjkkaaDoorRosB
namespace Go.Proofs.YtlinpbmglcjkkaaDoor.Cod
open Go.RowKit Mur Prt Lanes
open Ros (glue glue_error glue_ok glue_parts ints ints_length lay_ints all_read all_laid num_nat each_nat)

/-- A way to lay, and a way to read, that undo one another. -/
structure Both {α : Type} (lay : α → Except Nat (List UInt8)) (rd : List UInt8 → Int → Except Nat (α × Nat)) : Prop where
  lr : ∀ x a u v, lay x = .ok a → rd (u ++ (a ++ v)) (u.length : Int) = .ok (x, u.length + a.length)
  rl : ∀ (s : List UInt8) (p q : Nat) (x : α), rd s (p : Int) = .ok (x, q) → lay x = .ok ((s.drop p).take (q - p)) ∧ p ≤ q ∧ q ≤ s.length
theorem strC : Both str readStr := ⟨str_read, fun s p q x h => str_laid s p q x h⟩
theorem natC : Both (fun n : Nat => num (n : Int)) readNum := ⟨num_read, fun s p q x h => num_laid s p q x h⟩
theorem listC {α : Type} {lay : α → Except Nat (List UInt8)} {rd : List UInt8 → Int → Except Nat (α × Nat)} (h : Both lay rd) : Both (layAll lay) (readAll rd) :=
  ⟨fun l a u v k => all_read lay rd h.lr l a u v k, fun s p q l k => by
    obtain ⟨k1, k2, k3, -⟩ := all_laid lay rd h.rl s p q l k
    exact ⟨k1, k2, k3⟩⟩

/-- One part behind the other. -/
def layP {α β : Type} (f : α → Except Nat (List UInt8)) (g : β → Except Nat (List UInt8)) (x : α × β) : Except Nat (List UInt8) := glue (f x.1) (g x.2)
def readP {α β : Type} (rf : List UInt8 → Int → Except Nat (α × Nat)) (rg : List UInt8 → Int → Except Nat (β × Nat)) (s : List UInt8) (p : Int) : Except Nat ((α × β) × Nat) := match rf s p with
  | .error e => .error e
  | .ok x => match rg s (x.2 : Int) with
    | .error e => .error e
    | .ok y => .ok ((x.1, y.1), y.2)
section
variable {α β : Type} {f : α → Except Nat (List UInt8)} {g : β → Except Nat (List UInt8)} {rf : List UInt8 → Int → Except Nat (α × Nat)} {rg : List UInt8 → Int → Except Nat (β × Nat)}
theorem readP_one (s : List UInt8) (p : Int) (e : Nat) (h : rf s p = .error e) : readP rf rg s p = .error e := by rw [readP, h]
theorem readP_two (s : List UInt8) (p : Int) (x : α) (q e : Nat) (h : rf s p = .ok (x, q)) (k : rg s (q : Int) = .error e) : readP rf rg s p = .error e := by
  rw [readP, h]
  dsimp only
  rw [k]
theorem readP_ok (s : List UInt8) (p : Int) (x : α) (y : β) (q r : Nat) (h : rf s p = .ok (x, q)) (k : rg s (q : Int) = .ok (y, r)) : readP rf rg s p = .ok ((x, y), r) := by
  rw [readP, h]
  dsimp only
  rw [k]
theorem readP_parts (s : List UInt8) (p : Int) (x : α × β) (r : Nat) (h : readP rf rg s p = .ok (x, r)) : ∃ q, rf s p = .ok (x.1, q) ∧ rg s (q : Int) = .ok (x.2, r) := by
  cases h1 : rf s p with
  | error e => rw [readP_one s p e h1] at h; cases h
  | ok a =>
    obtain ⟨a, q⟩ := a
    cases h2 : rg s (q : Int) with
    | error e => rw [readP_two s p a q e h1 h2] at h; cases h
    | ok b =>
      obtain ⟨b, t⟩ := b
      rw [readP_ok s p a b q t h1 h2] at h
      cases h
      exact ⟨q, rfl, h2⟩
theorem pairC (hf : Both f rf) (hg : Both g rg) : Both (layP f g) (readP rf rg) := by
  constructor
  · intro x a u v h
    obtain ⟨b, c, h1, h2, rfl⟩ := glue_parts _ _ _ h
    have k1 := hf.lr x.1 b u (c ++ v) h1
    have k2 := hg.lr x.2 c (u ++ b) v h2
    rw [List.append_assoc, List.length_append] at k2
    rw [List.append_assoc, readP_ok _ _ _ _ _ _ k1 k2, List.length_append, Nat.add_assoc]
  · intro s p q x h
    obtain ⟨m, h1, h2⟩ := readP_parts s p x q h
    obtain ⟨k1, a1, b1⟩ := hf.rl s p m x.1 h1
    obtain ⟨k2, a2, b2⟩ := hg.rl s m q x.2 h2
    refine ⟨?_, by omega, b2⟩
    rw [layP, k1, k2, glue_ok, Prt.ahead_ok]
    congr 1
    obtain ⟨d, rfl⟩ : ∃ d, m = p + d := ⟨m - p, by omega⟩
    obtain ⟨t, rfl⟩ : ∃ t, q = p + d + t := ⟨q - (p + d), by omega⟩
    have e1 : p + d - p = d := by omega
    have e2 : p + d + t - (p + d) = t := by omega
    have e3 : p + d + t - p = d + t := by omega
    rw [e1, e2, e3, List.take_add, List.drop_drop]
end

/-- All of a text: an error 3 where bytes are left. -/
def ends {α : Type} (s : List UInt8) (r : Except Nat (α × Nat)) : Except Nat α := match r with
  | .error e => .error e
  | .ok x => if x.2 = s.length then .ok x.1 else .error 3
theorem ends_error {α : Type} (s : List UInt8) (e : Nat) : ends s (.error e : Except Nat (α × Nat)) = .error e := rfl
theorem ends_ok {α : Type} (s : List UInt8) (x : α) : ends s (.ok (x, s.length)) = .ok x := by rw [ends, if_pos rfl]
theorem ends_left {α : Type} (s : List UInt8) (x : α) (q : Nat) (h : q ≠ s.length) : ends s (.ok (x, q)) = .error 3 := by rw [ends, if_neg h]
theorem ends_parts {α : Type} (s : List UInt8) (r : Except Nat (α × Nat)) (x : α) (h : ends s r = .ok x) : r = .ok (x, s.length) := by
  cases r with
  | error e => cases h
  | ok y =>
    obtain ⟨y, q⟩ := y
    by_cases hq : q = s.length
    · subst hq
      rw [ends_ok] at h
      cases h
      rfl
    · rw [ends_left s y q hq] at h
      cases h
def whole {α : Type} (rd : List UInt8 → Int → Except Nat (α × Nat)) (s : List UInt8) : Except Nat α := ends s (rd s 0)
theorem whole_read {α : Type} {lay : α → Except Nat (List UInt8)} {rd : List UInt8 → Int → Except Nat (α × Nat)} (h : Both lay rd) (x : α) (s : List UInt8) (k : lay x = .ok s) : whole rd s = .ok x := by
  have := h.lr x s [] [] k
  simp only [List.nil_append, List.append_nil, List.length_nil, Nat.zero_add, Int.natCast_zero] at this
  rw [whole, this, ends_ok]
theorem whole_laid {α : Type} {lay : α → Except Nat (List UInt8)} {rd : List UInt8 → Int → Except Nat (α × Nat)} (h : Both lay rd) (x : α) (s : List UInt8) (k : whole rd s = .ok x) : lay x = .ok s := by
  have k2 := ends_parts s _ x k
  obtain ⟨k3, -, -⟩ := h.rl s 0 s.length x (by rw [Int.natCast_zero]; exact k2)
  rw [k3, List.drop_zero, Nat.sub_zero, List.take_length]

/-- How long what is laid is. -/
theorem each_long {α : Type} (lay : α → Except Nat (List UInt8)) (long : α → Nat) (h : ∀ x a, lay x = .ok a → a.length = long x) (l : List α) : ∀ a, each lay l = .ok a → a.length = (l.map long).sum := by
  induction l with
  | nil => intro a k; cases k; rfl
  | cons x l ih =>
    intro a k
    cases hx : lay x with
    | error e => rw [each_error lay x l e hx] at k; cases k
    | ok y =>
      rw [each_ok lay x l y hx] at k
      cases hl : each lay l with
      | error e => rw [hl, Prt.ahead_error] at k; cases k
      | ok z =>
        rw [hl, Prt.ahead_ok] at k
        obtain rfl : y ++ z = a := Except.ok.inj k
        rw [List.length_append, h x y hx, ih z hl, List.map_cons, List.sum_cons]
theorem all_long {α : Type} (lay : α → Except Nat (List UInt8)) (long : α → Nat) (h : ∀ x a, lay x = .ok a → a.length = long x) (l : List α) (a : List UInt8) (k : layAll lay l = .ok a) : a.length = 1 + (l.map long).sum ∧ l.length ≤ 255 := by
  unfold layAll at k
  split at k
  · cases k
  · rename_i hs
    cases hl : each lay l with
    | error e => rw [hl] at k; cases k
    | ok z =>
      rw [hl] at k
      cases k
      rw [List.length_append, high_length, each_long lay long h l z hl]
      exact ⟨rfl, by omega⟩
theorem str_long (s a : List UInt8) (h : str s = .ok a) : a.length = 2 + s.length := by
  unfold str at h
  split at h
  · cases h
  · cases h
    rw [List.length_append, high_length]
theorem each_most {α : Type} (lay : α → Except Nat (List UInt8)) (k : Nat) (h : ∀ x a, lay x = .ok a → a.length ≤ k) (l : List α) : ∀ a, each lay l = .ok a → a.length ≤ k * l.length := by
  induction l with
  | nil => intro a k; cases k; exact Nat.zero_le _
  | cons x l ih =>
    intro a g
    cases hx : lay x with
    | error e => rw [each_error lay x l e hx] at g; cases g
    | ok y =>
      rw [each_ok lay x l y hx] at g
      cases hl : each lay l with
      | error e => rw [hl, Prt.ahead_error] at g; cases g
      | ok z =>
        rw [hl, Prt.ahead_ok] at g
        obtain rfl : y ++ z = a := Except.ok.inj g
        have h1 := h x y hx
        have h2 := ih z hl
        rw [List.length_append, List.length_cons, Nat.mul_succ]
        omega
theorem all_most {α : Type} (lay : α → Except Nat (List UInt8)) (k : Nat) (h : ∀ x a, lay x = .ok a → a.length ≤ k) (l : List α) (a : List UInt8) (g : layAll lay l = .ok a) : a.length ≤ 1 + k * 255 := by
  unfold layAll at g
  split at g
  · cases g
  · rename_i hs
    cases hl : each lay l with
    | error e => rw [hl] at g; cases g
    | ok z =>
      rw [hl] at g
      cases g
      have := each_most lay k h l z hl
      have : k * l.length ≤ k * 255 := Nat.mul_le_mul_left _ (by omega)
      rw [List.length_append, high_length]
      omega
theorem glue_most (r q : Except Nat (List UInt8)) (m n : Nat) (h1 : ∀ a, r = .ok a → a.length ≤ m) (h2 : ∀ a, q = .ok a → a.length ≤ n) (a : List UInt8) (h : glue r q = .ok a) : a.length ≤ m + n := by
  obtain ⟨x, y, rfl, rfl, rfl⟩ := glue_parts _ _ _ h
  have := h1 x rfl
  have := h2 y rfl
  rw [List.length_append]
  omega
theorem glue_errs (r q : Except Nat (List UInt8)) (h1 : ∀ e, r = .error e → 1 ≤ e ∧ e ≤ 4) (h2 : ∀ e, q = .error e → 1 ≤ e ∧ e ≤ 4) (e : Nat) (h : glue r q = .error e) : 1 ≤ e ∧ e ≤ 4 := by
  cases r with
  | error a => cases h; exact h1 _ rfl
  | ok a => cases q with
    | error b => cases h; exact h2 _ rfl
    | ok b => cases h
theorem str_yes (s : List UInt8) (h : s.length ≤ 6000) : str s = .ok (high s.length 2 ++ s) := by rw [str, if_neg (by omega)]
theorem str_no (s : List UInt8) (h : 6000 < s.length) : str s = .error 4 := by rw [str, if_pos h]
theorem str_fits (s a : List UInt8) (h : str s = .ok a) : s.length ≤ 6000 := by
  unfold str at h
  split at h
  · cases h
  · omega
/-- The errors of what is laid, and of what is read. -/
theorem each_errs {α : Type} (lay : α → Except Nat (List UInt8)) (h : ∀ x e, lay x = .error e → 1 ≤ e ∧ e ≤ 4) (l : List α) : ∀ e, each lay l = .error e → 1 ≤ e ∧ e ≤ 4 := by
  induction l with
  | nil => intro e k; cases k
  | cons x l ih =>
    intro e k
    cases hx : lay x with
    | error y => rw [each_error lay x l y hx] at k; cases k; exact h x _ hx
    | ok y =>
      rw [each_ok lay x l y hx] at k
      cases hl : each lay l with
      | error z => rw [hl, Prt.ahead_error] at k; cases k; exact ih _ hl
      | ok z => rw [hl, Prt.ahead_ok] at k; cases k
theorem all_errs {α : Type} (lay : α → Except Nat (List UInt8)) (h : ∀ x e, lay x = .error e → 1 ≤ e ∧ e ≤ 4) (l : List α) (e : Nat) (k : layAll lay l = .error e) : 1 ≤ e ∧ e ≤ 4 := by
  unfold layAll at k
  split at k
  · cases k; omega
  · cases hl : each lay l with
    | error z => rw [hl] at k; cases k; exact each_errs lay h l _ hl
    | ok z => rw [hl] at k; cases k
theorem readN_errs {α : Type} (rd : Int → Except Nat (α × Nat)) (h : ∀ p e, rd p = .error e → 1 ≤ e ∧ e ≤ 4) (n : Nat) : ∀ q e, readN rd n q = .error e → 1 ≤ e ∧ e ≤ 4 := by
  induction n with
  | zero => intro q e k; rw [readN_zero] at k; cases k
  | succ n ih =>
    intro q e k
    cases hx : rd (q : Int) with
    | error y => rw [readN_error rd n q y hx] at k; cases k; exact h _ _ hx
    | ok t =>
      obtain ⟨x, q2⟩ := t
      rw [readN_ok rd n q q2 x hx] at k
      cases hn : readN rd n q2 with
      | error y => rw [hn] at k; cases k; exact ih _ _ hn
      | ok t => rw [hn] at k; cases k
theorem readAll_errs {α : Type} (rd : List UInt8 → Int → Except Nat (α × Nat)) (h : ∀ s p e, rd s p = .error e → 1 ≤ e ∧ e ≤ 4) (s : List UInt8) (p : Int) (e : Nat) (k : readAll rd s p = .error e) : 1 ≤ e ∧ e ≤ 4 := by
  unfold readAll at k
  cases hh : readHigh s p 1 with
  | error y => rw [hh] at k; cases k; have := readHigh_err s p 1 e hh; omega
  | ok r =>
    obtain ⟨n, q⟩ := r
    rw [hh] at k
    exact readN_errs (rd s) (fun p e he => h s p e he) n q e k
theorem readNum_errs (s : List UInt8) (p : Int) (e : Nat) (h : readNum s p = .error e) : 1 ≤ e ∧ e ≤ 4 := by
  have := readHigh_err s p 5 e h
  omega
theorem readP_errs {α β : Type} (rf : List UInt8 → Int → Except Nat (α × Nat)) (rg : List UInt8 → Int → Except Nat (β × Nat)) (hf : ∀ s p e, rf s p = .error e → 1 ≤ e ∧ e ≤ 4) (hg : ∀ s p e, rg s p = .error e → 1 ≤ e ∧ e ≤ 4) (s : List UInt8) (p : Int) (e : Nat) (h : readP rf rg s p = .error e) : 1 ≤ e ∧ e ≤ 4 := by
  cases h1 : rf s p with
  | error y => rw [readP_one s p y h1] at h; cases h; exact hf _ _ _ h1
  | ok a =>
    obtain ⟨a, q⟩ := a
    cases h2 : rg s (q : Int) with
    | error y => rw [readP_two s p a q y h1 h2] at h; cases h; exact hg _ _ _ h2
    | ok b =>
      obtain ⟨b, t⟩ := b
      rw [readP_ok s p a b q t h1 h2] at h
      cases h
theorem ends_errs {α : Type} (s : List UInt8) (r : Except Nat (α × Nat)) (h : ∀ e, r = .error e → 1 ≤ e ∧ e ≤ 4) (e : Nat) (k : ends s r = .error e) : 1 ≤ e ∧ e ≤ 4 := by
  cases r with
  | error y => cases k; exact h _ rfl
  | ok x =>
    obtain ⟨x, q⟩ := x
    by_cases hq : q = s.length
    · subst hq; rw [ends_ok] at k; cases k
    · rw [ends_left s x q hq] at k; cases k; omega
end Go.Proofs.YtlinpbmglcjkkaaDoor.Cod
