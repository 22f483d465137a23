/-
  The plain mathematics of roster's Print and Read, on parts' plain mathematics (XPrt): what is printed is read, and what is read is printed so (P12.13). Nothing here speaks of a program.
-/
import Derived.Test.YtlinpbmglcjkkaaDoorRos
import Derived.Test.YtlinpbmglcjkkaaDoorPrt
namespace Go.Proofs.YtlinpbmglcjkkaaDoor.Ros
open Go.RowKit Mur Prt Lanes

def ints (l : List Nat) : List Int := l.map fun n : Nat => (n : Int)
theorem ints_length (l : List Nat) : (ints l).length = l.length := List.length_map _

theorem each_ints (l : List Nat) : each num (ints l) = each (fun n : Nat => num (n : Int)) l := by
  induction l with
  | nil => rfl
  | cons x l ih =>
    show each num ((x : Int) :: ints l) = _
    rw [each, each, ih]
theorem lay_ints (l : List Nat) : layAll num (ints l) = layAll (fun n : Nat => num (n : Int)) l := by
  rw [layAll, layAll, each_ints, ints_length]

theorem num_nat (z : Int) (a : List UInt8) (h : num z = .ok a) : 0 ≤ z ∧ z < 1099511627776 := by
  unfold num at h
  split at h
  · cases h
  · omega
theorem each_nat (l : List Int) : ∀ b, each num l = .ok b → ∃ ns, l = ints ns := by
  induction l with
  | nil => intro b _; exact ⟨[], rfl⟩
  | cons x l ih =>
    intro b h
    cases hx : num x with
    | error e => rw [each_error num x l e hx] at h; cases h
    | ok a =>
      rw [each_ok num x l a hx] at h
      cases hl : each num l with
      | error e => rw [hl] at h; cases h
      | ok c =>
        obtain ⟨ns, rfl⟩ := ih c hl
        obtain ⟨k, rfl⟩ : ∃ k : Nat, x = (k : Int) := ⟨x.toNat, by have := num_nat x a hx; omega⟩
        exact ⟨k :: ns, rfl⟩

/-- What is laid is read, with bytes behind it. -/
theorem all_read {α : Type} (lay : α → Except Nat (List UInt8)) (rd : List UInt8 → Int → Except Nat (α × Nat)) (hrd : ∀ x a u v, lay x = .ok a → rd (u ++ (a ++ v)) (u.length : Int) = .ok (x, u.length + a.length)) (l : List α) (a u v : List UInt8) (h : layAll lay l = .ok a) :
    readAll rd (u ++ (a ++ v)) (u.length : Int) = .ok (l, u.length + a.length) := by
  unfold layAll at h
  split at h
  · cases h
  · rename_i hs
    cases hl : each lay l with
    | error e => rw [hl] at h; cases h
    | ok b =>
      rw [hl] at h
      cases h
      rw [List.append_assoc, readAll, readHigh_mid u (b ++ v) l.length 1 (by omega)]
      show readN (rd _) l.length (u.length + 1) = _
      have k := each_read lay rd hrd l b (u ++ high l.length 1) v hl
      rw [List.length_append, high_length, List.append_assoc] at k
      rw [k, List.length_append, high_length]
      congr 2
      omega
theorem nums_read (l : List Int) (a u v : List UInt8) (h : layAll num l = .ok a) : ∃ ns, l = ints ns ∧ readAll readNum (u ++ (a ++ v)) (u.length : Int) = .ok (ns, u.length + a.length) := by
  obtain ⟨ns, rfl⟩ : ∃ ns, l = ints ns := by
    unfold layAll at h
    split at h
    · cases h
    · cases hl : each num l with
      | error e => rw [hl] at h; cases h
      | ok c => exact each_nat l c hl
  rw [lay_ints] at h
  exact ⟨ns, rfl, all_read _ readNum num_read ns a u v h⟩

/-- What is read is laid so, from a place on. -/
theorem all_laid {α : Type} (lay : α → Except Nat (List UInt8)) (rd : List UInt8 → Int → Except Nat (α × Nat)) (hrd : ∀ (s : List UInt8) (p q : Nat) (x : α), rd s (p : Int) = .ok (x, q) → lay x = .ok ((s.drop p).take (q - p)) ∧ p ≤ q ∧ q ≤ s.length) (s : List UInt8) (p q : Nat) (l : List α) (h : readAll rd s (p : Int) = .ok (l, q)) :
    layAll lay l = .ok ((s.drop p).take (q - p)) ∧ p ≤ q ∧ q ≤ s.length ∧ l.length ≤ 255 := by
  unfold readAll at h
  cases hc : readHigh s (p : Int) 1 with
  | error e => rw [hc] at h; cases h
  | ok r =>
    obtain ⟨n, q1⟩ := r
    rw [hc] at h
    obtain ⟨h1, h2, h3, h4, h5⟩ := readHigh_facts s p 1 q1 n hc
    dsimp only at h
    have e0 : (p : Int).toNat = p := by omega
    rw [e0] at h2 h4
    obtain ⟨k1, k2, k3, k4⟩ := each_laid lay rd hrd s n q1 q l h
    have hl : ((s.drop p).take 1).length = 1 := by rw [List.length_take, List.length_drop]; omega
    have hn := high_val _ 1 hl
    rw [← h4] at hn
    refine ⟨?_, by omega, k3 h3, by omega⟩
    obtain ⟨d, rfl⟩ : ∃ d, q = q1 + d := ⟨q - q1, by omega⟩
    have e1 : q1 + d - p = 1 + d := by omega
    have e2 : q1 + d - q1 = d := by omega
    rw [layAll, if_neg (by omega), k1, Prt.ahead_ok, k4, hn, e1, e2, List.take_add, List.drop_drop, h2]
theorem nums_laid (s : List UInt8) (p q : Nat) (ns : List Nat) (h : readAll readNum s (p : Int) = .ok (ns, q)) : layAll num (ints ns) = .ok ((s.drop p).take (q - p)) ∧ p ≤ q ∧ q ≤ s.length := by
  obtain ⟨h1, h2, h3, _⟩ := all_laid (fun n : Nat => num (n : Int)) readNum (fun s p q x h => num_laid s p q x h) s p q ns h
  exact ⟨by rw [lay_ints, h1], h2, h3⟩

/-- One part ahead of what follows, or its error. -/
def glue (a b : Except Nat (List UInt8)) : Except Nat (List UInt8) := match a with
  | .error e => .error e
  | .ok x => Prt.ahead x b
theorem glue_error (e : Nat) (b : Except Nat (List UInt8)) : glue (.error e) b = .error e := rfl
theorem glue_ok (a : List UInt8) (b : Except Nat (List UInt8)) : glue (.ok a) b = Prt.ahead a b := rfl
theorem glue_parts (a b : Except Nat (List UInt8)) (s : List UInt8) (h : glue a b = .ok s) : ∃ x y, a = .ok x ∧ b = .ok y ∧ s = x ++ y := by
  cases a with
  | error e => cases h
  | ok x => cases b with
    | error e => cases h
    | ok y => cases h; exact ⟨x, y, rfl, rfl, rfl⟩

def lay (r : R) : Except Nat (List UInt8) := glue (str r.group) (glue (layAll num [r.servers, r.clients]) (glue (layAll num r.buddies) (layAll num r.gone)))
def print (r : R) : Except Nat (List UInt8) := if right r = true then lay r else .error 1

/-- A roster of what was read: its text, the two numbers first, the buddies, who is gone. -/
def ros (g : List UInt8) (two bs gs : List Nat) : R := ⟨g, ((two[0]?.getD 0 : Nat) : Int), ((two[1]?.getD 0 : Nat) : Int), ints bs, ints gs⟩
def read (s : List UInt8) : Except Nat R := match readStr s 0 with
  | .error e => .error e
  | .ok (g, p) => match readAll readNum s (p : Int) with
    | .error e => .error e
    | .ok (two, p) => match readAll readNum s (p : Int) with
      | .error e => .error e
      | .ok (bs, p) => match readAll readNum s (p : Int) with
        | .error e => .error e
        | .ok (gs, p) => if p = s.length ∧ two.length = 2 ∧ right (ros g two bs gs) = true then .ok (ros g two bs gs) else .error 3
theorem read_of (s g : List UInt8) (two bs gs : List Nat) (p1 p2 p3 p4 : Nat) (h1 : readStr s 0 = .ok (g, p1)) (h2 : readAll readNum s (p1 : Int) = .ok (two, p2)) (h3 : readAll readNum s (p2 : Int) = .ok (bs, p3)) (h4 : readAll readNum s (p3 : Int) = .ok (gs, p4)) :
    read s = if p4 = s.length ∧ two.length = 2 ∧ right (ros g two bs gs) = true then .ok (ros g two bs gs) else .error 3 := by
  unfold read
  rw [h1]
  dsimp only
  rw [h2]
  dsimp only
  rw [h3]
  dsimp only
  rw [h4]
theorem read_parts (s : List UInt8) (r : R) (h : read s = .ok r) : ∃ g two bs gs p1 p2 p3, readStr s 0 = .ok (g, p1) ∧ readAll readNum s (p1 : Int) = .ok (two, p2) ∧ readAll readNum s (p2 : Int) = .ok (bs, p3) ∧ readAll readNum s (p3 : Int) = .ok (gs, s.length) ∧ two.length = 2 ∧ right r = true ∧ r = ros g two bs gs := by
  cases h1 : readStr s 0 with
  | error e => unfold read at h; rw [h1] at h; cases h
  | ok x1 =>
    obtain ⟨g, p1⟩ := x1
    cases h2 : readAll readNum s (p1 : Int) with
    | error e => unfold read at h; rw [h1] at h; dsimp only at h; rw [h2] at h; cases h
    | ok x2 =>
      obtain ⟨two, p2⟩ := x2
      cases h3 : readAll readNum s (p2 : Int) with
      | error e => unfold read at h; rw [h1] at h; dsimp only at h; rw [h2] at h; dsimp only at h; rw [h3] at h; cases h
      | ok x3 =>
        obtain ⟨bs, p3⟩ := x3
        cases h4 : readAll readNum s (p3 : Int) with
        | error e => unfold read at h; rw [h1] at h; dsimp only at h; rw [h2] at h; dsimp only at h; rw [h3] at h; dsimp only at h; rw [h4] at h; cases h
        | ok x4 =>
          obtain ⟨gs, p4⟩ := x4
          rw [read_of s g two bs gs p1 p2 p3 p4 h1 h2 h3 h4] at h
          split at h
          · rename_i hc
            obtain ⟨rfl, c2, c3⟩ := hc
            cases h
            exact ⟨g, two, bs, gs, p1, p2, p3, rfl, h2, h3, h4, c2, c3, rfl⟩
          · cases h

theorem print_read (r : R) (s : List UInt8) (h : print r = .ok s) : read s = .ok r := by
  unfold print at h
  split at h
  · rename_i hr
    obtain ⟨a, y1, h1, g1, rfl⟩ := glue_parts _ _ _ h
    obtain ⟨b, y2, h2, g2, rfl⟩ := glue_parts _ _ _ g1
    obtain ⟨c, d, h3, h4, rfl⟩ := glue_parts _ _ _ g2
    have k1 := str_read r.group a [] (b ++ (c ++ d)) h1
    obtain ⟨two, e2, k2⟩ := nums_read _ b a (c ++ d) h2
    obtain ⟨bs, e3, k3⟩ := nums_read _ c (a ++ b) d h3
    obtain ⟨gs, e4, k4⟩ := nums_read _ d (a ++ b ++ c) [] h4
    simp only [List.nil_append, List.append_nil, List.append_assoc, List.length_nil, Nat.zero_add] at k1 k2 k3 k4
    rw [List.length_append] at k3
    rw [List.length_append, List.length_append, ← Nat.add_assoc] at k4
    have hlen : two.length = 2 := by rw [← ints_length, ← e2]; rfl
    obtain ⟨x, y, rfl⟩ : ∃ x y, two = [x, y] := by
      match two, hlen with
      | [x, y], _ => exact ⟨x, y, rfl⟩
    have hro : ros r.group [x, y] bs gs = r := by
      have q1 : r.servers = (x : Int) := by injection e2
      have q2 : r.clients = (y : Int) := by
        injection e2 with _ e2
        injection e2
      cases r
      dsimp only at q1 q2 e3 e4
      subst q1 q2 e3 e4
      rfl
    rw [read_of _ _ _ _ _ _ _ _ _ k1 k2 k3 k4, hro, if_pos]
    exact ⟨by simp only [List.length_append]; omega, hlen, hr⟩
  · cases h

theorem read_print (s : List UInt8) (r : R) (h : read s = .ok r) : print r = .ok s := by
  obtain ⟨g, two, bs, gs, p1, p2, p3, h1, h2, h3, h4, hlen, hr, he⟩ := read_parts s r h
  obtain ⟨k1, a1, b1⟩ := str_laid s 0 p1 g h1
  obtain ⟨k2, a2, b2⟩ := nums_laid s p1 p2 two h2
  obtain ⟨k3, a3, b3⟩ := nums_laid s p2 p3 bs h3
  obtain ⟨k4, a4, b4⟩ := nums_laid s p3 s.length gs h4
  have e2 : ints two = [r.servers, r.clients] := by
    match two, hlen, he with
    | [x, y], _, he => rw [he]; rfl
  rw [e2] at k2
  have q1 : r.group = g := by rw [he]; rfl
  have q3 : r.buddies = ints bs := by rw [he]; rfl
  have q4 : r.gone = ints gs := by rw [he]; rfl
  rw [print, if_pos hr, lay, q1, q3, q4, k1, k2, k3, k4, glue_ok, glue_ok, glue_ok, Prt.ahead_ok, Prt.ahead_ok, Prt.ahead_ok]
  congr 1
  have t3 : (s.drop p2).take (p3 - p2) ++ (s.drop p3).take (s.length - p3) = s.drop p2 := by
    have : s.drop p3 = (s.drop p2).drop (p3 - p2) := by rw [List.drop_drop]; congr 1; omega
    have tl : (s.drop p3).take (s.length - p3) = s.drop p3 := List.take_of_length_le (by rw [List.length_drop]; omega)
    rw [tl, this, List.take_append_drop]
  have t2 : (s.drop p1).take (p2 - p1) ++ s.drop p2 = s.drop p1 := by
    have : s.drop p2 = (s.drop p1).drop (p2 - p1) := by rw [List.drop_drop]; congr 1; omega
    rw [this, List.take_append_drop]
  rw [t3, t2, List.drop_zero, Nat.sub_zero, List.take_append_drop]
end Go.Proofs.YtlinpbmglcjkkaaDoor.Ros
