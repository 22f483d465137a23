/-
  The plain mathematics of package seal: letters as texts and as bytes, and the letter that any bytes are, on parts' plain mathematics (XPrt) and roster's (XRosB: lists that are read and laid): what is written is read, what is read is written so (P13.5); letters whose texts are alike differ in their signature alone (P13.6). Nothing here speaks of a program.
-/
import Derived.Test.YtnglnocdffjnoaaRosB
namespace Go.Proofs.Ytnglnocdffjnoaa.Sea
open Go.RowKit Mur Prt Lanes
open Ros (glue glue_error glue_ok glue_parts ints ints_length nums_read nums_laid)

structure L where
  group : List UInt8
  epoch : Int
  round : Int
  kind : Int
  from' : Int
  body : List UInt8
  sig : List UInt8

def right (l : L) : Bool := decide (1 ≤ l.group.length) && decide (l.group.length ≤ 8) && decide (0 ≤ l.epoch) && decide (l.epoch < 1073741824) && decide (0 ≤ l.round) && decide (l.round < 1073741824) && decide (1 ≤ l.kind) && decide (l.kind ≤ 6) && decide (0 ≤ l.from') && decide (l.from' < 200) && decide (l.body.length ≤ 6000) && decide (l.sig.length ≤ 6000)
theorem right_iff (l : L) : right l = true ↔ (1 ≤ l.group.length ∧ l.group.length ≤ 8) ∧ (0 ≤ l.epoch ∧ l.epoch < 1073741824) ∧ (0 ≤ l.round ∧ l.round < 1073741824) ∧ (1 ≤ l.kind ∧ l.kind ≤ 6) ∧ (0 ≤ l.from' ∧ l.from' < 200) ∧ l.body.length ≤ 6000 ∧ l.sig.length ≤ 6000 := by
  simp only [right, Bool.and_eq_true, decide_eq_true_eq, and_assoc]
def nums (l : L) : List Int := [l.epoch, l.round, l.kind, l.from']
def lay (l : L) : Except Nat (List UInt8) := glue (str l.group) (glue (layAll num (nums l)) (str l.body))
/-- What is signed. -/
def text (l : L) : Except Nat (List UInt8) := if right l = true then lay l else .error 1
def bytes (l : L) : Except Nat (List UInt8) := glue (text l) (str l.sig)

theorem num_small (z : Int) (h1 : 0 ≤ z) (h2 : z < 1099511627776) : ∃ a, num z = .ok a := by
  unfold num
  rw [if_neg (by omega)]
  exact ⟨_, rfl⟩
theorem each_small (l : List Int) (h : ∀ z ∈ l, 0 ≤ z ∧ z < 1099511627776) : ∃ a, each num l = .ok a := by
  induction l with
  | nil => exact ⟨[], rfl⟩
  | cons x l ih =>
    obtain ⟨a, ha⟩ := num_small x (h x List.mem_cons_self).1 (h x List.mem_cons_self).2
    obtain ⟨b, hb⟩ := ih fun z hz => h z (List.mem_cons_of_mem _ hz)
    exact ⟨a ++ b, by rw [each_ok num x l a ha, hb, Prt.ahead_ok]⟩
theorem nums_small (l : L) (h : right l = true) : ∃ a, layAll num (nums l) = .ok a := by
  obtain ⟨-, h2, h3, h4, h5, -, -⟩ := (right_iff l).1 h
  obtain ⟨a, ha⟩ := each_small (nums l) (fun z hz => by
    simp only [nums, List.mem_cons, List.not_mem_nil, or_false] at hz
    rcases hz with rfl | rfl | rfl | rfl <;> omega)
  refine ⟨high (nums l).length 1 ++ a, ?_⟩
  rw [layAll, if_neg (by simp [nums]), ha, Prt.ahead_ok]
theorem str_small (s : List UInt8) (h : s.length ≤ 6000) : str s = .ok (high s.length 2 ++ s) := by
  unfold str
  rw [if_neg (by omega)]
/-- A letter that is right has a text, and bytes. -/
theorem text_right (l : L) (h : right l = true) : ∃ a b c, str l.group = .ok a ∧ layAll num (nums l) = .ok b ∧ str l.body = .ok c ∧ text l = .ok (a ++ (b ++ c)) := by
  obtain ⟨h1, -, -, -, -, h6, -⟩ := (right_iff l).1 h
  obtain ⟨b, hb⟩ := nums_small l h
  refine ⟨_, b, _, str_small _ (by omega), hb, str_small _ h6, ?_⟩
  rw [text, if_pos h, lay, str_small _ (by omega), hb, str_small _ h6, glue_ok, glue_ok, Prt.ahead_ok, Prt.ahead_ok]
theorem text_wrong (l : L) (h : right l = false) : text l = .error 1 := by rw [text, if_neg (by rw [h]; simp)]
theorem text_ok (l : L) (t : List UInt8) (h : text l = .ok t) : right l = true := by
  cases hr : right l with
  | true => rfl
  | false => rw [text_wrong l hr] at h; cases h
theorem bytes_right (l : L) (h : right l = true) : ∃ t d, text l = .ok t ∧ str l.sig = .ok d ∧ bytes l = .ok (t ++ d) := by
  obtain ⟨a, b, c, -, -, -, ht⟩ := text_right l h
  obtain ⟨-, -, -, -, -, -, h7⟩ := (right_iff l).1 h
  refine ⟨_, _, ht, str_small _ h7, ?_⟩
  rw [bytes, ht, str_small _ h7, glue_ok, Prt.ahead_ok]
theorem bytes_wrong (l : L) (h : right l = false) : bytes l = .error 1 := by rw [bytes, text_wrong l h, glue_error]
theorem bytes_ok (l : L) (t : List UInt8) (h : bytes l = .ok t) : right l = true := by
  cases hr : right l with
  | true => rfl
  | false => rw [bytes_wrong l hr] at h; cases h

/-- A letter of what was read. -/
def sea (g : List UInt8) (ns : List Nat) (b x : List UInt8) : L := ⟨g, (ns.getD 0 0 : Nat), (ns.getD 1 0 : Nat), (ns.getD 2 0 : Nat), (ns.getD 3 0 : Nat), b, x⟩
/-- What is told of the four parts. -/
def told (s g : List UInt8) (ns : List Nat) (b x : List UInt8) (p : Nat) : Except Nat L := if p = s.length ∧ ns.length = 4 ∧ right (sea g ns b x) = true then .ok (sea g ns b x) else .error 3
def read (s : List UInt8) : Except Nat L := match readStr s 0 with
  | .error e => .error e
  | .ok (g, p) => match readAll readNum s (p : Int) with
    | .error e => .error e
    | .ok (ns, p) => match readStr s (p : Int) with
      | .error e => .error e
      | .ok (b, p) => match readStr s (p : Int) with
        | .error e => .error e
        | .ok (x, p) => told s g ns b x p
theorem read_of (s g b x : List UInt8) (ns : List Nat) (p1 p2 p3 p4 : Nat) (h1 : readStr s 0 = .ok (g, p1)) (h2 : readAll readNum s (p1 : Int) = .ok (ns, p2)) (h3 : readStr s (p2 : Int) = .ok (b, p3)) (h4 : readStr s (p3 : Int) = .ok (x, p4)) : read s = told s g ns b x p4 := by
  unfold read
  rw [h1]
  dsimp only
  rw [h2]
  dsimp only
  rw [h3]
  dsimp only
  rw [h4]
theorem read_one (s : List UInt8) (e : Nat) (h1 : readStr s 0 = .error e) : read s = .error e := by
  unfold read
  rw [h1]
theorem read_two (s g : List UInt8) (p1 e : Nat) (h1 : readStr s 0 = .ok (g, p1)) (h2 : readAll readNum s (p1 : Int) = .error e) : read s = .error e := by
  unfold read
  rw [h1]
  dsimp only
  rw [h2]
theorem read_three (s g : List UInt8) (ns : List Nat) (p1 p2 e : Nat) (h1 : readStr s 0 = .ok (g, p1)) (h2 : readAll readNum s (p1 : Int) = .ok (ns, p2)) (h3 : readStr s (p2 : Int) = .error e) : read s = .error e := by
  unfold read
  rw [h1]
  dsimp only
  rw [h2]
  dsimp only
  rw [h3]
theorem read_four (s g b : List UInt8) (ns : List Nat) (p1 p2 p3 e : Nat) (h1 : readStr s 0 = .ok (g, p1)) (h2 : readAll readNum s (p1 : Int) = .ok (ns, p2)) (h3 : readStr s (p2 : Int) = .ok (b, p3)) (h4 : readStr s (p3 : Int) = .error e) : read s = .error e := by
  unfold read
  rw [h1]
  dsimp only
  rw [h2]
  dsimp only
  rw [h3]
  dsimp only
  rw [h4]
theorem read_parts (s : List UInt8) (l : L) (h : read s = .ok l) : ∃ g ns b x p1 p2 p3, readStr s 0 = .ok (g, p1) ∧ readAll readNum s (p1 : Int) = .ok (ns, p2) ∧ readStr s (p2 : Int) = .ok (b, p3) ∧ readStr s (p3 : Int) = .ok (x, s.length) ∧ ns.length = 4 ∧ right l = true ∧ l = sea g ns b x := by
  cases h1 : readStr s 0 with
  | error e => rw [read_one s e h1] at h; cases h
  | ok x1 =>
    obtain ⟨g, p1⟩ := x1
    cases h2 : readAll readNum s (p1 : Int) with
    | error e => rw [read_two s g p1 e h1 h2] at h; cases h
    | ok x2 =>
      obtain ⟨ns, p2⟩ := x2
      cases h3 : readStr s (p2 : Int) with
      | error e => rw [read_three s g ns p1 p2 e h1 h2 h3] at h; cases h
      | ok x3 =>
        obtain ⟨b, p3⟩ := x3
        cases h4 : readStr s (p3 : Int) with
        | error e => rw [read_four s g b ns p1 p2 p3 e h1 h2 h3 h4] at h; cases h
        | ok x4 =>
          obtain ⟨x, p4⟩ := x4
          rw [read_of s g b x ns p1 p2 p3 p4 h1 h2 h3 h4, told] at h
          split at h
          · rename_i hc
            obtain ⟨rfl, c2, c3⟩ := hc
            cases h
            exact ⟨g, ns, b, x, p1, p2, p3, rfl, h2, h3, h4, c2, c3, rfl⟩
          · cases h

/-- What is written is read. -/
theorem write_read (l : L) (s : List UInt8) (h : bytes l = .ok s) : read s = .ok l := by
  have hr := bytes_ok l s h
  obtain ⟨a, b, c, h1, h2, h3, ht⟩ := text_right l hr
  obtain ⟨t, d, ht2, h4, hb⟩ := bytes_right l hr
  rw [ht] at ht2
  cases ht2
  rw [hb] at h
  obtain rfl : (a ++ (b ++ c)) ++ d = s := Except.ok.inj h
  have k1 := str_read l.group a [] (b ++ (c ++ d)) h1
  obtain ⟨ns, e2, k2⟩ := nums_read _ b a (c ++ d) h2
  have k3 := str_read l.body c (a ++ b) d h3
  have k4 := str_read l.sig d (a ++ b ++ c) [] h4
  simp only [List.nil_append, List.append_nil, List.append_assoc, List.length_nil, Nat.zero_add] at k1 k2 k3 k4
  rw [List.length_append] at k3
  rw [List.length_append, List.length_append, ← Nat.add_assoc] at k4
  simp only [List.append_assoc]
  have hlen : ns.length = 4 := by rw [← ints_length, ← e2]; rfl
  obtain ⟨x, y, z, u, rfl⟩ : ∃ x y z u, ns = [x, y, z, u] := by
    match ns, hlen with
    | [x, y, z, u], _ => exact ⟨x, y, z, u, rfl⟩
  have hse : sea l.group [x, y, z, u] l.body l.sig = l := by
    simp only [nums, ints, List.map_cons, List.map_nil, List.cons.injEq, and_true] at e2
    obtain ⟨q1, q2, q3, q4⟩ := e2
    cases l
    dsimp only at q1 q2 q3 q4
    subst q1 q2 q3 q4
    rfl
  rw [read_of _ _ _ _ _ _ _ _ _ k1 k2 k3 k4, told, hse, if_pos]
  exact ⟨by simp only [List.length_append]; omega, hlen, hr⟩
/-- What is read is written so. -/
theorem read_write (s : List UInt8) (l : L) (h : read s = .ok l) : bytes l = .ok s ∧ right l = true := by
  obtain ⟨g, ns, b, x, p1, p2, p3, h1, h2, h3, h4, hlen, hr, he⟩ := read_parts s l h
  obtain ⟨k1, a1, b1⟩ := str_laid s 0 p1 g h1
  obtain ⟨k2, a2, b2⟩ := nums_laid s p1 p2 ns h2
  obtain ⟨k3, a3, b3⟩ := str_laid s p2 p3 b h3
  obtain ⟨k4, a4, b4⟩ := str_laid s p3 s.length x h4
  have e2 : ints ns = nums l := by
    match ns, hlen, he with
    | [x, y, z, u], _, he => rw [he]; rfl
  rw [e2] at k2
  have q1 : l.group = g := by rw [he]; rfl
  have q3 : l.body = b := by rw [he]; rfl
  have q4 : l.sig = x := by rw [he]; rfl
  refine ⟨?_, hr⟩
  rw [bytes, text, if_pos hr, lay, q1, q3, q4, k1, k2, k3, k4, glue_ok, glue_ok, Prt.ahead_ok, Prt.ahead_ok, glue_ok, Prt.ahead_ok]
  congr 1
  have t3 : (s.drop p2).take (p3 - p2) ++ (s.drop p3).take (s.length - p3) = s.drop p2 := by
    have : s.drop p3 = (s.drop p2).drop (p3 - p2) := by rw [List.drop_drop]; congr 1; omega
    have tl : (s.drop p3).take (s.length - p3) = s.drop p3 := List.take_of_length_le (by rw [List.length_drop]; omega)
    rw [tl, this, List.take_append_drop]
  have t2 : (s.drop p1).take (p2 - p1) ++ s.drop p2 = s.drop p1 := by
    have : s.drop p2 = (s.drop p1).drop (p2 - p1) := by rw [List.drop_drop]; congr 1; omega
    rw [this, List.take_append_drop]
  rw [List.append_assoc, List.append_assoc, t3, t2, List.drop_zero, Nat.sub_zero, List.take_append_drop]
/-- Of two letters that are right the texts are alike just if they differ in their signature alone. -/
theorem text_same (l k : L) (t : List UInt8) (h1 : text l = .ok t) (h2 : text k = .ok t) : k = { l with sig := k.sig } := by
  have r1 := text_ok l t h1
  have r2 := text_ok k t h2
  have s1 : right { l with sig := [] } = true := by
    obtain ⟨a, b, c, d, e, f, _⟩ := (right_iff l).1 r1
    exact (right_iff _).2 ⟨a, b, c, d, e, f, Nat.zero_le _⟩
  have s2 : right { k with sig := [] } = true := by
    obtain ⟨a, b, c, d, e, f, _⟩ := (right_iff k).1 r2
    exact (right_iff _).2 ⟨a, b, c, d, e, f, Nat.zero_le _⟩
  have t1 : text { l with sig := [] } = .ok t := by
    rw [text, if_pos r1] at h1
    rw [text, if_pos s1]
    exact h1
  have t2 : text { k with sig := [] } = .ok t := by
    rw [text, if_pos r2] at h2
    rw [text, if_pos s2]
    exact h2
  have b1 : bytes { l with sig := [] } = .ok (t ++ (high 0 2 ++ [])) := by rw [bytes, t1, str_small _ (Nat.zero_le _), glue_ok, Prt.ahead_ok]; rfl
  have b2 : bytes { k with sig := [] } = .ok (t ++ (high 0 2 ++ [])) := by rw [bytes, t2, str_small _ (Nat.zero_le _), glue_ok, Prt.ahead_ok]; rfl
  have e := write_read _ _ b1
  rw [write_read _ _ b2] at e
  injection e with e
  cases l
  cases k
  injection e with e1 e2 e3 e4 e5 e6
  subst e1 e2 e3 e4 e5 e6
  rfl
theorem same_text (l : L) (x : List UInt8) (h1 : right l = true) (h2 : right { l with sig := x } = true) : text { l with sig := x } = text l := by
  rw [text, if_pos h2, text, if_pos h1]
  rfl
end Go.Proofs.Ytnglnocdffjnoaa.Sea
