/-
  Several texts as one (Prt, Tap, Cel, RTpA, RTpB, RTpC, RTpD, RTpE, TpT, TpN, TpF, TpP, TpG). The plain mathematics of package parts: what its functions answer, as functions on lists of bytes, after the document's words; what is laid is read, what is read is laid so. Nothing here speaks of a program: no condition but those that each lemma names. The plain mathematics of package tape: decimal digits, names of numbers, cells got and put, bytes that fit, cells as bytes and back: what is put is got, others are as they were (P15.10); names of unlike numbers are unlike (P15.11); what is printed is read, what is read is printed so (P15.12). Upon XPrt: nothing here speaks of a program. Slices of cells (a name and bytes): as they are read, rows that a call has made itself, an append of one; '==' of texts and of cells. Conditions: those that each lemma names. The document's own answers for names (Dec, joined, PadName, PermName, MaskName, SigName, Member, Pseudonym) and for bytes that fit (Fit) of layer 15 are what the plain mathematics of the text Tap says; all memory that was there is left as it was. Conditions: numbers fit; texts have at most 10^9 bytes. The document's own answers for cells got and put, and names of a word (Get, Put, Names) of layer 15 are what the plain mathematics of the text Tap says; all memory that was there is left as it was. Conditions: a list is read in memory (CelR) and has at most 1000000 cells. The document's own answer for the names of a word (Names) of layer 15 is what the plain mathematics of the text Tap says; all memory that was there is left as it was. Conditions: a list is read in memory (CelR) and has at most 1000000 cells; the word has at most 10^9 bytes. The document's own answers for cells as bytes (Print, Read) of layer 15 are what the plain mathematics of the text Tap says; all memory that was there is left as it was. Conditions: a list is read in memory (CelR) and has at most 1000000 cells; a text has at most 10^9 bytes. The document's own answer for the cells that bytes are (Read) of layer 15 is what the plain mathematics of the text Tap says; all memory that was there is left as it was. Conditions: a text has at most 10^9 bytes. What package tape calls of Go's library: strconv.Itoa (over its table of powers of ten, which lies in a variable), strings.HasPrefix; and Dec, the names of numbers. Condition: the table's cells (Pow). Names of numbers (named, PadName, PermName, MaskName, Member, Pseudonym, SigName): a word, and digits behind blanks. Condition: the table of powers of ten lies in its variable; words up to 10^15 bytes. slices.IndexFunc at cells, whatever the test; find and Get of package tape: what the plain mathematics of the text Tap says; all memory that was there is left as it was. Conditions: no list has more than 1000000 cells. Slices of cells cut, made and copied; Put of package tape: what the plain mathematics of the text Tap says, in memory of its own; all memory that was there is left as it was. Conditions: no list has more than 1000000 cells; a slice is no longer than its room. fits, Fit and lay of package tape: whether a cell can be printed; bytes that fit; a text with its length ahead, laid into a block of bytes. Conditions: texts up to 10^9 bytes; what is laid has room.
-/
import Derived.Test.YtolmfimpaofefaaGreatDoorMLn
import Derived.Test.YtolmfimpaofefaaGreatDoorMWk
import Derived.Deep.Cut
import Derived.BigQuiet
import Derived.Test.YtolmfimpaofefaaGreatDoorShelf
import Derived.Lib.AppendIntMem
import Derived.Shelf.Abstract
namespace Go.Proofs.YtolmfimpaofefaaGreatDoor.Prt
open Go.RowKit Mur Lanes

abbrev tx (l : List UInt8) : ByteArray := ⟨l.toArray⟩
theorem tx_list (l : List UInt8) : (tx l).data.toList = l := rfl
theorem tx_size (l : List UInt8) : (tx l).size = l.length := rfl
theorem tx_append (a b : List UInt8) : tx a ++ tx b = tx (a ++ b) := by
  apply ByteArray.ext
  simp

/-- Num: its five bytes, or the number of its error. -/
def num (n : Int) : Except Nat (List UInt8) := if n < 0 ∨ 1099511627776 ≤ n then .error 1 else .ok (high n.toNat 5)
/-- Str. -/
def str (s : List UInt8) : Except Nat (List UInt8) := if 6000 < s.length then .error 4 else .ok (high s.length 2 ++ s)
/-- Each of a list, one behind the other, or the first error. -/
def each {α : Type} (lay : α → Except Nat (List UInt8)) : List α → Except Nat (List UInt8)
  | [] => .ok []
  | x :: l => match lay x with
    | .error e => .error e
    | .ok a => match each lay l with
      | .error e => .error e
      | .ok b => .ok (a ++ b)
/-- What is ahead, and what follows if there is no error. -/
def ahead (a : List UInt8) (r : Except Nat (List UInt8)) : Except Nat (List UInt8) := match r with
  | .error e => .error e
  | .ok b => .ok (a ++ b)
/-- Nums and Strs. -/
def layAll {α : Type} (lay : α → Except Nat (List UInt8)) (l : List α) : Except Nat (List UInt8) :=
  if 255 < l.length then .error 4 else ahead (high l.length 1) (each lay l)

theorem ahead_error (a : List UInt8) (e : Nat) : ahead a (.error e) = .error e := rfl
theorem ahead_ok (a b : List UInt8) : ahead a (.ok b) = .ok (a ++ b) := rfl
theorem each_error {α : Type} (lay : α → Except Nat (List UInt8)) (x : α) (l : List α) (e : Nat) (h : lay x = .error e) : each lay (x :: l) = .error e := by rw [each, h]
theorem each_ok {α : Type} (lay : α → Except Nat (List UInt8)) (x : α) (l : List α) (a : List UInt8) (h : lay x = .ok a) : each lay (x :: l) = ahead a (each lay l) := by
  rw [each, h]
  cases each lay l <;> rfl
/-- As many bytes from a place on as are wanted, and the place behind them. -/
def cut (s : List UInt8) (p : Int) (m : Nat) : Except Nat (List UInt8 × Nat) :=
  if p < 0 ∨ (s.length : Int) < p then .error 1 else if (s.length : Int) - p < (m : Int) then .error 2 else .ok ((s.drop p.toNat).take m, p.toNat + m)
/-- Bytes as a number, the highest first. -/
def val (l : List UInt8) : Nat := l.foldl (fun n b => n * 256 + b.toNat) 0
def readHigh (s : List UInt8) (p : Int) (m : Nat) : Except Nat (Nat × Nat) := match cut s p m with
  | .error e => .error e
  | .ok r => .ok (val r.1, r.2)
def readNum (s : List UInt8) (p : Int) : Except Nat (Nat × Nat) := readHigh s p 5
def readStr (s : List UInt8) (p : Int) : Except Nat (List UInt8 × Nat) := match readHigh s p 2 with
  | .error e => .error e
  | .ok r => if 6000 < r.1 then .error 4 else cut s r.2 r.1
/-- As many parts as are told. -/
def readN {α : Type} (rd : Int → Except Nat (α × Nat)) : Nat → Nat → Except Nat (List α × Nat)
  | 0, p => .ok ([], p)
  | k + 1, p => match rd p with
    | .error e => .error e
    | .ok r => match readN rd k r.2 with
      | .error e => .error e
      | .ok t => .ok (r.1 :: t.1, t.2)
/-- A list in front of what follows. -/
def front {α : Type} (a : List α) (r : Except Nat (List α × Nat)) : Except Nat (List α × Nat) := match r with
  | .error e => .error e
  | .ok t => .ok (a ++ t.1, t.2)
def readAll {α : Type} (rd : List UInt8 → Int → Except Nat (α × Nat)) (s : List UInt8) (p : Int) : Except Nat (List α × Nat) := match readHigh s p 1 with
  | .error e => .error e
  | .ok r => readN (rd s) r.1 r.2

theorem readN_ok {α : Type} (rd : Int → Except Nat (α × Nat)) (k p q : Nat) (x : α) (h : rd p = .ok (x, q)) : readN rd (k + 1) p = front [x] (readN rd k q) := by
  rw [readN, h]
  dsimp only
  cases readN rd k q <;> rfl
theorem high_length (n m : Nat) : (high n m).length = m := by simp [high]
theorem num_length (n : Int) (a : List UInt8) (h : num n = .ok a) : a.length = 5 := by
  unfold num at h
  split at h
  · cases h
  · cases h
    exact high_length _ _
theorem cut_facts (s : List UInt8) (p : Int) (m q : Nat) (l : List UInt8) (h : cut s p m = .ok (l, q)) : 0 ≤ p ∧ q = p.toNat + m ∧ q ≤ s.length ∧ l = (s.drop p.toNat).take m ∧ l.length = m := by
  unfold cut at h
  split at h
  · cases h
  · split at h
    · cases h
    · cases h
      refine ⟨by omega, rfl, by omega, rfl, ?_⟩
      rw [List.length_take, List.length_drop]
      omega
theorem foldl_lt (l : List UInt8) : ∀ n : Nat, l.foldl (fun n b => n * 256 + b.toNat) n < (n + 1) * 256 ^ l.length := by
  induction l with
  | nil => intro n; simp
  | cons b l ih =>
    intro n
    have h := ih (n * 256 + b.toNat)
    have hb := b.toNat_lt
    have h2 : (n * 256 + b.toNat + 1) * 256 ^ l.length ≤ ((n + 1) * 256) * 256 ^ l.length := Nat.mul_le_mul_right _ (by omega)
    have e : 256 ^ (b :: l).length = 256 * 256 ^ l.length := by rw [List.length_cons, Nat.pow_succ, Nat.mul_comm]
    rw [e, ← Nat.mul_assoc]
    exact Nat.lt_of_lt_of_le h h2
theorem val_lt (l : List UInt8) : val l < 256 ^ l.length := by
  have := foldl_lt l 0
  simpa [val] using this
theorem val_snoc (l : List UInt8) (b : UInt8) : val (l ++ [b]) = val l * 256 + b.toNat := by simp [val, List.foldl_append]
theorem readHigh_facts (s : List UInt8) (p : Int) (m q n : Nat) (h : readHigh s p m = .ok (n, q)) : 0 ≤ p ∧ q = p.toNat + m ∧ q ≤ s.length ∧ n = val ((s.drop p.toNat).take m) ∧ n < 256 ^ m := by
  unfold readHigh at h
  cases hc : cut s p m with
  | error e => rw [hc] at h; cases h
  | ok r =>
    rw [hc] at h
    obtain ⟨l, q2⟩ := r
    obtain ⟨h1, h2, h3, h4, h5⟩ := cut_facts s p m q2 l hc
    cases h
    refine ⟨h1, h2, h3, by rw [h4], ?_⟩
    have := val_lt l
    rw [h5] at this
    exact this
/-- Bytes of a number, and the number of bytes. -/
theorem high_succ (n m : Nat) : high n (m + 1) = high (n / 256) m ++ [UInt8.ofNat n] := by
  apply List.ext_getElem (by simp [high])
  intro i h1 h2
  have hi : i < m + 1 := by simpa [high] using h1
  by_cases e : i = m
  · subst e
    rw [List.getElem_append_right (by simp [high])]
    simp [high]
  · rw [List.getElem_append_left (by simp [high]; omega)]
    simp only [high, List.getElem_map, List.getElem_range]
    congr 1
    have e2 : 8 * (m + 1 - 1 - i) = 8 + 8 * (m - 1 - i) := by omega
    rw [e2, Nat.pow_add, ← Nat.div_div_eq_div_mul]
theorem val_high (m : Nat) : ∀ n : Nat, n < 256 ^ m → val (high n m) = n := by
  induction m with
  | zero => intro n h; simp at h; subst h; rfl
  | succ m ih =>
    intro n h
    rw [high_succ, val_snoc, ih (n / 256) (by rw [Nat.pow_succ] at h; omega)]
    simp only [UInt8.toNat_ofNat']
    omega
theorem drop_mid (u a v : List UInt8) : ((u ++ (a ++ v)).drop u.length).take a.length = a := by
  rw [List.drop_left, List.take_left]
theorem cut_mid (u a v : List UInt8) : cut (u ++ (a ++ v)) (u.length : Int) a.length = .ok (a, u.length + a.length) := by
  unfold cut
  rw [if_neg (by simp only [List.length_append]; omega), if_neg (by simp only [List.length_append]; omega)]
  have e : (u.length : Int).toNat = u.length := by omega
  rw [e, drop_mid]
theorem readHigh_mid (u v : List UInt8) (n m : Nat) (h : n < 256 ^ m) : readHigh (u ++ (high n m ++ v)) (u.length : Int) m = .ok (n, u.length + m) := by
  have hc := cut_mid u (high n m) v
  rw [high_length] at hc
  rw [readHigh, hc]
  show Except.ok (val (high n m), u.length + m) = _
  rw [val_high m n h]

theorem each_read {α : Type} (lay : α → Except Nat (List UInt8)) (rd : List UInt8 → Int → Except Nat (α × Nat)) (hrd : ∀ x a u v, lay x = .ok a → rd (u ++ (a ++ v)) (u.length : Int) = .ok (x, u.length + a.length)) (l : List α) :
    ∀ b u v, each lay l = .ok b → readN (rd (u ++ (b ++ v))) l.length u.length = .ok (l, u.length + b.length) := by
  induction l with
  | nil =>
    intro b u v h
    cases h
    rfl
  | cons x l ih =>
    intro b u v h
    cases hx : lay x with
    | error e => rw [each_error lay x l e hx] at h; cases h
    | ok a =>
      rw [each_ok lay x l a hx] at h
      cases hl : each lay l with
      | error e => rw [hl] at h; cases h
      | ok c =>
        rw [hl] at h
        cases h
        have g := hrd x a u (c ++ v) hx
        have k := ih c (u ++ a) v hl
        rw [List.append_assoc, List.length_append] at k
        rw [List.append_assoc, List.length_cons, readN_ok _ _ _ _ x g, k]
        show Except.ok (_, _) = _
        rw [List.length_append]
        congr 2
        omega
end Go.Proofs.YtolmfimpaofefaaGreatDoor.Prt

namespace Go.Proofs.YtolmfimpaofefaaGreatDoor.Tap
open Go.RowKit Mur Prt Lanes

/-- The digits of a number. -/
def digits (n : Nat) : List UInt8 := if n < 10 then [UInt8.ofNat (48 + n)] else digits (n / 10) ++ [UInt8.ofNat (48 + n % 10)]
termination_by n
decreasing_by omega
def dec (n : Int) : List UInt8 := if n < 1 then [48] else digits n.toNat
theorem digits_low (n : Nat) (h : n < 10) : digits n = [UInt8.ofNat (48 + n)] := by rw [digits, if_pos h]
theorem digits_high (n : Nat) (h : ¬ n < 10) : digits n = digits (n / 10) ++ [UInt8.ofNat (48 + n % 10)] := by rw [digits, if_neg h]
theorem dec_nat (n : Nat) : dec (n : Int) = digits n := by
  unfold dec
  split
  · obtain rfl : n = 0 := by omega
    rw [digits_low 0 (by omega)]
    rfl
  · rw [Int.toNat_natCast]
def valD (l : List UInt8) : Nat := l.foldl (fun n b => n * 10 + (b.toNat - 48)) 0
theorem digits_long (n k : Nat) (h : n < 10 ^ (k + 1)) : (digits n).length ≤ k + 1 := by
  induction k generalizing n with
  | zero => rw [digits_low n (by omega)]; exact Nat.le_refl _
  | succ k ih =>
    by_cases g : n < 10
    · rw [digits_low n g]; simp
    · rw [digits_high n g, List.length_append]
      have : n / 10 < 10 ^ (k + 1) := by
        rw [Nat.pow_succ] at h
        omega
      have := ih _ this
      show _ + 1 ≤ _
      omega

/-- A word, and numbers, with a blank ahead of each. -/
def tail : List Int → List UInt8
  | [] => []
  | n :: l => 32 :: (dec n ++ tail l)
def joined (word : List UInt8) (l : List Int) : List UInt8 := word ++ tail l
theorem joined_more (word : List UInt8) (l m : List Int) : joined (joined word l) m = joined word (l ++ m) := by
  rw [joined, joined, joined, List.append_assoc]
  congr 1
  induction l with
  | nil => rfl
  | cons x l ih => simp only [tail, List.cons_append, List.append_assoc, ih]

/-- Cells: names and bytes. -/
abbrev C := List UInt8 × List UInt8
def get (l : List C) (n : List UInt8) : Option (List UInt8) := match l with
  | [] => none
  | c :: l => if c.1 = n then some c.2 else get l n
def putF (n s : List UInt8) : Bool → List C → List C
  | done, [] => if done = true then [] else [(n, s)]
  | done, c :: l => if c.1 = n then (if done = true then putF n s true l else (n, s) :: putF n s true l) else c :: putF n s done l
def put (l : List C) (n s : List UInt8) : List C := putF n s false l
/-- Bytes that fit. -/
def fit (s : List UInt8) (n : Int) : List UInt8 := (s ++ List.replicate (max 0 (min n 6000)).toNat 0).take (max 0 (min n 6000)).toNat

/-- Cells as bytes. -/
def okC (c : C) : Bool := decide (1 ≤ c.1.length) && decide (c.1.length ≤ 200) && decide (c.2.length ≤ 6000)
theorem okC_iff (c : C) : okC c = true ↔ 1 ≤ c.1.length ∧ c.1.length ≤ 200 ∧ c.2.length ≤ 6000 := by
  simp only [okC, Bool.and_eq_true, decide_eq_true_eq, and_assoc]
def tell (s : List UInt8) : List UInt8 := high s.length 2 ++ s
def layC (c : C) : Except Nat (List UInt8) := if okC c = true then .ok (tell c.1 ++ tell c.2) else .error 4
def print (l : List C) : Except Nat (List UInt8) := if 1000 < l.length then .error 4 else each layC l
def cutT (s : List UInt8) : Option (List UInt8 × List UInt8) := if s.length < 2 then none else if s.length - 2 < val (s.take 2) then none else some ((s.drop 2).take (val (s.take 2)), (s.drop 2).drop (val (s.take 2)))
/-- What is read, round by round: how many rounds at most, the cells so far, the rest. -/
def readG : Nat → List C → List UInt8 → Except Nat (List C)
  | 0, acc, _ => .ok acc
  | f + 1, acc, s => if s = [] then .ok acc else match cutT s with
    | none => .error 2
    | some x => match cutT x.2 with
      | none => .error 2
      | some y => if acc.length = 1000 ∨ okC (x.1, y.1) = false then .error 4 else readG f (acc ++ [(x.1, y.1)]) y.2
def read (s : List UInt8) : Except Nat (List C) := readG s.length [] s

theorem cutT_tell (a r : List UInt8) (h : a.length < 65536) : cutT (tell a ++ r) = some (a, r) := by
  have e1 : (tell a ++ r).take 2 = high a.length 2 := by
    rw [tell, List.append_assoc, List.take_append_of_le_length (by rw [high_length]; exact Nat.le_refl _)]
    exact List.take_of_length_le (by rw [high_length]; exact Nat.le_refl _)
  have e2 : (tell a ++ r).drop 2 = a ++ r := by
    rw [tell, List.append_assoc]
    have := List.drop_left' (l₁ := high a.length 2) (l₂ := a ++ r) (high_length a.length 2)
    exact this
  have e3 : val (high a.length 2) = a.length := by
    have := readHigh_mid [] [] a.length 2 (by omega)
    simp only [List.nil_append, List.append_nil, List.length_nil, Nat.zero_add] at this
    obtain ⟨-, -, -, h4, -⟩ := readHigh_facts _ _ _ _ _ this
    rw [Int.natCast_zero] at h4
    simp only [Int.toNat_zero, List.drop_zero] at h4
    rw [List.take_of_length_le (by rw [high_length]; exact Nat.le_refl _)] at h4
    exact h4.symm
  have e4 : (tell a ++ r).length = 2 + a.length + r.length := by rw [List.length_append, tell, List.length_append, high_length]
  unfold cutT
  rw [if_neg (by omega), e1, e2, e3, if_neg (by omega)]
  rw [List.take_left' rfl, List.drop_left' rfl]

theorem tell_some (a r : List UInt8) : tell a ++ r ≠ [] := by
  rw [tell, List.append_assoc]
  intro h
  have := congrArg List.length h
  rw [List.length_append, high_length] at this
  simp at this
theorem tell_length (a : List UInt8) : (tell a).length = 2 + a.length := by rw [tell, List.length_append, high_length]
theorem readG_done (f : Nat) (acc : List C) : readG f acc [] = .ok acc := by
  cases f with
  | zero => rfl
  | succ f => rw [readG, if_pos rfl]
theorem readG_next (f : Nat) (acc : List C) (c : C) (r : List UInt8) (hc : okC c = true) (ha : acc.length ≠ 1000) : readG (f + 1) acc (tell c.1 ++ (tell c.2 ++ r)) = readG f (acc ++ [c]) r := by
  have h := (okC_iff c).1 hc
  rw [readG, if_neg (tell_some _ _), cutT_tell _ _ (by omega)]
  dsimp only
  rw [cutT_tell _ _ (by omega)]
  dsimp only
  rw [if_neg (by rw [hc]; simp [ha])]
theorem layC_ok (c : C) (a : List UInt8) (h : layC c = .ok a) : okC c = true ∧ a = tell c.1 ++ tell c.2 := by
  unfold layC at h
  split at h
  · cases h; exact ⟨by assumption, rfl⟩
  · cases h
theorem each_read (l : List C) : ∀ (f : Nat) (acc : List C) (a : List UInt8), each layC l = .ok a → a.length ≤ f → acc.length + l.length ≤ 1000 → readG f acc a = .ok (acc ++ l) := by
  induction l with
  | nil =>
    intro f acc a h _ _
    cases h
    rw [readG_done, List.append_nil]
  | cons c l ih =>
    intro f acc a h hf hl
    cases hc : layC c with
    | error e => rw [each_error layC c l e hc] at h; cases h
    | ok b =>
      rw [each_ok layC c l b hc] at h
      cases hr : each layC l with
      | error e => rw [hr, Prt.ahead_error] at h; cases h
      | ok r =>
        rw [hr, Prt.ahead_ok] at h
        obtain rfl : b ++ r = a := Except.ok.inj h
        obtain ⟨k1, rfl⟩ := layC_ok c b hc
        rw [List.length_append, List.length_append, tell_length, tell_length] at hf
        rw [List.length_cons] at hl
        obtain ⟨g, rfl⟩ : ∃ g, f = g + 1 := ⟨f - 1, by omega⟩
        rw [List.append_assoc, readG_next g acc c r k1 (by omega), ih g (acc ++ [c]) r hr (by omega) (by rw [List.length_append]; simp; omega), List.append_assoc]
        rfl
/-- The names that begin with a word and a blank. -/
def begins (word n : List UInt8) : Bool := decide (word.length < n.length) && decide (n.take word.length = word) && decide (n[word.length]? = some 32)
def names (l : List C) (word : List UInt8) : List (List UInt8) := (l.map (·.1)).filter (begins word)
end Go.Proofs.YtolmfimpaofefaaGreatDoor.Tap

namespace Go.Proofs.YtolmfimpaofefaaGreatDoor.Cel
open Go.RowKit Mur Prt Tap
set_option maxRecDepth 100000

/-- A cell as it lies in memory. -/
abbrev K := ByteArray × ByteArray
def toC (l : List K) : List C := l.map fun c => (c.1.data.toList, c.2.data.toList)
def ofC (l : List C) : List K := l.map fun c => (tx c.1, tx c.2)
theorem tx_data (s : ByteArray) : tx s.data.toList = s := by cases s; rfl
theorem toC_ofC (l : List C) : toC (ofC l) = l := by
  rw [toC, ofC, List.map_map]
  exact List.map_id'' (fun _ => rfl) l
theorem ofC_toC (l : List K) : ofC (toC l) = l := by
  rw [toC, ofC, List.map_map]
  refine List.map_id'' (fun c => ?_) l
  show (tx c.1.data.toList, tx c.2.data.toList) = c
  rw [tx_data, tx_data]
theorem toC_length (l : List K) : (toC l).length = l.length := by simp [toC]
theorem ofC_length (l : List C) : (ofC l).length = l.length := by simp [ofC]
theorem toC_append (l m : List K) : toC (l ++ m) = toC l ++ toC m := by simp [toC]
/-- Texts are alike where their bytes are. -/
theorem eql_iff (x y : ByteArray) : (x.toList == y.toList) = true ↔ x.data.toList = y.data.toList := by rw [beq_iff_eq, ByteArray.toList_eq, ByteArray.toList_eq]
theorem eql_no (x y : ByteArray) (h : x.data.toList ≠ y.data.toList) : (x.toList == y.toList) = false := by
  cases hb : (x.toList == y.toList) with
  | false => rfl
  | true => exact absurd ((eql_iff x y).1 hb) h
theorem eql_yes (x y : ByteArray) (h : x.data.toList = y.data.toList) : (x.toList == y.toList) = true := (eql_iff x y).2 h
def cellsV (l : List K) : List Value := l.flatMap fun p => [.string p.1, .string p.2]
theorem cellsV_length (l : List K) : (cellsV l).length = l.length * 2 := by
  induction l with
  | nil => rfl
  | cons p l ih =>
    have e : (cellsV (p :: l)).length = (cellsV l).length + 2 := rfl
    rw [e, ih, List.length_cons]
    omega
theorem cellsV_append (l m : List K) : cellsV (l ++ m) = cellsV l ++ cellsV m := by simp [cellsV]
theorem cellsV_at (l : List K) (i : Nat) (p : K) (h : l[i]? = some p) : (cellsV l)[i * 2]? = some (.string p.1) ∧ (cellsV l)[i * 2 + 1]? = some (.string p.2) := by
  induction l generalizing i with
  | nil => simp at h
  | cons q l ih =>
    have e : cellsV (q :: l) = .string q.1 :: .string q.2 :: cellsV l := rfl
    rw [e]
    cases i with
    | zero =>
      simp at h
      subst h
      exact ⟨rfl, rfl⟩
    | succ i =>
      rw [show (i + 1) * 2 = i * 2 + 1 + 1 by omega, List.getElem?_cons_succ, List.getElem?_cons_succ, List.getElem?_cons_succ, List.getElem?_cons_succ]
      exact ih i (by simpa using h)
theorem cellsV_one (l : List K) : ∀ v ∈ cellsV l, v.oneCell' = true := fun v hv => by
  simp only [cellsV, List.mem_flatMap] at hv
  obtain ⟨p, _, hv⟩ := hv
  rcases List.mem_cons.1 hv with rfl | hv
  · rfl
  · rcases List.mem_cons.1 hv with rfl | hv
    · rfl
    · cases hv

/-- A slice of cells as it is read. -/
def CelR (w : World) (a : Option Addr) (l : List K) : Prop := l.length ≠ 0 → ∃ b o, a = some ⟨b, o, none⟩ ∧ b < w.heap.size ∧ ∀ i x, l[i]? = some x → w.cell? ⟨b, o + i * 2, none⟩ = some (.string x.1) ∧ w.cell? ⟨b, o + i * 2 + 1, none⟩ = some (.string x.2)
theorem CelR.below {w w' : World} {a : Option Addr} {l : List K} (h : CelR w a l) (k : Below w.heap.size w w') : CelR w' a l := fun hl => by
  obtain ⟨b, o, ha, hb, hc⟩ := h hl
  exact ⟨b, o, ha, Nat.lt_of_lt_of_le hb k.size, fun i x hx => ⟨(k.cell (p := ⟨b, o + i * 2, none⟩) hb).trans (hc i x hx).1, (k.cell (p := ⟨b, o + i * 2 + 1, none⟩) hb).trans (hc i x hx).2⟩⟩
theorem CelR.none (w : World) (a : Option Addr) : CelR w a [] := fun h => absurd rfl h

theorem info_cel : (Tryz.prog.info? 51).map (fun i => (i.zero, i.size, i.bytes)) = some (some (.agg #[.string ⟨#[]⟩, .string ⟨#[]⟩]), 2, 32) := by kernel_rfl
theorem own_start (w : World) (t : TypeId) : w.ownsRow w.heap.size t 2 (.slice none 0 0) 0 (cellsV []) := ⟨by simp [cellsV], .inl ⟨rfl, rfl⟩⟩
theorem new_cel (W : World) (x : K) (t : TypeId) : ∀ j u, (cellsV [x])[j]? = some u → (W.alloc (.cells #[.string x.1, .string x.2] t)).cell? ⟨W.heap.size, j, none⟩ = some u := fun j u hu => by
  match j, hu with
  | 0, hu => cases hu; simp [World.cell?_alloc_new]
  | 1, hu => cases hu; simp [World.cell?_alloc_new]
/-- An append of one cell. -/
theorem append_cel {ops : Array Oper} {rest : List Oper} {o : Oper} {a : Act} {W : World} {Q : Exit → Act → World → Prop} (hgd : o.guard = none) (s x : Operand)
    (ho : o.op = .call { callee := .builtin .append, args := #[s, x], argTypes := #[22, 22] }) (base n : Nat) (v : Value) (l : List K) (hs : a.eval s = v) (hown : W.ownsRow base 51 2 v n (cellsV l))
    (b c : Nat) (p : K) (hx : a.eval x = .slice (some ⟨b, 0, none⟩) 1 c) (hnews : ∀ j u, (cellsV [p])[j]? = some u → W.cell? ⟨b, j, none⟩ = some u) (hn : n ≤ 1000000000) (hbase : base ≤ W.heap.size)
    (h : ∀ v' w', w'.ownsRow base 51 2 v' (n + 1) (cellsV (l ++ [p])) → W.grownBy w' v.ownBlock → wpList Tryz.prog ops Q rest (a.put o.dst v') w') : wpList Tryz.prog ops Q (o :: rest) a W := by
  obtain ⟨i0, hi, hz0, hz1, hz2⟩ := info_parts info_cel
  refine wpList_append_own W hgd s x 22 ho base 51 i0 (.agg #[.string ⟨#[]⟩, .string ⟨#[]⟩]) 2 32 Tryz.underlying22 hi hz0 hz1 hz2 rfl (by decide) v n (cellsV l) hs hown ⟨b, 0, none⟩ 1 c (cellsV [p]) hx rfl (fun j u hu => by rw [Strs.add_zero]; exact hnews j u hu) (cellsV_one [p]) (by unfold maxLen; omega) (by omega) hbase ?_
  intro v' w' h1 h2 _
  rw [← cellsV_append] at h1
  exact h v' w' h1 h2
/-- What such a row is, as it is read. -/
theorem own_cel {w : World} {base n : Nat} {v : Value} {l : List K} (h : w.ownsRow base 51 2 v n (cellsV l)) : ∃ ao c, v = .slice ao n c ∧ n = l.length ∧ CelR w ao l ∧ ∀ q, ao = some q → base ≤ q.block := by
  have hl := h.1
  rw [cellsV_length] at hl
  rcases h.2 with ⟨rfl, h2⟩ | ⟨g, cap, cur, rfl, h1, h2, h3, h4⟩
  · subst h2
    have h0 : l = [] := List.eq_nil_of_length_eq_zero (by omega)
    subst h0
    exact ⟨Option.none, 0, rfl, rfl, CelR.none w _, fun q hq => by cases hq⟩
  · have hn : n = l.length := by omega
    refine ⟨some ⟨g, 0, none⟩, cap, rfl, hn, fun _ => ⟨g, 0, rfl, (Array.getElem?_eq_some_iff.1 h2).1, fun i x hx => ?_⟩, fun q hq => by cases hq; exact h1⟩
    have hc := cellsV_at l i x hx
    have hr := h.cells (g := g) rfl
    have e1 := hr _ _ hc.1
    have e2 := hr _ _ hc.2
    rw [Strs.add_zero] at e1 e2
    rw [Nat.zero_add]
    exact ⟨e1, e2⟩

theorem cellStr : Hold.TyCell Tryz.prog 9 := ⟨_, Tryz.underlying9, rfl, by kernel_rfl⟩
end Go.Proofs.YtolmfimpaofefaaGreatDoor.Cel

namespace Go.Proofs.YtolmfimpaofefaaGreatDoor.RTap
open Go.RowKit Mur Prt Tap Cel
set_option maxRecDepth 100000
set_option linter.unusedSimpArgs false

theorem bytes_conv (w : World) (l : List UInt8) (n : Nat) (hn : n = l.length) : (convert 78 9 (.slice (some ⟨w.heap.size, 0, none⟩) n n)).run Tryz.prog (w.alloc (.cells (bytesV l).toArray 5)) = .ok (.string (tx l)) (w.alloc (.cells (bytesV l).toArray 5)) :=
  string_row (Whole.made w 5 (bytesV l)).row 78 5 9 Tryz.underlying78 Tryz.underlying5 Tryz.underlying9 n n hn
theorem one_conv (w : World) (c : Nat) (h : c < 256) (z : Int) (hz : z = (c : Int)) : (convert 78 9 (.slice (some ⟨w.heap.size, 0, none⟩) 1 1)).run Tryz.prog (w.alloc (.cells #[.int .u8 z] 5)) = .ok (.string (tx [UInt8.ofNat c])) (w.alloc (.cells #[.int .u8 z] 5)) := by
  have := bytes_conv w [UInt8.ofNat c] 1 rfl
  have e : bytesV [UInt8.ofNat c] = [.int .u8 z] := by
    show [Value.int .u8 ((UInt8.ofNat c).toNat : Int)] = _
    rw [UInt8.toNat_ofNat', Nat.mod_eq_of_lt h, hz]
  rw [e] at this
  exact this
theorem dec_long (n : Nat) (h : n ≤ 9223372036854775807) : (digits n).length ≤ 19 := digits_long n 18 (Nat.lt_of_le_of_lt h (by decide))
theorem digits_step (m : Nat) (o : ByteArray) (X : ByteArray) (hX : tx (digits m) ++ o = X) : (m / 10 ≠ 0 → tx (digits (m / 10)) ++ (tx [UInt8.ofNat (48 + m % 10)] ++ o) = X) ∧ (m / 10 = 0 → tx [UInt8.ofNat (48 + m % 10)] ++ o = X) := by
  constructor
  · intro h2
    rw [← hX, digits_high m (by omega), ← tx_append, ByteArray.append_assoc]
  · intro h2
    have h3 : m < 10 := by omega
    rw [← hX, digits_low m h3, Nat.mod_eq_of_lt h3]

set_option maxHeartbeats 1600000 in
theorem dec_any (n : Int) (X : ByteArray) (w : World) (hX : X = tx (dec n)) (h1 : -9223372036854775808 ≤ n) (h2 : n ≤ 9223372036854775807) :
    Calls Tryz.prog 34 #[.int .i64 n] w fun e w' => e = .returned (.string X) ∧ Below w.heap.size w w' := by
  by_cases hn : n < 1
  · obtain rfl : X = ⟨#[48]⟩ := by rw [hX, dec, if_pos hn]
    have hd : decide (n < 1) = true := decide_eq_true hn
    clear hX hn
    go_enter Tryz.func34, Tryz.ntmps34
    go_wp2
    go_ret
    exact ⟨rfl, Below.refl _ _⟩
  have hd : decide (n < 1) = false := decide_eq_false hn
  obtain ⟨N, rfl⟩ : ∃ N : Nat, n = N := ⟨n.toNat, by omega⟩
  have hXd : X = tx (digits N) := by rw [hX, dec_nat]
  have hXs : X.size ≤ 19 := by rw [hXd, tx_size]; exact dec_long N (by omega)
  have HX := Lib.hid (And.intro hXd hXs)
  clear hX hXd hXs
  go_enter Tryz.func34, Tryz.ntmps34
  go_wp2
  go_loopw [0, 3] (fun nv ov wr => ∃ (m : Nat) (o : ByteArray), nv = .int .i64 m ∧ ov = .string o ∧ m ≤ N ∧ o.size ≤ 19 ∧ (m = 0 → o = X) ∧ (m ≠ 0 → tx (digits m) ++ o = X) ∧ Below w.heap.size w wr) (fun nv _ _ => (intOf nv).toNat)
  case atStart => exact ⟨N, ⟨#[]⟩, rfl, rfl, Nat.le_refl _, by simp [ByteArray.size], fun h => by omega, fun _ => by rw [HX.out.1]; exact ByteArray.append_empty, Below.refl _ _⟩
  case round =>
    obtain ⟨m, o, rfl, rfl, hm, hos, h0, h1', hb⟩ := hrel
    have HB := Lib.hid hb
    have HR := Lib.hid (And.intro h0 h1')
    clear hb h0 h1'
    by_cases hz : m = 0
    · subst hz
      obtain rfl : o = X := HR.out.1 rfl
      have hd2 : decide (0 < ((0 : Nat) : Int)) = false := by decide
      go_wp2
      go_ret
      exact ⟨rfl, HB.out⟩
    · have hd2 : decide (0 < (m : Int)) = true := decide_eq_true (by omega)
      obtain ⟨D, hD⟩ : ∃ D, D = tx [UInt8.ofNat (48 + m % 10)] := ⟨_, rfl⟩
      have hcv := one_conv wr (48 + m % 10) (by omega) (48 + (m : Int) % 10) (by omega)
      rw [← hD] at hcv
      have hDs : D.size = 1 := by rw [hD, tx_size]; rfl
      have hap : ¬ 9223372036854775807 < D.size + o.size := by omega
      have HST := Lib.hid (digits_step m o X (HR.out.2 hz))
      rw [← hD] at HST
      have HBN := Lib.hid (HB.out.alloc HB.out.size (.cells #[.int .u8 (48 + (m : Int) % 10)] 5))
      have HDS := Lib.hid hDs
      clear hD hDs
      go_wp2
      go_roundw
      case rel =>
        refine ⟨m / 10, D ++ o, by go_num, rfl, by omega, ?_, HST.out.2, HST.out.1, HBN.out⟩
        by_cases h0 : m / 10 = 0
        · rw [HST.out.2 h0]
          exact HX.out.2
        · have := congrArg ByteArray.size (HST.out.1 h0)
          have := HX.out.2
          simp only [ByteArray.size_append] at *
          omega
      case measure => simp [intOf]; omega
theorem dec_size (n : Int) (h : n ≤ 9223372036854775807) : (dec n).length ≤ 19 := by
  unfold dec
  split
  · decide
  · exact dec_long _ (by omega)
/-- Numbers in a row that was made. -/
def RowI (w : World) (b : Nat) (l : List Int) : Prop := b < w.heap.size ∧ ∀ i x, l[i]? = some x → w.cell? ⟨b, i, none⟩ = some (.int .i64 x)

set_option maxHeartbeats 1600000 in
theorem joined_any (word : ByteArray) (l : List Int) (n b c : Nat) (X : ByteArray) (w : World) (hX : X = tx (joined word.data.toList l)) (hr : RowI w b l) (hn : l.length = n) (hn2 : n ≤ 10) (hs : word.size ≤ 1000000000000000) (hl : ∀ x ∈ l, -9223372036854775808 ≤ x ∧ x ≤ 9223372036854775807) :
    Calls Tryz.prog 55 #[.string word, .slice (some ⟨b, 0, none⟩) n c] w fun e w' => e = .returned (.string X) ∧ Below w.heap.size w w' := by
  have HX := Lib.hid hX
  have HR := Lib.hid hr
  have HN := Lib.hid hn
  have HL := Lib.hid hl
  clear hX hr hn hl
  go_enter Tryz.func55, Tryz.ntmps55
  go_wp2
  go_loopw [0, 9] (fun o i wr => ∃ (j : Nat) (t : ByteArray), j ≤ n ∧ o = .string t ∧ i = .int .i64 j ∧ t.size ≤ 1000000000000000 + 20 * j ∧ tx (joined t.data.toList (l.drop j)) = X ∧ Below w.heap.size w wr) (fun _ i _ => n - (intOf i).toNat)
  case atStart => exact ⟨0, word, by omega, rfl, rfl, by omega, HX.out.symm, Below.refl _ _⟩
  case round =>
    obtain ⟨j, t, hj, rfl, rfl, hts, hjo, hb⟩ := hrel
    have HB := Lib.hid hb
    have HJ := Lib.hid hjo
    clear hb hjo
    obtain ⟨hbb, hc⟩ := HR.out
    by_cases hlt : j < n
    · have hjl : j < l.length := by have := HN.out; omega
      obtain ⟨x, hx⟩ : ∃ x, l[j]? = some x := ⟨_, List.getElem?_eq_getElem hjl⟩
      have hdrop : l.drop j = x :: l.drop (j + 1) := by
        rw [List.drop_eq_getElem_cons hjl]
        exact congrArg (fun y => y :: l.drop (j + 1)) (Option.some.inj ((List.getElem?_eq_getElem hjl).symm.trans hx))
      have c1 : wr.cell? ⟨b, j, none⟩ = some (.int .i64 x) := (HB.out.cell (p := ⟨b, j, none⟩) hbb).trans (hc j x hx)
      have hxr := HL.out x (List.mem_of_getElem? hx)
      obtain ⟨D, hD⟩ : ∃ D, D = tx (dec x) := ⟨_, rfl⟩
      have hDs : D.size ≤ 19 := by rw [hD, tx_size]; exact dec_size x hxr.2
      have R1 := Lib.hid (fun u => dec_any x D u hD hxr.1 hxr.2)
      have hnx : tx (joined (t ++ (⟨#[32]⟩ ++ D)).data.toList (l.drop (j + 1))) = X := by
        rw [← HJ.out, hdrop, hD]
        show tx _ = tx _
        congr 1
        show joined ((t ++ (tx [32] ++ tx (dec x))).data.toList) _ = t.data.toList ++ 32 :: (dec x ++ tail (l.drop (j + 1)))
        rw [show (t ++ (tx [32] ++ tx (dec x))) = tx (t.data.toList ++ ([32] ++ dec x)) from by rw [tx_append, ← Cel.tx_data t, tx_append]]
        show (t.data.toList ++ ([32] ++ dec x)) ++ tail (l.drop (j + 1)) = _
        simp
      have HNX := Lib.hid hnx
      have g1 : ¬ 9223372036854775807 < (⟨#[32]⟩ : ByteArray).size + D.size := by
        show ¬ 9223372036854775807 < 1 + D.size
        omega
      have g2 : ¬ 9223372036854775807 < t.size + ((⟨#[32]⟩ : ByteArray) ++ D).size := by
        rw [ByteArray.size_append]
        show ¬ 9223372036854775807 < t.size + (1 + D.size)
        omega
      have HDS := Lib.hid hDs
      clear hx hdrop hc hbb hjl hD hnx hxr hDs
      go_wp2_with ((with_reducible (refine (R1.out _).mono ?_; rintro e w2 ⟨rfl, hb2⟩; have HB2 := Lib.hid (HB.out.trans (hb2.mono HB.out.size)); clear hb2 c1)))
      go_roundw
      case rel =>
        refine ⟨j + 1, t ++ (⟨#[32]⟩ ++ D), by omega, rfl, by go_num, ?_, HNX.out, HB2.out⟩
        rw [ByteArray.size_append, ByteArray.size_append]
        show t.size + (1 + D.size) ≤ _
        have := HDS.out
        omega
      case measure => simp [intOf]; omega
    · obtain rfl : j = n := by omega
      have hlt2 : ¬ ((j : Int) < (j : Int)) := by omega
      obtain rfl : t = X := by
        have := HJ.out
        rw [List.drop_eq_nil_of_le (Nat.le_of_eq HN.out)] at this
        rw [← this]
        show t = tx (t.data.toList ++ [])
        rw [List.append_nil, Cel.tx_data]
      clear hc hbb
      go_wp2
      go_ret
      exact ⟨rfl, HB.out⟩
theorem joined_new (word : ByteArray) (l : List Int) (n : Nat) (X : ByteArray) (w : World) (hX : X = tx (joined word.data.toList l)) (hn : l.length = n) (hn2 : n ≤ 10) (hs : word.size ≤ 1000000000000000) (hl : ∀ x ∈ l, -9223372036854775808 ≤ x ∧ x ≤ 9223372036854775807) :
    Calls Tryz.prog 55 #[.string word, .slice (some ⟨w.heap.size, 0, none⟩) n n] (w.alloc (.cells (l.map (Value.int .i64)).toArray 3)) fun e w' => e = .returned (.string X) ∧ Below w.heap.size w w' := by
  refine (joined_any word l n w.heap.size n X _ hX ⟨by simp, fun i x hx => ?_⟩ hn hn2 hs hl).mono ?_
  · exact (Whole.made w 3 (l.map (Value.int .i64))).row.cell (by rw [List.getElem?_map, hx]; rfl)
  · rintro e w' ⟨he, hb⟩
    exact ⟨he, ((Below.refl w.heap.size w).alloc (Nat.le_refl _) _).trans (hb.mono (by simp))⟩

theorem padName_any (a b c d : Int) (X : ByteArray) (w : World) (hX : X = tx (joined [112, 97, 100] [a, b, c, d])) (al : -9223372036854775808 ≤ a) (ah : a ≤ 9223372036854775807) (bl : -9223372036854775808 ≤ b) (bh : b ≤ 9223372036854775807) (cl : -9223372036854775808 ≤ c) (ch : c ≤ 9223372036854775807) (dl : -9223372036854775808 ≤ d) (dh : d ≤ 9223372036854775807) :
    Calls Tryz.prog 31 #[.int .i64 a, .int .i64 b, .int .i64 c, .int .i64 d] w fun e w' => e = .returned (.string X) ∧ Below w.heap.size w w' := by
  have hl : ∀ x ∈ [a, b, c, d], -9223372036854775808 ≤ x ∧ x ≤ 9223372036854775807 := by
    intro x hx
    simp only [List.mem_cons, List.not_mem_nil, or_false] at hx
    rcases hx with rfl | rfl | rfl | rfl
    · exact ⟨al, ah⟩
    · exact ⟨bl, bh⟩
    · exact ⟨cl, ch⟩
    · exact ⟨dl, dh⟩
  have RJ := Lib.hid (show Calls Tryz.prog 55 #[.string ⟨#[112, 97, 100]⟩, .slice (some ⟨w.heap.size, 0, none⟩) 4 4] (w.alloc (.cells #[.int .i64 a, .int .i64 b, .int .i64 c, .int .i64 d] 3)) _ from joined_new ⟨#[112, 97, 100]⟩ [a, b, c, d] 4 X w hX rfl (by decide) (by decide) hl)
  clear hX hl
  go_enter Tryz.func31, Tryz.ntmps31
  go_wp2_with ((with_reducible (refine RJ.out.mono ?_; rintro e w2 ⟨rfl, hb2⟩; have HB := Lib.hid hb2; clear hb2)))
  go_ret
  exact ⟨rfl, HB.out⟩

theorem made_any (w : World) (v : Value) (e : TypeId) (n : Nat) : Row (w.alloc (.cells (madeCells #[v] n) e)) w.heap.size (List.replicate n v) := by
  refine ⟨by simp, fun i u hu => ⟨?_, by simp⟩⟩
  rw [World.cell?_alloc_new]
  rw [← toList_madeCells_one] at hu
  simpa using hu
theorem info_u8 : (Tryz.prog.info? 5).map (fun i => (i.zero, i.size, i.bytes)) = some (some (.int .u8 0), 1, 1) := by kernel_rfl
theorem make_u8 (w : World) (n : Nat) (hn : n ≤ 281474976710656) : (Instr.makeSlice 78 (.int .i64 (n : Int)) (.int .i64 (n : Int))).run Tryz.prog w =
    .ok (.slice (some ⟨w.heap.size, 0, none⟩) n n) (w.alloc (.cells (madeCells #[.int .u8 0] n) 5)) := by
  obtain ⟨i0, hi, hz0, hz1, hz2⟩ := info_parts info_u8
  have h := run_make (P := Tryz.prog) w 78 5 i0 (.int .u8 0) Tryz.underlying78 hi hz0 .i64 .i64 (n : Int) (n : Int) (by omega) (Int.le_refl _) (by rw [hz2]; omega) (by omega)
  simpa [hz1, Value.cells] using h
theorem zeros_conv (w : World) (m : Nat) : (convert 78 9 (.slice (some ⟨w.heap.size, 0, none⟩) m m)).run Tryz.prog (w.alloc (.cells (madeCells #[.int .u8 0] m) 5)) = .ok (.string (tx (List.replicate m 0))) (w.alloc (.cells (madeCells #[.int .u8 0] m) 5)) := by
  have hr := made_any w (.int .u8 0) 5 m
  have e : (List.replicate m (Value.int .u8 0)) = bytesV (List.replicate m 0) := by
    rw [bytesV, List.map_replicate]
    rfl
  rw [e] at hr
  exact string_row hr 78 5 9 Tryz.underlying78 Tryz.underlying5 Tryz.underlying9 m m (by simp)
theorem piece_tx (s : ByteArray) (m : Nat) : s.extract 0 m = tx (s.data.toList.take m) := by
  apply ByteArray.ext
  rw [ByteArray.data_extract]
  apply Array.ext'
  simp

set_option maxHeartbeats 800000 in
theorem fit_wide (s : ByteArray) (n : Int) (X : ByteArray) (w : World) (hX : X = tx (fit s.data.toList n)) (hs : s.size ≤ 140737488351232) :
    Calls Tryz.prog 56 #[.string s, .int .i64 n] w fun e w' => e = .returned (.string X) ∧ Below w.heap.size w w' := by
  obtain ⟨m, hm⟩ : ∃ m : Nat, max 0 (min n 6000) = (m : Int) := ⟨(max 0 (min n 6000)).toNat, by omega⟩
  have hm2 : m ≤ 6000 := by omega
  obtain ⟨Z, hZ⟩ : ∃ Z, Z = tx (List.replicate m 0) := ⟨_, rfl⟩
  have hZs : Z.size = m := by rw [hZ, tx_size, List.length_replicate]
  have hmk : ∀ u, (Instr.makeSlice 78 (.int .i64 (m : Int)) (.int .i64 (m : Int))).run Tryz.prog u = .ok (.slice (some ⟨u.heap.size, 0, none⟩) m m) (u.alloc (.cells (madeCells #[.int .u8 0] m) 5)) := fun u => make_u8 u m (by omega)
  have hcv : ∀ u : World, (convert 78 9 (.slice (some ⟨u.heap.size, 0, none⟩) m m)).run Tryz.prog (u.alloc (.cells (madeCells #[.int .u8 0] m) 5)) = .ok (.string Z) (u.alloc (.cells (madeCells #[.int .u8 0] m) 5)) := fun u => by rw [hZ]; exact zeros_conv u m
  obtain ⟨S, hS⟩ : ∃ S, s ++ Z = S := ⟨_, rfl⟩
  have hSs : m ≤ S.size := by rw [← hS, ByteArray.size_append]; omega
  have hXe : S.extract 0 m = X := by
    rw [hX, ← hS, piece_tx, hZ]
    show tx (((s ++ tx (List.replicate m 0)).data.toList).take m) = tx ((s.data.toList ++ List.replicate (max 0 (min n 6000)).toNat 0).take (max 0 (min n 6000)).toNat)
    have e1 : (max 0 (min n 6000)).toNat = m := by omega
    have e2 : (s ++ tx (List.replicate m 0)) = tx (s.data.toList ++ List.replicate m 0) := by rw [← tx_append, Cel.tx_data]
    rw [e1, e2]
  have hsl : ∀ u, (Instr.slice 9 (.string S) none (some (.int .i64 (m : Int))) none).run Tryz.prog u = .ok (.string X) u := fun u => by
    rw [← hXe]
    exact run_slice_string_h (P := Tryz.prog) u 9 S Tryz.underlying9 .i64 (m : Int) (by omega) (by omega)
  have hbig : ¬ 9223372036854775807 < s.size + Z.size := by omega
  have HB := Lib.hid ((Below.refl w.heap.size w).alloc (Nat.le_refl _) (.cells (madeCells #[.int .u8 0] m) 5))
  clear hX hZ hZs hSs hXe
  go_enter Tryz.func56, Tryz.ntmps56
  go_wp2
  go_ret
  exact ⟨rfl, HB.out⟩
theorem fit_any (s : ByteArray) (n : Int) (X : ByteArray) (w : World) (hX : X = tx (fit s.data.toList n)) (hs : s.size ≤ 1000000000) :
    Calls Tryz.prog 56 #[.string s, .int .i64 n] w fun e w' => e = .returned (.string X) ∧ Below w.heap.size w w' := fit_wide s n X w hX (Nat.le_trans hs (by decide))
end Go.Proofs.YtolmfimpaofefaaGreatDoor.RTap

namespace Go.Proofs.YtolmfimpaofefaaGreatDoor.RTap
open Go.RowKit Mur Prt Tap Cel
set_option maxRecDepth 100000
set_option linter.unusedSimpArgs false

/-- What is got: the bytes, and whether there are any. -/
def gotX (r : Option (List UInt8)) : ByteArray := match r with
  | some s => tx s
  | none => ⟨#[]⟩
theorem get_cons (c : C) (l : List C) (n : List UInt8) : get (c :: l) n = if c.1 = n then some c.2 else get l n := rfl
theorem toC_drop (l : List K) (j : Nat) (x : K) (h : l[j]? = some x) : toC (l.drop j) = (x.1.data.toList, x.2.data.toList) :: toC (l.drop (j + 1)) := by
  have hj := (List.getElem?_eq_some_iff.1 h).1
  rw [List.drop_eq_getElem_cons hj, (List.getElem?_eq_some_iff.1 h).2]
  rfl
theorem toC_done (l : List K) (n : Nat) (h : l.length = n) : toC (l.drop n) = [] := by
  rw [List.drop_eq_nil_of_le (Nat.le_of_eq h)]
  rfl

set_option maxHeartbeats 1600000 in
theorem get_any (l : List K) (n : Nat) (a : Option Addr) (c : Nat) (nm X : ByteArray) (B : Bool) (w : World) (hX : X = gotX (get (toC l) nm.data.toList)) (hB : B = (get (toC l) nm.data.toList).isSome) (hr : CelR w a l) (hn : l.length = n) (hn2 : n ≤ 1000000) :
    Calls Tryz.prog 32 #[.slice a n c, .string nm] w fun e w' => e = .returned (.tuple #[.string X, .bool B]) ∧ Below w.heap.size w w' := by
  have HX := Lib.hid (And.intro hX hB)
  have HR := Lib.hid hr
  have HN := Lib.hid hn
  clear hX hB hr hn
  go_enter Tryz.func32, Tryz.ntmps32
  go_wp2
  go_loopw [10] (fun i wr => ∃ j : Nat, j ≤ n ∧ i = .int .i64 j ∧ get (toC l) nm.data.toList = get (toC (l.drop j)) nm.data.toList ∧ Below w.heap.size w wr) (fun i _ => n - (intOf i).toNat)
  case atStart => exact ⟨0, by omega, rfl, rfl, Below.refl _ _⟩
  case round =>
    obtain ⟨j, hj, rfl, hg, hb⟩ := hrel
    have HB := Lib.hid hb
    have HG := Lib.hid hg
    clear hb hg
    by_cases hlt : j < n
    · have hjl : j < l.length := by have := HN.out; omega
      obtain ⟨g, o, rfl, hgb, hc⟩ := HR.out (by omega)
      obtain ⟨⟨A, D⟩, hx⟩ : ∃ x, l[j]? = some x := ⟨_, List.getElem?_eq_getElem hjl⟩
      have c1 : wr.cell? ⟨g, o + j * 2, none⟩ = some (.string A) := (HB.out.cell (p := ⟨g, o + j * 2, none⟩) hgb).trans (hc j _ hx).1
      have c2 : wr.cell? ⟨g, o + j * 2 + 1, none⟩ = some (.string D) := (HB.out.cell (p := ⟨g, o + j * 2 + 1, none⟩) hgb).trans (hc j _ hx).2
      have hg2 := HG.out
      rw [toC_drop l j _ hx, get_cons] at hg2
      have HB2 := Lib.hid (HB.out.alloc HB.out.size (.cells #[.string A, .string D] 51))
      by_cases he : A.data.toList = nm.data.toList
      · rw [if_pos he] at hg2
        obtain ⟨rfl, rfl⟩ : X = D ∧ B = true := by
          rw [HX.out.1, HX.out.2, hg2]
          exact ⟨Cel.tx_data D, rfl⟩
        have hq := eql_yes A nm he
        clear hjl hgb hc hx he hg2
        go_wp2
        go_ret2
        exact ⟨rfl, HB2.out⟩
      · rw [if_neg he] at hg2
        have HG2 := Lib.hid hg2
        have hq := eql_no A nm he
        clear hjl hgb hc hx he hg2
        go_wp2
        go_roundw
        case rel => exact ⟨j + 1, by omega, by go_num, HG2.out, HB2.out⟩
        case measure => simp [intOf]; omega
    · obtain rfl : j = n := by omega
      have hlt2 : ¬ ((j : Int) < (j : Int)) := by omega
      obtain ⟨rfl, rfl⟩ : X = ⟨#[]⟩ ∧ B = false := by
        rw [HX.out.1, HX.out.2, HG.out, toC_done l j HN.out]
        exact ⟨rfl, rfl⟩
      go_wp2
      go_ret2
      exact ⟨rfl, HB.out⟩

theorem putF_cons (n s : List UInt8) (d : Bool) (c : C) (l : List C) : putF n s d (c :: l) = if c.1 = n then (if d = true then putF n s true l else (n, s) :: putF n s true l) else c :: putF n s d l := rfl
theorem toC_snoc (acc : List K) (A D : ByteArray) : toC (acc ++ [(A, D)]) = toC acc ++ [(A.data.toList, D.data.toList)] := toC_append acc [(A, D)]

set_option maxHeartbeats 3200000 in
theorem put_any (l : List K) (n : Nat) (a : Option Addr) (c : Nat) (nm s : ByteArray) (L : List C) (N : Nat) (w : World) (hL : L = put (toC l) nm.data.toList s.data.toList) (hN : L.length = N) (hr : CelR w a l) (hn : l.length = n) (hn2 : n ≤ 1000000) :
    Calls Tryz.prog 35 #[.slice a n c, .string nm, .string s] w fun e w' => ∃ ao co, e = .returned (.slice ao N co) ∧ CelR w' ao (ofC L) ∧ (∀ q, ao = some q → w.heap.size ≤ q.block) ∧ Below w.heap.size w w' := by
  have HL := Lib.hid (And.intro hL hN)
  have HR := Lib.hid hr
  have HN := Lib.hid hn
  clear hL hN hr hn
  have hb0 : Tryz.prog.built 51 [(0, .string nm), (1, .string s)] = some #[.string nm, .string s] := by kernel_rfl
  go_enter Tryz.func35, Tryz.ntmps35
  go_wp2
  go_loopw [7, 8, 13] (fun ov dv i wr => ∃ (j m : Nat) (acc : List K) (d : Bool), j ≤ n ∧ dv = .bool d ∧ i = .int .i64 j ∧ m ≤ j ∧ wr.ownsRow w.heap.size 51 2 ov m (cellsV acc) ∧ L = toC acc ++ putF nm.data.toList s.data.toList d (toC (l.drop j)) ∧ Below w.heap.size w wr) (fun _ _ i _ => n - (intOf i).toNat)
  case atStart => exact ⟨0, 0, [], false, by omega, rfl, rfl, Nat.le_refl _, own_start w _, HL.out.1, Below.refl _ _⟩
  case round =>
    obtain ⟨j, m, acc, d, hj, rfl, rfl, hm, hown, hg, hb⟩ := hrel
    have HB := Lib.hid hb
    have HG := Lib.hid hg
    have HO := Lib.hid hown
    clear hb hg hown
    by_cases hlt : j < n
    · have hjl : j < l.length := by have := HN.out; omega
      obtain ⟨g, o, rfl, hgb, hc⟩ := HR.out (by omega)
      obtain ⟨⟨A, D⟩, hx⟩ : ∃ x, l[j]? = some x := ⟨_, List.getElem?_eq_getElem hjl⟩
      have c1 : wr.cell? ⟨g, o + j * 2, none⟩ = some (.string A) := (HB.out.cell (p := ⟨g, o + j * 2, none⟩) hgb).trans (hc j _ hx).1
      have c2 : wr.cell? ⟨g, o + j * 2 + 1, none⟩ = some (.string D) := (HB.out.cell (p := ⟨g, o + j * 2 + 1, none⟩) hgb).trans (hc j _ hx).2
      have hg2 := HG.out
      rw [toC_drop l j _ hx, putF_cons] at hg2
      have HB2 := Lib.hid (HB.out.alloc HB.out.size (.cells #[.string A, .string D] 51))
      have HO2 := Lib.hid (Strs.own_below HO.out ((Below.refl wr.heap.size wr).alloc (Nat.le_refl _) (.cells #[.string A, .string D] 51)))
      by_cases he : A.data.toList = nm.data.toList
      · rw [if_pos he] at hg2
        have hq := eql_yes A nm he
        have hq2 : (!(A.toList == nm.toList)) = false := by rw [hq]; rfl
        cases d with
        | true =>
          rw [if_pos rfl] at hg2
          have HG2 := Lib.hid hg2
          clear hjl hgb hc hx he hg2
          go_wp2
          go_roundw
          case rel => exact ⟨j + 1, m, acc, true, by omega, rfl, by go_num, by omega, HO2.out, HG2.out, HB2.out⟩
          case measure => simp [intOf]; omega
        | false =>
          rw [if_neg (by decide)] at hg2
          have HG2 := Lib.hid (show L = toC (acc ++ [(nm, s)]) ++ putF nm.data.toList s.data.toList true (toC (l.drop (j + 1))) from by rw [hg2, toC_snoc]; simp)
          clear hjl hgb hc hx he hg2
          go_upto_region 9 with (fail)
          generalize wr.alloc (.cells #[.string A, .string D] 51) = w2 at *
          have HB3 := Lib.hid (HB2.out.alloc HB2.out.size (.cells #[.string nm, .string s] 51))
          have HO3 := Lib.hid (Strs.own_below HO2.out ((Below.refl w2.heap.size w2).alloc (Nat.le_refl _) (.cells #[.string nm, .string s] 51)))
          go_wp2_with (at_builtin; refine append_cel rfl _ _ rfl w.heap.size m _ acc rfl HO3.out w2.heap.size 1 (nm, s) rfl (new_cel w2 (nm, s) _) (by omega) HB3.out.size ?_; intro v' w4 hown4 hgrow4)
          have HO4 := Lib.hid hown4
          have HB4 := Lib.hid (HB3.out.grown hgrow4 HB3.out.size (fun q hq => (HO3.out.lt q hq).1))
          clear hown4 hgrow4
          go_wp2
          go_roundw
          case rel => exact ⟨j + 1, m + 1, acc ++ [(nm, s)], true, by omega, rfl, by go_num, by omega, HO4.out, HG2.out, HB4.out⟩
          case measure => simp [intOf]; omega
      · rw [if_neg he] at hg2
        have HG2 := Lib.hid (show L = toC (acc ++ [(A, D)]) ++ putF nm.data.toList s.data.toList d (toC (l.drop (j + 1))) from by rw [hg2, toC_snoc]; simp)
        have hq := eql_no A nm he
        have hq2 : (!(A.toList == nm.toList)) = true := by rw [hq]; rfl
        clear hjl hgb hc hx he hg2
        go_upto_region 7 with (fail)
        have hcA : (wr.alloc (.cells #[.string A, .string D] 51)).cell? ⟨wr.heap.size, 0, none⟩ = some (.string A) := new_cel wr (A, D) _ 0 _ rfl
        have hcD : (wr.alloc (.cells #[.string A, .string D] 51)).cell? ⟨wr.heap.size, 1, none⟩ = some (.string D) := new_cel wr (A, D) _ 1 _ rfl
        obtain ⟨z, hz⟩ : ∃ z, z = wr.heap.size := ⟨_, rfl⟩
        rw [← hz] at hcA hcD ⊢
        generalize wr.alloc (.cells #[.string A, .string D] 51) = w2 at *
        have HB3 := Lib.hid (HB2.out.alloc HB2.out.size (.cells #[.string A, .string D] 51))
        have HO3 := Lib.hid (Strs.own_below HO2.out ((Below.refl w2.heap.size w2).alloc (Nat.le_refl _) (.cells #[.string A, .string D] 51)))
        clear hz
        go_wp2_with (at_builtin; refine append_cel rfl _ _ rfl w.heap.size m _ acc rfl HO3.out w2.heap.size 1 (A, D) rfl (new_cel w2 (A, D) _) (by omega) HB3.out.size ?_; intro v' w4 hown4 hgrow4)
        have HO4 := Lib.hid hown4
        have HB4 := Lib.hid (HB3.out.grown hgrow4 HB3.out.size (fun q hq => (HO3.out.lt q hq).1))
        clear hown4 hgrow4
        go_wp2
        go_roundw
        case rel => exact ⟨j + 1, m + 1, acc ++ [(A, D)], d, by omega, rfl, by go_num, by omega, HO4.out, HG2.out, HB4.out⟩
        case measure => simp [intOf]; omega
    · obtain rfl : j = n := by omega
      have hlt2 : ¬ ((j : Int) < (j : Int)) := by omega
      have hg2 := HG.out
      rw [toC_done l j HN.out] at hg2
      cases d with
      | true =>
        have hfin : L = toC acc := by rw [hg2]; show toC acc ++ [] = _; rw [List.append_nil]
        obtain ⟨ao, co, rfl, hlen, hcel, hfr⟩ := own_cel HO.out
        obtain rfl : m = N := by rw [← HL.out.2, hfin, toC_length]; exact hlen
        have HC := Lib.hid (show CelR wr ao (ofC L) from by rw [hfin, ofC_toC]; exact hcel)
        have HF := Lib.hid hfr
        clear hfin hlen hcel hfr hg2
        go_wp2
        go_ret
        exact ⟨ao, ⟨co, rfl⟩, HC.out, HF.out, HB.out⟩
      | false =>
        have hfin : L = toC (acc ++ [(nm, s)]) := by rw [hg2, toC_snoc]; rfl
        have HFN := Lib.hid hfin
        clear hg2 hfin
        go_upto_region 13 with (fail)
        have HB3 := Lib.hid (HB.out.alloc HB.out.size (.cells #[.string nm, .string s] 51))
        have HO3 := Lib.hid (Strs.own_below HO.out ((Below.refl wr.heap.size wr).alloc (Nat.le_refl _) (.cells #[.string nm, .string s] 51)))
        go_wp2_with (at_builtin; refine append_cel rfl _ _ rfl w.heap.size m _ acc rfl HO3.out wr.heap.size 1 (nm, s) rfl (new_cel wr (nm, s) _) (by omega) HB3.out.size ?_; intro v' w4 hown4 hgrow4)
        have HB4 := Lib.hid (HB3.out.grown hgrow4 HB3.out.size (fun q hq => (HO3.out.lt q hq).1))
        obtain ⟨ao, co, rfl, hlen, hcel, hfr⟩ := own_cel hown4
        obtain rfl : m + 1 = N := by rw [← HL.out.2, HFN.out, toC_length]; exact hlen
        have HC := Lib.hid (show CelR w4 ao (ofC L) from by rw [HFN.out, ofC_toC]; exact hcel)
        have HF := Lib.hid hfr
        clear hown4 hgrow4 hlen hcel hfr
        go_wp2
        go_ret
        exact ⟨ao, ⟨co, rfl⟩, HC.out, HF.out, HB4.out⟩
end Go.Proofs.YtolmfimpaofefaaGreatDoor.RTap

namespace Go.Proofs.YtolmfimpaofefaaGreatDoor.RTap
open Go.RowKit Mur Prt Tap Cel
set_option maxRecDepth 100000
set_option linter.unusedSimpArgs false

/-- A slice of texts as it is read. -/
def StrsR (w : World) (a : Option Addr) (l : List ByteArray) : Prop := l.length ≠ 0 → ∃ b o, a = some ⟨b, o, none⟩ ∧ b < w.heap.size ∧ ∀ i x, l[i]? = some x → w.cell? ⟨b, o + i, none⟩ = some (.string x)
theorem StrsR.below {w w' : World} {a : Option Addr} {l : List ByteArray} (h : StrsR w a l) (k : Below w.heap.size w w') : StrsR w' a l := fun hl => by
  obtain ⟨b, o, ha, hb, hc⟩ := h hl
  exact ⟨b, o, ha, Nat.lt_of_lt_of_le hb k.size, fun i x hx => (k.cell (p := ⟨b, o + i, none⟩) hb).trans (hc i x hx)⟩
def ofT (l : List (List UInt8)) : List ByteArray := l.map tx
def toT (l : List ByteArray) : List (List UInt8) := l.map fun s => s.data.toList
end Go.Proofs.YtolmfimpaofefaaGreatDoor.RTap

namespace Go.Proofs.YtolmfimpaofefaaGreatDoor.RTap
open Go.RowKit Mur Prt Lanes Tap Cel
/-- What is told of an outcome in bytes. -/
def outX (r : Except Nat (List UInt8)) : ByteArray := match r with
  | .ok a => tx a
  | .error _ => ⟨#[]⟩
def outE {α : Type} (r : Except Nat α) : Int := match r with
  | .ok _ => 0
  | .error e => e
end Go.Proofs.YtolmfimpaofefaaGreatDoor.RTap

namespace Go.Proofs.YtolmfimpaofefaaGreatDoor.RTap
open Go.RowKit Mur Prt Lanes Tap Cel
set_option maxRecDepth 100000
set_option linter.unusedSimpArgs false

/-- What a cut answers. -/
def cutA (r : Option (List UInt8 × List UInt8)) : ByteArray := match r with
  | some x => tx x.1
  | none => ⟨#[]⟩
def cutB (r : Option (List UInt8 × List UInt8)) : ByteArray := match r with
  | some x => tx x.2
  | none => ⟨#[]⟩
/-- What is told of an outcome in cells. -/
def outL (r : Except Nat (List C)) : List C := match r with
  | .ok l => l
  | .error _ => []
def lenOf (v : Value) : Nat := match v with
  | .string b => b.size
  | _ => 0
end Go.Proofs.YtolmfimpaofefaaGreatDoor.RTap

namespace Go.Proofs.YtolmfimpaofefaaGreatDoor.Tape
open Go.RowKit Mur Prt Lanes Tap Cel RTap
set_option maxRecDepth 100000
set_option linter.unusedSimpArgs false

/-- The table of powers of ten lies in its variable. -/
def Pow (w : World) : Prop := Lib.TabIs Tryz.prog w "internal/strconv.uint64pow10" .u64 Lib.pow10Tab
theorem Pow.below {w w' : World} (h : Pow w) (k : Below w.heap.size w w') : Pow w' := Lib.tabBelow_of_tabIs h w' k
theorem digits_lib (n : Nat) : Lib.decDigits n = digits n := by
  induction n using Nat.strongRecOn with
  | ind n ih =>
    by_cases h : n < 10
    · rw [Lib.decDigits, dif_pos h, digits_low n h]
    · rw [Lib.decDigits, dif_neg h, digits_high n h, ih (n / 10) (by omega)]
theorem itoa_dec (n : Int) (m : Nat) (h : max n 0 = (m : Int)) : Lib.itoa (m : Int) = dec n := by
  rw [Lib.itoa_nonneg, digits_lib, ← dec_nat, dec, dec]
  by_cases hn : n < 1
  · rw [if_pos hn, if_pos (by omega)]
  · rw [if_neg hn, if_neg (by omega)]
    congr 1
    omega
theorem below_grow (w : World) (k : Nat) (os : Array Obj) : Below w.heap.size w (Sort.grow (w.drewN k) os) :=
  ⟨rfl, rfl, rfl, by rw [Sort.size_grow]; exact Nat.le_add_right _ _, fun j hj => Sort.heap_grow_old (w.drewN k) os hj⟩

set_option maxHeartbeats 1600000 in
theorem dec_any (n : Int) (X : ByteArray) (w : World) (hX : X = tx (dec n)) (h1 : -9223372036854775808 ≤ n) (h2 : n ≤ 9223372036854775807) (hp : Pow w) :
    Calls Tryz.prog 29 #[.int .i64 n] w fun e w' => e = .returned (.string X) ∧ Below w.heap.size w w' := by
  obtain ⟨m, hm⟩ : ∃ m : Nat, max n 0 = (m : Int) := ⟨(max n 0).toNat, by omega⟩
  have R := Lib.hid (Tryz.strconv_Itoa (m : Int) (by omega) (by omega) w hp)
  have hq : (⟨(Lib.itoa (m : Int)).toArray⟩ : ByteArray) = X := by rw [hX, itoa_dec n m hm]
  rw [hq] at R
  clear hq hX h1 h2 hp
  go_enter Tryz.func29, Tryz.ntmps29
  go_wp2_with ((with_reducible refine R.out.mono ?_); rintro e w2 ⟨rfl, k, os, rfl⟩)
  go_ret
  exact ⟨rfl, below_grow w k os⟩
end Go.Proofs.YtolmfimpaofefaaGreatDoor.Tape

namespace Go.Proofs.YtolmfimpaofefaaGreatDoor.Tape
open Go.RowKit Mur Prt Lanes Tap Cel RTap
set_option maxRecDepth 100000
set_option linter.unusedSimpArgs false

set_option maxHeartbeats 1600000 in
theorem named_any (word : ByteArray) (l : List Int) (n b c : Nat) (X : ByteArray) (w : World) (hX : X = tx (joined word.data.toList l)) (hr : RowI w b l) (hn : l.length = n) (hn2 : n ≤ 10) (hs : word.size ≤ 1000000000000000) (hl : ∀ x ∈ l, -9223372036854775808 ≤ x ∧ x ≤ 9223372036854775807) (hp : Pow w) :
    Calls Tryz.prog 48 #[.string word, .slice (some ⟨b, 0, none⟩) n c] w fun e w' => e = .returned (.string X) ∧ Below w.heap.size w w' := by
  have HX := Lib.hid hX
  have HR := Lib.hid hr
  have HN := Lib.hid hn
  have HL := Lib.hid hl
  have HP := Lib.hid hp
  clear hX hr hn hl hp
  go_enter Tryz.func48, Tryz.ntmps48
  go_wp2
  go_loopw [0, 9] (fun o i wr => ∃ (j : Nat) (t : ByteArray), j ≤ n ∧ o = .string t ∧ i = .int .i64 j ∧ t.size ≤ 1000000000000000 + 20 * j ∧ tx (joined t.data.toList (l.drop j)) = X ∧ Below w.heap.size w wr) (fun _ i _ => n - (intOf i).toNat)
  case atStart => exact ⟨0, word, by omega, rfl, rfl, by omega, HX.out.symm, Below.refl _ _⟩
  case round =>
    obtain ⟨j, t, hj, rfl, rfl, hts, hjo, hb⟩ := hrel
    have HB := Lib.hid hb
    have HJ := Lib.hid hjo
    clear hb hjo
    obtain ⟨hbb, hc⟩ := HR.out
    by_cases hlt : j < n
    · have hjl : j < l.length := by have := HN.out; omega
      obtain ⟨x, hx⟩ : ∃ x, l[j]? = some x := ⟨_, List.getElem?_eq_getElem hjl⟩
      have hdrop : l.drop j = x :: l.drop (j + 1) := by
        rw [List.drop_eq_getElem_cons hjl]
        exact congrArg (fun y => y :: l.drop (j + 1)) (Option.some.inj ((List.getElem?_eq_getElem hjl).symm.trans hx))
      have c1 : wr.cell? ⟨b, j, none⟩ = some (.int .i64 x) := (HB.out.cell (p := ⟨b, j, none⟩) hbb).trans (hc j x hx)
      have hxr := HL.out x (List.mem_of_getElem? hx)
      obtain ⟨D, hD⟩ : ∃ D, D = tx (dec x) := ⟨_, rfl⟩
      have hDs : D.size ≤ 19 := by rw [hD, tx_size]; exact dec_size x hxr.2
      have R1 := Lib.hid (dec_any x D wr hD hxr.1 hxr.2 (HP.out.below HB.out))
      have hnx : tx (joined (t ++ (⟨#[32]⟩ ++ D)).data.toList (l.drop (j + 1))) = X := by
        rw [← HJ.out, hdrop, hD]
        show tx _ = tx _
        congr 1
        show joined ((t ++ (tx [32] ++ tx (dec x))).data.toList) _ = t.data.toList ++ 32 :: (dec x ++ tail (l.drop (j + 1)))
        rw [show (t ++ (tx [32] ++ tx (dec x))) = tx (t.data.toList ++ ([32] ++ dec x)) from by rw [tx_append, ← Cel.tx_data t, tx_append]]
        show (t.data.toList ++ ([32] ++ dec x)) ++ tail (l.drop (j + 1)) = _
        simp
      have HNX := Lib.hid hnx
      have g1 : ¬ 9223372036854775807 < (⟨#[32]⟩ : ByteArray).size + D.size := by
        show ¬ 9223372036854775807 < 1 + D.size
        omega
      have g2 : ¬ 9223372036854775807 < t.size + ((⟨#[32]⟩ : ByteArray) ++ D).size := by
        rw [ByteArray.size_append]
        show ¬ 9223372036854775807 < t.size + (1 + D.size)
        omega
      have HDS := Lib.hid hDs
      clear hx hdrop hc hbb hjl hD hnx hxr hDs
      go_wp2_with ((with_reducible (refine R1.out.mono ?_; rintro e w2 ⟨rfl, hb2⟩; have HB2 := Lib.hid (HB.out.trans (hb2.mono HB.out.size)); clear hb2 c1)))
      go_roundw
      case rel =>
        refine ⟨j + 1, t ++ (⟨#[32]⟩ ++ D), by omega, rfl, by go_num, ?_, HNX.out, HB2.out⟩
        rw [ByteArray.size_append, ByteArray.size_append]
        show t.size + (1 + D.size) ≤ _
        have := HDS.out
        omega
      case measure => simp [intOf]; omega
    · obtain rfl : j = n := by omega
      have hlt2 : ¬ ((j : Int) < (j : Int)) := by omega
      obtain rfl : t = X := by
        have := HJ.out
        rw [List.drop_eq_nil_of_le (Nat.le_of_eq HN.out)] at this
        rw [← this]
        show t = tx (t.data.toList ++ [])
        rw [List.append_nil, Cel.tx_data]
      clear hc hbb
      go_wp2
      go_ret
      exact ⟨rfl, HB.out⟩

theorem named_new (word : ByteArray) (l : List Int) (n : Nat) (X : ByteArray) (w : World) (hX : X = tx (joined word.data.toList l)) (hn : l.length = n) (hn2 : n ≤ 10) (hs : word.size ≤ 1000000000000000) (hl : ∀ x ∈ l, -9223372036854775808 ≤ x ∧ x ≤ 9223372036854775807) (hp : Pow w) :
    Calls Tryz.prog 48 #[.string word, .slice (some ⟨w.heap.size, 0, none⟩) n n] (w.alloc (.cells (l.map (Value.int .i64)).toArray 3)) fun e w' => e = .returned (.string X) ∧ Below w.heap.size w w' := by
  refine (named_any word l n w.heap.size n X _ hX ⟨by simp, fun i x hx => ?_⟩ hn hn2 hs hl (hp.below ((Below.refl w.heap.size w).alloc (Nat.le_refl _) _))).mono ?_
  · exact (Whole.made w 3 (l.map (Value.int .i64))).row.cell (by rw [List.getElem?_map, hx]; rfl)
  · rintro e w' ⟨he, hb⟩
    exact ⟨he, ((Below.refl w.heap.size w).alloc (Nat.le_refl _) _).trans (hb.mono (by simp))⟩

theorem padName_any (a b c d : Int) (X : ByteArray) (w : World) (hX : X = tx (joined [112, 97, 100] [a, b, c, d])) (al : -9223372036854775808 ≤ a) (ah : a ≤ 9223372036854775807) (bl : -9223372036854775808 ≤ b) (bh : b ≤ 9223372036854775807) (cl : -9223372036854775808 ≤ c) (ch : c ≤ 9223372036854775807) (dl : -9223372036854775808 ≤ d) (dh : d ≤ 9223372036854775807) (hp : Pow w) :
    Calls Tryz.prog 24 #[.int .i64 a, .int .i64 b, .int .i64 c, .int .i64 d] w fun e w' => e = .returned (.string X) ∧ Below w.heap.size w w' := by
  have hl : ∀ x ∈ [a, b, c, d], -9223372036854775808 ≤ x ∧ x ≤ 9223372036854775807 := by
    intro x hx
    simp only [List.mem_cons, List.not_mem_nil, or_false] at hx
    rcases hx with rfl | rfl | rfl | rfl
    · exact ⟨al, ah⟩
    · exact ⟨bl, bh⟩
    · exact ⟨cl, ch⟩
    · exact ⟨dl, dh⟩
  have RJ := Lib.hid (show Calls Tryz.prog 48 #[.string ⟨#[112, 97, 100]⟩, .slice (some ⟨w.heap.size, 0, none⟩) 4 4] (w.alloc (.cells #[.int .i64 a, .int .i64 b, .int .i64 c, .int .i64 d] 3)) _ from named_new ⟨#[112, 97, 100]⟩ [a, b, c, d] 4 X w hX rfl (by decide) (by decide) hl hp)
  clear hX hl hp
  go_enter Tryz.func24, Tryz.ntmps24
  go_wp2_with ((with_reducible (refine RJ.out.mono ?_; rintro e w2 ⟨rfl, hb2⟩; have HB := Lib.hid hb2; clear hb2)))
  go_ret
  exact ⟨rfl, HB.out⟩

end Go.Proofs.YtolmfimpaofefaaGreatDoor.Tape

namespace Go.Proofs.YtolmfimpaofefaaGreatDoor.Tape
open Go.RowKit Mur Prt Lanes Tap Cel RTap
set_option maxRecDepth 100000
set_option linter.unusedSimpArgs false

/-- The place of the first cell of which the test holds, or -1. -/
def place (p : K → Bool) : List K → Int
  | [] => -1
  | x :: l => if p x = true then 0 else if place p l < 0 then -1 else place p l + 1
theorem place_cases (p : K → Bool) (l : List K) : (place p l = -1 ∧ ∀ x ∈ l, p x = false) ∨ ∃ (k : Nat) (x : K), place p l = (k : Int) ∧ k < l.length ∧ l[k]? = some x ∧ p x = true ∧ ∀ y ∈ l.take k, p y = false := by
  induction l with
  | nil => exact .inl ⟨rfl, fun x hx => by cases hx⟩
  | cons x l ih =>
    unfold place
    by_cases hx : p x = true
    · rw [if_pos hx]
      exact .inr ⟨0, x, rfl, by simp, rfl, hx, fun y hy => by simp at hy⟩
    · rw [if_neg hx]
      have hxf : p x = false := by simpa using hx
      rcases ih with ⟨h1, h2⟩ | ⟨k, z, h1, h2, h3, h4, h5⟩
      · rw [h1, if_pos (by decide)]
        refine .inl ⟨rfl, fun y hy => ?_⟩
        rcases List.mem_cons.1 hy with rfl | hy
        · exact hxf
        · exact h2 y hy
      · rw [h1, if_neg (by omega)]
        refine .inr ⟨k + 1, z, by omega, by rw [List.length_cons]; omega, by simpa using h3, h4, fun y hy => ?_⟩
        rw [List.take_succ_cons] at hy
        rcases List.mem_cons.1 hy with rfl | hy
        · exact hxf
        · exact h5 y hy
theorem place_at (p : K → Bool) (l : List K) (j : Nat) (x : K) (h0 : (l.take j).any p = false) (hx : l[j]? = some x) (hp : p x = true) : place p l = (j : Int) := by
  induction l generalizing j with
  | nil => simp at hx
  | cons y l ih =>
    unfold place
    cases j with
    | zero =>
      simp at hx
      subst hx
      rw [if_pos hp]
      rfl
    | succ j =>
      rw [List.take_succ_cons, List.any_cons, Bool.or_eq_false_iff] at h0
      rw [if_neg (by rw [h0.1]; decide), ih j h0.2 (by simpa using hx), if_neg (by omega)]
      omega
theorem place_none (p : K → Bool) (l : List K) (h : l.any p = false) : place p l = -1 := by
  induction l with
  | nil => rfl
  | cons y l ih =>
    rw [List.any_cons, Bool.or_eq_false_iff] at h
    rw [place, if_neg (by rw [h.1]; decide), ih h.2, if_pos (by decide)]

set_option maxHeartbeats 1600000 in
theorem indexfunc_any (l : List K) (p : K → Bool) (z : Int) (kf : Nat) (caps : Array Value) (n : Nat) (a : Option Addr) (c : Nat) (w : World) (hz : z = place p l) (hn : l.length = n) (hn2 : n ≤ 1000000) (ha : CelR w a l) (hE : Enters Tryz.prog kf)
    (hk : ∀ x ∈ l, ∀ u, Below w.heap.size w u → Calls Tryz.prog kf (#[.agg #[.string x.1, .string x.2]] ++ caps) u fun e w' => e = .returned (.bool (p x)) ∧ Below u.heap.size u w') :
    Calls Tryz.prog 75 #[.slice a n c, .func (.func kf) #[] caps] w fun e w' => e = .returned (.int .i64 z) ∧ Below w.heap.size w w' := by
  have HA := Lib.hid ha
  have HN := Lib.hid hn
  have HK := Lib.hid hk
  have HZ := Lib.hid hz
  clear ha hn hk hz
  go_enter Tryz.func75, Tryz.ntmps75
  go_wp2
  go_loopw [8] (fun i wr => ∃ j : Nat, j ≤ n ∧ i = .int .i64 j ∧ (l.take j).any p = false ∧ Below w.heap.size w wr) (fun i _ => n - (intOf i).toNat)
  case atStart => exact ⟨0, by omega, rfl, rfl, Below.refl _ _⟩
  case round =>
    obtain ⟨j, hj, rfl, hno, hbel⟩ := hrel
    have HW := Lib.hid hbel
    have HNO := Lib.hid hno
    clear hbel hno
    by_cases hlt : j < n
    · have hjl : j < l.length := by have := HN.out; omega
      obtain ⟨g, o, rfl, hgb, hgc⟩ := HA.out (by omega)
      obtain ⟨x, hx⟩ : ∃ x, l[j]? = some x := ⟨_, List.getElem?_eq_getElem hjl⟩
      obtain ⟨xa, xd⟩ := x
      have c1 : wr.cell? ⟨g, o + j * 2, none⟩ = some (.string xa) := (HW.out.cell (p := ⟨g, o + j * 2, none⟩) hgb).trans (hgc j _ hx).1
      have c2 : wr.cell? ⟨g, o + j * 2 + 1, none⟩ = some (.string xd) := (HW.out.cell (p := ⟨g, o + j * 2 + 1, none⟩) hgb).trans (hgc j _ hx).2
      have R1 := Lib.hid (HK.out _ (List.mem_of_getElem? hx) wr HW.out)
      have HX := Lib.hid hx
      have he : ∀ u, (callFunc kf (#[.agg #[.string xa, .string xd]] ++ caps)).run Tryz.prog u = .ok (.enter kf (#[.agg #[.string xa, .string xd]] ++ caps)) u := fun u => hE _ u
      clear hjl hx hgb hgc
      go_wp2_with fail
      clear he
      refine R1.out.mono ?_
      rintro e w3 ⟨rfl, hb3⟩
      have HW3 := Lib.hid (HW.out.trans (hb3.mono HW.out.size))
      clear hb3 R1 c1 c2
      cases hp : p (xa, xd) with
      | false =>
        have hnx : (l.take (j + 1)).any p = false := by
          rw [List.take_add_one, HX.out, List.any_append, HNO.out]
          simp [hp]
        clear hp
        go_wp2
        go_roundw
        case rel => exact ⟨j + 1, by omega, by go_num, hnx, HW3.out⟩
        case measure => simp [intOf]; omega
      | true =>
        obtain rfl : z = (j : Int) := by rw [HZ.out, place_at p l j _ HNO.out HX.out hp]
        clear hp
        go_wp2
        go_ret
        exact ⟨rfl, HW3.out⟩
    · obtain rfl : j = n := by omega
      have ht : l.any p = false := by have := HNO.out; rwa [List.take_of_length_le (by have := HN.out; omega)] at this
      obtain rfl : z = -1 := by rw [HZ.out, place_none p l ht]
      clear ht
      go_wp2
      go_ret
      exact ⟨rfl, HW.out⟩

/-- The test of find. -/
def same (nm : ByteArray) (x : K) : Bool := x.1.toList == nm.toList
theorem same_iff (nm : ByteArray) (x : K) : same nm x = true ↔ x.1.data.toList = nm.data.toList := eql_iff _ _
theorem same_no (nm : ByteArray) (x : K) (h : same nm x = false) : x.1.data.toList ≠ nm.data.toList := fun e => by
  rw [(same_iff nm x).2 e] at h
  cases h
theorem find1_any (x : K) (nm : ByteArray) (b : Nat) (w : World) (hb : b < w.heap.size) (hc : w.cell? ⟨b, 0, none⟩ = some (.string nm)) :
    Calls Tryz.prog 76 #[.agg #[.string x.1, .string x.2], .pointer (some ⟨b, 0, none⟩)] w fun e w' => e = .returned (.bool (same nm x)) ∧ Below w.heap.size w w' := by
  obtain ⟨A, D⟩ := x
  obtain ⟨B, hB⟩ : ∃ B, B = same nm (A, D) := ⟨_, rfl⟩
  have hq : (A.toList == nm.toList) = B := hB.symm
  have hcn : (w.alloc (.cells #[.string A, .string D] 51)).cell? ⟨b, 0, none⟩ = some (.string nm) := (((Below.refl w.heap.size w).alloc (Nat.le_refl _) (.cells #[.string A, .string D] 51)).cell (p := ⟨b, 0, none⟩) hb).trans hc
  have HB := Lib.hid ((Below.refl w.heap.size w).alloc (Nat.le_refl _) (.cells #[.string A, .string D] 51))
  rw [← hB]
  clear hB
  go_enter Tryz.func76, Tryz.ntmps76
  go_wp2
  go_ret
  exact ⟨rfl, HB.out⟩
theorem enters_find : Enters Tryz.prog 76 := enters_of Tryz.func76 (by kernel_rfl) rfl

set_option maxHeartbeats 1600000 in
theorem find_any (l : List K) (nm : ByteArray) (z : Int) (n : Nat) (a : Option Addr) (c : Nat) (w : World) (hz : z = place (same nm) l) (hn : l.length = n) (hn2 : n ≤ 1000000) (ha : CelR w a l) :
    Calls Tryz.prog 49 #[.slice a n c, .string nm] w fun e w' => e = .returned (.int .i64 z) ∧ Below w.heap.size w w' := by
  have hmf : ∀ (fn : Fn) (first cap : Array Value) (w : World), (Instr.makeFunc fn first cap).run Tryz.prog w = .ok (.func fn first cap) w := fun _ _ _ _ => rfl
  have hb0 := (Below.refl w.heap.size w).alloc (Nat.le_refl _) (.cells #[.string nm] 9)
  have hc : (w.alloc (.cells #[.string nm] 9)).cell? ⟨w.heap.size, 0, none⟩ = some (.string nm) := by simp [World.cell?_alloc_new]
  have hlt : w.heap.size < (w.alloc (.cells #[.string nm] 9)).heap.size := by simp
  have R := Lib.hid (indexfunc_any l (same nm) z 76 #[.pointer (some ⟨w.heap.size, 0, none⟩)] n a c _ hz hn hn2 (ha.below hb0) enters_find (fun x _ u hu => find1_any x nm w.heap.size u (Nat.lt_of_lt_of_le hlt hu.size) ((hu.cell (p := ⟨w.heap.size, 0, none⟩) hlt).trans hc)))
  have HB := Lib.hid hb0
  clear hb0 hc hlt hz hn ha
  go_enter Tryz.func49, Tryz.ntmps49
  go_wp2_with fail
  refine R.out.mono ?_
  rintro e w1 ⟨rfl, hb1⟩
  have HB1 := Lib.hid (HB.out.trans (hb1.mono HB.out.size))
  clear hb1
  go_wp2
  go_ret
  exact ⟨rfl, HB1.out⟩

theorem get_none (l : List K) (nm : ByteArray) (h : ∀ x ∈ l, same nm x = false) : get (toC l) nm.data.toList = none := by
  induction l with
  | nil => rfl
  | cons x l ih =>
    show get ((x.1.data.toList, x.2.data.toList) :: toC l) _ = _
    rw [get_cons, if_neg (same_no nm x (h x List.mem_cons_self)), ih fun y hy => h y (List.mem_cons_of_mem _ hy)]
theorem get_some (l : List K) (nm : ByteArray) (k : Nat) (x : K) (hx : l[k]? = some x) (hs : same nm x = true) (h : ∀ y ∈ l.take k, same nm y = false) : get (toC l) nm.data.toList = some x.2.data.toList := by
  induction l generalizing k with
  | nil => simp at hx
  | cons y l ih =>
    show get ((y.1.data.toList, y.2.data.toList) :: toC l) _ = _
    cases k with
    | zero =>
      simp at hx
      subst hx
      rw [get_cons, if_pos ((same_iff nm y).1 hs)]
    | succ k =>
      rw [get_cons, if_neg (same_no nm y (h y (by simp))), ih k (by simpa using hx) (fun z hz => h z (by rw [List.take_succ_cons]; exact List.mem_cons_of_mem _ hz))]

set_option maxHeartbeats 1600000 in
theorem get_any (l : List K) (n : Nat) (a : Option Addr) (c : Nat) (nm X : ByteArray) (B : Bool) (w : World) (hX : X = gotX (get (toC l) nm.data.toList)) (hB : B = (get (toC l) nm.data.toList).isSome) (hr : CelR w a l) (hn : l.length = n) (hn2 : n ≤ 1000000) :
    Calls Tryz.prog 25 #[.slice a n c, .string nm] w fun e w' => e = .returned (.tuple #[.string X, .bool B]) ∧ Below w.heap.size w w' := by
  rcases place_cases (same nm) l with ⟨h1, h2⟩ | ⟨k, ⟨A, D⟩, h1, h2, h3, h4, h5⟩
  · have hg := get_none l nm h2
    rw [hg] at hX hB
    obtain rfl : X = ⟨#[]⟩ := hX
    obtain rfl : B = false := hB
    have R := Lib.hid (find_any l nm (-1) n a c w h1.symm hn hn2 hr)
    clear h1 h2 hg hr hn
    go_enter Tryz.func25, Tryz.ntmps25
    go_wp2_with ((with_reducible refine R.out.mono ?_); rintro e w2 ⟨rfl, hb⟩; have HB := Lib.hid hb; clear hb)
    go_ret2
    exact ⟨rfl, HB.out⟩
  · have hg := get_some l nm k _ h3 h4 h5
    rw [hg] at hX hB
    obtain rfl : X = D := hX.trans (Cel.tx_data D)
    obtain rfl : B = true := hB
    have R := Lib.hid (find_any l nm (k : Int) n a c w h1.symm hn hn2 hr)
    obtain ⟨g, o, rfl, hgb, hc⟩ := hr (by omega)
    have hc2 := (hc k _ h3).2
    have HC := Lib.hid (fun (u : World) (hu : Below w.heap.size w u) => (hu.cell (p := ⟨g, o + k * 2 + 1, none⟩) hgb).trans hc2)
    have hkn : (k : Int) < (n : Int) := by omega
    have hd : decide ((k : Int) < 0) = false := decide_eq_false (by omega)
    have hk0 : (0 : Int) ≤ (k : Int) := by omega
    clear h1 h2 h3 h4 h5 hg hr hn hX hc hc2 hgb
    go_enter Tryz.func25, Tryz.ntmps25
    go_wp2_with ((with_reducible refine R.out.mono ?_); rintro e w2 ⟨rfl, hb⟩; have HB := Lib.hid hb; clear hb; have c2 := HC.out w2 HB.out)
    go_ret2
    exact ⟨rfl, HB.out⟩
end Go.Proofs.YtolmfimpaofefaaGreatDoor.Tape

namespace Go.Proofs.YtolmfimpaofefaaGreatDoor.Tape
open Go.RowKit Mur Prt Lanes Tap Cel RTap
set_option maxRecDepth 100000
set_option linter.unusedSimpArgs false

theorem size_cel (w : World) : (Go.sizeOf 51).run Tryz.prog w = .ok 2 w := by
  have h : (Tryz.prog.info? 51).map (·.size) = some 2 := by kernel_rfl
  cases hq : Tryz.prog.info? 51 with
  | none => simp [hq] at h
  | some i =>
    have : i.size = 2 := by simpa [hq] using h
    simp [Go.sizeOf, typeInfo, hq, this]
theorem elem_cel : Tryz.prog.elem 22 = 51 := by simp [Program.elem, Tryz.underlying22]
theorem und_cel : Tryz.prog.underlying 22 = some (.slice (Tryz.prog.elem 22)) := by rw [elem_cel]; exact Tryz.underlying22
theorem cut_to (a : Option Addr) (n c k : Nat) (h : k ≤ c) (u : World) : (Instr.slice 22 (.slice a n c) none (some (.int .i64 (k : Int))) none).run Tryz.prog u = .ok (.slice a k c) u := by
  rw [run_slice_h u 22 a n c und_cel .i64 (k : Int) (by omega) (by omega), elem_cel, size_cel]
  have e : sliced a 0 k c 2 = .slice a k c := by
    unfold sliced
    cases a with
    | none => simp
    | some x =>
      obtain ⟨b, o, sp⟩ := x
      simp [Addr.add]
  simp [Result.andThen, e]
/-- Where what is behind place k begins. -/
def behindA (a : Option Addr) (c k : Nat) : Option Addr := if c = k then a else a.map (·.add (k * 2))
theorem cut_from (a : Option Addr) (n c k : Nat) (h : k ≤ n) (z : Int) (hz : z = (k : Int)) (u : World) : (Instr.slice 22 (.slice a n c) (some (.int .i64 z)) none none).run Tryz.prog u = .ok (.slice (behindA a c k) (n - k) (c - k)) u := by
  subst hz
  rw [run_slice_l u 22 a n c und_cel .i64 (k : Int) (by omega) (by omega), elem_cel, size_cel]
  have : ((k : Int)).toNat = k := by omega
  simp only [Result.andThen, sliced, this]
  rfl
theorem cel_take {w : World} {a : Option Addr} {l : List K} (h : CelR w a l) (k : Nat) : CelR w a (l.take k) := fun h0 => by
  obtain ⟨b, o, ha, hb, hc⟩ := h (fun e => h0 (by rw [List.length_take, e]; simp))
  exact ⟨b, o, ha, hb, fun i x hx => hc i x (by rw [List.getElem?_take] at hx; split at hx; exact hx; cases hx)⟩
theorem cel_drop {w : World} {a : Option Addr} {l : List K} {c : Nat} (h : CelR w a l) (hc : l.length ≤ c) (k : Nat) : CelR w (behindA a c k) (l.drop k) := fun h0 => by
  rw [List.length_drop] at h0
  obtain ⟨b, o, rfl, hb, hcl⟩ := h (by omega)
  refine ⟨b, o + k * 2, ?_, hb, fun i x hx => ?_⟩
  · rw [behindA, if_neg (by omega)]
    show some ((⟨b, o, none⟩ : Addr).add (k * 2)) = _
    rw [Go.WideShapes.add_plain]
  · rw [List.getElem?_drop] at hx
    have := hcl (k + i) x hx
    rw [show o + k * 2 + i * 2 = o + (k + i) * 2 by omega]
    exact this

theorem make_cel (w : World) (k m : Nat) (z : Int) (hz : z = (m : Int)) (hk : k ≤ m) (hm : m ≤ 1000001) :
    (Instr.makeSlice 22 (.int .i64 (k : Int)) (.int .i64 z)).run Tryz.prog w = .ok (.slice (some ⟨w.heap.size, 0, none⟩) k m) (w.alloc (.cells (madeCells #[.string ⟨#[]⟩, .string ⟨#[]⟩] (m * 2)) 51)) := by
  subst hz
  obtain ⟨i0, hi, hz0, hz1, hz2⟩ := info_parts info_cel
  have h := run_make (P := Tryz.prog) w 22 51 i0 _ Tryz.underlying22 hi hz0 .i64 .i64 (k : Int) (m : Int) (by omega) (by omega) (by rw [hz2]; omega) (by omega)
  rw [hz1, show (Value.agg #[.string ⟨#[]⟩, .string ⟨#[]⟩]).cells = #[.string ⟨#[]⟩, .string ⟨#[]⟩] from rfl] at h
  simpa using h

/-- 'copy' of as many cells as the row is long. -/
theorem copy_cel {ops : Array Oper} {rest : List Oper} {o : Oper} {a : Act} {W : World} {Q : Exit → Act → World → Prop} (hgd : o.guard = none) (d s : Operand)
    (ho : o.op = .call { callee := .builtin .copy, args := #[d, s], argTypes := #[22, 22] }) (base g m C sc : Nat) (cur : Array Value) (ao : Option Addr) (l : List K) (hd : a.eval d = .slice (some ⟨g, 0, none⟩) m C) (hs : a.eval s = .slice ao m sc)
    (hg : W.heap[g]? = some (.cells cur 51 (0, 0))) (hcur : cur.size = C * 2) (hmC : m ≤ C) (hC : C ≤ 1000001) (hl : l.length = m) (hr : CelR W ao l) (hbase : base ≤ g)
    (h : ∀ w', w'.ownsRow base 51 2 (.slice (some ⟨g, 0, none⟩) m C) m (cellsV l) → Below base W w' → wpList Tryz.prog ops Q rest (a.put o.dst (goInt m)) w') : wpList Tryz.prog ops Q (o :: rest) a W := by
  have hrun : ∃ w', (Builtin.copy_ #[22, 22] o.type #[.slice (some ⟨g, 0, none⟩) m C, .slice ao m sc]).run Tryz.prog W = .ok (goInt m) w' ∧ w'.ownsRow base 51 2 (.slice (some ⟨g, 0, none⟩) m C) m (cellsV l) ∧ Below base W w' := by
    by_cases h0 : m = 0
    · subst h0
      obtain rfl := List.eq_nil_of_length_eq_zero hl
      refine ⟨W, ?_, ⟨by simp [cellsV], .inr ⟨g, C, cur, rfl, hbase, hg, hmC, by unfold maxLen; omega, hcur, rfl⟩⟩, Below.refl _ _⟩
      cases ao with
      | none => simp [Builtin.copy_, run_underlying Tryz.underlying22, Builtin.lenOf, Builtin.firstCells, size_cel, storeCells]
      | some x =>
        have hld : (loadCells x 0).run Tryz.prog W = .ok #[] W := run_loadCells_list (P := Tryz.prog) W x [] (fun j v hv => by simp at hv)
        simp [Builtin.copy_, run_underlying Tryz.underlying22, Builtin.lenOf, Builtin.firstCells, size_cel, storeCells, hld]
    · obtain ⟨b, off, rfl, hb, hc⟩ := hr (by omega)
      have hcl : (cellsV l).length = m * 2 := by rw [cellsV_length, hl]
      have hld : (loadCells ⟨b, off, none⟩ (m * 2)).run Tryz.prog W = .ok (cellsV l).toArray W := by
        rw [← hcl]
        refine run_loadCells_list (P := Tryz.prog) W ⟨b, off, none⟩ (cellsV l) (fun j v hv => ?_)
        rw [Go.WideShapes.add_plain]
        have hj : j < m * 2 := by rw [← hcl]; exact (List.getElem?_eq_some_iff.1 hv).1
        obtain ⟨x, hx⟩ : ∃ x, l[j / 2]? = some x := ⟨_, List.getElem?_eq_getElem (by omega)⟩
        have h1 := cellsV_at l (j / 2) x hx
        have h2 := hc (j / 2) x hx
        rcases Nat.mod_two_eq_zero_or_one j with e | e
        · rw [show j / 2 * 2 = j by omega] at h1 h2
          rw [h1.1] at hv
          cases hv
          exact h2.1
        · rw [show j / 2 * 2 + 1 = j by omega] at h1
          rw [show off + j / 2 * 2 + 1 = off + j by omega] at h2
          rw [h1.2] at hv
          cases hv
          exact h2.2
      have hst := run_storeCells_at (P := Tryz.prog) g 0 51 (cellsV l) 0 cur W hg (by rw [hcl]; omega) (cellsV_one l)
      simp only [Nat.zero_add, List.take_zero, List.nil_append] at hst
      refine ⟨_, by simp [Builtin.copy_, run_underlying Tryz.underlying22, Builtin.lenOf, Builtin.firstCells, size_cel, hld, hst]; rfl, ⟨hcl, .inr ⟨g, C, _, rfl, hbase, setRow_heap W g _ _ _ _ hg, hmC, by unfold maxLen; omega, ?_, ?_⟩⟩, below_setRow (Below.refl _ _) hbase _⟩
      · rw [List.size_toArray, List.length_append, hcl, List.length_drop, Array.length_toList, hcur]
        omega
      · show ((cellsV l ++ cur.toList.drop (cellsV l).length).toArray.toList).take (m * 2) = _
        rw [List.toList_toArray, ← hcl, List.take_left]
  obtain ⟨w', hrun, h1, h2⟩ := hrun
  refine wpList_plain hgd fun K hK => ?_
  unfold Oper.wp
  simp [execOp, ho, resolve, invoke, builtin, hd, hs, hrun, Result.andThen]
  exact hK _ _ (h w' h1 h2)

theorem own_room {w : World} {base n c : Nat} {ao : Option Addr} {l : List K} (h : w.ownsRow base 51 2 (.slice ao n c) n (cellsV l)) : n ≤ c := by
  rcases h.2 with ⟨h1, h2⟩ | ⟨g, cap, cur, h1, -, -, h2, -, -, -⟩
  · omega
  · cases h1
    exact h2
theorem putF_true_nil (n s : List UInt8) : putF n s true [] = [] := rfl
theorem put_none (l : List K) (nm s : ByteArray) (h : ∀ x ∈ l, same nm x = false) : put (toC l) nm.data.toList s.data.toList = toC l ++ [(nm.data.toList, s.data.toList)] := by
  unfold put
  induction l with
  | nil => rfl
  | cons x l ih =>
    show putF _ _ false ((x.1.data.toList, x.2.data.toList) :: toC l) = _
    rw [putF_cons, if_neg (same_no nm x (h x List.mem_cons_self)), ih fun y hy => h y (List.mem_cons_of_mem _ hy)]
    rfl
theorem put_some (l : List K) (nm s : ByteArray) (k : Nat) (x : K) (hx : l[k]? = some x) (hs : same nm x = true) (h : ∀ y ∈ l.take k, same nm y = false) :
    put (toC l) nm.data.toList s.data.toList = toC (l.take k) ++ (nm.data.toList, s.data.toList) :: putF nm.data.toList s.data.toList true (toC (l.drop (k + 1))) := by
  unfold put
  induction l generalizing k with
  | nil => simp at hx
  | cons y l ih =>
    show putF _ _ false ((y.1.data.toList, y.2.data.toList) :: toC l) = _
    cases k with
    | zero =>
      simp at hx
      subst hx
      rw [putF_cons, if_pos ((same_iff nm y).1 hs), if_neg (by decide)]
      rfl
    | succ k =>
      rw [putF_cons, if_neg (same_no nm y (h y (by simp))), ih k (by simpa using hx) (fun z hz => h z (by rw [List.take_succ_cons]; exact List.mem_cons_of_mem _ hz))]
      rfl

set_option maxHeartbeats 6400000 in
theorem put_any (l : List K) (n : Nat) (a : Option Addr) (c : Nat) (nm s : ByteArray) (L : List C) (N : Nat) (w : World) (hL : L = put (toC l) nm.data.toList s.data.toList) (hN : L.length = N) (hr : CelR w a l) (hn : l.length = n) (hn2 : n ≤ 1000000) (hnc : n ≤ c) :
    Calls Tryz.prog 30 #[.slice a n c, .string nm, .string s] w fun e w' => ∃ ao co, e = .returned (.slice ao N co) ∧ N ≤ co ∧ CelR w' ao (ofC L) ∧ (∀ q, ao = some q → w.heap.size ≤ q.block) ∧ Below w.heap.size w w' := by
  have hb0 : Tryz.prog.built 51 [(0, .string nm), (1, .string s)] = some #[.string nm, .string s] := by kernel_rfl
  have hc0 := cut_from a n c n (Nat.le_refl _) (n : Int) rfl
  rw [Nat.sub_self] at hc0
  rcases place_cases (same nm) l with ⟨h1, h2⟩ | ⟨k, x, h1, h2, h3, h4, h5⟩
  · obtain ⟨aB, haB⟩ : ∃ aB, aB = behindA a c n := ⟨_, rfl⟩
    obtain ⟨cB, hcB⟩ : ∃ cB, cB = c - n := ⟨_, rfl⟩
    obtain ⟨A, hA⟩ : ∃ A, A = l := ⟨_, rfl⟩
    obtain ⟨B, hB⟩ : ∃ B, B = ([] : List K) := ⟨_, rfl⟩
    
    have hAl : A.length = n := by rw [hA]; exact hn
    have hBl : B.length = 0 := by rw [hB]; rfl
    have hAr : CelR w a A := by rw [hA]; exact hr
    have hBr : CelR w aB B := by rw [hB, haB]; exact CelR.none _ _
    have hLe : L = toC (A ++ [(nm, s)]) ++ putF nm.data.toList s.data.toList true (toC B) := by
      rw [hL, hA, hB, put_none l nm s h2, toC_snoc]
      rw [show toC ([] : List K) = [] from rfl, putF_true_nil, List.append_nil]
    have R := Lib.hid (fun u (hu : Below w.heap.size w u) => find_any l nm (-1) n a c u h1.symm hn hn2 (hr.below hu))
    rw [← haB, ← hcB] at hc0
    have hmk := fun u => make_cel u n (n + 1) ((n : Int) + 1) (by omega) (by omega) (by omega)
    obtain ⟨Z, hZ⟩ : ∃ Z, Z = madeCells #[.string ⟨#[]⟩, .string ⟨#[]⟩] ((n + 1) * 2) := ⟨_, rfl⟩
    rw [← hZ] at hmk
    have hZs : Z.size = (n + 1) * 2 := by rw [hZ, size_madeCells]
    have hAB : n + 0 ≤ n := by omega
    have HL := Lib.hid (And.intro hLe hN)
    have HA := Lib.hid hAr
    have HBr := Lib.hid hBr
    have HAl := Lib.hid hAl
    have HBl := Lib.hid hBl
    have HZ := Lib.hid hZs
    have HNC := Lib.hid hnc
    clear hL hN hr hn hnc h1 h2  haB hcB hA hB  hAl hBl hAr hBr hLe hZ hZs
    go_enter Tryz.func30, Tryz.ntmps30
    go_upto_region 1 with (fail)
    go_quiet (fail)
    obtain ⟨wq, hwq⟩ : ∃ wq, wq = w.drewN nq := ⟨_, rfl⟩
    rw [← hwq]
    have HB0 := Lib.hid (show Below w.heap.size w wq from by rw [hwq]; exact belowN (Below.refl _ _) nq)
    clear hwq
    go_upto_region 6 with ((with_reducible refine (R.out _ HB0.out).mono ?_); rintro e w2 ⟨rfl, hb⟩; have HB := Lib.hid (HB0.out.trans (hb.mono HB0.out.size)); clear hb)
    have hg : (w2.alloc (.cells Z 51)).heap[w2.heap.size]? = some (.cells Z 51 (0, 0)) := _root_.Go.heap_alloc_new w2 _
    have HB3 := Lib.hid (HB.out.alloc HB.out.size (.cells Z 51))
    have hzb := HB.out.size
    obtain ⟨z, hz⟩ : ∃ z, z = w2.heap.size := ⟨_, rfl⟩
    rw [← hz] at hg hzb ⊢
    generalize w2.alloc (.cells Z 51) = w3 at *
    clear hz HB
    have HG := Lib.hid hg
    have HZB := Lib.hid hzb
    have hAr3 := Lib.hid (HA.out.below HB3.out)
    clear hg hzb
    go_upto_region 7 with ((with_reducible refine copy_cel rfl _ _ rfl w.heap.size z n (n + 1) _ Z a A rfl rfl HG.out HZ.out (by omega) (by omega) HAl.out hAr3.out HZB.out ?_); intro w4 hown4 hb4)
    have HO4 := Lib.hid hown4
    have HB4 := Lib.hid (HB3.out.trans hb4)
    clear hown4 hb4 HG HZB hAr3 HA HZ HB3
    have HB5 := Lib.hid (HB4.out.alloc HB4.out.size (.cells #[.string nm, .string s] 51))
    have HO5 := Lib.hid (Strs.own_below HO4.out ((Below.refl w4.heap.size w4).alloc (Nat.le_refl _) (.cells #[.string nm, .string s] 51)))
    go_wp2_with (at_builtin; refine append_cel rfl _ _ rfl w.heap.size n _ A rfl HO5.out w4.heap.size 1 (nm, s) rfl (new_cel w4 (nm, s) _) (by omega) HB5.out.size ?_; intro v' w6 hown6 hgrow6)
    have HO6 := Lib.hid hown6
    have HB6 := Lib.hid (HB5.out.grown hgrow6 HB5.out.size (fun q hq => (HO5.out.lt q hq).1))
    clear hown6 hgrow6 HO4 HO5 HB4 HB5
    go_loopw [10, 12, 47] (fun ov _ i wr => ∃ (j m : Nat) (acc : List K), j ≤ 0 ∧ i = .int .i64 j ∧ m ≤ n + 1 + j ∧ wr.ownsRow w.heap.size 51 2 ov m (cellsV acc) ∧ L = toC acc ++ putF nm.data.toList s.data.toList true (toC (B.drop j)) ∧ Below w.heap.size w wr) (fun _ _ i _ => 0 - (intOf i).toNat)
    case atStart => exact ⟨0, n + 1, A ++ [(nm, s)], by omega, rfl, by omega, HO6.out, HL.out.1, HB6.out⟩
    case round =>
      obtain ⟨j, m, acc, hj, rfl, hm, hown, hg, hb⟩ := hrel
      have HB := Lib.hid hb
      have HG := Lib.hid hg
      have HO := Lib.hid hown
      clear hb hg hown HB6 HO6
      by_cases hlt : j < 0
      · exact absurd hlt (by omega)
      · obtain rfl : j = 0 := by omega
        have hlt2 : ¬ ((0 : Int) < (0 : Int)) := by omega
        have hfin : L = toC acc := by
          rw [HG.out, List.drop_eq_nil_of_le (Nat.le_of_eq HBl.out), show toC ([] : List K) = [] from rfl, putF_true_nil, List.append_nil]
        obtain ⟨ao, co, rfl, hlen, hcel, hfr⟩ := own_cel HO.out
        obtain rfl : m = N := by rw [← HL.out.2, hfin, toC_length]; exact hlen
        have HC := Lib.hid (show CelR wr ao (ofC L) from by rw [hfin, ofC_toC]; exact hcel)
        have HF := Lib.hid hfr
        have HR := Lib.hid (own_room HO.out)
        clear hfin hlen hcel hfr
        go_wp2
        go_ret
        exact ⟨ao, ⟨co, rfl, HR.out, HC.out, HF.out, HB.out⟩⟩
  · obtain ⟨aB, haB⟩ : ∃ aB, aB = behindA a c (k + 1) := ⟨_, rfl⟩
    obtain ⟨cB, hcB⟩ : ∃ cB, cB = c - (k + 1) := ⟨_, rfl⟩
    obtain ⟨A, hA⟩ : ∃ A, A = l.take k := ⟨_, rfl⟩
    obtain ⟨B, hB⟩ : ∃ B, B = l.drop (k + 1) := ⟨_, rfl⟩
    obtain ⟨nB, hnB⟩ : ∃ nB, nB = n - (k + 1) := ⟨_, rfl⟩
    have hAl : A.length = k := by rw [hA]; rw [List.length_take]; omega
    have hBl : B.length = nB := by rw [hB]; rw [List.length_drop, hn, hnB]
    have hAr : CelR w a A := by rw [hA]; exact cel_take hr k
    have hBr : CelR w aB B := by rw [hB, haB]; exact cel_drop hr (by omega) (k + 1)
    have hLe : L = toC (A ++ [(nm, s)]) ++ putF nm.data.toList s.data.toList true (toC B) := by
      rw [hL, hA, hB, put_some l nm s k x h3 h4 h5, toC_snoc]
      simp
    have R := Lib.hid (fun u (hu : Below w.heap.size w u) => find_any l nm ((k : Int)) n a c u h1.symm hn hn2 (hr.below hu))
    have hc1 := cut_to a n c k (by omega)
    have hc2 := cut_from a n c (k + 1) (by omega) ((k : Int) + 1) (by omega)
    rw [← haB, ← hcB, ← hnB] at hc2
    have hmk := fun u => make_cel u k (n + 1) ((n : Int) + 1) (by omega) (by omega) (by omega)
    obtain ⟨Z, hZ⟩ : ∃ Z, Z = madeCells #[.string ⟨#[]⟩, .string ⟨#[]⟩] ((n + 1) * 2) := ⟨_, rfl⟩
    rw [← hZ] at hmk
    have hZs : Z.size = (n + 1) * 2 := by rw [hZ, size_madeCells]
    have hAB : k + nB ≤ n := by omega
    have HL := Lib.hid (And.intro hLe hN)
    have HA := Lib.hid hAr
    have HBr := Lib.hid hBr
    have HAl := Lib.hid hAl
    have HBl := Lib.hid hBl
    have HZ := Lib.hid hZs
    have HNC := Lib.hid hnc
    clear hL hN hr hn hnc h1 h2 h3 h4 h5 haB hcB hA hB hnB hAl hBl hAr hBr hLe hZ hZs
    go_enter Tryz.func30, Tryz.ntmps30
    go_upto_region 1 with (fail)
    go_quiet (fail)
    obtain ⟨wq, hwq⟩ : ∃ wq, wq = w.drewN nq := ⟨_, rfl⟩
    rw [← hwq]
    have HB0 := Lib.hid (show Below w.heap.size w wq from by rw [hwq]; exact belowN (Below.refl _ _) nq)
    clear hwq
    go_upto_region 4 with ((with_reducible refine (R.out _ HB0.out).mono ?_); rintro e w2 ⟨rfl, hb⟩; have HB := Lib.hid (HB0.out.trans (hb.mono HB0.out.size)); clear hb)
    go_quiet (fail)
    obtain ⟨wp, hwp⟩ : ∃ wp, wp = w2.drewN nq := ⟨_, rfl⟩
    rw [← hwp]
    have HB1 := Lib.hid (show Below w.heap.size w wp from by rw [hwp]; exact belowN HB.out nq)
    clear hwp HB
    have HB := HB1
    clear HB1
    clear w2
    generalize wp = w2 at *
    go_upto_region 6 with (fail)
    have hg : (w2.alloc (.cells Z 51)).heap[w2.heap.size]? = some (.cells Z 51 (0, 0)) := _root_.Go.heap_alloc_new w2 _
    have HB3 := Lib.hid (HB.out.alloc HB.out.size (.cells Z 51))
    have hzb := HB.out.size
    obtain ⟨z, hz⟩ : ∃ z, z = w2.heap.size := ⟨_, rfl⟩
    rw [← hz] at hg hzb ⊢
    generalize w2.alloc (.cells Z 51) = w3 at *
    clear hz HB
    have HG := Lib.hid hg
    have HZB := Lib.hid hzb
    have hAr3 := Lib.hid (HA.out.below HB3.out)
    clear hg hzb
    go_upto_region 7 with ((with_reducible refine copy_cel rfl _ _ rfl w.heap.size z k (n + 1) _ Z a A rfl rfl HG.out HZ.out (by omega) (by omega) HAl.out hAr3.out HZB.out ?_); intro w4 hown4 hb4)
    have HO4 := Lib.hid hown4
    have HB4 := Lib.hid (HB3.out.trans hb4)
    clear hown4 hb4 HG HZB hAr3 HA HZ HB3
    have HB5 := Lib.hid (HB4.out.alloc HB4.out.size (.cells #[.string nm, .string s] 51))
    have HO5 := Lib.hid (Strs.own_below HO4.out ((Below.refl w4.heap.size w4).alloc (Nat.le_refl _) (.cells #[.string nm, .string s] 51)))
    go_wp2_with (at_builtin; refine append_cel rfl _ _ rfl w.heap.size k _ A rfl HO5.out w4.heap.size 1 (nm, s) rfl (new_cel w4 (nm, s) _) (by omega) HB5.out.size ?_; intro v' w6 hown6 hgrow6)
    have HO6 := Lib.hid hown6
    have HB6 := Lib.hid (HB5.out.grown hgrow6 HB5.out.size (fun q hq => (HO5.out.lt q hq).1))
    clear hown6 hgrow6 HO4 HO5 HB4 HB5
    go_loopw [10, 12, 47] (fun ov _ i wr => ∃ (j m : Nat) (acc : List K), j ≤ nB ∧ i = .int .i64 j ∧ m ≤ k + 1 + j ∧ wr.ownsRow w.heap.size 51 2 ov m (cellsV acc) ∧ L = toC acc ++ putF nm.data.toList s.data.toList true (toC (B.drop j)) ∧ Below w.heap.size w wr) (fun _ _ i _ => nB - (intOf i).toNat)
    case atStart => exact ⟨0, k + 1, A ++ [(nm, s)], by omega, rfl, by omega, HO6.out, HL.out.1, HB6.out⟩
    case round =>
      obtain ⟨j, m, acc, hj, rfl, hm, hown, hg, hb⟩ := hrel
      have HB := Lib.hid hb
      have HG := Lib.hid hg
      have HO := Lib.hid hown
      clear hb hg hown HB6 HO6
      by_cases hlt : j < nB
      · have hjl : j < B.length := by have := HBl.out; omega
        obtain ⟨g, o, rfl, hgb, hc⟩ := HBr.out (by omega)
        obtain ⟨⟨X, D⟩, hx⟩ : ∃ x, B[j]? = some x := ⟨_, List.getElem?_eq_getElem hjl⟩
        have c1 : wr.cell? ⟨g, o + j * 2, none⟩ = some (.string X) := (HB.out.cell (p := ⟨g, o + j * 2, none⟩) hgb).trans (hc j _ hx).1
        have c2 : wr.cell? ⟨g, o + j * 2 + 1, none⟩ = some (.string D) := (HB.out.cell (p := ⟨g, o + j * 2 + 1, none⟩) hgb).trans (hc j _ hx).2
        have hg2 := HG.out
        rw [toC_drop B j _ hx, putF_cons] at hg2
        have HB2 := Lib.hid (HB.out.alloc HB.out.size (.cells #[.string X, .string D] 51))
        have HO2 := Lib.hid (Strs.own_below HO.out ((Below.refl wr.heap.size wr).alloc (Nat.le_refl _) (.cells #[.string X, .string D] 51)))
        by_cases he : X.data.toList = nm.data.toList
        · rw [if_pos he, if_pos rfl] at hg2
          have hq := eql_yes X nm he
          have hq2 : (!(X.toList == nm.toList)) = false := by rw [hq]; rfl
          have HG2 := Lib.hid hg2
          clear hjl hgb hc hx he hg2
          go_wp2
          go_roundw
          case rel => exact ⟨j + 1, m, acc, by omega, by go_num, by omega, HO2.out, HG2.out, HB2.out⟩
          case measure => simp [intOf]; omega
        · rw [if_neg he] at hg2
          have HG2 := Lib.hid (show L = toC (acc ++ [(X, D)]) ++ putF nm.data.toList s.data.toList true (toC (B.drop (j + 1))) from by rw [hg2, toC_snoc]; simp)
          have hq := eql_no X nm he
          have hq2 : (!(X.toList == nm.toList)) = true := by rw [hq]; rfl
          clear hjl hgb hc hx he hg2
          go_upto_region 11 with (fail)
          have hcA : (wr.alloc (.cells #[.string X, .string D] 51)).cell? ⟨wr.heap.size, 0, none⟩ = some (.string X) := new_cel wr (X, D) _ 0 _ rfl
          have hcD : (wr.alloc (.cells #[.string X, .string D] 51)).cell? ⟨wr.heap.size, 1, none⟩ = some (.string D) := new_cel wr (X, D) _ 1 _ rfl
          obtain ⟨z2, hz2⟩ : ∃ z, z = wr.heap.size := ⟨_, rfl⟩
          rw [← hz2] at hcA hcD ⊢
          generalize wr.alloc (.cells #[.string X, .string D] 51) = w7 at *
          have HB3 := Lib.hid (HB2.out.alloc HB2.out.size (.cells #[.string X, .string D] 51))
          have HO3 := Lib.hid (Strs.own_below HO2.out ((Below.refl w7.heap.size w7).alloc (Nat.le_refl _) (.cells #[.string X, .string D] 51)))
          clear hz2
          go_wp2_with (at_builtin; refine append_cel rfl _ _ rfl w.heap.size m _ acc rfl HO3.out w7.heap.size 1 (X, D) rfl (new_cel w7 (X, D) _) (by omega) HB3.out.size ?_; intro v' w8 hown8 hgrow8)
          have HO8 := Lib.hid hown8
          have HB8 := Lib.hid (HB3.out.grown hgrow8 HB3.out.size (fun q hq => (HO3.out.lt q hq).1))
          clear hown8 hgrow8
          go_wp2
          go_roundw
          case rel => exact ⟨j + 1, m + 1, acc ++ [(X, D)], by omega, by go_num, by omega, HO8.out, HG2.out, HB8.out⟩
          case measure => simp [intOf]; omega
      · obtain rfl : j = nB := by omega
        have hlt2 : ¬ ((j : Int) < (j : Int)) := by omega
        have hfin : L = toC acc := by
          rw [HG.out, List.drop_eq_nil_of_le (Nat.le_of_eq HBl.out), show toC ([] : List K) = [] from rfl, putF_true_nil, List.append_nil]
        obtain ⟨ao, co, rfl, hlen, hcel, hfr⟩ := own_cel HO.out
        obtain rfl : m = N := by rw [← HL.out.2, hfin, toC_length]; exact hlen
        have HC := Lib.hid (show CelR wr ao (ofC L) from by rw [hfin, ofC_toC]; exact hcel)
        have HF := Lib.hid hfr
        have HR := Lib.hid (own_room HO.out)
        clear hfin hlen hcel hfr
        go_wp2
        go_ret
        exact ⟨ao, ⟨co, rfl, HR.out, HC.out, HF.out, HB.out⟩⟩
end Go.Proofs.YtolmfimpaofefaaGreatDoor.Tape

namespace Go.Proofs.YtolmfimpaofefaaGreatDoor.Tape
open Go.RowKit Mur Prt Lanes Tap Cel RTap Hold
set_option maxRecDepth 100000
set_option linter.unusedSimpArgs false

theorem make_bytes (u : World) (m : Nat) (hm : m ≤ 281474976710656) : (Instr.makeSlice 78 (.int .i64 (m : Int)) (.int .i64 (m : Int))).run Tryz.prog u = .ok (.slice (some ⟨u.heap.size, 0, none⟩) m m) (u.alloc (.cells (bytesV (List.replicate m 0)).toArray 5)) := by
  rw [RTap.make_u8 u m hm]
  have e : madeCells #[Value.int .u8 0] m = (bytesV (List.replicate m 0)).toArray := by
    apply Array.toList_inj.1
    rw [toList_madeCells_one, List.toList_toArray, bytesV, List.map_replicate]
    rfl
  rw [e]
theorem size_u8 (u : World) : (Go.sizeOf 5).run Tryz.prog u = .ok 1 u := by go_simp
theorem fit_lay (s : List UInt8) (m : Nat) : lay (bytesV (List.replicate m 0)) 0 ((bytesV s).take (min s.length m)) = bytesV ((s ++ List.replicate m 0).take m) := by
  by_cases h : s.length ≤ m
  · rw [Nat.min_eq_left h, List.take_of_length_le (by rw [bytesV_length]; exact Nat.le_refl _)]
    have e : List.replicate m (0 : UInt8) = List.replicate s.length 0 ++ List.replicate (m - s.length) 0 := by
      rw [List.replicate_append_replicate]
      congr 1
      omega
    have e2 : (s ++ List.replicate m (0 : UInt8)).take m = s ++ List.replicate (m - s.length) 0 := by
      rw [List.take_append, List.take_of_length_le h, List.take_replicate]
      congr 2
      omega
    rw [e2, e]
    show lay (bytesV (List.replicate s.length 0 ++ _)) 0 (bytesV s) = _
    rw [show bytesV (List.replicate s.length (0 : UInt8) ++ List.replicate (m - s.length) 0) = bytesV (List.replicate s.length 0) ++ bytesV (List.replicate (m - s.length) 0) from by simp [bytesV], lay_left (by rw [bytesV_length, bytesV_length, List.length_replicate])]
    simp [bytesV]
  · rw [Nat.min_eq_right (by omega), List.take_append_of_le_length (by omega)]
    have e : (bytesV s).take m = bytesV (s.take m) := by simp [bytesV, List.map_take]
    rw [e, lay_all (by rw [bytesV_length, bytesV_length, List.length_replicate, List.length_take]; omega)]

set_option maxHeartbeats 1600000 in
theorem fit_all (s : ByteArray) (n : Int) (X : ByteArray) (w : World) (hX : X = tx (fit s.data.toList n)) :
    Calls Tryz.prog 51 #[.string s, .int .i64 n] w fun e w' => e = .returned (.string X) ∧ Below w.heap.size w w' := by
  obtain ⟨m, hm⟩ : ∃ m : Nat, max 0 (min n 6000) = (m : Int) := ⟨(max 0 (min n 6000)).toNat, by omega⟩
  have hm2 : m ≤ 6000 := by omega
  have e1 : (max 0 (min n 6000)).toNat = m := by omega
  obtain ⟨Z, hZ⟩ : ∃ Z, Z = bytesV (List.replicate m 0) := ⟨_, rfl⟩
  have hmk := fun u => make_bytes u m (by omega)
  rw [← hZ] at hmk
  obtain ⟨F, hF⟩ : ∃ F, F = (s.data.toList ++ List.replicate m 0).take m := ⟨_, rfl⟩
  have hFl : F.length = m := by rw [hF, List.length_take, List.length_append, List.length_replicate]; omega
  have HLAY := Lib.hid (show lay Z 0 ((bytesV s.data.toList).take (min s.size m)) = bytesV F from by rw [hZ, hF]; exact fit_lay s.data.toList m)
  have hXe : (⟨F.toArray⟩ : ByteArray) = X := by rw [hX, fit, e1, hF]
  have HMK := Lib.hid hmk
  have HZL := Lib.hid (show Z.length = m from by rw [hZ, bytesV_length, List.length_replicate])
  have HX := Lib.hid hXe
  have HFL := Lib.hid hFl
  have HSZ := Lib.hid size_u8
  have HM := Lib.hid (Hld.start w)
  clear hX hZ hF hFl hXe hmk e1
  go_enter Tryz.func51, Tryz.ntmps51
  go_upto_region 3 with ((first
    | (at_make; refine Hold.make HM.out rfl rfl rfl rfl HMK.out ?_; clear HM; intro b w HM; simp only [List.nil_append] at HM; replace HM := Lib.hid HM)
    | (with_reducible refine Hold.copyText HM.out 0 rfl rfl rfl rfl rfl Tryz.underlying78 HSZ.out (by rw [HZL.out]; exact Nat.min_le_right _ _) ?_; clear HM; intro w HM)))
  simp only [List.set_cons_zero] at HM
  rw [HLAY.out] at HM
  have hback := string_row (P := Tryz.prog) (HM.at 0 rfl).row 78 5 9 Tryz.underlying78 Tryz.underlying5 Tryz.underlying9 m m HFL.out.symm
  rw [HX.out] at hback
  have HM2 := Lib.hid HM
  clear HM
  go_wp2
  go_ret
  exact ⟨rfl, HM2.out.below⟩
theorem fit_any (s : ByteArray) (n : Int) (X : ByteArray) (w : World) (hX : X = tx (fit s.data.toList n)) (_ : s.size ≤ 1000000000) :
    Calls Tryz.prog 51 #[.string s, .int .i64 n] w fun e w' => e = .returned (.string X) ∧ Below w.heap.size w w' := fit_all s n X w hX
end Go.Proofs.YtolmfimpaofefaaGreatDoor.Tape
