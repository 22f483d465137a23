/-
  Several texts as one (Prt, Tap, Cel, RTpA, RTpB, RTpC, RTpD, RTpE, TpT, TpN, TpF, TpP, TpG). The plain mathematics of package parts: what its functions answer, as functions on lists of bytes, after the document's words; what is laid is read, what is read is laid so. Nothing here speaks of a program: no condition but those that each lemma names. The plain mathematics of package tape: decimal digits, names of numbers, cells got and put, bytes that fit, cells as bytes and back: what is put is got, others are as they were (P15.10); names of unlike numbers are unlike (P15.11); what is printed is read, what is read is printed so (P15.12). Upon XPrt: nothing here speaks of a program. Slices of cells (a name and bytes): as they are read, rows that a call has made itself, an append of one; '==' of texts and of cells. Conditions: those that each lemma names. The document's own answers for names (Dec, joined, PadName, PermName, MaskName, SigName, Member, Pseudonym) and for bytes that fit (Fit) of layer 15 are what the plain mathematics of the text Tap says; all memory that was there is left as it was. Conditions: numbers fit; texts have at most 10^9 bytes. The document's own answers for cells got and put, and names of a word (Get, Put, Names) of layer 15 are what the plain mathematics of the text Tap says; all memory that was there is left as it was. Conditions: a list is read in memory (CelR) and has at most 1000000 cells. The document's own answer for the names of a word (Names) of layer 15 is what the plain mathematics of the text Tap says; all memory that was there is left as it was. Conditions: a list is read in memory (CelR) and has at most 1000000 cells; the word has at most 10^9 bytes. The document's own answers for cells as bytes (Print, Read) of layer 15 are what the plain mathematics of the text Tap says; all memory that was there is left as it was. Conditions: a list is read in memory (CelR) and has at most 1000000 cells; a text has at most 10^9 bytes. The document's own answer for the cells that bytes are (Read) of layer 15 is what the plain mathematics of the text Tap says; all memory that was there is left as it was. Conditions: a text has at most 10^9 bytes. What package tape calls of Go's library: strconv.Itoa (over its table of powers of ten, which lies in a variable), strings.HasPrefix; and Dec, the names of numbers. Condition: the table's cells (Pow). Names of numbers (named, PadName, PermName, MaskName, Member, Pseudonym, SigName): a word, and digits behind blanks. Condition: the table of powers of ten lies in its variable; words up to 10^15 bytes. slices.IndexFunc at cells, whatever the test; find and Get of package tape: what the plain mathematics of the text Tap says; all memory that was there is left as it was. Conditions: no list has more than 1000000 cells. Slices of cells cut, made and copied; Put of package tape: what the plain mathematics of the text Tap says, in memory of its own; all memory that was there is left as it was. Conditions: no list has more than 1000000 cells; a slice is no longer than its room. fits, Fit and lay of package tape: whether a cell can be printed; bytes that fit; a text with its length ahead, laid into a block of bytes. Conditions: texts up to 10^9 bytes; what is laid has room.
-/
import Derived.Test.YtedgpglldlohfaaDoorMLn
import Derived.Test.YtedgpglldlohfaaDoorMWk
import Derived.Deep.Cut
import Derived.BigQuiet
import Derived.Test.YtedgpglldlohfaaDoorShelf
import Derived.Lib.AppendIntMem
import Derived.Shelf.Abstract
namespace Go.Proofs.YtedgpglldlohfaaDoor.Prt
open Go.RowKit Mur Lanes

abbrev tx (l : List UInt8) : ByteArray := ⟨l.toArray⟩
theorem tx_list (l : List UInt8) : (tx l).data.toList = l := rfl
theorem tx_size (l : List UInt8) : (tx l).size = l.length := rfl
theorem tx_append (a b : List UInt8) : tx a ++ tx b = tx (a ++ b) := by
  apply ByteArray.ext
  simp

/-- Num: its five bytes, or the number of its error. -/
def num (n : Int) : Except Nat (List UInt8) := if n < 0 ∨ 1099511627776 ≤ n then .error 1 else .ok (high n.toNat 5)
/-- Str. -/
def str (s : List UInt8) : Except Nat (List UInt8) := if 6000 < s.length then .error 4 else .ok (high s.length 2 ++ s)
/-- Each of a list, one behind the other, or the first error. -/
def each {α : Type} (lay : α → Except Nat (List UInt8)) : List α → Except Nat (List UInt8)
  | [] => .ok []
  | x :: l => match lay x with
    | .error e => .error e
    | .ok a => match each lay l with
      | .error e => .error e
      | .ok b => .ok (a ++ b)
/-- What is ahead, and what follows if there is no error. -/
def ahead (a : List UInt8) (r : Except Nat (List UInt8)) : Except Nat (List UInt8) := match r with
  | .error e => .error e
  | .ok b => .ok (a ++ b)
/-- Nums and Strs. -/
def layAll {α : Type} (lay : α → Except Nat (List UInt8)) (l : List α) : Except Nat (List UInt8) :=
  if 255 < l.length then .error 4 else ahead (high l.length 1) (each lay l)

theorem ahead_nil (r : Except Nat (List UInt8)) : ahead [] r = r := by cases r <;> rfl
theorem ahead_error (a : List UInt8) (e : Nat) : ahead a (.error e) = .error e := rfl
theorem ahead_ok (a b : List UInt8) : ahead a (.ok b) = .ok (a ++ b) := rfl
theorem each_nil {α : Type} (lay : α → Except Nat (List UInt8)) : each lay [] = .ok [] := rfl
theorem each_error {α : Type} (lay : α → Except Nat (List UInt8)) (x : α) (l : List α) (e : Nat) (h : lay x = .error e) : each lay (x :: l) = .error e := by rw [each, h]
theorem each_ok {α : Type} (lay : α → Except Nat (List UInt8)) (x : α) (l : List α) (a : List UInt8) (h : lay x = .ok a) : each lay (x :: l) = ahead a (each lay l) := by
  rw [each, h]
  cases each lay l <;> rfl
theorem ahead_ahead (a b : List UInt8) (r : Except Nat (List UInt8)) : ahead a (ahead b r) = ahead (a ++ b) r := by
  cases r
  · rfl
  · simp [ahead]

/-- As many bytes from a place on as are wanted, and the place behind them. -/
def cut (s : List UInt8) (p : Int) (m : Nat) : Except Nat (List UInt8 × Nat) :=
  if p < 0 ∨ (s.length : Int) < p then .error 1 else if (s.length : Int) - p < (m : Int) then .error 2 else .ok ((s.drop p.toNat).take m, p.toNat + m)
/-- Bytes as a number, the highest first. -/
def val (l : List UInt8) : Nat := l.foldl (fun n b => n * 256 + b.toNat) 0
def readHigh (s : List UInt8) (p : Int) (m : Nat) : Except Nat (Nat × Nat) := match cut s p m with
  | .error e => .error e
  | .ok r => .ok (val r.1, r.2)
def readNum (s : List UInt8) (p : Int) : Except Nat (Nat × Nat) := readHigh s p 5
def readStr (s : List UInt8) (p : Int) : Except Nat (List UInt8 × Nat) := match readHigh s p 2 with
  | .error e => .error e
  | .ok r => if 6000 < r.1 then .error 4 else cut s r.2 r.1
/-- As many parts as are told. -/
def readN {α : Type} (rd : Int → Except Nat (α × Nat)) : Nat → Nat → Except Nat (List α × Nat)
  | 0, p => .ok ([], p)
  | k + 1, p => match rd p with
    | .error e => .error e
    | .ok r => match readN rd k r.2 with
      | .error e => .error e
      | .ok t => .ok (r.1 :: t.1, t.2)
/-- A list in front of what follows. -/
def front {α : Type} (a : List α) (r : Except Nat (List α × Nat)) : Except Nat (List α × Nat) := match r with
  | .error e => .error e
  | .ok t => .ok (a ++ t.1, t.2)
def readAll {α : Type} (rd : List UInt8 → Int → Except Nat (α × Nat)) (s : List UInt8) (p : Int) : Except Nat (List α × Nat) := match readHigh s p 1 with
  | .error e => .error e
  | .ok r => readN (rd s) r.1 r.2

theorem front_nil {α : Type} (r : Except Nat (List α × Nat)) : front [] r = r := by cases r <;> rfl
theorem readN_zero {α : Type} (rd : Int → Except Nat (α × Nat)) (p : Nat) : readN rd 0 p = .ok ([], p) := rfl
theorem readN_error {α : Type} (rd : Int → Except Nat (α × Nat)) (k p e : Nat) (h : rd p = .error e) : readN rd (k + 1) p = .error e := by rw [readN, h]
theorem readN_ok {α : Type} (rd : Int → Except Nat (α × Nat)) (k p q : Nat) (x : α) (h : rd p = .ok (x, q)) : readN rd (k + 1) p = front [x] (readN rd k q) := by
  rw [readN, h]
  dsimp only
  cases readN rd k q <;> rfl
theorem front_front {α : Type} (a b : List α) (r : Except Nat (List α × Nat)) : front a (front b r) = front (a ++ b) r := by
  cases r
  · rfl
  · simp [front]

theorem high_length (n m : Nat) : (high n m).length = m := by simp [high]
theorem num_length (n : Int) (a : List UInt8) (h : num n = .ok a) : a.length = 5 := by
  unfold num at h
  split at h
  · cases h
  · cases h
    exact high_length _ _
theorem str_length (s a : List UInt8) (h : str s = .ok a) : a.length ≤ 6002 := by
  unfold str at h
  split at h
  · cases h
  · cases h
    rw [List.length_append, high_length]
    omega
theorem cut_facts (s : List UInt8) (p : Int) (m q : Nat) (l : List UInt8) (h : cut s p m = .ok (l, q)) : 0 ≤ p ∧ q = p.toNat + m ∧ q ≤ s.length ∧ l = (s.drop p.toNat).take m ∧ l.length = m := by
  unfold cut at h
  split at h
  · cases h
  · split at h
    · cases h
    · cases h
      refine ⟨by omega, rfl, by omega, rfl, ?_⟩
      rw [List.length_take, List.length_drop]
      omega
theorem foldl_lt (l : List UInt8) : ∀ n : Nat, l.foldl (fun n b => n * 256 + b.toNat) n < (n + 1) * 256 ^ l.length := by
  induction l with
  | nil => intro n; simp
  | cons b l ih =>
    intro n
    have h := ih (n * 256 + b.toNat)
    have hb := b.toNat_lt
    have h2 : (n * 256 + b.toNat + 1) * 256 ^ l.length ≤ ((n + 1) * 256) * 256 ^ l.length := Nat.mul_le_mul_right _ (by omega)
    have e : 256 ^ (b :: l).length = 256 * 256 ^ l.length := by rw [List.length_cons, Nat.pow_succ, Nat.mul_comm]
    rw [e, ← Nat.mul_assoc]
    exact Nat.lt_of_lt_of_le h h2
theorem val_lt (l : List UInt8) : val l < 256 ^ l.length := by
  have := foldl_lt l 0
  simpa [val] using this
theorem val_nil : val [] = 0 := rfl
theorem val_snoc (l : List UInt8) (b : UInt8) : val (l ++ [b]) = val l * 256 + b.toNat := by simp [val, List.foldl_append]
theorem val_take (l : List UInt8) (k : Nat) (h : k < l.length) : val (l.take (k + 1)) = val (l.take k) * 256 + l[k].toNat := by
  rw [List.take_succ_eq_append_getElem h, val_snoc]

theorem readHigh_facts (s : List UInt8) (p : Int) (m q n : Nat) (h : readHigh s p m = .ok (n, q)) : 0 ≤ p ∧ q = p.toNat + m ∧ q ≤ s.length ∧ n = val ((s.drop p.toNat).take m) ∧ n < 256 ^ m := by
  unfold readHigh at h
  cases hc : cut s p m with
  | error e => rw [hc] at h; cases h
  | ok r =>
    rw [hc] at h
    obtain ⟨l, q2⟩ := r
    obtain ⟨h1, h2, h3, h4, h5⟩ := cut_facts s p m q2 l hc
    cases h
    refine ⟨h1, h2, h3, by rw [h4], ?_⟩
    have := val_lt l
    rw [h5] at this
    exact this
theorem cut_err (s : List UInt8) (p : Int) (m e : Nat) (h : cut s p m = .error e) : 1 ≤ e ∧ e ≤ 2 := by
  unfold cut at h
  split at h
  · cases h; omega
  · split at h
    · cases h; omega
    · cases h
theorem readHigh_err (s : List UInt8) (p : Int) (m e : Nat) (h : readHigh s p m = .error e) : 1 ≤ e ∧ e ≤ 2 := by
  unfold readHigh at h
  cases hc : cut s p m with
  | error x =>
    rw [hc] at h
    cases h
    exact cut_err s p m _ hc
  | ok r => rw [hc] at h; cases h
theorem readStr_err (s : List UInt8) (p : Int) (e : Nat) (h : readStr s p = .error e) : 1 ≤ e ∧ e ≤ 4 := by
  unfold readStr at h
  cases hc : readHigh s p 2 with
  | error x =>
    rw [hc] at h
    cases h
    have := readHigh_err s p 2 _ hc
    omega
  | ok r =>
    rw [hc] at h
    dsimp only at h
    split at h
    · cases h; omega
    · have := cut_err _ _ _ _ h
      omega
theorem num_err (n : Int) (e : Nat) (h : num n = .error e) : 1 ≤ e ∧ e ≤ 4 := by
  unfold num at h
  split at h
  · cases h; omega
  · cases h
theorem str_err (s : List UInt8) (e : Nat) (h : str s = .error e) : 1 ≤ e ∧ e ≤ 4 := by
  unfold str at h
  split at h
  · cases h; omega
  · cases h
theorem readNum_facts (s : List UInt8) (p : Int) (q n : Nat) (h : readNum s p = .ok (n, q)) : 0 ≤ p ∧ q = p.toNat + 5 ∧ q ≤ s.length ∧ n < 1099511627776 := by
  have := readHigh_facts s p 5 q n h
  exact ⟨this.1, this.2.1, this.2.2.1, this.2.2.2.2⟩
theorem readStr_facts (s : List UInt8) (p : Int) (q : Nat) (l : List UInt8) (h : readStr s p = .ok (l, q)) : 0 ≤ p ∧ q = p.toNat + 2 + l.length ∧ q ≤ s.length ∧ l.length ≤ 6000 ∧ l.length = val ((s.drop p.toNat).take 2) ∧ l = (s.drop (p.toNat + 2)).take l.length := by
  unfold readStr at h
  cases hc : readHigh s p 2 with
  | error e => rw [hc] at h; cases h
  | ok r =>
    rw [hc] at h
    obtain ⟨n, q2⟩ := r
    obtain ⟨h1, h2, h3, h4, h5⟩ := readHigh_facts s p 2 q2 n hc
    dsimp only at h
    split at h
    · cases h
    · obtain ⟨g1, g2, g3, g4, g5⟩ := cut_facts s q2 n q l h
      have e : (q2 : Int).toNat = p.toNat + 2 := by omega
      rw [e] at g2 g4
      refine ⟨h1, by omega, g3, by omega, by rw [g5]; exact h4, by rw [g5]; exact g4⟩

/-- Bytes of a number, and the number of bytes. -/
theorem high_succ (n m : Nat) : high n (m + 1) = high (n / 256) m ++ [UInt8.ofNat n] := by
  apply List.ext_getElem (by simp [high])
  intro i h1 h2
  have hi : i < m + 1 := by simpa [high] using h1
  by_cases e : i = m
  · subst e
    rw [List.getElem_append_right (by simp [high])]
    simp [high]
  · rw [List.getElem_append_left (by simp [high]; omega)]
    simp only [high, List.getElem_map, List.getElem_range]
    congr 1
    have e2 : 8 * (m + 1 - 1 - i) = 8 + 8 * (m - 1 - i) := by omega
    rw [e2, Nat.pow_add, ← Nat.div_div_eq_div_mul]
theorem val_high (m : Nat) : ∀ n : Nat, n < 256 ^ m → val (high n m) = n := by
  induction m with
  | zero => intro n h; simp at h; subst h; rfl
  | succ m ih =>
    intro n h
    rw [high_succ, val_snoc, ih (n / 256) (by rw [Nat.pow_succ] at h; omega)]
    simp only [UInt8.toNat_ofNat']
    omega
theorem high_val (l : List UInt8) (m : Nat) (h : l.length = m) : high (val l) m = l := by
  induction m generalizing l with
  | zero => rw [List.eq_nil_of_length_eq_zero h]; rfl
  | succ m ih =>
    obtain ⟨t, b, rfl⟩ : ∃ t b, l = t ++ [b] := ⟨l.dropLast, l.getLast (by intro e; rw [e] at h; simp at h), (List.dropLast_concat_getLast _).symm⟩
    have ht : t.length = m := by simpa using h
    have hb := b.toNat_lt
    rw [high_succ, val_snoc]
    have e1 : (val t * 256 + b.toNat) / 256 = val t := by omega
    rw [e1, ih t ht]
    congr 2
    apply UInt8.toNat_inj.mp
    simp only [UInt8.toNat_ofNat']
    omega

theorem drop_mid (u a v : List UInt8) : ((u ++ (a ++ v)).drop u.length).take a.length = a := by
  rw [List.drop_left, List.take_left]
theorem cut_mid (u a v : List UInt8) : cut (u ++ (a ++ v)) (u.length : Int) a.length = .ok (a, u.length + a.length) := by
  unfold cut
  rw [if_neg (by simp only [List.length_append]; omega), if_neg (by simp only [List.length_append]; omega)]
  have e : (u.length : Int).toNat = u.length := by omega
  rw [e, drop_mid]
theorem readHigh_mid (u v : List UInt8) (n m : Nat) (h : n < 256 ^ m) : readHigh (u ++ (high n m ++ v)) (u.length : Int) m = .ok (n, u.length + m) := by
  have hc := cut_mid u (high n m) v
  rw [high_length] at hc
  rw [readHigh, hc]
  show Except.ok (val (high n m), u.length + m) = _
  rw [val_high m n h]

/-- What is laid is read. -/
theorem num_read (n : Nat) (a u v : List UInt8) (h : num (n : Int) = .ok a) : readNum (u ++ (a ++ v)) (u.length : Int) = .ok (n, u.length + a.length) := by
  have hl := num_length _ _ h
  unfold num at h
  split at h
  · cases h
  · cases h
    have e : (n : Int).toNat = n := by omega
    rw [e] at hl ⊢
    rw [readNum, readHigh_mid u v n 5 (by omega), hl]
theorem str_read (s a u v : List UInt8) (h : str s = .ok a) : readStr (u ++ (a ++ v)) (u.length : Int) = .ok (s, u.length + a.length) := by
  unfold str at h
  split at h
  · cases h
  · rename_i hs
    cases h
    rw [List.append_assoc, readStr, readHigh_mid u (s ++ v) s.length 2 (by omega)]
    show (if 6000 < s.length then Except.error 4 else cut _ ((u.length + 2 : Nat) : Int) s.length) = _
    rw [if_neg hs]
    have hc := cut_mid (u ++ high s.length 2) s v
    rw [List.length_append, high_length, List.append_assoc] at hc
    rw [hc, List.length_append, high_length]
    congr 2
    omega
theorem each_read {α : Type} (lay : α → Except Nat (List UInt8)) (rd : List UInt8 → Int → Except Nat (α × Nat)) (hrd : ∀ x a u v, lay x = .ok a → rd (u ++ (a ++ v)) (u.length : Int) = .ok (x, u.length + a.length)) (l : List α) :
    ∀ b u v, each lay l = .ok b → readN (rd (u ++ (b ++ v))) l.length u.length = .ok (l, u.length + b.length) := by
  induction l with
  | nil =>
    intro b u v h
    cases h
    rfl
  | cons x l ih =>
    intro b u v h
    cases hx : lay x with
    | error e => rw [each_error lay x l e hx] at h; cases h
    | ok a =>
      rw [each_ok lay x l a hx] at h
      cases hl : each lay l with
      | error e => rw [hl] at h; cases h
      | ok c =>
        rw [hl] at h
        cases h
        have g := hrd x a u (c ++ v) hx
        have k := ih c (u ++ a) v hl
        rw [List.append_assoc, List.length_append] at k
        rw [List.append_assoc, List.length_cons, readN_ok _ _ _ _ x g, k]
        show Except.ok (_, _) = _
        rw [List.length_append]
        congr 2
        omega
theorem layAll_read {α : Type} (lay : α → Except Nat (List UInt8)) (rd : List UInt8 → Int → Except Nat (α × Nat)) (hrd : ∀ x a u v, lay x = .ok a → rd (u ++ (a ++ v)) (u.length : Int) = .ok (x, u.length + a.length)) (l : List α) (a u : List UInt8) (h : layAll lay l = .ok a) :
    readAll rd (u ++ a) (u.length : Int) = .ok (l, u.length + a.length) := by
  unfold layAll at h
  split at h
  · cases h
  · rename_i hs
    cases hl : each lay l with
    | error e => rw [hl] at h; cases h
    | ok b =>
      rw [hl] at h
      cases h
      rw [readAll, readHigh_mid u b l.length 1 (by omega)]
      show readN (rd _) l.length (u.length + 1) = _
      have k := each_read lay rd hrd l b (u ++ high l.length 1) [] hl
      rw [List.length_append, high_length, List.append_nil, List.append_assoc] at k
      rw [k, List.length_append, high_length]
      congr 2
      omega

/-- What is read is laid so. -/
theorem num_laid (s : List UInt8) (p q n : Nat) (h : readNum s (p : Int) = .ok (n, q)) : num (n : Int) = .ok ((s.drop p).take (q - p)) ∧ p ≤ q ∧ q ≤ s.length := by
  obtain ⟨h1, h2, h3, h4, h5⟩ := readHigh_facts s p 5 q n h
  have e : (p : Int).toNat = p := by omega
  rw [e] at h2 h4
  refine ⟨?_, by omega, h3⟩
  have e2 : q - p = 5 := by omega
  have hl : ((s.drop p).take 5).length = 5 := by rw [List.length_take, List.length_drop]; omega
  have hn := high_val _ 5 hl
  rw [← h4] at hn
  rw [e2, num, if_neg (by omega)]
  have e3 : (n : Int).toNat = n := by omega
  rw [e3, hn]
theorem str_laid (s : List UInt8) (p q : Nat) (l : List UInt8) (h : readStr s (p : Int) = .ok (l, q)) : str l = .ok ((s.drop p).take (q - p)) ∧ p ≤ q ∧ q ≤ s.length := by
  obtain ⟨h1, h2, h3, h4, h5, h6⟩ := readStr_facts s p q l h
  have e : (p : Int).toNat = p := by omega
  rw [e] at h2 h5 h6
  refine ⟨?_, by omega, h3⟩
  have e2 : q - p = 2 + l.length := by omega
  have hl : ((s.drop p).take 2).length = 2 := by rw [List.length_take, List.length_drop]; omega
  have hn := high_val _ 2 hl
  rw [← h5] at hn
  rw [e2, str, if_neg (by omega), List.take_add, hn]
  congr 2
  rw [List.drop_drop]
  exact h6
theorem each_laid {α : Type} (lay : α → Except Nat (List UInt8)) (rd : List UInt8 → Int → Except Nat (α × Nat)) (hrd : ∀ (s : List UInt8) (p q : Nat) (x : α), rd s (p : Int) = .ok (x, q) → lay x = .ok ((s.drop p).take (q - p)) ∧ p ≤ q ∧ q ≤ s.length) (s : List UInt8) (k : Nat) :
    ∀ (p q : Nat) (l : List α), readN (rd s) k p = .ok (l, q) → each lay l = .ok ((s.drop p).take (q - p)) ∧ p ≤ q ∧ (p ≤ s.length → q ≤ s.length) ∧ l.length = k := by
  induction k with
  | zero =>
    intro p q l h
    cases h
    exact ⟨by rw [Nat.sub_self, List.take_zero]; rfl, Nat.le_refl _, fun h => h, rfl⟩
  | succ k ih =>
    intro p q l h
    cases hx : rd s (p : Int) with
    | error e => rw [readN_error _ _ _ e hx] at h; cases h
    | ok r =>
      obtain ⟨x, q1⟩ := r
      rw [readN_ok _ _ _ q1 x hx] at h
      obtain ⟨g1, g2, g3⟩ := hrd s p q1 x hx
      cases hl : readN (rd s) k q1 with
      | error e => rw [hl] at h; cases h
      | ok t =>
        obtain ⟨l2, q2⟩ := t
        rw [hl] at h
        obtain ⟨k1, k2, k3, k4⟩ := ih q1 q2 l2 hl
        cases h
        refine ⟨?_, by omega, fun _ => k3 g3, by rw [List.length_append, k4]; simp; omega⟩
        show each lay (x :: l2) = _
        rw [each_ok lay x l2 _ g1, k1]
        show Except.ok _ = _
        congr 1
        have e1 : q2 - p = (q1 - p) + (q2 - q1) := by omega
        rw [e1, List.take_add, List.drop_drop]
        congr 3
        omega
theorem layAll_laid {α : Type} (lay : α → Except Nat (List UInt8)) (rd : List UInt8 → Int → Except Nat (α × Nat)) (hrd : ∀ (s : List UInt8) (p q : Nat) (x : α), rd s (p : Int) = .ok (x, q) → lay x = .ok ((s.drop p).take (q - p)) ∧ p ≤ q ∧ q ≤ s.length) (s : List UInt8) (q : Nat) (l : List α) (h : readAll rd s 0 = .ok (l, q)) :
    layAll lay l = .ok (s.take q) ∧ q ≤ s.length ∧ l.length ≤ 255 := by
  unfold readAll at h
  cases hc : readHigh s 0 1 with
  | error e => rw [hc] at h; cases h
  | ok r =>
    obtain ⟨n, q1⟩ := r
    rw [hc] at h
    obtain ⟨h1, h2, h3, h4, h5⟩ := readHigh_facts s 0 1 q1 n hc
    dsimp only at h
    have e0 : (0 : Int).toNat = 0 := rfl
    rw [e0] at h2 h4
    obtain ⟨k1, k2, k3, k4⟩ := each_laid lay rd hrd s n q1 q l h
    have hl : ((s.drop 0).take 1).length = 1 := by rw [List.length_take, List.length_drop]; omega
    have hn := high_val _ 1 hl
    rw [← h4, List.drop_zero] at hn
    refine ⟨?_, k3 h3, by omega⟩
    obtain rfl : q1 = 1 := by omega
    obtain ⟨d, rfl⟩ : ∃ d, q = 1 + d := ⟨q - 1, by omega⟩
    rw [layAll, if_neg (by omega), k1, ahead_ok, k4, hn, Nat.add_sub_cancel_left, List.take_add]
end Go.Proofs.YtedgpglldlohfaaDoor.Prt

namespace Go.Proofs.YtedgpglldlohfaaDoor.Tap
open Go.RowKit Mur Prt Lanes

/-- The digits of a number. -/
def digits (n : Nat) : List UInt8 := if n < 10 then [UInt8.ofNat (48 + n)] else digits (n / 10) ++ [UInt8.ofNat (48 + n % 10)]
termination_by n
decreasing_by omega
def dec (n : Int) : List UInt8 := if n < 1 then [48] else digits n.toNat
theorem digits_low (n : Nat) (h : n < 10) : digits n = [UInt8.ofNat (48 + n)] := by rw [digits, if_pos h]
theorem digits_high (n : Nat) (h : ¬ n < 10) : digits n = digits (n / 10) ++ [UInt8.ofNat (48 + n % 10)] := by rw [digits, if_neg h]
theorem dec_nat (n : Nat) : dec (n : Int) = digits n := by
  unfold dec
  split
  · obtain rfl : n = 0 := by omega
    rw [digits_low 0 (by omega)]
    rfl
  · rw [Int.toNat_natCast]
def valD (l : List UInt8) : Nat := l.foldl (fun n b => n * 10 + (b.toNat - 48)) 0
theorem digit_val (k : Nat) (h : k < 10) : (UInt8.ofNat (48 + k)).toNat - 48 = k := by
  rw [UInt8.toNat_ofNat']
  omega
theorem valD_digits (n : Nat) : valD (digits n) = n := by
  induction n using Nat.strongRecOn with
  | ind n ih =>
    by_cases h : n < 10
    · rw [digits_low n h]
      show 0 * 10 + ((UInt8.ofNat (48 + n)).toNat - 48) = n
      rw [digit_val n h]
      omega
    · rw [digits_high n h, valD, List.foldl_append]
      show valD (digits (n / 10)) * 10 + ((UInt8.ofNat (48 + n % 10)).toNat - 48) = n
      rw [ih (n / 10) (by omega), digit_val _ (by omega)]
      omega
theorem digits_same (n m : Nat) (h : digits n = digits m) : n = m := by rw [← valD_digits n, h, valD_digits]
theorem digits_plain (n : Nat) : ∀ b ∈ digits n, b ≠ 32 := by
  induction n using Nat.strongRecOn with
  | ind n ih =>
    have key : ∀ k, k < 10 → UInt8.ofNat (48 + k) ≠ 32 := fun k hk h => by
      have := congrArg UInt8.toNat h
      rw [UInt8.toNat_ofNat'] at this
      have e : (32 : UInt8).toNat = 32 := rfl
      omega
    by_cases h : n < 10
    · rw [digits_low n h]
      intro b hb
      obtain rfl := List.mem_singleton.1 hb
      exact key n h
    · rw [digits_high n h]
      intro b hb
      rcases List.mem_append.1 hb with hb | hb
      · exact ih _ (by omega) b hb
      · obtain rfl := List.mem_singleton.1 hb
        exact key _ (by omega)
theorem digits_some (n : Nat) : digits n ≠ [] := by
  by_cases h : n < 10
  · rw [digits_low n h]; simp
  · rw [digits_high n h]; simp
theorem digits_long (n k : Nat) (h : n < 10 ^ (k + 1)) : (digits n).length ≤ k + 1 := by
  induction k generalizing n with
  | zero => rw [digits_low n (by omega)]; exact Nat.le_refl _
  | succ k ih =>
    by_cases g : n < 10
    · rw [digits_low n g]; simp
    · rw [digits_high n g, List.length_append]
      have : n / 10 < 10 ^ (k + 1) := by
        rw [Nat.pow_succ] at h
        omega
      have := ih _ this
      show _ + 1 ≤ _
      omega

/-- A word, and numbers, with a blank ahead of each. -/
def tail : List Int → List UInt8
  | [] => []
  | n :: l => 32 :: (dec n ++ tail l)
def joined (word : List UInt8) (l : List Int) : List UInt8 := word ++ tail l
theorem split_blank (a b r q : List UInt8) (ha : ∀ x ∈ a, x ≠ 32) (hb : ∀ x ∈ b, x ≠ 32) (hr : r = [] ∨ ∃ t, r = 32 :: t) (hq : q = [] ∨ ∃ t, q = 32 :: t) (h : a ++ r = b ++ q) : a = b ∧ r = q := by
  induction a generalizing b with
  | nil =>
    cases b with
    | nil => exact ⟨rfl, h⟩
    | cons y b =>
      rcases hr with rfl | ⟨t, rfl⟩
      · cases h
      · simp only [List.nil_append, List.cons_append, List.cons.injEq] at h
        exact absurd h.1.symm (hb y List.mem_cons_self)
  | cons x a ih =>
    cases b with
    | nil =>
      rcases hq with rfl | ⟨t, rfl⟩
      · cases h
      · simp only [List.nil_append, List.cons_append, List.cons.injEq] at h
        exact absurd h.1 (ha x List.mem_cons_self)
    | cons y b =>
      simp only [List.cons_append, List.cons.injEq] at h
      obtain ⟨h1, h2⟩ := ih b (fun z hz => ha z (List.mem_cons_of_mem _ hz)) (fun z hz => hb z (List.mem_cons_of_mem _ hz)) h.2
      exact ⟨by rw [h.1, h1], h2⟩
theorem tail_blank (l : List Int) : tail l = [] ∨ ∃ t, tail l = 32 :: t := by
  cases l with
  | nil => exact .inl rfl
  | cons n l => exact .inr ⟨_, rfl⟩
theorem tail_same (l m : List Nat) (h : tail (l.map fun n : Nat => (n : Int)) = tail (m.map fun n : Nat => (n : Int))) : l = m := by
  induction l generalizing m with
  | nil =>
    cases m with
    | nil => rfl
    | cons x m => cases h
  | cons x l ih =>
    cases m with
    | nil => cases h
    | cons y m =>
      simp only [List.map_cons, tail, List.cons.injEq, true_and, dec_nat] at h
      obtain ⟨h1, h2⟩ := split_blank _ _ _ _ (digits_plain x) (digits_plain y) (tail_blank _) (tail_blank _) h
      rw [digits_same x y h1, ih m h2]
/-- Names of unlike numbers are unlike. -/
theorem joined_same (word : List UInt8) (l m : List Nat) : (joined word (l.map fun n : Nat => (n : Int)) = joined word (m.map fun n : Nat => (n : Int))) ↔ l = m := by
  constructor
  · intro h
    exact tail_same l m (List.append_cancel_left h)
  · intro h
    rw [h]
theorem joined_more (word : List UInt8) (l m : List Int) : joined (joined word l) m = joined word (l ++ m) := by
  rw [joined, joined, joined, List.append_assoc]
  congr 1
  induction l with
  | nil => rfl
  | cons x l ih => simp only [tail, List.cons_append, List.append_assoc, ih]

/-- Cells: names and bytes. -/
abbrev C := List UInt8 × List UInt8
def get (l : List C) (n : List UInt8) : Option (List UInt8) := match l with
  | [] => none
  | c :: l => if c.1 = n then some c.2 else get l n
def putF (n s : List UInt8) : Bool → List C → List C
  | done, [] => if done = true then [] else [(n, s)]
  | done, c :: l => if c.1 = n then (if done = true then putF n s true l else (n, s) :: putF n s true l) else c :: putF n s done l
def put (l : List C) (n s : List UInt8) : List C := putF n s false l
theorem get_putF (l : List C) (n s m : List UInt8) (h : m ≠ n) (done : Bool) : get (putF n s done l) m = get l m := by
  induction l generalizing done with
  | nil =>
    cases done
    · show get [(n, s)] m = none
      rw [get, if_neg (fun e => h e.symm)]
      rfl
    · rfl
  | cons c l ih =>
    unfold putF
    by_cases hc : c.1 = n
    · rw [if_pos hc]
      have hm : get (c :: l) m = get l m := by rw [get, if_neg (fun e => h (e.symm.trans hc))]
      rw [hm]
      cases done
      · show get ((n, s) :: putF n s true l) m = _
        rw [get, if_neg (fun e => h e.symm), ih]
      · exact ih true
    · rw [if_neg hc, get, get, ih]
theorem putF_got (l : List C) (n s : List UInt8) : get (putF n s false l) n = some s := by
  induction l with
  | nil =>
    show get [(n, s)] n = some s
    rw [get, if_pos rfl]
  | cons c l ih =>
    unfold putF
    by_cases hc : c.1 = n
    · rw [if_pos hc]
      show get ((n, s) :: _) n = some s
      rw [get, if_pos rfl]
    · rw [if_neg hc, get, if_neg hc]
      exact ih
/-- What is put is got, and other cells are as they were. -/
theorem put_got (l : List C) (n s : List UInt8) : get (put l n s) n = some s := putF_got l n s
theorem put_other (l : List C) (n s m : List UInt8) (h : m ≠ n) : get (put l n s) m = get l m := get_putF l n s m h false

/-- Bytes that fit. -/
def fit (s : List UInt8) (n : Int) : List UInt8 := (s ++ List.replicate (max 0 (min n 6000)).toNat 0).take (max 0 (min n 6000)).toNat

/-- Cells as bytes. -/
def okC (c : C) : Bool := decide (1 ≤ c.1.length) && decide (c.1.length ≤ 200) && decide (c.2.length ≤ 6000)
theorem okC_iff (c : C) : okC c = true ↔ 1 ≤ c.1.length ∧ c.1.length ≤ 200 ∧ c.2.length ≤ 6000 := by
  simp only [okC, Bool.and_eq_true, decide_eq_true_eq, and_assoc]
def tell (s : List UInt8) : List UInt8 := high s.length 2 ++ s
def layC (c : C) : Except Nat (List UInt8) := if okC c = true then .ok (tell c.1 ++ tell c.2) else .error 4
def print (l : List C) : Except Nat (List UInt8) := if 1000 < l.length then .error 4 else each layC l
def cutT (s : List UInt8) : Option (List UInt8 × List UInt8) := if s.length < 2 then none else if s.length - 2 < val (s.take 2) then none else some ((s.drop 2).take (val (s.take 2)), (s.drop 2).drop (val (s.take 2)))
/-- What is read, round by round: how many rounds at most, the cells so far, the rest. -/
def readG : Nat → List C → List UInt8 → Except Nat (List C)
  | 0, acc, _ => .ok acc
  | f + 1, acc, s => if s = [] then .ok acc else match cutT s with
    | none => .error 2
    | some x => match cutT x.2 with
      | none => .error 2
      | some y => if acc.length = 1000 ∨ okC (x.1, y.1) = false then .error 4 else readG f (acc ++ [(x.1, y.1)]) y.2
def read (s : List UInt8) : Except Nat (List C) := readG s.length [] s

theorem cutT_some (s a r : List UInt8) (h : cutT s = some (a, r)) : s = tell a ++ r ∧ a.length < 65536 := by
  unfold cutT at h
  split at h
  · cases h
  · rename_i h2
    split at h
    · cases h
    · rename_i h3
      simp only [Option.some.injEq, Prod.mk.injEq] at h
      obtain ⟨rfl, rfl⟩ := h
      have hl : (s.take 2).length = 2 := by rw [List.length_take]; omega
      have ha : ((s.drop 2).take (val (s.take 2))).length = val (s.take 2) := by rw [List.length_take, List.length_drop]; omega
      refine ⟨?_, by rw [ha]; have := val_lt (s.take 2); rw [hl] at this; exact this⟩
      rw [tell, ha, high_val _ 2 hl, List.append_assoc, List.take_append_drop, List.take_append_drop]
theorem cutT_tell (a r : List UInt8) (h : a.length < 65536) : cutT (tell a ++ r) = some (a, r) := by
  have e1 : (tell a ++ r).take 2 = high a.length 2 := by
    rw [tell, List.append_assoc, List.take_append_of_le_length (by rw [high_length]; exact Nat.le_refl _)]
    exact List.take_of_length_le (by rw [high_length]; exact Nat.le_refl _)
  have e2 : (tell a ++ r).drop 2 = a ++ r := by
    rw [tell, List.append_assoc]
    have := List.drop_left' (l₁ := high a.length 2) (l₂ := a ++ r) (high_length a.length 2)
    exact this
  have e3 : val (high a.length 2) = a.length := by
    have := readHigh_mid [] [] a.length 2 (by omega)
    simp only [List.nil_append, List.append_nil, List.length_nil, Nat.zero_add] at this
    obtain ⟨-, -, -, h4, -⟩ := readHigh_facts _ _ _ _ _ this
    rw [Int.natCast_zero] at h4
    simp only [Int.toNat_zero, List.drop_zero] at h4
    rw [List.take_of_length_le (by rw [high_length]; exact Nat.le_refl _)] at h4
    exact h4.symm
  have e4 : (tell a ++ r).length = 2 + a.length + r.length := by rw [List.length_append, tell, List.length_append, high_length]
  unfold cutT
  rw [if_neg (by omega), e1, e2, e3, if_neg (by omega)]
  rw [List.take_left' rfl, List.drop_left' rfl]

theorem tell_some (a r : List UInt8) : tell a ++ r ≠ [] := by
  rw [tell, List.append_assoc]
  intro h
  have := congrArg List.length h
  rw [List.length_append, high_length] at this
  simp at this
theorem tell_length (a : List UInt8) : (tell a).length = 2 + a.length := by rw [tell, List.length_append, high_length]
theorem readG_done (f : Nat) (acc : List C) : readG f acc [] = .ok acc := by
  cases f with
  | zero => rfl
  | succ f => rw [readG, if_pos rfl]
theorem readG_next (f : Nat) (acc : List C) (c : C) (r : List UInt8) (hc : okC c = true) (ha : acc.length ≠ 1000) : readG (f + 1) acc (tell c.1 ++ (tell c.2 ++ r)) = readG f (acc ++ [c]) r := by
  have h := (okC_iff c).1 hc
  rw [readG, if_neg (tell_some _ _), cutT_tell _ _ (by omega)]
  dsimp only
  rw [cutT_tell _ _ (by omega)]
  dsimp only
  rw [if_neg (by rw [hc]; simp [ha])]
theorem layC_ok (c : C) (a : List UInt8) (h : layC c = .ok a) : okC c = true ∧ a = tell c.1 ++ tell c.2 := by
  unfold layC at h
  split at h
  · cases h; exact ⟨by assumption, rfl⟩
  · cases h
theorem each_read (l : List C) : ∀ (f : Nat) (acc : List C) (a : List UInt8), each layC l = .ok a → a.length ≤ f → acc.length + l.length ≤ 1000 → readG f acc a = .ok (acc ++ l) := by
  induction l with
  | nil =>
    intro f acc a h _ _
    cases h
    rw [readG_done, List.append_nil]
  | cons c l ih =>
    intro f acc a h hf hl
    cases hc : layC c with
    | error e => rw [each_error layC c l e hc] at h; cases h
    | ok b =>
      rw [each_ok layC c l b hc] at h
      cases hr : each layC l with
      | error e => rw [hr, Prt.ahead_error] at h; cases h
      | ok r =>
        rw [hr, Prt.ahead_ok] at h
        obtain rfl : b ++ r = a := Except.ok.inj h
        obtain ⟨k1, rfl⟩ := layC_ok c b hc
        rw [List.length_append, List.length_append, tell_length, tell_length] at hf
        rw [List.length_cons] at hl
        obtain ⟨g, rfl⟩ : ∃ g, f = g + 1 := ⟨f - 1, by omega⟩
        rw [List.append_assoc, readG_next g acc c r k1 (by omega), ih g (acc ++ [c]) r hr (by omega) (by rw [List.length_append]; simp; omega), List.append_assoc]
        rfl
/-- What is printed is read. -/
theorem print_read (l : List C) (a : List UInt8) (h : print l = .ok a) : read a = .ok l := by
  unfold print at h
  split at h
  · cases h
  · exact each_read l a.length [] a h (Nat.le_refl _) (by simp; omega)
theorem each_snoc (acc : List C) (c : C) (a b : List UInt8) (h : each layC acc = .ok a) (k : layC c = .ok b) : each layC (acc ++ [c]) = .ok (a ++ b) := by
  induction acc generalizing a with
  | nil =>
    cases h
    rw [List.nil_append, each_ok layC c [] b k]
    show Prt.ahead b (.ok []) = _
    rw [Prt.ahead_ok, List.append_nil, List.nil_append]
  | cons x acc ih =>
    cases hx : layC x with
    | error e => rw [each_error layC x acc e hx] at h; cases h
    | ok y =>
      rw [each_ok layC x acc y hx] at h
      cases hr : each layC acc with
      | error e => rw [hr, Prt.ahead_error] at h; cases h
      | ok r =>
        rw [hr, Prt.ahead_ok] at h
        obtain rfl : y ++ r = a := Except.ok.inj h
        rw [List.cons_append, each_ok layC x (acc ++ [c]) y hx, ih r hr, Prt.ahead_ok, List.append_assoc]
theorem readG_laid (f : Nat) : ∀ (acc : List C) (s a : List UInt8) (l : List C), s.length ≤ f → each layC acc = .ok a → acc.length ≤ 1000 → readG f acc s = .ok l → each layC l = .ok (a ++ s) ∧ l.length ≤ 1000 := by
  induction f with
  | zero =>
    intro acc s a l hf ha hl h
    obtain rfl : s = [] := List.length_eq_zero_iff.1 (by omega)
    cases h
    rw [List.append_nil]
    exact ⟨ha, hl⟩
  | succ f ih =>
    intro acc s a l hf ha hl h
    by_cases hs : s = []
    · subst hs
      rw [readG_done] at h
      cases h
      rw [List.append_nil]
      exact ⟨ha, hl⟩
    · rw [readG, if_neg hs] at h
      cases hx : cutT s with
      | none => rw [hx] at h; cases h
      | some x =>
        obtain ⟨n, r⟩ := x
        rw [hx] at h
        dsimp only at h
        cases hy : cutT r with
        | none => rw [hy] at h; cases h
        | some y =>
          obtain ⟨b, t⟩ := y
          rw [hy] at h
          dsimp only at h
          split at h
          · cases h
          · rename_i hc
            obtain ⟨e1, -⟩ := cutT_some _ _ _ hx
            obtain ⟨e2, -⟩ := cutT_some _ _ _ hy
            have hok : okC (n, b) = true := by
              cases ho : okC (n, b) with
              | true => rfl
              | false => exact absurd (.inr ho) hc
            have hne : acc.length ≠ 1000 := fun e => hc (.inl e)
            have hlay : layC (n, b) = .ok (tell n ++ tell b) := by rw [layC, if_pos hok]
            have hlen : t.length ≤ f := by
              have := congrArg List.length e1
              have := congrArg List.length e2
              rw [List.length_append, tell_length] at *
              omega
            obtain ⟨k1, k2⟩ := ih (acc ++ [(n, b)]) t _ l hlen (each_snoc acc (n, b) a _ ha hlay) (by rw [List.length_append]; simp; omega) h
            refine ⟨?_, k2⟩
            rw [k1, e1, e2]
            simp only [List.append_assoc]
/-- What is read is printed so. -/
theorem read_print (s : List UInt8) (l : List C) (h : read s = .ok l) : print l = .ok s := by
  obtain ⟨h1, h2⟩ := readG_laid s.length [] s [] l (Nat.le_refl _) rfl (Nat.zero_le _) h
  rw [print, if_neg (by omega), h1]
  rfl
/-- The names that begin with a word and a blank. -/
def begins (word n : List UInt8) : Bool := decide (word.length < n.length) && decide (n.take word.length = word) && decide (n[word.length]? = some 32)
def names (l : List C) (word : List UInt8) : List (List UInt8) := (l.map (·.1)).filter (begins word)
end Go.Proofs.YtedgpglldlohfaaDoor.Tap

namespace Go.Proofs.YtedgpglldlohfaaDoor.Cel
open Go.RowKit Mur Prt Tap
set_option maxRecDepth 100000

/-- A cell as it lies in memory. -/
abbrev K := ByteArray × ByteArray
def toC (l : List K) : List C := l.map fun c => (c.1.data.toList, c.2.data.toList)
def ofC (l : List C) : List K := l.map fun c => (tx c.1, tx c.2)
theorem tx_data (s : ByteArray) : tx s.data.toList = s := by cases s; rfl
theorem toC_ofC (l : List C) : toC (ofC l) = l := by
  rw [toC, ofC, List.map_map]
  exact List.map_id'' (fun _ => rfl) l
theorem ofC_toC (l : List K) : ofC (toC l) = l := by
  rw [toC, ofC, List.map_map]
  refine List.map_id'' (fun c => ?_) l
  show (tx c.1.data.toList, tx c.2.data.toList) = c
  rw [tx_data, tx_data]
theorem toC_length (l : List K) : (toC l).length = l.length := by simp [toC]
theorem ofC_length (l : List C) : (ofC l).length = l.length := by simp [ofC]
theorem toC_append (l m : List K) : toC (l ++ m) = toC l ++ toC m := by simp [toC]
theorem ofC_append (l m : List C) : ofC (l ++ m) = ofC l ++ ofC m := by simp [ofC]

/-- Texts are alike where their bytes are. -/
theorem eql_iff (x y : ByteArray) : (x.toList == y.toList) = true ↔ x.data.toList = y.data.toList := by rw [beq_iff_eq, ByteArray.toList_eq, ByteArray.toList_eq]
theorem eql_no (x y : ByteArray) (h : x.data.toList ≠ y.data.toList) : (x.toList == y.toList) = false := by
  cases hb : (x.toList == y.toList) with
  | false => rfl
  | true => exact absurd ((eql_iff x y).1 hb) h
theorem eql_yes (x y : ByteArray) (h : x.data.toList = y.data.toList) : (x.toList == y.toList) = true := (eql_iff x y).2 h
theorem same_text (x y : ByteArray) (h : x.data.toList = y.data.toList) : x = y := ByteArray.ext (Array.ext' h)

def cellsV (l : List K) : List Value := l.flatMap fun p => [.string p.1, .string p.2]
theorem cellsV_length (l : List K) : (cellsV l).length = l.length * 2 := by
  induction l with
  | nil => rfl
  | cons p l ih =>
    have e : (cellsV (p :: l)).length = (cellsV l).length + 2 := rfl
    rw [e, ih, List.length_cons]
    omega
theorem cellsV_append (l m : List K) : cellsV (l ++ m) = cellsV l ++ cellsV m := by simp [cellsV]
theorem cellsV_at (l : List K) (i : Nat) (p : K) (h : l[i]? = some p) : (cellsV l)[i * 2]? = some (.string p.1) ∧ (cellsV l)[i * 2 + 1]? = some (.string p.2) := by
  induction l generalizing i with
  | nil => simp at h
  | cons q l ih =>
    have e : cellsV (q :: l) = .string q.1 :: .string q.2 :: cellsV l := rfl
    rw [e]
    cases i with
    | zero =>
      simp at h
      subst h
      exact ⟨rfl, rfl⟩
    | succ i =>
      rw [show (i + 1) * 2 = i * 2 + 1 + 1 by omega, List.getElem?_cons_succ, List.getElem?_cons_succ, List.getElem?_cons_succ, List.getElem?_cons_succ]
      exact ih i (by simpa using h)
theorem cellsV_one (l : List K) : ∀ v ∈ cellsV l, v.oneCell' = true := fun v hv => by
  simp only [cellsV, List.mem_flatMap] at hv
  obtain ⟨p, _, hv⟩ := hv
  rcases List.mem_cons.1 hv with rfl | hv
  · rfl
  · rcases List.mem_cons.1 hv with rfl | hv
    · rfl
    · cases hv

/-- A slice of cells as it is read. -/
def CelR (w : World) (a : Option Addr) (l : List K) : Prop := l.length ≠ 0 → ∃ b o, a = some ⟨b, o, none⟩ ∧ b < w.heap.size ∧ ∀ i x, l[i]? = some x → w.cell? ⟨b, o + i * 2, none⟩ = some (.string x.1) ∧ w.cell? ⟨b, o + i * 2 + 1, none⟩ = some (.string x.2)
theorem CelR.below {w w' : World} {a : Option Addr} {l : List K} (h : CelR w a l) (k : Below w.heap.size w w') : CelR w' a l := fun hl => by
  obtain ⟨b, o, ha, hb, hc⟩ := h hl
  exact ⟨b, o, ha, Nat.lt_of_lt_of_le hb k.size, fun i x hx => ⟨(k.cell (p := ⟨b, o + i * 2, none⟩) hb).trans (hc i x hx).1, (k.cell (p := ⟨b, o + i * 2 + 1, none⟩) hb).trans (hc i x hx).2⟩⟩
theorem CelR.none (w : World) (a : Option Addr) : CelR w a [] := fun h => absurd rfl h

theorem own_start (w : World) (t : TypeId) : w.ownsRow w.heap.size t 2 (.slice none 0 0) 0 (cellsV []) := ⟨by simp [cellsV], .inl ⟨rfl, rfl⟩⟩
theorem new_cel (W : World) (x : K) (t : TypeId) : ∀ j u, (cellsV [x])[j]? = some u → (W.alloc (.cells #[.string x.1, .string x.2] t)).cell? ⟨W.heap.size, j, none⟩ = some u := fun j u hu => by
  match j, hu with
  | 0, hu => cases hu; simp [World.cell?_alloc_new]
  | 1, hu => cases hu; simp [World.cell?_alloc_new]
theorem cellStr : Hold.TyCell Tryd.prog 9 := ⟨_, Tryd.underlying9, rfl, by kernel_rfl⟩
end Go.Proofs.YtedgpglldlohfaaDoor.Cel

namespace Go.Proofs.YtedgpglldlohfaaDoor.RTap
open Go.RowKit Mur Prt Tap Cel
set_option maxRecDepth 100000
set_option linter.unusedSimpArgs false

theorem bytes_conv (w : World) (l : List UInt8) (n : Nat) (hn : n = l.length) : (convert 55 9 (.slice (some ⟨w.heap.size, 0, none⟩) n n)).run Tryd.prog (w.alloc (.cells (bytesV l).toArray 5)) = .ok (.string (tx l)) (w.alloc (.cells (bytesV l).toArray 5)) :=
  string_row (Whole.made w 5 (bytesV l)).row 55 5 9 Tryd.underlying55 Tryd.underlying5 Tryd.underlying9 n n hn
theorem one_conv (w : World) (c : Nat) (h : c < 256) (z : Int) (hz : z = (c : Int)) : (convert 55 9 (.slice (some ⟨w.heap.size, 0, none⟩) 1 1)).run Tryd.prog (w.alloc (.cells #[.int .u8 z] 5)) = .ok (.string (tx [UInt8.ofNat c])) (w.alloc (.cells #[.int .u8 z] 5)) := by
  have := bytes_conv w [UInt8.ofNat c] 1 rfl
  have e : bytesV [UInt8.ofNat c] = [.int .u8 z] := by
    show [Value.int .u8 ((UInt8.ofNat c).toNat : Int)] = _
    rw [UInt8.toNat_ofNat', Nat.mod_eq_of_lt h, hz]
  rw [e] at this
  exact this
theorem dec_long (n : Nat) (h : n ≤ 9223372036854775807) : (digits n).length ≤ 19 := digits_long n 18 (Nat.lt_of_le_of_lt h (by decide))
theorem digits_step (m : Nat) (o : ByteArray) (X : ByteArray) (hX : tx (digits m) ++ o = X) : (m / 10 ≠ 0 → tx (digits (m / 10)) ++ (tx [UInt8.ofNat (48 + m % 10)] ++ o) = X) ∧ (m / 10 = 0 → tx [UInt8.ofNat (48 + m % 10)] ++ o = X) := by
  constructor
  · intro h2
    rw [← hX, digits_high m (by omega), ← tx_append, ByteArray.append_assoc]
  · intro h2
    have h3 : m < 10 := by omega
    rw [← hX, digits_low m h3, Nat.mod_eq_of_lt h3]

theorem dec_size (n : Int) (h : n ≤ 9223372036854775807) : (dec n).length ≤ 19 := by
  unfold dec
  split
  · decide
  · exact dec_long _ (by omega)
/-- Numbers in a row that was made. -/
def RowI (w : World) (b : Nat) (l : List Int) : Prop := b < w.heap.size ∧ ∀ i x, l[i]? = some x → w.cell? ⟨b, i, none⟩ = some (.int .i64 x)

theorem made_any (w : World) (v : Value) (e : TypeId) (n : Nat) : Row (w.alloc (.cells (madeCells #[v] n) e)) w.heap.size (List.replicate n v) := by
  refine ⟨by simp, fun i u hu => ⟨?_, by simp⟩⟩
  rw [World.cell?_alloc_new]
  rw [← toList_madeCells_one] at hu
  simpa using hu
theorem info_u8 : (Tryd.prog.info? 5).map (fun i => (i.zero, i.size, i.bytes)) = some (some (.int .u8 0), 1, 1) := by kernel_rfl
theorem make_u8 (w : World) (n : Nat) (hn : n ≤ 281474976710656) : (Instr.makeSlice 55 (.int .i64 (n : Int)) (.int .i64 (n : Int))).run Tryd.prog w =
    .ok (.slice (some ⟨w.heap.size, 0, none⟩) n n) (w.alloc (.cells (madeCells #[.int .u8 0] n) 5)) := by
  obtain ⟨i0, hi, hz0, hz1, hz2⟩ := info_parts info_u8
  have h := run_make (P := Tryd.prog) w 55 5 i0 (.int .u8 0) Tryd.underlying55 hi hz0 .i64 .i64 (n : Int) (n : Int) (by omega) (Int.le_refl _) (by rw [hz2]; omega) (by omega)
  simpa [hz1, Value.cells] using h
theorem zeros_conv (w : World) (m : Nat) : (convert 55 9 (.slice (some ⟨w.heap.size, 0, none⟩) m m)).run Tryd.prog (w.alloc (.cells (madeCells #[.int .u8 0] m) 5)) = .ok (.string (tx (List.replicate m 0))) (w.alloc (.cells (madeCells #[.int .u8 0] m) 5)) := by
  have hr := made_any w (.int .u8 0) 5 m
  have e : (List.replicate m (Value.int .u8 0)) = bytesV (List.replicate m 0) := by
    rw [bytesV, List.map_replicate]
    rfl
  rw [e] at hr
  exact string_row hr 55 5 9 Tryd.underlying55 Tryd.underlying5 Tryd.underlying9 m m (by simp)
theorem piece_tx (s : ByteArray) (m : Nat) : s.extract 0 m = tx (s.data.toList.take m) := by
  apply ByteArray.ext
  rw [ByteArray.data_extract]
  apply Array.ext'
  simp

end Go.Proofs.YtedgpglldlohfaaDoor.RTap

namespace Go.Proofs.YtedgpglldlohfaaDoor.RTap
open Go.RowKit Mur Prt Tap Cel
set_option maxRecDepth 100000
set_option linter.unusedSimpArgs false

/-- What is got: the bytes, and whether there are any. -/
def gotX (r : Option (List UInt8)) : ByteArray := match r with
  | some s => tx s
  | none => ⟨#[]⟩
theorem get_cons (c : C) (l : List C) (n : List UInt8) : get (c :: l) n = if c.1 = n then some c.2 else get l n := rfl
theorem toC_drop (l : List K) (j : Nat) (x : K) (h : l[j]? = some x) : toC (l.drop j) = (x.1.data.toList, x.2.data.toList) :: toC (l.drop (j + 1)) := by
  have hj := (List.getElem?_eq_some_iff.1 h).1
  rw [List.drop_eq_getElem_cons hj, (List.getElem?_eq_some_iff.1 h).2]
  rfl
theorem toC_done (l : List K) (n : Nat) (h : l.length = n) : toC (l.drop n) = [] := by
  rw [List.drop_eq_nil_of_le (Nat.le_of_eq h)]
  rfl

theorem putF_cons (n s : List UInt8) (d : Bool) (c : C) (l : List C) : putF n s d (c :: l) = if c.1 = n then (if d = true then putF n s true l else (n, s) :: putF n s true l) else c :: putF n s d l := rfl
theorem toC_snoc (acc : List K) (A D : ByteArray) : toC (acc ++ [(A, D)]) = toC acc ++ [(A.data.toList, D.data.toList)] := toC_append acc [(A, D)]

end Go.Proofs.YtedgpglldlohfaaDoor.RTap

namespace Go.Proofs.YtedgpglldlohfaaDoor.RTap
open Go.RowKit Mur Prt Tap Cel
set_option maxRecDepth 100000
set_option linter.unusedSimpArgs false

/-- A slice of texts as it is read. -/
def StrsR (w : World) (a : Option Addr) (l : List ByteArray) : Prop := l.length ≠ 0 → ∃ b o, a = some ⟨b, o, none⟩ ∧ b < w.heap.size ∧ ∀ i x, l[i]? = some x → w.cell? ⟨b, o + i, none⟩ = some (.string x)
theorem StrsR.below {w w' : World} {a : Option Addr} {l : List ByteArray} (h : StrsR w a l) (k : Below w.heap.size w w') : StrsR w' a l := fun hl => by
  obtain ⟨b, o, ha, hb, hc⟩ := h hl
  exact ⟨b, o, ha, Nat.lt_of_lt_of_le hb k.size, fun i x hx => (k.cell (p := ⟨b, o + i, none⟩) hb).trans (hc i x hx)⟩
theorem own_strs {w : World} {base n : Nat} {v : Value} {l : List ByteArray} (h : w.ownsRow base 9 1 v n (Strs.strsV l)) : ∃ ao c, v = .slice ao n c ∧ n = l.length ∧ StrsR w ao l ∧ ∀ q, ao = some q → base ≤ q.block := by
  rcases Strs.own_cases h with ⟨rfl, rfl, h3⟩ | ⟨g, c, rfl, h1, h2, _, h4⟩
  · have h0 : l = [] := List.eq_nil_of_length_eq_zero (by rw [← Strs.strsV_length l, h3]; rfl)
    subst h0
    exact ⟨none, 0, rfl, rfl, fun h => absurd rfl h, fun q hq => by cases hq⟩
  · refine ⟨some ⟨g, 0, none⟩, c, rfl, by rw [h4, Strs.strsV_length], fun _ => ⟨g, 0, rfl, h2, fun i x hx => ?_⟩, fun q hq => by cases hq; exact h1⟩
    rw [Nat.zero_add]
    exact Strs.own_cell h i _ (by simp [Strs.strsV, hx])
def ofT (l : List (List UInt8)) : List ByteArray := l.map tx
def toT (l : List ByteArray) : List (List UInt8) := l.map fun s => s.data.toList
theorem ofT_toT (l : List ByteArray) : ofT (toT l) = l := by
  rw [ofT, toT, List.map_map]
  exact List.map_id'' (fun s => Cel.tx_data s) l
theorem toT_length (l : List ByteArray) : (toT l).length = l.length := by simp [toT]
theorem toT_snoc (l : List ByteArray) (x : ByteArray) : toT (l ++ [x]) = toT l ++ [x.data.toList] := by simp [toT]
theorem names_cons (c : C) (l : List C) (word : List UInt8) : names (c :: l) word = if begins word c.1 = true then c.1 :: names l word else names l word := by
  rw [names, List.map_cons, List.filter_cons]
  rfl

end Go.Proofs.YtedgpglldlohfaaDoor.RTap

namespace Go.Proofs.YtedgpglldlohfaaDoor.RTap
open Go.RowKit Mur Prt Lanes Tap Cel
set_option maxRecDepth 100000
set_option linter.unusedSimpArgs false

theorem high_two (n : Nat) : high n 2 = [UInt8.ofNat (n / 256), UInt8.ofNat n] := by simp [high, List.range_succ]
theorem two_conv (w : World) (a b : Nat) (ha : a < 256) (hb : b < 256) (x y : Int) (hx : x = (a : Int)) (hy : y = (b : Int)) : (convert 55 9 (.slice (some ⟨w.heap.size, 0, none⟩) 2 2)).run Tryd.prog (w.alloc (.cells #[.int .u8 x, .int .u8 y] 5)) = .ok (.string (tx [UInt8.ofNat a, UInt8.ofNat b])) (w.alloc (.cells #[.int .u8 x, .int .u8 y] 5)) := by
  have := bytes_conv w [UInt8.ofNat a, UInt8.ofNat b] 2 rfl
  have e : bytesV [UInt8.ofNat a, UInt8.ofNat b] = [.int .u8 x, .int .u8 y] := by
    show [Value.int .u8 ((UInt8.ofNat a).toNat : Int), Value.int .u8 ((UInt8.ofNat b).toNat : Int)] = _
    rw [UInt8.toNat_ofNat', UInt8.toNat_ofNat', Nat.mod_eq_of_lt ha, Nat.mod_eq_of_lt hb, hx, hy]
  rw [e] at this
  exact this

theorem glued (t : ByteArray) (a b : List UInt8) : t ++ (tx a ++ tx b) = tx (t.data.toList ++ (a ++ b)) := by
  rw [tx_append a b]
  exact (congrArg (fun y => y ++ tx (a ++ b)) (Cel.tx_data t).symm).trans (tx_append t.data.toList (a ++ b))
theorem tell_parts (s : ByteArray) : tx (tell s.data.toList) = tx [UInt8.ofNat (s.size / 256), UInt8.ofNat (s.size % 256)] ++ s := by
  have e : UInt8.ofNat (s.size % 256) = UInt8.ofNat s.size := by
    apply UInt8.toNat_inj.1
    rw [UInt8.toNat_ofNat', UInt8.toNat_ofNat']
    omega
  rw [tell, high_two, e, ← tx_append, Cel.tx_data]
  rfl

/-- What is told of an outcome in bytes. -/
def outX (r : Except Nat (List UInt8)) : ByteArray := match r with
  | .ok a => tx a
  | .error _ => ⟨#[]⟩
def outE {α : Type} (r : Except Nat α) : Int := match r with
  | .ok _ => 0
  | .error e => e
theorem load_cell {P : Program} {w : World} {op : Oper} {a : Act} {p : Addr} {ty : TypeId} {c : Value} {x : Operand} (ho : op.op = .load ty x) (hx : a.eval x = .pointer (some p)) (hc : w.cell? p = some c) (hr : Hold.TyCell P ty) : (execOp a.eval op).run P w = .ok (.value c) w := by
  obtain ⟨d, hu, hd, hs⟩ := hr
  have hagg : (isAgg ty).run P w = .ok false w := by
    unfold isAgg
    rw [Sem.run_bind, run_underlying hu w]
    cases d <;> simp_all
  unfold execOp
  simp [ho, hx, Instr.loadAt, Instr.sureAddr, Sem.run_bind, loadVar, hagg, hc]

end Go.Proofs.YtedgpglldlohfaaDoor.RTap

namespace Go.Proofs.YtedgpglldlohfaaDoor.RTap
open Go.RowKit Mur Prt Lanes Tap Cel
set_option maxRecDepth 100000
set_option linter.unusedSimpArgs false

/-- What a cut answers. -/
def cutA (r : Option (List UInt8 × List UInt8)) : ByteArray := match r with
  | some x => tx x.1
  | none => ⟨#[]⟩
def cutB (r : Option (List UInt8 × List UInt8)) : ByteArray := match r with
  | some x => tx x.2
  | none => ⟨#[]⟩
theorem or_byte (x y : UInt8) : bits .or .i64 ((x.toNat : Int) * 256) (y.toNat : Int) = ((x.toNat * 256 + y.toNat : Nat) : Int) := by
  have h1 := x.toNat_lt
  have h2 := y.toNat_lt
  have := or_i64_nat (x.toNat * 256) y.toNat (by omega) (by omega)
  rw [show ((x.toNat * 256 : Nat) : Int) = (x.toNat : Int) * 256 from by omega] at this
  rw [this]
  congr 1
  rw [show x.toNat * 256 = x.toNat <<< 8 from by rw [Nat.shiftLeft_eq], ← Nat.shiftLeft_add_eq_or_of_lt (by omega : y.toNat < 2 ^ 8), Nat.shiftLeft_eq]
theorem piece_mid (s : ByteArray) (a b : Nat) : s.extract a b = tx ((s.data.toList.drop a).take (b - a)) := by
  apply ByteArray.ext
  rw [ByteArray.data_extract]
  apply Array.ext'
  simp [List.take_drop, Nat.sub_add_cancel]

/-- What is told of an outcome in cells. -/
def outL (r : Except Nat (List C)) : List C := match r with
  | .ok l => l
  | .error _ => []
def lenOf (v : Value) : Nat := match v with
  | .string b => b.size
  | _ => 0
theorem readG_none (f : Nat) (acc : List C) (t : List UInt8) (ht : t ≠ []) (h : cutT t = none) : readG (f + 1) acc t = .error 2 := by rw [readG, if_neg ht, h]
theorem readG_half (f : Nat) (acc : List C) (t a r : List UInt8) (ht : t ≠ []) (h : cutT t = some (a, r)) (k : cutT r = none) : readG (f + 1) acc t = .error 2 := by
  rw [readG, if_neg ht, h]
  dsimp only
  rw [k]
theorem readG_bad (f : Nat) (acc : List C) (t a r b q : List UInt8) (ht : t ≠ []) (h : cutT t = some (a, r)) (k : cutT r = some (b, q)) (h4 : acc.length = 1000 ∨ okC (a, b) = false) : readG (f + 1) acc t = .error 4 := by
  rw [readG, if_neg ht, h]
  dsimp only
  rw [k]
  dsimp only
  rw [if_pos h4]
theorem readG_good (f : Nat) (acc : List C) (t a r b q : List UInt8) (ht : t ≠ []) (h : cutT t = some (a, r)) (k : cutT r = some (b, q)) (h4 : ¬ (acc.length = 1000 ∨ okC (a, b) = false)) : readG (f + 1) acc t = readG f (acc ++ [(a, b)]) q := by
  rw [readG, if_neg ht, h]
  dsimp only
  rw [k]
  dsimp only
  rw [if_neg h4]
theorem cut_less (t a r : List UInt8) (h : cutT t = some (a, r)) : r.length + 2 ≤ t.length := by
  have := (cutT_some t a r h).1
  rw [this, List.length_append, tell_length]
  omega

end Go.Proofs.YtedgpglldlohfaaDoor.RTap

namespace Go.Proofs.YtedgpglldlohfaaDoor.Tape
open Go.RowKit Mur Prt Lanes Tap Cel RTap
set_option maxRecDepth 100000
set_option linter.unusedSimpArgs false

/-- The table of powers of ten lies in its variable. -/
def Pow (w : World) : Prop := Lib.TabIs Tryd.prog w "internal/strconv.uint64pow10" .u64 Lib.pow10Tab
theorem Pow.below {w w' : World} (h : Pow w) (k : Below w.heap.size w w') : Pow w' := Lib.tabBelow_of_tabIs h w' k
theorem digits_lib (n : Nat) : Lib.decDigits n = digits n := by
  induction n using Nat.strongRecOn with
  | ind n ih =>
    by_cases h : n < 10
    · rw [Lib.decDigits, dif_pos h, digits_low n h]
    · rw [Lib.decDigits, dif_neg h, digits_high n h, ih (n / 10) (by omega)]
theorem itoa_dec (n : Int) (m : Nat) (h : max n 0 = (m : Int)) : Lib.itoa (m : Int) = dec n := by
  rw [Lib.itoa_nonneg, digits_lib, ← dec_nat, dec, dec]
  by_cases hn : n < 1
  · rw [if_pos hn, if_pos (by omega)]
  · rw [if_neg hn, if_neg (by omega)]
    congr 1
    omega
theorem below_grow (w : World) (k : Nat) (os : Array Obj) : Below w.heap.size w (Sort.grow (w.drewN k) os) :=
  ⟨rfl, rfl, rfl, by rw [Sort.size_grow]; exact Nat.le_add_right _ _, fun j hj => Sort.heap_grow_old (w.drewN k) os hj⟩

end Go.Proofs.YtedgpglldlohfaaDoor.Tape

namespace Go.Proofs.YtedgpglldlohfaaDoor.Tape
open Go.RowKit Mur Prt Lanes Tap Cel RTap
set_option maxRecDepth 100000
set_option linter.unusedSimpArgs false

end Go.Proofs.YtedgpglldlohfaaDoor.Tape

namespace Go.Proofs.YtedgpglldlohfaaDoor.Tape
open Go.RowKit Mur Prt Lanes Tap Cel RTap
set_option maxRecDepth 100000
set_option linter.unusedSimpArgs false

/-- The place of the first cell of which the test holds, or -1. -/
def place (p : K → Bool) : List K → Int
  | [] => -1
  | x :: l => if p x = true then 0 else if place p l < 0 then -1 else place p l + 1
theorem place_cases (p : K → Bool) (l : List K) : (place p l = -1 ∧ ∀ x ∈ l, p x = false) ∨ ∃ (k : Nat) (x : K), place p l = (k : Int) ∧ k < l.length ∧ l[k]? = some x ∧ p x = true ∧ ∀ y ∈ l.take k, p y = false := by
  induction l with
  | nil => exact .inl ⟨rfl, fun x hx => by cases hx⟩
  | cons x l ih =>
    unfold place
    by_cases hx : p x = true
    · rw [if_pos hx]
      exact .inr ⟨0, x, rfl, by simp, rfl, hx, fun y hy => by simp at hy⟩
    · rw [if_neg hx]
      have hxf : p x = false := by simpa using hx
      rcases ih with ⟨h1, h2⟩ | ⟨k, z, h1, h2, h3, h4, h5⟩
      · rw [h1, if_pos (by decide)]
        refine .inl ⟨rfl, fun y hy => ?_⟩
        rcases List.mem_cons.1 hy with rfl | hy
        · exact hxf
        · exact h2 y hy
      · rw [h1, if_neg (by omega)]
        refine .inr ⟨k + 1, z, by omega, by rw [List.length_cons]; omega, by simpa using h3, h4, fun y hy => ?_⟩
        rw [List.take_succ_cons] at hy
        rcases List.mem_cons.1 hy with rfl | hy
        · exact hxf
        · exact h5 y hy
theorem place_at (p : K → Bool) (l : List K) (j : Nat) (x : K) (h0 : (l.take j).any p = false) (hx : l[j]? = some x) (hp : p x = true) : place p l = (j : Int) := by
  induction l generalizing j with
  | nil => simp at hx
  | cons y l ih =>
    unfold place
    cases j with
    | zero =>
      simp at hx
      subst hx
      rw [if_pos hp]
      rfl
    | succ j =>
      rw [List.take_succ_cons, List.any_cons, Bool.or_eq_false_iff] at h0
      rw [if_neg (by rw [h0.1]; decide), ih j h0.2 (by simpa using hx), if_neg (by omega)]
      omega
theorem place_none (p : K → Bool) (l : List K) (h : l.any p = false) : place p l = -1 := by
  induction l with
  | nil => rfl
  | cons y l ih =>
    rw [List.any_cons, Bool.or_eq_false_iff] at h
    rw [place, if_neg (by rw [h.1]; decide), ih h.2, if_pos (by decide)]

/-- The test of find. -/
def same (nm : ByteArray) (x : K) : Bool := x.1.toList == nm.toList
theorem same_iff (nm : ByteArray) (x : K) : same nm x = true ↔ x.1.data.toList = nm.data.toList := eql_iff _ _
theorem same_no (nm : ByteArray) (x : K) (h : same nm x = false) : x.1.data.toList ≠ nm.data.toList := fun e => by
  rw [(same_iff nm x).2 e] at h
  cases h
theorem get_none (l : List K) (nm : ByteArray) (h : ∀ x ∈ l, same nm x = false) : get (toC l) nm.data.toList = none := by
  induction l with
  | nil => rfl
  | cons x l ih =>
    show get ((x.1.data.toList, x.2.data.toList) :: toC l) _ = _
    rw [get_cons, if_neg (same_no nm x (h x List.mem_cons_self)), ih fun y hy => h y (List.mem_cons_of_mem _ hy)]
theorem get_some (l : List K) (nm : ByteArray) (k : Nat) (x : K) (hx : l[k]? = some x) (hs : same nm x = true) (h : ∀ y ∈ l.take k, same nm y = false) : get (toC l) nm.data.toList = some x.2.data.toList := by
  induction l generalizing k with
  | nil => simp at hx
  | cons y l ih =>
    show get ((y.1.data.toList, y.2.data.toList) :: toC l) _ = _
    cases k with
    | zero =>
      simp at hx
      subst hx
      rw [get_cons, if_pos ((same_iff nm y).1 hs)]
    | succ k =>
      rw [get_cons, if_neg (same_no nm y (h y (by simp))), ih k (by simpa using hx) (fun z hz => h z (by rw [List.take_succ_cons]; exact List.mem_cons_of_mem _ hz))]

end Go.Proofs.YtedgpglldlohfaaDoor.Tape

namespace Go.Proofs.YtedgpglldlohfaaDoor.Tape
open Go.RowKit Mur Prt Lanes Tap Cel RTap
set_option maxRecDepth 100000
set_option linter.unusedSimpArgs false

/-- Where what is behind place k begins. -/
def behindA (a : Option Addr) (c k : Nat) : Option Addr := if c = k then a else a.map (·.add (k * 2))
theorem cel_take {w : World} {a : Option Addr} {l : List K} (h : CelR w a l) (k : Nat) : CelR w a (l.take k) := fun h0 => by
  obtain ⟨b, o, ha, hb, hc⟩ := h (fun e => h0 (by rw [List.length_take, e]; simp))
  exact ⟨b, o, ha, hb, fun i x hx => hc i x (by rw [List.getElem?_take] at hx; split at hx; exact hx; cases hx)⟩
theorem cel_drop {w : World} {a : Option Addr} {l : List K} {c : Nat} (h : CelR w a l) (hc : l.length ≤ c) (k : Nat) : CelR w (behindA a c k) (l.drop k) := fun h0 => by
  rw [List.length_drop] at h0
  obtain ⟨b, o, rfl, hb, hcl⟩ := h (by omega)
  refine ⟨b, o + k * 2, ?_, hb, fun i x hx => ?_⟩
  · rw [behindA, if_neg (by omega)]
    show some ((⟨b, o, none⟩ : Addr).add (k * 2)) = _
    rw [Go.WideShapes.add_plain]
  · rw [List.getElem?_drop] at hx
    have := hcl (k + i) x hx
    rw [show o + k * 2 + i * 2 = o + (k + i) * 2 by omega]
    exact this

theorem putF_true_nil (n s : List UInt8) : putF n s true [] = [] := rfl
theorem put_none (l : List K) (nm s : ByteArray) (h : ∀ x ∈ l, same nm x = false) : put (toC l) nm.data.toList s.data.toList = toC l ++ [(nm.data.toList, s.data.toList)] := by
  unfold put
  induction l with
  | nil => rfl
  | cons x l ih =>
    show putF _ _ false ((x.1.data.toList, x.2.data.toList) :: toC l) = _
    rw [putF_cons, if_neg (same_no nm x (h x List.mem_cons_self)), ih fun y hy => h y (List.mem_cons_of_mem _ hy)]
    rfl
theorem put_some (l : List K) (nm s : ByteArray) (k : Nat) (x : K) (hx : l[k]? = some x) (hs : same nm x = true) (h : ∀ y ∈ l.take k, same nm y = false) :
    put (toC l) nm.data.toList s.data.toList = toC (l.take k) ++ (nm.data.toList, s.data.toList) :: putF nm.data.toList s.data.toList true (toC (l.drop (k + 1))) := by
  unfold put
  induction l generalizing k with
  | nil => simp at hx
  | cons y l ih =>
    show putF _ _ false ((y.1.data.toList, y.2.data.toList) :: toC l) = _
    cases k with
    | zero =>
      simp at hx
      subst hx
      rw [putF_cons, if_pos ((same_iff nm y).1 hs), if_neg (by decide)]
      rfl
    | succ k =>
      rw [putF_cons, if_neg (same_no nm y (h y (by simp))), ih k (by simpa using hx) (fun z hz => h z (by rw [List.take_succ_cons]; exact List.mem_cons_of_mem _ hz))]
      rfl

end Go.Proofs.YtedgpglldlohfaaDoor.Tape

namespace Go.Proofs.YtedgpglldlohfaaDoor.Tape
open Go.RowKit Mur Prt Lanes Tap Cel RTap Hold
set_option maxRecDepth 100000
set_option linter.unusedSimpArgs false

theorem make_bytes (u : World) (m : Nat) (hm : m ≤ 281474976710656) : (Instr.makeSlice 55 (.int .i64 (m : Int)) (.int .i64 (m : Int))).run Tryd.prog u = .ok (.slice (some ⟨u.heap.size, 0, none⟩) m m) (u.alloc (.cells (bytesV (List.replicate m 0)).toArray 5)) := by
  rw [RTap.make_u8 u m hm]
  have e : madeCells #[Value.int .u8 0] m = (bytesV (List.replicate m 0)).toArray := by
    apply Array.toList_inj.1
    rw [toList_madeCells_one, List.toList_toArray, bytesV, List.map_replicate]
    rfl
  rw [e]
theorem size_u8 (u : World) : (Go.sizeOf 5).run Tryd.prog u = .ok 1 u := by go_simp
theorem fit_lay (s : List UInt8) (m : Nat) : lay (bytesV (List.replicate m 0)) 0 ((bytesV s).take (min s.length m)) = bytesV ((s ++ List.replicate m 0).take m) := by
  by_cases h : s.length ≤ m
  · rw [Nat.min_eq_left h, List.take_of_length_le (by rw [bytesV_length]; exact Nat.le_refl _)]
    have e : List.replicate m (0 : UInt8) = List.replicate s.length 0 ++ List.replicate (m - s.length) 0 := by
      rw [List.replicate_append_replicate]
      congr 1
      omega
    have e2 : (s ++ List.replicate m (0 : UInt8)).take m = s ++ List.replicate (m - s.length) 0 := by
      rw [List.take_append, List.take_of_length_le h, List.take_replicate]
      congr 2
      omega
    rw [e2, e]
    show lay (bytesV (List.replicate s.length 0 ++ _)) 0 (bytesV s) = _
    rw [show bytesV (List.replicate s.length (0 : UInt8) ++ List.replicate (m - s.length) 0) = bytesV (List.replicate s.length 0) ++ bytesV (List.replicate (m - s.length) 0) from by simp [bytesV], lay_left (by rw [bytesV_length, bytesV_length, List.length_replicate])]
    simp [bytesV]
  · rw [Nat.min_eq_right (by omega), List.take_append_of_le_length (by omega)]
    have e : (bytesV s).take m = bytesV (s.take m) := by simp [bytesV, List.map_take]
    rw [e, lay_all (by rw [bytesV_length, bytesV_length, List.length_replicate, List.length_take]; omega)]

set_option maxHeartbeats 1600000 in
theorem fit_all (s : ByteArray) (n : Int) (X : ByteArray) (w : World) (hX : X = tx (fit s.data.toList n)) :
    Calls Tryd.prog 32 #[.string s, .int .i64 n] w fun e w' => e = .returned (.string X) ∧ Below w.heap.size w w' := by
  obtain ⟨m, hm⟩ : ∃ m : Nat, max 0 (min n 6000) = (m : Int) := ⟨(max 0 (min n 6000)).toNat, by omega⟩
  have hm2 : m ≤ 6000 := by omega
  have e1 : (max 0 (min n 6000)).toNat = m := by omega
  obtain ⟨Z, hZ⟩ : ∃ Z, Z = bytesV (List.replicate m 0) := ⟨_, rfl⟩
  have hmk := fun u => make_bytes u m (by omega)
  rw [← hZ] at hmk
  obtain ⟨F, hF⟩ : ∃ F, F = (s.data.toList ++ List.replicate m 0).take m := ⟨_, rfl⟩
  have hFl : F.length = m := by rw [hF, List.length_take, List.length_append, List.length_replicate]; omega
  have HLAY := Lib.hid (show lay Z 0 ((bytesV s.data.toList).take (min s.size m)) = bytesV F from by rw [hZ, hF]; exact fit_lay s.data.toList m)
  have hXe : (⟨F.toArray⟩ : ByteArray) = X := by rw [hX, fit, e1, hF]
  have HMK := Lib.hid hmk
  have HZL := Lib.hid (show Z.length = m from by rw [hZ, bytesV_length, List.length_replicate])
  have HX := Lib.hid hXe
  have HFL := Lib.hid hFl
  have HSZ := Lib.hid size_u8
  have HM := Lib.hid (Hld.start w)
  clear hX hZ hF hFl hXe hmk e1
  go_enter Tryd.func32, Tryd.ntmps32
  go_upto_region 3 with ((first
    | (at_make; refine Hold.make HM.out rfl rfl rfl rfl HMK.out ?_; clear HM; intro b w HM; simp only [List.nil_append] at HM; replace HM := Lib.hid HM)
    | (with_reducible refine Hold.copyText HM.out 0 rfl rfl rfl rfl rfl Tryd.underlying55 HSZ.out (by rw [HZL.out]; exact Nat.min_le_right _ _) ?_; clear HM; intro w HM)))
  simp only [List.set_cons_zero] at HM
  rw [HLAY.out] at HM
  have hback := string_row (P := Tryd.prog) (HM.at 0 rfl).row 55 5 9 Tryd.underlying55 Tryd.underlying5 Tryd.underlying9 m m HFL.out.symm
  rw [HX.out] at hback
  have HM2 := Lib.hid HM
  clear HM
  go_wp2
  go_ret
  exact ⟨rfl, HM2.out.below⟩
theorem fit_any (s : ByteArray) (n : Int) (X : ByteArray) (w : World) (hX : X = tx (fit s.data.toList n)) (_ : s.size ≤ 1000000000) :
    Calls Tryd.prog 32 #[.string s, .int .i64 n] w fun e w' => e = .returned (.string X) ∧ Below w.heap.size w w' := fit_all s n X w hX
end Go.Proofs.YtedgpglldlohfaaDoor.Tape
