/-
  The plain mathematics of package parts: what its functions answer, as functions on lists of bytes, after the document's words; what is laid is read, what is read is laid so. Nothing here speaks of a program: no condition but those that each lemma names.
-/
import Derived.Test.YtpamdpfgcbadhaaDoorLnBase
namespace Go.Proofs.YtpamdpfgcbadhaaDoor.Prt
open Go.RowKit Mur Lanes

abbrev tx (l : List UInt8) : ByteArray := ⟨l.toArray⟩
theorem tx_list (l : List UInt8) : (tx l).data.toList = l := rfl
theorem tx_size (l : List UInt8) : (tx l).size = l.length := rfl
theorem tx_append (a b : List UInt8) : tx a ++ tx b = tx (a ++ b) := by
  apply ByteArray.ext
  simp

/-- Num: its five bytes, or the number of its error. -/
def num (n : Int) : Except Nat (List UInt8) := if n < 0 ∨ 1099511627776 ≤ n then .error 1 else .ok (high n.toNat 5)
/-- Str. -/
def str (s : List UInt8) : Except Nat (List UInt8) := if 6000 < s.length then .error 4 else .ok (high s.length 2 ++ s)
/-- Each of a list, one behind the other, or the first error. -/
def each {α : Type} (lay : α → Except Nat (List UInt8)) : List α → Except Nat (List UInt8)
  | [] => .ok []
  | x :: l => match lay x with
    | .error e => .error e
    | .ok a => match each lay l with
      | .error e => .error e
      | .ok b => .ok (a ++ b)
/-- What is ahead, and what follows if there is no error. -/
def ahead (a : List UInt8) (r : Except Nat (List UInt8)) : Except Nat (List UInt8) := match r with
  | .error e => .error e
  | .ok b => .ok (a ++ b)
/-- Nums and Strs. -/
def layAll {α : Type} (lay : α → Except Nat (List UInt8)) (l : List α) : Except Nat (List UInt8) :=
  if 255 < l.length then .error 4 else ahead (high l.length 1) (each lay l)

theorem ahead_nil (r : Except Nat (List UInt8)) : ahead [] r = r := by cases r <;> rfl
theorem ahead_error (a : List UInt8) (e : Nat) : ahead a (.error e) = .error e := rfl
theorem ahead_ok (a b : List UInt8) : ahead a (.ok b) = .ok (a ++ b) := rfl
theorem each_nil {α : Type} (lay : α → Except Nat (List UInt8)) : each lay [] = .ok [] := rfl
theorem each_error {α : Type} (lay : α → Except Nat (List UInt8)) (x : α) (l : List α) (e : Nat) (h : lay x = .error e) : each lay (x :: l) = .error e := by rw [each, h]
theorem each_ok {α : Type} (lay : α → Except Nat (List UInt8)) (x : α) (l : List α) (a : List UInt8) (h : lay x = .ok a) : each lay (x :: l) = ahead a (each lay l) := by
  rw [each, h]
  cases each lay l <;> rfl
theorem ahead_ahead (a b : List UInt8) (r : Except Nat (List UInt8)) : ahead a (ahead b r) = ahead (a ++ b) r := by
  cases r
  · rfl
  · simp [ahead]

/-- As many bytes from a place on as are wanted, and the place behind them. -/
def cut (s : List UInt8) (p : Int) (m : Nat) : Except Nat (List UInt8 × Nat) :=
  if p < 0 ∨ (s.length : Int) < p then .error 1 else if (s.length : Int) - p < (m : Int) then .error 2 else .ok ((s.drop p.toNat).take m, p.toNat + m)
/-- Bytes as a number, the highest first. -/
def val (l : List UInt8) : Nat := l.foldl (fun n b => n * 256 + b.toNat) 0
def readHigh (s : List UInt8) (p : Int) (m : Nat) : Except Nat (Nat × Nat) := match cut s p m with
  | .error e => .error e
  | .ok r => .ok (val r.1, r.2)
def readNum (s : List UInt8) (p : Int) : Except Nat (Nat × Nat) := readHigh s p 5
def readStr (s : List UInt8) (p : Int) : Except Nat (List UInt8 × Nat) := match readHigh s p 2 with
  | .error e => .error e
  | .ok r => if 6000 < r.1 then .error 4 else cut s r.2 r.1
/-- As many parts as are told. -/
def readN {α : Type} (rd : Int → Except Nat (α × Nat)) : Nat → Nat → Except Nat (List α × Nat)
  | 0, p => .ok ([], p)
  | k + 1, p => match rd p with
    | .error e => .error e
    | .ok r => match readN rd k r.2 with
      | .error e => .error e
      | .ok t => .ok (r.1 :: t.1, t.2)
/-- A list in front of what follows. -/
def front {α : Type} (a : List α) (r : Except Nat (List α × Nat)) : Except Nat (List α × Nat) := match r with
  | .error e => .error e
  | .ok t => .ok (a ++ t.1, t.2)
def readAll {α : Type} (rd : List UInt8 → Int → Except Nat (α × Nat)) (s : List UInt8) (p : Int) : Except Nat (List α × Nat) := match readHigh s p 1 with
  | .error e => .error e
  | .ok r => readN (rd s) r.1 r.2

theorem front_nil {α : Type} (r : Except Nat (List α × Nat)) : front [] r = r := by cases r <;> rfl
theorem readN_zero {α : Type} (rd : Int → Except Nat (α × Nat)) (p : Nat) : readN rd 0 p = .ok ([], p) := rfl
theorem readN_error {α : Type} (rd : Int → Except Nat (α × Nat)) (k p e : Nat) (h : rd p = .error e) : readN rd (k + 1) p = .error e := by rw [readN, h]
theorem readN_ok {α : Type} (rd : Int → Except Nat (α × Nat)) (k p q : Nat) (x : α) (h : rd p = .ok (x, q)) : readN rd (k + 1) p = front [x] (readN rd k q) := by
  rw [readN, h]
  dsimp only
  cases readN rd k q <;> rfl
theorem front_front {α : Type} (a b : List α) (r : Except Nat (List α × Nat)) : front a (front b r) = front (a ++ b) r := by
  cases r
  · rfl
  · simp [front]

theorem high_length (n m : Nat) : (high n m).length = m := by simp [high]
theorem num_length (n : Int) (a : List UInt8) (h : num n = .ok a) : a.length = 5 := by
  unfold num at h
  split at h
  · cases h
  · cases h
    exact high_length _ _
theorem str_length (s a : List UInt8) (h : str s = .ok a) : a.length ≤ 6002 := by
  unfold str at h
  split at h
  · cases h
  · cases h
    rw [List.length_append, high_length]
    omega
theorem cut_facts (s : List UInt8) (p : Int) (m q : Nat) (l : List UInt8) (h : cut s p m = .ok (l, q)) : 0 ≤ p ∧ q = p.toNat + m ∧ q ≤ s.length ∧ l = (s.drop p.toNat).take m ∧ l.length = m := by
  unfold cut at h
  split at h
  · cases h
  · split at h
    · cases h
    · cases h
      refine ⟨by omega, rfl, by omega, rfl, ?_⟩
      rw [List.length_take, List.length_drop]
      omega
theorem foldl_lt (l : List UInt8) : ∀ n : Nat, l.foldl (fun n b => n * 256 + b.toNat) n < (n + 1) * 256 ^ l.length := by
  induction l with
  | nil => intro n; simp
  | cons b l ih =>
    intro n
    have h := ih (n * 256 + b.toNat)
    have hb := b.toNat_lt
    have h2 : (n * 256 + b.toNat + 1) * 256 ^ l.length ≤ ((n + 1) * 256) * 256 ^ l.length := Nat.mul_le_mul_right _ (by omega)
    have e : 256 ^ (b :: l).length = 256 * 256 ^ l.length := by rw [List.length_cons, Nat.pow_succ, Nat.mul_comm]
    rw [e, ← Nat.mul_assoc]
    exact Nat.lt_of_lt_of_le h h2
theorem val_lt (l : List UInt8) : val l < 256 ^ l.length := by
  have := foldl_lt l 0
  simpa [val] using this
theorem val_nil : val [] = 0 := rfl
theorem val_snoc (l : List UInt8) (b : UInt8) : val (l ++ [b]) = val l * 256 + b.toNat := by simp [val, List.foldl_append]
theorem val_take (l : List UInt8) (k : Nat) (h : k < l.length) : val (l.take (k + 1)) = val (l.take k) * 256 + l[k].toNat := by
  rw [List.take_succ_eq_append_getElem h, val_snoc]

theorem readHigh_facts (s : List UInt8) (p : Int) (m q n : Nat) (h : readHigh s p m = .ok (n, q)) : 0 ≤ p ∧ q = p.toNat + m ∧ q ≤ s.length ∧ n = val ((s.drop p.toNat).take m) ∧ n < 256 ^ m := by
  unfold readHigh at h
  cases hc : cut s p m with
  | error e => rw [hc] at h; cases h
  | ok r =>
    rw [hc] at h
    obtain ⟨l, q2⟩ := r
    obtain ⟨h1, h2, h3, h4, h5⟩ := cut_facts s p m q2 l hc
    cases h
    refine ⟨h1, h2, h3, by rw [h4], ?_⟩
    have := val_lt l
    rw [h5] at this
    exact this
theorem cut_err (s : List UInt8) (p : Int) (m e : Nat) (h : cut s p m = .error e) : 1 ≤ e ∧ e ≤ 2 := by
  unfold cut at h
  split at h
  · cases h; omega
  · split at h
    · cases h; omega
    · cases h
theorem readHigh_err (s : List UInt8) (p : Int) (m e : Nat) (h : readHigh s p m = .error e) : 1 ≤ e ∧ e ≤ 2 := by
  unfold readHigh at h
  cases hc : cut s p m with
  | error x =>
    rw [hc] at h
    cases h
    exact cut_err s p m _ hc
  | ok r => rw [hc] at h; cases h
theorem readStr_err (s : List UInt8) (p : Int) (e : Nat) (h : readStr s p = .error e) : 1 ≤ e ∧ e ≤ 4 := by
  unfold readStr at h
  cases hc : readHigh s p 2 with
  | error x =>
    rw [hc] at h
    cases h
    have := readHigh_err s p 2 _ hc
    omega
  | ok r =>
    rw [hc] at h
    dsimp only at h
    split at h
    · cases h; omega
    · have := cut_err _ _ _ _ h
      omega
theorem num_err (n : Int) (e : Nat) (h : num n = .error e) : 1 ≤ e ∧ e ≤ 4 := by
  unfold num at h
  split at h
  · cases h; omega
  · cases h
theorem str_err (s : List UInt8) (e : Nat) (h : str s = .error e) : 1 ≤ e ∧ e ≤ 4 := by
  unfold str at h
  split at h
  · cases h; omega
  · cases h
theorem readNum_facts (s : List UInt8) (p : Int) (q n : Nat) (h : readNum s p = .ok (n, q)) : 0 ≤ p ∧ q = p.toNat + 5 ∧ q ≤ s.length ∧ n < 1099511627776 := by
  have := readHigh_facts s p 5 q n h
  exact ⟨this.1, this.2.1, this.2.2.1, this.2.2.2.2⟩
theorem readStr_facts (s : List UInt8) (p : Int) (q : Nat) (l : List UInt8) (h : readStr s p = .ok (l, q)) : 0 ≤ p ∧ q = p.toNat + 2 + l.length ∧ q ≤ s.length ∧ l.length ≤ 6000 ∧ l.length = val ((s.drop p.toNat).take 2) ∧ l = (s.drop (p.toNat + 2)).take l.length := by
  unfold readStr at h
  cases hc : readHigh s p 2 with
  | error e => rw [hc] at h; cases h
  | ok r =>
    rw [hc] at h
    obtain ⟨n, q2⟩ := r
    obtain ⟨h1, h2, h3, h4, h5⟩ := readHigh_facts s p 2 q2 n hc
    dsimp only at h
    split at h
    · cases h
    · obtain ⟨g1, g2, g3, g4, g5⟩ := cut_facts s q2 n q l h
      have e : (q2 : Int).toNat = p.toNat + 2 := by omega
      rw [e] at g2 g4
      refine ⟨h1, by omega, g3, by omega, by rw [g5]; exact h4, by rw [g5]; exact g4⟩

/-- Bytes of a number, and the number of bytes. -/
theorem high_succ (n m : Nat) : high n (m + 1) = high (n / 256) m ++ [UInt8.ofNat n] := by
  apply List.ext_getElem (by simp [high])
  intro i h1 h2
  have hi : i < m + 1 := by simpa [high] using h1
  by_cases e : i = m
  · subst e
    rw [List.getElem_append_right (by simp [high])]
    simp [high]
  · rw [List.getElem_append_left (by simp [high]; omega)]
    simp only [high, List.getElem_map, List.getElem_range]
    congr 1
    have e2 : 8 * (m + 1 - 1 - i) = 8 + 8 * (m - 1 - i) := by omega
    rw [e2, Nat.pow_add, ← Nat.div_div_eq_div_mul]
theorem val_high (m : Nat) : ∀ n : Nat, n < 256 ^ m → val (high n m) = n := by
  induction m with
  | zero => intro n h; simp at h; subst h; rfl
  | succ m ih =>
    intro n h
    rw [high_succ, val_snoc, ih (n / 256) (by rw [Nat.pow_succ] at h; omega)]
    simp only [UInt8.toNat_ofNat']
    omega
theorem high_val (l : List UInt8) (m : Nat) (h : l.length = m) : high (val l) m = l := by
  induction m generalizing l with
  | zero => rw [List.eq_nil_of_length_eq_zero h]; rfl
  | succ m ih =>
    obtain ⟨t, b, rfl⟩ : ∃ t b, l = t ++ [b] := ⟨l.dropLast, l.getLast (by intro e; rw [e] at h; simp at h), (List.dropLast_concat_getLast _).symm⟩
    have ht : t.length = m := by simpa using h
    have hb := b.toNat_lt
    rw [high_succ, val_snoc]
    have e1 : (val t * 256 + b.toNat) / 256 = val t := by omega
    rw [e1, ih t ht]
    congr 2
    apply UInt8.toNat_inj.mp
    simp only [UInt8.toNat_ofNat']
    omega

theorem drop_mid (u a v : List UInt8) : ((u ++ (a ++ v)).drop u.length).take a.length = a := by
  rw [List.drop_left, List.take_left]
theorem cut_mid (u a v : List UInt8) : cut (u ++ (a ++ v)) (u.length : Int) a.length = .ok (a, u.length + a.length) := by
  unfold cut
  rw [if_neg (by simp only [List.length_append]; omega), if_neg (by simp only [List.length_append]; omega)]
  have e : (u.length : Int).toNat = u.length := by omega
  rw [e, drop_mid]
theorem readHigh_mid (u v : List UInt8) (n m : Nat) (h : n < 256 ^ m) : readHigh (u ++ (high n m ++ v)) (u.length : Int) m = .ok (n, u.length + m) := by
  have hc := cut_mid u (high n m) v
  rw [high_length] at hc
  rw [readHigh, hc]
  show Except.ok (val (high n m), u.length + m) = _
  rw [val_high m n h]

/-- What is laid is read. -/
theorem num_read (n : Nat) (a u v : List UInt8) (h : num (n : Int) = .ok a) : readNum (u ++ (a ++ v)) (u.length : Int) = .ok (n, u.length + a.length) := by
  have hl := num_length _ _ h
  unfold num at h
  split at h
  · cases h
  · cases h
    have e : (n : Int).toNat = n := by omega
    rw [e] at hl ⊢
    rw [readNum, readHigh_mid u v n 5 (by omega), hl]
theorem str_read (s a u v : List UInt8) (h : str s = .ok a) : readStr (u ++ (a ++ v)) (u.length : Int) = .ok (s, u.length + a.length) := by
  unfold str at h
  split at h
  · cases h
  · rename_i hs
    cases h
    rw [List.append_assoc, readStr, readHigh_mid u (s ++ v) s.length 2 (by omega)]
    show (if 6000 < s.length then Except.error 4 else cut _ ((u.length + 2 : Nat) : Int) s.length) = _
    rw [if_neg hs]
    have hc := cut_mid (u ++ high s.length 2) s v
    rw [List.length_append, high_length, List.append_assoc] at hc
    rw [hc, List.length_append, high_length]
    congr 2
    omega
theorem each_read {α : Type} (lay : α → Except Nat (List UInt8)) (rd : List UInt8 → Int → Except Nat (α × Nat)) (hrd : ∀ x a u v, lay x = .ok a → rd (u ++ (a ++ v)) (u.length : Int) = .ok (x, u.length + a.length)) (l : List α) :
    ∀ b u v, each lay l = .ok b → readN (rd (u ++ (b ++ v))) l.length u.length = .ok (l, u.length + b.length) := by
  induction l with
  | nil =>
    intro b u v h
    cases h
    rfl
  | cons x l ih =>
    intro b u v h
    cases hx : lay x with
    | error e => rw [each_error lay x l e hx] at h; cases h
    | ok a =>
      rw [each_ok lay x l a hx] at h
      cases hl : each lay l with
      | error e => rw [hl] at h; cases h
      | ok c =>
        rw [hl] at h
        cases h
        have g := hrd x a u (c ++ v) hx
        have k := ih c (u ++ a) v hl
        rw [List.append_assoc, List.length_append] at k
        rw [List.append_assoc, List.length_cons, readN_ok _ _ _ _ x g, k]
        show Except.ok (_, _) = _
        rw [List.length_append]
        congr 2
        omega
theorem layAll_read {α : Type} (lay : α → Except Nat (List UInt8)) (rd : List UInt8 → Int → Except Nat (α × Nat)) (hrd : ∀ x a u v, lay x = .ok a → rd (u ++ (a ++ v)) (u.length : Int) = .ok (x, u.length + a.length)) (l : List α) (a u : List UInt8) (h : layAll lay l = .ok a) :
    readAll rd (u ++ a) (u.length : Int) = .ok (l, u.length + a.length) := by
  unfold layAll at h
  split at h
  · cases h
  · rename_i hs
    cases hl : each lay l with
    | error e => rw [hl] at h; cases h
    | ok b =>
      rw [hl] at h
      cases h
      rw [readAll, readHigh_mid u b l.length 1 (by omega)]
      show readN (rd _) l.length (u.length + 1) = _
      have k := each_read lay rd hrd l b (u ++ high l.length 1) [] hl
      rw [List.length_append, high_length, List.append_nil, List.append_assoc] at k
      rw [k, List.length_append, high_length]
      congr 2
      omega

/-- What is read is laid so. -/
theorem num_laid (s : List UInt8) (p q n : Nat) (h : readNum s (p : Int) = .ok (n, q)) : num (n : Int) = .ok ((s.drop p).take (q - p)) ∧ p ≤ q ∧ q ≤ s.length := by
  obtain ⟨h1, h2, h3, h4, h5⟩ := readHigh_facts s p 5 q n h
  have e : (p : Int).toNat = p := by omega
  rw [e] at h2 h4
  refine ⟨?_, by omega, h3⟩
  have e2 : q - p = 5 := by omega
  have hl : ((s.drop p).take 5).length = 5 := by rw [List.length_take, List.length_drop]; omega
  have hn := high_val _ 5 hl
  rw [← h4] at hn
  rw [e2, num, if_neg (by omega)]
  have e3 : (n : Int).toNat = n := by omega
  rw [e3, hn]
theorem str_laid (s : List UInt8) (p q : Nat) (l : List UInt8) (h : readStr s (p : Int) = .ok (l, q)) : str l = .ok ((s.drop p).take (q - p)) ∧ p ≤ q ∧ q ≤ s.length := by
  obtain ⟨h1, h2, h3, h4, h5, h6⟩ := readStr_facts s p q l h
  have e : (p : Int).toNat = p := by omega
  rw [e] at h2 h5 h6
  refine ⟨?_, by omega, h3⟩
  have e2 : q - p = 2 + l.length := by omega
  have hl : ((s.drop p).take 2).length = 2 := by rw [List.length_take, List.length_drop]; omega
  have hn := high_val _ 2 hl
  rw [← h5] at hn
  rw [e2, str, if_neg (by omega), List.take_add, hn]
  congr 2
  rw [List.drop_drop]
  exact h6
theorem each_laid {α : Type} (lay : α → Except Nat (List UInt8)) (rd : List UInt8 → Int → Except Nat (α × Nat)) (hrd : ∀ (s : List UInt8) (p q : Nat) (x : α), rd s (p : Int) = .ok (x, q) → lay x = .ok ((s.drop p).take (q - p)) ∧ p ≤ q ∧ q ≤ s.length) (s : List UInt8) (k : Nat) :
    ∀ (p q : Nat) (l : List α), readN (rd s) k p = .ok (l, q) → each lay l = .ok ((s.drop p).take (q - p)) ∧ p ≤ q ∧ (p ≤ s.length → q ≤ s.length) ∧ l.length = k := by
  induction k with
  | zero =>
    intro p q l h
    cases h
    exact ⟨by rw [Nat.sub_self, List.take_zero]; rfl, Nat.le_refl _, fun h => h, rfl⟩
  | succ k ih =>
    intro p q l h
    cases hx : rd s (p : Int) with
    | error e => rw [readN_error _ _ _ e hx] at h; cases h
    | ok r =>
      obtain ⟨x, q1⟩ := r
      rw [readN_ok _ _ _ q1 x hx] at h
      obtain ⟨g1, g2, g3⟩ := hrd s p q1 x hx
      cases hl : readN (rd s) k q1 with
      | error e => rw [hl] at h; cases h
      | ok t =>
        obtain ⟨l2, q2⟩ := t
        rw [hl] at h
        obtain ⟨k1, k2, k3, k4⟩ := ih q1 q2 l2 hl
        cases h
        refine ⟨?_, by omega, fun _ => k3 g3, by rw [List.length_append, k4]; simp; omega⟩
        show each lay (x :: l2) = _
        rw [each_ok lay x l2 _ g1, k1]
        show Except.ok _ = _
        congr 1
        have e1 : q2 - p = (q1 - p) + (q2 - q1) := by omega
        rw [e1, List.take_add, List.drop_drop]
        congr 3
        omega
theorem layAll_laid {α : Type} (lay : α → Except Nat (List UInt8)) (rd : List UInt8 → Int → Except Nat (α × Nat)) (hrd : ∀ (s : List UInt8) (p q : Nat) (x : α), rd s (p : Int) = .ok (x, q) → lay x = .ok ((s.drop p).take (q - p)) ∧ p ≤ q ∧ q ≤ s.length) (s : List UInt8) (q : Nat) (l : List α) (h : readAll rd s 0 = .ok (l, q)) :
    layAll lay l = .ok (s.take q) ∧ q ≤ s.length ∧ l.length ≤ 255 := by
  unfold readAll at h
  cases hc : readHigh s 0 1 with
  | error e => rw [hc] at h; cases h
  | ok r =>
    obtain ⟨n, q1⟩ := r
    rw [hc] at h
    obtain ⟨h1, h2, h3, h4, h5⟩ := readHigh_facts s 0 1 q1 n hc
    dsimp only at h
    have e0 : (0 : Int).toNat = 0 := rfl
    rw [e0] at h2 h4
    obtain ⟨k1, k2, k3, k4⟩ := each_laid lay rd hrd s n q1 q l h
    have hl : ((s.drop 0).take 1).length = 1 := by rw [List.length_take, List.length_drop]; omega
    have hn := high_val _ 1 hl
    rw [← h4, List.drop_zero] at hn
    refine ⟨?_, k3 h3, by omega⟩
    obtain rfl : q1 = 1 := by omega
    obtain ⟨d, rfl⟩ : ∃ d, q = 1 + d := ⟨q - 1, by omega⟩
    rw [layAll, if_neg (by omega), k1, ahead_ok, k4, hn, Nat.add_sub_cancel_left, List.take_add]
end Go.Proofs.YtpamdpfgcbadhaaDoor.Prt
