/-
  The plain mathematics of package tape: decimal digits, names of numbers, cells got and put, bytes that fit, cells as bytes and back: what is put is got, others are as they were (P15.10); names of unlike numbers are unlike (P15.11); what is printed is read, what is read is printed so (P15.12). Upon XPrt: nothing here speaks of a program.
-/
import Derived.Test.YtpamdpfgcbadhaaDoorPrt
namespace Go.Proofs.YtpamdpfgcbadhaaDoor.Tap
open Go.RowKit Mur Prt Lanes

/-- The digits of a number. -/
def digits (n : Nat) : List UInt8 := if n < 10 then [UInt8.ofNat (48 + n)] else digits (n / 10) ++ [UInt8.ofNat (48 + n % 10)]
termination_by n
decreasing_by omega
def dec (n : Int) : List UInt8 := if n < 1 then [48] else digits n.toNat
theorem digits_low (n : Nat) (h : n < 10) : digits n = [UInt8.ofNat (48 + n)] := by rw [digits, if_pos h]
theorem digits_high (n : Nat) (h : ¬ n < 10) : digits n = digits (n / 10) ++ [UInt8.ofNat (48 + n % 10)] := by rw [digits, if_neg h]
theorem dec_nat (n : Nat) : dec (n : Int) = digits n := by
  unfold dec
  split
  · obtain rfl : n = 0 := by omega
    rw [digits_low 0 (by omega)]
    rfl
  · rw [Int.toNat_natCast]
def valD (l : List UInt8) : Nat := l.foldl (fun n b => n * 10 + (b.toNat - 48)) 0
theorem digit_val (k : Nat) (h : k < 10) : (UInt8.ofNat (48 + k)).toNat - 48 = k := by
  rw [UInt8.toNat_ofNat']
  omega
theorem valD_digits (n : Nat) : valD (digits n) = n := by
  induction n using Nat.strongRecOn with
  | ind n ih =>
    by_cases h : n < 10
    · rw [digits_low n h]
      show 0 * 10 + ((UInt8.ofNat (48 + n)).toNat - 48) = n
      rw [digit_val n h]
      omega
    · rw [digits_high n h, valD, List.foldl_append]
      show valD (digits (n / 10)) * 10 + ((UInt8.ofNat (48 + n % 10)).toNat - 48) = n
      rw [ih (n / 10) (by omega), digit_val _ (by omega)]
      omega
theorem digits_same (n m : Nat) (h : digits n = digits m) : n = m := by rw [← valD_digits n, h, valD_digits]
theorem digits_plain (n : Nat) : ∀ b ∈ digits n, b ≠ 32 := by
  induction n using Nat.strongRecOn with
  | ind n ih =>
    have key : ∀ k, k < 10 → UInt8.ofNat (48 + k) ≠ 32 := fun k hk h => by
      have := congrArg UInt8.toNat h
      rw [UInt8.toNat_ofNat'] at this
      have e : (32 : UInt8).toNat = 32 := rfl
      omega
    by_cases h : n < 10
    · rw [digits_low n h]
      intro b hb
      obtain rfl := List.mem_singleton.1 hb
      exact key n h
    · rw [digits_high n h]
      intro b hb
      rcases List.mem_append.1 hb with hb | hb
      · exact ih _ (by omega) b hb
      · obtain rfl := List.mem_singleton.1 hb
        exact key _ (by omega)
theorem digits_some (n : Nat) : digits n ≠ [] := by
  by_cases h : n < 10
  · rw [digits_low n h]; simp
  · rw [digits_high n h]; simp
theorem digits_long (n k : Nat) (h : n < 10 ^ (k + 1)) : (digits n).length ≤ k + 1 := by
  induction k generalizing n with
  | zero => rw [digits_low n (by omega)]; exact Nat.le_refl _
  | succ k ih =>
    by_cases g : n < 10
    · rw [digits_low n g]; simp
    · rw [digits_high n g, List.length_append]
      have : n / 10 < 10 ^ (k + 1) := by
        rw [Nat.pow_succ] at h
        omega
      have := ih _ this
      show _ + 1 ≤ _
      omega

/-- A word, and numbers, with a blank ahead of each. -/
def tail : List Int → List UInt8
  | [] => []
  | n :: l => 32 :: (dec n ++ tail l)
def joined (word : List UInt8) (l : List Int) : List UInt8 := word ++ tail l
theorem split_blank (a b r q : List UInt8) (ha : ∀ x ∈ a, x ≠ 32) (hb : ∀ x ∈ b, x ≠ 32) (hr : r = [] ∨ ∃ t, r = 32 :: t) (hq : q = [] ∨ ∃ t, q = 32 :: t) (h : a ++ r = b ++ q) : a = b ∧ r = q := by
  induction a generalizing b with
  | nil =>
    cases b with
    | nil => exact ⟨rfl, h⟩
    | cons y b =>
      rcases hr with rfl | ⟨t, rfl⟩
      · cases h
      · simp only [List.nil_append, List.cons_append, List.cons.injEq] at h
        exact absurd h.1.symm (hb y List.mem_cons_self)
  | cons x a ih =>
    cases b with
    | nil =>
      rcases hq with rfl | ⟨t, rfl⟩
      · cases h
      · simp only [List.nil_append, List.cons_append, List.cons.injEq] at h
        exact absurd h.1 (ha x List.mem_cons_self)
    | cons y b =>
      simp only [List.cons_append, List.cons.injEq] at h
      obtain ⟨h1, h2⟩ := ih b (fun z hz => ha z (List.mem_cons_of_mem _ hz)) (fun z hz => hb z (List.mem_cons_of_mem _ hz)) h.2
      exact ⟨by rw [h.1, h1], h2⟩
theorem tail_blank (l : List Int) : tail l = [] ∨ ∃ t, tail l = 32 :: t := by
  cases l with
  | nil => exact .inl rfl
  | cons n l => exact .inr ⟨_, rfl⟩
theorem tail_same (l m : List Nat) (h : tail (l.map fun n : Nat => (n : Int)) = tail (m.map fun n : Nat => (n : Int))) : l = m := by
  induction l generalizing m with
  | nil =>
    cases m with
    | nil => rfl
    | cons x m => cases h
  | cons x l ih =>
    cases m with
    | nil => cases h
    | cons y m =>
      simp only [List.map_cons, tail, List.cons.injEq, true_and, dec_nat] at h
      obtain ⟨h1, h2⟩ := split_blank _ _ _ _ (digits_plain x) (digits_plain y) (tail_blank _) (tail_blank _) h
      rw [digits_same x y h1, ih m h2]
/-- Names of unlike numbers are unlike. -/
theorem joined_same (word : List UInt8) (l m : List Nat) : (joined word (l.map fun n : Nat => (n : Int)) = joined word (m.map fun n : Nat => (n : Int))) ↔ l = m := by
  constructor
  · intro h
    exact tail_same l m (List.append_cancel_left h)
  · intro h
    rw [h]
theorem joined_more (word : List UInt8) (l m : List Int) : joined (joined word l) m = joined word (l ++ m) := by
  rw [joined, joined, joined, List.append_assoc]
  congr 1
  induction l with
  | nil => rfl
  | cons x l ih => simp only [tail, List.cons_append, List.append_assoc, ih]

/-- Cells: names and bytes. -/
abbrev C := List UInt8 × List UInt8
def get (l : List C) (n : List UInt8) : Option (List UInt8) := match l with
  | [] => none
  | c :: l => if c.1 = n then some c.2 else get l n
def putF (n s : List UInt8) : Bool → List C → List C
  | done, [] => if done = true then [] else [(n, s)]
  | done, c :: l => if c.1 = n then (if done = true then putF n s true l else (n, s) :: putF n s true l) else c :: putF n s done l
def put (l : List C) (n s : List UInt8) : List C := putF n s false l
theorem get_putF (l : List C) (n s m : List UInt8) (h : m ≠ n) (done : Bool) : get (putF n s done l) m = get l m := by
  induction l generalizing done with
  | nil =>
    cases done
    · show get [(n, s)] m = none
      rw [get, if_neg (fun e => h e.symm)]
      rfl
    · rfl
  | cons c l ih =>
    unfold putF
    by_cases hc : c.1 = n
    · rw [if_pos hc]
      have hm : get (c :: l) m = get l m := by rw [get, if_neg (fun e => h (e.symm.trans hc))]
      rw [hm]
      cases done
      · show get ((n, s) :: putF n s true l) m = _
        rw [get, if_neg (fun e => h e.symm), ih]
      · exact ih true
    · rw [if_neg hc, get, get, ih]
theorem putF_got (l : List C) (n s : List UInt8) : get (putF n s false l) n = some s := by
  induction l with
  | nil =>
    show get [(n, s)] n = some s
    rw [get, if_pos rfl]
  | cons c l ih =>
    unfold putF
    by_cases hc : c.1 = n
    · rw [if_pos hc]
      show get ((n, s) :: _) n = some s
      rw [get, if_pos rfl]
    · rw [if_neg hc, get, if_neg hc]
      exact ih
/-- What is put is got, and other cells are as they were. -/
theorem put_got (l : List C) (n s : List UInt8) : get (put l n s) n = some s := putF_got l n s
theorem put_other (l : List C) (n s m : List UInt8) (h : m ≠ n) : get (put l n s) m = get l m := get_putF l n s m h false

/-- Bytes that fit. -/
def fit (s : List UInt8) (n : Int) : List UInt8 := (s ++ List.replicate (max 0 (min n 6000)).toNat 0).take (max 0 (min n 6000)).toNat

/-- Cells as bytes. -/
def okC (c : C) : Bool := decide (1 ≤ c.1.length) && decide (c.1.length ≤ 200) && decide (c.2.length ≤ 6000)
theorem okC_iff (c : C) : okC c = true ↔ 1 ≤ c.1.length ∧ c.1.length ≤ 200 ∧ c.2.length ≤ 6000 := by
  simp only [okC, Bool.and_eq_true, decide_eq_true_eq, and_assoc]
def tell (s : List UInt8) : List UInt8 := high s.length 2 ++ s
def layC (c : C) : Except Nat (List UInt8) := if okC c = true then .ok (tell c.1 ++ tell c.2) else .error 4
def print (l : List C) : Except Nat (List UInt8) := if 1000 < l.length then .error 4 else each layC l
def cutT (s : List UInt8) : Option (List UInt8 × List UInt8) := if s.length < 2 then none else if s.length - 2 < val (s.take 2) then none else some ((s.drop 2).take (val (s.take 2)), (s.drop 2).drop (val (s.take 2)))
/-- What is read, round by round: how many rounds at most, the cells so far, the rest. -/
def readG : Nat → List C → List UInt8 → Except Nat (List C)
  | 0, acc, _ => .ok acc
  | f + 1, acc, s => if s = [] then .ok acc else match cutT s with
    | none => .error 2
    | some x => match cutT x.2 with
      | none => .error 2
      | some y => if acc.length = 1000 ∨ okC (x.1, y.1) = false then .error 4 else readG f (acc ++ [(x.1, y.1)]) y.2
def read (s : List UInt8) : Except Nat (List C) := readG s.length [] s

theorem cutT_some (s a r : List UInt8) (h : cutT s = some (a, r)) : s = tell a ++ r ∧ a.length < 65536 := by
  unfold cutT at h
  split at h
  · cases h
  · rename_i h2
    split at h
    · cases h
    · rename_i h3
      simp only [Option.some.injEq, Prod.mk.injEq] at h
      obtain ⟨rfl, rfl⟩ := h
      have hl : (s.take 2).length = 2 := by rw [List.length_take]; omega
      have ha : ((s.drop 2).take (val (s.take 2))).length = val (s.take 2) := by rw [List.length_take, List.length_drop]; omega
      refine ⟨?_, by rw [ha]; have := val_lt (s.take 2); rw [hl] at this; exact this⟩
      rw [tell, ha, high_val _ 2 hl, List.append_assoc, List.take_append_drop, List.take_append_drop]
theorem cutT_tell (a r : List UInt8) (h : a.length < 65536) : cutT (tell a ++ r) = some (a, r) := by
  have e1 : (tell a ++ r).take 2 = high a.length 2 := by
    rw [tell, List.append_assoc, List.take_append_of_le_length (by rw [high_length]; exact Nat.le_refl _)]
    exact List.take_of_length_le (by rw [high_length]; exact Nat.le_refl _)
  have e2 : (tell a ++ r).drop 2 = a ++ r := by
    rw [tell, List.append_assoc]
    have := List.drop_left' (l₁ := high a.length 2) (l₂ := a ++ r) (high_length a.length 2)
    exact this
  have e3 : val (high a.length 2) = a.length := by
    have := readHigh_mid [] [] a.length 2 (by omega)
    simp only [List.nil_append, List.append_nil, List.length_nil, Nat.zero_add] at this
    obtain ⟨-, -, -, h4, -⟩ := readHigh_facts _ _ _ _ _ this
    rw [Int.natCast_zero] at h4
    simp only [Int.toNat_zero, List.drop_zero] at h4
    rw [List.take_of_length_le (by rw [high_length]; exact Nat.le_refl _)] at h4
    exact h4.symm
  have e4 : (tell a ++ r).length = 2 + a.length + r.length := by rw [List.length_append, tell, List.length_append, high_length]
  unfold cutT
  rw [if_neg (by omega), e1, e2, e3, if_neg (by omega)]
  rw [List.take_left' rfl, List.drop_left' rfl]

theorem tell_some (a r : List UInt8) : tell a ++ r ≠ [] := by
  rw [tell, List.append_assoc]
  intro h
  have := congrArg List.length h
  rw [List.length_append, high_length] at this
  simp at this
theorem tell_length (a : List UInt8) : (tell a).length = 2 + a.length := by rw [tell, List.length_append, high_length]
theorem readG_done (f : Nat) (acc : List C) : readG f acc [] = .ok acc := by
  cases f with
  | zero => rfl
  | succ f => rw [readG, if_pos rfl]
theorem readG_next (f : Nat) (acc : List C) (c : C) (r : List UInt8) (hc : okC c = true) (ha : acc.length ≠ 1000) : readG (f + 1) acc (tell c.1 ++ (tell c.2 ++ r)) = readG f (acc ++ [c]) r := by
  have h := (okC_iff c).1 hc
  rw [readG, if_neg (tell_some _ _), cutT_tell _ _ (by omega)]
  dsimp only
  rw [cutT_tell _ _ (by omega)]
  dsimp only
  rw [if_neg (by rw [hc]; simp [ha])]
theorem layC_ok (c : C) (a : List UInt8) (h : layC c = .ok a) : okC c = true ∧ a = tell c.1 ++ tell c.2 := by
  unfold layC at h
  split at h
  · cases h; exact ⟨by assumption, rfl⟩
  · cases h
theorem each_read (l : List C) : ∀ (f : Nat) (acc : List C) (a : List UInt8), each layC l = .ok a → a.length ≤ f → acc.length + l.length ≤ 1000 → readG f acc a = .ok (acc ++ l) := by
  induction l with
  | nil =>
    intro f acc a h _ _
    cases h
    rw [readG_done, List.append_nil]
  | cons c l ih =>
    intro f acc a h hf hl
    cases hc : layC c with
    | error e => rw [each_error layC c l e hc] at h; cases h
    | ok b =>
      rw [each_ok layC c l b hc] at h
      cases hr : each layC l with
      | error e => rw [hr, Prt.ahead_error] at h; cases h
      | ok r =>
        rw [hr, Prt.ahead_ok] at h
        obtain rfl : b ++ r = a := Except.ok.inj h
        obtain ⟨k1, rfl⟩ := layC_ok c b hc
        rw [List.length_append, List.length_append, tell_length, tell_length] at hf
        rw [List.length_cons] at hl
        obtain ⟨g, rfl⟩ : ∃ g, f = g + 1 := ⟨f - 1, by omega⟩
        rw [List.append_assoc, readG_next g acc c r k1 (by omega), ih g (acc ++ [c]) r hr (by omega) (by rw [List.length_append]; simp; omega), List.append_assoc]
        rfl
/-- What is printed is read. -/
theorem print_read (l : List C) (a : List UInt8) (h : print l = .ok a) : read a = .ok l := by
  unfold print at h
  split at h
  · cases h
  · exact each_read l a.length [] a h (Nat.le_refl _) (by simp; omega)
theorem each_snoc (acc : List C) (c : C) (a b : List UInt8) (h : each layC acc = .ok a) (k : layC c = .ok b) : each layC (acc ++ [c]) = .ok (a ++ b) := by
  induction acc generalizing a with
  | nil =>
    cases h
    rw [List.nil_append, each_ok layC c [] b k]
    show Prt.ahead b (.ok []) = _
    rw [Prt.ahead_ok, List.append_nil, List.nil_append]
  | cons x acc ih =>
    cases hx : layC x with
    | error e => rw [each_error layC x acc e hx] at h; cases h
    | ok y =>
      rw [each_ok layC x acc y hx] at h
      cases hr : each layC acc with
      | error e => rw [hr, Prt.ahead_error] at h; cases h
      | ok r =>
        rw [hr, Prt.ahead_ok] at h
        obtain rfl : y ++ r = a := Except.ok.inj h
        rw [List.cons_append, each_ok layC x (acc ++ [c]) y hx, ih r hr, Prt.ahead_ok, List.append_assoc]
theorem readG_laid (f : Nat) : ∀ (acc : List C) (s a : List UInt8) (l : List C), s.length ≤ f → each layC acc = .ok a → acc.length ≤ 1000 → readG f acc s = .ok l → each layC l = .ok (a ++ s) ∧ l.length ≤ 1000 := by
  induction f with
  | zero =>
    intro acc s a l hf ha hl h
    obtain rfl : s = [] := List.length_eq_zero_iff.1 (by omega)
    cases h
    rw [List.append_nil]
    exact ⟨ha, hl⟩
  | succ f ih =>
    intro acc s a l hf ha hl h
    by_cases hs : s = []
    · subst hs
      rw [readG_done] at h
      cases h
      rw [List.append_nil]
      exact ⟨ha, hl⟩
    · rw [readG, if_neg hs] at h
      cases hx : cutT s with
      | none => rw [hx] at h; cases h
      | some x =>
        obtain ⟨n, r⟩ := x
        rw [hx] at h
        dsimp only at h
        cases hy : cutT r with
        | none => rw [hy] at h; cases h
        | some y =>
          obtain ⟨b, t⟩ := y
          rw [hy] at h
          dsimp only at h
          split at h
          · cases h
          · rename_i hc
            obtain ⟨e1, -⟩ := cutT_some _ _ _ hx
            obtain ⟨e2, -⟩ := cutT_some _ _ _ hy
            have hok : okC (n, b) = true := by
              cases ho : okC (n, b) with
              | true => rfl
              | false => exact absurd (.inr ho) hc
            have hne : acc.length ≠ 1000 := fun e => hc (.inl e)
            have hlay : layC (n, b) = .ok (tell n ++ tell b) := by rw [layC, if_pos hok]
            have hlen : t.length ≤ f := by
              have := congrArg List.length e1
              have := congrArg List.length e2
              rw [List.length_append, tell_length] at *
              omega
            obtain ⟨k1, k2⟩ := ih (acc ++ [(n, b)]) t _ l hlen (each_snoc acc (n, b) a _ ha hlay) (by rw [List.length_append]; simp; omega) h
            refine ⟨?_, k2⟩
            rw [k1, e1, e2]
            simp only [List.append_assoc]
/-- What is read is printed so. -/
theorem read_print (s : List UInt8) (l : List C) (h : read s = .ok l) : print l = .ok s := by
  obtain ⟨h1, h2⟩ := readG_laid s.length [] s [] l (Nat.le_refl _) rfl (Nat.zero_le _) h
  rw [print, if_neg (by omega), h1]
  rfl
/-- The names that begin with a word and a blank. -/
def begins (word n : List UInt8) : Bool := decide (word.length < n.length) && decide (n.take word.length = word) && decide (n[word.length]? = some 32)
def names (l : List C) (word : List UInt8) : List (List UInt8) := (l.map (·.1)).filter (begins word)
end Go.Proofs.YtpamdpfgcbadhaaDoor.Tap
