/-
  The plain mathematics of package chains: digits, runs, begins, leaves, signatures and what is found of them, as functions on lists of bytes. Nothing here speaks of a program: no condition but those that each lemma names.
-/
import Derived.Test.YtncafbejgidliaaDoorSha
namespace Go.Proofs.YtncafbejgidliaaDoor.Chn
open Go.RowKit Mur Sha

/-- A text as a value. -/
abbrev tx (l : List UInt8) : ByteArray := ⟨l.toArray⟩
theorem tx_list (l : List UInt8) : (tx l).data.toList = l := rfl
theorem tx_size (l : List UInt8) : (tx l).size = l.length := rfl
theorem sha_length (l : List UInt8) : (sha l).length = 32 := finish_length _ _ _

/-- Which shapes are right. -/
def Right (n h : Int) : Prop := 2 ≤ n ∧ n ≤ 32 ∧ 0 ≤ h ∧ h ≤ 8
instance (n h : Int) : Decidable (Right n h) := by unfold Right; infer_instance

/-- A number's lowest 64 bits. -/
def low64 (n : Int) : Nat := (n % 18446744073709551616).toNat
theorem low64_lt (n : Int) : low64 n < 18446744073709551616 := by unfold low64; omega
theorem low64_cast (n : Int) : (low64 n : Int) = n % 18446744073709551616 := by unfold low64; omega
def num (n : Int) (wd : Nat) : List UInt8 := Lanes.high (low64 n) wd
theorem num_length (n : Int) (wd : Nat) : (num n wd).length = wd := by simp [num, Lanes.high]

def runT : List UInt8 := [114, 117, 110]
def beginT : List UInt8 := [98, 101, 103, 105, 110]
def leafT : List UInt8 := [108, 101, 97, 102]

def value (N : Nat) (l : List (List UInt8)) : List UInt8 := (sha (parts l)).take N
theorem value_length (N : Nat) (l : List (List UInt8)) (h : N ≤ 32) : (value N l).length = N := by
  unfold value
  rw [List.length_take, sha_length]
  omega
def step (N : Nat) (room : List UInt8) (s0 s1 i : Int) (v : List UInt8) : List UInt8 := value N [runT, room, num s0 4, num s1 2, num i 1, v]
/-- So many steps from f on. -/
def run (N : Nat) (room : List UInt8) (s0 s1 : Int) (f : Nat) : Nat → List UInt8 → List UInt8
  | 0, v => v
  | k + 1, v => step N room s0 s1 ((f + k : Nat) : Int) (run N room s0 s1 f k v)
theorem run_add (N : Nat) (room : List UInt8) (s0 s1 : Int) (f a b : Nat) (v : List UInt8) : run N room s0 s1 (f + a) b (run N room s0 s1 f a v) = run N room s0 s1 f (a + b) v := by
  induction b with
  | zero => rfl
  | succ b ih => rw [run, ih, show a + (b + 1) = (a + b) + 1 by omega, run, Nat.add_assoc]
theorem run_length (N : Nat) (room : List UInt8) (s0 s1 : Int) (f k : Nat) (v : List UInt8) (h : N ≤ 32) (hv : v.length = N) : (run N room s0 s1 f k v).length = N := by
  cases k with
  | zero => exact hv
  | succ k => exact value_length N _ h
theorem run_le (N : Nat) (room : List UInt8) (s0 s1 : Int) (f k : Nat) (v : List UInt8) (h : N ≤ 32) : (run N room s0 s1 f k v).length ≤ v.length + 32 := by
  cases k with
  | zero => exact Nat.le_add_right _ _
  | succ k =>
    have := value_length N [runT, room, num s0 4, num s1 2, num ((f + k : Nat) : Int) 1, run N room s0 s1 f k v] h
    show (value N _).length ≤ _
    omega
/-- How far a run goes: from where, and how many steps. -/
def fromOf (a : Int) : Nat := a.toNat
def stepsOf (a b : Int) : Nat := min b.toNat 15 - a.toNat
def runI (N : Nat) (room : List UInt8) (s0 s1 a b : Int) (v : List UInt8) : List UInt8 := run N room s0 s1 (fromOf a) (stepsOf a b) v
theorem runI_nat (N : Nat) (room : List UInt8) (s0 s1 : Int) (a b : Nat) (v : List UInt8) (h : b ≤ 15) : runI N room s0 s1 (a : Int) (b : Int) v = run N room s0 s1 a (b - a) v := by
  unfold runI fromOf stepsOf
  rw [Int.toNat_natCast, Int.toNat_natCast, Nat.min_eq_left h]
theorem runI_add (N : Nat) (room : List UInt8) (s0 s1 : Int) (a b c : Nat) (v : List UInt8) (h1 : a ≤ b) (h2 : b ≤ c) (h3 : c ≤ 15) :
    runI N room s0 s1 (b : Int) (c : Int) (runI N room s0 s1 (a : Int) (b : Int) v) = runI N room s0 s1 (a : Int) (c : Int) v := by
  rw [runI_nat _ _ _ _ _ _ _ h3, runI_nat _ _ _ _ _ _ _ (Nat.le_trans h2 h3), runI_nat _ _ _ _ _ _ _ h3]
  have := run_add N room s0 s1 a (b - a) (c - b) v
  rw [show a + (b - a) = b by omega, show b - a + (c - b) = c - a by omega] at this
  exact this
theorem runI_none (N : Nat) (room : List UInt8) (s0 s1 : Int) (a : Nat) (v : List UInt8) (h : a ≤ 15) : runI N room s0 s1 (a : Int) (a : Int) v = v := by
  rw [runI_nat _ _ _ _ _ _ _ h, Nat.sub_self, run]

def begins (N : Nat) (seed : List UInt8) (leaf chain : Int) : List UInt8 := value N [beginT, seed, num leaf 4, num chain 2]
def together (N : Nat) (room : List UInt8) (leaf : Int) (ends : List UInt8) : List UInt8 := value N [leafT, room, num leaf 4, ends]

/-- The first N bytes, bytes 0 behind. -/
def told (N : Nat) (d : List UInt8) : List UInt8 := d.take N ++ List.replicate (N - d.length) 0
theorem told_length (N : Nat) (d : List UInt8) : (told N d).length = N := by
  simp only [told, List.length_append, List.length_take, List.length_replicate]
  omega
def nib (b : UInt8) : List Nat := [b.toNat / 16, b.toNat % 16]
def nibs (l : List UInt8) : List Nat := l.flatMap nib
theorem nibs_length (l : List UInt8) : (nibs l).length = 2 * l.length := by
  induction l with
  | nil => rfl
  | cons b l ih =>
    show (nib b ++ nibs l).length = _
    rw [List.length_append, ih, List.length_cons]
    show 2 + _ = _
    omega
theorem nibs_snoc (l : List UInt8) (b : UInt8) : nibs (l ++ [b]) = nibs l ++ nib b := by simp [nibs]
theorem nibs_le (l : List UInt8) : ∀ x ∈ nibs l, x ≤ 15 := fun x hx => by
  obtain ⟨b, _, hb⟩ := List.mem_flatMap.1 hx
  have := b.toNat_lt
  simp only [nib, List.mem_cons, List.not_mem_nil, or_false] at hb
  omega
theorem nibs_sum (l : List UInt8) : (nibs l).sum ≤ 30 * l.length := by
  induction l with
  | nil => exact Nat.le_refl _
  | cons b l ih =>
    show (nib b ++ nibs l).sum ≤ _
    have := b.toNat_lt
    rw [List.sum_append, List.length_cons, show (nib b).sum = b.toNat / 16 + b.toNat % 16 by simp [nib]]
    omega
/-- What is left of the greatest sum. -/
def left (N : Nat) (l : List UInt8) : Nat := 30 * N - (nibs l).sum
def rest (r : Nat) : List Nat := [r / 256, r / 16 % 16, r % 16]
def digs (N : Nat) (d : List UInt8) : List Nat := nibs (told N d) ++ rest (left N (told N d))
theorem digs_length (N : Nat) (d : List UInt8) : (digs N d).length = 2 * N + 3 := by
  rw [digs, List.length_append, nibs_length, told_length]
  rfl
theorem left_le (N : Nat) (l : List UInt8) : left N l ≤ 30 * N := Nat.sub_le _ _
theorem rest_le (r : Nat) (h : r < 4096) : ∀ x ∈ rest r, x ≤ 15 := fun x hx => by
  simp only [rest, List.mem_cons, List.not_mem_nil, or_false] at hx
  omega
theorem digs_le (N : Nat) (d : List UInt8) (h : N ≤ 32) : ∀ x ∈ digs N d, x ≤ 15 := fun x hx => by
  rcases List.mem_append.1 hx with hx | hx
  · exact nibs_le _ x hx
  · exact rest_le _ (by have := left_le N (told N d); omega) x hx
/-- The digit of a chain. -/
def dig (N : Nat) (d : List UInt8) (c : Nat) : Nat := (digs N d).getD c 0
theorem dig_le (N : Nat) (d : List UInt8) (c : Nat) (h : N ≤ 32) : dig N d c ≤ 15 := by
  unfold dig
  rw [List.getD_eq_getElem?_getD]
  rcases Nat.lt_or_ge c (digs N d).length with hc | hc
  · rw [List.getElem?_eq_getElem hc]
    exact digs_le N d h _ (List.getElem_mem _)
  · rw [List.getElem?_eq_none hc]
    exact Nat.zero_le _
theorem dig_at (N : Nat) (d : List UInt8) (c : Nat) (h : c < 2 * N + 3) : (digs N d)[c]? = some (dig N d c) := by
  have hc : c < (digs N d).length := by rw [digs_length]; exact h
  unfold dig
  rw [List.getD_eq_getElem?_getD, List.getElem?_eq_getElem hc, Option.getD_some]

/-- Pieces, one behind the other. -/
def upto (F : Nat → List UInt8) : Nat → List UInt8
  | 0 => []
  | k + 1 => upto F k ++ F k
theorem upto_length (F : Nat → List UInt8) (N : Nat) (h : ∀ c, (F c).length = N) (k : Nat) : (upto F k).length = N * k := by
  induction k with
  | zero => rfl
  | succ k ih => rw [upto, List.length_append, ih, h, Nat.mul_succ]
theorem upto_at (F : Nat → List UInt8) (N : Nat) (h : ∀ c, (F c).length = N) (k c : Nat) (hc : c < k) : ((upto F k).drop (N * c)).take N = F c := by
  induction k with
  | zero => omega
  | succ k ih =>
    have hl := upto_length F N h k
    have hm : N * c ≤ N * k := Nat.mul_le_mul_left _ (by omega)
    rcases Nat.lt_or_ge c k with hck | hck
    · have hm2 : N * c + N ≤ N * k := by rw [← Nat.mul_succ]; exact Nat.mul_le_mul_left _ hck
      rw [upto, List.drop_append_of_le_length (by omega), List.take_append_of_le_length (by rw [List.length_drop]; omega)]
      exact ih hck
    · obtain rfl : c = k := by omega
      rw [upto, List.drop_append_of_le_length (by omega), ← hl, List.drop_length, List.nil_append, ← h c, List.take_length]
theorem upto_congr (F G : Nat → List UInt8) (k : Nat) (h : ∀ c, c < k → F c = G c) : upto F k = upto G k := by
  induction k with
  | zero => rfl
  | succ k ih => rw [upto, upto, ih (fun c hc => h c (by omega)), h k (by omega)]

def leafP (N : Nat) (seed room : List UInt8) (leaf : Int) (c : Nat) : List UInt8 := runI N room leaf (c : Int) 0 15 (begins N seed leaf (c : Int))
def leafOf (N : Nat) (seed room : List UInt8) (leaf : Int) : List UInt8 := together N room leaf (upto (leafP N seed room leaf) (2 * N + 3))
def signP (N : Nat) (seed room : List UInt8) (leaf : Int) (d : List UInt8) (c : Nat) : List UInt8 := runI N room leaf (c : Int) 0 (dig N d c : Int) (begins N seed leaf (c : Int))
def sign (N : Nat) (seed room : List UInt8) (leaf : Int) (d : List UInt8) : List UInt8 := upto (signP N seed room leaf d) (2 * N + 3)
def foundP (N : Nat) (room : List UInt8) (leaf : Int) (sig d : List UInt8) (c : Nat) : List UInt8 := runI N room leaf (c : Int) (dig N d c : Int) 15 ((sig.drop (N * c)).take N)
def found (N : Nat) (room : List UInt8) (leaf : Int) (sig d : List UInt8) : List UInt8 := together N room leaf (upto (foundP N room leaf sig d) (2 * N + 3))

theorem begins_length (N : Nat) (seed : List UInt8) (leaf chain : Int) (h : N ≤ 32) : (begins N seed leaf chain).length = N := value_length N _ h
theorem leafP_length (N : Nat) (seed room : List UInt8) (leaf : Int) (h : N ≤ 32) (c : Nat) : (leafP N seed room leaf c).length = N := run_length N _ _ _ _ _ _ h (begins_length N _ _ _ h)
theorem signP_length (N : Nat) (seed room : List UInt8) (leaf : Int) (d : List UInt8) (h : N ≤ 32) (c : Nat) : (signP N seed room leaf d c).length = N := run_length N _ _ _ _ _ _ h (begins_length N _ _ _ h)
theorem sign_length (N : Nat) (seed room : List UInt8) (leaf : Int) (d : List UInt8) (h : N ≤ 32) : (sign N seed room leaf d).length = N * (2 * N + 3) := upto_length _ N (signP_length N seed room leaf d h) _
theorem leafOf_length (N : Nat) (seed room : List UInt8) (leaf : Int) (h : N ≤ 32) : (leafOf N seed room leaf).length = N := value_length N _ h
theorem foundP_length (N : Nat) (room : List UInt8) (leaf : Int) (sig d : List UInt8) (h : N ≤ 32) (hs : sig.length = N * (2 * N + 3)) (c : Nat) (hc : c < 2 * N + 3) : (foundP N room leaf sig d c).length = N := by
  refine run_length N _ _ _ _ _ _ h ?_
  have : N * c + N ≤ N * (2 * N + 3) := by rw [← Nat.mul_succ]; exact Nat.mul_le_mul_left _ hc
  rw [List.length_take, List.length_drop]
  omega

/-- What is found of a signature is the leaf. -/
theorem found_sign (N : Nat) (seed room : List UInt8) (leaf : Int) (d : List UInt8) (h : N ≤ 32) : found N room leaf (sign N seed room leaf d) d = leafOf N seed room leaf := by
  unfold found leafOf
  rw [upto_congr _ (leafP N seed room leaf)]
  intro c hc
  unfold foundP sign
  rw [upto_at _ N (signP_length N seed room leaf d h) _ c hc]
  have hd := dig_le N d c h
  exact runI_add N room leaf (c : Int) 0 (dig N d c) 15 (begins N seed leaf (c : Int)) (by omega) hd (by omega)

end Go.Proofs.YtncafbejgidliaaDoor.Chn
