/-
  Several texts as one (Chn, ChnA, ChnB, ChnRun, ChnLeaf, ChnDig, ChnSign, ChnFound). The plain mathematics of package chains: digits, runs, begins, leaves, signatures and what is found of them, as functions on lists of bytes. Nothing here speaks of a program: no condition but those that each lemma names. Right, Count, numbered and value of package chains answer what the plain mathematics of the text Chn says, and leave all memory that was there as it was. Conditions: a chain's value has no more than 32 bytes, the texts together no more than 2^40, the constant table of package digest lies as the program's text lays it. step, begin and together of package chains answer what the plain mathematics of the text Chn says, and leave all memory that was there as it was. Conditions: a chain's value has no more than 32 bytes, texts no more than 2^40, the constant table of package digest lies as the program's text lays it. Run of package chains answers what the plain mathematics of the text Chn says, and leaves all memory that was there as it was. Conditions: room and value have together no more than 2^38 bytes, the constant table of package digest lies as the program's text lays it. Leaf of package chains answers what the plain mathematics of the text Chn says, and leaves all memory that was there as it was. Conditions: seed and room have together no more than 2^36 bytes, the constant table of package digest lies as the program's text lays it. Digits of package chains answers what the plain mathematics of the text Chn says, in a slice of its own, and leaves all memory that was there as it was. No condition but that of the reach of the form. Sign of package chains answers what the plain mathematics of the text Chn says, and leaves all memory that was there as it was. Conditions: seed and room have together no more than 2^36 bytes, the constant table of package digest lies as the program's text lays it. Found of package chains answers what the plain mathematics of the text Chn says, and leaves all memory that was there as it was. Conditions: room and signature have together no more than 2^36 bytes, the constant table of package digest lies as the program's text lays it.
-/
import Derived.Test.YtdhipdoaefdfeaaGreatDoorMDig
import Derived.Test.YtdhipdoaefdfeaaGreatDoorMLn
import Derived.Test.YtdhipdoaefdfeaaGreatDoorMWk
import Derived.Deep.RegionHeld3
import Derived.BigQuiet
import Derived.WalkMore
import Derived.IntWalk
namespace Go.Proofs.YtdhipdoaefdfeaaGreatDoor.Chn
open Go.RowKit Mur Sha

/-- A text as a value. -/
abbrev tx (l : List UInt8) : ByteArray := ⟨l.toArray⟩
theorem tx_list (l : List UInt8) : (tx l).data.toList = l := rfl
theorem tx_size (l : List UInt8) : (tx l).size = l.length := rfl
theorem sha_length (l : List UInt8) : (sha l).length = 32 := finish_length _ _ _

/-- Which shapes are right. -/
def Right (n h : Int) : Prop := 2 ≤ n ∧ n ≤ 32 ∧ 0 ≤ h ∧ h ≤ 8
instance (n h : Int) : Decidable (Right n h) := by unfold Right; infer_instance

/-- A number's lowest 64 bits. -/
def low64 (n : Int) : Nat := (n % 18446744073709551616).toNat
theorem low64_lt (n : Int) : low64 n < 18446744073709551616 := by unfold low64; omega
theorem low64_cast (n : Int) : (low64 n : Int) = n % 18446744073709551616 := by unfold low64; omega
def num (n : Int) (wd : Nat) : List UInt8 := Lanes.high (low64 n) wd
theorem num_length (n : Int) (wd : Nat) : (num n wd).length = wd := by simp [num, Lanes.high]

def runT : List UInt8 := [114, 117, 110]
def beginT : List UInt8 := [98, 101, 103, 105, 110]
def leafT : List UInt8 := [108, 101, 97, 102]

def value (N : Nat) (l : List (List UInt8)) : List UInt8 := (sha (parts l)).take N
theorem value_length (N : Nat) (l : List (List UInt8)) (h : N ≤ 32) : (value N l).length = N := by
  unfold value
  rw [List.length_take, sha_length]
  omega
def step (N : Nat) (room : List UInt8) (s0 s1 i : Int) (v : List UInt8) : List UInt8 := value N [runT, room, num s0 4, num s1 2, num i 1, v]
/-- So many steps from f on. -/
def run (N : Nat) (room : List UInt8) (s0 s1 : Int) (f : Nat) : Nat → List UInt8 → List UInt8
  | 0, v => v
  | k + 1, v => step N room s0 s1 ((f + k : Nat) : Int) (run N room s0 s1 f k v)
theorem run_add (N : Nat) (room : List UInt8) (s0 s1 : Int) (f a b : Nat) (v : List UInt8) : run N room s0 s1 (f + a) b (run N room s0 s1 f a v) = run N room s0 s1 f (a + b) v := by
  induction b with
  | zero => rfl
  | succ b ih => rw [run, ih, show a + (b + 1) = (a + b) + 1 by omega, run, Nat.add_assoc]
theorem run_length (N : Nat) (room : List UInt8) (s0 s1 : Int) (f k : Nat) (v : List UInt8) (h : N ≤ 32) (hv : v.length = N) : (run N room s0 s1 f k v).length = N := by
  cases k with
  | zero => exact hv
  | succ k => exact value_length N _ h
theorem run_le (N : Nat) (room : List UInt8) (s0 s1 : Int) (f k : Nat) (v : List UInt8) (h : N ≤ 32) : (run N room s0 s1 f k v).length ≤ v.length + 32 := by
  cases k with
  | zero => exact Nat.le_add_right _ _
  | succ k =>
    have := value_length N [runT, room, num s0 4, num s1 2, num ((f + k : Nat) : Int) 1, run N room s0 s1 f k v] h
    show (value N _).length ≤ _
    omega
/-- How far a run goes: from where, and how many steps. -/
def fromOf (a : Int) : Nat := a.toNat
def stepsOf (a b : Int) : Nat := min b.toNat 15 - a.toNat
def runI (N : Nat) (room : List UInt8) (s0 s1 a b : Int) (v : List UInt8) : List UInt8 := run N room s0 s1 (fromOf a) (stepsOf a b) v
theorem runI_nat (N : Nat) (room : List UInt8) (s0 s1 : Int) (a b : Nat) (v : List UInt8) (h : b ≤ 15) : runI N room s0 s1 (a : Int) (b : Int) v = run N room s0 s1 a (b - a) v := by
  unfold runI fromOf stepsOf
  rw [Int.toNat_natCast, Int.toNat_natCast, Nat.min_eq_left h]
theorem runI_add (N : Nat) (room : List UInt8) (s0 s1 : Int) (a b c : Nat) (v : List UInt8) (h1 : a ≤ b) (h2 : b ≤ c) (h3 : c ≤ 15) :
    runI N room s0 s1 (b : Int) (c : Int) (runI N room s0 s1 (a : Int) (b : Int) v) = runI N room s0 s1 (a : Int) (c : Int) v := by
  rw [runI_nat _ _ _ _ _ _ _ h3, runI_nat _ _ _ _ _ _ _ (Nat.le_trans h2 h3), runI_nat _ _ _ _ _ _ _ h3]
  have := run_add N room s0 s1 a (b - a) (c - b) v
  rw [show a + (b - a) = b by omega, show b - a + (c - b) = c - a by omega] at this
  exact this
theorem runI_none (N : Nat) (room : List UInt8) (s0 s1 : Int) (a : Nat) (v : List UInt8) (h : a ≤ 15) : runI N room s0 s1 (a : Int) (a : Int) v = v := by
  rw [runI_nat _ _ _ _ _ _ _ h, Nat.sub_self, run]

def begins (N : Nat) (seed : List UInt8) (leaf chain : Int) : List UInt8 := value N [beginT, seed, num leaf 4, num chain 2]
def together (N : Nat) (room : List UInt8) (leaf : Int) (ends : List UInt8) : List UInt8 := value N [leafT, room, num leaf 4, ends]

/-- The first N bytes, bytes 0 behind. -/
def told (N : Nat) (d : List UInt8) : List UInt8 := d.take N ++ List.replicate (N - d.length) 0
theorem told_length (N : Nat) (d : List UInt8) : (told N d).length = N := by
  simp only [told, List.length_append, List.length_take, List.length_replicate]
  omega
def nib (b : UInt8) : List Nat := [b.toNat / 16, b.toNat % 16]
def nibs (l : List UInt8) : List Nat := l.flatMap nib
theorem nibs_length (l : List UInt8) : (nibs l).length = 2 * l.length := by
  induction l with
  | nil => rfl
  | cons b l ih =>
    show (nib b ++ nibs l).length = _
    rw [List.length_append, ih, List.length_cons]
    show 2 + _ = _
    omega
theorem nibs_snoc (l : List UInt8) (b : UInt8) : nibs (l ++ [b]) = nibs l ++ nib b := by simp [nibs]
theorem nibs_le (l : List UInt8) : ∀ x ∈ nibs l, x ≤ 15 := fun x hx => by
  obtain ⟨b, _, hb⟩ := List.mem_flatMap.1 hx
  have := b.toNat_lt
  simp only [nib, List.mem_cons, List.not_mem_nil, or_false] at hb
  omega
theorem nibs_sum (l : List UInt8) : (nibs l).sum ≤ 30 * l.length := by
  induction l with
  | nil => exact Nat.le_refl _
  | cons b l ih =>
    show (nib b ++ nibs l).sum ≤ _
    have := b.toNat_lt
    rw [List.sum_append, List.length_cons, show (nib b).sum = b.toNat / 16 + b.toNat % 16 by simp [nib]]
    omega
/-- What is left of the greatest sum. -/
def left (N : Nat) (l : List UInt8) : Nat := 30 * N - (nibs l).sum
def rest (r : Nat) : List Nat := [r / 256, r / 16 % 16, r % 16]
def digs (N : Nat) (d : List UInt8) : List Nat := nibs (told N d) ++ rest (left N (told N d))
theorem digs_length (N : Nat) (d : List UInt8) : (digs N d).length = 2 * N + 3 := by
  rw [digs, List.length_append, nibs_length, told_length]
  rfl
theorem left_le (N : Nat) (l : List UInt8) : left N l ≤ 30 * N := Nat.sub_le _ _
theorem rest_le (r : Nat) (h : r < 4096) : ∀ x ∈ rest r, x ≤ 15 := fun x hx => by
  simp only [rest, List.mem_cons, List.not_mem_nil, or_false] at hx
  omega
theorem digs_le (N : Nat) (d : List UInt8) (h : N ≤ 32) : ∀ x ∈ digs N d, x ≤ 15 := fun x hx => by
  rcases List.mem_append.1 hx with hx | hx
  · exact nibs_le _ x hx
  · exact rest_le _ (by have := left_le N (told N d); omega) x hx
/-- The digit of a chain. -/
def dig (N : Nat) (d : List UInt8) (c : Nat) : Nat := (digs N d).getD c 0
theorem dig_le (N : Nat) (d : List UInt8) (c : Nat) (h : N ≤ 32) : dig N d c ≤ 15 := by
  unfold dig
  rw [List.getD_eq_getElem?_getD]
  rcases Nat.lt_or_ge c (digs N d).length with hc | hc
  · rw [List.getElem?_eq_getElem hc]
    exact digs_le N d h _ (List.getElem_mem _)
  · rw [List.getElem?_eq_none hc]
    exact Nat.zero_le _
theorem dig_at (N : Nat) (d : List UInt8) (c : Nat) (h : c < 2 * N + 3) : (digs N d)[c]? = some (dig N d c) := by
  have hc : c < (digs N d).length := by rw [digs_length]; exact h
  unfold dig
  rw [List.getD_eq_getElem?_getD, List.getElem?_eq_getElem hc, Option.getD_some]

/-- Pieces, one behind the other. -/
def upto (F : Nat → List UInt8) : Nat → List UInt8
  | 0 => []
  | k + 1 => upto F k ++ F k
theorem upto_length (F : Nat → List UInt8) (N : Nat) (h : ∀ c, (F c).length = N) (k : Nat) : (upto F k).length = N * k := by
  induction k with
  | zero => rfl
  | succ k ih => rw [upto, List.length_append, ih, h, Nat.mul_succ]
theorem upto_at (F : Nat → List UInt8) (N : Nat) (h : ∀ c, (F c).length = N) (k c : Nat) (hc : c < k) : ((upto F k).drop (N * c)).take N = F c := by
  induction k with
  | zero => omega
  | succ k ih =>
    have hl := upto_length F N h k
    have hm : N * c ≤ N * k := Nat.mul_le_mul_left _ (by omega)
    rcases Nat.lt_or_ge c k with hck | hck
    · have hm2 : N * c + N ≤ N * k := by rw [← Nat.mul_succ]; exact Nat.mul_le_mul_left _ hck
      rw [upto, List.drop_append_of_le_length (by omega), List.take_append_of_le_length (by rw [List.length_drop]; omega)]
      exact ih hck
    · obtain rfl : c = k := by omega
      rw [upto, List.drop_append_of_le_length (by omega), ← hl, List.drop_length, List.nil_append, ← h c, List.take_length]
theorem upto_congr (F G : Nat → List UInt8) (k : Nat) (h : ∀ c, c < k → F c = G c) : upto F k = upto G k := by
  induction k with
  | zero => rfl
  | succ k ih => rw [upto, upto, ih (fun c hc => h c (by omega)), h k (by omega)]

def leafP (N : Nat) (seed room : List UInt8) (leaf : Int) (c : Nat) : List UInt8 := runI N room leaf (c : Int) 0 15 (begins N seed leaf (c : Int))
def leafOf (N : Nat) (seed room : List UInt8) (leaf : Int) : List UInt8 := together N room leaf (upto (leafP N seed room leaf) (2 * N + 3))
def signP (N : Nat) (seed room : List UInt8) (leaf : Int) (d : List UInt8) (c : Nat) : List UInt8 := runI N room leaf (c : Int) 0 (dig N d c : Int) (begins N seed leaf (c : Int))
def sign (N : Nat) (seed room : List UInt8) (leaf : Int) (d : List UInt8) : List UInt8 := upto (signP N seed room leaf d) (2 * N + 3)
def foundP (N : Nat) (room : List UInt8) (leaf : Int) (sig d : List UInt8) (c : Nat) : List UInt8 := runI N room leaf (c : Int) (dig N d c : Int) 15 ((sig.drop (N * c)).take N)
def found (N : Nat) (room : List UInt8) (leaf : Int) (sig d : List UInt8) : List UInt8 := together N room leaf (upto (foundP N room leaf sig d) (2 * N + 3))

theorem begins_length (N : Nat) (seed : List UInt8) (leaf chain : Int) (h : N ≤ 32) : (begins N seed leaf chain).length = N := value_length N _ h
theorem leafP_length (N : Nat) (seed room : List UInt8) (leaf : Int) (h : N ≤ 32) (c : Nat) : (leafP N seed room leaf c).length = N := run_length N _ _ _ _ _ _ h (begins_length N _ _ _ h)
theorem signP_length (N : Nat) (seed room : List UInt8) (leaf : Int) (d : List UInt8) (h : N ≤ 32) (c : Nat) : (signP N seed room leaf d c).length = N := run_length N _ _ _ _ _ _ h (begins_length N _ _ _ h)
theorem sign_length (N : Nat) (seed room : List UInt8) (leaf : Int) (d : List UInt8) (h : N ≤ 32) : (sign N seed room leaf d).length = N * (2 * N + 3) := upto_length _ N (signP_length N seed room leaf d h) _
theorem leafOf_length (N : Nat) (seed room : List UInt8) (leaf : Int) (h : N ≤ 32) : (leafOf N seed room leaf).length = N := value_length N _ h
theorem foundP_length (N : Nat) (room : List UInt8) (leaf : Int) (sig d : List UInt8) (h : N ≤ 32) (hs : sig.length = N * (2 * N + 3)) (c : Nat) (hc : c < 2 * N + 3) : (foundP N room leaf sig d c).length = N := by
  refine run_length N _ _ _ _ _ _ h ?_
  have : N * c + N ≤ N * (2 * N + 3) := by rw [← Nat.mul_succ]; exact Nat.mul_le_mul_left _ hc
  rw [List.length_take, List.length_drop]
  omega

/-- What is found of a signature is the leaf. -/
theorem found_sign (N : Nat) (seed room : List UInt8) (leaf : Int) (d : List UInt8) (h : N ≤ 32) : found N room leaf (sign N seed room leaf d) d = leafOf N seed room leaf := by
  unfold found leafOf
  rw [upto_congr _ (leafP N seed room leaf)]
  intro c hc
  unfold foundP sign
  rw [upto_at _ N (signP_length N seed room leaf d h) _ c hc]
  have hd := dig_le N d c h
  exact runI_add N room leaf (c : Int) 0 (dig N d c) 15 (begins N seed leaf (c : Int)) (by omega) hd (by omega)

end Go.Proofs.YtdhipdoaefdfeaaGreatDoor.Chn

namespace Go.Proofs.YtdhipdoaefdfeaaGreatDoor.Chn
open Go.RowKit Mur Sha
set_option maxRecDepth 100000

/-- A shape as a value. -/
abbrev shapeV (n h : Int) : Value := .agg #[.int .i64 n, .int .i64 h]

set_option maxHeartbeats 800000 in
theorem right_any (n h : Int) (w : World) :
    Calls Tryz.prog 18 #[.agg #[.int .i64 n, .int .i64 h]] w fun e w' => e = .returned (.bool (decide (Right n h))) ∧ Below w.heap.size w w' := by
  have e : decide (Right n h) = (decide (2 ≤ n) && decide (n ≤ 32) && decide (0 ≤ h) && decide (h ≤ 8)) := by
    rw [Bool.eq_iff_iff]
    simp only [decide_eq_true_eq, Bool.and_eq_true, and_assoc]
    exact Iff.rfl
  rw [e]
  clear e
  go_enter Tryz.func18, Tryz.ntmps18
  by_cases h1 : 2 ≤ n
  · by_cases h2 : n ≤ 32
    · by_cases h3 : 0 ≤ h
      · by_cases h4 : h ≤ 8
        · rw [decide_eq_true h1, decide_eq_true h2, decide_eq_true h3, decide_eq_true h4]
          go_wp2
          go_ret
          exact ⟨rfl, (Below.refl _ _).alloc (Nat.le_refl _) _⟩
        · have h4' : decide (h ≤ 8) = false := decide_eq_false h4
          rw [decide_eq_true h1, decide_eq_true h2, decide_eq_true h3, decide_eq_false h4]
          go_wp2
          go_ret
          exact ⟨rfl, (Below.refl _ _).alloc (Nat.le_refl _) _⟩
      · have h3' : decide (0 ≤ h) = false := decide_eq_false h3
        rw [decide_eq_true h1, decide_eq_true h2, decide_eq_false h3]
        go_wp2
        go_ret
        exact ⟨rfl, (Below.refl _ _).alloc (Nat.le_refl _) _⟩
    · have h2' : decide (n ≤ 32) = false := decide_eq_false h2
      rw [decide_eq_true h1, decide_eq_false h2]
      go_wp2
      go_ret
      exact ⟨rfl, (Below.refl _ _).alloc (Nat.le_refl _) _⟩
  · have h1' : decide (2 ≤ n) = false := decide_eq_false h1
    rw [decide_eq_false h1]
    go_wp2
    go_ret
    exact ⟨rfl, (Below.refl _ _).alloc (Nat.le_refl _) _⟩

theorem right_yes (n h : Int) (hr : Right n h) (w : World) :
    Calls Tryz.prog 18 #[.agg #[.int .i64 n, .int .i64 h]] w fun e w' => e = .returned (.bool true) ∧ Below w.heap.size w w' := by
  have := right_any n h w
  rw [decide_eq_true hr] at this
  exact this
theorem right_no (n h : Int) (hr : ¬ Right n h) (w : World) :
    Calls Tryz.prog 18 #[.agg #[.int .i64 n, .int .i64 h]] w fun e w' => e = .returned (.bool false) ∧ Below w.heap.size w w' := by
  have := right_any n h w
  rw [decide_eq_false hr] at this
  exact this

theorem count_yes (n h : Int) (hr : Right n h) (w : World) :
    Calls Tryz.prog 52 #[.agg #[.int .i64 n, .int .i64 h]] w fun e w' => e = .returned (.int .i64 (2 * n + 3)) ∧ Below w.heap.size w w' := by
  have R1 := Lib.hid (fun u => right_yes n h hr u)
  have h1 := hr.1
  have h2 := hr.2.1
  clear hr
  go_enter Tryz.func52, Tryz.ntmps52
  go_wp2_with fail
  refine (R1.out _).mono ?_
  rintro e w1 ⟨rfl, hb⟩
  have c0 : w1.cell? ⟨w.heap.size, 0, none⟩ = some (.int .i64 n) := (hb.cell (p := ⟨w.heap.size, 0, none⟩) (by simp)).trans (by simp [World.cell?_alloc_new])
  have HB := Lib.hid (((Below.refl w.heap.size w).alloc (Nat.le_refl _) (.cells #[.int .i64 n, .int .i64 h] 26)).trans (hb.mono (by simp)))
  clear hb
  go_wp2
  go_ret
  exact ⟨rfl, HB.out⟩
theorem count_no (n h : Int) (hr : ¬ Right n h) (w : World) :
    Calls Tryz.prog 52 #[.agg #[.int .i64 n, .int .i64 h]] w fun e w' => e = .returned (.int .i64 0) ∧ Below w.heap.size w w' := by
  have R1 := Lib.hid (fun u => right_no n h hr u)
  clear hr
  go_enter Tryz.func52, Tryz.ntmps52
  go_wp2_with fail
  refine (R1.out _).mono ?_
  rintro e w1 ⟨rfl, hb⟩
  have HB := Lib.hid (((Below.refl w.heap.size w).alloc (Nat.le_refl _) (.cells #[.int .i64 n, .int .i64 h] 26)).trans (hb.mono (by simp)))
  clear hb
  go_wp2
  go_ret
  exact ⟨rfl, HB.out⟩

theorem numbered_any (n : Int) (wd : Nat) (M : ByteArray) (w : World) (hwd : wd ≤ 64) (hM : M = tx (num n wd)) :
    Calls Tryz.prog 91 #[.int .i64 n, .int .i64 (wd : Int)] w fun e w' => e = .returned (.string M) ∧ Below w.heap.size w w' := by
  have hw : IntKind.u64.wrap n = (low64 n : Int) := by rw [IntKind.wrap_u64, low64_cast]
  have hl := low64_lt n
  have R1 := fun u => Lanes.high_any (low64 n) (wd : Int) u hl (by omega) (by omega)
  have ew : Lanes.widthOf (wd : Int) = wd := by unfold Lanes.widthOf; omega
  rw [ew] at R1
  have R1 := Lib.hid (show ∀ u, Calls Tryz.prog 61 #[.int .u64 (low64 n : Int), .int .i64 (wd : Int)] u fun e w' => e = .returned (.string M) ∧ Below u.heap.size u w' from by rw [hM]; exact R1)
  clear hl ew hM
  go_enter Tryz.func91, Tryz.ntmps91
  go_wp2_with fail
  refine (R1.out _).mono ?_
  rintro e w1 ⟨rfl, hb⟩
  go_wp2
  go_ret
  exact ⟨rfl, hb⟩

theorem cut_take (D V : ByteArray) (N : Nat) (l : List UInt8) (hD : D = tx l) (hV : V = tx (l.take N)) : D.extract 0 N = V := by
  apply ByteArray.ext
  apply Array.ext'
  rw [extract_take, hD, hV]

/-- A contract that leaves all memory, asked only where all memory of before is left. -/
theorem keptIf {W : World} {f : FuncId} {args : Array Value} {v : Value} (R : ∀ u, Below W.heap.size W u → Calls Tryz.prog f args u fun e w' => e = .returned v ∧ Below u.heap.size u w') :
    ∀ w, Below W.heap.size W w → Calls Tryz.prog f args w fun e w' => e = .returned v ∧ Below W.heap.size W w' := fun w h =>
  (R w h).mono fun _ _ ⟨he, hb⟩ => ⟨he, h.trans (hb.mono h.size)⟩

set_option maxHeartbeats 800000 in
theorem value_any (N : Nat) (h : Int) (ls : List ByteArray) (b o cap : Nat) (V : ByteArray) (w : World) (hN : N ≤ 32) (hb : b < w.heap.size) (hn : ls.length ≤ 1000) (hcell : ∀ i (h : i < ls.length), w.cell? ⟨b, o + i, none⟩ = some (.string ls[i])) (hsum : partLong ls ls.length ≤ 140737488351232) (hV : V = tx (value N (ls.map fun s => s.data.toList))) (hk : Consts w) :
    Calls Tryz.prog 90 #[.agg #[.int .i64 (N : Int), .int .i64 h], .slice (some ⟨b, o, none⟩) ls.length cap] w fun e w' => e = .returned (.string V) ∧ Below w.heap.size w w' := by
  obtain ⟨D, hD⟩ : ∃ D, D = tx (sha (parts (ls.map fun s => s.data.toList))) := ⟨_, rfl⟩
  have hcut := cut_take D V N _ hD hV
  have hDs : D.size = 32 := by rw [hD]; exact sha_length _
  have RP := Lib.hid (fun (u : World) (hu : Below w.heap.size w u) => show Calls Tryz.prog 78 #[.slice (some ⟨b, o, none⟩) ls.length cap] u fun e w' => e = .returned (.string D) ∧ Below u.heap.size u w' from by
    rw [hD]
    exact parts_any ls b o cap u (Nat.lt_of_lt_of_le hb hu.size) (by omega) (fun i hi => (hu.cell (p := ⟨b, o + i, none⟩) hb).trans (hcell i hi)) hsum (hk.below hk.1 hu))
  clear hD hV hcell hsum hk hb hn
  have hN1 : (N : Int) ≤ 32 := by omega
  have hN2 : (N : Int) ≤ D.size := by omega
  have hN3 : (N : Int).toNat = N := by omega
  generalize ls.length = m at *
  go_enter Tryz.func90, Tryz.ntmps90
  go_upto_region 1 with (fail)
  have hB0 := ((Below.refl w.heap.size w).alloc (Nat.le_refl _) (.cells #[.int .i64 (N : Int), .int .i64 h] 26))
  have hc0 : (w.alloc (.cells #[.int .i64 (N : Int), .int .i64 h] 26)).cell? ⟨w.heap.size, 0, none⟩ = some (.int .i64 (N : Int)) := by simp [World.cell?_alloc_new]
  have hlt : w.heap.size < (w.alloc (.cells #[.int .i64 (N : Int), .int .i64 h] 26)).heap.size := by simp
  generalize w.alloc (.cells #[.int .i64 (N : Int), .int .i64 h] 26) = wz at *
  have RQ := Lib.hid (fun u (hu : Below wz.heap.size wz u) => RP.out u (hB0.trans (hu.mono hB0.size)))
  have HB0 := Lib.hid hB0
  clear hB0
  refine Steady.region 5 (by kernel_rfl) (by kernel_rfl) (fun u => Below wz.heap.size wz u) ((Below.refl _ _).drew) ?_
  simp only [List.take_succ_cons, List.take_zero, List.drop_succ_cons, List.drop_zero]
  refine Steady.take ?_ rfl (by intro u hu; go_simp; with_reducible rfl) ?_
  simp only [Act.put, List.setIfInBounds_toArray, List.set_cons_zero, List.set_cons_succ]
  refine Steady.call _ _ _ rfl ?_ (keptIf RQ.out) ?_
  · intro u
    go_simp
  simp only [Act.put, List.setIfInBounds_toArray, List.set_cons_zero, List.set_cons_succ]
  refine Steady.take ?_ rfl (by intro u hu; go_simp; with_reducible rfl) ?_
  simp only [Act.put, List.setIfInBounds_toArray, List.set_cons_zero, List.set_cons_succ]
  refine Steady.take ?_ rfl (by intro u hu; have c0 := (hu.cell (p := ⟨w.heap.size, 0, none⟩) hlt).trans hc0; go_simp; with_reducible rfl) ?_
  simp only [Act.put, List.setIfInBounds_toArray, List.set_cons_zero, List.set_cons_succ]
  refine Steady.take ?_ rfl (by intro u hu; go_simp; with_reducible rfl) ?_
  simp only [Act.put, List.setIfInBounds_toArray, List.set_cons_zero, List.set_cons_succ]
  refine Steady.nil ?_
  intro w2 hu
  go_wp2
  go_ret
  exact ⟨rfl, HB0.out.trans (hu.mono HB0.out.size)⟩
end Go.Proofs.YtdhipdoaefdfeaaGreatDoor.Chn

namespace Go.Proofs.YtdhipdoaefdfeaaGreatDoor.Chn
open Go.RowKit Mur Sha
set_option maxRecDepth 100000

theorem num_any4 (n : Int) (M : ByteArray) (w : World) (hM : M = tx (num n 4)) : Calls Tryz.prog 91 #[.int .i64 n, .int .i64 4] w fun e w' => e = .returned (.string M) ∧ Below w.heap.size w w' := numbered_any n 4 M w (by omega) hM
theorem num_any2 (n : Int) (M : ByteArray) (w : World) (hM : M = tx (num n 2)) : Calls Tryz.prog 91 #[.int .i64 n, .int .i64 2] w fun e w' => e = .returned (.string M) ∧ Below w.heap.size w w' := numbered_any n 2 M w (by omega) hM
theorem num_any1 (n : Int) (M : ByteArray) (w : World) (hM : M = tx (num n 1)) : Calls Tryz.prog 91 #[.int .i64 n, .int .i64 1] w fun e w' => e = .returned (.string M) ∧ Below w.heap.size w w' := numbered_any n 1 M w (by omega) hM

/-- What is kept of the world: room for so many blocks more, the constants, all memory. -/
structure Keep (w0 : World) (r : Nat) (w : World) : Prop where
  room : w0.heap.size + r < w.heap.size
  consts : Consts w
  below : Below w0.heap.size w0 w
theorem Keep.next {w0 w w' : World} {r : Nat} (h : Keep w0 r w) (k : Below w.heap.size w w') : Keep w0 r w' :=
  ⟨Nat.lt_of_lt_of_le h.room k.size, h.consts.below h.consts.1 k, h.below.trans (k.mono h.below.size)⟩
theorem Keep.drew {w0 w : World} {r : Nat} (h : Keep w0 r w) : Keep w0 r w.drew := ⟨h.room, h.consts, h.below.drew⟩

theorem value_six (N : Nat) (h : Int) (a0 a1 a2 a3 a4 a5 : ByteArray) (b : Nat) (V : ByteArray) (w : World) (hN : N ≤ 32) (hs : a0.size + a1.size + a2.size + a3.size + a4.size + a5.size ≤ 1099511627776) (hV : V = tx (value N [a0.data.toList, a1.data.toList, a2.data.toList, a3.data.toList, a4.data.toList, a5.data.toList])) (hb : b < w.heap.size)
    (c0 : w.cell? ⟨b, 0, none⟩ = some (.string a0)) (c1 : w.cell? ⟨b, 1, none⟩ = some (.string a1)) (c2 : w.cell? ⟨b, 2, none⟩ = some (.string a2)) (c3 : w.cell? ⟨b, 3, none⟩ = some (.string a3)) (c4 : w.cell? ⟨b, 4, none⟩ = some (.string a4)) (c5 : w.cell? ⟨b, 5, none⟩ = some (.string a5)) (hk : Consts w) :
    Calls Tryz.prog 90 #[.agg #[.int .i64 (N : Int), .int .i64 h], .slice (some ⟨b, 0, none⟩) 6 6] w fun e w' => e = .returned (.string V) ∧ Below w.heap.size w w' :=
  value_any N h [a0, a1, a2, a3, a4, a5] b 0 6 V w hN hb (by show 6 ≤ _; omega) (fun i hi => match i, hi with
    | 0, _ => c0
    | 1, _ => c1
    | 2, _ => c2
    | 3, _ => c3
    | 4, _ => c4
    | 5, _ => c5)
    (by show 0 + (4 + a0.size) + (4 + a1.size) + (4 + a2.size) + (4 + a3.size) + (4 + a4.size) + (4 + a5.size) ≤ _; omega) hV hk

theorem value_four (N : Nat) (h : Int) (a0 a1 a2 a3 : ByteArray) (b : Nat) (V : ByteArray) (w : World) (hN : N ≤ 32) (hs : a0.size + a1.size + a2.size + a3.size ≤ 1099511627776) (hV : V = tx (value N [a0.data.toList, a1.data.toList, a2.data.toList, a3.data.toList])) (hb : b < w.heap.size)
    (c0 : w.cell? ⟨b, 0, none⟩ = some (.string a0)) (c1 : w.cell? ⟨b, 1, none⟩ = some (.string a1)) (c2 : w.cell? ⟨b, 2, none⟩ = some (.string a2)) (c3 : w.cell? ⟨b, 3, none⟩ = some (.string a3)) (hk : Consts w) :
    Calls Tryz.prog 90 #[.agg #[.int .i64 (N : Int), .int .i64 h], .slice (some ⟨b, 0, none⟩) 4 4] w fun e w' => e = .returned (.string V) ∧ Below w.heap.size w w' :=
  value_any N h [a0, a1, a2, a3] b 0 4 V w hN hb (by show 4 ≤ _; omega) (fun i hi => match i, hi with
    | 0, _ => c0
    | 1, _ => c1
    | 2, _ => c2
    | 3, _ => c3)
    (by show 0 + (4 + a0.size) + (4 + a1.size) + (4 + a2.size) + (4 + a3.size) ≤ _; omega) hV hk

set_option maxHeartbeats 3200000 in
theorem step_any (N : Nat) (h : Int) (room v : ByteArray) (s0 s1 i : Int) (V : ByteArray) (w : World) (hN : N ≤ 32) (hs : room.size + v.size ≤ 549755813888) (hV : V = tx (step N room.data.toList s0 s1 i v.data.toList)) (hk : Consts w) :
    Calls Tryz.prog 89 #[.agg #[.int .i64 (N : Int), .int .i64 h], .string room, .agg #[.int .i64 s0, .int .i64 s1], .int .i64 i, .string v] w fun e w' => e = .returned (.string V) ∧ Below w.heap.size w w' := by
  obtain ⟨M0, hM0⟩ : ∃ M, M = tx (num s0 4) := ⟨_, rfl⟩
  have hs0 : M0.size = 4 := by rw [hM0]; exact num_length _ _
  have R0 := Lib.hid (fun u => num_any4 s0 M0 u hM0)
  obtain ⟨M1, hM1⟩ : ∃ M, M = tx (num s1 2) := ⟨_, rfl⟩
  have hs1 : M1.size = 2 := by rw [hM1]; exact num_length _ _
  have R1 := Lib.hid (fun u => num_any2 s1 M1 u hM1)
  obtain ⟨M2, hM2⟩ : ∃ M, M = tx (num i 1) := ⟨_, rfl⟩
  have hs2 : M2.size = 1 := by rw [hM2]; exact num_length _ _
  have R2 := Lib.hid (fun u => num_any1 i M2 u hM2)
  have RV := Lib.hid (show ∀ (b0 : Nat) (u : World), b0 < u.heap.size → u.cell? ⟨b0, 0, none⟩ = some (.string ⟨#[114, 117, 110]⟩) → u.cell? ⟨b0, 1, none⟩ = some (.string room) → u.cell? ⟨b0, 2, none⟩ = some (.string M0) → u.cell? ⟨b0, 3, none⟩ = some (.string M1) → u.cell? ⟨b0, 4, none⟩ = some (.string M2) → u.cell? ⟨b0, 5, none⟩ = some (.string v) → Consts u → Calls Tryz.prog 90 #[.agg #[.int .i64 (N : Int), .int .i64 h], .slice (some ⟨b0, 0, none⟩) 6 6] u fun e w' => e = .returned (.string V) ∧ Below u.heap.size u w' from
    fun b0 u h0 d0 d1 d2 d3 d4 d5 hu => value_six N h ⟨#[114, 117, 110]⟩ room M0 M1 M2 v b0 V u hN (by show 3 + room.size + M0.size + M1.size + M2.size + v.size ≤ _; omega) (by rw [hV, hM0, hM1, hM2]; rfl) h0 d0 d1 d2 d3 d4 d5 hu)
  clear hV hN hM0 hs0 hM1 hs1 hM2 hs2
  have hK : Keep w 1 ((w.alloc (.cells #[.int .i64 (N : Int), .int .i64 h] 26)).alloc (.cells #[.int .i64 s0, .int .i64 s1] 120)) := ⟨by simp, hk.below hk.1 ((((Below.refl w.heap.size w).alloc (Nat.le_refl _) _).alloc (by simp) _)), (((Below.refl w.heap.size w).alloc (Nat.le_refl _) _).alloc (by simp) _)⟩
  have hc0 : ((w.alloc (.cells #[.int .i64 (N : Int), .int .i64 h] 26)).alloc (.cells #[.int .i64 s0, .int .i64 s1] 120)).cell? ⟨w.heap.size, 0, none⟩ = some (.int .i64 (N : Int)) := by first | (simp; done) | (rw [World.cell?_alloc_lt _ _ _ (by simp)]; simp)
  have hc1 : ((w.alloc (.cells #[.int .i64 (N : Int), .int .i64 h] 26)).alloc (.cells #[.int .i64 s0, .int .i64 s1] 120)).cell? ⟨w.heap.size, 1, none⟩ = some (.int .i64 h) := by first | (simp; done) | (rw [World.cell?_alloc_lt _ _ _ (by simp)]; simp)
  have hc2 : ((w.alloc (.cells #[.int .i64 (N : Int), .int .i64 h] 26)).alloc (.cells #[.int .i64 s0, .int .i64 s1] 120)).cell? ⟨w.heap.size + 1, 0, none⟩ = some (.int .i64 s0) := by first | (simp; done) | (rw [World.cell?_alloc_lt _ _ _ (by simp)]; simp)
  have hc3 : ((w.alloc (.cells #[.int .i64 (N : Int), .int .i64 h] 26)).alloc (.cells #[.int .i64 s0, .int .i64 s1] 120)).cell? ⟨w.heap.size + 1, 1, none⟩ = some (.int .i64 s1) := by first | (simp; done) | (rw [World.cell?_alloc_lt _ _ _ (by simp)]; simp)
  clear hk
  go_enter Tryz.func89, Tryz.ntmps89
  go_upto_region 1 with (fail)
  generalize ((w.alloc (.cells #[.int .i64 (N : Int), .int .i64 h] 26)).alloc (.cells #[.int .i64 s0, .int .i64 s1] 120)) = wz at *
  have held_next : ∀ {u u' : World}, (u.cell? ⟨w.heap.size, 0, none⟩ = some (.int .i64 (N : Int)) ∧ u.cell? ⟨w.heap.size, 1, none⟩ = some (.int .i64 h) ∧ u.cell? ⟨w.heap.size + 1, 0, none⟩ = some (.int .i64 s0) ∧ u.cell? ⟨w.heap.size + 1, 1, none⟩ = some (.int .i64 s1) ∧ Keep w 1 u) → Below u.heap.size u u' → (u'.cell? ⟨w.heap.size, 0, none⟩ = some (.int .i64 (N : Int)) ∧ u'.cell? ⟨w.heap.size, 1, none⟩ = some (.int .i64 h) ∧ u'.cell? ⟨w.heap.size + 1, 0, none⟩ = some (.int .i64 s0) ∧ u'.cell? ⟨w.heap.size + 1, 1, none⟩ = some (.int .i64 s1) ∧ Keep w 1 u') := by
    rintro u u' ⟨e0, e1, e2, e3, kk⟩ q
    have hr := kk.room
    have hr0 : w.heap.size < u.heap.size := by omega
    exact ⟨(q.cell (p := ⟨w.heap.size, 0, none⟩) (by assumption)).trans e0, (q.cell (p := ⟨w.heap.size, 1, none⟩) (by assumption)).trans e1, (q.cell (p := ⟨w.heap.size + 1, 0, none⟩) (by assumption)).trans e2, (q.cell (p := ⟨w.heap.size + 1, 1, none⟩) (by assumption)).trans e3, kk.next q⟩
  have held_consts : ∀ {u : World}, (u.cell? ⟨w.heap.size, 0, none⟩ = some (.int .i64 (N : Int)) ∧ u.cell? ⟨w.heap.size, 1, none⟩ = some (.int .i64 h) ∧ u.cell? ⟨w.heap.size + 1, 0, none⟩ = some (.int .i64 s0) ∧ u.cell? ⟨w.heap.size + 1, 1, none⟩ = some (.int .i64 s1) ∧ Keep w 1 u) → Consts u := by
    rintro u ⟨-, -, -, -, kk⟩
    exact kk.consts
  have held_below : ∀ {u : World}, (u.cell? ⟨w.heap.size, 0, none⟩ = some (.int .i64 (N : Int)) ∧ u.cell? ⟨w.heap.size, 1, none⟩ = some (.int .i64 h) ∧ u.cell? ⟨w.heap.size + 1, 0, none⟩ = some (.int .i64 s0) ∧ u.cell? ⟨w.heap.size + 1, 1, none⟩ = some (.int .i64 s1) ∧ Keep w 1 u) → Below w.heap.size w u := by
    rintro u ⟨-, -, -, -, kk⟩
    exact kk.below
  have HS := Lib.hid (show wz.drew.cell? ⟨w.heap.size, 0, none⟩ = some (.int .i64 (N : Int)) ∧ wz.drew.cell? ⟨w.heap.size, 1, none⟩ = some (.int .i64 h) ∧ wz.drew.cell? ⟨w.heap.size + 1, 0, none⟩ = some (.int .i64 s0) ∧ wz.drew.cell? ⟨w.heap.size + 1, 1, none⟩ = some (.int .i64 s1) ∧ Keep w 1 wz.drew from ⟨hc0, hc1, hc2, hc3, hK.drew⟩)
  clear hK hc0 hc1 hc2 hc3
  go_region_held3 (fun w' => w'.cell? ⟨w.heap.size, 0, none⟩ = some (.int .i64 (N : Int)) ∧ w'.cell? ⟨w.heap.size, 1, none⟩ = some (.int .i64 h) ∧ w'.cell? ⟨w.heap.size + 1, 0, none⟩ = some (.int .i64 s0) ∧ w'.cell? ⟨w.heap.size + 1, 1, none⟩ = some (.int .i64 s1) ∧ Keep w 1 w')
    (first | exact HS.out | assumption | exact held_next (by assumption) (by assumption) | exact held_next (by assumption) ((Below.refl _ _).alloc (Nat.le_refl _) _))
    (first
      | (go_at_call 91; with_reducible refine Calls.mono (R0.out _) ?_; rintro e w' ⟨rfl, hb⟩)
      | (go_at_call 91; with_reducible refine Calls.mono (R1.out _) ?_; rintro e w' ⟨rfl, hb⟩)
      | (go_at_call 91; with_reducible refine Calls.mono (R2.out _) ?_; rintro e w' ⟨rfl, hb⟩)
      | (go_at_call 90; refine Calls.mono (RV.out _ _ (by first | (simp; done) | (simp; omega)) (by first | (simp; done) | (rw [World.cell?_alloc_lt _ _ _ (by simp)]; simp; done)) (by first | (simp; done) | (rw [World.cell?_alloc_lt _ _ _ (by simp)]; simp; done)) (by first | (simp; done) | (rw [World.cell?_alloc_lt _ _ _ (by simp)]; simp; done)) (by first | (simp; done) | (rw [World.cell?_alloc_lt _ _ _ (by simp)]; simp; done)) (by first | (simp; done) | (rw [World.cell?_alloc_lt _ _ _ (by simp)]; simp; done)) (by first | (simp; done) | (rw [World.cell?_alloc_lt _ _ _ (by simp)]; simp; done)) (held_consts (by assumption))) ?_; rintro e w' ⟨rfl, hb⟩))
  all_goals
    go_wp2
    go_ret
    exact ⟨rfl, held_below (by assumption)⟩

set_option maxHeartbeats 3200000 in
theorem begin_any (N : Nat) (h : Int) (seed : ByteArray) (s0 s1 : Int) (V : ByteArray) (w : World) (hN : N ≤ 32) (hs : seed.size ≤ 549755813888) (hV : V = tx (begins N seed.data.toList s0 s1)) (hk : Consts w) :
    Calls Tryz.prog 76 #[.agg #[.int .i64 (N : Int), .int .i64 h], .string seed, .int .i64 s0, .int .i64 s1] w fun e w' => e = .returned (.string V) ∧ Below w.heap.size w w' := by
  obtain ⟨M0, hM0⟩ : ∃ M, M = tx (num s0 4) := ⟨_, rfl⟩
  have hs0 : M0.size = 4 := by rw [hM0]; exact num_length _ _
  have R0 := Lib.hid (fun u => num_any4 s0 M0 u hM0)
  obtain ⟨M1, hM1⟩ : ∃ M, M = tx (num s1 2) := ⟨_, rfl⟩
  have hs1 : M1.size = 2 := by rw [hM1]; exact num_length _ _
  have R1 := Lib.hid (fun u => num_any2 s1 M1 u hM1)
  have RV := Lib.hid (show ∀ (b0 : Nat) (u : World), b0 < u.heap.size → u.cell? ⟨b0, 0, none⟩ = some (.string ⟨#[98, 101, 103, 105, 110]⟩) → u.cell? ⟨b0, 1, none⟩ = some (.string seed) → u.cell? ⟨b0, 2, none⟩ = some (.string M0) → u.cell? ⟨b0, 3, none⟩ = some (.string M1) → Consts u → Calls Tryz.prog 90 #[.agg #[.int .i64 (N : Int), .int .i64 h], .slice (some ⟨b0, 0, none⟩) 4 4] u fun e w' => e = .returned (.string V) ∧ Below u.heap.size u w' from
    fun b0 u h0 d0 d1 d2 d3 hu => value_four N h ⟨#[98, 101, 103, 105, 110]⟩ seed M0 M1 b0 V u hN (by show 5 + seed.size + M0.size + M1.size ≤ _; omega) (by rw [hV, hM0, hM1]; rfl) h0 d0 d1 d2 d3 hu)
  clear hV hN hM0 hs0 hM1 hs1
  have hK : Keep w 0 (w.alloc (.cells #[.int .i64 (N : Int), .int .i64 h] 26)) := ⟨by simp, hk.below hk.1 (((Below.refl w.heap.size w).alloc (Nat.le_refl _) _)), ((Below.refl w.heap.size w).alloc (Nat.le_refl _) _)⟩
  have hc0 : (w.alloc (.cells #[.int .i64 (N : Int), .int .i64 h] 26)).cell? ⟨w.heap.size, 0, none⟩ = some (.int .i64 (N : Int)) := by first | (simp; done) | (rw [World.cell?_alloc_lt _ _ _ (by simp)]; simp)
  have hc1 : (w.alloc (.cells #[.int .i64 (N : Int), .int .i64 h] 26)).cell? ⟨w.heap.size, 1, none⟩ = some (.int .i64 h) := by first | (simp; done) | (rw [World.cell?_alloc_lt _ _ _ (by simp)]; simp)
  clear hk
  go_enter Tryz.func76, Tryz.ntmps76
  go_upto_region 1 with (fail)
  generalize (w.alloc (.cells #[.int .i64 (N : Int), .int .i64 h] 26)) = wz at *
  have held_next : ∀ {u u' : World}, (u.cell? ⟨w.heap.size, 0, none⟩ = some (.int .i64 (N : Int)) ∧ u.cell? ⟨w.heap.size, 1, none⟩ = some (.int .i64 h) ∧ Keep w 0 u) → Below u.heap.size u u' → (u'.cell? ⟨w.heap.size, 0, none⟩ = some (.int .i64 (N : Int)) ∧ u'.cell? ⟨w.heap.size, 1, none⟩ = some (.int .i64 h) ∧ Keep w 0 u') := by
    rintro u u' ⟨e0, e1, kk⟩ q
    have hr := kk.room
    have hr0 : w.heap.size < u.heap.size := by omega
    exact ⟨(q.cell (p := ⟨w.heap.size, 0, none⟩) (by assumption)).trans e0, (q.cell (p := ⟨w.heap.size, 1, none⟩) (by assumption)).trans e1, kk.next q⟩
  have held_consts : ∀ {u : World}, (u.cell? ⟨w.heap.size, 0, none⟩ = some (.int .i64 (N : Int)) ∧ u.cell? ⟨w.heap.size, 1, none⟩ = some (.int .i64 h) ∧ Keep w 0 u) → Consts u := by
    rintro u ⟨-, -, kk⟩
    exact kk.consts
  have held_below : ∀ {u : World}, (u.cell? ⟨w.heap.size, 0, none⟩ = some (.int .i64 (N : Int)) ∧ u.cell? ⟨w.heap.size, 1, none⟩ = some (.int .i64 h) ∧ Keep w 0 u) → Below w.heap.size w u := by
    rintro u ⟨-, -, kk⟩
    exact kk.below
  have HS := Lib.hid (show wz.drew.cell? ⟨w.heap.size, 0, none⟩ = some (.int .i64 (N : Int)) ∧ wz.drew.cell? ⟨w.heap.size, 1, none⟩ = some (.int .i64 h) ∧ Keep w 0 wz.drew from ⟨hc0, hc1, hK.drew⟩)
  clear hK hc0 hc1
  go_region_held3 (fun w' => w'.cell? ⟨w.heap.size, 0, none⟩ = some (.int .i64 (N : Int)) ∧ w'.cell? ⟨w.heap.size, 1, none⟩ = some (.int .i64 h) ∧ Keep w 0 w')
    (first | exact HS.out | assumption | exact held_next (by assumption) (by assumption) | exact held_next (by assumption) ((Below.refl _ _).alloc (Nat.le_refl _) _))
    (first
      | (go_at_call 91; with_reducible refine Calls.mono (R0.out _) ?_; rintro e w' ⟨rfl, hb⟩)
      | (go_at_call 91; with_reducible refine Calls.mono (R1.out _) ?_; rintro e w' ⟨rfl, hb⟩)
      | (go_at_call 90; refine Calls.mono (RV.out _ _ (by first | (simp; done) | (simp; omega)) (by first | (simp; done) | (rw [World.cell?_alloc_lt _ _ _ (by simp)]; simp; done)) (by first | (simp; done) | (rw [World.cell?_alloc_lt _ _ _ (by simp)]; simp; done)) (by first | (simp; done) | (rw [World.cell?_alloc_lt _ _ _ (by simp)]; simp; done)) (by first | (simp; done) | (rw [World.cell?_alloc_lt _ _ _ (by simp)]; simp; done)) (held_consts (by assumption))) ?_; rintro e w' ⟨rfl, hb⟩))
  all_goals
    go_wp2
    go_ret
    exact ⟨rfl, held_below (by assumption)⟩

set_option maxHeartbeats 3200000 in
theorem together_any (N : Nat) (h : Int) (room v : ByteArray) (s0 : Int) (V : ByteArray) (w : World) (hN : N ≤ 32) (hs : room.size + v.size ≤ 549755813888) (hV : V = tx (together N room.data.toList s0 v.data.toList)) (hk : Consts w) :
    Calls Tryz.prog 83 #[.agg #[.int .i64 (N : Int), .int .i64 h], .string room, .int .i64 s0, .string v] w fun e w' => e = .returned (.string V) ∧ Below w.heap.size w w' := by
  obtain ⟨M0, hM0⟩ : ∃ M, M = tx (num s0 4) := ⟨_, rfl⟩
  have hs0 : M0.size = 4 := by rw [hM0]; exact num_length _ _
  have R0 := Lib.hid (fun u => num_any4 s0 M0 u hM0)
  have RV := Lib.hid (show ∀ (b0 : Nat) (u : World), b0 < u.heap.size → u.cell? ⟨b0, 0, none⟩ = some (.string ⟨#[108, 101, 97, 102]⟩) → u.cell? ⟨b0, 1, none⟩ = some (.string room) → u.cell? ⟨b0, 2, none⟩ = some (.string M0) → u.cell? ⟨b0, 3, none⟩ = some (.string v) → Consts u → Calls Tryz.prog 90 #[.agg #[.int .i64 (N : Int), .int .i64 h], .slice (some ⟨b0, 0, none⟩) 4 4] u fun e w' => e = .returned (.string V) ∧ Below u.heap.size u w' from
    fun b0 u h0 d0 d1 d2 d3 hu => value_four N h ⟨#[108, 101, 97, 102]⟩ room M0 v b0 V u hN (by show 4 + room.size + M0.size + v.size ≤ _; omega) (by rw [hV, hM0]; rfl) h0 d0 d1 d2 d3 hu)
  clear hV hN hM0 hs0
  have hK : Keep w 0 (w.alloc (.cells #[.int .i64 (N : Int), .int .i64 h] 26)) := ⟨by simp, hk.below hk.1 (((Below.refl w.heap.size w).alloc (Nat.le_refl _) _)), ((Below.refl w.heap.size w).alloc (Nat.le_refl _) _)⟩
  have hc0 : (w.alloc (.cells #[.int .i64 (N : Int), .int .i64 h] 26)).cell? ⟨w.heap.size, 0, none⟩ = some (.int .i64 (N : Int)) := by first | (simp; done) | (rw [World.cell?_alloc_lt _ _ _ (by simp)]; simp)
  have hc1 : (w.alloc (.cells #[.int .i64 (N : Int), .int .i64 h] 26)).cell? ⟨w.heap.size, 1, none⟩ = some (.int .i64 h) := by first | (simp; done) | (rw [World.cell?_alloc_lt _ _ _ (by simp)]; simp)
  clear hk
  go_enter Tryz.func83, Tryz.ntmps83
  go_upto_region 1 with (fail)
  generalize (w.alloc (.cells #[.int .i64 (N : Int), .int .i64 h] 26)) = wz at *
  have held_next : ∀ {u u' : World}, (u.cell? ⟨w.heap.size, 0, none⟩ = some (.int .i64 (N : Int)) ∧ u.cell? ⟨w.heap.size, 1, none⟩ = some (.int .i64 h) ∧ Keep w 0 u) → Below u.heap.size u u' → (u'.cell? ⟨w.heap.size, 0, none⟩ = some (.int .i64 (N : Int)) ∧ u'.cell? ⟨w.heap.size, 1, none⟩ = some (.int .i64 h) ∧ Keep w 0 u') := by
    rintro u u' ⟨e0, e1, kk⟩ q
    have hr := kk.room
    have hr0 : w.heap.size < u.heap.size := by omega
    exact ⟨(q.cell (p := ⟨w.heap.size, 0, none⟩) (by assumption)).trans e0, (q.cell (p := ⟨w.heap.size, 1, none⟩) (by assumption)).trans e1, kk.next q⟩
  have held_consts : ∀ {u : World}, (u.cell? ⟨w.heap.size, 0, none⟩ = some (.int .i64 (N : Int)) ∧ u.cell? ⟨w.heap.size, 1, none⟩ = some (.int .i64 h) ∧ Keep w 0 u) → Consts u := by
    rintro u ⟨-, -, kk⟩
    exact kk.consts
  have held_below : ∀ {u : World}, (u.cell? ⟨w.heap.size, 0, none⟩ = some (.int .i64 (N : Int)) ∧ u.cell? ⟨w.heap.size, 1, none⟩ = some (.int .i64 h) ∧ Keep w 0 u) → Below w.heap.size w u := by
    rintro u ⟨-, -, kk⟩
    exact kk.below
  have HS := Lib.hid (show wz.drew.cell? ⟨w.heap.size, 0, none⟩ = some (.int .i64 (N : Int)) ∧ wz.drew.cell? ⟨w.heap.size, 1, none⟩ = some (.int .i64 h) ∧ Keep w 0 wz.drew from ⟨hc0, hc1, hK.drew⟩)
  clear hK hc0 hc1
  go_region_held3 (fun w' => w'.cell? ⟨w.heap.size, 0, none⟩ = some (.int .i64 (N : Int)) ∧ w'.cell? ⟨w.heap.size, 1, none⟩ = some (.int .i64 h) ∧ Keep w 0 w')
    (first | exact HS.out | assumption | exact held_next (by assumption) (by assumption) | exact held_next (by assumption) ((Below.refl _ _).alloc (Nat.le_refl _) _))
    (first
      | (go_at_call 91; with_reducible refine Calls.mono (R0.out _) ?_; rintro e w' ⟨rfl, hb⟩)
      | (go_at_call 90; refine Calls.mono (RV.out _ _ (by first | (simp; done) | (simp; omega)) (by first | (simp; done) | (rw [World.cell?_alloc_lt _ _ _ (by simp)]; simp; done)) (by first | (simp; done) | (rw [World.cell?_alloc_lt _ _ _ (by simp)]; simp; done)) (by first | (simp; done) | (rw [World.cell?_alloc_lt _ _ _ (by simp)]; simp; done)) (by first | (simp; done) | (rw [World.cell?_alloc_lt _ _ _ (by simp)]; simp; done)) (held_consts (by assumption))) ?_; rintro e w' ⟨rfl, hb⟩))
  all_goals
    go_wp2
    go_ret
    exact ⟨rfl, held_below (by assumption)⟩

end Go.Proofs.YtdhipdoaefdfeaaGreatDoor.Chn

namespace Go.Proofs.YtdhipdoaefdfeaaGreatDoor.Chn
open Go.RowKit Mur Sha
set_option maxRecDepth 100000

theorem run_no (n h : Int) (hr : ¬ Right n h) (room v : ByteArray) (s0 s1 a b : Int) (w : World) :
    Calls Tryz.prog 75 #[.agg #[.int .i64 n, .int .i64 h], .string room, .agg #[.int .i64 s0, .int .i64 s1], .int .i64 a, .int .i64 b, .string v] w fun e w' => e = .returned (.string ⟨#[]⟩) ∧ Below w.heap.size w w' := by
  have R1 := Lib.hid (fun u => right_no n h hr u)
  clear hr
  go_enter Tryz.func75, Tryz.ntmps75
  go_wp2_with fail
  go_step3
  go_wp2_with fail
  refine (R1.out _).mono ?_
  rintro e w1 ⟨rfl, hb⟩
  have HB := Lib.hid ((((Below.refl w.heap.size w).alloc (Nat.le_refl _) (.cells #[.int .i64 n, .int .i64 h] 26)).alloc (by simp) (.cells #[.int .i64 s0, .int .i64 s1] 120)).trans (hb.mono (by simp <;> omega)))
  clear hb
  go_wp2
  try rw [Exit.noGoto_ret]
  go_ret
  exact ⟨rfl, HB.out⟩

/-- Run's value ahead of number j. -/
def sofar (N : Nat) (room : List UInt8) (s0 s1 : Int) (f j : Nat) (v : List UInt8) : List UInt8 := run N room s0 s1 f (j - f) v
theorem sofar_next (N : Nat) (room : List UInt8) (s0 s1 : Int) (f j : Nat) (v : List UInt8) (h : f ≤ j) : sofar N room s0 s1 f (j + 1) v = step N room s0 s1 (j : Int) (sofar N room s0 s1 f j v) := by
  unfold sofar
  rw [show j + 1 - f = (j - f) + 1 by omega, run, show f + (j - f) = j by omega]
theorem sofar_wait (N : Nat) (room : List UInt8) (s0 s1 : Int) (f j : Nat) (v : List UInt8) (h : j < f) : sofar N room s0 s1 f (j + 1) v = sofar N room s0 s1 f j v := by
  unfold sofar
  rw [show j + 1 - f = 0 by omega, show j - f = 0 by omega]
theorem sofar_end (N : Nat) (room : List UInt8) (s0 s1 a b : Int) (j : Nat) (v : List UInt8) (h : j = min b.toNat 15) : runI N room s0 s1 a b v = sofar N room s0 s1 a.toNat j v := by
  unfold sofar runI fromOf stepsOf
  rw [h]

set_option maxHeartbeats 3200000 in
theorem run_any (N : Nat) (h : Int) (room v : ByteArray) (s0 s1 a b : Int) (V : ByteArray) (w : World) (hr : Right (N : Int) h) (hs : room.size + v.size ≤ 274877906944) (hV : V = tx (runI N room.data.toList s0 s1 a b v.data.toList)) (hk : Consts w) :
    Calls Tryz.prog 75 #[.agg #[.int .i64 (N : Int), .int .i64 h], .string room, .agg #[.int .i64 s0, .int .i64 s1], .int .i64 a, .int .i64 b, .string v] w fun e w' => e = .returned (.string V) ∧ Below w.heap.size w w' := by
  have R1 := Lib.hid (fun u => right_yes N h hr u)
  have hN : N ≤ 32 := by have := hr.2.1; omega
  clear hr
  have hsz : ∀ k, (sofar N room.data.toList s0 s1 a.toNat k v.data.toList).length ≤ v.size + 32 := fun k => run_le N _ _ _ _ _ _ hN
  have R2 := Lib.hid (fun (t T : ByteArray) (j : Int) (u : World) (ht : t.size ≤ v.size + 32) (hT : T = tx (step N room.data.toList s0 s1 j t.data.toList)) (hu : Consts u) => step_any N h room t s0 s1 j T u hN (by omega) hT hu)
  have HV := Lib.hid hV
  have HSZ := Lib.hid hsz
  clear hV hsz hs hN
  have hK : Keep w 1 ((w.alloc (.cells #[.int .i64 (N : Int), .int .i64 h] 26)).alloc (.cells #[.int .i64 s0, .int .i64 s1] 120)) := ⟨by simp, hk.below hk.1 ((((Below.refl w.heap.size w).alloc (Nat.le_refl _) _).alloc (by simp) _)), (((Below.refl w.heap.size w).alloc (Nat.le_refl _) _).alloc (by simp) _)⟩
  clear hk
  go_enter Tryz.func75, Tryz.ntmps75
  go_wp2_with fail
  have hc0 : ((w.alloc (.cells #[.int .i64 (N : Int), .int .i64 h] 26)).alloc (.cells #[.int .i64 s0, .int .i64 s1] 120)).cell? ⟨w.heap.size, 0, none⟩ = some (.int .i64 (N : Int)) := by rw [World.cell?_alloc_lt _ _ _ (by simp)]; simp
  have hc1 : ((w.alloc (.cells #[.int .i64 (N : Int), .int .i64 h] 26)).alloc (.cells #[.int .i64 s0, .int .i64 s1] 120)).cell? ⟨w.heap.size, 1, none⟩ = some (.int .i64 h) := by rw [World.cell?_alloc_lt _ _ _ (by simp)]; simp
  have hc2 : ((w.alloc (.cells #[.int .i64 (N : Int), .int .i64 h] 26)).alloc (.cells #[.int .i64 s0, .int .i64 s1] 120)).cell? ⟨w.heap.size + 1, 0, none⟩ = some (.int .i64 s0) := by simp
  have hc3 : ((w.alloc (.cells #[.int .i64 (N : Int), .int .i64 h] 26)).alloc (.cells #[.int .i64 s0, .int .i64 s1] 120)).cell? ⟨w.heap.size + 1, 1, none⟩ = some (.int .i64 s1) := by simp
  generalize (w.alloc (.cells #[.int .i64 (N : Int), .int .i64 h] 26)).alloc (.cells #[.int .i64 s0, .int .i64 s1] 120) = wz at *
  have hl1 := hK.room
  have hl0 : w.heap.size < wz.heap.size := by omega
  have HC := Lib.hid (fun (u : World) (q : Below wz.heap.size wz u) => (⟨(q.cell (p := ⟨w.heap.size, 0, none⟩) hl0).trans hc0, (q.cell (p := ⟨w.heap.size, 1, none⟩) hl0).trans hc1, (q.cell (p := ⟨w.heap.size + 1, 0, none⟩) hl1).trans hc2, (q.cell (p := ⟨w.heap.size + 1, 1, none⟩) hl1).trans hc3, hK.next q⟩ :
    u.cell? ⟨w.heap.size, 0, none⟩ = some (.int .i64 (N : Int)) ∧ u.cell? ⟨w.heap.size, 1, none⟩ = some (.int .i64 h) ∧ u.cell? ⟨w.heap.size + 1, 0, none⟩ = some (.int .i64 s0) ∧ u.cell? ⟨w.heap.size + 1, 1, none⟩ = some (.int .i64 s1) ∧ Keep w 1 u))
  obtain ⟨c0, c1, c2, c3, -⟩ := HC.out wz (Below.refl _ _)
  clear hK hc0 hc1 hc2 hc3 hl0 hl1
  go_step3
  go_wp2_with fail
  refine (R1.out _).mono ?_
  rintro e w1 ⟨rfl, hb⟩
  have HB := Lib.hid hb
  clear hb c0 c1 c2 c3
  go_wp2_with fail
  go_step3
  go_wp2_with fail
  go_loopw [5, 13, 17, 20, 24] (fun x _ i _ _ wr => ∃ (j : Nat) (t : ByteArray), j ≤ 15 ∧ j ≤ b.toNat ∧ i = .int .i64 j ∧ x = .string t ∧ t = tx (sofar N room.data.toList s0 s1 a.toNat j v.data.toList) ∧ Below wz.heap.size wz wr) (fun _ _ i _ _ _ => 15 - (intOf i).toNat)
  case atStart => exact ⟨0, v, by omega, by omega, rfl, rfl, by rw [sofar, Nat.zero_sub, run], HB.out⟩
  case round =>
    clear HB
    obtain ⟨j, t, hj, hjb, rfl, rfl, ht, hbel⟩ := hrel
    have hts : t.size ≤ v.size + 32 := by rw [ht]; exact HSZ.out j
    have HT := Lib.hid ht
    have HW := Lib.hid hbel
    clear ht hbel
    by_cases hlt : j < 15
    · by_cases hto : b ≤ (j : Int)
      · have hd : decide (b ≤ (j : Int)) = true := by simp [hto]
        go_wp2
        have hjj : j = min b.toNat 15 := by omega
        have he : V = t := by rw [HV.out, HT.out, sofar_end N _ s0 s1 a b j _ hjj]
        subst he
        try rw [Exit.noGoto_ret]
        go_ret
        exact ⟨rfl, (HC.out _ HW.out).2.2.2.2.below⟩
      · have hd : decide (b ≤ (j : Int)) = false := by simp [hto]
        by_cases hf : a ≤ (j : Int)
        · have hd2 : decide (a ≤ (j : Int)) = true := by simp [hf]
          obtain ⟨T, hT⟩ : ∃ T, T = tx (step N room.data.toList s0 s1 (j : Int) t.data.toList) := ⟨_, rfl⟩
          have hT2 : T = tx (sofar N room.data.toList s0 s1 a.toNat (j + 1) v.data.toList) := by rw [hT, HT.out, sofar_next _ _ _ _ _ _ _ (by omega)]
          obtain ⟨c0, c1, c2, c3, hkk⟩ := HC.out _ HW.out
          have R3 := Lib.hid (R2.out t T (j : Int) wr hts hT hkk.consts)
          have HT2 := Lib.hid hT2
          clear hT hT2 hkk hts
          go_wp2_with fail
          refine R3.out.mono ?_
          rintro e w2 ⟨rfl, hb2⟩
          have HW2 := Lib.hid (HW.out.trans (hb2.mono HW.out.size))
          clear hb2 c0 c1 c2 c3
          go_wp2
          go_roundw
          case rel => exact ⟨j + 1, T, by omega, by omega, by go_num, rfl, HT2.out, HW2.out⟩
          case measure => simp [intOf]; omega
        · have hd2 : decide (a ≤ (j : Int)) = false := by simp [hf]
          go_wp2
          go_roundw
          case rel => exact ⟨j + 1, t, by omega, by omega, by go_num, rfl, by rw [HT.out, sofar_wait _ _ _ _ _ _ _ (by omega)], HW.out⟩
          case measure => simp [intOf]; omega
    · go_wp2
      have hjj : j = min b.toNat 15 := by omega
      have he : V = t := by rw [HV.out, HT.out, sofar_end N _ s0 s1 a b j _ hjj]
      subst he
      try rw [Exit.noGoto_ret]
      go_ret
      exact ⟨rfl, (HC.out _ HW.out).2.2.2.2.below⟩
end Go.Proofs.YtdhipdoaefdfeaaGreatDoor.Chn

namespace Go.Proofs.YtdhipdoaefdfeaaGreatDoor.Chn
open Go.RowKit Mur Sha
set_option maxRecDepth 100000

theorem leaf_no (n h : Int) (hr : ¬ Right n h) (seed room : ByteArray) (leaf : Int) (w : World) :
    Calls Tryz.prog 85 #[.agg #[.int .i64 n, .int .i64 h], .string seed, .string room, .int .i64 leaf] w fun e w' => e = .returned (.string ⟨#[]⟩) ∧ Below w.heap.size w w' := by
  have R1 := Lib.hid (fun u => right_no n h hr u)
  clear hr
  go_enter Tryz.func85, Tryz.ntmps85
  go_wp2_with fail
  refine (R1.out _).mono ?_
  rintro e w1 ⟨rfl, hb⟩
  have HB := Lib.hid (((Below.refl w.heap.size w).alloc (Nat.le_refl _) (.cells #[.int .i64 n, .int .i64 h] 26)).trans (hb.mono (by simp)))
  clear hb
  go_wp2
  go_ret
  exact ⟨rfl, HB.out⟩

/-- So many pieces, as long as a value, are short. -/
theorem pieces_le (N k : Nat) (hN : N ≤ 32) (hk : k ≤ 2 * N + 3) : N * k ≤ 2144 := Nat.le_trans (Nat.mul_le_mul hN (show k ≤ 67 by omega)) (by decide)

set_option maxHeartbeats 3200000 in
theorem leaf_any (N : Nat) (h : Int) (seed room : ByteArray) (leaf : Int) (V : ByteArray) (w : World) (hr : Right (N : Int) h) (hs : seed.size + room.size ≤ 68719476736) (hV : V = tx (leafOf N seed.data.toList room.data.toList leaf)) (hk : Consts w) :
    Calls Tryz.prog 85 #[.agg #[.int .i64 (N : Int), .int .i64 h], .string seed, .string room, .int .i64 leaf] w fun e w' => e = .returned (.string V) ∧ Below w.heap.size w w' := by
  have R1 := Lib.hid (fun u => right_yes N h hr u)
  have R2 := Lib.hid (fun u => count_yes N h hr u)
  have hN : N ≤ 32 := by have := hr.2.1; omega
  have hl := leafP_length N seed.data.toList room.data.toList leaf hN
  have RB := Lib.hid (fun (c : Nat) (T : ByteArray) (hT : T = tx (begins N seed.data.toList leaf (c : Int))) (u : World) (hu : Consts u) => begin_any N h seed leaf (c : Int) T u hN (by omega) hT hu)
  have RR := Lib.hid (fun (c : Nat) (T P : ByteArray) (hT : T = tx (begins N seed.data.toList leaf (c : Int))) (hP : P = tx (leafP N seed.data.toList room.data.toList leaf c)) (u : World) (hu : Consts u) =>
    run_any N h room T leaf (c : Int) 0 15 P u hr (by rw [hT]; have := begins_length N seed.data.toList leaf (c : Int) hN; show room.size + (begins N seed.data.toList leaf (c : Int)).length ≤ _; omega) (by rw [hP, hT]; rfl) hu)
  obtain ⟨F, hF⟩ : ∃ F, F = leafP N seed.data.toList room.data.toList leaf := ⟨_, rfl⟩
  rw [← hF] at hl RR
  have hul := upto_length F N hl
  have RT := Lib.hid (fun (u : World) (hu : Consts u) => together_any N h room (tx (upto F (2 * N + 3))) leaf V u hN (by have := hul (2 * N + 3); have := pieces_le N (2 * N + 3) hN (Nat.le_refl _); show room.size + (upto F (2 * N + 3)).length ≤ _; omega) (by rw [hV, leafOf, ← hF]) hu)
  have HUL := Lib.hid hul
  have HFL := Lib.hid hl
  clear hV hs hF hr hl hul
  have hB0 := (Below.refl w.heap.size w).alloc (Nat.le_refl _) (.cells #[.int .i64 (N : Int), .int .i64 h] 26)
  have hc0 : (w.alloc (.cells #[.int .i64 (N : Int), .int .i64 h] 26)).cell? ⟨w.heap.size, 0, none⟩ = some (.int .i64 (N : Int)) := by simp
  have hc1 : (w.alloc (.cells #[.int .i64 (N : Int), .int .i64 h] 26)).cell? ⟨w.heap.size, 1, none⟩ = some (.int .i64 h) := by simp
  have hlt : w.heap.size < (w.alloc (.cells #[.int .i64 (N : Int), .int .i64 h] 26)).heap.size := by simp
  go_enter Tryz.func85, Tryz.ntmps85
  go_wp2_with fail
  generalize w.alloc (.cells #[.int .i64 (N : Int), .int .i64 h] 26) = wz at *
  have HC := Lib.hid (fun (u : World) (q : Below wz.heap.size wz u) => (⟨(q.cell (p := ⟨w.heap.size, 0, none⟩) hlt).trans hc0, (q.cell (p := ⟨w.heap.size, 1, none⟩) hlt).trans hc1, hk.below hk.1 (hB0.trans (q.mono hB0.size))⟩ : u.cell? ⟨w.heap.size, 0, none⟩ = some (.int .i64 (N : Int)) ∧ u.cell? ⟨w.heap.size, 1, none⟩ = some (.int .i64 h) ∧ Consts u))
  have HB0 := Lib.hid hB0
  clear hB0 hc0 hc1 hlt hk
  refine (R1.out _).mono ?_
  rintro e w1 ⟨rfl, hb1⟩
  have HB1 := Lib.hid hb1
  clear hb1
  go_upto_region 4 with (fail)
  have HBU := Lib.hid (Use.builder_new w1.heap.size w1.heap.size _ (Nat.le_refl _) (_root_.Go.heap_alloc_new w1 (.cells #[.pointer none, .slice none 0 0] 126)))
  have HW1 := Lib.hid ((Below.refl w1.heap.size w1).alloc (Nat.le_refl _) (.cells #[.pointer none, .slice none 0 0] 126))
  have HZ2 := Lib.hid (HB1.out.trans (HW1.out.mono HB1.out.size))

  generalize w1.alloc (.cells #[.pointer none, .slice none 0 0] 126) = w2 at *
  obtain ⟨c0, c1, -⟩ := HC.out _ HZ2.out
  go_wp2_with fail
  refine (R2.out _).mono ?_
  rintro e w3 ⟨rfl, hb3⟩
  have HBU3 := Lib.hid (isBuilder_below HBU.out hb3)
  have HW3 := Lib.hid (HW1.out.trans (hb3.mono HW1.out.size))
  clear hb3 c0 c1 HBU HZ2
  have hn1 : (0 : Int) ≤ 2 * (N : Int) + 3 := by omega
  obtain ⟨M, hM⟩ : ∃ M, M = 2 * N + 3 := ⟨_, rfl⟩
  have hMi : (2 * (N : Int) + 3) = (M : Int) := by omega
  have hM67 : M ≤ 67 := by omega
  have hpl := fun k (hk : k ≤ M) => pieces_le N k hN (by omega)
  have HPL := Lib.hid hpl
  rw [← hM] at RT
  rw [hMi]
  clear hM hMi hn1 hpl
  go_wp2_with fail
  go_loopw [10, 17] (fun _ i wr => ∃ k : Nat, k ≤ M ∧ i = .int .i64 k ∧ Lib.IsBuilder 126 5 w1.heap.size w1.heap.size (Lib.byteCells (upto F k)) wr ∧ Below w1.heap.size w1 wr) (fun _ i _ => M - (intOf i).toNat)
  case atStart => exact ⟨0, by omega, rfl, HBU3.out, HW3.out⟩
  case round =>
    clear HBU3 HW3
    obtain ⟨k, hk, rfl, hbu, hbel⟩ := hrel
    have HBU := Lib.hid hbu
    have HW := Lib.hid hbel
    clear hbu hbel
    by_cases hlt : k < M
    · obtain ⟨T, hT⟩ : ∃ T, T = tx (begins N seed.data.toList leaf (k : Int)) := ⟨_, rfl⟩
      obtain ⟨P, hP⟩ : ∃ P, P = tx (F k) := ⟨_, rfl⟩
      have hPs : P.size = N := by rw [hP]; exact HFL.out k
      have hnx : upto F (k + 1) = upto F k ++ P.data.toList := by rw [hP]; rfl
      have hsz : (upto F k).length + P.size ≤ 140737488355328 := by have := HUL.out k; have := HPL.out k hk; omega
      have hzr := HB1.out.trans (HW.out.mono HB1.out.size)
      have RB1 := Lib.hid (fun (u : World) (q : Below wr.heap.size wr u) => RB.out k T hT u (HC.out u (hzr.trans (q.mono hzr.size))).2.2)
      have RR1 := Lib.hid (fun (u : World) (q : Below wr.heap.size wr u) => RR.out k T P hT hP u (HC.out u (hzr.trans (q.mono hzr.size))).2.2)
      have HC1 := Lib.hid (fun (u : World) (q : Below wr.heap.size wr u) => HC.out u (hzr.trans (q.mono hzr.size)))
      have HNX := Lib.hid hnx
      have HSZ := Lib.hid hsz
      clear hT hP hPs hnx hsz hzr
      go_upto_region 7 with (fail)
      refine Steady.region 11 (by kernel_rfl) (by kernel_rfl) (fun u => Below wr.heap.size wr u) ((Below.refl _ _).drew) ?_
      simp only [List.take_succ_cons, List.take_zero, List.drop_succ_cons, List.drop_zero]
      refine Steady.take ?_ rfl (by intro u hu; obtain ⟨c0, c1, -⟩ := HC1.out u hu; go_simp; with_reducible rfl) ?_
      simp only [Act.put, List.setIfInBounds_toArray, List.set_cons_zero, List.set_cons_succ]
      refine Steady.take ?_ rfl (by intro u hu; go_simp; with_reducible rfl) ?_
      simp only [Act.put, List.setIfInBounds_toArray, List.set_cons_zero, List.set_cons_succ]
      refine Steady.take ?_ rfl (by intro u hu; go_simp; with_reducible rfl) ?_
      simp only [Act.put, List.setIfInBounds_toArray, List.set_cons_zero, List.set_cons_succ]
      refine Steady.take ?_ rfl (by intro u hu; go_simp; with_reducible rfl) ?_
      simp only [Act.put, List.setIfInBounds_toArray, List.set_cons_zero, List.set_cons_succ]
      refine Steady.take ?_ rfl (by intro u hu; go_simp; with_reducible rfl) ?_
      simp only [Act.put, List.setIfInBounds_toArray, List.set_cons_zero, List.set_cons_succ]
      refine Steady.take ?_ rfl (by intro u hu; obtain ⟨c0, c1, -⟩ := HC1.out u hu; go_simp; with_reducible rfl) ?_
      simp only [Act.put, List.setIfInBounds_toArray, List.set_cons_zero, List.set_cons_succ]
      refine Steady.take ?_ rfl (by intro u hu; go_simp; with_reducible rfl) ?_
      simp only [Act.put, List.setIfInBounds_toArray, List.set_cons_zero, List.set_cons_succ]
      refine Steady.take ?_ rfl (by intro u hu; go_simp; with_reducible rfl) ?_
      simp only [Act.put, List.setIfInBounds_toArray, List.set_cons_zero, List.set_cons_succ]
      refine Steady.take ?_ rfl (by intro u hu; go_simp; with_reducible rfl) ?_
      simp only [Act.put, List.setIfInBounds_toArray, List.set_cons_zero, List.set_cons_succ]
      refine Steady.call _ _ _ rfl ?_ (keptIf RB1.out) ?_
      · intro u
        go_simp
      simp only [Act.put, List.setIfInBounds_toArray, List.set_cons_zero, List.set_cons_succ]
      refine Steady.call _ _ _ rfl ?_ (keptIf RR1.out) ?_
      · intro u
        go_simp
      simp only [Act.put, List.setIfInBounds_toArray, List.set_cons_zero, List.set_cons_succ]
      refine Steady.nil ?_
      intro w5 hb5
      have HBU5 := Lib.hid (isBuilder_below HBU.out hb5)
      have HW5 := Lib.hid (HW.out.trans (hb5.mono HW.out.size))
      clear hb5
      go_wp2_with fail
      refine (Use.write_any w1.heap.size w1.heap.size (upto F k) _ _ HBU5.out HSZ.out HW5.out.size).mono ?_
      rintro e w6 ⟨rfl, hbu6, hb6⟩
      rw [← HNX.out] at hbu6
      have HBU6 := Lib.hid hbu6
      have HW6 := Lib.hid (HW5.out.trans hb6)
      clear hbu6 hb6
      go_wp2
      go_roundw
      case rel => exact ⟨k + 1, by omega, by go_num, HBU6.out, HW6.out⟩
      case measure => simp [intOf]; omega
    · obtain rfl : k = M := by omega
      have RS := Lib.hid (fun (u : World) (q : Below w1.heap.size wr u ∧ Lib.IsBuilderF 126 5 w1.heap.size w1.heap.size (Lib.byteCells (upto F k)) u) =>
        (Use.string_f w1.heap.size w1.heap.size (upto F k) u q.2 (HW.out.trans q.1).size).mono (fun e w' (y : e = .returned (.string ⟨(upto F k).toArray⟩) ∧ _) => (⟨y.1, q.1.trans y.2.2, y.2.1⟩ : e = .returned (.string (tx (upto F k))) ∧ (Below w1.heap.size wr w' ∧ Lib.IsBuilderF 126 5 w1.heap.size w1.heap.size (Lib.byteCells (upto F k)) w'))))
      have hzr := HB1.out.trans (HW.out.mono HB1.out.size)
      have HZU := Lib.hid (fun (u : World) (q : Below w1.heap.size wr u) => HB1.out.trans ((HW.out.trans q).mono HB1.out.size))
      have HST := Lib.hid (show Below w1.heap.size wr wr.drew ∧ Lib.IsBuilderF 126 5 w1.heap.size w1.heap.size (Lib.byteCells (upto F k)) wr.drew from ⟨(Below.refl _ _).drew, Lib.IsBuilderF.of (isBuilder_below HBU.out (Below.refl _ _).drew)⟩)
      clear hzr
      generalize tx (upto F k) = E at *
      go_upto_region 9 with (fail)
      refine Steady.region 4 (by kernel_rfl) (by kernel_rfl) (fun u => Below w1.heap.size wr u ∧ Lib.IsBuilderF 126 5 w1.heap.size w1.heap.size (Lib.byteCells (upto F k)) u) HST.out ?_
      simp only [List.take_succ_cons, List.take_zero, List.drop_succ_cons, List.drop_zero]
      refine Steady.take ?_ rfl (by intro u hu; obtain ⟨c0, c1, -⟩ := HC.out u (HZU.out u hu.1); go_simp; with_reducible rfl) ?_
      simp only [Act.put, List.setIfInBounds_toArray, List.set_cons_zero, List.set_cons_succ]
      refine Steady.take ?_ rfl (by intro u hu; go_simp; with_reducible rfl) ?_
      simp only [Act.put, List.setIfInBounds_toArray, List.set_cons_zero, List.set_cons_succ]
      refine Steady.take ?_ rfl (by intro u hu; go_simp; with_reducible rfl) ?_
      simp only [Act.put, List.setIfInBounds_toArray, List.set_cons_zero, List.set_cons_succ]
      refine Steady.call _ _ _ rfl ?_ (id RS.out) ?_
      · intro u
        go_simp
      simp only [Act.put, List.setIfInBounds_toArray, List.set_cons_zero, List.set_cons_succ]
      refine Steady.nil ?_
      intro w5 hb5
      have HZ5 := Lib.hid (HZU.out w5 hb5.1)
      clear hb5
      go_wp2_with fail
      refine (RT.out _ (HC.out _ HZ5.out).2.2).mono ?_
      rintro e w6 ⟨rfl, hb6⟩
      have HZ6 := Lib.hid (HB0.out.trans ((HZ5.out.trans (hb6.mono HZ5.out.size)).mono HB0.out.size))
      clear hb6
      go_wp2
      go_ret
      exact ⟨rfl, HZ6.out⟩
end Go.Proofs.YtdhipdoaefdfeaaGreatDoor.Chn

namespace Go.Proofs.YtdhipdoaefdfeaaGreatDoor.Chn
open Go.RowKit Mur Sha
set_option maxRecDepth 100000

theorem told_lay (N : Nat) (d : List UInt8) : Hold.lay (madeCells #[.int .u8 0] N).toList 0 ((bytesV d).take (min d.length N)) = bytesV (told N d) := by
  have e : (madeCells #[.int .u8 0] N).toList = List.replicate N (Value.int .u8 0) := by
    apply List.ext_getElem (by simp [madeCells])
    intro i h1 h2
    simp [madeCells, Nat.mod_one]
  have e2 : List.replicate N (Value.int .u8 0) = List.replicate (min d.length N) (Value.int .u8 0) ++ List.replicate (N - d.length) (Value.int .u8 0) := by
    rw [List.replicate_append_replicate]
    congr 1
    omega
  have e3 : bytesV (told N d) = (bytesV d).take (min d.length N) ++ List.replicate (N - d.length) (Value.int .u8 0) := by
    have e4 : d.take N = d.take (min d.length N) := by
      rcases Nat.le_total N d.length with h | h
      · rw [Nat.min_eq_right h]
      · rw [Nat.min_eq_left h, List.take_length, List.take_of_length_le h]
    unfold told bytesV
    rw [List.map_append, List.map_replicate, e4, List.map_take]
    rfl
  rw [e, e2, e3, Hold.lay_left]
  rw [List.length_take, bytesV_length, List.length_replicate]
  omega

theorem and15_u8 (x : UInt8) : bits .and .u8 (x.toNat : Int) 15 = ((x.toNat % 16 : Nat) : Int) := by
  have := and_u8 x 15
  rw [show ((15 : UInt8).toNat : Int) = 15 from rfl] at this
  rw [this, UInt8.toNat_and, show (15 : UInt8).toNat = 2 ^ 4 - 1 from rfl, Nat.and_two_pow_sub_one_eq_mod]
theorem and15_i64 (x : Nat) (h : x < 9223372036854775808) : bits .and .i64 (x : Int) 15 = ((x % 16 : Nat) : Int) := by
  have := and_i64_nat x 15 h (by decide)
  rw [show ((15 : Nat) : Int) = 15 from rfl] at this
  rw [this, show 15 = 2 ^ 4 - 1 from rfl, Nat.and_two_pow_sub_one_eq_mod]

set_option maxHeartbeats 3200000 in
theorem digits_any (N : Nat) (h : Int) (d : ByteArray) (w : World) (hr : Right (N : Int) h) :
    Calls Tryz.prog 73 #[.agg #[.int .i64 (N : Int), .int .i64 h], .string d] w fun e w' => ∃ v, e = .returned v ∧ w'.ownsRow w.heap.size 3 1 v (2 * N + 3) (Ints.intsV (digs N d.data.toList)) ∧ Below w.heap.size w w' := by
  have R1 := Lib.hid (fun u => right_yes N h hr u)
  have R2 := Lib.hid (fun u => count_yes N h hr u)
  have hN : N ≤ 32 := by have := hr.2.1; omega
  have hN2 : 2 ≤ N := by have := hr.1; omega
  clear hr
  obtain ⟨T, hT⟩ : ∃ T, T = told N d.data.toList := ⟨_, rfl⟩
  have hTl : T.length = N := by rw [hT]; exact told_length _ _
  have hlay : Hold.lay (madeCells #[.int .u8 0] N).toList 0 ((bytesV d.data.toList).take (min d.size N)) = bytesV T := by rw [hT]; exact told_lay N d.data.toList
  have hD : digs N d.data.toList = nibs T ++ rest (left N T) := by rw [hT]; rfl
  rw [hD]
  have hmk : ∀ u : World, (Instr.makeSlice 103 (.int .i64 (N : Int)) (.int .i64 (N : Int))).run Tryz.prog u = .ok (.slice (some ⟨u.heap.size, 0, none⟩) N N) (u.alloc (.cells ((madeCells #[.int .u8 0] N).toList).toArray 5)) := fun u => by
    have := Lanes.make_u8 u N (by omega)
    simpa using this
  have hmk2 : ∀ u : World, (Instr.makeSlice 44 (.int .i64 0) (.int .i64 (2 * (N : Int) + 3))).run Tryz.prog u = .ok (.slice (some ⟨u.heap.size, 0, none⟩) 0 (2 * N + 3)) (u.alloc (.cells (madeCells #[.int .i64 0] (2 * N + 3)) 3)) := fun u => Ints.make_room u (2 * N + 3) _ (by omega) (by omega)
  have hsz : ∀ u : World, (Go.sizeOf 5).run Tryz.prog u = .ok 1 u := fun u => by go_simp
  have HLAY := Lib.hid hlay
  have HSZ := Lib.hid hsz
  have HTL := Lib.hid hTl
  have hml : (madeCells #[.int .u8 0] N).toList.length = N := by simp [madeCells]
  have HML := Lib.hid hml
  clear hD hT hlay hsz hTl hml
  generalize (madeCells #[.int .u8 0] N).toList = Z at *
  go_enter Tryz.func73, Tryz.ntmps73
  go_wp2_with fail
  have hB0 := (Below.refl w.heap.size w).alloc (Nat.le_refl _) (.cells #[.int .i64 (N : Int), .int .i64 h] 26)
  have hc0 : (w.alloc (.cells #[.int .i64 (N : Int), .int .i64 h] 26)).cell? ⟨w.heap.size, 0, none⟩ = some (.int .i64 (N : Int)) := by simp
  have hc1 : (w.alloc (.cells #[.int .i64 (N : Int), .int .i64 h] 26)).cell? ⟨w.heap.size, 1, none⟩ = some (.int .i64 h) := by simp
  have hlt : w.heap.size < (w.alloc (.cells #[.int .i64 (N : Int), .int .i64 h] 26)).heap.size := by simp
  generalize w.alloc (.cells #[.int .i64 (N : Int), .int .i64 h] 26) = wz at *
  have HC := Lib.hid (fun (u : World) (q : Below wz.heap.size wz u) => (⟨(q.cell (p := ⟨w.heap.size, 0, none⟩) hlt).trans hc0, (q.cell (p := ⟨w.heap.size, 1, none⟩) hlt).trans hc1⟩ : u.cell? ⟨w.heap.size, 0, none⟩ = some (.int .i64 (N : Int)) ∧ u.cell? ⟨w.heap.size, 1, none⟩ = some (.int .i64 h)))
  have HB0 := Lib.hid hB0
  clear hB0 hc0 hc1 hlt
  refine (R1.out _).mono ?_
  rintro e w1 ⟨rfl, hb1⟩
  obtain ⟨c0, c1⟩ := HC.out _ hb1
  have HB1 := Lib.hid hb1
  clear hb1
  go_upto_region 4 with (fail)
  clear c0 c1 hmk
  have HM := Lib.hid ((Hold.Hld.start w1).add 5 Z)
  have hb0 : w1.heap.size < (w1.alloc (.cells Z.toArray 5)).heap.size := by simp
  generalize w1.heap.size = b at *
  generalize w1.alloc (.cells Z.toArray 5) = w2 at *
  have hcp := Hold.run_copyText (P := Tryz.prog) (dT := 103) (sT := 9) (ty := 3) (C := N) (L := N) (s := d) HM.out 0 rfl Tryz.underlying103 HSZ.out (by rw [HML.out]; exact Nat.min_le_right _ _)
  have hM2 := HM.out.set 0 rfl 0 ((bytesV d.data.toList).take (min d.size N))
  simp only at hM2
  rw [HLAY.out] at hM2
  generalize w2.setCells b 0 ((bytesV d.data.toList).take (min d.size N)) = w3 at *
  have HM2 := Lib.hid hM2
  clear HM hM2 HLAY HML
  go_upto_region 5 with (fail)
  clear hcp
  have HB3 := Lib.hid (HB1.out.trans (HM2.out.below.mono HB1.out.size))
  have HROW := Lib.hid (HM2.out.at 0 rfl).row
  have hbl : b < w3.heap.size := HROW.out.lt
  have HBL := Lib.hid hbl
  clear HM2 hbl
  obtain ⟨c0, c1⟩ := HC.out _ HB3.out
  go_wp2_with fail
  refine (R2.out _).mono ?_
  rintro e w4 ⟨rfl, hb4⟩
  have HB4 := Lib.hid hb4
  clear hb4 c0 c1
  obtain ⟨c0, c1⟩ := HC.out _ (HB3.out.trans (HB4.out.mono HB3.out.size))
  have hown0 := World.ownsRow_made (base := w3.heap.size) (e := 3) (size := 1) w4 (madeCells #[.int .i64 0] (2 * N + 3)) (2 * N + 3) HB4.out.size (by unfold maxLen; omega) (by simp [madeCells])
  have HOWN0 := Lib.hid hown0
  have HW0 := Lib.hid (HB4.out.alloc HB4.out.size (.cells (madeCells #[.int .i64 0] (2 * N + 3)) 3))
  clear hown0
  obtain ⟨d0, d1⟩ := HC.out _ (HB3.out.trans (HW0.out.mono HB3.out.size))
  go_wp2_with fail
  clear c0 c1 d0 d1 hmk2
  go_loopw [6, 7, 9, 10, 11, 29] (fun v r _ _ _ i wr => ∃ k : Nat, k ≤ N ∧ i = .int .i64 k ∧ r = .int .i64 ((30 * N - (nibs (T.take k)).sum : Nat) : Int) ∧ wr.ownsRow w3.heap.size 3 1 v (2 * k) (Ints.intsV (nibs (T.take k))) ∧ Below w3.heap.size w3 wr) (fun _ _ _ _ _ i _ => N - (intOf i).toNat)
  case atStart => exact ⟨0, by omega, rfl, by simp [nibs], HOWN0.out, HW0.out⟩
  case round =>
    clear HOWN0 HW0
    obtain ⟨k, hk, rfl, rfl, hown, hbel⟩ := hrel
    by_cases hlt : k < N
    · have hrow := HROW.out.below HBL.out hbel
      have hkT : k < T.length := by rw [HTL.out]; exact hlt
      have hc := hrow.cell (bytesV_at hkT)
      have htk : nibs (T.take (k + 1)) = nibs (T.take k) ++ [T[k].toNat / 16, T[k].toNat % 16] := by
        rw [List.take_succ_eq_append_getElem hkT, nibs_snoc]; rfl
      have hsm := nibs_sum (T.take (k + 1))
      have hln : (T.take (k + 1)).length = k + 1 := by rw [List.length_take]; omega
      have hsm0 : (nibs (T.take (k + 1))).sum = (nibs (T.take k)).sum + (T[k].toNat / 16 + T[k].toNat % 16) := by rw [htk, List.sum_append]; simp
      rw [hln] at hsm
      have hxb := T[k].toNat_lt
      have h15 := and15_u8 T[k]
      generalize T[k] = x at *
      obtain ⟨hi, hhi⟩ : ∃ n, n = x.toNat / 16 := ⟨_, rfl⟩
      obtain ⟨lo, hlo⟩ : ∃ n, n = x.toNat % 16 := ⟨_, rfl⟩
      rw [← hhi, ← hlo] at htk hsm0
      rw [← hlo] at h15
      have hhi2 : hi ≤ 15 := by omega
      have hlo2 : lo ≤ 15 := by omega
      generalize hS : (nibs (T.take k)).sum = s at *
      have ehi : (x.toNat : Int) / 16 = (hi : Int) := by omega
      have elo : (x.toNat : Int) % 16 = (lo : Int) := by omega
      have hnext : 30 * N - (nibs (T.take (k + 1))).sum = 30 * N - s - (hi + lo) := by omega
      have hle : hi + lo ≤ 30 * N - s := by omega
      obtain ⟨r, hr⟩ : ∃ r, r = 30 * N - s := ⟨_, rfl⟩
      rw [← hr] at hnext hle
      have hr2 : r ≤ 960 := by omega
      rw [← hr]
      have HNX := Lib.hid hnext
      have HTK := Lib.hid htk
      have HOWN := Lib.hid hown
      have HW := Lib.hid hbel
      clear hrow htk hown hbel hsm0 hsm hnext hr hS h15 hxb hhi hlo hln
      go_upto_region 11 with (fail)
      clear hc ehi elo
      go_upto_region 12 with (at_builtin; refine Ints.append_ints rfl _ _ rfl w3.heap.size (2 * k) _ (nibs (T.take k)) rfl (HOWN.out.alloc _) wr.heap.size 2 2 [hi, lo] rfl rfl (Ints.new_two _ _ _ _) (by omega) (Nat.le_trans HW.out.size (by simp)) ?_)
      intro v' w5 hown5 hgrow5
      have HW5 := Lib.hid ((HW.out.alloc HW.out.size (.cells #[.int .i64 (hi : Int), .int .i64 (lo : Int)] 3)).grown hgrow5 (Nat.le_trans HW.out.size (by simp)) (fun j hj => (HOWN.out.lt j hj).1))
      rw [← HTK.out] at hown5
      have HOWN5 := Lib.hid hown5
      clear hown5 hgrow5 HOWN HW
      go_wp2
      go_roundw
      case rel => exact ⟨k + 1, by omega, by go_num, by rw [HNX.out]; go_num, HOWN5.out, HW5.out⟩
      case measure => simp [intOf]; omega
    · obtain rfl : k = N := by omega
      have hall : T.take k = T := by rw [List.take_of_length_le]; rw [HTL.out]; exact Nat.le_refl _
      rw [hall] at hown
      have hsm := nibs_sum T
      rw [HTL.out] at hsm
      have hL : left k T = 30 * k - (nibs T).sum := rfl
      rw [hall, ← hL]
      have hle := left_le k T
      obtain ⟨r, hr⟩ : ∃ r, r = left k T := ⟨_, rfl⟩
      rw [← hr] at hle ⊢
      obtain ⟨a0, ha0⟩ : ∃ a, a = r / 256 := ⟨_, rfl⟩
      obtain ⟨a1, ha1⟩ : ∃ a, a = r / 16 % 16 := ⟨_, rfl⟩
      obtain ⟨a2, ha2⟩ : ∃ a, a = r % 16 := ⟨_, rfl⟩
      have e0 : (r : Int) / 256 = (a0 : Int) := by omega
      have e2 := and15_i64 r (by omega)
      have e1 := and15_i64 (r / 16) (by omega)
      have e3 : (r : Int) / 16 = ((r / 16 : Nat) : Int) := by omega
      rw [← e3, ← ha1] at e1
      rw [← ha2] at e2
      have hrest : nibs T ++ [a0, a1, a2] = nibs T ++ rest (left k T) := by rw [ha0, ha1, ha2, ← hr]; rfl
      have HREST := Lib.hid hrest
      have HOWN := Lib.hid hown
      have HW := Lib.hid hbel
      clear hrest hown hbel hsm hL e3 ha0 ha1 ha2 hr hall
      go_wp2_with (at_builtin; refine Ints.append_ints rfl _ _ rfl w3.heap.size (2 * k) _ (nibs T) rfl (HOWN.out.alloc _) wr.heap.size 3 3 [a0, a1, a2] rfl rfl (Ints.new_three _ _ _ _ _) (by omega) (Nat.le_trans HW.out.size (by simp)) ?_)
      intro v' w5 hown5 hgrow5
      have HW5 := Lib.hid ((HW.out.alloc HW.out.size (.cells #[.int .i64 (a0 : Int), .int .i64 (a1 : Int), .int .i64 (a2 : Int)] 3)).grown hgrow5 (Nat.le_trans HW.out.size (by simp)) (fun j hj => (HOWN.out.lt j hj).1))
      rw [HREST.out] at hown5
      have HOWN5 := Lib.hid hown5
      clear hown5 hgrow5 HOWN HW
      go_wp2
      have hBw := HB0.out.trans (HB3.out.mono HB0.out.size)
      refine bodyPost_ret (v := v') (by simp [results, Tryz.results73, go_sem]) rfl ⟨_, rfl, Strs.own_mono HOWN5.out hBw.size, hBw.trans (HW5.out.mono hBw.size)⟩

theorem digits_no (n h : Int) (hr : ¬ Right n h) (d : ByteArray) (w : World) :
    Calls Tryz.prog 73 #[.agg #[.int .i64 n, .int .i64 h], .string d] w fun e w' => e = .returned (.slice none 0 0) ∧ Below w.heap.size w w' := by
  have R1 := Lib.hid (fun u => right_no n h hr u)
  clear hr
  go_enter Tryz.func73, Tryz.ntmps73
  go_wp2_with fail
  refine (R1.out _).mono ?_
  rintro e w1 ⟨rfl, hb⟩
  have HB := Lib.hid (((Below.refl w.heap.size w).alloc (Nat.le_refl _) (.cells #[.int .i64 n, .int .i64 h] 26)).trans (hb.mono (by simp)))
  clear hb
  go_wp2
  go_ret
  exact ⟨rfl, HB.out⟩
end Go.Proofs.YtdhipdoaefdfeaaGreatDoor.Chn

namespace Go.Proofs.YtdhipdoaefdfeaaGreatDoor.Chn
open Go.RowKit Mur Sha
set_option maxRecDepth 100000

/-- A row of ints that a call has made: its block, and its cells wherever that block stands. -/
theorem ints_row {w : World} {base n : Nat} {v : Value} {l : List Nat} (h : w.ownsRow base 3 1 v n (Ints.intsV l)) (hn : 0 < n) :
    ∃ g c cur, v = .slice (some ⟨g, 0, none⟩) n c ∧ base ≤ g ∧ n ≤ c ∧ w.heap[g]? = some (.cells cur 3 (0, 0)) ∧ ∀ w' : World, w'.heap[g]? = some (.cells cur 3 (0, 0)) → ∀ (i x : Nat), l[i]? = some x → w'.cell? ⟨g, i, none⟩ = some (.int .i64 (x : Int)) := by
  obtain ⟨hl, h2⟩ := h
  rcases h2 with ⟨-, h0⟩ | ⟨g, cap, cur, rfl, h1, h2, h3, h4⟩
  · omega
  · refine ⟨g, cap, cur, rfl, h1, h3, h2, fun w' hw i x hx => ?_⟩
    have hown : w'.ownsRow base 3 1 (.slice (some ⟨g, 0, none⟩) n cap) n (Ints.intsV l) := ⟨hl, .inr ⟨g, cap, cur, rfl, h1, hw, h3, h4⟩⟩
    exact Strs.own_cell hown i _ (Ints.intsV_at hx)

theorem sign_no (n h : Int) (hr : ¬ Right n h) (seed room d : ByteArray) (leaf : Int) (w : World) :
    Calls Tryz.prog 55 #[.agg #[.int .i64 n, .int .i64 h], .string seed, .string room, .int .i64 leaf, .string d] w fun e w' => e = .returned (.string ⟨#[]⟩) ∧ Below w.heap.size w w' := by
  have R1 := Lib.hid (fun u => digits_no n h hr d u)
  clear hr
  have hB0 := (Below.refl w.heap.size w).alloc (Nat.le_refl _) (.cells #[.int .i64 n, .int .i64 h] 26)
  have hc0 : (w.alloc (.cells #[.int .i64 n, .int .i64 h] 26)).cell? ⟨w.heap.size, 0, none⟩ = some (.int .i64 n) := by simp
  have hc1 : (w.alloc (.cells #[.int .i64 n, .int .i64 h] 26)).cell? ⟨w.heap.size, 1, none⟩ = some (.int .i64 h) := by simp
  have hlt : w.heap.size < (w.alloc (.cells #[.int .i64 n, .int .i64 h] 26)).heap.size := by simp
  go_enter Tryz.func55, Tryz.ntmps55
  go_upto_region 1 with (fail)
  generalize w.alloc (.cells #[.int .i64 n, .int .i64 h] 26) = wz at *
  go_upto_region 2 with (fail)
  have HBU := Lib.hid (Use.builder_new wz.heap.size wz.heap.size _ (Nat.le_refl _) (_root_.Go.heap_alloc_new wz (.cells #[.pointer none, .slice none 0 0] 126)))
  have hw1 := (Below.refl wz.heap.size wz).alloc (Nat.le_refl _) (.cells #[.pointer none, .slice none 0 0] 126)
  generalize wz.alloc (.cells #[.pointer none, .slice none 0 0] 126) = w2 at *
  have c0 := (hw1.cell (p := ⟨w.heap.size, 0, none⟩) hlt).trans hc0
  have c1 := (hw1.cell (p := ⟨w.heap.size, 1, none⟩) hlt).trans hc1
  have HB0 := Lib.hid hB0
  have HW1 := Lib.hid hw1
  clear hB0 hc0 hc1 hlt hw1
  go_wp2_with fail
  refine (R1.out _).mono ?_
  rintro e w3 ⟨rfl, hb3⟩
  have HBU3 := Lib.hid (isBuilder_below HBU.out hb3)
  have HW3 := Lib.hid (HW1.out.trans (hb3.mono HW1.out.size))
  clear hb3 c0 c1 HBU HW1
  go_wp2_with fail
  go_loopw [12, 13, 19] (fun _ _ i wr => i = .int .i64 0 ∧ wr = w3) (fun _ _ _ _ => 0)
  case atStart => exact ⟨rfl, rfl⟩
  case round =>
    obtain ⟨rfl, rfl⟩ := hrel
    go_wp2_with fail
    refine (Use.string_any wz.heap.size wz.heap.size _ _ HBU3.out HW3.out.size).mono ?_
    rintro e w4 ⟨rfl, hb4⟩
    have HW4 := Lib.hid (HB0.out.trans ((HW3.out.trans hb4).mono HB0.out.size))
    clear hb4
    go_wp2
    go_ret
    exact ⟨rfl, HW4.out⟩

set_option maxHeartbeats 3200000 in
theorem sign_any (N : Nat) (h : Int) (seed room d : ByteArray) (leaf : Int) (V : ByteArray) (w : World) (hr : Right (N : Int) h) (hs : seed.size + room.size ≤ 68719476736) (hV : V = tx (sign N seed.data.toList room.data.toList leaf d.data.toList)) (hk : Consts w) :
    Calls Tryz.prog 55 #[.agg #[.int .i64 (N : Int), .int .i64 h], .string seed, .string room, .int .i64 leaf, .string d] w fun e w' => e = .returned (.string V) ∧ Below w.heap.size w w' := by
  have R1 := Lib.hid (fun u => digits_any N h d u hr)
  have hN : N ≤ 32 := by have := hr.2.1; omega
  have hl := signP_length N seed.data.toList room.data.toList leaf d.data.toList hN
  have RB := Lib.hid (fun (c : Nat) (T : ByteArray) (hT : T = tx (begins N seed.data.toList leaf (c : Int))) (u : World) (hu : Consts u) => begin_any N h seed leaf (c : Int) T u hN (by omega) hT hu)
  have RR := Lib.hid (fun (c : Nat) (T P : ByteArray) (hT : T = tx (begins N seed.data.toList leaf (c : Int))) (hP : P = tx (signP N seed.data.toList room.data.toList leaf d.data.toList c)) (u : World) (hu : Consts u) =>
    run_any N h room T leaf (c : Int) 0 (dig N d.data.toList c : Int) P u hr (by rw [hT]; have := begins_length N seed.data.toList leaf (c : Int) hN; show room.size + (begins N seed.data.toList leaf (c : Int)).length ≤ _; omega) (by rw [hP, hT]; rfl) hu)
  have hdl := fun c hc => dig_le N d.data.toList c hc
  obtain ⟨F, hF⟩ : ∃ F, F = signP N seed.data.toList room.data.toList leaf d.data.toList := ⟨_, rfl⟩
  rw [← hF] at hl RR
  have hul := upto_length F N hl
  have hVF : V = tx (upto F (2 * N + 3)) := by rw [hV, sign, ← hF]
  have hda := fun c hc => dig_at N d.data.toList c hc
  generalize dig N d.data.toList = D at *
  generalize digs N d.data.toList = L at *
  have HDA := Lib.hid hda
  have HVF := Lib.hid hVF
  have HUL := Lib.hid hul
  have HFL := Lib.hid hl
  clear hV hs hF hr hl hul hda hVF hdl
  have hB0 := (Below.refl w.heap.size w).alloc (Nat.le_refl _) (.cells #[.int .i64 (N : Int), .int .i64 h] 26)
  have hc0 : (w.alloc (.cells #[.int .i64 (N : Int), .int .i64 h] 26)).cell? ⟨w.heap.size, 0, none⟩ = some (.int .i64 (N : Int)) := by simp
  have hc1 : (w.alloc (.cells #[.int .i64 (N : Int), .int .i64 h] 26)).cell? ⟨w.heap.size, 1, none⟩ = some (.int .i64 h) := by simp
  have hlt : w.heap.size < (w.alloc (.cells #[.int .i64 (N : Int), .int .i64 h] 26)).heap.size := by simp
  go_enter Tryz.func55, Tryz.ntmps55
  go_upto_region 1 with (fail)
  generalize w.alloc (.cells #[.int .i64 (N : Int), .int .i64 h] 26) = wz at *
  have HC := Lib.hid (fun (u : World) (q : Below wz.heap.size wz u) => (⟨(q.cell (p := ⟨w.heap.size, 0, none⟩) hlt).trans hc0, (q.cell (p := ⟨w.heap.size, 1, none⟩) hlt).trans hc1, hk.below hk.1 (hB0.trans (q.mono hB0.size))⟩ : u.cell? ⟨w.heap.size, 0, none⟩ = some (.int .i64 (N : Int)) ∧ u.cell? ⟨w.heap.size, 1, none⟩ = some (.int .i64 h) ∧ Consts u))
  have HB0 := Lib.hid hB0
  clear hB0 hc0 hc1 hlt hk
  go_upto_region 2 with (fail)
  have HBU := Lib.hid (Use.builder_new wz.heap.size wz.heap.size _ (Nat.le_refl _) (_root_.Go.heap_alloc_new wz (.cells #[.pointer none, .slice none 0 0] 126)))
  have hlt2 : wz.heap.size < (wz.alloc (.cells #[.pointer none, .slice none 0 0] 126)).heap.size := by simp
  have HW1 := Lib.hid ((Below.refl wz.heap.size wz).alloc (Nat.le_refl _) (.cells #[.pointer none, .slice none 0 0] 126))
  generalize wz.alloc (.cells #[.pointer none, .slice none 0 0] 126) = w2 at *
  obtain ⟨c0, c1, -⟩ := HC.out _ HW1.out
  go_wp2_with fail
  refine (R1.out _).mono ?_
  rintro e w3 ⟨v, rfl, hown, hb3⟩
  obtain ⟨g, cp, cur, rfl, hg1, hg2, hg3, hg4⟩ := ints_row hown (by omega)
  have HGB := Lib.hid (show g ≠ wz.heap.size by omega)
  have HG3 := Lib.hid hg3
  have HBU3 := Lib.hid (Lib.IsBuilderF.of (isBuilder_below HBU.out hb3))
  have HW3 := Lib.hid (HW1.out.trans (hb3.mono HW1.out.size))
  clear hb3 c0 c1 HBU hown hg1 hg3 hlt2
  obtain ⟨M, hM⟩ : ∃ M, M = 2 * N + 3 := ⟨_, rfl⟩
  have hM67 : M ≤ 67 := by omega
  have hpl := fun k (hk : k ≤ M) => pieces_le N k hN (by omega)
  have HPL := Lib.hid hpl
  have HG4 := Lib.hid (fun (u : World) (hu : u.heap[g]? = some (.cells cur 3 (0, 0))) (k : Nat) (hk : k < M) => hg4 u hu k (D k) (HDA.out k (by omega)))
  rw [← hM] at hg2 HVF ⊢
  clear hM hpl hg4
  go_wp2_with fail
  go_loopw [12, 13, 19] (fun _ _ i wr => ∃ k : Nat, k ≤ M ∧ i = .int .i64 k ∧ Lib.IsBuilderF 126 5 wz.heap.size wz.heap.size (Lib.byteCells (upto F k)) wr ∧ wr.heap[g]? = some (.cells cur 3 (0, 0)) ∧ Below wz.heap.size wz wr) (fun _ _ i _ => M - (intOf i).toNat)
  case atStart => exact ⟨0, by omega, rfl, HBU3.out, HG3.out, HW3.out⟩
  case round =>
    clear HBU3 HW3 HG3
    obtain ⟨k, hk, rfl, hbu, hgk, hbel⟩ := hrel
    have HBU := Lib.hid hbu
    have HW := Lib.hid hbel
    have HG := Lib.hid hgk
    clear hbu hbel hgk
    by_cases hlt : k < M
    · have hc := HG4.out wr HG.out k hlt
      obtain ⟨T, hT⟩ : ∃ T, T = tx (begins N seed.data.toList leaf (k : Int)) := ⟨_, rfl⟩
      obtain ⟨P, hP⟩ : ∃ P, P = tx (F k) := ⟨_, rfl⟩
      have hPs : P.size = N := by rw [hP]; exact HFL.out k
      have hnx : upto F (k + 1) = upto F k ++ P.data.toList := by rw [hP]; rfl
      have hsz : (upto F k).length + P.size ≤ 140737488355328 := by have := HUL.out k; have := HPL.out k hk; omega
      have hzr := HW.out
      have RB1 := Lib.hid (fun (u : World) (q : Below wr.heap.size wr u) => RB.out k T hT u (HC.out u (hzr.trans (q.mono hzr.size))).2.2)
      have RR1 := Lib.hid (fun (u : World) (q : Below wr.heap.size wr u) => RR.out k T P hT hP u (HC.out u (hzr.trans (q.mono hzr.size))).2.2)
      have HC1 := Lib.hid (fun (u : World) (q : Below wr.heap.size wr u) => HC.out u (hzr.trans (q.mono hzr.size)))
      have HNX := Lib.hid hnx
      have HSZ := Lib.hid hsz
      clear hT hP hPs hnx hsz hzr
      generalize D k = dk at *
      go_upto_region 5 with (fail)
      clear hc
      refine Steady.region 12 (by kernel_rfl) (by kernel_rfl) (fun u => Below wr.heap.size wr u) ((Below.refl _ _).drew) ?_
      simp only [List.take_succ_cons, List.take_zero, List.drop_succ_cons, List.drop_zero]
      refine Steady.take ?_ rfl (by intro u hu; obtain ⟨c0, c1, -⟩ := HC1.out u hu; go_simp; with_reducible rfl) ?_
      simp only [Act.put, List.setIfInBounds_toArray, List.set_cons_zero, List.set_cons_succ]
      refine Steady.take ?_ rfl (by intro u hu; go_simp; with_reducible rfl) ?_
      simp only [Act.put, List.setIfInBounds_toArray, List.set_cons_zero, List.set_cons_succ]
      refine Steady.take ?_ rfl (by intro u hu; go_simp; with_reducible rfl) ?_
      simp only [Act.put, List.setIfInBounds_toArray, List.set_cons_zero, List.set_cons_succ]
      refine Steady.take ?_ rfl (by intro u hu; go_simp; with_reducible rfl) ?_
      simp only [Act.put, List.setIfInBounds_toArray, List.set_cons_zero, List.set_cons_succ]
      refine Steady.take ?_ rfl (by intro u hu; go_simp; with_reducible rfl) ?_
      simp only [Act.put, List.setIfInBounds_toArray, List.set_cons_zero, List.set_cons_succ]
      refine Steady.take ?_ rfl (by intro u hu; go_simp; with_reducible rfl) ?_
      simp only [Act.put, List.setIfInBounds_toArray, List.set_cons_zero, List.set_cons_succ]
      refine Steady.take ?_ rfl (by intro u hu; obtain ⟨c0, c1, -⟩ := HC1.out u hu; go_simp; with_reducible rfl) ?_
      simp only [Act.put, List.setIfInBounds_toArray, List.set_cons_zero, List.set_cons_succ]
      refine Steady.take ?_ rfl (by intro u hu; go_simp; with_reducible rfl) ?_
      simp only [Act.put, List.setIfInBounds_toArray, List.set_cons_zero, List.set_cons_succ]
      refine Steady.take ?_ rfl (by intro u hu; go_simp; with_reducible rfl) ?_
      simp only [Act.put, List.setIfInBounds_toArray, List.set_cons_zero, List.set_cons_succ]
      refine Steady.take ?_ rfl (by intro u hu; go_simp; with_reducible rfl) ?_
      simp only [Act.put, List.setIfInBounds_toArray, List.set_cons_zero, List.set_cons_succ]
      refine Steady.call _ _ _ rfl ?_ (keptIf RB1.out) ?_
      · intro u
        go_simp
      simp only [Act.put, List.setIfInBounds_toArray, List.set_cons_zero, List.set_cons_succ]
      refine Steady.call _ _ _ rfl ?_ (keptIf RR1.out) ?_
      · intro u
        go_simp
      simp only [Act.put, List.setIfInBounds_toArray, List.set_cons_zero, List.set_cons_succ]
      refine Steady.nil ?_
      intro w5 hb5
      have HBU5 := Lib.hid (Use.builderF_below HBU.out hb5)
      have HW5 := Lib.hid (HW.out.trans (hb5.mono HW.out.size))
      have HG5 := Lib.hid ((hb5.block g (Array.getElem?_eq_some_iff.1 HG.out).1).trans HG.out)
      clear hb5
      go_wp2_with fail
      refine (Use.write_k wz.heap.size wz.heap.size (upto F k) _ _ HBU5.out HSZ.out HW5.out.size).mono ?_
      rintro e w6 ⟨rfl, hbu6, hb6, ho6⟩
      rw [← HNX.out] at hbu6
      have HBU6 := Lib.hid hbu6
      have HW6 := Lib.hid (HW5.out.trans hb6)
      have HG6 := Lib.hid (Use.kept_block ho6 HG5.out HGB.out (by decide))
      clear hbu6 hb6 ho6
      go_wp2
      go_roundw
      case rel => exact ⟨k + 1, by omega, by go_num, HBU6.out, HG6.out, HW6.out⟩
      case measure => simp [intOf]; omega
    · obtain rfl : k = M := by omega
      go_wp2_with fail
      refine (Use.string_f wz.heap.size wz.heap.size _ _ HBU.out HW.out.size).mono ?_
      rintro e w4 ⟨rfl, -, hb4⟩
      have HW4 := Lib.hid (HB0.out.trans ((HW.out.trans hb4).mono HB0.out.size))
      clear hb4
      have hV := HVF.out
      subst hV
      go_wp2
      go_ret
      exact ⟨rfl, HW4.out⟩
end Go.Proofs.YtdhipdoaefdfeaaGreatDoor.Chn

namespace Go.Proofs.YtdhipdoaefdfeaaGreatDoor.Chn
open Go.RowKit Mur Sha
set_option maxRecDepth 100000

theorem piece_cut (s : ByteArray) (a n b : Nat) (hb : b = a + n) : s.extract a b = tx ((s.data.toList.drop a).take n) := by
  apply ByteArray.ext
  apply Array.ext'
  rw [hb]
  simp [ByteArray.data_extract, Array.toList_extract, List.extract]

set_option maxHeartbeats 3200000 in
theorem found_no (n h : Int) (hr : ¬ Right n h) (room sig d : ByteArray) (leaf : Int) (w : World) :
    Calls Tryz.prog 66 #[.agg #[.int .i64 n, .int .i64 h], .string room, .int .i64 leaf, .string sig, .string d] w fun e w' => e = .returned (.string ⟨#[]⟩) ∧ Below w.heap.size w w' := by
  have R1 := Lib.hid (fun u => right_no n h hr u)
  clear hr
  have hB0 := (Below.refl w.heap.size w).alloc (Nat.le_refl _) (.cells #[.int .i64 n, .int .i64 h] 26)
  have hc0 : (w.alloc (.cells #[.int .i64 n, .int .i64 h] 26)).cell? ⟨w.heap.size, 0, none⟩ = some (.int .i64 n) := by simp
  have hc1 : (w.alloc (.cells #[.int .i64 n, .int .i64 h] 26)).cell? ⟨w.heap.size, 1, none⟩ = some (.int .i64 h) := by simp
  have hlt : w.heap.size < (w.alloc (.cells #[.int .i64 n, .int .i64 h] 26)).heap.size := by simp
  go_enter Tryz.func66, Tryz.ntmps66
  go_upto_region 1 with (fail)
  generalize w.alloc (.cells #[.int .i64 n, .int .i64 h] 26) = wz at *
  have HC := Lib.hid (fun (u : World) (q : Below wz.heap.size wz u) => (⟨(q.cell (p := ⟨w.heap.size, 0, none⟩) hlt).trans hc0, (q.cell (p := ⟨w.heap.size, 1, none⟩) hlt).trans hc1⟩ : u.cell? ⟨w.heap.size, 0, none⟩ = some (.int .i64 n) ∧ u.cell? ⟨w.heap.size, 1, none⟩ = some (.int .i64 h)))
  have HB0 := Lib.hid hB0
  clear hB0 hc0 hc1 hlt
  refine Steady.region 12 (by kernel_rfl) (by kernel_rfl) (fun u => Below wz.heap.size wz u) ((Below.refl _ _).drew) ?_
  simp only [List.take_succ_cons, List.take_zero, List.drop_succ_cons, List.drop_zero]
  refine Steady.take ?_ rfl (by intro u hu; obtain ⟨c0, c1⟩ := HC.out u hu; go_simp; with_reducible rfl) ?_
  simp only [Act.put, List.setIfInBounds_toArray, List.set_cons_zero, List.set_cons_succ]
  refine Steady.call _ _ _ rfl ?_ (Steady.kept R1.out) ?_
  · intro u
    go_simp
  simp only [Act.put, List.setIfInBounds_toArray, List.set_cons_zero, List.set_cons_succ]
  refine Steady.take ?_ rfl (by intro u hu; go_simp; with_reducible rfl) ?_
  simp only [Act.put, List.setIfInBounds_toArray, List.set_cons_zero, List.set_cons_succ]
  refine Steady.take ?_ rfl (by intro u hu; go_simp; with_reducible rfl) ?_
  simp only [Act.put, List.setIfInBounds_toArray, List.set_cons_zero, List.set_cons_succ]
  refine Steady.pass rfl ?_
  simp only [Act.put, List.setIfInBounds_toArray, List.set_cons_zero, List.set_cons_succ]
  refine Steady.pass rfl ?_
  simp only [Act.put, List.setIfInBounds_toArray, List.set_cons_zero, List.set_cons_succ]
  refine Steady.pass rfl ?_
  simp only [Act.put, List.setIfInBounds_toArray, List.set_cons_zero, List.set_cons_succ]
  refine Steady.pass rfl ?_
  simp only [Act.put, List.setIfInBounds_toArray, List.set_cons_zero, List.set_cons_succ]
  refine Steady.pass rfl ?_
  simp only [Act.put, List.setIfInBounds_toArray, List.set_cons_zero, List.set_cons_succ]
  refine Steady.pass rfl ?_
  simp only [Act.put, List.setIfInBounds_toArray, List.set_cons_zero, List.set_cons_succ]
  refine Steady.pass rfl ?_
  simp only [Act.put, List.setIfInBounds_toArray, List.set_cons_zero, List.set_cons_succ]
  refine Steady.pass rfl ?_
  simp only [Act.put, List.setIfInBounds_toArray, List.set_cons_zero, List.set_cons_succ]
  refine Steady.nil ?_
  intro w5 hb5
  have HB5 := Lib.hid (HB0.out.trans (hb5.mono HB0.out.size))
  clear hb5
  go_wp2
  go_ret
  exact ⟨rfl, HB5.out⟩

set_option maxHeartbeats 3200000 in
theorem found_other (N : Nat) (h : Int) (hr : Right (N : Int) h) (room sig d : ByteArray) (leaf : Int) (hsz : ¬ sig.size = N * (2 * N + 3)) (w : World) :
    Calls Tryz.prog 66 #[.agg #[.int .i64 (N : Int), .int .i64 h], .string room, .int .i64 leaf, .string sig, .string d] w fun e w' => e = .returned (.string ⟨#[]⟩) ∧ Below w.heap.size w w' := by
  have R1 := Lib.hid (fun u => right_yes N h hr u)
  have R2 := Lib.hid (fun u => count_yes N h hr u)
  have hN : N ≤ 32 := by have := hr.2.1; omega
  obtain ⟨A, hA⟩ : ∃ A, A = N * (2 * N + 3) := ⟨_, rfl⟩
  have hA2 : A ≤ 2144 := by rw [hA]; exact pieces_le N _ hN (Nat.le_refl _)
  have hw : IntKind.i64.wrap ((N : Int) * (2 * (N : Int) + 3)) = (A : Int) := by
    have e : (N : Int) * (2 * (N : Int) + 3) = ((N * (2 * N + 3) : Nat) : Int) := by push_cast; rfl
    rw [e, ← hA]
    exact IntWalk.i64_in _ (by omega)
  have hne : ((sig.size : Int) != (A : Int)) = true := by simp; omega
  clear hr hA hsz
  have hB0 := (Below.refl w.heap.size w).alloc (Nat.le_refl _) (.cells #[.int .i64 (N : Int), .int .i64 h] 26)
  have hc0 : (w.alloc (.cells #[.int .i64 (N : Int), .int .i64 h] 26)).cell? ⟨w.heap.size, 0, none⟩ = some (.int .i64 (N : Int)) := by simp
  have hc1 : (w.alloc (.cells #[.int .i64 (N : Int), .int .i64 h] 26)).cell? ⟨w.heap.size, 1, none⟩ = some (.int .i64 h) := by simp
  have hlt : w.heap.size < (w.alloc (.cells #[.int .i64 (N : Int), .int .i64 h] 26)).heap.size := by simp
  go_enter Tryz.func66, Tryz.ntmps66
  go_upto_region 1 with (fail)
  generalize w.alloc (.cells #[.int .i64 (N : Int), .int .i64 h] 26) = wz at *
  have HC := Lib.hid (fun (u : World) (q : Below wz.heap.size wz u) => (⟨(q.cell (p := ⟨w.heap.size, 0, none⟩) hlt).trans hc0, (q.cell (p := ⟨w.heap.size, 1, none⟩) hlt).trans hc1⟩ : u.cell? ⟨w.heap.size, 0, none⟩ = some (.int .i64 (N : Int)) ∧ u.cell? ⟨w.heap.size, 1, none⟩ = some (.int .i64 h)))
  have HB0 := Lib.hid hB0
  clear hB0 hc0 hc1 hlt
  refine Steady.region 12 (by kernel_rfl) (by kernel_rfl) (fun u => Below wz.heap.size wz u) ((Below.refl _ _).drew) ?_
  simp only [List.take_succ_cons, List.take_zero, List.drop_succ_cons, List.drop_zero]
  refine Steady.take ?_ rfl (by intro u hu; obtain ⟨c0, c1⟩ := HC.out u hu; go_simp; with_reducible rfl) ?_
  simp only [Act.put, List.setIfInBounds_toArray, List.set_cons_zero, List.set_cons_succ]
  refine Steady.call _ _ _ rfl ?_ (Steady.kept R1.out) ?_
  · intro u
    go_simp
  simp only [Act.put, List.setIfInBounds_toArray, List.set_cons_zero, List.set_cons_succ]
  refine Steady.take ?_ rfl (by intro u hu; go_simp; with_reducible rfl) ?_
  simp only [Act.put, List.setIfInBounds_toArray, List.set_cons_zero, List.set_cons_succ]
  refine Steady.take ?_ rfl (by intro u hu; go_simp; with_reducible rfl) ?_
  simp only [Act.put, List.setIfInBounds_toArray, List.set_cons_zero, List.set_cons_succ]
  refine Steady.take ?_ rfl (by intro u hu; go_simp; with_reducible rfl) ?_
  simp only [Act.put, List.setIfInBounds_toArray, List.set_cons_zero, List.set_cons_succ]
  refine Steady.take ?_ rfl (by intro u hu; go_simp; with_reducible rfl) ?_
  simp only [Act.put, List.setIfInBounds_toArray, List.set_cons_zero, List.set_cons_succ]
  refine Steady.take ?_ rfl (by intro u hu; go_simp; with_reducible rfl) ?_
  simp only [Act.put, List.setIfInBounds_toArray, List.set_cons_zero, List.set_cons_succ]
  refine Steady.take ?_ rfl (by intro u hu; obtain ⟨c0, c1⟩ := HC.out u hu; go_simp; with_reducible rfl) ?_
  simp only [Act.put, List.setIfInBounds_toArray, List.set_cons_zero, List.set_cons_succ]
  refine Steady.take ?_ rfl (by intro u hu; obtain ⟨c0, c1⟩ := HC.out u hu; go_simp; with_reducible rfl) ?_
  simp only [Act.put, List.setIfInBounds_toArray, List.set_cons_zero, List.set_cons_succ]
  refine Steady.call _ _ _ rfl ?_ (Steady.kept R2.out) ?_
  · intro u
    go_simp
  simp only [Act.put, List.setIfInBounds_toArray, List.set_cons_zero, List.set_cons_succ]
  refine Steady.take ?_ rfl (by intro u hu; go_simp; with_reducible rfl) ?_
  simp only [Act.put, List.setIfInBounds_toArray, List.set_cons_zero, List.set_cons_succ]
  refine Steady.take ?_ rfl (by intro u hu; go_simp; with_reducible rfl) ?_
  simp only [Act.put, List.setIfInBounds_toArray, List.set_cons_zero, List.set_cons_succ]
  refine Steady.nil ?_
  intro w5 hb5
  have HB5 := Lib.hid (HB0.out.trans (hb5.mono HB0.out.size))
  clear hb5
  go_wp2
  go_ret
  exact ⟨rfl, HB5.out⟩


set_option maxHeartbeats 3200000 in
theorem found_any (N : Nat) (h : Int) (room sig d : ByteArray) (leaf : Int) (V : ByteArray) (w : World) (hr : Right (N : Int) h) (hz : sig.size = N * (2 * N + 3)) (hs : room.size ≤ 68719476736) (hV : V = tx (found N room.data.toList leaf sig.data.toList d.data.toList)) (hk : Consts w) :
    Calls Tryz.prog 66 #[.agg #[.int .i64 (N : Int), .int .i64 h], .string room, .int .i64 leaf, .string sig, .string d] w fun e w' => e = .returned (.string V) ∧ Below w.heap.size w w' := by
  have R1 := Lib.hid (fun u => right_yes N h hr u)
  have R2 := Lib.hid (fun u => count_yes N h hr u)
  have R3 := Lib.hid (fun u => digits_any N h d u hr)
  have hN : N ≤ 32 := by have := hr.2.1; omega
  obtain ⟨M, hM⟩ : ∃ M, M = 2 * N + 3 := ⟨_, rfl⟩
  have hM67 : M ≤ 67 := by omega
  have hMi : (2 * (N : Int) + 3) = (M : Int) := by omega
  have hpl := fun k (hk : k ≤ M) => pieces_le N k hN (by omega)
  have hmul := fun k (hk : k ≤ M) => show N * k ≤ N * M from Nat.mul_le_mul_left _ hk
  rw [← hM] at hz
  have hl := fun c (hc : c < M) => foundP_length N room.data.toList leaf sig.data.toList d.data.toList hN (by rw [← hM]; exact hz) c (by omega)
  have hpc := fun (c : Nat) (hc : c < M) => show ((sig.data.toList.drop (N * c)).take N).length = N from by
    have h1 := hmul (c + 1) hc
    rw [Nat.mul_succ] at h1
    have h2 : sig.data.toList.length = sig.size := rfl
    rw [List.length_take, List.length_drop, h2, hz]
    omega
  have RR := Lib.hid (fun (c : Nat) (hc : c < M) (T P : ByteArray) (hT : T = tx ((sig.data.toList.drop (N * c)).take N)) (hP : P = tx (foundP N room.data.toList leaf sig.data.toList d.data.toList c)) (u : World) (hu : Consts u) =>
    run_any N h room T leaf (c : Int) (dig N d.data.toList c : Int) 15 P u hr (by rw [hT]; have := hpc c hc; show room.size + ((sig.data.toList.drop (N * c)).take N).length ≤ _; omega) (by rw [hP, hT]; rfl) hu)
  obtain ⟨F, hF⟩ : ∃ F, F = foundP N room.data.toList leaf sig.data.toList d.data.toList := ⟨_, rfl⟩
  rw [← hF] at hl RR
  have hul : ∀ k, k ≤ M → (upto F k).length = N * k := fun k => by
    induction k with
    | zero => intro _; rfl
    | succ k ih => intro hk; rw [upto, List.length_append, ih (by omega), hl k (by omega), Nat.mul_succ]
  have RT := Lib.hid (fun (u : World) (hu : Consts u) => together_any N h room (tx (upto F M)) leaf V u hN (by have := hul M (Nat.le_refl _); have := hpl M (Nat.le_refl _); show room.size + (upto F M).length ≤ _; omega) (by rw [hV, found, ← hF, ← hM]) hu)
  have hda := fun c hc => dig_at N d.data.toList c hc
  generalize dig N d.data.toList = D at *
  generalize digs N d.data.toList = L at *
  obtain ⟨A, hA⟩ : ∃ A, A = N * M := ⟨_, rfl⟩
  have hA2 : A ≤ 2144 := by rw [hA]; exact hpl M (Nat.le_refl _)
  have hwA : IntKind.i64.wrap ((N : Int) * (2 * (N : Int) + 3)) = (A : Int) := by
    have e : (N : Int) * (2 * (N : Int) + 3) = ((N * M : Nat) : Int) := by rw [hMi]; push_cast; rfl
    rw [e, ← hA]
    exact IntWalk.i64_in _ (by omega)
  have heq : ((sig.size : Int) != (A : Int)) = false := by simp; omega
  have HWR := Lib.hid (fun (k : Nat) (hk : k < M) => show IntKind.i64.wrap ((N : Int) * (k : Int)) = ((N * k : Nat) : Int) ∧ IntKind.i64.wrap ((N : Int) * ((k : Int) + 1)) = ((N * (k + 1) : Nat) : Int) ∧ IntKind.i64.wrap ((k : Int) + 1) = (k : Int) + 1 ∧ ((N * k : Nat) : Int) ≤ ((N * (k + 1) : Nat) : Int) ∧ ((N * (k + 1) : Nat) : Int) ≤ (sig.size : Int) from by
    have h1 := hmul k (by omega)
    have h2 := hmul (k + 1) hk
    have h3 : N * (k + 1) = N * k + N := Nat.mul_succ _ _
    have h4 := hpl (k + 1) hk
    have e1 : (N : Int) * (k : Int) = ((N * k : Nat) : Int) := by push_cast; rfl
    have e2 : (N : Int) * ((k : Int) + 1) = ((N * (k + 1) : Nat) : Int) := by push_cast; rfl
    refine ⟨by rw [e1]; exact IntWalk.i64_in _ (by omega), by rw [e2]; exact IntWalk.i64_in _ (by omega), IntWalk.i64_in _ (by omega), by omega, by omega⟩)
  have HDA := Lib.hid hda
  have HUL := Lib.hid hul
  have HFL := Lib.hid hl
  have HPL := Lib.hid hpl
  have HM0 := Lib.hid hM
  clear hV hs hF hr hl hul hda hz hA hmul hpl hpc hMi hM
  have hB0 := (Below.refl w.heap.size w).alloc (Nat.le_refl _) (.cells #[.int .i64 (N : Int), .int .i64 h] 26)
  have hc0 : (w.alloc (.cells #[.int .i64 (N : Int), .int .i64 h] 26)).cell? ⟨w.heap.size, 0, none⟩ = some (.int .i64 (N : Int)) := by simp
  have hc1 : (w.alloc (.cells #[.int .i64 (N : Int), .int .i64 h] 26)).cell? ⟨w.heap.size, 1, none⟩ = some (.int .i64 h) := by simp
  have hlt : w.heap.size < (w.alloc (.cells #[.int .i64 (N : Int), .int .i64 h] 26)).heap.size := by simp
  go_enter Tryz.func66, Tryz.ntmps66
  go_upto_region 1 with (fail)
  generalize w.alloc (.cells #[.int .i64 (N : Int), .int .i64 h] 26) = w00 at *
  have HC := Lib.hid (fun (u : World) (q : Below w00.heap.size w00 u) => (⟨(q.cell (p := ⟨w.heap.size, 0, none⟩) hlt).trans hc0, (q.cell (p := ⟨w.heap.size, 1, none⟩) hlt).trans hc1, hk.below hk.1 (hB0.trans (q.mono hB0.size))⟩ : u.cell? ⟨w.heap.size, 0, none⟩ = some (.int .i64 (N : Int)) ∧ u.cell? ⟨w.heap.size, 1, none⟩ = some (.int .i64 h) ∧ Consts u))
  have HB00 := Lib.hid hB0
  clear hB0 hc0 hc1 hlt hk
  refine Steady.region 12 (by kernel_rfl) (by kernel_rfl) (fun u => Below w00.heap.size w00 u) ((Below.refl _ _).drew) ?_
  simp only [List.take_succ_cons, List.take_zero, List.drop_succ_cons, List.drop_zero]
  refine Steady.take ?_ rfl (by intro u hu; obtain ⟨c0, c1, -⟩ := HC.out u hu; go_simp; with_reducible rfl) ?_
  simp only [Act.put, List.setIfInBounds_toArray, List.set_cons_zero, List.set_cons_succ]
  refine Steady.call _ _ _ rfl ?_ (Steady.kept R1.out) ?_
  · intro u
    go_simp
  simp only [Act.put, List.setIfInBounds_toArray, List.set_cons_zero, List.set_cons_succ]
  refine Steady.take ?_ rfl (by intro u hu; go_simp; with_reducible rfl) ?_
  simp only [Act.put, List.setIfInBounds_toArray, List.set_cons_zero, List.set_cons_succ]
  refine Steady.take ?_ rfl (by intro u hu; go_simp; with_reducible rfl) ?_
  simp only [Act.put, List.setIfInBounds_toArray, List.set_cons_zero, List.set_cons_succ]
  refine Steady.take ?_ rfl (by intro u hu; go_simp; with_reducible rfl) ?_
  simp only [Act.put, List.setIfInBounds_toArray, List.set_cons_zero, List.set_cons_succ]
  refine Steady.take ?_ rfl (by intro u hu; go_simp; with_reducible rfl) ?_
  simp only [Act.put, List.setIfInBounds_toArray, List.set_cons_zero, List.set_cons_succ]
  refine Steady.take ?_ rfl (by intro u hu; go_simp; with_reducible rfl) ?_
  simp only [Act.put, List.setIfInBounds_toArray, List.set_cons_zero, List.set_cons_succ]
  refine Steady.take ?_ rfl (by intro u hu; obtain ⟨c0, c1, -⟩ := HC.out u hu; go_simp; with_reducible rfl) ?_
  simp only [Act.put, List.setIfInBounds_toArray, List.set_cons_zero, List.set_cons_succ]
  refine Steady.take ?_ rfl (by intro u hu; obtain ⟨c0, c1, -⟩ := HC.out u hu; go_simp; with_reducible rfl) ?_
  simp only [Act.put, List.setIfInBounds_toArray, List.set_cons_zero, List.set_cons_succ]
  refine Steady.call _ _ _ rfl ?_ (Steady.kept R2.out) ?_
  · intro u
    go_simp
  simp only [Act.put, List.setIfInBounds_toArray, List.set_cons_zero, List.set_cons_succ]
  refine Steady.take ?_ rfl (by intro u hu; go_simp; with_reducible rfl) ?_
  simp only [Act.put, List.setIfInBounds_toArray, List.set_cons_zero, List.set_cons_succ]
  refine Steady.take ?_ rfl (by intro u hu; go_simp; with_reducible rfl) ?_
  simp only [Act.put, List.setIfInBounds_toArray, List.set_cons_zero, List.set_cons_succ]
  refine Steady.nil ?_
  intro wz hz
  have HC0 := Lib.hid (fun (u : World) (q : Below wz.heap.size wz u) => HC.out u (hz.trans (q.mono hz.size)))
  have HB0 := Lib.hid (HB00.out.trans (hz.mono HB00.out.size))
  clear hz HB00 HC heq hwA
  go_upto_region 4 with (fail)
  have HBU := Lib.hid (Use.builder_new wz.heap.size wz.heap.size _ (Nat.le_refl _) (_root_.Go.heap_alloc_new wz (.cells #[.pointer none, .slice none 0 0] 126)))
  have hlt2 : wz.heap.size < (wz.alloc (.cells #[.pointer none, .slice none 0 0] 126)).heap.size := by simp
  have HW1 := Lib.hid ((Below.refl wz.heap.size wz).alloc (Nat.le_refl _) (.cells #[.pointer none, .slice none 0 0] 126))
  generalize wz.alloc (.cells #[.pointer none, .slice none 0 0] 126) = w2 at *
  obtain ⟨c0, c1, -⟩ := HC0.out _ HW1.out
  go_wp2_with fail
  refine (R3.out _).mono ?_
  rintro e w3 ⟨v, rfl, hown, hb3⟩
  obtain ⟨g, cp, cur, rfl, hg1, hg2, hg3, hg4⟩ := ints_row hown (by omega)
  have HGB := Lib.hid (show g ≠ wz.heap.size by omega)
  have HG3 := Lib.hid hg3
  have HBU3 := Lib.hid (Lib.IsBuilderF.of (isBuilder_below HBU.out hb3))
  have HW3 := Lib.hid (HW1.out.trans (hb3.mono HW1.out.size))
  clear hb3 c0 c1 HBU hown hg1 hg3 hlt2
  have HG4 := Lib.hid (fun (u : World) (hu : u.heap[g]? = some (.cells cur 3 (0, 0))) (k : Nat) (hk : k < M) => hg4 u hu k (D k) (HDA.out k (by have := HM0.out; omega)))
  rw [← HM0.out] at hg2 ⊢
  clear hg4
  go_wp2_with fail
  go_loopw [12, 13, 32] (fun _ _ i wr => ∃ k : Nat, k ≤ M ∧ i = .int .i64 k ∧ Lib.IsBuilderF 126 5 wz.heap.size wz.heap.size (Lib.byteCells (upto F k)) wr ∧ wr.heap[g]? = some (.cells cur 3 (0, 0)) ∧ Below wz.heap.size wz wr) (fun _ _ i _ => M - (intOf i).toNat)
  case atStart => exact ⟨0, by omega, rfl, HBU3.out, HG3.out, HW3.out⟩
  case round =>
    clear HBU3 HW3 HG3
    obtain ⟨k, hk, rfl, hbu, hgk, hbel⟩ := hrel
    have HBU := Lib.hid hbu
    have HW := Lib.hid hbel
    have HG := Lib.hid hgk
    clear hbu hbel hgk
    by_cases hlt : k < M
    · have hc := HG4.out wr HG.out k hlt
      obtain ⟨e1, e2, e3, e4, e5⟩ := HWR.out k hlt
      obtain ⟨P, hP⟩ : ∃ P, P = tx (F k) := ⟨_, rfl⟩
      have hPs : P.size = N := by rw [hP]; exact HFL.out k hlt
      have hnx : upto F (k + 1) = upto F k ++ P.data.toList := by rw [hP]; rfl
      have hsz : (upto F k).length + P.size ≤ 140737488355328 := by have := HUL.out k hk; have := HPL.out k hk; omega
      have hT := piece_cut sig (N * k) N (N * (k + 1)) (Nat.mul_succ _ _)
      obtain ⟨T, hTT⟩ : ∃ T, T = sig.extract (N * k) (N * (k + 1)) := ⟨_, rfl⟩
      rw [← hTT] at hT
      have hcut := hTT.symm
      have hzr := HW.out
      have RR1 := Lib.hid (fun (u : World) (q : Below wr.heap.size wr u) => RR.out k hlt T P hT hP u (HC0.out u (hzr.trans (q.mono hzr.size))).2.2)
      have HC1 := Lib.hid (fun (u : World) (q : Below wr.heap.size wr u) => HC0.out u (hzr.trans (q.mono hzr.size)))
      have HNX := Lib.hid hnx
      have HSZ := Lib.hid hsz
      clear hT hTT hP hPs hnx hsz hzr
      generalize D k = dk at *
      obtain ⟨a, ha⟩ : ∃ a, a = N * k := ⟨_, rfl⟩
      obtain ⟨b, hb⟩ : ∃ b, b = N * (k + 1) := ⟨_, rfl⟩
      rw [← ha] at e1 e4 hcut
      rw [← hb] at e2 e4 e5 hcut
      have e6 : (0 : Int) ≤ (a : Int) := by omega
      have e7 : (0 : Int) ≤ (b : Int) := by omega
      have e8 : (a : Int).toNat = a := by omega
      have e9 : (b : Int).toNat = b := by omega
      clear ha hb
      go_upto_region 7 with (fail)
      clear hc
      refine Steady.region 18 (by kernel_rfl) (by kernel_rfl) (fun u => Below wr.heap.size wr u) ((Below.refl _ _).drew) ?_
      simp only [List.take_succ_cons, List.take_zero, List.drop_succ_cons, List.drop_zero]
      refine Steady.take ?_ rfl (by intro u hu; obtain ⟨c0, c1, -⟩ := HC1.out u hu; go_simp; with_reducible rfl) ?_
      simp only [Act.put, List.setIfInBounds_toArray, List.set_cons_zero, List.set_cons_succ]
      refine Steady.take ?_ rfl (by intro u hu; go_simp; with_reducible rfl) ?_
      simp only [Act.put, List.setIfInBounds_toArray, List.set_cons_zero, List.set_cons_succ]
      refine Steady.take ?_ rfl (by intro u hu; go_simp; with_reducible rfl) ?_
      simp only [Act.put, List.setIfInBounds_toArray, List.set_cons_zero, List.set_cons_succ]
      refine Steady.take ?_ rfl (by intro u hu; go_simp; with_reducible rfl) ?_
      simp only [Act.put, List.setIfInBounds_toArray, List.set_cons_zero, List.set_cons_succ]
      refine Steady.take ?_ rfl (by intro u hu; go_simp; with_reducible rfl) ?_
      simp only [Act.put, List.setIfInBounds_toArray, List.set_cons_zero, List.set_cons_succ]
      refine Steady.take ?_ rfl (by intro u hu; go_simp; with_reducible rfl) ?_
      simp only [Act.put, List.setIfInBounds_toArray, List.set_cons_zero, List.set_cons_succ]
      refine Steady.take ?_ rfl (by intro u hu; go_simp; with_reducible rfl) ?_
      simp only [Act.put, List.setIfInBounds_toArray, List.set_cons_zero, List.set_cons_succ]
      refine Steady.take ?_ rfl (by intro u hu; go_simp; with_reducible rfl) ?_
      simp only [Act.put, List.setIfInBounds_toArray, List.set_cons_zero, List.set_cons_succ]
      refine Steady.take ?_ rfl (by intro u hu; obtain ⟨c0, c1, -⟩ := HC1.out u hu; go_simp; with_reducible rfl) ?_
      simp only [Act.put, List.setIfInBounds_toArray, List.set_cons_zero, List.set_cons_succ]
      refine Steady.take ?_ rfl (by intro u hu; go_simp; with_reducible rfl) ?_
      simp only [Act.put, List.setIfInBounds_toArray, List.set_cons_zero, List.set_cons_succ]
      refine Steady.take ?_ rfl (by intro u hu; go_simp; with_reducible rfl) ?_
      simp only [Act.put, List.setIfInBounds_toArray, List.set_cons_zero, List.set_cons_succ]
      refine Steady.take ?_ rfl (by intro u hu; go_simp; with_reducible rfl) ?_
      simp only [Act.put, List.setIfInBounds_toArray, List.set_cons_zero, List.set_cons_succ]
      refine Steady.take ?_ rfl (by intro u hu; obtain ⟨c0, c1, -⟩ := HC1.out u hu; go_simp; with_reducible rfl) ?_
      simp only [Act.put, List.setIfInBounds_toArray, List.set_cons_zero, List.set_cons_succ]
      refine Steady.take ?_ rfl (by intro u hu; go_simp; with_reducible rfl) ?_
      simp only [Act.put, List.setIfInBounds_toArray, List.set_cons_zero, List.set_cons_succ]
      refine Steady.take ?_ rfl (by intro u hu; go_simp; with_reducible rfl) ?_
      simp only [Act.put, List.setIfInBounds_toArray, List.set_cons_zero, List.set_cons_succ]
      refine Steady.take ?_ rfl (by intro u hu; go_simp; with_reducible rfl) ?_
      simp only [Act.put, List.setIfInBounds_toArray, List.set_cons_zero, List.set_cons_succ]
      refine Steady.take ?_ rfl (by intro u hu; go_simp; with_reducible rfl) ?_
      simp only [Act.put, List.setIfInBounds_toArray, List.set_cons_zero, List.set_cons_succ]
      refine Steady.call _ _ _ rfl ?_ (keptIf RR1.out) ?_
      · intro u
        go_simp
      simp only [Act.put, List.setIfInBounds_toArray, List.set_cons_zero, List.set_cons_succ]
      refine Steady.nil ?_
      intro w5 hb5
      have HBU5 := Lib.hid (Use.builderF_below HBU.out hb5)
      have HW5 := Lib.hid (HW.out.trans (hb5.mono HW.out.size))
      have HG5 := Lib.hid ((hb5.block g (Array.getElem?_eq_some_iff.1 HG.out).1).trans HG.out)
      clear hb5 e1 e2 e3 e4 e5 e6 e7 e8 e9 hcut
      go_wp2_with fail
      refine (Use.write_k wz.heap.size wz.heap.size (upto F k) _ _ HBU5.out HSZ.out HW5.out.size).mono ?_
      rintro e w6 ⟨rfl, hbu6, hb6, ho6⟩
      rw [← HNX.out] at hbu6
      have HBU6 := Lib.hid hbu6
      have HW6 := Lib.hid (HW5.out.trans hb6)
      have HG6 := Lib.hid (Use.kept_block ho6 HG5.out HGB.out (by decide))
      clear hbu6 hb6 ho6
      go_wp2
      go_roundw
      case rel => exact ⟨k + 1, by omega, by go_num, HBU6.out, HG6.out, HW6.out⟩
      case measure => simp [intOf]; omega
    · obtain rfl : k = M := by omega
      have RS := Lib.hid (fun (u : World) (q : Below wz.heap.size wr u ∧ Lib.IsBuilderF 126 5 wz.heap.size wz.heap.size (Lib.byteCells (upto F k)) u) =>
        (Use.string_f wz.heap.size wz.heap.size (upto F k) u q.2 (HW.out.trans q.1).size).mono (fun e w' (y : e = .returned (.string ⟨(upto F k).toArray⟩) ∧ _) => (⟨y.1, q.1.trans y.2.2, y.2.1⟩ : e = .returned (.string (tx (upto F k))) ∧ (Below wz.heap.size wr w' ∧ Lib.IsBuilderF 126 5 wz.heap.size wz.heap.size (Lib.byteCells (upto F k)) w'))))
      have HZU := Lib.hid (fun (u : World) (q : Below wz.heap.size wr u) => HW.out.trans q)
      have HST := Lib.hid (show Below wz.heap.size wr wr.drew ∧ Lib.IsBuilderF 126 5 wz.heap.size wz.heap.size (Lib.byteCells (upto F k)) wr.drew from ⟨(Below.refl _ _).drew, Use.builderF_below HBU.out (Below.refl _ _).drew⟩)
      generalize tx (upto F k) = E at *
      go_upto_region 9 with (fail)
      refine Steady.region 4 (by kernel_rfl) (by kernel_rfl) (fun u => Below wz.heap.size wr u ∧ Lib.IsBuilderF 126 5 wz.heap.size wz.heap.size (Lib.byteCells (upto F k)) u) HST.out ?_
      simp only [List.take_succ_cons, List.take_zero, List.drop_succ_cons, List.drop_zero]
      refine Steady.take ?_ rfl (by intro u hu; obtain ⟨c0, c1, -⟩ := HC0.out u (HZU.out u hu.1); go_simp; with_reducible rfl) ?_
      simp only [Act.put, List.setIfInBounds_toArray, List.set_cons_zero, List.set_cons_succ]
      refine Steady.take ?_ rfl (by intro u hu; go_simp; with_reducible rfl) ?_
      simp only [Act.put, List.setIfInBounds_toArray, List.set_cons_zero, List.set_cons_succ]
      refine Steady.take ?_ rfl (by intro u hu; go_simp; with_reducible rfl) ?_
      simp only [Act.put, List.setIfInBounds_toArray, List.set_cons_zero, List.set_cons_succ]
      refine Steady.call _ _ _ rfl ?_ (id RS.out) ?_
      · intro u
        go_simp
      simp only [Act.put, List.setIfInBounds_toArray, List.set_cons_zero, List.set_cons_succ]
      refine Steady.nil ?_
      intro w5 hb5
      have HZ5 := Lib.hid (HZU.out w5 hb5.1)
      clear hb5
      go_wp2_with fail
      refine (RT.out _ (HC0.out _ HZ5.out).2.2).mono ?_
      rintro e w6 ⟨rfl, hb6⟩
      have HZ6 := Lib.hid (HB0.out.trans ((HZ5.out.trans (hb6.mono HZ5.out.size)).mono HB0.out.size))
      clear hb6
      go_wp2
      go_ret
      exact ⟨rfl, HZ6.out⟩
end Go.Proofs.YtdhipdoaefdfeaaGreatDoor.Chn
