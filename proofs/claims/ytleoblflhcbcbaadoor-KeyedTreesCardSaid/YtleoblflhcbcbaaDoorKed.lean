/-
  The plain mathematics of package keyed: tags, keys out of keys, chains and trees as functions on lists of bytes. Nothing here speaks of a program: no condition but those that each lemma names.
-/
import Derived.Test.YtleoblflhcbcbaaDoorSha
import Derived.Test.YtleoblflhcbcbaaDoorLanesXor
namespace Go.Proofs.YtleoblflhcbcbaaDoor.Ked
open Go.RowKit Mur Sha

/-- A key that is too long is as good as its digest. -/
def short (k : List UInt8) : List UInt8 := if 64 < k.length then sha k else k
theorem sha_length (l : List UInt8) : (sha l).length = 32 := finish_length _ _ _
theorem short_length (k : List UInt8) : (short k).length ≤ 64 := by
  unfold short
  split
  · rw [sha_length]; omega
  · omega
theorem short_of_le (k : List UInt8) (h : k.length ≤ 64) : short k = k := by
  unfold short
  rw [if_neg (by omega)]
theorem short_short (k : List UInt8) : short (short k) = short k := short_of_le _ (short_length k)

/-- The key's block, each byte turned by x. -/
def pad (k : List UInt8) (x : UInt8) : List UInt8 := LanesXor.xorL (List.replicate 64 x) (short k)
theorem pad_length (k : List UInt8) (x : UInt8) : (pad k x).length = 64 := by simp [pad, LanesXor.xorL]
/-- Mac's answer. -/
def mac (k s : List UInt8) : List UInt8 := sha (pad k 92 ++ sha (pad k 54 ++ s))
theorem mac_length (k s : List UInt8) : (mac k s).length = 32 := sha_length _
theorem mac_short (k s : List UInt8) : mac (short k) s = mac k s := by
  unfold mac pad
  rw [short_short]
/-- The block as the document's answer makes it: filled up, then turned. -/
theorem pad_ref (k : List UInt8) (x : UInt8) : pad k x = (short k ++ List.replicate (64 - (short k).length) 0).map (· ^^^ x) := by
  have h := short_length k
  unfold pad
  generalize short k = q at *
  apply List.ext_getElem
  · simp [LanesXor.xorL]; omega
  · intro i h1 h2
    have hi : i < 64 := by simpa [LanesXor.xorL] using h1
    simp only [LanesXor.xorL, LanesXor.xorAt, List.getElem_map, List.getElem_range, List.getElem_append, List.getElem_replicate, List.getD_eq_getElem?_getD, List.getElem?_replicate]
    by_cases e : i < q.length
    · rw [dif_pos e, if_pos e, if_pos hi, List.getElem?_eq_getElem e]
      exact UInt8.xor_comm _ _
    · rw [dif_neg e, if_neg e, if_pos hi]
      exact (UInt8.zero_xor).symm

/-- The texts of Expand, the last of i of them, and all of them one behind the other. -/
def text (k info : List UInt8) : Nat → List UInt8
  | 0 => []
  | i + 1 => mac k (text k info i ++ info ++ [UInt8.ofNat (i + 1)])
def all (k info : List UInt8) : Nat → List UInt8
  | 0 => []
  | i + 1 => all k info i ++ text k info (i + 1)
theorem text_length (k info : List UInt8) (i : Nat) : (text k info i).length ≤ 32 := by
  cases i with
  | zero => simp [text]
  | succ i => rw [text, mac_length]; omega
theorem all_length (k info : List UInt8) (i : Nat) : (all k info i).length = 32 * i := by
  induction i with
  | zero => rfl
  | succ i ih => rw [all, List.length_append, ih, text, mac_length]; omega
theorem all_take (k info : List UInt8) (i j n : Nat) (h : i ≤ j) (hn : n ≤ 32 * i) : (all k info j).take n = (all k info i).take n := by
  induction j with
  | zero => have : i = 0 := by omega
            subst this; rfl
  | succ j ih =>
    by_cases e : i = j + 1
    · subst e; rfl
    · rw [all, List.take_append_of_le_length (by rw [all_length]; omega)]
      exact ih (by omega)
/-- Expand's answer. -/
def expand (k info : List UInt8) (n : Nat) : List UInt8 := (all k info 255).take n
theorem expand_length (k info : List UInt8) (n : Nat) (h : n ≤ 8160) : (expand k info n).length = n := by
  rw [expand, List.length_take, all_length]; omega
theorem expand_of (k info : List UInt8) (q n : Nat) (hq : q ≤ 255) (hn : n ≤ 32 * q) : expand k info n = (all k info q).take n := all_take k info q 255 n hq hn
theorem expand_prefix (k info : List UInt8) (n m : Nat) : (expand k info (n + m)).take n = expand k info n := by
  rw [expand, expand, List.take_take, Nat.min_eq_left (by omega)]
theorem text_short (k info : List UInt8) (i : Nat) : text (short k) info i = text k info i := by
  induction i with
  | zero => rfl
  | succ i ih => rw [text, text, ih, mac_short]

/-- What a key is derived for: of each text its length in two bytes, and it. -/
def infoOf (l : List (List UInt8)) : List UInt8 := (l.map fun s => Lanes.high s.length 2 ++ s).flatten
def salt : List UInt8 := [109, 117, 114, 109, 117, 114]
def derive (k : List UInt8) (n : Nat) (l : List (List UInt8)) : List UInt8 := expand (mac salt k) (infoOf l) n

def nextT : List UInt8 := [110, 101, 120, 116]
def outT : List UInt8 := [111, 117, 116]
def leftT : List UInt8 := [108, 101, 102, 116]
def rightT : List UInt8 := [114, 105, 103, 104, 116]
/-- The key behind i steps, and the chain. -/
def chainKey (k : List UInt8) : Nat → List UInt8
  | 0 => k
  | i + 1 => mac (chainKey k i) nextT
def chain (k : List UInt8) (n : Nat) : List (List UInt8) := (List.range n).map fun i => mac (chainKey k i) outT
theorem chain_length (k : List UInt8) (n : Nat) : (chain k n).length = n := by simp [chain]
theorem chain_succ (k : List UInt8) (n : Nat) : chain k (n + 1) = chain k n ++ [mac (chainKey k n) outT] := by simp [chain, List.range_succ]
theorem chain_take (k : List UInt8) (n m : Nat) : (chain k (n + m)).take n = chain k n := by
  rw [chain, ← List.map_take, List.take_range, Nat.min_eq_left (by omega)]
  rfl

/-- The key to one side, the leaf, and the tree. -/
def side (k : List UInt8) (b : Nat) : List UInt8 := mac k (if b = 0 then leftT else rightT)
theorem side_length (k : List UInt8) (b : Nat) : (side k b).length = 32 := mac_length _ _
def down (k : List UInt8) (at_ high : Nat) : Nat → List UInt8
  | 0 => k
  | i + 1 => side (down k at_ high i) (at_ / 2 ^ (high - 1 - i) % 2)
def leaf (k : List UInt8) (at_ high : Nat) : List UInt8 := down k at_ high high
def tree (k : List UInt8) : Nat → List (List UInt8)
  | 0 => [k]
  | h + 1 => (tree k h).flatMap fun x => [side x 0, side x 1]
theorem tree_length (k : List UInt8) (h : Nat) : (tree k h).length = 2 ^ h := by
  induction h with
  | zero => rfl
  | succ h ih =>
    rw [tree, List.length_flatMap]
    have : ((tree k h).map fun _ => 2).sum = 2 * (tree k h).length := by
      generalize tree k h = l
      induction l with
      | nil => rfl
      | cons x l ih => simp only [List.map_cons, List.sum_cons, ih, List.length_cons]; omega
    simp only [List.length_cons, List.length_nil]
    rw [this, ih, Nat.pow_succ]; omega

theorem flat_get (l : List (List UInt8)) (i : Nat) (h : i / 2 < l.length) : (l.flatMap fun x => [side x 0, side x 1])[i]? = some (side l[i / 2] (i % 2)) := by
  induction l generalizing i with
  | nil => simp at h
  | cons x l ih =>
    rw [List.flatMap_cons]
    match i with
    | 0 => rfl
    | 1 => rfl
    | i + 2 =>
      have e : (i + 2) / 2 = i / 2 + 1 := by omega
      have e2 : (i + 2) % 2 = i % 2 := by omega
      have hh : i / 2 < l.length := by simp only [e, List.length_cons] at h; omega
      rw [List.getElem?_append_right (by simp)]
      simp only [List.length_cons, List.length_nil, e2]
      rw [show i + 2 - (0 + 1 + 1) = i by omega, ih i hh]
      simp only [e, List.getElem_cons_succ]
theorem down_half (k : List UInt8) (i h j : Nat) (hj : j ≤ h) : down k i (h + 1) j = down k (i / 2) h j := by
  induction j with
  | zero => rfl
  | succ j ih =>
    rw [down, down, ih (by omega)]
    have e : h + 1 - 1 - j = (h - 1 - j) + 1 := by omega
    rw [e, Nat.pow_succ, Nat.mul_comm, Nat.div_div_eq_div_mul]
theorem tree_leaf (k : List UInt8) (h i : Nat) (hi : i < 2 ^ h) : (tree k h)[i]? = some (leaf k i h) := by
  induction h generalizing i with
  | zero =>
    have : i = 0 := by simpa using hi
    subst this; rfl
  | succ h ih =>
    have h2 : i / 2 < 2 ^ h := by rw [Nat.pow_succ] at hi; omega
    have hl : i / 2 < (tree k h).length := by rw [tree_length]; exact h2
    have e := ih (i / 2) h2
    rw [List.getElem?_eq_getElem hl] at e
    rw [tree, flat_get _ _ hl, Option.some.inj e]
    unfold leaf
    rw [down, down_half k i h h (Nat.le_refl _), Nat.sub_self (h + 1 - 1 - h |>.sub 0) |> fun _ => show h + 1 - 1 - h = 0 by omega]
    simp
theorem leaf_lengths (k : List UInt8) (i h : Nat) : (leaf k i h).length = 32 ∨ leaf k i h = k := by
  unfold leaf
  cases h with
  | zero => exact .inr rfl
  | succ h => exact .inl (by rw [down]; exact side_length _ _)
end Go.Proofs.YtleoblflhcbcbaaDoor.Ked
