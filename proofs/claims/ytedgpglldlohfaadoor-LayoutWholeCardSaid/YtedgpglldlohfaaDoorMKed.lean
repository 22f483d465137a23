/-
  Several texts as one (Ked, KedMac, KedExp, KedDer, Chn, ChnA). The plain mathematics of package keyed: tags, keys out of keys, chains and trees as functions on lists of bytes. Nothing here speaks of a program: no condition but those that each lemma names. The functions Mac and Extract of package keyed answer what the plain mathematics of the text Ked says, and leave all memory that was there as it was. Conditions: key and text have no more than 2^46 bytes, the constant table of package digest lies as the program's text lays it. The function Expand of package keyed answers what the plain mathematics of the text Ked says, and leaves all memory that was there as it was. Conditions: key and info have no more than 2^45 bytes, the constant table of package digest lies as the program's text lays it. The function Derive of package keyed answers what the plain mathematics of the text Ked says, and leaves all memory that was there as it was. Conditions: the key has no more than 2^45 bytes, the parts together, with two bytes for each, no more than 2^45, the constant table of package digest lies as the program's text lays it. The plain mathematics of package chains: digits, runs, begins, leaves, signatures and what is found of them, as functions on lists of bytes. Nothing here speaks of a program: no condition but those that each lemma names. Right, Count, numbered and value of package chains answer what the plain mathematics of the text Chn says, and leave all memory that was there as it was. Conditions: a chain's value has no more than 32 bytes, the texts together no more than 2^40, the constant table of package digest lies as the program's text lays it.
-/
import Derived.Test.YtedgpglldlohfaaDoorMDig
import Derived.Test.YtedgpglldlohfaaDoorMLn
import Derived.Test.YtedgpglldlohfaaDoorMWk
import Derived.Deep.RegionHeld3
import Derived.BigQuiet
namespace Go.Proofs.YtedgpglldlohfaaDoor.Ked
open Go.RowKit Mur Sha

/-- A key that is too long is as good as its digest. -/
def short (k : List UInt8) : List UInt8 := if 64 < k.length then sha k else k
theorem sha_length (l : List UInt8) : (sha l).length = 32 := finish_length _ _ _
theorem short_length (k : List UInt8) : (short k).length ≤ 64 := by
  unfold short
  split
  · rw [sha_length]; omega
  · omega
theorem short_of_le (k : List UInt8) (h : k.length ≤ 64) : short k = k := by
  unfold short
  rw [if_neg (by omega)]
theorem short_short (k : List UInt8) : short (short k) = short k := short_of_le _ (short_length k)

/-- The key's block, each byte turned by x. -/
def pad (k : List UInt8) (x : UInt8) : List UInt8 := LanesXor.xorL (List.replicate 64 x) (short k)
theorem pad_length (k : List UInt8) (x : UInt8) : (pad k x).length = 64 := by simp [pad, LanesXor.xorL]
/-- Mac's answer. -/
def mac (k s : List UInt8) : List UInt8 := sha (pad k 92 ++ sha (pad k 54 ++ s))
theorem mac_length (k s : List UInt8) : (mac k s).length = 32 := sha_length _
theorem mac_short (k s : List UInt8) : mac (short k) s = mac k s := by
  unfold mac pad
  rw [short_short]
/-- The block as the document's answer makes it: filled up, then turned. -/
theorem pad_ref (k : List UInt8) (x : UInt8) : pad k x = (short k ++ List.replicate (64 - (short k).length) 0).map (· ^^^ x) := by
  have h := short_length k
  unfold pad
  generalize short k = q at *
  apply List.ext_getElem
  · simp [LanesXor.xorL]; omega
  · intro i h1 h2
    have hi : i < 64 := by simpa [LanesXor.xorL] using h1
    simp only [LanesXor.xorL, LanesXor.xorAt, List.getElem_map, List.getElem_range, List.getElem_append, List.getElem_replicate, List.getD_eq_getElem?_getD, List.getElem?_replicate]
    by_cases e : i < q.length
    · rw [dif_pos e, if_pos e, if_pos hi, List.getElem?_eq_getElem e]
      exact UInt8.xor_comm _ _
    · rw [dif_neg e, if_neg e, if_pos hi]
      exact (UInt8.zero_xor).symm

/-- The texts of Expand, the last of i of them, and all of them one behind the other. -/
def text (k info : List UInt8) : Nat → List UInt8
  | 0 => []
  | i + 1 => mac k (text k info i ++ info ++ [UInt8.ofNat (i + 1)])
def all (k info : List UInt8) : Nat → List UInt8
  | 0 => []
  | i + 1 => all k info i ++ text k info (i + 1)
theorem text_length (k info : List UInt8) (i : Nat) : (text k info i).length ≤ 32 := by
  cases i with
  | zero => simp [text]
  | succ i => rw [text, mac_length]; omega
theorem all_length (k info : List UInt8) (i : Nat) : (all k info i).length = 32 * i := by
  induction i with
  | zero => rfl
  | succ i ih => rw [all, List.length_append, ih, text, mac_length]; omega
theorem all_take (k info : List UInt8) (i j n : Nat) (h : i ≤ j) (hn : n ≤ 32 * i) : (all k info j).take n = (all k info i).take n := by
  induction j with
  | zero => have : i = 0 := by omega
            subst this; rfl
  | succ j ih =>
    by_cases e : i = j + 1
    · subst e; rfl
    · rw [all, List.take_append_of_le_length (by rw [all_length]; omega)]
      exact ih (by omega)
/-- Expand's answer. -/
def expand (k info : List UInt8) (n : Nat) : List UInt8 := (all k info 255).take n
theorem expand_length (k info : List UInt8) (n : Nat) (h : n ≤ 8160) : (expand k info n).length = n := by
  rw [expand, List.length_take, all_length]; omega
theorem expand_of (k info : List UInt8) (q n : Nat) (hq : q ≤ 255) (hn : n ≤ 32 * q) : expand k info n = (all k info q).take n := all_take k info q 255 n hq hn
theorem expand_prefix (k info : List UInt8) (n m : Nat) : (expand k info (n + m)).take n = expand k info n := by
  rw [expand, expand, List.take_take, Nat.min_eq_left (by omega)]
theorem text_short (k info : List UInt8) (i : Nat) : text (short k) info i = text k info i := by
  induction i with
  | zero => rfl
  | succ i ih => rw [text, text, ih, mac_short]

/-- What a key is derived for: of each text its length in two bytes, and it. -/
def infoOf (l : List (List UInt8)) : List UInt8 := (l.map fun s => Lanes.high s.length 2 ++ s).flatten
def salt : List UInt8 := [109, 117, 114, 109, 117, 114]
def derive (k : List UInt8) (n : Nat) (l : List (List UInt8)) : List UInt8 := expand (mac salt k) (infoOf l) n

def nextT : List UInt8 := [110, 101, 120, 116]
def outT : List UInt8 := [111, 117, 116]
def leftT : List UInt8 := [108, 101, 102, 116]
def rightT : List UInt8 := [114, 105, 103, 104, 116]
/-- The key behind i steps, and the chain. -/
def chainKey (k : List UInt8) : Nat → List UInt8
  | 0 => k
  | i + 1 => mac (chainKey k i) nextT
def chain (k : List UInt8) (n : Nat) : List (List UInt8) := (List.range n).map fun i => mac (chainKey k i) outT
theorem chain_length (k : List UInt8) (n : Nat) : (chain k n).length = n := by simp [chain]
theorem chain_succ (k : List UInt8) (n : Nat) : chain k (n + 1) = chain k n ++ [mac (chainKey k n) outT] := by simp [chain, List.range_succ]
theorem chain_take (k : List UInt8) (n m : Nat) : (chain k (n + m)).take n = chain k n := by
  rw [chain, ← List.map_take, List.take_range, Nat.min_eq_left (by omega)]
  rfl

/-- The key to one side, the leaf, and the tree. -/
def side (k : List UInt8) (b : Nat) : List UInt8 := mac k (if b = 0 then leftT else rightT)
theorem side_length (k : List UInt8) (b : Nat) : (side k b).length = 32 := mac_length _ _
def down (k : List UInt8) (at_ high : Nat) : Nat → List UInt8
  | 0 => k
  | i + 1 => side (down k at_ high i) (at_ / 2 ^ (high - 1 - i) % 2)
def leaf (k : List UInt8) (at_ high : Nat) : List UInt8 := down k at_ high high
def tree (k : List UInt8) : Nat → List (List UInt8)
  | 0 => [k]
  | h + 1 => (tree k h).flatMap fun x => [side x 0, side x 1]
theorem tree_length (k : List UInt8) (h : Nat) : (tree k h).length = 2 ^ h := by
  induction h with
  | zero => rfl
  | succ h ih =>
    rw [tree, List.length_flatMap]
    have : ((tree k h).map fun _ => 2).sum = 2 * (tree k h).length := by
      generalize tree k h = l
      induction l with
      | nil => rfl
      | cons x l ih => simp only [List.map_cons, List.sum_cons, ih, List.length_cons]; omega
    simp only [List.length_cons, List.length_nil]
    rw [this, ih, Nat.pow_succ]; omega

theorem flat_get (l : List (List UInt8)) (i : Nat) (h : i / 2 < l.length) : (l.flatMap fun x => [side x 0, side x 1])[i]? = some (side l[i / 2] (i % 2)) := by
  induction l generalizing i with
  | nil => simp at h
  | cons x l ih =>
    rw [List.flatMap_cons]
    match i with
    | 0 => rfl
    | 1 => rfl
    | i + 2 =>
      have e : (i + 2) / 2 = i / 2 + 1 := by omega
      have e2 : (i + 2) % 2 = i % 2 := by omega
      have hh : i / 2 < l.length := by simp only [e, List.length_cons] at h; omega
      rw [List.getElem?_append_right (by simp)]
      simp only [List.length_cons, List.length_nil, e2]
      rw [show i + 2 - (0 + 1 + 1) = i by omega, ih i hh]
      simp only [e, List.getElem_cons_succ]
theorem down_half (k : List UInt8) (i h j : Nat) (hj : j ≤ h) : down k i (h + 1) j = down k (i / 2) h j := by
  induction j with
  | zero => rfl
  | succ j ih =>
    rw [down, down, ih (by omega)]
    have e : h + 1 - 1 - j = (h - 1 - j) + 1 := by omega
    rw [e, Nat.pow_succ, Nat.mul_comm, Nat.div_div_eq_div_mul]
theorem tree_leaf (k : List UInt8) (h i : Nat) (hi : i < 2 ^ h) : (tree k h)[i]? = some (leaf k i h) := by
  induction h generalizing i with
  | zero =>
    have : i = 0 := by simpa using hi
    subst this; rfl
  | succ h ih =>
    have h2 : i / 2 < 2 ^ h := by rw [Nat.pow_succ] at hi; omega
    have hl : i / 2 < (tree k h).length := by rw [tree_length]; exact h2
    have e := ih (i / 2) h2
    rw [List.getElem?_eq_getElem hl] at e
    rw [tree, flat_get _ _ hl, Option.some.inj e]
    unfold leaf
    rw [down, down_half k i h h (Nat.le_refl _), Nat.sub_self (h + 1 - 1 - h |>.sub 0) |> fun _ => show h + 1 - 1 - h = 0 by omega]
    simp
theorem leaf_lengths (k : List UInt8) (i h : Nat) : (leaf k i h).length = 32 ∨ leaf k i h = k := by
  unfold leaf
  cases h with
  | zero => exact .inr rfl
  | succ h => exact .inl (by rw [down]; exact side_length _ _)
end Go.Proofs.YtedgpglldlohfaaDoor.Ked

namespace Go.Proofs.YtedgpglldlohfaaDoor.Ked
open Go.RowKit Mur Sha

/-- A text as a value. -/
abbrev tx (l : List UInt8) : ByteArray := ⟨l.toArray⟩
theorem tx_list (l : List UInt8) : (tx l).data.toList = l := rfl
theorem tx_size (l : List UInt8) : (tx l).size = l.length := rfl

set_option maxHeartbeats 800000 in
theorem digestOf_two (a b : ByteArray) (bk : Nat) (D : ByteArray) (w : World) (hbk : bk < w.heap.size) (h0 : w.cell? ⟨bk, 0, none⟩ = some (.string a)) (h1 : w.cell? ⟨bk, 1, none⟩ = some (.string b)) (hs : a.size + b.size ≤ 140737488351232) (hD : D = tx (sha (a.data.toList ++ b.data.toList))) (hk : Consts w) :
    Calls Tryd.prog 63 #[.slice (some ⟨bk, 0, none⟩) 2 2] w fun e w' => e = .returned (.string D) ∧ Below w.heap.size w w' := by
  have hl : ((tx (a.data.toList ++ b.data.toList)).size : Nat) = a.size + b.size := by
    show (a.data.toList ++ b.data.toList).length = _
    rw [List.length_append]; rfl
  obtain ⟨F, hF⟩ : ∃ F, F = a.data.toList ++ b.data.toList := ⟨_, rfl⟩
  rw [← hF] at hl hD
  have hj : ∀ u : World, u = w → Calls Tryd.prog 43 #[.slice (some ⟨bk, 0, none⟩) 2 2, .string ⟨#[]⟩] u fun e w' => e = .returned (.string (tx F)) ∧ Below w.heap.size u w' := fun u hu => by
    subst hu
    exact Use.join_any bk 0 2 [a, b] F u (fun j x hx => by
      match j, hx with
      | 0, hx => cases hx; exact h0
      | 1, hx => cases hx; exact h1) hbk (by simp) (by simp) (by rw [hF]; simp) (by have : F.length = (tx F).size := rfl; omega)
  have HJ := Lib.hid hj
  have HK := Lib.hid hk
  have hsz : (tx F).size ≤ 140737488351232 := by omega
  have HD := Lib.hid hD
  clear hj hk hF hD hl h0 h1
  go_enter Tryd.func63, Tryd.ntmps63
  go_wp2_with fail
  refine (HJ.out _ rfl).mono ?_
  rintro e w1 ⟨rfl, hb1⟩
  have HB1 := Lib.hid hb1
  clear hb1
  go_wp2_with fail
  refine (of_any (tx F) _ hsz (HK.out.below HK.out.1 HB1.out)).mono ?_
  rintro e w2 ⟨rfl, hb2⟩
  go_wp2
  go_ret
  exact ⟨by rw [HD.out]; rfl, HB1.out.trans (hb2.mono HB1.out.size)⟩

theorem repeat_one (x : UInt8) (n : Nat) : Lib.repeatL [x] n = List.replicate n x := by
  induction n with
  | zero => rfl
  | succ n ih =>
    show [x] ++ Lib.repeatL [x] n = _
    rw [ih]; rfl

set_option maxHeartbeats 800000 in
theorem keyBlock_any (k : ByteArray) (x : UInt8) (P : ByteArray) (w : World) (hk : k.size ≤ 64) (hP : P = tx (pad k.data.toList x)) :
    Calls Tryd.prog 64 #[.string k, .string ⟨#[x]⟩] w fun e w' => e = .returned (.string P) ∧ Below w.heap.size w w' := by
  have hr : ∀ u, Calls Tryd.prog 76 #[.string ⟨#[x]⟩, .int .i64 64] u fun e w' => e = .returned (.string (tx (List.replicate 64 x))) ∧ Below u.heap.size u w' := fun u => by
    have := Use.repeat_any ⟨#[x]⟩ 64 u (by omega) (by show 1 * 64 ≤ _; omega)
    have e : Lib.repeatL (⟨#[x]⟩ : ByteArray).data.toList 64 = List.replicate 64 x := repeat_one x 64
    rw [e] at this
    exact this
  have hx : ∀ u, Calls Tryd.prog 46 #[.string (tx (List.replicate 64 x)), .string k] u fun e w' => e = .returned (.string P) ∧ Below u.heap.size u w' := fun u => by
    have := LanesXor.xor_any (tx (List.replicate 64 x)) k u (by show (List.replicate 64 x).length ≤ _; simp) (by omega)
    have e : LanesXor.xorS (tx (List.replicate 64 x)) k = P := by
      rw [hP, pad, short_of_le _ hk]; rfl
    rw [e] at this
    exact this
  have HR := Lib.hid hr
  have HX := Lib.hid hx
  clear hr hx hP
  generalize tx (List.replicate 64 x) = R at *
  go_enter Tryd.func64, Tryd.ntmps64
  go_wp2_with fail
  refine (HR.out _).mono ?_
  rintro e w1 ⟨rfl, hb1⟩
  have HB1 := Lib.hid hb1
  clear hb1
  go_wp2_with fail
  refine (HX.out _).mono ?_
  rintro e w2 ⟨rfl, hb2⟩
  go_wp2
  go_ret
  exact ⟨rfl, HB1.out.trans (hb2.mono HB1.out.size)⟩

set_option maxHeartbeats 1600000 in
theorem mac_any (k s M : ByteArray) (w : World) (hk : k.size ≤ 70368744177664) (hs : s.size ≤ 70368744177664) (hM : M = tx (mac k.data.toList s.data.toList)) (hc : Consts w) :
    Calls Tryd.prog 48 #[.string k, .string s] w fun e w' => e = .returned (.string M) ∧ Below w.heap.size w w' := by
  obtain ⟨K, hK⟩ : ∃ K, K = tx (short k.data.toList) := ⟨_, rfl⟩
  have hKs : K.size ≤ 64 := by rw [hK]; exact short_length _
  obtain ⟨P, hP⟩ : ∃ P, P = tx (pad K.data.toList 92) := ⟨_, rfl⟩
  obtain ⟨R, hR⟩ : ∃ R, R = tx (pad K.data.toList 54) := ⟨_, rfl⟩
  obtain ⟨D, hD⟩ : ∃ D, D = tx (sha (R.data.toList ++ s.data.toList)) := ⟨_, rfl⟩
  have hPs : P.size = 64 := by rw [hP]; exact pad_length _ _
  have hRs : R.size = 64 := by rw [hR]; exact pad_length _ _
  have hDs : D.size = 32 := by rw [hD]; exact sha_length _
  have hM2 : M = tx (sha (P.data.toList ++ D.data.toList)) := by
    rw [hM, ← mac_short, mac, hP, hD, hR, hK]
  have hp : ∀ u, Calls Tryd.prog 64 #[.string K, .string ⟨#[92]⟩] u fun e w' => e = .returned (.string P) ∧ Below u.heap.size u w' := fun u => keyBlock_any K 92 P u hKs hP
  have hq : ∀ u, Calls Tryd.prog 64 #[.string K, .string ⟨#[54]⟩] u fun e w' => e = .returned (.string R) ∧ Below u.heap.size u w' := fun u => keyBlock_any K 54 R u hKs hR
  have hi : ∀ (u : World) (bk : Nat), bk < u.heap.size → u.cell? ⟨bk, 0, none⟩ = some (.string R) → u.cell? ⟨bk, 1, none⟩ = some (.string s) → Consts u → Calls Tryd.prog 63 #[.slice (some ⟨bk, 0, none⟩) 2 2] u fun e w' => e = .returned (.string D) ∧ Below u.heap.size u w' := fun u bk hb h0 h1 hc => digestOf_two R s bk D u hb h0 h1 (by omega) hD hc
  have ho : ∀ (u : World) (bk : Nat), bk < u.heap.size → u.cell? ⟨bk, 0, none⟩ = some (.string P) → u.cell? ⟨bk, 1, none⟩ = some (.string D) → Consts u → Calls Tryd.prog 63 #[.slice (some ⟨bk, 0, none⟩) 2 2] u fun e w' => e = .returned (.string M) ∧ Below u.heap.size u w' := fun u bk hb h0 h1 hc => digestOf_two P D bk M u hb h0 h1 (by omega) hM2 hc
  have hdig : 64 < k.size → ∀ u, Consts u → Calls Tryd.prog 62 #[.string k] u fun e w' => e = .returned (.string K) ∧ Below u.heap.size u w' := fun h u hu => by
    have := of_any k u (by omega) hu
    have e : K = tx (sha k.data.toList) := by rw [hK, short, if_pos (by exact h)]
    rw [e]; exact this
  have hsame : ¬ 64 < k.size → k = K := fun h => by rw [hK, short_of_le _ (by have : k.data.toList.length = k.size := rfl; omega)]
  have HP := Lib.hid hp
  have HQ := Lib.hid hq
  have HI := Lib.hid hi
  have HO := Lib.hid ho
  have HC := Lib.hid hc
  clear hp hq hi ho hc hM hM2 hD hP hR hPs hRs hDs hK
  by_cases hlt : 64 < k.size
  · have hd : decide (64 < (k.size : Int)) = true := by simp; omega
    have HDG := Lib.hid (hdig hlt)
    clear hdig hsame
    go_enter Tryd.func48, Tryd.ntmps48
    go_wp2_with fail
    refine (HDG.out _ HC.out).mono ?_
    rintro e w1 ⟨rfl, hb1⟩
    have HB1 := Lib.hid hb1
    clear hb1
    go_wp2_with fail
    refine (HP.out _).mono ?_
    rintro e w2 ⟨rfl, hb2⟩
    have HB2 := Lib.hid (HB1.out.trans (hb2.mono HB1.out.size))
    clear hb2 HB1
    go_wp2_with fail
    refine (HQ.out _).mono ?_
    rintro e w3 ⟨rfl, hb3⟩
    have HB3 := Lib.hid (HB2.out.trans (hb3.mono HB2.out.size))
    clear hb3 HB2
    go_wp2_with fail
    refine (HI.out _ w3.heap.size (by simp) (by simp [World.cell?_alloc_new]) (by simp [World.cell?_alloc_new]) (HC.out.below HC.out.1 (HB3.out.alloc HB3.out.size _))).mono ?_
    rintro e w4 ⟨rfl, hb4⟩
    have HB4 := Lib.hid ((HB3.out.alloc HB3.out.size _).trans (hb4.mono (HB3.out.alloc HB3.out.size _).size))
    clear hb4 HB3
    go_wp2_with fail
    refine (HO.out _ w4.heap.size (by simp) (by simp [World.cell?_alloc_new]) (by simp [World.cell?_alloc_new]) (HC.out.below HC.out.1 (HB4.out.alloc HB4.out.size _))).mono ?_
    rintro e w5 ⟨rfl, hb5⟩
    have HB5 := Lib.hid ((HB4.out.alloc HB4.out.size _).trans (hb5.mono (HB4.out.alloc HB4.out.size _).size))
    clear hb5 HB4
    go_wp2
    go_ret
    exact ⟨rfl, HB5.out⟩
  · have hd : decide (64 < (k.size : Int)) = false := by simp; omega
    obtain rfl := hsame hlt
    clear hdig hsame
    go_enter Tryd.func48, Tryd.ntmps48
    go_wp2_with fail
    refine (HP.out _).mono ?_
    rintro e w2 ⟨rfl, hb2⟩
    have HB2 := Lib.hid hb2
    clear hb2
    go_wp2_with fail
    refine (HQ.out _).mono ?_
    rintro e w3 ⟨rfl, hb3⟩
    have HB3 := Lib.hid (HB2.out.trans (hb3.mono HB2.out.size))
    clear hb3 HB2
    go_wp2_with fail
    refine (HI.out _ w3.heap.size (by simp) (by simp [World.cell?_alloc_new]) (by simp [World.cell?_alloc_new]) (HC.out.below HC.out.1 (HB3.out.alloc HB3.out.size _))).mono ?_
    rintro e w4 ⟨rfl, hb4⟩
    have HB4 := Lib.hid ((HB3.out.alloc HB3.out.size _).trans (hb4.mono (HB3.out.alloc HB3.out.size _).size))
    clear hb4 HB3
    go_wp2_with fail
    refine (HO.out _ w4.heap.size (by simp) (by simp [World.cell?_alloc_new]) (by simp [World.cell?_alloc_new]) (HC.out.below HC.out.1 (HB4.out.alloc HB4.out.size _))).mono ?_
    rintro e w5 ⟨rfl, hb5⟩
    have HB5 := Lib.hid ((HB4.out.alloc HB4.out.size _).trans (hb5.mono (HB4.out.alloc HB4.out.size _).size))
    clear hb5 HB4
    go_wp2
    go_ret
    exact ⟨rfl, HB5.out⟩

set_option maxHeartbeats 400000 in
theorem extract_any (k s M : ByteArray) (w : World) (hk : k.size ≤ 70368744177664) (hs : s.size ≤ 70368744177664) (hM : M = tx (mac k.data.toList s.data.toList)) (hc : Consts w) :
    Calls Tryd.prog 42 #[.string k, .string s] w fun e w' => e = .returned (.string M) ∧ Below w.heap.size w w' := by
  have HM := Lib.hid (fun u hu => mac_any k s M u hk hs hM hu)
  have HC := Lib.hid hc
  clear hM hc
  go_enter Tryd.func42, Tryd.ntmps42
  go_wp2_with fail
  refine (HM.out _ HC.out).mono ?_
  rintro e w1 ⟨rfl, hb1⟩
  go_wp2
  go_ret
  exact ⟨rfl, hb1⟩
end Go.Proofs.YtedgpglldlohfaaDoor.Ked

namespace Go.Proofs.YtedgpglldlohfaaDoor.Ked
open Go.RowKit Mur Sha

/-- How many bytes are asked for, of any number. -/
def many (n : Int) : Nat := (min (max n 0) 8160).toNat
theorem many_le (n : Int) : many n ≤ 8160 := by unfold many; omega

theorem high_one (q : Nat) : Lanes.high (q + 1) 1 = [UInt8.ofNat (q + 1)] := by simp [Lanes.high]

set_option maxHeartbeats 1600000 in
theorem expand_any (k info X : ByteArray) (n : Int) (w : World) (hk : k.size ≤ 35184372088832) (hi : info.size ≤ 35184372088832) (hX : X = tx (expand k.data.toList info.data.toList (many n))) (hc : Consts w) :
    Calls Tryd.prog 41 #[.string k, .string info, .int .i64 n] w fun e w' => e = .returned (.string X) ∧ Below w.heap.size w w' := by
  obtain ⟨N, hN⟩ : ∃ N : Nat, N = many n := ⟨_, rfl⟩
  have hN8 : N ≤ 8160 := by rw [hN]; exact many_le n
  have hmin : min (max n 0) 8160 = (N : Int) := by rw [hN]; unfold many; omega
  rw [← hN] at hX
  have HX := Lib.hid hX
  have HC := Lib.hid hc
  have HMIN := Lib.hid hmin
  clear hX hc hN hmin
  go_enter Tryd.func41, Tryd.ntmps41
  go_upto_region 2 with (fail)
  rw [HMIN.out]
  go_wp2_with fail
  obtain ⟨B, hB⟩ : ∃ B, B = w.heap.size := ⟨_, rfl⟩
  have hbu0 : Lib.IsBuilder 72 5 w.heap.size w.heap.size (Lib.byteCells []) (w.alloc (.cells #[.pointer none, .slice none 0 0] 72)) := Use.builder_new _ _ _ (Nat.le_refl _) (_root_.Go.heap_alloc_new w _)
  have HBU0 := Lib.hid hbu0
  clear hbu0 hB
  go_loopw [7, 9] (fun a i wr => ∃ (q : Nat) (A : ByteArray), q ≤ 255 ∧ A.size ≤ 32 ∧ 32 * q ≤ N + 31 ∧ i = .int .i64 ((q : Int) + 1) ∧ a = .string A ∧ A.data.toList = text k.data.toList info.data.toList q ∧ Lib.IsBuilder 72 5 w.heap.size w.heap.size (Lib.byteCells (all k.data.toList info.data.toList q)) wr ∧ Below w.heap.size w wr) (fun _ i _ => 256 - (intOf i).toNat)
  case atStart => exact ⟨0, ⟨#[]⟩, by omega, by decide, by omega, rfl, rfl, rfl, HBU0.out, (Below.refl _ _).alloc (Nat.le_refl _) _⟩
  case round =>
    clear HBU0
    obtain ⟨q, A, hq, hA32, hqN, rfl, rfl, hA, hbu, hbel⟩ := hrel
    have hlen : ((32 * q : Nat) : Int) = ((all k.data.toList info.data.toList q).length : Int) := by rw [all_length]
    have HLEN := Lib.hid hlen
    have HA := Lib.hid hA
    have HBU := Lib.hid hbu
    have HW := Lib.hid hbel
    clear hlen hA hbu hbel
    go_wp2_with fail
    refine (Use.len_any w.heap.size w.heap.size _ ((32 * q : Nat) : Int) _ HBU.out HLEN.out).mono ?_
    rintro e w1 ⟨rfl, rfl⟩
    by_cases hlt : 32 * q < N
    · have hd : decide (((32 * q : Nat) : Int) < (N : Int)) = true := by simp; omega
      have hq1 : q ≤ 254 := by omega
      obtain ⟨H, hH⟩ : ∃ H : ByteArray, H = tx (Lanes.high (q + 1) (Lanes.widthOf 1)) := ⟨_, rfl⟩
      have hHs : H.size = 1 := by rw [hH]; show (Lanes.high (q + 1) (Lanes.widthOf 1)).length = 1; simp only [Lanes.high, List.length_map, List.length_range]; rfl
      obtain ⟨Y, hY⟩ : ∃ Y : ByteArray, Y = A ++ info ++ H := ⟨_, rfl⟩
      have hYs : Y.size = A.size + info.size + 1 := by rw [hY]; simp only [ByteArray.size_append, hHs]
      obtain ⟨T, hT⟩ : ∃ T : ByteArray, T = tx (mac k.data.toList Y.data.toList) := ⟨_, rfl⟩
      have hTs : T.size = 32 := by rw [hT]; exact mac_length _ _
      have hTt : T.data.toList = text k.data.toList info.data.toList (q + 1) := by
        rw [hT, text, ← HA.out, hY, hH]
        simp only [ByteArray.data_append, Array.toList_append]
        show mac _ (_ ++ Lanes.high (q + 1) 1) = _
        rw [high_one]
      have hall : all k.data.toList info.data.toList q ++ T.data.toList = all k.data.toList info.data.toList (q + 1) := by rw [hTt]; rfl
      have hh : ∀ u, Calls Tryd.prog 37 #[.int .u64 ((q : Int) + 1), .int .i64 1] u fun e w' => e = .returned (.string H) ∧ Below u.heap.size u w' := fun u => by
        have := Lanes.high_any (q + 1) 1 u (by omega) (by omega) (by omega)
        rw [hH]; exact this
      have hm : ∀ u, Consts u → Calls Tryd.prog 48 #[.string k, .string Y] u fun e w' => e = .returned (.string T) ∧ Below u.heap.size u w' := fun u hu => mac_any k Y T u (by omega) (by omega) hT hu
      have hal := all_length k.data.toList info.data.toList q
      have HH := Lib.hid hh
      have HM := Lib.hid hm
      have HY := Lib.hid hY
      have HTT := Lib.hid hTt
      have HALL := Lib.hid hall
      have HAL := Lib.hid hal
      have HTS := Lib.hid hTs
      have n1 : ¬ 9223372036854775807 < A.size + info.size := by omega
      have n2 : ¬ 9223372036854775807 < A.size + info.size + H.size := by omega
      clear hHs hYs hTs hH hT hTt hall hh hm hal hY HA
      go_wp2_with fail
      refine (HH.out _).mono ?_
      rintro e w2 ⟨rfl, hb2⟩
      have hbu2 := isBuilder_below HBU.out hb2
      have HB2 := Lib.hid (HW.out.trans (hb2.mono HW.out.size))
      have HBU2 := Lib.hid hbu2
      clear hb2 hbu2 HBU HW
      go_wp2_with fail
      rw [← HY.out]
      refine (HM.out _ (HC.out.below HC.out.1 HB2.out)).mono ?_
      rintro e w3 ⟨rfl, hb3⟩
      have hbu3 := isBuilder_below HBU2.out hb3
      have HB3 := Lib.hid (HB2.out.trans (hb3.mono HB2.out.size))
      have HBU3 := Lib.hid hbu3
      clear hb3 hbu3 HBU2 HB2
      go_wp2_with fail
      refine (Use.write_any w.heap.size w.heap.size (all k.data.toList info.data.toList q) T _ HBU3.out (by rw [HAL.out, HTS.out]; omega) HB3.out.size).mono ?_
      rintro e w4 ⟨rfl, hbu4, hb4⟩
      rw [HALL.out] at hbu4
      have HB4 := Lib.hid (HB3.out.trans hb4)
      have HBU4 := Lib.hid hbu4
      clear hb4 hbu4 HBU3 HB3
      go_wp2
      go_roundw
      case rel => exact ⟨q + 1, T, by omega, by rw [HTS.out]; omega, by omega, by go_num, rfl, HTT.out, HBU4.out, HB4.out⟩
      case measure => simp [intOf]; omega
    · have hd : decide (((32 * q : Nat) : Int) < (N : Int)) = false := by simp; omega
      obtain ⟨S, hS⟩ : ∃ S : ByteArray, S = tx (all k.data.toList info.data.toList q) := ⟨_, rfl⟩
      have hSs : S.size = 32 * q := by rw [hS]; exact all_length _ _ _
      have hNS : (N : Int) ≤ (S.size : Int) := by omega
      have hend : S.extract 0 N = X := by
        have e1 : (S.extract 0 N).data.toList = S.data.toList.take N := extract_take S N
        have e2 : expand k.data.toList info.data.toList N = (all k.data.toList info.data.toList q).take N := expand_of _ _ q N hq (by omega)
        rw [HX.out, e2, hS]
        apply ByteArray.ext
        apply Array.toList_inj.mp
        rw [← hS, e1, hS]
      have hstr : ∀ u, u = wr → Calls Tryd.prog 50 #[.pointer (some ⟨w.heap.size, 0, none⟩)] u fun e w' => e = .returned (.string S) ∧ Below w.heap.size u w' := fun u hu => by
        subst hu
        rw [hS]
        exact Use.string_any w.heap.size w.heap.size _ _ HBU.out HW.out.size
      have HSTR := Lib.hid hstr
      have HEND := Lib.hid hend
      clear hS hSs hend hstr HBU HX
      go_wp2_with fail
      refine (HSTR.out _ rfl).mono ?_
      rintro e w2 ⟨rfl, hb2⟩
      have HB2 := Lib.hid (HW.out.trans hb2)
      clear hb2 HSTR
      go_wp2
      go_ret
      exact ⟨by rw [← HEND.out]; rfl, HB2.out⟩
end Go.Proofs.YtedgpglldlohfaaDoor.Ked

namespace Go.Proofs.YtedgpglldlohfaaDoor.Ked
open Go.RowKit Mur Sha

/-- The parts and their lengths, as far as k. -/
def pieces (ls : List ByteArray) : Nat → List ByteArray
  | 0 => []
  | k + 1 => pieces ls k ++ [tx (Lanes.high (ls.getD k ByteArray.empty).size 2), ls.getD k ByteArray.empty]
theorem pieces_length (ls : List ByteArray) (k : Nat) : (pieces ls k).length = 2 * k := by
  induction k with
  | zero => rfl
  | succ k ih => rw [pieces, List.length_append, ih]; simp; omega
theorem pieces_text (ls : List ByteArray) (k : Nat) (h : k ≤ ls.length) : ((pieces ls k).map (·.data.toList)).flatten = infoOf ((ls.take k).map (·.data.toList)) := by
  induction k with
  | zero => rfl
  | succ k ih =>
    have hk : k < ls.length := by omega
    have e : ls.getD k ByteArray.empty = ls[k] := by simp [List.getD, hk]
    have e2 : ls[k].data.toList.length = ls[k].size := rfl
    rw [pieces, e, List.map_append, List.flatten_append, ih (by omega), List.take_succ_eq_append_getElem hk]
    simp only [infoOf, List.map_append, List.map_cons, List.map_nil, List.flatten_append, List.flatten_cons, List.flatten_nil, List.append_nil, e2]

set_option maxHeartbeats 1600000 in
theorem derive_any (key : ByteArray) (n : Int) (ls : List ByteArray) (X : ByteArray) (a : Option Addr) (b o cap : Nat) (w : World) (hkey : key.size ≤ 35184372088832) (ha : ls.length ≠ 0 → a = some ⟨b, o, none⟩ ∧ b < w.heap.size) (hcell : ∀ i (h : i < ls.length), w.cell? ⟨b, o + i, none⟩ = some (.string ls[i]))
    (hn : ls.length ≤ 1000000000) (hsum : (infoOf (ls.map (·.data.toList))).length ≤ 35184372088832) (hsz : ∀ s ∈ ls, s.size ≤ 35184372088832) (hX : X = tx (derive key.data.toList (many n) (ls.map (·.data.toList)))) (hc : Consts w) :
    Calls Tryd.prog 36 #[.string key, .int .i64 n, .slice a ls.length cap] w fun e w' => e = .returned (.string X) ∧ Below w.heap.size w w' := by
  obtain ⟨F, hF⟩ : ∃ F, F = infoOf (ls.map (·.data.toList)) := ⟨_, rfl⟩
  obtain ⟨E, hE⟩ : ∃ E, E = tx (mac salt key.data.toList) := ⟨_, rfl⟩
  have hEs : E.size ≤ 35184372088832 := by rw [hE]; show (mac _ _).length ≤ _; rw [mac_length]; omega
  have hFs : (tx F).size ≤ 35184372088832 := by rw [hF]; exact hsum
  have hext : ∀ u, Consts u → Calls Tryd.prog 42 #[.string ⟨#[109, 117, 114, 109, 117, 114]⟩, .string key] u fun e w' => e = .returned (.string E) ∧ Below u.heap.size u w' := fun u hu => extract_any ⟨#[109, 117, 114, 109, 117, 114]⟩ key E u (by decide) (by omega) hE hu
  have hexp : ∀ u, Consts u → Calls Tryd.prog 41 #[.string E, .string (tx F), .int .i64 n] u fun e w' => e = .returned (.string X) ∧ Below u.heap.size u w' := fun u hu => expand_any E (tx F) X n u hEs hFs (by rw [hX, hE, hF]; rfl) hu
  have hpc : F = ((pieces ls ls.length).map (·.data.toList)).flatten := by rw [pieces_text ls _ (Nat.le_refl _), List.take_length, hF]
  have hFl : F.length ≤ 140737488355328 := by have : (tx F).size = F.length := rfl; omega
  have HEXT := Lib.hid hext
  have HEXP := Lib.hid hexp
  have HPC := Lib.hid hpc
  have HC := Lib.hid hc
  have HA := Lib.hid ha
  have HCL := Lib.hid hcell
  have HSZ := Lib.hid hsz
  clear hext hexp hpc hc ha hcell hX hE hEs hFs hF hsum hsz
  go_enter Tryd.func36, Tryd.ntmps36
  go_wp2_with fail
  have hown0 := World.ownsRow_made (base := w.heap.size) (e := 9) (size := 1) w #[] 0 (Nat.le_refl _) (Nat.zero_le _) rfl
  have HOWN0 := Lib.hid hown0
  clear hown0
  go_loopw [7, 13] (fun v i wr => ∃ k : Nat, k ≤ ls.length ∧ i = .int .i64 k ∧ wr.ownsRow w.heap.size 9 1 v (2 * k) (Strs.strsV (pieces ls k)) ∧ Below w.heap.size w wr) (fun _ i _ => ls.length - (intOf i).toNat)
  case atStart => exact ⟨0, by omega, rfl, HOWN0.out, (Below.refl _ _).alloc (Nat.le_refl _) _⟩
  case round =>
    clear HOWN0
    obtain ⟨k, hk, rfl, hown, hbel⟩ := hrel
    by_cases hlt : k < ls.length
    · obtain ⟨rfl, hbb⟩ := HA.out (by omega)
      have hcc := (hbel.cell (p := ⟨b, o + k, none⟩) hbb).trans (HCL.out k hlt)
      have hx := HSZ.out ls[k] (List.getElem_mem hlt)
      have hg : ls.getD k ByteArray.empty = ls[k] := by simp [List.getD, hlt]
      have hstep : pieces ls (k + 1) = pieces ls k ++ [tx (Lanes.high ls[k].size 2), ls[k]] := by rw [pieces, hg]
      generalize ls[k] = x at *
      obtain ⟨H, hH⟩ : ∃ H : ByteArray, H = tx (Lanes.high x.size 2) := ⟨_, rfl⟩
      rw [← hH] at hstep
      have hh : ∀ u, Calls Tryd.prog 37 #[.int .u64 (x.size : Int), .int .i64 2] u fun e w' => e = .returned (.string H) ∧ Below u.heap.size u w' := fun u => by
        have := Lanes.high_any x.size 2 u (by omega) (by omega) (by omega)
        rw [hH]; exact this
      have HH := Lib.hid hh
      have HS := Lib.hid hstep
      have HOWN := Lib.hid hown
      have HW := Lib.hid hbel
      have hx0 : 0 ≤ (x.size : Int) := by omega
      clear hh hstep hg hH hown hbel
      go_wp2_with fail
      refine (HH.out _).mono ?_
      rintro e w2 ⟨rfl, hb2⟩
      have HOWN2 := Lib.hid (Strs.own_below HOWN.out hb2)
      have HW2 := Lib.hid (HW.out.trans (hb2.mono HW.out.size))
      clear hb2 HOWN HW hcc
      go_wp2_with (at_builtin; refine Strs.append_strs rfl _ _ rfl w.heap.size (2 * k) _ (pieces ls k) rfl (HOWN2.out.alloc _) w2.heap.size 2 2 [H, x] rfl rfl (Strs.new_two _ _ _ _) (by omega) (Nat.le_trans HW2.out.size (by simp)) ?_)
      intro v' w3 hown3 hgrow3
      have HW3 := Lib.hid ((HW2.out.alloc HW2.out.size (.cells #[.string H, .string x] 9)).grown hgrow3 (Nat.le_trans HW2.out.size (by simp)) (fun j hj => (HOWN2.out.lt j hj).1))
      rw [← HS.out] at hown3
      have HOWN3 := Lib.hid hown3
      clear hown3 hgrow3 HOWN2 HW2
      go_wp2
      go_roundw
      case rel => exact ⟨k + 1, by omega, by go_num, HOWN3.out, HW3.out⟩
      case measure => simp [intOf]; omega
    · obtain rfl : k = ls.length := by omega
      have HOWN := Lib.hid hown
      have HW := Lib.hid hbel
      clear hown hbel
      go_wp2_with fail
      refine (HEXT.out _ (HC.out.below HC.out.1 HW.out)).mono ?_
      rintro e w2 ⟨rfl, hb2⟩
      have HOWN2 := Lib.hid (Strs.own_below HOWN.out hb2)
      have HW2 := Lib.hid (HW.out.trans (hb2.mono HW.out.size))
      clear hb2 HOWN HW
      go_wp2_with fail
      refine (Strs.join_own w.heap.size (2 * ls.length) _ (pieces ls ls.length) F _ HOWN2.out HPC.out (by omega) hFl).mono ?_
      rintro e w3 ⟨rfl, hb3⟩
      have HW3 := Lib.hid (HW2.out.trans (hb3.mono HW2.out.size))
      clear hb3 HOWN2 HW2
      go_wp2_with fail
      refine (HEXP.out _ (HC.out.below HC.out.1 HW3.out)).mono ?_
      rintro e w4 ⟨rfl, hb4⟩
      go_wp2
      go_ret
      exact ⟨rfl, HW3.out.trans (hb4.mono HW3.out.size)⟩
end Go.Proofs.YtedgpglldlohfaaDoor.Ked

namespace Go.Proofs.YtedgpglldlohfaaDoor.Chn
open Go.RowKit Mur Sha

/-- A text as a value. -/
abbrev tx (l : List UInt8) : ByteArray := ⟨l.toArray⟩
theorem tx_list (l : List UInt8) : (tx l).data.toList = l := rfl
theorem tx_size (l : List UInt8) : (tx l).size = l.length := rfl
theorem sha_length (l : List UInt8) : (sha l).length = 32 := finish_length _ _ _

/-- Which shapes are right. -/
def Right (n h : Int) : Prop := 2 ≤ n ∧ n ≤ 32 ∧ 0 ≤ h ∧ h ≤ 8
instance (n h : Int) : Decidable (Right n h) := by unfold Right; infer_instance

/-- A number's lowest 64 bits. -/
def low64 (n : Int) : Nat := (n % 18446744073709551616).toNat
theorem low64_lt (n : Int) : low64 n < 18446744073709551616 := by unfold low64; omega
theorem low64_cast (n : Int) : (low64 n : Int) = n % 18446744073709551616 := by unfold low64; omega
def num (n : Int) (wd : Nat) : List UInt8 := Lanes.high (low64 n) wd
theorem num_length (n : Int) (wd : Nat) : (num n wd).length = wd := by simp [num, Lanes.high]

def runT : List UInt8 := [114, 117, 110]
def beginT : List UInt8 := [98, 101, 103, 105, 110]
def leafT : List UInt8 := [108, 101, 97, 102]

def value (N : Nat) (l : List (List UInt8)) : List UInt8 := (sha (parts l)).take N
theorem value_length (N : Nat) (l : List (List UInt8)) (h : N ≤ 32) : (value N l).length = N := by
  unfold value
  rw [List.length_take, sha_length]
  omega
def step (N : Nat) (room : List UInt8) (s0 s1 i : Int) (v : List UInt8) : List UInt8 := value N [runT, room, num s0 4, num s1 2, num i 1, v]
/-- So many steps from f on. -/
def run (N : Nat) (room : List UInt8) (s0 s1 : Int) (f : Nat) : Nat → List UInt8 → List UInt8
  | 0, v => v
  | k + 1, v => step N room s0 s1 ((f + k : Nat) : Int) (run N room s0 s1 f k v)
theorem run_add (N : Nat) (room : List UInt8) (s0 s1 : Int) (f a b : Nat) (v : List UInt8) : run N room s0 s1 (f + a) b (run N room s0 s1 f a v) = run N room s0 s1 f (a + b) v := by
  induction b with
  | zero => rfl
  | succ b ih => rw [run, ih, show a + (b + 1) = (a + b) + 1 by omega, run, Nat.add_assoc]
theorem run_length (N : Nat) (room : List UInt8) (s0 s1 : Int) (f k : Nat) (v : List UInt8) (h : N ≤ 32) (hv : v.length = N) : (run N room s0 s1 f k v).length = N := by
  cases k with
  | zero => exact hv
  | succ k => exact value_length N _ h
theorem run_le (N : Nat) (room : List UInt8) (s0 s1 : Int) (f k : Nat) (v : List UInt8) (h : N ≤ 32) : (run N room s0 s1 f k v).length ≤ v.length + 32 := by
  cases k with
  | zero => exact Nat.le_add_right _ _
  | succ k =>
    have := value_length N [runT, room, num s0 4, num s1 2, num ((f + k : Nat) : Int) 1, run N room s0 s1 f k v] h
    show (value N _).length ≤ _
    omega
/-- How far a run goes: from where, and how many steps. -/
def fromOf (a : Int) : Nat := a.toNat
def stepsOf (a b : Int) : Nat := min b.toNat 15 - a.toNat
def runI (N : Nat) (room : List UInt8) (s0 s1 a b : Int) (v : List UInt8) : List UInt8 := run N room s0 s1 (fromOf a) (stepsOf a b) v
theorem runI_nat (N : Nat) (room : List UInt8) (s0 s1 : Int) (a b : Nat) (v : List UInt8) (h : b ≤ 15) : runI N room s0 s1 (a : Int) (b : Int) v = run N room s0 s1 a (b - a) v := by
  unfold runI fromOf stepsOf
  rw [Int.toNat_natCast, Int.toNat_natCast, Nat.min_eq_left h]
theorem runI_add (N : Nat) (room : List UInt8) (s0 s1 : Int) (a b c : Nat) (v : List UInt8) (h1 : a ≤ b) (h2 : b ≤ c) (h3 : c ≤ 15) :
    runI N room s0 s1 (b : Int) (c : Int) (runI N room s0 s1 (a : Int) (b : Int) v) = runI N room s0 s1 (a : Int) (c : Int) v := by
  rw [runI_nat _ _ _ _ _ _ _ h3, runI_nat _ _ _ _ _ _ _ (Nat.le_trans h2 h3), runI_nat _ _ _ _ _ _ _ h3]
  have := run_add N room s0 s1 a (b - a) (c - b) v
  rw [show a + (b - a) = b by omega, show b - a + (c - b) = c - a by omega] at this
  exact this
theorem runI_none (N : Nat) (room : List UInt8) (s0 s1 : Int) (a : Nat) (v : List UInt8) (h : a ≤ 15) : runI N room s0 s1 (a : Int) (a : Int) v = v := by
  rw [runI_nat _ _ _ _ _ _ _ h, Nat.sub_self, run]

def begins (N : Nat) (seed : List UInt8) (leaf chain : Int) : List UInt8 := value N [beginT, seed, num leaf 4, num chain 2]
def together (N : Nat) (room : List UInt8) (leaf : Int) (ends : List UInt8) : List UInt8 := value N [leafT, room, num leaf 4, ends]

/-- The first N bytes, bytes 0 behind. -/
def told (N : Nat) (d : List UInt8) : List UInt8 := d.take N ++ List.replicate (N - d.length) 0
theorem told_length (N : Nat) (d : List UInt8) : (told N d).length = N := by
  simp only [told, List.length_append, List.length_take, List.length_replicate]
  omega
def nib (b : UInt8) : List Nat := [b.toNat / 16, b.toNat % 16]
def nibs (l : List UInt8) : List Nat := l.flatMap nib
theorem nibs_length (l : List UInt8) : (nibs l).length = 2 * l.length := by
  induction l with
  | nil => rfl
  | cons b l ih =>
    show (nib b ++ nibs l).length = _
    rw [List.length_append, ih, List.length_cons]
    show 2 + _ = _
    omega
theorem nibs_snoc (l : List UInt8) (b : UInt8) : nibs (l ++ [b]) = nibs l ++ nib b := by simp [nibs]
theorem nibs_le (l : List UInt8) : ∀ x ∈ nibs l, x ≤ 15 := fun x hx => by
  obtain ⟨b, _, hb⟩ := List.mem_flatMap.1 hx
  have := b.toNat_lt
  simp only [nib, List.mem_cons, List.not_mem_nil, or_false] at hb
  omega
theorem nibs_sum (l : List UInt8) : (nibs l).sum ≤ 30 * l.length := by
  induction l with
  | nil => exact Nat.le_refl _
  | cons b l ih =>
    show (nib b ++ nibs l).sum ≤ _
    have := b.toNat_lt
    rw [List.sum_append, List.length_cons, show (nib b).sum = b.toNat / 16 + b.toNat % 16 by simp [nib]]
    omega
/-- What is left of the greatest sum. -/
def left (N : Nat) (l : List UInt8) : Nat := 30 * N - (nibs l).sum
def rest (r : Nat) : List Nat := [r / 256, r / 16 % 16, r % 16]
def digs (N : Nat) (d : List UInt8) : List Nat := nibs (told N d) ++ rest (left N (told N d))
theorem digs_length (N : Nat) (d : List UInt8) : (digs N d).length = 2 * N + 3 := by
  rw [digs, List.length_append, nibs_length, told_length]
  rfl
theorem left_le (N : Nat) (l : List UInt8) : left N l ≤ 30 * N := Nat.sub_le _ _
theorem rest_le (r : Nat) (h : r < 4096) : ∀ x ∈ rest r, x ≤ 15 := fun x hx => by
  simp only [rest, List.mem_cons, List.not_mem_nil, or_false] at hx
  omega
theorem digs_le (N : Nat) (d : List UInt8) (h : N ≤ 32) : ∀ x ∈ digs N d, x ≤ 15 := fun x hx => by
  rcases List.mem_append.1 hx with hx | hx
  · exact nibs_le _ x hx
  · exact rest_le _ (by have := left_le N (told N d); omega) x hx
/-- The digit of a chain. -/
def dig (N : Nat) (d : List UInt8) (c : Nat) : Nat := (digs N d).getD c 0
theorem dig_le (N : Nat) (d : List UInt8) (c : Nat) (h : N ≤ 32) : dig N d c ≤ 15 := by
  unfold dig
  rw [List.getD_eq_getElem?_getD]
  rcases Nat.lt_or_ge c (digs N d).length with hc | hc
  · rw [List.getElem?_eq_getElem hc]
    exact digs_le N d h _ (List.getElem_mem _)
  · rw [List.getElem?_eq_none hc]
    exact Nat.zero_le _
theorem dig_at (N : Nat) (d : List UInt8) (c : Nat) (h : c < 2 * N + 3) : (digs N d)[c]? = some (dig N d c) := by
  have hc : c < (digs N d).length := by rw [digs_length]; exact h
  unfold dig
  rw [List.getD_eq_getElem?_getD, List.getElem?_eq_getElem hc, Option.getD_some]

/-- Pieces, one behind the other. -/
def upto (F : Nat → List UInt8) : Nat → List UInt8
  | 0 => []
  | k + 1 => upto F k ++ F k
theorem upto_length (F : Nat → List UInt8) (N : Nat) (h : ∀ c, (F c).length = N) (k : Nat) : (upto F k).length = N * k := by
  induction k with
  | zero => rfl
  | succ k ih => rw [upto, List.length_append, ih, h, Nat.mul_succ]
theorem upto_at (F : Nat → List UInt8) (N : Nat) (h : ∀ c, (F c).length = N) (k c : Nat) (hc : c < k) : ((upto F k).drop (N * c)).take N = F c := by
  induction k with
  | zero => omega
  | succ k ih =>
    have hl := upto_length F N h k
    have hm : N * c ≤ N * k := Nat.mul_le_mul_left _ (by omega)
    rcases Nat.lt_or_ge c k with hck | hck
    · have hm2 : N * c + N ≤ N * k := by rw [← Nat.mul_succ]; exact Nat.mul_le_mul_left _ hck
      rw [upto, List.drop_append_of_le_length (by omega), List.take_append_of_le_length (by rw [List.length_drop]; omega)]
      exact ih hck
    · obtain rfl : c = k := by omega
      rw [upto, List.drop_append_of_le_length (by omega), ← hl, List.drop_length, List.nil_append, ← h c, List.take_length]
theorem upto_congr (F G : Nat → List UInt8) (k : Nat) (h : ∀ c, c < k → F c = G c) : upto F k = upto G k := by
  induction k with
  | zero => rfl
  | succ k ih => rw [upto, upto, ih (fun c hc => h c (by omega)), h k (by omega)]

def leafP (N : Nat) (seed room : List UInt8) (leaf : Int) (c : Nat) : List UInt8 := runI N room leaf (c : Int) 0 15 (begins N seed leaf (c : Int))
def leafOf (N : Nat) (seed room : List UInt8) (leaf : Int) : List UInt8 := together N room leaf (upto (leafP N seed room leaf) (2 * N + 3))
def signP (N : Nat) (seed room : List UInt8) (leaf : Int) (d : List UInt8) (c : Nat) : List UInt8 := runI N room leaf (c : Int) 0 (dig N d c : Int) (begins N seed leaf (c : Int))
def sign (N : Nat) (seed room : List UInt8) (leaf : Int) (d : List UInt8) : List UInt8 := upto (signP N seed room leaf d) (2 * N + 3)
def foundP (N : Nat) (room : List UInt8) (leaf : Int) (sig d : List UInt8) (c : Nat) : List UInt8 := runI N room leaf (c : Int) (dig N d c : Int) 15 ((sig.drop (N * c)).take N)
def found (N : Nat) (room : List UInt8) (leaf : Int) (sig d : List UInt8) : List UInt8 := together N room leaf (upto (foundP N room leaf sig d) (2 * N + 3))

theorem begins_length (N : Nat) (seed : List UInt8) (leaf chain : Int) (h : N ≤ 32) : (begins N seed leaf chain).length = N := value_length N _ h
theorem leafP_length (N : Nat) (seed room : List UInt8) (leaf : Int) (h : N ≤ 32) (c : Nat) : (leafP N seed room leaf c).length = N := run_length N _ _ _ _ _ _ h (begins_length N _ _ _ h)
theorem signP_length (N : Nat) (seed room : List UInt8) (leaf : Int) (d : List UInt8) (h : N ≤ 32) (c : Nat) : (signP N seed room leaf d c).length = N := run_length N _ _ _ _ _ _ h (begins_length N _ _ _ h)
theorem sign_length (N : Nat) (seed room : List UInt8) (leaf : Int) (d : List UInt8) (h : N ≤ 32) : (sign N seed room leaf d).length = N * (2 * N + 3) := upto_length _ N (signP_length N seed room leaf d h) _
theorem leafOf_length (N : Nat) (seed room : List UInt8) (leaf : Int) (h : N ≤ 32) : (leafOf N seed room leaf).length = N := value_length N _ h
theorem foundP_length (N : Nat) (room : List UInt8) (leaf : Int) (sig d : List UInt8) (h : N ≤ 32) (hs : sig.length = N * (2 * N + 3)) (c : Nat) (hc : c < 2 * N + 3) : (foundP N room leaf sig d c).length = N := by
  refine run_length N _ _ _ _ _ _ h ?_
  have : N * c + N ≤ N * (2 * N + 3) := by rw [← Nat.mul_succ]; exact Nat.mul_le_mul_left _ hc
  rw [List.length_take, List.length_drop]
  omega

/-- What is found of a signature is the leaf. -/
theorem found_sign (N : Nat) (seed room : List UInt8) (leaf : Int) (d : List UInt8) (h : N ≤ 32) : found N room leaf (sign N seed room leaf d) d = leafOf N seed room leaf := by
  unfold found leafOf
  rw [upto_congr _ (leafP N seed room leaf)]
  intro c hc
  unfold foundP sign
  rw [upto_at _ N (signP_length N seed room leaf d h) _ c hc]
  have hd := dig_le N d c h
  exact runI_add N room leaf (c : Int) 0 (dig N d c) 15 (begins N seed leaf (c : Int)) (by omega) hd (by omega)

end Go.Proofs.YtedgpglldlohfaaDoor.Chn

namespace Go.Proofs.YtedgpglldlohfaaDoor.Chn
open Go.RowKit Mur Sha
set_option maxRecDepth 100000

/-- A shape as a value. -/
abbrev shapeV (n h : Int) : Value := .agg #[.int .i64 n, .int .i64 h]

theorem cut_take (D V : ByteArray) (N : Nat) (l : List UInt8) (hD : D = tx l) (hV : V = tx (l.take N)) : D.extract 0 N = V := by
  apply ByteArray.ext
  apply Array.ext'
  rw [extract_take, hD, hV]

/-- A contract that leaves all memory, asked only where all memory of before is left. -/
theorem keptIf {W : World} {f : FuncId} {args : Array Value} {v : Value} (R : ∀ u, Below W.heap.size W u → Calls Tryd.prog f args u fun e w' => e = .returned v ∧ Below u.heap.size u w') :
    ∀ w, Below W.heap.size W w → Calls Tryd.prog f args w fun e w' => e = .returned v ∧ Below W.heap.size W w' := fun w h =>
  (R w h).mono fun _ _ ⟨he, hb⟩ => ⟨he, h.trans (hb.mono h.size)⟩

end Go.Proofs.YtedgpglldlohfaaDoor.Chn
