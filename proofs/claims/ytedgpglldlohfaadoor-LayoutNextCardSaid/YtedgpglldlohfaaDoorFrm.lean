/-
  The plain mathematics of package frame (chapter 18): how many bytes a slot has, what is signed, what is laid and read, masked by a seed, and which bit was turned. Nothing here speaks of a program: no condition but those that each lemma names.
-/
import Derived.Test.YtedgpglldlohfaaDoorMKed
import Derived.Test.YtedgpglldlohfaaDoorMCha
import Derived.Test.YtedgpglldlohfaaDoorMTap
namespace Go.Proofs.YtedgpglldlohfaaDoor.Frm
open Go.RowKit Mur Lanes Prt Tap Cel
set_option maxRecDepth 100000

def sayT : List UInt8 := [115, 97, 121, 32]
def told (e s q : Int) (t : List UInt8) : List UInt8 := sayT ++ (dec e ++ ([32] ++ (dec s ++ ([32] ++ (dec q ++ ([32] ++ t))))))
/-- How many bytes a slot has. -/
def long (cap sig : Int) : Int := if cap < 1 ∨ 16 < cap ∨ sig < 0 ∨ 2000 < sig then 0 else 8 + cap + sig
def maskT : List UInt8 := [109, 97, 115, 107]
def maskKey (seed : List UInt8) : List UInt8 := Ked.derive seed 32 [maskT]
theorem maskKey_length (seed : List UInt8) : (maskKey seed).length = 32 := Ked.expand_length _ _ _ (by decide)
def zeros (n : Nat) : List UInt8 := List.replicate n 0
/-- Masked by a seed. -/
def hidB (seed : List UInt8) (s : ByteArray) : ByteArray := Cha.hidB (tx (maskKey seed)) (tx (zeros 12)) s 0
def hid (seed s : List UInt8) : List UInt8 := (hidB seed (tx s)).data.toList
theorem tx_data (s : ByteArray) : tx s.data.toList = s := rfl
theorem data_tx (l : List UInt8) : (tx l).data.toList = l := rfl
theorem hidB_size (seed : List UInt8) (s : ByteArray) : (hidB seed s).size = s.size := Cha.hidB_size _ _ _ _
theorem hidB_back (seed : List UInt8) (s : ByteArray) : hidB seed (hidB seed s) = s := Cha.hidB_back _ _ _ _
theorem hid_length (seed s : List UInt8) : (hid seed s).length = s.length := hidB_size seed (tx s)
theorem hid_back (seed s : List UInt8) : hid seed (hid seed s) = s := by
  unfold hid
  rw [tx_data, hidB_back, data_tx]
/-- What a slot says. -/
structure Say where
  next : Int
  seq : Int
  text : List UInt8
  sig : List UInt8
def nothing : Say := ⟨0, 0, [], []⟩
def bodyT (x : Say) (cap sig : Int) : List UInt8 := [UInt8.ofNat x.next.toNat, UInt8.ofNat x.text.length, UInt8.ofNat x.seq.toNat] ++ (fit x.text cap ++ fit x.sig sig)
def badLay (x : Say) (cap sig : Int) (seed : List UInt8) : Prop := long cap sig = 0 ∨ seed.length ≠ 4 ∨ x.next < 0 ∨ 16 < x.next ∨ x.seq < 0 ∨ 255 < x.seq
instance (x : Say) (cap sig : Int) (seed : List UInt8) : Decidable (badLay x cap sig seed) := by unfold badLay; infer_instance
def layE (x : Say) (cap sig : Int) (seed : List UInt8) : Int := if badLay x cap sig seed then 1 else if cap < (x.text.length : Int) ∨ sig < (x.sig.length : Int) then 4 else 0
def layT (x : Say) (cap sig : Int) (seed : List UInt8) : List UInt8 := if layE x cap sig seed = 0 then [1] ++ (seed ++ hid seed (bodyT x cap sig)) else []
def noughts (s : List UInt8) : Bool := s.all fun b => decide (b = 0)
/-- What is masked in a slot. -/
def opened (s : List UInt8) : List UInt8 := hid ((s.drop 1).take 4) (s.drop 5)
def byte (s : List UInt8) (i : Nat) : Nat := (s.getD i 0).toNat
def badForm (b : List UInt8) (cap : Int) : Prop := 16 < byte b 0 ∨ cap < (byte b 1 : Int) ∨ noughts (((b.drop 3).take cap.toNat).drop (byte b 1)) = false ∨ (byte b 1 = 0 ∧ (byte b 2 ≠ 0 ∨ noughts (b.drop (3 + cap.toNat)) = false))
instance (b : List UInt8) (cap : Int) : Decidable (badForm b cap) := by unfold badForm; infer_instance
def readE (s : List UInt8) (cap sig : Int) : Int := if long cap sig = 0 then 1 else if (s.length : Int) ≠ long cap sig ∨ byte s 0 ≠ 1 then 3 else if badForm (opened s) cap then 3 else 0
def sayOf (b : List UInt8) (cap : Int) : Say := ⟨(byte b 0 : Nat), (byte b 2 : Nat), (b.drop 3).take (byte b 1), if byte b 1 = 0 then [] else b.drop (3 + cap.toNat)⟩
def readX (s : List UInt8) (cap sig : Int) : Say := if readE s cap sig = 0 then sayOf (opened s) cap else nothing

/-- Of a capacity and signatures that may be. -/
theorem long_in (cap sig : Int) (h1 : 1 ≤ cap) (h2 : cap ≤ 16) (h3 : 0 ≤ sig) (h4 : sig ≤ 2000) : long cap sig = 8 + cap + sig := by
  unfold long
  rw [if_neg (by omega)]
theorem long_out (cap sig : Int) (h : long cap sig ≠ 0) : 1 ≤ cap ∧ cap ≤ 16 ∧ 0 ≤ sig ∧ sig ≤ 2000 := by
  unfold long at h
  split at h
  · exact absurd rfl h
  · omega
theorem fit_len (s : List UInt8) (n : Int) (h1 : 0 ≤ n) (h2 : n ≤ 6000) : (fit s n).length = n.toNat := by
  rw [fit, List.length_take, List.length_append, List.length_replicate]
  omega
theorem fit_more (s : List UInt8) (n : Int) (h1 : (s.length : Int) ≤ n) (h2 : n ≤ 6000) : fit s n = s ++ zeros (n.toNat - s.length) := by
  unfold fit zeros
  have e : (max 0 (min n 6000)).toNat = n.toNat := by omega
  rw [e, List.take_append]
  rw [List.take_of_length_le (by omega), List.take_replicate]
  congr 2
  omega
theorem noughts_zeros (n : Nat) : noughts (zeros n) = true := by
  simp [noughts, zeros]
theorem bodyT_length (x : Say) (cap sig : Int) (h1 : 1 ≤ cap) (h2 : cap ≤ 16) (h3 : 0 ≤ sig) (h4 : sig ≤ 2000) : (bodyT x cap sig).length = 3 + cap.toNat + sig.toNat := by
  unfold bodyT
  rw [List.length_append, List.length_append, fit_len _ _ (by omega) (by omega), fit_len _ _ (by omega) (by omega)]
  simp only [List.length_cons, List.length_nil]
  omega
theorem lay_length (x : Say) (cap sig : Int) (seed : List UInt8) (h : layE x cap sig seed = 0) : ((layT x cap sig seed).length : Int) = long cap sig := by
  have hb : ¬ badLay x cap sig seed := fun hb => by
    unfold layE at h
    rw [if_pos hb] at h
    exact absurd h (by decide)
  have hl : long cap sig ≠ 0 := fun e => hb (Or.inl e)
  have hs : seed.length = 4 := Classical.not_not.1 fun e => hb (Or.inr (Or.inl e))
  obtain ⟨h1, h2, h3, h4⟩ := long_out cap sig hl
  unfold layT
  rw [if_pos h, List.length_append, List.length_append, hid_length, bodyT_length x cap sig h1 h2 h3 h4, hs, long_in cap sig h1 h2 h3 h4]
  simp only [List.length_cons, List.length_nil]
  omega
theorem byte_of (n : Nat) (l : List UInt8) (h : n < 256) : byte (UInt8.ofNat n :: l) 0 = n := by
  simp [byte, List.getD]
  omega
/-- What is laid is read. -/
theorem back (x : Say) (cap sig : Int) (seed : List UInt8) (h : layE x cap sig seed = 0) (h0 : x.text = [] → x.seq = 0 ∧ x.sig = []) (hs : x.text ≠ [] → (x.sig.length : Int) = sig) : readE (layT x cap sig seed) cap sig = 0 ∧ readX (layT x cap sig seed) cap sig = x := by
  have hb : ¬ badLay x cap sig seed := fun hb => by
    unfold layE at h
    rw [if_pos hb] at h
    exact absurd h (by decide)
  have hlen := lay_length x cap sig seed h
  have hl : long cap sig ≠ 0 := fun e => hb (Or.inl e)
  have hsd : seed.length = 4 := Classical.not_not.1 fun e => hb (Or.inr (Or.inl e))
  have hn0 : 0 ≤ x.next ∧ x.next ≤ 16 ∧ 0 ≤ x.seq ∧ x.seq ≤ 255 := by
    unfold badLay at hb
    omega
  obtain ⟨h1, h2, h3, h4⟩ := long_out cap sig hl
  have hc : (x.text.length : Int) ≤ cap ∧ (x.sig.length : Int) ≤ sig := by
    unfold layE at h
    rw [if_neg hb] at h
    split at h
    · exact absurd h (by decide)
    · omega
  have hT : layT x cap sig seed = [1] ++ (seed ++ hid seed (bodyT x cap sig)) := by unfold layT; rw [if_pos h]
  have ho : opened (layT x cap sig seed) = bodyT x cap sig := by
    unfold opened
    have e1 : ((layT x cap sig seed).drop 1).take 4 = seed := by
      rw [hT, List.singleton_append, List.drop_one, List.tail_cons, ← hsd, List.take_left]
    have e2 : (layT x cap sig seed).drop 5 = hid seed (bodyT x cap sig) := by
      rw [hT, List.singleton_append, List.drop_succ_cons, ← hsd, List.drop_left]
    rw [e1, e2, hid_back]
  have b0 : byte (bodyT x cap sig) 0 = x.next.toNat := by
    unfold bodyT byte
    simp
    omega
  have b1 : byte (bodyT x cap sig) 1 = x.text.length := by
    unfold bodyT byte
    simp
    omega
  have b2 : byte (bodyT x cap sig) 2 = x.seq.toNat := by
    unfold bodyT byte
    simp
    omega
  have d3 : (bodyT x cap sig).drop 3 = fit x.text cap ++ fit x.sig sig := rfl
  have t3 : ((bodyT x cap sig).drop 3).take cap.toNat = fit x.text cap := by
    rw [d3, ← fit_len x.text cap (by omega) (by omega), List.take_left]
  have d4 : (bodyT x cap sig).drop (3 + cap.toNat) = fit x.sig sig := by
    rw [← List.drop_drop, d3, ← fit_len x.text cap (by omega) (by omega), List.drop_left]
  have ft := fit_more x.text cap hc.1 (by omega)
  have fs := fit_more x.sig sig hc.2 (by omega)
  have hf : ¬ badForm (bodyT x cap sig) cap := by
    unfold badForm
    rw [b0, b1, b2, t3, d4, ft, List.drop_left, noughts_zeros, fs]
    rintro (h5 | h5 | h5 | ⟨h5, h6⟩)
    · omega
    · omega
    · cases h5
    · have hx := h0 (List.eq_nil_of_length_eq_zero h5)
      rw [hx.1, hx.2, List.nil_append, noughts_zeros] at h6
      simp at h6
  have f0 : byte (layT x cap sig seed) 0 = 1 := by
    rw [hT]
    rfl
  have hE : readE (layT x cap sig seed) cap sig = 0 := by
    unfold readE
    rw [if_neg hl, hlen, f0, ho, if_neg (by simp), if_neg hf]
  refine ⟨hE, ?_⟩
  unfold readX
  rw [if_pos hE, ho]
  unfold sayOf
  rw [b0, b1, b2, d4, d3, ft, List.append_assoc, List.take_left]
  obtain ⟨nx, sq, tt, sg⟩ := x
  simp only at *
  have e1 : ((nx.toNat : Nat) : Int) = nx := by omega
  have e2 : ((sq.toNat : Nat) : Int) = sq := by omega
  rw [e1, e2]
  by_cases hz : tt = []
  · have := h0 hz
    subst hz
    rw [this.2]
    rfl
  · have hl2 : ¬ tt.length = 0 := fun e => hz (List.eq_nil_of_length_eq_zero e)
    have hsl := hs hz
    rw [if_neg hl2, fs]
    have e3 : sig.toNat - sg.length = 0 := by omega
    rw [e3]
    simp [zeros]
theorem lay_err (x : Say) (cap sig : Int) (seed : List UInt8) (h : layE x cap sig seed ≠ 0) : layT x cap sig seed = [] := by
  unfold layT
  rw [if_neg h]

/-- Which bit was turned. -/
def isTurned (laid out : List UInt8) (i : Nat) : Bool := decide (bit laid (i : Int) = 0) && decide (bit out (i : Int) = 1)
def turnedG (laid out : List UInt8) : Nat → Nat → Int
  | 0, _ => -1
  | k + 1, i => if isTurned laid out i = true then (i : Int) else turnedG laid out k (i + 1)
def turned (laid out : List UInt8) : Int := turnedG laid out (8 * min laid.length out.length) 0
theorem turnedG_spec (laid out : List UInt8) : ∀ (k i : Nat), (turnedG laid out k i = -1 ∧ ∀ j, i ≤ j → j < i + k → isTurned laid out j = false) ∨ ∃ m : Nat, turnedG laid out k i = (m : Int) ∧ i ≤ m ∧ m < i + k ∧ isTurned laid out m = true ∧ ∀ j, i ≤ j → j < m → isTurned laid out j = false
  | 0, i => Or.inl ⟨rfl, fun j h1 h2 => by omega⟩
  | k + 1, i => by
    by_cases h : isTurned laid out i = true
    · refine Or.inr ⟨i, ?_, Nat.le_refl _, by omega, h, fun j h1 h2 => by omega⟩
      show (if isTurned laid out i = true then (i : Int) else turnedG laid out k (i + 1)) = _
      rw [if_pos h]
    · have e : turnedG laid out (k + 1) i = turnedG laid out k (i + 1) := by
        show (if isTurned laid out i = true then (i : Int) else turnedG laid out k (i + 1)) = _
        rw [if_neg h]
      have hf : isTurned laid out i = false := by simpa using h
      rw [e]
      rcases turnedG_spec laid out k (i + 1) with ⟨h1, h2⟩ | ⟨m, h1, h2, h3, h4, h5⟩
      · refine Or.inl ⟨h1, fun j h3 h4 => ?_⟩
        by_cases hj : j = i
        · rw [hj]; exact hf
        · exact h2 j (by omega) (by omega)
      · refine Or.inr ⟨m, h1, by omega, by omega, h4, fun j h6 h7 => ?_⟩
        by_cases hj : j = i
        · rw [hj]; exact hf
        · exact h5 j (by omega) h7
theorem turned_spec (laid out : List UInt8) : (turned laid out = -1 ∧ ∀ j, j < 8 * min laid.length out.length → isTurned laid out j = false) ∨ ∃ m : Nat, turned laid out = (m : Int) ∧ m < 8 * min laid.length out.length ∧ isTurned laid out m = true ∧ ∀ j, j < m → isTurned laid out j = false := by
  rcases turnedG_spec laid out (8 * min laid.length out.length) 0 with ⟨h1, h2⟩ | ⟨m, h1, _, h3, h4, h5⟩
  · exact Or.inl ⟨h1, fun j hj => h2 j (by omega) (by omega)⟩
  · exact Or.inr ⟨m, h1, by omega, h4, fun j hj => h5 j (by omega) hj⟩
theorem turned_at (laid out : List UInt8) (m : Nat) (h1 : m < 8 * min laid.length out.length) (h2 : isTurned laid out m = true) (h3 : ∀ j, j < m → isTurned laid out j = false) : turned laid out = (m : Int) := by
  rcases turned_spec laid out with ⟨_, h5⟩ | ⟨k, h4, _, h6, h7⟩
  · rw [h5 m h1] at h2
    cases h2
  · have e : k = m := by
      rcases Nat.lt_trichotomy k m with h | h | h
      · rw [h3 k h] at h6
        cases h6
      · exact h
      · rw [h7 m h] at h2
        cases h2
    rw [h4, e]
theorem turned_none (laid out : List UInt8) (h : ∀ j, j < 8 * min laid.length out.length → isTurned laid out j = false) : turned laid out = -1 := by
  rcases turned_spec laid out with ⟨h4, _⟩ | ⟨k, _, h5, h6, _⟩
  · exact h4
  · rw [h k h5] at h6
    cases h6
theorem turned_same (laid : List UInt8) : turned laid laid = -1 := turned_none laid laid fun j _ => by
  unfold isTurned
  by_cases h : bit laid (j : Int) = 0
  · rw [h]
    rfl
  · rw [decide_eq_false h]
    rfl
end Go.Proofs.YtedgpglldlohfaaDoor.Frm
