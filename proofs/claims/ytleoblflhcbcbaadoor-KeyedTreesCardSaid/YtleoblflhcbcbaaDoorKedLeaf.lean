/-
  The function Leaf of package keyed answers what the plain mathematics of the text Ked says, and leaves all memory that was there as it was. Conditions: the key has no more than 2^46 bytes, the constant table of package digest lies as the program's text lays it.
-/
import Derived.Test.YtleoblflhcbcbaaDoorKedTree
namespace Go.Proofs.YtleoblflhcbcbaaDoor.Ked
open Go.RowKit Mur Sha

theorem down_size (k : List UInt8) (at_ high i M : Nat) (hk : k.length ≤ M) (h32 : 32 ≤ M) : (down k at_ high i).length ≤ M := by
  cases i with
  | zero => exact hk
  | succ i => rw [down, side_length]; exact h32

set_option maxHeartbeats 1600000 in
theorem leaf_any (k X : ByteArray) (i h : Nat) (w : World) (hk : k.size ≤ 70368744177664) (hh : h ≤ 30) (hi : i < 2 ^ h) (hX : X = tx (leaf k.data.toList i h)) (hc : Consts w) :
    Calls Tryd.prog 22 #[.string k, .int .i64 i, .int .i64 h] w fun e w' => e = .returned (.string X) ∧ Below w.heap.size w w' := by
  have hd1 : decide ((h : Int) < 0) = false := by simp
  have hd2 : decide (30 < (h : Int)) = false := by simp; omega
  have hd3 : decide ((i : Int) < 0) = false := by simp
  have hp : 2 ^ h ≤ 2 ^ 30 := Nat.pow_le_pow_right (by omega) hh
  have hpi : ((2 ^ h : Nat) : Int) = (2 : Int) ^ h := by rw [Int.natCast_pow]; rfl
  have HC := Lib.hid hc
  have HX := Lib.hid hX
  clear hc hX
  go_enter Tryd.func22, Tryd.ntmps22
  go_wp2_with fail
  clear hd1 hd2 hd3
  go_loopw [0, 25] (fun kv j wr => ∃ q : Nat, q ≤ h ∧ j = .int .i64 q ∧ kv = .string (tx (down k.data.toList i h q)) ∧ Below w.heap.size w wr) (fun _ j _ => h - (intOf j).toNat)
  case atStart => exact ⟨0, by omega, rfl, rfl, Below.refl _ _⟩
  case round =>
    obtain ⟨q, hq, rfl, rfl, hbel⟩ := hrel
    have HW := Lib.hid hbel
    clear hbel
    by_cases hlt : q < h
    · obtain ⟨K, hK⟩ : ∃ K, K = tx (down k.data.toList i h q) := ⟨_, rfl⟩
      have hKs : K.size ≤ 70368744177664 := by rw [hK]; exact down_size _ _ _ _ _ hk (by omega)
      obtain ⟨b, hb⟩ : ∃ b, b = i / 2 ^ (h - 1 - q) % 2 := ⟨_, rfl⟩
      have hb2 : b < 2 := by omega
      obtain ⟨B, hB⟩ : ∃ B, B = tx (side K.data.toList b) := ⟨_, rfl⟩
      have hB2 : B = tx (down k.data.toList i h (q + 1)) := by rw [hB, hK, down, hb]
      have HBR := Lib.hid (fun u hu => branch_any K B b u hKs hb2 hB hu)
      have HB2 := Lib.hid hB2
      rw [← hK]
      clear hB hB2 hK hKs
      have hbit : bits .and .i64 ((i : Int) / 2 ^ (h - 1 - q)) 1 = (b : Int) := by
        have e : (i : Int) / 2 ^ (h - 1 - q) = ((i / 2 ^ (h - 1 - q) : Nat) : Int) := by rw [Int.natCast_ediv, Int.natCast_pow]; rfl
        have hi2 : i / 2 ^ (h - 1 - q) ≤ i := Nat.div_le_self _ _
        rw [e, and_one _ (by omega), ← hb]
      have HBIT := Lib.hid hbit
      clear hbit hb hb2
      go_wp2_with fail
      rw [HBIT.out]
      refine (HBR.out _ (HC.out.below HC.out.1 HW.out)).mono ?_
      rintro e w2 ⟨rfl, hb2⟩
      have HW2 := Lib.hid (HW.out.trans (hb2.mono HW.out.size))
      clear hb2
      go_wp2
      go_roundw
      case rel => exact ⟨q + 1, by omega, by go_num, by rw [HB2.out], HW2.out⟩
      case measure => simp [intOf]; omega
    · obtain rfl : q = h := by omega
      go_wp2
      go_ret
      exact ⟨by rw [HX.out]; rfl, HW.out⟩

set_option maxHeartbeats 800000 in
theorem leaf_none (k : ByteArray) (i h : Int) (w : World) (hh : h < 0 ∨ 30 < h ∨ i < 0 ∨ 2 ^ h.toNat ≤ i) :
    Calls Tryd.prog 22 #[.string k, .int .i64 i, .int .i64 h] w fun e w' => e = .returned (.string ⟨#[]⟩) ∧ Below w.heap.size w w' := by
  by_cases c1 : h < 0
  · have hd1 : decide (h < 0) = true := by simp; omega
    clear hh
    go_enter Tryd.func22, Tryd.ntmps22
    go_wp2
    go_ret
    exact ⟨rfl, Below.refl _ _⟩
  have hd1 : decide (h < 0) = false := by simp; omega
  by_cases c2 : 30 < h
  · have hd2 : decide (30 < h) = true := by simp; omega
    clear hh
    go_enter Tryd.func22, Tryd.ntmps22
    go_wp2
    go_ret
    exact ⟨rfl, Below.refl _ _⟩
  have hd2 : decide (30 < h) = false := by simp; omega
  by_cases c3 : i < 0
  · have hd3 : decide (i < 0) = true := by simp; omega
    clear hh
    go_enter Tryd.func22, Tryd.ntmps22
    go_wp2
    go_ret
    exact ⟨rfl, Below.refl _ _⟩
  have hd3 : decide (i < 0) = false := by simp; omega
  have hg : 2 ^ h.toNat ≤ i := by omega
  obtain ⟨m, rfl⟩ : ∃ m : Nat, h = (m : Int) := ⟨h.toNat, by omega⟩
  have hp : 2 ^ m ≤ 2 ^ 30 := Nat.pow_le_pow_right (by omega) (by omega)
  have hpi : ((2 ^ m : Nat) : Int) = (2 : Int) ^ m := by rw [Int.natCast_pow]; rfl
  have hg2 : (2 : Int) ^ m ≤ i := by simpa using hg
  have hd4 : decide ((2 : Int) ^ m ≤ i) = true := by simp; omega
  have hlow : (2 : Int) ^ m ≤ 1073741824 := by rw [← hpi]; omega
  have hpos : (0 : Int) ≤ (2 : Int) ^ m := by rw [← hpi]; exact Int.natCast_nonneg _
  clear hh hg hpi hp
  go_enter Tryd.func22, Tryd.ntmps22
  go_wp2
  go_ret
  exact ⟨rfl, Below.refl _ _⟩
end Go.Proofs.YtleoblflhcbcbaaDoor.Ked
