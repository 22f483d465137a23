/-
  The functions Step and Chain of package keyed answer what the plain mathematics of the text Ked says, and leave all memory that was there as it was. Conditions: the key has no more than 2^46 bytes, the constant table of package digest lies as the program's text lays it.
-/
import Derived.Test.YtleoblflhcbcbaaDoorKedMac
import Derived.Test.YtleoblflhcbcbaaDoorStrs
import Derived.Test.YtleoblflhcbcbaaDoorWhole
namespace Go.Proofs.YtleoblflhcbcbaaDoor.Ked
open Go.RowKit Mur Sha

set_option maxHeartbeats 800000 in
theorem step_any (k A B : ByteArray) (w : World) (hk : k.size ≤ 70368744177664) (hA : A = tx (mac k.data.toList nextT)) (hB : B = tx (mac k.data.toList outT)) (hc : Consts w) :
    Calls Tryd.prog 17 #[.string k] w fun e w' => e = .returned (.tuple #[.string A, .string B]) ∧ Below w.heap.size w w' := by
  have H1 := Lib.hid (fun u hu => mac_any k ⟨#[110, 101, 120, 116]⟩ A u hk (by decide) hA hu)
  have H2 := Lib.hid (fun u hu => mac_any k ⟨#[111, 117, 116]⟩ B u hk (by decide) hB hu)
  have HC := Lib.hid hc
  clear hA hB hc
  go_enter Tryd.func17, Tryd.ntmps17
  go_wp2_with fail
  refine (H1.out _ HC.out).mono ?_
  rintro e w1 ⟨rfl, hb1⟩
  have HB1 := Lib.hid hb1
  clear hb1
  go_wp2_with fail
  refine (H2.out _ (HC.out.below HC.out.1 HB1.out)).mono ?_
  rintro e w2 ⟨rfl, hb2⟩
  go_wp2
  go_ret2
  exact ⟨rfl, HB1.out.trans (hb2.mono HB1.out.size)⟩

theorem made_list (z : Value) (n : Nat) : (madeCells #[z] n).toList = List.replicate n z := by
  apply List.ext_getElem (by simp [madeCells])
  intro i h1 h2
  simp [madeCells, Nat.mod_one]

/-- The chain's row, its first i cells laid. -/
def chainPart (k : List UInt8) (N i : Nat) : List ByteArray := (List.range N).map fun j => if j < i then tx (mac (chainKey k j) outT) else ⟨#[]⟩
theorem chainPart_length (k : List UInt8) (N i : Nat) : (chainPart k N i).length = N := by simp [chainPart]
theorem chainPart_zero (k : List UInt8) (N : Nat) : Strs.strsV (chainPart k N 0) = List.replicate N (.string ⟨#[]⟩) := by
  apply List.ext_getElem (by simp [chainPart, Strs.strsV])
  intro i h1 h2
  simp [chainPart, Strs.strsV]
theorem chainPart_end (k : List UInt8) (N : Nat) : chainPart k N N = (chain k N).map tx := by
  apply List.ext_getElem (by simp [chainPart, chain])
  intro i h1 h2
  have hi : i < N := by simpa [chainPart] using h1
  simp [chainPart, chain, hi]
theorem chainPart_set (k : List UInt8) (N i : Nat) : (Strs.strsV (chainPart k N i)).set i (.string (tx (mac (chainKey k i) outT))) = Strs.strsV (chainPart k N (i + 1)) := by
  apply List.ext_getElem (by simp [chainPart, Strs.strsV])
  intro j h1 h2
  rw [List.getElem_set]
  by_cases e : i = j
  · subst e
    simp [chainPart, Strs.strsV]
  · have e1 : (j < i + 1) = (j < i) := by simp only [eq_iff_iff]; omega
    simp [chainPart, Strs.strsV, e, e1]

/-- How many keys are asked for, of any number. -/
def manyKeys (n : Int) : Nat := (min (max n 0) 200).toNat
theorem manyKeys_le (n : Int) : manyKeys n ≤ 200 := by unfold manyKeys; omega
theorem chainKey_size (k : List UInt8) (i M : Nat) (hk : k.length ≤ M) (h32 : 32 ≤ M) : (chainKey k i).length ≤ M := by
  cases i with
  | zero => exact hk
  | succ i => rw [chainKey, mac_length]; exact h32

set_option maxHeartbeats 1600000 in
theorem chain_any (k : ByteArray) (n : Int) (w : World) (hk : k.size ≤ 70368744177664) (hc : Consts w) :
    Calls Tryd.prog 20 #[.string k, .int .i64 n] w fun e w' => e = .returned (.slice (some ⟨w.heap.size, 0, none⟩) (manyKeys n) (manyKeys n)) ∧ Whole w' w.heap.size 9 (Strs.strsV ((chain k.data.toList (manyKeys n)).map tx)) ∧ Below w.heap.size w w' := by
  obtain ⟨N, hN⟩ : ∃ N : Nat, N = manyKeys n := ⟨_, rfl⟩
  have hN2 : N ≤ 200 := by rw [hN]; exact manyKeys_le n
  have hmin : min (max n 0) 200 = (N : Int) := by rw [hN]; unfold manyKeys; omega
  rw [← hN]
  have hmk : ∀ u : World, (Instr.makeSlice 35 (.int .i64 (N : Int)) (.int .i64 (N : Int))).run Tryd.prog u = .ok (.slice (some ⟨u.heap.size, 0, none⟩) N N) (u.alloc (.cells (madeCells #[.string ⟨#[]⟩] N) 9)) := fun u => Strs.make_str u N (by omega)
  have hW0 : Whole (w.alloc (.cells (madeCells #[.string ⟨#[]⟩] N) 9)) w.heap.size 9 (Strs.strsV (chainPart k.data.toList N 0)) := by
    have h := Whole.made' w 9 (madeCells #[.string ⟨#[]⟩] N) w.heap.size rfl
    have e : (madeCells #[.string ⟨#[]⟩] N).toList = Strs.strsV (chainPart k.data.toList N 0) := by
      rw [chainPart_zero]
      exact made_list _ _
    rw [e] at h
    exact h
  have HC := Lib.hid hc
  have HMIN := Lib.hid hmin
  have HMK := Lib.hid hmk
  have HW0 := Lib.hid hW0
  have HK := Lib.hid hk
  clear hc hN hmin hmk hW0 hk
  go_enter Tryd.func20, Tryd.ntmps20
  have hmin := HMIN.out
  have hmk := HMK.out
  go_wp2_with fail
  clear hmin hmk HMK HMIN
  go_loopw [0, 13] (fun kv i wr => ∃ q : Nat, q ≤ N ∧ i = .int .i64 q ∧ kv = .string (tx (chainKey k.data.toList q)) ∧ Whole wr w.heap.size 9 (Strs.strsV (chainPart k.data.toList N q)) ∧ Below w.heap.size w wr) (fun _ i _ => N - (intOf i).toNat)
  case atStart => exact ⟨0, by omega, rfl, rfl, HW0.out, (Below.refl _ _).alloc (Nat.le_refl _) _⟩
  case round =>
    clear HW0
    obtain ⟨q, hq, rfl, rfl, hW, hbel⟩ := hrel
    by_cases hlt : q < N
    · obtain ⟨K, hK⟩ : ∃ K, K = tx (chainKey k.data.toList q) := ⟨_, rfl⟩
      obtain ⟨A, hA⟩ : ∃ A, A = tx (mac K.data.toList nextT) := ⟨_, rfl⟩
      obtain ⟨B, hB⟩ : ∃ B, B = tx (mac K.data.toList outT) := ⟨_, rfl⟩
      have hKs : K.size ≤ 70368744177664 := by
        rw [hK]; exact chainKey_size _ _ _ HK.out (by omega)
      have hst : ∀ u, Consts u → Calls Tryd.prog 17 #[.string K] u fun e w' => e = .returned (.tuple #[.string A, .string B]) ∧ Below u.heap.size u w' := fun u hu => step_any K A B u hKs hA hB hu
      have hA2 : A = tx (chainKey k.data.toList (q + 1)) := by rw [hA, hK]; rfl
      have hB2 : B = tx (mac (chainKey k.data.toList q) outT) := by rw [hB, hK]
      have hset := chainPart_set k.data.toList N q
      rw [← hB2] at hset
      have HST := Lib.hid hst
      have HA2 := Lib.hid hA2
      have HSET := Lib.hid hset
      have HW := Lib.hid hW
      have HB := Lib.hid hbel
      clear hst hA2 hB2 hA hB hKs hset hW hbel
      rw [← hK]
      clear hK
      go_wp2_with fail
      refine (HST.out _ (HC.out.below HC.out.1 HB.out)).mono ?_
      rintro e w2 ⟨rfl, hb2⟩
      have hW2 := HW.out.below HW.out.lt hb2
      have hcell := hW2.row.cell (i := q) (v := (Strs.strsV (chainPart k.data.toList N q))[q]'(by rw [Strs.strsV_length, chainPart_length]; exact hlt)) (by simp)
      have hfree := hW2.row.free (i := q) (by rw [Strs.strsV_length, chainPart_length]; exact hlt)
      have hW3 := hW2.set q (.string B)
      rw [HSET.out] at hW3
      have HW3 := Lib.hid hW3
      have HB3 := Lib.hid ((HB.out.trans (hb2.mono HB.out.size)).setCell (p := ⟨w.heap.size, q, none⟩) (Nat.le_refl _) (.string B))
      clear hb2 hW2 hW3 HW HB
      go_wp2
      go_roundw
      case rel => exact ⟨q + 1, by omega, by go_num, by rw [HA2.out], HW3.out, HB3.out⟩
      case measure => simp [intOf]; omega
    · obtain rfl : q = N := by omega
      rw [chainPart_end] at hW
      have HW := Lib.hid hW
      clear hW
      go_wp2
      go_ret
      exact ⟨rfl, HW.out, hbel⟩
end Go.Proofs.YtleoblflhcbcbaaDoor.Ked
