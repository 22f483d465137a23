/-
  The document's own answers for a stream and a hidden text are what the plain mathematics of the text Cha says, and all memory that was there stays. No condition but those that each theorem names.
-/
import Derived.Test.YtcglobpklhkebabRefBlk
namespace Go.Proofs.Ytcglobpklhkebab.RefCha
open Go.RowKit Mur Lanes Cha
set_option maxRecDepth 100000

theorem bad_either (key nonce : ByteArray) (h : ¬ (key.size = 32 ∧ nonce.size = 12)) : ((key.size : Int) != 32) = true ∨ (((key.size : Int) != 32) = false ∧ ((nonce.size : Int) != 12) = true) := by
  by_cases e : key.size = 32
  · right
    refine ⟨by simp; omega, by simp; omega⟩
  · left
    simp; omega
set_option maxHeartbeats 800000 in
theorem stream_none (key nonce : ByteArray) (n : Int) (w : World) (h : ¬ ((key.size = 32 ∧ nonce.size = 12) ∧ 0 ≤ n ∧ n ≤ 6000)) :
    Calls Try.prog 27 #[.string key, .string nonce, .int .i64 n] w fun e w' => e = .returned (.tuple #[.string ⟨#[]⟩, .int .i64 1]) ∧ Below w.heap.size w w' := by
  have hd : ((key.size : Int) != 32) = true ∨ (((key.size : Int) != 32) = false ∧ ((nonce.size : Int) != 12) = true) ∨ (((key.size : Int) != 32) = false ∧ ((nonce.size : Int) != 12) = false ∧ decide (n < 0) = true) ∨ (((key.size : Int) != 32) = false ∧ ((nonce.size : Int) != 12) = false ∧ decide (n < 0) = false ∧ decide (6000 < n) = true) := by
    by_cases h1 : key.size = 32 ∧ nonce.size = 12
    · have k1 : ((key.size : Int) != 32) = false := by simp; omega
      have k2 : ((nonce.size : Int) != 12) = false := by simp; omega
      by_cases h2 : n < 0
      · exact .inr (.inr (.inl ⟨k1, k2, by simpa using h2⟩))
      · exact .inr (.inr (.inr ⟨k1, k2, by simpa using h2, by simp; omega⟩))
    · rcases bad_either key nonce h1 with h | h
      · exact .inl h
      · exact .inr (.inl h)
  clear h
  rcases hd with h1 | ⟨h1, h2⟩ | ⟨h1, h2, h3⟩ | ⟨h1, h2, h3, h4⟩
  all_goals
    go_enter Try.func27, Try.ntmps27
    go_wp2
    refine bodyPost_ret (v := .tuple #[.string ⟨#[]⟩, .int .i64 1]) (by simp [results, Try.results27, go_sem]) rfl ⟨rfl, Below.refl _ _⟩

/-- The bytes of the blocks below i. -/
def bytesTo (s : List Nat) (i : Nat) : List UInt8 := text (streamW s i) false
theorem bytesTo_length (s : List Nat) (i : Nat) : (bytesTo s i).length = 64 * i := by
  unfold bytesTo
  rw [text_length, streamW_length]
  omega
theorem bytesTo_succ (s : List Nat) (i : Nat) : bytesTo s (i + 1) = bytesTo s i ++ blockT s i := text_append _ _ false

set_option maxHeartbeats 1600000 in
theorem stream_some (key nonce T : ByteArray) (n : Nat) (w : World) (hk : key.size = 32) (hn : nonce.size = 12) (hlt : n ≤ 6000) (hT : T = streamB key nonce n) :
    Calls Try.prog 27 #[.string key, .string nonce, .int .i64 n] w fun e w' => e = .returned (.tuple #[.string T, .int .i64 0]) ∧ Below w.heap.size w w' := by
  obtain ⟨S, hS⟩ : ∃ S, S = stateZ key.data.toList nonce.data.toList := ⟨_, rfl⟩
  have hokS : Words16 S := by rw [hS]; exact stateW_ok hk rfl hn
  have hT2 : T = ⟨((bytesTo S (blocks n)).take n).toArray⟩ := by rw [hT, hS]; rfl
  have r1 := Lib.hid (fun (u : World) (k : Nat) (hk94 : k < 94) => RefCha.block_some key nonce ⟨(blockT S k).toArray⟩ k u hk hn (by omega) (by rw [hS]))
  have h1 : ((key.size : Int) != 32) = false := by simp; omega
  have h2 : ((nonce.size : Int) != 12) = false := by simp; omega
  have h3 : decide ((n : Int) < 0) = false := by simp
  have h4 : decide (6000 < (n : Int)) = false := by simp; omega
  have HT := Lib.hid hT2
  have HK := Lib.hid hokS
  clear hS hokS hT hT2 hk hn
  go_enter Try.func27, Try.ntmps27
  go_wp2
  clear h1 h2 h3 h4
  go_loopw [8, 9] (fun v i wr => ∃ (k : Nat) (X : ByteArray), k ≤ blocks n ∧ X.data.toList = bytesTo S k ∧ v = .string X ∧ i = .int .u32 k ∧ Below w.heap.size w wr) (fun _ i _ => blocks n - (intOf i).toNat)
  case atStart => exact ⟨0, ⟨#[]⟩, by omega, rfl, rfl, rfl, Below.refl _ _⟩
  case round =>
    obtain ⟨k, X, hkb, hX, rfl, rfl, hbel⟩ := hrel
    have hXs : X.size = 64 * k := by
      have : X.data.toList.length = 64 * k := by rw [hX, bytesTo_length]
      exact this
    have hb94 : blocks n ≤ 94 := by unfold blocks; omega
    by_cases hlk : k < blocks n
    · have hd : decide (X.size < n) = true := by
        unfold blocks at hlk
        simp
        omega
      obtain ⟨B, hB⟩ : ∃ B : ByteArray, B = ⟨(blockT S k).toArray⟩ := ⟨_, rfl⟩
      have hBs : B.size = 64 := by rw [hB]; exact blockT_length HK.out k (by omega)
      have hXB : (X ++ B).data.toList = bytesTo S (k + 1) := by
        rw [bytesTo_succ, ByteArray.data_append, Array.toList_append, hX, hB]
      have r := r1.out
      have R := Lib.hid (show ∀ u, Calls Try.prog 44 #[.string key, .int .u32 k, .string nonce] u fun e w' => e = .returned (.tuple #[.string B, .int .i64 0]) ∧ Below u.heap.size u w' from fun u => by rw [hB]; exact r u k (by omega))
      have n1 : ¬ 9223372036854775807 < X.size + B.size := by omega
      have k1 : k < 94 := by omega
      have HXB := Lib.hid hXB
      have HBEL := Lib.hid hbel
      clear hX hXs hB hBs hXB r hbel
      go_wp2_with fail
      refine (R.out _).mono ?_
      rintro e w1 ⟨rfl, hb1⟩
      have HB1 := Lib.hid (HBEL.out.trans (hb1.mono HBEL.out.size))
      clear hb1
      go_wp2
      go_roundw
      case rel => exact ⟨k + 1, X ++ B, by omega, HXB.out, rfl, by go_num, HB1.out⟩
      case measure => simp [intOf]; omega
    · obtain rfl : k = blocks n := by omega
      have hnX : n ≤ X.size := by rw [hXs]; unfold blocks; omega
      have hd : decide (X.size < n) = false := by simp; omega
      have hi1 : (n : Int) ≤ (X.size : Int) := by omega
      have hi0 : (0 : Int) ≤ (n : Int) := by omega
      have hTX : T = X.extract 0 n := by
        rw [HT.out]
        apply ByteArray.ext
        apply Array.toList_inj.1
        rw [extract_take, hX]
      have HTX := Lib.hid hTX
      have HBEL := Lib.hid hbel
      clear hX hXs hnX hTX hbel HT
      go_wp2
      rw [HTX.out]
      refine bodyPost_ret (v := .tuple #[.string (X.extract 0 n), .int .i64 0]) (by simp [results, Try.results27, go_sem]) rfl ⟨rfl, HBEL.out⟩

theorem hidB_zero (key nonce s : ByteArray) : hidB key nonce s 0 = LanesXor.xorS s (streamB key nonce s.size) := by
  unfold hidB
  have e : (streamB key nonce (0 + s.size)).extract 0 (0 + s.size) = streamB key nonce s.size := by
    rw [Nat.zero_add]
    exact streamB_take key nonce s.size s.size (Nat.le_refl _)
  rw [e]
end Go.Proofs.Ytcglobpklhkebab.RefCha
