/-
  The document's own answers for Mac and Extract of layer 3 answer what the plain mathematics of the text Ked says, and leave all memory that was there as it was. Conditions: key and text have no more than 900000 bytes.
-/
import Derived.Test.YtleoblflhcbcbaaDoorRefOf
import Derived.Test.YtleoblflhcbcbaaDoorKedMac
namespace Go.Proofs.YtleoblflhcbcbaaDoor.RefKed
open Go.RowKit Mur Sha Ked

/-- The bytes of b, those below k turned by x. -/
def paintPart (b : List UInt8) (x : UInt8) (k : Nat) : List UInt8 := (List.range b.length).map fun i => if i < k then b.getD i 0 ^^^ x else b.getD i 0
theorem paintPart_length (b : List UInt8) (x : UInt8) (k : Nat) : (paintPart b x k).length = b.length := by simp [paintPart]
theorem paintPart_zero (b : List UInt8) (x : UInt8) : paintPart b x 0 = b := by
  apply List.ext_getElem (by simp [paintPart])
  intro i h1 h2
  simp [paintPart, List.getD, h2]
theorem paintPart_end (b : List UInt8) (x : UInt8) : paintPart b x b.length = b.map (· ^^^ x) := by
  apply List.ext_getElem (by simp [paintPart])
  intro i h1 h2
  have hi : i < b.length := by simpa [paintPart] using h1
  simp [paintPart, List.getD, hi]
theorem paintPart_succ (b : List UInt8) (x : UInt8) (k : Nat) (hk : k < b.length) : (paintPart b x k).set k ((paintPart b x k)[k]'(by rw [paintPart_length]; exact hk) ^^^ x) = paintPart b x (k + 1) := by
  apply List.ext_getElem (by simp [paintPart])
  intro i h1 h2
  rw [List.getElem_set]
  by_cases e : k = i
  · subst e
    simp [paintPart]
  · have e1 : (i < k + 1) = (i < k) := by simp only [eq_iff_iff]; omega
    simp [paintPart, e, e1]

set_option maxHeartbeats 800000 in
theorem painted_any (b P : ByteArray) (x : UInt8) (w : World) (hb : b.size ≤ 140737488351232) (hP : P = tx (b.data.toList.map (· ^^^ x))) :
    Calls Tryd.prog 30 #[.string b, .int .u8 (x.toNat : Int)] w fun e w' => e = .returned (.string P) ∧ Below w.heap.size w w' := by
  have hconv := conv_row (P := Tryd.prog) w 9 43 5 b Tryd.underlying9 Tryd.underlying43 Tryd.underlying5
  obtain ⟨cap, w1, hcap, hconv, hrow, hbel⟩ := hconv
  have HP := Lib.hid hP
  clear hP
  go_enter Tryd.func30, Tryd.ntmps30
  go_wp2
  clear hconv
  go_loopw [11] (fun i wr => ∃ k : Nat, k ≤ b.size ∧ i = .int .i64 k ∧ Row wr w.heap.size (bytesV (paintPart b.data.toList x k)) ∧ Below w.heap.size w wr) (fun i _ => b.size - (intOf i).toNat)
  case atStart => exact ⟨0, Nat.zero_le _, rfl, by rw [paintPart_zero]; exact hrow, hbel⟩
  case round =>
    obtain ⟨k, hk, rfl, hrow, hbel⟩ := hrel
    by_cases hlt : k < b.size
    · have hc := hrow.cell (i := k) (bytesV_at (by rw [paintPart_length]; exact hlt))
      have hf := hrow.free (i := k) (by rw [bytesV_length, paintPart_length]; exact hlt)
      have hs := paintPart_succ b.data.toList x k hlt
      have hset := hrow.set k (u8 ((paintPart b.data.toList x k)[k]'(by rw [paintPart_length]; exact hlt) ^^^ x))
      rw [bytesV_set, hs] at hset
      have HS := Lib.hid hset
      have HW := Lib.hid hbel
      clear hs hset hrow hbel
      go_wp2
      go_roundw
      case rel => exact ⟨k + 1, by omega, by go_num, by rw [xor_u8]; exact HS.out, HW.out.setCell (p := ⟨w.heap.size, k, none⟩) (Nat.le_refl _) _⟩
      case measure => simp [intOf]; omega
    · obtain rfl : k = b.size := by omega
      have hrow2 : Row wr w.heap.size (bytesV (b.data.toList.map (· ^^^ x))) := by rw [← paintPart_end]; exact hrow
      have hback := string_row (P := Tryd.prog) hrow2 43 5 9 Tryd.underlying43 Tryd.underlying5 Tryd.underlying9 b.size cap (by simp)
      clear hrow hrow2
      go_wp2
      go_ret
      exact ⟨by rw [HP.out]; rfl, hbel⟩

/-- The key's block, filled up. -/
def boxL (k : List UInt8) : List UInt8 := short k ++ List.replicate (64 - (short k).length) 0
theorem boxL_length (k : List UInt8) : (boxL k).length = 64 := by
  have := short_length k
  simp [boxL]; omega

set_option maxHeartbeats 1600000 in
theorem box_any (k B : ByteArray) (w : World) (hk : k.size ≤ 1000000) (hB : B = tx (boxL k.data.toList)) :
    Calls Tryd.prog 28 #[.string k] w fun e w' => e = .returned (.string B) ∧ Below w.heap.size w w' := by
  obtain ⟨K, hK⟩ : ∃ K, K = tx (short k.data.toList) := ⟨_, rfl⟩
  have hKs : K.size ≤ 64 := by rw [hK]; exact short_length _
  obtain ⟨F, hF⟩ : ∃ F : Nat, F = 64 - K.size := ⟨_, rfl⟩
  have hFi : (64 : Int) - (K.size : Int) = (F : Int) := by omega
  obtain ⟨Z, hZ⟩ : ∃ Z : ByteArray, Z = ⟨(List.replicate F (0 : UInt8)).toArray⟩ := ⟨_, rfl⟩
  have hZs : Z.size = F := by rw [hZ]; show (List.replicate F (0 : UInt8)).length = F; simp
  have hKZ : K ++ Z = B := by
    apply ByteArray.ext
    apply Array.toList_inj.mp
    rw [ByteArray.data_append, Array.toList_append, hZ, hB, hF, hK]
    rfl
  have hmk : ∀ u : World, (Instr.makeSlice 43 (.int .i64 (F : Int)) (.int .i64 (F : Int))).run Tryd.prog u = .ok (.slice (some ⟨u.heap.size, 0, none⟩) F F) (u.alloc (.cells (madeCells #[.int .u8 0] F) 5)) := fun u => Lanes.make_u8 u F (by omega)
  have hcv : ∀ u : World, (convert 43 9 (.slice (some ⟨u.heap.size, 0, none⟩) F F)).run Tryd.prog (u.alloc (.cells (madeCells #[.int .u8 0] F) 5)) = .ok (.string Z) (u.alloc (.cells (madeCells #[.int .u8 0] F) 5)) := fun u => by
    rw [hZ]
    exact string_row (P := Tryd.prog) (RefSha.made_bytes u F) 43 5 9 Tryd.underlying43 Tryd.underlying5 Tryd.underlying9 F F (by simp)
  have n1 : ¬ 9223372036854775807 < K.size + Z.size := by omega
  have f0 : 0 ≤ (F : Int) := by omega
  have hdig : 64 < k.size → ∀ u, Calls Tryd.prog 29 #[.string k] u fun e w' => e = .returned (.string K) ∧ Below u.heap.size u w' := fun h u => by
    have := RefSha.of_any k u hk
    have e : K = tx (sha k.data.toList) := by rw [hK, short, if_pos (by exact h)]
    rw [e]; exact this
  have hsame : ¬ 64 < k.size → k = K := fun h => by rw [hK, short_of_le _ (by have : k.data.toList.length = k.size := rfl; omega)]
  have HKZ := Lib.hid hKZ
  have HMK := Lib.hid hmk
  have HCV := Lib.hid hcv
  have HFI := Lib.hid hFi
  clear hF hZ hZs hKZ hmk hcv hK hB hFi
  by_cases hlt : 64 < k.size
  · have hd : decide (64 < (k.size : Int)) = true := by simp; omega
    have HD := Lib.hid (hdig hlt)
    clear hdig hsame
    go_enter Tryd.func28, Tryd.ntmps28
    go_wp2_with fail
    refine (HD.out _).mono ?_
    rintro e w1 ⟨rfl, hb1⟩
    have HB1 := Lib.hid (hb1.alloc hb1.size (.cells (madeCells #[.int .u8 0] F) 5))
    clear hb1
    have hmk := HMK.out w1
    have hcv := HCV.out w1
    have hFi := HFI.out
    go_wp2
    go_ret
    exact ⟨by rw [← HKZ.out]; rfl, HB1.out⟩
  · have hd : decide (64 < (k.size : Int)) = false := by simp; omega
    obtain rfl := hsame hlt
    clear hdig hsame
    have hmk := HMK.out w
    have hcv := HCV.out w
    have hFi := HFI.out
    go_enter Tryd.func28, Tryd.ntmps28
    go_wp2
    go_ret
    exact ⟨by rw [← HKZ.out]; rfl, (Below.refl _ _).alloc (Nat.le_refl _) _⟩

set_option maxHeartbeats 1600000 in
theorem mac_any (k s M : ByteArray) (w : World) (hk : k.size ≤ 900000) (hs : s.size ≤ 900000) (hM : M = tx (mac k.data.toList s.data.toList)) :
    Calls Tryd.prog 9 #[.string k, .string s] w fun e w' => e = .returned (.string M) ∧ Below w.heap.size w w' := by
  obtain ⟨B, hB⟩ : ∃ B, B = tx (boxL k.data.toList) := ⟨_, rfl⟩
  have hBs : B.size = 64 := by rw [hB]; exact boxL_length _
  obtain ⟨P, hP⟩ : ∃ P, P = tx (pad k.data.toList 92) := ⟨_, rfl⟩
  obtain ⟨R, hR⟩ : ∃ R, R = tx (pad k.data.toList 54) := ⟨_, rfl⟩
  have hP2 : P = tx (B.data.toList.map (· ^^^ 92)) := by rw [hP, pad_ref, hB]; rfl
  have hR2 : R = tx (B.data.toList.map (· ^^^ 54)) := by rw [hR, pad_ref, hB]; rfl
  have hPs : P.size = 64 := by rw [hP]; exact pad_length _ _
  have hRs : R.size = 64 := by rw [hR]; exact pad_length _ _
  obtain ⟨D, hD⟩ : ∃ D, D = tx (sha (R ++ s).data.toList) := ⟨_, rfl⟩
  have hDs : D.size = 32 := by rw [hD]; exact sha_length _
  have hM2 : M = tx (sha (P ++ D).data.toList) := by
    rw [hM, mac, ByteArray.data_append, Array.toList_append, hP, hD, ByteArray.data_append, Array.toList_append, hR]
  have h0 := Lib.hid (fun u => box_any k B u (by omega) hB)
  have h1 := Lib.hid (show ∀ u, Calls Tryd.prog 30 #[.string B, .int .u8 92] u fun e w' => e = .returned (.string P) ∧ Below u.heap.size u w' from fun u => painted_any B P 92 u (by omega) hP2)
  have h2 := Lib.hid (show ∀ u, Calls Tryd.prog 30 #[.string B, .int .u8 54] u fun e w' => e = .returned (.string R) ∧ Below u.heap.size u w' from fun u => painted_any B R 54 u (by omega) hR2)
  have hRS : (R ++ s).size = R.size + s.size := ByteArray.size_append
  have hPD : (P ++ D).size = P.size + D.size := ByteArray.size_append
  have h3 := Lib.hid (show ∀ u, Calls Tryd.prog 29 #[.string (R ++ s)] u fun e w' => e = .returned (.string D) ∧ Below u.heap.size u w' from fun u => by rw [hD]; exact RefSha.of_any (R ++ s) u (by omega))
  have h4 := Lib.hid (show ∀ u, Calls Tryd.prog 29 #[.string (P ++ D)] u fun e w' => e = .returned (.string M) ∧ Below u.heap.size u w' from fun u => by rw [hM2]; exact RefSha.of_any (P ++ D) u (by omega))
  have n1 : ¬ 9223372036854775807 < R.size + s.size := by omega
  have n2 : ¬ 9223372036854775807 < P.size + D.size := by omega
  clear hM hM2 hD hP hR hP2 hR2 hPs hRs hDs hB hBs hRS hPD
  go_enter Tryd.func9, Tryd.ntmps9
  go_wp2_with fail
  refine (h0.out _).mono ?_
  rintro e w1 ⟨rfl, hb1⟩
  have HB1 := Lib.hid hb1
  clear hb1
  go_wp2_with fail
  refine (h1.out _).mono ?_
  rintro e w2 ⟨rfl, hb2⟩
  have HB2 := Lib.hid (HB1.out.trans (hb2.mono HB1.out.size))
  clear hb2 HB1
  go_wp2_with fail
  refine (h2.out _).mono ?_
  rintro e w3 ⟨rfl, hb3⟩
  have HB3 := Lib.hid (HB2.out.trans (hb3.mono HB2.out.size))
  clear hb3 HB2
  go_wp2_with fail
  refine (h3.out _).mono ?_
  rintro e w4 ⟨rfl, hb4⟩
  have HB4 := Lib.hid (HB3.out.trans (hb4.mono HB3.out.size))
  clear hb4 HB3
  go_wp2_with fail
  refine (h4.out _).mono ?_
  rintro e w5 ⟨rfl, hb5⟩
  have HB5 := Lib.hid (HB4.out.trans (hb5.mono HB4.out.size))
  clear hb5 HB4
  go_wp2
  go_ret
  exact ⟨rfl, HB5.out⟩

set_option maxHeartbeats 400000 in
theorem extract_any (k s M : ByteArray) (w : World) (hk : k.size ≤ 900000) (hs : s.size ≤ 900000) (hM : M = tx (mac k.data.toList s.data.toList)) :
    Calls Tryd.prog 11 #[.string k, .string s] w fun e w' => e = .returned (.string M) ∧ Below w.heap.size w w' := by
  have HM := Lib.hid (fun u => mac_any k s M u hk hs hM)
  clear hM
  go_enter Tryd.func11, Tryd.ntmps11
  go_wp2_with fail
  refine (HM.out _).mono ?_
  rintro e w1 ⟨rfl, hb1⟩
  go_wp2
  go_ret
  exact ⟨rfl, hb1⟩
end Go.Proofs.YtleoblflhcbcbaaDoor.RefKed
