/-
  Several texts as one (RefKed, RefKedExp). The document's own answers for Mac and Extract of layer 3 answer what the plain mathematics of the text Ked says, and leave all memory that was there as it was. Conditions: key and text have no more than 900000 bytes. The document's own answers for Expand and Derive of layer 3 answer what the plain mathematics of the text Ked says, and leave all memory that was there as it was. Conditions: key, info and the parts together have no more than 400000 bytes.
-/
import Derived.Test.YtedgpglldlohfaaGreatDoorMRDig
import Derived.Test.YtedgpglldlohfaaGreatDoorMKed
namespace Go.Proofs.YtedgpglldlohfaaGreatDoor.RefKed
open Go.RowKit Mur Sha Ked

/-- The bytes of b, those below k turned by x. -/
def paintPart (b : List UInt8) (x : UInt8) (k : Nat) : List UInt8 := (List.range b.length).map fun i => if i < k then b.getD i 0 ^^^ x else b.getD i 0
theorem paintPart_length (b : List UInt8) (x : UInt8) (k : Nat) : (paintPart b x k).length = b.length := by simp [paintPart]
theorem paintPart_zero (b : List UInt8) (x : UInt8) : paintPart b x 0 = b := by
  apply List.ext_getElem (by simp [paintPart])
  intro i h1 h2
  simp [paintPart, List.getD, h2]
theorem paintPart_end (b : List UInt8) (x : UInt8) : paintPart b x b.length = b.map (· ^^^ x) := by
  apply List.ext_getElem (by simp [paintPart])
  intro i h1 h2
  have hi : i < b.length := by simpa [paintPart] using h1
  simp [paintPart, List.getD, hi]
theorem paintPart_succ (b : List UInt8) (x : UInt8) (k : Nat) (hk : k < b.length) : (paintPart b x k).set k ((paintPart b x k)[k]'(by rw [paintPart_length]; exact hk) ^^^ x) = paintPart b x (k + 1) := by
  apply List.ext_getElem (by simp [paintPart])
  intro i h1 h2
  rw [List.getElem_set]
  by_cases e : k = i
  · subst e
    simp [paintPart]
  · have e1 : (i < k + 1) = (i < k) := by simp only [eq_iff_iff]; omega
    simp [paintPart, e, e1]

set_option maxHeartbeats 800000 in
theorem painted_any (b P : ByteArray) (x : UInt8) (w : World) (hb : b.size ≤ 140737488351232) (hP : P = tx (b.data.toList.map (· ^^^ x))) :
    Calls Tryz.prog 82 #[.string b, .int .u8 (x.toNat : Int)] w fun e w' => e = .returned (.string P) ∧ Below w.heap.size w w' := by
  have hconv := conv_row (P := Tryz.prog) w 9 49 5 b Tryz.underlying9 Tryz.underlying49 Tryz.underlying5
  obtain ⟨cap, w1, hcap, hconv, hrow, hbel⟩ := hconv
  have HP := Lib.hid hP
  clear hP
  go_enter Tryz.func82, Tryz.ntmps82
  go_wp2
  clear hconv
  go_loopw [11] (fun i wr => ∃ k : Nat, k ≤ b.size ∧ i = .int .i64 k ∧ Row wr w.heap.size (bytesV (paintPart b.data.toList x k)) ∧ Below w.heap.size w wr) (fun i _ => b.size - (intOf i).toNat)
  case atStart => exact ⟨0, Nat.zero_le _, rfl, by rw [paintPart_zero]; exact hrow, hbel⟩
  case round =>
    obtain ⟨k, hk, rfl, hrow, hbel⟩ := hrel
    by_cases hlt : k < b.size
    · have hc := hrow.cell (i := k) (bytesV_at (by rw [paintPart_length]; exact hlt))
      have hf := hrow.free (i := k) (by rw [bytesV_length, paintPart_length]; exact hlt)
      have hs := paintPart_succ b.data.toList x k hlt
      have hset := hrow.set k (u8 ((paintPart b.data.toList x k)[k]'(by rw [paintPart_length]; exact hlt) ^^^ x))
      rw [bytesV_set, hs] at hset
      have HS := Lib.hid hset
      have HW := Lib.hid hbel
      clear hs hset hrow hbel
      go_wp2
      go_roundw
      case rel => exact ⟨k + 1, by omega, by go_num, by rw [xor_u8]; exact HS.out, HW.out.setCell (p := ⟨w.heap.size, k, none⟩) (Nat.le_refl _) _⟩
      case measure => simp [intOf]; omega
    · obtain rfl : k = b.size := by omega
      have hrow2 : Row wr w.heap.size (bytesV (b.data.toList.map (· ^^^ x))) := by rw [← paintPart_end]; exact hrow
      have hback := string_row (P := Tryz.prog) hrow2 49 5 9 Tryz.underlying49 Tryz.underlying5 Tryz.underlying9 b.size cap (by simp)
      clear hrow hrow2
      go_wp2
      go_ret
      exact ⟨by rw [HP.out]; rfl, hbel⟩

/-- The key's block, filled up. -/
def boxL (k : List UInt8) : List UInt8 := short k ++ List.replicate (64 - (short k).length) 0
theorem boxL_length (k : List UInt8) : (boxL k).length = 64 := by
  have := short_length k
  simp [boxL]; omega

set_option maxHeartbeats 1600000 in
theorem box_any (k B : ByteArray) (w : World) (hk : k.size ≤ 1000000) (hB : B = tx (boxL k.data.toList)) :
    Calls Tryz.prog 80 #[.string k] w fun e w' => e = .returned (.string B) ∧ Below w.heap.size w w' := by
  obtain ⟨K, hK⟩ : ∃ K, K = tx (short k.data.toList) := ⟨_, rfl⟩
  have hKs : K.size ≤ 64 := by rw [hK]; exact short_length _
  obtain ⟨F, hF⟩ : ∃ F : Nat, F = 64 - K.size := ⟨_, rfl⟩
  have hFi : (64 : Int) - (K.size : Int) = (F : Int) := by omega
  obtain ⟨Z, hZ⟩ : ∃ Z : ByteArray, Z = ⟨(List.replicate F (0 : UInt8)).toArray⟩ := ⟨_, rfl⟩
  have hZs : Z.size = F := by rw [hZ]; show (List.replicate F (0 : UInt8)).length = F; simp
  have hKZ : K ++ Z = B := by
    apply ByteArray.ext
    apply Array.toList_inj.mp
    rw [ByteArray.data_append, Array.toList_append, hZ, hB, hF, hK]
    rfl
  have hmk : ∀ u : World, (Instr.makeSlice 49 (.int .i64 (F : Int)) (.int .i64 (F : Int))).run Tryz.prog u = .ok (.slice (some ⟨u.heap.size, 0, none⟩) F F) (u.alloc (.cells (madeCells #[.int .u8 0] F) 5)) := fun u => Lanes.make_u8 u F (by omega)
  have hcv : ∀ u : World, (convert 49 9 (.slice (some ⟨u.heap.size, 0, none⟩) F F)).run Tryz.prog (u.alloc (.cells (madeCells #[.int .u8 0] F) 5)) = .ok (.string Z) (u.alloc (.cells (madeCells #[.int .u8 0] F) 5)) := fun u => by
    rw [hZ]
    exact string_row (P := Tryz.prog) (RefSha.made_bytes u F) 49 5 9 Tryz.underlying49 Tryz.underlying5 Tryz.underlying9 F F (by simp)
  have n1 : ¬ 9223372036854775807 < K.size + Z.size := by omega
  have f0 : 0 ≤ (F : Int) := by omega
  have hdig : 64 < k.size → ∀ u, Calls Tryz.prog 81 #[.string k] u fun e w' => e = .returned (.string K) ∧ Below u.heap.size u w' := fun h u => by
    have := RefSha.of_any k u hk
    have e : K = tx (sha k.data.toList) := by rw [hK, short, if_pos (by exact h)]
    rw [e]; exact this
  have hsame : ¬ 64 < k.size → k = K := fun h => by rw [hK, short_of_le _ (by have : k.data.toList.length = k.size := rfl; omega)]
  have HKZ := Lib.hid hKZ
  have HMK := Lib.hid hmk
  have HCV := Lib.hid hcv
  have HFI := Lib.hid hFi
  clear hF hZ hZs hKZ hmk hcv hK hB hFi
  by_cases hlt : 64 < k.size
  · have hd : decide (64 < (k.size : Int)) = true := by simp; omega
    have HD := Lib.hid (hdig hlt)
    clear hdig hsame
    go_enter Tryz.func80, Tryz.ntmps80
    go_wp2_with fail
    refine (HD.out _).mono ?_
    rintro e w1 ⟨rfl, hb1⟩
    have HB1 := Lib.hid (hb1.alloc hb1.size (.cells (madeCells #[.int .u8 0] F) 5))
    clear hb1
    have hmk := HMK.out w1
    have hcv := HCV.out w1
    have hFi := HFI.out
    go_wp2
    go_ret
    exact ⟨by rw [← HKZ.out]; rfl, HB1.out⟩
  · have hd : decide (64 < (k.size : Int)) = false := by simp; omega
    obtain rfl := hsame hlt
    clear hdig hsame
    have hmk := HMK.out w
    have hcv := HCV.out w
    have hFi := HFI.out
    go_enter Tryz.func80, Tryz.ntmps80
    go_wp2
    go_ret
    exact ⟨by rw [← HKZ.out]; rfl, (Below.refl _ _).alloc (Nat.le_refl _) _⟩

set_option maxHeartbeats 1600000 in
theorem mac_any (k s M : ByteArray) (w : World) (hk : k.size ≤ 900000) (hs : s.size ≤ 900000) (hM : M = tx (mac k.data.toList s.data.toList)) :
    Calls Tryz.prog 64 #[.string k, .string s] w fun e w' => e = .returned (.string M) ∧ Below w.heap.size w w' := by
  obtain ⟨B, hB⟩ : ∃ B, B = tx (boxL k.data.toList) := ⟨_, rfl⟩
  have hBs : B.size = 64 := by rw [hB]; exact boxL_length _
  obtain ⟨P, hP⟩ : ∃ P, P = tx (pad k.data.toList 92) := ⟨_, rfl⟩
  obtain ⟨R, hR⟩ : ∃ R, R = tx (pad k.data.toList 54) := ⟨_, rfl⟩
  have hP2 : P = tx (B.data.toList.map (· ^^^ 92)) := by rw [hP, pad_ref, hB]; rfl
  have hR2 : R = tx (B.data.toList.map (· ^^^ 54)) := by rw [hR, pad_ref, hB]; rfl
  have hPs : P.size = 64 := by rw [hP]; exact pad_length _ _
  have hRs : R.size = 64 := by rw [hR]; exact pad_length _ _
  obtain ⟨D, hD⟩ : ∃ D, D = tx (sha (R ++ s).data.toList) := ⟨_, rfl⟩
  have hDs : D.size = 32 := by rw [hD]; exact sha_length _
  have hM2 : M = tx (sha (P ++ D).data.toList) := by
    rw [hM, mac, ByteArray.data_append, Array.toList_append, hP, hD, ByteArray.data_append, Array.toList_append, hR]
  have h0 := Lib.hid (fun u => box_any k B u (by omega) hB)
  have h1 := Lib.hid (show ∀ u, Calls Tryz.prog 82 #[.string B, .int .u8 92] u fun e w' => e = .returned (.string P) ∧ Below u.heap.size u w' from fun u => painted_any B P 92 u (by omega) hP2)
  have h2 := Lib.hid (show ∀ u, Calls Tryz.prog 82 #[.string B, .int .u8 54] u fun e w' => e = .returned (.string R) ∧ Below u.heap.size u w' from fun u => painted_any B R 54 u (by omega) hR2)
  have hRS : (R ++ s).size = R.size + s.size := ByteArray.size_append
  have hPD : (P ++ D).size = P.size + D.size := ByteArray.size_append
  have h3 := Lib.hid (show ∀ u, Calls Tryz.prog 81 #[.string (R ++ s)] u fun e w' => e = .returned (.string D) ∧ Below u.heap.size u w' from fun u => by rw [hD]; exact RefSha.of_any (R ++ s) u (by omega))
  have h4 := Lib.hid (show ∀ u, Calls Tryz.prog 81 #[.string (P ++ D)] u fun e w' => e = .returned (.string M) ∧ Below u.heap.size u w' from fun u => by rw [hM2]; exact RefSha.of_any (P ++ D) u (by omega))
  have n1 : ¬ 9223372036854775807 < R.size + s.size := by omega
  have n2 : ¬ 9223372036854775807 < P.size + D.size := by omega
  clear hM hM2 hD hP hR hP2 hR2 hPs hRs hDs hB hBs hRS hPD
  go_enter Tryz.func64, Tryz.ntmps64
  go_wp2_with fail
  refine (h0.out _).mono ?_
  rintro e w1 ⟨rfl, hb1⟩
  have HB1 := Lib.hid hb1
  clear hb1
  go_wp2_with fail
  refine (h1.out _).mono ?_
  rintro e w2 ⟨rfl, hb2⟩
  have HB2 := Lib.hid (HB1.out.trans (hb2.mono HB1.out.size))
  clear hb2 HB1
  go_wp2_with fail
  refine (h2.out _).mono ?_
  rintro e w3 ⟨rfl, hb3⟩
  have HB3 := Lib.hid (HB2.out.trans (hb3.mono HB2.out.size))
  clear hb3 HB2
  go_wp2_with fail
  refine (h3.out _).mono ?_
  rintro e w4 ⟨rfl, hb4⟩
  have HB4 := Lib.hid (HB3.out.trans (hb4.mono HB3.out.size))
  clear hb4 HB3
  go_wp2_with fail
  refine (h4.out _).mono ?_
  rintro e w5 ⟨rfl, hb5⟩
  have HB5 := Lib.hid (HB4.out.trans (hb5.mono HB4.out.size))
  clear hb5 HB4
  go_wp2
  go_ret
  exact ⟨rfl, HB5.out⟩

set_option maxHeartbeats 400000 in
theorem extract_any (k s M : ByteArray) (w : World) (hk : k.size ≤ 900000) (hs : s.size ≤ 900000) (hM : M = tx (mac k.data.toList s.data.toList)) :
    Calls Tryz.prog 48 #[.string k, .string s] w fun e w' => e = .returned (.string M) ∧ Below w.heap.size w w' := by
  have HM := Lib.hid (fun u => mac_any k s M u hk hs hM)
  clear hM
  go_enter Tryz.func48, Tryz.ntmps48
  go_wp2_with fail
  refine (HM.out _).mono ?_
  rintro e w1 ⟨rfl, hb1⟩
  go_wp2
  go_ret
  exact ⟨rfl, hb1⟩
end Go.Proofs.YtedgpglldlohfaaGreatDoor.RefKed

namespace Go.Proofs.YtedgpglldlohfaaGreatDoor.RefKed
open Go.RowKit Mur Sha Ked

theorem one_byte (w : World) (q : Nat) (hq : q ≤ 255) : Row (w.alloc (.cells #[.int .u8 (q : Int)] 5)) w.heap.size (bytesV [UInt8.ofNat q]) := by
  refine ⟨by simp, fun i v hv => ?_⟩
  match i, hv with
  | 0, hv =>
    have e : (UInt8.ofNat q).toNat = q := by simp; omega
    have hv' : v = .int .u8 (q : Int) := by
      have : some (Value.int .u8 ((UInt8.ofNat q).toNat : Int)) = some v := hv
      rw [e] at this
      exact (Option.some.inj this).symm
    subst hv'
    exact ⟨by simp [World.cell?_alloc_new], by simp⟩

set_option maxHeartbeats 1600000 in
theorem expand_any (k info X : ByteArray) (n : Int) (w : World) (hk : k.size ≤ 400000) (hi : info.size ≤ 400000) (hX : X = tx (expand k.data.toList info.data.toList (many n))) :
    Calls Tryz.prog 47 #[.string k, .string info, .int .i64 n] w fun e w' => e = .returned (.string X) ∧ Below w.heap.size w w' := by
  have HX := Lib.hid hX
  clear hX
  go_enter Tryz.func47, Tryz.ntmps47
  go_wp2_with fail
  go_loopw [7, 8, 9] (fun o a i wr => ∃ (q : Nat) (O A : ByteArray), q ≤ 255 ∧ A.size ≤ 32 ∧ (q = 0 ∨ 32 * ((q : Int) - 1) < n) ∧ i = .int .i64 ((q : Int) + 1) ∧ o = .string O ∧ a = .string A ∧ A.data.toList = text k.data.toList info.data.toList q ∧ O.data.toList = all k.data.toList info.data.toList q ∧ Below w.heap.size w wr) (fun _ _ i _ => 257 - (intOf i).toNat)
  case atStart => exact ⟨0, ⟨#[]⟩, ⟨#[]⟩, by omega, by decide, .inl rfl, rfl, rfl, rfl, rfl, rfl, Below.refl _ _⟩
  case round =>
    obtain ⟨q, O, A, hq, hA32, hqn, rfl, rfl, rfl, hA, hO, hbel⟩ := hrel
    have hOs : O.size = 32 * q := by
      have : O.data.toList.length = O.size := rfl
      rw [← this, hO, all_length]
    by_cases hlt : 32 * (q : Int) < n ∧ q < 255
    · have hd1 : decide ((O.size : Int) < n) = true := by simp; omega
      have hd2 : decide ((q : Int) + 1 < 256) = true := by simp; omega
      obtain ⟨c, hc⟩ : ∃ c, c = UInt8.ofNat (q + 1) := ⟨_, rfl⟩
      obtain ⟨Y, hY⟩ : ∃ Y : ByteArray, Y = A ++ info ++ ⟨#[c]⟩ := ⟨_, rfl⟩
      have hYs : Y.size = A.size + info.size + 1 := by rw [hY]; simp only [ByteArray.size_append]; rfl
      obtain ⟨T, hT⟩ : ∃ T : ByteArray, T = tx (mac k.data.toList Y.data.toList) := ⟨_, rfl⟩
      have hTs : T.size = 32 := by rw [hT]; exact mac_length _ _
      have hTt : T.data.toList = text k.data.toList info.data.toList (q + 1) := by
        rw [hT, text, ← hA, hY, hc]
        simp only [ByteArray.data_append, Array.toList_append]
      have hOT : (O ++ T).data.toList = all k.data.toList info.data.toList (q + 1) := by
        rw [ByteArray.data_append, Array.toList_append, hO, hTt]; rfl
      have hm := Lib.hid (fun u => mac_any k Y T u (by omega) (by omega) hT)
      have hw8 : IntKind.u8.wrap ((q : Int) + 1) = ((q + 1 : Nat) : Int) := by rw [IntKind.wrap_u8]; omega
      have hcv : ∀ u : World, (convert 49 9 (.slice (some ⟨u.heap.size, 0, none⟩) 1 1)).run Tryz.prog (u.alloc (.cells #[.int .u8 ((q : Int) + 1)] 5)) = .ok (.string ⟨#[c]⟩) (u.alloc (.cells #[.int .u8 ((q : Int) + 1)] 5)) := fun u => by
        rw [hc]
        have := string_row (P := Tryz.prog) (one_byte u (q + 1) (by omega)) 49 5 9 Tryz.underlying49 Tryz.underlying5 Tryz.underlying9 1 1 (by simp)
        exact this
      have n1 : ¬ 9223372036854775807 < A.size + info.size := by omega
      have n2 : ¬ 9223372036854775807 < A.size + info.size + 1 := by omega
      have n3 : ¬ 9223372036854775807 < O.size + T.size := by omega
      have hw8' : ((q : Int) + 1) % 256 = (q : Int) + 1 := by omega
      have HY := Lib.hid hY
      have HTT := Lib.hid hTt
      have HOT := Lib.hid hOT
      have HTS := Lib.hid hTs
      have HW := Lib.hid hbel
      have hcv' := hcv wr
      clear hYs hTs hT hTt hOT hY hA hO hOs hbel hw8 hcv hc
      go_wp2_with fail
      rw [← HY.out]
      refine (hm.out _).mono ?_
      rintro e w2 ⟨rfl, hb2⟩
      have HW2 := Lib.hid ((HW.out.alloc HW.out.size (.cells #[.int .u8 ((q : Int) + 1)] 5)).trans (hb2.mono (HW.out.alloc HW.out.size _).size))
      clear hb2 HW hcv' hw8'
      go_wp2
      go_roundw
      case rel => exact ⟨q + 1, O ++ T, T, by omega, by rw [HTS.out]; omega, .inr (by omega), by go_num, rfl, rfl, HTT.out, HOT.out, HW2.out⟩
      case measure => simp [intOf]; omega
    · obtain ⟨N, hN⟩ : ∃ N : Nat, N = many n := ⟨_, rfl⟩
      have hNO : N ≤ O.size := by rw [hN]; unfold many; omega
      have hmm : max 0 (min n (O.size : Int)) = (N : Int) := by rw [hN]; unfold many; omega
      have hend : O.extract 0 N = X := by
        have e2 : expand k.data.toList info.data.toList N = (all k.data.toList info.data.toList q).take N := expand_of _ _ q N hq (by omega)
        rw [HX.out, ← hN, e2]
        apply ByteArray.ext
        apply Array.toList_inj.mp
        rw [extract_take, hO]
      have hNi : (N : Int) ≤ (O.size : Int) := by omega
      have HMM := Lib.hid hmm
      have HEND := Lib.hid hend
      have HW := Lib.hid hbel
      by_cases h1 : 32 * (q : Int) < n
      · have hd1 : decide ((O.size : Int) < n) = true := by simp; omega
        have hd2 : decide ((q : Int) + 1 < 256) = false := by simp; omega
        clear hN hmm hend hA hO hOs hbel HX
        have hmm := HMM.out
        go_wp2
        go_ret
        exact ⟨by rw [← HEND.out]; rfl, HW.out⟩
      · have hd1 : decide ((O.size : Int) < n) = false := by simp; omega
        clear hN hmm hend hA hO hOs hbel HX
        have hmm := HMM.out
        go_wp2
        go_ret
        exact ⟨by rw [← HEND.out]; rfl, HW.out⟩

/-- The document's text of lengths and parts, as far as k. -/
theorem info_succ (ls : List ByteArray) (k : Nat) (h : k < ls.length) : infoOf ((ls.take (k + 1)).map (·.data.toList)) = infoOf ((ls.take k).map (·.data.toList)) ++ (Lanes.high ls[k].size 2 ++ ls[k].data.toList) := by
  have e2 : ls[k].data.toList.length = ls[k].size := rfl
  rw [List.take_succ_eq_append_getElem h]
  simp only [infoOf, List.map_append, List.map_cons, List.map_nil, List.flatten_append, List.flatten_cons, List.flatten_nil, List.append_nil, e2]
theorem info_mono (ls : List ByteArray) (k : Nat) : (infoOf ((ls.take k).map (·.data.toList))).length ≤ (infoOf (ls.map (·.data.toList))).length := by
  have e : ls = ls.take k ++ ls.drop k := (List.take_append_drop k ls).symm
  have e2 : infoOf (ls.map (·.data.toList)) = infoOf ((ls.take k).map (·.data.toList)) ++ infoOf ((ls.drop k).map (·.data.toList)) := by
    conv => lhs; rw [e]
    simp only [infoOf, List.map_append, List.flatten_append]
  rw [e2, List.length_append]
  omega

set_option maxHeartbeats 1600000 in
theorem derive_any (key : ByteArray) (n : Int) (ls : List ByteArray) (X : ByteArray) (a : Option Addr) (b o cap : Nat) (w : World) (hkey : key.size ≤ 400000) (ha : ls.length ≠ 0 → a = some ⟨b, o, none⟩ ∧ b < w.heap.size) (hcell : ∀ i (h : i < ls.length), w.cell? ⟨b, o + i, none⟩ = some (.string ls[i]))
    (hn : ls.length ≤ 100000) (hsum : (infoOf (ls.map (·.data.toList))).length ≤ 400000) (hsz : ∀ s ∈ ls, s.size ≤ 400000) (hX : X = tx (derive key.data.toList (many n) (ls.map (·.data.toList)))) :
    Calls Tryz.prog 38 #[.string key, .int .i64 n, .slice a ls.length cap] w fun e w' => e = .returned (.string X) ∧ Below w.heap.size w w' := by
  obtain ⟨F, hF⟩ : ∃ F : ByteArray, F = tx (infoOf (ls.map (·.data.toList))) := ⟨_, rfl⟩
  obtain ⟨E, hE⟩ : ∃ E, E = tx (mac salt key.data.toList) := ⟨_, rfl⟩
  have hEs : E.size ≤ 400000 := by rw [hE]; show (mac _ _).length ≤ _; rw [mac_length]; omega
  have hFs : F.size ≤ 400000 := by rw [hF]; exact hsum
  have hext := Lib.hid (show ∀ u, Calls Tryz.prog 48 #[.string ⟨#[109, 117, 114, 109, 117, 114]⟩, .string key] u fun e w' => e = .returned (.string E) ∧ Below u.heap.size u w' from fun u => extract_any ⟨#[109, 117, 114, 109, 117, 114]⟩ key E u (by decide) (by omega) hE)
  have hexp := Lib.hid (show ∀ u, Calls Tryz.prog 47 #[.string E, .string F, .int .i64 n] u fun e w' => e = .returned (.string X) ∧ Below u.heap.size u w' from fun u => expand_any E F X n u hEs hFs (by rw [hX, hE, hF]; rfl))
  have hmono := fun k (_ : k ≤ ls.length) => info_mono ls k
  have HA := Lib.hid ha
  have HCL := Lib.hid hcell
  have HSZ := Lib.hid hsz
  have HF := Lib.hid hF
  have HM := Lib.hid hmono
  have HSUM := Lib.hid hsum
  clear ha hcell hX hE hEs hFs hF hsum hsz hmono
  go_enter Tryz.func38, Tryz.ntmps38
  go_wp2_with fail
  go_loopw [7, 12] (fun v i wr => ∃ (k : Nat) (T : ByteArray), k ≤ ls.length ∧ i = .int .i64 k ∧ v = .string T ∧ T.data.toList = infoOf ((ls.take k).map (·.data.toList)) ∧ Below w.heap.size w wr) (fun _ i _ => ls.length - (intOf i).toNat)
  case atStart => exact ⟨0, ⟨#[]⟩, by omega, rfl, rfl, rfl, Below.refl _ _⟩
  case round =>
    obtain ⟨k, T, hk, rfl, rfl, hT, hbel⟩ := hrel
    have hTs : T.size ≤ 400000 := by
      have h1 : T.data.toList.length = T.size := rfl
      have h2 := HM.out k hk
      have h3 := HSUM.out
      rw [← hT, h1] at h2
      omega
    by_cases hlt : k < ls.length
    · obtain ⟨rfl, hbb⟩ := HA.out (by omega)
      have hcc := (hbel.cell (p := ⟨b, o + k, none⟩) hbb).trans (HCL.out k hlt)
      have hx := HSZ.out ls[k] (List.getElem_mem hlt)
      have hstep := info_succ ls k hlt
      generalize ls[k] = x at *
      obtain ⟨H, hH⟩ : ∃ H : ByteArray, H = tx (Lanes.high x.size 2) := ⟨_, rfl⟩
      have hHs : H.size = 2 := by rw [hH]; show (Lanes.high x.size 2).length = 2; simp [Lanes.high]
      have hh := Lib.hid (show ∀ u, Calls Tryz.prog 46 #[.int .u64 (x.size : Int), .int .i64 2] u fun e w' => e = .returned (.string H) ∧ Below u.heap.size u w' from fun u => by
        have := RefOne.high_any x.size 2 u (by omega) (by omega) (by omega)
        rw [hH]; exact this)
      have hnew : (T ++ (H ++ x)).data.toList = infoOf ((ls.take (k + 1)).map (·.data.toList)) := by
        rw [hstep, ← hT, hH]
        simp only [ByteArray.data_append, Array.toList_append]
      have HNEW := Lib.hid hnew
      have HW := Lib.hid hbel
      have n1 : ¬ 9223372036854775807 < H.size + x.size := by omega
      have n2 : ¬ 9223372036854775807 < T.size + (H.size + x.size) := by omega
      have n3 : (H ++ x).size = H.size + x.size := ByteArray.size_append
      have hw1 : IntKind.u64.wrap (x.size : Int) = (x.size : Int) := by rw [IntKind.wrap_u64]; omega
      have hx0 : 0 ≤ (x.size : Int) := by omega
      clear hstep hH hHs hT hnew hbel hTs
      go_wp2_with fail
      refine (hh.out _).mono ?_
      rintro e w2 ⟨rfl, hb2⟩
      have HW2 := Lib.hid (HW.out.trans (hb2.mono HW.out.size))
      clear hb2 HW hcc
      go_wp2
      go_roundw
      case rel => exact ⟨k + 1, _, by omega, by go_num, rfl, HNEW.out, HW2.out⟩
      case measure => simp [intOf]; omega
    · obtain rfl : k = ls.length := by omega
      have hTF : T = F := by
        apply ByteArray.ext
        apply Array.toList_inj.mp
        rw [hT, HF.out, List.take_length]
      obtain rfl := hTF
      have HW := Lib.hid hbel
      clear hT hbel HF
      go_wp2_with fail
      refine (hext.out _).mono ?_
      rintro e w2 ⟨rfl, hb2⟩
      have HW2 := Lib.hid (HW.out.trans (hb2.mono HW.out.size))
      clear hb2 HW
      go_wp2_with fail
      refine (hexp.out _).mono ?_
      rintro e w3 ⟨rfl, hb3⟩
      go_wp2
      go_ret
      exact ⟨rfl, HW2.out.trans (hb3.mono HW2.out.size)⟩
end Go.Proofs.YtedgpglldlohfaaGreatDoor.RefKed
