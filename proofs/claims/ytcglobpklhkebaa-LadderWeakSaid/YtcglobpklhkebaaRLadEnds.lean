/-
  The document's Clamp, Times, Public and Shared of layer 6 answer what the plain ladder says, and leave all memory that was there as it was. Condition: texts that take no more than the reach of the form.
-/
import Derived.Test.YtcglobpklhkebaaRLadder
import Derived.Test.YtcglobpklhkebaaRBytes
import Derived.Test.YtcglobpklhkebaaLadAwake
import Derived.Test.YtcglobpklhkebaaRefAlike
namespace Go.Proofs.Ytcglobpklhkebaa.RefLad
open Go.RowKit Mur Lanes Limb Hold Lad LadC RefLimb
set_option maxRecDepth 100000

theorem row_byte {w : World} {b : Nat} {L : List UInt8} (h : Row w b (bytesV L)) {i : Nat} (hi : i < L.length) : w.cell? ⟨b, i, none⟩ = some (.int .u8 ((L.getD i 0).toNat : Int)) := by
  rw [h.cell (bytesV_at hi)]
  simp [List.getD, hi]
theorem zeroT_conv (u : World) : (convert 53 9 (.slice (some ⟨u.heap.size, 0, none⟩) 32 32)).run Try.prog (u.alloc (.cells (zeroV 32).toArray 5)) = .ok (.string zeroT) (u.alloc (.cells (zeroV 32).toArray 5)) :=
  string_row (P := Try.prog) (Whole.made u 5 (zeroV 32)).row 53 5 9 Try.underlying53 Try.underlying5 Try.underlying9 32 32 (by simp)
theorem zeroT_make (u : World) : (Instr.makeSlice 53 (.int .i64 32) (.int .i64 32)).run Try.prog u = .ok (.slice (some ⟨u.heap.size, 0, none⟩) 32 32) (u.alloc (.cells (zeroV 32).toArray 5)) := by
  have := make_u8 u 32 (by omega)
  rw [made_cells 32] at this
  exact this

set_option maxHeartbeats 1600000 in
theorem clamp_ref (s : ByteArray) (w0 : World) (hs : s.size ≤ 140737488351232) :
    Calls Try.prog 40 #[.string s] w0 fun r w' => r = .returned (.string (clampT s)) ∧ Below w0.heap.size w0 w' := by
  obtain ⟨Z, hZ⟩ : ∃ Z, Z = zeroT := ⟨_, rfl⟩
  obtain ⟨p, hp⟩ : ∃ p, p = (s ++ Z).extract 0 32 := ⟨_, rfl⟩
  have hpl : p.data.toList = pad s.data.toList := by
    rw [hp, hZ]
    simp [pad, zeroT, ByteArray.data_extract, Array.toList_extract, List.take_append]
  have hZs : Z.size = 32 := by rw [hZ]; rfl
  have hmk := fun u => zeroT_make u
  have hcv := fun u => zeroT_conv u
  rw [← hZ] at hcv
  have cat : ¬ 9223372036854775807 < s.size + Z.size := by omega
  have i32 : (32 : Int) ≤ ((s ++ Z).size : Int) := by rw [ByteArray.size_append]; omega
  obtain ⟨L, hL⟩ : ∃ L, L = pad s.data.toList := ⟨_, rfl⟩
  have hL5 : L.length = 32 := by rw [hL]; exact pad_length _
  have hps : p.size = 32 := by
    have : p.data.toList.length = 32 := by rw [hpl]; exact pad_length _
    exact this
  obtain ⟨x, hx⟩ : ∃ x, x = L.getD 0 0 := ⟨_, rfl⟩
  obtain ⟨y, hy⟩ : ∃ x, x = L.getD 31 0 := ⟨_, rfl⟩
  have hres : clampT s = ⟨((L.set 0 (x &&& 248)).set 31 (y &&& 127 ||| 64)).toArray⟩ := by rw [hx, hy, hL]; rfl
  obtain ⟨x1, hx1⟩ : ∃ z, z = x &&& 248 := ⟨_, rfl⟩
  obtain ⟨y1, hy1⟩ : ∃ z, z = y &&& 127 := ⟨_, rfl⟩
  obtain ⟨y2, hy2⟩ : ∃ z, z = y1 ||| 64 := ⟨_, rfl⟩
  have e1 : bits .and .u8 (x.toNat : Int) 248 = (x1.toNat : Int) := by rw [hx1]; exact and_u8 x 248
  have e2 : bits .and .u8 (y.toNat : Int) 127 = (y1.toNat : Int) := by rw [hy1]; exact and_u8 y 127
  have e3 : bits .or .u8 (y1.toNat : Int) 64 = (y2.toNat : Int) := by rw [hy2]; exact or_u8 y1 64
  rw [hres, ← hx1, ← hy1, ← hy2]
  obtain ⟨cap, w1, hcap, hconv, hrow, hbel⟩ := conv_row (P := Try.prog) (w0.alloc (.cells (zeroV 32).toArray 5)) 9 53 5 p Try.underlying9 Try.underlying53 Try.underlying5
  have hwz : (w0.alloc (.cells (zeroV 32).toArray 5)).heap.size = w0.heap.size + 1 := by simp
  rw [hwz, hps] at hconv
  rw [hwz, hpl, ← hL] at hrow
  have hb1 : Below w0.heap.size w0 w1 := ((Below.refl _ _).alloc (Nat.le_refl _) _).trans (hbel.mono (by simp))
  have HROW := Lib.hid hrow
  have HB1 := Lib.hid hb1
  have HP := Lib.hid hp
  have H5 := Lib.hid hL5
  have HX := Lib.hid hx
  have HY := Lib.hid hy
  have E1 := Lib.hid e1
  have E2 := Lib.hid e2
  have E3 := Lib.hid e3
  rw [hp] at hconv
  clear hZ hp hpl hZs hL hL5 hps hx hy hres hx1 hy1 hy2 e1 e2 e3 hcap hrow hbel hwz hb1 hs
  go_enter Try.func40, Try.ntmps40
  go_upto_region 2 with (fail)
  clear hmk hcv cat i32 hconv
  have l0 : 0 < L.length := by rw [H5.out]; decide
  have c0 := row_byte HROW.out l0
  have f0 := HROW.out.free (i := 0) (by rw [bytesV_length]; exact l0)
  rw [← HX.out] at c0
  have e1 := E1.out
  have HR2 := Lib.hid (show Row (w1.setCell ⟨w0.heap.size + 1, 0, none⟩ (.int .u8 (x1.toNat : Int))) (w0.heap.size + 1) (bytesV (L.set 0 x1)) by rw [← bytesV_set]; exact HROW.out.set 0 _)
  have HB2 := Lib.hid (HB1.out.setCell (p := ⟨w0.heap.size + 1, 0, none⟩) (by show w0.heap.size ≤ w0.heap.size + 1; omega) (.int .u8 (x1.toNat : Int)))
  clear l0 HROW HB1
  go_upto_region 3 with (fail)
  clear c0 f0 e1
  generalize w1.setCell ⟨w0.heap.size + 1, 0, none⟩ (.int .u8 (x1.toNat : Int)) = w2 at *
  have l31 : 31 < (L.set 0 x1).length := by rw [List.length_set, H5.out]; decide
  have c1 := row_byte HR2.out l31
  have f1 := HR2.out.free (i := 31) (by rw [bytesV_length]; exact l31)
  rw [List.getD, List.getElem?_set_ne (by decide), ← List.getD, ← HY.out] at c1
  have e2 := E2.out
  have e3 := E3.out
  have HR3 := Lib.hid (show Row (w2.setCell ⟨w0.heap.size + 1, 31, none⟩ (.int .u8 (y2.toNat : Int))) (w0.heap.size + 1) (bytesV ((L.set 0 x1).set 31 y2)) by rw [← bytesV_set]; exact HR2.out.set 31 _)
  have HB3 := Lib.hid (HB2.out.setCell (p := ⟨w0.heap.size + 1, 31, none⟩) (by show w0.heap.size ≤ w0.heap.size + 1; omega) (.int .u8 (y2.toNat : Int)))
  clear l31 HR2 HB2
  go_upto_region 4 with (fail)
  clear c1 f1 e2 e3
  generalize w2.setCell ⟨w0.heap.size + 1, 31, none⟩ (.int .u8 (y2.toNat : Int)) = w3 at *
  have hback := string_row (P := Try.prog) HR3.out 53 5 9 Try.underlying53 Try.underlying5 Try.underlying9 32 cap (by rw [List.length_set, List.length_set, H5.out])
  go_wp2
  go_ret
  exact ⟨rfl, HB3.out⟩

set_option maxHeartbeats 1600000 in
theorem times_err (s p : ByteArray) (w0 : World) (h : ¬ (s.size = 32 ∧ p.size = 32)) :
    Calls Try.prog 38 #[.string s, .string p] w0 fun r w' => r = .returned (.tuple #[.string ⟨#[]⟩, .int .i64 1]) ∧ Below w0.heap.size w0 w' := by
  by_cases h1 : s.size = 32
  · have h2 : p.size ≠ 32 := fun e => h ⟨h1, e⟩
    have d1' : ((s.size : Int) != 32) = false := by simp; omega
    have d2' : ((p.size : Int) != 32) = true := by simp; omega
    clear h h1 h2
    go_enter Try.func38, Try.ntmps38
    go_wp2
    refine bodyPost_ret (v := .tuple #[.string ⟨#[]⟩, .int .i64 1]) (by simp [results, Try.results38, go_sem]) rfl ⟨rfl, Below.refl _ _⟩
  · have d1' : ((s.size : Int) != 32) = true := by simp; omega
    clear h h1
    go_enter Try.func38, Try.ntmps38
    go_wp2
    refine bodyPost_ret (v := .tuple #[.string ⟨#[]⟩, .int .i64 1]) (by simp [results, Try.results38, go_sem]) rfl ⟨rfl, Below.refl _ _⟩

set_option maxHeartbeats 1600000 in
theorem times_ok (s p : ByteArray) (w0 : World) (h1 : s.size = 32) (h2 : p.size = 32) :
    Calls Try.prog 38 #[.string s, .string p] w0 fun r w' => r = .returned (.tuple #[.string (shareT s p), .int .i64 0]) ∧ Below w0.heap.size w0 w' := by
  have d1' : ((s.size : Int) != 32) = false := by simp; omega
  have d2' : ((p.size : Int) != 32) = false := by simp; omega
  obtain ⟨C, hC⟩ : ∃ C, C = clampT s := ⟨_, rfl⟩
  have R1 := Lib.hid (show ∀ u, Calls Try.prog 40 #[.string s] u fun r w' => r = .returned (.string C) ∧ Below u.heap.size u w' from fun u => by rw [hC]; exact clamp_ref s u (by omega))
  obtain ⟨X, hX⟩ : ∃ X, X = limL (pubN p) := ⟨_, rfl⟩
  have hXl : LimL X (pubN p) := by rw [hX]; exact pub_l p
  have R2 := Lib.hid (show ∀ u, Calls Try.prog 13 #[.string p] u fun r w' => r = .returned (.agg X.toArray) ∧ Below u.heap.size u w' from fun u => by
    have := RefLimb.read_l p u (by omega)
    rw [limL, lim_mod255] at this
    rw [hX]
    exact this)
  have r3 := fun u => ladder_ref C hXl (by rw [hC, clampT_size]; decide) u
  have hl : ladder (bt C) (pubN p) < Prime.P := ladder_lt _ _
  have hT : shareT s p = numT (ladder (bt C) (pubN p)) := by rw [hC]; rfl
  obtain ⟨Y, hY⟩ : ∃ X, X = limL (ladder (bt C) (pubN p)) := ⟨_, rfl⟩
  have hYl : LimL Y (ladder (bt C) (pubN p)) := by rw [hY]; exact LimL.ofLim (Nat.lt_trans hl P_lt)
  have r4 := fun u => RefLimb.bytes_l hYl u
  rw [Nat.mod_eq_of_lt hl] at r4
  rw [← hY] at r3
  rw [← hT] at r4
  obtain ⟨T, hT⟩ : ∃ T, T = shareT s p := ⟨_, rfl⟩
  rw [← hT] at r4 ⊢
  have R3 := Lib.hid r3
  have R4 := Lib.hid r4
  clear h1 h2 hC hX hXl r3 r4 hl hY hYl hT
  go_enter Try.func38, Try.ntmps38
  go_wp2_with fail
  refine (R1.out _).mono ?_
  rintro e w1 ⟨rfl, hb⟩
  have HB1 := Lib.hid hb
  clear hb
  go_wp2_with fail
  refine (R2.out _).mono ?_
  rintro e w2 ⟨rfl, hb⟩
  have HB2 := Lib.hid (HB1.out.trans (hb.mono HB1.out.size))
  clear hb HB1
  go_wp2_with fail
  refine (R3.out _).mono ?_
  rintro e w3 ⟨rfl, hb⟩
  have HB3 := Lib.hid (HB2.out.trans (hb.mono HB2.out.size))
  clear hb HB2
  go_wp2_with fail
  refine (R4.out _).mono ?_
  rintro e w4 ⟨rfl, hb⟩
  have HB4 := Lib.hid (HB3.out.trans (hb.mono HB3.out.size))
  clear hb HB3
  go_wp2
  refine bodyPost_ret (v := .tuple #[.string T, .int .i64 0]) (by simp [results, Try.results38, go_sem]) rfl ⟨rfl, HB4.out⟩
theorem times_any (s p : ByteArray) (w : World) : Calls Try.prog 38 #[.string s, .string p] w fun r w' => r = .returned (timesV s p) ∧ Below w.heap.size w w' := by
  unfold timesV
  split
  · rename_i h
    exact times_ok s p w h.1 h.2
  · rename_i h
    exact times_err s p w h
theorem timesV_some (s p : ByteArray) : ∃ a b, timesV s p = .tuple #[.string a, .int .i64 b] := by
  unfold timesV
  split
  · exact ⟨_, _, rfl⟩
  · exact ⟨_, _, rfl⟩

/-- A byte 9 and 31 bytes 0. -/
def zero31 : ByteArray := ⟨(List.replicate 31 0).toArray⟩
theorem nine_cat : (⟨#[9]⟩ : ByteArray) ++ zero31 = numT 9 := by decide +kernel
theorem zero_num : zeroT = numT 0 := by decide +kernel
set_option maxHeartbeats 1600000 in
theorem public_ref (s : ByteArray) (w0 : World) :
    Calls Try.prog 44 #[.string s] w0 fun r w' => r = .returned (timesV s (numT 9)) ∧ Below w0.heap.size w0 w' := by
  obtain ⟨N9, h9⟩ : ∃ T, T = numT 9 := ⟨_, rfl⟩
  obtain ⟨Z, hZ⟩ : ∃ T, T = zero31 := ⟨_, rfl⟩
  have hcat : (⟨#[9]⟩ : ByteArray) ++ Z = N9 := by rw [hZ, h9]; exact nine_cat
  have hZs : Z.size = 31 := by rw [hZ]; rfl
  have cat : ¬ 9223372036854775807 < (⟨#[9]⟩ : ByteArray).size + Z.size := by rw [hZs]; decide
  have hmk : ∀ u : World, (Instr.makeSlice 53 (.int .i64 31) (.int .i64 31)).run Try.prog u = .ok (.slice (some ⟨u.heap.size, 0, none⟩) 31 31) (u.alloc (.cells (zeroV 31).toArray 5)) := fun u => by
    have := make_u8 u 31 (by omega)
    rw [made_cells 31] at this
    exact this
  have hcv : ∀ u : World, (convert 53 9 (.slice (some ⟨u.heap.size, 0, none⟩) 31 31)).run Try.prog (u.alloc (.cells (zeroV 31).toArray 5)) = .ok (.string Z) (u.alloc (.cells (zeroV 31).toArray 5)) := fun u => by
    rw [hZ]
    exact string_row (P := Try.prog) (Whole.made u 5 (zeroV 31)).row 53 5 9 Try.underlying53 Try.underlying5 Try.underlying9 31 31 (by simp)
  rw [← h9]
  have R2 := fun u => times_any s N9 u
  obtain ⟨a, b, hv⟩ := timesV_some s N9
  rw [hv] at R2 ⊢
  have R2 := Lib.hid R2
  have HCAT := Lib.hid hcat
  clear h9 hv hZ hZs hcat
  go_enter Try.func44, Try.ntmps44
  go_wp2_with fail
  rw [HCAT.out]
  refine (R2.out _).mono ?_
  rintro e w2 ⟨rfl, hb⟩
  have HB2 := Lib.hid (((Below.refl _ _).alloc (Nat.le_refl _) _).trans (hb.mono (by simp)))
  clear hb hmk hcv cat
  go_wp2
  refine bodyPost_ret (v := .tuple #[.string a, .int .i64 b]) (by simp [results, Try.results44, go_sem]) rfl ⟨rfl, HB2.out⟩

theorem alike_zero (T : ByteArray) (u : World) (h : T.size = 32) : Calls Try.prog 66 #[.string T, .string zeroT] u fun e w' => e = .returned (.bool (decide (T.data.toList = (numT 0).data.toList))) ∧ Below u.heap.size u w' := by
  have := RefOne.alike_any T zeroT u (by omega) (by decide)
  rw [ByteArray.toList_eq, ByteArray.toList_eq, zero_num] at this
  rw [zero_num]
  by_cases e : T.data.toList = (numT 0).data.toList
  · rw [decide_eq_true e]
    rw [show (T.data.toList == (numT 0).data.toList) = true by rw [e]; simp] at this
    exact this
  · rw [decide_eq_false e]
    rw [show (T.data.toList == (numT 0).data.toList) = false by simpa using e] at this
    exact this
theorem shared_ref (s p : ByteArray) (w0 : World) :
    Calls Try.prog 36 #[.string s, .string p] w0 fun r w' => r = .returned (sharedV s p) ∧ Below w0.heap.size w0 w' := by
  have RT := fun u => times_any s p u
  have hmk := fun u => zeroT_make u
  have hcv := fun u => zeroT_conv u
  obtain ⟨Z, hZ⟩ : ∃ Z, Z = zeroT := ⟨_, rfl⟩
  rw [← hZ] at hcv
  unfold sharedV
  unfold timesV at RT
  by_cases h : s.size = 32 ∧ p.size = 32
  · rw [if_pos h] at RT ⊢
    have hTs := shareT_size s p
    have r3 := fun u => alike_zero (shareT s p) u hTs
    rw [← hZ] at r3
    obtain ⟨T, hT⟩ : ∃ T, T = shareT s p := ⟨_, rfl⟩
    rw [← hT] at RT r3 ⊢
    have R1 := Lib.hid RT
    by_cases he : T.data.toList = (numT 0).data.toList
    · rw [decide_eq_true he] at r3
      rw [if_pos he]
      have R3 := Lib.hid r3
      clear r3 he hZ hT hTs h
      go_enter Try.func36, Try.ntmps36
      go_wp2_with fail
      refine (R1.out _).mono ?_
      rintro e w1 ⟨rfl, hb⟩
      have HB1 := Lib.hid (hb.alloc hb.size (.cells (zeroV 32).toArray 5))
      clear hb
      go_wp2_with fail
      refine (R3.out _).mono ?_
      rintro e w3 ⟨rfl, hb⟩
      have HB3 := Lib.hid (HB1.out.trans (hb.mono HB1.out.size))
      clear hb HB1 hmk hcv
      go_wp2
      refine bodyPost_ret (v := .tuple #[.string ⟨#[]⟩, .int .i64 5]) (by simp [results, Try.results36, go_sem]) rfl ⟨rfl, HB3.out⟩
    · rw [decide_eq_false he] at r3
      rw [if_neg he]
      have R3 := Lib.hid r3
      clear r3 he hZ hT hTs h
      go_enter Try.func36, Try.ntmps36
      go_wp2_with fail
      refine (R1.out _).mono ?_
      rintro e w1 ⟨rfl, hb⟩
      have HB1 := Lib.hid (hb.alloc hb.size (.cells (zeroV 32).toArray 5))
      clear hb
      go_wp2_with fail
      refine (R3.out _).mono ?_
      rintro e w3 ⟨rfl, hb⟩
      have HB3 := Lib.hid (HB1.out.trans (hb.mono HB1.out.size))
      clear hb HB1 hmk hcv
      go_wp2
      refine bodyPost_ret (v := .tuple #[.string T, .int .i64 0]) (by simp [results, Try.results36, go_sem]) rfl ⟨rfl, HB3.out⟩
  · rw [if_neg h] at RT ⊢
    have R1 := Lib.hid RT
    clear h hmk hcv hZ
    go_enter Try.func36, Try.ntmps36
    go_wp2_with fail
    refine (R1.out _).mono ?_
    rintro e w1 ⟨rfl, hb⟩
    have HB1 := Lib.hid hb
    clear hb
    go_wp2
    refine bodyPost_ret (v := .tuple #[.string ⟨#[]⟩, .int .i64 1]) (by simp [results, Try.results36, go_sem]) rfl ⟨rfl, HB1.out⟩
end Go.Proofs.Ytcglobpklhkebaa.RefLad
