/-
  fits, Fit and lay of package tape: whether a cell can be printed; bytes that fit; a text with its length ahead, laid into a block of bytes. Conditions: texts up to 10^9 bytes; what is laid has room.
-/
import Derived.Test.YtpamdpfgcbadhaaDoorTpP
namespace Go.Proofs.YtpamdpfgcbadhaaDoor.Tape
open Go.RowKit Mur Prt Lanes Tap Cel RTap Hold
set_option maxRecDepth 100000
set_option linter.unusedSimpArgs false

set_option maxHeartbeats 1600000 in
theorem fits_any (A D : ByteArray) (B : Bool) (w : World) (hB : B = okC (A.data.toList, D.data.toList)) :
    Calls Tryd.prog 40 #[.agg #[.string A, .string D]] w fun e w' => e = .returned (.bool B) ∧ Below w.heap.size w w' := by
  have hBe : B = (decide (1 ≤ A.size) && decide (A.size ≤ 200) && decide (D.size ≤ 6000)) := hB
  have HB := Lib.hid ((Below.refl w.heap.size w).alloc (Nat.le_refl _) (.cells #[.string A, .string D] 50))
  clear hB
  by_cases h1 : 1 ≤ A.size
  · have d1 : decide ((1 : Int) ≤ (A.size : Int)) = true := decide_eq_true (by omega)
    have d1b : decide (1 ≤ A.size) = true := decide_eq_true h1
    by_cases h2 : A.size ≤ 200
    · have d2 : decide ((A.size : Int) ≤ 200) = true := decide_eq_true (by omega)
      have d2b : decide (A.size ≤ 200) = true := decide_eq_true h2
      by_cases h3 : D.size ≤ 6000
      · have d3 : decide ((D.size : Int) ≤ 6000) = true := decide_eq_true (by omega)
        have d3b : decide (D.size ≤ 6000) = true := decide_eq_true h3
        obtain rfl : B = true := by rw [hBe, d1b, d2b, d3b]; rfl
        clear hBe
        go_enter Tryd.func40, Tryd.ntmps40
        go_wp2
        go_ret
        exact ⟨by simp, HB.out⟩
      · have d3 : decide ((D.size : Int) ≤ 6000) = false := decide_eq_false (by omega)
        have d3b : decide (D.size ≤ 6000) = false := decide_eq_false h3
        obtain rfl : B = false := by rw [hBe, d3b]; simp
        clear hBe
        go_enter Tryd.func40, Tryd.ntmps40
        go_wp2
        go_ret
        exact ⟨by simp, HB.out⟩
    · have d2 : decide ((A.size : Int) ≤ 200) = false := decide_eq_false (by omega)
      have d2b : decide (A.size ≤ 200) = false := decide_eq_false h2
      obtain rfl : B = false := by rw [hBe, d2b]; simp
      clear hBe
      go_enter Tryd.func40, Tryd.ntmps40
      go_wp2
      go_ret
      exact ⟨by simp, HB.out⟩
  · have d1 : decide ((1 : Int) ≤ (A.size : Int)) = false := decide_eq_false (by omega)
    have d1b : decide (1 ≤ A.size) = false := decide_eq_false h1
    obtain rfl : B = false := by rw [hBe, d1b]; simp
    clear hBe
    go_enter Tryd.func40, Tryd.ntmps40
    go_wp2
    go_ret
    exact ⟨by simp, HB.out⟩

theorem make_bytes (u : World) (m : Nat) (hm : m ≤ 281474976710656) : (Instr.makeSlice 51 (.int .i64 (m : Int)) (.int .i64 (m : Int))).run Tryd.prog u = .ok (.slice (some ⟨u.heap.size, 0, none⟩) m m) (u.alloc (.cells (bytesV (List.replicate m 0)).toArray 5)) := by
  rw [RTap.make_u8 u m hm]
  have e : madeCells #[Value.int .u8 0] m = (bytesV (List.replicate m 0)).toArray := by
    apply Array.toList_inj.1
    rw [toList_madeCells_one, List.toList_toArray, bytesV, List.map_replicate]
    rfl
  rw [e]
theorem size_u8 (u : World) : (Go.sizeOf 5).run Tryd.prog u = .ok 1 u := by go_simp
theorem fit_lay (s : List UInt8) (m : Nat) : lay (bytesV (List.replicate m 0)) 0 ((bytesV s).take (min s.length m)) = bytesV ((s ++ List.replicate m 0).take m) := by
  by_cases h : s.length ≤ m
  · rw [Nat.min_eq_left h, List.take_of_length_le (by rw [bytesV_length]; exact Nat.le_refl _)]
    have e : List.replicate m (0 : UInt8) = List.replicate s.length 0 ++ List.replicate (m - s.length) 0 := by
      rw [List.replicate_append_replicate]
      congr 1
      omega
    have e2 : (s ++ List.replicate m (0 : UInt8)).take m = s ++ List.replicate (m - s.length) 0 := by
      rw [List.take_append, List.take_of_length_le h, List.take_replicate]
      congr 2
      omega
    rw [e2, e]
    show lay (bytesV (List.replicate s.length 0 ++ _)) 0 (bytesV s) = _
    rw [show bytesV (List.replicate s.length (0 : UInt8) ++ List.replicate (m - s.length) 0) = bytesV (List.replicate s.length 0) ++ bytesV (List.replicate (m - s.length) 0) from by simp [bytesV], lay_left (by rw [bytesV_length, bytesV_length, List.length_replicate])]
    simp [bytesV]
  · rw [Nat.min_eq_right (by omega), List.take_append_of_le_length (by omega)]
    have e : (bytesV s).take m = bytesV (s.take m) := by simp [bytesV, List.map_take]
    rw [e, lay_all (by rw [bytesV_length, bytesV_length, List.length_replicate, List.length_take]; omega)]

set_option maxHeartbeats 1600000 in
theorem fit_any (s : ByteArray) (n : Int) (X : ByteArray) (w : World) (hX : X = tx (fit s.data.toList n)) (_ : s.size ≤ 1000000000) :
    Calls Tryd.prog 14 #[.string s, .int .i64 n] w fun e w' => e = .returned (.string X) ∧ Below w.heap.size w w' := by
  obtain ⟨m, hm⟩ : ∃ m : Nat, max 0 (min n 6000) = (m : Int) := ⟨(max 0 (min n 6000)).toNat, by omega⟩
  have hm2 : m ≤ 6000 := by omega
  have e1 : (max 0 (min n 6000)).toNat = m := by omega
  obtain ⟨Z, hZ⟩ : ∃ Z, Z = bytesV (List.replicate m 0) := ⟨_, rfl⟩
  have hmk := fun u => make_bytes u m (by omega)
  rw [← hZ] at hmk
  obtain ⟨F, hF⟩ : ∃ F, F = (s.data.toList ++ List.replicate m 0).take m := ⟨_, rfl⟩
  have hFl : F.length = m := by rw [hF, List.length_take, List.length_append, List.length_replicate]; omega
  have HLAY := Lib.hid (show lay Z 0 ((bytesV s.data.toList).take (min s.size m)) = bytesV F from by rw [hZ, hF]; exact fit_lay s.data.toList m)
  have hXe : (⟨F.toArray⟩ : ByteArray) = X := by rw [hX, fit, e1, hF]
  have HMK := Lib.hid hmk
  have HZL := Lib.hid (show Z.length = m from by rw [hZ, bytesV_length, List.length_replicate])
  have HX := Lib.hid hXe
  have HFL := Lib.hid hFl
  have HSZ := Lib.hid size_u8
  have HM := Lib.hid (Hld.start w)
  clear hX hZ hF hFl hXe hmk e1
  go_enter Tryd.func14, Tryd.ntmps14
  go_upto_region 3 with ((first
    | (at_make; refine Hold.make HM.out rfl rfl rfl rfl HMK.out ?_; clear HM; intro b w HM; simp only [List.nil_append] at HM; replace HM := Lib.hid HM)
    | (with_reducible refine Hold.copyText HM.out 0 rfl rfl rfl rfl rfl Tryd.underlying51 HSZ.out (by rw [HZL.out]; exact Nat.min_le_right _ _) ?_; clear HM; intro w HM)))
  simp only [List.set_cons_zero] at HM
  rw [HLAY.out] at HM
  have hback := string_row (P := Tryd.prog) (HM.at 0 rfl).row 51 5 9 Tryd.underlying51 Tryd.underlying5 Tryd.underlying9 m m HFL.out.symm
  rw [HX.out] at hback
  have HM2 := Lib.hid HM
  clear HM
  go_wp2
  go_ret
  exact ⟨rfl, HM2.out.below⟩
end Go.Proofs.YtpamdpfgcbadhaaDoor.Tape
