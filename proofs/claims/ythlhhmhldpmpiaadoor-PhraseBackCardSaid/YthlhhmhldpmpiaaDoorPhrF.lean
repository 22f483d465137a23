/-
  said, Count, Width, Right, begin, Cut and capital of package phrase answer what the plain mathematics of the texts Phr, PhrB and PhrD says, and leave all memory that was there as it was. Conditions: that numbers and lengths fit.
-/
import Derived.Test.YthlhhmhldpmpiaaDoorPhrE
namespace Go.Proofs.YthlhhmhldpmpiaaDoor.Phr
open Go.RowKit Mur
set_option maxRecDepth 100000

set_option maxHeartbeats 800000 in
theorem said_any (s S : ByteArray) (w : World) (hS : S = tx (sd s.data.toList)) :
    Calls Tryd.prog 40 #[.string s] w fun e w' => e = .returned (.string S) ∧ Below w.heap.size w w' := by
  cases hr : (runes s.data.toList).isSome with
  | true =>
    obtain rfl : S = s := by rw [hS, sd, if_pos hr]
    have R := Lib.hid (fun u => maybe_any S u true hr)
    clear hr hS
    go_enter Tryd.func40, Tryd.ntmps40
    go_wp2_with fail
    refine (R.out _).mono ?_
    rintro e w1 ⟨rfl, hb⟩
    go_wp2
    go_ret
    exact ⟨rfl, hb⟩
  | false =>
    obtain rfl : S = ⟨#[]⟩ := by rw [hS, sd, if_neg (by rw [hr]; decide)]
    have R := Lib.hid (fun u => maybe_any s u false hr)
    clear hr hS
    go_enter Tryd.func40, Tryd.ntmps40
    go_wp2_with fail
    refine (R.out _).mono ?_
    rintro e w1 ⟨rfl, hb⟩
    go_wp2
    go_ret
    exact ⟨rfl, hb⟩

theorem runecount_any (s : ByteArray) (l : List Nat) (N : Int) (w : World) (h : runes s.data.toList = some l) (hN : N = (l.length : Int)) (hs : s.size < 9223372036854775807) :
    Calls Tryd.prog 39 #[.string s] w fun e w' => e = .returned (.int .i64 N) ∧ Below w.heap.size w w' :=
  (Any.utf8_RuneCountInString Tryd.lays195 s w hs).mono fun e w' k => by
    obtain ⟨h1, pos, h2⟩ := k
    rw [h1, h2, runeCount_some h, hN]
    exact ⟨rfl, (Below.refl _ w).alloc (Nat.le_refl _) _⟩

set_option maxHeartbeats 800000 in
theorem count_any (s : ByteArray) (N : Int) (w : World) (hN : N = (count s.data.toList : Int)) (hs : s.size < 9223372036854775807) :
    Calls Tryd.prog 12 #[.string s] w fun e w' => e = .returned (.int .i64 N) ∧ Below w.heap.size w w' := by
  obtain ⟨S, hS⟩ : ∃ S, S = tx (sd s.data.toList) := ⟨_, rfl⟩
  have R1 := Lib.hid (fun u => said_any s S u hS)
  have R2 := Lib.hid (fun u => runecount_any S (rs s.data.toList) N u (by rw [hS]; exact sd_runes _) hN (by
    rw [hS, tx_size]
    exact Nat.lt_of_le_of_lt (sd_length _) hs))
  clear hS hN hs
  go_enter Tryd.func12, Tryd.ntmps12
  go_wp2_with fail
  refine (R1.out _).mono ?_
  rintro e w1 ⟨rfl, hb1⟩
  have HW1 := Lib.hid hb1
  clear hb1
  go_wp2_with fail
  refine (R2.out _).mono ?_
  rintro e w2 ⟨rfl, hb2⟩
  have HW2 := Lib.hid (HW1.out.trans (hb2.mono HW1.out.size))
  clear hb2
  go_wp2
  go_ret
  exact ⟨rfl, HW2.out⟩

set_option maxHeartbeats 800000 in
theorem width_any (s : ByteArray) (N : Int) (w : World) (hN : N = (widthB s.data.toList : Int)) :
    Calls Tryd.prog 23 #[.string s] w fun e w' => e = .returned (.int .i64 N) ∧ Below w.heap.size w w' := by
  obtain ⟨S, hS⟩ : ∃ S, S = tx (sd s.data.toList) := ⟨_, rfl⟩
  have R1 := Lib.hid (fun u => said_any s S u hS)
  have hz : (S.size : Int) = N := by rw [hN, hS, tx_size, widthB, text_rs]
  clear hS hN
  go_enter Tryd.func23, Tryd.ntmps23
  go_wp2_with fail
  refine (R1.out _).mono ?_
  rintro e w1 ⟨rfl, hb1⟩
  go_wp2
  go_ret
  exact ⟨rfl, hb1⟩

set_option maxHeartbeats 800000 in
theorem right_any (s : ByteArray) (B : Bool) (w : World) (hB : B = right s.data.toList) (hs : s.size < 9223372036854775807) :
    Calls Tryd.prog 10 #[.string s] w fun e w' => e = .returned (.bool B) ∧ Below w.heap.size w w' := by
  have hsl : s.data.toList.length = s.size := rfl
  by_cases h1 : 1 ≤ s.size
  · have hd1 : decide (1 ≤ (s.size : Int)) = true := decide_eq_true (by omega)
    have hd1' : decide (1 ≤ s.size) = true := decide_eq_true (by omega)
    by_cases h2 : s.size ≤ 16
    · have hd2 : decide ((s.size : Int) ≤ 16) = true := decide_eq_true (by omega)
      have hd2' : decide (s.size ≤ 16) = true := decide_eq_true (by omega)
      have R := Lib.hid (fun u => maybe_any s u B (by rw [hB, right, hsl, hd1', hd2']; simp))
      clear hB hs hsl h1 h2
      go_enter Tryd.func10, Tryd.ntmps10
      go_wp2_with fail
      refine (R.out _).mono ?_
      rintro e w1 ⟨rfl, hb1⟩
      go_wp2
      go_ret
      exact ⟨rfl, hb1⟩
    · have hd2 : decide ((s.size : Int) ≤ 16) = false := decide_eq_false (by omega)
      have hd2' : decide (s.size ≤ 16) = false := decide_eq_false (by omega)
      obtain rfl : B = false := by rw [hB, right, hsl, hd2']; simp
      clear hB hs hsl h1 h2
      go_enter Tryd.func10, Tryd.ntmps10
      go_wp2
      go_ret
      exact ⟨rfl, Below.refl _ _⟩
  · have hd1 : decide (1 ≤ (s.size : Int)) = false := decide_eq_false (by omega)
    have hd1' : decide (1 ≤ s.size) = false := decide_eq_false (by omega)
    obtain rfl : B = false := by rw [hB, right, hsl, hd1']; simp
    clear hB hs hsl h1
    go_enter Tryd.func10, Tryd.ntmps10
    go_wp2
    go_ret
    exact ⟨rfl, Below.refl _ _⟩

set_option maxHeartbeats 1600000 in
theorem begin_any (s : ByteArray) (l : List Nat) (n N : Int) (w : World) (h : runes s.data.toList = some l) (hN : N = (begins l n : Int)) (h1 : -9223372036854775808 ≤ n) (h2 : n ≤ 9223372036854775807) (hs : s.size ≤ 9223372036854775807) :
    Calls Tryd.prog 41 #[.string s, .int .i64 n] w fun e w' => e = .returned (.int .i64 N) ∧ Below w.heap.size w w' := by
  have HN := Lib.hid hN
  have HL := Lib.hid h
  clear hN h
  go_enter Tryd.func41, Tryd.ntmps41
  go_wp2
  go_loopg [1] l.length (fun gk v wx => ∃ (pos : Nat) (m : Int) (r : List Nat), v = .int .i64 m ∧ wx = w.iter s pos ∧ pos ≤ s.size ∧ runes (s.data.toList.drop pos) = some r ∧ r.length = gk ∧ N = ((pos + begins r m : Nat) : Int) ∧ -9223372036854775808 ≤ m ∧ m ≤ 9223372036854775807)
  case atStart => exact ⟨0, n, l, rfl, rfl, by omega, by rw [List.drop_zero]; exact HL.out, rfl, by rw [HN.out, Nat.zero_add], h1, h2⟩
  case round =>
    clear HN HL h1 h2
    obtain ⟨pos, m, r, rfl, rfl, hps, hrs, hgk, hN, hm1, hm2⟩ := hrel
    rcases at_place s pos r hrs hps with ⟨rfl, hend⟩ | ⟨c, r', rfl, hlt, hd1, hmay, hd2, hrs2, hle⟩
    · have hnx : ∀ ty, (Instr.next (.pointer (some ⟨w.heap.size, 0, none⟩)) true ty).run Tryd.prog (w.iter s pos) = _ := fun ty => run_next_end w s pos ty (by omega)
      obtain rfl : N = (s.size : Int) := by rw [hN, begins_nil]; omega
      clear hN hrs hend hgk
      go_wp2
      go_ret
      exact ⟨rfl, (Below.refl _ w).alloc (Nat.le_refl _) _⟩
    · have hnx : ∀ ty, (Instr.next (.pointer (some ⟨w.heap.size, 0, none⟩)) true ty).run Tryd.prog (w.iter s pos) = _ := fun ty => run_next_any w s pos ty hlt
      rw [hd1, hd2] at hnx
      have HR := Lib.hid hrs2
      have HLE := Lib.hid hle
      have HGK := Lib.hid hgk
      have HN := Lib.hid hN
      clear hrs hrs2 hd1 hd2 hmay hle hgk hN
      by_cases hm : m ≤ 0
      · have hd : decide (m ≤ 0) = true := decide_eq_true hm
        obtain rfl : N = (pos : Int) := by rw [HN.out, begins_zero _ _ hm]; omega
        clear HN
        go_wp2
        go_ret
        exact ⟨rfl, (Below.refl _ w).alloc (Nat.le_refl _) _⟩
      · have hd : decide (m ≤ 0) = false := decide_eq_false hm
        generalize hk : (enc c).length = k at *
        have HK := Lib.hid hk
        clear hk
        go_wp2
        go_roundg r'.length
        case measure => have := HGK.out; simp at this; omega
        case rel => exact ⟨pos + k, m - 1, r', by go_num, rfl, HLE.out, HR.out, rfl, by rw [HN.out, begins_cons _ _ _ (by omega), HK.out]; omega, by omega, by omega⟩

set_option maxHeartbeats 1600000 in
theorem cut_any (s : ByteArray) (n : Int) (X : ByteArray) (w : World) (hX : X = tx (cutB s.data.toList n)) (h1 : -9223372036854775808 ≤ n) (h2 : n ≤ 9223372036854775807) (hs : s.size < 9223372036854775807) :
    Calls Tryd.prog 14 #[.string s, .int .i64 n] w fun e w' => e = .returned (.string X) ∧ Below w.heap.size w w' := by
  obtain ⟨S, hS⟩ : ∃ S, S = tx (sd s.data.toList) := ⟨_, rfl⟩
  obtain ⟨N, hN⟩ : ∃ N, N = begins (rs s.data.toList) n := ⟨_, rfl⟩
  have hSs : S.size ≤ s.size := by rw [hS, tx_size]; exact sd_length _
  have R1 := Lib.hid (fun u => said_any s S u hS)
  have R2 := Lib.hid (fun u => begin_any S (rs s.data.toList) n (N : Int) u (by rw [hS]; exact sd_runes _) (by rw [hN]) h1 h2 (by omega))
  have hNS : N ≤ S.size := by
    rw [hN, hS, tx_size, ← text_rs]
    exact begins_le _ _
  have hcut : S.extract 0 N = X := by
    rw [tx_extract, List.drop_zero, Nat.sub_zero, hS, tx_list, hN, begins_cut, hX]
  have hsl : ∀ u, (Instr.slice 9 (.string S) none (some (.int .i64 (N : Int))) none).run Tryd.prog u = .ok (.string X) u := fun u => by
    rw [← hcut]
    exact run_slice_string_h (P := Tryd.prog) u 9 S Tryd.underlying9 .i64 (N : Int) (by omega) (by omega)
  clear hS hN hX hcut
  go_enter Tryd.func14, Tryd.ntmps14
  go_wp2_with fail
  refine (R1.out _).mono ?_
  rintro e w1 ⟨rfl, hb1⟩
  have HW1 := Lib.hid hb1
  clear hb1
  go_wp2_with fail
  refine (R2.out _).mono ?_
  rintro e w2 ⟨rfl, hb2⟩
  have HW2 := Lib.hid (HW1.out.trans (hb2.mono HW1.out.size))
  clear hb2
  go_wp2
  go_ret
  exact ⟨rfl, HW2.out⟩

/-- Whether Fold alters a rune. -/
def capital (c : Nat) : Bool := decide ((0x41 ≤ c ∧ c ≤ 0x5a) ∨ (0xc0 ≤ c ∧ c ≤ 0xde ∧ c ≠ 0xd7) ∨ (0x391 ≤ c ∧ c ≤ 0x3a9) ∨ (0x410 ≤ c ∧ c ≤ 0x42f))
theorem small_capital (c : Nat) : small c = if capital c = true then c + 32 else c := by
  unfold small capital
  simp only [decide_eq_true_eq]

set_option maxHeartbeats 3200000 in
theorem capital_any (c : Nat) (w : World) (B : Bool) (hB : capital c = B) :
    Calls Tryd.prog 44 #[.int .i32 (c : Int)] w fun e w' => e = .returned (.bool B) ∧ w' = w := by
  have W := Lib.hid (fun (a b : Int) (B : Bool) (hB : (decide (a ≤ (c : Int)) && decide ((c : Int) ≤ b)) = B) (u : World) => within_any (c : Int) a b u B hB)
  have hC : B = true ↔ (0x41 ≤ c ∧ c ≤ 0x5a) ∨ (0xc0 ≤ c ∧ c ≤ 0xde ∧ c ≠ 0xd7) ∨ (0x391 ≤ c ∧ c ≤ 0x3a9) ∨ (0x410 ≤ c ∧ c ≤ 0x42f) := by rw [← hB]; simp only [capital, decide_eq_true_eq]
  have HC := Lib.hid hC
  clear hB hC
  by_cases h1 : 65 ≤ c ∧ c ≤ 90
  · obtain rfl : B = true := HC.out.2 (by omega)
    have R1 := Lib.hid (fun u => W.out 65 90 true (by simp; omega) u)
    clear h1 W HC
    go_enter Tryd.func44, Tryd.ntmps44
    go_wp2_with fail
    refine (R1.out _).mono ?_
    rintro e w1 ⟨rfl, rfl⟩
    go_wp2
    go_ret
    exact ⟨rfl, rfl⟩
  have R1 := Lib.hid (fun u => W.out 65 90 false (by simp; omega) u)
  by_cases h2 : 913 ≤ c ∧ c ≤ 937
  · obtain rfl : B = true := HC.out.2 (by omega)
    have R2 := Lib.hid (fun u => W.out 192 222 false (by simp; omega) u)
    have R3 := Lib.hid (fun u => W.out 913 937 true (by simp; omega) u)
    clear h1 h2 W HC
    go_enter Tryd.func44, Tryd.ntmps44
    go_wp2_with fail
    refine (R1.out _).mono ?_
    rintro e w1 ⟨rfl, rfl⟩
    go_wp2_with fail
    refine (R2.out _).mono ?_
    rintro e w1 ⟨rfl, rfl⟩
    go_wp2_with fail
    refine (R3.out _).mono ?_
    rintro e w1 ⟨rfl, rfl⟩
    go_wp2
    go_ret
    exact ⟨rfl, rfl⟩
  have R3 := Lib.hid (fun u => W.out 913 937 false (by simp; omega) u)
  by_cases h3 : 192 ≤ c ∧ c ≤ 222
  · have R2 := Lib.hid (fun u => W.out 192 222 true (by simp; omega) u)
    by_cases h4 : c = 215
    · obtain rfl : B = false := by rw [← Bool.not_eq_true, HC.out]; omega
      have R4 := Lib.hid (fun u => W.out 1040 1071 false (by simp; omega) u)
      have hne : ((c : Int) != 215) = false := by rw [h4]; decide
      clear h1 h2 h3 h4 W HC
      go_enter Tryd.func44, Tryd.ntmps44
      go_wp2_with fail
      refine (R1.out _).mono ?_
      rintro e w1 ⟨rfl, rfl⟩
      go_wp2_with fail
      refine (R2.out _).mono ?_
      rintro e w1 ⟨rfl, rfl⟩
      go_wp2_with fail
      refine (R3.out _).mono ?_
      rintro e w1 ⟨rfl, rfl⟩
      go_wp2_with fail
      refine (R4.out _).mono ?_
      rintro e w1 ⟨rfl, rfl⟩
      go_wp2
      go_ret
      exact ⟨rfl, rfl⟩
    · obtain rfl : B = true := HC.out.2 (by omega)
      have hne : ((c : Int) != 215) = true := by simp; omega
      clear h1 h2 h3 h4 W HC
      go_enter Tryd.func44, Tryd.ntmps44
      go_wp2_with fail
      refine (R1.out _).mono ?_
      rintro e w1 ⟨rfl, rfl⟩
      go_wp2_with fail
      refine (R2.out _).mono ?_
      rintro e w1 ⟨rfl, rfl⟩
      go_wp2
      go_ret
      exact ⟨rfl, rfl⟩
  have R2 := Lib.hid (fun u => W.out 192 222 false (by simp; omega) u)
  have R4 := Lib.hid (fun u => W.out 1040 1071 B (by
    by_cases h6 : 1040 ≤ c ∧ c ≤ 1071
    · obtain rfl : B = true := HC.out.2 (by omega)
      simp
      omega
    · obtain rfl : B = false := by rw [← Bool.not_eq_true, HC.out]; omega
      simp
      omega) u)
  clear h1 h2 h3 W HC
  go_enter Tryd.func44, Tryd.ntmps44
  go_wp2_with fail
  refine (R1.out _).mono ?_
  rintro e w1 ⟨rfl, rfl⟩
  go_wp2_with fail
  refine (R2.out _).mono ?_
  rintro e w1 ⟨rfl, rfl⟩
  go_wp2_with fail
  refine (R3.out _).mono ?_
  rintro e w1 ⟨rfl, rfl⟩
  go_wp2_with fail
  refine (R4.out _).mono ?_
  rintro e w1 ⟨rfl, rfl⟩
  go_wp2
  go_ret
  exact ⟨rfl, rfl⟩
end Go.Proofs.YthlhhmhldpmpiaaDoor.Phr
