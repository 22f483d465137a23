/-
  PhraseCut of layer 11: for any text and number: what is cut off and the rest are the text; words that were split are the text without blanks. Conditions: those of the row alone (the listed tables of the library as the text lays them; the tie is the card).
-/
import Derived.Test.YthlhhmhldpmpiaaDoorPhrFrame
import Derived.Test.YthlhhmhldpmpiaaDoorPhrAwake
namespace Go.Proofs.YthlhhmhldpmpiaaDoor.LawCt
open Go.ChangeShapes Go.WideShapes Go.ChangeAt Go.ChangeMaps Go.RowKit Mur Phr
set_option maxRecDepth 100000

theorem solid_next (s : List UInt8) (i : Nat) (b : UInt8) (h : s[i]? = some b) : solid (s.take (i + 1)) = solid (s.take i) ++ (if b = 32 then [] else [b]) := by
  have h1 : s.take (i + 1) = s.take i ++ [b] := by
    obtain ⟨hk, rfl⟩ := List.getElem?_eq_some_iff.1 h
    exact (List.take_append_getElem hk).symm
  rw [h1, solid_append]
  congr 1
  by_cases hb : b = 32
  · rw [if_pos hb, hb]
    rfl
  · rw [if_neg hb]
    simp [solid, hb]
theorem solid_length (s : List UInt8) : (solid s).length ≤ s.length := List.length_filter_le _ _
theorem flat_next (L : List (List Nat)) (k : Nat) (v : List Nat) (h : L[k]? = some v) : text (L.take (k + 1)).flatten = text (L.take k).flatten ++ text v := by
  have h1 : L.take (k + 1) = L.take k ++ [v] := by
    obtain ⟨hk, rfl⟩ := List.getElem?_eq_some_iff.1 h
    exact (List.take_append_getElem hk).symm
  rw [h1, List.flatten_append, text_append]
  simp
theorem flat_length (L : List (List Nat)) (k : Nat) : (text (L.take k).flatten).length ≤ (text L.flatten).length := by
  have h : L.flatten = (L.take k).flatten ++ (L.drop k).flatten := by rw [← List.flatten_append, List.take_append_drop]
  rw [h, text_append, List.length_append]
  omega

set_option maxHeartbeats 6400000 in
theorem walk (s : ByteArray) (n : Int) (w : World) (hs : s.data.toList.length ≤ 140737488355328) (hn : -9223372036854775808 ≤ n ∧ n ≤ 9223372036854775807) (hl : Lim w) :
    Calls Tryd.prog 8 #[.string s, .int .i64 n] w fun e w' => e = .returned (.bool true) ∧ Below w.heap.size w w' := by
  have hsl : s.data.toList.length = s.size := rfl
  have HLIM := Lib.hid (fun (u : World) (hb : Below w.heap.size w u) => hl.below hb)
  have RA := Lib.hid (fun u hu => awake_any u hu)
  clear hl
  by_cases hg : 300 < s.size
  · have hd : decide (300 < (s.size : Int)) = true := decide_eq_true (by omega)
    have hd2 : decide (300 < s.size) = true := decide_eq_true hg
    clear hsl hs
    go_enter Tryd.func8, Tryd.ntmps8
    go_wp2_with fail
    refine (RA.out _ (HLIM.out _ (Below.refl _ _))).mono ?_
    rintro e w1 ⟨rfl, hb1⟩
    go_wp2
    go_ret
    exact ⟨rfl, hb1⟩
  · have hd : decide (300 < (s.size : Int)) = false := decide_eq_false (by omega)
    have hd2 : decide (300 < s.size) = false := decide_eq_false hg
    obtain ⟨N, hN⟩ : ∃ N, N = count s.data.toList := ⟨_, rfl⟩
    have R1 := Lib.hid (fun u => count_any s (N : Int) u (by rw [hN]) (by omega))
    by_cases h0 : N = 0
    · have e0 : ((N : Int) == 0) = true := by rw [h0]; rfl
      clear hN h0 hsl hs hg
      go_enter Tryd.func8, Tryd.ntmps8
      go_wp2_with fail
      refine (R1.out _).mono ?_
      rintro e w1 ⟨rfl, hb1⟩
      have HW1 := Lib.hid hb1
      clear hb1
      go_wp2_with fail
      refine (RA.out _ (HLIM.out _ HW1.out)).mono ?_
      rintro e w2 ⟨rfl, hb2⟩
      have HW2 := Lib.hid (HW1.out.trans (hb2.mono HW1.out.size))
      clear hb2
      go_wp2
      go_ret
      exact ⟨rfl, HW2.out⟩
    · have e0 : ((N : Int) == 0) = false := by rw [beq_eq_false_iff_ne]; omega
      obtain ⟨l, hl, hrs, htx⟩ := runes_some (show 0 < count s.data.toList by omega)
      have hNl : N = l.length := by rw [hN, count, hrs]
      obtain ⟨f1, f2, f3, f4⟩ := cut_facts n hl
      obtain ⟨A, hA⟩ : ∃ A, A = tx (cutB s.data.toList n) := ⟨_, rfl⟩
      obtain ⟨M, hM⟩ : ∃ M, M = count (cutB s.data.toList n) := ⟨_, rfl⟩
      have hAs : A.size ≤ s.size := by rw [hA, tx_size]; exact f1
      have hNs : N ≤ 300 := by rw [hN]; have := count_le s.data.toList; omega
      have T1 := Lib.hid (fun u => cut_any s n A u hA hn.1 hn.2 (by omega))
      have T2 := Lib.hid (fun u => count_any A (M : Int) u (by rw [hM, hA]) (by omega))
      have hmx : max (0 : Int) (min n (N : Int)) = (M : Int) := by rw [hM, f3, hNl]; unfold clamp; omega
      have hsA : ∀ u, (Instr.slice 9 (.string s) none (some (.int .i64 (A.size : Int))) none).run Tryd.prog u = .ok (.string A) u := fun u => by
        have := run_slice_string_h (P := Tryd.prog) u 9 s Tryd.underlying9 .i64 (A.size : Int) (by omega) (by omega)
        rw [this, Int.toNat_natCast, tx_extract, List.drop_zero, Nat.sub_zero, hA, tx_size, f2]
      have g1 : decide ((s.size : Int) < (A.size : Int)) = false := decide_eq_false (by omega)
      have g2 : decide (s.size < A.size) = false := decide_eq_false (by omega)
      have HEQ := Lib.hid (show (N : Int) ≤ n → A = s from fun h => by rw [hA, f4 (by omega)])
      obtain ⟨L, hL⟩ : ∃ L, L = split (rs s.data.toList) := ⟨_, rfl⟩
      have T3 := Lib.hid (fun u => split_any s u L hL (by omega))
      have HSOL := Lib.hid (show text L.flatten = solid s.data.toList by
        rw [hL, ← text_flatten]
        exact split_solid hl)
      obtain ⟨q, hq⟩ : ∃ q, q = L.length := ⟨_, rfl⟩
      have HQ := Lib.hid hq
      rw [← hq] at T3
      have hs3 : s.size ≤ 300 := by omega
      have hq2 : q ≤ 301 := by
        have h1 := split_count (rs s.data.toList)
        have h2 := rs_length s.data.toList
        rw [hq, hL]
        omega
      clear hN h0 hs hg hl hrs htx hNl f1 f2 f3 f4 hA hM hAs hNs hL hq
      have hcase : (decide ((N : Int) ≤ n) = true ∧ A = s) ∨ decide ((N : Int) ≤ n) = false := by
        by_cases h : (N : Int) ≤ n
        · exact .inl ⟨decide_eq_true h, HEQ.out h⟩
        · exact .inr (decide_eq_false h)
      have go := Lib.hid (show True from trivial)
      rcases hcase with ⟨g3, rfl⟩ | g3
      · have g4 : (!(A.toList == A.toList)) = false := by simp
        go_enter Tryd.func8, Tryd.ntmps8
        go_wp2_with fail
        refine (R1.out _).mono ?_
        rintro e w1 ⟨rfl, hb1⟩
        have HW1 := Lib.hid hb1
        clear hb1
        go_wp2_with fail
        refine (T1.out _).mono ?_
        rintro e w2 ⟨rfl, hb2⟩
        have HW2 := Lib.hid (HW1.out.trans (hb2.mono HW1.out.size))
        clear hb2
        go_wp2_with fail
        refine (T2.out _).mono ?_
        rintro e w3 ⟨rfl, hb3⟩
        have HW3 := Lib.hid (HW2.out.trans (hb3.mono HW2.out.size))
        clear hb3
        go_wp2_with fail
        refine (R1.out _).mono ?_
        rintro e w4 ⟨rfl, hb4⟩
        have HW4 := Lib.hid (HW3.out.trans (hb4.mono HW3.out.size))
        clear hb4
        go_wp2_with fail
        refine (R1.out _).mono ?_
        rintro e w5 ⟨rfl, hb5⟩
        have HW5 := Lib.hid (HW4.out.trans (hb5.mono HW4.out.size))
        clear hb5
        go_wp2_with fail
        refine (T3.out _).mono ?_
        rintro e w6 ⟨v, rfl, hown, hb6⟩
        have HW6 := Lib.hid (HW5.out.trans (hb6.mono HW5.out.size))
        obtain ⟨ao, c, rfl, -, -, hrow⟩ := Strs.own_slice hown
        have HROW := Lib.hid hrow
        clear hb6 hown hrow
        go_wp2_with fail
        go_loopw [6, 60] (fun a i wr => ∃ k : Nat, k ≤ q ∧ i = .int .i64 k ∧ a = .string (tx (text (L.take k).flatten)) ∧ w6 = wr) (fun _ i _ => q - (intOf i).toNat)
        case atStart => exact ⟨0, Nat.zero_le _, rfl, rfl, rfl⟩
        case round =>
          obtain ⟨k, hk, rfl, rfl, rfl⟩ := hrel
          by_cases hlt : k < q
          · obtain ⟨v, hv⟩ : ∃ v, L[k]? = some v := ⟨_, List.getElem?_eq_getElem (show k < L.length by have := HQ.out; omega)⟩
            obtain ⟨gb, rfl, -, -, hcell⟩ := HROW.out k _ (Strs.strsV_at (by simp [wordsT, hv]) : (Strs.strsV (wordsT L))[k]? = some (.string (tx (text v))))
            have hj : tx (text (L.take k).flatten) ++ tx (text v) = tx (text (L.take (k + 1)).flatten) := by rw [tx_append, ← flat_next L k v hv]
            have hbig : ¬ 9223372036854775807 < (tx (text (L.take k).flatten)).size + (tx (text v)).size := by
              have h1 := flat_length L (k + 1)
              rw [flat_next L k v hv, List.length_append, HSOL.out] at h1
              have h2 := solid_length A.data.toList
              have h3 : A.data.toList.length = A.size := rfl
              rw [tx_size, tx_size]
              omega
            generalize tx (text (L.take k).flatten) = X at *
            generalize tx (text v) = V at *
            generalize hY : tx (text (L.take (k + 1)).flatten) = Y at *
            have HY := Lib.hid hY
            clear hv hY
            go_wp2
            go_roundw
            case rel => exact ⟨k + 1, by omega, by go_num, by rw [HY.out], by first | rfl | trivial⟩
            case measure => simp [intOf]; omega
          · obtain rfl : k = q := by omega
            have hX : tx (text (L.take k).flatten) = tx (solid A.data.toList) := by rw [List.take_of_length_le (by have := HQ.out; omega), HSOL.out]
            rw [hX]
            clear hX
            obtain ⟨Z, hZ⟩ : ∃ Z, Z = tx (solid A.data.toList) := ⟨_, rfl⟩
            rw [← hZ]
            have HZ := Lib.hid hZ
            clear hZ
            go_wp2_with fail
            go_loopw [7, 70] (fun b i wr => ∃ j : Nat, j ≤ A.size ∧ i = .int .i64 j ∧ b = .string (tx (solid (A.data.toList.take j))) ∧ w6 = wr) (fun _ i _ => A.size - (intOf i).toNat)
            case atStart => exact ⟨0, Nat.zero_le _, rfl, rfl, rfl⟩
            case round =>
              obtain ⟨j, hj, rfl, rfl, rfl⟩ := hrel
              by_cases hlt2 : j < A.size
              · obtain ⟨b, hb⟩ : ∃ b, A.data.toList[j]? = some b := ⟨_, List.getElem?_eq_getElem (show j < A.data.toList.length from hlt2)⟩
                have hjl : j < A.size := hlt2
                have hbe : A[j]'hjl = b := by
                  have h1 := List.getElem?_eq_some_iff.1 hb
                  exact h1.2
                have hix : ∀ u, (Instr.index 9 (.string A) (.int .i64 (j : Int))).run Tryd.prog u = .ok (.int .u8 (b.toNat : Int)) u := fun u => by
                  rw [run_index_string (P := Tryd.prog) u 9 A .i64 (j : Int) Tryd.underlying9, dif_pos ⟨by omega, by omega⟩]
                  simp only [Int.toNat_natCast, hbe]
                have hnx := solid_next A.data.toList j b hb
                have hsz : (solid (A.data.toList.take j)).length ≤ 300 := by
                  have h2 := solid_length (A.data.toList.take j)
                  rw [List.length_take] at h2
                  have h3 : A.data.toList.length = A.size := rfl
                  omega
                by_cases hb32 : b = 32
                · have e1 : ((b.toNat : Int) != 32) = false := by rw [hb32]; decide
                  have HNX := Lib.hid (show tx (solid (A.data.toList.take j)) = tx (solid (A.data.toList.take (j + 1))) by rw [hnx, if_pos hb32, List.append_nil])
                  generalize tx (solid (A.data.toList.take j)) = X at *
                  clear hnx hsz hb hbe hjl
                  go_wp2
                  go_roundw
                  case rel => exact ⟨j + 1, by omega, by go_num, by rw [HNX.out], by first | rfl | trivial⟩
                  case measure => simp [intOf]; omega
                · have e1 : ((b.toNat : Int) != 32) = true := by
                    have : b.toNat ≠ 32 := fun h => hb32 (UInt8.toNat_inj.1 (h.trans rfl))
                    simp
                    omega
                  have hsl2 : ∀ u, (Instr.slice 9 (.string A) (some (.int .i64 (j : Int))) (some (.int .i64 ((j : Int) + 1))) none).run Tryd.prog u = .ok (.string (tx [b])) u := fun u => by
                    have := run_slice_string u 9 A .i64 .i64 (j : Int) ((j : Int) + 1) Tryd.underlying9 (by omega) (by omega) (by omega)
                    rw [this, Int.toNat_natCast, show ((j : Int) + 1).toNat = j + 1 by omega, tx_extract, show j + 1 - j = 1 by omega]
                    congr 3
                    rw [List.drop_eq_getElem_cons (show j < A.data.toList.length from hjl)]
                    have h1 := List.getElem?_eq_some_iff.1 hb
                    rw [h1.2]
                    rfl
                  have hj2 : tx (solid (A.data.toList.take j)) ++ tx [b] = tx (solid (A.data.toList.take (j + 1))) := by rw [tx_append, hnx, if_neg hb32]
                  have hbig : ¬ 9223372036854775807 < (tx (solid (A.data.toList.take j))).size + (tx [b]).size := by
                    rw [tx_size, tx_size, List.length_singleton]
                    omega
                  generalize tx (solid (A.data.toList.take j)) = X at *
                  generalize tx [b] = V at *
                  generalize hY : tx (solid (A.data.toList.take (j + 1))) = Y at *
                  have HY := Lib.hid hY
                  clear hnx hsz hb hbe hjl hY
                  go_wp2
                  go_roundw
                  case rel => exact ⟨j + 1, by omega, by go_num, by rw [HY.out], by first | rfl | trivial⟩
                  case measure => simp [intOf]; omega
              · obtain rfl : j = A.size := by omega
                have hE : tx (solid (A.data.toList.take A.size)) = Z := by rw [HZ.out, List.take_of_length_le (show A.data.toList.length ≤ A.size from Nat.le_refl _)]
                rw [hE]
                clear hE
                go_wp2_with fail
                refine (RA.out _ (HLIM.out _ HW6.out)).mono ?_
                rintro e w7 ⟨rfl, hb7⟩
                have HW7 := Lib.hid (HW6.out.trans (hb7.mono HW6.out.size))
                clear hb7
                go_wp2
                go_ret
                exact ⟨rfl, HW7.out⟩
      · go_enter Tryd.func8, Tryd.ntmps8
        go_wp2_with fail
        refine (R1.out _).mono ?_
        rintro e w1 ⟨rfl, hb1⟩
        have HW1 := Lib.hid hb1
        clear hb1
        go_wp2_with fail
        refine (T1.out _).mono ?_
        rintro e w2 ⟨rfl, hb2⟩
        have HW2 := Lib.hid (HW1.out.trans (hb2.mono HW1.out.size))
        clear hb2
        go_wp2_with fail
        refine (T2.out _).mono ?_
        rintro e w3 ⟨rfl, hb3⟩
        have HW3 := Lib.hid (HW2.out.trans (hb3.mono HW2.out.size))
        clear hb3
        go_wp2_with fail
        refine (R1.out _).mono ?_
        rintro e w4 ⟨rfl, hb4⟩
        have HW4 := Lib.hid (HW3.out.trans (hb4.mono HW3.out.size))
        clear hb4
        go_wp2_with fail
        refine (R1.out _).mono ?_
        rintro e w5 ⟨rfl, hb5⟩
        have HW5 := Lib.hid (HW4.out.trans (hb5.mono HW4.out.size))
        clear hb5
        go_wp2_with fail
        refine (T3.out _).mono ?_
        rintro e w6 ⟨v, rfl, hown, hb6⟩
        have HW6 := Lib.hid (HW5.out.trans (hb6.mono HW5.out.size))
        obtain ⟨ao, c, rfl, -, -, hrow⟩ := Strs.own_slice hown
        have HROW := Lib.hid hrow
        clear hb6 hown hrow
        go_wp2_with fail
        go_loopw [6, 60] (fun a i wr => ∃ k : Nat, k ≤ q ∧ i = .int .i64 k ∧ a = .string (tx (text (L.take k).flatten)) ∧ w6 = wr) (fun _ i _ => q - (intOf i).toNat)
        case atStart => exact ⟨0, Nat.zero_le _, rfl, rfl, rfl⟩
        case round =>
          obtain ⟨k, hk, rfl, rfl, rfl⟩ := hrel
          by_cases hlt : k < q
          · obtain ⟨v, hv⟩ : ∃ v, L[k]? = some v := ⟨_, List.getElem?_eq_getElem (show k < L.length by have := HQ.out; omega)⟩
            obtain ⟨gb, rfl, -, -, hcell⟩ := HROW.out k _ (Strs.strsV_at (by simp [wordsT, hv]) : (Strs.strsV (wordsT L))[k]? = some (.string (tx (text v))))
            have hj : tx (text (L.take k).flatten) ++ tx (text v) = tx (text (L.take (k + 1)).flatten) := by rw [tx_append, ← flat_next L k v hv]
            have hbig : ¬ 9223372036854775807 < (tx (text (L.take k).flatten)).size + (tx (text v)).size := by
              have h1 := flat_length L (k + 1)
              rw [flat_next L k v hv, List.length_append, HSOL.out] at h1
              have h2 := solid_length s.data.toList
              have h3 : s.data.toList.length = s.size := rfl
              rw [tx_size, tx_size]
              omega
            generalize tx (text (L.take k).flatten) = X at *
            generalize tx (text v) = V at *
            generalize hY : tx (text (L.take (k + 1)).flatten) = Y at *
            have HY := Lib.hid hY
            clear hv hY
            go_wp2
            go_roundw
            case rel => exact ⟨k + 1, by omega, by go_num, by rw [HY.out], by first | rfl | trivial⟩
            case measure => simp [intOf]; omega
          · obtain rfl : k = q := by omega
            have hX : tx (text (L.take k).flatten) = tx (solid s.data.toList) := by rw [List.take_of_length_le (by have := HQ.out; omega), HSOL.out]
            rw [hX]
            clear hX
            obtain ⟨Z, hZ⟩ : ∃ Z, Z = tx (solid s.data.toList) := ⟨_, rfl⟩
            rw [← hZ]
            have HZ := Lib.hid hZ
            clear hZ
            go_wp2_with fail
            go_loopw [7, 70] (fun b i wr => ∃ j : Nat, j ≤ s.size ∧ i = .int .i64 j ∧ b = .string (tx (solid (s.data.toList.take j))) ∧ w6 = wr) (fun _ i _ => s.size - (intOf i).toNat)
            case atStart => exact ⟨0, Nat.zero_le _, rfl, rfl, rfl⟩
            case round =>
              obtain ⟨j, hj, rfl, rfl, rfl⟩ := hrel
              by_cases hlt2 : j < s.size
              · obtain ⟨b, hb⟩ : ∃ b, s.data.toList[j]? = some b := ⟨_, List.getElem?_eq_getElem (show j < s.data.toList.length from hlt2)⟩
                have hjl : j < s.size := hlt2
                have hbe : s[j]'hjl = b := by
                  have h1 := List.getElem?_eq_some_iff.1 hb
                  exact h1.2
                have hix : ∀ u, (Instr.index 9 (.string s) (.int .i64 (j : Int))).run Tryd.prog u = .ok (.int .u8 (b.toNat : Int)) u := fun u => by
                  rw [run_index_string (P := Tryd.prog) u 9 s .i64 (j : Int) Tryd.underlying9, dif_pos ⟨by omega, by omega⟩]
                  simp only [Int.toNat_natCast, hbe]
                have hnx := solid_next s.data.toList j b hb
                have hsz : (solid (s.data.toList.take j)).length ≤ 300 := by
                  have h2 := solid_length (s.data.toList.take j)
                  rw [List.length_take] at h2
                  have h3 : s.data.toList.length = s.size := rfl
                  omega
                by_cases hb32 : b = 32
                · have e1 : ((b.toNat : Int) != 32) = false := by rw [hb32]; decide
                  have HNX := Lib.hid (show tx (solid (s.data.toList.take j)) = tx (solid (s.data.toList.take (j + 1))) by rw [hnx, if_pos hb32, List.append_nil])
                  generalize tx (solid (s.data.toList.take j)) = X at *
                  clear hnx hsz hb hbe hjl
                  go_wp2
                  go_roundw
                  case rel => exact ⟨j + 1, by omega, by go_num, by rw [HNX.out], by first | rfl | trivial⟩
                  case measure => simp [intOf]; omega
                · have e1 : ((b.toNat : Int) != 32) = true := by
                    have : b.toNat ≠ 32 := fun h => hb32 (UInt8.toNat_inj.1 (h.trans rfl))
                    simp
                    omega
                  have hsl2 : ∀ u, (Instr.slice 9 (.string s) (some (.int .i64 (j : Int))) (some (.int .i64 ((j : Int) + 1))) none).run Tryd.prog u = .ok (.string (tx [b])) u := fun u => by
                    have := run_slice_string u 9 s .i64 .i64 (j : Int) ((j : Int) + 1) Tryd.underlying9 (by omega) (by omega) (by omega)
                    rw [this, Int.toNat_natCast, show ((j : Int) + 1).toNat = j + 1 by omega, tx_extract, show j + 1 - j = 1 by omega]
                    congr 3
                    rw [List.drop_eq_getElem_cons (show j < s.data.toList.length from hjl)]
                    have h1 := List.getElem?_eq_some_iff.1 hb
                    rw [h1.2]
                    rfl
                  have hj2 : tx (solid (s.data.toList.take j)) ++ tx [b] = tx (solid (s.data.toList.take (j + 1))) := by rw [tx_append, hnx, if_neg hb32]
                  have hbig : ¬ 9223372036854775807 < (tx (solid (s.data.toList.take j))).size + (tx [b]).size := by
                    rw [tx_size, tx_size, List.length_singleton]
                    omega
                  generalize tx (solid (s.data.toList.take j)) = X at *
                  generalize tx [b] = V at *
                  generalize hY : tx (solid (s.data.toList.take (j + 1))) = Y at *
                  have HY := Lib.hid hY
                  clear hnx hsz hb hbe hjl hY
                  go_wp2
                  go_roundw
                  case rel => exact ⟨j + 1, by omega, by go_num, by rw [HY.out], by first | rfl | trivial⟩
                  case measure => simp [intOf]; omega
              · obtain rfl : j = s.size := by omega
                have hE : tx (solid (s.data.toList.take s.size)) = Z := by rw [HZ.out, List.take_of_length_le (show s.data.toList.length ≤ s.size from Nat.le_refl _)]
                rw [hE]
                clear hE
                go_wp2_with fail
                refine (RA.out _ (HLIM.out _ HW6.out)).mono ?_
                rintro e w7 ⟨rfl, hb7⟩
                have HW7 := Lib.hid (HW6.out.trans (hb7.mono HW6.out.size))
                clear hb7
                go_wp2
                go_ret
                exact ⟨rfl, HW7.out⟩

set_option maxRecDepth 100000 in
theorem lifted (os : Os) (started : os.Started) (H : Type) (enc : TypeId × Value → H) :
    ReturnsInHanded {} Tryd.checked os 8 .any (fun w args => (Rows.phraseCutSpec.pre enc Tryd.prog Tryd.f8 [] false w args ∧ laidMetH Tryd.prog laidL w) ∧ sizedMet enc Tryd.prog Tryd.f8 (OpenSpec.ofChange Rows.phraseCutSpec) false w args)
      (Rows.phraseCutSpec.post enc Tryd.prog Tryd.f8 false true false false) := by
  refine in_shape own started (by kernel_rfl) Tryd.func8
    (ChangeSpec.witness_shaped (enc := enc) (C := Tryd.checked) (os := os) (X := fun w _ => laidMetH Tryd.prog laidL w) false (World.laidAll Tryd.prog os laidL) #[.string ByteArray.empty, .int .i64 0] 8 (World.laidAll_os _ _ _) (table_shaped os _) (by kernel_rfl) (by kernel_rfl) (by kernel_rfl) (table_met os _)) ?_
  intro W base args ds gs before hval0 hW hsz0 hL
  have hval : ∀ (j : Nat) t v, Tryd.f8.params[j]? = some t → args[j]? = some v → Value.okWide Tryd.prog W .any base t v := hval0
  have hsz : (DataW.weightsEach Tryd.prog (Tryd.f8.params.toList ++ Rows.phraseCutSpec.plain.varTypes Tryd.prog) (ds ++ gs)).all (· ≤ reachBytes) = true := hsz0
  clear hsz0
  have hW' := hW
  obtain ⟨p, q, hA0, hV, rfl, hfz, hnd⟩ := hW
  have hA : DataW.TrodAll enc Tryd.prog W 0 (fun _ => true) true Tryd.f8.params.toList args.toList ds p := hA0
  rw [Tryd.params8] at hA hval hsz
  obtain ⟨v0, vs0, d0, ds0, p0, q0, hargs, rfl, rfl, h0, r0⟩ := trodAll_cons hA
  obtain ⟨v1, vs1, d1, ds1, p1, q1, rfl, rfl, rfl, h1, r1⟩ := trodAll_cons r0
  obtain ⟨rfl, rfl, rfl⟩ := trodAll_nil r1
  obtain rfl : args = #[v0, v1] := by cases args; simp_all
  obtain ⟨rfl, rfl⟩ := trodVars_none hV
  obtain ⟨s0, rfl, rfl, rfl, w0⟩ := open_string Tryd.underlying9 (hval 0 9 v0 rfl rfl) h0
  have z0 := reach_le (sized_string hsz (j := 0) (t := 9) (bytes := s0.data.toList) rfl rfl)
  obtain ⟨n1, rfl, rfl, rfl, w1⟩ := open_int Tryd.underlying3 (hval 1 3 v1 rfl rfl) h1
  have b1 := int_range w1
  have hcl := lim_shaped hL
  clear hA0 hval0
  refine (walk s0 n1 W z0 b1 hcl).mono fun e W' ⟨he, bel⟩ => ?_
  subst he
  exact ⟨_, rfl, _, _, _, [], _, [], hW', trodAll_mk1 (shut_bool Tryd.underlying4 _), (trodAll_cons_mk (shut_string Tryd.underlying9 w0) (trodAll_cons_mk (shut_int Tryd.underlying3 w1) trodAll_mk0)), rfl, bel.frame _, fun h => by cases h⟩

theorem over : Rows.PhraseCutSaid :=
  OpenClaim.holds_of_wide 8 Tryd.f8 rfl rfl rfl rfl rfl rfl rfl ⟨rfl, rfl, rfl, rfl, rfl⟩ rfl rfl rfl rfl rfl (by kernel_rfl) Tryd.func8 (by kernel_rfl)
    (of_decide_eq_true (by kernel_rfl)) (by unfold Func.isWrapper; first | (rw [if_pos (by decide +kernel)]; kernel_rfl) | (rw [if_neg (by decide +kernel)]; exact ⟨rfl, rfl⟩))
    (fun os started H enc _ => lifted os started H enc)

theorem proved : Rows.PhraseCutCardSaid :=
  Claim7.holds_tied_plain_at .later [] [.data, .pinned] true Rows.phraseCutCard.stood.harness false
    over (fun _ h => by cases h) (by kernel_rfl) (fun _ h => by cases h) phraseCut_row_tie rfl ⟨rfl, rfl⟩ (by kernel_rfl) rfl
    (fun f fn hf hfn => by
      obtain rfl : f = 8 := Option.some.inj ((show Tryd.prog.funcNamed "murmur/murmurlaw11.PhraseCut" = some 8 by kernel_rfl).symm.trans hf) |>.symm
      obtain rfl : fn = Tryd.f8 := (Option.some.inj (Tryd.func8.symm.trans hfn)).symm
      exact ⟨by kernel_rfl, fun j t ht => by
        rw [Tryd.params8] at ht
        have hm : t ∈ [9, 3] := by simpa using Array.mem_of_getElem? ht
        have hall : ([9, 3].all fun u => !Tryd.prog.wantsStandIn u) = true := by kernel_rfl
        exact (show Tryd.prog.wantsStandIn t = false by simpa using List.all_eq_true.1 hall t hm)⟩)
    (by kernel_rfl)
#print axioms proved
end Go.Proofs.YthlhhmhldpmpiaaDoor.LawCt
