/-
  within, allowed, mayBeSaid, said, Count, Width, Right, begin, Cut and capital of package phrase answer what the plain mathematics of the texts Phr and PhrB says, and leave all memory that was there as it was. Conditions: that numbers and lengths fit.
-/
import Derived.Test.YthlhhmhldpmpiaaDoorPhrD
import Derived.Test.YthlhhmhldpmpiaaDoorShelf
import Derived.Lib.Hide
import Derived.BigQuiet
import Derived.Deep.QuietTactic
import Derived.Deep.LoopGhost
namespace Go.Proofs.YthlhhmhldpmpiaaDoor.Phr
open Go.RowKit Mur
set_option maxRecDepth 100000

set_option maxHeartbeats 800000 in
theorem within_any (r a b : Int) (w : World) (B : Bool) (hB : (decide (a ≤ r) && decide (r ≤ b)) = B) :
    Calls Tryd.prog 62 #[.int .i32 r, .int .i32 a, .int .i32 b] w fun e w' => e = .returned (.bool B) ∧ w' = w := by
  by_cases h1 : a ≤ r
  · have hd : decide (a ≤ r) = true := decide_eq_true h1
    rw [hd, Bool.true_and] at hB
    subst hB
    clear h1
    go_enter Tryd.func62, Tryd.ntmps62
    go_wp2
    go_ret
    exact ⟨rfl, rfl⟩
  · have hd : decide (a ≤ r) = false := decide_eq_false h1
    rw [hd, Bool.false_and] at hB
    subst hB
    clear h1
    go_enter Tryd.func62, Tryd.ntmps62
    go_wp2
    go_ret
    exact ⟨rfl, rfl⟩

set_option maxHeartbeats 1600000 in
theorem allowed_any (c : Nat) (w : World) (B : Bool) (hB : may c = B) :
    Calls Tryd.prog 57 #[.int .i32 (c : Int)] w fun e w' => e = .returned (.bool B) ∧ w' = w := by
  have W := Lib.hid (fun (a b : Int) (B : Bool) (hB : (decide (a ≤ (c : Int)) && decide ((c : Int) ≤ b)) = B) (u : World) => within_any (c : Int) a b u B hB)
  by_cases h1 : c = 173
  · obtain rfl : B = false := by rw [← hB, h1]; rfl
    subst h1
    clear hB
    go_enter Tryd.func57, Tryd.ntmps57
    go_wp2
    go_ret
    exact ⟨rfl, rfl⟩
  have n1 : ((c : Int) == 173) = false := by rw [beq_eq_false_iff_ne]; omega
  by_cases h2 : c = 930
  · obtain rfl : B = false := by rw [← hB, h2]; rfl
    subst h2
    clear hB
    go_enter Tryd.func57, Tryd.ntmps57
    go_wp2
    go_ret
    exact ⟨rfl, rfl⟩
  have n2 : ((c : Int) == 930) = false := by rw [beq_eq_false_iff_ne]; omega
  have hm := may_iff c
  by_cases h3 : 32 ≤ c ∧ c ≤ 126
  · obtain rfl : B = true := by rw [← hB, hm]; omega
    have R1 := Lib.hid (fun u => W.out 32 126 true (by simp; omega) u)
    clear hB hm h1 h2 h3 W
    go_enter Tryd.func57, Tryd.ntmps57
    go_wp2_with fail
    refine (R1.out _).mono ?_
    rintro e w1 ⟨rfl, rfl⟩
    go_wp2
    go_ret
    exact ⟨rfl, rfl⟩
  have R1 := Lib.hid (fun u => W.out 32 126 false (by simp; omega) u)
  by_cases h4 : 161 ≤ c ∧ c ≤ 591
  · obtain rfl : B = true := by rw [← hB, hm]; omega
    have R2 := Lib.hid (fun u => W.out 161 591 true (by simp; omega) u)
    clear hB hm h1 h2 h3 h4 W
    go_enter Tryd.func57, Tryd.ntmps57
    go_wp2_with fail
    refine (R1.out _).mono ?_
    rintro e w1 ⟨rfl, rfl⟩
    go_wp2_with fail
    refine (R2.out _).mono ?_
    rintro e w1 ⟨rfl, rfl⟩
    go_wp2
    go_ret
    exact ⟨rfl, rfl⟩
  have R2 := Lib.hid (fun u => W.out 161 591 false (by simp; omega) u)
  by_cases h5 : 913 ≤ c ∧ c ≤ 969
  · obtain rfl : B = true := by rw [← hB, hm]; omega
    have R3 := Lib.hid (fun u => W.out 913 969 true (by simp; omega) u)
    clear hB hm h1 h2 h3 h4 h5 W
    go_enter Tryd.func57, Tryd.ntmps57
    go_wp2_with fail
    refine (R1.out _).mono ?_
    rintro e w1 ⟨rfl, rfl⟩
    go_wp2_with fail
    refine (R2.out _).mono ?_
    rintro e w1 ⟨rfl, rfl⟩
    go_wp2_with fail
    refine (R3.out _).mono ?_
    rintro e w1 ⟨rfl, rfl⟩
    go_wp2
    go_ret
    exact ⟨rfl, rfl⟩
  have R3 := Lib.hid (fun u => W.out 913 969 false (by simp; omega) u)
  have R4 := Lib.hid (fun u => W.out 1040 1103 B (by
    by_cases h6 : 1040 ≤ c ∧ c ≤ 1103
    · obtain rfl : B = true := by rw [← hB, hm]; omega
      simp
      omega
    · obtain rfl : B = false := by rw [← hB, ← Bool.not_eq_true, hm]; omega
      simp
      omega) u)
  clear hB hm h1 h2 h3 h4 h5 W
  cases B with
  | true =>
    go_enter Tryd.func57, Tryd.ntmps57
    go_wp2_with fail
    refine (R1.out _).mono ?_
    rintro e w1 ⟨rfl, rfl⟩
    go_wp2_with fail
    refine (R2.out _).mono ?_
    rintro e w1 ⟨rfl, rfl⟩
    go_wp2_with fail
    refine (R3.out _).mono ?_
    rintro e w1 ⟨rfl, rfl⟩
    go_wp2_with fail
    refine (R4.out _).mono ?_
    rintro e w1 ⟨rfl, rfl⟩
    go_wp2
    go_ret
    exact ⟨rfl, rfl⟩
  | false =>
    go_enter Tryd.func57, Tryd.ntmps57
    go_wp2_with fail
    refine (R1.out _).mono ?_
    rintro e w1 ⟨rfl, rfl⟩
    go_wp2_with fail
    refine (R2.out _).mono ?_
    rintro e w1 ⟨rfl, rfl⟩
    go_wp2_with fail
    refine (R3.out _).mono ?_
    rintro e w1 ⟨rfl, rfl⟩
    go_wp2_with fail
    refine (R4.out _).mono ?_
    rintro e w1 ⟨rfl, rfl⟩
    go_wp2
    go_ret
    exact ⟨rfl, rfl⟩

set_option maxHeartbeats 1600000 in
theorem maybe_any (s : ByteArray) (w : World) (B : Bool) (hB : (runes s.data.toList).isSome = B) :
    Calls Tryd.prog 37 #[.string s] w fun e w' => e = .returned (.bool B) ∧ Below w.heap.size w w' := by
  have HB := Lib.hid hB
  clear hB
  go_enter Tryd.func37, Tryd.ntmps37
  go_wp2
  go_loopg [] s.size (fun gk wx => ∃ pos : Nat, wx = w.iter s pos ∧ pos ≤ s.size ∧ s.size ≤ pos + gk ∧ (runes (s.data.toList.drop pos)).isSome = B)
  case atStart => exact ⟨0, rfl, by omega, by omega, by rw [List.drop_zero]; exact HB.out⟩
  case round =>
    obtain ⟨pos, rfl, hps, hfu, hrs⟩ := hrel
    by_cases hlt : pos < s.size
    · obtain ⟨g', rfl⟩ : ∃ g', gk = g' + 1 := ⟨gk - 1, by omega⟩
      have hnx : ∀ ty, (Instr.next (.pointer (some ⟨w.heap.size, 0, none⟩)) true ty).run Tryd.prog (w.iter s pos) = _ := fun ty => run_next_any w s pos ty hlt
      have hsl : s.data.toList.length = s.size := rfl
      have hne : s.data.toList.drop pos ≠ [] := fun h0 => by
        have := congrArg List.length h0
        rw [List.length_drop, hsl] at this
        simp at this
        omega
      have hwn : pos + (Utf8.decode s pos).2 ≤ s.size := by
        have := Lib.decodeL_le _ hne
        rw [Lib.decodeL_drop, List.length_drop, hsl] at this
        omega
      have hwd := Lib.decode_width_pos s pos hlt
      rw [runes_decode s pos hlt] at hrs
      generalize (Utf8.decode s pos).1 = R at *
      generalize (Utf8.decode s pos).2 = K at *
      have HFU := Lib.hid hfu
      clear hne hsl HB hfu
      cases hm : may R with
      | true =>
        rw [hm, if_pos rfl, Option.isSome_map] at hrs
        have HR := Lib.hid hrs
        have R1 := Lib.hid (fun u => allowed_any R u true hm)
        clear hrs hm
        go_wp2_with fail
        refine (R1.out _).mono ?_
        rintro e w1 ⟨rfl, rfl⟩
        go_wp2
        go_roundg g'
        case measure => omega
        case rel => exact ⟨pos + K, rfl, hwn, by have := HFU.out; omega, HR.out⟩
      | false =>
        obtain rfl : B = false := by rw [hm] at hrs; exact hrs.symm
        have R1 := Lib.hid (fun u => allowed_any R u false hm)
        clear hrs hm
        go_wp2_with fail
        refine (R1.out _).mono ?_
        rintro e w1 ⟨rfl, rfl⟩
        go_wp2
        go_ret
        exact ⟨rfl, (Below.refl _ w).alloc (Nat.le_refl _) _⟩
    · have hnx : ∀ ty, (Instr.next (.pointer (some ⟨w.heap.size, 0, none⟩)) true ty).run Tryd.prog (w.iter s pos) = _ := fun ty => run_next_end w s pos ty hlt
      obtain rfl : B = true := by
        rw [List.drop_eq_nil_of_le (show s.data.toList.length ≤ pos by have : s.data.toList.length = s.size := rfl; omega), runes_nil] at hrs
        exact hrs.symm
      clear hrs HB
      go_wp2
      go_ret
      exact ⟨rfl, (Below.refl _ w).alloc (Nat.le_refl _) _⟩
end Go.Proofs.YthlhhmhldpmpiaaDoor.Phr
