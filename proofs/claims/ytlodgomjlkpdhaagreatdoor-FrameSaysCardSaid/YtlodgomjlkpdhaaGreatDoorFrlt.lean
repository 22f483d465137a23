/-
  The landed Turned of package frame of layer 18 answers what the plain mathematics of the text Frm says (the first bit that turned, or -1); all memory that was there is left as it was. Condition: texts of no more than 100000 bytes.
-/
import Derived.Test.YtlodgomjlkpdhaaGreatDoorFrla
import Derived.WalkMore
import Derived.Deep.LoopGhost
import Derived.Laws.BitsAllLaws
namespace Go.Proofs.YtlodgomjlkpdhaaGreatDoor.Frl
open Go.RowKit Mur Lanes Prt Tap Cel Frm
set_option maxRecDepth 100000
set_option linter.unusedSimpArgs false

theorem bit_live (s : ByteArray) (k : Int) (w : World) (h1 : -9223372036854775808 ≤ k) (h2 : k ≤ 9223372036854775807) (hs : s.size ≤ 140737488351232) :
    Calls Tryz.prog 26 #[.string s, .int .i64 k] w fun e w' => e = .returned (.int .i64 (bit s.data.toList k : Nat)) ∧ Below w.heap.size w w' :=
  (Lanes.bit_any s k w h1 h2 hs).mono fun _ _ ⟨he, hw⟩ => ⟨he, by rw [← hw]; exact Below.refl _ _⟩
theorem and_zero (x y m : Nat) (hx : x < 256) (hm : m < 8) (h : y &&& (255 - x) = 0) (h1 : y / 2 ^ m % 2 = 1) : x / 2 ^ m % 2 = 1 := by
  have t : (y &&& (255 - x)).testBit m = false := by rw [h]; exact Nat.zero_testBit m
  have e : 255 - x = 2 ^ 8 - (x + 1) := by omega
  rw [Nat.testBit_and, e, Nat.testBit_two_pow_sub_succ (by omega : x < 2 ^ 8), Nat.testBit_eq_decide_div_mod_eq, decide_eq_true h1, Bool.true_and, decide_eq_true hm, Bool.true_and, Nat.testBit_eq_decide_div_mod_eq] at t
  have : decide (x / 2 ^ m % 2 = 1) = true := by simpa using t
  exact of_decide_eq_true this
/-- Where no bit of a byte turned. -/
theorem still (a b : List UInt8) (k : Nat) (x y : UInt8) (hx : a[k]? = some x) (hy : b[k]? = some y) (h : y.toNat &&& (255 - x.toNat) = 0) (j : Nat) (h1 : 8 * k ≤ j) (h2 : j < 8 * k + 8) : isTurned a b j = false := by
  have hak : k < a.length := (List.getElem?_eq_some_iff.1 hx).1
  have hbk : k < b.length := (List.getElem?_eq_some_iff.1 hy).1
  have ex : byt a k = x.toNat := by rw [byt_get hak, (List.getElem?_eq_some_iff.1 hx).2]
  have ey : byt b k = y.toNat := by rw [byt_get hbk, (List.getElem?_eq_some_iff.1 hy).2]
  have e1 : (j : Int) / 8 = (k : Int) := by omega
  obtain ⟨m, hm⟩ : ∃ m, m = j - 8 * k := ⟨_, rfl⟩
  have e2 : ((j : Int) % 8).toNat = m := by omega
  have ba : bit a (j : Int) = x.toNat / 2 ^ m % 2 := by
    unfold bit
    rw [if_neg (by omega), e1, e2]
    show byt a k / _ % 2 = _
    rw [ex]
  have bb : bit b (j : Int) = y.toNat / 2 ^ m % 2 := by
    unfold bit
    rw [if_neg (by omega), e1, e2]
    show byt b k / _ % 2 = _
    rw [ey]
  unfold isTurned
  rw [ba, bb]
  by_cases h3 : y.toNat / 2 ^ m % 2 = 1
  · have := and_zero x.toNat y.toNat m x.toNat_lt (by omega) h h3
    rw [this]
    rfl
  · rw [decide_eq_false h3, Bool.and_false]

theorem eq_no (Q : Nat) (z : Int) (h : ¬ (Q : Int) = z) : ((Q : Int) == z) = false := by simpa using h
theorem le_next {i j : Nat} (h : i < j + 1) (e : ¬ i = j) : i < j := by omega
theorem cast_no {Q n : Nat} (h : ¬ Q = n) : ¬ (Q : Int) = (n : Int) := fun e => h (Int.ofNat.inj e)
theorem wrap_a (k : Nat) (h : k ≤ 100000) : wrap64 (8 * (k : Int)) = 8 * (k : Int) := IntWalk.wrap64_in _ (by omega)
theorem wrap_b (k : Nat) (h : k ≤ 1000000) : wrap64 ((k : Int) + 1) = (k : Int) + 1 := IntWalk.wrap64_in _ (by omega)
theorem wrap_c (k : Nat) (h : k ≤ 100000) : wrap64 (8 * ((k : Int) + 1)) = 8 * ((k : Int) + 1) := IntWalk.wrap64_in _ (by omega)

set_option maxHeartbeats 6400000 in
theorem turned_any (a b : ByteArray) (T : Int) (w : World) (hT : T = turned a.data.toList b.data.toList) (ha : a.size ≤ 100000) (hb : b.size ≤ 100000) :
    Calls Tryz.prog 13 #[.string a, .string b] w fun z w' => z = .returned (.int .i64 T) ∧ Below w.heap.size w w' := by
  obtain ⟨w0, hw0⟩ : ∃ w0, w0 = w := ⟨w, rfl⟩
  subst hw0
  obtain ⟨N, hN⟩ : ∃ N : Nat, N = min a.size b.size := ⟨_, rfl⟩
  have hN2 : min (a.size : Int) (b.size : Int) = (N : Int) := by rw [hN]; omega
  have hNl : N ≤ 100000 := by omega
  have hNa : N ≤ a.size := by omega
  have hNb : N ≤ b.size := by omega
  have hla : a.data.toList.length = a.size := rfl
  have hlb : b.data.toList.length = b.size := rfl
  have RP := Lib.hid (fun (k : Nat) (P : Nat) (hP : P = bit a.data.toList (k : Int)) (hk : k ≤ 800000) u => show Calls Tryz.prog 26 #[.string a, .int .i64 (k : Int)] u fun e w' => e = .returned (.int .i64 (P : Int)) ∧ Below u.heap.size u w' from by rw [hP]; exact (bit_live a (k : Int) u (by omega) (by omega) (by omega)))
  have RQ := Lib.hid (fun (k : Nat) (P : Nat) (hP : P = bit b.data.toList (k : Int)) (hk : k ≤ 800000) u => show Calls Tryz.prog 26 #[.string b, .int .i64 (k : Int)] u fun e w' => e = .returned (.int .i64 (P : Int)) ∧ Below u.heap.size u w' from by rw [hP]; exact (bit_live b (k : Int) u (by omega) (by omega) (by omega)))
  have HAT := Lib.hid (fun (k : Nat) (hk : k < 8 * N) (h : isTurned a.data.toList b.data.toList k = true) (h2 : ∀ j, j < k → isTurned a.data.toList b.data.toList j = false) => hT.trans (turned_at a.data.toList b.data.toList k (by rw [hla, hlb, ← hN]; exact hk) h h2))
  have HNO := Lib.hid (fun (h2 : ∀ j, j < 8 * N → isTurned a.data.toList b.data.toList j = false) => hT.trans (turned_none a.data.toList b.data.toList (by rw [hla, hlb, ← hN]; exact h2)))
  have HM := Lib.hid (Hold.Hld.start w0)
  clear hT hN hla hlb ha hb
  go_enter Tryz.func13, Tryz.ntmps13
  go_wp2
  go_step3
  go_wp2
  go_step3
  go_wp2
  go_loopg [5, 13] N (fun g f i wx => ∃ k : Nat, k + g = N ∧ f = .int .i64 (-1) ∧ i = .int .i64 (k : Int) ∧ (∀ j, j < 8 * k → isTurned a.data.toList b.data.toList j = false) ∧ Hold.Hld w0 [] wx)
  case atStart => exact ⟨0, by omega, rfl, rfl, fun j hj => absurd hj (by omega), HM.out⟩
  case round =>
    obtain ⟨k, hkg, rfl, rfl, hj, hm⟩ := hrel
    clear HM
    have HM := Lib.hid hm
    have HJ := Lib.hid hj
    clear hm hj
    cases gk with
    | zero =>
      have hkz : ¬ ((k : Int) < (N : Int)) := by omega
      obtain rfl : T = -1 := HNO.out (fun j h => HJ.out j (by omega))
      go_wp2
      try rw [Exit.noGoto_ret]
      go_ret
      exact ⟨rfl, HM.out.below⟩
    | succ g =>
      have hkz : (k : Int) < (N : Int) := by omega
      have hka : k < a.size := by omega
      have hkb : k < b.size := by omega
      obtain ⟨x, hx⟩ : ∃ x, x = a[k] := ⟨_, rfl⟩
      obtain ⟨y, hy⟩ : ∃ y, y = b[k] := ⟨_, rfl⟩
      have ixa : ∀ u : World, (Instr.index 9 (.string a) (.int .i64 (k : Int))).run Tryz.prog u = .ok (.int .u8 (x.toNat : Int)) u := fun u => by
        rw [run_index_string (P := Tryz.prog) u 9 a .i64 (k : Int) Tryz.underlying9, dif_pos ⟨by omega, by omega⟩]
        rw [hx]
        rfl
      have ixb : ∀ u : World, (Instr.index 9 (.string b) (.int .i64 (k : Int))).run Tryz.prog u = .ok (.int .u8 (y.toNat : Int)) u := fun u => by
        rw [run_index_string (P := Tryz.prog) u 9 b .i64 (k : Int) Tryz.underlying9, dif_pos ⟨by omega, by omega⟩]
        rw [hy]
        rfl
      have hga : a.data.toList[k]? = some x := by
        rw [hx]
        simp [hka]
        rfl
      have hgb : b.data.toList[k]? = some y := by
        rw [hy]
        simp [hkb]
        rfl
      obtain ⟨z, hz⟩ : ∃ z : Nat, z = y.toNat &&& (255 - x.toNat) := ⟨_, rfl⟩
      have hbits : bits .andNot .u8 (y.toNat : Int) (x.toNat : Int) = (z : Int) := by rw [hz]; exact u8_andNot_nat _ _ y.toNat_lt x.toNat_lt
      by_cases hz0 : z = 0
      · have q1 : ((z : Int) == 0) = true := by rw [hz0]; rfl
        have hn : ∀ j, j < 8 * (k + 1) → isTurned a.data.toList b.data.toList j = false := fun j hj => by
          by_cases h : j < 8 * k
          · exact HJ.out j h
          · exact still _ _ k x y hga hgb (by rw [← hz]; exact hz0) j (by omega) (by omega)
        have HN := Lib.hid hn
        clear hn hz hz0 hx hy hga hgb
        go_wp2
        go_quiet (fail)
        go_wp2
        go_roundg g
        case measure => omega
        case rel => exact ⟨k + 1, by omega, rfl, by go_num, HN.out, HM.out.next (Mur.belowN (Below.refl _ _) nq)⟩
      · have q1 : ((z : Int) == 0) = false := by simpa using hz0
        have hk1 : k ≤ 100000 := by omega
        have w1 := wrap_a k hk1
        have W23 := Lib.hid (And.intro (wrap_b k (Nat.le_trans hk1 (by decide))) (wrap_c k hk1))
        clear hz hz0 hx hy hga hgb
        go_wp2
        go_quiet (fail)
        go_wp2
        replace HM := Lib.hid (HM.out.next (Mur.belowN (Below.refl _ _) nq))
        generalize wr.drewN nq = wz at *
        clear ixa ixb hbits q1 w1 hkz hka hkb
        go_loopg [5, 7] 8 (fun m f t wx => ∃ j : Nat, j + m = 8 * k + 8 ∧ 8 * k ≤ j ∧ f = .int .i64 (-1) ∧ t = .int .i64 (j : Int) ∧ (∀ i, i < j → isTurned a.data.toList b.data.toList i = false) ∧ Hold.Hld w0 [] wx)
        case atStart => exact ⟨8 * k, rfl, Nat.le_refl _, rfl, by go_num, HJ.out, HM.out⟩
        case round =>
          obtain ⟨j, hjm, hjk, rfl, rfl, hj, hm⟩ := hrel
          clear HM HJ
          have HM := Lib.hid hm
          have HJ := Lib.hid hj
          clear hm hj
          cases gk with
          | zero =>
            have c1 : decide ((j : Int) < 8 * ((k : Int) + 1)) = false := decide_eq_false (by omega)
            have hn : ∀ i, i < 8 * (k + 1) → isTurned a.data.toList b.data.toList i = false := fun i hi => HJ.out i (by omega)
            have HN := Lib.hid hn
            clear hn hjm hjk
            obtain ⟨w2, w3⟩ := W23.out
            go_wp2
            clear w2 w3
            go_roundg g
            case measure => omega
            case rel => exact ⟨k + 1, by omega, rfl, by go_num, HN.out, HM.out⟩
          | succ g2 =>
            have c1 : decide ((j : Int) < 8 * ((k : Int) + 1)) = true := decide_eq_true (by omega)
            have hjl : j < 8 * N := by omega
            have W4 := Lib.hid (wrap_b j (by omega))
            obtain ⟨P, hP⟩ : ∃ P, P = bit a.data.toList (j : Int) := ⟨_, rfl⟩
            obtain ⟨Q, hQ⟩ : ∃ P, P = bit b.data.toList (j : Int) := ⟨_, rfl⟩
            have hti : isTurned a.data.toList b.data.toList j = (decide (P = 0) && decide (Q = 1)) := by rw [hP, hQ]; rfl
            have S1 := Lib.hid (RP.out j P hP (by omega))
            have S2 := Lib.hid (RQ.out j Q hQ (by omega))
            have HNX := Lib.hid (fun (h : isTurned a.data.toList b.data.toList j = false) (i : Nat) (hi : i < j + 1) => (by
              by_cases e : i = j
              · rw [e]; exact h
              · exact HJ.out i (le_next hi e) : isTurned a.data.toList b.data.toList i = false))
            clear hP hQ
            by_cases p0 : P = 0
            · have r1 : ((P : Int) == 0) = true := by rw [p0]; rfl
              by_cases p1 : Q = 1
              · have r2 : ((Q : Int) == 1) = true := by rw [p1]; rfl
                obtain rfl := HAT.out j hjl (by rw [hti, decide_eq_true p0, decide_eq_true p1]; rfl) HJ.out
                clear p0 p1 hti HNX
                obtain ⟨w2, w3⟩ := W23.out
                have w4 := W4.out
                go_wp2_with ((first
                  | ((with_reducible refine (S1.out _).mono ?_); rintro e w ⟨rfl, hb⟩; replace HM := Lib.hid (HM.out.next hb); clear hb)
                  | ((with_reducible refine (S2.out _).mono ?_); rintro e w ⟨rfl, hb⟩; replace HM := Lib.hid (HM.out.next hb); clear hb)))
                try rw [Exit.noGoto_ret]
                go_ret
                exact ⟨rfl, HM.out.below⟩
              · have r2 : ((Q : Int) == 1) = false := eq_no Q 1 (cast_no (n := 1) p1)
                have hn := HNX.out (by rw [hti, decide_eq_false p1, Bool.and_false])
                have HN := Lib.hid hn
                have HF := Lib.hid (And.intro hjm hjk)
                clear p0 p1 hti HNX hn hjm hjk hjl hkg hk1 hNl hNa hNb
                obtain ⟨w2, w3⟩ := W23.out
                go_upto_region 8 with ((first
                  | ((with_reducible refine (S1.out _).mono ?_); rintro e w ⟨rfl, hb⟩; replace HM := Lib.hid (HM.out.next hb); clear hb)
                  | ((with_reducible refine (S2.out _).mono ?_); rintro e w ⟨rfl, hb⟩; replace HM := Lib.hid (HM.out.next hb); clear hb)))
                clear w2 w3 c1 r1 r2
                have w4 := W4.out
                go_wp2
                clear w4
                obtain ⟨hjm, hjk⟩ := HF.out
                go_roundg g2
                case measure => exact Nat.lt_succ_self _
                case rel => exact ⟨j + 1, by omega, by omega, rfl, by first | (rw [W4.out]; rfl) | rfl, HN.out, HM.out⟩
            · have r1 : ((P : Int) == 0) = false := eq_no P 0 (cast_no (n := 0) p0)
              have hn := HNX.out (by rw [hti, decide_eq_false p0, Bool.false_and])
              have HN := Lib.hid hn
              have HF := Lib.hid (And.intro hjm hjk)
              clear p0 hti HNX hn hjm hjk hjl hkg hk1 hNl hNa hNb
              obtain ⟨w2, w3⟩ := W23.out
              go_upto_region 8 with ((with_reducible refine (S1.out _).mono ?_); rintro e w ⟨rfl, hb⟩; replace HM := Lib.hid (HM.out.next hb); clear hb)
              clear w2 w3 c1 r1
              have w4 := W4.out
              go_wp2
              clear w4
              obtain ⟨hjm, hjk⟩ := HF.out
              go_roundg g2
              case measure => exact Nat.lt_succ_self _
              case rel => exact ⟨j + 1, by omega, by omega, rfl, by first | (rw [W4.out]; rfl) | rfl, HN.out, HM.out⟩
end Go.Proofs.YtlodgomjlkpdhaaGreatDoor.Frl
