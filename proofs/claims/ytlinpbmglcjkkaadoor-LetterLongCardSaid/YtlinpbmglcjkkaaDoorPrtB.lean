/-
  readHigh, ReadNum and ReadStr of package parts answer what the plain mathematics of the text Prt says, and leave all memory that was there as it was. Conditions: that numbers and lengths fit.
-/
import Derived.Test.YtlinpbmglcjkkaaDoorPrtA
namespace Go.Proofs.YtlinpbmglcjkkaaDoor.Prt
open Go.RowKit Mur Lanes
set_option maxRecDepth 100000

theorem numV_high (s : List UInt8) (p : Int) (m : Nat) : numV (readHigh s p m) = (val (strV (cut s p m)).data.toList : Int) := by
  unfold readHigh
  cases cut s p m <;> rfl
theorem posV_high (s : List UInt8) (p : Int) (m : Nat) : posV (readHigh s p m) = posV (cut s p m) := by
  unfold readHigh
  cases cut s p m <;> rfl
theorem errV_high (s : List UInt8) (p : Int) (m : Nat) : errV (readHigh s p m) = errV (cut s p m) := by
  unfold readHigh
  cases cut s p m <;> rfl
theorem strV_cut (s : List UInt8) (p : Int) (m : Nat) : (strV (cut s p m)).size ≤ m := by
  cases h : cut s p m with
  | error e => exact Nat.zero_le _
  | ok r => exact Nat.le_of_eq (cut_facts s p m r.2 r.1 h).2.2.2.2
/-- A step of a number that is read byte by byte. -/
theorem shl_or (n b : Nat) (hn : n < 1099511627776) (hb : b < 256) : bits .or .i64 ((n : Int) * 256) (b : Int) = ((n * 256 + b : Nat) : Int) := by
  have e1 : (n : Int) * 256 = ((n * 256 : Nat) : Int) := by omega
  rw [e1, or_i64_nat _ _ (by omega) (by omega)]
  congr 1
  exact or_add' b n 8 hb

set_option maxHeartbeats 1600000 in
theorem readHigh_any (s : ByteArray) (p : Int) (m : Nat) (w : World) (V B E : Int) (hV : V = numV (readHigh s.data.toList p m)) (hB : B = posV (readHigh s.data.toList p m)) (hE : E = errV (readHigh s.data.toList p m)) (h1 : -9223372036854775808 ≤ p) (h2 : p ≤ 9223372036854775807) (hs : s.size ≤ 1000000000) (hm : m ≤ 5) :
    Calls Tryd.prog 50 #[.string s, .int .i64 p, .int .i64 (m : Int)] w fun e w' => e = .returned (.tuple #[.int .i64 V, .int .i64 B, .int .i64 E]) ∧ Below w.heap.size w w' := by
  rw [numV_high] at hV
  rw [posV_high] at hB
  rw [errV_high] at hE
  obtain ⟨X, hX⟩ : ∃ X, X = strV (cut s.data.toList p m) := ⟨_, rfl⟩
  have hXm : X.size ≤ m := by rw [hX]; exact strV_cut _ _ _
  rw [← hX] at hV
  have R := Lib.hid (fun u => cut_any s p m u X B E hX hB hE h1 h2 hs (by omega))
  have HV := Lib.hid hV
  clear hX hB hE hV h1 h2
  go_enter Tryd.func50, Tryd.ntmps50
  go_wp2_with fail
  refine (R.out _).mono ?_
  rintro e w1 ⟨rfl, hb⟩
  have HW := Lib.hid hb
  clear hb
  go_wp2
  go_loopw [12, 24] (fun n i wr => ∃ k : Nat, k ≤ X.size ∧ i = .int .i64 k ∧ n = .int .i64 (val (X.data.toList.take k) : Nat) ∧ wr = w1) (fun _ i _ => X.size - (intOf i).toNat)
  case atStart => exact ⟨0, by omega, rfl, rfl, rfl⟩
  case round =>
    obtain ⟨k, hk, rfl, rfl, rfl⟩ := hrel
    by_cases hlt : k < X.size
    · have hkl : k < X.data.toList.length := hlt
      obtain ⟨b, hb⟩ : ∃ b : Nat, b = (X.data.toList[k]).toNat := ⟨_, rfl⟩
      have hb2 : X[k].toNat = b := by rw [hb]; rfl
      obtain ⟨n, hn⟩ : ∃ n : Nat, n = val (X.data.toList.take k) := ⟨_, rfl⟩
      have hnl : n < 1099511627776 := by
        rw [hn]
        refine Nat.lt_of_lt_of_le (val_lt _) ?_
        rw [List.length_take]
        exact Nat.le_trans (Nat.pow_le_pow_right (by omega) (show min k X.data.toList.length ≤ 5 by have : X.data.toList.length = X.size := rfl; omega)) (by omega)
      have hbl : b < 256 := by rw [hb]; exact UInt8.toNat_lt _
      have hnx : val (X.data.toList.take (k + 1)) = n * 256 + b := by rw [val_take _ _ hkl, hn, hb]
      have hso := shl_or n b hnl hbl
      rw [← hn]
      have HN := Lib.hid hnx
      clear hb hn hnx
      go_wp2
      go_roundw
      case rel => exact ⟨k + 1, by omega, by go_num, by rw [HN.out, Int.natCast_add, Int.natCast_mul]; rfl, trivial⟩
      case measure => simp [intOf]; omega
    · obtain rfl : k = X.size := by omega
      have hall : X.data.toList.take X.size = X.data.toList := List.take_length
      rw [hall, ← HV.out]
      clear hall
      go_wp2
      go_ret3
      exact ⟨rfl, HW.out⟩

theorem readNum_any (s : ByteArray) (p : Int) (w : World) (V B E : Int) (hV : V = numV (readNum s.data.toList p)) (hB : B = posV (readNum s.data.toList p)) (hE : E = errV (readNum s.data.toList p)) (h1 : -9223372036854775808 ≤ p) (h2 : p ≤ 9223372036854775807) (hs : s.size ≤ 1000000000) :
    Calls Tryd.prog 23 #[.string s, .int .i64 p] w fun e w' => e = .returned (.tuple #[.int .i64 V, .int .i64 B, .int .i64 E]) ∧ Below w.heap.size w w' := by
  have R := Lib.hid (fun u => readHigh_any s p 5 u V B E hV hB hE h1 h2 hs (by omega))
  clear hV hB hE h1 h2
  go_enter Tryd.func23, Tryd.ntmps23
  go_wp2_with fail
  refine (R.out _).mono ?_
  rintro e w1 ⟨rfl, hb⟩
  go_wp2
  go_ret3
  exact ⟨rfl, hb⟩

set_option maxHeartbeats 1600000 in
theorem readStr_any (s : ByteArray) (p : Int) (w : World) (X : ByteArray) (B E : Int) (hX : X = strV (readStr s.data.toList p)) (hB : B = posV (readStr s.data.toList p)) (hE : E = errV (readStr s.data.toList p)) (h1 : -9223372036854775808 ≤ p) (h2 : p ≤ 9223372036854775807) (hs : s.size ≤ 1000000000) :
    Calls Tryd.prog 42 #[.string s, .int .i64 p] w fun e w' => e = .returned (.tuple #[.string X, .int .i64 B, .int .i64 E]) ∧ Below w.heap.size w w' := by
  have R := Lib.hid (fun u => readHigh_any s p 2 u _ _ _ rfl rfl rfl h1 h2 hs (by omega))
  unfold readStr at hX hB hE
  cases hr : readHigh s.data.toList p 2 with
  | error x =>
    rw [hr] at R hX hB hE
    obtain rfl : X = ⟨#[]⟩ := hX
    obtain rfl : B = 0 := hB
    obtain rfl : E = (x : Int) := hE
    have R1 := Lib.hid (show ∀ u, Calls Tryd.prog 50 #[.string s, .int .i64 p, .int .i64 2] u fun e w' => e = .returned (.tuple #[.int .i64 0, .int .i64 0, .int .i64 (x : Int)]) ∧ Below u.heap.size u w' from R.out)
    have hx : ((x : Int) != 0) = true := by
      have := readHigh_err _ _ _ _ hr
      simp
      omega
    clear hr R h1 h2
    go_enter Tryd.func42, Tryd.ntmps42
    go_wp2_with fail
    refine (R1.out _).mono ?_
    rintro e w1 ⟨rfl, hb⟩
    go_wp2
    go_ret3
    exact ⟨rfl, hb⟩
  | ok r =>
    obtain ⟨n, q⟩ := r
    rw [hr] at R hX hB hE
    dsimp only at hX hB hE
    have R1 := Lib.hid (show ∀ u, Calls Tryd.prog 50 #[.string s, .int .i64 p, .int .i64 2] u fun e w' => e = .returned (.tuple #[.int .i64 (n : Int), .int .i64 (q : Int), .int .i64 0]) ∧ Below u.heap.size u w' from R.out)
    obtain ⟨f1, f2, f3, f4, f5⟩ := readHigh_facts _ _ _ _ _ hr
    have hq : q ≤ 1000000000 := Nat.le_trans f3 hs
    have hn : n ≤ 65536 := by omega
    have hx : ((0 : Int) != 0) = false := by simp
    clear hr R f1 f2 f3 f4 f5
    by_cases hl : 6000 < n
    · rw [if_pos hl] at hX hB hE
      obtain rfl : X = ⟨#[]⟩ := hX
      obtain rfl : B = 0 := hB
      obtain rfl : E = 4 := hE
      have hd : decide (6000 < (n : Int)) = true := decide_eq_true (by omega)
      clear h1 h2
      go_enter Tryd.func42, Tryd.ntmps42
      go_wp2_with fail
      refine (R1.out _).mono ?_
      rintro e w1 ⟨rfl, hb⟩
      go_wp2
      go_ret3
      exact ⟨rfl, hb⟩
    · rw [if_neg hl] at hX hB hE
      have R2 := Lib.hid (fun u => cut_any s (q : Int) n u X B E hX hB hE (by omega) (by omega) hs (by omega))
      have hd : decide (6000 < (n : Int)) = false := decide_eq_false (by omega)
      have hd2 : decide (6000 < n) = false := decide_eq_false (by omega)
      clear hX hB hE h1 h2
      go_enter Tryd.func42, Tryd.ntmps42
      go_wp2_with fail
      refine (R1.out _).mono ?_
      rintro e w1 ⟨rfl, hb⟩
      have HW := Lib.hid hb
      clear hb
      go_wp2_with fail
      refine (R2.out _).mono ?_
      rintro e w2 ⟨rfl, hb⟩
      have HW2 := Lib.hid (HW.out.trans (hb.mono HW.out.size))
      clear hb
      go_wp2
      go_ret3
      exact ⟨rfl, HW2.out⟩
end Go.Proofs.YtlinpbmglcjkkaaDoor.Prt
