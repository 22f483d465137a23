/-
  The document's own answers for Num, Str, ReadNum and ReadStr of layer 10, and for how many parts follow, are what the plain mathematics of the text Prt says. Conditions: that numbers and lengths fit.
-/
import Derived.Test.YtlinpbmglcjkkaaPrtD
import Derived.Test.YtlinpbmglcjkkaaRefHigh
namespace Go.Proofs.Ytlinpbmglcjkkaa.RPrt
open Go.RowKit Mur Lanes Prt
set_option maxRecDepth 100000

set_option maxHeartbeats 1600000 in
theorem num_any (n : Int) (w : World) (X : ByteArray) (E : Int) (hX : X = layX (num n)) (hE : E = errV (num n)) (h1 : -9223372036854775808 ≤ n) (h2 : n ≤ 9223372036854775807) :
    Calls Try.prog 38 #[.int .i64 n] w fun e w' => e = .returned (.tuple #[.string X, .int .i64 E]) ∧ Below w.heap.size w w' := by
  by_cases hn : n < 0 ∨ 1099511627776 ≤ n
  · have hr : num n = .error 1 := by rw [num, if_pos hn]
    rw [hr] at hX hE
    obtain rfl : X = ⟨#[]⟩ := hX
    obtain rfl : E = 1 := hE
    clear hr
    by_cases ha : n < 0
    · have hd : decide (n < 0) = true := by simp [ha]
      clear hn
      go_enter Try.func38, Try.ntmps38
      go_wp2
      go_ret2
      exact ⟨rfl, Below.refl _ _⟩
    · have hb : 1099511627776 ≤ n := by omega
      have hd : decide (n < 0) = false := by simp; omega
      have hd2 : decide (1099511627775 < n) = true := decide_eq_true (by omega)
      clear hn
      go_enter Try.func38, Try.ntmps38
      go_wp2
      go_ret2
      exact ⟨rfl, Below.refl _ _⟩
  · obtain ⟨k, rfl⟩ : ∃ k : Nat, n = k := ⟨n.toNat, by omega⟩
    have hr : num (k : Int) = .ok (high k 5) := by rw [num, if_neg hn, Int.toNat_natCast]
    rw [hr] at hX hE
    obtain rfl : E = 0 := hE
    have R := Lib.hid (show ∀ u, Calls Try.prog 69 #[.int .u64 (k : Int), .int .i64 5] u fun e w' => e = .returned (.string X) ∧ Below u.heap.size u w' from fun u => by
      rw [hX]
      exact RefOne.high_any k 5 u (by omega) (by omega) (by omega))
    have hw : IntKind.u64.wrap (k : Int) = (k : Int) := by rw [IntKind.wrap_u64]; omega
    have hd : decide ((k : Int) < 0) = false := decide_eq_false (by omega)
    have hd2 : decide (1099511627775 < (k : Int)) = false := decide_eq_false (by omega)
    have hd3 : decide (1099511627775 < k) = false := decide_eq_false (by omega)
    clear hr hX hn h1 h2
    go_enter Try.func38, Try.ntmps38
    go_wp2_with fail
    refine (R.out _).mono ?_
    rintro e w1 ⟨rfl, hb⟩
    go_wp2
    go_ret2
    exact ⟨rfl, hb⟩

set_option maxHeartbeats 1600000 in
theorem str_any (s : ByteArray) (w : World) (X : ByteArray) (E : Int) (hX : X = layX (str s.data.toList)) (hE : E = errV (str s.data.toList)) (h1 : s.size ≤ 9223372036854775807) :
    Calls Try.prog 36 #[.string s] w fun e w' => e = .returned (.tuple #[.string X, .int .i64 E]) ∧ Below w.heap.size w w' := by
  have hsl : s.data.toList.length = s.size := rfl
  by_cases hn : 6000 < s.size
  · have hr : str s.data.toList = .error 4 := by rw [str, if_pos (by rw [hsl]; exact hn)]
    rw [hr] at hX hE
    obtain rfl : X = ⟨#[]⟩ := hX
    obtain rfl : E = 4 := hE
    have hd : decide (6000 < (s.size : Int)) = true := by simp; omega
    clear hr hsl
    go_enter Try.func36, Try.ntmps36
    go_wp2
    go_ret2
    exact ⟨rfl, Below.refl _ _⟩
  · have hr : str s.data.toList = .ok (high s.size 2 ++ s.data.toList) := by rw [str, if_neg (by rw [hsl]; exact hn), hsl]
    rw [hr] at hX hE
    obtain rfl : E = 0 := hE
    obtain ⟨H, hH⟩ : ∃ H : ByteArray, H = tx (high s.size 2) := ⟨_, rfl⟩
    have hHs : H.size = 2 := by rw [hH, tx_size, high_length]
    have hap : H ++ s = X := by rw [hX, hH]; exact tx_append (high s.size 2) s.data.toList
    have R := Lib.hid (show ∀ u, Calls Try.prog 69 #[.int .u64 (s.size : Int), .int .i64 2] u fun e w' => e = .returned (.string H) ∧ Below u.heap.size u w' from fun u => by
      rw [hH]
      exact RefOne.high_any s.size 2 u (by omega) (by omega) (by omega))
    have hw : IntKind.u64.wrap (s.size : Int) = (s.size : Int) := by rw [IntKind.wrap_u64]; omega
    have hd : decide (6000 < (s.size : Int)) = false := by simp; omega
    have hd2 : decide (6000 < s.size) = false := by simp; omega
    have hbig : ¬ 9223372036854775807 < H.size + s.size := by omega
    clear hr hX hH hsl
    go_enter Try.func36, Try.ntmps36
    go_wp2_with fail
    refine (R.out _).mono ?_
    rintro e w1 ⟨rfl, hb⟩
    go_wp2
    go_ret2
    exact ⟨rfl, hb⟩

theorem val_step (l : List UInt8) (k i : Nat) (h : k + i < l.length) : val ((l.drop k).take (i + 1)) = val ((l.drop k).take i) * 256 + l[k + i].toNat := by
  have hi : i < (l.drop k).length := by rw [List.length_drop]; omega
  rw [val_take _ _ hi, List.getElem_drop]
theorem readHigh_one (s : List UInt8) (p : Int) (m : Nat) (h : p < 0 ∨ (s.length : Int) < p) : readHigh s p m = .error 1 := by
  rw [readHigh, cut, if_pos h]
theorem readHigh_two (s : List UInt8) (k m : Nat) (h : ¬ ((k : Int) < 0 ∨ (s.length : Int) < (k : Int))) (h2 : (s.length : Int) - (k : Int) < (m : Int)) : readHigh s (k : Int) m = .error 2 := by
  rw [readHigh, cut, if_neg h, if_pos h2]
theorem readHigh_yes (s : List UInt8) (k m : Nat) (h : ¬ ((k : Int) < 0 ∨ (s.length : Int) < (k : Int))) (h2 : ¬ (s.length : Int) - (k : Int) < (m : Int)) : readHigh s (k : Int) m = .ok (val ((s.drop k).take m), k + m) := by
  rw [readHigh, cut, if_neg h, if_neg h2]
  rfl

set_option maxHeartbeats 1600000 in
theorem counted_any (s : ByteArray) (p : Int) (w : World) (V B E : Int) (hV : V = numV (readHigh s.data.toList p 1)) (hB : B = posV (readHigh s.data.toList p 1)) (hE : E = errV (readHigh s.data.toList p 1)) (h1 : -9223372036854775808 ≤ p) (h2 : p ≤ 9223372036854775807) (hs : s.size ≤ 1000000000) :
    Calls Try.prog 76 #[.string s, .int .i64 p] w fun e w' => e = .returned (.tuple #[.int .i64 V, .int .i64 B, .int .i64 E]) ∧ Below w.heap.size w w' := by
  have hsl : s.data.toList.length = s.size := rfl
  by_cases hn : p < 0 ∨ (s.size : Int) < p
  · have hr := readHigh_one s.data.toList p 1 hn
    rw [hr] at hV hB hE
    obtain rfl : V = 0 := hV
    obtain rfl : B = 0 := hB
    obtain rfl : E = 1 := hE
    clear hr hsl
    by_cases ha : p < 0
    · have hd : decide (p < 0) = true := decide_eq_true ha
      clear hn
      go_enter Try.func76, Try.ntmps76
      go_wp2
      go_ret3
      exact ⟨rfl, Below.refl _ _⟩
    · have hd : decide (p < 0) = false := decide_eq_false ha
      have hd2 : decide ((s.size : Int) < p) = true := decide_eq_true (by omega)
      clear hn
      go_enter Try.func76, Try.ntmps76
      go_wp2
      go_ret3
      exact ⟨rfl, Below.refl _ _⟩
  · obtain ⟨k, rfl⟩ : ∃ k : Nat, p = k := ⟨p.toNat, by omega⟩
    have hd : decide ((k : Int) < 0) = false := decide_eq_false (by omega)
    have hd2 : decide ((s.size : Int) < (k : Int)) = false := decide_eq_false (by omega)
    have hd3 : decide (s.size < k) = false := decide_eq_false (by omega)
    by_cases ha : k = s.size
    · have hr := readHigh_two s.data.toList k 1 hn (by omega)
      rw [hr] at hV hB hE
      obtain rfl : V = 0 := hV
      obtain rfl : B = 0 := hB
      obtain rfl : E = 2 := hE
      have hq : ((k : Int) == (s.size : Int)) = true := by simp [ha]
      clear hr hsl hn ha
      go_enter Try.func76, Try.ntmps76
      go_wp2
      go_ret3
      exact ⟨rfl, Below.refl _ _⟩
    · have hr := readHigh_yes s.data.toList k 1 hn (by omega)
      rw [hr] at hV hB hE
      have hk : k < s.size := by omega
      have hv := val_step s.data.toList k 0 (by omega)
      obtain ⟨b, hb⟩ : ∃ b : Nat, b = (s[k]).toNat := ⟨_, rfl⟩
      have hvb : V = (b : Int) := by
        rw [hV]
        show ((val ((s.data.toList.drop k).take 1) : Nat) : Int) = _
        rw [hv, hb]
        simp [val_nil]
        rfl
      subst hvb
      obtain rfl : B = (k : Int) + 1 := hB.trans (Int.natCast_add k 1)
      obtain rfl : E = 0 := hE
      have hb2 := hb.symm
      have hbl : b < 256 := by rw [hb]; exact UInt8.toNat_lt _
      have hq : ((k : Int) == (s.size : Int)) = false := by simp; omega
      clear hr hsl hn ha hV hB hv hb h1 h2
      go_enter Try.func76, Try.ntmps76
      go_wp2
      go_ret3
      exact ⟨rfl, Below.refl _ _⟩

set_option maxHeartbeats 1600000 in
theorem readNum_any (s : ByteArray) (p : Int) (w : World) (V B E : Int) (hV : V = numV (readNum s.data.toList p)) (hB : B = posV (readNum s.data.toList p)) (hE : E = errV (readNum s.data.toList p)) (h1 : -9223372036854775808 ≤ p) (h2 : p ≤ 9223372036854775807) (hs : s.size ≤ 1000000000) :
    Calls Try.prog 61 #[.string s, .int .i64 p] w fun e w' => e = .returned (.tuple #[.int .i64 V, .int .i64 B, .int .i64 E]) ∧ Below w.heap.size w w' := by
  have hsl : s.data.toList.length = s.size := rfl
  unfold readNum at hV hB hE
  by_cases hn : p < 0 ∨ (s.size : Int) < p
  · have hr := readHigh_one s.data.toList p 5 hn
    rw [hr] at hV hB hE
    obtain rfl : V = 0 := hV
    obtain rfl : B = 0 := hB
    obtain rfl : E = 1 := hE
    clear hr hsl
    by_cases ha : p < 0
    · have hd : decide (p < 0) = true := decide_eq_true ha
      clear hn
      go_enter Try.func61, Try.ntmps61
      go_wp2
      go_ret3
      exact ⟨rfl, Below.refl _ _⟩
    · have hd : decide (p < 0) = false := decide_eq_false ha
      have hd2 : decide ((s.size : Int) < p) = true := decide_eq_true (by omega)
      clear hn
      go_enter Try.func61, Try.ntmps61
      go_wp2
      go_ret3
      exact ⟨rfl, Below.refl _ _⟩
  · obtain ⟨k, rfl⟩ : ∃ k : Nat, p = k := ⟨p.toNat, by omega⟩
    have hd : decide ((k : Int) < 0) = false := decide_eq_false (by omega)
    have hd2 : decide ((s.size : Int) < (k : Int)) = false := decide_eq_false (by omega)
    have hd3 : decide (s.size < k) = false := decide_eq_false (by omega)
    by_cases ha : (s.size : Int) - (k : Int) < 5
    · have hr := readHigh_two s.data.toList k 5 hn (by omega)
      rw [hr] at hV hB hE
      obtain rfl : V = 0 := hV
      obtain rfl : B = 0 := hB
      obtain rfl : E = 2 := hE
      have hd4 : decide ((s.size : Int) - (k : Int) < 5) = true := decide_eq_true ha
      clear hr hsl hn
      go_enter Try.func61, Try.ntmps61
      go_wp2
      go_ret3
      exact ⟨rfl, Below.refl _ _⟩
    · have hr := readHigh_yes s.data.toList k 5 hn (by omega)
      rw [hr] at hV hB hE
      obtain rfl : V = (val ((s.data.toList.drop k).take 5) : Int) := hV
      obtain rfl : B = (k : Int) + 5 := hB.trans (Int.natCast_add k 5)
      clear hB
      obtain rfl : E = 0 := hE
      have hd4 : decide ((s.size : Int) - (k : Int) < 5) = false := decide_eq_false ha
      have hk5 : k + 5 ≤ s.size := by omega
      have hvl : ∀ i, i ≤ 5 → val ((s.data.toList.drop k).take i) ≤ 1099511627775 := fun i hi => by
        have h := val_lt ((s.data.toList.drop k).take i)
        have hl : ((s.data.toList.drop k).take i).length ≤ 5 := by rw [List.length_take]; omega
        have h3 : 256 ^ ((s.data.toList.drop k).take i).length ≤ 256 ^ 5 := Nat.pow_le_pow_right (by omega) hl
        omega
      have HVL := Lib.hid hvl
      have HST := Lib.hid (fun i (hi : k + i < s.data.toList.length) => val_step s.data.toList k i hi)
      clear hr hsl hn ha h1 h2 hvl
      go_enter Try.func61, Try.ntmps61
      go_wp2
      go_loopw [7, 22] (fun n i wr => ∃ j : Nat, j ≤ 5 ∧ i = .int .i64 j ∧ n = .int .i64 (val ((s.data.toList.drop k).take j) : Nat) ∧ wr = w) (fun _ i _ => 5 - (intOf i).toNat)
      case atStart => exact ⟨0, by omega, rfl, rfl, rfl⟩
      case round =>
        obtain ⟨j, hj, rfl, rfl, rfl⟩ := hrel
        by_cases hlt : j < 5
        · have hst := HST.out j (show k + j < s.size by omega)
          have hn0 := HVL.out j hj
          obtain ⟨n, hn⟩ : ∃ n : Nat, n = val ((s.data.toList.drop k).take j) := ⟨_, rfl⟩
          rw [← hn] at hst hn0 ⊢
          have HN := Lib.hid hst
          obtain ⟨c, hc⟩ : ∃ c : Nat, c = k + j := ⟨_, rfl⟩
          have hcs : c < s.size := by omega
          have hci : (k : Int) + (j : Int) = (c : Int) := by omega
          obtain ⟨b, hb⟩ : ∃ b : Nat, b = (s[c]).toNat := ⟨_, rfl⟩
          have hb2 := hb.symm
          have hbl : b < 256 := by rw [hb]; exact UInt8.toNat_lt _
          have hso := shl_or n b (by omega) hbl
          have HNX := Lib.hid (show val ((s.data.toList.drop k).take (j + 1)) = n * 256 + b by
            rw [HN.out, hb]
            subst hc
            rfl)
          clear hst hn hc hb
          go_wp2
          go_roundw
          case rel => exact ⟨j + 1, by omega, by go_num, by rw [HNX.out, Int.natCast_add, Int.natCast_mul]; rfl, trivial⟩
          case measure => simp [intOf]; omega
        · obtain rfl : j = 5 := by omega
          go_wp2
          go_ret3
          exact ⟨rfl, Below.refl _ _⟩

set_option maxHeartbeats 1600000 in
theorem readStr_any (s : ByteArray) (p : Int) (w : World) (X : ByteArray) (B E : Int) (hX : X = strV (readStr s.data.toList p)) (hB : B = posV (readStr s.data.toList p)) (hE : E = errV (readStr s.data.toList p)) (h1 : -9223372036854775808 ≤ p) (h2 : p ≤ 9223372036854775807) (hs : s.size ≤ 1000000000) :
    Calls Try.prog 53 #[.string s, .int .i64 p] w fun e w' => e = .returned (.tuple #[.string X, .int .i64 B, .int .i64 E]) ∧ Below w.heap.size w w' := by
  have hsl : s.data.toList.length = s.size := rfl
  unfold readStr at hX hB hE
  by_cases hn : p < 0 ∨ (s.size : Int) < p
  · have hr := readHigh_one s.data.toList p 2 hn
    rw [hr] at hX hB hE
    obtain rfl : X = ⟨#[]⟩ := hX
    obtain rfl : B = 0 := hB
    obtain rfl : E = 1 := hE
    clear hr hsl
    by_cases ha : p < 0
    · have hd : decide (p < 0) = true := decide_eq_true ha
      clear hn
      go_enter Try.func53, Try.ntmps53
      go_wp2
      go_ret3
      exact ⟨rfl, Below.refl _ _⟩
    · have hd : decide (p < 0) = false := decide_eq_false ha
      have hd2 : decide ((s.size : Int) < p) = true := decide_eq_true (by omega)
      clear hn
      go_enter Try.func53, Try.ntmps53
      go_wp2
      go_ret3
      exact ⟨rfl, Below.refl _ _⟩
  · obtain ⟨k, rfl⟩ : ∃ k : Nat, p = k := ⟨p.toNat, by omega⟩
    have hd : decide ((k : Int) < 0) = false := decide_eq_false (by omega)
    have hd2 : decide ((s.size : Int) < (k : Int)) = false := decide_eq_false (by omega)
    have hd3 : decide (s.size < k) = false := decide_eq_false (by omega)
    by_cases ha : (s.size : Int) - (k : Int) < 2
    · have hr := readHigh_two s.data.toList k 2 hn (by omega)
      rw [hr] at hX hB hE
      obtain rfl : X = ⟨#[]⟩ := hX
      obtain rfl : B = 0 := hB
      obtain rfl : E = 2 := hE
      have hd4 : decide ((s.size : Int) - (k : Int) < 2) = true := decide_eq_true ha
      clear hr hsl hn
      go_enter Try.func53, Try.ntmps53
      go_wp2
      go_ret3
      exact ⟨rfl, Below.refl _ _⟩
    · have hr := readHigh_yes s.data.toList k 2 hn (by omega)
      have hk2 : k + 2 ≤ s.size := by omega
      have hd4 : decide ((s.size : Int) - (k : Int) < 2) = false := decide_eq_false ha
      obtain ⟨n, hnv⟩ : ∃ n : Nat, n = val ((s.data.toList.drop k).take 2) := ⟨_, rfl⟩
      rw [hr, ← hnv] at hX hB hE
      have hkk : k < s.size := by omega
      have hk1 : k + 1 < s.size := by omega
      obtain ⟨b0, hb0⟩ : ∃ b : Nat, b = (s[k]'hkk).toNat := ⟨_, rfl⟩
      obtain ⟨b1, hb1⟩ : ∃ b : Nat, b = (s[k + 1]'hk1).toNat := ⟨_, rfl⟩
      have hl0 : b0 < 256 := by rw [hb0]; exact UInt8.toNat_lt _
      have hl1 : b1 < 256 := by rw [hb1]; exact UInt8.toNat_lt _
      have hnb : n = b0 * 256 + b1 := by
        have e1 := val_step s.data.toList k 1 (by omega)
        have e0 := val_step s.data.toList k 0 (by omega)
        have g1 : (s.data.toList[k + 1]'(by omega)).toNat = b1 := by rw [hb1]; rfl
        have g0 : (s.data.toList[k + 0]'(by omega)).toNat = b0 := by rw [hb0]; rfl
        rw [hnv, e1, e0, g1, g0, List.take_zero, val_nil]
        omega
      have hn2 : n ≤ 65535 := by omega
      have hso : bits .or .i64 ((b0 : Int) * 256) (b1 : Int) = (n : Int) := by rw [shl_or b0 b1 (by omega) hl1, hnb]
      have hidx : (k : Int) + 1 = ((k + 1 : Nat) : Int) := by omega
      obtain ⟨c, hc⟩ : ∃ c : Nat, c = k + 1 := ⟨_, rfl⟩
      have hck : c < s.size := by omega
      have hg0 : (s[k]'hkk).toNat = b0 := hb0.symm
      have hg1 : (s[c]'hck).toNat = b1 := by subst hc; exact hb1.symm
      rw [← hc] at hidx
      have hx1 : (0 : Int) ≤ (k : Int) ∧ (k : Int) < (s.size : Int) := by omega
      have hx2 : (0 : Int) ≤ (c : Int) ∧ (c : Int) < (s.size : Int) := by omega
      dsimp only at hX hB hE
      by_cases hl : 6000 < n
      · rw [if_pos hl] at hX hB hE
        obtain rfl : X = ⟨#[]⟩ := hX
        obtain rfl : B = 0 := hB
        obtain rfl : E = 4 := hE
        have hd5 : decide (6000 < (n : Int)) = true := decide_eq_true (by omega)
        clear hr hsl hn hnv hnb hb0 hb1 hc h1 h2
        go_enter Try.func53, Try.ntmps53
        go_wp2
        go_quiet (fail)
        go_wp2
        go_ret3
        exact ⟨rfl, belowN (Below.refl _ _) _⟩
      · rw [if_neg hl] at hX hB hE
        have hd5 : decide (6000 < (n : Int)) = false := decide_eq_false (by omega)
        have hd6 : decide (6000 < n) = false := decide_eq_false (by omega)
        by_cases hf : (s.size : Int) - (k : Int) - 2 < (n : Int)
        · have hcut : cut s.data.toList ((k + 2 : Nat) : Int) n = .error 2 := by rw [cut, if_neg (by omega), if_pos (by omega)]
          rw [hcut] at hX hB hE
          obtain rfl : X = ⟨#[]⟩ := hX
          obtain rfl : B = 0 := hB
          obtain rfl : E = 2 := hE
          have hd7 : decide ((s.size : Int) - (k : Int) - 2 < (n : Int)) = true := decide_eq_true hf
          clear hr hsl hn hnv hnb hb0 hb1 hc h1 h2 hcut
          go_enter Try.func53, Try.ntmps53
          go_wp2
          go_quiet (fail)
          go_wp2
          go_ret3
          exact ⟨rfl, belowN (Below.refl _ _) _⟩
        · have hcut : cut s.data.toList ((k + 2 : Nat) : Int) n = .ok ((s.data.toList.drop (k + 2)).take n, k + 2 + n) := by
            rw [cut, if_neg (by omega), if_neg (by omega)]
            rfl
          rw [hcut] at hX hB hE
          have hp : s.extract (k + 2) (k + 2 + n) = X := by rw [hX]; exact piece_cut s (k + 2) n _ rfl
          obtain rfl : B = ((k : Int) + 2) + (n : Int) := by rw [hB]; show (((k + 2 + n : Nat) : Nat) : Int) = _; omega
          obtain rfl : E = 0 := hE
          have hd7 : decide ((s.size : Int) - (k : Int) - 2 < (n : Int)) = false := decide_eq_false hf
          have hsli : ∀ u, (Instr.slice 9 (.string s) (some (.int .i64 ((k : Int) + 2))) (some (.int .i64 ((k : Int) + 2 + (n : Int)))) none).run Try.prog u = .ok (.string X) u := fun u => by
            rw [← hp]
            have e1 : ((k : Int) + 2).toNat = k + 2 := by omega
            have e2 : ((k : Int) + 2 + (n : Int)).toNat = k + 2 + n := by omega
            have := run_slice_string (P := Try.prog) u 9 s .i64 .i64 ((k : Int) + 2) ((k : Int) + 2 + (n : Int)) Try.underlying9 (by omega) (by omega) (by omega)
            rw [e1, e2] at this
            exact this
          clear hr hsl hn hnv hnb hb0 hb1 hc h1 h2 hcut hX hB hp
          go_enter Try.func53, Try.ntmps53
          go_wp2
          go_quiet (fail)
          go_wp2
          go_ret3
          exact ⟨rfl, belowN (Below.refl _ _) _⟩
end Go.Proofs.Ytlinpbmglcjkkaa.RPrt
