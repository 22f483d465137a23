/-
  The document's own answers for Path and Climb of layer 8 answer what the plain mathematics of the text Grv says, and leave all memory that was there as it was. Conditions: seed, room and texts have together no more than 400000 bytes.
-/
import Derived.Test.YtncafbejgidliaaDoorRGrvA
namespace Go.Proofs.YtncafbejgidliaaDoor.RefGrv
open Go.RowKit Mur Sha Chn Grv
set_option maxRecDepth 100000

theorem le_of_not_lt (lf : Int) (k : Nat) (h : ¬ (0 ≤ lf ∧ lf < 2 ^ k)) (h0 : ¬ lf < 0) (p : Nat) (hp : (2 : Int) ^ k = (p : Int)) : (p : Int) ≤ lf := by
  rw [hp] at h
  omega

set_option maxHeartbeats 3200000 in
theorem path_no (n h lf : Int) (seed room : ByteArray) (w : World) (hno : ¬ (Right n h ∧ 0 ≤ lf ∧ lf < 2 ^ h.toNat)) :
    Calls Tryd.prog 11 #[.agg #[.int .i64 n, .int .i64 h], .string seed, .string room, .int .i64 lf] w fun e w' => e = .returned (.string ⟨#[]⟩) ∧ Below w.heap.size w w' := by
  have hB0 := (Below.refl w.heap.size w).alloc (Nat.le_refl _) (.cells #[.int .i64 n, .int .i64 h] 23)
  have hc0 : (w.alloc (.cells #[.int .i64 n, .int .i64 h] 23)).cell? ⟨w.heap.size, 0, none⟩ = some (.int .i64 n) := by simp
  have hc1 : (w.alloc (.cells #[.int .i64 n, .int .i64 h] 23)).cell? ⟨w.heap.size, 1, none⟩ = some (.int .i64 h) := by simp
  have hl0 : w.heap.size < (w.alloc (.cells #[.int .i64 n, .int .i64 h] 23)).heap.size := by simp
  go_enter Tryd.func11, Tryd.ntmps11
  go_upto_region 1 with (fail)
  generalize w.alloc (.cells #[.int .i64 n, .int .i64 h] 23) = wz at *
  have HC := Lib.hid (fun (u : World) (q : Below wz.heap.size wz u) => (⟨(q.cell (p := ⟨w.heap.size, 0, none⟩) hl0).trans hc0, (q.cell (p := ⟨w.heap.size, 1, none⟩) hl0).trans hc1⟩ :
    u.cell? ⟨w.heap.size, 0, none⟩ = some (.int .i64 n) ∧ u.cell? ⟨w.heap.size, 1, none⟩ = some (.int .i64 h)))
  have HB0 := Lib.hid hB0
  have HL0 := Lib.hid hl0
  have HNO := Lib.hid hno
  clear hB0 hl0 hno
  by_cases hr : Right n h
  · have R1 := Lib.hid (fun u => RefChn.right_yes n h hr u)
    have HR := Lib.hid hr
    clear hr
    go_wp2_with fail
    refine (R1.out _).mono ?_
    rintro e w1 ⟨rfl, hb1⟩
    have HW1 := Lib.hid hb1
    clear hb1 hc0 hc1
    obtain ⟨c0, c1⟩ := HC.out _ HW1.out
    by_cases h3 : lf < 0
    · have hd3 : decide (lf < 0) = true := by simp [h3]
      go_wp2
      go_ret
      exact ⟨rfl, HB0.out.trans (HW1.out.mono (Nat.le_of_lt HL0.out))⟩
    · have hd3 : decide (lf < 0) = false := by simp; omega
      obtain ⟨d, rfl⟩ : ∃ d : Nat, h = (d : Int) := ⟨h.toNat, by have := HR.out.2.2.1; omega⟩
      have hd8 : d ≤ 8 := by have := HR.out.2.2.2; omega
      obtain ⟨p, hp⟩ : ∃ p : Nat, p = 2 ^ d := ⟨_, rfl⟩
      have hp8 : p ≤ 256 := by rw [hp]; exact pow_256 d hd8
      have hpz : (2 : Int) ^ d = (p : Int) := by rw [hp, Int.natCast_pow]; rfl
      have hge : (p : Int) ≤ lf := le_of_not_lt lf d (fun hx => HNO.out ⟨HR.out, hx.1, hx.2⟩) h3 p hpz
      have hwd : IntKind.u64.wrap (d : Int) = (d : Int) := by rw [IntKind.wrap_u64]; omega
      have hd4 : decide ((p : Int) ≤ lf) = true := by simp [hge]
      clear hp h3
      go_wp2
      go_ret
      exact ⟨rfl, HB0.out.trans (HW1.out.mono (Nat.le_of_lt HL0.out))⟩
  · have R1 := Lib.hid (fun u => RefChn.right_no n h hr u)
    clear hr
    go_wp2_with fail
    refine (R1.out _).mono ?_
    rintro e w1 ⟨rfl, hb1⟩
    have HW1 := Lib.hid hb1
    clear hb1
    go_wp2
    go_ret
    exact ⟨rfl, HB0.out.trans (HW1.out.mono (Nat.le_of_lt HL0.out))⟩

set_option maxHeartbeats 3200000 in
theorem path_any (N H lf : Nat) (seed room V : ByteArray) (w : World) (hr : Right (N : Int) (H : Int)) (hlf : lf < 2 ^ H) (hs : seed.size + room.size ≤ 400000) (hV : V = tx (path N H seed.data.toList room.data.toList lf)) :
    Calls Tryd.prog 11 #[.agg #[.int .i64 (N : Int), .int .i64 (H : Int)], .string seed, .string room, .int .i64 (lf : Int)] w fun e w' => e = .returned (.string V) ∧ Below w.heap.size w w' := by
  have hN : N ≤ 32 := by have := hr.2.1; omega
  have hH : H ≤ 8 := by have := hr.2.2.2; omega
  have hl8 := pow_256 H hH
  have R1 := Lib.hid (fun u => RefChn.right_yes N H hr u)
  have RN := Lib.hid (fun (i : Nat) (hi : i < H) (P : ByteArray) (hP : P = tx (pathP N seed.data.toList room.data.toList lf i)) (u : World) => node_any N H seed room hr hs i (by omega) (sib (lf / 2 ^ i)) P u (sib_half_lt lf i H hlf hi) hP)
  have hl := pathP_length N seed.data.toList room.data.toList lf hN
  obtain ⟨F, hF⟩ : ∃ F, F = pathP N seed.data.toList room.data.toList lf := ⟨_, rfl⟩
  rw [← hF] at hl RN
  have hul := upto_length F N hl
  obtain ⟨p, hp⟩ : ∃ p : Nat, p = 2 ^ H := ⟨_, rfl⟩
  have hp8 : p ≤ 256 := by rw [hp]; exact hl8
  have hpz : (2 : Int) ^ H = (p : Int) := by rw [hp, Int.natCast_pow]; rfl
  have hd3 : decide ((lf : Int) < 0) = false := by simp
  have hd4 : decide (p ≤ lf) = false := by simp; omega
  have hwd : IntKind.u64.wrap (H : Int) = (H : Int) := by rw [IntKind.wrap_u64]; omega
  have HV := Lib.hid (show V = tx (upto F H) from by rw [hV, path, hF])
  have HUL := Lib.hid hul
  have HFL := Lib.hid hl
  have HLF := Lib.hid hlf
  have HL8 := Lib.hid hl8
  clear hV hF hul hl hs hr hlf hp hl8
  have hB0 := (Below.refl w.heap.size w).alloc (Nat.le_refl _) (.cells #[.int .i64 (N : Int), .int .i64 (H : Int)] 23)
  have hc0 : (w.alloc (.cells #[.int .i64 (N : Int), .int .i64 (H : Int)] 23)).cell? ⟨w.heap.size, 0, none⟩ = some (.int .i64 (N : Int)) := by simp
  have hc1 : (w.alloc (.cells #[.int .i64 (N : Int), .int .i64 (H : Int)] 23)).cell? ⟨w.heap.size, 1, none⟩ = some (.int .i64 (H : Int)) := by simp
  have hlt : w.heap.size < (w.alloc (.cells #[.int .i64 (N : Int), .int .i64 (H : Int)] 23)).heap.size := by simp
  go_enter Tryd.func11, Tryd.ntmps11
  go_upto_region 1 with (fail)
  generalize w.alloc (.cells #[.int .i64 (N : Int), .int .i64 (H : Int)] 23) = wz at *
  have HC := Lib.hid (fun (u : World) (q : Below wz.heap.size wz u) => (⟨(q.cell (p := ⟨w.heap.size, 0, none⟩) hlt).trans hc0, (q.cell (p := ⟨w.heap.size, 1, none⟩) hlt).trans hc1⟩ : u.cell? ⟨w.heap.size, 0, none⟩ = some (.int .i64 (N : Int)) ∧ u.cell? ⟨w.heap.size, 1, none⟩ = some (.int .i64 (H : Int))))
  have HB0 := Lib.hid hB0
  clear hB0 hlt
  go_wp2_with fail
  refine (R1.out _).mono ?_
  rintro e w1 ⟨rfl, hb1⟩
  have HY1 := Lib.hid hb1
  clear hb1 hc0 hc1
  obtain ⟨c0, c1⟩ := HC.out _ HY1.out
  go_wp2_with fail
  clear c0 c1 hd3 hd4 hpz hwd hp8
  go_loopw [9, 10, 28] (fun x _ i wr => ∃ (k : Nat) (t : ByteArray), k ≤ H ∧ i = .int .i64 k ∧ x = .string t ∧ t = tx (upto F k) ∧ Below wz.heap.size wz wr) (fun _ _ i _ => H - (intOf i).toNat)
  case atStart => exact ⟨0, ⟨#[]⟩, by omega, rfl, rfl, rfl, HY1.out⟩
  case round =>
    clear HY1
    obtain ⟨k, t, hk, rfl, rfl, ht, hbel⟩ := hrel
    have HW := Lib.hid hbel
    have HT := Lib.hid ht
    clear hbel ht
    by_cases hlt : k < H
    · obtain ⟨P, hP⟩ : ∃ P, P = tx (F k) := ⟨_, rfl⟩
      have hPs : P.size = N := by rw [hP]; exact HFL.out k
      have hts : t.size = N * k := by rw [HT.out]; exact HUL.out k
      have hmk : N * k ≤ 32 * 8 := Nat.mul_le_mul hN (by omega)
      have hcat : t.size + P.size ≤ 1000 := by omega
      have hnx : t ++ P = tx (upto F (k + 1)) := by rw [HT.out, hP]; exact (RefChn.upto_next F k).symm
      obtain ⟨U, hU⟩ : ∃ U, U = t ++ P := ⟨_, rfl⟩
      rw [← hU] at hnx
      obtain ⟨x, hx⟩ : ∃ x, x = lf / 2 ^ k := ⟨_, rfl⟩
      obtain ⟨y, hy⟩ : ∃ y, y = sib x := ⟨_, rfl⟩
      have hxl : x ≤ 256 := by have := Nat.div_le_self lf (2 ^ k); have := HLF.out; have := HL8.out; omega
      have hsh : (lf : Int) / 2 ^ k = (x : Int) := by rw [hx, Int.natCast_ediv, Int.natCast_pow]; rfl
      have hxo : bits .xor .i64 (x : Int) 1 = (y : Int) := by rw [hy]; exact xor_one x (by omega)
      have hwk : IntKind.u64.wrap (k : Int) = (k : Int) := by rw [IntKind.wrap_u64]; omega
      have RN1 := Lib.hid (show ∀ (u : World), Calls Tryd.prog 9 #[.agg #[.int .i64 (N : Int), .int .i64 (H : Int)], .string seed, .string room, .agg #[.int .i64 (k : Int), .int .i64 (y : Int)]] u fun e w' => e = .returned (.string P) ∧ Below u.heap.size u w' from fun u => by
        rw [hy, hx]
        exact RN.out k hlt P hP u)
      have HNX := Lib.hid hnx
      have HU := Lib.hid hU
      clear hP hPs hnx hx hy hts hmk hU
      obtain ⟨c0, c1⟩ := HC.out _ HW.out
      go_wp2_with fail
      refine (RN1.out _).mono ?_
      rintro e w5 ⟨rfl, hb5⟩
      have HW5 := Lib.hid (HW.out.trans (hb5.mono HW.out.size))
      clear hb5 hsh hxo hwk c0 c1
      go_wp2
      rw [← HU.out]
      go_roundw
      case rel => exact ⟨k + 1, U, by omega, by go_num, rfl, HNX.out, HW5.out⟩
      case measure => simp [intOf]; omega
    · obtain rfl : k = H := by omega
      have hVV : t = V := by rw [HV.out, HT.out]
      subst hVV
      go_wp2
      go_ret
      exact ⟨rfl, HB0.out.trans (HW.out.mono HB0.out.size)⟩

set_option maxHeartbeats 3200000 in
theorem climb_no (n h lf : Int) (room nd pa : ByteArray) (w : World) (hno : ¬ (Right n h ∧ 0 ≤ lf ∧ lf < 2 ^ h.toNat ∧ (pa.size : Int) = n * h)) :
    Calls Tryd.prog 13 #[.agg #[.int .i64 n, .int .i64 h], .string room, .int .i64 lf, .string nd, .string pa] w fun e w' => e = .returned (.string ⟨#[]⟩) ∧ Below w.heap.size w w' := by
  have hB0 := (Below.refl w.heap.size w).alloc (Nat.le_refl _) (.cells #[.int .i64 n, .int .i64 h] 23)
  have hc0 : (w.alloc (.cells #[.int .i64 n, .int .i64 h] 23)).cell? ⟨w.heap.size, 0, none⟩ = some (.int .i64 n) := by simp
  have hc1 : (w.alloc (.cells #[.int .i64 n, .int .i64 h] 23)).cell? ⟨w.heap.size, 1, none⟩ = some (.int .i64 h) := by simp
  have hl0 : w.heap.size < (w.alloc (.cells #[.int .i64 n, .int .i64 h] 23)).heap.size := by simp
  go_enter Tryd.func13, Tryd.ntmps13
  go_upto_region 1 with (fail)
  generalize w.alloc (.cells #[.int .i64 n, .int .i64 h] 23) = wz at *
  have HC := Lib.hid (fun (u : World) (q : Below wz.heap.size wz u) => (⟨(q.cell (p := ⟨w.heap.size, 0, none⟩) hl0).trans hc0, (q.cell (p := ⟨w.heap.size, 1, none⟩) hl0).trans hc1⟩ :
    u.cell? ⟨w.heap.size, 0, none⟩ = some (.int .i64 n) ∧ u.cell? ⟨w.heap.size, 1, none⟩ = some (.int .i64 h)))
  have HB0 := Lib.hid hB0
  have HL0 := Lib.hid hl0
  have HNO := Lib.hid hno
  clear hB0 hl0 hno
  by_cases hr : Right n h
  · have R1 := Lib.hid (fun u => RefChn.right_yes n h hr u)
    have HR := Lib.hid hr
    clear hr
    go_wp2_with fail
    refine (R1.out _).mono ?_
    rintro e w1 ⟨rfl, hb1⟩
    have HW1 := Lib.hid hb1
    clear hb1 hc0 hc1
    obtain ⟨c0, c1⟩ := HC.out _ HW1.out
    by_cases h3 : lf < 0
    · have hd3 : decide (lf < 0) = true := by simp [h3]
      go_wp2
      go_ret
      exact ⟨rfl, HB0.out.trans (HW1.out.mono (Nat.le_of_lt HL0.out))⟩
    · have hd3 : decide (lf < 0) = false := by simp; omega
      obtain ⟨d, rfl⟩ : ∃ d : Nat, h = (d : Int) := ⟨h.toNat, by have := HR.out.2.2.1; omega⟩
      have hd8 : d ≤ 8 := by have := HR.out.2.2.2; omega
      obtain ⟨p, hp⟩ : ∃ p : Nat, p = 2 ^ d := ⟨_, rfl⟩
      have hp8 : p ≤ 256 := by rw [hp]; exact pow_256 d hd8
      have hpz : (2 : Int) ^ d = (p : Int) := by rw [hp, Int.natCast_pow]; rfl
      have hwd : IntKind.u64.wrap (d : Int) = (d : Int) := by rw [IntKind.wrap_u64]; omega
      by_cases hge : (p : Int) ≤ lf
      · have hd4 : decide ((p : Int) ≤ lf) = true := by simp [hge]
        clear hp h3
        go_wp2
        go_ret
        exact ⟨rfl, HB0.out.trans (HW1.out.mono (Nat.le_of_lt HL0.out))⟩
      · have hd4 : decide ((p : Int) ≤ lf) = false := by simp; omega
        have hn0 := HR.out.1
        have hn1 := HR.out.2.1
        obtain ⟨A, hA⟩ : ∃ A, A = n * (d : Int) := ⟨_, rfl⟩
        have hA1 : A ≤ 256 := by
          have h1 : n * (d : Int) ≤ 32 * 8 := Int.mul_le_mul hn1 (by omega) (by omega) (by omega)
          omega
        have hA0 : 0 ≤ A := by rw [hA]; exact Int.mul_nonneg (by omega) (by omega)
        have hwA : IntKind.i64.wrap (n * (d : Int)) = A := by rw [← hA]; exact IntWalk.i64_in _ (by omega)
        have hne : ((pa.size : Int) != A) = true := by
          rw [bne_iff_ne]
          exact fun e => HNO.out ⟨HR.out, by omega, by rw [show ((d : Int).toNat) = d by omega, hpz]; omega, by rw [e, hA]⟩
        clear hp h3 hA
        go_wp2
        go_ret
        exact ⟨rfl, HB0.out.trans (HW1.out.mono (Nat.le_of_lt HL0.out))⟩
  · have R1 := Lib.hid (fun u => RefChn.right_no n h hr u)
    clear hr
    go_wp2_with fail
    refine (R1.out _).mono ?_
    rintro e w1 ⟨rfl, hb1⟩
    have HW1 := Lib.hid hb1
    clear hb1
    go_wp2
    go_ret
    exact ⟨rfl, HB0.out.trans (HW1.out.mono (Nat.le_of_lt HL0.out))⟩

set_option maxHeartbeats 3200000 in
theorem climb_any (N H lf : Nat) (room nd pa V : ByteArray) (w : World) (hr : Right (N : Int) (H : Int)) (hlf : lf < 2 ^ H) (hpa : pa.size = N * H) (hs : room.size + nd.size ≤ 400000) (hV : V = tx (climb N room.data.toList lf nd.data.toList pa.data.toList H)) :
    Calls Tryd.prog 13 #[.agg #[.int .i64 (N : Int), .int .i64 (H : Int)], .string room, .int .i64 (lf : Int), .string nd, .string pa] w fun e w' => e = .returned (.string V) ∧ Below w.heap.size w w' := by
  have hN : N ≤ 32 := by have := hr.2.1; omega
  have hH : H ≤ 8 := by have := hr.2.2.2; omega
  have hl8 := pow_256 H hH
  have R1 := Lib.hid (fun u => RefChn.right_yes N H hr u)
  have RP := Lib.hid (fun (z a : Nat) (s U : ByteArray) (hz : z ≤ 100) (ha : a ≤ 256) (hs2 : s.size ≤ nd.size + 10000) (hU : U = tx (pairT N room.data.toList z a s.data.toList)) (u : World) => pair_any N z a H room s U u hN (by omega) (by omega) (by omega) hU)
  have hcl := fun k => climb_length N room.data.toList lf nd.data.toList pa.data.toList k hN
  have hmul := fun k (hk : k ≤ H) => show N * k ≤ N * H from Nat.mul_le_mul_left _ hk
  have hNH : N * H ≤ 32 * 8 := Nat.mul_le_mul hN hH
  obtain ⟨A, hA⟩ : ∃ A, A = N * H := ⟨_, rfl⟩
  have hwA : IntKind.i64.wrap ((N : Int) * (H : Int)) = (A : Int) := by
    rw [← Int.natCast_mul, ← hA]
    exact IntWalk.i64_in _ (by omega)
  have heq : ((pa.size : Int) != (A : Int)) = false := by simp; omega
  have HWR := Lib.hid (fun (k : Nat) (hk : k < H) => show IntKind.i64.wrap ((k : Int) * (N : Int)) = ((N * k : Nat) : Int) ∧ IntKind.i64.wrap (((k : Int) + 1) * (N : Int)) = ((N * (k + 1) : Nat) : Int) ∧ IntKind.i64.wrap ((k : Int) + 1) = (k : Int) + 1 ∧ ((N * k : Nat) : Int) ≤ ((N * (k + 1) : Nat) : Int) ∧ ((N * (k + 1) : Nat) : Int) ≤ (pa.size : Int) from by
    have h1 := hmul k (by omega)
    have h2 := hmul (k + 1) hk
    have h3 : N * (k + 1) = N * k + N := Nat.mul_succ _ _
    have e1 : (k : Int) * (N : Int) = ((N * k : Nat) : Int) := by rw [Int.mul_comm]; push_cast; rfl
    have e2 : ((k : Int) + 1) * (N : Int) = ((N * (k + 1) : Nat) : Int) := by rw [Int.mul_comm]; push_cast; rfl
    refine ⟨by rw [e1]; exact IntWalk.i64_in _ (by omega), by rw [e2]; exact IntWalk.i64_in _ (by omega), IntWalk.i64_in _ (by omega), by omega, by omega⟩)
  obtain ⟨K, hK⟩ : ∃ K, K = climb N room.data.toList lf nd.data.toList pa.data.toList := ⟨_, rfl⟩
  have HKS := Lib.hid (show ∀ k, K (k + 1) = asOneT N room.data.toList k (lf / 2 ^ k) (K k) ((pa.data.toList.drop (N * k)).take N) from fun k => by rw [hK]; rfl)
  have HK0 := Lib.hid (show nd = tx (K 0) from by rw [hK]; rfl)
  have HV := Lib.hid (show V = tx (K H) from by rw [hV, hK])
  have HCL := Lib.hid (show ∀ k, (K k).length ≤ nd.size + 32 from by rw [hK]; exact hcl)
  obtain ⟨p, hp⟩ : ∃ p : Nat, p = 2 ^ H := ⟨_, rfl⟩
  have hp8 : p ≤ 256 := by rw [hp]; exact hl8
  have hpz : (2 : Int) ^ H = (p : Int) := by rw [hp, Int.natCast_pow]; rfl
  have hd3 : decide ((lf : Int) < 0) = false := by simp
  have hd4 : decide (p ≤ lf) = false := by simp; omega
  have hwd : IntKind.u64.wrap (H : Int) = (H : Int) := by rw [IntKind.wrap_u64]; omega
  have HLF := Lib.hid hlf
  have HL8 := Lib.hid hl8
  have hnd : nd.size ≤ 400000 := by omega
  clear hV hs hr hlf hpa hcl hmul hNH hA hK hl8 hp
  have hB0 := (Below.refl w.heap.size w).alloc (Nat.le_refl _) (.cells #[.int .i64 (N : Int), .int .i64 (H : Int)] 23)
  have hc0 : (w.alloc (.cells #[.int .i64 (N : Int), .int .i64 (H : Int)] 23)).cell? ⟨w.heap.size, 0, none⟩ = some (.int .i64 (N : Int)) := by simp
  have hc1 : (w.alloc (.cells #[.int .i64 (N : Int), .int .i64 (H : Int)] 23)).cell? ⟨w.heap.size, 1, none⟩ = some (.int .i64 (H : Int)) := by simp
  have hlt : w.heap.size < (w.alloc (.cells #[.int .i64 (N : Int), .int .i64 (H : Int)] 23)).heap.size := by simp
  go_enter Tryd.func13, Tryd.ntmps13
  go_upto_region 1 with (fail)
  generalize w.alloc (.cells #[.int .i64 (N : Int), .int .i64 (H : Int)] 23) = wz at *
  have HC := Lib.hid (fun (u : World) (q : Below wz.heap.size wz u) => (⟨(q.cell (p := ⟨w.heap.size, 0, none⟩) hlt).trans hc0, (q.cell (p := ⟨w.heap.size, 1, none⟩) hlt).trans hc1⟩ : u.cell? ⟨w.heap.size, 0, none⟩ = some (.int .i64 (N : Int)) ∧ u.cell? ⟨w.heap.size, 1, none⟩ = some (.int .i64 (H : Int))))
  have HB0 := Lib.hid hB0
  clear hB0 hlt
  go_wp2_with fail
  refine (R1.out _).mono ?_
  rintro e w1 ⟨rfl, hb1⟩
  have HB1 := Lib.hid hb1
  clear hb1 hc0 hc1
  obtain ⟨c0, c1⟩ := HC.out _ HB1.out
  go_wp2_with fail
  clear c0 c1 hwA heq hd3 hd4 hpz hwd hp8
  go_loopw [3, 11, 12, 40] (fun x _ _ i wr => ∃ (k : Nat) (t : ByteArray), k ≤ H ∧ i = .int .i64 k ∧ x = .string t ∧ t = tx (K k) ∧ Below wz.heap.size wz wr) (fun _ _ _ i _ => H - (intOf i).toNat)
  case atStart => exact ⟨0, nd, by omega, rfl, rfl, HK0.out, HB1.out⟩
  case round =>
    clear HB1
    obtain ⟨k, t, hk, rfl, rfl, ht, hbel⟩ := hrel
    have HW := Lib.hid hbel
    have HT := Lib.hid ht
    clear hbel ht
    by_cases hlt : k < H
    · obtain ⟨e1, e2, e3, e4, e5⟩ := HWR.out k hlt
      have hT := piece_cut pa (N * k) N (N * (k + 1)) (Nat.mul_succ _ _)
      obtain ⟨T, hTT⟩ : ∃ T, T = pa.extract (N * k) (N * (k + 1)) := ⟨_, rfl⟩
      rw [← hTT] at hT
      have hcut := hTT.symm
      have hTs : T.size ≤ 1000 := by rw [hT]; show ((pa.data.toList.drop (N * k)).take N).length ≤ 1000; rw [List.length_take]; omega
      have hts : t.size ≤ nd.size + 32 := by rw [HT.out]; exact HCL.out k
      have hcat : t.size + T.size ≤ 500000 := by omega
      have hcat2 : T.size + t.size ≤ 500000 := by omega
      obtain ⟨x, hx⟩ : ∃ x, x = lf / 2 ^ k := ⟨_, rfl⟩
      obtain ⟨x2, hx2⟩ : ∃ x2, x2 = x / 2 := ⟨_, rfl⟩
      have hxl : x ≤ 256 := by have := Nat.div_le_self lf (2 ^ k); have := HLF.out; have := HL8.out; omega
      have hsh : (lf : Int) / 2 ^ k = (x : Int) := by rw [hx, Int.natCast_ediv, Int.natCast_pow]; rfl
      have hsh2 : (lf : Int) / 2 ^ (k + 1) = (x2 : Int) := by rw [hx2, hx, Nat.div_div_eq_div_mul, ← Nat.pow_succ, Int.natCast_ediv, Int.natCast_pow]; rfl
      have hand : bits .and .i64 (x : Int) 1 = ((x % 2 : Nat) : Int) := and_one x (by omega)
      have hwk : IntKind.u64.wrap (k : Int) = (k : Int) := by rw [IntKind.wrap_u64]; omega
      have hwk1 : IntKind.u64.wrap ((k : Int) + 1) = (k : Int) + 1 := by rw [IntKind.wrap_u64]; omega
      obtain ⟨V2, hV2⟩ : ∃ V2, V2 = tx (K (k + 1)) := ⟨_, rfl⟩
      obtain ⟨S, hS⟩ : ∃ S, S = if x % 2 = 1 then T ++ t else t ++ T := ⟨_, rfl⟩
      have hSl : S.data.toList = if x % 2 = 1 then T.data.toList ++ t.data.toList else t.data.toList ++ T.data.toList := by rw [hS]; split <;> simp
      have RP1 := Lib.hid (show ∀ (u : World), Calls Tryd.prog 24 #[.agg #[.int .i64 (N : Int), .int .i64 (H : Int)], .string room, .int .i64 ((k : Int) + 1), .int .i64 (x2 : Int), .string S] u fun e w' => e = .returned (.string V2) ∧ Below u.heap.size u w' from fun u =>
        RP.out (k + 1) x2 S V2 (by omega) (by omega) (by rw [hS]; split <;> rw [ByteArray.size_append] <;> omega) (by
          rw [hV2, HKS.out, asOneT, hSl, ← hx, hx2, HT.out, hT]) u)
      have HV2 := Lib.hid hV2
      have HX := Lib.hid hts
      clear hT hTT hx hV2 hx2 hSl hTs hts
      obtain ⟨a, ha⟩ : ∃ a, a = N * k := ⟨_, rfl⟩
      obtain ⟨b, hb⟩ : ∃ b, b = N * (k + 1) := ⟨_, rfl⟩
      rw [← ha] at e1 e4 hcut
      rw [← hb] at e2 e4 e5 hcut
      have e6 : (0 : Int) ≤ (a : Int) := by omega
      have e7 : (0 : Int) ≤ (b : Int) := by omega
      have e8 : (a : Int).toNat = a := by omega
      have e9 : (b : Int).toNat = b := by omega
      clear ha hb
      obtain ⟨c0, c1⟩ := HC.out _ HW.out
      by_cases ho : x % 2 = 1
      · rw [if_pos ho] at hS
        have he : (((x % 2 : Nat) : Int) == 0) = false := by rw [ho]; rfl
        go_upto_region 10 with (fail)
        rw [← hS]
        clear hS he hand hcut e1 e2 e4 e5 e6 e7 e8 e9 hsh ho
        go_wp2_with fail
        refine (RP1.out _).mono ?_
        rintro e w5 ⟨rfl, hb5⟩
        have HW5 := Lib.hid (HW.out.trans (hb5.mono HW.out.size))
        clear hb5 hsh2 e3 hwk hwk1 c0 c1
        go_wp2
        go_roundw
        case rel => exact ⟨k + 1, V2, by omega, by go_num, rfl, HV2.out, HW5.out⟩
        case measure => simp [intOf]; omega
      · rw [if_neg ho] at hS
        have he : (((x % 2 : Nat) : Int) == 0) = true := by rw [show x % 2 = 0 by omega]; rfl
        go_upto_region 10 with (fail)
        rw [← hS]
        clear hS he hand hcut e1 e2 e4 e5 e6 e7 e8 e9 hsh ho
        go_wp2_with fail
        refine (RP1.out _).mono ?_
        rintro e w5 ⟨rfl, hb5⟩
        have HW5 := Lib.hid (HW.out.trans (hb5.mono HW.out.size))
        clear hb5 hsh2 e3 hwk hwk1 c0 c1
        go_wp2
        go_roundw
        case rel => exact ⟨k + 1, V2, by omega, by go_num, rfl, HV2.out, HW5.out⟩
        case measure => simp [intOf]; omega
    · obtain rfl : k = H := by omega
      have hVV : t = V := by rw [HV.out, HT.out]
      subst hVV
      go_wp2
      go_ret
      exact ⟨rfl, HB0.out.trans (HW.out.mono HB0.out.size)⟩
end Go.Proofs.YtncafbejgidliaaDoor.RefGrv
