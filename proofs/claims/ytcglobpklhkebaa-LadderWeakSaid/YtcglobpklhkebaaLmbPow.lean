/-
  Power, Invert and the exponents of package limbs answer what the plain mathematics says, and leave all memory that was there as it was. Conditions: words below 2^64, a text that takes no more than the reach of the form.
-/
import Derived.Test.YtcglobpklhkebaaLmbRead
import Derived.Test.YtcglobpklhkebaaLnBit
import Derived.Test.YtcglobpklhkebaaReg
namespace Go.Proofs.Ytcglobpklhkebaa.Limb
open Go.RowKit Mur Lanes
set_option maxRecDepth 100000

theorem bytes_val {v : Value} {N : Nat} (h : Lims v N) (T : ByteArray) (hT : T = ⟨(bytesOf (N % Prime.P)).toArray⟩) (u : World) : Calls Try.prog 16 #[v] u fun r w' => r = .returned (.string T) ∧ Below u.heap.size u w' := by
  obtain ⟨a, b, c, d, e, rfl, hw, rfl⟩ := h
  exact bytes_any a b c d e T u hw hT
theorem swap_val {v v' : Value} {N N' n : Nat} (h : Lims v N) (h' : Lims v' N') (hn : n < 9223372036854775808) (u : World) :
    Calls Try.prog 10 #[v, v', .int .i64 n] u fun r w' => r = .returned (.tuple #[if n % 2 = 1 then v' else v, if n % 2 = 1 then v else v']) ∧ Below u.heap.size u w' := by
  obtain ⟨a, b, c, d, e, rfl, hw, rfl⟩ := h
  obtain ⟨a', b', c', d', e', rfl, hw', rfl⟩ := h'
  obtain ⟨g0, g1, g2, g3, g4⟩ := hw
  obtain ⟨k0, k1, k2, k3, k4⟩ := hw'
  have := swap_any [a, b, c, d, e] [a', b', c', d', e'] n u rfl rfl (fun i => by
    match i with
    | 0 => exact g0
    | 1 => exact g1
    | 2 => exact g2
    | 3 => exact g3
    | 4 => exact g4
    | i + 5 => exact (by decide : (0 : Nat) < 18446744073709551616)) (fun i => by
    match i with
    | 0 => exact k0
    | 1 => exact k1
    | 2 => exact k2
    | 3 => exact k3
    | 4 => exact k4
    | i + 5 => exact (by decide : (0 : Nat) < 18446744073709551616)) hn
  by_cases hm : n % 2 = 1
  · simp only [if_pos hm] at this ⊢
    exact this
  · simp only [if_neg hm] at this ⊢
    exact this

/-- The bits of a text's number. -/
theorem num_byte (d : List UInt8) : num d % 256 = byt d 0 := by
  cases d with
  | nil => rfl
  | cons x t =>
    have h1 := lowN_split (x :: t) 1 t.length
    rw [show 1 + t.length = (x :: t).length by simp; omega] at h1
    have h2 : num (x :: t) = lowN (x :: t) 1 + 2 ^ (8 * 1) * lowN ((x :: t).drop 1) t.length := h1
    have h3 : lowN (x :: t) 1 = byt (x :: t) 0 := by simp [lowN]
    have h4 := byt_lt (x :: t) 0
    rw [h2, h3]
    omega
theorem bit_num (l : List UInt8) (i : Nat) (hi : i < 8 * min l.length 64) : bit l (i : Int) = num (l.take 64) / 2 ^ i % 2 := by
  have hlen : (l.take 64).length = min l.length 64 := by simp; omega
  have h1 : num (l.take 64) / 2 ^ i = num ((l.take 64).drop (i / 8)) / 2 ^ (i % 8) := by
    rw [← num_drop _ _ (by omega), Nat.div_div_eq_div_mul, ← Nat.pow_add, Nat.div_add_mod]
  have h2 : byt ((l.take 64).drop (i / 8)) 0 = byt l (i / 8) := by
    rw [byt_drop, Nat.add_zero]
    unfold byt
    have : i / 8 < 64 := by omega
    simp [List.getD, this]
  have h3 : ∀ x : Nat, x / 2 ^ (i % 8) % 2 = x % 256 / 2 ^ (i % 8) % 2 := fun x => by
    have e : (256 : Nat) = 2 ^ (i % 8) * 2 ^ (8 - i % 8) := by
      rw [← Nat.pow_add, show i % 8 + (8 - i % 8) = 8 by omega]
    rw [e, Nat.mod_mul_right_div_self, Nat.mod_mod_of_dvd]
    have h := Nat.pow_dvd_pow 2 (show 1 ≤ 8 - i % 8 by omega)
    rwa [Nat.pow_one] at h
  have hc : ¬ ((i : Int) < 0 ∨ (l.length : Int) ≤ (i : Int) / 8) := by omega
  rw [h1, h3, num_byte, h2]
  unfold bit
  rw [if_neg hc, show ((i : Int) / 8).toNat = i / 8 by omega, show ((i : Int) % 8).toNat = i % 8 by omega]
theorem half_step (E K k : Nat) (h : k < K) : E / 2 ^ (K - (k + 1)) = 2 * (E / 2 ^ (K - k)) + E / 2 ^ (K - 1 - k) % 2 := by
  rw [show K - (k + 1) = K - 1 - k by omega, show K - k = K - 1 - k + 1 by omega, Nat.pow_succ, ← Nat.div_div_eq_div_mul]
  omega

theorem pow_two (x q : Nat) : x ^ q % Prime.P * (x ^ q % Prime.P) % Prime.P = x ^ (2 * q) % Prime.P := by
  rw [← Nat.mul_mod, ← Nat.pow_add, ← Nat.two_mul]
theorem pow_more (x q : Nat) : x ^ q % Prime.P * x % Prime.P = x ^ (q + 1) % Prime.P := by
  rw [Nat.pow_succ, Nat.mod_mul_mod]

theorem five_inj {a b c d e a' b' c' d' e' : Nat} (h : five a b c d e = five a' b' c' d' e') : a = a' ∧ b = b' ∧ c = c' ∧ d = d' ∧ e = e' := by
  simp only [five, Value.agg.injEq, Array.mk.injEq, List.cons.injEq, Value.int.injEq, true_and, Int.ofNat_inj] at h
  exact ⟨h.1, h.2.1, h.2.2.1, h.2.2.2.1, h.2.2.2.2.1⟩

/-- The worlds of Power's loop. -/
structure Pw (w0 : World) (A Y : Value) (w : World) : Prop where
  a : ∃ a b c d e : Nat, A = five a b c d e ∧ Whole w w0.heap.size 24 (fiveL a b c d e)
  z : Whole w (w0.heap.size + 1) 24 (fiveL 0 0 0 0 0)
  y : ∃ a b c d e : Nat, Y = five a b c d e ∧ Whole w (w0.heap.size + 1 + 1) 24 (fiveL a b c d e)
  below : Below w0.heap.size w0 w
theorem Pw.next {w0 w w' : World} {A Y : Value} (h : Pw w0 A Y w) (q : Below w.heap.size w w') : Pw w0 A Y w' := by
  obtain ⟨⟨a, b, c, d, e, h1, h2⟩, h3, ⟨a', b', c', d', e', h4, h5⟩, h6⟩ := h
  exact ⟨⟨a, b, c, d, e, h1, h2.below h2.lt q⟩, h3.below h3.lt q, ⟨a', b', c', d', e', h4, h5.below h5.lt q⟩, h6.trans (q.mono h6.size)⟩
theorem Pw.drew {w0 w : World} {A Y : Value} (h : Pw w0 A Y w) : Pw w0 A Y w.drew := by
  obtain ⟨⟨a, b, c, d, e, h1, h2⟩, h3, ⟨a', b', c', d', e', h4, h5⟩, h6⟩ := h
  exact ⟨⟨a, b, c, d, e, h1, h2.drew⟩, h3.drew, ⟨a', b', c', d', e', h4, h5.drew⟩, h6.drew⟩
theorem Pw.set {w0 w : World} {A Y Y' : Value} (h : Pw w0 A Y w) (a b c d e : Nat) (hY : Y' = five a b c d e) : Pw w0 A Y' (((((w.setCell ⟨w0.heap.size + 1 + 1, 0, none⟩ (.int .u64 (a : Int))).setCell ⟨w0.heap.size + 1 + 1, 1, none⟩ (.int .u64 (b : Int))).setCell ⟨w0.heap.size + 1 + 1, 2, none⟩ (.int .u64 (c : Int))).setCell ⟨w0.heap.size + 1 + 1, 3, none⟩ (.int .u64 (d : Int))).setCell ⟨w0.heap.size + 1 + 1, 4, none⟩ (.int .u64 (e : Int))) := by
  obtain ⟨⟨a1, b1, c1, d1, e1, h1, h2⟩, h3, ⟨a', b', c', d', e', -, h5⟩, h6⟩ := h
  exact ⟨⟨a1, b1, c1, d1, e1, h1, set5_other h2 (by omega) _ _ _ _ _⟩, set5_other h3 (by omega) _ _ _ _ _, ⟨a, b, c, d, e, hY, set5_whole h5 rfl _ _ _ _ _⟩, set5 h6 (by omega) _ _ _ _ _⟩

theorem Pw.wy {w0 w : World} {A Y : Value} (h : Pw w0 A Y w) {a b c d e : Nat} (hY : Y = five a b c d e) : Whole w (w0.heap.size + 1 + 1) 24 (fiveL a b c d e) := by
  obtain ⟨-, -, ⟨a', b', c', d', e', h1, h2⟩, -⟩ := h
  obtain ⟨rfl, rfl, rfl, rfl, rfl⟩ := five_inj (hY.symm.trans h1)
  exact h2
theorem Pw.wa {w0 w : World} {A Y : Value} (h : Pw w0 A Y w) {a b c d e : Nat} (hY : A = five a b c d e) : Whole w w0.heap.size 24 (fiveL a b c d e) := by
  obtain ⟨⟨a', b', c', d', e', h1, h2⟩, -⟩ := h
  obtain ⟨rfl, rfl, rfl, rfl, rfl⟩ := five_inj (hY.symm.trans h1)
  exact h2
theorem cells5 {w : World} {b : Nat} {t : TypeId} {x0 x1 x2 x3 x4 : Nat} (h : Whole w b t (fiveL x0 x1 x2 x3 x4)) : w.cell? ⟨b, 0, none⟩ = some (.int .u64 (x0 : Int)) ∧ w.cell? ⟨b, 1, none⟩ = some (.int .u64 (x1 : Int)) ∧ w.cell? ⟨b, 2, none⟩ = some (.int .u64 (x2 : Int)) ∧ w.cell? ⟨b, 3, none⟩ = some (.int .u64 (x3 : Int)) ∧ w.cell? ⟨b, 4, none⟩ = some (.int .u64 (x4 : Int)) :=
  ⟨h.row.cell rfl, h.row.cell rfl, h.row.cell rfl, h.row.cell rfl, h.row.cell rfl⟩
theorem free5 {w : World} {b : Nat} {t : TypeId} {x0 x1 x2 x3 x4 : Nat} (h : Whole w b t (fiveL x0 x1 x2 x3 x4)) : w.frozen? ⟨b, 0, none⟩ = false ∧ w.frozen? ⟨b, 1, none⟩ = false ∧ w.frozen? ⟨b, 2, none⟩ = false ∧ w.frozen? ⟨b, 3, none⟩ = false ∧ w.frozen? ⟨b, 4, none⟩ = false :=
  ⟨h.row.free (by simp), h.row.free (by simp), h.row.free (by simp), h.row.free (by simp), h.row.free (by simp)⟩

set_option maxHeartbeats 3200000 in
theorem power_any (a b c d e : Nat) (s : ByteArray) (w : World) (h : Words5 a b c d e) (hs : s.size ≤ 140737488351232) :
    Calls Try.prog 32 #[five a b c d e, .string s] w fun r w' => r = .returned (limV (wor a b c d e ^ num (s.data.toList.take 64) % Prime.P)) ∧ Below w.heap.size w w' := by
  have hlA := lims_five h
  obtain ⟨N, hN⟩ : ∃ N, N = wor a b c d e := ⟨_, rfl⟩
  rw [← hN] at hlA ⊢
  obtain ⟨E, hE⟩ : ∃ E, E = num (s.data.toList.take 64) := ⟨_, rfl⟩
  rw [← hE]
  have hsl : s.data.toList.length = s.size := rfl
  obtain ⟨K, hK⟩ : ∃ K, K = 8 * min s.size 64 := ⟨_, rfl⟩
  have hEK : E < 2 ^ K := by
    rw [hE, hK]
    refine Nat.lt_of_lt_of_le (num_lt _) (Nat.pow_le_pow_right (by decide) ?_)
    simp
    omega
  have hbit : ∀ i, i < K → bit s.data.toList (i : Int) = E / 2 ^ i % 2 := fun i hi => by
    rw [hE]
    exact bit_num _ _ (by rw [hsl, ← hK]; exact hi)
  have hKi : 8 * min (s.size : Int) 64 = (K : Int) := by omega
  have hK5 : K ≤ 512 := by omega
  have hst : Pw w (five a b c d e) (limV (N ^ (E / 2 ^ (K - 0)) % Prime.P)) (((w.alloc (.cells #[.int .u64 a, .int .u64 b, .int .u64 c, .int .u64 d, .int .u64 e] 24)).alloc (.cells #[.int .u64 0, .int .u64 0, .int .u64 0, .int .u64 0, .int .u64 0] 24)).alloc (.cells #[.int .u64 1, .int .u64 0, .int .u64 0, .int .u64 0, .int .u64 0] 24)) := by
    refine ⟨⟨a, b, c, d, e, rfl, ((Whole.made' w _ _ _ rfl).alloc _).alloc _⟩, (Whole.made' _ _ _ _ (by simp)).alloc _, ⟨1, 0, 0, 0, 0, ?_, Whole.made' _ _ _ _ (by simp)⟩, (((Below.refl _ _).alloc (Nat.le_refl _) _).alloc (by simp) _).alloc (by simp; omega) _⟩
    rw [Nat.sub_zero, Nat.div_eq_of_lt hEK, Nat.pow_zero]
    rfl
  have HT := Lib.hid hst
  have LA := Lib.hid hlA
  have HBIT := Lib.hid hbit
  have HKI := Lib.hid hKi
  have HS := Lib.hid hs
  clear hst hlA hbit hKi hE hN hK hEK hsl h hs
  go_enter Try.func32, Try.ntmps32
  go_upto_region 2 with (fail)
  rw [HKI.out]
  go_wp2
  go_loopw [7, 14] (fun _ i wr => ∃ k : Nat, k ≤ K ∧ i = .int .i64 k ∧ Pw w (five a b c d e) (limV (N ^ (E / 2 ^ (K - k)) % Prime.P)) wr) (fun _ i _ => 512 - (intOf i).toNat)
  case atStart => exact ⟨0, by omega, rfl, HT.out⟩
  case round =>
    obtain ⟨k, hkK, rfl, hk⟩ := hrel
    clear HT
    by_cases hlt : k < K
    · have hd2 : decide (k < K) = true := by simpa using hlt
      have hd3 : decide ((k : Int) < (K : Int)) = true := by simpa using hlt
      obtain ⟨q, hq⟩ : ∃ q, q = E / 2 ^ (K - k) := ⟨_, rfl⟩
      obtain ⟨m, hm⟩ : ∃ m, m = E / 2 ^ (K - 1 - k) % 2 := ⟨_, rfl⟩
      have hm2 : m < 2 := by omega
      have hstep := half_step E K k hlt
      rw [← hq, ← hm] at hstep
      rw [← hq] at hk
      have hb := HBIT.out (K - 1 - k) (by omega)
      rw [← hm] at hb
      have R1 := Lib.hid (fun u => times_val (lims_mod (N ^ q)) (lims_mod (N ^ q)) u)
      rw [pow_two] at R1
      have R2 := Lib.hid (fun u => times_val (lims_mod (N ^ (2 * q))) LA.out u)
      rw [pow_more] at R2
      have R3 := Lib.hid (fun u => swap_val (n := m) (lims_mod (N ^ (2 * q))) (lims_mod (N ^ (2 * q + 1))) (by omega) u)
      have hnew : (if m % 2 = 1 then limV (N ^ (2 * q + 1) % Prime.P) else limV (N ^ (2 * q) % Prime.P)) = limV (N ^ (2 * q + m) % Prime.P) := by
        by_cases e : m = 1
        · subst e
          rfl
        · obtain rfl : m = 0 := by omega
          rfl
      rw [hnew, ← hstep] at R3
      obtain ⟨V2, hV2⟩ : ∃ V2, V2 = if m % 2 = 1 then limV (N ^ (2 * q) % Prime.P) else limV (N ^ (2 * q + 1) % Prime.P) := ⟨_, rfl⟩
      rw [← hV2] at R3
      obtain ⟨Y0, hY0⟩ : ∃ Y, Y = limV (N ^ q % Prime.P) := ⟨_, rfl⟩
      obtain ⟨Y1, hY1⟩ : ∃ Y, Y = limV (N ^ (2 * q) % Prime.P) := ⟨_, rfl⟩
      obtain ⟨Y2, hY2⟩ : ∃ Y, Y = limV (N ^ (2 * q + 1) % Prime.P) := ⟨_, rfl⟩
      obtain ⟨Y3, hY3⟩ : ∃ Y, Y = limV (N ^ (E / 2 ^ (K - (k + 1))) % Prime.P) := ⟨_, rfl⟩
      rw [← hY0] at R1 hk
      rw [← hY1] at R1 R2 R3
      rw [← hY2] at R2 R3
      rw [← hY3] at R3
      obtain ⟨p0, p1, p2, p3, p4, hp⟩ := limV_five (N ^ (2 * q) % Prime.P)
      rw [← hY1] at hp
      obtain ⟨g0, g1, g2, g3, g4, hg⟩ := limV_five (N ^ (E / 2 ^ (K - (k + 1))) % Prime.P)
      rw [← hY3] at hg
      rw [hp] at R2 R3
      rw [hg] at R3
      have HP := Lib.hid hp
      have HG := Lib.hid hg
      have HY3 := Lib.hid hY3
      have RB := Lib.hid (show ∀ u, Calls Try.prog 62 #[.string s, .int .i64 ((K : Int) - 1 - (k : Int))] u fun e w' => e = .returned (.int .i64 (m : Int)) ∧ u = w' from fun u => by
        have := bit_any s ((K - 1 - k : Nat) : Int) u (by omega) (by omega) HS.out
        rw [hb, show ((K - 1 - k : Nat) : Int) = (K : Int) - 1 - (k : Int) by omega] at this
        exact this)
      obtain ⟨ka, kz, ky, kb⟩ := hk
      obtain ⟨a1, b1, c1, d1, e1, hA1, hwA⟩ := ka
      obtain ⟨y0, y1, y2, y3, y4, hYe, hwY⟩ := ky
      have c0 := hwY.row.cell (i := 0) rfl
      have c1' := hwY.row.cell (i := 1) rfl
      have c2 := hwY.row.cell (i := 2) rfl
      have c3 := hwY.row.cell (i := 3) rfl
      have c4 := hwY.row.cell (i := 4) rfl
      have HPW := Lib.hid (show Pw w (five a b c d e) Y0 wr from ⟨⟨a1, b1, c1, d1, e1, hA1, hwA⟩, kz, ⟨y0, y1, y2, y3, y4, hYe, hwY⟩, kb⟩)
      rw [hYe] at R1
      rw [hp] at R1
      have R1' := Lib.hid R1.out
      have hkk : (k : Int) < (K : Int) := by omega
      clear hA1 hwA kz hYe hwY kb R1 hq hm hstep hb hnew hV2 hY0 hY1 hY2 hY3 hp hg
      go_wp2_with fail
      refine (R1'.out _).mono ?_
      rintro e w1 ⟨rfl, hb1⟩
      have hP1 := HPW.out.next hb1
      have HP1 := Lib.hid hP1
      clear hb1 c0 c1' c2 c3 c4
      obtain ⟨-, -, ⟨z0, z1, z2, z3, z4, -, hwY⟩, -⟩ := hP1
      have c0 := hwY.row.cell (i := 0) rfl
      have c1' := hwY.row.cell (i := 1) rfl
      have c2 := hwY.row.cell (i := 2) rfl
      have c3 := hwY.row.cell (i := 3) rfl
      have c4 := hwY.row.cell (i := 4) rfl
      have f0 := hwY.row.free (i := 0) (by simp)
      have f1 := hwY.row.free (i := 1) (by simp)
      have f2 := hwY.row.free (i := 2) (by simp)
      have f3 := hwY.row.free (i := 3) (by simp)
      have f4 := hwY.row.free (i := 4) (by simp)
      clear hwY
      go_upto_region 6 with (fail)
      clear c0 c1' c2 c3 c4 f0 f1 f2 f3 f4
      have HQ := Lib.hid (Pw.drew (HP1.out.set p0 p1 p2 p3 p4 HP.out))
      generalize ((((w1.setCell ⟨w.heap.size + 1 + 1, 0, none⟩ (.int .u64 (p0 : Int))).setCell ⟨w.heap.size + 1 + 1, 1, none⟩ (.int .u64 (p1 : Int))).setCell ⟨w.heap.size + 1 + 1, 2, none⟩ (.int .u64 (p2 : Int))).setCell ⟨w.heap.size + 1 + 1, 3, none⟩ (.int .u64 (p3 : Int))).setCell ⟨w.heap.size + 1 + 1, 4, none⟩ (.int .u64 (p4 : Int)) = wz at *
      have n1 : IntKind.i64.wrap ((K : Int) - 1) = (K : Int) - 1 := IntWalk.i64_in _ (by omega)
      have n2 : IntKind.i64.wrap ((K : Int) - 1 - (k : Int)) = (K : Int) - 1 - (k : Int) := IntWalk.i64_in _ (by omega)
      refine Steady.region_free 12 (by kernel_rfl) (by kernel_rfl) (fun u => Below wz.drew.heap.size wz.drew u) (Below.refl _ _) ?_
      simp only [List.take_succ_cons, List.take_zero]
      refine Steady.take ?_ rfl (by intro u hu; obtain ⟨t0, t1, t2, t3, t4⟩ := cells5 ((HQ.out.next hu).wy HP.out); go_simp; with_reducible rfl) ?_
      simp only [Act.put, List.setIfInBounds_toArray, List.set_cons_zero, List.set_cons_succ]
      refine Steady.take ?_ rfl (by intro u hu; obtain ⟨t0, t1, t2, t3, t4⟩ := cells5 ((HQ.out.next hu).wy HP.out); go_simp; with_reducible rfl) ?_
      simp only [Act.put, List.setIfInBounds_toArray, List.set_cons_zero, List.set_cons_succ]
      refine Steady.take ?_ rfl (by intro u hu; obtain ⟨t0, t1, t2, t3, t4⟩ := cells5 ((HQ.out.next hu).wa rfl); go_simp; with_reducible rfl) ?_
      simp only [Act.put, List.setIfInBounds_toArray, List.set_cons_zero, List.set_cons_succ]
      refine Steady.call _ _ _ rfl ?_ (Steady.kept R2.out) ?_
      · intro u
        go_simp
      simp only [Act.put, List.setIfInBounds_toArray, List.set_cons_zero, List.set_cons_succ]
      refine Steady.take ?_ rfl (by intro u hu; go_simp; with_reducible rfl) ?_
      simp only [Act.put, List.setIfInBounds_toArray, List.set_cons_zero, List.set_cons_succ]
      refine Steady.take ?_ rfl (by intro u hu; go_simp; with_reducible rfl) ?_
      simp only [Act.put, List.setIfInBounds_toArray, List.set_cons_zero, List.set_cons_succ]
      refine Steady.take ?_ rfl (by intro u hu; go_simp; with_reducible rfl) ?_
      simp only [Act.put, List.setIfInBounds_toArray, List.set_cons_zero, List.set_cons_succ]
      refine Steady.take ?_ rfl (by intro u hu; go_simp; with_reducible rfl) ?_
      simp only [Act.put, List.setIfInBounds_toArray, List.set_cons_zero, List.set_cons_succ]
      refine Steady.take ?_ rfl (by intro u hu; go_simp; with_reducible rfl) ?_
      simp only [Act.put, List.setIfInBounds_toArray, List.set_cons_zero, List.set_cons_succ]
      refine Steady.call _ _ _ rfl ?_ (Steady.same RB.out) ?_
      · intro u
        go_simp
      simp only [Act.put, List.setIfInBounds_toArray, List.set_cons_zero, List.set_cons_succ]
      refine Steady.call _ _ _ rfl ?_ (Steady.kept R3.out) ?_
      · intro u
        go_simp
      simp only [Act.put, List.setIfInBounds_toArray, List.set_cons_zero, List.set_cons_succ]
      refine Steady.take ?_ rfl (by intro u hu; go_simp; with_reducible rfl) ?_
      simp only [Act.put, List.setIfInBounds_toArray, List.set_cons_zero, List.set_cons_succ]
      refine Steady.nil ?_
      intro w9 h9
      have h10 := HQ.out.next h9
      have H10 := Lib.hid h10
      obtain ⟨t0, t1, t2, t3, t4⟩ := cells5 (h10.wy HP.out)
      obtain ⟨f0, f1, f2, f3, f4⟩ := free5 (h10.wy HP.out)
      clear h9 h10
      change wpAny _ _ _ _ (2 + 1) _ _ _
      refine wpAny_take (i := 12) (v := five g0 g1 g2 g3 g4) rfl (by kernel_rfl) (by kernel_rfl) (by kernel_rfl) (fun _ _ _ h => h) (Or.inl ⟨by rfl, fun u => by go_simp⟩) ?_
      try simp only [Act.put]
      refine wpAny_take (i := 13) (v := V2) rfl (by kernel_rfl) (by kernel_rfl) (by kernel_rfl) (fun _ _ _ h => h) (Or.inl ⟨by rfl, fun u => by go_simp⟩) ?_
      try simp only [Act.put]
      refine Reg.only (i := 14) rfl rfl (by kernel_rfl) (fun K hK => ?_)
      go_simp
      refine hK _ _ ?_
      clear hK K
      refine wpAny_done (by kernel_rfl) ?_ _
      go_wp2
      go_roundw
      case rel => exact ⟨k + 1, by omega, by go_num, by rw [← HY3.out]; exact H10.out.set g0 g1 g2 g3 g4 HG.out⟩
      case measure => simp [intOf]; omega
    · have hd2 : decide (k < K) = false := by simpa using hlt
      have hd3 : decide ((k : Int) < (K : Int)) = false := by simpa using hlt
      obtain rfl : k = K := by omega
      obtain ⟨g0, g1, g2, g3, g4, hg⟩ := limV_five (N ^ (E / 2 ^ (k - k)) % Prime.P)
      have hw := hk.wy hg
      obtain ⟨t0, t1, t2, t3, t4⟩ := cells5 hw
      obtain ⟨z0, z1, z2, z3, z4⟩ := cells5 hk.z
      obtain ⟨f0, f1, f2, f3, f4⟩ := free5 hk.z
      rw [Nat.sub_self, Nat.pow_zero, Nat.div_one] at hg
      have HG := Lib.hid hg
      have HB := Lib.hid hk.below
      clear hk hw hg
      go_wp2
      rw [HG.out]
      exact bodyPost_ret (v := five g0 g1 g2 g3 g4) (by simp [results, Try.results32, go_sem, z0, z1, z2, z3, z4]) rfl ⟨rfl, set5 HB.out (by omega) _ _ _ _ _⟩
theorem power_val {v : Value} {N : Nat} (h : Lims v N) (s : ByteArray) (hs : s.size ≤ 140737488351232) (u : World) : Calls Try.prog 32 #[v, .string s] u fun r w' => r = .returned (limV (N ^ num (s.data.toList.take 64) % Prime.P)) ∧ Below u.heap.size u w' := by
  obtain ⟨a, b, c, d, e, rfl, hw, rfl⟩ := h
  exact power_any a b c d e s u hw hs

/-- A text of the bytes of a number. -/
def numT (n : Nat) : ByteArray := ⟨(bytesOf n).toArray⟩
theorem numT_size (n : Nat) : (numT n).size = 32 := by
  show (bytesOf n).toArray.size = 32
  simp [bytesOf_length]
theorem num_numT (n : Nat) (h : n < 2 ^ 256) : num ((numT n).data.toList.take 64) = n := by
  have : (numT n).data.toList = bytesOf n := rfl
  rw [this, List.take_of_length_le (by rw [bytesOf_length]; decide), num_bytes n h]
theorem power_num {v : Value} {N : Nat} (h : Lims v N) (n : Nat) (hn : n < 2 ^ 256) (u : World) : Calls Try.prog 32 #[v, .string (numT n)] u fun r w' => r = .returned (limV (N ^ n % Prime.P)) ∧ Below u.heap.size u w' := by
  have := power_val h (numT n) (by rw [numT_size]; decide) u
  rw [num_numT n hn] at this
  exact this

set_option maxHeartbeats 1600000 in
theorem expo_any (t less : Nat) (w : World) (ht : t ≤ 51) (hl : less < 18446744073709551616) (E : Nat) (hE : E = subP (2 ^ (204 + t)) less) (h : Int) (hh : h = 204 + t) :
    Calls Try.prog 60 #[.int .i64 h, .int .u64 less] w fun r w' => r = .returned (.string (numT E)) ∧ Below w.heap.size w w' := by
  have hp : 2 ^ t < 18446744073709551616 := Nat.lt_of_le_of_lt (Nat.pow_le_pow_right (by decide) ht) (by decide)
  obtain ⟨z, hz⟩ : ∃ z, z = 2 ^ t := ⟨_, rfl⟩
  rw [← hz] at hp
  have hw1 : wor 0 0 0 0 z = 2 ^ (204 + t) := by
    unfold wor
    rw [hz, Nat.pow_add, Nat.mul_comm (2 ^ t)]
    omega
  have hw2 : wor less 0 0 0 0 = less := by unfold wor; omega
  have R1 := fun u => sub_val (lims_five (a := 0) (b := 0) (c := 0) (d := 0) (e := z) ⟨by decide, by decide, by decide, by decide, hp⟩) (lims_five (a := less) (b := 0) (c := 0) (d := 0) (e := 0) ⟨hl, by decide, by decide, by decide, by decide⟩) u
  rw [hw1, hw2, ← hE] at R1
  have hEl : E < Prime.P := by rw [hE]; exact subP_lt _ _
  have R2 := Lib.hid (fun u => bytes_val (lims_lim (Nat.lt_trans hEl P_lt)) (numT E) (by rw [Nat.mod_eq_of_lt hEl]; rfl) u)
  have R1 := Lib.hid (show ∀ u, Calls Try.prog 20 #[.agg #[.int .u64 0, .int .u64 0, .int .u64 0, .int .u64 0, .int .u64 (z : Int)], .agg #[.int .u64 (less : Int), .int .u64 0, .int .u64 0, .int .u64 0, .int .u64 0]] u fun r w' => r = .returned (limV E) ∧ Below u.heap.size u w' from R1)
  obtain ⟨V, hV⟩ : ∃ V, V = limV E := ⟨_, rfl⟩
  rw [← hV] at R1 R2
  have hzi : (2 : Int) ^ t = (z : Int) := by rw [hz, Int.natCast_pow]; rfl
  have g1 : 204 ≤ h := by omega
  have g2 : h ≤ 255 := by omega
  have g3 : (h - 204).toNat = t := by omega
  have HH := Lib.hid hh
  have HZ := Lib.hid hzi
  clear hh hz hzi hE hw1 hw2 hV
  go_enter Try.func60, Try.ntmps60
  go_wp2_with fail
  rw [HZ.out, wrapN _ hp]
  refine (R1.out _).mono ?_
  rintro e w1 ⟨rfl, hb1⟩
  have HB1 := Lib.hid hb1
  clear hb1
  go_wp2_with fail
  refine (R2.out _).mono ?_
  rintro e w2 ⟨rfl, hb2⟩
  have HB2 := Lib.hid (HB1.out.trans (hb2.mono HB1.out.size))
  clear hb2
  go_wp2
  go_ret
  exact ⟨rfl, HB2.out⟩
theorem expo_lit (n less : Int) (E : Nat) (t l : Nat) (ht : t ≤ 51) (hl : l < 18446744073709551616) (hn : n = 204 + t) (hls : less = l) (hE : E = subP (2 ^ (204 + t)) l) (u : World) :
    Calls Try.prog 60 #[.int .i64 n, .int .u64 less] u fun r w' => r = .returned (.string (numT E)) ∧ Below u.heap.size u w' := by
  rw [hls]
  exact expo_any t l u ht hl E hE n hn

set_option maxHeartbeats 1600000 in
theorem invert_any (a b c d e : Nat) (w : World) (h : Words5 a b c d e) :
    Calls Try.prog 28 #[five a b c d e] w fun r w' => r = .returned (limV (wor a b c d e ^ (Prime.P - 2) % Prime.P)) ∧ Below w.heap.size w w' := by
  have R1 := Lib.hid (fun u => expo_lit 255 21 (Prime.P - 2) 51 21 (by decide) (by decide) (by decide) (by decide) (by decide +kernel) u)
  have R2 := fun u => power_num (lims_five h) (Prime.P - 2) (by decide) u
  obtain ⟨r0, r1, r2, r3, r4, hr⟩ := limV_five (wor a b c d e ^ (Prime.P - 2) % Prime.P)
  rw [hr] at R2 ⊢
  obtain ⟨T, hT⟩ : ∃ T, T = numT (Prime.P - 2) := ⟨_, rfl⟩
  rw [← hT] at R1 R2
  have R2 := Lib.hid R2
  clear hr hT h
  go_enter Try.func28, Try.ntmps28
  go_upto_region 1 with (fail)
  have HA := Lib.hid (((Whole.made' w 24 (fiveL a b c d e).toArray _ rfl).alloc (.cells (fiveL 0 0 0 0 0).toArray 24)).drew)
  have HZ := Lib.hid ((Whole.made' (w.alloc (.cells (fiveL a b c d e).toArray 24)) 24 (fiveL 0 0 0 0 0).toArray (w.heap.size + 1) (by simp)).drew)
  have HB := Lib.hid ((((Below.refl w.heap.size w).alloc (Nat.le_refl _) (.cells (fiveL a b c d e).toArray 24)).alloc (by simp) (.cells (fiveL 0 0 0 0 0).toArray 24)).drew)
  generalize (w.alloc (.cells #[.int .u64 (a : Int), .int .u64 (b : Int), .int .u64 (c : Int), .int .u64 (d : Int), .int .u64 (e : Int)] 24)).alloc (.cells #[.int .u64 0, .int .u64 0, .int .u64 0, .int .u64 0, .int .u64 0] 24) = wz at *
  refine Steady.region 3 (by kernel_rfl) (by kernel_rfl) (fun u => Below wz.drew.heap.size wz.drew u) (Below.refl _ _) ?_
  simp only [List.take_succ_cons, List.take_zero, List.drop_succ_cons, List.drop_zero]
  refine Steady.take ?_ rfl (by intro u hu; obtain ⟨t0, t1, t2, t3, t4⟩ := cells5 (HA.out.below HA.out.lt hu); go_simp; with_reducible rfl) ?_
  simp only [Act.put, List.setIfInBounds_toArray, List.set_cons_zero, List.set_cons_succ]
  refine Steady.call _ _ _ rfl ?_ (Steady.kept R1.out) ?_
  · intro u
    go_simp
  simp only [Act.put, List.setIfInBounds_toArray, List.set_cons_zero, List.set_cons_succ]
  refine Steady.call _ _ _ rfl ?_ (Steady.kept R2.out) ?_
  · intro u
    go_simp
  simp only [Act.put, List.setIfInBounds_toArray, List.set_cons_zero, List.set_cons_succ]
  refine Steady.nil ?_
  intro w9 h9
  obtain ⟨z0, z1, z2, z3, z4⟩ := cells5 (HZ.out.below HZ.out.lt h9)
  obtain ⟨f0, f1, f2, f3, f4⟩ := free5 (HZ.out.below HZ.out.lt h9)
  have HB9 := Lib.hid (HB.out.trans (h9.mono HB.out.size))
  clear h9
  go_wp2
  exact bodyPost_ret (v := five r0 r1 r2 r3 r4) (by simp [results, Try.results28, go_sem, z0, z1, z2, z3, z4]) rfl ⟨rfl, set5 HB9.out (by omega) _ _ _ _ _⟩
theorem invert_val {v : Value} {N : Nat} (h : Lims v N) (u : World) : Calls Try.prog 28 #[v] u fun r w' => r = .returned (limV (N ^ (Prime.P - 2) % Prime.P)) ∧ Below u.heap.size u w' := by
  obtain ⟨a, b, c, d, e, rfl, hw, rfl⟩ := h
  exact invert_any a b c d e u hw
end Go.Proofs.Ytcglobpklhkebaa.Limb
