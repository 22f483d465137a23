/-
  Swap, Scale and Square of package limbs answer what the plain mathematics says, and leave all memory that was there as it was. Conditions: words below 2^64, a bit that is no less than 0.
-/
import Derived.Test.YtcglobpklhkebaaLmbVal
import Derived.Deep.CutBlock
namespace Go.Proofs.Ytcglobpklhkebaa.Limb
open Go.RowKit Mur Lanes
set_option maxRecDepth 100000

abbrev fiveL (a b c d e : Nat) : List Value := [.int .u64 (a : Int), .int .u64 (b : Int), .int .u64 (c : Int), .int .u64 (d : Int), .int .u64 (e : Int)]

set_option maxHeartbeats 1600000 in
theorem scale_any (a b c d e n : Nat) (w : World) (h : Words5 a b c d e) (hn : n < 18446744073709551616) :
    Calls Try.prog 24 #[five a b c d e, .int .u64 n] w fun r w' => r = .returned (limV (wor a b c d e * n % Prime.P)) ∧ Below w.heap.size w w' := by
  have R := fun u => times_any a b c d e n 0 0 0 0 u h ⟨hn, by decide, by decide, by decide, by decide⟩
  have hw : wor n 0 0 0 0 = n := by unfold wor; omega
  rw [hw] at R
  obtain ⟨r0, r1, r2, r3, r4, hr⟩ := limV_five (wor a b c d e * n % Prime.P)
  rw [hr] at R ⊢
  have R1 := Lib.hid (show ∀ u, Calls Try.prog 22 #[five a b c d e, .agg #[.int .u64 (n : Int), .int .u64 0, .int .u64 0, .int .u64 0, .int .u64 0]] u fun r w' => r = .returned (five r0 r1 r2 r3 r4) ∧ Below u.heap.size u w' from R)
  clear hr h R hw
  go_enter Try.func24, Try.ntmps24
  go_wp2_with fail
  refine (R1.out _).mono ?_
  rintro e w1 ⟨rfl, hb⟩
  obtain ⟨hc, hf⟩ := bcell hb
  have hz : w.heap.size + 1 < w1.heap.size := by have := hb.size; simp at this; omega
  have HB := Lib.hid hb
  clear hb
  go_wp2
  exact bodyPost_ret (v := five r0 r1 r2 r3 r4) (by simp [results, Try.results24, go_sem, hc]) rfl ⟨rfl, set5 (((((Below.refl _ _).alloc (Nat.le_refl _) _).alloc (by simp) _).trans (HB.out.mono (by simp; omega)))) (by omega) _ _ _ _ _⟩
theorem scale_val {v : Value} {N n : Nat} (h : Lims v N) (hn : n < 18446744073709551616) (u : World) : Calls Try.prog 24 #[v, .int .u64 n] u fun r w' => r = .returned (limV (N * n % Prime.P)) ∧ Below u.heap.size u w' := by
  obtain ⟨a, b, c, d, e, rfl, h1, rfl⟩ := h
  exact scale_any a b c d e n u h1 hn

/-- The limbs below k are those of the other. -/
def mixTo (a b : List Nat) : Nat → List Nat
  | 0 => a
  | k + 1 => (mixTo a b k).set k (b.getD k 0)
theorem mixTo_length (a b : List Nat) (k : Nat) : (mixTo a b k).length = a.length := by
  induction k with
  | zero => rfl
  | succ k ih => rw [mixTo, List.length_set, ih]
theorem mixTo_get (a b : List Nat) (k i : Nat) (hi : i < a.length) : (mixTo a b k).getD i 0 = if i < k then b.getD i 0 else a.getD i 0 := by
  induction k with
  | zero => rfl
  | succ k ih =>
    rw [mixTo]
    by_cases e : k = i
    · subst e
      rw [if_pos (by omega)]
      simp [List.getD, mixTo_length, hi]
    · rw [List.getD, List.getElem?_set_ne e, ← List.getD, ih]
      by_cases h : i < k
      · rw [if_pos h, if_pos (by omega)]
      · rw [if_neg h, if_neg (by omega)]
theorem mixTo_end {a b : List Nat} (ha : a.length = 5) (hb : b.length = 5) : mixTo a b 5 = b := by
  refine List.ext_getElem (by rw [mixTo_length, ha, hb]) fun i h1 h2 => ?_
  have := mixTo_get a b 5 i (by omega)
  rw [if_pos (by omega)] at this
  simpa [List.getD, h1, h2] using this

theorem numsV_length (ns : List Nat) : (numsV ns).length = ns.length := by simp [numsV]
theorem numsV_at {ns : List Nat} {i : Nat} (h : i < ns.length) : (numsV ns)[i]? = some (.int .u64 (ns[i] : Int)) := by simp [numsV, h]
theorem numsV_set (ns : List Nat) (i n : Nat) : (numsV ns).set i (.int .u64 (n : Int)) = numsV (ns.set i n) := by simp [numsV, List.map_set]
theorem num_cell {w : World} {b : Nat} {t : TypeId} {s : List Nat} (h : Whole w b t (numsV s)) {i : Nat} (hi : i < s.length) : w.cell? ⟨b, i, none⟩ = some (.int .u64 ((s.getD i 0 : Nat) : Int)) := by
  rw [h.row.cell (numsV_at hi)]
  simp [List.getD, hi]
theorem num_free {w : World} {b : Nat} {t : TypeId} {s : List Nat} (h : Whole w b t (numsV s)) {i : Nat} (hi : i < s.length) : w.frozen? ⟨b, i, none⟩ = false :=
  h.row.free (by rw [numsV_length]; exact hi)
theorem set_num {w : World} {b : Nat} {t : TypeId} {s : List Nat} (h : Whole w b t (numsV s)) (i x : Nat) : Whole (w.setCell ⟨b, i, none⟩ (.int .u64 (x : Int))) b t (numsV (s.set i x)) := by
  rw [← numsV_set]
  exact h.set i _

theorem one_and (n : Nat) (h : n < 9223372036854775808) : bits .and .i64 (n : Int) 1 = ((n % 2 : Nat) : Int) := by
  have := and_i64_nat n 1 h (by omega)
  rw [Nat.and_one_is_mod] at this
  exact this
/-- What the mask lets through. -/
theorem mask_xor (m x y : Nat) (hx : x < 18446744073709551616) (hy : y < 18446744073709551616) (hm : m < 2) :
    bits .and .u64 (IntKind.u64.wrap (-(m : Int))) (bits .xor .u64 (x : Int) (y : Int)) = (((if m = 1 then x ^^^ y else 0) : Nat) : Int) := by
  have hxy : x ^^^ y < 18446744073709551616 := Nat.xor_lt_two_pow (n := 64) hx hy
  rw [bits_xor_u64_nat _ _ hx hy]
  by_cases h : m = 1
  · subst h
    rw [if_pos rfl, IntKind.wrap_u64, show (-((1 : Nat) : Int)) % 18446744073709551616 = ((18446744073709551615 : Nat) : Int) by decide, bits_and_u64_nat _ _ (by decide) hxy, Nat.and_comm]
    exact congrArg _ ((Nat.and_two_pow_sub_one_eq_mod (x ^^^ y) 64).trans (Nat.mod_eq_of_lt hxy))
  · obtain rfl : m = 0 := by omega
    rw [if_neg (by decide), IntKind.wrap_u64, show (-((0 : Nat) : Int)) % 18446744073709551616 = ((0 : Nat) : Int) by decide, bits_and_u64_nat _ _ (by decide) hxy, Nat.zero_and]

theorem list_five {l : List Nat} (h : l.length = 5) : ∃ a b c d e, l = [a, b, c, d, e] := by
  match l, h with
  | [a, b, c, d, e], _ => exact ⟨a, b, c, d, e, rfl⟩

/-- Two rows of limbs in their boxes, the answers' places. -/
structure Sw (w0 : World) (x y : List Nat) (w : World) : Prop where
  x : Whole w w0.heap.size 24 (numsV x)
  y : Whole w (w0.heap.size + 1) 24 (numsV y)
  z : Whole w (w0.heap.size + 1 + 1) 24 (fiveL 0 0 0 0 0)
  z' : Whole w (w0.heap.size + 1 + 1 + 1) 24 (fiveL 0 0 0 0 0)
  below : Below w0.heap.size w0 w
theorem Sw.setX {w0 w : World} {x y : List Nat} (h : Sw w0 x y w) (i v : Nat) : Sw w0 (x.set i v) y (w.setCell ⟨w0.heap.size, i, none⟩ (.int .u64 (v : Int))) :=
  ⟨set_num h.x i v, h.y.other _ _ _ (by omega), h.z.other _ _ _ (by omega), h.z'.other _ _ _ (by omega), h.below.setCell (p := ⟨w0.heap.size, i, none⟩) (Nat.le_refl _) _⟩
theorem Sw.setY {w0 w : World} {x y : List Nat} (h : Sw w0 x y w) (i v : Nat) : Sw w0 x (y.set i v) (w.setCell ⟨w0.heap.size + 1, i, none⟩ (.int .u64 (v : Int))) :=
  ⟨h.x.other _ _ _ (by omega), set_num h.y i v, h.z.other _ _ _ (by omega), h.z'.other _ _ _ (by omega), h.below.setCell (p := ⟨w0.heap.size + 1, i, none⟩) (by show _ ≤ w0.heap.size + 1; omega) _⟩
theorem Sw.drewN {w0 w : World} {x y : List Nat} (h : Sw w0 x y w) (n : Nat) : Sw w0 x y (w.drewN n) := ⟨h.x, h.y, h.z, h.z', belowN h.below n⟩

set_option maxHeartbeats 1600000 in
theorem swap_any (a b : List Nat) (n : Nat) (w : World) (ha : a.length = 5) (hb : b.length = 5) (la : ∀ i, a.getD i 0 < 18446744073709551616) (lb : ∀ i, b.getD i 0 < 18446744073709551616) (hn : n < 9223372036854775808) :
    Calls Try.prog 10 #[.agg (numsV a).toArray, .agg (numsV b).toArray, .int .i64 n] w fun r w' => r = .returned (.tuple #[.agg (numsV (if n % 2 = 1 then b else a)).toArray, .agg (numsV (if n % 2 = 1 then a else b)).toArray]) ∧ Below w.heap.size w w' := by
  obtain ⟨A, hA⟩ : ∃ A, A = if n % 2 = 1 then b else a := ⟨_, rfl⟩
  obtain ⟨B, hB⟩ : ∃ B, B = if n % 2 = 1 then a else b := ⟨_, rfl⟩
  have hA5 : A.length = 5 := by rw [hA]; split <;> assumption
  have hB5 : B.length = 5 := by rw [hB]; split <;> assumption
  have hst : Sw w a b ((((w.alloc (.cells (numsV a).toArray 24)).alloc (.cells (numsV b).toArray 24)).alloc (.cells (fiveL 0 0 0 0 0).toArray 24)).alloc (.cells (fiveL 0 0 0 0 0).toArray 24)) :=
    ⟨(((Whole.made' w _ (numsV a).toArray _ rfl).alloc _).alloc _).alloc _, ((Whole.made' _ _ (numsV b).toArray _ (by simp)).alloc _).alloc _, (Whole.made' _ _ _ _ (by simp)).alloc _, Whole.made' _ _ _ _ (by simp), ((((Below.refl _ _).alloc (Nat.le_refl _) _).alloc (by simp) _).alloc (by simp; omega) _).alloc (by simp; omega) _⟩
  rw [← hA, ← hB]
  have hm := one_and n hn
  obtain ⟨m, hm2⟩ : ∃ m, m = n % 2 := ⟨_, rfl⟩
  have hml : m < 2 := by omega
  rw [← hm2] at hm hA hB
  have HT := Lib.hid hst
  have HA := Lib.hid hA
  have HB := Lib.hid hB
  have HM := Lib.hid hm
  have LA := Lib.hid la
  have LB := Lib.hid lb
  have A5 := Lib.hid hA5
  have B5 := Lib.hid hB5
  have a5 := Lib.hid ha
  have b5 := Lib.hid hb
  clear hst hA hB la lb hA5 hB5 ha hb hm hm2
  go_enter Try.func10, Try.ntmps10
  go_wp2
  rw [HM.out, wrapN m (by omega)]
  obtain ⟨K, hK⟩ : ∃ K : Int, K = IntKind.u64.wrap (-(m : Int)) := ⟨_, rfl⟩
  rw [← hK]
  have HK := Lib.hid hK
  clear hK HM
  go_loopw [9, 10, 15] (fun _ _ i wr => ∃ k : Nat, k ≤ 5 ∧ i = .int .i64 k ∧ Sw w (mixTo a A k) (mixTo b B k) wr) (fun _ _ i _ => 5 - (intOf i).toNat)
  case atStart => exact ⟨0, by omega, rfl, HT.out⟩
  case round =>
    obtain ⟨k, hk5, rfl, hk⟩ := hrel
    by_cases hlt : k < 5
    · have hd2 : decide ((k : Int) < 5) = true := by simp; omega
      have ik : (k : Int) < 5 := by omega
      have lX : k < (mixTo a A k).length := by rw [mixTo_length, a5.out]; exact hlt
      have lY : k < (mixTo b B k).length := by rw [mixTo_length, b5.out]; exact hlt
      have gX : (mixTo a A k).getD k 0 = a.getD k 0 := by rw [mixTo_get a A k k (by rw [a5.out]; exact hlt), if_neg (by omega)]
      have gY : (mixTo b B k).getD k 0 = b.getD k 0 := by rw [mixTo_get b B k k (by rw [b5.out]; exact hlt), if_neg (by omega)]
      have hX : mixTo a A (k + 1) = (mixTo a A k).set k (A.getD k 0) := rfl
      have hY : mixTo b B (k + 1) = (mixTo b B k).set k (B.getD k 0) := rfl
      have l1 := LA.out k
      have l2 := LB.out k
      have hmx := mask_xor m (a.getD k 0) (b.getD k 0) l1 l2 hml
      rw [← HK.out] at hmx
      obtain ⟨D, hD⟩ : ∃ D, D = if m = 1 then a.getD k 0 ^^^ b.getD k 0 else 0 := ⟨_, rfl⟩
      rw [← hD] at hmx
      have hDl : D < 18446744073709551616 := by
        rw [hD]
        split
        · exact Nat.xor_lt_two_pow (n := 64) l1 l2
        · decide
      have nX : a.getD k 0 ^^^ D = A.getD k 0 := by
        rw [hD, HA.out]
        split
        · rw [← Nat.xor_assoc, Nat.xor_self, Nat.zero_xor]
        · rw [Nat.xor_zero]
      have nY : b.getD k 0 ^^^ D = B.getD k 0 := by
        rw [hD, HB.out]
        split
        · rw [Nat.xor_comm (a.getD k 0), ← Nat.xor_assoc, Nat.xor_self, Nat.zero_xor]
        · rw [Nat.xor_zero]
      rw [← nX] at hX
      rw [← nY] at hY
      have bX := bits_xor_u64_nat (a.getD k 0) D l1 hDl
      have bY := bits_xor_u64_nat (b.getD k 0) D l2 hDl
      generalize mixTo a A k = X at *
      generalize mixTo b B k = Y at *
      generalize a.getD k 0 = x at *
      generalize b.getD k 0 = y at *
      have cx := fun n => num_cell (hk.drewN n).x lX
      have cy := fun n => num_cell (hk.drewN n).y lY
      rw [gX] at cx
      rw [gY] at cy
      have fx := fun n => num_free (hk.drewN n).x lX
      have h2 := fun n => (hk.drewN n).setX k (x ^^^ D)
      have cy2 := fun n => num_cell (h2 n).y lY
      rw [gY] at cy2
      have fy2 := fun n => num_free (h2 n).y lY
      have h3 := fun n => (h2 n).setY k (y ^^^ D)
      have HX := Lib.hid hX
      have HY := Lib.hid hY
      have H3 := Lib.hid h3
      have CX := Lib.hid cx
      have FX := Lib.hid fx
      have CY2 := Lib.hid cy2
      have FY2 := Lib.hid fy2
      have BX := Lib.hid bX
      have BY := Lib.hid bY
      have HMX := Lib.hid hmx
      have cx0 : wr.cell? ⟨w.heap.size, k, none⟩ = some (.int .u64 (x : Int)) := cx 0
      have cy0 : wr.cell? ⟨w.heap.size + 1, k, none⟩ = some (.int .u64 (y : Int)) := cy 0
      clear hk hX hY h2 h3 cx fx cy2 fy2 bX bY hmx gX gY lX lY nX nY hD HT cy
      go_upto_region 5 with (fail)
      go_quiet (fail)
      have cx := CX.out nq
      have fx := FX.out nq
      have hmx := HMX.out
      have bX := BX.out
      clear cx0 cy0
      go_upto_region 7 with (fail)
      have cy2 := CY2.out nq
      have fy2 := FY2.out nq
      have bY := BY.out
      go_wp2
      go_roundw
      case rel => exact ⟨k + 1, by omega, by go_num, by rw [HX.out, HY.out]; exact H3.out nq⟩
      case measure => simp [intOf]; omega
    · have hd2 : decide ((k : Int) < 5) = false := by simp; omega
      obtain rfl : k = 5 := by omega
      rw [mixTo_end a5.out A5.out, mixTo_end b5.out B5.out] at hk
      have HF := Lib.hid hk
      obtain ⟨r0, r1, r2, r3, r4, hr⟩ := list_five A5.out
      obtain ⟨s0, s1, s2, s3, s4, hs⟩ := list_five B5.out
      clear hk HA HB HT A5 B5 a5 b5 LA LB
      subst hr hs
      have hfx : Whole wr w.heap.size 24 (fiveL r0 r1 r2 r3 r4) := HF.out.x
      have hfy : Whole wr (w.heap.size + 1) 24 (fiveL s0 s1 s2 s3 s4) := HF.out.y
      have hz := HF.out.z
      have hz' := HF.out.z'
      have c0 := hfx.row.cell (i := 0) rfl
      have c1 := hfx.row.cell (i := 1) rfl
      have c2 := hfx.row.cell (i := 2) rfl
      have c3 := hfx.row.cell (i := 3) rfl
      have c4 := hfx.row.cell (i := 4) rfl
      have d0 := hfy.row.cell (i := 0) rfl
      have d1 := hfy.row.cell (i := 1) rfl
      have d2 := hfy.row.cell (i := 2) rfl
      have d3 := hfy.row.cell (i := 3) rfl
      have d4 := hfy.row.cell (i := 4) rfl
      have z0 := hz.row.cell (i := 0) rfl
      have z1 := hz.row.cell (i := 1) rfl
      have z2 := hz.row.cell (i := 2) rfl
      have z3 := hz.row.cell (i := 3) rfl
      have z4 := hz.row.cell (i := 4) rfl
      have y0 := hz'.row.cell (i := 0) rfl
      have y1 := hz'.row.cell (i := 1) rfl
      have y2 := hz'.row.cell (i := 2) rfl
      have y3 := hz'.row.cell (i := 3) rfl
      have y4 := hz'.row.cell (i := 4) rfl
      have f0 := hz.row.free (i := 0) (by decide)
      have f1 := hz.row.free (i := 1) (by decide)
      have f2 := hz.row.free (i := 2) (by decide)
      have f3 := hz.row.free (i := 3) (by decide)
      have f4 := hz.row.free (i := 4) (by decide)
      have g0 := hz'.row.free (i := 0) (by decide)
      have g1 := hz'.row.free (i := 1) (by decide)
      have g2 := hz'.row.free (i := 2) (by decide)
      have g3 := hz'.row.free (i := 3) (by decide)
      have g4 := hz'.row.free (i := 4) (by decide)
      clear hfx hfy hz hz'
      go_upto_region 9 with (fail)
      go_region
      all_goals go_wp2
      have HB := HF.out.below
      all_goals exact bodyPost_ret (v := .tuple #[five r0 r1 r2 r3 r4, five s0 s1 s2 s3 s4]) (by simp [results, Try.results10, go_sem, z0, z1, z2, z3, z4, y0, y1, y2, y3, y4]) rfl ⟨rfl, by first | exact (set5 (set5 HB (b := w.heap.size + 1 + 1) (by omega) _ _ _ _ _) (b := w.heap.size + 1 + 1 + 1) (by omega) _ _ _ _ _).drew | exact (set5 (set5 HB (b := w.heap.size + 1 + 1 + 1) (by omega) _ _ _ _ _) (b := w.heap.size + 1 + 1) (by omega) _ _ _ _ _).drew⟩

/-- How often Square squares. -/
def times (n : Int) : Nat := (min n 300).toNat
/-- A value in its box. -/
def Box (w0 : World) (v : Value) (w : World) : Prop := ∃ a b c d e : Nat, v = five a b c d e ∧ Whole w w0.heap.size 24 (fiveL a b c d e) ∧ Whole w (w0.heap.size + 1) 24 (fiveL 0 0 0 0 0) ∧ Below w0.heap.size w0 w
theorem set5_whole {w : World} {b : Nat} {t : TypeId} {vs : List Value} (h : Whole w b t vs) (hl : vs.length = 5) (v0 v1 v2 v3 v4 : Value) : Whole (((((w.setCell ⟨b, 0, none⟩ v0).setCell ⟨b, 1, none⟩ v1).setCell ⟨b, 2, none⟩ v2).setCell ⟨b, 3, none⟩ v3).setCell ⟨b, 4, none⟩ v4) b t [v0, v1, v2, v3, v4] := by
  have := ((((h.set 0 v0).set 1 v1).set 2 v2).set 3 v3).set 4 v4
  match vs, hl with
  | [a, b, c, d, e], _ => exact this
theorem set5_other {w : World} {b c : Nat} {t : TypeId} {vs : List Value} (h : Whole w b t vs) (hc : c ≠ b) (v0 v1 v2 v3 v4 : Value) : Whole (((((w.setCell ⟨c, 0, none⟩ v0).setCell ⟨c, 1, none⟩ v1).setCell ⟨c, 2, none⟩ v2).setCell ⟨c, 3, none⟩ v3).setCell ⟨c, 4, none⟩ v4) b t vs :=
  ((((h.other c 0 v0 hc).other c 1 v1 hc).other c 2 v2 hc).other c 3 v3 hc).other c 4 v4 hc

set_option maxHeartbeats 1600000 in
theorem square_any (a b c d e : Nat) (n : Int) (w : World) (h : Words5 a b c d e) (h1 : -9223372036854775808 ≤ n) (h2 : n ≤ 9223372036854775807) :
    Calls Try.prog 26 #[five a b c d e, .int .i64 n] w fun r w' => r = .returned (limV (wor a b c d e ^ 2 ^ times n % Prime.P)) ∧ Below w.heap.size w w' := by
  obtain ⟨N, hN⟩ : ∃ N, N = wor a b c d e := ⟨_, rfl⟩
  have hl : Lims (five a b c d e) N := ⟨a, b, c, d, e, rfl, h, hN.symm⟩
  have RC := Lib.hid (fun u => carry_val hl u)
  rw [← hN]
  obtain ⟨K, hK⟩ : ∃ K, K = times n := ⟨_, rfl⟩
  have hK3 : K ≤ 300 := by rw [hK]; unfold times; omega
  have hlt : ∀ k : Nat, decide ((k : Int) < min n 300) = decide (k < K) := fun k => decide_eq_decide.2 (by rw [hK]; unfold times; omega)
  have HL := Lib.hid hlt
  rw [← hK]
  obtain ⟨r0, r1, r2, r3, r4, hr⟩ := limV_five (N % Prime.P)
  have HR := Lib.hid hr
  rw [hr] at RC
  clear hN hK hl hlt hr h
  go_enter Try.func26, Try.ntmps26
  go_wp2_with fail
  refine (RC.out _).mono ?_
  rintro e w1 ⟨rfl, hb⟩
  obtain ⟨hc, hf⟩ := bcell hb
  have hz : w.heap.size + 1 < w1.heap.size := by have := hb.size; simp at this; omega
  have HB := Lib.hid hb
  clear hb
  go_wp2
  have hst : Box w (limV (N ^ 2 ^ 0 % Prime.P)) (((((w1.setCell ⟨w.heap.size, 0, none⟩ (.int .u64 (r0 : Int))).setCell ⟨w.heap.size, 1, none⟩ (.int .u64 (r1 : Int))).setCell ⟨w.heap.size, 2, none⟩ (.int .u64 (r2 : Int))).setCell ⟨w.heap.size, 3, none⟩ (.int .u64 (r3 : Int))).setCell ⟨w.heap.size, 4, none⟩ (.int .u64 (r4 : Int))) := by
    have g1 : Whole w1 w.heap.size 24 (fiveL a b c d e) := Whole.below (((Whole.made' w _ _ _ rfl).alloc _)) (by simp; omega) HB.out
    have g2 : Whole w1 (w.heap.size + 1) 24 (fiveL 0 0 0 0 0) := Whole.below (Whole.made' _ _ _ _ (by simp)) (by simp) HB.out
    refine ⟨r0, r1, r2, r3, r4, by rw [Nat.pow_zero, Nat.pow_one]; exact HR.out, set5_whole g1 rfl _ _ _ _ _, set5_other g2 (by omega) _ _ _ _ _, set5 ((((Below.refl _ _).alloc (Nat.le_refl _) _).alloc (by simp) _).trans (HB.out.mono (by simp; omega))) (Nat.le_refl _) _ _ _ _ _⟩
  have HT := Lib.hid hst
  clear hst HB hc hf hz HR RC
  go_loopw [9] (fun i wr => ∃ k : Nat, k ≤ K ∧ i = .int .i64 k ∧ Box w (limV (N ^ 2 ^ k % Prime.P)) wr) (fun i _ => 300 - (intOf i).toNat)
  case atStart => exact ⟨0, by omega, rfl, HT.out⟩
  case round =>
    obtain ⟨k, hk5, rfl, hk⟩ := hrel
    clear HT
    obtain ⟨x0, x1, x2, x3, x4, hx, hw, hw', hb⟩ := hk
    by_cases hlt : k < K
    · have hd2 : decide ((k : Int) < min n 300) = true := by rw [HL.out]; simpa using hlt
      have R := fun u => times_val (lims_mod (N ^ 2 ^ k)) (lims_mod (N ^ 2 ^ k)) u
      have hp : N ^ 2 ^ k % Prime.P * (N ^ 2 ^ k % Prime.P) % Prime.P = N ^ 2 ^ (k + 1) % Prime.P := by
        rw [← Nat.mul_mod, ← Nat.pow_add, Nat.pow_succ 2, Nat.mul_two]
      rw [hp, hx] at R
      clear hp hx
      obtain ⟨y0, y1, y2, y3, y4, hy⟩ := limV_five (N ^ 2 ^ (k + 1) % Prime.P)
      rw [hy] at R
      have R1 := Lib.hid R
      have HY := Lib.hid hy
      have HW := Lib.hid hw
      have HW' := Lib.hid hw'
      have HBB := Lib.hid hb
      have c0 := hw.row.cell (i := 0) rfl
      have c1 := hw.row.cell (i := 1) rfl
      have c2 := hw.row.cell (i := 2) rfl
      have c3 := hw.row.cell (i := 3) rfl
      have c4 := hw.row.cell (i := 4) rfl
      clear R hy hw hw' hb
      go_wp2_with fail
      refine (R1.out _).mono ?_
      rintro e w2 ⟨rfl, hb2⟩
      have hw2 := HW.out.below HW.out.lt hb2
      have hw2' := HW'.out.below HW'.out.lt hb2
      have HB2 := Lib.hid (HBB.out.trans (hb2.mono HBB.out.size))
      clear hb2 c0 c1 c2 c3 c4
      have c0 := hw2.row.cell (i := 0) rfl
      have c1 := hw2.row.cell (i := 1) rfl
      have c2 := hw2.row.cell (i := 2) rfl
      have c3 := hw2.row.cell (i := 3) rfl
      have c4 := hw2.row.cell (i := 4) rfl
      have f0 := hw2.row.free (i := 0) (by simp)
      have f1 := hw2.row.free (i := 1) (by simp)
      have f2 := hw2.row.free (i := 2) (by simp)
      have f3 := hw2.row.free (i := 3) (by simp)
      have f4 := hw2.row.free (i := 4) (by simp)
      have H2 := Lib.hid hw2
      have H2' := Lib.hid hw2'
      clear hw2 hw2'
      go_wp2
      go_roundw
      case rel => exact ⟨k + 1, by omega, by go_num, y0, y1, y2, y3, y4, HY.out, set5_whole H2.out rfl _ _ _ _ _, set5_other H2'.out (by omega) _ _ _ _ _, set5 HB2.out (Nat.le_refl _) _ _ _ _ _⟩
      case measure => simp [intOf]; omega
    · have hd2 : decide ((k : Int) < min n 300) = false := by rw [HL.out]; simpa using hlt
      obtain rfl : k = K := by omega
      have HX := Lib.hid hx
      have HBB := Lib.hid hb
      have c0 := hw.row.cell (i := 0) rfl
      have c1 := hw.row.cell (i := 1) rfl
      have c2 := hw.row.cell (i := 2) rfl
      have c3 := hw.row.cell (i := 3) rfl
      have c4 := hw.row.cell (i := 4) rfl
      have z0 := hw'.row.cell (i := 0) rfl
      have z1 := hw'.row.cell (i := 1) rfl
      have z2 := hw'.row.cell (i := 2) rfl
      have z3 := hw'.row.cell (i := 3) rfl
      have z4 := hw'.row.cell (i := 4) rfl
      have f0 := hw'.row.free (i := 0) (by simp)
      have f1 := hw'.row.free (i := 1) (by simp)
      have f2 := hw'.row.free (i := 2) (by simp)
      have f3 := hw'.row.free (i := 3) (by simp)
      have f4 := hw'.row.free (i := 4) (by simp)
      clear hx hw hw' hb
      go_wp2
      rw [HX.out]
      exact bodyPost_ret (v := five x0 x1 x2 x3 x4) (by simp [results, Try.results26, go_sem, z0, z1, z2, z3, z4]) rfl ⟨rfl, set5 HBB.out (by omega) _ _ _ _ _⟩
theorem square_val {v : Value} {N : Nat} (h : Lims v N) (n : Int) (h1 : -9223372036854775808 ≤ n) (h2 : n ≤ 9223372036854775807) (u : World) : Calls Try.prog 26 #[v, .int .i64 n] u fun r w' => r = .returned (limV (N ^ 2 ^ times n % Prime.P)) ∧ Below u.heap.size u w' := by
  obtain ⟨a, b, c, d, e, rfl, hw, rfl⟩ := h
  exact square_any a b c d e n u hw h1 h2
end Go.Proofs.Ytcglobpklhkebaa.Limb
