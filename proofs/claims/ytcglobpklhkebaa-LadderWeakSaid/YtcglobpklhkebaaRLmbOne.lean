/-
  The small functions of the document's own answer for layer 5 (more, small) answer what the plain mathematics of the text Limb says, and leave all memory that was there as it was. Conditions: words below 2^64, sums below 2^128.
-/
import Derived.Test.YtcglobpklhkebaaLmbPow
import Derived.IntWalk
namespace Go.Proofs.Ytcglobpklhkebaa.RefLimb
open Go.RowKit Mur Lanes Limb
set_option maxRecDepth 100000

/-- The product of two words by halves. -/
theorem halves (a b p q r s : Nat) (ha : a < 18446744073709551616) (hb : b < 18446744073709551616) (hp : p = a % 4294967296) (hq : q = a / 4294967296) (hr : r = b % 4294967296) (hs : s = b / 4294967296) :
    p * r < 18446744073709551616 ∧ p * s < 18446744073709551616 ∧ q * r < 18446744073709551616 ∧ q * s + p * s / 4294967296 + q * r / 4294967296 + (p * r / 4294967296 + p * s % 4294967296 + q * r % 4294967296) / 4294967296 = a * b / 18446744073709551616 ∧
      (p * r / 4294967296 + p * s % 4294967296 + q * r % 4294967296) % 4294967296 * 4294967296 + p * r % 4294967296 = a * b % 18446744073709551616 := by
  have h0 : a * b = q * s * 18446744073709551616 + (p * s + q * r) * 4294967296 + p * r := by
    have e1 : a = q * 4294967296 + p := by omega
    have e2 : b = s * 4294967296 + r := by omega
    rw [e1, e2]
    grind
  have b1 : p * r ≤ 4294967295 * 4294967295 := Nat.mul_le_mul (by omega) (by omega)
  have b2 : p * s ≤ 4294967295 * 4294967295 := Nat.mul_le_mul (by omega) (by omega)
  have b3 : q * r ≤ 4294967295 * 4294967295 := Nat.mul_le_mul (by omega) (by omega)
  rw [h0]
  generalize p * r = x at *
  generalize p * s = y at *
  generalize q * r = z at *
  generalize q * s = t at *
  omega

set_option maxHeartbeats 1600000 in
theorem more_any (N a b : Nat) (w : World) (ha : a < 18446744073709551616) (hb : b < 18446744073709551616) (hN : N + a * b < 340282366920938463463374607431768211456) :
    Calls Try.prog 73 #[.agg #[.int .u64 ((N % 18446744073709551616 : Nat) : Int), .int .u64 ((N / 18446744073709551616 : Nat) : Int)], .int .u64 a, .int .u64 b] w fun e w' => e = .returned (.agg #[.int .u64 (((N + a * b) % 18446744073709551616 : Nat) : Int), .int .u64 (((N + a * b) / 18446744073709551616 : Nat) : Int)]) ∧ Below w.heap.size w w' := by
  obtain ⟨p, hp⟩ : ∃ p, p = a % 4294967296 := ⟨_, rfl⟩
  obtain ⟨q, hq⟩ : ∃ p, p = a / 4294967296 := ⟨_, rfl⟩
  obtain ⟨r, hr⟩ : ∃ p, p = b % 4294967296 := ⟨_, rfl⟩
  obtain ⟨s, hs⟩ : ∃ p, p = b / 4294967296 := ⟨_, rfl⟩
  obtain ⟨g1, g2, g3, g4, g5⟩ := halves a b p q r s ha hb hp hq hr hs
  have ma := Mul64.maskN a ha
  have mb := Mul64.maskN b hb
  have da := Mul64.divN a
  have db := Mul64.divN b
  rw [← hp] at ma
  rw [← hr] at mb
  rw [← hq] at da
  rw [← hs] at db
  obtain ⟨ll, hll⟩ : ∃ x, x = p * r := ⟨_, rfl⟩
  obtain ⟨lh, hlh⟩ : ∃ x, x = p * s := ⟨_, rfl⟩
  obtain ⟨hl, hhl⟩ : ∃ x, x = q * r := ⟨_, rfl⟩
  rw [← hll] at g1 g4 g5
  rw [← hlh] at g2 g4 g5
  rw [← hhl] at g3 g4 g5
  have x1 : IntKind.u64.wrap ((p : Int) * (r : Int)) = (ll : Int) := by rw [mulN, ← hll, wrapN _ g1]
  have x2 : IntKind.u64.wrap ((p : Int) * (s : Int)) = (lh : Int) := by rw [mulN, ← hlh, wrapN _ g2]
  have x3 : IntKind.u64.wrap ((q : Int) * (r : Int)) = (hl : Int) := by rw [mulN, ← hhl, wrapN _ g3]
  have pb : p < 4294967296 ∧ q < 4294967296 ∧ r < 4294967296 ∧ s < 4294967296 := by omega
  obtain ⟨p1, p2, p3, p4⟩ := pb
  obtain ⟨nl, hnl⟩ : ∃ x, x = N % 18446744073709551616 := ⟨_, rfl⟩
  obtain ⟨nh, hnh⟩ : ∃ x, x = N / 18446744073709551616 := ⟨_, rfl⟩
  obtain ⟨mid, hmid⟩ : ∃ x, x = ll / 4294967296 + lh % 4294967296 + hl % 4294967296 := ⟨_, rfl⟩
  obtain ⟨low, hlow⟩ : ∃ x, x = a * b % 18446744073709551616 := ⟨_, rfl⟩
  obtain ⟨hi, hhi⟩ : ∃ x, x = a * b / 18446744073709551616 := ⟨_, rfl⟩
  rw [← hmid] at g4 g5
  rw [← hlow] at g5
  rw [← hhi] at g4
  have hmidl : mid < 12884901888 := by omega
  have y1 : IntKind.u64.wrap (IntKind.u64.wrap ((ll : Int) / 4294967296 + bits .and .u64 (lh : Int) 4294967295) + bits .and .u64 (hl : Int) 4294967295) = (mid : Int) := by
    rw [Mul64.maskN lh g2, Mul64.maskN hl g3, Mul64.divN, addN, wrapN _ (by omega), addN, wrapN _ (by omega), ← hmid]
  have y2 : bits .or .u64 (IntKind.u64.wrap ((mid : Int) * 4294967296)) (bits .and .u64 (ll : Int) 4294967295) = (low : Int) := by
    have e1 : IntKind.u64.wrap ((mid : Int) * 4294967296) = ((mid % 4294967296 * 4294967296 : Nat) : Int) := by rw [IntKind.wrap_u64]; omega
    have e2 := or_add' (ll % 4294967296) (mid % 4294967296) 32 (Nat.mod_lt _ (by decide))
    rw [show (2 : Nat) ^ 32 = 4294967296 from rfl] at e2
    rw [e1, Mul64.maskN ll g1, bits_or_u64_nat _ _ (by omega) (by omega), e2, g5]
  have hqs : q * s < 18446744073709551616 := Nat.lt_of_le_of_lt (Nat.mul_le_mul (show q ≤ 4294967295 by omega) (show s ≤ 4294967295 by omega)) (by decide)
  have hh : nh + hi < 18446744073709551616 := by omega
  have y3 : IntKind.u64.wrap ((nh : Int) + IntKind.u64.wrap (IntKind.u64.wrap (IntKind.u64.wrap (IntKind.u64.wrap ((q : Int) * (s : Int)) + (lh : Int) / 4294967296) + (hl : Int) / 4294967296) + (mid : Int) / 4294967296)) = ((nh + hi : Nat) : Int) := by
    rw [mulN, wrapN _ hqs]
    generalize q * s = t at *
    rw [Mul64.divN, addN, wrapN _ (by omega), Mul64.divN, addN, wrapN _ (by omega), Mul64.divN, addN, wrapN _ (by omega), addN, wrapN _ (by omega)]
    congr 1
    omega
  have y4 : IntKind.u64.wrap ((nl : Int) + (low : Int)) = (((nl + low) % 18446744073709551616 : Nat) : Int) := by rw [IntKind.wrap_u64]; omega
  obtain ⟨S, hS⟩ : ∃ S, S = (nl + low) % 18446744073709551616 := ⟨_, rfl⟩
  rw [← hS] at y4
  obtain ⟨H, hH⟩ : ∃ S, S = nh + hi := ⟨_, rfl⟩
  rw [← hH] at y3
  have hres : (N + a * b) % 18446744073709551616 = S ∧ (N + a * b) / 18446744073709551616 = if S < low then H + 1 else H := by
    generalize a * b = ab at *
    have : S = (N + ab) % 18446744073709551616 := by omega
    refine ⟨this.symm, ?_⟩
    split <;> omega
  obtain ⟨R, hR⟩ : ∃ R, R = if S < low then H + 1 else H := ⟨_, rfl⟩
  rw [hres.1, hres.2, ← hnl, ← hnh, ← hR]
  have RR := Lib.hid hR
  have hHl : H + 1 < 18446744073709551616 ∨ ¬ S < low := by
    by_cases hc : S < low
    · left
      have := hres.2
      rw [if_pos hc] at this
      have h4 : (N + a * b) / 18446744073709551616 < 18446744073709551616 := by omega
      omega
    · exact .inr hc
  have MA := Lib.hid ma
  have MB := Lib.hid mb
  have DA := Lib.hid da
  have DB := Lib.hid db
  have X1 := Lib.hid x1
  have X2 := Lib.hid x2
  have X3 := Lib.hid x3
  have Y1 := Lib.hid y1
  have Y2 := Lib.hid y2
  have Y3 := Lib.hid y3
  have Y4 := Lib.hid y4
  clear ma mb da db x1 x2 x3 y1 y2 y3 y4 hp hq hr hs hll hlh hhl g1 g2 g3 g4 g5 hN hnl hnh hmid hlow hhi hS hH hres hR hqs hh hmidl
  go_enter Try.func73, Try.ntmps73
  go_upto_region 2 with (fail)
  rw [MA.out, MB.out, DA.out, DB.out]
  go_upto_region 3 with (fail)
  rw [X1.out, X2.out, X3.out]
  go_upto_region 4 with (fail)
  rw [Y1.out]
  go_upto_region 5 with (fail)
  rw [Y2.out]
  go_upto_region 6 with (fail)
  rw [Y3.out]
  go_upto_region 7 with (fail)
  rw [Y4.out]
  by_cases hc : S < low
  · have hd : decide ((S : Int) < (low : Int)) = true := by simpa using hc
    have hd' : decide (S < low) = true := by simpa using hc
    have hw : IntKind.u64.wrap ((H : Int) + 1) = ((H + 1 : Nat) : Int) := by
      rw [IntKind.wrap_u64]
      rcases hHl with h | h
      · omega
      · exact absurd hc h
    have hR := RR.out
    rw [if_pos hc] at hR
    have HR := Lib.hid hR
    clear hR
    have HW := Lib.hid hw
    clear hw hc hHl
    go_wp2
    rw [HW.out, HR.out]
    exact bodyPost_ret (v := .agg #[.int .u64 (S : Int), .int .u64 ((H + 1 : Nat) : Int)]) (by simp [results, Try.results73, go_sem]) rfl ⟨rfl, ((Below.refl _ _).alloc (Nat.le_refl _) _).alloc (by simp) _⟩
  · have hd : decide ((S : Int) < (low : Int)) = false := by simpa using hc
    have hd' : decide (S < low) = false := by simpa using hc
    have hR := RR.out
    rw [if_neg hc] at hR
    have HR := Lib.hid hR
    clear hR hc hHl
    go_wp2
    rw [HR.out]
    exact bodyPost_ret (v := .agg #[.int .u64 (S : Int), .int .u64 (H : Int)]) (by simp [results, Try.results73, go_sem]) rfl ⟨rfl, ((Below.refl _ _).alloc (Nat.le_refl _) _).alloc (by simp) _⟩

/-- The worlds of small: limbs, the answer's place, what is carried. -/
structure Sm (w0 : World) (x c : List Nat) (w : World) : Prop where
  x : Whole w w0.heap.size 24 (numsV x)
  z : Whole w (w0.heap.size + 1) 24 (fiveL 0 0 0 0 0)
  c : Whole w (w0.heap.size + 1 + 1) 24 (numsV c)
  below : Below w0.heap.size w0 w
theorem Sm.setX {w0 w : World} {x c : List Nat} (h : Sm w0 x c w) (i v : Nat) : Sm w0 (x.set i v) c (w.setCell ⟨w0.heap.size, i, none⟩ (.int .u64 (v : Int))) :=
  ⟨set_num h.x i v, h.z.other _ _ _ (by omega), h.c.other _ _ _ (by omega), h.below.setCell (p := ⟨w0.heap.size, i, none⟩) (Nat.le_refl _) _⟩
theorem Sm.setC {w0 w : World} {x c : List Nat} (h : Sm w0 x c w) (i v : Nat) : Sm w0 x (c.set i v) (w.setCell ⟨w0.heap.size + 1 + 1, i, none⟩ (.int .u64 (v : Int))) :=
  ⟨h.x.other _ _ _ (by omega), h.z.other _ _ _ (by omega), set_num h.c i v, h.below.setCell (p := ⟨w0.heap.size + 1 + 1, i, none⟩) (by show _ ≤ w0.heap.size + 1 + 1; omega) _⟩
theorem Sm.drew {w0 w : World} {x c : List Nat} (h : Sm w0 x c w) : Sm w0 x c w.drew := ⟨h.x, h.z, h.c, h.below.drew⟩

def nulls : List Nat := [0, 0, 0, 0, 0]
def lows (X : List Nat) : List Nat := X.map (· % 2251799813685248)
def tops (X : List Nat) : List Nat := X.map (· / 2251799813685248)

set_option maxHeartbeats 3200000 in
theorem small_any (a b c d e : Nat) (w : World) (h : Words5 a b c d e) :
    Calls Try.prog 53 #[five a b c d e] w fun r w' => r = .returned (five (a % 2251799813685248 + e / 2251799813685248 * 19) (b % 2251799813685248 + a / 2251799813685248) (c % 2251799813685248 + b / 2251799813685248) (d % 2251799813685248 + c / 2251799813685248) (e % 2251799813685248 + d / 2251799813685248)) ∧ Below w.heap.size w w' := by
  obtain ⟨X, hX⟩ : ∃ X, X = [a, b, c, d, e] := ⟨_, rfl⟩
  have hX5 : X.length = 5 := by rw [hX]; rfl
  have hXl : ∀ i, X.getD i 0 < 18446744073709551616 := fun i => by
    rw [hX]
    obtain ⟨h1, h2, h3, h4, h5⟩ := h
    match i with
    | 0 => exact h1
    | 1 => exact h2
    | 2 => exact h3
    | 3 => exact h4
    | 4 => exact h5
    | i + 5 => exact (by decide : (0 : Nat) < 18446744073709551616)
  obtain ⟨Y, hY⟩ : ∃ Y, Y = lows X := ⟨_, rfl⟩
  obtain ⟨C, hC⟩ : ∃ Y, Y = tops X := ⟨_, rfl⟩
  have hY5 : Y.length = 5 := by rw [hY, lows, List.length_map, hX5]
  have hC5 : C.length = 5 := by rw [hC, tops, List.length_map, hX5]
  have hYg : ∀ i, i < 5 → Y.getD i 0 = X.getD i 0 % 2251799813685248 := fun i hi => by
    rw [hY, lows]
    simp [List.getD, hX5, hi]
  have hCg : ∀ i, i < 5 → C.getD i 0 = X.getD i 0 / 2251799813685248 := fun i hi => by
    rw [hC, tops]
    simp [List.getD, hX5, hi]
  obtain ⟨Z, hZ⟩ : ∃ Z, Z = [a % 2251799813685248 + e / 2251799813685248 * 19, b % 2251799813685248 + a / 2251799813685248, c % 2251799813685248 + b / 2251799813685248, d % 2251799813685248 + c / 2251799813685248, e % 2251799813685248 + d / 2251799813685248] := ⟨_, rfl⟩
  have hZ5 : Z.length = 5 := by rw [hZ]; rfl
  have hZ0 : Z.getD 0 0 = Y.getD 0 0 + 19 * C.getD 4 0 := by
    rw [hYg 0 (by omega), hCg 4 (by omega), hX, hZ]
    show _ % _ + _ / _ * 19 = a % 2251799813685248 + 19 * (e / 2251799813685248)
    omega
  have hZi : ∀ i, 1 ≤ i → i < 5 → Z.getD i 0 = Y.getD i 0 + C.getD (i - 1) 0 := fun i h1 hi => by
    rw [hYg i hi, hCg (i - 1) (by omega), hX, hZ]
    have : i = 1 ∨ i = 2 ∨ i = 3 ∨ i = 4 := by omega
    rcases this with rfl | rfl | rfl | rfl <;> rfl
  have hst : Sm w X nulls (((w.alloc (.cells (numsV X).toArray 24)).alloc (.cells (fiveL 0 0 0 0 0).toArray 24)).alloc (.cells (fiveL 0 0 0 0 0).toArray 24)) :=
    ⟨((Whole.made' w _ _ _ rfl).alloc _).alloc _, (Whole.made' _ _ _ _ (by simp)).alloc _, Whole.made' _ _ _ _ (by simp), (((Below.refl _ _).alloc (Nat.le_refl _) _).alloc (by simp) _).alloc (by simp; omega) _⟩
  have hres : five (a % 2251799813685248 + e / 2251799813685248 * 19) (b % 2251799813685248 + a / 2251799813685248) (c % 2251799813685248 + b / 2251799813685248) (d % 2251799813685248 + c / 2251799813685248) (e % 2251799813685248 + d / 2251799813685248) = .agg (numsV Z).toArray := by rw [hZ]; rfl
  rw [hres, show five a b c d e = .agg (numsV X).toArray by rw [hX]; rfl]
  have HT := Lib.hid hst
  have X5 := Lib.hid hX5
  have Y5 := Lib.hid hY5
  have C5 := Lib.hid hC5
  have Z5 := Lib.hid hZ5
  have XL := Lib.hid hXl
  have YG := Lib.hid hYg
  have CG := Lib.hid hCg
  have Z0 := Lib.hid hZ0
  have ZI := Lib.hid hZi
  clear hst hX5 hY5 hC5 hZ5 hXl hYg hCg hZ0 hZi hX hY hC hZ hres h
  go_enter Try.func53, Try.ntmps53
  go_wp2
  go_loopw [4, 6] (fun _ i wr => ∃ k : Nat, k ≤ 5 ∧ i = .int .i64 k ∧ Sm w (mixTo X Y k) (mixTo nulls C k) wr) (fun _ i _ => 5 - (intOf i).toNat)
  case atStart => exact ⟨0, by omega, rfl, HT.out⟩
  case round =>
    obtain ⟨k, hk5, rfl, hk⟩ := hrel
    by_cases hlt : k < 5
    · have hd2 : decide ((k : Int) < 5) = true := by simp; omega
      have ik : (k : Int) < 5 := by omega
      have lX : k < (mixTo X Y k).length := by rw [mixTo_length, X5.out]; exact hlt
      have lC : k < (mixTo nulls C k).length := by rw [mixTo_length]; exact hlt
      have gX : (mixTo X Y k).getD k 0 = X.getD k 0 := by rw [mixTo_get X Y k k (by rw [X5.out]; exact hlt), if_neg (by omega)]
      have hX : mixTo X Y (k + 1) = (mixTo X Y k).set k (X.getD k 0 % 2251799813685248) := by rw [← YG.out k hlt]; rfl
      have hC : mixTo nulls C (k + 1) = (mixTo nulls C k).set k (X.getD k 0 / 2251799813685248) := by rw [← CG.out k hlt]; rfl
      have l1 := XL.out k
      generalize mixTo X Y k = A at *
      generalize mixTo nulls C k = B at *
      generalize X.getD k 0 = x at *
      have mx := mask51 x l1
      have dx := div51 x
      obtain ⟨t, ht⟩ : ∃ t, t = x / 2251799813685248 := ⟨_, rfl⟩
      obtain ⟨v, hv⟩ : ∃ t, t = x % 2251799813685248 := ⟨_, rfl⟩
      rw [← ht] at dx hC
      rw [← hv] at mx hX
      have cx := num_cell hk.x lX
      rw [gX] at cx
      have cc := num_cell hk.c lC
      have fc := num_free hk.c lC
      have h2 := hk.setC k t
      have cx2 := num_cell h2.x lX
      rw [gX] at cx2
      have fx2 := num_free h2.x lX
      have h3 := h2.setX k v
      have HX := Lib.hid hX
      have HC := Lib.hid hC
      have H3 := Lib.hid h3
      have CX2 := Lib.hid cx2
      have FX2 := Lib.hid fx2
      have MX := Lib.hid mx
      have DX := Lib.hid dx
      clear mx dx ht hv hk hX hC h2 h3 cx2 fx2 gX lX lC HT
      go_upto_region 6 with (fail)
      rw [DX.out]
      clear cx cc fc
      have cx2 := CX2.out
      have fx2 := FX2.out
      go_wp2
      rw [MX.out]
      go_roundw
      case rel => exact ⟨k + 1, by omega, by go_num, by rw [HX.out, HC.out]; exact H3.out⟩
      case measure => simp [intOf]; omega
    · have hd2 : decide ((k : Int) < 5) = false := by simp; omega
      obtain rfl : k = 5 := by omega
      rw [mixTo_end X5.out Y5.out, mixTo_end (a := nulls) rfl C5.out] at hk
      clear HT
      have c0 := num_cell hk.x (i := 0) (by rw [Y5.out]; omega)
      have f0 := num_free hk.x (i := 0) (by rw [Y5.out]; omega)
      have c4 := num_cell hk.c (i := 4) (by rw [C5.out]; omega)
      have h2 := hk.setX 0 (Z.getD 0 0)
      have v0 : IntKind.u64.wrap ((Y.getD 0 0 : Nat) + IntKind.u64.wrap (19 * ((C.getD 4 0 : Nat) : Int))) = ((Z.getD 0 0 : Nat) : Int) := by
        have := XL.out 4
        have := XL.out 0
        have e1 := YG.out 0 (by omega)
        have e2 := CG.out 4 (by omega)
        rw [Z0.out, mul19', wrapN _ (by omega), addN, wrapN _ (by omega)]
      have e0 : mixTo (Y.set 0 (Z.getD 0 0)) Z 1 = Y.set 0 (Z.getD 0 0) := by
        show (Y.set 0 (Z.getD 0 0)).set 0 (Z.getD 0 0) = _
        rw [List.set_set]
      have H2 := Lib.hid (show Sm w (mixTo (Y.set 0 (Z.getD 0 0)) Z 1) C _ by rw [e0]; exact h2)
      generalize Z.getD 0 0 = z0 at *
      generalize Y.getD 0 0 = y0 at *
      generalize C.getD 4 0 = x4 at *
      have V0 := Lib.hid v0
      clear hk h2 v0 e0
      go_upto_region 9 with (fail)
      rw [V0.out]
      clear c0 f0 c4
      have hB1 : (Y.set 0 z0).length = 5 := by rw [List.length_set, Y5.out]
      have hBg : ∀ i, 1 ≤ i → (Y.set 0 z0).getD i 0 = Y.getD i 0 := fun i hi => by
        rw [List.getD, List.getElem?_set_ne (by omega), ← List.getD]
      have YL : ∀ i, i < 5 → Y.getD i 0 < 2251799813685248 := fun i hi => by rw [YG.out i hi]; exact Nat.mod_lt _ (by decide)
      have CL : ∀ i, i < 5 → C.getD i 0 < 8192 := fun i hi => by
        rw [CG.out i hi]
        have := XL.out i
        omega
      have BG := Lib.hid hBg
      have B1 := Lib.hid hB1
      have YL := Lib.hid YL
      have CL := Lib.hid CL
      clear hBg hB1
      generalize Y.set 0 z0 = B at *
      go_wp2
      rw [show ((5 : Nat) : Int) = 5 from rfl]
      go_loopw [5] (fun i wr => ∃ k : Nat, 1 ≤ k ∧ k ≤ 5 ∧ i = .int .i64 k ∧ Sm w (mixTo B Z k) C wr) (fun i _ => 5 - (intOf i).toNat)
      case atStart => exact ⟨1, by omega, by omega, rfl, H2.out⟩
      case round =>
        obtain ⟨k, hk1, hk5, rfl, hk⟩ := hrel
        clear H2
        by_cases hlt : k < 5
        · have hd2 : decide ((k : Int) < 5) = true := by simp; omega
          have ik : (k : Int) < 5 := by omega
          have lX : k < (mixTo B Z k).length := by rw [mixTo_length, B1.out]; exact hlt
          have gX : (mixTo B Z k).getD k 0 = Y.getD k 0 := by rw [mixTo_get B Z k k (by rw [B1.out]; exact hlt), if_neg (by omega)]; exact BG.out k hk1
          have hX : mixTo B Z (k + 1) = (mixTo B Z k).set k (Y.getD k 0 + C.getD (k - 1) 0) := by rw [← ZI.out k hk1 hlt]; rfl
          have cc := num_cell hk.c (i := k - 1) (by rw [C5.out]; omega)
          have b1 := YL.out k hlt
          have b2 := CL.out (k - 1) (by omega)
          generalize mixTo B Z k = A at *
          generalize Y.getD k 0 = y at *
          generalize C.getD (k - 1) 0 = x at *
          have cx := num_cell hk.x lX
          rw [gX] at cx
          have fx := num_free hk.x lX
          have v1 : IntKind.u64.wrap ((y : Int) + (x : Int)) = ((y + x : Nat) : Int) := by rw [addN, wrapN _ (by omega)]
          obtain ⟨s, hs⟩ : ∃ s, s = y + x := ⟨_, rfl⟩
          rw [← hs] at v1 hX
          have h3 := hk.setX k s
          have HX := Lib.hid hX
          have H3 := Lib.hid (hk.drew.setX k s)
          have n1 : IntKind.i64.wrap ((k : Int) - 1) = (k : Int) - 1 := IntWalk.i64_in _ (by omega)
          have n2 : (1 : Int) ≤ (k : Int) := by omega
          have n2' : (0 : Int) ≤ (k : Int) - 1 := by omega
          have n3 : ((k : Int) - 1).toNat = k - 1 := by omega
          have n4 : (k : Int) - 1 < 5 := by omega
          clear hk hX h3 gX lX hs
          go_upto_region 12 with (fail)
          go_still_tail 9, (by kernel_rfl)
          change wpList _ _ _ _ _ wr.drew
          have cx' : wr.drew.cell? ⟨w.heap.size, k, none⟩ = _ := cx
          have fx' : wr.drew.frozen? ⟨w.heap.size, k, none⟩ = _ := fx
          clear cx fx cc n1 n3 v1
          go_wp2
          go_roundw
          case rel => exact ⟨k + 1, by omega, by omega, by go_num, by rw [HX.out]; exact H3.out⟩
          case measure => simp [intOf]; omega
        · have hd2 : decide ((k : Int) < 5) = false := by simp; omega
          obtain rfl : k = 5 := by omega
          rw [mixTo_end B1.out Z5.out] at hk
          obtain ⟨r0, r1, r2, r3, r4, hr⟩ := list_five Z5.out
          have hx : Whole wr w.heap.size 24 (fiveL r0 r1 r2 r3 r4) := by
            have := hk.x
            rw [hr] at this
            exact this
          obtain ⟨t0, t1, t2, t3, t4⟩ := cells5 hx
          obtain ⟨z0', z1, z2, z3, z4⟩ := cells5 hk.z
          obtain ⟨f0, f1, f2, f3, f4⟩ := free5 hk.z
          have HB := Lib.hid hk.below
          have HR := Lib.hid hr
          clear hk hx hr
          go_wp2
          rw [HR.out]
          exact bodyPost_ret (v := five r0 r1 r2 r3 r4) (by simp [results, Try.results53, go_sem, z0', z1, z2, z3, z4]) rfl ⟨rfl, set5 HB.out (by omega) _ _ _ _ _⟩
end Go.Proofs.Ytcglobpklhkebaa.RefLimb
