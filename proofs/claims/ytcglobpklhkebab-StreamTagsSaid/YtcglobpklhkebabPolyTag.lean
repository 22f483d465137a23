/-
  stream.Tag answers what the plain mathematics of the text Poly says, and leaves all memory that was there as it was. Conditions: a key of 32 bytes; a text of at most 2^47 bytes.
-/
import Derived.Test.YtcglobpklhkebabPolyClose
import Derived.Test.YtcglobpklhkebabPolyMul
import Derived.Test.YtcglobpklhkebabPolyRed
import Derived.Test.YtcglobpklhkebabPolyNum
import Derived.Test.YtcglobpklhkebabRegH
namespace Go.Proofs.Ytcglobpklhkebab.Poly
open Go.RowKit Mur Lanes
set_option maxRecDepth 100000

structure TBox (w0 : World) (nR : Nat) (r x : List Nat) (w : World) : Prop where
  r : Whole w nR 37 (numsV r)
  x : Whole w (nR + 1) 37 (numsV x)
  le : w0.heap.size ≤ nR
  below : Below w0.heap.size w0 w
theorem TBox.next {w0 w w' : World} {nR : Nat} {r x : List Nat} (h : TBox w0 nR r x w) (k : Below w.heap.size w w') : TBox w0 nR r x w' :=
  ⟨h.r.below h.r.lt k, h.x.below h.x.lt k, h.le, h.below.trans (k.mono h.below.size)⟩

theorem rest_drop (s : ByteArray) (k : Nat) : (s.extract k s.size).data.toList = s.data.toList.drop k := extract_drop s k
theorem piece_list (s t : ByteArray) (k m : Nat) (ht : t = s.extract (16 * k) s.size) (hm : m = min t.size 16) : (t.extract 0 m ++ (⟨#[1]⟩ : ByteArray)).data.toList = (s.data.toList.drop (16 * k)).take 16 ++ [1] := by
  have h1 : t.data.toList = s.data.toList.drop (16 * k) := by rw [ht]; exact rest_drop _ _
  have h2 : t.size = t.data.toList.length := rfl
  rw [ByteArray.data_append, Array.toList_append, ByteArray.data_extract, ← h1]
  simp only [Array.toList_extract, List.extract_eq_take_drop, List.drop_zero, Nat.sub_zero]
  congr 1
  rw [hm, h2]
  by_cases h : t.data.toList.length ≤ 16
  · rw [Nat.min_eq_left h, List.take_of_length_le (Nat.le_refl _), List.take_of_length_le h]
  · rw [Nat.min_eq_right (by omega)]

theorem five_list {a : List Nat} (h : Five a) : ∃ x0 x1 x2 x3 x4, a = [x0, x1, x2, x3, x4] := by
  match a, h.1 with
  | [x0, x1, x2, x3, x4], _ => exact ⟨_, _, _, _, _, rfl⟩
theorem five_cells {w : World} {b : Nat} {t : TypeId} {x0 x1 x2 x3 x4 : Nat} (h : Whole w b t (numsV [x0, x1, x2, x3, x4])) : w.cell? ⟨b, 0, none⟩ = some (.int .u64 (x0 : Int)) ∧ w.cell? ⟨b, 1, none⟩ = some (.int .u64 (x1 : Int)) ∧ w.cell? ⟨b, 2, none⟩ = some (.int .u64 (x2 : Int)) ∧ w.cell? ⟨b, 3, none⟩ = some (.int .u64 (x3 : Int)) ∧ w.cell? ⟨b, 4, none⟩ = some (.int .u64 (x4 : Int)) :=
  ⟨h.row.cell rfl, h.row.cell rfl, h.row.cell rfl, h.row.cell rfl, h.row.cell rfl⟩

theorem five_free {w : World} {b : Nat} {t : TypeId} {x0 x1 x2 x3 x4 : Nat} (h : Whole w b t (numsV [x0, x1, x2, x3, x4])) : w.frozen? ⟨b, 0, none⟩ = false ∧ w.frozen? ⟨b, 1, none⟩ = false ∧ w.frozen? ⟨b, 2, none⟩ = false ∧ w.frozen? ⟨b, 3, none⟩ = false ∧ w.frozen? ⟨b, 4, none⟩ = false :=
  ⟨num_free h (i := 0) (Nat.lt_of_lt_of_eq (by omega : 0 < 5) rfl), num_free h (i := 1) (Nat.lt_of_lt_of_eq (by omega : 1 < 5) rfl), num_free h (i := 2) (Nat.lt_of_lt_of_eq (by omega : 2 < 5) rfl), num_free h (i := 3) (Nat.lt_of_lt_of_eq (by omega : 3 < 5) rfl), num_free h (i := 4) (Nat.lt_of_lt_of_eq (by omega : 4 < 5) rfl)⟩
theorem TBox.set {w0 w : World} {nR : Nat} {r x : List Nat} (h : TBox w0 nR r x w) (i v : Nat) : TBox w0 nR r (x.set i v) (w.setCell ⟨nR + 1, i, none⟩ (.int .u64 (v : Int))) :=
  ⟨h.r.other _ _ _ (by omega), set_num h.x i v, h.le, h.below.setCell (p := ⟨nR + 1, i, none⟩) (by show w0.heap.size ≤ nR + 1; have := h.le; omega) _⟩
theorem TBox.set5 {w0 w : World} {nR : Nat} {r : List Nat} {x0 x1 x2 x3 x4 : Nat} (h : TBox w0 nR r [x0, x1, x2, x3, x4] w) (y0 y1 y2 y3 y4 : Nat) : TBox w0 nR r [y0, y1, y2, y3, y4] (((((w.setCell ⟨nR + 1, 0, none⟩ (.int .u64 (y0 : Int))).setCell ⟨nR + 1, 1, none⟩ (.int .u64 (y1 : Int))).setCell ⟨nR + 1, 2, none⟩ (.int .u64 (y2 : Int))).setCell ⟨nR + 1, 3, none⟩ (.int .u64 (y3 : Int))).setCell ⟨nR + 1, 4, none⟩ (.int .u64 (y4 : Int))) :=
  ((((h.set 0 y0).set 1 y1).set 2 y2).set 3 y3).set 4 y4
theorem TBox.drew {w0 w : World} {nR : Nat} {r x : List Nat} (h : TBox w0 nR r x w) : TBox w0 nR r x w.drew := ⟨h.r, h.x, h.le, h.below.drew⟩

theorem rest_next (s t : ByteArray) (k m : Nat) (ht : t = s.extract (16 * k) s.size) (hm : m = min t.size 16) : t.extract m t.size = s.extract (16 * (k + 1)) s.size := by
  have h1 : t.data.toList = s.data.toList.drop (16 * k) := by rw [ht]; exact rest_drop _ _
  have h2 : t.size = t.data.toList.length := rfl
  have h3 : (t.extract m t.size).data.toList = (s.extract (16 * (k + 1)) s.size).data.toList := by
    rw [rest_drop, rest_drop]
    by_cases h : t.data.toList.length ≤ 16
    · rw [hm, h2, Nat.min_eq_left h, List.drop_length]
      rw [h1, List.length_drop] at h
      exact (List.drop_eq_nil_of_le (by omega)).symm
    · rw [hm, h2, Nat.min_eq_right (by omega), h1, List.drop_drop]
      congr 1
  exact ByteArray.ext (Array.toList_inj.1 h3)

set_option maxHeartbeats 1600000 in
theorem tag_any (key s T : ByteArray) (w : World) (hk : key.size = 32) (hs : s.size ≤ 140737488351232) (hT : T = ⟨(tag key.data.toList s.data.toList).toArray⟩) :
    Calls Try.prog 5 #[.string key, .string s] w fun e w' => e = .returned (.tuple #[.string T, .int .i64 0]) ∧ Below w.heap.size w w' := by
  obtain ⟨F, hF⟩ : ∃ F : ByteArray, F = ⟨(fac key.data.toList).toArray⟩ := ⟨_, rfl⟩
  obtain ⟨r, hr⟩ : ∃ R, R = limbs F.data.toList := ⟨_, rfl⟩
  have hFs : F.size = 16 := by rw [hF]; show (fac _).toArray.size = 16; simp [fac]
  have hrok : Five r := by rw [hr]; exact limbsTo_ok _ 5
  obtain ⟨N, hN⟩ : ∃ N, N = (s.size + 15) / 16 := ⟨_, rfl⟩
  obtain ⟨S, hS⟩ : ∃ S, S = sums r s.data.toList := ⟨_, rfl⟩
  have hSok : ∀ k, Five (S k) := fun k => by rw [hS]; exact sums_ok _ _ _
  have hS0 : S 0 = zeros := by rw [hS]; rfl
  have hSn : ∀ k, S (k + 1) = mul (add (S k) (limbs ((s.data.toList.drop (16 * k)).take 16 ++ [1]))) r := fun k => by rw [hS]; rfl
  obtain ⟨D, hD⟩ : ∃ D, D = red (S N) := ⟨_, rfl⟩
  have hDok : Five D := by rw [hD]; exact red_ok (hSok N)
  have hT2 : T = ⟨(closing D (key.extract 16 key.size).data.toList).toArray⟩ := by
    rw [hT, rest_drop, hD, hS, hr, hF, hN]
    rfl
  have R1 := Lib.hid (fun u => fac_any key F u hk hF)
  have R2 := Lib.hid (fun u => limbs_any F r u (by omega) hr)
  have R3 := Lib.hid (fun u => red_any (S N) D u (hSok N) hD)
  have R4 := Lib.hid (fun u => closing_any D (key.extract 16 key.size) T u hDok (by rw [ByteArray.size_extract]; omega) hT2)
  have d1 : ((key.size : Int) != 32) = false := by simp; omega
  have i16 : (16 : Int) ≤ (key.size : Int) := by omega
  have HSN := Lib.hid hSn
  have HSO := Lib.hid hSok
  have HS0 := Lib.hid hS0
  have HR := Lib.hid hrok
  have HN := Lib.hid hN
  have HIR := Lib.hid (infoA5 hrok.1)
  have H1R := Lib.hid (one5 r)
  have HOR := Lib.hid (show zeros5.toArray.size = (numsV r).toArray.size from same5 (s := zeros) rfl hrok.1)
  clear hk hF hr hFs hrok hN hS hSok hS0 hSn hD hDok hT2 hT
  go_enter Try.func5, Try.ntmps5
  go_wp2_with fail
  refine (R1.out _).mono ?_
  rintro e w1 ⟨rfl, hb1⟩
  have HB1 := Lib.hid hb1
  clear hb1
  go_wp2_with fail
  refine (R2.out _).mono ?_
  rintro e w2 ⟨rfl, hb2⟩
  have HB2 := Lib.hid (HB1.out.trans (hb2.mono HB1.out.size))
  clear hb2 HB1
  have HA0 := Lib.hid (show (Try.prog.info? 37).map (fun i => (i.zero, i.size)) = some (some (.agg (numsV zeros).toArray), (numsV zeros).length) from zero5)
  have HU0 := Lib.hid (show Try.prog.built 37 [] = some (numsV zeros).toArray from built5)
  have HZ2 := Lib.hid (show ((w2.alloc (.cells (numsV zeros).toArray 37)).alloc (.cells (numsV zeros).toArray 37)).heap[w2.heap.size]? = some (.cells (numsV zeros).toArray 37 (0, 0)) from (Whole.made w2 _ (numsV zeros)).alloc _)
  have hz3 : (((w2.alloc (.cells (numsV zeros).toArray 37)).alloc (.cells (numsV zeros).toArray 37)).setRow w2.heap.size (numsV r).toArray).heap[w2.heap.size + 1]? = some (.cells (numsV zeros).toArray 37 (0, 0)) := by
    have o : (((w2.alloc (.cells (numsV zeros).toArray 37)).alloc (.cells (numsV zeros).toArray 37)).setRow w2.heap.size (numsV r).toArray).heap[w2.heap.size + 1]? = ((w2.alloc (.cells (numsV zeros).toArray 37)).alloc (.cells (numsV zeros).toArray 37)).heap[w2.heap.size + 1]? := by
      simp only [World.setRow, Array.getElem?_modify]
      rw [if_neg (by omega)]
    rw [o]
    have := Whole.made (w2.alloc (.cells (numsV zeros).toArray 37)) 37 (numsV zeros)
    rw [show (w2.alloc (.cells (numsV zeros).toArray 37)).heap.size = w2.heap.size + 1 by simp] at this
    exact this
  have hsz : (w2.alloc (.cells (numsV zeros).toArray 37)).heap.size = w2.heap.size + 1 := by simp
  rw [← hsz] at hz3
  have HZ3 := Lib.hid hz3
  have HIZ := Lib.hid (infoA5 (s := zeros) rfl)
  have H1Z := Lib.hid (one5 zeros)
  have HOZ := Lib.hid (show (numsV zeros).toArray.size = (numsV r).toArray.size from HOR.out)
  have hx0 : TBox w w2.heap.size r zeros ((((w2.alloc (.cells (numsV zeros).toArray 37)).alloc (.cells (numsV zeros).toArray 37)).setRow w2.heap.size (numsV r).toArray).setRow (w2.heap.size + 1) (numsV zeros).toArray) := by
    have k1 : Below w.heap.size w ((w2.alloc (.cells (numsV zeros).toArray 37)).alloc (.cells (numsV zeros).toArray 37)) := (HB2.out.alloc HB2.out.size _).alloc (by have := HB2.out.size; simp; omega) _
    have k2 := below_setRow (g := w2.heap.size) k1 HB2.out.size (numsV r).toArray
    have k3 := below_setRow (g := w2.heap.size + 1) k2 (by have := HB2.out.size; omega) (numsV zeros).toArray
    refine ⟨?_, ?_, HB2.out.size, k3⟩
    · have hA : Whole (((w2.alloc (.cells (numsV zeros).toArray 37)).alloc (.cells (numsV zeros).toArray 37)).setRow w2.heap.size (numsV r).toArray) w2.heap.size 37 (numsV r) := Whole.setRow (vs := numsV zeros) HZ2.out _
      have o2 : ((((w2.alloc (.cells (numsV zeros).toArray 37)).alloc (.cells (numsV zeros).toArray 37)).setRow w2.heap.size (numsV r).toArray).setRow (w2.heap.size + 1) (numsV zeros).toArray).heap[w2.heap.size]? = (((w2.alloc (.cells (numsV zeros).toArray 37)).alloc (.cells (numsV zeros).toArray 37)).setRow w2.heap.size (numsV r).toArray).heap[w2.heap.size]? := by
        conv => lhs; simp only [World.setRow, Array.getElem?_modify]
        rw [if_neg (by omega)]
        simp only [World.setRow, Array.getElem?_modify]
      exact o2.trans hA
    · have := HZ3.out
      rw [show (w2.alloc (.cells (numsV zeros).toArray 37)).heap.size = w2.heap.size + 1 by simp] at this
      exact Whole.setRow (vs := numsV zeros) this _
  have HX0 := Lib.hid hx0
  clear hz3 HOR hx0 hsz
  go_upto_region 4 with ((first
    | (with_reducible refine wpList_alloc_z rfl 37 rfl (numsV zeros) HA0.out ?_)
    | (with_reducible refine wpList_build_z rfl 37 rfl (numsV zeros) HU0.out ?_)
    | (with_reducible refine wpList_store_row rfl 37 (.tmp 6) (.tmp 14) rfl w2.heap.size (numsV r).toArray rfl rfl 37 (numsV zeros).toArray HZ2.out HIR.out HOZ.out H1R.out ?_)
    | (refine wpList_store_row rfl 37 (.tmp 7) (.tmp 15) rfl ((w2.alloc (.cells (numsV zeros).toArray 37)).heap.size) (numsV zeros).toArray rfl rfl 37 (numsV zeros).toArray HZ3.out HIZ.out rfl H1Z.out ?_)))
  go_simp
  generalize (((w2.alloc (.cells (numsV zeros).toArray 37)).alloc (.cells (numsV zeros).toArray 37)).setRow w2.heap.size (numsV r).toArray).setRow (w2.heap.size + 1) (numsV zeros).toArray = wx at *
  generalize w2.heap.size = nR at *
  clear HZ2 HZ3 HA0 HU0 HIZ H1Z HOZ HIR H1R HB2 R1 R2
  go_loopw [1] (fun v wr => ∃ k : Nat, k ≤ N ∧ v = .string (s.extract (16 * k) s.size) ∧ TBox w nR r (S k) wr) (fun v _ => match v with | .string t => t.size | _ => 0)
  case atStart => exact ⟨0, by omega, by simp, by rw [HS0.out]; exact HX0.out⟩
  case round =>
    obtain ⟨k, hkN, rfl, hbox⟩ := hrel
    obtain ⟨t, ht⟩ : ∃ t, t = s.extract (16 * k) s.size := ⟨_, rfl⟩
    have hts : t.size = s.size - 16 * k := by rw [ht, ByteArray.size_extract, Nat.min_self]
    rw [← ht]
    by_cases hlt : 0 < t.size
    · have hd2 : decide ((0 : Int) < (t.size : Int)) = true := decide_eq_true (by omega)
      obtain ⟨m, hm⟩ : ∃ m, m = min t.size 16 := ⟨_, rfl⟩
      have hmi : min (t.size : Int) 16 = (m : Int) := by omega
      have hml : (m : Int) ≤ (t.size : Int) := by omega
      obtain ⟨L, hL⟩ : ∃ L, L = limbs ((s.data.toList.drop (16 * k)).take 16 ++ [1]) := ⟨_, rfl⟩
      obtain ⟨A, hA⟩ : ∃ A, A = add (S k) L := ⟨_, rfl⟩
      have hLok : Five L := by rw [hL]; exact limbsTo_ok _ 5
      have hAok : Five A := by rw [hA]; exact addTo_ok (HSO.out k) _ 5
      have hY : S (k + 1) = mul A r := by rw [HSN.out k, hA, hL]
      obtain ⟨x0, x1, x2, x3, x4, hx⟩ := five_list (HSO.out k)
      obtain ⟨y0, y1, y2, y3, y4, hy⟩ := five_list (HSO.out (k + 1))
      obtain ⟨r0, r1, r2, r3, r4, hr⟩ := five_list HR.out
      have RA := Lib.hid (fun u => limbs_any (t.extract 0 m ++ (⟨#[1]⟩ : ByteArray)) L u (by have := hs; rw [ByteArray.size_append, ByteArray.size_extract]; show _ + 1 ≤ _; omega) (by rw [piece_list s t k m ht hm]; exact hL))
      have RB := Lib.hid (show ∀ u, Calls Try.prog 18 #[.agg #[.int .u64 (x0 : Int), .int .u64 (x1 : Int), .int .u64 (x2 : Int), .int .u64 (x3 : Int), .int .u64 (x4 : Int)], .agg (numsV L).toArray] u fun e w' => e = .returned (.agg (numsV A).toArray) ∧ Below u.heap.size u w' from fun u => by
        have := add_any (S k) L A u (HSO.out k) hLok hA
        rw [hx] at this
        exact this)
      have RC := Lib.hid (show ∀ u, Calls Try.prog 17 #[.agg (numsV A).toArray, .agg #[.int .u64 (r0 : Int), .int .u64 (r1 : Int), .int .u64 (r2 : Int), .int .u64 (r3 : Int), .int .u64 (r4 : Int)]] u fun e w' => e = .returned (.agg #[.int .u64 (y0 : Int), .int .u64 (y1 : Int), .int .u64 (y2 : Int), .int .u64 (y3 : Int), .int .u64 (y4 : Int)]) ∧ Below u.heap.size u w' from fun u => by
        have := mul_any A r (S (k + 1)) u hAok HR.out hY
        rw [hy, hr] at this
        exact this)
      have hb0 := hbox.drew
      rw [hx, hr] at hb0
      have HB0 := Lib.hid hb0
      have HY := Lib.hid hy
      have HRR := Lib.hid hr
      have HT := Lib.hid ht
      have HM := Lib.hid hm
      have HTS := Lib.hid hts
      obtain ⟨c0, c1, c2, c3, c4⟩ := five_cells hb0.x
      obtain ⟨d0, d1, d2, d3, d4⟩ := five_cells hb0.r
      have hms : (t.extract 0 m).size = m := by rw [ByteArray.size_extract]; omega
      have hmx : m ≤ t.size := by omega
      have n1 : ¬ 9223372036854775807 < m + 1 := by omega
      have n2 : ¬ 9223372036854775807 < min m t.size + 1 := by omega
      clear hb0 hy hr ht hm hts hx hL hA hLok hAok hY hbox HX0 R3 R4
      go_upto_region 6 with (fail)
      go_region_law ((first
        | (refine step_call rfl 15 Try.call15 #[.tmp 26] #[9] rfl #[.string (t.extract 0 m ++ (⟨#[1]⟩ : ByteArray))] (by first | (simp [Act.eval]; done) | simp [Act.eval, Act.put]) _ _ (RA.out _) ?_; intro w5 hb5; have HB5 := Lib.hid (HB0.out.next hb5); clear hb5; obtain ⟨c50, c51, c52, c53, c54⟩ := five_cells HB5.out.x; obtain ⟨d50, d51, d52, d53, d54⟩ := five_cells HB5.out.r)
        | (refine step_call rfl 18 Try.call18 #[.tmp 22, .tmp 27] #[37, 37] rfl #[.agg #[.int .u64 (x0 : Int), .int .u64 (x1 : Int), .int .u64 (x2 : Int), .int .u64 (x3 : Int), .int .u64 (x4 : Int)], .agg (numsV L).toArray] (by first | (simp [Act.eval]; done) | simp [Act.eval, Act.put]) _ _ (RB.out _) ?_; intro w6 hb6; have HB6 := Lib.hid (HB5.out.next hb6); clear hb6; obtain ⟨d60, d61, d62, d63, d64⟩ := five_cells HB6.out.r)
        | (refine step_call rfl 17 Try.call17 #[.tmp 28, .tmp 29] #[37, 37] rfl #[.agg (numsV A).toArray, .agg #[.int .u64 (r0 : Int), .int .u64 (r1 : Int), .int .u64 (r2 : Int), .int .u64 (r3 : Int), .int .u64 (r4 : Int)]] (by first | (simp [Act.eval]; done) | simp [Act.eval, Act.put]) _ _ (RC.out _) ?_; intro w7 hb7; have HB7 := Lib.hid (HB6.out.next hb7); clear hb7; obtain ⟨c70, c71, c72, c73, c74⟩ := five_cells HB7.out.x; obtain ⟨f70, f71, f72, f73, f74⟩ := five_free HB7.out.x)))
      all_goals
        have HZ := Lib.hid (HB7.out.set5 y0 y1 y2 y3 y4)
        generalize ((((w7.setCell ⟨nR + 1, 0, none⟩ (.int .u64 (y0 : Int))).setCell ⟨nR + 1, 1, none⟩ (.int .u64 (y1 : Int))).setCell ⟨nR + 1, 2, none⟩ (.int .u64 (y2 : Int))).setCell ⟨nR + 1, 3, none⟩ (.int .u64 (y3 : Int))).setCell ⟨nR + 1, 4, none⟩ (.int .u64 (y4 : Int)) = wz at *
        clear c70 c71 c72 c73 c74 f70 f71 f72 f73 f74 HB7 HB6 HB5
        go_wp2
        go_roundw
        case rel => exact ⟨k + 1, by have := HN.out; have := HTS.out; omega, by rw [rest_next s t k m HT.out HM.out], by rw [HRR.out, HY.out]; exact HZ.out⟩
        case measure =>
          have := HM.out
          show (t.extract m t.size).size < t.size
          rw [ByteArray.size_extract]
          omega
    · have hd2 : decide ((0 : Int) < (t.size : Int)) = false := decide_eq_false (by omega)
      have hkn : k = N := by have := HN.out; omega
      subst hkn
      have HB := Lib.hid hbox
      have HX := Lib.hid hbox.x
      obtain ⟨x0, x1, x2, x3, x4, hx⟩ := five_list (HSO.out k)
      have hX := hbox.x.drew
      rw [hx] at hX
      obtain ⟨c0, c1, c2, c3, c4⟩ := five_cells hX
      have R5 := Lib.hid (show ∀ u, Calls Try.prog 20 #[.agg #[.int .u64 (x0 : Int), .int .u64 (x1 : Int), .int .u64 (x2 : Int), .int .u64 (x3 : Int), .int .u64 (x4 : Int)]] u fun e w' => e = .returned (.agg (numsV D).toArray) ∧ Below u.heap.size u w' from fun u => by
        have := R3.out u
        rw [hx] at this
        exact this)
      clear hbox HX0 HN ht hts HX R3 hX hx
      go_wp2
      go_region_law ((first
        | (refine step_call rfl 20 Try.call20 #[.tmp 34] #[37] rfl #[.agg #[.int .u64 (x0 : Int), .int .u64 (x1 : Int), .int .u64 (x2 : Int), .int .u64 (x3 : Int), .int .u64 (x4 : Int)]] (by first | (simp [Act.eval]; done) | simp [Act.eval, Act.put]) _ _ (R5.out _) ?_; intro w5 hb5; have HB5 := Lib.hid hb5; clear hb5)
        | (refine step_call rfl 19 Try.call19 #[.tmp 35, .tmp 37] #[37, 9] rfl #[.agg (numsV D).toArray, .string (key.extract 16 key.size)] (by first | (simp [Act.eval]; done) | simp [Act.eval, Act.put]) _ _ (R4.out _) ?_; intro w6 hb6; have HB6 := Lib.hid hb6; clear hb6)))
      all_goals
        go_wp2
        have hs5 : wr.heap.size ≤ w5.heap.size := HB5.out.size
        refine bodyPost_ret (v := .tuple #[.string T, .int .i64 0]) (by simp [results, Try.results5, go_sem]) rfl ⟨rfl, (HB.out.below.drew.trans (HB5.out.mono HB.out.below.size)).trans (HB6.out.mono (by have := HB.out.below.size; omega))⟩
end Go.Proofs.Ytcglobpklhkebab.Poly
