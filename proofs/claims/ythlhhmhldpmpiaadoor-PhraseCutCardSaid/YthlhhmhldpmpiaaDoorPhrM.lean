/-
  cmp.Or at ints, Compare, Find, Fill, Bare and Initials of package phrase answer what the plain mathematics of the texts Phr and PhrB says, and leave all memory that was there as it was. Conditions: that numbers and lengths fit; that the variable MaxLen of Go's library holds some int.
-/
import Derived.Test.YthlhhmhldpmpiaaDoorPhrH
import Derived.Test.YthlhhmhldpmpiaaDoorPhrJ
import Derived.Test.YthlhhmhldpmpiaaDoorPhrK
namespace Go.Proofs.YthlhhmhldpmpiaaDoor.Phr
open Go.RowKit Mur
set_option maxRecDepth 100000

/-- The library's variable MaxLen holds some int. -/
def Lim (w : World) : Prop := ∃ m : Int, w.cell? ⟨0, 0, none⟩ = some (.int .i64 m)
theorem Lim.below {w w' : World} (h : Lim w) (hb : Below w.heap.size w w') : Lim w' := by
  obtain ⟨m, hm⟩ := h
  have hlt : 0 < w.heap.size := World.block_lt_of_cell? w _ hm
  exact ⟨m, (hb.cell (p := ⟨0, 0, none⟩) hlt).trans hm⟩

set_option maxHeartbeats 800000 in
theorem or_any (b : Nat) (x y r : Int) (w : World) (h0 : w.cell? ⟨b, 0, none⟩ = some (.int .i64 x)) (h1 : w.cell? ⟨b, 1, none⟩ = some (.int .i64 y)) (hr : r = if x = 0 then y else x) :
    Calls Tryd.prog 53 #[.slice (some ⟨b, 0, none⟩) 2 2] w fun e w' => e = .returned (.int .i64 r) ∧ w' = w := by
  by_cases hx : x = 0
  · subst hx
    rw [if_pos rfl] at hr
    subst hr
    by_cases hy : r = 0
    · subst hy
      go_enter Tryd.func53, Tryd.ntmps53
      go_wp2
      go_loopg [8] 2 (fun gk i wx => ∃ q : Nat, q + gk = 2 ∧ i = .int .i64 q ∧ wx = w)
      case atStart => exact ⟨0, rfl, rfl, rfl⟩
      case round =>
        obtain ⟨q, hq, rfl, rfl⟩ := hrel
        match q, hq with
        | 0, hq =>
          go_wp2
          go_roundg 1
          case measure => omega
          case rel => exact ⟨1, rfl, by go_num, rfl⟩
        | 1, hq =>
          go_wp2
          go_roundg 0
          case measure => omega
          case rel => exact ⟨2, rfl, by go_num, rfl⟩
        | 2, hq =>
          go_wp2
          go_ret
          exact ⟨rfl, rfl⟩
        | q + 3, hq => omega
    · have hd : (r != 0) = true := by simp [hy]
      go_enter Tryd.func53, Tryd.ntmps53
      go_wp2
      go_loopg [8] 2 (fun gk i wx => ∃ q : Nat, q + gk = 2 ∧ q ≤ 1 ∧ i = .int .i64 q ∧ wx = w)
      case atStart => exact ⟨0, rfl, by omega, rfl, rfl⟩
      case round =>
        obtain ⟨q, hq, hq1, rfl, rfl⟩ := hrel
        match q, hq with
        | 0, hq =>
          go_wp2
          go_roundg 1
          case measure => omega
          case rel => exact ⟨1, rfl, by omega, by go_num, rfl⟩
        | 1, hq =>
          go_wp2
          go_ret
          exact ⟨rfl, rfl⟩
  · rw [if_neg hx] at hr
    subst hr
    have hd : (r != 0) = true := by simp [hx]
    go_enter Tryd.func53, Tryd.ntmps53
    go_wp2
    go_loopg [8] 2 (fun gk i wx => i = .int .i64 0 ∧ wx = w)
    case atStart => exact ⟨rfl, rfl⟩
    case round =>
      obtain ⟨rfl, rfl⟩ := hrel
      go_wp2
      go_ret
      exact ⟨rfl, rfl⟩

theorem cmp_any (a b : ByteArray) (N : Int) (w : World) (hN : N = Lib.compareBytes a.data.toList b.data.toList) :
    Calls Tryd.prog 54 #[.string a, .string b] w fun e w' => e = .returned (.int .i64 N) ∧ w' = w := by
  rw [hN]
  exact Any.strings_Compare Tryd.lays106 a b w

set_option maxHeartbeats 1600000 in
theorem compare_any (a b : ByteArray) (N : Int) (w : World) (hN : N = compare a.data.toList b.data.toList) (ha : a.size ≤ 70368744177664) (hb : b.size ≤ 70368744177664) :
    Calls Tryd.prog 33 #[.string a, .string b] w fun e w' => e = .returned (.int .i64 N) ∧ Below w.heap.size w w' := by
  obtain ⟨A, hA⟩ : ∃ A, A = tx (foldB a.data.toList) := ⟨_, rfl⟩
  obtain ⟨B, hB⟩ : ∃ B, B = tx (foldB b.data.toList) := ⟨_, rfl⟩
  obtain ⟨x, hx⟩ : ∃ x, x = cmpL (fold a.data.toList) (fold b.data.toList) := ⟨_, rfl⟩
  obtain ⟨y, hy⟩ : ∃ y, y = cmpL (bytesN a.data.toList) (bytesN b.data.toList) := ⟨_, rfl⟩
  have R1 := Lib.hid (fun u => fold_any a A u hA ha)
  have R2 := Lib.hid (fun u => fold_any b B u hB hb)
  have R3 := Lib.hid (fun u => cmp_any A B x u (by rw [hx, hA, hB]; exact (cmp_text _ _ (may_map _ (rs_may _)) (may_map _ (rs_may _))).symm))
  have R4 := Lib.hid (fun u => cmp_any a b y u (by rw [hy, cmpB_eq]))
  have R5 := Lib.hid (fun (b : Nat) (u : World) h0 h1 => or_any b x y N u h0 h1 (by rw [hN, hx, hy]; rfl))
  clear hA hB hx hy hN ha hb
  go_enter Tryd.func33, Tryd.ntmps33
  go_wp2_with fail
  refine (R1.out _).mono ?_
  rintro e w1 ⟨rfl, hb1⟩
  have HW1 := Lib.hid hb1
  clear hb1
  go_wp2_with fail
  refine (R2.out _).mono ?_
  rintro e w2 ⟨rfl, hb2⟩
  have HW2 := Lib.hid (HW1.out.trans (hb2.mono HW1.out.size))
  clear hb2
  go_wp2_with fail
  refine (R3.out _).mono ?_
  rintro e w3 ⟨rfl, rfl⟩
  go_wp2_with fail
  refine (R4.out _).mono ?_
  rintro e w4 ⟨rfl, rfl⟩
  go_wp2_with fail
  refine (R5.out _ _ (by simp [World.cell?_alloc_new]) (by simp [World.cell?_alloc_new])).mono ?_
  rintro e w5 ⟨rfl, rfl⟩
  have HW5 := Lib.hid (HW2.out.alloc HW2.out.size (.cells #[.int .i64 x, .int .i64 y] 3))
  go_wp2
  go_ret
  exact ⟨rfl, HW5.out⟩

theorem index_any (s sub : ByteArray) (N : Int) (w : World) (hN : N = Lib.index s.data.toList sub.data.toList) (hs : s.size < 4294967281) (hc : Lim w) :
    Calls Tryd.prog 52 #[.string s, .string sub] w fun e w' => e = .returned (.int .i64 N) ∧ w' = w := by
  obtain ⟨m, hm⟩ := hc
  rw [hN]
  exact Any.strings_Index Tryd.lays143 s sub m w hs hm

set_option maxHeartbeats 1600000 in
theorem find_any (s t : ByteArray) (N : Int) (w : World) (hN : N = findB s.data.toList t.data.toList) (hs : s.size ≤ 1000000) (ht : t.size ≤ 1000000) (hc : Lim w) :
    Calls Tryd.prog 31 #[.string s, .string t] w fun e w' => e = .returned (.int .i64 N) ∧ Below w.heap.size w w' := by
  obtain ⟨x, hx⟩ : ∃ x, x = fold s.data.toList := ⟨_, rfl⟩
  obtain ⟨y, hy⟩ : ∃ y, y = fold t.data.toList := ⟨_, rfl⟩
  have mx : ∀ c ∈ x, may c = true := by rw [hx]; exact may_map _ (rs_may _)
  have my : ∀ c ∈ y, may c = true := by rw [hy]; exact may_map _ (rs_may _)
  obtain ⟨A, hA⟩ : ∃ A, A = tx (text x) := ⟨_, rfl⟩
  obtain ⟨B, hB⟩ : ∃ B, B = tx (text y) := ⟨_, rfl⟩
  have hAs : A.size ≤ 1000000 := by
    rw [hA, tx_size, hx, fold, width_small, text_rs]
    exact Nat.le_trans (sd_length _) hs
  have R1 := Lib.hid (fun u => fold_any s A u (by rw [hA, hx]; rfl) (by omega))
  have R2 := Lib.hid (fun u => fold_any t B u (by rw [hB, hy]; rfl) (by omega))
  have hNf : N = find x y := by rw [hN, hx, hy]; rfl
  have HLIM := Lib.hid (fun (u : World) (hb : Below w.heap.size w u) => hc.below hb)
  clear hc hx hy hN ht hs
  rcases index_text x y mx my with ⟨h1, h2⟩ | ⟨i, hi, h1, h2⟩
  · have R3 := Lib.hid (fun u hu => index_any A B (-1) u (by rw [hA, hB]; exact h1.symm) (by omega) hu)
    obtain rfl : N = -1 := by rw [hNf, h2]
    clear hA hB hNf h1 h2 mx my hAs
    go_enter Tryd.func31, Tryd.ntmps31
    go_wp2_with fail
    refine (R1.out _).mono ?_
    rintro e w1 ⟨rfl, hb1⟩
    have HW1 := Lib.hid hb1
    clear hb1
    go_wp2_with fail
    refine (R2.out _).mono ?_
    rintro e w2 ⟨rfl, hb2⟩
    have HW2 := Lib.hid (HW1.out.trans (hb2.mono HW1.out.size))
    clear hb2
    go_wp2_with fail
    refine (R3.out _ (HLIM.out _ HW2.out)).mono ?_
    rintro e w3 ⟨rfl, rfl⟩
    go_wp2
    go_ret
    exact ⟨rfl, HW2.out⟩
  · obtain ⟨P, hP⟩ : ∃ P, P = (text (x.take i)).length := ⟨_, rfl⟩
    have hPA : P ≤ A.size := by
      have h3 := congrArg List.length (text_take x i)
      rw [List.length_take] at h3
      rw [hP, hA, tx_size]
      omega
    obtain ⟨C, hC⟩ : ∃ C, C = tx (text (x.take i)) := ⟨_, rfl⟩
    have R3 := Lib.hid (fun u hu => index_any A B (P : Int) u (by rw [hA, hB, hP]; exact h1.symm) (by omega) hu)
    have R4 := Lib.hid (fun u => runecount_any C (x.take i) N u (by rw [hC]; exact runes_text _ (take_may mx i)) (by rw [hNf, h2, List.length_take]; congr 1; omega) (by
      rw [hC, tx_size, ← hP]
      omega))
    have hsl : ∀ u, (Instr.slice 9 (.string A) none (some (.int .i64 (P : Int))) none).run Tryd.prog u = .ok (.string C) u := fun u => by
      have := run_slice_string_h (P := Tryd.prog) u 9 A Tryd.underlying9 .i64 (P : Int) (by omega) (by omega)
      rw [this, Int.toNat_natCast, tx_extract, List.drop_zero, Nat.sub_zero, hA, hP, tx_list, text_take, hC]
    have hd : decide ((P : Int) < 0) = false := decide_eq_false (by omega)
    clear hA hB hNf h1 h2 mx my hAs hP hC hPA hi
    go_enter Tryd.func31, Tryd.ntmps31
    go_wp2_with fail
    refine (R1.out _).mono ?_
    rintro e w1 ⟨rfl, hb1⟩
    have HW1 := Lib.hid hb1
    clear hb1
    go_wp2_with fail
    refine (R2.out _).mono ?_
    rintro e w2 ⟨rfl, hb2⟩
    have HW2 := Lib.hid (HW1.out.trans (hb2.mono HW1.out.size))
    clear hb2
    go_wp2_with fail
    refine (R3.out _ (HLIM.out _ HW2.out)).mono ?_
    rintro e w3 ⟨rfl, rfl⟩
    go_wp2_with fail
    refine (R4.out _).mono ?_
    rintro e w4 ⟨rfl, hb4⟩
    have HW4 := Lib.hid (HW2.out.trans (hb4.mono HW2.out.size))
    clear hb4
    go_wp2
    go_ret
    exact ⟨rfl, HW4.out⟩

theorem repeat_blanks (k : Nat) (X : ByteArray) (w : World) (hX : X = tx (text (blanks k))) (hk : k ≤ 1000) :
    Calls Tryd.prog 49 #[.string ⟨#[32]⟩, .int .i64 (k : Int)] w fun e w' => e = .returned (.string X) ∧ Below w.heap.size w w' := by
  have h := Use.repeat_any ⟨#[32]⟩ k w (by omega) (by show 1 * k ≤ _; omega)
  have e : (⟨(Lib.repeatL (⟨#[32]⟩ : ByteArray).data.toList k).toArray⟩ : ByteArray) = X := by
    rw [hX]
    congr 2
    show Lib.repeatL [32] k = _
    clear h hX hk
    induction k with
    | zero => rfl
    | succ k ih =>
      show [32] ++ Lib.repeatL [32] k = text (List.replicate (k + 1) 32)
      rw [List.replicate_succ, text_cons, ih]
      rfl
  rw [e] at h
  exact h

set_option maxHeartbeats 1600000 in
theorem fill_any (s : ByteArray) (n : Int) (left : Bool) (X : ByteArray) (w : World) (hX : X = tx (fillB s.data.toList n left)) (h1 : -9223372036854775808 ≤ n) (h2 : n ≤ 9223372036854775807) (hs : s.size ≤ 1000000) :
    Calls Tryd.prog 25 #[.string s, .int .i64 n, .bool left] w fun e w' => e = .returned (.string X) ∧ Below w.heap.size w w' := by
  obtain ⟨l, hl⟩ : ∃ l, l = (rs s.data.toList).take (clamp n (rs s.data.toList).length) := ⟨_, rfl⟩
  obtain ⟨k, hk⟩ : ∃ k, k = clamp (min n 200) 200 - l.length := ⟨_, rfl⟩
  have ml : ∀ c ∈ l, may c = true := by rw [hl]; exact take_may (rs_may _) _
  obtain ⟨C, hC⟩ : ∃ C, C = tx (text l) := ⟨_, rfl⟩
  obtain ⟨K, hK⟩ : ∃ K, K = tx (text (blanks k)) := ⟨_, rfl⟩
  have hk2 : k ≤ 200 := by rw [hk]; unfold clamp; omega
  have hCs : C.size ≤ 1000000 := by
    have := congrArg List.length (text_take (rs s.data.toList) (clamp n (rs s.data.toList).length))
    rw [List.length_take, ← hl] at this
    have h3 : (text (rs s.data.toList)).length ≤ s.data.toList.length := by rw [text_rs]; exact sd_length _
    have h4 : s.data.toList.length = s.size := rfl
    rw [hC, tx_size]
    omega
  have hKs : K.size ≤ 400 := by
    have := (text_length (blanks k)).2
    rw [show (blanks k).length = k by simp [blanks]] at this
    rw [hK, tx_size]
    omega
  have hll : l.length ≤ 1000000 := by
    have := (text_length l).1
    rw [hC, tx_size] at hCs
    omega
  have R1 := Lib.hid (fun u => cut_any s n C u (by rw [hC, hl]; rfl) h1 h2 (by omega))
  have R2 := Lib.hid (fun u => count_any C (l.length : Int) u (by rw [hC, tx_list, count, rs_text l ml]) (by omega))
  have R3 := Lib.hid (fun u => repeat_blanks k K u hK (by omega))
  have hlz : n ≤ 0 → l.length = 0 := fun h => by rw [hl, List.length_take]; unfold clamp; omega
  have hmx : max (0 : Int) (wrap64 (min n 200 - (l.length : Int))) = (k : Int) := by
    have hw : wrap64 (min n 200 - (l.length : Int)) = min n 200 - (l.length : Int) := by unfold wrap64; omega
    rw [hw, hk]
    unfold clamp
    omega
  have hj : (if left then K ++ C else C ++ K) = X := by
    rw [hX, hC, hK, fillB, ← hl]
    cases left
    · show tx (text l) ++ tx (text (blanks k)) = tx (text (l ++ blanks _))
      rw [tx_append, text_append, ← hk]
    · show tx (text (blanks k)) ++ tx (text l) = tx (text (blanks _ ++ l))
      rw [tx_append, text_append, ← hk]
  have HMX := Lib.hid hmx
  have HJ := Lib.hid hj
  have hb1 : ¬ 9223372036854775807 < K.size + C.size := by omega
  have hb2 : ¬ 9223372036854775807 < C.size + K.size := by omega
  generalize hln : l.length = ln at *
  clear hl hk ml hC hK hk2 hCs hKs hX hs hmx hj hln hlz
  go_enter Tryd.func25, Tryd.ntmps25
  go_wp2_with fail
  refine (R1.out _).mono ?_
  rintro e w1 ⟨rfl, hb1⟩
  have HW1 := Lib.hid hb1
  clear hb1
  go_wp2_with fail
  refine (R2.out _).mono ?_
  rintro e w2 ⟨rfl, hb2⟩
  have HW2 := Lib.hid (HW1.out.trans (hb2.mono HW1.out.size))
  clear hb2
  go_wp2_with fail
  rw [HMX.out]
  refine (R3.out _).mono ?_
  rintro e w3 ⟨rfl, hb3⟩
  have HW3 := Lib.hid (HW2.out.trans (hb3.mono HW2.out.size))
  clear hb3
  cases left with
  | true =>
    have hX : K ++ C = X := HJ.out
    clear HJ
    go_wp2
    go_ret
    exact ⟨rfl, HW3.out⟩
  | false =>
    have hX : C ++ K = X := HJ.out
    clear HJ
    go_wp2
    go_ret
    exact ⟨rfl, HW3.out⟩
end Go.Proofs.YthlhhmhldpmpiaaDoor.Phr
