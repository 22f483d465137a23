/-
  Right, Count, Cut, Width, Fold and Back of the document's answer for layer 11: what is answered is what the plain mathematics says; all memory that was there stays as it was. Conditions: that numbers and lengths fit.
-/
import Derived.Test.YthlhhmhldpmpiaaDoorRPhrD
namespace Go.Proofs.YthlhhmhldpmpiaaDoor.RPhr
open Go.RowKit Mur Phr Runs
set_option maxRecDepth 100000

/-- The runes of a text, read. -/
theorem runes_read (s : ByteArray) (l : List Nat) (B : Bool) (n : Nat) (w : World) (hl : l = rs s.data.toList) (hB : B = (runes s.data.toList).isSome) (hn : n = l.length) (hs : s.size ≤ 1000000) :
    Calls Tryd.prog 38 #[.string s] w fun e w' => ∃ ao c, e = .returned (.tuple #[.slice ao n c, .bool B]) ∧ n ≤ c ∧ RunsR w' ao l ∧ Below w.heap.size w w' :=
  (runes_any s l B w hl hB hs).mono fun e w' k => by
    obtain ⟨v, h1, h2, h3⟩ := k
    obtain ⟨ao, c, rfl, h4, -, h5⟩ := RunsR.own h2
    rw [← hn] at h1 h4
    exact ⟨ao, c, h1, h4, h5, h3⟩

set_option maxHeartbeats 1600000 in
theorem count_any (s : ByteArray) (N : Int) (w : World) (hN : N = (count s.data.toList : Int)) (hs : s.size ≤ 1000000) :
    Calls Tryd.prog 13 #[.string s] w fun e w' => e = .returned (.int .i64 N) ∧ Below w.heap.size w w' := by
  obtain ⟨n, hn⟩ : ∃ n, n = (rs s.data.toList).length := ⟨_, rfl⟩
  have R1 := Lib.hid (fun u => runes_read s (rs s.data.toList) _ n u rfl rfl hn hs)
  obtain rfl : N = (n : Int) := by rw [hN, hn]; rfl
  generalize (runes s.data.toList).isSome = B at *
  clear hN hn hs
  go_enter Tryd.func13, Tryd.ntmps13
  go_wp2_with fail
  refine (R1.out _).mono ?_
  rintro e w1 ⟨ao, c, rfl, -, -, hb1⟩
  go_wp2
  go_ret
  exact ⟨rfl, hb1⟩

set_option maxHeartbeats 1600000 in
theorem right_any (s : ByteArray) (B : Bool) (w : World) (hB : B = right s.data.toList) (hs : s.size ≤ 1000000) :
    Calls Tryd.prog 11 #[.string s] w fun e w' => e = .returned (.bool B) ∧ Below w.heap.size w w' := by
  have hsl : s.data.toList.length = s.size := rfl
  cases hi : (runes s.data.toList).isSome with
  | false =>
    have R1 := Lib.hid (fun u => runes_read s (rs s.data.toList) false _ u rfl hi.symm rfl hs)
    generalize (rs s.data.toList).length = n at *
    obtain rfl : B = false := by rw [hB, right, hi]; rfl
    clear hB hi hs hsl
    go_enter Tryd.func11, Tryd.ntmps11
    go_wp2_with fail
    refine (R1.out _).mono ?_
    rintro e w1 ⟨ao, c, rfl, -, -, hb1⟩
    go_wp2
    go_ret
    exact ⟨rfl, hb1⟩
  | true =>
    have R1 := Lib.hid (fun u => runes_read s (rs s.data.toList) true _ u rfl hi.symm rfl hs)
    generalize (rs s.data.toList).length = n at *
    by_cases h1 : 1 ≤ s.size
    · have hd1 : decide (1 ≤ (s.size : Int)) = true := decide_eq_true (by omega)
      have hd1' : decide (1 ≤ s.size) = true := decide_eq_true (by omega)
      by_cases h2 : s.size ≤ 16
      · have hd2 : decide ((s.size : Int) ≤ 16) = true := decide_eq_true (by omega)
        have hd2' : decide (s.size ≤ 16) = true := decide_eq_true (by omega)
        obtain rfl : B = true := by rw [hB, right, hi, hsl, hd1', hd2']; rfl
        clear hB hi hs hsl h1 h2
        go_enter Tryd.func11, Tryd.ntmps11
        go_wp2_with fail
        refine (R1.out _).mono ?_
        rintro e w1 ⟨ao, c, rfl, -, -, hb1⟩
        go_wp2
        go_ret
        exact ⟨rfl, hb1⟩
      · have hd2 : decide ((s.size : Int) ≤ 16) = false := decide_eq_false (by omega)
        have hd2' : decide (s.size ≤ 16) = false := decide_eq_false (by omega)
        obtain rfl : B = false := by rw [hB, right, hi, hsl, hd2']; simp
        clear hB hi hs hsl h1 h2
        go_enter Tryd.func11, Tryd.ntmps11
        go_wp2_with fail
        refine (R1.out _).mono ?_
        rintro e w1 ⟨ao, c, rfl, -, -, hb1⟩
        go_wp2
        go_ret
        exact ⟨rfl, hb1⟩
    · have hd1 : decide (1 ≤ (s.size : Int)) = false := decide_eq_false (by omega)
      have hd1' : decide (1 ≤ s.size) = false := decide_eq_false (by omega)
      obtain rfl : B = false := by rw [hB, right, hi, hsl, hd1']; simp
      clear hB hi hs hsl h1
      go_enter Tryd.func11, Tryd.ntmps11
      go_wp2_with fail
      refine (R1.out _).mono ?_
      rintro e w1 ⟨ao, c, rfl, -, -, hb1⟩
      go_wp2
      go_ret
      exact ⟨rfl, hb1⟩

set_option maxHeartbeats 1600000 in
theorem cut_any (s : ByteArray) (n : Int) (X : ByteArray) (w : World) (hX : X = tx (cutB s.data.toList n)) (h1 : -9223372036854775808 ≤ n) (h2 : n ≤ 9223372036854775807) (hs : s.size ≤ 1000000) :
    Calls Tryd.prog 15 #[.string s, .int .i64 n] w fun e w' => e = .returned (.string X) ∧ Below w.heap.size w w' := by
  obtain ⟨l, hl⟩ : ∃ l, l = rs s.data.toList := ⟨_, rfl⟩
  obtain ⟨q, hq⟩ : ∃ q, q = l.length := ⟨_, rfl⟩
  have R1 := Lib.hid (fun u => runes_read s l _ q u hl rfl hq hs)
  obtain ⟨k, hk⟩ : ∃ k, k = clamp n q := ⟨_, rfl⟩
  have hkq : k ≤ q := by rw [hk]; exact clamp_le n q
  have hmx : max (0 : Int) (min n (q : Int)) = (k : Int) := by rw [hk]; unfold clamp; omega
  have hll : q ≤ 1000000 := by
    have h3 := rs_length s.data.toList
    have h4 : s.data.toList.length = s.size := rfl
    rw [hq, hl]
    omega
  have R2 := Lib.hid (fun (a : Option Addr) (c : Nat) (u : World) (hr : RunsR u a (l.take k)) => text_any (l.take k) a k c u X (by rw [hX, cutB, ← hl, ← hq, ← hk]) (by rw [List.length_take]; omega) (by omega) (take_may (by rw [hl]; exact rs_may _) k) hr)
  generalize (runes s.data.toList).isSome = B at *
  clear hX hl hq hk hs h1 h2
  go_enter Tryd.func15, Tryd.ntmps15
  go_wp2_with fail
  refine (R1.out _).mono ?_
  rintro e w1 ⟨ao, c, rfl, hnc, hr, hb1⟩
  have HW1 := Lib.hid hb1
  have HR := Lib.hid hr
  clear hb1 hr
  go_wp2_with fail
  refine (R2.out _ _ _ (HR.out.take k)).mono ?_
  rintro e w2 ⟨rfl, hb2⟩
  have HW2 := Lib.hid (HW1.out.trans (hb2.mono HW1.out.size))
  clear hb2
  go_wp2
  go_ret
  exact ⟨rfl, HW2.out⟩

theorem text_len_next (l : List Nat) (k c : Nat) (h : l[k]? = some c) : (text (l.take (k + 1))).length = (text (l.take k)).length + (if c < 128 then 1 else 2) := by
  rw [text_next l k c h, List.length_append, enc_length]

set_option maxHeartbeats 3200000 in
theorem width_any (s : ByteArray) (N : Int) (w : World) (hN : N = (widthB s.data.toList : Int)) (hs : s.size ≤ 1000000) :
    Calls Tryd.prog 24 #[.string s] w fun e w' => e = .returned (.int .i64 N) ∧ Below w.heap.size w w' := by
  obtain ⟨l, hl⟩ : ∃ l, l = rs s.data.toList := ⟨_, rfl⟩
  obtain ⟨q, hq⟩ : ∃ q, q = l.length := ⟨_, rfl⟩
  have R1 := Lib.hid (fun u => runes_read s l _ q u hl rfl hq hs)
  have HN := Lib.hid (show N = ((text l).length : Int) by rw [hN, hl]; rfl)
  have HQ := Lib.hid hq
  have HM := Lib.hid (show ∀ c ∈ l, may c = true by rw [hl]; exact rs_may _)
  have hll : q ≤ 1000000 := by
    have h3 := rs_length s.data.toList
    have h4 : s.data.toList.length = s.size := rfl
    rw [hq, hl]
    omega
  generalize (runes s.data.toList).isSome = B at *
  clear hN hl hq hs
  go_enter Tryd.func24, Tryd.ntmps24
  go_wp2_with fail
  refine (R1.out _).mono ?_
  rintro e w1 ⟨ao, c, rfl, -, hr, hb1⟩
  have HW1 := Lib.hid hb1
  have HR := Lib.hid hr
  clear hb1 hr
  go_wp2_with fail
  go_loopw [5, 15] (fun a i wr => ∃ k : Nat, k ≤ q ∧ i = .int .i64 k ∧ a = .int .i64 ((text (l.take k)).length : Int) ∧ w1 = wr) (fun _ i _ => q - (intOf i).toNat)
  case atStart => exact ⟨0, Nat.zero_le _, rfl, rfl, rfl⟩
  case round =>
    obtain ⟨k, hk, rfl, rfl, rfl⟩ := hrel
    by_cases hlt : k < q
    · obtain ⟨x, hx⟩ : ∃ x, l[k]? = some x := ⟨_, List.getElem?_eq_getElem (show k < l.length by have := HQ.out; omega)⟩
      obtain ⟨b, o, rfl, hb, hcell⟩ := HR.out (by have := HQ.out; omega)
      have hc := hcell k x hx
      have hmx := may_lt (HM.out x (List.mem_of_getElem? hx))
      have hnx := text_len_next l k x hx
      have htl : (text (l.take k)).length ≤ 2 * k := by
        have h1 := (text_length (l.take k)).2
        rw [List.length_take] at h1
        omega
      generalize (text (l.take k)).length = z at *
      generalize hy : (text (l.take (k + 1))).length = y at *
      have HY := Lib.hid hy
      clear hcell hx hmx hy hb
      by_cases h7 : x < 128
      · have hd : decide (128 ≤ (x : Int)) = false := decide_eq_false (by omega)
        have hd2 : decide (128 ≤ x) = false := decide_eq_false (by omega)
        rw [if_pos h7] at hnx
        have HNX := Lib.hid hnx
        clear hnx
        go_wp2
        go_roundw
        case rel => exact ⟨k + 1, by omega, by go_num, by rw [HY.out, HNX.out]; go_num, by first | rfl | trivial⟩
        case measure => simp [intOf]; omega
      · have hd : decide (128 ≤ (x : Int)) = true := decide_eq_true (by omega)
        have hd2 : decide (128 ≤ x) = true := decide_eq_true (by omega)
        rw [if_neg h7] at hnx
        have HNX := Lib.hid hnx
        clear hnx
        go_wp2
        go_roundw
        case rel => exact ⟨k + 1, by omega, by go_num, by rw [HY.out, HNX.out]; go_num, by first | rfl | trivial⟩
        case measure => simp [intOf]; omega
    · obtain rfl : k = q := by omega
      have hE : ((text (l.take k)).length : Int) = N := by rw [HN.out, List.take_of_length_le (by have := HQ.out; omega)]
      rw [hE]
      clear hE
      go_wp2
      go_ret
      exact ⟨rfl, HW1.out⟩

theorem map_next {α : Type} (l : List α) (g : α → Nat) (k : Nat) (c : α) (h : l[k]? = some c) : (l.map g).take (k + 1) = (l.map g).take k ++ [g c] := by
  have h1 : (l.map g)[k]? = some (g c) := by simp [h]
  obtain ⟨hk, he⟩ := List.getElem?_eq_some_iff.1 h1
  rw [← he]
  exact (List.take_append_getElem hk).symm

set_option maxHeartbeats 3200000 in
theorem fold_any (s : ByteArray) (X : ByteArray) (w : World) (hX : X = tx (foldB s.data.toList)) (hs : s.size ≤ 1000000) :
    Calls Tryd.prog 17 #[.string s] w fun e w' => e = .returned (.string X) ∧ Below w.heap.size w w' := by
  obtain ⟨l, hl⟩ : ∃ l, l = rs s.data.toList := ⟨_, rfl⟩
  obtain ⟨q, hq⟩ : ∃ q, q = l.length := ⟨_, rfl⟩
  have R1 := Lib.hid (fun u => runes_read s l _ q u hl rfl hq hs)
  have HQ := Lib.hid hq
  have HM := Lib.hid (show ∀ c ∈ l, may c = true by rw [hl]; exact rs_may _)
  have hll : q ≤ 1000000 := by
    have h3 := rs_length s.data.toList
    have h4 : s.data.toList.length = s.size := rfl
    rw [hq, hl]
    omega
  have R2 := Lib.hid (fun (a : Option Addr) (c : Nat) (u : World) (hr : RunsR u a (l.map small)) => text_any (l.map small) a q c u X (by rw [hX, hl]; rfl) (by rw [hq]; simp) hll (may_map l HM.out) hr)
  generalize (runes s.data.toList).isSome = B at *
  clear hX hl hq hs
  go_enter Tryd.func17, Tryd.ntmps17
  go_wp2_with fail
  refine (R1.out _).mono ?_
  rintro e w1 ⟨ao, c, rfl, -, hr, hb1⟩
  have HW1 := Lib.hid hb1
  have HR1 := Lib.hid hr
  clear hb1 hr
  go_wp2_with fail
  go_loopw [5, 15] (fun v i wr => ∃ k : Nat, k ≤ q ∧ i = .int .i64 k ∧ wr.ownsRow w1.heap.size 21 1 v k (runsV ((l.map small).take k)) ∧ Below w1.heap.size w1 wr) (fun _ i _ => q - (intOf i).toNat)
  case atStart => exact ⟨0, Nat.zero_le _, rfl, World.ownsRow_nil _ _ _ _, Below.refl _ _⟩
  case round =>
    obtain ⟨k, hk, rfl, hown, hbel⟩ := hrel
    have HO := Lib.hid hown
    have HW := Lib.hid hbel
    by_cases hlt : k < q
    · obtain ⟨x, hx⟩ : ∃ x, l[k]? = some x := ⟨_, List.getElem?_eq_getElem (show k < l.length by have := HQ.out; omega)⟩
      obtain ⟨b, o, rfl, hb, hcell⟩ := HR1.out (by have := HQ.out; omega)
      have hc := (hbel.cell (p := ⟨b, o + k, none⟩) hb).trans (hcell k x hx)
      have hmx := may_lt (HM.out x (List.mem_of_getElem? hx))
      have HNX := Lib.hid (map_next l small k x hx)
      obtain ⟨y, hy⟩ : ∃ y, y = small x := ⟨_, rfl⟩
      have R3 := Lib.hid (fun u => small_any x y u hy hmx.2.1)
      rw [← hy] at HNX
      clear hcell hx hmx hy hown hbel hb
      go_wp2_with fail
      refine (R3.out _).mono ?_
      rintro e w3 ⟨rfl, rfl⟩
      go_wp2_with (at_builtin; refine append_runs rfl _ _ rfl w1.heap.size k _ ((l.map small).take k) rfl (HO.out.alloc _) w3.heap.size 1 1 [y] rfl rfl (Runs.new_one _ _ _) (by omega) (Nat.le_trans HW.out.size (by simp)) ?_)
      intro v' w4 hown4 hgrow4
      have HW4 := Lib.hid ((HW.out.alloc HW.out.size (.cells #[.int .i32 (y : Int)] 21)).grown hgrow4 (Nat.le_trans HW.out.size (by simp)) (fun j hj => (HO.out.lt j hj).1))
      rw [← HNX.out] at hown4
      have HO4 := Lib.hid hown4
      clear hown4 hgrow4
      go_wp2
      go_roundw
      case rel => exact ⟨k + 1, by omega, by go_num, HO4.out, HW4.out⟩
      case measure => simp [intOf]; omega
    · obtain rfl : k = q := by omega
      obtain ⟨a2, c2, rfl, -, -, hr2⟩ := RunsR.own hown
      rw [List.take_of_length_le (by have := HQ.out; simp; omega)] at hr2
      have HR2 := Lib.hid (R2.out a2 c2 _ hr2)
      clear hr2 hown hbel
      go_wp2_with fail
      refine HR2.out.mono ?_
      rintro e w4 ⟨rfl, hb4⟩
      have HW4 := Lib.hid (HW1.out.trans ((HW.out.trans (hb4.mono HW.out.size)).mono HW1.out.size))
      clear hb4
      go_wp2
      go_ret
      exact ⟨rfl, HW4.out⟩

theorem rev_next (l : List Nat) (k c : Nat) (hk : k < l.length) (h : l[l.length - 1 - k]? = some c) : l.reverse.take (k + 1) = l.reverse.take k ++ [c] := by
  have h1 : l.reverse[k]? = some c := by
    rw [List.getElem?_reverse hk]
    exact h
  obtain ⟨hk2, rfl⟩ := List.getElem?_eq_some_iff.1 h1
  exact (List.take_append_getElem hk2).symm

set_option maxHeartbeats 3200000 in
theorem back_any (s : ByteArray) (X : ByteArray) (w : World) (hX : X = tx (backB s.data.toList)) (hs : s.size ≤ 1000000) :
    Calls Tryd.prog 19 #[.string s] w fun e w' => e = .returned (.string X) ∧ Below w.heap.size w w' := by
  obtain ⟨l, hl⟩ : ∃ l, l = rs s.data.toList := ⟨_, rfl⟩
  obtain ⟨q, hq⟩ : ∃ q, q = l.length := ⟨_, rfl⟩
  have R1 := Lib.hid (fun u => runes_read s l _ q u hl rfl hq hs)
  have HQ := Lib.hid hq
  have HM := Lib.hid (show ∀ c ∈ l, may c = true by rw [hl]; exact rs_may _)
  have hll : q ≤ 1000000 := by
    have h3 := rs_length s.data.toList
    have h4 : s.data.toList.length = s.size := rfl
    rw [hq, hl]
    omega
  have R2 := Lib.hid (fun (a : Option Addr) (c : Nat) (u : World) (hr : RunsR u a l.reverse) => text_any l.reverse a q c u X (by rw [hX, hl]; rfl) (by rw [hq]; simp) hll (rev_may HM.out) hr)
  generalize (runes s.data.toList).isSome = B at *
  clear hX hl hq hs
  go_enter Tryd.func19, Tryd.ntmps19
  go_wp2_with fail
  refine (R1.out _).mono ?_
  rintro e w1 ⟨ao, c, rfl, -, hr, hb1⟩
  have HW1 := Lib.hid hb1
  have HR1 := Lib.hid hr
  clear hb1 hr
  go_wp2_with fail
  go_loopw [5, 14] (fun v i wr => ∃ k : Nat, k ≤ q ∧ i = .int .i64 k ∧ wr.ownsRow w1.heap.size 21 1 v k (runsV (l.reverse.take k)) ∧ Below w1.heap.size w1 wr) (fun _ i _ => q - (intOf i).toNat)
  case atStart => exact ⟨0, Nat.zero_le _, rfl, World.ownsRow_nil _ _ _ _, Below.refl _ _⟩
  case round =>
    obtain ⟨k, hk, rfl, hown, hbel⟩ := hrel
    have HO := Lib.hid hown
    have HW := Lib.hid hbel
    by_cases hlt : k < q
    · obtain ⟨j, hj⟩ : ∃ j : Nat, j = q - 1 - k := ⟨_, rfl⟩
      obtain ⟨x, hx⟩ : ∃ x, l[j]? = some x := ⟨_, List.getElem?_eq_getElem (show j < l.length by have := HQ.out; omega)⟩
      obtain ⟨b, o, rfl, hb, hcell⟩ := HR1.out (by have := HQ.out; omega)
      have hc := (hbel.cell (p := ⟨b, o + j, none⟩) hb).trans (hcell j x hx)
      have hji : (q : Int) - 1 - (k : Int) = (j : Int) := by omega
      have hjn : ((q : Int) - 1 - (k : Int)).toNat = j := by omega
      have HNX := Lib.hid (rev_next l k x (by have := HQ.out; omega) (by rw [← HQ.out, ← hj]; exact hx))
      have hjq : j < q := by omega
      clear hcell hx hown hbel hb hj
      go_wp2_with (at_builtin; refine append_runs rfl _ _ rfl w1.heap.size k _ (l.reverse.take k) rfl (HO.out.alloc _) wr.heap.size 1 1 [x] rfl rfl (Runs.new_one _ _ _) (by omega) (Nat.le_trans HW.out.size (by simp)) ?_)
      intro v' w4 hown4 hgrow4
      have HW4 := Lib.hid ((HW.out.alloc HW.out.size (.cells #[.int .i32 (x : Int)] 21)).grown hgrow4 (Nat.le_trans HW.out.size (by simp)) (fun j hj => (HO.out.lt j hj).1))
      rw [← HNX.out] at hown4
      have HO4 := Lib.hid hown4
      clear hown4 hgrow4
      go_wp2
      go_roundw
      case rel => exact ⟨k + 1, by omega, by go_num, HO4.out, HW4.out⟩
      case measure => simp [intOf]; omega
    · obtain rfl : k = q := by omega
      obtain ⟨a2, c2, rfl, -, -, hr2⟩ := RunsR.own hown
      rw [List.take_of_length_le (by have := HQ.out; simp; omega)] at hr2
      have HR2 := Lib.hid (R2.out a2 c2 _ hr2)
      clear hr2 hown hbel
      go_wp2_with fail
      refine HR2.out.mono ?_
      rintro e w4 ⟨rfl, hb4⟩
      have HW4 := Lib.hid (HW1.out.trans ((HW.out.trans (hb4.mono HW.out.size)).mono HW1.out.size))
      clear hb4
      go_wp2
      go_ret
      exact ⟨rfl, HW4.out⟩
end Go.Proofs.YthlhhmhldpmpiaaDoor.RPhr
