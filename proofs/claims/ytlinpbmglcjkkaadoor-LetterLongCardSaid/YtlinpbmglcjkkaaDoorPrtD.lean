/-
  ReadNums and ReadStrs of package parts, and the generic function by which both go, answer what the plain mathematics of the text Prt says, and leave all memory that was there as it was. Conditions: that numbers and lengths fit.
-/
import Derived.Test.YtlinpbmglcjkkaaDoorPrtC
namespace Go.Proofs.YtlinpbmglcjkkaaDoor.Prt
open Go.RowKit Mur Lanes
set_option maxRecDepth 100000

/-- Numbers and texts as they are read, and as cells. -/
def zl (l : List Nat) : List Int := l.map fun n : Nat => (n : Int)
def tl (l : List (List UInt8)) : List ByteArray := l.map fun s => tx s
def zlV (l : List Nat) : List Value := l.map fun n : Nat => Value.int .i64 (n : Int)
def tlV (l : List (List UInt8)) : List Value := l.map fun s => Value.string (tx s)
theorem zl_length (l : List Nat) : (zl l).length = l.length := by simp [zl]
theorem tl_length (l : List (List UInt8)) : (tl l).length = l.length := by simp [tl]
theorem zlV_length (l : List Nat) : (zlV l).length = l.length := by simp [zlV]
theorem tlV_length (l : List (List UInt8)) : (tlV l).length = l.length := by simp [tlV]
theorem zlV_snoc (l : List Nat) (x : Nat) : zlV (l ++ [x]) = zlV l ++ [Value.int .i64 (x : Int)] := by simp [zlV]
theorem tlV_snoc (l : List (List UInt8)) (x : List UInt8) : tlV (l ++ [x]) = tlV l ++ [Value.string (tx x)] := by simp [tlV]
theorem zlV_row {w : World} {b : Nat} {l : List Nat} (h : Row w b (zlV l)) : IntsR w (some ⟨b, 0, none⟩) (zl l) := fun _ => ⟨b, 0, rfl, h.lt, fun i x hx => by
  rw [Nat.zero_add]
  refine h.cell ?_
  simp only [zl, List.getElem?_map, Option.map_eq_some_iff] at hx
  obtain ⟨y, hy, rfl⟩ := hx
  simp [zlV, hy]⟩
theorem tlV_row {w : World} {b : Nat} {l : List (List UInt8)} (h : Row w b (tlV l)) : StrsR w (some ⟨b, 0, none⟩) (tl l) := fun _ => ⟨b, 0, rfl, h.lt, fun i x hx => by
  rw [Nat.zero_add]
  refine h.cell ?_
  simp only [tl, List.getElem?_map, Option.map_eq_some_iff] at hx
  obtain ⟨y, hy, rfl⟩ := hx
  simp [tlV, hy]⟩
/-- The list that is told of an outcome. -/
def listV {α : Type} (r : Except Nat (List α × Nat)) : List α := match r with
  | .ok x => x.1
  | .error _ => []
theorem made_any (w : World) (v : Value) (e : TypeId) (n : Nat) : Row (w.alloc (.cells (madeCells #[v] n) e)) w.heap.size (List.replicate n v) := by
  refine ⟨by simp, fun i u hu => ⟨?_, by simp⟩⟩
  rw [World.cell?_alloc_new]
  rw [← toList_madeCells_one] at hu
  simpa using hu
theorem set_next (c : List Value) (z v : Value) (m j : Nat) (hc : c.length = j) (hj : j < m) : (c ++ List.replicate (m - j) z).set j v = (c ++ [v]) ++ List.replicate (m - (j + 1)) z := by
  obtain ⟨d, rfl⟩ : ∃ d, m = j + 1 + d := ⟨m - (j + 1), by omega⟩
  have e1 : j + 1 + d - j = d + 1 := by omega
  have e2 : j + 1 + d - (j + 1) = d := by omega
  rw [e1, e2, List.replicate_succ, List.set_append_right _ _ (by omega), hc, Nat.sub_self, List.set_cons_zero, List.append_assoc]
  rfl
theorem info_int : (Tryd.prog.info? 3).map (fun i => (i.zero, i.size, i.bytes)) = some (some (.int .i64 0), 1, 8) := by kernel_rfl
theorem info_str : (Tryd.prog.info? 9).map (fun i => (i.zero, i.size, i.bytes)) = some (some (.string ⟨#[]⟩), 1, 16) := by kernel_rfl
theorem make_int (w : World) (n : Nat) (hn : 8 * n ≤ 281474976710656) : (Instr.makeSlice 22 (.int .i64 (n : Int)) (.int .i64 (n : Int))).run Tryd.prog w =
    .ok (.slice (some ⟨w.heap.size, 0, none⟩) n n) (w.alloc (.cells (madeCells #[.int .i64 0] n) 3)) := by
  obtain ⟨i0, hi, hz0, hz1, hz2⟩ := info_parts info_int
  have h := run_make (P := Tryd.prog) w 22 3 i0 (.int .i64 0) Tryd.underlying22 hi hz0 .i64 .i64 (n : Int) (n : Int) (by omega) (Int.le_refl _) (by rw [hz2]; omega) (by omega)
  simpa [hz1, Value.cells] using h
theorem make_string (w : World) (n : Nat) (hn : 16 * n ≤ 281474976710656) : (Instr.makeSlice 23 (.int .i64 (n : Int)) (.int .i64 (n : Int))).run Tryd.prog w =
    .ok (.slice (some ⟨w.heap.size, 0, none⟩) n n) (w.alloc (.cells (madeCells #[.string ⟨#[]⟩] n) 9)) := by
  obtain ⟨i0, hi, hz0, hz1, hz2⟩ := info_parts info_str
  have h := run_make (P := Tryd.prog) w 23 9 i0 (.string ⟨#[]⟩) Tryd.underlying23 hi hz0 .i64 .i64 (n : Int) (n : Int) (by omega) (Int.le_refl _) (by rw [hz2]; omega) (by omega)
  simpa [hz1, Value.cells] using h
theorem readNum_err (s : List UInt8) (p : Int) (e : Nat) (h : readNum s p = .error e) : 1 ≤ e ∧ e ≤ 4 := by
  have := readHigh_err s p 5 e h
  omega
theorem readNum_place (s : List UInt8) (p : Int) (q n : Nat) (h : readNum s p = .ok (n, q)) : q ≤ s.length := (readNum_facts s p q n h).2.2.1
theorem readStr_place (s : List UInt8) (p : Int) (q : Nat) (l : List UInt8) (h : readStr s p = .ok (l, q)) : q ≤ s.length := (readStr_facts s p q l h).2.2.1

set_option maxHeartbeats 3200000 in
theorem readAllN_any (s : ByteArray) (p : Int) (w : World) (L : List Nat) (B E : Int) (hL : L = listV (readAll readNum s.data.toList p)) (hB : B = posV (readAll readNum s.data.toList p)) (hE : E = errV (readAll readNum s.data.toList p)) (h1 : -9223372036854775808 ≤ p) (h2 : p ≤ 9223372036854775807) (hs : s.size ≤ 1000000000) :
    Calls Tryd.prog 49 #[.string s, .int .i64 p, .func (.func 23) #[] #[]] w fun e w' => ∃ ao c, e = .returned (.tuple #[.slice ao L.length c, .int .i64 B, .int .i64 E]) ∧ IntsR w' ao (zl L) ∧ (∀ q, ao = some q → w.heap.size ≤ q.block) ∧ Below w.heap.size w w' := by
  have R := Lib.hid (fun u => readHigh_any s p 1 u _ _ _ rfl rfl rfl h1 h2 hs (by omega))
  cases hr : readHigh s.data.toList p 1 with
  | error x =>
    have hra : readAll readNum s.data.toList p = .error x := by rw [readAll, hr]
    rw [hra] at hL hB hE
    rw [hr] at R
    obtain rfl : L = [] := hL
    obtain rfl : B = 0 := hB
    obtain rfl : E = (x : Int) := hE
    have R1 := Lib.hid (show ∀ u, Calls Tryd.prog 50 #[.string s, .int .i64 p, .int .i64 1] u fun e w' => e = .returned (.tuple #[.int .i64 0, .int .i64 0, .int .i64 (x : Int)]) ∧ Below u.heap.size u w' from R.out)
    have hx : ((x : Int) != 0) = true := by
      have := readHigh_err _ _ _ _ hr
      simp
      omega
    clear hr R h1 h2 hra
    go_enter Tryd.func49, Tryd.ntmps49
    go_wp2_with fail
    refine (R1.out _).mono ?_
    rintro e w1 ⟨rfl, hb⟩
    go_wp2
    go_ret3
    exact ⟨none, 0, rfl, fun h => absurd rfl h, (fun q hq => by cases hq), hb⟩
  | ok r =>
    obtain ⟨m, q0⟩ := r
    have hra : readAll readNum s.data.toList p = readN (readNum s.data.toList) m q0 := by rw [readAll, hr]
    rw [hra] at hL hB hE
    rw [hr] at R
    have R1 := Lib.hid (show ∀ u, Calls Tryd.prog 50 #[.string s, .int .i64 p, .int .i64 1] u fun e w' => e = .returned (.tuple #[.int .i64 (m : Int), .int .i64 (q0 : Int), .int .i64 0]) ∧ Below u.heap.size u w' from R.out)
    obtain ⟨f1, f2, f3, f4, f5⟩ := readHigh_facts _ _ _ _ _ hr
    have hq0 : q0 ≤ 1000000000 := Nat.le_trans f3 hs
    have hm : m ≤ 255 := by omega
    have hx : ((0 : Int) != 0) = false := by simp
    have RD := Lib.hid (fun (q : Nat) (hq : q ≤ 1000000000) (V : Int) (B E : Int) (hV : V = numV (readNum s.data.toList (q : Int))) (hB : B = posV (readNum s.data.toList (q : Int))) (hE : E = errV (readNum s.data.toList (q : Int))) (u : World) => readNum_any s (q : Int) u V B E hV hB hE (by omega) (by omega) hs)
    have hmk := fun u => make_int u m (by omega)
    have HL := Lib.hid hL
    have HB := Lib.hid hB
    have HE := Lib.hid hE
    clear hr R f1 f2 f3 f4 f5 hra hL hB hE h1 h2
    go_enter Tryd.func49, Tryd.ntmps49
    go_wp2_with fail
    refine (R1.out _).mono ?_
    rintro e w1 ⟨rfl, hb1⟩
    have HW1 := Lib.hid hb1
    clear hb1
    go_upto_region 5 with (fail)
    have HROW := Lib.hid (made_any w1 (Value.int .i64 0) 3 m)
    have HW2 := Lib.hid (HW1.out.alloc HW1.out.size (.cells (madeCells #[Value.int .i64 0] m) 3))
    clear hmk
    generalize w1.alloc (.cells (madeCells #[Value.int .i64 0] m) 3) = w2 at *
    have hbb := HW1.out.size
    generalize w1.heap.size = b at *
    go_wp2_with fail
    go_loopw [1, 27] (fun at_ i wr => ∃ (j q : Nat) (acc : List Nat), j ≤ m ∧ q ≤ 1000000000 ∧ i = .int .i64 j ∧ at_ = .int .i64 q ∧ acc.length = j ∧ readN (readNum s.data.toList) m q0 = front acc (readN (readNum s.data.toList) (m - j) q) ∧ Row wr b (zlV acc ++ List.replicate (m - j) (Value.int .i64 0)) ∧ Below w.heap.size w wr) (fun _ i _ => m - (intOf i).toNat)
    case atStart => exact ⟨0, q0, [], by omega, hq0, rfl, rfl, rfl, by rw [Nat.sub_zero, front_nil], by rw [Nat.sub_zero]; exact HROW.out, HW2.out⟩
    case round =>
      clear HROW HW2
      obtain ⟨j, q, acc, hj, hq, rfl, rfl, hacc, hrd, hrow, hbel⟩ := hrel
      have HW := Lib.hid hbel
      have HRD := Lib.hid hrd
      have HAC := Lib.hid hacc
      have HROW := Lib.hid hrow
      clear hbel hrd hacc hrow
      by_cases hlt : j < m
      · obtain ⟨d, hd⟩ : ∃ d, m - j = d + 1 := ⟨m - j - 1, by omega⟩
        have hjl : j < (zlV acc ++ List.replicate (m - j) (Value.int .i64 0)).length := by rw [List.length_append, zlV_length, HAC.out, List.length_replicate]; omega
        cases hrx : readNum s.data.toList (q : Int) with
        | error y =>
          have hy := readNum_err _ _ _ hrx
          have hra : readN (readNum s.data.toList) m q0 = .error y := by
            rw [HRD.out, hd, readN_error _ _ _ y hrx]
            rfl
          have hLe : L = [] := by rw [HL.out, hra]; rfl
          have hBe : B = 0 := by rw [HB.out, hra]; rfl
          have hEe : E = (y : Int) := by rw [HE.out, hra]; rfl
          subst hLe
          subst hBe
          subst hEe
          have R2 := Lib.hid (fun u => RD.out q hq (0) 0 (y : Int) (by rw [hrx]; rfl) (by rw [hrx]; rfl) (by rw [hrx]; rfl) u)
          have hne : ((y : Int) != 0) = true := by simp; omega
          have HJL := Lib.hid hjl
          clear hra hrx hd hy hjl
          go_wp2_with fail
          refine (R2.out _).mono ?_
          rintro e w4 ⟨rfl, hb4⟩
          have HW4 := Lib.hid (HW.out.trans (hb4.mono HW.out.size))
          have hrow4 := HROW.out.below HROW.out.lt hb4
          have hf := hrow4.free (i := j) HJL.out
          have hc := hrow4.cell (i := j) (List.getElem?_eq_getElem HJL.out)
          have HW5 := Lib.hid (HW4.out.setCell (p := ⟨b, j, none⟩) hbb (Value.int .i64 0))
          clear hb4 hrow4
          go_wp2
          go_ret3
          exact ⟨none, 0, rfl, fun h => absurd rfl h, (fun q hq => by cases hq), HW5.out⟩
        | ok r =>
          obtain ⟨x, q1⟩ := r
          have hq1 : q1 ≤ 1000000000 := Nat.le_trans (readNum_place _ _ _ _ hrx) hs
          have hra : readN (readNum s.data.toList) m q0 = front (acc ++ [x]) (readN (readNum s.data.toList) (m - (j + 1)) q1) := by
            have e : m - (j + 1) = d := by omega
            rw [HRD.out, hd, readN_ok _ _ _ q1 x hrx, front_front, e]
          have R2 := Lib.hid (fun u => RD.out q hq ((x : Int)) (q1 : Int) 0 (by rw [hrx]; rfl) (by rw [hrx]; rfl) (by rw [hrx]; rfl) u)
          have hset := set_next (zlV acc) (Value.int .i64 0) (Value.int .i64 (x : Int)) m j (by rw [zlV_length, HAC.out]) hlt
          rw [← zlV_snoc] at hset
          have HSET := Lib.hid hset
          have HRA := Lib.hid hra
          have HAC2 := Lib.hid (show (acc ++ [x]).length = j + 1 by rw [List.length_append, HAC.out]; rfl)
          have HJL := Lib.hid hjl
          clear hra hrx hd hset hjl
          go_wp2_with fail
          refine (R2.out _).mono ?_
          rintro e w4 ⟨rfl, hb4⟩
          have HW4 := Lib.hid (HW.out.trans (hb4.mono HW.out.size))
          have hrow4 := HROW.out.below HROW.out.lt hb4
          have hf := hrow4.free (i := j) HJL.out
          have hc := hrow4.cell (i := j) (List.getElem?_eq_getElem HJL.out)
          have HROW5 := Lib.hid (hrow4.set j (Value.int .i64 (x : Int)))
          have HW5 := Lib.hid (HW4.out.setCell (p := ⟨b, j, none⟩) hbb (Value.int .i64 (x : Int)))
          clear hb4 hrow4
          go_wp2
          go_roundw
          case rel => exact ⟨j + 1, q1, acc ++ [x], by omega, hq1, by go_num, rfl, HAC2.out, HRA.out, by rw [← HSET.out]; exact HROW5.out, HW5.out⟩
          case measure => simp [intOf]; omega
      · obtain rfl : j = m := by omega
        have hra : readN (readNum s.data.toList) j q0 = .ok (acc, q) := by
          rw [HRD.out, Nat.sub_self, readN_zero]
          show Except.ok (acc ++ [], q) = _
          rw [List.append_nil]
        have hLe : L = acc := by rw [HL.out, hra]; rfl
        have hBe : B = (q : Int) := by rw [HB.out, hra]; rfl
        have hEe : E = 0 := by rw [HE.out, hra]; rfl
        subst hLe
        subst hBe
        subst hEe
        have hrow := HROW.out
        rw [Nat.sub_self, List.replicate_zero, List.append_nil] at hrow
        have HR := Lib.hid (zlV_row hrow)
        clear hra hrow
        go_wp2
        go_ret3
        exact ⟨some ⟨b, 0, none⟩, j, by rw [HAC.out]; rfl, HR.out, (fun q hq => by cases hq; exact hbb), HW.out⟩

theorem readnums_any (s : ByteArray) (p : Int) (w : World) (L : List Nat) (B E : Int) (hL : L = listV (readAll readNum s.data.toList p)) (hB : B = posV (readAll readNum s.data.toList p)) (hE : E = errV (readAll readNum s.data.toList p)) (h1 : -9223372036854775808 ≤ p) (h2 : p ≤ 9223372036854775807) (hs : s.size ≤ 1000000000) :
    Calls Tryd.prog 21 #[.string s, .int .i64 p] w fun e w' => ∃ ao c, e = .returned (.tuple #[.slice ao L.length c, .int .i64 B, .int .i64 E]) ∧ IntsR w' ao (zl L) ∧ (∀ q, ao = some q → w.heap.size ≤ q.block) ∧ Below w.heap.size w w' := by
  have R := Lib.hid (readAllN_any s p w L B E hL hB hE h1 h2 hs)
  clear hL hB hE h1 h2 hs
  go_enter Tryd.func21, Tryd.ntmps21
  go_wp2_with fail
  refine R.out.mono ?_
  rintro e w1 ⟨ao, c, rfl, hr, hf, hb⟩
  have HR := Lib.hid hr
  have HF := Lib.hid hf
  clear hr hf
  go_wp2
  go_ret3
  exact ⟨ao, c, rfl, HR.out, HF.out, hb⟩

set_option maxHeartbeats 3200000 in
theorem readAllS_any (s : ByteArray) (p : Int) (w : World) (L : List (List UInt8)) (B E : Int) (hL : L = listV (readAll readStr s.data.toList p)) (hB : B = posV (readAll readStr s.data.toList p)) (hE : E = errV (readAll readStr s.data.toList p)) (h1 : -9223372036854775808 ≤ p) (h2 : p ≤ 9223372036854775807) (hs : s.size ≤ 1000000000) :
    Calls Tryd.prog 58 #[.string s, .int .i64 p, .func (.func 42) #[] #[]] w fun e w' => ∃ ao c, e = .returned (.tuple #[.slice ao L.length c, .int .i64 B, .int .i64 E]) ∧ StrsR w' ao (tl L) ∧ (∀ q, ao = some q → w.heap.size ≤ q.block) ∧ Below w.heap.size w w' := by
  have R := Lib.hid (fun u => readHigh_any s p 1 u _ _ _ rfl rfl rfl h1 h2 hs (by omega))
  cases hr : readHigh s.data.toList p 1 with
  | error x =>
    have hra : readAll readStr s.data.toList p = .error x := by rw [readAll, hr]
    rw [hra] at hL hB hE
    rw [hr] at R
    obtain rfl : L = [] := hL
    obtain rfl : B = 0 := hB
    obtain rfl : E = (x : Int) := hE
    have R1 := Lib.hid (show ∀ u, Calls Tryd.prog 50 #[.string s, .int .i64 p, .int .i64 1] u fun e w' => e = .returned (.tuple #[.int .i64 0, .int .i64 0, .int .i64 (x : Int)]) ∧ Below u.heap.size u w' from R.out)
    have hx : ((x : Int) != 0) = true := by
      have := readHigh_err _ _ _ _ hr
      simp
      omega
    clear hr R h1 h2 hra
    go_enter Tryd.func58, Tryd.ntmps58
    go_wp2_with fail
    refine (R1.out _).mono ?_
    rintro e w1 ⟨rfl, hb⟩
    go_wp2
    go_ret3
    exact ⟨none, 0, rfl, fun h => absurd rfl h, (fun q hq => by cases hq), hb⟩
  | ok r =>
    obtain ⟨m, q0⟩ := r
    have hra : readAll readStr s.data.toList p = readN (readStr s.data.toList) m q0 := by rw [readAll, hr]
    rw [hra] at hL hB hE
    rw [hr] at R
    have R1 := Lib.hid (show ∀ u, Calls Tryd.prog 50 #[.string s, .int .i64 p, .int .i64 1] u fun e w' => e = .returned (.tuple #[.int .i64 (m : Int), .int .i64 (q0 : Int), .int .i64 0]) ∧ Below u.heap.size u w' from R.out)
    obtain ⟨f1, f2, f3, f4, f5⟩ := readHigh_facts _ _ _ _ _ hr
    have hq0 : q0 ≤ 1000000000 := Nat.le_trans f3 hs
    have hm : m ≤ 255 := by omega
    have hx : ((0 : Int) != 0) = false := by simp
    have RD := Lib.hid (fun (q : Nat) (hq : q ≤ 1000000000) (V : ByteArray) (B E : Int) (hV : V = strV (readStr s.data.toList (q : Int))) (hB : B = posV (readStr s.data.toList (q : Int))) (hE : E = errV (readStr s.data.toList (q : Int))) (u : World) => readStr_any s (q : Int) u V B E hV hB hE (by omega) (by omega) hs)
    have hmk := fun u => make_string u m (by omega)
    have HL := Lib.hid hL
    have HB := Lib.hid hB
    have HE := Lib.hid hE
    clear hr R f1 f2 f3 f4 f5 hra hL hB hE h1 h2
    go_enter Tryd.func58, Tryd.ntmps58
    go_wp2_with fail
    refine (R1.out _).mono ?_
    rintro e w1 ⟨rfl, hb1⟩
    have HW1 := Lib.hid hb1
    clear hb1
    go_upto_region 5 with (fail)
    have HROW := Lib.hid (made_any w1 (Value.string ⟨#[]⟩) 9 m)
    have HW2 := Lib.hid (HW1.out.alloc HW1.out.size (.cells (madeCells #[Value.string ⟨#[]⟩] m) 9))
    clear hmk
    generalize w1.alloc (.cells (madeCells #[Value.string ⟨#[]⟩] m) 9) = w2 at *
    have hbb := HW1.out.size
    generalize w1.heap.size = b at *
    go_wp2_with fail
    go_loopw [1, 27] (fun at_ i wr => ∃ (j q : Nat) (acc : List (List UInt8)), j ≤ m ∧ q ≤ 1000000000 ∧ i = .int .i64 j ∧ at_ = .int .i64 q ∧ acc.length = j ∧ readN (readStr s.data.toList) m q0 = front acc (readN (readStr s.data.toList) (m - j) q) ∧ Row wr b (tlV acc ++ List.replicate (m - j) (Value.string ⟨#[]⟩)) ∧ Below w.heap.size w wr) (fun _ i _ => m - (intOf i).toNat)
    case atStart => exact ⟨0, q0, [], by omega, hq0, rfl, rfl, rfl, by rw [Nat.sub_zero, front_nil], by rw [Nat.sub_zero]; exact HROW.out, HW2.out⟩
    case round =>
      clear HROW HW2
      obtain ⟨j, q, acc, hj, hq, rfl, rfl, hacc, hrd, hrow, hbel⟩ := hrel
      have HW := Lib.hid hbel
      have HRD := Lib.hid hrd
      have HAC := Lib.hid hacc
      have HROW := Lib.hid hrow
      clear hbel hrd hacc hrow
      by_cases hlt : j < m
      · obtain ⟨d, hd⟩ : ∃ d, m - j = d + 1 := ⟨m - j - 1, by omega⟩
        have hjl : j < (tlV acc ++ List.replicate (m - j) (Value.string ⟨#[]⟩)).length := by rw [List.length_append, tlV_length, HAC.out, List.length_replicate]; omega
        cases hrx : readStr s.data.toList (q : Int) with
        | error y =>
          have hy := readStr_err _ _ _ hrx
          have hra : readN (readStr s.data.toList) m q0 = .error y := by
            rw [HRD.out, hd, readN_error _ _ _ y hrx]
            rfl
          have hLe : L = [] := by rw [HL.out, hra]; rfl
          have hBe : B = 0 := by rw [HB.out, hra]; rfl
          have hEe : E = (y : Int) := by rw [HE.out, hra]; rfl
          subst hLe
          subst hBe
          subst hEe
          have R2 := Lib.hid (fun u => RD.out q hq (⟨#[]⟩) 0 (y : Int) (by rw [hrx]; rfl) (by rw [hrx]; rfl) (by rw [hrx]; rfl) u)
          have hne : ((y : Int) != 0) = true := by simp; omega
          have HJL := Lib.hid hjl
          clear hra hrx hd hy hjl
          go_wp2_with fail
          refine (R2.out _).mono ?_
          rintro e w4 ⟨rfl, hb4⟩
          have HW4 := Lib.hid (HW.out.trans (hb4.mono HW.out.size))
          have hrow4 := HROW.out.below HROW.out.lt hb4
          have hf := hrow4.free (i := j) HJL.out
          have hc := hrow4.cell (i := j) (List.getElem?_eq_getElem HJL.out)
          have HW5 := Lib.hid (HW4.out.setCell (p := ⟨b, j, none⟩) hbb (Value.string ⟨#[]⟩))
          clear hb4 hrow4
          go_wp2
          go_ret3
          exact ⟨none, 0, rfl, fun h => absurd rfl h, (fun q hq => by cases hq), HW5.out⟩
        | ok r =>
          obtain ⟨x, q1⟩ := r
          have hq1 : q1 ≤ 1000000000 := Nat.le_trans (readStr_place _ _ _ _ hrx) hs
          have hra : readN (readStr s.data.toList) m q0 = front (acc ++ [x]) (readN (readStr s.data.toList) (m - (j + 1)) q1) := by
            have e : m - (j + 1) = d := by omega
            rw [HRD.out, hd, readN_ok _ _ _ q1 x hrx, front_front, e]
          have R2 := Lib.hid (fun u => RD.out q hq (tx x) (q1 : Int) 0 (by rw [hrx]; rfl) (by rw [hrx]; rfl) (by rw [hrx]; rfl) u)
          have hset := set_next (tlV acc) (Value.string ⟨#[]⟩) (Value.string (tx x)) m j (by rw [tlV_length, HAC.out]) hlt
          rw [← tlV_snoc] at hset
          obtain ⟨T, hT⟩ : ∃ T, T = tx x := ⟨_, rfl⟩
          rw [← hT] at R2 hset
          clear hT
          have HSET := Lib.hid hset
          have HRA := Lib.hid hra
          have HAC2 := Lib.hid (show (acc ++ [x]).length = j + 1 by rw [List.length_append, HAC.out]; rfl)
          have HJL := Lib.hid hjl
          clear hra hrx hd hset hjl
          go_wp2_with fail
          refine (R2.out _).mono ?_
          rintro e w4 ⟨rfl, hb4⟩
          have HW4 := Lib.hid (HW.out.trans (hb4.mono HW.out.size))
          have hrow4 := HROW.out.below HROW.out.lt hb4
          have hf := hrow4.free (i := j) HJL.out
          have hc := hrow4.cell (i := j) (List.getElem?_eq_getElem HJL.out)
          have HROW5 := Lib.hid (hrow4.set j (Value.string T))
          have HW5 := Lib.hid (HW4.out.setCell (p := ⟨b, j, none⟩) hbb (Value.string T))
          clear hb4 hrow4
          go_wp2
          go_roundw
          case rel => exact ⟨j + 1, q1, acc ++ [x], by omega, hq1, by go_num, rfl, HAC2.out, HRA.out, by rw [← HSET.out]; exact HROW5.out, HW5.out⟩
          case measure => simp [intOf]; omega
      · obtain rfl : j = m := by omega
        have hra : readN (readStr s.data.toList) j q0 = .ok (acc, q) := by
          rw [HRD.out, Nat.sub_self, readN_zero]
          show Except.ok (acc ++ [], q) = _
          rw [List.append_nil]
        have hLe : L = acc := by rw [HL.out, hra]; rfl
        have hBe : B = (q : Int) := by rw [HB.out, hra]; rfl
        have hEe : E = 0 := by rw [HE.out, hra]; rfl
        subst hLe
        subst hBe
        subst hEe
        have hrow := HROW.out
        rw [Nat.sub_self, List.replicate_zero, List.append_nil] at hrow
        have HR := Lib.hid (tlV_row hrow)
        clear hra hrow
        go_wp2
        go_ret3
        exact ⟨some ⟨b, 0, none⟩, j, by rw [HAC.out]; rfl, HR.out, (fun q hq => by cases hq; exact hbb), HW.out⟩

theorem readstrs_any (s : ByteArray) (p : Int) (w : World) (L : List (List UInt8)) (B E : Int) (hL : L = listV (readAll readStr s.data.toList p)) (hB : B = posV (readAll readStr s.data.toList p)) (hE : E = errV (readAll readStr s.data.toList p)) (h1 : -9223372036854775808 ≤ p) (h2 : p ≤ 9223372036854775807) (hs : s.size ≤ 1000000000) :
    Calls Tryd.prog 45 #[.string s, .int .i64 p] w fun e w' => ∃ ao c, e = .returned (.tuple #[.slice ao L.length c, .int .i64 B, .int .i64 E]) ∧ StrsR w' ao (tl L) ∧ (∀ q, ao = some q → w.heap.size ≤ q.block) ∧ Below w.heap.size w w' := by
  have R := Lib.hid (readAllS_any s p w L B E hL hB hE h1 h2 hs)
  clear hL hB hE h1 h2 hs
  go_enter Tryd.func45, Tryd.ntmps45
  go_wp2_with fail
  refine R.out.mono ?_
  rintro e w1 ⟨ao, c, rfl, hr, hf, hb⟩
  have HR := Lib.hid hr
  have HF := Lib.hid hf
  clear hr hf
  go_wp2
  go_ret3
  exact ⟨ao, c, rfl, HR.out, HF.out, hb⟩
end Go.Proofs.YtlinpbmglcjkkaaDoor.Prt
