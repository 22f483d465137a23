/-
  The document's own answers for Nums, Strs, ReadNums and ReadStrs of layer 10 are what the plain mathematics of the text Prt says. Conditions: that numbers and lengths fit; no more than 1000000 in a list.
-/
import Derived.Test.YtlinpbmglcjkkaaRPrtA
import Derived.Test.YtlinpbmglcjkkaaIntA
namespace Go.Proofs.Ytlinpbmglcjkkaa.RPrt
open Go.RowKit Mur Lanes Prt
set_option maxRecDepth 100000

theorem ints_one (W : World) (x : Nat) (t : TypeId) : ∀ j u, (Ints.intsV [x])[j]? = some u → (W.alloc (.cells #[.int .i64 (x : Int)] t)).cell? ⟨W.heap.size, j, none⟩ = some u := fun j u hu => by
  match j, hu with
  | 0, hu => cases hu; simp [World.cell?_alloc_new]
theorem own_where {w : World} {base n m c : Nat} {e : TypeId} {v : Value} {xs : List Value} {ao : Option Addr} (h : w.ownsRow base e 1 v n xs) (hv : v = .slice ao m c) : ∀ q, ao = some q → base ≤ q.block := by
  intro q hq
  rcases h.2 with ⟨rfl, -⟩ | ⟨g, cap, cur, rfl, hb, -⟩
  · cases hv
    cases hq
  · cases hv
    cases hq
    exact hb
theorem own_ints {w : World} {base n : Nat} {v : Value} {l : List Nat} (h : w.ownsRow base 3 1 v n (Ints.intsV l)) : ∃ ao c, v = .slice ao l.length c ∧ IntsR w ao (zl l) ∧ ∀ q, ao = some q → base ≤ q.block := by
  have hw := fun ao c => own_where (ao := ao) (c := c) (m := l.length) h
  obtain ⟨ao, c, rfl, -, h2, h3⟩ := Strs.own_slice h
  have hn : n = l.length := by rw [h2, Ints.intsV_length]
  subst hn
  refine ⟨ao, c, rfl, fun hl => ?_, hw ao c rfl⟩
  have h0 : 0 < l.length := by rw [zl_length] at hl; omega
  obtain ⟨g, hg, -, hlt, -⟩ := h3 0 _ (Ints.intsV_at (List.getElem?_eq_getElem h0))
  refine ⟨g, 0, hg, hlt, fun i x hx => ?_⟩
  simp only [zl, List.getElem?_map, Option.map_eq_some_iff] at hx
  obtain ⟨y, hy, rfl⟩ := hx
  obtain ⟨g2, hg2, -, -, hc⟩ := h3 i _ (Ints.intsV_at hy)
  rw [hg] at hg2
  cases hg2
  rw [Nat.zero_add]
  exact hc
theorem own_strs {w : World} {base n : Nat} {v : Value} {l : List (List UInt8)} (h : w.ownsRow base 9 1 v n (Strs.strsV (tl l))) : ∃ ao c, v = .slice ao l.length c ∧ StrsR w ao (tl l) ∧ ∀ q, ao = some q → base ≤ q.block := by
  have hw := fun ao c => own_where (ao := ao) (c := c) (m := l.length) h
  obtain ⟨ao, c, rfl, -, h2, h3⟩ := Strs.own_slice h
  have hn : n = l.length := by rw [h2, Strs.strsV_length, tl_length]
  subst hn
  refine ⟨ao, c, rfl, fun hl => ?_, hw ao c rfl⟩
  have h0 : 0 < (tl l).length := by omega
  obtain ⟨g, hg, -, hlt, -⟩ := h3 0 _ (Strs.strsV_at (List.getElem?_eq_getElem h0))
  refine ⟨g, 0, hg, hlt, fun i x hx => ?_⟩
  obtain ⟨g2, hg2, -, -, hc⟩ := h3 i _ (Strs.strsV_at hx)
  rw [hg] at hg2
  cases hg2
  rw [Nat.zero_add]
  exact hc
theorem zl_snoc (l : List Nat) (x : Nat) : Ints.intsV (l ++ [x]) = Ints.intsV l ++ Ints.intsV [x] := Ints.intsV_append _ _
theorem tl_snoc (l : List (List UInt8)) (x : List UInt8) : tl (l ++ [x]) = tl l ++ [tx x] := by simp [tl]
theorem data_append (a b : ByteArray) : (a ++ b).data.toList = a.data.toList ++ b.data.toList := by simp

set_option maxHeartbeats 3200000 in
theorem nums_any (zs : List Int) (n : Nat) (a : Option Addr) (cap : Nat) (w : World) (X : ByteArray) (E : Int) (hX : X = layX (layAll num zs)) (hE : E = errV (layAll num zs)) (hr : IntsR w a zs) (hn : zs.length = n) (hn2 : n ≤ 1000000) (hz : ∀ z ∈ zs, -9223372036854775808 ≤ z ∧ z ≤ 9223372036854775807) :
    Calls Try.prog 37 #[.slice a n cap] w fun e w' => e = .returned (.tuple #[.string X, .int .i64 E]) ∧ Below w.heap.size w w' := by
  by_cases hm : 255 < n
  · have hl : layAll num zs = .error 4 := by rw [layAll, if_pos (by rw [hn]; exact hm)]
    rw [hl] at hX hE
    obtain rfl : X = ⟨#[]⟩ := hX
    obtain rfl : E = 4 := hE
    have hd : decide (255 < (n : Int)) = true := decide_eq_true (by omega)
    clear hl hr hz
    go_enter Try.func37, Try.ntmps37
    go_wp2
    go_ret2
    exact ⟨rfl, Below.refl _ _⟩
  · have hl : layAll num zs = Prt.ahead (high n 1) (each num zs) := by rw [layAll, if_neg (by rw [hn]; exact hm), hn]
    obtain ⟨H, hH⟩ : ∃ H : ByteArray, H = tx (high n 1) := ⟨_, rfl⟩
    have hHs : H.size = 1 := by rw [hH, tx_size, high_length]
    have hHl : H.data.toList = high n 1 := by rw [hH]
    have R := Lib.hid (show ∀ u, Calls Try.prog 69 #[.int .u64 (n : Int), .int .i64 1] u fun e w' => e = .returned (.string H) ∧ Below u.heap.size u w' from fun u => by
      rw [hH]
      exact RefOne.high_any n 1 u (by omega) (by omega) (by omega))
    have RN := Lib.hid (fun (x : Int) (hx : x ∈ zs) (Y : ByteArray) (F : Int) (hY : Y = layX (num x)) (hF : F = errV (num x)) (u : World) => num_any x u Y F hY hF (hz x hx).1 (hz x hx).2)
    have hw : IntKind.u64.wrap (n : Int) = (n : Int) := by rw [IntKind.wrap_u64]; omega
    have hd : decide (255 < (n : Int)) = false := decide_eq_false (by omega)
    have hd2 : decide (255 < n) = false := decide_eq_false (by omega)
    have HL := Lib.hid hl
    have HX := Lib.hid hX
    have HE := Lib.hid hE
    have HR := Lib.hid hr
    have HN := Lib.hid hn
    have HHL := Lib.hid hHl
    have HHS := Lib.hid hHs
    clear hl hX hE hr hn hz hH hHs hHl
    go_enter Try.func37, Try.ntmps37
    go_wp2_with fail
    refine (R.out _).mono ?_
    rintro e w2 ⟨rfl, hb2⟩
    have HW2 := Lib.hid hb2
    clear hb2 hw
    go_wp2_with fail
    go_loopw [4, 18] (fun ov i wr => ∃ (j : Nat) (O : ByteArray), j ≤ n ∧ i = .int .i64 j ∧ ov = .string O ∧ O.size ≤ 1 + 6002 * j ∧ layAll num zs = Prt.ahead O.data.toList (each num (zs.drop j)) ∧ Below w.heap.size w wr) (fun _ i _ => n - (intOf i).toNat)
    case atStart => exact ⟨0, H, by omega, rfl, rfl, by rw [HHS.out]; omega, by rw [HL.out, HHL.out]; rfl, HW2.out⟩
    case round =>
      clear HW2
      obtain ⟨j, O, hj, rfl, rfl, hacc, hla, hbel⟩ := hrel
      have HW := Lib.hid hbel
      have HLA := Lib.hid hla
      have HAC := Lib.hid hacc
      clear hbel hla hacc
      by_cases hlt : j < n
      · obtain ⟨b, o, rfl, hb, hc⟩ := HR.out (by have := HN.out; omega)
        have hjz : j < zs.length := by rw [HN.out]; exact hlt
        obtain ⟨x, hx⟩ : ∃ x, x = zs[j] := ⟨_, rfl⟩
        have hcc := (HW.out.cell (p := ⟨b, o + j, none⟩) hb).trans (hc j x (by rw [hx]; exact List.getElem?_eq_getElem hjz))
        have hdrop : zs.drop j = x :: zs.drop (j + 1) := by rw [List.drop_eq_getElem_cons hjz, hx]
        have hmem : x ∈ zs := by rw [hx]; exact List.getElem_mem hjz
        cases hlx : num x with
        | error y =>
          have hy := num_err _ _ hlx
          have hr : layAll num zs = .error y := by rw [HLA.out, hdrop, each_error _ _ _ y hlx, ahead_error]
          have hXe : X = ⟨#[]⟩ := by rw [HX.out, hr]; rfl
          have hEe : E = (y : Int) := by rw [HE.out, hr]; rfl
          subst hXe
          subst hEe
          have R1 := Lib.hid (fun u => RN.out x hmem ⟨#[]⟩ (y : Int) (by rw [hlx]; rfl) (by rw [hlx]; rfl) u)
          have hne : ((y : Int) != 0) = true := by simp; omega
          clear hr hlx hdrop hx hc hjz hmem hy
          go_wp2_with fail
          refine (R1.out _).mono ?_
          rintro e w4 ⟨rfl, hb4⟩
          have HW4 := Lib.hid (HW.out.trans (hb4.mono HW.out.size))
          clear hb4 hcc
          go_wp2
          go_ret2
          exact ⟨rfl, HW4.out⟩
        | ok l =>
          have hla : layAll num zs = Prt.ahead (O.data.toList ++ l) (each num (zs.drop (j + 1))) := by rw [HLA.out, hdrop, each_ok _ _ _ l hlx, ahead_ahead]
          have hll := num_size _ _ hlx
          have R1 := Lib.hid (fun u => RN.out x hmem (tx l) 0 (by rw [hlx]; rfl) (by rw [hlx]; rfl) u)
          obtain ⟨Y, hY⟩ : ∃ Y, Y = tx l := ⟨_, rfl⟩
          have hYl : Y.data.toList = l := by rw [hY]
          have hYs : Y.size = l.length := by rw [hY, tx_size]
          rw [← hY] at R1
          rw [← hYl, ← data_append] at hla
          have HLA2 := Lib.hid hla
          have hsz : ¬ 9223372036854775807 < O.size + Y.size := by have := HAC.out; omega
          have hac2 : (O ++ Y).size ≤ 1 + 6002 * (j + 1) := by have := HAC.out; rw [ByteArray.size_append]; omega
          have HAC2 := Lib.hid hac2
          have hne : ((0 : Int) != 0) = false := by simp
          clear hla hlx hdrop hx hc hjz hmem hll hY hYl hYs hac2
          go_wp2_with fail
          refine (R1.out _).mono ?_
          rintro e w4 ⟨rfl, hb4⟩
          have HW4 := Lib.hid (HW.out.trans (hb4.mono HW.out.size))
          clear hb4 hcc
          go_wp2
          go_roundw
          case rel => exact ⟨j + 1, O ++ Y, by omega, by go_num, rfl, HAC2.out, HLA2.out, HW4.out⟩
          case measure => simp [intOf]; omega
      · obtain rfl : j = n := by omega
        have hdr : zs.drop j = [] := List.drop_eq_nil_of_le (by have := HN.out; omega)
        have hr : layAll num zs = .ok O.data.toList := by rw [HLA.out, hdr, each_nil, ahead_ok, List.append_nil]
        have hXe : X = O := by rw [HX.out, hr]; rfl
        have hEe : E = 0 := by rw [HE.out, hr]; rfl
        subst hXe
        subst hEe
        clear hdr hr
        go_wp2
        go_ret2
        exact ⟨rfl, HW.out⟩

set_option maxHeartbeats 3200000 in
theorem readnums_any (s : ByteArray) (p : Int) (w : World) (L : List Nat) (B E : Int) (hL : L = listV (readAll readNum s.data.toList p)) (hB : B = posV (readAll readNum s.data.toList p)) (hE : E = errV (readAll readNum s.data.toList p)) (h1 : -9223372036854775808 ≤ p) (h2 : p ≤ 9223372036854775807) (hs : s.size ≤ 1000000000) :
    Calls Try.prog 60 #[.string s, .int .i64 p] w fun e w' => ∃ ao c, e = .returned (.tuple #[.slice ao L.length c, .int .i64 B, .int .i64 E]) ∧ IntsR w' ao (zl L) ∧ (∀ q, ao = some q → w.heap.size ≤ q.block) ∧ Below w.heap.size w w' := by
  have R := Lib.hid (fun u => counted_any s p u _ _ _ rfl rfl rfl h1 h2 hs)
  cases hr : readHigh s.data.toList p 1 with
  | error x =>
    have hra : readAll readNum s.data.toList p = .error x := by rw [readAll, hr]
    rw [hra] at hL hB hE
    rw [hr] at R
    obtain rfl : L = [] := hL
    obtain rfl : B = 0 := hB
    obtain rfl : E = (x : Int) := hE
    have R1 := Lib.hid (show ∀ u, Calls Try.prog 76 #[.string s, .int .i64 p] u fun e w' => e = .returned (.tuple #[.int .i64 0, .int .i64 0, .int .i64 (x : Int)]) ∧ Below u.heap.size u w' from R.out)
    have hx : ((x : Int) != 0) = true := by
      have := readHigh_err _ _ _ _ hr
      simp
      omega
    clear hr R h1 h2 hra
    go_enter Try.func60, Try.ntmps60
    go_wp2_with fail
    refine (R1.out _).mono ?_
    rintro e w1 ⟨rfl, hb⟩
    go_wp2
    go_ret3
    exact ⟨none, 0, rfl, fun h => absurd rfl h, (fun q hq => by cases hq), hb⟩
  | ok r =>
    obtain ⟨m, q0⟩ := r
    have hra : readAll readNum s.data.toList p = readN (readNum s.data.toList) m q0 := by rw [readAll, hr]
    rw [hra] at hL hB hE
    rw [hr] at R
    have R1 := Lib.hid (show ∀ u, Calls Try.prog 76 #[.string s, .int .i64 p] u fun e w' => e = .returned (.tuple #[.int .i64 (m : Int), .int .i64 (q0 : Int), .int .i64 0]) ∧ Below u.heap.size u w' from R.out)
    obtain ⟨f1, f2, f3, f4, f5⟩ := readHigh_facts _ _ _ _ _ hr
    have hq0 : q0 ≤ 1000000000 := Nat.le_trans f3 hs
    have hm : m ≤ 255 := by omega
    have hx : ((0 : Int) != 0) = false := by simp
    have RD := Lib.hid (fun (q : Nat) (hq : q ≤ 1000000000) (V : Int) (B E : Int) (hV : V = numV (readNum s.data.toList (q : Int))) (hB : B = posV (readNum s.data.toList (q : Int))) (hE : E = errV (readNum s.data.toList (q : Int))) (u : World) => readNum_any s (q : Int) u V B E hV hB hE (by omega) (by omega) hs)
    have HL := Lib.hid hL
    have HB := Lib.hid hB
    have HE := Lib.hid hE
    clear hr R f1 f2 f3 f4 f5 hra hL hB hE h1 h2
    go_enter Try.func60, Try.ntmps60
    go_wp2_with fail
    refine (R1.out _).mono ?_
    rintro e w1 ⟨rfl, hb1⟩
    have HW1 := Lib.hid hb1
    clear hb1
    have HOWN0 := Lib.hid (show w1.ownsRow w.heap.size 3 1 (.slice none 0 0) 0 (Ints.intsV []) from ⟨rfl, .inl ⟨rfl, rfl⟩⟩)
    go_wp2_with fail
    go_loopw [1, 9, 24] (fun at_ v i wr => ∃ (j q : Nat) (acc : List Nat), j ≤ m ∧ q ≤ 1000000000 ∧ i = .int .i64 j ∧ at_ = .int .i64 q ∧ acc.length = j ∧ readN (readNum s.data.toList) m q0 = front acc (readN (readNum s.data.toList) (m - j) q) ∧ wr.ownsRow w.heap.size 3 1 v j (Ints.intsV acc) ∧ Below w.heap.size w wr) (fun _ _ i _ => m - (intOf i).toNat)
    case atStart => exact ⟨0, q0, [], by omega, hq0, rfl, rfl, rfl, by rw [Nat.sub_zero, front_nil], HOWN0.out, HW1.out⟩
    case round =>
      clear HOWN0 HW1
      obtain ⟨j, q, acc, hj, hq, rfl, rfl, hacc, hrd, hrow, hbel⟩ := hrel
      have HW := Lib.hid hbel
      have HRD := Lib.hid hrd
      have HAC := Lib.hid hacc
      have HOWN := Lib.hid hrow
      clear hbel hrd hacc hrow
      by_cases hlt : j < m
      · obtain ⟨d, hd⟩ : ∃ d, m - j = d + 1 := ⟨m - j - 1, by omega⟩
        cases hrx : readNum s.data.toList (q : Int) with
        | error y =>
          have hy := readNum_err _ _ _ hrx
          have hra : readN (readNum s.data.toList) m q0 = .error y := by
            rw [HRD.out, hd, readN_error _ _ _ y hrx]
            rfl
          have hLe : L = [] := by rw [HL.out, hra]; rfl
          have hBe : B = 0 := by rw [HB.out, hra]; rfl
          have hEe : E = (y : Int) := by rw [HE.out, hra]; rfl
          subst hLe
          subst hBe
          subst hEe
          have R2 := Lib.hid (fun u => RD.out q hq (0) 0 (y : Int) (by rw [hrx]; rfl) (by rw [hrx]; rfl) (by rw [hrx]; rfl) u)
          have hne : ((y : Int) != 0) = true := by simp; omega
          clear hra hrx hd hy
          go_wp2_with fail
          refine (R2.out _).mono ?_
          rintro e w4 ⟨rfl, hb4⟩
          have HW4 := Lib.hid (HW.out.trans (hb4.mono HW.out.size))
          clear hb4
          go_wp2
          go_ret3
          exact ⟨none, 0, rfl, fun h => absurd rfl h, (fun q hq => by cases hq), HW4.out⟩
        | ok r =>
          obtain ⟨x, q1⟩ := r
          have hq1 : q1 ≤ 1000000000 := Nat.le_trans (readNum_place _ _ _ _ hrx) hs
          have hra : readN (readNum s.data.toList) m q0 = front (acc ++ [x]) (readN (readNum s.data.toList) (m - (j + 1)) q1) := by
            have e : m - (j + 1) = d := by omega
            rw [HRD.out, hd, readN_ok _ _ _ q1 x hrx, front_front, e]
          have R2 := Lib.hid (fun u => RD.out q hq ((x : Int)) (q1 : Int) 0 (by rw [hrx]; rfl) (by rw [hrx]; rfl) (by rw [hrx]; rfl) u)
          have hsn := zl_snoc acc x
          have HSN := Lib.hid hsn
          have HRA := Lib.hid hra
          have HAC2 := Lib.hid (show (acc ++ [x]).length = j + 1 by rw [List.length_append, HAC.out]; rfl)
          have hne : ((0 : Int) != 0) = false := by simp
          clear hra hrx hd hsn
          go_wp2_with fail
          refine (R2.out _).mono ?_
          rintro e w2 ⟨rfl, hb2⟩
          have HOWN2 := Lib.hid (Strs.own_below HOWN.out hb2)
          have HW2 := Lib.hid (HW.out.trans (hb2.mono HW.out.size))
          clear hb2 HOWN HW
          go_wp2_with (at_builtin; refine Ints.append_ints rfl _ _ rfl w.heap.size j _ (acc) rfl (HOWN2.out.alloc _) w2.heap.size 1 1 [x] rfl rfl (ints_one _ _ _) (by omega) (Nat.le_trans HW2.out.size (by simp)) ?_)
          intro v' w3 hown3 hgrow3
          have HW3 := Lib.hid ((HW2.out.alloc HW2.out.size (.cells #[Value.int .i64 (x : Int)] 3)).grown hgrow3 (Nat.le_trans HW2.out.size (by simp)) (fun j hj => (HOWN2.out.lt j hj).1))
          have HOWN3 := Lib.hid hown3
          clear hown3 hgrow3 HOWN2 HW2
          go_wp2
          go_roundw
          case rel => exact ⟨j + 1, q1, acc ++ [x], by omega, hq1, by go_num, rfl, HAC2.out, HRA.out, HOWN3.out, HW3.out⟩
          case measure => simp [intOf]; omega
      · obtain rfl : j = m := by omega
        have hra : readN (readNum s.data.toList) j q0 = .ok (acc, q) := by
          rw [HRD.out, Nat.sub_self, readN_zero]
          show Except.ok (acc ++ [], q) = _
          rw [List.append_nil]
        have hLe : L = acc := by rw [HL.out, hra]; rfl
        have hBe : B = (q : Int) := by rw [HB.out, hra]; rfl
        have hEe : E = 0 := by rw [HE.out, hra]; rfl
        subst hLe
        subst hBe
        subst hEe
        obtain ⟨ao, c, hv, hR, hF⟩ := own_ints HOWN.out
        subst hv
        have HR := Lib.hid hR
        have HF := Lib.hid hF
        clear hra hR hF HOWN
        go_wp2
        go_ret3
        exact ⟨ao, c, rfl, HR.out, HF.out, HW.out⟩

set_option maxHeartbeats 3200000 in
theorem strs_any (zs : List ByteArray) (n : Nat) (a : Option Addr) (cap : Nat) (w : World) (X : ByteArray) (E : Int) (hX : X = layX (layAll strB zs)) (hE : E = errV (layAll strB zs)) (hr : StrsR w a zs) (hn : zs.length = n) (hn2 : n ≤ 1000000) (hz : ∀ z ∈ zs, z.size ≤ 9223372036854775807) :
    Calls Try.prog 40 #[.slice a n cap] w fun e w' => e = .returned (.tuple #[.string X, .int .i64 E]) ∧ Below w.heap.size w w' := by
  by_cases hm : 255 < n
  · have hl : layAll strB zs = .error 4 := by rw [layAll, if_pos (by rw [hn]; exact hm)]
    rw [hl] at hX hE
    obtain rfl : X = ⟨#[]⟩ := hX
    obtain rfl : E = 4 := hE
    have hd : decide (255 < (n : Int)) = true := decide_eq_true (by omega)
    clear hl hr hz
    go_enter Try.func40, Try.ntmps40
    go_wp2
    go_ret2
    exact ⟨rfl, Below.refl _ _⟩
  · have hl : layAll strB zs = Prt.ahead (high n 1) (each strB zs) := by rw [layAll, if_neg (by rw [hn]; exact hm), hn]
    obtain ⟨H, hH⟩ : ∃ H : ByteArray, H = tx (high n 1) := ⟨_, rfl⟩
    have hHs : H.size = 1 := by rw [hH, tx_size, high_length]
    have hHl : H.data.toList = high n 1 := by rw [hH]
    have R := Lib.hid (show ∀ u, Calls Try.prog 69 #[.int .u64 (n : Int), .int .i64 1] u fun e w' => e = .returned (.string H) ∧ Below u.heap.size u w' from fun u => by
      rw [hH]
      exact RefOne.high_any n 1 u (by omega) (by omega) (by omega))
    have RN := Lib.hid (fun (x : ByteArray) (hx : x ∈ zs) (Y : ByteArray) (F : Int) (hY : Y = layX (strB x)) (hF : F = errV (strB x)) (u : World) => str_any x u Y F hY hF (hz x hx))
    have hw : IntKind.u64.wrap (n : Int) = (n : Int) := by rw [IntKind.wrap_u64]; omega
    have hd : decide (255 < (n : Int)) = false := decide_eq_false (by omega)
    have hd2 : decide (255 < n) = false := decide_eq_false (by omega)
    have HL := Lib.hid hl
    have HX := Lib.hid hX
    have HE := Lib.hid hE
    have HR := Lib.hid hr
    have HN := Lib.hid hn
    have HHL := Lib.hid hHl
    have HHS := Lib.hid hHs
    clear hl hX hE hr hn hz hH hHs hHl
    go_enter Try.func40, Try.ntmps40
    go_wp2_with fail
    refine (R.out _).mono ?_
    rintro e w2 ⟨rfl, hb2⟩
    have HW2 := Lib.hid hb2
    clear hb2 hw
    go_wp2_with fail
    go_loopw [4, 18] (fun ov i wr => ∃ (j : Nat) (O : ByteArray), j ≤ n ∧ i = .int .i64 j ∧ ov = .string O ∧ O.size ≤ 1 + 6002 * j ∧ layAll strB zs = Prt.ahead O.data.toList (each strB (zs.drop j)) ∧ Below w.heap.size w wr) (fun _ i _ => n - (intOf i).toNat)
    case atStart => exact ⟨0, H, by omega, rfl, rfl, by rw [HHS.out]; omega, by rw [HL.out, HHL.out]; rfl, HW2.out⟩
    case round =>
      clear HW2
      obtain ⟨j, O, hj, rfl, rfl, hacc, hla, hbel⟩ := hrel
      have HW := Lib.hid hbel
      have HLA := Lib.hid hla
      have HAC := Lib.hid hacc
      clear hbel hla hacc
      by_cases hlt : j < n
      · obtain ⟨b, o, rfl, hb, hc⟩ := HR.out (by have := HN.out; omega)
        have hjz : j < zs.length := by rw [HN.out]; exact hlt
        obtain ⟨x, hx⟩ : ∃ x, x = zs[j] := ⟨_, rfl⟩
        have hcc := (HW.out.cell (p := ⟨b, o + j, none⟩) hb).trans (hc j x (by rw [hx]; exact List.getElem?_eq_getElem hjz))
        have hdrop : zs.drop j = x :: zs.drop (j + 1) := by rw [List.drop_eq_getElem_cons hjz, hx]
        have hmem : x ∈ zs := by rw [hx]; exact List.getElem_mem hjz
        cases hlx : strB x with
        | error y =>
          have hy := str_err _ _ hlx
          have hr : layAll strB zs = .error y := by rw [HLA.out, hdrop, each_error _ _ _ y hlx, ahead_error]
          have hXe : X = ⟨#[]⟩ := by rw [HX.out, hr]; rfl
          have hEe : E = (y : Int) := by rw [HE.out, hr]; rfl
          subst hXe
          subst hEe
          have R1 := Lib.hid (fun u => RN.out x hmem ⟨#[]⟩ (y : Int) (by rw [hlx]; rfl) (by rw [hlx]; rfl) u)
          have hne : ((y : Int) != 0) = true := by simp; omega
          clear hr hlx hdrop hx hc hjz hmem hy
          go_wp2_with fail
          refine (R1.out _).mono ?_
          rintro e w4 ⟨rfl, hb4⟩
          have HW4 := Lib.hid (HW.out.trans (hb4.mono HW.out.size))
          clear hb4 hcc
          go_wp2
          go_ret2
          exact ⟨rfl, HW4.out⟩
        | ok l =>
          have hla : layAll strB zs = Prt.ahead (O.data.toList ++ l) (each strB (zs.drop (j + 1))) := by rw [HLA.out, hdrop, each_ok _ _ _ l hlx, ahead_ahead]
          have hll := str_length _ _ hlx
          have R1 := Lib.hid (fun u => RN.out x hmem (tx l) 0 (by rw [hlx]; rfl) (by rw [hlx]; rfl) u)
          obtain ⟨Y, hY⟩ : ∃ Y, Y = tx l := ⟨_, rfl⟩
          have hYl : Y.data.toList = l := by rw [hY]
          have hYs : Y.size = l.length := by rw [hY, tx_size]
          rw [← hY] at R1
          rw [← hYl, ← data_append] at hla
          have HLA2 := Lib.hid hla
          have hsz : ¬ 9223372036854775807 < O.size + Y.size := by have := HAC.out; omega
          have hac2 : (O ++ Y).size ≤ 1 + 6002 * (j + 1) := by have := HAC.out; rw [ByteArray.size_append]; omega
          have HAC2 := Lib.hid hac2
          have hne : ((0 : Int) != 0) = false := by simp
          clear hla hlx hdrop hx hc hjz hmem hll hY hYl hYs hac2
          go_wp2_with fail
          refine (R1.out _).mono ?_
          rintro e w4 ⟨rfl, hb4⟩
          have HW4 := Lib.hid (HW.out.trans (hb4.mono HW.out.size))
          clear hb4 hcc
          go_wp2
          go_roundw
          case rel => exact ⟨j + 1, O ++ Y, by omega, by go_num, rfl, HAC2.out, HLA2.out, HW4.out⟩
          case measure => simp [intOf]; omega
      · obtain rfl : j = n := by omega
        have hdr : zs.drop j = [] := List.drop_eq_nil_of_le (by have := HN.out; omega)
        have hr : layAll strB zs = .ok O.data.toList := by rw [HLA.out, hdr, each_nil, ahead_ok, List.append_nil]
        have hXe : X = O := by rw [HX.out, hr]; rfl
        have hEe : E = 0 := by rw [HE.out, hr]; rfl
        subst hXe
        subst hEe
        clear hdr hr
        go_wp2
        go_ret2
        exact ⟨rfl, HW.out⟩

set_option maxHeartbeats 3200000 in
theorem readstrs_any (s : ByteArray) (p : Int) (w : World) (L : List (List UInt8)) (B E : Int) (hL : L = listV (readAll readStr s.data.toList p)) (hB : B = posV (readAll readStr s.data.toList p)) (hE : E = errV (readAll readStr s.data.toList p)) (h1 : -9223372036854775808 ≤ p) (h2 : p ≤ 9223372036854775807) (hs : s.size ≤ 1000000000) :
    Calls Try.prog 65 #[.string s, .int .i64 p] w fun e w' => ∃ ao c, e = .returned (.tuple #[.slice ao L.length c, .int .i64 B, .int .i64 E]) ∧ StrsR w' ao (tl L) ∧ (∀ q, ao = some q → w.heap.size ≤ q.block) ∧ Below w.heap.size w w' := by
  have R := Lib.hid (fun u => counted_any s p u _ _ _ rfl rfl rfl h1 h2 hs)
  cases hr : readHigh s.data.toList p 1 with
  | error x =>
    have hra : readAll readStr s.data.toList p = .error x := by rw [readAll, hr]
    rw [hra] at hL hB hE
    rw [hr] at R
    obtain rfl : L = [] := hL
    obtain rfl : B = 0 := hB
    obtain rfl : E = (x : Int) := hE
    have R1 := Lib.hid (show ∀ u, Calls Try.prog 76 #[.string s, .int .i64 p] u fun e w' => e = .returned (.tuple #[.int .i64 0, .int .i64 0, .int .i64 (x : Int)]) ∧ Below u.heap.size u w' from R.out)
    have hx : ((x : Int) != 0) = true := by
      have := readHigh_err _ _ _ _ hr
      simp
      omega
    clear hr R h1 h2 hra
    go_enter Try.func65, Try.ntmps65
    go_wp2_with fail
    refine (R1.out _).mono ?_
    rintro e w1 ⟨rfl, hb⟩
    go_wp2
    go_ret3
    exact ⟨none, 0, rfl, fun h => absurd rfl h, (fun q hq => by cases hq), hb⟩
  | ok r =>
    obtain ⟨m, q0⟩ := r
    have hra : readAll readStr s.data.toList p = readN (readStr s.data.toList) m q0 := by rw [readAll, hr]
    rw [hra] at hL hB hE
    rw [hr] at R
    have R1 := Lib.hid (show ∀ u, Calls Try.prog 76 #[.string s, .int .i64 p] u fun e w' => e = .returned (.tuple #[.int .i64 (m : Int), .int .i64 (q0 : Int), .int .i64 0]) ∧ Below u.heap.size u w' from R.out)
    obtain ⟨f1, f2, f3, f4, f5⟩ := readHigh_facts _ _ _ _ _ hr
    have hq0 : q0 ≤ 1000000000 := Nat.le_trans f3 hs
    have hm : m ≤ 255 := by omega
    have hx : ((0 : Int) != 0) = false := by simp
    have RD := Lib.hid (fun (q : Nat) (hq : q ≤ 1000000000) (V : ByteArray) (B E : Int) (hV : V = strV (readStr s.data.toList (q : Int))) (hB : B = posV (readStr s.data.toList (q : Int))) (hE : E = errV (readStr s.data.toList (q : Int))) (u : World) => readStr_any s (q : Int) u V B E hV hB hE (by omega) (by omega) hs)
    have HL := Lib.hid hL
    have HB := Lib.hid hB
    have HE := Lib.hid hE
    clear hr R f1 f2 f3 f4 f5 hra hL hB hE h1 h2
    go_enter Try.func65, Try.ntmps65
    go_wp2_with fail
    refine (R1.out _).mono ?_
    rintro e w1 ⟨rfl, hb1⟩
    have HW1 := Lib.hid hb1
    clear hb1
    have HOWN0 := Lib.hid (show w1.ownsRow w.heap.size 9 1 (.slice none 0 0) 0 (Strs.strsV (tl [])) from ⟨rfl, .inl ⟨rfl, rfl⟩⟩)
    go_wp2_with fail
    go_loopw [1, 9, 24] (fun at_ v i wr => ∃ (j q : Nat) (acc : List (List UInt8)), j ≤ m ∧ q ≤ 1000000000 ∧ i = .int .i64 j ∧ at_ = .int .i64 q ∧ acc.length = j ∧ readN (readStr s.data.toList) m q0 = front acc (readN (readStr s.data.toList) (m - j) q) ∧ wr.ownsRow w.heap.size 9 1 v j (Strs.strsV (tl acc)) ∧ Below w.heap.size w wr) (fun _ _ i _ => m - (intOf i).toNat)
    case atStart => exact ⟨0, q0, [], by omega, hq0, rfl, rfl, rfl, by rw [Nat.sub_zero, front_nil], HOWN0.out, HW1.out⟩
    case round =>
      clear HOWN0 HW1
      obtain ⟨j, q, acc, hj, hq, rfl, rfl, hacc, hrd, hrow, hbel⟩ := hrel
      have HW := Lib.hid hbel
      have HRD := Lib.hid hrd
      have HAC := Lib.hid hacc
      have HOWN := Lib.hid hrow
      clear hbel hrd hacc hrow
      by_cases hlt : j < m
      · obtain ⟨d, hd⟩ : ∃ d, m - j = d + 1 := ⟨m - j - 1, by omega⟩
        cases hrx : readStr s.data.toList (q : Int) with
        | error y =>
          have hy := readStr_err _ _ _ hrx
          have hra : readN (readStr s.data.toList) m q0 = .error y := by
            rw [HRD.out, hd, readN_error _ _ _ y hrx]
            rfl
          have hLe : L = [] := by rw [HL.out, hra]; rfl
          have hBe : B = 0 := by rw [HB.out, hra]; rfl
          have hEe : E = (y : Int) := by rw [HE.out, hra]; rfl
          subst hLe
          subst hBe
          subst hEe
          have R2 := Lib.hid (fun u => RD.out q hq (⟨#[]⟩) 0 (y : Int) (by rw [hrx]; rfl) (by rw [hrx]; rfl) (by rw [hrx]; rfl) u)
          have hne : ((y : Int) != 0) = true := by simp; omega
          clear hra hrx hd hy
          go_wp2_with fail
          refine (R2.out _).mono ?_
          rintro e w4 ⟨rfl, hb4⟩
          have HW4 := Lib.hid (HW.out.trans (hb4.mono HW.out.size))
          clear hb4
          go_wp2
          go_ret3
          exact ⟨none, 0, rfl, fun h => absurd rfl h, (fun q hq => by cases hq), HW4.out⟩
        | ok r =>
          obtain ⟨x, q1⟩ := r
          have hq1 : q1 ≤ 1000000000 := Nat.le_trans (readStr_place _ _ _ _ hrx) hs
          have hra : readN (readStr s.data.toList) m q0 = front (acc ++ [x]) (readN (readStr s.data.toList) (m - (j + 1)) q1) := by
            have e : m - (j + 1) = d := by omega
            rw [HRD.out, hd, readN_ok _ _ _ q1 x hrx, front_front, e]
          have R2 := Lib.hid (fun u => RD.out q hq (tx x) (q1 : Int) 0 (by rw [hrx]; rfl) (by rw [hrx]; rfl) (by rw [hrx]; rfl) u)
          have hsn := tl_snoc acc x
          obtain ⟨T, hT⟩ : ∃ T, T = tx x := ⟨_, rfl⟩
          rw [← hT] at R2 hsn
          clear hT
          have HSN := Lib.hid hsn
          have HRA := Lib.hid hra
          have HAC2 := Lib.hid (show (acc ++ [x]).length = j + 1 by rw [List.length_append, HAC.out]; rfl)
          have hne : ((0 : Int) != 0) = false := by simp
          clear hra hrx hd hsn
          go_wp2_with fail
          refine (R2.out _).mono ?_
          rintro e w2 ⟨rfl, hb2⟩
          have HOWN2 := Lib.hid (Strs.own_below HOWN.out hb2)
          have HW2 := Lib.hid (HW.out.trans (hb2.mono HW.out.size))
          clear hb2 HOWN HW
          go_wp2_with (at_builtin; refine Strs.append_strs rfl _ _ rfl w.heap.size j _ (tl acc) rfl (HOWN2.out.alloc _) w2.heap.size 1 1 [T] rfl rfl (Strs.new_one _ _ _) (by omega) (Nat.le_trans HW2.out.size (by simp)) ?_)
          intro v' w3 hown3 hgrow3
          have HW3 := Lib.hid ((HW2.out.alloc HW2.out.size (.cells #[Value.string T] 9)).grown hgrow3 (Nat.le_trans HW2.out.size (by simp)) (fun j hj => (HOWN2.out.lt j hj).1))
          rw [← HSN.out] at hown3
          have HOWN3 := Lib.hid hown3
          clear hown3 hgrow3 HOWN2 HW2
          go_wp2
          go_roundw
          case rel => exact ⟨j + 1, q1, acc ++ [x], by omega, hq1, by go_num, rfl, HAC2.out, HRA.out, HOWN3.out, HW3.out⟩
          case measure => simp [intOf]; omega
      · obtain rfl : j = m := by omega
        have hra : readN (readStr s.data.toList) j q0 = .ok (acc, q) := by
          rw [HRD.out, Nat.sub_self, readN_zero]
          show Except.ok (acc ++ [], q) = _
          rw [List.append_nil]
        have hLe : L = acc := by rw [HL.out, hra]; rfl
        have hBe : B = (q : Int) := by rw [HB.out, hra]; rfl
        have hEe : E = 0 := by rw [HE.out, hra]; rfl
        subst hLe
        subst hBe
        subst hEe
        obtain ⟨ao, c, hv, hR, hF⟩ := own_strs HOWN.out
        subst hv
        have HR := Lib.hid hR
        have HF := Lib.hid hF
        clear hra hR hF HOWN
        go_wp2
        go_ret3
        exact ⟨ao, c, rfl, HR.out, HF.out, HW.out⟩
end Go.Proofs.Ytlinpbmglcjkkaa.RPrt
