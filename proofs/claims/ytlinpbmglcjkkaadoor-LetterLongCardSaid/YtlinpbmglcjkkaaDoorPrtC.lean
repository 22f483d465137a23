/-
  Nums and Strs of package parts, and the generic function by which both go, answer what the plain mathematics of the text Prt says, and leave all memory that was there as it was. Conditions: that numbers and lengths fit; no more than 1000000 in a list.
-/
import Derived.Test.YtlinpbmglcjkkaaDoorPrtB
import Derived.Test.YtlinpbmglcjkkaaDoorUseW
import Derived.Test.YtlinpbmglcjkkaaDoorUseKeepW
import Derived.Deep.Cut
namespace Go.Proofs.YtlinpbmglcjkkaaDoor.Prt
open Go.RowKit Mur Lanes
set_option maxRecDepth 100000

/-- Slices of numbers and of texts, as they are read. -/
def IntsR (w : World) (a : Option Addr) (l : List Int) : Prop := l.length ≠ 0 → ∃ b o, a = some ⟨b, o, none⟩ ∧ b < w.heap.size ∧ ∀ i x, l[i]? = some x → w.cell? ⟨b, o + i, none⟩ = some (.int .i64 x)
theorem IntsR.below {w w' : World} {a : Option Addr} {l : List Int} (h : IntsR w a l) (k : Below w.heap.size w w') : IntsR w' a l := fun hl => by
  obtain ⟨b, o, ha, hb, hc⟩ := h hl
  exact ⟨b, o, ha, Nat.lt_of_lt_of_le hb k.size, fun i x hx => (k.cell (p := ⟨b, o + i, none⟩) hb).trans (hc i x hx)⟩
def StrsR (w : World) (a : Option Addr) (l : List ByteArray) : Prop := l.length ≠ 0 → ∃ b o, a = some ⟨b, o, none⟩ ∧ b < w.heap.size ∧ ∀ i x, l[i]? = some x → w.cell? ⟨b, o + i, none⟩ = some (.string x)
theorem StrsR.below {w w' : World} {a : Option Addr} {l : List ByteArray} (h : StrsR w a l) (k : Below w.heap.size w w') : StrsR w' a l := fun hl => by
  obtain ⟨b, o, ha, hb, hc⟩ := h hl
  exact ⟨b, o, ha, Nat.lt_of_lt_of_le hb k.size, fun i x hx => (k.cell (p := ⟨b, o + i, none⟩) hb).trans (hc i x hx)⟩
/-- A text, laid. -/
def strB (s : ByteArray) : Except Nat (List UInt8) := str s.data.toList
theorem errV_error {α : Type} (e : Nat) : errV (Except.error e : Except Nat α) = (e : Int) := rfl
theorem num_size (n : Int) (l : List UInt8) (h : num n = .ok l) : l.length ≤ 6002 := by have := num_length n l h; omega

set_option maxHeartbeats 3200000 in
theorem layNums_any (zs : List Int) (n : Nat) (a : Option Addr) (cap : Nat) (w : World) (X : ByteArray) (E : Int) (hX : X = layX (layAll num zs)) (hE : E = errV (layAll num zs)) (hr : IntsR w a zs) (hn : zs.length = n) (hn2 : n ≤ 1000000) (hz : ∀ z ∈ zs, -9223372036854775808 ≤ z ∧ z ≤ 9223372036854775807) :
    Calls Tryd.prog 60 #[.slice a n cap, .func (.func 55) #[] #[]] w fun e w' => e = .returned (.tuple #[.string X, .int .i64 E]) ∧ Below w.heap.size w w' := by
  by_cases hm : 255 < n
  · have hl : layAll num zs = .error 4 := by rw [layAll, if_pos (by rw [hn]; exact hm)]
    rw [hl] at hX hE
    obtain rfl : X = ⟨#[]⟩ := hX
    obtain rfl : E = 4 := hE
    have hd : decide (255 < (n : Int)) = true := decide_eq_true (by omega)
    clear hl hr hz
    go_enter Tryd.func60, Tryd.ntmps60
    go_wp2
    go_ret2
    exact ⟨rfl, Below.refl _ _⟩
  · have hl : layAll num zs = ahead (high n 1) (each num zs) := by rw [layAll, if_neg (by rw [hn]; exact hm), hn]
    obtain ⟨H, hH⟩ : ∃ H : ByteArray, H = tx (high n 1) := ⟨_, rfl⟩
    have hHs : H.size = 1 := by rw [hH, tx_size, high_length]
    have hHl : H.data.toList = high n 1 := by rw [hH]
    have R := Lib.hid (show ∀ u, Calls Tryd.prog 59 #[.int .u64 (n : Int), .int .i64 1] u fun e w' => e = .returned (.string H) ∧ Below u.heap.size u w' from fun u => by
      rw [hH]
      exact high_any n 1 u (by omega) (by omega) (by omega))
    have RN := Lib.hid (fun (x : Int) (hx : x ∈ zs) (Y : ByteArray) (F : Int) (hY : Y = layX (num x)) (hF : F = errV (num x)) (u : World) => num_any x u Y F hY hF (hz x hx).1 (hz x hx).2)
    have hw : IntKind.u64.wrap (n : Int) = (n : Int) := by rw [IntKind.wrap_u64]; omega
    have hd : decide (255 < (n : Int)) = false := decide_eq_false (by omega)
    have hd2 : decide (255 < n) = false := decide_eq_false (by omega)
    have HL := Lib.hid hl
    have HX := Lib.hid hX
    have HE := Lib.hid hE
    have HR := Lib.hid hr
    have HN := Lib.hid hn
    have HHL := Lib.hid hHl
    have HHS := Lib.hid hHs
    clear hl hX hE hr hn hz hH hHs hHl
    go_enter Tryd.func60, Tryd.ntmps60
    go_upto_region 4 with (fail)
    have HBU := Lib.hid (Use.builder_new w.heap.size w.heap.size _ (Nat.le_refl _) (_root_.Go.heap_alloc_new w (.cells #[.pointer none, .slice none 0 0] 116)))
    have HW := Lib.hid ((Below.refl w.heap.size w).alloc (Nat.le_refl _) (.cells #[.pointer none, .slice none 0 0] 116))
    generalize w.alloc (.cells #[.pointer none, .slice none 0 0] 116) = w1 at *
    go_wp2_with fail
    refine (R.out _).mono ?_
    rintro e w2 ⟨rfl, hb2⟩
    have HBU2 := Lib.hid (isBuilder_below HBU.out hb2)
    have HW2 := Lib.hid (HW.out.trans (hb2.mono HW.out.size))
    clear hb2 HBU HW
    go_wp2_with fail
    refine (Use.write_any w.heap.size w.heap.size [] H _ HBU2.out (by rw [HHS.out]; decide) HW2.out.size).mono ?_
    rintro e w3 ⟨rfl, hbu3, hb3⟩
    rw [List.nil_append, HHL.out] at hbu3
    have HBU3 := Lib.hid hbu3
    have HW3 := Lib.hid (HW2.out.trans hb3)
    clear hbu3 hb3 HBU2 HW2 hw
    go_wp2_with fail
    go_loopw [22] (fun i wr => ∃ (j : Nat) (acc : List UInt8), j ≤ n ∧ i = .int .i64 j ∧ acc.length ≤ 1 + 6002 * j ∧ layAll num zs = ahead acc (each num (zs.drop j)) ∧ Lib.IsBuilder 116 5 w.heap.size w.heap.size (Lib.byteCells acc) wr ∧ Below w.heap.size w wr) (fun i _ => n - (intOf i).toNat)
    case atStart => exact ⟨0, high n 1, by omega, rfl, by rw [high_length]; omega, by rw [HL.out]; rfl, HBU3.out, HW3.out⟩
    case round =>
      clear HBU3 HW3
      obtain ⟨j, acc, hj, rfl, hacc, hla, hbu, hbel⟩ := hrel
      have HBU := Lib.hid hbu
      have HW := Lib.hid hbel
      have HLA := Lib.hid hla
      have HAC := Lib.hid hacc
      clear hbu hbel hla hacc
      by_cases hlt : j < n
      · obtain ⟨b, o, rfl, hb, hc⟩ := HR.out (by have := HN.out; omega)
        have hjz : j < zs.length := by rw [HN.out]; exact hlt
        obtain ⟨x, hx⟩ : ∃ x, x = zs[j] := ⟨_, rfl⟩
        have hcc := (HW.out.cell (p := ⟨b, o + j, none⟩) hb).trans (hc j x (by rw [hx]; exact List.getElem?_eq_getElem hjz))
        have hdrop : zs.drop j = x :: zs.drop (j + 1) := by rw [List.drop_eq_getElem_cons hjz, hx]
        have hmem : x ∈ zs := by rw [hx]; exact List.getElem_mem hjz
        cases hlx : num x with
        | error y =>
          have hy := num_err _ _ hlx
          have hr : layAll num zs = .error y := by rw [HLA.out, hdrop, each_error _ _ _ y hlx, ahead_error]
          have hXe : X = ⟨#[]⟩ := by rw [HX.out, hr]; rfl
          have hEe : E = (y : Int) := by rw [HE.out, hr]; rfl
          subst hXe
          subst hEe
          have R1 := Lib.hid (fun u => RN.out x hmem ⟨#[]⟩ (y : Int) (by rw [hlx]; rfl) (by rw [hlx]; rfl) u)
          have hne : ((y : Int) != 0) = true := by simp; omega
          clear hr hlx hdrop hx hc hjz hmem hy
          go_wp2_with fail
          refine (R1.out _).mono ?_
          rintro e w4 ⟨rfl, hb4⟩
          have HW4 := Lib.hid (HW.out.trans (hb4.mono HW.out.size))
          clear hb4 hcc
          go_wp2
          go_ret2
          exact ⟨rfl, HW4.out⟩
        | ok l =>
          have hla : layAll num zs = ahead (acc ++ l) (each num (zs.drop (j + 1))) := by rw [HLA.out, hdrop, each_ok _ _ _ l hlx, ahead_ahead]
          have hll := num_size _ _ hlx
          have R1 := Lib.hid (fun u => RN.out x hmem (tx l) 0 (by rw [hlx]; rfl) (by rw [hlx]; rfl) u)
          obtain ⟨Y, hY⟩ : ∃ Y, Y = tx l := ⟨_, rfl⟩
          have hYl : Y.data.toList = l := by rw [hY]
          have hYs : Y.size = l.length := by rw [hY, tx_size]
          rw [← hY] at R1
          have HLA2 := Lib.hid hla
          have HYL := Lib.hid hYl
          have hsz : acc.length + Y.size ≤ 140737488355328 := by have := HAC.out; omega
          have hac2 : (acc ++ l).length ≤ 1 + 6002 * (j + 1) := by have := HAC.out; rw [List.length_append]; omega
          have HSZ := Lib.hid hsz
          have HAC2 := Lib.hid hac2
          have hne : ((0 : Int) != 0) = false := by simp
          clear hla hlx hdrop hx hc hjz hmem hll hY hYl hYs hsz hac2
          go_wp2_with fail
          refine (R1.out _).mono ?_
          rintro e w4 ⟨rfl, hb4⟩
          have HBU4 := Lib.hid (isBuilder_below HBU.out hb4)
          have HW4 := Lib.hid (HW.out.trans (hb4.mono HW.out.size))
          clear hb4 hcc
          go_wp2_with fail
          refine (Use.write_any w.heap.size w.heap.size acc Y _ HBU4.out HSZ.out HW4.out.size).mono ?_
          rintro e w5 ⟨rfl, hbu5, hb5⟩
          rw [HYL.out] at hbu5
          have HBU5 := Lib.hid hbu5
          have HW5 := Lib.hid (HW4.out.trans hb5)
          clear hbu5 hb5
          go_wp2
          go_roundw
          case rel => exact ⟨j + 1, acc ++ l, by omega, by go_num, HAC2.out, HLA2.out, HBU5.out, HW5.out⟩
          case measure => simp [intOf]; omega
      · obtain rfl : j = n := by omega
        have hdr : zs.drop j = [] := List.drop_eq_nil_of_le (by have := HN.out; omega)
        have hr : layAll num zs = .ok acc := by rw [HLA.out, hdr, each_nil, ahead_ok, List.append_nil]
        have hXe : X = tx acc := by rw [HX.out, hr]; rfl
        have hEe : E = 0 := by rw [HE.out, hr]; rfl
        subst hXe
        subst hEe
        clear hdr hr
        go_wp2_with fail
        refine (Use.string_any w.heap.size w.heap.size acc _ HBU.out HW.out.size).mono ?_
        rintro e w4 ⟨rfl, hb4⟩
        have HW4 := Lib.hid (HW.out.trans hb4)
        clear hb4
        go_wp2
        go_ret2
        exact ⟨rfl, HW4.out⟩

theorem nums_any (zs : List Int) (n : Nat) (a : Option Addr) (cap : Nat) (w : World) (X : ByteArray) (E : Int) (hX : X = layX (layAll num zs)) (hE : E = errV (layAll num zs)) (hr : IntsR w a zs) (hn : zs.length = n) (hn2 : n ≤ 1000000) (hz : ∀ z ∈ zs, -9223372036854775808 ≤ z ∧ z ≤ 9223372036854775807) :
    Calls Tryd.prog 54 #[.slice a n cap] w fun e w' => e = .returned (.tuple #[.string X, .int .i64 E]) ∧ Below w.heap.size w w' := by
  have R := Lib.hid (layNums_any zs n a cap w X E hX hE hr hn hn2 hz)
  clear hX hE hr hn hz
  go_enter Tryd.func54, Tryd.ntmps54
  go_wp2_with fail
  refine R.out.mono ?_
  rintro e w1 ⟨rfl, hb⟩
  go_wp2
  go_ret2
  exact ⟨rfl, hb⟩

set_option maxHeartbeats 3200000 in
theorem layStrs_any (zs : List ByteArray) (n : Nat) (a : Option Addr) (cap : Nat) (w : World) (X : ByteArray) (E : Int) (hX : X = layX (layAll strB zs)) (hE : E = errV (layAll strB zs)) (hr : StrsR w a zs) (hn : zs.length = n) (hn2 : n ≤ 1000000) (hz : ∀ z ∈ zs, z.size ≤ 9223372036854775807) :
    Calls Tryd.prog 61 #[.slice a n cap, .func (.func 51) #[] #[]] w fun e w' => e = .returned (.tuple #[.string X, .int .i64 E]) ∧ Below w.heap.size w w' := by
  by_cases hm : 255 < n
  · have hl : layAll strB zs = .error 4 := by rw [layAll, if_pos (by rw [hn]; exact hm)]
    rw [hl] at hX hE
    obtain rfl : X = ⟨#[]⟩ := hX
    obtain rfl : E = 4 := hE
    have hd : decide (255 < (n : Int)) = true := decide_eq_true (by omega)
    clear hl hr hz
    go_enter Tryd.func61, Tryd.ntmps61
    go_wp2
    go_ret2
    exact ⟨rfl, Below.refl _ _⟩
  · have hl : layAll strB zs = ahead (high n 1) (each strB zs) := by rw [layAll, if_neg (by rw [hn]; exact hm), hn]
    obtain ⟨H, hH⟩ : ∃ H : ByteArray, H = tx (high n 1) := ⟨_, rfl⟩
    have hHs : H.size = 1 := by rw [hH, tx_size, high_length]
    have hHl : H.data.toList = high n 1 := by rw [hH]
    have R := Lib.hid (show ∀ u, Calls Tryd.prog 59 #[.int .u64 (n : Int), .int .i64 1] u fun e w' => e = .returned (.string H) ∧ Below u.heap.size u w' from fun u => by
      rw [hH]
      exact high_any n 1 u (by omega) (by omega) (by omega))
    have RN := Lib.hid (fun (x : ByteArray) (hx : x ∈ zs) (Y : ByteArray) (F : Int) (hY : Y = layX (strB x)) (hF : F = errV (strB x)) (u : World) => str_any x u Y F hY hF (hz x hx))
    have hw : IntKind.u64.wrap (n : Int) = (n : Int) := by rw [IntKind.wrap_u64]; omega
    have hd : decide (255 < (n : Int)) = false := decide_eq_false (by omega)
    have hd2 : decide (255 < n) = false := decide_eq_false (by omega)
    have HL := Lib.hid hl
    have HX := Lib.hid hX
    have HE := Lib.hid hE
    have HR := Lib.hid hr
    have HN := Lib.hid hn
    have HHL := Lib.hid hHl
    have HHS := Lib.hid hHs
    clear hl hX hE hr hn hz hH hHs hHl
    go_enter Tryd.func61, Tryd.ntmps61
    go_upto_region 4 with (fail)
    have HBU := Lib.hid (Use.builder_new w.heap.size w.heap.size _ (Nat.le_refl _) (_root_.Go.heap_alloc_new w (.cells #[.pointer none, .slice none 0 0] 116)))
    have HW := Lib.hid ((Below.refl w.heap.size w).alloc (Nat.le_refl _) (.cells #[.pointer none, .slice none 0 0] 116))
    generalize w.alloc (.cells #[.pointer none, .slice none 0 0] 116) = w1 at *
    go_wp2_with fail
    refine (R.out _).mono ?_
    rintro e w2 ⟨rfl, hb2⟩
    have HBU2 := Lib.hid (isBuilder_below HBU.out hb2)
    have HW2 := Lib.hid (HW.out.trans (hb2.mono HW.out.size))
    clear hb2 HBU HW
    go_wp2_with fail
    refine (Use.write_any w.heap.size w.heap.size [] H _ HBU2.out (by rw [HHS.out]; decide) HW2.out.size).mono ?_
    rintro e w3 ⟨rfl, hbu3, hb3⟩
    rw [List.nil_append, HHL.out] at hbu3
    have HBU3 := Lib.hid hbu3
    have HW3 := Lib.hid (HW2.out.trans hb3)
    clear hbu3 hb3 HBU2 HW2 hw
    go_wp2_with fail
    go_loopw [22] (fun i wr => ∃ (j : Nat) (acc : List UInt8), j ≤ n ∧ i = .int .i64 j ∧ acc.length ≤ 1 + 6002 * j ∧ layAll strB zs = ahead acc (each strB (zs.drop j)) ∧ Lib.IsBuilder 116 5 w.heap.size w.heap.size (Lib.byteCells acc) wr ∧ Below w.heap.size w wr) (fun i _ => n - (intOf i).toNat)
    case atStart => exact ⟨0, high n 1, by omega, rfl, by rw [high_length]; omega, by rw [HL.out]; rfl, HBU3.out, HW3.out⟩
    case round =>
      clear HBU3 HW3
      obtain ⟨j, acc, hj, rfl, hacc, hla, hbu, hbel⟩ := hrel
      have HBU := Lib.hid hbu
      have HW := Lib.hid hbel
      have HLA := Lib.hid hla
      have HAC := Lib.hid hacc
      clear hbu hbel hla hacc
      by_cases hlt : j < n
      · obtain ⟨b, o, rfl, hb, hc⟩ := HR.out (by have := HN.out; omega)
        have hjz : j < zs.length := by rw [HN.out]; exact hlt
        obtain ⟨x, hx⟩ : ∃ x, x = zs[j] := ⟨_, rfl⟩
        have hcc := (HW.out.cell (p := ⟨b, o + j, none⟩) hb).trans (hc j x (by rw [hx]; exact List.getElem?_eq_getElem hjz))
        have hdrop : zs.drop j = x :: zs.drop (j + 1) := by rw [List.drop_eq_getElem_cons hjz, hx]
        have hmem : x ∈ zs := by rw [hx]; exact List.getElem_mem hjz
        cases hlx : strB x with
        | error y =>
          have hy := str_err _ _ hlx
          have hr : layAll strB zs = .error y := by rw [HLA.out, hdrop, each_error _ _ _ y hlx, ahead_error]
          have hXe : X = ⟨#[]⟩ := by rw [HX.out, hr]; rfl
          have hEe : E = (y : Int) := by rw [HE.out, hr]; rfl
          subst hXe
          subst hEe
          have R1 := Lib.hid (fun u => RN.out x hmem ⟨#[]⟩ (y : Int) (by rw [hlx]; rfl) (by rw [hlx]; rfl) u)
          have hne : ((y : Int) != 0) = true := by simp; omega
          clear hr hlx hdrop hx hc hjz hmem hy
          go_wp2_with fail
          refine (R1.out _).mono ?_
          rintro e w4 ⟨rfl, hb4⟩
          have HW4 := Lib.hid (HW.out.trans (hb4.mono HW.out.size))
          clear hb4 hcc
          go_wp2
          go_ret2
          exact ⟨rfl, HW4.out⟩
        | ok l =>
          have hla : layAll strB zs = ahead (acc ++ l) (each strB (zs.drop (j + 1))) := by rw [HLA.out, hdrop, each_ok _ _ _ l hlx, ahead_ahead]
          have hll := str_length _ _ hlx
          have R1 := Lib.hid (fun u => RN.out x hmem (tx l) 0 (by rw [hlx]; rfl) (by rw [hlx]; rfl) u)
          obtain ⟨Y, hY⟩ : ∃ Y, Y = tx l := ⟨_, rfl⟩
          have hYl : Y.data.toList = l := by rw [hY]
          have hYs : Y.size = l.length := by rw [hY, tx_size]
          rw [← hY] at R1
          have HLA2 := Lib.hid hla
          have HYL := Lib.hid hYl
          have hsz : acc.length + Y.size ≤ 140737488355328 := by have := HAC.out; omega
          have hac2 : (acc ++ l).length ≤ 1 + 6002 * (j + 1) := by have := HAC.out; rw [List.length_append]; omega
          have HSZ := Lib.hid hsz
          have HAC2 := Lib.hid hac2
          have hne : ((0 : Int) != 0) = false := by simp
          clear hla hlx hdrop hx hc hjz hmem hll hY hYl hYs hsz hac2
          go_wp2_with fail
          refine (R1.out _).mono ?_
          rintro e w4 ⟨rfl, hb4⟩
          have HBU4 := Lib.hid (isBuilder_below HBU.out hb4)
          have HW4 := Lib.hid (HW.out.trans (hb4.mono HW.out.size))
          clear hb4 hcc
          go_wp2_with fail
          refine (Use.write_any w.heap.size w.heap.size acc Y _ HBU4.out HSZ.out HW4.out.size).mono ?_
          rintro e w5 ⟨rfl, hbu5, hb5⟩
          rw [HYL.out] at hbu5
          have HBU5 := Lib.hid hbu5
          have HW5 := Lib.hid (HW4.out.trans hb5)
          clear hbu5 hb5
          go_wp2
          go_roundw
          case rel => exact ⟨j + 1, acc ++ l, by omega, by go_num, HAC2.out, HLA2.out, HBU5.out, HW5.out⟩
          case measure => simp [intOf]; omega
      · obtain rfl : j = n := by omega
        have hdr : zs.drop j = [] := List.drop_eq_nil_of_le (by have := HN.out; omega)
        have hr : layAll strB zs = .ok acc := by rw [HLA.out, hdr, each_nil, ahead_ok, List.append_nil]
        have hXe : X = tx acc := by rw [HX.out, hr]; rfl
        have hEe : E = 0 := by rw [HE.out, hr]; rfl
        subst hXe
        subst hEe
        clear hdr hr
        go_wp2_with fail
        refine (Use.string_any w.heap.size w.heap.size acc _ HBU.out HW.out.size).mono ?_
        rintro e w4 ⟨rfl, hb4⟩
        have HW4 := Lib.hid (HW.out.trans hb4)
        clear hb4
        go_wp2
        go_ret2
        exact ⟨rfl, HW4.out⟩

theorem strs_any (zs : List ByteArray) (n : Nat) (a : Option Addr) (cap : Nat) (w : World) (X : ByteArray) (E : Int) (hX : X = layX (layAll strB zs)) (hE : E = errV (layAll strB zs)) (hr : StrsR w a zs) (hn : zs.length = n) (hn2 : n ≤ 1000000) (hz : ∀ z ∈ zs, z.size ≤ 9223372036854775807) :
    Calls Tryd.prog 56 #[.slice a n cap] w fun e w' => e = .returned (.tuple #[.string X, .int .i64 E]) ∧ Below w.heap.size w w' := by
  have R := Lib.hid (layStrs_any zs n a cap w X E hX hE hr hn hn2 hz)
  clear hX hE hr hn hz
  go_enter Tryd.func56, Tryd.ntmps56
  go_wp2_with fail
  refine R.out.mono ?_
  rintro e w1 ⟨rfl, hb⟩
  go_wp2
  go_ret2
  exact ⟨rfl, hb⟩
end Go.Proofs.YtlinpbmglcjkkaaDoor.Prt
