/-
  The function Expand of package keyed answers what the plain mathematics of the text Ked says, and leaves all memory that was there as it was. Conditions: key and info have no more than 2^45 bytes, the constant table of package digest lies as the program's text lays it.
-/
import Derived.Test.YtleoblflhcbcbaaDoorKedMac
namespace Go.Proofs.YtleoblflhcbcbaaDoor.Ked
open Go.RowKit Mur Sha

/-- How many bytes are asked for, of any number. -/
def many (n : Int) : Nat := (min (max n 0) 8160).toNat
theorem many_le (n : Int) : many n ≤ 8160 := by unfold many; omega

theorem high_one (q : Nat) : Lanes.high (q + 1) 1 = [UInt8.ofNat (q + 1)] := by simp [Lanes.high]

set_option maxHeartbeats 1600000 in
theorem expand_any (k info X : ByteArray) (n : Int) (w : World) (hk : k.size ≤ 35184372088832) (hi : info.size ≤ 35184372088832) (hX : X = tx (expand k.data.toList info.data.toList (many n))) (hc : Consts w) :
    Calls Tryd.prog 12 #[.string k, .string info, .int .i64 n] w fun e w' => e = .returned (.string X) ∧ Below w.heap.size w w' := by
  obtain ⟨N, hN⟩ : ∃ N : Nat, N = many n := ⟨_, rfl⟩
  have hN8 : N ≤ 8160 := by rw [hN]; exact many_le n
  have hmin : min (max n 0) 8160 = (N : Int) := by rw [hN]; unfold many; omega
  rw [← hN] at hX
  have HX := Lib.hid hX
  have HC := Lib.hid hc
  have HMIN := Lib.hid hmin
  clear hX hc hN hmin
  go_enter Tryd.func12, Tryd.ntmps12
  go_upto_region 2 with (fail)
  rw [HMIN.out]
  go_wp2_with fail
  obtain ⟨B, hB⟩ : ∃ B, B = w.heap.size := ⟨_, rfl⟩
  have hbu0 : Lib.IsBuilder 45 5 w.heap.size w.heap.size (Lib.byteCells []) (w.alloc (.cells #[.pointer none, .slice none 0 0] 45)) := Use.builder_new _ _ _ (Nat.le_refl _) (_root_.Go.heap_alloc_new w _)
  have HBU0 := Lib.hid hbu0
  clear hbu0 hB
  go_loopw [7, 9] (fun a i wr => ∃ (q : Nat) (A : ByteArray), q ≤ 255 ∧ A.size ≤ 32 ∧ 32 * q ≤ N + 31 ∧ i = .int .i64 ((q : Int) + 1) ∧ a = .string A ∧ A.data.toList = text k.data.toList info.data.toList q ∧ Lib.IsBuilder 45 5 w.heap.size w.heap.size (Lib.byteCells (all k.data.toList info.data.toList q)) wr ∧ Below w.heap.size w wr) (fun _ i _ => 256 - (intOf i).toNat)
  case atStart => exact ⟨0, ⟨#[]⟩, by omega, by decide, by omega, rfl, rfl, rfl, HBU0.out, (Below.refl _ _).alloc (Nat.le_refl _) _⟩
  case round =>
    clear HBU0
    obtain ⟨q, A, hq, hA32, hqN, rfl, rfl, hA, hbu, hbel⟩ := hrel
    have hlen : ((32 * q : Nat) : Int) = ((all k.data.toList info.data.toList q).length : Int) := by rw [all_length]
    have HLEN := Lib.hid hlen
    have HA := Lib.hid hA
    have HBU := Lib.hid hbu
    have HW := Lib.hid hbel
    clear hlen hA hbu hbel
    go_wp2_with fail
    refine (Use.len_any w.heap.size w.heap.size _ ((32 * q : Nat) : Int) _ HBU.out HLEN.out).mono ?_
    rintro e w1 ⟨rfl, rfl⟩
    by_cases hlt : 32 * q < N
    · have hd : decide (((32 * q : Nat) : Int) < (N : Int)) = true := by simp; omega
      have hq1 : q ≤ 254 := by omega
      obtain ⟨H, hH⟩ : ∃ H : ByteArray, H = tx (Lanes.high (q + 1) (Lanes.widthOf 1)) := ⟨_, rfl⟩
      have hHs : H.size = 1 := by rw [hH]; show (Lanes.high (q + 1) (Lanes.widthOf 1)).length = 1; simp only [Lanes.high, List.length_map, List.length_range]; rfl
      obtain ⟨Y, hY⟩ : ∃ Y : ByteArray, Y = A ++ info ++ H := ⟨_, rfl⟩
      have hYs : Y.size = A.size + info.size + 1 := by rw [hY]; simp only [ByteArray.size_append, hHs]
      obtain ⟨T, hT⟩ : ∃ T : ByteArray, T = tx (mac k.data.toList Y.data.toList) := ⟨_, rfl⟩
      have hTs : T.size = 32 := by rw [hT]; exact mac_length _ _
      have hTt : T.data.toList = text k.data.toList info.data.toList (q + 1) := by
        rw [hT, text, ← HA.out, hY, hH]
        simp only [ByteArray.data_append, Array.toList_append]
        show mac _ (_ ++ Lanes.high (q + 1) 1) = _
        rw [high_one]
      have hall : all k.data.toList info.data.toList q ++ T.data.toList = all k.data.toList info.data.toList (q + 1) := by rw [hTt]; rfl
      have hh : ∀ u, Calls Tryd.prog 32 #[.int .u64 ((q : Int) + 1), .int .i64 1] u fun e w' => e = .returned (.string H) ∧ Below u.heap.size u w' := fun u => by
        have := Lanes.high_any (q + 1) 1 u (by omega) (by omega) (by omega)
        rw [hH]; exact this
      have hm : ∀ u, Consts u → Calls Tryd.prog 8 #[.string k, .string Y] u fun e w' => e = .returned (.string T) ∧ Below u.heap.size u w' := fun u hu => mac_any k Y T u (by omega) (by omega) hT hu
      have hal := all_length k.data.toList info.data.toList q
      have HH := Lib.hid hh
      have HM := Lib.hid hm
      have HY := Lib.hid hY
      have HTT := Lib.hid hTt
      have HALL := Lib.hid hall
      have HAL := Lib.hid hal
      have HTS := Lib.hid hTs
      have n1 : ¬ 9223372036854775807 < A.size + info.size := by omega
      have n2 : ¬ 9223372036854775807 < A.size + info.size + H.size := by omega
      clear hHs hYs hTs hH hT hTt hall hh hm hal hY HA
      go_wp2_with fail
      refine (HH.out _).mono ?_
      rintro e w2 ⟨rfl, hb2⟩
      have hbu2 := isBuilder_below HBU.out hb2
      have HB2 := Lib.hid (HW.out.trans (hb2.mono HW.out.size))
      have HBU2 := Lib.hid hbu2
      clear hb2 hbu2 HBU HW
      go_wp2_with fail
      rw [← HY.out]
      refine (HM.out _ (HC.out.below HC.out.1 HB2.out)).mono ?_
      rintro e w3 ⟨rfl, hb3⟩
      have hbu3 := isBuilder_below HBU2.out hb3
      have HB3 := Lib.hid (HB2.out.trans (hb3.mono HB2.out.size))
      have HBU3 := Lib.hid hbu3
      clear hb3 hbu3 HBU2 HB2
      go_wp2_with fail
      refine (Use.write_any w.heap.size w.heap.size (all k.data.toList info.data.toList q) T _ HBU3.out (by rw [HAL.out, HTS.out]; omega) HB3.out.size).mono ?_
      rintro e w4 ⟨rfl, hbu4, hb4⟩
      rw [HALL.out] at hbu4
      have HB4 := Lib.hid (HB3.out.trans hb4)
      have HBU4 := Lib.hid hbu4
      clear hb4 hbu4 HBU3 HB3
      go_wp2
      go_roundw
      case rel => exact ⟨q + 1, T, by omega, by rw [HTS.out]; omega, by omega, by go_num, rfl, HTT.out, HBU4.out, HB4.out⟩
      case measure => simp [intOf]; omega
    · have hd : decide (((32 * q : Nat) : Int) < (N : Int)) = false := by simp; omega
      obtain ⟨S, hS⟩ : ∃ S : ByteArray, S = tx (all k.data.toList info.data.toList q) := ⟨_, rfl⟩
      have hSs : S.size = 32 * q := by rw [hS]; exact all_length _ _ _
      have hNS : (N : Int) ≤ (S.size : Int) := by omega
      have hend : S.extract 0 N = X := by
        have e1 : (S.extract 0 N).data.toList = S.data.toList.take N := extract_take S N
        have e2 : expand k.data.toList info.data.toList N = (all k.data.toList info.data.toList q).take N := expand_of _ _ q N hq (by omega)
        rw [HX.out, e2, hS]
        apply ByteArray.ext
        apply Array.toList_inj.mp
        rw [← hS, e1, hS]
      have hstr : ∀ u, u = wr → Calls Tryd.prog 34 #[.pointer (some ⟨w.heap.size, 0, none⟩)] u fun e w' => e = .returned (.string S) ∧ Below w.heap.size u w' := fun u hu => by
        subst hu
        rw [hS]
        exact Use.string_any w.heap.size w.heap.size _ _ HBU.out HW.out.size
      have HSTR := Lib.hid hstr
      have HEND := Lib.hid hend
      clear hS hSs hend hstr HBU HX
      go_wp2_with fail
      refine (HSTR.out _ rfl).mono ?_
      rintro e w2 ⟨rfl, hb2⟩
      have HB2 := Lib.hid (HW.out.trans hb2)
      clear hb2 HSTR
      go_wp2
      go_ret
      exact ⟨by rw [← HEND.out]; rfl, HB2.out⟩
end Go.Proofs.YtleoblflhcbcbaaDoor.Ked
