/-
  Digits of package chains answers what the plain mathematics of the text Chn says, in a slice of its own, and leaves all memory that was there as it was. No condition but that of the reach of the form.
-/
import Derived.Test.YtjhilaiilckalaaDoorChnA
import Derived.Test.YtjhilaiilckalaaDoorIntA
import Derived.Test.YtjhilaiilckalaaDoorHoldB
import Derived.Test.YtjhilaiilckalaaDoorLnBase
namespace Go.Proofs.YtjhilaiilckalaaDoor.Chn
open Go.RowKit Mur Sha
set_option maxRecDepth 100000

theorem told_lay (N : Nat) (d : List UInt8) : Hold.lay (madeCells #[.int .u8 0] N).toList 0 ((bytesV d).take (min d.length N)) = bytesV (told N d) := by
  have e : (madeCells #[.int .u8 0] N).toList = List.replicate N (Value.int .u8 0) := by
    apply List.ext_getElem (by simp [madeCells])
    intro i h1 h2
    simp [madeCells, Nat.mod_one]
  have e2 : List.replicate N (Value.int .u8 0) = List.replicate (min d.length N) (Value.int .u8 0) ++ List.replicate (N - d.length) (Value.int .u8 0) := by
    rw [List.replicate_append_replicate]
    congr 1
    omega
  have e3 : bytesV (told N d) = (bytesV d).take (min d.length N) ++ List.replicate (N - d.length) (Value.int .u8 0) := by
    have e4 : d.take N = d.take (min d.length N) := by
      rcases Nat.le_total N d.length with h | h
      · rw [Nat.min_eq_right h]
      · rw [Nat.min_eq_left h, List.take_length, List.take_of_length_le h]
    unfold told bytesV
    rw [List.map_append, List.map_replicate, e4, List.map_take]
    rfl
  rw [e, e2, e3, Hold.lay_left]
  rw [List.length_take, bytesV_length, List.length_replicate]
  omega

theorem and15_u8 (x : UInt8) : bits .and .u8 (x.toNat : Int) 15 = ((x.toNat % 16 : Nat) : Int) := by
  have := and_u8 x 15
  rw [show ((15 : UInt8).toNat : Int) = 15 from rfl] at this
  rw [this, UInt8.toNat_and, show (15 : UInt8).toNat = 2 ^ 4 - 1 from rfl, Nat.and_two_pow_sub_one_eq_mod]
theorem and15_i64 (x : Nat) (h : x < 9223372036854775808) : bits .and .i64 (x : Int) 15 = ((x % 16 : Nat) : Int) := by
  have := and_i64_nat x 15 h (by decide)
  rw [show ((15 : Nat) : Int) = 15 from rfl] at this
  rw [this, show 15 = 2 ^ 4 - 1 from rfl, Nat.and_two_pow_sub_one_eq_mod]

set_option maxHeartbeats 3200000 in
theorem digits_any (N : Nat) (h : Int) (d : ByteArray) (w : World) (hr : Right (N : Int) h) :
    Calls Tryd.prog 13 #[.agg #[.int .i64 (N : Int), .int .i64 h], .string d] w fun e w' => ∃ v, e = .returned v ∧ w'.ownsRow w.heap.size 3 1 v (2 * N + 3) (Ints.intsV (digs N d.data.toList)) ∧ Below w.heap.size w w' := by
  have R1 := Lib.hid (fun u => right_yes N h hr u)
  have R2 := Lib.hid (fun u => count_yes N h hr u)
  have hN : N ≤ 32 := by have := hr.2.1; omega
  have hN2 : 2 ≤ N := by have := hr.1; omega
  clear hr
  obtain ⟨T, hT⟩ : ∃ T, T = told N d.data.toList := ⟨_, rfl⟩
  have hTl : T.length = N := by rw [hT]; exact told_length _ _
  have hlay : Hold.lay (madeCells #[.int .u8 0] N).toList 0 ((bytesV d.data.toList).take (min d.size N)) = bytesV T := by rw [hT]; exact told_lay N d.data.toList
  have hD : digs N d.data.toList = nibs T ++ rest (left N T) := by rw [hT]; rfl
  rw [hD]
  have hmk : ∀ u : World, (Instr.makeSlice 44 (.int .i64 (N : Int)) (.int .i64 (N : Int))).run Tryd.prog u = .ok (.slice (some ⟨u.heap.size, 0, none⟩) N N) (u.alloc (.cells ((madeCells #[.int .u8 0] N).toList).toArray 5)) := fun u => by
    have := Lanes.make_u8 u N (by omega)
    simpa using this
  have hmk2 : ∀ u : World, (Instr.makeSlice 31 (.int .i64 0) (.int .i64 (2 * (N : Int) + 3))).run Tryd.prog u = .ok (.slice (some ⟨u.heap.size, 0, none⟩) 0 (2 * N + 3)) (u.alloc (.cells (madeCells #[.int .i64 0] (2 * N + 3)) 3)) := fun u => Ints.make_room u (2 * N + 3) _ (by omega) (by omega)
  have hsz : ∀ u : World, (Go.sizeOf 5).run Tryd.prog u = .ok 1 u := fun u => by go_simp
  have HLAY := Lib.hid hlay
  have HSZ := Lib.hid hsz
  have HTL := Lib.hid hTl
  have hml : (madeCells #[.int .u8 0] N).toList.length = N := by simp [madeCells]
  have HML := Lib.hid hml
  clear hD hT hlay hsz hTl hml
  generalize (madeCells #[.int .u8 0] N).toList = Z at *
  go_enter Tryd.func13, Tryd.ntmps13
  go_wp2_with fail
  have hB0 := (Below.refl w.heap.size w).alloc (Nat.le_refl _) (.cells #[.int .i64 (N : Int), .int .i64 h] 23)
  have hc0 : (w.alloc (.cells #[.int .i64 (N : Int), .int .i64 h] 23)).cell? ⟨w.heap.size, 0, none⟩ = some (.int .i64 (N : Int)) := by simp
  have hc1 : (w.alloc (.cells #[.int .i64 (N : Int), .int .i64 h] 23)).cell? ⟨w.heap.size, 1, none⟩ = some (.int .i64 h) := by simp
  have hlt : w.heap.size < (w.alloc (.cells #[.int .i64 (N : Int), .int .i64 h] 23)).heap.size := by simp
  generalize w.alloc (.cells #[.int .i64 (N : Int), .int .i64 h] 23) = wz at *
  have HC := Lib.hid (fun (u : World) (q : Below wz.heap.size wz u) => (⟨(q.cell (p := ⟨w.heap.size, 0, none⟩) hlt).trans hc0, (q.cell (p := ⟨w.heap.size, 1, none⟩) hlt).trans hc1⟩ : u.cell? ⟨w.heap.size, 0, none⟩ = some (.int .i64 (N : Int)) ∧ u.cell? ⟨w.heap.size, 1, none⟩ = some (.int .i64 h)))
  have HB0 := Lib.hid hB0
  clear hB0 hc0 hc1 hlt
  refine (R1.out _).mono ?_
  rintro e w1 ⟨rfl, hb1⟩
  obtain ⟨c0, c1⟩ := HC.out _ hb1
  have HB1 := Lib.hid hb1
  clear hb1
  go_upto_region 4 with (fail)
  clear c0 c1 hmk
  have HM := Lib.hid ((Hold.Hld.start w1).add 5 Z)
  have hb0 : w1.heap.size < (w1.alloc (.cells Z.toArray 5)).heap.size := by simp
  generalize w1.heap.size = b at *
  generalize w1.alloc (.cells Z.toArray 5) = w2 at *
  have hcp := Hold.run_copyText (P := Tryd.prog) (dT := 44) (sT := 9) (ty := 3) (C := N) (L := N) (s := d) HM.out 0 rfl Tryd.underlying44 HSZ.out (by rw [HML.out]; exact Nat.min_le_right _ _)
  have hM2 := HM.out.set 0 rfl 0 ((bytesV d.data.toList).take (min d.size N))
  simp only at hM2
  rw [HLAY.out] at hM2
  generalize w2.setCells b 0 ((bytesV d.data.toList).take (min d.size N)) = w3 at *
  have HM2 := Lib.hid hM2
  clear HM hM2 HLAY HML
  go_upto_region 5 with (fail)
  clear hcp
  have HB3 := Lib.hid (HB1.out.trans (HM2.out.below.mono HB1.out.size))
  have HROW := Lib.hid (HM2.out.at 0 rfl).row
  have hbl : b < w3.heap.size := HROW.out.lt
  have HBL := Lib.hid hbl
  clear HM2 hbl
  obtain ⟨c0, c1⟩ := HC.out _ HB3.out
  go_wp2_with fail
  refine (R2.out _).mono ?_
  rintro e w4 ⟨rfl, hb4⟩
  have HB4 := Lib.hid hb4
  clear hb4 c0 c1
  obtain ⟨c0, c1⟩ := HC.out _ (HB3.out.trans (HB4.out.mono HB3.out.size))
  have hown0 := World.ownsRow_made (base := w3.heap.size) (e := 3) (size := 1) w4 (madeCells #[.int .i64 0] (2 * N + 3)) (2 * N + 3) HB4.out.size (by unfold maxLen; omega) (by simp [madeCells])
  have HOWN0 := Lib.hid hown0
  have HW0 := Lib.hid (HB4.out.alloc HB4.out.size (.cells (madeCells #[.int .i64 0] (2 * N + 3)) 3))
  clear hown0
  obtain ⟨d0, d1⟩ := HC.out _ (HB3.out.trans (HW0.out.mono HB3.out.size))
  go_wp2_with fail
  clear c0 c1 d0 d1 hmk2
  go_loopw [6, 7, 9, 10, 11, 29] (fun v r _ _ _ i wr => ∃ k : Nat, k ≤ N ∧ i = .int .i64 k ∧ r = .int .i64 ((30 * N - (nibs (T.take k)).sum : Nat) : Int) ∧ wr.ownsRow w3.heap.size 3 1 v (2 * k) (Ints.intsV (nibs (T.take k))) ∧ Below w3.heap.size w3 wr) (fun _ _ _ _ _ i _ => N - (intOf i).toNat)
  case atStart => exact ⟨0, by omega, rfl, by simp [nibs], HOWN0.out, HW0.out⟩
  case round =>
    clear HOWN0 HW0
    obtain ⟨k, hk, rfl, rfl, hown, hbel⟩ := hrel
    by_cases hlt : k < N
    · have hrow := HROW.out.below HBL.out hbel
      have hkT : k < T.length := by rw [HTL.out]; exact hlt
      have hc := hrow.cell (bytesV_at hkT)
      have htk : nibs (T.take (k + 1)) = nibs (T.take k) ++ [T[k].toNat / 16, T[k].toNat % 16] := by
        rw [List.take_succ_eq_append_getElem hkT, nibs_snoc]; rfl
      have hsm := nibs_sum (T.take (k + 1))
      have hln : (T.take (k + 1)).length = k + 1 := by rw [List.length_take]; omega
      have hsm0 : (nibs (T.take (k + 1))).sum = (nibs (T.take k)).sum + (T[k].toNat / 16 + T[k].toNat % 16) := by rw [htk, List.sum_append]; simp
      rw [hln] at hsm
      have hxb := T[k].toNat_lt
      have h15 := and15_u8 T[k]
      generalize T[k] = x at *
      obtain ⟨hi, hhi⟩ : ∃ n, n = x.toNat / 16 := ⟨_, rfl⟩
      obtain ⟨lo, hlo⟩ : ∃ n, n = x.toNat % 16 := ⟨_, rfl⟩
      rw [← hhi, ← hlo] at htk hsm0
      rw [← hlo] at h15
      have hhi2 : hi ≤ 15 := by omega
      have hlo2 : lo ≤ 15 := by omega
      generalize hS : (nibs (T.take k)).sum = s at *
      have ehi : (x.toNat : Int) / 16 = (hi : Int) := by omega
      have elo : (x.toNat : Int) % 16 = (lo : Int) := by omega
      have hnext : 30 * N - (nibs (T.take (k + 1))).sum = 30 * N - s - (hi + lo) := by omega
      have hle : hi + lo ≤ 30 * N - s := by omega
      obtain ⟨r, hr⟩ : ∃ r, r = 30 * N - s := ⟨_, rfl⟩
      rw [← hr] at hnext hle
      have hr2 : r ≤ 960 := by omega
      rw [← hr]
      have HNX := Lib.hid hnext
      have HTK := Lib.hid htk
      have HOWN := Lib.hid hown
      have HW := Lib.hid hbel
      clear hrow htk hown hbel hsm0 hsm hnext hr hS h15 hxb hhi hlo hln
      go_upto_region 11 with (fail)
      clear hc ehi elo
      go_upto_region 12 with (at_builtin; refine Ints.append_ints rfl _ _ rfl w3.heap.size (2 * k) _ (nibs (T.take k)) rfl (HOWN.out.alloc _) wr.heap.size 2 2 [hi, lo] rfl rfl (Ints.new_two _ _ _ _) (by omega) (Nat.le_trans HW.out.size (by simp)) ?_)
      intro v' w5 hown5 hgrow5
      have HW5 := Lib.hid ((HW.out.alloc HW.out.size (.cells #[.int .i64 (hi : Int), .int .i64 (lo : Int)] 3)).grown hgrow5 (Nat.le_trans HW.out.size (by simp)) (fun j hj => (HOWN.out.lt j hj).1))
      rw [← HTK.out] at hown5
      have HOWN5 := Lib.hid hown5
      clear hown5 hgrow5 HOWN HW
      go_wp2
      go_roundw
      case rel => exact ⟨k + 1, by omega, by go_num, by rw [HNX.out]; go_num, HOWN5.out, HW5.out⟩
      case measure => simp [intOf]; omega
    · obtain rfl : k = N := by omega
      have hall : T.take k = T := by rw [List.take_of_length_le]; rw [HTL.out]; exact Nat.le_refl _
      rw [hall] at hown
      have hsm := nibs_sum T
      rw [HTL.out] at hsm
      have hL : left k T = 30 * k - (nibs T).sum := rfl
      rw [hall, ← hL]
      have hle := left_le k T
      obtain ⟨r, hr⟩ : ∃ r, r = left k T := ⟨_, rfl⟩
      rw [← hr] at hle ⊢
      obtain ⟨a0, ha0⟩ : ∃ a, a = r / 256 := ⟨_, rfl⟩
      obtain ⟨a1, ha1⟩ : ∃ a, a = r / 16 % 16 := ⟨_, rfl⟩
      obtain ⟨a2, ha2⟩ : ∃ a, a = r % 16 := ⟨_, rfl⟩
      have e0 : (r : Int) / 256 = (a0 : Int) := by omega
      have e2 := and15_i64 r (by omega)
      have e1 := and15_i64 (r / 16) (by omega)
      have e3 : (r : Int) / 16 = ((r / 16 : Nat) : Int) := by omega
      rw [← e3, ← ha1] at e1
      rw [← ha2] at e2
      have hrest : nibs T ++ [a0, a1, a2] = nibs T ++ rest (left k T) := by rw [ha0, ha1, ha2, ← hr]; rfl
      have HREST := Lib.hid hrest
      have HOWN := Lib.hid hown
      have HW := Lib.hid hbel
      clear hrest hown hbel hsm hL e3 ha0 ha1 ha2 hr hall
      go_wp2_with (at_builtin; refine Ints.append_ints rfl _ _ rfl w3.heap.size (2 * k) _ (nibs T) rfl (HOWN.out.alloc _) wr.heap.size 3 3 [a0, a1, a2] rfl rfl (Ints.new_three _ _ _ _ _) (by omega) (Nat.le_trans HW.out.size (by simp)) ?_)
      intro v' w5 hown5 hgrow5
      have HW5 := Lib.hid ((HW.out.alloc HW.out.size (.cells #[.int .i64 (a0 : Int), .int .i64 (a1 : Int), .int .i64 (a2 : Int)] 3)).grown hgrow5 (Nat.le_trans HW.out.size (by simp)) (fun j hj => (HOWN.out.lt j hj).1))
      rw [HREST.out] at hown5
      have HOWN5 := Lib.hid hown5
      clear hown5 hgrow5 HOWN HW
      go_wp2
      have hBw := HB0.out.trans (HB3.out.mono HB0.out.size)
      refine bodyPost_ret (v := v') (by simp [results, Tryd.results13, go_sem]) rfl ⟨_, rfl, Strs.own_mono HOWN5.out hBw.size, hBw.trans (HW5.out.mono hBw.size)⟩

theorem digits_no (n h : Int) (hr : ¬ Right n h) (d : ByteArray) (w : World) :
    Calls Tryd.prog 13 #[.agg #[.int .i64 n, .int .i64 h], .string d] w fun e w' => e = .returned (.slice none 0 0) ∧ Below w.heap.size w w' := by
  have R1 := Lib.hid (fun u => right_no n h hr u)
  clear hr
  go_enter Tryd.func13, Tryd.ntmps13
  go_wp2_with fail
  refine (R1.out _).mono ?_
  rintro e w1 ⟨rfl, hb⟩
  have HB := Lib.hid (((Below.refl w.heap.size w).alloc (Nat.le_refl _) (.cells #[.int .i64 n, .int .i64 h] 23)).trans (hb.mono (by simp)))
  clear hb
  go_wp2
  go_ret
  exact ⟨rfl, HB.out⟩
end Go.Proofs.YtjhilaiilckalaaDoor.Chn
