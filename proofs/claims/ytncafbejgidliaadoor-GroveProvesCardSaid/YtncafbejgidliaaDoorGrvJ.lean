/-
  Many of package grove answers what the plain mathematics of the text Grv says, and leaves all memory that was there as it was. Conditions: those that it names; the constant table of package digest lies as the program's text lays it.
-/
import Derived.Test.YtncafbejgidliaaDoorGrvI
import Derived.Test.YtncafbejgidliaaDoorGrvF
namespace Go.Proofs.YtncafbejgidliaaDoor.Grv
open Go.RowKit Mur Sha Chn
set_option maxRecDepth 100000

/-- A slice of texts, as it is read. -/
def StrsR (w : World) (a : Option Addr) (l : List ByteArray) : Prop := l.length ≠ 0 → ∃ b o, a = some ⟨b, o, none⟩ ∧ b < w.heap.size ∧ ∀ i x, l[i]? = some x → w.cell? ⟨b, o + i, none⟩ = some (.string x)
theorem StrsR.below {w w' : World} {a : Option Addr} {l : List ByteArray} (h : StrsR w a l) (k : Below w.heap.size w w') : StrsR w' a l := fun hl => by
  obtain ⟨b, o, ha, hb, hc⟩ := h hl
  exact ⟨b, o, ha, Nat.lt_of_lt_of_le hb k.size, fun i x hx => (k.cell (p := ⟨b, o + i, none⟩) hb).trans (hc i x hx)⟩

/-- What climbed leaves at hand is small, and no more than was there. -/
theorem climbed_small (N : Nat) (room : List UInt8) (z : Nat) (hN : N ≤ 32) (hd : Hand) (p : List UInt8) : ∀ r, climbed N room z hd p = some r → (∀ q ∈ hd, q.1 ≤ 1000000) → (∀ q ∈ r.1, q.1 ≤ 1000000 ∧ q.2.length ≤ 1000000) ∧ r.1.length ≤ hd.length ∧ (hd.length ≠ 0 → r.1.length ≠ 0) := by
  fun_induction climbed N room z hd p with
  | case1 p => rintro r h -; cases h; simp
  | case2 n x p hlt => rintro r h -; cases h
  | case3 n x p hlt =>
    rintro r h hb
    cases h
    have := hb (n, x) (by simp)
    refine ⟨fun q hq => ?_, by simp, by simp⟩
    simp only [List.mem_singleton] at hq
    subst hq
    have h2 := asOneT_length N room z n x (p.take N) hN
    simp only at this ⊢
    omega
  | case4 n x y l p ih =>
    rintro r h hb
    cases hc : climbed N room z l p with
    | none => rw [hc] at h; cases h
    | some r' =>
      rw [hc] at h
      cases h
      obtain ⟨h1, h2, -⟩ := ih r' hc (fun q hq => hb q (by simp [hq]))
      have := hb (n, x) (by simp)
      refine ⟨fun q hq => ?_, by simp; omega, by simp⟩
      rcases List.mem_cons.1 hq with rfl | hq
      · have h3 := asOneT_length N room z n x y hN
        simp only at this ⊢
        omega
      · exact h1 q hq
  | case5 n x m y l p hne hlt => rintro r h -; cases h
  | case6 n x m y l p hne hlt ih =>
    rintro r h hb
    cases hc : climbed N room z ((m, y) :: l) (p.drop N) with
    | none => rw [hc] at h; cases h
    | some r' =>
      rw [hc] at h
      cases h
      obtain ⟨h1, h2, -⟩ := ih r' hc (fun q hq => hb q (List.mem_cons_of_mem _ hq))
      have := hb (n, x) (by simp)
      refine ⟨fun q hq => ?_, by simp at h2 ⊢; omega, by simp⟩
      rcases List.mem_cons.1 hq with rfl | hq
      · have h3 := asOneT_length N room z n x (p.take N) hN
        simp only at this ⊢
        omega
      · exact h1 q hq
/-- Numbers and texts, as they are at hand. -/
def handUp (l : List Nat) (ns : List ByteArray) : Hand := l.zip (ns.map fun s => s.data.toList)
theorem handUp_length (l : List Nat) (ns : List ByteArray) (h : ns.length = l.length) : (handUp l ns).length = l.length := by simp [handUp, h]
theorem handUp_at (l : List Nat) (ns : List ByteArray) (i : Nat) (h1 : i < l.length) (h2 : i < ns.length) : (handUp l ns)[i]? = some (l[i], ns[i].data.toList) := by
  unfold handUp
  rw [List.getElem?_zip_eq_some]
  simp [h1, h2]

set_option maxHeartbeats 3200000 in
theorem many_no (n h : Int) (room pr : ByteArray) (zs : List Int) (m k : Nat) (a a2 : Option Addr) (cap cap2 : Nat) (w : World) (hr : IntsR w a zs) (hm : zs.length = m) (hm2 : m ≤ 1000000) (hno : ¬ (Right n h ∧ okL (2 ^ h.toNat) zs = true ∧ k = m)) :
    Calls Tryd.prog 17 #[.agg #[.int .i64 n, .int .i64 h], .string room, .slice a m cap, .slice a2 k cap2, .string pr] w fun e w' => e = .returned (.string ⟨#[]⟩) ∧ Below w.heap.size w w' := by
  have hB0 := (Below.refl w.heap.size w).alloc (Nat.le_refl _) (.cells #[.int .i64 n, .int .i64 h] 23)
  have hc0 : (w.alloc (.cells #[.int .i64 n, .int .i64 h] 23)).cell? ⟨w.heap.size, 0, none⟩ = some (.int .i64 n) := by simp
  have hc1 : (w.alloc (.cells #[.int .i64 n, .int .i64 h] 23)).cell? ⟨w.heap.size, 1, none⟩ = some (.int .i64 h) := by simp
  have hl0 : w.heap.size < (w.alloc (.cells #[.int .i64 n, .int .i64 h] 23)).heap.size := by simp
  go_enter Tryd.func17, Tryd.ntmps17
  go_upto_region 1 with (fail)
  generalize w.alloc (.cells #[.int .i64 n, .int .i64 h] 23) = wz at *
  have HC := Lib.hid (fun (u : World) (q : Below wz.heap.size wz u) => (⟨(q.cell (p := ⟨w.heap.size, 0, none⟩) hl0).trans hc0, (q.cell (p := ⟨w.heap.size, 1, none⟩) hl0).trans hc1⟩ :
    u.cell? ⟨w.heap.size, 0, none⟩ = some (.int .i64 n) ∧ u.cell? ⟨w.heap.size, 1, none⟩ = some (.int .i64 h)))
  have HB0 := Lib.hid hB0
  have HL0 := Lib.hid hl0
  by_cases hri : Right n h
  · have R1 := Lib.hid (fun u => right_yes n h hri u)
    cases hok : okL (2 ^ h.toNat) zs with
    | true =>
      have hkm : k ≠ m := fun e => hno ⟨hri, hok, e⟩
      have hne1 : ((k : Int) != (m : Int)) = true := by simp; omega
      have R2 := Lib.hid (fun (u : World) (q : Below wz.heap.size wz u) => show Calls Tryd.prog 34 #[.slice a m cap, .int .i64 h] u fun e w' => e = .returned (.bool true) ∧ Below u.heap.size u w' from by
        have g := rising_any zs m a cap h.toNat true u (hr.below (hB0.trans (q.mono (Nat.le_of_lt hl0)))) hm hm2 (by have := hri.2.2.2; omega) hok.symm
        rw [show ((h.toNat : Nat) : Int) = h by have := hri.2.2.1; omega] at g
        exact g)
      clear hri hB0 hl0 hr hm hm2 hno hok hkm
      go_wp2_with fail
      refine (R1.out _).mono ?_
      rintro e w1 ⟨rfl, hb1⟩
      have HW1 := Lib.hid hb1
      clear hb1 hc0 hc1
      obtain ⟨c0, c1⟩ := HC.out _ HW1.out
      go_wp2_with fail
      refine (R2.out _ HW1.out).mono ?_
      rintro e w2 ⟨rfl, hb2⟩
      have HW2 := Lib.hid (HW1.out.trans (hb2.mono HW1.out.size))
      clear hb2
      go_wp2
      go_ret
      exact ⟨rfl, HB0.out.trans (HW2.out.mono (Nat.le_of_lt HL0.out))⟩
    | false =>
      have R2 := Lib.hid (fun (u : World) (q : Below wz.heap.size wz u) => show Calls Tryd.prog 34 #[.slice a m cap, .int .i64 h] u fun e w' => e = .returned (.bool false) ∧ Below u.heap.size u w' from by
        have g := rising_any zs m a cap h.toNat false u (hr.below (hB0.trans (q.mono (Nat.le_of_lt hl0)))) hm hm2 (by have := hri.2.2.2; omega) hok.symm
        rw [show ((h.toNat : Nat) : Int) = h by have := hri.2.2.1; omega] at g
        exact g)
      clear hri hB0 hl0 hr hm hm2 hno hok
      go_wp2_with fail
      refine (R1.out _).mono ?_
      rintro e w1 ⟨rfl, hb1⟩
      have HW1 := Lib.hid hb1
      clear hb1 hc0 hc1
      obtain ⟨c0, c1⟩ := HC.out _ HW1.out
      go_wp2_with fail
      refine (R2.out _ HW1.out).mono ?_
      rintro e w2 ⟨rfl, hb2⟩
      have HW2 := Lib.hid (HW1.out.trans (hb2.mono HW1.out.size))
      clear hb2
      go_wp2
      go_ret
      exact ⟨rfl, HB0.out.trans (HW2.out.mono (Nat.le_of_lt HL0.out))⟩
  · have R1 := Lib.hid (fun u => right_no n h hri u)
    clear hri hB0 hl0 hr hm hm2 hno
    go_wp2_with fail
    refine (R1.out _).mono ?_
    rintro e w1 ⟨rfl, hb1⟩
    have HW1 := Lib.hid hb1
    clear hb1
    go_wp2
    go_ret
    exact ⟨rfl, HB0.out.trans (HW1.out.mono (Nat.le_of_lt HL0.out))⟩

set_option maxHeartbeats 6400000 in
theorem many_any (N H : Nat) (room pr V : ByteArray) (l : List Nat) (ns : List ByteArray) (m : Nat) (a a2 : Option Addr) (cap cap2 : Nat) (w : World) (hri : Right (N : Int) (H : Int)) (hr : IntsR w a (zl l)) (hr2 : StrsR w a2 ns) (hm : l.length = m) (hm2 : m ≤ 1000000) (hns : ns.length = m) (h0 : 0 < m) (hu : Up l) (hlt : ∀ x ∈ l, x < 2 ^ H)
    (hsz : ∀ s ∈ ns, s.size ≤ 1000000) (hs : room.size ≤ 34359738368) (hV : V = tx (many N room.data.toList H 0 (handUp l ns) pr.data.toList)) (hk : Consts w) :
    Calls Tryd.prog 17 #[.agg #[.int .i64 (N : Int), .int .i64 (H : Int)], .string room, .slice a m cap, .slice a2 m cap2, .string pr] w fun e w' => e = .returned (.string V) ∧ Below w.heap.size w w' := by
  have hN : N ≤ 32 := by have := hri.2.1; omega
  have hN2 : 2 ≤ N := by have := hri.1; omega
  have hH : H ≤ 8 := by have := hri.2.2.2; omega
  have hl8 := pow_256 H hH
  have hB0 := (Below.refl w.heap.size w).alloc (Nat.le_refl _) (.cells #[.int .i64 (N : Int), .int .i64 (H : Int)] 23)
  have R1 := Lib.hid (fun u => right_yes N H hri u)
  have R2 := Lib.hid (fun (u : World) (q : Below w.heap.size w u) => show Calls Tryd.prog 34 #[.slice a m cap, .int .i64 (H : Int)] u fun e w' => e = .returned (.bool true) ∧ Below u.heap.size u w' from
    rising_any (zl l) m a cap H true u (hr.below q) (by rw [zl_length, hm]) hm2 (by omega) (by
      rw [okL, okI_zl _ l 0 hu (fun n hn => by
        have h1 : ((n : Nat) : Int) < ((2 ^ H : Nat) : Int) := Int.ofNat_lt.2 (hlt n hn)
        rw [Int.natCast_pow] at h1
        exact h1) (fun n _ => by omega), zl_length, hm, decide_eq_true h0]
      rfl))
  have hne1 : ((m : Int) != (m : Int)) = false := by simp
  have RC := Lib.hid (fun (z : Nat) (hz : z ≤ 100) (pr : ByteArray) (hd : Hand) (g c n : Nat) (u : World) (hn : hd.length = n) (hnc : n ≤ c) (hn2 : n ≤ 1000000) (hb : ∀ p ∈ hd, p.1 ≤ 1000000 ∧ p.2.length ≤ 1000000) (RES : Option (Hand × List UInt8)) (hRES : RES = climbed N room.data.toList z hd pr.data.toList)
      (hg : g < u.heap.size) (hc : ∀ i p, hd[i]? = some p → u.cell? ⟨g, 2 * i, none⟩ = some (.int .i64 (p.1 : Int)) ∧ u.cell? ⟨g, 2 * i + 1, none⟩ = some (.string (tx p.2))) (hu : Consts u) =>
    climbed_any N z n H room pr hd g 0 c u ⟨hN2, hN⟩ hz hn hnc hn2 hb hs RES hRES hg (fun i p hp => by rw [Nat.zero_add, Nat.zero_add]; exact hc i p hp) hu)
  obtain ⟨hd, hhd⟩ : ∃ hd, hd = handUp l ns := ⟨_, rfl⟩
  have hdl : hd.length = m := by rw [hhd, handUp_length l ns (by omega), hm]
  have HDA := Lib.hid (show ∀ i (h1 : i < l.length) (h2 : i < ns.length), hd[i]? = some (l[i], ns[i].data.toList) from fun i h1 h2 => by rw [hhd]; exact handUp_at l ns i h1 h2)
  have hdb : ∀ q ∈ hd, q.1 ≤ 1000000 ∧ q.2.length ≤ 1000000 := fun q hq => by
    rw [hhd] at hq
    obtain ⟨h1, h2⟩ := List.of_mem_zip hq
    refine ⟨by have := hlt _ h1; omega, ?_⟩
    obtain ⟨s, hs1, hs2⟩ := List.mem_map.1 h2
    rw [← hs2]
    exact hsz s hs1
  have HDB := Lib.hid hdb
  have HV := Lib.hid (show V = tx (many N room.data.toList H 0 hd pr.data.toList) from by rw [hV, hhd])
  have HR := Lib.hid hr
  have HR2 := Lib.hid hr2
  have HM := Lib.hid hm
  have HNS := Lib.hid hns
  have HDL := Lib.hid hdl
  have HLB := Lib.hid (show ∀ x ∈ l, x ≤ 256 from fun x hx => by have := hlt x hx; omega)
  clear hdb hV hri hr hr2 hm hns hu hlt hsz hs hhd hl8 hdl
  have hmk := fun u => Spots.make_room u m (m : Int) rfl (by omega)
  have hc0 : (w.alloc (.cells #[.int .i64 (N : Int), .int .i64 (H : Int)] 23)).cell? ⟨w.heap.size, 0, none⟩ = some (.int .i64 (N : Int)) := by simp
  have hc1 : (w.alloc (.cells #[.int .i64 (N : Int), .int .i64 (H : Int)] 23)).cell? ⟨w.heap.size, 1, none⟩ = some (.int .i64 (H : Int)) := by simp
  have hl0 : w.heap.size < (w.alloc (.cells #[.int .i64 (N : Int), .int .i64 (H : Int)] 23)).heap.size := by simp
  go_enter Tryd.func17, Tryd.ntmps17
  go_upto_region 1 with (fail)
  generalize w.alloc (.cells #[.int .i64 (N : Int), .int .i64 (H : Int)] 23) = wz at *
  have HC := Lib.hid (fun (u : World) (q : Below wz.heap.size wz u) => (⟨(q.cell (p := ⟨w.heap.size, 0, none⟩) hl0).trans hc0, (q.cell (p := ⟨w.heap.size, 1, none⟩) hl0).trans hc1, hk.below hk.1 (hB0.trans (q.mono hB0.size))⟩ : u.cell? ⟨w.heap.size, 0, none⟩ = some (.int .i64 (N : Int)) ∧ u.cell? ⟨w.heap.size, 1, none⟩ = some (.int .i64 (H : Int)) ∧ Consts u))
  have HB0 := Lib.hid hB0
  have HMK := Lib.hid hmk
  clear hB0 hl0 hk hmk
  go_wp2_with fail
  refine (R1.out _).mono ?_
  rintro e w1 ⟨rfl, hb1⟩
  have HY1 := Lib.hid hb1
  clear hb1 hc0 hc1
  obtain ⟨c0, c1, -⟩ := HC.out _ HY1.out
  go_wp2_with fail
  refine (R2.out _ (HB0.out.trans (HY1.out.mono HB0.out.size))).mono ?_
  rintro e w2 ⟨rfl, hb2⟩
  have HB1 := Lib.hid (HY1.out.trans (hb2.mono HY1.out.size))
  clear hb2 c0 c1 HY1
  have hmk := HMK.out
  go_upto_region 4 with (fail)
  clear hmk hne1 HMK
  have hown0 := World.ownsRow_made (base := w2.heap.size) (e := 57) (size := 2) w2 (madeCells #[.int .i64 0, .string ⟨#[]⟩] (m * 2)) m (Nat.le_refl _) (by unfold maxLen; omega) (by simp [madeCells])
  have HW0 := Lib.hid ((Below.refl w2.heap.size w2).alloc (Nat.le_refl _) (.cells (madeCells #[.int .i64 0, .string ⟨#[]⟩] (m * 2)) 57))
  have HOWN0 := Lib.hid hown0
  clear hown0
  generalize w2.alloc (.cells (madeCells #[.int .i64 0, .string ⟨#[]⟩] (m * 2)) 57) = w3 at *
  go_wp2_with fail
  go_loopw [11, 12, 13, 40] (fun v _ _ i wr => ∃ k : Nat, k ≤ m ∧ i = .int .i64 k ∧ wr.ownsRow w2.heap.size 57 2 v k (Spots.spotsV (hd.take k)) ∧ Below w2.heap.size w2 wr) (fun _ _ _ i _ => m - (intOf i).toNat)
  case atStart => exact ⟨0, by omega, rfl, HOWN0.out, HW0.out⟩
  case round =>
    clear HOWN0 HW0
    obtain ⟨k, hk, rfl, hown, hbel⟩ := hrel
    have HOWN := Lib.hid hown
    have HW := Lib.hid hbel
    clear hown hbel
    by_cases hltk : k < m
    · have hkl : k < l.length := by rw [HM.out]; exact hltk
      have hkn : k < ns.length := by rw [HNS.out]; exact hltk
      obtain ⟨b, o, rfl, hb, hc⟩ := HR.out (by rw [zl_length]; omega)
      obtain ⟨b2, o2, rfl, hb2, hc2⟩ := HR2.out (by omega)
      obtain ⟨x, hx⟩ : ∃ x, x = l[k] := ⟨_, rfl⟩
      obtain ⟨Y, hY⟩ : ∃ Y, Y = ns[k] := ⟨_, rfl⟩
      have hbel := HB0.out.trans ((HB1.out.trans (HW.out.mono HB1.out.size)).mono HB0.out.size)
      have hcc := (hbel.cell (p := ⟨b, o + k, none⟩) hb).trans (hc k (x : Int) (zl_at (by rw [hx]; exact List.getElem?_eq_getElem hkl)))
      have hcc2 := (hbel.cell (p := ⟨b2, o2 + k, none⟩) hb2).trans (hc2 k Y (by rw [hY]; exact List.getElem?_eq_getElem hkn))
      have hstep : hd.take (k + 1) = hd.take k ++ [(x, Y.data.toList)] := by
        have hh := HDA.out k hkl hkn
        have hkd : k < hd.length := by rw [HDL.out]; exact hltk
        rw [List.take_succ_eq_append_getElem hkd]
        rw [List.getElem?_eq_getElem hkd] at hh
        rw [Option.some.inj hh, hx, hY]
      have HS := Lib.hid hstep
      clear hstep hx hY hc hc2 hkl hkn hbel
      go_wp2_with (at_builtin; refine Spots.append_spot rfl _ _ rfl w2.heap.size k _ (hd.take k) rfl (HOWN.out.alloc _) wr.heap.size 1 (x, Y.data.toList) rfl (Spots.spot_one _ _ _ _) (by omega) (Nat.le_trans HW.out.size (by simp)) ?_)
      intro v' w4 hown4 hgrow4
      have HW4 := Lib.hid ((HW.out.alloc HW.out.size (.cells #[.int .i64 (x : Int), .string Y] 57)).grown hgrow4 (Nat.le_trans HW.out.size (by simp)) (fun j hj => (HOWN.out.lt j hj).1))
      rw [← HS.out] at hown4
      have HOWN4 := Lib.hid hown4
      clear hown4 hgrow4 HOWN HW
      go_wp2
      go_roundw
      case rel => exact ⟨k + 1, by omega, by go_num, HOWN4.out, HW4.out⟩
      case measure => simp [intOf]; omega
    · obtain rfl : k = m := by omega
      have hown := HOWN.out
      rw [List.take_of_length_le (by rw [HDL.out]; exact Nat.le_refl _)] at hown
      have HOWN2 := Lib.hid hown
      clear hown HOWN
      obtain ⟨c0, c1, -⟩ := HC.out _ (HB1.out.trans (HW.out.mono HB1.out.size))
      go_wp2_with fail
      clear c0 c1
      go_loopw [4, 11, 14, 15, 16, 17, 57] (fun pv v _ _ _ _ i wr => ∃ (z n : Nat) (h : Hand) (p : ByteArray), z ≤ H ∧ i = .int .i64 z ∧ pv = .string p ∧ wr.ownsRow w2.heap.size 57 2 v n (Spots.spotsV h) ∧ h.length = n ∧ 0 < n ∧ n ≤ k ∧ (∀ q ∈ h, q.1 ≤ 1000000 ∧ q.2.length ≤ 1000000) ∧ V = tx (many N room.data.toList (H - z) z h p.data.toList) ∧ Below w2.heap.size w2 wr) (fun _ _ _ _ _ _ i _ => H - (intOf i).toNat)
      case atStart => exact ⟨0, k, hd, pr, by omega, rfl, rfl, HOWN2.out, HDL.out, h0, Nat.le_refl _, HDB.out, HV.out, HW.out⟩
      case round =>
        clear HOWN2 HW
        obtain ⟨z, n, hh, p, hz, rfl, rfl, hown, hhl, hn0, hnk, hhb, hres, hbel⟩ := hrel
        obtain ⟨g, c, rfl, hg, hnc, hgl, -, hcell⟩ := Spots.spots_row hown hn0
        have HW := Lib.hid hbel
        have HRES := Lib.hid hres
        have HHB := Lib.hid hhb
        have HHL := Lib.hid hhl
        have HCE := Lib.hid hcell
        have HGL := Lib.hid hgl
        clear hbel hres hhb hown hcell hg hgl
        by_cases hlt : z < H
        · obtain ⟨c0, c1, hk5⟩ := HC.out _ (HB1.out.trans (HW.out.mono HB1.out.size))
          have HK5 := Lib.hid hk5
          clear hk5
          cases hcl : climbed N room.data.toList z hh p.data.toList with
          | none =>
            have RC1 := Lib.hid (show Calls Tryd.prog 37 #[.agg #[.int .i64 (N : Int), .int .i64 (H : Int)], .string room, .int .i64 (z : Int), .slice (some ⟨g, 0, none⟩) n c, .string p] wr fun e w' => Below wr.heap.size wr w' ∧ e = .returned (.tuple #[.slice none 0 0, .string ⟨#[]⟩, .bool false]) from
              RC.out z (by omega) p hh g c n wr HHL.out hnc (by omega) HHB.out none hcl.symm HGL.out HCE.out HK5.out)
            have hVV : V = ⟨#[]⟩ := by
              rw [HRES.out, show H - z = (H - z - 1) + 1 by omega, many, hcl]
            clear hcl
            go_wp2_with fail
            refine RC1.out.mono ?_
            rintro e w5 ⟨hb5, rfl⟩
            have HB5 := Lib.hid (HB0.out.trans ((HB1.out.trans ((HW.out.trans (hb5.mono HW.out.size)).mono HB1.out.size)).mono HB0.out.size))
            clear hb5
            subst hVV
            go_wp2
            go_ret
            exact ⟨rfl, HB5.out⟩
          | some r =>
            have RC1 := Lib.hid (show Calls Tryd.prog 37 #[.agg #[.int .i64 (N : Int), .int .i64 (H : Int)], .string room, .int .i64 (z : Int), .slice (some ⟨g, 0, none⟩) n c, .string p] wr fun e w' => Below wr.heap.size wr w' ∧ ∃ v, e = .returned (.tuple #[v, .string (tx r.2), .bool true]) ∧ w'.ownsRow wr.heap.size 57 2 v r.1.length (Spots.spotsV r.1) from
              RC.out z (by omega) p hh g c n wr HHL.out hnc (by omega) HHB.out (some r) hcl.symm HGL.out HCE.out HK5.out)
            have hsm := climbed_small N room.data.toList z hN hh p.data.toList r hcl (fun q hq => (HHB.out q hq).1)
            have hVV : V = tx (many N room.data.toList (H - (z + 1)) (z + 1) r.1 r.2) := by
              rw [HRES.out, show H - z = (H - (z + 1)) + 1 by omega, many, hcl]
            obtain ⟨pp, hpp⟩ : ∃ pp, pp = tx r.2 := ⟨_, rfl⟩
            have hppl : r.2 = pp.data.toList := by rw [hpp]
            rw [hppl] at hVV
            rw [← hpp] at RC1
            have HVV := Lib.hid hVV
            have HSM := Lib.hid hsm
            clear hcl hVV hsm hpp hppl
            go_wp2_with fail
            refine RC1.out.mono ?_
            rintro e w5 ⟨hb5, v5, rfl, hown5⟩
            have HW5 := Lib.hid (HW.out.trans (hb5.mono HW.out.size))
            have HOWN5 := Lib.hid (Strs.own_mono hown5 HW.out.size)
            clear hb5 hown5 c0 c1
            go_wp2
            go_roundw
            case rel => exact ⟨z + 1, r.1.length, r.1, pp, by omega, by go_num, rfl, HOWN5.out, rfl, Nat.pos_of_ne_zero (HSM.out.2.2 (by rw [HHL.out]; omega)), Nat.le_trans HSM.out.2.1 (by rw [HHL.out]; exact hnk), HSM.out.1, HVV.out, HW5.out⟩
            case measure => simp [intOf]; omega
        · obtain rfl : z = H := by omega
          obtain ⟨q, tl, hq⟩ : ∃ q tl, hh = q :: tl := by
            cases hh with
            | nil => exact absurd HHL.out (by simp; omega)
            | cons q tl => exact ⟨q, tl, rfl⟩
          have hce := (HCE.out 0 q (by rw [hq]; rfl)).2
          rw [Nat.mul_zero, Nat.zero_add] at hce
          have hres := HRES.out
          rw [Nat.sub_self, many, hq] at hres
          by_cases hp : p = ⟨#[]⟩
          · subst hp
            have hVV : V = tx q.2 := by rw [hres]; rfl
            rw [← hVV] at hce
            clear hVV hres hq
            go_wp2
            go_ret
            exact ⟨rfl, HB0.out.trans ((HB1.out.trans (HW.out.mono HB1.out.size)).mono HB0.out.size)⟩
          · have hpl : ¬ p.data.toList = [] := fun e => hp (by
              apply ByteArray.ext
              apply Array.ext'
              exact e)
            have hVV : V = ⟨#[]⟩ := by rw [hres, if_neg hpl]
            subst hVV
            have g1 : p.toList.isEmpty = false := by
              rw [Go.ByteArray.toList_eq]
              cases hx : p.data.toList with
              | nil => exact absurd hx hpl
              | cons _ _ => rfl
            have g2 : (!p.toList.isEmpty) = true := by rw [g1]; rfl
            clear hres hq hp hpl
            go_wp2
            go_ret
            exact ⟨rfl, HB0.out.trans ((HB1.out.trans (HW.out.mono HB1.out.size)).mono HB0.out.size)⟩
end Go.Proofs.YtncafbejgidliaaDoor.Grv
