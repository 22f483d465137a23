/-
  GroveMany: proofs, and what many leaves come to, are the document's, of any shapes, leaves and bytes: for every input, the law answers true and changes nothing that was there. Condition: the constant table lies as the program's text lays it (the card ties it).
-/
import Derived.Test.YtncafbejgidliaaDoorRGrvAll
import Derived.Test.YtncafbejgidliaaDoorConstFrame
import Derived.Test.YtncafbejgidliaaDoorCards
import Derived.Test.YtncafbejgidliaaDoorOpenP
import Derived.Test.YtncafbejgidliaaDoorTie
import Derived.SevenTiedAt
import Derived.SliceStrings
import Derived.ChangeSlices
namespace Go.Proofs.YtncafbejgidliaaDoor.LawMany
open Go.ChangeShapes Go.WideShapes Go.ChangeAt Go.ChangeMaps Go.RowKit Mur Sha Chn Grv Go.Proofs.YtncafbejgidliaaDoor.Open
set_option maxRecDepth 100000

theorem ok_yes (n h : Int) (zs : List Int) (m : Nat) (hm : zs.length = m) (hr : Right n h) (ho : okL (2 ^ h.toNat) zs = true) : ∃ (N H : Nat) (l : List Nat), n = (N : Int) ∧ h = (H : Int) ∧ zs = zl l ∧ l.length = m ∧ 0 < m ∧ Up l ∧ ∀ x ∈ l, x < 2 ^ H := by
  unfold okL at ho
  rw [Bool.and_eq_true] at ho
  obtain ⟨l, rfl, h1, h2, -⟩ := okI_nat _ zs 0 (by omega) ho.1
  rw [zl_length] at hm
  refine ⟨n.toNat, h.toNat, l, by have := hr.1; omega, by have := hr.2.2.1; omega, rfl, hm, by have := ho.2; rw [decide_eq_true_iff, zl_length] at this; omega, h1, fun x hx => ?_⟩
  have h3 := h2 x hx
  have h4 : ((x : Nat) : Int) < ((2 ^ h.toNat : Nat) : Int) := by rw [Int.natCast_pow]; exact h3
  exact Int.ofNat_lt.1 h4
theorem proof_both (n h : Int) (s r : ByteArray) (hs : s.size + r.size ≤ 400000) (zs : List Int) (m : Nat) (a : Option Addr) (cap : Nat) (hm : zs.length = m) (hm2 : m ≤ 1000000) : ∃ V : ByteArray,
    (∀ u, Consts u → IntsR u a zs → Calls Tryd.prog 16 #[.agg #[.int .i64 n, .int .i64 h], .string s, .string r, .slice a m cap] u fun e w' => e = .returned (.string V) ∧ Below u.heap.size u w') ∧
    (∀ u, IntsR u a zs → Calls Tryd.prog 15 #[.agg #[.int .i64 n, .int .i64 h], .string s, .string r, .slice a m cap] u fun e w' => e = .returned (.string V) ∧ Below u.heap.size u w') := by
  by_cases hyes : Right n h ∧ okL (2 ^ h.toNat) zs = true
  · obtain ⟨N, H, l, rfl, rfl, rfl, hl, h0, hu, hlt⟩ := ok_yes n h zs m hm hyes.1 hyes.2
    exact ⟨_, fun u hk hi => proof_any N H s r _ l m a cap u hyes.1 hi hl hm2 h0 hu hlt (by omega) rfl hk, fun u hi => RefGrv.proof_any N H s r _ l m a cap u hyes.1 hi hl hm2 h0 hu hlt hs rfl⟩
  · exact ⟨_, fun u _ hi => proof_no n h s r zs m a cap u hi hm hm2 hyes, fun u hi => RefGrv.proof_no n h s r zs m a cap u hi hm hm2 hyes⟩
theorem many_both (n h : Int) (r pr : ByteArray) (hs : r.size ≤ 400000) (zs : List Int) (m : Nat) (a : Option Addr) (cap : Nat) (hm : zs.length = m) (hm2 : m ≤ 1000000) (ns : List ByteArray) (k : Nat) (a2 : Option Addr) (cap2 : Nat) (hk : ns.length = k) (hsz : ∀ s ∈ ns, s.size ≤ 1000) : ∃ V : ByteArray,
    (∀ u, Consts u → IntsR u a zs → StrsR u a2 ns → Calls Tryd.prog 17 #[.agg #[.int .i64 n, .int .i64 h], .string r, .slice a m cap, .slice a2 k cap2, .string pr] u fun e w' => e = .returned (.string V) ∧ Below u.heap.size u w') ∧
    (∀ u, IntsR u a zs → StrsR u a2 ns → Calls Tryd.prog 18 #[.agg #[.int .i64 n, .int .i64 h], .string r, .slice a m cap, .slice a2 k cap2, .string pr] u fun e w' => e = .returned (.string V) ∧ Below u.heap.size u w') := by
  by_cases hyes : Right n h ∧ okL (2 ^ h.toNat) zs = true ∧ k = m
  · obtain ⟨N, H, l, rfl, rfl, rfl, hl, h0, hu, hlt⟩ := ok_yes n h zs m hm hyes.1 hyes.2.1
    obtain rfl := hyes.2.2
    exact ⟨_, fun u hc hi hj => many_any N H r pr _ l ns k a a2 cap cap2 u hyes.1 hi hj hl hm2 hk h0 hu hlt (fun s hx => by have := hsz s hx; omega) (by omega) rfl hc, fun u hi hj => RefGrv.many_any N H r pr _ l ns k a a2 cap cap2 u hyes.1 hi hj hl hm2 hk h0 hu hlt hsz hs rfl⟩
  · exact ⟨_, fun u _ hi _ => many_no n h r pr zs m k a a2 cap cap2 u hi hm hm2 hyes, fun u hi _ => RefGrv.many_no n h r pr zs m k a a2 cap cap2 u hi hm hm2 hyes⟩

theorem StrsR.take {w : World} {a : Option Addr} {l : List ByteArray} (h : StrsR w a l) (k : Nat) : StrsR w a (l.take k) := fun hl => by
  obtain ⟨b, o, ha, hb, hc⟩ := h (by intro e; rw [List.eq_nil_of_length_eq_zero e] at hl; simp at hl)
  refine ⟨b, o, ha, hb, fun i x hx => hc i x ?_⟩
  rw [List.getElem?_take] at hx
  split at hx
  · exact hx
  · cases hx

set_option maxHeartbeats 6400000 in
theorem walk (n h : Int) (a : Option Addr) (m cap : Nat) (a2 : Option Addr) (q cap2 : Nat) (zs : List Int) (ns : List ByteArray) (w : World) (hi : IntsR w a zs) (hzl : zs.length = m) (hj : StrsR w a2 ns) (hnl : ns.length = q) (hcap : q ≤ cap2) (hx1 : m ≤ 9223372036854775807) (_hx2 : cap2 ≤ 9223372036854775807) (hk : Consts w) :
    Calls Tryd.prog 5 #[.agg #[.int .i64 n, .int .i64 h], .slice a m cap, .slice a2 q cap2] w
      fun e w' => e = .returned (.bool true) ∧ Below w.heap.size w w' := by
  have RA := Lib.hid (fun u hu => awake_any u hu)
  have hB0 := ((Below.refl w.heap.size w).alloc (Nat.le_refl _) (.cells #[.int .i64 n, .int .i64 h] 23))
  have hc0 : (w.alloc (.cells #[.int .i64 n, .int .i64 h] 23)).cell? ⟨w.heap.size, 0, none⟩ = some (.int .i64 n) := by simp
  have hc1 : (w.alloc (.cells #[.int .i64 n, .int .i64 h] 23)).cell? ⟨w.heap.size, 1, none⟩ = some (.int .i64 h) := by simp
  have hl0 : w.heap.size < (w.alloc (.cells #[.int .i64 n, .int .i64 h] 23)).heap.size := by simp
  go_enter Tryd.func5, Tryd.ntmps5
  go_upto_region 1 with (fail)
  generalize w.alloc (.cells #[.int .i64 n, .int .i64 h] 23) = wz at *
  have HC := Lib.hid (fun (u : World) (q : Below wz.heap.size wz u) => (⟨(q.cell (p := ⟨w.heap.size, 0, none⟩) hl0).trans hc0, (q.cell (p := ⟨w.heap.size, 1, none⟩) hl0).trans hc1, hk.below hk.1 (hB0.trans (q.mono hB0.size)), hi.below (hB0.trans (q.mono hB0.size)), hj.below (hB0.trans (q.mono hB0.size))⟩ :
    u.cell? ⟨w.heap.size, 0, none⟩ = some (.int .i64 n) ∧ u.cell? ⟨w.heap.size, 1, none⟩ = some (.int .i64 h) ∧ Consts u ∧ IntsR u a zs ∧ StrsR u a2 ns))
  have HB0 := Lib.hid hB0
  have HZL := Lib.hid hzl
  have HNL := Lib.hid hnl
  clear hB0 hl0 hk hi hj hzl hnl
  by_cases hg : n ≤ 4 ∧ h ≤ 3 ∧ m ≤ 10 ∧ q ≤ 12
  · have g1 : decide (4 < n) = false := by simp; omega
    have g2 : decide (3 < h) = false := by simp; omega
    have g3 : decide ((10 : Int) < (m : Int)) = false := by simp; omega
    have g4 : decide (10 < m) = false := by simp; omega
    have g5 : decide ((12 : Int) < (q : Int)) = false := by simp; omega
    have g6 : decide (12 < q) = false := by simp; omega
    go_wp2_with fail
    clear g1 g2 g3 g4 g5 g6 hc0 hc1
    go_loopw [8, 32] (fun _ i wr => ∃ k : Nat, k ≤ q ∧ i = .int .i64 k ∧ (∀ s ∈ ns.take k, s.size ≤ 200) ∧ Below wz.heap.size wz wr) (fun _ i _ => q - (intOf i).toNat)
    case atStart => exact ⟨0, by omega, rfl, fun s hs => (by cases hs), Below.refl _ _⟩
    case round =>
      obtain ⟨k, hkq, rfl, hsm, hbel⟩ := hrel
      have HW := Lib.hid hbel
      have HSM := Lib.hid hsm
      clear hbel hsm
      by_cases hlt : k < q
      · have hkl : k < ns.length := by rw [HNL.out]; exact hlt
        obtain ⟨b2, o2, rfl, hb2, hc2⟩ := (HC.out _ HW.out).2.2.2.2 (by omega)
        obtain ⟨X, hX⟩ : ∃ X, X = ns[k] := ⟨_, rfl⟩
        have hcc := hc2 k X (by rw [hX]; exact List.getElem?_eq_getElem hkl)
        clear hc2
        by_cases hbig : 200 < X.size
        · have g1 : decide ((200 : Int) < (X.size : Int)) = true := by simp; omega
          have g2 : decide (200 < X.size) = true := by simp [hbig]
          clear hX hbig
          go_wp2_with fail
          refine (RA.out _ (HC.out _ HW.out).2.2.1).mono ?_
          rintro e w5 ⟨rfl, hb5⟩
          have HB5 := Lib.hid (HB0.out.trans ((HW.out.trans (hb5.mono HW.out.size)).mono HB0.out.size))
          clear hb5
          go_wp2
          go_ret
          exact ⟨rfl, HB5.out⟩
        · have g1 : decide ((200 : Int) < (X.size : Int)) = false := by simp; omega
          have g2 : decide (200 < X.size) = false := by simp; omega
          have HS2 := Lib.hid (show ∀ s ∈ ns.take (k + 1), s.size ≤ 200 from fun s hs => by
            rw [List.take_succ_eq_append_getElem hkl] at hs
            rcases List.mem_append.1 hs with hs | hs
            · exact HSM.out s hs
            · simp only [List.mem_singleton] at hs
              rw [hs, ← hX]
              omega)
          clear hX hbig
          go_wp2
          go_roundw
          case rel => exact ⟨k + 1, by omega, by go_num, HS2.out, HW.out⟩
          case measure => simp [intOf]; omega
      · obtain rfl : k = q := by omega
        have hsz : ∀ s ∈ ns, s.size ≤ 1000 := fun s hs => by
          have := HSM.out s (by rw [List.take_of_length_le (by rw [HNL.out]; exact Nat.le_refl _)]; exact hs)
          omega
        obtain ⟨j, hj⟩ : ∃ j, j = min k m := ⟨_, rfl⟩
        have hmin : min (k : Int) (m : Int) = (j : Int) := by omega
        have hjk : j ≤ k := by omega
        have hjc : (j : Int) ≤ (cap2 : Int) := by omega
        have hjl : (ns.take j).length = j := by rw [List.length_take, HNL.out]; omega
        obtain ⟨PR, hp1, hp2⟩ := proof_both n h ⟨#[115]⟩ ⟨#[114]⟩ (by decide) zs m a cap HZL.out (by omega)
        obtain ⟨V1, hm1, hm2⟩ := many_both n h ⟨#[114]⟩ PR (by decide) zs m a cap HZL.out (by omega) (ns.take j) j a2 cap2 hjl (fun s hs => hsz s (List.mem_of_mem_take hs))
        obtain ⟨V2, hm3, hm4⟩ := many_both n h ⟨#[114]⟩ ⟨#[97, 98]⟩ (by decide) zs m a cap HZL.out (by omega) ns k a2 cap2 HNL.out hsz
        have HP1 := Lib.hid hp1
        have HP2 := Lib.hid hp2
        have HM1 := Lib.hid hm1
        have HM2 := Lib.hid hm2
        have HM3 := Lib.hid hm3
        have HM4 := Lib.hid hm4
        have hj0 : (0 : Int) ≤ (j : Int) := by omega
        have hjt : (j : Int).toNat = j := by omega
        clear hp1 hp2 hm1 hm2 hm3 hm4 hj hjl hsz
        obtain ⟨c0, c1, hk5, hi5, hj5⟩ := HC.out _ HW.out
        have HI5 := Lib.hid hi5
        clear hk5 hi5 hj5
        go_wp2_with fail
        refine (HP2.out _ HI5.out).mono ?_
        rintro e w5 ⟨rfl, hb5⟩
        have HW5 := Lib.hid (HW.out.trans (hb5.mono HW.out.size))
        clear hb5 c0 c1
        go_upto_region 11 with (fail)
        have HC5 := Lib.hid (fun (u : World) (x : Below w5.heap.size w5 u) => HC.out u (HW5.out.trans (x.mono HW5.out.size)))
        have S1 := Lib.hid (fun (u : World) (x : Below w5.heap.size w5 u) => HP1.out u (HC5.out u x).2.2.1 (HC5.out u x).2.2.2.1)
        have S2 := Lib.hid (fun (u : World) (x : Below w5.heap.size w5 u) => HM1.out u (HC5.out u x).2.2.1 (HC5.out u x).2.2.2.1 (StrsR.take (HC5.out u x).2.2.2.2 j))
        have S3 := Lib.hid (fun (u : World) (x : Below w5.heap.size w5 u) => HM2.out u (HC5.out u x).2.2.2.1 (StrsR.take (HC5.out u x).2.2.2.2 j))
        have S4 := Lib.hid (fun (u : World) (x : Below w5.heap.size w5 u) => HM3.out u (HC5.out u x).2.2.1 (HC5.out u x).2.2.2.1 (HC5.out u x).2.2.2.2)
        have S5 := Lib.hid (fun (u : World) (x : Below w5.heap.size w5 u) => HM4.out u (HC5.out u x).2.2.2.1 (HC5.out u x).2.2.2.2)
        have SA := Lib.hid (fun (u : World) (x : Below w5.heap.size w5 u) => RA.out u (HC5.out u x).2.2.1)
        clear hmin hj0 hjt hjc hjk hcap hx1 _hx2 hg hlt hkq
        refine Steady.region 32 (by kernel_rfl) (by kernel_rfl) (fun u => Below w5.heap.size w5 u) ((Below.refl _ _).drew) ?_
        simp only [List.take_succ_cons, List.take_zero, List.drop_succ_cons, List.drop_zero]
        refine Steady.take ?_ rfl (by intro u hu; obtain ⟨c0, c1, -⟩ := HC5.out u hu; go_simp; with_reducible rfl) ?_
        simp only [Act.put, List.setIfInBounds_toArray, List.set_cons_zero, List.set_cons_succ]
        refine Steady.take ?_ rfl (by intro u hu; go_simp; with_reducible rfl) ?_
        simp only [Act.put, List.setIfInBounds_toArray, List.set_cons_zero, List.set_cons_succ]
        refine Steady.call _ _ _ rfl ?_ (keptIf S1.out) ?_
        · intro u
          go_simp
        simp only [Act.put, List.setIfInBounds_toArray, List.set_cons_zero, List.set_cons_succ]
        refine Steady.take ?_ rfl (by intro u hu; go_simp; with_reducible rfl) ?_
        simp only [Act.put, List.setIfInBounds_toArray, List.set_cons_zero, List.set_cons_succ]
        refine Steady.take ?_ rfl (by intro u hu; go_simp; with_reducible rfl) ?_
        simp only [Act.put, List.setIfInBounds_toArray, List.set_cons_zero, List.set_cons_succ]
        refine Steady.take ?_ rfl (by intro u hu; go_simp; with_reducible rfl) ?_
        simp only [Act.put, List.setIfInBounds_toArray, List.set_cons_zero, List.set_cons_succ]
        refine Steady.take ?_ rfl (by intro u hu; obtain ⟨c0, c1, -⟩ := HC5.out u hu; go_simp; with_reducible rfl) ?_
        simp only [Act.put, List.setIfInBounds_toArray, List.set_cons_zero, List.set_cons_succ]
        refine Steady.take ?_ rfl (by intro u hu; go_simp; with_reducible rfl) ?_
        simp only [Act.put, List.setIfInBounds_toArray, List.set_cons_zero, List.set_cons_succ]
        refine Steady.take ?_ rfl (by intro u hu; go_simp; with_reducible rfl) ?_
        simp only [Act.put, List.setIfInBounds_toArray, List.set_cons_zero, List.set_cons_succ]
        refine Steady.take ?_ rfl (by intro u hu; go_simp; with_reducible rfl) ?_
        simp only [Act.put, List.setIfInBounds_toArray, List.set_cons_zero, List.set_cons_succ]
        refine Steady.call _ _ _ rfl ?_ (keptIf S2.out) ?_
        · intro u
          go_simp
        simp only [Act.put, List.setIfInBounds_toArray, List.set_cons_zero, List.set_cons_succ]
        refine Steady.take ?_ rfl (by intro u hu; obtain ⟨c0, c1, -⟩ := HC5.out u hu; go_simp; with_reducible rfl) ?_
        simp only [Act.put, List.setIfInBounds_toArray, List.set_cons_zero, List.set_cons_succ]
        refine Steady.take ?_ rfl (by intro u hu; go_simp; with_reducible rfl) ?_
        simp only [Act.put, List.setIfInBounds_toArray, List.set_cons_zero, List.set_cons_succ]
        refine Steady.take ?_ rfl (by intro u hu; go_simp; with_reducible rfl) ?_
        simp only [Act.put, List.setIfInBounds_toArray, List.set_cons_zero, List.set_cons_succ]
        refine Steady.take ?_ rfl (by intro u hu; go_simp; with_reducible rfl) ?_
        simp only [Act.put, List.setIfInBounds_toArray, List.set_cons_zero, List.set_cons_succ]
        refine Steady.call _ _ _ rfl ?_ (keptIf S3.out) ?_
        · intro u
          go_simp
        simp only [Act.put, List.setIfInBounds_toArray, List.set_cons_zero, List.set_cons_succ]
        refine Steady.take ?_ rfl (by intro u hu; go_simp; with_reducible rfl) ?_
        simp only [Act.put, List.setIfInBounds_toArray, List.set_cons_zero, List.set_cons_succ]
        refine Steady.take ?_ rfl (by intro u hu; go_simp; with_reducible rfl) ?_
        simp only [Act.put, List.setIfInBounds_toArray, List.set_cons_zero, List.set_cons_succ]
        refine Steady.take ?_ rfl (by intro u hu; go_simp; with_reducible rfl) ?_
        simp only [Act.put, List.setIfInBounds_toArray, List.set_cons_zero, List.set_cons_succ]
        refine Steady.take ?_ rfl (by intro u hu; obtain ⟨c0, c1, -⟩ := HC5.out u hu; go_simp; with_reducible rfl) ?_
        simp only [Act.put, List.setIfInBounds_toArray, List.set_cons_zero, List.set_cons_succ]
        refine Steady.take ?_ rfl (by intro u hu; go_simp; with_reducible rfl) ?_
        simp only [Act.put, List.setIfInBounds_toArray, List.set_cons_zero, List.set_cons_succ]
        refine Steady.take ?_ rfl (by intro u hu; go_simp; with_reducible rfl) ?_
        simp only [Act.put, List.setIfInBounds_toArray, List.set_cons_zero, List.set_cons_succ]
        refine Steady.call _ _ _ rfl ?_ (keptIf S4.out) ?_
        · intro u
          go_simp
        simp only [Act.put, List.setIfInBounds_toArray, List.set_cons_zero, List.set_cons_succ]
        refine Steady.take ?_ rfl (by intro u hu; obtain ⟨c0, c1, -⟩ := HC5.out u hu; go_simp; with_reducible rfl) ?_
        simp only [Act.put, List.setIfInBounds_toArray, List.set_cons_zero, List.set_cons_succ]
        refine Steady.take ?_ rfl (by intro u hu; go_simp; with_reducible rfl) ?_
        simp only [Act.put, List.setIfInBounds_toArray, List.set_cons_zero, List.set_cons_succ]
        refine Steady.take ?_ rfl (by intro u hu; go_simp; with_reducible rfl) ?_
        simp only [Act.put, List.setIfInBounds_toArray, List.set_cons_zero, List.set_cons_succ]
        refine Steady.call _ _ _ rfl ?_ (keptIf S5.out) ?_
        · intro u
          go_simp
        simp only [Act.put, List.setIfInBounds_toArray, List.set_cons_zero, List.set_cons_succ]
        refine Steady.take ?_ rfl (by intro u hu; go_simp; with_reducible rfl) ?_
        simp only [Act.put, List.setIfInBounds_toArray, List.set_cons_zero, List.set_cons_succ]
        refine Steady.take ?_ rfl (by intro u hu; go_simp; with_reducible rfl) ?_
        simp only [Act.put, List.setIfInBounds_toArray, List.set_cons_zero, List.set_cons_succ]
        refine Steady.take ?_ rfl (by intro u hu; go_simp; with_reducible rfl) ?_
        simp only [Act.put, List.setIfInBounds_toArray, List.set_cons_zero, List.set_cons_succ]
        refine Steady.call _ _ _ rfl ?_ (keptIf SA.out) ?_
        · intro u
          go_simp
        simp only [Act.put, List.setIfInBounds_toArray, List.set_cons_zero, List.set_cons_succ]
        refine Steady.take ?_ rfl (by intro u hu; go_simp; with_reducible rfl) ?_
        simp only [Act.put, List.setIfInBounds_toArray, List.set_cons_zero, List.set_cons_succ]
        refine Steady.nil ?_
        intro w7 hb7
        have HW7 := Lib.hid (HB0.out.trans ((HW5.out.trans (hb7.mono HW5.out.size)).mono HB0.out.size))
        clear hb7
        go_wp2
        go_ret
        exact ⟨rfl, HW7.out⟩
  · by_cases e0 : n ≤ 4
    · have d00 : decide (4 < n) = false := by simp; omega
      by_cases e1 : h ≤ 3
      · have d10 : decide (3 < h) = false := by simp; omega
        by_cases e2 : m ≤ 10
        · have d20 : decide ((10 : Int) < (m : Int)) = false := by simp; omega
          have d21 : decide (10 < m) = false := by simp; omega
          have d30 : decide ((12 : Int) < (q : Int)) = true := by simp; omega
          have d31 : decide (12 < q) = true := by simp; omega
          clear hg
          go_wp2_with fail
          refine (RA.out _ (HC.out _ (Below.refl _ _)).2.2.1).mono ?_
          rintro e w1 ⟨rfl, hb1⟩
          have HB1 := Lib.hid (HB0.out.trans (hb1.mono HB0.out.size))
          clear hb1
          go_wp2
          go_ret
          exact ⟨rfl, HB1.out⟩
        · have d20 : decide ((10 : Int) < (m : Int)) = true := by simp; omega
          have d21 : decide (10 < m) = true := by simp; omega
          clear hg
          go_wp2_with fail
          refine (RA.out _ (HC.out _ (Below.refl _ _)).2.2.1).mono ?_
          rintro e w1 ⟨rfl, hb1⟩
          have HB1 := Lib.hid (HB0.out.trans (hb1.mono HB0.out.size))
          clear hb1
          go_wp2
          go_ret
          exact ⟨rfl, HB1.out⟩
      · have d10 : decide (3 < h) = true := by simp; omega
        clear hg
        go_wp2_with fail
        refine (RA.out _ (HC.out _ (Below.refl _ _)).2.2.1).mono ?_
        rintro e w1 ⟨rfl, hb1⟩
        have HB1 := Lib.hid (HB0.out.trans (hb1.mono HB0.out.size))
        clear hb1
        go_wp2
        go_ret
        exact ⟨rfl, HB1.out⟩
    · have d00 : decide (4 < n) = true := by simp; omega
      clear hg
      go_wp2_with fail
      refine (RA.out _ (HC.out _ (Below.refl _ _)).2.2.1).mono ?_
      rintro e w1 ⟨rfl, hb1⟩
      have HB1 := Lib.hid (HB0.out.trans (hb1.mono HB0.out.size))
      clear hb1
      go_wp2
      go_ret
      exact ⟨rfl, HB1.out⟩
theorem nums_at {w : World} {a : Addr} {zs : List Int} (h : ∀ i, i < zs.length → w.cell? (a.add i) = some (.int .i64 (zs.getD i 0))) (hp : 0 < zs.length) :
    ∃ b off, a = ⟨b, off, none⟩ ∧ b < w.heap.size ∧ ∀ j, j < zs.length → w.cell? ⟨b, off + j, none⟩ = some (.int .i64 (zs.getD j 0)) := by
  obtain ⟨b, off, spot⟩ := a
  have hspot : spot = none := by simpa [Addr.add] using World.cell?_spot (h 0 hp)
  subst hspot
  have hc : ∀ j, j < zs.length → w.cell? ⟨b, off + j, none⟩ = some (.int .i64 (zs.getD j 0)) := fun j hj => by rw [← Go.WideShapes.add_plain]; exact h j hj
  refine ⟨b, off, rfl, ?_, hc⟩
  have h0 := hc 0 hp
  rcases Nat.lt_or_ge b w.heap.size with h' | h'
  · exact h'
  · simp [World.cell?, Array.getElem?_eq_none h'] at h0
theorem strs_at {w : World} {a : Addr} {zs : List ByteArray} (h : ∀ i, i < zs.length → w.cell? (a.add i) = some (.string (zs.getD i ByteArray.empty))) (hp : 0 < zs.length) :
    ∃ b off, a = ⟨b, off, none⟩ ∧ b < w.heap.size ∧ ∀ j, j < zs.length → w.cell? ⟨b, off + j, none⟩ = some (.string (zs.getD j ByteArray.empty)) := by
  obtain ⟨b, off, spot⟩ := a
  have hspot : spot = none := by simpa [Addr.add] using World.cell?_spot (h 0 hp)
  subst hspot
  have hc : ∀ j, j < zs.length → w.cell? ⟨b, off + j, none⟩ = some (.string (zs.getD j ByteArray.empty)) := fun j hj => by rw [← Go.WideShapes.add_plain]; exact h j hj
  refine ⟨b, off, rfl, ?_, hc⟩
  have h0 := hc 0 hp
  rcases Nat.lt_or_ge b w.heap.size with h' | h'
  · exact h'
  · simp [World.cell?, Array.getElem?_eq_none h'] at h0
theorem laidOut : laidOutB Tryd.prog = true := by kernel_rfl

set_option maxRecDepth 100000 in
theorem lifted (os : Os) (started : os.Started) (H : Type) (enc : TypeId × Value → H) :
    ReturnsInHanded {} Tryd.checked os 5 .any (fun w args => (Rows.groveManySpec.pre enc Tryd.prog Tryd.f5 [] false w args ∧ laidMetH Tryd.prog laidL w) ∧ sizedMet enc Tryd.prog Tryd.f5 (OpenSpec.ofChange Rows.groveManySpec) false w args)
      (Rows.groveManySpec.post enc Tryd.prog Tryd.f5 false true false false) := by
  refine returnsInHanded_of_change_and (C := Tryd.checked) (X := fun w _ => laidMetH Tryd.prog laidL w) (fun _ _ _ hh h => h.of_heap hh) own started (by kernel_rfl) Tryd.func5
    (ChangeSpec.witness_shaped (enc := enc) (C := Tryd.checked) (os := os) (X := fun w _ => laidMetH Tryd.prog laidL w) false (World.doorLaid Tryd.prog 400 os) #[.agg #[.int .i64 0, .int .i64 0], .slice none 0 0, .slice none 0 0] 8 rfl (World.shaped_of_RefB (by kernel_rfl) (by kernel_rfl)) (by kernel_rfl) (by kernel_rfl) (by kernel_rfl) (door_met os _)) ?_
  intro W base args ds gs before hval0 hW _ hsz0 hL _
  have hval : ∀ (j : Nat) t v, Tryd.f5.params[j]? = some t → args[j]? = some v → Value.okWide Tryd.prog W .any base t v := hval0
  have hsz : (DataW.weightsEach Tryd.prog (Tryd.f5.params.toList ++ Rows.groveManySpec.plain.varTypes Tryd.prog) (ds ++ gs)).all (· ≤ reachBytes) = true := hsz0
  clear hsz0
  have hW' := hW
  obtain ⟨p, q, hA0, hV, rfl, hfz, hnd⟩ := hW
  have hA : DataW.TrodAll enc Tryd.prog W 0 (fun _ => true) true Tryd.f5.params.toList args.toList ds p := hA0
  rw [Tryd.params5] at hA hval hsz
  obtain ⟨v0, vs0, d0, ds0, p0, q0, hargs, rfl, rfl, h0, r0⟩ := trodAll_cons hA
  obtain ⟨v1, vs1, d1, ds1, p1, q1, rfl, rfl, rfl, h1, r1⟩ := trodAll_cons r0
  obtain ⟨v2, vs2, d2, ds2, p2, q2, rfl, rfl, rfl, h2, r2⟩ := trodAll_cons r1
  obtain ⟨rfl, rfl, rfl⟩ := trodAll_nil r2
  obtain rfl : args = #[v0, v1, v2] := by cases args; simp_all
  obtain ⟨rfl, rfl⟩ := trodVars_none hV
  have k0 := h0
  have lt0 : ∀ x ∈ p0, x.block < W.heap.size := by obtain ⟨m, hm⟩ := k0; exact DataW.trod_lt m _ _ _ hm
  obtain ⟨a0, b0, rfl, rfl, rfl, w0⟩ := open_shape (hval 0 23 v0 rfl rfl) h0
  have k1 := h1
  have lt1 : ∀ x ∈ p1, x.block < W.heap.size := by obtain ⟨m, hm⟩ := k1; exact DataW.trod_lt m _ _ _ hm
  have k2 := h2
  have lt2 : ∀ x ∈ p2, x.block < W.heap.size := by obtain ⟨m, hm⟩ := k2; exact DataW.trod_lt m _ _ _ hm
  obtain ⟨a1, len1, cap1, rfl⟩ := okWide_slice Tryd.underlying35 (hval 1 35 v1 rfl rfl)
  obtain ⟨a2, len2, cap2, rfl⟩ := okWide_slice Tryd.underlying36 (hval 2 36 v2 rfl rfl)
  obtain ⟨z1, w1, x1, y1⟩ : ∃ zs, IntsR W a1 zs ∧ zs.length = len1 ∧ len1 ≤ 9223372036854775807 := by
    obtain ⟨fuel, hf⟩ := h1
    rcases open_ints Tryd.underlying35 Tryd.underlying3 (by kernel_rfl) hf with ⟨hcs, _⟩ | ⟨x, l, c, zs, hcs, _, hl, hm, hz, _, hcell, _⟩
    · simp [Value.cells] at hcs
      obtain ⟨rfl, rfl, rfl⟩ := hcs
      exact ⟨[], fun h => absurd rfl h, rfl, by omega⟩
    · simp [Value.cells] at hcs
      obtain ⟨rfl, rfl, rfl⟩ := hcs
      unfold maxLen at hm
      simp at hz
      refine ⟨zs.take len1, fun h0 => ?_, by rw [List.length_take]; omega, by omega⟩
      rw [List.length_take] at h0
      obtain ⟨b, o, rfl, hb, hc⟩ := nums_at hcell (by omega)
      refine ⟨b, o, rfl, hb, fun i y hy => ?_⟩
      rw [List.getElem?_take] at hy
      split at hy
      · have hi : i < zs.length := (List.getElem?_eq_some_iff.1 hy).1
        rw [hc i hi]
        simp [List.getD, hy]
      · cases hy
  obtain ⟨s2, w2, x2, y2, u2⟩ : ∃ ss, StrsR W a2 ss ∧ ss.length = len2 ∧ len2 ≤ cap2 ∧ cap2 ≤ 9223372036854775807 := by
    obtain ⟨fuel, hf⟩ := h2
    rcases open_strings Tryd.underlying36 Tryd.underlying9 (by kernel_rfl) hf with ⟨hcs, _⟩ | ⟨x, l, c, zs, hcs, _, hl, hm, hz, _, hcell, _⟩
    · simp [Value.cells] at hcs
      obtain ⟨rfl, rfl, rfl⟩ := hcs
      exact ⟨[], fun h => absurd rfl h, rfl, by omega, by omega⟩
    · simp [Value.cells] at hcs
      obtain ⟨rfl, rfl, rfl⟩ := hcs
      unfold maxLen at hm
      simp at hz
      refine ⟨zs.take len2, fun h0 => ?_, by rw [List.length_take]; omega, hl, by omega⟩
      rw [List.length_take] at h0
      obtain ⟨b, o, rfl, hb, hc⟩ := strs_at hcell (by omega)
      refine ⟨b, o, rfl, hb, fun i y hy => ?_⟩
      rw [List.getElem?_take] at hy
      split at hy
      · have hi : i < zs.length := (List.getElem?_eq_some_iff.1 hy).1
        rw [hc i hi]
        simp [List.getD, hy]
      · cases hy
  have hcl := of_laid hL
  clear hA0 hval0
  refine (walk a0 b0 a1 len1 cap1 a2 len2 cap2 z1 s2 W w1 x1 w2 x2 y2 y1 u2 hcl).mono fun e W' ⟨he, bel⟩ => ?_
  subst he
  exact ⟨_, rfl, _, _, _, [], _, [], hW', trodAll_mk1 (shut_bool Tryd.underlying4 _), (trodAll_cons_mk (Below.trod laidOut (by kernel_rfl) (of_decide_eq_true (by kernel_rfl)) k0 bel lt0) (trodAll_cons_mk (Below.trod laidOut (by kernel_rfl) (of_decide_eq_true (by kernel_rfl)) k1 bel lt1) (trodAll_cons_mk (Below.trod laidOut (by kernel_rfl) (of_decide_eq_true (by kernel_rfl)) k2 bel lt2) trodAll_mk0))), rfl, bel.frame _, fun h => by cases h⟩

theorem over : Rows.GroveManySaid :=
  OpenClaim.holds_of_wide 5 Tryd.f5 rfl rfl rfl rfl rfl rfl rfl ⟨rfl, rfl, rfl, rfl, rfl⟩ rfl rfl rfl rfl rfl (by kernel_rfl) Tryd.func5 (by kernel_rfl)
    (of_decide_eq_true (by kernel_rfl)) (by unfold Func.isWrapper; first | (rw [if_pos (by decide +kernel)]; kernel_rfl) | (rw [if_neg (by decide +kernel)]; exact ⟨rfl, rfl⟩))
    (fun os started H enc _ => lifted os started H enc)

theorem proved : Rows.GroveManyCardSaid :=
  Claim7.holds_tied_plain_at .later [] [.data] true Rows.groveManyCard.stood.harness false
    over (fun _ h => by cases h) (by kernel_rfl) (fun _ h => by cases h) groveMany_row_tie rfl ⟨rfl, rfl⟩ (by kernel_rfl) rfl
    (fun f fn hf hfn => by
      obtain rfl : f = 5 := Option.some.inj ((show Tryd.prog.funcNamed "murmur/murmurlaw08.GroveMany" = some 5 by kernel_rfl).symm.trans hf) |>.symm
      obtain rfl : fn = Tryd.f5 := (Option.some.inj (Tryd.func5.symm.trans hfn)).symm
      exact ⟨by kernel_rfl, fun j t ht => by
        rw [Tryd.params5] at ht
        have hm : t ∈ [23, 35, 36] := by simpa using Array.mem_of_getElem? ht
        have hall : ([23, 35, 36].all fun u => !Tryd.prog.wantsStandIn u) = true := by kernel_rfl
        exact (show Tryd.prog.wantsStandIn t = false by simpa using List.all_eq_true.1 hall t hm)⟩)
    (by kernel_rfl)
#print axioms proved
end Go.Proofs.YtncafbejgidliaaDoor.LawMany
