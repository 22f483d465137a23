/-
  RosterGone: who is expelled does not live, all others do as before, a roster that is right stays right: for every roster and every two numbers the law answers true and changes nothing that was there. Condition: none.
-/
import Derived.Test.YtofnjonmfgdpaaaRows
import Derived.Test.YtofnjonmfgdpaaaRosW
import Derived.Test.YtofnjonmfgdpaaaRosX
import Derived.Test.YtofnjonmfgdpaaaSteady
namespace Go.Proofs.Ytofnjonmfgdpaaa.LawRGone
open Go.ChangeShapes Go.WideShapes Go.ChangeAt Go.RowKit Mur Prt Ros
open Go.ChangeMaps (open_string shut_string)
set_option maxRecDepth 100000

theorem kept_if {W : World} {f : FuncId} {args : Array Value} {v : Value} (R : ∀ u, Below W.heap.size W u → Calls Try.prog f args u fun e w' => e = .returned v ∧ Below u.heap.size u w') :
    ∀ w, Below W.heap.size W w → Calls Try.prog f args w fun e w' => e = .returned v ∧ Below W.heap.size W w' := fun w h =>
  (R w h).mono fun _ _ ⟨he, hb⟩ => ⟨he, h.trans (hb.mono h.size)⟩

set_option maxHeartbeats 3200000 in
theorem walk (r : R) (g : ByteArray) (ab ag : Option Addr) (nb cb ng cg : Nat) (m n : Int) (w : World) (h : RosC w r g ab nb ag ng) (hm : -9223372036854775808 ≤ m ∧ m ≤ 9223372036854775807) (hn : -9223372036854775808 ≤ n ∧ n ≤ 9223372036854775807) :
    Calls Try.prog 4 #[.agg #[.string g, .int .i64 r.servers, .int .i64 r.clients, .slice ab nb cb, .slice ag ng cg], .int .i64 m, .int .i64 n] w fun e w' => e = .returned (.bool true) ∧ Below w.heap.size w w' := by
  have hX := five_made w 24 (.string g) (.int .i64 r.servers) (.int .i64 r.clients) (.slice ab nb cb) (.slice ag ng cg)
  have hB0 := (Below.refl w.heap.size w).alloc (Nat.le_refl _) (.cells #[.string g, .int .i64 r.servers, .int .i64 r.clients, .slice ab nb cb, .slice ag ng cg] 24)
  have HH := Lib.hid h
  clear h
  go_enter Try.func4, Try.ntmps4
  go_upto_region 1 with (fail)
  generalize w.alloc (.cells #[.string g, .int .i64 r.servers, .int .i64 r.clients, .slice ab nb cb, .slice ag ng cg] 24) = w0 at *
  have HX := Lib.hid hX
  have HB0 := Lib.hid hB0
  clear hX hB0
  obtain ⟨c0, c1, c2, c3, c4⟩ := five_cells HX.out
  by_cases h1 : 50 < nb
  · have hd : decide (50 < (nb : Int)) = true := decide_eq_true (by omega)
    have hd2 : decide (50 < nb) = true := decide_eq_true h1
    go_wp2_with fail
    refine (awake_any _).mono ?_
    rintro e w1 ⟨rfl, hb1⟩
    have HZ := Lib.hid (HB0.out.trans (hb1.mono HB0.out.size))
    clear hb1 c0 c1 c2 c3 c4
    go_wp2
    go_ret
    exact ⟨rfl, HZ.out⟩
  · have hd : decide (50 < (nb : Int)) = false := decide_eq_false (by omega)
    have hd2 : decide (50 < nb) = false := decide_eq_false h1
    by_cases h2 : 50 < ng
    · have hd3 : decide (50 < (ng : Int)) = true := decide_eq_true (by omega)
      have hd4 : decide (50 < ng) = true := decide_eq_true h2
      go_wp2_with fail
      refine (awake_any _).mono ?_
      rintro e w1 ⟨rfl, hb1⟩
      have HZ := Lib.hid (HB0.out.trans (hb1.mono HB0.out.size))
      clear hb1 c0 c1 c2 c3 c4
      go_wp2
      go_ret
      exact ⟨rfl, HZ.out⟩
    · have hd3 : decide (50 < (ng : Int)) = false := decide_eq_false (by omega)
      have hd4 : decide (50 < ng) = false := decide_eq_false h2
      have hr := HH.out.few (by omega) (by omega)
      have HR := Lib.hid (hr.below HB0.out)
      clear hr
      cases hl : live r m with
      | false =>
        have RE := Lib.hid (fun (u : World) (hu : RosR u r g ab nb ag ng) => expel_no r m g ab ag nb cb ng cg u hl hm.1 hm.2 hu)
        have RV := Lib.hid (fun (u : World) (hu : RosR u r g ab nb ag ng) => live_any r m false g ab ag nb cb ng cg u hl.symm hm.1 hm.2 hu)
        clear hl
        go_wp2_with fail
        refine (RE.out _ HR.out).mono ?_
        rintro e w1 ⟨ab2, cb2, ag2, cg2, rfl, hr2, hb1⟩
        have HB1 := Lib.hid hb1
        have HR2 := Lib.hid hr2
        have HX1 := Lib.hid (HX.out.below HX.out.lt hb1)
        clear hb1 hr2 c0 c1 c2 c3 c4 hd hd2 hd3 hd4
        go_upto_region 4 with (fail)
        have hq := five_made w1 24 (.string g) (.int .i64 r.servers) (.int .i64 r.clients) (.slice ab2 nb cb2) (.slice ag2 ng cg2)
        have hbs := HB1.out.alloc HB1.out.size (.cells #[.string g, .int .i64 r.servers, .int .i64 r.clients, .slice ab2 nb cb2, .slice ag2 ng cg2] 24)
        have hxs := HX1.out.alloc (.cells #[.string g, .int .i64 r.servers, .int .i64 r.clients, .slice ab2 nb cb2, .slice ag2 ng cg2] 24)
        have hrs := HR2.out.below ((Below.refl w1.heap.size w1).alloc (Nat.le_refl _) (.cells #[.string g, .int .i64 r.servers, .int .i64 r.clients, .slice ab2 nb cb2, .slice ag2 ng cg2] 24))
        generalize w1.alloc (.cells #[.string g, .int .i64 r.servers, .int .i64 r.clients, .slice ab2 nb cb2, .slice ag2 ng cg2] 24) = ws at *
        have HALL := Lib.hid (fun (u : World) (hu : Below ws.heap.size ws u) => And.intro (five_cells (hxs.below hxs.lt hu)) (five_cells (hq.below hq.lt hu)))
        have HBS := Lib.hid hbs
        have HRS := Lib.hid hrs
        clear hq hbs hxs hrs HB1 HR2 HX1
        obtain ⟨⟨c0, c1, c2, c3, c4⟩, ⟨d0, d1, d2, d3, d4⟩⟩ := HALL.out _ (Below.refl _ _)
        go_wp2_with fail
        refine (RV.out _ (HR.out.below HBS.out)).mono ?_
        rintro e w2 ⟨rfl, hb2⟩
        have HB2 := Lib.hid hb2
        clear hb2 c0 c1 c2 c3 c4 d0 d1 d2 d3 d4
        obtain ⟨⟨c0, c1, c2, c3, c4⟩, ⟨d0, d1, d2, d3, d4⟩⟩ := HALL.out _ HB2.out
        go_wp2_with fail
        refine (Ros.ints_any r.gone ng ng ag2 ag cg2 cg _ HRS.out.ngones HRS.out.ngones (by omega) (HRS.out.gones.below HB2.out) (HR.out.gones.below (HBS.out.trans (HB2.out.mono HBS.out.size)))).mono ?_
        rintro e w3 ⟨rfl, hb3⟩
        have HB3 := Lib.hid (HB2.out.trans (hb3.mono HB2.out.size))
        clear hb3 c0 c1 c2 c3 c4 d0 d1 d2 d3 d4
        go_wp2_with fail
        refine (awake_any _).mono ?_
        rintro e w4 ⟨rfl, hb4⟩
        have HZ := Lib.hid (HB0.out.trans ((HBS.out.trans ((HB3.out.trans (hb4.mono HB3.out.size)).mono HBS.out.size)).mono HB0.out.size))
        clear hb4
        go_wp2
        go_ret
        exact ⟨rfl, HZ.out⟩
      | true =>
        have RE := Lib.hid (fun (u : World) (hu : RosR u r g ab nb ag ng) => expel_yes r m g ab ag nb cb ng cg u hl hm.1 hm.2 (by omega) hu)
        obtain ⟨y, hy⟩ : ∃ y, y = live r n := ⟨_, rfl⟩
        obtain ⟨z, hz⟩ : ∃ z, z = right r := ⟨_, rfl⟩
        have HL := Lib.hid hl
        have HY := Lib.hid hy
        have HZR := Lib.hid hz
        clear hl hy hz
        go_wp2_with fail
        refine (RE.out _ HR.out).mono ?_
        rintro e w1 ⟨ab2, cb2, ag2, cg2, rfl, hr2, hb1⟩
        have HB1 := Lib.hid hb1
        have HR2 := Lib.hid hr2
        have HX1 := Lib.hid (HX.out.below HX.out.lt hb1)
        clear hb1 hr2 c0 c1 c2 c3 c4 hd hd2 hd3 hd4
        go_upto_region 4 with (fail)
        have hq := five_made w1 24 (.string g) (.int .i64 r.servers) (.int .i64 r.clients) (.slice ab2 nb cb2) (.slice ag2 (ng + 1) cg2)
        have hbs := HB1.out.alloc HB1.out.size (.cells #[.string g, .int .i64 r.servers, .int .i64 r.clients, .slice ab2 nb cb2, .slice ag2 (ng + 1) cg2] 24)
        have hxs := HX1.out.alloc (.cells #[.string g, .int .i64 r.servers, .int .i64 r.clients, .slice ab2 nb cb2, .slice ag2 (ng + 1) cg2] 24)
        have hrs := HR2.out.below ((Below.refl w1.heap.size w1).alloc (Nat.le_refl _) (.cells #[.string g, .int .i64 r.servers, .int .i64 r.clients, .slice ab2 nb cb2, .slice ag2 (ng + 1) cg2] 24))
        generalize w1.alloc (.cells #[.string g, .int .i64 r.servers, .int .i64 r.clients, .slice ab2 nb cb2, .slice ag2 (ng + 1) cg2] 24) = ws at *
        have hwd : Below ws.heap.size ws ws.drew := (Below.refl _ _).drew
        have HALL := Lib.hid (fun (u : World) (hu : Below ws.drew.heap.size ws.drew u) => And.intro (five_cells (hxs.below hxs.lt (hwd.trans hu))) (five_cells (hq.below hq.lt (hwd.trans hu))))
        have HWS := Lib.hid (HB0.out.trans (hbs.mono HB0.out.size))
        have HRA := Lib.hid (fun (u : World) (hu : Below ws.drew.heap.size ws.drew u) => HR.out.below (hbs.trans ((hwd.trans hu).mono hbs.size)))
        have HRB := Lib.hid (fun (u : World) (hu : Below ws.drew.heap.size ws.drew u) => hrs.below (hwd.trans hu))
        clear hq hbs hxs hrs hwd HB1 HR2 HX1 HB0 HX HR
        have A1 := Lib.hid (fun (u : World) (hu : Below ws.drew.heap.size ws.drew u) => live_any r m true g ab ag nb cb ng cg u HL.out.symm hm.1 hm.2 (HRA.out u hu))
        have A2 := Lib.hid (fun (u : World) (hu : Below ws.drew.heap.size ws.drew u) => show Calls Try.prog 9 #[.agg #[.string g, .int .i64 r.servers, .int .i64 r.clients, .slice ab2 nb cb2, .slice ag2 (ng + 1) cg2], .int .i64 m] u fun e w' => e = .returned (.bool false) ∧ Below u.heap.size u w' from live_any (expel r m) m false g ab2 ag2 nb cb2 (ng + 1) cg2 u (expel_gone r m).symm hm.1 hm.2 (HRB.out u hu))
        have A4 := Lib.hid (fun (u : World) (hu : Below ws.drew.heap.size ws.drew u) => live_any r n y g ab ag nb cb ng cg u HY.out hn.1 hn.2 (HRA.out u hu))
        have A5 := Lib.hid (fun (u : World) (hu : Below ws.drew.heap.size ws.drew u) => right_any r z g ab ag nb cb ng cg u HZR.out (HRA.out u hu))
        have A7 := Lib.hid (fun (u : World) (_ : Below ws.drew.heap.size ws.drew u) => awake_any u)
        by_cases hnm : n = m
        · have he : (n == m) = true := by simp [hnm]
          cases z with
          | false =>
            go_upto_region 6 with (fail)
            refine Steady.region 35 (by kernel_rfl) (by as_aux_lemma => kernel_rfl) (fun u => Below ws.drew.heap.size ws.drew u) (Below.refl _ _) ?_
            simp only [List.take_succ_cons, List.take_zero]
            refine Steady.take ?_ rfl (by intro u hu; obtain ⟨⟨c0, c1, c2, c3, c4⟩, ⟨d0, d1, d2, d3, d4⟩⟩ := HALL.out u hu; go_simp; with_reducible rfl) ?_
            simp only [Act.put, List.setIfInBounds_toArray, List.set_cons_zero, List.set_cons_succ]
            refine Steady.take ?_ rfl (by intro u hu; go_simp; with_reducible rfl) ?_
            simp only [Act.put, List.setIfInBounds_toArray, List.set_cons_zero, List.set_cons_succ]
            refine Steady.call _ _ _ rfl ?_ (kept_if A1.out) ?_
            · intro u
              go_simp
            simp only [Act.put, List.setIfInBounds_toArray, List.set_cons_zero, List.set_cons_succ]
            refine Steady.take ?_ rfl (by intro u hu; go_simp; with_reducible rfl) ?_
            simp only [Act.put, List.setIfInBounds_toArray, List.set_cons_zero, List.set_cons_succ]
            refine Steady.take ?_ rfl (by intro u hu; obtain ⟨⟨c0, c1, c2, c3, c4⟩, ⟨d0, d1, d2, d3, d4⟩⟩ := HALL.out u hu; go_simp; with_reducible rfl) ?_
            simp only [Act.put, List.setIfInBounds_toArray, List.set_cons_zero, List.set_cons_succ]
            refine Steady.take ?_ rfl (by intro u hu; go_simp; with_reducible rfl) ?_
            simp only [Act.put, List.setIfInBounds_toArray, List.set_cons_zero, List.set_cons_succ]
            refine Steady.call _ _ _ rfl ?_ (kept_if A2.out) ?_
            · intro u
              go_simp
            simp only [Act.put, List.setIfInBounds_toArray, List.set_cons_zero, List.set_cons_succ]
            refine Steady.take ?_ rfl (by intro u hu; go_simp; with_reducible rfl) ?_
            simp only [Act.put, List.setIfInBounds_toArray, List.set_cons_zero, List.set_cons_succ]
            refine Steady.take ?_ rfl (by intro u hu; go_simp; with_reducible rfl) ?_
            simp only [Act.put, List.setIfInBounds_toArray, List.set_cons_zero, List.set_cons_succ]
            refine Steady.take ?_ rfl (by intro u hu; go_simp; with_reducible rfl) ?_
            simp only [Act.put, List.setIfInBounds_toArray, List.set_cons_zero, List.set_cons_succ]
            refine Steady.take ?_ rfl (by intro u hu; go_simp; with_reducible rfl) ?_
            simp only [Act.put, List.setIfInBounds_toArray, List.set_cons_zero, List.set_cons_succ]
            refine Steady.take ?_ rfl (by intro u hu; go_simp; with_reducible rfl) ?_
            simp only [Act.put, List.setIfInBounds_toArray, List.set_cons_zero, List.set_cons_succ]
            refine Steady.take ?_ rfl (by intro u hu; go_simp; with_reducible rfl) ?_
            simp only [Act.put, List.setIfInBounds_toArray, List.set_cons_zero, List.set_cons_succ]
            refine Steady.take ?_ rfl (by intro u hu; go_simp; with_reducible rfl) ?_
            simp only [Act.put, List.setIfInBounds_toArray, List.set_cons_zero, List.set_cons_succ]
            refine Steady.pass rfl ?_
            simp only [Act.put, List.setIfInBounds_toArray, List.set_cons_zero, List.set_cons_succ]
            refine Steady.pass rfl ?_
            simp only [Act.put, List.setIfInBounds_toArray, List.set_cons_zero, List.set_cons_succ]
            refine Steady.pass rfl ?_
            simp only [Act.put, List.setIfInBounds_toArray, List.set_cons_zero, List.set_cons_succ]
            refine Steady.pass rfl ?_
            simp only [Act.put, List.setIfInBounds_toArray, List.set_cons_zero, List.set_cons_succ]
            refine Steady.pass rfl ?_
            simp only [Act.put, List.setIfInBounds_toArray, List.set_cons_zero, List.set_cons_succ]
            refine Steady.pass rfl ?_
            simp only [Act.put, List.setIfInBounds_toArray, List.set_cons_zero, List.set_cons_succ]
            refine Steady.pass rfl ?_
            simp only [Act.put, List.setIfInBounds_toArray, List.set_cons_zero, List.set_cons_succ]
            refine Steady.take ?_ rfl (by intro u hu; go_simp; with_reducible rfl) ?_
            simp only [Act.put, List.setIfInBounds_toArray, List.set_cons_zero, List.set_cons_succ]
            refine Steady.take ?_ rfl (by intro u hu; go_simp; with_reducible rfl) ?_
            simp only [Act.put, List.setIfInBounds_toArray, List.set_cons_zero, List.set_cons_succ]
            refine Steady.take ?_ rfl (by intro u hu; go_simp; with_reducible rfl) ?_
            simp only [Act.put, List.setIfInBounds_toArray, List.set_cons_zero, List.set_cons_succ]
            refine Steady.take ?_ rfl (by intro u hu; obtain ⟨⟨c0, c1, c2, c3, c4⟩, ⟨d0, d1, d2, d3, d4⟩⟩ := HALL.out u hu; go_simp; with_reducible rfl) ?_
            simp only [Act.put, List.setIfInBounds_toArray, List.set_cons_zero, List.set_cons_succ]
            refine Steady.call _ _ _ rfl ?_ (kept_if A5.out) ?_
            · intro u
              go_simp
            simp only [Act.put, List.setIfInBounds_toArray, List.set_cons_zero, List.set_cons_succ]
            refine Steady.take ?_ rfl (by intro u hu; go_simp; with_reducible rfl) ?_
            simp only [Act.put, List.setIfInBounds_toArray, List.set_cons_zero, List.set_cons_succ]
            refine Steady.take ?_ rfl (by intro u hu; go_simp; with_reducible rfl) ?_
            simp only [Act.put, List.setIfInBounds_toArray, List.set_cons_zero, List.set_cons_succ]
            refine Steady.pass rfl ?_
            simp only [Act.put, List.setIfInBounds_toArray, List.set_cons_zero, List.set_cons_succ]
            refine Steady.pass rfl ?_
            simp only [Act.put, List.setIfInBounds_toArray, List.set_cons_zero, List.set_cons_succ]
            refine Steady.take ?_ rfl (by intro u hu; go_simp; with_reducible rfl) ?_
            simp only [Act.put, List.setIfInBounds_toArray, List.set_cons_zero, List.set_cons_succ]
            refine Steady.take ?_ rfl (by intro u hu; go_simp; with_reducible rfl) ?_
            simp only [Act.put, List.setIfInBounds_toArray, List.set_cons_zero, List.set_cons_succ]
            refine Steady.take ?_ rfl (by intro u hu; go_simp; with_reducible rfl) ?_
            simp only [Act.put, List.setIfInBounds_toArray, List.set_cons_zero, List.set_cons_succ]
            refine Steady.call _ _ _ rfl ?_ (kept_if A7.out) ?_
            · intro u
              go_simp
            simp only [Act.put, List.setIfInBounds_toArray, List.set_cons_zero, List.set_cons_succ]
            refine Steady.take ?_ rfl (by intro u hu; go_simp; with_reducible rfl) ?_
            simp only [Act.put, List.setIfInBounds_toArray, List.set_cons_zero, List.set_cons_succ]
            refine Steady.nil ?_
            intro w9 hb9
            have HZ := Lib.hid (HWS.out.drew.trans (hb9.mono HWS.out.size))
            clear hb9
            go_wp2
            go_ret
            exact ⟨by simp, HZ.out⟩
          | true =>
            have A6 := Lib.hid (fun (u : World) (hu : Below ws.drew.heap.size ws.drew u) => show Calls Try.prog 13 #[.agg #[.string g, .int .i64 r.servers, .int .i64 r.clients, .slice ab2 nb cb2, .slice ag2 (ng + 1) cg2]] u fun e w' => e = .returned (.bool true) ∧ Below u.heap.size u w' from right_any (expel r m) true g ab2 ag2 nb cb2 (ng + 1) cg2 u (right_expel r m HZR.out.symm HL.out).symm (HRB.out u hu))
            go_upto_region 6 with (fail)
            refine Steady.region 35 (by kernel_rfl) (by as_aux_lemma => kernel_rfl) (fun u => Below ws.drew.heap.size ws.drew u) (Below.refl _ _) ?_
            simp only [List.take_succ_cons, List.take_zero]
            refine Steady.take ?_ rfl (by intro u hu; obtain ⟨⟨c0, c1, c2, c3, c4⟩, ⟨d0, d1, d2, d3, d4⟩⟩ := HALL.out u hu; go_simp; with_reducible rfl) ?_
            simp only [Act.put, List.setIfInBounds_toArray, List.set_cons_zero, List.set_cons_succ]
            refine Steady.take ?_ rfl (by intro u hu; go_simp; with_reducible rfl) ?_
            simp only [Act.put, List.setIfInBounds_toArray, List.set_cons_zero, List.set_cons_succ]
            refine Steady.call _ _ _ rfl ?_ (kept_if A1.out) ?_
            · intro u
              go_simp
            simp only [Act.put, List.setIfInBounds_toArray, List.set_cons_zero, List.set_cons_succ]
            refine Steady.take ?_ rfl (by intro u hu; go_simp; with_reducible rfl) ?_
            simp only [Act.put, List.setIfInBounds_toArray, List.set_cons_zero, List.set_cons_succ]
            refine Steady.take ?_ rfl (by intro u hu; obtain ⟨⟨c0, c1, c2, c3, c4⟩, ⟨d0, d1, d2, d3, d4⟩⟩ := HALL.out u hu; go_simp; with_reducible rfl) ?_
            simp only [Act.put, List.setIfInBounds_toArray, List.set_cons_zero, List.set_cons_succ]
            refine Steady.take ?_ rfl (by intro u hu; go_simp; with_reducible rfl) ?_
            simp only [Act.put, List.setIfInBounds_toArray, List.set_cons_zero, List.set_cons_succ]
            refine Steady.call _ _ _ rfl ?_ (kept_if A2.out) ?_
            · intro u
              go_simp
            simp only [Act.put, List.setIfInBounds_toArray, List.set_cons_zero, List.set_cons_succ]
            refine Steady.take ?_ rfl (by intro u hu; go_simp; with_reducible rfl) ?_
            simp only [Act.put, List.setIfInBounds_toArray, List.set_cons_zero, List.set_cons_succ]
            refine Steady.take ?_ rfl (by intro u hu; go_simp; with_reducible rfl) ?_
            simp only [Act.put, List.setIfInBounds_toArray, List.set_cons_zero, List.set_cons_succ]
            refine Steady.take ?_ rfl (by intro u hu; go_simp; with_reducible rfl) ?_
            simp only [Act.put, List.setIfInBounds_toArray, List.set_cons_zero, List.set_cons_succ]
            refine Steady.take ?_ rfl (by intro u hu; go_simp; with_reducible rfl) ?_
            simp only [Act.put, List.setIfInBounds_toArray, List.set_cons_zero, List.set_cons_succ]
            refine Steady.take ?_ rfl (by intro u hu; go_simp; with_reducible rfl) ?_
            simp only [Act.put, List.setIfInBounds_toArray, List.set_cons_zero, List.set_cons_succ]
            refine Steady.take ?_ rfl (by intro u hu; go_simp; with_reducible rfl) ?_
            simp only [Act.put, List.setIfInBounds_toArray, List.set_cons_zero, List.set_cons_succ]
            refine Steady.take ?_ rfl (by intro u hu; go_simp; with_reducible rfl) ?_
            simp only [Act.put, List.setIfInBounds_toArray, List.set_cons_zero, List.set_cons_succ]
            refine Steady.pass rfl ?_
            simp only [Act.put, List.setIfInBounds_toArray, List.set_cons_zero, List.set_cons_succ]
            refine Steady.pass rfl ?_
            simp only [Act.put, List.setIfInBounds_toArray, List.set_cons_zero, List.set_cons_succ]
            refine Steady.pass rfl ?_
            simp only [Act.put, List.setIfInBounds_toArray, List.set_cons_zero, List.set_cons_succ]
            refine Steady.pass rfl ?_
            simp only [Act.put, List.setIfInBounds_toArray, List.set_cons_zero, List.set_cons_succ]
            refine Steady.pass rfl ?_
            simp only [Act.put, List.setIfInBounds_toArray, List.set_cons_zero, List.set_cons_succ]
            refine Steady.pass rfl ?_
            simp only [Act.put, List.setIfInBounds_toArray, List.set_cons_zero, List.set_cons_succ]
            refine Steady.pass rfl ?_
            simp only [Act.put, List.setIfInBounds_toArray, List.set_cons_zero, List.set_cons_succ]
            refine Steady.take ?_ rfl (by intro u hu; go_simp; with_reducible rfl) ?_
            simp only [Act.put, List.setIfInBounds_toArray, List.set_cons_zero, List.set_cons_succ]
            refine Steady.take ?_ rfl (by intro u hu; go_simp; with_reducible rfl) ?_
            simp only [Act.put, List.setIfInBounds_toArray, List.set_cons_zero, List.set_cons_succ]
            refine Steady.take ?_ rfl (by intro u hu; go_simp; with_reducible rfl) ?_
            simp only [Act.put, List.setIfInBounds_toArray, List.set_cons_zero, List.set_cons_succ]
            refine Steady.take ?_ rfl (by intro u hu; obtain ⟨⟨c0, c1, c2, c3, c4⟩, ⟨d0, d1, d2, d3, d4⟩⟩ := HALL.out u hu; go_simp; with_reducible rfl) ?_
            simp only [Act.put, List.setIfInBounds_toArray, List.set_cons_zero, List.set_cons_succ]
            refine Steady.call _ _ _ rfl ?_ (kept_if A5.out) ?_
            · intro u
              go_simp
            simp only [Act.put, List.setIfInBounds_toArray, List.set_cons_zero, List.set_cons_succ]
            refine Steady.take ?_ rfl (by intro u hu; go_simp; with_reducible rfl) ?_
            simp only [Act.put, List.setIfInBounds_toArray, List.set_cons_zero, List.set_cons_succ]
            refine Steady.take ?_ rfl (by intro u hu; go_simp; with_reducible rfl) ?_
            simp only [Act.put, List.setIfInBounds_toArray, List.set_cons_zero, List.set_cons_succ]
            refine Steady.take ?_ rfl (by intro u hu; obtain ⟨⟨c0, c1, c2, c3, c4⟩, ⟨d0, d1, d2, d3, d4⟩⟩ := HALL.out u hu; go_simp; with_reducible rfl) ?_
            simp only [Act.put, List.setIfInBounds_toArray, List.set_cons_zero, List.set_cons_succ]
            refine Steady.call _ _ _ rfl ?_ (kept_if A6.out) ?_
            · intro u
              go_simp
            simp only [Act.put, List.setIfInBounds_toArray, List.set_cons_zero, List.set_cons_succ]
            refine Steady.take ?_ rfl (by intro u hu; go_simp; with_reducible rfl) ?_
            simp only [Act.put, List.setIfInBounds_toArray, List.set_cons_zero, List.set_cons_succ]
            refine Steady.take ?_ rfl (by intro u hu; go_simp; with_reducible rfl) ?_
            simp only [Act.put, List.setIfInBounds_toArray, List.set_cons_zero, List.set_cons_succ]
            refine Steady.take ?_ rfl (by intro u hu; go_simp; with_reducible rfl) ?_
            simp only [Act.put, List.setIfInBounds_toArray, List.set_cons_zero, List.set_cons_succ]
            refine Steady.call _ _ _ rfl ?_ (kept_if A7.out) ?_
            · intro u
              go_simp
            simp only [Act.put, List.setIfInBounds_toArray, List.set_cons_zero, List.set_cons_succ]
            refine Steady.take ?_ rfl (by intro u hu; go_simp; with_reducible rfl) ?_
            simp only [Act.put, List.setIfInBounds_toArray, List.set_cons_zero, List.set_cons_succ]
            refine Steady.nil ?_
            intro w9 hb9
            have HZ := Lib.hid (HWS.out.drew.trans (hb9.mono HWS.out.size))
            clear hb9
            go_wp2
            go_ret
            exact ⟨by simp, HZ.out⟩
        · have he : (n == m) = false := by simp [hnm]
          have A3 := Lib.hid (fun (u : World) (hu : Below ws.drew.heap.size ws.drew u) => show Calls Try.prog 9 #[.agg #[.string g, .int .i64 r.servers, .int .i64 r.clients, .slice ab2 nb cb2, .slice ag2 (ng + 1) cg2], .int .i64 n] u fun e w' => e = .returned (.bool y) ∧ Below u.heap.size u w' from live_any (expel r m) n y g ab2 ag2 nb cb2 (ng + 1) cg2 u (by rw [expel_others r m n hnm]; exact HY.out) hn.1 hn.2 (HRB.out u hu))
          cases z with
          | false =>
            go_upto_region 6 with (fail)
            refine Steady.region 35 (by kernel_rfl) (by as_aux_lemma => kernel_rfl) (fun u => Below ws.drew.heap.size ws.drew u) (Below.refl _ _) ?_
            simp only [List.take_succ_cons, List.take_zero]
            refine Steady.take ?_ rfl (by intro u hu; obtain ⟨⟨c0, c1, c2, c3, c4⟩, ⟨d0, d1, d2, d3, d4⟩⟩ := HALL.out u hu; go_simp; with_reducible rfl) ?_
            simp only [Act.put, List.setIfInBounds_toArray, List.set_cons_zero, List.set_cons_succ]
            refine Steady.take ?_ rfl (by intro u hu; go_simp; with_reducible rfl) ?_
            simp only [Act.put, List.setIfInBounds_toArray, List.set_cons_zero, List.set_cons_succ]
            refine Steady.call _ _ _ rfl ?_ (kept_if A1.out) ?_
            · intro u
              go_simp
            simp only [Act.put, List.setIfInBounds_toArray, List.set_cons_zero, List.set_cons_succ]
            refine Steady.take ?_ rfl (by intro u hu; go_simp; with_reducible rfl) ?_
            simp only [Act.put, List.setIfInBounds_toArray, List.set_cons_zero, List.set_cons_succ]
            refine Steady.take ?_ rfl (by intro u hu; obtain ⟨⟨c0, c1, c2, c3, c4⟩, ⟨d0, d1, d2, d3, d4⟩⟩ := HALL.out u hu; go_simp; with_reducible rfl) ?_
            simp only [Act.put, List.setIfInBounds_toArray, List.set_cons_zero, List.set_cons_succ]
            refine Steady.take ?_ rfl (by intro u hu; go_simp; with_reducible rfl) ?_
            simp only [Act.put, List.setIfInBounds_toArray, List.set_cons_zero, List.set_cons_succ]
            refine Steady.call _ _ _ rfl ?_ (kept_if A2.out) ?_
            · intro u
              go_simp
            simp only [Act.put, List.setIfInBounds_toArray, List.set_cons_zero, List.set_cons_succ]
            refine Steady.take ?_ rfl (by intro u hu; go_simp; with_reducible rfl) ?_
            simp only [Act.put, List.setIfInBounds_toArray, List.set_cons_zero, List.set_cons_succ]
            refine Steady.take ?_ rfl (by intro u hu; go_simp; with_reducible rfl) ?_
            simp only [Act.put, List.setIfInBounds_toArray, List.set_cons_zero, List.set_cons_succ]
            refine Steady.take ?_ rfl (by intro u hu; go_simp; with_reducible rfl) ?_
            simp only [Act.put, List.setIfInBounds_toArray, List.set_cons_zero, List.set_cons_succ]
            refine Steady.take ?_ rfl (by intro u hu; go_simp; with_reducible rfl) ?_
            simp only [Act.put, List.setIfInBounds_toArray, List.set_cons_zero, List.set_cons_succ]
            refine Steady.take ?_ rfl (by intro u hu; go_simp; with_reducible rfl) ?_
            simp only [Act.put, List.setIfInBounds_toArray, List.set_cons_zero, List.set_cons_succ]
            refine Steady.take ?_ rfl (by intro u hu; go_simp; with_reducible rfl) ?_
            simp only [Act.put, List.setIfInBounds_toArray, List.set_cons_zero, List.set_cons_succ]
            refine Steady.take ?_ rfl (by intro u hu; go_simp; with_reducible rfl) ?_
            simp only [Act.put, List.setIfInBounds_toArray, List.set_cons_zero, List.set_cons_succ]
            refine Steady.take ?_ rfl (by intro u hu; obtain ⟨⟨c0, c1, c2, c3, c4⟩, ⟨d0, d1, d2, d3, d4⟩⟩ := HALL.out u hu; go_simp; with_reducible rfl) ?_
            simp only [Act.put, List.setIfInBounds_toArray, List.set_cons_zero, List.set_cons_succ]
            refine Steady.take ?_ rfl (by intro u hu; go_simp; with_reducible rfl) ?_
            simp only [Act.put, List.setIfInBounds_toArray, List.set_cons_zero, List.set_cons_succ]
            refine Steady.call _ _ _ rfl ?_ (kept_if A3.out) ?_
            · intro u
              go_simp
            simp only [Act.put, List.setIfInBounds_toArray, List.set_cons_zero, List.set_cons_succ]
            refine Steady.take ?_ rfl (by intro u hu; obtain ⟨⟨c0, c1, c2, c3, c4⟩, ⟨d0, d1, d2, d3, d4⟩⟩ := HALL.out u hu; go_simp; with_reducible rfl) ?_
            simp only [Act.put, List.setIfInBounds_toArray, List.set_cons_zero, List.set_cons_succ]
            refine Steady.take ?_ rfl (by intro u hu; go_simp; with_reducible rfl) ?_
            simp only [Act.put, List.setIfInBounds_toArray, List.set_cons_zero, List.set_cons_succ]
            refine Steady.call _ _ _ rfl ?_ (kept_if A4.out) ?_
            · intro u
              go_simp
            simp only [Act.put, List.setIfInBounds_toArray, List.set_cons_zero, List.set_cons_succ]
            refine Steady.take (.bool true) rfl (by intro u hu; cases y <;> go_simp) ?_
            simp only [Act.put, List.setIfInBounds_toArray, List.set_cons_zero, List.set_cons_succ]
            refine Steady.take ?_ rfl (by intro u hu; go_simp; with_reducible rfl) ?_
            simp only [Act.put, List.setIfInBounds_toArray, List.set_cons_zero, List.set_cons_succ]
            refine Steady.take ?_ rfl (by intro u hu; go_simp; with_reducible rfl) ?_
            simp only [Act.put, List.setIfInBounds_toArray, List.set_cons_zero, List.set_cons_succ]
            refine Steady.take ?_ rfl (by intro u hu; go_simp; with_reducible rfl) ?_
            simp only [Act.put, List.setIfInBounds_toArray, List.set_cons_zero, List.set_cons_succ]
            refine Steady.take ?_ rfl (by intro u hu; obtain ⟨⟨c0, c1, c2, c3, c4⟩, ⟨d0, d1, d2, d3, d4⟩⟩ := HALL.out u hu; go_simp; with_reducible rfl) ?_
            simp only [Act.put, List.setIfInBounds_toArray, List.set_cons_zero, List.set_cons_succ]
            refine Steady.call _ _ _ rfl ?_ (kept_if A5.out) ?_
            · intro u
              go_simp
            simp only [Act.put, List.setIfInBounds_toArray, List.set_cons_zero, List.set_cons_succ]
            refine Steady.take ?_ rfl (by intro u hu; go_simp; with_reducible rfl) ?_
            simp only [Act.put, List.setIfInBounds_toArray, List.set_cons_zero, List.set_cons_succ]
            refine Steady.take ?_ rfl (by intro u hu; go_simp; with_reducible rfl) ?_
            simp only [Act.put, List.setIfInBounds_toArray, List.set_cons_zero, List.set_cons_succ]
            refine Steady.pass rfl ?_
            simp only [Act.put, List.setIfInBounds_toArray, List.set_cons_zero, List.set_cons_succ]
            refine Steady.pass rfl ?_
            simp only [Act.put, List.setIfInBounds_toArray, List.set_cons_zero, List.set_cons_succ]
            refine Steady.take ?_ rfl (by intro u hu; go_simp; with_reducible rfl) ?_
            simp only [Act.put, List.setIfInBounds_toArray, List.set_cons_zero, List.set_cons_succ]
            refine Steady.take ?_ rfl (by intro u hu; go_simp; with_reducible rfl) ?_
            simp only [Act.put, List.setIfInBounds_toArray, List.set_cons_zero, List.set_cons_succ]
            refine Steady.take ?_ rfl (by intro u hu; go_simp; with_reducible rfl) ?_
            simp only [Act.put, List.setIfInBounds_toArray, List.set_cons_zero, List.set_cons_succ]
            refine Steady.call _ _ _ rfl ?_ (kept_if A7.out) ?_
            · intro u
              go_simp
            simp only [Act.put, List.setIfInBounds_toArray, List.set_cons_zero, List.set_cons_succ]
            refine Steady.take ?_ rfl (by intro u hu; go_simp; with_reducible rfl) ?_
            simp only [Act.put, List.setIfInBounds_toArray, List.set_cons_zero, List.set_cons_succ]
            refine Steady.nil ?_
            intro w9 hb9
            have HZ := Lib.hid (HWS.out.drew.trans (hb9.mono HWS.out.size))
            clear hb9
            go_wp2
            go_ret
            exact ⟨by simp, HZ.out⟩
          | true =>
            have A6 := Lib.hid (fun (u : World) (hu : Below ws.drew.heap.size ws.drew u) => show Calls Try.prog 13 #[.agg #[.string g, .int .i64 r.servers, .int .i64 r.clients, .slice ab2 nb cb2, .slice ag2 (ng + 1) cg2]] u fun e w' => e = .returned (.bool true) ∧ Below u.heap.size u w' from right_any (expel r m) true g ab2 ag2 nb cb2 (ng + 1) cg2 u (right_expel r m HZR.out.symm HL.out).symm (HRB.out u hu))
            go_upto_region 6 with (fail)
            refine Steady.region 35 (by kernel_rfl) (by as_aux_lemma => kernel_rfl) (fun u => Below ws.drew.heap.size ws.drew u) (Below.refl _ _) ?_
            simp only [List.take_succ_cons, List.take_zero]
            refine Steady.take ?_ rfl (by intro u hu; obtain ⟨⟨c0, c1, c2, c3, c4⟩, ⟨d0, d1, d2, d3, d4⟩⟩ := HALL.out u hu; go_simp; with_reducible rfl) ?_
            simp only [Act.put, List.setIfInBounds_toArray, List.set_cons_zero, List.set_cons_succ]
            refine Steady.take ?_ rfl (by intro u hu; go_simp; with_reducible rfl) ?_
            simp only [Act.put, List.setIfInBounds_toArray, List.set_cons_zero, List.set_cons_succ]
            refine Steady.call _ _ _ rfl ?_ (kept_if A1.out) ?_
            · intro u
              go_simp
            simp only [Act.put, List.setIfInBounds_toArray, List.set_cons_zero, List.set_cons_succ]
            refine Steady.take ?_ rfl (by intro u hu; go_simp; with_reducible rfl) ?_
            simp only [Act.put, List.setIfInBounds_toArray, List.set_cons_zero, List.set_cons_succ]
            refine Steady.take ?_ rfl (by intro u hu; obtain ⟨⟨c0, c1, c2, c3, c4⟩, ⟨d0, d1, d2, d3, d4⟩⟩ := HALL.out u hu; go_simp; with_reducible rfl) ?_
            simp only [Act.put, List.setIfInBounds_toArray, List.set_cons_zero, List.set_cons_succ]
            refine Steady.take ?_ rfl (by intro u hu; go_simp; with_reducible rfl) ?_
            simp only [Act.put, List.setIfInBounds_toArray, List.set_cons_zero, List.set_cons_succ]
            refine Steady.call _ _ _ rfl ?_ (kept_if A2.out) ?_
            · intro u
              go_simp
            simp only [Act.put, List.setIfInBounds_toArray, List.set_cons_zero, List.set_cons_succ]
            refine Steady.take ?_ rfl (by intro u hu; go_simp; with_reducible rfl) ?_
            simp only [Act.put, List.setIfInBounds_toArray, List.set_cons_zero, List.set_cons_succ]
            refine Steady.take ?_ rfl (by intro u hu; go_simp; with_reducible rfl) ?_
            simp only [Act.put, List.setIfInBounds_toArray, List.set_cons_zero, List.set_cons_succ]
            refine Steady.take ?_ rfl (by intro u hu; go_simp; with_reducible rfl) ?_
            simp only [Act.put, List.setIfInBounds_toArray, List.set_cons_zero, List.set_cons_succ]
            refine Steady.take ?_ rfl (by intro u hu; go_simp; with_reducible rfl) ?_
            simp only [Act.put, List.setIfInBounds_toArray, List.set_cons_zero, List.set_cons_succ]
            refine Steady.take ?_ rfl (by intro u hu; go_simp; with_reducible rfl) ?_
            simp only [Act.put, List.setIfInBounds_toArray, List.set_cons_zero, List.set_cons_succ]
            refine Steady.take ?_ rfl (by intro u hu; go_simp; with_reducible rfl) ?_
            simp only [Act.put, List.setIfInBounds_toArray, List.set_cons_zero, List.set_cons_succ]
            refine Steady.take ?_ rfl (by intro u hu; go_simp; with_reducible rfl) ?_
            simp only [Act.put, List.setIfInBounds_toArray, List.set_cons_zero, List.set_cons_succ]
            refine Steady.take ?_ rfl (by intro u hu; obtain ⟨⟨c0, c1, c2, c3, c4⟩, ⟨d0, d1, d2, d3, d4⟩⟩ := HALL.out u hu; go_simp; with_reducible rfl) ?_
            simp only [Act.put, List.setIfInBounds_toArray, List.set_cons_zero, List.set_cons_succ]
            refine Steady.take ?_ rfl (by intro u hu; go_simp; with_reducible rfl) ?_
            simp only [Act.put, List.setIfInBounds_toArray, List.set_cons_zero, List.set_cons_succ]
            refine Steady.call _ _ _ rfl ?_ (kept_if A3.out) ?_
            · intro u
              go_simp
            simp only [Act.put, List.setIfInBounds_toArray, List.set_cons_zero, List.set_cons_succ]
            refine Steady.take ?_ rfl (by intro u hu; obtain ⟨⟨c0, c1, c2, c3, c4⟩, ⟨d0, d1, d2, d3, d4⟩⟩ := HALL.out u hu; go_simp; with_reducible rfl) ?_
            simp only [Act.put, List.setIfInBounds_toArray, List.set_cons_zero, List.set_cons_succ]
            refine Steady.take ?_ rfl (by intro u hu; go_simp; with_reducible rfl) ?_
            simp only [Act.put, List.setIfInBounds_toArray, List.set_cons_zero, List.set_cons_succ]
            refine Steady.call _ _ _ rfl ?_ (kept_if A4.out) ?_
            · intro u
              go_simp
            simp only [Act.put, List.setIfInBounds_toArray, List.set_cons_zero, List.set_cons_succ]
            refine Steady.take (.bool true) rfl (by intro u hu; cases y <;> go_simp) ?_
            simp only [Act.put, List.setIfInBounds_toArray, List.set_cons_zero, List.set_cons_succ]
            refine Steady.take ?_ rfl (by intro u hu; go_simp; with_reducible rfl) ?_
            simp only [Act.put, List.setIfInBounds_toArray, List.set_cons_zero, List.set_cons_succ]
            refine Steady.take ?_ rfl (by intro u hu; go_simp; with_reducible rfl) ?_
            simp only [Act.put, List.setIfInBounds_toArray, List.set_cons_zero, List.set_cons_succ]
            refine Steady.take ?_ rfl (by intro u hu; go_simp; with_reducible rfl) ?_
            simp only [Act.put, List.setIfInBounds_toArray, List.set_cons_zero, List.set_cons_succ]
            refine Steady.take ?_ rfl (by intro u hu; obtain ⟨⟨c0, c1, c2, c3, c4⟩, ⟨d0, d1, d2, d3, d4⟩⟩ := HALL.out u hu; go_simp; with_reducible rfl) ?_
            simp only [Act.put, List.setIfInBounds_toArray, List.set_cons_zero, List.set_cons_succ]
            refine Steady.call _ _ _ rfl ?_ (kept_if A5.out) ?_
            · intro u
              go_simp
            simp only [Act.put, List.setIfInBounds_toArray, List.set_cons_zero, List.set_cons_succ]
            refine Steady.take ?_ rfl (by intro u hu; go_simp; with_reducible rfl) ?_
            simp only [Act.put, List.setIfInBounds_toArray, List.set_cons_zero, List.set_cons_succ]
            refine Steady.take ?_ rfl (by intro u hu; go_simp; with_reducible rfl) ?_
            simp only [Act.put, List.setIfInBounds_toArray, List.set_cons_zero, List.set_cons_succ]
            refine Steady.take ?_ rfl (by intro u hu; obtain ⟨⟨c0, c1, c2, c3, c4⟩, ⟨d0, d1, d2, d3, d4⟩⟩ := HALL.out u hu; go_simp; with_reducible rfl) ?_
            simp only [Act.put, List.setIfInBounds_toArray, List.set_cons_zero, List.set_cons_succ]
            refine Steady.call _ _ _ rfl ?_ (kept_if A6.out) ?_
            · intro u
              go_simp
            simp only [Act.put, List.setIfInBounds_toArray, List.set_cons_zero, List.set_cons_succ]
            refine Steady.take ?_ rfl (by intro u hu; go_simp; with_reducible rfl) ?_
            simp only [Act.put, List.setIfInBounds_toArray, List.set_cons_zero, List.set_cons_succ]
            refine Steady.take ?_ rfl (by intro u hu; go_simp; with_reducible rfl) ?_
            simp only [Act.put, List.setIfInBounds_toArray, List.set_cons_zero, List.set_cons_succ]
            refine Steady.take ?_ rfl (by intro u hu; go_simp; with_reducible rfl) ?_
            simp only [Act.put, List.setIfInBounds_toArray, List.set_cons_zero, List.set_cons_succ]
            refine Steady.call _ _ _ rfl ?_ (kept_if A7.out) ?_
            · intro u
              go_simp
            simp only [Act.put, List.setIfInBounds_toArray, List.set_cons_zero, List.set_cons_succ]
            refine Steady.take ?_ rfl (by intro u hu; go_simp; with_reducible rfl) ?_
            simp only [Act.put, List.setIfInBounds_toArray, List.set_cons_zero, List.set_cons_succ]
            refine Steady.nil ?_
            intro w9 hb9
            have HZ := Lib.hid (HWS.out.drew.trans (hb9.mono HWS.out.size))
            clear hb9
            go_wp2
            go_ret
            exact ⟨by simp, HZ.out⟩

theorem own : ownKnob Try.prog.godebug = none := by kernel_rfl
theorem laidOut : laidOutB Try.prog = true := by kernel_rfl

theorem lifted (os : Os) (started : os.Started) (H : Type) (enc : TypeId × Value → H) :
    ReturnsInHanded {} Try.checked os 4 .any (Rows.rosterGoneSpec.pre6 enc Try.prog Try.f4 Rows.rosterGoneRow.domain false) (Rows.rosterGoneSpec.post enc Try.prog Try.f4 false true false false) := by
  refine returnsInHanded_of_change (C := Try.checked) own started (by kernel_rfl) Try.func4
    (ChangeSpec.witness6 (enc := enc) (C := Try.checked) false ⟨#[], #[.agg #[.string ByteArray.empty, .int .i64 0, .int .i64 0, .slice none 0 0, .slice none 0 0], .int .i64 0, .int .i64 0], []⟩ 8 (by kernel_rfl) (by kernel_rfl) (by kernel_rfl) (by kernel_rfl)) ?_
  intro W base args ds gs before hval0 hW hcnd _
  have hval : ∀ (j : Nat) t v, Try.f4.params[j]? = some t → args[j]? = some v → Value.okWide Try.prog W .any base t v := hval0
  have hW' := hW
  obtain ⟨p, q, hA0, hV, rfl, hfz, hnd⟩ := hW
  have hA : DataW.TrodAll enc Try.prog W 0 (fun _ => true) true Try.f4.params.toList args.toList ds p := hA0
  rw [Try.params4] at hA hval
  obtain ⟨v0, vs0, d0, ds0, p0, q0, hargs, rfl, rfl, h0, r0⟩ := trodAll_cons hA
  obtain ⟨v1, vs1, d1, ds1, p1, q1, rfl, rfl, rfl, h1, r1⟩ := trodAll_cons r0
  obtain ⟨v2, vs2, d2, ds2, p2, q2, rfl, rfl, rfl, h2, r2⟩ := trodAll_cons r1
  obtain ⟨rfl, rfl, rfl⟩ := trodAll_nil r2
  obtain rfl : args = #[v0, v1, v2] := by cases args; simp_all
  obtain ⟨rfl, rfl⟩ := trodVars_none hV
  have k0 := h0
  have lt0 : ∀ x ∈ p0, x.block < W.heap.size := by obtain ⟨m, hm⟩ := k0; exact DataW.trod_lt m _ _ _ hm
  obtain ⟨ro, g, ab, nb, cb, ag, ng, cg, rfl, hro⟩ := open_roster (hval 0 24 v0 rfl rfl) h0
  obtain ⟨a1, rfl, rfl, rfl, w1⟩ := open_int Try.underlying3 (hval 1 3 v1 rfl rfl) h1
  obtain ⟨a2, rfl, rfl, rfl, w2⟩ := open_int Try.underlying3 (hval 2 3 v2 rfl rfl) h2
  clear hA0 hval0
  refine (walk ro g ab ag nb cb ng cg a1 a2 W hro (int_wf w1) (int_wf w2)).mono fun e W' ⟨he, bel⟩ => ?_
  subst he
  exact ⟨_, rfl, _, _, _, [], _, [], hW', trodAll_mk1 (shut_bool Try.underlying4 _), (trodAll_cons_mk (Below.trod laidOut (by kernel_rfl) (of_decide_eq_true (by kernel_rfl)) k0 bel lt0) (trodAll_cons_mk (shut_int Try.underlying3 w1) (trodAll_cons_mk (shut_int Try.underlying3 w2) trodAll_mk0))), rfl, bel.frame _, fun h => by cases h⟩

theorem over : Rows.rosterGoneRow.holds Try.pinned (OpenSpec.ofChange Rows.rosterGoneSpec) :=
  OpenClaim.holds_of_wide 4 Try.f4 rfl rfl rfl rfl rfl rfl rfl ⟨rfl, rfl, rfl, rfl, rfl⟩ rfl rfl rfl rfl rfl (by kernel_rfl) Try.func4 (by kernel_rfl)
    (of_decide_eq_true (by kernel_rfl)) (by unfold Func.isWrapper; first | (rw [if_pos (by decide +kernel)]; kernel_rfl) | (rw [if_neg (by decide +kernel)]; exact ⟨rfl, rfl⟩))
    (fun os started H enc _ => lifted os started H enc)

theorem proved : Rows.RosterGoneSaid := over
#print axioms proved
end Go.Proofs.Ytofnjonmfgdpaaa.LawRGone
