/-
  The statements' own example of layer 12 answers true. No condition.
-/
import Derived.Test.YtofnjonmfgdpaaaRosV
import Derived.Test.YtofnjonmfgdpaaaRosM
import Derived.Test.YtofnjonmfgdpaaaRosP
namespace Go.Proofs.Ytofnjonmfgdpaaa.Ros
open Go.RowKit Mur Prt Go.Maps
set_option maxRecDepth 100000

theorem ex_closed : closed ex [100, 102] = [102] := by decide
theorem ex_live : live ex 101 = true := by decide
theorem ex_gone : live (expel ex 101) 101 = false := by decide
theorem ex_right : right ex = true := by decide
theorem ex_upstream : upstream ex 101 = 1 := by decide
theorem ex_friends : (friends ex 100).length = 2 := by decide
theorem ex_servers : (serversL ex).length = 2 := by decide
theorem ex_clients : (clientsL (expel ex 101)).length = 2 := by decide
theorem ex_still : right (expel ex 101) = true := by decide
theorem ex_expelled : (expel ex 101).servers = 2 ∧ (expel ex 101).clients = 3 := ⟨rfl, rfl⟩

set_option maxHeartbeats 3200000 in
theorem awake_any (w : World) : Calls Try.prog 6 #[] w fun e w' => e = .returned (.bool true) ∧ Below w.heap.size w w' := by
  have RS := Lib.hid some_any
  have RC := Lib.hid (fun (ab al : Option Addr) (u : World) (h : RosR u ex ⟨#[103]⟩ ab 3 none 0) (hl : IntsR u al [100, 102]) => show Calls Try.prog 7 #[.agg #[.string ⟨#[103]⟩, .int .i64 2, .int .i64 3, .slice ab 3 3, .slice none 0 0], .slice al 2 2] u fun e w' => ∃ ao co, e = .returned (.slice ao 1 co) ∧ IntsR w' ao [102] ∧ Below u.heap.size u w' from
    closed_any ex [100, 102] [102] 1 2 ⟨#[103]⟩ ab none al 3 3 0 0 2 u ex_closed.symm rfl rfl (by omega) hl (fun z hz => by simp at hz; omega) h)
  have RE := Lib.hid (fun (ab : Option Addr) (u : World) (h : RosR u ex ⟨#[103]⟩ ab 3 none 0) => show Calls Try.prog 12 #[.agg #[.string ⟨#[103]⟩, .int .i64 2, .int .i64 3, .slice ab 3 3, .slice none 0 0], .int .i64 101] u fun e w' => ∃ ab' cb' ag' cg', e = .returned (.tuple #[.agg #[.string ⟨#[103]⟩, .int .i64 2, .int .i64 3, .slice ab' 3 cb', .slice ag' 1 cg'], .int .i64 0]) ∧ RosR w' (expel ex 101) ⟨#[103]⟩ ab' 3 ag' 1 ∧ Below u.heap.size u w' from
    expel_yes ex 101 ⟨#[103]⟩ ab none 3 3 0 0 u ex_live (by omega) (by omega) (by omega) h)
  have RF := Lib.hid (fun (ab ag : Option Addr) (cb cg : Nat) (u : World) (h : RosR u (expel ex 101) ⟨#[103]⟩ ab 3 ag 1) => show Calls Try.prog 12 #[.agg #[.string ⟨#[103]⟩, .int .i64 2, .int .i64 3, .slice ab 3 cb, .slice ag 1 cg], .int .i64 101] u fun e w' => ∃ ab' cb' ag' cg', e = .returned (.tuple #[.agg #[.string ⟨#[103]⟩, .int .i64 2, .int .i64 3, .slice ab' 3 cb', .slice ag' 1 cg'], .int .i64 9]) ∧ RosR w' (expel ex 101) ⟨#[103]⟩ ab' 3 ag' 1 ∧ Below u.heap.size u w' from
    expel_no (expel ex 101) 101 ⟨#[103]⟩ ab ag 3 cb 1 cg u ex_gone (by omega) (by omega) h)
  have RR := Lib.hid (fun (ab : Option Addr) (u : World) (h : RosR u ex ⟨#[103]⟩ ab 3 none 0) => show Calls Try.prog 13 #[.agg #[.string ⟨#[103]⟩, .int .i64 2, .int .i64 3, .slice ab 3 3, .slice none 0 0]] u fun e w' => e = .returned (.bool true) ∧ Below u.heap.size u w' from
    right_any ex true ⟨#[103]⟩ ab none 3 3 0 0 u ex_right.symm h)
  have RV := Lib.hid (fun (ab ag : Option Addr) (cb cg : Nat) (u : World) (h : RosR u (expel ex 101) ⟨#[103]⟩ ab 3 ag 1) => show Calls Try.prog 9 #[.agg #[.string ⟨#[103]⟩, .int .i64 2, .int .i64 3, .slice ab 3 cb, .slice ag 1 cg], .int .i64 101] u fun e w' => e = .returned (.bool false) ∧ Below u.heap.size u w' from
    live_any (expel ex 101) 101 false ⟨#[103]⟩ ab ag 3 cb 1 cg u ex_gone.symm (by omega) (by omega) h)
  have RU := Lib.hid (fun (ab : Option Addr) (u : World) (h : RosR u ex ⟨#[103]⟩ ab 3 none 0) => show Calls Try.prog 19 #[.agg #[.string ⟨#[103]⟩, .int .i64 2, .int .i64 3, .slice ab 3 3, .slice none 0 0], .int .i64 101] u fun e w' => e = .returned (.int .i64 1) ∧ Below u.heap.size u w' from
    upstream_any ex 101 1 ⟨#[103]⟩ ab none 3 3 0 0 u ex_upstream.symm (by omega) (by omega) h)
  have RN := Lib.hid (fun (ab : Option Addr) (u : World) (h : RosR u ex ⟨#[103]⟩ ab 3 none 0) => show Calls Try.prog 10 #[.agg #[.string ⟨#[103]⟩, .int .i64 2, .int .i64 3, .slice ab 3 3, .slice none 0 0], .int .i64 100] u fun e w' => ∃ ao co, e = .returned (.slice ao 2 co) ∧ IntsR w' ao (friends ex 100) ∧ Below u.heap.size u w' from
    friends_any ex 100 (friends ex 100) 2 ⟨#[103]⟩ ab none 3 3 0 0 u rfl ex_friends (by omega) (by omega) h)
  have RT := Lib.hid (fun (ab : Option Addr) (u : World) (h : RosR u ex ⟨#[103]⟩ ab 3 none 0) => show Calls Try.prog 20 #[.agg #[.string ⟨#[103]⟩, .int .i64 2, .int .i64 3, .slice ab 3 3, .slice none 0 0]] u fun e w' => ∃ ao co, e = .returned (.slice ao 2 co) ∧ IntsR w' ao (serversL ex) ∧ Below u.heap.size u w' from
    servers_any ex (serversL ex) 2 ⟨#[103]⟩ ab none 3 3 0 0 u rfl ex_servers h)
  have RK := Lib.hid (fun (ab ag : Option Addr) (cb cg : Nat) (u : World) (h : RosR u (expel ex 101) ⟨#[103]⟩ ab 3 ag 1) => show Calls Try.prog 21 #[.agg #[.string ⟨#[103]⟩, .int .i64 2, .int .i64 3, .slice ab 3 cb, .slice ag 1 cg]] u fun e w' => ∃ ao co, e = .returned (.slice ao 2 co) ∧ IntsR w' ao (clientsL (expel ex 101)) ∧ Below u.heap.size u w' from
    clients_any (expel ex 101) (clientsL (expel ex 101)) 2 ⟨#[103]⟩ ab ag 3 cb 1 cg u rfl ex_clients h)
  have RZ := Lib.hid (fun (ab ag : Option Addr) (cb cg : Nat) (u : World) (h : RosR u (expel ex 101) ⟨#[103]⟩ ab 3 ag 1) => show Calls Try.prog 13 #[.agg #[.string ⟨#[103]⟩, .int .i64 2, .int .i64 3, .slice ab 3 cb, .slice ag 1 cg]] u fun e w' => e = .returned (.bool true) ∧ Below u.heap.size u w' from
    right_any (expel ex 101) true ⟨#[103]⟩ ab ag 3 cb 1 cg u ex_still.symm h)
  go_enter Try.func6, Try.ntmps6
  go_wp2_with fail
  refine (RS.out _).mono ?_
  rintro e w1 ⟨b, rfl, hr1, hb1⟩
  have HR1 := Lib.hid hr1
  have HB1 := Lib.hid hb1
  clear hr1 hb1
  generalize (some (⟨b, 0, none⟩ : Addr)) = ab at *
  go_upto_region 2 with (fail)
  have hX := five_made w1 24 (.string ⟨#[103]⟩) (.int .i64 2) (.int .i64 3) (.slice ab 3 3) (.slice none 0 0)
  have hb2 := HB1.out.alloc HB1.out.size (.cells #[.string ⟨#[103]⟩, .int .i64 2, .int .i64 3, .slice ab 3 3, .slice none 0 0] 24)
  have hr2 := HR1.out.below ((Below.refl w1.heap.size w1).alloc (Nat.le_refl _) (.cells #[.string ⟨#[103]⟩, .int .i64 2, .int .i64 3, .slice ab 3 3, .slice none 0 0] 24))
  generalize w1.alloc (.cells #[.string ⟨#[103]⟩, .int .i64 2, .int .i64 3, .slice ab 3 3, .slice none 0 0] 24) = w2 at *
  have HX := Lib.hid hX
  have HB2 := Lib.hid hb2
  have HR2 := Lib.hid hr2
  clear hX hb2 hr2 HR1 HB1
  obtain ⟨b1, hb1⟩ : ∃ b1, b1 = w1.heap.size := ⟨_, rfl⟩
  rw [← hb1] at HX ⊢
  clear hb1
  obtain ⟨c0, c1, c2, c3, c4⟩ := five_cells HX.out
  have hc2 := (Below.refl w2.heap.size w2).alloc (Nat.le_refl _) (.cells #[.int .i64 100, .int .i64 102] 3)
  have hil : IntsR (w2.alloc (.cells #[.int .i64 100, .int .i64 102] 3)) (some ⟨w2.heap.size, 0, none⟩) [100, 102] := fun _ => ⟨w2.heap.size, 0, rfl, by simp, fun i x hx => by
    match i, hx with
    | 0, hx => cases hx; simp [World.cell?_alloc_new]
    | 1, hx => cases hx; simp [World.cell?_alloc_new]⟩
  have HIL := Lib.hid hil
  have HC2 := Lib.hid hc2
  clear hil hc2
  go_wp2_with fail
  refine (RC.out _ _ _ (HR2.out.below HC2.out) HIL.out).mono ?_
  rintro e w3 ⟨ao, co, rfl, hi3, hb3⟩
  have H23 := Lib.hid (HC2.out.trans (hb3.mono HC2.out.size))
  obtain ⟨ba, oa, rfl, hba, hca⟩ := hi3 (by decide)
  have ca := hca 0 102 rfl
  rw [Nat.add_zero] at ca
  have HCA := Lib.hid (fun (u : World) (hu : Below w3.heap.size w3 u) => (hu.cell (p := ⟨ba, oa, none⟩) hba).trans ca)
  clear hi3 hb3 hca hba ca c0 c1 c2 c3 c4
  have HC := Lib.hid (fun (u : World) (hu : Below w3.heap.size w3 u) => five_cells (HX.out.below HX.out.lt (H23.out.trans (hu.mono H23.out.size))))
  have HR := Lib.hid (fun (u : World) (hu : Below w3.heap.size w3 u) => HR2.out.below (H23.out.trans (hu.mono H23.out.size)))
  obtain ⟨c0, c1, c2, c3, c4⟩ := HC.out w3 (Below.refl _ _)
  go_wp2_with fail
  refine (RE.out _ _ (HR.out w3 (Below.refl _ _))).mono ?_
  rintro e w4 ⟨aq, cq, gq, kq, rfl, hr4, hb4⟩
  have H34 := Lib.hid hb4
  have HR4 := Lib.hid hr4
  clear hb4 hr4 c0 c1 c2 c3 c4
  go_upto_region 4 with (fail)
  have hq := five_made w4 24 (.string ⟨#[103]⟩) (.int .i64 2) (.int .i64 3) (.slice aq 3 cq) (.slice gq 1 kq)
  have hb5 := H34.out.alloc H34.out.size (.cells #[.string ⟨#[103]⟩, .int .i64 2, .int .i64 3, .slice aq 3 cq, .slice gq 1 kq] 24)
  have hr5 := HR4.out.below ((Below.refl w4.heap.size w4).alloc (Nat.le_refl _) (.cells #[.string ⟨#[103]⟩, .int .i64 2, .int .i64 3, .slice aq 3 cq, .slice gq 1 kq] 24))
  generalize w4.alloc (.cells #[.string ⟨#[103]⟩, .int .i64 2, .int .i64 3, .slice aq 3 cq, .slice gq 1 kq] 24) = w5 at *
  have HQ := Lib.hid hq
  have H35 := Lib.hid hb5
  have HR5 := Lib.hid hr5
  clear hq hb5 hr5 HR4 H34
  obtain ⟨b3, hb3⟩ : ∃ b3, b3 = w4.heap.size := ⟨_, rfl⟩
  rw [← hb3] at HQ ⊢
  clear hb3
  obtain ⟨d0, d1, d2, d3, d4⟩ := five_cells HQ.out
  go_wp2_with fail
  refine (RF.out _ _ _ _ _ HR5.out).mono ?_
  rintro e w6 ⟨a6, k6, g6, l6, rfl, -, hb6⟩
  have H56 := Lib.hid hb6
  clear hb6 d0 d1 d2 d3 d4
  go_upto_region 5 with (fail)
  have hb7 := H56.out.alloc H56.out.size (.cells #[.string ⟨#[103]⟩, .int .i64 2, .int .i64 3, .slice a6 3 k6, .slice g6 1 l6] 24)
  generalize w6.alloc (.cells #[.string ⟨#[103]⟩, .int .i64 2, .int .i64 3, .slice a6 3 k6, .slice g6 1 l6] 24) = w7 at *
  have H57 := Lib.hid hb7
  clear hb7 H56
  have HALL := Lib.hid (fun (u : World) (hu : Below w5.heap.size w5 u) => And.intro (HC.out u (H35.out.trans (hu.mono H35.out.size))) (And.intro (five_cells (HQ.out.below HQ.out.lt hu)) (HCA.out u (H35.out.trans (hu.mono H35.out.size)))))
  have HRA := Lib.hid (fun (u : World) (hu : Below w5.heap.size w5 u) => HR.out u (H35.out.trans (hu.mono H35.out.size)))
  have HRB := Lib.hid (fun (u : World) (hu : Below w5.heap.size w5 u) => HR5.out.below hu)
  obtain ⟨⟨c0, c1, c2, c3, c4⟩, ⟨d0, d1, d2, d3, d4⟩, ca⟩ := HALL.out _ H57.out
  go_wp2_with fail
  refine (RR.out _ _ (HRA.out _ H57.out)).mono ?_
  rintro e w8 ⟨rfl, hb8⟩
  have H8 := Lib.hid (H57.out.trans (hb8.mono H57.out.size))
  clear hb8 c0 c1 c2 c3 c4 d0 d1 d2 d3 d4 ca
  obtain ⟨⟨c0, c1, c2, c3, c4⟩, ⟨d0, d1, d2, d3, d4⟩, ca⟩ := HALL.out _ H8.out
  go_wp2_with fail
  refine (RV.out _ _ _ _ _ (HRB.out _ H8.out)).mono ?_
  rintro e w9 ⟨rfl, hb9⟩
  have H9 := Lib.hid (H8.out.trans (hb9.mono H8.out.size))
  clear hb9 c0 c1 c2 c3 c4 d0 d1 d2 d3 d4 ca
  obtain ⟨⟨c0, c1, c2, c3, c4⟩, ⟨d0, d1, d2, d3, d4⟩, ca⟩ := HALL.out _ H9.out
  go_wp2_with fail
  refine (RU.out _ _ (HRA.out _ H9.out)).mono ?_
  rintro e w10 ⟨rfl, hb10⟩
  have H10 := Lib.hid (H9.out.trans (hb10.mono H9.out.size))
  clear hb10 c0 c1 c2 c3 c4 d0 d1 d2 d3 d4 ca
  obtain ⟨⟨c0, c1, c2, c3, c4⟩, ⟨d0, d1, d2, d3, d4⟩, ca⟩ := HALL.out _ H10.out
  go_wp2_with fail
  refine (RN.out _ _ (HRA.out _ H10.out)).mono ?_
  rintro e w11 ⟨an, kn, rfl, -, hb11⟩
  have H11 := Lib.hid (H10.out.trans (hb11.mono H10.out.size))
  clear hb11 c0 c1 c2 c3 c4 d0 d1 d2 d3 d4 ca
  obtain ⟨⟨c0, c1, c2, c3, c4⟩, ⟨d0, d1, d2, d3, d4⟩, ca⟩ := HALL.out _ H11.out
  go_wp2_with fail
  refine (RT.out _ _ (HRA.out _ H11.out)).mono ?_
  rintro e w12 ⟨at', kt, rfl, -, hb12⟩
  have H12 := Lib.hid (H11.out.trans (hb12.mono H11.out.size))
  clear hb12 c0 c1 c2 c3 c4 d0 d1 d2 d3 d4 ca
  obtain ⟨⟨c0, c1, c2, c3, c4⟩, ⟨d0, d1, d2, d3, d4⟩, ca⟩ := HALL.out _ H12.out
  go_wp2_with fail
  refine (RK.out _ _ _ _ _ (HRB.out _ H12.out)).mono ?_
  rintro e w13 ⟨ak, kk, rfl, -, hb13⟩
  have H13 := Lib.hid (H12.out.trans (hb13.mono H12.out.size))
  clear hb13 c0 c1 c2 c3 c4 d0 d1 d2 d3 d4 ca
  obtain ⟨⟨c0, c1, c2, c3, c4⟩, ⟨d0, d1, d2, d3, d4⟩, ca⟩ := HALL.out _ H13.out
  go_wp2_with fail
  refine (RZ.out _ _ _ _ _ (HRB.out _ H13.out)).mono ?_
  rintro e w14 ⟨rfl, hb14⟩
  have H14 := Lib.hid (H13.out.trans (hb14.mono H13.out.size))
  clear hb14 c0 c1 c2 c3 c4 d0 d1 d2 d3 d4 ca
  have HZ := Lib.hid (HB2.out.trans ((H23.out.trans ((H35.out.trans (H14.out.mono H35.out.size)).mono H23.out.size)).mono HB2.out.size))
  go_wp2
  go_ret
  exact ⟨rfl, HZ.out⟩
end Go.Proofs.Ytofnjonmfgdpaaa.Ros
