/-
  RosterBack: what is printed is read, what is read is printed so, who is expelled and brought back lives as before: for every roster, every text and every number the law answers true and changes nothing that was there. Condition: none.
-/
import Derived.Test.YtofnjonmfgdpaaaRows
import Derived.Test.YtofnjonmfgdpaaaRosW
import Derived.Test.YtofnjonmfgdpaaaRosX
import Derived.Test.YtofnjonmfgdpaaaRosQ
import Derived.Test.YtofnjonmfgdpaaaRosU
import Derived.Deep.DeepCutAuto
namespace Go.Proofs.Ytofnjonmfgdpaaa.LawRBack
open Go.ChangeShapes Go.WideShapes Go.ChangeAt Go.RowKit Mur Prt Ros
open Go.ChangeMaps (open_string shut_string)
set_option maxRecDepth 100000

theorem print_size (r : R) (p : List UInt8) (h : print r = .ok p) : p.length ≤ 1000000000 := by
  unfold print at h
  split at h
  · obtain ⟨a, y1, h1, g1, rfl⟩ := glue_parts _ _ _ h
    obtain ⟨b, y2, h2, g2, rfl⟩ := glue_parts _ _ _ g1
    obtain ⟨c, d, h3, h4, rfl⟩ := glue_parts _ _ _ g2
    have k1 := str_length _ _ h1
    have k2 := lay_size _ _ h2
    have k3 := lay_size _ _ h3
    have k4 := lay_size _ _ h4
    simp only [List.length_append]
    omega
  · cases h
theorem print_err (r : R) (y : Nat) (h : print r = .error y) : y ≠ 0 := by
  unfold print lay at h
  split at h
  · cases h1 : str r.group with
    | error e => rw [h1] at h; cases h; have := str_err _ _ h1; omega
    | ok a =>
      rw [h1, glue_ok] at h
      cases h2 : layAll num [r.servers, r.clients] with
      | error e => rw [h2, glue_error, Prt.ahead_error] at h; cases h; exact lay_err _ _ h2
      | ok b =>
        rw [h2, glue_ok] at h
        cases h3 : layAll num r.buddies with
        | error e => rw [h3, glue_error, Prt.ahead_error, Prt.ahead_error] at h; cases h; exact lay_err _ _ h3
        | ok c =>
          rw [h3, glue_ok] at h
          cases h4 : layAll num r.gone with
          | error e => rw [h4, Prt.ahead_error, Prt.ahead_error, Prt.ahead_error] at h; cases h; exact lay_err _ _ h4
          | ok d => rw [h4] at h; cases h
  · cases h; omega
theorem told_err (s g : List UInt8) (r : Except Nat (List (List Nat) × Nat)) (hr : ∀ e, r = .error e → e ≠ 0) (y : Nat) (h : told s g r = .error y) : y ≠ 0 := by
  cases r with
  | error e => cases h; exact hr y rfl
  | ok x =>
    obtain ⟨ls, p⟩ := x
    rw [told] at h
    split at h
    · cases h
    · cases h; omega
theorem lists_err (s : List UInt8) (k : Nat) : ∀ p e, lists s k p = .error e → e ≠ 0 := by
  induction k with
  | zero => intro p e h; rw [lists_zero] at h; cases h
  | succ k ih =>
    intro p e h
    cases hx : readAll readNum s (p : Int) with
    | error y => rw [lists_error s k p y hx] at h; cases h; have := readAll_err _ _ _ hx; omega
    | ok xq =>
      obtain ⟨x, q⟩ := xq
      rw [lists_ok s k p q x hx] at h
      cases hl : lists s k q with
      | error y => rw [hl] at h; cases h; exact ih q e hl
      | ok t => rw [hl] at h; cases h
theorem read_err (s : List UInt8) (y : Nat) (h : read s = .error y) : y ≠ 0 := by
  cases hs : readStr s 0 with
  | error e =>
    rw [read_error s e hs] at h
    cases h
    have := readStr_err _ _ _ hs
    omega
  | ok x =>
    obtain ⟨g, p⟩ := x
    rw [read_told s g p hs] at h
    exact told_err _ _ _ (fun e he => lists_err s 3 p e he) y h
theorem not_same (x : ByteArray) : (!(x.toList == x.toList)) = false := by simp
theorem not_same2 (x : ByteArray) : (x.toList != x.toList) = false := by simp
theorem back_same (r : R) (m : Int) (h : right r = true) (hm : live r m = true) : back (expel r m) m = r := by
  show ({ r with gone := again (without r.gone m) m } : R) = r
  rw [back_gone r m h hm]

set_option maxHeartbeats 3200000 in
theorem walk (r : R) (g : ByteArray) (ab ag : Option Addr) (nb cb ng cg : Nat) (s : ByteArray) (m : Int) (w : World) (h : RosC w r g ab nb ag ng) (hm : -9223372036854775808 ≤ m ∧ m ≤ 9223372036854775807) :
    Calls Try.prog 5 #[.agg #[.string g, .int .i64 r.servers, .int .i64 r.clients, .slice ab nb cb, .slice ag ng cg], .string s, .int .i64 m] w fun e w' => e = .returned (.bool true) ∧ Below w.heap.size w w' := by
  have hX := five_made w 24 (.string g) (.int .i64 r.servers) (.int .i64 r.clients) (.slice ab nb cb) (.slice ag ng cg)
  have hB0 := (Below.refl w.heap.size w).alloc (Nat.le_refl _) (.cells #[.string g, .int .i64 r.servers, .int .i64 r.clients, .slice ab nb cb, .slice ag ng cg] 24)
  have HH := Lib.hid h
  clear h
  go_enter Try.func5, Try.ntmps5
  go_upto_region 1 with (fail)
  generalize w.alloc (.cells #[.string g, .int .i64 r.servers, .int .i64 r.clients, .slice ab nb cb, .slice ag ng cg] 24) = w0 at *
  have HX := Lib.hid hX
  have HB0 := Lib.hid hB0
  clear hX hB0
  obtain ⟨c0, c1, c2, c3, c4⟩ := five_cells HX.out
  by_cases h1 : 50 < nb
  · have hd : decide (50 < (nb : Int)) = true := decide_eq_true (by omega)
    have hd2 : decide (50 < nb) = true := decide_eq_true h1
    go_wp2_with fail
    refine (awake_any _).mono ?_
    rintro e w1 ⟨rfl, hb1⟩
    have HZ := Lib.hid (HB0.out.trans (hb1.mono HB0.out.size))
    clear hb1 c0 c1 c2 c3 c4
    go_wp2
    go_ret
    exact ⟨rfl, HZ.out⟩
  · have hd0a : decide (50 < (nb : Int)) = false := decide_eq_false (by omega)
    have hd0b : decide (50 < nb) = false := decide_eq_false h1
    by_cases h2 : 50 < ng
    · have hd : decide (50 < (ng : Int)) = true := decide_eq_true (by omega)
      have hd2 : decide (50 < ng) = true := decide_eq_true h2
      go_wp2_with fail
      refine (awake_any _).mono ?_
      rintro e w1 ⟨rfl, hb1⟩
      have HZ := Lib.hid (HB0.out.trans (hb1.mono HB0.out.size))
      clear hb1 c0 c1 c2 c3 c4
      go_wp2
      go_ret
      exact ⟨rfl, HZ.out⟩
    · have hd1a : decide (50 < (ng : Int)) = false := decide_eq_false (by omega)
      have hd1b : decide (50 < ng) = false := decide_eq_false h2
      by_cases h3 : 2000 < s.size
      · have hd : decide (2000 < (s.size : Int)) = true := decide_eq_true (by omega)
        have hd2 : decide (2000 < s.size) = true := decide_eq_true h3
        go_wp2_with fail
        refine (awake_any _).mono ?_
        rintro e w1 ⟨rfl, hb1⟩
        have HZ := Lib.hid (HB0.out.trans (hb1.mono HB0.out.size))
        clear hb1 c0 c1 c2 c3 c4
        go_wp2
        go_ret
        exact ⟨rfl, HZ.out⟩
      · have hd2a : decide (2000 < (s.size : Int)) = false := decide_eq_false (by omega)
        have hd2b : decide (2000 < s.size) = false := decide_eq_false h3
        have hr := HH.out.few (by omega) (by omega)
        have HR0 := Lib.hid (hr.below HB0.out)
        clear hr
        have HRA := Lib.hid (fun (u : World) (hu : Below w0.heap.size w0 u) => HR0.out.below hu)
        have HC := Lib.hid (fun (u : World) (hu : Below w0.heap.size w0 u) => five_cells (HX.out.below HX.out.lt hu))
        obtain ⟨X, hX⟩ : ∃ X, X = layX (print r) := ⟨_, rfl⟩
        obtain ⟨E, hE⟩ : ∃ E, E = errV (print r) := ⟨_, rfl⟩
        have RP := Lib.hid (fun (u : World) (hu : RosR u r g ab nb ag ng) => print_any r X E g ab ag nb cb ng cg u hX hE hu)
        have HXX := Lib.hid hX
        have HEE := Lib.hid hE
        have RS := Lib.hid (fun u => read_any s u (by omega))
        clear hX hE
        go_wp2_with fail
        refine (RP.out _ HR0.out).mono ?_
        rintro e w1 ⟨rfl, hb1⟩
        have HB1 := Lib.hid hb1
        clear hb1 c0 c1 c2 c3 c4
        go_upto_if 41 with (fail)
        go_cut [] (fun wc => Below w0.heap.size w0 wc)
        case first =>
          cases hp : print r with
          | error y =>
            have hy := print_err r y hp
            have hEe : E = (y : Int) := by rw [HEE.out, hp]; rfl
            subst hEe
            have hne : ((y : Int) == 0) = false := by simp; omega
            have hne2 : ((y == 0) : Bool) = false := by simp; omega
            clear hp hy
            go_wp2
            go_meet
            case rel => exact HB1.out
          | ok p =>
            have hps := print_size r p hp
            have hXe : X = tx p := by rw [HXX.out, hp]; rfl
            have hEe : E = 0 := by rw [HEE.out, hp]; rfl
            have hrd : read X.data.toList = .ok r := by rw [hXe]; exact print_read r p hp
            have hXs : X.size ≤ 1000000000 := by rw [hXe, tx_size]; exact hps
            have hE0 : errV (read X.data.toList) = 0 := by rw [hrd]; rfl
            subst hEe
            have HRD := Lib.hid hrd
            have HE0 := Lib.hid hE0
            have RX := Lib.hid (fun u => read_any X u hXs)
            clear hp hps hXe hrd hE0
            go_wp2_with fail
            refine (RX.out _).mono ?_
            rintro e w2 ⟨g2, sv, cl, ab2, nb2, cb2, ag2, ng2, cg2, rfl, hrr, hb2⟩
            obtain ⟨hr2, rfl, rfl⟩ := hrr r HRD.out
            rw [HE0.out]
            have HR2 := Lib.hid hr2
            have HB2 := Lib.hid (HB1.out.trans (hb2.mono HB1.out.size))
            clear hrr hr2 hb2
            go_upto_region 6 with (fail)
            have hq := five_made w2 24 (.string g2) (.int .i64 r.servers) (.int .i64 r.clients) (.slice ab2 nb2 cb2) (.slice ag2 ng2 cg2)
            have hbs := HB2.out.alloc HB2.out.size (.cells #[.string g2, .int .i64 r.servers, .int .i64 r.clients, .slice ab2 nb2 cb2, .slice ag2 ng2 cg2] 24)
            have hrs := HR2.out.below ((Below.refl w2.heap.size w2).alloc (Nat.le_refl _) (.cells #[.string g2, .int .i64 r.servers, .int .i64 r.clients, .slice ab2 nb2 cb2, .slice ag2 ng2 cg2] 24))
            generalize w2.alloc (.cells #[.string g2, .int .i64 r.servers, .int .i64 r.clients, .slice ab2 nb2 cb2, .slice ag2 ng2 cg2] 24) = w3 at *
            have HB3 := Lib.hid hbs
            have HR3 := Lib.hid hrs
            obtain ⟨d0, d1, d2, d3, d4⟩ := five_cells hq
            obtain ⟨c0, c1, c2, c3, c4⟩ := HC.out _ HB3.out
            clear hq hbs hrs HR2
            go_wp2_with fail
            refine (same_any r g2 ab2 ag2 ab ag nb2 cb2 ng2 cg2 nb cb ng cg _ g HR3.out (HRA.out _ HB3.out)).mono ?_
            rintro e w4 ⟨rfl, hb4⟩
            have HZ := Lib.hid (HB3.out.trans (hb4.mono HB3.out.size))
            clear hb4 c0 c1 c2 c3 c4 d0 d1 d2 d3 d4
            go_wp2
            go_meet
            case rel => exact HZ.out
        case rest =>
          have HW := Lib.hid hcut
          clear hcut HB1
          go_wp2_with fail
          refine (RS.out _).mono ?_
          rintro e w2 ⟨g2, sv, cl, ab2, nb2, cb2, ag2, ng2, cg2, rfl, hrr, hb2⟩
          have HRR := Lib.hid hrr
          have HB2 := Lib.hid (HW.out.trans (hb2.mono HW.out.size))
          obtain ⟨E2, hE2⟩ : ∃ E2, E2 = errV (read s.data.toList) := ⟨_, rfl⟩
          rw [← hE2]
          have HE2 := Lib.hid hE2
          clear hrr hb2 hE2
          go_upto_if 61 with (fail)
          have hq := five_made w2 24 (.string g2) (.int .i64 sv) (.int .i64 cl) (.slice ab2 nb2 cb2) (.slice ag2 ng2 cg2)
          have hbs := HB2.out.alloc HB2.out.size (.cells #[.string g2, .int .i64 sv, .int .i64 cl, .slice ab2 nb2 cb2, .slice ag2 ng2 cg2] 24)
          have hrs := (Below.refl w2.heap.size w2).alloc (Nat.le_refl _) (.cells #[.string g2, .int .i64 sv, .int .i64 cl, .slice ab2 nb2 cb2, .slice ag2 ng2 cg2] 24)
          generalize w2.alloc (.cells #[.string g2, .int .i64 sv, .int .i64 cl, .slice ab2 nb2 cb2, .slice ag2 ng2 cg2] 24) = w3 at *
          have HQ := Lib.hid hq
          have HB3 := Lib.hid hbs
          have H23 := Lib.hid hrs
          clear hq hbs hrs
          go_cut [] (fun wc => Below w0.heap.size w0 wc)
          case first =>
            cases hrd : read s.data.toList with
            | error y =>
              have hy := read_err _ y hrd
              have hE0 : E2 = (y : Int) := by rw [HE2.out, hrd]; rfl
              have hne : (E2 == 0) = false := by rw [hE0]; simp; omega
              clear hrd hy hE0
              go_wp2
              go_meet
              case rel => exact HB3.out
            | ok x =>
              obtain ⟨hr2, rfl, rfl⟩ := HRR.out x hrd
              have hE0 : E2 = 0 := by rw [HE2.out, hrd]; rfl
              have hne0 : (E2 == 0) = true := by rw [hE0]; rfl
              have hpr : print x = .ok s.data.toList := read_print _ x hrd
              have RX := Lib.hid (fun (u : World) (hu : RosR u x g2 ab2 nb2 ag2 ng2) => print_any x s 0 g2 ab2 ag2 nb2 cb2 ng2 cg2 u (by rw [hpr]; rfl) (by rw [hpr]; rfl) hu)
              have HR3 := Lib.hid (hr2.below H23.out)
              have hs1 := not_same s
              have hs2 := not_same2 s
              have hne : ((0 : Int) != 0) = false := by simp
              clear hrd hr2 hE0 hpr HRR
              obtain ⟨d0, d1, d2, d3, d4⟩ := five_cells HQ.out
              go_wp2_with fail
              refine (RX.out _ HR3.out).mono ?_
              rintro e w4 ⟨rfl, hb4⟩
              have HZ := Lib.hid (HB3.out.trans (hb4.mono HB3.out.size))
              clear hb4 d0 d1 d2 d3 d4
              go_wp2
              go_meet
              case rel => exact HZ.out
          case rest =>
            have HV := Lib.hid hcut
            clear hcut HB3 HQ H23 HRR HB2
            obtain ⟨c0, c1, c2, c3, c4⟩ := HC.out _ HV.out
            cases hl : live r m with
            | false =>
              have RE := Lib.hid (fun (u : World) (hu : RosR u r g ab nb ag ng) => expel_no r m g ab ag nb cb ng cg u hl hm.1 hm.2 hu)
              clear hl
              go_wp2_with fail
              refine (RE.out _ (HRA.out _ HV.out)).mono ?_
              rintro e w4 ⟨ab4, cb4, ag4, cg4, rfl, -, hb4⟩
              have HB4 := Lib.hid (HV.out.trans (hb4.mono HV.out.size))
              clear hb4 c0 c1 c2 c3 c4
              go_upto_if 81 with (fail)
              have hbs := HB4.out.alloc HB4.out.size (.cells #[.string g, .int .i64 r.servers, .int .i64 r.clients, .slice ab4 nb cb4, .slice ag4 ng cg4] 24)
              generalize w4.alloc (.cells #[.string g, .int .i64 r.servers, .int .i64 r.clients, .slice ab4 nb cb4, .slice ag4 ng cg4] 24) = w5 at *
              have HB5 := Lib.hid hbs
              clear hbs
              go_wp2_with fail
              refine (awake_any _).mono ?_
              rintro e w6 ⟨rfl, hb6⟩
              have HZ := Lib.hid (HB0.out.trans ((HB5.out.trans (hb6.mono HB5.out.size)).mono HB0.out.size))
              clear hb6
              go_wp2
              go_ret
              exact ⟨rfl, HZ.out⟩
            | true =>
              obtain ⟨k, hk⟩ : ∃ k, (again (expel r m).gone m).length = k := ⟨_, rfl⟩
              obtain ⟨z, hz⟩ : ∃ z, z = right r := ⟨_, rfl⟩
              have hme : member (expel r m) m = true := ((live_iff r m).1 hl).1
              have hmg : m ∈ (expel r m).gone := (without_mem r.gone m m).2 (.inl rfl)
              have RE := Lib.hid (fun (u : World) (hu : RosR u r g ab nb ag ng) => expel_yes r m g ab ag nb cb ng cg u hl hm.1 hm.2 (by omega) hu)
              have RB := Lib.hid (fun (a4 a5 : Option Addr) (k4 k5 : Nat) (u : World) (hu : RosR u (expel r m) g a4 nb a5 (ng + 1)) => show Calls Try.prog 17 #[.agg #[.string g, .int .i64 r.servers, .int .i64 r.clients, .slice a4 nb k4, .slice a5 (ng + 1) k5], .int .i64 m] u fun e w' => ∃ ab' cb' ag' cg', e = .returned (.tuple #[.agg #[.string g, .int .i64 r.servers, .int .i64 r.clients, .slice ab' nb cb', .slice ag' k cg'], .int .i64 0]) ∧ RosR w' (back (expel r m) m) g ab' nb ag' k ∧ Below u.heap.size u w' from
                back_yes (expel r m) m g a4 a5 nb k4 (ng + 1) k5 k u hme hmg hk hm.1 hm.2 hu)
              have RL := Lib.hid (fun (a4 a5 : Option Addr) (k4 k5 : Nat) (u : World) (hu : RosR u (back (expel r m) m) g a4 nb a5 k) => show Calls Try.prog 9 #[.agg #[.string g, .int .i64 r.servers, .int .i64 r.clients, .slice a4 nb k4, .slice a5 k k5], .int .i64 m] u fun e w' => e = .returned (.bool true) ∧ Below u.heap.size u w' from
                live_any (back (expel r m) m) m true g a4 a5 nb k4 k k5 u (back_live r m hl).symm hm.1 hm.2 hu)
              have RR := Lib.hid (fun (u : World) (hu : RosR u r g ab nb ag ng) => right_any r z g ab ag nb cb ng cg u hz hu)
              have HL := Lib.hid hl
              have HZR := Lib.hid hz
              clear hl hz hk hme hmg
              go_wp2_with fail
              refine (RE.out _ (HRA.out _ HV.out)).mono ?_
              rintro e w4 ⟨ab4, cb4, ag4, cg4, rfl, hr4, hb4⟩
              have HB4 := Lib.hid (HV.out.trans (hb4.mono HV.out.size))
              have HR4 := Lib.hid hr4
              clear hb4 hr4 c0 c1 c2 c3 c4
              go_upto_if 81 with (fail)
              have hq := five_made w4 24 (.string g) (.int .i64 r.servers) (.int .i64 r.clients) (.slice ab4 nb cb4) (.slice ag4 (ng + 1) cg4)
              have hbs := HB4.out.alloc HB4.out.size (.cells #[.string g, .int .i64 r.servers, .int .i64 r.clients, .slice ab4 nb cb4, .slice ag4 (ng + 1) cg4] 24)
              have hrs := HR4.out.below ((Below.refl w4.heap.size w4).alloc (Nat.le_refl _) (.cells #[.string g, .int .i64 r.servers, .int .i64 r.clients, .slice ab4 nb cb4, .slice ag4 (ng + 1) cg4] 24))
              generalize w4.alloc (.cells #[.string g, .int .i64 r.servers, .int .i64 r.clients, .slice ab4 nb cb4, .slice ag4 (ng + 1) cg4] 24) = w5 at *
              have HB5 := Lib.hid hbs
              have HR5 := Lib.hid hrs
              obtain ⟨d0, d1, d2, d3, d4⟩ := five_cells hq
              clear hq hbs hrs HR4
              go_wp2_with fail
              refine (RB.out _ _ _ _ _ HR5.out).mono ?_
              rintro e w6 ⟨ab6, cb6, ag6, cg6, rfl, hr6, hb6⟩
              have HB6 := Lib.hid (HB5.out.trans (hb6.mono HB5.out.size))
              have HR6 := Lib.hid hr6
              clear hb6 hr6 d0 d1 d2 d3 d4
              go_upto_region 16 with (fail)
              have hq := five_made w6 24 (.string g) (.int .i64 r.servers) (.int .i64 r.clients) (.slice ab6 nb cb6) (.slice ag6 k cg6)
              have hbs := HB6.out.alloc HB6.out.size (.cells #[.string g, .int .i64 r.servers, .int .i64 r.clients, .slice ab6 nb cb6, .slice ag6 k cg6] 24)
              have hrs := HR6.out.below ((Below.refl w6.heap.size w6).alloc (Nat.le_refl _) (.cells #[.string g, .int .i64 r.servers, .int .i64 r.clients, .slice ab6 nb cb6, .slice ag6 k cg6] 24))
              generalize w6.alloc (.cells #[.string g, .int .i64 r.servers, .int .i64 r.clients, .slice ab6 nb cb6, .slice ag6 k cg6] 24) = w7 at *
              have HB7 := Lib.hid hbs
              have HR7 := Lib.hid hrs
              have HQ7 := Lib.hid hq
              clear hq hbs hrs HR6
              obtain ⟨d0, d1, d2, d3, d4⟩ := five_cells HQ7.out
              obtain ⟨c0, c1, c2, c3, c4⟩ := HC.out _ HB7.out
              go_wp2_with fail
              refine (RL.out _ _ _ _ _ HR7.out).mono ?_
              rintro e w8 ⟨rfl, hb8⟩
              have H78 := Lib.hid hb8
              have HB8 := Lib.hid (HB7.out.trans (hb8.mono HB7.out.size))
              clear hb8 c0 c1 c2 c3 c4 d0 d1 d2 d3 d4
              obtain ⟨d0, d1, d2, d3, d4⟩ := five_cells (HQ7.out.below HQ7.out.lt H78.out)
              obtain ⟨c0, c1, c2, c3, c4⟩ := HC.out _ HB8.out
              cases z with
              | false =>
                go_wp2_with fail
                refine (RR.out _ (HRA.out _ HB8.out)).mono ?_
                rintro e w9 ⟨rfl, hb9⟩
                have HB9 := Lib.hid (HB8.out.trans (hb9.mono HB8.out.size))
                clear hb9 c0 c1 c2 c3 c4 d0 d1 d2 d3 d4
                go_wp2_with fail
                refine (awake_any _).mono ?_
                rintro e w10 ⟨rfl, hb10⟩
                have HZ := Lib.hid (HB0.out.trans ((HB9.out.trans (hb10.mono HB9.out.size)).mono HB0.out.size))
                clear hb10
                go_wp2
                go_ret
                exact ⟨rfl, HZ.out⟩
              | true =>
                go_wp2_with fail
                refine (RR.out _ (HRA.out _ HB8.out)).mono ?_
                rintro e w9 ⟨rfl, hb9⟩
                have H79 := Lib.hid (H78.out.trans (hb9.mono H78.out.size))
                have HB9 := Lib.hid (HB8.out.trans (hb9.mono HB8.out.size))
                clear hb9 c0 c1 c2 c3 c4 d0 d1 d2 d3 d4
                obtain ⟨d0, d1, d2, d3, d4⟩ := five_cells (HQ7.out.below HQ7.out.lt H79.out)
                obtain ⟨c0, c1, c2, c3, c4⟩ := HC.out _ HB9.out
                have hr9 := HR7.out.below H79.out
                rw [back_same r m HZR.out.symm HL.out] at hr9
                have HR9 := Lib.hid hr9
                clear hr9
                go_wp2_with fail
                refine (same_any r g ab6 ag6 ab ag nb cb6 k cg6 nb cb ng cg _ g HR9.out (HRA.out _ HB9.out)).mono ?_
                rintro e w10 ⟨rfl, hb10⟩
                have HB10 := Lib.hid (HB9.out.trans (hb10.mono HB9.out.size))
                clear hb10 c0 c1 c2 c3 c4 d0 d1 d2 d3 d4
                go_wp2_with fail
                refine (awake_any _).mono ?_
                rintro e w11 ⟨rfl, hb11⟩
                have HZ := Lib.hid (HB0.out.trans ((HB10.out.trans (hb11.mono HB10.out.size)).mono HB0.out.size))
                clear hb11
                go_wp2
                go_ret
                exact ⟨rfl, HZ.out⟩

theorem own : ownKnob Try.prog.godebug = none := by kernel_rfl
theorem laidOut : laidOutB Try.prog = true := by kernel_rfl

theorem lifted (os : Os) (started : os.Started) (H : Type) (enc : TypeId × Value → H) :
    ReturnsInHanded {} Try.checked os 5 .any (Rows.rosterBackSpec.pre6 enc Try.prog Try.f5 Rows.rosterBackRow.domain false) (Rows.rosterBackSpec.post enc Try.prog Try.f5 false true false false) := by
  refine returnsInHanded_of_change (C := Try.checked) own started (by kernel_rfl) Try.func5
    (ChangeSpec.witness6 (enc := enc) (C := Try.checked) false ⟨#[], #[.agg #[.string ByteArray.empty, .int .i64 0, .int .i64 0, .slice none 0 0, .slice none 0 0], .string ByteArray.empty, .int .i64 0], []⟩ 8 (by kernel_rfl) (by kernel_rfl) (by kernel_rfl) (by kernel_rfl)) ?_
  intro W base args ds gs before hval0 hW hcnd _
  have hval : ∀ (j : Nat) t v, Try.f5.params[j]? = some t → args[j]? = some v → Value.okWide Try.prog W .any base t v := hval0
  have hW' := hW
  obtain ⟨p, q, hA0, hV, rfl, hfz, hnd⟩ := hW
  have hA : DataW.TrodAll enc Try.prog W 0 (fun _ => true) true Try.f5.params.toList args.toList ds p := hA0
  rw [Try.params5] at hA hval
  obtain ⟨v0, vs0, d0, ds0, p0, q0, hargs, rfl, rfl, h0, r0⟩ := trodAll_cons hA
  obtain ⟨v1, vs1, d1, ds1, p1, q1, rfl, rfl, rfl, h1, r1⟩ := trodAll_cons r0
  obtain ⟨v2, vs2, d2, ds2, p2, q2, rfl, rfl, rfl, h2, r2⟩ := trodAll_cons r1
  obtain ⟨rfl, rfl, rfl⟩ := trodAll_nil r2
  obtain rfl : args = #[v0, v1, v2] := by cases args; simp_all
  obtain ⟨rfl, rfl⟩ := trodVars_none hV
  have k0 := h0
  have lt0 : ∀ x ∈ p0, x.block < W.heap.size := by obtain ⟨m, hm⟩ := k0; exact DataW.trod_lt m _ _ _ hm
  obtain ⟨ro, g, ab, nb, cb, ag, ng, cg, rfl, hro⟩ := open_roster (hval 0 24 v0 rfl rfl) h0
  obtain ⟨a1, rfl, rfl, rfl, w1⟩ := open_string Try.underlying9 (hval 1 9 v1 rfl rfl) h1
  obtain ⟨a2, rfl, rfl, rfl, w2⟩ := open_int Try.underlying3 (hval 2 3 v2 rfl rfl) h2
  clear hA0 hval0
  refine (walk ro g ab ag nb cb ng cg a1 a2 W hro (int_wf w2)).mono fun e W' ⟨he, bel⟩ => ?_
  subst he
  exact ⟨_, rfl, _, _, _, [], _, [], hW', trodAll_mk1 (shut_bool Try.underlying4 _), (trodAll_cons_mk (Below.trod laidOut (by kernel_rfl) (of_decide_eq_true (by kernel_rfl)) k0 bel lt0) (trodAll_cons_mk (shut_string Try.underlying9 w1) (trodAll_cons_mk (shut_int Try.underlying3 w2) trodAll_mk0))), rfl, bel.frame _, fun h => by cases h⟩

theorem over : Rows.rosterBackRow.holds Try.pinned (OpenSpec.ofChange Rows.rosterBackSpec) :=
  OpenClaim.holds_of_wide 5 Try.f5 rfl rfl rfl rfl rfl rfl rfl ⟨rfl, rfl, rfl, rfl, rfl⟩ rfl rfl rfl rfl rfl (by kernel_rfl) Try.func5 (by kernel_rfl)
    (of_decide_eq_true (by kernel_rfl)) (by unfold Func.isWrapper; first | (rw [if_pos (by decide +kernel)]; kernel_rfl) | (rw [if_neg (by decide +kernel)]; exact ⟨rfl, rfl⟩))
    (fun os started H enc _ => lifted os started H enc)

theorem proved : Rows.RosterBackSaid := over
#print axioms proved
end Go.Proofs.Ytofnjonmfgdpaaa.LawRBack
