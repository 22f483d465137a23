/-
  PhraseSays of layer 11: for any text and number, Right, Count, Cut, Fold, Back, Split, Width, Fill, Bare, Initials and Find of package phrase answer what the document answers. Conditions: those of the row alone (the listed tables of the library as the text lays them; the tie is the card).
-/
import Derived.Test.YthlhhmhldpmpiaaDoorPhrTexts
import Derived.Test.YthlhhmhldpmpiaaDoorPhrCnt
import Derived.Test.YthlhhmhldpmpiaaDoorRPhrG
import Derived.Test.YthlhhmhldpmpiaaDoorRPhrI
import Derived.Test.YthlhhmhldpmpiaaDoorRPhrJ
import Derived.Test.YthlhhmhldpmpiaaDoorRPhrK
import Derived.Test.YthlhhmhldpmpiaaDoorPhrFrame
import Derived.Test.YthlhhmhldpmpiaaDoorPhrAwake
namespace Go.Proofs.YthlhhmhldpmpiaaDoor.LawSy
open Go.ChangeShapes Go.WideShapes Go.ChangeAt Go.ChangeMaps Go.RowKit Mur Phr
set_option maxRecDepth 100000

set_option maxHeartbeats 12800000 in
theorem walk (s : ByteArray) (n : Int) (w : World) (hs : s.data.toList.length ≤ 140737488355328) (hn : -9223372036854775808 ≤ n ∧ n ≤ 9223372036854775807) (hl : Lim w) :
    Calls Tryd.prog 3 #[.string s, .int .i64 n] w fun e w' => e = .returned (.bool true) ∧ Below w.heap.size w w' := by
  have zs : s.size ≤ 140737488355328 := hs
  clear hs
  have HLIM := Lib.hid (fun (u : World) (hb : Below w.heap.size w u) => hl.below hb)
  have RA := Lib.hid (fun u hu => awake_any u hu)
  clear hl
  by_cases hg : 300 < s.size
  · have hd : decide (300 < (s.size : Int)) = true := decide_eq_true (by omega)
    have hd2 : decide (300 < s.size) = true := decide_eq_true hg
    go_enter Tryd.func3, Tryd.ntmps3
    go_wp2_with fail
    refine (RA.out _ (HLIM.out _ (Below.refl _ _))).mono ?_
    rintro e w1 ⟨rfl, hb1⟩
    go_wp2
    go_ret
    exact ⟨rfl, hb1⟩
  · have hd : decide (300 < (s.size : Int)) = false := decide_eq_false (by omega)
    have hd2 : decide (300 < s.size) = false := decide_eq_false hg
    have hsl : s.data.toList.length = s.size := rfl
    obtain ⟨B, hB⟩ : ∃ B, B = right s.data.toList := ⟨_, rfl⟩
    obtain ⟨C, hC⟩ : ∃ C, C = Phr.count s.data.toList := ⟨_, rfl⟩
    obtain ⟨X1, hX1⟩ : ∃ X, X = tx (cutB s.data.toList n) := ⟨_, rfl⟩
    obtain ⟨X2, hX2⟩ : ∃ X, X = tx (foldB s.data.toList) := ⟨_, rfl⟩
    obtain ⟨X3, hX3⟩ : ∃ X, X = tx (backB s.data.toList) := ⟨_, rfl⟩
    obtain ⟨L, hL⟩ : ∃ L, L = split (rs s.data.toList) := ⟨_, rfl⟩
    obtain ⟨D, hD⟩ : ∃ D, D = widthB s.data.toList := ⟨_, rfl⟩
    obtain ⟨FL, hFL⟩ : ∃ FL : Bool → ByteArray, ∀ l, FL l = tx (fillB s.data.toList (min n 300) l) := ⟨_, fun _ => rfl⟩
    obtain ⟨X5, hX5⟩ : ∃ X, X = tx (bareB s.data.toList) := ⟨_, rfl⟩
    obtain ⟨X6, hX6⟩ : ∃ X, X = tx (initialsB s.data.toList) := ⟨_, rfl⟩
    obtain ⟨X7, hX7⟩ : ∃ X, X = tx (cutB s.data.toList 2) := ⟨_, rfl⟩
    obtain ⟨N, hN⟩ : ∃ N, N = findB s.data.toList X7.data.toList := ⟨_, rfl⟩
    have hLl : L.length ≤ 401 := by
      have h1 := split_count (rs s.data.toList)
      have h2 := rs_length s.data.toList
      rw [hL]
      omega
    have hX7s : X7.size ≤ 600 := by
      have h1 := (text_length ((rs s.data.toList).take (clamp 2 (rs s.data.toList).length))).2
      have h2 := rs_length s.data.toList
      rw [List.length_take] at h1
      rw [hX7, tx_size]
      unfold cutB
      omega
    have T1 := Lib.hid (fun u => right_any s B u hB (by omega))
    have T2 := Lib.hid (fun u => RPhr.right_any s B u hB (by omega))
    have T3 := Lib.hid (fun u => count_any s (C : Int) u (by rw [hC]) (by omega))
    have T4 := Lib.hid (fun u => RPhr.count_any s (C : Int) u (by rw [hC]) (by omega))
    have T5 := Lib.hid (fun u => cut_any s n X1 u hX1 hn.1 hn.2 (by omega))
    have T6 := Lib.hid (fun u => RPhr.cut_any s n X1 u hX1 hn.1 hn.2 (by omega))
    have T7 := Lib.hid (fun u => fold_any s X2 u hX2 (by omega))
    have T8 := Lib.hid (fun u => RPhr.fold_any s X2 u hX2 (by omega))
    have T9 := Lib.hid (fun u => back_any s X3 u hX3 (by omega))
    have T10 := Lib.hid (fun u => RPhr.back_any s X3 u hX3 (by omega))
    have T11 := Lib.hid (fun u => split_any s u L hL (by omega))
    have T12 := Lib.hid (fun u => RPhr.split_any s u L hL (by omega))
    have T13 := Lib.hid (fun (x y : Option Addr) (c d : Nat) (u : World) (hx : StrsR u x (wordsT L)) (hy : StrsR u y (wordsT L)) => texts_any (wordsT L) L.length L.length x y c d u (wordsT_length L).symm (wordsT_length L).symm (by omega) hx hy)
    have T14 := Lib.hid (fun u => width_any s (D : Int) u (by rw [hD]))
    have T15 := Lib.hid (fun u => RPhr.width_any s (D : Int) u (by rw [hD]) (by omega))
    have T16 := Lib.hid (fun (l : Bool) u => fill_any s (min n 300) l (FL l) u (hFL l) (by omega) (by omega) (by omega))
    have T17 := Lib.hid (fun (l : Bool) u => RPhr.fill_any s (min n 300) l (FL l) u (hFL l) (by omega) (by omega) (by omega))
    have T18 := Lib.hid (fun u => bare_any s X5 u hX5 (by omega))
    have T19 := Lib.hid (fun u => RPhr.bare_any s X5 u hX5 (by omega))
    have T20 := Lib.hid (fun u => initials_any s X6 u hX6 (by omega))
    have T21 := Lib.hid (fun u => RPhr.initials_any s X6 u hX6 (by omega))
    have T22 := Lib.hid (fun u => cut_any s 2 X7 u hX7 (by omega) (by omega) (by omega))
    have T23 := Lib.hid (fun u hu => find_any s X7 N u hN (by omega) (by omega) hu)
    have T24 := Lib.hid (fun u => RPhr.cut_any s 2 X7 u hX7 (by omega) (by omega) (by omega))
    have T25 := Lib.hid (fun u => RPhr.find_any s X7 N u hN (by omega) (by omega))
    clear hB hC hX1 hX2 hX3 hL hD hFL hX5 hX6 hX7 hN hX7s hg hsl
    go_enter Tryd.func3, Tryd.ntmps3
    go_wp2_with fail
    refine (T1.out _).mono ?_
    rintro e w1 ⟨rfl, hb1⟩
    have HW1 := Lib.hid hb1
    clear hb1
    go_wp2_with fail
    refine (T2.out _).mono ?_
    rintro e w2 ⟨rfl, hb2⟩
    have HW2 := Lib.hid (HW1.out.trans (hb2.mono HW1.out.size))
    clear hb2
    go_wp2_with fail
    refine (T3.out _).mono ?_
    rintro e w3 ⟨rfl, hb3⟩
    have HW3 := Lib.hid (HW2.out.trans (hb3.mono HW2.out.size))
    clear hb3
    go_wp2_with fail
    refine (T4.out _).mono ?_
    rintro e w4 ⟨rfl, hb4⟩
    have HW4 := Lib.hid (HW3.out.trans (hb4.mono HW3.out.size))
    clear hb4
    go_wp2_with fail
    refine (T5.out _).mono ?_
    rintro e w5 ⟨rfl, hb5⟩
    have HW5 := Lib.hid (HW4.out.trans (hb5.mono HW4.out.size))
    clear hb5
    go_wp2_with fail
    refine (T6.out _).mono ?_
    rintro e w6 ⟨rfl, hb6⟩
    have HW6 := Lib.hid (HW5.out.trans (hb6.mono HW5.out.size))
    clear hb6
    go_wp2_with fail
    refine (T7.out _).mono ?_
    rintro e w7 ⟨rfl, hb7⟩
    have HW7 := Lib.hid (HW6.out.trans (hb7.mono HW6.out.size))
    clear hb7
    go_wp2_with fail
    refine (T8.out _).mono ?_
    rintro e w8 ⟨rfl, hb8⟩
    have HW8 := Lib.hid (HW7.out.trans (hb8.mono HW7.out.size))
    clear hb8
    go_wp2_with fail
    refine (T9.out _).mono ?_
    rintro e w9 ⟨rfl, hb9⟩
    have HW9 := Lib.hid (HW8.out.trans (hb9.mono HW8.out.size))
    clear hb9
    go_wp2_with fail
    refine (T10.out _).mono ?_
    rintro e w10 ⟨rfl, hb10⟩
    have HW10 := Lib.hid (HW9.out.trans (hb10.mono HW9.out.size))
    clear hb10
    go_wp2_with fail
    refine (T11.out _).mono ?_
    rintro e w11 ⟨vx, rfl, hox, hb11⟩
    have HW11 := Lib.hid (HW10.out.trans (hb11.mono HW10.out.size))
    obtain ⟨ax, cx, rfl, -, hsx⟩ := StrsR.own hox
    have HSX := Lib.hid hsx
    clear hb11 hox hsx
    go_wp2_with fail
    refine (T12.out _).mono ?_
    rintro e w12 ⟨vy, rfl, hoy, hb12⟩
    have HW12 := Lib.hid (HW11.out.trans (hb12.mono HW11.out.size))
    have HSX4 := Lib.hid (HSX.out.below hb12)
    obtain ⟨ay, cy, rfl, -, hsy⟩ := StrsR.own hoy
    have R13 := Lib.hid (T13.out ax ay cx cy w12 HSX4.out hsy)
    clear hb12 hoy hsy HSX
    go_wp2_with fail
    refine R13.out.mono ?_
    rintro e w13 ⟨rfl, hb13⟩
    have HW13 := Lib.hid (HW12.out.trans (hb13.mono HW12.out.size))
    clear hb13
    go_wp2_with fail
    refine (T14.out _).mono ?_
    rintro e w14 ⟨rfl, hb14⟩
    have HW14 := Lib.hid (HW13.out.trans (hb14.mono HW13.out.size))
    clear hb14
    go_wp2_with fail
    refine (T15.out _).mono ?_
    rintro e w15 ⟨rfl, hb15⟩
    have HW15 := Lib.hid (HW14.out.trans (hb15.mono HW14.out.size))
    clear hb15
    go_wp2_with fail
    refine (T16.out _ _).mono ?_
    rintro e w16 ⟨rfl, hb16⟩
    have HW16 := Lib.hid (HW15.out.trans (hb16.mono HW15.out.size))
    clear hb16
    go_wp2_with fail
    refine (T17.out _ _).mono ?_
    rintro e w17 ⟨rfl, hb17⟩
    have HW17 := Lib.hid (HW16.out.trans (hb17.mono HW16.out.size))
    clear hb17
    go_wp2_with fail
    refine (T18.out _).mono ?_
    rintro e w18 ⟨rfl, hb18⟩
    have HW18 := Lib.hid (HW17.out.trans (hb18.mono HW17.out.size))
    clear hb18
    go_wp2_with fail
    refine (T19.out _).mono ?_
    rintro e w19 ⟨rfl, hb19⟩
    have HW19 := Lib.hid (HW18.out.trans (hb19.mono HW18.out.size))
    clear hb19
    go_wp2_with fail
    refine (T20.out _).mono ?_
    rintro e w20 ⟨rfl, hb20⟩
    have HW20 := Lib.hid (HW19.out.trans (hb20.mono HW19.out.size))
    clear hb20
    go_wp2_with fail
    refine (T21.out _).mono ?_
    rintro e w21 ⟨rfl, hb21⟩
    have HW21 := Lib.hid (HW20.out.trans (hb21.mono HW20.out.size))
    clear hb21
    go_wp2_with fail
    refine (T22.out _).mono ?_
    rintro e w22 ⟨rfl, hb22⟩
    have HW22 := Lib.hid (HW21.out.trans (hb22.mono HW21.out.size))
    clear hb22
    go_wp2_with fail
    refine (T23.out _ (HLIM.out _ HW22.out)).mono ?_
    rintro e w23 ⟨rfl, hb23⟩
    have HW23 := Lib.hid (HW22.out.trans (hb23.mono HW22.out.size))
    clear hb23
    go_wp2_with fail
    refine (T24.out _).mono ?_
    rintro e w24 ⟨rfl, hb24⟩
    have HW24 := Lib.hid (HW23.out.trans (hb24.mono HW23.out.size))
    clear hb24
    go_wp2_with fail
    refine (T25.out _).mono ?_
    rintro e w25 ⟨rfl, hb25⟩
    have HW25 := Lib.hid (HW24.out.trans (hb25.mono HW24.out.size))
    clear hb25
    go_wp2_with fail
    refine (RA.out _ (HLIM.out _ HW25.out)).mono ?_
    rintro e w26 ⟨rfl, hb26⟩
    have HW26 := Lib.hid (HW25.out.trans (hb26.mono HW25.out.size))
    clear hb26
    go_wp2
    go_ret
    exact ⟨rfl, HW26.out⟩

set_option maxRecDepth 100000 in
theorem lifted (os : Os) (started : os.Started) (H : Type) (enc : TypeId × Value → H) :
    ReturnsInHanded {} Tryd.checked os 3 .any (fun w args => (Rows.phraseSaysSpec.pre enc Tryd.prog Tryd.f3 [] false w args ∧ laidMetH Tryd.prog laidL w) ∧ sizedMet enc Tryd.prog Tryd.f3 (OpenSpec.ofChange Rows.phraseSaysSpec) false w args)
      (Rows.phraseSaysSpec.post enc Tryd.prog Tryd.f3 false true false false) := by
  refine in_shape own started (by kernel_rfl) Tryd.func3
    (ChangeSpec.witness_shaped (enc := enc) (C := Tryd.checked) (os := os) (X := fun w _ => laidMetH Tryd.prog laidL w) false (World.laidAll Tryd.prog os laidL) #[.string ByteArray.empty, .int .i64 0] 8 (World.laidAll_os _ _ _) (table_shaped os _) (by kernel_rfl) (by kernel_rfl) (by kernel_rfl) (table_met os _)) ?_
  intro W base args ds gs before hval0 hW hsz0 hL
  have hval : ∀ (j : Nat) t v, Tryd.f3.params[j]? = some t → args[j]? = some v → Value.okWide Tryd.prog W .any base t v := hval0
  have hsz : (DataW.weightsEach Tryd.prog (Tryd.f3.params.toList ++ Rows.phraseSaysSpec.plain.varTypes Tryd.prog) (ds ++ gs)).all (· ≤ reachBytes) = true := hsz0
  clear hsz0
  have hW' := hW
  obtain ⟨p, q, hA0, hV, rfl, hfz, hnd⟩ := hW
  have hA : DataW.TrodAll enc Tryd.prog W 0 (fun _ => true) true Tryd.f3.params.toList args.toList ds p := hA0
  rw [Tryd.params3] at hA hval hsz
  obtain ⟨v0, vs0, d0, ds0, p0, q0, hargs, rfl, rfl, h0, r0⟩ := trodAll_cons hA
  obtain ⟨v1, vs1, d1, ds1, p1, q1, rfl, rfl, rfl, h1, r1⟩ := trodAll_cons r0
  obtain ⟨rfl, rfl, rfl⟩ := trodAll_nil r1
  obtain rfl : args = #[v0, v1] := by cases args; simp_all
  obtain ⟨rfl, rfl⟩ := trodVars_none hV
  obtain ⟨s0, rfl, rfl, rfl, w0⟩ := open_string Tryd.underlying9 (hval 0 9 v0 rfl rfl) h0
  have z0 := reach_le (sized_string hsz (j := 0) (t := 9) (bytes := s0.data.toList) rfl rfl)
  obtain ⟨n1, rfl, rfl, rfl, w1⟩ := open_int Tryd.underlying3 (hval 1 3 v1 rfl rfl) h1
  have b1 := int_range w1
  have hcl := lim_shaped hL
  clear hA0 hval0
  refine (walk s0 n1 W z0 b1 hcl).mono fun e W' ⟨he, bel⟩ => ?_
  subst he
  exact ⟨_, rfl, _, _, _, [], _, [], hW', trodAll_mk1 (shut_bool Tryd.underlying4 _), (trodAll_cons_mk (shut_string Tryd.underlying9 w0) (trodAll_cons_mk (shut_int Tryd.underlying3 w1) trodAll_mk0)), rfl, bel.frame _, fun h => by cases h⟩

theorem over : Rows.PhraseSaysSaid :=
  OpenClaim.holds_of_wide 3 Tryd.f3 rfl rfl rfl rfl rfl rfl rfl ⟨rfl, rfl, rfl, rfl, rfl⟩ rfl rfl rfl rfl rfl (by kernel_rfl) Tryd.func3 (by kernel_rfl)
    (of_decide_eq_true (by kernel_rfl)) (by unfold Func.isWrapper; first | (rw [if_pos (by decide +kernel)]; kernel_rfl) | (rw [if_neg (by decide +kernel)]; exact ⟨rfl, rfl⟩))
    (fun os started H enc _ => lifted os started H enc)

theorem proved : Rows.PhraseSaysCardSaid :=
  Claim7.holds_tied_plain_at .later [] [.data, .pinned] true Rows.phraseSaysCard.stood.harness false
    over (fun _ h => by cases h) (by kernel_rfl) (fun _ h => by cases h) phraseSays_row_tie rfl ⟨rfl, rfl⟩ (by kernel_rfl) rfl
    (fun f fn hf hfn => by
      obtain rfl : f = 3 := Option.some.inj ((show Tryd.prog.funcNamed "murmur/murmurlaw11.PhraseSays" = some 3 by kernel_rfl).symm.trans hf) |>.symm
      obtain rfl : fn = Tryd.f3 := (Option.some.inj (Tryd.func3.symm.trans hfn)).symm
      exact ⟨by kernel_rfl, fun j t ht => by
        rw [Tryd.params3] at ht
        have hm : t ∈ [9, 3] := by simpa using Array.mem_of_getElem? ht
        have hall : ([9, 3].all fun u => !Tryd.prog.wantsStandIn u) = true := by kernel_rfl
        exact (show Tryd.prog.wantsStandIn t = false by simpa using List.all_eq_true.1 hall t hm)⟩)
    (by kernel_rfl)
#print axioms proved
end Go.Proofs.YthlhhmhldpmpiaaDoor.LawSy
