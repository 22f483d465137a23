/-
  PhraseOrders of layer 11: for any two texts and width, Compare, Wrap and Find of package phrase answer what the document answers. Conditions: those of the row alone (the listed tables of the library as the text lays them; the tie is the card).
-/
import Derived.Test.YthlhhmhldpmpiaaDoorPhrTexts
import Derived.Test.YthlhhmhldpmpiaaDoorPhrCnt
import Derived.Test.YthlhhmhldpmpiaaDoorRPhrG
import Derived.Test.YthlhhmhldpmpiaaDoorRPhrI
import Derived.Test.YthlhhmhldpmpiaaDoorRPhrJ
import Derived.Test.YthlhhmhldpmpiaaDoorRPhrK
import Derived.Test.YthlhhmhldpmpiaaDoorPhrFrame
import Derived.Test.YthlhhmhldpmpiaaDoorPhrAwake
namespace Go.Proofs.YthlhhmhldpmpiaaDoor.LawOds
open Go.ChangeShapes Go.WideShapes Go.ChangeAt Go.ChangeMaps Go.RowKit Mur Phr
set_option maxRecDepth 100000

set_option maxHeartbeats 6400000 in
theorem walk (a b : ByteArray) (n : Int) (w : World) (ha : a.data.toList.length ≤ 140737488355328) (hb : b.data.toList.length ≤ 140737488355328) (hn : -9223372036854775808 ≤ n ∧ n ≤ 9223372036854775807) (hl : Lim w) :
    Calls Tryd.prog 4 #[.string a, .string b, .int .i64 n] w fun e w' => e = .returned (.bool true) ∧ Below w.heap.size w w' := by
  have za : a.size ≤ 140737488355328 := ha
  have zb : b.size ≤ 140737488355328 := hb
  clear ha hb
  have HLIM := Lib.hid (fun (u : World) (hb : Below w.heap.size w u) => hl.below hb)
  have RA := Lib.hid (fun u hu => awake_any u hu)
  clear hl
  by_cases hg : 400 < a.size + b.size
  · have hd : decide (400 < (a.size : Int) + (b.size : Int)) = true := decide_eq_true (by omega)
    have hd2 : decide (400 < a.size + b.size) = true := decide_eq_true hg
    go_enter Tryd.func4, Tryd.ntmps4
    go_wp2_with fail
    refine (RA.out _ (HLIM.out _ (Below.refl _ _))).mono ?_
    rintro e w1 ⟨rfl, hb1⟩
    go_wp2
    go_ret
    exact ⟨rfl, hb1⟩
  · have hd : decide (400 < (a.size : Int) + (b.size : Int)) = false := decide_eq_false (by omega)
    have hd2 : decide (400 < a.size + b.size) = false := decide_eq_false hg
    obtain ⟨N, hN⟩ : ∃ N, N = Phr.compare a.data.toList b.data.toList := ⟨_, rfl⟩
    obtain ⟨M, hM⟩ : ∃ M, M = findB a.data.toList b.data.toList := ⟨_, rfl⟩
    obtain ⟨L, hL⟩ : ∃ L, L = wrap n (rs a.data.toList) := ⟨_, rfl⟩
    have hLl : L.length ≤ 401 := by
      have h1 := Cnt.lines_most a.data.toList n
      have h2 := rs_length a.data.toList
      have h3 : a.data.toList.length = a.size := rfl
      rw [hL]
      omega
    have T1 := Lib.hid (fun u => compare_any a b N u hN (by omega) (by omega))
    have T2 := Lib.hid (fun u => RPhr.compare_any a b N u hN (by omega) (by omega))
    have T3 := Lib.hid (fun u hu => wrap_any a n u L hL hn.1 hn.2 (by omega) hu)
    have T4 := Lib.hid (fun u => RPhr.wrap_any a n u L hL (by omega) hn.1 hn.2 (by omega))
    have T5 := Lib.hid (fun (x y : Option Addr) (c d : Nat) (u : World) (hx : StrsR u x (wordsT L)) (hy : StrsR u y (wordsT L)) => texts_any (wordsT L) L.length L.length x y c d u (wordsT_length L).symm (wordsT_length L).symm (by omega) hx hy)
    have T6 := Lib.hid (fun u hu => find_any a b M u hM (by omega) (by omega) hu)
    have T7 := Lib.hid (fun u => RPhr.find_any a b M u hM (by omega) (by omega))
    clear hN hM hL hg
    go_enter Tryd.func4, Tryd.ntmps4
    go_wp2_with fail
    refine (T1.out _).mono ?_
    rintro e w1 ⟨rfl, hb1⟩
    have HW1 := Lib.hid hb1
    clear hb1
    go_wp2_with fail
    refine (T2.out _).mono ?_
    rintro e w2 ⟨rfl, hb2⟩
    have HW2 := Lib.hid (HW1.out.trans (hb2.mono HW1.out.size))
    clear hb2
    go_wp2_with fail
    refine (T3.out _ (HLIM.out _ HW2.out)).mono ?_
    rintro e w3 ⟨ax, cx, rfl, hsx, hb3⟩
    have HW3 := Lib.hid (HW2.out.trans (hb3.mono HW2.out.size))
    have HSX := Lib.hid hsx
    clear hb3 hsx
    go_wp2_with fail
    refine (T4.out _).mono ?_
    rintro e w4 ⟨vy, rfl, hoy, hb4⟩
    have HW4 := Lib.hid (HW3.out.trans (hb4.mono HW3.out.size))
    have HSX4 := Lib.hid (HSX.out.below hb4)
    obtain ⟨ay, cy, rfl, -, hsy⟩ := StrsR.own hoy
    have R5 := Lib.hid (T5.out ax ay cx cy w4 HSX4.out hsy)
    clear hb4 hoy hsy HSX
    go_wp2_with fail
    refine R5.out.mono ?_
    rintro e w5 ⟨rfl, hb5⟩
    have HW5 := Lib.hid (HW4.out.trans (hb5.mono HW4.out.size))
    clear hb5
    go_wp2_with fail
    refine (T6.out _ (HLIM.out _ HW5.out)).mono ?_
    rintro e w6 ⟨rfl, hb6⟩
    have HW6 := Lib.hid (HW5.out.trans (hb6.mono HW5.out.size))
    clear hb6
    go_wp2_with fail
    refine (T7.out _).mono ?_
    rintro e w7 ⟨rfl, hb7⟩
    have HW7 := Lib.hid (HW6.out.trans (hb7.mono HW6.out.size))
    clear hb7
    go_wp2_with fail
    refine (RA.out _ (HLIM.out _ HW7.out)).mono ?_
    rintro e w8 ⟨rfl, hb8⟩
    have HW8 := Lib.hid (HW7.out.trans (hb8.mono HW7.out.size))
    clear hb8
    go_wp2
    go_ret
    exact ⟨rfl, HW8.out⟩

set_option maxRecDepth 100000 in
theorem lifted (os : Os) (started : os.Started) (H : Type) (enc : TypeId × Value → H) :
    ReturnsInHanded {} Tryd.checked os 4 .any (fun w args => (Rows.phraseOrdersSpec.pre enc Tryd.prog Tryd.f4 [] false w args ∧ laidMetH Tryd.prog laidL w) ∧ sizedMet enc Tryd.prog Tryd.f4 (OpenSpec.ofChange Rows.phraseOrdersSpec) false w args)
      (Rows.phraseOrdersSpec.post enc Tryd.prog Tryd.f4 false true false false) := by
  refine in_shape own started (by kernel_rfl) Tryd.func4
    (ChangeSpec.witness_shaped (enc := enc) (C := Tryd.checked) (os := os) (X := fun w _ => laidMetH Tryd.prog laidL w) false (World.laidAll Tryd.prog os laidL) #[.string ByteArray.empty, .string ByteArray.empty, .int .i64 0] 8 (World.laidAll_os _ _ _) (table_shaped os _) (by kernel_rfl) (by kernel_rfl) (by kernel_rfl) (table_met os _)) ?_
  intro W base args ds gs before hval0 hW hsz0 hL
  have hval : ∀ (j : Nat) t v, Tryd.f4.params[j]? = some t → args[j]? = some v → Value.okWide Tryd.prog W .any base t v := hval0
  have hsz : (DataW.weightsEach Tryd.prog (Tryd.f4.params.toList ++ Rows.phraseOrdersSpec.plain.varTypes Tryd.prog) (ds ++ gs)).all (· ≤ reachBytes) = true := hsz0
  clear hsz0
  have hW' := hW
  obtain ⟨p, q, hA0, hV, rfl, hfz, hnd⟩ := hW
  have hA : DataW.TrodAll enc Tryd.prog W 0 (fun _ => true) true Tryd.f4.params.toList args.toList ds p := hA0
  rw [Tryd.params4] at hA hval hsz
  obtain ⟨v0, vs0, d0, ds0, p0, q0, hargs, rfl, rfl, h0, r0⟩ := trodAll_cons hA
  obtain ⟨v1, vs1, d1, ds1, p1, q1, rfl, rfl, rfl, h1, r1⟩ := trodAll_cons r0
  obtain ⟨v2, vs2, d2, ds2, p2, q2, rfl, rfl, rfl, h2, r2⟩ := trodAll_cons r1
  obtain ⟨rfl, rfl, rfl⟩ := trodAll_nil r2
  obtain rfl : args = #[v0, v1, v2] := by cases args; simp_all
  obtain ⟨rfl, rfl⟩ := trodVars_none hV
  obtain ⟨s0, rfl, rfl, rfl, w0⟩ := open_string Tryd.underlying9 (hval 0 9 v0 rfl rfl) h0
  have z0 := reach_le (sized_string hsz (j := 0) (t := 9) (bytes := s0.data.toList) rfl rfl)
  obtain ⟨s1, rfl, rfl, rfl, w1⟩ := open_string Tryd.underlying9 (hval 1 9 v1 rfl rfl) h1
  have z1 := reach_le (sized_string hsz (j := 1) (t := 9) (bytes := s1.data.toList) rfl rfl)
  obtain ⟨n2, rfl, rfl, rfl, w2⟩ := open_int Tryd.underlying3 (hval 2 3 v2 rfl rfl) h2
  have b2 := int_range w2
  have hcl := lim_shaped hL
  clear hA0 hval0
  refine (walk s0 s1 n2 W z0 z1 b2 hcl).mono fun e W' ⟨he, bel⟩ => ?_
  subst he
  exact ⟨_, rfl, _, _, _, [], _, [], hW', trodAll_mk1 (shut_bool Tryd.underlying4 _), (trodAll_cons_mk (shut_string Tryd.underlying9 w0) (trodAll_cons_mk (shut_string Tryd.underlying9 w1) (trodAll_cons_mk (shut_int Tryd.underlying3 w2) trodAll_mk0))), rfl, bel.frame _, fun h => by cases h⟩

theorem over : Rows.PhraseOrdersSaid :=
  OpenClaim.holds_of_wide 4 Tryd.f4 rfl rfl rfl rfl rfl rfl rfl ⟨rfl, rfl, rfl, rfl, rfl⟩ rfl rfl rfl rfl rfl (by kernel_rfl) Tryd.func4 (by kernel_rfl)
    (of_decide_eq_true (by kernel_rfl)) (by unfold Func.isWrapper; first | (rw [if_pos (by decide +kernel)]; kernel_rfl) | (rw [if_neg (by decide +kernel)]; exact ⟨rfl, rfl⟩))
    (fun os started H enc _ => lifted os started H enc)

theorem proved : Rows.PhraseOrdersCardSaid :=
  Claim7.holds_tied_plain_at .later [] [.data, .pinned] true Rows.phraseOrdersCard.stood.harness false
    over (fun _ h => by cases h) (by kernel_rfl) (fun _ h => by cases h) phraseOrders_row_tie rfl ⟨rfl, rfl⟩ (by kernel_rfl) rfl
    (fun f fn hf hfn => by
      obtain rfl : f = 4 := Option.some.inj ((show Tryd.prog.funcNamed "murmur/murmurlaw11.PhraseOrders" = some 4 by kernel_rfl).symm.trans hf) |>.symm
      obtain rfl : fn = Tryd.f4 := (Option.some.inj (Tryd.func4.symm.trans hfn)).symm
      exact ⟨by kernel_rfl, fun j t ht => by
        rw [Tryd.params4] at ht
        have hm : t ∈ [9, 9, 3] := by simpa using Array.mem_of_getElem? ht
        have hall : ([9, 9, 3].all fun u => !Tryd.prog.wantsStandIn u) = true := by kernel_rfl
        exact (show Tryd.prog.wantsStandIn t = false by simpa using List.all_eq_true.1 hall t hm)⟩)
    (by kernel_rfl)
#print axioms proved
end Go.Proofs.YthlhhmhldpmpiaaDoor.LawOds
