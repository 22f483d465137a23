/-
  PhraseBack of layer 11: for any text that may be said: back and back again it is as it was, folded twice it is as folded once, it has as many bytes as its width. Conditions: those of the row alone (the listed tables of the library as the text lays them; the tie is the card).
-/
import Derived.Test.YthlhhmhldpmpiaaDoorPhrFrame
import Derived.Test.YthlhhmhldpmpiaaDoorPhrAwake
namespace Go.Proofs.YthlhhmhldpmpiaaDoor.LawBk
open Go.ChangeShapes Go.WideShapes Go.ChangeAt Go.ChangeMaps Go.RowKit Mur Phr
set_option maxRecDepth 100000

set_option maxHeartbeats 6400000 in
theorem walk (s : ByteArray) (w : World) (hs : s.data.toList.length ≤ 140737488355328) (hl : Lim w) :
    Calls Tryd.prog 7 #[.string s] w fun e w' => e = .returned (.bool true) ∧ Below w.heap.size w w' := by
  have hsl : s.data.toList.length = s.size := rfl
  have HLIM := Lib.hid (fun (u : World) (hb : Below w.heap.size w u) => hl.below hb)
  have RA := Lib.hid (fun u hu => awake_any u hu)
  clear hl
  by_cases hg : 16 < s.size
  · have hd : decide (16 < (s.size : Int)) = true := decide_eq_true (by omega)
    have hd2 : decide (16 < s.size) = true := decide_eq_true hg
    clear hsl hs
    go_enter Tryd.func7, Tryd.ntmps7
    go_wp2_with fail
    refine (RA.out _ (HLIM.out _ (Below.refl _ _))).mono ?_
    rintro e w1 ⟨rfl, hb1⟩
    go_wp2
    go_ret
    exact ⟨rfl, hb1⟩
  · have hd : decide (16 < (s.size : Int)) = false := decide_eq_false (by omega)
    have hd2 : decide (16 < s.size) = false := decide_eq_false hg
    have R0 := Lib.hid (fun (B : Bool) (h : B = right s.data.toList) u => right_any s B u h (by omega))
    cases hr : right s.data.toList with
    | false =>
      rw [hr] at R0
      have R1 := Lib.hid (fun u => R0.out false rfl u)
      clear hr R0 hsl hs hg
      go_enter Tryd.func7, Tryd.ntmps7
      go_wp2_with fail
      refine (R1.out _).mono ?_
      rintro e w1 ⟨rfl, hb1⟩
      have HW1 := Lib.hid hb1
      clear hb1
      go_wp2_with fail
      refine (RA.out _ (HLIM.out _ HW1.out)).mono ?_
      rintro e w2 ⟨rfl, hb2⟩
      have HW2 := Lib.hid (HW1.out.trans (hb2.mono HW1.out.size))
      clear hb2
      go_wp2
      go_ret
      exact ⟨rfl, HW2.out⟩
    | true =>
      rw [hr] at R0
      have R1 := Lib.hid (fun u => R0.out true rfl u)
      obtain ⟨l, hl, h0⟩ : ∃ l, runes s.data.toList = some l ∧ 0 < s.data.toList.length := by
        unfold right at hr
        simp only [Bool.and_eq_true, decide_eq_true_eq] at hr
        cases hx : runes s.data.toList with
        | none => rw [hx] at hr; simp at hr
        | some l => exact ⟨l, rfl, by omega⟩
      obtain ⟨f1, f2, f3, f4, f5, f6, f7⟩ := back_facts hl h0
      have hbl : (backB s.data.toList).length ≤ 32 := by
        have h1 := (text_length (rs s.data.toList).reverse).2
        have h2 := rs_length s.data.toList
        rw [List.length_reverse] at h1
        unfold backB
        omega
      obtain ⟨F, hF⟩ : ∃ F, F = tx (foldB s.data.toList) := ⟨_, rfl⟩
      obtain ⟨B, hB⟩ : ∃ B, B = tx (backB s.data.toList) := ⟨_, rfl⟩
      obtain ⟨G, hG⟩ : ∃ G, G = tx (backB (foldB s.data.toList)) := ⟨_, rfl⟩
      obtain ⟨N, hN⟩ : ∃ N, N = count s.data.toList := ⟨_, rfl⟩
      have hFs : F.size = s.size := by rw [hF, tx_size, f6, hsl]
      have T1 := Lib.hid (fun u => fold_any s F u hF (by omega))
      have T2 := Lib.hid (fun u => back_any s B u hB (by omega))
      have T3 := Lib.hid (fun u => back_any B s u (by rw [hB, tx_list, f1]) (by rw [hB, tx_size]; omega))
      have T4 := Lib.hid (fun u => fold_any F F u (by rw [hF, tx_list, f2]) (by omega))
      have T5 := Lib.hid (fun u => width_any s (s.size : Int) u (by rw [f3, hsl]))
      have T6 := Lib.hid (fun u => count_any s (N : Int) u (by rw [hN]) (by omega))
      have T7 := Lib.hid (fun u => back_any F G u (by rw [hF, hG]) (by omega))
      have T8 := Lib.hid (fun u => fold_any B G u (by rw [hB, hG, tx_list, f7]) (by rw [hB, tx_size]; omega))
      have e1 : ((F.size : Int) == (s.size : Int)) = true := by rw [hFs]; simp
      have e2 : decide (1 ≤ (N : Int)) = true := decide_eq_true (by omega)
      have e3 : decide ((N : Int) ≤ (s.size : Int)) = true := decide_eq_true (by omega)
      have e4 : decide (N ≤ s.size) = true := decide_eq_true (by omega)
      have e5 : decide (1 ≤ N) = true := decide_eq_true (by omega)
      clear hr R0 hsl hs hg hl h0 f1 f2 f3 f4 f5 f6 f7 hbl hF hB hG hN hFs
      go_enter Tryd.func7, Tryd.ntmps7
      go_wp2_with fail
      refine (R1.out _).mono ?_
      rintro e w1 ⟨rfl, hb1⟩
      have HW1 := Lib.hid hb1
      clear hb1
      go_wp2_with fail
      refine (T1.out _).mono ?_
      rintro e w2 ⟨rfl, hb2⟩
      have HW2 := Lib.hid (HW1.out.trans (hb2.mono HW1.out.size))
      clear hb2
      go_wp2_with fail
      refine (T2.out _).mono ?_
      rintro e w3 ⟨rfl, hb3⟩
      have HW3 := Lib.hid (HW2.out.trans (hb3.mono HW2.out.size))
      clear hb3
      go_wp2_with fail
      refine (T3.out _).mono ?_
      rintro e w4 ⟨rfl, hb4⟩
      have HW4 := Lib.hid (HW3.out.trans (hb4.mono HW3.out.size))
      clear hb4
      go_wp2_with fail
      refine (T4.out _).mono ?_
      rintro e w5 ⟨rfl, hb5⟩
      have HW5 := Lib.hid (HW4.out.trans (hb5.mono HW4.out.size))
      clear hb5
      go_wp2_with fail
      refine (T5.out _).mono ?_
      rintro e w6 ⟨rfl, hb6⟩
      have HW6 := Lib.hid (HW5.out.trans (hb6.mono HW5.out.size))
      clear hb6
      go_wp2_with fail
      refine (T6.out _).mono ?_
      rintro e w7 ⟨rfl, hb7⟩
      have HW7 := Lib.hid (HW6.out.trans (hb7.mono HW6.out.size))
      clear hb7
      go_wp2_with fail
      refine (T6.out _).mono ?_
      rintro e w8 ⟨rfl, hb8⟩
      have HW8 := Lib.hid (HW7.out.trans (hb8.mono HW7.out.size))
      clear hb8
      go_wp2_with fail
      refine (T7.out _).mono ?_
      rintro e w9 ⟨rfl, hb9⟩
      have HW9 := Lib.hid (HW8.out.trans (hb9.mono HW8.out.size))
      clear hb9
      go_wp2_with fail
      refine (T2.out _).mono ?_
      rintro e w10 ⟨rfl, hb10⟩
      have HW10 := Lib.hid (HW9.out.trans (hb10.mono HW9.out.size))
      clear hb10
      go_wp2_with fail
      refine (T8.out _).mono ?_
      rintro e w11 ⟨rfl, hb11⟩
      have HW11 := Lib.hid (HW10.out.trans (hb11.mono HW10.out.size))
      clear hb11
      go_wp2_with fail
      refine (RA.out _ (HLIM.out _ HW11.out)).mono ?_
      rintro e w12 ⟨rfl, hb12⟩
      have HW12 := Lib.hid (HW11.out.trans (hb12.mono HW11.out.size))
      clear hb12
      go_wp2
      go_ret
      exact ⟨rfl, HW12.out⟩

set_option maxRecDepth 100000 in
theorem lifted (os : Os) (started : os.Started) (H : Type) (enc : TypeId × Value → H) :
    ReturnsInHanded {} Tryd.checked os 7 .any (fun w args => (Rows.phraseBackSpec.pre enc Tryd.prog Tryd.f7 [] false w args ∧ laidMetH Tryd.prog laidL w) ∧ sizedMet enc Tryd.prog Tryd.f7 (OpenSpec.ofChange Rows.phraseBackSpec) false w args)
      (Rows.phraseBackSpec.post enc Tryd.prog Tryd.f7 false true false false) := by
  refine in_shape own started (by kernel_rfl) Tryd.func7
    (ChangeSpec.witness_shaped (enc := enc) (C := Tryd.checked) (os := os) (X := fun w _ => laidMetH Tryd.prog laidL w) false (World.laidAll Tryd.prog os laidL) #[.string ByteArray.empty] 8 (World.laidAll_os _ _ _) (table_shaped os _) (by kernel_rfl) (by kernel_rfl) (by kernel_rfl) (table_met os _)) ?_
  intro W base args ds gs before hval0 hW hsz0 hL
  have hval : ∀ (j : Nat) t v, Tryd.f7.params[j]? = some t → args[j]? = some v → Value.okWide Tryd.prog W .any base t v := hval0
  have hsz : (DataW.weightsEach Tryd.prog (Tryd.f7.params.toList ++ Rows.phraseBackSpec.plain.varTypes Tryd.prog) (ds ++ gs)).all (· ≤ reachBytes) = true := hsz0
  clear hsz0
  have hW' := hW
  obtain ⟨p, q, hA0, hV, rfl, hfz, hnd⟩ := hW
  have hA : DataW.TrodAll enc Tryd.prog W 0 (fun _ => true) true Tryd.f7.params.toList args.toList ds p := hA0
  rw [Tryd.params7] at hA hval hsz
  obtain ⟨v0, vs0, d0, ds0, p0, q0, hargs, rfl, rfl, h0, r0⟩ := trodAll_cons hA
  obtain ⟨rfl, rfl, rfl⟩ := trodAll_nil r0
  obtain rfl : args = #[v0] := by cases args; simp_all
  obtain ⟨rfl, rfl⟩ := trodVars_none hV
  obtain ⟨s0, rfl, rfl, rfl, w0⟩ := open_string Tryd.underlying9 (hval 0 9 v0 rfl rfl) h0
  have z0 := reach_le (sized_string hsz (j := 0) (t := 9) (bytes := s0.data.toList) rfl rfl)
  have hcl := lim_shaped hL
  clear hA0 hval0
  refine (walk s0 W z0 hcl).mono fun e W' ⟨he, bel⟩ => ?_
  subst he
  exact ⟨_, rfl, _, _, _, [], _, [], hW', trodAll_mk1 (shut_bool Tryd.underlying4 _), (trodAll_cons_mk (shut_string Tryd.underlying9 w0) trodAll_mk0), rfl, bel.frame _, fun h => by cases h⟩

theorem over : Rows.PhraseBackSaid :=
  OpenClaim.holds_of_wide 7 Tryd.f7 rfl rfl rfl rfl rfl rfl rfl ⟨rfl, rfl, rfl, rfl, rfl⟩ rfl rfl rfl rfl rfl (by kernel_rfl) Tryd.func7 (by kernel_rfl)
    (of_decide_eq_true (by kernel_rfl)) (by unfold Func.isWrapper; first | (rw [if_pos (by decide +kernel)]; kernel_rfl) | (rw [if_neg (by decide +kernel)]; exact ⟨rfl, rfl⟩))
    (fun os started H enc _ => lifted os started H enc)

theorem proved : Rows.PhraseBackCardSaid :=
  Claim7.holds_tied_plain_at .later [] [.data, .pinned] true Rows.phraseBackCard.stood.harness false
    over (fun _ h => by cases h) (by kernel_rfl) (fun _ h => by cases h) phraseBack_row_tie rfl ⟨rfl, rfl⟩ (by kernel_rfl) rfl
    (fun f fn hf hfn => by
      obtain rfl : f = 7 := Option.some.inj ((show Tryd.prog.funcNamed "murmur/murmurlaw11.PhraseBack" = some 7 by kernel_rfl).symm.trans hf) |>.symm
      obtain rfl : fn = Tryd.f7 := (Option.some.inj (Tryd.func7.symm.trans hfn)).symm
      exact ⟨by kernel_rfl, fun j t ht => by
        rw [Tryd.params7] at ht
        have hm : t ∈ [9] := by simpa using Array.mem_of_getElem? ht
        have hall : ([9].all fun u => !Tryd.prog.wantsStandIn u) = true := by kernel_rfl
        exact (show Tryd.prog.wantsStandIn t = false by simpa using List.all_eq_true.1 hall t hm)⟩)
    (by kernel_rfl)
#print axioms proved
end Go.Proofs.YthlhhmhldpmpiaaDoor.LawBk
