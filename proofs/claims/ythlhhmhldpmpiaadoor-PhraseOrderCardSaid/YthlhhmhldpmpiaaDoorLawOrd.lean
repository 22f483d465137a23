/-
  PhraseOrder of layer 11: for any three texts, Compare of package phrase is an order: of two that are unlike one is less, what is less than what is less is less. Conditions: those of the row alone (the listed tables of the library as the text lays them; the tie is the card).
-/
import Derived.Test.YthlhhmhldpmpiaaDoorPhrFrame
import Derived.Test.YthlhhmhldpmpiaaDoorPhrAwake
namespace Go.Proofs.YthlhhmhldpmpiaaDoor.LawOrd
open Go.ChangeShapes Go.WideShapes Go.ChangeAt Go.ChangeMaps Go.RowKit Mur Phr
set_option maxRecDepth 100000

set_option maxHeartbeats 6400000 in
theorem walk (a b c : ByteArray) (w : World) (ha : a.data.toList.length ≤ 140737488355328) (hb : b.data.toList.length ≤ 140737488355328) (hc : c.data.toList.length ≤ 140737488355328) (hl : Lim w) :
    Calls Tryd.prog 5 #[.string a, .string b, .string c] w fun e w' => e = .returned (.bool true) ∧ Below w.heap.size w w' := by
  have za : a.size ≤ 140737488355328 := ha
  have zb : b.size ≤ 140737488355328 := hb
  have zc : c.size ≤ 140737488355328 := hc
  clear ha hb hc
  have HLIM := Lib.hid (fun (u : World) (hb : Below w.heap.size w u) => hl.below hb)
  have RA := Lib.hid (fun u hu => awake_any u hu)
  clear hl
  by_cases hg : 400 < (a.size : Int) + (b.size : Int) + (c.size : Int)
  · have hd : decide (400 < (a.size : Int) + (b.size : Int) + (c.size : Int)) = true := decide_eq_true hg
    have hd2 : decide (400 < a.size + b.size + c.size) = true := decide_eq_true (by omega)
    go_enter Tryd.func5, Tryd.ntmps5
    go_wp2_with fail
    refine (RA.out _ (HLIM.out _ (Below.refl _ _))).mono ?_
    rintro e w1 ⟨rfl, hb1⟩
    go_wp2
    go_ret
    exact ⟨rfl, hb1⟩
  · have hd : decide (400 < (a.size : Int) + (b.size : Int) + (c.size : Int)) = false := decide_eq_false hg
    have hd2 : decide (400 < a.size + b.size + c.size) = false := decide_eq_false (by omega)
    have hor := compare_order a.data.toList b.data.toList c.data.toList
    have hz := compare_zero a.data.toList b.data.toList
    have hng := compare_neg a.data.toList b.data.toList
    have R1 := Lib.hid (fun (N : Int) (h : N = Phr.compare a.data.toList b.data.toList) u => compare_any a b N u h (by omega) (by omega))
    have R2 := Lib.hid (fun (N : Int) (h : N = Phr.compare b.data.toList c.data.toList) u => compare_any b c N u h (by omega) (by omega))
    have R3 := Lib.hid (fun (N : Int) (h : N = Phr.compare a.data.toList c.data.toList) u => compare_any a c N u h (by omega) (by omega))
    have R4 := Lib.hid (fun (N : Int) (h : N = Phr.compare b.data.toList a.data.toList) u => compare_any b a N u h (by omega) (by omega))
    rw [hng] at R4
    clear hng hg
    obtain ⟨hor1, hor2⟩ := hor
    have hrx := compare_range a.data.toList b.data.toList
    have hry := compare_range b.data.toList c.data.toList
    have hrz := compare_range a.data.toList c.data.toList
    generalize Phr.compare a.data.toList b.data.toList = x at *
    generalize Phr.compare b.data.toList c.data.toList = y at *
    generalize Phr.compare a.data.toList c.data.toList = z at *
    have T1 := Lib.hid (fun u => R1.out _ rfl u)
    have T2 := Lib.hid (fun u => R2.out _ rfl u)
    have T3 := Lib.hid (fun u => R3.out _ rfl u)
    have T4 := Lib.hid (fun u => R4.out _ rfl u)
    clear R1 R2 R3 R4
    by_cases hx0 : x = 0
    · subst hx0
      obtain rfl : z = y := hor2.resolve_left (fun h => h rfl)
      have hab : a = b := by
        have h1 := hz.1 rfl
        apply ByteArray.ext
        apply Array.ext'
        exact h1
      subst hab
      clear hor1 hor2 hz hrx
      by_cases hz0 : z = 0
      · subst hz0
        clear hry hrz
        go_enter Tryd.func5, Tryd.ntmps5
        go_wp2_with fail
        refine (T1.out _).mono ?_
        rintro e w1 ⟨rfl, hb1⟩
        have HW1 := Lib.hid hb1
        clear hb1
        go_wp2_with fail
        refine (T2.out _).mono ?_
        rintro e w2 ⟨rfl, hb2⟩
        have HW2 := Lib.hid (HW1.out.trans (hb2.mono HW1.out.size))
        clear hb2
        go_wp2_with fail
        refine (T3.out _).mono ?_
        rintro e w3 ⟨rfl, hb3⟩
        have HW3 := Lib.hid (HW2.out.trans (hb3.mono HW2.out.size))
        clear hb3
        go_wp2_with fail
        refine (T4.out _).mono ?_
        rintro e w4 ⟨rfl, hb4⟩
        have HW4 := Lib.hid (HW3.out.trans (hb4.mono HW3.out.size))
        clear hb4
        go_wp2_with fail
        refine (RA.out _ (HLIM.out _ HW4.out)).mono ?_
        rintro e w5 ⟨rfl, hb5⟩
        have HW5 := Lib.hid (HW4.out.trans (hb5.mono HW4.out.size))
        clear hb5
        go_wp2
        go_ret
        exact ⟨rfl, HW5.out⟩
      · have hd3 : ((0 : Int) != z) = true := by simp; omega
        have hd4 : ((0 : Int) == z) = false := by rw [beq_eq_false_iff_ne]; omega
        clear hry hrz
        go_enter Tryd.func5, Tryd.ntmps5
        go_wp2_with fail
        refine (T1.out _).mono ?_
        rintro e w1 ⟨rfl, hb1⟩
        have HW1 := Lib.hid hb1
        clear hb1
        go_wp2_with fail
        refine (T2.out _).mono ?_
        rintro e w2 ⟨rfl, hb2⟩
        have HW2 := Lib.hid (HW1.out.trans (hb2.mono HW1.out.size))
        clear hb2
        go_wp2_with fail
        refine (T3.out _).mono ?_
        rintro e w3 ⟨rfl, hb3⟩
        have HW3 := Lib.hid (HW2.out.trans (hb3.mono HW2.out.size))
        clear hb3
        go_wp2_with fail
        refine (T4.out _).mono ?_
        rintro e w4 ⟨rfl, hb4⟩
        have HW4 := Lib.hid (HW3.out.trans (hb4.mono HW3.out.size))
        clear hb4
        go_wp2_with fail
        refine (RA.out _ (HLIM.out _ HW4.out)).mono ?_
        rintro e w5 ⟨rfl, hb5⟩
        have HW5 := Lib.hid (HW4.out.trans (hb5.mono HW4.out.size))
        clear hb5
        go_wp2
        go_ret
        exact ⟨rfl, HW5.out⟩
    · have hab : (a.toList == b.toList) = false := by
        rw [beq_eq_false_iff_ne]
        intro h
        rw [Go.ByteArray.toList_eq, Go.ByteArray.toList_eq] at h
        exact hx0 (hz.2 h)
      have hx1 : (x == 0) = false := by rw [beq_eq_false_iff_ne]; exact hx0
      have hx2 : (x != 0) = true := by simp [hx0]
      have hx3 : decide (x < -1) = false := decide_eq_false (by omega)
      have hx4 : decide (1 < x) = false := decide_eq_false (by omega)
      have hx5 : (x != x) = false := by simp
      have hx6 : -(-x) = x := by omega
      clear hor2 hz
      by_cases hxy : x = y
      · subst hxy
        obtain rfl : x = z := hor1.resolve_left (fun h => h rfl)
        clear hor1 hry hrz
        go_enter Tryd.func5, Tryd.ntmps5
        go_wp2_with fail
        refine (T1.out _).mono ?_
        rintro e w1 ⟨rfl, hb1⟩
        have HW1 := Lib.hid hb1
        clear hb1
        go_wp2_with fail
        refine (T2.out _).mono ?_
        rintro e w2 ⟨rfl, hb2⟩
        have HW2 := Lib.hid (HW1.out.trans (hb2.mono HW1.out.size))
        clear hb2
        go_wp2_with fail
        refine (T3.out _).mono ?_
        rintro e w3 ⟨rfl, hb3⟩
        have HW3 := Lib.hid (HW2.out.trans (hb3.mono HW2.out.size))
        clear hb3
        go_wp2_with fail
        refine (T4.out _).mono ?_
        rintro e w4 ⟨rfl, hb4⟩
        have HW4 := Lib.hid (HW3.out.trans (hb4.mono HW3.out.size))
        clear hb4
        go_wp2_with fail
        refine (RA.out _ (HLIM.out _ HW4.out)).mono ?_
        rintro e w5 ⟨rfl, hb5⟩
        have HW5 := Lib.hid (HW4.out.trans (hb5.mono HW4.out.size))
        clear hb5
        go_wp2
        go_ret
        exact ⟨rfl, HW5.out⟩
      · have hd3 : (x != y) = true := by simp [hxy]
        have hd4 : (x == y) = false := by rw [beq_eq_false_iff_ne]; exact hxy
        clear hor1 hry hrz
        go_enter Tryd.func5, Tryd.ntmps5
        go_wp2_with fail
        refine (T1.out _).mono ?_
        rintro e w1 ⟨rfl, hb1⟩
        have HW1 := Lib.hid hb1
        clear hb1
        go_wp2_with fail
        refine (T2.out _).mono ?_
        rintro e w2 ⟨rfl, hb2⟩
        have HW2 := Lib.hid (HW1.out.trans (hb2.mono HW1.out.size))
        clear hb2
        go_wp2_with fail
        refine (T3.out _).mono ?_
        rintro e w3 ⟨rfl, hb3⟩
        have HW3 := Lib.hid (HW2.out.trans (hb3.mono HW2.out.size))
        clear hb3
        go_wp2_with fail
        refine (T4.out _).mono ?_
        rintro e w4 ⟨rfl, hb4⟩
        have HW4 := Lib.hid (HW3.out.trans (hb4.mono HW3.out.size))
        clear hb4
        go_wp2_with fail
        refine (RA.out _ (HLIM.out _ HW4.out)).mono ?_
        rintro e w5 ⟨rfl, hb5⟩
        have HW5 := Lib.hid (HW4.out.trans (hb5.mono HW4.out.size))
        clear hb5
        go_wp2
        go_ret
        exact ⟨rfl, HW5.out⟩

set_option maxRecDepth 100000 in
theorem lifted (os : Os) (started : os.Started) (H : Type) (enc : TypeId × Value → H) :
    ReturnsInHanded {} Tryd.checked os 5 .any (fun w args => (Rows.phraseOrderSpec.pre enc Tryd.prog Tryd.f5 [] false w args ∧ laidMetH Tryd.prog laidL w) ∧ sizedMet enc Tryd.prog Tryd.f5 (OpenSpec.ofChange Rows.phraseOrderSpec) false w args)
      (Rows.phraseOrderSpec.post enc Tryd.prog Tryd.f5 false true false false) := by
  refine in_shape own started (by kernel_rfl) Tryd.func5
    (ChangeSpec.witness_shaped (enc := enc) (C := Tryd.checked) (os := os) (X := fun w _ => laidMetH Tryd.prog laidL w) false (World.laidAll Tryd.prog os laidL) #[.string ByteArray.empty, .string ByteArray.empty, .string ByteArray.empty] 8 (World.laidAll_os _ _ _) (table_shaped os _) (by kernel_rfl) (by kernel_rfl) (by kernel_rfl) (table_met os _)) ?_
  intro W base args ds gs before hval0 hW hsz0 hL
  have hval : ∀ (j : Nat) t v, Tryd.f5.params[j]? = some t → args[j]? = some v → Value.okWide Tryd.prog W .any base t v := hval0
  have hsz : (DataW.weightsEach Tryd.prog (Tryd.f5.params.toList ++ Rows.phraseOrderSpec.plain.varTypes Tryd.prog) (ds ++ gs)).all (· ≤ reachBytes) = true := hsz0
  clear hsz0
  have hW' := hW
  obtain ⟨p, q, hA0, hV, rfl, hfz, hnd⟩ := hW
  have hA : DataW.TrodAll enc Tryd.prog W 0 (fun _ => true) true Tryd.f5.params.toList args.toList ds p := hA0
  rw [Tryd.params5] at hA hval hsz
  obtain ⟨v0, vs0, d0, ds0, p0, q0, hargs, rfl, rfl, h0, r0⟩ := trodAll_cons hA
  obtain ⟨v1, vs1, d1, ds1, p1, q1, rfl, rfl, rfl, h1, r1⟩ := trodAll_cons r0
  obtain ⟨v2, vs2, d2, ds2, p2, q2, rfl, rfl, rfl, h2, r2⟩ := trodAll_cons r1
  obtain ⟨rfl, rfl, rfl⟩ := trodAll_nil r2
  obtain rfl : args = #[v0, v1, v2] := by cases args; simp_all
  obtain ⟨rfl, rfl⟩ := trodVars_none hV
  obtain ⟨s0, rfl, rfl, rfl, w0⟩ := open_string Tryd.underlying9 (hval 0 9 v0 rfl rfl) h0
  have z0 := reach_le (sized_string hsz (j := 0) (t := 9) (bytes := s0.data.toList) rfl rfl)
  obtain ⟨s1, rfl, rfl, rfl, w1⟩ := open_string Tryd.underlying9 (hval 1 9 v1 rfl rfl) h1
  have z1 := reach_le (sized_string hsz (j := 1) (t := 9) (bytes := s1.data.toList) rfl rfl)
  obtain ⟨s2, rfl, rfl, rfl, w2⟩ := open_string Tryd.underlying9 (hval 2 9 v2 rfl rfl) h2
  have z2 := reach_le (sized_string hsz (j := 2) (t := 9) (bytes := s2.data.toList) rfl rfl)
  have hcl := lim_shaped hL
  clear hA0 hval0
  refine (walk s0 s1 s2 W z0 z1 z2 hcl).mono fun e W' ⟨he, bel⟩ => ?_
  subst he
  exact ⟨_, rfl, _, _, _, [], _, [], hW', trodAll_mk1 (shut_bool Tryd.underlying4 _), (trodAll_cons_mk (shut_string Tryd.underlying9 w0) (trodAll_cons_mk (shut_string Tryd.underlying9 w1) (trodAll_cons_mk (shut_string Tryd.underlying9 w2) trodAll_mk0))), rfl, bel.frame _, fun h => by cases h⟩

theorem over : Rows.PhraseOrderSaid :=
  OpenClaim.holds_of_wide 5 Tryd.f5 rfl rfl rfl rfl rfl rfl rfl ⟨rfl, rfl, rfl, rfl, rfl⟩ rfl rfl rfl rfl rfl (by kernel_rfl) Tryd.func5 (by kernel_rfl)
    (of_decide_eq_true (by kernel_rfl)) (by unfold Func.isWrapper; first | (rw [if_pos (by decide +kernel)]; kernel_rfl) | (rw [if_neg (by decide +kernel)]; exact ⟨rfl, rfl⟩))
    (fun os started H enc _ => lifted os started H enc)

theorem proved : Rows.PhraseOrderCardSaid :=
  Claim7.holds_tied_plain_at .later [] [.data, .pinned] true Rows.phraseOrderCard.stood.harness false
    over (fun _ h => by cases h) (by kernel_rfl) (fun _ h => by cases h) phraseOrder_row_tie rfl ⟨rfl, rfl⟩ (by kernel_rfl) rfl
    (fun f fn hf hfn => by
      obtain rfl : f = 5 := Option.some.inj ((show Tryd.prog.funcNamed "murmur/murmurlaw11.PhraseOrder" = some 5 by kernel_rfl).symm.trans hf) |>.symm
      obtain rfl : fn = Tryd.f5 := (Option.some.inj (Tryd.func5.symm.trans hfn)).symm
      exact ⟨by kernel_rfl, fun j t ht => by
        rw [Tryd.params5] at ht
        have hm : t ∈ [9, 9, 9] := by simpa using Array.mem_of_getElem? ht
        have hall : ([9, 9, 9].all fun u => !Tryd.prog.wantsStandIn u) = true := by kernel_rfl
        exact (show Tryd.prog.wantsStandIn t = false by simpa using List.all_eq_true.1 hall t hm)⟩)
    (by kernel_rfl)
#print axioms proved
end Go.Proofs.YthlhhmhldpmpiaaDoor.LawOrd
