/-
  KeyedLonger: a longer key out of one begins with a shorter one, and each is as long as was asked for; a key that is too long is as good as its digest: for every input, the law answers true and changes nothing that was there. Condition: the constant table lies as the program's text lays it (the card ties it).
-/
import Derived.Test.YtleoblflhcbcbaaDoorKedAwake
import Derived.Test.YtleoblflhcbcbaaDoorConstFrame
import Derived.Test.YtleoblflhcbcbaaDoorCards
import Derived.Test.YtleoblflhcbcbaaDoorOpen
import Derived.Test.YtleoblflhcbcbaaDoorTie
import Derived.SevenTiedAt
namespace Go.Proofs.YtleoblflhcbcbaaDoor.LawLonger
open Go.ChangeShapes Go.WideShapes Go.ChangeAt Go.ChangeMaps Go.RowKit Mur Sha Ked

theorem rest_of (x : Int) (q : Nat) (h1 : 0 < q) (h2 : q ≤ 1000) : ∃ m : Nat, m < q ∧ wrap64 ((IntKind.u64.wrap x).tmod (q : Int)) = (m : Int) := by
  rw [IntKind.wrap_u64, Int.tmod_eq_emod_of_nonneg (by omega)]
  have h3 : 0 ≤ x % 18446744073709551616 % (q : Int) := Int.emod_nonneg _ (by omega)
  have h4 : x % 18446744073709551616 % (q : Int) < q := Int.emod_lt_of_pos _ (by omega)
  refine ⟨(x % 18446744073709551616 % (q : Int)).toNat, by omega, ?_⟩
  rw [IntWalk.wrap64_in _ (by omega)]
  omega

theorem many_nat (n : Nat) (h : n ≤ 8160) : many (n : Int) = n := by unfold many; omega
set_option maxHeartbeats 1600000 in
theorem law_small (key info : ByteArray) (n0 n1 : Int) (w : World) (hg : key.size + info.size ≤ 2000) (hc : Consts w) :
    Calls Tryd.prog 4 #[.string key, .string info, .agg #[.int .i64 n0, .int .i64 n1]] w
      fun e w' => e = .returned (.bool true) ∧ Below w.heap.size w w' := by
  have hd1 : decide (2000 < (key.size : Int) + (info.size : Int)) = false := by simp; omega
  obtain ⟨n, hn, hn2⟩ := rest_of n0 300 (by omega) (by omega)
  obtain ⟨m, hm, hm2⟩ := rest_of n1 300 (by omega) (by omega)
  obtain ⟨A, hA⟩ : ∃ A : ByteArray, A = tx (expand key.data.toList info.data.toList (many (n : Int))) := ⟨_, rfl⟩
  obtain ⟨B, hB⟩ : ∃ A : ByteArray, A = tx (expand key.data.toList info.data.toList (many ((n : Int) + (m : Int)))) := ⟨_, rfl⟩
  obtain ⟨Z, hZ⟩ : ∃ A : ByteArray, A = tx (expand key.data.toList info.data.toList (many (-1))) := ⟨_, rfl⟩
  have e1 : many ((n : Int) + (m : Int)) = n + m := by unfold many; omega
  have hAs : A.size = n := by rw [hA, many_nat _ (by omega)]; exact expand_length _ _ _ (by omega)
  have hBs : B.size = n + m := by rw [hB, e1]; exact expand_length _ _ _ (by omega)
  have hZs : Z.size = 0 := by rw [hZ]; exact expand_length key.data.toList info.data.toList 0 (by omega)
  have hBA : B.extract 0 n = A := by
    apply ByteArray.ext
    apply Array.toList_inj.mp
    rw [extract_take, hB, hA, e1, many_nat _ (by omega)]
    exact expand_prefix _ _ n m
  have h1 := Lib.hid (fun u hu => expand_any key info A n u (by omega) (by omega) hA hu)
  have h2 := Lib.hid (fun u hu => expand_any key info B ((n : Int) + (m : Int)) u (by omega) (by omega) hB hu)
  have h3 := Lib.hid (fun u hu => expand_any key info Z (-1) u (by omega) (by omega) hZ hu)
  have t1 : ((A.size : Int) == (n : Int)) = true := by rw [hAs]; simp
  have t2 : ((B.size : Int) == (n : Int) + (m : Int)) = true := by rw [hBs]; simp
  have t3 : ((B.extract 0 n).toList == A.toList) = true := by rw [hBA]; simp
  have t4 : ((Z.size : Int) == 0) = true := by rw [hZs]; rfl
  have t5 : (n : Int) ≤ (B.size : Int) := by omega
  have HC := Lib.hid hc
  have HN := Lib.hid hn2
  have HM := Lib.hid hm2
  clear hc hn2 hm2 hA hB hZ e1 hAs hBs hZs hBA
  go_enter Tryd.func4, Tryd.ntmps4
  go_upto_region 3 with (fail)
  go_quiet (fail)
  have hq1 := HN.out
  have hq2 := HM.out
  rw [show ((300 : Nat) : Int) = 300 from rfl] at hq1 hq2
  go_wp2_with fail
  rw [hq1, hq2]
  clear hq1 hq2
  have HB0 := Lib.hid (belowN ((Below.refl w.heap.size w).alloc (Nat.le_refl _) (.cells #[.int .i64 n0, .int .i64 n1] 27)) nq)
  refine (h1.out _ (HC.out.below HC.out.1 HB0.out)).mono ?_
  rintro e w1 ⟨rfl, hb1⟩
  have HB1 := Lib.hid (HB0.out.trans (hb1.mono HB0.out.size))
  clear hb1 HB0
  go_wp2_with fail
  refine (h2.out _ (HC.out.below HC.out.1 HB1.out)).mono ?_
  rintro e w2 ⟨rfl, hb2⟩
  have HB2 := Lib.hid (HB1.out.trans (hb2.mono HB1.out.size))
  clear hb2 HB1
  by_cases hk : key.size ≤ 64
  · have hd2 : decide ((key.size : Int) ≤ 64) = true := by simp; omega
    go_wp2_with fail
    refine (h3.out _ (HC.out.below HC.out.1 HB2.out)).mono ?_
    rintro e w3 ⟨rfl, hb3⟩
    have HB3 := Lib.hid (HB2.out.trans (hb3.mono HB2.out.size))
    clear hb3 HB2
    go_wp2_with fail
    refine (awake_any _ (HC.out.below HC.out.1 HB3.out)).mono ?_
    rintro e w4 ⟨rfl, hb4⟩
    have HB4 := Lib.hid (HB3.out.trans (hb4.mono HB3.out.size))
    clear hb4 HB3
    go_wp2
    go_ret
    exact ⟨rfl, HB4.out⟩
  · have hd2 : decide ((key.size : Int) ≤ 64) = false := by simp; omega
    obtain ⟨M, hM⟩ : ∃ M : ByteArray, M = tx (mac key.data.toList info.data.toList) := ⟨_, rfl⟩
    obtain ⟨K, hK⟩ : ∃ K : ByteArray, K = tx (sha key.data.toList) := ⟨_, rfl⟩
    have hKs : K.size = 32 := by rw [hK]; exact sha_length _
    have hM2 : M = tx (mac K.data.toList info.data.toList) := by
      have e : sha key.data.toList = short key.data.toList := by rw [short, if_pos (by show 64 < key.size; omega)]
      rw [hM, hK, e]
      show _ = tx (mac (short key.data.toList) _)
      rw [mac_short]
    have g1 := Lib.hid (fun u hu => mac_any key info M u (by omega) (by omega) hM hu)
    have g2 : ∀ u, Consts u → Calls Tryd.prog 16 #[.string key] u fun e w' => e = .returned (.string K) ∧ Below u.heap.size u w' := fun u hu => by
      rw [hK]; exact of_any key u (by omega) hu
    have G2 := Lib.hid g2
    have g3 := Lib.hid (fun u hu => mac_any K info M u (by omega) (by omega) hM2 hu)
    have t6 : (M.toList == M.toList) = true := by simp
    clear hM hK hKs hM2 g2
    go_wp2_with fail
    refine (g1.out _ (HC.out.below HC.out.1 HB2.out)).mono ?_
    rintro e w3 ⟨rfl, hb3⟩
    have HB3 := Lib.hid (HB2.out.trans (hb3.mono HB2.out.size))
    clear hb3 HB2
    go_wp2_with fail
    refine (G2.out _ (HC.out.below HC.out.1 HB3.out)).mono ?_
    rintro e w4 ⟨rfl, hb4⟩
    have HB4 := Lib.hid (HB3.out.trans (hb4.mono HB3.out.size))
    clear hb4 HB3
    go_wp2_with fail
    refine (g3.out _ (HC.out.below HC.out.1 HB4.out)).mono ?_
    rintro e w5 ⟨rfl, hb5⟩
    have HB5 := Lib.hid (HB4.out.trans (hb5.mono HB4.out.size))
    clear hb5 HB4
    go_wp2_with fail
    refine (h3.out _ (HC.out.below HC.out.1 HB5.out)).mono ?_
    rintro e w6 ⟨rfl, hb6⟩
    have HB6 := Lib.hid (HB5.out.trans (hb6.mono HB5.out.size))
    clear hb6 HB5
    go_wp2_with fail
    refine (awake_any _ (HC.out.below HC.out.1 HB6.out)).mono ?_
    rintro e w7 ⟨rfl, hb7⟩
    have HB7 := Lib.hid (HB6.out.trans (hb7.mono HB6.out.size))
    clear hb7 HB6
    go_wp2
    go_ret
    exact ⟨rfl, HB7.out⟩

set_option maxHeartbeats 800000 in
theorem law_great (key info : ByteArray) (n0 n1 : Int) (w : World) (hg : ¬ key.size + info.size ≤ 2000) (hk : key.size ≤ 140737488351232) (hi : info.size ≤ 140737488351232) (hc : Consts w) :
    Calls Tryd.prog 4 #[.string key, .string info, .agg #[.int .i64 n0, .int .i64 n1]] w
      fun e w' => e = .returned (.bool true) ∧ Below w.heap.size w w' := by
  have hd1 : decide (2000 < (key.size : Int) + (info.size : Int)) = true := by simp; omega
  have HC := Lib.hid hc
  clear hc
  go_enter Tryd.func4, Tryd.ntmps4
  go_wp2_with fail
  refine (awake_any _ (HC.out.below HC.out.1 ((Below.refl _ _).alloc (Nat.le_refl _) _))).mono ?_
  rintro e w1 ⟨rfl, hb1⟩
  go_wp2
  go_ret
  exact ⟨rfl, ((Below.refl _ _).alloc (Nat.le_refl _) _).trans (hb1.mono (by simp <;> omega))⟩
theorem walk (key info : ByteArray) (n0 n1 : Int) (w : World) (hk : key.size ≤ 140737488351232) (hi : info.size ≤ 140737488351232) (hc : Consts w) :
    Calls Tryd.prog 4 #[.string key, .string info, .agg #[.int .i64 n0, .int .i64 n1]] w
      fun e w' => e = .returned (.bool true) ∧ Below w.heap.size w w' := by
  by_cases hg : key.size + info.size ≤ 2000
  · exact law_small key info n0 n1 w hg hc
  · exact law_great key info n0 n1 w hg hk hi hc

theorem two_of {α : Type} (l : List α) (h : l.length = 2) : ∃ a b, l = [a, b] := by
  match l, h with
  | [a, b], _ => exact ⟨a, b, rfl⟩
theorem laidOut : laidOutB Tryd.prog = true := by kernel_rfl

set_option maxRecDepth 100000 in
theorem lifted (os : Os) (started : os.Started) (H : Type) (enc : TypeId × Value → H) :
    ReturnsInHanded {} Tryd.checked os 4 .any (fun w args => (Rows.keyedLongerSpec.pre enc Tryd.prog Tryd.f4 [] false w args ∧ laidMetH Tryd.prog laidL w) ∧ sizedMet enc Tryd.prog Tryd.f4 (OpenSpec.ofChange Rows.keyedLongerSpec) false w args)
      (Rows.keyedLongerSpec.post enc Tryd.prog Tryd.f4 false true false false) := by
  refine returnsInHanded_of_change_and (C := Tryd.checked) (X := fun w _ => laidMetH Tryd.prog laidL w) (fun _ _ _ hh h => h.of_heap hh) own started (by kernel_rfl) Tryd.func4
    (ChangeSpec.witness_shaped (enc := enc) (C := Tryd.checked) (os := os) (X := fun w _ => laidMetH Tryd.prog laidL w) false (World.doorLaid Tryd.prog 400 os) #[.string ByteArray.empty, .string ByteArray.empty, .agg #[.int .i64 0, .int .i64 0]] 8 rfl (World.shaped_of_RefB (by kernel_rfl) (by kernel_rfl)) (by kernel_rfl) (by kernel_rfl) (by kernel_rfl) (door_met os _)) ?_
  intro W base args ds gs before hval0 hW _ hsz0 hL _
  have hval : ∀ (j : Nat) t v, Tryd.f4.params[j]? = some t → args[j]? = some v → Value.okWide Tryd.prog W .any base t v := hval0
  have hsz : (DataW.weightsEach Tryd.prog (Tryd.f4.params.toList ++ Rows.keyedLongerSpec.plain.varTypes Tryd.prog) (ds ++ gs)).all (· ≤ reachBytes) = true := hsz0
  clear hsz0
  have hW' := hW
  obtain ⟨p, q, hA0, hV, rfl, hfz, hnd⟩ := hW
  have hA : DataW.TrodAll enc Tryd.prog W 0 (fun _ => true) true Tryd.f4.params.toList args.toList ds p := hA0
  rw [Tryd.params4] at hA hval hsz
  obtain ⟨v0, vs0, d0, ds0, p0, q0, hargs, rfl, rfl, h0, r0⟩ := trodAll_cons hA
  obtain ⟨v1, vs1, d1, ds1, p1, q1, rfl, rfl, rfl, h1, r1⟩ := trodAll_cons r0
  obtain ⟨v2, vs2, d2, ds2, p2, q2, rfl, rfl, rfl, h2, r2⟩ := trodAll_cons r1
  obtain ⟨rfl, rfl, rfl⟩ := trodAll_nil r2
  obtain rfl : args = #[v0, v1, v2] := by cases args; simp_all
  obtain ⟨rfl, rfl⟩ := trodVars_none hV
  have k2 := h2
  have lt2 : ∀ x ∈ p2, x.block < W.heap.size := by obtain ⟨m, hm⟩ := k2; exact DataW.trod_lt m _ _ _ hm
  obtain ⟨a0, rfl, rfl, rfl, w0⟩ := open_string Tryd.underlying9 (hval 0 9 v0 rfl rfl) h0
  obtain ⟨a1, rfl, rfl, rfl, w1⟩ := open_string Tryd.underlying9 (hval 1 9 v1 rfl rfl) h1
  obtain ⟨ns, hnl, rfl, rfl, rfl, w2⟩ := Open.open_int_array Tryd.underlying27 Tryd.underlying3 (by kernel_rfl) (by kernel_rfl) (hval 2 27 v2 rfl rfl) h2
  obtain ⟨n0, n1, rfl⟩ := two_of ns hnl
  have z0 := sized_string hsz (j := 0) (t := 9) (bytes := a0.data.toList) rfl rfl
  have z1 := sized_string hsz (j := 1) (t := 9) (bytes := a1.data.toList) rfl rfl
  have hcl := of_laid hL
  clear hA0 hval0
  refine (walk a0 a1 n0 n1 W z0 z1 hcl).mono fun e W' ⟨he, bel⟩ => ?_
  subst he
  exact ⟨_, rfl, _, _, _, [], _, [], hW', trodAll_mk1 (shut_bool Tryd.underlying4 _), (trodAll_cons_mk (shut_string Tryd.underlying9 w0) (trodAll_cons_mk (shut_string Tryd.underlying9 w1) (trodAll_cons_mk (Below.trod laidOut (by kernel_rfl) (of_decide_eq_true (by kernel_rfl)) k2 bel lt2) trodAll_mk0))), rfl, bel.frame _, fun h => by cases h⟩

theorem over : Rows.KeyedLongerSaid :=
  OpenClaim.holds_of_wide 4 Tryd.f4 rfl rfl rfl rfl rfl rfl rfl ⟨rfl, rfl, rfl, rfl, rfl⟩ rfl rfl rfl rfl rfl (by kernel_rfl) Tryd.func4 (by kernel_rfl)
    (of_decide_eq_true (by kernel_rfl)) (by unfold Func.isWrapper; first | (rw [if_pos (by decide +kernel)]; kernel_rfl) | (rw [if_neg (by decide +kernel)]; exact ⟨rfl, rfl⟩))
    (fun os started H enc _ => lifted os started H enc)

theorem proved : Rows.KeyedLongerCardSaid :=
  Claim7.holds_tied_plain_at .later [] [.data] true Rows.keyedLongerCard.stood.harness false
    over (fun _ h => by cases h) (by kernel_rfl) (fun _ h => by cases h) keyedLonger_row_tie rfl ⟨rfl, rfl⟩ (by kernel_rfl) rfl
    (fun f fn hf hfn => by
      obtain rfl : f = 4 := Option.some.inj ((show Tryd.prog.funcNamed "murmur/murmurlaw03.KeyedLonger" = some 4 by kernel_rfl).symm.trans hf) |>.symm
      obtain rfl : fn = Tryd.f4 := (Option.some.inj (Tryd.func4.symm.trans hfn)).symm
      exact ⟨by kernel_rfl, fun j t ht => by
        rw [Tryd.params4] at ht
        have hm : t ∈ [9, 9, 27] := by simpa using Array.mem_of_getElem? ht
        have hall : ([9, 9, 27].all fun u => !Tryd.prog.wantsStandIn u) = true := by kernel_rfl
        exact (show Tryd.prog.wantsStandIn t = false by simpa using List.all_eq_true.1 hall t hm)⟩)
    (by kernel_rfl)
#print axioms proved
end Go.Proofs.YtleoblflhcbcbaaDoor.LawLonger
