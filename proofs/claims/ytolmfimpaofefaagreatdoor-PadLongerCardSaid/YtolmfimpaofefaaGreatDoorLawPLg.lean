/-
  PadLonger: a longer pad begins with a shorter one: for every text that is shared, every round and any two lengths the law answers true and changes nothing that was there. Condition: the listed tables hold what the program lays there.
-/
import Derived.Test.YtolmfimpaofefaaGreatDoorPadX
import Derived.Test.YtolmfimpaofefaaGreatDoorPadP
import Derived.Test.YtolmfimpaofefaaGreatDoorPaK
import Derived.Test.YtolmfimpaofefaaGreatDoorPaO
import Derived.BigQuiet
import Derived.Deep.QuietTactic
namespace Go.Proofs.YtolmfimpaofefaaGreatDoor.LawPLg
open Go.ChangeShapes Go.WideShapes Go.ChangeAt Go.RowKit Mur Prt Lanes Tap Bkl Bkm Rec Cel Bkr Bkb Pad
open Go.ChangeMaps (open_string shut_string)
set_option maxRecDepth 100000
set_option linter.unusedSimpArgs false

theorem rest_of (x : Int) (q : Nat) (h1 : 0 < q) (h2 : q ≤ 1000) : ∃ m : Nat, m < q ∧ wrap64 ((IntKind.u64.wrap x).tmod (q : Int)) = (m : Int) := by
  rw [IntKind.wrap_u64, Int.tmod_eq_emod_of_nonneg (by omega)]
  have h3 : 0 ≤ x % 18446744073709551616 % (q : Int) := Int.emod_nonneg _ (by omega)
  have h4 : x % 18446744073709551616 % (q : Int) < q := Int.emod_lt_of_pos _ (by omega)
  refine ⟨(x % 18446744073709551616 % (q : Int)).toNat, by omega, ?_⟩
  rw [IntWalk.wrap64_in _ (by omega)]
  omega
theorem long_nat (n : Nat) (h : n ≤ 6000) : long (n : Int) = n := by unfold long; omega

set_option maxHeartbeats 3200000 in
theorem walk (con : Con) (sh : ByteArray) (r n0 n1 : Int) (w : World) (hr : InR r) (_ : InR n0) (_ : InR n1) (hl : Laid w) :
    Calls Tryz.prog 5 #[.string sh, .int .i64 r, .agg #[.int .i64 n0, .int .i64 n1]] w fun e w' => e = .returned (.bool true) ∧ Below w.heap.size w w' := by
  have RA := Lib.hid (fun u (hu : Below w.heap.size w u) => awake_any con u (hl.below hu))
  by_cases hg : 300 < sh.size
  · have d1 : decide (300 < (sh.size : Int)) = true := decide_eq_true (by omega)
    have d2 : decide (300 < sh.size) = true := decide_eq_true hg
    have HB0 := Lib.hid ((Below.refl w.heap.size w).alloc (Nat.le_refl _) (.cells #[.int .i64 n0, .int .i64 n1] 36))
    clear hg
    go_enter Tryz.func5, Tryz.ntmps5
    go_wp2_with fail
    refine (RA.out _ HB0.out).mono ?_
    rintro e w1 ⟨rfl, hb1⟩
    have HB1 := Lib.hid (HB0.out.trans (hb1.mono HB0.out.size))
    clear hb1
    go_wp2
    go_ret
    exact ⟨rfl, HB1.out⟩
  have d1 : decide (300 < (sh.size : Int)) = false := decide_eq_false (by omega)
  have d2 : decide (300 < sh.size) = false := decide_eq_false hg
  obtain ⟨n, hn, hn2⟩ := rest_of n0 200 (by omega) (by omega)
  obtain ⟨m, hm, hm2⟩ := rest_of n1 200 (by omega) (by omega)
  obtain ⟨A, hA⟩ : ∃ A, A = tx (Pad.of sh.data.toList r (n : Int)) := ⟨_, rfl⟩
  obtain ⟨B, hB⟩ : ∃ A, A = tx (Pad.of sh.data.toList r ((n : Int) + (m : Int))) := ⟨_, rfl⟩
  have e0 := long_nat n (by omega)
  have e1 : long ((n : Int) + (m : Int)) = n + m := by unfold long; omega
  have hAs : A.size = n := by rw [hA, tx_long, of_length, e0]
  have hBs : B.size = n + m := by rw [hB, tx_long, of_length, e1]
  have hBA : B.extract 0 n = A := by
    have := of_take sh.data.toList r (n : Int) ((n : Int) + (m : Int)) (by rw [e0, e1]; omega)
    rw [e0] at this
    rw [RTap.piece_tx, hB, hA]
    exact congrArg tx this
  have h1 := Lib.hid (fun u hu => con.of sh A r (n : Int) u hA (by omega) hr ⟨by omega, by omega⟩ hu)
  have h2 := Lib.hid (fun u hu => con.of sh B r ((n : Int) + (m : Int)) u hB (by omega) hr ⟨by omega, by omega⟩ hu)
  have t1 : ((A.size : Int) == (n : Int)) = true := by rw [hAs]; simp
  have t2 : ((B.size : Int) == (n : Int) + (m : Int)) = true := by rw [hBs]; simp
  have t3 : ((B.extract 0 n).toList == A.toList) = true := by rw [hBA]; simp
  have t5 : (n : Int) ≤ (B.size : Int) := by omega
  have HC := Lib.hid hl
  have HN := Lib.hid hn2
  have HM := Lib.hid hm2
  clear hl hn2 hm2 hA hB e0 e1 hAs hBs hBA hg hr
  go_enter Tryz.func5, Tryz.ntmps5
  go_upto_region 3 with (fail)
  go_quiet (fail)
  have hq1 := HN.out
  have hq2 := HM.out
  rw [show ((200 : Nat) : Int) = 200 from rfl] at hq1 hq2
  go_wp2_with fail
  rw [hq1, hq2]
  clear hq1 hq2
  have HB0 := Lib.hid (belowN ((Below.refl w.heap.size w).alloc (Nat.le_refl _) (.cells #[.int .i64 n0, .int .i64 n1] 36)) nq)
  refine (h1.out _ (HC.out.below HB0.out)).mono ?_
  rintro e w1 ⟨rfl, hb1⟩
  have HB1 := Lib.hid (HB0.out.trans (hb1.mono HB0.out.size))
  clear hb1 HB0
  go_wp2_with fail
  refine (h2.out _ (HC.out.below HB1.out)).mono ?_
  rintro e w2 ⟨rfl, hb2⟩
  have HB2 := Lib.hid (HB1.out.trans (hb2.mono HB1.out.size))
  clear hb2 HB1
  go_wp2_with fail
  refine (RA.out _ HB2.out).mono ?_
  rintro e w4 ⟨rfl, hb4⟩
  have HB4 := Lib.hid (HB2.out.trans (hb4.mono HB2.out.size))
  clear hb4 HB2
  go_wp2
  go_ret
  exact ⟨rfl, HB4.out⟩

set_option maxHeartbeats 1600000 in
theorem lifted (con : Con) (os : Os) (started : os.Started) (H : Type) (enc : TypeId × Value → H) :
    ReturnsInHanded {} Tryz.checked os 5 .any (fun w args => (Rows.padLongerSpec.pre enc Tryz.prog Tryz.f5 [] false w args ∧ laidMetH Tryz.prog Bkk.laidL w) ∧ sizedMet enc Tryz.prog Tryz.f5 (OpenSpec.ofChange Rows.padLongerSpec) false w args)
      (Rows.padLongerSpec.post enc Tryz.prog Tryz.f5 false true false false) := by
  refine returnsInHanded_of_change_and (C := Tryz.checked) (X := fun w _ => laidMetH Tryz.prog Bkk.laidL w) (fun _ _ _ hh h => h.of_heap hh) Bkk.own started (by kernel_rfl) Tryz.func5
    (ChangeSpec.witness_shaped (enc := enc) (C := Tryz.checked) (os := os) (X := fun w _ => laidMetH Tryz.prog Bkk.laidL w) false (World.doorLaid Tryz.prog 400 os) #[.string ByteArray.empty, .int .i64 0, .agg #[.int .i64 0, .int .i64 0]] 8 rfl (World.shaped_of_RefB (by kernel_rfl) (by kernel_rfl)) (by kernel_rfl) (by kernel_rfl) (by kernel_rfl) (Bkk.door_met os _)) ?_
  intro W base args ds gs before hval0 hW _ hsz0 hL _
  have hval : ∀ (j : Nat) t v, Tryz.f5.params[j]? = some t → args[j]? = some v → Value.okWide Tryz.prog W .any base t v := hval0
  have hsz : (DataW.weightsEach Tryz.prog (Tryz.f5.params.toList ++ Rows.padLongerSpec.plain.varTypes Tryz.prog) (ds ++ gs)).all (· ≤ reachBytes) = true := hsz0
  clear hsz0
  have hW' := hW
  obtain ⟨p, q, hA0, hV, rfl, hfz, hnd⟩ := hW
  have hA : DataW.TrodAll enc Tryz.prog W 0 (fun _ => true) true Tryz.f5.params.toList args.toList ds p := hA0
  rw [Tryz.params5] at hA hval hsz
  obtain ⟨v0, vs0, d0, ds0, p0, q0, hargs, rfl, rfl, h0, r0⟩ := trodAll_cons hA
  obtain ⟨v1, vs1, d1, ds1, p1, q1, rfl, rfl, rfl, h1, r1⟩ := trodAll_cons r0
  obtain ⟨v2, vs2, d2, ds2, p2, q2, rfl, rfl, rfl, h2, r2⟩ := trodAll_cons r1
  obtain ⟨rfl, rfl, rfl⟩ := trodAll_nil r2
  obtain rfl : args = #[v0, v1, v2] := by cases args; simp_all
  obtain ⟨rfl, rfl⟩ := trodVars_none hV
  obtain ⟨a0, rfl, rfl, rfl, w0⟩ := open_string Tryz.underlying9 (hval 0 9 v0 rfl rfl) h0
  obtain ⟨a1, rfl, rfl, rfl, w1⟩ := Go.ChangeShapes.open_int Tryz.underlying3 (hval 1 3 v1 rfl rfl) h1
  have k2 := h2
  have lt2 : ∀ x ∈ p2, x.block < W.heap.size := by obtain ⟨m, hm⟩ := k2; exact DataW.trod_lt m _ _ _ hm
  obtain ⟨ia2, ib2, rfl, x2, y2⟩ := PaO.open_two (hval 2 36 v2 rfl rfl) h2
  have hcl := Bkk.of_laid hL
  clear hA0 hval0
  refine (walk con a0 a1 ia2 ib2 W (PaO.int_wf w1) x2 y2 hcl).mono fun e W' ⟨he, bel⟩ => ?_
  subst he
  exact ⟨_, rfl, _, _, _, [], _, [], hW', trodAll_mk1 (shut_bool Tryz.underlying4 _), (trodAll_cons_mk (shut_string Tryz.underlying9 w0) (trodAll_cons_mk (Go.ChangeShapes.shut_int Tryz.underlying3 w1) (trodAll_cons_mk (Below.trod Bkk.laidOut (by kernel_rfl) (of_decide_eq_true (by kernel_rfl)) k2 bel lt2) trodAll_mk0))), rfl, bel.frame _, fun h => by cases h⟩

theorem over (con : Con) : Rows.PadLongerSaid :=
  OpenClaim.holds_of_wide 5 Tryz.f5 rfl rfl rfl rfl rfl rfl rfl ⟨rfl, rfl, rfl, rfl, rfl⟩ rfl rfl rfl rfl rfl (by kernel_rfl) Tryz.func5 (by kernel_rfl)
    (of_decide_eq_true (by kernel_rfl)) (by unfold Func.isWrapper; first | (rw [if_pos (by decide +kernel)]; kernel_rfl) | (rw [if_neg (by decide +kernel)]; exact ⟨rfl, rfl⟩))
    (fun os started H enc _ => lifted con os started H enc)

theorem of_con (con : Con) : Rows.PadLongerCardSaid :=
  Claim7.holds_tied_plain_at .later [] [.data, .data, .data, .data] true Rows.padLongerCard.stood.harness false
    (over con) (fun _ h => by cases h) (by kernel_rfl) (fun _ h => by cases h) padLonger_row_tie rfl ⟨rfl, rfl⟩ (by kernel_rfl) rfl
    (fun f fn hf hfn => by
      obtain rfl : f = 5 := Option.some.inj ((show Tryz.prog.funcNamed "murmur/murmurlaw17.PadLonger" = some 5 by kernel_rfl).symm.trans hf) |>.symm
      obtain rfl : fn = Tryz.f5 := (Option.some.inj (Tryz.func5.symm.trans hfn)).symm
      exact ⟨by kernel_rfl, fun j t ht => by
        rw [Tryz.params5] at ht
        have hm : t ∈ [9, 3, 36] := by simpa using Array.mem_of_getElem? ht
        have hall : ([9, 3, 36].all fun u => !Tryz.prog.wantsStandIn u) = true := by kernel_rfl
        exact (show Tryz.prog.wantsStandIn t = false by simpa using List.all_eq_true.1 hall t hm)⟩)
    (by kernel_rfl)
/-- The statement. -/
theorem proved : Rows.PadLongerCardSaid := of_con Pad.con
#print axioms proved
end Go.Proofs.YtolmfimpaofefaaGreatDoor.LawPLg
