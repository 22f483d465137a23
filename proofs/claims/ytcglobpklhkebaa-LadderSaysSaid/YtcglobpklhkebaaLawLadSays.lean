/-
  LadderSays: what any two have in common, clamped secrets, and rungs of any number are those of the document's own answer: for every input, the law answers true and changes nothing that was there. No condition.
-/
import Derived.Test.YtcglobpklhkebaaRLadEnds
import Derived.Test.YtcglobpklhkebaaLawPowers
import Derived.Test.YtcglobpklhkebaaRows
import Derived.Test.YtcglobpklhkebaaOpen
import Derived.ChangeMaps5
namespace Go.Proofs.Ytcglobpklhkebaa.LawLadSays
open Go.ChangeShapes Go.WideShapes Go.ChangeAt Go.ChangeMaps Go.RowKit Mur Lanes Limb LadC Lad
set_option maxRecDepth 100000

theorem sharedV_some (s p : ByteArray) : ∃ a b, sharedV s p = .tuple #[.string a, .int .i64 b] := by
  unfold sharedV
  split
  · split
    · exact ⟨_, _, rfl⟩
    · exact ⟨_, _, rfl⟩
  · exact ⟨_, _, rfl⟩
theorem same_run {X : List Value} {N : Nat} (h : LimL X N) (u : World) : (Op.equalIn 10000 24 (.agg X.toArray) (.agg X.toArray)).run Try.prog u = .ok true u := by
  obtain ⟨v0, v1, v2, v3, v4, rfl, -, -⟩ := h.out
  have h := eq_five v0 v1 v2 v3 v4 v0 v1 v2 v3 v4 u
  rw [decide_eq_true ⟨rfl, rfl, rfl, rfl, rfl⟩] at h
  exact h

set_option maxHeartbeats 6400000 in
theorem walk (s p : ByteArray) (w0 : World) (hs : s.size ≤ 140737488351232) (hp : p.size ≤ 140737488351232) :
    Calls Try.prog 5 #[.string s, .string p] w0 fun e w' => e = .returned (.bool true) ∧ Below w0.heap.size w0 w' := by
  have TL := Lib.hid (fun u => LadC.awake_any u)
  by_cases hg : s.size + p.size ≤ 200
  case neg =>
    have hd : decide (200 < (s.size : Int) + (p.size : Int)) = true := by simp; omega
    clear hg
    go_enter Try.func5, Try.ntmps5
    go_wp2_with fail
    refine (TL.out _).mono ?_
    rintro e w3 ⟨rfl, hb⟩
    go_wp2
    go_ret
    exact ⟨rfl, hb⟩
  case pos =>
  have hd : decide (200 < (s.size : Int) + (p.size : Int)) = false := by simp; omega
  have r1 := fun u => LadC.shared_any s p u
  have r2 := fun u => RefLad.shared_ref s p u
  obtain ⟨a, b, hv⟩ := sharedV_some s p
  rw [hv] at r1 r2
  have r3 := fun u => LadC.times_any s p u
  have r4 := fun u => RefLad.times_any s p u
  obtain ⟨c, d, hv2⟩ := RefLad.timesV_some s p
  rw [hv2] at r3 r4
  have r5 := fun u => clamp_any s u
  rw [show (⟨(clamp s.data.toList).toArray⟩ : ByteArray) = clampT s from rfl] at r5
  have r6 := fun u => RefLad.clamp_ref s u hs
  obtain ⟨C, hC⟩ : ∃ C, C = clampT s := ⟨_, rfl⟩
  rw [← hC] at r5 r6
  have r7 := fun u => LadC.read_l p hp u
  have lX := pub_l p
  obtain ⟨X, hX⟩ : ∃ C, C = limL (pubN p) := ⟨_, rfl⟩
  rw [← hX] at r7 lX
  have r8 := fun u => ladder_any s lX hs u
  have r9 := fun u => RefLad.ladder_ref s lX hs u
  obtain ⟨W, hW, lW⟩ : ∃ W, W = limL (ladder (bt s) (pubN p)) ∧ LimL W (ladder (bt s) (pubN p)) := ⟨_, rfl, LimL.ofLim (Nat.lt_trans (ladder_lt _ _) P_lt)⟩
  rw [← hW] at r8 r9
  have eW := fun u => same_run lW u
  have e1 : (a.toList == a.toList) = true := by simp
  have e2 : (b == b) = true := by simp
  have e3 : (c.toList == c.toList) = true := by simp
  have e4 : (d == d) = true := by simp
  have e5 : (C.toList == C.toList) = true := by simp
  have R1 := Lib.hid r1
  have R2 := Lib.hid r2
  have R3 := Lib.hid r3
  have R4 := Lib.hid r4
  have R5 := Lib.hid r5
  have R6 := Lib.hid r6
  have R7 := Lib.hid r7
  have R8 := Lib.hid r8
  have R9 := Lib.hid r9
  clear r1 r2 r3 r4 r5 r6 r7 r8 r9 hv hv2 hC hX lX hW lW
  go_enter Try.func5, Try.ntmps5
  go_wp2_with fail
  refine (R1.out _).mono ?_
  rintro e w1 ⟨rfl, hb⟩
  have Hw1 := Lib.hid hb
  clear hb
  go_wp2_with fail
  refine (R2.out _).mono ?_
  rintro e w2 ⟨rfl, hb⟩
  have Hw2 := Lib.hid (Hw1.out.trans (hb.mono Hw1.out.size))
  clear hb Hw1
  go_wp2_with fail
  refine (R3.out _).mono ?_
  rintro e w3 ⟨rfl, hb⟩
  have Hw3 := Lib.hid (Hw2.out.trans (hb.mono Hw2.out.size))
  clear hb Hw2
  go_wp2_with fail
  refine (R4.out _).mono ?_
  rintro e w4 ⟨rfl, hb⟩
  have Hw4 := Lib.hid (Hw3.out.trans (hb.mono Hw3.out.size))
  clear hb Hw3
  go_wp2_with fail
  refine (R5.out _).mono ?_
  rintro e w5 ⟨rfl, hb⟩
  have Hw5 := Lib.hid (Hw4.out.trans (hb.mono Hw4.out.size))
  clear hb Hw4
  go_wp2_with fail
  refine (R6.out _).mono ?_
  rintro e w6 ⟨rfl, hb⟩
  have Hw6 := Lib.hid (Hw5.out.trans (hb.mono Hw5.out.size))
  clear hb Hw5
  go_wp2_with fail
  refine (R7.out _).mono ?_
  rintro e w7 ⟨rfl, hb⟩
  have Hw7 := Lib.hid (Hw6.out.trans (hb.mono Hw6.out.size))
  clear hb Hw6
  go_wp2_with fail
  refine (R8.out _).mono ?_
  rintro e w8 ⟨rfl, hb⟩
  have Hw8 := Lib.hid (Hw7.out.trans (hb.mono Hw7.out.size))
  clear hb Hw7
  go_wp2_with fail
  refine (R7.out _).mono ?_
  rintro e w9 ⟨rfl, hb⟩
  have Hw9 := Lib.hid (Hw8.out.trans (hb.mono Hw8.out.size))
  clear hb Hw8
  go_wp2_with fail
  refine (R9.out _).mono ?_
  rintro e w10 ⟨rfl, hb⟩
  have Hw10 := Lib.hid (Hw9.out.trans (hb.mono Hw9.out.size))
  clear hb Hw9
  go_wp2_with fail
  refine (TL.out _).mono ?_
  rintro e w11 ⟨rfl, hb⟩
  have Hw11 := Lib.hid (Hw10.out.trans (hb.mono Hw10.out.size))
  clear hb Hw10
  go_wp2
  go_ret
  exact ⟨rfl, Hw11.out⟩

theorem own : ownKnob Try.prog.godebug = none := by kernel_rfl
theorem laidOut : laidOutB Try.prog = true := by kernel_rfl

set_option maxRecDepth 100000 in
theorem lifted (os : Os) (started : os.Started) (H : Type) (enc : TypeId × Value → H) :
    ReturnsInHanded {} Try.checked os 5 .any (Rows.ladderSaysSpec.pre6 enc Try.prog Try.f5 Rows.ladderSaysRow.domain false) (Rows.ladderSaysSpec.post enc Try.prog Try.f5 false true false false) := by
  refine returnsInHanded_of_change_sized (C := Try.checked) own started (by kernel_rfl) Try.func5
    (ChangeSpec.witness6 (enc := enc) (C := Try.checked) false ⟨#[], #[.string ByteArray.empty, .string ByteArray.empty], []⟩ 8 (by kernel_rfl) (by kernel_rfl) (by kernel_rfl) (by kernel_rfl)) ?_
  intro W base args ds gs before hval0 hW hcnd hsz0 _
  have hsz : (DataW.weightsEach Try.prog (Try.f5.params.toList ++ Rows.ladderSaysSpec.plain.varTypes Try.prog) (ds ++ gs)).all (· ≤ reachBytes) = true := hsz0
  clear hsz0
  have hval : ∀ (j : Nat) t v, Try.f5.params[j]? = some t → args[j]? = some v → Value.okWide Try.prog W .any base t v := hval0
  have hW' := hW
  obtain ⟨p, q, hA0, hV, rfl, hfz, hnd⟩ := hW
  have hA : DataW.TrodAll enc Try.prog W 0 (fun _ => true) true Try.f5.params.toList args.toList ds p := hA0
  rw [Try.params5] at hA hval hsz
  obtain ⟨v0, vs0, d0, ds0, p0, q0, hargs, rfl, rfl, h0, r0⟩ := trodAll_cons hA
  obtain ⟨v1, vs1, d1, ds1, p1, q1, rfl, rfl, rfl, h1, r1⟩ := trodAll_cons r0
  obtain ⟨rfl, rfl, rfl⟩ := trodAll_nil r1
  obtain rfl : args = #[v0, v1] := by cases args; simp_all
  obtain ⟨rfl, rfl⟩ := trodVars_none hV
  obtain ⟨s0, rfl, rfl, rfl, w0⟩ := open_string Try.underlying9 (hval 0 9 v0 rfl rfl) h0
  have z0 := sized_string hsz (j := 0) (t := 9) (bytes := s0.data.toList) rfl rfl
  obtain ⟨s1, rfl, rfl, rfl, w1⟩ := open_string Try.underlying9 (hval 1 9 v1 rfl rfl) h1
  have z1 := sized_string hsz (j := 1) (t := 9) (bytes := s1.data.toList) rfl rfl
  clear hA0 hval0
  have hwk := walk s0 s1 W z0 z1
  refine hwk.mono fun e W' ⟨he, bel⟩ => ?_
  subst he
  exact ⟨_, rfl, _, _, _, [], _, [], hW', trodAll_mk1 (shut_bool Try.underlying4 _), (trodAll_cons_mk (shut_string Try.underlying9 w0) (trodAll_cons_mk (shut_string Try.underlying9 w1) trodAll_mk0)), rfl, bel.frame _, fun h => by cases h⟩

theorem over : Rows.ladderSaysRow.holds Try.pinned (OpenSpec.ofChange Rows.ladderSaysSpec) :=
  OpenClaim.holds_of_wide 5 Try.f5 rfl rfl rfl rfl rfl rfl rfl ⟨rfl, rfl, rfl, rfl, rfl⟩ rfl rfl rfl rfl rfl (by kernel_rfl) Try.func5 (by kernel_rfl)
    (of_decide_eq_true (by kernel_rfl)) (by unfold Func.isWrapper; first | (rw [if_pos (by decide +kernel)]; kernel_rfl) | (rw [if_neg (by decide +kernel)]; exact ⟨rfl, rfl⟩))
    (fun os started H enc _ => lifted os started H enc)

theorem proved : Rows.LadderSaysSaid := over
#print axioms proved
end Go.Proofs.Ytcglobpklhkebaa.LawLadSays
