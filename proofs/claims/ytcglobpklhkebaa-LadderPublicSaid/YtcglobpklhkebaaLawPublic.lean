/-
  LadderPublic: the public key of any secret is that of the document's own answer: for every input, the law answers true and changes nothing that was there. No condition.
-/
import Derived.Test.YtcglobpklhkebaaRLadEnds
import Derived.Test.YtcglobpklhkebaaRows
import Derived.Test.YtcglobpklhkebaaOpen
import Derived.ChangeMaps5
namespace Go.Proofs.Ytcglobpklhkebaa.LawPublic
open Go.ChangeShapes Go.WideShapes Go.ChangeAt Go.ChangeMaps Go.RowKit Mur Lanes Limb LadC Lad
set_option maxRecDepth 100000

set_option maxHeartbeats 3200000 in
theorem walk (s : ByteArray) (w0 : World) (_ : s.size ≤ 140737488351232) :
    Calls Try.prog 6 #[.string s] w0 fun e w' => e = .returned (.bool true) ∧ Below w0.heap.size w0 w' := by
  have TL := Lib.hid (fun u => LadC.awake_any u)
  by_cases hg : s.size ≤ 200
  case neg =>
    have hd : decide (200 < (s.size : Int)) = true := by simp; omega
    clear hg
    go_enter Try.func6, Try.ntmps6
    go_wp2_with fail
    refine (TL.out _).mono ?_
    rintro e w3 ⟨rfl, hb⟩
    go_wp2
    go_ret
    exact ⟨rfl, hb⟩
  case pos =>
  have hd : decide (200 < (s.size : Int)) = false := by simp; omega
  have r1 := fun u => LadC.public_any s u
  have r2 := fun u => RefLad.public_ref s u
  obtain ⟨a, b, hv⟩ := RefLad.timesV_some s (numT 9)
  rw [hv] at r1 r2
  have e1 : (a.toList == a.toList) = true := by simp
  have e2 : (b == b) = true := by simp
  have R1 := Lib.hid r1
  have R2 := Lib.hid r2
  clear r1 r2 hv hg
  go_enter Try.func6, Try.ntmps6
  go_wp2_with fail
  refine (R1.out _).mono ?_
  rintro e w1 ⟨rfl, hb⟩
  have Hw1 := Lib.hid hb
  clear hb
  go_wp2_with fail
  refine (R2.out _).mono ?_
  rintro e w2 ⟨rfl, hb⟩
  have Hw2 := Lib.hid (Hw1.out.trans (hb.mono Hw1.out.size))
  clear hb Hw1
  go_wp2_with fail
  refine (TL.out _).mono ?_
  rintro e w3 ⟨rfl, hb⟩
  have Hw3 := Lib.hid (Hw2.out.trans (hb.mono Hw2.out.size))
  clear hb Hw2
  go_wp2
  go_ret
  exact ⟨rfl, Hw3.out⟩

theorem own : ownKnob Try.prog.godebug = none := by kernel_rfl
theorem laidOut : laidOutB Try.prog = true := by kernel_rfl

set_option maxRecDepth 100000 in
theorem lifted (os : Os) (started : os.Started) (H : Type) (enc : TypeId × Value → H) :
    ReturnsInHanded {} Try.checked os 6 .any (Rows.ladderPublicSpec.pre6 enc Try.prog Try.f6 Rows.ladderPublicRow.domain false) (Rows.ladderPublicSpec.post enc Try.prog Try.f6 false true false false) := by
  refine returnsInHanded_of_change_sized (C := Try.checked) own started (by kernel_rfl) Try.func6
    (ChangeSpec.witness6 (enc := enc) (C := Try.checked) false ⟨#[], #[.string ByteArray.empty], []⟩ 8 (by kernel_rfl) (by kernel_rfl) (by kernel_rfl) (by kernel_rfl)) ?_
  intro W base args ds gs before hval0 hW hcnd hsz0 _
  have hsz : (DataW.weightsEach Try.prog (Try.f6.params.toList ++ Rows.ladderPublicSpec.plain.varTypes Try.prog) (ds ++ gs)).all (· ≤ reachBytes) = true := hsz0
  clear hsz0
  have hval : ∀ (j : Nat) t v, Try.f6.params[j]? = some t → args[j]? = some v → Value.okWide Try.prog W .any base t v := hval0
  have hW' := hW
  obtain ⟨p, q, hA0, hV, rfl, hfz, hnd⟩ := hW
  have hA : DataW.TrodAll enc Try.prog W 0 (fun _ => true) true Try.f6.params.toList args.toList ds p := hA0
  rw [Try.params6] at hA hval hsz
  obtain ⟨v0, vs0, d0, ds0, p0, q0, hargs, rfl, rfl, h0, r0⟩ := trodAll_cons hA
  obtain ⟨rfl, rfl, rfl⟩ := trodAll_nil r0
  obtain rfl : args = #[v0] := by cases args; simp_all
  obtain ⟨rfl, rfl⟩ := trodVars_none hV
  obtain ⟨s0, rfl, rfl, rfl, w0⟩ := open_string Try.underlying9 (hval 0 9 v0 rfl rfl) h0
  have z0 := sized_string hsz (j := 0) (t := 9) (bytes := s0.data.toList) rfl rfl
  clear hA0 hval0
  have hwk := walk s0 W z0
  refine hwk.mono fun e W' ⟨he, bel⟩ => ?_
  subst he
  exact ⟨_, rfl, _, _, _, [], _, [], hW', trodAll_mk1 (shut_bool Try.underlying4 _), (trodAll_cons_mk (shut_string Try.underlying9 w0) trodAll_mk0), rfl, bel.frame _, fun h => by cases h⟩

theorem over : Rows.ladderPublicRow.holds Try.pinned (OpenSpec.ofChange Rows.ladderPublicSpec) :=
  OpenClaim.holds_of_wide 6 Try.f6 rfl rfl rfl rfl rfl rfl rfl ⟨rfl, rfl, rfl, rfl, rfl⟩ rfl rfl rfl rfl rfl (by kernel_rfl) Try.func6 (by kernel_rfl)
    (of_decide_eq_true (by kernel_rfl)) (by unfold Func.isWrapper; first | (rw [if_pos (by decide +kernel)]; kernel_rfl) | (rw [if_neg (by decide +kernel)]; exact ⟨rfl, rfl⟩))
    (fun os started H enc _ => lifted os started H enc)

theorem proved : Rows.LadderPublicSaid := over
#print axioms proved
end Go.Proofs.Ytcglobpklhkebaa.LawPublic
