/-
  LadderClamped: bits of a secret that are clamped make no difference; a secret clamped twice is as clamped once: for every input, the law answers true and changes nothing that was there. No condition.
-/
import Derived.Test.YtcglobpklhkebaaLadAwake
import Derived.Test.YtcglobpklhkebaaRows
import Derived.Test.YtcglobpklhkebaaOpen
import Derived.ChangeMaps5
namespace Go.Proofs.Ytcglobpklhkebaa.LawClamped
open Go.ChangeShapes Go.WideShapes Go.ChangeAt Go.ChangeMaps Go.RowKit Mur Lanes Limb LadC Lad
set_option maxRecDepth 100000

theorem share_clamp (s p : ByteArray) : shareT (clampT s) p = shareT s p := by
  unfold shareT shareN
  have : clampT (clampT s) = clampT s := by
    show (⟨(clamp (clamp s.data.toList)).toArray⟩ : ByteArray) = _
    rw [clamp_clamp]
    rfl
  rw [this]
theorem low7 : ∀ x : UInt8, bits .and .u8 ((x &&& 248).toNat : Int) 7 = 0 := fun x => by
  have h := and_u8 (x &&& 248) 7
  rw [UInt8.and_assoc, show (248 : UInt8) &&& 7 = 0 from rfl, UInt8.and_zero] at h
  exact h
theorem high1 : ∀ x : UInt8, ((x &&& 127 ||| 64).toNat : Int) / 64 = 1 := fun x => by
  have h : ∀ n : Fin 256, (((UInt8.ofNat n.val) &&& 127 ||| 64).toNat : Int) / 64 = 1 := by decide +kernel
  have := h ⟨x.toNat, x.toNat_lt⟩
  simpa only [UInt8.ofNat_toNat] using this

set_option maxHeartbeats 6400000 in
theorem walk (s p : ByteArray) (w0 : World) (_ : s.size ≤ 140737488351232) (_ : p.size ≤ 140737488351232) :
    Calls Try.prog 7 #[.string s, .string p] w0 fun e w' => e = .returned (.bool true) ∧ Below w0.heap.size w0 w' := by
  have TL := Lib.hid (fun u => awake_any u)
  by_cases h1 : s.size = 32
  case neg =>
    have d1 : ((s.size : Int) != 32) = true := by simp; omega
    clear h1
    go_enter Try.func7, Try.ntmps7
    go_wp2_with fail
    refine (TL.out _).mono ?_
    rintro e w3 ⟨rfl, hb⟩
    go_wp2
    go_ret
    exact ⟨rfl, hb⟩
  case pos =>
  by_cases h2 : p.size = 32
  case neg =>
    have d1 : ((s.size : Int) != 32) = false := by simp; omega
    have d2 : ((p.size : Int) != 32) = true := by simp; omega
    clear h1 h2
    go_enter Try.func7, Try.ntmps7
    go_wp2_with fail
    refine (TL.out _).mono ?_
    rintro e w3 ⟨rfl, hb⟩
    go_wp2
    go_ret
    exact ⟨rfl, hb⟩
  case pos =>
  have d1 : ((s.size : Int) != 32) = false := by simp; omega
  have d2 : ((p.size : Int) != 32) = false := by simp; omega
  have hsc := share_clamp s p
  have hCC : clampT (clampT s) = clampT s := by
    show (⟨(clamp (clamp s.data.toList)).toArray⟩ : ByteArray) = _
    rw [clamp_clamp]
    rfl
  have hC32 := clampT_size s
  have g0 : (clampT s).data.toList.getD 0 0 = (pad s.data.toList).getD 0 0 &&& 248 := by
    show (clamp s.data.toList).getD 0 0 = _
    rw [clamp_get _ 0 (by decide), if_pos rfl]
  have g31 : (clampT s).data.toList.getD 31 0 = (pad s.data.toList).getD 31 0 &&& 127 ||| 64 := by
    show (clamp s.data.toList).getD 31 0 = _
    rw [clamp_get _ 31 (by decide), if_neg (by decide), if_pos rfl]
  obtain ⟨C, hC⟩ : ∃ C, C = clampT s := ⟨_, rfl⟩
  rw [← hC] at hsc hCC hC32 g0 g31
  obtain ⟨T, hT⟩ : ∃ T, T = shareT s p := ⟨_, rfl⟩
  have r1 : ∀ u, Calls Try.prog 39 #[.string s] u fun r w' => r = .returned (.string C) ∧ Below u.heap.size u w' := fun u => by rw [hC]; exact clamp_any s u
  have r2 : ∀ u, Calls Try.prog 39 #[.string C] u fun r w' => r = .returned (.string C) ∧ Below u.heap.size u w' := fun u => by
    have := clamp_any C u
    rw [show (⟨(clamp C.data.toList).toArray⟩ : ByteArray) = C from hCC] at this
    exact this
  have r3 : ∀ u, Calls Try.prog 37 #[.string s, .string p] u fun r w' => r = .returned (.tuple #[.string T, .int .i64 0]) ∧ Below u.heap.size u w' := fun u => by
    rw [hT]
    exact times_ok s p u h1 h2
  have r4 : ∀ u, Calls Try.prog 37 #[.string C, .string p] u fun r w' => r = .returned (.tuple #[.string T, .int .i64 0]) ∧ Below u.heap.size u w' := fun u => by
    rw [hT, ← hsc]
    exact times_ok C p u hC32 h2
  have e1 : (C.toList == C.toList) = true := by simp
  have e2 : (T.toList == T.toList) = true := by simp
  have e3 : ((C.size : Int) == 32) = true := by rw [hC32]; rfl
  have q0 : (0 : Int) < (C.size : Int) := by omega
  have q0' : 0 < C.size := by omega
  have q31 : (31 : Int) < (C.size : Int) := by omega
  have q31' : 31 < C.size := by omega
  have b0 : bits .and .u8 (C[0].toNat : Int) 7 = 0 := by
    have e : C.data.toList.getD 0 0 = C[0] := by
      have hl : C.data.toList.length = C.size := rfl
      simp [List.getD, q0']
      rfl
    rw [← e, g0]
    exact low7 _
  have b31 : (C[31].toNat : Int) / 64 = 1 := by
    have e : C.data.toList.getD 31 0 = C[31] := by
      have hl : C.data.toList.length = C.size := rfl
      simp [List.getD, q31']
      rfl
    rw [← e, g31]
    exact high1 _
  have R1 := Lib.hid r1
  have R2 := Lib.hid r2
  have R3 := Lib.hid r3
  have R4 := Lib.hid r4
  have Q31 := Lib.hid b31
  have Q0 := Lib.hid b0
  clear r1 r2 r3 r4 hsc hCC hC32 g0 g31 hC hT h1 h2 b0 b31
  go_enter Try.func7, Try.ntmps7
  go_wp2_with fail
  refine (R1.out _).mono ?_
  rintro e w1 ⟨rfl, hb⟩
  have HB1 := Lib.hid hb
  clear hb
  go_wp2_with fail
  refine (R3.out _).mono ?_
  rintro e w2 ⟨rfl, hb⟩
  have HB2 := Lib.hid (HB1.out.trans (hb.mono HB1.out.size))
  clear hb HB1
  go_wp2_with fail
  refine (R4.out _).mono ?_
  rintro e w3 ⟨rfl, hb⟩
  have HB3 := Lib.hid (HB2.out.trans (hb.mono HB2.out.size))
  clear hb HB2
  go_wp2_with fail
  refine (R2.out _).mono ?_
  rintro e w4 ⟨rfl, hb⟩
  have HB4 := Lib.hid (HB3.out.trans (hb.mono HB3.out.size))
  clear hb HB3
  have b0 := Q0.out
  have b31 := Q31.out
  go_wp2_with fail
  refine (TL.out _).mono ?_
  rintro e w5 ⟨rfl, hb⟩
  have HB5 := Lib.hid (HB4.out.trans (hb.mono HB4.out.size))
  clear hb HB4
  go_wp2
  go_ret
  exact ⟨rfl, HB5.out⟩

theorem own : ownKnob Try.prog.godebug = none := by kernel_rfl
theorem laidOut : laidOutB Try.prog = true := by kernel_rfl

set_option maxRecDepth 100000 in
theorem lifted (os : Os) (started : os.Started) (H : Type) (enc : TypeId × Value → H) :
    ReturnsInHanded {} Try.checked os 7 .any (Rows.ladderClampedSpec.pre6 enc Try.prog Try.f7 Rows.ladderClampedRow.domain false) (Rows.ladderClampedSpec.post enc Try.prog Try.f7 false true false false) := by
  refine returnsInHanded_of_change_sized (C := Try.checked) own started (by kernel_rfl) Try.func7
    (ChangeSpec.witness6 (enc := enc) (C := Try.checked) false ⟨#[], #[.string ByteArray.empty, .string ByteArray.empty], []⟩ 8 (by kernel_rfl) (by kernel_rfl) (by kernel_rfl) (by kernel_rfl)) ?_
  intro W base args ds gs before hval0 hW hcnd hsz0 _
  have hsz : (DataW.weightsEach Try.prog (Try.f7.params.toList ++ Rows.ladderClampedSpec.plain.varTypes Try.prog) (ds ++ gs)).all (· ≤ reachBytes) = true := hsz0
  clear hsz0
  have hval : ∀ (j : Nat) t v, Try.f7.params[j]? = some t → args[j]? = some v → Value.okWide Try.prog W .any base t v := hval0
  have hW' := hW
  obtain ⟨p, q, hA0, hV, rfl, hfz, hnd⟩ := hW
  have hA : DataW.TrodAll enc Try.prog W 0 (fun _ => true) true Try.f7.params.toList args.toList ds p := hA0
  rw [Try.params7] at hA hval hsz
  obtain ⟨v0, vs0, d0, ds0, p0, q0, hargs, rfl, rfl, h0, r0⟩ := trodAll_cons hA
  obtain ⟨v1, vs1, d1, ds1, p1, q1, rfl, rfl, rfl, h1, r1⟩ := trodAll_cons r0
  obtain ⟨rfl, rfl, rfl⟩ := trodAll_nil r1
  obtain rfl : args = #[v0, v1] := by cases args; simp_all
  obtain ⟨rfl, rfl⟩ := trodVars_none hV
  obtain ⟨s0, rfl, rfl, rfl, w0⟩ := open_string Try.underlying9 (hval 0 9 v0 rfl rfl) h0
  have z0 := sized_string hsz (j := 0) (t := 9) (bytes := s0.data.toList) rfl rfl
  obtain ⟨s1, rfl, rfl, rfl, w1⟩ := open_string Try.underlying9 (hval 1 9 v1 rfl rfl) h1
  have z1 := sized_string hsz (j := 1) (t := 9) (bytes := s1.data.toList) rfl rfl
  clear hA0 hval0
  have hwk := walk s0 s1 W z0 z1
  refine hwk.mono fun e W' ⟨he, bel⟩ => ?_
  subst he
  exact ⟨_, rfl, _, _, _, [], _, [], hW', trodAll_mk1 (shut_bool Try.underlying4 _), (trodAll_cons_mk (shut_string Try.underlying9 w0) (trodAll_cons_mk (shut_string Try.underlying9 w1) trodAll_mk0)), rfl, bel.frame _, fun h => by cases h⟩

theorem over : Rows.ladderClampedRow.holds Try.pinned (OpenSpec.ofChange Rows.ladderClampedSpec) :=
  OpenClaim.holds_of_wide 7 Try.f7 rfl rfl rfl rfl rfl rfl rfl ⟨rfl, rfl, rfl, rfl, rfl⟩ rfl rfl rfl rfl rfl (by kernel_rfl) Try.func7 (by kernel_rfl)
    (of_decide_eq_true (by kernel_rfl)) (by unfold Func.isWrapper; first | (rw [if_pos (by decide +kernel)]; kernel_rfl) | (rw [if_neg (by decide +kernel)]; exact ⟨rfl, rfl⟩))
    (fun os started H enc _ => lifted os started H enc)

theorem proved : Rows.LadderClampedSaid := over
#print axioms proved
end Go.Proofs.Ytcglobpklhkebaa.LawClamped
