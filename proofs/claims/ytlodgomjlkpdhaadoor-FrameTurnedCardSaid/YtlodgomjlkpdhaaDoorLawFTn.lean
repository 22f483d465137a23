/-
  FrameTurned: the bit that is told is 0 in what was laid, and 1 in what came out, and the first such one; of what came out as it was laid none is: for any two texts the law answers true and changes nothing that was there. Condition: the listed tables hold what the program lays there.
-/
import Derived.Test.YtlodgomjlkpdhaaDoorFrX
import Derived.Test.YtlodgomjlkpdhaaDoorFrK
import Derived.Test.YtlodgomjlkpdhaaDoorFrO
import Derived.Test.YtlodgomjlkpdhaaDoorFrlz

namespace Go.Proofs.YtlodgomjlkpdhaaDoor.LawFTn
open Go.ChangeShapes Go.WideShapes Go.ChangeAt Go.RowKit Mur Prt Lanes Tap Cel Frm
open Go.ChangeMaps (open_string shut_string)
set_option maxRecDepth 100000
set_option linter.unusedSimpArgs false

/-- What the round k of the statement asks. -/
theorem asks (a b : List UInt8) (T : Int) (hT : T = turned a b) (k : Nat) (hk : k < 8 * min a.length b.length) : (isTurned a b k = ((k : Int) == T)) ∨ (isTurned a b k = true ∧ ((k : Int) == T) = false ∧ decide (T < 0) = false ∧ decide ((k : Int) ≤ T) = false) := by
  rcases turned_spec a b with ⟨h1, h2⟩ | ⟨m, h1, h2, h3, h4⟩
  · left
    rw [h2 k hk, hT, h1]
    symm
    simp <;> omega
  · rcases Nat.lt_trichotomy k m with h | h | h
    · left
      rw [h4 k h, hT, h1]
      symm
      simp <;> omega
    · left
      rw [h, h3, hT, h1]
      simp
    · cases hk2 : isTurned a b k with
      | false =>
        left
        rw [hT, h1]
        symm
        simp <;> omega
      | true =>
        right
        rw [hT, h1]
        refine ⟨rfl, ?_, ?_, ?_⟩
        · simp; omega
        · simp
        · simp; omega

set_option maxHeartbeats 6400000 in
theorem walk (con : Con) (a b : ByteArray) (wz : World) (ha : a.size ≤ 140737488351232) (hb : b.size ≤ 140737488351232) (hl : Laid wz) :
    Calls Tryd.prog 4 #[.string a, .string b] wz fun e w' => e = .returned (.bool true) ∧ Below wz.heap.size wz w' := by
  have RA := Lib.hid (fun u (hu : Below wz.heap.size wz u) => awake_any con u (hl.below hu))
  have HM := Lib.hid (Hold.Hld.start wz)
  have hws : wrap64 ((a.size : Int) + (b.size : Int)) = (a.size : Int) + (b.size : Int) := IntWalk.wrap64_in _ (by omega)
  by_cases hg : 1000 < a.size + b.size
  · have d1 : decide (1000 < (a.size : Int) + (b.size : Int)) = true := decide_eq_true (by omega)
    have d2 : decide (1000 < a.size + b.size) = true := decide_eq_true hg
    go_enter Tryd.func4, Tryd.ntmps4
    go_wp2_with ((with_reducible refine (RA.out _ HM.out.below).mono ?_); rintro e w ⟨rfl, hb⟩; replace HM := Lib.hid (HM.out.next hb); clear hb)
    go_ret
    exact ⟨rfl, HM.out.below⟩
  have d1 : decide (1000 < (a.size : Int) + (b.size : Int)) = false := decide_eq_false (by omega)
  have d2 : decide (1000 < a.size + b.size) = false := decide_eq_false hg
  obtain ⟨T, hT⟩ : ∃ T, T = turned a.data.toList b.data.toList := ⟨_, rfl⟩
  obtain ⟨M, hM⟩ : ∃ M : Nat, M = 8 * min a.size b.size := ⟨_, rfl⟩
  have hM2 : 8 * min (a.size : Int) (b.size : Int) = (M : Int) := by rw [hM]; omega
  have hMl : M ≤ 8000 := by omega
  have hwm : wrap64 (8 * min (a.size : Int) (b.size : Int)) = (M : Int) := by rw [hM2]; exact IntWalk.wrap64_in _ (by omega)
  have hw8 : wrap64 (8 * (a.size : Int)) = 8 * (a.size : Int) := IntWalk.wrap64_in _ (by omega)
  have hw9 : wrap64 (8 * (a.size : Int) + 1) = 8 * (a.size : Int) + 1 := IntWalk.wrap64_in _ (by omega)
  have hla : a.data.toList.length = a.size := rfl
  have hlb : b.data.toList.length = b.size := rfl
  have hA : ∀ k : Nat, k < M → _ := fun k hk => asks a.data.toList b.data.toList T hT k (by rw [hla, hlb, ← hM]; exact hk)
  have hTr : -1 ≤ T ∧ T < 8 * (a.size : Int) + 1 := by
    rcases turned_spec a.data.toList b.data.toList with ⟨h1, _⟩ | ⟨m, h1, h2, _, _⟩
    · rw [hT, h1]; omega
    · rw [hla, hlb] at h2
      rw [hT, h1]; omega
  have g1 : decide (-1 ≤ T) = true := decide_eq_true hTr.1
  have g2 : decide (T < 8 * (a.size : Int) + 1) = true := decide_eq_true hTr.2
  have g3 : -1 ≤ T := hTr.1
  have g4 : T < 8 * (a.size : Int) + 1 := hTr.2
  have R1 := Lib.hid (fun u => con.turned a b T u hT (by omega) (by omega))
  have R2 := Lib.hid (fun u => con.turned a a (-1) u (turned_same a.data.toList).symm (by omega) (by omega))
  have RP := Lib.hid (fun (k : Nat) (P : Nat) (hP : P = bit a.data.toList (k : Int)) (hk : k ≤ 8000) u => show Calls Tryd.prog 10 #[.string a, .int .i64 (k : Int)] u fun e w' => e = .returned (.int .i64 (P : Int)) ∧ Below u.heap.size u w' from (bit_any a (k : Int) u (by omega) (by omega) ha).mono fun e w' ⟨he, hw⟩ => ⟨by rw [he, hP], by rw [← hw]; exact Below.refl _ _⟩)
  have RQ := Lib.hid (fun (k : Nat) (P : Nat) (hP : P = bit b.data.toList (k : Int)) (hk : k ≤ 8000) u => show Calls Tryd.prog 10 #[.string b, .int .i64 (k : Int)] u fun e w' => e = .returned (.int .i64 (P : Int)) ∧ Below u.heap.size u w' from (bit_any b (k : Int) u (by omega) (by omega) hb).mono fun e w' ⟨he, hw⟩ => ⟨by rw [he, hP], by rw [← hw]; exact Below.refl _ _⟩)
  have HA := Lib.hid hA
  clear hT hM hla hlb hA hTr hl ha hb hg
  go_enter Tryd.func4, Tryd.ntmps4
  go_wp2_with ((with_reducible refine (R1.out _).mono ?_); rintro e w ⟨rfl, hb⟩; replace HM := Lib.hid (HM.out.next hb); clear hb)
  go_loopw [24] (fun i wr => ∃ k : Nat, k ≤ M ∧ i = .int .i64 (k : Int) ∧ Hold.Hld wz [] wr) (fun i _ => M - (intOf i).toNat)
  case atStart => exact ⟨0, by omega, rfl, HM.out⟩
  case round =>
    obtain ⟨k, hk, rfl, hm⟩ := hrel
    clear HM
    have HM := Lib.hid hm
    clear hm
    by_cases hlt : k < M
    · have hlt2 : (k : Int) < (M : Int) := by omega
      obtain ⟨P, hP⟩ : ∃ P, P = bit a.data.toList (k : Int) := ⟨_, rfl⟩
      obtain ⟨Q, hQ⟩ : ∃ P, P = bit b.data.toList (k : Int) := ⟨_, rfl⟩
      have hor := HA.out k hlt
      have hti : isTurned a.data.toList b.data.toList k = (decide (P = 0) && decide (Q = 1)) := by rw [hP, hQ]; rfl
      rw [hti] at hor
      have S1 := Lib.hid (RP.out k P hP (by omega))
      have S2 := Lib.hid (RQ.out k Q hQ (by omega))
      clear hti hP hQ
      by_cases p0 : P = 0
      · have q1 : ((P : Int) == 0) = true := by rw [p0]; rfl
        by_cases p1 : Q = 1
        · have q2 : ((Q : Int) == 1) = true := by rw [p1]; rfl
          rw [decide_eq_true p0, decide_eq_true p1, Bool.true_and] at hor
          rcases hor with h | ⟨-, h1, h2, h3⟩
          · have e1 : ((k : Int) == T) = true := h.symm
            clear h p0 p1
            go_wp2_with ((first
              | ((with_reducible refine (S1.out _).mono ?_); rintro e w ⟨rfl, hb⟩; replace HM := Lib.hid (HM.out.next hb); clear hb)
              | ((with_reducible refine (S2.out _).mono ?_); rintro e w ⟨rfl, hb⟩; replace HM := Lib.hid (HM.out.next hb); clear hb)))
            go_roundw
            case rel => exact ⟨k + 1, by omega, by go_num, HM.out⟩
            case measure => simp [intOf]; omega
          · have n2 : ¬ T < 0 := of_decide_eq_false h2
            have n3 : ¬ (k : Int) ≤ T := of_decide_eq_false h3
            clear p0 p1
            go_wp2_with ((first
              | ((with_reducible refine (S1.out _).mono ?_); rintro e w ⟨rfl, hb⟩; replace HM := Lib.hid (HM.out.next hb); clear hb)
              | ((with_reducible refine (S2.out _).mono ?_); rintro e w ⟨rfl, hb⟩; replace HM := Lib.hid (HM.out.next hb); clear hb)))
            go_roundw
            case rel => exact ⟨k + 1, by omega, by go_num, HM.out⟩
            case measure => simp [intOf]; omega
        · have q2 : ((Q : Int) == 1) = false := by simpa using (by omega : ¬ (Q : Int) = 1)
          rw [decide_eq_true p0, decide_eq_false p1, Bool.true_and] at hor
          have e1 : ((k : Int) == T) = false := by rcases hor with h | ⟨h, -⟩; exact h.symm; cases h
          clear hor p0 p1
          go_wp2_with ((first
            | ((with_reducible refine (S1.out _).mono ?_); rintro e w ⟨rfl, hb⟩; replace HM := Lib.hid (HM.out.next hb); clear hb)
            | ((with_reducible refine (S2.out _).mono ?_); rintro e w ⟨rfl, hb⟩; replace HM := Lib.hid (HM.out.next hb); clear hb)))
          go_roundw
          case rel => exact ⟨k + 1, by omega, by go_num, HM.out⟩
          case measure => simp [intOf]; omega
      · have q1 : ((P : Int) == 0) = false := by simpa using (by omega : ¬ (P : Int) = 0)
        rw [decide_eq_false p0, Bool.false_and] at hor
        have e1 : ((k : Int) == T) = false := by rcases hor with h | ⟨h, -⟩; exact h.symm; cases h
        clear hor p0
        go_wp2_with ((first
          | ((with_reducible refine (S1.out _).mono ?_); rintro e w ⟨rfl, hb⟩; replace HM := Lib.hid (HM.out.next hb); clear hb)
          | ((with_reducible refine (S2.out _).mono ?_); rintro e w ⟨rfl, hb⟩; replace HM := Lib.hid (HM.out.next hb); clear hb)))
        go_roundw
        case rel => exact ⟨k + 1, by omega, by go_num, HM.out⟩
        case measure => simp [intOf]; omega
    · obtain rfl : k = M := by omega
      have hlt2 : ¬ ((k : Int) < (k : Int)) := by omega
      go_wp2_with ((first
        | ((with_reducible refine (R2.out _).mono ?_); rintro e w ⟨rfl, hb⟩; replace HM := Lib.hid (HM.out.next hb); clear hb)
        | ((with_reducible refine (RA.out _ HM.out.below).mono ?_); rintro e w ⟨rfl, hb⟩; replace HM := Lib.hid (HM.out.next hb); clear hb)))
      go_ret
      exact ⟨by simp, HM.out.below⟩

set_option maxHeartbeats 1600000 in
theorem lifted (con : Con) (os : Os) (started : os.Started) (H : Type) (enc : TypeId × Value → H) :
    ReturnsInHanded {} Tryd.checked os 4 .any (fun w args => (Rows.frameTurnedSpec.pre enc Tryd.prog Tryd.f4 [] false w args ∧ laidMetH Tryd.prog Frk.laidL w) ∧ sizedMet enc Tryd.prog Tryd.f4 (OpenSpec.ofChange Rows.frameTurnedSpec) false w args)
      (Rows.frameTurnedSpec.post enc Tryd.prog Tryd.f4 false true false false) := by
  refine returnsInHanded_of_change_and (C := Tryd.checked) (X := fun w _ => laidMetH Tryd.prog Frk.laidL w) (fun _ _ _ hh h => h.of_heap hh) Frk.own started (by kernel_rfl) Tryd.func4
    (ChangeSpec.witness_shaped (enc := enc) (C := Tryd.checked) (os := os) (X := fun w _ => laidMetH Tryd.prog Frk.laidL w) false (World.laidAll Tryd.prog os Frk.laidL) #[.string ByteArray.empty, .string ByteArray.empty] 8 (World.laidAll_os _ _ _) (Frk.table_shaped os _) (by kernel_rfl) (by kernel_rfl) (by kernel_rfl) (Frk.table_met os _)) ?_
  intro W base args ds gs before hval0 hW _ hsz0 hL _
  have hval : ∀ (j : Nat) t v, Tryd.f4.params[j]? = some t → args[j]? = some v → Value.okWide Tryd.prog W .any base t v := hval0
  have hsz : (DataW.weightsEach Tryd.prog (Tryd.f4.params.toList ++ Rows.frameTurnedSpec.plain.varTypes Tryd.prog) (ds ++ gs)).all (· ≤ reachBytes) = true := hsz0
  clear hsz0
  have hW' := hW
  obtain ⟨p, q, hA0, hV, rfl, hfz, hnd⟩ := hW
  have hA : DataW.TrodAll enc Tryd.prog W 0 (fun _ => true) true Tryd.f4.params.toList args.toList ds p := hA0
  rw [Tryd.params4] at hA hval hsz
  obtain ⟨v0, vs0, d0, ds0, p0, q0, hargs, rfl, rfl, h0, r0⟩ := trodAll_cons hA
  obtain ⟨v1, vs1, d1, ds1, p1, q1, rfl, rfl, rfl, h1, r1⟩ := trodAll_cons r0
  obtain ⟨rfl, rfl, rfl⟩ := trodAll_nil r1
  obtain rfl : args = #[v0, v1] := by cases args; simp_all
  obtain ⟨rfl, rfl⟩ := trodVars_none hV
  obtain ⟨a0, rfl, rfl, rfl, w0⟩ := open_string Tryd.underlying9 (hval 0 9 v0 rfl rfl) h0
  have zz0 := sized_string hsz (j := 0) (t := 9) (bytes := a0.data.toList) rfl rfl
  obtain ⟨a1, rfl, rfl, rfl, w1⟩ := open_string Tryd.underlying9 (hval 1 9 v1 rfl rfl) h1
  have zz1 := sized_string hsz (j := 1) (t := 9) (bytes := a1.data.toList) rfl rfl
  have hcl := Frk.of_laid hL
  clear hA0 hval0
  refine (walk con a0 a1 W (show a0.size ≤ 140737488351232 from Nat.le_trans zz0 (by decide)) (show a1.size ≤ 140737488351232 from Nat.le_trans zz1 (by decide)) hcl).mono fun e W' ⟨he, bel⟩ => ?_
  subst he
  exact ⟨_, rfl, _, _, _, [], _, [], hW', trodAll_mk1 (shut_bool Tryd.underlying4 _), (trodAll_cons_mk (shut_string Tryd.underlying9 w0) (trodAll_cons_mk (shut_string Tryd.underlying9 w1) trodAll_mk0)), rfl, bel.frame _, fun h => by cases h⟩

theorem over (con : Con) : Rows.FrameTurnedSaid :=
  OpenClaim.holds_of_wide 4 Tryd.f4 rfl rfl rfl rfl rfl rfl rfl ⟨rfl, rfl, rfl, rfl, rfl⟩ rfl rfl rfl rfl rfl (by kernel_rfl) Tryd.func4 (by kernel_rfl)
    (of_decide_eq_true (by kernel_rfl)) (by unfold Func.isWrapper; first | (rw [if_pos (by decide +kernel)]; kernel_rfl) | (rw [if_neg (by decide +kernel)]; exact ⟨rfl, rfl⟩))
    (fun os started H enc _ => lifted con os started H enc)

theorem of_con (con : Con) : Rows.FrameTurnedCardSaid :=
  Claim7.holds_tied_plain_at .later [] [.data, .data, .data, .data, .data, .pinned] true Rows.frameTurnedCard.stood.harness false
    (over con) (fun _ h => by cases h) (by kernel_rfl) (fun _ h => by cases h) frameTurned_row_tie rfl ⟨rfl, rfl⟩ (by kernel_rfl) rfl
    (fun f fn hf hfn => by
      obtain rfl : f = 4 := Option.some.inj ((show Tryd.prog.funcNamed "murmur/murmurlaw18.FrameTurned" = some 4 by kernel_rfl).symm.trans hf) |>.symm
      obtain rfl : fn = Tryd.f4 := (Option.some.inj (Tryd.func4.symm.trans hfn)).symm
      exact ⟨by kernel_rfl, fun j t ht => by
        rw [Tryd.params4] at ht
        have hm : t ∈ [9, 9] := by simpa using Array.mem_of_getElem? ht
        have hall : ([9, 9].all fun u => !Tryd.prog.wantsStandIn u) = true := by kernel_rfl
        exact (show Tryd.prog.wantsStandIn t = false by simpa using List.all_eq_true.1 hall t hm)⟩)
    (by kernel_rfl)
/-- The statement. -/
theorem proved : Rows.FrameTurnedCardSaid := of_con Frm.con
#print axioms proved
end Go.Proofs.YtlodgomjlkpdhaaDoor.LawFTn
