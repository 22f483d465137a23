/-
  What the landed package frame of layer 18 reads of a slot's opened bytes (said) is what the plain mathematics of the text Frm says; all memory that was there is left as it was. Conditions: as many bytes as capacity and signature ask.
-/
import Derived.Test.YtedgpglldlohfaaDoorFrla
namespace Go.Proofs.YtedgpglldlohfaaDoor.Frl
open Go.RowKit Mur Lanes Prt Tap Cel Frm
set_option maxRecDepth 100000
set_option linter.unusedSimpArgs false

def badOne (b : List UInt8) (cn : Nat) : Prop := 16 < byte b 0 ∨ cn < byte b 1 ∨ noughts (((b.drop 3).take cn).drop (byte b 1)) = false
instance (b : List UInt8) (cn : Nat) : Decidable (badOne b cn) := by unfold badOne; infer_instance
def bare (n : Int) : SayB := ⟨n, 0, ⟨#[]⟩, ⟨#[]⟩⟩
/-- What is answered of opened bytes, and whether it counts. -/
def saidX (b : List UInt8) (cn : Nat) : SayB := if badOne b cn then zeroX else if byte b 1 = 0 then bare (byte b 0 : Nat) else ⟨(byte b 0 : Nat), (byte b 2 : Nat), tx ((b.drop 3).take (byte b 1)), tx (b.drop (3 + cn))⟩
def saidR (b : List UInt8) (cn : Nat) : Bool := if badOne b cn then false else if byte b 1 = 0 then decide (byte b 2 = 0) && noughts (b.drop (3 + cn)) else true
theorem bad_one (b : List UInt8) (cn : Nat) : badForm b (cn : Int) ↔ badOne b cn ∨ (byte b 1 = 0 ∧ (byte b 2 ≠ 0 ∨ noughts (b.drop (3 + cn)) = false)) := by
  unfold badForm badOne
  have hc : ((cn : Int)).toNat = cn := rfl
  rw [hc]
  generalize noughts _ = B1
  generalize noughts _ = B2
  constructor
  · rintro (h | h | h | h)
    · exact Or.inl (Or.inl h)
    · exact Or.inl (Or.inr (Or.inl (by omega)))
    · exact Or.inl (Or.inr (Or.inr h))
    · exact Or.inr h
  · rintro ((h | h | h) | h)
    · exact Or.inl h
    · exact Or.inr (Or.inl (by omega))
    · exact Or.inr (Or.inr (Or.inl h))
    · exact Or.inr (Or.inr (Or.inr h))
theorem said_yes (b : List UInt8) (cn : Nat) (h : saidR b cn = true) : ¬ badForm b (cn : Int) ∧ saidX b cn = ofSay (sayOf b (cn : Int)) := by
  unfold saidR at h
  have hc : ((cn : Int)).toNat = cn := rfl
  split at h
  · cases h
  · rename_i h1
    split at h
    · rename_i h2
      rw [Bool.and_eq_true] at h
      have h3 := of_decide_eq_true h.1
      refine ⟨fun hb => ?_, ?_⟩
      · rcases (bad_one b cn).1 hb with hb | ⟨-, hb | hb⟩
        · exact h1 hb
        · exact hb h3
        · rw [h.2] at hb; cases hb
      · unfold saidX sayOf bare
        rw [if_neg h1, if_pos h2, if_pos h2, h2, h3]
        rfl
    · rename_i h2
      refine ⟨fun hb => ?_, ?_⟩
      · rcases (bad_one b cn).1 hb with hb | ⟨hb, -⟩
        · exact h1 hb
        · exact h2 hb
      · unfold saidX sayOf
        rw [if_neg h1, if_neg h2, if_neg h2, hc]
        rfl
theorem said_no (b : List UInt8) (cn : Nat) (h : saidR b cn = false) : badForm b (cn : Int) := by
  unfold saidR at h
  refine (bad_one b cn).2 ?_
  split at h
  · rename_i h1
    exact Or.inl h1
  · split at h
    · rename_i h2
      refine Or.inr ⟨h2, ?_⟩
      rw [Bool.and_eq_false_iff] at h
      rcases h with h | h
      · exact Or.inl (of_decide_eq_false h)
      · exact Or.inr h
    · cases h
theorem built_bare (n : Int) : Tryd.prog.built 44 [(0, .int .i64 n)] = some (sayV (bare n)).toArray := Eq.refl _

set_option maxHeartbeats 25600000 in
theorem said_any (BD : ByteArray) (cn gn : Nat) (Y : SayB) (R : Bool) (w : World) (hY : Y = saidX BD.data.toList cn) (hR : R = saidR BD.data.toList cn) (zBD : BD.size = 3 + cn + gn) (c2 : cn ≤ 16) (s2 : gn ≤ 2000) :
    Calls Tryd.prog 34 #[.string BD, .int .i64 (cn : Int)] w fun z w' => z = .returned (.tuple #[.agg (sayV Y).toArray, .bool R]) ∧ Below w.heap.size w w' := by
  obtain ⟨w0, hw0⟩ : ∃ w0, w0 = w := ⟨w, rfl⟩
  subst hw0
  obtain ⟨b, hb⟩ : ∃ b, b = BD.data.toList := ⟨_, rfl⟩
  rw [← hb] at hY hR
  have hbl : b.length = 3 + cn + gn := by rw [hb]; exact zBD
  obtain ⟨N0, hN0⟩ : ∃ n, n = byte b 0 := ⟨_, rfl⟩
  obtain ⟨N1, hN1⟩ : ∃ n, n = byte b 1 := ⟨_, rfl⟩
  obtain ⟨N2, hN2⟩ : ∃ n, n = byte b 2 := ⟨_, rfl⟩
  have l0 : N0 < 256 := by rw [hN0]; exact byte_lt _ _
  have l1 : N1 < 256 := by rw [hN1]; exact byte_lt _ _
  have l2 : N2 < 256 := by rw [hN2]; exact byte_lt _ _
  have j0 : ∀ u, (Instr.index 9 (.string BD) (.int .i64 0)).run Tryd.prog u = .ok (.int .u8 (N0 : Int)) u := fun u => by rw [hN0, hb]; exact idx' BD 0 0 rfl (by omega) u
  have j1 : ∀ u, (Instr.index 9 (.string BD) (.int .i64 1)).run Tryd.prog u = .ok (.int .u8 (N1 : Int)) u := fun u => by rw [hN1, hb]; exact idx' BD 1 1 rfl (by omega) u
  have j2 : ∀ u, (Instr.index 9 (.string BD) (.int .i64 2)).run Tryd.prog u = .ok (.int .u8 (N2 : Int)) u := fun u => by rw [hN2, hb]; exact idx' BD 2 2 rfl (by omega) u
  have HN0 := Lib.hid hN0
  have HN1 := Lib.hid hN1
  have HN2 := Lib.hid hN2
  clear hN0 hN1 hN2
  have v4 : IntKind.i64.wrap (3 + (cn : Int)) = 3 + (cn : Int) := i64_in _ (by omega) (by omega)
  have v0 : IntKind.i64.wrap (N0 : Int) = (N0 : Int) := i64_in _ (by omega) (by omega)
  have v1 : IntKind.i64.wrap (N1 : Int) = (N1 : Int) := i64_in _ (by omega) (by omega)
  have v2 : IntKind.i64.wrap (N2 : Int) = (N2 : Int) := i64_in _ (by omega) (by omega)
  have v3 : wrap64 (3 + (cn : Int)) = 3 + (cn : Int) := IntWalk.wrap64_in _ (by omega)
  obtain ⟨TX, hTX⟩ : ∃ D, D = tx ((b.drop 3).take cn) := ⟨_, rfl⟩
  have zTX : TX.size = cn := by rw [hTX]; exact take_size b cn gn hbl
  obtain ⟨SG, hSG⟩ : ∃ D, D = tx (b.drop (3 + cn)) := ⟨_, rfl⟩
  have m2 : ∀ u, (Instr.slice 9 (.string BD) (some (.int .i64 3)) (some (.int .i64 (3 + (cn : Int)))) none).run Tryd.prog u = .ok (.string TX) u := cut3 BD TX b cn gn hb zBD hTX
  have m3 : ∀ u, (Instr.slice 9 (.string BD) (some (.int .i64 (3 + (cn : Int)))) none none).run Tryd.prog u = .ok (.string SG) u := cut4 BD SG b cn gn hb zBD hSG
  have FJ := Lib.hid (And.intro j0 (And.intro j1 j2))
  have FV := Lib.hid (And.intro v0 (And.intro v1 v2))
  have FM := Lib.hid (And.intro m2 m3)
  have HM := Lib.hid (Hold.Hld.start w0)
  clear j0 j1 j2 v0 v1 v2 m2 m3
  have hone : badOne b cn → Y = zeroX ∧ R = false := fun h => by
    rw [hY, hR]
    unfold saidX saidR
    exact ⟨if_pos h, if_pos h⟩
  by_cases A3 : 16 < N0
  · have d3 : decide (16 < (N0 : Int)) = true := decide_eq_true (by omega)
    obtain ⟨rfl, rfl⟩ := hone (Or.inl (by rw [← HN0.out]; exact A3))
    clear hone
    clear hY hR hb hbl HN0 HN1 HN2 hTX hSG zTX zBD
    go_enter Tryd.func34, Tryd.ntmps34
    obtain ⟨j0, j1, j2⟩ := FJ.out
    obtain ⟨v0, v1, v2⟩ := FV.out
    go_upto_region 1 with (((with_reducible refine Hold.alloc HM.out rfl rfl zeroS zero_said ?_); clear HM; intro b4 w HM; simp only [List.nil_append, List.cons_append] at HM; replace HM := Lib.hid HM))
    go_quiet (fail)
    clear j0 j1 j2 v0 v1 v2
    replace HM := Lib.hid (HM.out.next (Mur.belowN (Below.refl _ _) nq))
    generalize w.drewN nq = w1 at *
    obtain ⟨m2, m3⟩ := FM.out
    go_upto_region 2 with (fail)
    go_quiet (fail)
    clear m2 m3
    replace HM := Lib.hid (HM.out.next (Mur.belowN (Below.refl _ _) nq))
    generalize w1.drewN nq = w2 at *
    go_wp2_with ((first
      | ((with_reducible refine (RN1.out _).mono ?_); rintro e w ⟨rfl, hb⟩; replace HM := Lib.hid (HM.out.next hb); clear hb)
      | ((refine Hold.build (t := 44) (parts := #[]) (cs := sayV zeroX) rfl rfl ?_ ?_); focus (exact built_none))
      | ((with_reducible refine Hold.store HM.out 0 (v' := sayV zeroX) rfl rfl rfl rfl rfl (say_fits zeroX zeroX) (say_laid zeroX zeroX) (say_one zeroX) (sayRow zeroX) ?_); clear HM; intro w HM; simp only [List.set_cons_zero, List.set_cons_succ] at HM; replace HM := Lib.hid HM)))
    refine bodyPost_ret (Hold.resultsCT HM.out 0 rfl _ rfl rfl rfl (sayRow zeroX)) rfl ?_
    exact ⟨rfl, HM.out.below⟩
  have d3 : decide (16 < (N0 : Int)) = false := decide_eq_false (nlt16 A3)
  by_cases A4 : cn < N1
  · have d4 : decide ((cn : Int) < (N1 : Int)) = true := decide_eq_true (Int.ofNat_lt.2 A4)
    obtain ⟨rfl, rfl⟩ := hone (Or.inr (Or.inl (by rw [← HN1.out]; exact A4)))
    clear hone
    clear hY hR hb hbl HN0 HN1 HN2 hTX hSG zTX zBD
    go_enter Tryd.func34, Tryd.ntmps34
    obtain ⟨j0, j1, j2⟩ := FJ.out
    obtain ⟨v0, v1, v2⟩ := FV.out
    go_upto_region 1 with (((with_reducible refine Hold.alloc HM.out rfl rfl zeroS zero_said ?_); clear HM; intro b4 w HM; simp only [List.nil_append, List.cons_append] at HM; replace HM := Lib.hid HM))
    go_quiet (fail)
    clear j0 j1 j2 v0 v1 v2
    replace HM := Lib.hid (HM.out.next (Mur.belowN (Below.refl _ _) nq))
    generalize w.drewN nq = w1 at *
    obtain ⟨m2, m3⟩ := FM.out
    go_upto_region 2 with (fail)
    go_quiet (fail)
    clear m2 m3
    replace HM := Lib.hid (HM.out.next (Mur.belowN (Below.refl _ _) nq))
    generalize w1.drewN nq = w2 at *
    go_wp2_with ((first
      | ((with_reducible refine (RN1.out _).mono ?_); rintro e w ⟨rfl, hb⟩; replace HM := Lib.hid (HM.out.next hb); clear hb)
      | ((refine Hold.build (t := 44) (parts := #[]) (cs := sayV zeroX) rfl rfl ?_ ?_); focus (exact built_none))
      | ((with_reducible refine Hold.store HM.out 0 (v' := sayV zeroX) rfl rfl rfl rfl rfl (say_fits zeroX zeroX) (say_laid zeroX zeroX) (say_one zeroX) (sayRow zeroX) ?_); clear HM; intro w HM; simp only [List.set_cons_zero, List.set_cons_succ] at HM; replace HM := Lib.hid HM)))
    refine bodyPost_ret (Hold.resultsCT HM.out 0 rfl _ rfl rfl rfl (sayRow zeroX)) rfl ?_
    exact ⟨rfl, HM.out.below⟩
  have d4 : decide ((cn : Int) < (N1 : Int)) = false := decide_eq_false (fun h => A4 (Int.ofNat_lt.1 h))
  have hle : N1 ≤ cn := Nat.le_of_not_lt A4
  obtain ⟨TZ, hTZ⟩ : ∃ D, D = tx (((b.drop 3).take cn).drop N1) := ⟨_, rfl⟩
  have zTZ : TZ.size ≤ 16 := by rw [hTZ]; exact drop_size b cn N1 c2
  have m4 : ∀ u, (Instr.slice 9 (.string TX) (some (.int .i64 (N1 : Int))) none none).run Tryd.prog u = .ok (.string TZ) u := fun u => slice_l TX TZ N1 (by rw [zTX]; exact hle) (by rw [hTZ, hTX]) u
  obtain ⟨B1, hB1⟩ : ∃ B, B = Frm.noughts (((b.drop 3).take cn).drop N1) := ⟨_, rfl⟩
  have RN1 := Lib.hid (fun u => nought_any TZ B1 u (by rw [hB1, hTZ]) (Nat.le_trans zTZ (by decide)))
  have FZ := Lib.hid m4
  clear m4
  by_cases A5 : B1 = true
  case neg =>
    obtain rfl : B1 = false := by simpa using A5
    clear A5
    obtain ⟨rfl, rfl⟩ := hone (Or.inr (Or.inr (by rw [← HN1.out]; exact hB1.symm)))
    clear hone hB1 hle
    clear hY hR hb hbl HN0 HN1 HN2 hTX hSG zTX zBD
    clear hTZ
    go_enter Tryd.func34, Tryd.ntmps34
    obtain ⟨j0, j1, j2⟩ := FJ.out
    obtain ⟨v0, v1, v2⟩ := FV.out
    go_upto_region 1 with (((with_reducible refine Hold.alloc HM.out rfl rfl zeroS zero_said ?_); clear HM; intro b4 w HM; simp only [List.nil_append, List.cons_append] at HM; replace HM := Lib.hid HM))
    go_quiet (fail)
    clear j0 j1 j2 v0 v1 v2
    replace HM := Lib.hid (HM.out.next (Mur.belowN (Below.refl _ _) nq))
    generalize w.drewN nq = w1 at *
    obtain ⟨m2, m3⟩ := FM.out
    go_upto_region 2 with (fail)
    go_quiet (fail)
    clear m2 m3
    replace HM := Lib.hid (HM.out.next (Mur.belowN (Below.refl _ _) nq))
    generalize w1.drewN nq = w2 at *
    have m4 := FZ.out
    go_wp2_with ((first
      | ((with_reducible refine (RN1.out _).mono ?_); rintro e w ⟨rfl, hb⟩; replace HM := Lib.hid (HM.out.next hb); clear hb)
      | ((refine Hold.build (t := 44) (parts := #[]) (cs := sayV zeroX) rfl rfl ?_ ?_); focus (exact built_none))
      | ((with_reducible refine Hold.store HM.out 0 (v' := sayV zeroX) rfl rfl rfl rfl rfl (say_fits zeroX zeroX) (say_laid zeroX zeroX) (say_one zeroX) (sayRow zeroX) ?_); clear HM; intro w HM; simp only [List.set_cons_zero, List.set_cons_succ] at HM; replace HM := Lib.hid HM)))
    refine bodyPost_ret (Hold.resultsCT HM.out 0 rfl _ rfl rfl rfl (sayRow zeroX)) rfl ?_
    exact ⟨rfl, HM.out.below⟩
  subst A5
  have hgood : ¬ badOne b cn := by
    unfold badOne
    rw [← HN0.out, ← HN1.out, ← hB1]
    rintro (h | h | h)
    · exact A3 h
    · exact A4 h
    · cases h
  clear hone hB1
  by_cases A6 : N1 = 0
  case neg =>
    have d6 : ((N1 : Int) == 0) = false := by simpa using A6
    obtain ⟨TT, hTT⟩ : ∃ D, D = tx ((b.drop 3).take N1) := ⟨_, rfl⟩
    have m5 : ∀ u, (Instr.slice 9 (.string TX) none (some (.int .i64 (N1 : Int))) none).run Tryd.prog u = .ok (.string TT) u := fun u => slice_h TX TT N1 (by rw [zTX]; exact hle) (by rw [hTT, hTX, tx_back, List.take_take, Nat.min_eq_left hle]) u
    obtain ⟨y, hy⟩ : ∃ y : SayB, y = ⟨(N0 : Int), (N2 : Int), TT, SG⟩ := ⟨_, rfl⟩
    have hbt : Tryd.prog.built 44 [(0, .int .i64 (N0 : Int)), (1, .int .i64 (N2 : Int)), (2, .string TT), (3, .string SG)] = some (sayV y).toArray := by rw [hy]; exact built_said ⟨(N0 : Int), (N2 : Int), TT, SG⟩
    obtain rfl : Y = y := by
      rw [hY, hy]
      unfold saidX
      rw [if_neg hgood, ← HN0.out, ← HN1.out, ← HN2.out, if_neg A6, hTT, hSG]
    obtain rfl : R = true := by
      rw [hR]
      unfold saidR
      rw [if_neg hgood, ← HN1.out, if_neg A6]
    clear hgood hle hTT hy
    clear hY hR hb hbl HN0 HN1 HN2 hTX hSG zTX zBD
    clear hTZ
    have F5 := Lib.hid m5
    have FB := Lib.hid hbt
    clear m5 hbt
    go_enter Tryd.func34, Tryd.ntmps34
    obtain ⟨j0, j1, j2⟩ := FJ.out
    obtain ⟨v0, v1, v2⟩ := FV.out
    go_upto_region 1 with (((with_reducible refine Hold.alloc HM.out rfl rfl zeroS zero_said ?_); clear HM; intro b4 w HM; simp only [List.nil_append, List.cons_append] at HM; replace HM := Lib.hid HM))
    go_quiet (fail)
    clear j0 j1 j2 v0 v1 v2
    replace HM := Lib.hid (HM.out.next (Mur.belowN (Below.refl _ _) nq))
    generalize w.drewN nq = w1 at *
    obtain ⟨m2, m3⟩ := FM.out
    go_upto_region 2 with (fail)
    go_quiet (fail)
    clear m2 m3
    replace HM := Lib.hid (HM.out.next (Mur.belowN (Below.refl _ _) nq))
    generalize w1.drewN nq = w2 at *
    have m4 := FZ.out
    have m5 := F5.out
    have hbt := FB.out
    go_wp2_with ((first
      | ((with_reducible refine (RN1.out _).mono ?_); rintro e w ⟨rfl, hb⟩; replace HM := Lib.hid (HM.out.next hb); clear hb)
      | ((refine Hold.build (t := 44) (parts := #[(0, .tmp 53), (1, .tmp 54), (2, .tmp 57), (3, .tmp 58)]) (cs := sayV Y) rfl rfl ?_ ?_); focus (simp [Act.eval, Act.put]; exact hbt))
      | ((with_reducible refine Hold.store HM.out 0 (v' := sayV Y) rfl rfl rfl rfl rfl (say_fits Y zeroX) (say_laid Y zeroX) (say_one Y) (sayRow Y) ?_); clear HM; intro w HM; simp only [List.set_cons_zero, List.set_cons_succ] at HM; replace HM := Lib.hid HM)))
    refine bodyPost_ret (Hold.resultsCT HM.out 0 rfl _ rfl rfl rfl (sayRow Y)) rfl ?_
    exact ⟨rfl, HM.out.below⟩
  have d6 : ((N1 : Int) == 0) = true := by rw [A6]; rfl
  obtain ⟨B2, hB2⟩ : ∃ B, B = Frm.noughts (b.drop (3 + cn)) := ⟨_, rfl⟩
  have RN2 := Lib.hid (fun u => nought_any SG B2 u (by rw [hB2, hSG]) (by rw [hSG]; exact rest_size b cn gn hbl s2))
  obtain ⟨y, hy⟩ : ∃ y : SayB, y = bare (N0 : Int) := ⟨_, rfl⟩
  have hbt : Tryd.prog.built 44 [(0, .int .i64 (N0 : Int))] = some (sayV y).toArray := by rw [hy]; exact built_bare _
  obtain rfl : Y = y := by
    rw [hY, hy]
    unfold saidX
    rw [if_neg hgood, ← HN0.out, ← HN1.out, if_pos A6]
  have hR2 : R = (decide (N2 = 0) && B2) := by
    rw [hR, hB2]
    unfold saidR
    rw [if_neg hgood, ← HN1.out, ← HN2.out, if_pos A6]
  have FB := Lib.hid hbt
  clear hgood hle hy hbt
  by_cases A7 : N2 = 0
  case neg =>
    have d7 : ((N2 : Int) == 0) = false := by simpa using A7
    obtain rfl : R = false := by rw [hR2, decide_eq_false A7, Bool.false_and]
    clear hR2 hB2 A6
    clear hY hR hb hbl HN0 HN1 HN2 hTX hSG zTX zBD
    clear hTZ
    go_enter Tryd.func34, Tryd.ntmps34
    obtain ⟨j0, j1, j2⟩ := FJ.out
    obtain ⟨v0, v1, v2⟩ := FV.out
    go_upto_region 1 with (((with_reducible refine Hold.alloc HM.out rfl rfl zeroS zero_said ?_); clear HM; intro b4 w HM; simp only [List.nil_append, List.cons_append] at HM; replace HM := Lib.hid HM))
    go_quiet (fail)
    clear j0 j1 j2 v0 v1 v2
    replace HM := Lib.hid (HM.out.next (Mur.belowN (Below.refl _ _) nq))
    generalize w.drewN nq = w1 at *
    obtain ⟨m2, m3⟩ := FM.out
    go_upto_region 2 with (fail)
    go_quiet (fail)
    clear m2 m3
    replace HM := Lib.hid (HM.out.next (Mur.belowN (Below.refl _ _) nq))
    generalize w1.drewN nq = w2 at *
    have m4 := FZ.out
    have hbt := FB.out
    go_wp2_with ((first
      | ((with_reducible refine (RN1.out _).mono ?_); rintro e w ⟨rfl, hb⟩; replace HM := Lib.hid (HM.out.next hb); clear hb)
      | ((with_reducible refine (RN2.out _).mono ?_); rintro e w ⟨rfl, hb⟩; replace HM := Lib.hid (HM.out.next hb); clear hb)
      | ((refine Hold.build (t := 44) (parts := #[(0, .tmp 45)]) (cs := sayV Y) rfl rfl ?_ ?_); focus (simp [Act.eval, Act.put]; exact hbt))
      | ((with_reducible refine Hold.store HM.out 0 (v' := sayV Y) rfl rfl rfl rfl rfl (say_fits Y zeroX) (say_laid Y zeroX) (say_one Y) (sayRow Y) ?_); clear HM; intro w HM; simp only [List.set_cons_zero, List.set_cons_succ] at HM; replace HM := Lib.hid HM)))
    refine bodyPost_ret (Hold.resultsCT HM.out 0 rfl _ rfl rfl rfl (sayRow Y)) rfl ?_
    exact ⟨rfl, HM.out.below⟩
  have d7 : ((N2 : Int) == 0) = true := by rw [A7]; rfl
  obtain rfl : R = B2 := by rw [hR2, decide_eq_true A7, Bool.true_and]
  · clear hR2 hB2 A6 A7
    clear hY hR hb hbl HN0 HN1 HN2 hTX hSG zTX zBD
    clear hTZ
    go_enter Tryd.func34, Tryd.ntmps34
    obtain ⟨j0, j1, j2⟩ := FJ.out
    obtain ⟨v0, v1, v2⟩ := FV.out
    go_upto_region 1 with (((with_reducible refine Hold.alloc HM.out rfl rfl zeroS zero_said ?_); clear HM; intro b4 w HM; simp only [List.nil_append, List.cons_append] at HM; replace HM := Lib.hid HM))
    go_quiet (fail)
    clear j0 j1 j2 v0 v1 v2
    replace HM := Lib.hid (HM.out.next (Mur.belowN (Below.refl _ _) nq))
    generalize w.drewN nq = w1 at *
    obtain ⟨m2, m3⟩ := FM.out
    go_upto_region 2 with (fail)
    go_quiet (fail)
    clear m2 m3
    replace HM := Lib.hid (HM.out.next (Mur.belowN (Below.refl _ _) nq))
    generalize w1.drewN nq = w2 at *
    have m4 := FZ.out
    have hbt := FB.out
    go_wp2_with ((first
      | ((with_reducible refine (RN1.out _).mono ?_); rintro e w ⟨rfl, hb⟩; replace HM := Lib.hid (HM.out.next hb); clear hb)
      | ((with_reducible refine (RN2.out _).mono ?_); rintro e w ⟨rfl, hb⟩; replace HM := Lib.hid (HM.out.next hb); clear hb)
      | ((refine Hold.build (t := 44) (parts := #[(0, .tmp 45)]) (cs := sayV Y) rfl rfl ?_ ?_); focus (simp [Act.eval, Act.put]; exact hbt))
      | ((with_reducible refine Hold.store HM.out 0 (v' := sayV Y) rfl rfl rfl rfl rfl (say_fits Y zeroX) (say_laid Y zeroX) (say_one Y) (sayRow Y) ?_); clear HM; intro w HM; simp only [List.set_cons_zero, List.set_cons_succ] at HM; replace HM := Lib.hid HM)))
    refine bodyPost_ret (Hold.resultsCT HM.out 0 rfl _ rfl rfl rfl (sayRow Y)) rfl ?_
    exact ⟨rfl, HM.out.below⟩
end Go.Proofs.YtedgpglldlohfaaDoor.Frl
