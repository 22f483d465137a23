/-
  Several texts as one (RCarM, RCarry, RProd, RSum). The plain mathematics of the document's Carry of layer 5: limbs carried side by side, three times, and reduced. Nothing here speaks of a program: no condition but those that each lemma names. The document's Carry of layer 5 answers the reduced limbs of the worth, and leaves all memory that was there as it was. Condition: words below 2^64. The document's Times, Scale, Square and Invert of layer 5 answer what the plain mathematics says, and leave all memory that was there as it was. Condition: words below 2^64. The document's Add, Sub and Swap of layer 5 answer what the plain mathematics says, and leave all memory that was there as it was. Conditions: words below 2^64, a bit that is no less than 0.
-/
import Derived.Test.YtolmfimpaofefaaGreatDoorRTimes
namespace Go.Proofs.YtolmfimpaofefaaGreatDoor.RefLimb
open Go.RowKit Mur Lanes Limb Hold
set_option maxRecDepth 100000

/-- What is carried over behind k limbs, and the limbs that remain. -/
def cc (X : List Nat) : Nat → Nat
  | 0 => 0
  | k + 1 => (X.getD k 0 + cc X k) / 2251799813685248
def carried (X : List Nat) : List Nat := (List.range 5).map fun k => (X.getD k 0 + cc X k) % 2251799813685248
theorem carried_at (X : List Nat) (k : Nat) (h : k < 5) : (carried X).getD k 0 = (X.getD k 0 + cc X k) % 2251799813685248 := by
  unfold carried
  simp [List.getD, h]
theorem carried_length (X : List Nat) : (carried X).length = 5 := rfl
def worL (X : List Nat) : Nat := wor (X.getD 0 0) (X.getD 1 0) (X.getD 2 0) (X.getD 3 0) (X.getD 4 0)
theorem carried_lim (X : List Nat) : carried X = lim (worL X) := by
  unfold worL
  rw [← carry_lim]
  show [(X.getD 0 0 + 0) % 2251799813685248, (X.getD 1 0 + (X.getD 0 0 + 0) / 2251799813685248) % 2251799813685248, _, _, _] = _
  rw [Nat.add_zero]
  rfl
theorem cc_over (X : List Nat) : cc X 5 = worL X / 57896044618658097711785492504343953926634992332820282019728792003956564819968 := by
  unfold worL
  rw [← over_eq]
  show (X.getD 4 0 + (X.getD 3 0 + (X.getD 2 0 + (X.getD 1 0 + (X.getD 0 0 + 0) / 2251799813685248) / 2251799813685248) / 2251799813685248) / 2251799813685248) / 2251799813685248 = _
  rw [Nat.add_zero]
/-- Limbs below 2^53. -/
def Big (X : List Nat) : Prop := X.length = 5 ∧ ∀ i, X.getD i 0 < 9007199254740992
theorem RoomL.big {X : List Nat} (h : RoomL X) : Big X := ⟨h.1, fun i => Nat.lt_trans (h.2 i) (by decide)⟩
theorem cc_le {X : List Nat} (h : Big X) (k : Nat) : cc X k ≤ 8 := by
  induction k with
  | zero => exact Nat.zero_le _
  | succ k ih =>
    have := h.2 k
    rw [cc]
    omega
theorem list_nat5 {X : List Nat} (h : X.length = 5) : X = [X.getD 0 0, X.getD 1 0, X.getD 2 0, X.getD 3 0, X.getD 4 0] := by
  match X, h with
  | [a, b, c, d, e], _ => rfl

theorem rnd_wor (W c : Nat) (hc : c = W / 57896044618658097711785492504343953926634992332820282019728792003956564819968) : wor (W % 2251799813685248 + 19 * c) (W / 2251799813685248 % 2251799813685248) (W / 5070602400912917605986812821504 % 2251799813685248) (W / 11417981541647679048466287755595961091061972992 % 2251799813685248) (W / 25711008708143844408671393477458601640355247900524685364822016 % 2251799813685248) + 57896044618658097711785492504343953926634992332820282019728792003956564819949 * c = W := by
  unfold wor
  omega
theorem worL_lt {X : List Nat} (h : RoomL X) : worL X < 2 * 57896044618658097711785492504343953926634992332820282019728792003956564819968 := by
  have h0 := h.2 0
  have h1 := h.2 1
  have h2 := h.2 2
  have h3 := h.2 3
  have h4 := h.2 4
  unfold worL
  generalize X.getD 0 0 = a at *
  generalize X.getD 1 0 = b at *
  generalize X.getD 2 0 = c at *
  generalize X.getD 3 0 = d at *
  generalize X.getD 4 0 = e at *
  unfold wor
  omega
/-- One round. -/
def rnd (X : List Nat) : List Nat := (carried X).set 0 ((carried X).getD 0 0 + 19 * cc X 5)
theorem rnd_ok {X : List Nat} (h : RoomL X) : RoomL (rnd X) ∧ worL (rnd X) % Prime.P = worL X % Prime.P := by
  have hlen : (rnd X).length = 5 := by unfold rnd; rw [List.length_set]; rfl
  have hW := worL_lt h
  have hc := cc_over X
  have hcar := carried_lim X
  have hget : ∀ i, i < 5 → (carried X).getD i 0 < 2251799813685248 := fun i hi => by
    rw [carried_at X i hi]
    exact Nat.mod_lt _ (by decide)
  have g : ∀ i, (rnd X).getD i 0 = if i = 0 then (carried X).getD 0 0 + 19 * cc X 5 else (carried X).getD i 0 := fun i => by
    unfold rnd
    by_cases e : i = 0
    · subst e
      rw [if_pos rfl]
      simp [List.getD, carried_length]
    · rw [if_neg e, List.getD, List.getElem?_set_ne (by omega), ← List.getD]
  refine ⟨⟨hlen, fun i => ?_⟩, ?_⟩
  · rw [g i]
    by_cases e : i = 0
    · rw [if_pos e]
      have := hget 0 (by decide)
      omega
    · rw [if_neg e]
      by_cases hi : i < 5
      · have := hget i hi
        omega
      · rw [List.getD, List.getElem?_eq_none (by rw [carried_length]; omega)]
        decide
  · have e0 : (rnd X).getD 0 0 = (carried X).getD 0 0 + 19 * cc X 5 := by rw [g 0, if_pos rfl]
    have e1 : (rnd X).getD 1 0 = (carried X).getD 1 0 := by rw [g 1, if_neg (by decide)]
    have e2 : (rnd X).getD 2 0 = (carried X).getD 2 0 := by rw [g 2, if_neg (by decide)]
    have e3 : (rnd X).getD 3 0 = (carried X).getD 3 0 := by rw [g 3, if_neg (by decide)]
    have e4 : (rnd X).getD 4 0 = (carried X).getD 4 0 := by rw [g 4, if_neg (by decide)]
    have hw : worL (rnd X) + Prime.P * cc X 5 = worL X := by
      rw [worL, e0, e1, e2, e3, e4, hcar, P_eq]
      unfold lim
      simp only [List.getD_cons_zero, List.getD_cons_succ]
      exact rnd_wor (worL X) (cc X 5) hc
    rw [← hw, Nat.add_mul_mod_self_left]

/-- What is above, reckoned limb by limb. -/
def qc (X : List Nat) : Nat → Nat
  | 0 => (X.getD 0 0 + 19) / 2251799813685248
  | k + 1 => (X.getD (k + 1) 0 + qc X k) / 2251799813685248
theorem qc_le {X : List Nat} (h : Big X) (k : Nat) : qc X k ≤ 8 := by
  induction k with
  | zero =>
    have := h.2 0
    rw [qc]
    omega
  | succ k ih =>
    have := h.2 (k + 1)
    rw [qc]
    omega
theorem last_ok {X : List Nat} (h : RoomL X) : Big (X.set 0 (X.getD 0 0 + 19 * qc X 4)) ∧ carried (X.set 0 (X.getD 0 0 + 19 * qc X 4)) = lim (worL X % Prime.P) := by
  have hq := qc_le h.big 4
  have hr : Limb.Roomy (X.getD 0 0) (X.getD 1 0) (X.getD 2 0) (X.getD 3 0) (X.getD 4 0) := ⟨h.2 0, h.2 1, h.2 2, h.2 3, h.2 4⟩
  have hred := reduce (q := qc X 4) hr rfl
  have g : ∀ i, (X.set 0 (X.getD 0 0 + 19 * qc X 4)).getD i 0 = if i = 0 then X.getD 0 0 + 19 * qc X 4 else X.getD i 0 := fun i => by
    by_cases e : i = 0
    · subst e
      rw [if_pos rfl]
      simp [List.getD, h.1]
    · rw [if_neg e, List.getD, List.getElem?_set_ne (by omega), ← List.getD]
  refine ⟨⟨by rw [List.length_set]; exact h.1, fun i => ?_⟩, ?_⟩
  · rw [g i]
    split
    · have := h.2 0
      omega
    · exact Nat.lt_trans (h.2 i) (by decide)
  · rw [carried_lim, worL, g 0, g 1, g 2, g 3, g 4, if_pos rfl, if_neg (by decide), if_neg (by decide), if_neg (by decide), if_neg (by decide), ← carry_lim]
    exact hred.2
end Go.Proofs.YtolmfimpaofefaaGreatDoor.RefLimb

namespace Go.Proofs.YtolmfimpaofefaaGreatDoor.RefLimb
open Go.RowKit Mur Lanes Limb Hold
set_option maxRecDepth 100000

/-- Limbs that have room. -/
def RoomV (Y : List Value) (M : Nat) : Prop := ∃ X : List Nat, Y = numsV X ∧ RoomL X ∧ worL X = M
theorem RoomV.len {Y : List Value} {M : Nat} (h : RoomV Y M) : Y.length = 5 := by
  obtain ⟨X, rfl, h, -⟩ := h
  rw [numsV_length, h.1]
theorem single_nums (X : List Nat) : Single (numsV X) := by
  unfold Single numsV
  simp [Value.oneCell']
theorem single_limL (n : Nat) : Single (limL n) := single_nums _
theorem RoomV.one {Y : List Value} {M : Nat} (h : RoomV Y M) : Single Y := by
  obtain ⟨X, rfl, -, -⟩ := h
  exact single_nums X
theorem RoomV.limL {Y : List Value} {M : Nat} (h : RoomV Y M) : LimL Y M := by
  obtain ⟨X, rfl, h, rfl⟩ := h
  have e := list_nat5 h.1
  have h0 := h.2 0
  have h1 := h.2 1
  have h2 := h.2 2
  have h3 := h.2 3
  have h4 := h.2 4
  unfold worL
  generalize X.getD 0 0 = a at *
  generalize X.getD 1 0 = b at *
  generalize X.getD 2 0 = c at *
  generalize X.getD 3 0 = d at *
  generalize X.getD 4 0 = f at *
  rw [e]
  exact LimL.ofFive (a := a) (b := b) (c := c) (d := d) (e := f) (by unfold Words5; omega)
theorem room_five {a b c d e : Nat} (h : Limb.Roomy a b c d e) : RoomV (fiveL a b c d e) (wor a b c d e) := by
  obtain ⟨h0, h1, h2, h3, h4⟩ := h
  refine ⟨[a, b, c, d, e], rfl, ⟨rfl, fun i => ?_⟩, rfl⟩
  match i with
  | 0 => exact h0
  | 1 => exact h1
  | 2 => exact h2
  | 3 => exact h3
  | 4 => exact h4
  | i + 5 => exact (by decide : (0 : Nat) < 2251799813947392)
theorem small_l {X : List Value} {N : Nat} (h : LimL X N) : ∃ Y M, RoomV Y M ∧ M % Prime.P = N % Prime.P ∧ ∀ u, Calls Tryz.prog 141 #[.agg X.toArray] u fun r w' => r = .returned (.agg Y.toArray) ∧ Below u.heap.size u w' := by
  obtain ⟨a, b, c, d, e, rfl, hw, rfl⟩ := h.out
  exact ⟨_, _, room_five (eased_roomy hw), eased_mod a b c d e, fun u => small_any a b c d e u hw⟩
theorem times_l {X Y : List Value} {N M : Nat} (h : RoomV X N) (h' : RoomV Y M) : ∃ Z K, RoomV Z K ∧ K % Prime.P = N * M % Prime.P ∧ ∀ u, Calls Tryz.prog 146 #[.agg X.toArray, .agg Y.toArray] u fun r w' => r = .returned (.agg Z.toArray) ∧ Below u.heap.size u w' := by
  obtain ⟨A, rfl, ha, rfl⟩ := h
  obtain ⟨B, rfl, hb, rfl⟩ := h'
  have hc := car_le ha hb 5
  have hw := times_wor (A.getD 0 0) (A.getD 1 0) (A.getD 2 0) (A.getD 3 0) (A.getD 4 0) (B.getD 0 0) (B.getD 1 0) (B.getD 2 0) (B.getD 3 0) (B.getD 4 0)
  rw [← list_nat5 ha.1, ← list_nat5 hb.1] at hw
  change _ = worL A * worL B % Prime.P at hw
  have ho : ∀ i, i < 5 → (outL A B).getD i 0 < 2251799813685248 := fun i hi => by rw [outL_at _ _ _ hi]; exact Nat.mod_lt _ (by decide)
  have h5 : ((outL A B).set 0 ((outL A B).getD 0 0 + 19 * car A B 5)) = [(outL A B).getD 0 0 + 19 * car A B 5, (outL A B).getD 1 0, (outL A B).getD 2 0, (outL A B).getD 3 0, (outL A B).getD 4 0] := by
    have e := list_nat5 (X := outL A B) rfl
    conv => lhs; rw [e]
    rfl
  have o0 := ho 0 (by decide)
  have o1 := ho 1 (by decide)
  have o2 := ho 2 (by decide)
  have o3 := ho 3 (by decide)
  have o4 := ho 4 (by decide)
  obtain ⟨Z, K, hZ, hK, hR⟩ := small_l (LimL.ofFive (a := (outL A B).getD 0 0 + 19 * car A B 5) (b := (outL A B).getD 1 0) (c := (outL A B).getD 2 0) (d := (outL A B).getD 3 0) (e := (outL A B).getD 4 0) (by unfold Words5; omega))
  refine ⟨Z, K, hZ, hK.trans hw, fun u => ?_⟩
  refine times_list A B Z u ha hb ⟨hZ.len, hZ.one⟩ ?_
  rw [h5]
  exact hR

set_option maxHeartbeats 6400000 in
theorem carry_l {V : List Value} {N : Nat} (hV : LimL V N) (w0 : World) :
    Calls Tryz.prog 108 #[.agg V.toArray] w0 fun r w' => r = .returned (.agg (limL (N % Prime.P)).toArray) ∧ Below w0.heap.size w0 w' := by
  obtain ⟨Y, M, hY, hM, r1⟩ := small_l hV
  obtain ⟨X0, rfl, hX0, rfl⟩ := hY
  rw [← hM]
  obtain ⟨R, hR⟩ : ∃ R, R = worL X0 % Prime.P := ⟨_, rfl⟩
  rw [← hR]
  have R1 := Lib.hid r1
  have HV := Lib.hid (show V.length = 5 ∧ Single V from ⟨hV.len, hV.one⟩)
  have HX0 := Lib.hid hX0
  have HR := Lib.hid hR
  have HL0 := Lib.hid (show (numsV X0).length = 5 by rw [numsV_length, hX0.1])
  have HM := Lib.hid (Hld.start w0)
  clear hV hM hX0 r1 hR
  go_enter Tryz.func108, Tryz.ntmps108
  go_upto_region 2 with ((first
    | (with_reducible refine Hold.box HM.out rfl rfl rfl ?_; clear HM; intro bx w HM; simp only [List.nil_append] at HM; replace HM := Lib.hid HM)
    | (with_reducible refine Hold.alloc HM.out rfl rfl zeros5 zero_limbs5 ?_; clear HM; intro br w HM; simp only [List.nil_append, List.cons_append] at HM; replace HM := Lib.hid HM)
    | (with_reducible refine Hold.load HM.out 0 (cs := V) rfl rfl rfl rfl (Part.all _) (by rw [HV.out.1]; exact row_limbs) ?_)
    | (with_reducible refine (R1.out _).mono ?_; rintro e w ⟨rfl, hb⟩; replace HM := Lib.hid (HM.out.next hb); clear hb)
    | (with_reducible refine Hold.store HM.out 0 (v' := numsV X0) rfl rfl rfl rfl rfl (by rw [Nat.zero_add, HL0.out, HV.out.1]; exact Nat.le_refl _) (lay_all (HV.out.1.trans HL0.out.symm)) (single_nums _) (by rw [HL0.out]; exact row_limbs) ?_; clear HM; intro w HM; simp only [List.set_cons_zero] at HM; replace HM := Lib.hid HM)))
  go_wp2
  go_loopw [3, 4, 11] (fun _ _ i wr => ∃ n : Nat, n ≤ 3 ∧ i = .int .i64 n ∧ ∃ X : List Nat, RoomL X ∧ worL X % Prime.P = R ∧ Hld w0 [⟨bx, 69, numsV X⟩, ⟨br, 69, zeros5⟩] wr) (fun _ _ i _ => 3 - (intOf i).toNat)
  case atStart => exact ⟨0, by omega, rfl, X0, HX0.out, HR.out.symm, HM.out⟩
  case round =>
    obtain ⟨n, hn3, rfl, X, hX, hXR, hm⟩ := hrel
    clear HM HX0 HL0 HV R1 HR
    have HM := Lib.hid hm
    have HB := Lib.hid hX.big
    have HX := Lib.hid hX
    have HXR := Lib.hid hXR
    clear hm hX hXR
    by_cases hlt : n < 3
    · have hd2 : decide ((n : Int) < 3) = true := by simp; omega
      go_upto_region 4 with (fail)
      go_wp2
      go_loopw [3, 4, 13] (fun c _ j w' => ∃ k : Nat, k ≤ 5 ∧ j = .int .i64 k ∧ c = .int .u64 ((cc X k : Nat) : Int) ∧ Hld w0 [⟨bx, 69, numsV (mixTo X (carried X) k)⟩, ⟨br, 69, zeros5⟩] w') (fun _ _ j _ => 5 - (intOf j).toNat)
      case atStart => exact ⟨0, by omega, rfl, rfl, HM.out⟩
      case round =>
        obtain ⟨k, hk5, rfl, rfl, hm⟩ := hrel
        clear HM
        have HM := Lib.hid hm
        clear hm
        by_cases hlk : k < 5
        · have hd3 : decide ((k : Int) < 5) = true := by simp; omega
          have ik : (k : Int) < 5 := by omega
          have lX : k < (mixTo X (carried X) k).length := by rw [mixTo_length, HB.out.1]; exact hlk
          have gX : (mixTo X (carried X) k).getD k 0 = X.getD k 0 := by rw [mixTo_get X (carried X) k k (by rw [HB.out.1]; exact hlk), if_neg (by omega)]
          have hxb := HB.out.2 k
          have hcb := cc_le HB.out k
          have hnx : mixTo X (carried X) (k + 1) = (mixTo X (carried X) k).set k ((X.getD k 0 + cc X k) % 2251799813685248) := by rw [← carried_at X k hlk]; rfl
          have hcn : cc X (k + 1) = (X.getD k 0 + cc X k) / 2251799813685248 := rfl
          have hm := HM.out
          clear HM
          generalize mixTo X (carried X) k = M at *
          have gM := nums_get lX
          rw [gX] at gM
          obtain ⟨x, hx⟩ : ∃ x, x = X.getD k 0 := ⟨_, rfl⟩
          obtain ⟨c, hc⟩ : ∃ x, x = cc X k := ⟨_, rfl⟩
          rw [← hx] at gM hxb hnx hcn
          rw [← hc] at hcb hnx hcn
          rw [← hc]
          obtain ⟨s, hs⟩ : ∃ s, s = x + c := ⟨_, rfl⟩
          obtain ⟨m, hmm⟩ : ∃ m, m = s % 2251799813685248 := ⟨_, rfl⟩
          obtain ⟨d, hd⟩ : ∃ d, d = s / 2251799813685248 := ⟨_, rfl⟩
          rw [← hs, ← hmm] at hnx
          rw [← hs, ← hd] at hcn
          have e1 : IntKind.u64.wrap ((x : Int) + (c : Int)) = (s : Int) := by rw [addN, wrapN _ (by omega), hs]
          have e2 : (s : Int) / 2251799813685248 = (d : Int) := by omega
          have e3 : bits .and .u64 (s : Int) 2251799813685247 = (m : Int) := by rw [mask51 _ (by omega), hmm]
          have lV : k < (numsV M).length := by rw [numsV_length]; exact lX
          have gs : (numsV (M.set k s))[k]? = some (.int .u64 (s : Int)) := by
            rw [nums_get (by rw [List.length_set]; exact lX)]
            simp [List.getD, lX]
          have hs1 : (numsV M).set k (.int .u64 (s : Int)) = numsV (M.set k s) := numsV_set M k s
          have hs2 : (numsV (M.set k s)).set k (.int .u64 (m : Int)) = numsV (mixTo X (carried X) (k + 1)) := by rw [numsV_set, List.set_set, hnx]
          have lV2 : k < (numsV (M.set k s)).length := by rw [numsV_length, List.length_set]; exact lX
          have HM := Lib.hid hm
          have GM := Lib.hid gM
          have GS := Lib.hid gs
          have E1 := Lib.hid e1
          have E2 := Lib.hid e2
          have E3 := Lib.hid e3
          have LV := Lib.hid lV
          have LV2 := Lib.hid lV2
          have HS1 := Lib.hid hs1
          have HS2 := Lib.hid hs2
          have HCN := Lib.hid hcn
          clear hm gM gs e1 e2 e3 lV lV2 hs1 hs2 hcn hnx lX gX hx hc hs hmm hd hxb hcb
          go_upto_region 8 with (fail)
          have e1 := E1.out
          go_upto_region 9 with ((first
            | (with_reducible refine Hold.load1 HM.out 0 (c := .int .u64 (x : Int)) rfl rfl rfl rfl (GM.out) (cell_u64) ?_)
            | (with_reducible refine Hold.store1 HM.out 0 (c := .int .u64 (s : Int)) (v' := numsV (M.set k s)) rfl rfl rfl rfl rfl (LV.out) (HS1.out) (Hold.cell_int _ _) (cell_u64) ?_; clear HM; intro w HM; simp only [List.set_cons_zero] at HM; replace HM := Lib.hid HM)))
          clear e1
          have e2 := E2.out
          go_upto_region 10 with ((first
            | (with_reducible refine Hold.load1 HM.out 0 (c := .int .u64 (s : Int)) rfl rfl rfl rfl (GS.out) (cell_u64) ?_)))
          clear e2
          have e3 := E3.out
          go_upto_region 11 with ((first
            | (with_reducible refine Hold.load1 HM.out 0 (c := .int .u64 (s : Int)) rfl rfl rfl rfl (GS.out) (cell_u64) ?_)
            | (with_reducible refine Hold.store1 HM.out 0 (c := .int .u64 (m : Int)) (v' := numsV (mixTo X (carried X) (k + 1))) rfl rfl rfl rfl rfl (LV2.out) (HS2.out) (Hold.cell_int _ _) (cell_u64) ?_; clear HM; intro w HM; simp only [List.set_cons_zero] at HM; replace HM := Lib.hid HM)))
          clear e3
          go_wp2
          go_roundw
          case rel => exact ⟨k + 1, by omega, by go_num, by rw [HCN.out], HM.out⟩
          case measure => simp [intOf]; omega
        · have hd3 : decide ((k : Int) < 5) = false := by simp; omega
          obtain rfl : k = 5 := by omega
          have hm := HM.out
          clear HM
          rw [mixTo_end HB.out.1 rfl] at hm
          have hok := rnd_ok HX.out
          have hcl : (carried X).getD 0 0 < 2251799813685248 := by rw [carried_at _ _ (by decide)]; exact Nat.mod_lt _ (by decide)
          have hcb := cc_le HB.out 5
          have hrn : rnd X = (carried X).set 0 ((carried X).getD 0 0 + 19 * cc X 5) := rfl
          have hlen := carried_length X
          generalize carried X = Y at *
          obtain ⟨c, hc⟩ : ∃ x, x = cc X 5 := ⟨_, rfl⟩
          rw [← hc] at hcb hrn
          rw [← hc]
          obtain ⟨y, hy⟩ : ∃ x, x = Y.getD 0 0 := ⟨_, rfl⟩
          rw [← hy] at hcl hrn
          obtain ⟨z, hz⟩ : ∃ x, x = 19 * c := ⟨_, rfl⟩
          obtain ⟨v, hv⟩ : ∃ x, x = y + z := ⟨_, rfl⟩
          rw [← hz, ← hv] at hrn
          have e1 : IntKind.u64.wrap (19 * (c : Int)) = (z : Int) := by rw [mul19', wrapN _ (by omega), hz]
          have e2 : IntKind.u64.wrap ((y : Int) + (z : Int)) = (v : Int) := by rw [addN, wrapN _ (by omega), hv]
          have gy : (numsV Y)[0]? = some (.int .u64 (y : Int)) := by rw [hy]; exact nums_get (by rw [hlen]; decide)
          have hs : (numsV Y).set 0 (.int .u64 (v : Int)) = numsV (rnd X) := by rw [numsV_set, hrn]
          have lY : 0 < (numsV Y).length := by rw [numsV_length, hlen]; decide
          have HM := Lib.hid hm
          have GY := Lib.hid gy
          have HS := Lib.hid hs
          have LY := Lib.hid lY
          have HOK := Lib.hid (show RoomL (rnd X) ∧ worL (rnd X) % Prime.P = R from ⟨hok.1, hok.2.trans HXR.out⟩)
          clear hm hok hcl hcb hrn hlen hc hy hz hv gy hs lY
          go_upto_region 13 with ((first
            | (with_reducible refine Hold.load1 HM.out 0 (c := .int .u64 (y : Int)) rfl rfl rfl rfl (GY.out) (cell_u64) ?_)
            | (with_reducible refine Hold.store1 HM.out 0 (c := .int .u64 (v : Int)) (v' := numsV (rnd X)) rfl rfl rfl rfl rfl (LY.out) (HS.out) (Hold.cell_int _ _) (cell_u64) ?_; clear HM; intro w HM; simp only [List.set_cons_zero] at HM; replace HM := Lib.hid HM)))
          clear e1 e2
          go_wp2
          go_roundw
          case rel => exact ⟨n + 1, by omega, by go_num, rnd X, HOK.out.1, HOK.out.2, HM.out⟩
          case measure => simp [intOf]; omega
    · have hd2 : decide ((n : Int) < 3) = false := by simp; omega
      obtain rfl : n = 3 := by omega
      have hlast := last_ok HX.out
      have hlen := HX.out.1
      have hbig := HB.out
      obtain ⟨x0, hx0⟩ : ∃ x, x = X.getD 0 0 := ⟨_, rfl⟩
      have hx0l := hbig.2 0
      rw [← hx0] at hx0l
      have hq0 : qc X 0 = (x0 + 19) / 2251799813685248 := by rw [hx0]; rfl
      obtain ⟨q0, hq0e⟩ : ∃ q, q = qc X 0 := ⟨_, rfl⟩
      rw [← hq0e] at hq0
      have e1 : IntKind.u64.wrap ((x0 : Int) + 19) = (x0 : Int) + 19 := by rw [add19, wrapN _ (by omega)]
      have e2 : ((x0 : Int) + 19) / 2251799813685248 = (q0 : Int) := by omega
      have g0 : (numsV X)[0]? = some (.int .u64 (x0 : Int)) := by rw [hx0]; exact nums_get (by rw [hlen]; decide)
      have HLAST := Lib.hid hlast
      have HLEN := Lib.hid hlen
      have HX0 := Lib.hid hx0
      have HQ0 := Lib.hid hq0e
      have G0 := Lib.hid g0
      clear hlast hlen hbig hx0 hq0 hq0e hx0l g0
      go_upto_region 15 with ((first
        | (with_reducible refine Hold.load1 HM.out 0 (c := .int .u64 (x0 : Int)) rfl rfl rfl rfl (G0.out) (cell_u64) ?_)))
      clear e1 e2
      go_wp2
      go_loopw [5, 6] (fun q i w' => ∃ k : Nat, 1 ≤ k ∧ k ≤ 5 ∧ i = .int .i64 k ∧ q = .int .u64 ((qc X (k - 1) : Nat) : Int) ∧ Hld w0 [⟨bx, 69, numsV X⟩, ⟨br, 69, zeros5⟩] w') (fun _ i _ => 5 - (intOf i).toNat)
      case atStart => exact ⟨1, by omega, by omega, rfl, by rw [HQ0.out], HM.out⟩
      case round =>
        obtain ⟨k, hk1, hk5, rfl, rfl, hm⟩ := hrel
        clear HM
        have HM := Lib.hid hm
        clear hm
        by_cases hlk : k < 5
        · have hd3 : decide ((k : Int) < 5) = true := by simp; omega
          have ik : (k : Int) < 5 := by omega
          have gx := nums_get (X := X) (i := k) (by rw [HLEN.out]; exact hlk)
          have hxb := HB.out.2 k
          have hqb := qc_le HB.out (k - 1)
          have hqn : qc X (k + 1 - 1) = (X.getD k 0 + qc X (k - 1)) / 2251799813685248 := by
            obtain ⟨j, rfl⟩ : ∃ j, k = j + 1 := ⟨k - 1, by omega⟩
            rfl
          obtain ⟨x, hx⟩ : ∃ x, x = X.getD k 0 := ⟨_, rfl⟩
          obtain ⟨q, hq⟩ : ∃ x, x = qc X (k - 1) := ⟨_, rfl⟩
          rw [← hx] at gx hxb hqn
          rw [← hq] at hqb hqn
          rw [← hq]
          obtain ⟨d, hd⟩ : ∃ d, d = (x + q) / 2251799813685248 := ⟨_, rfl⟩
          rw [← hd] at hqn
          have e1 : IntKind.u64.wrap ((x : Int) + (q : Int)) = (x : Int) + (q : Int) := by rw [addN, wrapN _ (by omega)]
          have e2 : ((x : Int) + (q : Int)) / 2251799813685248 = (d : Int) := by omega
          have GX := Lib.hid gx
          have HQN := Lib.hid hqn
          clear gx hqn hx hq hd hxb hqb
          go_upto_region 17 with ((first
            | (with_reducible refine Hold.load1 HM.out 0 (c := .int .u64 (x : Int)) rfl rfl rfl rfl (GX.out) (cell_u64) ?_)))
          clear e1 e2
          go_wp2
          go_roundw
          case rel => exact ⟨k + 1, by omega, by omega, by go_num, by rw [HQN.out], HM.out⟩
          case measure => simp [intOf]; omega
        · have hd3 : decide ((k : Int) < 5) = false := by simp; omega
          obtain rfl : k = 5 := by omega
          have hlast := HLAST.out
          rw [← HX0.out] at hlast
          have hqb := qc_le HB.out 4
          have hx0l := HB.out.2 0
          rw [← HX0.out] at hx0l
          obtain ⟨q, hq⟩ : ∃ x, x = qc X (5 - 1) := ⟨_, rfl⟩
          rw [show qc X 4 = q from hq.symm] at hlast hqb
          rw [← hq]
          obtain ⟨z, hz⟩ : ∃ x, x = 19 * q := ⟨_, rfl⟩
          obtain ⟨v, hv⟩ : ∃ x, x = x0 + z := ⟨_, rfl⟩
          rw [← hz, ← hv] at hlast
          have e1 : IntKind.u64.wrap (19 * (q : Int)) = (z : Int) := by rw [mul19', wrapN _ (by omega), hz]
          have e2 : IntKind.u64.wrap ((x0 : Int) + (z : Int)) = (v : Int) := by rw [addN, wrapN _ (by omega), hv]
          obtain ⟨X2, hX2⟩ : ∃ X2, X2 = X.set 0 v := ⟨_, rfl⟩
          rw [← hX2] at hlast
          have hs : (numsV X).set 0 (.int .u64 (v : Int)) = numsV X2 := by rw [numsV_set, hX2]
          have lX : 0 < (numsV X).length := by rw [numsV_length, HLEN.out]; decide
          have HS := Lib.hid hs
          have LX := Lib.hid lX
          have HB2 := Lib.hid hlast.1
          have HC2 := Lib.hid (show carried X2 = lim R by rw [hlast.2, HXR.out])
          clear hs lX hlast hX2 hz hv hq hqb hx0l
          go_upto_region 20 with ((first
            | (with_reducible refine Hold.load1 HM.out 0 (c := .int .u64 (x0 : Int)) rfl rfl rfl rfl (G0.out) (cell_u64) ?_)
            | (with_reducible refine Hold.store1 HM.out 0 (c := .int .u64 (v : Int)) (v' := numsV X2) rfl rfl rfl rfl rfl (LX.out) (HS.out) (Hold.cell_int _ _) (cell_u64) ?_; clear HM; intro w HM; simp only [List.set_cons_zero] at HM; replace HM := Lib.hid HM)))
          clear e1 e2
          go_wp2
          go_loopw [7, 8, 59] (fun c _ j w' => ∃ k : Nat, k ≤ 5 ∧ j = .int .i64 k ∧ c = .int .u64 ((cc X2 k : Nat) : Int) ∧ Hld w0 [⟨bx, 69, numsV (mixTo X2 (carried X2) k)⟩, ⟨br, 69, zeros5⟩] w') (fun _ _ j _ => 5 - (intOf j).toNat)
          case atStart => exact ⟨0, by omega, rfl, rfl, HM.out⟩
          case round =>
            obtain ⟨k, hk5, rfl, rfl, hm⟩ := hrel
            clear HM
            have HM := Lib.hid hm
            clear hm
            by_cases hlk : k < 5
            · have hd3 : decide ((k : Int) < 5) = true := by simp; omega
              have ik : (k : Int) < 5 := by omega
              have lX : k < (mixTo X2 (carried X2) k).length := by rw [mixTo_length, HB2.out.1]; exact hlk
              have gX : (mixTo X2 (carried X2) k).getD k 0 = X2.getD k 0 := by rw [mixTo_get X2 (carried X2) k k (by rw [HB2.out.1]; exact hlk), if_neg (by omega)]
              have hxb := HB2.out.2 k
              have hcb := cc_le HB2.out k
              have hnx : mixTo X2 (carried X2) (k + 1) = (mixTo X2 (carried X2) k).set k ((X2.getD k 0 + cc X2 k) % 2251799813685248) := by rw [← carried_at X2 k hlk]; rfl
              have hcn : cc X2 (k + 1) = (X2.getD k 0 + cc X2 k) / 2251799813685248 := rfl
              have hm := HM.out
              clear HM
              generalize mixTo X2 (carried X2) k = M at *
              have gM := nums_get lX
              rw [gX] at gM
              obtain ⟨x, hx⟩ : ∃ x, x = X2.getD k 0 := ⟨_, rfl⟩
              obtain ⟨c, hc⟩ : ∃ x, x = cc X2 k := ⟨_, rfl⟩
              rw [← hx] at gM hxb hnx hcn
              rw [← hc] at hcb hnx hcn
              rw [← hc]
              obtain ⟨s, hs⟩ : ∃ s, s = x + c := ⟨_, rfl⟩
              obtain ⟨m, hmm⟩ : ∃ m, m = s % 2251799813685248 := ⟨_, rfl⟩
              obtain ⟨d, hd⟩ : ∃ d, d = s / 2251799813685248 := ⟨_, rfl⟩
              rw [← hs, ← hmm] at hnx
              rw [← hs, ← hd] at hcn
              have e1 : IntKind.u64.wrap ((x : Int) + (c : Int)) = (s : Int) := by rw [addN, wrapN _ (by omega), hs]
              have e2 : (s : Int) / 2251799813685248 = (d : Int) := by omega
              have e3 : bits .and .u64 (s : Int) 2251799813685247 = (m : Int) := by rw [mask51 _ (by omega), hmm]
              have lV : k < (numsV M).length := by rw [numsV_length]; exact lX
              have gs : (numsV (M.set k s))[k]? = some (.int .u64 (s : Int)) := by
                rw [nums_get (by rw [List.length_set]; exact lX)]
                simp [List.getD, lX]
              have hs1 : (numsV M).set k (.int .u64 (s : Int)) = numsV (M.set k s) := numsV_set M k s
              have hs2 : (numsV (M.set k s)).set k (.int .u64 (m : Int)) = numsV (mixTo X2 (carried X2) (k + 1)) := by rw [numsV_set, List.set_set, hnx]
              have lV2 : k < (numsV (M.set k s)).length := by rw [numsV_length, List.length_set]; exact lX
              have HM := Lib.hid hm
              have GM := Lib.hid gM
              have GS := Lib.hid gs
              have E1 := Lib.hid e1
              have E2 := Lib.hid e2
              have E3 := Lib.hid e3
              have LV := Lib.hid lV
              have LV2 := Lib.hid lV2
              have HS1 := Lib.hid hs1
              have HS2 := Lib.hid hs2
              have HCN := Lib.hid hcn
              clear hm gM gs e1 e2 e3 lV lV2 hs1 hs2 hcn hnx lX gX hx hc hs hmm hd hxb hcb
              go_upto_region 24 with (fail)
              have e1 := E1.out
              go_upto_region 25 with ((first
                | (with_reducible refine Hold.load1 HM.out 0 (c := .int .u64 (x : Int)) rfl rfl rfl rfl (GM.out) (cell_u64) ?_)
                | (with_reducible refine Hold.store1 HM.out 0 (c := .int .u64 (s : Int)) (v' := numsV (M.set k s)) rfl rfl rfl rfl rfl (LV.out) (HS1.out) (Hold.cell_int _ _) (cell_u64) ?_; clear HM; intro w HM; simp only [List.set_cons_zero] at HM; replace HM := Lib.hid HM)))
              clear e1
              have e2 := E2.out
              go_upto_region 26 with ((first
                | (with_reducible refine Hold.load1 HM.out 0 (c := .int .u64 (s : Int)) rfl rfl rfl rfl (GS.out) (cell_u64) ?_)))
              clear e2
              have e3 := E3.out
              go_upto_region 27 with ((first
                | (with_reducible refine Hold.load1 HM.out 0 (c := .int .u64 (s : Int)) rfl rfl rfl rfl (GS.out) (cell_u64) ?_)
                | (with_reducible refine Hold.store1 HM.out 0 (c := .int .u64 (m : Int)) (v' := numsV (mixTo X2 (carried X2) (k + 1))) rfl rfl rfl rfl rfl (LV2.out) (HS2.out) (Hold.cell_int _ _) (cell_u64) ?_; clear HM; intro w HM; simp only [List.set_cons_zero] at HM; replace HM := Lib.hid HM)))
              clear e3
              go_wp2
              go_roundw
              case rel => exact ⟨k + 1, by omega, by go_num, by rw [HCN.out], HM.out⟩
              case measure => simp [intOf]; omega
            · have hd3 : decide ((k : Int) < 5) = false := by simp; omega
              obtain rfl : k = 5 := by omega
              have hm := HM.out
              clear HM
              rw [mixTo_end HB2.out.1 rfl] at hm
              rw [HC2.out] at hm
              have HM := Lib.hid (show Hld w0 [⟨bx, 69, limL R⟩, ⟨br, 69, zeros5⟩] _ from hm)
              have hl : (limL R).length = 5 := rfl
              have HL := Lib.hid hl
              clear hm hl
              go_wp2_with ((first
                | (with_reducible refine Hold.load HM.out 0 (cs := limL R) rfl rfl rfl rfl (Part.all _) (by rw [HL.out]; exact row_limbs) ?_)
                | (with_reducible refine Hold.store HM.out 1 (v' := limL R) rfl rfl rfl rfl rfl (by rw [Nat.zero_add, HL.out, zeros5_length]; exact Nat.le_refl _) (lay_all (zeros5_length.trans HL.out.symm)) (single_limL _) (by rw [HL.out]; exact row_limbs) ?_; clear HM; intro w HM; simp only [List.set_cons_zero, List.set_cons_succ] at HM; replace HM := Lib.hid HM)))
              exact bodyPost_ret (Hold.results1 HM.out 1 rfl _ rfl rfl (by rw [HL.out]; exact row_limbs)) rfl ⟨rfl, HM.out.below⟩
end Go.Proofs.YtolmfimpaofefaaGreatDoor.RefLimb

namespace Go.Proofs.YtolmfimpaofefaaGreatDoor.RefLimb
open Go.RowKit Mur Lanes Limb Hold
set_option maxRecDepth 100000

set_option maxHeartbeats 1600000 in
theorem prod_l {X Y : List Value} {N M : Nat} (hX : LimL X N) (hY : LimL Y M) (w0 : World) :
    Calls Tryz.prog 112 #[.agg X.toArray, .agg Y.toArray] w0 fun r w' => r = .returned (.agg (limL (N * M % Prime.P)).toArray) ∧ Below w0.heap.size w0 w' := by
  obtain ⟨A, K, hA, kA, ra⟩ := small_l hX
  obtain ⟨B, J, hB, jB, rb⟩ := small_l hY
  obtain ⟨C, I, hC, iC, rc⟩ := times_l hA hB
  have rd := fun u => carry_l hC.limL u
  have e : I % Prime.P = N * M % Prime.P := by rw [iC, Nat.mul_mod, kA, jB, ← Nat.mul_mod]
  rw [e] at rd
  obtain ⟨Z, hZ, lZ⟩ : ∃ Z, Z = limL (N * M % Prime.P) ∧ LimL Z (N * M % Prime.P) := ⟨_, rfl, LimL.ofMod _⟩
  rw [← hZ] at rd ⊢
  have RA := Lib.hid ra
  have RB := Lib.hid rb
  have RC := Lib.hid rc
  have RD := Lib.hid rd
  have HX := Lib.hid (show X.length = 5 ∧ Single X from ⟨hX.len, hX.one⟩)
  have HY := Lib.hid (show Y.length = 5 ∧ Single Y from ⟨hY.len, hY.one⟩)
  have HZ := Lib.hid (show Z.length = 5 ∧ Single Z from ⟨lZ.len, lZ.one⟩)
  have HM := Lib.hid (Hld.start w0)
  clear hA kA ra hB jB rb hC iC rc rd e hZ lZ hX hY
  go_enter Tryz.func112, Tryz.ntmps112
  go_upto_region 1 with ((first
    | (with_reducible refine Hold.box (m := []) HM.out rfl rfl rfl ?_; clear HM; intro b0 w HM; simp only [List.nil_append] at HM; replace HM := Lib.hid HM)
    | (with_reducible refine Hold.box (m := [_]) HM.out rfl rfl rfl ?_; clear HM; intro b1 w HM; simp only [List.nil_append, List.cons_append] at HM; replace HM := Lib.hid HM)
    | (with_reducible refine Hold.alloc HM.out rfl rfl zeros5 zero_limbs5 ?_; clear HM; intro br w HM; simp only [List.nil_append, List.cons_append] at HM; replace HM := Lib.hid HM)))
  refine Steady.region 6 (by kernel_rfl) (by kernel_rfl) (fun u => Hld _ _ u) HM.out.drew ?_
  simp only [List.take_succ_cons, List.take_zero, List.drop_succ_cons, List.drop_zero]
  refine Steady.take (.agg (X).toArray) rfl (fun u hu => Hold.load_run hu 0 rfl rfl rfl (Part.all _) (by rw [HX.out.1]; exact row_limbs)) ?_
  simp only [Act.put, List.setIfInBounds_toArray, List.set_cons_zero, List.set_cons_succ]
  refine Steady.call _ _ _ rfl ?_ (Hold.kept RA.out) ?_
  · intro u
    go_simp
  simp only [Act.put, List.setIfInBounds_toArray, List.set_cons_zero, List.set_cons_succ]
  refine Steady.take (.agg (Y).toArray) rfl (fun u hu => Hold.load_run hu 1 rfl rfl rfl (Part.all _) (by rw [HY.out.1]; exact row_limbs)) ?_
  simp only [Act.put, List.setIfInBounds_toArray, List.set_cons_zero, List.set_cons_succ]
  refine Steady.call _ _ _ rfl ?_ (Hold.kept RB.out) ?_
  · intro u
    go_simp
  simp only [Act.put, List.setIfInBounds_toArray, List.set_cons_zero, List.set_cons_succ]
  refine Steady.call _ _ _ rfl ?_ (Hold.kept RC.out) ?_
  · intro u
    go_simp
  simp only [Act.put, List.setIfInBounds_toArray, List.set_cons_zero, List.set_cons_succ]
  refine Steady.call _ _ _ rfl ?_ (Hold.kept RD.out) ?_
  · intro u
    go_simp
  simp only [Act.put, List.setIfInBounds_toArray, List.set_cons_zero, List.set_cons_succ]
  refine Steady.nil ?_
  clear HM
  intro w HM
  replace HM := Lib.hid HM
  go_wp2_with ((first
    | (with_reducible refine Hold.store HM.out 2 (v' := Z) rfl rfl rfl rfl rfl (by simp [HZ.out.1, zeros5_length]) (lay_all (by simp [HZ.out.1, zeros5_length])) (HZ.out.2) (by rw [HZ.out.1]; exact row_limbs) ?_; clear HM; intro w HM; simp only [List.set_cons_zero, List.set_cons_succ] at HM; replace HM := Lib.hid HM)))
  exact bodyPost_ret (Hold.results1 HM.out 2 rfl _ rfl rfl (by rw [HZ.out.1]; exact row_limbs)) rfl ⟨rfl, HM.out.below⟩

theorem built_two (x y : Int) : Tryz.prog.built 69 [(0, .int .u64 x), (1, .int .u64 y)] = some #[.int .u64 x, .int .u64 y, .int .u64 0, .int .u64 0, .int .u64 0] := by kernel_rfl
set_option maxHeartbeats 1600000 in
theorem scaled_l {X : List Value} {N n : Nat} (hX : LimL X N) (hn : n < 18446744073709551616) (w0 : World) :
    Calls Tryz.prog 145 #[.agg X.toArray, .int .u64 n] w0 fun r w' => r = .returned (.agg (limL (N * n % Prime.P)).toArray) ∧ Below w0.heap.size w0 w' := by
  obtain ⟨lo, hlo⟩ : ∃ x, x = n % 2251799813685248 := ⟨_, rfl⟩
  obtain ⟨hh, hhh⟩ : ∃ x, x = n / 2251799813685248 := ⟨_, rfl⟩
  have e1 : bits .and .u64 (n : Int) 2251799813685247 = (lo : Int) := by rw [mask51 _ hn, hlo]
  have e2 : (n : Int) / 2251799813685248 = (hh : Int) := by omega
  obtain ⟨Y, hY⟩ : ∃ Y, Y = [Value.int .u64 (lo : Int), .int .u64 (hh : Int), .int .u64 0, .int .u64 0, .int .u64 0] := ⟨_, rfl⟩
  have lY : LimL Y n := by
    have := LimL.ofFive (a := lo) (b := hh) (c := 0) (d := 0) (e := 0) (by unfold Words5; omega)
    rw [show wor lo hh 0 0 0 = n by unfold wor; omega] at this
    rw [hY]
    exact this
  have hb := built_two lo hh
  rw [show (#[Value.int .u64 (lo : Int), .int .u64 (hh : Int), .int .u64 0, .int .u64 0, .int .u64 0] : Array Value) = Y.toArray by rw [hY]] at hb
  have rd := fun u => prod_l hX lY u
  obtain ⟨Z, hZ, lZ⟩ : ∃ Z, Z = limL (N * n % Prime.P) ∧ LimL Z (N * n % Prime.P) := ⟨_, rfl, LimL.ofMod _⟩
  rw [← hZ] at rd ⊢
  have RD := Lib.hid rd
  have HBU := Lib.hid hb
  have HX := Lib.hid (show X.length = 5 ∧ Single X from ⟨hX.len, hX.one⟩)
  have HZ := Lib.hid (show Z.length = 5 ∧ Single Z from ⟨lZ.len, lZ.one⟩)
  have HM := Lib.hid (Hld.start w0)
  clear hlo hhh hY lY hb rd hZ lZ hX
  go_enter Tryz.func145, Tryz.ntmps145
  go_upto_region 1 with ((first
    | (with_reducible refine Hold.box (m := []) HM.out rfl rfl rfl ?_; clear HM; intro b0 w HM; simp only [List.nil_append] at HM; replace HM := Lib.hid HM)
    | (with_reducible refine Hold.alloc HM.out rfl rfl zeros5 zero_limbs5 ?_; clear HM; intro br w HM; simp only [List.nil_append, List.cons_append] at HM; replace HM := Lib.hid HM)))
  go_wp2_with ((first
    | (with_reducible refine Hold.load HM.out 0 (cs := X) rfl rfl rfl rfl (Part.all _) (by rw [HX.out.1]; exact row_limbs) ?_)
    | (with_reducible refine Hold.build (cs := Y) rfl rfl (by simp [Act.eval]; exact HBU.out) ?_)
    | (with_reducible refine (RD.out _).mono ?_; rintro e w ⟨rfl, hb⟩; replace HM := Lib.hid (HM.out.next hb); clear hb)
    | (with_reducible refine Hold.store HM.out 1 (v' := Z) rfl rfl rfl rfl rfl (by simp [HZ.out.1, zeros5_length]) (lay_all (by simp [HZ.out.1, zeros5_length])) (HZ.out.2) (by rw [HZ.out.1]; exact row_limbs) ?_; clear HM; intro w HM; simp only [List.set_cons_zero, List.set_cons_succ] at HM; replace HM := Lib.hid HM)))
  exact bodyPost_ret (Hold.results1 HM.out 1 rfl _ rfl rfl (by rw [HZ.out.1]; exact row_limbs)) rfl ⟨rfl, HM.out.below⟩

theorem pow_sq (N k K : Nat) (h : K % Prime.P = N ^ 2 ^ k % Prime.P) : K * K % Prime.P = N ^ 2 ^ (k + 1) % Prime.P := by
  rw [Nat.mul_mod, h, ← Nat.mul_mod, ← Nat.pow_add, Nat.pow_succ 2, Nat.mul_two]
set_option maxHeartbeats 1600000 in
theorem squares_l {X : List Value} {N : Nat} (hX : LimL X N) (n : Int) (w0 : World) (h1 : -9223372036854775808 ≤ n) (h2 : n ≤ 9223372036854775807) :
    Calls Tryz.prog 144 #[.agg X.toArray, .int .i64 n] w0 fun r w' => r = .returned (.agg (limL (N ^ 2 ^ Limb.times n % Prime.P)).toArray) ∧ Below w0.heap.size w0 w' := by
  obtain ⟨A, K, hA, kA, ra⟩ := small_l hX
  obtain ⟨T, hT⟩ : ∃ K, K = Limb.times n := ⟨_, rfl⟩
  have hT3 : T ≤ 300 := by rw [hT]; unfold Limb.times; omega
  have hlt : ∀ k : Nat, decide ((k : Int) < max 0 (min n 300)) = decide (k < T) := fun k => decide_eq_decide.2 (by rw [hT]; unfold Limb.times; omega)
  have HLT := Lib.hid hlt
  rw [← hT]
  have RA := Lib.hid ra
  have FA := Lib.hid (show RoomV A K ∧ K % Prime.P = N ^ 2 ^ 0 % Prime.P from ⟨hA, by rw [Nat.pow_zero, Nat.pow_one]; exact kA⟩)
  have HA := Lib.hid (show A.length = 5 ∧ Single A from ⟨hA.len, hA.one⟩)
  have HX := Lib.hid (show X.length = 5 ∧ Single X from ⟨hX.len, hX.one⟩)
  have HM := Lib.hid (Hld.start w0)
  clear hA kA ra hX hT hlt h1 h2
  go_enter Tryz.func144, Tryz.ntmps144
  go_upto_region 1 with ((first
    | (with_reducible refine Hold.box (m := []) HM.out rfl rfl rfl ?_; clear HM; intro b0 w HM; simp only [List.nil_append] at HM; replace HM := Lib.hid HM)
    | (with_reducible refine Hold.alloc HM.out rfl rfl zeros5 zero_limbs5 ?_; clear HM; intro br w HM; simp only [List.nil_append, List.cons_append] at HM; replace HM := Lib.hid HM)))
  go_upto_region 2 with ((first
    | (with_reducible refine Hold.load HM.out 0 (cs := X) rfl rfl rfl rfl (Part.all _) (by rw [HX.out.1]; exact row_limbs) ?_)
    | (with_reducible refine (RA.out _).mono ?_; rintro e w ⟨rfl, hb⟩; replace HM := Lib.hid (HM.out.next hb); clear hb)
    | (with_reducible refine Hold.store HM.out 0 (v' := A) rfl rfl rfl rfl rfl (by rw [Nat.zero_add, HA.out.1, HX.out.1]; exact Nat.le_refl _) (lay_all (HX.out.1.trans HA.out.1.symm)) (HA.out.2) (by rw [HA.out.1]; exact row_limbs) ?_; clear HM; intro w HM; simp only [List.set_cons_zero] at HM; replace HM := Lib.hid HM)))
  go_wp2
  go_loopw [10] (fun i wr => ∃ k : Nat, k ≤ T ∧ i = .int .i64 k ∧ ∃ Y M, RoomV Y M ∧ M % Prime.P = N ^ 2 ^ k % Prime.P ∧ Hld w0 [⟨b0, 69, Y⟩, ⟨br, 69, zeros5⟩] wr) (fun i _ => 300 - (intOf i).toNat)
  case atStart => exact ⟨0, by omega, rfl, A, K, FA.out.1, FA.out.2, HM.out⟩
  case round =>
    obtain ⟨k, hk5, rfl, Y, M, hY, hYM, hm⟩ := hrel
    clear HM FA HA RA HX
    have HM := Lib.hid hm
    have HY := Lib.hid (show Y.length = 5 ∧ Single Y from ⟨hY.len, hY.one⟩)
    by_cases hlk : k < T
    · have hd2 : decide ((k : Int) < max 0 (min n 300)) = true := by rw [HLT.out]; simpa using hlk
      obtain ⟨C, I, hC, iC, rc⟩ := times_l hY hY
      have RC := Lib.hid rc
      have FC := Lib.hid (show RoomV C I ∧ I % Prime.P = N ^ 2 ^ (k + 1) % Prime.P from ⟨hC, iC.trans (pow_sq N k M hYM)⟩)
      have HC := Lib.hid (show C.length = 5 ∧ Single C from ⟨hC.len, hC.one⟩)
      clear hm hY hYM hC iC rc
      go_upto_region 5 with ((first
        | (with_reducible refine Hold.load HM.out 0 (cs := Y) rfl rfl rfl rfl (Part.all _) (by rw [HY.out.1]; exact row_limbs) ?_)
        | (with_reducible refine (RC.out _).mono ?_; rintro e w ⟨rfl, hb⟩; replace HM := Lib.hid (HM.out.next hb); clear hb)
        | (with_reducible refine Hold.store HM.out 0 (v' := C) rfl rfl rfl rfl rfl (by rw [Nat.zero_add, HC.out.1, HY.out.1]; exact Nat.le_refl _) (lay_all (HY.out.1.trans HC.out.1.symm)) (HC.out.2) (by rw [HC.out.1]; exact row_limbs) ?_; clear HM; intro w HM; simp only [List.set_cons_zero] at HM; replace HM := Lib.hid HM)))
      go_wp2
      go_roundw
      case rel => exact ⟨k + 1, by omega, by go_num, C, I, FC.out.1, FC.out.2, HM.out⟩
      case measure => simp [intOf]; omega
    · have hd2 : decide ((k : Int) < max 0 (min n 300)) = false := by rw [HLT.out]; simpa using hlk
      obtain rfl : k = T := by omega
      have rd := fun u => carry_l hY.limL u
      rw [hYM] at rd
      obtain ⟨Z, hZ, lZ⟩ : ∃ Z, Z = limL (N ^ 2 ^ k % Prime.P) ∧ LimL Z (N ^ 2 ^ k % Prime.P) := ⟨_, rfl, LimL.ofMod _⟩
      rw [← hZ] at rd
      have RD := Lib.hid rd
      have HZE := Lib.hid hZ
      have HZ := Lib.hid (show Z.length = 5 ∧ Single Z from ⟨lZ.len, lZ.one⟩)
      clear hm hY hYM rd hZ lZ
      go_wp2_with ((first
        | (with_reducible refine Hold.load HM.out 0 (cs := Y) rfl rfl rfl rfl (Part.all _) (by rw [HY.out.1]; exact row_limbs) ?_)
        | (with_reducible refine (RD.out _).mono ?_; rintro e w ⟨rfl, hb⟩; replace HM := Lib.hid (HM.out.next hb); clear hb)
        | (with_reducible refine Hold.store HM.out 1 (v' := Z) rfl rfl rfl rfl rfl (by simp [HZ.out.1, zeros5_length]) (lay_all (by simp [HZ.out.1, zeros5_length])) (HZ.out.2) (by rw [HZ.out.1]; exact row_limbs) ?_; clear HM; intro w HM; simp only [List.set_cons_zero, List.set_cons_succ] at HM; replace HM := Lib.hid HM)))
      exact bodyPost_ret (Hold.results1 HM.out 1 rfl _ rfl rfl (by rw [HZ.out.1]; exact row_limbs)) rfl ⟨by rw [HZE.out], HM.out.below⟩

/-- The exponent of the inverse, from its highest bit on. -/
def invE (k : Nat) : Nat := (Prime.P - 2) / 2 ^ (255 - k)
theorem invE_next (k : Nat) (h : k < 255) : invE (k + 1) = 2 * invE k + if k = 252 ∨ k = 250 then 0 else 1 := by
  have hb : ∀ k : Fin 255, (Prime.P - 2) / 2 ^ (255 - (k.val + 1)) = 2 * ((Prime.P - 2) / 2 ^ (255 - k.val)) + if k.val = 252 ∨ k.val = 250 then 0 else 1 := by decide +kernel
  exact hb ⟨k, h⟩
theorem invE_zero : invE 0 = 0 := by decide +kernel
theorem invE_end : invE 255 = Prime.P - 2 := by
  unfold invE
  rw [Nat.sub_self, Nat.pow_zero, Nat.div_one]
theorem pow_dbl {N q K I : Nat} (h : K % Prime.P = N ^ q % Prime.P) (hi : I % Prime.P = K * K % Prime.P) : I % Prime.P = N ^ (2 * q) % Prime.P := by
  rw [hi, Nat.mul_mod, h, ← Nat.mul_mod, ← Nat.pow_add, ← Nat.two_mul]
theorem pow_inc {N q K I A : Nat} (h : K % Prime.P = N ^ q % Prime.P) (ha : A % Prime.P = N % Prime.P) (hi : I % Prime.P = K * A % Prime.P) : I % Prime.P = N ^ (q + 1) % Prime.P := by
  rw [hi, Nat.mul_mod, h, ha, ← Nat.mul_mod, Nat.pow_succ]
def one5 : List Value := [.int .u64 1, .int .u64 0, .int .u64 0, .int .u64 0, .int .u64 0]
theorem one5_room : RoomV one5 1 := room_five (a := 1) (b := 0) (c := 0) (d := 0) (e := 0) (by unfold Limb.Roomy; omega)
theorem built_one : Tryz.prog.built 69 [(0, .int .u64 1)] = some one5.toArray := by kernel_rfl
set_option maxHeartbeats 3200000 in
theorem inverted_l {X : List Value} {N : Nat} (hX : LimL X N) (w0 : World) :
    Calls Tryz.prog 113 #[.agg X.toArray] w0 fun r w' => r = .returned (.agg (limL (N ^ (Prime.P - 2) % Prime.P)).toArray) ∧ Below w0.heap.size w0 w' := by
  obtain ⟨A, K, hA, kA, ra⟩ := small_l hX
  have RA := Lib.hid ra
  have FA := Lib.hid (show RoomV A K ∧ K % Prime.P = N % Prime.P from ⟨hA, kA⟩)
  have HA := Lib.hid (show A.length = 5 ∧ Single A from ⟨hA.len, hA.one⟩)
  have HO := Lib.hid (show one5.length = 5 ∧ Single one5 from ⟨one5_room.len, one5_room.one⟩)
  have HX := Lib.hid (show X.length = 5 ∧ Single X from ⟨hX.len, hX.one⟩)
  have HM := Lib.hid (Hld.start w0)
  clear hA kA ra hX
  go_enter Tryz.func113, Tryz.ntmps113
  go_upto_region 1 with ((first
    | (with_reducible refine Hold.box (m := []) HM.out rfl rfl rfl ?_; clear HM; intro b0 w HM; simp only [List.nil_append] at HM; replace HM := Lib.hid HM)
    | (with_reducible refine Hold.alloc HM.out rfl rfl zeros5 zero_limbs5 ?_; clear HM; intro br w HM; simp only [List.nil_append, List.cons_append] at HM; replace HM := Lib.hid HM)))
  go_upto_region 2 with ((first
    | (with_reducible refine Hold.load HM.out 0 (cs := X) rfl rfl rfl rfl (Part.all _) (by rw [HX.out.1]; exact row_limbs) ?_)
    | (with_reducible refine (RA.out _).mono ?_; rintro e w ⟨rfl, hb⟩; replace HM := Lib.hid (HM.out.next hb); clear hb)
    | (with_reducible refine Hold.store HM.out 0 (v' := A) rfl rfl rfl rfl rfl (by rw [Nat.zero_add, HA.out.1, HX.out.1]; exact Nat.le_refl _) (lay_all (HX.out.1.trans HA.out.1.symm)) (HA.out.2) (by rw [HA.out.1]; exact row_limbs) ?_; clear HM; intro w HM; simp only [List.set_cons_zero] at HM; replace HM := Lib.hid HM)))
  go_upto_region 3 with ((first
    | (with_reducible refine Hold.build (cs := one5) rfl rfl (by simp [Act.eval]; exact built_one) ?_)
    | (with_reducible refine Hold.alloc HM.out rfl rfl zeros5 zero_limbs5 ?_; clear HM; intro bo w HM; simp only [List.nil_append, List.cons_append] at HM; replace HM := Lib.hid HM)
    | (with_reducible refine Hold.store HM.out 2 (v' := one5) rfl rfl rfl rfl rfl (by rw [Nat.zero_add, HO.out.1, zeros5_length]; exact Nat.le_refl _) (lay_all (zeros5_length.trans HO.out.1.symm)) (HO.out.2) (by rw [HO.out.1]; exact row_limbs) ?_; clear HM; intro w HM; simp only [List.set_cons_zero, List.set_cons_succ] at HM; replace HM := Lib.hid HM)))
  go_wp2
  go_loopw [4] (fun i wr => ∃ k : Nat, k ≤ 255 ∧ i = .int .i64 (254 - (k : Int)) ∧ ∃ Y M, RoomV Y M ∧ M % Prime.P = N ^ invE k % Prime.P ∧ Hld w0 [⟨b0, 69, A⟩, ⟨br, 69, zeros5⟩, ⟨bo, 69, Y⟩] wr) (fun i _ => (intOf i + 1).toNat)
  case atStart => exact ⟨0, by omega, rfl, one5, 1, one5_room, by rw [invE_zero, Nat.pow_zero], HM.out⟩
  case round =>
    obtain ⟨k, hk5, rfl, Y, M, hY, hYM, hm⟩ := hrel
    clear HM RA HX HO
    have HM := Lib.hid hm
    have HY := Lib.hid (show Y.length = 5 ∧ Single Y from ⟨hY.len, hY.one⟩)
    by_cases hlk : k < 255
    · have hd2 : decide ((0 : Int) ≤ 254 - (k : Int)) = true := by simp; omega
      have hd2' : decide ((k : Int) ≤ 254) = true := by simp; omega
      have ik : (k : Int) ≤ 254 := by omega
      obtain ⟨C, I, hC, iC, rc⟩ := times_l hY hY
      have fc := pow_dbl hYM iC
      have RC := Lib.hid rc
      have HC := Lib.hid (show C.length = 5 ∧ Single C from ⟨hC.len, hC.one⟩)
      have hn := invE_next k hlk
      by_cases hsk : k = 252 ∨ k = 250
      · rw [if_pos hsk, Nat.add_zero] at hn
        have FC := Lib.hid (show RoomV C I ∧ I % Prime.P = N ^ invE (k + 1) % Prime.P from ⟨hC, by rw [hn]; exact fc⟩)
        clear hm hY hYM hC iC rc fc hn
        go_upto_region 7 with ((first
          | (with_reducible refine Hold.load HM.out 2 (cs := Y) rfl rfl rfl rfl (Part.all _) (by rw [HY.out.1]; exact row_limbs) ?_)
          | (with_reducible refine (RC.out _).mono ?_; rintro e w ⟨rfl, hb⟩; replace HM := Lib.hid (HM.out.next hb); clear hb)
          | (with_reducible refine Hold.store HM.out 2 (v' := C) rfl rfl rfl rfl rfl (by rw [Nat.zero_add, HC.out.1, HY.out.1]; exact Nat.le_refl _) (lay_all (HY.out.1.trans HC.out.1.symm)) (HC.out.2) (by rw [HC.out.1]; exact row_limbs) ?_; clear HM; intro w HM; simp only [List.set_cons_zero, List.set_cons_succ] at HM; replace HM := Lib.hid HM)))
        rcases hsk with rfl | rfl
        · go_wp2
          go_roundw
          case rel => exact ⟨253, by omega, by go_num, C, I, FC.out.1, FC.out.2, HM.out⟩
          case measure => simp [intOf]
        · go_wp2
          go_roundw
          case rel => exact ⟨251, by omega, by go_num, C, I, FC.out.1, FC.out.2, HM.out⟩
          case measure => simp [intOf]
      · rw [if_neg hsk] at hn
        obtain ⟨D, J, hD, jD, rd⟩ := times_l hC FA.out.1
        have RD := Lib.hid rd
        have FD := Lib.hid (show RoomV D J ∧ J % Prime.P = N ^ invE (k + 1) % Prime.P from ⟨hD, by rw [hn]; exact pow_inc fc FA.out.2 jD⟩)
        have HD := Lib.hid (show D.length = 5 ∧ Single D from ⟨hD.len, hD.one⟩)
        have t2 : ((254 - (k : Int)) != 2) = true := by simp; omega
        have t4 : ((254 - (k : Int)) != 4) = true := by simp; omega
        clear hm hY hYM hC iC rc fc hn hD jD rd hsk
        go_upto_region 7 with ((first
          | (with_reducible refine Hold.load HM.out 2 (cs := Y) rfl rfl rfl rfl (Part.all _) (by rw [HY.out.1]; exact row_limbs) ?_)
          | (with_reducible refine (RC.out _).mono ?_; rintro e w ⟨rfl, hb⟩; replace HM := Lib.hid (HM.out.next hb); clear hb)
          | (with_reducible refine Hold.store HM.out 2 (v' := C) rfl rfl rfl rfl rfl (by rw [Nat.zero_add, HC.out.1, HY.out.1]; exact Nat.le_refl _) (lay_all (HY.out.1.trans HC.out.1.symm)) (HC.out.2) (by rw [HC.out.1]; exact row_limbs) ?_; clear HM; intro w HM; simp only [List.set_cons_zero, List.set_cons_succ] at HM; replace HM := Lib.hid HM)))
        go_upto_region 5 with ((first
          | (with_reducible refine Hold.load HM.out 2 (cs := C) rfl rfl rfl rfl (Part.all _) (by rw [HC.out.1]; exact row_limbs) ?_)
          | (with_reducible refine Hold.load HM.out 0 (cs := A) rfl rfl rfl rfl (Part.all _) (by rw [HA.out.1]; exact row_limbs) ?_)
          | (with_reducible refine (RD.out _).mono ?_; rintro e w ⟨rfl, hb⟩; replace HM := Lib.hid (HM.out.next hb); clear hb)
          | (with_reducible refine Hold.store HM.out 2 (v' := D) rfl rfl rfl rfl rfl (by rw [Nat.zero_add, HD.out.1, HC.out.1]; exact Nat.le_refl _) (lay_all (HC.out.1.trans HD.out.1.symm)) (HD.out.2) (by rw [HD.out.1]; exact row_limbs) ?_; clear HM; intro w HM; simp only [List.set_cons_zero, List.set_cons_succ] at HM; replace HM := Lib.hid HM)))
        go_wp2
        go_roundw
        case rel => exact ⟨k + 1, by omega, by go_num, D, J, FD.out.1, FD.out.2, HM.out⟩
        case measure => simp [intOf]; omega
    · have hd2 : decide ((0 : Int) ≤ 254 - (k : Int)) = false := by simp; omega
      have hd2' : decide ((k : Int) ≤ 254) = false := by simp; omega
      obtain rfl : k = 255 := by omega
      have rd := fun u => carry_l hY.limL u
      rw [hYM, invE_end] at rd
      obtain ⟨Z, hZ, lZ⟩ : ∃ Z, Z = limL (N ^ (Prime.P - 2) % Prime.P) ∧ LimL Z (N ^ (Prime.P - 2) % Prime.P) := ⟨_, rfl, LimL.ofMod _⟩
      rw [← hZ] at rd
      have RD := Lib.hid rd
      have HZE := Lib.hid hZ
      have HZ := Lib.hid (show Z.length = 5 ∧ Single Z from ⟨lZ.len, lZ.one⟩)
      clear hm hY hYM rd hZ lZ
      go_wp2_with ((first
        | (with_reducible refine Hold.load HM.out 2 (cs := Y) rfl rfl rfl rfl (Part.all _) (by rw [HY.out.1]; exact row_limbs) ?_)
        | (with_reducible refine (RD.out _).mono ?_; rintro e w ⟨rfl, hb⟩; replace HM := Lib.hid (HM.out.next hb); clear hb)
        | (with_reducible refine Hold.store HM.out 1 (v' := Z) rfl rfl rfl rfl rfl (by simp [HZ.out.1, zeros5_length]) (lay_all (by simp [HZ.out.1, zeros5_length])) (HZ.out.2) (by rw [HZ.out.1]; exact row_limbs) ?_; clear HM; intro w HM; simp only [List.set_cons_zero, List.set_cons_succ] at HM; replace HM := Lib.hid HM)))
      exact bodyPost_ret (Hold.results1 HM.out 1 rfl _ rfl rfl (by rw [HZ.out.1]; exact row_limbs)) rfl ⟨by rw [HZE.out], HM.out.below⟩
end Go.Proofs.YtolmfimpaofefaaGreatDoor.RefLimb

namespace Go.Proofs.YtolmfimpaofefaaGreatDoor.RefLimb
open Go.RowKit Mur Lanes Limb Hold
set_option maxRecDepth 100000

/-- The limbs of a reduced number. -/
theorem lim_get (n i : Nat) : (lim n).getD i 0 < 2251799813685248 := by
  by_cases hi : i < 5
  · rw [lim_at _ _ hi]
    exact Nat.mod_lt _ (by decide)
  · rw [List.getD, List.getElem?_eq_none (by rw [lim_length]; omega)]
    decide
theorem lim_worth {n : Nat} (h : n < 57896044618658097711785492504343953926634992332820282019728792003956564819968) : worL (lim n) = n := by
  have := wor_lim h
  unfold worL lim
  simp only [List.getD_cons_zero, List.getD_cons_succ]
  exact this
def sumL (A B : List Nat) : List Nat := (List.range 5).map fun i => A.getD i 0 + B.getD i 0
theorem sumL_get (A B : List Nat) (i : Nat) (h : i < 5) : (sumL A B).getD i 0 = A.getD i 0 + B.getD i 0 := by
  unfold sumL
  simp [List.getD, h]
def difL (A B : List Nat) : List Nat := (List.range 5).map fun i => A.getD i 0 + (4503599627370494 - B.getD i 0)
theorem difL_get (A B : List Nat) (i : Nat) (h : i < 5) : (difL A B).getD i 0 = A.getD i 0 + (4503599627370494 - B.getD i 0) := by
  unfold difL
  simp [List.getD, h]
theorem nums_lim {X : List Nat} (h5 : X.length = 5) (h : ∀ i, i < 5 → X.getD i 0 < 18446744073709551616) : LimL (numsV X) (worL X) := by
  have e := list_nat5 h5
  have h0 := h 0 (by decide)
  have h1 := h 1 (by decide)
  have h2 := h 2 (by decide)
  have h3 := h 3 (by decide)
  have h4 := h 4 (by decide)
  unfold worL
  generalize X.getD 0 0 = a at *
  generalize X.getD 1 0 = b at *
  generalize X.getD 2 0 = c at *
  generalize X.getD 3 0 = d at *
  generalize X.getD 4 0 = f at *
  rw [e]
  exact LimL.ofFive (a := a) (b := b) (c := c) (d := d) (e := f) (by unfold Words5; omega)
theorem sum_wor (A B : List Nat) : worL (sumL A B) = worL A + worL B := by
  rw [worL, sumL_get _ _ 0 (by decide), sumL_get _ _ 1 (by decide), sumL_get _ _ 2 (by decide), sumL_get _ _ 3 (by decide), sumL_get _ _ 4 (by decide), wor_sum]
  rfl
theorem dif_wor (A B : List Nat) (hB : ∀ i, B.getD i 0 < 2251799813685248) : worL ((difL A B).set 0 ((difL A B).getD 0 0 - 36)) + worL B = worL A + 2 * Prime.P := by
  have g : ∀ i, i < 5 → ((difL A B).set 0 ((difL A B).getD 0 0 - 36)).getD i 0 = if i = 0 then A.getD 0 0 + (4503599627370494 - B.getD 0 0) - 36 else A.getD i 0 + (4503599627370494 - B.getD i 0) := fun i hi => by
    by_cases e : i = 0
    · subst e
      rw [if_pos rfl, ← difL_get _ _ 0 (by decide)]
      simp [List.getD, difL]
    · rw [if_neg e, List.getD, List.getElem?_set_ne (by omega), ← List.getD, difL_get _ _ _ hi]
  rw [worL, g 0 (by decide), g 1 (by decide), g 2 (by decide), g 3 (by decide), g 4 (by decide), if_pos rfl, if_neg (by decide), if_neg (by decide), if_neg (by decide), if_neg (by decide)]
  have h0 := hB 0
  have h1 := hB 1
  have h2 := hB 2
  have h3 := hB 3
  have h4 := hB 4
  unfold worL
  rw [P_eq]
  generalize A.getD 0 0 = a0 at *
  generalize A.getD 1 0 = a1 at *
  generalize A.getD 2 0 = a2 at *
  generalize A.getD 3 0 = a3 at *
  generalize A.getD 4 0 = a4 at *
  generalize B.getD 0 0 = b0 at *
  generalize B.getD 1 0 = b1 at *
  generalize B.getD 2 0 = b2 at *
  generalize B.getD 3 0 = b3 at *
  generalize B.getD 4 0 = b4 at *
  unfold wor
  omega

set_option maxHeartbeats 3200000 in
theorem sum_l {X Y : List Value} {N M : Nat} (hX : LimL X N) (hY : LimL Y M) (w0 : World) :
    Calls Tryz.prog 142 #[.agg X.toArray, .agg Y.toArray] w0 fun r w' => r = .returned (.agg (limL ((N + M) % Prime.P)).toArray) ∧ Below w0.heap.size w0 w' := by
  have ra := fun u => carry_l hX u
  have rb := fun u => carry_l hY u
  have hA := fun i => lim_get (N % Prime.P) i
  have hB := fun i => lim_get (M % Prime.P) i
  have wA := lim_worth (Nat.lt_trans (Nat.mod_lt N P_pos) P_lt)
  have wB := lim_worth (Nat.lt_trans (Nat.mod_lt M P_pos) P_lt)
  have lA := lim_length (N % Prime.P)
  have lB := lim_length (M % Prime.P)
  unfold limL at ra rb
  generalize lim (N % Prime.P) = A at *
  generalize lim (M % Prime.P) = B at *
  have rc := fun u => carry_l (nums_lim (X := sumL A B) rfl (fun i hi => by rw [sumL_get _ _ _ hi]; have := hA i; have := hB i; omega)) u
  rw [sum_wor, wA, wB, ← Nat.add_mod] at rc
  obtain ⟨S, hS⟩ : ∃ S, S = sumL A B := ⟨_, rfl⟩
  have hSg : ∀ i, i < 5 → S.getD i 0 = A.getD i 0 + B.getD i 0 := fun i hi => by rw [hS]; exact sumL_get A B i hi
  have hS5 : S.length = 5 := by rw [hS]; rfl
  rw [← hS] at rc
  obtain ⟨Z, hZ, lZ⟩ : ∃ Z, Z = limL ((N + M) % Prime.P) ∧ LimL Z ((N + M) % Prime.P) := ⟨_, rfl, LimL.ofMod _⟩
  rw [← hZ] at rc ⊢
  have RA := Lib.hid ra
  have RB := Lib.hid rb
  have RC := Lib.hid rc
  have LA := Lib.hid (show A.length = 5 from lA)
  have LB := Lib.hid (show B.length = 5 from lB)
  have NA := Lib.hid (show (numsV A).length = 5 by rw [numsV_length, lA])
  have NB := Lib.hid (show (numsV B).length = 5 by rw [numsV_length, lB])
  have HA := Lib.hid hA
  have HBB := Lib.hid hB
  have HSG := Lib.hid hSg
  have HS5 := Lib.hid hS5
  have HFIN := Lib.hid (show (numsV S).length = 5 by rw [numsV_length, hS5])
  have HX := Lib.hid (show X.length = 5 ∧ Single X from ⟨hX.len, hX.one⟩)
  have HY := Lib.hid (show Y.length = 5 ∧ Single Y from ⟨hY.len, hY.one⟩)
  have HZ := Lib.hid (show Z.length = 5 ∧ Single Z from ⟨lZ.len, lZ.one⟩)
  have HM := Lib.hid (Hld.start w0)
  clear hA hB wA wB lA lB ra rb rc hS hSg hS5 hZ lZ hX hY
  go_enter Tryz.func142, Tryz.ntmps142
  go_upto_region 1 with ((first
    | (with_reducible refine Hold.box (m := []) HM.out rfl rfl rfl ?_; clear HM; intro b0 w HM; simp only [List.nil_append] at HM; replace HM := Lib.hid HM)
    | (with_reducible refine Hold.box (m := [_]) HM.out rfl rfl rfl ?_; clear HM; intro b1 w HM; simp only [List.nil_append, List.cons_append] at HM; replace HM := Lib.hid HM)
    | (with_reducible refine Hold.alloc HM.out rfl rfl zeros5 zero_limbs5 ?_; clear HM; intro br w HM; simp only [List.nil_append, List.cons_append] at HM; replace HM := Lib.hid HM)))
  refine Steady.region 4 (by kernel_rfl) (by kernel_rfl) (fun u => Hld _ _ u) HM.out.drew ?_
  simp only [List.take_succ_cons, List.take_zero, List.drop_succ_cons, List.drop_zero]
  refine Steady.take (.agg (X).toArray) rfl (fun u hu => Hold.load_run hu 0 rfl rfl rfl (Part.all _) (by rw [HX.out.1]; exact row_limbs)) ?_
  simp only [Act.put, List.setIfInBounds_toArray, List.set_cons_zero, List.set_cons_succ]
  refine Steady.call _ _ _ rfl ?_ (Hold.kept RA.out) ?_
  · intro u
    go_simp
  simp only [Act.put, List.setIfInBounds_toArray, List.set_cons_zero, List.set_cons_succ]
  refine Steady.take (.agg (Y).toArray) rfl (fun u hu => Hold.load_run hu 1 rfl rfl rfl (Part.all _) (by rw [HY.out.1]; exact row_limbs)) ?_
  simp only [Act.put, List.setIfInBounds_toArray, List.set_cons_zero, List.set_cons_succ]
  refine Steady.call _ _ _ rfl ?_ (Hold.kept RB.out) ?_
  · intro u
    go_simp
  simp only [Act.put, List.setIfInBounds_toArray, List.set_cons_zero, List.set_cons_succ]
  refine Steady.nil ?_
  clear HM
  intro w HM
  replace HM := Lib.hid HM
  go_upto_region 2 with ((first
    | (with_reducible refine Hold.store HM.out 0 (v' := numsV A) rfl rfl rfl rfl rfl (by rw [Nat.zero_add, NA.out, HX.out.1]; exact Nat.le_refl _) (lay_all (HX.out.1.trans NA.out.symm)) (single_nums _) (by rw [NA.out]; exact row_limbs) ?_; clear HM; intro w HM; simp only [List.set_cons_zero] at HM; replace HM := Lib.hid HM)
    | (with_reducible refine Hold.store HM.out 1 (v' := numsV B) rfl rfl rfl rfl rfl (by rw [Nat.zero_add, NB.out, HY.out.1]; exact Nat.le_refl _) (lay_all (HY.out.1.trans NB.out.symm)) (single_nums _) (by rw [NB.out]; exact row_limbs) ?_; clear HM; intro w HM; simp only [List.set_cons_zero, List.set_cons_succ] at HM; replace HM := Lib.hid HM)))
  go_wp2
  go_loopw [5, 10] (fun _ i wr => ∃ k : Nat, k ≤ 5 ∧ i = .int .i64 k ∧ Hld w0 [⟨b0, 69, numsV (mixTo A S k)⟩, ⟨b1, 69, numsV B⟩, ⟨br, 69, zeros5⟩] wr) (fun _ i _ => 5 - (intOf i).toNat)
  case atStart => exact ⟨0, by omega, rfl, HM.out⟩
  case round =>
    obtain ⟨k, hk5, rfl, hm⟩ := hrel
    clear HM RA RB HX HY NA NB
    have HM := Lib.hid hm
    clear hm
    by_cases hlk : k < 5
    · have hd3 : decide ((k : Int) < 5) = true := by simp; omega
      have ik : (k : Int) < 5 := by omega
      have lX : k < (mixTo A S k).length := by rw [mixTo_length, LA.out]; exact hlk
      have gX : (mixTo A S k).getD k 0 = A.getD k 0 := by rw [mixTo_get A S k k (by rw [LA.out]; exact hlk), if_neg (by omega)]
      have hnx : mixTo A S (k + 1) = (mixTo A S k).set k (S.getD k 0) := rfl
      have hsg := HSG.out k hlk
      have hxb := HA.out k
      have hyb := HBB.out k
      have gB := nums_get (X := B) (i := k) (by rw [LB.out]; exact hlk)
      have hm := HM.out
      clear HM
      generalize mixTo A S k = Q at *
      have gM := nums_get lX
      rw [gX] at gM
      obtain ⟨x, hx⟩ : ∃ x, x = A.getD k 0 := ⟨_, rfl⟩
      obtain ⟨y, hy⟩ : ∃ x, x = B.getD k 0 := ⟨_, rfl⟩
      obtain ⟨s, hs⟩ : ∃ x, x = S.getD k 0 := ⟨_, rfl⟩
      rw [← hx] at gM hxb hsg
      rw [← hy] at gB hyb hsg
      rw [← hs] at hnx hsg
      have e1 : IntKind.u64.wrap ((x : Int) + (y : Int)) = (s : Int) := by rw [addN, wrapN _ (by omega), hsg]
      have hs1 : (numsV Q).set k (.int .u64 (s : Int)) = numsV (mixTo A S (k + 1)) := by rw [numsV_set, hnx]
      have lV : k < (numsV Q).length := by rw [numsV_length]; exact lX
      have HM := Lib.hid hm
      have GM := Lib.hid gM
      have GB := Lib.hid gB
      have E1 := Lib.hid e1
      have LV := Lib.hid lV
      have HS1 := Lib.hid hs1
      clear hm gM gB e1 lV hs1 hnx lX gX hx hy hs hxb hyb hsg
      go_upto_region 5 with (fail)
      refine Steady.region 8 (by kernel_rfl) (by kernel_rfl) (fun u => Hld _ _ u) HM.out.drew ?_
      simp only [List.take_succ_cons, List.take_zero, List.drop_succ_cons, List.drop_zero]
      refine Steady.take ?_ rfl (by intro u hu; go_simp; with_reducible rfl) ?_
      simp only [Act.put, List.setIfInBounds_toArray, List.set_cons_zero, List.set_cons_succ]
      refine Steady.take ?_ rfl (by intro u hu; go_simp; with_reducible rfl) ?_
      simp only [Act.put, List.setIfInBounds_toArray, List.set_cons_zero, List.set_cons_succ]
      refine Steady.take (.int .u64 (x : Int)) rfl (fun u hu => Hold.load1_run hu 0 rfl rfl rfl (GM.out) (cell_u64)) ?_
      simp only [Act.put, List.setIfInBounds_toArray, List.set_cons_zero, List.set_cons_succ]
      refine Steady.take ?_ rfl (by intro u hu; go_simp; with_reducible rfl) ?_
      simp only [Act.put, List.setIfInBounds_toArray, List.set_cons_zero, List.set_cons_succ]
      refine Steady.take ?_ rfl (by intro u hu; go_simp; with_reducible rfl) ?_
      simp only [Act.put, List.setIfInBounds_toArray, List.set_cons_zero, List.set_cons_succ]
      refine Steady.take (.int .u64 (y : Int)) rfl (fun u hu => Hold.load1_run hu 1 rfl rfl rfl (GB.out) (cell_u64)) ?_
      simp only [Act.put, List.setIfInBounds_toArray, List.set_cons_zero, List.set_cons_succ]
      refine Steady.take ?_ rfl (by intro u hu; go_simp; with_reducible rfl) ?_
      simp only [Act.put, List.setIfInBounds_toArray, List.set_cons_zero, List.set_cons_succ]
      refine Steady.take ?_ rfl (by intro u hu; go_simp; with_reducible rfl) ?_
      simp only [Act.put, List.setIfInBounds_toArray, List.set_cons_zero, List.set_cons_succ]
      refine Steady.nil ?_
      clear HM
      intro w HM
      replace HM := Lib.hid HM
      rw [E1.out]
      go_upto_region 6 with ((first
        | (with_reducible refine Hold.store1 HM.out 0 (c := .int .u64 (s : Int)) (v' := numsV (mixTo A S (k + 1))) rfl rfl rfl rfl rfl (LV.out) (HS1.out) (Hold.cell_int _ _) (cell_u64) ?_; clear HM; intro w HM; simp only [List.set_cons_zero] at HM; replace HM := Lib.hid HM)))
      go_wp2
      go_roundw
      case rel => exact ⟨k + 1, by omega, by go_num, HM.out⟩
      case measure => simp [intOf]; omega
    · have hd3 : decide ((k : Int) < 5) = false := by simp; omega
      obtain rfl : k = 5 := by omega
      have hm := HM.out
      clear HM
      rw [mixTo_end LA.out HS5.out] at hm
      have HM := Lib.hid hm
      clear hm
      go_wp2_with ((first
        | (with_reducible refine Hold.load HM.out 0 (cs := numsV S) rfl rfl rfl rfl (Part.all _) (by rw [HFIN.out]; exact row_limbs) ?_)
        | (with_reducible refine (RC.out _).mono ?_; rintro e w ⟨rfl, hb⟩; replace HM := Lib.hid (HM.out.next hb); clear hb)
        | (with_reducible refine Hold.store HM.out 2 (v' := Z) rfl rfl rfl rfl rfl (by simp [HZ.out.1, zeros5_length]) (lay_all (by simp [HZ.out.1, zeros5_length])) (HZ.out.2) (by rw [HZ.out.1]; exact row_limbs) ?_; clear HM; intro w HM; simp only [List.set_cons_zero, List.set_cons_succ] at HM; replace HM := Lib.hid HM)))
      exact bodyPost_ret (Hold.results1 HM.out 2 rfl _ rfl rfl (by rw [HZ.out.1]; exact row_limbs)) rfl ⟨rfl, HM.out.below⟩

set_option maxHeartbeats 3200000 in
theorem dif_l {X Y : List Value} {N M : Nat} (hX : LimL X N) (hY : LimL Y M) (w0 : World) :
    Calls Tryz.prog 143 #[.agg X.toArray, .agg Y.toArray] w0 fun r w' => r = .returned (.agg (limL (subP N M)).toArray) ∧ Below w0.heap.size w0 w' := by
  have ra := fun u => carry_l hX u
  have rb := fun u => carry_l hY u
  have hA := fun i => lim_get (N % Prime.P) i
  have hB := fun i => lim_get (M % Prime.P) i
  have wA := lim_worth (Nat.lt_trans (Nat.mod_lt N P_pos) P_lt)
  have wB := lim_worth (Nat.lt_trans (Nat.mod_lt M P_pos) P_lt)
  have lA := lim_length (N % Prime.P)
  have lB := lim_length (M % Prime.P)
  unfold limL at ra rb
  generalize lim (N % Prime.P) = A at *
  generalize lim (M % Prime.P) = B at *
  have hw := dif_wor A B hB
  rw [wA, wB] at hw
  have hS2g : ∀ i, i < 5 → ((difL A B).set 0 ((difL A B).getD 0 0 - 36)).getD i 0 < 18446744073709551616 := fun i hi => by
    have g := difL_get A B i hi
    have h1 := hA i
    have h2 := hB i
    by_cases e : i = 0
    · subst e
      have : ((difL A B).set 0 ((difL A B).getD 0 0 - 36)).getD 0 0 = (difL A B).getD 0 0 - 36 := by simp [List.getD, difL]
      omega
    · rw [List.getD, List.getElem?_set_ne (by omega), ← List.getD]
      omega
  have rc := fun u => carry_l (nums_lim (X := (difL A B).set 0 ((difL A B).getD 0 0 - 36)) (by rw [List.length_set]; rfl) hS2g) u
  rw [sub_mod hw (Nat.mod_mod N Prime.P) (Nat.mod_mod M Prime.P)] at rc
  have hd0 := difL_get A B 0 (by decide)
  obtain ⟨S, hS⟩ : ∃ S, S = difL A B := ⟨_, rfl⟩
  have hSg : ∀ i, i < 5 → S.getD i 0 = A.getD i 0 + (4503599627370494 - B.getD i 0) := fun i hi => by rw [hS]; exact difL_get A B i hi
  have hS5 : S.length = 5 := by rw [hS]; rfl
  rw [← hS] at rc hd0
  have hs0l : 36 ≤ S.getD 0 0 ∧ S.getD 0 0 < 9007199254740992 := by
    have h1 := hA 0
    have h2 := hB 0
    omega
  obtain ⟨s0, hs0⟩ : ∃ x, x = S.getD 0 0 := ⟨_, rfl⟩
  obtain ⟨t0, ht0⟩ : ∃ x, x = s0 - 36 := ⟨_, rfl⟩
  rw [← hs0] at rc hs0l
  rw [← ht0] at rc
  have e36 : IntKind.u64.wrap ((s0 : Int) - 36) = (t0 : Int) := by
    rw [show (s0 : Int) - 36 = (t0 : Int) by omega, wrapN _ (by omega)]
  have gs0 : (numsV S)[0]? = some (.int .u64 (s0 : Int)) := by rw [hs0]; exact nums_get (by rw [hS5]; decide)
  have hset0 : (numsV S).set 0 (.int .u64 (t0 : Int)) = numsV (S.set 0 t0) := numsV_set S 0 t0
  have hls0 : 0 < (numsV S).length := by rw [numsV_length, hS5]; decide
  have E36 := Lib.hid e36
  have GS0 := Lib.hid gs0
  have HSET0 := Lib.hid hset0
  have HLS0 := Lib.hid hls0
  obtain ⟨Z, hZ, lZ⟩ : ∃ Z, Z = limL (subP N M) ∧ LimL Z (subP N M) := ⟨_, rfl, LimL.ofSub _ _⟩
  rw [← hZ] at rc ⊢
  have RA := Lib.hid ra
  have RB := Lib.hid rb
  have RC := Lib.hid rc
  have LA := Lib.hid (show A.length = 5 from lA)
  have LB := Lib.hid (show B.length = 5 from lB)
  have NA := Lib.hid (show (numsV A).length = 5 by rw [numsV_length, lA])
  have NB := Lib.hid (show (numsV B).length = 5 by rw [numsV_length, lB])
  have HA := Lib.hid hA
  have HBB := Lib.hid hB
  have HSG := Lib.hid hSg
  have HS5 := Lib.hid hS5
  have HFIN := Lib.hid (show (numsV (S.set 0 t0)).length = 5 by rw [numsV_length, List.length_set, hS5])
  have HX := Lib.hid (show X.length = 5 ∧ Single X from ⟨hX.len, hX.one⟩)
  have HY := Lib.hid (show Y.length = 5 ∧ Single Y from ⟨hY.len, hY.one⟩)
  have HZ := Lib.hid (show Z.length = 5 ∧ Single Z from ⟨lZ.len, lZ.one⟩)
  have HM := Lib.hid (Hld.start w0)
  clear hA hB wA wB lA lB ra rb rc hS hSg hS5 hZ lZ hX hY hw hS2g hd0 hs0l hs0 ht0 e36 gs0 hset0 hls0
  go_enter Tryz.func143, Tryz.ntmps143
  go_upto_region 1 with ((first
    | (with_reducible refine Hold.box (m := []) HM.out rfl rfl rfl ?_; clear HM; intro b0 w HM; simp only [List.nil_append] at HM; replace HM := Lib.hid HM)
    | (with_reducible refine Hold.box (m := [_]) HM.out rfl rfl rfl ?_; clear HM; intro b1 w HM; simp only [List.nil_append, List.cons_append] at HM; replace HM := Lib.hid HM)
    | (with_reducible refine Hold.alloc HM.out rfl rfl zeros5 zero_limbs5 ?_; clear HM; intro br w HM; simp only [List.nil_append, List.cons_append] at HM; replace HM := Lib.hid HM)))
  refine Steady.region 4 (by kernel_rfl) (by kernel_rfl) (fun u => Hld _ _ u) HM.out.drew ?_
  simp only [List.take_succ_cons, List.take_zero, List.drop_succ_cons, List.drop_zero]
  refine Steady.take (.agg (X).toArray) rfl (fun u hu => Hold.load_run hu 0 rfl rfl rfl (Part.all _) (by rw [HX.out.1]; exact row_limbs)) ?_
  simp only [Act.put, List.setIfInBounds_toArray, List.set_cons_zero, List.set_cons_succ]
  refine Steady.call _ _ _ rfl ?_ (Hold.kept RA.out) ?_
  · intro u
    go_simp
  simp only [Act.put, List.setIfInBounds_toArray, List.set_cons_zero, List.set_cons_succ]
  refine Steady.take (.agg (Y).toArray) rfl (fun u hu => Hold.load_run hu 1 rfl rfl rfl (Part.all _) (by rw [HY.out.1]; exact row_limbs)) ?_
  simp only [Act.put, List.setIfInBounds_toArray, List.set_cons_zero, List.set_cons_succ]
  refine Steady.call _ _ _ rfl ?_ (Hold.kept RB.out) ?_
  · intro u
    go_simp
  simp only [Act.put, List.setIfInBounds_toArray, List.set_cons_zero, List.set_cons_succ]
  refine Steady.nil ?_
  clear HM
  intro w HM
  replace HM := Lib.hid HM
  go_upto_region 2 with ((first
    | (with_reducible refine Hold.store HM.out 0 (v' := numsV A) rfl rfl rfl rfl rfl (by rw [Nat.zero_add, NA.out, HX.out.1]; exact Nat.le_refl _) (lay_all (HX.out.1.trans NA.out.symm)) (single_nums _) (by rw [NA.out]; exact row_limbs) ?_; clear HM; intro w HM; simp only [List.set_cons_zero] at HM; replace HM := Lib.hid HM)
    | (with_reducible refine Hold.store HM.out 1 (v' := numsV B) rfl rfl rfl rfl rfl (by rw [Nat.zero_add, NB.out, HY.out.1]; exact Nat.le_refl _) (lay_all (HY.out.1.trans NB.out.symm)) (single_nums _) (by rw [NB.out]; exact row_limbs) ?_; clear HM; intro w HM; simp only [List.set_cons_zero, List.set_cons_succ] at HM; replace HM := Lib.hid HM)))
  go_wp2
  go_loopw [5, 10] (fun _ i wr => ∃ k : Nat, k ≤ 5 ∧ i = .int .i64 k ∧ Hld w0 [⟨b0, 69, numsV (mixTo A S k)⟩, ⟨b1, 69, numsV B⟩, ⟨br, 69, zeros5⟩] wr) (fun _ i _ => 5 - (intOf i).toNat)
  case atStart => exact ⟨0, by omega, rfl, HM.out⟩
  case round =>
    obtain ⟨k, hk5, rfl, hm⟩ := hrel
    clear HM RA RB HX HY NA NB
    have HM := Lib.hid hm
    clear hm
    by_cases hlk : k < 5
    · have hd3 : decide ((k : Int) < 5) = true := by simp; omega
      have ik : (k : Int) < 5 := by omega
      have lX : k < (mixTo A S k).length := by rw [mixTo_length, LA.out]; exact hlk
      have gX : (mixTo A S k).getD k 0 = A.getD k 0 := by rw [mixTo_get A S k k (by rw [LA.out]; exact hlk), if_neg (by omega)]
      have hnx : mixTo A S (k + 1) = (mixTo A S k).set k (S.getD k 0) := rfl
      have hsg := HSG.out k hlk
      have hxb := HA.out k
      have hyb := HBB.out k
      have gB := nums_get (X := B) (i := k) (by rw [LB.out]; exact hlk)
      have hm := HM.out
      clear HM
      generalize mixTo A S k = Q at *
      have gM := nums_get lX
      rw [gX] at gM
      obtain ⟨x, hx⟩ : ∃ x, x = A.getD k 0 := ⟨_, rfl⟩
      obtain ⟨y, hy⟩ : ∃ x, x = B.getD k 0 := ⟨_, rfl⟩
      obtain ⟨s, hs⟩ : ∃ x, x = S.getD k 0 := ⟨_, rfl⟩
      rw [← hx] at gM hxb hsg
      rw [← hy] at gB hyb hsg
      rw [← hs] at hnx hsg
      have e1 : IntKind.u64.wrap ((x : Int) + IntKind.u64.wrap (4503599627370494 - (y : Int))) = (s : Int) := by
        rw [show (4503599627370494 : Int) - (y : Int) = ((4503599627370494 - y : Nat) : Int) by omega, wrapN _ (by omega), addN, wrapN _ (by omega), hsg]
      have hs1 : (numsV Q).set k (.int .u64 (s : Int)) = numsV (mixTo A S (k + 1)) := by rw [numsV_set, hnx]
      have lV : k < (numsV Q).length := by rw [numsV_length]; exact lX
      have HM := Lib.hid hm
      have GM := Lib.hid gM
      have GB := Lib.hid gB
      have E1 := Lib.hid e1
      have LV := Lib.hid lV
      have HS1 := Lib.hid hs1
      clear hm gM gB e1 lV hs1 hnx lX gX hx hy hs hxb hyb hsg
      go_upto_region 5 with (fail)
      refine Steady.region 9 (by kernel_rfl) (by kernel_rfl) (fun u => Hld _ _ u) HM.out.drew ?_
      simp only [List.take_succ_cons, List.take_zero, List.drop_succ_cons, List.drop_zero]
      refine Steady.take ?_ rfl (by intro u hu; go_simp; with_reducible rfl) ?_
      simp only [Act.put, List.setIfInBounds_toArray, List.set_cons_zero, List.set_cons_succ]
      refine Steady.take ?_ rfl (by intro u hu; go_simp; with_reducible rfl) ?_
      simp only [Act.put, List.setIfInBounds_toArray, List.set_cons_zero, List.set_cons_succ]
      refine Steady.take (.int .u64 (x : Int)) rfl (fun u hu => Hold.load1_run hu 0 rfl rfl rfl (GM.out) (cell_u64)) ?_
      simp only [Act.put, List.setIfInBounds_toArray, List.set_cons_zero, List.set_cons_succ]
      refine Steady.take ?_ rfl (by intro u hu; go_simp; with_reducible rfl) ?_
      simp only [Act.put, List.setIfInBounds_toArray, List.set_cons_zero, List.set_cons_succ]
      refine Steady.take ?_ rfl (by intro u hu; go_simp; with_reducible rfl) ?_
      simp only [Act.put, List.setIfInBounds_toArray, List.set_cons_zero, List.set_cons_succ]
      refine Steady.take (.int .u64 (y : Int)) rfl (fun u hu => Hold.load1_run hu 1 rfl rfl rfl (GB.out) (cell_u64)) ?_
      simp only [Act.put, List.setIfInBounds_toArray, List.set_cons_zero, List.set_cons_succ]
      refine Steady.take ?_ rfl (by intro u hu; go_simp; with_reducible rfl) ?_
      simp only [Act.put, List.setIfInBounds_toArray, List.set_cons_zero, List.set_cons_succ]
      refine Steady.take ?_ rfl (by intro u hu; go_simp; with_reducible rfl) ?_
      simp only [Act.put, List.setIfInBounds_toArray, List.set_cons_zero, List.set_cons_succ]
      refine Steady.take ?_ rfl (by intro u hu; go_simp; with_reducible rfl) ?_
      simp only [Act.put, List.setIfInBounds_toArray, List.set_cons_zero, List.set_cons_succ]
      refine Steady.nil ?_
      clear HM
      intro w HM
      replace HM := Lib.hid HM
      rw [E1.out]
      go_upto_region 6 with ((first
        | (with_reducible refine Hold.store1 HM.out 0 (c := .int .u64 (s : Int)) (v' := numsV (mixTo A S (k + 1))) rfl rfl rfl rfl rfl (LV.out) (HS1.out) (Hold.cell_int _ _) (cell_u64) ?_; clear HM; intro w HM; simp only [List.set_cons_zero] at HM; replace HM := Lib.hid HM)))
      go_wp2
      go_roundw
      case rel => exact ⟨k + 1, by omega, by go_num, HM.out⟩
      case measure => simp [intOf]; omega
    · have hd3 : decide ((k : Int) < 5) = false := by simp; omega
      obtain rfl : k = 5 := by omega
      have hm := HM.out
      clear HM
      rw [mixTo_end LA.out HS5.out] at hm
      have HM := Lib.hid hm
      clear hm
      have e36 := E36.out
      go_upto_region 8 with ((first
        | (with_reducible refine Hold.load1 HM.out 0 (c := .int .u64 (s0 : Int)) rfl rfl rfl rfl (GS0.out) (cell_u64) ?_)
        | (with_reducible refine Hold.store1 HM.out 0 (c := .int .u64 (t0 : Int)) (v' := numsV (S.set 0 t0)) rfl rfl rfl rfl rfl (HLS0.out) (HSET0.out) (Hold.cell_int _ _) (cell_u64) ?_; clear HM; intro w HM; simp only [List.set_cons_zero] at HM; replace HM := Lib.hid HM)))
      clear e36
      go_wp2_with ((first
        | (with_reducible refine Hold.load HM.out 0 (cs := numsV (S.set 0 t0)) rfl rfl rfl rfl (Part.all _) (by rw [HFIN.out]; exact row_limbs) ?_)
        | (with_reducible refine (RC.out _).mono ?_; rintro e w ⟨rfl, hb⟩; replace HM := Lib.hid (HM.out.next hb); clear hb)
        | (with_reducible refine Hold.store HM.out 2 (v' := Z) rfl rfl rfl rfl rfl (by simp [HZ.out.1, zeros5_length]) (lay_all (by simp [HZ.out.1, zeros5_length])) (HZ.out.2) (by rw [HZ.out.1]; exact row_limbs) ?_; clear HM; intro w HM; simp only [List.set_cons_zero, List.set_cons_succ] at HM; replace HM := Lib.hid HM)))
      exact bodyPost_ret (Hold.results1 HM.out 2 rfl _ rfl rfl (by rw [HZ.out.1]; exact row_limbs)) rfl ⟨rfl, HM.out.below⟩

set_option maxHeartbeats 1600000 in
theorem swap_any (a b : List Nat) (n : Nat) (w : World) (ha : a.length = 5) (hb : b.length = 5) (la : ∀ i, a.getD i 0 < 18446744073709551616) (lb : ∀ i, b.getD i 0 < 18446744073709551616) (hn : n < 9223372036854775808) :
    Calls Tryz.prog 110 #[.agg (numsV a).toArray, .agg (numsV b).toArray, .int .i64 n] w fun r w' => r = .returned (.tuple #[.agg (numsV (if n % 2 = 1 then b else a)).toArray, .agg (numsV (if n % 2 = 1 then a else b)).toArray]) ∧ Below w.heap.size w w' := by
  obtain ⟨A, hA⟩ : ∃ A, A = if n % 2 = 1 then b else a := ⟨_, rfl⟩
  obtain ⟨B, hB⟩ : ∃ B, B = if n % 2 = 1 then a else b := ⟨_, rfl⟩
  have hA5 : A.length = 5 := by rw [hA]; split <;> assumption
  have hB5 : B.length = 5 := by rw [hB]; split <;> assumption
  have hst : Sw w a b ((((w.alloc (.cells (numsV a).toArray 69)).alloc (.cells (numsV b).toArray 69)).alloc (.cells (fiveL 0 0 0 0 0).toArray 69)).alloc (.cells (fiveL 0 0 0 0 0).toArray 69)) :=
    ⟨(((Whole.made' w _ (numsV a).toArray _ rfl).alloc _).alloc _).alloc _, ((Whole.made' _ _ (numsV b).toArray _ (by simp)).alloc _).alloc _, (Whole.made' _ _ _ _ (by simp)).alloc _, Whole.made' _ _ _ _ (by simp), ((((Below.refl _ _).alloc (Nat.le_refl _) _).alloc (by simp) _).alloc (by simp; omega) _).alloc (by simp; omega) _⟩
  rw [← hA, ← hB]
  have hm := one_and n hn
  obtain ⟨m, hm2⟩ : ∃ m, m = n % 2 := ⟨_, rfl⟩
  have hml : m < 2 := by omega
  rw [← hm2] at hm hA hB
  have HT := Lib.hid hst
  have HA := Lib.hid hA
  have HB := Lib.hid hB
  have HM := Lib.hid hm
  have LA := Lib.hid la
  have LB := Lib.hid lb
  have A5 := Lib.hid hA5
  have B5 := Lib.hid hB5
  have a5 := Lib.hid ha
  have b5 := Lib.hid hb
  clear hst hA hB la lb hA5 hB5 ha hb hm hm2
  go_enter Tryz.func110, Tryz.ntmps110
  go_wp2
  rw [HM.out, wrapN m (by omega)]
  obtain ⟨K, hK⟩ : ∃ K : Int, K = IntKind.u64.wrap (-(m : Int)) := ⟨_, rfl⟩
  rw [← hK]
  have HK := Lib.hid hK
  clear hK HM
  go_loopw [9, 10, 15] (fun _ _ i wr => ∃ k : Nat, k ≤ 5 ∧ i = .int .i64 k ∧ Sw w (mixTo a A k) (mixTo b B k) wr) (fun _ _ i _ => 5 - (intOf i).toNat)
  case atStart => exact ⟨0, by omega, rfl, HT.out⟩
  case round =>
    obtain ⟨k, hk5, rfl, hk⟩ := hrel
    by_cases hlt : k < 5
    · have hd2 : decide ((k : Int) < 5) = true := by simp; omega
      have ik : (k : Int) < 5 := by omega
      have lX : k < (mixTo a A k).length := by rw [mixTo_length, a5.out]; exact hlt
      have lY : k < (mixTo b B k).length := by rw [mixTo_length, b5.out]; exact hlt
      have gX : (mixTo a A k).getD k 0 = a.getD k 0 := by rw [mixTo_get a A k k (by rw [a5.out]; exact hlt), if_neg (by omega)]
      have gY : (mixTo b B k).getD k 0 = b.getD k 0 := by rw [mixTo_get b B k k (by rw [b5.out]; exact hlt), if_neg (by omega)]
      have hX : mixTo a A (k + 1) = (mixTo a A k).set k (A.getD k 0) := rfl
      have hY : mixTo b B (k + 1) = (mixTo b B k).set k (B.getD k 0) := rfl
      have l1 := LA.out k
      have l2 := LB.out k
      have hmx := mask_xor m (a.getD k 0) (b.getD k 0) l1 l2 hml
      rw [← HK.out] at hmx
      obtain ⟨D, hD⟩ : ∃ D, D = if m = 1 then a.getD k 0 ^^^ b.getD k 0 else 0 := ⟨_, rfl⟩
      rw [← hD] at hmx
      have hDl : D < 18446744073709551616 := by
        rw [hD]
        split
        · exact Nat.xor_lt_two_pow (n := 64) l1 l2
        · decide
      have nX : a.getD k 0 ^^^ D = A.getD k 0 := by
        rw [hD, HA.out]
        split
        · rw [← Nat.xor_assoc, Nat.xor_self, Nat.zero_xor]
        · rw [Nat.xor_zero]
      have nY : b.getD k 0 ^^^ D = B.getD k 0 := by
        rw [hD, HB.out]
        split
        · rw [Nat.xor_comm (a.getD k 0), ← Nat.xor_assoc, Nat.xor_self, Nat.zero_xor]
        · rw [Nat.xor_zero]
      rw [← nX] at hX
      rw [← nY] at hY
      have bX := bits_xor_u64_nat (a.getD k 0) D l1 hDl
      have bY := bits_xor_u64_nat (b.getD k 0) D l2 hDl
      generalize mixTo a A k = X at *
      generalize mixTo b B k = Y at *
      generalize a.getD k 0 = x at *
      generalize b.getD k 0 = y at *
      have cx := fun n => num_cell (hk.drewN n).x lX
      have cy := fun n => num_cell (hk.drewN n).y lY
      rw [gX] at cx
      rw [gY] at cy
      have fx := fun n => num_free (hk.drewN n).x lX
      have h2 := fun n => (hk.drewN n).setX k (x ^^^ D)
      have cy2 := fun n => num_cell (h2 n).y lY
      rw [gY] at cy2
      have fy2 := fun n => num_free (h2 n).y lY
      have h3 := fun n => (h2 n).setY k (y ^^^ D)
      have HX := Lib.hid hX
      have HY := Lib.hid hY
      have H3 := Lib.hid h3
      have CX := Lib.hid cx
      have FX := Lib.hid fx
      have CY2 := Lib.hid cy2
      have FY2 := Lib.hid fy2
      have BX := Lib.hid bX
      have BY := Lib.hid bY
      have HMX := Lib.hid hmx
      have cx0 : wr.cell? ⟨w.heap.size, k, none⟩ = some (.int .u64 (x : Int)) := cx 0
      have cy0 : wr.cell? ⟨w.heap.size + 1, k, none⟩ = some (.int .u64 (y : Int)) := cy 0
      clear hk hX hY h2 h3 cx fx cy2 fy2 bX bY hmx gX gY lX lY nX nY hD HT cy
      go_upto_region 5 with (fail)
      go_quiet (fail)
      have cx := CX.out nq
      have fx := FX.out nq
      have hmx := HMX.out
      have bX := BX.out
      clear cx0 cy0
      go_upto_region 7 with (fail)
      have cy2 := CY2.out nq
      have fy2 := FY2.out nq
      have bY := BY.out
      go_wp2
      go_roundw
      case rel => exact ⟨k + 1, by omega, by go_num, by rw [HX.out, HY.out]; exact H3.out nq⟩
      case measure => simp [intOf]; omega
    · have hd2 : decide ((k : Int) < 5) = false := by simp; omega
      obtain rfl : k = 5 := by omega
      rw [mixTo_end a5.out A5.out, mixTo_end b5.out B5.out] at hk
      have HF := Lib.hid hk
      obtain ⟨r0, r1, r2, r3, r4, hr⟩ := list_five A5.out
      obtain ⟨s0, s1, s2, s3, s4, hs⟩ := list_five B5.out
      clear hk HA HB HT A5 B5 a5 b5 LA LB
      subst hr hs
      have hfx : Whole wr w.heap.size 69 (fiveL r0 r1 r2 r3 r4) := HF.out.x
      have hfy : Whole wr (w.heap.size + 1) 69 (fiveL s0 s1 s2 s3 s4) := HF.out.y
      have hz := HF.out.z
      have hz' := HF.out.z'
      have c0 := hfx.row.cell (i := 0) rfl
      have c1 := hfx.row.cell (i := 1) rfl
      have c2 := hfx.row.cell (i := 2) rfl
      have c3 := hfx.row.cell (i := 3) rfl
      have c4 := hfx.row.cell (i := 4) rfl
      have d0 := hfy.row.cell (i := 0) rfl
      have d1 := hfy.row.cell (i := 1) rfl
      have d2 := hfy.row.cell (i := 2) rfl
      have d3 := hfy.row.cell (i := 3) rfl
      have d4 := hfy.row.cell (i := 4) rfl
      have z0 := hz.row.cell (i := 0) rfl
      have z1 := hz.row.cell (i := 1) rfl
      have z2 := hz.row.cell (i := 2) rfl
      have z3 := hz.row.cell (i := 3) rfl
      have z4 := hz.row.cell (i := 4) rfl
      have y0 := hz'.row.cell (i := 0) rfl
      have y1 := hz'.row.cell (i := 1) rfl
      have y2 := hz'.row.cell (i := 2) rfl
      have y3 := hz'.row.cell (i := 3) rfl
      have y4 := hz'.row.cell (i := 4) rfl
      have f0 := hz.row.free (i := 0) (by decide)
      have f1 := hz.row.free (i := 1) (by decide)
      have f2 := hz.row.free (i := 2) (by decide)
      have f3 := hz.row.free (i := 3) (by decide)
      have f4 := hz.row.free (i := 4) (by decide)
      have g0 := hz'.row.free (i := 0) (by decide)
      have g1 := hz'.row.free (i := 1) (by decide)
      have g2 := hz'.row.free (i := 2) (by decide)
      have g3 := hz'.row.free (i := 3) (by decide)
      have g4 := hz'.row.free (i := 4) (by decide)
      clear hfx hfy hz hz'
      go_upto_region 9 with (fail)
      go_region
      all_goals go_wp2
      have HB := HF.out.below
      all_goals exact bodyPost_ret (v := .tuple #[five r0 r1 r2 r3 r4, five s0 s1 s2 s3 s4]) (by simp [results, Tryz.results110, go_sem, z0, z1, z2, z3, z4, y0, y1, y2, y3, y4]) rfl ⟨rfl, by first | exact (set5 (set5 HB (b := w.heap.size + 1 + 1) (by omega) _ _ _ _ _) (b := w.heap.size + 1 + 1 + 1) (by omega) _ _ _ _ _).drew | exact (set5 (set5 HB (b := w.heap.size + 1 + 1 + 1) (by omega) _ _ _ _ _) (b := w.heap.size + 1 + 1) (by omega) _ _ _ _ _).drew⟩

theorem swap_val {v v' : Value} {N N' n : Nat} (h : Lims v N) (h' : Lims v' N') (hn : n < 9223372036854775808) (u : World) :
    Calls Tryz.prog 110 #[v, v', .int .i64 n] u fun r w' => r = .returned (.tuple #[if n % 2 = 1 then v' else v, if n % 2 = 1 then v else v']) ∧ Below u.heap.size u w' := by
  obtain ⟨a, b, c, d, e, rfl, hw, rfl⟩ := h
  obtain ⟨a', b', c', d', e', rfl, hw', rfl⟩ := h'
  obtain ⟨g0, g1, g2, g3, g4⟩ := hw
  obtain ⟨k0, k1, k2, k3, k4⟩ := hw'
  have := swap_any [a, b, c, d, e] [a', b', c', d', e'] n u rfl rfl (fun i => by
    match i with
    | 0 => exact g0
    | 1 => exact g1
    | 2 => exact g2
    | 3 => exact g3
    | 4 => exact g4
    | i + 5 => exact (by decide : (0 : Nat) < 18446744073709551616)) (fun i => by
    match i with
    | 0 => exact k0
    | 1 => exact k1
    | 2 => exact k2
    | 3 => exact k3
    | 4 => exact k4
    | i + 5 => exact (by decide : (0 : Nat) < 18446744073709551616)) hn
  by_cases hm : n % 2 = 1
  · simp only [if_pos hm] at this ⊢
    exact this
  · simp only [if_neg hm] at this ⊢
    exact this

theorem swaps_l {X Y : List Value} {N M n : Nat} (h : LimL X N) (h' : LimL Y M) (hn : n < 9223372036854775808) (u : World) : Calls Tryz.prog 110 #[.agg X.toArray, .agg Y.toArray, .int .i64 n] u fun r w' => r = .returned (.tuple #[.agg (if n % 2 = 1 then Y else X).toArray, .agg (if n % 2 = 1 then X else Y).toArray]) ∧ Below u.heap.size u w' := by
  have := swap_val h h' hn u
  by_cases e : n % 2 = 1
  · simp only [if_pos e] at this ⊢
    exact this
  · simp only [if_neg e] at this ⊢
    exact this
end Go.Proofs.YtolmfimpaofefaaGreatDoor.RefLimb
