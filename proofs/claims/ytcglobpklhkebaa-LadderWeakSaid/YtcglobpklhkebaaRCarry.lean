/-
  The document's Carry of layer 5 answers the reduced limbs of the worth, and leaves all memory that was there as it was. Condition: words below 2^64.
-/
import Derived.Test.YtcglobpklhkebaaRCarM
namespace Go.Proofs.Ytcglobpklhkebaa.RefLimb
open Go.RowKit Mur Lanes Limb Hold
set_option maxRecDepth 100000

/-- Limbs that have room. -/
def RoomV (Y : List Value) (M : Nat) : Prop := ∃ X : List Nat, Y = numsV X ∧ RoomL X ∧ worL X = M
theorem RoomV.len {Y : List Value} {M : Nat} (h : RoomV Y M) : Y.length = 5 := by
  obtain ⟨X, rfl, h, -⟩ := h
  rw [numsV_length, h.1]
theorem single_nums (X : List Nat) : Single (numsV X) := by
  unfold Single numsV
  simp [Value.oneCell']
theorem single_limL (n : Nat) : Single (limL n) := single_nums _
theorem limL_length (n : Nat) : (limL n).length = 5 := rfl
theorem RoomV.one {Y : List Value} {M : Nat} (h : RoomV Y M) : Single Y := by
  obtain ⟨X, rfl, -, -⟩ := h
  exact single_nums X
theorem RoomV.limL {Y : List Value} {M : Nat} (h : RoomV Y M) : LimL Y M := by
  obtain ⟨X, rfl, h, rfl⟩ := h
  have e := list_nat5 h.1
  have h0 := h.2 0
  have h1 := h.2 1
  have h2 := h.2 2
  have h3 := h.2 3
  have h4 := h.2 4
  unfold worL
  generalize X.getD 0 0 = a at *
  generalize X.getD 1 0 = b at *
  generalize X.getD 2 0 = c at *
  generalize X.getD 3 0 = d at *
  generalize X.getD 4 0 = f at *
  rw [e]
  exact LimL.ofFive (a := a) (b := b) (c := c) (d := d) (e := f) (by unfold Words5; omega)
theorem room_five {a b c d e : Nat} (h : Limb.Roomy a b c d e) : RoomV (fiveL a b c d e) (wor a b c d e) := by
  obtain ⟨h0, h1, h2, h3, h4⟩ := h
  refine ⟨[a, b, c, d, e], rfl, ⟨rfl, fun i => ?_⟩, rfl⟩
  match i with
  | 0 => exact h0
  | 1 => exact h1
  | 2 => exact h2
  | 3 => exact h3
  | 4 => exact h4
  | i + 5 => exact (by decide : (0 : Nat) < 2251799813947392)
theorem small_l {X : List Value} {N : Nat} (h : LimL X N) : ∃ Y M, RoomV Y M ∧ M % Prime.P = N % Prime.P ∧ ∀ u, Calls Try.prog 53 #[.agg X.toArray] u fun r w' => r = .returned (.agg Y.toArray) ∧ Below u.heap.size u w' := by
  obtain ⟨a, b, c, d, e, rfl, hw, rfl⟩ := h.out
  exact ⟨_, _, room_five (eased_roomy hw), eased_mod a b c d e, fun u => small_any a b c d e u hw⟩
theorem times_l {X Y : List Value} {N M : Nat} (h : RoomV X N) (h' : RoomV Y M) : ∃ Z K, RoomV Z K ∧ K % Prime.P = N * M % Prime.P ∧ ∀ u, Calls Try.prog 59 #[.agg X.toArray, .agg Y.toArray] u fun r w' => r = .returned (.agg Z.toArray) ∧ Below u.heap.size u w' := by
  obtain ⟨A, rfl, ha, rfl⟩ := h
  obtain ⟨B, rfl, hb, rfl⟩ := h'
  have hc := car_le ha hb 5
  have hw := times_wor (A.getD 0 0) (A.getD 1 0) (A.getD 2 0) (A.getD 3 0) (A.getD 4 0) (B.getD 0 0) (B.getD 1 0) (B.getD 2 0) (B.getD 3 0) (B.getD 4 0)
  rw [← list_nat5 ha.1, ← list_nat5 hb.1] at hw
  change _ = worL A * worL B % Prime.P at hw
  have ho : ∀ i, i < 5 → (outL A B).getD i 0 < 2251799813685248 := fun i hi => by rw [outL_at _ _ _ hi]; exact Nat.mod_lt _ (by decide)
  have h5 : ((outL A B).set 0 ((outL A B).getD 0 0 + 19 * car A B 5)) = [(outL A B).getD 0 0 + 19 * car A B 5, (outL A B).getD 1 0, (outL A B).getD 2 0, (outL A B).getD 3 0, (outL A B).getD 4 0] := by
    have e := list_nat5 (X := outL A B) rfl
    conv => lhs; rw [e]
    rfl
  have o0 := ho 0 (by decide)
  have o1 := ho 1 (by decide)
  have o2 := ho 2 (by decide)
  have o3 := ho 3 (by decide)
  have o4 := ho 4 (by decide)
  obtain ⟨Z, K, hZ, hK, hR⟩ := small_l (LimL.ofFive (a := (outL A B).getD 0 0 + 19 * car A B 5) (b := (outL A B).getD 1 0) (c := (outL A B).getD 2 0) (d := (outL A B).getD 3 0) (e := (outL A B).getD 4 0) (by unfold Words5; omega))
  refine ⟨Z, K, hZ, hK.trans hw, fun u => ?_⟩
  refine times_list A B Z u ha hb ⟨hZ.len, hZ.one⟩ ?_
  rw [h5]
  exact hR

set_option maxHeartbeats 6400000 in
theorem carry_l {V : List Value} {N : Nat} (hV : LimL V N) (w0 : World) :
    Calls Try.prog 15 #[.agg V.toArray] w0 fun r w' => r = .returned (.agg (limL (N % Prime.P)).toArray) ∧ Below w0.heap.size w0 w' := by
  obtain ⟨Y, M, hY, hM, r1⟩ := small_l hV
  obtain ⟨X0, rfl, hX0, rfl⟩ := hY
  rw [← hM]
  obtain ⟨R, hR⟩ : ∃ R, R = worL X0 % Prime.P := ⟨_, rfl⟩
  rw [← hR]
  have R1 := Lib.hid r1
  have HV := Lib.hid (show V.length = 5 ∧ Single V from ⟨hV.len, hV.one⟩)
  have HX0 := Lib.hid hX0
  have HR := Lib.hid hR
  have HL0 := Lib.hid (show (numsV X0).length = 5 by rw [numsV_length, hX0.1])
  have HM := Lib.hid (Hld.start w0)
  clear hV hM hX0 r1 hR
  go_enter Try.func15, Try.ntmps15
  go_upto_region 2 with ((first
    | (with_reducible refine Hold.box HM.out rfl rfl rfl ?_; clear HM; intro bx w HM; simp only [List.nil_append] at HM; replace HM := Lib.hid HM)
    | (with_reducible refine Hold.alloc HM.out rfl rfl zeros5 zero_limbs5 ?_; clear HM; intro br w HM; simp only [List.nil_append, List.cons_append] at HM; replace HM := Lib.hid HM)
    | (with_reducible refine Hold.load HM.out 0 (cs := V) rfl rfl rfl rfl (Part.all _) (by rw [HV.out.1]; exact row_limbs) ?_)
    | (with_reducible refine (R1.out _).mono ?_; rintro e w ⟨rfl, hb⟩; replace HM := Lib.hid (HM.out.next hb); clear hb)
    | (with_reducible refine Hold.store HM.out 0 (v' := numsV X0) rfl rfl rfl rfl rfl (by rw [Nat.zero_add, HL0.out, HV.out.1]; exact Nat.le_refl _) (lay_all (HV.out.1.trans HL0.out.symm)) (single_nums _) (by rw [HL0.out]; exact row_limbs) ?_; clear HM; intro w HM; simp only [List.set_cons_zero] at HM; replace HM := Lib.hid HM)))
  go_wp2
  go_loopw [3, 4, 11] (fun _ _ i wr => ∃ n : Nat, n ≤ 3 ∧ i = .int .i64 n ∧ ∃ X : List Nat, RoomL X ∧ worL X % Prime.P = R ∧ Hld w0 [⟨bx, 24, numsV X⟩, ⟨br, 24, zeros5⟩] wr) (fun _ _ i _ => 3 - (intOf i).toNat)
  case atStart => exact ⟨0, by omega, rfl, X0, HX0.out, HR.out.symm, HM.out⟩
  case round =>
    obtain ⟨n, hn3, rfl, X, hX, hXR, hm⟩ := hrel
    clear HM HX0 HL0 HV R1 HR
    have HM := Lib.hid hm
    have HB := Lib.hid hX.big
    have HX := Lib.hid hX
    have HXR := Lib.hid hXR
    clear hm hX hXR
    by_cases hlt : n < 3
    · have hd2 : decide ((n : Int) < 3) = true := by simp; omega
      go_upto_region 4 with (fail)
      go_wp2
      go_loopw [3, 4, 13] (fun c _ j w' => ∃ k : Nat, k ≤ 5 ∧ j = .int .i64 k ∧ c = .int .u64 ((cc X k : Nat) : Int) ∧ Hld w0 [⟨bx, 24, numsV (mixTo X (carried X) k)⟩, ⟨br, 24, zeros5⟩] w') (fun _ _ j _ => 5 - (intOf j).toNat)
      case atStart => exact ⟨0, by omega, rfl, rfl, HM.out⟩
      case round =>
        obtain ⟨k, hk5, rfl, rfl, hm⟩ := hrel
        clear HM
        have HM := Lib.hid hm
        clear hm
        by_cases hlk : k < 5
        · have hd3 : decide ((k : Int) < 5) = true := by simp; omega
          have ik : (k : Int) < 5 := by omega
          have lX : k < (mixTo X (carried X) k).length := by rw [mixTo_length, HB.out.1]; exact hlk
          have gX : (mixTo X (carried X) k).getD k 0 = X.getD k 0 := by rw [mixTo_get X (carried X) k k (by rw [HB.out.1]; exact hlk), if_neg (by omega)]
          have hxb := HB.out.2 k
          have hcb := cc_le HB.out k
          have hnx : mixTo X (carried X) (k + 1) = (mixTo X (carried X) k).set k ((X.getD k 0 + cc X k) % 2251799813685248) := by rw [← carried_at X k hlk]; rfl
          have hcn : cc X (k + 1) = (X.getD k 0 + cc X k) / 2251799813685248 := rfl
          have hm := HM.out
          clear HM
          generalize mixTo X (carried X) k = M at *
          have gM := nums_get lX
          rw [gX] at gM
          obtain ⟨x, hx⟩ : ∃ x, x = X.getD k 0 := ⟨_, rfl⟩
          obtain ⟨c, hc⟩ : ∃ x, x = cc X k := ⟨_, rfl⟩
          rw [← hx] at gM hxb hnx hcn
          rw [← hc] at hcb hnx hcn
          rw [← hc]
          obtain ⟨s, hs⟩ : ∃ s, s = x + c := ⟨_, rfl⟩
          obtain ⟨m, hmm⟩ : ∃ m, m = s % 2251799813685248 := ⟨_, rfl⟩
          obtain ⟨d, hd⟩ : ∃ d, d = s / 2251799813685248 := ⟨_, rfl⟩
          rw [← hs, ← hmm] at hnx
          rw [← hs, ← hd] at hcn
          have e1 : IntKind.u64.wrap ((x : Int) + (c : Int)) = (s : Int) := by rw [addN, wrapN _ (by omega), hs]
          have e2 : (s : Int) / 2251799813685248 = (d : Int) := by omega
          have e3 : bits .and .u64 (s : Int) 2251799813685247 = (m : Int) := by rw [mask51 _ (by omega), hmm]
          have lV : k < (numsV M).length := by rw [numsV_length]; exact lX
          have gs : (numsV (M.set k s))[k]? = some (.int .u64 (s : Int)) := by
            rw [nums_get (by rw [List.length_set]; exact lX)]
            simp [List.getD, lX]
          have hs1 : (numsV M).set k (.int .u64 (s : Int)) = numsV (M.set k s) := numsV_set M k s
          have hs2 : (numsV (M.set k s)).set k (.int .u64 (m : Int)) = numsV (mixTo X (carried X) (k + 1)) := by rw [numsV_set, List.set_set, hnx]
          have lV2 : k < (numsV (M.set k s)).length := by rw [numsV_length, List.length_set]; exact lX
          have HM := Lib.hid hm
          have GM := Lib.hid gM
          have GS := Lib.hid gs
          have E1 := Lib.hid e1
          have E2 := Lib.hid e2
          have E3 := Lib.hid e3
          have LV := Lib.hid lV
          have LV2 := Lib.hid lV2
          have HS1 := Lib.hid hs1
          have HS2 := Lib.hid hs2
          have HCN := Lib.hid hcn
          clear hm gM gs e1 e2 e3 lV lV2 hs1 hs2 hcn hnx lX gX hx hc hs hmm hd hxb hcb
          go_upto_region 8 with (fail)
          have e1 := E1.out
          go_upto_region 9 with ((first
            | (with_reducible refine Hold.load1 HM.out 0 (c := .int .u64 (x : Int)) rfl rfl rfl rfl (GM.out) (cell_u64) ?_)
            | (with_reducible refine Hold.store1 HM.out 0 (c := .int .u64 (s : Int)) (v' := numsV (M.set k s)) rfl rfl rfl rfl rfl (LV.out) (HS1.out) (Hold.cell_int _ _) (cell_u64) ?_; clear HM; intro w HM; simp only [List.set_cons_zero] at HM; replace HM := Lib.hid HM)))
          clear e1
          have e2 := E2.out
          go_upto_region 10 with ((first
            | (with_reducible refine Hold.load1 HM.out 0 (c := .int .u64 (s : Int)) rfl rfl rfl rfl (GS.out) (cell_u64) ?_)))
          clear e2
          have e3 := E3.out
          go_upto_region 11 with ((first
            | (with_reducible refine Hold.load1 HM.out 0 (c := .int .u64 (s : Int)) rfl rfl rfl rfl (GS.out) (cell_u64) ?_)
            | (with_reducible refine Hold.store1 HM.out 0 (c := .int .u64 (m : Int)) (v' := numsV (mixTo X (carried X) (k + 1))) rfl rfl rfl rfl rfl (LV2.out) (HS2.out) (Hold.cell_int _ _) (cell_u64) ?_; clear HM; intro w HM; simp only [List.set_cons_zero] at HM; replace HM := Lib.hid HM)))
          clear e3
          go_wp2
          go_roundw
          case rel => exact ⟨k + 1, by omega, by go_num, by rw [HCN.out], HM.out⟩
          case measure => simp [intOf]; omega
        · have hd3 : decide ((k : Int) < 5) = false := by simp; omega
          obtain rfl : k = 5 := by omega
          have hm := HM.out
          clear HM
          rw [mixTo_end HB.out.1 rfl] at hm
          have hok := rnd_ok HX.out
          have hcl : (carried X).getD 0 0 < 2251799813685248 := by rw [carried_at _ _ (by decide)]; exact Nat.mod_lt _ (by decide)
          have hcb := cc_le HB.out 5
          have hrn : rnd X = (carried X).set 0 ((carried X).getD 0 0 + 19 * cc X 5) := rfl
          have hlen := carried_length X
          generalize carried X = Y at *
          obtain ⟨c, hc⟩ : ∃ x, x = cc X 5 := ⟨_, rfl⟩
          rw [← hc] at hcb hrn
          rw [← hc]
          obtain ⟨y, hy⟩ : ∃ x, x = Y.getD 0 0 := ⟨_, rfl⟩
          rw [← hy] at hcl hrn
          obtain ⟨z, hz⟩ : ∃ x, x = 19 * c := ⟨_, rfl⟩
          obtain ⟨v, hv⟩ : ∃ x, x = y + z := ⟨_, rfl⟩
          rw [← hz, ← hv] at hrn
          have e1 : IntKind.u64.wrap (19 * (c : Int)) = (z : Int) := by rw [mul19', wrapN _ (by omega), hz]
          have e2 : IntKind.u64.wrap ((y : Int) + (z : Int)) = (v : Int) := by rw [addN, wrapN _ (by omega), hv]
          have gy : (numsV Y)[0]? = some (.int .u64 (y : Int)) := by rw [hy]; exact nums_get (by rw [hlen]; decide)
          have hs : (numsV Y).set 0 (.int .u64 (v : Int)) = numsV (rnd X) := by rw [numsV_set, hrn]
          have lY : 0 < (numsV Y).length := by rw [numsV_length, hlen]; decide
          have HM := Lib.hid hm
          have GY := Lib.hid gy
          have HS := Lib.hid hs
          have LY := Lib.hid lY
          have HOK := Lib.hid (show RoomL (rnd X) ∧ worL (rnd X) % Prime.P = R from ⟨hok.1, hok.2.trans HXR.out⟩)
          clear hm hok hcl hcb hrn hlen hc hy hz hv gy hs lY
          go_upto_region 13 with ((first
            | (with_reducible refine Hold.load1 HM.out 0 (c := .int .u64 (y : Int)) rfl rfl rfl rfl (GY.out) (cell_u64) ?_)
            | (with_reducible refine Hold.store1 HM.out 0 (c := .int .u64 (v : Int)) (v' := numsV (rnd X)) rfl rfl rfl rfl rfl (LY.out) (HS.out) (Hold.cell_int _ _) (cell_u64) ?_; clear HM; intro w HM; simp only [List.set_cons_zero] at HM; replace HM := Lib.hid HM)))
          clear e1 e2
          go_wp2
          go_roundw
          case rel => exact ⟨n + 1, by omega, by go_num, rnd X, HOK.out.1, HOK.out.2, HM.out⟩
          case measure => simp [intOf]; omega
    · have hd2 : decide ((n : Int) < 3) = false := by simp; omega
      obtain rfl : n = 3 := by omega
      have hlast := last_ok HX.out
      have hlen := HX.out.1
      have hbig := HB.out
      obtain ⟨x0, hx0⟩ : ∃ x, x = X.getD 0 0 := ⟨_, rfl⟩
      have hx0l := hbig.2 0
      rw [← hx0] at hx0l
      have hq0 : qc X 0 = (x0 + 19) / 2251799813685248 := by rw [hx0]; rfl
      obtain ⟨q0, hq0e⟩ : ∃ q, q = qc X 0 := ⟨_, rfl⟩
      rw [← hq0e] at hq0
      have e1 : IntKind.u64.wrap ((x0 : Int) + 19) = (x0 : Int) + 19 := by rw [add19, wrapN _ (by omega)]
      have e2 : ((x0 : Int) + 19) / 2251799813685248 = (q0 : Int) := by omega
      have g0 : (numsV X)[0]? = some (.int .u64 (x0 : Int)) := by rw [hx0]; exact nums_get (by rw [hlen]; decide)
      have HLAST := Lib.hid hlast
      have HLEN := Lib.hid hlen
      have HX0 := Lib.hid hx0
      have HQ0 := Lib.hid hq0e
      have G0 := Lib.hid g0
      clear hlast hlen hbig hx0 hq0 hq0e hx0l g0
      go_upto_region 15 with ((first
        | (with_reducible refine Hold.load1 HM.out 0 (c := .int .u64 (x0 : Int)) rfl rfl rfl rfl (G0.out) (cell_u64) ?_)))
      clear e1 e2
      go_wp2
      go_loopw [5, 6] (fun q i w' => ∃ k : Nat, 1 ≤ k ∧ k ≤ 5 ∧ i = .int .i64 k ∧ q = .int .u64 ((qc X (k - 1) : Nat) : Int) ∧ Hld w0 [⟨bx, 24, numsV X⟩, ⟨br, 24, zeros5⟩] w') (fun _ i _ => 5 - (intOf i).toNat)
      case atStart => exact ⟨1, by omega, by omega, rfl, by rw [HQ0.out], HM.out⟩
      case round =>
        obtain ⟨k, hk1, hk5, rfl, rfl, hm⟩ := hrel
        clear HM
        have HM := Lib.hid hm
        clear hm
        by_cases hlk : k < 5
        · have hd3 : decide ((k : Int) < 5) = true := by simp; omega
          have ik : (k : Int) < 5 := by omega
          have gx := nums_get (X := X) (i := k) (by rw [HLEN.out]; exact hlk)
          have hxb := HB.out.2 k
          have hqb := qc_le HB.out (k - 1)
          have hqn : qc X (k + 1 - 1) = (X.getD k 0 + qc X (k - 1)) / 2251799813685248 := by
            obtain ⟨j, rfl⟩ : ∃ j, k = j + 1 := ⟨k - 1, by omega⟩
            rfl
          obtain ⟨x, hx⟩ : ∃ x, x = X.getD k 0 := ⟨_, rfl⟩
          obtain ⟨q, hq⟩ : ∃ x, x = qc X (k - 1) := ⟨_, rfl⟩
          rw [← hx] at gx hxb hqn
          rw [← hq] at hqb hqn
          rw [← hq]
          obtain ⟨d, hd⟩ : ∃ d, d = (x + q) / 2251799813685248 := ⟨_, rfl⟩
          rw [← hd] at hqn
          have e1 : IntKind.u64.wrap ((x : Int) + (q : Int)) = (x : Int) + (q : Int) := by rw [addN, wrapN _ (by omega)]
          have e2 : ((x : Int) + (q : Int)) / 2251799813685248 = (d : Int) := by omega
          have GX := Lib.hid gx
          have HQN := Lib.hid hqn
          clear gx hqn hx hq hd hxb hqb
          go_upto_region 17 with ((first
            | (with_reducible refine Hold.load1 HM.out 0 (c := .int .u64 (x : Int)) rfl rfl rfl rfl (GX.out) (cell_u64) ?_)))
          clear e1 e2
          go_wp2
          go_roundw
          case rel => exact ⟨k + 1, by omega, by omega, by go_num, by rw [HQN.out], HM.out⟩
          case measure => simp [intOf]; omega
        · have hd3 : decide ((k : Int) < 5) = false := by simp; omega
          obtain rfl : k = 5 := by omega
          have hlast := HLAST.out
          rw [← HX0.out] at hlast
          have hqb := qc_le HB.out 4
          have hx0l := HB.out.2 0
          rw [← HX0.out] at hx0l
          obtain ⟨q, hq⟩ : ∃ x, x = qc X (5 - 1) := ⟨_, rfl⟩
          rw [show qc X 4 = q from hq.symm] at hlast hqb
          rw [← hq]
          obtain ⟨z, hz⟩ : ∃ x, x = 19 * q := ⟨_, rfl⟩
          obtain ⟨v, hv⟩ : ∃ x, x = x0 + z := ⟨_, rfl⟩
          rw [← hz, ← hv] at hlast
          have e1 : IntKind.u64.wrap (19 * (q : Int)) = (z : Int) := by rw [mul19', wrapN _ (by omega), hz]
          have e2 : IntKind.u64.wrap ((x0 : Int) + (z : Int)) = (v : Int) := by rw [addN, wrapN _ (by omega), hv]
          obtain ⟨X2, hX2⟩ : ∃ X2, X2 = X.set 0 v := ⟨_, rfl⟩
          rw [← hX2] at hlast
          have hs : (numsV X).set 0 (.int .u64 (v : Int)) = numsV X2 := by rw [numsV_set, hX2]
          have lX : 0 < (numsV X).length := by rw [numsV_length, HLEN.out]; decide
          have HS := Lib.hid hs
          have LX := Lib.hid lX
          have HB2 := Lib.hid hlast.1
          have HC2 := Lib.hid (show carried X2 = lim R by rw [hlast.2, HXR.out])
          clear hs lX hlast hX2 hz hv hq hqb hx0l
          go_upto_region 20 with ((first
            | (with_reducible refine Hold.load1 HM.out 0 (c := .int .u64 (x0 : Int)) rfl rfl rfl rfl (G0.out) (cell_u64) ?_)
            | (with_reducible refine Hold.store1 HM.out 0 (c := .int .u64 (v : Int)) (v' := numsV X2) rfl rfl rfl rfl rfl (LX.out) (HS.out) (Hold.cell_int _ _) (cell_u64) ?_; clear HM; intro w HM; simp only [List.set_cons_zero] at HM; replace HM := Lib.hid HM)))
          clear e1 e2
          go_wp2
          go_loopw [7, 8, 59] (fun c _ j w' => ∃ k : Nat, k ≤ 5 ∧ j = .int .i64 k ∧ c = .int .u64 ((cc X2 k : Nat) : Int) ∧ Hld w0 [⟨bx, 24, numsV (mixTo X2 (carried X2) k)⟩, ⟨br, 24, zeros5⟩] w') (fun _ _ j _ => 5 - (intOf j).toNat)
          case atStart => exact ⟨0, by omega, rfl, rfl, HM.out⟩
          case round =>
            obtain ⟨k, hk5, rfl, rfl, hm⟩ := hrel
            clear HM
            have HM := Lib.hid hm
            clear hm
            by_cases hlk : k < 5
            · have hd3 : decide ((k : Int) < 5) = true := by simp; omega
              have ik : (k : Int) < 5 := by omega
              have lX : k < (mixTo X2 (carried X2) k).length := by rw [mixTo_length, HB2.out.1]; exact hlk
              have gX : (mixTo X2 (carried X2) k).getD k 0 = X2.getD k 0 := by rw [mixTo_get X2 (carried X2) k k (by rw [HB2.out.1]; exact hlk), if_neg (by omega)]
              have hxb := HB2.out.2 k
              have hcb := cc_le HB2.out k
              have hnx : mixTo X2 (carried X2) (k + 1) = (mixTo X2 (carried X2) k).set k ((X2.getD k 0 + cc X2 k) % 2251799813685248) := by rw [← carried_at X2 k hlk]; rfl
              have hcn : cc X2 (k + 1) = (X2.getD k 0 + cc X2 k) / 2251799813685248 := rfl
              have hm := HM.out
              clear HM
              generalize mixTo X2 (carried X2) k = M at *
              have gM := nums_get lX
              rw [gX] at gM
              obtain ⟨x, hx⟩ : ∃ x, x = X2.getD k 0 := ⟨_, rfl⟩
              obtain ⟨c, hc⟩ : ∃ x, x = cc X2 k := ⟨_, rfl⟩
              rw [← hx] at gM hxb hnx hcn
              rw [← hc] at hcb hnx hcn
              rw [← hc]
              obtain ⟨s, hs⟩ : ∃ s, s = x + c := ⟨_, rfl⟩
              obtain ⟨m, hmm⟩ : ∃ m, m = s % 2251799813685248 := ⟨_, rfl⟩
              obtain ⟨d, hd⟩ : ∃ d, d = s / 2251799813685248 := ⟨_, rfl⟩
              rw [← hs, ← hmm] at hnx
              rw [← hs, ← hd] at hcn
              have e1 : IntKind.u64.wrap ((x : Int) + (c : Int)) = (s : Int) := by rw [addN, wrapN _ (by omega), hs]
              have e2 : (s : Int) / 2251799813685248 = (d : Int) := by omega
              have e3 : bits .and .u64 (s : Int) 2251799813685247 = (m : Int) := by rw [mask51 _ (by omega), hmm]
              have lV : k < (numsV M).length := by rw [numsV_length]; exact lX
              have gs : (numsV (M.set k s))[k]? = some (.int .u64 (s : Int)) := by
                rw [nums_get (by rw [List.length_set]; exact lX)]
                simp [List.getD, lX]
              have hs1 : (numsV M).set k (.int .u64 (s : Int)) = numsV (M.set k s) := numsV_set M k s
              have hs2 : (numsV (M.set k s)).set k (.int .u64 (m : Int)) = numsV (mixTo X2 (carried X2) (k + 1)) := by rw [numsV_set, List.set_set, hnx]
              have lV2 : k < (numsV (M.set k s)).length := by rw [numsV_length, List.length_set]; exact lX
              have HM := Lib.hid hm
              have GM := Lib.hid gM
              have GS := Lib.hid gs
              have E1 := Lib.hid e1
              have E2 := Lib.hid e2
              have E3 := Lib.hid e3
              have LV := Lib.hid lV
              have LV2 := Lib.hid lV2
              have HS1 := Lib.hid hs1
              have HS2 := Lib.hid hs2
              have HCN := Lib.hid hcn
              clear hm gM gs e1 e2 e3 lV lV2 hs1 hs2 hcn hnx lX gX hx hc hs hmm hd hxb hcb
              go_upto_region 24 with (fail)
              have e1 := E1.out
              go_upto_region 25 with ((first
                | (with_reducible refine Hold.load1 HM.out 0 (c := .int .u64 (x : Int)) rfl rfl rfl rfl (GM.out) (cell_u64) ?_)
                | (with_reducible refine Hold.store1 HM.out 0 (c := .int .u64 (s : Int)) (v' := numsV (M.set k s)) rfl rfl rfl rfl rfl (LV.out) (HS1.out) (Hold.cell_int _ _) (cell_u64) ?_; clear HM; intro w HM; simp only [List.set_cons_zero] at HM; replace HM := Lib.hid HM)))
              clear e1
              have e2 := E2.out
              go_upto_region 26 with ((first
                | (with_reducible refine Hold.load1 HM.out 0 (c := .int .u64 (s : Int)) rfl rfl rfl rfl (GS.out) (cell_u64) ?_)))
              clear e2
              have e3 := E3.out
              go_upto_region 27 with ((first
                | (with_reducible refine Hold.load1 HM.out 0 (c := .int .u64 (s : Int)) rfl rfl rfl rfl (GS.out) (cell_u64) ?_)
                | (with_reducible refine Hold.store1 HM.out 0 (c := .int .u64 (m : Int)) (v' := numsV (mixTo X2 (carried X2) (k + 1))) rfl rfl rfl rfl rfl (LV2.out) (HS2.out) (Hold.cell_int _ _) (cell_u64) ?_; clear HM; intro w HM; simp only [List.set_cons_zero] at HM; replace HM := Lib.hid HM)))
              clear e3
              go_wp2
              go_roundw
              case rel => exact ⟨k + 1, by omega, by go_num, by rw [HCN.out], HM.out⟩
              case measure => simp [intOf]; omega
            · have hd3 : decide ((k : Int) < 5) = false := by simp; omega
              obtain rfl : k = 5 := by omega
              have hm := HM.out
              clear HM
              rw [mixTo_end HB2.out.1 rfl] at hm
              rw [HC2.out] at hm
              have HM := Lib.hid (show Hld w0 [⟨bx, 24, limL R⟩, ⟨br, 24, zeros5⟩] _ from hm)
              have hl : (limL R).length = 5 := rfl
              have HL := Lib.hid hl
              clear hm hl
              go_wp2_with ((first
                | (with_reducible refine Hold.load HM.out 0 (cs := limL R) rfl rfl rfl rfl (Part.all _) (by rw [HL.out]; exact row_limbs) ?_)
                | (with_reducible refine Hold.store HM.out 1 (v' := limL R) rfl rfl rfl rfl rfl (by rw [Nat.zero_add, HL.out, zeros5_length]; exact Nat.le_refl _) (lay_all (zeros5_length.trans HL.out.symm)) (single_limL _) (by rw [HL.out]; exact row_limbs) ?_; clear HM; intro w HM; simp only [List.set_cons_zero, List.set_cons_succ] at HM; replace HM := Lib.hid HM)))
              exact bodyPost_ret (Hold.results1 HM.out 1 rfl _ rfl rfl (by rw [HL.out]; exact row_limbs)) rfl ⟨rfl, HM.out.below⟩
end Go.Proofs.Ytcglobpklhkebaa.RefLimb
