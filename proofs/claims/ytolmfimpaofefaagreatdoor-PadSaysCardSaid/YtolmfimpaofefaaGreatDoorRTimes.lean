/-
  The product of the document's own answer for layer 5 (times) answers limbs with room that are worth the product modulo 2^255 - 19, and leaves all memory that was there as it was. Condition: limbs with room.
-/
import Derived.Test.YtolmfimpaofefaaGreatDoorMLmB
import Derived.Test.YtolmfimpaofefaaGreatDoorMLad
namespace Go.Proofs.YtolmfimpaofefaaGreatDoor.RefLimb
open Go.RowKit Mur Lanes Limb Hold
set_option maxRecDepth 100000

/-- The sums of products, as they are gathered. -/
def fac (B : List Nat) (k i : Nat) : Nat := if i ≤ k then B.getD ((k + 5 - i) % 5) 0 else 19 * B.getD ((k + 5 - i) % 5) 0
def acc (A B : List Nat) (c k : Nat) : Nat → Nat
  | 0 => c
  | i + 1 => acc A B c k i + A.getD i 0 * fac B k i
def car (A B : List Nat) : Nat → Nat
  | 0 => 0
  | k + 1 => acc A B (car A B k) k 5 / 2251799813685248
def outL (A B : List Nat) : List Nat := (List.range 5).map fun k => acc A B (car A B k) k 5 % 2251799813685248
theorem outL_at (A B : List Nat) (k : Nat) (h : k < 5) : (outL A B).getD k 0 = acc A B (car A B k) k 5 % 2251799813685248 := by
  unfold outL
  simp [List.getD, h]

/-- Limbs with room, as a list. -/
def RoomL (A : List Nat) : Prop := A.length = 5 ∧ ∀ i, A.getD i 0 < 2251799813947392
theorem fac_le {B : List Nat} (h : RoomL B) (k i : Nat) : fac B k i ≤ 19 * 2251799813947392 := by
  unfold fac
  have := h.2 ((k + 5 - i) % 5)
  split <;> omega
theorem acc_le {A B : List Nat} (ha : RoomL A) (hb : RoomL B) (c k i : Nat) : acc A B c k i ≤ c + i * 96341445639776675308685928431616 := by
  induction i with
  | zero => simp [acc]
  | succ i ih =>
    have h1 : A.getD i 0 * fac B k i ≤ 2251799813947392 * (19 * 2251799813947392) := Nat.mul_le_mul (Nat.le_of_lt (ha.2 i)) (fac_le hb k i)
    rw [acc, Nat.succ_mul]
    omega
theorem car_le {A B : List Nat} (ha : RoomL A) (hb : RoomL B) (k : Nat) : car A B k ≤ 288230376151711744 := by
  induction k with
  | zero => simp [car]
  | succ k ih =>
    have := acc_le ha hb (car A B k) k 5
    rw [car]
    omega

theorem times_wor (a0 a1 a2 a3 a4 b0 b1 b2 b3 b4 : Nat) :
    wor ((outL [a0, a1, a2, a3, a4] [b0, b1, b2, b3, b4]).getD 0 0 + 19 * car [a0, a1, a2, a3, a4] [b0, b1, b2, b3, b4] 5) ((outL [a0, a1, a2, a3, a4] [b0, b1, b2, b3, b4]).getD 1 0) ((outL [a0, a1, a2, a3, a4] [b0, b1, b2, b3, b4]).getD 2 0) ((outL [a0, a1, a2, a3, a4] [b0, b1, b2, b3, b4]).getD 3 0) ((outL [a0, a1, a2, a3, a4] [b0, b1, b2, b3, b4]).getD 4 0) % Prime.P = wor a0 a1 a2 a3 a4 * wor b0 b1 b2 b3 b4 % Prime.P := by
  obtain ⟨A, hA⟩ : ∃ A, A = [a0, a1, a2, a3, a4] := ⟨_, rfl⟩
  obtain ⟨B, hB⟩ : ∃ A, A = [b0, b1, b2, b3, b4] := ⟨_, rfl⟩
  rw [← hA, ← hB, outL_at _ _ 0 (by omega), outL_at _ _ 1 (by omega), outL_at _ _ 2 (by omega), outL_at _ _ 3 (by omega), outL_at _ _ 4 (by omega)]
  have e0 : acc A B (car A B 0) 0 5 = a0 * b0 + a1 * (19 * b4) + a2 * (19 * b3) + a3 * (19 * b2) + a4 * (19 * b1) := by
    rw [hA, hB]
    show 0 + a0 * b0 + a1 * (19 * b4) + a2 * (19 * b3) + a3 * (19 * b2) + a4 * (19 * b1) = _
    rw [Nat.zero_add]
  have ek : ∀ c, acc A B c 1 5 = c + (a0 * b1 + a1 * b0 + a2 * (19 * b4) + a3 * (19 * b3) + a4 * (19 * b2)) := fun c => by
    rw [hA, hB]
    show c + a0 * b1 + a1 * b0 + a2 * (19 * b4) + a3 * (19 * b3) + a4 * (19 * b2) = _
    simp only [Nat.add_assoc]
  have ek2 : ∀ c, acc A B c 2 5 = c + (a0 * b2 + a1 * b1 + a2 * b0 + a3 * (19 * b4) + a4 * (19 * b3)) := fun c => by
    rw [hA, hB]
    show c + a0 * b2 + a1 * b1 + a2 * b0 + a3 * (19 * b4) + a4 * (19 * b3) = _
    simp only [Nat.add_assoc]
  have ek3 : ∀ c, acc A B c 3 5 = c + (a0 * b3 + a1 * b2 + a2 * b1 + a3 * b0 + a4 * (19 * b4)) := fun c => by
    rw [hA, hB]
    show c + a0 * b3 + a1 * b2 + a2 * b1 + a3 * b0 + a4 * (19 * b4) = _
    simp only [Nat.add_assoc]
  have ek4 : ∀ c, acc A B c 4 5 = c + (a0 * b4 + a1 * b3 + a2 * b2 + a3 * b1 + a4 * b0) := fun c => by
    rw [hA, hB]
    show c + a0 * b4 + a1 * b3 + a2 * b2 + a3 * b1 + a4 * b0 = _
    simp only [Nat.add_assoc]
  have hw := sums_wor e0 (s1 := acc A B (car A B 1) 1 5) (ek _) (s2 := acc A B (car A B 2) 2 5) (ek2 _) (s3 := acc A B (car A B 3) 3 5) (ek3 _) (s4 := acc A B (car A B 4) 4 5) (ek4 _)
  have hm := mul_wor a0 a1 a2 a3 a4 b0 b1 b2 b3 b4
  rw [← hm, ← hw, Nat.add_mul_mod_self_left, Nat.add_mul_mod_self_left]
  rfl


/-- A number of 128 bits, the lower word first. -/
def wideL (N : Nat) : List Value := [.int .u64 ((N % 18446744073709551616 : Nat) : Int), .int .u64 ((N / 18446744073709551616 : Nat) : Int)]
def wideZ : List Value := [.int .u64 0, .int .u64 0]
theorem wideL_length (N : Nat) : (wideL N).length = 2 := rfl
theorem wideZ_length : wideZ.length = 2 := rfl
theorem wide_zero : wideL 0 = wideZ := rfl
theorem single_wide (N : Nat) : Single (wideL N) := by
  unfold Single wideL
  simp [Value.oneCell']
theorem single_wideZ : Single wideZ := single_wide 0
theorem row_wide : TyRow Tryz.prog 176 2 := ⟨_, Tryz.underlying176, rfl, by kernel_rfl⟩
theorem zero_wide : (Tryz.prog.info? 176).map (fun i => (i.zero, i.size)) = some (some (.agg wideZ.toArray), wideZ.length) := by kernel_rfl
theorem built_wide0 : Tryz.prog.built 176 [] = some wideZ.toArray := by kernel_rfl
theorem built_wide (x y : Int) : Tryz.prog.built 176 [(0, .int .u64 x), (1, .int .u64 y)] = some #[.int .u64 x, .int .u64 y] := by kernel_rfl
theorem cell_u64 : TyCell Tryz.prog 45 := ⟨_, Tryz.underlying45, rfl, by kernel_rfl⟩
theorem nums_get {X : List Nat} {i : Nat} (h : i < X.length) : (numsV X)[i]? = some (.int .u64 ((X.getD i 0 : Nat) : Int)) := by
  rw [numsV_at h]
  simp [List.getD, h]

set_option maxHeartbeats 6400000 in
theorem times_list (A B : List Nat) (Z : List Value) (w0 : World) (ha : RoomL A) (hb : RoomL B) (hZ5 : Z.length = 5 ∧ Single Z)
    (hZ : ∀ u, Calls Tryz.prog 141 #[.agg (numsV ((outL A B).set 0 ((outL A B).getD 0 0 + 19 * car A B 5))).toArray] u fun r w' => r = .returned (.agg Z.toArray) ∧ Below u.heap.size u w') :
    Calls Tryz.prog 146 #[.agg (numsV A).toArray, .agg (numsV B).toArray] w0 fun r w' => r = .returned (.agg Z.toArray) ∧ Below w0.heap.size w0 w' := by
  have HA := Lib.hid ha
  have HBB := Lib.hid hb
  have RZ := Lib.hid hZ
  have HZ5 := Lib.hid hZ5
  have HM := Lib.hid (Hld.start w0)
  clear ha hb hZ hZ5
  go_enter Tryz.func146, Tryz.ntmps146
  go_upto_region 3 with ((first
    | (with_reducible refine Hold.box (m := []) HM.out rfl rfl rfl ?_; clear HM; intro ba w HM; simp only [List.nil_append] at HM; replace HM := Lib.hid HM)
    | (with_reducible refine Hold.box (m := [_]) HM.out rfl rfl rfl ?_; clear HM; intro bb w HM; simp only [List.nil_append, List.cons_append] at HM; replace HM := Lib.hid HM)
    | (with_reducible refine Hold.alloc (m := [_, _]) HM.out rfl rfl zeros5 zero_limbs5 ?_; clear HM; intro br w HM; simp only [List.nil_append, List.cons_append] at HM; replace HM := Lib.hid HM)
    | (with_reducible refine Hold.alloc (m := [_, _, _]) HM.out rfl rfl zeros5 zero_limbs5 ?_; clear HM; intro bo w HM; simp only [List.nil_append, List.cons_append] at HM; replace HM := Lib.hid HM)
    | (with_reducible refine Hold.build (cs := wideZ) rfl rfl (by simpa using built_wide0) ?_)
    | (with_reducible refine Hold.alloc (m := [_, _, _, _]) HM.out rfl rfl wideZ zero_wide ?_; clear HM; intro bc w HM; simp only [List.nil_append, List.cons_append] at HM; replace HM := Lib.hid HM)
    | (with_reducible refine Hold.store HM.out 4 (v' := wideZ) rfl rfl rfl rfl rfl (by simp [wideZ_length]) (lay_all rfl) (single_wideZ) (by rw [wideZ_length]; exact row_wide) ?_; clear HM; intro w HM; simp only [List.set_cons_zero, List.set_cons_succ] at HM; replace HM := Lib.hid HM)))
  go_wp2
  go_loopw [7, 8, 9, 10, 12] (fun _ _ _ _ i wr => ∃ k : Nat, k ≤ 5 ∧ i = .int .i64 k ∧ Hld w0 [⟨ba, 69, numsV A⟩, ⟨bb, 69, numsV B⟩, ⟨br, 69, zeros5⟩, ⟨bo, 69, numsV (mixTo nulls (outL A B) k)⟩, ⟨bc, 176, wideL (car A B k)⟩] wr) (fun _ _ _ _ i _ => 5 - (intOf i).toNat)
  case atStart =>
    have e1 : numsV (mixTo nulls (outL A B) 0) = zeros5 := rfl
    have e2 : wideL (car A B 0) = wideZ := wide_zero
    exact ⟨0, by omega, rfl, by rw [e1, e2]; exact HM.out⟩
  case round =>
    obtain ⟨k, hk5, rfl, hm⟩ := hrel
    clear HM
    have HM := Lib.hid hm
    clear hm
    by_cases hlt : k < 5
    · have hd2 : decide ((k : Int) < 5) = true := by simp; omega
      have ik : (k : Int) < 5 := by omega
      obtain ⟨c, hc⟩ : ∃ c, c = car A B k := ⟨_, rfl⟩
      have hcl : c ≤ 288230376151711744 := by rw [hc]; exact car_le HA.out HBB.out k
      have hcn : car A B (k + 1) = acc A B c k 5 / 2251799813685248 := by rw [hc]; rfl
      have hon : mixTo nulls (outL A B) (k + 1) = (mixTo nulls (outL A B) k).set k (acc A B c k 5 % 2251799813685248) := by rw [hc, ← outL_at A B k hlt]; rfl
      have hol : (mixTo nulls (outL A B) k).length = 5 := by rw [mixTo_length]; rfl
      have hm := HM.out
      rw [← hc] at hm
      clear HM
      generalize mixTo nulls (outL A B) k = O at *
      have HM := Lib.hid hm
      have HCN := Lib.hid hcn
      have HON := Lib.hid hon
      have HOL := Lib.hid hol
      clear hc hcn hon hol hm
      go_upto_region 6 with (fail)
      go_upto_region 7 with ((first
        | (with_reducible refine Hold.load HM.out 4 (cs := wideL c) rfl rfl rfl rfl (Part.all _) (by rw [wideL_length]; exact row_wide) ?_)
        | (with_reducible refine Hold.alloc HM.out rfl rfl wideZ zero_wide ?_; clear HM; intro bw w HM; simp only [List.nil_append, List.cons_append] at HM; replace HM := Lib.hid HM)
        | (with_reducible refine Hold.store HM.out 5 (v' := wideL c) rfl rfl rfl rfl rfl (by rw [wideL_length, wideZ_length]; exact Nat.le_refl _) (lay_all (by rw [wideL_length, wideZ_length])) (single_wide _) (by rw [wideL_length]; exact row_wide) ?_; clear HM; intro w HM; simp only [List.set_cons_zero, List.set_cons_succ] at HM; replace HM := Lib.hid HM)))
      go_wp2
      go_loopw [9, 10, 16] (fun _ _ i w' => ∃ j : Nat, j ≤ 5 ∧ i = .int .i64 j ∧ Hld w0 [⟨ba, 69, numsV A⟩, ⟨bb, 69, numsV B⟩, ⟨br, 69, zeros5⟩, ⟨bo, 69, numsV O⟩, ⟨bc, 176, wideL c⟩, ⟨bw, 176, wideL (acc A B c k j)⟩] w') (fun _ _ i _ => 5 - (intOf i).toNat)
      case atStart => exact ⟨0, by omega, rfl, HM.out⟩
      case round =>
        obtain ⟨i, hi5, rfl, hm⟩ := hrel
        clear HM
        have HM := Lib.hid hm
        clear hm
        by_cases hli : i < 5
        · have hd3 : decide ((i : Int) < 5) = true := by simp; omega
          have ii : (i : Int) < 5 := by omega
          obtain ⟨j, hj⟩ : ∃ j, j = (k + 5 - i) % 5 := ⟨_, rfl⟩
          have hji : ((k : Int) - (i : Int) + 5) % 5 = (j : Int) := by omega
          have hj5 : j < 5 := by omega
          have ij : (j : Int) < 5 := by omega
          have la : i < A.length := by rw [HA.out.1]; exact hli
          have lb : j < B.length := by rw [HBB.out.1]; exact hj5
          obtain ⟨x, hx⟩ : ∃ x, x = A.getD i 0 := ⟨_, rfl⟩
          obtain ⟨y, hy⟩ : ∃ x, x = B.getD j 0 := ⟨_, rfl⟩
          have hxl : x < 2251799813947392 := by rw [hx]; exact HA.out.2 i
          have hyl : y < 2251799813947392 := by rw [hy]; exact HBB.out.2 j
          have ga := nums_get la
          have gb := nums_get lb
          rw [← hx] at ga
          rw [← hy] at gb
          have hacc := acc_le HA.out HBB.out c k i
          have hnext : acc A B c k (i + 1) = acc A B c k i + A.getD i 0 * fac B k i := rfl
          have hm := HM.out
          clear HM
          obtain ⟨N, hN⟩ : ∃ N, N = acc A B c k i := ⟨_, rfl⟩
          rw [← hN] at hm hacc hnext
          rw [← hx] at hnext
          have hNl : N < 481707228198883590464411992064096 := by omega
          have HM := Lib.hid hm
          have GA := Lib.hid ga
          have GB := Lib.hid gb
          by_cases hik : i ≤ k
          · have hd4 : decide ((i : Int) ≤ (k : Int)) = true := by simp; omega
            have hd5 : decide (i ≤ k) = true := by simpa using hik
            have hf : fac B k i = y := by
              unfold fac
              rw [if_pos hik, ← hj, ← hy]
            rw [hf] at hnext
            have hxy : x * y ≤ 96341445639776675308685928431616 := Nat.le_trans (Nat.mul_le_mul (Nat.le_of_lt hxl) (Nat.le_of_lt hyl)) (by decide)
            have rm := fun u => show Calls Tryz.prog 165 #[.agg (wideL N).toArray, .int .u64 (x : Int), .int .u64 (y : Int)] u fun r w' => r = .returned (.agg (wideL (N + x * y)).toArray) ∧ Below u.heap.size u w' from more_any N x y u (by omega) (by omega) (by omega)
            rw [← hnext] at rm
            have RM := Lib.hid rm
            clear hj hx hy hxl hyl ga gb hacc hnext hm hN hNl hik hf hxy rm la lb hj5
            go_upto_region 11 with (fail)
            rw [hji]
            go_upto_region 12 with (fail)
            refine Steady.region 8 (by kernel_rfl) (by kernel_rfl) (fun u => Hld _ _ u) HM.out.drew ?_
            simp only [List.take_succ_cons, List.take_zero, List.drop_succ_cons, List.drop_zero]
            refine Steady.take (.agg (wideL N).toArray) rfl (fun u hu => Hold.load_run hu 5 rfl rfl rfl (Part.all _) (by rw [wideL_length]; exact row_wide)) ?_
            simp only [Act.put, List.setIfInBounds_toArray, List.set_cons_zero, List.set_cons_succ]
            refine Steady.take ?_ rfl (by intro u hu; go_simp; with_reducible rfl) ?_
            simp only [Act.put, List.setIfInBounds_toArray, List.set_cons_zero, List.set_cons_succ]
            refine Steady.take ?_ rfl (by intro u hu; go_simp; with_reducible rfl) ?_
            simp only [Act.put, List.setIfInBounds_toArray, List.set_cons_zero, List.set_cons_succ]
            refine Steady.take (.int .u64 (x : Int)) rfl (fun u hu => Hold.load1_run hu 0 rfl rfl rfl (GA.out) (cell_u64)) ?_
            simp only [Act.put, List.setIfInBounds_toArray, List.set_cons_zero, List.set_cons_succ]
            refine Steady.take ?_ rfl (by intro u hu; go_simp; with_reducible rfl) ?_
            simp only [Act.put, List.setIfInBounds_toArray, List.set_cons_zero, List.set_cons_succ]
            refine Steady.take ?_ rfl (by intro u hu; go_simp; with_reducible rfl) ?_
            simp only [Act.put, List.setIfInBounds_toArray, List.set_cons_zero, List.set_cons_succ]
            refine Steady.take (.int .u64 (y : Int)) rfl (fun u hu => Hold.load1_run hu 1 rfl rfl rfl (GB.out) (cell_u64)) ?_
            simp only [Act.put, List.setIfInBounds_toArray, List.set_cons_zero, List.set_cons_succ]
            refine Steady.call _ _ _ rfl ?_ (Hold.kept RM.out) ?_
            · intro u
              go_simp
            simp only [Act.put, List.setIfInBounds_toArray, List.set_cons_zero, List.set_cons_succ]
            refine Steady.nil ?_
            clear HM
            intro w HM
            replace HM := Lib.hid HM
            go_upto_region 14 with ((first
              | (with_reducible refine Hold.store HM.out 5 (v' := wideL (acc A B c k (i + 1))) rfl rfl rfl rfl rfl (by rw [wideL_length, wideL_length]; exact Nat.le_refl _) (lay_all (by rw [wideL_length, wideL_length])) (single_wide _) (by rw [wideL_length]; exact row_wide) ?_; clear HM; intro w HM; simp only [List.set_cons_zero, List.set_cons_succ] at HM; replace HM := Lib.hid HM)))
            go_wp2
            go_roundw
            case rel => exact ⟨i + 1, by omega, by go_num, HM.out⟩
            case measure => simp [intOf]; omega
          · have hd4 : decide ((i : Int) ≤ (k : Int)) = false := by simp; omega
            have hd5 : decide (i ≤ k) = false := by simpa using hik
            have hf : fac B k i = 19 * y := by
              unfold fac
              rw [if_neg hik, ← hj, ← hy]
            rw [hf] at hnext
            have hxy : x * (19 * y) ≤ 96341445639776675308685928431616 := Nat.le_trans (Nat.mul_le_mul (Nat.le_of_lt hxl) (Nat.mul_le_mul_left 19 (Nat.le_of_lt hyl))) (by decide)
            obtain ⟨z, hz⟩ : ∃ z, z = 19 * y := ⟨_, rfl⟩
            rw [← hz] at hxy hnext
            have hzi : IntKind.u64.wrap (19 * (y : Int)) = (z : Int) := by rw [mul19', wrapN _ (by omega), hz]
            have rm := fun u => show Calls Tryz.prog 165 #[.agg (wideL N).toArray, .int .u64 (x : Int), .int .u64 (z : Int)] u fun r w' => r = .returned (.agg (wideL (N + x * z)).toArray) ∧ Below u.heap.size u w' from more_any N x z u (by omega) (by omega) (by omega)
            rw [← hnext] at rm
            have RM := Lib.hid rm
            have HZI := Lib.hid hzi
            clear hj hx hy hxl hyl ga gb hacc hnext hm hN hNl hik hf hxy rm la lb hj5 hz hzi
            go_upto_region 11 with (fail)
            rw [hji]
            go_upto_region 13 with (fail)
            refine Steady.region 9 (by kernel_rfl) (by kernel_rfl) (fun u => Hld _ _ u) HM.out.drew ?_
            simp only [List.take_succ_cons, List.take_zero, List.drop_succ_cons, List.drop_zero]
            refine Steady.take (.agg (wideL N).toArray) rfl (fun u hu => Hold.load_run hu 5 rfl rfl rfl (Part.all _) (by rw [wideL_length]; exact row_wide)) ?_
            simp only [Act.put, List.setIfInBounds_toArray, List.set_cons_zero, List.set_cons_succ]
            refine Steady.take ?_ rfl (by intro u hu; go_simp; with_reducible rfl) ?_
            simp only [Act.put, List.setIfInBounds_toArray, List.set_cons_zero, List.set_cons_succ]
            refine Steady.take ?_ rfl (by intro u hu; go_simp; with_reducible rfl) ?_
            simp only [Act.put, List.setIfInBounds_toArray, List.set_cons_zero, List.set_cons_succ]
            refine Steady.take (.int .u64 (x : Int)) rfl (fun u hu => Hold.load1_run hu 0 rfl rfl rfl (GA.out) (cell_u64)) ?_
            simp only [Act.put, List.setIfInBounds_toArray, List.set_cons_zero, List.set_cons_succ]
            refine Steady.take ?_ rfl (by intro u hu; go_simp; with_reducible rfl) ?_
            simp only [Act.put, List.setIfInBounds_toArray, List.set_cons_zero, List.set_cons_succ]
            refine Steady.take ?_ rfl (by intro u hu; go_simp; with_reducible rfl) ?_
            simp only [Act.put, List.setIfInBounds_toArray, List.set_cons_zero, List.set_cons_succ]
            refine Steady.take (.int .u64 (y : Int)) rfl (fun u hu => Hold.load1_run hu 1 rfl rfl rfl (GB.out) (cell_u64)) ?_
            simp only [Act.put, List.setIfInBounds_toArray, List.set_cons_zero, List.set_cons_succ]
            refine Steady.take ?_ rfl (by intro u hu; go_simp; with_reducible rfl) ?_
            simp only [Act.put, List.setIfInBounds_toArray, List.set_cons_zero, List.set_cons_succ]
            refine Steady.call _ _ _ rfl ?_ (Hold.kept RM.out) ?_
            · intro u
              go_simp
              rw [HZI.out]
            simp only [Act.put, List.setIfInBounds_toArray, List.set_cons_zero, List.set_cons_succ]
            refine Steady.nil ?_
            clear HM
            intro w HM
            replace HM := Lib.hid HM
            go_upto_region 14 with ((first
              | (with_reducible refine Hold.store HM.out 5 (v' := wideL (acc A B c k (i + 1))) rfl rfl rfl rfl rfl (by rw [wideL_length, wideL_length]; exact Nat.le_refl _) (lay_all (by rw [wideL_length, wideL_length])) (single_wide _) (by rw [wideL_length]; exact row_wide) ?_; clear HM; intro w HM; simp only [List.set_cons_zero, List.set_cons_succ] at HM; replace HM := Lib.hid HM)))
            go_wp2
            go_roundw
            case rel => exact ⟨i + 1, by omega, by go_num, HM.out⟩
            case measure => simp [intOf]; omega
        · have hd3 : decide ((i : Int) < 5) = false := by simp; omega
          obtain rfl : i = 5 := by omega
          have hacc := acc_le HA.out HBB.out c k 5
          have hcn := HCN.out
          have hon := HON.out
          have hm := HM.out
          clear HM HCN HON
          obtain ⟨N, hN⟩ : ∃ N, N = acc A B c k 5 := ⟨_, rfl⟩
          rw [← hN] at hacc hcn hon hm
          obtain ⟨lo, hlo⟩ : ∃ x, x = N % 18446744073709551616 := ⟨_, rfl⟩
          obtain ⟨hh, hhi⟩ : ∃ x, x = N / 18446744073709551616 := ⟨_, rfl⟩
          obtain ⟨v1, hv1⟩ : ∃ x, x = N % 2251799813685248 := ⟨_, rfl⟩
          obtain ⟨C, hC⟩ : ∃ x, x = N / 2251799813685248 := ⟨_, rfl⟩
          obtain ⟨p, hp⟩ : ∃ x, x = lo / 2251799813685248 := ⟨_, rfl⟩
          obtain ⟨q, hq⟩ : ∃ x, x = hh * 8192 := ⟨_, rfl⟩
          obtain ⟨lo2, hlo2⟩ : ∃ x, x = C % 18446744073709551616 := ⟨_, rfl⟩
          obtain ⟨hh2, hhh2⟩ : ∃ x, x = C / 18446744073709551616 := ⟨_, rfl⟩
          rw [← hC] at hcn
          rw [← hv1] at hon
          have x1 : bits .and .u64 (lo : Int) 2251799813685247 = (v1 : Int) := by
            rw [mask51 _ (by omega)]
            omega
          have x2 : (lo : Int) / 2251799813685248 = (p : Int) := by omega
          have x3 : IntKind.u64.wrap ((hh : Int) * 8192) = (q : Int) := by
            rw [show (hh : Int) * 8192 = (q : Int) by omega, wrapN _ (by omega)]
          have x4 : bits .or .u64 (p : Int) (q : Int) = (lo2 : Int) := by
            have h1 : hh * 2 ^ 13 ||| p = hh * 2 ^ 13 + p := or_add' p hh 13 (by omega)
            rw [bits_or_u64_nat _ _ (by omega) (by omega), Nat.or_comm, hq, show hh * 8192 = hh * 2 ^ 13 from rfl, h1]
            omega
          have x5 : (hh : Int) / 2251799813685248 = (hh2 : Int) := by omega
          have hg0 : (wideL N)[0]? = some (.int .u64 (lo : Int)) := by rw [hlo]; rfl
          have hg1 : (wideL N)[1]? = some (.int .u64 (hh : Int)) := by rw [hhi]; rfl
          have hcw : wideL (car A B (k + 1)) = [.int .u64 (lo2 : Int), .int .u64 (hh2 : Int)] := by rw [hcn, hlo2, hhh2]; rfl
          have hset : (numsV O).set k (.int .u64 (v1 : Int)) = numsV (mixTo nulls (outL A B) (k + 1)) := by rw [hon, numsV_set]
          have hlk : k < (numsV O).length := by rw [numsV_length, HOL.out]; exact hlt
          have bw2 := built_wide lo2 hh2
          have HM := Lib.hid hm
          have G0 := Lib.hid hg0
          have G1 := Lib.hid hg1
          have HCW := Lib.hid hcw
          have HSET := Lib.hid hset
          have HLK := Lib.hid hlk
          have BW2 := Lib.hid bw2
          have X2 := Lib.hid x2
          have X3 := Lib.hid x3
          have X4 := Lib.hid x4
          have X5 := Lib.hid x5
          clear hacc hcn hon hm hN hlo hhi hv1 hC hp hq hlo2 hhh2 hg0 hg1 hcw hset hlk bw2 x2 x3 x4 x5
          go_upto_region 16 with ((first
            | (with_reducible refine Hold.load1 HM.out 5 (c := .int .u64 (lo : Int)) rfl rfl rfl rfl (G0.out) (cell_u64) ?_)
            | (with_reducible refine Hold.store1 HM.out 3 (c := .int .u64 (v1 : Int)) (v' := numsV (mixTo nulls (outL A B) (k + 1))) rfl rfl rfl rfl rfl (HLK.out) (HSET.out) (Hold.cell_int _ _) (cell_u64) ?_; clear HM; intro w HM; simp only [List.set_cons_zero, List.set_cons_succ] at HM; replace HM := Lib.hid HM)))
          clear x1
          have x2 := X2.out
          have x3 := X3.out
          have x4 := X4.out
          have x5 := X5.out
          go_upto_region 17 with ((first
            | (with_reducible refine Hold.load1 HM.out 5 (c := .int .u64 (lo : Int)) rfl rfl rfl rfl (G0.out) (cell_u64) ?_)
            | (with_reducible refine Hold.load1 HM.out 5 (c := .int .u64 (hh : Int)) rfl rfl rfl rfl (G1.out) (cell_u64) ?_)
            | (with_reducible refine Hold.build (cs := wideL (car A B (k + 1))) rfl rfl (by rw [HCW.out]; simp [Act.eval]; exact BW2.out) ?_)
            | (with_reducible refine Hold.store HM.out 4 (v' := wideL (car A B (k + 1))) rfl rfl rfl rfl rfl (by rw [wideL_length, wideL_length]; exact Nat.le_refl _) (lay_all (by rw [wideL_length, wideL_length])) (single_wide _) (by rw [wideL_length]; exact row_wide) ?_; clear HM; intro w HM; simp only [List.set_cons_zero, List.set_cons_succ] at HM; replace HM := Lib.hid HM)))
          clear x2 x3 x4 x5
          go_wp2
          go_roundw
          case rel => exact ⟨k + 1, by omega, by go_num, Hld.front (m := [_, _, _, _, _]) (m' := [_]) HM.out⟩
          case measure => simp [intOf]; omega
    · have hd2 : decide ((k : Int) < 5) = false := by simp; omega
      obtain rfl : k = 5 := by omega
      have hm := HM.out
      clear HM
      rw [mixTo_end (a := nulls) rfl rfl] at hm
      have hcl := car_le HA.out HBB.out 5
      have hol : (outL A B).getD 0 0 < 2251799813685248 := by rw [outL_at _ _ 0 (by decide)]; exact Nat.mod_lt _ (by decide)
      have hlen : (outL A B).length = 5 := rfl
      have rz := RZ.out
      clear RZ
      generalize outL A B = O at *
      generalize car A B 5 = c at *
      obtain ⟨o0, ho0⟩ : ∃ x, x = O.getD 0 0 := ⟨_, rfl⟩
      obtain ⟨z, hz⟩ : ∃ x, x = 19 * c := ⟨_, rfl⟩
      obtain ⟨v, hv⟩ : ∃ x, x = o0 + z := ⟨_, rfl⟩
      rw [← ho0] at hol rz
      rw [← hz, ← hv] at rz
      have x1 : IntKind.u64.wrap (19 * (c : Int)) = (z : Int) := by rw [mul19', wrapN _ (by omega), hz]
      have x2 : IntKind.u64.wrap ((o0 : Int) + (z : Int)) = (v : Int) := by rw [addN, wrapN _ (by omega), hv]
      have hg0 : (numsV O)[0]? = some (.int .u64 (o0 : Int)) := by rw [ho0]; exact nums_get (by rw [hlen]; decide)
      have hg1 : (wideL c)[0]? = some (.int .u64 (c : Int)) := by
        have e : c % 18446744073709551616 = c := Nat.mod_eq_of_lt (by omega)
        show some (Value.int .u64 ((c % 18446744073709551616 : Nat) : Int)) = _
        rw [e]
      have hset : (numsV O).set 0 (.int .u64 (v : Int)) = numsV (O.set 0 v) := numsV_set O 0 v
      have hlk : 0 < (numsV O).length := by rw [numsV_length, hlen]; decide
      have hl2 : (numsV (O.set 0 v)).length = 5 := by rw [numsV_length, List.length_set, hlen]
      have RZ := Lib.hid rz
      have HM := Lib.hid hm
      have G0 := Lib.hid hg0
      have G1 := Lib.hid hg1
      have HSET := Lib.hid hset
      have HLK := Lib.hid hlk
      have HL2 := Lib.hid hl2
      clear rz hm hg0 hg1 hset hlk hl2 hol hcl hlen ho0 hz hv
      go_upto_region 19 with ((first
        | (with_reducible refine Hold.load1 HM.out 3 (c := .int .u64 (o0 : Int)) rfl rfl rfl rfl (G0.out) (cell_u64) ?_)
        | (with_reducible refine Hold.load1 HM.out 4 (c := .int .u64 (c : Int)) rfl rfl rfl rfl (G1.out) (cell_u64) ?_)
        | (with_reducible refine Hold.store1 HM.out 3 (c := .int .u64 (v : Int)) (v' := numsV (O.set 0 v)) rfl rfl rfl rfl rfl (HLK.out) (HSET.out) (Hold.cell_int _ _) (cell_u64) ?_; clear HM; intro w HM; simp only [List.set_cons_zero, List.set_cons_succ] at HM; replace HM := Lib.hid HM)))
      clear x1 x2
      go_wp2_with ((first
        | (with_reducible refine Hold.load HM.out 3 (cs := numsV (O.set 0 v)) rfl rfl rfl rfl (Part.all _) (by rw [HL2.out]; exact row_limbs) ?_)
        | (with_reducible refine (RZ.out _).mono ?_; rintro e w ⟨rfl, hb⟩; replace HM := Lib.hid (HM.out.next hb); clear hb)
        | (with_reducible refine Hold.store HM.out 2 (v' := Z) rfl rfl rfl rfl rfl (by simp [HZ5.out.1, zeros5_length]) (lay_all (by simp [HZ5.out.1, zeros5_length])) (HZ5.out.2) (by rw [HZ5.out.1]; exact row_limbs) ?_; clear HM; intro w HM; simp only [List.set_cons_zero, List.set_cons_succ] at HM; replace HM := Lib.hid HM)))
      exact bodyPost_ret (Hold.results1 HM.out 2 rfl _ rfl rfl (by rw [HZ5.out.1]; exact row_limbs)) rfl ⟨rfl, HM.out.below⟩
end Go.Proofs.YtolmfimpaofefaaGreatDoor.RefLimb
