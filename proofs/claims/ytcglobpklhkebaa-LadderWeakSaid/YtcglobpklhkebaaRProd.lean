/-
  The document's Times, Scale, Square and Invert of layer 5 answer what the plain mathematics says, and leave all memory that was there as it was. Condition: words below 2^64.
-/
import Derived.Test.YtcglobpklhkebaaRCarry
namespace Go.Proofs.Ytcglobpklhkebaa.RefLimb
open Go.RowKit Mur Lanes Limb Hold
set_option maxRecDepth 100000

set_option maxHeartbeats 1600000 in
theorem prod_l {X Y : List Value} {N M : Nat} (hX : LimL X N) (hY : LimL Y M) (w0 : World) :
    Calls Try.prog 23 #[.agg X.toArray, .agg Y.toArray] w0 fun r w' => r = .returned (.agg (limL (N * M % Prime.P)).toArray) ∧ Below w0.heap.size w0 w' := by
  obtain ⟨A, K, hA, kA, ra⟩ := small_l hX
  obtain ⟨B, J, hB, jB, rb⟩ := small_l hY
  obtain ⟨C, I, hC, iC, rc⟩ := times_l hA hB
  have rd := fun u => carry_l hC.limL u
  have e : I % Prime.P = N * M % Prime.P := by rw [iC, Nat.mul_mod, kA, jB, ← Nat.mul_mod]
  rw [e] at rd
  obtain ⟨Z, hZ, lZ⟩ : ∃ Z, Z = limL (N * M % Prime.P) ∧ LimL Z (N * M % Prime.P) := ⟨_, rfl, LimL.ofMod _⟩
  rw [← hZ] at rd ⊢
  have RA := Lib.hid ra
  have RB := Lib.hid rb
  have RC := Lib.hid rc
  have RD := Lib.hid rd
  have HX := Lib.hid (show X.length = 5 ∧ Single X from ⟨hX.len, hX.one⟩)
  have HY := Lib.hid (show Y.length = 5 ∧ Single Y from ⟨hY.len, hY.one⟩)
  have HZ := Lib.hid (show Z.length = 5 ∧ Single Z from ⟨lZ.len, lZ.one⟩)
  have HM := Lib.hid (Hld.start w0)
  clear hA kA ra hB jB rb hC iC rc rd e hZ lZ hX hY
  go_enter Try.func23, Try.ntmps23
  go_upto_region 1 with ((first
    | (with_reducible refine Hold.box (m := []) HM.out rfl rfl rfl ?_; clear HM; intro b0 w HM; simp only [List.nil_append] at HM; replace HM := Lib.hid HM)
    | (with_reducible refine Hold.box (m := [_]) HM.out rfl rfl rfl ?_; clear HM; intro b1 w HM; simp only [List.nil_append, List.cons_append] at HM; replace HM := Lib.hid HM)
    | (with_reducible refine Hold.alloc HM.out rfl rfl zeros5 zero_limbs5 ?_; clear HM; intro br w HM; simp only [List.nil_append, List.cons_append] at HM; replace HM := Lib.hid HM)))
  refine Steady.region 6 (by kernel_rfl) (by kernel_rfl) (fun u => Hld _ _ u) HM.out.drew ?_
  simp only [List.take_succ_cons, List.take_zero, List.drop_succ_cons, List.drop_zero]
  refine Steady.take (.agg (X).toArray) rfl (fun u hu => Hold.load_run hu 0 rfl rfl rfl (Part.all _) (by rw [HX.out.1]; exact row_limbs)) ?_
  simp only [Act.put, List.setIfInBounds_toArray, List.set_cons_zero, List.set_cons_succ]
  refine Steady.call _ _ _ rfl ?_ (Hold.kept RA.out) ?_
  · intro u
    go_simp
  simp only [Act.put, List.setIfInBounds_toArray, List.set_cons_zero, List.set_cons_succ]
  refine Steady.take (.agg (Y).toArray) rfl (fun u hu => Hold.load_run hu 1 rfl rfl rfl (Part.all _) (by rw [HY.out.1]; exact row_limbs)) ?_
  simp only [Act.put, List.setIfInBounds_toArray, List.set_cons_zero, List.set_cons_succ]
  refine Steady.call _ _ _ rfl ?_ (Hold.kept RB.out) ?_
  · intro u
    go_simp
  simp only [Act.put, List.setIfInBounds_toArray, List.set_cons_zero, List.set_cons_succ]
  refine Steady.call _ _ _ rfl ?_ (Hold.kept RC.out) ?_
  · intro u
    go_simp
  simp only [Act.put, List.setIfInBounds_toArray, List.set_cons_zero, List.set_cons_succ]
  refine Steady.call _ _ _ rfl ?_ (Hold.kept RD.out) ?_
  · intro u
    go_simp
  simp only [Act.put, List.setIfInBounds_toArray, List.set_cons_zero, List.set_cons_succ]
  refine Steady.nil ?_
  clear HM
  intro w HM
  replace HM := Lib.hid HM
  go_wp2_with ((first
    | (with_reducible refine Hold.store HM.out 2 (v' := Z) rfl rfl rfl rfl rfl (by simp [HZ.out.1, zeros5_length]) (lay_all (by simp [HZ.out.1, zeros5_length])) (HZ.out.2) (by rw [HZ.out.1]; exact row_limbs) ?_; clear HM; intro w HM; simp only [List.set_cons_zero, List.set_cons_succ] at HM; replace HM := Lib.hid HM)))
  exact bodyPost_ret (Hold.results1 HM.out 2 rfl _ rfl rfl (by rw [HZ.out.1]; exact row_limbs)) rfl ⟨rfl, HM.out.below⟩

theorem built_two (x y : Int) : Try.prog.built 24 [(0, .int .u64 x), (1, .int .u64 y)] = some #[.int .u64 x, .int .u64 y, .int .u64 0, .int .u64 0, .int .u64 0] := by kernel_rfl
set_option maxHeartbeats 1600000 in
theorem scaled_l {X : List Value} {N n : Nat} (hX : LimL X N) (hn : n < 18446744073709551616) (w0 : World) :
    Calls Try.prog 25 #[.agg X.toArray, .int .u64 n] w0 fun r w' => r = .returned (.agg (limL (N * n % Prime.P)).toArray) ∧ Below w0.heap.size w0 w' := by
  obtain ⟨lo, hlo⟩ : ∃ x, x = n % 2251799813685248 := ⟨_, rfl⟩
  obtain ⟨hh, hhh⟩ : ∃ x, x = n / 2251799813685248 := ⟨_, rfl⟩
  have e1 : bits .and .u64 (n : Int) 2251799813685247 = (lo : Int) := by rw [mask51 _ hn, hlo]
  have e2 : (n : Int) / 2251799813685248 = (hh : Int) := by omega
  obtain ⟨Y, hY⟩ : ∃ Y, Y = [Value.int .u64 (lo : Int), .int .u64 (hh : Int), .int .u64 0, .int .u64 0, .int .u64 0] := ⟨_, rfl⟩
  have lY : LimL Y n := by
    have := LimL.ofFive (a := lo) (b := hh) (c := 0) (d := 0) (e := 0) (by unfold Words5; omega)
    rw [show wor lo hh 0 0 0 = n by unfold wor; omega] at this
    rw [hY]
    exact this
  have hb := built_two lo hh
  rw [show (#[Value.int .u64 (lo : Int), .int .u64 (hh : Int), .int .u64 0, .int .u64 0, .int .u64 0] : Array Value) = Y.toArray by rw [hY]] at hb
  have rd := fun u => prod_l hX lY u
  obtain ⟨Z, hZ, lZ⟩ : ∃ Z, Z = limL (N * n % Prime.P) ∧ LimL Z (N * n % Prime.P) := ⟨_, rfl, LimL.ofMod _⟩
  rw [← hZ] at rd ⊢
  have RD := Lib.hid rd
  have HBU := Lib.hid hb
  have HX := Lib.hid (show X.length = 5 ∧ Single X from ⟨hX.len, hX.one⟩)
  have HZ := Lib.hid (show Z.length = 5 ∧ Single Z from ⟨lZ.len, lZ.one⟩)
  have HM := Lib.hid (Hld.start w0)
  clear hlo hhh hY lY hb rd hZ lZ hX
  go_enter Try.func25, Try.ntmps25
  go_upto_region 1 with ((first
    | (with_reducible refine Hold.box (m := []) HM.out rfl rfl rfl ?_; clear HM; intro b0 w HM; simp only [List.nil_append] at HM; replace HM := Lib.hid HM)
    | (with_reducible refine Hold.alloc HM.out rfl rfl zeros5 zero_limbs5 ?_; clear HM; intro br w HM; simp only [List.nil_append, List.cons_append] at HM; replace HM := Lib.hid HM)))
  go_wp2_with ((first
    | (with_reducible refine Hold.load HM.out 0 (cs := X) rfl rfl rfl rfl (Part.all _) (by rw [HX.out.1]; exact row_limbs) ?_)
    | (with_reducible refine Hold.build (cs := Y) rfl rfl (by simp [Act.eval]; exact HBU.out) ?_)
    | (with_reducible refine (RD.out _).mono ?_; rintro e w ⟨rfl, hb⟩; replace HM := Lib.hid (HM.out.next hb); clear hb)
    | (with_reducible refine Hold.store HM.out 1 (v' := Z) rfl rfl rfl rfl rfl (by simp [HZ.out.1, zeros5_length]) (lay_all (by simp [HZ.out.1, zeros5_length])) (HZ.out.2) (by rw [HZ.out.1]; exact row_limbs) ?_; clear HM; intro w HM; simp only [List.set_cons_zero, List.set_cons_succ] at HM; replace HM := Lib.hid HM)))
  exact bodyPost_ret (Hold.results1 HM.out 1 rfl _ rfl rfl (by rw [HZ.out.1]; exact row_limbs)) rfl ⟨rfl, HM.out.below⟩

theorem pow_sq (N k K : Nat) (h : K % Prime.P = N ^ 2 ^ k % Prime.P) : K * K % Prime.P = N ^ 2 ^ (k + 1) % Prime.P := by
  rw [Nat.mul_mod, h, ← Nat.mul_mod, ← Nat.pow_add, Nat.pow_succ 2, Nat.mul_two]
set_option maxHeartbeats 1600000 in
theorem squares_l {X : List Value} {N : Nat} (hX : LimL X N) (n : Int) (w0 : World) (h1 : -9223372036854775808 ≤ n) (h2 : n ≤ 9223372036854775807) :
    Calls Try.prog 27 #[.agg X.toArray, .int .i64 n] w0 fun r w' => r = .returned (.agg (limL (N ^ 2 ^ Limb.times n % Prime.P)).toArray) ∧ Below w0.heap.size w0 w' := by
  obtain ⟨A, K, hA, kA, ra⟩ := small_l hX
  obtain ⟨T, hT⟩ : ∃ K, K = Limb.times n := ⟨_, rfl⟩
  have hT3 : T ≤ 300 := by rw [hT]; unfold Limb.times; omega
  have hlt : ∀ k : Nat, decide ((k : Int) < max 0 (min n 300)) = decide (k < T) := fun k => decide_eq_decide.2 (by rw [hT]; unfold Limb.times; omega)
  have HLT := Lib.hid hlt
  rw [← hT]
  have RA := Lib.hid ra
  have FA := Lib.hid (show RoomV A K ∧ K % Prime.P = N ^ 2 ^ 0 % Prime.P from ⟨hA, by rw [Nat.pow_zero, Nat.pow_one]; exact kA⟩)
  have HA := Lib.hid (show A.length = 5 ∧ Single A from ⟨hA.len, hA.one⟩)
  have HX := Lib.hid (show X.length = 5 ∧ Single X from ⟨hX.len, hX.one⟩)
  have HM := Lib.hid (Hld.start w0)
  clear hA kA ra hX hT hlt h1 h2
  go_enter Try.func27, Try.ntmps27
  go_upto_region 1 with ((first
    | (with_reducible refine Hold.box (m := []) HM.out rfl rfl rfl ?_; clear HM; intro b0 w HM; simp only [List.nil_append] at HM; replace HM := Lib.hid HM)
    | (with_reducible refine Hold.alloc HM.out rfl rfl zeros5 zero_limbs5 ?_; clear HM; intro br w HM; simp only [List.nil_append, List.cons_append] at HM; replace HM := Lib.hid HM)))
  go_upto_region 2 with ((first
    | (with_reducible refine Hold.load HM.out 0 (cs := X) rfl rfl rfl rfl (Part.all _) (by rw [HX.out.1]; exact row_limbs) ?_)
    | (with_reducible refine (RA.out _).mono ?_; rintro e w ⟨rfl, hb⟩; replace HM := Lib.hid (HM.out.next hb); clear hb)
    | (with_reducible refine Hold.store HM.out 0 (v' := A) rfl rfl rfl rfl rfl (by rw [Nat.zero_add, HA.out.1, HX.out.1]; exact Nat.le_refl _) (lay_all (HX.out.1.trans HA.out.1.symm)) (HA.out.2) (by rw [HA.out.1]; exact row_limbs) ?_; clear HM; intro w HM; simp only [List.set_cons_zero] at HM; replace HM := Lib.hid HM)))
  go_wp2
  go_loopw [10] (fun i wr => ∃ k : Nat, k ≤ T ∧ i = .int .i64 k ∧ ∃ Y M, RoomV Y M ∧ M % Prime.P = N ^ 2 ^ k % Prime.P ∧ Hld w0 [⟨b0, 24, Y⟩, ⟨br, 24, zeros5⟩] wr) (fun i _ => 300 - (intOf i).toNat)
  case atStart => exact ⟨0, by omega, rfl, A, K, FA.out.1, FA.out.2, HM.out⟩
  case round =>
    obtain ⟨k, hk5, rfl, Y, M, hY, hYM, hm⟩ := hrel
    clear HM FA HA RA HX
    have HM := Lib.hid hm
    have HY := Lib.hid (show Y.length = 5 ∧ Single Y from ⟨hY.len, hY.one⟩)
    by_cases hlk : k < T
    · have hd2 : decide ((k : Int) < max 0 (min n 300)) = true := by rw [HLT.out]; simpa using hlk
      obtain ⟨C, I, hC, iC, rc⟩ := times_l hY hY
      have RC := Lib.hid rc
      have FC := Lib.hid (show RoomV C I ∧ I % Prime.P = N ^ 2 ^ (k + 1) % Prime.P from ⟨hC, iC.trans (pow_sq N k M hYM)⟩)
      have HC := Lib.hid (show C.length = 5 ∧ Single C from ⟨hC.len, hC.one⟩)
      clear hm hY hYM hC iC rc
      go_upto_region 5 with ((first
        | (with_reducible refine Hold.load HM.out 0 (cs := Y) rfl rfl rfl rfl (Part.all _) (by rw [HY.out.1]; exact row_limbs) ?_)
        | (with_reducible refine (RC.out _).mono ?_; rintro e w ⟨rfl, hb⟩; replace HM := Lib.hid (HM.out.next hb); clear hb)
        | (with_reducible refine Hold.store HM.out 0 (v' := C) rfl rfl rfl rfl rfl (by rw [Nat.zero_add, HC.out.1, HY.out.1]; exact Nat.le_refl _) (lay_all (HY.out.1.trans HC.out.1.symm)) (HC.out.2) (by rw [HC.out.1]; exact row_limbs) ?_; clear HM; intro w HM; simp only [List.set_cons_zero] at HM; replace HM := Lib.hid HM)))
      go_wp2
      go_roundw
      case rel => exact ⟨k + 1, by omega, by go_num, C, I, FC.out.1, FC.out.2, HM.out⟩
      case measure => simp [intOf]; omega
    · have hd2 : decide ((k : Int) < max 0 (min n 300)) = false := by rw [HLT.out]; simpa using hlk
      obtain rfl : k = T := by omega
      have rd := fun u => carry_l hY.limL u
      rw [hYM] at rd
      obtain ⟨Z, hZ, lZ⟩ : ∃ Z, Z = limL (N ^ 2 ^ k % Prime.P) ∧ LimL Z (N ^ 2 ^ k % Prime.P) := ⟨_, rfl, LimL.ofMod _⟩
      rw [← hZ] at rd
      have RD := Lib.hid rd
      have HZE := Lib.hid hZ
      have HZ := Lib.hid (show Z.length = 5 ∧ Single Z from ⟨lZ.len, lZ.one⟩)
      clear hm hY hYM rd hZ lZ
      go_wp2_with ((first
        | (with_reducible refine Hold.load HM.out 0 (cs := Y) rfl rfl rfl rfl (Part.all _) (by rw [HY.out.1]; exact row_limbs) ?_)
        | (with_reducible refine (RD.out _).mono ?_; rintro e w ⟨rfl, hb⟩; replace HM := Lib.hid (HM.out.next hb); clear hb)
        | (with_reducible refine Hold.store HM.out 1 (v' := Z) rfl rfl rfl rfl rfl (by simp [HZ.out.1, zeros5_length]) (lay_all (by simp [HZ.out.1, zeros5_length])) (HZ.out.2) (by rw [HZ.out.1]; exact row_limbs) ?_; clear HM; intro w HM; simp only [List.set_cons_zero, List.set_cons_succ] at HM; replace HM := Lib.hid HM)))
      exact bodyPost_ret (Hold.results1 HM.out 1 rfl _ rfl rfl (by rw [HZ.out.1]; exact row_limbs)) rfl ⟨by rw [HZE.out], HM.out.below⟩

/-- The exponent of the inverse, from its highest bit on. -/
def invE (k : Nat) : Nat := (Prime.P - 2) / 2 ^ (255 - k)
theorem invE_next (k : Nat) (h : k < 255) : invE (k + 1) = 2 * invE k + if k = 252 ∨ k = 250 then 0 else 1 := by
  have hb : ∀ k : Fin 255, (Prime.P - 2) / 2 ^ (255 - (k.val + 1)) = 2 * ((Prime.P - 2) / 2 ^ (255 - k.val)) + if k.val = 252 ∨ k.val = 250 then 0 else 1 := by decide +kernel
  exact hb ⟨k, h⟩
theorem invE_zero : invE 0 = 0 := by decide +kernel
theorem invE_end : invE 255 = Prime.P - 2 := by
  unfold invE
  rw [Nat.sub_self, Nat.pow_zero, Nat.div_one]
theorem pow_dbl {N q K I : Nat} (h : K % Prime.P = N ^ q % Prime.P) (hi : I % Prime.P = K * K % Prime.P) : I % Prime.P = N ^ (2 * q) % Prime.P := by
  rw [hi, Nat.mul_mod, h, ← Nat.mul_mod, ← Nat.pow_add, ← Nat.two_mul]
theorem pow_inc {N q K I A : Nat} (h : K % Prime.P = N ^ q % Prime.P) (ha : A % Prime.P = N % Prime.P) (hi : I % Prime.P = K * A % Prime.P) : I % Prime.P = N ^ (q + 1) % Prime.P := by
  rw [hi, Nat.mul_mod, h, ha, ← Nat.mul_mod, Nat.pow_succ]
def one5 : List Value := [.int .u64 1, .int .u64 0, .int .u64 0, .int .u64 0, .int .u64 0]
theorem one5_room : RoomV one5 1 := room_five (a := 1) (b := 0) (c := 0) (d := 0) (e := 0) (by unfold Limb.Roomy; omega)
theorem built_one : Try.prog.built 24 [(0, .int .u64 1)] = some one5.toArray := by kernel_rfl
set_option maxHeartbeats 3200000 in
theorem inverted_l {X : List Value} {N : Nat} (hX : LimL X N) (w0 : World) :
    Calls Try.prog 29 #[.agg X.toArray] w0 fun r w' => r = .returned (.agg (limL (N ^ (Prime.P - 2) % Prime.P)).toArray) ∧ Below w0.heap.size w0 w' := by
  obtain ⟨A, K, hA, kA, ra⟩ := small_l hX
  have RA := Lib.hid ra
  have FA := Lib.hid (show RoomV A K ∧ K % Prime.P = N % Prime.P from ⟨hA, kA⟩)
  have HA := Lib.hid (show A.length = 5 ∧ Single A from ⟨hA.len, hA.one⟩)
  have HO := Lib.hid (show one5.length = 5 ∧ Single one5 from ⟨one5_room.len, one5_room.one⟩)
  have HX := Lib.hid (show X.length = 5 ∧ Single X from ⟨hX.len, hX.one⟩)
  have HM := Lib.hid (Hld.start w0)
  clear hA kA ra hX
  go_enter Try.func29, Try.ntmps29
  go_upto_region 1 with ((first
    | (with_reducible refine Hold.box (m := []) HM.out rfl rfl rfl ?_; clear HM; intro b0 w HM; simp only [List.nil_append] at HM; replace HM := Lib.hid HM)
    | (with_reducible refine Hold.alloc HM.out rfl rfl zeros5 zero_limbs5 ?_; clear HM; intro br w HM; simp only [List.nil_append, List.cons_append] at HM; replace HM := Lib.hid HM)))
  go_upto_region 2 with ((first
    | (with_reducible refine Hold.load HM.out 0 (cs := X) rfl rfl rfl rfl (Part.all _) (by rw [HX.out.1]; exact row_limbs) ?_)
    | (with_reducible refine (RA.out _).mono ?_; rintro e w ⟨rfl, hb⟩; replace HM := Lib.hid (HM.out.next hb); clear hb)
    | (with_reducible refine Hold.store HM.out 0 (v' := A) rfl rfl rfl rfl rfl (by rw [Nat.zero_add, HA.out.1, HX.out.1]; exact Nat.le_refl _) (lay_all (HX.out.1.trans HA.out.1.symm)) (HA.out.2) (by rw [HA.out.1]; exact row_limbs) ?_; clear HM; intro w HM; simp only [List.set_cons_zero] at HM; replace HM := Lib.hid HM)))
  go_upto_region 3 with ((first
    | (with_reducible refine Hold.build (cs := one5) rfl rfl (by simp [Act.eval]; exact built_one) ?_)
    | (with_reducible refine Hold.alloc HM.out rfl rfl zeros5 zero_limbs5 ?_; clear HM; intro bo w HM; simp only [List.nil_append, List.cons_append] at HM; replace HM := Lib.hid HM)
    | (with_reducible refine Hold.store HM.out 2 (v' := one5) rfl rfl rfl rfl rfl (by rw [Nat.zero_add, HO.out.1, zeros5_length]; exact Nat.le_refl _) (lay_all (zeros5_length.trans HO.out.1.symm)) (HO.out.2) (by rw [HO.out.1]; exact row_limbs) ?_; clear HM; intro w HM; simp only [List.set_cons_zero, List.set_cons_succ] at HM; replace HM := Lib.hid HM)))
  go_wp2
  go_loopw [4] (fun i wr => ∃ k : Nat, k ≤ 255 ∧ i = .int .i64 (254 - (k : Int)) ∧ ∃ Y M, RoomV Y M ∧ M % Prime.P = N ^ invE k % Prime.P ∧ Hld w0 [⟨b0, 24, A⟩, ⟨br, 24, zeros5⟩, ⟨bo, 24, Y⟩] wr) (fun i _ => (intOf i + 1).toNat)
  case atStart => exact ⟨0, by omega, rfl, one5, 1, one5_room, by rw [invE_zero, Nat.pow_zero], HM.out⟩
  case round =>
    obtain ⟨k, hk5, rfl, Y, M, hY, hYM, hm⟩ := hrel
    clear HM RA HX HO
    have HM := Lib.hid hm
    have HY := Lib.hid (show Y.length = 5 ∧ Single Y from ⟨hY.len, hY.one⟩)
    by_cases hlk : k < 255
    · have hd2 : decide ((0 : Int) ≤ 254 - (k : Int)) = true := by simp; omega
      have hd2' : decide ((k : Int) ≤ 254) = true := by simp; omega
      have ik : (k : Int) ≤ 254 := by omega
      obtain ⟨C, I, hC, iC, rc⟩ := times_l hY hY
      have fc := pow_dbl hYM iC
      have RC := Lib.hid rc
      have HC := Lib.hid (show C.length = 5 ∧ Single C from ⟨hC.len, hC.one⟩)
      have hn := invE_next k hlk
      by_cases hsk : k = 252 ∨ k = 250
      · rw [if_pos hsk, Nat.add_zero] at hn
        have FC := Lib.hid (show RoomV C I ∧ I % Prime.P = N ^ invE (k + 1) % Prime.P from ⟨hC, by rw [hn]; exact fc⟩)
        clear hm hY hYM hC iC rc fc hn
        go_upto_region 7 with ((first
          | (with_reducible refine Hold.load HM.out 2 (cs := Y) rfl rfl rfl rfl (Part.all _) (by rw [HY.out.1]; exact row_limbs) ?_)
          | (with_reducible refine (RC.out _).mono ?_; rintro e w ⟨rfl, hb⟩; replace HM := Lib.hid (HM.out.next hb); clear hb)
          | (with_reducible refine Hold.store HM.out 2 (v' := C) rfl rfl rfl rfl rfl (by rw [Nat.zero_add, HC.out.1, HY.out.1]; exact Nat.le_refl _) (lay_all (HY.out.1.trans HC.out.1.symm)) (HC.out.2) (by rw [HC.out.1]; exact row_limbs) ?_; clear HM; intro w HM; simp only [List.set_cons_zero, List.set_cons_succ] at HM; replace HM := Lib.hid HM)))
        rcases hsk with rfl | rfl
        · go_wp2
          go_roundw
          case rel => exact ⟨253, by omega, by go_num, C, I, FC.out.1, FC.out.2, HM.out⟩
          case measure => simp [intOf]
        · go_wp2
          go_roundw
          case rel => exact ⟨251, by omega, by go_num, C, I, FC.out.1, FC.out.2, HM.out⟩
          case measure => simp [intOf]
      · rw [if_neg hsk] at hn
        obtain ⟨D, J, hD, jD, rd⟩ := times_l hC FA.out.1
        have RD := Lib.hid rd
        have FD := Lib.hid (show RoomV D J ∧ J % Prime.P = N ^ invE (k + 1) % Prime.P from ⟨hD, by rw [hn]; exact pow_inc fc FA.out.2 jD⟩)
        have HD := Lib.hid (show D.length = 5 ∧ Single D from ⟨hD.len, hD.one⟩)
        have t2 : ((254 - (k : Int)) != 2) = true := by simp; omega
        have t4 : ((254 - (k : Int)) != 4) = true := by simp; omega
        clear hm hY hYM hC iC rc fc hn hD jD rd hsk
        go_upto_region 7 with ((first
          | (with_reducible refine Hold.load HM.out 2 (cs := Y) rfl rfl rfl rfl (Part.all _) (by rw [HY.out.1]; exact row_limbs) ?_)
          | (with_reducible refine (RC.out _).mono ?_; rintro e w ⟨rfl, hb⟩; replace HM := Lib.hid (HM.out.next hb); clear hb)
          | (with_reducible refine Hold.store HM.out 2 (v' := C) rfl rfl rfl rfl rfl (by rw [Nat.zero_add, HC.out.1, HY.out.1]; exact Nat.le_refl _) (lay_all (HY.out.1.trans HC.out.1.symm)) (HC.out.2) (by rw [HC.out.1]; exact row_limbs) ?_; clear HM; intro w HM; simp only [List.set_cons_zero, List.set_cons_succ] at HM; replace HM := Lib.hid HM)))
        go_upto_region 5 with ((first
          | (with_reducible refine Hold.load HM.out 2 (cs := C) rfl rfl rfl rfl (Part.all _) (by rw [HC.out.1]; exact row_limbs) ?_)
          | (with_reducible refine Hold.load HM.out 0 (cs := A) rfl rfl rfl rfl (Part.all _) (by rw [HA.out.1]; exact row_limbs) ?_)
          | (with_reducible refine (RD.out _).mono ?_; rintro e w ⟨rfl, hb⟩; replace HM := Lib.hid (HM.out.next hb); clear hb)
          | (with_reducible refine Hold.store HM.out 2 (v' := D) rfl rfl rfl rfl rfl (by rw [Nat.zero_add, HD.out.1, HC.out.1]; exact Nat.le_refl _) (lay_all (HC.out.1.trans HD.out.1.symm)) (HD.out.2) (by rw [HD.out.1]; exact row_limbs) ?_; clear HM; intro w HM; simp only [List.set_cons_zero, List.set_cons_succ] at HM; replace HM := Lib.hid HM)))
        go_wp2
        go_roundw
        case rel => exact ⟨k + 1, by omega, by go_num, D, J, FD.out.1, FD.out.2, HM.out⟩
        case measure => simp [intOf]; omega
    · have hd2 : decide ((0 : Int) ≤ 254 - (k : Int)) = false := by simp; omega
      have hd2' : decide ((k : Int) ≤ 254) = false := by simp; omega
      obtain rfl : k = 255 := by omega
      have rd := fun u => carry_l hY.limL u
      rw [hYM, invE_end] at rd
      obtain ⟨Z, hZ, lZ⟩ : ∃ Z, Z = limL (N ^ (Prime.P - 2) % Prime.P) ∧ LimL Z (N ^ (Prime.P - 2) % Prime.P) := ⟨_, rfl, LimL.ofMod _⟩
      rw [← hZ] at rd
      have RD := Lib.hid rd
      have HZE := Lib.hid hZ
      have HZ := Lib.hid (show Z.length = 5 ∧ Single Z from ⟨lZ.len, lZ.one⟩)
      clear hm hY hYM rd hZ lZ
      go_wp2_with ((first
        | (with_reducible refine Hold.load HM.out 2 (cs := Y) rfl rfl rfl rfl (Part.all _) (by rw [HY.out.1]; exact row_limbs) ?_)
        | (with_reducible refine (RD.out _).mono ?_; rintro e w ⟨rfl, hb⟩; replace HM := Lib.hid (HM.out.next hb); clear hb)
        | (with_reducible refine Hold.store HM.out 1 (v' := Z) rfl rfl rfl rfl rfl (by simp [HZ.out.1, zeros5_length]) (lay_all (by simp [HZ.out.1, zeros5_length])) (HZ.out.2) (by rw [HZ.out.1]; exact row_limbs) ?_; clear HM; intro w HM; simp only [List.set_cons_zero, List.set_cons_succ] at HM; replace HM := Lib.hid HM)))
      exact bodyPost_ret (Hold.results1 HM.out 1 rfl _ rfl rfl (by rw [HZ.out.1]; exact row_limbs)) rfl ⟨by rw [HZE.out], HM.out.below⟩
end Go.Proofs.Ytcglobpklhkebaa.RefLimb
