/-
  The document's Root of layer 5 answers what the plain mathematics says, and leaves all memory that was there as it was. Condition: words below 2^64.
-/
import Derived.Test.YtcglobpklhkebaaRPow
import Derived.Test.YtcglobpklhkebaaHoldB
namespace Go.Proofs.Ytcglobpklhkebaa.RefLimb
open Go.RowKit Mur Lanes Limb Hold
set_option maxRecDepth 100000

theorem num_expo1 : num ((expoT 254 15).data.toList.take 64) = 2 ^ 252 - 2 := by decide +kernel
theorem num_expo2 : num ((expoT 251 31).data.toList.take 64) = 2 ^ 253 - 5 := by decide +kernel
theorem expoT_size (f l : UInt8) : (expoT f l).size = 32 := rfl
def two5 : List Value := [.int .u64 2, .int .u64 0, .int .u64 0, .int .u64 0, .int .u64 0]
theorem two5_l : LimL two5 2 := LimL.ofFive (a := 2) (b := 0) (c := 0) (d := 0) (e := 0) (by unfold Words5; omega)
theorem built_two5 : Try.prog.built 24 [(0, .int .u64 2)] = some two5.toArray := by kernel_rfl
theorem built_zero5 : Try.prog.built 24 [] = some zeros5.toArray := by kernel_rfl
/-- What is told as a root, as a list. -/
def rootL (x : Nat) : List Value := if rootA x ^ 2 % Prime.P = x then limL (rootA x) else if rootB x ^ 2 % Prime.P = x then limL (rootB x) else zeros5
theorem rootL_V (x : Nat) : (.agg (rootL x).toArray : Value) = rootV x := by
  unfold rootL rootV
  split
  · rfl
  · split
    · rfl
    · rfl
theorem eq_limL {m n : Nat} (hm : m < Prime.P) (hn : n < Prime.P) (u : World) : (Op.equalIn 10000 24 (.agg (limL m).toArray) (.agg (limL n).toArray)).run Try.prog u = .ok (decide (m = n)) u :=
  eq_lim (Nat.lt_trans hm P_lt) (Nat.lt_trans hn P_lt) u
theorem rootA_e (x e : Nat) (he : e = 2 ^ 252 - 2) : rootA x = x ^ e % Prime.P := by
  unfold rootA
  rw [he]
theorem rootB_e (x e : Nat) (he : e = 2 ^ 253 - 5) : rootB x = rootA x * (2 ^ e % Prime.P) % Prime.P := by
  unfold rootB
  rw [he]
theorem pow1_l {X : List Value} {N : Nat} (hX : LimL X N) (u : World) : Calls Try.prog 33 #[.agg X.toArray, .string (expoT 254 15)] u fun r w' => r = .returned (.agg (limL (rootA N)).toArray) ∧ Below u.heap.size u w' := by
  have := powers_l hX (expoT 254 15) (by rw [expoT_size]; decide) u
  obtain ⟨e, he⟩ : ∃ e, e = 2 ^ 252 - 2 := ⟨_, rfl⟩
  rw [num_expo1, ← he, ← rootA_e N e he] at this
  exact this
theorem pow2_l (e : Nat) (he : e = 2 ^ 253 - 5) (u : World) : Calls Try.prog 33 #[.agg two5.toArray, .string (expoT 251 31)] u fun r w' => r = .returned (.agg (limL (2 ^ e % Prime.P)).toArray) ∧ Below u.heap.size u w' := by
  have := powers_l two5_l (expoT 251 31) (by rw [expoT_size]; decide) u
  rw [num_expo2, ← he] at this
  exact this
theorem square1_l {X : List Value} {N : Nat} (hX : LimL X N) (u : World) : Calls Try.prog 27 #[.agg X.toArray, .int .i64 1] u fun r w' => r = .returned (.agg (limL (N ^ 2 % Prime.P)).toArray) ∧ Below u.heap.size u w' := by
  have := squares_l hX 1 u (by decide) (by decide)
  rw [times_one, Nat.pow_one] at this
  exact this
theorem prodB_l {X Y : List Value} {x : Nat} (e : Nat) (he : e = 2 ^ 253 - 5) (hX : LimL X (rootA x)) (hY : LimL Y (2 ^ e % Prime.P)) (u : World) : Calls Try.prog 23 #[.agg X.toArray, .agg Y.toArray] u fun r w' => r = .returned (.agg (limL (rootB x)).toArray) ∧ Below u.heap.size u w' := by
  rw [rootB_e x e he]
  exact prod_l hX hY u

set_option maxHeartbeats 3200000 in
theorem roots_l {X : List Value} {N : Nat} (hX : LimL X N) (w0 : World) :
    Calls Try.prog 31 #[.agg X.toArray] w0 fun r w' => r = .returned (.tuple #[.agg (rootL (N % Prime.P)).toArray, .bool (rootIs (N % Prime.P))]) ∧ Below w0.heap.size w0 w' := by
  have ra := fun u => carry_l hX u
  obtain ⟨x, hx⟩ : ∃ x, x = N % Prime.P := ⟨_, rfl⟩
  rw [← hx] at ra ⊢
  have hxl : x < Prime.P := by rw [hx]; exact Nat.mod_lt _ P_pos
  obtain ⟨A, hA, lA⟩ : ∃ A, A = limL x ∧ LimL A x := ⟨_, rfl, LimL.ofLim (Nat.lt_trans hxl P_lt)⟩
  have hrA := rootA_lt x
  have hrB := rootB_lt x
  obtain ⟨R, hR, lR⟩ : ∃ A, A = limL (rootA x) ∧ LimL A (rootA x) := ⟨_, rfl, LimL.ofLim (Nat.lt_trans hrA P_lt)⟩
  obtain ⟨S, hS, lS⟩ : ∃ A, A = limL (rootB x) ∧ LimL A (rootB x) := ⟨_, rfl, LimL.ofLim (Nat.lt_trans hrB P_lt)⟩
  have rp1 := fun u => pow1_l lA u
  have rs1 := fun u => square1_l lR u
  have rs2 := fun u => square1_l lS u
  have q1 := fun u => eq_limL (m := rootA x ^ 2 % Prime.P) (n := x) (Nat.mod_lt _ P_pos) hxl u
  have q2 := fun u => eq_limL (m := rootB x ^ 2 % Prime.P) (n := x) (Nat.mod_lt _ P_pos) hxl u
  have re1 := fun u => exponents_any 254 15 u
  have re2 := fun u => exponents_any 251 31 u
  obtain ⟨f2, hf2⟩ : ∃ e, e = 2 ^ 253 - 5 := ⟨_, rfl⟩
  have rp2 := fun u => pow2_l f2 hf2 u
  obtain ⟨F, hF, lF⟩ : ∃ A, A = limL (2 ^ f2 % Prime.P) ∧ LimL A (2 ^ f2 % Prime.P) := ⟨_, rfl, LimL.ofMod _⟩
  have rt := fun u => prodB_l f2 hf2 lR lF u
  obtain ⟨V, hV⟩ : ∃ A, A = limL (rootA x ^ 2 % Prime.P) := ⟨_, rfl⟩
  obtain ⟨U, hU⟩ : ∃ A, A = limL (rootB x ^ 2 % Prime.P) := ⟨_, rfl⟩
  have hrl : rootL x = if rootA x ^ 2 % Prime.P = x then R else if rootB x ^ 2 % Prime.P = x then S else zeros5 := by
    unfold rootL
    rw [← hR, ← hS]
  have hri : rootIs x = (decide (rootA x ^ 2 % Prime.P = x) || decide (rootB x ^ 2 % Prime.P = x)) := rfl
  obtain ⟨t, ht⟩ : ∃ t, t = decide (rootA x ^ 2 % Prime.P = x) := ⟨_, rfl⟩
  obtain ⟨t', ht'⟩ : ∃ t, t = decide (rootB x ^ 2 % Prime.P = x) := ⟨_, rfl⟩
  have hrl2 : rootL x = if t then R else if t' then S else zeros5 := by
    rw [hrl, ht, ht']
    simp only [decide_eq_true_eq]
  obtain ⟨E1, hE1⟩ : ∃ E, E = expoT 254 15 := ⟨_, rfl⟩
  obtain ⟨E2, hE2⟩ : ∃ E, E = expoT 251 31 := ⟨_, rfl⟩
  rw [← hA] at ra q1 q2
  rw [← hR, ← hE1] at rp1
  rw [← hV] at rs1 q1
  rw [← hU] at rs2 q2
  rw [← ht] at q1 hri
  rw [← ht'] at q2 hri
  rw [← hF, ← hE2] at rp2
  rw [← hS] at rt
  rw [hrl2, hri]
  rw [← hE1] at re1
  rw [← hE2] at re2
  have re1' : ∀ u, Calls Try.prog 61 #[.int .u8 254, .int .u8 15] u fun r w' => r = .returned (.string E1) ∧ Below u.heap.size u w' := re1
  have re2' : ∀ u, Calls Try.prog 61 #[.int .u8 251, .int .u8 31] u fun r w' => r = .returned (.string E2) ∧ Below u.heap.size u w' := re2
  have RA := Lib.hid ra
  have RP1 := Lib.hid rp1
  have RS1 := Lib.hid rs1
  have RS2 := Lib.hid rs2
  have Q1 := Lib.hid q1
  have Q2 := Lib.hid q2
  have RE1 := Lib.hid re1'
  have RE2 := Lib.hid re2'
  have RP2 := Lib.hid rp2
  have RT := Lib.hid rt
  have HX := Lib.hid (show X.length = 5 ∧ Single X from ⟨hX.len, hX.one⟩)
  have HA := Lib.hid (show A.length = 5 ∧ Single A from ⟨lA.len, lA.one⟩)
  have HR := Lib.hid (show R.length = 5 ∧ Single R from ⟨lR.len, lR.one⟩)
  have HS := Lib.hid (show S.length = 5 ∧ Single S from ⟨lS.len, lS.one⟩)
  have HTW := Lib.hid (show two5.length = 5 ∧ Single two5 from ⟨two5_l.len, two5_l.one⟩)
  have SZ := Lib.hid (show Single zeros5 from (LimL.ofFive (a := 0) (b := 0) (c := 0) (d := 0) (e := 0) (by unfold Words5; omega)).one)
  have HM := Lib.hid (Hld.start w0)
  clear ra rp1 rs1 rs2 q1 q2 re1 re2 re1' re2' rp2 rt hX hx hxl hA lA hrA hrB hR lR hS lS hF lF hf2 hV hU hrl hri ht ht' hrl2 hE1 hE2
  go_enter Try.func31, Try.ntmps31
  go_upto_region 1 with ((first
    | (with_reducible refine Hold.box (m := []) HM.out rfl rfl rfl ?_; clear HM; intro b0 w HM; simp only [List.nil_append] at HM; replace HM := Lib.hid HM)
    | (with_reducible refine Hold.alloc HM.out rfl rfl zeros5 zero_limbs5 ?_; clear HM; intro br w HM; simp only [List.nil_append, List.cons_append] at HM; replace HM := Lib.hid HM)))
  go_upto_region 2 with ((first
    | (with_reducible refine Hold.load HM.out 0 (cs := X) rfl rfl rfl rfl (Part.all _) (by rw [HX.out.1]; exact row_limbs) ?_)
    | (with_reducible refine (RA.out _).mono ?_; rintro e w ⟨rfl, hb⟩; replace HM := Lib.hid (HM.out.next hb); clear hb)
    | (with_reducible refine Hold.store HM.out 0 (v' := A) rfl rfl rfl rfl rfl (by rw [Nat.zero_add, HA.out.1, HX.out.1]; exact Nat.le_refl _) (lay_all (HX.out.1.trans HA.out.1.symm)) (HA.out.2) (by rw [HA.out.1]; exact row_limbs) ?_; clear HM; intro w HM; simp only [List.set_cons_zero] at HM; replace HM := Lib.hid HM)))
  refine SteadyN.region 4 [3] [0, 1, 2] (by kernel_rfl) (by kernel_rfl) (SteadyN.Made _ 24 zeros5) (fun k hk o ho => by
    simp only [List.mem_cons, List.not_mem_nil, or_false] at hk
    subst hk <;> (obtain rfl : _ = o := Option.some.inj ho; exact SteadyN.makes rfl 24 rfl _ zero_limbs5)) (SteadyN.Made.start _ _ _) ?_
  simp only [List.filterMap_cons, List.filterMap_nil, List.drop_succ_cons, List.drop_zero, List.getElem?_cons_zero, List.getElem?_cons_succ, Option.map_some]
  refine SteadyN.take (.agg (A).toArray) rfl (fun s u hu => Hold.load_made HM.out.drew hu 0 rfl rfl rfl (Part.all _) (by rw [HA.out.1]; exact row_limbs)) ?_
  simp only [Act.put, List.setIfInBounds_toArray, List.set_cons_zero, List.set_cons_succ]
  refine SteadyN.call _ _ _ rfl ?_ (SteadyN.kept RE1.out) ?_
  · intro u
    go_simp
  simp only [Act.put, List.setIfInBounds_toArray, List.set_cons_zero, List.set_cons_succ]
  refine SteadyN.call _ _ _ rfl ?_ (SteadyN.kept RP1.out) ?_
  · intro u
    go_simp
  simp only [Act.put, List.setIfInBounds_toArray, List.set_cons_zero, List.set_cons_succ]
  refine SteadyN.nil ?_
  simp only [SteadyN.made]
  intro p1 w hS
  obtain ⟨b, rfl, HM2⟩ := Hold.made1 HM.out.drew hS (i := 3) (p := p1) (by simp [SteadyN.upd])
  clear HM hS
  simp only [List.nil_append, List.cons_append] at HM2
  have HM := Lib.hid HM2
  clear HM2
  simp only [Act.put, List.setIfInBounds_toArray, List.set_cons_zero, List.set_cons_succ]
  go_upto_region 3 with ((first
    | (with_reducible refine Hold.store HM.out 2 (v' := R) rfl rfl rfl rfl rfl (by rw [Nat.zero_add, HR.out.1, zeros5_length]; exact Nat.le_refl _) (lay_all (zeros5_length.trans HR.out.1.symm)) (HR.out.2) (by rw [HR.out.1]; exact row_limbs) ?_; clear HM; intro w HM; simp only [List.set_cons_zero, List.set_cons_succ] at HM; replace HM := Lib.hid HM)))
  refine Steady.region 3 (by kernel_rfl) (by kernel_rfl) (fun u => Hld _ _ u) HM.out.drew ?_
  simp only [List.take_succ_cons, List.take_zero, List.drop_succ_cons, List.drop_zero]
  refine Steady.take (.agg (R).toArray) rfl (fun u hu => Hold.load_run hu 2 rfl rfl rfl (Part.all _) (by rw [HR.out.1]; exact row_limbs)) ?_
  simp only [Act.put, List.setIfInBounds_toArray, List.set_cons_zero, List.set_cons_succ]
  refine Steady.call _ _ _ rfl ?_ (Hold.kept RS1.out) ?_
  · intro u
    go_simp
  simp only [Act.put, List.setIfInBounds_toArray, List.set_cons_zero, List.set_cons_succ]
  refine Steady.take (.agg (A).toArray) rfl (fun u hu => Hold.load_run hu 0 rfl rfl rfl (Part.all _) (by rw [HA.out.1]; exact row_limbs)) ?_
  simp only [Act.put, List.setIfInBounds_toArray, List.set_cons_zero, List.set_cons_succ]
  refine Steady.nil ?_
  clear HM
  intro w HM
  replace HM := Lib.hid HM
  have q1 := Q1.out
  cases t with
  | true =>
    go_wp2_with ((first
      | (with_reducible refine Hold.load HM.out 2 (cs := R) rfl rfl rfl rfl (Part.all _) (by rw [HR.out.1]; exact row_limbs) ?_)
      | (with_reducible refine Hold.store HM.out 1 (v' := R) rfl rfl rfl rfl rfl (by rw [Nat.zero_add, HR.out.1, zeros5_length]; exact Nat.le_refl _) (lay_all (zeros5_length.trans HR.out.1.symm)) (HR.out.2) (by rw [HR.out.1]; exact row_limbs) ?_; clear HM; intro w HM; simp only [List.set_cons_zero, List.set_cons_succ] at HM; replace HM := Lib.hid HM)))
    exact bodyPost_ret (Hold.resultsCT HM.out 1 rfl _ rfl rfl rfl (by rw [HR.out.1]; exact row_limbs)) rfl ⟨by simp, HM.out.below⟩
  | false =>
    go_upto_region 5 with (fail)
    clear q1
    refine Steady.region 5 (by kernel_rfl) (by kernel_rfl) (fun u => Hld _ _ u) HM.out.drew ?_
    simp only [List.take_succ_cons, List.take_zero, List.drop_succ_cons, List.drop_zero]
    refine Steady.take (.agg (R).toArray) rfl (fun u hu => Hold.load_run hu 2 rfl rfl rfl (Part.all _) (by rw [HR.out.1]; exact row_limbs)) ?_
    simp only [Act.put, List.setIfInBounds_toArray, List.set_cons_zero, List.set_cons_succ]
    refine Steady.take (.agg (two5).toArray) rfl (fun u hu => Hold.build_run rfl (by simp [Act.eval]; exact built_two5)) ?_
    simp only [Act.put, List.setIfInBounds_toArray, List.set_cons_zero, List.set_cons_succ]
    refine Steady.call _ _ _ rfl ?_ (Hold.kept RE2.out) ?_
    · intro u
      go_simp
    simp only [Act.put, List.setIfInBounds_toArray, List.set_cons_zero, List.set_cons_succ]
    refine Steady.call _ _ _ rfl ?_ (Hold.kept RP2.out) ?_
    · intro u
      go_simp
    simp only [Act.put, List.setIfInBounds_toArray, List.set_cons_zero, List.set_cons_succ]
    refine Steady.call _ _ _ rfl ?_ (Hold.kept RT.out) ?_
    · intro u
      go_simp
    simp only [Act.put, List.setIfInBounds_toArray, List.set_cons_zero, List.set_cons_succ]
    refine Steady.nil ?_
    clear HM
    intro w HM
    replace HM := Lib.hid HM
    go_upto_region 6 with ((first
      | (with_reducible refine Hold.store HM.out 2 (v' := S) rfl rfl rfl rfl rfl (by rw [Nat.zero_add, HS.out.1, HR.out.1]; exact Nat.le_refl _) (lay_all (HR.out.1.trans HS.out.1.symm)) (HS.out.2) (by rw [HS.out.1]; exact row_limbs) ?_; clear HM; intro w HM; simp only [List.set_cons_zero, List.set_cons_succ] at HM; replace HM := Lib.hid HM)))
    refine Steady.region 3 (by kernel_rfl) (by kernel_rfl) (fun u => Hld _ _ u) HM.out.drew ?_
    simp only [List.take_succ_cons, List.take_zero, List.drop_succ_cons, List.drop_zero]
    refine Steady.take (.agg (S).toArray) rfl (fun u hu => Hold.load_run hu 2 rfl rfl rfl (Part.all _) (by rw [HS.out.1]; exact row_limbs)) ?_
    simp only [Act.put, List.setIfInBounds_toArray, List.set_cons_zero, List.set_cons_succ]
    refine Steady.call _ _ _ rfl ?_ (Hold.kept RS2.out) ?_
    · intro u
      go_simp
    simp only [Act.put, List.setIfInBounds_toArray, List.set_cons_zero, List.set_cons_succ]
    refine Steady.take (.agg (A).toArray) rfl (fun u hu => Hold.load_run hu 0 rfl rfl rfl (Part.all _) (by rw [HA.out.1]; exact row_limbs)) ?_
    simp only [Act.put, List.setIfInBounds_toArray, List.set_cons_zero, List.set_cons_succ]
    refine Steady.nil ?_
    clear HM
    intro w HM
    replace HM := Lib.hid HM
    have q2 := Q2.out
    cases t' with
    | true =>
      go_wp2_with ((first
        | (with_reducible refine Hold.load HM.out 2 (cs := S) rfl rfl rfl rfl (Part.all _) (by rw [HS.out.1]; exact row_limbs) ?_)
        | (with_reducible refine Hold.store HM.out 1 (v' := S) rfl rfl rfl rfl rfl (by rw [Nat.zero_add, HS.out.1, zeros5_length]; exact Nat.le_refl _) (lay_all (zeros5_length.trans HS.out.1.symm)) (HS.out.2) (by rw [HS.out.1]; exact row_limbs) ?_; clear HM; intro w HM; simp only [List.set_cons_zero, List.set_cons_succ] at HM; replace HM := Lib.hid HM)))
      exact bodyPost_ret (Hold.resultsCT HM.out 1 rfl _ rfl rfl rfl (by rw [HS.out.1]; exact row_limbs)) rfl ⟨by simp, HM.out.below⟩
    | false =>
      go_wp2_with ((first
        | (with_reducible refine Hold.build (cs := zeros5) rfl rfl (by simpa using built_zero5) ?_)
        | (with_reducible refine Hold.store HM.out 1 (v' := zeros5) rfl rfl rfl rfl rfl (by rw [Nat.zero_add]; exact Nat.le_refl _) (lay_all rfl) (SZ.out) (by rw [zeros5_length]; exact row_limbs) ?_; clear HM; intro w HM; simp only [List.set_cons_zero, List.set_cons_succ] at HM; replace HM := Lib.hid HM)))
      exact bodyPost_ret (Hold.resultsCT HM.out 1 rfl _ rfl rfl rfl (by rw [zeros5_length]; exact row_limbs)) rfl ⟨by simp, HM.out.below⟩
end Go.Proofs.Ytcglobpklhkebaa.RefLimb
