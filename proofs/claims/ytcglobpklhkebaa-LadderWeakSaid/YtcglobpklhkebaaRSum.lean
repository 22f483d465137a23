/-
  The document's Add, Sub and Swap of layer 5 answer what the plain mathematics says, and leave all memory that was there as it was. Conditions: words below 2^64, a bit that is no less than 0.
-/
import Derived.Test.YtcglobpklhkebaaRProd
namespace Go.Proofs.Ytcglobpklhkebaa.RefLimb
open Go.RowKit Mur Lanes Limb Hold
set_option maxRecDepth 100000

/-- The limbs of a reduced number. -/
theorem lim_get (n i : Nat) : (lim n).getD i 0 < 2251799813685248 := by
  by_cases hi : i < 5
  · rw [lim_at _ _ hi]
    exact Nat.mod_lt _ (by decide)
  · rw [List.getD, List.getElem?_eq_none (by rw [lim_length]; omega)]
    decide
theorem lim_worth {n : Nat} (h : n < 57896044618658097711785492504343953926634992332820282019728792003956564819968) : worL (lim n) = n := by
  have := wor_lim h
  unfold worL lim
  simp only [List.getD_cons_zero, List.getD_cons_succ]
  exact this
def sumL (A B : List Nat) : List Nat := (List.range 5).map fun i => A.getD i 0 + B.getD i 0
theorem sumL_get (A B : List Nat) (i : Nat) (h : i < 5) : (sumL A B).getD i 0 = A.getD i 0 + B.getD i 0 := by
  unfold sumL
  simp [List.getD, h]
def difL (A B : List Nat) : List Nat := (List.range 5).map fun i => A.getD i 0 + (4503599627370494 - B.getD i 0)
theorem difL_get (A B : List Nat) (i : Nat) (h : i < 5) : (difL A B).getD i 0 = A.getD i 0 + (4503599627370494 - B.getD i 0) := by
  unfold difL
  simp [List.getD, h]
theorem nums_lim {X : List Nat} (h5 : X.length = 5) (h : ∀ i, i < 5 → X.getD i 0 < 18446744073709551616) : LimL (numsV X) (worL X) := by
  have e := list_nat5 h5
  have h0 := h 0 (by decide)
  have h1 := h 1 (by decide)
  have h2 := h 2 (by decide)
  have h3 := h 3 (by decide)
  have h4 := h 4 (by decide)
  unfold worL
  generalize X.getD 0 0 = a at *
  generalize X.getD 1 0 = b at *
  generalize X.getD 2 0 = c at *
  generalize X.getD 3 0 = d at *
  generalize X.getD 4 0 = f at *
  rw [e]
  exact LimL.ofFive (a := a) (b := b) (c := c) (d := d) (e := f) (by unfold Words5; omega)
theorem sum_wor (A B : List Nat) : worL (sumL A B) = worL A + worL B := by
  rw [worL, sumL_get _ _ 0 (by decide), sumL_get _ _ 1 (by decide), sumL_get _ _ 2 (by decide), sumL_get _ _ 3 (by decide), sumL_get _ _ 4 (by decide), wor_sum]
  rfl
theorem dif_wor (A B : List Nat) (hB : ∀ i, B.getD i 0 < 2251799813685248) : worL ((difL A B).set 0 ((difL A B).getD 0 0 - 36)) + worL B = worL A + 2 * Prime.P := by
  have g : ∀ i, i < 5 → ((difL A B).set 0 ((difL A B).getD 0 0 - 36)).getD i 0 = if i = 0 then A.getD 0 0 + (4503599627370494 - B.getD 0 0) - 36 else A.getD i 0 + (4503599627370494 - B.getD i 0) := fun i hi => by
    by_cases e : i = 0
    · subst e
      rw [if_pos rfl, ← difL_get _ _ 0 (by decide)]
      simp [List.getD, difL]
    · rw [if_neg e, List.getD, List.getElem?_set_ne (by omega), ← List.getD, difL_get _ _ _ hi]
  rw [worL, g 0 (by decide), g 1 (by decide), g 2 (by decide), g 3 (by decide), g 4 (by decide), if_pos rfl, if_neg (by decide), if_neg (by decide), if_neg (by decide), if_neg (by decide)]
  have h0 := hB 0
  have h1 := hB 1
  have h2 := hB 2
  have h3 := hB 3
  have h4 := hB 4
  unfold worL
  rw [P_eq]
  generalize A.getD 0 0 = a0 at *
  generalize A.getD 1 0 = a1 at *
  generalize A.getD 2 0 = a2 at *
  generalize A.getD 3 0 = a3 at *
  generalize A.getD 4 0 = a4 at *
  generalize B.getD 0 0 = b0 at *
  generalize B.getD 1 0 = b1 at *
  generalize B.getD 2 0 = b2 at *
  generalize B.getD 3 0 = b3 at *
  generalize B.getD 4 0 = b4 at *
  unfold wor
  omega

set_option maxHeartbeats 3200000 in
theorem sum_l {X Y : List Value} {N M : Nat} (hX : LimL X N) (hY : LimL Y M) (w0 : World) :
    Calls Try.prog 19 #[.agg X.toArray, .agg Y.toArray] w0 fun r w' => r = .returned (.agg (limL ((N + M) % Prime.P)).toArray) ∧ Below w0.heap.size w0 w' := by
  have ra := fun u => carry_l hX u
  have rb := fun u => carry_l hY u
  have hA := fun i => lim_get (N % Prime.P) i
  have hB := fun i => lim_get (M % Prime.P) i
  have wA := lim_worth (Nat.lt_trans (Nat.mod_lt N P_pos) P_lt)
  have wB := lim_worth (Nat.lt_trans (Nat.mod_lt M P_pos) P_lt)
  have lA := lim_length (N % Prime.P)
  have lB := lim_length (M % Prime.P)
  unfold limL at ra rb
  generalize lim (N % Prime.P) = A at *
  generalize lim (M % Prime.P) = B at *
  have rc := fun u => carry_l (nums_lim (X := sumL A B) rfl (fun i hi => by rw [sumL_get _ _ _ hi]; have := hA i; have := hB i; omega)) u
  rw [sum_wor, wA, wB, ← Nat.add_mod] at rc
  obtain ⟨S, hS⟩ : ∃ S, S = sumL A B := ⟨_, rfl⟩
  have hSg : ∀ i, i < 5 → S.getD i 0 = A.getD i 0 + B.getD i 0 := fun i hi => by rw [hS]; exact sumL_get A B i hi
  have hS5 : S.length = 5 := by rw [hS]; rfl
  rw [← hS] at rc
  obtain ⟨Z, hZ, lZ⟩ : ∃ Z, Z = limL ((N + M) % Prime.P) ∧ LimL Z ((N + M) % Prime.P) := ⟨_, rfl, LimL.ofMod _⟩
  rw [← hZ] at rc ⊢
  have RA := Lib.hid ra
  have RB := Lib.hid rb
  have RC := Lib.hid rc
  have LA := Lib.hid (show A.length = 5 from lA)
  have LB := Lib.hid (show B.length = 5 from lB)
  have NA := Lib.hid (show (numsV A).length = 5 by rw [numsV_length, lA])
  have NB := Lib.hid (show (numsV B).length = 5 by rw [numsV_length, lB])
  have HA := Lib.hid hA
  have HBB := Lib.hid hB
  have HSG := Lib.hid hSg
  have HS5 := Lib.hid hS5
  have HFIN := Lib.hid (show (numsV S).length = 5 by rw [numsV_length, hS5])
  have HX := Lib.hid (show X.length = 5 ∧ Single X from ⟨hX.len, hX.one⟩)
  have HY := Lib.hid (show Y.length = 5 ∧ Single Y from ⟨hY.len, hY.one⟩)
  have HZ := Lib.hid (show Z.length = 5 ∧ Single Z from ⟨lZ.len, lZ.one⟩)
  have HM := Lib.hid (Hld.start w0)
  clear hA hB wA wB lA lB ra rb rc hS hSg hS5 hZ lZ hX hY
  go_enter Try.func19, Try.ntmps19
  go_upto_region 1 with ((first
    | (with_reducible refine Hold.box (m := []) HM.out rfl rfl rfl ?_; clear HM; intro b0 w HM; simp only [List.nil_append] at HM; replace HM := Lib.hid HM)
    | (with_reducible refine Hold.box (m := [_]) HM.out rfl rfl rfl ?_; clear HM; intro b1 w HM; simp only [List.nil_append, List.cons_append] at HM; replace HM := Lib.hid HM)
    | (with_reducible refine Hold.alloc HM.out rfl rfl zeros5 zero_limbs5 ?_; clear HM; intro br w HM; simp only [List.nil_append, List.cons_append] at HM; replace HM := Lib.hid HM)))
  refine Steady.region 4 (by kernel_rfl) (by kernel_rfl) (fun u => Hld _ _ u) HM.out.drew ?_
  simp only [List.take_succ_cons, List.take_zero, List.drop_succ_cons, List.drop_zero]
  refine Steady.take (.agg (X).toArray) rfl (fun u hu => Hold.load_run hu 0 rfl rfl rfl (Part.all _) (by rw [HX.out.1]; exact row_limbs)) ?_
  simp only [Act.put, List.setIfInBounds_toArray, List.set_cons_zero, List.set_cons_succ]
  refine Steady.call _ _ _ rfl ?_ (Hold.kept RA.out) ?_
  · intro u
    go_simp
  simp only [Act.put, List.setIfInBounds_toArray, List.set_cons_zero, List.set_cons_succ]
  refine Steady.take (.agg (Y).toArray) rfl (fun u hu => Hold.load_run hu 1 rfl rfl rfl (Part.all _) (by rw [HY.out.1]; exact row_limbs)) ?_
  simp only [Act.put, List.setIfInBounds_toArray, List.set_cons_zero, List.set_cons_succ]
  refine Steady.call _ _ _ rfl ?_ (Hold.kept RB.out) ?_
  · intro u
    go_simp
  simp only [Act.put, List.setIfInBounds_toArray, List.set_cons_zero, List.set_cons_succ]
  refine Steady.nil ?_
  clear HM
  intro w HM
  replace HM := Lib.hid HM
  go_upto_region 2 with ((first
    | (with_reducible refine Hold.store HM.out 0 (v' := numsV A) rfl rfl rfl rfl rfl (by rw [Nat.zero_add, NA.out, HX.out.1]; exact Nat.le_refl _) (lay_all (HX.out.1.trans NA.out.symm)) (single_nums _) (by rw [NA.out]; exact row_limbs) ?_; clear HM; intro w HM; simp only [List.set_cons_zero] at HM; replace HM := Lib.hid HM)
    | (with_reducible refine Hold.store HM.out 1 (v' := numsV B) rfl rfl rfl rfl rfl (by rw [Nat.zero_add, NB.out, HY.out.1]; exact Nat.le_refl _) (lay_all (HY.out.1.trans NB.out.symm)) (single_nums _) (by rw [NB.out]; exact row_limbs) ?_; clear HM; intro w HM; simp only [List.set_cons_zero, List.set_cons_succ] at HM; replace HM := Lib.hid HM)))
  go_wp2
  go_loopw [5, 10] (fun _ i wr => ∃ k : Nat, k ≤ 5 ∧ i = .int .i64 k ∧ Hld w0 [⟨b0, 24, numsV (mixTo A S k)⟩, ⟨b1, 24, numsV B⟩, ⟨br, 24, zeros5⟩] wr) (fun _ i _ => 5 - (intOf i).toNat)
  case atStart => exact ⟨0, by omega, rfl, HM.out⟩
  case round =>
    obtain ⟨k, hk5, rfl, hm⟩ := hrel
    clear HM RA RB HX HY NA NB
    have HM := Lib.hid hm
    clear hm
    by_cases hlk : k < 5
    · have hd3 : decide ((k : Int) < 5) = true := by simp; omega
      have ik : (k : Int) < 5 := by omega
      have lX : k < (mixTo A S k).length := by rw [mixTo_length, LA.out]; exact hlk
      have gX : (mixTo A S k).getD k 0 = A.getD k 0 := by rw [mixTo_get A S k k (by rw [LA.out]; exact hlk), if_neg (by omega)]
      have hnx : mixTo A S (k + 1) = (mixTo A S k).set k (S.getD k 0) := rfl
      have hsg := HSG.out k hlk
      have hxb := HA.out k
      have hyb := HBB.out k
      have gB := nums_get (X := B) (i := k) (by rw [LB.out]; exact hlk)
      have hm := HM.out
      clear HM
      generalize mixTo A S k = Q at *
      have gM := nums_get lX
      rw [gX] at gM
      obtain ⟨x, hx⟩ : ∃ x, x = A.getD k 0 := ⟨_, rfl⟩
      obtain ⟨y, hy⟩ : ∃ x, x = B.getD k 0 := ⟨_, rfl⟩
      obtain ⟨s, hs⟩ : ∃ x, x = S.getD k 0 := ⟨_, rfl⟩
      rw [← hx] at gM hxb hsg
      rw [← hy] at gB hyb hsg
      rw [← hs] at hnx hsg
      have e1 : IntKind.u64.wrap ((x : Int) + (y : Int)) = (s : Int) := by rw [addN, wrapN _ (by omega), hsg]
      have hs1 : (numsV Q).set k (.int .u64 (s : Int)) = numsV (mixTo A S (k + 1)) := by rw [numsV_set, hnx]
      have lV : k < (numsV Q).length := by rw [numsV_length]; exact lX
      have HM := Lib.hid hm
      have GM := Lib.hid gM
      have GB := Lib.hid gB
      have E1 := Lib.hid e1
      have LV := Lib.hid lV
      have HS1 := Lib.hid hs1
      clear hm gM gB e1 lV hs1 hnx lX gX hx hy hs hxb hyb hsg
      go_upto_region 5 with (fail)
      refine Steady.region 8 (by kernel_rfl) (by kernel_rfl) (fun u => Hld _ _ u) HM.out.drew ?_
      simp only [List.take_succ_cons, List.take_zero, List.drop_succ_cons, List.drop_zero]
      refine Steady.take ?_ rfl (by intro u hu; go_simp; with_reducible rfl) ?_
      simp only [Act.put, List.setIfInBounds_toArray, List.set_cons_zero, List.set_cons_succ]
      refine Steady.take ?_ rfl (by intro u hu; go_simp; with_reducible rfl) ?_
      simp only [Act.put, List.setIfInBounds_toArray, List.set_cons_zero, List.set_cons_succ]
      refine Steady.take (.int .u64 (x : Int)) rfl (fun u hu => Hold.load1_run hu 0 rfl rfl rfl (GM.out) (cell_u64)) ?_
      simp only [Act.put, List.setIfInBounds_toArray, List.set_cons_zero, List.set_cons_succ]
      refine Steady.take ?_ rfl (by intro u hu; go_simp; with_reducible rfl) ?_
      simp only [Act.put, List.setIfInBounds_toArray, List.set_cons_zero, List.set_cons_succ]
      refine Steady.take ?_ rfl (by intro u hu; go_simp; with_reducible rfl) ?_
      simp only [Act.put, List.setIfInBounds_toArray, List.set_cons_zero, List.set_cons_succ]
      refine Steady.take (.int .u64 (y : Int)) rfl (fun u hu => Hold.load1_run hu 1 rfl rfl rfl (GB.out) (cell_u64)) ?_
      simp only [Act.put, List.setIfInBounds_toArray, List.set_cons_zero, List.set_cons_succ]
      refine Steady.take ?_ rfl (by intro u hu; go_simp; with_reducible rfl) ?_
      simp only [Act.put, List.setIfInBounds_toArray, List.set_cons_zero, List.set_cons_succ]
      refine Steady.take ?_ rfl (by intro u hu; go_simp; with_reducible rfl) ?_
      simp only [Act.put, List.setIfInBounds_toArray, List.set_cons_zero, List.set_cons_succ]
      refine Steady.nil ?_
      clear HM
      intro w HM
      replace HM := Lib.hid HM
      rw [E1.out]
      go_upto_region 6 with ((first
        | (with_reducible refine Hold.store1 HM.out 0 (c := .int .u64 (s : Int)) (v' := numsV (mixTo A S (k + 1))) rfl rfl rfl rfl rfl (LV.out) (HS1.out) (Hold.cell_int _ _) (cell_u64) ?_; clear HM; intro w HM; simp only [List.set_cons_zero] at HM; replace HM := Lib.hid HM)))
      go_wp2
      go_roundw
      case rel => exact ⟨k + 1, by omega, by go_num, HM.out⟩
      case measure => simp [intOf]; omega
    · have hd3 : decide ((k : Int) < 5) = false := by simp; omega
      obtain rfl : k = 5 := by omega
      have hm := HM.out
      clear HM
      rw [mixTo_end LA.out HS5.out] at hm
      have HM := Lib.hid hm
      clear hm
      go_wp2_with ((first
        | (with_reducible refine Hold.load HM.out 0 (cs := numsV S) rfl rfl rfl rfl (Part.all _) (by rw [HFIN.out]; exact row_limbs) ?_)
        | (with_reducible refine (RC.out _).mono ?_; rintro e w ⟨rfl, hb⟩; replace HM := Lib.hid (HM.out.next hb); clear hb)
        | (with_reducible refine Hold.store HM.out 2 (v' := Z) rfl rfl rfl rfl rfl (by simp [HZ.out.1, zeros5_length]) (lay_all (by simp [HZ.out.1, zeros5_length])) (HZ.out.2) (by rw [HZ.out.1]; exact row_limbs) ?_; clear HM; intro w HM; simp only [List.set_cons_zero, List.set_cons_succ] at HM; replace HM := Lib.hid HM)))
      exact bodyPost_ret (Hold.results1 HM.out 2 rfl _ rfl rfl (by rw [HZ.out.1]; exact row_limbs)) rfl ⟨rfl, HM.out.below⟩

set_option maxHeartbeats 3200000 in
theorem dif_l {X Y : List Value} {N M : Nat} (hX : LimL X N) (hY : LimL Y M) (w0 : World) :
    Calls Try.prog 21 #[.agg X.toArray, .agg Y.toArray] w0 fun r w' => r = .returned (.agg (limL (subP N M)).toArray) ∧ Below w0.heap.size w0 w' := by
  have ra := fun u => carry_l hX u
  have rb := fun u => carry_l hY u
  have hA := fun i => lim_get (N % Prime.P) i
  have hB := fun i => lim_get (M % Prime.P) i
  have wA := lim_worth (Nat.lt_trans (Nat.mod_lt N P_pos) P_lt)
  have wB := lim_worth (Nat.lt_trans (Nat.mod_lt M P_pos) P_lt)
  have lA := lim_length (N % Prime.P)
  have lB := lim_length (M % Prime.P)
  unfold limL at ra rb
  generalize lim (N % Prime.P) = A at *
  generalize lim (M % Prime.P) = B at *
  have hw := dif_wor A B hB
  rw [wA, wB] at hw
  have hS2g : ∀ i, i < 5 → ((difL A B).set 0 ((difL A B).getD 0 0 - 36)).getD i 0 < 18446744073709551616 := fun i hi => by
    have g := difL_get A B i hi
    have h1 := hA i
    have h2 := hB i
    by_cases e : i = 0
    · subst e
      have : ((difL A B).set 0 ((difL A B).getD 0 0 - 36)).getD 0 0 = (difL A B).getD 0 0 - 36 := by simp [List.getD, difL]
      omega
    · rw [List.getD, List.getElem?_set_ne (by omega), ← List.getD]
      omega
  have rc := fun u => carry_l (nums_lim (X := (difL A B).set 0 ((difL A B).getD 0 0 - 36)) (by rw [List.length_set]; rfl) hS2g) u
  rw [sub_mod hw (Nat.mod_mod N Prime.P) (Nat.mod_mod M Prime.P)] at rc
  have hd0 := difL_get A B 0 (by decide)
  obtain ⟨S, hS⟩ : ∃ S, S = difL A B := ⟨_, rfl⟩
  have hSg : ∀ i, i < 5 → S.getD i 0 = A.getD i 0 + (4503599627370494 - B.getD i 0) := fun i hi => by rw [hS]; exact difL_get A B i hi
  have hS5 : S.length = 5 := by rw [hS]; rfl
  rw [← hS] at rc hd0
  have hs0l : 36 ≤ S.getD 0 0 ∧ S.getD 0 0 < 9007199254740992 := by
    have h1 := hA 0
    have h2 := hB 0
    omega
  obtain ⟨s0, hs0⟩ : ∃ x, x = S.getD 0 0 := ⟨_, rfl⟩
  obtain ⟨t0, ht0⟩ : ∃ x, x = s0 - 36 := ⟨_, rfl⟩
  rw [← hs0] at rc hs0l
  rw [← ht0] at rc
  have e36 : IntKind.u64.wrap ((s0 : Int) - 36) = (t0 : Int) := by
    rw [show (s0 : Int) - 36 = (t0 : Int) by omega, wrapN _ (by omega)]
  have gs0 : (numsV S)[0]? = some (.int .u64 (s0 : Int)) := by rw [hs0]; exact nums_get (by rw [hS5]; decide)
  have hset0 : (numsV S).set 0 (.int .u64 (t0 : Int)) = numsV (S.set 0 t0) := numsV_set S 0 t0
  have hls0 : 0 < (numsV S).length := by rw [numsV_length, hS5]; decide
  have E36 := Lib.hid e36
  have GS0 := Lib.hid gs0
  have HSET0 := Lib.hid hset0
  have HLS0 := Lib.hid hls0
  obtain ⟨Z, hZ, lZ⟩ : ∃ Z, Z = limL (subP N M) ∧ LimL Z (subP N M) := ⟨_, rfl, LimL.ofSub _ _⟩
  rw [← hZ] at rc ⊢
  have RA := Lib.hid ra
  have RB := Lib.hid rb
  have RC := Lib.hid rc
  have LA := Lib.hid (show A.length = 5 from lA)
  have LB := Lib.hid (show B.length = 5 from lB)
  have NA := Lib.hid (show (numsV A).length = 5 by rw [numsV_length, lA])
  have NB := Lib.hid (show (numsV B).length = 5 by rw [numsV_length, lB])
  have HA := Lib.hid hA
  have HBB := Lib.hid hB
  have HSG := Lib.hid hSg
  have HS5 := Lib.hid hS5
  have HFIN := Lib.hid (show (numsV (S.set 0 t0)).length = 5 by rw [numsV_length, List.length_set, hS5])
  have HX := Lib.hid (show X.length = 5 ∧ Single X from ⟨hX.len, hX.one⟩)
  have HY := Lib.hid (show Y.length = 5 ∧ Single Y from ⟨hY.len, hY.one⟩)
  have HZ := Lib.hid (show Z.length = 5 ∧ Single Z from ⟨lZ.len, lZ.one⟩)
  have HM := Lib.hid (Hld.start w0)
  clear hA hB wA wB lA lB ra rb rc hS hSg hS5 hZ lZ hX hY hw hS2g hd0 hs0l hs0 ht0 e36 gs0 hset0 hls0
  go_enter Try.func21, Try.ntmps21
  go_upto_region 1 with ((first
    | (with_reducible refine Hold.box (m := []) HM.out rfl rfl rfl ?_; clear HM; intro b0 w HM; simp only [List.nil_append] at HM; replace HM := Lib.hid HM)
    | (with_reducible refine Hold.box (m := [_]) HM.out rfl rfl rfl ?_; clear HM; intro b1 w HM; simp only [List.nil_append, List.cons_append] at HM; replace HM := Lib.hid HM)
    | (with_reducible refine Hold.alloc HM.out rfl rfl zeros5 zero_limbs5 ?_; clear HM; intro br w HM; simp only [List.nil_append, List.cons_append] at HM; replace HM := Lib.hid HM)))
  refine Steady.region 4 (by kernel_rfl) (by kernel_rfl) (fun u => Hld _ _ u) HM.out.drew ?_
  simp only [List.take_succ_cons, List.take_zero, List.drop_succ_cons, List.drop_zero]
  refine Steady.take (.agg (X).toArray) rfl (fun u hu => Hold.load_run hu 0 rfl rfl rfl (Part.all _) (by rw [HX.out.1]; exact row_limbs)) ?_
  simp only [Act.put, List.setIfInBounds_toArray, List.set_cons_zero, List.set_cons_succ]
  refine Steady.call _ _ _ rfl ?_ (Hold.kept RA.out) ?_
  · intro u
    go_simp
  simp only [Act.put, List.setIfInBounds_toArray, List.set_cons_zero, List.set_cons_succ]
  refine Steady.take (.agg (Y).toArray) rfl (fun u hu => Hold.load_run hu 1 rfl rfl rfl (Part.all _) (by rw [HY.out.1]; exact row_limbs)) ?_
  simp only [Act.put, List.setIfInBounds_toArray, List.set_cons_zero, List.set_cons_succ]
  refine Steady.call _ _ _ rfl ?_ (Hold.kept RB.out) ?_
  · intro u
    go_simp
  simp only [Act.put, List.setIfInBounds_toArray, List.set_cons_zero, List.set_cons_succ]
  refine Steady.nil ?_
  clear HM
  intro w HM
  replace HM := Lib.hid HM
  go_upto_region 2 with ((first
    | (with_reducible refine Hold.store HM.out 0 (v' := numsV A) rfl rfl rfl rfl rfl (by rw [Nat.zero_add, NA.out, HX.out.1]; exact Nat.le_refl _) (lay_all (HX.out.1.trans NA.out.symm)) (single_nums _) (by rw [NA.out]; exact row_limbs) ?_; clear HM; intro w HM; simp only [List.set_cons_zero] at HM; replace HM := Lib.hid HM)
    | (with_reducible refine Hold.store HM.out 1 (v' := numsV B) rfl rfl rfl rfl rfl (by rw [Nat.zero_add, NB.out, HY.out.1]; exact Nat.le_refl _) (lay_all (HY.out.1.trans NB.out.symm)) (single_nums _) (by rw [NB.out]; exact row_limbs) ?_; clear HM; intro w HM; simp only [List.set_cons_zero, List.set_cons_succ] at HM; replace HM := Lib.hid HM)))
  go_wp2
  go_loopw [5, 10] (fun _ i wr => ∃ k : Nat, k ≤ 5 ∧ i = .int .i64 k ∧ Hld w0 [⟨b0, 24, numsV (mixTo A S k)⟩, ⟨b1, 24, numsV B⟩, ⟨br, 24, zeros5⟩] wr) (fun _ i _ => 5 - (intOf i).toNat)
  case atStart => exact ⟨0, by omega, rfl, HM.out⟩
  case round =>
    obtain ⟨k, hk5, rfl, hm⟩ := hrel
    clear HM RA RB HX HY NA NB
    have HM := Lib.hid hm
    clear hm
    by_cases hlk : k < 5
    · have hd3 : decide ((k : Int) < 5) = true := by simp; omega
      have ik : (k : Int) < 5 := by omega
      have lX : k < (mixTo A S k).length := by rw [mixTo_length, LA.out]; exact hlk
      have gX : (mixTo A S k).getD k 0 = A.getD k 0 := by rw [mixTo_get A S k k (by rw [LA.out]; exact hlk), if_neg (by omega)]
      have hnx : mixTo A S (k + 1) = (mixTo A S k).set k (S.getD k 0) := rfl
      have hsg := HSG.out k hlk
      have hxb := HA.out k
      have hyb := HBB.out k
      have gB := nums_get (X := B) (i := k) (by rw [LB.out]; exact hlk)
      have hm := HM.out
      clear HM
      generalize mixTo A S k = Q at *
      have gM := nums_get lX
      rw [gX] at gM
      obtain ⟨x, hx⟩ : ∃ x, x = A.getD k 0 := ⟨_, rfl⟩
      obtain ⟨y, hy⟩ : ∃ x, x = B.getD k 0 := ⟨_, rfl⟩
      obtain ⟨s, hs⟩ : ∃ x, x = S.getD k 0 := ⟨_, rfl⟩
      rw [← hx] at gM hxb hsg
      rw [← hy] at gB hyb hsg
      rw [← hs] at hnx hsg
      have e1 : IntKind.u64.wrap ((x : Int) + IntKind.u64.wrap (4503599627370494 - (y : Int))) = (s : Int) := by
        rw [show (4503599627370494 : Int) - (y : Int) = ((4503599627370494 - y : Nat) : Int) by omega, wrapN _ (by omega), addN, wrapN _ (by omega), hsg]
      have hs1 : (numsV Q).set k (.int .u64 (s : Int)) = numsV (mixTo A S (k + 1)) := by rw [numsV_set, hnx]
      have lV : k < (numsV Q).length := by rw [numsV_length]; exact lX
      have HM := Lib.hid hm
      have GM := Lib.hid gM
      have GB := Lib.hid gB
      have E1 := Lib.hid e1
      have LV := Lib.hid lV
      have HS1 := Lib.hid hs1
      clear hm gM gB e1 lV hs1 hnx lX gX hx hy hs hxb hyb hsg
      go_upto_region 5 with (fail)
      refine Steady.region 9 (by kernel_rfl) (by kernel_rfl) (fun u => Hld _ _ u) HM.out.drew ?_
      simp only [List.take_succ_cons, List.take_zero, List.drop_succ_cons, List.drop_zero]
      refine Steady.take ?_ rfl (by intro u hu; go_simp; with_reducible rfl) ?_
      simp only [Act.put, List.setIfInBounds_toArray, List.set_cons_zero, List.set_cons_succ]
      refine Steady.take ?_ rfl (by intro u hu; go_simp; with_reducible rfl) ?_
      simp only [Act.put, List.setIfInBounds_toArray, List.set_cons_zero, List.set_cons_succ]
      refine Steady.take (.int .u64 (x : Int)) rfl (fun u hu => Hold.load1_run hu 0 rfl rfl rfl (GM.out) (cell_u64)) ?_
      simp only [Act.put, List.setIfInBounds_toArray, List.set_cons_zero, List.set_cons_succ]
      refine Steady.take ?_ rfl (by intro u hu; go_simp; with_reducible rfl) ?_
      simp only [Act.put, List.setIfInBounds_toArray, List.set_cons_zero, List.set_cons_succ]
      refine Steady.take ?_ rfl (by intro u hu; go_simp; with_reducible rfl) ?_
      simp only [Act.put, List.setIfInBounds_toArray, List.set_cons_zero, List.set_cons_succ]
      refine Steady.take (.int .u64 (y : Int)) rfl (fun u hu => Hold.load1_run hu 1 rfl rfl rfl (GB.out) (cell_u64)) ?_
      simp only [Act.put, List.setIfInBounds_toArray, List.set_cons_zero, List.set_cons_succ]
      refine Steady.take ?_ rfl (by intro u hu; go_simp; with_reducible rfl) ?_
      simp only [Act.put, List.setIfInBounds_toArray, List.set_cons_zero, List.set_cons_succ]
      refine Steady.take ?_ rfl (by intro u hu; go_simp; with_reducible rfl) ?_
      simp only [Act.put, List.setIfInBounds_toArray, List.set_cons_zero, List.set_cons_succ]
      refine Steady.take ?_ rfl (by intro u hu; go_simp; with_reducible rfl) ?_
      simp only [Act.put, List.setIfInBounds_toArray, List.set_cons_zero, List.set_cons_succ]
      refine Steady.nil ?_
      clear HM
      intro w HM
      replace HM := Lib.hid HM
      rw [E1.out]
      go_upto_region 6 with ((first
        | (with_reducible refine Hold.store1 HM.out 0 (c := .int .u64 (s : Int)) (v' := numsV (mixTo A S (k + 1))) rfl rfl rfl rfl rfl (LV.out) (HS1.out) (Hold.cell_int _ _) (cell_u64) ?_; clear HM; intro w HM; simp only [List.set_cons_zero] at HM; replace HM := Lib.hid HM)))
      go_wp2
      go_roundw
      case rel => exact ⟨k + 1, by omega, by go_num, HM.out⟩
      case measure => simp [intOf]; omega
    · have hd3 : decide ((k : Int) < 5) = false := by simp; omega
      obtain rfl : k = 5 := by omega
      have hm := HM.out
      clear HM
      rw [mixTo_end LA.out HS5.out] at hm
      have HM := Lib.hid hm
      clear hm
      have e36 := E36.out
      go_upto_region 8 with ((first
        | (with_reducible refine Hold.load1 HM.out 0 (c := .int .u64 (s0 : Int)) rfl rfl rfl rfl (GS0.out) (cell_u64) ?_)
        | (with_reducible refine Hold.store1 HM.out 0 (c := .int .u64 (t0 : Int)) (v' := numsV (S.set 0 t0)) rfl rfl rfl rfl rfl (HLS0.out) (HSET0.out) (Hold.cell_int _ _) (cell_u64) ?_; clear HM; intro w HM; simp only [List.set_cons_zero] at HM; replace HM := Lib.hid HM)))
      clear e36
      go_wp2_with ((first
        | (with_reducible refine Hold.load HM.out 0 (cs := numsV (S.set 0 t0)) rfl rfl rfl rfl (Part.all _) (by rw [HFIN.out]; exact row_limbs) ?_)
        | (with_reducible refine (RC.out _).mono ?_; rintro e w ⟨rfl, hb⟩; replace HM := Lib.hid (HM.out.next hb); clear hb)
        | (with_reducible refine Hold.store HM.out 2 (v' := Z) rfl rfl rfl rfl rfl (by simp [HZ.out.1, zeros5_length]) (lay_all (by simp [HZ.out.1, zeros5_length])) (HZ.out.2) (by rw [HZ.out.1]; exact row_limbs) ?_; clear HM; intro w HM; simp only [List.set_cons_zero, List.set_cons_succ] at HM; replace HM := Lib.hid HM)))
      exact bodyPost_ret (Hold.results1 HM.out 2 rfl _ rfl rfl (by rw [HZ.out.1]; exact row_limbs)) rfl ⟨rfl, HM.out.below⟩

set_option maxHeartbeats 1600000 in
theorem swap_any (a b : List Nat) (n : Nat) (w : World) (ha : a.length = 5) (hb : b.length = 5) (la : ∀ i, a.getD i 0 < 18446744073709551616) (lb : ∀ i, b.getD i 0 < 18446744073709551616) (hn : n < 9223372036854775808) :
    Calls Try.prog 11 #[.agg (numsV a).toArray, .agg (numsV b).toArray, .int .i64 n] w fun r w' => r = .returned (.tuple #[.agg (numsV (if n % 2 = 1 then b else a)).toArray, .agg (numsV (if n % 2 = 1 then a else b)).toArray]) ∧ Below w.heap.size w w' := by
  obtain ⟨A, hA⟩ : ∃ A, A = if n % 2 = 1 then b else a := ⟨_, rfl⟩
  obtain ⟨B, hB⟩ : ∃ B, B = if n % 2 = 1 then a else b := ⟨_, rfl⟩
  have hA5 : A.length = 5 := by rw [hA]; split <;> assumption
  have hB5 : B.length = 5 := by rw [hB]; split <;> assumption
  have hst : Sw w a b ((((w.alloc (.cells (numsV a).toArray 24)).alloc (.cells (numsV b).toArray 24)).alloc (.cells (fiveL 0 0 0 0 0).toArray 24)).alloc (.cells (fiveL 0 0 0 0 0).toArray 24)) :=
    ⟨(((Whole.made' w _ (numsV a).toArray _ rfl).alloc _).alloc _).alloc _, ((Whole.made' _ _ (numsV b).toArray _ (by simp)).alloc _).alloc _, (Whole.made' _ _ _ _ (by simp)).alloc _, Whole.made' _ _ _ _ (by simp), ((((Below.refl _ _).alloc (Nat.le_refl _) _).alloc (by simp) _).alloc (by simp; omega) _).alloc (by simp; omega) _⟩
  rw [← hA, ← hB]
  have hm := one_and n hn
  obtain ⟨m, hm2⟩ : ∃ m, m = n % 2 := ⟨_, rfl⟩
  have hml : m < 2 := by omega
  rw [← hm2] at hm hA hB
  have HT := Lib.hid hst
  have HA := Lib.hid hA
  have HB := Lib.hid hB
  have HM := Lib.hid hm
  have LA := Lib.hid la
  have LB := Lib.hid lb
  have A5 := Lib.hid hA5
  have B5 := Lib.hid hB5
  have a5 := Lib.hid ha
  have b5 := Lib.hid hb
  clear hst hA hB la lb hA5 hB5 ha hb hm hm2
  go_enter Try.func11, Try.ntmps11
  go_wp2
  rw [HM.out, wrapN m (by omega)]
  obtain ⟨K, hK⟩ : ∃ K : Int, K = IntKind.u64.wrap (-(m : Int)) := ⟨_, rfl⟩
  rw [← hK]
  have HK := Lib.hid hK
  clear hK HM
  go_loopw [9, 10, 15] (fun _ _ i wr => ∃ k : Nat, k ≤ 5 ∧ i = .int .i64 k ∧ Sw w (mixTo a A k) (mixTo b B k) wr) (fun _ _ i _ => 5 - (intOf i).toNat)
  case atStart => exact ⟨0, by omega, rfl, HT.out⟩
  case round =>
    obtain ⟨k, hk5, rfl, hk⟩ := hrel
    by_cases hlt : k < 5
    · have hd2 : decide ((k : Int) < 5) = true := by simp; omega
      have ik : (k : Int) < 5 := by omega
      have lX : k < (mixTo a A k).length := by rw [mixTo_length, a5.out]; exact hlt
      have lY : k < (mixTo b B k).length := by rw [mixTo_length, b5.out]; exact hlt
      have gX : (mixTo a A k).getD k 0 = a.getD k 0 := by rw [mixTo_get a A k k (by rw [a5.out]; exact hlt), if_neg (by omega)]
      have gY : (mixTo b B k).getD k 0 = b.getD k 0 := by rw [mixTo_get b B k k (by rw [b5.out]; exact hlt), if_neg (by omega)]
      have hX : mixTo a A (k + 1) = (mixTo a A k).set k (A.getD k 0) := rfl
      have hY : mixTo b B (k + 1) = (mixTo b B k).set k (B.getD k 0) := rfl
      have l1 := LA.out k
      have l2 := LB.out k
      have hmx := mask_xor m (a.getD k 0) (b.getD k 0) l1 l2 hml
      rw [← HK.out] at hmx
      obtain ⟨D, hD⟩ : ∃ D, D = if m = 1 then a.getD k 0 ^^^ b.getD k 0 else 0 := ⟨_, rfl⟩
      rw [← hD] at hmx
      have hDl : D < 18446744073709551616 := by
        rw [hD]
        split
        · exact Nat.xor_lt_two_pow (n := 64) l1 l2
        · decide
      have nX : a.getD k 0 ^^^ D = A.getD k 0 := by
        rw [hD, HA.out]
        split
        · rw [← Nat.xor_assoc, Nat.xor_self, Nat.zero_xor]
        · rw [Nat.xor_zero]
      have nY : b.getD k 0 ^^^ D = B.getD k 0 := by
        rw [hD, HB.out]
        split
        · rw [Nat.xor_comm (a.getD k 0), ← Nat.xor_assoc, Nat.xor_self, Nat.zero_xor]
        · rw [Nat.xor_zero]
      rw [← nX] at hX
      rw [← nY] at hY
      have bX := bits_xor_u64_nat (a.getD k 0) D l1 hDl
      have bY := bits_xor_u64_nat (b.getD k 0) D l2 hDl
      generalize mixTo a A k = X at *
      generalize mixTo b B k = Y at *
      generalize a.getD k 0 = x at *
      generalize b.getD k 0 = y at *
      have cx := fun n => num_cell (hk.drewN n).x lX
      have cy := fun n => num_cell (hk.drewN n).y lY
      rw [gX] at cx
      rw [gY] at cy
      have fx := fun n => num_free (hk.drewN n).x lX
      have h2 := fun n => (hk.drewN n).setX k (x ^^^ D)
      have cy2 := fun n => num_cell (h2 n).y lY
      rw [gY] at cy2
      have fy2 := fun n => num_free (h2 n).y lY
      have h3 := fun n => (h2 n).setY k (y ^^^ D)
      have HX := Lib.hid hX
      have HY := Lib.hid hY
      have H3 := Lib.hid h3
      have CX := Lib.hid cx
      have FX := Lib.hid fx
      have CY2 := Lib.hid cy2
      have FY2 := Lib.hid fy2
      have BX := Lib.hid bX
      have BY := Lib.hid bY
      have HMX := Lib.hid hmx
      have cx0 : wr.cell? ⟨w.heap.size, k, none⟩ = some (.int .u64 (x : Int)) := cx 0
      have cy0 : wr.cell? ⟨w.heap.size + 1, k, none⟩ = some (.int .u64 (y : Int)) := cy 0
      clear hk hX hY h2 h3 cx fx cy2 fy2 bX bY hmx gX gY lX lY nX nY hD HT cy
      go_upto_region 5 with (fail)
      go_quiet (fail)
      have cx := CX.out nq
      have fx := FX.out nq
      have hmx := HMX.out
      have bX := BX.out
      clear cx0 cy0
      go_upto_region 7 with (fail)
      have cy2 := CY2.out nq
      have fy2 := FY2.out nq
      have bY := BY.out
      go_wp2
      go_roundw
      case rel => exact ⟨k + 1, by omega, by go_num, by rw [HX.out, HY.out]; exact H3.out nq⟩
      case measure => simp [intOf]; omega
    · have hd2 : decide ((k : Int) < 5) = false := by simp; omega
      obtain rfl : k = 5 := by omega
      rw [mixTo_end a5.out A5.out, mixTo_end b5.out B5.out] at hk
      have HF := Lib.hid hk
      obtain ⟨r0, r1, r2, r3, r4, hr⟩ := list_five A5.out
      obtain ⟨s0, s1, s2, s3, s4, hs⟩ := list_five B5.out
      clear hk HA HB HT A5 B5 a5 b5 LA LB
      subst hr hs
      have hfx : Whole wr w.heap.size 24 (fiveL r0 r1 r2 r3 r4) := HF.out.x
      have hfy : Whole wr (w.heap.size + 1) 24 (fiveL s0 s1 s2 s3 s4) := HF.out.y
      have hz := HF.out.z
      have hz' := HF.out.z'
      have c0 := hfx.row.cell (i := 0) rfl
      have c1 := hfx.row.cell (i := 1) rfl
      have c2 := hfx.row.cell (i := 2) rfl
      have c3 := hfx.row.cell (i := 3) rfl
      have c4 := hfx.row.cell (i := 4) rfl
      have d0 := hfy.row.cell (i := 0) rfl
      have d1 := hfy.row.cell (i := 1) rfl
      have d2 := hfy.row.cell (i := 2) rfl
      have d3 := hfy.row.cell (i := 3) rfl
      have d4 := hfy.row.cell (i := 4) rfl
      have z0 := hz.row.cell (i := 0) rfl
      have z1 := hz.row.cell (i := 1) rfl
      have z2 := hz.row.cell (i := 2) rfl
      have z3 := hz.row.cell (i := 3) rfl
      have z4 := hz.row.cell (i := 4) rfl
      have y0 := hz'.row.cell (i := 0) rfl
      have y1 := hz'.row.cell (i := 1) rfl
      have y2 := hz'.row.cell (i := 2) rfl
      have y3 := hz'.row.cell (i := 3) rfl
      have y4 := hz'.row.cell (i := 4) rfl
      have f0 := hz.row.free (i := 0) (by decide)
      have f1 := hz.row.free (i := 1) (by decide)
      have f2 := hz.row.free (i := 2) (by decide)
      have f3 := hz.row.free (i := 3) (by decide)
      have f4 := hz.row.free (i := 4) (by decide)
      have g0 := hz'.row.free (i := 0) (by decide)
      have g1 := hz'.row.free (i := 1) (by decide)
      have g2 := hz'.row.free (i := 2) (by decide)
      have g3 := hz'.row.free (i := 3) (by decide)
      have g4 := hz'.row.free (i := 4) (by decide)
      clear hfx hfy hz hz'
      go_upto_region 9 with (fail)
      go_region
      all_goals go_wp2
      have HB := HF.out.below
      all_goals exact bodyPost_ret (v := .tuple #[five r0 r1 r2 r3 r4, five s0 s1 s2 s3 s4]) (by simp [results, Try.results11, go_sem, z0, z1, z2, z3, z4, y0, y1, y2, y3, y4]) rfl ⟨rfl, by first | exact (set5 (set5 HB (b := w.heap.size + 1 + 1) (by omega) _ _ _ _ _) (b := w.heap.size + 1 + 1 + 1) (by omega) _ _ _ _ _).drew | exact (set5 (set5 HB (b := w.heap.size + 1 + 1 + 1) (by omega) _ _ _ _ _) (b := w.heap.size + 1 + 1) (by omega) _ _ _ _ _).drew⟩

theorem swap_val {v v' : Value} {N N' n : Nat} (h : Lims v N) (h' : Lims v' N') (hn : n < 9223372036854775808) (u : World) :
    Calls Try.prog 11 #[v, v', .int .i64 n] u fun r w' => r = .returned (.tuple #[if n % 2 = 1 then v' else v, if n % 2 = 1 then v else v']) ∧ Below u.heap.size u w' := by
  obtain ⟨a, b, c, d, e, rfl, hw, rfl⟩ := h
  obtain ⟨a', b', c', d', e', rfl, hw', rfl⟩ := h'
  obtain ⟨g0, g1, g2, g3, g4⟩ := hw
  obtain ⟨k0, k1, k2, k3, k4⟩ := hw'
  have := swap_any [a, b, c, d, e] [a', b', c', d', e'] n u rfl rfl (fun i => by
    match i with
    | 0 => exact g0
    | 1 => exact g1
    | 2 => exact g2
    | 3 => exact g3
    | 4 => exact g4
    | i + 5 => exact (by decide : (0 : Nat) < 18446744073709551616)) (fun i => by
    match i with
    | 0 => exact k0
    | 1 => exact k1
    | 2 => exact k2
    | 3 => exact k3
    | 4 => exact k4
    | i + 5 => exact (by decide : (0 : Nat) < 18446744073709551616)) hn
  by_cases hm : n % 2 = 1
  · simp only [if_pos hm] at this ⊢
    exact this
  · simp only [if_neg hm] at this ⊢
    exact this

theorem swaps_l {X Y : List Value} {N M n : Nat} (h : LimL X N) (h' : LimL Y M) (hn : n < 9223372036854775808) (u : World) : Calls Try.prog 11 #[.agg X.toArray, .agg Y.toArray, .int .i64 n] u fun r w' => r = .returned (.tuple #[.agg (if n % 2 = 1 then Y else X).toArray, .agg (if n % 2 = 1 then X else Y).toArray]) ∧ Below u.heap.size u w' := by
  have := swap_val h h' hn u
  by_cases e : n % 2 = 1
  · simp only [if_pos e] at this ⊢
    exact this
  · simp only [if_neg e] at this ⊢
    exact this
end Go.Proofs.Ytcglobpklhkebaa.RefLimb
