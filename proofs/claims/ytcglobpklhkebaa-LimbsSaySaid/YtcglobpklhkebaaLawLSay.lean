/-
  LimbsSay: sums, differences, products, powers and inverses, bytes and exchanges of any limbs are those of the document's own answer: for every input, the law answers true and changes nothing that was there. No condition.
-/
import Derived.Test.YtcglobpklhkebaaRBytes
import Derived.Test.YtcglobpklhkebaaLawPowers
namespace Go.Proofs.Ytcglobpklhkebaa.LawLSay
open Go.ChangeShapes Go.WideShapes Go.ChangeAt Go.ChangeMaps Go.RowKit Mur Lanes Limb Hold LawPowers
set_option maxRecDepth 100000

theorem lims_any (n : Nat) : LimL (limL n) (n % 57896044618658097711785492504343953926634992332820282019728792003956564819968) := by
  have h := lim_add (n % 57896044618658097711785492504343953926634992332820282019728792003956564819968) (n / 57896044618658097711785492504343953926634992332820282019728792003956564819968)
  rw [Nat.mod_add_div] at h
  have := LimL.ofLim (n := n % 57896044618658097711785492504343953926634992332820282019728792003956564819968) (Nat.mod_lt _ (by decide))
  unfold limL at this ⊢
  rw [h]
  exact this

set_option maxHeartbeats 16000000 in
theorem walk (a0 b0 c0 d0 e0 a1 b1 c1 d1 e1 : Nat) (s : ByteArray) (w0 : World) (h0 : Words5 a0 b0 c0 d0 e0) (h1 : Words5 a1 b1 c1 d1 e1) (hs : s.size ≤ 140737488351232) :
    Calls Try.prog 3 #[five a0 b0 c0 d0 e0, five a1 b1 c1 d1 e1, .string s] w0 fun e w' => e = .returned (.bool true) ∧ Below w0.heap.size w0 w' := by
  have TL := Lib.hid (fun u => live_any u)
  have hX := LimL.ofFive h0
  have hY := LimL.ofFive h1
  rw [show five a0 b0 c0 d0 e0 = .agg (fiveL a0 b0 c0 d0 e0).toArray from rfl, show five a1 b1 c1 d1 e1 = .agg (fiveL a1 b1 c1 d1 e1).toArray from rfl]
  have hy0 : (fiveL a1 b1 c1 d1 e1)[0]? = some (.int .u64 (a1 : Int)) := rfl
  have ha1 := h1.1
  obtain ⟨X, hXe⟩ : ∃ X, X = fiveL a0 b0 c0 d0 e0 := ⟨_, rfl⟩
  obtain ⟨Y, hYe⟩ : ∃ X, X = fiveL a1 b1 c1 d1 e1 := ⟨_, rfl⟩
  rw [← hXe] at hX ⊢
  rw [← hYe] at hY hy0 ⊢
  obtain ⟨N, hN⟩ : ∃ N, N = wor a0 b0 c0 d0 e0 := ⟨_, rfl⟩
  obtain ⟨M, hMe⟩ : ∃ N, N = wor a1 b1 c1 d1 e1 := ⟨_, rfl⟩
  rw [← hN] at hX
  rw [← hMe] at hY
  have HM := Lib.hid (Hld.start w0)
  have GY0 := Lib.hid hy0
  have HX := Lib.hid (show X.length = 5 ∧ Single X from ⟨hX.len, hX.one⟩)
  have HY := Lib.hid (show Y.length = 5 ∧ Single Y from ⟨hY.len, hY.one⟩)
  clear hXe hYe hN hMe h0 h1 hy0
  by_cases hg : s.size ≤ 300
  case neg =>
    have hd : decide (300 < (s.size : Int)) = true := by simp; omega
    clear hg hX hY ha1 hs
    go_enter Try.func3, Try.ntmps3
    go_wp2_with ((first
      | (with_reducible refine Hold.box HM.out rfl rfl rfl ?_; clear HM; intro b w HM; simp only [List.nil_append, List.cons_append] at HM; replace HM := Lib.hid HM)
      | (with_reducible refine (TL.out _).mono ?_; rintro e w ⟨rfl, hb⟩; replace HM := Lib.hid (HM.out.next hb); clear hb)))
    go_ret
    exact ⟨rfl, HM.out.below⟩
  case pos =>
  have hd : decide (300 < (s.size : Int)) = false := by simp; omega
  have p1 := fun u => swap_l hX hY (n := s.size) (by omega) u
  have p2 := fun u => RefLimb.swaps_l hX hY (n := s.size) (by omega) u
  obtain ⟨V, hV⟩ : ∃ V, V = if s.size % 2 = 1 then Y else X := ⟨_, rfl⟩
  obtain ⟨W, hW⟩ : ∃ V, V = if s.size % 2 = 1 then X else Y := ⟨_, rfl⟩
  have lV : ∃ n, LimL V n := by rw [hV]; split; exact ⟨_, hY⟩; exact ⟨_, hX⟩
  have lW : ∃ n, LimL W n := by rw [hW]; split; exact ⟨_, hX⟩; exact ⟨_, hY⟩
  obtain ⟨nV, lV⟩ := lV
  obtain ⟨nW, lW⟩ := lW
  rw [← hV, ← hW] at p1 p2
  have cread := fun u => read_any s u hs
  rw [limV_L] at cread
  have rread := fun u => RefLimb.read_l s u hs
  obtain ⟨Aread, hread, lread⟩ : ∃ A, A = limL (num s.data.toList) ∧ ∃ n, LimL A n := ⟨_, rfl, _, lims_any _⟩
  obtain ⟨nread, lread⟩ := lread
  rw [← hread] at cread rread
  have Cread := Lib.hid cread
  have Rread := Lib.hid rread
  have Lread := Lib.hid lread
  clear cread rread hread lread
  have ccarry := fun u => carry_l hX u
  have rcarry := fun u => RefLimb.carry_l hX u
  obtain ⟨Acarry, hcarry, lcarry⟩ : ∃ A, A = limL (N % Prime.P) ∧ ∃ n, LimL A n := ⟨_, rfl, _, LimL.ofMod _⟩
  obtain ⟨ncarry, lcarry⟩ := lcarry
  rw [← hcarry] at ccarry rcarry
  have Ccarry := Lib.hid ccarry
  have Rcarry := Lib.hid rcarry
  have Lcarry := Lib.hid lcarry
  clear ccarry rcarry hcarry lcarry
  have cadd := fun u => add_l hX hY u
  have radd := fun u => RefLimb.sum_l hX hY u
  obtain ⟨Aadd, hadd, ladd⟩ : ∃ A, A = limL ((N + M) % Prime.P) ∧ ∃ n, LimL A n := ⟨_, rfl, _, LimL.ofMod _⟩
  obtain ⟨nadd, ladd⟩ := ladd
  rw [← hadd] at cadd radd
  have Cadd := Lib.hid cadd
  have Radd := Lib.hid radd
  have Ladd := Lib.hid ladd
  clear cadd radd hadd ladd
  have csub := fun u => sub_l hX hY u
  have rsub := fun u => RefLimb.dif_l hX hY u
  obtain ⟨Asub, hsub, lsub⟩ : ∃ A, A = limL (subP N M) ∧ ∃ n, LimL A n := ⟨_, rfl, _, LimL.ofSub _ _⟩
  obtain ⟨nsub, lsub⟩ := lsub
  rw [← hsub] at csub rsub
  have Csub := Lib.hid csub
  have Rsub := Lib.hid rsub
  have Lsub := Lib.hid lsub
  clear csub rsub hsub lsub
  have ctim := fun u => times_l hX hY u
  have rtim := fun u => RefLimb.prod_l hX hY u
  obtain ⟨Atim, htim, ltim⟩ : ∃ A, A = limL (N * M % Prime.P) ∧ ∃ n, LimL A n := ⟨_, rfl, _, LimL.ofMod _⟩
  obtain ⟨ntim, ltim⟩ := ltim
  rw [← htim] at ctim rtim
  have Ctim := Lib.hid ctim
  have Rtim := Lib.hid rtim
  have Ltim := Lib.hid ltim
  clear ctim rtim htim ltim
  have csca := fun u => scale_l hX ha1 u
  have rsca := fun u => RefLimb.scaled_l hX ha1 u
  obtain ⟨Asca, hsca, lsca⟩ : ∃ A, A = limL (N * a1 % Prime.P) ∧ ∃ n, LimL A n := ⟨_, rfl, _, LimL.ofMod _⟩
  obtain ⟨nsca, lsca⟩ := lsca
  rw [← hsca] at csca rsca
  have Csca := Lib.hid csca
  have Rsca := Lib.hid rsca
  have Lsca := Lib.hid lsca
  clear csca rsca hsca lsca
  have csqu := fun u => square_val hX ((s.size : Int) - 2) (by omega) (by omega) u
  rw [limV_L] at csqu
  have rsqu := fun u => RefLimb.squares_l hX ((s.size : Int) - 2) u (by omega) (by omega)
  obtain ⟨Asqu, hsqu, lsqu⟩ : ∃ A, A = limL (N ^ 2 ^ Limb.times ((s.size : Int) - 2) % Prime.P) ∧ ∃ n, LimL A n := ⟨_, rfl, _, LimL.ofMod _⟩
  obtain ⟨nsqu, lsqu⟩ := lsqu
  rw [← hsqu] at csqu rsqu
  have Csqu := Lib.hid csqu
  have Rsqu := Lib.hid rsqu
  have Lsqu := Lib.hid lsqu
  clear csqu rsqu hsqu lsqu
  have cinv := fun u => invert_l hY u
  have rinv := fun u => RefLimb.inverted_l hY u
  obtain ⟨Ainv, hinv, linv⟩ : ∃ A, A = limL (M ^ (Prime.P - 2) % Prime.P) ∧ ∃ n, LimL A n := ⟨_, rfl, _, LimL.ofMod _⟩
  obtain ⟨ninv, linv⟩ := linv
  rw [← hinv] at cinv rinv
  have Cinv := Lib.hid cinv
  have Rinv := Lib.hid rinv
  have Linv := Lib.hid linv
  clear cinv rinv hinv linv
  have cbyt := fun u => bytes_val hX (numT (N % Prime.P)) rfl u
  have rbyt := fun u => RefLimb.bytes_l hX u
  obtain ⟨B, hB⟩ : ∃ B, B = numT (N % Prime.P) := ⟨_, rfl⟩
  rw [← hB] at cbyt rbyt
  have Cbyt := Lib.hid cbyt
  have Rbyt := Lib.hid rbyt
  have tb : (B.toList == B.toList) = true := by simp
  have hw2 : IntKind.i64.wrap ((s.size : Int) - 2) = (s.size : Int) - 2 := IntWalk.i64_in _ (by omega)
  have HW2 := Lib.hid hw2
  have P1 := Lib.hid p1
  have P2 := Lib.hid p2
  have LV := Lib.hid lV
  have LW := Lib.hid lW
  have HV := Lib.hid (show V.length = 5 ∧ Single V from ⟨lV.len, lV.one⟩)
  have HW := Lib.hid (show W.length = 5 ∧ Single W from ⟨lW.len, lW.one⟩)
  clear cbyt rbyt hB hw2 p1 p2 hV hW lV lW hX hY ha1 hs hg
  go_enter Try.func3, Try.ntmps3
  go_upto_region 5 with ((first
    | (with_reducible refine Hold.box HM.out rfl rfl rfl ?_; clear HM; intro b w HM; simp only [List.nil_append, List.cons_append] at HM; replace HM := Lib.hid HM)
    | (with_reducible refine Hold.load HM.out 0 (cs := X) rfl rfl rfl rfl (Part.all _) (by rw [HX.out.1]; exact row_limbs) ?_)
    | (with_reducible refine Hold.load HM.out 1 (cs := Y) rfl rfl rfl rfl (Part.all _) (by rw [HY.out.1]; exact row_limbs) ?_)
    | (with_reducible refine (P1.out _).mono ?_; rintro e w ⟨rfl, hb⟩; replace HM := Lib.hid (HM.out.next hb); clear hb)
    | (with_reducible refine Hold.alloc HM.out rfl rfl zeros5 zero_limbs5 ?_; clear HM; intro b w HM; simp only [List.nil_append, List.cons_append] at HM; replace HM := Lib.hid HM)
    | (with_reducible refine Hold.store HM.out 2 (v' := V) rfl rfl rfl rfl rfl (by rw [Nat.zero_add, HV.out.1, zeros5_length]; exact Nat.le_refl _) (lay_all (zeros5_length.trans HV.out.1.symm)) (HV.out.2) (by rw [HV.out.1]; exact row_limbs) ?_; clear HM; intro w HM; simp only [List.set_cons_zero, List.set_cons_succ] at HM; replace HM := Lib.hid HM)
    | (with_reducible refine Hold.store HM.out 3 (v' := W) rfl rfl rfl rfl rfl (by rw [Nat.zero_add, HW.out.1, zeros5_length]; exact Nat.le_refl _) (lay_all (zeros5_length.trans HW.out.1.symm)) (HW.out.2) (by rw [HW.out.1]; exact row_limbs) ?_; clear HM; intro w HM; simp only [List.set_cons_zero, List.set_cons_succ] at HM; replace HM := Lib.hid HM)))
  go_upto_region 6 with ((first
    | (with_reducible refine Hold.load HM.out 0 (cs := X) rfl rfl rfl rfl (Part.all _) (by rw [HX.out.1]; exact row_limbs) ?_)
    | (with_reducible refine Hold.load HM.out 1 (cs := Y) rfl rfl rfl rfl (Part.all _) (by rw [HY.out.1]; exact row_limbs) ?_)
    | (with_reducible refine (P2.out _).mono ?_; rintro e w ⟨rfl, hb⟩; replace HM := Lib.hid (HM.out.next hb); clear hb)
    | (with_reducible refine Hold.alloc HM.out rfl rfl zeros5 zero_limbs5 ?_; clear HM; intro b w HM; simp only [List.nil_append, List.cons_append] at HM; replace HM := Lib.hid HM)
    | (with_reducible refine Hold.store HM.out 4 (v' := V) rfl rfl rfl rfl rfl (by rw [Nat.zero_add, HV.out.1, zeros5_length]; exact Nat.le_refl _) (lay_all (zeros5_length.trans HV.out.1.symm)) (HV.out.2) (by rw [HV.out.1]; exact row_limbs) ?_; clear HM; intro w HM; simp only [List.set_cons_zero, List.set_cons_succ] at HM; replace HM := Lib.hid HM)
    | (with_reducible refine Hold.store HM.out 5 (v' := W) rfl rfl rfl rfl rfl (by rw [Nat.zero_add, HW.out.1, zeros5_length]; exact Nat.le_refl _) (lay_all (zeros5_length.trans HW.out.1.symm)) (HW.out.2) (by rw [HW.out.1]; exact row_limbs) ?_; clear HM; intro w HM; simp only [List.set_cons_zero, List.set_cons_succ] at HM; replace HM := Lib.hid HM)))
  simp only [List.append_eq, List.cons_append, List.nil_append]
  refine Steady.region 88 (by kernel_rfl) (by kernel_rfl) (fun u => Hld _ _ u) HM.out.drew ?_
  simp only [List.take_succ_cons, List.take_zero, List.drop_succ_cons, List.drop_zero]
  refine Steady.take ?_ rfl (by intro u hu; go_simp; with_reducible rfl) ?_
  simp only [Act.put, List.setIfInBounds_toArray, List.set_cons_zero, List.set_cons_succ]
  refine Steady.call _ _ _ rfl ?_ (Hold.kept Cread.out) ?_
  · intro u
    go_simp
  simp only [Act.put, List.setIfInBounds_toArray, List.set_cons_zero, List.set_cons_succ]
  refine Steady.take ?_ rfl (by intro u hu; go_simp; with_reducible rfl) ?_
  simp only [Act.put, List.setIfInBounds_toArray, List.set_cons_zero, List.set_cons_succ]
  refine Steady.call _ _ _ rfl ?_ (Hold.kept Rread.out) ?_
  · intro u
    go_simp
  simp only [Act.put, List.setIfInBounds_toArray, List.set_cons_zero, List.set_cons_succ]
  refine Steady.take (.bool true) rfl (fun u hu => eql_same Lread.out rfl (by rfl) (by rfl) u) ?_
  simp only [Act.put, List.setIfInBounds_toArray, List.set_cons_zero, List.set_cons_succ]
  refine Steady.take ?_ rfl (by intro u hu; go_simp; with_reducible rfl) ?_
  simp only [Act.put, List.setIfInBounds_toArray, List.set_cons_zero, List.set_cons_succ]
  refine Steady.take (.agg (X).toArray) rfl (fun u hu => Hold.load_run hu 0 rfl rfl rfl (Part.all _) (by rw [HX.out.1]; exact row_limbs)) ?_
  simp only [Act.put, List.setIfInBounds_toArray, List.set_cons_zero, List.set_cons_succ]
  refine Steady.call _ _ _ rfl ?_ (Hold.kept Ccarry.out) ?_
  · intro u
    go_simp
  simp only [Act.put, List.setIfInBounds_toArray, List.set_cons_zero, List.set_cons_succ]
  refine Steady.take (.agg (X).toArray) rfl (fun u hu => Hold.load_run hu 0 rfl rfl rfl (Part.all _) (by rw [HX.out.1]; exact row_limbs)) ?_
  simp only [Act.put, List.setIfInBounds_toArray, List.set_cons_zero, List.set_cons_succ]
  refine Steady.call _ _ _ rfl ?_ (Hold.kept Rcarry.out) ?_
  · intro u
    go_simp
  simp only [Act.put, List.setIfInBounds_toArray, List.set_cons_zero, List.set_cons_succ]
  refine Steady.take (.bool true) rfl (fun u hu => eql_same Lcarry.out rfl (by rfl) (by rfl) u) ?_
  simp only [Act.put, List.setIfInBounds_toArray, List.set_cons_zero, List.set_cons_succ]
  refine Steady.take ?_ rfl (by intro u hu; go_simp; with_reducible rfl) ?_
  simp only [Act.put, List.setIfInBounds_toArray, List.set_cons_zero, List.set_cons_succ]
  refine Steady.take ?_ rfl (by intro u hu; go_simp; with_reducible rfl) ?_
  simp only [Act.put, List.setIfInBounds_toArray, List.set_cons_zero, List.set_cons_succ]
  refine Steady.take (.agg (X).toArray) rfl (fun u hu => Hold.load_run hu 0 rfl rfl rfl (Part.all _) (by rw [HX.out.1]; exact row_limbs)) ?_
  simp only [Act.put, List.setIfInBounds_toArray, List.set_cons_zero, List.set_cons_succ]
  refine Steady.call _ _ _ rfl ?_ (Hold.kept Cbyt.out) ?_
  · intro u
    go_simp
  simp only [Act.put, List.setIfInBounds_toArray, List.set_cons_zero, List.set_cons_succ]
  refine Steady.take (.agg (X).toArray) rfl (fun u hu => Hold.load_run hu 0 rfl rfl rfl (Part.all _) (by rw [HX.out.1]; exact row_limbs)) ?_
  simp only [Act.put, List.setIfInBounds_toArray, List.set_cons_zero, List.set_cons_succ]
  refine Steady.call _ _ _ rfl ?_ (Hold.kept Rbyt.out) ?_
  · intro u
    go_simp
  simp only [Act.put, List.setIfInBounds_toArray, List.set_cons_zero, List.set_cons_succ]
  refine Steady.take ?_ rfl (by intro u hu; go_simp; with_reducible rfl) ?_
  simp only [Act.put, List.setIfInBounds_toArray, List.set_cons_zero, List.set_cons_succ]
  refine Steady.take ?_ rfl (by intro u hu; go_simp; with_reducible rfl) ?_
  simp only [Act.put, List.setIfInBounds_toArray, List.set_cons_zero, List.set_cons_succ]
  refine Steady.take ?_ rfl (by intro u hu; go_simp; with_reducible rfl) ?_
  simp only [Act.put, List.setIfInBounds_toArray, List.set_cons_zero, List.set_cons_succ]
  refine Steady.take (.agg (X).toArray) rfl (fun u hu => Hold.load_run hu 0 rfl rfl rfl (Part.all _) (by rw [HX.out.1]; exact row_limbs)) ?_
  simp only [Act.put, List.setIfInBounds_toArray, List.set_cons_zero, List.set_cons_succ]
  refine Steady.take (.agg (Y).toArray) rfl (fun u hu => Hold.load_run hu 1 rfl rfl rfl (Part.all _) (by rw [HY.out.1]; exact row_limbs)) ?_
  simp only [Act.put, List.setIfInBounds_toArray, List.set_cons_zero, List.set_cons_succ]
  refine Steady.call _ _ _ rfl ?_ (Hold.kept Cadd.out) ?_
  · intro u
    go_simp
  simp only [Act.put, List.setIfInBounds_toArray, List.set_cons_zero, List.set_cons_succ]
  refine Steady.take (.agg (X).toArray) rfl (fun u hu => Hold.load_run hu 0 rfl rfl rfl (Part.all _) (by rw [HX.out.1]; exact row_limbs)) ?_
  simp only [Act.put, List.setIfInBounds_toArray, List.set_cons_zero, List.set_cons_succ]
  refine Steady.take (.agg (Y).toArray) rfl (fun u hu => Hold.load_run hu 1 rfl rfl rfl (Part.all _) (by rw [HY.out.1]; exact row_limbs)) ?_
  simp only [Act.put, List.setIfInBounds_toArray, List.set_cons_zero, List.set_cons_succ]
  refine Steady.call _ _ _ rfl ?_ (Hold.kept Radd.out) ?_
  · intro u
    go_simp
  simp only [Act.put, List.setIfInBounds_toArray, List.set_cons_zero, List.set_cons_succ]
  refine Steady.take (.bool true) rfl (fun u hu => eql_same Ladd.out rfl (by rfl) (by rfl) u) ?_
  simp only [Act.put, List.setIfInBounds_toArray, List.set_cons_zero, List.set_cons_succ]
  refine Steady.take ?_ rfl (by intro u hu; go_simp; with_reducible rfl) ?_
  simp only [Act.put, List.setIfInBounds_toArray, List.set_cons_zero, List.set_cons_succ]
  refine Steady.take ?_ rfl (by intro u hu; go_simp; with_reducible rfl) ?_
  simp only [Act.put, List.setIfInBounds_toArray, List.set_cons_zero, List.set_cons_succ]
  refine Steady.take (.agg (X).toArray) rfl (fun u hu => Hold.load_run hu 0 rfl rfl rfl (Part.all _) (by rw [HX.out.1]; exact row_limbs)) ?_
  simp only [Act.put, List.setIfInBounds_toArray, List.set_cons_zero, List.set_cons_succ]
  refine Steady.take (.agg (Y).toArray) rfl (fun u hu => Hold.load_run hu 1 rfl rfl rfl (Part.all _) (by rw [HY.out.1]; exact row_limbs)) ?_
  simp only [Act.put, List.setIfInBounds_toArray, List.set_cons_zero, List.set_cons_succ]
  refine Steady.call _ _ _ rfl ?_ (Hold.kept Csub.out) ?_
  · intro u
    go_simp
  simp only [Act.put, List.setIfInBounds_toArray, List.set_cons_zero, List.set_cons_succ]
  refine Steady.take (.agg (X).toArray) rfl (fun u hu => Hold.load_run hu 0 rfl rfl rfl (Part.all _) (by rw [HX.out.1]; exact row_limbs)) ?_
  simp only [Act.put, List.setIfInBounds_toArray, List.set_cons_zero, List.set_cons_succ]
  refine Steady.take (.agg (Y).toArray) rfl (fun u hu => Hold.load_run hu 1 rfl rfl rfl (Part.all _) (by rw [HY.out.1]; exact row_limbs)) ?_
  simp only [Act.put, List.setIfInBounds_toArray, List.set_cons_zero, List.set_cons_succ]
  refine Steady.call _ _ _ rfl ?_ (Hold.kept Rsub.out) ?_
  · intro u
    go_simp
  simp only [Act.put, List.setIfInBounds_toArray, List.set_cons_zero, List.set_cons_succ]
  refine Steady.take (.bool true) rfl (fun u hu => eql_same Lsub.out rfl (by rfl) (by rfl) u) ?_
  simp only [Act.put, List.setIfInBounds_toArray, List.set_cons_zero, List.set_cons_succ]
  refine Steady.take ?_ rfl (by intro u hu; go_simp; with_reducible rfl) ?_
  simp only [Act.put, List.setIfInBounds_toArray, List.set_cons_zero, List.set_cons_succ]
  refine Steady.take ?_ rfl (by intro u hu; go_simp; with_reducible rfl) ?_
  simp only [Act.put, List.setIfInBounds_toArray, List.set_cons_zero, List.set_cons_succ]
  refine Steady.take (.agg (X).toArray) rfl (fun u hu => Hold.load_run hu 0 rfl rfl rfl (Part.all _) (by rw [HX.out.1]; exact row_limbs)) ?_
  simp only [Act.put, List.setIfInBounds_toArray, List.set_cons_zero, List.set_cons_succ]
  refine Steady.take (.agg (Y).toArray) rfl (fun u hu => Hold.load_run hu 1 rfl rfl rfl (Part.all _) (by rw [HY.out.1]; exact row_limbs)) ?_
  simp only [Act.put, List.setIfInBounds_toArray, List.set_cons_zero, List.set_cons_succ]
  refine Steady.call _ _ _ rfl ?_ (Hold.kept Ctim.out) ?_
  · intro u
    go_simp
  simp only [Act.put, List.setIfInBounds_toArray, List.set_cons_zero, List.set_cons_succ]
  refine Steady.take (.agg (X).toArray) rfl (fun u hu => Hold.load_run hu 0 rfl rfl rfl (Part.all _) (by rw [HX.out.1]; exact row_limbs)) ?_
  simp only [Act.put, List.setIfInBounds_toArray, List.set_cons_zero, List.set_cons_succ]
  refine Steady.take (.agg (Y).toArray) rfl (fun u hu => Hold.load_run hu 1 rfl rfl rfl (Part.all _) (by rw [HY.out.1]; exact row_limbs)) ?_
  simp only [Act.put, List.setIfInBounds_toArray, List.set_cons_zero, List.set_cons_succ]
  refine Steady.call _ _ _ rfl ?_ (Hold.kept Rtim.out) ?_
  · intro u
    go_simp
  simp only [Act.put, List.setIfInBounds_toArray, List.set_cons_zero, List.set_cons_succ]
  refine Steady.take (.bool true) rfl (fun u hu => eql_same Ltim.out rfl (by rfl) (by rfl) u) ?_
  simp only [Act.put, List.setIfInBounds_toArray, List.set_cons_zero, List.set_cons_succ]
  refine Steady.take ?_ rfl (by intro u hu; go_simp; with_reducible rfl) ?_
  simp only [Act.put, List.setIfInBounds_toArray, List.set_cons_zero, List.set_cons_succ]
  refine Steady.take ?_ rfl (by intro u hu; go_simp; with_reducible rfl) ?_
  simp only [Act.put, List.setIfInBounds_toArray, List.set_cons_zero, List.set_cons_succ]
  refine Steady.take (.agg (X).toArray) rfl (fun u hu => Hold.load_run hu 0 rfl rfl rfl (Part.all _) (by rw [HX.out.1]; exact row_limbs)) ?_
  simp only [Act.put, List.setIfInBounds_toArray, List.set_cons_zero, List.set_cons_succ]
  refine Steady.take ?_ rfl (by intro u hu; go_simp; with_reducible rfl) ?_
  simp only [Act.put, List.setIfInBounds_toArray, List.set_cons_zero, List.set_cons_succ]
  refine Steady.take (.int .u64 (a1 : Int)) rfl (fun u hu => Hold.load1_run hu 1 rfl rfl rfl (GY0.out) (RefLimb.cell_u64)) ?_
  simp only [Act.put, List.setIfInBounds_toArray, List.set_cons_zero, List.set_cons_succ]
  refine Steady.call _ _ _ rfl ?_ (Hold.kept Csca.out) ?_
  · intro u
    go_simp
  simp only [Act.put, List.setIfInBounds_toArray, List.set_cons_zero, List.set_cons_succ]
  refine Steady.take (.agg (X).toArray) rfl (fun u hu => Hold.load_run hu 0 rfl rfl rfl (Part.all _) (by rw [HX.out.1]; exact row_limbs)) ?_
  simp only [Act.put, List.setIfInBounds_toArray, List.set_cons_zero, List.set_cons_succ]
  refine Steady.take ?_ rfl (by intro u hu; go_simp; with_reducible rfl) ?_
  simp only [Act.put, List.setIfInBounds_toArray, List.set_cons_zero, List.set_cons_succ]
  refine Steady.take (.int .u64 (a1 : Int)) rfl (fun u hu => Hold.load1_run hu 1 rfl rfl rfl (GY0.out) (RefLimb.cell_u64)) ?_
  simp only [Act.put, List.setIfInBounds_toArray, List.set_cons_zero, List.set_cons_succ]
  refine Steady.call _ _ _ rfl ?_ (Hold.kept Rsca.out) ?_
  · intro u
    go_simp
  simp only [Act.put, List.setIfInBounds_toArray, List.set_cons_zero, List.set_cons_succ]
  refine Steady.take (.bool true) rfl (fun u hu => eql_same Lsca.out rfl (by rfl) (by rfl) u) ?_
  simp only [Act.put, List.setIfInBounds_toArray, List.set_cons_zero, List.set_cons_succ]
  refine Steady.take ?_ rfl (by intro u hu; go_simp; with_reducible rfl) ?_
  simp only [Act.put, List.setIfInBounds_toArray, List.set_cons_zero, List.set_cons_succ]
  refine Steady.take ?_ rfl (by intro u hu; go_simp; with_reducible rfl) ?_
  simp only [Act.put, List.setIfInBounds_toArray, List.set_cons_zero, List.set_cons_succ]
  refine Steady.take (.agg (X).toArray) rfl (fun u hu => Hold.load_run hu 0 rfl rfl rfl (Part.all _) (by rw [HX.out.1]; exact row_limbs)) ?_
  simp only [Act.put, List.setIfInBounds_toArray, List.set_cons_zero, List.set_cons_succ]
  refine Steady.take ?_ rfl (by intro u hu; go_simp; with_reducible rfl) ?_
  simp only [Act.put, List.setIfInBounds_toArray, List.set_cons_zero, List.set_cons_succ]
  refine Steady.take ?_ rfl (by intro u hu; go_simp; with_reducible rfl) ?_
  simp only [Act.put, List.setIfInBounds_toArray, List.set_cons_zero, List.set_cons_succ]
  refine Steady.call _ _ _ rfl ?_ (Hold.kept Csqu.out) ?_
  · intro u
    go_simp
    rw [HW2.out]
  simp only [Act.put, List.setIfInBounds_toArray, List.set_cons_zero, List.set_cons_succ]
  refine Steady.take (.agg (X).toArray) rfl (fun u hu => Hold.load_run hu 0 rfl rfl rfl (Part.all _) (by rw [HX.out.1]; exact row_limbs)) ?_
  simp only [Act.put, List.setIfInBounds_toArray, List.set_cons_zero, List.set_cons_succ]
  refine Steady.take ?_ rfl (by intro u hu; go_simp; with_reducible rfl) ?_
  simp only [Act.put, List.setIfInBounds_toArray, List.set_cons_zero, List.set_cons_succ]
  refine Steady.take ?_ rfl (by intro u hu; go_simp; with_reducible rfl) ?_
  simp only [Act.put, List.setIfInBounds_toArray, List.set_cons_zero, List.set_cons_succ]
  refine Steady.call _ _ _ rfl ?_ (Hold.kept Rsqu.out) ?_
  · intro u
    go_simp
    rw [HW2.out]
  simp only [Act.put, List.setIfInBounds_toArray, List.set_cons_zero, List.set_cons_succ]
  refine Steady.take (.bool true) rfl (fun u hu => eql_same Lsqu.out rfl (by rfl) (by rfl) u) ?_
  simp only [Act.put, List.setIfInBounds_toArray, List.set_cons_zero, List.set_cons_succ]
  refine Steady.take ?_ rfl (by intro u hu; go_simp; with_reducible rfl) ?_
  simp only [Act.put, List.setIfInBounds_toArray, List.set_cons_zero, List.set_cons_succ]
  refine Steady.take ?_ rfl (by intro u hu; go_simp; with_reducible rfl) ?_
  simp only [Act.put, List.setIfInBounds_toArray, List.set_cons_zero, List.set_cons_succ]
  refine Steady.take (.agg (Y).toArray) rfl (fun u hu => Hold.load_run hu 1 rfl rfl rfl (Part.all _) (by rw [HY.out.1]; exact row_limbs)) ?_
  simp only [Act.put, List.setIfInBounds_toArray, List.set_cons_zero, List.set_cons_succ]
  refine Steady.call _ _ _ rfl ?_ (Hold.kept Cinv.out) ?_
  · intro u
    go_simp
  simp only [Act.put, List.setIfInBounds_toArray, List.set_cons_zero, List.set_cons_succ]
  refine Steady.take (.agg (Y).toArray) rfl (fun u hu => Hold.load_run hu 1 rfl rfl rfl (Part.all _) (by rw [HY.out.1]; exact row_limbs)) ?_
  simp only [Act.put, List.setIfInBounds_toArray, List.set_cons_zero, List.set_cons_succ]
  refine Steady.call _ _ _ rfl ?_ (Hold.kept Rinv.out) ?_
  · intro u
    go_simp
  simp only [Act.put, List.setIfInBounds_toArray, List.set_cons_zero, List.set_cons_succ]
  refine Steady.take (.bool true) rfl (fun u hu => eql_same Linv.out rfl (by rfl) (by rfl) u) ?_
  simp only [Act.put, List.setIfInBounds_toArray, List.set_cons_zero, List.set_cons_succ]
  refine Steady.take ?_ rfl (by intro u hu; go_simp; with_reducible rfl) ?_
  simp only [Act.put, List.setIfInBounds_toArray, List.set_cons_zero, List.set_cons_succ]
  refine Steady.take ?_ rfl (by intro u hu; go_simp; with_reducible rfl) ?_
  simp only [Act.put, List.setIfInBounds_toArray, List.set_cons_zero, List.set_cons_succ]
  refine Steady.take (.agg (V).toArray) rfl (fun u hu => Hold.load_run hu 2 rfl rfl rfl (Part.all _) (by rw [HV.out.1]; exact row_limbs)) ?_
  simp only [Act.put, List.setIfInBounds_toArray, List.set_cons_zero, List.set_cons_succ]
  refine Steady.take (.agg (V).toArray) rfl (fun u hu => Hold.load_run hu 4 rfl rfl rfl (Part.all _) (by rw [HV.out.1]; exact row_limbs)) ?_
  simp only [Act.put, List.setIfInBounds_toArray, List.set_cons_zero, List.set_cons_succ]
  refine Steady.take (.bool true) rfl (fun u hu => eql_same LV.out rfl (by rfl) (by rfl) u) ?_
  simp only [Act.put, List.setIfInBounds_toArray, List.set_cons_zero, List.set_cons_succ]
  refine Steady.take ?_ rfl (by intro u hu; go_simp; with_reducible rfl) ?_
  simp only [Act.put, List.setIfInBounds_toArray, List.set_cons_zero, List.set_cons_succ]
  refine Steady.take ?_ rfl (by intro u hu; go_simp; with_reducible rfl) ?_
  simp only [Act.put, List.setIfInBounds_toArray, List.set_cons_zero, List.set_cons_succ]
  refine Steady.take (.agg (W).toArray) rfl (fun u hu => Hold.load_run hu 3 rfl rfl rfl (Part.all _) (by rw [HW.out.1]; exact row_limbs)) ?_
  simp only [Act.put, List.setIfInBounds_toArray, List.set_cons_zero, List.set_cons_succ]
  refine Steady.take (.agg (W).toArray) rfl (fun u hu => Hold.load_run hu 5 rfl rfl rfl (Part.all _) (by rw [HW.out.1]; exact row_limbs)) ?_
  simp only [Act.put, List.setIfInBounds_toArray, List.set_cons_zero, List.set_cons_succ]
  refine Steady.take (.bool true) rfl (fun u hu => eql_same LW.out rfl (by rfl) (by rfl) u) ?_
  simp only [Act.put, List.setIfInBounds_toArray, List.set_cons_zero, List.set_cons_succ]
  refine Steady.take ?_ rfl (by intro u hu; go_simp; with_reducible rfl) ?_
  simp only [Act.put, List.setIfInBounds_toArray, List.set_cons_zero, List.set_cons_succ]
  refine Steady.take ?_ rfl (by intro u hu; go_simp; with_reducible rfl) ?_
  simp only [Act.put, List.setIfInBounds_toArray, List.set_cons_zero, List.set_cons_succ]
  refine Steady.call _ _ _ rfl ?_ (Hold.kept TL.out) ?_
  · intro u
    go_simp
  simp only [Act.put, List.setIfInBounds_toArray, List.set_cons_zero, List.set_cons_succ]
  refine Steady.take ?_ rfl (by intro u hu; go_simp; with_reducible rfl) ?_
  simp only [Act.put, List.setIfInBounds_toArray, List.set_cons_zero, List.set_cons_succ]
  refine Steady.nil ?_
  clear HM
  intro w HM
  replace HM := Lib.hid HM
  go_wp2
  go_ret
  exact ⟨rfl, HM.out.below⟩

theorem own : ownKnob Try.prog.godebug = none := by kernel_rfl
theorem laidOut : laidOutB Try.prog = true := by kernel_rfl
theorem word_in {n : Int} (h : (Lit.int .u64 n).wf = true) : ∃ k : Nat, n = k ∧ k < 18446744073709551616 := by
  have h0 : IntKind.u64.min ≤ n ∧ n ≤ IntKind.u64.max := by simpa [Lit.wf] using h
  have e1 : IntKind.u64.min = 0 := by decide
  have e2 : IntKind.u64.max = 18446744073709551615 := by decide
  exact ⟨n.toNat, by omega, by omega⟩
/-- Five words, as numbers from 0 on. -/
theorem limbs_of (ns : List Int) (hl : ns.length = 5) (h : ∀ n ∈ ns, (Lit.int .u64 n).wf = true) : ∃ a b c d e : Nat, ns = [(a : Int), b, c, d, e] ∧ Words5 a b c d e := by
  match ns, hl with
  | [n0, n1, n2, n3, n4], _ =>
    obtain ⟨a, rfl, ha⟩ := word_in (h n0 (by simp))
    obtain ⟨b, rfl, hb⟩ := word_in (h n1 (by simp))
    obtain ⟨c, rfl, hc⟩ := word_in (h n2 (by simp))
    obtain ⟨d, rfl, hd⟩ := word_in (h n3 (by simp))
    obtain ⟨e, rfl, he⟩ := word_in (h n4 (by simp))
    exact ⟨a, b, c, d, e, rfl, ha, hb, hc, hd, he⟩

set_option maxRecDepth 100000 in
theorem lifted (os : Os) (started : os.Started) (H : Type) (enc : TypeId × Value → H) :
    ReturnsInHanded {} Try.checked os 3 .any (Rows.limbsSaySpec.pre6 enc Try.prog Try.f3 Rows.limbsSayRow.domain false) (Rows.limbsSaySpec.post enc Try.prog Try.f3 false true false false) := by
  refine returnsInHanded_of_change_sized (C := Try.checked) own started (by kernel_rfl) Try.func3
    (ChangeSpec.witness6 (enc := enc) (C := Try.checked) false ⟨#[], #[.agg #[.int .u64 0, .int .u64 0, .int .u64 0, .int .u64 0, .int .u64 0], .agg #[.int .u64 0, .int .u64 0, .int .u64 0, .int .u64 0, .int .u64 0], .string ByteArray.empty], []⟩ 8 (by kernel_rfl) (by kernel_rfl) (by kernel_rfl) (by kernel_rfl)) ?_
  intro W base args ds gs before hval0 hW hcnd hsz0 _
  have hsz : (DataW.weightsEach Try.prog (Try.f3.params.toList ++ Rows.limbsSaySpec.plain.varTypes Try.prog) (ds ++ gs)).all (· ≤ reachBytes) = true := hsz0
  clear hsz0
  have hval : ∀ (j : Nat) t v, Try.f3.params[j]? = some t → args[j]? = some v → Value.okWide Try.prog W .any base t v := hval0
  have hW' := hW
  obtain ⟨p, q, hA0, hV, rfl, hfz, hnd⟩ := hW
  have hA : DataW.TrodAll enc Try.prog W 0 (fun _ => true) true Try.f3.params.toList args.toList ds p := hA0
  rw [Try.params3] at hA hval hsz
  obtain ⟨v0, vs0, d0, ds0, p0, q0, hargs, rfl, rfl, h0, r0⟩ := trodAll_cons hA
  obtain ⟨v1, vs1, d1, ds1, p1, q1, rfl, rfl, rfl, h1, r1⟩ := trodAll_cons r0
  obtain ⟨v2, vs2, d2, ds2, p2, q2, rfl, rfl, rfl, h2, r2⟩ := trodAll_cons r1
  obtain ⟨rfl, rfl, rfl⟩ := trodAll_nil r2
  obtain rfl : args = #[v0, v1, v2] := by cases args; simp_all
  obtain ⟨rfl, rfl⟩ := trodVars_none hV
  have k0 := h0
  have lt0 : ∀ x ∈ p0, x.block < W.heap.size := by obtain ⟨m, hm⟩ := k0; exact DataW.trod_lt m _ _ _ hm
  have k1 := h1
  have lt1 : ∀ x ∈ p1, x.block < W.heap.size := by obtain ⟨m, hm⟩ := k1; exact DataW.trod_lt m _ _ _ hm
  obtain ⟨ns0, hnl0, rfl, rfl, rfl, w0⟩ := Open.open_int_array Try.underlying24 Try.underlying22 (by kernel_rfl) (by kernel_rfl) (hval 0 24 v0 rfl rfl) h0
  obtain ⟨a0, b0, c0, d0, e0, rfl, hw0⟩ := limbs_of ns0 hnl0 w0
  obtain ⟨ns1, hnl1, rfl, rfl, rfl, w1⟩ := Open.open_int_array Try.underlying24 Try.underlying22 (by kernel_rfl) (by kernel_rfl) (hval 1 24 v1 rfl rfl) h1
  obtain ⟨a1, b1, c1, d1, e1, rfl, hw1⟩ := limbs_of ns1 hnl1 w1
  obtain ⟨s2, rfl, rfl, rfl, w2⟩ := open_string Try.underlying9 (hval 2 9 v2 rfl rfl) h2
  have z2 := sized_string hsz (j := 2) (t := 9) (bytes := s2.data.toList) rfl rfl
  clear hA0 hval0
  have hwk := walk a0 b0 c0 d0 e0 a1 b1 c1 d1 e1 s2 W hw0 hw1 z2
  refine hwk.mono fun e W' ⟨he, bel⟩ => ?_
  subst he
  exact ⟨_, rfl, _, _, _, [], _, [], hW', trodAll_mk1 (shut_bool Try.underlying4 _), (trodAll_cons_mk (Below.trod laidOut (by kernel_rfl) (of_decide_eq_true (by kernel_rfl)) k0 bel lt0) (trodAll_cons_mk (Below.trod laidOut (by kernel_rfl) (of_decide_eq_true (by kernel_rfl)) k1 bel lt1) (trodAll_cons_mk (shut_string Try.underlying9 w2) trodAll_mk0))), rfl, bel.frame _, fun h => by cases h⟩

theorem over : Rows.limbsSayRow.holds Try.pinned (OpenSpec.ofChange Rows.limbsSaySpec) :=
  OpenClaim.holds_of_wide 3 Try.f3 rfl rfl rfl rfl rfl rfl rfl ⟨rfl, rfl, rfl, rfl, rfl⟩ rfl rfl rfl rfl rfl (by kernel_rfl) Try.func3 (by kernel_rfl)
    (of_decide_eq_true (by kernel_rfl)) (by unfold Func.isWrapper; first | (rw [if_pos (by decide +kernel)]; kernel_rfl) | (rw [if_neg (by decide +kernel)]; exact ⟨rfl, rfl⟩))
    (fun os started H enc _ => lifted os started H enc)

theorem proved : Rows.LimbsSaySaid := over
#print axioms proved
end Go.Proofs.Ytcglobpklhkebaa.LawLSay
