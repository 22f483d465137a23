/-
  rung of package ladder answers a rung of the plain ladder, and leaves all memory that was there as it was. Condition: limbs of words.
-/
import Derived.Test.YtcglobpklhkebaaLadExch
namespace Go.Proofs.Ytcglobpklhkebaa.LadC
open Go.RowKit Mur Lanes Limb Hold Lad
set_option maxRecDepth 100000

/-- A value under a name: what it is worth, its contract, its cells. -/
theorem named {n : Nat} (hn : LimL (limL n) n) : ∃ V, V = limL n ∧ LimL V n ∧ V.length = 5 ∧ Single V := ⟨limL n, rfl, hn, hn.len, hn.one⟩

set_option maxHeartbeats 4000000 in
theorem rung_any {X Z X' Z' Y : List Value} {s : St} {N : Nat} (h1 : LimL X s.a) (h2 : LimL Z s.b) (h3 : LimL X' s.c) (h4 : LimL Z' s.d) (h5 : LimL Y N) (w : World) :
    Calls Try.prog 68 #[.agg (X ++ Z).toArray, .agg (X' ++ Z').toArray, .agg Y.toArray] w fun r w' => r = .returned (.tuple #[.agg (limL (rungN N s).a ++ limL (rungN N s).b).toArray, .agg (limL (rungN N s).c ++ limL (rungN N s).d).toArray]) ∧ Below w.heap.size w w' := by
  have x5 : X.length = 5 ∧ Single X := ⟨h1.len, h1.one⟩
  have z5 : Z.length = 5 ∧ Single Z := ⟨h2.len, h2.one⟩
  have x5' : X'.length = 5 ∧ Single X' := ⟨h3.len, h3.one⟩
  have z5' : Z'.length = 5 ∧ Single Z' := ⟨h4.len, h4.one⟩
  have y5 : Y.length = 5 ∧ Single Y := ⟨h5.len, h5.one⟩
  obtain ⟨VA, eVA, lVA, sVA⟩ := named (n := (s.a + s.b) % Prime.P) (LimL.ofMod _)
  have rVA := fun u => add_l h1 h2 u
  rw [← eVA] at rVA
  obtain ⟨VB, eVB, lVB, sVB⟩ := named (n := subP s.a s.b) (LimL.ofSub _ _)
  have rVB := fun u => sub_l h1 h2 u
  rw [← eVB] at rVB
  obtain ⟨AA, eAA, lAA, sAA⟩ := named (n := ((s.a + s.b) % Prime.P) * ((s.a + s.b) % Prime.P) % Prime.P) (LimL.ofMod _)
  have rAA := fun u => times_l lVA lVA u
  rw [← eAA] at rAA
  obtain ⟨BB, eBB, lBB, sBB⟩ := named (n := subP s.a s.b * subP s.a s.b % Prime.P) (LimL.ofMod _)
  have rBB := fun u => times_l lVB lVB u
  rw [← eBB] at rBB
  obtain ⟨VE, eVE, lVE, sVE⟩ := named (n := rungE s) (LimL.ofSub _ _)
  have rVE := fun u => sub_l lAA lBB u
  change ∀ u, Calls _ _ _ u fun r w' => r = .returned (.agg (limL (rungE s)).toArray) ∧ _ at rVE
  rw [← eVE] at rVE
  obtain ⟨D1, eD1, lD1, sD1⟩ := named (n := subP s.c s.d) (LimL.ofSub _ _)
  have rD1 := fun u => sub_l h3 h4 u
  rw [← eD1] at rD1
  obtain ⟨VD, eVD, lVD, sVD⟩ := named (n := rungD s) (LimL.ofMod _)
  have rVD := fun u => times_l lD1 lVA u
  change ∀ u, Calls _ _ _ u fun r w' => r = .returned (.agg (limL (rungD s)).toArray) ∧ _ at rVD
  rw [← eVD] at rVD
  obtain ⟨C1, eC1, lC1, sC1⟩ := named (n := (s.c + s.d) % Prime.P) (LimL.ofMod _)
  have rC1 := fun u => add_l h3 h4 u
  rw [← eC1] at rC1
  obtain ⟨VC, eVC, lVC, sVC⟩ := named (n := rungC s) (LimL.ofMod _)
  have rVC := fun u => times_l lC1 lVB u
  change ∀ u, Calls _ _ _ u fun r w' => r = .returned (.agg (limL (rungC s)).toArray) ∧ _ at rVC
  rw [← eVC] at rVC
  obtain ⟨PX, ePX, lPX, sPX⟩ := named (n := (rungN N s).a) (LimL.ofMod _)
  have rPX := fun u => times_l lAA lBB u
  change ∀ u, Calls _ _ _ u fun r w' => r = .returned (.agg (limL (rungN N s).a).toArray) ∧ _ at rPX
  rw [← ePX] at rPX
  obtain ⟨S1, eS1, lS1, sS1⟩ := named (n := rungE s * 121665 % Prime.P) (LimL.ofMod _)
  have rS1 := fun u => scale_l lVE (n := 121665) (by decide) u
  rw [← eS1] at rS1
  obtain ⟨T1, eT1, lT1, sT1⟩ := named (n := (((s.a + s.b) % Prime.P) * ((s.a + s.b) % Prime.P) % Prime.P + rungE s * 121665 % Prime.P) % Prime.P) (LimL.ofMod _)
  have rT1 := fun u => add_l lAA lS1 u
  rw [← eT1] at rT1
  obtain ⟨PZ, ePZ, lPZ, sPZ⟩ := named (n := (rungN N s).b) (LimL.ofMod _)
  have rPZ := fun u => times_l lVE lT1 u
  change ∀ u, Calls _ _ _ u fun r w' => r = .returned (.agg (limL (rungN N s).b).toArray) ∧ _ at rPZ
  rw [← ePZ] at rPZ
  obtain ⟨U1, eU1, lU1, sU1⟩ := named (n := (rungD s + rungC s) % Prime.P) (LimL.ofMod _)
  have rU1 := fun u => add_l lVD lVC u
  rw [← eU1] at rU1
  obtain ⟨QX, eQX, lQX, sQX⟩ := named (n := (rungN N s).c) (LimL.ofMod _)
  have rQX := fun u => square_l lU1 u
  change ∀ u, Calls _ _ _ u fun r w' => r = .returned (.agg (limL (rungN N s).c).toArray) ∧ _ at rQX
  rw [← eQX] at rQX
  obtain ⟨W1, eW1, lW1, sW1⟩ := named (n := subP (rungD s) (rungC s)) (LimL.ofSub _ _)
  have rW1 := fun u => sub_l lVD lVC u
  rw [← eW1] at rW1
  obtain ⟨W2, eW2, lW2, sW2⟩ := named (n := subP (rungD s) (rungC s) * subP (rungD s) (rungC s) % Prime.P) (LimL.ofMod _)
  have rW2 := fun u => square_l lW1 u
  rw [← eW2] at rW2
  obtain ⟨QZ, eQZ, lQZ, sQZ⟩ := named (n := (rungN N s).d) (LimL.ofMod _)
  have rQZ := fun u => times_l h5 lW2 u
  change ∀ u, Calls _ _ _ u fun r w' => r = .returned (.agg (limL (rungN N s).d).toArray) ∧ _ at rQZ
  rw [← eQZ] at rQZ
  rw [← ePX, ← ePZ, ← eQX, ← eQZ]
  have scl : ∀ u, Calls Try.prog 24 #[.agg VE.toArray, .int .u64 121665] u fun r w' => r = .returned (.agg S1.toArray) ∧ Below u.heap.size u w' := rS1
  have RVA := Lib.hid rVA
  have HVA := Lib.hid sVA
  have RVB := Lib.hid rVB
  have HVB := Lib.hid sVB
  have RAA := Lib.hid rAA
  have HAA := Lib.hid sAA
  have RBB := Lib.hid rBB
  have HBB := Lib.hid sBB
  have RVE := Lib.hid rVE
  have HVE := Lib.hid sVE
  have RD1 := Lib.hid rD1
  have HD1 := Lib.hid sD1
  have RVD := Lib.hid rVD
  have HVD := Lib.hid sVD
  have RC1 := Lib.hid rC1
  have HC1 := Lib.hid sC1
  have RVC := Lib.hid rVC
  have HVC := Lib.hid sVC
  have RPX := Lib.hid rPX
  have HPX := Lib.hid sPX
  have RS1 := Lib.hid scl
  have HS1 := Lib.hid sS1
  have RT1 := Lib.hid rT1
  have HT1 := Lib.hid sT1
  have RPZ := Lib.hid rPZ
  have HPZ := Lib.hid sPZ
  have RU1 := Lib.hid rU1
  have HU1 := Lib.hid sU1
  have RQX := Lib.hid rQX
  have HQX := Lib.hid sQX
  have RW1 := Lib.hid rW1
  have HW1 := Lib.hid sW1
  have RW2 := Lib.hid rW2
  have HW2 := Lib.hid sW2
  have RQZ := Lib.hid rQZ
  have HQZ := Lib.hid sQZ
  have HX := Lib.hid x5
  have HZ := Lib.hid z5
  have HX' := Lib.hid x5'
  have HZ' := Lib.hid z5'
  have HY := Lib.hid y5
  have HM := Lib.hid (Hld.start w)
  clear scl x5 z5 x5' z5' y5 h1 h2 h3 h4 h5 eVA lVA sVA rVA eVB lVB sVB rVB eAA lAA sAA rAA eBB lBB sBB rBB eVE lVE sVE rVE eD1 lD1 sD1 rD1 eVD lVD sVD rVD eC1 lC1 sC1 rC1 eVC lVC sVC rVC ePX lPX sPX rPX eS1 lS1 sS1 rS1 eT1 lT1 sT1 rT1 ePZ lPZ sPZ rPZ eU1 lU1 sU1 rU1 eQX lQX sQX rQX eW1 lW1 sW1 rW1 eW2 lW2 sW2 rW2 eQZ lQZ sQZ rQZ
  go_enter Try.func68, Try.ntmps68
  go_upto_region 1 with ((first
    | (with_reducible refine Hold.box HM.out rfl rfl rfl ?_; clear HM; intro b w HM; simp only [List.nil_append, List.cons_append] at HM; replace HM := Lib.hid HM)
    | (with_reducible refine Hold.alloc HM.out rfl rfl zeros10 zero_pair ?_; clear HM; intro b w HM; simp only [List.nil_append, List.cons_append] at HM; replace HM := Lib.hid HM)))
  refine SteadyN.region 12 [10, 11] [0, 1, 2, 3, 4, 5, 6, 7, 8, 9] (by kernel_rfl) (by kernel_rfl) (SteadyN.Made _ 24 zeros5) (fun k hk o ho => by
    simp only [List.mem_cons, List.not_mem_nil, or_false] at hk
    rcases hk with rfl | rfl <;> (obtain rfl : _ = o := Option.some.inj ho; exact SteadyN.makes rfl 24 rfl _ zero_limbs5)) (SteadyN.Made.start _ _ _) ?_
  simp only [List.filterMap_cons, List.filterMap_nil, List.drop_succ_cons, List.drop_zero, List.getElem?_cons_zero, List.getElem?_cons_succ, Option.map_some]
  refine SteadyN.take ?_ rfl (by intro s u hu; go_simp; with_reducible rfl) ?_
  simp only [Act.put, List.setIfInBounds_toArray, List.set_cons_zero, List.set_cons_succ]
  refine SteadyN.take (.agg (X).toArray) rfl (fun s u hu => Hold.load_made HM.out.drew hu 0 rfl rfl rfl (Part.left _ _) (by rw [HX.out.1]; exact row_limbs)) ?_
  simp only [Act.put, List.setIfInBounds_toArray, List.set_cons_zero, List.set_cons_succ]
  refine SteadyN.take ?_ rfl (by intro s u hu; go_simp; with_reducible rfl) ?_
  simp only [Act.put, List.setIfInBounds_toArray, List.set_cons_zero, List.set_cons_succ]
  refine SteadyN.take (.agg (Z).toArray) rfl (fun s u hu => Hold.load_made HM.out.drew hu 0 rfl rfl rfl (Part.right HX.out.1) (by rw [HZ.out.1]; exact row_limbs)) ?_
  simp only [Act.put, List.setIfInBounds_toArray, List.set_cons_zero, List.set_cons_succ]
  refine SteadyN.call _ _ _ rfl ?_ (SteadyN.kept RVA.out) ?_
  · intro u
    go_simp
  simp only [Act.put, List.setIfInBounds_toArray, List.set_cons_zero, List.set_cons_succ]
  refine SteadyN.take ?_ rfl (by intro s u hu; go_simp; with_reducible rfl) ?_
  simp only [Act.put, List.setIfInBounds_toArray, List.set_cons_zero, List.set_cons_succ]
  refine SteadyN.take (.agg (X).toArray) rfl (fun s u hu => Hold.load_made HM.out.drew hu 0 rfl rfl rfl (Part.left _ _) (by rw [HX.out.1]; exact row_limbs)) ?_
  simp only [Act.put, List.setIfInBounds_toArray, List.set_cons_zero, List.set_cons_succ]
  refine SteadyN.take ?_ rfl (by intro s u hu; go_simp; with_reducible rfl) ?_
  simp only [Act.put, List.setIfInBounds_toArray, List.set_cons_zero, List.set_cons_succ]
  refine SteadyN.take (.agg (Z).toArray) rfl (fun s u hu => Hold.load_made HM.out.drew hu 0 rfl rfl rfl (Part.right HX.out.1) (by rw [HZ.out.1]; exact row_limbs)) ?_
  simp only [Act.put, List.setIfInBounds_toArray, List.set_cons_zero, List.set_cons_succ]
  refine SteadyN.call _ _ _ rfl ?_ (SteadyN.kept RVB.out) ?_
  · intro u
    go_simp
  simp only [Act.put, List.setIfInBounds_toArray, List.set_cons_zero, List.set_cons_succ]
  refine SteadyN.nil ?_
  simp only [SteadyN.made]
  intro p1 p2 w hS
  obtain ⟨b, b, rfl, rfl, HM2⟩ := Hold.made2 HM.out.drew hS (i := 10) (j := 11) (p := p1) (q := p2) (by simp [SteadyN.upd]) (by simp [SteadyN.upd]) (by decide)
  clear HM hS
  simp only [List.nil_append, List.cons_append] at HM2
  have HM := Lib.hid HM2
  clear HM2
  simp only [Act.put, List.setIfInBounds_toArray, List.set_cons_zero, List.set_cons_succ]
  go_upto_region 2 with ((first
    | (with_reducible refine Hold.store HM.out 5 (v' := VA) rfl rfl rfl rfl rfl (by simp [HVA.out.1, zeros5_length]) (lay_all (by simp [HVA.out.1, zeros5_length])) (HVA.out.2) (by rw [HVA.out.1]; exact row_limbs) ?_; clear HM; intro w HM; simp only [List.set_cons_zero, List.set_cons_succ] at HM; replace HM := Lib.hid HM)
    | (with_reducible refine Hold.store HM.out 6 (v' := VB) rfl rfl rfl rfl rfl (by simp [HVB.out.1, zeros5_length]) (lay_all (by simp [HVB.out.1, zeros5_length])) (HVB.out.2) (by rw [HVB.out.1]; exact row_limbs) ?_; clear HM; intro w HM; simp only [List.set_cons_zero, List.set_cons_succ] at HM; replace HM := Lib.hid HM)))
  refine SteadyN.region 8 [6, 7] [0, 1, 2, 3, 4, 5] (by kernel_rfl) (by kernel_rfl) (SteadyN.Made _ 24 zeros5) (fun k hk o ho => by
    simp only [List.mem_cons, List.not_mem_nil, or_false] at hk
    rcases hk with rfl | rfl <;> (obtain rfl : _ = o := Option.some.inj ho; exact SteadyN.makes rfl 24 rfl _ zero_limbs5)) (SteadyN.Made.start _ _ _) ?_
  simp only [List.filterMap_cons, List.filterMap_nil, List.drop_succ_cons, List.drop_zero, List.getElem?_cons_zero, List.getElem?_cons_succ, Option.map_some]
  refine SteadyN.take (.agg (VA).toArray) rfl (fun s u hu => Hold.load_made HM.out.drew hu 5 rfl rfl rfl (Part.all _) (by rw [HVA.out.1]; exact row_limbs)) ?_
  simp only [Act.put, List.setIfInBounds_toArray, List.set_cons_zero, List.set_cons_succ]
  refine SteadyN.take (.agg (VA).toArray) rfl (fun s u hu => Hold.load_made HM.out.drew hu 5 rfl rfl rfl (Part.all _) (by rw [HVA.out.1]; exact row_limbs)) ?_
  simp only [Act.put, List.setIfInBounds_toArray, List.set_cons_zero, List.set_cons_succ]
  refine SteadyN.call _ _ _ rfl ?_ (SteadyN.kept RAA.out) ?_
  · intro u
    go_simp
  simp only [Act.put, List.setIfInBounds_toArray, List.set_cons_zero, List.set_cons_succ]
  refine SteadyN.take (.agg (VB).toArray) rfl (fun s u hu => Hold.load_made HM.out.drew hu 6 rfl rfl rfl (Part.all _) (by rw [HVB.out.1]; exact row_limbs)) ?_
  simp only [Act.put, List.setIfInBounds_toArray, List.set_cons_zero, List.set_cons_succ]
  refine SteadyN.take (.agg (VB).toArray) rfl (fun s u hu => Hold.load_made HM.out.drew hu 6 rfl rfl rfl (Part.all _) (by rw [HVB.out.1]; exact row_limbs)) ?_
  simp only [Act.put, List.setIfInBounds_toArray, List.set_cons_zero, List.set_cons_succ]
  refine SteadyN.call _ _ _ rfl ?_ (SteadyN.kept RBB.out) ?_
  · intro u
    go_simp
  simp only [Act.put, List.setIfInBounds_toArray, List.set_cons_zero, List.set_cons_succ]
  refine SteadyN.nil ?_
  simp only [SteadyN.made]
  intro p1 p2 w hS
  obtain ⟨b, b, rfl, rfl, HM2⟩ := Hold.made2 HM.out.drew hS (i := 6) (j := 7) (p := p1) (q := p2) (by simp [SteadyN.upd]) (by simp [SteadyN.upd]) (by decide)
  clear HM hS
  simp only [List.nil_append, List.cons_append] at HM2
  have HM := Lib.hid HM2
  clear HM2
  simp only [Act.put, List.setIfInBounds_toArray, List.set_cons_zero, List.set_cons_succ]
  go_upto_region 3 with ((first
    | (with_reducible refine Hold.store HM.out 7 (v' := AA) rfl rfl rfl rfl rfl (by simp [HAA.out.1, zeros5_length]) (lay_all (by simp [HAA.out.1, zeros5_length])) (HAA.out.2) (by rw [HAA.out.1]; exact row_limbs) ?_; clear HM; intro w HM; simp only [List.set_cons_zero, List.set_cons_succ] at HM; replace HM := Lib.hid HM)
    | (with_reducible refine Hold.store HM.out 8 (v' := BB) rfl rfl rfl rfl rfl (by simp [HBB.out.1, zeros5_length]) (lay_all (by simp [HBB.out.1, zeros5_length])) (HBB.out.2) (by rw [HBB.out.1]; exact row_limbs) ?_; clear HM; intro w HM; simp only [List.set_cons_zero, List.set_cons_succ] at HM; replace HM := Lib.hid HM)))
  go_upto_region 4 with ((first
    | (with_reducible refine Hold.load HM.out 7 (cs := AA) rfl rfl rfl rfl (Part.all _) (by rw [HAA.out.1]; exact row_limbs) ?_)
    | (with_reducible refine Hold.load HM.out 8 (cs := BB) rfl rfl rfl rfl (Part.all _) (by rw [HBB.out.1]; exact row_limbs) ?_)
    | (with_reducible refine (RVE.out _).mono ?_; rintro e w ⟨rfl, hb⟩; replace HM := Lib.hid (HM.out.next hb); clear hb)
    | (with_reducible refine Hold.alloc HM.out rfl rfl zeros5 zero_limbs5 ?_; clear HM; intro b w HM; simp only [List.nil_append, List.cons_append] at HM; replace HM := Lib.hid HM)
    | (with_reducible refine Hold.store HM.out 9 (v' := VE) rfl rfl rfl rfl rfl (by simp [HVE.out.1, zeros5_length]) (lay_all (by simp [HVE.out.1, zeros5_length])) (HVE.out.2) (by rw [HVE.out.1]; exact row_limbs) ?_; clear HM; intro w HM; simp only [List.set_cons_zero, List.set_cons_succ] at HM; replace HM := Lib.hid HM)))
  refine SteadyN.region 8 [7] [0, 1, 2, 3, 4, 5, 6] (by kernel_rfl) (by kernel_rfl) (SteadyN.Made _ 24 zeros5) (fun k hk o ho => by
    simp only [List.mem_cons, List.not_mem_nil, or_false] at hk
    subst hk <;> (obtain rfl : _ = o := Option.some.inj ho; exact SteadyN.makes rfl 24 rfl _ zero_limbs5)) (SteadyN.Made.start _ _ _) ?_
  simp only [List.filterMap_cons, List.filterMap_nil, List.drop_succ_cons, List.drop_zero, List.getElem?_cons_zero, List.getElem?_cons_succ, Option.map_some]
  refine SteadyN.take ?_ rfl (by intro s u hu; go_simp; with_reducible rfl) ?_
  simp only [Act.put, List.setIfInBounds_toArray, List.set_cons_zero, List.set_cons_succ]
  refine SteadyN.take (.agg (X').toArray) rfl (fun s u hu => Hold.load_made HM.out.drew hu 1 rfl rfl rfl (Part.left _ _) (by rw [HX'.out.1]; exact row_limbs)) ?_
  simp only [Act.put, List.setIfInBounds_toArray, List.set_cons_zero, List.set_cons_succ]
  refine SteadyN.take ?_ rfl (by intro s u hu; go_simp; with_reducible rfl) ?_
  simp only [Act.put, List.setIfInBounds_toArray, List.set_cons_zero, List.set_cons_succ]
  refine SteadyN.take (.agg (Z').toArray) rfl (fun s u hu => Hold.load_made HM.out.drew hu 1 rfl rfl rfl (Part.right HX'.out.1) (by rw [HZ'.out.1]; exact row_limbs)) ?_
  simp only [Act.put, List.setIfInBounds_toArray, List.set_cons_zero, List.set_cons_succ]
  refine SteadyN.call _ _ _ rfl ?_ (SteadyN.kept RD1.out) ?_
  · intro u
    go_simp
  simp only [Act.put, List.setIfInBounds_toArray, List.set_cons_zero, List.set_cons_succ]
  refine SteadyN.take (.agg (VA).toArray) rfl (fun s u hu => Hold.load_made HM.out.drew hu 5 rfl rfl rfl (Part.all _) (by rw [HVA.out.1]; exact row_limbs)) ?_
  simp only [Act.put, List.setIfInBounds_toArray, List.set_cons_zero, List.set_cons_succ]
  refine SteadyN.call _ _ _ rfl ?_ (SteadyN.kept RVD.out) ?_
  · intro u
    go_simp
  simp only [Act.put, List.setIfInBounds_toArray, List.set_cons_zero, List.set_cons_succ]
  refine SteadyN.nil ?_
  simp only [SteadyN.made]
  intro p1 w hS
  obtain ⟨b, rfl, HM2⟩ := Hold.made1 HM.out.drew hS (i := 7) (p := p1) (by simp [SteadyN.upd])
  clear HM hS
  simp only [List.nil_append, List.cons_append] at HM2
  have HM := Lib.hid HM2
  clear HM2
  simp only [Act.put, List.setIfInBounds_toArray, List.set_cons_zero, List.set_cons_succ]
  go_upto_region 5 with ((first
    | (with_reducible refine Hold.store HM.out 10 (v' := VD) rfl rfl rfl rfl rfl (by simp [HVD.out.1, zeros5_length]) (lay_all (by simp [HVD.out.1, zeros5_length])) (HVD.out.2) (by rw [HVD.out.1]; exact row_limbs) ?_; clear HM; intro w HM; simp only [List.set_cons_zero, List.set_cons_succ] at HM; replace HM := Lib.hid HM)))
  refine SteadyN.region 8 [7] [0, 1, 2, 3, 4, 5, 6] (by kernel_rfl) (by kernel_rfl) (SteadyN.Made _ 24 zeros5) (fun k hk o ho => by
    simp only [List.mem_cons, List.not_mem_nil, or_false] at hk
    subst hk <;> (obtain rfl : _ = o := Option.some.inj ho; exact SteadyN.makes rfl 24 rfl _ zero_limbs5)) (SteadyN.Made.start _ _ _) ?_
  simp only [List.filterMap_cons, List.filterMap_nil, List.drop_succ_cons, List.drop_zero, List.getElem?_cons_zero, List.getElem?_cons_succ, Option.map_some]
  refine SteadyN.take ?_ rfl (by intro s u hu; go_simp; with_reducible rfl) ?_
  simp only [Act.put, List.setIfInBounds_toArray, List.set_cons_zero, List.set_cons_succ]
  refine SteadyN.take (.agg (X').toArray) rfl (fun s u hu => Hold.load_made HM.out.drew hu 1 rfl rfl rfl (Part.left _ _) (by rw [HX'.out.1]; exact row_limbs)) ?_
  simp only [Act.put, List.setIfInBounds_toArray, List.set_cons_zero, List.set_cons_succ]
  refine SteadyN.take ?_ rfl (by intro s u hu; go_simp; with_reducible rfl) ?_
  simp only [Act.put, List.setIfInBounds_toArray, List.set_cons_zero, List.set_cons_succ]
  refine SteadyN.take (.agg (Z').toArray) rfl (fun s u hu => Hold.load_made HM.out.drew hu 1 rfl rfl rfl (Part.right HX'.out.1) (by rw [HZ'.out.1]; exact row_limbs)) ?_
  simp only [Act.put, List.setIfInBounds_toArray, List.set_cons_zero, List.set_cons_succ]
  refine SteadyN.call _ _ _ rfl ?_ (SteadyN.kept RC1.out) ?_
  · intro u
    go_simp
  simp only [Act.put, List.setIfInBounds_toArray, List.set_cons_zero, List.set_cons_succ]
  refine SteadyN.take (.agg (VB).toArray) rfl (fun s u hu => Hold.load_made HM.out.drew hu 6 rfl rfl rfl (Part.all _) (by rw [HVB.out.1]; exact row_limbs)) ?_
  simp only [Act.put, List.setIfInBounds_toArray, List.set_cons_zero, List.set_cons_succ]
  refine SteadyN.call _ _ _ rfl ?_ (SteadyN.kept RVC.out) ?_
  · intro u
    go_simp
  simp only [Act.put, List.setIfInBounds_toArray, List.set_cons_zero, List.set_cons_succ]
  refine SteadyN.nil ?_
  simp only [SteadyN.made]
  intro p1 w hS
  obtain ⟨b, rfl, HM2⟩ := Hold.made1 HM.out.drew hS (i := 7) (p := p1) (by simp [SteadyN.upd])
  clear HM hS
  simp only [List.nil_append, List.cons_append] at HM2
  have HM := Lib.hid HM2
  clear HM2
  simp only [Act.put, List.setIfInBounds_toArray, List.set_cons_zero, List.set_cons_succ]
  go_upto_region 6 with ((first
    | (with_reducible refine Hold.store HM.out 11 (v' := VC) rfl rfl rfl rfl rfl (by simp [HVC.out.1, zeros5_length]) (lay_all (by simp [HVC.out.1, zeros5_length])) (HVC.out.2) (by rw [HVC.out.1]; exact row_limbs) ?_; clear HM; intro w HM; simp only [List.set_cons_zero, List.set_cons_succ] at HM; replace HM := Lib.hid HM)))
  go_upto_region 7 with ((first
    | (with_reducible refine Hold.load HM.out 7 (cs := AA) rfl rfl rfl rfl (Part.all _) (by rw [HAA.out.1]; exact row_limbs) ?_)
    | (with_reducible refine Hold.load HM.out 8 (cs := BB) rfl rfl rfl rfl (Part.all _) (by rw [HBB.out.1]; exact row_limbs) ?_)
    | (with_reducible refine (RPX.out _).mono ?_; rintro e w ⟨rfl, hb⟩; replace HM := Lib.hid (HM.out.next hb); clear hb)
    | (with_reducible refine Hold.store HM.out 0 (v' := PX ++ Z) rfl rfl rfl rfl rfl (by simp [HX.out.1, HPX.out.1]) (lay_left (HX.out.1.trans HPX.out.1.symm)) (HPX.out.2) (by rw [HPX.out.1]; exact row_limbs) ?_; clear HM; intro w HM; simp only [List.set_cons_zero] at HM; replace HM := Lib.hid HM)))
  refine Steady.region 7 (by kernel_rfl) (by kernel_rfl) (fun u => Hld _ _ u) HM.out.drew ?_
  simp only [List.take_succ_cons, List.take_zero, List.drop_succ_cons, List.drop_zero]
  refine Steady.take (.agg (VE).toArray) rfl (fun u hu => Hold.load_run hu 9 rfl rfl rfl (Part.all _) (by rw [HVE.out.1]; exact row_limbs)) ?_
  simp only [Act.put, List.setIfInBounds_toArray, List.set_cons_zero, List.set_cons_succ]
  refine Steady.take (.agg (AA).toArray) rfl (fun u hu => Hold.load_run hu 7 rfl rfl rfl (Part.all _) (by rw [HAA.out.1]; exact row_limbs)) ?_
  simp only [Act.put, List.setIfInBounds_toArray, List.set_cons_zero, List.set_cons_succ]
  refine Steady.take (.agg (VE).toArray) rfl (fun u hu => Hold.load_run hu 9 rfl rfl rfl (Part.all _) (by rw [HVE.out.1]; exact row_limbs)) ?_
  simp only [Act.put, List.setIfInBounds_toArray, List.set_cons_zero, List.set_cons_succ]
  refine Steady.call _ _ _ rfl ?_ (Hold.kept RS1.out) ?_
  · intro u
    go_simp
  simp only [Act.put, List.setIfInBounds_toArray, List.set_cons_zero, List.set_cons_succ]
  refine Steady.call _ _ _ rfl ?_ (Hold.kept RT1.out) ?_
  · intro u
    go_simp
  simp only [Act.put, List.setIfInBounds_toArray, List.set_cons_zero, List.set_cons_succ]
  refine Steady.call _ _ _ rfl ?_ (Hold.kept RPZ.out) ?_
  · intro u
    go_simp
  simp only [Act.put, List.setIfInBounds_toArray, List.set_cons_zero, List.set_cons_succ]
  refine Steady.take ?_ rfl (by intro u hu; go_simp; with_reducible rfl) ?_
  simp only [Act.put, List.setIfInBounds_toArray, List.set_cons_zero, List.set_cons_succ]
  refine Steady.nil ?_
  clear HM
  intro w HM
  replace HM := Lib.hid HM
  go_upto_region 8 with ((first
    | (with_reducible refine Hold.store HM.out 0 (v' := PX ++ PZ) rfl rfl rfl rfl rfl (by simp [HPX.out.1, HZ.out.1, HPZ.out.1]) (lay_right HPX.out.1 (HZ.out.1.trans HPZ.out.1.symm)) (HPZ.out.2) (by rw [HPZ.out.1]; exact row_limbs) ?_; clear HM; intro w HM; simp only [List.set_cons_zero] at HM; replace HM := Lib.hid HM)))
  go_upto_region 9 with ((first
    | (with_reducible refine Hold.load HM.out 10 (cs := VD) rfl rfl rfl rfl (Part.all _) (by rw [HVD.out.1]; exact row_limbs) ?_)
    | (with_reducible refine Hold.load HM.out 11 (cs := VC) rfl rfl rfl rfl (Part.all _) (by rw [HVC.out.1]; exact row_limbs) ?_)
    | (with_reducible refine (RU1.out _).mono ?_; rintro e w ⟨rfl, hb⟩; replace HM := Lib.hid (HM.out.next hb); clear hb)
    | (with_reducible refine (RQX.out _).mono ?_; rintro e w ⟨rfl, hb⟩; replace HM := Lib.hid (HM.out.next hb); clear hb)
    | (with_reducible refine Hold.store HM.out 1 (v' := QX ++ Z') rfl rfl rfl rfl rfl (by simp [HX'.out.1, HQX.out.1]) (lay_left (HX'.out.1.trans HQX.out.1.symm)) (HQX.out.2) (by rw [HQX.out.1]; exact row_limbs) ?_; clear HM; intro w HM; simp only [List.set_cons_zero, List.set_cons_succ] at HM; replace HM := Lib.hid HM)))
  refine Steady.region 7 (by kernel_rfl) (by kernel_rfl) (fun u => Hld _ _ u) HM.out.drew ?_
  simp only [List.take_succ_cons, List.take_zero, List.drop_succ_cons, List.drop_zero]
  refine Steady.take (.agg (Y).toArray) rfl (fun u hu => Hold.load_run hu 2 rfl rfl rfl (Part.all _) (by rw [HY.out.1]; exact row_limbs)) ?_
  simp only [Act.put, List.setIfInBounds_toArray, List.set_cons_zero, List.set_cons_succ]
  refine Steady.take (.agg (VD).toArray) rfl (fun u hu => Hold.load_run hu 10 rfl rfl rfl (Part.all _) (by rw [HVD.out.1]; exact row_limbs)) ?_
  simp only [Act.put, List.setIfInBounds_toArray, List.set_cons_zero, List.set_cons_succ]
  refine Steady.take (.agg (VC).toArray) rfl (fun u hu => Hold.load_run hu 11 rfl rfl rfl (Part.all _) (by rw [HVC.out.1]; exact row_limbs)) ?_
  simp only [Act.put, List.setIfInBounds_toArray, List.set_cons_zero, List.set_cons_succ]
  refine Steady.call _ _ _ rfl ?_ (Hold.kept RW1.out) ?_
  · intro u
    go_simp
  simp only [Act.put, List.setIfInBounds_toArray, List.set_cons_zero, List.set_cons_succ]
  refine Steady.call _ _ _ rfl ?_ (Hold.kept RW2.out) ?_
  · intro u
    go_simp
  simp only [Act.put, List.setIfInBounds_toArray, List.set_cons_zero, List.set_cons_succ]
  refine Steady.call _ _ _ rfl ?_ (Hold.kept RQZ.out) ?_
  · intro u
    go_simp
  simp only [Act.put, List.setIfInBounds_toArray, List.set_cons_zero, List.set_cons_succ]
  refine Steady.take ?_ rfl (by intro u hu; go_simp; with_reducible rfl) ?_
  simp only [Act.put, List.setIfInBounds_toArray, List.set_cons_zero, List.set_cons_succ]
  refine Steady.nil ?_
  clear HM
  intro w HM
  replace HM := Lib.hid HM
  go_upto_region 10 with ((first
    | (with_reducible refine Hold.store HM.out 1 (v' := QX ++ QZ) rfl rfl rfl rfl rfl (by simp [HQX.out.1, HZ'.out.1, HQZ.out.1]) (lay_right HQX.out.1 (HZ'.out.1.trans HQZ.out.1.symm)) (HQZ.out.2) (by rw [HQZ.out.1]; exact row_limbs) ?_; clear HM; intro w HM; simp only [List.set_cons_zero, List.set_cons_succ] at HM; replace HM := Lib.hid HM)))
  have HAC := Lib.hid (show (PX ++ PZ).length = 10 by simp [HPX.out.1, HPZ.out.1])
  have HBD := Lib.hid (show (QX ++ QZ).length = 10 by simp [HQX.out.1, HQZ.out.1])
  refine Hold.pair_end (k0 := 0) (k1 := 1) (k2 := 3) (k3 := 4) HM.out (by kernel_rfl) (by kernel_rfl) (by kernel_rfl) (by kernel_rfl) (by kernel_rfl) (by kernel_rfl) (by kernel_rfl) (by kernel_rfl) rfl rfl rfl rfl rfl rfl rfl rfl rfl rfl rfl rfl rfl rfl rfl rfl (by decide) (by simp [Act.put]) (by simp [Act.put]) rfl rfl rfl rfl (by decide)
    (by rw [HAC.out]; exact row_pair) (by rw [HBD.out]; exact row_pair) (by rw [HAC.out]; exact row_pair) (by rw [HBD.out]; exact row_pair) (by rw [HAC.out]; rfl) (by rw [HBD.out]; rfl) (HPX.out.2.append HPZ.out.2) (HQX.out.2.append HQZ.out.2) ?_
  clear HM
  intro w HM
  simp only [List.set_cons_zero, List.set_cons_succ] at HM
  replace HM := Lib.hid HM
  go_wp2
  exact bodyPost_ret (Hold.results2 HM.out 3 4 rfl _ rfl rfl rfl rfl (by rw [HAC.out]; exact row_pair) (by rw [HBD.out]; exact row_pair)) rfl ⟨rfl, HM.out.below⟩
end Go.Proofs.Ytcglobpklhkebaa.LadC
