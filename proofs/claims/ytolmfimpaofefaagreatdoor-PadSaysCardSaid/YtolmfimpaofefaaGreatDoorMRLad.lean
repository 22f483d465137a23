/-
  Several texts as one (RLadder, RLadEnds). The document's step and Ladder of layer 6 answer what the plain ladder says, and leave all memory that was there as it was. Conditions: limbs of words, a text that takes no more than the reach of the form. The document's Clamp, Times, Public and Shared of layer 6 answer what the plain ladder says, and leave all memory that was there as it was. Condition: texts that take no more than the reach of the form.
-/
import Derived.Test.YtolmfimpaofefaaGreatDoorMRPow
import Derived.Test.YtolmfimpaofefaaGreatDoorMLad
import Derived.Test.YtolmfimpaofefaaGreatDoorMRef
namespace Go.Proofs.YtolmfimpaofefaaGreatDoor.RefLad
open Go.RowKit Mur Lanes Limb Hold Lad LadC RefLimb
set_option maxRecDepth 100000

/-- Four rows, one behind the other. -/
abbrev quad (A B C D : List Value) : List Value := A ++ (B ++ (C ++ D))
section
variable {A B C D X : List Value}
theorem quad_0 : Part (quad A B C D) 0 A := Part.left _ _
theorem quad_1 (a : A.length = 5) : Part (quad A B C D) 5 B := Part.mid a
theorem quad_2 (a : A.length = 5) (b : B.length = 5) : Part (quad A B C D) 10 C := fun j u h => by
  have := Part.mid (X := A ++ B) (Y := C) (Z := D) (o := 10) (by rw [List.length_append, a, b]) j u h
  rwa [List.append_assoc] at this
theorem quad_3 (a : A.length = 5) (b : B.length = 5) (c : C.length = 5) : Part (quad A B C D) 15 D := fun j u h => by
  have := Part.right (X := A ++ (B ++ C)) (Z := D) (o := 15) (by rw [List.length_append, List.length_append, a, b, c]) j u h
  rwa [List.append_assoc, List.append_assoc] at this
theorem quad_length (a : A.length = 5) (b : B.length = 5) (c : C.length = 5) (d : D.length = 5) : (quad A B C D).length = 20 := by
  simp [a, b, c, d]
theorem lay_0 (h : A.length = X.length) : lay (quad A B C D) 0 X = quad X B C D := lay_left h
theorem lay_1 (a : A.length = 5) (h : B.length = X.length) : lay (quad A B C D) 5 X = quad A X C D := lay_at a h
theorem lay_2 (a : A.length = 5) (b : B.length = 5) (h : C.length = X.length) : lay (quad A B C D) 10 X = quad A B X D := by
  have := lay_at (P := A ++ B) (X := C) (Y := X) (Z := D) (o := 10) (by rw [List.length_append, a, b]) h
  rwa [List.append_assoc, List.append_assoc] at this
theorem lay_3 (a : A.length = 5) (b : B.length = 5) (c : C.length = 5) (h : D.length = X.length) : lay (quad A B C D) 15 X = quad A B C X := by
  have := lay_right (X := A ++ (B ++ C)) (Z := D) (Y := X) (o := 15) (by rw [List.length_append, List.length_append, a, b, c]) h
  rwa [List.append_assoc, List.append_assoc, List.append_assoc, List.append_assoc] at this
theorem single_quad (a : Single A) (b : Single B) (c : Single C) (d : Single D) : Single (quad A B C D) := a.append (b.append (c.append d))
end
theorem row_quad : TyRow Tryz.prog 128 20 := ⟨_, Tryz.underlying128, rfl, by kernel_rfl⟩
def zeros20 : List Value := quad zeros5 zeros5 zeros5 zeros5
theorem zeros20_length : zeros20.length = 20 := rfl
theorem zero_quad : (Tryz.prog.info? 128).map (fun i => (i.zero, i.size)) = some (some (.agg zeros20.toArray), zeros20.length) := by kernel_rfl
theorem built_quad {A B C D : List Value} {n m k l : Nat} (a : LimL A n) (b : LimL B m) (c : LimL C k) (d : LimL D l) : Tryz.prog.built 128 [(0, .agg A.toArray), (1, .agg B.toArray), (2, .agg C.toArray), (3, .agg D.toArray)] = some (quad A B C D).toArray := by
  obtain ⟨a0, a1, a2, a3, a4, rfl, -, -⟩ := a.out
  obtain ⟨b0, b1, b2, b3, b4, rfl, -, -⟩ := b.out
  obtain ⟨c0, c1, c2, c3, c4, rfl, -, -⟩ := c.out
  obtain ⟨d0, d1, d2, d3, d4, rfl, -, -⟩ := d.out
  kernel_rfl
theorem sq_l {X : List Value} {N : Nat} (hX : LimL X N) (u : World) : Calls Tryz.prog 144 #[.agg X.toArray, .int .i64 1] u fun r w' => r = .returned (.agg (limL (N * N % Prime.P)).toArray) ∧ Below u.heap.size u w' := by
  have := square1_l hX u
  rw [Nat.pow_two] at this
  exact this

set_option maxHeartbeats 6400000 in
theorem step_any {X Z X' Z' Y : List Value} {s : St} {N : Nat} (hf : Four X Z X' Z' s) (h5 : LimL Y N) (w : World) :
    Calls Tryz.prog 111 #[.agg Y.toArray, .agg (quad X Z X' Z').toArray] w fun r w' => r = .returned (.agg (quad (limL (rungN N s).a) (limL (rungN N s).b) (limL (rungN N s).c) (limL (rungN N s).d)).toArray) ∧ Below w.heap.size w w' := by
  obtain ⟨h1, h2, h3, h4⟩ := hf
  have x5 : X.length = 5 ∧ Single X := ⟨h1.len, h1.one⟩
  have z5 : Z.length = 5 ∧ Single Z := ⟨h2.len, h2.one⟩
  have x5' : X'.length = 5 ∧ Single X' := ⟨h3.len, h3.one⟩
  have z5' : Z'.length = 5 ∧ Single Z' := ⟨h4.len, h4.one⟩
  have y5 : Y.length = 5 ∧ Single Y := ⟨h5.len, h5.one⟩
  obtain ⟨VA, eVA, lVA, sVA⟩ := named (n := (s.a + s.b) % Prime.P) (LimL.ofMod _)
  have rVA := fun u => sum_l h1 h2 u
  rw [← eVA] at rVA
  obtain ⟨VB, eVB, lVB, sVB⟩ := named (n := subP s.a s.b) (LimL.ofSub _ _)
  have rVB := fun u => dif_l h1 h2 u
  rw [← eVB] at rVB
  obtain ⟨AA, eAA, lAA, sAA⟩ := named (n := ((s.a + s.b) % Prime.P) * ((s.a + s.b) % Prime.P) % Prime.P) (LimL.ofMod _)
  have rAA := fun u => sq_l lVA u
  rw [← eAA] at rAA
  obtain ⟨BB, eBB, lBB, sBB⟩ := named (n := subP s.a s.b * subP s.a s.b % Prime.P) (LimL.ofMod _)
  have rBB := fun u => sq_l lVB u
  rw [← eBB] at rBB
  obtain ⟨VE, eVE, lVE, sVE⟩ := named (n := rungE s) (LimL.ofSub _ _)
  have rVE := fun u => dif_l lAA lBB u
  change ∀ u, Calls _ _ _ u fun r w' => r = .returned (.agg (limL (rungE s)).toArray) ∧ _ at rVE
  rw [← eVE] at rVE
  obtain ⟨D1, eD1, lD1, sD1⟩ := named (n := subP s.c s.d) (LimL.ofSub _ _)
  have rD1 := fun u => dif_l h3 h4 u
  rw [← eD1] at rD1
  obtain ⟨VD, eVD, lVD, sVD⟩ := named (n := rungD s) (LimL.ofMod _)
  have rVD := fun u => prod_l lD1 lVA u
  change ∀ u, Calls _ _ _ u fun r w' => r = .returned (.agg (limL (rungD s)).toArray) ∧ _ at rVD
  rw [← eVD] at rVD
  obtain ⟨C1, eC1, lC1, sC1⟩ := named (n := (s.c + s.d) % Prime.P) (LimL.ofMod _)
  have rC1 := fun u => sum_l h3 h4 u
  rw [← eC1] at rC1
  obtain ⟨VC, eVC, lVC, sVC⟩ := named (n := rungC s) (LimL.ofMod _)
  have rVC := fun u => prod_l lC1 lVB u
  change ∀ u, Calls _ _ _ u fun r w' => r = .returned (.agg (limL (rungC s)).toArray) ∧ _ at rVC
  rw [← eVC] at rVC
  obtain ⟨PX, ePX, lPX, sPX⟩ := named (n := (rungN N s).a) (LimL.ofMod _)
  have rPX := fun u => prod_l lAA lBB u
  change ∀ u, Calls _ _ _ u fun r w' => r = .returned (.agg (limL ((rungN N s).a)).toArray) ∧ _ at rPX
  rw [← ePX] at rPX
  obtain ⟨S1, eS1, lS1, sS1⟩ := named (n := rungE s * 121665 % Prime.P) (LimL.ofMod _)
  have rS1 := fun u => scaled_l lVE (n := 121665) (by decide) u
  rw [← eS1] at rS1
  obtain ⟨T1, eT1, lT1, sT1⟩ := named (n := (((s.a + s.b) % Prime.P) * ((s.a + s.b) % Prime.P) % Prime.P + rungE s * 121665 % Prime.P) % Prime.P) (LimL.ofMod _)
  have rT1 := fun u => sum_l lAA lS1 u
  rw [← eT1] at rT1
  obtain ⟨PZ, ePZ, lPZ, sPZ⟩ := named (n := (rungN N s).b) (LimL.ofMod _)
  have rPZ := fun u => prod_l lVE lT1 u
  change ∀ u, Calls _ _ _ u fun r w' => r = .returned (.agg (limL ((rungN N s).b)).toArray) ∧ _ at rPZ
  rw [← ePZ] at rPZ
  obtain ⟨U1, eU1, lU1, sU1⟩ := named (n := (rungD s + rungC s) % Prime.P) (LimL.ofMod _)
  have rU1 := fun u => sum_l lVD lVC u
  rw [← eU1] at rU1
  obtain ⟨QX, eQX, lQX, sQX⟩ := named (n := (rungN N s).c) (LimL.ofMod _)
  have rQX := fun u => sq_l lU1 u
  change ∀ u, Calls _ _ _ u fun r w' => r = .returned (.agg (limL ((rungN N s).c)).toArray) ∧ _ at rQX
  rw [← eQX] at rQX
  obtain ⟨W1, eW1, lW1, sW1⟩ := named (n := subP (rungD s) (rungC s)) (LimL.ofSub _ _)
  have rW1 := fun u => dif_l lVD lVC u
  rw [← eW1] at rW1
  obtain ⟨W2, eW2, lW2, sW2⟩ := named (n := subP (rungD s) (rungC s) * subP (rungD s) (rungC s) % Prime.P) (LimL.ofMod _)
  have rW2 := fun u => sq_l lW1 u
  rw [← eW2] at rW2
  obtain ⟨QZ, eQZ, lQZ, sQZ⟩ := named (n := (rungN N s).d) (LimL.ofMod _)
  have rQZ := fun u => prod_l h5 lW2 u
  change ∀ u, Calls _ _ _ u fun r w' => r = .returned (.agg (limL ((rungN N s).d)).toArray) ∧ _ at rQZ
  rw [← eQZ] at rQZ
  rw [← ePX, ← ePZ, ← eQX, ← eQZ]
  have hbq := built_quad lPX lPZ lQX lQZ
  have scl : ∀ u, Calls Tryz.prog 145 #[.agg VE.toArray, .int .u64 121665] u fun r w' => r = .returned (.agg S1.toArray) ∧ Below u.heap.size u w' := rS1
  have RVA := Lib.hid rVA
  have HVA := Lib.hid sVA
  have RVB := Lib.hid rVB
  have HVB := Lib.hid sVB
  have RAA := Lib.hid rAA
  have HAA := Lib.hid sAA
  have RBB := Lib.hid rBB
  have HBB := Lib.hid sBB
  have RVE := Lib.hid rVE
  have HVE := Lib.hid sVE
  have RD1 := Lib.hid rD1
  have HD1 := Lib.hid sD1
  have RVD := Lib.hid rVD
  have HVD := Lib.hid sVD
  have RC1 := Lib.hid rC1
  have HC1 := Lib.hid sC1
  have RVC := Lib.hid rVC
  have HVC := Lib.hid sVC
  have RPX := Lib.hid rPX
  have HPX := Lib.hid sPX
  have RS1 := Lib.hid scl
  have HS1 := Lib.hid sS1
  have RT1 := Lib.hid rT1
  have HT1 := Lib.hid sT1
  have RPZ := Lib.hid rPZ
  have HPZ := Lib.hid sPZ
  have RU1 := Lib.hid rU1
  have HU1 := Lib.hid sU1
  have RQX := Lib.hid rQX
  have HQX := Lib.hid sQX
  have RW1 := Lib.hid rW1
  have HW1 := Lib.hid sW1
  have RW2 := Lib.hid rW2
  have HW2 := Lib.hid sW2
  have RQZ := Lib.hid rQZ
  have HQZ := Lib.hid sQZ
  have HX := Lib.hid x5
  have HZ := Lib.hid z5
  have HX' := Lib.hid x5'
  have HZ' := Lib.hid z5'
  have HY := Lib.hid y5
  have HBQ := Lib.hid hbq
  have HM := Lib.hid (Hld.start w)
  clear hbq scl x5 z5 x5' z5' y5 h1 h2 h3 h4 h5 eVA lVA sVA rVA eVB lVB sVB rVB eAA lAA sAA rAA eBB lBB sBB rBB eVE lVE sVE rVE eD1 lD1 sD1 rD1 eVD lVD sVD rVD eC1 lC1 sC1 rC1 eVC lVC sVC rVC ePX lPX sPX rPX eS1 lS1 sS1 rS1 eT1 lT1 sT1 rT1 ePZ lPZ sPZ rPZ eU1 lU1 sU1 rU1 eQX lQX sQX rQX eW1 lW1 sW1 rW1 eW2 lW2 sW2 rW2 eQZ lQZ sQZ rQZ
  go_enter Tryz.func111, Tryz.ntmps111
  go_upto_region 1 with ((first
    | (with_reducible refine Hold.box HM.out rfl rfl rfl ?_; clear HM; intro b w HM; simp only [List.nil_append, List.cons_append] at HM; replace HM := Lib.hid HM)
    | (with_reducible refine Hold.alloc HM.out rfl rfl zeros20 zero_quad ?_; clear HM; intro b w HM; simp only [List.nil_append, List.cons_append] at HM; replace HM := Lib.hid HM)))
  refine SteadyN.region 12 [10, 11] [0, 1, 2, 3, 4, 5, 6, 7, 8, 9] (by kernel_rfl) (by kernel_rfl) (SteadyN.Made _ 69 zeros5) (fun k hk o ho => by
    simp only [List.mem_cons, List.not_mem_nil, or_false] at hk
    rcases hk with rfl | rfl <;> (obtain rfl : _ = o := Option.some.inj ho; exact SteadyN.makes rfl 69 rfl _ zero_limbs5)) (SteadyN.Made.start _ _ _) ?_
  simp only [List.filterMap_cons, List.filterMap_nil, List.drop_succ_cons, List.drop_zero, List.getElem?_cons_zero, List.getElem?_cons_succ, Option.map_some]
  refine SteadyN.take ?_ rfl (by intro s u hu; go_simp; with_reducible rfl) ?_
  simp only [Act.put, List.setIfInBounds_toArray, List.set_cons_zero, List.set_cons_succ]
  refine SteadyN.take (.agg (X).toArray) rfl (fun s u hu => Hold.load_made HM.out.drew hu 1 rfl rfl rfl (quad_0) (by rw [HX.out.1]; exact row_limbs)) ?_
  simp only [Act.put, List.setIfInBounds_toArray, List.set_cons_zero, List.set_cons_succ]
  refine SteadyN.take ?_ rfl (by intro s u hu; go_simp; with_reducible rfl) ?_
  simp only [Act.put, List.setIfInBounds_toArray, List.set_cons_zero, List.set_cons_succ]
  refine SteadyN.take (.agg (Z).toArray) rfl (fun s u hu => Hold.load_made HM.out.drew hu 1 rfl rfl rfl (quad_1 HX.out.1) (by rw [HZ.out.1]; exact row_limbs)) ?_
  simp only [Act.put, List.setIfInBounds_toArray, List.set_cons_zero, List.set_cons_succ]
  refine SteadyN.call _ _ _ rfl ?_ (SteadyN.kept RVA.out) ?_
  · intro u
    go_simp
  simp only [Act.put, List.setIfInBounds_toArray, List.set_cons_zero, List.set_cons_succ]
  refine SteadyN.take ?_ rfl (by intro s u hu; go_simp; with_reducible rfl) ?_
  simp only [Act.put, List.setIfInBounds_toArray, List.set_cons_zero, List.set_cons_succ]
  refine SteadyN.take (.agg (X).toArray) rfl (fun s u hu => Hold.load_made HM.out.drew hu 1 rfl rfl rfl (quad_0) (by rw [HX.out.1]; exact row_limbs)) ?_
  simp only [Act.put, List.setIfInBounds_toArray, List.set_cons_zero, List.set_cons_succ]
  refine SteadyN.take ?_ rfl (by intro s u hu; go_simp; with_reducible rfl) ?_
  simp only [Act.put, List.setIfInBounds_toArray, List.set_cons_zero, List.set_cons_succ]
  refine SteadyN.take (.agg (Z).toArray) rfl (fun s u hu => Hold.load_made HM.out.drew hu 1 rfl rfl rfl (quad_1 HX.out.1) (by rw [HZ.out.1]; exact row_limbs)) ?_
  simp only [Act.put, List.setIfInBounds_toArray, List.set_cons_zero, List.set_cons_succ]
  refine SteadyN.call _ _ _ rfl ?_ (SteadyN.kept RVB.out) ?_
  · intro u
    go_simp
  simp only [Act.put, List.setIfInBounds_toArray, List.set_cons_zero, List.set_cons_succ]
  refine SteadyN.nil ?_
  simp only [SteadyN.made]
  intro p1 p2 w hS
  obtain ⟨b, b, rfl, rfl, HM2⟩ := Hold.made2 HM.out.drew hS (i := 10) (j := 11) (p := p1) (q := p2) (by simp [SteadyN.upd]) (by simp [SteadyN.upd]) (by decide)
  clear HM hS
  simp only [List.nil_append, List.cons_append] at HM2
  have HM := Lib.hid HM2
  clear HM2
  simp only [Act.put, List.setIfInBounds_toArray, List.set_cons_zero, List.set_cons_succ]
  go_upto_region 2 with ((first
    | (with_reducible refine Hold.store HM.out 3 (v' := VA) rfl rfl rfl rfl rfl (by rw [Nat.zero_add, HVA.out.1, zeros5_length]; exact Nat.le_refl _) (lay_all (zeros5_length.trans HVA.out.1.symm)) (HVA.out.2) (by rw [HVA.out.1]; exact row_limbs) ?_; clear HM; intro w HM; simp only [List.set_cons_zero, List.set_cons_succ] at HM; replace HM := Lib.hid HM)
    | (with_reducible refine Hold.store HM.out 4 (v' := VB) rfl rfl rfl rfl rfl (by rw [Nat.zero_add, HVB.out.1, zeros5_length]; exact Nat.le_refl _) (lay_all (zeros5_length.trans HVB.out.1.symm)) (HVB.out.2) (by rw [HVB.out.1]; exact row_limbs) ?_; clear HM; intro w HM; simp only [List.set_cons_zero, List.set_cons_succ] at HM; replace HM := Lib.hid HM)))
  refine SteadyN.region 6 [4, 5] [0, 1, 2, 3] (by kernel_rfl) (by kernel_rfl) (SteadyN.Made _ 69 zeros5) (fun k hk o ho => by
    simp only [List.mem_cons, List.not_mem_nil, or_false] at hk
    rcases hk with rfl | rfl <;> (obtain rfl : _ = o := Option.some.inj ho; exact SteadyN.makes rfl 69 rfl _ zero_limbs5)) (SteadyN.Made.start _ _ _) ?_
  simp only [List.filterMap_cons, List.filterMap_nil, List.drop_succ_cons, List.drop_zero, List.getElem?_cons_zero, List.getElem?_cons_succ, Option.map_some]
  refine SteadyN.take (.agg (VA).toArray) rfl (fun s u hu => Hold.load_made HM.out.drew hu 3 rfl rfl rfl (Part.all _) (by rw [HVA.out.1]; exact row_limbs)) ?_
  simp only [Act.put, List.setIfInBounds_toArray, List.set_cons_zero, List.set_cons_succ]
  refine SteadyN.call _ _ _ rfl ?_ (SteadyN.kept RAA.out) ?_
  · intro u
    go_simp
  simp only [Act.put, List.setIfInBounds_toArray, List.set_cons_zero, List.set_cons_succ]
  refine SteadyN.take (.agg (VB).toArray) rfl (fun s u hu => Hold.load_made HM.out.drew hu 4 rfl rfl rfl (Part.all _) (by rw [HVB.out.1]; exact row_limbs)) ?_
  simp only [Act.put, List.setIfInBounds_toArray, List.set_cons_zero, List.set_cons_succ]
  refine SteadyN.call _ _ _ rfl ?_ (SteadyN.kept RBB.out) ?_
  · intro u
    go_simp
  simp only [Act.put, List.setIfInBounds_toArray, List.set_cons_zero, List.set_cons_succ]
  refine SteadyN.nil ?_
  simp only [SteadyN.made]
  intro p1 p2 w hS
  obtain ⟨b, b, rfl, rfl, HM2⟩ := Hold.made2 HM.out.drew hS (i := 4) (j := 5) (p := p1) (q := p2) (by simp [SteadyN.upd]) (by simp [SteadyN.upd]) (by decide)
  clear HM hS
  simp only [List.nil_append, List.cons_append] at HM2
  have HM := Lib.hid HM2
  clear HM2
  simp only [Act.put, List.setIfInBounds_toArray, List.set_cons_zero, List.set_cons_succ]
  go_upto_region 3 with ((first
    | (with_reducible refine Hold.store HM.out 5 (v' := AA) rfl rfl rfl rfl rfl (by rw [Nat.zero_add, HAA.out.1, zeros5_length]; exact Nat.le_refl _) (lay_all (zeros5_length.trans HAA.out.1.symm)) (HAA.out.2) (by rw [HAA.out.1]; exact row_limbs) ?_; clear HM; intro w HM; simp only [List.set_cons_zero, List.set_cons_succ] at HM; replace HM := Lib.hid HM)
    | (with_reducible refine Hold.store HM.out 6 (v' := BB) rfl rfl rfl rfl rfl (by rw [Nat.zero_add, HBB.out.1, zeros5_length]; exact Nat.le_refl _) (lay_all (zeros5_length.trans HBB.out.1.symm)) (HBB.out.2) (by rw [HBB.out.1]; exact row_limbs) ?_; clear HM; intro w HM; simp only [List.set_cons_zero, List.set_cons_succ] at HM; replace HM := Lib.hid HM)))
  go_upto_region 4 with ((first
    | (with_reducible refine Hold.load HM.out 5 (cs := AA) rfl rfl rfl rfl (Part.all _) (by rw [HAA.out.1]; exact row_limbs) ?_)
    | (with_reducible refine Hold.load HM.out 6 (cs := BB) rfl rfl rfl rfl (Part.all _) (by rw [HBB.out.1]; exact row_limbs) ?_)
    | (with_reducible refine (RVE.out _).mono ?_; rintro e w ⟨rfl, hb⟩; replace HM := Lib.hid (HM.out.next hb); clear hb)
    | (with_reducible refine Hold.alloc HM.out rfl rfl zeros5 zero_limbs5 ?_; clear HM; intro b w HM; simp only [List.nil_append, List.cons_append] at HM; replace HM := Lib.hid HM)
    | (with_reducible refine Hold.store HM.out 7 (v' := VE) rfl rfl rfl rfl rfl (by rw [Nat.zero_add, HVE.out.1, zeros5_length]; exact Nat.le_refl _) (lay_all (zeros5_length.trans HVE.out.1.symm)) (HVE.out.2) (by rw [HVE.out.1]; exact row_limbs) ?_; clear HM; intro w HM; simp only [List.set_cons_zero, List.set_cons_succ] at HM; replace HM := Lib.hid HM)))
  refine SteadyN.region 8 [7] [0, 1, 2, 3, 4, 5, 6] (by kernel_rfl) (by kernel_rfl) (SteadyN.Made _ 69 zeros5) (fun k hk o ho => by
    simp only [List.mem_cons, List.not_mem_nil, or_false] at hk
    subst hk <;> (obtain rfl : _ = o := Option.some.inj ho; exact SteadyN.makes rfl 69 rfl _ zero_limbs5)) (SteadyN.Made.start _ _ _) ?_
  simp only [List.filterMap_cons, List.filterMap_nil, List.drop_succ_cons, List.drop_zero, List.getElem?_cons_zero, List.getElem?_cons_succ, Option.map_some]
  refine SteadyN.take ?_ rfl (by intro s u hu; go_simp; with_reducible rfl) ?_
  simp only [Act.put, List.setIfInBounds_toArray, List.set_cons_zero, List.set_cons_succ]
  refine SteadyN.take (.agg (X').toArray) rfl (fun s u hu => Hold.load_made HM.out.drew hu 1 rfl rfl rfl (quad_2 HX.out.1 HZ.out.1) (by rw [HX'.out.1]; exact row_limbs)) ?_
  simp only [Act.put, List.setIfInBounds_toArray, List.set_cons_zero, List.set_cons_succ]
  refine SteadyN.take ?_ rfl (by intro s u hu; go_simp; with_reducible rfl) ?_
  simp only [Act.put, List.setIfInBounds_toArray, List.set_cons_zero, List.set_cons_succ]
  refine SteadyN.take (.agg (Z').toArray) rfl (fun s u hu => Hold.load_made HM.out.drew hu 1 rfl rfl rfl (quad_3 HX.out.1 HZ.out.1 HX'.out.1) (by rw [HZ'.out.1]; exact row_limbs)) ?_
  simp only [Act.put, List.setIfInBounds_toArray, List.set_cons_zero, List.set_cons_succ]
  refine SteadyN.call _ _ _ rfl ?_ (SteadyN.kept RD1.out) ?_
  · intro u
    go_simp
  simp only [Act.put, List.setIfInBounds_toArray, List.set_cons_zero, List.set_cons_succ]
  refine SteadyN.take (.agg (VA).toArray) rfl (fun s u hu => Hold.load_made HM.out.drew hu 3 rfl rfl rfl (Part.all _) (by rw [HVA.out.1]; exact row_limbs)) ?_
  simp only [Act.put, List.setIfInBounds_toArray, List.set_cons_zero, List.set_cons_succ]
  refine SteadyN.call _ _ _ rfl ?_ (SteadyN.kept RVD.out) ?_
  · intro u
    go_simp
  simp only [Act.put, List.setIfInBounds_toArray, List.set_cons_zero, List.set_cons_succ]
  refine SteadyN.nil ?_
  simp only [SteadyN.made]
  intro p1 w hS
  obtain ⟨b, rfl, HM2⟩ := Hold.made1 HM.out.drew hS (i := 7) (p := p1) (by simp [SteadyN.upd])
  clear HM hS
  simp only [List.nil_append, List.cons_append] at HM2
  have HM := Lib.hid HM2
  clear HM2
  simp only [Act.put, List.setIfInBounds_toArray, List.set_cons_zero, List.set_cons_succ]
  go_upto_region 5 with ((first
    | (with_reducible refine Hold.store HM.out 8 (v' := VD) rfl rfl rfl rfl rfl (by rw [Nat.zero_add, HVD.out.1, zeros5_length]; exact Nat.le_refl _) (lay_all (zeros5_length.trans HVD.out.1.symm)) (HVD.out.2) (by rw [HVD.out.1]; exact row_limbs) ?_; clear HM; intro w HM; simp only [List.set_cons_zero, List.set_cons_succ] at HM; replace HM := Lib.hid HM)))
  refine SteadyN.region 8 [7] [0, 1, 2, 3, 4, 5, 6] (by kernel_rfl) (by kernel_rfl) (SteadyN.Made _ 69 zeros5) (fun k hk o ho => by
    simp only [List.mem_cons, List.not_mem_nil, or_false] at hk
    subst hk <;> (obtain rfl : _ = o := Option.some.inj ho; exact SteadyN.makes rfl 69 rfl _ zero_limbs5)) (SteadyN.Made.start _ _ _) ?_
  simp only [List.filterMap_cons, List.filterMap_nil, List.drop_succ_cons, List.drop_zero, List.getElem?_cons_zero, List.getElem?_cons_succ, Option.map_some]
  refine SteadyN.take ?_ rfl (by intro s u hu; go_simp; with_reducible rfl) ?_
  simp only [Act.put, List.setIfInBounds_toArray, List.set_cons_zero, List.set_cons_succ]
  refine SteadyN.take (.agg (X').toArray) rfl (fun s u hu => Hold.load_made HM.out.drew hu 1 rfl rfl rfl (quad_2 HX.out.1 HZ.out.1) (by rw [HX'.out.1]; exact row_limbs)) ?_
  simp only [Act.put, List.setIfInBounds_toArray, List.set_cons_zero, List.set_cons_succ]
  refine SteadyN.take ?_ rfl (by intro s u hu; go_simp; with_reducible rfl) ?_
  simp only [Act.put, List.setIfInBounds_toArray, List.set_cons_zero, List.set_cons_succ]
  refine SteadyN.take (.agg (Z').toArray) rfl (fun s u hu => Hold.load_made HM.out.drew hu 1 rfl rfl rfl (quad_3 HX.out.1 HZ.out.1 HX'.out.1) (by rw [HZ'.out.1]; exact row_limbs)) ?_
  simp only [Act.put, List.setIfInBounds_toArray, List.set_cons_zero, List.set_cons_succ]
  refine SteadyN.call _ _ _ rfl ?_ (SteadyN.kept RC1.out) ?_
  · intro u
    go_simp
  simp only [Act.put, List.setIfInBounds_toArray, List.set_cons_zero, List.set_cons_succ]
  refine SteadyN.take (.agg (VB).toArray) rfl (fun s u hu => Hold.load_made HM.out.drew hu 4 rfl rfl rfl (Part.all _) (by rw [HVB.out.1]; exact row_limbs)) ?_
  simp only [Act.put, List.setIfInBounds_toArray, List.set_cons_zero, List.set_cons_succ]
  refine SteadyN.call _ _ _ rfl ?_ (SteadyN.kept RVC.out) ?_
  · intro u
    go_simp
  simp only [Act.put, List.setIfInBounds_toArray, List.set_cons_zero, List.set_cons_succ]
  refine SteadyN.nil ?_
  simp only [SteadyN.made]
  intro p1 w hS
  obtain ⟨b, rfl, HM2⟩ := Hold.made1 HM.out.drew hS (i := 7) (p := p1) (by simp [SteadyN.upd])
  clear HM hS
  simp only [List.nil_append, List.cons_append] at HM2
  have HM := Lib.hid HM2
  clear HM2
  simp only [Act.put, List.setIfInBounds_toArray, List.set_cons_zero, List.set_cons_succ]
  go_upto_region 6 with ((first
    | (with_reducible refine Hold.store HM.out 9 (v' := VC) rfl rfl rfl rfl rfl (by rw [Nat.zero_add, HVC.out.1, zeros5_length]; exact Nat.le_refl _) (lay_all (zeros5_length.trans HVC.out.1.symm)) (HVC.out.2) (by rw [HVC.out.1]; exact row_limbs) ?_; clear HM; intro w HM; simp only [List.set_cons_zero, List.set_cons_succ] at HM; replace HM := Lib.hid HM)))
  refine Steady.region 20 (by kernel_rfl) (by kernel_rfl) (fun u => Hld _ _ u) HM.out.drew ?_
  simp only [List.take_succ_cons, List.take_zero, List.drop_succ_cons, List.drop_zero]
  refine Steady.take (.agg (AA).toArray) rfl (fun u hu => Hold.load_run hu 5 rfl rfl rfl (Part.all _) (by rw [HAA.out.1]; exact row_limbs)) ?_
  simp only [Act.put, List.setIfInBounds_toArray, List.set_cons_zero, List.set_cons_succ]
  refine Steady.take (.agg (BB).toArray) rfl (fun u hu => Hold.load_run hu 6 rfl rfl rfl (Part.all _) (by rw [HBB.out.1]; exact row_limbs)) ?_
  simp only [Act.put, List.setIfInBounds_toArray, List.set_cons_zero, List.set_cons_succ]
  refine Steady.call _ _ _ rfl ?_ (Hold.kept RPX.out) ?_
  · intro u
    go_simp
  simp only [Act.put, List.setIfInBounds_toArray, List.set_cons_zero, List.set_cons_succ]
  refine Steady.take (.agg (VE).toArray) rfl (fun u hu => Hold.load_run hu 7 rfl rfl rfl (Part.all _) (by rw [HVE.out.1]; exact row_limbs)) ?_
  simp only [Act.put, List.setIfInBounds_toArray, List.set_cons_zero, List.set_cons_succ]
  refine Steady.take (.agg (AA).toArray) rfl (fun u hu => Hold.load_run hu 5 rfl rfl rfl (Part.all _) (by rw [HAA.out.1]; exact row_limbs)) ?_
  simp only [Act.put, List.setIfInBounds_toArray, List.set_cons_zero, List.set_cons_succ]
  refine Steady.take (.agg (VE).toArray) rfl (fun u hu => Hold.load_run hu 7 rfl rfl rfl (Part.all _) (by rw [HVE.out.1]; exact row_limbs)) ?_
  simp only [Act.put, List.setIfInBounds_toArray, List.set_cons_zero, List.set_cons_succ]
  refine Steady.call _ _ _ rfl ?_ (Hold.kept RS1.out) ?_
  · intro u
    go_simp
  simp only [Act.put, List.setIfInBounds_toArray, List.set_cons_zero, List.set_cons_succ]
  refine Steady.call _ _ _ rfl ?_ (Hold.kept RT1.out) ?_
  · intro u
    go_simp
  simp only [Act.put, List.setIfInBounds_toArray, List.set_cons_zero, List.set_cons_succ]
  refine Steady.call _ _ _ rfl ?_ (Hold.kept RPZ.out) ?_
  · intro u
    go_simp
  simp only [Act.put, List.setIfInBounds_toArray, List.set_cons_zero, List.set_cons_succ]
  refine Steady.take (.agg (VD).toArray) rfl (fun u hu => Hold.load_run hu 8 rfl rfl rfl (Part.all _) (by rw [HVD.out.1]; exact row_limbs)) ?_
  simp only [Act.put, List.setIfInBounds_toArray, List.set_cons_zero, List.set_cons_succ]
  refine Steady.take (.agg (VC).toArray) rfl (fun u hu => Hold.load_run hu 9 rfl rfl rfl (Part.all _) (by rw [HVC.out.1]; exact row_limbs)) ?_
  simp only [Act.put, List.setIfInBounds_toArray, List.set_cons_zero, List.set_cons_succ]
  refine Steady.call _ _ _ rfl ?_ (Hold.kept RU1.out) ?_
  · intro u
    go_simp
  simp only [Act.put, List.setIfInBounds_toArray, List.set_cons_zero, List.set_cons_succ]
  refine Steady.call _ _ _ rfl ?_ (Hold.kept RQX.out) ?_
  · intro u
    go_simp
  simp only [Act.put, List.setIfInBounds_toArray, List.set_cons_zero, List.set_cons_succ]
  refine Steady.take (.agg (Y).toArray) rfl (fun u hu => Hold.load_run hu 0 rfl rfl rfl (Part.all _) (by rw [HY.out.1]; exact row_limbs)) ?_
  simp only [Act.put, List.setIfInBounds_toArray, List.set_cons_zero, List.set_cons_succ]
  refine Steady.take (.agg (VD).toArray) rfl (fun u hu => Hold.load_run hu 8 rfl rfl rfl (Part.all _) (by rw [HVD.out.1]; exact row_limbs)) ?_
  simp only [Act.put, List.setIfInBounds_toArray, List.set_cons_zero, List.set_cons_succ]
  refine Steady.take (.agg (VC).toArray) rfl (fun u hu => Hold.load_run hu 9 rfl rfl rfl (Part.all _) (by rw [HVC.out.1]; exact row_limbs)) ?_
  simp only [Act.put, List.setIfInBounds_toArray, List.set_cons_zero, List.set_cons_succ]
  refine Steady.call _ _ _ rfl ?_ (Hold.kept RW1.out) ?_
  · intro u
    go_simp
  simp only [Act.put, List.setIfInBounds_toArray, List.set_cons_zero, List.set_cons_succ]
  refine Steady.call _ _ _ rfl ?_ (Hold.kept RW2.out) ?_
  · intro u
    go_simp
  simp only [Act.put, List.setIfInBounds_toArray, List.set_cons_zero, List.set_cons_succ]
  refine Steady.call _ _ _ rfl ?_ (Hold.kept RQZ.out) ?_
  · intro u
    go_simp
  simp only [Act.put, List.setIfInBounds_toArray, List.set_cons_zero, List.set_cons_succ]
  refine Steady.take (.agg (quad PX PZ QX QZ).toArray) rfl (fun u hu => Hold.build_run rfl (by simp [Act.eval]; exact HBQ.out)) ?_
  simp only [Act.put, List.setIfInBounds_toArray, List.set_cons_zero, List.set_cons_succ]
  refine Steady.nil ?_
  clear HM
  intro w HM
  replace HM := Lib.hid HM
  have HQL := Lib.hid (quad_length HPX.out.1 HPZ.out.1 HQX.out.1 HQZ.out.1)
  go_wp2_with ((first
    | (with_reducible refine Hold.store HM.out 2 (v' := quad PX PZ QX QZ) rfl rfl rfl rfl rfl (by rw [Nat.zero_add, HQL.out, zeros20_length]; exact Nat.le_refl _) (lay_all (zeros20_length.trans HQL.out.symm)) (single_quad HPX.out.2 HPZ.out.2 HQX.out.2 HQZ.out.2) (by rw [HQL.out]; exact row_quad) ?_; clear HM; intro w HM; simp only [List.set_cons_zero, List.set_cons_succ] at HM; replace HM := Lib.hid HM)))
  exact bodyPost_ret (Hold.results1 HM.out 2 rfl _ rfl rfl (by rw [HQL.out]; exact row_quad)) rfl ⟨rfl, HM.out.below⟩

theorem step_some {A B C D Y : List Value} {s : St} {N : Nat} (h : Four A B C D s) (hY : LimL Y N) :
    ∃ A' B' C' D', Four A' B' C' D' (rungN N s) ∧ ∀ u, Calls Tryz.prog 111 #[.agg Y.toArray, .agg (quad A B C D).toArray] u fun r w' => r = .returned (.agg (quad A' B' C' D').toArray) ∧ Below u.heap.size u w' :=
  ⟨_, _, _, _, ⟨LimL.ofMod _, LimL.ofMod _, LimL.ofMod _, LimL.ofMod _⟩, fun u => step_any h hY u⟩
theorem swaps_some {A B C D : List Value} {s : St} {n : Nat} (h : Four A B C D s) (hn : n < 9223372036854775808) :
    ∃ A' B' C' D', Four A' B' C' D' (exch n s) ∧ (∀ u, Calls Tryz.prog 110 #[.agg A.toArray, .agg C.toArray, .int .i64 n] u fun r w' => r = .returned (.tuple #[.agg A'.toArray, .agg C'.toArray]) ∧ Below u.heap.size u w') ∧
      ∀ u, Calls Tryz.prog 110 #[.agg B.toArray, .agg D.toArray, .int .i64 n] u fun r w' => r = .returned (.tuple #[.agg B'.toArray, .agg D'.toArray]) ∧ Below u.heap.size u w' := by
  have R := fun u => swaps_l h.a h.c hn u
  have Q := fun u => swaps_l h.b h.d hn u
  unfold exch
  by_cases e : n % 2 = 1
  · simp only [if_pos e] at R Q ⊢
    exact ⟨C, D, A, B, ⟨h.c, h.d, h.a, h.b⟩, R, Q⟩
  · simp only [if_neg e] at R Q ⊢
    exact ⟨A, B, C, D, h, R, Q⟩
/-- The bit that was gone through last. -/
def lst (s : ByteArray) : Nat → Nat
  | 0 => 0
  | k + 1 => bt s (254 - k)
theorem lst_lt (s : ByteArray) (k : Nat) : lst s k < 2 := by
  cases k with
  | zero => exact (show 0 < 2 by decide)
  | succ k => exact bt_lt s _
theorem xor_lt2 (a b : Nat) (ha : a < 2) (hb : b < 2) : a ^^^ b < 2 := by
  have h1 : a = 0 ∨ a = 1 := by omega
  have h2 : b = 0 ∨ b = 1 := by omega
  rcases h1 with rfl | rfl <;> rcases h2 with rfl | rfl <;> decide

set_option maxHeartbeats 6400000 in
theorem ladder_ref {Y : List Value} {N : Nat} (s : ByteArray) (hY : LimL Y N) (hs : s.size ≤ 140737488351232) (w0 : World) :
    Calls Tryz.prog 82 #[.string s, .agg Y.toArray] w0 fun r w' => r = .returned (.agg (limL (ladder (bt s) N)).toArray) ∧ Below w0.heap.size w0 w' := by
  have hb := fun (k : Nat) (hk : k < 255) u => show Calls Tryz.prog 109 #[.string s, .int .i64 (254 - (k : Int))] u fun e w' => e = .returned (.int .i64 (bt s (254 - k) : Nat)) ∧ u = w' by
    have := RefOne.bit_any s ((254 - k : Nat) : Int) u (by omega) (by omega) hs
    unfold bt
    rw [show ((254 - k : Nat) : Int) = 254 - (k : Int) by omega] at this ⊢
    exact this
  have HBIT := Lib.hid hb
  have HY := Lib.hid (show Y.length = 5 ∧ Single Y from ⟨hY.len, hY.one⟩)
  have LY := Lib.hid hY
  obtain ⟨O, hO⟩ : ∃ O, O = LadC.one5 := ⟨_, rfl⟩
  obtain ⟨Q, hQ⟩ : ∃ O, O = zeros5 := ⟨_, rfl⟩
  have lO : LimL O 1 := by rw [hO]; exact LadC.one5_l
  have lQ : LimL Q 0 := by rw [hQ]; exact zeros5_l
  have bO : Tryz.prog.built 69 [(0, .int .u64 1)] = some O.toArray := by rw [hO]; exact LadC.built_one
  have bQ : Tryz.prog.built 69 [] = some Q.toArray := by rw [hQ]; exact built_zero5
  have HO := Lib.hid (show O.length = 5 ∧ Single O from ⟨lO.len, lO.one⟩)
  have HZ := Lib.hid (show Q.length = 5 ∧ Single Q from ⟨lQ.len, lQ.one⟩)
  have F0 := Lib.hid (show Four O Q Y O (exch (lst s 0) (ladN (bt s) N 0)) from ⟨lO, lQ, hY, lO⟩)
  have BO := Lib.hid bO
  have BQ := Lib.hid bQ
  have HBQ := Lib.hid (built_quad lO lQ hY lO)
  have HQ0 := Lib.hid (quad_length lO.len lQ.len hY.len lO.len)
  have SQ0 := Lib.hid (single_quad lO.one lQ.one hY.one lO.one)
  have HM := Lib.hid (Hld.start w0)
  clear hb hY hs hO hQ lO lQ bO bQ
  go_enter Tryz.func82, Tryz.ntmps82
  go_upto_region 1 with ((first
    | (with_reducible refine Hold.box HM.out rfl rfl rfl ?_; clear HM; intro bx w HM; simp only [List.nil_append] at HM; replace HM := Lib.hid HM)
    | (with_reducible refine Hold.alloc HM.out rfl rfl zeros5 zero_limbs5 ?_; clear HM; intro br w HM; simp only [List.nil_append, List.cons_append] at HM; replace HM := Lib.hid HM)))
  go_upto_region 2 with ((first
    | (with_reducible refine Hold.build (t := 69) (parts := #[(0, .const (.int .u64 1))]) (cs := O) rfl rfl ?_ ?_; focus (simp [Act.eval, Act.put]; exact BO.out))
    | (with_reducible refine Hold.build (t := 69) (parts := #[]) (cs := Q) rfl rfl ?_ ?_; focus (simpa using BQ.out))
    | (with_reducible refine Hold.load HM.out 0 (cs := Y) rfl rfl rfl rfl (Part.all _) (by rw [HY.out.1]; exact row_limbs) ?_)
    | (with_reducible refine Hold.build (t := 128) (cs := quad O Q Y O) rfl rfl ?_ ?_; focus (simp [Act.eval, Act.put]; exact HBQ.out))
    | (with_reducible refine Hold.alloc HM.out rfl rfl zeros20 zero_quad ?_; clear HM; intro bp w HM; simp only [List.nil_append, List.cons_append] at HM; replace HM := Lib.hid HM)
    | (with_reducible refine Hold.store HM.out 2 (v' := quad O Q Y O) rfl rfl rfl rfl rfl (by rw [Nat.zero_add, HQ0.out, zeros20_length]; exact Nat.le_refl _) (lay_all (zeros20_length.trans HQ0.out.symm)) (SQ0.out) (by rw [HQ0.out]; exact row_quad) ?_; clear HM; intro w HM; simp only [List.set_cons_zero, List.set_cons_succ] at HM; replace HM := Lib.hid HM)))
  go_wp2
  go_loopw [6, 7, 8] (fun l i _ wr => ∃ k : Nat, k ≤ 255 ∧ i = .int .i64 (254 - (k : Int)) ∧ l = .int .i64 ((lst s k : Nat) : Int) ∧ ∃ A B C D, Four A B C D (exch (lst s k) (ladN (bt s) N k)) ∧ Hld w0 [⟨bx, 69, Y⟩, ⟨br, 69, zeros5⟩, ⟨bp, 128, quad A B C D⟩] wr) (fun _ i _ _ => (intOf i + 1).toNat)
  case atStart => exact ⟨0, by omega, rfl, rfl, O, Q, Y, O, F0.out, HM.out⟩
  case round =>
    obtain ⟨k, hk5, rfl, rfl, A, B, C, D, hf, hm⟩ := hrel
    clear HM F0 HBQ HQ0 HO HZ BO BQ SQ0
    have HM := Lib.hid hm
    have HA := Lib.hid (show A.length = 5 from hf.a.len)
    have HB := Lib.hid (show B.length = 5 from hf.b.len)
    have HC := Lib.hid (show C.length = 5 from hf.c.len)
    have HD := Lib.hid (show D.length = 5 from hf.d.len)
    clear hm
    have hl2 := lst_lt s k
    by_cases hlt : k < 255
    · have hd2 : decide ((0 : Int) ≤ 254 - (k : Int)) = true := by simp; omega
      have hd2' : decide ((k : Int) ≤ 254) = true := by simp; omega
      have ik : (k : Int) ≤ 254 := by omega
      obtain ⟨b, hb⟩ : ∃ b, b = bt s (254 - k) := ⟨_, rfl⟩
      have hb2 : b < 2 := by rw [hb]; exact bt_lt s _
      obtain ⟨l, hl⟩ : ∃ l, l = lst s k := ⟨_, rfl⟩
      rw [← hl] at hf hl2
      rw [← hl]
      have hx2 := xor_lt2 l b hl2 hb2
      have hxx : bits .xor .i64 (l : Int) (b : Int) = ((l ^^^ b : Nat) : Int) := xor_i64_nat l b (by omega) (by omega)
      have hexch := exch_xor l b hl2 hb2 (ladN (bt s) N k)
      obtain ⟨A2, B2, C2, D2, f2, r1, r2⟩ := swaps_some (n := l ^^^ b) hf (by omega)
      rw [hexch] at f2
      obtain ⟨A3, B3, C3, D3, f3, r3⟩ := step_some f2 LY.out
      have hnext : rungN N (exch b (ladN (bt s) N k)) = exch (lst s (k + 1)) (ladN (bt s) N (k + 1)) := by
        show _ = exch (bt s (254 - k)) (exch (bt s (254 - k)) (rungN N (exch (bt s (254 - k)) (ladN (bt s) N k))))
        rw [← hb, exch_exch]
      rw [hnext] at f3
      have hlst : lst s (k + 1) = b := by rw [hb]; rfl
      have rb := fun u => HBIT.out k hlt u
      rw [← hb] at rb
      obtain ⟨x, hx⟩ : ∃ x, x = l ^^^ b := ⟨_, rfl⟩
      rw [← hx] at hxx r1 r2
      have RB := Lib.hid rb
      have R1 := Lib.hid r1
      have R2 := Lib.hid r2
      have R3 := Lib.hid r3
      have F3 := Lib.hid f3
      have HLST := Lib.hid hlst
      have XX := Lib.hid hxx
      have HA2 := Lib.hid (show A2.length = 5 ∧ Single A2 from ⟨f2.a.len, f2.a.one⟩)
      have HB2 := Lib.hid (show B2.length = 5 ∧ Single B2 from ⟨f2.b.len, f2.b.one⟩)
      have HC2 := Lib.hid (show C2.length = 5 ∧ Single C2 from ⟨f2.c.len, f2.c.one⟩)
      have HD2 := Lib.hid (show D2.length = 5 ∧ Single D2 from ⟨f2.d.len, f2.d.one⟩)
      have HQ3 := Lib.hid (quad_length f3.a.len f3.b.len f3.c.len f3.d.len)
      have SQ3 := Lib.hid (single_quad f3.a.one f3.b.one f3.c.one f3.d.one)
      have HQ2 := Lib.hid (quad_length f2.a.len f2.b.len f2.c.len f2.d.len)
      clear hf hl2 hb hb2 hl hx2 hexch f2 r1 r2 r3 f3 hnext hlst rb hx hxx
      go_upto_region 7 with ((first
        | (with_reducible refine (RB.out _).mono ?_; rintro e w ⟨rfl, rfl⟩)))
      have hxx := XX.out
      go_upto_region 8 with ((first
        | (with_reducible refine Hold.load HM.out 2 (cs := A) rfl rfl rfl rfl (quad_0) (by rw [HA.out]; exact row_limbs) ?_)
        | (with_reducible refine Hold.load HM.out 2 (cs := C) rfl rfl rfl rfl (quad_2 HA.out HB.out) (by rw [HC.out]; exact row_limbs) ?_)
        | (with_reducible refine (R1.out _).mono ?_; rintro e w ⟨rfl, hb⟩; replace HM := Lib.hid (HM.out.next hb); clear hb)
        | (with_reducible refine Hold.store HM.out 2 (v' := quad A2 B C D) rfl rfl rfl rfl rfl (by rw [HA2.out.1, quad_length HA.out HB.out HC.out HD.out]; decide) (lay_0 (HA.out.trans HA2.out.1.symm)) (HA2.out.2) (by rw [HA2.out.1]; exact row_limbs) ?_; clear HM; intro w HM; simp only [List.set_cons_zero, List.set_cons_succ] at HM; replace HM := Lib.hid HM)
        | (with_reducible refine Hold.store HM.out 2 (v' := quad A2 B C2 D) rfl rfl rfl rfl rfl (by rw [HC2.out.1, quad_length HA2.out.1 HB.out HC.out HD.out]; decide) (lay_2 HA2.out.1 HB.out (HC.out.trans HC2.out.1.symm)) (HC2.out.2) (by rw [HC2.out.1]; exact row_limbs) ?_; clear HM; intro w HM; simp only [List.set_cons_zero, List.set_cons_succ] at HM; replace HM := Lib.hid HM)))
      go_upto_region 9 with ((first
        | (with_reducible refine Hold.load HM.out 2 (cs := B) rfl rfl rfl rfl (quad_1 HA2.out.1) (by rw [HB.out]; exact row_limbs) ?_)
        | (with_reducible refine Hold.load HM.out 2 (cs := D) rfl rfl rfl rfl (quad_3 HA2.out.1 HB.out HC2.out.1) (by rw [HD.out]; exact row_limbs) ?_)
        | (with_reducible refine (R2.out _).mono ?_; rintro e w ⟨rfl, hb⟩; replace HM := Lib.hid (HM.out.next hb); clear hb)
        | (with_reducible refine Hold.store HM.out 2 (v' := quad A2 B2 C2 D) rfl rfl rfl rfl rfl (by rw [HB2.out.1, quad_length HA2.out.1 HB.out HC2.out.1 HD.out]; decide) (lay_1 HA2.out.1 (HB.out.trans HB2.out.1.symm)) (HB2.out.2) (by rw [HB2.out.1]; exact row_limbs) ?_; clear HM; intro w HM; simp only [List.set_cons_zero, List.set_cons_succ] at HM; replace HM := Lib.hid HM)
        | (with_reducible refine Hold.store HM.out 2 (v' := quad A2 B2 C2 D2) rfl rfl rfl rfl rfl (by rw [HD2.out.1, quad_length HA2.out.1 HB2.out.1 HC2.out.1 HD.out]; decide) (lay_3 HA2.out.1 HB2.out.1 HC2.out.1 (HD.out.trans HD2.out.1.symm)) (HD2.out.2) (by rw [HD2.out.1]; exact row_limbs) ?_; clear HM; intro w HM; simp only [List.set_cons_zero, List.set_cons_succ] at HM; replace HM := Lib.hid HM)))
      clear hxx
      go_upto_region 5 with ((first
        | (with_reducible refine Hold.load HM.out 0 (cs := Y) rfl rfl rfl rfl (Part.all _) (by rw [HY.out.1]; exact row_limbs) ?_)
        | (with_reducible refine Hold.load HM.out 2 (cs := quad A2 B2 C2 D2) rfl rfl rfl rfl (Part.all _) (by rw [HQ2.out]; exact row_quad) ?_)
        | (with_reducible refine (R3.out _).mono ?_; rintro e w ⟨rfl, hb⟩; replace HM := Lib.hid (HM.out.next hb); clear hb)
        | (with_reducible refine Hold.store HM.out 2 (v' := quad A3 B3 C3 D3) rfl rfl rfl rfl rfl (by rw [Nat.zero_add, HQ3.out, HQ2.out]; exact Nat.le_refl _) (lay_all (HQ2.out.trans HQ3.out.symm)) (SQ3.out) (by rw [HQ3.out]; exact row_quad) ?_; clear HM; intro w HM; simp only [List.set_cons_zero, List.set_cons_succ] at HM; replace HM := Lib.hid HM)))
      go_wp2
      go_roundw
      case rel => exact ⟨k + 1, by omega, by go_num, by rw [HLST.out], A3, B3, C3, D3, F3.out, HM.out⟩
      case measure => simp [intOf]; omega
    · have hd2 : decide ((0 : Int) ≤ 254 - (k : Int)) = false := by simp; omega
      have hd2' : decide ((k : Int) ≤ 254) = false := by simp; omega
      obtain rfl : k = 255 := by omega
      obtain ⟨l, hl⟩ : ∃ l, l = lst s 255 := ⟨_, rfl⟩
      rw [← hl] at hf hl2
      rw [← hl]
      obtain ⟨A2, B2, C2, D2, f2, r1, r2⟩ := swaps_some (n := l) hf (by omega)
      rw [exch_exch] at f2
      have ri := fun u => inverted_l f2.b u
      obtain ⟨V, hV, lV⟩ : ∃ V, V = limL ((ladN (bt s) N 255).b ^ (Prime.P - 2) % Prime.P) ∧ LimL V _ := ⟨_, rfl, LimL.ofMod _⟩
      rw [← hV] at ri
      have rt := fun u => prod_l f2.a lV u
      obtain ⟨W, hW, lW⟩ : ∃ V, V = limL (ladder (bt s) N) ∧ LimL V _ := ⟨_, rfl, LimL.ofMod _⟩
      change ∀ u, Calls _ _ _ u fun r w' => r = .returned (.agg (limL (ladder (bt s) N)).toArray) ∧ _ at rt
      rw [← hW] at rt
      have RI := Lib.hid ri
      have RT := Lib.hid rt
      have HWE := Lib.hid hW
      have HW := Lib.hid (show W.length = 5 ∧ Single W from ⟨lW.len, lW.one⟩)
      have R1 := Lib.hid r1
      have R2 := Lib.hid r2
      have HA2 := Lib.hid (show A2.length = 5 ∧ Single A2 from ⟨f2.a.len, f2.a.one⟩)
      have HB2 := Lib.hid (show B2.length = 5 ∧ Single B2 from ⟨f2.b.len, f2.b.one⟩)
      clear hf hl hl2 f2 r1 r2 ri hV lV rt hW lW
      go_upto_region 12 with ((first
        | (with_reducible refine Hold.load HM.out 2 (cs := A) rfl rfl rfl rfl (quad_0) (by rw [HA.out]; exact row_limbs) ?_)
        | (with_reducible refine Hold.load HM.out 2 (cs := C) rfl rfl rfl rfl (quad_2 HA.out HB.out) (by rw [HC.out]; exact row_limbs) ?_)
        | (with_reducible refine (R1.out _).mono ?_; rintro e w ⟨rfl, hb⟩; replace HM := Lib.hid (HM.out.next hb); clear hb)
        | (with_reducible refine Hold.store HM.out 2 (v' := quad A2 B C D) rfl rfl rfl rfl rfl (by rw [HA2.out.1, quad_length HA.out HB.out HC.out HD.out]; decide) (lay_0 (HA.out.trans HA2.out.1.symm)) (HA2.out.2) (by rw [HA2.out.1]; exact row_limbs) ?_; clear HM; intro w HM; simp only [List.set_cons_zero, List.set_cons_succ] at HM; replace HM := Lib.hid HM)))
      go_upto_region 13 with ((first
        | (with_reducible refine Hold.load HM.out 2 (cs := B) rfl rfl rfl rfl (quad_1 HA2.out.1) (by rw [HB.out]; exact row_limbs) ?_)
        | (with_reducible refine Hold.load HM.out 2 (cs := D) rfl rfl rfl rfl (quad_3 HA2.out.1 HB.out HC.out) (by rw [HD.out]; exact row_limbs) ?_)
        | (with_reducible refine (R2.out _).mono ?_; rintro e w ⟨rfl, hb⟩; replace HM := Lib.hid (HM.out.next hb); clear hb)
        | (with_reducible refine Hold.store HM.out 2 (v' := quad A2 B2 C D) rfl rfl rfl rfl rfl (by rw [HB2.out.1, quad_length HA2.out.1 HB.out HC.out HD.out]; decide) (lay_1 HA2.out.1 (HB.out.trans HB2.out.1.symm)) (HB2.out.2) (by rw [HB2.out.1]; exact row_limbs) ?_; clear HM; intro w HM; simp only [List.set_cons_zero, List.set_cons_succ] at HM; replace HM := Lib.hid HM)))
      refine Steady.region 6 (by kernel_rfl) (by kernel_rfl) (fun u => Hld _ _ u) HM.out.drew ?_
      simp only [List.take_succ_cons, List.take_zero, List.drop_succ_cons, List.drop_zero]
      refine Steady.take ?_ rfl (by intro u hu; go_simp; with_reducible rfl) ?_
      simp only [Act.put, List.setIfInBounds_toArray, List.set_cons_zero, List.set_cons_succ]
      refine Steady.take (.agg (A2).toArray) rfl (fun u hu => Hold.load_run hu 2 rfl rfl rfl (quad_0) (by rw [HA2.out.1]; exact row_limbs)) ?_
      simp only [Act.put, List.setIfInBounds_toArray, List.set_cons_zero, List.set_cons_succ]
      refine Steady.take ?_ rfl (by intro u hu; go_simp; with_reducible rfl) ?_
      simp only [Act.put, List.setIfInBounds_toArray, List.set_cons_zero, List.set_cons_succ]
      refine Steady.take (.agg (B2).toArray) rfl (fun u hu => Hold.load_run hu 2 rfl rfl rfl (quad_1 HA2.out.1) (by rw [HB2.out.1]; exact row_limbs)) ?_
      simp only [Act.put, List.setIfInBounds_toArray, List.set_cons_zero, List.set_cons_succ]
      refine Steady.call _ _ _ rfl ?_ (Hold.kept RI.out) ?_
      · intro u
        go_simp
      simp only [Act.put, List.setIfInBounds_toArray, List.set_cons_zero, List.set_cons_succ]
      refine Steady.call _ _ _ rfl ?_ (Hold.kept RT.out) ?_
      · intro u
        go_simp
      simp only [Act.put, List.setIfInBounds_toArray, List.set_cons_zero, List.set_cons_succ]
      refine Steady.nil ?_
      clear HM
      intro w HM
      replace HM := Lib.hid HM
      go_wp2_with ((first
        | (with_reducible refine Hold.store HM.out 1 (v' := W) rfl rfl rfl rfl rfl (by rw [Nat.zero_add, HW.out.1, zeros5_length]; exact Nat.le_refl _) (lay_all (zeros5_length.trans HW.out.1.symm)) (HW.out.2) (by rw [HW.out.1]; exact row_limbs) ?_; clear HM; intro w HM; simp only [List.set_cons_zero, List.set_cons_succ] at HM; replace HM := Lib.hid HM)))
      exact bodyPost_ret (Hold.results1 HM.out 1 rfl _ rfl rfl (by rw [HW.out.1]; exact row_limbs)) rfl ⟨by rw [HWE.out], HM.out.below⟩
end Go.Proofs.YtolmfimpaofefaaGreatDoor.RefLad

namespace Go.Proofs.YtolmfimpaofefaaGreatDoor.RefLad
open Go.RowKit Mur Lanes Limb Hold Lad LadC RefLimb
set_option maxRecDepth 100000

theorem row_byte {w : World} {b : Nat} {L : List UInt8} (h : Row w b (bytesV L)) {i : Nat} (hi : i < L.length) : w.cell? ⟨b, i, none⟩ = some (.int .u8 ((L.getD i 0).toNat : Int)) := by
  rw [h.cell (bytesV_at hi)]
  simp [List.getD, hi]
theorem zeroT_conv (u : World) : (convert 78 9 (.slice (some ⟨u.heap.size, 0, none⟩) 32 32)).run Tryz.prog (u.alloc (.cells (zeroV 32).toArray 5)) = .ok (.string zeroT) (u.alloc (.cells (zeroV 32).toArray 5)) :=
  string_row (P := Tryz.prog) (Whole.made u 5 (zeroV 32)).row 78 5 9 Tryz.underlying78 Tryz.underlying5 Tryz.underlying9 32 32 (by simp)
theorem zeroT_make (u : World) : (Instr.makeSlice 78 (.int .i64 32) (.int .i64 32)).run Tryz.prog u = .ok (.slice (some ⟨u.heap.size, 0, none⟩) 32 32) (u.alloc (.cells (zeroV 32).toArray 5)) := by
  have := make_u8 u 32 (by omega)
  rw [made_cells 32] at this
  exact this

set_option maxHeartbeats 1600000 in
theorem clamp_ref (s : ByteArray) (w0 : World) (hs : s.size ≤ 140737488351232) :
    Calls Tryz.prog 83 #[.string s] w0 fun r w' => r = .returned (.string (clampT s)) ∧ Below w0.heap.size w0 w' := by
  obtain ⟨Z, hZ⟩ : ∃ Z, Z = zeroT := ⟨_, rfl⟩
  obtain ⟨p, hp⟩ : ∃ p, p = (s ++ Z).extract 0 32 := ⟨_, rfl⟩
  have hpl : p.data.toList = pad s.data.toList := by
    rw [hp, hZ]
    simp [pad, zeroT, ByteArray.data_extract, Array.toList_extract, List.take_append]
  have hZs : Z.size = 32 := by rw [hZ]; rfl
  have hmk := fun u => zeroT_make u
  have hcv := fun u => zeroT_conv u
  rw [← hZ] at hcv
  have cat : ¬ 9223372036854775807 < s.size + Z.size := by omega
  have i32 : (32 : Int) ≤ ((s ++ Z).size : Int) := by rw [ByteArray.size_append]; omega
  obtain ⟨L, hL⟩ : ∃ L, L = pad s.data.toList := ⟨_, rfl⟩
  have hL5 : L.length = 32 := by rw [hL]; exact pad_length _
  have hps : p.size = 32 := by
    have : p.data.toList.length = 32 := by rw [hpl]; exact pad_length _
    exact this
  obtain ⟨x, hx⟩ : ∃ x, x = L.getD 0 0 := ⟨_, rfl⟩
  obtain ⟨y, hy⟩ : ∃ x, x = L.getD 31 0 := ⟨_, rfl⟩
  have hres : clampT s = ⟨((L.set 0 (x &&& 248)).set 31 (y &&& 127 ||| 64)).toArray⟩ := by rw [hx, hy, hL]; rfl
  obtain ⟨x1, hx1⟩ : ∃ z, z = x &&& 248 := ⟨_, rfl⟩
  obtain ⟨y1, hy1⟩ : ∃ z, z = y &&& 127 := ⟨_, rfl⟩
  obtain ⟨y2, hy2⟩ : ∃ z, z = y1 ||| 64 := ⟨_, rfl⟩
  have e1 : bits .and .u8 (x.toNat : Int) 248 = (x1.toNat : Int) := by rw [hx1]; exact and_u8 x 248
  have e2 : bits .and .u8 (y.toNat : Int) 127 = (y1.toNat : Int) := by rw [hy1]; exact and_u8 y 127
  have e3 : bits .or .u8 (y1.toNat : Int) 64 = (y2.toNat : Int) := by rw [hy2]; exact or_u8 y1 64
  rw [hres, ← hx1, ← hy1, ← hy2]
  obtain ⟨cap, w1, hcap, hconv, hrow, hbel⟩ := conv_row (P := Tryz.prog) (w0.alloc (.cells (zeroV 32).toArray 5)) 9 78 5 p Tryz.underlying9 Tryz.underlying78 Tryz.underlying5
  have hwz : (w0.alloc (.cells (zeroV 32).toArray 5)).heap.size = w0.heap.size + 1 := by simp
  rw [hwz, hps] at hconv
  rw [hwz, hpl, ← hL] at hrow
  have hb1 : Below w0.heap.size w0 w1 := ((Below.refl _ _).alloc (Nat.le_refl _) _).trans (hbel.mono (by simp))
  have HROW := Lib.hid hrow
  have HB1 := Lib.hid hb1
  have HP := Lib.hid hp
  have H5 := Lib.hid hL5
  have HX := Lib.hid hx
  have HY := Lib.hid hy
  have E1 := Lib.hid e1
  have E2 := Lib.hid e2
  have E3 := Lib.hid e3
  rw [hp] at hconv
  clear hZ hp hpl hZs hL hL5 hps hx hy hres hx1 hy1 hy2 e1 e2 e3 hcap hrow hbel hwz hb1 hs
  go_enter Tryz.func83, Tryz.ntmps83
  go_upto_region 2 with (fail)
  clear hmk hcv cat i32 hconv
  have l0 : 0 < L.length := by rw [H5.out]; decide
  have c0 := row_byte HROW.out l0
  have f0 := HROW.out.free (i := 0) (by rw [bytesV_length]; exact l0)
  rw [← HX.out] at c0
  have e1 := E1.out
  have HR2 := Lib.hid (show Row (w1.setCell ⟨w0.heap.size + 1, 0, none⟩ (.int .u8 (x1.toNat : Int))) (w0.heap.size + 1) (bytesV (L.set 0 x1)) by rw [← bytesV_set]; exact HROW.out.set 0 _)
  have HB2 := Lib.hid (HB1.out.setCell (p := ⟨w0.heap.size + 1, 0, none⟩) (by show w0.heap.size ≤ w0.heap.size + 1; omega) (.int .u8 (x1.toNat : Int)))
  clear l0 HROW HB1
  go_upto_region 3 with (fail)
  clear c0 f0 e1
  generalize w1.setCell ⟨w0.heap.size + 1, 0, none⟩ (.int .u8 (x1.toNat : Int)) = w2 at *
  have l31 : 31 < (L.set 0 x1).length := by rw [List.length_set, H5.out]; decide
  have c1 := row_byte HR2.out l31
  have f1 := HR2.out.free (i := 31) (by rw [bytesV_length]; exact l31)
  rw [List.getD, List.getElem?_set_ne (by decide), ← List.getD, ← HY.out] at c1
  have e2 := E2.out
  have e3 := E3.out
  have HR3 := Lib.hid (show Row (w2.setCell ⟨w0.heap.size + 1, 31, none⟩ (.int .u8 (y2.toNat : Int))) (w0.heap.size + 1) (bytesV ((L.set 0 x1).set 31 y2)) by rw [← bytesV_set]; exact HR2.out.set 31 _)
  have HB3 := Lib.hid (HB2.out.setCell (p := ⟨w0.heap.size + 1, 31, none⟩) (by show w0.heap.size ≤ w0.heap.size + 1; omega) (.int .u8 (y2.toNat : Int)))
  clear l31 HR2 HB2
  go_upto_region 4 with (fail)
  clear c1 f1 e2 e3
  generalize w2.setCell ⟨w0.heap.size + 1, 31, none⟩ (.int .u8 (y2.toNat : Int)) = w3 at *
  have hback := string_row (P := Tryz.prog) HR3.out 78 5 9 Tryz.underlying78 Tryz.underlying5 Tryz.underlying9 32 cap (by rw [List.length_set, List.length_set, H5.out])
  go_wp2
  go_ret
  exact ⟨rfl, HB3.out⟩

set_option maxHeartbeats 1600000 in
theorem times_err (s p : ByteArray) (w0 : World) (h : ¬ (s.size = 32 ∧ p.size = 32)) :
    Calls Tryz.prog 61 #[.string s, .string p] w0 fun r w' => r = .returned (.tuple #[.string ⟨#[]⟩, .int .i64 1]) ∧ Below w0.heap.size w0 w' := by
  by_cases h1 : s.size = 32
  · have h2 : p.size ≠ 32 := fun e => h ⟨h1, e⟩
    have d1' : ((s.size : Int) != 32) = false := by simp; omega
    have d2' : ((p.size : Int) != 32) = true := by simp; omega
    clear h h1 h2
    go_enter Tryz.func61, Tryz.ntmps61
    go_wp2
    refine bodyPost_ret (v := .tuple #[.string ⟨#[]⟩, .int .i64 1]) (by simp [results, Tryz.results61, go_sem]) rfl ⟨rfl, Below.refl _ _⟩
  · have d1' : ((s.size : Int) != 32) = true := by simp; omega
    clear h h1
    go_enter Tryz.func61, Tryz.ntmps61
    go_wp2
    refine bodyPost_ret (v := .tuple #[.string ⟨#[]⟩, .int .i64 1]) (by simp [results, Tryz.results61, go_sem]) rfl ⟨rfl, Below.refl _ _⟩

set_option maxHeartbeats 1600000 in
theorem times_ok (s p : ByteArray) (w0 : World) (h1 : s.size = 32) (h2 : p.size = 32) :
    Calls Tryz.prog 61 #[.string s, .string p] w0 fun r w' => r = .returned (.tuple #[.string (shareT s p), .int .i64 0]) ∧ Below w0.heap.size w0 w' := by
  have d1' : ((s.size : Int) != 32) = false := by simp; omega
  have d2' : ((p.size : Int) != 32) = false := by simp; omega
  obtain ⟨C, hC⟩ : ∃ C, C = clampT s := ⟨_, rfl⟩
  have R1 := Lib.hid (show ∀ u, Calls Tryz.prog 83 #[.string s] u fun r w' => r = .returned (.string C) ∧ Below u.heap.size u w' from fun u => by rw [hC]; exact clamp_ref s u (by omega))
  obtain ⟨X, hX⟩ : ∃ X, X = limL (pubN p) := ⟨_, rfl⟩
  have hXl : LimL X (pubN p) := by rw [hX]; exact pub_l p
  have R2 := Lib.hid (show ∀ u, Calls Tryz.prog 84 #[.string p] u fun r w' => r = .returned (.agg X.toArray) ∧ Below u.heap.size u w' from fun u => by
    have := RefLimb.read_l p u (by omega)
    rw [limL, lim_mod255] at this
    rw [hX]
    exact this)
  have r3 := fun u => ladder_ref C hXl (by rw [hC, clampT_size]; decide) u
  have hl : ladder (bt C) (pubN p) < Prime.P := ladder_lt _ _
  have hT : shareT s p = numT (ladder (bt C) (pubN p)) := by rw [hC]; rfl
  obtain ⟨Y, hY⟩ : ∃ X, X = limL (ladder (bt C) (pubN p)) := ⟨_, rfl⟩
  have hYl : LimL Y (ladder (bt C) (pubN p)) := by rw [hY]; exact LimL.ofLim (Nat.lt_trans hl P_lt)
  have r4 := fun u => RefLimb.bytes_l hYl u
  rw [Nat.mod_eq_of_lt hl] at r4
  rw [← hY] at r3
  rw [← hT] at r4
  obtain ⟨T, hT⟩ : ∃ T, T = shareT s p := ⟨_, rfl⟩
  rw [← hT] at r4 ⊢
  have R3 := Lib.hid r3
  have R4 := Lib.hid r4
  clear h1 h2 hC hX hXl r3 r4 hl hY hYl hT
  go_enter Tryz.func61, Tryz.ntmps61
  go_wp2_with fail
  refine (R1.out _).mono ?_
  rintro e w1 ⟨rfl, hb⟩
  have HB1 := Lib.hid hb
  clear hb
  go_wp2_with fail
  refine (R2.out _).mono ?_
  rintro e w2 ⟨rfl, hb⟩
  have HB2 := Lib.hid (HB1.out.trans (hb.mono HB1.out.size))
  clear hb HB1
  go_wp2_with fail
  refine (R3.out _).mono ?_
  rintro e w3 ⟨rfl, hb⟩
  have HB3 := Lib.hid (HB2.out.trans (hb.mono HB2.out.size))
  clear hb HB2
  go_wp2_with fail
  refine (R4.out _).mono ?_
  rintro e w4 ⟨rfl, hb⟩
  have HB4 := Lib.hid (HB3.out.trans (hb.mono HB3.out.size))
  clear hb HB3
  go_wp2
  refine bodyPost_ret (v := .tuple #[.string T, .int .i64 0]) (by simp [results, Tryz.results61, go_sem]) rfl ⟨rfl, HB4.out⟩
theorem times_any (s p : ByteArray) (w : World) : Calls Tryz.prog 61 #[.string s, .string p] w fun r w' => r = .returned (timesV s p) ∧ Below w.heap.size w w' := by
  unfold timesV
  split
  · rename_i h
    exact times_ok s p w h.1 h.2
  · rename_i h
    exact times_err s p w h
theorem timesV_some (s p : ByteArray) : ∃ a b, timesV s p = .tuple #[.string a, .int .i64 b] := by
  unfold timesV
  split
  · exact ⟨_, _, rfl⟩
  · exact ⟨_, _, rfl⟩

/-- A byte 9 and 31 bytes 0. -/
def zero31 : ByteArray := ⟨(List.replicate 31 0).toArray⟩
theorem nine_cat : (⟨#[9]⟩ : ByteArray) ++ zero31 = numT 9 := by decide +kernel
theorem zero_num : zeroT = numT 0 := by decide +kernel
set_option maxHeartbeats 1600000 in
theorem public_ref (s : ByteArray) (w0 : World) :
    Calls Tryz.prog 43 #[.string s] w0 fun r w' => r = .returned (timesV s (numT 9)) ∧ Below w0.heap.size w0 w' := by
  obtain ⟨N9, h9⟩ : ∃ T, T = numT 9 := ⟨_, rfl⟩
  obtain ⟨Z, hZ⟩ : ∃ T, T = zero31 := ⟨_, rfl⟩
  have hcat : (⟨#[9]⟩ : ByteArray) ++ Z = N9 := by rw [hZ, h9]; exact nine_cat
  have hZs : Z.size = 31 := by rw [hZ]; rfl
  have cat : ¬ 9223372036854775807 < (⟨#[9]⟩ : ByteArray).size + Z.size := by rw [hZs]; decide
  have hmk : ∀ u : World, (Instr.makeSlice 78 (.int .i64 31) (.int .i64 31)).run Tryz.prog u = .ok (.slice (some ⟨u.heap.size, 0, none⟩) 31 31) (u.alloc (.cells (zeroV 31).toArray 5)) := fun u => by
    have := make_u8 u 31 (by omega)
    rw [made_cells 31] at this
    exact this
  have hcv : ∀ u : World, (convert 78 9 (.slice (some ⟨u.heap.size, 0, none⟩) 31 31)).run Tryz.prog (u.alloc (.cells (zeroV 31).toArray 5)) = .ok (.string Z) (u.alloc (.cells (zeroV 31).toArray 5)) := fun u => by
    rw [hZ]
    exact string_row (P := Tryz.prog) (Whole.made u 5 (zeroV 31)).row 78 5 9 Tryz.underlying78 Tryz.underlying5 Tryz.underlying9 31 31 (by simp)
  rw [← h9]
  have R2 := fun u => times_any s N9 u
  obtain ⟨a, b, hv⟩ := timesV_some s N9
  rw [hv] at R2 ⊢
  have R2 := Lib.hid R2
  have HCAT := Lib.hid hcat
  clear h9 hv hZ hZs hcat
  go_enter Tryz.func43, Tryz.ntmps43
  go_wp2_with fail
  rw [HCAT.out]
  refine (R2.out _).mono ?_
  rintro e w2 ⟨rfl, hb⟩
  have HB2 := Lib.hid (((Below.refl _ _).alloc (Nat.le_refl _) _).trans (hb.mono (by simp)))
  clear hb hmk hcv cat
  go_wp2
  refine bodyPost_ret (v := .tuple #[.string a, .int .i64 b]) (by simp [results, Tryz.results43, go_sem]) rfl ⟨rfl, HB2.out⟩

theorem alike_zero (T : ByteArray) (u : World) (h : T.size = 32) : Calls Tryz.prog 62 #[.string T, .string zeroT] u fun e w' => e = .returned (.bool (decide (T.data.toList = (numT 0).data.toList))) ∧ Below u.heap.size u w' := by
  have := RefOne.alike_any T zeroT u (by omega) (by decide)
  rw [ByteArray.toList_eq, ByteArray.toList_eq, zero_num] at this
  rw [zero_num]
  by_cases e : T.data.toList = (numT 0).data.toList
  · rw [decide_eq_true e]
    rw [show (T.data.toList == (numT 0).data.toList) = true by rw [e]; simp] at this
    exact this
  · rw [decide_eq_false e]
    rw [show (T.data.toList == (numT 0).data.toList) = false by simpa using e] at this
    exact this
theorem shared_ref (s p : ByteArray) (w0 : World) :
    Calls Tryz.prog 38 #[.string s, .string p] w0 fun r w' => r = .returned (sharedV s p) ∧ Below w0.heap.size w0 w' := by
  have RT := fun u => times_any s p u
  have hmk := fun u => zeroT_make u
  have hcv := fun u => zeroT_conv u
  obtain ⟨Z, hZ⟩ : ∃ Z, Z = zeroT := ⟨_, rfl⟩
  rw [← hZ] at hcv
  unfold sharedV
  unfold timesV at RT
  by_cases h : s.size = 32 ∧ p.size = 32
  · rw [if_pos h] at RT ⊢
    have hTs := shareT_size s p
    have r3 := fun u => alike_zero (shareT s p) u hTs
    rw [← hZ] at r3
    obtain ⟨T, hT⟩ : ∃ T, T = shareT s p := ⟨_, rfl⟩
    rw [← hT] at RT r3 ⊢
    have R1 := Lib.hid RT
    by_cases he : T.data.toList = (numT 0).data.toList
    · rw [decide_eq_true he] at r3
      rw [if_pos he]
      have R3 := Lib.hid r3
      clear r3 he hZ hT hTs h
      go_enter Tryz.func38, Tryz.ntmps38
      go_wp2_with fail
      refine (R1.out _).mono ?_
      rintro e w1 ⟨rfl, hb⟩
      have HB1 := Lib.hid (hb.alloc hb.size (.cells (zeroV 32).toArray 5))
      clear hb
      go_wp2_with fail
      refine (R3.out _).mono ?_
      rintro e w3 ⟨rfl, hb⟩
      have HB3 := Lib.hid (HB1.out.trans (hb.mono HB1.out.size))
      clear hb HB1 hmk hcv
      go_wp2
      refine bodyPost_ret (v := .tuple #[.string ⟨#[]⟩, .int .i64 5]) (by simp [results, Tryz.results38, go_sem]) rfl ⟨rfl, HB3.out⟩
    · rw [decide_eq_false he] at r3
      rw [if_neg he]
      have R3 := Lib.hid r3
      clear r3 he hZ hT hTs h
      go_enter Tryz.func38, Tryz.ntmps38
      go_wp2_with fail
      refine (R1.out _).mono ?_
      rintro e w1 ⟨rfl, hb⟩
      have HB1 := Lib.hid (hb.alloc hb.size (.cells (zeroV 32).toArray 5))
      clear hb
      go_wp2_with fail
      refine (R3.out _).mono ?_
      rintro e w3 ⟨rfl, hb⟩
      have HB3 := Lib.hid (HB1.out.trans (hb.mono HB1.out.size))
      clear hb HB1 hmk hcv
      go_wp2
      refine bodyPost_ret (v := .tuple #[.string T, .int .i64 0]) (by simp [results, Tryz.results38, go_sem]) rfl ⟨rfl, HB3.out⟩
  · rw [if_neg h] at RT ⊢
    have R1 := Lib.hid RT
    clear h hmk hcv hZ
    go_enter Tryz.func38, Tryz.ntmps38
    go_wp2_with fail
    refine (R1.out _).mono ?_
    rintro e w1 ⟨rfl, hb⟩
    have HB1 := Lib.hid hb
    clear hb
    go_wp2
    refine bodyPost_ret (v := .tuple #[.string ⟨#[]⟩, .int .i64 1]) (by simp [results, Tryz.results38, go_sem]) rfl ⟨rfl, HB1.out⟩
end Go.Proofs.YtolmfimpaofefaaGreatDoor.RefLad
