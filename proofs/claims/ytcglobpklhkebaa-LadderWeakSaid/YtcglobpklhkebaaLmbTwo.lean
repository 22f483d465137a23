/-
  Carry, Add and Sub of package limbs answer the reduced limbs of the worth, of the sum and of the difference modulo 2^255 - 19, and leave all memory that was there as it was. Condition: words below 2^64.
-/
import Derived.Test.YtcglobpklhkebaaLmbOne
namespace Go.Proofs.Ytcglobpklhkebaa.Limb
open Go.RowKit Mur Lanes
set_option maxRecDepth 100000

/-- Limbs as the model has them: five cells. -/
abbrev five (a b c d e : Nat) : Value := .agg #[.int .u64 (a : Int), .int .u64 (b : Int), .int .u64 (c : Int), .int .u64 (d : Int), .int .u64 (e : Int)]
/-- The limbs of a number, so. -/
def limV (n : Nat) : Value := .agg (numsV (lim n)).toArray
theorem limV_five (n : Nat) : ∃ a b c d e : Nat, limV n = five a b c d e := ⟨_, _, _, _, _, rfl⟩

theorem bcell {W w1 : World} (hb : Below W.heap.size W w1) : (∀ b o, b < W.heap.size → w1.cell? ⟨b, o, none⟩ = W.cell? ⟨b, o, none⟩) ∧ (∀ b o, b < W.heap.size → w1.frozen? ⟨b, o, none⟩ = W.frozen? ⟨b, o, none⟩) :=
  ⟨fun b o h => hb.cell (p := ⟨b, o, none⟩) h, fun b o h => hb.frozen (p := ⟨b, o, none⟩) h⟩

theorem set5 {k b : Nat} {w w' : World} (h : Below k w w') (hb : k ≤ b) (v0 v1 v2 v3 v4 : Value) : Below k w (((((w'.setCell ⟨b, 0, none⟩ v0).setCell ⟨b, 1, none⟩ v1).setCell ⟨b, 2, none⟩ v2).setCell ⟨b, 3, none⟩ v3).setCell ⟨b, 4, none⟩ v4) :=
  ((((h.setCell (p := ⟨b, 0, none⟩) hb _).setCell (p := ⟨b, 1, none⟩) hb _).setCell (p := ⟨b, 2, none⟩) hb _).setCell (p := ⟨b, 3, none⟩) hb _).setCell (p := ⟨b, 4, none⟩) hb _

set_option maxHeartbeats 1600000 in
theorem carry_any (a b c d e : Nat) (w : World) (h : Words5 a b c d e) :
    Calls Try.prog 14 #[five a b c d e] w fun r w' => r = .returned (limV (wor a b c d e % Prime.P)) ∧ Below w.heap.size w w' := by
  have R := fun u => reduced_any a b c d e u h
  change ∀ u, Calls _ _ _ u fun r w' => r = .returned (limV (wor a b c d e % Prime.P)) ∧ Below u.heap.size u w' at R
  obtain ⟨r0, r1, r2, r3, r4, hr⟩ := limV_five (wor a b c d e % Prime.P)
  rw [hr] at R ⊢
  have R1 := Lib.hid R
  clear hr h R
  go_enter Try.func14, Try.ntmps14
  go_wp2_with fail
  refine (R1.out _).mono ?_
  rintro e w1 ⟨rfl, hb⟩
  obtain ⟨hc, hf⟩ := bcell hb
  have hz : w.heap.size + 1 < w1.heap.size := by have := hb.size; simp at this; omega
  have HB := Lib.hid hb
  clear hb
  go_wp2
  exact bodyPost_ret (v := five r0 r1 r2 r3 r4) (by simp [results, Try.results14, go_sem, hc]) rfl ⟨rfl, set5 (((((Below.refl _ _).alloc (Nat.le_refl _) _).alloc (by simp) _).trans (HB.out.mono (by simp; omega)))) (by omega) _ _ _ _ _⟩

/-- What eased makes of limbs, under names. -/
theorem eased_some (a b c d e : Nat) (h : Words5 a b c d e) : ∃ A B C D E : Nat, Roomy A B C D E ∧ wor A B C D E % Prime.P = wor a b c d e % Prime.P ∧
    ∀ u, Calls Try.prog 55 #[.int .u64 a, .int .u64 b, .int .u64 c, .int .u64 d, .int .u64 e] u fun r w' => r = .returned (.tuple #[.int .u64 A, .int .u64 B, .int .u64 C, .int .u64 D, .int .u64 E]) ∧ u = w' :=
  ⟨_, _, _, _, _, eased_roomy h, eased_mod a b c d e, fun u => eased_any a b c d e u h⟩

/-- The difference modulo 2^255 - 19. -/
def subP (x y : Nat) : Nat := (x + (Prime.P - y % Prime.P)) % Prime.P
theorem sub_mod {S A B x y : Nat} (h : S + B = A + 2 * Prime.P) (hA : A % Prime.P = x % Prime.P) (hB : B % Prime.P = y % Prime.P) : S % Prime.P = subP x y := by
  unfold subP
  have hP := P_eq
  generalize Prime.P = p at *
  subst hP
  omega
theorem wor_sum (a b c d e A B C D E : Nat) : wor (a + A) (b + B) (c + C) (d + D) (e + E) = wor a b c d e + wor A B C D E := by
  unfold wor
  omega

set_option maxHeartbeats 1600000 in
theorem add_any (a b c d e a' b' c' d' e' : Nat) (w : World) (h : Words5 a b c d e) (h' : Words5 a' b' c' d' e') :
    Calls Try.prog 18 #[five a b c d e, five a' b' c' d' e'] w fun r w' => r = .returned (limV ((wor a b c d e + wor a' b' c' d' e') % Prime.P)) ∧ Below w.heap.size w w' := by
  obtain ⟨A, B, C, D, E, hA, mA, rA⟩ := eased_some a b c d e h
  obtain ⟨A', B', C', D', E', hA', mA', rA'⟩ := eased_some a' b' c' d' e' h'
  have R := fun u => reduced_any (A + A') (B + B') (C + C') (D + D') (E + E') u (by unfold Roomy at hA hA'; unfold Words5; omega)
  rw [wor_sum, Nat.add_mod, mA, mA', ← Nat.add_mod] at R
  change ∀ u, Calls _ _ _ u fun r w' => r = .returned (limV ((wor a b c d e + wor a' b' c' d' e') % Prime.P)) ∧ Below u.heap.size u w' at R
  obtain ⟨r0, r1, r2, r3, r4, hr⟩ := limV_five ((wor a b c d e + wor a' b' c' d' e') % Prime.P)
  rw [hr] at R ⊢
  simp only [Int.natCast_add] at R
  unfold Roomy at hA hA'
  obtain ⟨hA, hB, hC, hD, hE⟩ := hA
  obtain ⟨hA', hB', hC', hD', hE'⟩ := hA'
  have R1 := Lib.hid R
  have R2 := Lib.hid rA
  have R3 := Lib.hid rA'
  clear hr h h' R rA rA' mA mA'
  go_enter Try.func18, Try.ntmps18
  go_wp2_with fail
  refine (R2.out _).mono ?_
  rintro e w1 ⟨rfl, rfl⟩
  go_wp2_with fail
  refine (R3.out _).mono ?_
  rintro e w1 ⟨rfl, rfl⟩
  go_wp2_with fail
  refine (R1.out _).mono ?_
  rintro e w1 ⟨rfl, hb⟩
  obtain ⟨hc, hf⟩ := bcell hb
  have hz : w.heap.size + 1 + 1 < w1.heap.size := by have := hb.size; simp at this; omega
  have HB := Lib.hid hb
  clear hb
  go_wp2
  exact bodyPost_ret (v := five r0 r1 r2 r3 r4) (by simp [results, Try.results18, go_sem, hc]) rfl ⟨rfl, set5 ((((((Below.refl _ _).alloc (Nat.le_refl _) _).alloc (by simp) _).alloc (by simp; omega) _).trans (HB.out.mono (by simp; omega)))) (by omega) _ _ _ _ _⟩

set_option maxHeartbeats 1600000 in
theorem sub_any (a b c d e a' b' c' d' e' : Nat) (w : World) (h : Words5 a b c d e) (h' : Words5 a' b' c' d' e') :
    Calls Try.prog 20 #[five a b c d e, five a' b' c' d' e'] w fun r w' => r = .returned (limV (subP (wor a b c d e) (wor a' b' c' d' e'))) ∧ Below w.heap.size w w' := by
  obtain ⟨A, B, C, D, E, hA, mA, rA⟩ := eased_some a b c d e h
  obtain ⟨A', B', C', D', E', hA', mA', rA'⟩ := eased_some a' b' c' d' e' h'
  unfold Roomy at hA hA'
  obtain ⟨hA, hB, hC, hD, hE⟩ := hA
  obtain ⟨hA', hB', hC', hD', hE'⟩ := hA'
  obtain ⟨s0, hs0⟩ : ∃ s : Nat, s = A + 4503599627370458 - A' := ⟨_, rfl⟩
  obtain ⟨s1, hs1⟩ : ∃ s : Nat, s = B + 4503599627370494 - B' := ⟨_, rfl⟩
  obtain ⟨s2, hs2⟩ : ∃ s : Nat, s = C + 4503599627370494 - C' := ⟨_, rfl⟩
  obtain ⟨s3, hs3⟩ : ∃ s : Nat, s = D + 4503599627370494 - D' := ⟨_, rfl⟩
  obtain ⟨s4, hs4⟩ : ∃ s : Nat, s = E + 4503599627370494 - E' := ⟨_, rfl⟩
  have R := fun u => reduced_any s0 s1 s2 s3 s4 u (by unfold Words5; omega)
  have hsum : wor s0 s1 s2 s3 s4 + wor A' B' C' D' E' = wor A B C D E + 2 * Prime.P := by
    rw [P_eq]
    unfold wor
    omega
  rw [sub_mod hsum mA mA'] at R
  change ∀ u, Calls _ _ _ u fun r w' => r = .returned (limV (subP (wor a b c d e) (wor a' b' c' d' e'))) ∧ Below u.heap.size u w' at R
  obtain ⟨r0, r1, r2, r3, r4, hr⟩ := limV_five (subP (wor a b c d e) (wor a' b' c' d' e'))
  rw [hr] at R ⊢
  rw [show (s0 : Int) = A + 4503599627370458 - A' by omega, show (s1 : Int) = B + 4503599627370494 - B' by omega, show (s2 : Int) = C + 4503599627370494 - C' by omega, show (s3 : Int) = D + 4503599627370494 - D' by omega, show (s4 : Int) = E + 4503599627370494 - E' by omega] at R
  have R1 := Lib.hid R
  have R2 := Lib.hid rA
  have R3 := Lib.hid rA'
  clear hr h h' R rA rA' mA mA' hs0 hs1 hs2 hs3 hs4 hsum
  go_enter Try.func20, Try.ntmps20
  go_wp2_with fail
  refine (R2.out _).mono ?_
  rintro e w1 ⟨rfl, rfl⟩
  go_wp2_with fail
  refine (R3.out _).mono ?_
  rintro e w1 ⟨rfl, rfl⟩
  go_wp2_with fail
  refine (R1.out _).mono ?_
  rintro e w1 ⟨rfl, hb⟩
  obtain ⟨hc, hf⟩ := bcell hb
  have hz : w.heap.size + 1 + 1 < w1.heap.size := by have := hb.size; simp at this; omega
  have HB := Lib.hid hb
  clear hb
  go_wp2
  exact bodyPost_ret (v := five r0 r1 r2 r3 r4) (by simp [results, Try.results20, go_sem, hc]) rfl ⟨rfl, set5 ((((((Below.refl _ _).alloc (Nat.le_refl _) _).alloc (by simp) _).alloc (by simp; omega) _).trans (HB.out.mono (by simp; omega)))) (by omega) _ _ _ _ _⟩
end Go.Proofs.Ytcglobpklhkebaa.Limb
