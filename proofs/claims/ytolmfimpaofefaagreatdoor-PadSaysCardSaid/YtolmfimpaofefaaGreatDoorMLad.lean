/-
  Several texts as one (Lad, LimL, LadExch, LadRung, Ladder, Clamp, LadEnds, LadAwake). The plain mathematics of X25519: rungs of the ladder modulo 2^255 - 19, pairs that are exchanged, and what comes of the number 0. Nothing here speaks of a program: no condition but those that each lemma names. Limbs as lists of five cells with the number that they are worth, for walks that keep what is in a block under a name; the contracts of package limbs in these words. No condition but those that each lemma names. exchanged of package ladder answers the two pairs, exchanged where the bit is odd, and leaves all memory that was there as it was. Conditions: limbs of words, a bit that is no less than 0. rung of package ladder answers a rung of the plain ladder, and leaves all memory that was there as it was. Condition: limbs of words. Ladder of package ladder answers the plain ladder, and leaves all memory that was there as it was. Conditions: limbs of words, a text that takes no more than the reach of the form. Clamp of package ladder answers the plain clamped bytes, and leaves all memory that was there as it was. Condition: the text takes no more than the reach of the form. Times, Public, Shared, nought and Weak of package ladder answer what the plain ladder says, and leave all memory that was there as it was. Condition: texts that take no more than the reach of the form. Layer 6's own example answers true, and leaves all memory that was there as it was. No condition.
-/
import Derived.Test.YtolmfimpaofefaaGreatDoorMLmA
import Derived.Test.YtolmfimpaofefaaGreatDoorMWk
import Derived.Test.YtolmfimpaofefaaGreatDoorMLmB
import Derived.Test.YtolmfimpaofefaaGreatDoorMLn
namespace Go.Proofs.YtolmfimpaofefaaGreatDoor.Lad
open Prime Limb

/-- Two pairs of numbers. -/
structure St where
  a : Nat
  b : Nat
  c : Nat
  d : Nat
deriving DecidableEq

/-- A rung. -/
def rungE (s : St) : Nat := subP ((s.a + s.b) % P * ((s.a + s.b) % P) % P) (subP s.a s.b * subP s.a s.b % P)
def rungD (s : St) : Nat := subP s.c s.d * ((s.a + s.b) % P) % P
def rungC (s : St) : Nat := (s.c + s.d) % P * subP s.a s.b % P
def rungN (x : Nat) (s : St) : St :=
  ⟨(s.a + s.b) % P * ((s.a + s.b) % P) % P * (subP s.a s.b * subP s.a s.b % P) % P,
   rungE s * (((s.a + s.b) % P * ((s.a + s.b) % P) % P + rungE s * 121665 % P) % P) % P,
   (rungD s + rungC s) % P * ((rungD s + rungC s) % P) % P,
   x * (subP (rungD s) (rungC s) * subP (rungD s) (rungC s) % P) % P⟩
/-- Exchanged where the bit is 1. -/
def exch (b : Nat) (s : St) : St := if b % 2 = 1 then ⟨s.c, s.d, s.a, s.b⟩ else s
theorem exch_exch (b : Nat) (s : St) : exch b (exch b s) = s := by
  unfold exch
  split <;> rfl
theorem exch_xor (b c : Nat) (hb : b < 2) (hc : c < 2) (s : St) : exch (b ^^^ c) (exch b s) = exch c s := by
  have h1 : b = 0 ∨ b = 1 := by omega
  have h2 : c = 0 ∨ c = 1 := by omega
  rcases h1 with rfl | rfl <;> rcases h2 with rfl | rfl <;> rfl
/-- After so many bits, the first that is gone through is that of 254. -/
def ladN (bit : Nat → Nat) (x : Nat) : Nat → St
  | 0 => ⟨1, 0, x, 1⟩
  | k + 1 => exch (bit (254 - k)) (rungN x (exch (bit (254 - k)) (ladN bit x k)))
/-- The ladder. -/
def ladder (bit : Nat → Nat) (x : Nat) : Nat := (ladN bit x 255).a * ((ladN bit x 255).b ^ (P - 2) % P) % P

theorem ladder_lt (bit : Nat → Nat) (x : Nat) : ladder bit x < P := Nat.mod_lt _ P_pos
end Go.Proofs.YtolmfimpaofefaaGreatDoor.Lad

namespace Go.Proofs.YtolmfimpaofefaaGreatDoor.Limb
open Go.RowKit Mur Lanes Hold
set_option maxRecDepth 100000

/-- Five cells that are worth N. -/
def LimL (X : List Value) (N : Nat) : Prop := Lims (.agg X.toArray) N
def limL (n : Nat) : List Value := numsV (lim n)
theorem limV_L (n : Nat) : limV n = .agg (limL n).toArray := rfl
theorem LimL.out {X : List Value} {N : Nat} (h : LimL X N) : ∃ a b c d e : Nat, X = fiveL a b c d e ∧ Words5 a b c d e ∧ wor a b c d e = N := by
  obtain ⟨a, b, c, d, e, h1, h2, h3⟩ := h
  exact ⟨a, b, c, d, e, by simpa [five] using h1, h2, h3⟩
theorem LimL.len {X : List Value} {N : Nat} (h : LimL X N) : X.length = 5 := by
  obtain ⟨a, b, c, d, e, rfl, -, -⟩ := h.out
  rfl
theorem LimL.one {X : List Value} {N : Nat} (h : LimL X N) : Single X := by
  obtain ⟨a, b, c, d, e, rfl, -, -⟩ := h.out
  unfold Single
  simp [Value.oneCell']
theorem LimL.ofLim {n : Nat} (h : n < 57896044618658097711785492504343953926634992332820282019728792003956564819968) : LimL (limL n) n := lims_lim h
theorem LimL.ofMod (n : Nat) : LimL (limL (n % Prime.P)) (n % Prime.P) := lims_mod n
theorem LimL.ofSub (x y : Nat) : LimL (limL (subP x y)) (subP x y) := lims_sub x y
theorem LimL.ofFive {a b c d e : Nat} (h : Words5 a b c d e) : LimL (fiveL a b c d e) (wor a b c d e) := lims_five h
theorem row_limbs : TyRow Tryz.prog 69 5 := ⟨_, Tryz.underlying69, rfl, by kernel_rfl⟩
def zeros5 : List Value := fiveL 0 0 0 0 0
theorem zero_limbs5 : (Tryz.prog.info? 69).map (fun i => (i.zero, i.size)) = some (some (.agg zeros5.toArray), zeros5.length) := by kernel_rfl
theorem zeros5_length : zeros5.length = 5 := rfl
theorem LimL.row {X : List Value} {N : Nat} (h : LimL X N) : TyRow Tryz.prog 69 X.length := by
  rw [h.len]
  exact row_limbs

theorem carry_l {X : List Value} {N : Nat} (h : LimL X N) (u : World) : Calls Tryz.prog 73 #[.agg X.toArray] u fun r w' => r = .returned (.agg (limL (N % Prime.P)).toArray) ∧ Below u.heap.size u w' := carry_val h u
theorem add_l {X Y : List Value} {N M : Nat} (h : LimL X N) (h' : LimL Y M) (u : World) : Calls Tryz.prog 125 #[.agg X.toArray, .agg Y.toArray] u fun r w' => r = .returned (.agg (limL ((N + M) % Prime.P)).toArray) ∧ Below u.heap.size u w' := add_val h h' u
theorem sub_l {X Y : List Value} {N M : Nat} (h : LimL X N) (h' : LimL Y M) (u : World) : Calls Tryz.prog 126 #[.agg X.toArray, .agg Y.toArray] u fun r w' => r = .returned (.agg (limL (subP N M)).toArray) ∧ Below u.heap.size u w' := sub_val h h' u
theorem times_l {X Y : List Value} {N M : Nat} (h : LimL X N) (h' : LimL Y M) (u : World) : Calls Tryz.prog 98 #[.agg X.toArray, .agg Y.toArray] u fun r w' => r = .returned (.agg (limL (N * M % Prime.P)).toArray) ∧ Below u.heap.size u w' := times_val h h' u
theorem scale_l {X : List Value} {N n : Nat} (h : LimL X N) (hn : n < 18446744073709551616) (u : World) : Calls Tryz.prog 127 #[.agg X.toArray, .int .u64 n] u fun r w' => r = .returned (.agg (limL (N * n % Prime.P)).toArray) ∧ Below u.heap.size u w' := scale_val h hn u
theorem square_l {X : List Value} {N : Nat} (h : LimL X N) (u : World) : Calls Tryz.prog 128 #[.agg X.toArray, .int .i64 1] u fun r w' => r = .returned (.agg (limL (N * N % Prime.P)).toArray) ∧ Below u.heap.size u w' := by
  have := square_val h 1 (by decide) (by decide) u
  rw [show times 1 = 1 by decide, Nat.pow_one, Nat.pow_two] at this
  exact this
theorem invert_l {X : List Value} {N : Nat} (h : LimL X N) (u : World) : Calls Tryz.prog 99 #[.agg X.toArray] u fun r w' => r = .returned (.agg (limL (N ^ (Prime.P - 2) % Prime.P)).toArray) ∧ Below u.heap.size u w' := invert_val h u
theorem swap_l {X Y : List Value} {N M n : Nat} (h : LimL X N) (h' : LimL Y M) (hn : n < 9223372036854775808) (u : World) : Calls Tryz.prog 124 #[.agg X.toArray, .agg Y.toArray, .int .i64 n] u fun r w' => r = .returned (.tuple #[.agg (if n % 2 = 1 then Y else X).toArray, .agg (if n % 2 = 1 then X else Y).toArray]) ∧ Below u.heap.size u w' := by
  have := swap_val h h' hn u
  by_cases e : n % 2 = 1
  · simp only [if_pos e] at this ⊢
    exact this
  · simp only [if_neg e] at this ⊢
    exact this
end Go.Proofs.YtolmfimpaofefaaGreatDoor.Limb

namespace Go.Proofs.YtolmfimpaofefaaGreatDoor.LadC
open Go.RowKit Mur Lanes Limb Hold
set_option maxRecDepth 100000

theorem row_pair : TyRow Tryz.prog 115 10 := ⟨_, Tryz.underlying115, rfl, by kernel_rfl⟩
def zeros10 : List Value := [.int .u64 0, .int .u64 0, .int .u64 0, .int .u64 0, .int .u64 0, .int .u64 0, .int .u64 0, .int .u64 0, .int .u64 0, .int .u64 0]
theorem zero_pair : (Tryz.prog.info? 115).map (fun i => (i.zero, i.size)) = some (some (.agg zeros10.toArray), zeros10.length) := by kernel_rfl

set_option maxHeartbeats 1600000 in
theorem exchanged_any {X Z X' Z' : List Value} {N1 N2 N3 N4 n : Nat} (h1 : LimL X N1) (h2 : LimL Z N2) (h3 : LimL X' N3) (h4 : LimL Z' N4) (hn : n < 9223372036854775808) (w : World) :
    Calls Tryz.prog 96 #[.agg (X ++ Z).toArray, .agg (X' ++ Z').toArray, .int .i64 n] w fun r w' => r = .returned (.tuple #[.agg (if n % 2 = 1 then X' ++ Z' else X ++ Z).toArray, .agg (if n % 2 = 1 then X ++ Z else X' ++ Z').toArray]) ∧ Below w.heap.size w w' := by
  obtain ⟨A, hA⟩ : ∃ A, A = if n % 2 = 1 then X' else X := ⟨_, rfl⟩
  obtain ⟨B, hB⟩ : ∃ A, A = if n % 2 = 1 then X else X' := ⟨_, rfl⟩
  obtain ⟨C, hC⟩ : ∃ A, A = if n % 2 = 1 then Z' else Z := ⟨_, rfl⟩
  obtain ⟨D, hD⟩ : ∃ A, A = if n % 2 = 1 then Z else Z' := ⟨_, rfl⟩
  have e1 : (if n % 2 = 1 then X' ++ Z' else X ++ Z) = A ++ C := by rw [hA, hC]; split <;> rfl
  have e2 : (if n % 2 = 1 then X ++ Z else X' ++ Z') = B ++ D := by rw [hB, hD]; split <;> rfl
  have r1 := fun u => swap_l h1 h3 hn u
  have r2 := fun u => swap_l h2 h4 hn u
  rw [← hA, ← hB] at r1
  rw [← hC, ← hD] at r2
  rw [e1, e2]
  have a5 : A.length = 5 ∧ Single A := by rw [hA]; split; exact ⟨h3.len, h3.one⟩; exact ⟨h1.len, h1.one⟩
  have b5 : B.length = 5 ∧ Single B := by rw [hB]; split; exact ⟨h1.len, h1.one⟩; exact ⟨h3.len, h3.one⟩
  have c5 : C.length = 5 ∧ Single C := by rw [hC]; split; exact ⟨h4.len, h4.one⟩; exact ⟨h2.len, h2.one⟩
  have d5 : D.length = 5 ∧ Single D := by rw [hD]; split; exact ⟨h2.len, h2.one⟩; exact ⟨h4.len, h4.one⟩
  have x5 := h1.len
  have z5 := h2.len
  have x5' := h3.len
  have z5' := h4.len
  have R1 := Lib.hid r1
  have R2 := Lib.hid r2
  have HA5 := Lib.hid a5
  have HB5 := Lib.hid b5
  have HC5 := Lib.hid c5
  have HD5 := Lib.hid d5
  have HX := Lib.hid x5
  have HZ := Lib.hid z5
  have HX' := Lib.hid x5'
  have HZ' := Lib.hid z5'
  have HM := Lib.hid (Hld.start w)
  clear hA hB hC hD e1 e2 r1 r2 a5 b5 c5 d5 h1 h2 h3 h4 x5 z5 x5' z5'
  go_enter Tryz.func96, Tryz.ntmps96
  go_upto_region 1 with ((first
    | (with_reducible refine Hold.box HM.out rfl rfl rfl ?_; clear HM; intro b w HM; simp only [List.nil_append, List.cons_append] at HM; replace HM := Lib.hid HM)
    | (with_reducible refine Hold.alloc HM.out rfl rfl zeros10 zero_pair ?_; clear HM; intro b w HM; simp only [List.nil_append, List.cons_append] at HM; replace HM := Lib.hid HM)))
  go_upto_region 2 with ((first
    | (with_reducible refine (R1.out _).mono ?_; rintro e w ⟨rfl, hb⟩; replace HM := Lib.hid (HM.out.next hb); clear hb)
    | (with_reducible refine Hold.load HM.out 0 (cs := X) rfl rfl rfl rfl (Part.left X Z) (by rw [HX.out]; exact row_limbs) ?_)
    | (with_reducible refine Hold.load HM.out 1 (cs := X') rfl rfl rfl rfl (Part.left X' Z') (by rw [HX'.out]; exact row_limbs) ?_)
    | (with_reducible refine Hold.store HM.out 0 (v' := A ++ Z) rfl rfl rfl rfl rfl (by simp [HX.out, HA5.out.1]) (lay_left (HX.out.trans HA5.out.1.symm)) HA5.out.2 (by rw [HA5.out.1]; exact row_limbs) ?_; clear HM; intro w HM; simp only [List.set_cons_zero] at HM; replace HM := Lib.hid HM)
    | (with_reducible refine Hold.store HM.out 1 (v' := B ++ Z') rfl rfl rfl rfl rfl (by simp [HX'.out, HB5.out.1]) (lay_left (HX'.out.trans HB5.out.1.symm)) HB5.out.2 (by rw [HB5.out.1]; exact row_limbs) ?_; clear HM; intro w HM; simp only [List.set_cons_zero, List.set_cons_succ] at HM; replace HM := Lib.hid HM)))
  go_upto_region 3 with ((first
    | (with_reducible refine (R2.out _).mono ?_; rintro e w ⟨rfl, hb⟩; replace HM := Lib.hid (HM.out.next hb); clear hb)
    | (with_reducible refine Hold.load HM.out 0 (cs := Z) rfl rfl rfl rfl (Part.right HA5.out.1) (by rw [HZ.out]; exact row_limbs) ?_)
    | (with_reducible refine Hold.load HM.out 1 (cs := Z') rfl rfl rfl rfl (Part.right HB5.out.1) (by rw [HZ'.out]; exact row_limbs) ?_)
    | (with_reducible refine Hold.store HM.out 0 (v' := A ++ C) rfl rfl rfl rfl rfl (by simp [HZ.out, HA5.out.1, HC5.out.1]) (lay_right HA5.out.1 (HZ.out.trans HC5.out.1.symm)) HC5.out.2 (by rw [HC5.out.1]; exact row_limbs) ?_; clear HM; intro w HM; simp only [List.set_cons_zero] at HM; replace HM := Lib.hid HM)
    | (with_reducible refine Hold.store HM.out 1 (v' := B ++ D) rfl rfl rfl rfl rfl (by simp [HZ'.out, HB5.out.1, HD5.out.1]) (lay_right HB5.out.1 (HZ'.out.trans HD5.out.1.symm)) HD5.out.2 (by rw [HD5.out.1]; exact row_limbs) ?_; clear HM; intro w HM; simp only [List.set_cons_zero, List.set_cons_succ] at HM; replace HM := Lib.hid HM)))
  have hAC : (A ++ C).length = 10 := by simp [HA5.out.1, HC5.out.1]
  have hBD : (B ++ D).length = 10 := by simp [HB5.out.1, HD5.out.1]
  have HAC := Lib.hid hAC
  have HBD := Lib.hid hBD
  clear hAC hBD
  refine Hold.pair_end (k0 := 0) (k1 := 1) (k2 := 2) (k3 := 3) HM.out (by kernel_rfl) (by kernel_rfl) (by kernel_rfl) (by kernel_rfl) (by kernel_rfl) (by kernel_rfl) (by kernel_rfl) (by kernel_rfl) rfl rfl rfl rfl rfl rfl rfl rfl rfl rfl rfl rfl rfl rfl rfl rfl (by decide) (by simp [Act.put]) (by simp [Act.put]) rfl rfl rfl rfl (by decide)
    (by rw [HAC.out]; exact row_pair) (by rw [HBD.out]; exact row_pair) (by rw [HAC.out]; exact row_pair) (by rw [HBD.out]; exact row_pair) (by rw [HAC.out]; rfl) (by rw [HBD.out]; rfl) (HA5.out.2.append HC5.out.2) (HB5.out.2.append HD5.out.2) ?_
  clear HM
  intro w HM
  simp only [List.set_cons_zero, List.set_cons_succ] at HM
  replace HM := Lib.hid HM
  go_wp2
  exact bodyPost_ret (Hold.results2 HM.out 2 3 rfl _ rfl rfl rfl rfl (by rw [HAC.out]; exact row_pair) (by rw [HBD.out]; exact row_pair)) rfl ⟨rfl, HM.out.below⟩
end Go.Proofs.YtolmfimpaofefaaGreatDoor.LadC

namespace Go.Proofs.YtolmfimpaofefaaGreatDoor.LadC
open Go.RowKit Mur Lanes Limb Hold Lad
set_option maxRecDepth 100000

/-- A value under a name: what it is worth, its contract, its cells. -/
theorem named {n : Nat} (hn : LimL (limL n) n) : ∃ V, V = limL n ∧ LimL V n ∧ V.length = 5 ∧ Single V := ⟨limL n, rfl, hn, hn.len, hn.one⟩

set_option maxHeartbeats 4000000 in
theorem rung_any {X Z X' Z' Y : List Value} {s : St} {N : Nat} (h1 : LimL X s.a) (h2 : LimL Z s.b) (h3 : LimL X' s.c) (h4 : LimL Z' s.d) (h5 : LimL Y N) (w : World) :
    Calls Tryz.prog 97 #[.agg (X ++ Z).toArray, .agg (X' ++ Z').toArray, .agg Y.toArray] w fun r w' => r = .returned (.tuple #[.agg (limL (rungN N s).a ++ limL (rungN N s).b).toArray, .agg (limL (rungN N s).c ++ limL (rungN N s).d).toArray]) ∧ Below w.heap.size w w' := by
  have x5 : X.length = 5 ∧ Single X := ⟨h1.len, h1.one⟩
  have z5 : Z.length = 5 ∧ Single Z := ⟨h2.len, h2.one⟩
  have x5' : X'.length = 5 ∧ Single X' := ⟨h3.len, h3.one⟩
  have z5' : Z'.length = 5 ∧ Single Z' := ⟨h4.len, h4.one⟩
  have y5 : Y.length = 5 ∧ Single Y := ⟨h5.len, h5.one⟩
  obtain ⟨VA, eVA, lVA, sVA⟩ := named (n := (s.a + s.b) % Prime.P) (LimL.ofMod _)
  have rVA := fun u => add_l h1 h2 u
  rw [← eVA] at rVA
  obtain ⟨VB, eVB, lVB, sVB⟩ := named (n := subP s.a s.b) (LimL.ofSub _ _)
  have rVB := fun u => sub_l h1 h2 u
  rw [← eVB] at rVB
  obtain ⟨AA, eAA, lAA, sAA⟩ := named (n := ((s.a + s.b) % Prime.P) * ((s.a + s.b) % Prime.P) % Prime.P) (LimL.ofMod _)
  have rAA := fun u => times_l lVA lVA u
  rw [← eAA] at rAA
  obtain ⟨BB, eBB, lBB, sBB⟩ := named (n := subP s.a s.b * subP s.a s.b % Prime.P) (LimL.ofMod _)
  have rBB := fun u => times_l lVB lVB u
  rw [← eBB] at rBB
  obtain ⟨VE, eVE, lVE, sVE⟩ := named (n := rungE s) (LimL.ofSub _ _)
  have rVE := fun u => sub_l lAA lBB u
  change ∀ u, Calls _ _ _ u fun r w' => r = .returned (.agg (limL (rungE s)).toArray) ∧ _ at rVE
  rw [← eVE] at rVE
  obtain ⟨D1, eD1, lD1, sD1⟩ := named (n := subP s.c s.d) (LimL.ofSub _ _)
  have rD1 := fun u => sub_l h3 h4 u
  rw [← eD1] at rD1
  obtain ⟨VD, eVD, lVD, sVD⟩ := named (n := rungD s) (LimL.ofMod _)
  have rVD := fun u => times_l lD1 lVA u
  change ∀ u, Calls _ _ _ u fun r w' => r = .returned (.agg (limL (rungD s)).toArray) ∧ _ at rVD
  rw [← eVD] at rVD
  obtain ⟨C1, eC1, lC1, sC1⟩ := named (n := (s.c + s.d) % Prime.P) (LimL.ofMod _)
  have rC1 := fun u => add_l h3 h4 u
  rw [← eC1] at rC1
  obtain ⟨VC, eVC, lVC, sVC⟩ := named (n := rungC s) (LimL.ofMod _)
  have rVC := fun u => times_l lC1 lVB u
  change ∀ u, Calls _ _ _ u fun r w' => r = .returned (.agg (limL (rungC s)).toArray) ∧ _ at rVC
  rw [← eVC] at rVC
  obtain ⟨PX, ePX, lPX, sPX⟩ := named (n := (rungN N s).a) (LimL.ofMod _)
  have rPX := fun u => times_l lAA lBB u
  change ∀ u, Calls _ _ _ u fun r w' => r = .returned (.agg (limL (rungN N s).a).toArray) ∧ _ at rPX
  rw [← ePX] at rPX
  obtain ⟨S1, eS1, lS1, sS1⟩ := named (n := rungE s * 121665 % Prime.P) (LimL.ofMod _)
  have rS1 := fun u => scale_l lVE (n := 121665) (by decide) u
  rw [← eS1] at rS1
  obtain ⟨T1, eT1, lT1, sT1⟩ := named (n := (((s.a + s.b) % Prime.P) * ((s.a + s.b) % Prime.P) % Prime.P + rungE s * 121665 % Prime.P) % Prime.P) (LimL.ofMod _)
  have rT1 := fun u => add_l lAA lS1 u
  rw [← eT1] at rT1
  obtain ⟨PZ, ePZ, lPZ, sPZ⟩ := named (n := (rungN N s).b) (LimL.ofMod _)
  have rPZ := fun u => times_l lVE lT1 u
  change ∀ u, Calls _ _ _ u fun r w' => r = .returned (.agg (limL (rungN N s).b).toArray) ∧ _ at rPZ
  rw [← ePZ] at rPZ
  obtain ⟨U1, eU1, lU1, sU1⟩ := named (n := (rungD s + rungC s) % Prime.P) (LimL.ofMod _)
  have rU1 := fun u => add_l lVD lVC u
  rw [← eU1] at rU1
  obtain ⟨QX, eQX, lQX, sQX⟩ := named (n := (rungN N s).c) (LimL.ofMod _)
  have rQX := fun u => square_l lU1 u
  change ∀ u, Calls _ _ _ u fun r w' => r = .returned (.agg (limL (rungN N s).c).toArray) ∧ _ at rQX
  rw [← eQX] at rQX
  obtain ⟨W1, eW1, lW1, sW1⟩ := named (n := subP (rungD s) (rungC s)) (LimL.ofSub _ _)
  have rW1 := fun u => sub_l lVD lVC u
  rw [← eW1] at rW1
  obtain ⟨W2, eW2, lW2, sW2⟩ := named (n := subP (rungD s) (rungC s) * subP (rungD s) (rungC s) % Prime.P) (LimL.ofMod _)
  have rW2 := fun u => square_l lW1 u
  rw [← eW2] at rW2
  obtain ⟨QZ, eQZ, lQZ, sQZ⟩ := named (n := (rungN N s).d) (LimL.ofMod _)
  have rQZ := fun u => times_l h5 lW2 u
  change ∀ u, Calls _ _ _ u fun r w' => r = .returned (.agg (limL (rungN N s).d).toArray) ∧ _ at rQZ
  rw [← eQZ] at rQZ
  rw [← ePX, ← ePZ, ← eQX, ← eQZ]
  have scl : ∀ u, Calls Tryz.prog 127 #[.agg VE.toArray, .int .u64 121665] u fun r w' => r = .returned (.agg S1.toArray) ∧ Below u.heap.size u w' := rS1
  have RVA := Lib.hid rVA
  have HVA := Lib.hid sVA
  have RVB := Lib.hid rVB
  have HVB := Lib.hid sVB
  have RAA := Lib.hid rAA
  have HAA := Lib.hid sAA
  have RBB := Lib.hid rBB
  have HBB := Lib.hid sBB
  have RVE := Lib.hid rVE
  have HVE := Lib.hid sVE
  have RD1 := Lib.hid rD1
  have HD1 := Lib.hid sD1
  have RVD := Lib.hid rVD
  have HVD := Lib.hid sVD
  have RC1 := Lib.hid rC1
  have HC1 := Lib.hid sC1
  have RVC := Lib.hid rVC
  have HVC := Lib.hid sVC
  have RPX := Lib.hid rPX
  have HPX := Lib.hid sPX
  have RS1 := Lib.hid scl
  have HS1 := Lib.hid sS1
  have RT1 := Lib.hid rT1
  have HT1 := Lib.hid sT1
  have RPZ := Lib.hid rPZ
  have HPZ := Lib.hid sPZ
  have RU1 := Lib.hid rU1
  have HU1 := Lib.hid sU1
  have RQX := Lib.hid rQX
  have HQX := Lib.hid sQX
  have RW1 := Lib.hid rW1
  have HW1 := Lib.hid sW1
  have RW2 := Lib.hid rW2
  have HW2 := Lib.hid sW2
  have RQZ := Lib.hid rQZ
  have HQZ := Lib.hid sQZ
  have HX := Lib.hid x5
  have HZ := Lib.hid z5
  have HX' := Lib.hid x5'
  have HZ' := Lib.hid z5'
  have HY := Lib.hid y5
  have HM := Lib.hid (Hld.start w)
  clear scl x5 z5 x5' z5' y5 h1 h2 h3 h4 h5 eVA lVA sVA rVA eVB lVB sVB rVB eAA lAA sAA rAA eBB lBB sBB rBB eVE lVE sVE rVE eD1 lD1 sD1 rD1 eVD lVD sVD rVD eC1 lC1 sC1 rC1 eVC lVC sVC rVC ePX lPX sPX rPX eS1 lS1 sS1 rS1 eT1 lT1 sT1 rT1 ePZ lPZ sPZ rPZ eU1 lU1 sU1 rU1 eQX lQX sQX rQX eW1 lW1 sW1 rW1 eW2 lW2 sW2 rW2 eQZ lQZ sQZ rQZ
  go_enter Tryz.func97, Tryz.ntmps97
  go_upto_region 1 with ((first
    | (with_reducible refine Hold.box HM.out rfl rfl rfl ?_; clear HM; intro b w HM; simp only [List.nil_append, List.cons_append] at HM; replace HM := Lib.hid HM)
    | (with_reducible refine Hold.alloc HM.out rfl rfl zeros10 zero_pair ?_; clear HM; intro b w HM; simp only [List.nil_append, List.cons_append] at HM; replace HM := Lib.hid HM)))
  refine SteadyN.region 12 [10, 11] [0, 1, 2, 3, 4, 5, 6, 7, 8, 9] (by kernel_rfl) (by kernel_rfl) (SteadyN.Made _ 69 zeros5) (fun k hk o ho => by
    simp only [List.mem_cons, List.not_mem_nil, or_false] at hk
    rcases hk with rfl | rfl <;> (obtain rfl : _ = o := Option.some.inj ho; exact SteadyN.makes rfl 69 rfl _ zero_limbs5)) (SteadyN.Made.start _ _ _) ?_
  simp only [List.filterMap_cons, List.filterMap_nil, List.drop_succ_cons, List.drop_zero, List.getElem?_cons_zero, List.getElem?_cons_succ, Option.map_some]
  refine SteadyN.take ?_ rfl (by intro s u hu; go_simp; with_reducible rfl) ?_
  simp only [Act.put, List.setIfInBounds_toArray, List.set_cons_zero, List.set_cons_succ]
  refine SteadyN.take (.agg (X).toArray) rfl (fun s u hu => Hold.load_made HM.out.drew hu 0 rfl rfl rfl (Part.left _ _) (by rw [HX.out.1]; exact row_limbs)) ?_
  simp only [Act.put, List.setIfInBounds_toArray, List.set_cons_zero, List.set_cons_succ]
  refine SteadyN.take ?_ rfl (by intro s u hu; go_simp; with_reducible rfl) ?_
  simp only [Act.put, List.setIfInBounds_toArray, List.set_cons_zero, List.set_cons_succ]
  refine SteadyN.take (.agg (Z).toArray) rfl (fun s u hu => Hold.load_made HM.out.drew hu 0 rfl rfl rfl (Part.right HX.out.1) (by rw [HZ.out.1]; exact row_limbs)) ?_
  simp only [Act.put, List.setIfInBounds_toArray, List.set_cons_zero, List.set_cons_succ]
  refine SteadyN.call _ _ _ rfl ?_ (SteadyN.kept RVA.out) ?_
  · intro u
    go_simp
  simp only [Act.put, List.setIfInBounds_toArray, List.set_cons_zero, List.set_cons_succ]
  refine SteadyN.take ?_ rfl (by intro s u hu; go_simp; with_reducible rfl) ?_
  simp only [Act.put, List.setIfInBounds_toArray, List.set_cons_zero, List.set_cons_succ]
  refine SteadyN.take (.agg (X).toArray) rfl (fun s u hu => Hold.load_made HM.out.drew hu 0 rfl rfl rfl (Part.left _ _) (by rw [HX.out.1]; exact row_limbs)) ?_
  simp only [Act.put, List.setIfInBounds_toArray, List.set_cons_zero, List.set_cons_succ]
  refine SteadyN.take ?_ rfl (by intro s u hu; go_simp; with_reducible rfl) ?_
  simp only [Act.put, List.setIfInBounds_toArray, List.set_cons_zero, List.set_cons_succ]
  refine SteadyN.take (.agg (Z).toArray) rfl (fun s u hu => Hold.load_made HM.out.drew hu 0 rfl rfl rfl (Part.right HX.out.1) (by rw [HZ.out.1]; exact row_limbs)) ?_
  simp only [Act.put, List.setIfInBounds_toArray, List.set_cons_zero, List.set_cons_succ]
  refine SteadyN.call _ _ _ rfl ?_ (SteadyN.kept RVB.out) ?_
  · intro u
    go_simp
  simp only [Act.put, List.setIfInBounds_toArray, List.set_cons_zero, List.set_cons_succ]
  refine SteadyN.nil ?_
  simp only [SteadyN.made]
  intro p1 p2 w hS
  obtain ⟨b, b, rfl, rfl, HM2⟩ := Hold.made2 HM.out.drew hS (i := 10) (j := 11) (p := p1) (q := p2) (by simp [SteadyN.upd]) (by simp [SteadyN.upd]) (by decide)
  clear HM hS
  simp only [List.nil_append, List.cons_append] at HM2
  have HM := Lib.hid HM2
  clear HM2
  simp only [Act.put, List.setIfInBounds_toArray, List.set_cons_zero, List.set_cons_succ]
  go_upto_region 2 with ((first
    | (with_reducible refine Hold.store HM.out 5 (v' := VA) rfl rfl rfl rfl rfl (by simp [HVA.out.1, zeros5_length]) (lay_all (by simp [HVA.out.1, zeros5_length])) (HVA.out.2) (by rw [HVA.out.1]; exact row_limbs) ?_; clear HM; intro w HM; simp only [List.set_cons_zero, List.set_cons_succ] at HM; replace HM := Lib.hid HM)
    | (with_reducible refine Hold.store HM.out 6 (v' := VB) rfl rfl rfl rfl rfl (by simp [HVB.out.1, zeros5_length]) (lay_all (by simp [HVB.out.1, zeros5_length])) (HVB.out.2) (by rw [HVB.out.1]; exact row_limbs) ?_; clear HM; intro w HM; simp only [List.set_cons_zero, List.set_cons_succ] at HM; replace HM := Lib.hid HM)))
  refine SteadyN.region 8 [6, 7] [0, 1, 2, 3, 4, 5] (by kernel_rfl) (by kernel_rfl) (SteadyN.Made _ 69 zeros5) (fun k hk o ho => by
    simp only [List.mem_cons, List.not_mem_nil, or_false] at hk
    rcases hk with rfl | rfl <;> (obtain rfl : _ = o := Option.some.inj ho; exact SteadyN.makes rfl 69 rfl _ zero_limbs5)) (SteadyN.Made.start _ _ _) ?_
  simp only [List.filterMap_cons, List.filterMap_nil, List.drop_succ_cons, List.drop_zero, List.getElem?_cons_zero, List.getElem?_cons_succ, Option.map_some]
  refine SteadyN.take (.agg (VA).toArray) rfl (fun s u hu => Hold.load_made HM.out.drew hu 5 rfl rfl rfl (Part.all _) (by rw [HVA.out.1]; exact row_limbs)) ?_
  simp only [Act.put, List.setIfInBounds_toArray, List.set_cons_zero, List.set_cons_succ]
  refine SteadyN.take (.agg (VA).toArray) rfl (fun s u hu => Hold.load_made HM.out.drew hu 5 rfl rfl rfl (Part.all _) (by rw [HVA.out.1]; exact row_limbs)) ?_
  simp only [Act.put, List.setIfInBounds_toArray, List.set_cons_zero, List.set_cons_succ]
  refine SteadyN.call _ _ _ rfl ?_ (SteadyN.kept RAA.out) ?_
  · intro u
    go_simp
  simp only [Act.put, List.setIfInBounds_toArray, List.set_cons_zero, List.set_cons_succ]
  refine SteadyN.take (.agg (VB).toArray) rfl (fun s u hu => Hold.load_made HM.out.drew hu 6 rfl rfl rfl (Part.all _) (by rw [HVB.out.1]; exact row_limbs)) ?_
  simp only [Act.put, List.setIfInBounds_toArray, List.set_cons_zero, List.set_cons_succ]
  refine SteadyN.take (.agg (VB).toArray) rfl (fun s u hu => Hold.load_made HM.out.drew hu 6 rfl rfl rfl (Part.all _) (by rw [HVB.out.1]; exact row_limbs)) ?_
  simp only [Act.put, List.setIfInBounds_toArray, List.set_cons_zero, List.set_cons_succ]
  refine SteadyN.call _ _ _ rfl ?_ (SteadyN.kept RBB.out) ?_
  · intro u
    go_simp
  simp only [Act.put, List.setIfInBounds_toArray, List.set_cons_zero, List.set_cons_succ]
  refine SteadyN.nil ?_
  simp only [SteadyN.made]
  intro p1 p2 w hS
  obtain ⟨b, b, rfl, rfl, HM2⟩ := Hold.made2 HM.out.drew hS (i := 6) (j := 7) (p := p1) (q := p2) (by simp [SteadyN.upd]) (by simp [SteadyN.upd]) (by decide)
  clear HM hS
  simp only [List.nil_append, List.cons_append] at HM2
  have HM := Lib.hid HM2
  clear HM2
  simp only [Act.put, List.setIfInBounds_toArray, List.set_cons_zero, List.set_cons_succ]
  go_upto_region 3 with ((first
    | (with_reducible refine Hold.store HM.out 7 (v' := AA) rfl rfl rfl rfl rfl (by simp [HAA.out.1, zeros5_length]) (lay_all (by simp [HAA.out.1, zeros5_length])) (HAA.out.2) (by rw [HAA.out.1]; exact row_limbs) ?_; clear HM; intro w HM; simp only [List.set_cons_zero, List.set_cons_succ] at HM; replace HM := Lib.hid HM)
    | (with_reducible refine Hold.store HM.out 8 (v' := BB) rfl rfl rfl rfl rfl (by simp [HBB.out.1, zeros5_length]) (lay_all (by simp [HBB.out.1, zeros5_length])) (HBB.out.2) (by rw [HBB.out.1]; exact row_limbs) ?_; clear HM; intro w HM; simp only [List.set_cons_zero, List.set_cons_succ] at HM; replace HM := Lib.hid HM)))
  go_upto_region 4 with ((first
    | (with_reducible refine Hold.load HM.out 7 (cs := AA) rfl rfl rfl rfl (Part.all _) (by rw [HAA.out.1]; exact row_limbs) ?_)
    | (with_reducible refine Hold.load HM.out 8 (cs := BB) rfl rfl rfl rfl (Part.all _) (by rw [HBB.out.1]; exact row_limbs) ?_)
    | (with_reducible refine (RVE.out _).mono ?_; rintro e w ⟨rfl, hb⟩; replace HM := Lib.hid (HM.out.next hb); clear hb)
    | (with_reducible refine Hold.alloc HM.out rfl rfl zeros5 zero_limbs5 ?_; clear HM; intro b w HM; simp only [List.nil_append, List.cons_append] at HM; replace HM := Lib.hid HM)
    | (with_reducible refine Hold.store HM.out 9 (v' := VE) rfl rfl rfl rfl rfl (by simp [HVE.out.1, zeros5_length]) (lay_all (by simp [HVE.out.1, zeros5_length])) (HVE.out.2) (by rw [HVE.out.1]; exact row_limbs) ?_; clear HM; intro w HM; simp only [List.set_cons_zero, List.set_cons_succ] at HM; replace HM := Lib.hid HM)))
  refine SteadyN.region 8 [7] [0, 1, 2, 3, 4, 5, 6] (by kernel_rfl) (by kernel_rfl) (SteadyN.Made _ 69 zeros5) (fun k hk o ho => by
    simp only [List.mem_cons, List.not_mem_nil, or_false] at hk
    subst hk <;> (obtain rfl : _ = o := Option.some.inj ho; exact SteadyN.makes rfl 69 rfl _ zero_limbs5)) (SteadyN.Made.start _ _ _) ?_
  simp only [List.filterMap_cons, List.filterMap_nil, List.drop_succ_cons, List.drop_zero, List.getElem?_cons_zero, List.getElem?_cons_succ, Option.map_some]
  refine SteadyN.take ?_ rfl (by intro s u hu; go_simp; with_reducible rfl) ?_
  simp only [Act.put, List.setIfInBounds_toArray, List.set_cons_zero, List.set_cons_succ]
  refine SteadyN.take (.agg (X').toArray) rfl (fun s u hu => Hold.load_made HM.out.drew hu 1 rfl rfl rfl (Part.left _ _) (by rw [HX'.out.1]; exact row_limbs)) ?_
  simp only [Act.put, List.setIfInBounds_toArray, List.set_cons_zero, List.set_cons_succ]
  refine SteadyN.take ?_ rfl (by intro s u hu; go_simp; with_reducible rfl) ?_
  simp only [Act.put, List.setIfInBounds_toArray, List.set_cons_zero, List.set_cons_succ]
  refine SteadyN.take (.agg (Z').toArray) rfl (fun s u hu => Hold.load_made HM.out.drew hu 1 rfl rfl rfl (Part.right HX'.out.1) (by rw [HZ'.out.1]; exact row_limbs)) ?_
  simp only [Act.put, List.setIfInBounds_toArray, List.set_cons_zero, List.set_cons_succ]
  refine SteadyN.call _ _ _ rfl ?_ (SteadyN.kept RD1.out) ?_
  · intro u
    go_simp
  simp only [Act.put, List.setIfInBounds_toArray, List.set_cons_zero, List.set_cons_succ]
  refine SteadyN.take (.agg (VA).toArray) rfl (fun s u hu => Hold.load_made HM.out.drew hu 5 rfl rfl rfl (Part.all _) (by rw [HVA.out.1]; exact row_limbs)) ?_
  simp only [Act.put, List.setIfInBounds_toArray, List.set_cons_zero, List.set_cons_succ]
  refine SteadyN.call _ _ _ rfl ?_ (SteadyN.kept RVD.out) ?_
  · intro u
    go_simp
  simp only [Act.put, List.setIfInBounds_toArray, List.set_cons_zero, List.set_cons_succ]
  refine SteadyN.nil ?_
  simp only [SteadyN.made]
  intro p1 w hS
  obtain ⟨b, rfl, HM2⟩ := Hold.made1 HM.out.drew hS (i := 7) (p := p1) (by simp [SteadyN.upd])
  clear HM hS
  simp only [List.nil_append, List.cons_append] at HM2
  have HM := Lib.hid HM2
  clear HM2
  simp only [Act.put, List.setIfInBounds_toArray, List.set_cons_zero, List.set_cons_succ]
  go_upto_region 5 with ((first
    | (with_reducible refine Hold.store HM.out 10 (v' := VD) rfl rfl rfl rfl rfl (by simp [HVD.out.1, zeros5_length]) (lay_all (by simp [HVD.out.1, zeros5_length])) (HVD.out.2) (by rw [HVD.out.1]; exact row_limbs) ?_; clear HM; intro w HM; simp only [List.set_cons_zero, List.set_cons_succ] at HM; replace HM := Lib.hid HM)))
  refine SteadyN.region 8 [7] [0, 1, 2, 3, 4, 5, 6] (by kernel_rfl) (by kernel_rfl) (SteadyN.Made _ 69 zeros5) (fun k hk o ho => by
    simp only [List.mem_cons, List.not_mem_nil, or_false] at hk
    subst hk <;> (obtain rfl : _ = o := Option.some.inj ho; exact SteadyN.makes rfl 69 rfl _ zero_limbs5)) (SteadyN.Made.start _ _ _) ?_
  simp only [List.filterMap_cons, List.filterMap_nil, List.drop_succ_cons, List.drop_zero, List.getElem?_cons_zero, List.getElem?_cons_succ, Option.map_some]
  refine SteadyN.take ?_ rfl (by intro s u hu; go_simp; with_reducible rfl) ?_
  simp only [Act.put, List.setIfInBounds_toArray, List.set_cons_zero, List.set_cons_succ]
  refine SteadyN.take (.agg (X').toArray) rfl (fun s u hu => Hold.load_made HM.out.drew hu 1 rfl rfl rfl (Part.left _ _) (by rw [HX'.out.1]; exact row_limbs)) ?_
  simp only [Act.put, List.setIfInBounds_toArray, List.set_cons_zero, List.set_cons_succ]
  refine SteadyN.take ?_ rfl (by intro s u hu; go_simp; with_reducible rfl) ?_
  simp only [Act.put, List.setIfInBounds_toArray, List.set_cons_zero, List.set_cons_succ]
  refine SteadyN.take (.agg (Z').toArray) rfl (fun s u hu => Hold.load_made HM.out.drew hu 1 rfl rfl rfl (Part.right HX'.out.1) (by rw [HZ'.out.1]; exact row_limbs)) ?_
  simp only [Act.put, List.setIfInBounds_toArray, List.set_cons_zero, List.set_cons_succ]
  refine SteadyN.call _ _ _ rfl ?_ (SteadyN.kept RC1.out) ?_
  · intro u
    go_simp
  simp only [Act.put, List.setIfInBounds_toArray, List.set_cons_zero, List.set_cons_succ]
  refine SteadyN.take (.agg (VB).toArray) rfl (fun s u hu => Hold.load_made HM.out.drew hu 6 rfl rfl rfl (Part.all _) (by rw [HVB.out.1]; exact row_limbs)) ?_
  simp only [Act.put, List.setIfInBounds_toArray, List.set_cons_zero, List.set_cons_succ]
  refine SteadyN.call _ _ _ rfl ?_ (SteadyN.kept RVC.out) ?_
  · intro u
    go_simp
  simp only [Act.put, List.setIfInBounds_toArray, List.set_cons_zero, List.set_cons_succ]
  refine SteadyN.nil ?_
  simp only [SteadyN.made]
  intro p1 w hS
  obtain ⟨b, rfl, HM2⟩ := Hold.made1 HM.out.drew hS (i := 7) (p := p1) (by simp [SteadyN.upd])
  clear HM hS
  simp only [List.nil_append, List.cons_append] at HM2
  have HM := Lib.hid HM2
  clear HM2
  simp only [Act.put, List.setIfInBounds_toArray, List.set_cons_zero, List.set_cons_succ]
  go_upto_region 6 with ((first
    | (with_reducible refine Hold.store HM.out 11 (v' := VC) rfl rfl rfl rfl rfl (by simp [HVC.out.1, zeros5_length]) (lay_all (by simp [HVC.out.1, zeros5_length])) (HVC.out.2) (by rw [HVC.out.1]; exact row_limbs) ?_; clear HM; intro w HM; simp only [List.set_cons_zero, List.set_cons_succ] at HM; replace HM := Lib.hid HM)))
  go_upto_region 7 with ((first
    | (with_reducible refine Hold.load HM.out 7 (cs := AA) rfl rfl rfl rfl (Part.all _) (by rw [HAA.out.1]; exact row_limbs) ?_)
    | (with_reducible refine Hold.load HM.out 8 (cs := BB) rfl rfl rfl rfl (Part.all _) (by rw [HBB.out.1]; exact row_limbs) ?_)
    | (with_reducible refine (RPX.out _).mono ?_; rintro e w ⟨rfl, hb⟩; replace HM := Lib.hid (HM.out.next hb); clear hb)
    | (with_reducible refine Hold.store HM.out 0 (v' := PX ++ Z) rfl rfl rfl rfl rfl (by simp [HX.out.1, HPX.out.1]) (lay_left (HX.out.1.trans HPX.out.1.symm)) (HPX.out.2) (by rw [HPX.out.1]; exact row_limbs) ?_; clear HM; intro w HM; simp only [List.set_cons_zero] at HM; replace HM := Lib.hid HM)))
  refine Steady.region 7 (by kernel_rfl) (by kernel_rfl) (fun u => Hld _ _ u) HM.out.drew ?_
  simp only [List.take_succ_cons, List.take_zero, List.drop_succ_cons, List.drop_zero]
  refine Steady.take (.agg (VE).toArray) rfl (fun u hu => Hold.load_run hu 9 rfl rfl rfl (Part.all _) (by rw [HVE.out.1]; exact row_limbs)) ?_
  simp only [Act.put, List.setIfInBounds_toArray, List.set_cons_zero, List.set_cons_succ]
  refine Steady.take (.agg (AA).toArray) rfl (fun u hu => Hold.load_run hu 7 rfl rfl rfl (Part.all _) (by rw [HAA.out.1]; exact row_limbs)) ?_
  simp only [Act.put, List.setIfInBounds_toArray, List.set_cons_zero, List.set_cons_succ]
  refine Steady.take (.agg (VE).toArray) rfl (fun u hu => Hold.load_run hu 9 rfl rfl rfl (Part.all _) (by rw [HVE.out.1]; exact row_limbs)) ?_
  simp only [Act.put, List.setIfInBounds_toArray, List.set_cons_zero, List.set_cons_succ]
  refine Steady.call _ _ _ rfl ?_ (Hold.kept RS1.out) ?_
  · intro u
    go_simp
  simp only [Act.put, List.setIfInBounds_toArray, List.set_cons_zero, List.set_cons_succ]
  refine Steady.call _ _ _ rfl ?_ (Hold.kept RT1.out) ?_
  · intro u
    go_simp
  simp only [Act.put, List.setIfInBounds_toArray, List.set_cons_zero, List.set_cons_succ]
  refine Steady.call _ _ _ rfl ?_ (Hold.kept RPZ.out) ?_
  · intro u
    go_simp
  simp only [Act.put, List.setIfInBounds_toArray, List.set_cons_zero, List.set_cons_succ]
  refine Steady.take ?_ rfl (by intro u hu; go_simp; with_reducible rfl) ?_
  simp only [Act.put, List.setIfInBounds_toArray, List.set_cons_zero, List.set_cons_succ]
  refine Steady.nil ?_
  clear HM
  intro w HM
  replace HM := Lib.hid HM
  go_upto_region 8 with ((first
    | (with_reducible refine Hold.store HM.out 0 (v' := PX ++ PZ) rfl rfl rfl rfl rfl (by simp [HPX.out.1, HZ.out.1, HPZ.out.1]) (lay_right HPX.out.1 (HZ.out.1.trans HPZ.out.1.symm)) (HPZ.out.2) (by rw [HPZ.out.1]; exact row_limbs) ?_; clear HM; intro w HM; simp only [List.set_cons_zero] at HM; replace HM := Lib.hid HM)))
  go_upto_region 9 with ((first
    | (with_reducible refine Hold.load HM.out 10 (cs := VD) rfl rfl rfl rfl (Part.all _) (by rw [HVD.out.1]; exact row_limbs) ?_)
    | (with_reducible refine Hold.load HM.out 11 (cs := VC) rfl rfl rfl rfl (Part.all _) (by rw [HVC.out.1]; exact row_limbs) ?_)
    | (with_reducible refine (RU1.out _).mono ?_; rintro e w ⟨rfl, hb⟩; replace HM := Lib.hid (HM.out.next hb); clear hb)
    | (with_reducible refine (RQX.out _).mono ?_; rintro e w ⟨rfl, hb⟩; replace HM := Lib.hid (HM.out.next hb); clear hb)
    | (with_reducible refine Hold.store HM.out 1 (v' := QX ++ Z') rfl rfl rfl rfl rfl (by simp [HX'.out.1, HQX.out.1]) (lay_left (HX'.out.1.trans HQX.out.1.symm)) (HQX.out.2) (by rw [HQX.out.1]; exact row_limbs) ?_; clear HM; intro w HM; simp only [List.set_cons_zero, List.set_cons_succ] at HM; replace HM := Lib.hid HM)))
  refine Steady.region 7 (by kernel_rfl) (by kernel_rfl) (fun u => Hld _ _ u) HM.out.drew ?_
  simp only [List.take_succ_cons, List.take_zero, List.drop_succ_cons, List.drop_zero]
  refine Steady.take (.agg (Y).toArray) rfl (fun u hu => Hold.load_run hu 2 rfl rfl rfl (Part.all _) (by rw [HY.out.1]; exact row_limbs)) ?_
  simp only [Act.put, List.setIfInBounds_toArray, List.set_cons_zero, List.set_cons_succ]
  refine Steady.take (.agg (VD).toArray) rfl (fun u hu => Hold.load_run hu 10 rfl rfl rfl (Part.all _) (by rw [HVD.out.1]; exact row_limbs)) ?_
  simp only [Act.put, List.setIfInBounds_toArray, List.set_cons_zero, List.set_cons_succ]
  refine Steady.take (.agg (VC).toArray) rfl (fun u hu => Hold.load_run hu 11 rfl rfl rfl (Part.all _) (by rw [HVC.out.1]; exact row_limbs)) ?_
  simp only [Act.put, List.setIfInBounds_toArray, List.set_cons_zero, List.set_cons_succ]
  refine Steady.call _ _ _ rfl ?_ (Hold.kept RW1.out) ?_
  · intro u
    go_simp
  simp only [Act.put, List.setIfInBounds_toArray, List.set_cons_zero, List.set_cons_succ]
  refine Steady.call _ _ _ rfl ?_ (Hold.kept RW2.out) ?_
  · intro u
    go_simp
  simp only [Act.put, List.setIfInBounds_toArray, List.set_cons_zero, List.set_cons_succ]
  refine Steady.call _ _ _ rfl ?_ (Hold.kept RQZ.out) ?_
  · intro u
    go_simp
  simp only [Act.put, List.setIfInBounds_toArray, List.set_cons_zero, List.set_cons_succ]
  refine Steady.take ?_ rfl (by intro u hu; go_simp; with_reducible rfl) ?_
  simp only [Act.put, List.setIfInBounds_toArray, List.set_cons_zero, List.set_cons_succ]
  refine Steady.nil ?_
  clear HM
  intro w HM
  replace HM := Lib.hid HM
  go_upto_region 10 with ((first
    | (with_reducible refine Hold.store HM.out 1 (v' := QX ++ QZ) rfl rfl rfl rfl rfl (by simp [HQX.out.1, HZ'.out.1, HQZ.out.1]) (lay_right HQX.out.1 (HZ'.out.1.trans HQZ.out.1.symm)) (HQZ.out.2) (by rw [HQZ.out.1]; exact row_limbs) ?_; clear HM; intro w HM; simp only [List.set_cons_zero, List.set_cons_succ] at HM; replace HM := Lib.hid HM)))
  have HAC := Lib.hid (show (PX ++ PZ).length = 10 by simp [HPX.out.1, HPZ.out.1])
  have HBD := Lib.hid (show (QX ++ QZ).length = 10 by simp [HQX.out.1, HQZ.out.1])
  refine Hold.pair_end (k0 := 0) (k1 := 1) (k2 := 3) (k3 := 4) HM.out (by kernel_rfl) (by kernel_rfl) (by kernel_rfl) (by kernel_rfl) (by kernel_rfl) (by kernel_rfl) (by kernel_rfl) (by kernel_rfl) rfl rfl rfl rfl rfl rfl rfl rfl rfl rfl rfl rfl rfl rfl rfl rfl (by decide) (by simp [Act.put]) (by simp [Act.put]) rfl rfl rfl rfl (by decide)
    (by rw [HAC.out]; exact row_pair) (by rw [HBD.out]; exact row_pair) (by rw [HAC.out]; exact row_pair) (by rw [HBD.out]; exact row_pair) (by rw [HAC.out]; rfl) (by rw [HBD.out]; rfl) (HPX.out.2.append HPZ.out.2) (HQX.out.2.append HQZ.out.2) ?_
  clear HM
  intro w HM
  simp only [List.set_cons_zero, List.set_cons_succ] at HM
  replace HM := Lib.hid HM
  go_wp2
  exact bodyPost_ret (Hold.results2 HM.out 3 4 rfl _ rfl rfl rfl rfl (by rw [HAC.out]; exact row_pair) (by rw [HBD.out]; exact row_pair)) rfl ⟨rfl, HM.out.below⟩
end Go.Proofs.YtolmfimpaofefaaGreatDoor.LadC

namespace Go.Proofs.YtolmfimpaofefaaGreatDoor.LadC
open Go.RowKit Mur Lanes Limb Hold Lad
set_option maxRecDepth 100000

/-- The bits of a text. -/
def bt (s : ByteArray) (i : Nat) : Nat := bit s.data.toList (i : Int)
theorem bt_lt (s : ByteArray) (i : Nat) : bt s i < 2 := by
  unfold bt bit
  split
  · decide
  · exact Nat.mod_lt _ (by decide)

/-- A pair of limbs twice, worth s. -/
structure Four (A B C D : List Value) (s : St) : Prop where
  a : LimL A s.a
  b : LimL B s.b
  c : LimL C s.c
  d : LimL D s.d
theorem exch_some {A B C D : List Value} {s : St} {n : Nat} (h : Four A B C D s) (hn : n < 9223372036854775808) :
    ∃ A' B' C' D', Four A' B' C' D' (exch n s) ∧ ∀ u, Calls Tryz.prog 96 #[.agg (A ++ B).toArray, .agg (C ++ D).toArray, .int .i64 n] u fun r w' => r = .returned (.tuple #[.agg (A' ++ B').toArray, .agg (C' ++ D').toArray]) ∧ Below u.heap.size u w' := by
  have R := fun u => exchanged_any h.a h.b h.c h.d hn u
  unfold exch
  by_cases e : n % 2 = 1
  · simp only [if_pos e] at R ⊢
    exact ⟨C, D, A, B, ⟨h.c, h.d, h.a, h.b⟩, R⟩
  · simp only [if_neg e] at R ⊢
    exact ⟨A, B, C, D, h, R⟩
theorem rung_some {A B C D Y : List Value} {s : St} {N : Nat} (h : Four A B C D s) (hY : LimL Y N) :
    ∃ A' B' C' D', Four A' B' C' D' (rungN N s) ∧ ∀ u, Calls Tryz.prog 97 #[.agg (A ++ B).toArray, .agg (C ++ D).toArray, .agg Y.toArray] u fun r w' => r = .returned (.tuple #[.agg (A' ++ B').toArray, .agg (C' ++ D').toArray]) ∧ Below u.heap.size u w' :=
  ⟨_, _, _, _, ⟨LimL.ofMod _, LimL.ofMod _, LimL.ofMod _, LimL.ofMod _⟩, fun u => rung_any h.a h.b h.c h.d hY u⟩
def one5 : List Value := [.int .u64 1, .int .u64 0, .int .u64 0, .int .u64 0, .int .u64 0]
theorem one5_l : LimL one5 1 := LimL.ofFive (a := 1) (b := 0) (c := 0) (d := 0) (e := 0) (by unfold Words5; omega)
theorem zeros5_l : LimL zeros5 0 := LimL.ofFive (a := 0) (b := 0) (c := 0) (d := 0) (e := 0) (by unfold Words5; omega)
theorem built_one : Tryz.prog.built 69 [(0, .int .u64 1)] = some one5.toArray := by kernel_rfl
theorem built_first : Tryz.prog.built 115 [(0, .agg one5.toArray)] = some (one5 ++ zeros5).toArray := by kernel_rfl
theorem built_pair {X : List Value} {N : Nat} (h : LimL X N) : Tryz.prog.built 115 [(0, .agg X.toArray), (1, .agg one5.toArray)] = some (X ++ one5).toArray := by
  obtain ⟨a, b, c, d, e, rfl, -, -⟩ := h.out
  kernel_rfl
theorem Four.len {A B C D : List Value} {s : St} (h : Four A B C D s) : (A.length = 5 ∧ B.length = 5 ∧ C.length = 5 ∧ D.length = 5) ∧ (A ++ B).length = 10 ∧ (C ++ D).length = 10 ∧ Single (A ++ B) ∧ Single (C ++ D) :=
  ⟨⟨h.a.len, h.b.len, h.c.len, h.d.len⟩, by rw [List.length_append, h.a.len, h.b.len], by rw [List.length_append, h.c.len, h.d.len], h.a.one.append h.b.one, h.c.one.append h.d.one⟩

set_option maxHeartbeats 4000000 in
theorem ladder_any {Y : List Value} {N : Nat} (s : ByteArray) (hY : LimL Y N) (hs : s.size ≤ 140737488351232) (w0 : World) :
    Calls Tryz.prog 70 #[.string s, .agg Y.toArray] w0 fun r w' => r = .returned (.agg (limL (ladder (bt s) N)).toArray) ∧ Below w0.heap.size w0 w' := by
  have y5 : Y.length = 5 ∧ Single Y := ⟨hY.len, hY.one⟩
  have o5 : one5.length = 5 ∧ Single one5 := ⟨one5_l.len, one5_l.one⟩
  have hb := fun (k : Nat) (hk : k < 255) u => show Calls Tryz.prog 95 #[.string s, .int .i64 (254 - (k : Int))] u fun e w' => e = .returned (.int .i64 (bt s (254 - k) : Nat)) ∧ u = w' by
    have := bit_any s ((254 - k : Nat) : Int) u (by omega) (by omega) hs
    unfold bt
    rw [show ((254 - k : Nat) : Int) = 254 - (k : Int) by omega] at this ⊢
    exact this
  have HBIT := Lib.hid hb
  have HY := Lib.hid y5
  have HO := Lib.hid o5
  have LY := Lib.hid hY
  have HM := Lib.hid (Hld.start w0)
  clear y5 o5 hb hY hs
  go_enter Tryz.func70, Tryz.ntmps70
  go_upto_region 1 with ((first
    | (with_reducible refine Hold.box HM.out rfl rfl rfl ?_; clear HM; intro bx w HM; simp only [List.nil_append] at HM; replace HM := Lib.hid HM)
    | (with_reducible refine Hold.alloc HM.out rfl rfl zeros5 zero_limbs5 ?_; clear HM; intro br w HM; simp only [List.nil_append, List.cons_append] at HM; replace HM := Lib.hid HM)))
  refine wp_region_held (S := fun u => Hld w0 [⟨bx, 69, Y⟩, ⟨br, 69, zeros5⟩] u) (by kernel_rfl) ?_
  show wpAnyH _ _ _ _ _ 9 _ _ (World.drew _)
  refine wpAnyH_take (i := 0) (v := .agg (one5).toArray) rfl (by kernel_rfl) (by kernel_rfl) (by kernel_rfl) (fun _ _ _ h => h) (.inl ⟨by rfl, fun u hu => Hold.build_run rfl (by simp [Act.eval, Act.put]; exact built_one)⟩) HM.out.drew ?_
  simp only [Act.put, List.setIfInBounds_toArray, List.set_cons_zero, List.set_cons_succ]
  refine wpAnyH_take (i := 1) (v := .agg (one5 ++ zeros5).toArray) rfl (by kernel_rfl) (by kernel_rfl) (by kernel_rfl) (fun _ _ _ h => h) (.inl ⟨by rfl, fun u hu => Hold.build_run rfl (by simp [Act.eval]; exact built_first)⟩) HM.out.drew ?_
  simp only [Act.put]
  refine wpAnyH_take (i := 2) (v := .agg (Y).toArray) rfl (by kernel_rfl) (by kernel_rfl) (by kernel_rfl) (fun _ _ _ h => h) (.inl ⟨by rfl, fun u hu => Hold.load_run hu 0 rfl rfl rfl (Part.all _) (by rw [HY.out.1]; exact row_limbs)⟩) HM.out.drew ?_
  simp only [Act.put]
  refine wpAnyH_take (i := 3) (v := .agg (one5).toArray) rfl (by kernel_rfl) (by kernel_rfl) (by kernel_rfl) (fun _ _ _ h => h) (.inl ⟨by rfl, fun u hu => Hold.build_run rfl (by simp [Act.eval]; exact built_one)⟩) HM.out.drew ?_
  simp only [Act.put]
  refine wpAnyH_take (i := 4) (v := .agg (Y ++ one5).toArray) rfl (by kernel_rfl) (by kernel_rfl) (by kernel_rfl) (fun _ _ _ h => h) (.inl ⟨by rfl, fun u hu => Hold.build_run rfl (by simp [Act.eval]; exact built_pair LY.out)⟩) HM.out.drew ?_
  simp only [Act.put]
  refine Hold.new_end (i := 5) (j := 6) (k := 7) (l := 8) (di := 5) (dj := 6) (x := 10) (y := 13) (v := one5 ++ zeros5) (v' := Y ++ one5) HM.out.drew rfl rfl rfl rfl (by decide) (by kernel_rfl) (by kernel_rfl) (by kernel_rfl) (by kernel_rfl) (by kernel_rfl) (by kernel_rfl) rfl rfl rfl rfl rfl rfl rfl rfl rfl rfl rfl rfl rfl rfl (by decide) (by simp) (by simp) zero_pair zero_pair (by rw [List.length_append, HO.out.1, zeros5_length]; exact row_pair) (by rw [List.length_append, HY.out.1, HO.out.1]; exact row_pair)
    (by rw [List.length_append, HO.out.1, zeros5_length]; rfl) (by rw [List.length_append, HY.out.1, HO.out.1]; rfl) (HO.out.2.append zeros5_l.one) (HY.out.2.append HO.out.2) ?_
  clear HM
  intro bn bf w HM
  simp only [List.nil_append, List.cons_append] at HM
  replace HM := Lib.hid HM
  simp only [Act.put]
  go_wp2
  go_loopw [7, 8, 14] (fun _ _ i wr => ∃ k : Nat, k ≤ 255 ∧ i = .int .i64 k ∧ ∃ A B C D, Four A B C D (ladN (bt s) N k) ∧ Hld w0 [⟨bx, 69, Y⟩, ⟨br, 69, zeros5⟩, ⟨bn, 115, A ++ B⟩, ⟨bf, 115, C ++ D⟩] wr) (fun _ _ i _ => 255 - (intOf i).toNat)
  case atStart => exact ⟨0, by omega, rfl, one5, zeros5, Y, one5, ⟨one5_l, zeros5_l, LY.out, one5_l⟩, HM.out⟩
  case round =>
    obtain ⟨k, hk5, rfl, A1, B1, C1, D1, hf, hm⟩ := hrel
    clear HM
    have F1 := Lib.hid hf
    have HM := Lib.hid hm
    clear hf hm
    by_cases hlt : k < 255
    · have hd2 : decide ((k : Int) < 255) = true := by simp; omega
      have ik : (k : Int) ≤ 254 := by omega
      obtain ⟨n, hn⟩ : ∃ n, n = bt s (254 - k) := ⟨_, rfl⟩
      have hnl : n < 9223372036854775808 := by
        have := bt_lt s (254 - k)
        omega
      have hnext : ladN (bt s) N (k + 1) = exch n (rungN N (exch n (ladN (bt s) N k))) := by rw [hn]; rfl
      obtain ⟨A2, B2, C2, D2, f2, r2⟩ := exch_some F1.out hnl
      obtain ⟨A3, B3, C3, D3, f3, r3⟩ := rung_some f2 LY.out
      obtain ⟨A4, B4, C4, D4, f4, r4⟩ := exch_some f3 hnl
      rw [← hnext] at f4
      have rb := fun u => HBIT.out k hlt u
      rw [← hn] at rb
      have RB := Lib.hid rb
      have R2 := Lib.hid r2
      have R3 := Lib.hid r3
      have R4 := Lib.hid r4
      have F2 := Lib.hid f2
      have F3 := Lib.hid f3
      have F4 := Lib.hid f4
      clear r2 r3 r4 f2 f3 f4 rb hn hnext
      go_upto_region 6 with ((first
        | (with_reducible refine (RB.out _).mono ?_; rintro e w ⟨rfl, rfl⟩)))
      go_upto_region 7 with ((first
        | (with_reducible refine Hold.load HM.out 2 (cs := A1 ++ B1) rfl rfl rfl rfl (Part.all _) (by rw [F1.out.len.2.1]; exact row_pair) ?_)
        | (with_reducible refine Hold.load HM.out 3 (cs := C1 ++ D1) rfl rfl rfl rfl (Part.all _) (by rw [F1.out.len.2.2.1]; exact row_pair) ?_)
        | (with_reducible refine (R2.out _).mono ?_; rintro e w ⟨rfl, hb⟩; replace HM := Lib.hid (HM.out.next hb); clear hb)
        | (with_reducible refine Hold.store HM.out 2 (v' := A2 ++ B2) rfl rfl rfl rfl rfl (by rw [Nat.zero_add, F2.out.len.2.1, F1.out.len.2.1]; exact Nat.le_refl _) (lay_all (F1.out.len.2.1.trans F2.out.len.2.1.symm)) (F2.out.len.2.2.2.1) (by rw [F2.out.len.2.1]; exact row_pair) ?_; clear HM; intro w HM; simp only [List.set_cons_zero, List.set_cons_succ] at HM; replace HM := Lib.hid HM)
        | (with_reducible refine Hold.store HM.out 3 (v' := C2 ++ D2) rfl rfl rfl rfl rfl (by rw [Nat.zero_add, F2.out.len.2.2.1, F1.out.len.2.2.1]; exact Nat.le_refl _) (lay_all (F1.out.len.2.2.1.trans F2.out.len.2.2.1.symm)) (F2.out.len.2.2.2.2) (by rw [F2.out.len.2.2.1]; exact row_pair) ?_; clear HM; intro w HM; simp only [List.set_cons_zero, List.set_cons_succ] at HM; replace HM := Lib.hid HM)))
      go_upto_region 8 with ((first
        | (with_reducible refine Hold.load HM.out 2 (cs := A2 ++ B2) rfl rfl rfl rfl (Part.all _) (by rw [F2.out.len.2.1]; exact row_pair) ?_)
        | (with_reducible refine Hold.load HM.out 3 (cs := C2 ++ D2) rfl rfl rfl rfl (Part.all _) (by rw [F2.out.len.2.2.1]; exact row_pair) ?_)
        | (with_reducible refine Hold.load HM.out 0 (cs := Y) rfl rfl rfl rfl (Part.all _) (by rw [HY.out.1]; exact row_limbs) ?_)
        | (with_reducible refine (R3.out _).mono ?_; rintro e w ⟨rfl, hb⟩; replace HM := Lib.hid (HM.out.next hb); clear hb)
        | (with_reducible refine Hold.store HM.out 2 (v' := A3 ++ B3) rfl rfl rfl rfl rfl (by rw [Nat.zero_add, F3.out.len.2.1, F2.out.len.2.1]; exact Nat.le_refl _) (lay_all (F2.out.len.2.1.trans F3.out.len.2.1.symm)) (F3.out.len.2.2.2.1) (by rw [F3.out.len.2.1]; exact row_pair) ?_; clear HM; intro w HM; simp only [List.set_cons_zero, List.set_cons_succ] at HM; replace HM := Lib.hid HM)
        | (with_reducible refine Hold.store HM.out 3 (v' := C3 ++ D3) rfl rfl rfl rfl rfl (by rw [Nat.zero_add, F3.out.len.2.2.1, F2.out.len.2.2.1]; exact Nat.le_refl _) (lay_all (F2.out.len.2.2.1.trans F3.out.len.2.2.1.symm)) (F3.out.len.2.2.2.2) (by rw [F3.out.len.2.2.1]; exact row_pair) ?_; clear HM; intro w HM; simp only [List.set_cons_zero, List.set_cons_succ] at HM; replace HM := Lib.hid HM)))
      go_upto_region 9 with ((first
        | (with_reducible refine Hold.load HM.out 2 (cs := A3 ++ B3) rfl rfl rfl rfl (Part.all _) (by rw [F3.out.len.2.1]; exact row_pair) ?_)
        | (with_reducible refine Hold.load HM.out 3 (cs := C3 ++ D3) rfl rfl rfl rfl (Part.all _) (by rw [F3.out.len.2.2.1]; exact row_pair) ?_)
        | (with_reducible refine (R4.out _).mono ?_; rintro e w ⟨rfl, hb⟩; replace HM := Lib.hid (HM.out.next hb); clear hb)
        | (with_reducible refine Hold.store HM.out 2 (v' := A4 ++ B4) rfl rfl rfl rfl rfl (by rw [Nat.zero_add, F4.out.len.2.1, F3.out.len.2.1]; exact Nat.le_refl _) (lay_all (F3.out.len.2.1.trans F4.out.len.2.1.symm)) (F4.out.len.2.2.2.1) (by rw [F4.out.len.2.1]; exact row_pair) ?_; clear HM; intro w HM; simp only [List.set_cons_zero, List.set_cons_succ] at HM; replace HM := Lib.hid HM)
        | (with_reducible refine Hold.store HM.out 3 (v' := C4 ++ D4) rfl rfl rfl rfl rfl (by rw [Nat.zero_add, F4.out.len.2.2.1, F3.out.len.2.2.1]; exact Nat.le_refl _) (lay_all (F3.out.len.2.2.1.trans F4.out.len.2.2.1.symm)) (F4.out.len.2.2.2.2) (by rw [F4.out.len.2.2.1]; exact row_pair) ?_; clear HM; intro w HM; simp only [List.set_cons_zero, List.set_cons_succ] at HM; replace HM := Lib.hid HM)))
      go_wp2
      go_roundw
      case rel => exact ⟨k + 1, by omega, by go_num, A4, B4, C4, D4, F4.out, HM.out⟩
      case measure => simp [intOf]; omega
    · have hd2 : decide ((k : Int) < 255) = false := by simp; omega
      obtain rfl : k = 255 := by omega
      have ri := fun u => invert_l F1.out.b u
      obtain ⟨V, hV, lV⟩ : ∃ V, V = limL ((ladN (bt s) N 255).b ^ (Prime.P - 2) % Prime.P) ∧ LimL V _ := ⟨_, rfl, LimL.ofMod _⟩
      rw [← hV] at ri
      have rt := fun u => times_l F1.out.a lV u
      obtain ⟨W, hW, lW⟩ : ∃ V, V = limL (ladder (bt s) N) ∧ LimL V _ := ⟨_, rfl, LimL.ofMod _⟩
      change ∀ u, Calls _ _ _ u fun r w' => r = .returned (.agg (limL (ladder (bt s) N)).toArray) ∧ _ at rt
      rw [← hW] at rt
      have RI := Lib.hid ri
      have RT := Lib.hid rt
      have HW := Lib.hid (show W.length = 5 ∧ Single W from ⟨lW.len, lW.one⟩)
      have HA1 := Lib.hid (show A1.length = 5 from F1.out.a.len)
      have HB1 := Lib.hid (show B1.length = 5 from F1.out.b.len)
      have HWE := Lib.hid hW
      clear ri rt hV lV hW lW
      go_upto_region 10 with (fail)
      refine Steady.region 6 (by kernel_rfl) (by kernel_rfl) (fun u => Hld _ _ u) HM.out.drew ?_
      simp only [List.take_succ_cons, List.take_zero, List.drop_succ_cons, List.drop_zero]
      refine Steady.take ?_ rfl (by intro u hu; go_simp; with_reducible rfl) ?_
      simp only [Act.put, List.setIfInBounds_toArray, List.set_cons_zero, List.set_cons_succ]
      refine Steady.take (.agg (A1).toArray) rfl (fun u hu => Hold.load_run hu 2 rfl rfl rfl (Part.left _ _) (by rw [HA1.out]; exact row_limbs)) ?_
      simp only [Act.put, List.setIfInBounds_toArray, List.set_cons_zero, List.set_cons_succ]
      refine Steady.take ?_ rfl (by intro u hu; go_simp; with_reducible rfl) ?_
      simp only [Act.put, List.setIfInBounds_toArray, List.set_cons_zero, List.set_cons_succ]
      refine Steady.take (.agg (B1).toArray) rfl (fun u hu => Hold.load_run hu 2 rfl rfl rfl (Part.right HA1.out) (by rw [HB1.out]; exact row_limbs)) ?_
      simp only [Act.put, List.setIfInBounds_toArray, List.set_cons_zero, List.set_cons_succ]
      refine Steady.call _ _ _ rfl ?_ (Hold.kept RI.out) ?_
      · intro u
        go_simp
      simp only [Act.put, List.setIfInBounds_toArray, List.set_cons_zero, List.set_cons_succ]
      refine Steady.call _ _ _ rfl ?_ (Hold.kept RT.out) ?_
      · intro u
        go_simp
      simp only [Act.put, List.setIfInBounds_toArray, List.set_cons_zero, List.set_cons_succ]
      refine Steady.nil ?_
      clear HM
      intro w HM
      replace HM := Lib.hid HM
      go_wp2_with ((first
        | (with_reducible refine Hold.store HM.out 1 (v' := W) rfl rfl rfl rfl rfl (by simp [HW.out.1, zeros5_length]) (lay_all (by simp [HW.out.1, zeros5_length])) (HW.out.2) (by rw [HW.out.1]; exact row_limbs) ?_; clear HM; intro w HM; simp only [List.set_cons_zero, List.set_cons_succ] at HM; replace HM := Lib.hid HM)))
      exact bodyPost_ret (Hold.results1 HM.out 1 rfl _ rfl rfl (by rw [HW.out.1]; exact row_limbs)) rfl ⟨by rw [HWE.out], HM.out.below⟩
end Go.Proofs.YtolmfimpaofefaaGreatDoor.LadC

namespace Go.Proofs.YtolmfimpaofefaaGreatDoor.LadC
open Go.RowKit Mur Lanes Limb Hold
set_option maxRecDepth 100000

/-- 32 bytes of a text. -/
def pad (l : List UInt8) : List UInt8 := (l ++ List.replicate 32 0).take 32
/-- .. clamped. -/
def clamp (l : List UInt8) : List UInt8 := ((pad l).set 0 ((pad l).getD 0 0 &&& 248)).set 31 ((pad l).getD 31 0 &&& 127 ||| 64)
theorem pad_length (l : List UInt8) : (pad l).length = 32 := by simp [pad]
theorem clamp_length (l : List UInt8) : (clamp l).length = 32 := by simp [clamp, pad_length]
def zeros32 : List Value := bytesV (List.replicate 32 0)
theorem zero_bytes32 : (Tryz.prog.info? 121).map (fun i => (i.zero, i.size)) = some (some (.agg zeros32.toArray), zeros32.length) := by kernel_rfl
theorem zeros32_length : zeros32.length = 32 := rfl
theorem row_bytes32 : TyRow Tryz.prog 121 32 := ⟨_, Tryz.underlying121, rfl, by kernel_rfl⟩
theorem single_bytes (l : List UInt8) : Single (bytesV l) := by
  unfold Single bytesV
  simp [Value.oneCell']
theorem single_zeros32 : Single zeros32 := single_bytes _
theorem built_bytes32 : Tryz.prog.built 121 [] = some zeros32.toArray := by kernel_rfl
theorem lay_pad (l : List UInt8) : lay zeros32 0 ((bytesV l).take (min l.length 32)) = bytesV (pad l) := by
  have h1 : zeros32 = bytesV (List.replicate (min l.length 32) 0) ++ bytesV (List.replicate (32 - min l.length 32) 0) := by
    unfold zeros32 bytesV
    rw [← List.map_append, List.replicate_append_replicate, show min l.length 32 + (32 - min l.length 32) = 32 by omega]
  have h2 : (bytesV l).take (min l.length 32) = bytesV (l.take (min l.length 32)) := by simp [bytesV, List.map_take]
  rw [h1, h2, lay_left (by simp [bytesV_length])]
  unfold bytesV
  rw [← List.map_append]
  congr 1
  unfold pad
  rw [List.take_append, List.take_replicate]
  congr 1
  · rcases Nat.le_total l.length 32 with h | h
    · rw [Nat.min_eq_left h, List.take_of_length_le (Nat.le_refl _), List.take_of_length_le h]
    · rw [Nat.min_eq_right h]
  · congr 1
    omega
theorem byte_cell {w : World} {b : Nat} {t : TypeId} {L : List UInt8} (h : Whole w b t (bytesV L)) {i : Nat} (hi : i < L.length) : w.cell? ⟨b, i, none⟩ = some (.int .u8 ((L.getD i 0).toNat : Int)) := by
  rw [h.row.cell (bytesV_at hi)]
  simp [List.getD, hi]
theorem byte_free {w : World} {b : Nat} {t : TypeId} {L : List UInt8} (h : Whole w b t (bytesV L)) {i : Nat} (hi : i < L.length) : w.frozen? ⟨b, i, none⟩ = false :=
  h.row.free (by rw [bytesV_length]; exact hi)
theorem set_byte {w0 w : World} {b : Nat} {t : TypeId} {L : List UInt8} (h : Hld w0 [⟨b, t, bytesV L⟩] w) (i : Nat) (x : UInt8) : Hld w0 [⟨b, t, bytesV (L.set i x)⟩] (w.setCell ⟨b, i, none⟩ (.int .u8 (x.toNat : Int))) := by
  have := h.set 0 rfl i [.int .u8 (x.toNat : Int)]
  rw [← bytesV_set]
  exact this
theorem not7 (x : UInt8) : bits .andNot .u8 (x.toNat : Int) 7 = ((x &&& 248).toNat : Int) := by
  have := u8_andNot_nat x.toNat 7 x.toNat_lt (by decide)
  rw [UInt8.toNat_and]
  exact this
theorem not128 (x : UInt8) : bits .andNot .u8 (x.toNat : Int) 128 = ((x &&& 127).toNat : Int) := by
  have := u8_andNot_nat x.toNat 128 x.toNat_lt (by decide)
  rw [UInt8.toNat_and]
  exact this
theorem or64 (x : UInt8) : bits .or .u8 (x.toNat : Int) 64 = ((x ||| 64).toNat : Int) := or_u8 x 64

set_option maxHeartbeats 1600000 in
theorem clamp_any (s : ByteArray) (w0 : World) :
    Calls Tryz.prog 71 #[.string s] w0 fun r w' => r = .returned (.string ⟨(clamp s.data.toList).toArray⟩) ∧ Below w0.heap.size w0 w' := by
  obtain ⟨L, hL⟩ : ∃ L, L = pad s.data.toList := ⟨_, rfl⟩
  have hL5 : L.length = 32 := by rw [hL]; exact pad_length _
  obtain ⟨x, hx⟩ : ∃ x, x = L.getD 0 0 := ⟨_, rfl⟩
  obtain ⟨y, hy⟩ : ∃ x, x = L.getD 31 0 := ⟨_, rfl⟩
  have hres : clamp s.data.toList = (L.set 0 (x &&& 248)).set 31 (y &&& 127 ||| 64) := by rw [hx, hy, hL]; rfl
  obtain ⟨x1, hx1⟩ : ∃ z, z = x &&& 248 := ⟨_, rfl⟩
  obtain ⟨y1, hy1⟩ : ∃ z, z = y &&& 127 := ⟨_, rfl⟩
  obtain ⟨y2, hy2⟩ : ∃ z, z = y1 ||| 64 := ⟨_, rfl⟩
  have e7 := not7 x
  have e128 := not128 y
  have e64 := or64 y1
  rw [← hx1] at e7
  rw [← hy1] at e128
  rw [← hy2] at e64
  rw [hres, ← hx1, ← hy1, ← hy2]
  have E7 := Lib.hid e7
  have E128 := Lib.hid e128
  have E64 := Lib.hid e64
  have hlay : lay zeros32 0 ((bytesV s.data.toList).take (min s.size 32)) = bytesV L := by rw [hL]; exact lay_pad s.data.toList
  have hsz : ∀ u : World, (Go.sizeOf 5).run Tryz.prog u = .ok 1 u := fun u => by go_simp
  have HM := Lib.hid (Hld.start w0)
  have HLAY := Lib.hid hlay
  have H5 := Lib.hid hL5
  have HX := Lib.hid hx
  have HY := Lib.hid hy
  have HSZ := Lib.hid hsz
  clear hL hL5 hx hy hres hlay hsz e7 e128 e64 hx1 hy1 hy2
  go_enter Tryz.func71, Tryz.ntmps71
  go_upto_region 2 with ((first
    | (with_reducible refine Hold.build (cs := zeros32) rfl rfl (by simpa using built_bytes32) ?_)
    | (with_reducible refine Hold.alloc HM.out rfl rfl zeros32 zero_bytes32 ?_; clear HM; intro b w HM; simp only [List.nil_append] at HM; replace HM := Lib.hid HM)
    | (with_reducible refine Hold.store HM.out 0 (v' := zeros32) rfl rfl rfl rfl rfl (by simp [zeros32_length]) (lay_all rfl) single_zeros32 (by rw [zeros32_length]; exact row_bytes32) ?_; clear HM; intro w HM; simp only [List.set_cons_zero] at HM; replace HM := Lib.hid HM)))
  go_upto_region 3 with ((first
    | (with_reducible refine Hold.copyText HM.out 0 rfl rfl rfl rfl rfl Tryz.underlying78 HSZ.out (by rw [zeros32_length]; exact Nat.min_le_right _ _) ?_; clear HM; intro w HM)))
  simp only [List.set_cons_zero] at HM
  rw [HLAY.out] at HM
  have l0 : 0 < L.length := by rw [H5.out]; decide
  have l31 : 31 < L.length := by rw [H5.out]; decide
  have c0 := byte_cell (HM.at 0 rfl) l0
  have f0 := byte_free (HM.at 0 rfl) l0
  rw [← HX.out] at c0
  have HM2 := Lib.hid (set_byte HM 0 x1)
  clear HM l0 l31
  go_upto_region 4 with (fail)
  rw [E7.out]
  clear c0 f0
  generalize w.setCell ⟨b, 0, none⟩ (.int .u8 (x1.toNat : Int)) = w2 at *
  have l31 : 31 < (L.set 0 x1).length := by rw [List.length_set, H5.out]; decide
  have c1 := byte_cell (HM2.out.at 0 rfl) l31
  have f1 := byte_free (HM2.out.at 0 rfl) l31
  rw [List.getD, List.getElem?_set_ne (by decide), ← List.getD, ← HY.out] at c1
  have HM3 := Lib.hid (set_byte HM2.out 31 y1)
  clear HM2 l31
  go_upto_region 5 with (fail)
  rw [E128.out]
  clear c1 f1
  generalize w2.setCell ⟨b, 31, none⟩ (.int .u8 (y1.toNat : Int)) = w3 at *
  have l31 : 31 < ((L.set 0 x1).set 31 y1).length := by rw [List.length_set, List.length_set, H5.out]; decide
  have c1 := byte_cell (HM3.out.at 0 rfl) l31
  have f1 := byte_free (HM3.out.at 0 rfl) l31
  have e1 : ((L.set 0 x1).set 31 y1).getD 31 0 = y1 := by simp [List.getD, H5.out]
  rw [e1] at c1
  have hm4 := set_byte HM3.out 31 y2
  rw [List.set_set] at hm4
  have HM4 := Lib.hid hm4
  clear HM3 l31 e1 hm4
  go_upto_region 6 with (fail)
  rw [E64.out]
  clear c1 f1
  generalize w3.setCell ⟨b, 31, none⟩ (.int .u8 (y2.toNat : Int)) = w4 at *
  have hback := string_row (P := Tryz.prog) (HM4.out.at 0 rfl).row 78 5 9 Tryz.underlying78 Tryz.underlying5 Tryz.underlying9 32 32 (by rw [List.length_set, List.length_set, H5.out])
  go_wp2
  go_ret
  exact ⟨rfl, HM4.out.below⟩
end Go.Proofs.YtolmfimpaofefaaGreatDoor.LadC

namespace Go.Proofs.YtolmfimpaofefaaGreatDoor.LadC
open Go.RowKit Mur Lanes Limb Hold Lad
set_option maxRecDepth 100000

theorem lim_mod255 (n : Nat) : lim n = lim (n % 57896044618658097711785492504343953926634992332820282019728792003956564819968) := by
  have h := lim_add (n % 57896044618658097711785492504343953926634992332820282019728792003956564819968) (n / 57896044618658097711785492504343953926634992332820282019728792003956564819968)
  rw [Nat.mod_add_div] at h
  exact h
/-- The number of a public key, and of what two share. -/
def pubN (p : ByteArray) : Nat := num p.data.toList % 57896044618658097711785492504343953926634992332820282019728792003956564819968
def clampT (s : ByteArray) : ByteArray := ⟨(clamp s.data.toList).toArray⟩
def shareN (s p : ByteArray) : Nat := ladder (bt (clampT s)) (pubN p)
def shareT (s p : ByteArray) : ByteArray := numT (shareN s p)
theorem shareT_size (s p : ByteArray) : (shareT s p).size = 32 := numT_size _
theorem clampT_size (s : ByteArray) : (clampT s).size = 32 := by
  show (clamp s.data.toList).toArray.size = 32
  simp [clamp_length]
theorem read_l (p : ByteArray) (hs : p.size ≤ 140737488351232) (u : World) : Calls Tryz.prog 72 #[.string p] u fun r w' => r = .returned (.agg (limL (pubN p)).toArray) ∧ Below u.heap.size u w' := by
  have := read_any p u hs
  rw [limV_L, limL, lim_mod255] at this
  exact this
theorem pub_l (p : ByteArray) : LimL (limL (pubN p)) (pubN p) := LimL.ofLim (Nat.mod_lt _ (by decide))
theorem bytes_l {X : List Value} {N : Nat} (h : LimL X N) (hN : N < Prime.P) (u : World) : Calls Tryz.prog 45 #[.agg X.toArray] u fun r w' => r = .returned (.string (numT N)) ∧ Below u.heap.size u w' :=
  bytes_val h (numT N) (by rw [Nat.mod_eq_of_lt hN]; rfl) u

set_option maxHeartbeats 1600000 in
theorem times_err (s p : ByteArray) (w0 : World) (h : ¬ (s.size = 32 ∧ p.size = 32)) :
    Calls Tryz.prog 44 #[.string s, .string p] w0 fun r w' => r = .returned (.tuple #[.string ⟨#[]⟩, .int .i64 1]) ∧ Below w0.heap.size w0 w' := by
  by_cases h1 : s.size = 32
  · have h2 : p.size ≠ 32 := fun e => h ⟨h1, e⟩
    have d1 : ((s.size : Int) == 32) = true := by simp; omega
    have d2 : ((p.size : Int) == 32) = false := by simp; omega
    have d1' : ((s.size : Int) != 32) = false := by simp; omega
    have d2' : ((p.size : Int) != 32) = true := by simp; omega
    clear h h1 h2
    go_enter Tryz.func44, Tryz.ntmps44
    go_wp2
    refine bodyPost_ret (v := .tuple #[.string ⟨#[]⟩, .int .i64 1]) (by simp [results, Tryz.results44, go_sem]) rfl ⟨rfl, Below.refl _ _⟩
  · have d1 : ((s.size : Int) == 32) = false := by simp; omega
    have d1' : ((s.size : Int) != 32) = true := by simp; omega
    clear h h1
    go_enter Tryz.func44, Tryz.ntmps44
    go_wp2
    refine bodyPost_ret (v := .tuple #[.string ⟨#[]⟩, .int .i64 1]) (by simp [results, Tryz.results44, go_sem]) rfl ⟨rfl, Below.refl _ _⟩

set_option maxHeartbeats 1600000 in
theorem times_ok (s p : ByteArray) (w0 : World) (h1 : s.size = 32) (h2 : p.size = 32) :
    Calls Tryz.prog 44 #[.string s, .string p] w0 fun r w' => r = .returned (.tuple #[.string (shareT s p), .int .i64 0]) ∧ Below w0.heap.size w0 w' := by
  have d1 : ((s.size : Int) == 32) = true := by simp; omega
  have d2 : ((p.size : Int) == 32) = true := by simp; omega
  have d1' : ((s.size : Int) != 32) = false := by simp; omega
  have d2' : ((p.size : Int) != 32) = false := by simp; omega
  obtain ⟨C, hC⟩ : ∃ C, C = clampT s := ⟨_, rfl⟩
  have R1 := Lib.hid (show ∀ u, Calls Tryz.prog 71 #[.string s] u fun r w' => r = .returned (.string C) ∧ Below u.heap.size u w' from fun u => by rw [hC]; exact clamp_any s u)
  obtain ⟨X, hX⟩ : ∃ X, X = limL (pubN p) := ⟨_, rfl⟩
  have hXl : LimL X (pubN p) := by rw [hX]; exact pub_l p
  have R2 := Lib.hid (show ∀ u, Calls Tryz.prog 72 #[.string p] u fun r w' => r = .returned (.agg X.toArray) ∧ Below u.heap.size u w' from fun u => by rw [hX]; exact read_l p (by omega) u)
  have r3 := fun u => ladder_any C hXl (by rw [hC, clampT_size]; decide) u
  have hl : ladder (bt C) (pubN p) < Prime.P := ladder_lt _ _
  have hT : shareT s p = numT (ladder (bt C) (pubN p)) := by rw [hC]; rfl
  obtain ⟨Y, hY⟩ : ∃ X, X = limL (ladder (bt C) (pubN p)) := ⟨_, rfl⟩
  have hYl : LimL Y (ladder (bt C) (pubN p)) := by rw [hY]; exact LimL.ofLim (Nat.lt_trans hl P_lt)
  have r4 := fun u => bytes_l hYl hl u
  rw [← hY] at r3
  rw [← hT] at r4
  obtain ⟨T, hT⟩ : ∃ T, T = shareT s p := ⟨_, rfl⟩
  rw [← hT] at r4 ⊢
  have R3 := Lib.hid r3
  have R4 := Lib.hid r4
  clear h1 h2 hC hX hXl r3 r4 hl hY hYl hT
  go_enter Tryz.func44, Tryz.ntmps44
  go_wp2_with fail
  refine (R1.out _).mono ?_
  rintro e w1 ⟨rfl, hb⟩
  have HB1 := Lib.hid hb
  clear hb
  go_wp2_with fail
  refine (R2.out _).mono ?_
  rintro e w2 ⟨rfl, hb⟩
  have HB2 := Lib.hid (HB1.out.trans (hb.mono HB1.out.size))
  clear hb HB1
  go_wp2_with fail
  refine (R3.out _).mono ?_
  rintro e w3 ⟨rfl, hb⟩
  have HB3 := Lib.hid (HB2.out.trans (hb.mono HB2.out.size))
  clear hb HB2
  go_wp2_with fail
  refine (R4.out _).mono ?_
  rintro e w4 ⟨rfl, hb⟩
  have HB4 := Lib.hid (HB3.out.trans (hb.mono HB3.out.size))
  clear hb HB3
  go_wp2
  refine bodyPost_ret (v := .tuple #[.string T, .int .i64 0]) (by simp [results, Tryz.results44, go_sem]) rfl ⟨rfl, HB4.out⟩

/-- What Times answers. -/
def timesV (s p : ByteArray) : Value := if s.size = 32 ∧ p.size = 32 then .tuple #[.string (shareT s p), .int .i64 0] else .tuple #[.string ⟨#[]⟩, .int .i64 1]
theorem times_any (s p : ByteArray) (w : World) : Calls Tryz.prog 44 #[.string s, .string p] w fun r w' => r = .returned (timesV s p) ∧ Below w.heap.size w w' := by
  unfold timesV
  split
  · rename_i h
    exact times_ok s p w h.1 h.2
  · rename_i h
    exact times_err s p w h

theorem nine_l : LimL [.int .u64 9, .int .u64 0, .int .u64 0, .int .u64 0, .int .u64 0] 9 := LimL.ofFive (a := 9) (b := 0) (c := 0) (d := 0) (e := 0) (by unfold Words5; omega)
set_option maxHeartbeats 1600000 in
theorem public_any (s : ByteArray) (w0 : World) :
    Calls Tryz.prog 21 #[.string s] w0 fun r w' => r = .returned (timesV s (numT 9)) ∧ Below w0.heap.size w0 w' := by
  have R1 := Lib.hid (show ∀ u, Calls Tryz.prog 45 #[.agg #[.int .u64 9, .int .u64 0, .int .u64 0, .int .u64 0, .int .u64 0]] u fun r w' => r = .returned (.string (numT 9)) ∧ Below u.heap.size u w' from fun u => bytes_l nine_l (by decide) u)
  obtain ⟨N9, h9⟩ : ∃ T, T = numT 9 := ⟨_, rfl⟩
  rw [← h9] at R1 ⊢
  have R2 := fun u => times_any s N9 u
  have hv : ∃ a b, timesV s N9 = .tuple #[.string a, .int .i64 b] := by
    unfold timesV
    split
    · exact ⟨_, _, rfl⟩
    · exact ⟨_, _, rfl⟩
  obtain ⟨a, b, hv⟩ := hv
  rw [hv] at R2 ⊢
  have R2 := Lib.hid R2
  clear h9 hv
  go_enter Tryz.func21, Tryz.ntmps21
  go_wp2_with fail
  refine (R1.out _).mono ?_
  rintro e w1 ⟨rfl, hb⟩
  have HB1 := Lib.hid hb
  clear hb
  go_wp2_with fail
  refine (R2.out _).mono ?_
  rintro e w2 ⟨rfl, hb⟩
  have HB2 := Lib.hid (HB1.out.trans (hb.mono HB1.out.size))
  clear hb HB1
  go_wp2
  refine bodyPost_ret (v := .tuple #[.string a, .int .i64 b]) (by simp [results, Tryz.results21, go_sem]) rfl ⟨rfl, HB2.out⟩

theorem none_l : LimL [.int .u64 0, .int .u64 0, .int .u64 0, .int .u64 0, .int .u64 0] 0 := LimL.ofFive (a := 0) (b := 0) (c := 0) (d := 0) (e := 0) (by unfold Words5; omega)
set_option maxHeartbeats 1600000 in
theorem nought_any (w0 : World) :
    Calls Tryz.prog 60 #[] w0 fun r w' => r = .returned (.string (numT 0)) ∧ Below w0.heap.size w0 w' := by
  have R1 := Lib.hid (show ∀ u, Calls Tryz.prog 45 #[.agg #[.int .u64 0, .int .u64 0, .int .u64 0, .int .u64 0, .int .u64 0]] u fun r w' => r = .returned (.string (numT 0)) ∧ Below u.heap.size u w' from fun u => bytes_l none_l (by decide) u)
  obtain ⟨N9, h9⟩ : ∃ T, T = numT 0 := ⟨_, rfl⟩
  rw [← h9] at R1 ⊢
  clear h9
  go_enter Tryz.func60, Tryz.ntmps60
  go_wp2_with fail
  refine (R1.out _).mono ?_
  rintro e w1 ⟨rfl, hb⟩
  have HB1 := Lib.hid hb
  clear hb
  go_wp2
  go_ret
  exact ⟨rfl, HB1.out⟩

/-- What Shared answers. -/
def sharedV (s p : ByteArray) : Value := if s.size = 32 ∧ p.size = 32 then (if (shareT s p).data.toList = (numT 0).data.toList then .tuple #[.string ⟨#[]⟩, .int .i64 5] else .tuple #[.string (shareT s p), .int .i64 0]) else .tuple #[.string ⟨#[]⟩, .int .i64 1]
theorem shared_any (s p : ByteArray) (w0 : World) :
    Calls Tryz.prog 37 #[.string s, .string p] w0 fun r w' => r = .returned (sharedV s p) ∧ Below w0.heap.size w0 w' := by
  have RT := fun u => times_any s p u
  unfold sharedV
  unfold timesV at RT
  by_cases h : s.size = 32 ∧ p.size = 32
  · rw [if_pos h] at RT ⊢
    have R2 := Lib.hid (fun u => nought_any u)
    obtain ⟨N0, h0⟩ : ∃ T, T = numT 0 := ⟨_, rfl⟩
    have h0s : N0.size = 32 := by rw [h0]; exact numT_size _
    obtain ⟨T, hT⟩ : ∃ T, T = shareT s p := ⟨_, rfl⟩
    have hTs : T.size = 32 := by rw [hT]; exact shareT_size _ _
    rw [← hT] at RT ⊢
    rw [← h0] at R2 ⊢
    have r3 := fun u => alike_any T N0 u (by omega) (by omega)
    have R1 := Lib.hid RT
    by_cases he : T.data.toList = N0.data.toList
    · rw [decide_eq_true he] at r3
      rw [if_pos he]
      have R3 := Lib.hid r3
      clear r3 he h0 h0s hT hTs h
      go_enter Tryz.func37, Tryz.ntmps37
      go_wp2_with fail
      refine (R1.out _).mono ?_
      rintro e w1 ⟨rfl, hb⟩
      have HB1 := Lib.hid hb
      clear hb
      go_wp2_with fail
      refine (R2.out _).mono ?_
      rintro e w2 ⟨rfl, hb⟩
      have HB2 := Lib.hid (HB1.out.trans (hb.mono HB1.out.size))
      clear hb HB1
      go_wp2_with fail
      refine (R3.out _).mono ?_
      rintro e w3 ⟨rfl, hb⟩
      have HB3 := Lib.hid (HB2.out.trans (hb.mono HB2.out.size))
      clear hb HB2
      go_wp2
      refine bodyPost_ret (v := .tuple #[.string ⟨#[]⟩, .int .i64 5]) (by simp [results, Tryz.results37, go_sem]) rfl ⟨rfl, HB3.out⟩
    · rw [decide_eq_false he] at r3
      rw [if_neg he]
      have R3 := Lib.hid r3
      clear r3 he h0 h0s hT hTs h
      go_enter Tryz.func37, Tryz.ntmps37
      go_wp2_with fail
      refine (R1.out _).mono ?_
      rintro e w1 ⟨rfl, hb⟩
      have HB1 := Lib.hid hb
      clear hb
      go_wp2_with fail
      refine (R2.out _).mono ?_
      rintro e w2 ⟨rfl, hb⟩
      have HB2 := Lib.hid (HB1.out.trans (hb.mono HB1.out.size))
      clear hb HB1
      go_wp2_with fail
      refine (R3.out _).mono ?_
      rintro e w3 ⟨rfl, hb⟩
      have HB3 := Lib.hid (HB2.out.trans (hb.mono HB2.out.size))
      clear hb HB2
      go_wp2
      refine bodyPost_ret (v := .tuple #[.string T, .int .i64 0]) (by simp [results, Tryz.results37, go_sem]) rfl ⟨rfl, HB3.out⟩
  · rw [if_neg h] at RT ⊢
    have R1 := Lib.hid RT
    clear h
    go_enter Tryz.func37, Tryz.ntmps37
    go_wp2_with fail
    refine (R1.out _).mono ?_
    rintro e w1 ⟨rfl, hb⟩
    have HB1 := Lib.hid hb
    clear hb
    go_wp2
    refine bodyPost_ret (v := .tuple #[.string ⟨#[]⟩, .int .i64 1]) (by simp [results, Tryz.results37, go_sem]) rfl ⟨rfl, HB1.out⟩

/-- Whether a public key is weak. -/
def weakB (p : ByteArray) : Bool := decide (¬ p.size = 32) || decide ((shareT (numT 0) p).data.toList = (numT 0).data.toList)
end Go.Proofs.YtolmfimpaofefaaGreatDoor.LadC

namespace Go.Proofs.YtolmfimpaofefaaGreatDoor.LadC
open Go.RowKit Mur Lanes Limb Hold Lad
set_option maxRecDepth 100000

def zeroT : ByteArray := ⟨(List.replicate 32 0).toArray⟩
def textB : ByteArray := ⟨#[48, 49, 50, 51, 52, 53, 54, 55, 56, 57, 48, 49, 50, 51, 52, 53, 54, 55, 56, 57, 48, 49, 50, 51, 52, 53, 54, 55, 56, 57, 48, 49]⟩
end Go.Proofs.YtolmfimpaofefaaGreatDoor.LadC
