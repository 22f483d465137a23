/-
  DigestRounds: a round of package digest can be undone: of what comes out, with the same word, what went in is found: for every input, the law answers true and changes nothing that was there. Condition: the constant table lies as the program's text lays it (the card ties it).
-/
import Derived.Test.YtlecmpmfgeneoaaDoorDigFrame
import Derived.Test.YtlecmpmfgeneoaaDoorCards
import Derived.Test.YtlecmpmfgeneoaaDoorOpen
import Derived.Test.YtlecmpmfgeneoaaDoorTie
import Derived.SevenTiedAt
namespace Go.Proofs.YtlecmpmfgeneoaaDoor.LawRounds
open Go.ChangeShapes Go.WideShapes Go.ChangeAt Go.RowKit Mur Sha

theorem round_lit (a b c d e f g h k : Nat) (R : S8) (w : World) (hv : (⟨a, b, c, d, e, f, g, h⟩ : S8).Ok) (hR : R = roundOf ⟨a, b, c, d, e, f, g, h⟩ k) :
    Calls Tryd.prog 10 #[.agg #[.int .u32 (a : Int), .int .u32 (b : Int), .int .u32 (c : Int), .int .u32 (d : Int), .int .u32 (e : Int), .int .u32 (f : Int), .int .u32 (g : Int), .int .u32 (h : Int)], .int .u32 (k : Int)] w
      fun e w' => e = .returned (.agg #[.int .u32 (R.a : Int), .int .u32 (R.b : Int), .int .u32 (R.c : Int), .int .u32 (R.d : Int), .int .u32 (R.e : Int), .int .u32 (R.f : Int), .int .u32 (R.g : Int), .int .u32 (R.h : Int)]) ∧ Below w.heap.size w w' := by
  subst hR
  exact round_any ⟨a, b, c, d, e, f, g, h⟩ k w hv

theorem rot_int (a m q n : Nat) (ha : a < 4294967296) (hm : m = 2 ^ n) (hq : q = 2 ^ (32 - n)) : bits .or .u32 ((a : Int) / (m : Int)) ((a : Int) * (q : Int) % 4294967296) = ((rot a n : Nat) : Int) := by
  have e1 : (a : Int) / (m : Int) = ((a / m : Nat) : Int) := rfl
  have e2 : (a : Int) * (q : Int) % 4294967296 = ((a * q % 4294967296 : Nat) : Int) := by rw [Int.natCast_emod, Int.natCast_mul]; rfl
  rw [e1, e2, u32_or_nat _ _ (Nat.lt_of_le_of_lt (Nat.div_le_self _ _) ha) (Nat.mod_lt _ (by decide)), Nat.or_comm, hm, hq]
  rfl
theorem maj_eq (a b c : Nat) : (a &&& b) ^^^ (a &&& c) ^^^ (b &&& c) = (a &&& b) ||| (c &&& (a ||| b)) := by
  apply Nat.eq_of_testBit_eq
  intro i
  simp only [Nat.testBit_xor, Nat.testBit_and, Nat.testBit_or]
  cases a.testBit i <;> cases b.testBit i <;> cases c.testBit i <;> rfl
theorem q_int (a b c : Nat) (ha : a < 4294967296) (hb : b < 4294967296) (hc : c < 4294967296) :
    (bits .xor .u32 (bits .xor .u32 (bits .or .u32 ((a : Int) / 4) ((a : Int) * 1073741824 % 4294967296)) (bits .or .u32 ((a : Int) / 8192) ((a : Int) * 524288 % 4294967296))) (bits .or .u32 ((a : Int) / 4194304) ((a : Int) * 1024 % 4294967296)) +
      bits .xor .u32 (bits .xor .u32 (bits .and .u32 (a : Int) (b : Int)) (bits .and .u32 (a : Int) (c : Int))) (bits .and .u32 (b : Int) (c : Int))) % 4294967296 = ((highS a b c : Nat) : Int) := by
  have h1 : bits .or .u32 ((a : Int) / 4) ((a : Int) * 1073741824 % 4294967296) = ((rot a 2 : Nat) : Int) := rot_int a 4 1073741824 2 ha rfl rfl
  have h2 : bits .or .u32 ((a : Int) / 8192) ((a : Int) * 524288 % 4294967296) = ((rot a 13 : Nat) : Int) := rot_int a 8192 524288 13 ha rfl rfl
  have h3 : bits .or .u32 ((a : Int) / 4194304) ((a : Int) * 1024 % 4294967296) = ((rot a 22 : Nat) : Int) := rot_int a 4194304 1024 22 ha rfl rfl
  have r1 := rot_lt a 2 ha
  have r2 := rot_lt a 13 ha
  have r3 := rot_lt a 22 ha
  rw [h1, h2, h3, u32_xor_nat _ _ r1 r2, u32_xor_nat _ _ (xor_lt _ _ r1 r2) r3, u32_and_nat _ _ ha hb, u32_and_nat _ _ ha hc, u32_and_nat _ _ hb hc, u32_xor_nat _ _ (and_lt _ _ ha) (and_lt _ _ ha),
    u32_xor_nat _ _ (xor_lt _ _ (and_lt _ _ ha) (and_lt _ _ ha)) (and_lt _ _ hb), maj_eq]
  unfold highS
  omega

theorem ch_eq (e f g : Nat) (hg : g < 4294967296) : (e &&& f) ^^^ ((4294967295 ^^^ e) &&& g) = g ^^^ (e &&& (f ^^^ g)) := by
  apply Nat.eq_of_testBit_eq
  intro i
  have h1 : (4294967295 : Nat).testBit i = decide (i < 32) := Nat.testBit_two_pow_sub_one 32 i
  simp only [Nat.testBit_xor, Nat.testBit_and, h1]
  by_cases hi : i < 32
  · simp only [hi, decide_true]
    cases e.testBit i <;> cases f.testBit i <;> cases g.testBit i <;> rfl
  · have h2 : g.testBit i = false := Nat.testBit_lt_two_pow (Nat.lt_of_lt_of_le hg (show 2 ^ 32 ≤ 2 ^ i from Nat.pow_le_pow_right (by decide) (by omega)))
    simp only [hi, decide_false, h2]
    cases e.testBit i <;> cases f.testBit i <;> rfl
theorem h_int (e f g h k : Nat) (he : e < 4294967296) (hf : f < 4294967296) (hg : g < 4294967296) (hh : h < 4294967296) :
    ((((lowS e f g ((h + k) % 4294967296) : Nat) : Int) - (k : Int) -
      bits .xor .u32 (bits .xor .u32 (bits .or .u32 ((e : Int) / 64) ((e : Int) * 67108864 % 4294967296)) (bits .or .u32 ((e : Int) / 2048) ((e : Int) * 2097152 % 4294967296))) (bits .or .u32 ((e : Int) / 33554432) ((e : Int) * 128 % 4294967296))) % 4294967296 -
      bits .xor .u32 (bits .and .u32 (e : Int) (f : Int)) (bits .and .u32 (bits .xor .u32 (if IntKind.u32.signed = true then -1 else IntKind.u32.max) (e : Int)) (g : Int))) % 4294967296 = (h : Int) := by
  have h1 : bits .or .u32 ((e : Int) / 64) ((e : Int) * 67108864 % 4294967296) = ((rot e 6 : Nat) : Int) := rot_int e 64 67108864 6 he rfl rfl
  have h2 : bits .or .u32 ((e : Int) / 2048) ((e : Int) * 2097152 % 4294967296) = ((rot e 11 : Nat) : Int) := rot_int e 2048 2097152 11 he rfl rfl
  have h3 : bits .or .u32 ((e : Int) / 33554432) ((e : Int) * 128 % 4294967296) = ((rot e 25 : Nat) : Int) := rot_int e 33554432 128 25 he rfl rfl
  have h4 : (if IntKind.u32.signed = true then (-1 : Int) else IntKind.u32.max) = ((4294967295 : Nat) : Int) := rfl
  have r1 := rot_lt e 6 he
  have r2 := rot_lt e 11 he
  have r3 := rot_lt e 25 he
  have r4 : 4294967295 ^^^ e < 4294967296 := xor_lt _ _ (by decide) he
  rw [h1, h2, h3, h4, u32_xor_nat _ _ r1 r2, u32_xor_nat _ _ (xor_lt _ _ r1 r2) r3, u32_and_nat _ _ he hf, u32_xor_nat _ _ (by decide) he, u32_and_nat _ _ r4 hg, u32_xor_nat _ _ (and_lt _ _ he) (and_lt _ _ r4), ch_eq e f g hg]
  unfold lowS
  omega

set_option maxHeartbeats 1600000 in
theorem walk (a b c d e f g h k : Nat) (w : World) (hv : (⟨a, b, c, d, e, f, g, h⟩ : S8).Ok) (hk : Consts w) :
    Calls Tryd.prog 5 #[.agg #[.int .u32 (a : Int), .int .u32 (b : Int), .int .u32 (c : Int), .int .u32 (d : Int), .int .u32 (e : Int), .int .u32 (f : Int), .int .u32 (g : Int), .int .u32 (h : Int)], .int .u32 (k : Int)] w
      fun e w' => e = .returned (.bool true) ∧ Below w.heap.size w w' := by
  obtain ⟨x0, hx0⟩ : ∃ x0, x0 = (lowS e f g ((h + k) % 4294967296) + highS a b c) % 4294967296 := ⟨_, rfl⟩
  obtain ⟨x4, hx4⟩ : ∃ x4, x4 = (d + lowS e f g ((h + k) % 4294967296)) % 4294967296 := ⟨_, rfl⟩
  have hcall := fun w => round_lit a b c d e f g h k ⟨x0, a, b, c, x4, e, f, g⟩ w hv (by rw [hx0, hx4]; rfl)
  dsimp only at hcall
  have HC := Lib.hid hcall
  have HK := Lib.hid hk
  have HV := Lib.hid hv
  have HX0 := Lib.hid hx0
  have HX4 := Lib.hid hx4
  clear hcall hk hv hx0 hx4
  go_enter Tryd.func5, Tryd.ntmps5
  go_wp2_with fail
  refine (HC.out _).mono ?_
  rintro e' w1 ⟨rfl, hb1⟩
  have hbel : Below w.heap.size w w1 := ((Below.refl _ _).alloc (Nat.le_refl _) _).trans (hb1.mono (by simp))
  have hw0 : Whole (w.alloc (.cells (⟨a, b, c, d, e, f, g, h⟩ : S8).cells 23)) w.heap.size 23 (⟨a, b, c, d, e, f, g, h⟩ : S8).cells.toList := Whole.made' w _ (⟨a, b, c, d, e, f, g, h⟩ : S8).cells _ rfl
  have hw1 : Whole w1 w.heap.size 23 (⟨a, b, c, d, e, f, g, h⟩ : S8).cells.toList := hw0.below (by simp) hb1
  obtain ⟨c0, c1, c2, c3, c4, c5, c6, c7⟩ := whole_cells hw1
  dsimp only at c0 c1 c2 c3 c4 c5 c6 c7
  have hne : w.heap.size < w1.heap.size := hw1.lt
  have HB := Lib.hid hbel
  clear hb1 hbel hw0 hw1
  go_upto_region 2 with (fail)
  go_quiet (fail)
  go_upto_region 5 with (fail)
  have hq := q_int a b c HV.out.1 HV.out.2.1 HV.out.2.2.1
  rw [hq]
  clear hq
  have hp : ((x0 : Int) - ((highS a b c : Nat) : Int)) % 4294967296 = ((lowS e f g ((h + k) % 4294967296) : Nat) : Int) := by
    have := HX0.out
    have := lowS_lt e f g ((h + k) % 4294967296)
    have := highS_lt a b c
    omega
  go_upto_region 6 with (fail)
  try rw [hp]
  clear hp
  go_upto_region 7 with (fail)
  rw [h_int e f g h k HV.out.2.2.2.2.1 HV.out.2.2.2.2.2.1 HV.out.2.2.2.2.2.2.1 HV.out.2.2.2.2.2.2.2]
  have hd : ((x4 : Int) - ((lowS e f g ((h + k) % 4294967296) : Nat) : Int)) % 4294967296 = (d : Int) := by
    have := HX4.out
    have := lowS_lt e f g ((h + k) % 4294967296)
    have hd4 : d < 4294967296 := HV.out.2.2.2.1
    omega
  have heq := fun w => eq_same (a : Int) b c d e f g h w
  go_wp2_with fail
  refine (awake_any _ (HK.out.below HK.out.1 (belowN (HB.out.alloc HB.out.size _) _))).mono ?_
  rintro e' w2 ⟨rfl, hb2⟩
  have hbel2 := (belowN (HB.out.alloc HB.out.size (.cells (⟨x0, a, b, c, x4, e, f, g⟩ : S8).cells 23)) nq).trans (hb2.mono (HB.out.alloc HB.out.size _).size)
  have HB2 := Lib.hid hbel2
  clear hb2 hbel2
  go_wp2
  go_ret
  exact ⟨rfl, HB2.out⟩

theorem laidOut : laidOutB Tryd.prog = true := by kernel_rfl
theorem eight_of (l : List Int) (h : l.length = 8) : ∃ a b c d e f g k, l = [a, b, c, d, e, f, g, k] := by
  match l, h with
  | [a, b, c, d, e, f, g, k], _ => exact ⟨a, b, c, d, e, f, g, k, rfl⟩
theorem nat_of {n : Int} (h : (Lit.int .u32 n).wf = true) : ∃ m : Nat, n = (m : Int) ∧ m < 4294967296 := by
  have h2 : 0 ≤ n ∧ n ≤ 4294967295 := by simpa [Lit.wf, IntKind.min, IntKind.max, IntKind.signed, IntKind.bits] using h
  exact ⟨n.toNat, by omega, by omega⟩

set_option maxRecDepth 100000 in
theorem lifted (os : Os) (started : os.Started) (H : Type) (enc : TypeId × Value → H) :
    ReturnsInHanded {} Tryd.checked os 5 .any (fun w args => (Rows.digestRoundsSpec.pre enc Tryd.prog Tryd.f5 [] false w args ∧ laidMetH Tryd.prog laidL w) ∧ sizedMet enc Tryd.prog Tryd.f5 (OpenSpec.ofChange Rows.digestRoundsSpec) false w args)
      (Rows.digestRoundsSpec.post enc Tryd.prog Tryd.f5 false true false false) := by
  refine returnsInHanded_of_change_and (C := Tryd.checked) (X := fun w _ => laidMetH Tryd.prog laidL w) (fun _ _ _ hh h => h.of_heap hh) own started (by kernel_rfl) Tryd.func5
    (ChangeSpec.witness_shaped (enc := enc) (C := Tryd.checked) (os := os) (X := fun w _ => laidMetH Tryd.prog laidL w) false (World.doorLaid Tryd.prog 400 os) #[.agg #[.int .u32 0, .int .u32 0, .int .u32 0, .int .u32 0, .int .u32 0, .int .u32 0, .int .u32 0, .int .u32 0], .int .u32 0] 8 rfl (World.shaped_of_RefB (by kernel_rfl) (by kernel_rfl)) (by kernel_rfl) (by kernel_rfl) (by kernel_rfl) (door_met os _)) ?_
  intro W base args ds gs before hval0 hW _ _ hL _
  have hval : ∀ (j : Nat) t v, Tryd.f5.params[j]? = some t → args[j]? = some v → Value.okWide Tryd.prog W .any base t v := hval0
  have hW' := hW
  obtain ⟨p, q, hA0, hV, rfl, hfz, hnd⟩ := hW
  have hA : DataW.TrodAll enc Tryd.prog W 0 (fun _ => true) true Tryd.f5.params.toList args.toList ds p := hA0
  rw [Tryd.params5] at hA hval
  obtain ⟨v0, vs0, d0, ds0, p0, q0, hargs, rfl, rfl, h0, r0⟩ := trodAll_cons hA
  obtain ⟨v1, vs1, d1, ds1, p1, q1, rfl, rfl, rfl, h1, r1⟩ := trodAll_cons r0
  obtain ⟨rfl, rfl, rfl⟩ := trodAll_nil r1
  obtain rfl : args = #[v0, v1] := by cases args; simp_all
  obtain ⟨rfl, rfl⟩ := trodVars_none hV
  have k0 := h0
  have lt0 : ∀ x ∈ p0, x.block < W.heap.size := by obtain ⟨m, hm⟩ := k0; exact DataW.trod_lt m _ _ _ hm
  obtain ⟨a1, rfl, rfl, rfl, w1⟩ := open_int Tryd.underlying22 (hval 1 22 v1 rfl rfl) h1
  obtain ⟨ns, hnl, rfl, rfl, rfl, w0⟩ := Open.open_int_array Tryd.underlying23 Tryd.underlying22 (by kernel_rfl) (by kernel_rfl) (hval 0 23 v0 rfl rfl) h0
  obtain ⟨n0, n1, n2, n3, n4, n5, n6, n7, rfl⟩ := eight_of ns hnl
  obtain ⟨m0, rfl, l0⟩ := nat_of (w0 n0 (by simp))
  obtain ⟨m1, rfl, l1⟩ := nat_of (w0 n1 (by simp))
  obtain ⟨m2, rfl, l2⟩ := nat_of (w0 n2 (by simp))
  obtain ⟨m3, rfl, l3⟩ := nat_of (w0 n3 (by simp))
  obtain ⟨m4, rfl, l4⟩ := nat_of (w0 n4 (by simp))
  obtain ⟨m5, rfl, l5⟩ := nat_of (w0 n5 (by simp))
  obtain ⟨m6, rfl, l6⟩ := nat_of (w0 n6 (by simp))
  obtain ⟨m7, rfl, l7⟩ := nat_of (w0 n7 (by simp))
  obtain ⟨kk, rfl, lk⟩ := nat_of w1
  have hcl := of_laid hL
  clear hA0 hval0
  refine (walk m0 m1 m2 m3 m4 m5 m6 m7 kk W ⟨l0, l1, l2, l3, l4, l5, l6, l7⟩ hcl).mono fun e W' ⟨he, bel⟩ => ?_
  subst he
  exact ⟨_, rfl, _, _, _, [], _, [], hW', trodAll_mk1 (shut_bool Tryd.underlying4 _), (trodAll_cons_mk (Below.trod laidOut (by kernel_rfl) (of_decide_eq_true (by kernel_rfl)) k0 bel lt0) (trodAll_cons_mk (shut_int Tryd.underlying22 w1) trodAll_mk0)), rfl, bel.frame _, fun h => by cases h⟩

theorem over : Rows.DigestRoundsSaid :=
  OpenClaim.holds_of_wide 5 Tryd.f5 rfl rfl rfl rfl rfl rfl rfl ⟨rfl, rfl, rfl, rfl, rfl⟩ rfl rfl rfl rfl rfl (by kernel_rfl) Tryd.func5 (by kernel_rfl)
    (of_decide_eq_true (by kernel_rfl)) (by unfold Func.isWrapper; first | (rw [if_pos (by decide +kernel)]; kernel_rfl) | (rw [if_neg (by decide +kernel)]; exact ⟨rfl, rfl⟩))
    (fun os started H enc _ => lifted os started H enc)

theorem proved : Rows.DigestRoundsCardSaid :=
  Claim7.holds_tied_plain_at .later [] [.data] true Rows.digestRoundsCard.stood.harness false
    over (fun _ h => by cases h) (by kernel_rfl) (fun _ h => by cases h) digestRounds_row_tie rfl ⟨rfl, rfl⟩ (by kernel_rfl) rfl
    (fun f fn hf hfn => by
      obtain rfl : f = 5 := Option.some.inj ((show Tryd.prog.funcNamed "murmur/murmurlaw02.DigestRounds" = some 5 by kernel_rfl).symm.trans hf) |>.symm
      obtain rfl : fn = Tryd.f5 := (Option.some.inj (Tryd.func5.symm.trans hfn)).symm
      exact ⟨by kernel_rfl, fun j t ht => by
        rw [Tryd.params5] at ht
        have hm : t ∈ [23, 22] := by simpa using Array.mem_of_getElem? ht
        have hall : ([23, 22].all fun u => !Tryd.prog.wantsStandIn u) = true := by kernel_rfl
        exact (show Tryd.prog.wantsStandIn t = false by simpa using List.all_eq_true.1 hall t hm)⟩)
    (by kernel_rfl)
#print axioms proved
end Go.Proofs.YtlecmpmfgeneoaaDoor.LawRounds
