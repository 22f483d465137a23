/-
  StampKeeps: signers kept and loaded, leaves given up, of anything, as the document says: for every input, the law answers true and changes nothing that was there. Condition: the constant table lies as the program's text lays it (the card ties it).
-/
import Derived.Test.YtkchbilkmoemaaaDoorRStpC
import Derived.Test.YtkchbilkmoemaaaDoorConstFrame
import Derived.Test.YtkchbilkmoemaaaDoorCards
import Derived.Test.YtkchbilkmoemaaaDoorOpenS
import Derived.Test.YtkchbilkmoemaaaDoorTie
import Derived.SevenTiedAt
namespace Go.Proofs.YtkchbilkmoemaaaDoor.LawSKeeps
open Go.ChangeShapes Go.WideShapes Go.ChangeAt Go.ChangeMaps Go.RowKit Mur Sha Chn Stp
set_option maxRecDepth 100000

theorem keep_both (n h nx : Int) (seed : ByteArray) (hs : seed.size ≤ 140737488351232) : ∃ (A : ByteArray) (e : Int),
    (∀ u, Consts u → Calls Tryd.prog 13 #[.agg #[.int .i64 n, .int .i64 h, .string seed, .int .i64 nx]] u fun v w' => v = .returned (.tuple #[.string A, .int .i64 e]) ∧ Below u.heap.size u w') ∧
    (∀ u, Calls Tryd.prog 14 #[.agg #[.int .i64 n, .int .i64 h, .string seed, .int .i64 nx]] u fun v w' => v = .returned (.tuple #[.string A, .int .i64 e]) ∧ Below u.heap.size u w') := by
  by_cases hk : Keeps n h nx seed.size
  · obtain ⟨N, rfl⟩ : ∃ N : Nat, n = (N : Int) := ⟨n.toNat, by have := hk.1.1; omega⟩
    obtain ⟨H, rfl⟩ : ∃ H : Nat, h = (H : Int) := ⟨h.toNat, by have := hk.1.2.2.1; omega⟩
    obtain ⟨m, rfl⟩ : ∃ m : Nat, nx = (m : Int) := ⟨nx.toNat, by have := hk.2.1; omega⟩
    exact ⟨_, _, fun u hu => Stp.keep_any N H m seed _ u hk rfl hu, fun u => RefStp.keep_any N H m seed _ u hk rfl⟩
  · exact ⟨_, _, fun u _ => Stp.keep_no n h nx seed u hs hk, fun u => RefStp.keep_no n h nx seed u hs hk⟩
theorem load_both (b : ByteArray) (hs : b.size ≤ 900000) : ∃ (n h nx : Int) (seed : ByteArray) (e : Int),
    (∀ u, Consts u → Calls Tryd.prog 15 #[.string b] u fun v w' => v = .returned (.tuple #[.agg #[.int .i64 n, .int .i64 h, .string seed, .int .i64 nx], .int .i64 e]) ∧ Below u.heap.size u w') ∧
    (∀ u, Calls Tryd.prog 16 #[.string b] u fun v w' => v = .returned (.tuple #[.agg #[.int .i64 n, .int .i64 h, .string seed, .int .i64 nx], .int .i64 e]) ∧ Below u.heap.size u w') := by
  by_cases h9 : b.size < 9
  · exact ⟨0, 0, 0, ⟨#[]⟩, 2, fun u _ => Stp.load_short b u h9, fun u => RefStp.load_short b u h9⟩
  · by_cases ht : b.data.toList.drop (b.data.toList.length - 4) = tagOf (bodyOf b.data.toList)
    · have g1 := fun u (hu : Consts u) => Stp.load_tagged b u (by omega) (by omega) ht hu _ _ _ _ rfl rfl rfl rfl
      have g2 := fun u => RefStp.load_tagged b u (by omega) (by omega) ht _ _ _ _ rfl rfl rfl rfl
      by_cases hl : Loads b.data.toList
      · exact ⟨_, _, _, _, 0, fun u hu => (g1 u hu).mono fun v w' k => ⟨k.1.elim (fun x => x.2) (fun x => absurd hl x.1), k.2⟩, fun u => (g2 u).mono fun v w' k => ⟨k.1.elim (fun x => x.2) (fun x => absurd hl x.1), k.2⟩⟩
      · exact ⟨0, 0, 0, ⟨#[]⟩, 3, fun u hu => (g1 u hu).mono fun v w' k => ⟨k.1.elim (fun x => absurd x.1 hl) (fun x => x.2), k.2⟩, fun u => (g2 u).mono fun v w' k => ⟨k.1.elim (fun x => absurd x.1 hl) (fun x => x.2), k.2⟩⟩
    · exact ⟨0, 0, 0, ⟨#[]⟩, 14, fun u hu => Stp.load_tag b u (by omega) (by omega) ht hu, fun u => RefStp.load_tag b u (by omega) (by omega) ht⟩

set_option maxHeartbeats 1600000 in
theorem law_great (n h nx k : Int) (seed b : ByteArray) (w : World) (hg : ¬ seed.size + b.size ≤ 2000) (h1 : seed.size ≤ 140737488351232) (h2 : b.size ≤ 140737488351232) (hk : Consts w) :
    Calls Tryd.prog 4 #[.agg #[.int .i64 n, .int .i64 h, .string seed, .int .i64 nx], .string b, .int .i64 k] w
      fun e w' => e = .returned (.bool true) ∧ Below w.heap.size w w' := by
  have hd1 : decide (2000 < (seed.size : Int) + (b.size : Int)) = true := by simp; omega
  have RA := Lib.hid (fun u hu => awake_any u hu)
  have hB0 := ((Below.refl w.heap.size w).alloc (Nat.le_refl _) (.cells #[.int .i64 n, .int .i64 h, .string seed, .int .i64 nx] 28))
  have HK := Lib.hid (hk.below hk.1 hB0)
  have HB := Lib.hid hB0
  clear hk hB0
  go_enter Tryd.func4, Tryd.ntmps4
  go_wp2_with fail
  refine (RA.out _ HK.out).mono ?_
  rintro e w1 ⟨rfl, hb1⟩
  have HB1 := Lib.hid (HB.out.trans (hb1.mono HB.out.size))
  clear hb1
  go_wp2
  go_ret
  exact ⟨rfl, HB1.out⟩

set_option maxHeartbeats 6400000 in
theorem law_small (n h nx k : Int) (seed b : ByteArray) (W : World) (hg : seed.size + b.size ≤ 2000) (lo : -9223372036854775808 ≤ nx) (hi : nx < 9223372036854775808) (hk : Consts W) :
    Calls Tryd.prog 4 #[.agg #[.int .i64 n, .int .i64 h, .string seed, .int .i64 nx], .string b, .int .i64 k] W
      fun e w' => e = .returned (.bool true) ∧ Below W.heap.size W w' := by
  have hd1 : decide (2000 < (seed.size : Int) + (b.size : Int)) = false := by simp; omega
  obtain ⟨A, e, r1, r2⟩ := keep_both n h nx seed (by omega)
  obtain ⟨n2, h2, nx2, seed2, e2, r3, r4⟩ := load_both b (by omega)
  obtain ⟨nx3, hnx3⟩ : ∃ z, z = useN n h nx k := ⟨_, rfl⟩
  obtain ⟨e3, he3⟩ : ∃ z : Int, z = (useE n h nx k : Int) := ⟨_, rfl⟩
  have r5 := fun u => Stp.use_any n h nx k nx3 e3 seed u lo hi hnx3 he3
  have r6 := fun u => RefStp.use_any n h nx k nx3 e3 seed u lo hi hnx3 he3
  have RA := Lib.hid (fun u (hu : Below W.heap.size W u) => awake_any u (hk.below hk.1 hu))
  obtain ⟨X, hX, hXc⟩ := named n h seed nx
  obtain ⟨Y, hY, hYc⟩ := named n2 h2 seed2 nx2
  obtain ⟨Z, hZ, hZc⟩ := named n h seed nx3
  have r1' := fun u (hu : Below W.heap.size W u) => r1 u (hk.below hk.1 hu)
  have r3' := fun u (hu : Below W.heap.size W u) => r3 u (hk.below hk.1 hu)
  rw [← hX.agg] at r1' r2 r5 r6 ⊢
  rw [← hY.agg] at r3' r4
  rw [← hZ.agg] at r5 r6
  have R1 := Lib.hid r1'
  have R2 := Lib.hid r2
  have R3 := Lib.hid r3'
  have R4 := Lib.hid r4
  have R5 := Lib.hid r5
  have R6 := Lib.hid r6
  have HX := Lib.hid hX
  have HY := Lib.hid hY
  have HZ := Lib.hid hZ
  have HYC := Lib.hid hYc
  have HZC := Lib.hid hZc
  have HM := Lib.hid (Hold.Hld.start W)
  clear r1 r2 r3 r4 r5 r6 r1' r3' hX hY hZ hXc hYc hZc hnx3 he3 lo hi hk
  go_enter Tryd.func4, Tryd.ntmps4
  go_upto_region 4 with ((first
    | (with_reducible refine Hold.box HM.out rfl rfl rfl ?_; clear HM; intro b0 w HM; simp only [List.nil_append] at HM; replace HM := Lib.hid HM)
    | (with_reducible refine Hold.load1 HM.out 0 (c := .string seed) rfl rfl rfl rfl (HX.out.seed2) (cellStr) ?_)
    | (with_reducible refine Hold.load HM.out 0 (cs := X) rfl rfl rfl rfl (Hold.Part.all _) (by rw [HX.out.len]; exact signRow) ?_)
    | (with_reducible refine (R1.out _ HM.out.below).mono ?_; rintro e w ⟨rfl, hb⟩; replace HM := Lib.hid (HM.out.next hb); clear hb)))

  go_upto_region 5 with ((first
    | (with_reducible refine Hold.load HM.out 0 (cs := X) rfl rfl rfl rfl (Hold.Part.all _) (by rw [HX.out.len]; exact signRow) ?_)
    | (with_reducible refine (R2.out _).mono ?_; rintro e w ⟨rfl, hb⟩; replace HM := Lib.hid (HM.out.next hb); clear hb)))

  go_upto_region 6 with ((first
    | (with_reducible refine (R3.out _ HM.out.below).mono ?_; rintro e w ⟨rfl, hb⟩; replace HM := Lib.hid (HM.out.next hb); clear hb)
    | (with_reducible refine Hold.alloc HM.out rfl rfl zeroS zero_sign ?_; clear HM; intro b1 w HM; simp only [List.nil_append, List.cons_append] at HM; replace HM := Lib.hid HM)
    | (with_reducible refine Hold.store HM.out 1 (v' := Y) rfl rfl rfl rfl rfl (by rw [zero_len, HY.out.len]; exact Nat.le_of_eq (Nat.zero_add _)) (Hold.lay_all (zero_len.trans HY.out.len.symm)) (HY.out.one) (by rw [HY.out.len]; exact signRow) ?_; clear HM; intro w HM; simp only [List.set_cons_zero, List.set_cons_succ] at HM; replace HM := Lib.hid HM)))

  go_upto_region 7 with ((first
    | (with_reducible refine (R4.out _).mono ?_; rintro e w ⟨rfl, hb⟩; replace HM := Lib.hid (HM.out.next hb); clear hb)
    | (with_reducible refine Hold.alloc HM.out rfl rfl zeroS zero_sign ?_; clear HM; intro b2 w HM; simp only [List.nil_append, List.cons_append] at HM; replace HM := Lib.hid HM)
    | (with_reducible refine Hold.store HM.out 2 (v' := Y) rfl rfl rfl rfl rfl (by rw [zero_len, HY.out.len]; exact Nat.le_of_eq (Nat.zero_add _)) (Hold.lay_all (zero_len.trans HY.out.len.symm)) (HY.out.one) (by rw [HY.out.len]; exact signRow) ?_; clear HM; intro w HM; simp only [List.set_cons_zero, List.set_cons_succ] at HM; replace HM := Lib.hid HM)))

  go_upto_region 8 with ((first
    | (with_reducible refine Hold.load HM.out 0 (cs := X) rfl rfl rfl rfl (Hold.Part.all _) (by rw [HX.out.len]; exact signRow) ?_)
    | (with_reducible refine (R5.out _).mono ?_; rintro e w ⟨rfl, hb⟩; replace HM := Lib.hid (HM.out.next hb); clear hb)
    | (with_reducible refine Hold.alloc HM.out rfl rfl zeroS zero_sign ?_; clear HM; intro b3 w HM; simp only [List.nil_append, List.cons_append] at HM; replace HM := Lib.hid HM)
    | (with_reducible refine Hold.store HM.out 3 (v' := Z) rfl rfl rfl rfl rfl (by rw [zero_len, HZ.out.len]; exact Nat.le_of_eq (Nat.zero_add _)) (Hold.lay_all (zero_len.trans HZ.out.len.symm)) (HZ.out.one) (by rw [HZ.out.len]; exact signRow) ?_; clear HM; intro w HM; simp only [List.set_cons_zero, List.set_cons_succ] at HM; replace HM := Lib.hid HM)))

  go_upto_region 9 with ((first
    | (with_reducible refine Hold.load HM.out 0 (cs := X) rfl rfl rfl rfl (Hold.Part.all _) (by rw [HX.out.len]; exact signRow) ?_)
    | (with_reducible refine (R6.out _).mono ?_; rintro e w ⟨rfl, hb⟩; replace HM := Lib.hid (HM.out.next hb); clear hb)
    | (with_reducible refine Hold.alloc HM.out rfl rfl zeroS zero_sign ?_; clear HM; intro b4 w HM; simp only [List.nil_append, List.cons_append] at HM; replace HM := Lib.hid HM)
    | (with_reducible refine Hold.store HM.out 4 (v' := Z) rfl rfl rfl rfl rfl (by rw [zero_len, HZ.out.len]; exact Nat.le_of_eq (Nat.zero_add _)) (Hold.lay_all (zero_len.trans HZ.out.len.symm)) (HZ.out.one) (by rw [HZ.out.len]; exact signRow) ?_; clear HM; intro w HM; simp only [List.set_cons_zero, List.set_cons_succ] at HM; replace HM := Lib.hid HM)))

  have hs1 : (A.toList == A.toList) = true := by simp
  have hf := And.intro (sign_cells HM.out 1 rfl HYC.out) (And.intro (sign_cells HM.out 2 rfl HYC.out) (And.intro (sign_cells HM.out 3 rfl HZC.out) (sign_cells HM.out 4 rfl HZC.out)))
  go_wp2_with ((first
    | (with_reducible refine (RA.out _ HM.out.below).mono ?_; rintro e w ⟨rfl, hb⟩; replace HM := Lib.hid (HM.out.next hb); clear hb; clear hf)))

  go_ret
  exact ⟨rfl, HM.out.below⟩

theorem walk (n h : Int) (seed : ByteArray) (nx : Int) (b : ByteArray) (k : Int) (w : World) (h1 : seed.size ≤ 140737488351232) (lo : -9223372036854775808 ≤ nx) (hi : nx < 9223372036854775808) (h2 : b.size ≤ 140737488351232) (hk : Consts w) :
    Calls Tryd.prog 4 #[.agg #[.int .i64 n, .int .i64 h, .string seed, .int .i64 nx], .string b, .int .i64 k] w
      fun e w' => e = .returned (.bool true) ∧ Below w.heap.size w w' := by
  by_cases hg : seed.size + b.size ≤ 2000
  · exact law_small n h nx k seed b w hg lo hi hk
  · exact law_great n h nx k seed b w hg h1 h2 hk

theorem laidOut : laidOutB Tryd.prog = true := by kernel_rfl

set_option maxRecDepth 100000 in
theorem lifted (os : Os) (started : os.Started) (H : Type) (enc : TypeId × Value → H) :
    ReturnsInHanded {} Tryd.checked os 4 .any (fun w args => (Rows.stampKeepsSpec.pre enc Tryd.prog Tryd.f4 [] false w args ∧ laidMetH Tryd.prog laidL w) ∧ sizedMet enc Tryd.prog Tryd.f4 (OpenSpec.ofChange Rows.stampKeepsSpec) false w args)
      (Rows.stampKeepsSpec.post enc Tryd.prog Tryd.f4 false true false false) := by
  refine returnsInHanded_of_change_and (C := Tryd.checked) (X := fun w _ => laidMetH Tryd.prog laidL w) (fun _ _ _ hh h => h.of_heap hh) own started (by kernel_rfl) Tryd.func4
    (ChangeSpec.witness_shaped (enc := enc) (C := Tryd.checked) (os := os) (X := fun w _ => laidMetH Tryd.prog laidL w) false (World.doorLaid Tryd.prog 400 os) #[.agg #[.int .i64 0, .int .i64 0, .string ByteArray.empty, .int .i64 0], .string ByteArray.empty, .int .i64 0] 8 rfl (World.shaped_of_RefB (by kernel_rfl) (by kernel_rfl)) (by kernel_rfl) (by kernel_rfl) (by kernel_rfl) (door_met os _)) ?_
  intro W base args ds gs before hval0 hW _ hsz0 hL _
  have hval : ∀ (j : Nat) t v, Tryd.f4.params[j]? = some t → args[j]? = some v → Value.okWide Tryd.prog W .any base t v := hval0
  have hsz : (DataW.weightsEach Tryd.prog (Tryd.f4.params.toList ++ Rows.stampKeepsSpec.plain.varTypes Tryd.prog) (ds ++ gs)).all (· ≤ reachBytes) = true := hsz0
  clear hsz0
  have hW' := hW
  obtain ⟨p, q, hA0, hV, rfl, hfz, hnd⟩ := hW
  have hA : DataW.TrodAll enc Tryd.prog W 0 (fun _ => true) true Tryd.f4.params.toList args.toList ds p := hA0
  rw [Tryd.params4] at hA hval hsz
  obtain ⟨v0, vs0, d0, ds0, p0, q0, hargs, rfl, rfl, h0, r0⟩ := trodAll_cons hA
  obtain ⟨v1, vs1, d1, ds1, p1, q1, rfl, rfl, rfl, h1, r1⟩ := trodAll_cons r0
  obtain ⟨v2, vs2, d2, ds2, p2, q2, rfl, rfl, rfl, h2, r2⟩ := trodAll_cons r1
  obtain ⟨rfl, rfl, rfl⟩ := trodAll_nil r2
  obtain rfl : args = #[v0, v1, v2] := by cases args; simp_all
  obtain ⟨rfl, rfl⟩ := trodVars_none hV
  have k0 := h0
  have lt0 : ∀ x ∈ p0, x.block < W.heap.size := by obtain ⟨m, hm⟩ := k0; exact DataW.trod_lt m _ _ _ hm
  obtain ⟨a0, b0, s0, x0, rfl, rfl, rfl, lo0, hi0⟩ := Open.open_signer (hval 0 28 v0 rfl rfl) h0
  have z0 := Open.sized_signer hsz (j := 0) rfl rfl
  obtain ⟨s1, rfl, rfl, rfl, w1⟩ := open_string Tryd.underlying9 (hval 1 9 v1 rfl rfl) h1
  have z1 := sized_string hsz (j := 1) (t := 9) (bytes := s1.data.toList) rfl rfl
  obtain ⟨n2, rfl, rfl, rfl, w2⟩ := open_int Tryd.underlying3 (hval 2 3 v2 rfl rfl) h2
  have hcl := of_laid hL
  clear hA0 hval0
  refine (walk a0 b0 s0 x0 s1 n2 W z0 lo0 hi0 z1 hcl).mono fun e W' ⟨he, bel⟩ => ?_
  subst he
  exact ⟨_, rfl, _, _, _, [], _, [], hW', trodAll_mk1 (shut_bool Tryd.underlying4 _), (trodAll_cons_mk (Below.trod laidOut (by kernel_rfl) (of_decide_eq_true (by kernel_rfl)) k0 bel lt0) (trodAll_cons_mk (shut_string Tryd.underlying9 w1) (trodAll_cons_mk (shut_int Tryd.underlying3 w2) trodAll_mk0))), rfl, bel.frame _, fun h => by cases h⟩

theorem over : Rows.StampKeepsSaid :=
  OpenClaim.holds_of_wide 4 Tryd.f4 rfl rfl rfl rfl rfl rfl rfl ⟨rfl, rfl, rfl, rfl, rfl⟩ rfl rfl rfl rfl rfl (by kernel_rfl) Tryd.func4 (by kernel_rfl)
    (of_decide_eq_true (by kernel_rfl)) (by unfold Func.isWrapper; first | (rw [if_pos (by decide +kernel)]; kernel_rfl) | (rw [if_neg (by decide +kernel)]; exact ⟨rfl, rfl⟩))
    (fun os started H enc _ => lifted os started H enc)

theorem proved : Rows.StampKeepsCardSaid :=
  Claim7.holds_tied_plain_at .later [] [.data] true Rows.stampKeepsCard.stood.harness false
    over (fun _ h => by cases h) (by kernel_rfl) (fun _ h => by cases h) stampKeeps_row_tie rfl ⟨rfl, rfl⟩ (by kernel_rfl) rfl
    (fun f fn hf hfn => by
      obtain rfl : f = 4 := Option.some.inj ((show Tryd.prog.funcNamed "murmur/murmurlaw09.StampKeeps" = some 4 by kernel_rfl).symm.trans hf) |>.symm
      obtain rfl : fn = Tryd.f4 := (Option.some.inj (Tryd.func4.symm.trans hfn)).symm
      exact ⟨by kernel_rfl, fun j t ht => by
        rw [Tryd.params4] at ht
        have hm : t ∈ [28, 9, 3] := by simpa using Array.mem_of_getElem? ht
        have hall : ([28, 9, 3].all fun u => !Tryd.prog.wantsStandIn u) = true := by kernel_rfl
        exact (show Tryd.prog.wantsStandIn t = false by simpa using List.all_eq_true.1 hall t hm)⟩)
    (by kernel_rfl)
#print axioms proved
end Go.Proofs.YtkchbilkmoemaaaDoor.LawSKeeps
