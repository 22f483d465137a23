/-
  StreamTwice: hidden twice a text is as it was; a longer stream begins with a shorter one, and is as long as was asked: for every input, the law answers true and changes nothing that was there. No condition.
-/
import Derived.Test.YtmljnemladefmaaChaAwake
import Derived.Test.YtmljnemladefmaaRows
import Derived.Test.YtmljnemladefmaaOpen
namespace Go.Proofs.Ytmljnemladefmaa.LawTwice
open Go.ChangeShapes Go.WideShapes Go.ChangeAt Go.RowKit Mur Lanes Cha

theorem rest_of (x : Int) (q : Nat) (h1 : 0 < q) (h2 : q ≤ 1000) : ∃ m : Nat, m < q ∧ wrap64 ((IntKind.u64.wrap x).tmod (q : Int)) = (m : Int) := by
  rw [IntKind.wrap_u64, Int.tmod_eq_emod_of_nonneg (by omega)]
  have h3 : 0 ≤ x % 18446744073709551616 % (q : Int) := Int.emod_nonneg _ (by omega)
  have h4 : x % 18446744073709551616 % (q : Int) < q := Int.emod_lt_of_pos _ (by omega)
  refine ⟨(x % 18446744073709551616 % (q : Int)).toNat, by omega, ?_⟩
  rw [IntWalk.wrap64_in _ (by omega)]
  omega

/-- What came in, in its boxes. -/
structure Args (w0 : World) (k n s : ByteArray) (n0 n1 : Int) (w : World) : Prop where
  room : w0.heap.size + 1 < w.heap.size
  c0 : w.cell? ⟨w0.heap.size, 0, none⟩ = some (.string k)
  c1 : w.cell? ⟨w0.heap.size, 1, none⟩ = some (.string n)
  c2 : w.cell? ⟨w0.heap.size, 2, none⟩ = some (.string s)
  c3 : w.cell? ⟨w0.heap.size + 1, 0, none⟩ = some (.int .i64 n0)
  c4 : w.cell? ⟨w0.heap.size + 1, 1, none⟩ = some (.int .i64 n1)
  below : Below w0.heap.size w0 w
theorem Args.next {w0 w w' : World} {k n s : ByteArray} {n0 n1 : Int} (h : Args w0 k n s n0 n1 w) (q : Below w.heap.size w w') : Args w0 k n s n0 n1 w' := by
  have hr := h.room
  have hr0 : w0.heap.size < w.heap.size := by omega
  exact ⟨Nat.lt_of_lt_of_le h.room q.size, (q.cell (p := ⟨w0.heap.size, 0, none⟩) hr0).trans h.c0, (q.cell (p := ⟨w0.heap.size, 1, none⟩) hr0).trans h.c1, (q.cell (p := ⟨w0.heap.size, 2, none⟩) hr0).trans h.c2,
    (q.cell (p := ⟨w0.heap.size + 1, 0, none⟩) hr).trans h.c3, (q.cell (p := ⟨w0.heap.size + 1, 1, none⟩) hr).trans h.c4, h.below.trans (q.mono h.below.size)⟩
theorem Args.start (w : World) (k n s : ByteArray) (n0 n1 : Int) : Args w k n s n0 n1 ((w.alloc (.cells #[.string k, .string n, .string s] 24)).alloc (.cells #[.int .i64 n0, .int .i64 n1] 25)) := by
  refine ⟨by simp, ?_, ?_, ?_, ?_, ?_, ((Below.refl _ _).alloc (Nat.le_refl _) _).alloc (by simp) _⟩
  all_goals simp

set_option maxHeartbeats 800000 in
theorem law_not (k n s : ByteArray) (n0 n1 : Int) (w : World) (hg : ¬ (s.size ≤ 2000 ∧ k.size = 32 ∧ n.size = 12)) (hs : s.size ≤ 140737488351232) :
    Calls Try.prog 4 #[.agg #[.string k, .string n, .string s], .agg #[.int .i64 n0, .int .i64 n1]] w fun e w' => e = .returned (.bool true) ∧ Below w.heap.size w w' := by
  have hd : decide (2000 < (s.size : Int)) = true ∨ (decide (2000 < (s.size : Int)) = false ∧ ((k.size : Int) != 32) = true) ∨ (decide (2000 < (s.size : Int)) = false ∧ ((k.size : Int) != 32) = false ∧ ((n.size : Int) != 12) = true) := by
    by_cases e1 : s.size ≤ 2000
    · right
      by_cases e2 : k.size = 32
      · right
        exact ⟨by simp; omega, by simp; omega, by simp; omega⟩
      · left
        exact ⟨by simp; omega, by simp; omega⟩
    · left
      simp; omega
  clear hg
  rcases hd with h1 | ⟨h1, h2⟩ | ⟨h1, h2, h3⟩
  all_goals
    go_enter Try.func4, Try.ntmps4
    go_wp2_with fail
    refine (awake_any _).mono ?_
    rintro e w1 ⟨rfl, hb1⟩
    go_wp2
    go_ret
    exact ⟨rfl, ((Args.start w k n s n0 n1).next hb1).below⟩

set_option maxHeartbeats 1600000 in
theorem law_do (k n s : ByteArray) (n0 n1 : Int) (w : World) (hg1 : s.size ≤ 2000) (hg2 : k.size = 32) (hg3 : n.size = 12) :
    Calls Try.prog 4 #[.agg #[.string k, .string n, .string s], .agg #[.int .i64 n0, .int .i64 n1]] w fun e w' => e = .returned (.bool true) ∧ Below w.heap.size w w' := by
  have h1 : decide (2000 < (s.size : Int)) = false := by simp; omega
  have h2 : ((k.size : Int) != 32) = false := by simp; omega
  have h3 : ((n.size : Int) != 12) = false := by simp; omega
  obtain ⟨p, hp, hp2⟩ := rest_of n0 200 (by omega) (by omega)
  obtain ⟨q, hq, hq2⟩ := rest_of n1 200 (by omega) (by omega)
  obtain ⟨A, hA⟩ : ∃ A, A = hidB k n s 0 := ⟨_, rfl⟩
  obtain ⟨X, hX⟩ : ∃ X, X = streamB k n p := ⟨_, rfl⟩
  obtain ⟨Y, hY⟩ : ∃ Y, Y = streamB k n (p + q) := ⟨_, rfl⟩
  have hAs : A.size = s.size := by rw [hA, hidB_size]
  have hXs : X.size = p := by rw [hX, streamB_size]
  have hYs : Y.size = p + q := by rw [hY, streamB_size]
  have hYX : Y.extract 0 p = X := by rw [hY, hX]; exact streamB_take k n p (p + q) (by omega)
  have hB : s = hidB k n A 0 := by rw [hA, hidB_back]
  have r1 := Lib.hid (fun u => hide_ok k n s A u ⟨⟨hg2, hg3⟩, by omega⟩ hA)
  have r2 := Lib.hid (fun u => hide_ok k n A s u ⟨⟨hg2, hg3⟩, by omega⟩ hB)
  have r3 := Lib.hid (show ∀ u, Calls Try.prog 11 #[.string k, .string n, .int .i64 p] u fun e w' => e = .returned (.tuple #[.string X, .int .i64 0]) ∧ Below u.heap.size u w' from fun u => by rw [hX]; exact stream_ok k n p u ⟨⟨hg2, hg3⟩, by omega⟩)
  have r4 := Lib.hid (show ∀ u, Calls Try.prog 11 #[.string k, .string n, .int .i64 ((p : Int) + (q : Int))] u fun e w' => e = .returned (.tuple #[.string Y, .int .i64 0]) ∧ Below u.heap.size u w' from fun u => by rw [hY]; exact stream_ok k n (p + q) u ⟨⟨hg2, hg3⟩, by omega⟩)
  have t1 : (s.toList == s.toList) = true := by simp
  have t2 : ((X.size : Int) == (p : Int)) = true := by rw [hXs]; simp
  have t3 : ((Y.size : Int) == (p : Int) + (q : Int)) = true := by rw [hYs]; simp
  have t4 : ((Y.extract 0 p).toList == X.toList) = true := by rw [hYX]; simp
  have t5 : (p : Int) ≤ (Y.size : Int) := by omega
  have HP := Lib.hid hp2
  have HQ := Lib.hid hq2
  have HE := Lib.hid (Args.start w k n s n0 n1)
  clear hp2 hq2 hA hX hY hAs hXs hYs hYX hB hg1 hg2 hg3
  go_enter Try.func4, Try.ntmps4
  go_wp2_with fail
  refine (r1.out _).mono ?_
  rintro e w1 ⟨rfl, hb1⟩
  have HE1 := Lib.hid (HE.out.next hb1)
  clear hb1 HE
  obtain ⟨-, c0, c1, c2, c3, c4, -⟩ := HE1.out
  go_wp2_with fail
  refine (r2.out _).mono ?_
  rintro e w2 ⟨rfl, hb2⟩
  have HE2 := Lib.hid (HE1.out.next hb2)
  clear hb2 HE1 c0 c1 c2 c3 c4
  obtain ⟨-, c0, c1, c2, c3, c4, -⟩ := HE2.out
  go_wp2
  go_quiet (fail)
  have hq1 := HP.out
  have hq2 := HQ.out
  rw [show ((200 : Nat) : Int) = 200 from rfl] at hq1 hq2
  go_wp2_with fail
  rw [hq1, hq2]
  clear hq1 hq2
  refine (r3.out _).mono ?_
  rintro e w3 ⟨rfl, hb3⟩
  have HE3 := Lib.hid ((HE2.out.next (belowN (Below.refl _ _) nq)).next hb3)
  clear hb3 HE2 c0 c1 c2 c3 c4
  obtain ⟨-, c0, c1, c2, c3, c4, -⟩ := HE3.out
  go_wp2_with fail
  refine (r4.out _).mono ?_
  rintro e w4 ⟨rfl, hb4⟩
  have HE4 := Lib.hid (HE3.out.next hb4)
  clear hb4 HE3 c0 c1 c2 c3 c4
  obtain ⟨-, c0, c1, c2, c3, c4, -⟩ := HE4.out
  go_wp2_with fail
  refine (awake_any _).mono ?_
  rintro e w5 ⟨rfl, hb5⟩
  have HE5 := Lib.hid (HE4.out.next hb5)
  clear hb5 HE4 c0 c1 c2 c3 c4
  go_wp2
  go_ret
  exact ⟨rfl, HE5.out.below⟩

theorem walk (k n s : ByteArray) (n0 n1 : Int) (w : World) (hs : s.size ≤ 140737488351232) :
    Calls Try.prog 4 #[.agg #[.string k, .string n, .string s], .agg #[.int .i64 n0, .int .i64 n1]] w fun e w' => e = .returned (.bool true) ∧ Below w.heap.size w w' := by
  by_cases hg : s.size ≤ 2000 ∧ k.size = 32 ∧ n.size = 12
  · exact law_do k n s n0 n1 w hg.1 hg.2.1 hg.2.2
  · exact law_not k n s n0 n1 w hg hs

theorem own : ownKnob Try.prog.godebug = none := by kernel_rfl
theorem laidOut : laidOutB Try.prog = true := by kernel_rfl
theorem two_of {α : Type} (l : List α) (h : l.length = 2) : ∃ a b, l = [a, b] := by
  match l, h with
  | [a, b], _ => exact ⟨a, b, rfl⟩
theorem three_of {α : Type} (l : List α) (h : l.length = 3) : ∃ a b c, l = [a, b, c] := by
  match l, h with
  | [a, b, c], _ => exact ⟨a, b, c, rfl⟩

set_option maxRecDepth 100000 in
theorem lifted (os : Os) (started : os.Started) (H : Type) (enc : TypeId × Value → H) :
    ReturnsInHanded {} Try.checked os 4 .any (Rows.streamTwiceSpec.pre6 enc Try.prog Try.f4 Rows.streamTwiceRow.domain false) (Rows.streamTwiceSpec.post enc Try.prog Try.f4 false true false false) := by
  refine returnsInHanded_of_change_sized (C := Try.checked) own started (by kernel_rfl) Try.func4
    (ChangeSpec.witness6 (enc := enc) (C := Try.checked) false ⟨#[], #[.agg #[.string ByteArray.empty, .string ByteArray.empty, .string ByteArray.empty], .agg #[.int .i64 0, .int .i64 0]], []⟩ 8 (by kernel_rfl) (by kernel_rfl) (by kernel_rfl) (by kernel_rfl)) ?_
  intro W base args ds gs before hval0 hW hcnd hsz0 _
  have hsz : (DataW.weightsEach Try.prog (Try.f4.params.toList ++ Rows.streamTwiceSpec.plain.varTypes Try.prog) (ds ++ gs)).all (· ≤ reachBytes) = true := hsz0
  clear hsz0
  have hval : ∀ (j : Nat) t v, Try.f4.params[j]? = some t → args[j]? = some v → Value.okWide Try.prog W .any base t v := hval0
  have hW' := hW
  obtain ⟨p, q, hA0, hV, rfl, hfz, hnd⟩ := hW
  have hA : DataW.TrodAll enc Try.prog W 0 (fun _ => true) true Try.f4.params.toList args.toList ds p := hA0
  rw [Try.params4] at hA hval hsz
  obtain ⟨v0, vs0, d0, ds0, p0, q0, hargs, rfl, rfl, h0, r0⟩ := trodAll_cons hA
  obtain ⟨v1, vs1, d1, ds1, p1, q1, rfl, rfl, rfl, h1, r1⟩ := trodAll_cons r0
  obtain ⟨rfl, rfl, rfl⟩ := trodAll_nil r1
  obtain rfl : args = #[v0, v1] := by cases args; simp_all
  obtain ⟨rfl, rfl⟩ := trodVars_none hV
  have k0 := h0
  have lt0 : ∀ x ∈ p0, x.block < W.heap.size := by obtain ⟨m, hm⟩ := k0; exact DataW.trod_lt m _ _ _ hm
  have k1 := h1
  have lt1 : ∀ x ∈ p1, x.block < W.heap.size := by obtain ⟨m, hm⟩ := k1; exact DataW.trod_lt m _ _ _ hm
  obtain ⟨ss, hsl, rfl, rfl, rfl, w0⟩ := Open.open_string_array Try.underlying24 Try.underlying9 (by kernel_rfl) (by kernel_rfl) (hval 0 24 v0 rfl rfl) h0
  obtain ⟨ns, hnl, rfl, rfl, rfl, w1⟩ := Open.open_int_array Try.underlying25 Try.underlying3 (by kernel_rfl) (by kernel_rfl) (hval 1 25 v1 rfl rfl) h1
  have z0 := Open.sized_string_array hsz (j := 0) (t := 24) (ss := ss) rfl rfl Try.underlying24
  obtain ⟨s0, s1, s2, rfl⟩ := three_of ss hsl
  obtain ⟨n0, n1, rfl⟩ := two_of ns hnl
  clear hA0 hval0
  refine (walk s0 s1 s2 n0 n1 W (z0 s2 (by simp))).mono fun e W' ⟨he, bel⟩ => ?_
  subst he
  exact ⟨_, rfl, _, _, _, [], _, [], hW', trodAll_mk1 (shut_bool Try.underlying4 _), (trodAll_cons_mk (Below.trod laidOut (by kernel_rfl) (of_decide_eq_true (by kernel_rfl)) k0 bel lt0) (trodAll_cons_mk (Below.trod laidOut (by kernel_rfl) (of_decide_eq_true (by kernel_rfl)) k1 bel lt1) trodAll_mk0)), rfl, bel.frame _, fun h => by cases h⟩

theorem over : Rows.streamTwiceRow.holds Try.pinned (OpenSpec.ofChange Rows.streamTwiceSpec) :=
  OpenClaim.holds_of_wide 4 Try.f4 rfl rfl rfl rfl rfl rfl rfl ⟨rfl, rfl, rfl, rfl, rfl⟩ rfl rfl rfl rfl rfl (by kernel_rfl) Try.func4 (by kernel_rfl)
    (of_decide_eq_true (by kernel_rfl)) (by unfold Func.isWrapper; first | (rw [if_pos (by decide +kernel)]; kernel_rfl) | (rw [if_neg (by decide +kernel)]; exact ⟨rfl, rfl⟩))
    (fun os started H enc _ => lifted os started H enc)

theorem proved : Rows.StreamTwiceSaid := over
#print axioms proved
end Go.Proofs.Ytmljnemladefmaa.LawTwice
