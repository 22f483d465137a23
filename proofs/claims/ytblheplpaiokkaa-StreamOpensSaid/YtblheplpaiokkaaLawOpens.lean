/-
  StreamOpens: what is closed is opened, as it was; with a byte more ahead it is another text, or none: for every input, the law answers true and changes nothing that was there. No condition.
-/
import Derived.Test.YtblheplpaiokkaaStrClose
import Derived.Test.YtblheplpaiokkaaChaAwake
import Derived.Test.YtblheplpaiokkaaSteady
import Derived.Test.YtblheplpaiokkaaRows
import Derived.Test.YtblheplpaiokkaaOpen
namespace Go.Proofs.Ytblheplpaiokkaa.LawOpens
open Go.ChangeShapes Go.WideShapes Go.ChangeAt Go.RowKit Mur Lanes Cha Poly
set_option maxRecDepth 100000

/-- What came in, in its box. -/
structure Args (w0 : World) (k n m s : ByteArray) (w : World) : Prop where
  row : Whole w w0.heap.size 41 [.string k, .string n, .string m, .string s]
  below : Below w0.heap.size w0 w
theorem Args.start (w : World) (k n m s : ByteArray) : Args w k n m s (w.alloc (.cells #[.string k, .string n, .string m, .string s] 41)) :=
  ⟨Whole.made _ _ _, (Below.refl _ _).alloc (Nat.le_refl _) _⟩
theorem args_cells {w0 w u : World} {k n m s : ByteArray} (h : Args w0 k n m s w) (q : Below w.drew.heap.size w.drew u) :
    u.cell? ⟨w0.heap.size, 0, none⟩ = some (.string k) ∧ u.cell? ⟨w0.heap.size, 1, none⟩ = some (.string n) ∧ u.cell? ⟨w0.heap.size, 2, none⟩ = some (.string m) ∧ u.cell? ⟨w0.heap.size, 3, none⟩ = some (.string s) := by
  have r := h.row.drew.below h.row.lt q
  exact ⟨r.row.cell rfl, r.row.cell rfl, r.row.cell rfl, r.row.cell rfl⟩

set_option maxHeartbeats 1600000 in
theorem law_not (k n m s : ByteArray) (w : World) (hg : ¬ (k.size = 32 ∧ n.size = 12 ∧ m.size + s.size ≤ 2000)) (hm : m.size ≤ 140737488351232) (hs : s.size ≤ 140737488351232) :
    Calls Try.prog 7 #[.agg #[.string k, .string n, .string m, .string s]] w fun e w' => e = .returned (.bool true) ∧ Below w.heap.size w w' := by
  have hd : ((k.size : Int) != 32) = true ∨ (((k.size : Int) != 32) = false ∧ ((n.size : Int) != 12) = true) ∨ (((k.size : Int) != 32) = false ∧ ((n.size : Int) != 12) = false ∧ decide (2000 < (m.size : Int) + (s.size : Int)) = true) := by
    by_cases e1 : k.size = 32
    · right
      by_cases e2 : n.size = 12
      · right
        exact ⟨by simp; omega, by simp; omega, by simp; omega⟩
      · left
        exact ⟨by simp; omega, by simp; omega⟩
    · left
      simp; omega
  clear hg
  have HG := Lib.hid (Args.start w k n m s)
  rcases hd with h1 | ⟨h1, h2⟩ | ⟨h1, h2, h3⟩
  all_goals
    go_enter Try.func7, Try.ntmps7
    go_upto_region 1 with (fail)
    generalize w.alloc (.cells #[.string k, .string n, .string m, .string s] 41) = wz at *
    refine Steady.region 11 (by kernel_rfl) (by kernel_rfl) (fun u => Below wz.drew.heap.size wz.drew u) (Below.refl _ _) ?_
    simp only [List.take_succ_cons, List.take_zero, List.drop_succ_cons, List.drop_zero]
    refine Steady.take ?_ rfl (by intro u hu; go_simp; with_reducible rfl) ?_
    simp only [Act.put, List.setIfInBounds_toArray, List.set_cons_zero, List.set_cons_succ]
    refine Steady.take ?_ rfl (by intro u hu; obtain ⟨c0, c1, c2, c3⟩ := args_cells HG.out hu; go_simp; with_reducible rfl) ?_
    simp only [Act.put, List.setIfInBounds_toArray, List.set_cons_zero, List.set_cons_succ]
    refine Steady.take ?_ rfl (by intro u hu; go_simp; with_reducible rfl) ?_
    simp only [Act.put, List.setIfInBounds_toArray, List.set_cons_zero, List.set_cons_succ]
    refine Steady.take ?_ rfl (by intro u hu; obtain ⟨c0, c1, c2, c3⟩ := args_cells HG.out hu; go_simp; with_reducible rfl) ?_
    simp only [Act.put, List.setIfInBounds_toArray, List.set_cons_zero, List.set_cons_succ]
    refine Steady.take ?_ rfl (by intro u hu; go_simp; with_reducible rfl) ?_
    simp only [Act.put, List.setIfInBounds_toArray, List.set_cons_zero, List.set_cons_succ]
    refine Steady.take ?_ rfl (by intro u hu; obtain ⟨c0, c1, c2, c3⟩ := args_cells HG.out hu; go_simp; with_reducible rfl) ?_
    simp only [Act.put, List.setIfInBounds_toArray, List.set_cons_zero, List.set_cons_succ]
    refine Steady.take ?_ rfl (by intro u hu; go_simp; with_reducible rfl) ?_
    simp only [Act.put, List.setIfInBounds_toArray, List.set_cons_zero, List.set_cons_succ]
    refine Steady.take ?_ rfl (by intro u hu; obtain ⟨c0, c1, c2, c3⟩ := args_cells HG.out hu; go_simp; with_reducible rfl) ?_
    simp only [Act.put, List.setIfInBounds_toArray, List.set_cons_zero, List.set_cons_succ]
    refine Steady.take ?_ rfl (by intro u hu; go_simp; with_reducible rfl) ?_
    simp only [Act.put, List.setIfInBounds_toArray, List.set_cons_zero, List.set_cons_succ]
    refine Steady.take ?_ rfl (by intro u hu; go_simp; with_reducible rfl) ?_
    simp only [Act.put, List.setIfInBounds_toArray, List.set_cons_zero, List.set_cons_succ]
    refine Steady.take ?_ rfl (by intro u hu; go_simp; with_reducible rfl) ?_
    simp only [Act.put, List.setIfInBounds_toArray, List.set_cons_zero, List.set_cons_succ]
    refine Steady.nil ?_
    intro w9 h9
    have HB0 := Lib.hid (HG.out.below.drew.trans (h9.mono HG.out.below.size))
    clear h9 HG
    go_wp2_with fail
    refine (awake_any _).mono ?_
    rintro e w1 ⟨rfl, hb1⟩
    have HB1 := Lib.hid (HB0.out.trans (hb1.mono HB0.out.size))
    clear hb1 HB0
    go_wp2
    go_ret
    exact ⟨rfl, HB1.out⟩

theorem ahead_cut (H T : ByteArray) (p : Nat) (h : H.size = p) : (H ++ T).extract 0 p = H ∧ (H ++ T).extract p (H ++ T).size = T := by
  subst h
  refine ⟨?_, ?_⟩
  · apply ByteArray.ext
    simp [ByteArray.data_extract, ByteArray.data_append]
  · exact ByteArray.extract_append_eq_right rfl (by rw [ByteArray.size_append])

set_option maxHeartbeats 3200000 in
theorem law_do (k n m s : ByteArray) (w : World) (hg1 : k.size = 32) (hg2 : n.size = 12) (hg3 : m.size + s.size ≤ 2000) :
    Calls Try.prog 7 #[.agg #[.string k, .string n, .string m, .string s]] w fun e w' => e = .returned (.bool true) ∧ Below w.heap.size w w' := by
  have h1 : ((k.size : Int) != 32) = false := by simp; omega
  have h2 : ((n.size : Int) != 12) = false := by simp; omega
  have h3 : decide (2000 < (m.size : Int) + (s.size : Int)) = false := by simp; omega
  obtain ⟨H, hH⟩ : ∃ H, H = hidB k n s 64 := ⟨_, rfl⟩
  obtain ⟨T, hT⟩ : ∃ T, T = closeTag (streamB k n 64) m H := ⟨_, rfl⟩
  obtain ⟨X, hX⟩ : ∃ X, X = H ++ T := ⟨_, rfl⟩
  have hHs : H.size = s.size := by rw [hH, hidB_size]
  have hTs : T.size = 16 := by rw [hT, closeTag_size]
  have hXs : X.size = s.size + 16 := by rw [hX, ByteArray.size_append, hHs, hTs]
  obtain ⟨Q, hQ⟩ : ∃ Q : ByteArray, Q = ⟨#[113]⟩ := ⟨_, rfl⟩
  have hQs : Q.size = 1 := by rw [hQ]; rfl
  obtain ⟨A, hA⟩ : ∃ A, A = Q ++ H := ⟨_, rfl⟩
  have hAs : A.size = s.size + 1 := by rw [hA, ByteArray.size_append, hQs, hHs]; omega
  obtain ⟨Y, hY⟩ : ∃ Y, Y = Q ++ X := ⟨_, rfl⟩
  have hYA : Y = A ++ T := by rw [hY, hX, hA, ByteArray.append_assoc]
  have hYs : Y.size = (s.size + 1) + 16 := by rw [hYA, ByteArray.size_append, hAs, hTs]
  have cX := ahead_cut H T s.size hHs
  have cY := ahead_cut A T (s.size + 1) hAs
  rw [← hX] at cX
  rw [← hYA] at cY
  obtain ⟨b, hb⟩ : ∃ b, decide (T.data.toList = (closeTag (streamB k n 64) m A).data.toList) = b := ⟨_, rfl⟩
  obtain ⟨Z, hZ⟩ : ∃ Z, Z = hidB k n A 64 := ⟨_, rfl⟩
  have hZs : Z.size = s.size + 1 := by rw [hZ, hidB_size, hAs]
  have r1 := Lib.hid (show ∀ u, Calls Try.prog 23 #[.string k, .string n, .string m, .string s] u fun e w' => e = .returned (.tuple #[.string X, .int .i64 0]) ∧ Below u.heap.size u w' from fun u => close_ok k n m s X u ⟨⟨hg1, hg2⟩, by omega⟩ (by omega) (by rw [hX, hT, hH]))
  have r2 := Lib.hid (show ∀ u, Calls Try.prog 25 #[.string k, .string n, .string m, .string X] u fun e w' => e = .returned (.tuple #[.string s, .int .i64 0]) ∧ Below u.heap.size u w' from fun u => by
    have := open_any k n m X H T s.size true u hXs ⟨⟨hg1, hg2⟩, by omega⟩ (by omega) cX.1 cX.2 (by rw [← hT]; simp)
    unfold openV at this
    rw [show hidB k n H 64 = s from by rw [hH, hidB_back]] at this
    exact this)
  have r3 := Lib.hid (show ∀ u, Calls Try.prog 25 #[.string k, .string n, .string m, .string Y] u fun e w' => e = .returned (openR Z b) ∧ Below u.heap.size u w' from fun u => by
    have := open_any k n m Y A T (s.size + 1) b u hYs ⟨⟨hg1, hg2⟩, by omega⟩ (by omega) cY.1 cY.2 hb
    unfold openV at this
    rw [← hZ] at this
    exact this)
  have t1 : (s.toList == s.toList) = true := by simp
  have t2 : ((X.size : Int) == (s.size : Int) + 16) = true := by rw [hXs]; simp
  have t3 : ((Z.size : Int) == (s.size : Int) + 1) = true := by rw [hZs]; simp
  have cat : ¬ 9223372036854775807 < 1 + X.size := by omega
  have b1 : (m.size : Int) ≤ 2000 := by omega
  have b2 : (s.size : Int) ≤ 2000 := by omega
  have HY := Lib.hid (show Y = (⟨#[113]⟩ : ByteArray) ++ X by rw [hY, hQ])
  have HG := Lib.hid (Args.start w k n m s)
  clear hg1 hg2 hg3 hH hT hX hHs hTs hXs hQ hQs hA hAs hY hYA hYs cX cY hb hZ hZs
  go_enter Try.func7, Try.ntmps7
  go_upto_region 1 with (fail)
  generalize w.alloc (.cells #[.string k, .string n, .string m, .string s] 41) = wz at *
  refine Steady.region 11 (by kernel_rfl) (by kernel_rfl) (fun u => Below wz.drew.heap.size wz.drew u) (Below.refl _ _) ?_
  simp only [List.take_succ_cons, List.take_zero, List.drop_succ_cons, List.drop_zero]
  refine Steady.take ?_ rfl (by intro u hu; go_simp; with_reducible rfl) ?_
  simp only [Act.put, List.setIfInBounds_toArray, List.set_cons_zero, List.set_cons_succ]
  refine Steady.take ?_ rfl (by intro u hu; obtain ⟨c0, c1, c2, c3⟩ := args_cells HG.out hu; go_simp; with_reducible rfl) ?_
  simp only [Act.put, List.setIfInBounds_toArray, List.set_cons_zero, List.set_cons_succ]
  refine Steady.take ?_ rfl (by intro u hu; go_simp; with_reducible rfl) ?_
  simp only [Act.put, List.setIfInBounds_toArray, List.set_cons_zero, List.set_cons_succ]
  refine Steady.take ?_ rfl (by intro u hu; obtain ⟨c0, c1, c2, c3⟩ := args_cells HG.out hu; go_simp; with_reducible rfl) ?_
  simp only [Act.put, List.setIfInBounds_toArray, List.set_cons_zero, List.set_cons_succ]
  refine Steady.take ?_ rfl (by intro u hu; go_simp; with_reducible rfl) ?_
  simp only [Act.put, List.setIfInBounds_toArray, List.set_cons_zero, List.set_cons_succ]
  refine Steady.take ?_ rfl (by intro u hu; obtain ⟨c0, c1, c2, c3⟩ := args_cells HG.out hu; go_simp; with_reducible rfl) ?_
  simp only [Act.put, List.setIfInBounds_toArray, List.set_cons_zero, List.set_cons_succ]
  refine Steady.take ?_ rfl (by intro u hu; go_simp; with_reducible rfl) ?_
  simp only [Act.put, List.setIfInBounds_toArray, List.set_cons_zero, List.set_cons_succ]
  refine Steady.take ?_ rfl (by intro u hu; obtain ⟨c0, c1, c2, c3⟩ := args_cells HG.out hu; go_simp; with_reducible rfl) ?_
  simp only [Act.put, List.setIfInBounds_toArray, List.set_cons_zero, List.set_cons_succ]
  refine Steady.take ?_ rfl (by intro u hu; go_simp; with_reducible rfl) ?_
  simp only [Act.put, List.setIfInBounds_toArray, List.set_cons_zero, List.set_cons_succ]
  refine Steady.take ?_ rfl (by intro u hu; go_simp; with_reducible rfl) ?_
  simp only [Act.put, List.setIfInBounds_toArray, List.set_cons_zero, List.set_cons_succ]
  refine Steady.take ?_ rfl (by intro u hu; go_simp; with_reducible rfl) ?_
  simp only [Act.put, List.setIfInBounds_toArray, List.set_cons_zero, List.set_cons_succ]
  refine Steady.nil ?_
  intro w9 h9
  have HB0 := Lib.hid (HG.out.below.drew.trans (h9.mono HG.out.below.size))
  clear h9 HG
  go_wp2_with fail
  refine (r1.out _).mono ?_
  rintro e w1 ⟨rfl, hb⟩
  have HB1 := Lib.hid (HB0.out.trans (hb.mono HB0.out.size))
  clear hb HB0
  go_wp2_with fail
  refine (r2.out _).mono ?_
  rintro e w2 ⟨rfl, hb⟩
  have HB2 := Lib.hid (HB1.out.trans (hb.mono HB1.out.size))
  clear hb HB1
  go_wp2_with fail
  rw [← HY.out]
  refine (r3.out _).mono ?_
  rintro e w3 ⟨rfl, hb⟩
  have HB3 := Lib.hid (HB2.out.trans (hb.mono HB2.out.size))
  clear hb HB2 cat
  cases b
  all_goals
    unfold openR
    go_wp2_with fail
    refine (awake_any _).mono ?_
    rintro e w4 ⟨rfl, hb⟩
    have HB4 := Lib.hid (HB3.out.trans (hb.mono HB3.out.size))
    clear hb HB3
    go_wp2
    go_ret
    exact ⟨rfl, HB4.out⟩

theorem walk (k n m s : ByteArray) (w : World) (_ : k.size ≤ 140737488351232) (_ : n.size ≤ 140737488351232) (hm : m.size ≤ 140737488351232) (hs : s.size ≤ 140737488351232) :
    Calls Try.prog 7 #[.agg #[.string k, .string n, .string m, .string s]] w fun e w' => e = .returned (.bool true) ∧ Below w.heap.size w w' := by
  by_cases hg : k.size = 32 ∧ n.size = 12 ∧ m.size + s.size ≤ 2000
  · exact law_do k n m s w hg.1 hg.2.1 hg.2.2
  · exact law_not k n m s w hg hm hs

theorem own : ownKnob Try.prog.godebug = none := by kernel_rfl
theorem laidOut : laidOutB Try.prog = true := by kernel_rfl
theorem four_of {α : Type} (l : List α) (h : l.length = 4) : ∃ a b c d, l = [a, b, c, d] := by
  match l, h with
  | [a, b, c, d], _ => exact ⟨a, b, c, d, rfl⟩

set_option maxRecDepth 100000 in
theorem lifted (os : Os) (started : os.Started) (H : Type) (enc : TypeId × Value → H) :
    ReturnsInHanded {} Try.checked os 7 .any (Rows.streamOpensSpec.pre6 enc Try.prog Try.f7 Rows.streamOpensRow.domain false) (Rows.streamOpensSpec.post enc Try.prog Try.f7 false true false false) := by
  refine returnsInHanded_of_change_sized (C := Try.checked) own started (by kernel_rfl) Try.func7
    (ChangeSpec.witness6 (enc := enc) (C := Try.checked) false ⟨#[], #[.agg #[.string ByteArray.empty, .string ByteArray.empty, .string ByteArray.empty, .string ByteArray.empty]], []⟩ 8 (by kernel_rfl) (by kernel_rfl) (by kernel_rfl) (by kernel_rfl)) ?_
  intro W base args ds gs before hval0 hW hcnd hsz0 _
  have hsz : (DataW.weightsEach Try.prog (Try.f7.params.toList ++ Rows.streamOpensSpec.plain.varTypes Try.prog) (ds ++ gs)).all (· ≤ reachBytes) = true := hsz0
  clear hsz0
  have hval : ∀ (j : Nat) t v, Try.f7.params[j]? = some t → args[j]? = some v → Value.okWide Try.prog W .any base t v := hval0
  have hW' := hW
  obtain ⟨p, q, hA0, hV, rfl, hfz, hnd⟩ := hW
  have hA : DataW.TrodAll enc Try.prog W 0 (fun _ => true) true Try.f7.params.toList args.toList ds p := hA0
  rw [Try.params7] at hA hval hsz
  obtain ⟨v0, vs0, d0, ds0, p0, q0, hargs, rfl, rfl, h0, r0⟩ := trodAll_cons hA
  obtain ⟨rfl, rfl, rfl⟩ := trodAll_nil r0
  obtain rfl : args = #[v0] := by cases args; simp_all
  obtain ⟨rfl, rfl⟩ := trodVars_none hV
  have k0 := h0
  have lt0 : ∀ x ∈ p0, x.block < W.heap.size := by obtain ⟨m, hm⟩ := k0; exact DataW.trod_lt m _ _ _ hm
  obtain ⟨ss0, hsl0, rfl, rfl, rfl, w0⟩ := Open.open_string_array Try.underlying41 Try.underlying9 (by kernel_rfl) (by kernel_rfl) (hval 0 41 v0 rfl rfl) h0
  have z0 := Open.sized_string_array hsz (j := 0) (t := 41) (ss := ss0) rfl rfl Try.underlying41
  obtain ⟨s0a, s0b, s0c, s0d, rfl⟩ := four_of ss0 hsl0
  clear hA0 hval0
  have hwk := walk s0a s0b s0c s0d W (z0 s0a (by simp)) (z0 s0b (by simp)) (z0 s0c (by simp)) (z0 s0d (by simp))
  refine hwk.mono fun e W' ⟨he, bel⟩ => ?_
  subst he
  exact ⟨_, rfl, _, _, _, [], _, [], hW', trodAll_mk1 (shut_bool Try.underlying4 _), (trodAll_cons_mk (Below.trod laidOut (by kernel_rfl) (of_decide_eq_true (by kernel_rfl)) k0 bel lt0) trodAll_mk0), rfl, bel.frame _, fun h => by cases h⟩

theorem over : Rows.streamOpensRow.holds Try.pinned (OpenSpec.ofChange Rows.streamOpensSpec) :=
  OpenClaim.holds_of_wide 7 Try.f7 rfl rfl rfl rfl rfl rfl rfl ⟨rfl, rfl, rfl, rfl, rfl⟩ rfl rfl rfl rfl rfl (by kernel_rfl) Try.func7 (by kernel_rfl)
    (of_decide_eq_true (by kernel_rfl)) (by unfold Func.isWrapper; first | (rw [if_pos (by decide +kernel)]; kernel_rfl) | (rw [if_neg (by decide +kernel)]; exact ⟨rfl, rfl⟩))
    (fun os started H enc _ => lifted os started H enc)

theorem proved : Rows.StreamOpensSaid := over
#print axioms proved
end Go.Proofs.Ytblheplpaiokkaa.LawOpens
