/-
  StreamTags: tags, closed texts and opened ones are those of the document's own answer: for every input, the law answers true and changes nothing that was there. No condition.
-/
import Derived.Test.YtcglobpklhkebabStrErr
import Derived.Test.YtcglobpklhkebabRefClose
import Derived.Test.YtcglobpklhkebabRPolyAll
import Derived.Test.YtcglobpklhkebabChaAwake
import Derived.Test.YtcglobpklhkebabSteady
import Derived.Test.YtcglobpklhkebabRows
import Derived.Test.YtcglobpklhkebabOpen
namespace Go.Proofs.Ytcglobpklhkebab.LawTags
open Go.ChangeShapes Go.WideShapes Go.ChangeAt Go.RowKit Mur Lanes Cha Poly
set_option maxRecDepth 100000

/-- What came in, in its box. -/
structure Args (w0 : World) (k n m s : ByteArray) (w : World) : Prop where
  row : Whole w w0.heap.size 22 [.string k, .string n, .string m, .string s]
  below : Below w0.heap.size w0 w
theorem Args.start (w : World) (k n m s : ByteArray) : Args w k n m s (w.alloc (.cells #[.string k, .string n, .string m, .string s] 22)) :=
  ⟨Whole.made _ _ _, (Below.refl _ _).alloc (Nat.le_refl _) _⟩
theorem args_cells {w0 w u : World} {k n m s : ByteArray} (h : Args w0 k n m s w) (q : Below w.drew.heap.size w.drew u) :
    u.cell? ⟨w0.heap.size, 0, none⟩ = some (.string k) ∧ u.cell? ⟨w0.heap.size, 1, none⟩ = some (.string n) ∧ u.cell? ⟨w0.heap.size, 2, none⟩ = some (.string m) ∧ u.cell? ⟨w0.heap.size, 3, none⟩ = some (.string s) := by
  have r := h.row.drew.below h.row.lt q
  exact ⟨r.row.cell rfl, r.row.cell rfl, r.row.cell rfl, r.row.cell rfl⟩

set_option maxHeartbeats 1600000 in
theorem law_not (k n m s : ByteArray) (w : World) (hg : ¬ (k.size + n.size + m.size + s.size ≤ 2000)) (hk : k.size ≤ 140737488351232) (hn : n.size ≤ 140737488351232) (hm : m.size ≤ 140737488351232) (hs : s.size ≤ 140737488351232) :
    Calls Try.prog 3 #[.agg #[.string k, .string n, .string m, .string s]] w fun e w' => e = .returned (.bool true) ∧ Below w.heap.size w w' := by
  have hd : decide (2000 < (k.size : Int) + (n.size : Int) + (m.size : Int) + (s.size : Int)) = true := by simp; omega
  clear hg
  have HG := Lib.hid (Args.start w k n m s)
  go_enter Try.func3, Try.ntmps3
  go_upto_region 1 with (fail)
  generalize w.alloc (.cells #[.string k, .string n, .string m, .string s] 22) = wz at *
  refine Steady.region 11 (by kernel_rfl) (by kernel_rfl) (fun u => Below wz.drew.heap.size wz.drew u) (Below.refl _ _) ?_
  simp only [List.take_succ_cons, List.take_zero, List.drop_succ_cons, List.drop_zero]
  refine Steady.take ?_ rfl (by intro u hu; go_simp; with_reducible rfl) ?_
  simp only [Act.put, List.setIfInBounds_toArray, List.set_cons_zero, List.set_cons_succ]
  refine Steady.take ?_ rfl (by intro u hu; obtain ⟨c0, c1, c2, c3⟩ := args_cells HG.out hu; go_simp; with_reducible rfl) ?_
  simp only [Act.put, List.setIfInBounds_toArray, List.set_cons_zero, List.set_cons_succ]
  refine Steady.take ?_ rfl (by intro u hu; go_simp; with_reducible rfl) ?_
  simp only [Act.put, List.setIfInBounds_toArray, List.set_cons_zero, List.set_cons_succ]
  refine Steady.take ?_ rfl (by intro u hu; obtain ⟨c0, c1, c2, c3⟩ := args_cells HG.out hu; go_simp; with_reducible rfl) ?_
  simp only [Act.put, List.setIfInBounds_toArray, List.set_cons_zero, List.set_cons_succ]
  refine Steady.take ?_ rfl (by intro u hu; go_simp; with_reducible rfl) ?_
  simp only [Act.put, List.setIfInBounds_toArray, List.set_cons_zero, List.set_cons_succ]
  refine Steady.take ?_ rfl (by intro u hu; obtain ⟨c0, c1, c2, c3⟩ := args_cells HG.out hu; go_simp; with_reducible rfl) ?_
  simp only [Act.put, List.setIfInBounds_toArray, List.set_cons_zero, List.set_cons_succ]
  refine Steady.take ?_ rfl (by intro u hu; go_simp; with_reducible rfl) ?_
  simp only [Act.put, List.setIfInBounds_toArray, List.set_cons_zero, List.set_cons_succ]
  refine Steady.take ?_ rfl (by intro u hu; obtain ⟨c0, c1, c2, c3⟩ := args_cells HG.out hu; go_simp; with_reducible rfl) ?_
  simp only [Act.put, List.setIfInBounds_toArray, List.set_cons_zero, List.set_cons_succ]
  refine Steady.take ?_ rfl (by intro u hu; go_simp; with_reducible rfl) ?_
  simp only [Act.put, List.setIfInBounds_toArray, List.set_cons_zero, List.set_cons_succ]
  refine Steady.take ?_ rfl (by intro u hu; go_simp; with_reducible rfl) ?_
  simp only [Act.put, List.setIfInBounds_toArray, List.set_cons_zero, List.set_cons_succ]
  refine Steady.take ?_ rfl (by intro u hu; go_simp; with_reducible rfl) ?_
  simp only [Act.put, List.setIfInBounds_toArray, List.set_cons_zero, List.set_cons_succ]
  refine Steady.nil ?_
  intro w9 h9
  have HB0 := Lib.hid (HG.out.below.drew.trans (h9.mono HG.out.below.size))
  clear h9 HG
  go_wp2_with fail
  refine (awake_any _).mono ?_
  rintro e w1 ⟨rfl, hb1⟩
  have HB1 := Lib.hid (HB0.out.trans (hb1.mono HB0.out.size))
  clear hb1 HB0
  go_wp2
  go_ret
  exact ⟨rfl, HB1.out⟩

/-- Both answer the same. -/
def Both (f h : FuncId) (args : Array Value) (a : ByteArray) (e : Int) : Prop := ∀ u, (Calls Try.prog f args u fun r w' => r = .returned (.tuple #[.string a, .int .i64 e]) ∧ Below u.heap.size u w') ∧ Calls Try.prog h args u fun r w' => r = .returned (.tuple #[.string a, .int .i64 e]) ∧ Below u.heap.size u w'
set_option maxHeartbeats 6400000 in
theorem law_do (k n m s : ByteArray) (w : World) (hg : k.size + n.size + m.size + s.size ≤ 2000) (A C X U : ByteArray) (e g i l : Int)
    (b1 : Both 5 6 #[.string k, .string s] A e) (b2 : Both 7 8 #[.string k, .string n, .string m, .string s] C g)
    (b3 : Both 9 10 #[.string k, .string n, .string m, .string s] X i) (b4 : Both 9 10 #[.string k, .string n, .string m, .string C] U l) :
    Calls Try.prog 3 #[.agg #[.string k, .string n, .string m, .string s]] w fun e w' => e = .returned (.bool true) ∧ Below w.heap.size w w' := by
  have hd : decide (2000 < (k.size : Int) + (n.size : Int) + (m.size : Int) + (s.size : Int)) = false := by simp; omega
  have tA : (A.toList == A.toList) = true := by simp
  have tC : (C.toList == C.toList) = true := by simp
  have tX : (X.toList == X.toList) = true := by simp
  have tU : (U.toList == U.toList) = true := by simp
  have te : ((e : Int) == e) = true := by simp
  have tg : ((g : Int) == g) = true := by simp
  have ti : ((i : Int) == i) = true := by simp
  have tl : ((l : Int) == l) = true := by simp
  have q1 : (k.size : Int) ≤ 2000 := by omega
  have q2 : (n.size : Int) ≤ 2000 := by omega
  have q3 : (m.size : Int) ≤ 2000 := by omega
  have q4 : (s.size : Int) ≤ 2000 := by omega
  have B1 := Lib.hid b1
  have B2 := Lib.hid b2
  have B3 := Lib.hid b3
  have B4 := Lib.hid b4
  have HG := Lib.hid (Args.start w k n m s)
  clear b1 b2 b3 b4 hg
  go_enter Try.func3, Try.ntmps3
  go_upto_region 1 with (fail)
  generalize w.alloc (.cells #[.string k, .string n, .string m, .string s] 22) = wz at *
  refine Steady.region 11 (by kernel_rfl) (by kernel_rfl) (fun u => Below wz.drew.heap.size wz.drew u) (Below.refl _ _) ?_
  simp only [List.take_succ_cons, List.take_zero, List.drop_succ_cons, List.drop_zero]
  refine Steady.take ?_ rfl (by intro u hu; go_simp; with_reducible rfl) ?_
  simp only [Act.put, List.setIfInBounds_toArray, List.set_cons_zero, List.set_cons_succ]
  refine Steady.take ?_ rfl (by intro u hu; obtain ⟨c0, c1, c2, c3⟩ := args_cells HG.out hu; go_simp; with_reducible rfl) ?_
  simp only [Act.put, List.setIfInBounds_toArray, List.set_cons_zero, List.set_cons_succ]
  refine Steady.take ?_ rfl (by intro u hu; go_simp; with_reducible rfl) ?_
  simp only [Act.put, List.setIfInBounds_toArray, List.set_cons_zero, List.set_cons_succ]
  refine Steady.take ?_ rfl (by intro u hu; obtain ⟨c0, c1, c2, c3⟩ := args_cells HG.out hu; go_simp; with_reducible rfl) ?_
  simp only [Act.put, List.setIfInBounds_toArray, List.set_cons_zero, List.set_cons_succ]
  refine Steady.take ?_ rfl (by intro u hu; go_simp; with_reducible rfl) ?_
  simp only [Act.put, List.setIfInBounds_toArray, List.set_cons_zero, List.set_cons_succ]
  refine Steady.take ?_ rfl (by intro u hu; obtain ⟨c0, c1, c2, c3⟩ := args_cells HG.out hu; go_simp; with_reducible rfl) ?_
  simp only [Act.put, List.setIfInBounds_toArray, List.set_cons_zero, List.set_cons_succ]
  refine Steady.take ?_ rfl (by intro u hu; go_simp; with_reducible rfl) ?_
  simp only [Act.put, List.setIfInBounds_toArray, List.set_cons_zero, List.set_cons_succ]
  refine Steady.take ?_ rfl (by intro u hu; obtain ⟨c0, c1, c2, c3⟩ := args_cells HG.out hu; go_simp; with_reducible rfl) ?_
  simp only [Act.put, List.setIfInBounds_toArray, List.set_cons_zero, List.set_cons_succ]
  refine Steady.take ?_ rfl (by intro u hu; go_simp; with_reducible rfl) ?_
  simp only [Act.put, List.setIfInBounds_toArray, List.set_cons_zero, List.set_cons_succ]
  refine Steady.take ?_ rfl (by intro u hu; go_simp; with_reducible rfl) ?_
  simp only [Act.put, List.setIfInBounds_toArray, List.set_cons_zero, List.set_cons_succ]
  refine Steady.take ?_ rfl (by intro u hu; go_simp; with_reducible rfl) ?_
  simp only [Act.put, List.setIfInBounds_toArray, List.set_cons_zero, List.set_cons_succ]
  refine Steady.nil ?_
  intro w9 h9
  have HB0 := Lib.hid (HG.out.below.drew.trans (h9.mono HG.out.below.size))
  clear h9 HG
  go_wp2_with fail
  refine (B1.out _).1.mono ?_
  rintro r w1 ⟨rfl, hb⟩
  have HB1 := Lib.hid (HB0.out.trans (hb.mono HB0.out.size))
  clear hb HB0
  go_wp2_with fail
  refine (B1.out _).2.mono ?_
  rintro r w2 ⟨rfl, hb⟩
  have HB2 := Lib.hid (HB1.out.trans (hb.mono HB1.out.size))
  clear hb HB1
  go_wp2_with fail
  refine (B2.out _).1.mono ?_
  rintro r w3 ⟨rfl, hb⟩
  have HB3 := Lib.hid (HB2.out.trans (hb.mono HB2.out.size))
  clear hb HB2
  go_wp2_with fail
  refine (B2.out _).2.mono ?_
  rintro r w4 ⟨rfl, hb⟩
  have HB4 := Lib.hid (HB3.out.trans (hb.mono HB3.out.size))
  clear hb HB3
  go_wp2_with fail
  refine (B3.out _).1.mono ?_
  rintro r w5 ⟨rfl, hb⟩
  have HB5 := Lib.hid (HB4.out.trans (hb.mono HB4.out.size))
  clear hb HB4
  go_wp2_with fail
  refine (B3.out _).2.mono ?_
  rintro r w6 ⟨rfl, hb⟩
  have HB6 := Lib.hid (HB5.out.trans (hb.mono HB5.out.size))
  clear hb HB5
  go_wp2_with fail
  refine (B4.out _).1.mono ?_
  rintro r w7 ⟨rfl, hb⟩
  have HB7 := Lib.hid (HB6.out.trans (hb.mono HB6.out.size))
  clear hb HB6
  go_wp2_with fail
  refine (B4.out _).2.mono ?_
  rintro r w8 ⟨rfl, hb⟩
  have HB8 := Lib.hid (HB7.out.trans (hb.mono HB7.out.size))
  clear hb HB7
  go_wp2_with fail
  refine (awake_any _).mono ?_
  rintro r w10 ⟨rfl, hb⟩
  have HB9 := Lib.hid (HB8.out.trans (hb.mono HB8.out.size))
  clear hb HB8
  go_wp2
  go_ret
  exact ⟨rfl, HB9.out⟩

theorem both_tag (k s : ByteArray) (hs : s.size ≤ 2000) : ∃ A e, Both 5 6 #[.string k, .string s] A e := by
  by_cases h : k.size = 32
  · exact ⟨_, _, fun u => ⟨Poly.tag_any k s _ u h (by omega) rfl, RefPoly.tag_says k s _ u h (by omega) rfl⟩⟩
  · exact ⟨_, _, fun u => ⟨Cha.tag_err k s u h, RefPoly.tag_err k s u h⟩⟩
theorem both_close (k n m s : ByteArray) (hm : m.size ≤ 2000) (hs : s.size ≤ 2000) : ∃ C g, C.size ≤ 2100 ∧ Both 7 8 #[.string k, .string n, .string m, .string s] C g := by
  by_cases h : k.size = 32 ∧ n.size = 12
  · refine ⟨hidB k n s 64 ++ closeTag (streamB k n 64) m (hidB k n s 64), 0, ?_, fun u => ⟨Cha.close_ok k n m s _ u ⟨h, by omega⟩ (by omega) rfl, RefPoly.close_ok RefPoly.tag_says k n m s _ u ⟨h, by omega⟩ (by omega) rfl⟩⟩
    rw [ByteArray.size_append, hidB_size, closeTag_size]
    omega
  · exact ⟨⟨#[]⟩, 1, by show 0 ≤ 2100; omega, fun u => ⟨Cha.close_err k n m s u h, RefPoly.close_err k n m s u h⟩⟩
theorem both_open (k n m s : ByteArray) (hm : m.size ≤ 2000) (hs : s.size ≤ 2100) : ∃ X i, Both 9 10 #[.string k, .string n, .string m, .string s] X i := by
  by_cases h : k.size = 32 ∧ n.size = 12
  · by_cases h16 : s.size < 16
    · exact ⟨_, _, fun u => ⟨Cha.open_short k n m s u h h16, RefPoly.open_short k n m s u h h16⟩⟩
    · obtain ⟨p, hp⟩ : ∃ p, s.size = p + 16 := ⟨s.size - 16, by omega⟩
      obtain ⟨H, hH⟩ : ∃ H, s.extract 0 p = H := ⟨_, rfl⟩
      obtain ⟨B, hB⟩ : ∃ H, s.extract p s.size = H := ⟨_, rfl⟩
      obtain ⟨b, hb⟩ : ∃ b, decide (B.data.toList = (closeTag (streamB k n 64) m H).data.toList) = b := ⟨_, rfl⟩
      have hb2 : ((closeTag (streamB k n 64) m H).toList == B.toList) = b := by
        rw [← hb, ByteArray.toList_eq, ByteArray.toList_eq]
        by_cases hq : B.data.toList = (closeTag (streamB k n 64) m H).data.toList
        · rw [hq]
          simp
        · rw [decide_eq_false hq]
          simpa using fun hr => hq (by rw [hr])
      have g1 := fun u => Cha.open_any k n m s H B p b u hp ⟨h, by omega⟩ (by omega) hH hB hb
      have g2 := fun u => RefPoly.open_any RefPoly.tag_says k n m s H B p b u hp ⟨h, by omega⟩ (by omega) hH hB hb2
      cases b
      · exact ⟨_, _, fun u => ⟨g1 u, g2 u⟩⟩
      · exact ⟨_, _, fun u => ⟨g1 u, g2 u⟩⟩
  · exact ⟨_, _, fun u => ⟨Cha.open_err k n m s u h, RefPoly.open_err k n m s u h⟩⟩

theorem walk (k n m s : ByteArray) (w : World) (hk : k.size ≤ 140737488351232) (hn : n.size ≤ 140737488351232) (hm : m.size ≤ 140737488351232) (hs : s.size ≤ 140737488351232) :
    Calls Try.prog 3 #[.agg #[.string k, .string n, .string m, .string s]] w fun e w' => e = .returned (.bool true) ∧ Below w.heap.size w w' := by
  by_cases hg : k.size + n.size + m.size + s.size ≤ 2000
  · obtain ⟨A, e, b1⟩ := both_tag k s (by omega)
    obtain ⟨C, g, hC, b2⟩ := both_close k n m s (by omega) (by omega)
    obtain ⟨X, i, b3⟩ := both_open k n m s (by omega) (by omega)
    obtain ⟨U, l, b4⟩ := both_open k n m C (by omega) hC
    exact law_do k n m s w hg A C X U e g i l b1 b2 b3 b4
  · exact law_not k n m s w hg hk hn hm hs

theorem own : ownKnob Try.prog.godebug = none := by kernel_rfl
theorem laidOut : laidOutB Try.prog = true := by kernel_rfl
theorem four_of {α : Type} (l : List α) (h : l.length = 4) : ∃ a b c d, l = [a, b, c, d] := by
  match l, h with
  | [a, b, c, d], _ => exact ⟨a, b, c, d, rfl⟩

set_option maxRecDepth 100000 in
theorem lifted (os : Os) (started : os.Started) (H : Type) (enc : TypeId × Value → H) :
    ReturnsInHanded {} Try.checked os 3 .any (Rows.streamTagsSpec.pre6 enc Try.prog Try.f3 Rows.streamTagsRow.domain false) (Rows.streamTagsSpec.post enc Try.prog Try.f3 false true false false) := by
  refine returnsInHanded_of_change_sized (C := Try.checked) own started (by kernel_rfl) Try.func3
    (ChangeSpec.witness6 (enc := enc) (C := Try.checked) false ⟨#[], #[.agg #[.string ByteArray.empty, .string ByteArray.empty, .string ByteArray.empty, .string ByteArray.empty]], []⟩ 8 (by kernel_rfl) (by kernel_rfl) (by kernel_rfl) (by kernel_rfl)) ?_
  intro W base args ds gs before hval0 hW hcnd hsz0 _
  have hsz : (DataW.weightsEach Try.prog (Try.f3.params.toList ++ Rows.streamTagsSpec.plain.varTypes Try.prog) (ds ++ gs)).all (· ≤ reachBytes) = true := hsz0
  clear hsz0
  have hval : ∀ (j : Nat) t v, Try.f3.params[j]? = some t → args[j]? = some v → Value.okWide Try.prog W .any base t v := hval0
  have hW' := hW
  obtain ⟨p, q, hA0, hV, rfl, hfz, hnd⟩ := hW
  have hA : DataW.TrodAll enc Try.prog W 0 (fun _ => true) true Try.f3.params.toList args.toList ds p := hA0
  rw [Try.params3] at hA hval hsz
  obtain ⟨v0, vs0, d0, ds0, p0, q0, hargs, rfl, rfl, h0, r0⟩ := trodAll_cons hA
  obtain ⟨rfl, rfl, rfl⟩ := trodAll_nil r0
  obtain rfl : args = #[v0] := by cases args; simp_all
  obtain ⟨rfl, rfl⟩ := trodVars_none hV
  have k0 := h0
  have lt0 : ∀ x ∈ p0, x.block < W.heap.size := by obtain ⟨m, hm⟩ := k0; exact DataW.trod_lt m _ _ _ hm
  obtain ⟨ss0, hsl0, rfl, rfl, rfl, w0⟩ := Open.open_string_array Try.underlying22 Try.underlying9 (by kernel_rfl) (by kernel_rfl) (hval 0 22 v0 rfl rfl) h0
  have z0 := Open.sized_string_array hsz (j := 0) (t := 22) (ss := ss0) rfl rfl Try.underlying22
  obtain ⟨s0a, s0b, s0c, s0d, rfl⟩ := four_of ss0 hsl0
  clear hA0 hval0
  have hwk := walk s0a s0b s0c s0d W (z0 s0a (by simp)) (z0 s0b (by simp)) (z0 s0c (by simp)) (z0 s0d (by simp))
  refine hwk.mono fun e W' ⟨he, bel⟩ => ?_
  subst he
  exact ⟨_, rfl, _, _, _, [], _, [], hW', trodAll_mk1 (shut_bool Try.underlying4 _), (trodAll_cons_mk (Below.trod laidOut (by kernel_rfl) (of_decide_eq_true (by kernel_rfl)) k0 bel lt0) trodAll_mk0), rfl, bel.frame _, fun h => by cases h⟩

theorem over : Rows.streamTagsRow.holds Try.pinned (OpenSpec.ofChange Rows.streamTagsSpec) :=
  OpenClaim.holds_of_wide 3 Try.f3 rfl rfl rfl rfl rfl rfl rfl ⟨rfl, rfl, rfl, rfl, rfl⟩ rfl rfl rfl rfl rfl (by kernel_rfl) Try.func3 (by kernel_rfl)
    (of_decide_eq_true (by kernel_rfl)) (by unfold Func.isWrapper; first | (rw [if_pos (by decide +kernel)]; kernel_rfl) | (rw [if_neg (by decide +kernel)]; exact ⟨rfl, rfl⟩))
    (fun os started H enc _ => lifted os started H enc)

theorem proved : Rows.StreamTagsSaid := over
#print axioms proved
end Go.Proofs.Ytcglobpklhkebab.LawTags
