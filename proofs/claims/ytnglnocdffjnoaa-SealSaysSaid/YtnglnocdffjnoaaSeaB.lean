/-
  nearest and Right of package seal answer what the plain mathematics of the text Sea says, and leave all memory that was there as it was. Conditions: the letter's texts are no longer than 2^63.
-/
import Derived.Test.YtnglnocdffjnoaaSeaA
namespace Go.Proofs.Ytnglnocdffjnoaa.Sea
open Go.RowKit Mur Prt Lanes
set_option maxRecDepth 100000

/-- A letter that is right, and differs only where this one is not. -/
def near (s : SV) : SV := ⟨sizedB s.g 1 8, min (max s.e 0) 1073741823, min (max s.r 0) 1073741823, min (max s.k 1) 6, min (max s.f 0) 199, sizedB s.b 0 6000, sizedB s.x 0 6000⟩
theorem bound_same (n a b c : Int) (h : a ≤ b) (hc : c = b + 1) : (n == min (max n a) b) = (decide (a ≤ n) && decide (n < c)) := by
  rw [Bool.eq_iff_iff, beq_iff_eq, Bool.and_eq_true, decide_eq_true_eq, decide_eq_true_eq]
  omega
theorem near_same (s : SV) : same s (near s) = right s.l := by
  have e1 : (s.g.toList == (near s).g.toList) = (decide (1 ≤ s.g.size) && decide (s.g.size ≤ 8)) := by
    rw [show (near s).g = sizedB s.g 1 8 from by rw [near]]
    exact sized_same s.g 1 8
  have e2 : (s.e == (near s).e) = (decide (0 ≤ s.e) && decide (s.e < 1073741824)) := by
    rw [show (near s).e = min (max s.e 0) 1073741823 from by rw [near]]
    exact bound_same s.e 0 1073741823 1073741824 (by decide) (by decide)
  have e3 : (s.r == (near s).r) = (decide (0 ≤ s.r) && decide (s.r < 1073741824)) := by
    rw [show (near s).r = min (max s.r 0) 1073741823 from by rw [near]]
    exact bound_same s.r 0 1073741823 1073741824 (by decide) (by decide)
  have e4 : (s.k == (near s).k) = (decide (1 ≤ s.k) && decide (s.k < 7)) := by
    rw [show (near s).k = min (max s.k 1) 6 from by rw [near]]
    exact bound_same s.k 1 6 7 (by decide) (by decide)
  have e5 : (s.f == (near s).f) = (decide (0 ≤ s.f) && decide (s.f < 200)) := by
    rw [show (near s).f = min (max s.f 0) 199 from by rw [near]]
    exact bound_same s.f 0 199 200 (by decide) (by decide)
  have e6 : (s.b.toList == (near s).b.toList) = (decide (0 ≤ s.b.size) && decide (s.b.size ≤ 6000)) := by
    rw [show (near s).b = sizedB s.b 0 6000 from by rw [near]]
    exact sized_same s.b 0 6000
  have e7 : (s.x.toList == (near s).x.toList) = (decide (0 ≤ s.x.size) && decide (s.x.size ≤ 6000)) := by
    rw [show (near s).x = sizedB s.x 0 6000 from by rw [near]]
    exact sized_same s.x 0 6000
  rw [same, e1, e2, e3, e4, e5, e6, e7, Bool.eq_iff_iff, right_iff]
  have hg : s.l.group.length = s.g.size := rfl
  have hb : s.l.body.length = s.b.size := rfl
  have hx : s.l.sig.length = s.x.size := rfl
  simp only [hg, hb, hx, Bool.and_eq_true, decide_eq_true_eq]
  show _ ↔ _ ∧ (0 ≤ s.e ∧ _) ∧ (0 ≤ s.r ∧ _) ∧ (1 ≤ s.k ∧ _) ∧ (0 ≤ s.f ∧ _) ∧ _
  show _ ↔ _ ∧ (_ ∧ s.e < _) ∧ (_ ∧ s.r < _) ∧ (_ ∧ s.k ≤ _) ∧ (_ ∧ s.f < _) ∧ _
  omega

set_option maxHeartbeats 3200000 in
theorem nearest_any (s : SV) (X Y : List Value) (w : World) (hX : Sl X s) (hY : Sl Y (near s)) (hg : s.g.size ≤ 9223372036854775807) (hb : s.b.size ≤ 9223372036854775807) (hx : s.x.size ≤ 9223372036854775807) :
    Calls Try.prog 24 #[.agg X.toArray] w fun e w' => e = .returned (.agg Y.toArray) ∧ Below w.heap.size w w' := by
  obtain ⟨G, hG⟩ : ∃ G, G = (near s).g := ⟨_, rfl⟩
  obtain ⟨B, hB⟩ : ∃ B, B = (near s).b := ⟨_, rfl⟩
  obtain ⟨Z, hZ⟩ : ∃ Z, Z = (near s).x := ⟨_, rfl⟩
  obtain ⟨E, hE⟩ : ∃ E, E = (near s).e := ⟨_, rfl⟩
  obtain ⟨R, hR⟩ : ∃ R, R = (near s).r := ⟨_, rfl⟩
  obtain ⟨K, hK⟩ : ∃ K, K = (near s).k := ⟨_, rfl⟩
  obtain ⟨F, hF⟩ : ∃ F, F = (near s).f := ⟨_, rfl⟩
  have R0 := Lib.hid (show ∀ u, Calls Try.prog 36 #[.string s.g, .int .i64 1, .int .i64 8] u fun e w' => e = .returned (.string G) ∧ Below u.heap.size u w' from fun u => sized_any s.g 1 8 G u hG (by omega) hg)
  have R5 := Lib.hid (show ∀ u, Calls Try.prog 36 #[.string s.b, .int .i64 0, .int .i64 6000] u fun e w' => e = .returned (.string B) ∧ Below u.heap.size u w' from fun u => sized_any s.b 0 6000 B u hB (by omega) hb)
  have R6 := Lib.hid (show ∀ u, Calls Try.prog 36 #[.string s.x, .int .i64 0, .int .i64 6000] u fun e w' => e = .returned (.string Z) ∧ Below u.heap.size u w' from fun u => sized_any s.x 0 6000 Z u hZ (by omega) hx)
  have R1 := Lib.hid (show ∀ u, Calls Try.prog 37 #[.int .i64 s.e, .int .i64 0, .int .i64 1073741823] u fun e w' => e = .returned (.int .i64 E) ∧ u = w' from fun u => by rw [hE]; exact bounded_any s.e 0 1073741823 u)
  have R2 := Lib.hid (show ∀ u, Calls Try.prog 37 #[.int .i64 s.r, .int .i64 0, .int .i64 1073741823] u fun e w' => e = .returned (.int .i64 R) ∧ u = w' from fun u => by rw [hR]; exact bounded_any s.r 0 1073741823 u)
  have R3 := Lib.hid (show ∀ u, Calls Try.prog 37 #[.int .i64 s.k, .int .i64 1, .int .i64 6] u fun e w' => e = .returned (.int .i64 K) ∧ u = w' from fun u => by rw [hK]; exact bounded_any s.k 1 6 u)
  have R4 := Lib.hid (show ∀ u, Calls Try.prog 37 #[.int .i64 s.f, .int .i64 0, .int .i64 199] u fun e w' => e = .returned (.int .i64 F) ∧ u = w' from fun u => by rw [hF]; exact bounded_any s.f 0 199 u)
  have hag : Value.agg Y.toArray = .agg #[.string G, .int .i64 E, .int .i64 R, .int .i64 K, .int .i64 F, .string B, .string Z] := by rw [hY.agg, hG, hE, hR, hK, hF, hB, hZ]
  have HAG := Lib.hid hag
  have HX := Lib.hid hX
  have HY := Lib.hid hY
  have HM := Lib.hid (Hold.Hld.start w)
  clear hX hY hG hB hZ hE hR hK hF hag hg hb hx
  go_enter Try.func24, Try.ntmps24
  go_upto_region 1 with ((first
    | (with_reducible refine Hold.box HM.out rfl rfl rfl ?_; clear HM; intro b0 w HM; simp only [List.nil_append] at HM; replace HM := Lib.hid HM)
    | (with_reducible refine Hold.alloc HM.out rfl rfl zeroC zero_sea ?_; clear HM; intro b1 w HM; simp only [List.nil_append, List.cons_append] at HM; replace HM := Lib.hid HM)))

  refine Steady.region 22 (by kernel_rfl) (by kernel_rfl) (fun u => Hold.Hld _ _ u) HM.out.drew ?_
  simp only [List.take_succ_cons, List.take_zero, List.drop_succ_cons, List.drop_zero]
  refine Steady.take ?_ rfl (by intro u hu; go_simp; with_reducible rfl) ?_
  simp only [Act.put, List.setIfInBounds_toArray, List.set_cons_zero, List.set_cons_succ]
  refine Steady.take (.string s.g) rfl (fun u hu => Hold.load1_run hu 0 rfl rfl rfl (HX.out.c0) (cellStr)) ?_
  simp only [Act.put, List.setIfInBounds_toArray, List.set_cons_zero, List.set_cons_succ]
  refine Steady.call _ _ _ rfl ?_ (Hold.kept R0.out) ?_
  · intro u
    go_simp
  simp only [Act.put, List.setIfInBounds_toArray, List.set_cons_zero, List.set_cons_succ]
  refine Steady.take ?_ rfl (by intro u hu; go_simp; with_reducible rfl) ?_
  simp only [Act.put, List.setIfInBounds_toArray, List.set_cons_zero, List.set_cons_succ]
  refine Steady.take (.int .i64 s.e) rfl (fun u hu => Hold.load1_run hu 0 rfl rfl rfl (HX.out.c1) (cellInt)) ?_
  simp only [Act.put, List.setIfInBounds_toArray, List.set_cons_zero, List.set_cons_succ]
  refine Steady.call _ _ _ rfl ?_ (Steady.same R1.out) ?_
  · intro u
    go_simp
  simp only [Act.put, List.setIfInBounds_toArray, List.set_cons_zero, List.set_cons_succ]
  refine Steady.take ?_ rfl (by intro u hu; go_simp; with_reducible rfl) ?_
  simp only [Act.put, List.setIfInBounds_toArray, List.set_cons_zero, List.set_cons_succ]
  refine Steady.take (.int .i64 s.r) rfl (fun u hu => Hold.load1_run hu 0 rfl rfl rfl (HX.out.c2) (cellInt)) ?_
  simp only [Act.put, List.setIfInBounds_toArray, List.set_cons_zero, List.set_cons_succ]
  refine Steady.call _ _ _ rfl ?_ (Steady.same R2.out) ?_
  · intro u
    go_simp
  simp only [Act.put, List.setIfInBounds_toArray, List.set_cons_zero, List.set_cons_succ]
  refine Steady.take ?_ rfl (by intro u hu; go_simp; with_reducible rfl) ?_
  simp only [Act.put, List.setIfInBounds_toArray, List.set_cons_zero, List.set_cons_succ]
  refine Steady.take (.int .i64 s.k) rfl (fun u hu => Hold.load1_run hu 0 rfl rfl rfl (HX.out.c3) (cellInt)) ?_
  simp only [Act.put, List.setIfInBounds_toArray, List.set_cons_zero, List.set_cons_succ]
  refine Steady.call _ _ _ rfl ?_ (Steady.same R3.out) ?_
  · intro u
    go_simp
  simp only [Act.put, List.setIfInBounds_toArray, List.set_cons_zero, List.set_cons_succ]
  refine Steady.take ?_ rfl (by intro u hu; go_simp; with_reducible rfl) ?_
  simp only [Act.put, List.setIfInBounds_toArray, List.set_cons_zero, List.set_cons_succ]
  refine Steady.take (.int .i64 s.f) rfl (fun u hu => Hold.load1_run hu 0 rfl rfl rfl (HX.out.c4) (cellInt)) ?_
  simp only [Act.put, List.setIfInBounds_toArray, List.set_cons_zero, List.set_cons_succ]
  refine Steady.call _ _ _ rfl ?_ (Steady.same R4.out) ?_
  · intro u
    go_simp
  simp only [Act.put, List.setIfInBounds_toArray, List.set_cons_zero, List.set_cons_succ]
  refine Steady.take ?_ rfl (by intro u hu; go_simp; with_reducible rfl) ?_
  simp only [Act.put, List.setIfInBounds_toArray, List.set_cons_zero, List.set_cons_succ]
  refine Steady.take (.string s.b) rfl (fun u hu => Hold.load1_run hu 0 rfl rfl rfl (HX.out.c5) (cellStr)) ?_
  simp only [Act.put, List.setIfInBounds_toArray, List.set_cons_zero, List.set_cons_succ]
  refine Steady.call _ _ _ rfl ?_ (Hold.kept R5.out) ?_
  · intro u
    go_simp
  simp only [Act.put, List.setIfInBounds_toArray, List.set_cons_zero, List.set_cons_succ]
  refine Steady.take ?_ rfl (by intro u hu; go_simp; with_reducible rfl) ?_
  simp only [Act.put, List.setIfInBounds_toArray, List.set_cons_zero, List.set_cons_succ]
  refine Steady.take (.string s.x) rfl (fun u hu => Hold.load1_run hu 0 rfl rfl rfl (HX.out.c6) (cellStr)) ?_
  simp only [Act.put, List.setIfInBounds_toArray, List.set_cons_zero, List.set_cons_succ]
  refine Steady.call _ _ _ rfl ?_ (Hold.kept R6.out) ?_
  · intro u
    go_simp
  simp only [Act.put, List.setIfInBounds_toArray, List.set_cons_zero, List.set_cons_succ]
  refine Steady.take (.agg Y.toArray) rfl (fun u hu => (by rw [HAG.out]; go_simp)) ?_
  simp only [Act.put, List.setIfInBounds_toArray, List.set_cons_zero, List.set_cons_succ]
  refine Steady.nil ?_
  clear HM
  intro w HM
  replace HM := Lib.hid HM

  go_wp2_with ((first
    | (with_reducible refine Hold.store HM.out 1 (v' := Y) rfl rfl rfl rfl rfl (by rw [zeroC_len, HY.out.len]; exact Nat.le_of_eq (Nat.zero_add _)) (Hold.lay_all (zeroC_len.trans HY.out.len.symm)) (HY.out.one) (by rw [HY.out.len]; exact seaRow) ?_; clear HM; intro w HM; simp only [List.set_cons_zero, List.set_cons_succ] at HM; replace HM := Lib.hid HM)))

  refine bodyPost_ret (Hold.results1 HM.out 1 rfl _ rfl rfl (by rw [HY.out.len]; exact seaRow)) rfl ?_
  exact ⟨rfl, HM.out.below⟩

set_option maxHeartbeats 1600000 in
theorem right_any (s : SV) (X : List Value) (b : Bool) (w : World) (hX : Sl X s) (hb : b = right s.l) (h1 : s.g.size ≤ 9223372036854775807) (h2 : s.b.size ≤ 9223372036854775807) (h3 : s.x.size ≤ 9223372036854775807) :
    Calls Try.prog 13 #[.agg X.toArray] w fun e w' => e = .returned (.bool b) ∧ Below w.heap.size w w' := by
  rw [← near_same] at hb
  obtain ⟨Y, hY, -⟩ := named (near s)
  have R1 := Lib.hid (fun u => nearest_any s X Y u hX hY h1 h2 h3)
  have HX := Lib.hid hX
  have HY := Lib.hid hY
  have HB := Lib.hid hb
  have HM := Lib.hid (Hold.Hld.start w)
  clear hX hY hb h1 h2 h3
  go_enter Try.func13, Try.ntmps13
  go_upto_region 1 with ((first
    | (with_reducible refine Hold.box HM.out rfl rfl rfl ?_; clear HM; intro b0 w HM; simp only [List.nil_append] at HM; replace HM := Lib.hid HM)))

  refine Steady.region 4 (by kernel_rfl) (by kernel_rfl) (fun u => Hold.Hld _ _ u) HM.out.drew ?_
  simp only [List.take_succ_cons, List.take_zero, List.drop_succ_cons, List.drop_zero]
  refine Steady.take (.agg (X).toArray) rfl (fun u hu => Hold.load_run hu 0 rfl rfl rfl (Hold.Part.all _) (by rw [HX.out.len]; exact seaRow)) ?_
  simp only [Act.put, List.setIfInBounds_toArray, List.set_cons_zero, List.set_cons_succ]
  refine Steady.take (.agg (X).toArray) rfl (fun u hu => Hold.load_run hu 0 rfl rfl rfl (Hold.Part.all _) (by rw [HX.out.len]; exact seaRow)) ?_
  simp only [Act.put, List.setIfInBounds_toArray, List.set_cons_zero, List.set_cons_succ]
  refine Steady.call _ _ _ rfl ?_ (Hold.kept R1.out) ?_
  · intro u
    go_simp
  simp only [Act.put, List.setIfInBounds_toArray, List.set_cons_zero, List.set_cons_succ]
  refine Steady.take (.bool b) rfl (fun u hu => sea_eql HX.out HY.out b HB.out rfl rfl rfl u) ?_
  simp only [Act.put, List.setIfInBounds_toArray, List.set_cons_zero, List.set_cons_succ]
  refine Steady.nil ?_
  clear HM
  intro w HM
  replace HM := Lib.hid HM

  go_wp2
  go_ret
  exact ⟨rfl, HM.out.below⟩
end Go.Proofs.Ytnglnocdffjnoaa.Sea
