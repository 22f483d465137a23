/-
  SealSays: of any letter and any bytes the code answers Right, Text, Bytes and Read as the document does: for every letter and every text the law answers true and changes nothing that was there. Condition: none.
-/
import Derived.Test.YtnglnocdffjnoaaRows
import Derived.Test.YtnglnocdffjnoaaSeaG
import Derived.Test.YtnglnocdffjnoaaRSeaD
import Derived.Test.YtnglnocdffjnoaaSeaF
namespace Go.Proofs.Ytnglnocdffjnoaa.LawSSy
open Go.ChangeShapes Go.WideShapes Go.ChangeAt Go.RowKit Mur Prt Sea
open Go.ChangeMaps (open_string shut_string)
set_option maxRecDepth 100000

set_option maxHeartbeats 3200000 in
theorem walk (s : SV) (X : List Value) (b : ByteArray) (w : World) (hX : Sl X s) (hs : Fit s) :
    Calls Try.prog 3 #[.agg X.toArray, .string b] w fun e w' => e = .returned (.bool true) ∧ Below w.heap.size w w' := by
  have HX := Lib.hid hX
  have RA := Lib.hid awake_any
  have HM := Lib.hid (Hold.Hld.start w)
  clear hX
  go_enter Try.func3, Try.ntmps3
  go_upto_region 1 with ((first
    | (with_reducible refine Hold.box HM.out rfl rfl rfl ?_; clear HM; intro b0 w HM; simp only [List.nil_append] at HM; replace HM := Lib.hid HM)))

  have c5 : w.cell? ⟨b0, 5, none⟩ = some (.string s.b) := (HM.out.at 0 rfl).row.cell HX.out.c5
  have c6 : w.cell? ⟨b0, 6, none⟩ = some (.string s.x) := (HM.out.at 0 rfl).row.cell HX.out.c6
  by_cases h0 : 3000 < b.size
  case pos =>
    have hd0 : decide (3000 < (b.size : Int)) = true := decide_eq_true (by omega)
    have he0 : decide (3000 < b.size) = true := decide_eq_true h0
    go_wp2_with ((first
      | (with_reducible refine (RA.out _).mono ?_; rintro e w ⟨rfl, hb⟩; replace HM := Lib.hid (HM.out.next hb); clear hb)))

    go_ret
    exact ⟨rfl, HM.out.below⟩
  have hd0 : decide (3000 < (b.size : Int)) = false := decide_eq_false (by omega)
  have he0 : decide (3000 < b.size) = false := decide_eq_false h0
  by_cases h1 : 7000 < s.b.size
  case pos =>
    have hd1 : decide (7000 < (s.b.size : Int)) = true := decide_eq_true (by omega)
    have he1 : decide (7000 < s.b.size) = true := decide_eq_true h1
    go_wp2_with ((first
      | (with_reducible refine (RA.out _).mono ?_; rintro e w ⟨rfl, hb⟩; replace HM := Lib.hid (HM.out.next hb); clear hb)))

    go_ret
    exact ⟨rfl, HM.out.below⟩
  have hd1 : decide (7000 < (s.b.size : Int)) = false := decide_eq_false (by omega)
  have he1 : decide (7000 < s.b.size) = false := decide_eq_false h1
  by_cases h2 : 7000 < s.x.size
  case pos =>
    have hd2 : decide (7000 < (s.x.size : Int)) = true := decide_eq_true (by omega)
    have he2 : decide (7000 < s.x.size) = true := decide_eq_true h2
    go_wp2_with ((first
      | (with_reducible refine (RA.out _).mono ?_; rintro e w ⟨rfl, hb⟩; replace HM := Lib.hid (HM.out.next hb); clear hb)))

    go_ret
    exact ⟨rfl, HM.out.below⟩
  have hd2 : decide (7000 < (s.x.size : Int)) = false := decide_eq_false (by omega)
  have he2 : decide (7000 < s.x.size) = false := decide_eq_false h2
  obtain ⟨T, hT⟩ : ∃ T, T = layX (text s.l) := ⟨_, rfl⟩
  obtain ⟨E, hE⟩ : ∃ E, E = errV (text s.l) := ⟨_, rfl⟩
  obtain ⟨A, hA⟩ : ∃ A, A = layX (Sea.bytes s.l) := ⟨_, rfl⟩
  obtain ⟨G, hG⟩ : ∃ G, G = errV (Sea.bytes s.l) := ⟨_, rfl⟩
  obtain ⟨Y, hY, hYc⟩ := named (seaV (read b.data.toList))
  obtain ⟨I, hI⟩ : ∃ I, I = errV (read b.data.toList) := ⟨_, rfl⟩
  obtain ⟨c, hc⟩ : ∃ c, c = right s.l := ⟨_, rfl⟩
  have R1 := Lib.hid (fun u => text_any s X T E u HX.out hT hE hs)
  have R2 := Lib.hid (fun u => RSea.text_any s X T E u HX.out hT hE hs)
  have R3 := Lib.hid (fun u => bytes_any s X A G u HX.out hA hG hs)
  have R4 := Lib.hid (fun u => RSea.bytes_any s X A G u HX.out hA hG hs)
  have R5 := Lib.hid (fun u => read_any b Y I u hYc hI (by omega))
  have R6 := Lib.hid (fun u => RSea.read_any b Y I u hYc hI (by omega))
  have R7 := Lib.hid (fun u => right_any s X c u HX.out hc hs.g hs.b hs.x)
  have R8 := Lib.hid (fun u => RSea.right_any s X c u HX.out hc)
  have HY := Lib.hid hY
  clear hT hE hA hG hY hYc hI hc
  go_upto_region 7 with ((first
    | (with_reducible refine Hold.load HM.out 0 (cs := X) rfl rfl rfl rfl (Hold.Part.all _) (by rw [HX.out.len]; exact seaRow) ?_)
    | (with_reducible refine (R1.out _).mono ?_; rintro e w ⟨rfl, hb⟩; replace HM := Lib.hid (HM.out.next hb); clear hb)
    | (with_reducible refine (R2.out _).mono ?_; rintro e w ⟨rfl, hb⟩; replace HM := Lib.hid (HM.out.next hb); clear hb)
    | (with_reducible refine (R3.out _).mono ?_; rintro e w ⟨rfl, hb⟩; replace HM := Lib.hid (HM.out.next hb); clear hb)
    | (with_reducible refine (R4.out _).mono ?_; rintro e w ⟨rfl, hb⟩; replace HM := Lib.hid (HM.out.next hb); clear hb)))

  clear c5 c6 hd0 he0 hd1 he1 hd2 he2
  go_upto_region 8 with ((first
    | (with_reducible refine (R5.out _).mono ?_; rintro e w ⟨rfl, hb⟩; replace HM := Lib.hid (HM.out.next hb); clear hb)
    | (with_reducible refine Hold.alloc HM.out rfl rfl zeroC zero_sea ?_; clear HM; intro b13 w HM; simp only [List.nil_append, List.cons_append] at HM; replace HM := Lib.hid HM)
    | (with_reducible refine Hold.store HM.out 1 (v' := Y) rfl rfl rfl rfl rfl (by rw [zeroC_len, HY.out.len]; exact Nat.le_of_eq (Nat.zero_add _)) (Hold.lay_all (zeroC_len.trans HY.out.len.symm)) (HY.out.one) (by rw [HY.out.len]; exact seaRow) ?_; clear HM; intro w HM; simp only [List.set_cons_zero, List.set_cons_succ] at HM; replace HM := Lib.hid HM)))

  go_upto_region 9 with ((first
    | (with_reducible refine (R6.out _).mono ?_; rintro e w ⟨rfl, hb⟩; replace HM := Lib.hid (HM.out.next hb); clear hb)
    | (with_reducible refine Hold.alloc HM.out rfl rfl zeroC zero_sea ?_; clear HM; intro b15 w HM; simp only [List.nil_append, List.cons_append] at HM; replace HM := Lib.hid HM)
    | (with_reducible refine Hold.store HM.out 2 (v' := Y) rfl rfl rfl rfl rfl (by rw [zeroC_len, HY.out.len]; exact Nat.le_of_eq (Nat.zero_add _)) (Hold.lay_all (zeroC_len.trans HY.out.len.symm)) (HY.out.one) (by rw [HY.out.len]; exact seaRow) ?_; clear HM; intro w HM; simp only [List.set_cons_zero, List.set_cons_succ] at HM; replace HM := Lib.hid HM)))

  refine Steady.region 38 (by kernel_rfl) (by kernel_rfl) (fun u => Hold.Hld _ _ u) HM.out.drew ?_
  simp only [List.take_succ_cons, List.take_zero, List.drop_succ_cons, List.drop_zero]
  refine Steady.take (.agg (X).toArray) rfl (fun u hu => Hold.load_run hu 0 rfl rfl rfl (Hold.Part.all _) (by rw [HX.out.len]; exact seaRow)) ?_
  simp only [Act.put, List.setIfInBounds_toArray, List.set_cons_zero, List.set_cons_succ]
  refine Steady.call _ _ _ rfl ?_ (Hold.kept R7.out) ?_
  · intro u
    go_simp
  simp only [Act.put, List.setIfInBounds_toArray, List.set_cons_zero, List.set_cons_succ]
  refine Steady.take (.agg (X).toArray) rfl (fun u hu => Hold.load_run hu 0 rfl rfl rfl (Hold.Part.all _) (by rw [HX.out.len]; exact seaRow)) ?_
  simp only [Act.put, List.setIfInBounds_toArray, List.set_cons_zero, List.set_cons_succ]
  refine Steady.call _ _ _ rfl ?_ (Hold.kept R8.out) ?_
  · intro u
    go_simp
  simp only [Act.put, List.setIfInBounds_toArray, List.set_cons_zero, List.set_cons_succ]
  refine Steady.take (.bool true) rfl (fun u hu => (by cases c <;> go_simp)) ?_
  simp only [Act.put, List.setIfInBounds_toArray, List.set_cons_zero, List.set_cons_succ]
  refine Steady.take ?_ rfl (by intro u hu; go_simp; with_reducible rfl) ?_
  simp only [Act.put, List.setIfInBounds_toArray, List.set_cons_zero, List.set_cons_succ]
  refine Steady.take ?_ rfl (by intro u hu; go_simp; with_reducible rfl) ?_
  simp only [Act.put, List.setIfInBounds_toArray, List.set_cons_zero, List.set_cons_succ]
  refine Steady.take ?_ rfl (by intro u hu; go_simp; with_reducible rfl) ?_
  simp only [Act.put, List.setIfInBounds_toArray, List.set_cons_zero, List.set_cons_succ]
  refine Steady.take ?_ rfl (by intro u hu; go_simp; with_reducible rfl) ?_
  simp only [Act.put, List.setIfInBounds_toArray, List.set_cons_zero, List.set_cons_succ]
  refine Steady.take ?_ rfl (by intro u hu; go_simp; with_reducible rfl) ?_
  simp only [Act.put, List.setIfInBounds_toArray, List.set_cons_zero, List.set_cons_succ]
  refine Steady.take ?_ rfl (by intro u hu; go_simp; with_reducible rfl) ?_
  simp only [Act.put, List.setIfInBounds_toArray, List.set_cons_zero, List.set_cons_succ]
  refine Steady.take ?_ rfl (by intro u hu; go_simp; with_reducible rfl) ?_
  simp only [Act.put, List.setIfInBounds_toArray, List.set_cons_zero, List.set_cons_succ]
  refine Steady.take ?_ rfl (by intro u hu; go_simp; with_reducible rfl) ?_
  simp only [Act.put, List.setIfInBounds_toArray, List.set_cons_zero, List.set_cons_succ]
  refine Steady.take ?_ rfl (by intro u hu; go_simp; with_reducible rfl) ?_
  simp only [Act.put, List.setIfInBounds_toArray, List.set_cons_zero, List.set_cons_succ]
  refine Steady.take ?_ rfl (by intro u hu; go_simp; with_reducible rfl) ?_
  simp only [Act.put, List.setIfInBounds_toArray, List.set_cons_zero, List.set_cons_succ]
  refine Steady.take ?_ rfl (by intro u hu; go_simp; with_reducible rfl) ?_
  simp only [Act.put, List.setIfInBounds_toArray, List.set_cons_zero, List.set_cons_succ]
  refine Steady.take ?_ rfl (by intro u hu; go_simp; with_reducible rfl) ?_
  simp only [Act.put, List.setIfInBounds_toArray, List.set_cons_zero, List.set_cons_succ]
  refine Steady.take ?_ rfl (by intro u hu; go_simp; with_reducible rfl) ?_
  simp only [Act.put, List.setIfInBounds_toArray, List.set_cons_zero, List.set_cons_succ]
  refine Steady.take ?_ rfl (by intro u hu; go_simp; with_reducible rfl) ?_
  simp only [Act.put, List.setIfInBounds_toArray, List.set_cons_zero, List.set_cons_succ]
  refine Steady.take ?_ rfl (by intro u hu; go_simp; with_reducible rfl) ?_
  simp only [Act.put, List.setIfInBounds_toArray, List.set_cons_zero, List.set_cons_succ]
  refine Steady.take ?_ rfl (by intro u hu; go_simp; with_reducible rfl) ?_
  simp only [Act.put, List.setIfInBounds_toArray, List.set_cons_zero, List.set_cons_succ]
  refine Steady.take ?_ rfl (by intro u hu; go_simp; with_reducible rfl) ?_
  simp only [Act.put, List.setIfInBounds_toArray, List.set_cons_zero, List.set_cons_succ]
  refine Steady.take ?_ rfl (by intro u hu; go_simp; with_reducible rfl) ?_
  simp only [Act.put, List.setIfInBounds_toArray, List.set_cons_zero, List.set_cons_succ]
  refine Steady.take ?_ rfl (by intro u hu; go_simp; with_reducible rfl) ?_
  simp only [Act.put, List.setIfInBounds_toArray, List.set_cons_zero, List.set_cons_succ]
  refine Steady.take ?_ rfl (by intro u hu; go_simp; with_reducible rfl) ?_
  simp only [Act.put, List.setIfInBounds_toArray, List.set_cons_zero, List.set_cons_succ]
  refine Steady.take ?_ rfl (by intro u hu; go_simp; with_reducible rfl) ?_
  simp only [Act.put, List.setIfInBounds_toArray, List.set_cons_zero, List.set_cons_succ]
  refine Steady.take (.agg (Y).toArray) rfl (fun u hu => Hold.load_run hu 1 rfl rfl rfl (Hold.Part.all _) (by rw [HY.out.len]; exact seaRow)) ?_
  simp only [Act.put, List.setIfInBounds_toArray, List.set_cons_zero, List.set_cons_succ]
  refine Steady.take (.agg (Y).toArray) rfl (fun u hu => Hold.load_run hu 2 rfl rfl rfl (Hold.Part.all _) (by rw [HY.out.len]; exact seaRow)) ?_
  simp only [Act.put, List.setIfInBounds_toArray, List.set_cons_zero, List.set_cons_succ]
  refine Steady.take (.bool true) rfl (fun u hu => sea_eql HY.out HY.out true (same_self _).symm rfl rfl rfl u) ?_
  simp only [Act.put, List.setIfInBounds_toArray, List.set_cons_zero, List.set_cons_succ]
  refine Steady.take ?_ rfl (by intro u hu; go_simp; with_reducible rfl) ?_
  simp only [Act.put, List.setIfInBounds_toArray, List.set_cons_zero, List.set_cons_succ]
  refine Steady.take ?_ rfl (by intro u hu; go_simp; with_reducible rfl) ?_
  simp only [Act.put, List.setIfInBounds_toArray, List.set_cons_zero, List.set_cons_succ]
  refine Steady.take ?_ rfl (by intro u hu; go_simp; with_reducible rfl) ?_
  simp only [Act.put, List.setIfInBounds_toArray, List.set_cons_zero, List.set_cons_succ]
  refine Steady.take ?_ rfl (by intro u hu; go_simp; with_reducible rfl) ?_
  simp only [Act.put, List.setIfInBounds_toArray, List.set_cons_zero, List.set_cons_succ]
  refine Steady.take ?_ rfl (by intro u hu; go_simp; with_reducible rfl) ?_
  simp only [Act.put, List.setIfInBounds_toArray, List.set_cons_zero, List.set_cons_succ]
  refine Steady.take ?_ rfl (by intro u hu; go_simp; with_reducible rfl) ?_
  simp only [Act.put, List.setIfInBounds_toArray, List.set_cons_zero, List.set_cons_succ]
  refine Steady.take ?_ rfl (by intro u hu; go_simp; with_reducible rfl) ?_
  simp only [Act.put, List.setIfInBounds_toArray, List.set_cons_zero, List.set_cons_succ]
  refine Steady.call _ _ _ rfl ?_ (Hold.kept RA.out) ?_
  · intro u
    go_simp
  simp only [Act.put, List.setIfInBounds_toArray, List.set_cons_zero, List.set_cons_succ]
  refine Steady.take ?_ rfl (by intro u hu; go_simp; with_reducible rfl) ?_
  simp only [Act.put, List.setIfInBounds_toArray, List.set_cons_zero, List.set_cons_succ]
  refine Steady.nil ?_
  clear HM
  intro w HM
  replace HM := Lib.hid HM

  go_wp2
  go_ret
  exact ⟨by simp, HM.out.below⟩

theorem own : ownKnob Try.prog.godebug = none := by kernel_rfl
theorem laidOut : laidOutB Try.prog = true := by kernel_rfl

theorem lifted (os : Os) (started : os.Started) (H : Type) (enc : TypeId × Value → H) :
    ReturnsInHanded {} Try.checked os 3 .any (Rows.sealSaysSpec.pre6 enc Try.prog Try.f3 Rows.sealSaysRow.domain false) (Rows.sealSaysSpec.post enc Try.prog Try.f3 false true false false) := by
  refine returnsInHanded_of_change (C := Try.checked) own started (by kernel_rfl) Try.func3
    (ChangeSpec.witness6 (enc := enc) (C := Try.checked) false ⟨#[], #[.agg #[.string ByteArray.empty, .int .i64 0, .int .i64 0, .int .i64 0, .int .i64 0, .string ByteArray.empty, .string ByteArray.empty], .string ByteArray.empty], []⟩ 8 (by kernel_rfl) (by kernel_rfl) (by kernel_rfl) (by kernel_rfl)) ?_
  intro W base args ds gs before hval0 hW hcnd _
  have hval : ∀ (j : Nat) t v, Try.f3.params[j]? = some t → args[j]? = some v → Value.okWide Try.prog W .any base t v := hval0
  have hW' := hW
  obtain ⟨p, q, hA0, hV, rfl, hfz, hnd⟩ := hW
  have hA : DataW.TrodAll enc Try.prog W 0 (fun _ => true) true Try.f3.params.toList args.toList ds p := hA0
  rw [Try.params3] at hA hval
  obtain ⟨v0, vs0, d0, ds0, p0, q0, hargs, rfl, rfl, h0, r0⟩ := trodAll_cons hA
  obtain ⟨v1, vs1, d1, ds1, p1, q1, rfl, rfl, rfl, h1, r1⟩ := trodAll_cons r0
  obtain ⟨rfl, rfl, rfl⟩ := trodAll_nil r1
  obtain rfl : args = #[v0, v1] := by cases args; simp_all
  obtain ⟨rfl, rfl⟩ := trodVars_none hV
  have k0 := h0
  have lt0 : ∀ x ∈ p0, x.block < W.heap.size := by obtain ⟨m, hm⟩ := k0; exact DataW.trod_lt m _ _ _ hm
  obtain ⟨s0, X0, rfl, xl0, f0⟩ := open_seal (hval 0 23 v0 rfl rfl) h0
  obtain ⟨a1, rfl, rfl, rfl, w1⟩ := open_string Try.underlying9 (hval 1 9 v1 rfl rfl) h1
  clear hA0 hval0
  refine (walk s0 X0 a1 W xl0 f0).mono fun e W' ⟨he, bel⟩ => ?_
  subst he
  exact ⟨_, rfl, _, _, _, [], _, [], hW', trodAll_mk1 (shut_bool Try.underlying4 _), (trodAll_cons_mk (Below.trod laidOut (by kernel_rfl) (of_decide_eq_true (by kernel_rfl)) k0 bel lt0) (trodAll_cons_mk (shut_string Try.underlying9 w1) trodAll_mk0)), rfl, bel.frame _, fun h => by cases h⟩

theorem over : Rows.sealSaysRow.holds Try.pinned (OpenSpec.ofChange Rows.sealSaysSpec) :=
  OpenClaim.holds_of_wide 3 Try.f3 rfl rfl rfl rfl rfl rfl rfl ⟨rfl, rfl, rfl, rfl, rfl⟩ rfl rfl rfl rfl rfl (by kernel_rfl) Try.func3 (by kernel_rfl)
    (of_decide_eq_true (by kernel_rfl)) (by unfold Func.isWrapper; first | (rw [if_pos (by decide +kernel)]; kernel_rfl) | (rw [if_neg (by decide +kernel)]; exact ⟨rfl, rfl⟩))
    (fun os started H enc _ => lifted os started H enc)

theorem proved : Rows.SealSaysSaid := over
#print axioms proved
end Go.Proofs.Ytnglnocdffjnoaa.LawSSy
