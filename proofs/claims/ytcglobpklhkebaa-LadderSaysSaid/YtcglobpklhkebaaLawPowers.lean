/-
  LimbsPowers: powers and roots of any number are those of the document's own answer: for every input, the law answers true and changes nothing that was there. No condition.
-/
import Derived.Test.YtcglobpklhkebaaRRoot
import Derived.Test.YtcglobpklhkebaaLmbAwake
import Derived.Test.YtcglobpklhkebaaRows
import Derived.Test.YtcglobpklhkebaaOpen
import Derived.ChangeMaps5
namespace Go.Proofs.Ytcglobpklhkebaa.LawPowers
open Go.ChangeShapes Go.WideShapes Go.ChangeAt Go.ChangeMaps Go.RowKit Mur Lanes Limb Hold
set_option maxRecDepth 100000

theorem rootL_l (x : Nat) : ∃ n, LimL (RefLimb.rootL x) n := by
  unfold RefLimb.rootL
  split
  · exact ⟨_, LimL.ofLim (Nat.lt_trans (rootA_lt x) P_lt)⟩
  · split
    · exact ⟨_, LimL.ofLim (Nat.lt_trans (rootB_lt x) P_lt)⟩
    · exact ⟨_, LimL.ofFive (a := 0) (b := 0) (c := 0) (d := 0) (e := 0) (by unfold Words5; omega)⟩
theorem eql_same {X : List Value} {N : Nat} (h : LimL X N) {o : Oper} {a : Act} {x y : Operand} {t : TypeId} (ho : o.op = .binOp .eql 24 x y t) (hx : a.eval x = .agg X.toArray) (hy : a.eval y = .agg X.toArray) (u : World) :
    (execOp a.eval o).run Try.prog u = .ok (.value (.bool true)) u := by
  obtain ⟨v0, v1, v2, v3, v4, rfl, -, -⟩ := h.out
  have h := eq_five v0 v1 v2 v3 v4 v0 v1 v2 v3 v4 u
  rw [decide_eq_true ⟨rfl, rfl, rfl, rfl, rfl⟩] at h
  unfold execOp
  simp only [ho, hx, hy]
  go_simp

set_option maxHeartbeats 6400000 in
theorem walk (a0 b0 c0 d0 e0 : Nat) (s : ByteArray) (w0 : World) (h0 : Words5 a0 b0 c0 d0 e0) (hs : s.size ≤ 140737488351232) :
    Calls Try.prog 4 #[five a0 b0 c0 d0 e0, .string s] w0 fun e w' => e = .returned (.bool true) ∧ Below w0.heap.size w0 w' := by
  have TL := Lib.hid (fun u => live_any u)
  have hX := LimL.ofFive h0
  rw [show five a0 b0 c0 d0 e0 = .agg (fiveL a0 b0 c0 d0 e0).toArray from rfl]
  obtain ⟨X, hXe⟩ : ∃ X, X = fiveL a0 b0 c0 d0 e0 := ⟨_, rfl⟩
  rw [← hXe] at hX ⊢
  obtain ⟨N, hN⟩ : ∃ N, N = wor a0 b0 c0 d0 e0 := ⟨_, rfl⟩
  rw [← hN] at hX
  have HM := Lib.hid (Hld.start w0)
  have HX := Lib.hid (show X.length = 5 ∧ Single X from ⟨hX.len, hX.one⟩)
  by_cases hg : s.size ≤ 40
  case neg =>
    have hd : decide (40 < (s.size : Int)) = true := by simp; omega
    clear hg hX hXe hN h0 hs
    go_enter Try.func4, Try.ntmps4
    go_wp2_with ((first
      | (with_reducible refine Hold.box HM.out rfl rfl rfl ?_; clear HM; intro b w HM; simp only [List.nil_append] at HM; replace HM := Lib.hid HM)
      | (with_reducible refine (TL.out _).mono ?_; rintro e w ⟨rfl, hb⟩; replace HM := Lib.hid (HM.out.next hb); clear hb)))
    go_ret
    exact ⟨rfl, HM.out.below⟩
  case pos =>
  have hd : decide (40 < (s.size : Int)) = false := by simp; omega
  have r1 := fun u => root_val hX u
  rw [← RefLimb.rootL_V] at r1
  have r2 := fun u => RefLimb.roots_l hX u
  have r3 := fun u => power_val hX s hs u
  rw [limV_L] at r3
  have r4 := fun u => RefLimb.powers_l hX s hs u
  obtain ⟨V, hV, lV⟩ : ∃ V, V = limL (N ^ num (s.data.toList.take 64) % Prime.P) ∧ LimL V (N ^ num (s.data.toList.take 64) % Prime.P) := ⟨_, rfl, LimL.ofMod _⟩
  rw [← hV] at r3 r4
  obtain ⟨n, lR⟩ := rootL_l (N % Prime.P)
  obtain ⟨R, hR⟩ : ∃ R, R = RefLimb.rootL (N % Prime.P) := ⟨_, rfl⟩
  obtain ⟨t, ht⟩ : ∃ t, t = rootIs (N % Prime.P) := ⟨_, rfl⟩
  rw [← hR, ← ht] at r1 r2
  rw [← hR] at lR
  have R1 := Lib.hid r1
  have R2 := Lib.hid r2
  have R3 := Lib.hid r3
  have R4 := Lib.hid r4
  have LV := Lib.hid lV
  have LR := Lib.hid lR
  have HR := Lib.hid (show R.length = 5 ∧ Single R from ⟨lR.len, lR.one⟩)
  clear hg r1 r2 r3 r4 hV lV lR hR ht hX hXe hN h0 hs
  go_enter Try.func4, Try.ntmps4
  go_upto_region 4 with ((first
    | (with_reducible refine Hold.box HM.out rfl rfl rfl ?_; clear HM; intro b w HM; simp only [List.nil_append] at HM; replace HM := Lib.hid HM)
    | (with_reducible refine Hold.load HM.out 0 (cs := X) rfl rfl rfl rfl (Part.all _) (by rw [HX.out.1]; exact row_limbs) ?_)
    | (with_reducible refine (R1.out _).mono ?_; rintro e w ⟨rfl, hb⟩; replace HM := Lib.hid (HM.out.next hb); clear hb)
    | (with_reducible refine Hold.alloc HM.out rfl rfl zeros5 zero_limbs5 ?_; clear HM; intro b w HM; simp only [List.nil_append, List.cons_append] at HM; replace HM := Lib.hid HM)
    | (with_reducible refine Hold.store HM.out 1 (v' := R) rfl rfl rfl rfl rfl (by rw [Nat.zero_add, HR.out.1, zeros5_length]; exact Nat.le_refl _) (lay_all (zeros5_length.trans HR.out.1.symm)) (HR.out.2) (by rw [HR.out.1]; exact row_limbs) ?_; clear HM; intro w HM; simp only [List.set_cons_zero, List.set_cons_succ] at HM; replace HM := Lib.hid HM)))
  go_upto_region 5 with ((first
    | (with_reducible refine Hold.load HM.out 0 (cs := X) rfl rfl rfl rfl (Part.all _) (by rw [HX.out.1]; exact row_limbs) ?_)
    | (with_reducible refine (R2.out _).mono ?_; rintro e w ⟨rfl, hb⟩; replace HM := Lib.hid (HM.out.next hb); clear hb)
    | (with_reducible refine Hold.alloc HM.out rfl rfl zeros5 zero_limbs5 ?_; clear HM; intro b w HM; simp only [List.nil_append, List.cons_append] at HM; replace HM := Lib.hid HM)
    | (with_reducible refine Hold.store HM.out 2 (v' := R) rfl rfl rfl rfl rfl (by rw [Nat.zero_add, HR.out.1, zeros5_length]; exact Nat.le_refl _) (lay_all (zeros5_length.trans HR.out.1.symm)) (HR.out.2) (by rw [HR.out.1]; exact row_limbs) ?_; clear HM; intro w HM; simp only [List.set_cons_zero, List.set_cons_succ] at HM; replace HM := Lib.hid HM)))
  refine Steady.region 20 (by kernel_rfl) (by kernel_rfl) (fun u => Hld _ _ u) HM.out.drew ?_
  simp only [List.take_succ_cons, List.take_zero, List.drop_succ_cons, List.drop_zero]
  refine Steady.take (.agg (X).toArray) rfl (fun u hu => Hold.load_run hu 0 rfl rfl rfl (Part.all _) (by rw [HX.out.1]; exact row_limbs)) ?_
  simp only [Act.put, List.setIfInBounds_toArray, List.set_cons_zero, List.set_cons_succ]
  refine Steady.take ?_ rfl (by intro u hu; go_simp; with_reducible rfl) ?_
  simp only [Act.put, List.setIfInBounds_toArray, List.set_cons_zero, List.set_cons_succ]
  refine Steady.call _ _ _ rfl ?_ (Hold.kept R3.out) ?_
  · intro u
    go_simp
  simp only [Act.put, List.setIfInBounds_toArray, List.set_cons_zero, List.set_cons_succ]
  refine Steady.take (.agg (X).toArray) rfl (fun u hu => Hold.load_run hu 0 rfl rfl rfl (Part.all _) (by rw [HX.out.1]; exact row_limbs)) ?_
  simp only [Act.put, List.setIfInBounds_toArray, List.set_cons_zero, List.set_cons_succ]
  refine Steady.take ?_ rfl (by intro u hu; go_simp; with_reducible rfl) ?_
  simp only [Act.put, List.setIfInBounds_toArray, List.set_cons_zero, List.set_cons_succ]
  refine Steady.call _ _ _ rfl ?_ (Hold.kept R4.out) ?_
  · intro u
    go_simp
  simp only [Act.put, List.setIfInBounds_toArray, List.set_cons_zero, List.set_cons_succ]
  refine Steady.take (.bool true) rfl (fun u hu => eql_same LV.out rfl (by rfl) (by rfl) u) ?_
  simp only [Act.put, List.setIfInBounds_toArray, List.set_cons_zero, List.set_cons_succ]
  refine Steady.take ?_ rfl (by intro u hu; go_simp; with_reducible rfl) ?_
  simp only [Act.put, List.setIfInBounds_toArray, List.set_cons_zero, List.set_cons_succ]
  refine Steady.take (.agg (R).toArray) rfl (fun u hu => Hold.load_run hu 1 rfl rfl rfl (Part.all _) (by rw [HR.out.1]; exact row_limbs)) ?_
  simp only [Act.put, List.setIfInBounds_toArray, List.set_cons_zero, List.set_cons_succ]
  refine Steady.take (.agg (R).toArray) rfl (fun u hu => Hold.load_run hu 2 rfl rfl rfl (Part.all _) (by rw [HR.out.1]; exact row_limbs)) ?_
  simp only [Act.put, List.setIfInBounds_toArray, List.set_cons_zero, List.set_cons_succ]
  refine Steady.take (.bool true) rfl (fun u hu => eql_same LR.out rfl (by rfl) (by rfl) u) ?_
  simp only [Act.put, List.setIfInBounds_toArray, List.set_cons_zero, List.set_cons_succ]
  refine Steady.take ?_ rfl (by intro u hu; go_simp; with_reducible rfl) ?_
  simp only [Act.put, List.setIfInBounds_toArray, List.set_cons_zero, List.set_cons_succ]
  refine Steady.take ?_ rfl (by intro u hu; go_simp; with_reducible rfl) ?_
  simp only [Act.put, List.setIfInBounds_toArray, List.set_cons_zero, List.set_cons_succ]
  refine Steady.take ?_ rfl (by intro u hu; go_simp; with_reducible rfl) ?_
  simp only [Act.put, List.setIfInBounds_toArray, List.set_cons_zero, List.set_cons_succ]
  refine Steady.take ?_ rfl (by intro u hu; go_simp; with_reducible rfl) ?_
  simp only [Act.put, List.setIfInBounds_toArray, List.set_cons_zero, List.set_cons_succ]
  refine Steady.take ?_ rfl (by intro u hu; go_simp; with_reducible rfl) ?_
  simp only [Act.put, List.setIfInBounds_toArray, List.set_cons_zero, List.set_cons_succ]
  refine Steady.take ?_ rfl (by intro u hu; go_simp; with_reducible rfl) ?_
  simp only [Act.put, List.setIfInBounds_toArray, List.set_cons_zero, List.set_cons_succ]
  refine Steady.take ?_ rfl (by intro u hu; go_simp; with_reducible rfl) ?_
  simp only [Act.put, List.setIfInBounds_toArray, List.set_cons_zero, List.set_cons_succ]
  refine Steady.call _ _ _ rfl ?_ (Hold.kept TL.out) ?_
  · intro u
    go_simp
  simp only [Act.put, List.setIfInBounds_toArray, List.set_cons_zero, List.set_cons_succ]
  refine Steady.take ?_ rfl (by intro u hu; go_simp; with_reducible rfl) ?_
  simp only [Act.put, List.setIfInBounds_toArray, List.set_cons_zero, List.set_cons_succ]
  refine Steady.nil ?_
  clear HM
  intro w HM
  replace HM := Lib.hid HM
  go_wp2
  go_ret
  exact ⟨rfl, HM.out.below⟩

theorem own : ownKnob Try.prog.godebug = none := by kernel_rfl
theorem laidOut : laidOutB Try.prog = true := by kernel_rfl
theorem word_in {n : Int} (h : (Lit.int .u64 n).wf = true) : ∃ k : Nat, n = k ∧ k < 18446744073709551616 := by
  have h0 : IntKind.u64.min ≤ n ∧ n ≤ IntKind.u64.max := by simpa [Lit.wf] using h
  have e1 : IntKind.u64.min = 0 := by decide
  have e2 : IntKind.u64.max = 18446744073709551615 := by decide
  exact ⟨n.toNat, by omega, by omega⟩
/-- Five words, as numbers from 0 on. -/
theorem limbs_of (ns : List Int) (hl : ns.length = 5) (h : ∀ n ∈ ns, (Lit.int .u64 n).wf = true) : ∃ a b c d e : Nat, ns = [(a : Int), b, c, d, e] ∧ Words5 a b c d e := by
  match ns, hl with
  | [n0, n1, n2, n3, n4], _ =>
    obtain ⟨a, rfl, ha⟩ := word_in (h n0 (by simp))
    obtain ⟨b, rfl, hb⟩ := word_in (h n1 (by simp))
    obtain ⟨c, rfl, hc⟩ := word_in (h n2 (by simp))
    obtain ⟨d, rfl, hd⟩ := word_in (h n3 (by simp))
    obtain ⟨e, rfl, he⟩ := word_in (h n4 (by simp))
    exact ⟨a, b, c, d, e, rfl, ha, hb, hc, hd, he⟩

set_option maxRecDepth 100000 in
theorem lifted (os : Os) (started : os.Started) (H : Type) (enc : TypeId × Value → H) :
    ReturnsInHanded {} Try.checked os 4 .any (Rows.limbsPowersSpec.pre6 enc Try.prog Try.f4 Rows.limbsPowersRow.domain false) (Rows.limbsPowersSpec.post enc Try.prog Try.f4 false true false false) := by
  refine returnsInHanded_of_change_sized (C := Try.checked) own started (by kernel_rfl) Try.func4
    (ChangeSpec.witness6 (enc := enc) (C := Try.checked) false ⟨#[], #[.agg #[.int .u64 0, .int .u64 0, .int .u64 0, .int .u64 0, .int .u64 0], .string ByteArray.empty], []⟩ 8 (by kernel_rfl) (by kernel_rfl) (by kernel_rfl) (by kernel_rfl)) ?_
  intro W base args ds gs before hval0 hW hcnd hsz0 _
  have hsz : (DataW.weightsEach Try.prog (Try.f4.params.toList ++ Rows.limbsPowersSpec.plain.varTypes Try.prog) (ds ++ gs)).all (· ≤ reachBytes) = true := hsz0
  clear hsz0
  have hval : ∀ (j : Nat) t v, Try.f4.params[j]? = some t → args[j]? = some v → Value.okWide Try.prog W .any base t v := hval0
  have hW' := hW
  obtain ⟨p, q, hA0, hV, rfl, hfz, hnd⟩ := hW
  have hA : DataW.TrodAll enc Try.prog W 0 (fun _ => true) true Try.f4.params.toList args.toList ds p := hA0
  rw [Try.params4] at hA hval hsz
  obtain ⟨v0, vs0, d0, ds0, p0, q0, hargs, rfl, rfl, h0, r0⟩ := trodAll_cons hA
  obtain ⟨v1, vs1, d1, ds1, p1, q1, rfl, rfl, rfl, h1, r1⟩ := trodAll_cons r0
  obtain ⟨rfl, rfl, rfl⟩ := trodAll_nil r1
  obtain rfl : args = #[v0, v1] := by cases args; simp_all
  obtain ⟨rfl, rfl⟩ := trodVars_none hV
  have k0 := h0
  have lt0 : ∀ x ∈ p0, x.block < W.heap.size := by obtain ⟨m, hm⟩ := k0; exact DataW.trod_lt m _ _ _ hm
  obtain ⟨ns0, hnl0, rfl, rfl, rfl, w0⟩ := Open.open_int_array Try.underlying24 Try.underlying22 (by kernel_rfl) (by kernel_rfl) (hval 0 24 v0 rfl rfl) h0
  obtain ⟨a0, b0, c0, d0, e0, rfl, hw0⟩ := limbs_of ns0 hnl0 w0
  obtain ⟨s1, rfl, rfl, rfl, w1⟩ := open_string Try.underlying9 (hval 1 9 v1 rfl rfl) h1
  have z1 := sized_string hsz (j := 1) (t := 9) (bytes := s1.data.toList) rfl rfl
  clear hA0 hval0
  have hwk := walk a0 b0 c0 d0 e0 s1 W hw0 z1
  refine hwk.mono fun e W' ⟨he, bel⟩ => ?_
  subst he
  exact ⟨_, rfl, _, _, _, [], _, [], hW', trodAll_mk1 (shut_bool Try.underlying4 _), (trodAll_cons_mk (Below.trod laidOut (by kernel_rfl) (of_decide_eq_true (by kernel_rfl)) k0 bel lt0) (trodAll_cons_mk (shut_string Try.underlying9 w1) trodAll_mk0)), rfl, bel.frame _, fun h => by cases h⟩

theorem over : Rows.limbsPowersRow.holds Try.pinned (OpenSpec.ofChange Rows.limbsPowersSpec) :=
  OpenClaim.holds_of_wide 4 Try.f4 rfl rfl rfl rfl rfl rfl rfl ⟨rfl, rfl, rfl, rfl, rfl⟩ rfl rfl rfl rfl rfl (by kernel_rfl) Try.func4 (by kernel_rfl)
    (of_decide_eq_true (by kernel_rfl)) (by unfold Func.isWrapper; first | (rw [if_pos (by decide +kernel)]; kernel_rfl) | (rw [if_neg (by decide +kernel)]; exact ⟨rfl, rfl⟩))
    (fun os started H enc _ => lifted os started H enc)

theorem proved : Rows.LimbsPowersSaid := over
#print axioms proved
end Go.Proofs.Ytcglobpklhkebaa.LawPowers
