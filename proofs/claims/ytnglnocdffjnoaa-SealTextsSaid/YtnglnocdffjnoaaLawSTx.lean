/-
  SealTexts: two letters that are right have one text just if they are alike, but for their signatures: for every two letters the law answers true and changes nothing that was there. Condition: none.
-/
import Derived.Test.YtnglnocdffjnoaaRows
import Derived.Test.YtnglnocdffjnoaaSeaE
import Derived.Test.YtnglnocdffjnoaaSeaF
namespace Go.Proofs.Ytnglnocdffjnoaa.LawSTx
open Go.ChangeShapes Go.WideShapes Go.ChangeAt Go.RowKit Mur Prt Sea
open Go.ChangeMaps (open_string shut_string)
set_option maxRecDepth 100000

section
variable {P : Program} {ops : Array Oper} {rest : List Oper} {o : Oper} {a : Act} {w : World} {Q : Exit → Act → World → Prop}
theorem wpList_want (hw : Region.wanted o (yielded ops a.tmps) = true) (v : Value) (hr : (execOp a.eval o).run P w = .ok (.value v) w) (hk : wpList P ops Q rest (a.put o.dst v) w) : wpList P ops Q (o :: rest) a w := by
  refine wpList_step fun K hK => ?_
  rw [if_pos hw]
  unfold Oper.wp
  rw [hr]
  exact hK _ _ hk
end
theorem sl_eq {X : List Value} {s : SV} (h : Sl X s) : X = s.cells := by
  have := h.agg
  injection this with this
  have k := congrArg Array.toList this
  rw [SV.cells]
  simpa using k
def bare (s : SV) : SV := { s with x := ⟨#[]⟩ }
theorem bare_set {X : List Value} {s : SV} (h : Sl X s) : ∃ X', X.set 6 (.string ⟨#[]⟩) = X' ∧ Sl X' (bare s) := ⟨_, rfl, by rw [sl_eq h]; exact sl_cells (bare s)⟩
theorem bytes_eq {a b : ByteArray} (h : a.data.toList = b.data.toList) : a = b := ByteArray.ext (Array.ext' h)
theorem texts (s t : SV) (T U : ByteArray) (r1 : right s.l = true) (r2 : right t.l = true) (hT : T = layX (text s.l)) (hU : U = layX (text t.l)) : (T.toList == U.toList) = same (bare s) (bare t) := by
  obtain ⟨a, b, c, -, -, -, h1⟩ := text_right s.l r1
  obtain ⟨a', b', c', -, -, -, h2⟩ := text_right t.l r2
  rw [Bool.eq_iff_iff, beq_iff_eq, ByteArray.toList_eq, ByteArray.toList_eq, same_iff]
  constructor
  · intro h
    rw [hT, hU, h1, h2] at h
    have h : a ++ (b ++ c) = a' ++ (b' ++ c') := h
    rw [h] at h1
    have k := text_same s.l t.l _ h1 h2
    have e1 : t.g.data.toList = s.g.data.toList := congrArg L.group k
    have e2 : t.e = s.e := congrArg L.epoch k
    have e3 : t.r = s.r := congrArg L.round k
    have e4 : t.k = s.k := congrArg L.kind k
    have e5 : t.f = s.f := congrArg L.from' k
    have e6 : t.b.data.toList = s.b.data.toList := congrArg L.body k
    rw [bare, bare, bytes_eq e1, e2, e3, e4, e5, bytes_eq e6]
  · intro h
    have e1 : s.g = t.g := (congrArg SV.g h : (bare s).g = (bare t).g)
    have e2 : s.e = t.e := (congrArg SV.e h : (bare s).e = (bare t).e)
    have e3 : s.r = t.r := (congrArg SV.r h : (bare s).r = (bare t).r)
    have e4 : s.k = t.k := (congrArg SV.k h : (bare s).k = (bare t).k)
    have e5 : s.f = t.f := (congrArg SV.f h : (bare s).f = (bare t).f)
    have e6 : s.b = t.b := (congrArg SV.b h : (bare s).b = (bare t).b)
    have k : t.l = { s.l with sig := t.x.data.toList } := by rw [SV.l, SV.l, e1, e2, e3, e4, e5, e6]
    rw [k] at r2 hU
    rw [same_text s.l _ r1 r2] at hU
    rw [hT, hU]

set_option maxHeartbeats 3200000 in
theorem walk (s : SV) (X : List Value) (t : SV) (Y : List Value) (w : World) (hX : Sl X s) (hs : Fit s) (hY : Sl Y t) (ht : Fit t) :
    Calls Try.prog 5 #[.agg X.toArray, .agg Y.toArray] w fun e w' => e = .returned (.bool true) ∧ Below w.heap.size w w' := by
  obtain ⟨X', hx6, hX'⟩ := bare_set hX
  obtain ⟨Y', hy6, hY'⟩ := bare_set hY
  have HX := Lib.hid hX
  have HY := Lib.hid hY
  have HX' := Lib.hid hX'
  have HY' := Lib.hid hY'
  have HX6 := Lib.hid hx6
  have HY6 := Lib.hid hy6
  have RA := Lib.hid awake_any
  have HM := Lib.hid (Hold.Hld.start w)
  clear hX hY hX' hY' hx6 hy6
  go_enter Try.func5, Try.ntmps5
  go_upto_region 1 with ((first
    | (with_reducible refine Hold.box (cs := X) HM.out rfl rfl rfl ?_; clear HM; intro b0 w HM; simp only [List.nil_append] at HM; replace HM := Lib.hid HM)
    | (with_reducible refine Hold.box (cs := Y) HM.out rfl rfl rfl ?_; clear HM; intro b1 w HM; simp only [List.cons_append, List.nil_append] at HM; replace HM := Lib.hid HM)))

  have c5 : w.cell? ⟨b0, 5, none⟩ = some (.string s.b) := (HM.out.at 0 rfl).row.cell HX.out.c5
  have d5 : w.cell? ⟨b1, 5, none⟩ = some (.string t.b) := (HM.out.at 1 rfl).row.cell HY.out.c5
  by_cases h1 : 7000 < s.b.size
  · have hd1 : decide (7000 < (s.b.size : Int)) = true := decide_eq_true (by omega)
    have hd2 : decide (7000 < s.b.size) = true := decide_eq_true h1
    go_wp2_with ((first
      | (with_reducible refine (RA.out _).mono ?_; rintro e w ⟨rfl, hb⟩; replace HM := Lib.hid (HM.out.next hb); clear hb)))

    go_ret
    exact ⟨rfl, HM.out.below⟩
  · have hd1 : decide (7000 < (s.b.size : Int)) = false := decide_eq_false (by omega)
    have hd2 : decide (7000 < s.b.size) = false := decide_eq_false h1
    by_cases h2 : 7000 < t.b.size
    · have hd3 : decide (7000 < (t.b.size : Int)) = true := decide_eq_true (by omega)
      have hd4 : decide (7000 < t.b.size) = true := decide_eq_true h2
      go_wp2_with ((first
        | (with_reducible refine (RA.out _).mono ?_; rintro e w ⟨rfl, hb⟩; replace HM := Lib.hid (HM.out.next hb); clear hb)))

      go_ret
      exact ⟨rfl, HM.out.below⟩
    · have hd3 : decide (7000 < (t.b.size : Int)) = false := decide_eq_false (by omega)
      have hd4 : decide (7000 < t.b.size) = false := decide_eq_false h2
      obtain ⟨T, hT⟩ : ∃ T, T = layX (text s.l) := ⟨_, rfl⟩
      obtain ⟨U, hU⟩ : ∃ U, U = layX (text t.l) := ⟨_, rfl⟩
      obtain ⟨E, hE⟩ : ∃ E, E = errV (text s.l) := ⟨_, rfl⟩
      obtain ⟨F, hF⟩ : ∃ F, F = errV (text t.l) := ⟨_, rfl⟩
      have R1 := Lib.hid (fun u => text_any s X T E u HX.out hT hE hs)
      have R2 := Lib.hid (fun u => text_any t Y U F u HY.out hU hF ht)
      have HT := Lib.hid (And.intro hT hE)
      have HU := Lib.hid (And.intro hU hF)
      clear hT hU hE hF h1 h2
      go_upto_region 5 with ((first
        | (with_reducible refine Hold.load HM.out 0 (cs := X) rfl rfl rfl rfl (Hold.Part.all _) (by rw [HX.out.len]; exact seaRow) ?_)
        | (with_reducible refine Hold.load HM.out 1 (cs := Y) rfl rfl rfl rfl (Hold.Part.all _) (by rw [HY.out.len]; exact seaRow) ?_)
        | (with_reducible refine (R1.out _).mono ?_; rintro e w ⟨rfl, hb⟩; replace HM := Lib.hid (HM.out.next hb); clear hb)
        | (with_reducible refine (R2.out _).mono ?_; rintro e w ⟨rfl, hb⟩; replace HM := Lib.hid (HM.out.next hb); clear hb)))

      clear c5 d5 hd1 hd2 hd3 hd4
      go_upto_region 6 with ((first
        | (with_reducible refine Hold.store1 HM.out 0 (c := .string ⟨#[]⟩) (v' := X') rfl rfl rfl rfl rfl (by rw [HX.out.len]; decide) (HX6.out) ⟨rfl, rfl⟩ (cellStr) ?_; clear HM; intro w HM; simp only [List.set_cons_zero] at HM; replace HM := Lib.hid HM)
        | (with_reducible refine Hold.store1 HM.out 1 (c := .string ⟨#[]⟩) (v' := Y') rfl rfl rfl rfl rfl (by rw [HY.out.len]; decide) (HY6.out) ⟨rfl, rfl⟩ (cellStr) ?_; clear HM; intro w HM; simp only [List.set_cons_zero, List.set_cons_succ] at HM; replace HM := Lib.hid HM)))

      cases r1 : right s.l with
      | false =>
        have hE := HT.out.2
        rw [text_wrong _ r1] at hE
        obtain rfl : E = 1 := hE
        clear r1
        go_wp2_with ((first
          | (with_reducible refine (RA.out _).mono ?_; rintro e w ⟨rfl, hb⟩; replace HM := Lib.hid (HM.out.next hb); clear hb)))

        go_ret
        exact ⟨rfl, HM.out.below⟩
      | true =>
        cases r2 : right t.l with
        | false =>
          have hF := HU.out.2
          rw [text_wrong _ r2] at hF
          obtain rfl : F = 1 := hF
          have hE : E = 0 := by
            obtain ⟨a, b, c, -, -, -, h⟩ := text_right s.l r1
            rw [HT.out.2, h]
            rfl
          subst hE
          clear r1 r2
          go_wp2_with ((first
            | (with_reducible refine (RA.out _).mono ?_; rintro e w ⟨rfl, hb⟩; replace HM := Lib.hid (HM.out.next hb); clear hb)))

          go_ret
          exact ⟨rfl, HM.out.below⟩
        | true =>
          have hE : E = 0 := by
            obtain ⟨a, b, c, -, -, -, h⟩ := text_right s.l r1
            rw [HT.out.2, h]
            rfl
          have hF : F = 0 := by
            obtain ⟨a, b, c, -, -, -, h⟩ := text_right t.l r2
            rw [HU.out.2, h]
            rfl
          subst hE hF
          obtain ⟨z, hz⟩ : ∃ z, z = same (bare s) (bare t) := ⟨_, rfl⟩
          have htx : (T.toList == U.toList) = z := (texts s t T U r1 r2 HT.out.1 HU.out.1).trans hz.symm
          have HZ := Lib.hid hz
          clear r1 r2 hz
          go_wp2_with ((first
            | (with_reducible refine (RA.out _).mono ?_; rintro e w ⟨rfl, hb⟩; replace HM := Lib.hid (HM.out.next hb); clear hb)
            | (refine wpList_want (by rfl) _ (Hold.load_run (cs := X') HM.out 0 rfl rfl rfl (Hold.Part.all _) (by rw [HX'.out.len]; exact seaRow)) ?_)
            | (refine wpList_want (by rfl) _ (Hold.load_run (cs := Y') HM.out 1 rfl rfl rfl (Hold.Part.all _) (by rw [HY'.out.len]; exact seaRow)) ?_)
            | (refine wpList_want (by rfl) (.bool z) (sea_eql HX'.out HY'.out z HZ.out rfl rfl rfl _) ?_)))

          go_ret
          exact ⟨rfl, HM.out.below⟩

theorem own : ownKnob Try.prog.godebug = none := by kernel_rfl
theorem laidOut : laidOutB Try.prog = true := by kernel_rfl

theorem lifted (os : Os) (started : os.Started) (H : Type) (enc : TypeId × Value → H) :
    ReturnsInHanded {} Try.checked os 5 .any (Rows.sealTextsSpec.pre6 enc Try.prog Try.f5 Rows.sealTextsRow.domain false) (Rows.sealTextsSpec.post enc Try.prog Try.f5 false true false false) := by
  refine returnsInHanded_of_change (C := Try.checked) own started (by kernel_rfl) Try.func5
    (ChangeSpec.witness6 (enc := enc) (C := Try.checked) false ⟨#[], #[.agg #[.string ByteArray.empty, .int .i64 0, .int .i64 0, .int .i64 0, .int .i64 0, .string ByteArray.empty, .string ByteArray.empty], .agg #[.string ByteArray.empty, .int .i64 0, .int .i64 0, .int .i64 0, .int .i64 0, .string ByteArray.empty, .string ByteArray.empty]], []⟩ 8 (by kernel_rfl) (by kernel_rfl) (by kernel_rfl) (by kernel_rfl)) ?_
  intro W base args ds gs before hval0 hW hcnd _
  have hval : ∀ (j : Nat) t v, Try.f5.params[j]? = some t → args[j]? = some v → Value.okWide Try.prog W .any base t v := hval0
  have hW' := hW
  obtain ⟨p, q, hA0, hV, rfl, hfz, hnd⟩ := hW
  have hA : DataW.TrodAll enc Try.prog W 0 (fun _ => true) true Try.f5.params.toList args.toList ds p := hA0
  rw [Try.params5] at hA hval
  obtain ⟨v0, vs0, d0, ds0, p0, q0, hargs, rfl, rfl, h0, r0⟩ := trodAll_cons hA
  obtain ⟨v1, vs1, d1, ds1, p1, q1, rfl, rfl, rfl, h1, r1⟩ := trodAll_cons r0
  obtain ⟨rfl, rfl, rfl⟩ := trodAll_nil r1
  obtain rfl : args = #[v0, v1] := by cases args; simp_all
  obtain ⟨rfl, rfl⟩ := trodVars_none hV
  have k0 := h0
  have lt0 : ∀ x ∈ p0, x.block < W.heap.size := by obtain ⟨m, hm⟩ := k0; exact DataW.trod_lt m _ _ _ hm
  obtain ⟨s0, X0, rfl, xl0, f0⟩ := open_seal (hval 0 23 v0 rfl rfl) h0
  have k1 := h1
  have lt1 : ∀ x ∈ p1, x.block < W.heap.size := by obtain ⟨m, hm⟩ := k1; exact DataW.trod_lt m _ _ _ hm
  obtain ⟨s1, X1, rfl, xl1, f1⟩ := open_seal (hval 1 23 v1 rfl rfl) h1
  clear hA0 hval0
  refine (walk s0 X0 s1 X1 W xl0 f0 xl1 f1).mono fun e W' ⟨he, bel⟩ => ?_
  subst he
  exact ⟨_, rfl, _, _, _, [], _, [], hW', trodAll_mk1 (shut_bool Try.underlying4 _), (trodAll_cons_mk (Below.trod laidOut (by kernel_rfl) (of_decide_eq_true (by kernel_rfl)) k0 bel lt0) (trodAll_cons_mk (Below.trod laidOut (by kernel_rfl) (of_decide_eq_true (by kernel_rfl)) k1 bel lt1) trodAll_mk0)), rfl, bel.frame _, fun h => by cases h⟩

theorem over : Rows.sealTextsRow.holds Try.pinned (OpenSpec.ofChange Rows.sealTextsSpec) :=
  OpenClaim.holds_of_wide 5 Try.f5 rfl rfl rfl rfl rfl rfl rfl ⟨rfl, rfl, rfl, rfl, rfl⟩ rfl rfl rfl rfl rfl (by kernel_rfl) Try.func5 (by kernel_rfl)
    (of_decide_eq_true (by kernel_rfl)) (by unfold Func.isWrapper; first | (rw [if_pos (by decide +kernel)]; kernel_rfl) | (rw [if_neg (by decide +kernel)]; exact ⟨rfl, rfl⟩))
    (fun os started H enc _ => lifted os started H enc)

theorem proved : Rows.SealTextsSaid := over
#print axioms proved
end Go.Proofs.Ytnglnocdffjnoaa.LawSTx
