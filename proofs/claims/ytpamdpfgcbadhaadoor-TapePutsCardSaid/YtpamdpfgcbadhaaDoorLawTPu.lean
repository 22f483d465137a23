/-
  TapePuts: what is put is got, and other cells are as they were: for every list of cells and any three texts the law answers true and changes nothing that was there. Condition: the listed tables hold what the program lays there.
-/
import Derived.Test.YtpamdpfgcbadhaaDoorRows
import Derived.Test.YtpamdpfgcbadhaaDoorTpW
import Derived.Test.YtpamdpfgcbadhaaDoorTpO
import Derived.Test.YtpamdpfgcbadhaaDoorTpK
namespace Go.Proofs.YtpamdpfgcbadhaaDoor.LawTPu
open Go.ChangeShapes Go.WideShapes Go.ChangeAt Go.RowKit Mur Prt Tap Cel RTap
open Go.ChangeMaps (open_string shut_string)
set_option maxRecDepth 100000
set_option linter.unusedSimpArgs false

theorem putF_length (n s : List UInt8) (d : Bool) (l : List C) : (putF n s d l).length ≤ l.length + 1 := by
  induction l generalizing d with
  | nil => cases d <;> simp [putF]
  | cons c l ih =>
    have h1 := ih d
    have h2 := ih true
    rw [putF_cons]
    split
    · split
      · rw [List.length_cons]; omega
      · have h3 : ∀ d l, d = true → (putF n s d l).length ≤ l.length := by
          intro d l
          induction l generalizing d with
          | nil => intro h; subst h; simp [putF]
          | cons c l ih =>
            intro h
            subst h
            have := ih true rfl
            rw [putF_cons]
            split
            · rw [if_pos rfl, List.length_cons]; omega
            · rw [List.length_cons, List.length_cons]; omega
        have := h3 true l rfl
        rw [List.length_cons, List.length_cons]
        omega
    · rw [List.length_cons, List.length_cons]
      omega

set_option maxHeartbeats 3200000 in
theorem walk (l : List K) (n : Nat) (a : Option Addr) (c : Nat) (t0 t1 t2 : ByteArray) (w : World) (hr : CelR w a l) (hn : l.length = n) (hnm : n ≤ 9223372036854775807) (hnc : n ≤ c) (_ : ∀ c ∈ l, c.1.size ≤ 9223372036854775807 ∧ c.2.size ≤ 9223372036854775807) (hp : Tape.Pow w) :
    Calls Tryd.prog 4 #[.slice a n c, .agg #[.string t0, .string t1, .string t2]] w fun e w' => e = .returned (.bool true) ∧ Below w.heap.size w w' := by
  have RA := Lib.hid (fun u (hu : Below w.heap.size w u) => TpW.awake_any u (hp.below hu))
  have HM := Lib.hid (Hold.Hld.start w)
  by_cases hg : 50 < n
  · have d1 : decide (50 < (n : Int)) = true := decide_eq_true (by omega)
    have d2 : decide (50 < n) = true := decide_eq_true hg
    clear hr hn hg
    go_enter Tryd.func4, Tryd.ntmps4
    go_wp2_with ((first
      | (with_reducible refine Hold.box HM.out rfl rfl rfl ?_; clear HM; intro b0 w HM; simp only [List.nil_append] at HM; replace HM := Lib.hid HM)
      | (with_reducible refine (RA.out _ HM.out.below).mono ?_; rintro e w ⟨rfl, hb⟩; replace HM := Lib.hid (HM.out.next hb); clear hb)))

    go_ret
    exact ⟨rfl, HM.out.below⟩
  have d1 : decide (50 < (n : Int)) = false := decide_eq_false (by omega)
  have d2 : decide (50 < n) = false := decide_eq_false hg
  obtain ⟨L, hL⟩ : ∃ L, L = put (toC l) t0.data.toList t2.data.toList := ⟨_, rfl⟩
  obtain ⟨N, hN⟩ : ∃ N, L.length = N := ⟨_, rfl⟩
  have hNb : N ≤ 1000000 := by
    have := putF_length t0.data.toList t2.data.toList false (toC l)
    rw [toC_length] at this
    rw [← hN, hL]
    unfold put
    omega
  obtain ⟨X3, hX3⟩ : ∃ X, X = gotX (get (toC l) t1.data.toList) := ⟨_, rfl⟩
  obtain ⟨B3, hB3⟩ : ∃ B, B = (get (toC l) t1.data.toList).isSome := ⟨_, rfl⟩
  obtain ⟨X4, hX4⟩ : ∃ X, X = gotX (get L t1.data.toList) := ⟨_, rfl⟩
  obtain ⟨B4, hB4⟩ : ∃ B, B = (get L t1.data.toList).isSome := ⟨_, rfl⟩
  have R1 := Lib.hid (fun u (hu : Below w.heap.size w u) => Tape.put_any l n a c t0 t2 L N u hL hN (hr.below hu) hn (by omega) hnc)
  have R2 := Lib.hid (fun u ao co (h : CelR u ao (ofC L)) => Tape.get_any (ofC L) N ao co t0 t2 true u (by rw [toC_ofC, hL, put_got]; exact (Cel.tx_data t2).symm) (by rw [toC_ofC, hL, put_got]; rfl) h (by rw [ofC_length]; exact hN) hNb)
  have R3 := Lib.hid (fun u (hu : Below w.heap.size w u) => Tape.get_any l n a c t1 X3 B3 u hX3 hB3 (hr.below hu) hn (by omega))
  have R4 := Lib.hid (fun u ao co (h : CelR u ao (ofC L)) => Tape.get_any (ofC L) N ao co t1 X4 B4 u (by rw [toC_ofC]; exact hX4) (by rw [toC_ofC]; exact hB4) h (by rw [ofC_length]; exact hN) hNb)
  have hcase : t0.data.toList = t1.data.toList ∨ (t0.data.toList ≠ t1.data.toList ∧ X4 = X3 ∧ B4 = B3) := by
    by_cases h : t0.data.toList = t1.data.toList
    · exact .inl h
    · have h2 := put_other (toC l) t0.data.toList t2.data.toList t1.data.toList (fun k => h k.symm)
      exact .inr ⟨h, by rw [hX4, hX3, hL, h2], by rw [hB4, hB3, hL, h2]⟩
  clear hr hn hL hN hX3 hB3 hX4 hB4
  have q0 := TpH.same t2
  go_enter Tryd.func4, Tryd.ntmps4
  go_upto_region 7 with ((first
    | (with_reducible refine Hold.box HM.out rfl rfl rfl ?_; clear HM; intro b0 w HM; simp only [List.nil_append] at HM; replace HM := Lib.hid HM)
    | (with_reducible refine Hold.load1 HM.out 0 (c := .string t0) rfl rfl rfl rfl (rfl) (Cel.cellStr) ?_)
    | (with_reducible refine Hold.load1 HM.out 0 (c := .string t2) rfl rfl rfl rfl (rfl) (Cel.cellStr) ?_)
    | (with_reducible refine Hold.load1 HM.out 0 (c := .string t1) rfl rfl rfl rfl (rfl) (Cel.cellStr) ?_)
    | (with_reducible (refine (R1.out _ HM.out.below).mono ?_; rintro e w ⟨ao, co, rfl, -, hc, -, hb⟩; have HC := Lib.hid hc; replace HM := Lib.hid (HM.out.next hb); clear hb hc))
    | (with_reducible (refine (R2.out _ _ _ HC.out).mono ?_; rintro e w ⟨rfl, hb⟩; replace HC := Lib.hid (HC.out.below hb); replace HM := Lib.hid (HM.out.next hb); clear hb))
    | (with_reducible (refine (R3.out _ HM.out.below).mono ?_; rintro e w ⟨rfl, hb⟩; replace HC := Lib.hid (HC.out.below hb); replace HM := Lib.hid (HM.out.next hb); clear hb))
    | (with_reducible (refine (R4.out _ _ _ HC.out).mono ?_; rintro e w ⟨rfl, hb⟩; replace HC := Lib.hid (HC.out.below hb); replace HM := Lib.hid (HM.out.next hb); clear hb))))

  have f0 : w.cell? ⟨b0, 0, none⟩ = some (.string t0) := (HM.out.at 0 rfl).row.cell rfl
  have f1 : w.cell? ⟨b0, 1, none⟩ = some (.string t1) := (HM.out.at 0 rfl).row.cell rfl
  have f2 : w.cell? ⟨b0, 2, none⟩ = some (.string t2) := (HM.out.at 0 rfl).row.cell rfl
  clear R1 R2 R3 R4
  rcases hcase with h | ⟨h, rfl, rfl⟩
  · have q1 := eql_yes t0 t1 h
    clear h
    go_wp2_with ((first
      | (with_reducible refine (RA.out _ HM.out.below).mono ?_; rintro e w ⟨rfl, hb⟩; replace HM := Lib.hid (HM.out.next hb); clear hb)))

    go_ret
    exact ⟨rfl, HM.out.below⟩
  · have q1 := eql_no t0 t1 h
    have q2 := TpH.same X4
    have q3 : (B4 == B4) = true := by simp
    clear h
    go_wp2_with ((first
      | (with_reducible refine (RA.out _ HM.out.below).mono ?_; rintro e w ⟨rfl, hb⟩; replace HM := Lib.hid (HM.out.next hb); clear hb)))

    go_ret
    exact ⟨rfl, HM.out.below⟩

set_option maxHeartbeats 1600000 in
theorem lifted (os : Os) (started : os.Started) (H : Type) (enc : TypeId × Value → H) :
    ReturnsInHanded {} Tryd.checked os 4 .any (fun w args => (Rows.tapePutsSpec.pre enc Tryd.prog Tryd.f4 [] false w args ∧ laidMetH Tryd.prog Tape.laidL w) ∧ sizedMet enc Tryd.prog Tryd.f4 (OpenSpec.ofChange Rows.tapePutsSpec) false w args)
      (Rows.tapePutsSpec.post enc Tryd.prog Tryd.f4 false true false false) := by
  refine returnsInHanded_of_change_and (C := Tryd.checked) (X := fun w _ => laidMetH Tryd.prog Tape.laidL w) (fun _ _ _ hh h => h.of_heap hh) Tape.own started (by kernel_rfl) Tryd.func4
    (ChangeSpec.witness_shaped (enc := enc) (C := Tryd.checked) (os := os) (X := fun w _ => laidMetH Tryd.prog Tape.laidL w) false (World.doorLaid Tryd.prog 400 os) #[.slice none 0 0, .agg #[.string ByteArray.empty, .string ByteArray.empty, .string ByteArray.empty]] 8 rfl (World.shaped_of_RefB (by kernel_rfl) (by kernel_rfl)) (by kernel_rfl) (by kernel_rfl) (by kernel_rfl) (Tape.door_met os _)) ?_
  intro W base args ds gs before hval0 hW _ hsz0 hL _
  have hval : ∀ (j : Nat) t v, Tryd.f4.params[j]? = some t → args[j]? = some v → Value.okWide Tryd.prog W .any base t v := hval0
  have hsz : (DataW.weightsEach Tryd.prog (Tryd.f4.params.toList ++ Rows.tapePutsSpec.plain.varTypes Tryd.prog) (ds ++ gs)).all (· ≤ reachBytes) = true := hsz0
  clear hsz0
  have hW' := hW
  obtain ⟨p, q, hA0, hV, rfl, hfz, hnd⟩ := hW
  have hA : DataW.TrodAll enc Tryd.prog W 0 (fun _ => true) true Tryd.f4.params.toList args.toList ds p := hA0
  rw [Tryd.params4] at hA hval hsz
  obtain ⟨v0, vs0, d0, ds0, p0, q0, hargs, rfl, rfl, h0, r0⟩ := trodAll_cons hA
  obtain ⟨v1, vs1, d1, ds1, p1, q1, rfl, rfl, rfl, h1, r1⟩ := trodAll_cons r0
  obtain ⟨rfl, rfl, rfl⟩ := trodAll_nil r1
  obtain rfl : args = #[v0, v1] := by cases args; simp_all
  obtain ⟨rfl, rfl⟩ := trodVars_none hV
  have k0 := h0
  have lt0 : ∀ x ∈ p0, x.block < W.heap.size := by obtain ⟨m, hm⟩ := k0; exact DataW.trod_lt m _ _ _ hm
  obtain ⟨l0, n0, a0, c0, rfl, x0, y0, z0, v0, u0⟩ := TpO.open_cells (hval 0 22 v0 rfl rfl) h0
  have k1 := h1
  have lt1 : ∀ x ∈ p1, x.block < W.heap.size := by obtain ⟨m, hm⟩ := k1; exact DataW.trod_lt m _ _ _ hm
  obtain ⟨s1, t1, r1, rfl⟩ := TpO.open_three (hval 1 36 v1 rfl rfl) h1
  have hcl := Tape.of_laid hL
  clear hA0 hval0
  refine (walk l0 n0 a0 c0 s1 t1 r1 W x0 y0 z0 v0 u0  hcl).mono fun e W' ⟨he, bel⟩ => ?_
  subst he
  exact ⟨_, rfl, _, _, _, [], _, [], hW', trodAll_mk1 (shut_bool Tryd.underlying4 _), (trodAll_cons_mk (Below.trod Tape.laidOut (by kernel_rfl) (of_decide_eq_true (by kernel_rfl)) k0 bel lt0) (trodAll_cons_mk (Below.trod Tape.laidOut (by kernel_rfl) (of_decide_eq_true (by kernel_rfl)) k1 bel lt1) trodAll_mk0)), rfl, bel.frame _, fun h => by cases h⟩

theorem over : Rows.TapePutsSaid :=
  OpenClaim.holds_of_wide 4 Tryd.f4 rfl rfl rfl rfl rfl rfl rfl ⟨rfl, rfl, rfl, rfl, rfl⟩ rfl rfl rfl rfl rfl (by kernel_rfl) Tryd.func4 (by kernel_rfl)
    (of_decide_eq_true (by kernel_rfl)) (by unfold Func.isWrapper; first | (rw [if_pos (by decide +kernel)]; kernel_rfl) | (rw [if_neg (by decide +kernel)]; exact ⟨rfl, rfl⟩))
    (fun os started H enc _ => lifted os started H enc)

theorem proved : Rows.TapePutsCardSaid :=
  Claim7.holds_tied_plain_at .later [] [.data, .data, .data] true Rows.tapePutsCard.stood.harness false
    over (fun _ h => by cases h) (by kernel_rfl) (fun _ h => by cases h) tapePuts_row_tie rfl ⟨rfl, rfl⟩ (by kernel_rfl) rfl
    (fun f fn hf hfn => by
      obtain rfl : f = 4 := Option.some.inj ((show Tryd.prog.funcNamed "murmur/murmurlaw15.TapePuts" = some 4 by kernel_rfl).symm.trans hf) |>.symm
      obtain rfl : fn = Tryd.f4 := (Option.some.inj (Tryd.func4.symm.trans hfn)).symm
      exact ⟨by kernel_rfl, fun j t ht => by
        rw [Tryd.params4] at ht
        have hm : t ∈ [22, 36] := by simpa using Array.mem_of_getElem? ht
        have hall : ([22, 36].all fun u => !Tryd.prog.wantsStandIn u) = true := by kernel_rfl
        exact (show Tryd.prog.wantsStandIn t = false by simpa using List.all_eq_true.1 hall t hm)⟩)
    (by kernel_rfl)
#print axioms proved
end Go.Proofs.YtpamdpfgcbadhaaDoor.LawTPu
