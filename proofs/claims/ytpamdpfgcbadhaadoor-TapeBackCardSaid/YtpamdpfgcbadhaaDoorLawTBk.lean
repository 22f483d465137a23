/-
  TapeBack: what is printed is read, and what is read is printed so: for every list of cells and every text the law answers true and changes nothing that was there. Condition: the listed tables hold what the program lays there.
-/
import Derived.Test.YtpamdpfgcbadhaaDoorRows
import Derived.Test.YtpamdpfgcbadhaaDoorTpW
import Derived.Test.YtpamdpfgcbadhaaDoorTpO
import Derived.Test.YtpamdpfgcbadhaaDoorTpK
namespace Go.Proofs.YtpamdpfgcbadhaaDoor.LawTBk
open Go.ChangeShapes Go.WideShapes Go.ChangeAt Go.RowKit Mur Prt Tap Cel RTap
open Go.ChangeMaps (open_string shut_string)
set_option maxRecDepth 100000
set_option linter.unusedSimpArgs false

theorem each_err (l : List C) (e : Nat) (h : each layC l = .error e) : e = 4 := by
  induction l with
  | nil => cases h
  | cons c l ih =>
    cases hc : layC c with
    | error y =>
      rw [each_error layC c l y hc] at h
      cases h
      unfold layC at hc
      split at hc
      · cases hc
      · cases hc; rfl
    | ok b =>
      rw [each_ok layC c l b hc] at h
      cases hl : each layC l with
      | error y => rw [hl] at h; cases h; exact ih hl
      | ok r => rw [hl] at h; cases h
theorem print_err (l : List C) (e : Nat) (h : Tap.print l = .error e) : e = 4 := by
  unfold Tap.print at h
  split at h
  · cases h; rfl
  · exact each_err l e h
theorem each_most (l : List C) (a : List UInt8) (h : each layC l = .ok a) : a.length ≤ 6204 * l.length := by
  induction l generalizing a with
  | nil => cases h; exact Nat.le_refl _
  | cons c l ih =>
    cases hc : layC c with
    | error y => rw [each_error layC c l y hc] at h; cases h
    | ok b =>
      rw [each_ok layC c l b hc] at h
      cases hl : each layC l with
      | error y => rw [hl] at h; cases h
      | ok r =>
        rw [hl] at h
        cases h
        have h1 := ih r hl
        have h2 := layC_ok c b hc
        have h3 := (okC_iff c).1 h2.1
        rw [h2.2, List.length_append, List.length_append, tell_length, tell_length, List.length_cons]
        omega
theorem print_most (l : List C) (a : List UInt8) (h : Tap.print l = .ok a) : a.length ≤ 6204 * l.length ∧ l.length ≤ 1000 := by
  unfold Tap.print at h
  split at h
  · cases h
  · exact ⟨each_most l a h, by omega⟩
theorem readG_err (f : Nat) (acc : List C) (s : List UInt8) (e : Nat) (h : readG f acc s = .error e) : e = 2 ∨ e = 4 := by
  induction f generalizing acc s with
  | zero => cases h
  | succ f ih =>
    by_cases hs : s = []
    · subst hs
      rw [readG_done] at h
      cases h
    · cases h1 : cutT s with
      | none => rw [readG_none f acc s hs h1] at h; cases h; exact .inl rfl
      | some x =>
        obtain ⟨a, r⟩ := x
        cases h2 : cutT r with
        | none => rw [readG_half f acc s a r hs h1 h2] at h; cases h; exact .inl rfl
        | some y =>
          obtain ⟨b, q⟩ := y
          by_cases h4 : acc.length = 1000 ∨ okC (a, b) = false
          · rw [readG_bad f acc s a r b q hs h1 h2 h4] at h; cases h; exact .inr rfl
          · rw [readG_good f acc s a r b q hs h1 h2 h4] at h
            exact ih _ _ h

set_option maxHeartbeats 6400000 in
theorem walk (l : List K) (n : Nat) (a : Option Addr) (c : Nat) (s : ByteArray) (w : World) (hr : CelR w a l) (hn : l.length = n) (hnm : n ≤ 9223372036854775807) (_ : n ≤ c) (_ : ∀ c ∈ l, c.1.size ≤ 9223372036854775807 ∧ c.2.size ≤ 9223372036854775807) (hsm : s.size ≤ 9223372036854775807) (hp : Tape.Pow w) :
    Calls Tryd.prog 7 #[.slice a n c, .string s] w fun e w' => e = .returned (.bool true) ∧ Below w.heap.size w w' := by
  have RA := Lib.hid (fun u (hu : Below w.heap.size w u) => TpW.awake_any u (hp.below hu))
  by_cases hg : 50 < n
  · have d1 : decide (50 < (n : Int)) = true := decide_eq_true (by omega)
    have d2 : decide (50 < n) = true := decide_eq_true hg
    clear hr hn hg
    go_enter Tryd.func7, Tryd.ntmps7
    go_wp2_with ((with_reducible (refine (RA.out _ (Below.refl _ _)).mono ?_; rintro e w1 ⟨rfl, hb1⟩)))
    go_ret
    exact ⟨rfl, hb1⟩
  have d1 : decide (50 < (n : Int)) = false := decide_eq_false (by omega)
  have d2 : decide (50 < n) = false := decide_eq_false hg
  by_cases hg2 : 3000 < s.size
  · have d3 : decide (3000 < (s.size : Int)) = true := decide_eq_true (by omega)
    have d4 : decide (3000 < s.size) = true := decide_eq_true hg2
    clear hr hn hg hg2
    go_enter Tryd.func7, Tryd.ntmps7
    go_wp2_with ((with_reducible (refine (RA.out _ (Below.refl _ _)).mono ?_; rintro e w1 ⟨rfl, hb1⟩)))
    go_ret
    exact ⟨rfl, hb1⟩
  have d3 : decide (3000 < (s.size : Int)) = false := decide_eq_false (by omega)
  have d4 : decide (3000 < s.size) = false := decide_eq_false hg2
  have HW := Lib.hid (Below.refl w.heap.size w)
  have q0 := TpH.same s
  have q1 : ((0 : Int) == 0) = true := by simp
  have q2 : ((0 : Int) != 0) = false := by simp
  have q3 : ((4 : Int) == 0) = false := by simp
  have q4 : ((2 : Int) == 0) = false := by simp
  cases h1 : Tap.print (toC l) with
  | error e1 =>
    obtain rfl := print_err _ _ h1
    have R1 := Lib.hid (fun u (hu : Below w.heap.size w u) => Tape.print_any l n a c ⟨#[]⟩ 4 u (by rw [h1]; rfl) (by rw [h1]; rfl) (hr.below hu) hn hnm)
    cases h2 : read s.data.toList with
    | error e2 =>
      have R4 := Lib.hid (fun u => Tape.read_any s [] 0 (e2 : Int) u (by rw [h2]; rfl) (by rw [h2]; rfl) rfl (by omega))
      have he2 : ((e2 : Int) == 0) = false := by
        rcases readG_err _ _ _ _ h2 with rfl | rfl <;> decide
      clear h2 h1 hr hn hg hg2
      go_enter Tryd.func7, Tryd.ntmps7
      go_wp2_with ((first
        | (with_reducible (refine (R1.out _ HW.out).mono ?_; rintro e w ⟨rfl, hb⟩; replace HW := Lib.hid (HW.out.trans (hb.mono HW.out.size)); clear hb))
        | (with_reducible (refine (R4.out _).mono ?_; rintro e w ⟨a4, c4, rfl, -, -, hb⟩; replace HW := Lib.hid (HW.out.trans (hb.mono HW.out.size)); clear hb))
        | (with_reducible (refine (RA.out _ HW.out).mono ?_; rintro e w ⟨rfl, hb⟩; replace HW := Lib.hid (HW.out.trans (hb.mono HW.out.size)); clear hb))))
      go_ret
      exact ⟨rfl, HW.out⟩
    | ok L2 =>
      have hp2 := read_print _ _ h2
      obtain ⟨N2, hN2⟩ : ∃ N, L2.length = N := ⟨_, rfl⟩
      have hN2b : N2 ≤ 1000 := by rw [← hN2]; exact (print_most _ _ hp2).2
      have R4 := Lib.hid (fun u => Tape.read_any s L2 N2 0 u (by rw [h2]; rfl) (by rw [h2]; rfl) hN2 (by omega))
      have R5 := Lib.hid (fun u a4 c4 (h : CelR u a4 (ofC L2)) => Tape.print_any (ofC L2) N2 a4 c4 s 0 u (by rw [toC_ofC, hp2]; exact (Cel.tx_data s).symm) (by rw [toC_ofC, hp2]; rfl) h (by rw [ofC_length]; exact hN2) (by omega))
      clear h2 hp2 hN2 h1 hr hn hg hg2
      go_enter Tryd.func7, Tryd.ntmps7
      go_wp2_with ((first
        | (with_reducible (refine (R1.out _ HW.out).mono ?_; rintro e w ⟨rfl, hb⟩; replace HW := Lib.hid (HW.out.trans (hb.mono HW.out.size)); clear hb))
        | (with_reducible (refine (R4.out _).mono ?_; rintro e w ⟨a4, c4, rfl, hc, -, hb⟩; have HC4 := Lib.hid hc; clear hc; replace HW := Lib.hid (HW.out.trans (hb.mono HW.out.size)); clear hb))
        | (with_reducible (refine (R5.out _ _ _ HC4.out).mono ?_; rintro e w ⟨rfl, hb⟩; replace HW := Lib.hid (HW.out.trans (hb.mono HW.out.size)); clear hb))
        | (with_reducible (refine (RA.out _ HW.out).mono ?_; rintro e w ⟨rfl, hb⟩; replace HW := Lib.hid (HW.out.trans (hb.mono HW.out.size)); clear hb))))
      go_ret
      exact ⟨rfl, HW.out⟩
  | ok A =>
    have hrd := print_read _ _ h1
    have hAs : A.length ≤ 1000000 := by
      have := (print_most _ _ h1).1
      rw [toC_length] at this
      omega
    obtain ⟨X, hX⟩ : ∃ X, X = tx A := ⟨_, rfl⟩
    have R1 := Lib.hid (fun u (hu : Below w.heap.size w u) => Tape.print_any l n a c X 0 u (by rw [h1]; exact hX) (by rw [h1]; rfl) (hr.below hu) hn hnm)
    have R2 := Lib.hid (fun u => Tape.read_any X (toC l) n 0 u (by rw [hX, tx_list, hrd]; rfl) (by rw [hX, tx_list, hrd]; rfl) (by rw [toC_length]; exact hn) (by rw [hX, tx_size]; omega))
    have R3 := Lib.hid (fun u a3 c3 (h : CelR u a3 (ofC (toC l))) (hu : Below w.heap.size w u) => TpH.cells_any l n n a3 a c3 c u hn.symm hn.symm (by omega) (by rw [ofC_toC] at h; exact h) (hr.below hu))
    clear hX hrd hAs
    cases h2 : read s.data.toList with
    | error e2 =>
      have R4 := Lib.hid (fun u => Tape.read_any s [] 0 (e2 : Int) u (by rw [h2]; rfl) (by rw [h2]; rfl) rfl (by omega))
      have he2 : ((e2 : Int) == 0) = false := by
        rcases readG_err _ _ _ _ h2 with rfl | rfl <;> decide
      clear h2 h1 hr hn hg hg2
      go_enter Tryd.func7, Tryd.ntmps7
      go_wp2_with ((first
        | (with_reducible (refine (R1.out _ HW.out).mono ?_; rintro e w ⟨rfl, hb⟩; replace HW := Lib.hid (HW.out.trans (hb.mono HW.out.size)); clear hb))
        | (with_reducible (refine (R2.out _).mono ?_; rintro e w ⟨a3, c3, rfl, hc, -, hb⟩; have HC3 := Lib.hid hc; clear hc; replace HW := Lib.hid (HW.out.trans (hb.mono HW.out.size)); clear hb))
        | (with_reducible (refine (R3.out _ _ _ HC3.out HW.out).mono ?_; rintro e w ⟨rfl, hb⟩; replace HW := Lib.hid (HW.out.trans (hb.mono HW.out.size)); clear hb))
        | (with_reducible (refine (R4.out _).mono ?_; rintro e w ⟨a4, c4, rfl, -, -, hb⟩; replace HW := Lib.hid (HW.out.trans (hb.mono HW.out.size)); clear hb))
        | (with_reducible (refine (RA.out _ HW.out).mono ?_; rintro e w ⟨rfl, hb⟩; replace HW := Lib.hid (HW.out.trans (hb.mono HW.out.size)); clear hb))))
      go_ret
      exact ⟨rfl, HW.out⟩
    | ok L2 =>
      have hp2 := read_print _ _ h2
      obtain ⟨N2, hN2⟩ : ∃ N, L2.length = N := ⟨_, rfl⟩
      have hN2b : N2 ≤ 1000 := by rw [← hN2]; exact (print_most _ _ hp2).2
      have R4 := Lib.hid (fun u => Tape.read_any s L2 N2 0 u (by rw [h2]; rfl) (by rw [h2]; rfl) hN2 (by omega))
      have R5 := Lib.hid (fun u a4 c4 (h : CelR u a4 (ofC L2)) => Tape.print_any (ofC L2) N2 a4 c4 s 0 u (by rw [toC_ofC, hp2]; exact (Cel.tx_data s).symm) (by rw [toC_ofC, hp2]; rfl) h (by rw [ofC_length]; exact hN2) (by omega))
      clear h2 hp2 hN2 h1 hr hn hg hg2
      go_enter Tryd.func7, Tryd.ntmps7
      go_wp2_with ((first
        | (with_reducible (refine (R1.out _ HW.out).mono ?_; rintro e w ⟨rfl, hb⟩; replace HW := Lib.hid (HW.out.trans (hb.mono HW.out.size)); clear hb))
        | (with_reducible (refine (R2.out _).mono ?_; rintro e w ⟨a3, c3, rfl, hc, -, hb⟩; have HC3 := Lib.hid hc; clear hc; replace HW := Lib.hid (HW.out.trans (hb.mono HW.out.size)); clear hb))
        | (with_reducible (refine (R3.out _ _ _ HC3.out HW.out).mono ?_; rintro e w ⟨rfl, hb⟩; replace HW := Lib.hid (HW.out.trans (hb.mono HW.out.size)); clear hb))
        | (with_reducible (refine (R4.out _).mono ?_; rintro e w ⟨a4, c4, rfl, hc, -, hb⟩; have HC4 := Lib.hid hc; clear hc; replace HW := Lib.hid (HW.out.trans (hb.mono HW.out.size)); clear hb))
        | (with_reducible (refine (R5.out _ _ _ HC4.out).mono ?_; rintro e w ⟨rfl, hb⟩; replace HW := Lib.hid (HW.out.trans (hb.mono HW.out.size)); clear hb))
        | (with_reducible (refine (RA.out _ HW.out).mono ?_; rintro e w ⟨rfl, hb⟩; replace HW := Lib.hid (HW.out.trans (hb.mono HW.out.size)); clear hb))))
      go_ret
      exact ⟨rfl, HW.out⟩

set_option maxHeartbeats 1600000 in
theorem lifted (os : Os) (started : os.Started) (H : Type) (enc : TypeId × Value → H) :
    ReturnsInHanded {} Tryd.checked os 7 .any (fun w args => (Rows.tapeBackSpec.pre enc Tryd.prog Tryd.f7 [] false w args ∧ laidMetH Tryd.prog Tape.laidL w) ∧ sizedMet enc Tryd.prog Tryd.f7 (OpenSpec.ofChange Rows.tapeBackSpec) false w args)
      (Rows.tapeBackSpec.post enc Tryd.prog Tryd.f7 false true false false) := by
  refine returnsInHanded_of_change_and (C := Tryd.checked) (X := fun w _ => laidMetH Tryd.prog Tape.laidL w) (fun _ _ _ hh h => h.of_heap hh) Tape.own started (by kernel_rfl) Tryd.func7
    (ChangeSpec.witness_shaped (enc := enc) (C := Tryd.checked) (os := os) (X := fun w _ => laidMetH Tryd.prog Tape.laidL w) false (World.doorLaid Tryd.prog 400 os) #[.slice none 0 0, .string ByteArray.empty] 8 rfl (World.shaped_of_RefB (by kernel_rfl) (by kernel_rfl)) (by kernel_rfl) (by kernel_rfl) (by kernel_rfl) (Tape.door_met os _)) ?_
  intro W base args ds gs before hval0 hW _ hsz0 hL _
  have hval : ∀ (j : Nat) t v, Tryd.f7.params[j]? = some t → args[j]? = some v → Value.okWide Tryd.prog W .any base t v := hval0
  have hsz : (DataW.weightsEach Tryd.prog (Tryd.f7.params.toList ++ Rows.tapeBackSpec.plain.varTypes Tryd.prog) (ds ++ gs)).all (· ≤ reachBytes) = true := hsz0
  clear hsz0
  have hW' := hW
  obtain ⟨p, q, hA0, hV, rfl, hfz, hnd⟩ := hW
  have hA : DataW.TrodAll enc Tryd.prog W 0 (fun _ => true) true Tryd.f7.params.toList args.toList ds p := hA0
  rw [Tryd.params7] at hA hval hsz
  obtain ⟨v0, vs0, d0, ds0, p0, q0, hargs, rfl, rfl, h0, r0⟩ := trodAll_cons hA
  obtain ⟨v1, vs1, d1, ds1, p1, q1, rfl, rfl, rfl, h1, r1⟩ := trodAll_cons r0
  obtain ⟨rfl, rfl, rfl⟩ := trodAll_nil r1
  obtain rfl : args = #[v0, v1] := by cases args; simp_all
  obtain ⟨rfl, rfl⟩ := trodVars_none hV
  have k0 := h0
  have lt0 : ∀ x ∈ p0, x.block < W.heap.size := by obtain ⟨m, hm⟩ := k0; exact DataW.trod_lt m _ _ _ hm
  obtain ⟨l0, n0, a0, c0, rfl, x0, y0, z0, v0, u0⟩ := TpO.open_cells (hval 0 22 v0 rfl rfl) h0
  obtain ⟨a1, rfl, rfl, rfl, w1⟩ := open_string Tryd.underlying9 (hval 1 9 v1 rfl rfl) h1
  have hcl := Tape.of_laid hL
  clear hA0 hval0
  refine (walk l0 n0 a0 c0 a1 W x0 y0 z0 v0 u0 (Nat.le_trans w1 (by unfold maxLen; omega)) hcl).mono fun e W' ⟨he, bel⟩ => ?_
  subst he
  exact ⟨_, rfl, _, _, _, [], _, [], hW', trodAll_mk1 (shut_bool Tryd.underlying4 _), (trodAll_cons_mk (Below.trod Tape.laidOut (by kernel_rfl) (of_decide_eq_true (by kernel_rfl)) k0 bel lt0) (trodAll_cons_mk (shut_string Tryd.underlying9 w1) trodAll_mk0)), rfl, bel.frame _, fun h => by cases h⟩

theorem over : Rows.TapeBackSaid :=
  OpenClaim.holds_of_wide 7 Tryd.f7 rfl rfl rfl rfl rfl rfl rfl ⟨rfl, rfl, rfl, rfl, rfl⟩ rfl rfl rfl rfl rfl (by kernel_rfl) Tryd.func7 (by kernel_rfl)
    (of_decide_eq_true (by kernel_rfl)) (by unfold Func.isWrapper; first | (rw [if_pos (by decide +kernel)]; kernel_rfl) | (rw [if_neg (by decide +kernel)]; exact ⟨rfl, rfl⟩))
    (fun os started H enc _ => lifted os started H enc)

theorem proved : Rows.TapeBackCardSaid :=
  Claim7.holds_tied_plain_at .later [] [.data, .data, .data] true Rows.tapeBackCard.stood.harness false
    over (fun _ h => by cases h) (by kernel_rfl) (fun _ h => by cases h) tapeBack_row_tie rfl ⟨rfl, rfl⟩ (by kernel_rfl) rfl
    (fun f fn hf hfn => by
      obtain rfl : f = 7 := Option.some.inj ((show Tryd.prog.funcNamed "murmur/murmurlaw15.TapeBack" = some 7 by kernel_rfl).symm.trans hf) |>.symm
      obtain rfl : fn = Tryd.f7 := (Option.some.inj (Tryd.func7.symm.trans hfn)).symm
      exact ⟨by kernel_rfl, fun j t ht => by
        rw [Tryd.params7] at ht
        have hm : t ∈ [22, 9] := by simpa using Array.mem_of_getElem? ht
        have hall : ([22, 9].all fun u => !Tryd.prog.wantsStandIn u) = true := by kernel_rfl
        exact (show Tryd.prog.wantsStandIn t = false by simpa using List.all_eq_true.1 hall t hm)⟩)
    (by kernel_rfl)
#print axioms proved
end Go.Proofs.YtpamdpfgcbadhaaDoor.LawTBk
