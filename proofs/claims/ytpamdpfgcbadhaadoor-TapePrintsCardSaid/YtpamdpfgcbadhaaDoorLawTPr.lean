/-
  TapePrints: any cells as bytes, the cells that any bytes are, and the names of a word, are what the document's are: for every list of cells and every text the law answers true and changes nothing that was there. Condition: the listed tables hold what the program lays there.
-/
import Derived.Test.YtpamdpfgcbadhaaDoorRows
import Derived.Test.YtpamdpfgcbadhaaDoorTpW
import Derived.Test.YtpamdpfgcbadhaaDoorTpO
import Derived.Test.YtpamdpfgcbadhaaDoorTpK
namespace Go.Proofs.YtpamdpfgcbadhaaDoor.LawTPr
open Go.ChangeShapes Go.WideShapes Go.ChangeAt Go.RowKit Mur Prt Tap Cel RTap
open Go.ChangeMaps (open_string shut_string)
set_option maxRecDepth 100000
set_option linter.unusedSimpArgs false

theorem read_len (s : List UInt8) : (outL (read s)).length ≤ 1000 := by
  cases h : read s with
  | error e => exact Nat.zero_le _
  | ok l =>
    have hp := read_print s l h
    unfold Tap.print at hp
    split at hp
    · cases hp
    · show l.length ≤ 1000
      omega

set_option maxHeartbeats 3200000 in
theorem walk (l : List K) (n : Nat) (a : Option Addr) (c : Nat) (s : ByteArray) (w : World) (hr : CelR w a l) (hn : l.length = n) (hnm : n ≤ 9223372036854775807) (_ : n ≤ c) (_ : ∀ c ∈ l, c.1.size ≤ 9223372036854775807 ∧ c.2.size ≤ 9223372036854775807) (hsm : s.size ≤ 9223372036854775807) (hp : Tape.Pow w) :
    Calls Tryd.prog 6 #[.slice a n c, .string s] w fun e w' => e = .returned (.bool true) ∧ Below w.heap.size w w' := by
  have RA := Lib.hid (fun u (hu : Below w.heap.size w u) => TpW.awake_any u (hp.below hu))
  by_cases hg : 50 < n
  · have d1 : decide (50 < (n : Int)) = true := decide_eq_true (by omega)
    have d2 : decide (50 < n) = true := decide_eq_true hg
    clear hr hn hg
    go_enter Tryd.func6, Tryd.ntmps6
    go_wp2_with ((with_reducible (refine (RA.out _ (Below.refl _ _)).mono ?_; rintro e w1 ⟨rfl, hb1⟩)))
    go_ret
    exact ⟨rfl, hb1⟩
  have d1 : decide (50 < (n : Int)) = false := decide_eq_false (by omega)
  have d2 : decide (50 < n) = false := decide_eq_false hg
  by_cases hg2 : 3000 < s.size
  · have d3 : decide (3000 < (s.size : Int)) = true := decide_eq_true (by omega)
    have d4 : decide (3000 < s.size) = true := decide_eq_true hg2
    clear hr hn hg hg2
    go_enter Tryd.func6, Tryd.ntmps6
    go_wp2_with ((with_reducible (refine (RA.out _ (Below.refl _ _)).mono ?_; rintro e w1 ⟨rfl, hb1⟩)))
    go_ret
    exact ⟨rfl, hb1⟩
  have d3 : decide (3000 < (s.size : Int)) = false := decide_eq_false (by omega)
  have d4 : decide (3000 < s.size) = false := decide_eq_false hg2
  obtain ⟨X1, hX1⟩ : ∃ X, X = outX (Tap.print (toC l)) := ⟨_, rfl⟩
  obtain ⟨E1, hE1⟩ : ∃ X, X = outE (Tap.print (toC l)) := ⟨_, rfl⟩
  obtain ⟨L2, hL2⟩ : ∃ X, X = outL (read s.data.toList) := ⟨_, rfl⟩
  obtain ⟨E2, hE2⟩ : ∃ X, X = outE (read s.data.toList) := ⟨_, rfl⟩
  obtain ⟨N2, hN2⟩ : ∃ N, L2.length = N := ⟨_, rfl⟩
  obtain ⟨L3, hL3⟩ : ∃ X, X = names (toC l) (⟨#[97]⟩ : ByteArray).data.toList := ⟨_, rfl⟩
  obtain ⟨N3, hN3⟩ : ∃ N, L3.length = N := ⟨_, rfl⟩
  have hN2b : N2 ≤ 1000 := by rw [← hN2, hL2]; exact read_len _
  have hN3b : N3 ≤ 1000 := by
    rw [← hN3, hL3, names]
    have h1 := List.length_filter_le (begins (⟨#[97]⟩ : ByteArray).data.toList) ((toC l).map (·.1))
    rw [List.length_map, toC_length] at h1
    omega
  have R1 := Lib.hid (fun u (hu : Below w.heap.size w u) => Tape.print_any l n a c X1 E1 u hX1 hE1 (hr.below hu) hn hnm)
  have R2 := Lib.hid (fun u (hu : Below w.heap.size w u) => RTap.print_any l n a c X1 E1 u hX1 hE1 (hr.below hu) hn hnm)
  have R3 := Lib.hid (fun u => Tape.read_any s L2 N2 E2 u hL2 hE2 hN2 (by omega))
  have R4 := Lib.hid (fun u => RTap.read_any s L2 N2 E2 u hL2 hE2 hN2 (by omega))
  have R5 := Lib.hid (fun u (hu : Below w.heap.size w u) => Tape.names_any l n a c ⟨#[97]⟩ L3 N3 u hL3 hN3 (hr.below hu) hn (by omega) (by decide))
  have R6 := Lib.hid (fun u (hu : Below w.heap.size w u) => RTap.names_any l n a c ⟨#[97]⟩ L3 N3 u hL3 hN3 (hr.below hu) hn (by omega) (by decide))
  have R7 := Lib.hid (fun u a3 a4 c3 c4 (h3 : CelR u a3 (ofC L2)) (h4 : CelR u a4 (ofC L2)) => TpH.cells_any (ofC L2) N2 N2 a3 a4 c3 c4 u (by rw [ofC_length]; exact hN2.symm) (by rw [ofC_length]; exact hN2.symm) (by omega) h3 h4)
  have HN3 := Lib.hid (show (ofT L3).length = N3 from by rw [ofT, List.length_map]; exact hN3)
  have HW0 := Lib.hid (Below.refl w.heap.size w)
  clear hr hn hX1 hE1 hL2 hE2 hN2 hL3 hN3 hN2b hg hg2
  have q0 := TpH.same X1
  have q1 : (E1 == E1) = true := by simp
  have q2 : (E2 == E2) = true := by simp
  have q3 : ((N3 : Int) != (N3 : Int)) = false := by simp
  go_enter Tryd.func6, Tryd.ntmps6
  go_upto_region 10 with ((first
    | (with_reducible (refine (R1.out _ HW0.out).mono ?_; rintro e w1 ⟨rfl, hb⟩; have HW1 := Lib.hid (HW0.out.trans (hb.mono HW0.out.size)); clear hb HW0))
    | (with_reducible (refine (R2.out _ HW1.out).mono ?_; rintro e w2 ⟨rfl, hb⟩; have HW2 := Lib.hid (HW1.out.trans (hb.mono HW1.out.size)); clear hb HW1))
    | (with_reducible (refine (R3.out _).mono ?_; rintro e w3 ⟨a3, c3, rfl, hc, -, hb⟩; have HC3 := Lib.hid hc; have HW3 := Lib.hid (HW2.out.trans (hb.mono HW2.out.size)); clear hb hc HW2))
    | (with_reducible (refine (R4.out _).mono ?_; rintro e w4 ⟨a4, c4, rfl, hc, -, hb⟩; have HC4 := Lib.hid hc; replace HC3 := Lib.hid (HC3.out.below hb); have HW4 := Lib.hid (HW3.out.trans (hb.mono HW3.out.size)); clear hb hc HW3))
    | (with_reducible (refine (R5.out _ HW4.out).mono ?_; rintro e w5 ⟨a5, c5, rfl, hc, -, hb⟩; have HS5 := Lib.hid hc; replace HC3 := Lib.hid (HC3.out.below hb); replace HC4 := Lib.hid (HC4.out.below hb); have HW5 := Lib.hid (HW4.out.trans (hb.mono HW4.out.size)); clear hb hc HW4))
    | (with_reducible (refine (R6.out _ HW5.out).mono ?_; rintro e w6 ⟨a6, c6, rfl, hc, -, hb⟩; have HS6 := Lib.hid hc; replace HC3 := Lib.hid (HC3.out.below hb); replace HC4 := Lib.hid (HC4.out.below hb); replace HS5 := Lib.hid (HS5.out.below hb); have HW6 := Lib.hid (HW5.out.trans (hb.mono HW5.out.size)); clear hb hc HW5))))
  clear R1 R2 R3 R4 R5 R6 q3
  go_wp2
  go_loopw [56] (fun i wr => ∃ q k : Nat, q ≤ N3 ∧ i = .int .i64 q ∧ wr = w6.drewN k) (fun i _ => N3 - (intOf i).toNat)
  case atStart => exact ⟨0, 0, by omega, rfl, rfl⟩
  case round =>
    obtain ⟨q, k, hq, rfl, rfl⟩ := hrel
    by_cases hlt : q < N3
    · obtain ⟨g, o, rfl, hgb, hgc⟩ := HS5.out (by have := HN3.out; omega)
      obtain ⟨h, o2, rfl, hhb, hhc⟩ := HS6.out (by have := HN3.out; omega)
      have hql : q < (ofT L3).length := by have := HN3.out; omega
      obtain ⟨A, hx⟩ : ∃ x, (ofT L3)[q]? = some x := ⟨_, List.getElem?_eq_getElem hql⟩
      have c1 := hgc q A hx
      have c2 := hhc q A hx
      have hs := TpH.not_same A
      clear hql hgc hhc hx
      go_wp2
      go_quiet (fail)
      go_wp2
      go_roundw
      case rel => exact ⟨q + 1, k + nq, by omega, by go_num, rfl⟩
      case measure => simp [intOf]; omega
    · obtain rfl : q = N3 := by omega
      have hlt2 : ¬ ((q : Int) < (q : Int)) := by omega
      have HB := Lib.hid (belowN HW6.out k)
      have HC3b := Lib.hid (HC3.out.below (belowN (Below.refl _ _) k))
      have HC4b := Lib.hid (HC4.out.below (belowN (Below.refl _ _) k))
      go_wp2_with ((first
        | (with_reducible (refine (R7.out _ _ _ _ _ HC3b.out HC4b.out).mono ?_; rintro e w7 ⟨rfl, hb⟩; have HW7 := Lib.hid (HB.out.trans (hb.mono HB.out.size)); clear hb))
        | (with_reducible (refine (RA.out _ HW7.out).mono ?_; rintro e w8 ⟨rfl, hb⟩; have HW8 := Lib.hid (HW7.out.trans (hb.mono HW7.out.size)); clear hb))))
      go_ret
      exact ⟨rfl, HW8.out⟩

set_option maxHeartbeats 1600000 in
theorem lifted (os : Os) (started : os.Started) (H : Type) (enc : TypeId × Value → H) :
    ReturnsInHanded {} Tryd.checked os 6 .any (fun w args => (Rows.tapePrintsSpec.pre enc Tryd.prog Tryd.f6 [] false w args ∧ laidMetH Tryd.prog Tape.laidL w) ∧ sizedMet enc Tryd.prog Tryd.f6 (OpenSpec.ofChange Rows.tapePrintsSpec) false w args)
      (Rows.tapePrintsSpec.post enc Tryd.prog Tryd.f6 false true false false) := by
  refine returnsInHanded_of_change_and (C := Tryd.checked) (X := fun w _ => laidMetH Tryd.prog Tape.laidL w) (fun _ _ _ hh h => h.of_heap hh) Tape.own started (by kernel_rfl) Tryd.func6
    (ChangeSpec.witness_shaped (enc := enc) (C := Tryd.checked) (os := os) (X := fun w _ => laidMetH Tryd.prog Tape.laidL w) false (World.doorLaid Tryd.prog 400 os) #[.slice none 0 0, .string ByteArray.empty] 8 rfl (World.shaped_of_RefB (by kernel_rfl) (by kernel_rfl)) (by kernel_rfl) (by kernel_rfl) (by kernel_rfl) (Tape.door_met os _)) ?_
  intro W base args ds gs before hval0 hW _ hsz0 hL _
  have hval : ∀ (j : Nat) t v, Tryd.f6.params[j]? = some t → args[j]? = some v → Value.okWide Tryd.prog W .any base t v := hval0
  have hsz : (DataW.weightsEach Tryd.prog (Tryd.f6.params.toList ++ Rows.tapePrintsSpec.plain.varTypes Tryd.prog) (ds ++ gs)).all (· ≤ reachBytes) = true := hsz0
  clear hsz0
  have hW' := hW
  obtain ⟨p, q, hA0, hV, rfl, hfz, hnd⟩ := hW
  have hA : DataW.TrodAll enc Tryd.prog W 0 (fun _ => true) true Tryd.f6.params.toList args.toList ds p := hA0
  rw [Tryd.params6] at hA hval hsz
  obtain ⟨v0, vs0, d0, ds0, p0, q0, hargs, rfl, rfl, h0, r0⟩ := trodAll_cons hA
  obtain ⟨v1, vs1, d1, ds1, p1, q1, rfl, rfl, rfl, h1, r1⟩ := trodAll_cons r0
  obtain ⟨rfl, rfl, rfl⟩ := trodAll_nil r1
  obtain rfl : args = #[v0, v1] := by cases args; simp_all
  obtain ⟨rfl, rfl⟩ := trodVars_none hV
  have k0 := h0
  have lt0 : ∀ x ∈ p0, x.block < W.heap.size := by obtain ⟨m, hm⟩ := k0; exact DataW.trod_lt m _ _ _ hm
  obtain ⟨l0, n0, a0, c0, rfl, x0, y0, z0, v0, u0⟩ := TpO.open_cells (hval 0 22 v0 rfl rfl) h0
  obtain ⟨a1, rfl, rfl, rfl, w1⟩ := open_string Tryd.underlying9 (hval 1 9 v1 rfl rfl) h1
  have hcl := Tape.of_laid hL
  clear hA0 hval0
  refine (walk l0 n0 a0 c0 a1 W x0 y0 z0 v0 u0 (Nat.le_trans w1 (by unfold maxLen; omega)) hcl).mono fun e W' ⟨he, bel⟩ => ?_
  subst he
  exact ⟨_, rfl, _, _, _, [], _, [], hW', trodAll_mk1 (shut_bool Tryd.underlying4 _), (trodAll_cons_mk (Below.trod Tape.laidOut (by kernel_rfl) (of_decide_eq_true (by kernel_rfl)) k0 bel lt0) (trodAll_cons_mk (shut_string Tryd.underlying9 w1) trodAll_mk0)), rfl, bel.frame _, fun h => by cases h⟩

theorem over : Rows.TapePrintsSaid :=
  OpenClaim.holds_of_wide 6 Tryd.f6 rfl rfl rfl rfl rfl rfl rfl ⟨rfl, rfl, rfl, rfl, rfl⟩ rfl rfl rfl rfl rfl (by kernel_rfl) Tryd.func6 (by kernel_rfl)
    (of_decide_eq_true (by kernel_rfl)) (by unfold Func.isWrapper; first | (rw [if_pos (by decide +kernel)]; kernel_rfl) | (rw [if_neg (by decide +kernel)]; exact ⟨rfl, rfl⟩))
    (fun os started H enc _ => lifted os started H enc)

theorem proved : Rows.TapePrintsCardSaid :=
  Claim7.holds_tied_plain_at .later [] [.data, .data, .data] true Rows.tapePrintsCard.stood.harness false
    over (fun _ h => by cases h) (by kernel_rfl) (fun _ h => by cases h) tapePrints_row_tie rfl ⟨rfl, rfl⟩ (by kernel_rfl) rfl
    (fun f fn hf hfn => by
      obtain rfl : f = 6 := Option.some.inj ((show Tryd.prog.funcNamed "murmur/murmurlaw15.TapePrints" = some 6 by kernel_rfl).symm.trans hf) |>.symm
      obtain rfl : fn = Tryd.f6 := (Option.some.inj (Tryd.func6.symm.trans hfn)).symm
      exact ⟨by kernel_rfl, fun j t ht => by
        rw [Tryd.params6] at ht
        have hm : t ∈ [22, 9] := by simpa using Array.mem_of_getElem? ht
        have hall : ([22, 9].all fun u => !Tryd.prog.wantsStandIn u) = true := by kernel_rfl
        exact (show Tryd.prog.wantsStandIn t = false by simpa using List.all_eq_true.1 hall t hm)⟩)
    (by kernel_rfl)
#print axioms proved
end Go.Proofs.YtpamdpfgcbadhaaDoor.LawTPr
