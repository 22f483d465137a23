/-
  KeyedSays: Mac, Extract, Expand and Derive of package keyed answer as the document's own answers of layer 3 do: for every input, the law answers true and changes nothing that was there. Condition: the constant table lies as the program's text lays it (the card ties it).
-/
import Derived.Test.YtleoblflhcbcbaaDoorKedAwake
import Derived.Test.YtleoblflhcbcbaaDoorRefKedExp
import Derived.Test.YtleoblflhcbcbaaDoorConstFrame
import Derived.Test.YtleoblflhcbcbaaDoorCards
import Derived.Test.YtleoblflhcbcbaaDoorOpen
import Derived.Test.YtleoblflhcbcbaaDoorTie
import Derived.SevenTiedAt
namespace Go.Proofs.YtleoblflhcbcbaaDoor.LawKedSays
open Go.ChangeShapes Go.WideShapes Go.ChangeAt Go.ChangeMaps Go.RowKit Mur Sha Ked

theorem info_two (s : ByteArray) : (infoOf ([s, (⟨#[120]⟩ : ByteArray)].map (·.data.toList))).length = s.size + 5 := by
  have e : s.data.toList.length = s.size := rfl
  simp [infoOf, Lanes.high, e]
  omega
theorem two_cells {w : World} {b : Nat} {s : ByteArray} (h0 : w.cell? ⟨b, 0, none⟩ = some (.string s)) (h1 : w.cell? ⟨b, 1, none⟩ = some (.string ⟨#[120]⟩)) : ∀ i (h : i < [s, (⟨#[120]⟩ : ByteArray)].length), w.cell? ⟨b, 0 + i, none⟩ = some (.string [s, (⟨#[120]⟩ : ByteArray)][i]) := fun i hi => by
  match i, hi with
  | 0, _ => exact h0
  | 1, _ => exact h1
theorem two_sizes {s : ByteArray} {M : Nat} (h : s.size ≤ M) (hM : 1 ≤ M) : ∀ x ∈ [s, (⟨#[120]⟩ : ByteArray)], x.size ≤ M := fun x hx => by
  rcases List.mem_cons.1 hx with rfl | hx
  · exact h
  · rcases List.mem_cons.1 hx with rfl | hx
    · exact hM
    · cases hx
theorem same (x : ByteArray) : (x.toList == x.toList) = true := by simp

set_option maxHeartbeats 1600000 in
theorem law_small (key s : ByteArray) (n : Int) (w : World) (hg : key.size + s.size ≤ 2000) (hn : n ≤ 600) (hc : Consts w) :
    Calls Tryd.prog 3 #[.string key, .string s, .int .i64 n] w fun e w' => e = .returned (.bool true) ∧ Below w.heap.size w w' := by
  have hd1 : decide (2000 < (key.size : Int) + (s.size : Int)) = false := by simp; omega
  have hd2 : decide (600 < n) = false := by simp; omega
  obtain ⟨M, hM⟩ : ∃ M : ByteArray, M = tx (mac key.data.toList s.data.toList) := ⟨_, rfl⟩
  obtain ⟨X, hX⟩ : ∃ M : ByteArray, M = tx (expand key.data.toList s.data.toList (many n)) := ⟨_, rfl⟩
  obtain ⟨D, hD⟩ : ∃ M : ByteArray, M = tx (derive key.data.toList (many n) ([s, (⟨#[120]⟩ : ByteArray)].map (·.data.toList))) := ⟨_, rfl⟩
  have h1 := Lib.hid (fun u hu => mac_any key s M u (by omega) (by omega) hM hu)
  have h2 := Lib.hid (fun u => RefKed.mac_any key s M u (by omega) (by omega) hM)
  have h3 := Lib.hid (fun u hu => extract_any key s M u (by omega) (by omega) hM hu)
  have h4 := Lib.hid (fun u => RefKed.extract_any key s M u (by omega) (by omega) hM)
  have h5 := Lib.hid (fun u hu => expand_any key s X n u (by omega) (by omega) hX hu)
  have h6 := Lib.hid (fun u => RefKed.expand_any key s X n u (by omega) (by omega) hX)
  have h7 := Lib.hid (show ∀ (u : World) (b : Nat), b < u.heap.size → u.cell? ⟨b, 0, none⟩ = some (.string s) → u.cell? ⟨b, 1, none⟩ = some (.string ⟨#[120]⟩) → Consts u → Calls Tryd.prog 14 #[.string key, .int .i64 n, .slice (some ⟨b, 0, none⟩) 2 2] u fun e w' => e = .returned (.string D) ∧ Below u.heap.size u w' from
    fun u b hb c0 c1 hu => derive_any key n [s, ⟨#[120]⟩] D (some ⟨b, 0, none⟩) b 0 2 u (by omega) (fun _ => ⟨rfl, hb⟩) (two_cells c0 c1) (by simp) (by rw [info_two]; omega) (two_sizes (by omega) (by omega)) hD hu)
  have h8 := Lib.hid (show ∀ (u : World) (b : Nat), b < u.heap.size → u.cell? ⟨b, 0, none⟩ = some (.string s) → u.cell? ⟨b, 1, none⟩ = some (.string ⟨#[120]⟩) → Calls Tryd.prog 15 #[.string key, .int .i64 n, .slice (some ⟨b, 0, none⟩) 2 2] u fun e w' => e = .returned (.string D) ∧ Below u.heap.size u w' from
    fun u b hb c0 c1 => RefKed.derive_any key n [s, ⟨#[120]⟩] D (some ⟨b, 0, none⟩) b 0 2 u (by omega) (fun _ => ⟨rfl, hb⟩) (two_cells c0 c1) (by simp) (by rw [info_two]; omega) (two_sizes (by omega) (by omega)) hD)
  have t1 := same M
  have t2 := same X
  have t3 := same D
  have HC := Lib.hid hc
  clear hc hM hX hD
  go_enter Tryd.func3, Tryd.ntmps3
  go_wp2_with fail
  refine (h1.out _ HC.out).mono ?_
  rintro e w1 ⟨rfl, hb1⟩
  have HB1 := Lib.hid hb1
  clear hb1
  go_wp2_with fail
  refine (h2.out _).mono ?_
  rintro e w2 ⟨rfl, hb2⟩
  have HB2 := Lib.hid (HB1.out.trans (hb2.mono HB1.out.size))
  clear hb2 HB1
  go_wp2_with fail
  refine (h3.out _ (HC.out.below HC.out.1 HB2.out)).mono ?_
  rintro e w3 ⟨rfl, hb3⟩
  have HB3 := Lib.hid (HB2.out.trans (hb3.mono HB2.out.size))
  clear hb3 HB2
  go_wp2_with fail
  refine (h4.out _).mono ?_
  rintro e w4 ⟨rfl, hb4⟩
  have HB4 := Lib.hid (HB3.out.trans (hb4.mono HB3.out.size))
  clear hb4 HB3
  go_wp2_with fail
  refine (h5.out _ (HC.out.below HC.out.1 HB4.out)).mono ?_
  rintro e w5 ⟨rfl, hb5⟩
  have HB5 := Lib.hid (HB4.out.trans (hb5.mono HB4.out.size))
  clear hb5 HB4
  go_wp2_with fail
  refine (h6.out _).mono ?_
  rintro e w6 ⟨rfl, hb6⟩
  have HB6 := Lib.hid (HB5.out.trans (hb6.mono HB5.out.size))
  clear hb6 HB5
  go_wp2_with fail
  refine (h7.out _ w6.heap.size (by simp) (by simp [World.cell?_alloc_new]) (by simp [World.cell?_alloc_new]) (HC.out.below HC.out.1 (HB6.out.alloc HB6.out.size _))).mono ?_
  rintro e w7 ⟨rfl, hb7⟩
  have HB7 := Lib.hid ((HB6.out.alloc HB6.out.size _).trans (hb7.mono (HB6.out.alloc HB6.out.size _).size))
  clear hb7 HB6
  go_wp2_with fail
  refine (h8.out _ w7.heap.size (by simp) (by simp [World.cell?_alloc_new]) (by simp [World.cell?_alloc_new])).mono ?_
  rintro e w8 ⟨rfl, hb8⟩
  have HB8 := Lib.hid ((HB7.out.alloc HB7.out.size _).trans (hb8.mono (HB7.out.alloc HB7.out.size _).size))
  clear hb8 HB7
  go_wp2_with fail
  refine (awake_any _ (HC.out.below HC.out.1 HB8.out)).mono ?_
  rintro e w9 ⟨rfl, hb9⟩
  have HB9 := Lib.hid (HB8.out.trans (hb9.mono HB8.out.size))
  clear hb9 HB8
  go_wp2
  go_ret
  exact ⟨rfl, HB9.out⟩

set_option maxHeartbeats 800000 in
theorem law_great (key s : ByteArray) (n : Int) (w : World) (hg : ¬ (key.size + s.size ≤ 2000 ∧ n ≤ 600)) (hk : key.size ≤ 140737488351232) (hs : s.size ≤ 140737488351232) (hc : Consts w) :
    Calls Tryd.prog 3 #[.string key, .string s, .int .i64 n] w fun e w' => e = .returned (.bool true) ∧ Below w.heap.size w w' := by
  have HC := Lib.hid hc
  clear hc
  by_cases h1 : key.size + s.size ≤ 2000
  · have hd1 : decide (2000 < (key.size : Int) + (s.size : Int)) = false := by simp; omega
    have hd2 : decide (600 < n) = true := by simp; omega
    clear hg
    go_enter Tryd.func3, Tryd.ntmps3
    go_wp2_with fail
    refine (awake_any _ HC.out).mono ?_
    rintro e w1 ⟨rfl, hb1⟩
    go_wp2
    go_ret
    exact ⟨rfl, hb1⟩
  · have hd1 : decide (2000 < (key.size : Int) + (s.size : Int)) = true := by simp; omega
    clear hg
    go_enter Tryd.func3, Tryd.ntmps3
    go_wp2_with fail
    refine (awake_any _ HC.out).mono ?_
    rintro e w1 ⟨rfl, hb1⟩
    go_wp2
    go_ret
    exact ⟨rfl, hb1⟩
theorem walk (key s : ByteArray) (n : Int) (w : World) (hk : key.size ≤ 140737488351232) (hs : s.size ≤ 140737488351232) (hc : Consts w) :
    Calls Tryd.prog 3 #[.string key, .string s, .int .i64 n] w fun e w' => e = .returned (.bool true) ∧ Below w.heap.size w w' := by
  by_cases hg : key.size + s.size ≤ 2000 ∧ n ≤ 600
  · exact law_small key s n w hg.1 hg.2 hc
  · exact law_great key s n w hg hk hs hc
theorem laidOut : laidOutB Tryd.prog = true := by kernel_rfl

set_option maxRecDepth 100000 in
theorem lifted (os : Os) (started : os.Started) (H : Type) (enc : TypeId × Value → H) :
    ReturnsInHanded {} Tryd.checked os 3 .any (fun w args => (Rows.keyedSaysSpec.pre enc Tryd.prog Tryd.f3 [] false w args ∧ laidMetH Tryd.prog laidL w) ∧ sizedMet enc Tryd.prog Tryd.f3 (OpenSpec.ofChange Rows.keyedSaysSpec) false w args)
      (Rows.keyedSaysSpec.post enc Tryd.prog Tryd.f3 false true false false) := by
  refine returnsInHanded_of_change_and (C := Tryd.checked) (X := fun w _ => laidMetH Tryd.prog laidL w) (fun _ _ _ hh h => h.of_heap hh) own started (by kernel_rfl) Tryd.func3
    (ChangeSpec.witness_shaped (enc := enc) (C := Tryd.checked) (os := os) (X := fun w _ => laidMetH Tryd.prog laidL w) false (World.doorLaid Tryd.prog 400 os) #[.string ByteArray.empty, .string ByteArray.empty, .int .i64 0] 8 rfl (World.shaped_of_RefB (by kernel_rfl) (by kernel_rfl)) (by kernel_rfl) (by kernel_rfl) (by kernel_rfl) (door_met os _)) ?_
  intro W base args ds gs before hval0 hW _ hsz0 hL _
  have hval : ∀ (j : Nat) t v, Tryd.f3.params[j]? = some t → args[j]? = some v → Value.okWide Tryd.prog W .any base t v := hval0
  have hsz : (DataW.weightsEach Tryd.prog (Tryd.f3.params.toList ++ Rows.keyedSaysSpec.plain.varTypes Tryd.prog) (ds ++ gs)).all (· ≤ reachBytes) = true := hsz0
  clear hsz0
  have hW' := hW
  obtain ⟨p, q, hA0, hV, rfl, hfz, hnd⟩ := hW
  have hA : DataW.TrodAll enc Tryd.prog W 0 (fun _ => true) true Tryd.f3.params.toList args.toList ds p := hA0
  rw [Tryd.params3] at hA hval hsz
  obtain ⟨v0, vs0, d0, ds0, p0, q0, hargs, rfl, rfl, h0, r0⟩ := trodAll_cons hA
  obtain ⟨v1, vs1, d1, ds1, p1, q1, rfl, rfl, rfl, h1, r1⟩ := trodAll_cons r0
  obtain ⟨v2, vs2, d2, ds2, p2, q2, rfl, rfl, rfl, h2, r2⟩ := trodAll_cons r1
  obtain ⟨rfl, rfl, rfl⟩ := trodAll_nil r2
  obtain rfl : args = #[v0, v1, v2] := by cases args; simp_all
  obtain ⟨rfl, rfl⟩ := trodVars_none hV
  obtain ⟨a0, rfl, rfl, rfl, w0⟩ := open_string Tryd.underlying9 (hval 0 9 v0 rfl rfl) h0
  obtain ⟨a1, rfl, rfl, rfl, w1⟩ := open_string Tryd.underlying9 (hval 1 9 v1 rfl rfl) h1
  obtain ⟨a2, rfl, rfl, rfl, w2⟩ := open_int Tryd.underlying3 (hval 2 3 v2 rfl rfl) h2
  have z0 := sized_string hsz (j := 0) (t := 9) (bytes := a0.data.toList) rfl rfl
  have z1 := sized_string hsz (j := 1) (t := 9) (bytes := a1.data.toList) rfl rfl
  have hcl := of_laid hL
  clear hA0 hval0
  refine (walk a0 a1 a2 W z0 z1 hcl).mono fun e W' ⟨he, bel⟩ => ?_
  subst he
  exact ⟨_, rfl, _, _, _, [], _, [], hW', trodAll_mk1 (shut_bool Tryd.underlying4 _), (trodAll_cons_mk (shut_string Tryd.underlying9 w0) (trodAll_cons_mk (shut_string Tryd.underlying9 w1) (trodAll_cons_mk (shut_int Tryd.underlying3 w2) trodAll_mk0))), rfl, bel.frame _, fun h => by cases h⟩

theorem over : Rows.KeyedSaysSaid :=
  OpenClaim.holds_of_wide 3 Tryd.f3 rfl rfl rfl rfl rfl rfl rfl ⟨rfl, rfl, rfl, rfl, rfl⟩ rfl rfl rfl rfl rfl (by kernel_rfl) Tryd.func3 (by kernel_rfl)
    (of_decide_eq_true (by kernel_rfl)) (by unfold Func.isWrapper; first | (rw [if_pos (by decide +kernel)]; kernel_rfl) | (rw [if_neg (by decide +kernel)]; exact ⟨rfl, rfl⟩))
    (fun os started H enc _ => lifted os started H enc)

theorem proved : Rows.KeyedSaysCardSaid :=
  Claim7.holds_tied_plain_at .later [] [.data] true Rows.keyedSaysCard.stood.harness false
    over (fun _ h => by cases h) (by kernel_rfl) (fun _ h => by cases h) keyedSays_row_tie rfl ⟨rfl, rfl⟩ (by kernel_rfl) rfl
    (fun f fn hf hfn => by
      obtain rfl : f = 3 := Option.some.inj ((show Tryd.prog.funcNamed "murmur/murmurlaw03.KeyedSays" = some 3 by kernel_rfl).symm.trans hf) |>.symm
      obtain rfl : fn = Tryd.f3 := (Option.some.inj (Tryd.func3.symm.trans hfn)).symm
      exact ⟨by kernel_rfl, fun j t ht => by
        rw [Tryd.params3] at ht
        have hm : t ∈ [9, 9, 3] := by simpa using Array.mem_of_getElem? ht
        have hall : ([9, 9, 3].all fun u => !Tryd.prog.wantsStandIn u) = true := by kernel_rfl
        exact (show Tryd.prog.wantsStandIn t = false by simpa using List.all_eq_true.1 hall t hm)⟩)
    (by kernel_rfl)
#print axioms proved
end Go.Proofs.YtleoblflhcbcbaaDoor.LawKedSays
