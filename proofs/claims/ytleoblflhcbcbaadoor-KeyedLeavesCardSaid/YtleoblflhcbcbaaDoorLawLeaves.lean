/-
  KeyedLeaves: the tree of a key has each leaf in its place; a longer chain begins with a shorter one, as long as was asked: for every input, the law answers true and changes nothing that was there. Condition: the constant table lies as the program's text lays it (the card ties it).
-/
import Derived.Test.YtleoblflhcbcbaaDoorKedAwake
import Derived.Test.YtleoblflhcbcbaaDoorKedChain
import Derived.Test.YtleoblflhcbcbaaDoorKedLeaf
import Derived.Test.YtleoblflhcbcbaaDoorKedTexts
import Derived.Test.YtleoblflhcbcbaaDoorConstFrame
import Derived.Test.YtleoblflhcbcbaaDoorCards
import Derived.Test.YtleoblflhcbcbaaDoorOpen
import Derived.Test.YtleoblflhcbcbaaDoorTie
import Derived.SevenTiedAt
namespace Go.Proofs.YtleoblflhcbcbaaDoor.LawLeaves
open Go.ChangeShapes Go.WideShapes Go.ChangeAt Go.ChangeMaps Go.RowKit Mur Sha Ked

theorem rest_of (x : Int) (q : Nat) (h1 : 0 < q) (h2 : q ≤ 1000) : ∃ m : Nat, m < q ∧ wrap64 ((IntKind.u64.wrap x).tmod (q : Int)) = (m : Int) := by
  rw [IntKind.wrap_u64, Int.tmod_eq_emod_of_nonneg (by omega)]
  have h3 : 0 ≤ x % 18446744073709551616 % (q : Int) := Int.emod_nonneg _ (by omega)
  have h4 : x % 18446744073709551616 % (q : Int) < q := Int.emod_lt_of_pos _ (by omega)
  refine ⟨(x % 18446744073709551616 % (q : Int)).toNat, by omega, ?_⟩
  rw [IntWalk.wrap64_in _ (by omega)]
  omega
theorem manyKeys_nat (n : Nat) (h : n ≤ 200) : manyKeys (n : Int) = n := by unfold manyKeys; omega

set_option maxHeartbeats 1600000 in
theorem law_small (key : ByteArray) (n0 n1 n2 : Int) (w : World) (hg : key.size ≤ 500) (hc : Consts w) :
    Calls Tryd.prog 6 #[.string key, .agg #[.int .i64 n0, .int .i64 n1, .int .i64 n2]] w
      fun e w' => e = .returned (.bool true) ∧ Below w.heap.size w w' := by
  have hd1 : decide (500 < (key.size : Int)) = false := by simp; omega
  obtain ⟨h, hh, hh2⟩ := rest_of n0 5 (by omega) (by omega)
  obtain ⟨n, hn, hn2⟩ := rest_of n1 20 (by omega) (by omega)
  obtain ⟨m, hm, hm2⟩ := rest_of n2 20 (by omega) (by omega)
  have hkey : key.size ≤ 70368744177664 := by omega
  obtain ⟨p, hp⟩ : ∃ p, p = 2 ^ h := ⟨_, rfl⟩
  have hp16 : p ≤ 16 := by
    rw [hp]
    exact Nat.le_trans (Nat.pow_le_pow_right (by omega) (show h ≤ 4 by omega)) (by decide)
  have hp1 : 0 < p := by rw [hp]; exact Nat.two_pow_pos h
  have hpi : (2 : Int) ^ h = (p : Int) := by rw [hp, Int.natCast_pow]; rfl
  have hcw0 : Consts (w.alloc (.cells #[.int .i64 n0, .int .i64 n1, .int .i64 n2] 31)) := hc.below hc.1 ((Below.refl _ _).alloc (Nat.le_refl _) _)
  have HC := Lib.hid hcw0
  have HH := Lib.hid hh2
  have HN := Lib.hid hn2
  have HM := Lib.hid hm2
  have HP := Lib.hid hp
  have HPI := Lib.hid hpi
  have hlo : (0 : Int) ≤ (2 : Int) ^ h := by rw [hpi]; omega
  have hhi : (2 : Int) ^ h ≤ 16 := by rw [hpi]; omega
  have HT := Lib.hid (fun u hu => tree_any key h u hkey (by omega) hu)
  have hch1 : ∀ u, Consts u → Calls Tryd.prog 20 #[.string key, .int .i64 (n : Int)] u fun e w' => e = .returned (.slice (some ⟨u.heap.size, 0, none⟩) n n) ∧ Whole w' u.heap.size 9 (Strs.strsV ((chain key.data.toList n).map tx)) ∧ Below u.heap.size u w' := fun u hu => by
    have := chain_any key n u hkey hu
    rw [manyKeys_nat n (by omega)] at this
    exact this
  have hch2 : ∀ u, Consts u → Calls Tryd.prog 20 #[.string key, .int .i64 ((n : Int) + (m : Int))] u fun e w' => e = .returned (.slice (some ⟨u.heap.size, 0, none⟩) (n + m) (n + m)) ∧ Whole w' u.heap.size 9 (Strs.strsV ((chain key.data.toList (n + m)).map tx)) ∧ Below u.heap.size u w' := fun u hu => by
    have := chain_any key ((n + m : Nat) : Int) u hkey hu
    rw [manyKeys_nat (n + m) (by omega), Int.natCast_add] at this
    exact this
  have HCH1 := Lib.hid hch1
  have HCH2 := Lib.hid hch2
  have hlv0 : ∀ u, Calls Tryd.prog 22 #[.string key, .int .i64 (p : Int), .int .i64 (h : Int)] u fun e w' => e = .returned (.string ⟨#[]⟩) ∧ Below u.heap.size u w' := fun u =>
    leaf_none key p h u (.inr (.inr (.inr (by rw [Int.toNat_natCast, hpi]; exact Int.le_refl _))))
  have HLV0 := Lib.hid hlv0
  clear hc hcw0 hh2 hn2 hm2 hp hpi hch1 hch2 hlv0
  go_enter Tryd.func6, Tryd.ntmps6
  have hq := HH.out
  rw [show ((5 : Nat) : Int) = 5 from rfl] at hq
  go_wp2_with fail
  rw [hq]
  clear hq
  have hbel0 : Below w.heap.size w (w.alloc (.cells #[.int .i64 n0, .int .i64 n1, .int .i64 n2] 31)) := (Below.refl _ _).alloc (Nat.le_refl _) _
  have hbox : (w.alloc (.cells #[.int .i64 n0, .int .i64 n1, .int .i64 n2] 31)).cell? ⟨w.heap.size, 1, none⟩ = some (.int .i64 n1) ∧ (w.alloc (.cells #[.int .i64 n0, .int .i64 n1, .int .i64 n2] 31)).cell? ⟨w.heap.size, 2, none⟩ = some (.int .i64 n2) := by
    constructor <;> simp [World.cell?_alloc_new]
  have hnb : w.heap.size < (w.alloc (.cells #[.int .i64 n0, .int .i64 n1, .int .i64 n2] 31)).heap.size := by simp
  have HBEL0 := Lib.hid hbel0
  have HBOX := Lib.hid hbox
  have HNB := Lib.hid hnb
  clear hbel0 hbox hnb
  obtain ⟨nb, hnbe⟩ : ∃ nb, nb = w.heap.size := ⟨_, rfl⟩
  rw [← hnbe] at HBOX HNB ⊢
  generalize w.alloc (.cells #[.int .i64 n0, .int .i64 n1, .int .i64 n2] 31) = w0 at *
  clear hnbe
  refine (HT.out _ HC.out).mono ?_
  rintro e w1 ⟨g, c, rfl, hown1, hb1⟩
  rw [← HP.out] at hown1 ⊢
  have hgg : w0.heap.size ≤ g := (hown1.lt g rfl).1
  have HOWN1 := Lib.hid hown1
  have HB1 := Lib.hid hb1
  clear hown1 hb1 HT
  have hd2 : ((p : Int) != (2 : Int) ^ h) = false := by rw [HPI.out]; simp
  go_wp2_with fail
  clear hd2 hlo hhi
  go_loopw [33] (fun i wr => ∃ q : Nat, q ≤ p ∧ i = .int .i64 q ∧ wr.ownsRow w0.heap.size 9 1 (.slice (some ⟨g, 0, none⟩) p c) p (Strs.strsV ((tree key.data.toList h).map tx)) ∧ Below w0.heap.size w0 wr) (fun i _ => p - (intOf i).toNat)
  case atStart => exact ⟨0, by omega, rfl, HOWN1.out, HB1.out⟩
  case round =>
    clear HOWN1 HB1
    obtain ⟨q, hq, rfl, hown, hbel⟩ := hrel
    have HOWN := Lib.hid hown
    have HW := Lib.hid hbel
    clear hown hbel
    by_cases hlt : q < p
    · obtain ⟨X, hX⟩ : ∃ X, X = tx (leaf key.data.toList q h) := ⟨_, rfl⟩
      have hlf := Lib.hid (fun u hu => leaf_any key X q h u hkey (by omega) (by rw [← HP.out]; exact hlt) hX hu)
      have hcc : wr.cell? ⟨g, q, none⟩ = some (.string X) := Strs.own_cell HOWN.out q _ (Strs.strsV_at (by rw [List.getElem?_map, tree_leaf _ _ _ (by rw [← HP.out]; exact hlt), hX]; rfl))
      have hs := not_same X
      clear hX
      go_wp2_with fail
      refine (hlf.out _ (HC.out.below HC.out.1 HW.out)).mono ?_
      rintro e w2 ⟨rfl, hb2⟩
      have HOWN2 := Lib.hid (Strs.own_below HOWN.out hb2)
      have HW2 := Lib.hid (HW.out.trans (hb2.mono HW.out.size))
      clear hb2 HOWN HW hcc
      go_wp2
      go_roundw
      case rel => exact ⟨q + 1, by omega, by go_num, HOWN2.out, HW2.out⟩
      case measure => simp [intOf]; omega
    · obtain rfl : q = p := by omega
      have hc1 : wr.cell? ⟨nb, 1, none⟩ = some (.int .i64 n1) := (HW.out.cell (p := ⟨nb, 1, none⟩) HNB.out).trans HBOX.out.1
      have hc2 : wr.cell? ⟨nb, 2, none⟩ = some (.int .i64 n2) := (HW.out.cell (p := ⟨nb, 2, none⟩) HNB.out).trans HBOX.out.2
      clear HOWN
      go_upto_region 13 with (fail)
      go_quiet (fail)
      clear hc1 hc2
      have hq1 := HN.out
      have hq2 := HM.out
      rw [show ((20 : Nat) : Int) = 20 from rfl] at hq1 hq2
      have HWD := Lib.hid (belowN HW.out nq)
      go_wp2_with fail
      rw [hq1, hq2]
      clear hq1 hq2 HW
      generalize wr.drewN nq = u0 at *
      refine (HCH1.out _ (HC.out.below HC.out.1 HWD.out)).mono ?_
      rintro e w2 ⟨rfl, hA2, hb2⟩
      have HA2 := Lib.hid hA2
      have HW2 := Lib.hid (HWD.out.trans (hb2.mono HWD.out.size))
      clear hA2 hb2 HWD HCH1
      generalize u0.heap.size = ga at *
      go_wp2_with fail
      refine (HCH2.out _ (HC.out.below HC.out.1 HW2.out)).mono ?_
      rintro e w3 ⟨rfl, hB3, hb3⟩
      have HB3 := Lib.hid hB3
      have HA3 := Lib.hid (HA2.out.below HA2.out.lt hb3)
      have HW3 := Lib.hid (HW2.out.trans (hb3.mono HW2.out.size))
      clear hB3 hb3 HW2 HA2 HCH2
      generalize w2.heap.size = gb at *
      have t1 : ((n : Int) == (n : Int)) = true := by simp
      have t2 : ((n : Int) + (m : Int) == (n : Int) + (m : Int)) = true := by simp
      have t3 : (n : Int) ≤ (n : Int) + (m : Int) := by omega
      have htx : ∀ c d, Calls Tryd.prog 19 #[.slice (some ⟨ga, 0, none⟩) n c, .slice (some ⟨gb, 0, none⟩) n d] w3 fun e w' => e = .returned (.bool true) ∧ Below w3.heap.size w3 w' := fun c d =>
        texts_below ((chain key.data.toList n).map tx) n (some ⟨ga, 0, none⟩) (some ⟨gb, 0, none⟩) ga gb c d w3 (by simp [chain_length]) (by omega) (fun _ => rfl) (fun _ => rfl)
          (fun i x hx => HA3.out.row.cell (Strs.strsV_at hx))
          (fun i x hx => HB3.out.row.cell (Strs.strsV_at (by
            rw [← chain_take _ n m, List.map_take] at hx
            rw [List.getElem?_take] at hx
            split at hx
            · exact hx
            · cases hx)))
      have HTX := Lib.hid htx
      clear htx
      go_wp2_with fail
      refine (HTX.out _ _).mono ?_
      rintro e w4 ⟨rfl, hb4⟩
      have HW4 := Lib.hid (HW3.out.trans (hb4.mono HW3.out.size))
      clear hb4 HA3 HB3 HW3 HTX
      go_wp2_with fail
      refine (HLV0.out _).mono ?_
      rintro e w5 ⟨rfl, hb5⟩
      have HW5 := Lib.hid (HW4.out.trans (hb5.mono HW4.out.size))
      clear hb5 HW4
      go_wp2_with fail
      refine (awake_any _ (HC.out.below HC.out.1 HW5.out)).mono ?_
      rintro e w6 ⟨rfl, hb6⟩
      have HW6 := Lib.hid (HW5.out.trans (hb6.mono HW5.out.size))
      clear hb6 HW5
      go_wp2
      go_ret
      exact ⟨rfl, HBEL0.out.trans (HW6.out.mono HBEL0.out.size)⟩

set_option maxHeartbeats 800000 in
theorem law_great (key : ByteArray) (n0 n1 n2 : Int) (w : World) (hg : ¬ key.size ≤ 500) (hk : key.size ≤ 140737488351232) (hc : Consts w) :
    Calls Tryd.prog 6 #[.string key, .agg #[.int .i64 n0, .int .i64 n1, .int .i64 n2]] w
      fun e w' => e = .returned (.bool true) ∧ Below w.heap.size w w' := by
  have hd1 : decide (500 < (key.size : Int)) = true := by simp; omega
  have HC := Lib.hid hc
  clear hc
  go_enter Tryd.func6, Tryd.ntmps6
  go_wp2_with fail
  refine (awake_any _ (HC.out.below HC.out.1 ((Below.refl _ _).alloc (Nat.le_refl _) _))).mono ?_
  rintro e w1 ⟨rfl, hb1⟩
  go_wp2
  go_ret
  exact ⟨rfl, ((Below.refl _ _).alloc (Nat.le_refl _) _).trans (hb1.mono (by simp <;> omega))⟩
theorem walk (key : ByteArray) (n0 n1 n2 : Int) (w : World) (hk : key.size ≤ 140737488351232) (hc : Consts w) :
    Calls Tryd.prog 6 #[.string key, .agg #[.int .i64 n0, .int .i64 n1, .int .i64 n2]] w
      fun e w' => e = .returned (.bool true) ∧ Below w.heap.size w w' := by
  by_cases hg : key.size ≤ 500
  · exact law_small key n0 n1 n2 w hg hc
  · exact law_great key n0 n1 n2 w hg hk hc

theorem three_of {α : Type} (l : List α) (h : l.length = 3) : ∃ a b c, l = [a, b, c] := by
  match l, h with
  | [a, b, c], _ => exact ⟨a, b, c, rfl⟩
theorem laidOut : laidOutB Tryd.prog = true := by kernel_rfl

set_option maxRecDepth 100000 in
theorem lifted (os : Os) (started : os.Started) (H : Type) (enc : TypeId × Value → H) :
    ReturnsInHanded {} Tryd.checked os 6 .any (fun w args => (Rows.keyedLeavesSpec.pre enc Tryd.prog Tryd.f6 [] false w args ∧ laidMetH Tryd.prog laidL w) ∧ sizedMet enc Tryd.prog Tryd.f6 (OpenSpec.ofChange Rows.keyedLeavesSpec) false w args)
      (Rows.keyedLeavesSpec.post enc Tryd.prog Tryd.f6 false true false false) := by
  refine returnsInHanded_of_change_and (C := Tryd.checked) (X := fun w _ => laidMetH Tryd.prog laidL w) (fun _ _ _ hh h => h.of_heap hh) own started (by kernel_rfl) Tryd.func6
    (ChangeSpec.witness_shaped (enc := enc) (C := Tryd.checked) (os := os) (X := fun w _ => laidMetH Tryd.prog laidL w) false (World.doorLaid Tryd.prog 400 os) #[.string ByteArray.empty, .agg #[.int .i64 0, .int .i64 0, .int .i64 0]] 8 rfl (World.shaped_of_RefB (by kernel_rfl) (by kernel_rfl)) (by kernel_rfl) (by kernel_rfl) (by kernel_rfl) (door_met os _)) ?_
  intro W base args ds gs before hval0 hW _ hsz0 hL _
  have hval : ∀ (j : Nat) t v, Tryd.f6.params[j]? = some t → args[j]? = some v → Value.okWide Tryd.prog W .any base t v := hval0
  have hsz : (DataW.weightsEach Tryd.prog (Tryd.f6.params.toList ++ Rows.keyedLeavesSpec.plain.varTypes Tryd.prog) (ds ++ gs)).all (· ≤ reachBytes) = true := hsz0
  clear hsz0
  have hW' := hW
  obtain ⟨p, q, hA0, hV, rfl, hfz, hnd⟩ := hW
  have hA : DataW.TrodAll enc Tryd.prog W 0 (fun _ => true) true Tryd.f6.params.toList args.toList ds p := hA0
  rw [Tryd.params6] at hA hval hsz
  obtain ⟨v0, vs0, d0, ds0, p0, q0, hargs, rfl, rfl, h0, r0⟩ := trodAll_cons hA
  obtain ⟨v1, vs1, d1, ds1, p1, q1, rfl, rfl, rfl, h1, r1⟩ := trodAll_cons r0
  obtain ⟨rfl, rfl, rfl⟩ := trodAll_nil r1
  obtain rfl : args = #[v0, v1] := by cases args; simp_all
  obtain ⟨rfl, rfl⟩ := trodVars_none hV
  have k1 := h1
  have lt1 : ∀ x ∈ p1, x.block < W.heap.size := by obtain ⟨m, hm⟩ := k1; exact DataW.trod_lt m _ _ _ hm
  obtain ⟨a0, rfl, rfl, rfl, w0⟩ := open_string Tryd.underlying9 (hval 0 9 v0 rfl rfl) h0
  obtain ⟨ns, hnl, rfl, rfl, rfl, w1⟩ := Open.open_int_array Tryd.underlying31 Tryd.underlying3 (by kernel_rfl) (by kernel_rfl) (hval 1 31 v1 rfl rfl) h1
  obtain ⟨n0, n1, n2, rfl⟩ := three_of ns hnl
  have z0 := sized_string hsz (j := 0) (t := 9) (bytes := a0.data.toList) rfl rfl
  have hcl := of_laid hL
  clear hA0 hval0
  refine (walk a0 n0 n1 n2 W z0 hcl).mono fun e W' ⟨he, bel⟩ => ?_
  subst he
  exact ⟨_, rfl, _, _, _, [], _, [], hW', trodAll_mk1 (shut_bool Tryd.underlying4 _), (trodAll_cons_mk (shut_string Tryd.underlying9 w0) (trodAll_cons_mk (Below.trod laidOut (by kernel_rfl) (of_decide_eq_true (by kernel_rfl)) k1 bel lt1) trodAll_mk0)), rfl, bel.frame _, fun h => by cases h⟩

theorem over : Rows.KeyedLeavesSaid :=
  OpenClaim.holds_of_wide 6 Tryd.f6 rfl rfl rfl rfl rfl rfl rfl ⟨rfl, rfl, rfl, rfl, rfl⟩ rfl rfl rfl rfl rfl (by kernel_rfl) Tryd.func6 (by kernel_rfl)
    (of_decide_eq_true (by kernel_rfl)) (by unfold Func.isWrapper; first | (rw [if_pos (by decide +kernel)]; kernel_rfl) | (rw [if_neg (by decide +kernel)]; exact ⟨rfl, rfl⟩))
    (fun os started H enc _ => lifted os started H enc)

theorem proved : Rows.KeyedLeavesCardSaid :=
  Claim7.holds_tied_plain_at .later [] [.data] true Rows.keyedLeavesCard.stood.harness false
    over (fun _ h => by cases h) (by kernel_rfl) (fun _ h => by cases h) keyedLeaves_row_tie rfl ⟨rfl, rfl⟩ (by kernel_rfl) rfl
    (fun f fn hf hfn => by
      obtain rfl : f = 6 := Option.some.inj ((show Tryd.prog.funcNamed "murmur/murmurlaw03.KeyedLeaves" = some 6 by kernel_rfl).symm.trans hf) |>.symm
      obtain rfl : fn = Tryd.f6 := (Option.some.inj (Tryd.func6.symm.trans hfn)).symm
      exact ⟨by kernel_rfl, fun j t ht => by
        rw [Tryd.params6] at ht
        have hm : t ∈ [9, 31] := by simpa using Array.mem_of_getElem? ht
        have hall : ([9, 31].all fun u => !Tryd.prog.wantsStandIn u) = true := by kernel_rfl
        exact (show Tryd.prog.wantsStandIn t = false by simpa using List.all_eq_true.1 hall t hm)⟩)
    (by kernel_rfl)
#print axioms proved
end Go.Proofs.YtleoblflhcbcbaaDoor.LawLeaves
