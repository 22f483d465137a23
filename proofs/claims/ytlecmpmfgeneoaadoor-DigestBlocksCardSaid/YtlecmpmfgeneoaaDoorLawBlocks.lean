/-
  DigestBlocks: a digest of package digest is that of its padded blocks, one behind the other, and has 32 bytes: for every input, the law answers true and changes nothing that was there. Condition: the constant table lies as the program's text lays it (the card ties it).
-/
import Derived.Test.YtlecmpmfgeneoaaDoorDigFrame
import Derived.Test.YtlecmpmfgeneoaaDoorDigSplit
import Derived.Test.YtlecmpmfgeneoaaDoorCards
import Derived.Test.YtlecmpmfgeneoaaDoorTie
import Derived.SevenTiedAt
import Derived.Deep.RegionHeld3
namespace Go.Proofs.YtlecmpmfgeneoaaDoor.LawBlocks
open Go.ChangeShapes Go.WideShapes Go.ChangeAt Go.RowKit Mur Sha
open Go.ChangeMaps (open_string shut_string)

theorem block_call (h T : S8) (s : ByteArray) (u : World) (hh : h.Ok) (hs : s.size = 64) (hk : Consts u) (hT : T = blockOf h s.data.toList) :
    Calls Tryd.prog 12 #[.agg #[.int .u32 (h.a : Int), .int .u32 (h.b : Int), .int .u32 (h.c : Int), .int .u32 (h.d : Int), .int .u32 (h.e : Int), .int .u32 (h.f : Int), .int .u32 (h.g : Int), .int .u32 (h.h : Int)], .string s] u
      fun e w' => e = .returned (.agg #[.int .u32 (T.a : Int), .int .u32 (T.b : Int), .int .u32 (T.c : Int), .int .u32 (T.d : Int), .int .u32 (T.e : Int), .int .u32 (T.f : Int), .int .u32 (T.g : Int), .int .u32 (T.h : Int)]) ∧ Below u.heap.size u w' := by
  subst hT
  exact block_any h s u hh hs hk

theorem extract_mid (t : ByteArray) (i : Nat) : (t.extract i (i + 64)).data.toList = (t.data.toList.drop i).take 64 := by
  simp only [ByteArray.data_extract, Array.toList_extract, List.extract_eq_take_drop]
  congr 1
  omega

/-- What is kept of the world through the last statement. -/
structure Keep (w0 : World) (nH : Nat) (U : S8) (w : World) : Prop where
  whole : Whole w nH 23 U.cells.toList
  consts : Consts w
  below : Below w0.heap.size w0 w
theorem Keep.next {w0 w w' : World} {nH : Nat} {U : S8} (h : Keep w0 nH U w) (k : Below w.heap.size w w') : Keep w0 nH U w' :=
  ⟨h.whole.below h.whole.lt k, h.consts.below h.consts.1 k, h.below.trans (k.mono h.below.size)⟩

set_option maxHeartbeats 1600000 in
theorem law_small (s : ByteArray) (w : World) (hg : s.size ≤ 3000) (hk : Consts w) :
    Calls Tryd.prog 4 #[.string s] w fun e w' => e = .returned (.bool true) ∧ Below w.heap.size w w' := by
  have hd1 : decide (3000 < (s.size : Int)) = false := by simp; omega
  have hl : s.data.toList.length = s.size := rfl
  obtain ⟨F, hF⟩ : ∃ F, F = fillOf (s.size % 64) := ⟨_, rfl⟩
  have hF63 : F ≤ 63 ∧ (s.size + 1 + F) % 64 = 56 ∧ ∀ z, z < F → (s.size + 1 + z) % 64 ≠ 56 := by
    unfold fillOf at hF
    refine ⟨by omega, by omega, fun z hz => by omega⟩
  have HK := Lib.hid hk
  have HL := Lib.hid hl
  have HF := Lib.hid hF
  have HF2 := Lib.hid hF63.2
  have hF0 := hF63.1
  clear hk hl hF hF63
  go_enter Tryd.func4, Tryd.ntmps4
  go_wp2
  go_loop [3, 12, 13, 14, 15, 16, 17] (fun p _ _ _ _ _ _ => ∃ (z : Nat) (t : ByteArray), z ≤ F ∧ p = .string t ∧ t.data.toList = s.data.toList ++ [128] ++ List.replicate z 0) (fun p _ _ _ _ _ _ => 4000 - strSize p)
  case atStart => exact ⟨0, _, by omega, rfl, by simp [ByteArray.data_append]⟩
  case round =>
    obtain ⟨z, t, hz, rfl, ht⟩ := hrel
    have hts : t.size = s.size + 1 + z := by
      have e : t.data.toList.length = t.size := rfl
      rw [← e, ht]
      simp [HL.out]
      omega
    have HT := Lib.hid ht
    clear ht
    by_cases hlt : z < F
    · have hne := HF2.out.2 z hlt
      have hd2 : (((t.size : Int) % 64) != 56) = true := by simp; omega
      have hd3 : (((t.size : Int) % 64) == 56) = false := by simp; omega
      have n1 : ¬ 9223372036854775807 < t.size + 1 := by omega
      have HTS := Lib.hid hts
      have hts4 : t.size ≤ 3100 := by omega
      clear hts hne
      go_wp2
      go_round
      case rel => 
        refine ⟨z + 1, _, by omega, rfl, ?_⟩
        rw [ByteArray.data_append, Array.toList_append, HT.out, List.replicate_succ']
        simp
      case measure =>
        show 4000 - (t ++ ⟨#[0]⟩ : ByteArray).size < 4000 - t.size
        have : (t ++ ⟨#[0]⟩ : ByteArray).size = t.size + 1 := by rw [ByteArray.size_append]; rfl
        omega
    · obtain rfl : z = F := by omega
      have hm := HF2.out.1
      have hd2 : (((t.size : Int) % 64) != 56) = false := by simp; omega
      have hd3 : (((t.size : Int) % 64) == 56) = true := by simp; omega
      have HTS := Lib.hid hts
      have hts4 : t.size ≤ 3100 := by omega
      clear hts hm
      obtain ⟨H, hH⟩ : ∃ H : ByteArray, H = ⟨(Lanes.high (s.size * 8) (Lanes.widthOf 8)).toArray⟩ := ⟨_, rfl⟩
      have hHs : H.size = 8 := by rw [hH]; show (Lanes.high (s.size * 8) (Lanes.widthOf 8)).length = 8; simp only [Lanes.high, List.length_map, List.length_range]; rfl
      have hcH : ∀ u, Calls Tryd.prog 18 #[.int .u64 ((s.size : Int) * 8), .int .i64 8] u fun e w' => e = .returned (.string H) ∧ Below u.heap.size u w' := fun u => by
        have := Lanes.high_any (s.size * 8) 8 u (by omega) (by omega) (by omega)
        rw [Int.natCast_mul] at this
        rw [hH]
        exact this
      obtain ⟨P, hP⟩ : ∃ P : ByteArray, P = t ++ H := ⟨_, rfl⟩
      have hPs : P.size = t.size + 8 := by rw [hP, ByteArray.size_append, hHs]
      have hPl : P.data.toList = s.data.toList ++ tail (s.size % 64) s.size := by
        have e8 : s.size * 8 = 8 * s.size % 18446744073709551616 := by omega
        rw [hP, ByteArray.data_append, Array.toList_append, HT.out, hH, e8]
        show _ ++ Lanes.high (8 * s.size % 18446744073709551616) 8 = _
        rw [HF.out]
        simp [tail]
      have hP64 : P.size % 64 = 0 := by have := HTS.out; have := HF2.out.1; omega
      have hsha : sha s.data.toList = Lanes.text (blocksOf Sha.start P.data.toList (P.size / 64)).list true := by
        have e : P.size = s.data.toList.length + (tail (s.data.toList.length % 64) s.data.toList.length).length := by
          have e1 : P.data.toList.length = P.size := rfl
          rw [← e1, hPl, List.length_append, HL.out]
        rw [sha, finish_whole, ← e, HL.out, hPl]
      have n1 : ¬ 9223372036854775807 < t.size + H.size := by omega
      have HH := Lib.hid hH
      have HCH := Lib.hid hcH
      have HP := Lib.hid hP
      have HPS := Lib.hid hPs
      have HP64 := Lib.hid hP64
      have HSHA := Lib.hid hsha
      have hP4 : P.size ≤ 4000 := by omega
      clear hH hHs hcH hP hPs hPl hP64 hsha
      go_wp2_with fail
      refine (HCH.out _).mono ?_
      rintro e w1 ⟨rfl, hb1⟩
      have HB1 := Lib.hid hb1
      clear hb1 hd2 hd3
      go_wp2_with fail
      rw [← HP.out]
      refine (start_lit _).mono ?_
      rintro e w2 ⟨rfl, hb2⟩
      have hbel2 := HB1.out.trans (hb2.mono HB1.out.size)
      have hW3 : Whole (w2.alloc (.cells Sha.start.cells 23)) w2.heap.size 23 Sha.start.cells.toList := Whole.made' _ _ Sha.start.cells _ rfl
      have hbel3 := hbel2.alloc hbel2.size (.cells Sha.start.cells 23)
      have HW3 := Lib.hid hW3
      have HB3 := Lib.hid hbel3
      have hnH : w.heap.size ≤ w2.heap.size := hbel2.size
      clear hb2 hbel2 HB1 hW3 hbel3 n1
      go_wp2_with fail
      have HW4 : Hid (Whole (w2.alloc (.cells #[.int .u32 1779033703, .int .u32 3144134277, .int .u32 1013904242, .int .u32 2773480762, .int .u32 1359893119, .int .u32 2600822924, .int .u32 528734635, .int .u32 1541459225] 23)) w2.heap.size 23 Sha.start.cells.toList) := HW3
      have HB4 : Hid (Below w.heap.size w (w2.alloc (.cells #[.int .u32 1779033703, .int .u32 3144134277, .int .u32 1013904242, .int .u32 2773480762, .int .u32 1359893119, .int .u32 2600822924, .int .u32 528734635, .int .u32 1541459225] 23))) := HB3
      clear HW3 HB3
      generalize w2.alloc (.cells #[.int .u32 1779033703, .int .u32 3144134277, .int .u32 1013904242, .int .u32 2773480762, .int .u32 1359893119, .int .u32 2600822924, .int .u32 528734635, .int .u32 1541459225] 23) = wx at *
      generalize w2.heap.size = nH at *
      go_loopw [5] (fun i wr => ∃ k : Nat, 64 * k ≤ P.size ∧ i = .int .i64 ((64 * k : Nat) : Int) ∧ Whole wr nH 23 (blocksOf Sha.start P.data.toList k).cells.toList ∧ Consts wr ∧ Below w.heap.size w wr) (fun i _ => P.size - (intOf i).toNat)
      case atStart => exact ⟨0, by omega, rfl, HW4.out, HK.out.below HK.out.1 HB4.out, HB4.out⟩
      case round =>
        clear HW4 HB4
        obtain ⟨k, hk, rfl, hW, hC, hB⟩ := hrel
        have hok : (blocksOf Sha.start P.data.toList k).Ok := blocksOf_ok _ start_ok _ _
        by_cases hlt : 64 * k + 64 ≤ P.size
        · obtain ⟨T, hT⟩ : ∃ T, T = blocksOf Sha.start P.data.toList (k + 1) := ⟨_, rfl⟩
          have hT2 : T = blockOf (blocksOf Sha.start P.data.toList k) (P.extract (64 * k) (64 * k + 64)).data.toList := by rw [hT, extract_mid]; rfl
          have hes : (P.extract (64 * k) (64 * k + 64)).size = 64 := by rw [ByteArray.size_extract]; omega
          have hcall := fun u hu => block_call (blocksOf Sha.start P.data.toList k) T (P.extract (64 * k) (64 * k + 64)) u hok hes hu hT2
          have hf := whole_cells hW
          generalize blocksOf Sha.start P.data.toList k = S at *
          obtain ⟨va, vb, vc, vd, ve, vf, vg, vh⟩ := S
          dsimp only at hf hcall
          obtain ⟨c0, c1, c2, c3, c4, c5, c6, c7⟩ := hf
          have hk1 : 0 < w.heap.size := HK.out.1
          have hi4 : 64 * k ≤ 4000 := by omega
          obtain ⟨i, hi⟩ : ∃ i, i = 64 * k := ⟨_, rfl⟩
          rw [← hi] at hcall hlt hi4 ⊢
          have hd2 : decide ((i : Int) + 64 ≤ (P.size : Int)) = true := by simp; omega
          have HI := Lib.hid hi
          have HT := Lib.hid hT
          have HCL := Lib.hid hcall
          have HW := Lib.hid hW
          have HC := Lib.hid hC
          have HB := Lib.hid hB
          have HK1 := Lib.hid hk1
          clear hi hT hT2 hes hcall hW hC hB hk1 hok hk
          go_upto_region 11 with (fail)
          have r0 : (i : Int) + 64 ≤ (P.size : Int) := by omega
          have r1 : (i : Int) ≤ (i : Int) + 64 := by omega
          have r2 : 0 ≤ (i : Int) := by omega
          have r3 : 0 ≤ (i : Int) + 64 := by omega
          have v1 : ((i : Int) + 64).toNat = i + 64 := by omega
          have v2 : IntKind.i64.wrap ((i : Int) + 64) = (i : Int) + 64 := IntWalk.i64_in _ (by omega)
          go_region_law ((refine step_call rfl 12 Tryd.call12 #[.tmp 33, .tmp 38] #[23, 9] rfl #[.agg #[.int .u32 (va : Int), .int .u32 (vb : Int), .int .u32 (vc : Int), .int .u32 (vd : Int), .int .u32 (ve : Int), .int .u32 (vf : Int), .int .u32 (vg : Int), .int .u32 (vh : Int)], .string (P.extract i (i + 64))] (by first | (simp [Act.eval]; done) | simp [Act.eval, Act.put]) _ _ (HCL.out _ HC.out.drew) ?_; intro w5 hb5; have hw5 := (Whole.drew HW.out).below HW.out.lt hb5; obtain ⟨d0, d1, d2, d3, d4, d5, d6, d7⟩ := whole_cells hw5; obtain ⟨f0, f1, f2, f3, f4, f5, f6, f7⟩ := whole_free hw5; have HW5 := Lib.hid hw5; have HB5 := Lib.hid hb5; clear hw5 hb5))
          clear d0 d1 d2 d3 d4 d5 d6 d7 f0 f1 f2 f3 f4 f5 f6 f7 c0 c1 c2 c3 c4 c5 c6 c7 v1 v2
          go_wp2
          go_roundw
          case rel =>
            have hb5 := HB5.out
            have hB := HB.out
            have hbel := hB.drew.trans (hb5.mono hB.size)
            have h8 := below_set8 hbel nH hnH (.int .u32 (T.a : Int)) (.int .u32 (T.b : Int)) (.int .u32 (T.c : Int)) (.int .u32 (T.d : Int)) (.int .u32 (T.e : Int)) (.int .u32 (T.f : Int)) (.int .u32 (T.g : Int)) (.int .u32 (T.h : Int))
            have e : i + 64 = 64 * (k + 1) := by have := HI.out; omega
            have hw : Whole ((((((((w5.setCell ⟨nH, 0, none⟩ (.int .u32 (T.a : Int))).setCell ⟨nH, 1, none⟩ (.int .u32 (T.b : Int))).setCell ⟨nH, 2, none⟩ (.int .u32 (T.c : Int))).setCell ⟨nH, 3, none⟩ (.int .u32 (T.d : Int))).setCell ⟨nH, 4, none⟩ (.int .u32 (T.e : Int))).setCell ⟨nH, 5, none⟩ (.int .u32 (T.f : Int))).setCell ⟨nH, 6, none⟩ (.int .u32 (T.g : Int))).setCell ⟨nH, 7, none⟩ (.int .u32 (T.h : Int))) nH 23 (blocksOf Sha.start P.data.toList (k + 1)).cells.toList := by
              rw [← HT.out]
              exact whole_set8 HW5.out T
            exact ⟨k + 1, by omega, by rw [← e]; go_num, hw, HK.out.below HK1.out h8, h8⟩
          case measure => 
            show P.size - (intOf (.int .i64 ((i : Int) + 64))).toNat < P.size - (intOf (.int .i64 (i : Int))).toNat
            simp [intOf]; omega
        · have hke : k = P.size / 64 := by have := HP64.out; omega
          have hkz : 64 * k = P.size := by have := HP64.out; omega
          have hd2 : decide (((64 * k : Nat) : Int) + 64 ≤ (P.size : Int)) = false := by simp; omega
          obtain ⟨U, hU⟩ : ∃ U, U = blocksOf Sha.start P.data.toList k := ⟨_, rfl⟩
          rw [← hU] at hW hok
          obtain ⟨A, hA⟩ : ∃ A : ByteArray, A = ⟨(sha s.data.toList).toArray⟩ := ⟨_, rfl⟩
          have hA2 : A = ⟨(Lanes.text U.list true).toArray⟩ := by rw [hA, HSHA.out, ← hke, hU]
          have hAs : A.size = 32 := by rw [hA]; exact finish_length _ _ _
          have t0 : (((P.size : Int) % 64) == 0) = true := by have := HP64.out; simp; omega
          have t0' : (((P.size : Int).tmod 64) == 0) = true := by rw [Int.tmod_eq_emod_of_nonneg (by omega)]; exact t0
          have t1 : ((A.size : Int) == 32) = true := by rw [hAs]; rfl
          have hof : ∀ u, Consts u → Calls Tryd.prog 14 #[.string s] u fun e w' => e = .returned (.string A) ∧ Below u.heap.size u w' := fun u hu => by
            rw [hA]; exact of_any s u (by omega) hu
          have htx : ∀ u, Whole u nH 23 U.cells.toList → Calls Tryd.prog 19 #[.slice (some ⟨nH, 0, none⟩) 8 8, .bool true] u fun e w' => e = .returned (.string A) ∧ Below u.heap.size u w' := fun u hu => by
            rw [hA2]
            exact Lanes.text_some U.list nH 0 8 true u (by show 8 ≤ _; omega) (s8_lt U hok) hu.lt (fun i hi => by rw [Nat.zero_add]; exact hu.row.cell (cells_get U i hi))
          have hkeep : Keep w nH U wr.drew := ⟨hW.drew, hC.drew, hB.drew⟩
          have HOF := Lib.hid hof
          have HTX := Lib.hid htx
          have HKP := Lib.hid hkeep
          clear hof htx hkeep hA hA2 hAs hU hke hok hW hC hB
          go_upto_region 12 with (fail)
          clear hd2
          go_region_held3 (fun w' => Keep w nH U w')
            (first | exact HKP.out | assumption | exact Keep.next (by assumption) (by assumption))
            (first
              | (go_at_call 14; refine (HOF.out _ (Keep.consts (by assumption))).mono ?_; rintro e w' ⟨rfl, hb⟩)
              | (go_at_call 19; refine (HTX.out _ (Keep.whole (by assumption))).mono ?_; rintro e w' ⟨rfl, hb⟩)
              | (go_at_call 7; refine (awake_any _ (Keep.consts (by assumption))).mono ?_; rintro e w' ⟨rfl, hb⟩))
          go_wp2
          go_ret
          have hkk : Keep w nH U w' := by assumption
          exact ⟨rfl, hkk.below⟩

set_option maxHeartbeats 400000 in
theorem law_great (s : ByteArray) (w : World) (hg : ¬ s.size ≤ 3000) (hk : Consts w) :
    Calls Tryd.prog 4 #[.string s] w fun e w' => e = .returned (.bool true) ∧ Below w.heap.size w w' := by
  have hd1 : decide (3000 < (s.size : Int)) = true := by simp; omega
  have HK := Lib.hid hk
  clear hk hg
  go_enter Tryd.func4, Tryd.ntmps4
  go_wp2_with fail
  refine (awake_any _ HK.out).mono ?_
  rintro e w1 ⟨rfl, hb1⟩
  go_wp2
  go_ret
  exact ⟨rfl, hb1⟩
theorem walk (s : ByteArray) (w : World) (hk : Consts w) :
    Calls Tryd.prog 4 #[.string s] w fun e w' => e = .returned (.bool true) ∧ Below w.heap.size w w' := by
  by_cases hg : s.size ≤ 3000
  · exact law_small s w hg hk
  · exact law_great s w hg hk

set_option maxRecDepth 100000 in
theorem lifted (os : Os) (started : os.Started) (H : Type) (enc : TypeId × Value → H) :
    ReturnsInHanded {} Tryd.checked os 4 .any (fun w args => (Rows.digestBlocksSpec.pre enc Tryd.prog Tryd.f4 [] false w args ∧ laidMetH Tryd.prog laidL w) ∧ sizedMet enc Tryd.prog Tryd.f4 (OpenSpec.ofChange Rows.digestBlocksSpec) false w args)
      (Rows.digestBlocksSpec.post enc Tryd.prog Tryd.f4 false true false false) := by
  refine returnsInHanded_of_change_and (C := Tryd.checked) (X := fun w _ => laidMetH Tryd.prog laidL w) (fun _ _ _ hh h => h.of_heap hh) own started (by kernel_rfl) Tryd.func4
    (ChangeSpec.witness_shaped (enc := enc) (C := Tryd.checked) (os := os) (X := fun w _ => laidMetH Tryd.prog laidL w) false (World.doorLaid Tryd.prog 400 os) #[.string ByteArray.empty] 8 rfl (World.shaped_of_RefB (by kernel_rfl) (by kernel_rfl)) (by kernel_rfl) (by kernel_rfl) (by kernel_rfl) (door_met os _)) ?_
  intro W base args ds gs before hval0 hW _ _ hL _
  have hval : ∀ (j : Nat) t v, Tryd.f4.params[j]? = some t → args[j]? = some v → Value.okWide Tryd.prog W .any base t v := hval0
  have hW' := hW
  obtain ⟨p, q, hA0, hV, rfl, hfz, hnd⟩ := hW
  have hA : DataW.TrodAll enc Tryd.prog W 0 (fun _ => true) true Tryd.f4.params.toList args.toList ds p := hA0
  rw [Tryd.params4] at hA hval
  obtain ⟨v0, vs0, d0, ds0, p0, q0, hargs, rfl, rfl, h0, r0⟩ := trodAll_cons hA
  obtain ⟨rfl, rfl, rfl⟩ := trodAll_nil r0
  obtain rfl : args = #[v0] := by cases args; simp_all
  obtain ⟨rfl, rfl⟩ := trodVars_none hV
  obtain ⟨a0, rfl, rfl, rfl, w0⟩ := open_string Tryd.underlying9 (hval 0 9 v0 rfl rfl) h0
  have hcl := of_laid hL
  clear hA0 hval0
  refine (walk a0 W hcl).mono fun e W' ⟨he, bel⟩ => ?_
  subst he
  exact ⟨_, rfl, _, _, _, [], _, [], hW', trodAll_mk1 (shut_bool Tryd.underlying4 _), (trodAll_cons_mk (shut_string Tryd.underlying9 w0) trodAll_mk0), rfl, bel.frame _, fun h => by cases h⟩

theorem over : Rows.DigestBlocksSaid :=
  OpenClaim.holds_of_wide 4 Tryd.f4 rfl rfl rfl rfl rfl rfl rfl ⟨rfl, rfl, rfl, rfl, rfl⟩ rfl rfl rfl rfl rfl (by kernel_rfl) Tryd.func4 (by kernel_rfl)
    (of_decide_eq_true (by kernel_rfl)) (by unfold Func.isWrapper; first | (rw [if_pos (by decide +kernel)]; kernel_rfl) | (rw [if_neg (by decide +kernel)]; exact ⟨rfl, rfl⟩))
    (fun os started H enc _ => lifted os started H enc)

theorem proved : Rows.DigestBlocksCardSaid :=
  Claim7.holds_tied_plain_at .later [] [.data] true Rows.digestBlocksCard.stood.harness false
    over (fun _ h => by cases h) (by kernel_rfl) (fun _ h => by cases h) digestBlocks_row_tie rfl ⟨rfl, rfl⟩ (by kernel_rfl) rfl
    (fun f fn hf hfn => by
      obtain rfl : f = 4 := Option.some.inj ((show Tryd.prog.funcNamed "murmur/murmurlaw02.DigestBlocks" = some 4 by kernel_rfl).symm.trans hf) |>.symm
      obtain rfl : fn = Tryd.f4 := (Option.some.inj (Tryd.func4.symm.trans hfn)).symm
      exact ⟨by kernel_rfl, fun j t ht => by
        rw [Tryd.params4] at ht
        have hm : t ∈ [9] := by simpa using Array.mem_of_getElem? ht
        have hall : ([9].all fun u => !Tryd.prog.wantsStandIn u) = true := by kernel_rfl
        exact (show Tryd.prog.wantsStandIn t = false by simpa using List.all_eq_true.1 hall t hm)⟩)
    (by kernel_rfl)
#print axioms proved
end Go.Proofs.YtlecmpmfgeneoaaDoor.LawBlocks
