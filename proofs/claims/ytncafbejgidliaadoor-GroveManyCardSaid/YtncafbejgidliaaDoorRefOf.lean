/-
  The document's own answer for Of of layer 2 answers what the plain mathematics of the text Sha says, and leaves all memory that was there as it was. Condition: the text has no more than a million bytes.
-/
import Derived.Test.YtncafbejgidliaaDoorRefBlock
import Derived.Test.YtncafbejgidliaaDoorRefHigh
import Derived.Test.YtncafbejgidliaaDoorDigSplit
namespace Go.Proofs.YtncafbejgidliaaDoor.RefSha
open Go.RowKit Mur Sha
set_option maxRecDepth 100000

theorem start_lit (w : World) :
    Calls Tryd.prog 58 #[] w fun e w' => e = .returned (.agg #[.int .u32 1779033703, .int .u32 3144134277, .int .u32 1013904242, .int .u32 2773480762, .int .u32 1359893119, .int .u32 2600822924, .int .u32 528734635, .int .u32 1541459225]) ∧ Below w.heap.size w w' := start_any w
theorem start_ok : Sha.start.Ok := by unfold S8.Ok Sha.start; decide
theorem block_call (h T : S8) (s : ByteArray) (u : World) (hh : h.Ok) (hs : s.size = 64) (hT : T = blockOf h s.data.toList) :
    Calls Tryd.prog 59 #[.agg #[.int .u32 (h.a : Int), .int .u32 (h.b : Int), .int .u32 (h.c : Int), .int .u32 (h.d : Int), .int .u32 (h.e : Int), .int .u32 (h.f : Int), .int .u32 (h.g : Int), .int .u32 (h.h : Int)], .string s] u
      fun e w' => e = .returned (.agg #[.int .u32 (T.a : Int), .int .u32 (T.b : Int), .int .u32 (T.c : Int), .int .u32 (T.d : Int), .int .u32 (T.e : Int), .int .u32 (T.f : Int), .int .u32 (T.g : Int), .int .u32 (T.h : Int)]) ∧ Below u.heap.size u w' := by
  subst hT
  exact block_any h s u hh hs
theorem extract_mid (t : ByteArray) (i : Nat) : (t.extract i (i + 64)).data.toList = (t.data.toList.drop i).take 64 := by
  simp only [ByteArray.data_extract, Array.toList_extract, List.extract_eq_take_drop]
  congr 1
  omega
theorem made_bytes (u : World) (F : Nat) : Row (u.alloc (.cells (madeCells #[.int .u8 0] F) 5)) u.heap.size (bytesV (List.replicate F 0)) := by
  rw [← Lanes.zero_bytes]
  exact Lanes.made_row _ _ _ _

set_option maxHeartbeats 1600000 in
theorem of_any (s : ByteArray) (w : World) (hs : s.size ≤ 1000000) :
    Calls Tryd.prog 53 #[.string s] w fun e w' => e = .returned (.string ⟨(sha s.data.toList).toArray⟩) ∧ Below w.heap.size w w' := by
  have hl : s.data.toList.length = s.size := rfl
  obtain ⟨F, hF⟩ : ∃ F, F = fillOf (s.size % 64) := ⟨_, rfl⟩
  have hF63 : F ≤ 63 ∧ (s.size + 1 + F) % 64 = 56 := by
    unfold fillOf at hF
    exact ⟨by omega, by omega⟩
  have hFi : (63 : Int) - ((s.size : Int) + 8) % 64 = (F : Int) := by unfold fillOf at hF; omega
  have hF0 := hF63.1
  obtain ⟨H, hH⟩ : ∃ H : ByteArray, H = ⟨(Lanes.high (s.size * 8) (Lanes.widthOf 8)).toArray⟩ := ⟨_, rfl⟩
  have hHs : H.size = 8 := by rw [hH]; show (Lanes.high (s.size * 8) (Lanes.widthOf 8)).length = 8; simp only [Lanes.high, List.length_map, List.length_range]; rfl
  have hcH : ∀ u, Calls Tryd.prog 43 #[.int .u64 ((s.size : Int) * 8), .int .i64 8] u fun e w' => e = .returned (.string H) ∧ Below u.heap.size u w' := fun u => by
    have := RefOne.high_any (s.size * 8) 8 u (by omega) (by omega) (by omega)
    rw [Int.natCast_mul] at this
    rw [hH]
    exact this
  obtain ⟨Z, hZ⟩ : ∃ Z : ByteArray, Z = ⟨(List.replicate F (0 : UInt8)).toArray⟩ := ⟨_, rfl⟩
  have hZs : Z.size = F := by rw [hZ]; show (List.replicate F (0 : UInt8)).length = F; simp
  obtain ⟨P, hP⟩ : ∃ P : ByteArray, P = s ++ ⟨#[128]⟩ ++ Z ++ H := ⟨_, rfl⟩
  have hPs : P.size = s.size + 1 + F + 8 := by rw [hP]; simp only [ByteArray.size_append, hZs, hHs]; rfl
  have hPl : P.data.toList = s.data.toList ++ tail (s.size % 64) s.size := by
    have e8 : s.size * 8 = 8 * s.size % 18446744073709551616 := by omega
    rw [hP]
    simp only [ByteArray.data_append, Array.toList_append, hZ, hH, tail, ← hF, List.append_assoc]
    rw [e8]
    rfl
  have hP64 : P.size % 64 = 0 := by omega
  have hsha : sha s.data.toList = Lanes.text (blocksOf Sha.start P.data.toList (P.size / 64)).list true := by
    have e : P.size = s.data.toList.length + (tail (s.data.toList.length % 64) s.data.toList.length).length := by
      have e1 : P.data.toList.length = P.size := rfl
      rw [← e1, hPl, List.length_append, hl]
    rw [sha, finish_whole, ← e, hl, hPl]
  have hmk : ∀ u : World, (Instr.makeSlice 47 (.int .i64 (F : Int)) (.int .i64 (F : Int))).run Tryd.prog u = .ok (.slice (some ⟨u.heap.size, 0, none⟩) F F) (u.alloc (.cells (madeCells #[.int .u8 0] F) 5)) := fun u => Lanes.make_u8 u F (by omega)
  have hcv : ∀ (u : World) (b : Nat), Row u b (bytesV (List.replicate F 0)) → _ := fun u b hr => string_row (P := Tryd.prog) hr 47 5 9 Tryd.underlying47 Tryd.underlying5 Tryd.underlying9 F F (by simp)
  rw [← hZ] at hcv
  have n1 : ¬ 9223372036854775807 < s.size + 1 := by omega
  have n2 : ¬ 9223372036854775807 < s.size + 1 + Z.size := by omega
  have n3 : ¬ 9223372036854775807 < s.size + 1 + Z.size + H.size := by omega
  have HCH := Lib.hid hcH
  have HCV := Lib.hid hcv
  have HP := Lib.hid hP
  have HPS := Lib.hid hPs
  have HP64 := Lib.hid hP64
  have HSHA := Lib.hid hsha
  have HMK := Lib.hid hmk
  have hP4 : P.size ≤ 1000072 := by omega
  clear hl hF hF63 hH hHs hcH hZ hZs hP hPs hPl hP64 hsha hmk hcv
  go_enter Tryd.func53, Tryd.ntmps53
  go_upto_region 2 with (fail)
  go_cut [4] (fun v wc => v = .string P ∧ Below w.heap.size w wc)
  case first =>
    have hmk := HMK.out
    have hw1 : IntKind.u64.wrap (s.size : Int) = (s.size : Int) := by rw [IntKind.wrap_u64]; omega
    have hw2 : IntKind.u64.wrap ((s.size : Int) * 8) = (s.size : Int) * 8 := by rw [IntKind.wrap_u64]; omega
    have hA := HCV.out ((w.alloc (.cells (madeCells #[.int .u8 0] F) 5)).drew) w.heap.size (made_bytes w F)
    have hq : w.heap.size < ((w.alloc (.cells (madeCells #[.int .u8 0] F) 5)).drew).heap.size := by simp
    go_region_law ((first
      | (refine step_call rfl 43 Tryd.call43 #[.tmp 21, .const (.int .i64 8)] #[32, 3] rfl #[.int .u64 ((s.size : Int) * 8), .int .i64 8] (by first | (simp [Act.eval]; done) | simp [Act.eval, Act.put]) _ _ (HCH.out ((w.alloc (.cells (madeCells #[.int .u8 0] F) 5)).drew)) ?_; intro w5 hb5; have hB := HCV.out w5 w.heap.size ((show Row ((w.alloc (.cells (madeCells #[.int .u8 0] F) 5)).drew) w.heap.size (bytesV (List.replicate F 0)) from made_bytes w F).below hq hb5); have HW5 := Lib.hid (show Below w.heap.size w w5 from ((Below.refl w.heap.size w).alloc (Nat.le_refl _) _).drew.trans (hb5.mono (by simp))); clear hb5)
      | (refine step_call rfl 43 Tryd.call43 #[.tmp 21, .const (.int .i64 8)] #[32, 3] rfl #[.int .u64 ((s.size : Int) * 8), .int .i64 8] (by first | (simp [Act.eval]; done) | simp [Act.eval, Act.put]) _ _ (HCH.out w.drew) ?_; intro w5 hb5; have hB := HCV.out (w5.alloc (.cells (madeCells #[.int .u8 0] F) 5)) w5.heap.size (made_bytes w5 F); have HW5 := Lib.hid (show Below w.heap.size w (w5.alloc (.cells (madeCells #[.int .u8 0] F) 5)) from ((Below.refl w.heap.size w).drew.trans hb5).alloc hb5.size _); clear hb5)))
    all_goals go_wp2_with fail
    all_goals go_meet
    all_goals exact ⟨by rw [HP.out], HW5.out⟩
  case rest =>
    obtain ⟨rfl, hbel1⟩ := hcut
    have HB1 := Lib.hid hbel1
    clear hbel1 HMK HCV HCH n1 n2 n3 HP hFi hF0
    go_wp2_with fail
    refine (start_lit _).mono ?_
    rintro e w2 ⟨rfl, hb2⟩
    have hbel2 := HB1.out.trans (hb2.mono HB1.out.size)
    have hW3 : Whole (w2.alloc (.cells Sha.start.cells 85)) w2.heap.size 85 Sha.start.cells.toList := Whole.made' _ _ Sha.start.cells _ rfl
    have hbel3 := hbel2.alloc hbel2.size (.cells Sha.start.cells 85)
    have HW3 := Lib.hid hW3
    have HB3 := Lib.hid hbel3
    have hnH : w.heap.size ≤ w2.heap.size := hbel2.size
    clear hb2 hbel2 HB1 hW3 hbel3
    go_wp2_with fail
    have HW4 : Hid (Whole (w2.alloc (.cells #[.int .u32 1779033703, .int .u32 3144134277, .int .u32 1013904242, .int .u32 2773480762, .int .u32 1359893119, .int .u32 2600822924, .int .u32 528734635, .int .u32 1541459225] 85)) w2.heap.size 85 Sha.start.cells.toList) := HW3
    have HB4 : Hid (Below w.heap.size w (w2.alloc (.cells #[.int .u32 1779033703, .int .u32 3144134277, .int .u32 1013904242, .int .u32 2773480762, .int .u32 1359893119, .int .u32 2600822924, .int .u32 528734635, .int .u32 1541459225] 85))) := HB3
    clear HW3 HB3
    generalize w2.alloc (.cells #[.int .u32 1779033703, .int .u32 3144134277, .int .u32 1013904242, .int .u32 2773480762, .int .u32 1359893119, .int .u32 2600822924, .int .u32 528734635, .int .u32 1541459225] 85) = wx at *
    generalize w2.heap.size = nH at *
    go_loopw [6] (fun i wr => ∃ k : Nat, 64 * k ≤ P.size ∧ i = .int .i64 ((64 * k : Nat) : Int) ∧ Whole wr nH 85 (blocksOf Sha.start P.data.toList k).cells.toList ∧ Below w.heap.size w wr) (fun i _ => P.size - (intOf i).toNat)
    case atStart => exact ⟨0, by omega, rfl, HW4.out, HB4.out⟩
    case round =>
      clear HW4 HB4
      obtain ⟨k, hk, rfl, hW, hB⟩ := hrel
      have hok : (blocksOf Sha.start P.data.toList k).Ok := blocksOf_ok _ start_ok _ _
      by_cases hlt : 64 * k < P.size
      · have hlt64 : 64 * k + 64 ≤ P.size := by have := HP64.out; omega
        obtain ⟨T, hT⟩ : ∃ T, T = blocksOf Sha.start P.data.toList (k + 1) := ⟨_, rfl⟩
        have hT2 : T = blockOf (blocksOf Sha.start P.data.toList k) (P.extract (64 * k) (64 * k + 64)).data.toList := by rw [hT, extract_mid]; rfl
        have hes : (P.extract (64 * k) (64 * k + 64)).size = 64 := by rw [ByteArray.size_extract]; omega
        have hcall := fun u => block_call (blocksOf Sha.start P.data.toList k) T (P.extract (64 * k) (64 * k + 64)) u hok hes hT2
        have hf := whole_cells hW
        generalize blocksOf Sha.start P.data.toList k = U at *
        obtain ⟨va, vb, vc, vd, ve, vf, vg, vh⟩ := U
        dsimp only at hf hcall
        obtain ⟨c0, c1, c2, c3, c4, c5, c6, c7⟩ := hf
        obtain ⟨i, hi⟩ : ∃ i, i = 64 * k := ⟨_, rfl⟩
        rw [← hi] at hcall hlt hlt64 ⊢
        have hi4 : i ≤ 1000072 := by omega
        have hd2 : decide ((i : Int) < (P.size : Int)) = true := by simp; omega
        have HI := Lib.hid hi
        have HT := Lib.hid hT
        have HCL := Lib.hid hcall
        have HW := Lib.hid hW
        have HB := Lib.hid hB
        clear hi hT hT2 hes hcall hW hB hok hk
        go_upto_region 7 with (fail)
        have r0 : (i : Int) + 64 ≤ (P.size : Int) := by omega
        have r1 : (i : Int) ≤ (i : Int) + 64 := by omega
        have r2 : 0 ≤ (i : Int) := by omega
        have r3 : 0 ≤ (i : Int) + 64 := by omega
        have v1 : ((i : Int) + 64).toNat = i + 64 := by omega
        have v2 : IntKind.i64.wrap ((i : Int) + 64) = (i : Int) + 64 := IntWalk.i64_in _ (by omega)
        go_still_tail 6, (by kernel_rfl)
        change wpList _ _ _ _ _ wr.drew
        clear c0 c1 c2 c3 c4 c5 c6 c7 v1 v2
        go_wp2_with ((first
          | (go_at_call 59; (refine Calls.mono (HCL.out _) ?_; rintro e w5 ⟨rfl, hb5⟩; have HV5 := Lib.hid (show w5.heap[nH]? = some (.cells (⟨va, vb, vc, vd, ve, vf, vg, vh⟩ : S8).cells.toList.toArray 85 (0, 0)) from (Whole.drew HW.out).below HW.out.lt hb5); have HB5 := Lib.hid (HB.out.drew.trans (hb5.mono HB.out.size)); clear hb5))
          | (with_reducible refine wpList_store_row rfl 85 (.tmp 5) (.tmp 37) rfl nH #[.int .u32 (T.a : Int), .int .u32 (T.b : Int), .int .u32 (T.c : Int), .int .u32 (T.d : Int), .int .u32 (T.e : Int), .int .u32 (T.f : Int), .int .u32 (T.g : Int), .int .u32 (T.h : Int)] rfl rfl 85 _ HV5.out (lit8 _ _ _ _ _ _ _ _).1 rfl (lit8 _ _ _ _ _ _ _ _).2.2 ?_)))
        go_roundw
        case rel =>
          have e : i + 64 = 64 * (k + 1) := by have := HI.out; omega
          have hw : Whole (w5.setRow nH T.cells) nH 85 T.cells.toList := by
            have h1 : Whole w5 nH 85 (⟨va, vb, vc, vd, ve, vf, vg, vh⟩ : S8).cells.toList := HV5.out
            have h2 := h1.setRow T.cells.toList
            simpa using h2
          exact ⟨k + 1, by omega, by rw [← e]; go_num, by rw [← HT.out]; exact hw, below_setRow HB5.out hnH _⟩
        case measure =>
          show P.size - (intOf (.int .i64 ((i : Int) + 64))).toNat < P.size - (intOf (.int .i64 (i : Int))).toNat
          simp [intOf]; omega
      · have hke : k = P.size / 64 := by have := HP64.out; omega
        have hd2 : decide (((64 * k : Nat) : Int) < (P.size : Int)) = false := by simp; omega
        obtain ⟨U, hU⟩ : ∃ U, U = blocksOf Sha.start P.data.toList k := ⟨_, rfl⟩
        rw [← hU] at hW hok
        obtain ⟨A, hA⟩ : ∃ A : ByteArray, A = ⟨(sha s.data.toList).toArray⟩ := ⟨_, rfl⟩
        have hA2 : A = ⟨(Lanes.text U.list true).toArray⟩ := by rw [hA, HSHA.out, ← hke, hU]
        have htx : Calls Tryd.prog 60 #[.slice (some ⟨nH, 0, none⟩) 8 8, .bool true] wr fun e w' => e = .returned (.string A) ∧ Below wr.heap.size wr w' := by
          rw [hA2]
          exact RefTwo.text_some U.list nH 0 8 true wr (by show 8 ≤ _; omega) (s8_lt U hok) hW.lt (fun i hi => by rw [Nat.zero_add]; exact hW.row.cell (cells_get U i hi))
        have HTX := Lib.hid htx
        have HB := Lib.hid hB
        have HA := Lib.hid hA
        clear hA htx hA2 hU hke hW hok hB hk
        go_wp2_with fail
        refine HTX.out.mono ?_
        rintro e w6 ⟨rfl, hb6⟩
        go_wp2
        go_ret
        exact ⟨congrArg (fun x => Ending.returned (.string x)) HA.out, HB.out.trans (hb6.mono HB.out.size)⟩
end Go.Proofs.YtncafbejgidliaaDoor.RefSha
