/-
  The document's own answer for Block of layer 2 answers what the plain mathematics of the text Sha says, and leaves all memory that was there as it was. Conditions: the block has 64 bytes, the eight words are below 2^32.
-/
import Derived.Test.YtncafbejgidliaaDoorRefLaid
namespace Go.Proofs.YtncafbejgidliaaDoor.RefSha
open Go.RowKit Mur Sha
set_option maxRecDepth 100000

theorem laid_start (w w1 w2 : World) (h : S8) (v : Value) (ws : List Nat)
    (ho : w1.ownsRow ((w.alloc (.cells h.cells 85)).alloc (.cells zeros8.toArray 85)).heap.size 84 1 v 16 (Lanes.wordsV ws))
    (hb1 : Below ((w.alloc (.cells h.cells 85)).alloc (.cells zeros8.toArray 85)).heap.size ((w.alloc (.cells h.cells 85)).alloc (.cells zeros8.toArray 85)) w1) (hb2 : Below w1.heap.size w1 w2) :
    ∃ g cap, v = .slice (some ⟨g, 0, none⟩) 16 cap ∧ Whole (w2.alloc (.cells (Lanes.wordsV ks).toArray 92)) w.heap.size 85 h.cells.toList ∧
      Laid w h g cap 16 ws w2.heap.size h ((w2.alloc (.cells (Lanes.wordsV ks).toArray 92)).alloc (.cells h.cells 85)) := by
  have hz : ((w.alloc (.cells h.cells 85)).alloc (.cells zeros8.toArray 85)).heap.size = w.heap.size + 2 := by simp
  have hA : Whole ((w.alloc (.cells h.cells 85)).alloc (.cells zeros8.toArray 85)) w.heap.size 85 h.cells.toList := (Whole.made' w _ h.cells _ rfl).alloc _
  have hB : Whole ((w.alloc (.cells h.cells 85)).alloc (.cells zeros8.toArray 85)) (w.heap.size + 1) 85 zeros8 := Whole.made' _ _ zeros8.toArray _ (by simp)
  have hbel : Below w.heap.size w ((w.alloc (.cells h.cells 85)).alloc (.cells zeros8.toArray 85)) := ((Below.refl _ _).alloc (Nat.le_refl _) _).alloc (by simp) _
  rw [hz] at ho
  obtain ⟨g, cap, rfl, _, hlt⟩ := ho.form (by omega)
  have hz1 := hb1.size
  have hz2 := hb2.size
  rw [hz] at hz1
  have hbel2 := (hbel.trans (hb1.mono (by omega))).trans (hb2.mono (by omega))
  have hA2 := ((hA.below (by omega) hb1).below (by omega) hb2).alloc (.cells (Lanes.wordsV ks).toArray 92)
  have hB2 := ((hB.below (by omega) hb1).below (by omega) hb2).alloc (.cells (Lanes.wordsV ks).toArray 92)
  have hF : Whole (w2.alloc (.cells (Lanes.wordsV ks).toArray 92)) w2.heap.size 92 (Lanes.wordsV ks) := Whole.made _ _ _
  have how := own_kept ho (fun g' hg => hb2.block g' (by cases hg; exact hlt))
  refine ⟨g, cap, rfl, hA2, hA2.alloc _, hB2.alloc _, hF.alloc _, Whole.made' _ _ h.cells _ (by simp), (how.alloc _).alloc _, by omega, by omega, by omega, ?_⟩
  exact (hbel2.alloc (by omega) _).alloc (by simp; omega) _

set_option maxHeartbeats 1600000 in
theorem block_any (h : S8) (b : ByteArray) (w : World) (hh : h.Ok) (hb : b.size = 64) :
    Calls Tryd.prog 59 #[h.val, .string b] w fun e w' => e = .returned (blockOf h b.data.toList).val ∧ Below w.heap.size w w' := by
  have hd : ((b.size : Int) != 64) = false := by simp; omega
  obtain ⟨V64, hV64⟩ : ∃ V, V = wordsOf b.data.toList := ⟨_, rfl⟩
  obtain ⟨R, hR⟩ : ∃ R, R = blockOf h b.data.toList := ⟨_, rfl⟩
  have hR2 : R = add8 h (rounds V64 h 64) := by rw [hR, hV64]; rfl
  have hword : ∀ u, Calls Tryd.prog 64 #[.string b, .bool true] u fun e w' => ∃ v, e = .returned v ∧ w'.ownsRow u.heap.size 84 1 v (b.size / 4) (Lanes.wordsV (Lanes.words b.data.toList true)) ∧ Below u.heap.size u w' := fun u => RefTwo.words_own b true u (by omega)
  rw [← hR]
  have h16 : b.size / 4 = 16 := by omega
  have hlen : (Lanes.words b.data.toList true).length = 16 := by rw [Lanes.words_length]; show b.size / 4 = 16; exact h16
  have hlt0 : ∀ x ∈ Lanes.words b.data.toList true, x < 4294967296 := Lanes.words_lt _ _
  have hw0 : V64 = ext (Lanes.words b.data.toList true) 48 := hV64
  rw [h16] at hword
  generalize Lanes.words b.data.toList true = ws at *
  have HL := Lib.hid hlen
  have HLT := Lib.hid hlt0
  have HW0 := Lib.hid hw0
  have HR := Lib.hid hR2
  have HH := Lib.hid hh
  have HWC := Lib.hid hword
  clear hV64 hR hR2 hh hlen hlt0 hw0 hword h16 hb
  have hvv : h.val = .agg h.cells := rfl
  rw [hvv]
  clear hvv
  have hcl : h.cells = #[.int .u32 (h.a : Int), .int .u32 (h.b : Int), .int .u32 (h.c : Int), .int .u32 (h.d : Int), .int .u32 (h.e : Int), .int .u32 (h.f : Int), .int .u32 (h.g : Int), .int .u32 (h.h : Int)] := rfl
  rw [hcl]
  clear hcl
  go_enter Tryd.func59, Tryd.ntmps59
  go_upto_region 5 with ((first
    | (go_at_call 64; refine (HWC.out _).mono ?_; rintro e w1 ⟨v, rfl, ho1, hb1⟩)
    | (go_at_call 65; refine (factors_any _).mono ?_; rintro e w2 ⟨rfl, hb2⟩)
    | (with_reducible refine wpList_alloc_z rfl 92 rfl zeros64 zero_info ?_)
    | (with_reducible refine wpList_store_new rfl 92 _ _ rfl _ (Lanes.wordsV ks) zeros64 rfl rfl rfl table_size table_long (all_oneCell_toArray (words_one ks)) ?_)))
  obtain ⟨g, cap, rfl, hW, hlaid⟩ := laid_start w w1 w2 h v ws ho1 hb1 hb2
  clear ho1 hb1
  have HE := Lib.hid hlaid
  clear hlaid
  obtain ⟨c0, c1, c2, c3, c4, c5, c6, c7⟩ := whole_cells hW
  clear hW
  go_upto_region 6 with (fail)
  clear c0 c1 c2 c3 c4 c5 c6 c7
  have HE1 : Hid (Laid w h g cap 16 ws w2.heap.size h ((w2.alloc (.cells (Lanes.wordsV ks).toArray 92)).alloc (.cells #[.int .u32 (h.a : Int), .int .u32 (h.b : Int), .int .u32 (h.c : Int), .int .u32 (h.d : Int), .int .u32 (h.e : Int), .int .u32 (h.f : Int), .int .u32 (h.g : Int), .int .u32 (h.h : Int)] 85))) := HE
  clear HE hb2
  go_simp
  generalize (w2.alloc (.cells (Lanes.wordsV ks).toArray 92)).alloc (.cells #[.int .u32 (h.a : Int), .int .u32 (h.b : Int), .int .u32 (h.c : Int), .int .u32 (h.d : Int), .int .u32 (h.e : Int), .int .u32 (h.f : Int), .int .u32 (h.g : Int), .int .u32 (h.h : Int)] 85) = wx at *
  generalize w2.heap.size = nF at *
  go_wp2
  go_loopw [5, 20] (fun v i wr => ∃ (k n g cap : Nat), k ≤ 64 ∧ n = max 16 k ∧ i = .int .i64 k ∧ v = .slice (some ⟨g, 0, none⟩) n cap ∧ Laid w h g cap n (ext ws (n - 16)) nF (rounds V64 h k) wr) (fun _ i _ => 64 - (intOf i).toNat)
  case atStart => exact ⟨0, 16, g, cap, by omega, by omega, rfl, rfl, HE1.out⟩
  case round =>
    clear HE1
    skip
    obtain ⟨k, n, q, cq, hk, hn, rfl, rfl, hlaid⟩ := hrel
    have hok := rounds_ok V64 h HH.out k
    by_cases hlt : k < 64
    · have hd2 : decide ((k : Int) < 64) = true := by simp; omega
      by_cases h15 : 15 < k
      · have hd3 : decide ((15 : Int) < (k : Int)) = true := by simp; omega
        obtain rfl : k = n := by omega
        have hlen : (ext ws (k - 16)).length = k := by rw [ext_length, HL.out]; omega
        have hall := ext_lt ws HLT.out (k - 16)
        have hext : ext ws (k + 1 - 16) = ext ws (k - 16) ++ [next (ext ws (k - 16))] := by
          have e : k + 1 - 16 = (k - 16) + 1 := by omega
          rw [e]; rfl
        have hq := hlaid.lt
        have HQ0 := Lib.hid hlaid
        have hb0 := hlaid.below.size
        clear hlaid
        generalize hlg : ext ws (k - 16) = l at *
        obtain ⟨x15, hx15, hl15, hc15⟩ := laid_cell HQ0.out hall (k - 15) (by omega)
        obtain ⟨x2, hx2, hl2, hc2⟩ := laid_cell HQ0.out hall (k - 2) (by omega)
        obtain ⟨x16, hx16, hl16, hc16⟩ := laid_cell HQ0.out hall (k - 16) (by omega)
        obtain ⟨x7, hx7, hl7, hc7⟩ := laid_cell HQ0.out hall (k - 7) (by omega)
        have ho16 : (Lanes.wordsV l)[k - 16]? = some (.int .u32 (x16 : Int)) := by
          rw [Lanes.wordsV_at (by omega), ← hx16]; simp [List.getD, show k - 16 < l.length by omega]
        have ho7 : (Lanes.wordsV l)[k - 7]? = some (.int .u32 (x7 : Int)) := by
          rw [Lanes.wordsV_at (by omega), ← hx7]; simp [List.getD, show k - 7 < l.length by omega]
        have hnext : next l = (x16 + x7 + sigA x15 + sigB x2) % 4294967296 := by unfold next; rw [hlen, hx15, hx2, hx16, hx7]
        have HN0 := Lib.hid hnext
        have HX := Lib.hid hext
        have HOK := Lib.hid hok
        have HO16 := Lib.hid ho16
        have HO7 := Lib.hid ho7
        have T7 := Lib.hid (fun W => turn_q x15 7 7 W rfl hl15 (by omega) (by omega))
        have T18 := Lib.hid (fun W => turn_q x15 18 18 W rfl hl15 (by omega) (by omega))
        have T17 := Lib.hid (fun W => turn_q x2 17 17 W rfl hl2 (by omega) (by omega))
        have T19 := Lib.hid (fun W => turn_q x2 19 19 W rfl hl2 (by omega) (by omega))
        have HLG := Lib.hid hlg
        clear hlg hnext hext hok hx15 hx2 hx16 hx7 hall hlen ho16 ho7 hn
        go_upto_region 10 with (fail)
        have w15 : IntKind.i64.wrap ((k : Int) - 15) = (k : Int) - 15 := IntWalk.i64_in _ (by omega)
        have v15 : ((k : Int) - 15).toNat = k - 15 := by omega
        have p15 : 0 ≤ (k : Int) - 15 := by omega
        have r15 : (15 : Int) ≤ (k : Int) := by omega
        have w2 : IntKind.i64.wrap ((k : Int) - 2) = (k : Int) - 2 := IntWalk.i64_in _ (by omega)
        have v2 : ((k : Int) - 2).toNat = k - 2 := by omega
        have p2 : 0 ≤ (k : Int) - 2 := by omega
        have r2 : (2 : Int) ≤ (k : Int) := by omega
        have z0 : (0 : Int) < (k : Int) := by omega
        go_quiet (fail)
        clear w15 v15 p15 r15 w2 v2 p2 r2 hc15 hc2
        go_upto_region 11 with (fail)
        have hc16' : (wr.drewN nq).cell? ⟨q, k - 16, none⟩ = some (.int .u32 (x16 : Int)) := hc16
        have hc7' : (wr.drewN nq).cell? ⟨q, k - 7, none⟩ = some (.int .u32 (x7 : Int)) := hc7
        have HQ1 := Lib.hid (HQ0.out.drewN nq)
        have hq' : q < (wr.drewN nq).heap.size := hq.2
        have hb0' : w.heap.size ≤ (wr.drewN nq).heap.size := hb0
        clear hc16 hc7 HQ0 hq hb0
        generalize wr.drewN nq = wy at *
        have w16 : IntKind.i64.wrap ((k : Int) - 16) = (k : Int) - 16 := IntWalk.i64_in _ (by omega)
        have v16 : ((k : Int) - 16).toNat = k - 16 := by omega
        have p16 : 0 ≤ (k : Int) - 16 := by omega
        have r16 : (16 : Int) ≤ (k : Int) := by omega
        have w7 : IntKind.i64.wrap ((k : Int) - 7) = (k : Int) - 7 := IntWalk.i64_in _ (by omega)
        have v7 : ((k : Int) - 7).toNat = k - 7 := by omega
        have p7 : 0 ≤ (k : Int) - 7 := by omega
        have r7 : (7 : Int) ≤ (k : Int) := by omega
        have b16 : (k : Int) - 16 < (k : Int) := by omega
        have b7 : (k : Int) - 7 < (k : Int) := by omega
        have HQ2 := Lib.hid HQ1.out.drew
        go_region_held3 (fun w' => w'.cell? ⟨q, k - 16, none⟩ = some (.int .u32 (x16 : Int)) ∧ w'.cell? ⟨q, k - 7, none⟩ = some (.int .u32 (x7 : Int)))
          (first | exact ⟨hc16', hc7'⟩ | assumption | exact ⟨hkeep _ _ HO16.out, hkeep _ _ HO7.out⟩ | exact ⟨(World.cell?_alloc_lt _ _ _ hq').trans hc16', (World.cell?_alloc_lt _ _ _ hq').trans hc7'⟩)
          (first
            | (go_at_call 66; with_reducible refine Calls.mono (T7.out _) ?_; rintro e w' ⟨rfl, rfl⟩)
            | (go_at_call 66; with_reducible refine Calls.mono (T18.out _) ?_; rintro e w' ⟨rfl, rfl⟩)
            | (go_at_call 66; with_reducible refine Calls.mono (T17.out _) ?_; rintro e w' ⟨rfl, rfl⟩)
            | (go_at_call 66; with_reducible refine Calls.mono (T19.out _) ?_; rintro e w' ⟨rfl, rfl⟩)
            | (refine step_append_one (by rfl) _ _ (by rfl) wy.drew _ (w.heap.size + 2) q k cq l (by rfl) (by rfl) HQ2.out.own (by omega) (by have := HQ2.out.own.lt q rfl; omega) ?_; intro g' cap' w5 hown5 hgrow5 hat5 hkeep))
        have hv : IntKind.u32.wrap (IntKind.u32.wrap (IntKind.u32.wrap ((x16 : Int) + (x7 : Int)) + (sigA x15 : Int)) + (sigB x2 : Int)) = (next l : Int) := by rw [HN0.out]; simp only [IntKind.wrap_u32]; omega
        rw [sigA_int x15 hl15, sigB_int x2 hl2, hv] at hown5 hgrow5
        have hown6 : w5.ownsRow (w.heap.size + 2) 84 1 (.slice (some ⟨g', 0, none⟩) (k + 1) cap') (k + 1) (Lanes.wordsV (ext ws (k + 1 - 16))) := by
          rw [HX.out]
          simpa [Lanes.wordsV] using hown5
        have HQ := Lib.hid ((HQ2.out.alloc _).grown hgrow5 hown6 (by simpa using hat5))
        have hok := HOK.out
        clear hv hown5 hown6 hgrow5 hat5 hkeep hc16' hc7' w16 v16 p16 r16 w7 v7 p7 r7 b16 b7 hq' hb0' HQ1 HQ2 hl15 hl2 hl16 hl7 z0
        generalize w5 = wc at *
        have hl9 : k < (ext ws ((k + 1) - 16)).length := by rw [ext_length, HL.out]; omega
        have hl8 : k < ks.length := by show k < 64; omega
        have hx : (ext ws ((k + 1) - 16)).getD k 0 = V64.getD k 0 := by
          have e1 := ext_keeps ws ((k + 1) - 16) (64 - (k + 1)) k hl9
          have e2 : (k + 1) - 16 + (64 - (k + 1)) = 48 := by omega
          rw [e2] at e1
          rw [HW0.out, e1]
        have hcx := HQ.out.cell k hl9
        rw [hx] at hcx
        have hcf : wc.cell? ⟨nF, k, none⟩ = some (.int .u32 (ks.getD k 0 : Nat)) := by
          rw [HQ.out.hF.row.cell (Lanes.wordsV_at hl8)]
          simp [List.getD, hl8]
        have hcv := whole_cells HQ.out.hV
        obtain ⟨T, hT⟩ : ∃ T, T = rounds V64 h (k + 1) := ⟨_, rfl⟩
        have hT2 : T = roundOf (rounds V64 h k) ((V64.getD k 0 + ks.getD k 0) % 4294967296) := hT
        have hrc := fun u => round_call (rounds V64 h k) T (ks.getD k 0) (V64.getD k 0) u hok hT2
        have HT := Lib.hid hT
        clear hx hl9 hl8 hT hT2 hok
        generalize rounds V64 h k = U at *
        generalize V64.getD k 0 = x at *
        generalize ks.getD k 0 = y at *
        obtain ⟨va, vb, vc, vd, ve, vf, vg, vh⟩ := U
        dsimp only at hcv hrc
        obtain ⟨c0, c1, c2, c3, c4, c5, c6, c7⟩ := hcv
        have HRC := Lib.hid hrc
        clear hrc
        go_upto_region 12 with (fail)
        have r0 : (k : Int) < 64 := by omega
        have r1 : (k : Int) < (k : Int) + 1 := by omega
        have v0 : (k : Int).toNat = k := by omega
        
        go_still_tail 9, (by kernel_rfl)
        change wpList _ _ _ _ _ wc.drew
        clear c0 c1 c2 c3 c4 c5 c6 c7 hcx hcf v0
        go_wp2_with ((first
          | (go_at_call 67; (refine Calls.mono (HRC.out _) ?_; rintro e w5 ⟨rfl, hb5⟩; have HQ5 := Lib.hid (HQ.out.drew.next hb5); have HV5 := Lib.hid (show w5.heap[nF + 1]? = some (.cells (⟨va, vb, vc, vd, ve, vf, vg, vh⟩ : S8).cells.toList.toArray 85 (0, 0)) from HQ5.out.hV)))
          | (with_reducible refine wpList_store_row rfl 85 (.tmp 7) (.tmp 76) rfl (nF + 1) #[.int .u32 (T.a : Int), .int .u32 (T.b : Int), .int .u32 (T.c : Int), .int .u32 (T.d : Int), .int .u32 (T.e : Int), .int .u32 (T.f : Int), .int .u32 (T.g : Int), .int .u32 (T.h : Int)] rfl rfl 85 _ HV5.out (lit8 _ _ _ _ _ _ _ _).1 rfl (lit8 _ _ _ _ _ _ _ _).2.2 ?_)))
        go_roundw
        case rel => exact ⟨k + 1, (k + 1), g', cap', by omega, by omega, by go_num, rfl, by rw [← HT.out]; exact HQ5.out.setV T⟩
        case measure => simp [intOf]; omega
      · have hd3 : decide ((15 : Int) < (k : Int)) = false := by simp; omega
        obtain rfl : n = 16 := by omega
        have HQ := Lib.hid hlaid
        clear hlaid hn
        obtain ⟨wc, rfl⟩ : ∃ wc : World, wc = wr := ⟨_, rfl⟩
        have hl9 : k < (ext ws (16 - 16)).length := by rw [ext_length, HL.out]; omega
        have hl8 : k < ks.length := by show k < 64; omega
        have hx : (ext ws (16 - 16)).getD k 0 = V64.getD k 0 := by
          have e1 := ext_keeps ws (16 - 16) (64 - 16) k hl9
          have e2 : 16 - 16 + (64 - 16) = 48 := by omega
          rw [e2] at e1
          rw [HW0.out, e1]
        have hcx := HQ.out.cell k hl9
        rw [hx] at hcx
        have hcf : wc.cell? ⟨nF, k, none⟩ = some (.int .u32 (ks.getD k 0 : Nat)) := by
          rw [HQ.out.hF.row.cell (Lanes.wordsV_at hl8)]
          simp [List.getD, hl8]
        have hcv := whole_cells HQ.out.hV
        obtain ⟨T, hT⟩ : ∃ T, T = rounds V64 h (k + 1) := ⟨_, rfl⟩
        have hT2 : T = roundOf (rounds V64 h k) ((V64.getD k 0 + ks.getD k 0) % 4294967296) := hT
        have hrc := fun u => round_call (rounds V64 h k) T (ks.getD k 0) (V64.getD k 0) u hok hT2
        have HT := Lib.hid hT
        clear hx hl9 hl8 hT hT2 hok
        generalize rounds V64 h k = U at *
        generalize V64.getD k 0 = x at *
        generalize ks.getD k 0 = y at *
        obtain ⟨va, vb, vc, vd, ve, vf, vg, vh⟩ := U
        dsimp only at hcv hrc
        obtain ⟨c0, c1, c2, c3, c4, c5, c6, c7⟩ := hcv
        have HRC := Lib.hid hrc
        clear hrc
        go_upto_region 12 with (fail)
        have r0 : (k : Int) < 64 := by omega
        have r1 : (k : Int) < 16 := by omega
        have v0 : (k : Int).toNat = k := by omega
        
        go_still_tail 9, (by kernel_rfl)
        change wpList _ _ _ _ _ wc.drew
        clear c0 c1 c2 c3 c4 c5 c6 c7 hcx hcf v0
        go_wp2_with ((first
          | (go_at_call 67; (refine Calls.mono (HRC.out _) ?_; rintro e w5 ⟨rfl, hb5⟩; have HQ5 := Lib.hid (HQ.out.drew.next hb5); have HV5 := Lib.hid (show w5.heap[nF + 1]? = some (.cells (⟨va, vb, vc, vd, ve, vf, vg, vh⟩ : S8).cells.toList.toArray 85 (0, 0)) from HQ5.out.hV)))
          | (with_reducible refine wpList_store_row rfl 85 (.tmp 7) (.tmp 76) rfl (nF + 1) #[.int .u32 (T.a : Int), .int .u32 (T.b : Int), .int .u32 (T.c : Int), .int .u32 (T.d : Int), .int .u32 (T.e : Int), .int .u32 (T.f : Int), .int .u32 (T.g : Int), .int .u32 (T.h : Int)] rfl rfl 85 _ HV5.out (lit8 _ _ _ _ _ _ _ _).1 rfl (lit8 _ _ _ _ _ _ _ _).2.2 ?_)))
        go_roundw
        case rel => exact ⟨k + 1, 16, q, cq, by omega, by omega, by go_num, rfl, by rw [← HT.out]; exact HQ5.out.setV T⟩
        case measure => simp [intOf]; omega
    · have hd2 : decide ((k : Int) < 64) = false := by simp; omega
      obtain rfl : k = 64 := by omega
      have HQ := Lib.hid hlaid
      clear hlaid hok hn
      generalize rounds V64 h 64 = U at *
      obtain ⟨wo, rfl⟩ : ∃ wo : World, wo = wr := ⟨_, rfl⟩
      go_wp2
      go_loopw [78] (fun i wq => ∃ j : Nat, j ≤ 8 ∧ i = .int .i64 j ∧ Whole wq w.heap.size 85 (Lanes.wordsV (sums h U j)) ∧ Whole wq (w.heap.size + 1) 85 zeros8 ∧ Whole wq (nF + 1) 85 (Lanes.wordsV U.list) ∧ Below w.heap.size w wq) (fun i _ => 8 - (intOf i).toNat)
      case atStart => exact ⟨0, by omega, rfl, HQ.out.hB, HQ.out.hZ, HQ.out.hV, HQ.out.below⟩
      case round =>
        obtain ⟨j, hj, rfl, hB, hZ, hV, hbel⟩ := hrel
        have hnF := HQ.out.bF
        by_cases hj8 : j < 8
        · have hd4 : decide ((j : Int) < 8) = true := by simp; omega
          have hs8 : j < (sums h U j).length := by rw [sums_length]; exact hj8
          have hu8 : j < U.list.length := hj8
          have hcB : wr.cell? ⟨w.heap.size, j, none⟩ = some (.int .u32 (h.list.getD j 0 : Nat)) := hB.row.cell (by simp [Lanes.wordsV, sums_at h U j hj8])
          have hfB : wr.frozen? ⟨w.heap.size, j, none⟩ = false := hB.row.free (by rw [Lanes.wordsV_length]; exact hs8)
          have hcV : wr.cell? ⟨nF + 1, j, none⟩ = some (.int .u32 (U.list.getD j 0 : Nat)) := by
            rw [hV.row.cell (Lanes.wordsV_at hu8)]
            simp [List.getD, hu8]
          have hset := hB.set j (.int .u32 (((h.list.getD j 0 + U.list.getD j 0) % 4294967296 : Nat) : Int))
          rw [Lanes.wordsV_set, sums_set] at hset
          have HS := Lib.hid hset
          have HZ := Lib.hid hZ
          have HV := Lib.hid hV
          have HB := Lib.hid hbel
          clear hset hZ hV hB hbel hs8 hu8
          generalize h.list.getD j 0 = x at *
          generalize U.list.getD j 0 = y at *
          go_upto_region 17 with (fail)
          have r0 : (j : Int) < 8 := by omega
          have v0 : (j : Int).toNat = j := by omega
          go_still_tail 8, (by kernel_rfl)
          change wpList _ _ _ _ _ wr.drew
          have hcd : wr.drew.cell? ⟨w.heap.size, j, none⟩ = some (.int .u32 (x : Int)) := hcB
          have hfd : wr.drew.frozen? ⟨w.heap.size, j, none⟩ = false := hfB
          clear hcB hfB hcV v0
          go_wp2
          go_roundw
          case rel =>
            have hv : ((x : Int) + (y : Int)) % 4294967296 = (((x + y) % 4294967296 : Nat) : Int) := by omega
            rw [hv]
            refine ⟨_, _, _, _, _, _, _, _, _, _, _, _, _, ⟨j + 1, by omega, ?_, HS.out.drew, (HZ.out.other w.heap.size j _ (by omega)).drew, (HV.out.other w.heap.size j _ (by omega)).drew, (HB.out.setCell (p := ⟨w.heap.size, j, none⟩) (Nat.le_refl _) _).drew⟩, rfl⟩
            go_num
          case measure => simp [intOf]; omega
        · have hd4 : decide ((j : Int) < 8) = false := by simp; omega
          obtain rfl : j = 8 := by omega
          rw [sums_end, ← HR.out] at hB
          have hB' : Whole wr w.heap.size 85 R.cells.toList := hB
          obtain ⟨c0, c1, c2, c3, c4, c5, c6, c7⟩ := whole_cells hB'
          have HZ2 := Lib.hid (show wr.heap[w.heap.size + 1]? = some (.cells zeros8.toArray 85 (0, 0)) from hZ)
          have HZ := Lib.hid hZ
          have HB := Lib.hid hbel
          clear hZ hV hbel hB hB'
          go_wp2_with ((with_reducible refine wpList_store_row rfl 85 (.tmp 4) (.tmp 90) rfl (w.heap.size + 1) #[.int .u32 (R.a : Int), .int .u32 (R.b : Int), .int .u32 (R.c : Int), .int .u32 (R.d : Int), .int .u32 (R.e : Int), .int .u32 (R.f : Int), .int .u32 (R.g : Int), .int .u32 (R.h : Int)] rfl rfl 85 zeros8.toArray HZ2.out (lit8 _ _ _ _ _ _ _ _).1 (lit8 _ _ _ _ _ _ _ _).2.1 (lit8 _ _ _ _ _ _ _ _).2.2 ?_))
          refine bodyPost_ret (v := R.val) ?_ rfl ⟨rfl, below_setRow HB.out (by omega) _⟩
          exact results_whole (ty := 85) Tryd.results59 _ _ (w.heap.size + 1) 85 [.int .u32 (R.a : Int), .int .u32 (R.b : Int), .int .u32 (R.c : Int), .int .u32 (R.d : Int), .int .u32 (R.e : Int), .int .u32 (R.f : Int), .int .u32 (R.g : Int), .int .u32 (R.h : Int)] _ (by simp [Act.put]) (Whole.setRow HZ.out _) Tryd.underlying85 rfl (lit8 _ _ _ _ _ _ _ _).1
end Go.Proofs.YtncafbejgidliaaDoor.RefSha
