/-
  The functions Start and roundWords of package digest answer what the plain mathematics of the text Sha says, and leave all memory that was there as it was. Conditions: the block has 64 bytes.
-/
import Derived.Test.YtncafbejgidliaaDoorDigRound
import Derived.Test.YtncafbejgidliaaDoorWhole
import Derived.Deep.RegionHeld3
import Derived.StillTailTactics
import Derived.Deep.RegionLaw
import Derived.Deep.RegionWith
import Derived.Deep.Cut
import Derived.Deep.DeepCutAuto
namespace Go.Proofs.YtncafbejgidliaaDoor.Sha
open Go.RowKit Mur
set_option maxRecDepth 100000

set_option maxHeartbeats 800000 in
theorem start_any (w : World) :
    Calls Tryd.prog 63 #[] w fun e w' => e = .returned start.val ∧ Below w.heap.size w w' := by
  go_enter Tryd.func63, Tryd.ntmps63
  go_wp2
  refine bodyPost_ret (v := start.val) ?_ rfl ⟨rfl, ?_⟩
  · simp [results, Tryd.results63, go_sem]
    rfl
  · exact (Below.refl _ _).alloc (Nat.le_refl _) _

theorem turn_q (x n : Nat) (k : Int) (w : World) (hk : k = (n : Int)) (hx : x < 4294967296) (h1 : 1 ≤ n) (h2 : n ≤ 31) :
    Calls Tryd.prog 84 #[.int .u32 x, .int .i64 k] w fun e w' => e = .returned (.int .u32 (rot x n : Nat)) ∧ w' = w := by
  subst hk
  exact (turn_any x n w hx h1 h2).mono fun _ _ h => ⟨h.1, h.2.symm⟩

/-- As many zeros behind l as make 64 words. -/
def padded (l : List Nat) : List Nat := l ++ List.replicate (64 - l.length) 0
theorem padded_length (l : List Nat) (h : l.length ≤ 64) : (padded l).length = 64 := by simp [padded]; omega

def zeros64 : List Value := List.replicate 64 (Value.int .u32 0)
theorem zero_info : (Tryd.prog.info? 92).map (fun i => (i.zero, i.size)) = some (some (.agg zeros64.toArray), zeros64.length) := by kernel_rfl
theorem zero_built : Tryd.prog.built 92 [] = some zeros64.toArray := by kernel_rfl
theorem zero_size : (Tryd.prog.info? 92).map (·.size) = some zeros64.length := by kernel_rfl
theorem zero_one : zeros64.toArray.all (·.oneCell') = true := by kernel_rfl

theorem sigA_int (x : Nat) (hx : x < 4294967296) : bits .xor .u32 (bits .xor .u32 (rot x 7 : Int) (rot x 18 : Int)) ((x : Int) / 8) = (sigA x : Int) := by
  have e : (x : Int) / 8 = ((x / 8 : Nat) : Int) := rfl
  rw [e, u32_xor_nat _ _ (rot_lt _ _ hx) (rot_lt _ _ hx), u32_xor_nat _ _ (xor_lt _ _ (rot_lt _ _ hx) (rot_lt _ _ hx)) (by omega)]
  rfl
theorem sigB_int (x : Nat) (hx : x < 4294967296) : bits .xor .u32 (bits .xor .u32 (rot x 17 : Int) (rot x 19 : Int)) ((x : Int) / 1024) = (sigB x : Int) := by
  have e : (x : Int) / 1024 = ((x / 1024 : Nat) : Int) := rfl
  rw [e, u32_xor_nat _ _ (rot_lt _ _ hx) (rot_lt _ _ hx), u32_xor_nat _ _ (xor_lt _ _ (rot_lt _ _ hx) (rot_lt _ _ hx)) (by omega)]
  rfl
theorem words_one (V : List Nat) : ∀ v ∈ Lanes.wordsV V, v.oneCell' = true := fun v hv => by
  simp only [Lanes.wordsV, List.mem_map] at hv
  obtain ⟨n, _, rfl⟩ := hv
  rfl
theorem splice_padded (ws : List Nat) (h : ws.length = 16) : splice zeros64 0 (Lanes.wordsV ws) = Lanes.wordsV (padded ws) := by
  simp [splice, h, zeros64, padded, Lanes.wordsV]
theorem padded_set (l : List Nat) (x : Nat) (h : l.length < 64) : (padded l).set l.length x = padded (l ++ [x]) := by
  obtain ⟨k, hk⟩ : ∃ k, 64 - l.length = k + 1 := ⟨63 - l.length, by omega⟩
  have hk' : 64 - (l.length + 1) = k := by omega
  simp [padded, hk, hk', List.replicate_succ]
theorem padded_at (l : List Nat) (i : Nat) (h : i < l.length) : (Lanes.wordsV (padded l))[i]? = some (.int .u32 (l.getD i 0 : Nat)) := by
  have hi : i < (padded l).length := by simp [padded]; omega
  rw [Lanes.wordsV_at hi]
  simp [padded, h]
theorem padded_cell {w : World} {b : Nat} {t : TypeId} {l : List Nat} (hB : Whole w b t (Lanes.wordsV (padded l))) (hall : ∀ x ∈ l, x < 4294967296) (i : Nat) (h : i < l.length) :
    ∃ x : Nat, l.getD i 0 = x ∧ x < 4294967296 ∧ w.cell? ⟨b, i, none⟩ = some (.int .u32 (x : Int)) :=
  ⟨_, rfl, by simp only [List.getD, List.getElem?_eq_getElem h, Option.getD_some]; exact hall _ (List.getElem_mem h), hB.row.cell (padded_at l i h)⟩

set_option maxHeartbeats 1600000 in
theorem words64_any (s : ByteArray) (w : World) (hs : s.size = 64) :
    Calls Tryd.prog 77 #[.string s] w fun e w' => e = .returned (.agg (Lanes.wordsV (wordsOf s.data.toList)).toArray) ∧ Below w.heap.size w w' := by
  have hl : s.size ≤ 140737488351232 := by omega
  have HZ := Lib.hid hs
  clear hs
  go_enter Tryd.func77, Tryd.ntmps77
  go_upto_region 2 with ((first
    | (with_reducible refine wpList_alloc_z rfl 92 rfl zeros64 zero_info ?_)
    | (with_reducible refine wpList_build_z rfl 92 rfl zeros64 zero_built ?_)
    | (with_reducible refine wpList_store_new rfl 92 _ _ rfl _ zeros64 zeros64 rfl rfl rfl zero_size rfl zero_one ?_)))
  have hA : Whole ((w.alloc (.cells zeros64.toArray 92)).alloc (.cells zeros64.toArray 92)) w.heap.size 92 zeros64 := (Whole.made _ _ _).alloc _
  have hB : Whole ((w.alloc (.cells zeros64.toArray 92)).alloc (.cells zeros64.toArray 92)) (w.heap.size + 1) 92 zeros64 := Whole.made' _ _ _ _ (by simp)
  have hbel : Below w.heap.size w ((w.alloc (.cells zeros64.toArray 92)).alloc (.cells zeros64.toArray 92)) := ((Below.refl _ _).alloc (Nat.le_refl _) _).alloc (by simp) _
  have hz : w.heap.size + 2 ≤ ((w.alloc (.cells zeros64.toArray 92)).alloc (.cells zeros64.toArray 92)).heap.size := by simp
  go_simp
  generalize ((w.alloc (.cells zeros64.toArray 92)).alloc (.cells zeros64.toArray 92)) = wx at *
  generalize zeros64.toArray = zz at *
  have hlen : (Lanes.words s.data.toList true).length = 16 := by rw [Lanes.words_length]; show s.size / 4 = 16; rw [HZ.out]
  have hfit : 0 + (Lanes.wordsV (Lanes.words s.data.toList true)).length ≤ zeros64.length := by rw [Lanes.wordsV_length, hlen]; decide
  have hone : ∀ v ∈ Lanes.wordsV (Lanes.words s.data.toList true), v.oneCell' = true := fun v hv => by
    simp only [Lanes.wordsV, List.mem_map] at hv
    obtain ⟨n, _, rfl⟩ := hv
    rfl
  have hmin : (Lanes.wordsV (Lanes.words s.data.toList true)).length = Nat.min (s.size / 4) 64 := by rw [Lanes.wordsV_length, hlen, HZ.out]; rfl
  have HL := Lib.hid hlen
  have HF := Lib.hid hfit
  have HO := Lib.hid hone
  have HM := Lib.hid hmin
  have HA := Lib.hid hA
  have HB := Lib.hid hB
  have HW := Lib.hid hbel
  have HZ2 := Lib.hid hz
  clear hlen hfit hone hmin hA hB hbel hz
  go_cut [] (fun wc => Whole wc w.heap.size 92 zeros64 ∧ Whole wc (w.heap.size + 1) 92 (splice zeros64 0 (Lanes.wordsV (Lanes.words s.data.toList true))) ∧ Below w.heap.size w wc)
  case first =>
    go_region_law ((first
      | (refine step_call rfl 83 Tryd.call83 #[.tmp 9, .const (.bool true)] #[9, 4] rfl #[.string s, .bool true] (by simp [Act.eval, Act.put]) _ _ (Lanes.words_any s true _ hl) ?_; rintro w1 ⟨hr1, hb1⟩)
      | (refine step_copy_splice rfl (.tmp 8) (.tmp 10) 89 89 rfl 84 Tryd.underlying89 (by kernel_rfl) (some ⟨w.heap.size + 1, 0, none⟩) (some ⟨wx.heap.size, 0, none⟩) 64 64 (s.size / 4) (s.size / 4) (by simp [Act.eval]) (by simp [Act.eval]) (w.heap.size + 1) 0 zeros64 92 (HB.out.drew.below (by have := HZ2.out; simp; omega) hb1) (Lanes.wordsV (Lanes.words s.data.toList true)) HM.out (fun _ => ⟨rfl, _, rfl, fun j v hv => by rw [Addr.add_mid, Nat.zero_add]; exact hr1.cell hv⟩) HF.out HO.out (w.heap.size + 1) w1 (Below.refl _ _) (Nat.le_refl _) ?_; intro w2 hg2 hb2)))
    go_wp2_with fail
    go_meet
    exact ⟨(HA.out.drew.below (by have := HZ2.out; simp; omega) hb1).below (by omega) hb2, hg2.out, HW.out.drew.trans ((hb1.mono (by have := HZ2.out; simp; omega)).trans (hb2.mono (by omega)))⟩
  case rest =>
    obtain ⟨hA, hB, hbel⟩ := hcut
    have hlt0 : ∀ x ∈ Lanes.words s.data.toList true, x < 4294967296 := Lanes.words_lt _ _
    have hw0 : wordsOf s.data.toList = ext (Lanes.words s.data.toList true) 48 := rfl
    rw [splice_padded _ HL.out] at hB
    have HW0 := Lib.hid hw0
    have HLT := Lib.hid hlt0
    generalize Lanes.words s.data.toList true = ws at *
    clear hw0 hlt0 HF HO HM HA HB HW HZ2
    have HA0 := Lib.hid hA
    have HB0 := Lib.hid hB
    have HW1 := Lib.hid hbel
    clear hA hB hbel
    go_wp2
    go_loopw [4] (fun i wr => ∃ n : Nat, 16 ≤ n ∧ n ≤ 64 ∧ i = .int .i64 n ∧ Whole wr w.heap.size 92 zeros64 ∧ Whole wr (w.heap.size + 1) 92 (Lanes.wordsV (padded (ext ws (n - 16)))) ∧ Below w.heap.size w wr) (fun i _ => 64 - (intOf i).toNat)
    case atStart => exact ⟨16, by omega, by omega, rfl, HA0.out, HB0.out, HW1.out⟩
    case round =>
      clear HA0 HB0 HW1
      obtain ⟨n, h16, h64, rfl, hA, hB, hbel⟩ := hrel
      have HA := Lib.hid hA
      have HW := Lib.hid hbel
      clear hA hbel
      have hlen : (ext ws (n - 16)).length = n := by rw [ext_length, HL.out]; omega
      have hall := ext_lt ws HLT.out (n - 16)
      by_cases hlt : n < 64
      · have hext : ext ws (n + 1 - 16) = ext ws (n - 16) ++ [next (ext ws (n - 16))] := by
          have e : n + 1 - 16 = (n - 16) + 1 := by omega
          rw [e]; rfl
        generalize ext ws (n - 16) = l at *
        obtain ⟨x15, hx15, hl15, hc15⟩ := padded_cell hB hall (n - 15) (by omega)
        obtain ⟨x2, hx2, hl2, hc2⟩ := padded_cell hB hall (n - 2) (by omega)
        obtain ⟨x16, hx16, hl16, hc16⟩ := padded_cell hB hall (n - 16) (by omega)
        obtain ⟨x7, hx7, hl7, hc7⟩ := padded_cell hB hall (n - 7) (by omega)
        obtain ⟨y, hcn⟩ : ∃ y, wr.cell? ⟨w.heap.size + 1, n, none⟩ = some y := ⟨_, hB.row.cell (i := n) (v := ((Lanes.wordsV (padded l))[n]'(by rw [Lanes.wordsV_length, padded_length l (by omega)]; omega))) (by simp)⟩
        have hfn : wr.frozen? ⟨w.heap.size + 1, n, none⟩ = false := hB.row.free (by rw [Lanes.wordsV_length, padded_length l (by omega)]; omega)
        have hset : (Lanes.wordsV (padded l)).set n (.int .u32 (next l : Int)) = Lanes.wordsV (padded (ext ws (n + 1 - 16))) := by
          rw [Lanes.wordsV_set, ← hlen, padded_set l _ (by omega), ← hext, hlen]
        have hnext : next l = (x16 + x7 + sigA x15 + sigB x2) % 4294967296 := by unfold next; rw [hlen, hx15, hx2, hx16, hx7]
        have HB := Lib.hid hB
        clear hB
        have HS := Lib.hid hset
        have HN := Lib.hid hnext
        have HL2 := Lib.hid hlen
        clear hset hext hnext hlen hall hx15 hx2 hx16 hx7
        have hd : decide ((n : Int) < 64) = true := by simp; omega
        go_upto_region 6 with (fail)
        have w15 : IntKind.i64.wrap ((n : Int) - 15) = (n : Int) - 15 := IntWalk.i64_in _ (by omega)
        have v15 : ((n : Int) - 15).toNat = n - 15 := by omega
        have p15 : 0 ≤ (n : Int) - 15 := by omega
        have q15 : (n : Int) - 15 < 64 := by omega
        have r15 : (15 : Int) ≤ (n : Int) := by omega
        have w2 : IntKind.i64.wrap ((n : Int) - 2) = (n : Int) - 2 := IntWalk.i64_in _ (by omega)
        have v2 : ((n : Int) - 2).toNat = n - 2 := by omega
        have p2 : 0 ≤ (n : Int) - 2 := by omega
        have q2 : (n : Int) - 2 < 64 := by omega
        have r2 : (2 : Int) ≤ (n : Int) := by omega
        go_quiet (fail)
        clear w15 v15 p15 q15 r15 w2 v2 p2 q2 r2
        go_upto_region 7 with (fail)
        have hcn' : (wr.drewN nq).cell? ⟨w.heap.size + 1, n, none⟩ = some y := hcn
        have hfn' : (wr.drewN nq).frozen? ⟨w.heap.size + 1, n, none⟩ = false := hfn
        have hc16' : (wr.drewN nq).cell? ⟨w.heap.size + 1, n - 16, none⟩ = some (.int .u32 (x16 : Int)) := hc16
        have hc7' : (wr.drewN nq).cell? ⟨w.heap.size + 1, n - 7, none⟩ = some (.int .u32 (x7 : Int)) := hc7
        have HA' := Lib.hid (HA.out.drewN nq)
        have HB' := Lib.hid (HB.out.drewN nq)
        have HW' := Lib.hid (belowN HW.out nq)
        clear hcn hfn hc15 hc2 hc16 hc7 HA HB HW
        generalize wr.drewN nq = wy at *
        have w16 : IntKind.i64.wrap ((n : Int) - 16) = (n : Int) - 16 := IntWalk.i64_in _ (by omega)
        have v16 : ((n : Int) - 16).toNat = n - 16 := by omega
        have p16 : 0 ≤ (n : Int) - 16 := by omega
        have q16 : (n : Int) - 16 < 64 := by omega
        have r16 : (16 : Int) ≤ (n : Int) := by omega
        have w7 : IntKind.i64.wrap ((n : Int) - 7) = (n : Int) - 7 := IntWalk.i64_in _ (by omega)
        have v7 : ((n : Int) - 7).toNat = n - 7 := by omega
        have p7 : 0 ≤ (n : Int) - 7 := by omega
        have q7 : (n : Int) - 7 < 64 := by omega
        have r7 : (7 : Int) ≤ (n : Int) := by omega
        have r0 : (n : Int) < 64 := by omega
        have v0 : (n : Int).toNat = n := by omega
        go_still_tail 29, (by kernel_rfl)
        repeat still_step
        still_call (turn_q x15 7 _ _ rfl hl15 (by omega) (by omega))
        repeat still_step
        still_call (turn_q x15 18 _ _ rfl hl15 (by omega) (by omega))
        repeat still_step
        still_call (turn_q x2 17 _ _ rfl hl2 (by omega) (by omega))
        repeat still_step
        still_call (turn_q x2 19 _ _ rfl hl2 (by omega) (by omega))
        repeat still_step
        refine wpStill_nil ?_
        change wpList _ _ _ _ _ wy.drew
        have hcd : wy.drew.cell? ⟨w.heap.size + 1, n, none⟩ = some y := hcn'
        have hfd : wy.drew.frozen? ⟨w.heap.size + 1, n, none⟩ = false := hfn'
        clear hcn' hfn' hc16' hc7' w16 v16 p16 q16 r16 w7 v7 p7 q7 r7 v0
        go_wp2
        go_roundw
        case rel =>
          rw [sigA_int x15 hl15, sigB_int x2 hl2]
          have hv : ((x16 : Int) + (x7 : Int) + (sigA x15 : Int) + (sigB x2 : Int)) % 4294967296 = (next l : Int) := by rw [HN.out]; omega
          rw [hv]
          refine ⟨n + 1, by omega, by omega, by go_num, (HA'.out.other (w.heap.size + 1) n _ (by omega)).drew, ?_, (HW'.out.setCell (p := ⟨w.heap.size + 1, n, none⟩) (by simp) _).drew⟩
          rw [← HS.out]
          exact (HB'.out.set n _).drew
        case measure => simp [intOf]; omega
      · have hd : decide ((n : Int) < 64) = false := by simp; omega
        obtain rfl : n = 64 := by omega
        have hpad : padded (ext ws (64 - 16)) = wordsOf s.data.toList := by
          rw [HW0.out]
          simp [padded, hlen]
        have hwl : (wordsOf s.data.toList).length = 64 := by rw [HW0.out]; exact hlen
        rw [hpad] at hB
        obtain ⟨V, hVeq⟩ : ∃ V, V = wordsOf s.data.toList := ⟨_, rfl⟩
        rw [← hVeq] at hB hwl
        have HVE := Lib.hid hVeq
        have hVl : (Lanes.wordsV V).length = 64 := by rw [Lanes.wordsV_length, hwl]
        have hVi : (Tryd.prog.info? 92).map (·.size) = some (Lanes.wordsV V).length := by rw [hVl]; exact zero_size
        have hVa : (Tryd.prog.info? 92).map (·.size) = some (Lanes.wordsV V).toArray.size := by rw [hVi]; simp
        have hVo : zeros64.toArray.size = (Lanes.wordsV V).toArray.size := by simp [hVl, zeros64]
        have hV1 : (Lanes.wordsV V).toArray.all (·.oneCell') = true := all_oneCell_toArray (words_one V)
        have HB := Lib.hid hB
        have HVi := Lib.hid hVi
        have HVa := Lib.hid hVa
        have HVo := Lib.hid hVo
        have HV1 := Lib.hid hV1
        clear hB hVl hVi hVa hVo hV1 hwl hpad hlen hall HW0 hVeq
        go_upto_region 8 with (fail)
        have hA' : wr.heap[w.heap.size]? = some (.cells zeros64.toArray 92 (0, 0)) := HA.out
        have hA2 := Lib.hid hA'
        clear hA'
        go_wp2_with ((first
          | (with_reducible refine wpList_load_mid rfl 92 (.tmp 3) rfl (w.heap.size + 1) 0 rfl (Lanes.wordsV V) _ HB.out.range Tryd.underlying92 rfl HVi.out ?_)
          | (with_reducible refine wpList_store_row rfl 92 (.tmp 2) (.tmp 53) rfl w.heap.size (Lanes.wordsV V).toArray rfl rfl 92 zeros64.toArray hA2.out HVa.out HVo.out HV1.out ?_)))
        refine bodyPost_ret (v := .agg (Lanes.wordsV V).toArray) ?_ rfl ⟨by rw [HVE.out], below_setRow HW.out (Nat.le_refl _) _⟩
        exact results_whole (ty := 92) Tryd.results77 _ _ w.heap.size 92 (Lanes.wordsV V) _ (by simp [Act.put]) (HA.out.setRow _) Tryd.underlying92 rfl HVi.out
end Go.Proofs.YtncafbejgidliaaDoor.Sha
