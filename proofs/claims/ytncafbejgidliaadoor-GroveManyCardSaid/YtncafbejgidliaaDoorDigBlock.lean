/-
  The function Block of package digest answers what the plain mathematics of the text Sha says, and leaves all memory that was there as it was. Conditions: the eight words are below 2^32, the constant table lies as the program's text lays it.
-/
import Derived.Test.YtncafbejgidliaaDoorDigWords
namespace Go.Proofs.YtncafbejgidliaaDoor.Sha
open Go.RowKit Mur
set_option maxRecDepth 100000

/-- The constant table lies in its block. -/
def Consts (w : World) : Prop := 1 < w.heap.size ∧ ∀ i, i < 64 → w.cell? ⟨1, i, none⟩ = some (.int .u32 (ks.getD i 0 : Nat))
theorem Consts.below {B : Nat} {w w' : World} (h : Consts w) (hB : 1 < B) (k : Below B w w') : Consts w' :=
  ⟨Nat.lt_of_lt_of_le h.1 k.size, fun i hi => by rw [k.cell (p := ⟨1, i, none⟩) hB]; exact h.2 i hi⟩
theorem Consts.drewN {w : World} (h : Consts w) (n : Nat) : Consts (w.drewN n) := h
theorem Consts.drew {w : World} (h : Consts w) : Consts w.drew := h

def zeros8 : List Value := List.replicate 8 (Value.int .u32 0)
theorem zero8_info : (Tryd.prog.info? 85).map (fun i => (i.zero, i.size)) = some (some (.agg zeros8.toArray), zeros8.length) := by kernel_rfl

/-- What a block's rounds lean on: the eight words that came in, the cell of the answer, the words of the rounds, the constants. -/
def Held (w0 : World) (B nW : Nat) (h : S8) (W : List Nat) (w : World) : Prop :=
  Whole w B 85 h.cells.toList ∧ Whole w (B + 1) 85 zeros8 ∧ Whole w nW 92 (Lanes.wordsV W) ∧ Consts w ∧ Below B w0 w
theorem Held.drewN {w0 : World} {B nW : Nat} {h : S8} {W : List Nat} {w : World} (k : Held w0 B nW h W w) (n : Nat) : Held w0 B nW h W (w.drewN n) :=
  ⟨k.1, k.2.1, k.2.2.1, k.2.2.2.1, belowN k.2.2.2.2 n⟩

theorem lit8 (a b c d e f g h : Int) : (Tryd.prog.info? 85).map (·.size) = some (#[Value.int .u32 a, .int .u32 b, .int .u32 c, .int .u32 d, .int .u32 e, .int .u32 f, .int .u32 g, .int .u32 h] : Array Value).size ∧
    zeros8.toArray.size = (#[Value.int .u32 a, .int .u32 b, .int .u32 c, .int .u32 d, .int .u32 e, .int .u32 f, .int .u32 g, .int .u32 h] : Array Value).size ∧
    (#[Value.int .u32 a, .int .u32 b, .int .u32 c, .int .u32 d, .int .u32 e, .int .u32 f, .int .u32 g, .int .u32 h] : Array Value).all (·.oneCell') = true := ⟨by kernel_rfl, rfl, by simp [Value.oneCell']⟩
theorem val_u32 {a b : Int} (h : a = b) : Value.int .u32 a = .int .u32 b := by rw [h]

set_option maxHeartbeats 400000 in
theorem block_other (h : S8) (b : ByteArray) (w : World) (hb : ¬ b.size = 64) :
    Calls Tryd.prog 72 #[h.val, .string b] w fun e w' => e = .returned h.val ∧ Below w.heap.size w w' := by
  obtain ⟨a0, a1, a2, a3, a4, a5, a6, a7⟩ := h
  simp only [S8.val, S8.cells]
  have hd : ((b.size : Int) != 64) = true := by simp; omega
  have hd' : ((b.size : Int) == 64) = false := by simp; omega
  have HB := Lib.hid hb
  clear hb
  go_enter Tryd.func72, Tryd.ntmps72
  go_wp2
  refine bodyPost_ret (v := .agg #[.int .u32 (a0 : Int), .int .u32 (a1 : Int), .int .u32 (a2 : Int), .int .u32 (a3 : Int), .int .u32 (a4 : Int), .int .u32 (a5 : Int), .int .u32 (a6 : Int), .int .u32 (a7 : Int)]) ?_ rfl ⟨rfl, ((Below.refl _ _).alloc (Nat.le_refl _) _).alloc (by simp) _⟩
  simp [results, Tryd.results72, go_sem]

theorem held_start (w w1 : World) (h : S8) (V : List Nat) (hb1 : Below ((w.alloc (.cells h.cells 85)).alloc (.cells zeros8.toArray 85)).heap.size ((w.alloc (.cells h.cells 85)).alloc (.cells zeros8.toArray 85)) w1) (hk : Consts w) :
    Held w w.heap.size w1.heap.size h V (w1.alloc (.cells (Lanes.wordsV V).toArray 92)) := by
  have hz : w.heap.size + 2 ≤ ((w.alloc (.cells h.cells 85)).alloc (.cells zeros8.toArray 85)).heap.size := by simp
  have hA : Whole ((w.alloc (.cells h.cells 85)).alloc (.cells zeros8.toArray 85)) w.heap.size 85 h.cells.toList := (Whole.made' w _ h.cells _ rfl).alloc _
  have hB : Whole ((w.alloc (.cells h.cells 85)).alloc (.cells zeros8.toArray 85)) (w.heap.size + 1) 85 zeros8 := Whole.made' _ _ zeros8.toArray _ (by simp)
  have hbel : Below w.heap.size w ((w.alloc (.cells h.cells 85)).alloc (.cells zeros8.toArray 85)) := ((Below.refl _ _).alloc (Nat.le_refl _) _).alloc (by simp) _
  have hW := hbel.trans (hb1.mono (by omega))
  exact ⟨(hA.below (by omega) hb1).alloc _, (hB.below (by omega) hb1).alloc _, Whole.made _ _ _, hk.below hk.1 (hW.alloc hW.size _), hW.alloc hW.size _⟩

theorem cells_at (h : S8) : h.cells.toList[0]? = some (.int .u32 (h.a : Int)) ∧ h.cells.toList[1]? = some (.int .u32 (h.b : Int)) ∧ h.cells.toList[2]? = some (.int .u32 (h.c : Int)) ∧ h.cells.toList[3]? = some (.int .u32 (h.d : Int)) ∧
    h.cells.toList[4]? = some (.int .u32 (h.e : Int)) ∧ h.cells.toList[5]? = some (.int .u32 (h.f : Int)) ∧ h.cells.toList[6]? = some (.int .u32 (h.g : Int)) ∧ h.cells.toList[7]? = some (.int .u32 (h.h : Int)) := ⟨rfl, rfl, rfl, rfl, rfl, rfl, rfl, rfl⟩
/-- The eight cells of a block that holds h. -/
theorem whole_cells {w : World} {b : Nat} {t : TypeId} {h : S8} (k : Whole w b t h.cells.toList) :
    w.cell? ⟨b, 0, none⟩ = some (.int .u32 (h.a : Int)) ∧ w.cell? ⟨b, 1, none⟩ = some (.int .u32 (h.b : Int)) ∧ w.cell? ⟨b, 2, none⟩ = some (.int .u32 (h.c : Int)) ∧ w.cell? ⟨b, 3, none⟩ = some (.int .u32 (h.d : Int)) ∧
    w.cell? ⟨b, 4, none⟩ = some (.int .u32 (h.e : Int)) ∧ w.cell? ⟨b, 5, none⟩ = some (.int .u32 (h.f : Int)) ∧ w.cell? ⟨b, 6, none⟩ = some (.int .u32 (h.g : Int)) ∧ w.cell? ⟨b, 7, none⟩ = some (.int .u32 (h.h : Int)) := by
  obtain ⟨c0, c1, c2, c3, c4, c5, c6, c7⟩ := cells_at h
  exact ⟨k.row.cell c0, k.row.cell c1, k.row.cell c2, k.row.cell c3, k.row.cell c4, k.row.cell c5, k.row.cell c6, k.row.cell c7⟩

set_option maxHeartbeats 1600000 in
theorem block_any (h : S8) (b : ByteArray) (w : World) (hh : h.Ok) (hb : b.size = 64) (hk : Consts w) :
    Calls Tryd.prog 72 #[h.val, .string b] w fun e w' => e = .returned (blockOf h b.data.toList).val ∧ Below w.heap.size w w' := by
  have hd : ((b.size : Int) != 64) = false := by simp; omega
  obtain ⟨V, hV⟩ : ∃ V, V = wordsOf b.data.toList := ⟨_, rfl⟩
  obtain ⟨R, hR⟩ : ∃ R, R = blockOf h b.data.toList := ⟨_, rfl⟩
  have hVl : V.length = 64 := by rw [hV]; unfold wordsOf; rw [ext_length, Lanes.words_length]; show b.size / 4 + 48 = 64; rw [hb]
  have hVlt : ∀ x ∈ V, x < 4294967296 := by rw [hV]; exact ext_lt _ (Lanes.words_lt _ _) _
  rw [← hR]
  have hR2 : R = add8 h (rounds V h 64) := by rw [hR, hV]; rfl
  have hVi : (Tryd.prog.info? 92).map (·.size) = some (Lanes.wordsV V).length := by rw [Lanes.wordsV_length, hVl]; exact zero_size
  have hVo : zeros64.length = (Lanes.wordsV V).length := by rw [Lanes.wordsV_length, hVl]; rfl
  have hV1 : (Lanes.wordsV V).toArray.all (·.oneCell') = true := all_oneCell_toArray (words_one V)
  have HV := Lib.hid hV
  have HR := Lib.hid hR2
  have HB := Lib.hid hb
  have HK := Lib.hid hk
  have HVl := Lib.hid hVl
  have HVlt := Lib.hid hVlt
  have HVi := Lib.hid hVi
  have HVo := Lib.hid hVo
  have HV1 := Lib.hid hV1
  have HH := Lib.hid hh
  clear hV hR hR2 hb hk hVl hVlt hVi hVo hV1 hh
  have hvv : h.val = .agg h.cells := rfl
  rw [hvv]
  clear hvv
  obtain ⟨hc, hhc⟩ : ∃ c, c = h.cells := ⟨_, rfl⟩
  have hhd : hc = h.cells := hhc
  rw [← hhd]
  have HHC := Lib.hid hhd
  have hlit : hc = #[.int .u32 (h.a : Int), .int .u32 (h.b : Int), .int .u32 (h.c : Int), .int .u32 (h.d : Int), .int .u32 (h.e : Int), .int .u32 (h.f : Int), .int .u32 (h.g : Int), .int .u32 (h.h : Int)] := hhc
  subst hlit
  clear hhc hhd
  go_enter Tryd.func72, Tryd.ntmps72
  go_upto_region 4 with ((first
    | (go_at_call 77; refine (words64_any _ _ HB.out).mono ?_; rintro e w1 ⟨rfl, hb1⟩; rw [← HV.out])
    | (with_reducible refine wpList_alloc_z rfl 92 rfl zeros64 zero_info ?_)
    | (with_reducible refine wpList_store_new rfl 92 _ _ rfl _ (Lanes.wordsV V) zeros64 rfl rfl rfl HVi.out HVo.out HV1.out ?_)))
  have hheld := held_start w w1 h V hb1 HK.out
  go_simp
  clear hb1
  generalize w1.alloc (.cells (Lanes.wordsV V).toArray 92) = wx at *
  generalize w1.heap.size = nW at *
  obtain ⟨c0, c1, c2, c3, c4, c5, c6, c7⟩ := whole_cells hheld.1
  have HE := Lib.hid hheld
  clear hheld
  go_quiet (fail)
  clear c0 c1 c2 c3 c4 c5 c6 c7
  have hheld := HE.out.drewN nq
  have HE' := Lib.hid hheld
  clear HE hheld
  generalize wx.drewN nq = wy at *
  go_wp2
  go_loopw [6, 7, 8, 9, 10, 11, 12, 13, 39] (fun s0 s1 s2 s3 s4 s5 s6 s7 i wr => ∃ k : Nat, k ≤ 64 ∧ Held w w.heap.size nW h V wr ∧ i = .int .i64 k ∧
    s0 = .int .u32 ((rounds V h k).a : Int) ∧ s1 = .int .u32 ((rounds V h k).b : Int) ∧ s2 = .int .u32 ((rounds V h k).c : Int) ∧ s3 = .int .u32 ((rounds V h k).d : Int) ∧
    s4 = .int .u32 ((rounds V h k).e : Int) ∧ s5 = .int .u32 ((rounds V h k).f : Int) ∧ s6 = .int .u32 ((rounds V h k).g : Int) ∧ s7 = .int .u32 ((rounds V h k).h : Int)) (fun _ _ _ _ _ _ _ _ i _ => 64 - (intOf i).toNat)
  case atStart => exact ⟨0, by omega, HE'.out, rfl, rfl, rfl, rfl, rfl, rfl, rfl, rfl, rfl⟩
  case round =>
    obtain ⟨k, hk64, hheld, rfl, rfl, rfl, rfl, rfl, rfl, rfl, rfl, rfl⟩ := hrel
    have hok := rounds_ok V h HH.out k
    by_cases hlt : k < 64
    · have hd2 : decide ((k : Int) < 64) = true := by simp; omega
      have hstep : rounds V h (k + 1) = roundOf (rounds V h k) ((V.getD k 0 + ks.getD k 0) % 4294967296) := rfl
      have hcx : wr.cell? ⟨nW, k, none⟩ = some (.int .u32 (V.getD k 0 : Nat)) := by
        have hl : k < V.length := by rw [HVl.out]; exact hlt
        rw [hheld.2.2.1.row.cell (Lanes.wordsV_at hl)]
        simp [List.getD, hl]
      have hcc := hheld.2.2.2.1.2 k hlt
      have hcg : (1 : Nat) < w.heap.size := HK.out.1
      generalize rounds V h k = S at *
      obtain ⟨va, vb, vc, vd, ve, vf, vg, vh⟩ := S
      obtain ⟨ha, hb, hc, hdd, he, hf, hg, hhh⟩ := hok
      dsimp only at ha hb hc hdd he hf hg hhh
      generalize V.getD k 0 = x at *
      generalize ks.getD k 0 = y at *
      have HS := Lib.hid hstep
      have HE := Lib.hid hheld
      have HG := Lib.hid hcg
      clear hstep hheld hcg
      dsimp only
      go_upto_region 8 with (fail)
      have r0 : (k : Int) < 64 := by omega
      have v0 : (k : Int).toNat = k := by omega
      go_quiet ((first
        | (go_at_call 78; exact Calls.quiet_of_same (lowSum_q _ _ _ ((vh + (x + y) % 4294967296) % 4294967296) _ _ he hf hg (by first | rfl | (simp only [IntKind.wrap_u32]; omega) | omega)))
        | (go_at_call 79; exact Calls.quiet_of_same (highSum_q _ _ _ _ ha hb hc))))
      clear v0 hcx hcc
      go_wp2
      go_roundw
      case rel =>
        have hmm : (vh + (x + y) % 4294967296) % 4294967296 = (vh + (x + y)) % 4294967296 := by omega
        refine ⟨k + 1, by omega, HE.out.drewN _, by go_num, ?_⟩
        rw [HS.out]
        simp only [roundOf, hmm, Int.natCast_emod, Int.natCast_add]
        exact ⟨rfl, trivial, trivial, trivial, rfl, trivial, trivial, trivial⟩
      case measure => simp [intOf]; omega
    · have hd2 : decide ((k : Int) < 64) = false := by simp; omega
      obtain rfl : k = 64 := by omega
      obtain ⟨c0, c1, c2, c3, c4, c5, c6, c7⟩ := whole_cells hheld.1
      generalize rounds V h 64 = S at *
      obtain ⟨va, vb, vc, vd, ve, vf, vg, vh⟩ := S
      have HE := Lib.hid hheld
      clear hheld hok
      dsimp only
      have hB : wr.heap[w.heap.size + 1]? = some (.cells zeros8.toArray 85 (0, 0)) := HE.out.2.1
      have hB2 := Lib.hid hB
      clear hB
      go_wp2_with ((with_reducible refine wpList_store_row rfl 85 (.tmp 4) (.tmp 104) rfl (w.heap.size + 1) #[.int .u32 (((h.a : Int) + (va : Int)) % 4294967296), .int .u32 (((h.b : Int) + (vb : Int)) % 4294967296), .int .u32 (((h.c : Int) + (vc : Int)) % 4294967296), .int .u32 (((h.d : Int) + (vd : Int)) % 4294967296), .int .u32 (((h.e : Int) + (ve : Int)) % 4294967296), .int .u32 (((h.f : Int) + (vf : Int)) % 4294967296), .int .u32 (((h.g : Int) + (vg : Int)) % 4294967296), .int .u32 (((h.h : Int) + (vh : Int)) % 4294967296)] rfl rfl 85 zeros8.toArray hB2.out (lit8 _ _ _ _ _ _ _ _).1 (lit8 _ _ _ _ _ _ _ _).2.1 (lit8 _ _ _ _ _ _ _ _).2.2 ?_))
      have hRv : R.val = .agg #[.int .u32 (((h.a : Int) + (va : Int)) % 4294967296), .int .u32 (((h.b : Int) + (vb : Int)) % 4294967296), .int .u32 (((h.c : Int) + (vc : Int)) % 4294967296), .int .u32 (((h.d : Int) + (vd : Int)) % 4294967296), .int .u32 (((h.e : Int) + (ve : Int)) % 4294967296), .int .u32 (((h.f : Int) + (vf : Int)) % 4294967296), .int .u32 (((h.g : Int) + (vg : Int)) % 4294967296), .int .u32 (((h.h : Int) + (vh : Int)) % 4294967296)] := by
        rw [HR.out]
        simp only [S8.val, S8.cells, add8, Int.natCast_emod, Int.natCast_add]
        rfl
      refine bodyPost_ret (v := R.val) ?_ rfl ⟨rfl, below_setRow HE.out.2.2.2.2 (by omega) _⟩
      rw [hRv]
      exact results_whole (ty := 85) Tryd.results72 _ _ (w.heap.size + 1) 85 [.int .u32 (((h.a : Int) + (va : Int)) % 4294967296), .int .u32 (((h.b : Int) + (vb : Int)) % 4294967296), .int .u32 (((h.c : Int) + (vc : Int)) % 4294967296), .int .u32 (((h.d : Int) + (vd : Int)) % 4294967296), .int .u32 (((h.e : Int) + (ve : Int)) % 4294967296), .int .u32 (((h.f : Int) + (vf : Int)) % 4294967296), .int .u32 (((h.g : Int) + (vg : Int)) % 4294967296), .int .u32 (((h.h : Int) + (vh : Int)) % 4294967296)] _ (by simp [Act.put]) (Whole.setRow HE.out.2.1 _) Tryd.underlying85 rfl (lit8 _ _ _ _ _ _ _ _).1
end Go.Proofs.YtncafbejgidliaaDoor.Sha
