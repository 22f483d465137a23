/-
  The function blocks of package digest answers what the plain mathematics of the text Sha says, and leaves all memory that was there as it was. Conditions: the eight words are below 2^32, the text takes no more than the reach of the form, the constant table lies as the program's text lays it.
-/
import Derived.Test.YtncafbejgidliaaDoorDigBlock
namespace Go.Proofs.YtncafbejgidliaaDoor.Sha
open Go.RowKit Mur
set_option maxRecDepth 100000

theorem extract_take (t : ByteArray) (n : Nat) : (t.extract 0 n).data.toList = t.data.toList.take n := by
  simp [ByteArray.data_extract]
theorem extract_drop (t : ByteArray) (n : Nat) : (t.extract n t.size).data.toList = t.data.toList.drop n := by
  have e : t.data.toList.length = t.size := rfl
  simp only [ByteArray.data_extract, Array.toList_extract, List.extract_eq_take_drop]
  rw [List.take_of_length_le (by rw [List.length_drop, e]; omega)]

/-- Eight cells that may be written. -/
theorem whole_free {w : World} {b : Nat} {t : TypeId} {h : S8} (k : Whole w b t h.cells.toList) :
    w.frozen? ⟨b, 0, none⟩ = false ∧ w.frozen? ⟨b, 1, none⟩ = false ∧ w.frozen? ⟨b, 2, none⟩ = false ∧ w.frozen? ⟨b, 3, none⟩ = false ∧ w.frozen? ⟨b, 4, none⟩ = false ∧ w.frozen? ⟨b, 5, none⟩ = false ∧ w.frozen? ⟨b, 6, none⟩ = false ∧ w.frozen? ⟨b, 7, none⟩ = false := by
  have hl : h.cells.toList.length = 8 := rfl
  exact ⟨k.row.free (by omega), k.row.free (by omega), k.row.free (by omega), k.row.free (by omega), k.row.free (by omega), k.row.free (by omega), k.row.free (by omega), k.row.free (by omega)⟩
theorem whole_set8 {w : World} {b : Nat} {t : TypeId} {h : S8} (k : Whole w b t h.cells.toList) (v : S8) :
    Whole ((((((((w.setCell ⟨b, 0, none⟩ (.int .u32 (v.a : Int))).setCell ⟨b, 1, none⟩ (.int .u32 (v.b : Int))).setCell ⟨b, 2, none⟩ (.int .u32 (v.c : Int))).setCell ⟨b, 3, none⟩ (.int .u32 (v.d : Int))).setCell ⟨b, 4, none⟩ (.int .u32 (v.e : Int))).setCell ⟨b, 5, none⟩ (.int .u32 (v.f : Int))).setCell ⟨b, 6, none⟩ (.int .u32 (v.g : Int))).setCell ⟨b, 7, none⟩ (.int .u32 (v.h : Int))) b t v.cells.toList :=
  (((((((k.set 0 _).set 1 _).set 2 _).set 3 _).set 4 _).set 5 _).set 6 _).set 7 _

theorem whole_other8 {w : World} {b c : Nat} {t : TypeId} {vs : List Value} (k : Whole w b t vs) (hc : c ≠ b) (x0 x1 x2 x3 x4 x5 x6 x7 : Value) :
    Whole ((((((((w.setCell ⟨c, 0, none⟩ x0).setCell ⟨c, 1, none⟩ x1).setCell ⟨c, 2, none⟩ x2).setCell ⟨c, 3, none⟩ x3).setCell ⟨c, 4, none⟩ x4).setCell ⟨c, 5, none⟩ x5).setCell ⟨c, 6, none⟩ x6).setCell ⟨c, 7, none⟩ x7) b t vs :=
  (((((((k.other c 0 _ hc).other c 1 _ hc).other c 2 _ hc).other c 3 _ hc).other c 4 _ hc).other c 5 _ hc).other c 6 _ hc).other c 7 _ hc
theorem below_set8 {B : Nat} {a w : World} (h : Below B a w) (c : Nat) (hc : B ≤ c) (x0 x1 x2 x3 x4 x5 x6 x7 : Value) :
    Below B a ((((((((w.setCell ⟨c, 0, none⟩ x0).setCell ⟨c, 1, none⟩ x1).setCell ⟨c, 2, none⟩ x2).setCell ⟨c, 3, none⟩ x3).setCell ⟨c, 4, none⟩ x4).setCell ⟨c, 5, none⟩ x5).setCell ⟨c, 6, none⟩ x6).setCell ⟨c, 7, none⟩ x7) :=
  (((((((h.setCell (p := ⟨c, 0, none⟩) hc _).setCell (p := ⟨c, 1, none⟩) hc _).setCell (p := ⟨c, 2, none⟩) hc _).setCell (p := ⟨c, 3, none⟩) hc _).setCell (p := ⟨c, 4, none⟩) hc _).setCell (p := ⟨c, 5, none⟩) hc _).setCell (p := ⟨c, 6, none⟩) hc _).setCell (p := ⟨c, 7, none⟩) hc _

theorem results_whole_tmp {P : Program} {fn : Func} {p q : Tmp} {ty : TypeId} (h : fn.results = #[.cell p ty, .tmp q]) (tmps : Array Value) (w : World) (b : Nat) (t : TypeId) (vs : List Value) (x : Value) (d : TypeDesc)
    (hp : tmps.getD p undef = .pointer (some ⟨b, 0, none⟩)) (hq : tmps.getD q undef = x) (hg : Whole w b t vs) (hu : P.underlying ty = some d) (hd : (match d with | .struct _ | .array _ _ => true | _ => false) = true) (hi : (P.info? ty).map (·.size) = some vs.length) :
    (results fn tmps).run P w = .ok (.tuple #[.agg vs.toArray, x]) w := by
  have hp' : tmps[p]?.getD undef = .pointer (some ⟨b, 0, none⟩) := by simpa using hp
  have hq' : tmps[q]?.getD undef = x := by simpa using hq
  simp [results, h, hp', hq', asAddr, run_loadVar_row w b t ty vs.toArray (0, 0) d hg hu hd (by simpa using hi)]

def strSize : Value → Nat
  | .string t => t.size
  | _ => 0

/-- What the loop over the blocks leans on. -/
def Going (w0 : World) (B : Nat) (h : S8) (w : World) : Prop := Whole w B 85 h.cells.toList ∧ Whole w (B + 1) 85 zeros8 ∧ Consts w ∧ Below B w0 w

set_option maxHeartbeats 1600000 in
theorem blocks_any (h : S8) (s : ByteArray) (w : World) (hh : h.Ok) (hs : s.size ≤ 140737488351232) (hk : Consts w) :
    Calls Tryd.prog 69 #[h.val, .string s] w fun e w' => e = .returned (.tuple #[(blocksOf h s.data.toList (s.size / 64)).val, .string ⟨(s.data.toList.drop (64 * (s.size / 64))).toArray⟩]) ∧ Below w.heap.size w w' := by
  have hvv : h.val = .agg #[.int .u32 (h.a : Int), .int .u32 (h.b : Int), .int .u32 (h.c : Int), .int .u32 (h.d : Int), .int .u32 (h.e : Int), .int .u32 (h.f : Int), .int .u32 (h.g : Int), .int .u32 (h.h : Int)] := rfl
  rw [hvv]
  clear hvv
  have HH := Lib.hid hh
  have HK := Lib.hid hk
  clear hh hk
  go_enter Tryd.func69, Tryd.ntmps69
  go_wp2
  go_loopw [1] (fun s1 wr => ∃ (k : Nat) (t : ByteArray), 64 * k ≤ s.size ∧ s1 = .string t ∧ t.data.toList = s.data.toList.drop (64 * k) ∧ Going w w.heap.size (blocksOf h s.data.toList k) wr) (fun s1 _ => strSize s1)
  case atStart =>
    refine ⟨0, s, by omega, rfl, by simp, ?_⟩
    refine ⟨(Whole.made' w _ h.cells _ rfl).alloc _, Whole.made' _ _ zeros8.toArray _ (by simp), HK.out.below HK.out.1 ?_, ?_⟩
    all_goals exact ((Below.refl _ _).alloc (Nat.le_refl _) _).alloc (by simp) _
  case round =>
    obtain ⟨k, t, hk, rfl, ht, hgo⟩ := hrel
    have hsz : t.size = s.size - 64 * k := by
      have e : t.data.toList.length = t.size := rfl
      have e2 : s.data.toList.length = s.size := rfl
      rw [← e, ht, List.length_drop, e2]
    have HG := Lib.hid hgo
    have HT := Lib.hid ht
    clear hgo ht
    by_cases h64 : 64 ≤ t.size
    · have hd : decide ((64 : Int) ≤ (t.size : Int)) = true := by simp; omega
      have hok : (blocksOf h s.data.toList k).Ok := blocksOf_ok _ HH.out _ _
      have HS := Lib.hid hsz
      clear hsz
      have hf := whole_cells HG.out.1
      have hk1 : 1 < w.heap.size := HK.out.1
      have hd3 : (64 : Int) ≤ (t.size : Int) := by omega
      go_upto_region 2 with (fail)
      generalize hSq : blocksOf h s.data.toList k = S at *
      have HSq := Lib.hid hSq
      have HO := Lib.hid hok
      have HK1 := Lib.hid hk1
      clear hSq hok hk1
      obtain ⟨va, vb, vc, vd, ve, vf, vg, vh⟩ := S
      dsimp only at hf
      obtain ⟨c0, c1, c2, c3, c4, c5, c6, c7⟩ := hf
      obtain ⟨T, hT⟩ : ∃ T, T = blockOf ⟨va, vb, vc, vd, ve, vf, vg, vh⟩ (t.extract 0 64).data.toList := ⟨_, rfl⟩
      have hcall : ∀ u, Consts u → Calls Tryd.prog 72 #[.agg #[.int .u32 (va : Int), .int .u32 (vb : Int), .int .u32 (vc : Int), .int .u32 (vd : Int), .int .u32 (ve : Int), .int .u32 (vf : Int), .int .u32 (vg : Int), .int .u32 (vh : Int)], .string (t.extract 0 64)] u
          fun e w' => e = .returned (.agg #[.int .u32 (T.a : Int), .int .u32 (T.b : Int), .int .u32 (T.c : Int), .int .u32 (T.d : Int), .int .u32 (T.e : Int), .int .u32 (T.f : Int), .int .u32 (T.g : Int), .int .u32 (T.h : Int)]) ∧ Below u.heap.size u w' := by
        intro u hu
        have := block_any ⟨va, vb, vc, vd, ve, vf, vg, vh⟩ (t.extract 0 64) u HO.out (by simp; omega) hu
        rw [← hT] at this
        exact this
      have hnext : T = blocksOf h s.data.toList (k + 1) := by
        rw [hT, extract_take t 64, HT.out, ← HSq.out]
        rfl
      have HC := Lib.hid hcall
      have HN := Lib.hid hnext
      clear hcall hT hnext
      go_region_law ((refine step_call rfl 72 Tryd.call72 #[.tmp 9, .tmp 11] #[85, 9] rfl #[.agg #[.int .u32 (va : Int), .int .u32 (vb : Int), .int .u32 (vc : Int), .int .u32 (vd : Int), .int .u32 (ve : Int), .int .u32 (vf : Int), .int .u32 (vg : Int), .int .u32 (vh : Int)], .string (t.extract 0 64)] (by simp [Act.eval]) _ _ (HC.out _ HG.out.2.2.1.drew) ?_; intro w1 hb1; have hw1 := (Whole.drew HG.out.1).below HG.out.1.lt hb1; obtain ⟨d0, d1, d2, d3, d4, d5, d6, d7⟩ := whole_cells hw1; obtain ⟨f0, f1, f2, f3, f4, f5, f6, f7⟩ := whole_free hw1; have HW1 := Lib.hid hw1; have HB1 := Lib.hid hb1; clear hw1 hb1))
      clear d0 d1 d2 d3 d4 d5 d6 d7 f0 f1 f2 f3 f4 f5 f6 f7
      go_wp2
      go_roundw
      case rel =>
        have hgo := HG.out
        have hb1 := HB1.out
        have hW := (Below.drew hgo.2.2.2).trans (hb1.mono hgo.2.2.2.size)
        have h8 := below_set8 hW w.heap.size (Nat.le_refl _) (.int .u32 (T.a : Int)) (.int .u32 (T.b : Int)) (.int .u32 (T.c : Int)) (.int .u32 (T.d : Int)) (.int .u32 (T.e : Int)) (.int .u32 (T.f : Int)) (.int .u32 (T.g : Int)) (.int .u32 (T.h : Int))
        repeat apply Exists.intro
        refine ⟨⟨k + 1, t.extract 64 t.size, by have := HS.out; omega, rfl, ?_, ?_⟩, rfl⟩
        · rw [extract_drop, HT.out, List.drop_drop]
          congr 1
        · rw [← HN.out]
          exact ⟨whole_set8 HW1.out T, whole_other8 ((Whole.drew hgo.2.1).below hgo.2.1.lt hb1) (by omega) _ _ _ _ _ _ _ _, HK.out.below HK1.out h8, h8⟩
      case measure =>
        show (t.extract 64 t.size).size < t.size
        simp
        omega
    · have hd : decide ((64 : Int) ≤ (t.size : Int)) = false := by simp; omega
      have HS := Lib.hid hsz
      clear hsz
      have hf := whole_cells HG.out.1
      have hkk : k = s.size / 64 := by have := HS.out; omega
      generalize hSq : blocksOf h s.data.toList k = S at *
      have HSq := Lib.hid hSq
      have HKK := Lib.hid hkk
      clear hSq hkk
      obtain ⟨va, vb, vc, vd, ve, vf, vg, vh⟩ := S
      dsimp only at hf
      obtain ⟨c0, c1, c2, c3, c4, c5, c6, c7⟩ := hf
      have hB : wr.heap[w.heap.size + 1]? = some (.cells zeros8.toArray 85 (0, 0)) := HG.out.2.1
      have hB2 := Lib.hid hB
      clear hB
      go_wp2_with ((with_reducible refine wpList_store_row rfl 85 (.tmp 4) (.tmp 15) rfl (w.heap.size + 1) #[.int .u32 (va : Int), .int .u32 (vb : Int), .int .u32 (vc : Int), .int .u32 (vd : Int), .int .u32 (ve : Int), .int .u32 (vf : Int), .int .u32 (vg : Int), .int .u32 (vh : Int)] rfl rfl 85 zeros8.toArray hB2.out (lit8 _ _ _ _ _ _ _ _).1 (lit8 _ _ _ _ _ _ _ _).2.1 (lit8 _ _ _ _ _ _ _ _).2.2 ?_))
      refine bodyPost_ret (v := .tuple #[.agg #[.int .u32 (va : Int), .int .u32 (vb : Int), .int .u32 (vc : Int), .int .u32 (vd : Int), .int .u32 (ve : Int), .int .u32 (vf : Int), .int .u32 (vg : Int), .int .u32 (vh : Int)], .string t]) ?_ rfl ⟨?_, below_setRow HG.out.2.2.2 (by omega) _⟩
      · exact results_whole_tmp (ty := 85) Tryd.results69 _ _ (w.heap.size + 1) 85 [.int .u32 (va : Int), .int .u32 (vb : Int), .int .u32 (vc : Int), .int .u32 (vd : Int), .int .u32 (ve : Int), .int .u32 (vf : Int), .int .u32 (vg : Int), .int .u32 (vh : Int)] _ _ (by simp) (by simp) (Whole.setRow HG.out.2.1 _) Tryd.underlying85 rfl (lit8 _ _ _ _ _ _ _ _).1
      · have e : t = ⟨(s.data.toList.drop (64 * (s.size / 64))).toArray⟩ := by
          rw [← HKK.out, ← HT.out]
        rw [← HKK.out, HSq.out, HKK.out, ← e]
        rfl
end Go.Proofs.YtncafbejgidliaaDoor.Sha
