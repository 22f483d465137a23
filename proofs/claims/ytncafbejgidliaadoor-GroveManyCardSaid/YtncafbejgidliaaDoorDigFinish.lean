/-
  The function finish of package digest answers what the plain mathematics of the text Sha says, and leaves all memory that was there as it was. Conditions: the eight words are below 2^32, the text takes no more than the reach of the form, the constant table lies as the program's text lays it.
-/
import Derived.Test.YtncafbejgidliaaDoorDigBlocks
import Derived.Test.YtncafbejgidliaaDoorLnHigh
import Derived.Test.YtncafbejgidliaaDoorUse
namespace Go.Proofs.YtncafbejgidliaaDoor.Sha
open Go.RowKit Mur
set_option maxRecDepth 100000

theorem blocks_call (h T : S8) (s r : ByteArray) (u : World) (hh : h.Ok) (hs : s.size ≤ 140737488351232) (hk : Consts u) (hT : T = blocksOf h s.data.toList (s.size / 64)) (hr : r = ⟨(s.data.toList.drop (64 * (s.size / 64))).toArray⟩) :
    Calls Tryd.prog 69 #[.agg #[.int .u32 (h.a : Int), .int .u32 (h.b : Int), .int .u32 (h.c : Int), .int .u32 (h.d : Int), .int .u32 (h.e : Int), .int .u32 (h.f : Int), .int .u32 (h.g : Int), .int .u32 (h.h : Int)], .string s] u
      fun e w' => e = .returned (.tuple #[.agg #[.int .u32 (T.a : Int), .int .u32 (T.b : Int), .int .u32 (T.c : Int), .int .u32 (T.d : Int), .int .u32 (T.e : Int), .int .u32 (T.f : Int), .int .u32 (T.g : Int), .int .u32 (T.h : Int)], .string r]) ∧ Below u.heap.size u w' := by
  subst hT hr
  exact blocks_any h s u hh hs hk

theorem s8_lt (v : S8) (h : v.Ok) : ∀ x ∈ v.list, x < 4294967296 := by
  obtain ⟨h1, h2, h3, h4, h5, h6, h7, h8⟩ := h
  intro x hx
  simp only [S8.list, List.mem_cons, List.not_mem_nil, or_false] at hx
  rcases hx with rfl | rfl | rfl | rfl | rfl | rfl | rfl | rfl <;> assumption
theorem cells_get (v : S8) (i : Nat) (h : i < v.list.length) : v.cells.toList[i]? = some (.int .u32 (v.list[i] : Int)) := by
  have e : v.cells.toList = v.list.map fun (n : Nat) => Value.int .u32 (n : Int) := rfl
  rw [e, List.getElem?_map, List.getElem?_eq_getElem h]
  rfl
theorem repeat_zero (F : Nat) : Lib.repeatL [0] F = List.replicate F 0 := by
  induction F with
  | zero => rfl
  | succ F ih => rw [Lib.repeatL, ih, List.replicate_succ]; rfl
theorem finish_end (h : S8) (s r Z H X : ByteArray) (long F L8 : Nat) (T : S8) (hT : T = blocksOf h s.data.toList (s.size / 64)) (hr : r.data.toList = s.data.toList.drop (64 * (s.size / 64))) (hrs : r.size = s.size % 64)
    (hX : X = r ++ ⟨#[128]⟩ ++ Z ++ H) (hZ : Z = ⟨(Lib.repeatL (⟨#[0]⟩ : ByteArray).data.toList F).toArray⟩) (hH : H = ⟨(Lanes.high L8 (Lanes.widthOf 8)).toArray⟩) (hL : L8 = 8 * long % 18446744073709551616) (hF : fillOf r.size = F) :
    finish h s.data.toList long = Lanes.text (blocksOf T X.data.toList ((r.size + 1 + F + 8) / 64)).list true := by
  have hw8 : Lanes.widthOf 8 = 8 := rfl
  have hl : s.data.toList.length = s.size := rfl
  have hXl : X.data.toList = s.data.toList.drop (64 * (s.size / 64)) ++ tail (s.size % 64) long := by
    rw [hX, hZ, hH, hL, hw8, ← hF, hrs]
    simp only [ByteArray.data_append, Array.toList_append, hr, tail, List.append_assoc]
    congr 1
    show [128] ++ _ = [128] ++ _
    congr 1
    rw [repeat_zero]
  have htl : (tail (s.size % 64) long).length = 1 + F + 8 := by
    rw [← hF, hrs]
    simp [tail, Lanes.high]
    omega
  unfold finish
  rw [hl, htl, hXl, ← hT, hrs, Nat.add_assoc, Nat.add_assoc, Nat.add_assoc]
set_option maxHeartbeats 1600000 in
theorem finish_any (h : S8) (s : ByteArray) (long : Nat) (w : World) (hh : h.Ok) (hs : s.size ≤ 140737488351232) (hk : Consts w) :
    Calls Tryd.prog 62 #[h.val, .string s, .int .u64 long] w fun e w' => e = .returned (.string ⟨(finish h s.data.toList long).toArray⟩) ∧ Below w.heap.size w w' := by
  obtain ⟨T, hT⟩ : ∃ T, T = blocksOf h s.data.toList (s.size / 64) := ⟨_, rfl⟩
  obtain ⟨r, hr⟩ : ∃ r : ByteArray, r = ⟨(s.data.toList.drop (64 * (s.size / 64))).toArray⟩ := ⟨_, rfl⟩
  have hrl : r.data.toList = s.data.toList.drop (64 * (s.size / 64)) := by rw [hr]
  have hrs : r.size = s.size % 64 := by
    have e : r.data.toList.length = r.size := rfl
    have e2 : s.data.toList.length = s.size := rfl
    rw [← e, hrl, List.length_drop, e2]
    omega
  have hTo : T.Ok := by rw [hT]; exact blocksOf_ok h hh _ _
  have hcall := fun u hk => blocks_call h T s r u hh hs hk hT hr
  have hvv : h.val = .agg #[.int .u32 (h.a : Int), .int .u32 (h.b : Int), .int .u32 (h.c : Int), .int .u32 (h.d : Int), .int .u32 (h.e : Int), .int .u32 (h.f : Int), .int .u32 (h.g : Int), .int .u32 (h.h : Int)] := rfl
  rw [hvv]
  have HH := Lib.hid hh
  have HK := Lib.hid hk
  have HT := Lib.hid hT
  have HRL := Lib.hid hrl
  have HRS := Lib.hid hrs
  have HTO := Lib.hid hTo
  have HC := Lib.hid hcall
  have hr63 : r.size ≤ 63 := by omega
  clear hh hk hT hr hrl hrs hTo hcall hvv
  go_enter Tryd.func62, Tryd.ntmps62
  go_wp2_with fail
  refine (HC.out _ (HK.out.below HK.out.1 ((Below.refl _ _).alloc (Nat.le_refl _) _))).mono ?_
  rintro e w1 ⟨rfl, hb1⟩
  have hw0 : Whole (w.alloc (.cells h.cells 85)) w.heap.size 85 h.cells.toList := Whole.made' w _ h.cells _ rfl
  have hw1 : Whole w1 w.heap.size 85 h.cells.toList := hw0.below (by simp) hb1
  have hbel : Below w.heap.size w w1 := ((Below.refl _ _).alloc (Nat.le_refl _) _).trans (hb1.mono (by simp))
  have hw1' : w1.heap[w.heap.size]? = some (.cells h.cells 85 (0, 0)) := hw1
  have hcs : h.cells.size = (#[.int .u32 (T.a : Int), .int .u32 (T.b : Int), .int .u32 (T.c : Int), .int .u32 (T.d : Int), .int .u32 (T.e : Int), .int .u32 (T.f : Int), .int .u32 (T.g : Int), .int .u32 (T.h : Int)] : Array Value).size := rfl
  have HW1 := Lib.hid hw1
  have HW2 := Lib.hid hw1'
  have HCS := Lib.hid hcs
  have HB := Lib.hid hbel
  clear hw0 hw1 hb1 hbel hw1' hcs
  go_upto_region 2 with ((with_reducible refine wpList_store_row rfl 85 (.tmp 3) (.tmp 12) rfl w.heap.size #[.int .u32 (T.a : Int), .int .u32 (T.b : Int), .int .u32 (T.c : Int), .int .u32 (T.d : Int), .int .u32 (T.e : Int), .int .u32 (T.f : Int), .int .u32 (T.g : Int), .int .u32 (T.h : Int)] rfl rfl 85 h.cells HW2.out (lit8 _ _ _ _ _ _ _ _).1 HCS.out (lit8 _ _ _ _ _ _ _ _).2.2 ?_))
  have hw2 : Whole (w1.setRow w.heap.size #[.int .u32 (T.a : Int), .int .u32 (T.b : Int), .int .u32 (T.c : Int), .int .u32 (T.d : Int), .int .u32 (T.e : Int), .int .u32 (T.f : Int), .int .u32 (T.g : Int), .int .u32 (T.h : Int)]) w.heap.size 85 T.cells.toList := HW1.out.setRow T.cells.toList
  have hb2 : Below w.heap.size w (w1.setRow w.heap.size #[.int .u32 (T.a : Int), .int .u32 (T.b : Int), .int .u32 (T.c : Int), .int .u32 (T.d : Int), .int .u32 (T.e : Int), .int .u32 (T.f : Int), .int .u32 (T.g : Int), .int .u32 (T.h : Int)]) := below_setRow HB.out (Nat.le_refl _) _
  have HWY := Lib.hid hw2
  have HBY := Lib.hid hb2
  clear hw2 hb2 HW1 HW2 HCS HB
  generalize w1.setRow w.heap.size #[.int .u32 (T.a : Int), .int .u32 (T.b : Int), .int .u32 (T.c : Int), .int .u32 (T.d : Int), .int .u32 (T.e : Int), .int .u32 (T.f : Int), .int .u32 (T.g : Int), .int .u32 (T.h : Int)] = wy at *
  have hF : (128 - (r.size : Int) - 1 - 8) % 64 = (fillOf r.size : Nat) := by unfold fillOf; omega
  have hF63 : fillOf r.size ≤ 63 := by unfold fillOf; omega
  generalize hFq : fillOf r.size = F at *
  have HFQ := Lib.hid hFq
  clear hFq
  go_upto_region 3 with (fail)
  rw [hF]
  clear hF
  have hw8 : IntKind.u64.wrap (8 * (long : Int)) = ((8 * long % 18446744073709551616 : Nat) : Int) := by rw [IntKind.wrap_u64]; omega
  have hL8 : 8 * long % 18446744073709551616 < 18446744073709551616 := Nat.mod_lt _ (by decide)
  obtain ⟨L8, hL8q⟩ : ∃ L8, L8 = 8 * long % 18446744073709551616 := ⟨_, rfl⟩
  rw [← hL8q] at hw8 hL8
  have HL8 := Lib.hid hL8q
  have HW8 := Lib.hid hw8
  clear hL8q hw8
  obtain ⟨Z, hZ⟩ : ∃ Z : ByteArray, Z = ⟨(Lib.repeatL (⟨#[0]⟩ : ByteArray).data.toList F).toArray⟩ := ⟨_, rfl⟩
  obtain ⟨H, hH⟩ : ∃ H : ByteArray, H = ⟨(Lanes.high L8 (Lanes.widthOf 8)).toArray⟩ := ⟨_, rfl⟩
  have hZs : Z.size = F := by rw [hZ]; show (Lib.repeatL _ F).length = F; rw [Lib.repeatL_length]; show F * 1 = F; omega
  have hHs : H.size = 8 := by rw [hH]; show (Lanes.high L8 (Lanes.widthOf 8)).length = 8; simp only [Lanes.high, List.length_map, List.length_range]; rfl
  obtain ⟨X, hX⟩ : ∃ X : ByteArray, X = r ++ ⟨#[128]⟩ ++ Z ++ H := ⟨_, rfl⟩
  have hXs : X.size = r.size + 1 + F + 8 := by
    rw [hX]
    simp only [ByteArray.size_append, hZs, hHs]
    rfl
  obtain ⟨U, hU⟩ : ∃ U, U = blocksOf T X.data.toList (X.size / 64) := ⟨_, rfl⟩
  obtain ⟨r2, hr2⟩ : ∃ r2 : ByteArray, r2 = ⟨(X.data.toList.drop (64 * (X.size / 64))).toArray⟩ := ⟨_, rfl⟩
  have hc1 : ∀ u, Calls Tryd.prog 70 #[.string ⟨#[0]⟩, .int .i64 (F : Int)] u fun e w' => e = .returned (.string Z) ∧ Below u.heap.size u w' := fun u => by
    rw [hZ]; exact Use.repeat_any ⟨#[0]⟩ F u (by omega) (by show 1 * F ≤ _; omega)
  have hc2 : ∀ u, Calls Tryd.prog 45 #[.int .u64 (L8 : Int), .int .i64 8] u fun e w' => e = .returned (.string H) ∧ Below u.heap.size u w' := fun u => by
    rw [hH]; exact Lanes.high_any L8 8 u hL8 (by omega) (by omega)
  have hc3 := fun u hk => blocks_call T U X r2 u HTO.out (by rw [hXs]; omega) hk hU hr2
  have hky := HK.out.below HK.out.1 HBY.out
  have n1 : ¬ 9223372036854775807 < r.size + 1 := by omega
  have n2 : ¬ 9223372036854775807 < r.size + 1 + Z.size := by omega
  have n3 : ¬ 9223372036854775807 < r.size + 1 + Z.size + H.size := by omega
  have HX := Lib.hid hX
  have HC1 := Lib.hid hc1
  have HC2 := Lib.hid hc2
  have HC3 := Lib.hid hc3
  have HU := Lib.hid hU
  have HZ := Lib.hid hZ
  have HHH := Lib.hid hH
  have HXS := Lib.hid hXs
  have HKY := Lib.hid hky
  have hk1 : 1 < w.heap.size := HK.out.1
  have HK1 := Lib.hid hk1
  clear hX hZ hH hZs hHs hXs hU hr2 hc1 hc2 hc3 hky hk1 hL8
  go_cut [] (fun wc => Whole wc w.heap.size 85 U.cells.toList ∧ Below w.heap.size w wc)
  case first =>
    obtain ⟨c0, c1, c2, c3, c4, c5, c6, c7⟩ := whole_cells HWY.out
    have hw8 := HW8.out
    go_region_law ((first
      | (refine step_call rfl 70 Tryd.call70 #[.const (.string ⟨#[0]⟩), .tmp 24] #[9, 3] rfl #[.string ⟨#[0]⟩, .int .i64 (F : Int)] (by first | (simp [Act.eval]; done) | simp [Act.eval, Act.put]) _ _ (HC1.out _) ?_; intro wa hba; have hwa := (Whole.drew HWY.out).below HWY.out.lt hba; obtain ⟨d0, d1, d2, d3, d4, d5, d6, d7⟩ := whole_cells hwa; have hka := HKY.out.drew.below HKY.out.1 hba; have HKA := Lib.hid hka; have HWA := Lib.hid hwa; have HBA := Lib.hid hba; clear hwa hba hka)
      | (refine step_call rfl 45 Tryd.call45 #[.tmp 28, .const (.int .i64 8)] #[32, 3] rfl #[.int .u64 (L8 : Int), .int .i64 8] (by simp [Act.eval, Act.put]) _ _ (HC2.out _) ?_; intro wb hbb; have hwb := HWA.out.below HWA.out.lt hbb; obtain ⟨e0, e1, e2, e3, e4, e5, e6, e7⟩ := whole_cells hwb; have hkb := HKA.out.below HKA.out.1 hbb; have HKB := Lib.hid hkb; have HWB := Lib.hid hwb; have HBB := Lib.hid hbb; clear hwb hbb hkb)
      | (refine step_call rfl 69 Tryd.call69 #[.tmp 21, .tmp 30] #[85, 9] rfl #[.agg #[.int .u32 (T.a : Int), .int .u32 (T.b : Int), .int .u32 (T.c : Int), .int .u32 (T.d : Int), .int .u32 (T.e : Int), .int .u32 (T.f : Int), .int .u32 (T.g : Int), .int .u32 (T.h : Int)], .string X] (by rw [HX.out]; simp [Act.eval, Act.put]) _ _ (HC3.out _ HKB.out) ?_; intro wd hbd; have hwd := HWB.out.below HWB.out.lt hbd; obtain ⟨g0, g1, g2, g3, g4, g5, g6, g7⟩ := whole_cells hwd; obtain ⟨f0, f1, f2, f3, f4, f5, f6, f7⟩ := whole_free hwd; have HWD := Lib.hid hwd; have HBD := Lib.hid hbd; clear hwd hbd)))
    all_goals
      clear hw8
      go_wp2_with fail
      go_meet
      have hby := HBY.out
      have hba := HBA.out
      have hbb := HBB.out
      have hbd := HBD.out
      have z1 : w.heap.size ≤ wy.heap.size := hby.size
      have z2 : wy.heap.size ≤ wa.heap.size := hba.size
      have z3 : wa.heap.size ≤ wb.heap.size := hbb.size
      exact ⟨whole_set8 HWD.out U, below_set8 (((hby.drew.trans (hba.mono z1)).trans (hbb.mono (Nat.le_trans z1 z2))).trans (hbd.mono (Nat.le_trans z1 (Nat.le_trans z2 z3)))) w.heap.size (Nat.le_refl _) _ _ _ _ _ _ _ _⟩
  case rest =>
    obtain ⟨hw, hb⟩ := hcut
    have htext : Calls Tryd.prog 71 #[.slice (some ⟨w.heap.size, 0, none⟩) 8 8, .bool true] wc fun e w' => e = .returned (.string ⟨(Lanes.text U.list true).toArray⟩) ∧ Below wc.heap.size wc w' :=
      Lanes.text_some U.list w.heap.size 0 8 true wc (by show 8 ≤ _; omega) (s8_lt U (by rw [HU.out]; exact blocksOf_ok _ HTO.out _ _)) hw.lt (fun i hi => by rw [Nat.zero_add]; exact hw.row.cell (cells_get U i hi))
    have hend : finish h s.data.toList long = Lanes.text U.list true := by
      rw [HU.out, HXS.out]
      exact finish_end h s r Z H X long F L8 T HT.out HRL.out HRS.out HX.out HZ.out HHH.out HL8.out HFQ.out
    have HE := Lib.hid htext
    have HEND := Lib.hid hend
    have HB := Lib.hid hb
    clear htext hw hb hend
    go_wp2_with fail
    refine HE.out.mono ?_
    rintro e w3 ⟨rfl, hb3⟩
    go_wp2
    go_ret
    exact ⟨congrArg (fun l : List UInt8 => Ending.returned (.string ⟨l.toArray⟩)) HEND.out.symm, HB.out.trans (hb3.mono HB.out.size)⟩
end Go.Proofs.YtncafbejgidliaaDoor.Sha
