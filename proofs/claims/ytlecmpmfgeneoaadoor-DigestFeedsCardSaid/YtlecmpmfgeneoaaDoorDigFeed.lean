/-
  The functions Begin, Feed and End of package digest, of feeders that were fed few bytes, answer what the plain mathematics of the text Sha says, and leave all memory that was there as it was. Conditions: at most a million bytes so far and at once, the eight words are below 2^32, the constant table lies as the program's text lays it.
-/
import Derived.Test.YtlecmpmfgeneoaaDoorDigAwake
import Derived.Test.YtlecmpmfgeneoaaDoorDigSplit
namespace Go.Proofs.YtlecmpmfgeneoaaDoor.Sha
open Go.RowKit Mur

/-- A feeder's ten cells. -/
def feedC (v : S8) (r : ByteArray) (long : Int) : List Value := [.int .u32 (v.a : Int), .int .u32 (v.b : Int), .int .u32 (v.c : Int), .int .u32 (v.d : Int), .int .u32 (v.e : Int), .int .u32 (v.f : Int), .int .u32 (v.g : Int), .int .u32 (v.h : Int), .string r, .int .i64 long]
theorem feed_info (v : S8) (r : ByteArray) (long : Int) : (Tryd.prog.info? 42).map (·.size) = some (feedC v r long).length ∧ (Tryd.prog.info? 42).map (·.size) = some (feedC v r long).toArray.size ∧ (feedC v r long).toArray.all (·.oneCell') = true := ⟨by kernel_rfl, by kernel_rfl, by simp [feedC, Value.oneCell']⟩
theorem feed_cells {w : World} {b : Nat} {t : TypeId} {v : S8} {r : ByteArray} {long : Int} (k : Whole w b t (feedC v r long)) :
    w.cell? ⟨b, 0, none⟩ = some (.int .u32 (v.a : Int)) ∧ w.cell? ⟨b, 1, none⟩ = some (.int .u32 (v.b : Int)) ∧ w.cell? ⟨b, 2, none⟩ = some (.int .u32 (v.c : Int)) ∧ w.cell? ⟨b, 3, none⟩ = some (.int .u32 (v.d : Int)) ∧
    w.cell? ⟨b, 4, none⟩ = some (.int .u32 (v.e : Int)) ∧ w.cell? ⟨b, 5, none⟩ = some (.int .u32 (v.f : Int)) ∧ w.cell? ⟨b, 6, none⟩ = some (.int .u32 (v.g : Int)) ∧ w.cell? ⟨b, 7, none⟩ = some (.int .u32 (v.h : Int)) ∧
    w.cell? ⟨b, 8, none⟩ = some (.string r) ∧ w.cell? ⟨b, 9, none⟩ = some (.int .i64 long) :=
  ⟨k.row.cell rfl, k.row.cell rfl, k.row.cell rfl, k.row.cell rfl, k.row.cell rfl, k.row.cell rfl, k.row.cell rfl, k.row.cell rfl, k.row.cell rfl, k.row.cell rfl⟩

theorem feed_free {w : World} {b : Nat} {t : TypeId} {v : S8} {r : ByteArray} {long : Int} (k : Whole w b t (feedC v r long)) :
    w.frozen? ⟨b, 0, none⟩ = false ∧ w.frozen? ⟨b, 1, none⟩ = false ∧ w.frozen? ⟨b, 2, none⟩ = false ∧ w.frozen? ⟨b, 3, none⟩ = false ∧ w.frozen? ⟨b, 4, none⟩ = false ∧ w.frozen? ⟨b, 5, none⟩ = false ∧ w.frozen? ⟨b, 6, none⟩ = false ∧ w.frozen? ⟨b, 7, none⟩ = false ∧ w.frozen? ⟨b, 8, none⟩ = false ∧ w.frozen? ⟨b, 9, none⟩ = false := by
  have hl : (feedC v r long).length = 10 := rfl
  exact ⟨k.row.free (by omega), k.row.free (by omega), k.row.free (by omega), k.row.free (by omega), k.row.free (by omega), k.row.free (by omega), k.row.free (by omega), k.row.free (by omega), k.row.free (by omega), k.row.free (by omega)⟩
theorem feed_set {w : World} {b : Nat} {t : TypeId} {v0 : S8} {r0 : ByteArray} {long0 : Int} (k : Whole w b t (feedC v0 r0 long0)) (v : S8) (r : ByteArray) (long : Int) :
    Whole ((((((((((w.setCell ⟨b, 0, none⟩ (.int .u32 (v.a : Int))).setCell ⟨b, 1, none⟩ (.int .u32 (v.b : Int))).setCell ⟨b, 2, none⟩ (.int .u32 (v.c : Int))).setCell ⟨b, 3, none⟩ (.int .u32 (v.d : Int))).setCell ⟨b, 4, none⟩ (.int .u32 (v.e : Int))).setCell ⟨b, 5, none⟩ (.int .u32 (v.f : Int))).setCell ⟨b, 6, none⟩ (.int .u32 (v.g : Int))).setCell ⟨b, 7, none⟩ (.int .u32 (v.h : Int))).setCell ⟨b, 8, none⟩ (.string r)).setCell ⟨b, 9, none⟩ (.int .i64 long)) b t (feedC v r long) := ((((((((((k.set 0 _).set 1 _).set 2 _).set 3 _).set 4 _).set 5 _).set 6 _).set 7 _).set 8 _).set 9 _)
theorem below_set10 {B : Nat} {a w : World} (h : Below B a w) (b : Nat) (hb : B ≤ b) (v : S8) (r : ByteArray) (long : Int) :
    Below B a ((((((((((w.setCell ⟨b, 0, none⟩ (.int .u32 (v.a : Int))).setCell ⟨b, 1, none⟩ (.int .u32 (v.b : Int))).setCell ⟨b, 2, none⟩ (.int .u32 (v.c : Int))).setCell ⟨b, 3, none⟩ (.int .u32 (v.d : Int))).setCell ⟨b, 4, none⟩ (.int .u32 (v.e : Int))).setCell ⟨b, 5, none⟩ (.int .u32 (v.f : Int))).setCell ⟨b, 6, none⟩ (.int .u32 (v.g : Int))).setCell ⟨b, 7, none⟩ (.int .u32 (v.h : Int))).setCell ⟨b, 8, none⟩ (.string r)).setCell ⟨b, 9, none⟩ (.int .i64 long)) := ((((((((((h.setCell (p := ⟨b, 0, none⟩) hb _).setCell (p := ⟨b, 1, none⟩) hb _).setCell (p := ⟨b, 2, none⟩) hb _).setCell (p := ⟨b, 3, none⟩) hb _).setCell (p := ⟨b, 4, none⟩) hb _).setCell (p := ⟨b, 5, none⟩) hb _).setCell (p := ⟨b, 6, none⟩) hb _).setCell (p := ⟨b, 7, none⟩) hb _).setCell (p := ⟨b, 8, none⟩) hb _).setCell (p := ⟨b, 9, none⟩) hb _)

set_option maxHeartbeats 400000 in
theorem free_any (long : Nat) (w : World) (hl : long ≤ 1000000) :
    Calls Tryd.prog 36 #[.int .i64 (long : Int)] w fun e w' => e = .returned (.int .i64 (2000000000 - (long : Int))) ∧ w = w' := by
  have hm : min (max (long : Int) 0) 2000000000 = (long : Int) := by omega
  go_enter Tryd.func36, Tryd.ntmps36
  go_wp2
  go_ret
  exact ⟨Lanes.ret_int (by omega), rfl⟩

def S8.zero : S8 := ⟨0, 0, 0, 0, 0, 0, 0, 0⟩
set_option maxHeartbeats 400000 in
theorem begin_any (w : World) :
    Calls Tryd.prog 20 #[] w fun e w' => e = .returned (.agg (feedC Sha.start ⟨#[]⟩ 0).toArray) ∧ Below w.heap.size w w' := by
  go_enter Tryd.func20, Tryd.ntmps20
  go_wp2_with fail
  refine (start_lit _).mono ?_
  rintro e w1 ⟨rfl, hb1⟩
  have hz : Whole w1 w.heap.size 42 (feedC S8.zero ⟨#[]⟩ 0) := (Whole.made' w _ (feedC S8.zero ⟨#[]⟩ 0).toArray _ rfl).below (by simp) hb1
  have hz2 : w1.heap[w.heap.size]? = some (.cells (feedC S8.zero ⟨#[]⟩ 0).toArray 42 (0, 0)) := hz
  have hbel : Below w.heap.size w w1 := ((Below.refl _ _).alloc (Nat.le_refl _) _).trans (hb1.mono (by simp))
  have hi : (Tryd.prog.info? 42).map (·.size) = some (#[.int .u32 1779033703, .int .u32 3144134277, .int .u32 1013904242, .int .u32 2773480762, .int .u32 1359893119, .int .u32 2600822924, .int .u32 528734635, .int .u32 1541459225, .string ⟨#[]⟩, .int .i64 0] : Array Value).size := by kernel_rfl
  have ho : (feedC S8.zero ⟨#[]⟩ 0).toArray.size = (#[.int .u32 1779033703, .int .u32 3144134277, .int .u32 1013904242, .int .u32 2773480762, .int .u32 1359893119, .int .u32 2600822924, .int .u32 528734635, .int .u32 1541459225, .string ⟨#[]⟩, .int .i64 0] : Array Value).size := rfl
  have h1 : (#[.int .u32 1779033703, .int .u32 3144134277, .int .u32 1013904242, .int .u32 2773480762, .int .u32 1359893119, .int .u32 2600822924, .int .u32 528734635, .int .u32 1541459225, .string ⟨#[]⟩, .int .i64 0] : Array Value).all (·.oneCell') = true := by simp [Value.oneCell']
  have HZ := Lib.hid hz
  have HZ2 := Lib.hid hz2
  have HB := Lib.hid hbel
  have HI := Lib.hid hi
  have HO := Lib.hid ho
  have H1 := Lib.hid h1
  clear hz hz2 hbel hi ho h1 hb1
  go_wp2_with ((with_reducible refine wpList_store_row rfl 42 (.tmp 0) (.tmp 2) rfl w.heap.size #[.int .u32 1779033703, .int .u32 3144134277, .int .u32 1013904242, .int .u32 2773480762, .int .u32 1359893119, .int .u32 2600822924, .int .u32 528734635, .int .u32 1541459225, .string ⟨#[]⟩, .int .i64 0] rfl rfl 42 (feedC S8.zero ⟨#[]⟩ 0).toArray HZ2.out HI.out HO.out H1.out ?_))
  refine bodyPost_ret (v := .agg (feedC Sha.start ⟨#[]⟩ 0).toArray) ?_ rfl ⟨rfl, below_setRow HB.out (Nat.le_refl _) _⟩
  exact results_whole (ty := 42) Tryd.results20 _ _ w.heap.size 42 (feedC Sha.start ⟨#[]⟩ 0) _ (by simp [Act.put]) (HZ.out.setRow (feedC Sha.start ⟨#[]⟩ 0)) Tryd.underlying42 rfl (feed_info _ _ _).1

set_option maxHeartbeats 800000 in
theorem end_any (v : S8) (r : ByteArray) (long : Nat) (w : World) (hv : v.Ok) (hr : r.size ≤ 1000000) (hl : long ≤ 1000000) (hk : Consts w) :
    Calls Tryd.prog 22 #[.agg (feedC v r long).toArray] w fun e w' => e = .returned (.string ⟨(finish v r.data.toList long).toArray⟩) ∧ Below w.heap.size w w' := by
  have hc : ∀ u, Consts u → Calls Tryd.prog 29 #[.agg #[.int .u32 (v.a : Int), .int .u32 (v.b : Int), .int .u32 (v.c : Int), .int .u32 (v.d : Int), .int .u32 (v.e : Int), .int .u32 (v.f : Int), .int .u32 (v.g : Int), .int .u32 (v.h : Int)], .string r, .int .u64 (long : Int)] u
      fun e w' => e = .returned (.string ⟨(finish v r.data.toList long).toArray⟩) ∧ Below u.heap.size u w' := fun u hu => finish_any v r long u hv (by omega) hu
  have HC := Lib.hid hc
  have HK := Lib.hid hk
  clear hc hk hv
  simp only [feedC]
  go_enter Tryd.func22, Tryd.ntmps22
  go_wp2_with fail
  refine (HC.out _ (HK.out.below HK.out.1 ((Below.refl _ _).alloc (Nat.le_refl _) _))).mono ?_
  rintro e w1 ⟨rfl, hb1⟩
  have hbel := ((Below.refl w.heap.size w).alloc (Nat.le_refl _) (.cells (feedC v r long).toArray 42)).trans (hb1.mono (by simp))
  have HB := Lib.hid hbel
  clear hb1 hbel
  go_wp2
  go_ret
  exact ⟨rfl, HB.out⟩

set_option maxHeartbeats 1600000 in
theorem feed_any (v T : S8) (r s r2 : ByteArray) (long : Nat) (w : World) (hv : v.Ok) (hr : r.size ≤ 1000000) (hs : s.size ≤ 1000000) (hl : long ≤ 1000000) (hk : Consts w)
    (hT : T = blocksOf v (r ++ s).data.toList ((r ++ s).size / 64)) (hr2 : r2 = ⟨((r ++ s).data.toList.drop (64 * ((r ++ s).size / 64))).toArray⟩) :
    Calls Tryd.prog 21 #[.agg (feedC v r long).toArray, .string s] w fun e w' => e = .returned (.agg (feedC T r2 ((long : Int) + (s.size : Int))).toArray) ∧ Below w.heap.size w w' := by
  have hX : (r ++ s).size = r.size + s.size := ByteArray.size_append
  have hc := fun u hk => blocks_call v T (r ++ s) r2 u hv (by omega) hk hT hr2
  have hr2s : r2.size ≤ 2000000 := by
    rw [hr2]
    show (List.drop _ (r ++ s).data.toList).length ≤ _
    have : (r ++ s).data.toList.length = (r ++ s).size := rfl
    rw [List.length_drop, this]
    omega
  have hcl := fun u => Use.clone_any r2 u (by omega)
  have hmin : min (s.size : Int) (2000000000 - (long : Int)) = (s.size : Int) := by omega
  have hext : s.extract 0 s.size = s := ByteArray.extract_zero_size
  have n1 : ¬ 9223372036854775807 < r.size + s.size := by omega
  have HC := Lib.hid hc
  have HCL := Lib.hid hcl
  have HK := Lib.hid hk
  have HE := Lib.hid hext
  clear hX hc hk hT hr2 hcl hv hext
  simp only [feedC]
  go_enter Tryd.func21, Tryd.ntmps21
  go_wp2_with fail
  refine (free_any long _ hl).mono ?_
  rintro e w' ⟨rfl, rfl⟩
  go_wp2_with fail
  refine (HC.out _ (HK.out.below HK.out.1 (((Below.refl _ _).alloc (Nat.le_refl _) _).alloc (by simp) _))).mono ?_
  rintro e w1 ⟨rfl, hb1⟩
  have hz2 : w.heap.size + 2 ≤ ((w.alloc (.cells (feedC v r long).toArray 42)).alloc (.cells (feedC S8.zero ⟨#[]⟩ 0).toArray 42)).heap.size := by simp
  have hA0 : Whole ((w.alloc (.cells (feedC v r long).toArray 42)).alloc (.cells (feedC S8.zero ⟨#[]⟩ 0).toArray 42)) w.heap.size 42 (feedC v r long) := (Whole.made' w _ (feedC v r long).toArray _ rfl).alloc _
  have hZ0 : Whole ((w.alloc (.cells (feedC v r long).toArray 42)).alloc (.cells (feedC S8.zero ⟨#[]⟩ 0).toArray 42)) (w.heap.size + 1) 42 (feedC S8.zero ⟨#[]⟩ 0) := Whole.made' _ _ (feedC S8.zero ⟨#[]⟩ 0).toArray _ (by simp)
  have hA1 : Whole w1 w.heap.size 42 (feedC v r long) := hA0.below (Nat.lt_of_lt_of_le (Nat.lt_succ_of_le (Nat.le_succ _)) hz2) hb1
  have hZ1 : Whole w1 (w.heap.size + 1) 42 (feedC S8.zero ⟨#[]⟩ 0) := hZ0.below (Nat.lt_of_lt_of_le (Nat.lt_succ_self _) hz2) hb1
  have hbel1 : Below w.heap.size w w1 := (((Below.refl _ _).alloc (Nat.le_refl _) _).alloc (by simp) _).trans (hb1.mono (Nat.le_trans (Nat.le_add_right _ 2) hz2))
  have hA2 := hA1.alloc (.cells #[.int .u32 (T.a : Int), .int .u32 (T.b : Int), .int .u32 (T.c : Int), .int .u32 (T.d : Int), .int .u32 (T.e : Int), .int .u32 (T.f : Int), .int .u32 (T.g : Int), .int .u32 (T.h : Int)] 23)
  have hZ2 := hZ1.alloc (.cells #[.int .u32 (T.a : Int), .int .u32 (T.b : Int), .int .u32 (T.c : Int), .int .u32 (T.d : Int), .int .u32 (T.e : Int), .int .u32 (T.f : Int), .int .u32 (T.g : Int), .int .u32 (T.h : Int)] 23)
  have hT2 : Whole (w1.alloc (.cells #[.int .u32 (T.a : Int), .int .u32 (T.b : Int), .int .u32 (T.c : Int), .int .u32 (T.d : Int), .int .u32 (T.e : Int), .int .u32 (T.f : Int), .int .u32 (T.g : Int), .int .u32 (T.h : Int)] 23)) w1.heap.size 23 T.cells.toList := Whole.made' w1 _ T.cells _ rfl
  have hbel2 := hbel1.alloc hbel1.size (.cells #[.int .u32 (T.a : Int), .int .u32 (T.b : Int), .int .u32 (T.c : Int), .int .u32 (T.d : Int), .int .u32 (T.e : Int), .int .u32 (T.f : Int), .int .u32 (T.g : Int), .int .u32 (T.h : Int)] 23)
  have HA := Lib.hid hA2
  have HZ := Lib.hid hZ2
  have HT := Lib.hid hT2
  have HB := Lib.hid hbel2
  clear hz2 hA0 hZ0 hA1 hZ1 hbel1 hA2 hZ2 hT2 hbel2 hb1
  go_upto_region 3 with (fail)
  generalize w1.alloc (.cells #[.int .u32 (T.a : Int), .int .u32 (T.b : Int), .int .u32 (T.c : Int), .int .u32 (T.d : Int), .int .u32 (T.e : Int), .int .u32 (T.f : Int), .int .u32 (T.g : Int), .int .u32 (T.h : Int)] 23) = wx at *
  generalize w1.heap.size = nT at *
  obtain ⟨c0, c1, c2, c3, c4, c5, c6, c7⟩ := whole_cells HT.out
  obtain ⟨_, _, _, _, _, _, _, _, _, g9⟩ := feed_cells HA.out
  have hsum : IntKind.i64.wrap ((long : Int) + (s.size : Int)) = (long : Int) + (s.size : Int) := IntWalk.i64_in _ (by omega)
  go_region_law ((refine step_call rfl 38 Tryd.call38 #[.tmp 26] #[9] rfl #[.string r2] (by first | (simp [Act.eval]; done) | simp [Act.eval, Act.put]) _ _ (HCL.out _) ?_; intro w3 hb3; have hT3 := (Whole.drew HT.out).below HT.out.lt hb3; have hA3 := (Whole.drew HA.out).below HA.out.lt hb3; have hZ3 := (Whole.drew HZ.out).below HZ.out.lt hb3; obtain ⟨d0, d1, d2, d3, d4, d5, d6, d7⟩ := whole_cells hT3; obtain ⟨_, _, _, _, _, _, _, _, _, h9⟩ := feed_cells hA3; obtain ⟨e0, e1, e2, e3, e4, e5, e6, e7, e8, e9⟩ := feed_cells hZ3; obtain ⟨f0, f1, f2, f3, f4, f5, f6, f7, f8, f9⟩ := feed_free hZ3; have HZ3 := Lib.hid hZ3; have HB3 := Lib.hid hb3; clear hT3 hA3 hZ3 hb3))
  all_goals
    go_wp2
    have hz3 := HZ3.out
    refine bodyPost_ret (v := .agg (feedC T r2 ((long : Int) + (s.size : Int))).toArray) ?_ rfl ⟨rfl, below_set10 (HB.out.drew.trans (HB3.out.mono HB.out.size)) (w.heap.size + 1) (by omega) T r2 ((long : Int) + (s.size : Int))⟩
    exact results_whole (ty := 42) Tryd.results21 _ _ (w.heap.size + 1) 42 (feedC T r2 ((long : Int) + (s.size : Int))) _ (by simp) (feed_set hz3 T r2 ((long : Int) + (s.size : Int))) Tryd.underlying42 rfl (feed_info _ _ _).1
end Go.Proofs.YtlecmpmfgeneoaaDoor.Sha
