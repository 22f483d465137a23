/-
  Expel of package roster, where the member does not live, answers ErrNone and the roster, and leaves all memory that was there as it was. Conditions: RosR.
-/
import Derived.Test.YtofnjonmfgdpaaaRosN
namespace Go.Proofs.Ytofnjonmfgdpaaa.Ros
open Go.RowKit Mur Prt Go.Maps
set_option maxRecDepth 100000

/-- A roster whose lists are read elsewhere. -/
theorem RosR.moved {w w' : World} {r : R} {g : ByteArray} {ab ag ab' ag' : Option Addr} {nb ng ng' : Nat} {l : List Int} (h : RosR w r g ab nb ag ng) (hb : IntsR w' ab' r.buddies) (hg : IntsR w' ag' l) (hl : l.length = ng') (hn : ng' ≤ 1000) (hz : ∀ z ∈ l, -9223372036854775808 ≤ z ∧ z ≤ 9223372036854775807) : RosR w' { r with gone := l } g ab' nb ag' ng' :=
  ⟨h.group, hb, h.nbuds, hg, hl, h.fitN, h.fitS, h.fitC, h.fitB, hz, h.fewB, hn⟩
/-- The blocks of a roster, of a number, of an empty roster behind one another. -/
theorem three_made (w : World) (x0 x1 x2 x3 x4 : Value) (m : Value) (t : TypeId) (tm : TypeId) (z0 z1 z2 z3 z4 : Value) (w3 : World) (hw : w3 = ((w.alloc (.cells #[x0, x1, x2, x3, x4] t)).alloc (.cells #[m] tm)).alloc (.cells #[z0, z1, z2, z3, z4] t)) :
    Mur.Whole w3 w.heap.size t [x0, x1, x2, x3, x4] ∧ w3.cell? ⟨w.heap.size + 1, 0, none⟩ = some m ∧ Mur.Whole w3 (w.heap.size + 1 + 1) t [z0, z1, z2, z3, z4] ∧ Below w.heap.size w w3 ∧ w3.heap.size = w.heap.size + 3 := by
  subst hw
  have h1 := five_made w t x0 x1 x2 x3 x4
  have s1 : (w.alloc (.cells #[x0, x1, x2, x3, x4] t)).heap.size = w.heap.size + 1 := by simp
  have s2 : ((w.alloc (.cells #[x0, x1, x2, x3, x4] t)).alloc (.cells #[m] tm)).heap.size = w.heap.size + 1 + 1 := by simp
  have h3 := five_made ((w.alloc (.cells #[x0, x1, x2, x3, x4] t)).alloc (.cells #[m] tm)) t z0 z1 z2 z3 z4
  rw [s2] at h3
  refine ⟨(h1.alloc _).alloc _, ?_, h3, (((Below.refl w.heap.size w).alloc (Nat.le_refl _) _).alloc (by simp) _).alloc (by rw [s2]; omega) _, by simp⟩
  have h2 : Mur.Whole ((w.alloc (.cells #[x0, x1, x2, x3, x4] t)).alloc (.cells #[m] tm)) (w.heap.size + 1) tm [m] := by
    have := Mur.Whole.made (w.alloc (.cells #[x0, x1, x2, x3, x4] t)) tm [m]
    rw [s1] at this
    exact this
  exact (h2.alloc _).row.cell rfl

theorem below_five {w w' : World} (h : Below w.heap.size w w') (b : Nat) (hb : w.heap.size ≤ b) (y0 y1 y2 y3 y4 : Value) : Below w.heap.size w (((((w'.setCell ⟨b, 0, none⟩ y0).setCell ⟨b, 1, none⟩ y1).setCell ⟨b, 2, none⟩ y2).setCell ⟨b, 3, none⟩ y3).setCell ⟨b, 4, none⟩ y4) :=
  ((((h.setCell (p := ⟨b, 0, none⟩) hb _).setCell (p := ⟨b, 1, none⟩) hb _).setCell (p := ⟨b, 2, none⟩) hb _).setCell (p := ⟨b, 3, none⟩) hb _).setCell (p := ⟨b, 4, none⟩) hb _

set_option maxHeartbeats 1600000 in
theorem expel_no (r : R) (m : Int) (g : ByteArray) (ab ag : Option Addr) (nb cb ng cg : Nat) (w : World) (hlv : live r m = false) (h1 : -9223372036854775808 ≤ m) (h2 : m ≤ 9223372036854775807) (h : RosR w r g ab nb ag ng) :
    Calls Try.prog 12 #[.agg #[.string g, .int .i64 r.servers, .int .i64 r.clients, .slice ab nb cb, .slice ag ng cg], .int .i64 m] w fun e w' => ∃ ab' cb' ag' cg', e = .returned (.tuple #[.agg #[.string g, .int .i64 r.servers, .int .i64 r.clients, .slice ab' nb cb', .slice ag' ng cg'], .int .i64 9]) ∧ RosR w' r g ab' nb ag' ng ∧ Below w.heap.size w w' := by
  have R1 := Lib.hid (fun (u : World) (hu : RosR u r g ab nb ag ng) => live_any r m false g ab ag nb cb ng cg u hlv.symm h1 h2 hu)
  have R2 := Lib.hid (fun (u : World) (hu : IntsR u ag r.gone) => clone_any r.gone ng ag cg u h.ngones h.fewG hu)
  have R3 := Lib.hid (fun (u : World) (hu : RosR u r g ab nb ag ng) (ag' : Option Addr) (cg' : Nat) => withGone_any r ng g ab ag ag' nb cb ng cg cg' u hu)
  obtain ⟨w3, hw3⟩ : ∃ w3, w3 = ((w.alloc (.cells #[.string g, .int .i64 r.servers, .int .i64 r.clients, .slice ab nb cb, .slice ag ng cg] 24)).alloc (.cells #[.int .i64 m] 3)).alloc (.cells #[.string ⟨#[]⟩, .int .i64 0, .int .i64 0, .slice none 0 0, .slice none 0 0] 24) := ⟨_, rfl⟩
  have HX := Lib.hid (three_made w _ _ _ _ _ _ _ _ _ _ _ _ _ w3 hw3)
  have HRO := Lib.hid h
  clear h hlv
  go_enter Try.func12, Try.ntmps12
  go_upto_region 1 with (fail)
  rw [← hw3]
  clear hw3
  obtain ⟨k0, k1, k2, k3, k4⟩ := HX.out
  have hX := Lib.hid k0
  have hM := Lib.hid k1
  have hY := Lib.hid k2
  have HB := Lib.hid k3
  have HS := Lib.hid k4
  clear k0 k1 k2 k3 k4 HX
  obtain ⟨c0, c1, c2, c3, c4⟩ := five_cells hX.out
  have cm := hM.out
  go_wp2_with fail
  refine (R1.out _ (HRO.out.below HB.out)).mono ?_
  rintro e w4 ⟨rfl, hb4⟩
  have HX4 := Lib.hid (hX.out.below hX.out.lt hb4)
  have HY4 := Lib.hid (hY.out.below hY.out.lt hb4)
  have HB4 := Lib.hid (HB.out.trans (hb4.mono HB.out.size))
  have HS4 := Lib.hid (show w.heap.size + 3 ≤ w4.heap.size by have := HS.out; have := hb4.size; omega)
  clear hb4 c0 c1 c2 c3 c4 cm hX hM hY HB HS
  go_upto_region 2 with (fail)
  have hd4 := HX4.out.drew
  obtain ⟨c0, c1, c2, c3, c4⟩ := five_cells HX4.out
  go_region_with (first
    | (go_at_call 32; refine (R2.out _ (HRO.out.gones.below HB4.out.drew)).mono ?_; rintro e w5 ⟨ag', cg', rfl, hi5, hf5, hb5⟩
       have hx5 := HX4.out.drew.below HX4.out.lt hb5
       obtain ⟨c0', c1', c2', c3', c4'⟩ := five_cells hx5)
    | (go_at_call 31; refine (R3.out _ (HRO.out.below (HB4.out.drew.trans (hb5.mono HB4.out.drew.size))) _ _).mono ?_; rintro e w6 ⟨ab', cb', rfl, hi6, hf6, hb6⟩
       have hy6 := (HY4.out.drew.below HY4.out.lt hb5).below (HY4.out.drew.below HY4.out.lt hb5).lt hb6
       obtain ⟨d0, d1, d2, d3, d4⟩ := five_cells hy6
       obtain ⟨e0, e1, e2, e3, e4⟩ := five_free hy6))
  all_goals
    have HZ := Lib.hid (five_set hy6 (.string g) (.int .i64 r.servers) (.int .i64 r.clients) (.slice ab' nb cb') (.slice ag' ng cg'))
    have HBZ := Lib.hid (below_five (HB4.out.drew.trans ((hb5.trans (hb6.mono hb5.size)).mono HB4.out.drew.size)) (w.heap.size + 1 + 1) (by omega) (.string g) (.int .i64 r.servers) (.int .i64 r.clients) (.slice ab' nb cb') (.slice ag' ng cg'))
    have HRZ := Lib.hid (HRO.out.moved (l := r.gone) (ints_five hi6 (w.heap.size + 1 + 1) (.string g) (.int .i64 r.servers) (.int .i64 r.clients) (.slice ab' nb cb') (.slice ag' ng cg') (fun q hq => by have k1 := hf6 q hq; have k2 := hb5.size; have k3 := HS4.out; have k4 : w4.drew.heap.size = w4.heap.size := rfl; omega)) (ints_five (hi5.below hb6) (w.heap.size + 1 + 1) (.string g) (.int .i64 r.servers) (.int .i64 r.clients) (.slice ab' nb cb') (.slice ag' ng cg') (fun q hq => by have k1 := hf5 q hq; have k3 := HS4.out; have k4 : w4.drew.heap.size = w4.heap.size := rfl; omega)) HRO.out.ngones HRO.out.fewG HRO.out.fitG)
    clear c0 c1 c2 c3 c4 c0' c1' c2' c3' c4' d0 d1 d2 d3 d4 e0 e1 e2 e3 e4 hi5 hi6 hf5 hf6 hx5 hy6
    go_wp2
    exact bodyPost_ret (results_ct rfl _ rfl rfl rosRow HZ.out.range) rfl ⟨ab', cb', ag', cg', rfl, HRZ.out, HBZ.out⟩
end Go.Proofs.Ytofnjonmfgdpaaa.Ros
