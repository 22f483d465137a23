/-
  withGone, Expel and Back of package roster answer what the plain mathematics of the text Ros says, and leave all memory that was there as it was. Conditions: RosR.
-/
import Derived.Test.YtofnjonmfgdpaaaRosI
import Derived.Test.YtofnjonmfgdpaaaHoldB
namespace Go.Proofs.Ytofnjonmfgdpaaa.Ros
open Go.RowKit Mur Prt Go.Maps
set_option maxRecDepth 100000

/-- Five cells of a block that is whole. -/
theorem five_cells {w : World} {b : Nat} {t : TypeId} {x0 x1 x2 x3 x4 : Value} (k : Mur.Whole w b t [x0, x1, x2, x3, x4]) :
    w.cell? ⟨b, 0, none⟩ = some x0 ∧ w.cell? ⟨b, 1, none⟩ = some x1 ∧ w.cell? ⟨b, 2, none⟩ = some x2 ∧ w.cell? ⟨b, 3, none⟩ = some x3 ∧ w.cell? ⟨b, 4, none⟩ = some x4 := ⟨k.row.cell rfl, k.row.cell rfl, k.row.cell rfl, k.row.cell rfl, k.row.cell rfl⟩
theorem five_free {w : World} {b : Nat} {t : TypeId} {x0 x1 x2 x3 x4 : Value} (k : Mur.Whole w b t [x0, x1, x2, x3, x4]) :
    w.frozen? ⟨b, 0, none⟩ = false ∧ w.frozen? ⟨b, 1, none⟩ = false ∧ w.frozen? ⟨b, 2, none⟩ = false ∧ w.frozen? ⟨b, 3, none⟩ = false ∧ w.frozen? ⟨b, 4, none⟩ = false :=
  ⟨k.row.free (by simp), k.row.free (by simp), k.row.free (by simp), k.row.free (by simp), k.row.free (by simp)⟩
theorem five_set {w : World} {b : Nat} {t : TypeId} {x0 x1 x2 x3 x4 : Value} (k : Mur.Whole w b t [x0, x1, x2, x3, x4]) (y0 y1 y2 y3 y4 : Value) :
    Mur.Whole (((((w.setCell ⟨b, 0, none⟩ y0).setCell ⟨b, 1, none⟩ y1).setCell ⟨b, 2, none⟩ y2).setCell ⟨b, 3, none⟩ y3).setCell ⟨b, 4, none⟩ y4) b t [y0, y1, y2, y3, y4] := ((((k.set 0 _).set 1 _).set 2 _).set 3 _).set 4 _
theorem five_made (w : World) (t : TypeId) (x0 x1 x2 x3 x4 : Value) : Mur.Whole (w.alloc (.cells #[x0, x1, x2, x3, x4] t)) w.heap.size t [x0, x1, x2, x3, x4] := Mur.Whole.made w t [x0, x1, x2, x3, x4]
section
variable {P : Program} {w : World}
theorem results_c {fn : Func} {p b : Nat} {ty : TypeId} {v : List Value} (hf : fn.results = #[.cell p ty]) (tmps : Array Value) (hp : tmps.getD p undef = .pointer (some ⟨b, 0, none⟩)) (hr : Hold.TyRow P ty v.length) (hc : w.rangeAt b 0 v) :
    (results fn tmps).run P w = .ok (.agg v.toArray) w := by
  obtain ⟨d, hu, hd, hs⟩ := hr
  have hp' : tmps[p]?.getD undef = .pointer (some ⟨b, 0, none⟩) := by simpa using hp
  simp [results, hf, hp', asAddr, run_loadVar_mid w b 0 ty v d hc hu hd hs]
theorem results_ct {fn : Func} {p q b : Nat} {ty : TypeId} {v : List Value} {c : Value} (hf : fn.results = #[.cell p ty, .tmp q]) (tmps : Array Value) (hp : tmps.getD p undef = .pointer (some ⟨b, 0, none⟩)) (hq : tmps.getD q undef = c) (hr : Hold.TyRow P ty v.length) (hc : w.rangeAt b 0 v) :
    (results fn tmps).run P w = .ok (.tuple #[.agg v.toArray, c]) w := by
  obtain ⟨d, hu, hd, hs⟩ := hr
  have hp' : tmps[p]?.getD undef = .pointer (some ⟨b, 0, none⟩) := by simpa using hp
  have hq' : tmps[q]?.getD undef = c := by simpa using hq
  simp [results, hf, hp', hq', asAddr, run_loadVar_mid w b 0 ty v d hc hu hd hs]
end
theorem rosRow : Hold.TyRow Try.prog 24 5 := ⟨_, Try.underlying24, rfl, by kernel_rfl⟩
theorem ints_set {w : World} {a : Option Addr} {l : List Int} (h : IntsR w a l) (p : Addr) (v : Value) (hp : ∀ q, a = some q → q.block ≠ p.block) : IntsR (w.setCell p v) a l := fun hl => by
  obtain ⟨b, o, ha, hb, hc⟩ := h hl
  refine ⟨b, o, ha, by simpa using hb, fun i x hx => ?_⟩
  rw [World.cell?_setCell_other w p ⟨b, o + i, none⟩ v (fun (e : p = ⟨b, o + i, none⟩) => hp _ ha (by rw [e]))]
  exact hc i x hx
theorem ints_five {w : World} {a : Option Addr} {l : List Int} (h : IntsR w a l) (b : Nat) (y0 y1 y2 y3 y4 : Value) (hp : ∀ q, a = some q → q.block ≠ b) :
    IntsR (((((w.setCell ⟨b, 0, none⟩ y0).setCell ⟨b, 1, none⟩ y1).setCell ⟨b, 2, none⟩ y2).setCell ⟨b, 3, none⟩ y3).setCell ⟨b, 4, none⟩ y4) a l :=
  ints_set (ints_set (ints_set (ints_set (ints_set h _ _ hp) _ _ hp) _ _ hp) _ _ hp) _ _ hp

set_option maxHeartbeats 1600000 in
theorem withGone_any (r : R) (n : Nat) (g : ByteArray) (ab ag al : Option Addr) (nb cb ng cg cl : Nat) (w : World) (h : RosR w r g ab nb ag ng) :
    Calls Try.prog 31 #[.agg #[.string g, .int .i64 r.servers, .int .i64 r.clients, .slice ab nb cb, .slice ag ng cg], .slice al n cl] w fun e w' => ∃ ab' cb', e = .returned (.agg #[.string g, .int .i64 r.servers, .int .i64 r.clients, .slice ab' nb cb', .slice al n cl]) ∧ IntsR w' ab' r.buddies ∧ (∀ q, ab' = some q → w.heap.size ≤ q.block) ∧ Below w.heap.size w w' := by
  have R1 := Lib.hid (fun (u : World) (hu : RosR u r g ab nb ag ng) => clone_any r.buddies nb ab cb u hu.nbuds hu.fewB hu.buds)
  have HX := Lib.hid (five_made w 24 (.string g) (.int .i64 r.servers) (.int .i64 r.clients) (.slice ab nb cb) (.slice ag ng cg))
  have hB0 := (Below.refl w.heap.size w).alloc (Nat.le_refl _) (.cells #[.string g, .int .i64 r.servers, .int .i64 r.clients, .slice ab nb cb, .slice ag ng cg] 24)
  have hsz : (w.alloc (.cells #[.string g, .int .i64 r.servers, .int .i64 r.clients, .slice ab nb cb, .slice ag ng cg] 24)).heap.size = w.heap.size + 1 := by simp
  have HRO := Lib.hid h
  clear h
  go_enter Try.func31, Try.ntmps31
  go_upto_region 1 with (fail)
  generalize w.alloc (.cells #[.string g, .int .i64 r.servers, .int .i64 r.clients, .slice ab nb cb, .slice ag ng cg] 24) = w0 at *
  have hY := five_made w0 24 (.string ⟨#[]⟩) (.int .i64 0) (.int .i64 0) (.slice none 0 0) (.slice none 0 0)
  rw [hsz] at hY
  have hB1 := hB0.alloc hB0.size (.cells #[.string ⟨#[]⟩, .int .i64 0, .int .i64 0, .slice none 0 0, .slice none 0 0] 24)
  have hX1 := HX.out.alloc (.cells #[.string ⟨#[]⟩, .int .i64 0, .int .i64 0, .slice none 0 0, .slice none 0 0] 24)
  generalize w0.alloc (.cells #[.string ⟨#[]⟩, .int .i64 0, .int .i64 0, .slice none 0 0, .slice none 0 0] 24) = w1 at *
  have HB1 := Lib.hid hB1
  have HX1 := Lib.hid hX1
  have HY1 := Lib.hid hY
  clear hB0 hsz hY hB1 hX1 HX
  obtain ⟨c0, c1, c2, c3, c4⟩ := five_cells HX1.out
  go_wp2_with fail
  refine (R1.out _ (HRO.out.below HB1.out)).mono ?_
  rintro e w2 ⟨ab', cb', rfl, hi, hfr, hb2⟩
  have HF := Lib.hid (show ∀ q, ab' = some q → w.heap.size + 2 ≤ q.block from fun q hq => by have := hfr q hq; have := HY1.out.lt; omega)
  have HI := Lib.hid hi
  have HB2 := Lib.hid (HB1.out.trans (hb2.mono HB1.out.size))
  have HX2 := Lib.hid (HX1.out.below HX1.out.lt hb2)
  have HY2 := Lib.hid (HY1.out.below HY1.out.lt hb2)
  clear hi hb2 hfr c0 c1 c2 c3 c4 HX1 HY1 HB1
  obtain ⟨c0, c1, c2, c3, c4⟩ := five_cells HX2.out
  obtain ⟨f0, f1, f2, f3, f4⟩ := five_free HX2.out
  obtain ⟨d0, d1, d2, d3, d4⟩ := five_cells HY2.out
  obtain ⟨e0, e1, e2, e3, e4⟩ := five_free HY2.out
  go_upto_region 2 with (fail)
  have hX3 := (HX2.out.set 3 (.slice ab' nb cb')).set 4 (.slice al n cl)
  have hY3 := (HY2.out.other w.heap.size 3 (.slice ab' nb cb') (by omega)).other w.heap.size 4 (.slice al n cl) (by omega)
  have hi3 := ints_set (ints_set HI.out ⟨w.heap.size, 3, none⟩ (.slice ab' nb cb') (fun q hq => by have := HF.out q hq; show q.block ≠ w.heap.size; omega)) ⟨w.heap.size, 4, none⟩ (.slice al n cl) (fun q hq => by have := HF.out q hq; show q.block ≠ w.heap.size; omega)
  have hb3 := (HB2.out.setCell (p := ⟨w.heap.size, 3, none⟩) (Nat.le_refl _) (.slice ab' nb cb')).setCell (p := ⟨w.heap.size, 4, none⟩) (Nat.le_refl _) (.slice al n cl)
  clear c0 c1 c2 c3 c4 f0 f1 f2 f3 f4 d0 d1 d2 d3 d4 e0 e1 e2 e3 e4
  generalize (w2.setCell ⟨w.heap.size, 3, none⟩ (.slice ab' nb cb')).setCell ⟨w.heap.size, 4, none⟩ (.slice al n cl) = w3 at *
  have hX4 : Mur.Whole w3 w.heap.size 24 [.string g, .int .i64 r.servers, .int .i64 r.clients, .slice ab' nb cb', .slice al n cl] := hX3
  have HX3 := Lib.hid hX4
  have HY3 := Lib.hid hY3
  have HI3 := Lib.hid hi3
  have HB3 := Lib.hid hb3
  clear hX3 hX4 hY3 hi3 hb3 HX2 HY2 HI HB2
  obtain ⟨c0, c1, c2, c3, c4⟩ := five_cells HX3.out
  obtain ⟨d0, d1, d2, d3, d4⟩ := five_cells HY3.out
  obtain ⟨e0, e1, e2, e3, e4⟩ := five_free HY3.out
  go_wp2
  refine bodyPost_ret (results_c rfl _ rfl rosRow (five_set HY3.out (.string g) (.int .i64 r.servers) (.int .i64 r.clients) (.slice ab' nb cb') (.slice al n cl)).range) rfl ?_
  exact ⟨ab', cb', rfl, ints_five HI3.out _ _ _ _ _ _ (fun q hq => by have := HF.out q hq; omega), (fun q hq => by have := HF.out q hq; omega), ((((HB3.out.setCell (p := ⟨w.heap.size + 1, 0, none⟩) (Nat.le_succ _) _).setCell (p := ⟨w.heap.size + 1, 1, none⟩) (Nat.le_succ _) _).setCell (p := ⟨w.heap.size + 1, 2, none⟩) (Nat.le_succ _) _).setCell (p := ⟨w.heap.size + 1, 3, none⟩) (Nat.le_succ _) _).setCell (p := ⟨w.heap.size + 1, 4, none⟩) (Nat.le_succ _) _⟩
end Go.Proofs.Ytofnjonmfgdpaaa.Ros
