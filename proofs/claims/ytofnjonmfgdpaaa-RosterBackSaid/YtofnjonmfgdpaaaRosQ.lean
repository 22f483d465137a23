/-
  Back of package roster, where the member is gone, answers the roster without it among those that are gone, and leaves all memory that was there as it was. Conditions: RosR.
-/
import Derived.Test.YtofnjonmfgdpaaaRosO
namespace Go.Proofs.Ytofnjonmfgdpaaa.Ros
open Go.RowKit Mur Prt Go.Maps
set_option maxRecDepth 100000

theorem other_any (x m : Int) (b : Nat) (w : World) (hc : w.cell? ⟨b, 0, none⟩ = some (.int .i64 m)) :
    Calls Try.prog 42 #[.int .i64 x, .pointer (some ⟨b, 0, none⟩)] w fun e w' => e = .returned (.bool (decide (x ≠ m))) ∧ Below w.heap.size w w' := by
  go_enter Try.func42, Try.ntmps42
  go_wp2
  go_ret
  exact ⟨by
    show Ending.returned (.bool (x != m)) = _
    congr 2
    rw [Bool.eq_iff_iff]
    simp, Below.refl _ _⟩
theorem enters42 : Enters Try.prog 42 := enters_of Try.func42 (by kernel_rfl) rfl

set_option maxHeartbeats 3200000 in
theorem back_yes (r : R) (m : Int) (g : ByteArray) (ab ag : Option Addr) (nb cb ng cg k : Nat) (w : World) (hme : member r m = true) (hmg : m ∈ r.gone) (hk : (again r.gone m).length = k) (h1 : -9223372036854775808 ≤ m) (h2 : m ≤ 9223372036854775807) (h : RosR w r g ab nb ag ng) :
    Calls Try.prog 17 #[.agg #[.string g, .int .i64 r.servers, .int .i64 r.clients, .slice ab nb cb, .slice ag ng cg], .int .i64 m] w fun e w' => ∃ ab' cb' ag' cg', e = .returned (.tuple #[.agg #[.string g, .int .i64 r.servers, .int .i64 r.clients, .slice ab' nb cb', .slice ag' k cg'], .int .i64 0]) ∧ RosR w' (back r m) g ab' nb ag' k ∧ Below w.heap.size w w' := by
  have hmf : ∀ (fn : Fn) (first cap : Array Value) (w : World), (Instr.makeFunc fn first cap).run Try.prog w = .ok (.func fn first cap) w := fun _ _ _ _ => rfl
  have hkn : k ≤ 1000 := by rw [← hk]; have := List.length_filter_le (fun x => decide (x ≠ m)) r.gone; have := h.ngones; have := h.fewG; unfold again; omega
  have hwz : ∀ z ∈ again r.gone m, -9223372036854775808 ≤ z ∧ z ≤ 9223372036854775807 := fun z hz => h.fitG z ((again_mem r.gone m z).1 hz).1
  have R1 := Lib.hid (fun u => member_any r m true g ab ag nb cb ng cg u hme.symm h1 h2)
  have R2 := Lib.hid (fun (u : World) (hu : IntsR u ag r.gone) => contains_any r.gone m ng ag cg u true (by simp [hmg]) h.ngones (by have := h.fewG; omega) hu)
  have RL := Lib.hid (fun (b : Nat) (u : World) (hu : IntsR u ag r.gone) (hlb : b < u.heap.size) (hc : u.cell? ⟨b, 0, none⟩ = some (.int .i64 m)) => show Calls Try.prog 24 #[.slice ag ng cg, .func (.func 42) #[] #[.pointer (some ⟨b, 0, none⟩)]] u fun e w' => ∃ ao co, e = .returned (.slice ao k co) ∧ IntsR w' ao (again r.gone m) ∧ (∀ q, ao = some q → u.heap.size ≤ q.block) ∧ Below u.heap.size u w' from by
    have := only_any r.gone (fun x => decide (x ≠ m)) 42 #[.pointer (some ⟨b, 0, none⟩)] ng ag cg u h.ngones h.fewG hu enters42 (fun x _ u' hu' => other_any x m b u' ((hu'.cell (p := ⟨b, 0, none⟩) hlb).trans hc))
    rw [show r.gone.filter (fun x => decide (x ≠ m)) = again r.gone m from rfl, hk] at this
    exact this)
  have RW := Lib.hid (fun (u : World) (hu : RosR u r g ab nb ag ng) (ag' : Option Addr) (cg' : Nat) => withGone_any r k g ab ag ag' nb cb ng cg cg' u hu)
  obtain ⟨w3, hw3⟩ : ∃ w3, w3 = ((w.alloc (.cells #[.string g, .int .i64 r.servers, .int .i64 r.clients, .slice ab nb cb, .slice ag ng cg] 24)).alloc (.cells #[.int .i64 m] 3)).alloc (.cells #[.string ⟨#[]⟩, .int .i64 0, .int .i64 0, .slice none 0 0, .slice none 0 0] 24) := ⟨_, rfl⟩
  have HX := Lib.hid (three_made w _ _ _ _ _ _ _ _ _ _ _ _ _ w3 hw3)
  have HRO := Lib.hid h
  have HK := Lib.hid hk
  have HWZ := Lib.hid hwz
  clear h hme hmg hk hwz
  go_enter Try.func17, Try.ntmps17
  go_upto_region 1 with (fail)
  rw [← hw3]
  clear hw3
  obtain ⟨k0, k1, k2, k3, k4⟩ := HX.out
  have hX := Lib.hid k0
  have hM := Lib.hid k1
  have hY := Lib.hid k2
  have HB := Lib.hid k3
  have HS := Lib.hid k4
  clear k0 k1 k2 k3 k4 HX
  have HCM := Lib.hid (fun (u : World) (hu : Below w3.heap.size w3 u) => (hu.cell (p := ⟨w.heap.size + 1, 0, none⟩) (by have := HS.out; show w.heap.size + 1 < w3.heap.size; omega)).trans hM.out)
  obtain ⟨c0, c1, c2, c3, c4⟩ := five_cells hX.out
  have cm := hM.out
  go_wp2_with fail
  refine (R1.out _).mono ?_
  rintro e w4 ⟨rfl, hb4⟩
  have H4 := Lib.hid hb4
  clear hb4 c0 c1 c2 c3 c4 cm hM
  obtain ⟨c0, c1, c2, c3, c4⟩ := five_cells (hX.out.below hX.out.lt H4.out)
  have cm := HCM.out _ H4.out
  go_wp2_with fail
  refine (R2.out _ (HRO.out.gones.below (HB.out.trans (H4.out.mono HB.out.size)))).mono ?_
  rintro e w5 ⟨rfl, rfl⟩
  clear c0 c1 c2 c3 c4 cm
  go_upto_region 3 with (fail)
  obtain ⟨c0, c1, c2, c3, c4⟩ := five_cells (hX.out.below hX.out.lt H4.out).drew
  have HS4 := Lib.hid (show w.heap.size + 3 ≤ w4.heap.size by have := HS.out; have := H4.out.size; omega)
  go_region_with (first
    | (go_at_call 24; refine (RL.out (w.heap.size + 1) _ (HRO.out.gones.below (HB.out.trans (H4.out.drew.mono HB.out.size))) (by have := HS4.out; show w.heap.size + 1 < w4.heap.size; omega) (HCM.out _ H4.out.drew)).mono ?_; rintro e w7 ⟨ag', cg', rfl, hi7, hf7, hb7⟩
       have hs7 : w.heap.size + 3 ≤ w7.heap.size := by have h1 := HS4.out; have h2 := hb7.size; have h3 : w4.drew.heap.size = w4.heap.size := rfl; omega
       have hf7' : ∀ q, ag' = some q → w.heap.size + 3 ≤ q.block := fun q hq => by have k1 := hf7 q hq; have k2 := HS4.out; have h3 : w4.drew.heap.size = w4.heap.size := rfl; omega
       have h37 : Below w3.heap.size w3 w7 := H4.out.drew.trans (hb7.mono H4.out.size)
       have hx7 := hX.out.below hX.out.lt h37
       obtain ⟨c0', c1'', c2'', c3', c4'⟩ := five_cells hx7)
    | (go_at_call 31; refine (RW.out _ (HRO.out.below (HB.out.trans (h37.mono HB.out.size))) _ _).mono ?_; rintro e w8 ⟨ab', cb', rfl, hi8, hf8, hb8⟩
       have hy8 := (hY.out.below hY.out.lt h37).below (hY.out.below hY.out.lt h37).lt hb8
       obtain ⟨d0, d1, d2, d3, d4⟩ := five_cells hy8
       obtain ⟨e0, e1, e2, e3, e4⟩ := five_free hy8))
  all_goals
    have HZ := Lib.hid (five_set hy8 (.string g) (.int .i64 r.servers) (.int .i64 r.clients) (.slice ab' nb cb') (.slice ag' k cg'))
    have HBZ := Lib.hid (below_five (HB.out.trans ((h37.trans (hb8.mono h37.size)).mono HB.out.size)) (w.heap.size + 1 + 1) (by omega) (.string g) (.int .i64 r.servers) (.int .i64 r.clients) (.slice ab' nb cb') (.slice ag' k cg'))
    have HRZ := Lib.hid (HRO.out.moved (l := again r.gone m) (ints_five hi8 (w.heap.size + 1 + 1) (.string g) (.int .i64 r.servers) (.int .i64 r.clients) (.slice ab' nb cb') (.slice ag' k cg') (fun q hq => by have k1 := hf8 q hq; omega)) (ints_five (hi7.below hb8) (w.heap.size + 1 + 1) (.string g) (.int .i64 r.servers) (.int .i64 r.clients) (.slice ab' nb cb') (.slice ag' k cg') (fun q hq => by have k1 := hf7' q hq; omega)) HK.out hkn HWZ.out)
    clear hi7 hi8 hf7 hf8 hf7' hx7 hy8 h37 hs7
    go_wp2
    exact bodyPost_ret (results_ct rfl _ rfl rfl rosRow HZ.out.range) rfl ⟨ab', cb', ag', cg', rfl, HRZ.out, HBZ.out⟩
end Go.Proofs.Ytofnjonmfgdpaaa.Ros
