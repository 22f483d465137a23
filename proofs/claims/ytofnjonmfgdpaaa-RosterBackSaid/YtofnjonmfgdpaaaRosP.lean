/-
  Expel of package roster, where the member lives, answers the roster with the member among those that are gone, and leaves all memory that was there as it was. Conditions: RosR; fewer than 1000 are gone.
-/
import Derived.Test.YtofnjonmfgdpaaaRosO
namespace Go.Proofs.Ytofnjonmfgdpaaa.Ros
open Go.RowKit Mur Prt Go.Maps
set_option maxRecDepth 100000

theorem less_any (x m : Int) (b : Nat) (w : World) (hc : w.cell? ⟨b, 0, none⟩ = some (.int .i64 m)) :
    Calls Try.prog 33 #[.int .i64 x, .pointer (some ⟨b, 0, none⟩)] w fun e w' => e = .returned (.bool (decide (x < m))) ∧ Below w.heap.size w w' := by
  go_enter Try.func33, Try.ntmps33
  go_wp2
  go_ret
  exact ⟨by simp, Below.refl _ _⟩
theorem more_any (x m : Int) (b : Nat) (w : World) (hc : w.cell? ⟨b, 0, none⟩ = some (.int .i64 m)) :
    Calls Try.prog 34 #[.int .i64 x, .pointer (some ⟨b, 0, none⟩)] w fun e w' => e = .returned (.bool (decide (m < x))) ∧ Below w.heap.size w w' := by
  go_enter Try.func34, Try.ntmps34
  go_wp2
  go_ret
  exact ⟨by simp, Below.refl _ _⟩
theorem enters33 : Enters Try.prog 33 := enters_of Try.func33 (by kernel_rfl) rfl
theorem enters34 : Enters Try.prog 34 := enters_of Try.func34 (by kernel_rfl) rfl

theorem rows_three (u : World) (m : Int) (l1 l2 : List Int) (a1 a2 : Option Addr) (n1 n2 c1 c2 : Nat) (t t2 : TypeId) (h1 : l1.length = n1) (h2 : l2.length = n2) (i1 : IntsR u a1 l1) (i2 : IntsR u a2 l2) :
    RowsR ((u.alloc (.cells #[.int .i64 m] t)).alloc (.cells #[.slice a1 n1 c1, .slice (some ⟨u.heap.size, 0, none⟩) 1 1, .slice a2 n2 c2] t2)) (u.heap.size + 1) [l1, [m], l2] := by
  have s1 : (u.alloc (.cells #[.int .i64 m] t)).heap.size = u.heap.size + 1 := by simp
  have hw : Mur.Whole ((u.alloc (.cells #[.int .i64 m] t)).alloc (.cells #[.slice a1 n1 c1, .slice (some ⟨u.heap.size, 0, none⟩) 1 1, .slice a2 n2 c2] t2)) (u.heap.size + 1) t2 [.slice a1 n1 c1, .slice (some ⟨u.heap.size, 0, none⟩) 1 1, .slice a2 n2 c2] := by
    have := Mur.Whole.made (u.alloc (.cells #[.int .i64 m] t)) t2 [.slice a1 n1 c1, .slice (some ⟨u.heap.size, 0, none⟩) 1 1, .slice a2 n2 c2]
    rw [s1] at this
    exact this
  have hb : Below u.heap.size u ((u.alloc (.cells #[.int .i64 m] t)).alloc (.cells #[.slice a1 n1 c1, .slice (some ⟨u.heap.size, 0, none⟩) 1 1, .slice a2 n2 c2] t2)) := ((Below.refl _ _).alloc (Nat.le_refl _) _).alloc (by simp) _
  refine ⟨hw.lt, fun j L hL => ?_⟩
  match j, hL with
  | 0, hL => cases hL; exact ⟨a1, c1, by rw [h1]; exact hw.row.cell rfl, i1.below hb⟩
  | 1, hL => cases hL; exact ⟨_, 1, hw.row.cell rfl, (new_z u m t).below ((Below.refl _ _).alloc (Nat.le_refl _) _)⟩
  | 2, hL => cases hL; exact ⟨a2, c2, by rw [h2]; exact hw.row.cell rfl, i2.below hb⟩
theorem tot_three (l : List Int) (m : Int) : tot [l.filter fun x => decide (x < m), [m], l.filter fun x => decide (m < x)] 3 = without l m := by
  simp [tot, without]
theorem without_length (l : List Int) (m : Int) (h : m ∉ l) : (without l m).length = l.length + 1 := by
  unfold without
  rw [List.length_append, List.length_cons]
  have : (l.filter fun x => decide (x < m)).length + (l.filter fun x => decide (m < x)).length = l.length := by
    induction l with
    | nil => rfl
    | cons a l ih =>
      have hne : a ≠ m := fun e => h (by rw [e]; exact List.mem_cons_self)
      have ih2 := ih fun h2 => h (List.mem_cons_of_mem _ h2)
      rw [List.filter_cons, List.filter_cons, List.length_cons]
      by_cases ha : a < m
      · rw [if_pos (by simpa using ha), if_neg (by simp; omega), List.length_cons]
        omega
      · rw [if_neg (by simpa using ha), if_pos (by simp; omega), List.length_cons]
        omega
  omega

set_option maxHeartbeats 3200000 in
theorem expel_yes (r : R) (m : Int) (g : ByteArray) (ab ag : Option Addr) (nb cb ng cg : Nat) (w : World) (hlv : live r m = true) (h1 : -9223372036854775808 ≤ m) (h2 : m ≤ 9223372036854775807) (hng : ng + 1 ≤ 1000) (h : RosR w r g ab nb ag ng) :
    Calls Try.prog 12 #[.agg #[.string g, .int .i64 r.servers, .int .i64 r.clients, .slice ab nb cb, .slice ag ng cg], .int .i64 m] w fun e w' => ∃ ab' cb' ag' cg', e = .returned (.tuple #[.agg #[.string g, .int .i64 r.servers, .int .i64 r.clients, .slice ab' nb cb', .slice ag' (ng + 1) cg'], .int .i64 0]) ∧ RosR w' (expel r m) g ab' nb ag' (ng + 1) ∧ Below w.heap.size w w' := by
  have hmf : ∀ (fn : Fn) (first cap : Array Value) (w : World), (Instr.makeFunc fn first cap).run Try.prog w = .ok (.func fn first cap) w := fun _ _ _ _ => rfl
  have hnot : m ∉ r.gone := ((live_iff r m).1 hlv).2
  obtain ⟨l1, hl1⟩ : ∃ l1, l1 = r.gone.filter fun x => decide (x < m) := ⟨_, rfl⟩
  obtain ⟨l2, hl2⟩ : ∃ l2, l2 = r.gone.filter fun x => decide (m < x) := ⟨_, rfl⟩
  obtain ⟨n1, hn1⟩ : ∃ n1, l1.length = n1 := ⟨_, rfl⟩
  obtain ⟨n2, hn2⟩ : ∃ n2, l2.length = n2 := ⟨_, rfl⟩
  have hle1 : l1.length ≤ 1000 := by rw [hl1]; have := List.length_filter_le (fun x => decide (x < m)) r.gone; have := h.ngones; omega
  have hle2 : l2.length ≤ 1000 := by rw [hl2]; have := List.length_filter_le (fun x => decide (m < x)) r.gone; have := h.ngones; omega
  have htot : tot [l1, [m], l2] 3 = without r.gone m := by rw [hl1, hl2]; exact tot_three r.gone m
  have hwl : (without r.gone m).length = ng + 1 := by rw [without_length r.gone m hnot, h.ngones]
  have hwz : ∀ z ∈ without r.gone m, -9223372036854775808 ≤ z ∧ z ≤ 9223372036854775807 := fun z hz => by
    rcases (without_mem r.gone m z).1 hz with rfl | hz
    · exact ⟨h1, h2⟩
    · exact h.fitG z hz
  have R1 := Lib.hid (fun (u : World) (hu : RosR u r g ab nb ag ng) => live_any r m true g ab ag nb cb ng cg u hlv.symm h1 h2 hu)
  have RL := Lib.hid (fun (b : Nat) (u : World) (hu : IntsR u ag r.gone) (hlb : b < u.heap.size) (hc : u.cell? ⟨b, 0, none⟩ = some (.int .i64 m)) => show Calls Try.prog 24 #[.slice ag ng cg, .func (.func 33) #[] #[.pointer (some ⟨b, 0, none⟩)]] u fun e w' => ∃ ao co, e = .returned (.slice ao n1 co) ∧ IntsR w' ao l1 ∧ (∀ q, ao = some q → u.heap.size ≤ q.block) ∧ Below u.heap.size u w' from by
    have := only_any r.gone (fun x => decide (x < m)) 33 #[.pointer (some ⟨b, 0, none⟩)] ng ag cg u h.ngones h.fewG hu enters33 (fun x _ u' hu' => less_any x m b u' ((hu'.cell (p := ⟨b, 0, none⟩) hlb).trans hc))
    rw [← hl1, hn1] at this
    exact this)
  have RG := Lib.hid (fun (b : Nat) (u : World) (hu : IntsR u ag r.gone) (hlb : b < u.heap.size) (hc : u.cell? ⟨b, 0, none⟩ = some (.int .i64 m)) => show Calls Try.prog 24 #[.slice ag ng cg, .func (.func 34) #[] #[.pointer (some ⟨b, 0, none⟩)]] u fun e w' => ∃ ao co, e = .returned (.slice ao n2 co) ∧ IntsR w' ao l2 ∧ (∀ q, ao = some q → u.heap.size ≤ q.block) ∧ Below u.heap.size u w' from by
    have := only_any r.gone (fun x => decide (m < x)) 34 #[.pointer (some ⟨b, 0, none⟩)] ng ag cg u h.ngones h.fewG hu enters34 (fun x _ u' hu' => more_any x m b u' ((hu'.cell (p := ⟨b, 0, none⟩) hlb).trans hc))
    rw [← hl2, hn2] at this
    exact this)
  have RC := Lib.hid (fun (bx : Nat) (u : World) (hu : RowsR u bx [l1, [m], l2]) => show Calls Try.prog 35 #[.slice (some ⟨bx, 0, none⟩) 3 3] u fun e w' => ∃ ao co, e = .returned (.slice ao (ng + 1) co) ∧ IntsR w' ao (without r.gone m) ∧ (∀ q, ao = some q → u.heap.size ≤ q.block) ∧ Below u.heap.size u w' from by
    have := concat_any [l1, [m], l2] 3 bx 3 u rfl (by omega) (fun L hL => by
      simp at hL
      rcases hL with rfl | rfl | rfl
      · exact hle1
      · simp
      · exact hle2) hu
    rw [htot, hwl] at this
    exact this)
  have RW := Lib.hid (fun (u : World) (hu : RosR u r g ab nb ag ng) (ag' : Option Addr) (cg' : Nat) => withGone_any r (ng + 1) g ab ag ag' nb cb ng cg cg' u hu)
  obtain ⟨w3, hw3⟩ : ∃ w3, w3 = ((w.alloc (.cells #[.string g, .int .i64 r.servers, .int .i64 r.clients, .slice ab nb cb, .slice ag ng cg] 24)).alloc (.cells #[.int .i64 m] 3)).alloc (.cells #[.string ⟨#[]⟩, .int .i64 0, .int .i64 0, .slice none 0 0, .slice none 0 0] 24) := ⟨_, rfl⟩
  have HX := Lib.hid (three_made w _ _ _ _ _ _ _ _ _ _ _ _ _ w3 hw3)
  have HRO := Lib.hid h
  have HN1 := Lib.hid hn1
  have HN2 := Lib.hid hn2
  have HWL := Lib.hid hwl
  have HWZ := Lib.hid hwz
  clear h hlv hl1 hl2 hn1 hn2 hle1 hle2 htot hwl hwz hnot
  go_enter Try.func12, Try.ntmps12
  go_upto_region 1 with (fail)
  rw [← hw3]
  clear hw3
  obtain ⟨k0, k1, k2, k3, k4⟩ := HX.out
  have hX := Lib.hid k0
  have hM := Lib.hid k1
  have hY := Lib.hid k2
  have HB := Lib.hid k3
  have HS := Lib.hid k4
  clear k0 k1 k2 k3 k4 HX
  have HCM := Lib.hid (fun (u : World) (hu : Below w3.heap.size w3 u) => (hu.cell (p := ⟨w.heap.size + 1, 0, none⟩) (by have := HS.out; show w.heap.size + 1 < w3.heap.size; omega)).trans hM.out)
  obtain ⟨c0, c1, c2, c3, c4⟩ := five_cells hX.out
  have cm := hM.out
  go_wp2_with fail
  refine (R1.out _ (HRO.out.below HB.out)).mono ?_
  rintro e w4 ⟨rfl, hb4⟩
  have H4 := Lib.hid hb4
  clear hb4 c0 c1 c2 c3 c4 cm hM
  obtain ⟨c0, c1, c2, c3, c4⟩ := five_cells (hX.out.below hX.out.lt H4.out)
  have hs4 : w.heap.size + 1 < w4.heap.size := by have := HS.out; have := H4.out.size; omega
  have HS4 := Lib.hid hs4
  clear hs4
  go_wp2_with fail
  refine (RL.out _ _ (HRO.out.gones.below (HB.out.trans (H4.out.mono HB.out.size))) HS4.out (HCM.out _ H4.out)).mono ?_
  rintro e w5 ⟨a1, c1', rfl, hi5, -, hb5⟩
  have H5 := Lib.hid (H4.out.trans (hb5.mono H4.out.size))
  have HI5 := Lib.hid hi5
  clear c0 c1 c2 c3 c4 hi5
  obtain ⟨c0, c1, c2, c3, c4⟩ := five_cells (hX.out.below hX.out.lt H5.out)
  have HS5 := Lib.hid (show w.heap.size + 1 < w5.heap.size by have := HS.out; have := H5.out.size; omega)
  clear hb5
  go_wp2_with fail
  refine (RG.out _ _ (HRO.out.gones.below (HB.out.trans (H5.out.mono HB.out.size))) HS5.out (HCM.out _ H5.out)).mono ?_
  rintro e w6 ⟨a2, c2', rfl, hi6, -, hb6⟩
  have H6 := Lib.hid (H5.out.trans (hb6.mono H5.out.size))
  have HI6 := Lib.hid hi6
  have HI56 := Lib.hid (HI5.out.below hb6)
  clear c0 c1 c2 c3 c4 hi6 hb6
  go_upto_region 5 with (fail)
  obtain ⟨c0, c1, c2, c3, c4⟩ := five_cells (hX.out.below hX.out.lt H6.out).drew
  have cm := HCM.out _ H6.out.drew
  have hs6 : w.heap.size + 3 ≤ w6.heap.size := by have := HS.out; have := H6.out.size; omega
  have HS6 := Lib.hid hs6
  have hlt0 : w.heap.size < w6.heap.size := by omega
  have hlt1 : w.heap.size + 1 < w6.heap.size := by omega
  clear hs6
  obtain ⟨a0, a1', a2', a3, a4⟩ := five_cells ((hX.out.below hX.out.lt H6.out).alloc (.cells #[.int .i64 m] 3))
  obtain ⟨b0, b1, b2, b3, b4⟩ := five_cells (((hX.out.below hX.out.lt H6.out).alloc (.cells #[.int .i64 m] 3)).alloc (.cells #[.slice a1 n1 c1', .slice (some ⟨w6.heap.size, 0, none⟩) 1 1, .slice a2 n2 c2'] 22))
  go_region_with (first
    | (go_at_call 35; refine (RC.out (w6.heap.size + 1) _ (rows_three w6.drew m l1 l2 a1 a2 n1 n2 c1' c2' 3 22 HN1.out HN2.out (HI56.out.below (Below.refl _ _).drew) (HI6.out.below (Below.refl _ _).drew))).mono ?_; rintro e w7 ⟨ag', cg', rfl, hi7, hf7, hb7⟩
       clear a0 a1' a2' a3 a4 b0 b1 b2 b3 b4
       have hs7 : w.heap.size + 3 ≤ w7.heap.size := by have h1 := HS6.out; have h2 := hb7.size; simp at h2; omega
       have hf7' : ∀ q, ag' = some q → w.heap.size + 3 ≤ q.block := fun q hq => by have k1 := hf7 q hq; have k2 := HS6.out; simp at k1; omega
       have h37 : Below w3.heap.size w3 w7 := ((((H6.out.drew.alloc H6.out.size _).alloc (Nat.le_trans H6.out.size (by simp)) _).trans (hb7.mono (Nat.le_trans H6.out.size (by simp; omega)))))
       have hx7 := hX.out.below hX.out.lt h37
       obtain ⟨c0', c1'', c2'', c3', c4'⟩ := five_cells hx7)
    | (go_at_call 31; refine (RW.out _ (HRO.out.below (HB.out.trans (h37.mono HB.out.size))) _ _).mono ?_; rintro e w8 ⟨ab', cb', rfl, hi8, hf8, hb8⟩
       have hy8 := (hY.out.below hY.out.lt h37).below (hY.out.below hY.out.lt h37).lt hb8
       obtain ⟨d0, d1, d2, d3, d4⟩ := five_cells hy8
       obtain ⟨e0, e1, e2, e3, e4⟩ := five_free hy8))
  all_goals
    have HZ := Lib.hid (five_set hy8 (.string g) (.int .i64 r.servers) (.int .i64 r.clients) (.slice ab' nb cb') (.slice ag' (ng + 1) cg'))
    have HBZ := Lib.hid (below_five (HB.out.trans ((h37.trans (hb8.mono h37.size)).mono HB.out.size)) (w.heap.size + 1 + 1) (by omega) (.string g) (.int .i64 r.servers) (.int .i64 r.clients) (.slice ab' nb cb') (.slice ag' (ng + 1) cg'))
    have HRZ := Lib.hid (HRO.out.moved (l := without r.gone m) (ints_five hi8 (w.heap.size + 1 + 1) (.string g) (.int .i64 r.servers) (.int .i64 r.clients) (.slice ab' nb cb') (.slice ag' (ng + 1) cg') (fun q hq => by have k1 := hf8 q hq; omega)) (ints_five (hi7.below hb8) (w.heap.size + 1 + 1) (.string g) (.int .i64 r.servers) (.int .i64 r.clients) (.slice ab' nb cb') (.slice ag' (ng + 1) cg') (fun q hq => by have k1 := hf7' q hq; omega)) HWL.out hng HWZ.out)
    clear hi7 hi8 hf7 hf8 hf7' hx7 hy8 h37 hs7
    go_wp2
    exact bodyPost_ret (results_ct rfl _ rfl rfl rosRow HZ.out.range) rfl ⟨ab', cb', ag', cg', rfl, HRZ.out, HBZ.out⟩
end Go.Proofs.Ytofnjonmfgdpaaa.Ros
