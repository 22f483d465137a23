/-
  The statements' helpers of layer 12: has, ints, same and some. Conditions: that the slices' cells hold these numbers.
-/
import Derived.Test.YtofnjonmfgdpaaaRosO
import Derived.BigQuiet
import Derived.Deep.QuietTactic
namespace Go.Proofs.Ytofnjonmfgdpaaa.Ros
open Go.RowKit Mur Prt Go.Maps
set_option maxRecDepth 100000

theorem not_same_int (x : Int) : (x != x) = false := by simp

set_option maxHeartbeats 800000 in
theorem has_any (l : List Int) (x : Int) (b : Bool) (n : Nat) (a : Option Addr) (c : Nat) (w : World) (hb : b = decide (x ∈ l)) (hn : l.length = n) (hn2 : n ≤ 1000000) (ha : IntsR w a l) :
    Calls Try.prog 8 #[.slice a n c, .int .i64 x] w fun e w' => e = .returned (.bool b) ∧ w = w' := by
  have HA := Lib.hid ha
  have HN := Lib.hid hn
  have HB := Lib.hid hb
  clear ha hn hb
  go_enter Try.func8, Try.ntmps8
  go_wp2
  go_loopw [9] (fun i wr => ∃ q : Nat, q ≤ n ∧ i = .int .i64 q ∧ wr = w ∧ x ∉ l.take q) (fun i _ => n - (intOf i).toNat)
  case atStart => exact ⟨0, by omega, rfl, rfl, by simp⟩
  case round =>
    obtain ⟨q, hq, rfl, rfl, hno⟩ := hrel
    have HNO := Lib.hid hno
    clear hno
    by_cases hlt : q < n
    · obtain ⟨g, o, rfl, hg, hgc⟩ := HA.out (by have := HN.out; omega)
      have hql : q < l.length := by have := HN.out; omega
      obtain ⟨y, hy⟩ : ∃ y, l[q]? = some y := ⟨_, List.getElem?_eq_getElem hql⟩
      have c1 := hgc q y hy
      have HY := Lib.hid hy
      clear hql hgc hy
      by_cases hxy : y = x
      · have hs : (y == x) = true := by simp [hxy]
        have hbt : b = true := by rw [HB.out, ← hxy]; simp [List.mem_of_getElem? HY.out]
        subst hbt
        go_wp2
        go_ret
        exact ⟨rfl, rfl⟩
      · have hs : (y == x) = false := by simp [hxy]
        go_wp2
        go_roundw
        case rel => exact ⟨q + 1, by omega, by go_num, (by simp), by
          rw [List.take_add_one, HY.out, List.mem_append]
          rintro (h | h)
          · exact HNO.out h
          · exact hxy (Eq.symm (show x = y by simpa using h))⟩
        case measure => simp [intOf]; omega
    · obtain rfl : q = n := by omega
      have hmem : x ∉ l := by have := HNO.out; rwa [List.take_of_length_le (by have := HN.out; omega)] at this
      have hbt : b = false := by rw [HB.out]; simp [hmem]
      subst hbt
      go_wp2
      go_ret
      exact ⟨rfl, rfl⟩

set_option maxHeartbeats 800000 in
theorem ints_any (l : List Int) (n m : Nat) (a b : Option Addr) (c d : Nat) (w : World) (hn : l.length = n) (hm : l.length = m) (hn2 : n ≤ 1000000) (ha : IntsR w a l) (hb : IntsR w b l) :
    Calls Try.prog 11 #[.slice a n c, .slice b m d] w fun e w' => e = .returned (.bool true) ∧ Below w.heap.size w w' := by
  obtain rfl : m = n := by omega
  have HA := Lib.hid ha
  have HB := Lib.hid hb
  have HN := Lib.hid hn
  clear ha hb hn hm
  have hd : ((m : Int) != (m : Int)) = false := by simp
  go_enter Try.func11, Try.ntmps11
  go_wp2
  go_loopw [13] (fun i wr => ∃ q k : Nat, q ≤ m ∧ i = .int .i64 q ∧ wr = w.drewN k) (fun i _ => m - (intOf i).toNat)
  case atStart => exact ⟨0, 0, by omega, rfl, rfl⟩
  case round =>
    obtain ⟨q, k, hq, rfl, rfl⟩ := hrel
    by_cases hlt : q < m
    · obtain ⟨g, o, rfl, hg, hgc⟩ := HA.out (by have := HN.out; omega)
      obtain ⟨h, o2, rfl, hh, hhc⟩ := HB.out (by have := HN.out; omega)
      have hql : q < l.length := by have := HN.out; omega
      have c1 := hgc q l[q] (List.getElem?_eq_getElem hql)
      have c2 := hhc q l[q] (List.getElem?_eq_getElem hql)
      generalize l[q] = x at *
      have hs := not_same_int x
      clear hql hgc hhc
      go_wp2
      go_quiet (fail)
      go_wp2
      go_roundw
      case rel => exact ⟨q + 1, k + nq, by omega, by go_num, rfl⟩
      case measure => simp [intOf]; omega
    · obtain rfl : q = m := by omega
      go_wp2
      go_ret
      exact ⟨rfl, belowN (Below.refl _ _) k⟩

set_option maxHeartbeats 1600000 in
theorem same_any (r : R) (g : ByteArray) (ab ag ab2 ag2 : Option Addr) (nb cb ng cg nb2 cb2 ng2 cg2 : Nat) (w : World) (g2 : ByteArray) (h : RosR w r g ab nb ag ng) (h2 : RosR w r g2 ab2 nb2 ag2 ng2) :
    Calls Try.prog 16 #[.agg #[.string g, .int .i64 r.servers, .int .i64 r.clients, .slice ab nb cb, .slice ag ng cg], .agg #[.string g2, .int .i64 r.servers, .int .i64 r.clients, .slice ab2 nb2 cb2, .slice ag2 ng2 cg2]] w fun e w' => e = .returned (.bool true) ∧ Below w.heap.size w w' := by
  obtain rfl : g2 = g := by
    apply ByteArray.ext
    apply Array.ext'
    rw [h.group, h2.group]
  have hg : (g2.toList == g2.toList) = true := by simp
  have hs : (r.servers == r.servers) = true := by simp
  have hc : (r.clients == r.clients) = true := by simp
  have R1 := Lib.hid (fun (u : World) (hu : Below w.heap.size w u) => ints_any r.buddies nb nb2 ab ab2 cb cb2 u h.nbuds h2.nbuds (by have := h.fewB; omega) (h.buds.below hu) (h2.buds.below hu))
  have R2 := Lib.hid (fun (u : World) (hu : Below w.heap.size w u) => ints_any r.gone ng ng2 ag ag2 cg cg2 u h.ngones h2.ngones (by have := h.fewG; omega) (h.gones.below hu) (h2.gones.below hu))
  have hX := five_made w 24 (.string g2) (.int .i64 r.servers) (.int .i64 r.clients) (.slice ab nb cb) (.slice ag ng cg)
  have hB0 := (Below.refl w.heap.size w).alloc (Nat.le_refl _) (.cells #[.string g2, .int .i64 r.servers, .int .i64 r.clients, .slice ab nb cb, .slice ag ng cg] 24)
  have hsz : (w.alloc (.cells #[.string g2, .int .i64 r.servers, .int .i64 r.clients, .slice ab nb cb, .slice ag ng cg] 24)).heap.size = w.heap.size + 1 := by simp
  clear h h2
  go_enter Try.func16, Try.ntmps16
  go_upto_region 1 with (fail)
  generalize w.alloc (.cells #[.string g2, .int .i64 r.servers, .int .i64 r.clients, .slice ab nb cb, .slice ag ng cg] 24) = w0 at *
  have hY := five_made w0 24 (.string g2) (.int .i64 r.servers) (.int .i64 r.clients) (.slice ab2 nb2 cb2) (.slice ag2 ng2 cg2)
  rw [hsz] at hY
  have hX1 := hX.alloc (.cells #[.string g2, .int .i64 r.servers, .int .i64 r.clients, .slice ab2 nb2 cb2, .slice ag2 ng2 cg2] 24)
  have hB1 := hB0.alloc hB0.size (.cells #[.string g2, .int .i64 r.servers, .int .i64 r.clients, .slice ab2 nb2 cb2, .slice ag2 ng2 cg2] 24)
  generalize w0.alloc (.cells #[.string g2, .int .i64 r.servers, .int .i64 r.clients, .slice ab2 nb2 cb2, .slice ag2 ng2 cg2] 24) = w1 at *
  have HX := Lib.hid hX1
  have HY := Lib.hid hY
  have HB := Lib.hid hB1
  clear hX hX1 hY hB0 hB1 hsz
  obtain ⟨c0, c1, c2, c3, c4⟩ := five_cells HX.out
  obtain ⟨d0, d1, d2, d3, d4⟩ := five_cells HY.out
  go_wp2_with fail
  refine (R1.out _ HB.out).mono ?_
  rintro e w2 ⟨rfl, hb2⟩
  have HX2 := Lib.hid (HX.out.below HX.out.lt hb2)
  have HY2 := Lib.hid (HY.out.below HY.out.lt hb2)
  have HB2 := Lib.hid (HB.out.trans (hb2.mono HB.out.size))
  clear hb2 c0 c1 c2 c3 c4 d0 d1 d2 d3 d4
  obtain ⟨c0, c1, c2, c3, c4⟩ := five_cells HX2.out
  obtain ⟨d0, d1, d2, d3, d4⟩ := five_cells HY2.out
  go_wp2_with fail
  refine (R2.out _ HB2.out).mono ?_
  rintro e w3 ⟨rfl, hb3⟩
  have HB3 := Lib.hid (HB2.out.trans (hb3.mono HB2.out.size))
  clear hb3 c0 c1 c2 c3 c4 d0 d1 d2 d3 d4
  go_wp2
  go_ret
  exact ⟨rfl, HB3.out⟩

/-- The statements' own example. -/
def ex : R := ⟨[103], 2, 3, [1, 1, 2], []⟩
set_option maxHeartbeats 1600000 in
theorem some_any (w : World) :
    Calls Try.prog 18 #[] w fun e w' => ∃ b, e = .returned (.agg #[.string ⟨#[103]⟩, .int .i64 2, .int .i64 3, .slice (some ⟨b, 0, none⟩) 3 3, .slice none 0 0]) ∧ RosR w' ex ⟨#[103]⟩ (some ⟨b, 0, none⟩) 3 none 0 ∧ Below w.heap.size w w' := by
  have hY := five_made w 24 (.string ⟨#[]⟩) (.int .i64 0) (.int .i64 0) (.slice none 0 0) (.slice none 0 0)
  have hB0 := (Below.refl w.heap.size w).alloc (Nat.le_refl _) (.cells #[.string ⟨#[]⟩, .int .i64 0, .int .i64 0, .slice none 0 0, .slice none 0 0] 24)
  go_enter Try.func18, Try.ntmps18
  go_upto_region 1 with (fail)
  generalize w.alloc (.cells #[.string ⟨#[]⟩, .int .i64 0, .int .i64 0, .slice none 0 0, .slice none 0 0] 24) = w0 at *
  obtain ⟨d0, d1, d2, d3, d4⟩ := five_cells hY
  obtain ⟨e0, e1, e2, e3, e4⟩ := five_free hY
  have hlt : w.heap.size < w0.heap.size := hY.lt
  have HY := Lib.hid hY
  have HB := Lib.hid hB0
  clear hY hB0
  go_wp2
  have HZ := Lib.hid ((five_set HY.out (.string ⟨#[103]⟩) (.int .i64 2) (.int .i64 3) (.slice (some ⟨w0.heap.size, 0, none⟩) 3 3) (.slice none 0 0)).alloc (.cells #[.int .i64 1, .int .i64 1, .int .i64 2] 3))
  have HBZ := Lib.hid ((below_five HB.out w.heap.size (Nat.le_refl _) (.string ⟨#[103]⟩) (.int .i64 2) (.int .i64 3) (.slice (some ⟨w0.heap.size, 0, none⟩) 3 3) (.slice none 0 0)).alloc (by simp; omega) (.cells #[.int .i64 1, .int .i64 1, .int .i64 2] 3))
  clear d0 d1 d2 d3 d4 e0 e1 e2 e3 e4 HY HB
  have hs5 : (((((w0.setCell ⟨w.heap.size, 0, none⟩ (.string ⟨#[103]⟩)).setCell ⟨w.heap.size, 1, none⟩ (.int .i64 2)).setCell ⟨w.heap.size, 2, none⟩ (.int .i64 3)).setCell ⟨w.heap.size, 3, none⟩ (.slice (some ⟨w0.heap.size, 0, none⟩) 3 3)).setCell ⟨w.heap.size, 4, none⟩ (.slice none 0 0)).heap.size = w0.heap.size := by simp
  generalize ((((w0.setCell ⟨w.heap.size, 0, none⟩ (.string ⟨#[103]⟩)).setCell ⟨w.heap.size, 1, none⟩ (.int .i64 2)).setCell ⟨w.heap.size, 2, none⟩ (.int .i64 3)).setCell ⟨w.heap.size, 3, none⟩ (.slice (some ⟨w0.heap.size, 0, none⟩) 3 3)).setCell ⟨w.heap.size, 4, none⟩ (.slice none 0 0) = w5 at *
  have hI : IntsR (w5.alloc (.cells #[.int .i64 1, .int .i64 1, .int .i64 2] 3)) (some ⟨w0.heap.size, 0, none⟩) [1, 1, 2] := fun _ => ⟨w0.heap.size, 0, rfl, by simp [hs5], fun i x hx => by
    rw [← hs5]
    match i, hx with
    | 0, hx => cases hx; simp [World.cell?_alloc_new]
    | 1, hx => cases hx; simp [World.cell?_alloc_new]
    | 2, hx => cases hx; simp [World.cell?_alloc_new]⟩
  refine bodyPost_ret (results_c rfl _ rfl rosRow HZ.out.range) rfl ?_
  exact ⟨w0.heap.size, rfl, ⟨rfl, hI, rfl, fun h => absurd rfl h, rfl, by decide, by decide, by decide, (fun z hz => by simp [ex] at hz; omega), (fun z hz => by cases hz), by omega, by omega⟩, HBZ.out⟩
end Go.Proofs.Ytofnjonmfgdpaaa.Ros
