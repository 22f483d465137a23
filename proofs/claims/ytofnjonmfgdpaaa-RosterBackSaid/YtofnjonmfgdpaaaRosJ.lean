/-
  Upstream and Friends of package roster answer what the plain mathematics of the text Ros says, and leave all memory that was there as it was. Conditions: RosR.
-/
import Derived.Test.YtofnjonmfgdpaaaRosI
namespace Go.Proofs.Ytofnjonmfgdpaaa.Ros
open Go.RowKit Mur Prt Go.Maps
set_option maxRecDepth 100000

set_option maxHeartbeats 800000 in
theorem upstream_any (r : R) (c z : Int) (g : ByteArray) (ab ag : Option Addr) (nb cb ng cg : Nat) (w : World) (hz : z = upstream r c) (h1 : -9223372036854775808 ≤ c) (h2 : c ≤ 9223372036854775807) (h : RosR w r g ab nb ag ng) :
    Calls Try.prog 19 #[.agg #[.string g, .int .i64 r.servers, .int .i64 r.clients, .slice ab nb cb, .slice ag ng cg], .int .i64 c] w fun e w' => e = .returned (.int .i64 z) ∧ Below w.heap.size w w' := by
  obtain ⟨n, hn⟩ : ∃ n, (serversL r).length = n := ⟨_, rfl⟩
  have hn4 : n ≤ 4 := by rw [← hn]; exact servers_length r
  have R1 := Lib.hid (fun (u : World) (hu : RosR u r g ab nb ag ng) => servers_any r (serversL r) n g ab ag nb cb ng cg u rfl hn hu)
  have HX := Lib.hid (box_five w (.string g) (.int .i64 r.servers) (.int .i64 r.clients) (.slice ab nb cb) (.slice ag ng cg) 24)
  have HR := Lib.hid (h.below HX.out.1)
  have HN := Lib.hid hn
  have HZ := Lib.hid hz
  clear h hn hz
  go_enter Try.func19, Try.ntmps19
  go_upto_region 1 with (fail)
  generalize w.alloc (.cells #[.string g, .int .i64 r.servers, .int .i64 r.clients, .slice ab nb cb, .slice ag ng cg] 24) = w0 at *
  obtain ⟨c0, c1, c2, c3, c4⟩ := HX.out.2.2 w0 (Below.refl _ _)
  go_wp2_with fail
  refine (R1.out _ HR.out).mono ?_
  rintro e w1 ⟨ao, co, rfl, hi, hb1⟩
  have HI := Lib.hid hi
  have HB1 := Lib.hid (HX.out.1.trans (hb1.mono HX.out.1.size))
  clear hi hb1 c0 c1 c2 c3 c4
  by_cases h0 : n = 0
  · subst h0
    have hl : serversL r = [] := List.eq_nil_of_length_eq_zero HN.out
    have hze : z = -1 := by rw [HZ.out, upstream, if_pos (.inl hl)]
    subst hze
    clear hl
    go_wp2
    go_ret
    exact ⟨rfl, HB1.out⟩
  · have hne : (((n : Int)) == 0) = false := by rw [beq_eq_false_iff_ne]; omega
    have hne2 : ((n == 0) : Bool) = false := by rw [beq_eq_false_iff_ne]; omega
    by_cases hc : c < 100
    · have hze : z = -1 := by rw [HZ.out, upstream, if_pos (.inr hc)]
      subst hze
      have hd : decide (c < 100) = true := decide_eq_true hc
      go_wp2
      go_ret
      exact ⟨rfl, HB1.out⟩
    · have hd : decide (c < 100) = false := decide_eq_false hc
      obtain ⟨k, hk⟩ : ∃ k : Nat, c - 100 = (k : Int) := ⟨(c - 100).toNat, by omega⟩
      have hw : wrap64 (c - 100) = (k : Int) := by rw [hk]; unfold wrap64; omega
      obtain ⟨q, hq⟩ : ∃ q, q = k % n := ⟨_, rfl⟩
      have hqn : q < n := by rw [hq]; exact Nat.mod_lt _ (by omega)
      have hrm : wrap64 ((k : Int).tmod (n : Int)) = (q : Int) := by
        rw [Int.tmod_eq_emod_of_nonneg (by omega), hq]
        have : ((k : Int) % (n : Int)) = ((k % n : Nat) : Int) := by omega
        rw [this]
        have := Nat.mod_lt k (show n > 0 by omega)
        unfold wrap64; omega
      have hrm2 : ((k : Int).tmod (n : Int)) = (q : Int) := by
        rw [Int.tmod_eq_emod_of_nonneg (by omega), hq]
        omega
      obtain ⟨b, o, rfl, hb, hcl⟩ := HI.out (by rw [HN.out]; exact h0)
      obtain ⟨x, hx⟩ : ∃ x, (serversL r)[q]? = some x := ⟨_, List.getElem?_eq_getElem (by rw [HN.out]; exact hqn)⟩
      have cx := hcl q x hx
      have hze : z = x := by
        rw [HZ.out, upstream, if_neg (fun h3 => h3.elim (fun h3 => h0 (by rw [← HN.out, h3]; rfl)) hc), HN.out, show (c - 100).toNat = k by omega, ← hq, List.getD, hx]
        rfl
      subst hze
      have hn0 : ¬ (n : Int) = 0 := by omega
      have hrm3 : (c - 100) % (n : Int) = (q : Int) := by rw [hk, hq]; omega
      have hlt : (q : Int) < (n : Int) := by omega
      clear hcl hb hx hk hq
      go_wp2
      go_ret
      exact ⟨rfl, HB1.out⟩

set_option maxHeartbeats 800000 in
theorem friendly_any (r : R) (f v : Int) (b : Bool) (g : ByteArray) (ab ag : Option Addr) (nb cb ng cg b0 b1 : Nat) (w : World) (hb : b = decide (bud r f = some v)) (h1 : -9223372036854775808 ≤ f) (h2 : f ≤ 9223372036854775807) (h : RosR w r g ab nb ag ng)
    (c0 : w.cell? ⟨b0, 0, none⟩ = some (.string g)) (c1 : w.cell? ⟨b0, 1, none⟩ = some (.int .i64 r.servers)) (c2 : w.cell? ⟨b0, 2, none⟩ = some (.int .i64 r.clients)) (c3 : w.cell? ⟨b0, 3, none⟩ = some (.slice ab nb cb)) (c4 : w.cell? ⟨b0, 4, none⟩ = some (.slice ag ng cg)) (hl1 : b1 < w.heap.size) (cv : w.cell? ⟨b1, 0, none⟩ = some (.int .i64 v)) :
    Calls Try.prog 30 #[.int .i64 f, .pointer (some ⟨b0, 0, none⟩), .pointer (some ⟨b1, 0, none⟩)] w fun e w' => e = .returned (.bool b) ∧ Below w.heap.size w w' := by
  obtain ⟨x, hx⟩ : ∃ x, x = budV r f := ⟨_, rfl⟩
  obtain ⟨y, hy⟩ : ∃ y, y = budB r f := ⟨_, rfl⟩
  have R1 := Lib.hid (buddies_any r f x y g ab ag nb cb ng cg w hx hy h1 h2 h)
  have HB := Lib.hid hb
  have HXX := Lib.hid hx
  have HYY := Lib.hid hy
  clear hb hx hy h
  go_enter Try.func30, Try.ntmps30
  go_wp2_with fail
  refine R1.out.mono ?_
  rintro e w1 ⟨rfl, hb1⟩
  have cv1 := (hb1.cell (p := ⟨b1, 0, none⟩) hl1).trans cv
  have HB1 := Lib.hid hb1
  clear hb1 cv c0 c1 c2 c3 c4
  cases y with
  | false =>
    have hbf : b = false := by
      rw [HB.out]
      have h3 := HYY.out
      unfold budB at h3
      cases hbu : bud r f with
      | none => simp
      | some q => rw [hbu] at h3; cases h3
    subst hbf
    go_wp2
    go_ret
    exact ⟨rfl, HB1.out⟩
  | true =>
    have hbx : b = (x == v) := by
      rw [HB.out]
      have h3 := HYY.out
      have h4 := HXX.out
      unfold budB at h3
      unfold budV at h4
      cases hbu : bud r f with
      | none => rw [hbu] at h3; cases h3
      | some q =>
        rw [hbu] at h4
        obtain rfl : x = q := h4
        rw [Bool.eq_iff_iff]
        simp
    subst hbx
    go_wp2
    go_ret
    exact ⟨by simp, HB1.out⟩
end Go.Proofs.Ytofnjonmfgdpaaa.Ros
