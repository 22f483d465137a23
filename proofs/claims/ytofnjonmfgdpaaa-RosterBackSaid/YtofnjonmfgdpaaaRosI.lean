/-
  Right, buddies, Servers, Clients and Upstream of package roster answer what the plain mathematics of the text Ros says, and leave all memory that was there as it was. Conditions: RosR.
-/
import Derived.Test.YtofnjonmfgdpaaaRosH
namespace Go.Proofs.Ytofnjonmfgdpaaa.Ros
open Go.RowKit Mur Prt Go.Maps
set_option maxRecDepth 100000

set_option maxHeartbeats 1600000 in
theorem right_any (r : R) (b : Bool) (g : ByteArray) (ab ag : Option Addr) (nb cb ng cg : Nat) (w : World) (hb : b = right r) (h : RosR w r g ab nb ag ng) :
    Calls Try.prog 13 #[.agg #[.string g, .int .i64 r.servers, .int .i64 r.clients, .slice ab nb cb, .slice ag ng cg]] w fun e w' => e = .returned (.bool b) ∧ Below w.heap.size w w' := by
  rw [right_parts, ← h.group, h.nbuds, show (g.data.toList.length : Int) = (g.size : Int) by rw [Array.length_toList]; rfl] at hb
  obtain ⟨x1, h1⟩ : ∃ x, x = (decide (1 ≤ (g.size : Int)) && decide ((g.size : Int) ≤ 8)) := ⟨_, rfl⟩
  obtain ⟨x2, h2⟩ : ∃ x, x = (decide (1 ≤ r.servers) && decide (r.servers ≤ 4)) := ⟨_, rfl⟩
  obtain ⟨x3, h3⟩ : ∃ x, x = (decide (1 ≤ r.clients) && decide (r.clients ≤ 6)) := ⟨_, rfl⟩
  obtain ⟨x4, h4⟩ : ∃ x, x = decide ((nb : Int) = r.clients) := ⟨_, rfl⟩
  obtain ⟨x5, h5⟩ : ∃ x, x = okGone r := ⟨_, rfl⟩
  rw [← h1, ← h2, ← h3, ← h4, ← h5] at hb
  have R1 := Lib.hid (fun u => within_any (g.size : Int) 1 8 u x1 h1)
  have R2 := Lib.hid (fun u => within_any r.servers 1 4 u x2 h2)
  have R3 := Lib.hid (fun u => within_any r.clients 1 6 u x3 h3)
  have he : (((nb : Int)) == r.clients) = x4 := by rw [h4]; rfl
  have R5 := Lib.hid (fun (u : World) (hu : RosR u r g ab nb ag ng) => rightGone_any r x5 g ab ag nb cb ng cg u h5 hu)
  have HX := Lib.hid (box_five w (.string g) (.int .i64 r.servers) (.int .i64 r.clients) (.slice ab nb cb) (.slice ag ng cg) 24)
  have HR := Lib.hid (h.below (box_five w (.string g) (.int .i64 r.servers) (.int .i64 r.clients) (.slice ab nb cb) (.slice ag ng cg) 24).1)
  clear h1 h2 h3 h4 h5 h
  go_enter Try.func13, Try.ntmps13
  go_upto_region 1 with (fail)
  generalize w.alloc (.cells #[.string g, .int .i64 r.servers, .int .i64 r.clients, .slice ab nb cb, .slice ag ng cg] 24) = w0 at *
  obtain ⟨c0, c1, c2, c3, c4⟩ := HX.out.2.2 w0 (Below.refl _ _)
  have HE := Lib.hid he
  clear he
  cases x1 with
  | false =>
    subst hb
    go_wp2_with fail
    refine (R1.out _).mono ?_
    rintro e w1 ⟨rfl, rfl⟩
    go_wp2
    go_ret
    exact ⟨rfl, HX.out.1⟩
  | true =>
    cases x2 with
    | false =>
      subst hb
      go_wp2_with fail
      refine (R1.out _).mono ?_
      rintro e w1 ⟨rfl, rfl⟩
      go_wp2_with fail
      refine (R2.out _).mono ?_
      rintro e w1 ⟨rfl, rfl⟩
      go_wp2
      go_ret
      exact ⟨rfl, HX.out.1⟩
    | true =>
      cases x3 with
      | false =>
        subst hb
        go_wp2_with fail
        refine (R1.out _).mono ?_
        rintro e w1 ⟨rfl, rfl⟩
        go_wp2_with fail
        refine (R2.out _).mono ?_
        rintro e w1 ⟨rfl, rfl⟩
        go_wp2_with fail
        refine (R3.out _).mono ?_
        rintro e w1 ⟨rfl, rfl⟩
        go_wp2
        go_ret
        exact ⟨rfl, HX.out.1⟩
      | true =>
        cases x4 with
        | false =>
          subst hb
          go_wp2_with fail
          refine (R1.out _).mono ?_
          rintro e w1 ⟨rfl, rfl⟩
          go_wp2_with fail
          refine (R2.out _).mono ?_
          rintro e w1 ⟨rfl, rfl⟩
          go_wp2_with fail
          refine (R3.out _).mono ?_
          rintro e w1 ⟨rfl, rfl⟩
          have he := HE.out
          go_wp2
          go_ret
          exact ⟨rfl, HX.out.1⟩
        | true =>
          subst hb
          go_wp2_with fail
          refine (R1.out _).mono ?_
          rintro e w1 ⟨rfl, rfl⟩
          go_wp2_with fail
          refine (R2.out _).mono ?_
          rintro e w1 ⟨rfl, rfl⟩
          go_wp2_with fail
          refine (R3.out _).mono ?_
          rintro e w1 ⟨rfl, rfl⟩
          have he := HE.out
          go_wp2_with fail
          refine (R5.out _ HR.out).mono ?_
          rintro e w1 ⟨rfl, hb1⟩
          have HB1 := Lib.hid (HX.out.1.trans (hb1.mono HX.out.1.size))
          clear hb1 c0 c1 c2 c3 c4
          go_wp2
          go_ret
          exact ⟨by simp, HB1.out⟩

/-- What buddies tells. -/
def budV (r : R) (c : Int) : Int := (bud r c).getD 0
def budB (r : R) (c : Int) : Bool := (bud r c).isSome
theorem bud_at (r : R) (c : Int) : bud r c = if 100 ≤ c ∧ c - 100 < (r.buddies.length : Int) then r.buddies[(c - 100).toNat]? else none := by
  unfold bud
  by_cases h : 100 ≤ c
  · rw [if_pos h]
    split
    · rfl
    · rename_i h2
      exact List.getElem?_eq_none (by omega)
  · rw [if_neg h, if_neg (fun h2 => h h2.1)]

set_option maxHeartbeats 800000 in
theorem buddies_any (r : R) (c : Int) (v : Int) (b : Bool) (g : ByteArray) (ab ag : Option Addr) (nb cb ng cg : Nat) (w : World) (hv : v = budV r c) (hb : b = budB r c) (h1 : -9223372036854775808 ≤ c) (h2 : c ≤ 9223372036854775807) (h : RosR w r g ab nb ag ng) :
    Calls Try.prog 29 #[.agg #[.string g, .int .i64 r.servers, .int .i64 r.clients, .slice ab nb cb, .slice ag ng cg], .int .i64 c] w fun e w' => e = .returned (.tuple #[.int .i64 v, .bool b]) ∧ Below w.heap.size w w' := by
  rw [budV, bud_at, h.nbuds] at hv
  rw [budB, bud_at, h.nbuds] at hb
  have HX := Lib.hid (box_five w (.string g) (.int .i64 r.servers) (.int .i64 r.clients) (.slice ab nb cb) (.slice ag ng cg) 24)
  by_cases hin : 100 ≤ c ∧ c - 100 < (nb : Int)
  · rw [if_pos hin] at hv hb
    have R1 := Lib.hid (fun u => among_any c 100 (nb : Int) u true (by simp [hin.1, hin.2]) (by omega) h1 h2)
    obtain ⟨bb, o, rfl, hbb, hbc⟩ := h.buds (by have := h.nbuds; omega)
    obtain ⟨k, hk⟩ : ∃ k : Nat, c - 100 = (k : Int) := ⟨(c - 100).toNat, by omega⟩
    have hkt : (c - 100).toNat = k := by omega
    obtain ⟨z, hz⟩ : ∃ z, r.buddies[k]? = some z := ⟨_, List.getElem?_eq_getElem (by have := h.nbuds; omega)⟩
    rw [hkt, hz] at hv hb
    obtain rfl : v = z := hv
    obtain rfl : b = true := hb
    have cz := (HX.out.1.cell (p := ⟨bb, o + k, none⟩) hbb).trans (hbc k v hz)
    have hw : wrap64 (c - 100) = (k : Int) := by rw [hk]; unfold wrap64; omega
    have hlt : (k : Int) < (nb : Int) := by omega
    have hlt2 : k < nb := by omega
    clear hbc hbb hz hkt hk h hin
    go_enter Try.func29, Try.ntmps29
    go_upto_region 1 with (fail)
    generalize w.alloc (.cells #[.string g, .int .i64 r.servers, .int .i64 r.clients, .slice (some ⟨bb, o, none⟩) nb cb, .slice ag ng cg] 24) = w0 at *
    obtain ⟨c0, c1, c2, c3, c4⟩ := HX.out.2.2 w0 (Below.refl _ _)
    go_wp2_with fail
    refine (R1.out _).mono ?_
    rintro e w1 ⟨rfl, rfl⟩
    go_wp2
    go_ret2
    exact ⟨rfl, HX.out.1⟩
  · rw [if_neg hin] at hv hb
    obtain rfl : v = 0 := hv
    obtain rfl : b = false := hb
    have R1 := Lib.hid (fun u => among_any c 100 (nb : Int) u false (by symm; rw [← Bool.not_eq_true, Bool.and_eq_true, decide_eq_true_eq, decide_eq_true_eq]; exact hin) (by omega) h1 h2)
    clear hin h
    go_enter Try.func29, Try.ntmps29
    go_upto_region 1 with (fail)
    generalize w.alloc (.cells #[.string g, .int .i64 r.servers, .int .i64 r.clients, .slice ab nb cb, .slice ag ng cg] 24) = w0 at *
    obtain ⟨c0, c1, c2, c3, c4⟩ := HX.out.2.2 w0 (Below.refl _ _)
    go_wp2_with fail
    refine (R1.out _).mono ?_
    rintro e w1 ⟨rfl, rfl⟩
    go_wp2
    go_ret2
    exact ⟨rfl, HX.out.1⟩

theorem upto_filter (r : R) (f k : Int) (hm : ∀ i : Nat, (i : Int) < k → member r (f + (i : Int)) = true) : upto f r.gone k.toNat = ((List.range k.toNat).map fun i : Nat => f + (i : Int)).filter (live r) := by
  unfold upto
  refine List.filter_congr fun x hx => ?_
  rw [List.mem_map] at hx
  obtain ⟨i, hi, rfl⟩ := hx
  rw [List.mem_range] at hi
  rw [live, hm i (by omega), Bool.true_and]
theorem servers_upto (r : R) : serversL r = upto 0 r.gone (min r.servers 4).toNat := by
  rw [upto_filter r 0 (min r.servers 4) (fun i hi => (member_iff _ _).2 (.inl (by omega)))]
  unfold serversL most
  rw [show (max 0 (min r.servers ((4 : Nat) : Int))).toNat = (min r.servers 4).toNat by omega]
  simp only [Int.zero_add]
theorem clients_upto (r : R) : clientsL r = upto 100 r.gone (min r.clients 6).toNat := by
  rw [upto_filter r 100 (min r.clients 6) (fun i hi => (member_iff _ _).2 (.inr (by omega)))]
  unfold clientsL most
  rw [show (max 0 (min r.clients ((6 : Nat) : Int))).toNat = (min r.clients 6).toNat by omega]

theorem servers_any (r : R) (L : List Int) (n : Nat) (g : ByteArray) (ab ag : Option Addr) (nb cb ng cg : Nat) (w : World) (hL : L = serversL r) (hn : L.length = n) (h : RosR w r g ab nb ag ng) :
    Calls Try.prog 20 #[.agg #[.string g, .int .i64 r.servers, .int .i64 r.clients, .slice ab nb cb, .slice ag ng cg]] w fun e w' => ∃ ao co, e = .returned (.slice ao n co) ∧ IntsR w' ao L ∧ Below w.heap.size w w' := by
  rw [servers_upto] at hL
  subst hL
  have R1 := Lib.hid (fun (u : World) (hu : RosR u r g ab nb ag ng) => living_any r 0 (min r.servers 4) g r.servers r.clients ab ag nb cb ng cg u (by omega) (by omega) (by omega) hu.ngones hu.fewG hu.gones hu.fitG)
  rw [hn] at R1
  have HX := Lib.hid (box_five w (.string g) (.int .i64 r.servers) (.int .i64 r.clients) (.slice ab nb cb) (.slice ag ng cg) 24)
  have HR := Lib.hid (h.below HX.out.1)
  clear h
  go_enter Try.func20, Try.ntmps20
  go_upto_region 1 with (fail)
  generalize w.alloc (.cells #[.string g, .int .i64 r.servers, .int .i64 r.clients, .slice ab nb cb, .slice ag ng cg] 24) = w0 at *
  obtain ⟨c0, c1, c2, c3, c4⟩ := HX.out.2.2 w0 (Below.refl _ _)
  go_wp2_with fail
  refine (R1.out _ HR.out).mono ?_
  rintro e w1 ⟨ao, co, rfl, hi, hb1⟩
  have HI := Lib.hid hi
  have HB1 := Lib.hid (HX.out.1.trans (hb1.mono HX.out.1.size))
  clear hi hb1 c0 c1 c2 c3 c4
  go_wp2
  go_ret
  exact ⟨ao, co, rfl, HI.out, HB1.out⟩
theorem clients_any (r : R) (L : List Int) (n : Nat) (g : ByteArray) (ab ag : Option Addr) (nb cb ng cg : Nat) (w : World) (hL : L = clientsL r) (hn : L.length = n) (h : RosR w r g ab nb ag ng) :
    Calls Try.prog 21 #[.agg #[.string g, .int .i64 r.servers, .int .i64 r.clients, .slice ab nb cb, .slice ag ng cg]] w fun e w' => ∃ ao co, e = .returned (.slice ao n co) ∧ IntsR w' ao L ∧ Below w.heap.size w w' := by
  rw [clients_upto] at hL
  subst hL
  have R1 := Lib.hid (fun (u : World) (hu : RosR u r g ab nb ag ng) => living_any r 100 (min r.clients 6) g r.servers r.clients ab ag nb cb ng cg u (by omega) (by omega) (by omega) hu.ngones hu.fewG hu.gones hu.fitG)
  rw [hn] at R1
  have HX := Lib.hid (box_five w (.string g) (.int .i64 r.servers) (.int .i64 r.clients) (.slice ab nb cb) (.slice ag ng cg) 24)
  have HR := Lib.hid (h.below HX.out.1)
  clear h
  go_enter Try.func21, Try.ntmps21
  go_upto_region 1 with (fail)
  generalize w.alloc (.cells #[.string g, .int .i64 r.servers, .int .i64 r.clients, .slice ab nb cb, .slice ag ng cg] 24) = w0 at *
  obtain ⟨c0, c1, c2, c3, c4⟩ := HX.out.2.2 w0 (Below.refl _ _)
  go_wp2_with fail
  refine (R1.out _ HR.out).mono ?_
  rintro e w1 ⟨ao, co, rfl, hi, hb1⟩
  have HI := Lib.hid hi
  have HB1 := Lib.hid (HX.out.1.trans (hb1.mono HX.out.1.size))
  clear hi hb1 c0 c1 c2 c3 c4
  go_wp2
  go_ret
  exact ⟨ao, co, rfl, HI.out, HB1.out⟩
end Go.Proofs.Ytofnjonmfgdpaaa.Ros
