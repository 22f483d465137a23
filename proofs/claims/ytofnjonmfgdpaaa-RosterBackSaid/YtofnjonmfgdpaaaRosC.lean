/-
  met and living of package roster: the map of how often, and those that live of so many numbers, answer what the plain mathematics of the text Ros says, and leave all memory that was there as it was. Conditions: that numbers fit, and no list has more than 1000 numbers.
-/
import Derived.Test.YtofnjonmfgdpaaaRosA
import Derived.Maps.OwnOps
import Derived.Maps.Views
namespace Go.Proofs.Ytofnjonmfgdpaaa.Ros
open Go.RowKit Mur Prt Go.Maps
set_option maxRecDepth 100000

theorem lawI : Keyed Try.prog 3 := int_keyed Try.underlying3
theorem zeroI (w : World) : (zeroValue 3).run Try.prog w = .ok (.int .i64 0) w := by kernel_rfl
/-- How often. -/
def cnt (k : Int) (M : List Int) : Nat := (M.filter fun z => decide (z = k)).length
theorem cnt_le (k : Int) (M : List Int) : cnt k M ≤ M.length := List.length_filter_le _ _
theorem cnt_snoc (k x : Int) (M : List Int) : cnt k (M ++ [x]) = cnt k M + (if x = k then 1 else 0) := by
  unfold cnt
  rw [List.filter_append, List.length_append]
  split
  · rename_i h; simp [h]
  · rename_i h; simp [h]
theorem cnt_zero (k : Int) (M : List Int) : ((cnt k M : Nat) : Int) = 0 ↔ k ∉ M := by
  unfold cnt
  rw [Int.natCast_eq_zero, List.length_eq_zero_iff, List.filter_eq_nil_iff]
  constructor
  · intro h hm
    exact h k hm (by simp)
  · intro h z hz hzk
    exact h (by rw [← of_decide_eq_true hzk]; exact hz)
def Tells (D : DataW Unit) (M : List Int) : Prop := IsMap D ∧ ∀ k, D.atKey (.int .i64 k) (.lit (.int .i64 0)) = .lit (.int .i64 (cnt k M : Nat))
theorem tells_none : Tells (.map []) [] := ⟨isMap_empty, fun _ => rfl⟩
theorem tells_put {D : DataW Unit} {M : List Int} {x : Int} (h : Tells D M) : Tells (D.put (.int .i64 x) (.lit (.int .i64 ((cnt x M : Nat) + 1)))) (M ++ [x]) := by
  refine ⟨h.1.put _ _, fun k => ?_⟩
  by_cases hk : x = k
  · subst hk
    rw [atKey_put_same h.1 (by simp [WideAt.IsKeyLit])]
    rw [cnt_snoc, if_pos rfl]
    rfl
  · rw [atKey_put_other (fun e => hk (by simpa using e.symm)), h.2 k, cnt_snoc, if_neg hk]
    rfl
/-- A map in memory that tells how often. -/
def MapR (w : World) (b n : Nat) (M : List Int) : Prop := ∃ D, w.ownsMap Try.prog 3 (plainElem Try.prog 3) b n D ∧ Tells D M
theorem MapR.below {w w' : World} {b n : Nat} {M : List Int} (h : MapR w b n M) (hb : Below w.heap.size w w') : MapR w' b n M := by
  obtain ⟨D, h1, h2⟩ := h
  exact ⟨D, h1.kept (row := none) ⟨hb.os, hb.tape, hb.output, hb.size, fun k hk _ => hb.block k hk⟩ (by simp), h2⟩
theorem MapR.lt {w : World} {b n : Nat} {M : List Int} (h : MapR w b n M) : b < w.heap.size := by
  obtain ⟨D, h1, _⟩ := h
  exact h1.lt

/-- Those of a list that are among so many numbers from f on. -/
def amid (f k : Int) (l : List Int) : List Int := l.filter fun z => decide (f ≤ z) && decide (z - f < k)
theorem amid_snoc (f k : Int) (l : List Int) (j : Nat) (x : Int) (h : l[j]? = some x) : amid f k (l.take (j + 1)) = amid f k (l.take j) ++ if (decide (f ≤ x) && decide (x - f < k)) = true then [x] else [] := by
  unfold amid
  rw [List.take_add_one, h, List.filter_append, show (some x).toList = [x] from rfl, List.filter_cons, List.filter_nil]
theorem amid_mem (f k x : Int) (l : List Int) (h1 : f ≤ x) (h2 : x - f < k) : x ∈ amid f k l ↔ x ∈ l := by
  unfold amid
  rw [List.mem_filter]
  simp [h1, h2]

set_option maxHeartbeats 1600000 in
theorem met_any (l : List Int) (f k : Int) (n : Nat) (a : Option Addr) (c : Nat) (w : World) (hf : 0 ≤ f) (hn : l.length = n) (hn2 : n ≤ 1000) (ha : IntsR w a l) (hz : ∀ z ∈ l, -9223372036854775808 ≤ z ∧ z ≤ 9223372036854775807) :
    Calls Try.prog 22 #[.slice a n c, .int .i64 f, .int .i64 k] w fun e w' => ∃ b, e = .returned (.map (some b)) ∧ MapR w' b n (amid f k l) ∧ Below w.heap.size w w' := by
  have hmm := @run_makeMap Try.prog
  have RA := Lib.hid (fun (x : Int) (hx : x ∈ l) (u : World) (y : Bool) (hy : y = (decide (f ≤ x) && decide (x - f < k))) => among_any x f k u y hy hf (hz x hx).1 (hz x hx).2)
  have HA := Lib.hid ha
  have HN := Lib.hid hn
  have HZ := Lib.hid hz
  clear ha hn hf hz
  go_enter Try.func22, Try.ntmps22
  go_wp2
  clear hmm
  go_loopw [13] (fun i wr => ∃ j : Nat, j ≤ n ∧ i = .int .i64 j ∧ MapR wr w.heap.size j (amid f k (l.take j)) ∧ Below w.heap.size w wr) (fun i _ => n - (intOf i).toNat)
  case atStart => exact ⟨0, by omega, rfl, ⟨_, World.ownsMap_made _ _ _ _, tells_none⟩, (Below.refl _ _).alloc (Nat.le_refl _) _⟩
  case round =>
    obtain ⟨j, hj, rfl, ⟨D, hown, htell⟩, hbel⟩ := hrel
    have HT := Lib.hid htell
    have HW := Lib.hid hbel
    clear htell hbel
    by_cases hlt : j < n
    · obtain ⟨g, o, rfl, hg, hgc⟩ := HA.out (by have := HN.out; omega)
      have hjl : j < l.length := by have := HN.out; omega
      obtain ⟨x, hx⟩ : ∃ x, l[j]? = some x := ⟨_, List.getElem?_eq_getElem hjl⟩
      have c1 := (HW.out.cell (p := ⟨g, o + j, none⟩) hg).trans (hgc j x hx)
      have hxm : x ∈ l := List.mem_of_getElem? hx
      have hxz := HZ.out x hxm
      have HX := Lib.hid hx
      obtain ⟨y, hy⟩ : ∃ y, y = (decide (f ≤ x) && decide (x - f < k)) := ⟨_, rfl⟩
      have R1 := Lib.hid (fun u => RA.out x hxm u y hy)
      have HY := Lib.hid hy
      have hcl : cnt x (amid f k (l.take j)) ≤ 1000 := Nat.le_trans (cnt_le _ _) (Nat.le_trans (List.length_filter_le _ _) (by rw [List.length_take]; omega))
      have hww : wrap64 ((cnt x (amid f k (l.take j)) : Nat) + 1) = (cnt x (amid f k (l.take j)) : Nat) + 1 := by unfold wrap64; omega
      have HCL := Lib.hid hcl
      have HWW := Lib.hid hww
      have HXZ := Lib.hid hxz
      clear hy hgc hg hx hxm hjl hcl hww hxz
      cases y with
      | false =>
        go_wp2_with fail
        refine (R1.out _).mono ?_
        rintro e w1 ⟨rfl, rfl⟩
        go_wp2
        go_roundw
        case rel => exact ⟨j + 1, by omega, by go_num, ⟨D, hown.mono (by omega), by
          rw [amid_snoc f k l j x HX.out, ← HY.out, if_neg (by simp), List.append_nil]
          exact HT.out⟩, HW.out⟩
        case measure => simp [intOf]; omega
      | true =>
        go_wp2_with fail
        refine (R1.out _).mono ?_
        rintro e w1 ⟨rfl, rfl⟩
        go_wp2_with (first
          | (at_lookup; refine wpList_lookup_own_int _ rfl _ _ 45 rfl 3 3 .i64 lawI Try.underlying45 Try.underlying3 (zeroI _) w.heap.size j _ rfl hown _ _ rfl (keyOf_int_mk Try.underlying3 (WalkArith.wf_i64 (by have := HXZ.out; omega))) ?_; intro c' hat hwc
             have hc : c' = (cnt x (amid f k (l.take j)) : Nat) := by have h1 := HT.out.2 x; rw [hat] at h1; simpa using h1
             subst hc
             have hw2 := HWW.out)
          | (at_mapUpdate; refine wpList_mapUpdate_own _ rfl _ _ _ 45 rfl 3 3 lawI Try.underlying45 _ w.heap.size j _ rfl hown (by unfold maxLen; omega) _ _ _ rfl rfl (keyOf_int_mk Try.underlying3 (WalkArith.wf_i64 (by have := HXZ.out; omega))) _ [] (plainElem_int Try.underlying3 (WalkArith.wf_i64 (by have := HCL.out; omega))) ?_; intro w1 hown1 hgrow1)
          | fail)
        go_wp2
        go_roundw
        case rel => exact ⟨j + 1, by omega, by go_num, ⟨_, hown1, by
          rw [amid_snoc f k l j x HX.out, ← HY.out, if_pos rfl, HWW.out]
          exact tells_put HT.out⟩, HW.out.grown hgrow1 HW.out.size (fun j hj => by cases hj; exact Nat.le_refl _)⟩
        case measure => simp [intOf]; omega
    · obtain rfl : j = n := by omega
      have ht : l.take j = l := List.take_of_length_le (by have := HN.out; omega)
      rw [ht] at HT
      go_wp2
      go_ret
      exact ⟨_, rfl, ⟨D, hown, HT.out⟩, HW.out⟩

/-- What lookups say. -/
theorem MapR.look {w : World} {b n : Nat} {M : List Int} (h : MapR w b n M) (x : Int) (hx : -9223372036854775808 ≤ x ∧ x ≤ 9223372036854775807) :
    (Instr.lookup 45 (.map (some b)) (.int .i64 x) false).run Try.prog w = .ok (.int .i64 (cnt x M : Nat)) w := by
  obtain ⟨D, h1, h2⟩ := h
  obtain ⟨c, hrun, hat, _⟩ := h1.lookup_int lawI Try.underlying45 Try.underlying3 (zeroI _) (keyOf_int_mk Try.underlying3 (WalkArith.wf_i64 hx))
  have h3 := h2.2 x
  rw [hat] at h3
  obtain rfl : c = (cnt x M : Nat) := by simpa using h3
  exact hrun

/-- Those of the first i numbers from f on that are not gone. -/
def upto (f : Int) (gone : List Int) (i : Nat) : List Int := ((List.range i).map fun j : Nat => f + (j : Int)).filter fun x => !decide (x ∈ gone)
theorem upto_next (f : Int) (gone : List Int) (i : Nat) : upto f gone (i + 1) = upto f gone i ++ if f + (i : Int) ∈ gone then [] else [f + (i : Int)] := by
  unfold upto
  rw [List.range_succ, List.map_append, List.filter_append, List.map_cons, List.map_nil, List.filter_cons, List.filter_nil]
  by_cases h : f + (i : Int) ∈ gone <;> simp [h]
theorem upto_length (f : Int) (gone : List Int) (i : Nat) : (upto f gone i).length ≤ i := by
  unfold upto
  refine Nat.le_trans (List.length_filter_le _ _) ?_
  rw [List.length_map, List.length_range]
  exact Nat.le_refl _

set_option maxHeartbeats 1600000 in
theorem living_any (r : R) (f k : Int) (g : ByteArray) (s c : Int) (ab ag : Option Addr) (nb cb ng cg : Nat) (w : World) (hf : 0 ≤ f) (hf2 : f ≤ 1000) (hk : k ≤ 1000) (hn : r.gone.length = ng) (hn2 : ng ≤ 1000) (ha : IntsR w ag r.gone) (hz : ∀ z ∈ r.gone, -9223372036854775808 ≤ z ∧ z ≤ 9223372036854775807) :
    Calls Try.prog 43 #[.agg #[.string g, .int .i64 s, .int .i64 c, .slice ab nb cb, .slice ag ng cg], .int .i64 f, .int .i64 k] w fun e w' => ∃ ao co, e = .returned (.slice ao (upto f r.gone k.toNat).length co) ∧ IntsR w' ao (upto f r.gone k.toNat) ∧ Below w.heap.size w w' := by
  have RM := Lib.hid (fun (u : World) (hu : IntsR u ag r.gone) => met_any r.gone f k ng ag cg u hf hn hn2 hu hz)
  have hB0 := (Below.refl w.heap.size w).alloc (Nat.le_refl _) (.cells #[.string g, .int .i64 s, .int .i64 c, .slice ab nb cb, .slice ag ng cg] 24)
  have hc4 : (w.alloc (.cells #[.string g, .int .i64 s, .int .i64 c, .slice ab nb cb, .slice ag ng cg] 24)).cell? ⟨w.heap.size, 4, none⟩ = some (.slice ag ng cg) := by simp
  have HA := Lib.hid ha
  clear ha hz hn
  go_enter Try.func43, Try.ntmps43
  go_upto_region 1 with (fail)
  generalize w.alloc (.cells #[.string g, .int .i64 s, .int .i64 c, .slice ab nb cb, .slice ag ng cg] 24) = w0 at *
  have HB0 := Lib.hid hB0
  have R1 := Lib.hid (RM.out w0 (HA.out.below hB0))
  clear hB0
  go_wp2_with fail
  refine R1.out.mono ?_
  rintro e w1 ⟨b, rfl, hm1, hb1⟩
  have HM1 := Lib.hid hm1
  have HB1 := Lib.hid (HB0.out.trans (hb1.mono HB0.out.size))
  clear hm1 hb1 hc4
  go_upto_region 2 with (fail)
  have hown := own_new w1 w1.heap.size (Nat.le_refl _)
  have HM2 := Lib.hid (HM1.out.below ((Below.refl w1.heap.size w1).alloc (Nat.le_refl _) (.cells #[] 3)))
  have HB2 := Lib.hid ((Below.refl w1.heap.size w1).alloc (Nat.le_refl _) (.cells #[] 3))
  have HBM := Lib.hid HM1.out.lt
  generalize w1.alloc (.cells #[] 3) = w2 at *
  go_wp2
  have HOWN := Lib.hid hown
  clear hown
  go_loopw [8, 17] (fun ov i wr => ∃ j : Nat, j ≤ k.toNat ∧ i = .int .i64 j ∧ wr.ownsRow w1.heap.size 3 1 ov (upto f r.gone j).length (zsV (upto f r.gone j)) ∧ Below w1.heap.size w1 wr) (fun _ i _ => k.toNat - (intOf i).toNat)
  case atStart => exact ⟨0, by omega, rfl, HOWN.out, HB2.out⟩
  case round =>
    clear HOWN HB2 HM2
    obtain ⟨j, hj, rfl, hown, hbel⟩ := hrel
    have HW := Lib.hid hbel
    have HOWN := Lib.hid hown
    obtain ⟨ao, co, rfl, -, hi⟩ := own_ints hown
    have HI := Lib.hid hi
    clear hown hbel hi
    by_cases hlt : (j : Int) < k
    · have hl := (HM1.out.below HW.out).look (f + (j : Int)) (by omega)
      have hw1 : wrap64 (f + (j : Int)) = f + (j : Int) := by unfold wrap64; omega
      have hlen := upto_length f r.gone j
      have HLEN := Lib.hid hlen
      have hnx := upto_next f r.gone j
      by_cases hg : f + (j : Int) ∈ r.gone
      · rw [if_pos hg, List.append_nil] at hnx
        have hne : ((((cnt (f + (j : Int)) (amid f k r.gone) : Nat) : Int)) == 0) = false := by
          rw [beq_eq_false_iff_ne]
          exact fun e => ((cnt_zero _ _).1 e) ((amid_mem f k _ _ (by omega) (by omega)).2 hg)
        have HNX := Lib.hid hnx
        clear hnx hlen
        go_wp2
        go_roundw
        case rel => exact ⟨j + 1, by omega, by go_num, by rw [HNX.out]; exact HOWN.out, HW.out⟩
        case measure => simp [intOf]; omega
      · rw [if_neg hg] at hnx
        have hne : ((((cnt (f + (j : Int)) (amid f k r.gone) : Nat) : Int)) == 0) = true := by
          rw [beq_iff_eq]
          exact (cnt_zero _ _).2 (fun h => hg ((amid_mem f k _ _ (by omega) (by omega)).1 h))
        have HNX := Lib.hid hnx
        clear hnx hlen
        go_wp2_with (at_builtin; refine append_zs rfl _ _ rfl w1.heap.size _ _ (upto f r.gone j) [f + (j : Int)] _ 1 1 rfl rfl (HOWN.out.alloc _) (new_z _ _ _) rfl (by have := HLEN.out; omega) (Nat.le_trans HW.out.size (by simp)) ?_; intro v' w3 hown3 hgrow3)
        go_roundw
        case rel => exact ⟨j + 1, by omega, by go_num, by rw [HNX.out, List.length_append]; exact hown3, (HW.out.alloc HW.out.size _).grown hgrow3 (Nat.le_trans HW.out.size (by simp)) (fun q hq => (HOWN.out.lt q hq).1)⟩
        case measure => simp [intOf]; omega
    · obtain rfl : j = k.toNat := by omega
      go_wp2
      go_ret
      exact ⟨ao, ⟨co, rfl⟩, HI.out, HB1.out.trans (HW.out.mono HB1.out.size)⟩
end Go.Proofs.Ytofnjonmfgdpaaa.Ros
