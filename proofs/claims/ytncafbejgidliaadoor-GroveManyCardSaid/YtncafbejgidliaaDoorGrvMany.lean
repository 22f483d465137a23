/-
  The code of grove: its nodes, its rows and what many leaves come to, with what its sorting, searching and growing of rows do.
-/
import Derived.Test.YtncafbejgidliaaDoorGrvE
import Derived.Test.YtncafbejgidliaaDoorIntA
import Derived.Shelf.Slices.Cells
import Derived.Shelf.Slices.Empties
import Derived.Test.YtncafbejgidliaaDoorShelf
import Derived.Test.YtncafbejgidliaaDoorUseK
import Derived.Test.YtncafbejgidliaaDoorGrv
import Derived.Test.YtncafbejgidliaaDoorStrA
import Derived.Deep.RegionHeldLaw
namespace Go.Proofs.YtncafbejgidliaaDoor.Grv
open Go.RowKit Mur Sha Chn
set_option maxRecDepth 100000

/-- A slice of numbers, as it is read. -/
def IntsR (w : World) (a : Option Addr) (l : List Int) : Prop := l.length ≠ 0 → ∃ b o, a = some ⟨b, o, none⟩ ∧ b < w.heap.size ∧ ∀ i x, l[i]? = some x → w.cell? ⟨b, o + i, none⟩ = some (.int .i64 x)
theorem IntsR.below {w w' : World} {a : Option Addr} {l : List Int} (h : IntsR w a l) (k : Below w.heap.size w w') : IntsR w' a l := fun hl => by
  obtain ⟨b, o, ha, hb, hc⟩ := h hl
  exact ⟨b, o, ha, Nat.lt_of_lt_of_le hb k.size, fun i x hx => (k.cell (p := ⟨b, o + i, none⟩) hb).trans (hc i x hx)⟩
/-- Numbers without a sign, as they are read. -/
def zl (l : List Nat) : List Int := l.map fun n : Nat => (n : Int)
theorem zl_length (l : List Nat) : (zl l).length = l.length := by simp [zl]
theorem zl_at {l : List Nat} {i x : Nat} (h : l[i]? = some x) : (zl l)[i]? = some (x : Int) := by simp [zl, h]

/-- They rise from m on, below p. -/
def okI (p : Int) : Int → List Int → Bool
  | _, [] => true
  | m, x :: l => decide (m ≤ x) && decide (x < p) && okI p (x + 1) l
theorem okI_nat (p : Int) (l : List Int) : ∀ m : Int, 0 ≤ m → okI p m l = true → ∃ ns : List Nat, l = zl ns ∧ Up ns ∧ (∀ n ∈ ns, (n : Int) < p) ∧ ∀ n ∈ ns, m ≤ (n : Int) := by
  induction l with
  | nil => exact fun m _ _ => ⟨[], rfl, List.Pairwise.nil, fun n hn => (by cases hn), fun n hn => (by cases hn)⟩
  | cons x l ih =>
    intro m hm h
    simp only [okI, Bool.and_eq_true, decide_eq_true_eq] at h
    obtain ⟨ns, rfl, h1, h2, h3⟩ := ih (x + 1) (by omega) h.2
    refine ⟨x.toNat :: ns, ?_, List.pairwise_cons.2 ⟨fun n hn => ?_, h1⟩, fun n hn => ?_, fun n hn => ?_⟩
    · simp only [zl, List.map_cons]
      rw [Int.toNat_of_nonneg (by omega)]
    · have := h3 n hn
      omega
    · rcases List.mem_cons.1 hn with rfl | hn
      · omega
      · exact h2 n hn
    · rcases List.mem_cons.1 hn with rfl | hn
      · omega
      · have := h3 n hn
        omega
theorem okI_zl (p : Int) (ns : List Nat) : ∀ m : Int, Up ns → (∀ n ∈ ns, (n : Int) < p) → (∀ n ∈ ns, m ≤ (n : Int)) → okI p m (zl ns) = true := by
  induction ns with
  | nil => exact fun m _ _ _ => rfl
  | cons n ns ih =>
    intro m hu hp hm
    have h := List.pairwise_cons.1 hu
    show okI p m ((n : Int) :: zl ns) = true
    simp only [okI, Bool.and_eq_true, decide_eq_true_eq]
    exact ⟨⟨hm n (by simp), hp n (by simp)⟩, ih _ h.2 (fun k hk => hp k (by simp [hk])) (fun k hk => by have := h.1 k hk; omega)⟩
def okL (p : Int) (l : List Int) : Bool := okI p 0 l && decide (0 < l.length)

set_option maxHeartbeats 1600000 in
theorem rising_any (zs : List Int) (n : Nat) (a : Option Addr) (cap k : Nat) (V : Bool) (w : World) (hr : IntsR w a zs) (hn : zs.length = n) (hn2 : n ≤ 1000000) (hk : k ≤ 62) (hV : V = okL (2 ^ k) zs) :
    Calls Tryd.prog 34 #[.slice a n cap, .int .i64 (k : Int)] w fun e w' => e = .returned (.bool V) ∧ Below w.heap.size w w' := by
  have hp1 := pow_small k hk
  have hp2 := pow_pos' k
  have RA := Lib.hid (fun (x : Int) (u : World) => among_any x k hk u)
  obtain ⟨p, hp⟩ : ∃ p : Int, p = 2 ^ k := ⟨_, rfl⟩
  rw [← hp] at RA hV hp1 hp2
  have HR := Lib.hid hr
  have HN := Lib.hid hn
  have HV := Lib.hid hV
  clear hr hn hV hp
  go_enter Tryd.func34, Tryd.ntmps34
  go_wp2_with fail
  go_loopw [5, 7, 10] (fun m _ i wr => ∃ (j : Nat) (l : Int), j ≤ n ∧ i = .int .i64 j ∧ m = .int .i64 l ∧ 0 ≤ l ∧ l ≤ p ∧ okI p 0 zs = okI p l (zs.drop j) ∧ Below w.heap.size w wr) (fun _ _ i _ => n - (intOf i).toNat)
  case atStart => exact ⟨0, 0, by omega, rfl, rfl, by omega, by omega, rfl, Below.refl _ _⟩
  case round =>
    obtain ⟨j, l, hj, rfl, rfl, hl0, hlp, hok, hbel⟩ := hrel
    have HW := Lib.hid hbel
    have HOK := Lib.hid hok
    clear hbel hok
    by_cases hlt : j < n
    · obtain ⟨b, o, rfl, hb, hc⟩ := HR.out (by have := HN.out; omega)
      have hjz : j < zs.length := by rw [HN.out]; exact hlt
      obtain ⟨x, hx⟩ : ∃ x, x = zs[j] := ⟨_, rfl⟩
      have hcc := (HW.out.cell (p := ⟨b, o + j, none⟩) hb).trans (hc j x (by rw [hx]; exact List.getElem?_eq_getElem hjz))
      have hdrop : zs.drop j = x :: zs.drop (j + 1) := by rw [List.drop_eq_getElem_cons hjz, hx]
      have hok := HOK.out
      rw [hdrop, okI] at hok
      have HOK2 := Lib.hid hok
      clear hok hdrop hx hc hjz
      by_cases h1 : x < l
      · have hd1 : decide (x < l) = true := by simp [h1]
        have hV : V = false := by rw [HV.out, okL, HOK2.out, decide_eq_false (show ¬ l ≤ x by omega)]; rfl
        subst hV
        go_wp2
        go_ret
        exact ⟨rfl, HW.out⟩
      · have hd1 : decide (x < l) = false := by simp; omega
        by_cases h2 : x < p
        · have RA1 := Lib.hid (show ∀ u, Calls Tryd.prog 20 #[.int .i64 x, .int .i64 (k : Int)] u fun e w' => e = .returned (.bool true) ∧ Below u.heap.size u w' from fun u => by
            have g := RA.out x u
            rw [decide_eq_true (show 0 ≤ x ∧ x < p from ⟨by omega, h2⟩)] at g
            exact g)
          have hok : okI p 0 zs = okI p (x + 1) (zs.drop (j + 1)) := by
            rw [HOK2.out, decide_eq_true (show l ≤ x by omega), decide_eq_true h2]
            rfl
          have HOK3 := Lib.hid hok
          clear hok
          go_wp2_with fail
          refine (RA1.out _).mono ?_
          rintro e w2 ⟨rfl, hb2⟩
          have HW2 := Lib.hid (HW.out.trans (hb2.mono HW.out.size))
          clear hb2 hcc
          go_wp2
          go_roundw
          case rel => exact ⟨j + 1, x + 1, by omega, by go_num, rfl, by omega, by omega, HOK3.out, HW2.out⟩
          case measure => simp [intOf]; omega
        · have RA1 := Lib.hid (show ∀ u, Calls Tryd.prog 20 #[.int .i64 x, .int .i64 (k : Int)] u fun e w' => e = .returned (.bool false) ∧ Below u.heap.size u w' from fun u => by
            have g := RA.out x u
            rw [decide_eq_false (show ¬ (0 ≤ x ∧ x < p) from fun h => h2 h.2)] at g
            exact g)
          have hV : V = false := by rw [HV.out, okL, HOK2.out, decide_eq_false h2, Bool.and_false, Bool.false_and, Bool.false_and]
          subst hV
          go_wp2_with fail
          refine (RA1.out _).mono ?_
          rintro e w2 ⟨rfl, hb2⟩
          have HW2 := Lib.hid (HW.out.trans (hb2.mono HW.out.size))
          clear hb2 hcc
          go_wp2
          go_ret
          exact ⟨rfl, HW2.out⟩
    · obtain rfl : j = n := by omega
      have hV : V = decide (0 < j) := by
        rw [HV.out, okL, HOK.out, List.drop_eq_nil_of_le (by rw [HN.out]; exact Nat.le_refl _), HN.out]
        rfl
      subst hV
      go_wp2
      go_ret
      exact ⟨by simp, HW.out⟩
end Go.Proofs.YtncafbejgidliaaDoor.Grv

namespace Go.Proofs.YtncafbejgidliaaDoor.Grv
open Go.RowKit Mur Sha Chn
set_option maxRecDepth 100000

theorem below_sets {B b : Nat} (hb : B ≤ b) : ∀ (vs : List Value) (o : Nat) (w0 w : World), Below B w0 w → Below B w0 (w.setCells b o vs)
  | [], _, _, _, h => h
  | v :: r, o, w0, _, h => below_sets hb r (o + 1) w0 _ (h.setCell (p := ⟨b, o, none⟩) hb v)
theorem size_sets (b : Nat) : ∀ (vs : List Value) (o : Nat) (w : World), (w.setCells b o vs).heap.size = w.heap.size
  | [], _, _ => rfl
  | v :: r, o, w => (size_sets b r (o + 1) (w.setCell ⟨b, o, none⟩ v)).trans (World.size_setCell _ _ _)
theorem sets_type (b : Nat) (t : TypeId) (fz : Nat × Nat) : ∀ (vs : List Value) (o : Nat) (w : World) (cur : Array Value), w.heap[b]? = some (.cells cur t fz) → ∃ cur', (w.setCells b o vs).heap[b]? = some (.cells cur' t fz)
  | [], _, _, cur, h => ⟨cur, h⟩
  | v :: r, o, w, cur, h => sets_type b t fz r (o + 1) (w.setCell ⟨b, o, none⟩ v) (cur.setIfInBounds o v) (by simp [World.setCell, Array.getElem?_modify, h])
theorem mem_halves (l : List Nat) : ∀ k, k ∈ l → k / 2 ∈ halves l := by
  fun_induction halves l with
  | case1 => intro k hk; cases hk
  | case2 n => intro k hk; simp at hk; simp [hk]
  | case3 n l ih =>
    intro k hk
    rcases List.mem_cons.1 hk with rfl | hk
    · simp
    · rcases List.mem_cons.1 hk with rfl | hk
      · rw [sib_half]; simp
      · exact List.mem_cons_of_mem _ (ih k hk)
  | case4 n m l hne ih =>
    intro k hk
    rcases List.mem_cons.1 hk with rfl | hk
    · simp
    · exact List.mem_cons_of_mem _ (ih k hk)
/-- The compacted halves of the first m. -/
theorem compact_halves (l : List Nat) (hu : Up l) (m : Nat) (hm : m ≤ l.length) : Lib.compactUpTo (zl (l.map (· / 2))).toArray m = zl (halves (l.take m)) := by
  induction m with
  | zero => rfl
  | succ m ih =>
    have hml : m < l.length := hm
    rw [Lib.compactUpTo_succ, ih (by omega), List.take_succ_eq_append_getElem hml, halves_snoc _ _ (by
      rw [← List.take_succ_eq_append_getElem hml]
      exact hu.sublist (List.take_sublist _ _))]
    have hsz : (zl (l.map (· / 2))).length = l.length := by simp [zl]
    have hd : ∀ j (hj : j < l.length), (zl (l.map (· / 2))).toArray[j]! = ((l[j] / 2 : Nat) : Int) := fun j hj => by
      rw [getElem!_pos _ j (by simpa [zl] using hj)]
      simp [zl]
    by_cases h : l[m] / 2 ∈ halves (l.take m)
    · rw [if_pos h]
      obtain ⟨k, hk, e⟩ := halves_of _ _ h
      obtain ⟨i, hi, rfl⟩ := List.getElem_of_mem hk
      have hi2 : i < m := by simpa using (Nat.lt_of_lt_of_le hi (by simp [Nat.min_le_left]))
      rw [List.getElem_take] at e
      have h1 : l[i] ≤ l[m - 1] := by
        rcases Nat.lt_or_ge i (m - 1) with hx | hx
        · exact Nat.le_of_lt (List.pairwise_iff_getElem.1 hu i (m - 1) (by omega) (by omega) hx)
        · have : i = m - 1 := by omega
          subst this
          exact Nat.le_refl _
      have h2 : l[m - 1] < l[m] := List.pairwise_iff_getElem.1 hu (m - 1) m (by omega) hml (by omega)
      have hk2 : Lib.keeps (zl (l.map (· / 2))).toArray m = false := Lib.keeps_neg (by omega) (by
        rw [hd m hml, hd (m - 1) (by omega)]
        omega)
      rw [hk2]
      simp
    · rw [if_neg h]
      have hk2 : Lib.keeps (zl (l.map (· / 2))).toArray m = true := by
        by_cases h0 : m = 0
        · subst h0
          exact Lib.keeps_lt_one _ 0 (by omega)
        · refine Lib.keeps_pos ?_
          rw [hd m hml, hd (m - 1) (by omega)]
          intro e
          refine h ?_
          have e2 : l[m] / 2 = l[m - 1] / 2 := by omega
          rw [e2]
          refine mem_halves _ _ ?_
          rw [List.mem_take_iff_getElem]
          exact ⟨m - 1, by omega, rfl⟩
      rw [hk2, if_pos rfl, hd m hml]
      simp [zl]
theorem compact_all (l : List Nat) (hu : Up l) : Lib.compact (zl (l.map (· / 2))) = zl (halves l) := by
  unfold Lib.compact
  have := compact_halves l hu l.length (Nat.le_refl _)
  rw [List.take_length] at this
  rw [← this, zl_length, List.length_map]

/-- A number in a block of its own. -/
theorem ints_one (W : World) (x : Nat) (t : TypeId) : ∀ j u, (Ints.intsV [x])[j]? = some u → (W.alloc (.cells #[.int .i64 (x : Int)] t)).cell? ⟨W.heap.size, j, none⟩ = some u := fun j u hu => by
  match j, hu with
  | 0, hu => cases hu; simp [World.cell?_alloc_new]
/-- slices.Compact of a row that a call has made. -/
theorem compact_any (l : List Nat) (n : Nat) (hu : Up l) (hl : l.length = n) (hn : n ≤ 1000000) (v : Value) (base : Nat) (w : World) (h0 : 0 < n) (hown : w.ownsRow base 3 1 v n (Ints.intsV (l.map (· / 2)))) :
    Calls Tryd.prog 52 #[v] w fun e w' => ∃ a c, e = .returned (.slice a (halves l).length c) ∧ IntsR w' a (zl (halves l)) ∧ Below base w w' ∧ w.heap.size ≤ w'.heap.size ∧ ∃ g cur fz, a = some ⟨g, 0, none⟩ ∧ base ≤ g ∧ w'.heap[g]? = some (.cells cur 3 fz) := by
  have hlen : (l.map (· / 2)).length = n := by simp [hl]
  rcases hown.2 with ⟨-, h⟩ | ⟨g, cap, cur, rfl, h1, h2, h3, h4, h5, h6⟩
  · omega
  have hg : g < w.heap.size := (Array.getElem?_eq_some_iff.1 h2).1
  have hcell : ∀ j, j < (zl (l.map (· / 2))).length → w.cell? ⟨g, 0 + j, none⟩ = some (.int .i64 ((zl (l.map (· / 2))).getD j 0)) := fun j hj => by
    have hj2 : j < l.length := by simpa [zl] using hj
    have := hown.cells (g := g) rfl j (.int .i64 ((l[j] / 2 : Nat) : Int)) (by simp [Ints.intsV, hj2])
    rw [Strs.add_zero] at this
    rw [Nat.zero_add, this]
    simp [zl, List.getD, hj2]
  have hfz : ∀ j, j < n → w.frozen? ⟨g, 0 + j, none⟩ = false := fun j _ => by simp [World.frozen?, h2]
  have hz : n ≤ (zl (l.map (· / 2))).length := by rw [zl_length, hlen]; exact Nat.le_refl _
  have htk : (zl (l.map (· / 2))).take n = zl (l.map (· / 2)) := List.take_of_length_le (by rw [zl_length, hlen]; exact Nat.le_refl _)
  have hC := Any.slices_Compact_int_cells Tryd.laysNm220 g 0 n cap (zl (l.map (· / 2))) w hz (by omega) h3 hcell hfz
  rw [htk, compact_all l hu] at hC
  refine hC.mono ?_
  rintro e w' ⟨rfl, q, rfl⟩
  have hbel := below_sets h1 ((zl (halves l) ++ List.replicate (n - (zl (halves l)).length) 0).map (Value.int .i64)) 0 w (w.drewN q) (belowN (Below.refl base w) q)
  obtain ⟨cur', hcur'⟩ := sets_type g 3 (0, 0) ((zl (halves l) ++ List.replicate (n - (zl (halves l)).length) 0).map (Value.int .i64)) 0 (w.drewN q) cur h2
  refine ⟨some ⟨g, 0, none⟩, cap, by rw [zl_length], fun _ => ⟨g, 0, rfl, ?_, fun i x hx => ?_⟩, hbel, ?_, g, cur', (0, 0), rfl, h1, hcur'⟩
  · rw [size_sets]; exact hg
  · have hll := halves_length l
    have hi : i < (zl (halves l)).length := (List.getElem?_eq_some_iff.1 hx).1
    have hin := World.cell?_setCells_in g ((zl (halves l) ++ List.replicate (n - (zl (halves l)).length) 0).map (Value.int .i64)) 0 (w.drewN q) (fun j hj => by
      have hj2 : j < n := by
        have : (zl (halves l)).length = (halves l).length := zl_length _
        simp at hj
        omega
      have := hcell j (by rw [zl_length, hlen]; exact hj2)
      show (w.cell? ⟨g, 0 + j, none⟩).isSome = true
      rw [this]; rfl) i (by simp; omega)
    rw [hin]
    have hx2 : (zl (halves l))[i] = x := (List.getElem?_eq_some_iff.1 hx).2
    refine congrArg some ?_
    rw [List.getElem_map, List.getElem_append_left hi, hx2]
  · rw [size_sets]; exact Nat.le_refl _

set_option maxHeartbeats 1600000 in
theorem halves_any (l : List Nat) (n : Nat) (a : Option Addr) (cap : Nat) (w : World) (hr : IntsR w a (zl l)) (hl : l.length = n) (h0 : 0 < n) (hn : n ≤ 1000000) (hu : Up l) (hb : ∀ x ∈ l, x ≤ 1000000) :
    Calls Tryd.prog 36 #[.slice a n cap] w fun e w' => ∃ a' c, e = .returned (.slice a' (halves l).length c) ∧ IntsR w' a' (zl (halves l)) ∧ Below w.heap.size w w' ∧ ∃ g cur fz, a' = some ⟨g, 0, none⟩ ∧ w.heap.size ≤ g ∧ w'.heap[g]? = some (.cells cur 3 fz) := by
  have hmk := fun u => Ints.make_room u n (n : Int) rfl (by omega)
  obtain ⟨D, hD⟩ : ∃ D : Nat → List Nat, D = fun k => (l.take k).map (· / 2) := ⟨_, rfl⟩
  have HDN := Lib.hid (show ∀ k (hk : k < l.length), D (k + 1) = D k ++ [l[k] / 2] from fun k hk => by
    rw [hD]
    show (l.take (k + 1)).map (· / 2) = (l.take k).map (· / 2) ++ [l[k] / 2]
    rw [List.take_succ_eq_append_getElem hk, List.map_append]
    rfl)
  have HC := Lib.hid (fun (v : Value) (u : World) (base : Nat) (ho : u.ownsRow base 3 1 v n (Ints.intsV (D n))) => compact_any l n hu hl hn v base u h0 (by
    have e : D n = l.map (· / 2) := by rw [hD]; show (l.take n).map (· / 2) = _; rw [List.take_of_length_le (by omega)]
    rw [← e]
    exact ho))
  have HD0 := Lib.hid (show D 0 = [] from by rw [hD]; rfl)
  have HR := Lib.hid hr
  have HL := Lib.hid hl
  have HB := Lib.hid hb
  clear hr hl hu hD hb
  go_enter Tryd.func36, Tryd.ntmps36
  go_wp2_with fail
  have hown0 := World.ownsRow_made (base := w.heap.size) (e := 3) (size := 1) w (madeCells #[.int .i64 0] n) n (Nat.le_refl _) (by unfold maxLen; omega) (by simp [madeCells])
  have HB0 := Lib.hid ((Below.refl w.heap.size w).alloc (Nat.le_refl _) (.cells (madeCells #[.int .i64 0] n) 3))
  have HOWN0 := Lib.hid (show (w.alloc (.cells (madeCells #[.int .i64 0] n) 3)).ownsRow w.heap.size 3 1 (.slice (some ⟨w.heap.size, 0, none⟩) 0 n) 0 (Ints.intsV (D 0)) from by rw [HD0.out]; exact hown0)
  clear hown0 hmk
  go_loopw [3, 5, 11] (fun v _ i wr => ∃ k : Nat, k ≤ n ∧ i = .int .i64 k ∧ wr.ownsRow w.heap.size 3 1 v k (Ints.intsV (D k)) ∧ Below w.heap.size w wr) (fun _ _ i _ => n - (intOf i).toNat)
  case atStart => exact ⟨0, by omega, rfl, HOWN0.out, HB0.out⟩
  case round =>
    clear HOWN0 HB0
    obtain ⟨k, hk, rfl, hown, hbel⟩ := hrel
    have HOWN := Lib.hid hown
    have HW := Lib.hid hbel
    clear hown hbel
    by_cases hlt : k < n
    · obtain ⟨b, o, rfl, hb, hc⟩ := HR.out (by have := HL.out; rw [zl_length]; omega)
      have hkl : k < l.length := by rw [HL.out]; exact hlt
      obtain ⟨x, hx⟩ : ∃ x, x = l[k] := ⟨_, rfl⟩
      have hcc := (HW.out.cell (p := ⟨b, o + k, none⟩) hb).trans (hc k (x : Int) (zl_at (by rw [hx]; exact List.getElem?_eq_getElem hkl)))
      have hxb : x ≤ 1000000 := HB.out x (by rw [hx]; exact List.getElem_mem hkl)
      have hdn := HDN.out k hkl
      rw [← hx] at hdn
      obtain ⟨y, hy⟩ : ∃ y, y = x / 2 := ⟨_, rfl⟩
      have hsh : (x : Int) / 2 = (y : Int) := by rw [hy]; rfl
      rw [← hy] at hdn
      have HS := Lib.hid hdn
      clear hdn hx hc hkl hy
      go_wp2_with (at_builtin; refine Ints.append_ints rfl _ _ rfl w.heap.size k _ (D k) rfl (HOWN.out.alloc _) wr.heap.size 1 1 [y] rfl rfl (ints_one _ _ _) (by omega) (Nat.le_trans HW.out.size (by simp)) ?_)
      intro v' w3 hown3 hgrow3
      have HW3 := Lib.hid ((HW.out.alloc HW.out.size (.cells #[.int .i64 (y : Int)] 3)).grown hgrow3 (Nat.le_trans HW.out.size (by simp)) (fun j hj => (HOWN.out.lt j hj).1))
      rw [← HS.out] at hown3
      have HOWN3 := Lib.hid hown3
      clear hown3 hgrow3 HOWN HW hsh
      go_wp2
      go_roundw
      case rel => exact ⟨k + 1, by omega, by go_num, HOWN3.out, HW3.out⟩
      case measure => simp [intOf]; omega
    · obtain rfl : k = n := by omega
      go_wp2_with fail
      refine (HC.out _ _ _ HOWN.out).mono ?_
      rintro e w5 ⟨a', c, rfl, hr5, hb5, -, ht5⟩
      have HT5 := Lib.hid ht5
      have HR5 := Lib.hid hr5
      have HB5 := Lib.hid (HW.out.trans hb5)
      clear hr5 hb5 ht5
      go_wp2
      go_ret
      exact ⟨a', c, rfl, HR5.out, HB5.out, HT5.out⟩
end Go.Proofs.YtncafbejgidliaaDoor.Grv

namespace Go.Proofs.YtncafbejgidliaaDoor.Grv
open Go.RowKit Mur Sha Chn
set_option maxRecDepth 100000

/-- A slice of numbers beside a Builder at block B. -/
def IntsB (B : Nat) (w : World) (a : Option Addr) (l : List Nat) : Prop := ∃ b o, a = some ⟨b, o, none⟩ ∧ b < w.heap.size ∧ (∀ i x, l[i]? = some x → w.cell? ⟨b, o + i, none⟩ = some (.int .i64 ((x : Nat) : Int))) ∧ (b < B ∨ (b ≠ B ∧ ∃ cur fz, w.heap[b]? = some (.cells cur 3 fz)))
theorem IntsB.below {B : Nat} {w w' : World} {a : Option Addr} {l : List Nat} (h : IntsB B w a l) (k : Below w.heap.size w w') : IntsB B w' a l := by
  obtain ⟨b, o, ha, hb, hc, ht⟩ := h
  refine ⟨b, o, ha, Nat.lt_of_lt_of_le hb k.size, fun i x hx => (k.cell (p := ⟨b, o + i, none⟩) hb).trans (hc i x hx), ?_⟩
  rcases ht with ht | ⟨hne, cur, fz, ht⟩
  · exact .inl ht
  · exact .inr ⟨hne, cur, fz, (k.block b hb).trans ht⟩
theorem IntsB.write {B : Nat} {w w' : World} {a : Option Addr} {l : List Nat} (h : IntsB B w a l) (k : Below B w w') (o : Lib.OthersKept 5 (some B) w w') : IntsB B w' a l := by
  obtain ⟨b, o', ha, hb, hc, ht⟩ := h
  have hsz : B ≤ w.heap.size ∨ w.heap.size < B := by omega
  rcases ht with ht | ⟨hne, cur, fz, ht⟩
  · exact ⟨b, o', ha, by
      have := k.block b ht
      have h2 : (w'.heap[b]?).isSome := by rw [this, Array.getElem?_eq_getElem hb]; rfl
      exact (Array.getElem?_eq_some_iff.1 (Option.eq_some_of_isSome h2)).1, fun i x hx => (k.cell (p := ⟨b, o' + i, none⟩) ht).trans (hc i x hx), .inl ht⟩
  · have h2 := Use.kept_block o ht hne (by decide)
    refine ⟨b, o', ha, (Array.getElem?_eq_some_iff.1 h2).1, fun i x hx => ?_, .inr ⟨hne, cur, fz, h2⟩⟩
    rw [← hc i x hx]
    simp only [World.cell?, h2, ht]
theorem IntsB.read {B : Nat} {w : World} {a : Option Addr} {l : List Nat} (h : IntsB B w a l) : IntsR w a (zl l) := fun _ => by
  obtain ⟨b, o, ha, hb, hc, -⟩ := h
  refine ⟨b, o, ha, hb, fun i x hx => ?_⟩
  have hi : i < l.length := by have := (List.getElem?_eq_some_iff.1 hx).1; rwa [zl_length] at this
  have := hc i l[i] (List.getElem?_eq_getElem hi)
  rw [this]
  have e : (zl l)[i]? = some ((l[i] : Nat) : Int) := zl_at (List.getElem?_eq_getElem hi)
  rw [e] at hx
  rw [Option.some.inj hx]

theorem IntsB.of {B : Nat} {w : World} {a : Option Addr} {l : List Nat} (hl : l.length ≠ 0) (hr : IntsR w a (zl l)) {g : Nat} {cur : Array Value} {fz : Nat × Nat} (ha : a = some ⟨g, 0, none⟩) (hg : B < g) (hh : w.heap[g]? = some (.cells cur 3 fz)) : IntsB B w a l := by
  obtain ⟨b, o, hab, hb, hc⟩ := hr (by rw [zl_length]; exact hl)
  rw [ha] at hab
  cases hab
  exact ⟨g, 0, ha, hb, fun i x hx => hc i _ (zl_at hx), .inr ⟨by omega, cur, fz, hh⟩⟩
theorem IntsB.old {B : Nat} {w0 w : World} {a : Option Addr} {l : List Nat} (hl : l.length ≠ 0) (hr : IntsR w0 a (zl l)) (hB : w0.heap.size ≤ B) (k : Below w0.heap.size w0 w) : IntsB B w a l := by
  obtain ⟨b, o, ha, hb, hc⟩ := hr (by rw [zl_length]; exact hl)
  exact ⟨b, o, ha, Nat.lt_of_lt_of_le hb k.size, fun i x hx => (k.cell (p := ⟨b, o + i, none⟩) hb).trans (hc i _ (zl_at hx)), .inl (by omega)⟩
theorem IntsB.cellAt {B : Nat} {w : World} {b o : Nat} {l : List Nat} (h : IntsB B w (some ⟨b, o, none⟩) l) {i x : Nat} (hx : l[i]? = some x) : w.cell? ⟨b, o + i, none⟩ = some (.int .i64 (x : Int)) := by
  obtain ⟨b', o', e, -, hc, -⟩ := h
  cases e
  exact hc i x hx

theorem builderF_lt {T e : TypeId} {B b : Nat} {bs : List Value} {w : World} (h : Lib.IsBuilderF T e B b bs w) : b < w.heap.size := by
  have one : ∀ p, Lib.BuilderAtF T e B b p bs w → b < w.heap.size := fun p h => by
    obtain ⟨-, v, hb, -⟩ := h
    exact (Array.getElem?_eq_some_iff.1 hb).1
  exact h.elim (one _) (one _)

/-- Is it among them? -/
theorem search_any (l : List Nat) (n : Nat) (hu : Up l) (hl : l.length = n) (hn : n ≤ 1000000) (a : Option Addr) (cap x : Nat) (w : World) (hr : IntsR w a (zl l)) :
    Calls Tryd.prog 35 #[.slice a n cap, .int .i64 (x : Int)] w fun e w' => ∃ z : Int, e = .returned (.tuple #[.int .i64 z, .bool (decide (x ∈ l))]) ∧ Below w.heap.size w w' := by
  by_cases h0 : n = 0
  · subst h0
    obtain rfl : l = [] := List.eq_nil_of_length_eq_zero hl
    refine (Any.slices_BinarySearch_int_empty Tryd.laysNm225 a cap (x : Int) w).mono ?_
    rintro e w' ⟨rfl, rfl⟩
    exact ⟨0, by simp, Below.refl _ _⟩
  · obtain ⟨b, o, rfl, hb, hc⟩ := hr (by rw [zl_length]; omega)
    have hz : (zl l).length = n := by rw [zl_length, hl]
    have htk : (zl l).take n = zl l := List.take_of_length_le (by omega)
    have hs : ((zl l).take n).Pairwise (· ≤ ·) := by
      rw [htk]
      unfold zl
      rw [List.pairwise_map]
      exact hu.imp fun h => by omega
    refine (Any.slices_BinarySearch_int Tryd.laysNm225 b o n cap (zl l) (x : Int) w (by omega) (by omega) (fun j hj => by
      rw [hc j ((zl l)[j]) (List.getElem?_eq_getElem hj)]
      simp [List.getD, hj]) hs).mono ?_
    rintro e w' ⟨rfl, q, rfl⟩
    have this : (zl l).contains (x : Int) = decide (x ∈ l) := by
      rw [Bool.eq_iff_iff, List.contains_iff_mem, decide_eq_true_iff]
      unfold zl
      rw [List.mem_map]
      constructor
      · rintro ⟨y, hy, e⟩
        have : y = x := by omega
        rw [← this]; exact hy
      · exact fun h => ⟨x, h, rfl⟩
    exact ⟨((((zl l).take n).countP (· < (x : Int)) : Nat) : Int), by rw [htk, this], belowN (Below.refl _ _) q⟩

/-- What the numbers of a height bring, the first k. -/
def part (N : Nat) (seed room : List UInt8) (z : Nat) (l : List Nat) (k : Nat) : List UInt8 := (l.take k).flatMap (bring N seed room z l)
theorem part_next (N : Nat) (seed room : List UInt8) (z : Nat) (l : List Nat) (k : Nat) (h : k < l.length) : part N seed room z l (k + 1) = part N seed room z l k ++ bring N seed room z l l[k] := by
  unfold part
  rw [List.take_succ_eq_append_getElem h, List.flatMap_append, List.flatMap_singleton]
theorem part_all (N : Nat) (seed room : List UInt8) (z : Nat) (l : List Nat) (hu : Up l) : part N seed room z l l.length = proofP N seed room z l := by
  unfold part
  rw [List.take_length, proofP_bring N seed room z l hu]
theorem part_length (N : Nat) (seed room : List UInt8) (z : Nat) (l : List Nat) (k : Nat) (h : N ≤ 32) : (part N seed room z l k).length ≤ l.length * 32 := by
  have h1 := flat_len (bring N seed room z l) (l.take k) 32 (fun n => bring_length N seed room z l n h)
  have h2 : (l.take k).length * 32 ≤ l.length * 32 := Nat.mul_le_mul_right _ (by simp [Nat.min_le_right])
  exact Nat.le_trans h1 h2

set_option maxHeartbeats 3200000 in
theorem proof_no (n h : Int) (seed room : ByteArray) (zs : List Int) (m : Nat) (a : Option Addr) (cap : Nat) (w : World) (hr : IntsR w a zs) (hm : zs.length = m) (hm2 : m ≤ 1000000) (hno : ¬ (Right n h ∧ okL (2 ^ h.toNat) zs = true)) :
    Calls Tryd.prog 16 #[.agg #[.int .i64 n, .int .i64 h], .string seed, .string room, .slice a m cap] w fun e w' => e = .returned (.string ⟨#[]⟩) ∧ Below w.heap.size w w' := by
  have hB0 := (Below.refl w.heap.size w).alloc (Nat.le_refl _) (.cells #[.int .i64 n, .int .i64 h] 23)
  have hc0 : (w.alloc (.cells #[.int .i64 n, .int .i64 h] 23)).cell? ⟨w.heap.size, 0, none⟩ = some (.int .i64 n) := by simp
  have hc1 : (w.alloc (.cells #[.int .i64 n, .int .i64 h] 23)).cell? ⟨w.heap.size, 1, none⟩ = some (.int .i64 h) := by simp
  have hl0 : w.heap.size < (w.alloc (.cells #[.int .i64 n, .int .i64 h] 23)).heap.size := by simp
  go_enter Tryd.func16, Tryd.ntmps16
  go_upto_region 1 with (fail)
  generalize w.alloc (.cells #[.int .i64 n, .int .i64 h] 23) = wz at *
  have HC := Lib.hid (fun (u : World) (q : Below wz.heap.size wz u) => (⟨(q.cell (p := ⟨w.heap.size, 0, none⟩) hl0).trans hc0, (q.cell (p := ⟨w.heap.size, 1, none⟩) hl0).trans hc1⟩ :
    u.cell? ⟨w.heap.size, 0, none⟩ = some (.int .i64 n) ∧ u.cell? ⟨w.heap.size, 1, none⟩ = some (.int .i64 h)))
  have HB0 := Lib.hid hB0
  have HL0 := Lib.hid hl0
  by_cases hri : Right n h
  · have R1 := Lib.hid (fun u => right_yes n h hri u)
    have R2 := Lib.hid (fun (u : World) (q : Below wz.heap.size wz u) => show Calls Tryd.prog 34 #[.slice a m cap, .int .i64 h] u fun e w' => e = .returned (.bool false) ∧ Below u.heap.size u w' from by
      have g := rising_any zs m a cap h.toNat false u (hr.below (hB0.trans (q.mono (Nat.le_of_lt hl0)))) hm hm2 (by have := hri.2.2.2; omega) (by
        cases hx : okL (2 ^ h.toNat) zs with
        | false => rfl
        | true => exact absurd ⟨hri, hx⟩ hno)
      rw [show ((h.toNat : Nat) : Int) = h by have := hri.2.2.1; omega] at g
      exact g)
    clear hri hB0 hl0 hr hm hm2 hno
    go_wp2_with fail
    refine (R1.out _).mono ?_
    rintro e w1 ⟨rfl, hb1⟩
    have HW1 := Lib.hid hb1
    clear hb1 hc0 hc1
    obtain ⟨c0, c1⟩ := HC.out _ HW1.out
    go_wp2_with fail
    refine (R2.out _ HW1.out).mono ?_
    rintro e w2 ⟨rfl, hb2⟩
    have HW2 := Lib.hid (HW1.out.trans (hb2.mono HW1.out.size))
    clear hb2
    go_wp2
    go_ret
    exact ⟨rfl, HB0.out.trans (HW2.out.mono (Nat.le_of_lt HL0.out))⟩
  · have R1 := Lib.hid (fun u => right_no n h hri u)
    clear hri hB0 hl0 hr hm hm2 hno
    go_wp2_with fail
    refine (R1.out _).mono ?_
    rintro e w1 ⟨rfl, hb1⟩
    have HW1 := Lib.hid hb1
    clear hb1
    go_wp2
    go_ret
    exact ⟨rfl, HB0.out.trans (HW1.out.mono (Nat.le_of_lt HL0.out))⟩

set_option maxHeartbeats 6400000 in
theorem proof_any (N H : Nat) (seed room V : ByteArray) (l : List Nat) (m : Nat) (a : Option Addr) (cap : Nat) (w : World) (hri : Right (N : Int) (H : Int)) (hr : IntsR w a (zl l)) (hm : l.length = m) (hm2 : m ≤ 1000000) (h0 : 0 < m) (hu : Up l) (hlt : ∀ x ∈ l, x < 2 ^ H)
    (hs : seed.size + room.size ≤ 34359738368) (hV : V = tx (proof N H seed.data.toList room.data.toList l)) (hk : Consts w) :
    Calls Tryd.prog 16 #[.agg #[.int .i64 (N : Int), .int .i64 (H : Int)], .string seed, .string room, .slice a m cap] w fun e w' => e = .returned (.string V) ∧ Below w.heap.size w w' := by
  have hN : N ≤ 32 := by have := hri.2.1; omega
  have hH : H ≤ 8 := by have := hri.2.2.2; omega
  have hl8 := pow_256 H hH
  have hb0 : 2 ^ (H - 0) ≤ 256 := by rw [Nat.sub_zero]; exact hl8
  have hB0 := (Below.refl w.heap.size w).alloc (Nat.le_refl _) (.cells #[.int .i64 (N : Int), .int .i64 (H : Int)] 23)
  have R1 := Lib.hid (fun u => right_yes N H hri u)
  have R2 := Lib.hid (fun (u : World) (q : Below w.heap.size w u) => show Calls Tryd.prog 34 #[.slice a m cap, .int .i64 (H : Int)] u fun e w' => e = .returned (.bool true) ∧ Below u.heap.size u w' from
    rising_any (zl l) m a cap H true u (hr.below q) (by rw [zl_length, hm]) hm2 (by omega) (by
      rw [okL, okI_zl _ l 0 hu (fun n hn => by
        have h1 : ((n : Nat) : Int) < ((2 ^ H : Nat) : Int) := Int.ofNat_lt.2 (hlt n hn)
        rw [Int.natCast_pow] at h1
        exact h1) (fun n _ => by omega), zl_length, hm, decide_eq_true h0]
      rfl))
  have hnu := fun z => nums_up l hu z
  have hnl := fun z (hz : z ≤ H) => nums_lt l H hlt z hz
  have hnn := fun z => nums_length l z
  have hne := fun z => show (nums l z).length ≠ 0 from fun e => nums_ne l (by intro e; rw [e] at hm; simp at hm; omega) z (List.eq_nil_of_length_eq_zero e)
  have RS := Lib.hid (fun (z : Nat) (a : Option Addr) (cap x : Nat) (u : World) (h : IntsR u a (zl (nums l z))) => search_any (nums l z) (nums l z).length (hnu z) rfl (by have := hnn z; omega) a cap x u h)
  have RH := Lib.hid (fun (z : Nat) (hz : z ≤ H) (a : Option Addr) (cap : Nat) (u : World) (h : IntsR u a (zl (nums l z))) => halves_any (nums l z) (nums l z).length a cap u h rfl (Nat.pos_of_ne_zero (hne z)) (by have := hnn z; omega) (hnu z) (fun x hx => by
    have h1 := hnl z hz x hx
    have h2 := pow_256 (H - z) (by omega)
    omega))
  have RN := Lib.hid (fun (z : Nat) (hz : z < H) (k : Nat) (hkk : k < (nums l z).length) (P : ByteArray) (hP : P = tx (node N seed.data.toList room.data.toList z (sib (nums l z)[k]))) (u : World) (hu : Consts u) => node_any N H z (sib (nums l z)[k]) seed room P u hri (by omega) (by
    have h1 := hnl z (by omega) _ (List.getElem_mem hkk)
    rw [show H - z = (H - z - 1) + 1 by omega, Nat.pow_succ, Nat.mul_comm] at h1 ⊢
    exact sib_lt _ _ h1) hs hP hu)
  have HNL := Lib.hid (fun (z : Nat) (hz : z ≤ H) (x : Nat) (hx : x ∈ nums l z) => show x ≤ 256 from by
    have h1 := hnl z hz x hx
    have h2 := pow_256 (H - z) (by omega)
    omega)
  have HNS := Lib.hid (fun z => node_length N seed.data.toList room.data.toList z · hN)
  obtain ⟨F, hF⟩ : ∃ F : Nat → List UInt8, F = fun z => proofP N seed.data.toList room.data.toList z (nums l z) := ⟨_, rfl⟩
  obtain ⟨Q, hQ⟩ : ∃ Q : Nat → Nat → List UInt8, Q = fun z k => part N seed.data.toList room.data.toList z (nums l z) k := ⟨_, rfl⟩
  have HQ0 := Lib.hid (show ∀ z, Q z 0 = [] from fun z => by rw [hQ]; rfl)
  have HQN := Lib.hid (show ∀ z k (hkk : k < (nums l z).length), Q z (k + 1) = Q z k ++ bring N seed.data.toList room.data.toList z (nums l z) (nums l z)[k] from fun z k hkk => by rw [hQ]; exact part_next N _ _ z _ k hkk)
  have HQF := Lib.hid (show ∀ z, Q z (nums l z).length = F z from fun z => by rw [hQ, hF]; exact part_all N _ _ z _ (hnu z))
  have HFU := Lib.hid (show ∀ z, (upto F z).length ≤ 1000000 * 32 * z from fun z => by
    have h1 := proof_length N z seed.data.toList room.data.toList l hN
    unfold proof at h1
    rw [← hF] at h1
    refine Nat.le_trans h1 (Nat.mul_le_mul_right _ (Nat.mul_le_mul (by omega) hN)))
  have HQL := Lib.hid (show ∀ z k, (Q z k).length ≤ 32000000 from fun z k => by
    rw [hQ]
    have h1 := part_length N seed.data.toList room.data.toList z (nums l z) k hN
    have h2 := hnn z
    show (part N _ _ z _ k).length ≤ _
    omega)
  have HV := Lib.hid (show V = tx (upto F H) from by rw [hV, proof, hF])
  have HNN := Lib.hid hnn
  have HNE := Lib.hid hne
  have HR := Lib.hid hr
  have HM := Lib.hid (show (nums l 0).length = m from hm)
  clear hF hQ hV hnu hnl hnn hne hs hri hr hu hlt h0 hm hl8 hb0
  have hc0 : (w.alloc (.cells #[.int .i64 (N : Int), .int .i64 (H : Int)] 23)).cell? ⟨w.heap.size, 0, none⟩ = some (.int .i64 (N : Int)) := by simp
  have hc1 : (w.alloc (.cells #[.int .i64 (N : Int), .int .i64 (H : Int)] 23)).cell? ⟨w.heap.size, 1, none⟩ = some (.int .i64 (H : Int)) := by simp
  have hl0 : w.heap.size < (w.alloc (.cells #[.int .i64 (N : Int), .int .i64 (H : Int)] 23)).heap.size := by simp
  go_enter Tryd.func16, Tryd.ntmps16
  go_upto_region 1 with (fail)
  generalize w.alloc (.cells #[.int .i64 (N : Int), .int .i64 (H : Int)] 23) = wz at *
  have HC := Lib.hid (fun (u : World) (q : Below wz.heap.size wz u) => (⟨(q.cell (p := ⟨w.heap.size, 0, none⟩) hl0).trans hc0, (q.cell (p := ⟨w.heap.size, 1, none⟩) hl0).trans hc1, hk.below hk.1 (hB0.trans (q.mono hB0.size))⟩ : u.cell? ⟨w.heap.size, 0, none⟩ = some (.int .i64 (N : Int)) ∧ u.cell? ⟨w.heap.size, 1, none⟩ = some (.int .i64 (H : Int)) ∧ Consts u))
  have HB0 := Lib.hid hB0
  clear hB0 hl0 hk
  go_wp2_with fail
  refine (R1.out _).mono ?_
  rintro e w1 ⟨rfl, hb1⟩
  have HY1 := Lib.hid hb1
  clear hb1 hc0 hc1
  obtain ⟨c0, c1, -⟩ := HC.out _ HY1.out
  go_wp2_with fail
  refine (R2.out _ (HB0.out.trans (HY1.out.mono HB0.out.size))).mono ?_
  rintro e w2 ⟨rfl, hb2⟩
  have HB1 := Lib.hid (HY1.out.trans (hb2.mono HY1.out.size))
  clear hb2 c0 c1 HY1
  go_upto_region 4 with (fail)
  have HBU := Lib.hid (Lib.IsBuilderF.of (Use.builder_new w2.heap.size w2.heap.size _ (Nat.le_refl _) (_root_.Go.heap_alloc_new w2 (.cells #[.pointer none, .slice none 0 0] 49))))
  have HW1 := Lib.hid ((Below.refl w2.heap.size w2).alloc (Nat.le_refl _) (.cells #[.pointer none, .slice none 0 0] 49))
  have HZ2 := Lib.hid (HB1.out.trans (HW1.out.mono HB1.out.size))
  have hw0 : w.heap.size ≤ w2.heap.size := Nat.le_trans HB0.out.size HB1.out.size
  have hbb : Below w.heap.size w (w2.alloc (.cells #[.pointer none, .slice none 0 0] 49)) := HB0.out.trans (HZ2.out.mono HB0.out.size)
  have hI0 := IntsB.old (l := nums l 0) (HNE.out 0) HR.out hw0 hbb
  generalize w2.alloc (.cells #[.pointer none, .slice none 0 0] 49) = w3 at *
  have HI0 := Lib.hid hI0
  clear hI0 hbb
  obtain ⟨c0, c1, -⟩ := HC.out _ HZ2.out
  go_wp2_with fail
  clear c0 c1 HZ2
  go_loopw [10, 11, 13, 14, 15, 30] (fun x _ _ _ _ i wr => ∃ (z : Nat) (a' : Option Addr) (c n : Nat), z ≤ H ∧ i = .int .i64 z ∧ x = .slice a' n c ∧ n = (nums l z).length ∧ IntsB w2.heap.size wr a' (nums l z) ∧ Lib.IsBuilderF 49 5 w2.heap.size w2.heap.size (Lib.byteCells (upto F z)) wr ∧ Below w2.heap.size w2 wr) (fun _ _ _ _ _ i _ => H - (intOf i).toNat)
  case atStart => exact ⟨0, a, cap, m, by omega, rfl, rfl, HM.out.symm, HI0.out, HBU.out, HW1.out⟩
  case round =>
    clear HBU HW1 HI0
    obtain ⟨z, a', c, n, hz, rfl, rfl, hn, hI, hbu, hbel⟩ := hrel
    obtain ⟨wo, rfl⟩ : ∃ wo, wo = wr := ⟨wr, rfl⟩
    obtain ⟨b, o, rfl, -⟩ := id hI
    have HI := Lib.hid hI
    have HBU := Lib.hid hbu
    have HW := Lib.hid hbel
    have HN := Lib.hid hn
    have hn2 : n ≤ 1000000 := by rw [hn]; have := HNN.out z; have := HM.out; have h3 : (nums l 0).length = l.length := rfl; omega
    clear hI hbu hbel hn
    by_cases hlt : z < H
    · go_wp2_with fail
      go_loopw [13, 14, 15, 35] (fun _ _ _ i wr => ∃ k : Nat, k ≤ n ∧ i = .int .i64 k ∧ IntsB w2.heap.size wr (some ⟨b, o, none⟩) (nums l z) ∧ Lib.IsBuilderF 49 5 w2.heap.size w2.heap.size (Lib.byteCells (upto F z ++ Q z k)) wr ∧ Below w2.heap.size w2 wr) (fun _ _ _ i _ => n - (intOf i).toNat)
      case atStart => exact ⟨0, by omega, rfl, HI.out, by rw [HQ0.out, List.append_nil]; exact HBU.out, HW.out⟩
      case round =>
        clear HI HBU HW
        obtain ⟨k, hk, rfl, hI, hbu, hbel⟩ := hrel
        have HI := Lib.hid hI
        have HBU := Lib.hid hbu
        have HW := Lib.hid hbel
        clear hI hbu hbel
        by_cases hltk : k < n
        · have hkl : k < (nums l z).length := by rw [← HN.out]; exact hltk
          obtain ⟨x, hx⟩ : ∃ x, x = (nums l z)[k] := ⟨_, rfl⟩
          obtain ⟨y, hy⟩ : ∃ y, y = sib x := ⟨_, rfl⟩
          have hcc := HI.out.cellAt (i := k) (x := x) (by rw [hx]; exact List.getElem?_eq_getElem hkl)
          have hxb : x ≤ 256 := HNL.out z hz x (by rw [hx]; exact List.getElem_mem hkl)
          have hxo : bits .xor .i64 (x : Int) 1 = (y : Int) := by rw [hy]; exact xor_one x (by omega)
          have hqn := HQN.out z k hkl
          rw [← hx] at hqn
          by_cases hmem : y ∈ nums l z
          · have RS1 := RS.out z (some ⟨b, o, none⟩) c y wr HI.out.read
            rw [← HN.out, decide_eq_true hmem] at RS1
            have RS2 := Lib.hid RS1
            have hq2 : Q z (k + 1) = Q z k := by rw [hqn, bring, if_pos (by rw [← hy]; exact hmem), List.append_nil]
            have HQ2 := Lib.hid hq2
            clear RS1 hq2 hqn hx hkl hmem hy
            go_wp2_with fail
            refine RS2.out.mono ?_
            rintro e w5 ⟨zz, rfl, hb5⟩
            have HI5 := Lib.hid (HI.out.below hb5)
            have HBU5 := Lib.hid (Use.builderF_below HBU.out hb5)
            have HW5 := Lib.hid (HW.out.trans (hb5.mono HW.out.size))
            clear hb5 hcc hxo
            rw [← HQ2.out] at HBU5
            go_wp2
            go_roundw
            case rel => exact ⟨k + 1, by omega, by go_num, HI5.out, HBU5.out, HW5.out⟩
            case measure => simp [intOf]; omega
          · have RS1 := RS.out z (some ⟨b, o, none⟩) c y wr HI.out.read
            rw [← HN.out, decide_eq_false hmem] at RS1
            have RS2 := Lib.hid RS1
            obtain ⟨P, hP⟩ : ∃ P, P = tx (node N seed.data.toList room.data.toList z y) := ⟨_, rfl⟩
            have hPs : P.size = N := by rw [hP]; exact HNS.out y z
            have hq2 : upto F z ++ Q z (k + 1) = (upto F z ++ Q z k) ++ P.data.toList := by rw [hqn, bring, if_neg (by rw [← hy]; exact hmem), hP, hy, List.append_assoc]
            have hsz : (upto F z ++ Q z k).length + P.size ≤ 140737488355328 := by
              rw [List.length_append]
              have h1 := HFU.out z
              have h2 := HQL.out z k
              omega
            have RN1 := Lib.hid (fun u hu => RN.out z hlt k hkl P (by rw [hP, hy, hx]) u hu)
            rw [← hx, ← hy] at RN1
            have HQ2 := Lib.hid hq2
            have HSZ := Lib.hid hsz
            clear RS1 hq2 hqn hx hkl hmem hy hP hPs hsz
            go_wp2_with fail
            refine RS2.out.mono ?_
            rintro e w5 ⟨zz, rfl, hb5⟩
            have HI5 := Lib.hid (HI.out.below hb5)
            have HBU5 := Lib.hid (Use.builderF_below HBU.out hb5)
            have HW5 := Lib.hid (HW.out.trans (hb5.mono HW.out.size))
            clear hb5 hcc
            obtain ⟨c0, c1, hk5⟩ := HC.out _ (HB1.out.trans (HW5.out.mono HB1.out.size))
            have HK5 := Lib.hid hk5
            clear hk5
            go_wp2_with fail
            refine (RN1.out _ HK5.out).mono ?_
            rintro e w6 ⟨rfl, hb6⟩
            have HI6 := Lib.hid (HI5.out.below hb6)
            have HBU6 := Lib.hid (Use.builderF_below HBU5.out hb6)
            have HW6 := Lib.hid (HW5.out.trans (hb6.mono HW5.out.size))
            clear hb6 hxo c0 c1
            go_wp2_with fail
            refine (Use.write_k w2.heap.size w2.heap.size (upto F z ++ Q z k) _ _ HBU6.out HSZ.out HW6.out.size).mono ?_
            rintro e w7 ⟨rfl, hbu7, hb7, ho7⟩
            rw [← HQ2.out] at hbu7
            have HBU7 := Lib.hid hbu7
            have HI7 := Lib.hid (HI6.out.write hb7 ho7)
            have HW7 := Lib.hid (HW6.out.trans hb7)
            clear hbu7 hb7 ho7
            go_wp2
            go_roundw
            case rel => exact ⟨k + 1, by omega, by go_num, HI7.out, HBU7.out, HW7.out⟩
            case measure => simp [intOf]; omega
        · obtain rfl : k = n := by omega
          have RH1 := RH.out z hz (some ⟨b, o, none⟩) c wr HI.out.read
          rw [← HN.out] at RH1
          have RH2 := Lib.hid RH1
          have hbu2 := HBU.out
          rw [HN.out, HQF.out, show upto F z ++ F z = upto F (z + 1) from rfl] at hbu2
          have HBU2 := Lib.hid hbu2
          clear RH1 hbu2 HBU
          go_wp2_with fail
          refine RH2.out.mono ?_
          rintro e w5 ⟨a2, c2, rfl, hr5, hb5, g, cur, fz, ha2, hg, hh⟩
          have HI5 := Lib.hid (IntsB.of (B := w2.heap.size) (l := nums l (z + 1)) (HNE.out (z + 1)) hr5 ha2 (Nat.lt_of_lt_of_le (by
            exact builderF_lt HBU2.out) hg) hh)
          have HBU5 := Lib.hid (Use.builderF_below HBU2.out hb5)
          have HW5 := Lib.hid (HW.out.trans (hb5.mono HW.out.size))
          clear hb5 hr5 hg hh ha2
          go_wp2
          go_roundw
          case rel => exact ⟨z + 1, a2, c2, _, by omega, by go_num, rfl, rfl, HI5.out, HBU5.out, HW5.out⟩
          case measure => simp [intOf]; omega
    · obtain rfl : z = H := by omega
      go_wp2_with fail
      refine (Use.string_f w2.heap.size w2.heap.size (upto F z) wo HBU.out HW.out.size).mono ?_
      rintro e w5 ⟨rfl, -, hb5⟩
      have HZ5 := Lib.hid (HB0.out.trans ((HB1.out.trans ((HW.out.trans hb5).mono HB1.out.size)).mono HB0.out.size))
      have hVV : (⟨(upto F z).toArray⟩ : ByteArray) = V := HV.out.symm
      rw [hVV]
      clear hb5 hVV
      go_wp2
      go_ret
      exact ⟨rfl, HZ5.out⟩
end Go.Proofs.YtncafbejgidliaaDoor.Grv

namespace Go.Proofs.YtncafbejgidliaaDoor.Spots
open Go.RowKit Mur Chn Grv
set_option maxRecDepth 100000

def spotsV (l : Hand) : List Value := l.flatMap fun p => [.int .i64 ((p.1 : Nat) : Int), .string (tx p.2)]
theorem spotsV_length (l : Hand) : (spotsV l).length = l.length * 2 := by
  induction l with
  | nil => rfl
  | cons p l ih =>
    have e : (spotsV (p :: l)).length = (spotsV l).length + 2 := rfl
    rw [e, ih, List.length_cons]
    omega
theorem spotsV_append (l m : Hand) : spotsV (l ++ m) = spotsV l ++ spotsV m := by simp [spotsV]
theorem spotsV_at (l : Hand) (i : Nat) (p : Nat × List UInt8) (h : l[i]? = some p) : (spotsV l)[2 * i]? = some (.int .i64 (p.1 : Int)) ∧ (spotsV l)[2 * i + 1]? = some (.string (tx p.2)) := by
  induction l generalizing i with
  | nil => simp at h
  | cons q l ih =>
    have e : spotsV (q :: l) = .int .i64 ((q.1 : Nat) : Int) :: .string (tx q.2) :: spotsV l := rfl
    rw [e]
    cases i with
    | zero =>
      simp at h
      subst h
      exact ⟨rfl, rfl⟩
    | succ i =>
      rw [show 2 * (i + 1) = 2 * i + 1 + 1 by omega, List.getElem?_cons_succ, List.getElem?_cons_succ, List.getElem?_cons_succ, List.getElem?_cons_succ]
      exact ih i (by simpa using h)
theorem spotsV_one (l : Hand) : ∀ v ∈ spotsV l, v.oneCell' = true := fun v hv => by
  simp only [spotsV, List.mem_flatMap] at hv
  obtain ⟨p, _, hv⟩ := hv
  rcases List.mem_cons.1 hv with rfl | hv
  · rfl
  · rcases List.mem_cons.1 hv with rfl | hv
    · rfl
    · cases hv
theorem info_spot : (Tryd.prog.info? 57).map (fun i => (i.zero, i.size, i.bytes)) = some (some (.agg #[.int .i64 0, .string ⟨#[]⟩]), 2, 24) := by kernel_rfl

/-- What 'make([]spot, 0, n)' makes. -/
theorem make_room (w : World) (n : Nat) (c : Int) (hc : c = (n : Int)) (hn : 24 * n ≤ 281474976710656) : (Instr.makeSlice 68 (.int .i64 0) (.int .i64 c)).run Tryd.prog w =
    .ok (.slice (some ⟨w.heap.size, 0, none⟩) 0 n) (w.alloc (.cells (madeCells #[.int .i64 0, .string ⟨#[]⟩] (n * 2)) 57)) := by
  subst hc
  obtain ⟨i0, hi, hz0, hz1, hz2⟩ := info_parts info_spot
  have h := run_make (P := Tryd.prog) w 68 57 i0 (.agg #[.int .i64 0, .string ⟨#[]⟩]) Tryd.underlying68 hi hz0 .i64 .i64 0 (n : Int) (by omega) (by omega) (by rw [hz2]; omega) (by omega)
  simpa [hz1, Value.cells] using h
theorem spot_one (W : World) (x : Nat) (y : List UInt8) (t : TypeId) : ∀ j u, (spotsV [(x, y)])[j]? = some u → (W.alloc (.cells #[.int .i64 (x : Int), .string (tx y)] t)).cell? ⟨W.heap.size, j, none⟩ = some u := fun j u hu => by
  match j, hu with
  | 0, hu => cases hu; simp [World.cell?_alloc_new]
  | 1, hu => cases hu; simp [World.cell?_alloc_new]

/-- An append of one spot. -/
theorem append_spot {ops : Array Oper} {rest : List Oper} {o : Oper} {a : Act} {W : World} {Q : Exit → Act → World → Prop} (hgd : o.guard = none) (s x : Operand)
    (ho : o.op = .call { callee := .builtin .append, args := #[s, x], argTypes := #[68, 68] }) (base n : Nat) (v : Value) (l : Hand) (hs : a.eval s = v) (hown : W.ownsRow base 57 2 v n (spotsV l))
    (b c : Nat) (p : Nat × List UInt8) (hx : a.eval x = .slice (some ⟨b, 0, none⟩) 1 c) (hnews : ∀ j u, (spotsV [p])[j]? = some u → W.cell? ⟨b, j, none⟩ = some u) (hn : n ≤ 1000000000) (hbase : base ≤ W.heap.size)
    (h : ∀ v' w', w'.ownsRow base 57 2 v' (n + 1) (spotsV (l ++ [p])) → W.grownBy w' v.ownBlock → wpList Tryd.prog ops Q rest (a.put o.dst v') w') : wpList Tryd.prog ops Q (o :: rest) a W := by
  obtain ⟨i0, hi, hz0, hz1, hz2⟩ := info_parts info_spot
  refine wpList_append_own W hgd s x 68 ho base 57 i0 (.agg #[.int .i64 0, .string ⟨#[]⟩]) 2 24 Tryd.underlying68 hi hz0 hz1 hz2 rfl (by decide) v n (spotsV l) hs hown ⟨b, 0, none⟩ 1 c (spotsV [p]) hx rfl (fun j u hu => by rw [Strs.add_zero]; exact hnews j u hu) (spotsV_one [p]) (by unfold maxLen; omega) (by omega) hbase ?_
  intro v' w' h1 h2 _
  rw [← spotsV_append] at h1
  exact h v' w' h1 h2
theorem step_append_spot {ops : Array Oper} {o : Oper} {a : Act} {K : Act → World → Prop} {Q : Exit → Act → World → Prop} {E : Prop} (hgd : o.guard = none) (s x : Operand)
    (ho : o.op = .call { callee := .builtin .append, args := #[s, x], argTypes := #[68, 68] }) (W : World) (k : Nat) (y : List UInt8) (base n : Nat) (v : Value) (l : Hand)
    (hs : a.eval s = v) (hx : a.eval x = .slice (some ⟨W.heap.size, 0, none⟩) 1 1) (hown : W.ownsRow base 57 2 v n (spotsV l)) (hn : n ≤ 1000000000) (hbase : base ≤ W.heap.size)
    (h : ∀ v' w', w'.ownsRow base 57 2 v' (n + 1) (spotsV (l ++ [(k, y)])) → (W.alloc (.cells #[.int .i64 (k : Int), .string (tx y)] 57)).grownBy w' v.ownBlock → K (a.put o.dst v') w') :
    if Region.wanted o (yielded ops a.tmps) = true then Oper.wp Tryd.prog o a (W.alloc (.cells #[.int .i64 (k : Int), .string (tx y)] 57)) K Q else E := by
  have hw : Region.wanted o (yielded ops a.tmps) = true := by simp [Region.wanted, hgd]
  rw [if_pos hw]
  obtain ⟨i0, hi, hz0, hz1, hz2⟩ := info_parts info_spot
  obtain ⟨v', w', hr, h2, h3, h4⟩ := run_append_own (P := Tryd.prog) (w := W.alloc (.cells #[.int .i64 (k : Int), .string (tx y)] 57)) base 68 o.type 57 i0 (.agg #[.int .i64 0, .string ⟨#[]⟩]) 2 24 Tryd.underlying68 hi hz0 hz1 hz2 rfl (by decide) v n (spotsV l) (hown.alloc _) ⟨W.heap.size, 0, none⟩ 1 1 (spotsV [(k, y)]) rfl (fun j u hu => by rw [Strs.add_zero]; exact spot_one W k y _ j u hu) (spotsV_one [(k, y)]) (by unfold maxLen; omega) (by omega) (Nat.le_trans hbase (by simp))
  unfold Oper.wp execOp
  simp only [ho, resolve, invoke, builtin, Sem.run_bind, Sem.run_pure, Result.andThen_ok, List.map_toArray, List.map_cons, List.map_nil, hs, hx, hr]
  rw [← spotsV_append] at h2
  exact h v' w' h2 h3

theorem step_append_text {ops : Array Oper} {o : Oper} {a : Act} {K : Act → World → Prop} {Q : Exit → Act → World → Prop} {E : Prop} (hgd : o.guard = none) (s x : Operand)
    (ho : o.op = .call { callee := .builtin .append, args := #[s, x], argTypes := #[68, 68] }) (W : World) (k : Nat) (Y : ByteArray) (base n : Nat) (v : Value) (l : Hand)
    (hs : a.eval s = v) (hx : a.eval x = .slice (some ⟨W.heap.size, 0, none⟩) 1 1) (hown : W.ownsRow base 57 2 v n (spotsV l)) (hn : n ≤ 1000000000) (hbase : base ≤ W.heap.size)
    (h : ∀ v' w', w'.ownsRow base 57 2 v' (n + 1) (spotsV (l ++ [(k, Y.data.toList)])) → (W.alloc (.cells #[.int .i64 (k : Int), .string Y] 57)).grownBy w' v.ownBlock → K (a.put o.dst v') w') :
    if Region.wanted o (yielded ops a.tmps) = true then Oper.wp Tryd.prog o a (W.alloc (.cells #[.int .i64 (k : Int), .string Y] 57)) K Q else E :=
  step_append_spot hgd s x ho W k Y.data.toList base n v l hs hx hown hn hbase h
/-- A row of spots that a call has made, as a slice: where it is not empty, it has a block. -/
theorem spots_row {w : World} {base n : Nat} {v : Value} {l : Hand} (h : w.ownsRow base 57 2 v n (spotsV l)) (hn : 0 < n) :
    ∃ g c, v = .slice (some ⟨g, 0, none⟩) n c ∧ base ≤ g ∧ n ≤ c ∧ g < w.heap.size ∧ n = l.length ∧ ∀ (i : Nat) p, l[i]? = some p → w.cell? ⟨g, 2 * i, none⟩ = some (.int .i64 (p.1 : Int)) ∧ w.cell? ⟨g, 2 * i + 1, none⟩ = some (.string (tx p.2)) := by
  have hl := h.1
  rw [spotsV_length] at hl
  rcases h.2 with ⟨-, h0⟩ | ⟨g, c, cur, rfl, h1, h2, h3, h4, h5, h6⟩
  · omega
  · refine ⟨g, c, rfl, h1, h3, (Array.getElem?_eq_some_iff.1 h2).1, by omega, fun i p hp => ?_⟩
    obtain ⟨e1, e2⟩ := spotsV_at l i p hp
    have c1 := h.cells (g := g) rfl _ _ e1
    have c2 := h.cells (g := g) rfl _ _ e2
    rw [Strs.add_zero] at c1 c2
    exact ⟨c1, c2⟩
end Go.Proofs.YtncafbejgidliaaDoor.Spots

namespace Go.Proofs.YtncafbejgidliaaDoor.Grv
open Go.RowKit Mur Sha Chn
set_option maxRecDepth 100000

/-- What climbed answers. -/
def ClimbedPost (RES : Option (Hand × List UInt8)) (base : Nat) (e : Ending) (w' : World) : Prop := match RES with
  | none => e = .returned (.tuple #[.slice none 0 0, .string ⟨#[]⟩, .bool false])
  | some r => ∃ v, e = .returned (.tuple #[v, .string (tx r.2), .bool true]) ∧ w'.ownsRow base 57 2 v r.1.length (Spots.spotsV r.1)
/-- What lies beside: a spot, and the shape. -/
structure Beside (na ns nz : Nat) (k : Int) (X : ByteArray) (N h : Int) (u : World) : Prop where
  a0 : u.cell? ⟨na, 0, none⟩ = some (.int .i64 k)
  a1 : u.cell? ⟨na, 1, none⟩ = some (.string X)
  c0 : u.cell? ⟨ns, 0, none⟩ = some (.int .i64 N)
  c1 : u.cell? ⟨ns, 1, none⟩ = some (.int .i64 h)
  la : na < u.heap.size
  lc : ns < u.heap.size
theorem Beside.all {na ns nz : Nat} {k : Int} {X : ByteArray} {N h : Int} {u : World} (b : Beside na ns nz k X N h u) : u.cell? ⟨na, 0, none⟩ = some (.int .i64 k) ∧ u.cell? ⟨na, 1, none⟩ = some (.string X) ∧ u.cell? ⟨ns, 0, none⟩ = some (.int .i64 N) ∧ u.cell? ⟨ns, 1, none⟩ = some (.int .i64 h) ∧ Beside na ns nz k X N h u :=
  ⟨b.a0, b.a1, b.c0, b.c1, b⟩
theorem Beside.next {na ns nz : Nat} {k : Int} {X : ByteArray} {N h : Int} {u u' : World} (b : u.cell? ⟨na, 0, none⟩ = some (.int .i64 k) ∧ u.cell? ⟨na, 1, none⟩ = some (.string X) ∧ u.cell? ⟨ns, 0, none⟩ = some (.int .i64 N) ∧ u.cell? ⟨ns, 1, none⟩ = some (.int .i64 h) ∧ Beside na ns nz k X N h u) (q : Below u.heap.size u u') : Beside na ns nz k X N h u' :=
  have b := b.2.2.2.2
  ⟨(q.cell (p := ⟨na, 0, none⟩) b.la).trans b.a0, (q.cell (p := ⟨na, 1, none⟩) b.la).trans b.a1, (q.cell (p := ⟨ns, 0, none⟩) b.lc).trans b.c0, (q.cell (p := ⟨ns, 1, none⟩) b.lc).trans b.c1, Nat.lt_of_lt_of_le b.la q.size, Nat.lt_of_lt_of_le b.lc q.size⟩
theorem Beside.grown {na ns nz : Nat} {k : Int} {X : ByteArray} {N h : Int} {u u' : World} {row : Option Nat} (b : u.cell? ⟨na, 0, none⟩ = some (.int .i64 k) ∧ u.cell? ⟨na, 1, none⟩ = some (.string X) ∧ u.cell? ⟨ns, 0, none⟩ = some (.int .i64 N) ∧ u.cell? ⟨ns, 1, none⟩ = some (.int .i64 h) ∧ Beside na ns nz k X N h u) (q : u.grownBy u' row) (hr : ∀ j, row = some j → nz ≤ j ∧ j < na) (hs : ns < nz) : Beside na ns nz k X N h u' := by
  have b := b.2.2.2.2
  have h1 : some na ≠ row := fun e => by have := (hr na e.symm).2; omega
  have h2 : some ns ≠ row := fun e => by have := (hr ns e.symm).1; omega
  have lt : ∀ (g i : Nat) (v : Value), u'.cell? ⟨g, i, none⟩ = some v → g < u'.heap.size := fun g i v hv => by
    rcases Nat.lt_or_ge g u'.heap.size with hh | hh
    · exact hh
    · simp [World.cell?, Array.getElem?_eq_none hh] at hv
  have e0 := q.cell b.a0 h1
  have e2 := q.cell b.c0 h2
  exact ⟨e0, q.cell b.a1 h1, e2, q.cell b.c1 h2, lt _ _ _ e0, lt _ _ _ e2⟩
theorem cut_drop (p : ByteArray) (N : Nat) (h : N ≤ p.size) : p.extract N p.size = tx (p.data.toList.drop N) := by
  rw [piece_cut p N (p.size - N) p.size (by omega)]
  have e : p.data.toList.length = p.size := rfl
  rw [List.take_of_length_le (by rw [List.length_drop]; omega)]
theorem cut_head (p : ByteArray) (N : Nat) : p.extract 0 N = tx (p.data.toList.take N) := by
  have := piece_cut p 0 N N (by omega)
  rw [List.drop_zero] at this
  exact this

set_option maxHeartbeats 6400000 in
theorem climbed_any (N z n : Nat) (h : Int) (room pr : ByteArray) (hd : Hand) (g o c : Nat) (w : World) (hN : 2 ≤ N ∧ N ≤ 32) (hz : z ≤ 100) (hn : hd.length = n) (hnc : n ≤ c) (hn2 : n ≤ 1000000) (hb : ∀ p ∈ hd, p.1 ≤ 1000000 ∧ p.2.length ≤ 1000000) (hs : room.size ≤ 34359738368) (RES : Option (Hand × List UInt8)) (hRES : RES = climbed N room.data.toList z hd pr.data.toList)
    (hg : g < w.heap.size) (hc : ∀ i p, hd[i]? = some p → w.cell? ⟨g, o + 2 * i, none⟩ = some (.int .i64 (p.1 : Int)) ∧ w.cell? ⟨g, o + (2 * i + 1), none⟩ = some (.string (tx p.2))) (hk : Consts w) :
    Calls Tryd.prog 37 #[.agg #[.int .i64 (N : Int), .int .i64 h], .string room, .int .i64 (z : Int), .slice (some ⟨g, o, none⟩) n c, .string pr] w
      fun e w' => Below w.heap.size w w' ∧ ClimbedPost RES w.heap.size e w' := by
  have RA := Lib.hid (fun (k : Nat) (hkk : k ≤ 1000000) (x y V : ByteArray) (hx : x.size ≤ 1000000) (hy : y.size ≤ 1000000) (hV : V = tx (asOneT N room.data.toList z k x.data.toList y.data.toList)) (u : World) (hu : Consts u) => asOne_any N z k h room x y V u hN.2 hz hkk (by omega) hV hu)
  have HRES := Lib.hid hRES
  have HNN := Lib.hid hn
  clear hRES
  have hmk := fun u => Spots.make_room u n (n : Int) rfl (by omega)
  have hB0 := (Below.refl w.heap.size w).alloc (Nat.le_refl _) (.cells #[.int .i64 (N : Int), .int .i64 h] 23)
  have hc0 : (w.alloc (.cells #[.int .i64 (N : Int), .int .i64 h] 23)).cell? ⟨w.heap.size, 0, none⟩ = some (.int .i64 (N : Int)) := by simp
  have hc1 : (w.alloc (.cells #[.int .i64 (N : Int), .int .i64 h] 23)).cell? ⟨w.heap.size, 1, none⟩ = some (.int .i64 h) := by simp
  have hl0 : w.heap.size < (w.alloc (.cells #[.int .i64 (N : Int), .int .i64 h] 23)).heap.size := by simp
  go_enter Tryd.func37, Tryd.ntmps37
  go_upto_region 1 with (fail)
  generalize hwz : w.alloc (.cells #[.int .i64 (N : Int), .int .i64 h] 23) = wz at *
  have HC := Lib.hid (fun (u : World) (q : Below wz.heap.size wz u) => (⟨(q.cell (p := ⟨w.heap.size, 0, none⟩) hl0).trans hc0, (q.cell (p := ⟨w.heap.size, 1, none⟩) hl0).trans hc1, hk.below hk.1 (hB0.trans (q.mono hB0.size)), fun i p hp => ⟨((hB0.trans (q.mono hB0.size)).cell (p := ⟨g, o + 2 * i, none⟩) hg).trans (hc i p hp).1, ((hB0.trans (q.mono hB0.size)).cell (p := ⟨g, o + (2 * i + 1), none⟩) hg).trans (hc i p hp).2⟩⟩ :
    u.cell? ⟨w.heap.size, 0, none⟩ = some (.int .i64 (N : Int)) ∧ u.cell? ⟨w.heap.size, 1, none⟩ = some (.int .i64 h) ∧ Consts u ∧ ∀ i p, hd[i]? = some p → u.cell? ⟨g, o + 2 * i, none⟩ = some (.int .i64 (p.1 : Int)) ∧ u.cell? ⟨g, o + (2 * i + 1), none⟩ = some (.string (tx p.2))))
  have HB0 := Lib.hid hB0
  have HL0 := Lib.hid hl0
  have HGW := Lib.hid (show g < wz.heap.size from Nat.lt_of_lt_of_le hg hB0.size)
  clear hB0 hl0 hk hg hc hc0 hc1 hwz
  go_upto_region 2 with (fail)
  have hown0 := World.ownsRow_made (base := wz.heap.size) (e := 57) (size := 2) wz (madeCells #[.int .i64 0, .string ⟨#[]⟩] (n * 2)) n (Nat.le_refl _) (by unfold maxLen; omega) (by simp [madeCells])
  have HW0 := Lib.hid ((Below.refl wz.heap.size wz).alloc (Nat.le_refl _) (.cells (madeCells #[.int .i64 0, .string ⟨#[]⟩] (n * 2)) 57))
  have HOWN0 := Lib.hid hown0
  clear hown0 hmk
  generalize wz.alloc (.cells (madeCells #[.int .i64 0, .string ⟨#[]⟩] (n * 2)) 57) = w3 at *
  go_loopw [3, 4, 13, 14, 15] (fun hv pv av _ _ wr => ∃ (k m cc : Nat) (ao : Option Addr) (p : ByteArray) (acc : Hand) (v : Value), k + m = n ∧ k + cc = c ∧ hv = .slice ao m cc ∧ (0 < m → ao = some ⟨g, o + 2 * k, none⟩) ∧ pv = .string p ∧ av = v ∧ acc.length ≤ k ∧
      climbed N room.data.toList z hd pr.data.toList = (climbed N room.data.toList z (hd.drop k) p.data.toList).map (fun r => (acc ++ r.1, r.2)) ∧ wr.ownsRow wz.heap.size 57 2 v acc.length (Spots.spotsV acc) ∧ Below wz.heap.size wz wr) (fun hv _ _ _ _ _ => match hv with | .slice _ m _ => m | _ => 0)
  case atStart => exact ⟨0, n, c, some ⟨g, o, none⟩, pr, [], _, by omega, by omega, rfl, fun _ => rfl, rfl, rfl, Nat.le_refl _, by
    rw [List.drop_zero]
    cases climbed N room.data.toList z hd pr.data.toList <;> rfl, HOWN0.out, HW0.out⟩
  case round =>
    clear HOWN0 HW0
    obtain ⟨k, m, cc, ao, p, acc, v, hkm, hkc, rfl, hao, rfl, rfl, hacc, hcl, hown, hbel⟩ := hrel
    have HW := Lib.hid hbel
    have HOWN := Lib.hid hown
    have HCL := Lib.hid hcl
    clear hbel hown hcl
    by_cases hm : 0 < m
    · obtain rfl := hao hm
      have hkl : k < hd.length := by omega
      obtain ⟨k1, x, hpt⟩ : ∃ k1 x, hd[k] = (k1, x) := ⟨_, _, rfl⟩
      have hdrop : hd.drop k = (k1, x) :: hd.drop (k + 1) := by rw [List.drop_eq_getElem_cons hkl, hpt]
      obtain ⟨c0, c1, hk4, hcell⟩ := HC.out _ HW.out
      obtain ⟨d0, d1⟩ := hcell k (k1, x) (by rw [List.getElem?_eq_getElem hkl, hpt])
      obtain ⟨X, hX⟩ : ∃ X, X = tx x := ⟨_, rfl⟩
      rw [← hX] at d1
      simp only at d0 d1
      have HK4 := Lib.hid hk4
      have HCE := Lib.hid hcell
      clear hk4 hcell
      obtain ⟨ob, hob⟩ : ∃ ob, ob = o + 2 * k := ⟨_, rfl⟩
      have hob1 : o + (2 * k + 1) = ob + 1 := by omega
      rw [← hob] at d0 ⊢
      rw [hob1] at d1
      have HOB := Lib.hid hob
      have HDR := Lib.hid hdrop
      have HPT := Lib.hid hpt
      have HX := Lib.hid hX
      clear hob hob1 hdrop hpt hX
      go_upto_region 6 with (fail)
      have hmc : m ≤ cc := by omega
      obtain ⟨m1, hm1⟩ : ∃ m1, m1 = m - 1 := ⟨_, rfl⟩
      obtain ⟨cc1, hcc1⟩ : ∃ cc1, cc1 = cc - 1 := ⟨_, rfl⟩
      have hao1 : 0 < m1 → (if cc = 1 then (some ⟨g, ob, none⟩ : Option Addr) else some ⟨g, ob + 2, none⟩) = some ⟨g, ob + 2, none⟩ := fun h => if_neg (by omega)
      rw [← hm1, ← hcc1]
      generalize (if cc = 1 then (some ⟨g, ob, none⟩ : Option Addr) else some ⟨g, ob + 2, none⟩) = ao1 at *
      obtain ⟨na, hna⟩ : ∃ na, na = wr.heap.size := ⟨_, rfl⟩
      have hown_lt := HOWN.out.lt
      rw [← hna] at hown_lt
      have hA := HW.out.alloc HW.out.size (.cells #[.int .i64 (k1 : Int), .string X] 57)
      have ha0 : (wr.alloc (.cells #[.int .i64 (k1 : Int), .string X] 57)).cell? ⟨na, 0, none⟩ = some (.int .i64 (k1 : Int)) := by rw [hna]; simp
      have ha1 : (wr.alloc (.cells #[.int .i64 (k1 : Int), .string X] 57)).cell? ⟨na, 1, none⟩ = some (.string X) := by rw [hna]; simp
      have hal : na < (wr.alloc (.cells #[.int .i64 (k1 : Int), .string X] 57)).heap.size := by rw [hna]; simp
      have hoA := HOWN.out.alloc (.cells #[.int .i64 (k1 : Int), .string X] 57)
      rw [← hna]
      clear hna c0 c1 d0 d1
      generalize wr.alloc (.cells #[.int .i64 (k1 : Int), .string X] 57) = wa at *
      have HA := Lib.hid hA
      have HOA := Lib.hid hoA
      have HAL := Lib.hid hal
      have HAN := Lib.hid hown_lt
      have HGL := Lib.hid (show g < wa.heap.size from Nat.lt_of_lt_of_le HGW.out hA.size)
      have HAT := Lib.hid (fun (u : World) (q : Below wa.heap.size wa u) => (⟨(q.cell (p := ⟨na, 0, none⟩) hal).trans ha0, (q.cell (p := ⟨na, 1, none⟩) hal).trans ha1⟩ : u.cell? ⟨na, 0, none⟩ = some (.int .i64 (k1 : Int)) ∧ u.cell? ⟨na, 1, none⟩ = some (.string X)))
      have HCA := Lib.hid (fun (u : World) (q : Below wa.heap.size wa u) => HC.out u (HA.out.trans (q.mono HA.out.size)))
      have HM1 := Lib.hid hm1
      have HCC1 := Lib.hid hcc1
      clear hA hoA ha0 ha1 hal hown_lt hm1 hcc1 HW HOWN HK4 HCE
      have hk1 : k1 ≤ 1000000 := (hb (k1, x) (by rw [← HPT.out]; exact List.getElem_mem hkl)).1
      have hx1 : x.length ≤ 1000000 := (hb (k1, x) (by rw [← HPT.out]; exact List.getElem_mem hkl)).2
      obtain ⟨s1, hs1⟩ : ∃ s1, s1 = sib k1 := ⟨_, rfl⟩
      have hxo : bits .xor .i64 (k1 : Int) 1 = (s1 : Int) := by rw [hs1]; exact xor_one k1 (by omega)
      have HS1 := Lib.hid hs1
      clear hs1
      obtain ⟨a0, a1⟩ := HAT.out wa (Below.refl _ _)
      by_cases hm10 : 0 < m1
      · obtain rfl := hao1 hm10
        have hkl2 : k + 1 < hd.length := by have := HM1.out; omega
        obtain ⟨k2, y, hpt2⟩ : ∃ k2 y, hd[k + 1] = (k2, y) := ⟨_, _, rfl⟩
        have hdrop2 : hd.drop (k + 1) = (k2, y) :: hd.drop (k + 2) := by rw [List.drop_eq_getElem_cons hkl2, hpt2]
        have hcell2 := (HCA.out wa (Below.refl _ _)).2.2.2 (k + 1) (k2, y) (by rw [List.getElem?_eq_getElem hkl2, hpt2])
        obtain ⟨Y, hY⟩ : ∃ Y, Y = tx y := ⟨_, rfl⟩
        rw [← hY, show o + 2 * (k + 1) = ob + 2 by have := HOB.out; omega, show o + (2 * (k + 1) + 1) = ob + 2 + 1 by have := HOB.out; omega] at hcell2
        obtain ⟨e0, e1⟩ := hcell2
        simp only at e0 e1
        have hk2 := (hb (k2, y) (by rw [← hpt2]; exact List.getElem_mem hkl2))
        have HK2 := Lib.hid hk2
        have HDR2 := Lib.hid hdrop2
        have HY := Lib.hid hY
        clear hpt2 hdrop2 hY hk2
        have g1 : decide ((0 : Int) < (m1 : Int)) = true := by simp; omega
        have g2 : decide (0 < m1) = true := by simp; omega
        have HE := Lib.hid (fun (u : World) (q : Below wa.heap.size wa u) => (⟨(q.cell (p := ⟨g, ob + 2, none⟩) (HGL.out)).trans e0, (q.cell (p := ⟨g, ob + 2 + 1, none⟩) (HGL.out)).trans e1⟩ : u.cell? ⟨g, ob + 2, none⟩ = some (.int .i64 (k2 : Int)) ∧ u.cell? ⟨g, ob + 2 + 1, none⟩ = some (.string Y)))
        by_cases heq : k2 = s1
        · have g3 : ((k2 : Int) == (s1 : Int)) = true := by rw [heq]; simp
          have HEQ := Lib.hid heq
          clear heq
          go_quiet (fail)
          have HQ0 := Lib.hid (belowN (Below.refl wa.heap.size wa) nq)
          generalize wa.drewN nq = wq0 at *
          clear e0 e1 a0 a1 g1 g2 g3 hxo
          obtain ⟨e0, e1⟩ := HE.out _ HQ0.out
          go_upto_region 7 with (fail)
          go_quiet (fail)
          have HQ := Lib.hid (HQ0.out.trans ((belowN (Below.refl wq0.heap.size wq0) nq).mono HQ0.out.size))
          generalize wq0.drewN nq = wq at *
          clear e0 e1
          obtain ⟨mm, hmm⟩ : ∃ mm, mm = m1 - 1 := ⟨_, rfl⟩
          obtain ⟨cc', hcc'⟩ : ∃ cc', cc' = cc1 - 1 := ⟨_, rfl⟩
          have hao2 : 0 < mm → (if cc1 = 1 then (some ⟨g, ob + 2, none⟩ : Option Addr) else some ⟨g, ob + 2 + 2, none⟩) = some ⟨g, o + 2 * (k + 2), none⟩ := fun h => by
            rw [if_neg (by have := HCC1.out; have := HM1.out; omega), HOB.out, show o + 2 * k + 2 + 2 = o + 2 * (k + 2) by omega]
          rw [← hmm, ← hcc']
          generalize (if cc1 = 1 then (some ⟨g, ob + 2, none⟩ : Option Addr) else some ⟨g, ob + 2 + 2, none⟩) = ao' at *
          obtain ⟨kk, hkk⟩ : ∃ kk, kk = k + 2 := ⟨_, rfl⟩
          have HAO := Lib.hid (show 0 < mm → ao' = some ⟨g, o + 2 * kk, none⟩ from by rw [hkk]; exact hao2)
          have HK := Lib.hid (show kk + mm = n ∧ kk + cc' = c ∧ mm < m ∧ acc.length + 1 ≤ kk from by have := HM1.out; have := HCC1.out; omega)
          obtain ⟨YB, yb, pp, hYB1, hyb1, hpp1⟩ : ∃ (YB : ByteArray) (yb : List UInt8) (pp : ByteArray), YB = Y ∧ yb = y ∧ pp = p := ⟨_, _, _, rfl, rfl, rfl⟩
          have HYB := Lib.hid (show YB = tx yb from by rw [hYB1, hyb1]; exact HY.out)
          have hyb : YB.size ≤ 1000000 := by
            have e1 : YB.size = yb.length := by rw [HYB.out]; rfl
            rw [e1, hyb1]
            exact HK2.out.2
          have HSTEP := Lib.hid (show climbed N room.data.toList z (hd.drop k) p.data.toList = (climbed N room.data.toList z (hd.drop kk) pp.data.toList).map (fun r => ((k1 / 2, asOneT N room.data.toList z k1 x yb) :: r.1, r.2)) from by
            rw [HDR.out, HDR2.out, climbed, if_pos (by rw [HEQ.out, HS1.out]), hkk, hyb1, hpp1])
          rw [← hYB1, ← hpp1]
          clear hmm hcc' hao2 hkk hYB1 hyb1 hpp1
          have RA1 := Lib.hid (fun (V : ByteArray) (hV : V = tx (asOneT N room.data.toList z k1 x yb)) (u : World) (q : Below wq.heap.size wq u) => RA.out k1 hk1 X YB V (by rw [HX.out]; exact hx1) hyb (by rw [hV, HX.out, HYB.out]) u (HCA.out u (HQ.out.trans (q.mono HQ.out.size))).2.2.1)
          obtain ⟨V, hV⟩ : ∃ V, V = tx (asOneT N room.data.toList z k1 x yb) := ⟨_, rfl⟩
          have RA2 := Lib.hid (RA1.out V hV)
          have HV := Lib.hid hV
          obtain ⟨kh, hkh⟩ : ∃ kh, kh = k1 / 2 := ⟨_, rfl⟩
          have hsh : (k1 : Int) / 2 = (kh : Int) := by rw [hkh]; rfl
          have HKH := Lib.hid hkh
          clear hV hkh
          go_upto_region 10 with (fail)
          obtain ⟨c0, c1, -⟩ := HCA.out _ (HQ.out.drew)
          obtain ⟨a0, a1⟩ := HAT.out _ (HQ.out.drew)
          have HS := Lib.hid (show Beside na w.heap.size wz.heap.size (k1 : Int) X (N : Int) h wq.drew from ⟨a0, a1, c0, c1, Nat.lt_of_lt_of_le HAL.out HQ.out.size, Nat.lt_of_lt_of_le HL0.out (Nat.le_trans HA.out.size HQ.out.size)⟩)
          clear a0 a1 c0 c1
          go_region_held_law (fun w' => w'.cell? ⟨na, 0, none⟩ = some (.int .i64 (k1 : Int)) ∧ w'.cell? ⟨na, 1, none⟩ = some (.string X) ∧ w'.cell? ⟨w.heap.size, 0, none⟩ = some (.int .i64 (N : Int)) ∧ w'.cell? ⟨w.heap.size, 1, none⟩ = some (.int .i64 h) ∧ Beside na w.heap.size wz.heap.size (k1 : Int) X (N : Int) h w')
            (first | exact HS.out.all | assumption | exact (Beside.next (by assumption) (by assumption)).all | exact (Beside.next (by assumption) ((Below.refl _ _).alloc (Nat.le_refl _) _)).all | exact (Beside.grown (by assumption) (by assumption) (fun j hj => HAN.out j hj) HL0.out).all)
            (first
            | (refine step_call rfl 27 Tryd.call27 #[.tmp 65, .tmp 66, .tmp 67, .tmp 68, .tmp 69] #[23, 9, 3, 57, 9] rfl #[.agg #[.int .i64 (N : Int), .int .i64 h], .string room, .int .i64 (z : Int), .agg #[.int .i64 (k1 : Int), .string X], .string YB] (by first | (simp [Act.eval]; done) | simp [Act.eval, Act.put]) _ _ (RA2.out _ ((Below.refl _ _).drew)) ?_; intro w6 hb6)
            | (refine Spots.step_append_text (by rfl) _ _ (by rfl) w6 kh V wz.heap.size acc.length _ acc (by rfl) (by rfl) (Strs.own_below HOA.out (HQ.out.drew.trans (hb6.mono HQ.out.size))) (by omega) (Nat.le_trans HA.out.size (Nat.le_trans HQ.out.size hb6.size)) ?_; intro v' w8 hown8 hgrow8))
          have hz6 : Below wz.heap.size wz w6 := HA.out.trans ((HQ.out.drew.trans (hb6.mono HQ.out.size)).mono HA.out.size)
          have HW8 := Lib.hid ((hz6.alloc hz6.size (.cells #[.int .i64 (kh : Int), .string V] 57)).grown hgrow8 (Nat.le_trans hz6.size (by simp)) (fun j hj => (HOA.out.lt j hj).1))
          have HO8 := Lib.hid hown8
          have hcl8 : climbed N room.data.toList z hd pr.data.toList = (climbed N room.data.toList z (hd.drop kk) pp.data.toList).map (fun r => ((acc ++ [(kh, V.data.toList)]) ++ r.1, r.2)) := by
            rw [HCL.out, HSTEP.out, Option.map_map, HKH.out, HV.out]
            congr 1
            funext r
            simp [Function.comp]
          have HCL8 := Lib.hid hcl8
          have HLN := Lib.hid (show (acc ++ [(kh, V.data.toList)]).length = acc.length + 1 from by simp)
          clear hz6 hown8 hgrow8 hb6 hsh hcl8
          go_wp2
          go_roundw
          case rel => exact ⟨_, _, _, _, _, _, ⟨kk, mm, HK.out.1, cc', HK.out.2.1, ao', rfl, HAO.out, pp, rfl, acc ++ [(kh, V.data.toList)], by rw [HLN.out]; exact HK.out.2.2.2, HCL8.out, by rw [HLN.out]; exact HO8.out, HW8.out⟩, rfl, rfl, rfl, rfl, rfl, rfl⟩
          case measure => exact HK.out.2.2.1
        · have g3 : ((k2 : Int) == (s1 : Int)) = false := by simp; omega
          have hne : ¬ k2 = sib k1 := by rw [← HS1.out]; exact heq
          have hstep : climbed N room.data.toList z (hd.drop k) p.data.toList = if p.data.toList.length < N then none else (climbed N room.data.toList z (hd.drop (k + 1)) (p.data.toList.drop N)).map (fun r => ((k1 / 2, asOneT N room.data.toList z k1 x (p.data.toList.take N)) :: r.1, r.2)) := by
            rw [HDR.out, HDR2.out, climbed, if_neg hne]
          have HST := Lib.hid hstep
          have hAO0 : 0 < m1 → (some ⟨g, ob + 2, none⟩ : Option Addr) = some ⟨g, o + 2 * (k + 1), none⟩ := fun _ => by rw [HOB.out]; rfl
          have HAO0 := Lib.hid hAO0
          clear heq hne hstep hAO0
          go_quiet (fail)
          have HQ0 := Lib.hid (belowN (Below.refl wa.heap.size wa) nq)
          generalize wa.drewN nq = wq0 at *
          clear e0 e1 a0 a1 g1 g2 g3 hxo
          generalize (some ⟨g, ob + 2, none⟩ : Option Addr) = ao1 at *
          obtain ⟨c0, c1, -⟩ := HCA.out _ HQ0.out
          by_cases hle : N ≤ p.size
          · have g4 : decide ((N : Int) ≤ (p.size : Int)) = true := by simp; omega
            have g5 : decide (N ≤ p.size) = true := by simp; omega
            obtain ⟨YB, hYB⟩ : ∃ YB, p.extract 0 N = YB := ⟨_, rfl⟩
            obtain ⟨pp, hpp⟩ : ∃ pp, p.extract N p.size = pp := ⟨_, rfl⟩
            obtain ⟨yb, hyb0⟩ : ∃ yb, yb = p.data.toList.take N := ⟨_, rfl⟩
            have HYB := Lib.hid (show YB = tx yb from by rw [← hYB, hyb0]; exact cut_head p N)
            have hyb : YB.size ≤ 1000000 := by
              have e1 : YB.size = yb.length := by rw [HYB.out]; rfl
              rw [e1, hyb0, List.length_take]
              omega
            obtain ⟨kk, hkk⟩ : ∃ kk, kk = k + 1 := ⟨_, rfl⟩
            obtain ⟨mm, hmm⟩ : ∃ mm, mm = m1 := ⟨_, rfl⟩
            obtain ⟨cc', hcc'⟩ : ∃ cc', cc' = cc1 := ⟨_, rfl⟩
            obtain ⟨ao', hao'⟩ : ∃ ao', ao' = ao1 := ⟨_, rfl⟩
            have HSTEP := Lib.hid (show climbed N room.data.toList z (hd.drop k) p.data.toList = (climbed N room.data.toList z (hd.drop kk) pp.data.toList).map (fun r => ((k1 / 2, asOneT N room.data.toList z k1 x yb) :: r.1, r.2)) from by
              have hpl : p.data.toList.length = p.size := rfl
              rw [HST.out, if_neg (by omega), hkk, hyb0, ← hpp, cut_drop p N hle])
            have HAO := Lib.hid (show 0 < mm → ao' = some ⟨g, o + 2 * kk, none⟩ from by rw [hmm, hkk, hao']; exact HAO0.out)
            have HK := Lib.hid (show kk + mm = n ∧ kk + cc' = c ∧ mm < m ∧ acc.length + 1 ≤ kk from by have := HM1.out; have := HCC1.out; omega)
            have hN1 : (N : Int) ≤ p.size := by omega
            have hN3 : (N : Int).toNat = N := by omega
            have hN4 : (0 : Int) ≤ (N : Int) := by omega
            have hN5 : (N : Int) ≤ 32 := by omega
            clear hyb0
            go_upto_region 9 with (fail)
            go_quiet (fail)
            have HQ := Lib.hid (HQ0.out.trans ((belowN (Below.refl wq0.heap.size wq0) nq).mono HQ0.out.size))
            generalize wq0.drewN nq = wq at *
            rw [← hmm, ← hcc', ← hao']
            clear hYB hpp hN1 hN3 hN4 hN5 hle g4 g5 c0 c1 hkk hmm hcc' hao'
            have RA1 := Lib.hid (fun (V : ByteArray) (hV : V = tx (asOneT N room.data.toList z k1 x yb)) (u : World) (q : Below wq.heap.size wq u) => RA.out k1 hk1 X YB V (by rw [HX.out]; exact hx1) hyb (by rw [hV, HX.out, HYB.out]) u (HCA.out u (HQ.out.trans (q.mono HQ.out.size))).2.2.1)
            obtain ⟨V, hV⟩ : ∃ V, V = tx (asOneT N room.data.toList z k1 x yb) := ⟨_, rfl⟩
            have RA2 := Lib.hid (RA1.out V hV)
            have HV := Lib.hid hV
            obtain ⟨kh, hkh⟩ : ∃ kh, kh = k1 / 2 := ⟨_, rfl⟩
            have hsh : (k1 : Int) / 2 = (kh : Int) := by rw [hkh]; rfl
            have HKH := Lib.hid hkh
            clear hV hkh
            go_upto_region 10 with (fail)
            obtain ⟨c0, c1, -⟩ := HCA.out _ (HQ.out.drew)
            obtain ⟨a0, a1⟩ := HAT.out _ (HQ.out.drew)
            have HS := Lib.hid (show Beside na w.heap.size wz.heap.size (k1 : Int) X (N : Int) h wq.drew from ⟨a0, a1, c0, c1, Nat.lt_of_lt_of_le HAL.out HQ.out.size, Nat.lt_of_lt_of_le HL0.out (Nat.le_trans HA.out.size HQ.out.size)⟩)
            clear a0 a1 c0 c1
            go_region_held_law (fun w' => w'.cell? ⟨na, 0, none⟩ = some (.int .i64 (k1 : Int)) ∧ w'.cell? ⟨na, 1, none⟩ = some (.string X) ∧ w'.cell? ⟨w.heap.size, 0, none⟩ = some (.int .i64 (N : Int)) ∧ w'.cell? ⟨w.heap.size, 1, none⟩ = some (.int .i64 h) ∧ Beside na w.heap.size wz.heap.size (k1 : Int) X (N : Int) h w')
              (first | exact HS.out.all | assumption | exact (Beside.next (by assumption) (by assumption)).all | exact (Beside.next (by assumption) ((Below.refl _ _).alloc (Nat.le_refl _) _)).all | exact (Beside.grown (by assumption) (by assumption) (fun j hj => HAN.out j hj) HL0.out).all)
              (first
              | (refine step_call rfl 27 Tryd.call27 #[.tmp 65, .tmp 66, .tmp 67, .tmp 68, .tmp 69] #[23, 9, 3, 57, 9] rfl #[.agg #[.int .i64 (N : Int), .int .i64 h], .string room, .int .i64 (z : Int), .agg #[.int .i64 (k1 : Int), .string X], .string YB] (by first | (simp [Act.eval]; done) | simp [Act.eval, Act.put]) _ _ (RA2.out _ ((Below.refl _ _).drew)) ?_; intro w6 hb6)
              | (refine Spots.step_append_text (by rfl) _ _ (by rfl) w6 kh V wz.heap.size acc.length _ acc (by rfl) (by rfl) (Strs.own_below HOA.out (HQ.out.drew.trans (hb6.mono HQ.out.size))) (by omega) (Nat.le_trans HA.out.size (Nat.le_trans HQ.out.size hb6.size)) ?_; intro v' w8 hown8 hgrow8))
            have hz6 : Below wz.heap.size wz w6 := HA.out.trans ((HQ.out.drew.trans (hb6.mono HQ.out.size)).mono HA.out.size)
            have HW8 := Lib.hid ((hz6.alloc hz6.size (.cells #[.int .i64 (kh : Int), .string V] 57)).grown hgrow8 (Nat.le_trans hz6.size (by simp)) (fun j hj => (HOA.out.lt j hj).1))
            have HO8 := Lib.hid hown8
            have hcl8 : climbed N room.data.toList z hd pr.data.toList = (climbed N room.data.toList z (hd.drop kk) pp.data.toList).map (fun r => ((acc ++ [(kh, V.data.toList)]) ++ r.1, r.2)) := by
              rw [HCL.out, HSTEP.out, Option.map_map, HKH.out, HV.out]
              congr 1
              funext r
              simp [Function.comp]
            have HCL8 := Lib.hid hcl8
            have HLN := Lib.hid (show (acc ++ [(kh, V.data.toList)]).length = acc.length + 1 from by simp)
            clear hz6 hown8 hgrow8 hb6 hsh hcl8
            go_wp2
            go_roundw
            case rel => exact ⟨_, _, _, _, _, _, ⟨kk, mm, HK.out.1, cc', HK.out.2.1, ao', rfl, HAO.out, pp, rfl, acc ++ [(kh, V.data.toList)], by rw [HLN.out]; exact HK.out.2.2.2, HCL8.out, by rw [HLN.out]; exact HO8.out, HW8.out⟩, rfl, rfl, rfl, rfl, rfl, rfl⟩
            case measure => exact HK.out.2.2.1
          · have g4 : decide ((N : Int) ≤ (p.size : Int)) = false := by simp; omega
            have g5 : decide (N ≤ p.size) = false := by simp; omega
            have hnone : RES = none := by
              have hpl : p.data.toList.length = p.size := rfl
              rw [HRES.out, HCL.out, HST.out, if_pos (by omega)]
              rfl
            clear hle
            go_wp2
            refine bodyPost_ret (v := .tuple #[.slice none 0 0, .string ⟨#[]⟩, .bool false]) (by simp [results, Tryd.results37, go_sem]) rfl ⟨HB0.out.trans ((HA.out.trans (HQ0.out.mono HA.out.size)).mono (Nat.le_of_lt HL0.out)), rfl⟩
      · have hm0 : m1 = 0 := by omega
        have hstep : climbed N room.data.toList z (hd.drop k) p.data.toList = if p.data.toList.length < N then none else (climbed N room.data.toList z (hd.drop (k + 1)) (p.data.toList.drop N)).map (fun r => ((k1 / 2, asOneT N room.data.toList z k1 x (p.data.toList.take N)) :: r.1, r.2)) := by
          have e : hd.drop (k + 1) = [] := List.drop_eq_nil_of_le (by have := HM1.out; have := HNN.out; omega)
          rw [HDR.out, e, climbed]
          rfl
        have HST := Lib.hid hstep
        have HAO0 := Lib.hid (show 0 < m1 → ao1 = some ⟨g, o + 2 * (k + 1), none⟩ from fun h => absurd h hm10)
        have g1 : decide ((0 : Int) < (m1 : Int)) = false := by simp; omega
        have g2 : decide (0 < m1) = false := by simp; omega
        clear hstep hao1 hm10 hm0
        go_quiet (fail)
        have HQ0 := Lib.hid (belowN (Below.refl wa.heap.size wa) nq)
        generalize wa.drewN nq = wq0 at *
        clear a0 a1 g1 g2 hxo
        obtain ⟨c0, c1, -⟩ := HCA.out _ HQ0.out
        by_cases hle : N ≤ p.size
        · have g4 : decide ((N : Int) ≤ (p.size : Int)) = true := by simp; omega
          have g5 : decide (N ≤ p.size) = true := by simp; omega
          obtain ⟨YB, hYB⟩ : ∃ YB, p.extract 0 N = YB := ⟨_, rfl⟩
          obtain ⟨pp, hpp⟩ : ∃ pp, p.extract N p.size = pp := ⟨_, rfl⟩
          obtain ⟨yb, hyb0⟩ : ∃ yb, yb = p.data.toList.take N := ⟨_, rfl⟩
          have HYB := Lib.hid (show YB = tx yb from by rw [← hYB, hyb0]; exact cut_head p N)
          have hyb : YB.size ≤ 1000000 := by
            have e1 : YB.size = yb.length := by rw [HYB.out]; rfl
            rw [e1, hyb0, List.length_take]
            omega
          obtain ⟨kk, hkk⟩ : ∃ kk, kk = k + 1 := ⟨_, rfl⟩
          obtain ⟨mm, hmm⟩ : ∃ mm, mm = m1 := ⟨_, rfl⟩
          obtain ⟨cc', hcc'⟩ : ∃ cc', cc' = cc1 := ⟨_, rfl⟩
          obtain ⟨ao', hao'⟩ : ∃ ao', ao' = ao1 := ⟨_, rfl⟩
          have HSTEP := Lib.hid (show climbed N room.data.toList z (hd.drop k) p.data.toList = (climbed N room.data.toList z (hd.drop kk) pp.data.toList).map (fun r => ((k1 / 2, asOneT N room.data.toList z k1 x yb) :: r.1, r.2)) from by
            have hpl : p.data.toList.length = p.size := rfl
            rw [HST.out, if_neg (by omega), hkk, hyb0, ← hpp, cut_drop p N hle])
          have HAO := Lib.hid (show 0 < mm → ao' = some ⟨g, o + 2 * kk, none⟩ from by rw [hmm, hkk, hao']; exact HAO0.out)
          have HK := Lib.hid (show kk + mm = n ∧ kk + cc' = c ∧ mm < m ∧ acc.length + 1 ≤ kk from by have := HM1.out; have := HCC1.out; omega)
          have hN1 : (N : Int) ≤ p.size := by omega
          have hN3 : (N : Int).toNat = N := by omega
          have hN4 : (0 : Int) ≤ (N : Int) := by omega
          have hN5 : (N : Int) ≤ 32 := by omega
          clear hyb0
          go_upto_region 9 with (fail)
          go_quiet (fail)
          have HQ := Lib.hid (HQ0.out.trans ((belowN (Below.refl wq0.heap.size wq0) nq).mono HQ0.out.size))
          generalize wq0.drewN nq = wq at *
          rw [← hmm, ← hcc', ← hao']
          clear hYB hpp hN1 hN3 hN4 hN5 hle g4 g5 c0 c1 hkk hmm hcc' hao'
          have RA1 := Lib.hid (fun (V : ByteArray) (hV : V = tx (asOneT N room.data.toList z k1 x yb)) (u : World) (q : Below wq.heap.size wq u) => RA.out k1 hk1 X YB V (by rw [HX.out]; exact hx1) hyb (by rw [hV, HX.out, HYB.out]) u (HCA.out u (HQ.out.trans (q.mono HQ.out.size))).2.2.1)
          obtain ⟨V, hV⟩ : ∃ V, V = tx (asOneT N room.data.toList z k1 x yb) := ⟨_, rfl⟩
          have RA2 := Lib.hid (RA1.out V hV)
          have HV := Lib.hid hV
          obtain ⟨kh, hkh⟩ : ∃ kh, kh = k1 / 2 := ⟨_, rfl⟩
          have hsh : (k1 : Int) / 2 = (kh : Int) := by rw [hkh]; rfl
          have HKH := Lib.hid hkh
          clear hV hkh
          go_upto_region 10 with (fail)
          obtain ⟨c0, c1, -⟩ := HCA.out _ (HQ.out.drew)
          obtain ⟨a0, a1⟩ := HAT.out _ (HQ.out.drew)
          have HS := Lib.hid (show Beside na w.heap.size wz.heap.size (k1 : Int) X (N : Int) h wq.drew from ⟨a0, a1, c0, c1, Nat.lt_of_lt_of_le HAL.out HQ.out.size, Nat.lt_of_lt_of_le HL0.out (Nat.le_trans HA.out.size HQ.out.size)⟩)
          clear a0 a1 c0 c1
          go_region_held_law (fun w' => w'.cell? ⟨na, 0, none⟩ = some (.int .i64 (k1 : Int)) ∧ w'.cell? ⟨na, 1, none⟩ = some (.string X) ∧ w'.cell? ⟨w.heap.size, 0, none⟩ = some (.int .i64 (N : Int)) ∧ w'.cell? ⟨w.heap.size, 1, none⟩ = some (.int .i64 h) ∧ Beside na w.heap.size wz.heap.size (k1 : Int) X (N : Int) h w')
            (first | exact HS.out.all | assumption | exact (Beside.next (by assumption) (by assumption)).all | exact (Beside.next (by assumption) ((Below.refl _ _).alloc (Nat.le_refl _) _)).all | exact (Beside.grown (by assumption) (by assumption) (fun j hj => HAN.out j hj) HL0.out).all)
            (first
            | (refine step_call rfl 27 Tryd.call27 #[.tmp 65, .tmp 66, .tmp 67, .tmp 68, .tmp 69] #[23, 9, 3, 57, 9] rfl #[.agg #[.int .i64 (N : Int), .int .i64 h], .string room, .int .i64 (z : Int), .agg #[.int .i64 (k1 : Int), .string X], .string YB] (by first | (simp [Act.eval]; done) | simp [Act.eval, Act.put]) _ _ (RA2.out _ ((Below.refl _ _).drew)) ?_; intro w6 hb6)
            | (refine Spots.step_append_text (by rfl) _ _ (by rfl) w6 kh V wz.heap.size acc.length _ acc (by rfl) (by rfl) (Strs.own_below HOA.out (HQ.out.drew.trans (hb6.mono HQ.out.size))) (by omega) (Nat.le_trans HA.out.size (Nat.le_trans HQ.out.size hb6.size)) ?_; intro v' w8 hown8 hgrow8))
          have hz6 : Below wz.heap.size wz w6 := HA.out.trans ((HQ.out.drew.trans (hb6.mono HQ.out.size)).mono HA.out.size)
          have HW8 := Lib.hid ((hz6.alloc hz6.size (.cells #[.int .i64 (kh : Int), .string V] 57)).grown hgrow8 (Nat.le_trans hz6.size (by simp)) (fun j hj => (HOA.out.lt j hj).1))
          have HO8 := Lib.hid hown8
          have hcl8 : climbed N room.data.toList z hd pr.data.toList = (climbed N room.data.toList z (hd.drop kk) pp.data.toList).map (fun r => ((acc ++ [(kh, V.data.toList)]) ++ r.1, r.2)) := by
            rw [HCL.out, HSTEP.out, Option.map_map, HKH.out, HV.out]
            congr 1
            funext r
            simp [Function.comp]
          have HCL8 := Lib.hid hcl8
          have HLN := Lib.hid (show (acc ++ [(kh, V.data.toList)]).length = acc.length + 1 from by simp)
          clear hz6 hown8 hgrow8 hb6 hsh hcl8
          go_wp2
          go_roundw
          case rel => exact ⟨_, _, _, _, _, _, ⟨kk, mm, HK.out.1, cc', HK.out.2.1, ao', rfl, HAO.out, pp, rfl, acc ++ [(kh, V.data.toList)], by rw [HLN.out]; exact HK.out.2.2.2, HCL8.out, by rw [HLN.out]; exact HO8.out, HW8.out⟩, rfl, rfl, rfl, rfl, rfl, rfl⟩
          case measure => exact HK.out.2.2.1
        · have g4 : decide ((N : Int) ≤ (p.size : Int)) = false := by simp; omega
          have g5 : decide (N ≤ p.size) = false := by simp; omega
          have hnone : RES = none := by
            have hpl : p.data.toList.length = p.size := rfl
            rw [HRES.out, HCL.out, HST.out, if_pos (by omega)]
            rfl
          clear hle
          go_wp2
          refine bodyPost_ret (v := .tuple #[.slice none 0 0, .string ⟨#[]⟩, .bool false]) (by simp [results, Tryd.results37, go_sem]) rfl ⟨HB0.out.trans ((HA.out.trans (HQ0.out.mono HA.out.size)).mono (Nat.le_of_lt HL0.out)), rfl⟩
    · obtain rfl : m = 0 := by omega
      have hdr : hd.drop k = [] := List.drop_eq_nil_of_le (by have := HNN.out; omega)
      have hres : RES = some (acc, p.data.toList) := by
        rw [HRES.out, HCL.out, hdr, climbed]
        simp
      have HF := Lib.hid hres
      clear hres hdr
      go_wp2
      refine bodyPost_ret (v := .tuple #[_, .string p, .bool true]) (by simp [results, Tryd.results37, go_sem]; rfl) rfl ⟨HB0.out.trans (HW.out.mono (Nat.le_of_lt HL0.out)), ?_⟩
      rw [HF.out]
      exact ⟨_, rfl, Strs.own_mono HOWN.out (Nat.le_of_lt HL0.out)⟩
end Go.Proofs.YtncafbejgidliaaDoor.Grv

namespace Go.Proofs.YtncafbejgidliaaDoor.Grv
open Go.RowKit Mur Sha Chn
set_option maxRecDepth 100000

/-- A slice of texts, as it is read. -/
def StrsR (w : World) (a : Option Addr) (l : List ByteArray) : Prop := l.length ≠ 0 → ∃ b o, a = some ⟨b, o, none⟩ ∧ b < w.heap.size ∧ ∀ i x, l[i]? = some x → w.cell? ⟨b, o + i, none⟩ = some (.string x)
theorem StrsR.below {w w' : World} {a : Option Addr} {l : List ByteArray} (h : StrsR w a l) (k : Below w.heap.size w w') : StrsR w' a l := fun hl => by
  obtain ⟨b, o, ha, hb, hc⟩ := h hl
  exact ⟨b, o, ha, Nat.lt_of_lt_of_le hb k.size, fun i x hx => (k.cell (p := ⟨b, o + i, none⟩) hb).trans (hc i x hx)⟩

/-- What climbed leaves at hand is small, and no more than was there. -/
theorem climbed_small (N : Nat) (room : List UInt8) (z : Nat) (hN : N ≤ 32) (hd : Hand) (p : List UInt8) : ∀ r, climbed N room z hd p = some r → (∀ q ∈ hd, q.1 ≤ 1000000) → (∀ q ∈ r.1, q.1 ≤ 1000000 ∧ q.2.length ≤ 1000000) ∧ r.1.length ≤ hd.length ∧ (hd.length ≠ 0 → r.1.length ≠ 0) := by
  fun_induction climbed N room z hd p with
  | case1 p => rintro r h -; cases h; simp
  | case2 n x p hlt => rintro r h -; cases h
  | case3 n x p hlt =>
    rintro r h hb
    cases h
    have := hb (n, x) (by simp)
    refine ⟨fun q hq => ?_, by simp, by simp⟩
    simp only [List.mem_singleton] at hq
    subst hq
    have h2 := asOneT_length N room z n x (p.take N) hN
    simp only at this ⊢
    omega
  | case4 n x y l p ih =>
    rintro r h hb
    cases hc : climbed N room z l p with
    | none => rw [hc] at h; cases h
    | some r' =>
      rw [hc] at h
      cases h
      obtain ⟨h1, h2, -⟩ := ih r' hc (fun q hq => hb q (by simp [hq]))
      have := hb (n, x) (by simp)
      refine ⟨fun q hq => ?_, by simp; omega, by simp⟩
      rcases List.mem_cons.1 hq with rfl | hq
      · have h3 := asOneT_length N room z n x y hN
        simp only at this ⊢
        omega
      · exact h1 q hq
  | case5 n x m y l p hne hlt => rintro r h -; cases h
  | case6 n x m y l p hne hlt ih =>
    rintro r h hb
    cases hc : climbed N room z ((m, y) :: l) (p.drop N) with
    | none => rw [hc] at h; cases h
    | some r' =>
      rw [hc] at h
      cases h
      obtain ⟨h1, h2, -⟩ := ih r' hc (fun q hq => hb q (List.mem_cons_of_mem _ hq))
      have := hb (n, x) (by simp)
      refine ⟨fun q hq => ?_, by simp at h2 ⊢; omega, by simp⟩
      rcases List.mem_cons.1 hq with rfl | hq
      · have h3 := asOneT_length N room z n x (p.take N) hN
        simp only at this ⊢
        omega
      · exact h1 q hq
/-- Numbers and texts, as they are at hand. -/
def handUp (l : List Nat) (ns : List ByteArray) : Hand := l.zip (ns.map fun s => s.data.toList)
theorem handUp_length (l : List Nat) (ns : List ByteArray) (h : ns.length = l.length) : (handUp l ns).length = l.length := by simp [handUp, h]
theorem handUp_at (l : List Nat) (ns : List ByteArray) (i : Nat) (h1 : i < l.length) (h2 : i < ns.length) : (handUp l ns)[i]? = some (l[i], ns[i].data.toList) := by
  unfold handUp
  rw [List.getElem?_zip_eq_some]
  simp [h1, h2]

set_option maxHeartbeats 3200000 in
theorem many_no (n h : Int) (room pr : ByteArray) (zs : List Int) (m k : Nat) (a a2 : Option Addr) (cap cap2 : Nat) (w : World) (hr : IntsR w a zs) (hm : zs.length = m) (hm2 : m ≤ 1000000) (hno : ¬ (Right n h ∧ okL (2 ^ h.toNat) zs = true ∧ k = m)) :
    Calls Tryd.prog 17 #[.agg #[.int .i64 n, .int .i64 h], .string room, .slice a m cap, .slice a2 k cap2, .string pr] w fun e w' => e = .returned (.string ⟨#[]⟩) ∧ Below w.heap.size w w' := by
  have hB0 := (Below.refl w.heap.size w).alloc (Nat.le_refl _) (.cells #[.int .i64 n, .int .i64 h] 23)
  have hc0 : (w.alloc (.cells #[.int .i64 n, .int .i64 h] 23)).cell? ⟨w.heap.size, 0, none⟩ = some (.int .i64 n) := by simp
  have hc1 : (w.alloc (.cells #[.int .i64 n, .int .i64 h] 23)).cell? ⟨w.heap.size, 1, none⟩ = some (.int .i64 h) := by simp
  have hl0 : w.heap.size < (w.alloc (.cells #[.int .i64 n, .int .i64 h] 23)).heap.size := by simp
  go_enter Tryd.func17, Tryd.ntmps17
  go_upto_region 1 with (fail)
  generalize w.alloc (.cells #[.int .i64 n, .int .i64 h] 23) = wz at *
  have HC := Lib.hid (fun (u : World) (q : Below wz.heap.size wz u) => (⟨(q.cell (p := ⟨w.heap.size, 0, none⟩) hl0).trans hc0, (q.cell (p := ⟨w.heap.size, 1, none⟩) hl0).trans hc1⟩ :
    u.cell? ⟨w.heap.size, 0, none⟩ = some (.int .i64 n) ∧ u.cell? ⟨w.heap.size, 1, none⟩ = some (.int .i64 h)))
  have HB0 := Lib.hid hB0
  have HL0 := Lib.hid hl0
  by_cases hri : Right n h
  · have R1 := Lib.hid (fun u => right_yes n h hri u)
    cases hok : okL (2 ^ h.toNat) zs with
    | true =>
      have hkm : k ≠ m := fun e => hno ⟨hri, hok, e⟩
      have hne1 : ((k : Int) != (m : Int)) = true := by simp; omega
      have R2 := Lib.hid (fun (u : World) (q : Below wz.heap.size wz u) => show Calls Tryd.prog 34 #[.slice a m cap, .int .i64 h] u fun e w' => e = .returned (.bool true) ∧ Below u.heap.size u w' from by
        have g := rising_any zs m a cap h.toNat true u (hr.below (hB0.trans (q.mono (Nat.le_of_lt hl0)))) hm hm2 (by have := hri.2.2.2; omega) hok.symm
        rw [show ((h.toNat : Nat) : Int) = h by have := hri.2.2.1; omega] at g
        exact g)
      clear hri hB0 hl0 hr hm hm2 hno hok hkm
      go_wp2_with fail
      refine (R1.out _).mono ?_
      rintro e w1 ⟨rfl, hb1⟩
      have HW1 := Lib.hid hb1
      clear hb1 hc0 hc1
      obtain ⟨c0, c1⟩ := HC.out _ HW1.out
      go_wp2_with fail
      refine (R2.out _ HW1.out).mono ?_
      rintro e w2 ⟨rfl, hb2⟩
      have HW2 := Lib.hid (HW1.out.trans (hb2.mono HW1.out.size))
      clear hb2
      go_wp2
      go_ret
      exact ⟨rfl, HB0.out.trans (HW2.out.mono (Nat.le_of_lt HL0.out))⟩
    | false =>
      have R2 := Lib.hid (fun (u : World) (q : Below wz.heap.size wz u) => show Calls Tryd.prog 34 #[.slice a m cap, .int .i64 h] u fun e w' => e = .returned (.bool false) ∧ Below u.heap.size u w' from by
        have g := rising_any zs m a cap h.toNat false u (hr.below (hB0.trans (q.mono (Nat.le_of_lt hl0)))) hm hm2 (by have := hri.2.2.2; omega) hok.symm
        rw [show ((h.toNat : Nat) : Int) = h by have := hri.2.2.1; omega] at g
        exact g)
      clear hri hB0 hl0 hr hm hm2 hno hok
      go_wp2_with fail
      refine (R1.out _).mono ?_
      rintro e w1 ⟨rfl, hb1⟩
      have HW1 := Lib.hid hb1
      clear hb1 hc0 hc1
      obtain ⟨c0, c1⟩ := HC.out _ HW1.out
      go_wp2_with fail
      refine (R2.out _ HW1.out).mono ?_
      rintro e w2 ⟨rfl, hb2⟩
      have HW2 := Lib.hid (HW1.out.trans (hb2.mono HW1.out.size))
      clear hb2
      go_wp2
      go_ret
      exact ⟨rfl, HB0.out.trans (HW2.out.mono (Nat.le_of_lt HL0.out))⟩
  · have R1 := Lib.hid (fun u => right_no n h hri u)
    clear hri hB0 hl0 hr hm hm2 hno
    go_wp2_with fail
    refine (R1.out _).mono ?_
    rintro e w1 ⟨rfl, hb1⟩
    have HW1 := Lib.hid hb1
    clear hb1
    go_wp2
    go_ret
    exact ⟨rfl, HB0.out.trans (HW1.out.mono (Nat.le_of_lt HL0.out))⟩

set_option maxHeartbeats 6400000 in
theorem many_any (N H : Nat) (room pr V : ByteArray) (l : List Nat) (ns : List ByteArray) (m : Nat) (a a2 : Option Addr) (cap cap2 : Nat) (w : World) (hri : Right (N : Int) (H : Int)) (hr : IntsR w a (zl l)) (hr2 : StrsR w a2 ns) (hm : l.length = m) (hm2 : m ≤ 1000000) (hns : ns.length = m) (h0 : 0 < m) (hu : Up l) (hlt : ∀ x ∈ l, x < 2 ^ H)
    (hsz : ∀ s ∈ ns, s.size ≤ 1000000) (hs : room.size ≤ 34359738368) (hV : V = tx (many N room.data.toList H 0 (handUp l ns) pr.data.toList)) (hk : Consts w) :
    Calls Tryd.prog 17 #[.agg #[.int .i64 (N : Int), .int .i64 (H : Int)], .string room, .slice a m cap, .slice a2 m cap2, .string pr] w fun e w' => e = .returned (.string V) ∧ Below w.heap.size w w' := by
  have hN : N ≤ 32 := by have := hri.2.1; omega
  have hN2 : 2 ≤ N := by have := hri.1; omega
  have hH : H ≤ 8 := by have := hri.2.2.2; omega
  have hl8 := pow_256 H hH
  have hB0 := (Below.refl w.heap.size w).alloc (Nat.le_refl _) (.cells #[.int .i64 (N : Int), .int .i64 (H : Int)] 23)
  have R1 := Lib.hid (fun u => right_yes N H hri u)
  have R2 := Lib.hid (fun (u : World) (q : Below w.heap.size w u) => show Calls Tryd.prog 34 #[.slice a m cap, .int .i64 (H : Int)] u fun e w' => e = .returned (.bool true) ∧ Below u.heap.size u w' from
    rising_any (zl l) m a cap H true u (hr.below q) (by rw [zl_length, hm]) hm2 (by omega) (by
      rw [okL, okI_zl _ l 0 hu (fun n hn => by
        have h1 : ((n : Nat) : Int) < ((2 ^ H : Nat) : Int) := Int.ofNat_lt.2 (hlt n hn)
        rw [Int.natCast_pow] at h1
        exact h1) (fun n _ => by omega), zl_length, hm, decide_eq_true h0]
      rfl))
  have hne1 : ((m : Int) != (m : Int)) = false := by simp
  have RC := Lib.hid (fun (z : Nat) (hz : z ≤ 100) (pr : ByteArray) (hd : Hand) (g c n : Nat) (u : World) (hn : hd.length = n) (hnc : n ≤ c) (hn2 : n ≤ 1000000) (hb : ∀ p ∈ hd, p.1 ≤ 1000000 ∧ p.2.length ≤ 1000000) (RES : Option (Hand × List UInt8)) (hRES : RES = climbed N room.data.toList z hd pr.data.toList)
      (hg : g < u.heap.size) (hc : ∀ i p, hd[i]? = some p → u.cell? ⟨g, 2 * i, none⟩ = some (.int .i64 (p.1 : Int)) ∧ u.cell? ⟨g, 2 * i + 1, none⟩ = some (.string (tx p.2))) (hu : Consts u) =>
    climbed_any N z n H room pr hd g 0 c u ⟨hN2, hN⟩ hz hn hnc hn2 hb hs RES hRES hg (fun i p hp => by rw [Nat.zero_add, Nat.zero_add]; exact hc i p hp) hu)
  obtain ⟨hd, hhd⟩ : ∃ hd, hd = handUp l ns := ⟨_, rfl⟩
  have hdl : hd.length = m := by rw [hhd, handUp_length l ns (by omega), hm]
  have HDA := Lib.hid (show ∀ i (h1 : i < l.length) (h2 : i < ns.length), hd[i]? = some (l[i], ns[i].data.toList) from fun i h1 h2 => by rw [hhd]; exact handUp_at l ns i h1 h2)
  have hdb : ∀ q ∈ hd, q.1 ≤ 1000000 ∧ q.2.length ≤ 1000000 := fun q hq => by
    rw [hhd] at hq
    obtain ⟨h1, h2⟩ := List.of_mem_zip hq
    refine ⟨by have := hlt _ h1; omega, ?_⟩
    obtain ⟨s, hs1, hs2⟩ := List.mem_map.1 h2
    rw [← hs2]
    exact hsz s hs1
  have HDB := Lib.hid hdb
  have HV := Lib.hid (show V = tx (many N room.data.toList H 0 hd pr.data.toList) from by rw [hV, hhd])
  have HR := Lib.hid hr
  have HR2 := Lib.hid hr2
  have HM := Lib.hid hm
  have HNS := Lib.hid hns
  have HDL := Lib.hid hdl
  have HLB := Lib.hid (show ∀ x ∈ l, x ≤ 256 from fun x hx => by have := hlt x hx; omega)
  clear hdb hV hri hr hr2 hm hns hu hlt hsz hs hhd hl8 hdl
  have hmk := fun u => Spots.make_room u m (m : Int) rfl (by omega)
  have hc0 : (w.alloc (.cells #[.int .i64 (N : Int), .int .i64 (H : Int)] 23)).cell? ⟨w.heap.size, 0, none⟩ = some (.int .i64 (N : Int)) := by simp
  have hc1 : (w.alloc (.cells #[.int .i64 (N : Int), .int .i64 (H : Int)] 23)).cell? ⟨w.heap.size, 1, none⟩ = some (.int .i64 (H : Int)) := by simp
  have hl0 : w.heap.size < (w.alloc (.cells #[.int .i64 (N : Int), .int .i64 (H : Int)] 23)).heap.size := by simp
  go_enter Tryd.func17, Tryd.ntmps17
  go_upto_region 1 with (fail)
  generalize w.alloc (.cells #[.int .i64 (N : Int), .int .i64 (H : Int)] 23) = wz at *
  have HC := Lib.hid (fun (u : World) (q : Below wz.heap.size wz u) => (⟨(q.cell (p := ⟨w.heap.size, 0, none⟩) hl0).trans hc0, (q.cell (p := ⟨w.heap.size, 1, none⟩) hl0).trans hc1, hk.below hk.1 (hB0.trans (q.mono hB0.size))⟩ : u.cell? ⟨w.heap.size, 0, none⟩ = some (.int .i64 (N : Int)) ∧ u.cell? ⟨w.heap.size, 1, none⟩ = some (.int .i64 (H : Int)) ∧ Consts u))
  have HB0 := Lib.hid hB0
  have HMK := Lib.hid hmk
  clear hB0 hl0 hk hmk
  go_wp2_with fail
  refine (R1.out _).mono ?_
  rintro e w1 ⟨rfl, hb1⟩
  have HY1 := Lib.hid hb1
  clear hb1 hc0 hc1
  obtain ⟨c0, c1, -⟩ := HC.out _ HY1.out
  go_wp2_with fail
  refine (R2.out _ (HB0.out.trans (HY1.out.mono HB0.out.size))).mono ?_
  rintro e w2 ⟨rfl, hb2⟩
  have HB1 := Lib.hid (HY1.out.trans (hb2.mono HY1.out.size))
  clear hb2 c0 c1 HY1
  have hmk := HMK.out
  go_upto_region 4 with (fail)
  clear hmk hne1 HMK
  have hown0 := World.ownsRow_made (base := w2.heap.size) (e := 57) (size := 2) w2 (madeCells #[.int .i64 0, .string ⟨#[]⟩] (m * 2)) m (Nat.le_refl _) (by unfold maxLen; omega) (by simp [madeCells])
  have HW0 := Lib.hid ((Below.refl w2.heap.size w2).alloc (Nat.le_refl _) (.cells (madeCells #[.int .i64 0, .string ⟨#[]⟩] (m * 2)) 57))
  have HOWN0 := Lib.hid hown0
  clear hown0
  generalize w2.alloc (.cells (madeCells #[.int .i64 0, .string ⟨#[]⟩] (m * 2)) 57) = w3 at *
  go_wp2_with fail
  go_loopw [11, 12, 13, 40] (fun v _ _ i wr => ∃ k : Nat, k ≤ m ∧ i = .int .i64 k ∧ wr.ownsRow w2.heap.size 57 2 v k (Spots.spotsV (hd.take k)) ∧ Below w2.heap.size w2 wr) (fun _ _ _ i _ => m - (intOf i).toNat)
  case atStart => exact ⟨0, by omega, rfl, HOWN0.out, HW0.out⟩
  case round =>
    clear HOWN0 HW0
    obtain ⟨k, hk, rfl, hown, hbel⟩ := hrel
    have HOWN := Lib.hid hown
    have HW := Lib.hid hbel
    clear hown hbel
    by_cases hltk : k < m
    · have hkl : k < l.length := by rw [HM.out]; exact hltk
      have hkn : k < ns.length := by rw [HNS.out]; exact hltk
      obtain ⟨b, o, rfl, hb, hc⟩ := HR.out (by rw [zl_length]; omega)
      obtain ⟨b2, o2, rfl, hb2, hc2⟩ := HR2.out (by omega)
      obtain ⟨x, hx⟩ : ∃ x, x = l[k] := ⟨_, rfl⟩
      obtain ⟨Y, hY⟩ : ∃ Y, Y = ns[k] := ⟨_, rfl⟩
      have hbel := HB0.out.trans ((HB1.out.trans (HW.out.mono HB1.out.size)).mono HB0.out.size)
      have hcc := (hbel.cell (p := ⟨b, o + k, none⟩) hb).trans (hc k (x : Int) (zl_at (by rw [hx]; exact List.getElem?_eq_getElem hkl)))
      have hcc2 := (hbel.cell (p := ⟨b2, o2 + k, none⟩) hb2).trans (hc2 k Y (by rw [hY]; exact List.getElem?_eq_getElem hkn))
      have hstep : hd.take (k + 1) = hd.take k ++ [(x, Y.data.toList)] := by
        have hh := HDA.out k hkl hkn
        have hkd : k < hd.length := by rw [HDL.out]; exact hltk
        rw [List.take_succ_eq_append_getElem hkd]
        rw [List.getElem?_eq_getElem hkd] at hh
        rw [Option.some.inj hh, hx, hY]
      have HS := Lib.hid hstep
      clear hstep hx hY hc hc2 hkl hkn hbel
      go_wp2_with (at_builtin; refine Spots.append_spot rfl _ _ rfl w2.heap.size k _ (hd.take k) rfl (HOWN.out.alloc _) wr.heap.size 1 (x, Y.data.toList) rfl (Spots.spot_one _ _ _ _) (by omega) (Nat.le_trans HW.out.size (by simp)) ?_)
      intro v' w4 hown4 hgrow4
      have HW4 := Lib.hid ((HW.out.alloc HW.out.size (.cells #[.int .i64 (x : Int), .string Y] 57)).grown hgrow4 (Nat.le_trans HW.out.size (by simp)) (fun j hj => (HOWN.out.lt j hj).1))
      rw [← HS.out] at hown4
      have HOWN4 := Lib.hid hown4
      clear hown4 hgrow4 HOWN HW
      go_wp2
      go_roundw
      case rel => exact ⟨k + 1, by omega, by go_num, HOWN4.out, HW4.out⟩
      case measure => simp [intOf]; omega
    · obtain rfl : k = m := by omega
      have hown := HOWN.out
      rw [List.take_of_length_le (by rw [HDL.out]; exact Nat.le_refl _)] at hown
      have HOWN2 := Lib.hid hown
      clear hown HOWN
      obtain ⟨c0, c1, -⟩ := HC.out _ (HB1.out.trans (HW.out.mono HB1.out.size))
      go_wp2_with fail
      clear c0 c1
      go_loopw [4, 11, 14, 15, 16, 17, 57] (fun pv v _ _ _ _ i wr => ∃ (z n : Nat) (h : Hand) (p : ByteArray), z ≤ H ∧ i = .int .i64 z ∧ pv = .string p ∧ wr.ownsRow w2.heap.size 57 2 v n (Spots.spotsV h) ∧ h.length = n ∧ 0 < n ∧ n ≤ k ∧ (∀ q ∈ h, q.1 ≤ 1000000 ∧ q.2.length ≤ 1000000) ∧ V = tx (many N room.data.toList (H - z) z h p.data.toList) ∧ Below w2.heap.size w2 wr) (fun _ _ _ _ _ _ i _ => H - (intOf i).toNat)
      case atStart => exact ⟨0, k, hd, pr, by omega, rfl, rfl, HOWN2.out, HDL.out, h0, Nat.le_refl _, HDB.out, HV.out, HW.out⟩
      case round =>
        clear HOWN2 HW
        obtain ⟨z, n, hh, p, hz, rfl, rfl, hown, hhl, hn0, hnk, hhb, hres, hbel⟩ := hrel
        obtain ⟨g, c, rfl, hg, hnc, hgl, -, hcell⟩ := Spots.spots_row hown hn0
        have HW := Lib.hid hbel
        have HRES := Lib.hid hres
        have HHB := Lib.hid hhb
        have HHL := Lib.hid hhl
        have HCE := Lib.hid hcell
        have HGL := Lib.hid hgl
        clear hbel hres hhb hown hcell hg hgl
        by_cases hlt : z < H
        · obtain ⟨c0, c1, hk5⟩ := HC.out _ (HB1.out.trans (HW.out.mono HB1.out.size))
          have HK5 := Lib.hid hk5
          clear hk5
          cases hcl : climbed N room.data.toList z hh p.data.toList with
          | none =>
            have RC1 := Lib.hid (show Calls Tryd.prog 37 #[.agg #[.int .i64 (N : Int), .int .i64 (H : Int)], .string room, .int .i64 (z : Int), .slice (some ⟨g, 0, none⟩) n c, .string p] wr fun e w' => Below wr.heap.size wr w' ∧ e = .returned (.tuple #[.slice none 0 0, .string ⟨#[]⟩, .bool false]) from
              RC.out z (by omega) p hh g c n wr HHL.out hnc (by omega) HHB.out none hcl.symm HGL.out HCE.out HK5.out)
            have hVV : V = ⟨#[]⟩ := by
              rw [HRES.out, show H - z = (H - z - 1) + 1 by omega, many, hcl]
            clear hcl
            go_wp2_with fail
            refine RC1.out.mono ?_
            rintro e w5 ⟨hb5, rfl⟩
            have HB5 := Lib.hid (HB0.out.trans ((HB1.out.trans ((HW.out.trans (hb5.mono HW.out.size)).mono HB1.out.size)).mono HB0.out.size))
            clear hb5
            subst hVV
            go_wp2
            go_ret
            exact ⟨rfl, HB5.out⟩
          | some r =>
            have RC1 := Lib.hid (show Calls Tryd.prog 37 #[.agg #[.int .i64 (N : Int), .int .i64 (H : Int)], .string room, .int .i64 (z : Int), .slice (some ⟨g, 0, none⟩) n c, .string p] wr fun e w' => Below wr.heap.size wr w' ∧ ∃ v, e = .returned (.tuple #[v, .string (tx r.2), .bool true]) ∧ w'.ownsRow wr.heap.size 57 2 v r.1.length (Spots.spotsV r.1) from
              RC.out z (by omega) p hh g c n wr HHL.out hnc (by omega) HHB.out (some r) hcl.symm HGL.out HCE.out HK5.out)
            have hsm := climbed_small N room.data.toList z hN hh p.data.toList r hcl (fun q hq => (HHB.out q hq).1)
            have hVV : V = tx (many N room.data.toList (H - (z + 1)) (z + 1) r.1 r.2) := by
              rw [HRES.out, show H - z = (H - (z + 1)) + 1 by omega, many, hcl]
            obtain ⟨pp, hpp⟩ : ∃ pp, pp = tx r.2 := ⟨_, rfl⟩
            have hppl : r.2 = pp.data.toList := by rw [hpp]
            rw [hppl] at hVV
            rw [← hpp] at RC1
            have HVV := Lib.hid hVV
            have HSM := Lib.hid hsm
            clear hcl hVV hsm hpp hppl
            go_wp2_with fail
            refine RC1.out.mono ?_
            rintro e w5 ⟨hb5, v5, rfl, hown5⟩
            have HW5 := Lib.hid (HW.out.trans (hb5.mono HW.out.size))
            have HOWN5 := Lib.hid (Strs.own_mono hown5 HW.out.size)
            clear hb5 hown5 c0 c1
            go_wp2
            go_roundw
            case rel => exact ⟨z + 1, r.1.length, r.1, pp, by omega, by go_num, rfl, HOWN5.out, rfl, Nat.pos_of_ne_zero (HSM.out.2.2 (by rw [HHL.out]; omega)), Nat.le_trans HSM.out.2.1 (by rw [HHL.out]; exact hnk), HSM.out.1, HVV.out, HW5.out⟩
            case measure => simp [intOf]; omega
        · obtain rfl : z = H := by omega
          obtain ⟨q, tl, hq⟩ : ∃ q tl, hh = q :: tl := by
            cases hh with
            | nil => exact absurd HHL.out (by simp; omega)
            | cons q tl => exact ⟨q, tl, rfl⟩
          have hce := (HCE.out 0 q (by rw [hq]; rfl)).2
          rw [Nat.mul_zero, Nat.zero_add] at hce
          have hres := HRES.out
          rw [Nat.sub_self, many, hq] at hres
          by_cases hp : p = ⟨#[]⟩
          · subst hp
            have hVV : V = tx q.2 := by rw [hres]; rfl
            rw [← hVV] at hce
            clear hVV hres hq
            go_wp2
            go_ret
            exact ⟨rfl, HB0.out.trans ((HB1.out.trans (HW.out.mono HB1.out.size)).mono HB0.out.size)⟩
          · have hpl : ¬ p.data.toList = [] := fun e => hp (by
              apply ByteArray.ext
              apply Array.ext'
              exact e)
            have hVV : V = ⟨#[]⟩ := by rw [hres, if_neg hpl]
            subst hVV
            have g1 : p.toList.isEmpty = false := by
              rw [Go.ByteArray.toList_eq]
              cases hx : p.data.toList with
              | nil => exact absurd hx hpl
              | cons _ _ => rfl
            have g2 : (!p.toList.isEmpty) = true := by rw [g1]; rfl
            clear hres hq hp hpl
            go_wp2
            go_ret
            exact ⟨rfl, HB0.out.trans ((HB1.out.trans (HW.out.mono HB1.out.size)).mono HB0.out.size)⟩
end Go.Proofs.YtncafbejgidliaaDoor.Grv
