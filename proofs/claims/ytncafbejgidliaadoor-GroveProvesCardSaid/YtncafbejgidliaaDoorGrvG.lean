/-
  halves of package grove answers each number's half, once, in a row of its own, and leaves all memory that was there as it was. Conditions: the numbers rise, there are some, and no more than 1000.
-/
import Derived.Test.YtncafbejgidliaaDoorGrvF
import Derived.Shelf.Slices.Cells
import Derived.Shelf.Slices.Empties
import Derived.Test.YtncafbejgidliaaDoorShelf
namespace Go.Proofs.YtncafbejgidliaaDoor.Grv
open Go.RowKit Mur Sha Chn
set_option maxRecDepth 100000

theorem below_sets {B b : Nat} (hb : B ≤ b) : ∀ (vs : List Value) (o : Nat) (w0 w : World), Below B w0 w → Below B w0 (w.setCells b o vs)
  | [], _, _, _, h => h
  | v :: r, o, w0, _, h => below_sets hb r (o + 1) w0 _ (h.setCell (p := ⟨b, o, none⟩) hb v)
theorem size_sets (b : Nat) : ∀ (vs : List Value) (o : Nat) (w : World), (w.setCells b o vs).heap.size = w.heap.size
  | [], _, _ => rfl
  | v :: r, o, w => (size_sets b r (o + 1) (w.setCell ⟨b, o, none⟩ v)).trans (World.size_setCell _ _ _)
theorem sets_type (b : Nat) (t : TypeId) (fz : Nat × Nat) : ∀ (vs : List Value) (o : Nat) (w : World) (cur : Array Value), w.heap[b]? = some (.cells cur t fz) → ∃ cur', (w.setCells b o vs).heap[b]? = some (.cells cur' t fz)
  | [], _, _, cur, h => ⟨cur, h⟩
  | v :: r, o, w, cur, h => sets_type b t fz r (o + 1) (w.setCell ⟨b, o, none⟩ v) (cur.setIfInBounds o v) (by simp [World.setCell, Array.getElem?_modify, h])
theorem mem_halves (l : List Nat) : ∀ k, k ∈ l → k / 2 ∈ halves l := by
  fun_induction halves l with
  | case1 => intro k hk; cases hk
  | case2 n => intro k hk; simp at hk; simp [hk]
  | case3 n l ih =>
    intro k hk
    rcases List.mem_cons.1 hk with rfl | hk
    · simp
    · rcases List.mem_cons.1 hk with rfl | hk
      · rw [sib_half]; simp
      · exact List.mem_cons_of_mem _ (ih k hk)
  | case4 n m l hne ih =>
    intro k hk
    rcases List.mem_cons.1 hk with rfl | hk
    · simp
    · exact List.mem_cons_of_mem _ (ih k hk)
/-- The compacted halves of the first m. -/
theorem compact_halves (l : List Nat) (hu : Up l) (m : Nat) (hm : m ≤ l.length) : Lib.compactUpTo (zl (l.map (· / 2))).toArray m = zl (halves (l.take m)) := by
  induction m with
  | zero => rfl
  | succ m ih =>
    have hml : m < l.length := hm
    rw [Lib.compactUpTo_succ, ih (by omega), List.take_succ_eq_append_getElem hml, halves_snoc _ _ (by
      rw [← List.take_succ_eq_append_getElem hml]
      exact hu.sublist (List.take_sublist _ _))]
    have hsz : (zl (l.map (· / 2))).length = l.length := by simp [zl]
    have hd : ∀ j (hj : j < l.length), (zl (l.map (· / 2))).toArray[j]! = ((l[j] / 2 : Nat) : Int) := fun j hj => by
      rw [getElem!_pos _ j (by simpa [zl] using hj)]
      simp [zl]
    by_cases h : l[m] / 2 ∈ halves (l.take m)
    · rw [if_pos h]
      obtain ⟨k, hk, e⟩ := halves_of _ _ h
      obtain ⟨i, hi, rfl⟩ := List.getElem_of_mem hk
      have hi2 : i < m := by simpa using (Nat.lt_of_lt_of_le hi (by simp [Nat.min_le_left]))
      rw [List.getElem_take] at e
      have h1 : l[i] ≤ l[m - 1] := by
        rcases Nat.lt_or_ge i (m - 1) with hx | hx
        · exact Nat.le_of_lt (List.pairwise_iff_getElem.1 hu i (m - 1) (by omega) (by omega) hx)
        · have : i = m - 1 := by omega
          subst this
          exact Nat.le_refl _
      have h2 : l[m - 1] < l[m] := List.pairwise_iff_getElem.1 hu (m - 1) m (by omega) hml (by omega)
      have hk2 : Lib.keeps (zl (l.map (· / 2))).toArray m = false := Lib.keeps_neg (by omega) (by
        rw [hd m hml, hd (m - 1) (by omega)]
        omega)
      rw [hk2]
      simp
    · rw [if_neg h]
      have hk2 : Lib.keeps (zl (l.map (· / 2))).toArray m = true := by
        by_cases h0 : m = 0
        · subst h0
          exact Lib.keeps_lt_one _ 0 (by omega)
        · refine Lib.keeps_pos ?_
          rw [hd m hml, hd (m - 1) (by omega)]
          intro e
          refine h ?_
          have e2 : l[m] / 2 = l[m - 1] / 2 := by omega
          rw [e2]
          refine mem_halves _ _ ?_
          rw [List.mem_take_iff_getElem]
          exact ⟨m - 1, by omega, rfl⟩
      rw [hk2, if_pos rfl, hd m hml]
      simp [zl]
theorem compact_all (l : List Nat) (hu : Up l) : Lib.compact (zl (l.map (· / 2))) = zl (halves l) := by
  unfold Lib.compact
  have := compact_halves l hu l.length (Nat.le_refl _)
  rw [List.take_length] at this
  rw [← this, zl_length, List.length_map]

/-- A number in a block of its own. -/
theorem ints_one (W : World) (x : Nat) (t : TypeId) : ∀ j u, (Ints.intsV [x])[j]? = some u → (W.alloc (.cells #[.int .i64 (x : Int)] t)).cell? ⟨W.heap.size, j, none⟩ = some u := fun j u hu => by
  match j, hu with
  | 0, hu => cases hu; simp [World.cell?_alloc_new]
/-- slices.Compact of a row that a call has made. -/
theorem compact_any (l : List Nat) (n : Nat) (hu : Up l) (hl : l.length = n) (hn : n ≤ 1000000) (v : Value) (base : Nat) (w : World) (h0 : 0 < n) (hown : w.ownsRow base 3 1 v n (Ints.intsV (l.map (· / 2)))) :
    Calls Tryd.prog 52 #[v] w fun e w' => ∃ a c, e = .returned (.slice a (halves l).length c) ∧ IntsR w' a (zl (halves l)) ∧ Below base w w' ∧ w.heap.size ≤ w'.heap.size ∧ ∃ g cur fz, a = some ⟨g, 0, none⟩ ∧ base ≤ g ∧ w'.heap[g]? = some (.cells cur 3 fz) := by
  have hlen : (l.map (· / 2)).length = n := by simp [hl]
  rcases hown.2 with ⟨-, h⟩ | ⟨g, cap, cur, rfl, h1, h2, h3, h4, h5, h6⟩
  · omega
  have hg : g < w.heap.size := (Array.getElem?_eq_some_iff.1 h2).1
  have hcell : ∀ j, j < (zl (l.map (· / 2))).length → w.cell? ⟨g, 0 + j, none⟩ = some (.int .i64 ((zl (l.map (· / 2))).getD j 0)) := fun j hj => by
    have hj2 : j < l.length := by simpa [zl] using hj
    have := hown.cells (g := g) rfl j (.int .i64 ((l[j] / 2 : Nat) : Int)) (by simp [Ints.intsV, hj2])
    rw [Strs.add_zero] at this
    rw [Nat.zero_add, this]
    simp [zl, List.getD, hj2]
  have hfz : ∀ j, j < n → w.frozen? ⟨g, 0 + j, none⟩ = false := fun j _ => by simp [World.frozen?, h2]
  have hz : n ≤ (zl (l.map (· / 2))).length := by rw [zl_length, hlen]; exact Nat.le_refl _
  have htk : (zl (l.map (· / 2))).take n = zl (l.map (· / 2)) := List.take_of_length_le (by rw [zl_length, hlen]; exact Nat.le_refl _)
  have hC := Any.slices_Compact_int_cells Tryd.laysNm220 g 0 n cap (zl (l.map (· / 2))) w hz (by omega) h3 hcell hfz
  rw [htk, compact_all l hu] at hC
  refine hC.mono ?_
  rintro e w' ⟨rfl, q, rfl⟩
  have hbel := below_sets h1 ((zl (halves l) ++ List.replicate (n - (zl (halves l)).length) 0).map (Value.int .i64)) 0 w (w.drewN q) (belowN (Below.refl base w) q)
  obtain ⟨cur', hcur'⟩ := sets_type g 3 (0, 0) ((zl (halves l) ++ List.replicate (n - (zl (halves l)).length) 0).map (Value.int .i64)) 0 (w.drewN q) cur h2
  refine ⟨some ⟨g, 0, none⟩, cap, by rw [zl_length], fun _ => ⟨g, 0, rfl, ?_, fun i x hx => ?_⟩, hbel, ?_, g, cur', (0, 0), rfl, h1, hcur'⟩
  · rw [size_sets]; exact hg
  · have hll := halves_length l
    have hi : i < (zl (halves l)).length := (List.getElem?_eq_some_iff.1 hx).1
    have hin := World.cell?_setCells_in g ((zl (halves l) ++ List.replicate (n - (zl (halves l)).length) 0).map (Value.int .i64)) 0 (w.drewN q) (fun j hj => by
      have hj2 : j < n := by
        have : (zl (halves l)).length = (halves l).length := zl_length _
        simp at hj
        omega
      have := hcell j (by rw [zl_length, hlen]; exact hj2)
      show (w.cell? ⟨g, 0 + j, none⟩).isSome = true
      rw [this]; rfl) i (by simp; omega)
    rw [hin]
    have hx2 : (zl (halves l))[i] = x := (List.getElem?_eq_some_iff.1 hx).2
    refine congrArg some ?_
    rw [List.getElem_map, List.getElem_append_left hi, hx2]
  · rw [size_sets]; exact Nat.le_refl _

set_option maxHeartbeats 1600000 in
theorem halves_any (l : List Nat) (n : Nat) (a : Option Addr) (cap : Nat) (w : World) (hr : IntsR w a (zl l)) (hl : l.length = n) (h0 : 0 < n) (hn : n ≤ 1000000) (hu : Up l) (hb : ∀ x ∈ l, x ≤ 1000000) :
    Calls Tryd.prog 36 #[.slice a n cap] w fun e w' => ∃ a' c, e = .returned (.slice a' (halves l).length c) ∧ IntsR w' a' (zl (halves l)) ∧ Below w.heap.size w w' ∧ ∃ g cur fz, a' = some ⟨g, 0, none⟩ ∧ w.heap.size ≤ g ∧ w'.heap[g]? = some (.cells cur 3 fz) := by
  have hmk := fun u => Ints.make_room u n (n : Int) rfl (by omega)
  obtain ⟨D, hD⟩ : ∃ D : Nat → List Nat, D = fun k => (l.take k).map (· / 2) := ⟨_, rfl⟩
  have HDN := Lib.hid (show ∀ k (hk : k < l.length), D (k + 1) = D k ++ [l[k] / 2] from fun k hk => by
    rw [hD]
    show (l.take (k + 1)).map (· / 2) = (l.take k).map (· / 2) ++ [l[k] / 2]
    rw [List.take_succ_eq_append_getElem hk, List.map_append]
    rfl)
  have HC := Lib.hid (fun (v : Value) (u : World) (base : Nat) (ho : u.ownsRow base 3 1 v n (Ints.intsV (D n))) => compact_any l n hu hl hn v base u h0 (by
    have e : D n = l.map (· / 2) := by rw [hD]; show (l.take n).map (· / 2) = _; rw [List.take_of_length_le (by omega)]
    rw [← e]
    exact ho))
  have HD0 := Lib.hid (show D 0 = [] from by rw [hD]; rfl)
  have HR := Lib.hid hr
  have HL := Lib.hid hl
  have HB := Lib.hid hb
  clear hr hl hu hD hb
  go_enter Tryd.func36, Tryd.ntmps36
  go_wp2_with fail
  have hown0 := World.ownsRow_made (base := w.heap.size) (e := 3) (size := 1) w (madeCells #[.int .i64 0] n) n (Nat.le_refl _) (by unfold maxLen; omega) (by simp [madeCells])
  have HB0 := Lib.hid ((Below.refl w.heap.size w).alloc (Nat.le_refl _) (.cells (madeCells #[.int .i64 0] n) 3))
  have HOWN0 := Lib.hid (show (w.alloc (.cells (madeCells #[.int .i64 0] n) 3)).ownsRow w.heap.size 3 1 (.slice (some ⟨w.heap.size, 0, none⟩) 0 n) 0 (Ints.intsV (D 0)) from by rw [HD0.out]; exact hown0)
  clear hown0 hmk
  go_loopw [3, 5, 11] (fun v _ i wr => ∃ k : Nat, k ≤ n ∧ i = .int .i64 k ∧ wr.ownsRow w.heap.size 3 1 v k (Ints.intsV (D k)) ∧ Below w.heap.size w wr) (fun _ _ i _ => n - (intOf i).toNat)
  case atStart => exact ⟨0, by omega, rfl, HOWN0.out, HB0.out⟩
  case round =>
    clear HOWN0 HB0
    obtain ⟨k, hk, rfl, hown, hbel⟩ := hrel
    have HOWN := Lib.hid hown
    have HW := Lib.hid hbel
    clear hown hbel
    by_cases hlt : k < n
    · obtain ⟨b, o, rfl, hb, hc⟩ := HR.out (by have := HL.out; rw [zl_length]; omega)
      have hkl : k < l.length := by rw [HL.out]; exact hlt
      obtain ⟨x, hx⟩ : ∃ x, x = l[k] := ⟨_, rfl⟩
      have hcc := (HW.out.cell (p := ⟨b, o + k, none⟩) hb).trans (hc k (x : Int) (zl_at (by rw [hx]; exact List.getElem?_eq_getElem hkl)))
      have hxb : x ≤ 1000000 := HB.out x (by rw [hx]; exact List.getElem_mem hkl)
      have hdn := HDN.out k hkl
      rw [← hx] at hdn
      obtain ⟨y, hy⟩ : ∃ y, y = x / 2 := ⟨_, rfl⟩
      have hsh : (x : Int) / 2 = (y : Int) := by rw [hy]; rfl
      rw [← hy] at hdn
      have HS := Lib.hid hdn
      clear hdn hx hc hkl hy
      go_wp2_with (at_builtin; refine Ints.append_ints rfl _ _ rfl w.heap.size k _ (D k) rfl (HOWN.out.alloc _) wr.heap.size 1 1 [y] rfl rfl (ints_one _ _ _) (by omega) (Nat.le_trans HW.out.size (by simp)) ?_)
      intro v' w3 hown3 hgrow3
      have HW3 := Lib.hid ((HW.out.alloc HW.out.size (.cells #[.int .i64 (y : Int)] 3)).grown hgrow3 (Nat.le_trans HW.out.size (by simp)) (fun j hj => (HOWN.out.lt j hj).1))
      rw [← HS.out] at hown3
      have HOWN3 := Lib.hid hown3
      clear hown3 hgrow3 HOWN HW hsh
      go_wp2
      go_roundw
      case rel => exact ⟨k + 1, by omega, by go_num, HOWN3.out, HW3.out⟩
      case measure => simp [intOf]; omega
    · obtain rfl : k = n := by omega
      go_wp2_with fail
      refine (HC.out _ _ _ HOWN.out).mono ?_
      rintro e w5 ⟨a', c, rfl, hr5, hb5, -, ht5⟩
      have HT5 := Lib.hid ht5
      have HR5 := Lib.hid hr5
      have HB5 := Lib.hid (HW.out.trans hb5)
      clear hr5 hb5 ht5
      go_wp2
      go_ret
      exact ⟨a', c, rfl, HR5.out, HB5.out, HT5.out⟩
end Go.Proofs.YtncafbejgidliaaDoor.Grv
