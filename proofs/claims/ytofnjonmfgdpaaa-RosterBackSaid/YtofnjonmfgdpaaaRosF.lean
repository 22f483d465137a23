/-
  The library's Concat at a few slices of whole numbers answers them in one row, and leaves all memory that was there as it was. Conditions: no more than 10 slices, none has more than 1000 numbers.
-/
import Derived.Test.YtofnjonmfgdpaaaRosE
namespace Go.Proofs.Ytofnjonmfgdpaaa.Ros
open Go.RowKit Mur Prt Go.Maps
set_option maxRecDepth 100000

/-- A row of slices, as it is read. -/
def RowsR (w : World) (bx : Nat) (rows : List (List Int)) : Prop := bx < w.heap.size ∧ ∀ j L, rows[j]? = some L → ∃ ao c, w.cell? ⟨bx, j, none⟩ = some (.slice ao L.length c) ∧ IntsR w ao L
/-- The first slices in one row. -/
def tot (rows : List (List Int)) (j : Nat) : List Int := (rows.take j).flatten
theorem tot_next (rows : List (List Int)) (j : Nat) (L : List Int) (h : rows[j]? = some L) : tot rows (j + 1) = tot rows j ++ L := by
  unfold tot
  rw [List.take_add_one, h, List.flatten_append]
  simp
theorem tot_len (rows : List (List Int)) (j : Nat) (h : ∀ L ∈ rows, L.length ≤ 1000) : (tot rows j).length ≤ 1000 * j := by
  induction j with
  | zero => simp [tot]
  | succ j ih =>
    cases hx : rows[j]? with
    | none =>
      unfold tot at ih ⊢
      rw [List.take_add_one, hx]
      simp only [Option.toList_none, List.append_nil]
      omega
    | some L =>
      rw [tot_next rows j L hx, List.length_append]
      have := h L (List.mem_of_getElem? hx)
      omega
theorem tot_all (rows : List (List Int)) (n : Nat) (h : rows.length = n) : tot rows n = rows.flatten := by
  unfold tot
  rw [List.take_of_length_le (by omega)]

set_option maxHeartbeats 1600000 in
theorem concat_any (rows : List (List Int)) (n bx : Nat) (c : Nat) (w : World) (hn : rows.length = n) (hn2 : n ≤ 10) (hl : ∀ L ∈ rows, L.length ≤ 1000) (hr : RowsR w bx rows) :
    Calls Try.prog 35 #[.slice (some ⟨bx, 0, none⟩) n c] w fun e w' => ∃ ao co, e = .returned (.slice ao (tot rows n).length co) ∧ IntsR w' ao (tot rows n) ∧ (∀ q, ao = some q → w.heap.size ≤ q.block) ∧ Below w.heap.size w w' := by
  have hsum := tot_len rows n hl
  have RG := Lib.hid (grow_any (tot rows n).length w (by omega))
  have HN := Lib.hid hn
  have HL := Lib.hid hl
  have HR := Lib.hid hr
  have HB := Lib.hid hr.1
  clear hn hl hr hsum
  go_enter Try.func35, Try.ntmps35
  go_wp2
  go_loopw [3, 11] (fun s i wr => ∃ j : Nat, j ≤ n ∧ i = .int .i64 j ∧ s = .int .i64 ((tot rows j).length : Nat) ∧ wr = w) (fun _ i _ => n - (intOf i).toNat)
  case atStart => exact ⟨0, by omega, rfl, rfl, rfl⟩
  case round =>
    obtain ⟨j, hj, rfl, rfl, rfl⟩ := hrel
    by_cases hlt : j < n
    · obtain ⟨L, hL⟩ : ∃ L, rows[j]? = some L := ⟨_, List.getElem?_eq_getElem (by rw [HN.out]; exact hlt)⟩
      obtain ⟨ao, c1, hc, hi⟩ := HR.out.2 j L hL
      have hf := tot_next rows j L hL
      have hll := HL.out L (List.mem_of_getElem? hL)
      have hfl := tot_len rows j HL.out
      obtain ⟨S, hS⟩ : ∃ S, S = (tot rows j).length := ⟨_, rfl⟩
      obtain ⟨M, hM⟩ : ∃ M, M = L.length := ⟨_, rfl⟩
      rw [← hM] at hc hll
      have hnx : (tot rows (j + 1)).length = S + M := by rw [hf, List.length_append, ← hS, ← hM]
      rw [← hS] at hfl ⊢
      have hw : wrap64 ((S : Int) + (M : Int)) = (S : Int) + (M : Int) := by unfold wrap64; omega
      have hd : decide ((S : Int) + (M : Int) < 0) = false := decide_eq_false (by omega)
      have HNX := Lib.hid hnx
      clear hi hf hL hS hM hnx
      go_wp2
      go_roundw
      case rel => exact ⟨j + 1, by omega, by go_num, by rw [HNX.out]; go_num, by simp⟩
      case measure => simp [intOf]; omega
    · obtain rfl : j = n := by omega
      obtain ⟨wo, rfl⟩ : ∃ wo, wo = wr := ⟨wr, rfl⟩
      go_wp2_with fail
      refine RG.out.mono ?_
      rintro e w1 ⟨v, rfl, hown, hb⟩
      have HOWN := Lib.hid hown
      have HB1 := Lib.hid hb
      clear hown hb RG
      go_wp2_with fail
      go_loopw [6, 27] (fun ov i wr2 => ∃ q : Nat, q ≤ j ∧ i = .int .i64 q ∧ wr2.ownsRow wo.heap.size 3 1 ov (tot rows q).length (zsV (tot rows q)) ∧ Below wo.heap.size wo wr2) (fun _ i _ => j - (intOf i).toNat)
      case atStart => exact ⟨0, by omega, rfl, HOWN.out, HB1.out⟩
      case round =>
        clear HOWN HB1
        obtain ⟨q, hq, rfl, hown, hbel⟩ := hrel
        have HW := Lib.hid hbel
        have HOWN := Lib.hid hown
        have hfr := hown.lt
        obtain ⟨ao, co, rfl, -, hi⟩ := own_ints hown
        have HI := Lib.hid hi
        have HF := Lib.hid (show ∀ q, ao = some q → wo.heap.size ≤ q.block from fun q hq => (hfr q.block (by rw [hq]; rfl)).1)
        clear hown hbel hi hfr
        by_cases hlt2 : q < j
        · obtain ⟨L, hL⟩ : ∃ L, rows[q]? = some L := ⟨_, List.getElem?_eq_getElem (by rw [HN.out]; exact hlt2)⟩
          obtain ⟨ax, c1, hc, hx⟩ := HR.out.2 q L hL
          have hc2 := (HW.out.cell (p := ⟨bx, q, none⟩) HB.out).trans hc
          have hf := tot_next rows q L hL
          have hll := HL.out L (List.mem_of_getElem? hL)
          have hfl := tot_len rows q HL.out
          obtain ⟨M, hM⟩ : ∃ M, M = L.length := ⟨_, rfl⟩
          rw [← hM] at hc2 hll
          have HF := Lib.hid hf
          have HM := Lib.hid hM.symm
          have HX := Lib.hid hx
          have HLN := Lib.hid (show (tot rows q).length + M ≤ 1000000 by omega)
          clear hc hx hf hL hM hfl hll
          go_wp2_with (at_builtin; refine append_zs rfl _ _ rfl wo.heap.size _ _ (tot rows q) L ax M c1 rfl rfl HOWN.out (HX.out.below HW.out) HM.out (by have := HLN.out; omega) HW.out.size ?_; intro v' w4 hown4 hgrow4)
          go_roundw
          case rel => exact ⟨q + 1, by omega, by go_num, by rw [HF.out, List.length_append, HM.out]; exact hown4, HW.out.grown hgrow4 HW.out.size (fun q hq => (HOWN.out.lt q hq).1)⟩
          case measure => simp [intOf]; omega
        · obtain rfl : q = j := by omega
          go_wp2
          go_ret
          exact ⟨ao, co, rfl, HI.out, HF.out, HW.out⟩
end Go.Proofs.Ytofnjonmfgdpaaa.Ros
