/-
  ChainsDigits: of two unlike digests one digit at least of either is the lesser one; all go into four bits: for every input, the law answers true and changes nothing that was there. Condition: the constant table lies as the program's text lays it (the card ties it).
-/
import Derived.Test.YtjhilaiilckalaaDoorChnAwake
import Derived.Test.YtjhilaiilckalaaDoorChnLess
import Derived.Test.YtjhilaiilckalaaDoorConstFrame
import Derived.Test.YtjhilaiilckalaaDoorCards
import Derived.Test.YtjhilaiilckalaaDoorOpen
import Derived.Test.YtjhilaiilckalaaDoorTie
import Derived.SevenTiedAt
namespace Go.Proofs.YtjhilaiilckalaaDoor.LawDigs
open Go.ChangeShapes Go.WideShapes Go.ChangeAt Go.ChangeMaps Go.RowKit Mur Sha Chn
set_option maxRecDepth 100000

theorem rest_of (x : Int) (q : Nat) (h1 : 0 < q) (h2 : q ≤ 1000) : ∃ m : Nat, m < q ∧ wrap64 ((IntKind.u64.wrap x).tmod (q : Int)) = (m : Int) := by
  rw [IntKind.wrap_u64, Int.tmod_eq_emod_of_nonneg (by omega)]
  have h3 : 0 ≤ x % 18446744073709551616 % (q : Int) := Int.emod_nonneg _ (by omega)
  have h4 : x % 18446744073709551616 % (q : Int) < q := Int.emod_lt_of_pos _ (by omega)
  refine ⟨(x % 18446744073709551616 % (q : Int)).toNat, by omega, ?_⟩
  rw [IntWalk.wrap64_in _ (by omega)]
  omega

/-- Filled up with bytes 0, and cut. -/
theorem told_cut (N : Nat) (d : ByteArray) (hN : N ≤ 32) : (d ++ (⟨(List.replicate 32 (0 : UInt8)).toArray⟩ : ByteArray)).extract 0 N = tx (told N d.data.toList) := by
  apply ByteArray.ext
  apply Array.ext'
  rw [extract_take]
  have hs : d.data.toList.length = d.size := rfl
  rw [ByteArray.data_append, Array.toList_append, List.take_append, tx_list, told]
  congr 1
  show (List.replicate 32 (0 : UInt8)).take (N - d.data.toList.length) = _
  rw [List.take_replicate]
  congr 1
  exact Nat.min_eq_left (Nat.le_trans (Nat.sub_le _ _) hN)
theorem made_bytes (u : World) (F : Nat) : Row (u.alloc (.cells (madeCells #[.int .u8 0] F) 5)) u.heap.size (bytesV (List.replicate F 0)) := by
  rw [← Lanes.zero_bytes]
  exact Lanes.made_row _ _ _ _

/-- A slice's cells hold these numbers. -/
def Cells (g : Nat) (l : List Nat) (w : World) : Prop := g < w.heap.size ∧ ∀ (i x : Nat), l[i]? = some x → w.cell? ⟨g, i, none⟩ = some (.int .i64 (x : Int))
theorem Cells.below {g : Nat} {l : List Nat} {w w' : World} (h : Cells g l w) (k : Below w.heap.size w w') : Cells g l w' :=
  ⟨Nat.lt_of_lt_of_le h.1 k.size, fun i x hx => (k.cell (p := ⟨g, i, none⟩) h.1).trans (h.2 i x hx)⟩
theorem digits_cells (N : Nat) (h : Int) (d : ByteArray) (w : World) (hr : Right (N : Int) h) :
    Calls Tryd.prog 13 #[.agg #[.int .i64 (N : Int), .int .i64 h], .string d] w fun e w' => ∃ g c, e = .returned (.slice (some ⟨g, 0, none⟩) (2 * N + 3 : Nat) c) ∧ Cells g (digs N d.data.toList) w' ∧ Below w.heap.size w w' :=
  (digits_any N h d w hr).mono fun e w' ⟨v, he, hown, hb⟩ => by
    obtain ⟨g, c, cur, rfl, -, -, h3, h4⟩ := ints_row hown (by omega)
    exact ⟨g, c, he, ⟨(Array.getElem?_eq_some_iff.1 h3).1, h4 w' h3⟩, hb⟩

structure Kept (b : Nat) (w0 : World) (w : World) : Prop where
  room : b < w.heap.size
  below : Below w0.heap.size w0 w
theorem Kept.next {b : Nat} {w0 w w' : World} (h : Kept b w0 w) (k : Below w.heap.size w w') : Kept b w0 w' :=
  ⟨Nat.lt_of_lt_of_le h.room k.size, h.below.trans (k.mono h.below.size)⟩
theorem held_next {b : Nat} {w0 u u' : World} {x y : Value} (h : u.cell? ⟨b, 0, none⟩ = some x ∧ u.cell? ⟨b, 1, none⟩ = some y ∧ Kept b w0 u) (q : Below u.heap.size u u') : u'.cell? ⟨b, 0, none⟩ = some x ∧ u'.cell? ⟨b, 1, none⟩ = some y ∧ Kept b w0 u' :=
  ⟨(q.cell (p := ⟨b, 0, none⟩) h.2.2.room).trans h.1, (q.cell (p := ⟨b, 1, none⟩) h.2.2.room).trans h.2.1, h.2.2.next q⟩

set_option maxHeartbeats 6400000 in
theorem law_small (n : Int) (a b : ByteArray) (w : World) (hg : a.size + b.size ≤ 600) (hk : Consts w) :
    Calls Tryd.prog 6 #[.int .i64 n, .string a, .string b] w
      fun e w' => e = .returned (.bool true) ∧ Below w.heap.size w w' := by
  have hd1 : decide (600 < (a.size : Int) + (b.size : Int)) = false := by simp; omega
  obtain ⟨m, hm, hm2⟩ := rest_of n 31 (by omega) (by omega)
  obtain ⟨N, hN⟩ : ∃ N, N = 2 + m := ⟨_, rfl⟩
  have e3 : (2 : Int) + (m : Int) = (N : Int) := by omega
  have hN5 : 2 ≤ N ∧ N ≤ 32 := by omega
  have hr : Right (N : Int) 0 := by unfold Right; omega
  obtain ⟨Z, hZ⟩ : ∃ Z : ByteArray, Z = ⟨(List.replicate 32 (0 : UInt8)).toArray⟩ := ⟨_, rfl⟩
  have hmk : ∀ u : World, (Instr.makeSlice 44 (.int .i64 32) (.int .i64 32)).run Tryd.prog u = .ok (.slice (some ⟨u.heap.size, 0, none⟩) 32 32) (u.alloc (.cells (madeCells #[.int .u8 0] 32) 5)) := fun u => Lanes.make_u8 u 32 (by omega)
  have hcv := fun (u : World) => string_row (P := Tryd.prog) (made_bytes u 32) 44 5 9 Tryd.underlying44 Tryd.underlying5 Tryd.underlying9 32 32 (by simp)
  have hca := told_cut N a hN5.2
  have hcb := told_cut N b hN5.2
  rw [← hZ] at hcv hca hcb
  obtain ⟨TA, hTA⟩ : ∃ T, T = told N a.data.toList := ⟨_, rfl⟩
  obtain ⟨TB, hTB⟩ : ∃ T, T = told N b.data.toList := ⟨_, rfl⟩
  rw [← hTA] at hca
  rw [← hTB] at hcb
  have hla : TA.length = N := by rw [hTA]; exact told_length _ _
  have hlb : TB.length = N := by rw [hTB]; exact told_length _ _
  obtain ⟨X, hX⟩ : ∃ X, X = digs N TA := ⟨_, rfl⟩
  obtain ⟨Y, hY⟩ : ∃ Y, Y = digs N TB := ⟨_, rfl⟩
  have hxl : X.length = 2 * N + 3 := by rw [hX]; exact digs_length _ _
  have hyl : Y.length = 2 * N + 3 := by rw [hY]; exact digs_length _ _
  have hx15 : ∀ x ∈ X, x ≤ 15 := by rw [hX]; exact digs_le N TA hN5.2
  have hone : TA = TB → lessB X Y (2 * N + 3) = false ∧ lessB Y X (2 * N + 3) = false := fun h => by
    rw [hX, hY, h]
    exact ⟨lessB_same _ _, lessB_same _ _⟩
  have htwo : TA ≠ TB → lessB X Y (2 * N + 3) = true ∧ lessB Y X (2 * N + 3) = true := fun h => by
    constructor
    · cases hc : lessB X Y (2 * N + 3) with
      | true => rfl
      | false => rw [hX, hY] at hc; exact absurd (digs_less N TA TB hla hlb hc) h
    · cases hc : lessB Y X (2 * N + 3) with
      | true => rfl
      | false => rw [hX, hY] at hc; exact absurd (digs_less N TB TA hlb hla hc).symm h
  have hsa : (tx TA).size = N := hla
  obtain ⟨A, hA⟩ : ∃ A : ByteArray, A = tx TA := ⟨_, rfl⟩
  obtain ⟨B, hB⟩ : ∃ A : ByteArray, A = tx TB := ⟨_, rfl⟩
  have hAB : A = B ↔ TA = TB := by
    rw [hA, hB]
    constructor
    · intro h
      have := congrArg (fun t : ByteArray => t.data.toList) h
      exact this
    · intro h
      rw [h]
  have hne : A ≠ B → (A.toList == B.toList) = false := fun h => by
    rw [beq_eq_false_iff_ne, ByteArray.toList_eq, ByteArray.toList_eq]
    intro h2
    exact h (ByteArray.ext (Array.ext' h2))
  rw [← hA] at hca
  rw [← hB] at hcb
  obtain ⟨M, hM⟩ : ∃ M, M = 2 * N + 3 := ⟨_, rfl⟩
  have RD1 := Lib.hid (show ∀ u, Calls Tryd.prog 13 #[.agg #[.int .i64 (N : Int), .int .i64 0], .string A] u fun e w' => ∃ g c, e = .returned (.slice (some ⟨g, 0, none⟩) M c) ∧ Cells g X w' ∧ Below u.heap.size u w' from fun u => by
    have := digits_cells N 0 A u hr
    rw [hA, tx_list, ← hX, ← hM, ← hA] at this
    exact this)
  have RD2 := Lib.hid (show ∀ u, Calls Tryd.prog 13 #[.agg #[.int .i64 (N : Int), .int .i64 0], .string B] u fun e w' => ∃ g c, e = .returned (.slice (some ⟨g, 0, none⟩) M c) ∧ Cells g Y w' ∧ Below u.heap.size u w' from fun u => by
    have := digits_cells N 0 B u hr
    rw [hB, tx_list, ← hY, ← hM, ← hB] at this
    exact this)
  have hMi : (2 * (N : Int) + 3) = (M : Int) := by omega
  have R2 := Lib.hid (show ∀ u, Calls Tryd.prog 10 #[.agg #[.int .i64 (N : Int), .int .i64 0]] u fun e w' => e = .returned (.int .i64 (M : Int)) ∧ Below u.heap.size u w' from fun u => by
    have := count_yes N 0 hr u
    rw [hMi] at this
    exact this)
  have RA := Lib.hid (fun u hu => awake_any u hu)
  have hMM : M ≤ 67 := by omega
  rw [← hM] at hxl hyl hone htwo
  have HM2 := Lib.hid hm2
  have E3 := Lib.hid e3
  have HMK := Lib.hid hmk
  have HCV := Lib.hid hcv
  have HCA := Lib.hid hca
  have HCB := Lib.hid hcb
  have HZS := Lib.hid (show Z.size = 32 by rw [hZ]; rfl)
  have HNN := Lib.hid (show (N : Int).toNat = N by omega)
  have HDS := Lib.hid hg
  have HXL := Lib.hid hxl
  have HYL := Lib.hid hyl
  have HX15 := Lib.hid hx15
  have HONE := Lib.hid (show A = B → lessB X Y M = false ∧ lessB Y X M = false from fun h => hone (hAB.1 h))
  have HTWO := Lib.hid (show A ≠ B → lessB X Y M = true ∧ lessB Y X M = true from fun h => htwo (fun h2 => h (hAB.2 h2)))
  have HNE := Lib.hid hne
  clear hm2 e3 hmk hcv hca hcb hZ hxl hyl hx15 hone htwo hne hAB hX hY hla hlb hsa hTA hTB hA hB hM hMi hr hN
  have hb2 := (Below.refl w.heap.size w).alloc (Nat.le_refl _) (.cells #[.int .i64 (N : Int), .int .i64 0] 23)
  have hp0 : (w.alloc (.cells #[.int .i64 (N : Int), .int .i64 0] 23)).cell? ⟨w.heap.size, 0, none⟩ = some (.int .i64 (N : Int)) := by simp
  have hp1 : (w.alloc (.cells #[.int .i64 (N : Int), .int .i64 0] 23)).cell? ⟨w.heap.size, 1, none⟩ = some (.int .i64 0) := by simp
  have hpl : w.heap.size < (w.alloc (.cells #[.int .i64 (N : Int), .int .i64 0] 23)).heap.size := by simp
  go_enter Tryd.func6, Tryd.ntmps6
  have g1 := HM2.out
  rw [show ((31 : Nat) : Int) = 31 from rfl] at g1
  have g2 := E3.out
  go_upto_region 4 with (fail)
  clear g1 g2 hg hd1
  generalize w.alloc (.cells #[.int .i64 (N : Int), .int .i64 0] 23) = w2 at *
  have HP := Lib.hid (fun (u : World) (q : Below w2.heap.size w2 u) => (⟨(q.cell (p := ⟨w.heap.size, 0, none⟩) hpl).trans hp0, (q.cell (p := ⟨w.heap.size, 1, none⟩) hpl).trans hp1, hk.below hk.1 (hb2.trans (q.mono hb2.size))⟩ : u.cell? ⟨w.heap.size, 0, none⟩ = some (.int .i64 (N : Int)) ∧ u.cell? ⟨w.heap.size, 1, none⟩ = some (.int .i64 0) ∧ Consts u))
  have HB2 := Lib.hid hb2
  have HWw2 := Lib.hid (Below.refl w2.heap.size w2)
  have HPL := Lib.hid hpl
  clear hb2 hp0 hp1 hpl hk
  have hcv4 : (convert 44 9 (.slice (some ⟨w2.heap.size, 0, none⟩) 32 32)).run Tryd.prog (w2.alloc (.cells (madeCells #[.int .u8 0] 32) 5)).drew = .ok (.string Z) (w2.alloc (.cells (madeCells #[.int .u8 0] 32) 5)).drew := HCV.out w2.drew
  have hmk := HMK.out
  have hw4 := HWw2.out.alloc HWw2.out.size (.cells (madeCells #[.int .u8 0] 32) 5)
  obtain ⟨c0, -⟩ := HP.out _ HWw2.out
  obtain ⟨c1, -⟩ := HP.out _ HWw2.out.drew
  obtain ⟨d0, -⟩ := HP.out _ hw4
  obtain ⟨d1, -⟩ := HP.out _ hw4.drew
  have n1 : (N : Int) ≤ 32 := by omega
  have n2 : (N : Int).toNat = N := HNN.out
  have n3 : (a ++ Z).size = a.size + 32 := by rw [ByteArray.size_append, HZS.out]
  have n4 : ¬ 9223372036854775807 < a.size + 32 := by have := HDS.out; omega
  have n5 : (N : Int) ≤ (a.size : Int) + 32 := by have := HNN.out; omega
  have n6 := HZS.out
  have htc := HCA.out
  go_region
  have HWw3 := Lib.hid hw4.drew
  clear c0 c1 d0 d1 n1 n2 n3 n4 n5 n6 hcv4 hw4 htc hmk
  generalize (w2.alloc (.cells (madeCells #[.int .u8 0] 32) 5)).drew = w3 at *
  go_wp2_with fail
  have hcv5 : (convert 44 9 (.slice (some ⟨w3.heap.size, 0, none⟩) 32 32)).run Tryd.prog (w3.alloc (.cells (madeCells #[.int .u8 0] 32) 5)).drew = .ok (.string Z) (w3.alloc (.cells (madeCells #[.int .u8 0] 32) 5)).drew := HCV.out w3.drew
  have hmk := HMK.out
  have hw5 := HWw3.out.alloc HWw3.out.size (.cells (madeCells #[.int .u8 0] 32) 5)
  obtain ⟨c0, -⟩ := HP.out _ HWw3.out
  obtain ⟨c1, -⟩ := HP.out _ HWw3.out.drew
  obtain ⟨d0, -⟩ := HP.out _ hw5
  obtain ⟨d1, -⟩ := HP.out _ hw5.drew
  have n1 : (N : Int) ≤ 32 := by omega
  have n2 : (N : Int).toNat = N := HNN.out
  have n3 : (b ++ Z).size = b.size + 32 := by rw [ByteArray.size_append, HZS.out]
  have n4 : ¬ 9223372036854775807 < b.size + 32 := by have := HDS.out; omega
  have n5 : (N : Int) ≤ (b.size : Int) + 32 := by have := HNN.out; omega
  have n6 := HZS.out
  have htc := HCB.out
  go_region
  have HWw4 := Lib.hid hw5.drew
  clear c0 c1 d0 d1 n1 n2 n3 n4 n5 n6 hcv5 hw5 htc hmk
  generalize (w3.alloc (.cells (madeCells #[.int .u8 0] 32) 5)).drew = w4 at *
  clear HCA HCB HCV HMK HZS HNN
  go_wp2_with fail
  have HS := Lib.hid (show w4.drew.cell? ⟨w.heap.size, 0, none⟩ = some (.int .i64 (N : Int)) ∧ w4.drew.cell? ⟨w.heap.size, 1, none⟩ = some (.int .i64 0) ∧ Kept w.heap.size w4 w4.drew from
    ⟨(HP.out _ HWw4.out.drew).1, (HP.out _ HWw4.out.drew).2.1, Nat.lt_of_lt_of_le HPL.out HWw4.out.size, (Below.refl _ _).drew⟩)
  go_region_held3 (fun w' => w'.cell? ⟨w.heap.size, 0, none⟩ = some (.int .i64 (N : Int)) ∧ w'.cell? ⟨w.heap.size, 1, none⟩ = some (.int .i64 0) ∧ Kept w.heap.size w4 w')
    (first | exact HS.out | assumption | exact held_next (by assumption) (by assumption))
    (first
      | (go_at_call 13; with_reducible refine Calls.mono (RD1.out _) ?_; rintro e w' ⟨g1, cp1, rfl, hx, hb⟩)
      | (go_at_call 13; with_reducible refine Calls.mono (RD2.out _) ?_; rintro e w' ⟨g2, cp2, rfl, hy, hb2⟩))
  all_goals
    have hheld : w'.cell? ⟨w.heap.size, 0, none⟩ = some (.int .i64 (N : Int)) ∧ w'.cell? ⟨w.heap.size, 1, none⟩ = some (.int .i64 0) ∧ Kept w.heap.size w4 w' := by assumption
    have HX := Lib.hid (hx.below hb2)
    have HY := Lib.hid hy
    have HK := Lib.hid hheld.2.2.below
    obtain ⟨c0, c1, -⟩ := hheld
    clear hx hy hb hb2 HS
    go_wp2_with fail
    refine (R2.out _).mono ?_
    rintro e w7 ⟨rfl, hb7⟩
    have HX7 := Lib.hid (HX.out.below hb7)
    have HY7 := Lib.hid (HY.out.below hb7)
    have HK7 := Lib.hid (HK.out.trans (hb7.mono HK.out.size))
    clear hb7 c0 c1 HX HY HK
    have hmm : ((M : Int) != (M : Int)) = false := by simp
    go_wp2_with fail
    clear hmm
    go_loopw [6, 10, 11, 12, 60] (fun _ ls mr _ i wr => ∃ k : Nat, k ≤ M ∧ i = .int .i64 k ∧ ls = .bool (lessB X Y k) ∧ mr = .bool (lessB Y X k) ∧ Cells g1 X wr ∧ Cells g2 Y wr ∧ Below w4.heap.size w4 wr) (fun _ _ _ _ i _ => M - (intOf i).toNat)
    case atStart => exact ⟨0, by omega, rfl, rfl, rfl, HX7.out, HY7.out, HK7.out⟩
    case round =>
      clear HX7 HY7 HK7
      obtain ⟨k, hk, rfl, rfl, rfl, hx, hy, hbel⟩ := hrel
      have HW := Lib.hid hbel
      by_cases hlt : k < M
      · have hkx : k < X.length := by rw [HXL.out]; exact hlt
        have hky : k < Y.length := by rw [HYL.out]; exact hlt
        obtain ⟨x, hxk⟩ : ∃ x, X[k]? = some x := ⟨_, List.getElem?_eq_getElem hkx⟩
        obtain ⟨y, hyk⟩ : ∃ y, Y[k]? = some y := ⟨_, List.getElem?_eq_getElem hky⟩
        have hx15 : x ≤ 15 := HX15.out x (List.mem_of_getElem? hxk)
        have ex : X.getD k 0 = x := by rw [List.getD_eq_getElem?_getD, hxk]; rfl
        have ey : Y.getD k 0 = y := by rw [List.getD_eq_getElem?_getD, hyk]; rfl
        have S1 := Lib.hid (show lessB X Y (k + 1) = (lessB X Y k || decide (x < y)) by rw [lessB, ex, ey])
        have S2 := Lib.hid (show lessB Y X (k + 1) = (lessB Y X k || decide (y < x)) by rw [lessB, ex, ey])
        have c1 := hx.2 k x hxk
        have c2 := hy.2 k y hyk
        have HX := Lib.hid hx
        have HY := Lib.hid hy
        have hd0 : decide ((x : Int) < 0) = false := by simp
        have hd1 : decide ((15 : Int) < (x : Int)) = false := by simp; omega
        have t1 : decide ((x : Int) < (y : Int)) = decide (x < y) := by simp
        have t2 : decide ((y : Int) < (x : Int)) = decide (y < x) := by simp
        clear hx hy hxk hyk ex ey hkx hky hbel
        generalize lessB X Y k = ls at *
        generalize lessB Y X k = mr at *
        cases ls <;> cases mr
        all_goals
          go_upto_region 15 with (fail)
          have z1 : (k : Int) < (M : Int) := by omega
          have z2 : (k : Int).toNat = k := by omega
          go_quiet (fail)
          go_wp2_with fail
          go_quiet (fail)
          go_wp2
          go_roundw
          case rel => exact ⟨k + 1, by omega, by go_num, by rw [S1.out]; simp, by rw [S2.out]; simp, HX.out.below (belowN (Below.refl _ _) _), HY.out.below (belowN (Below.refl _ _) _), belowN HW.out _⟩
          case measure => simp [intOf]; omega
      · obtain rfl : k = M := by omega
        have HZ := Lib.hid (HWw4.out.trans (HW.out.mono HWw4.out.size))
        clear hx hy hbel
        by_cases hAB : A = B
        · obtain ⟨l1, l2⟩ := HONE.out hAB
          rw [l1, l2]
          subst hAB
          clear l1 l2
          go_wp2_with fail
          refine (RA.out _ (HP.out _ HZ.out).2.2).mono ?_
          rintro e w8 ⟨rfl, hb8⟩
          have HB8 := Lib.hid (HB2.out.trans ((HZ.out.trans (hb8.mono HZ.out.size)).mono HB2.out.size))
          clear hb8
          go_wp2
          go_ret
          exact ⟨rfl, HB8.out⟩
        · obtain ⟨l1, l2⟩ := HTWO.out hAB
          have hn := HNE.out hAB
          rw [l1, l2]
          clear l1 l2
          go_wp2_with fail
          refine (RA.out _ (HP.out _ HZ.out).2.2).mono ?_
          rintro e w8 ⟨rfl, hb8⟩
          have HB8 := Lib.hid (HB2.out.trans ((HZ.out.trans (hb8.mono HZ.out.size)).mono HB2.out.size))
          clear hb8
          go_wp2
          go_ret
          exact ⟨rfl, HB8.out⟩

set_option maxHeartbeats 1600000 in
theorem law_great (n : Int) (a b : ByteArray) (w : World) (hg : ¬ a.size + b.size ≤ 600) (h1 : a.size ≤ 140737488351232) (h2 : b.size ≤ 140737488351232) (hk : Consts w) :
    Calls Tryd.prog 6 #[.int .i64 n, .string a, .string b] w
      fun e w' => e = .returned (.bool true) ∧ Below w.heap.size w w' := by
  have hd1 : decide (600 < (a.size : Int) + (b.size : Int)) = true := by simp; omega
  have RA := Lib.hid (fun u hu => awake_any u hu)
  have HK := Lib.hid hk
  clear hk
  go_enter Tryd.func6, Tryd.ntmps6
  go_wp2_with fail
  refine (RA.out _ HK.out).mono ?_
  rintro e w1 ⟨rfl, hb1⟩
  go_wp2
  go_ret
  exact ⟨rfl, hb1⟩

theorem walk (n : Int) (a b : ByteArray) (w : World) (h1 : a.size ≤ 140737488351232) (h2 : b.size ≤ 140737488351232) (hk : Consts w) :
    Calls Tryd.prog 6 #[.int .i64 n, .string a, .string b] w
      fun e w' => e = .returned (.bool true) ∧ Below w.heap.size w w' := by
  by_cases hg : a.size + b.size ≤ 600
  · exact law_small n a b w hg hk
  · exact law_great n a b w hg h1 h2 hk

theorem laidOut : laidOutB Tryd.prog = true := by kernel_rfl

set_option maxRecDepth 100000 in
theorem lifted (os : Os) (started : os.Started) (H : Type) (enc : TypeId × Value → H) :
    ReturnsInHanded {} Tryd.checked os 6 .any (fun w args => (Rows.chainsDigitsSpec.pre enc Tryd.prog Tryd.f6 [] false w args ∧ laidMetH Tryd.prog laidL w) ∧ sizedMet enc Tryd.prog Tryd.f6 (OpenSpec.ofChange Rows.chainsDigitsSpec) false w args)
      (Rows.chainsDigitsSpec.post enc Tryd.prog Tryd.f6 false true false false) := by
  refine returnsInHanded_of_change_and (C := Tryd.checked) (X := fun w _ => laidMetH Tryd.prog laidL w) (fun _ _ _ hh h => h.of_heap hh) own started (by kernel_rfl) Tryd.func6
    (ChangeSpec.witness_shaped (enc := enc) (C := Tryd.checked) (os := os) (X := fun w _ => laidMetH Tryd.prog laidL w) false (World.doorLaid Tryd.prog 400 os) #[.int .i64 0, .string ByteArray.empty, .string ByteArray.empty] 8 rfl (World.shaped_of_RefB (by kernel_rfl) (by kernel_rfl)) (by kernel_rfl) (by kernel_rfl) (by kernel_rfl) (door_met os _)) ?_
  intro W base args ds gs before hval0 hW _ hsz0 hL _
  have hval : ∀ (j : Nat) t v, Tryd.f6.params[j]? = some t → args[j]? = some v → Value.okWide Tryd.prog W .any base t v := hval0
  have hsz : (DataW.weightsEach Tryd.prog (Tryd.f6.params.toList ++ Rows.chainsDigitsSpec.plain.varTypes Tryd.prog) (ds ++ gs)).all (· ≤ reachBytes) = true := hsz0
  clear hsz0
  have hW' := hW
  obtain ⟨p, q, hA0, hV, rfl, hfz, hnd⟩ := hW
  have hA : DataW.TrodAll enc Tryd.prog W 0 (fun _ => true) true Tryd.f6.params.toList args.toList ds p := hA0
  rw [Tryd.params6] at hA hval hsz
  obtain ⟨v0, vs0, d0, ds0, p0, q0, hargs, rfl, rfl, h0, r0⟩ := trodAll_cons hA
  obtain ⟨v1, vs1, d1, ds1, p1, q1, rfl, rfl, rfl, h1, r1⟩ := trodAll_cons r0
  obtain ⟨v2, vs2, d2, ds2, p2, q2, rfl, rfl, rfl, h2, r2⟩ := trodAll_cons r1
  obtain ⟨rfl, rfl, rfl⟩ := trodAll_nil r2
  obtain rfl : args = #[v0, v1, v2] := by cases args; simp_all
  obtain ⟨rfl, rfl⟩ := trodVars_none hV
  obtain ⟨n0, rfl, rfl, rfl, w0⟩ := open_int Tryd.underlying3 (hval 0 3 v0 rfl rfl) h0
  obtain ⟨s1, rfl, rfl, rfl, w1⟩ := open_string Tryd.underlying9 (hval 1 9 v1 rfl rfl) h1
  have z1 := sized_string hsz (j := 1) (t := 9) (bytes := s1.data.toList) rfl rfl
  obtain ⟨s2, rfl, rfl, rfl, w2⟩ := open_string Tryd.underlying9 (hval 2 9 v2 rfl rfl) h2
  have z2 := sized_string hsz (j := 2) (t := 9) (bytes := s2.data.toList) rfl rfl
  have hcl := of_laid hL
  clear hA0 hval0
  refine (walk n0 s1 s2 W z1 z2 hcl).mono fun e W' ⟨he, bel⟩ => ?_
  subst he
  exact ⟨_, rfl, _, _, _, [], _, [], hW', trodAll_mk1 (shut_bool Tryd.underlying4 _), (trodAll_cons_mk (shut_int Tryd.underlying3 w0) (trodAll_cons_mk (shut_string Tryd.underlying9 w1) (trodAll_cons_mk (shut_string Tryd.underlying9 w2) trodAll_mk0))), rfl, bel.frame _, fun h => by cases h⟩

theorem over : Rows.ChainsDigitsSaid :=
  OpenClaim.holds_of_wide 6 Tryd.f6 rfl rfl rfl rfl rfl rfl rfl ⟨rfl, rfl, rfl, rfl, rfl⟩ rfl rfl rfl rfl rfl (by kernel_rfl) Tryd.func6 (by kernel_rfl)
    (of_decide_eq_true (by kernel_rfl)) (by unfold Func.isWrapper; first | (rw [if_pos (by decide +kernel)]; kernel_rfl) | (rw [if_neg (by decide +kernel)]; exact ⟨rfl, rfl⟩))
    (fun os started H enc _ => lifted os started H enc)

theorem proved : Rows.ChainsDigitsCardSaid :=
  Claim7.holds_tied_plain_at .later [] [.data] true Rows.chainsDigitsCard.stood.harness false
    over (fun _ h => by cases h) (by kernel_rfl) (fun _ h => by cases h) chainsDigits_row_tie rfl ⟨rfl, rfl⟩ (by kernel_rfl) rfl
    (fun f fn hf hfn => by
      obtain rfl : f = 6 := Option.some.inj ((show Tryd.prog.funcNamed "murmur/murmurlaw07.ChainsDigits" = some 6 by kernel_rfl).symm.trans hf) |>.symm
      obtain rfl : fn = Tryd.f6 := (Option.some.inj (Tryd.func6.symm.trans hfn)).symm
      exact ⟨by kernel_rfl, fun j t ht => by
        rw [Tryd.params6] at ht
        have hm : t ∈ [3, 9, 9] := by simpa using Array.mem_of_getElem? ht
        have hall : ([3, 9, 9].all fun u => !Tryd.prog.wantsStandIn u) = true := by kernel_rfl
        exact (show Tryd.prog.wantsStandIn t = false by simpa using List.all_eq_true.1 hall t hm)⟩)
    (by kernel_rfl)
#print axioms proved
end Go.Proofs.YtjhilaiilckalaaDoor.LawDigs
