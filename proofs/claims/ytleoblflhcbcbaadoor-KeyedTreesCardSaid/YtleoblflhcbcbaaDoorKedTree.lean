/-
  The functions Leaf and Tree of package keyed, and their helpers, answer what the plain mathematics of the text Ked says, and leave all memory that was there as it was. Conditions: the key has no more than 2^46 bytes, the constant table of package digest lies as the program's text lays it.
-/
import Derived.Test.YtleoblflhcbcbaaDoorKedMac
import Derived.Test.YtleoblflhcbcbaaDoorStrs
namespace Go.Proofs.YtleoblflhcbcbaaDoor.Ked
open Go.RowKit Mur Sha

set_option maxHeartbeats 800000 in
theorem branch_any (k B : ByteArray) (b : Nat) (w : World) (hk : k.size ≤ 70368744177664) (hb : b < 2) (hB : B = tx (side k.data.toList b)) (hc : Consts w) :
    Calls Tryd.prog 39 #[.string k, .int .i64 (b : Int)] w fun e w' => e = .returned (.string B) ∧ Below w.heap.size w w' := by
  have HC := Lib.hid hc
  clear hc
  obtain rfl | rfl : b = 0 ∨ b = 1 := by omega
  · have HM := Lib.hid (fun u hu => mac_any k ⟨#[108, 101, 102, 116]⟩ B u hk (by decide) hB hu)
    clear hB hb
    go_enter Tryd.func39, Tryd.ntmps39
    go_wp2_with fail
    refine (HM.out _ HC.out).mono ?_
    rintro e w1 ⟨rfl, hb1⟩
    go_wp2
    go_ret
    exact ⟨rfl, hb1⟩
  · have HM := Lib.hid (fun u hu => mac_any k ⟨#[114, 105, 103, 104, 116]⟩ B u hk (by decide) hB hu)
    clear hB hb
    go_enter Tryd.func39, Tryd.ntmps39
    go_wp2_with fail
    refine (HM.out _ HC.out).mono ?_
    rintro e w1 ⟨rfl, hb1⟩
    go_wp2
    go_ret
    exact ⟨rfl, hb1⟩
theorem branch_zero (k B : ByteArray) (w : World) (hk : k.size ≤ 70368744177664) (hB : B = tx (side k.data.toList 0)) (hc : Consts w) :
    Calls Tryd.prog 39 #[.string k, .int .i64 0] w fun e w' => e = .returned (.string B) ∧ Below w.heap.size w w' := branch_any k B 0 w hk (by omega) hB hc
theorem branch_one (k B : ByteArray) (w : World) (hk : k.size ≤ 70368744177664) (hB : B = tx (side k.data.toList 1)) (hc : Consts w) :
    Calls Tryd.prog 39 #[.string k, .int .i64 1] w fun e w' => e = .returned (.string B) ∧ Below w.heap.size w w' := branch_any k B 1 w hk (by omega) hB hc

/-- The height beneath that of the keys. -/
def beneath (l : List (List UInt8)) : List (List UInt8) := l.flatMap fun x => [side x 0, side x 1]
theorem beneath_length (l : List (List UInt8)) : (beneath l).length = 2 * l.length := by
  induction l with
  | nil => rfl
  | cons x l ih => rw [beneath, List.flatMap_cons, List.length_append]; rw [beneath] at ih; rw [ih]; simp; omega
theorem beneath_succ (l : List (List UInt8)) (i : Nat) (h : i < l.length) : beneath (l.take (i + 1)) = beneath (l.take i) ++ [side l[i] 0, side l[i] 1] := by
  rw [List.take_succ_eq_append_getElem h]
  simp only [beneath, List.flatMap_append, List.flatMap_cons, List.flatMap_nil, List.append_nil]
theorem tree_succ (k : List UInt8) (h : Nat) : tree k (h + 1) = beneath (tree k h) := rfl
theorem tree_sizes (k : List UInt8) (M h : Nat) (hk : k.length ≤ M) (h32 : 32 ≤ M) : ∀ x ∈ tree k h, x.length ≤ M := by
  cases h with
  | zero => intro x hx; simp [tree] at hx; subst hx; exact hk
  | succ h =>
    intro x hx
    rw [tree, List.mem_flatMap] at hx
    obtain ⟨y, _, hy⟩ := hx
    rcases List.mem_cons.1 hy with rfl | hy
    · rw [side_length]; exact h32
    · rcases List.mem_cons.1 hy with rfl | hy
      · rw [side_length]; exact h32
      · cases hy

theorem make_room (w : World) (n : Nat) (hn : 16 * n ≤ 281474976710656) : (Instr.makeSlice 35 (.int .i64 0) (.int .i64 (n : Int))).run Tryd.prog w =
    .ok (.slice (some ⟨w.heap.size, 0, none⟩) 0 n) (w.alloc (.cells (madeCells #[.string ⟨#[]⟩] n) 9)) := by
  obtain ⟨i0, hi, hz0, hz1, hz2⟩ := info_parts Strs.info_str
  have h := run_make (P := Tryd.prog) w 35 9 i0 (.string ⟨#[]⟩) Tryd.underlying35 hi hz0 .i64 .i64 0 (n : Int) (by omega) (by omega) (by rw [hz2]; omega) (by omega)
  simpa [hz1, Value.cells] using h

set_option maxHeartbeats 1600000 in
theorem branches_any (l : List (List UInt8)) (g m c : Nat) (w : World) (hg : g < w.heap.size) (hm : m = l.length) (hm2 : m ≤ 1000) (hl : ∀ x ∈ l, x.length ≤ 70368744177664) (hcell : ∀ i x, l[i]? = some x → w.cell? ⟨g, i, none⟩ = some (.string (tx x))) (hc : Consts w) :
    Calls Tryd.prog 40 #[.slice (some ⟨g, 0, none⟩) m c] w fun e w' => ∃ v, e = .returned v ∧ w'.ownsRow w.heap.size 9 1 v (2 * m) (Strs.strsV ((beneath l).map tx)) ∧ Below w.heap.size w w' := by
  have hmk : ∀ u : World, (Instr.makeSlice 35 (.int .i64 0) (.int .i64 (2 * (m : Int)))).run Tryd.prog u = .ok (.slice (some ⟨u.heap.size, 0, none⟩) 0 (2 * m)) (u.alloc (.cells (madeCells #[.string ⟨#[]⟩] (2 * m)) 9)) := fun u => by
    have := make_room u (2 * m) (by omega)
    rw [Int.natCast_mul] at this
    exact this
  have hown0 := World.ownsRow_made (base := w.heap.size) (e := 9) (size := 1) w (madeCells #[.string ⟨#[]⟩] (2 * m)) (2 * m) (Nat.le_refl _) (by unfold maxLen; omega) (by rw [size_madeCells]; omega)
  have HC := Lib.hid hc
  have HMK := Lib.hid hmk
  have HOWN0 := Lib.hid hown0
  have HCL := Lib.hid hcell
  have HL := Lib.hid hl
  have HM := Lib.hid hm
  clear hc hmk hown0 hcell hl hm
  go_enter Tryd.func40, Tryd.ntmps40
  have hmk := HMK.out
  go_wp2_with fail
  clear hmk HMK
  go_loopw [3, 12] (fun v i wr => ∃ q : Nat, q ≤ m ∧ i = .int .i64 q ∧ wr.ownsRow w.heap.size 9 1 v (2 * q) (Strs.strsV ((beneath (l.take q)).map tx)) ∧ Below w.heap.size w wr) (fun _ i _ => m - (intOf i).toNat)
  case atStart => exact ⟨0, by omega, rfl, HOWN0.out, (Below.refl _ _).alloc (Nat.le_refl _) _⟩
  case round =>
    clear HOWN0
    obtain ⟨q, hq, rfl, hown, hbel⟩ := hrel
    have HOWN := Lib.hid hown
    have HW := Lib.hid hbel
    clear hown hbel
    by_cases hlt : q < m
    · have hql : q < l.length := by rw [← HM.out]; exact hlt
      have hcc := (HW.out.cell (p := ⟨g, q, none⟩) hg).trans (HCL.out q l[q] (List.getElem?_eq_getElem hql))
      obtain ⟨K, hK⟩ : ∃ K, K = tx l[q] := ⟨_, rfl⟩
      have hKs : K.size ≤ 70368744177664 := by rw [hK]; exact HL.out _ (List.getElem_mem hql)
      obtain ⟨A, hA⟩ : ∃ A, A = tx (side K.data.toList 0) := ⟨_, rfl⟩
      obtain ⟨B, hB⟩ : ∃ B, B = tx (side K.data.toList 1) := ⟨_, rfl⟩
      have h0 := fun u hu => branch_zero K A u hKs hA hu
      have h1 := fun u hu => branch_one K B u hKs hB hu
      have hstep : (beneath (l.take (q + 1))).map tx = (beneath (l.take q)).map tx ++ [A, B] := by
        rw [beneath_succ l q hql, List.map_append, hA, hB, hK]; rfl
      have H0 := Lib.hid h0
      have H1 := Lib.hid h1
      have HS := Lib.hid hstep
      rw [← hK] at hcc
      clear h0 h1 hstep hA hB hK hKs hql
      go_wp2_with fail
      refine (H0.out _ (HC.out.below HC.out.1 HW.out)).mono ?_
      rintro e w2 ⟨rfl, hb2⟩
      have HOWN2 := Lib.hid (Strs.own_below HOWN.out hb2)
      have HW2 := Lib.hid (HW.out.trans (hb2.mono HW.out.size))
      clear hb2 HOWN HW hcc
      go_wp2_with fail
      refine (H1.out _ (HC.out.below HC.out.1 HW2.out)).mono ?_
      rintro e w3 ⟨rfl, hb3⟩
      have HOWN3 := Lib.hid (Strs.own_below HOWN2.out hb3)
      have HW3 := Lib.hid (HW2.out.trans (hb3.mono HW2.out.size))
      clear hb3 HOWN2 HW2
      go_wp2_with (at_builtin; refine Strs.append_strs rfl _ _ rfl w.heap.size (2 * q) _ ((beneath (l.take q)).map tx) rfl (HOWN3.out.alloc _) w3.heap.size 2 2 [A, B] rfl rfl (Strs.new_two _ _ _ _) (by omega) (Nat.le_trans HW3.out.size (by simp)) ?_)
      intro v' w4 hown4 hgrow4
      have HW4 := Lib.hid ((HW3.out.alloc HW3.out.size (.cells #[.string A, .string B] 9)).grown hgrow4 (Nat.le_trans HW3.out.size (by simp)) (fun j hj => (HOWN3.out.lt j hj).1))
      rw [← HS.out] at hown4
      have HOWN4 := Lib.hid hown4
      clear hown4 hgrow4 HOWN3 HW3
      go_wp2
      go_roundw
      case rel => exact ⟨q + 1, by omega, by go_num, HOWN4.out, HW4.out⟩
      case measure => simp [intOf]; omega
    · obtain rfl : q = m := by omega
      have hown := HOWN.out
      rw [List.take_of_length_le (by have := HM.out; omega)] at hown
      have HOWN2 := Lib.hid hown
      clear hown HOWN
      go_wp2
      go_ret
      exact ⟨_, rfl, HOWN2.out, HW.out⟩

set_option maxHeartbeats 1600000 in
theorem tree_any (k : ByteArray) (h : Nat) (w : World) (hk : k.size ≤ 70368744177664) (hh : h ≤ 8) (hc : Consts w) :
    Calls Tryd.prog 24 #[.string k, .int .i64 h] w fun e w' => ∃ g c, e = .returned (.slice (some ⟨g, 0, none⟩) (2 ^ h) c) ∧ w'.ownsRow w.heap.size 9 1 (.slice (some ⟨g, 0, none⟩) (2 ^ h) c) (2 ^ h) (Strs.strsV ((tree k.data.toList h).map tx)) ∧ Below w.heap.size w w' := by
  have hd1 : decide ((h : Int) < 0) = false := by simp
  have hd2 : decide (8 < (h : Int)) = false := by simp; omega
  have hown0 : (w.alloc (.cells #[.string k] 9)).ownsRow w.heap.size 9 1 (.slice (some ⟨w.heap.size, 0, none⟩) 1 1) 1 (Strs.strsV ((tree k.data.toList 0).map tx)) :=
    ⟨rfl, .inr ⟨w.heap.size, 1, _, rfl, Nat.le_refl _, _root_.Go.heap_alloc_new w _, Nat.le_refl _, by unfold maxLen; omega, rfl, rfl⟩⟩
  have HC := Lib.hid hc
  have HOWN0 := Lib.hid hown0
  clear hc hown0
  go_enter Tryd.func24, Tryd.ntmps24
  go_wp2_with fail
  clear hd1 hd2
  go_loopw [5, 15] (fun v i wr => ∃ q g c : Nat, q ≤ h ∧ i = .int .i64 q ∧ v = .slice (some ⟨g, 0, none⟩) (2 ^ q) c ∧ wr.ownsRow w.heap.size 9 1 (.slice (some ⟨g, 0, none⟩) (2 ^ q) c) (2 ^ q) (Strs.strsV ((tree k.data.toList q).map tx)) ∧ Below w.heap.size w wr) (fun _ i _ => h - (intOf i).toNat)
  case atStart => exact ⟨0, w.heap.size, 1, by omega, rfl, rfl, HOWN0.out, (Below.refl _ _).alloc (Nat.le_refl _) _⟩
  case round =>
    clear HOWN0
    obtain ⟨q, g, c, hq, rfl, rfl, hown, hbel⟩ := hrel
    have HOWN := Lib.hid hown
    have HW := Lib.hid hbel
    clear hown hbel
    by_cases hlt : q < h
    · have hp : 2 ^ q ≤ 2 ^ 8 := Nat.pow_le_pow_right (by omega) (by omega)
      have hbr := branches_any (tree k.data.toList q) g (2 ^ q) c wr (HOWN.out.lt g rfl).2 (tree_length _ _).symm (by omega) (tree_sizes _ _ q hk (by omega))
        (fun i x hx => Strs.own_cell HOWN.out i _ (Strs.strsV_at (by rw [List.getElem?_map, hx]; rfl))) (HC.out.below HC.out.1 HW.out)
      rw [← tree_succ] at hbr
      have HBR := Lib.hid hbr
      clear hbr
      obtain ⟨p, hpq⟩ : ∃ p, p = 2 ^ q := ⟨_, rfl⟩
      have hpow : 2 ^ (q + 1) = 2 * p := by rw [hpq, Nat.pow_succ]; omega
      have hp1 : 0 < p := by rw [hpq]; exact Nat.two_pow_pos q
      have HPOW := Lib.hid hpow
      rw [← hpq] at HBR
      rw [← hpq]
      clear hpow HOWN hp hpq
      go_wp2_with fail
      refine HBR.out.mono ?_
      rintro e w2 ⟨v, rfl, hown2, hb2⟩
      rcases Strs.own_cases hown2 with ⟨_, h0, _⟩ | ⟨g2, c2, rfl, -, -, -, -⟩
      · omega
      have hown3 : w2.ownsRow w.heap.size 9 1 (.slice (some ⟨g2, 0, none⟩) (2 ^ (q + 1)) c2) (2 ^ (q + 1)) (Strs.strsV ((tree k.data.toList (q + 1)).map tx)) := by
        rw [HPOW.out]
        refine ⟨hown2.1, ?_⟩
        rcases hown2.2 with hn | ⟨g', c', cur, he, h1, h2⟩
        · exact .inl hn
        · exact .inr ⟨g', c', cur, he, Nat.le_trans HW.out.size h1, h2⟩
      have HOWN3 := Lib.hid hown3
      have HW3 := Lib.hid (HW.out.trans (hb2.mono HW.out.size))
      clear hown2 hown3 hb2 HBR HW
      go_wp2
      go_roundw
      case rel => exact ⟨q + 1, g2, c2, by omega, by go_num, by rw [HPOW.out], HOWN3.out, HW3.out⟩
      case measure => simp [intOf]; omega
    · obtain rfl : q = h := by omega
      go_wp2
      go_ret
      exact ⟨g, c, rfl, HOWN.out, HW.out⟩

set_option maxHeartbeats 400000 in
theorem tree_none (k : ByteArray) (h : Int) (w : World) (hh : h < 0 ∨ 8 < h) :
    Calls Tryd.prog 24 #[.string k, .int .i64 h] w fun e w' => e = .returned (.slice none 0 0) ∧ Below w.heap.size w w' := by
  rcases hh with hh | hh
  · have hd1 : decide (h < 0) = true := by simp; omega
    go_enter Tryd.func24, Tryd.ntmps24
    go_wp2
    go_ret
    exact ⟨rfl, Below.refl _ _⟩
  · have hd1 : decide (h < 0) = false := by simp; omega
    have hd2 : decide (8 < h) = true := by simp; omega
    go_enter Tryd.func24, Tryd.ntmps24
    go_wp2
    go_ret
    exact ⟨rfl, Below.refl _ _⟩
end Go.Proofs.YtleoblflhcbcbaaDoor.Ked
