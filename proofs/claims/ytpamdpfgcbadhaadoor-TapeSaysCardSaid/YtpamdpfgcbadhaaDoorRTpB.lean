/-
  The document's own answers for cells got and put, and names of a word (Get, Put, Names) of layer 15 are what the plain mathematics of the text Tap says; all memory that was there is left as it was. Conditions: a list is read in memory (CelR) and has at most 1000000 cells.
-/
import Derived.Test.YtpamdpfgcbadhaaDoorRTpA
namespace Go.Proofs.YtpamdpfgcbadhaaDoor.RTap
open Go.RowKit Mur Prt Tap Cel
set_option maxRecDepth 100000
set_option linter.unusedSimpArgs false

/-- What is got: the bytes, and whether there are any. -/
def gotX (r : Option (List UInt8)) : ByteArray := match r with
  | some s => tx s
  | none => ⟨#[]⟩
theorem get_cons (c : C) (l : List C) (n : List UInt8) : get (c :: l) n = if c.1 = n then some c.2 else get l n := rfl
theorem toC_drop (l : List K) (j : Nat) (x : K) (h : l[j]? = some x) : toC (l.drop j) = (x.1.data.toList, x.2.data.toList) :: toC (l.drop (j + 1)) := by
  have hj := (List.getElem?_eq_some_iff.1 h).1
  rw [List.drop_eq_getElem_cons hj, (List.getElem?_eq_some_iff.1 h).2]
  rfl
theorem toC_done (l : List K) (n : Nat) (h : l.length = n) : toC (l.drop n) = [] := by
  rw [List.drop_eq_nil_of_le (Nat.le_of_eq h)]
  rfl

set_option maxHeartbeats 1600000 in
theorem get_any (l : List K) (n : Nat) (a : Option Addr) (c : Nat) (nm X : ByteArray) (B : Bool) (w : World) (hX : X = gotX (get (toC l) nm.data.toList)) (hB : B = (get (toC l) nm.data.toList).isSome) (hr : CelR w a l) (hn : l.length = n) (hn2 : n ≤ 1000000) :
    Calls Tryd.prog 10 #[.slice a n c, .string nm] w fun e w' => e = .returned (.tuple #[.string X, .bool B]) ∧ Below w.heap.size w w' := by
  have HX := Lib.hid (And.intro hX hB)
  have HR := Lib.hid hr
  have HN := Lib.hid hn
  clear hX hB hr hn
  go_enter Tryd.func10, Tryd.ntmps10
  go_wp2
  go_loopw [10] (fun i wr => ∃ j : Nat, j ≤ n ∧ i = .int .i64 j ∧ get (toC l) nm.data.toList = get (toC (l.drop j)) nm.data.toList ∧ Below w.heap.size w wr) (fun i _ => n - (intOf i).toNat)
  case atStart => exact ⟨0, by omega, rfl, rfl, Below.refl _ _⟩
  case round =>
    obtain ⟨j, hj, rfl, hg, hb⟩ := hrel
    have HB := Lib.hid hb
    have HG := Lib.hid hg
    clear hb hg
    by_cases hlt : j < n
    · have hjl : j < l.length := by have := HN.out; omega
      obtain ⟨g, o, rfl, hgb, hc⟩ := HR.out (by omega)
      obtain ⟨⟨A, D⟩, hx⟩ : ∃ x, l[j]? = some x := ⟨_, List.getElem?_eq_getElem hjl⟩
      have c1 : wr.cell? ⟨g, o + j * 2, none⟩ = some (.string A) := (HB.out.cell (p := ⟨g, o + j * 2, none⟩) hgb).trans (hc j _ hx).1
      have c2 : wr.cell? ⟨g, o + j * 2 + 1, none⟩ = some (.string D) := (HB.out.cell (p := ⟨g, o + j * 2 + 1, none⟩) hgb).trans (hc j _ hx).2
      have hg2 := HG.out
      rw [toC_drop l j _ hx, get_cons] at hg2
      have HB2 := Lib.hid (HB.out.alloc HB.out.size (.cells #[.string A, .string D] 50))
      by_cases he : A.data.toList = nm.data.toList
      · rw [if_pos he] at hg2
        obtain ⟨rfl, rfl⟩ : X = D ∧ B = true := by
          rw [HX.out.1, HX.out.2, hg2]
          exact ⟨Cel.tx_data D, rfl⟩
        have hq := eql_yes A nm he
        clear hjl hgb hc hx he hg2
        go_wp2
        go_ret2
        exact ⟨rfl, HB2.out⟩
      · rw [if_neg he] at hg2
        have HG2 := Lib.hid hg2
        have hq := eql_no A nm he
        clear hjl hgb hc hx he hg2
        go_wp2
        go_roundw
        case rel => exact ⟨j + 1, by omega, by go_num, HG2.out, HB2.out⟩
        case measure => simp [intOf]; omega
    · obtain rfl : j = n := by omega
      have hlt2 : ¬ ((j : Int) < (j : Int)) := by omega
      obtain ⟨rfl, rfl⟩ : X = ⟨#[]⟩ ∧ B = false := by
        rw [HX.out.1, HX.out.2, HG.out, toC_done l j HN.out]
        exact ⟨rfl, rfl⟩
      go_wp2
      go_ret2
      exact ⟨rfl, HB.out⟩

theorem putF_cons (n s : List UInt8) (d : Bool) (c : C) (l : List C) : putF n s d (c :: l) = if c.1 = n then (if d = true then putF n s true l else (n, s) :: putF n s true l) else c :: putF n s d l := rfl
theorem toC_snoc (acc : List K) (A D : ByteArray) : toC (acc ++ [(A, D)]) = toC acc ++ [(A.data.toList, D.data.toList)] := toC_append acc [(A, D)]

set_option maxHeartbeats 3200000 in
theorem put_any (l : List K) (n : Nat) (a : Option Addr) (c : Nat) (nm s : ByteArray) (L : List C) (N : Nat) (w : World) (hL : L = put (toC l) nm.data.toList s.data.toList) (hN : L.length = N) (hr : CelR w a l) (hn : l.length = n) (hn2 : n ≤ 1000000) :
    Calls Tryd.prog 13 #[.slice a n c, .string nm, .string s] w fun e w' => ∃ ao co, e = .returned (.slice ao N co) ∧ CelR w' ao (ofC L) ∧ (∀ q, ao = some q → w.heap.size ≤ q.block) ∧ Below w.heap.size w w' := by
  have HL := Lib.hid (And.intro hL hN)
  have HR := Lib.hid hr
  have HN := Lib.hid hn
  clear hL hN hr hn
  have hb0 : Tryd.prog.built 50 [(0, .string nm), (1, .string s)] = some #[.string nm, .string s] := by kernel_rfl
  go_enter Tryd.func13, Tryd.ntmps13
  go_wp2
  go_loopw [7, 8, 13] (fun ov dv i wr => ∃ (j m : Nat) (acc : List K) (d : Bool), j ≤ n ∧ dv = .bool d ∧ i = .int .i64 j ∧ m ≤ j ∧ wr.ownsRow w.heap.size 50 2 ov m (cellsV acc) ∧ L = toC acc ++ putF nm.data.toList s.data.toList d (toC (l.drop j)) ∧ Below w.heap.size w wr) (fun _ _ i _ => n - (intOf i).toNat)
  case atStart => exact ⟨0, 0, [], false, by omega, rfl, rfl, Nat.le_refl _, own_start w _, HL.out.1, Below.refl _ _⟩
  case round =>
    obtain ⟨j, m, acc, d, hj, rfl, rfl, hm, hown, hg, hb⟩ := hrel
    have HB := Lib.hid hb
    have HG := Lib.hid hg
    have HO := Lib.hid hown
    clear hb hg hown
    by_cases hlt : j < n
    · have hjl : j < l.length := by have := HN.out; omega
      obtain ⟨g, o, rfl, hgb, hc⟩ := HR.out (by omega)
      obtain ⟨⟨A, D⟩, hx⟩ : ∃ x, l[j]? = some x := ⟨_, List.getElem?_eq_getElem hjl⟩
      have c1 : wr.cell? ⟨g, o + j * 2, none⟩ = some (.string A) := (HB.out.cell (p := ⟨g, o + j * 2, none⟩) hgb).trans (hc j _ hx).1
      have c2 : wr.cell? ⟨g, o + j * 2 + 1, none⟩ = some (.string D) := (HB.out.cell (p := ⟨g, o + j * 2 + 1, none⟩) hgb).trans (hc j _ hx).2
      have hg2 := HG.out
      rw [toC_drop l j _ hx, putF_cons] at hg2
      have HB2 := Lib.hid (HB.out.alloc HB.out.size (.cells #[.string A, .string D] 50))
      have HO2 := Lib.hid (Strs.own_below HO.out ((Below.refl wr.heap.size wr).alloc (Nat.le_refl _) (.cells #[.string A, .string D] 50)))
      by_cases he : A.data.toList = nm.data.toList
      · rw [if_pos he] at hg2
        have hq := eql_yes A nm he
        have hq2 : (!(A.toList == nm.toList)) = false := by rw [hq]; rfl
        cases d with
        | true =>
          rw [if_pos rfl] at hg2
          have HG2 := Lib.hid hg2
          clear hjl hgb hc hx he hg2
          go_wp2
          go_roundw
          case rel => exact ⟨j + 1, m, acc, true, by omega, rfl, by go_num, by omega, HO2.out, HG2.out, HB2.out⟩
          case measure => simp [intOf]; omega
        | false =>
          rw [if_neg (by decide)] at hg2
          have HG2 := Lib.hid (show L = toC (acc ++ [(nm, s)]) ++ putF nm.data.toList s.data.toList true (toC (l.drop (j + 1))) from by rw [hg2, toC_snoc]; simp)
          clear hjl hgb hc hx he hg2
          go_upto_region 9 with (fail)
          generalize wr.alloc (.cells #[.string A, .string D] 50) = w2 at *
          have HB3 := Lib.hid (HB2.out.alloc HB2.out.size (.cells #[.string nm, .string s] 50))
          have HO3 := Lib.hid (Strs.own_below HO2.out ((Below.refl w2.heap.size w2).alloc (Nat.le_refl _) (.cells #[.string nm, .string s] 50)))
          go_wp2_with (at_builtin; refine append_cel rfl _ _ rfl w.heap.size m _ acc rfl HO3.out w2.heap.size 1 (nm, s) rfl (new_cel w2 (nm, s) _) (by omega) HB3.out.size ?_; intro v' w4 hown4 hgrow4)
          have HO4 := Lib.hid hown4
          have HB4 := Lib.hid (HB3.out.grown hgrow4 HB3.out.size (fun q hq => (HO3.out.lt q hq).1))
          clear hown4 hgrow4
          go_wp2
          go_roundw
          case rel => exact ⟨j + 1, m + 1, acc ++ [(nm, s)], true, by omega, rfl, by go_num, by omega, HO4.out, HG2.out, HB4.out⟩
          case measure => simp [intOf]; omega
      · rw [if_neg he] at hg2
        have HG2 := Lib.hid (show L = toC (acc ++ [(A, D)]) ++ putF nm.data.toList s.data.toList d (toC (l.drop (j + 1))) from by rw [hg2, toC_snoc]; simp)
        have hq := eql_no A nm he
        have hq2 : (!(A.toList == nm.toList)) = true := by rw [hq]; rfl
        clear hjl hgb hc hx he hg2
        go_upto_region 7 with (fail)
        have hcA : (wr.alloc (.cells #[.string A, .string D] 50)).cell? ⟨wr.heap.size, 0, none⟩ = some (.string A) := new_cel wr (A, D) _ 0 _ rfl
        have hcD : (wr.alloc (.cells #[.string A, .string D] 50)).cell? ⟨wr.heap.size, 1, none⟩ = some (.string D) := new_cel wr (A, D) _ 1 _ rfl
        obtain ⟨z, hz⟩ : ∃ z, z = wr.heap.size := ⟨_, rfl⟩
        rw [← hz] at hcA hcD ⊢
        generalize wr.alloc (.cells #[.string A, .string D] 50) = w2 at *
        have HB3 := Lib.hid (HB2.out.alloc HB2.out.size (.cells #[.string A, .string D] 50))
        have HO3 := Lib.hid (Strs.own_below HO2.out ((Below.refl w2.heap.size w2).alloc (Nat.le_refl _) (.cells #[.string A, .string D] 50)))
        clear hz
        go_wp2_with (at_builtin; refine append_cel rfl _ _ rfl w.heap.size m _ acc rfl HO3.out w2.heap.size 1 (A, D) rfl (new_cel w2 (A, D) _) (by omega) HB3.out.size ?_; intro v' w4 hown4 hgrow4)
        have HO4 := Lib.hid hown4
        have HB4 := Lib.hid (HB3.out.grown hgrow4 HB3.out.size (fun q hq => (HO3.out.lt q hq).1))
        clear hown4 hgrow4
        go_wp2
        go_roundw
        case rel => exact ⟨j + 1, m + 1, acc ++ [(A, D)], d, by omega, rfl, by go_num, by omega, HO4.out, HG2.out, HB4.out⟩
        case measure => simp [intOf]; omega
    · obtain rfl : j = n := by omega
      have hlt2 : ¬ ((j : Int) < (j : Int)) := by omega
      have hg2 := HG.out
      rw [toC_done l j HN.out] at hg2
      cases d with
      | true =>
        have hfin : L = toC acc := by rw [hg2]; show toC acc ++ [] = _; rw [List.append_nil]
        obtain ⟨ao, co, rfl, hlen, hcel, hfr⟩ := own_cel HO.out
        obtain rfl : m = N := by rw [← HL.out.2, hfin, toC_length]; exact hlen
        have HC := Lib.hid (show CelR wr ao (ofC L) from by rw [hfin, ofC_toC]; exact hcel)
        have HF := Lib.hid hfr
        clear hfin hlen hcel hfr hg2
        go_wp2
        go_ret
        exact ⟨ao, ⟨co, rfl⟩, HC.out, HF.out, HB.out⟩
      | false =>
        have hfin : L = toC (acc ++ [(nm, s)]) := by rw [hg2, toC_snoc]; rfl
        have HFN := Lib.hid hfin
        clear hg2 hfin
        go_upto_region 13 with (fail)
        have HB3 := Lib.hid (HB.out.alloc HB.out.size (.cells #[.string nm, .string s] 50))
        have HO3 := Lib.hid (Strs.own_below HO.out ((Below.refl wr.heap.size wr).alloc (Nat.le_refl _) (.cells #[.string nm, .string s] 50)))
        go_wp2_with (at_builtin; refine append_cel rfl _ _ rfl w.heap.size m _ acc rfl HO3.out wr.heap.size 1 (nm, s) rfl (new_cel wr (nm, s) _) (by omega) HB3.out.size ?_; intro v' w4 hown4 hgrow4)
        have HB4 := Lib.hid (HB3.out.grown hgrow4 HB3.out.size (fun q hq => (HO3.out.lt q hq).1))
        obtain ⟨ao, co, rfl, hlen, hcel, hfr⟩ := own_cel hown4
        obtain rfl : m + 1 = N := by rw [← HL.out.2, HFN.out, toC_length]; exact hlen
        have HC := Lib.hid (show CelR w4 ao (ofC L) from by rw [HFN.out, ofC_toC]; exact hcel)
        have HF := Lib.hid hfr
        clear hown4 hgrow4 hlen hcel hfr
        go_wp2
        go_ret
        exact ⟨ao, ⟨co, rfl⟩, HC.out, HF.out, HB4.out⟩
end Go.Proofs.YtpamdpfgcbadhaaDoor.RTap
