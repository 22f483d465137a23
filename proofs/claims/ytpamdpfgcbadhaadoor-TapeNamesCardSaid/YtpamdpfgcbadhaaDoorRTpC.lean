/-
  The document's own answer for the names of a word (Names) of layer 15 is what the plain mathematics of the text Tap says; all memory that was there is left as it was. Conditions: a list is read in memory (CelR) and has at most 1000000 cells; the word has at most 10^9 bytes.
-/
import Derived.Test.YtpamdpfgcbadhaaDoorRTpB
namespace Go.Proofs.YtpamdpfgcbadhaaDoor.RTap
open Go.RowKit Mur Prt Tap Cel
set_option maxRecDepth 100000
set_option linter.unusedSimpArgs false

/-- A slice of texts as it is read. -/
def StrsR (w : World) (a : Option Addr) (l : List ByteArray) : Prop := l.length ≠ 0 → ∃ b o, a = some ⟨b, o, none⟩ ∧ b < w.heap.size ∧ ∀ i x, l[i]? = some x → w.cell? ⟨b, o + i, none⟩ = some (.string x)
theorem StrsR.below {w w' : World} {a : Option Addr} {l : List ByteArray} (h : StrsR w a l) (k : Below w.heap.size w w') : StrsR w' a l := fun hl => by
  obtain ⟨b, o, ha, hb, hc⟩ := h hl
  exact ⟨b, o, ha, Nat.lt_of_lt_of_le hb k.size, fun i x hx => (k.cell (p := ⟨b, o + i, none⟩) hb).trans (hc i x hx)⟩
theorem own_strs {w : World} {base n : Nat} {v : Value} {l : List ByteArray} (h : w.ownsRow base 9 1 v n (Strs.strsV l)) : ∃ ao c, v = .slice ao n c ∧ n = l.length ∧ StrsR w ao l ∧ ∀ q, ao = some q → base ≤ q.block := by
  rcases Strs.own_cases h with ⟨rfl, rfl, h3⟩ | ⟨g, c, rfl, h1, h2, _, h4⟩
  · have h0 : l = [] := List.eq_nil_of_length_eq_zero (by rw [← Strs.strsV_length l, h3]; rfl)
    subst h0
    exact ⟨none, 0, rfl, rfl, fun h => absurd rfl h, fun q hq => by cases hq⟩
  · refine ⟨some ⟨g, 0, none⟩, c, rfl, by rw [h4, Strs.strsV_length], fun _ => ⟨g, 0, rfl, h2, fun i x hx => ?_⟩, fun q hq => by cases hq; exact h1⟩
    rw [Nat.zero_add]
    exact Strs.own_cell h i _ (by simp [Strs.strsV, hx])
def ofT (l : List (List UInt8)) : List ByteArray := l.map tx
def toT (l : List ByteArray) : List (List UInt8) := l.map fun s => s.data.toList
theorem ofT_toT (l : List ByteArray) : ofT (toT l) = l := by
  rw [ofT, toT, List.map_map]
  exact List.map_id'' (fun s => Cel.tx_data s) l
theorem toT_length (l : List ByteArray) : (toT l).length = l.length := by simp [toT]
theorem toT_snoc (l : List ByteArray) (x : ByteArray) : toT (l ++ [x]) = toT l ++ [x.data.toList] := by simp [toT]
theorem names_cons (c : C) (l : List C) (word : List UInt8) : names (c :: l) word = if begins word c.1 = true then c.1 :: names l word else names l word := by
  rw [names, List.map_cons, List.filter_cons]
  rfl

set_option maxHeartbeats 3200000 in
theorem names_any (l : List K) (n : Nat) (a : Option Addr) (c : Nat) (wd : ByteArray) (L : List (List UInt8)) (N : Nat) (w : World) (hL : L = names (toC l) wd.data.toList) (hN : L.length = N) (hr : CelR w a l) (hn : l.length = n) (hn2 : n ≤ 1000000) (hs : wd.size ≤ 1000000000) :
    Calls Tryd.prog 35 #[.slice a n c, .string wd] w fun e w' => ∃ ao co, e = .returned (.slice ao N co) ∧ StrsR w' ao (ofT L) ∧ (∀ q, ao = some q → w.heap.size ≤ q.block) ∧ Below w.heap.size w w' := by
  have HL := Lib.hid (And.intro hL hN)
  have HR := Lib.hid hr
  have HN := Lib.hid hn
  clear hL hN hr hn
  go_enter Tryd.func35, Tryd.ntmps35
  go_wp2
  go_loopw [5, 10] (fun ov i wr => ∃ (j m : Nat) (acc : List ByteArray), j ≤ n ∧ i = .int .i64 j ∧ m ≤ j ∧ wr.ownsRow w.heap.size 9 1 ov m (Strs.strsV acc) ∧ L = toT acc ++ names (toC (l.drop j)) wd.data.toList ∧ Below w.heap.size w wr) (fun _ i _ => n - (intOf i).toNat)
  case atStart => exact ⟨0, 0, [], by omega, rfl, Nat.le_refl _, ⟨by simp [Strs.strsV], .inl ⟨rfl, rfl⟩⟩, HL.out.1, Below.refl _ _⟩
  case round =>
    obtain ⟨j, m, acc, hj, rfl, hm, hown, hg, hb⟩ := hrel
    have HB := Lib.hid hb
    have HG := Lib.hid hg
    have HO := Lib.hid hown
    clear hb hg hown
    by_cases hlt : j < n
    · have hjl : j < l.length := by have := HN.out; omega
      obtain ⟨g, o, rfl, hgb, hc⟩ := HR.out (by omega)
      obtain ⟨⟨A, D⟩, hx⟩ : ∃ x, l[j]? = some x := ⟨_, List.getElem?_eq_getElem hjl⟩
      have c1 : wr.cell? ⟨g, o + j * 2, none⟩ = some (.string A) := (HB.out.cell (p := ⟨g, o + j * 2, none⟩) hgb).trans (hc j _ hx).1
      have c2 : wr.cell? ⟨g, o + j * 2 + 1, none⟩ = some (.string D) := (HB.out.cell (p := ⟨g, o + j * 2 + 1, none⟩) hgb).trans (hc j _ hx).2
      have hg2 := HG.out
      rw [toC_drop l j _ hx, names_cons] at hg2
      have HG2 := Lib.hid hg2
      have HB2 := Lib.hid (HB.out.alloc HB.out.size (.cells #[.string A, .string D] 50))
      have HO2 := Lib.hid (Strs.own_below HO.out ((Below.refl wr.heap.size wr).alloc (Nat.le_refl _) (.cells #[.string A, .string D] 50)))
      clear hjl hgb hc hx hg2
      go_upto_region 5 with (fail)
      have hcA : (wr.alloc (.cells #[.string A, .string D] 50)).cell? ⟨wr.heap.size, 0, none⟩ = some (.string A) := new_cel wr (A, D) _ 0 _ rfl
      obtain ⟨z, hz⟩ : ∃ z, z = wr.heap.size := ⟨_, rfl⟩
      rw [← hz] at hcA ⊢
      generalize wr.alloc (.cells #[.string A, .string D] 50) = w2 at *
      clear hz c1 c2
      by_cases h1 : wd.size < A.size
      · have d1 : decide ((wd.size : Int) < (A.size : Int)) = true := decide_eq_true (by omega)
        have d2 : decide (wd.size < A.size) = true := decide_eq_true h1
        obtain ⟨P, hP⟩ : ∃ P, P = A.extract 0 wd.size := ⟨_, rfl⟩
        have hsl : ∀ u, (Instr.slice 9 (.string A) none (some (.int .i64 (wd.size : Int))) none).run Tryd.prog u = .ok (.string P) u := fun u => by
          rw [hP]
          exact run_slice_string_h (P := Tryd.prog) u 9 A Tryd.underlying9 .i64 (wd.size : Int) (by omega) (by omega)
        have hPl : P.data.toList = A.data.toList.take wd.data.toList.length := by rw [hP, piece_tx]; rfl
        by_cases h2 : P.data.toList = wd.data.toList
        · have q1 := eql_yes P wd h2
          have hlt3 : wd.data.toList.length < A.data.toList.length := h1
          obtain ⟨b, hb⟩ : ∃ b, A.data.toList[wd.data.toList.length]? = some b := ⟨_, List.getElem?_eq_getElem hlt3⟩
          have hbq : A[wd.size] = b := (List.getElem?_eq_some_iff.1 hb).2
          have hix : ∀ u, (Instr.index 9 (.string A) (.int .i64 (wd.size : Int))).run Tryd.prog u = .ok (.int .u8 (b.toNat : Int)) u := fun u => by
            rw [run_index_string (P := Tryd.prog) u 9 A .i64 (wd.size : Int) Tryd.underlying9, dif_pos ⟨by omega, by omega⟩]
            simp only [Int.toNat_natCast, hbq]
          have hbe : begins wd.data.toList A.data.toList = decide (b = 32) := by
            rw [begins, decide_eq_true hlt3, decide_eq_true (by rw [← hPl]; exact h2), hb]
            simp
          have hg3 := HG2.out
          rw [hbe] at hg3
          clear hbe hP hPl h2 hb hlt3 hbq
          by_cases hb32 : b = 32
          · subst hb32
            rw [if_pos (by decide)] at hg3
            have HG3 := Lib.hid (show L = toT (acc ++ [A]) ++ names (toC (l.drop (j + 1))) wd.data.toList from by rw [hg3, toT_snoc]; simp)
            have q2 : ((((32 : UInt8).toNat : Int)) == 32) = true := by decide
            have HB3 := Lib.hid (HB2.out.alloc HB2.out.size (.cells #[.string A] 9))
            have HO3 := Lib.hid (Strs.own_below HO2.out ((Below.refl w2.heap.size w2).alloc (Nat.le_refl _) (.cells #[.string A] 9)))
            clear hg3
            go_wp2_with (at_builtin; refine Strs.append_strs rfl _ _ rfl w.heap.size m _ acc rfl HO3.out w2.heap.size 1 1 [A] rfl rfl (Strs.new_one w2 A _) (by omega) HB3.out.size ?_; intro v' w4 hown4 hgrow4)
            have HO4 := Lib.hid hown4
            have HB4 := Lib.hid (HB3.out.grown hgrow4 HB3.out.size (fun q hq => (HO3.out.lt q hq).1))
            clear hown4 hgrow4
            go_wp2
            go_roundw
            case rel => exact ⟨j + 1, m + 1, acc ++ [A], by omega, by go_num, by omega, HO4.out, HG3.out, HB4.out⟩
            case measure => simp [intOf]; omega
          · have q2 : ((b.toNat : Int) == 32) = false := by
              have : b.toNat ≠ 32 := fun h => hb32 (UInt8.toNat_inj.1 (h.trans rfl))
              simp
              omega
            rw [decide_eq_false hb32, if_neg (by decide)] at hg3
            have HG3 := Lib.hid hg3
            clear hg3 hb32
            go_wp2
            go_roundw
            case rel => exact ⟨j + 1, m, acc, by omega, by go_num, by omega, HO2.out, HG3.out, HB2.out⟩
            case measure => simp [intOf]; omega
        · have q1 := eql_no P wd h2
          have hno : begins wd.data.toList A.data.toList = false := by
            rw [begins, Bool.and_eq_false_iff, Bool.and_eq_false_iff]
            exact .inl (.inr (decide_eq_false (by rw [← hPl]; exact h2)))
          have HG3 := Lib.hid (show L = toT acc ++ names (toC (l.drop (j + 1))) wd.data.toList from by have := HG2.out; rwa [hno, if_neg (by decide)] at this)
          clear hP hPl h2 hno
          go_wp2
          go_roundw
          case rel => exact ⟨j + 1, m, acc, by omega, by go_num, by omega, HO2.out, HG3.out, HB2.out⟩
          case measure => simp [intOf]; omega
      · have d1 : decide ((wd.size : Int) < (A.size : Int)) = false := decide_eq_false (by omega)
        have d2 : decide (wd.size < A.size) = false := decide_eq_false h1
        have hno : begins wd.data.toList A.data.toList = false := by
          rw [begins, Bool.and_eq_false_iff, Bool.and_eq_false_iff]
          exact .inl (.inl (decide_eq_false (fun k => h1 k)))
        have HG3 := Lib.hid (show L = toT acc ++ names (toC (l.drop (j + 1))) wd.data.toList from by have := HG2.out; rwa [hno, if_neg (by decide)] at this)
        clear hno
        go_wp2
        go_roundw
        case rel => exact ⟨j + 1, m, acc, by omega, by go_num, by omega, HO2.out, HG3.out, HB2.out⟩
        case measure => simp [intOf]; omega
    · obtain rfl : j = n := by omega
      have hlt2 : ¬ ((j : Int) < (j : Int)) := by omega
      have hfin : L = toT acc := by rw [HG.out, toC_done l j HN.out]; show toT acc ++ [] = _; rw [List.append_nil]
      obtain ⟨ao, co, rfl, hlen, hst, hfr⟩ := own_strs HO.out
      obtain rfl : m = N := by rw [← HL.out.2, hfin, toT_length]; exact hlen
      have HC := Lib.hid (show StrsR wr ao (ofT L) from by rw [hfin, ofT_toT]; exact hst)
      have HF := Lib.hid hfr
      clear hfin hlen hst hfr
      go_wp2
      go_ret
      exact ⟨ao, ⟨co, rfl⟩, HC.out, HF.out, HB.out⟩
end Go.Proofs.YtpamdpfgcbadhaaDoor.RTap
