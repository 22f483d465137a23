/-
  Names of package tape: what the plain mathematics of the text Tap says; all memory that was there is left as it was. Conditions: a list is read in memory (CelR) and has at most 1000000 cells; the word has at most 10^9 bytes.
-/
import Derived.Test.YtpamdpfgcbadhaaDoorTpS
namespace Go.Proofs.YtpamdpfgcbadhaaDoor.Tape
open Go.RowKit Mur Prt Tap Cel RTap
set_option maxRecDepth 100000
set_option linter.unusedSimpArgs false

theorem prefix_begins (n wd : List UInt8) : Lib.hasPrefix n (wd ++ [32]) = begins wd n := by
  rw [← Lib.hasPrefix_of_take, begins]
  by_cases h : wd.length < n.length
  · have hl : (wd ++ [32]).length = wd.length + 1 := by simp
    have hk : n[wd.length]? = some n[wd.length] := List.getElem?_eq_getElem h
    rw [hl, List.take_add_one, hk]
    have d1 : decide (wd.length + 1 ≤ n.length) = true := decide_eq_true (by omega)
    have d2 : decide (wd.length < n.length) = true := decide_eq_true h
    rw [d1, d2, Bool.true_and, Bool.true_and]
    have ht : (n.take wd.length).length = wd.length := by rw [List.length_take]; omega
    rw [Bool.eq_iff_iff, Bool.and_eq_true, beq_iff_eq, decide_eq_true_eq, decide_eq_true_eq]
    constructor
    · intro e
      have := List.append_inj e ht
      refine ⟨this.1, ?_⟩
      have e2 := this.2
      simp at e2
      rw [e2]
    · intro ⟨e1, e2⟩
      rw [e1]
      simp at e2
      simp [e2]
  · have d1 : decide ((wd ++ [32]).length ≤ n.length) = false := decide_eq_false (by simp; omega)
    have d2 : decide (wd.length < n.length) = false := decide_eq_false h
    rw [d1, d2]
    rfl
theorem own_none (w : World) : (w.alloc (.cells #[] 9)).ownsRow w.heap.size 9 1 (.slice (some ⟨w.heap.size, 0, none⟩) 0 0) 0 (Strs.strsV []) :=
  ⟨by simp [Strs.strsV], .inr ⟨w.heap.size, 0, #[], rfl, Nat.le_refl _, _root_.Go.heap_alloc_new w _, Nat.le_refl _, by unfold maxLen; omega, rfl, rfl⟩⟩

set_option maxHeartbeats 3200000 in
theorem names_any (l : List K) (n : Nat) (a : Option Addr) (c : Nat) (wd : ByteArray) (L : List (List UInt8)) (N : Nat) (w : World) (hL : L = names (toC l) wd.data.toList) (hN : L.length = N) (hr : CelR w a l) (hn : l.length = n) (hn2 : n ≤ 1000000) (hs : wd.size ≤ 1000000000) :
    Calls Tryd.prog 34 #[.slice a n c, .string wd] w fun e w' => ∃ ao co, e = .returned (.slice ao N co) ∧ StrsR w' ao (ofT L) ∧ (∀ q, ao = some q → w.heap.size ≤ q.block) ∧ Below w.heap.size w w' := by
  obtain ⟨W, hW⟩ : ∃ W, wd ++ (⟨#[32]⟩ : ByteArray) = W := ⟨_, rfl⟩
  have hWl : W.data.toList = wd.data.toList ++ [32] := by
    have : W = tx (wd.data.toList ++ [32]) := by rw [← hW, ← tx_append, Cel.tx_data]
    rw [this]
  have hbig : ¬ 9223372036854775807 < wd.size + (⟨#[32]⟩ : ByteArray).size := by
    show ¬ 9223372036854775807 < wd.size + 1
    omega
  have RP := Lib.hid (fun (A : ByteArray) (B : Bool) (u : World) (hB : B = begins wd.data.toList A.data.toList) => show Calls Tryd.prog 45 #[.string A, .string W] u fun e w' => e = .returned (.bool B) ∧ w' = u from by
    have := Tryd.strings_HasPrefix A W u
    rw [hWl, prefix_begins, ← hB] at this
    exact this)
  have HL := Lib.hid (And.intro hL hN)
  have HR := Lib.hid hr
  have HN := Lib.hid hn
  have HB0 := Lib.hid ((Below.refl w.heap.size w).alloc (Nat.le_refl _) (.cells #[] 9))
  have HO0 := Lib.hid (own_none w)
  clear hL hN hr hn hWl
  go_enter Tryd.func34, Tryd.ntmps34
  go_upto_region 2 with (fail)
  generalize w.alloc (.cells #[] 9) = w1 at *
  go_wp2
  go_loopw [5, 11] (fun ov i wr => ∃ (j m : Nat) (acc : List ByteArray), j ≤ n ∧ i = .int .i64 j ∧ m ≤ j ∧ wr.ownsRow w.heap.size 9 1 ov m (Strs.strsV acc) ∧ L = toT acc ++ names (toC (l.drop j)) wd.data.toList ∧ Below w.heap.size w wr) (fun _ i _ => n - (intOf i).toNat)
  case atStart => exact ⟨0, 0, [], by omega, rfl, Nat.le_refl _, HO0.out, HL.out.1, HB0.out⟩
  case round =>
    clear HB0 HO0
    obtain ⟨j, m, acc, hj, rfl, hm, hown, hg, hb⟩ := hrel
    have HB := Lib.hid hb
    have HG := Lib.hid hg
    have HO := Lib.hid hown
    clear hb hg hown
    by_cases hlt : j < n
    · have hjl : j < l.length := by have := HN.out; omega
      obtain ⟨g, o, rfl, hgb, hc⟩ := HR.out (by omega)
      obtain ⟨⟨A, D⟩, hx⟩ : ∃ x, l[j]? = some x := ⟨_, List.getElem?_eq_getElem hjl⟩
      have c1 : wr.cell? ⟨g, o + j * 2, none⟩ = some (.string A) := (HB.out.cell (p := ⟨g, o + j * 2, none⟩) hgb).trans (hc j _ hx).1
      have c2 : wr.cell? ⟨g, o + j * 2 + 1, none⟩ = some (.string D) := (HB.out.cell (p := ⟨g, o + j * 2 + 1, none⟩) hgb).trans (hc j _ hx).2
      have hg2 := HG.out
      rw [toC_drop l j _ hx, names_cons] at hg2
      have HB2 := Lib.hid (HB.out.alloc HB.out.size (.cells #[.string A, .string D] 50))
      have HO2 := Lib.hid (Strs.own_below HO.out ((Below.refl wr.heap.size wr).alloc (Nat.le_refl _) (.cells #[.string A, .string D] 50)))
      obtain ⟨B, hB⟩ : ∃ B, B = begins wd.data.toList A.data.toList := ⟨_, rfl⟩
      rw [← hB] at hg2
      have RB := Lib.hid (fun u => RP.out A B u hB)
      have HG2 := Lib.hid hg2
      clear hjl hgb hc hx hg2 hB
      go_upto_region 5 with (fail)
      have hcA : (wr.alloc (.cells #[.string A, .string D] 50)).cell? ⟨wr.heap.size, 0, none⟩ = some (.string A) := new_cel wr (A, D) _ 0 _ rfl
      obtain ⟨z, hz⟩ : ∃ z, z = wr.heap.size := ⟨_, rfl⟩
      rw [← hz] at hcA ⊢
      generalize wr.alloc (.cells #[.string A, .string D] 50) = w2 at *
      clear hz c1 c2
      cases B with
      | true =>
        have HG3 := Lib.hid (show L = toT (acc ++ [A]) ++ names (toC (l.drop (j + 1))) wd.data.toList from by rw [HG2.out, if_pos rfl, toT_snoc]; simp)
        have HB3 := Lib.hid (HB2.out.alloc HB2.out.size (.cells #[.string A] 9))
        have HO3 := Lib.hid (Strs.own_below HO2.out ((Below.refl w2.heap.size w2).alloc (Nat.le_refl _) (.cells #[.string A] 9)))
        go_upto_region 6 with ((with_reducible refine (RB.out _).mono ?_); rintro e w3 ⟨rfl, rfl⟩)
        go_wp2_with (at_builtin; refine Strs.append_strs rfl _ _ rfl w.heap.size m _ acc rfl HO3.out _ 1 1 [A] rfl rfl (Strs.new_one _ A _) (by omega) HB3.out.size ?_; intro v' w4 hown4 hgrow4)
        have HO4 := Lib.hid hown4
        have HB4 := Lib.hid (HB3.out.grown hgrow4 HB3.out.size (fun q hq => (HO3.out.lt q hq).1))
        clear hown4 hgrow4
        go_wp2
        go_roundw
        case rel => exact ⟨j + 1, m + 1, acc ++ [A], by omega, by go_num, by omega, HO4.out, HG3.out, HB4.out⟩
        case measure => simp [intOf]; omega
      | false =>
        have HG3 := Lib.hid (show L = toT acc ++ names (toC (l.drop (j + 1))) wd.data.toList from by have := HG2.out; rwa [if_neg (by decide)] at this)
        go_wp2_with ((with_reducible refine (RB.out _).mono ?_); rintro e w3 ⟨rfl, rfl⟩)
        go_roundw
        case rel => exact ⟨j + 1, m, acc, by omega, by go_num, by omega, HO2.out, HG3.out, HB2.out⟩
        case measure => simp [intOf]; omega
    · obtain rfl : j = n := by omega
      have hlt2 : ¬ ((j : Int) < (j : Int)) := by omega
      have hfin : L = toT acc := by rw [HG.out, toC_done l j HN.out]; show toT acc ++ [] = _; rw [List.append_nil]
      obtain ⟨ao, co, rfl, hlen, hst, hfr⟩ := own_strs HO.out
      obtain rfl : m = N := by rw [← HL.out.2, hfin, toT_length]; exact hlen
      have HC := Lib.hid (show StrsR wr ao (ofT L) from by rw [hfin, ofT_toT]; exact hst)
      have HF := Lib.hid hfr
      clear hfin hlen hst hfr
      go_wp2
      go_ret
      exact ⟨ao, ⟨co, rfl⟩, HC.out, HF.out, HB.out⟩
end Go.Proofs.YtpamdpfgcbadhaaDoor.Tape
