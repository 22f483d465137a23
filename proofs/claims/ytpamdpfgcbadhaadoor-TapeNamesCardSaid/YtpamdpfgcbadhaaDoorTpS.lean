/-
  Read of package tape: what the plain mathematics of the text Tap says; all memory that was there is left as it was. Conditions: a text has at most 10^9 bytes.
-/
import Derived.Test.YtpamdpfgcbadhaaDoorTpR
namespace Go.Proofs.YtpamdpfgcbadhaaDoor.Tape
open Go.RowKit Mur Prt Lanes Tap Cel RTap
set_option maxRecDepth 100000
set_option linter.unusedSimpArgs false

theorem own_empty (w : World) : (w.alloc (.cells #[] 50)).ownsRow w.heap.size 50 2 (.slice (some ⟨w.heap.size, 0, none⟩) 0 0) 0 (cellsV []) :=
  ⟨by simp [cellsV], .inr ⟨w.heap.size, 0, #[], rfl, Nat.le_refl _, _root_.Go.heap_alloc_new w _, Nat.le_refl _, by unfold maxLen; omega, rfl, rfl⟩⟩

set_option maxHeartbeats 6400000 in
theorem read_any (s : ByteArray) (L : List C) (N : Nat) (E : Int) (w : World) (hL : L = outL (read s.data.toList)) (hE : E = outE (read s.data.toList)) (hN : L.length = N) (hs : s.size ≤ 1000000000) :
    Calls Tryd.prog 32 #[.string s] w fun e w' => ∃ ao co, e = .returned (.tuple #[.slice ao N co, .int .i64 E]) ∧ CelR w' ao (ofC L) ∧ (∀ q, ao = some q → w.heap.size ≤ q.block) ∧ Below w.heap.size w w' := by
  have HL := Lib.hid (And.intro hL (And.intro hE hN))
  clear hL hE hN
  go_enter Tryd.func32, Tryd.ntmps32
  have HB0 := Lib.hid ((Below.refl w.heap.size w).alloc (Nat.le_refl _) (.cells #[] 50))
  have HO0 := Lib.hid (own_empty w)
  go_upto_region 2 with (fail)
  generalize w.alloc (.cells #[] 50) = w1 at *
  go_loopw [0, 4] (fun sv ov wr => ∃ (f m : Nat) (acc : List K) (t : ByteArray), sv = .string t ∧ t.size ≤ f ∧ t.size ≤ 1000000000 ∧ m ≤ 1000 ∧ wr.ownsRow w.heap.size 50 2 ov m (cellsV acc) ∧ read s.data.toList = readG f (toC acc) t.data.toList ∧ Below w.heap.size w wr) (fun sv _ _ => lenOf sv)
  case atStart => exact ⟨s.size, 0, [], s, rfl, Nat.le_refl _, hs, by omega, HO0.out, rfl, HB0.out⟩
  case round =>
    obtain ⟨f, m, acc, t, rfl, hf, hts, hm, hown, hg, hb⟩ := hrel
    clear HB0 HO0
    have HB := Lib.hid hb
    have HG := Lib.hid hg
    have HO := Lib.hid hown
    clear hb hg hown
    obtain ⟨ao, co, rfl, hlen, hcel, hfr⟩ := own_cel HO.out
    by_cases hz : t.size = 0
    · have ht0 : t.data.toList = [] := List.eq_nil_of_length_eq_zero hz
      have hemp : t.toList.isEmpty = true := by rw [ByteArray.toList_eq, ht0]; rfl
      have hfin : read s.data.toList = .ok (toC acc) := by rw [HG.out, ht0, readG_done]
      have hL3 := HL.out
      rw [hfin] at hL3
      obtain ⟨hL, hE, hN⟩ := hL3
      obtain rfl : L = toC acc := hL
      obtain rfl : E = 0 := hE
      obtain rfl : m = N := by rw [← hN, toC_length]; exact hlen
      have HC := Lib.hid (show CelR wr ao (ofC (toC acc)) from by rw [ofC_toC]; exact hcel)
      have HF := Lib.hid hfr
      clear hfin hcel hfr hlen hN ht0 hz HG HL hf
      go_wp2
      go_ret2
      exact ⟨ao, co, rfl, HC.out, HF.out, HB.out⟩
    have htn : t.data.toList ≠ [] := fun h => hz (by show t.data.toList.length = 0; rw [h]; rfl)
    have hemp : t.toList.isEmpty = false := by
      rw [ByteArray.toList_eq]
      cases hl : t.data.toList with
      | nil => exact absurd hl htn
      | cons a r => rfl
    obtain ⟨f, rfl⟩ : ∃ g, f = g + 1 := ⟨f - 1, by omega⟩
    have HLN := Lib.hid hlen
    clear hcel hfr hlen hz
    cases h1 : cutT t.data.toList with
    | none =>
      have hfin : read s.data.toList = .error 2 := by rw [HG.out, readG_none f _ _ htn h1]
      have RA := Lib.hid (fun u => first_no t u h1 hts)
      obtain ⟨hL, hE, hN⟩ := HL.out
      rw [hfin] at hL hE
      obtain rfl : L = [] := hL
      obtain rfl : E = 2 := hE
      obtain rfl : N = 0 := hN.symm
      clear hfin hN HL HG hf h1 htn hts
      go_wp2_with ((with_reducible refine (RA.out _).mono ?_); rintro e w2 ⟨rfl, hb⟩; have HB2 := Lib.hid (HB.out.trans (hb.mono HB.out.size)); clear hb)
      go_ret2
      exact ⟨none, 0, rfl, CelR.none _ _, (fun q hq => by cases hq), HB2.out.alloc HB2.out.size _⟩
    | some x =>
      obtain ⟨a, r⟩ := x
      have hlt1 := cut_less _ _ _ h1
      cases h2 : cutT r with
      | none =>
        have hfin : read s.data.toList = .error 2 := by rw [HG.out, readG_half f _ _ a r htn h1 h2]
        obtain ⟨A, hA⟩ : ∃ A, A = tx a := ⟨_, rfl⟩
        have RA := Lib.hid (fun u => first_half t a r A u h1 h2 hA hts)
        obtain ⟨hL, hE, hN⟩ := HL.out
        rw [hfin] at hL hE
        obtain rfl : L = [] := hL
        obtain rfl : E = 2 := hE
        obtain rfl : N = 0 := hN.symm
        clear hfin hN HL HG hf h1 h2 hA hlt1 htn hts
        go_wp2_with ((with_reducible refine (RA.out _).mono ?_); rintro e w2 ⟨rfl, hb⟩; have HB2 := Lib.hid (HB.out.trans (hb.mono HB.out.size)); clear hb)
        go_ret2
        exact ⟨none, 0, rfl, CelR.none _ _, (fun q hq => by cases hq), HB2.out.alloc HB2.out.size _⟩
      | some y =>
        obtain ⟨b, q⟩ := y
        have hlt2 := cut_less _ _ _ h2
        obtain ⟨A, hA⟩ : ∃ A, A = tx a := ⟨_, rfl⟩
        obtain ⟨D, hD⟩ : ∃ D, D = tx b := ⟨_, rfl⟩
        obtain ⟨Q, hQ⟩ : ∃ Q, Q = tx q := ⟨_, rfl⟩
        have RA := Lib.hid (fun u => first_yes t a r b q A D Q u h1 h2 hA hD hQ hts)
        obtain ⟨F, hF⟩ : ∃ F, F = okC (a, b) := ⟨_, rfl⟩
        have RF := Lib.hid (fun u => fits_any A D F u (by rw [hF, hA, hD]))
        have hQs : Q.size + 4 ≤ t.size := by rw [hQ, tx_size]; have : t.data.toList.length = t.size := rfl; omega
        have hml : (toC acc).length = m := by rw [toC_length]; exact HLN.out.symm
        have hgo : ∀ h4 : ¬ (m = 1000 ∨ F = false), read s.data.toList = readG f (toC (acc ++ [(A, D)])) Q.data.toList := fun h4 => by
          rw [HG.out, readG_good f _ _ a r b q htn h1 h2 (by rw [hml, ← hF]; exact h4), toC_snoc, hA, hD, hQ]
        have hno : ∀ h4 : m = 1000 ∨ F = false, read s.data.toList = .error 4 := fun h4 => by
          rw [HG.out, readG_bad f _ _ a r b q htn h1 h2 (by rw [hml, ← hF]; exact h4)]
        have HGO := Lib.hid hgo
        have HNO := Lib.hid hno
        have HQS := Lib.hid (show Q.size ≤ f ∧ Q.size ≤ 1000000000 ∧ Q.size < t.size from by omega)
        clear hgo hno hlt1 hlt2 h1 h2 hA hD hQ hF hQs hml htn hf hts
        go_upto_region 6 with ((with_reducible refine (RA.out _).mono ?_); rintro e w2 ⟨rfl, hb⟩; have HB2 := Lib.hid (HB.out.trans (hb.mono HB.out.size)); have HO2 := Lib.hid (Strs.own_below HO.out hb); clear hb)
        have HB3 := Lib.hid (HB2.out.alloc HB2.out.size (.cells #[.string A, .string D] 50))
        have HO3 := Lib.hid (Strs.own_below HO2.out ((Below.refl w2.heap.size w2).alloc (Nat.le_refl _) (.cells #[.string A, .string D] 50)))
        have hcA : (w2.alloc (.cells #[.string A, .string D] 50)).cell? ⟨w2.heap.size, 0, none⟩ = some (.string A) := new_cel w2 (A, D) _ 0 _ rfl
        have hcD : (w2.alloc (.cells #[.string A, .string D] 50)).cell? ⟨w2.heap.size, 1, none⟩ = some (.string D) := new_cel w2 (A, D) _ 1 _ rfl
        have hzl : w2.heap.size < (w2.alloc (.cells #[.string A, .string D] 50)).heap.size := by simp
        obtain ⟨z, hz⟩ : ∃ z, z = w2.heap.size := ⟨_, rfl⟩
        rw [← hz] at hcA hcD hzl ⊢
        generalize w2.alloc (.cells #[.string A, .string D] 50) = w3 at *
        clear hz HB2 HO2 HB HO
        have FC := Lib.hid (fun (u : World) (hu : Below w3.heap.size w3 u) => (show u.cell? ⟨z, 0, none⟩ = some (.string A) ∧ u.cell? ⟨z, 1, none⟩ = some (.string D) from ⟨(hu.cell (p := ⟨z, 0, none⟩) hzl).trans hcA, (hu.cell (p := ⟨z, 1, none⟩) hzl).trans hcD⟩))
        by_cases k : m = 1000
        · have hfin := HNO.out (.inl k)
          obtain ⟨hL, hE, hN⟩ := HL.out
          rw [hfin] at hL hE
          obtain rfl : L = [] := hL
          obtain rfl : E = 4 := hE
          obtain rfl : N = 0 := hN.symm
          have d0 : ((m : Int) == 1000) = true := by simp; omega
          clear hfin hN HL HG k
          go_wp2
          go_ret2
          exact ⟨none, 0, rfl, CelR.none _ _, (fun q hq => by cases hq), HB3.out⟩
        · have d0 : ((m : Int) == 1000) = false := by simp; omega
          cases F with
          | false =>
            have hfin := HNO.out (.inr rfl)
            obtain ⟨hL, hE, hN⟩ := HL.out
            rw [hfin] at hL hE
            obtain rfl : L = [] := hL
            obtain rfl : E = 4 := hE
            obtain rfl : N = 0 := hN.symm
            clear hfin hN HL HG
            go_wp2_with ((with_reducible refine (RF.out _).mono ?_); rintro e w4 ⟨rfl, hb⟩; have HB4 := Lib.hid (HB3.out.trans (hb.mono HB3.out.size)); clear hb)
            go_ret2
            exact ⟨none, 0, rfl, CelR.none _ _, (fun q hq => by cases hq), HB4.out⟩
          | true =>
            have HG2 := Lib.hid (HGO.out (fun h => h.elim k (fun h => by cases h)))
            go_upto_region 8 with ((with_reducible refine (RF.out _).mono ?_); rintro e w4 ⟨rfl, hb⟩; have HB4 := Lib.hid (HB3.out.trans (hb.mono HB3.out.size)); have HO4 := Lib.hid (Strs.own_below HO3.out hb); have hf := FC.out w4 hb; clear hb hcA hcD)
            have HB5 := Lib.hid (HB4.out.alloc HB4.out.size (.cells #[.string A, .string D] 50))
            have HO5 := Lib.hid (Strs.own_below HO4.out ((Below.refl w4.heap.size w4).alloc (Nat.le_refl _) (.cells #[.string A, .string D] 50)))
            go_wp2_with (at_builtin; refine append_cel rfl _ _ rfl w.heap.size m _ acc rfl HO5.out w4.heap.size 1 (A, D) rfl (new_cel w4 (A, D) _) (by omega) HB5.out.size ?_; intro v' w6 hown6 hgrow6)
            have HO6 := Lib.hid hown6
            have HB6 := Lib.hid (HB5.out.grown hgrow6 HB5.out.size (fun q hq => (HO5.out.lt q hq).1))
            clear hown6 hgrow6
            go_wp2
            go_roundw
            case rel => exact ⟨f, m + 1, acc ++ [(A, D)], Q, rfl, HQS.out.1, HQS.out.2.1, by omega, HO6.out, HG2.out, HB6.out⟩
            case measure => exact HQS.out.2.2
end Go.Proofs.YtpamdpfgcbadhaaDoor.Tape
