/-
  What the laws of layer 19 share: what an unsigned remainder is; a slot's bytes as a cut. No condition but those that each lemma names.
-/
import Derived.Test.YtedgpglldlohfaaDoorLyM
import Derived.Test.YtedgpglldlohfaaDoorFrl
namespace Go.Proofs.YtedgpglldlohfaaDoor.Lyo
open Go.RowKit Mur Lanes Prt Tap Cel Frm Zs
set_option maxRecDepth 100000

theorem rest_of (x : Int) (q : Nat) (h1 : 0 < q) (h2 : q ≤ 1000) : ∃ m : Nat, m < q ∧ wrap64 ((IntKind.u64.wrap x).tmod (q : Int)) = (m : Int) := by
  rw [IntKind.wrap_u64, Int.tmod_eq_emod_of_nonneg (by omega)]
  have h3 := Int.emod_nonneg (x % 18446744073709551616) (show (q : Int) ≠ 0 by omega)
  have h4 := Int.emod_lt_of_pos (x % 18446744073709551616) (show (0 : Int) < (q : Int) by omega)
  refine ⟨((x % 18446744073709551616) % (q : Int)).toNat, by omega, ?_⟩
  rw [IntWalk.wrap64_in _ (by omega)]
  omega
/-- Where a row of numbers lies, and goes on lying. -/
theorem row_cells {w : World} {a : Option Addr} {l : List Int} (h : ZsR w a l) : ∃ b o, (l ≠ [] → a = some ⟨b, o, none⟩) ∧ ∀ u, Below w.heap.size w u → ∀ (q : Nat) (x : Int), l[q]? = some x → u.cell? ⟨b, o + q, none⟩ = some (.int .i64 x) := by
  by_cases h0 : l = []
  · subst h0
    exact ⟨0, 0, fun h => absurd rfl h, fun u _ q x hx => by simp at hx⟩
  · obtain ⟨b, o, ha, hb, hc⟩ := h (fun e => h0 (List.eq_nil_of_length_eq_zero e))
    exact ⟨b, o, fun _ => ha, fun u hu q x hx => (hu.cell (p := ⟨b, o + q, none⟩) hb).trans (hc q x hx)⟩
/-- What is answered of a slot. -/
theorem slot_cut (l : List Int) (s k A B : Int) (t X : ByteArray) (hA : A = spotA l s k) (hB : B = spotB l s k) (hX : X = tx (slotT l s k t.data.toList)) : ((t.size : Int) < B → X.toList.isEmpty = true) ∧ (¬ (t.size : Int) < B → ∀ u, (Instr.slice 9 (.string t) (some (.int .i64 A)) (some (.int .i64 B)) none).run Tryd.prog u = .ok (.string X) u) := by
  have hb := spot_bounds l s k
  rw [← hA, ← hB] at hb
  have ht : t.data.toList.length = t.size := rfl
  unfold slotT at hX
  rw [← hA, ← hB, ht] at hX
  constructor
  · intro h
    rw [if_pos h] at hX
    rw [hX, ByteArray.toList_eq]
    rfl
  · intro h u
    rw [if_neg h] at hX
    exact Frl.slice_lh' t X A.toNat B.toNat A B (by omega) (by omega) (by omega) (by omega) hX u
end Go.Proofs.YtedgpglldlohfaaDoor.Lyo
