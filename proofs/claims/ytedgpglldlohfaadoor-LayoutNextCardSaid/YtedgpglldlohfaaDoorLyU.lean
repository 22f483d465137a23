/-
  Slices of whole numbers cut, made and read by place; a block that a call made, as such a slice. Nothing here speaks of a program but of its types. Conditions: those that each lemma names.
-/
import Derived.Test.YtedgpglldlohfaaDoorLyC
namespace Go.Proofs.YtedgpglldlohfaaDoor.Zs
open Go.RowKit Mur Frm Lyo
set_option maxRecDepth 100000
set_option linter.unusedSimpArgs false

theorem size_int (w : World) : (Go.sizeOf 3).run Tryd.prog w = .ok 1 w := by
  have h : (Tryd.prog.info? 3).map (·.size) = some 1 := by kernel_rfl
  cases hq : Tryd.prog.info? 3 with
  | none => simp [hq] at h
  | some i =>
    have : i.size = 1 := by simpa [hq] using h
    simp [Go.sizeOf, typeInfo, hq, this]
theorem elem_int : Tryd.prog.elem 22 = 3 := by simp [Program.elem, Tryd.underlying22]
theorem und_int : Tryd.prog.underlying 22 = some (.slice (Tryd.prog.elem 22)) := by rw [elem_int]; exact Tryd.underlying22
theorem cut_to (a : Option Addr) (n c k : Nat) (h : k ≤ c) (u : World) : (Instr.slice 22 (.slice a n c) none (some (.int .i64 (k : Int))) none).run Tryd.prog u = .ok (.slice a k c) u := by
  rw [run_slice_h u 22 a n c und_int .i64 (k : Int) (by omega) (by omega), elem_int, size_int]
  have e : sliced a 0 k c 1 = .slice a k c := by
    unfold sliced
    cases a with
    | none => simp
    | some x =>
      obtain ⟨b, o, sp⟩ := x
      simp [Addr.add]
  simp [Result.andThen, e]
theorem ZsR.at {w : World} {a : Option Addr} {l : List Int} (h : ZsR w a l) (i : Nat) (x : Int) (hx : l[i]? = some x) : ∃ b o, a = some ⟨b, o, none⟩ ∧ b < w.heap.size ∧ w.cell? ⟨b, o + i, none⟩ = some (.int .i64 x) := by
  have hi := (List.getElem?_eq_some_iff.1 hx).1
  obtain ⟨b, o, ha, hb, hc⟩ := h (by omega)
  exact ⟨b, o, ha, hb, hc i x hx⟩
theorem make_zs (N : Nat) (hN : N ≤ 1000000) (u : World) : (Instr.makeSlice 22 (.int .i64 (N : Int)) (.int .i64 (N : Int))).run Tryd.prog u = .ok (.slice (some ⟨u.heap.size, 0, none⟩) N N) (u.alloc (.cells (zsV (List.replicate N 0)).toArray 3)) := by
  obtain ⟨i0, hi, hz0, hz1, hz2⟩ := info_parts (show (Tryd.prog.info? 3).map (fun i => (i.zero, i.size, i.bytes)) = some (some (.int .i64 0), 1, 8) by kernel_rfl)
  have hb2 : (i0.bytes : Int) * (N : Int) ≤ 281474976710656 := by rw [hz2]; omega
  have h := run_make (P := Tryd.prog) u 22 3 i0 _ Tryd.underlying22 hi hz0 .i64 .i64 (N : Int) (N : Int) (by omega) (by omega) hb2 (by omega)
  rw [h]
  have e : ((N : Int)).toNat = N := by omega
  rw [e]
  have e2 : (madeCells (Value.int .i64 0).cells (N * i0.size)) = (zsV (List.replicate N 0)).toArray := by
    apply Array.toList_inj.1
    rw [hz1, Nat.mul_one]
    show (madeCells #[Value.int .i64 0] N).toList = _
    rw [toList_madeCells_one, List.toList_toArray]
    simp [zsV]
  rw [e2]
/-- A block of numbers as a slice. -/
theorem row_zs {w : World} {b : Nat} {t : TypeId} {L : List Int} (h : Whole w b t (zsV L)) : ZsR w (some ⟨b, 0, none⟩) L := fun _ => ⟨b, 0, rfl, h.lt, fun i x hx => by rw [Nat.zero_add]; exact h.row.cell (zsV_at hx)⟩
theorem zsV_set (L : List Int) (i : Nat) (x : Int) : (zsV L).set i (.int .i64 x) = zsV (L.set i x) := by
  simp [zsV, List.map_set]
theorem in_few {w : World} {a : Option Addr} {n c : Nat} {l : List Int} (h : In w a n c l) (i : Nat) (x : Int) (hx : (few l)[i]? = some x) : l[i]? = some x ∧ InR x ∧ ∃ b o, a = some ⟨b, o, none⟩ ∧ b < w.heap.size ∧ w.cell? ⟨b, o + i, none⟩ = some (.int .i64 x) := by
  have hi := (List.getElem?_eq_some_iff.1 hx).1
  have hl : l[i]? = some x := by rw [← Lyo.few_at l i hi]; exact hx
  exact ⟨hl, h.fit x (List.mem_of_getElem? hl), h.row.at i x hl⟩
/-- Where a slice's numbers lie, and go on lying. -/
theorem cells_at {w : World} {a : Option Addr} {n c : Nat} {l : List Int} (h : In w a n c l) : ∃ b o, (l ≠ [] → a = some ⟨b, o, none⟩) ∧ ∀ u, Below w.heap.size w u → ∀ (q : Nat) (x : Int), l[q]? = some x → u.cell? ⟨b, o + q, none⟩ = some (.int .i64 x) := by
  by_cases h0 : l = []
  · subst h0
    exact ⟨0, 0, fun h => absurd rfl h, fun u _ q x hx => by simp at hx⟩
  · obtain ⟨b, o, ha, hb, hc⟩ := h.row (fun e => h0 (List.eq_nil_of_length_eq_zero e))
    exact ⟨b, o, fun _ => ha, fun u hu q x hx => (hu.cell (p := ⟨b, o + q, none⟩) hb).trans (hc q x hx)⟩
/-- A slice that was made. -/
def Fresh (w : World) (L : List Int) (N : Nat) (z : Ending) (w' : World) : Prop := ∃ b, z = .returned (.slice (some ⟨b, 0, none⟩) N N) ∧ w.heap.size ≤ b ∧ Whole w' b 3 (zsV L) ∧ Below w.heap.size w w'
theorem Fresh.out {w w' : World} {L : List Int} {N : Nat} {z : Ending} (h : Fresh w L N z w') : Out w L N z w' := by
  obtain ⟨b, hz, _, hw, hb⟩ := h
  exact ⟨_, _, hz, Nat.le_refl _, row_zs hw, hb⟩
theorem own_out {w : World} {base n : Nat} {v : Value} {l : List Int} (h : w.ownsRow base 3 1 v n (zsV l)) : ∃ ao c, v = .slice ao n c ∧ n ≤ c ∧ ZsR w ao l := by
  obtain ⟨ao, c, hv, _, hr⟩ := own_ints h
  refine ⟨ao, c, hv, ?_, hr⟩
  rcases Strs.own_cases h with ⟨h1, h2, _⟩ | ⟨g, c2, h1, h2, h3, h4, h5⟩
  · omega
  · rw [hv] at h1
    cases h1
    exact h4
end Go.Proofs.YtedgpglldlohfaaDoor.Zs
