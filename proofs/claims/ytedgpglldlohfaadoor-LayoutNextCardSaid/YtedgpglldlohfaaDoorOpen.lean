/-
  Arrays of texts and of numbers among a call's arguments, opened: general lemmas, over whatever program; no condition but those that each names.
-/
import Derived.OpenShut
import Derived.SizedLaws
import Derived.ShutString
import Derived.ProofKit
namespace Go.Proofs.YtedgpglldlohfaaDoor.Open
open Go.ChangeShapes Go.WideShapes Go.ChangeAt Go.RowKit

section
variable {H : Type} {enc : TypeId × Value → H} {P : Program} {w : World} {base : Nat} {spare : Nat → Bool} {held : Bool}

theorem gather_strings : ∀ (cs : List Value) (xs : List (DataW H × List MemPlace)), cs.length = xs.length →
    (∀ i, i < xs.length → ∃ s : ByteArray, cs[i]? = some (.string s) ∧ xs[i]? = some (.lit (.string s.data.toList), []) ∧ s.size ≤ maxLen) →
    ∃ ss : List ByteArray, cs = ss.map Value.string ∧ xs = ss.map (fun s => (.lit (.string s.data.toList), [])) ∧ ∀ s ∈ ss, s.size ≤ maxLen
  | [], [], _, _ => ⟨[], rfl, rfl, fun _ h => by cases h⟩
  | [], _ :: _, h, _ => by simp at h
  | _ :: _, [], h, _ => by simp at h
  | c :: cs, x :: xs, h, hi => by
    obtain ⟨s, h1, h2, h3⟩ := hi 0 (by simp)
    obtain ⟨ss, e1, e2, e3⟩ := gather_strings cs xs (by simpa using h) (fun i hlt => by
      have := hi (i + 1) (by simpa using hlt)
      simpa using this)
    simp at h1 h2
    exact ⟨s :: ss, by simp [h1, e1], by simp [h2, e2], fun t ht => by
      rcases List.mem_cons.1 ht with rfl | ht
      · exact h3
      · exact e3 t ht⟩

theorem gather_ints {k : IntKind} : ∀ (cs : List Value) (xs : List (DataW H × List MemPlace)), cs.length = xs.length →
    (∀ i, i < xs.length → ∃ n : Int, cs[i]? = some (.int k n) ∧ xs[i]? = some (.lit (.int k n), []) ∧ (Lit.int k n).wf = true) →
    ∃ ns : List Int, cs = ns.map (Value.int k) ∧ xs = ns.map (fun n => (.lit (.int k n), [])) ∧ ∀ n ∈ ns, (Lit.int k n).wf = true
  | [], [], _, _ => ⟨[], rfl, rfl, fun _ h => by cases h⟩
  | [], _ :: _, h, _ => by simp at h
  | _ :: _, [], h, _ => by simp at h
  | c :: cs, x :: xs, h, hi => by
    obtain ⟨s, h1, h2, h3⟩ := hi 0 (by simp)
    obtain ⟨ss, e1, e2, e3⟩ := gather_ints cs xs (by simpa using h) (fun i hlt => by
      have := hi (i + 1) (by simpa using hlt)
      simpa using this)
    simp at h1 h2
    exact ⟨s :: ss, by simp [h1, e1], by simp [h2, e2], fun t ht => by
      rcases List.mem_cons.1 ht with rfl | ht
      · exact h3
      · exact e3 t ht⟩

theorem drop_take_one (l : List Value) (i : Nat) (h : i < l.length) : (l.drop (i * 1)).take 1 = [l[i]] := by
  rw [Nat.mul_one, List.drop_eq_getElem_cons h]
  rfl

/-- An array of texts that came in. -/
theorem open_string_array {r : Reach} {b0 : Nat} {t e : TypeId} {n : Nat} {v : Value} {d : DataW H} {ps : List MemPlace} (ht : P.underlying t = some (.array n e)) (he : P.underlying e = some .string) (hce : P.cellsOf e = 1) (hct : P.cellsOf t = n)
    (hval : Value.okWide P w r b0 t v) (hd : DataW.Trod enc P w base spare held t v d ps) :
    ∃ ss : List ByteArray, ss.length = n ∧ v = .agg (ss.map Value.string).toArray ∧ d = .agg (ss.map fun s => .lit (.string s.data.toList)) ∧ ps = [] ∧ ∀ s ∈ ss, s.size ≤ maxLen := by
  unfold Value.okWide at hval
  rw [ht] at hval
  obtain ⟨cs, rfl, hsz, _⟩ := hval
  obtain ⟨fuel, hf⟩ := hd
  obtain ⟨xs, m, _, hx, _, hxl, hi⟩ := DataW.trod_array ht hf
  have hcl : cs.toList.length = xs.length := by rw [hxl, ← hct, ← hsz]; simp
  have hcells : (Value.agg cs).cells.toList = cs.toList := by simp [Value.cells]
  obtain ⟨ss, e1, e2, e3⟩ := gather_strings cs.toList xs hcl (fun i hlt => by
    have h := hi i (by omega)
    have hic : i < cs.toList.length := by omega
    rw [hce, hcells, drop_take_one _ _ hic, List.getElem?_eq_getElem hlt] at h
    obtain ⟨s, hs, hxs, hm⟩ := DataW.trod_string he h
    refine ⟨s, ?_, ?_, hm⟩
    · rw [List.getElem?_eq_getElem hic]
      simpa using hs
    · rw [List.getElem?_eq_getElem hlt, hxs])
  simp only [Prod.mk.injEq] at hx
  refine ⟨ss, ?_, ?_, ?_, ?_, e3⟩
  · rw [← hxl, e2]; simp
  · rw [← e1]
  · rw [hx.1, e2]; simp [Function.comp_def]
  · rw [hx.2, e2]; simp

/-- An array of numbers that came in. -/
theorem open_int_array {r : Reach} {b0 : Nat} {t e : TypeId} {n : Nat} {k : IntKind} {v : Value} {d : DataW H} {ps : List MemPlace} (ht : P.underlying t = some (.array n e)) (he : P.underlying e = some (.int k)) (hce : P.cellsOf e = 1) (hct : P.cellsOf t = n)
    (hval : Value.okWide P w r b0 t v) (hd : DataW.Trod enc P w base spare held t v d ps) :
    ∃ ns : List Int, ns.length = n ∧ v = .agg (ns.map (Value.int k)).toArray ∧ d = .agg (ns.map fun n => .lit (.int k n)) ∧ ps = [] ∧ ∀ n ∈ ns, (Lit.int k n).wf = true := by
  unfold Value.okWide at hval
  rw [ht] at hval
  obtain ⟨cs, rfl, hsz, _⟩ := hval
  obtain ⟨fuel, hf⟩ := hd
  obtain ⟨xs, m, _, hx, _, hxl, hi⟩ := DataW.trod_array ht hf
  have hcl : cs.toList.length = xs.length := by rw [hxl, ← hct, ← hsz]; simp
  have hcells : (Value.agg cs).cells.toList = cs.toList := by simp [Value.cells]
  obtain ⟨ss, e1, e2, e3⟩ := gather_ints cs.toList xs hcl (fun i hlt => by
    have h := hi i (by omega)
    have hic : i < cs.toList.length := by omega
    rw [hce, hcells, drop_take_one _ _ hic, List.getElem?_eq_getElem hlt] at h
    obtain ⟨s, hs, hxs, hm⟩ := DataW.trod_int he h
    refine ⟨s, ?_, ?_, hm⟩
    · rw [List.getElem?_eq_getElem hic]
      simpa using hs
    · rw [List.getElem?_eq_getElem hlt, hxs])
  simp only [Prod.mk.injEq] at hx
  refine ⟨ss, ?_, ?_, ?_, ?_, e3⟩
  · rw [← hxl, e2]; simp
  · rw [← e1]
  · rw [hx.1, e2]; simp [Function.comp_def]
  · rw [hx.2, e2]; simp

/-- The reach of a text in an array that came in. -/
theorem sized_string_array {ts : List TypeId} {ds : List (DataW H)} (h : (DataW.weightsEach P ts ds).all (· ≤ reachBytes) = true) {j : Nat} {t e : TypeId} {n : Nat} {ss : List ByteArray} (hj : ts[j]? = some t) (hd : ds[j]? = some (.agg (ss.map fun s => .lit (.string s.data.toList))))
    (ht : P.underlying t = some (.array n e)) : ∀ s ∈ ss, s.size ≤ 140737488351232 := by
  intro s hs
  have hm : ∀ (l : List ByteArray), s ∈ l → s.size ∈ DataW.weightsAll (H := H) P e (l.map fun s => .lit (.string s.data.toList)) := by
    intro l hl
    induction l with
    | nil => cases hl
    | cons x l ih =>
      simp only [List.map_cons, DataW.weightsAll, List.mem_append]
      rcases List.mem_cons.1 hl with rfl | hl
      · left
        simp [DataW.weights]
      · exact Or.inr (ih hl)
  have := List.all_eq_true.1 h s.size (DataW.weights_mem_each hj hd s.size (by simp only [DataW.weights, ht]; exact hm ss hs))
  have h2 : s.size ≤ reachBytes := of_decide_eq_true this
  exact h2
end
end Go.Proofs.YtedgpglldlohfaaDoor.Open
