/-
  Calls of the statements of layer 16 (a slice of structs of two numbers and two texts) as they came in, opened. No condition.
-/
import Derived.Test.YtdhipdoaefdfeaaGreatDoorBkh
import Derived.Test.YtdhipdoaefdfeaaGreatDoorTpO
namespace Go.Proofs.YtdhipdoaefdfeaaGreatDoor.BkO
open Go.ChangeShapes Go.WideShapes Go.ChangeAt Go.ChangeMaps Go.RowKit Mur Cel Rec Bkh
set_option maxRecDepth 100000

section
variable {H : Type} {enc : TypeId × Value → H} {w : World} {base : Nat} {spare : Nat → Bool} {held : Bool}
theorem all_mem {P : Program} {e : TypeId} : ∀ {l : List (DataW H)} {d : DataW H}, d ∈ l → ∀ n ∈ d.weights P e, n ∈ DataW.weightsAll P e l
  | x :: l, d, hd, n, hn => by
    rw [DataW.weightsAll, List.mem_append]
    rcases List.mem_cons.1 hd with rfl | hd
    · exact Or.inl hn
    · exact Or.inr (all_mem hd n hn)
/-- One element. -/
theorem op_came {fuel : Nat} {cs : List Value} {x : DataW H × List MemPlace} (h : DataW.trod enc Tryz.prog w base spare held fuel 52 cs = some x) :
    ∃ o : OpK, cs = opV o ∧ ∃ d0 d1, x.1 = .agg [d0, d1, .lit (.string o.name.data.toList), .lit (.string o.text.data.toList)] := by
  obtain ⟨fs, hu, hfs⟩ : ∃ fs : Array Field, Tryz.prog.underlying 52 = some (.struct fs) ∧ fs.toList.map (fun f => (f.type, f.offset)) = [(3, 0), (3, 1), (9, 2), (9, 3)] := ⟨_, Tryz.underlying52, by kernel_rfl⟩
  obtain ⟨xs, k, hk, hxy, hcs, hxl, hf⟩ := DataW.trod_struct hu h
  have hc : Tryz.prog.cellsOf 52 = 4 := by kernel_rfl
  have ci : Tryz.prog.cellsOf 3 = 1 := by kernel_rfl
  have ct : Tryz.prog.cellsOf 9 = 1 := by kernel_rfl
  rw [hc] at hcs
  have hz : fs.size = 4 := by
    have := congrArg List.length hfs
    simpa using this
  have fld : ∀ i, i < 4 → ∃ f, fs[i]? = some f ∧ ([(3, 0), (3, 1), (9, 2), (9, 3)] : List (TypeId × Nat))[i]? = some (f.type, f.offset) := fun i hi => by
    obtain ⟨f, hfi⟩ : ∃ f, fs[i]? = some f := ⟨_, Array.getElem?_eq_getElem (by omega)⟩
    refine ⟨f, hfi, ?_⟩
    rw [← hfs, List.getElem?_map, Array.getElem?_toList, hfi]
    rfl
  match xs, hxl.trans hz, cs, hcs with
  | [y0, y1, y2, y3], _, [v0, v1, v2, v3], _ =>
    obtain ⟨f0, g0, t0⟩ := fld 0 (by omega)
    obtain ⟨f1, g1, t1⟩ := fld 1 (by omega)
    obtain ⟨f2, g2, t2⟩ := fld 2 (by omega)
    obtain ⟨f3, g3, t3⟩ := fld 3 (by omega)
    have r0 := hf 0 f0 g0
    have r1 := hf 1 f1 g1
    have r2 := hf 2 f2 g2
    have r3 := hf 3 f3 g3
    simp at t0 t1 t2 t3
    rw [← t0.1, ← t0.2, ci] at r0
    rw [← t1.1, ← t1.2, ci] at r1
    rw [← t2.1, ← t2.2, ct] at r2
    rw [← t3.1, ← t3.2, ct] at r3
    obtain ⟨z0, e0, -, -⟩ := DataW.trod_int Tryz.underlying3 r0
    obtain ⟨z1, e1, -, -⟩ := DataW.trod_int Tryz.underlying3 r1
    obtain ⟨s2, e2, d2, -⟩ := DataW.trod_string Tryz.underlying9 r2
    obtain ⟨s3, e3, d3, -⟩ := DataW.trod_string Tryz.underlying9 r3
    simp at e0 e1 e2 e3
    refine ⟨⟨z0, z1, s2, s3⟩, by rw [e0, e1, e2, e3]; rfl, y0.1, y1.1, ?_⟩
    rw [hxy]
    have d2 := congrArg Prod.fst d2
    have d3 := congrArg Prod.fst d3
    simp [d2, d3]
theorem ops_came {a : Option Addr} {n cap : Nat} {d : DataW H} {p : List MemPlace} (h : DataW.Trod enc Tryz.prog w base spare held 49 (.slice a n cap) d p) (hw : ∀ m ∈ d.weights Tryz.prog 49, m ≤ reachBytes) :
    ∃ l : List OpK, OpsR w a l ∧ l.length = n ∧ n ≤ 9223372036854775807 ∧ n ≤ cap ∧ ∀ o ∈ l, o.name.size ≤ 140737488351232 ∧ o.text.size ≤ 140737488351232 := by
  obtain ⟨fuel, hf⟩ := h
  have hc : Tryz.prog.cellsOf 52 = 4 := by kernel_rfl
  rcases Deep.open_slice Tryz.underlying49 hf with ⟨hcs, _⟩ | ⟨a', len, cp, m, q, D, P, hcs, _, hl, hm, hmm, hxx, hx⟩
  · simp [Value.cells] at hcs
    obtain ⟨rfl, rfl, rfl⟩ := hcs
    exact ⟨[], RecR.none w _, rfl, by omega, Nat.le_refl _, fun z hz => (by cases hz)⟩
  · simp [Value.cells] at hcs
    obtain ⟨rfl, rfl, rfl⟩ := hcs
    unfold maxLen at hm
    have hlm : n ≤ m := by rw [hmm]; split <;> omega
    have hD : d = .slice ((List.range n).map D) ((List.range (m - n)).map fun j => D (n + j)) := congrArg Prod.fst hxx
    have each : ∀ i, ∃ o : OpK, i < n → (∀ j u, (opV o)[j]? = some u → w.cell? (a'.add (i * 4 + j)) = some u) ∧ o.name.size ≤ 140737488351232 ∧ o.text.size ≤ 140737488351232 := fun i => by
      by_cases hi : i < n
      · obtain ⟨cs, h1, h2⟩ := hx i (by omega)
        rw [hc] at h1
        obtain ⟨_, hlen, hcell⟩ := World.cells?_some h1
        obtain ⟨o, rfl, d0, d1, hd⟩ := op_came h2
        have hd : D i = .agg [d0, d1, .lit (.string o.name.data.toList), .lit (.string o.text.data.toList)] := hd
        have hin : ∀ k ∈ (D i).weights Tryz.prog 52, k ≤ reachBytes := fun k hk => hw k (by
          rw [hD]
          simp only [DataW.weights, Tryz.underlying49]
          exact List.mem_cons_of_mem _ (List.mem_append_left _ (all_mem (List.mem_map.2 ⟨i, by simpa using hi, rfl⟩) k hk)))
        obtain ⟨fs, hu, hfs⟩ : ∃ fs : Array Field, Tryz.prog.underlying 52 = some (.struct fs) ∧ fs.toList.map (·.type) = [3, 3, 9, 9] := ⟨_, Tryz.underlying52, by kernel_rfl⟩
        have hrb : reachBytes ≤ 140737488351232 := by decide
        rw [hd] at hin
        simp only [DataW.weights, hu, hfs, DataW.weightsEach] at hin
        refine ⟨o, fun _ => ⟨fun j u hu => ?_, ?_, ?_⟩⟩
        · have hj : j < 4 := (List.getElem?_eq_some_iff.1 hu).1
          have := hcell j (by omega)
          rw [Deep.add_add] at this
          rw [this, hu]
        · have := hin o.name.data.toList.length (by simp)
          rw [Array.length_toList] at this
          exact Nat.le_trans this hrb
        · have := hin o.text.data.toList.length (by simp)
          rw [Array.length_toList] at this
          exact Nat.le_trans this hrb
      · exact ⟨⟨0, 0, ⟨#[]⟩, ⟨#[]⟩⟩, fun h => absurd h hi⟩
    obtain ⟨F, hF⟩ := Classical.axiomOfChoice each
    refine ⟨(List.range n).map F, fun h0 => ?_, by simp, by omega, hl, fun o ho => ?_⟩
    · have hn0 : 0 < n := by simp at h0; omega
      obtain ⟨b, off, spot⟩ := a'
      have hc0 := (hF 0 hn0).1 0 _ rfl
      have hspot : spot = none := by simpa [Addr.add] using World.cell?_spot hc0
      subst hspot
      refine ⟨b, off, rfl, ?_, fun i y hy j u hu => ?_⟩
      · rw [Go.WideShapes.add_plain] at hc0
        rcases Nat.lt_or_ge b w.heap.size with h' | h'
        · exact h'
        · simp [World.cell?, Array.getElem?_eq_none h'] at hc0
      · have hi : i < n := by
          have := (List.getElem?_eq_some_iff.1 hy).1
          simpa using this
        have e : y = F i := by
          have := (List.getElem?_eq_some_iff.1 hy).2
          rw [← this]
          simp
        rw [e] at hu
        have := (hF i hi).1 j u hu
        rw [Go.WideShapes.add_plain] at this
        rw [Nat.add_assoc]
        exact this
    · obtain ⟨i, hi, rfl⟩ := List.mem_map.1 ho
      exact (hF i (List.mem_range.1 hi)).2
theorem open_ops {r : Reach} {b0 : Nat} {v : Value} {d : DataW H} {p : List MemPlace} (hv : Value.okWide Tryz.prog w r b0 49 v) (h : DataW.Trod enc Tryz.prog w base spare held 49 v d p) (hw : ∀ m ∈ d.weights Tryz.prog 49, m ≤ reachBytes) :
    ∃ (l : List OpK) (n : Nat) (a : Option Addr) (c : Nat), v = .slice a n c ∧ OpsR w a l ∧ l.length = n ∧ n ≤ 9223372036854775807 ∧ n ≤ c ∧ ∀ o ∈ l, o.name.size ≤ 140737488351232 ∧ o.text.size ≤ 140737488351232 := by
  obtain ⟨a, n, c, rfl⟩ := okWide_slice Tryz.underlying49 hv
  obtain ⟨l, h1, h2, h3, h4, h5⟩ := ops_came h hw
  exact ⟨l, n, a, c, rfl, h1, h2, h3, h4, h5⟩
end
end Go.Proofs.YtdhipdoaefdfeaaGreatDoor.BkO
