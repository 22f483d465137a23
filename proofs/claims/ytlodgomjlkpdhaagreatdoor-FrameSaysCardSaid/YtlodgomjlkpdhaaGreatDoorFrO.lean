/-
  What came in, opened: what a slot says (two numbers and two texts, with how long these are). No condition.
-/
import Derived.Test.YtlodgomjlkpdhaaGreatDoorMTap
import Derived.Test.YtlodgomjlkpdhaaGreatDoorOpen
import Derived.ProofKit
import Derived.OpenShut
import Derived.SizedLaws
import Derived.ShutString
import Derived.ChangeOld
import Derived.Below
import Derived.Deep.Strs
namespace Go.Proofs.YtlodgomjlkpdhaaGreatDoor.FrO
open Go.ChangeShapes Go.WideShapes Go.ChangeAt Go.ChangeMaps Go.RowKit Mur
set_option maxRecDepth 100000

theorem array4 {α : Type} {cs : Array α} (h : cs.size = 4) : ∃ c0 c1 c2 c3, cs = #[c0, c1, c2, c3] := by
  obtain ⟨l⟩ := cs
  match l, h with
  | [c0, c1, c2, c3], _ => exact ⟨c0, c1, c2, c3, rfl⟩
theorem int_wf {z : Int} (h : (Lit.int .i64 z).wf = true) : -9223372036854775808 ≤ z ∧ z ≤ 9223372036854775807 := by
  have h0 : IntKind.i64.min ≤ z ∧ z ≤ IntKind.i64.max := by simpa [Lit.wf] using h
  have e1 : IntKind.i64.min = -9223372036854775808 := by decide
  have e2 : IntKind.i64.max = 9223372036854775807 := by decide
  omega
section
variable {H : Type} {enc : TypeId × Value → H} {w : World} {base : Nat} {spare : Nat → Bool} {held : Bool}
theorem open_said {r : Reach} {b0 : Nat} {v : Value} {d : DataW H} {p : List MemPlace} (hv : Value.okWide Tryz.prog w r b0 23 v) (h : DataW.Trod enc Tryz.prog w base spare held 23 v d p) (hw : ∀ m ∈ d.weights Tryz.prog 23, m ≤ reachBytes) :
    ∃ (x q : Int) (t s : ByteArray), v = .agg #[.int .i64 x, .int .i64 q, .string t, .string s] ∧ (-9223372036854775808 ≤ x ∧ x ≤ 9223372036854775807) ∧ (-9223372036854775808 ≤ q ∧ q ≤ 9223372036854775807) ∧ t.size ≤ 140737488351232 ∧ s.size ≤ 140737488351232 := by
  obtain ⟨cs, rfl, hsz⟩ := okWide_struct Tryz.underlying23 hv
  obtain ⟨c0, c1, c2, c3, rfl⟩ := array4 (hsz.trans (by kernel_rfl))
  obtain ⟨fuel, hf⟩ := h
  obtain ⟨xs, n, _, hd, hl, hlen, hfs⟩ := DataW.trod_struct Tryz.underlying23 hf
  obtain ⟨fs, hu, hfs2⟩ : ∃ fs : Array Field, Tryz.prog.underlying 23 = some (.struct fs) ∧ fs.toList.map (·.type) = [3, 3, 9, 9] := ⟨_, Tryz.underlying23, by kernel_rfl⟩
  have hrb : reachBytes ≤ 140737488351232 := by decide
  match xs, hlen with
  | [y0, y1, y2, y3], _ =>
    have h0 : DataW.trod enc Tryz.prog w base spare held n 3 [c0] = some y0 := hfs 0 _ rfl
    have h1 : DataW.trod enc Tryz.prog w base spare held n 3 [c1] = some y1 := hfs 1 _ rfl
    have h2 : DataW.trod enc Tryz.prog w base spare held n 9 [c2] = some y2 := hfs 2 _ rfl
    have h3 : DataW.trod enc Tryz.prog w base spare held n 9 [c3] = some y3 := hfs 3 _ rfl
    obtain ⟨a0, e0, _, w0⟩ := DataW.trod_int Tryz.underlying3 h0
    obtain ⟨a1, e1, _, w1⟩ := DataW.trod_int Tryz.underlying3 h1
    obtain ⟨a2, e2, d2, _⟩ := DataW.trod_string Tryz.underlying9 h2
    obtain ⟨a3, e3, d3, _⟩ := DataW.trod_string Tryz.underlying9 h3
    simp only [List.cons.injEq, and_true] at e0 e1 e2 e3
    subst e0 e1 e2 e3
    have d2 := congrArg Prod.fst d2
    have d3 := congrArg Prod.fst d3
    have hd := congrArg Prod.fst hd
    simp only [List.map_cons, List.map_nil] at hd
    have d2 : y2.1 = .lit (.string a2.data.toList) := d2
    have d3 : y3.1 = .lit (.string a3.data.toList) := d3
    rw [d2, d3] at hd
    rw [show d = _ from hd] at hw
    simp only [DataW.weights, hu, hfs2, DataW.weightsEach] at hw
    have k2 := hw a2.data.toList.length (by simp)
    have k3 := hw a3.data.toList.length (by simp)
    rw [Array.length_toList] at k2 k3
    exact ⟨a0, a1, a2, a3, rfl, int_wf w0, int_wf w1, Nat.le_trans k2 hrb, Nat.le_trans k3 hrb⟩
end
end Go.Proofs.YtlodgomjlkpdhaaGreatDoor.FrO
