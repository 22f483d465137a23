/-
  A roster that came in, opened: a text, two numbers, two lists of numbers. No condition.
-/
import Derived.Test.YtofnjonmfgdpaaaRosG
import Derived.Test.YtofnjonmfgdpaaaLawPOpen
import Derived.Deep.Strs
namespace Go.Proofs.Ytofnjonmfgdpaaa.Ros
open Go.ChangeShapes Go.WideShapes Go.ChangeAt Go.ChangeMaps Go.RowKit Mur Prt
set_option maxRecDepth 100000

/-- A roster that came in, as it is read. -/
structure RosC (w : World) (r : R) (g : ByteArray) (ab : Option Addr) (nb : Nat) (ag : Option Addr) (ng : Nat) : Prop where
  group : g.data.toList = r.group
  buds : IntsR w ab r.buddies
  nbuds : r.buddies.length = nb
  gones : IntsR w ag r.gone
  ngones : r.gone.length = ng
  fitN : g.size ≤ 9223372036854775807
  fitS : -9223372036854775808 ≤ r.servers ∧ r.servers ≤ 9223372036854775807
  fitC : -9223372036854775808 ≤ r.clients ∧ r.clients ≤ 9223372036854775807
  fitB : ∀ z ∈ r.buddies, -9223372036854775808 ≤ z ∧ z ≤ 9223372036854775807
  fitG : ∀ z ∈ r.gone, -9223372036854775808 ≤ z ∧ z ≤ 9223372036854775807
  mostB : nb ≤ 9223372036854775807
  mostG : ng ≤ 9223372036854775807
theorem RosC.few {w : World} {r : R} {g : ByteArray} {ab ag : Option Addr} {nb ng : Nat} (h : RosC w r g ab nb ag ng) (hb : nb ≤ 1000) (hg : ng ≤ 1000) : RosR w r g ab nb ag ng :=
  ⟨h.group, h.buds, h.nbuds, h.gones, h.ngones, h.fitN, h.fitS, h.fitC, h.fitB, h.fitG, hb, hg⟩
theorem array5 {α : Type} {cs : Array α} (h : cs.size = 5) : ∃ c0 c1 c2 c3 c4, cs = #[c0, c1, c2, c3, c4] := by
  obtain ⟨l⟩ := cs
  match l, h with
  | [c0, c1, c2, c3, c4], _ => exact ⟨c0, c1, c2, c3, c4, rfl⟩

section
variable {H : Type} {enc : TypeId × Value → H} {w : World} {base : Nat} {spare : Nat → Bool} {held : Bool}
theorem slice_cell {n : Nat} {c : Value} {y : DataW H × List MemPlace} (h : DataW.trod enc Try.prog w base spare held n 22 [c] = some y) : ∃ a l k, c = .slice a l k ∧ DataW.Trod enc Try.prog w base spare held 22 (.slice a l k) y.1 y.2 := by
  rcases open_ints Try.underlying22 Try.underlying3 (by kernel_rfl) h with ⟨hcs, _⟩ | ⟨x, l, k, zs, hcs, _⟩
  · simp at hcs
    subst hcs
    exact ⟨none, 0, 0, rfl, n, by simpa [Value.cells] using h⟩
  · simp at hcs
    subst hcs
    exact ⟨some x, l, k, rfl, n, by simpa [Value.cells] using h⟩
theorem open_roster {r : Reach} {b0 : Nat} {v : Value} {d : DataW H} {p : List MemPlace} (hv : Value.okWide Try.prog w r b0 24 v) (h : DataW.Trod enc Try.prog w base spare held 24 v d p) :
    ∃ (ro : R) (g : ByteArray) (ab : Option Addr) (nb cb : Nat) (ag : Option Addr) (ng cg : Nat), v = .agg #[.string g, .int .i64 ro.servers, .int .i64 ro.clients, .slice ab nb cb, .slice ag ng cg] ∧ RosC w ro g ab nb ag ng := by
  obtain ⟨cs, rfl, hsz⟩ := okWide_struct Try.underlying24 hv
  obtain ⟨c0, c1, c2, c3, c4, rfl⟩ := array5 (hsz.trans (by kernel_rfl))
  obtain ⟨fuel, hf⟩ := h
  obtain ⟨xs, n, _, _, hl, hlen, hfs⟩ := DataW.trod_struct Try.underlying24 hf
  match xs, hlen with
  | [y0, y1, y2, y3, y4], _ =>
    have h0 : DataW.trod enc Try.prog w base spare held n 9 [c0] = some y0 := hfs 0 _ rfl
    have h1 : DataW.trod enc Try.prog w base spare held n 3 [c1] = some y1 := hfs 1 _ rfl
    have h2 : DataW.trod enc Try.prog w base spare held n 3 [c2] = some y2 := hfs 2 _ rfl
    have h3 : DataW.trod enc Try.prog w base spare held n 22 [c3] = some y3 := hfs 3 _ rfl
    have h4 : DataW.trod enc Try.prog w base spare held n 22 [c4] = some y4 := hfs 4 _ rfl
    obtain ⟨g, eg, _, wg⟩ := DataW.trod_string Try.underlying9 h0
    obtain ⟨s, es, _, ws⟩ := DataW.trod_int Try.underlying3 h1
    obtain ⟨c, ec, _, wc⟩ := DataW.trod_int Try.underlying3 h2
    simp only [List.cons.injEq, and_true] at eg es ec
    subst eg es ec
    obtain ⟨ab, nb, cb, rfl, t3⟩ := slice_cell h3
    obtain ⟨ag, ng, cg, rfl, t4⟩ := slice_cell h4
    obtain ⟨zb, ib, lb, mb, fb⟩ := ints_came t3
    obtain ⟨zg, ig, lg, mg, fg⟩ := ints_came t4
    exact ⟨⟨g.data.toList, s, c, zb, zg⟩, g, ab, nb, cb, ag, ng, cg, rfl, rfl, ib, lb, ig, lg, by unfold maxLen at wg; omega, int_wf ws, int_wf wc, fb, fg, mb, mg⟩
end
end Go.Proofs.Ytofnjonmfgdpaaa.Ros
