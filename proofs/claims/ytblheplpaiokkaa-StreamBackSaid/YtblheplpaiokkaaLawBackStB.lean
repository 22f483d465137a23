/-
  StreamBack: a quarter can be brought back, and so can a mixed state, place by place: for every input, the law answers true and changes nothing that was there. No condition.
-/
import Derived.Test.YtblheplpaiokkaaLawUnmixB
import Derived.Test.YtblheplpaiokkaaRows
import Derived.Test.YtblheplpaiokkaaOpen
namespace Go.Proofs.Ytblheplpaiokkaa.LawBack
open Go.ChangeShapes Go.WideShapes Go.ChangeAt Go.RowKit Mur Lanes Cha

theorem own : ownKnob Try.prog.godebug = none := by kernel_rfl
theorem laidOut : laidOutB Try.prog = true := by kernel_rfl
/-- Sixteen numbers of 32 bits, as numbers from 0 on. -/
theorem words_of (ns : List Int) (h : ∀ n ∈ ns, (Lit.int .u32 n).wf = true) : ∃ s : List Nat, s.length = ns.length ∧ ns.map (Value.int .u32) = wordsV s ∧ ∀ x ∈ s, x < 4294967296 := by
  induction ns with
  | nil => exact ⟨[], rfl, rfl, fun _ h => by cases h⟩
  | cons n ns ih =>
    obtain ⟨s, h1, h2, h3⟩ := ih fun m hm => h m (List.mem_cons_of_mem _ hm)
    have hn := h n (List.mem_cons_self ..)
    have hb : 0 ≤ n ∧ n < 4294967296 := by
      have h0 : IntKind.u32.min ≤ n ∧ n ≤ IntKind.u32.max := by simpa [Lit.wf] using hn
      have e1 : IntKind.u32.min = 0 := by decide
      have e2 : IntKind.u32.max = 4294967295 := by decide
      omega
    refine ⟨n.toNat :: s, by simp [h1], ?_, fun x hx => ?_⟩
    · rw [List.map_cons, h2]
      have : n = ((n.toNat : Nat) : Int) := by omega
      simp only [wordsV, List.map_cons]
      rw [← this]
    · rcases List.mem_cons.1 hx with rfl | hx
      · omega
      · exact h3 x hx

set_option maxRecDepth 100000 in
theorem lifted (os : Os) (started : os.Started) (H : Type) (enc : TypeId × Value → H) :
    ReturnsInHanded {} Try.checked os 5 .any (Rows.streamBackSpec.pre6 enc Try.prog Try.f5 Rows.streamBackRow.domain false) (Rows.streamBackSpec.post enc Try.prog Try.f5 false true false false) := by
  refine returnsInHanded_of_change_sized (C := Try.checked) own started (by kernel_rfl) Try.func5
    (ChangeSpec.witness6 (enc := enc) (C := Try.checked) false ⟨#[], #[.agg #[.int .u32 0, .int .u32 0, .int .u32 0, .int .u32 0, .int .u32 0, .int .u32 0, .int .u32 0, .int .u32 0, .int .u32 0, .int .u32 0, .int .u32 0, .int .u32 0, .int .u32 0, .int .u32 0, .int .u32 0, .int .u32 0]], []⟩ 8 (by kernel_rfl) (by kernel_rfl) (by kernel_rfl) (by kernel_rfl)) ?_
  intro W base args ds gs before hval0 hW hcnd hsz0 _
  have hval : ∀ (j : Nat) t v, Try.f5.params[j]? = some t → args[j]? = some v → Value.okWide Try.prog W .any base t v := hval0
  have hW' := hW
  obtain ⟨p, q, hA0, hV, rfl, hfz, hnd⟩ := hW
  have hA : DataW.TrodAll enc Try.prog W 0 (fun _ => true) true Try.f5.params.toList args.toList ds p := hA0
  rw [Try.params5] at hA hval
  obtain ⟨v0, vs0, d0, ds0, p0, q0, hargs, rfl, rfl, h0, r0⟩ := trodAll_cons hA
  obtain ⟨rfl, rfl, rfl⟩ := trodAll_nil r0
  obtain rfl : args = #[v0] := by cases args; simp_all
  obtain ⟨rfl, rfl⟩ := trodVars_none hV
  have k0 := h0
  have lt0 : ∀ x ∈ p0, x.block < W.heap.size := by obtain ⟨m, hm⟩ := k0; exact DataW.trod_lt m _ _ _ hm
  obtain ⟨ns, hnl, rfl, rfl, rfl, w0⟩ := Open.open_int_array Try.underlying23 Try.underlying22 (by kernel_rfl) (by kernel_rfl) (hval 0 23 v0 rfl rfl) h0
  obtain ⟨s, hsl, hse, hsw⟩ := words_of ns w0
  clear hA0 hval0
  have hw := walk s W ⟨hsl.trans hnl, hsw⟩
  rw [← hse] at hw
  refine hw.mono fun e W' ⟨he, bel⟩ => ?_
  subst he
  exact ⟨_, rfl, _, _, _, [], _, [], hW', trodAll_mk1 (shut_bool Try.underlying4 _), (trodAll_cons_mk (Below.trod laidOut (by kernel_rfl) (of_decide_eq_true (by kernel_rfl)) k0 bel lt0) trodAll_mk0), rfl, bel.frame _, fun h => by cases h⟩

theorem over : Rows.streamBackRow.holds Try.pinned (OpenSpec.ofChange Rows.streamBackSpec) :=
  OpenClaim.holds_of_wide 5 Try.f5 rfl rfl rfl rfl rfl rfl rfl ⟨rfl, rfl, rfl, rfl, rfl⟩ rfl rfl rfl rfl rfl (by kernel_rfl) Try.func5 (by kernel_rfl)
    (of_decide_eq_true (by kernel_rfl)) (by unfold Func.isWrapper; first | (rw [if_pos (by decide +kernel)]; kernel_rfl) | (rw [if_neg (by decide +kernel)]; exact ⟨rfl, rfl⟩))
    (fun os started H enc _ => lifted os started H enc)

theorem proved : Rows.StreamBackSaid := over
#print axioms proved
end Go.Proofs.Ytblheplpaiokkaa.LawBack
