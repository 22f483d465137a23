/-
  A statement whose order is open, taken phase by phase: where each operation of a phase but what waits for it yields a value of its own in every world that meets a condition, and keeps that condition, the phase may be taken in the text's order, whatever has come up before. Nothing here speaks of a program: no condition but those that each lemma names.
-/
import Derived.Test.YtpamdpfgcbadhaaDoorSteady
import Derived.OrdersHeld
namespace Go.Proofs.YtpamdpfgcbadhaaDoor.Steady
open Go Go.RowKit

section
variable {P : Program} {ops : Array Oper} {md : Region.Mode} {S : World → Prop}

/-- No operation from n on comes up before all below n have: it waits for the last of them, or for one from n on. -/
def rootB2 (md : Region.Mode) (ops : Array Oper) (n : Nat) : Bool := (List.range ops.size).all fun t => decide (t < n) || Region.waitsFor md ops t (n - 1) || (List.range ops.size).any fun j => decide (n ≤ j) && Region.waitsFor md ops t j
theorem root_waits2 {n : Nat} {listed : Array Bool} (hs : Region.sinkB md ops (n - 1) = true) (hc : rootB2 md ops n = true) (inv : HeadInv md ops n listed) {i : Nat} (hin : i < n) (hun : listed.getD i true = false) (t : Nat) (ht : n ≤ t) : t ∉ Region.ready md ops listed := by
  intro hr
  obtain ⟨_, ot, hot, hall⟩ := mem_ready.1 hr
  have htlt : t < ops.size := (Array.getElem?_eq_some_iff.1 hot).1
  have h1 := List.all_eq_true.1 hc t (List.mem_range.2 htlt)
  simp only [Bool.or_eq_true, decide_eq_true_eq] at h1
  rcases h1 with (h1 | h1) | h1
  · omega
  · obtain ⟨o', ho', e, he, hb, hon⟩ := Region.waitsFor_spec h1
    obtain rfl : o' = ot := Option.some.inj (ho'.symm.trans hot)
    have hroot : listed.getD (n - 1) false = true := by
      have h2 := hall e he hb
      rwa [hon] at h2
    have all : ∀ (d j : Nat), n - 1 - j = d → j ≤ n - 1 → listed.getD j false = true := by
      intro d
      induction d using Nat.strongRecOn with
      | _ d ih =>
        intro j hd hj
        by_cases hjn : j = n - 1
        · rw [hjn]
          exact hroot
        · have h1 := List.all_eq_true.1 hs j (List.mem_range.2 (by omega))
          obtain ⟨m, hm, hm2⟩ := List.any_eq_true.1 h1
          simp only [Bool.and_eq_true, decide_eq_true_eq] at hm2
          obtain ⟨om, hom, e, he, hb, hon⟩ := Region.waitsFor_spec hm2.2
          have hml := List.mem_range.1 hm
          have h2 := inv.closed m om hom (ih (n - 1 - m) (by omega) m rfl (by omega)) e he hb
          rwa [hon] at h2
    have := all _ i rfl (by omega)
    rw [getD_both hun] at this
    cases this
  · obtain ⟨j, hj, hj2⟩ := List.any_eq_true.1 h1
    simp only [Bool.and_eq_true, decide_eq_true_eq] at hj2
    obtain ⟨o', ho', e, he, hb, hon⟩ := Region.waitsFor_spec hj2.2
    obtain rfl : o' = ot := Option.some.inj (ho'.symm.trans hot)
    have h2 := hall e he hb
    rw [hon, getD_both (inv.tail j hj2.1 (List.mem_range.1 hj))] at h2
    cases h2

theorem H_first {n i : Nat} {oi : Oper} {v : Value} {L : Array Bool → Act → Prop} (hi : ops[i]? = some oi) (hsel : ∀ (j : Nat) (o : Oper) cs b, ops[j]? = some o → o.op ≠ .select cs b)
    (hs : Region.sinkB md ops (n - 1) = true) (hc : rootB2 md ops n = true) (hin : i < n)
    (hdone : ∀ listed a, L listed a → ∀ j ∈ Region.ready md ops listed, n ≤ j) :
    ∀ (f : Nat) (listed : Array Bool) (a : Act), HeadInv md ops n listed →
      (∀ j oj, ops[j]? = some oj → j ≠ i → listed.getD j true = false → (∀ e ∈ oj.after, Region.binds md e = true → e.on ≠ i) → oi.apart ops oj = true) →
      i ∈ Region.ready md ops listed → YieldsS P ops S oi v a →
      anyT P md ops S n L f (listed.setIfInBounds i true) (a.put oi.dst v) → anyT P md ops S n L (f + 1) listed a := by
  intro f
  induction f with
  | zero =>
    intro listed a inv _ hr hy H
    have hun := (mem_ready.1 hr).1
    refine ⟨fun h => (by rw [h] at hr; cases hr), fun j hj => ?_⟩
    have hjn : j < n := by
      rcases Nat.lt_or_ge j n with h | h
      · exact h
      · exact absurd hj (root_waits2 hs hc inv hin hun j h)
    refine ⟨hjn, ?_⟩
    by_cases hji : j = i
    · subst hji
      exact ⟨oi, v, hi, hy, H⟩
    · have := hdone _ _ H j (ready_mono hj hji)
      omega
  | succ f ih =>
    intro listed a inv hfree hr hy H
    have hun := (mem_ready.1 hr).1
    refine ⟨fun h => (by rw [h] at hr; cases hr), fun j hj => ?_⟩
    have hjn : j < n := by
      rcases Nat.lt_or_ge j n with h | h
      · exact h
      · exact absurd hj (root_waits2 hs hc inv hin hun j h)
    refine ⟨hjn, ?_⟩
    by_cases hji : j = i
    · subst hji
      exact ⟨oi, v, hi, hy, H⟩
    · obtain ⟨oj', u, hoj', hu, hk⟩ := (H.2 j (ready_mono hj hji)).2
      obtain ⟨hjun, oj, hoj, hall⟩ := mem_ready.1 hj
      obtain rfl : oj' = oj := Option.some.inj (hoj'.symm.trans hoj)
      have hnot : ∀ e ∈ oj'.after, Region.binds md e = true → e.on ≠ i := fun e he hb heq => by
        have h1 := hall e he hb
        rw [heq, getD_both hun] at h1
        cases h1
      obtain ⟨g1, g2, g3⟩ := put_yields (hfree j oj' hoj hji hjun hnot) (fun cs b => hsel i oi cs b hi) (fun cs b => hsel j oj' cs b hoj) hy hu
      have hfree' : ∀ k ok, ops[k]? = some ok → k ≠ i → (listed.setIfInBounds j true).getD k true = false →
          (∀ e ∈ ok.after, Region.binds md e = true → e.on ≠ i) → oi.apart ops ok = true := fun k ok hk hki hun hno => by
        refine hfree k ok hk hki ?_ hno
        by_cases hjk : j = k
        · subst hjk; exact hjun
        · rw [getD_set_ne true hjk] at hun; exact hun
      refine ⟨oj', u, hoj, g1, ih (listed.setIfInBounds j true) _ (inv.set hj hjn) hfree' (ready_mono hr (Ne.symm hji)) g2 ?_⟩
      rw [← g3, Array.setIfInBounds_comm _ _ hji]
      exact hk

theorem H_lex {n : Nat} {Lq : Act → Prop} (hsel : Region.noSelect ops = true) (hs : Region.sinkB md ops (n - 1) = true) (hc : rootB2 md ops n = true) (fin : Array Bool) (hfin : ∀ j ∈ Region.ready md ops fin, n ≤ j) :
    ∀ (l : List Oper) (k : Nat) (listed : Array Bool) (a : Act), (∀ j, j < l.length → l[j]? = ops[k + j]?) → k + l.length = n → HeadInv md ops n listed → fill l.length k listed = fin →
    preB md ops n l.length k listed = true → steps P ops S Lq l a →
    anyT P md ops S n (fun listed' a' => listed' = fin ∧ Lq a') l.length listed a
  | [], k, listed, a, _, _, _, hf, _, h => ⟨hf, h⟩
  | o :: l, k, listed, a, hl, hk, inv, hf, hB, h => by
    have h0 : ops[k]? = some o := by simpa using (hl 0 (by simp)).symm
    simp only [List.length_cons, preB, Bool.and_eq_true] at hB
    obtain ⟨⟨hr, hfr⟩, hB'⟩ := hB
    have hkn : k < n := by simp only [List.length_cons] at hk; omega
    have hr' : k ∈ Region.ready md ops listed := by simpa using hr
    obtain ⟨v, hy, hK⟩ := h
    exact H_first (L := fun listed' a' => listed' = fin ∧ Lq a') h0 (Region.noSelect_spec hsel) hs hc hkn (fun listed' a' hL => hL.1 ▸ hfin) l.length listed a inv (Region.free_spec h0 hfr) hr' hy
      (H_lex hsel hs hc fin hfin l (k + 1) _ _ (fun j hj => by have := hl (j + 1) (by simp; omega); simpa [Nat.add_assoc, Nat.add_comm 1 j] using this) (by simp only [List.length_cons] at hk; omega) (inv.set hr' hkn) hf hB' hK)

theorem anyH_of_T {n g : Nat} {L : Array Bool → Act → Prop} {Q : Exit → Act → World → Prop} (hL : ∀ listed a w, S w → L listed a → wpAnyH P md ops Q S g listed a w) :
    ∀ (f : Nat) (listed : Array Bool) (a : Act), anyT P md ops S n L f listed a → ∀ w, S w → wpAnyH P md ops Q S (f + g) listed a w
  | 0, listed, a, h, w, hS => by
    rw [Nat.zero_add]
    exact hL _ _ _ hS h
  | f + 1, listed, a, h, w, hS => by
    rw [show f + 1 + g = (f + g) + 1 by omega]
    refine ⟨fun h0 => absurd h0 h.1, fun i hi => ?_⟩
    obtain ⟨-, o, v, ho, hy, hk⟩ := h.2 i hi
    exact hy.wpOp ho hS fun w' hS' => ⟨hS', anyH_of_T hL f _ _ hk w' hS'⟩

/-- What has come up is closed, and nothing from n on has. -/
def invB (md : Region.Mode) (ops : Array Oper) (n : Nat) (listed : Array Bool) : Bool :=
  decide (listed.size = ops.size) && ((List.range ops.size).all fun j => !listed.getD j false || (match ops[j]? with | none => true | some oj => oj.after.toList.all fun e => !Region.binds md e || listed.getD e.on false)) &&
    ((List.range ops.size).all fun t => decide (t < n) || !listed.getD t true)
theorem inv_of {n : Nat} {listed : Array Bool} (h : invB md ops n listed = true) : HeadInv md ops n listed := by
  simp only [invB, Bool.and_eq_true, decide_eq_true_eq] at h
  obtain ⟨⟨h1, h2⟩, h3⟩ := h
  refine ⟨h1, fun j oj hj hl e he hb => ?_, fun t ht ht' => ?_⟩
  · have hlt : j < ops.size := (Array.getElem?_eq_some_iff.1 hj).1
    have h4 := List.all_eq_true.1 h2 j (List.mem_range.2 hlt)
    rw [hl, hj] at h4
    simp only [Bool.not_true, Bool.false_or] at h4
    have h5 := List.all_eq_true.1 h4 e (by simpa using he)
    rw [hb] at h5
    simpa using h5
  · have h4 := List.all_eq_true.1 h3 t (List.mem_range.2 ht')
    simp only [Bool.or_eq_true, decide_eq_true_eq] at h4
    rcases h4 with h4 | h4
    · omega
    · simpa using h4
def phaseB (md : Region.Mode) (ops : Array Oper) (k n : Nat) (listed : Array Bool) : Bool :=
  Region.noSelect ops && decide (k ≤ n) && decide (n ≤ ops.size) && Region.sinkB md ops (n - 1) && rootB2 md ops n && preB md ops n (n - k) k listed && invB md ops n listed

/-- The operations from k on as far as n, in the text's order, whatever has come up before. -/
theorem phase {l : List Oper} {listed : Array Bool} {Q : Exit → Act → World → Prop} {a : Act} {w : World} {fuel : Nat} (k n g : Nat) (hf : n - k + g = fuel) (hB : phaseB md l.toArray k n listed = true) (hS : S w)
    (h : steps P l.toArray S (fun a' => ∀ w', S w' → wpAnyH P md l.toArray Q S g (fill (n - k) k listed) a' w') ((l.drop k).take (n - k)) a) : wpAnyH P md l.toArray Q S fuel listed a w := by
  subst hf
  simp only [phaseB, Bool.and_eq_true, decide_eq_true_eq] at hB
  obtain ⟨⟨⟨⟨⟨⟨hsel, hkn⟩, hn⟩, hs⟩, hc⟩, hpre⟩, hinv⟩ := hB
  have hn' : n ≤ l.length := by simpa using hn
  have hlen : ((l.drop k).take (n - k)).length = n - k := by simp; omega
  have hpre' : preB md l.toArray n ((l.drop k).take (n - k)).length k listed = true := by rw [hlen]; exact hpre
  have H := H_lex (md := md) hsel hs hc _ (preB_fin _ _ _ hpre') ((l.drop k).take (n - k)) k listed a (fun j hj => by
    rw [hlen] at hj
    rw [List.getElem?_take_of_lt hj]
    simp) (by rw [hlen]; omega) (inv_of hinv) rfl hpre' h
  have := anyH_of_T (Q := Q) (g := g) (fun listed' a' w' hS' hL => by
    obtain ⟨rfl, hL⟩ := hL
    have := hL w' hS'
    rw [hlen]
    exact this) _ _ _ H w hS
  rwa [hlen] at this
/-- A call that comes up: what it answers may hang on the world. -/
theorem call_any {i : Nat} {o : Oper} {a : Act} {w : World} {K : Act → World → Prop} {Q : Exit → Act → World → Prop} (hi : ops[i]? = some o) (hg : Region.wanted o (yielded ops a.tmps) = true) (f : FuncId) (args : Array Value)
    (hy : (execOp a.eval o).run P w = .ok (.enter f args) w) (R : Value → World → Prop) (hc : Calls P f args w fun e w' => ∃ v, e = .returned v ∧ R v w') (h : ∀ v w', R v w' → K (a.put o.dst v) w') : wpOp P ops Q i K a w := by
  unfold Go.wpOp
  simp only [hi, hg, if_true]
  refine .inl ?_
  unfold Oper.wp
  rw [hy, Oper.upon_enter]
  refine hc.mono ?_
  rintro e w' ⟨v, rfl, hr⟩
  exact h v w' hr
theorem call_next {i : Nat} {o : Oper} {fuel : Nat} {listed : Array Bool} {a : Act} {w : World} {Q : Exit → Act → World → Prop} (hr : Region.ready md ops listed = [i]) (hi : ops[i]? = some o) (hg : Region.wanted o (yielded ops a.tmps) = true) (f : FuncId) (args : Array Value)
    (hy : (execOp a.eval o).run P w = .ok (.enter f args) w) (R : Value → World → Prop) (hc : Calls P f args w fun e w' => ∃ v, e = .returned v ∧ R v w')
    (h : ∀ v w', R v w' → S w' ∧ wpAnyH P md ops Q S fuel (listed.setIfInBounds i true) (a.put o.dst v) w') : wpAnyH P md ops Q S (fuel + 1) listed a w :=
  wpAnyH_all (rs := [i]) hr (by simp) fun j hj => by
    obtain rfl : j = i := by simpa using hj
    exact call_any hi hg f args hy R hc h
end
end Go.Proofs.YtpamdpfgcbadhaaDoor.Steady
