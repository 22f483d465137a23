/-
  A law on a statement whose order is open and that makes one variable on its way: the variable may be made behind all the other operations, which go on in the text's order. Nothing here speaks of a program: no condition but those that each lemma names.
-/
import Derived.Test.YtcglobpklhkebaaSteady
import Derived.Test.YtcglobpklhkebaaWhole
namespace Go.Proofs.Ytcglobpklhkebaa.Steady
open Go Go.RowKit Mur

section
variable {P : Program} {ops : Array Oper} {md : Region.Mode} {S : Option Value → World → Prop}

def YieldsM (P : Program) (ops : Array Oper) (S : Option Value → World → Prop) (o : Oper) (v : Value) (a : Act) : Prop :=
  (Region.wanted o (yielded ops a.tmps) = true ∧ ∀ s w, S s w → Good P (S s) o a v w) ∨ (Region.wanted o (yielded ops a.tmps) = false ∧ v = undef)

theorem YieldsM.of_same {o : Oper} {v : Value} {a a' : Act} (hy : YieldsM P ops S o v a) (he : execOp a'.eval o = execOp a.eval o)
    (hw : Region.wanted o (yielded ops a'.tmps) = Region.wanted o (yielded ops a.tmps)) : YieldsM P ops S o v a' := by
  unfold YieldsM Good at *
  rw [he, hw]
  exact hy
theorem YieldsM.to {o : Oper} {v : Value} {a : Act} (hy : YieldsM P ops S o v a) (s : Option Value) : YieldsS P ops (S s) o v a :=
  hy.imp (fun h => ⟨h.1, fun w => h.2 s w⟩) id

/-- What the making of the variable does, whatever the state. -/
def Makes (P : Program) (S : Option Value → World → Prop) (o : Oper) : Prop :=
  o.guard = none ∧ ∀ (a : Act) w, S none w → ∃ p w', (execOp a.eval o).run P w = .ok (.value p) w' ∧ S (some p) w'

/-- The operations below n in whatever order, the variable m among them, without a word of the world. -/
def anyM (P : Program) (md : Region.Mode) (ops : Array Oper) (S : Option Value → World → Prop) (n m : Nat) (om : Oper) (L : Array Bool → Act → Option Value → Prop) : Nat → Array Bool → Act → Option Value → Prop
  | 0, listed, a, s => L listed a s
  | f + 1, listed, a, s => Region.ready md ops listed ≠ [] ∧ ∀ i ∈ Region.ready md ops listed, i < n ∧ (i ≠ m → ∃ o v, ops[i]? = some o ∧ YieldsM P ops S o v a ∧ anyM P md ops S n m om L f (listed.setIfInBounds i true) (a.put o.dst v) s) ∧
      (i = m → s = none ∧ ∀ p, anyM P md ops S n m om L f (listed.setIfInBounds m true) (a.put om.dst p) (some p))

theorem any_of_M {n m g : Nat} {om : Oper} {L : Array Bool → Act → Option Value → Prop} {Q : Exit → Act → World → Prop} (hom : ops[m]? = some om) (hmk : Makes P S om) (hL : ∀ listed a s w, S s w → L listed a s → wpAny P md ops Q g listed a w) :
    ∀ (f : Nat) (listed : Array Bool) (a : Act) (s : Option Value), anyM P md ops S n m om L f listed a s → ∀ w, S s w → wpAny P md ops Q (f + g) listed a w
  | 0, listed, a, s, h, w, hS => by
    rw [Nat.zero_add]
    exact hL _ _ _ _ hS h
  | f + 1, listed, a, s, h, w, hS => by
    rw [show f + 1 + g = (f + g) + 1 by omega]
    refine ⟨fun h0 => absurd h0 h.1, fun i hi => ?_⟩
    obtain ⟨-, h1, h2⟩ := h.2 i hi
    by_cases hm : i = m
    · subst hm
      obtain ⟨rfl, hk⟩ := h2 rfl
      obtain ⟨p, w', hr, hS'⟩ := hmk.2 a w hS
      unfold wpOp
      simp only [hom]
      rw [if_pos (by simp [Region.wanted, hmk.1])]
      refine .inl ?_
      unfold Oper.wp
      rw [hr]
      exact any_of_M hom hmk hL f _ _ _ (hk p) w' hS'
    · obtain ⟨o, v, ho, hy, hk⟩ := h1 hm
      exact (hy.to s).wpOp ho hS fun w' hS' => any_of_M hom hmk hL f _ _ _ hk w' hS'

theorem M_first {n m i : Nat} {om oi : Oper} {v : Value} {L : Array Bool → Act → Option Value → Prop} (hi : ops[i]? = some oi) (him : i ≠ m) (hom : ops[m]? = some om) (hsel : ∀ (j : Nat) (o : Oper) cs b, ops[j]? = some o → o.op ≠ .select cs b)
    (hs : Region.sinkB md ops n = true) (hc : Region.chainB md ops n = true) (hn : n < ops.size) (hin : i < n)
    (hdone : ∀ listed a s, L listed a s → ∀ j ∈ Region.ready md ops listed, n ≤ j) :
    ∀ (f : Nat) (listed : Array Bool) (a : Act) (s : Option Value), HeadInv md ops n listed →
      (∀ j oj, ops[j]? = some oj → j ≠ i → listed.getD j true = false → (∀ e ∈ oj.after, Region.binds md e = true → e.on ≠ i) → oi.apart ops oj = true) →
      i ∈ Region.ready md ops listed → YieldsM P ops S oi v a →
      anyM P md ops S n m om L f (listed.setIfInBounds i true) (a.put oi.dst v) s → anyM P md ops S n m om L (f + 1) listed a s := by
  intro f
  induction f with
  | zero =>
    intro listed a s inv _ hr hy H
    have hun := (mem_ready.1 hr).1
    refine ⟨fun h => (by rw [h] at hr; cases hr), fun j hj => ?_⟩
    have hjn : j < n := by
      rcases Nat.lt_or_ge j n with h | h
      · exact h
      · exact absurd hj (tail_waits hs hc hn inv _ i rfl hin hun j h)
    by_cases hji : j = i
    · subst hji
      exact ⟨hjn, fun _ => ⟨oi, v, hi, hy, H⟩, fun h => absurd h him⟩
    · have := hdone _ _ _ H j (ready_mono hj hji)
      omega
  | succ f ih =>
    intro listed a s inv hfree hr hy H
    have hun := (mem_ready.1 hr).1
    refine ⟨fun h => (by rw [h] at hr; cases hr), fun j hj => ?_⟩
    have hjn : j < n := by
      rcases Nat.lt_or_ge j n with h | h
      · exact h
      · exact absurd hj (tail_waits hs hc hn inv _ i rfl hin hun j h)
    by_cases hji : j = i
    · subst hji
      exact ⟨hjn, fun _ => ⟨oi, v, hi, hy, H⟩, fun h => absurd h him⟩
    · obtain ⟨-, H1, H2⟩ := H.2 j (ready_mono hj hji)
      obtain ⟨hjun, oj, hoj, hall⟩ := mem_ready.1 hj
      have hnot : ∀ e ∈ oj.after, Region.binds md e = true → e.on ≠ i := fun e he hb heq => by
        have h1 := hall e he hb
        rw [heq, getD_both hun] at h1
        cases h1
      have hap := hfree j oj hoj hji hjun hnot
      obtain ⟨q1, q2, q3⟩ := Oper.apart_spec hap
      have hfree' : ∀ k ok, ops[k]? = some ok → k ≠ i → (listed.setIfInBounds j true).getD k true = false →
          (∀ e ∈ ok.after, Region.binds md e = true → e.on ≠ i) → oi.apart ops ok = true := fun k ok hk hki hun hno => by
        refine hfree k ok hk hki ?_ hno
        by_cases hjk : j = k
        · subst hjk; exact hjun
        · rw [getD_set_ne true hjk] at hun; exact hun
      have keep : ∀ u, YieldsM P ops S oi v (a.put oj.dst u) := fun u => hy.of_same (execOp_put oi (fun cs b => hsel i oi cs b hi) a oj.dst u q3) (wanted_put oi a oj.dst u q3)
      refine ⟨hjn, fun hjm => ?_, fun hjm => ?_⟩
      · obtain ⟨oj', u, hoj', hu, hk⟩ := H1 hjm
        obtain rfl : oj' = oj := Option.some.inj (hoj'.symm.trans hoj)
        refine ⟨oj', u, hoj, hu.of_same (execOp_put oj' (fun cs b => hsel j oj' cs b hoj) a oi.dst v q1).symm (wanted_put oj' a oi.dst v q1).symm, ih (listed.setIfInBounds j true) _ s (inv.set hj hjn) hfree' (ready_mono hr (Ne.symm hji)) (keep u) ?_⟩
        rw [← Act.put_comm a v u q2, Array.setIfInBounds_comm _ _ hji]
        exact hk
      · obtain ⟨rfl, hk⟩ := H2 hjm
        subst hjm
        obtain rfl : om = oj := Option.some.inj (hom.symm.trans hoj)
        refine ⟨rfl, fun p => ih (listed.setIfInBounds j true) _ (some p) (inv.set hj hjn) hfree' (ready_mono hr (Ne.symm hji)) (keep p) ?_⟩
        rw [← Act.put_comm a v p q2, Array.setIfInBounds_comm _ _ hji]
        exact hk p

/-- The operations one by one, in the text's order. -/
def stepsM (P : Program) (ops : Array Oper) (S : Option Value → World → Prop) (Q : Act → Prop) : List Oper → Act → Prop
  | [], a => Q a
  | o :: rest, a => ∃ v, YieldsM P ops S o v a ∧ stepsM P ops S Q rest (a.put o.dst v)

/-- The operations of ks may be taken one behind the other; then m alone is left below n; then the rest comes up in order. -/
def orderB (md : Region.Mode) (ops : Array Oper) (n m : Nat) : List Nat → Array Bool → Bool
  | [], listed => decide (Region.ready md ops listed = [m]) && Region.seqB md ops (ops.size - n) n (listed.setIfInBounds m true)
  | k :: ks, listed => decide (k < n) && decide (k ≠ m) && (Region.ready md ops listed).contains k && Region.free md ops listed k && orderB md ops n m ks (listed.setIfInBounds k true)
def allocB (md : Region.Mode) (ops : Array Oper) (n m : Nat) (ks : List Nat) : Bool :=
  Region.noSelect ops && decide (n < ops.size) && decide (m < n) && Region.sinkB md ops n && Region.chainB md ops n && decide (ks.length + 1 = n) && orderB md ops n m ks (Array.replicate ops.size false)

theorem M_lex {n m : Nat} {om : Oper} {Lq : Act → Prop} (hom : ops[m]? = some om) (hsel : Region.noSelect ops = true) (hs : Region.sinkB md ops n = true) (hc : Region.chainB md ops n = true) (hn : n < ops.size) (hmn : m < n) :
    ∀ (ks : List Nat) (l : List Oper) (listed : Array Bool) (a : Act), l = ks.filterMap (fun k => ops[k]?) → HeadInv md ops n listed →
    orderB md ops n m ks listed = true → stepsM P ops S Lq l a →
    anyM P md ops S n m om (fun listed' a' s => Region.seqB md ops (ops.size - n) n listed' = true ∧ ∃ p a'', s = some p ∧ a' = a''.put om.dst p ∧ Lq a'') (ks.length + 1) listed a none
  | [], l, listed, a, hl, inv, hB, h => by
    subst hl
    simp only [orderB, Bool.and_eq_true, decide_eq_true_eq] at hB
    refine ⟨by rw [hB.1]; simp, fun i hi => ?_⟩
    rw [hB.1] at hi
    obtain rfl : i = m := by simpa using hi
    exact ⟨hmn, fun h => absurd rfl h, fun _ => ⟨rfl, fun p => ⟨hB.2, p, a, rfl, rfl, h⟩⟩⟩
  | k :: ks, l, listed, a, hl, inv, hB, h => by
    simp only [orderB, Bool.and_eq_true, decide_eq_true_eq] at hB
    obtain ⟨⟨⟨⟨hkn, hkm⟩, hr⟩, hf⟩, hB'⟩ := hB
    have hr' : k ∈ Region.ready md ops listed := by simpa using hr
    obtain ⟨-, o, h0, -⟩ := mem_ready.1 hr'
    rw [List.filterMap_cons_some h0] at hl
    subst hl
    obtain ⟨v, hy, hK⟩ := h
    exact M_first (L := fun listed' a' s => Region.seqB md ops (ops.size - n) n listed' = true ∧ ∃ p a'', s = some p ∧ a' = a''.put om.dst p ∧ Lq a'') h0 hkm hom (Region.noSelect_spec hsel) hs hc hn hkn (fun listed' a' _ hL => seqB_ready hL.1) (ks.length + 1) listed a none inv (Region.free_spec h0 hf) hr' hy
      (M_lex hom hsel hs hc hn hmn ks _ _ _ rfl (inv.set hr' hkn) hB' hK)

/-- The beginning: the operations ks by steps, then the variable m, then those from n on as they come. -/
theorem region_alloc {id : Nat} {Q : Exit → Act → World → Prop} {a : Act} {w : World} {l : List Oper} (n m : Nat) (ks : List Nat) (om : Oper) (hom : l[m]? = some om) (hm : P.follows .mixedOrders = true) (hB : allocB .any l.toArray n m ks = true) (S : Option Value → World → Prop) (hmk : Makes P S om) (hS : S none w.drew)
    (h : stepsM P l.toArray S (fun a' => ∀ p w', S (some p) w' → wpList P l.toArray Q (l.drop n) (a'.put om.dst p) w') (ks.filterMap fun k => l[k]?) a) : (Code.region id l.toArray true).wp P Q a w := by
  simp only [allocB, Bool.and_eq_true, decide_eq_true_eq] at hB
  obtain ⟨⟨⟨⟨⟨⟨hsel, hn⟩, hmn⟩, hs⟩, hc⟩, hlen⟩, hord⟩ := hB
  have hn' : n < l.length := by simpa using hn
  have hdl : (l.drop n).length = l.toArray.size - n := by simp
  have inv0 : HeadInv .any l.toArray n (Array.replicate l.toArray.size false) :=
    ⟨by simp, fun j oj _ hl => (by rw [getD_replicate_false] at hl; cases hl), fun t _ ht => getD_in (by simpa using ht) (getD_replicate_false _ _)⟩
  have H := M_lex (P := P) (md := .any) (S := S) (om := om) (by simpa using hom) hsel hs hc hn hmn ks _ _ a (by simp) inv0 hord h
  refine wp_region_any hm ?_
  have := any_of_M (Q := Q) (g := l.toArray.size - n) (by simpa using hom) hmk (fun listed a' s w' hS' hL => by
    obtain ⟨hq, p, a'', rfl, rfl, hL⟩ := hL
    have := wpAny_of_seq (md := .any) (Q' := Q) (l.drop n) n listed (a''.put om.dst p) w' (fun j => by simp [List.getElem?_drop]) (by rw [hdl]; exact hq) (hL p w' hS')
    rwa [hdl] at this) _ _ _ _ H _ hS
  rw [hlen, show n + (l.toArray.size - n) = l.toArray.size by omega] at this
  exact this

theorem nilM {Q : Act → Prop} {a : Act} (h : Q a) : stepsM P ops S Q [] a := h
theorem takeM {Q : Act → Prop} {a : Act} {o : Oper} {rest : List Oper} (v : Value) (hg : Region.wanted o (yielded ops a.tmps) = true) (hy : ∀ s w, S s w → (execOp a.eval o).run P w = .ok (.value v) w)
    (h : stepsM P ops S Q rest (a.put o.dst v)) : stepsM P ops S Q (o :: rest) a := ⟨v, .inl ⟨hg, fun s w hS => .inl (hy s w hS)⟩, h⟩
theorem callM {Q : Act → Prop} {a : Act} {o : Oper} {rest : List Oper} (v : Value) (f : FuncId) (args : Array Value) (hg : Region.wanted o (yielded ops a.tmps) = true)
    (hy : ∀ w, (execOp a.eval o).run P w = .ok (.enter f args) w) (hc : ∀ s w, S s w → Calls P f args w fun e w' => e = .returned v ∧ S s w')
    (h : stepsM P ops S Q rest (a.put o.dst v)) : stepsM P ops S Q (o :: rest) a := ⟨v, .inl ⟨hg, fun s w hS => .inr (.inr ⟨f, args, hy w, hc s w hS⟩)⟩, h⟩

/-- All memory that was there is left; the variable, once made, holds its first values. -/
def Made (W : World) (t : TypeId) (z : List Value) : Option Value → World → Prop
  | none, u => Below W.heap.size W u
  | some p, u => Below W.heap.size W u ∧ ∃ b, p = .pointer (some ⟨b, 0, none⟩) ∧ W.heap.size ≤ b ∧ Whole u b t z
theorem Made.below {W u : World} {t : TypeId} {z : List Value} {s : Option Value} (h : Made W t z s u) : Below W.heap.size W u := by
  cases s with
  | none => exact h
  | some p => exact h.1
theorem keptM {W : World} {t : TypeId} {z : List Value} {f : FuncId} {args : Array Value} {v : Value} (R : ∀ u, Calls P f args u fun e w' => e = .returned v ∧ Below u.heap.size u w') :
    ∀ s w, Made W t z s w → Calls P f args w fun e w' => e = .returned v ∧ Made W t z s w' := fun s w h =>
  (R w).mono fun _ w' ⟨he, hb⟩ => ⟨he, by
    cases s with
    | none => exact Below.trans h (hb.mono (Below.size h))
    | some p =>
      obtain ⟨h1, b, h2, h3, h4⟩ := h
      exact ⟨h1.trans (hb.mono h1.size), b, h2, h3, h4.below h4.lt hb⟩⟩
theorem sameM {f : FuncId} {args : Array Value} {v : Value} (R : ∀ u, Calls P f args u fun e w' => e = .returned v ∧ u = w') :
    ∀ s w, S s w → Calls P f args w fun e w' => e = .returned v ∧ S s w' := fun _ w h =>
  (R w).mono fun _ _ ⟨he, hb⟩ => ⟨he, hb ▸ h⟩
theorem makes_alloc {W : World} {o : Oper} (hg : o.guard = none) (t : TypeId) (ho : o.op = .alloc t) (z : List Value)
    (hz : (P.info? t).map (fun i => (i.zero, i.size)) = some (some (.agg z.toArray), z.length)) : Makes P (Made W t z) o := by
  refine ⟨hg, fun a u hS => ⟨.pointer (some ⟨u.heap.size, 0, none⟩), u.alloc (.cells z.toArray t), ?_, Below.alloc hS (Below.size hS) _, u.heap.size, rfl, Below.size hS, Whole.made u t z⟩⟩
  cases hq : P.info? t with
  | none => simp [hq] at hz
  | some i =>
    simp only [hq, Option.map_some, Option.some.injEq, Prod.mk.injEq] at hz
    unfold execOp
    simp [ho, Instr.alloc, zeroValue, typeInfo, hq, hz.1, Sem.run_bind, newVar, newRow, newObj, Value.cells]
    rfl
end
end Go.Proofs.Ytcglobpklhkebaa.Steady
