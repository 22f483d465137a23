/-
  A law on a statement whose order is open and that makes several variables on its way: they may be made behind all the other operations, which go on in the text's order. Nothing here speaks of a program: no condition but those that each lemma names.
-/
import Derived.Test.YtpamdpfgcbadhaaDoorSteady
import Derived.Test.YtpamdpfgcbadhaaDoorWhole
namespace Go.Proofs.YtpamdpfgcbadhaaDoor.SteadyN
open Go Go.RowKit Mur Steady

section
variable {P : Program} {ops : Array Oper} {md : Region.Mode} {S : (Nat → Option Value) → World → Prop}

/-- The variable m is made. -/
def upd (s : Nat → Option Value) (m : Nat) (p : Value) : Nat → Option Value := fun i => if i = m then some p else s i
theorem upd_comm (s : Nat → Option Value) (m n : Nat) (p q : Value) (h : m ≠ n) : upd (upd s m p) n q = upd (upd s n q) m p := by
  funext i
  unfold upd
  by_cases h1 : i = n
  · subst h1
    rw [if_pos rfl, if_neg (Ne.symm h), if_pos rfl]
  · rw [if_neg h1]
    by_cases h2 : i = m
    · rw [if_pos h2, if_pos h2]
    · rw [if_neg h2, if_neg h2, if_neg h1]
theorem upd_other (s : Nat → Option Value) (m n : Nat) (p : Value) (h : n ≠ m) : upd s m p n = s n := if_neg h

def YieldsN (P : Program) (ops : Array Oper) (S : (Nat → Option Value) → World → Prop) (o : Oper) (v : Value) (a : Act) : Prop :=
  (Region.wanted o (yielded ops a.tmps) = true ∧ ∀ s w, S s w → Steady.Good P (S s) o a v w) ∨ (Region.wanted o (yielded ops a.tmps) = false ∧ v = undef)
theorem YieldsN.of_same {o : Oper} {v : Value} {a a' : Act} (hy : YieldsN P ops S o v a) (he : execOp a'.eval o = execOp a.eval o)
    (hw : Region.wanted o (yielded ops a'.tmps) = Region.wanted o (yielded ops a.tmps)) : YieldsN P ops S o v a' := by
  unfold YieldsN Steady.Good at *
  rw [he, hw]
  exact hy
theorem YieldsN.to {o : Oper} {v : Value} {a : Act} (hy : YieldsN P ops S o v a) (s : Nat → Option Value) : YieldsS P ops (S s) o v a :=
  hy.imp (fun h => ⟨h.1, fun w => h.2 s w⟩) id
def MakesN (P : Program) (S : (Nat → Option Value) → World → Prop) (m : Nat) (o : Oper) : Prop :=
  o.guard = none ∧ ∀ s, s m = none → ∀ (a : Act) w, S s w → ∃ p w', (execOp a.eval o).run P w = .ok (.value p) w' ∧ S (upd s m p) w'

/-- The operations below n in whatever order, the variables ms among them, without a word of the world. -/
def anyN (P : Program) (md : Region.Mode) (ops : Array Oper) (S : (Nat → Option Value) → World → Prop) (n : Nat) (ms : List Nat) (L : Array Bool → Act → (Nat → Option Value) → Prop) : Nat → Array Bool → Act → (Nat → Option Value) → Prop
  | 0, listed, a, s => L listed a s
  | f + 1, listed, a, s => Region.ready md ops listed ≠ [] ∧ ∀ i ∈ Region.ready md ops listed, i < n ∧ (i ∉ ms → ∃ o v, ops[i]? = some o ∧ YieldsN P ops S o v a ∧ anyN P md ops S n ms L f (listed.setIfInBounds i true) (a.put o.dst v) s) ∧
      (i ∈ ms → s i = none ∧ ∃ o, ops[i]? = some o ∧ ∀ p, anyN P md ops S n ms L f (listed.setIfInBounds i true) (a.put o.dst p) (upd s i p))

theorem any_of_N {n g : Nat} {ms : List Nat} {L : Array Bool → Act → (Nat → Option Value) → Prop} {Q : Exit → Act → World → Prop} (hmk : ∀ m ∈ ms, ∀ o, ops[m]? = some o → MakesN P S m o) (hL : ∀ listed a s w, S s w → L listed a s → wpAny P md ops Q g listed a w) :
    ∀ (f : Nat) (listed : Array Bool) (a : Act) (s : Nat → Option Value), anyN P md ops S n ms L f listed a s → ∀ w, S s w → wpAny P md ops Q (f + g) listed a w
  | 0, listed, a, s, h, w, hS => by
    rw [Nat.zero_add]
    exact hL _ _ _ _ hS h
  | f + 1, listed, a, s, h, w, hS => by
    rw [show f + 1 + g = (f + g) + 1 by omega]
    refine ⟨fun h0 => absurd h0 h.1, fun i hi => ?_⟩
    obtain ⟨-, h1, h2⟩ := h.2 i hi
    by_cases hm : i ∈ ms
    · obtain ⟨hs, o, ho, hk⟩ := h2 hm
      obtain ⟨hg, hmk'⟩ := hmk i hm o ho
      obtain ⟨p, w', hr, hS'⟩ := hmk' s hs a w hS
      unfold wpOp
      simp only [ho]
      rw [if_pos (by simp [Region.wanted, hg])]
      refine .inl ?_
      unfold Oper.wp
      rw [hr]
      exact any_of_N hmk hL f _ _ _ (hk p) w' hS'
    · obtain ⟨o, v, ho, hy, hk⟩ := h1 hm
      exact (hy.to s).wpOp ho hS fun w' hS' => any_of_N hmk hL f _ _ _ hk w' hS'

theorem N_first {n i : Nat} {ms : List Nat} {oi : Oper} {v : Value} {L : Array Bool → Act → (Nat → Option Value) → Prop} (hi : ops[i]? = some oi) (him : i ∉ ms) (hsel : ∀ (j : Nat) (o : Oper) cs b, ops[j]? = some o → o.op ≠ .select cs b)
    (hs : Region.sinkB md ops n = true) (hc : Region.chainB md ops n = true) (hn : n < ops.size) (hin : i < n)
    (hdone : ∀ listed a s, L listed a s → ∀ j ∈ Region.ready md ops listed, n ≤ j) :
    ∀ (f : Nat) (listed : Array Bool) (a : Act) (s : Nat → Option Value), HeadInv md ops n listed →
      (∀ j oj, ops[j]? = some oj → j ≠ i → listed.getD j true = false → (∀ e ∈ oj.after, Region.binds md e = true → e.on ≠ i) → oi.apart ops oj = true) →
      i ∈ Region.ready md ops listed → YieldsN P ops S oi v a →
      anyN P md ops S n ms L f (listed.setIfInBounds i true) (a.put oi.dst v) s → anyN P md ops S n ms L (f + 1) listed a s := by
  intro f
  induction f with
  | zero =>
    intro listed a s inv _ hr hy H
    have hun := (mem_ready.1 hr).1
    refine ⟨fun h => (by rw [h] at hr; cases hr), fun j hj => ?_⟩
    have hjn : j < n := by
      rcases Nat.lt_or_ge j n with h | h
      · exact h
      · exact absurd hj (tail_waits hs hc hn inv _ i rfl hin hun j h)
    by_cases hji : j = i
    · subst hji
      exact ⟨hjn, fun _ => ⟨oi, v, hi, hy, H⟩, fun h => absurd h him⟩
    · have := hdone _ _ _ H j (ready_mono hj hji)
      omega
  | succ f ih =>
    intro listed a s inv hfree hr hy H
    have hun := (mem_ready.1 hr).1
    refine ⟨fun h => (by rw [h] at hr; cases hr), fun j hj => ?_⟩
    have hjn : j < n := by
      rcases Nat.lt_or_ge j n with h | h
      · exact h
      · exact absurd hj (tail_waits hs hc hn inv _ i rfl hin hun j h)
    by_cases hji : j = i
    · subst hji
      exact ⟨hjn, fun _ => ⟨oi, v, hi, hy, H⟩, fun h => absurd h him⟩
    · obtain ⟨-, H1, H2⟩ := H.2 j (ready_mono hj hji)
      obtain ⟨hjun, oj, hoj, hall⟩ := mem_ready.1 hj
      have hnot : ∀ e ∈ oj.after, Region.binds md e = true → e.on ≠ i := fun e he hb heq => by
        have h1 := hall e he hb
        rw [heq, getD_both hun] at h1
        cases h1
      have hap := hfree j oj hoj hji hjun hnot
      obtain ⟨q1, q2, q3⟩ := Oper.apart_spec hap
      have hfree' : ∀ k ok, ops[k]? = some ok → k ≠ i → (listed.setIfInBounds j true).getD k true = false →
          (∀ e ∈ ok.after, Region.binds md e = true → e.on ≠ i) → oi.apart ops ok = true := fun k ok hk hki hun hno => by
        refine hfree k ok hk hki ?_ hno
        by_cases hjk : j = k
        · subst hjk; exact hjun
        · rw [getD_set_ne true hjk] at hun; exact hun
      have keep : ∀ u, YieldsN P ops S oi v (a.put oj.dst u) := fun u => hy.of_same (execOp_put oi (fun cs b => hsel i oi cs b hi) a oj.dst u q3) (wanted_put oi a oj.dst u q3)
      refine ⟨hjn, fun hjm => ?_, fun hjm => ?_⟩
      · obtain ⟨oj', u, hoj', hu, hk⟩ := H1 hjm
        obtain rfl : oj' = oj := Option.some.inj (hoj'.symm.trans hoj)
        refine ⟨oj', u, hoj, hu.of_same (execOp_put oj' (fun cs b => hsel j oj' cs b hoj) a oi.dst v q1).symm (wanted_put oj' a oi.dst v q1).symm, ih (listed.setIfInBounds j true) _ s (inv.set hj hjn) hfree' (ready_mono hr (Ne.symm hji)) (keep u) ?_⟩
        rw [← Act.put_comm a v u q2, Array.setIfInBounds_comm _ _ hji]
        exact hk
      · obtain ⟨hsj, oj', hoj', hk⟩ := H2 hjm
        obtain rfl : oj' = oj := Option.some.inj (hoj'.symm.trans hoj)
        refine ⟨hsj, oj', hoj, fun p => ih (listed.setIfInBounds j true) _ (upd s j p) (inv.set hj hjn) hfree' (ready_mono hr (Ne.symm hji)) (keep p) ?_⟩
        rw [← Act.put_comm a v p q2, Array.setIfInBounds_comm _ _ hji]
        exact hk p

theorem A_first {n m : Nat} {ms : List Nat} {om : Oper} {L : Array Bool → Act → (Nat → Option Value) → Prop} (hom : ops[m]? = some om) (hmm : m ∈ ms)
    (hs : Region.sinkB md ops n = true) (hc : Region.chainB md ops n = true) (hn : n < ops.size) (hmn : m < n)
    (hdone : ∀ listed a s, L listed a s → ∀ j ∈ Region.ready md ops listed, n ≤ j) :
    ∀ (f : Nat) (listed : Array Bool) (a : Act) (s : Nat → Option Value), HeadInv md ops n listed → (∀ j, j < n → listed.getD j true = false → j ∈ ms) →
      (∀ j oj, ops[j]? = some oj → j ≠ m → listed.getD j true = false → (∀ e ∈ oj.after, Region.binds md e = true → e.on ≠ m) → om.apart ops oj = true) →
      m ∈ Region.ready md ops listed → s m = none →
      (∀ p, anyN P md ops S n ms L f (listed.setIfInBounds m true) (a.put om.dst p) (upd s m p)) → anyN P md ops S n ms L (f + 1) listed a s := by
  intro f
  induction f with
  | zero =>
    intro listed a s inv hall _ hr hsm H
    have hun := (mem_ready.1 hr).1
    refine ⟨fun h => (by rw [h] at hr; cases hr), fun j hj => ?_⟩
    have hjn : j < n := by
      rcases Nat.lt_or_ge j n with h | h
      · exact h
      · exact absurd hj (tail_waits hs hc hn inv _ m rfl hmn hun j h)
    by_cases hji : j = m
    · subst hji
      exact ⟨hjn, fun h => absurd hmm h, fun _ => ⟨hsm, om, hom, H⟩⟩
    · have := hdone _ _ _ (H undef) j (ready_mono hj hji)
      omega
  | succ f ih =>
    intro listed a s inv hall hfree hr hsm H
    have hun := (mem_ready.1 hr).1
    refine ⟨fun h => (by rw [h] at hr; cases hr), fun j hj => ?_⟩
    have hjn : j < n := by
      rcases Nat.lt_or_ge j n with h | h
      · exact h
      · exact absurd hj (tail_waits hs hc hn inv _ m rfl hmn hun j h)
    by_cases hji : j = m
    · subst hji
      exact ⟨hjn, fun h => absurd hmm h, fun _ => ⟨hsm, om, hom, H⟩⟩
    · obtain ⟨hjun, oj, hoj, hallj⟩ := mem_ready.1 hj
      have hjm : j ∈ ms := hall j hjn hjun
      have hnot : ∀ e ∈ oj.after, Region.binds md e = true → e.on ≠ m := fun e he hb heq => by
        have h1 := hallj e he hb
        rw [heq, getD_both hun] at h1
        cases h1
      obtain ⟨-, q2, -⟩ := Oper.apart_spec (hfree j oj hoj hji hjun hnot)
      have hfree' : ∀ k ok, ops[k]? = some ok → k ≠ m → (listed.setIfInBounds j true).getD k true = false →
          (∀ e ∈ ok.after, Region.binds md e = true → e.on ≠ m) → om.apart ops ok = true := fun k ok hk hki hun hno => by
        refine hfree k ok hk hki ?_ hno
        by_cases hjk : j = k
        · subst hjk; exact hjun
        · rw [getD_set_ne true hjk] at hun; exact hun
      have hall' : ∀ k, k < n → (listed.setIfInBounds j true).getD k true = false → k ∈ ms := fun k hk hun => by
        by_cases hjk : j = k
        · subst hjk; exact hjm
        · rw [getD_set_ne true hjk] at hun; exact hall k hk hun
      have hsj : s j = none := by
        have := ((H undef).2 j (ready_mono hj hji)).2.2 hjm
        rw [← upd_other s m j undef hji]
        exact this.1
      refine ⟨hjn, fun h => absurd hjm h, fun _ => ⟨hsj, oj, hoj, fun q => ih (listed.setIfInBounds j true) _ (upd s j q) (inv.set hj hjn) hall' hfree' (ready_mono hr (Ne.symm hji)) (by rw [upd_other _ _ _ _ (Ne.symm hji)]; exact hsm) fun p => ?_⟩⟩
      obtain ⟨-, oj', hoj', hk⟩ := ((H p).2 j (ready_mono hj hji)).2.2 hjm
      obtain rfl : oj' = oj := Option.some.inj (hoj'.symm.trans hoj)
      have := hk q
      rw [upd_comm s m j p q (Ne.symm hji), Act.put_comm a p q q2, Array.setIfInBounds_comm _ _ (Ne.symm hji)] at this
      exact this

/-- The operations one by one, in the text's order; then the variables. -/
def stepsN (P : Program) (ops : Array Oper) (S : (Nat → Option Value) → World → Prop) (Q : Act → Prop) : List Oper → Act → Prop
  | [], a => Q a
  | o :: rest, a => ∃ v, YieldsN P ops S o v a ∧ stepsN P ops S Q rest (a.put o.dst v)
def made (S : (Nat → Option Value) → World → Prop) (Q : Act → World → Prop) : List (Nat × Oper) → Act → (Nat → Option Value) → Prop
  | [], a, s => ∀ w, S s w → Q a w
  | (m, o) :: rest, a, s => ∀ p, made S Q rest (a.put o.dst p) (upd s m p)

def orderA (md : Region.Mode) (ops : Array Oper) (n : Nat) (ms : List Nat) : List Nat → Array Bool → Bool
  | [], listed => Region.seqB md ops (ops.size - n) n listed
  | m :: rs, listed => decide (m < n) && ms.contains m && !rs.contains m && (Region.ready md ops listed).contains m && Region.free md ops listed m && orderA md ops n ms rs (listed.setIfInBounds m true)
def orderN (md : Region.Mode) (ops : Array Oper) (n : Nat) (ms : List Nat) : List Nat → Array Bool → Bool
  | [], listed => ((List.range n).all fun j => listed.getD j true || ms.contains j) && orderA md ops n ms ms listed
  | k :: ks, listed => decide (k < n) && !ms.contains k && (Region.ready md ops listed).contains k && Region.free md ops listed k && orderN md ops n ms ks (listed.setIfInBounds k true)
def allocB (md : Region.Mode) (ops : Array Oper) (n : Nat) (ms ks : List Nat) : Bool :=
  Region.noSelect ops && decide (n < ops.size) && Region.sinkB md ops n && Region.chainB md ops n && decide (ks.length + ms.length = n) && orderN md ops n ms ks (Array.replicate ops.size false)

/-- What holds at the end. -/
def Last (md : Region.Mode) (ops : Array Oper) (n : Nat) (S : (Nat → Option Value) → World → Prop) (Q : Act → World → Prop) (listed : Array Bool) (a : Act) (s : Nat → Option Value) : Prop :=
  Region.seqB md ops (ops.size - n) n listed = true ∧ ∀ w, S s w → Q a w

theorem A_lex {n : Nat} {ms : List Nat} {Q : Act → World → Prop} (hs : Region.sinkB md ops n = true) (hc : Region.chainB md ops n = true) (hn : n < ops.size) :
    ∀ (rs : List Nat) (listed : Array Bool) (a : Act) (s : Nat → Option Value), HeadInv md ops n listed → (∀ j, j < n → listed.getD j true = false → j ∈ ms) → (∀ m ∈ rs, s m = none) →
    orderA md ops n ms rs listed = true → made S Q (rs.filterMap fun m => (ops[m]?).map fun o => (m, o)) a s →
    anyN P md ops S n ms (Last md ops n S Q) rs.length listed a s
  | [], listed, a, s, _, _, _, hB, h => ⟨hB, h⟩
  | m :: rs, listed, a, s, inv, hall, hnone, hB, h => by
    simp only [orderA, Bool.and_eq_true, decide_eq_true_eq, Bool.not_eq_true'] at hB
    obtain ⟨⟨⟨⟨⟨hmn, hmm⟩, hnd⟩, hr⟩, hf⟩, hB'⟩ := hB
    have hr' : m ∈ Region.ready md ops listed := by simpa using hr
    have hmm' : m ∈ ms := by simpa using hmm
    have hnd' : m ∉ rs := by simpa using hnd
    obtain ⟨hun, o, h0, -⟩ := mem_ready.1 hr'
    rw [List.filterMap_cons_some (b := (m, o)) (by rw [h0]; rfl)] at h
    have hall' : ∀ k, k < n → (listed.setIfInBounds m true).getD k true = false → k ∈ ms := fun k hk hunk => by
      by_cases hmk : m = k
      · subst hmk; exact hmm'
      · rw [getD_set_ne true hmk] at hunk; exact hall k hk hunk
    exact A_first h0 hmm' hs hc hn hmn (fun listed' a' s' hL => seqB_ready hL.1) rs.length listed a s inv hall (Region.free_spec h0 hf) hr' (hnone m (by simp)) fun p =>
      A_lex hs hc hn rs _ _ _ (inv.set hr' hmn) hall' (fun k hk => by rw [upd_other _ _ _ _ (fun e => hnd' (by rw [← e]; exact hk))]; exact hnone k (by simp [hk])) hB' (h p)

theorem N_lex {n : Nat} {ms : List Nat} {Q : Act → World → Prop} (hsel : Region.noSelect ops = true) (hs : Region.sinkB md ops n = true) (hc : Region.chainB md ops n = true) (hn : n < ops.size) :
    ∀ (ks : List Nat) (l : List Oper) (listed : Array Bool) (a : Act), l = ks.filterMap (fun k => ops[k]?) → HeadInv md ops n listed →
    orderN md ops n ms ks listed = true → stepsN P ops S (fun a' => made S Q (ms.filterMap fun m => (ops[m]?).map fun o => (m, o)) a' fun _ => none) l a →
    anyN P md ops S n ms (Last md ops n S Q) (ks.length + ms.length) listed a fun _ => none
  | [], l, listed, a, hl, inv, hB, h => by
    subst hl
    simp only [orderN, Bool.and_eq_true] at hB
    have := A_lex (P := P) (S := S) (Q := Q) hs hc hn ms listed a (fun _ => none) inv (fun j hj hun => by
      have h1 := List.all_eq_true.1 hB.1 j (List.mem_range.2 hj)
      rw [hun] at h1
      simpa using h1) (fun _ _ => rfl) hB.2 h
    simpa using this
  | k :: ks, l, listed, a, hl, inv, hB, h => by
    simp only [orderN, Bool.and_eq_true, decide_eq_true_eq, Bool.not_eq_true'] at hB
    obtain ⟨⟨⟨⟨hkn, hkm⟩, hr⟩, hf⟩, hB'⟩ := hB
    have hr' : k ∈ Region.ready md ops listed := by simpa using hr
    obtain ⟨-, o, h0, -⟩ := mem_ready.1 hr'
    rw [List.filterMap_cons_some h0] at hl
    subst hl
    obtain ⟨v, hy, hK⟩ := h
    rw [List.length_cons, show ks.length + 1 + ms.length = ks.length + ms.length + 1 by omega]
    exact N_first (L := Last md ops n S Q) h0 (by simpa using hkm) (Region.noSelect_spec hsel) hs hc hn hkn (fun listed' a' s' hL => seqB_ready hL.1) _ listed a _ inv (Region.free_spec h0 hf) hr' hy
      (N_lex hsel hs hc hn ks _ _ _ rfl (inv.set hr' hkn) hB' hK)

/-- The beginning: the operations ks by steps, then the variables ms, then those from n on as they come. -/
theorem region {id : Nat} {Q : Exit → Act → World → Prop} {a : Act} {w : World} {l : List Oper} (n : Nat) (ms ks : List Nat) (hm : P.follows .mixedOrders = true) (hB : allocB .any l.toArray n ms ks = true) (S : (Nat → Option Value) → World → Prop) (hmk : ∀ m ∈ ms, ∀ o, l.toArray[m]? = some o → MakesN P S m o) (hS : S (fun _ => none) w.drew)
    (h : stepsN P l.toArray S (fun a' => made S (fun a'' w' => wpList P l.toArray Q (l.drop n) a'' w') (ms.filterMap fun m => (l[m]?).map fun o => (m, o)) a' fun _ => none) (ks.filterMap fun k => l[k]?) a) : (Code.region id l.toArray true).wp P Q a w := by
  simp only [allocB, Bool.and_eq_true, decide_eq_true_eq] at hB
  obtain ⟨⟨⟨⟨⟨hsel, hn⟩, hs⟩, hc⟩, hlen⟩, hord⟩ := hB
  have hn' : n < l.length := by simpa using hn
  have hdl : (l.drop n).length = l.toArray.size - n := by simp
  have inv0 : HeadInv .any l.toArray n (Array.replicate l.toArray.size false) :=
    ⟨by simp, fun j oj _ hl => (by rw [getD_replicate_false] at hl; cases hl), fun t _ ht => getD_in (by simpa using ht) (getD_replicate_false _ _)⟩
  have H := N_lex (P := P) (md := .any) (S := S) (ops := l.toArray) (Q := fun a'' w' => wpList P l.toArray Q (l.drop n) a'' w') hsel hs hc hn ks (ks.filterMap fun k => l[k]?) _ a (by simp) inv0 hord (by simpa using h)
  refine wp_region_any hm ?_
  have := any_of_N (Q := Q) (g := l.toArray.size - n) hmk (fun listed a' s w' hS' hL => by
    have := wpAny_of_seq (md := .any) (Q' := Q) (l.drop n) n listed a' w' (fun j => by simp [List.getElem?_drop]) (by rw [hdl]; exact hL.1) (hL.2 w' hS')
    rwa [hdl] at this) _ _ _ _ H _ hS
  rw [hlen, show n + (l.toArray.size - n) = l.toArray.size by omega] at this
  exact this

theorem nil {Q : Act → Prop} {a : Act} (h : Q a) : stepsN P ops S Q [] a := h
theorem take {Q : Act → Prop} {a : Act} {o : Oper} {rest : List Oper} (v : Value) (hg : Region.wanted o (yielded ops a.tmps) = true) (hy : ∀ s w, S s w → (execOp a.eval o).run P w = .ok (.value v) w)
    (h : stepsN P ops S Q rest (a.put o.dst v)) : stepsN P ops S Q (o :: rest) a := ⟨v, .inl ⟨hg, fun s w hS => .inl (hy s w hS)⟩, h⟩
theorem call {Q : Act → Prop} {a : Act} {o : Oper} {rest : List Oper} (v : Value) (f : FuncId) (args : Array Value) (hg : Region.wanted o (yielded ops a.tmps) = true)
    (hy : ∀ w, (execOp a.eval o).run P w = .ok (.enter f args) w) (hc : ∀ s w, S s w → Calls P f args w fun e w' => e = .returned v ∧ S s w')
    (h : stepsN P ops S Q rest (a.put o.dst v)) : stepsN P ops S Q (o :: rest) a := ⟨v, .inl ⟨hg, fun s w hS => .inr (.inr ⟨f, args, hy w, hc s w hS⟩)⟩, h⟩

/-- All memory that was there is left; the variables, once made, hold their first values, each in a block of its own. -/
structure Made (W : World) (t : TypeId) (z : List Value) (s : Nat → Option Value) (u : World) : Prop where
  below : Below W.heap.size W u
  at_ : ∀ m p, s m = some p → ∃ b, p = .pointer (some ⟨b, 0, none⟩) ∧ W.heap.size ≤ b ∧ Whole u b t z
  own : ∀ m n p, s m = some p → s n = some p → m = n
theorem Made.start (W : World) (t : TypeId) (z : List Value) : Made W t z (fun _ => none) W := ⟨Below.refl _ _, (fun _ _ h => by cases h), (fun _ _ _ h _ => by cases h)⟩
theorem Made.next {W u u' : World} {t : TypeId} {z : List Value} {s : Nat → Option Value} (h : Made W t z s u) (q : Below u.heap.size u u') : Made W t z s u' :=
  ⟨h.below.trans (q.mono h.below.size), fun m p hp => by
    obtain ⟨b, h1, h2, h3⟩ := h.at_ m p hp
    exact ⟨b, h1, h2, h3.below h3.lt q⟩, h.own⟩
theorem kept {W : World} {t : TypeId} {z : List Value} {f : FuncId} {args : Array Value} {v : Value} (R : ∀ u, Calls P f args u fun e w' => e = .returned v ∧ Below u.heap.size u w') :
    ∀ s w, Made W t z s w → Calls P f args w fun e w' => e = .returned v ∧ Made W t z s w' := fun _ w h =>
  (R w).mono fun _ _ ⟨he, hb⟩ => ⟨he, h.next hb⟩
theorem same {f : FuncId} {args : Array Value} {v : Value} (R : ∀ u, Calls P f args u fun e w' => e = .returned v ∧ u = w') :
    ∀ s w, S s w → Calls P f args w fun e w' => e = .returned v ∧ S s w' := fun _ w h =>
  (R w).mono fun _ _ ⟨he, hb⟩ => ⟨he, hb ▸ h⟩
theorem makes {W : World} {m : Nat} {o : Oper} (hg : o.guard = none) (t : TypeId) (ho : o.op = .alloc t) (z : List Value)
    (hz : (P.info? t).map (fun i => (i.zero, i.size)) = some (some (.agg z.toArray), z.length)) : MakesN P (Made W t z) m o := by
  refine ⟨hg, fun s hs a u hS => ⟨.pointer (some ⟨u.heap.size, 0, none⟩), u.alloc (.cells z.toArray t), ?_, hS.below.alloc hS.below.size _, fun k p hp => ?_, fun k l p hk hl => ?_⟩⟩
  · cases hq : P.info? t with
    | none => simp [hq] at hz
    | some i =>
      simp only [hq, Option.map_some, Option.some.injEq, Prod.mk.injEq] at hz
      unfold execOp
      simp [ho, Instr.alloc, zeroValue, typeInfo, hq, hz.1, Sem.run_bind, newVar, newRow, newObj, Value.cells]
      rfl
  · unfold upd at hp
    by_cases hk : k = m
    · rw [if_pos hk] at hp
      cases hp
      exact ⟨u.heap.size, rfl, hS.below.size, Whole.made u t z⟩
    · rw [if_neg hk] at hp
      obtain ⟨b, h1, h2, h3⟩ := hS.at_ k p hp
      exact ⟨b, h1, h2, h3.alloc _⟩
  · have old : ∀ j q, s j = some q → q ≠ .pointer (some ⟨u.heap.size, 0, none⟩) := fun j q hq e => by
      obtain ⟨b, h1, -, h3⟩ := hS.at_ j q hq
      rw [e] at h1
      cases h1
      exact absurd h3.lt (Nat.lt_irrefl _)
    unfold upd at hk hl
    by_cases h1 : k = m
    · by_cases h2 : l = m
      · rw [h1, h2]
      · rw [if_pos h1] at hk
        rw [if_neg h2] at hl
        cases hk
        exact absurd rfl (old l _ hl)
    · rw [if_neg h1] at hk
      by_cases h2 : l = m
      · rw [if_pos h2] at hl
        cases hl
        exact absurd rfl (old k _ hk)
      · rw [if_neg h2] at hl
        exact hS.own k l p hk hl
end
end Go.Proofs.YtpamdpfgcbadhaaDoor.SteadyN
