/-
  Rows of whole numbers that a call has made itself, appends onto them, and roster's plain tests: among, within, and the library's Index, Contains, Clone at whole numbers: each answers what the plain mathematics of the text Ros says. Conditions: those that each lemma names.
-/
import Derived.Test.YtofnjonmfgdpaaaPrtC
import Derived.Test.YtofnjonmfgdpaaaIntA
import Derived.Test.YtofnjonmfgdpaaaRosB
import Derived.Deep.Upon
namespace Go.Proofs.Ytofnjonmfgdpaaa.Ros
open Go.RowKit Mur Prt
set_option maxRecDepth 100000

def zsV (l : List Int) : List Value := l.map fun z => Value.int .i64 z
theorem zsV_length (l : List Int) : (zsV l).length = l.length := by simp [zsV]
theorem zsV_append (l m : List Int) : zsV (l ++ m) = zsV l ++ zsV m := by simp [zsV]
theorem zsV_at {l : List Int} {i : Nat} {x : Int} (h : l[i]? = some x) : (zsV l)[i]? = some (.int .i64 x) := by simp [zsV, h]
theorem zsV_one (l : List Int) : ∀ v ∈ zsV l, v.oneCell' = true := fun v hv => by
  simp only [zsV, List.mem_map] at hv
  obtain ⟨x, _, rfl⟩ := hv
  rfl
/-- A row that a call has made, read. -/
theorem own_ints {w : World} {base n : Nat} {v : Value} {l : List Int} (h : w.ownsRow base 3 1 v n (zsV l)) : ∃ ao c, v = .slice ao n c ∧ n = l.length ∧ IntsR w ao l := by
  have hl := h.1
  rw [zsV_length] at hl
  rcases Strs.own_cases h with ⟨rfl, rfl, h2⟩ | ⟨g, c, rfl, h1, h2, h3, h4⟩
  · exact ⟨none, 0, rfl, by omega, fun h => absurd (by omega) h⟩
  · exact ⟨_, c, rfl, by omega, fun _ => ⟨g, 0, rfl, h2, fun i x hx => by rw [Nat.zero_add]; exact Strs.own_cell h i _ (zsV_at hx)⟩⟩
theorem src_ints {W : World} {ao : Option Addr} {l : List Int} {c : Nat} (h : IntsR W ao l) : Src Try.prog 1 22 (.slice ao l.length c) l.length (zsV l) W := by
  by_cases h0 : l = []
  · subst h0
    cases ao with
    | none => exact Src.ofNil W Try.underlying22 c
    | some a => exact Src.ofSlice W Try.underlying22 a 0 c [] rfl (fun j u hu => by simp at hu) (fun u hu => by simp at hu)
  · obtain ⟨b, o, rfl, _, hc⟩ := h (by intro e; exact h0 (List.eq_nil_of_length_eq_zero e))
    refine Src.ofSlice W Try.underlying22 _ _ c _ (by rw [zsV_length]; omega) (fun j u hu => ?_) (zsV_one l)
    have hj : j < l.length := by have := (List.getElem?_eq_some_iff.1 hu).1; rwa [zsV_length] at this
    have e := zsV_at (List.getElem?_eq_getElem hj)
    rw [e] at hu
    have e2 : (⟨b, o, none⟩ : Addr).add j = ⟨b, o + j, none⟩ := Go.WideShapes.add_plain b o j
    rw [e2, ← Option.some.inj hu]
    exact hc j _ (List.getElem?_eq_getElem hj)
/-- An append onto a row of one's own, of numbers that are read wherever they are. -/
theorem run_append_zs {W : World} {base n : Nat} {v : Value} {l news : List Int} {ao : Option Addr} {m c : Nat} (ty : TypeId) (hown : W.ownsRow base 3 1 v n (zsV l)) (hs : IntsR W ao news) (hm : news.length = m) (hn : n + m ≤ 8796093022208) (hbase : base ≤ W.heap.size) :
    ∃ v' w', (Builtin.append_ #[22, 22] ty #[v, .slice ao m c]).run Try.prog W = .ok v' w' ∧ w'.ownsRow base 3 1 v' (n + m) (zsV (l ++ news)) ∧ W.grownBy w' v.ownBlock := by
  obtain ⟨i0, hi, hz0, hz1, hz2⟩ := info_parts Ints.info_int
  subst hm
  by_cases h0 : news = []
  · subst h0
    obtain ⟨a, c', rfl, hnl, -⟩ := own_ints hown
    have hle : n ≤ c' := by
      rcases Strs.own_cases hown with ⟨h1, _, _⟩ | ⟨g, c2, h1, h2, h3, h4, h5⟩
      · cases h1; omega
      · cases h1; exact h4
    have hsrc : Src Try.prog i0.size 22 (.slice ao 0 c) 0 [] W := by rw [hz1]; exact src_ints (l := []) hs
    refine ⟨_, W, run_append_nothing W 22 22 ty 3 i0 Try.underlying22 hi a n c' hle _ hsrc, ?_, ⟨rfl, rfl, rfl, Nat.le_refl _, fun _ _ _ => rfl⟩⟩
    rw [List.append_nil]
    exact hown
  · obtain ⟨b, o, rfl, _, hc⟩ := hs (by intro e; exact h0 (List.eq_nil_of_length_eq_zero e))
    obtain ⟨v', w', hrun, r1, r2, _⟩ := run_append_own (P := Try.prog) W base 22 ty 3 i0 (.int .i64 0) 1 8 Try.underlying22 hi hz0 hz1 hz2 rfl (by decide) v n (zsV l) hown ⟨b, o, none⟩ news.length c (zsV news) (by rw [zsV_length]; omega) (fun j u hu => by
      have hj : j < news.length := by have := (List.getElem?_eq_some_iff.1 hu).1; rwa [zsV_length] at this
      have e := zsV_at (List.getElem?_eq_getElem hj)
      rw [e] at hu
      have e2 : (⟨b, o, none⟩ : Addr).add j = ⟨b, o + j, none⟩ := Go.WideShapes.add_plain b o j
      rw [e2, ← Option.some.inj hu]
      exact hc j _ (List.getElem?_eq_getElem hj)) (zsV_one news) (by unfold maxLen; omega) (by omega) hbase
    rw [← zsV_append] at r1
    exact ⟨v', w', hrun, r1, r2⟩
theorem append_zs {ops : Array Oper} {rest : List Oper} {o : Oper} {a : Act} {W : World} {Q : Exit → Act → World → Prop} (hgd : o.guard = none) (s x : Operand)
    (ho : o.op = .call { callee := .builtin .append, args := #[s, x], argTypes := #[22, 22] }) (base n : Nat) (v : Value) (l news : List Int) (ao : Option Addr) (m c : Nat) (hs : a.eval s = v) (hx : a.eval x = .slice ao m c)
    (hown : W.ownsRow base 3 1 v n (zsV l)) (hr : IntsR W ao news) (hm : news.length = m) (hn : n + m ≤ 8796093022208) (hbase : base ≤ W.heap.size)
    (h : ∀ v' w', w'.ownsRow base 3 1 v' (n + m) (zsV (l ++ news)) → W.grownBy w' v.ownBlock → wpList Try.prog ops Q rest (a.put o.dst v') w') : wpList Try.prog ops Q (o :: rest) a W := by
  refine wpList_plain hgd fun K hK' => ?_
  obtain ⟨v', w', hrun, r1, r2⟩ := run_append_zs (c := c) o.type hown hr hm hn hbase
  unfold Oper.wp
  simp [execOp, ho, resolve, invoke, builtin, hs, hx, hrun, Result.andThen]
  exact hK' _ _ (h v' w' r1 r2)
/-- One number in a new block of its own. -/
theorem new_z (W : World) (z : Int) (t : TypeId) : IntsR (W.alloc (.cells #[.int .i64 z] t)) (some ⟨W.heap.size, 0, none⟩) [z] := fun _ => ⟨W.heap.size, 0, rfl, by simp, fun i x hx => by
  match i, hx with
  | 0, hx => cases hx; simp [World.cell?_alloc_new]⟩
theorem own_new (W : World) (B : Nat) (hB : B ≤ W.heap.size) : (W.alloc (.cells #[] 3)).ownsRow B 3 1 (.slice (some ⟨W.heap.size, 0, none⟩) 0 0) 0 (zsV []) :=
  Go.World.ownsRow_lit W #[] 0 hB (by unfold maxLen; omega) (by simp)

theorem among_any (m f k : Int) (w : World) (x : Bool) (hx : x = (decide (f ≤ m) && decide (m - f < k))) (hf : 0 ≤ f) (h1 : -9223372036854775808 ≤ m) (h2 : m ≤ 9223372036854775807) :
    Calls Try.prog 44 #[.int .i64 m, .int .i64 f, .int .i64 k] w fun e w' => e = .returned (.bool x) ∧ w = w' := by
  by_cases h : f ≤ m
  · have hd : decide (f ≤ m) = true := decide_eq_true h
    have hw : wrap64 (m - f) = m - f := by unfold wrap64; omega
    by_cases h3 : m - f < k
    · have hd3 : decide (m - f < k) = true := decide_eq_true h3
      rw [hd, hd3] at hx
      subst hx
      go_enter Try.func44, Try.ntmps44
      go_wp2
      go_ret
      exact ⟨rfl, rfl⟩
    · have hd3 : decide (m - f < k) = false := decide_eq_false h3
      rw [hd, hd3] at hx
      subst hx
      go_enter Try.func44, Try.ntmps44
      go_wp2
      go_ret
      exact ⟨rfl, rfl⟩
  · have hd : decide (f ≤ m) = false := decide_eq_false h
    rw [hd, Bool.false_and] at hx
    subst hx
    go_enter Try.func44, Try.ntmps44
    go_wp2
    go_ret
    exact ⟨rfl, rfl⟩
theorem within_any (m f k : Int) (w : World) (x : Bool) (hx : x = (decide (f ≤ m) && decide (m ≤ k))) :
    Calls Try.prog 36 #[.int .i64 m, .int .i64 f, .int .i64 k] w fun e w' => e = .returned (.bool x) ∧ w = w' := by
  by_cases h : f ≤ m
  · have hd : decide (f ≤ m) = true := decide_eq_true h
    by_cases h3 : m ≤ k
    · have hd3 : decide (m ≤ k) = true := decide_eq_true h3
      rw [hd, hd3] at hx
      subst hx
      go_enter Try.func36, Try.ntmps36
      go_wp2
      go_ret
      exact ⟨rfl, rfl⟩
    · have hd3 : decide (m ≤ k) = false := decide_eq_false h3
      rw [hd, hd3] at hx
      subst hx
      go_enter Try.func36, Try.ntmps36
      go_wp2
      go_ret
      exact ⟨rfl, rfl⟩
  · have hd : decide (f ≤ m) = false := decide_eq_false h
    rw [hd, Bool.false_and] at hx
    subst hx
    go_enter Try.func36, Try.ntmps36
    go_wp2
    go_ret
    exact ⟨rfl, rfl⟩

set_option maxHeartbeats 800000 in
theorem index_any (l : List Int) (x : Int) (n : Nat) (a : Option Addr) (c : Nat) (w : World) (hn : l.length = n) (hn2 : n ≤ 1000000) (ha : IntsR w a l) :
    Calls Try.prog 46 #[.slice a n c, .int .i64 x] w fun e w' => ∃ z : Int, e = .returned (.int .i64 z) ∧ decide (0 ≤ z) = decide (x ∈ l) ∧ w = w' := by
  have HA := Lib.hid ha
  have HN := Lib.hid hn
  clear ha hn
  go_enter Try.func46, Try.ntmps46
  go_wp2
  go_loopw [8] (fun i wr => ∃ q : Nat, q ≤ n ∧ i = .int .i64 q ∧ wr = w ∧ x ∉ l.take q) (fun i _ => n - (intOf i).toNat)
  case atStart => exact ⟨0, by omega, rfl, rfl, by simp⟩
  case round =>
    obtain ⟨q, hq, rfl, rfl, hno⟩ := hrel
    have HNO := Lib.hid hno
    clear hno
    by_cases hlt : q < n
    · obtain ⟨g, o, rfl, hg, hgc⟩ := HA.out (by have := HN.out; omega)
      have hql : q < l.length := by have := HN.out; omega
      obtain ⟨y, hy⟩ : ∃ y, l[q]? = some y := ⟨_, List.getElem?_eq_getElem hql⟩
      have c1 := hgc q y hy
      have HY := Lib.hid hy
      clear hql hgc hy
      by_cases hxy : x = y
      · have hs : (x == y) = true := by simp [hxy]
        have hmem : x ∈ l := by rw [hxy]; exact List.mem_of_getElem? HY.out
        go_wp2
        go_ret
        exact ⟨_, rfl, by simp [hmem], rfl⟩
      · have hs : (x == y) = false := by simp [hxy]
        go_wp2
        go_roundw
        case rel => exact ⟨q + 1, by omega, by go_num, (by simp), by
          rw [List.take_add_one, HY.out, List.mem_append]
          rintro (h | h)
          · exact HNO.out h
          · exact hxy (by simpa using h)⟩
        case measure => simp [intOf]; omega
    · obtain rfl : q = n := by omega
      have hmem : x ∉ l := by have := HNO.out; rwa [List.take_of_length_le (by have := HN.out; omega)] at this
      go_wp2
      go_ret
      exact ⟨_, rfl, by simp [hmem], rfl⟩
theorem contains_any (l : List Int) (x : Int) (n : Nat) (a : Option Addr) (c : Nat) (w : World) (b : Bool) (hb : b = decide (x ∈ l)) (hn : l.length = n) (hn2 : n ≤ 1000000) (ha : IntsR w a l) :
    Calls Try.prog 28 #[.slice a n c, .int .i64 x] w fun e w' => e = .returned (.bool b) ∧ w = w' := by
  have R := Lib.hid (index_any l x n a c w hn hn2 ha)
  clear hn ha
  go_enter Try.func28, Try.ntmps28
  go_wp2_with fail
  refine R.out.mono ?_
  rintro e w1 ⟨z, rfl, hz, rfl⟩
  rw [← hb] at hz
  clear hb
  go_wp2
  go_ret
  exact ⟨rfl, rfl⟩
end Go.Proofs.Ytofnjonmfgdpaaa.Ros
