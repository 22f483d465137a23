/-
  The library's Clone, ContainsFunc, Grow and Concat at whole numbers, as roster calls them: what they answer, and that they leave all memory that was there as it was. Conditions: no list has more than 1000 numbers; a test answers at each number of its list in every later world.
-/
import Derived.Test.YtofnjonmfgdpaaaRosD
import Derived.Lib.SliceRun
namespace Go.Proofs.Ytofnjonmfgdpaaa.Ros
open Go.RowKit Mur Prt Go.Maps
set_option maxRecDepth 100000

set_option maxHeartbeats 800000 in
theorem clone_any (l : List Int) (n : Nat) (a : Option Addr) (c : Nat) (w : World) (hn : l.length = n) (hn2 : n ≤ 1000) (ha : IntsR w a l) :
    Calls Try.prog 32 #[.slice a n c] w fun e w' => ∃ ao co, e = .returned (.slice ao n co) ∧ IntsR w' ao l ∧ (∀ q, ao = some q → w.heap.size ≤ q.block) ∧ Below w.heap.size w w' := by
  have HA := Lib.hid ha
  have HN := Lib.hid hn
  clear ha hn
  cases a with
  | none =>
    have hl : l.length = 0 := Classical.byContradiction fun h => by
      obtain ⟨b, o, h1, _⟩ := HA.out h
      cases h1
    obtain rfl : n = 0 := by have := HN.out; omega
    have hnil := fun u => Lib.run_eql_slice_nil (P := Try.prog) u 22 3 none 0 c 0 0 Try.underlying22
    go_enter Try.func32, Try.ntmps32
    go_wp2
    go_ret
    exact ⟨none, 0, rfl, fun h => absurd hl h, (fun q hq => by cases hq), Below.refl _ _⟩
  | some a =>
    have hnil := fun u => Lib.run_eql_slice_nil (P := Try.prog) u 22 3 (some a) n c 0 0 Try.underlying22
    go_enter Try.func32, Try.ntmps32
    go_wp2_with (at_builtin; refine append_zs rfl _ _ rfl w.heap.size 0 _ [] l _ n c rfl rfl (own_new w w.heap.size (Nat.le_refl _)) (HA.out.below ((Below.refl w.heap.size w).alloc (Nat.le_refl _) _)) HN.out (by omega) (by simp) ?_; intro v' w4 hown4 hgrow4)
    rw [List.nil_append, Nat.zero_add] at hown4
    have HW := Lib.hid (((Below.refl w.heap.size w).alloc (Nat.le_refl _) (.cells #[] 3)).grown hgrow4 (by simp) (fun q hq => by cases hq; exact Nat.le_refl _))
    have hfr := hown4.lt
    obtain ⟨ao, co, rfl, -, hi⟩ := own_ints hown4
    have HI := Lib.hid hi
    have HF := Lib.hid (show ∀ q, ao = some q → w.heap.size ≤ q.block from fun q hq => (hfr q.block (by rw [hq]; rfl)).1)
    clear hown4 hgrow4 hi hfr
    go_ret
    exact ⟨ao, co, rfl, HI.out, HF.out, HW.out⟩

set_option maxHeartbeats 1600000 in
theorem indexfunc_any (l : List Int) (p : Int → Bool) (kf : Nat) (caps : Array Value) (n : Nat) (a : Option Addr) (c : Nat) (w : World) (hn : l.length = n) (hn2 : n ≤ 1000) (ha : IntsR w a l) (hE : Enters Try.prog kf)
    (hk : ∀ x ∈ l, ∀ u, Below w.heap.size w u → Calls Try.prog kf (#[.int .i64 x] ++ caps) u fun e w' => e = .returned (.bool (p x)) ∧ Below u.heap.size u w') :
    Calls Try.prog 45 #[.slice a n c, .func (.func kf) #[] caps] w fun e w' => ∃ z : Int, e = .returned (.int .i64 z) ∧ decide (0 ≤ z) = l.any p ∧ Below w.heap.size w w' := by
  have HA := Lib.hid ha
  have HN := Lib.hid hn
  have HK := Lib.hid hk
  clear ha hn hk
  go_enter Try.func45, Try.ntmps45
  go_wp2
  go_loopw [8] (fun i wr => ∃ j : Nat, j ≤ n ∧ i = .int .i64 j ∧ (l.take j).any p = false ∧ Below w.heap.size w wr) (fun i _ => n - (intOf i).toNat)
  case atStart => exact ⟨0, by omega, rfl, rfl, Below.refl _ _⟩
  case round =>
    obtain ⟨j, hj, rfl, hno, hbel⟩ := hrel
    have HW := Lib.hid hbel
    have HNO := Lib.hid hno
    clear hbel hno
    by_cases hlt : j < n
    · obtain ⟨g, o, rfl, hg, hgc⟩ := HA.out (by have := HN.out; omega)
      have hjl : j < l.length := by have := HN.out; omega
      obtain ⟨x, hx⟩ : ∃ x, l[j]? = some x := ⟨_, List.getElem?_eq_getElem hjl⟩
      have c1 := (HW.out.cell (p := ⟨g, o + j, none⟩) hg).trans (hgc j x hx)
      have R1 := Lib.hid (HK.out x (List.mem_of_getElem? hx) wr HW.out)
      have HX := Lib.hid hx
      have he : ∀ u, (callFunc kf (#[.int .i64 x] ++ caps)).run Try.prog u = .ok (.enter kf (#[.int .i64 x] ++ caps)) u := fun u => hE _ u
      clear hjl hx hg hgc
      go_wp2_with fail
      clear he
      refine R1.out.mono ?_
      rintro e w3 ⟨rfl, hb3⟩
      have HW3 := Lib.hid (HW.out.trans (hb3.mono HW.out.size))
      clear hb3 R1 c1
      cases hp : p x with
      | false =>
        have hnx : (l.take (j + 1)).any p = false := by
          rw [List.take_add_one, HX.out, List.any_append, HNO.out]
          simp [hp]
        clear hp
        go_wp2
        go_roundw
        case rel => exact ⟨j + 1, by omega, by go_num, hnx, HW3.out⟩
        case measure => simp [intOf]; omega
      | true =>
        have hnx : l.any p = true := List.any_eq_true.2 ⟨x, List.mem_of_getElem? HX.out, hp⟩
        clear hp
        go_wp2
        go_ret
        exact ⟨_, rfl, by rw [hnx]; simp, HW3.out⟩
    · obtain rfl : j = n := by omega
      have ht : l.any p = false := by have := HNO.out; rwa [List.take_of_length_le (by have := HN.out; omega)] at this
      have HT := Lib.hid ht
      clear ht
      go_wp2
      go_ret
      exact ⟨_, rfl, by rw [HT.out]; simp, HW.out⟩
theorem containsfunc_any (l : List Int) (p : Int → Bool) (kf : Nat) (caps : Array Value) (n : Nat) (a : Option Addr) (c : Nat) (w : World) (b : Bool) (hb : b = l.any p) (hn : l.length = n) (hn2 : n ≤ 1000) (ha : IntsR w a l) (hE : Enters Try.prog kf)
    (hk : ∀ x ∈ l, ∀ u, Below w.heap.size w u → Calls Try.prog kf (#[.int .i64 x] ++ caps) u fun e w' => e = .returned (.bool (p x)) ∧ Below u.heap.size u w') :
    Calls Try.prog 26 #[.slice a n c, .func (.func kf) #[] caps] w fun e w' => e = .returned (.bool b) ∧ Below w.heap.size w w' := by
  have R := Lib.hid (indexfunc_any l p kf caps n a c w hn hn2 ha hE hk)
  clear hn ha hk hE
  go_enter Try.func26, Try.ntmps26
  go_wp2_with fail
  refine R.out.mono ?_
  rintro e w1 ⟨z, rfl, hz, hb1⟩
  rw [← hb] at hz
  have HB := Lib.hid hb1
  clear hb hb1
  go_wp2
  go_ret
  exact ⟨rfl, HB.out⟩

/-- An append of n zeros onto nothing. -/
theorem run_append_zeros (W : World) (ty : TypeId) (n : Nat) (h0 : 0 < n) (hn : n ≤ 1000000) :
    ∃ c w', (Builtin.append_ #[22, 3] ty #[.slice none 0 0, .int .i64 (n : Int)]).run Try.prog W = .ok (.slice (some ⟨W.heap.size, 0, none⟩) n c) w' ∧ n ≤ c ∧ c ≤ maxLen ∧ (∃ cur, w'.heap[W.heap.size]? = some (.cells cur 3 (0, 0)) ∧ cur.size = c) ∧ Below W.heap.size W w' := by
  obtain ⟨i0, hi, hz0, hz1, hz2⟩ := info_parts Ints.info_int
  have hw : IntKind.i64.wrap (n : Int) = (n : Int) := by rw [IntKind.wrap_i64]; omega
  have h1 : ¬ ((n : Int) < 0) := by omega
  have h2 : ¬ ((281474976710656 : Int) < (n : Int) * 8) := by omega
  have h3 : ¬ ((9223372036854775807 : Int) < (n : Int)) := by omega
  have hu : Try.prog.underlying 3 = some (.int .i64) := Try.underlying3
  have hne : n ≠ 0 := by omega
  have h48' : ¬ (281474976710656 < Builtin.nextslicecap n 0 * 8) := by rw [nextslicecap_zero h0]; omega
  have hge := grownCap_ge W n 0 3
  have hle := grownCap_le_maxLen W n 0 3 (by unfold maxLen; omega)
  refine ⟨grownCap W n 0 3, W.drew.alloc (.cells (Builtin.zeroCells #[.int .i64 0] n ++ Builtin.zeroCells #[.int .i64 0] (grownCap W n 0 3 - n)) 3), ?_, hge, hle, ⟨_, heap_alloc_new W.drew _, ?_⟩, ⟨rfl, rfl, rfl, by simp, fun k hk => _root_.Go.heap_alloc_old W.drew _ hk⟩⟩
  · simp [Builtin.append_, run_underlying Try.underlying22, run_underlying hu, sizeOf, typeInfo, zeroValue, hi, hz0, hz1, hz2, asInt, asIntOf, hw, h1, h2, h3, hne, h48', Question.forced, run_firstCells_none, newRow, grownCap]
    rfl
  · rw [Array.size_append, size_zeroCells, size_zeroCells]
    simp
    omega
theorem append_zeros {ops : Array Oper} {rest : List Oper} {o : Oper} {a : Act} {W : World} {Q : Exit → Act → World → Prop} (hgd : o.guard = none) (s x : Operand)
    (ho : o.op = .call { callee := .builtin .append, args := #[s, x], argTypes := #[22, 3] }) (n : Nat) (h0 : 0 < n) (hn : n ≤ 1000000) (hs : a.eval s = .slice none 0 0) (hx : a.eval x = .int .i64 (n : Int))
    (h : ∀ c w', n ≤ c → w'.ownsRow W.heap.size 3 1 (.slice (some ⟨W.heap.size, 0, none⟩) 0 c) 0 (zsV []) → Below W.heap.size W w' → wpList Try.prog ops Q rest (a.put o.dst (.slice (some ⟨W.heap.size, 0, none⟩) n c)) w') : wpList Try.prog ops Q (o :: rest) a W := by
  refine wpList_plain hgd fun K hK' => ?_
  obtain ⟨c, w', hrun, r1, r2, ⟨cur, r3, r4⟩, r5⟩ := run_append_zeros W o.type n h0 hn
  unfold Oper.wp
  simp [execOp, ho, resolve, invoke, builtin, hs, hx, hrun, Result.andThen]
  exact hK' _ _ (h c w' r1 ⟨rfl, .inr ⟨W.heap.size, c, cur, rfl, Nat.le_refl _, r3, Nat.zero_le _, r2, by omega, rfl⟩⟩ r5)

set_option maxHeartbeats 800000 in
theorem grow_any (n : Nat) (w : World) (hn : n ≤ 1000000) :
    Calls Try.prog 47 #[.slice none 0 0, .int .i64 (n : Int)] w fun e w' => ∃ v, e = .returned v ∧ w'.ownsRow w.heap.size 3 1 v 0 (zsV []) ∧ Below w.heap.size w w' := by
  by_cases h0 : n = 0
  · subst h0
    go_enter Try.func47, Try.ntmps47
    go_wp2
    go_ret
    exact ⟨_, rfl, World.ownsRow_nil _ _ _ _, Below.refl _ _⟩
  · have hd : decide ((n : Int) < 0) = false := decide_eq_false (by omega)
    have hd2 : decide ((0 : Int) < (n : Int)) = true := decide_eq_true (by omega)
    have hd3 : decide (0 < n) = true := decide_eq_true (by omega)
    have hw : wrap64 ((n : Int) - 0) = (n : Int) := by unfold wrap64; omega
    go_enter Try.func47, Try.ntmps47
    go_wp2_with (at_builtin; refine append_zeros rfl _ _ rfl n (by omega) hn rfl rfl ?_; intro c w1 hc hown hb)
    go_ret
    exact ⟨_, rfl, hown, hb⟩
end Go.Proofs.Ytofnjonmfgdpaaa.Ros
