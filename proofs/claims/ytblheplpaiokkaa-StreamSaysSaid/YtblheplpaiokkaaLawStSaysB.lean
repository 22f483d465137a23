/-
  StreamSays: quarters, mixed states, blocks and hidden texts of package stream are the document's own answers: for every input, the law answers true and changes nothing that was there. No condition.
-/
import Derived.Test.YtblheplpaiokkaaChaAwake
import Derived.Test.YtblheplpaiokkaaEq16
import Derived.Test.YtblheplpaiokkaaRefStream
import Derived.Test.YtblheplpaiokkaaRows
import Derived.Test.YtblheplpaiokkaaOpen
import Derived.Deep.RegionHeld3
import Derived.Test.YtblheplpaiokkaaSteady
namespace Go.Proofs.Ytblheplpaiokkaa.LawSays
open Go.ChangeShapes Go.WideShapes Go.ChangeAt Go.RowKit Mur Lanes Cha

theorem block_both (k n : ByteArray) (N : Nat) (hN : N < 4294967296) : ∃ (T : ByteArray) (e : Int), (∀ u, Calls Try.prog 10 #[.string k, .int .u32 N, .string n] u fun x w' => x = .returned (.tuple #[.string T, .int .i64 e]) ∧ Below u.heap.size u w') ∧
    (∀ u, Calls Try.prog 11 #[.string k, .int .u32 N, .string n] u fun x w' => x = .returned (.tuple #[.string T, .int .i64 e]) ∧ Below u.heap.size u w') := by
  by_cases h : k.size = 32 ∧ n.size = 12
  · exact ⟨⟨(blockT (stateZ k.data.toList n.data.toList) N).toArray⟩, 0, fun u => Cha.block_some k n _ N u h.1 h.2 hN rfl, fun u => RefCha.block_some k n _ N u h.1 h.2 hN rfl⟩
  · exact ⟨⟨#[]⟩, 1, fun u => Cha.block_none k n N u h, fun u => RefCha.block_none k n N u h⟩
theorem stream_both (k n : ByteArray) (m : Int) : ∃ (T : ByteArray) (e : Int), (∀ u, Calls Try.prog 12 #[.string k, .string n, .int .i64 m] u fun x w' => x = .returned (.tuple #[.string T, .int .i64 e]) ∧ Below u.heap.size u w') ∧
    (∀ u, Calls Try.prog 13 #[.string k, .string n, .int .i64 m] u fun x w' => x = .returned (.tuple #[.string T, .int .i64 e]) ∧ Below u.heap.size u w') := by
  by_cases h : k.size = 32 ∧ n.size = 12
  · by_cases h2 : 0 ≤ m ∧ m ≤ 6000
    · obtain ⟨M, rfl⟩ : ∃ M : Nat, m = (M : Int) := ⟨m.toNat, by omega⟩
      exact ⟨streamB k n M, 0, fun u => Cha.stream_ok k n M u ⟨h, by omega⟩, fun u => RefCha.stream_some k n _ M u h.1 h.2 (by omega) rfl⟩
    · exact ⟨⟨#[]⟩, 1, fun u => Cha.stream_far k n m u h.1 h.2 (by omega), fun u => RefCha.stream_none k n m u (fun ⟨_, a, b⟩ => h2 ⟨a, b⟩)⟩
  · exact ⟨⟨#[]⟩, 1, fun u => Cha.stream_none k n m u h, fun u => RefCha.stream_none k n m u (fun ⟨a, _⟩ => h a)⟩
theorem hide_both (k n s : ByteArray) (hs : s.size ≤ 140737488351232) : ∃ (T : ByteArray) (e : Int), (∀ u, Calls Try.prog 14 #[.string k, .string n, .string s] u fun x w' => x = .returned (.tuple #[.string T, .int .i64 e]) ∧ Below u.heap.size u w') ∧
    (∀ u, Calls Try.prog 15 #[.string k, .string n, .string s] u fun x w' => x = .returned (.tuple #[.string T, .int .i64 e]) ∧ Below u.heap.size u w') := by
  by_cases h : Cha.Good k n s.size
  · exact ⟨hidB k n s 0, 0, fun u => Cha.hide_ok k n s _ u h rfl, fun u => RefCha.hide_ok k n s _ u h rfl⟩
  · exact ⟨⟨#[]⟩, 1, fun u => Cha.hide_err k n s u h hs, fun u => RefCha.hide_err k n s u h⟩

/-- What came in, in its boxes. -/
structure Args (w0 : World) (s : List Nat) (k n t : ByteArray) (n0 n1 : Int) (w : World) : Prop where
  room : w0.heap.size + 2 < w.heap.size
  s : Whole w w0.heap.size 23 (wordsV s)
  c0 : w.cell? ⟨w0.heap.size + 1, 0, none⟩ = some (.string k)
  c1 : w.cell? ⟨w0.heap.size + 1, 1, none⟩ = some (.string n)
  c2 : w.cell? ⟨w0.heap.size + 1, 2, none⟩ = some (.string t)
  c3 : w.cell? ⟨w0.heap.size + 1 + 1, 0, none⟩ = some (.int .i64 n0)
  c4 : w.cell? ⟨w0.heap.size + 1 + 1, 1, none⟩ = some (.int .i64 n1)
  below : Below w0.heap.size w0 w
theorem Args.next {w0 w w' : World} {s : List Nat} {k n t : ByteArray} {n0 n1 : Int} (h : Args w0 s k n t n0 n1 w) (q : Below w.heap.size w w') : Args w0 s k n t n0 n1 w' := by
  have hr := h.room
  have hr1 : w0.heap.size + 1 < w.heap.size := by omega
  exact ⟨Nat.lt_of_lt_of_le h.room q.size, h.s.below h.s.lt q, (q.cell (p := ⟨w0.heap.size + 1, 0, none⟩) hr1).trans h.c0, (q.cell (p := ⟨w0.heap.size + 1, 1, none⟩) hr1).trans h.c1, (q.cell (p := ⟨w0.heap.size + 1, 2, none⟩) hr1).trans h.c2,
    (q.cell (p := ⟨w0.heap.size + 1 + 1, 0, none⟩) hr).trans h.c3, (q.cell (p := ⟨w0.heap.size + 1 + 1, 1, none⟩) hr).trans h.c4, h.below.trans (q.mono h.below.size)⟩
theorem Args.start (w : World) (s : List Nat) (k n t : ByteArray) (n0 n1 : Int) : Args w s k n t n0 n1 (((w.alloc (.cells (wordsV s).toArray 23)).alloc (.cells #[.string k, .string n, .string t] 24)).alloc (.cells #[.int .i64 n0, .int .i64 n1] 25)) := by
  have h1 := (Whole.made' (w.alloc (.cells (wordsV s).toArray 23)) 24 #[.string k, .string n, .string t] (w.heap.size + 1) (by simp)).alloc (.cells #[.int .i64 n0, .int .i64 n1] 25)
  have h2 := Whole.made' ((w.alloc (.cells (wordsV s).toArray 23)).alloc (.cells #[.string k, .string n, .string t] 24)) 25 #[.int .i64 n0, .int .i64 n1] (w.heap.size + 1 + 1) (by simp)
  exact ⟨by simp, ((Whole.made' w _ (wordsV s).toArray _ rfl).alloc _).alloc _, h1.row.cell rfl, h1.row.cell rfl, h1.row.cell rfl, h2.row.cell rfl, h2.row.cell rfl, (((Below.refl _ _).alloc (Nat.le_refl _) _).alloc (by simp) _).alloc (by simp; omega) _⟩

set_option maxHeartbeats 800000 in
theorem law_not (s : List Nat) (k n t : ByteArray) (n0 n1 : Int) (w : World) (hg : ¬ (k.size + n.size + t.size ≤ 2000 ∧ n1 ≤ 2000)) (hk : k.size ≤ 140737488351232) (hn : n.size ≤ 140737488351232) (ht : t.size ≤ 140737488351232) :
    Calls Try.prog 3 #[.agg (wordsV s).toArray, .agg #[.string k, .string n, .string t], .agg #[.int .i64 n0, .int .i64 n1]] w fun e w' => e = .returned (.bool true) ∧ Below w.heap.size w w' := by
  have hd : decide (2000 < (k.size : Int) + (n.size : Int) + (t.size : Int)) = true ∨ (decide (2000 < (k.size : Int) + (n.size : Int) + (t.size : Int)) = false ∧ decide (2000 < n1) = true) := by
    by_cases e1 : k.size + n.size + t.size ≤ 2000
    · right
      exact ⟨by simp; omega, by simp; omega⟩
    · left
      simp; omega
  clear hg
  rcases hd with h1 | ⟨h1, h2⟩
  all_goals
    go_enter Try.func3, Try.ntmps3
    go_wp2_with fail
    refine (awake_any _).mono ?_
    rintro e w1 ⟨rfl, hb1⟩
    go_wp2
    go_ret
    exact ⟨rfl, ((Args.start w s k n t n0 n1).next hb1).below⟩

/-- What is kept through the last statement. -/
structure Keep (w0 : World) (nQ : Nat) (w : World) : Prop where
  room : nQ < w.heap.size
  room0 : w0.heap.size < w.heap.size
  below : Below w0.heap.size w0 w
abbrev Held (w0 : World) (s : List Nat) (nQ a b c d : Nat) (w : World) : Prop :=
  w.cell? ⟨nQ, 0, none⟩ = some (.int .u32 (a : Int)) ∧ w.cell? ⟨nQ, 1, none⟩ = some (.int .u32 (b : Int)) ∧ w.cell? ⟨nQ, 2, none⟩ = some (.int .u32 (c : Int)) ∧ w.cell? ⟨nQ, 3, none⟩ = some (.int .u32 (d : Int)) ∧ w.rangeAt w0.heap.size 0 (wordsV s) ∧ Keep w0 nQ w
theorem held_next {w0 w w' : World} {s : List Nat} {nQ a b c d : Nat} (h : Held w0 s nQ a b c d w) (q : Below w.heap.size w w') : Held w0 s nQ a b c d w' := by
  obtain ⟨c0, c1, c2, c3, r, k⟩ := h
  exact ⟨(q.cell (p := ⟨nQ, 0, none⟩) k.room).trans c0, (q.cell (p := ⟨nQ, 1, none⟩) k.room).trans c1, (q.cell (p := ⟨nQ, 2, none⟩) k.room).trans c2, (q.cell (p := ⟨nQ, 3, none⟩) k.room).trans c3,
    fun j v hv => (q.cell (p := ⟨w0.heap.size, 0 + j, none⟩) k.room0).trans (r j v hv), ⟨Nat.lt_of_lt_of_le k.room q.size, Nat.lt_of_lt_of_le k.room0 q.size, k.below.trans (q.mono k.below.size)⟩⟩

theorem wrap_nat (n : Int) : ∃ N : Nat, N < 4294967296 ∧ n % 4294967296 = (N : Int) := ⟨(n % 4294967296).toNat, by omega, by omega⟩

theorem load_words {s : List Nat} {b : Nat} (hi : (Try.prog.info? 23).map (·.size) = some (wordsV s).length) (u : World) (h : u.rangeAt b 0 (wordsV s)) {a : Act} (x : Operand) (hx : a.eval x = .pointer (some ⟨b, 0, none⟩)) (o : Oper) (ho : o.op = .load 23 x) :
    (execOp a.eval o).run Try.prog u = .ok (.value (.agg (wordsV s).toArray)) u := by
  unfold execOp
  simp only [ho, hx, Instr.loadAt, Instr.sureAddr, Sem.run_bind, Sem.run_pure, Result.andThen_ok, run_loadVar_mid u b 0 23 (wordsV s) _ h Try.underlying23 rfl hi]

theorem held_kept {w0 : World} {s : List Nat} {nQ a b c d : Nat} {f : FuncId} {args : Array Value} {v : Value} (R : ∀ u, Calls Try.prog f args u fun e w' => e = .returned v ∧ Below u.heap.size u w') :
    ∀ u, Held w0 s nQ a b c d u → Calls Try.prog f args u fun e w' => e = .returned v ∧ Held w0 s nQ a b c d w' := fun u h =>
  (R u).mono fun _ _ ⟨he, hb⟩ => ⟨he, held_next h hb⟩

set_option maxRecDepth 100000 in
set_option maxHeartbeats 6400000 in
theorem law_do (s : List Nat) (k n t : ByteArray) (n0 n1 : Int) (w : World) (hs : Words16 s) (hg1 : k.size + n.size + t.size ≤ 2000) (hg2 : n1 ≤ 2000) :
    Calls Try.prog 3 #[.agg (wordsV s).toArray, .agg #[.string k, .string n, .string t], .agg #[.int .i64 n0, .int .i64 n1]] w fun e w' => e = .returned (.bool true) ∧ Below w.heap.size w w' := by
  have h1 : decide (2000 < (k.size : Int) + (n.size : Int) + (t.size : Int)) = false := by simp; omega
  have h2 : decide (2000 < n1) = false := by simp; omega
  have hA := Args.start w s k n t n0 n1
  have hm0 := hA.s
  have ca := word_cell hm0 (i := 0) (by rw [hs.1]; omega)
  have cb := word_cell hm0 (i := 1) (by rw [hs.1]; omega)
  have cc := word_cell hm0 (i := 2) (by rw [hs.1]; omega)
  have cd := word_cell hm0 (i := 3) (by rw [hs.1]; omega)
  obtain ⟨a, ha⟩ : ∃ a, a = s.getD 0 0 := ⟨_, rfl⟩
  obtain ⟨b, hb⟩ : ∃ a, a = s.getD 1 0 := ⟨_, rfl⟩
  obtain ⟨c, hc⟩ : ∃ a, a = s.getD 2 0 := ⟨_, rfl⟩
  obtain ⟨d, hd⟩ : ∃ a, a = s.getD 3 0 := ⟨_, rfl⟩
  have hq4 : (⟨a, b, c, d⟩ : Q4).Ok := by rw [ha, hb, hc, hd]; exact hs.at4 0 1 2 3
  rw [← ha] at ca
  rw [← hb] at cb
  rw [← hc] at cc
  rw [← hd] at cd
  obtain ⟨N, hN, hN2⟩ := wrap_nat n0
  obtain ⟨T1, e1, hb1, hb2⟩ := block_both k n N hN
  obtain ⟨T2, e2, hs1, hs2⟩ := stream_both k n n1
  obtain ⟨T3, e3, hh1, hh2⟩ := hide_both k n t (by omega)
  obtain ⟨Q, hQ⟩ : ∃ Q, Q = quarter ⟨a, b, c, d⟩ := ⟨_, rfl⟩
  obtain ⟨M, hM⟩ : ∃ M, M = mixed s := ⟨_, rfl⟩
  have hokM : Words16 M := by rw [hM]; exact hs.mixed
  have q1 := Lib.hid (fun u => Cha.pub_any a b c d Q u hq4 hQ)
  have q2 := Lib.hid (fun u => RefCha.pub_any a b c d Q u hq4 hQ)
  have m1 := Lib.hid (fun u => Cha.mixed_any s M u hs hM)
  have m2 := Lib.hid (fun u => RefCha.mixed_any s M u hs hM)
  have B1 := Lib.hid hb1
  have B2 := Lib.hid hb2
  have S1 := Lib.hid hs1
  have S2 := Lib.hid hs2
  have H1 := Lib.hid hh1
  have H2 := Lib.hid hh2
  have t1 : (T1.toList == T1.toList) = true := by simp
  have t2 : (T2.toList == T2.toList) = true := by simp
  have t3 : (T3.toList == T3.toList) = true := by simp
  have u1 : (e1 == e1) = true := by simp
  have u2 : (e2 == e2) = true := by simp
  have u3 : (e3 == e3) = true := by simp
  have heq4 := fun u => eq_four (Q.a : Int) Q.b Q.c Q.d u
  have heq16 := fun u => eq_sixteen hokM.1 u
  have HI := Lib.hid (info16 hs.1)
  have AW := Lib.hid (fun u => awake_any u)
  have HN2 := Lib.hid hN2
  have HA := Lib.hid hA
  clear ha hb hc hd hq4 hQ hM hokM hN hN2 hb1 hb2 hs1 hs2 hh1 hh2 hA hm0 hs
  go_enter Try.func3, Try.ntmps3
  go_upto_region 4 with (fail)
  clear ca cb cc cd h1 h2
  have HE := Lib.hid (HA.out.next ((Below.refl _ _).alloc (Nat.le_refl _) (.cells #[.int .u32 (a : Int), .int .u32 (b : Int), .int .u32 (c : Int), .int .u32 (d : Int)] 27)))
  have hQ4 := Whole.made' (((w.alloc (.cells (wordsV s).toArray 23)).alloc (.cells #[.string k, .string n, .string t] 24)).alloc (.cells #[.int .i64 n0, .int .i64 n1] 25)) 27 #[.int .u32 (a : Int), .int .u32 (b : Int), .int .u32 (c : Int), .int .u32 (d : Int)] (w.heap.size + 1 + 1 + 1) (by simp)
  have hH : Held w s (w.heap.size + 1 + 1 + 1) a b c d ((((w.alloc (.cells (wordsV s).toArray 23)).alloc (.cells #[.string k, .string n, .string t] 24)).alloc (.cells #[.int .i64 n0, .int .i64 n1] 25)).alloc (.cells #[.int .u32 (a : Int), .int .u32 (b : Int), .int .u32 (c : Int), .int .u32 (d : Int)] 27)) := by
    exact ⟨hQ4.row.cell rfl, hQ4.row.cell rfl, hQ4.row.cell rfl, hQ4.row.cell rfl, HE.out.s.range, ⟨hQ4.lt, Nat.lt_of_le_of_lt (by omega) hQ4.lt, HE.out.below⟩⟩
  have HH := Lib.hid hH
  clear hH HA hQ4
  generalize (((w.alloc (.cells (wordsV s).toArray 23)).alloc (.cells #[.string k, .string n, .string t] 24)).alloc (.cells #[.int .i64 n0, .int .i64 n1] 25)).alloc (.cells #[.int .u32 (a : Int), .int .u32 (b : Int), .int .u32 (c : Int), .int .u32 (d : Int)] 27) = wx at *
  obtain ⟨-, -, c0, c1, c2, c3, c4, -⟩ := HE.out
  go_wp2_with fail
  rw [HN2.out]
  refine (B1.out _).mono ?_
  rintro e w1 ⟨rfl, hx⟩
  have HE1 := Lib.hid (HE.out.next hx)
  have HH1 := Lib.hid (held_next HH.out hx)
  clear hx HE HH c0 c1 c2 c3 c4
  obtain ⟨-, -, c0, c1, c2, c3, c4, -⟩ := HE1.out
  go_wp2_with fail
  rw [HN2.out]
  refine (B2.out _).mono ?_
  rintro e w2 ⟨rfl, hx⟩
  have HE2 := Lib.hid (HE1.out.next hx)
  have HH2 := Lib.hid (held_next HH1.out hx)
  clear hx HE1 HH1 c0 c1 c2 c3 c4
  obtain ⟨-, -, c0, c1, c2, c3, c4, -⟩ := HE2.out
  go_wp2_with fail
  refine (S1.out _).mono ?_
  rintro e w3 ⟨rfl, hx⟩
  have HE3 := Lib.hid (HE2.out.next hx)
  have HH3 := Lib.hid (held_next HH2.out hx)
  clear hx HE2 HH2 c0 c1 c2 c3 c4
  obtain ⟨-, -, c0, c1, c2, c3, c4, -⟩ := HE3.out
  go_wp2_with fail
  refine (S2.out _).mono ?_
  rintro e w4 ⟨rfl, hx⟩
  have HE4 := Lib.hid (HE3.out.next hx)
  have HH4 := Lib.hid (held_next HH3.out hx)
  clear hx HE3 HH3 c0 c1 c2 c3 c4
  obtain ⟨-, -, c0, c1, c2, c3, c4, -⟩ := HE4.out
  go_wp2_with fail
  refine (H1.out _).mono ?_
  rintro e w5 ⟨rfl, hx⟩
  have HE5 := Lib.hid (HE4.out.next hx)
  have HH5 := Lib.hid (held_next HH4.out hx)
  clear hx HE4 HH4 c0 c1 c2 c3 c4
  obtain ⟨-, -, c0, c1, c2, c3, c4, -⟩ := HE5.out
  go_wp2_with fail
  refine (H2.out _).mono ?_
  rintro e w6 ⟨rfl, hx⟩
  have HE6 := Lib.hid (HE5.out.next hx)
  have HH6 := Lib.hid (held_next HH5.out hx)
  clear hx HE5 HH5 c0 c1 c2 c3 c4
  obtain ⟨-, -, c0, c1, c2, c3, c4, -⟩ := HE6.out
  clear c0 c1 c2 c3 c4
  go_upto_region 10 with (fail)
  have HH7 := Lib.hid (held_next HH6.out (belowN (Below.refl w6.heap.size w6) 1))
  clear HH6 HE6
  refine Steady.region 45 (by kernel_rfl) (by kernel_rfl) (fun u => Held w s (w.heap.size + 1 + 1 + 1) a b c d u) HH7.out ?_
  simp only [List.append_eq, List.cons_append, List.nil_append, List.take_succ_cons, List.take_zero, List.drop_succ_cons, List.drop_zero]
  refine Steady.take ?_ rfl (by intro u hu; obtain ⟨c0, c1, c2, c3, -, -⟩ := hu; go_simp; with_reducible rfl) ?_
  simp only [Act.put, List.setIfInBounds_toArray, List.set_cons_zero, List.set_cons_succ]
  refine Steady.call _ _ _ rfl ?_ (held_kept q1.out) ?_
  · intro u
    go_simp
  simp only [Act.put, List.setIfInBounds_toArray, List.set_cons_zero, List.set_cons_succ]
  refine Steady.take ?_ rfl (by intro u hu; obtain ⟨c0, c1, c2, c3, -, -⟩ := hu; go_simp; with_reducible rfl) ?_
  simp only [Act.put, List.setIfInBounds_toArray, List.set_cons_zero, List.set_cons_succ]
  refine Steady.call _ _ _ rfl ?_ (held_kept q2.out) ?_
  · intro u
    go_simp
  simp only [Act.put, List.setIfInBounds_toArray, List.set_cons_zero, List.set_cons_succ]
  refine Steady.take ?_ rfl (by intro u hu; go_simp; with_reducible rfl) ?_
  simp only [Act.put, List.setIfInBounds_toArray, List.set_cons_zero, List.set_cons_succ]
  refine Steady.take ?_ rfl (by intro u hu; go_simp; with_reducible rfl) ?_
  simp only [Act.put, List.setIfInBounds_toArray, List.set_cons_zero, List.set_cons_succ]
  refine Steady.take (.agg (wordsV s).toArray) rfl (fun u hu => load_words HI.out u hu.2.2.2.2.1 _ rfl _ rfl) ?_
  simp only [Act.put, List.setIfInBounds_toArray, List.set_cons_zero, List.set_cons_succ]
  refine Steady.call _ _ _ rfl ?_ (held_kept m1.out) ?_
  · intro u
    go_simp
  simp only [Act.put, List.setIfInBounds_toArray, List.set_cons_zero, List.set_cons_succ]
  refine Steady.take (.agg (wordsV s).toArray) rfl (fun u hu => load_words HI.out u hu.2.2.2.2.1 _ rfl _ rfl) ?_
  simp only [Act.put, List.setIfInBounds_toArray, List.set_cons_zero, List.set_cons_succ]
  refine Steady.call _ _ _ rfl ?_ (held_kept m2.out) ?_
  · intro u
    go_simp
  simp only [Act.put, List.setIfInBounds_toArray, List.set_cons_zero, List.set_cons_succ]
  refine Steady.take ?_ rfl (by intro u hu; go_simp; with_reducible rfl) ?_
  simp only [Act.put, List.setIfInBounds_toArray, List.set_cons_zero, List.set_cons_succ]
  refine Steady.take ?_ rfl (by intro u hu; go_simp; with_reducible rfl) ?_
  simp only [Act.put, List.setIfInBounds_toArray, List.set_cons_zero, List.set_cons_succ]
  refine Steady.take ?_ rfl (by intro u hu; go_simp; with_reducible rfl) ?_
  simp only [Act.put, List.setIfInBounds_toArray, List.set_cons_zero, List.set_cons_succ]
  refine Steady.take ?_ rfl (by intro u hu; go_simp; with_reducible rfl) ?_
  simp only [Act.put, List.setIfInBounds_toArray, List.set_cons_zero, List.set_cons_succ]
  refine Steady.take ?_ rfl (by intro u hu; go_simp; with_reducible rfl) ?_
  simp only [Act.put, List.setIfInBounds_toArray, List.set_cons_zero, List.set_cons_succ]
  refine Steady.take ?_ rfl (by intro u hu; go_simp; with_reducible rfl) ?_
  simp only [Act.put, List.setIfInBounds_toArray, List.set_cons_zero, List.set_cons_succ]
  refine Steady.take ?_ rfl (by intro u hu; go_simp; with_reducible rfl) ?_
  simp only [Act.put, List.setIfInBounds_toArray, List.set_cons_zero, List.set_cons_succ]
  refine Steady.take ?_ rfl (by intro u hu; go_simp; with_reducible rfl) ?_
  simp only [Act.put, List.setIfInBounds_toArray, List.set_cons_zero, List.set_cons_succ]
  refine Steady.take ?_ rfl (by intro u hu; go_simp; with_reducible rfl) ?_
  simp only [Act.put, List.setIfInBounds_toArray, List.set_cons_zero, List.set_cons_succ]
  refine Steady.take ?_ rfl (by intro u hu; go_simp; with_reducible rfl) ?_
  simp only [Act.put, List.setIfInBounds_toArray, List.set_cons_zero, List.set_cons_succ]
  refine Steady.take ?_ rfl (by intro u hu; go_simp; with_reducible rfl) ?_
  simp only [Act.put, List.setIfInBounds_toArray, List.set_cons_zero, List.set_cons_succ]
  refine Steady.take ?_ rfl (by intro u hu; go_simp; with_reducible rfl) ?_
  simp only [Act.put, List.setIfInBounds_toArray, List.set_cons_zero, List.set_cons_succ]
  refine Steady.take ?_ rfl (by intro u hu; go_simp; with_reducible rfl) ?_
  simp only [Act.put, List.setIfInBounds_toArray, List.set_cons_zero, List.set_cons_succ]
  refine Steady.take ?_ rfl (by intro u hu; go_simp; with_reducible rfl) ?_
  simp only [Act.put, List.setIfInBounds_toArray, List.set_cons_zero, List.set_cons_succ]
  refine Steady.take ?_ rfl (by intro u hu; go_simp; with_reducible rfl) ?_
  simp only [Act.put, List.setIfInBounds_toArray, List.set_cons_zero, List.set_cons_succ]
  refine Steady.take ?_ rfl (by intro u hu; go_simp; with_reducible rfl) ?_
  simp only [Act.put, List.setIfInBounds_toArray, List.set_cons_zero, List.set_cons_succ]
  refine Steady.take ?_ rfl (by intro u hu; go_simp; with_reducible rfl) ?_
  simp only [Act.put, List.setIfInBounds_toArray, List.set_cons_zero, List.set_cons_succ]
  refine Steady.take ?_ rfl (by intro u hu; go_simp; with_reducible rfl) ?_
  simp only [Act.put, List.setIfInBounds_toArray, List.set_cons_zero, List.set_cons_succ]
  refine Steady.take ?_ rfl (by intro u hu; go_simp; with_reducible rfl) ?_
  simp only [Act.put, List.setIfInBounds_toArray, List.set_cons_zero, List.set_cons_succ]
  refine Steady.take ?_ rfl (by intro u hu; go_simp; with_reducible rfl) ?_
  simp only [Act.put, List.setIfInBounds_toArray, List.set_cons_zero, List.set_cons_succ]
  refine Steady.take ?_ rfl (by intro u hu; go_simp; with_reducible rfl) ?_
  simp only [Act.put, List.setIfInBounds_toArray, List.set_cons_zero, List.set_cons_succ]
  refine Steady.take ?_ rfl (by intro u hu; go_simp; with_reducible rfl) ?_
  simp only [Act.put, List.setIfInBounds_toArray, List.set_cons_zero, List.set_cons_succ]
  refine Steady.take ?_ rfl (by intro u hu; go_simp; with_reducible rfl) ?_
  simp only [Act.put, List.setIfInBounds_toArray, List.set_cons_zero, List.set_cons_succ]
  refine Steady.take ?_ rfl (by intro u hu; go_simp; with_reducible rfl) ?_
  simp only [Act.put, List.setIfInBounds_toArray, List.set_cons_zero, List.set_cons_succ]
  refine Steady.take ?_ rfl (by intro u hu; go_simp; with_reducible rfl) ?_
  simp only [Act.put, List.setIfInBounds_toArray, List.set_cons_zero, List.set_cons_succ]
  refine Steady.take ?_ rfl (by intro u hu; go_simp; with_reducible rfl) ?_
  simp only [Act.put, List.setIfInBounds_toArray, List.set_cons_zero, List.set_cons_succ]
  refine Steady.take ?_ rfl (by intro u hu; go_simp; with_reducible rfl) ?_
  simp only [Act.put, List.setIfInBounds_toArray, List.set_cons_zero, List.set_cons_succ]
  refine Steady.take ?_ rfl (by intro u hu; go_simp; with_reducible rfl) ?_
  simp only [Act.put, List.setIfInBounds_toArray, List.set_cons_zero, List.set_cons_succ]
  refine Steady.take ?_ rfl (by intro u hu; go_simp; with_reducible rfl) ?_
  simp only [Act.put, List.setIfInBounds_toArray, List.set_cons_zero, List.set_cons_succ]
  refine Steady.take ?_ rfl (by intro u hu; go_simp; with_reducible rfl) ?_
  simp only [Act.put, List.setIfInBounds_toArray, List.set_cons_zero, List.set_cons_succ]
  refine Steady.take ?_ rfl (by intro u hu; go_simp; with_reducible rfl) ?_
  simp only [Act.put, List.setIfInBounds_toArray, List.set_cons_zero, List.set_cons_succ]
  refine Steady.take ?_ rfl (by intro u hu; go_simp; with_reducible rfl) ?_
  simp only [Act.put, List.setIfInBounds_toArray, List.set_cons_zero, List.set_cons_succ]
  refine Steady.take ?_ rfl (by intro u hu; go_simp; with_reducible rfl) ?_
  simp only [Act.put, List.setIfInBounds_toArray, List.set_cons_zero, List.set_cons_succ]
  refine Steady.call _ _ _ rfl ?_ (held_kept AW.out) ?_
  · intro u
    go_simp
  simp only [Act.put, List.setIfInBounds_toArray, List.set_cons_zero, List.set_cons_succ]
  refine Steady.take ?_ rfl (by intro u hu; go_simp; with_reducible rfl) ?_
  simp only [Act.put, List.setIfInBounds_toArray, List.set_cons_zero, List.set_cons_succ]
  refine Steady.nil ?_
  intro w9 h9
  have HB9 := Lib.hid h9.2.2.2.2.2.below
  clear h9
  go_wp2
  go_ret
  exact ⟨rfl, HB9.out⟩

theorem walk (s : List Nat) (k n t : ByteArray) (n0 n1 : Int) (w : World) (hs : Words16 s) (hk : k.size ≤ 140737488351232) (hn : n.size ≤ 140737488351232) (ht : t.size ≤ 140737488351232) :
    Calls Try.prog 3 #[.agg (wordsV s).toArray, .agg #[.string k, .string n, .string t], .agg #[.int .i64 n0, .int .i64 n1]] w fun e w' => e = .returned (.bool true) ∧ Below w.heap.size w w' := by
  by_cases hg : k.size + n.size + t.size ≤ 2000 ∧ n1 ≤ 2000
  · exact law_do s k n t n0 n1 w hs hg.1 hg.2
  · exact law_not s k n t n0 n1 w hg hk hn ht

theorem own : ownKnob Try.prog.godebug = none := by kernel_rfl
theorem laidOut : laidOutB Try.prog = true := by kernel_rfl
theorem two_of {α : Type} (l : List α) (h : l.length = 2) : ∃ a b, l = [a, b] := by
  match l, h with
  | [a, b], _ => exact ⟨a, b, rfl⟩
theorem three_of {α : Type} (l : List α) (h : l.length = 3) : ∃ a b c, l = [a, b, c] := by
  match l, h with
  | [a, b, c], _ => exact ⟨a, b, c, rfl⟩
theorem words_of (ns : List Int) (h : ∀ n ∈ ns, (Lit.int .u32 n).wf = true) : ∃ s : List Nat, s.length = ns.length ∧ ns.map (Value.int .u32) = wordsV s ∧ ∀ x ∈ s, x < 4294967296 := by
  induction ns with
  | nil => exact ⟨[], rfl, rfl, fun _ h => by cases h⟩
  | cons n ns ih =>
    obtain ⟨s, h1, h2, h3⟩ := ih fun m hm => h m (List.mem_cons_of_mem _ hm)
    have hn := h n (List.mem_cons_self ..)
    have hb : 0 ≤ n ∧ n < 4294967296 := by
      have h0 : IntKind.u32.min ≤ n ∧ n ≤ IntKind.u32.max := by simpa [Lit.wf] using hn
      have e1 : IntKind.u32.min = 0 := by decide
      have e2 : IntKind.u32.max = 4294967295 := by decide
      omega
    refine ⟨n.toNat :: s, by simp [h1], ?_, fun x hx => ?_⟩
    · rw [List.map_cons, h2]
      have : n = ((n.toNat : Nat) : Int) := by omega
      simp only [wordsV, List.map_cons]
      rw [← this]
    · rcases List.mem_cons.1 hx with rfl | hx
      · omega
      · exact h3 x hx

set_option maxRecDepth 100000 in
theorem lifted (os : Os) (started : os.Started) (H : Type) (enc : TypeId × Value → H) :
    ReturnsInHanded {} Try.checked os 3 .any (Rows.streamSaysSpec.pre6 enc Try.prog Try.f3 Rows.streamSaysRow.domain false) (Rows.streamSaysSpec.post enc Try.prog Try.f3 false true false false) := by
  refine returnsInHanded_of_change_sized (C := Try.checked) own started (by kernel_rfl) Try.func3
    (ChangeSpec.witness6 (enc := enc) (C := Try.checked) false ⟨#[], #[.agg #[.int .u32 0, .int .u32 0, .int .u32 0, .int .u32 0, .int .u32 0, .int .u32 0, .int .u32 0, .int .u32 0, .int .u32 0, .int .u32 0, .int .u32 0, .int .u32 0, .int .u32 0, .int .u32 0, .int .u32 0, .int .u32 0], .agg #[.string ByteArray.empty, .string ByteArray.empty, .string ByteArray.empty], .agg #[.int .i64 0, .int .i64 0]], []⟩ 8 (by kernel_rfl) (by kernel_rfl) (by kernel_rfl) (by kernel_rfl)) ?_
  intro W base args ds gs before hval0 hW hcnd hsz0 _
  have hsz : (DataW.weightsEach Try.prog (Try.f3.params.toList ++ Rows.streamSaysSpec.plain.varTypes Try.prog) (ds ++ gs)).all (· ≤ reachBytes) = true := hsz0
  clear hsz0
  have hval : ∀ (j : Nat) t v, Try.f3.params[j]? = some t → args[j]? = some v → Value.okWide Try.prog W .any base t v := hval0
  have hW' := hW
  obtain ⟨p, q, hA0, hV, rfl, hfz, hnd⟩ := hW
  have hA : DataW.TrodAll enc Try.prog W 0 (fun _ => true) true Try.f3.params.toList args.toList ds p := hA0
  rw [Try.params3] at hA hval hsz
  obtain ⟨v0, vs0, d0, ds0, p0, q0, hargs, rfl, rfl, h0, r0⟩ := trodAll_cons hA
  obtain ⟨v1, vs1, d1, ds1, p1, q1, rfl, rfl, rfl, h1, r1⟩ := trodAll_cons r0
  obtain ⟨v2, vs2, d2, ds2, p2, q2, rfl, rfl, rfl, h2, r2⟩ := trodAll_cons r1
  obtain ⟨rfl, rfl, rfl⟩ := trodAll_nil r2
  obtain rfl : args = #[v0, v1, v2] := by cases args; simp_all
  obtain ⟨rfl, rfl⟩ := trodVars_none hV
  have k0 := h0
  have lt0 : ∀ x ∈ p0, x.block < W.heap.size := by obtain ⟨m, hm⟩ := k0; exact DataW.trod_lt m _ _ _ hm
  have k1 := h1
  have lt1 : ∀ x ∈ p1, x.block < W.heap.size := by obtain ⟨m, hm⟩ := k1; exact DataW.trod_lt m _ _ _ hm
  have k2 := h2
  have lt2 : ∀ x ∈ p2, x.block < W.heap.size := by obtain ⟨m, hm⟩ := k2; exact DataW.trod_lt m _ _ _ hm
  obtain ⟨ns0, hnl0, rfl, rfl, rfl, w0⟩ := Open.open_int_array Try.underlying23 Try.underlying22 (by kernel_rfl) (by kernel_rfl) (hval 0 23 v0 rfl rfl) h0
  obtain ⟨s0, hsl0, hse0, hsw0⟩ := words_of ns0 w0
  obtain ⟨ss1, hsl1, rfl, rfl, rfl, w1⟩ := Open.open_string_array Try.underlying24 Try.underlying9 (by kernel_rfl) (by kernel_rfl) (hval 1 24 v1 rfl rfl) h1
  have z1 := Open.sized_string_array hsz (j := 1) (t := 24) (ss := ss1) rfl rfl Try.underlying24
  obtain ⟨s1a, s1b, s1c, rfl⟩ := three_of ss1 hsl1
  obtain ⟨ns2, hnl2, rfl, rfl, rfl, w2⟩ := Open.open_int_array Try.underlying25 Try.underlying3 (by kernel_rfl) (by kernel_rfl) (hval 2 25 v2 rfl rfl) h2
  obtain ⟨m2, n2, rfl⟩ := two_of ns2 hnl2
  clear hA0 hval0
  have hwk := walk s0 s1a s1b s1c m2 n2 W ⟨hsl0.trans hnl0, hsw0⟩ (z1 s1a (by simp)) (z1 s1b (by simp)) (z1 s1c (by simp))
  rw [← hse0] at hwk
  refine hwk.mono fun e W' ⟨he, bel⟩ => ?_
  subst he
  exact ⟨_, rfl, _, _, _, [], _, [], hW', trodAll_mk1 (shut_bool Try.underlying4 _), (trodAll_cons_mk (Below.trod laidOut (by kernel_rfl) (of_decide_eq_true (by kernel_rfl)) k0 bel lt0) (trodAll_cons_mk (Below.trod laidOut (by kernel_rfl) (of_decide_eq_true (by kernel_rfl)) k1 bel lt1) (trodAll_cons_mk (Below.trod laidOut (by kernel_rfl) (of_decide_eq_true (by kernel_rfl)) k2 bel lt2) trodAll_mk0))), rfl, bel.frame _, fun h => by cases h⟩

theorem over : Rows.streamSaysRow.holds Try.pinned (OpenSpec.ofChange Rows.streamSaysSpec) :=
  OpenClaim.holds_of_wide 3 Try.f3 rfl rfl rfl rfl rfl rfl rfl ⟨rfl, rfl, rfl, rfl, rfl⟩ rfl rfl rfl rfl rfl (by kernel_rfl) Try.func3 (by kernel_rfl)
    (of_decide_eq_true (by kernel_rfl)) (by unfold Func.isWrapper; first | (rw [if_pos (by decide +kernel)]; kernel_rfl) | (rw [if_neg (by decide +kernel)]; exact ⟨rfl, rfl⟩))
    (fun os started H enc _ => lifted os started H enc)

theorem proved : Rows.StreamSaysSaid := over
#print axioms proved
end Go.Proofs.Ytblheplpaiokkaa.LawSays
