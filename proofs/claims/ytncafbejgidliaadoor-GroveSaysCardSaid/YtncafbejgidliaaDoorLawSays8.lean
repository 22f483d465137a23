/-
  GroveSays: nodes, paths and climbs of any shapes and places are the document's: for every input, the law answers true and changes nothing that was there. Condition: the constant table lies as the program's text lays it (the card ties it).
-/
import Derived.Test.YtncafbejgidliaaDoorRGrvB
import Derived.Test.YtncafbejgidliaaDoorGrvAwake
import Derived.Test.YtncafbejgidliaaDoorConstFrame
import Derived.Test.YtncafbejgidliaaDoorBoxed
import Derived.Test.YtncafbejgidliaaDoorOpenP
import Derived.Test.YtncafbejgidliaaDoorCards
import Derived.Test.YtncafbejgidliaaDoorTie
import Derived.SevenTiedAt
namespace Go.Proofs.YtncafbejgidliaaDoor.LawSays8
open Go.ChangeShapes Go.WideShapes Go.ChangeAt Go.ChangeMaps Go.RowKit Mur Sha Chn Grv Go.Proofs.YtncafbejgidliaaDoor.Open
set_option maxRecDepth 100000

theorem node_both (n h hi pl : Int) (seed room : ByteArray) (hs : seed.size + room.size ≤ 400000) : ∃ V : ByteArray,
    (∀ u, Consts u → Calls Tryd.prog 8 #[.agg #[.int .i64 n, .int .i64 h], .string seed, .string room, .agg #[.int .i64 hi, .int .i64 pl]] u fun e w' => e = .returned (.string V) ∧ Below u.heap.size u w') ∧
    (∀ u, Calls Tryd.prog 9 #[.agg #[.int .i64 n, .int .i64 h], .string seed, .string room, .agg #[.int .i64 hi, .int .i64 pl]] u fun e w' => e = .returned (.string V) ∧ Below u.heap.size u w') := by
  by_cases hyes : Right n h ∧ 0 ≤ hi ∧ hi ≤ h ∧ 0 ≤ pl ∧ pl < 2 ^ (h - hi).toNat
  · obtain ⟨hr, h0, h1, h2, h3⟩ := hyes
    obtain ⟨N, rfl⟩ : ∃ N : Nat, n = (N : Int) := ⟨n.toNat, by have := hr.1; omega⟩
    obtain ⟨H, rfl⟩ : ∃ H : Nat, h = (H : Int) := ⟨h.toNat, by have := hr.2.2.1; omega⟩
    obtain ⟨z, rfl⟩ : ∃ z : Nat, hi = (z : Int) := ⟨hi.toNat, by omega⟩
    obtain ⟨a, rfl⟩ : ∃ a : Nat, pl = (a : Int) := ⟨pl.toNat, by omega⟩
    have ha : a < 2 ^ (H - z) := by
      rw [show ((H : Int) - (z : Int)).toNat = H - z by omega] at h3
      have h4 : ((a : Nat) : Int) < ((2 ^ (H - z) : Nat) : Int) := by rw [Int.natCast_pow]; exact h3
      exact Int.ofNat_lt.1 h4
    exact ⟨_, fun u hu => node_any N H z a seed room _ u hr (by omega) ha (by omega) rfl hu, fun u => RefGrv.node_any N H seed room hr hs z (by omega) a _ u ha rfl⟩
  · exact ⟨_, fun u _ => node_no n h hi pl seed room u hyes, fun u => RefGrv.node_no n h hi pl seed room u hyes⟩
theorem leaf_of (h lf : Int) (_ : 0 ≤ h) (h2 : 0 ≤ lf) (h3 : lf < 2 ^ h.toNat) : lf.toNat < 2 ^ h.toNat := by
  have h4 : ((lf.toNat : Nat) : Int) < ((2 ^ h.toNat : Nat) : Int) := by rw [Int.natCast_pow, Int.toNat_of_nonneg h2]; exact h3
  exact Int.ofNat_lt.1 h4
theorem path_both (n h pl : Int) (seed room : ByteArray) (hs : seed.size + room.size ≤ 400000) : ∃ V : ByteArray,
    (∀ u, Consts u → Calls Tryd.prog 10 #[.agg #[.int .i64 n, .int .i64 h], .string seed, .string room, .int .i64 pl] u fun e w' => e = .returned (.string V) ∧ Below u.heap.size u w') ∧
    (∀ u, Calls Tryd.prog 11 #[.agg #[.int .i64 n, .int .i64 h], .string seed, .string room, .int .i64 pl] u fun e w' => e = .returned (.string V) ∧ Below u.heap.size u w') := by
  by_cases hyes : Right n h ∧ 0 ≤ pl ∧ pl < 2 ^ h.toNat
  · obtain ⟨hr, h2, h3⟩ := hyes
    have ha := leaf_of h pl hr.2.2.1 h2 h3
    obtain ⟨N, rfl⟩ : ∃ N : Nat, n = (N : Int) := ⟨n.toNat, by have := hr.1; omega⟩
    obtain ⟨H, rfl⟩ : ∃ H : Nat, h = (H : Int) := ⟨h.toNat, by have := hr.2.2.1; omega⟩
    obtain ⟨a, rfl⟩ : ∃ a : Nat, pl = (a : Int) := ⟨pl.toNat, by omega⟩
    exact ⟨_, fun u hu => path_any N H a seed room _ u hr ha (by omega) rfl hu, fun u => RefGrv.path_any N H a seed room _ u hr ha hs rfl⟩
  · exact ⟨_, fun u _ => path_no n h pl seed room u hyes, fun u => RefGrv.path_no n h pl seed room u hyes⟩
theorem climb_both (n h pl : Int) (room nd pa : ByteArray) (hs : room.size + nd.size ≤ 400000) : ∃ V : ByteArray,
    (∀ u, Consts u → Calls Tryd.prog 12 #[.agg #[.int .i64 n, .int .i64 h], .string room, .int .i64 pl, .string nd, .string pa] u fun e w' => e = .returned (.string V) ∧ Below u.heap.size u w') ∧
    (∀ u, Calls Tryd.prog 13 #[.agg #[.int .i64 n, .int .i64 h], .string room, .int .i64 pl, .string nd, .string pa] u fun e w' => e = .returned (.string V) ∧ Below u.heap.size u w') := by
  by_cases hyes : Right n h ∧ 0 ≤ pl ∧ pl < 2 ^ h.toNat ∧ (pa.size : Int) = n * h
  · obtain ⟨hr, h2, h3, h4⟩ := hyes
    have ha := leaf_of h pl hr.2.2.1 h2 h3
    obtain ⟨N, rfl⟩ : ∃ N : Nat, n = (N : Int) := ⟨n.toNat, by have := hr.1; omega⟩
    obtain ⟨H, rfl⟩ : ∃ H : Nat, h = (H : Int) := ⟨h.toNat, by have := hr.2.2.1; omega⟩
    obtain ⟨a, rfl⟩ : ∃ a : Nat, pl = (a : Int) := ⟨pl.toNat, by omega⟩
    have hpa : pa.size = N * H := by rw [← Int.natCast_mul] at h4; exact Int.ofNat.inj h4
    exact ⟨_, fun u hu => climb_any N H a room nd pa _ u hr ha hpa (by omega) rfl hu, fun u => RefGrv.climb_any N H a room nd pa _ u hr ha hpa hs rfl⟩
  · exact ⟨_, fun u _ => climb_no n h pl room nd pa u hyes, fun u => RefGrv.climb_no n h pl room nd pa u hyes⟩

set_option maxHeartbeats 6400000 in
theorem law_small (n h hi pl : Int) (a b c d : ByteArray) (w : World) (hg : a.size + b.size + c.size + d.size ≤ 1500) (hn : n ≤ 4) (hh : h ≤ 3) (hk : Consts w) :
    Calls Tryd.prog 3 #[.agg #[.int .i64 n, .int .i64 h], .agg #[.int .i64 hi, .int .i64 pl], .agg #[.string a, .string b, .string c, .string d]] w
      fun e w' => e = .returned (.bool true) ∧ Below w.heap.size w w' := by
  have hd1 : decide (1500 < (a.size : Int) + (b.size : Int) + (c.size : Int) + (d.size : Int)) = false := by simp; omega
  have hd2 : decide (4 < n) = false := by simp; omega
  have hd3 : decide (3 < h) = false := by simp; omega
  obtain ⟨VN, hn1, hn2⟩ := node_both n h hi pl a b (by omega)
  obtain ⟨VP, hp1, hp2⟩ := path_both n h pl a b (by omega)
  obtain ⟨VC, hc1, hc2⟩ := climb_both n h pl b c d (by omega)
  have HN1 := Lib.hid hn1
  have HN2 := Lib.hid hn2
  have HP1 := Lib.hid hp1
  have HP2 := Lib.hid hp2
  have HC1 := Lib.hid hc1
  have HC2 := Lib.hid hc2
  have RA := Lib.hid (fun u hu => awake_any u hu)
  clear hn1 hn2 hp1 hp2 hc1 hc2
  have hB0 := (((Below.refl w.heap.size w).alloc (Nat.le_refl _) (.cells #[.int .i64 n, .int .i64 h] 23)).alloc (by simp) (.cells #[.int .i64 hi, .int .i64 pl] 24)).alloc (by simp <;> omega) (.cells #[.string a, .string b, .string c, .string d] 25)
  obtain ⟨hlt, hA, hB, hC⟩ := Boxed.cells_three w #[.int .i64 n, .int .i64 h] #[.int .i64 hi, .int .i64 pl] #[.string a, .string b, .string c, .string d] 23 24 25
  have k0 := hA 0 _ rfl
  have k1 := hA 1 _ rfl
  have k2 := hB 0 _ rfl
  have k3 := hB 1 _ rfl
  have k4 := hC 0 _ rfl
  have k5 := hC 1 _ rfl
  have k6 := hC 2 _ rfl
  have k7 := hC 3 _ rfl
  clear hA hB hC
  go_enter Tryd.func3, Tryd.ntmps3
  go_upto_region 1 with (fail)
  generalize (((w.alloc (.cells #[.int .i64 n, .int .i64 h] 23)).alloc (.cells #[.int .i64 hi, .int .i64 pl] 24)).alloc (.cells #[.string a, .string b, .string c, .string d] 25)) = wz at *
  have hl0 : w.heap.size < wz.heap.size := by omega
  have hl1 : w.heap.size + 1 < wz.heap.size := by omega
  have HC := Lib.hid (fun (u : World) (q : Below wz.heap.size wz u) => (⟨(q.cell (p := ⟨w.heap.size, 0, none⟩) hl0).trans k0, (q.cell (p := ⟨w.heap.size, 1, none⟩) hl0).trans k1, (q.cell (p := ⟨w.heap.size + 1, 0, none⟩) hl1).trans k2, (q.cell (p := ⟨w.heap.size + 1, 1, none⟩) hl1).trans k3, (q.cell (p := ⟨w.heap.size + 2, 0, none⟩) hlt).trans k4, (q.cell (p := ⟨w.heap.size + 2, 1, none⟩) hlt).trans k5, (q.cell (p := ⟨w.heap.size + 2, 2, none⟩) hlt).trans k6, (q.cell (p := ⟨w.heap.size + 2, 3, none⟩) hlt).trans k7, hk.below hk.1 (hB0.trans (q.mono (Nat.le_of_lt hl0)))⟩ :
    u.cell? ⟨w.heap.size, 0, none⟩ = some (.int .i64 n) ∧ u.cell? ⟨w.heap.size, 1, none⟩ = some (.int .i64 h) ∧ u.cell? ⟨w.heap.size + 1, 0, none⟩ = some (.int .i64 hi) ∧ u.cell? ⟨w.heap.size + 1, 1, none⟩ = some (.int .i64 pl) ∧ u.cell? ⟨w.heap.size + 2, 0, none⟩ = some (.string a) ∧ u.cell? ⟨w.heap.size + 2, 1, none⟩ = some (.string b) ∧ u.cell? ⟨w.heap.size + 2, 2, none⟩ = some (.string c) ∧ u.cell? ⟨w.heap.size + 2, 3, none⟩ = some (.string d) ∧ Consts u))
  have HB0 := Lib.hid hB0
  have HL0 := Lib.hid hl0
  clear hB0 hlt hl0 hl1 hk
  go_upto_region 3 with (fail)
  clear k0 k1 k2 k3 k4 k5 k6 k7 hd1 hd2 hd3
  have S1 := Lib.hid (fun (u : World) (q : Below wz.heap.size wz u) => HN1.out u (HC.out u q).2.2.2.2.2.2.2.2)
  have S3 := Lib.hid (fun (u : World) (q : Below wz.heap.size wz u) => HP1.out u (HC.out u q).2.2.2.2.2.2.2.2)
  have S5 := Lib.hid (fun (u : World) (q : Below wz.heap.size wz u) => HC1.out u (HC.out u q).2.2.2.2.2.2.2.2)
  have SA := Lib.hid (fun (u : World) (q : Below wz.heap.size wz u) => RA.out u (HC.out u q).2.2.2.2.2.2.2.2)
  refine Steady.region 60 (by kernel_rfl) (by kernel_rfl) (fun u => Below wz.heap.size wz u) ((Below.refl _ _).drew) ?_
  simp only [List.take_succ_cons, List.take_zero, List.drop_succ_cons, List.drop_zero]
  refine Steady.take ?_ rfl (by intro u hu; obtain ⟨s0, s1, p0, p1, t0, t1, t2, t3, -⟩ := HC.out u hu; go_simp; with_reducible rfl) ?_
  simp only [Act.put, List.setIfInBounds_toArray, List.set_cons_zero, List.set_cons_succ]
  refine Steady.take ?_ rfl (by intro u hu; go_simp; with_reducible rfl) ?_
  simp only [Act.put, List.setIfInBounds_toArray, List.set_cons_zero, List.set_cons_succ]
  refine Steady.take ?_ rfl (by intro u hu; obtain ⟨s0, s1, p0, p1, t0, t1, t2, t3, -⟩ := HC.out u hu; go_simp; with_reducible rfl) ?_
  simp only [Act.put, List.setIfInBounds_toArray, List.set_cons_zero, List.set_cons_succ]
  refine Steady.take ?_ rfl (by intro u hu; go_simp; with_reducible rfl) ?_
  simp only [Act.put, List.setIfInBounds_toArray, List.set_cons_zero, List.set_cons_succ]
  refine Steady.take ?_ rfl (by intro u hu; obtain ⟨s0, s1, p0, p1, t0, t1, t2, t3, -⟩ := HC.out u hu; go_simp; with_reducible rfl) ?_
  simp only [Act.put, List.setIfInBounds_toArray, List.set_cons_zero, List.set_cons_succ]
  refine Steady.take ?_ rfl (by intro u hu; obtain ⟨s0, s1, p0, p1, t0, t1, t2, t3, -⟩ := HC.out u hu; go_simp; with_reducible rfl) ?_
  simp only [Act.put, List.setIfInBounds_toArray, List.set_cons_zero, List.set_cons_succ]
  refine Steady.call _ _ _ rfl ?_ (keptIf S1.out) ?_
  · intro u
    go_simp
  simp only [Act.put, List.setIfInBounds_toArray, List.set_cons_zero, List.set_cons_succ]
  refine Steady.take ?_ rfl (by intro u hu; obtain ⟨s0, s1, p0, p1, t0, t1, t2, t3, -⟩ := HC.out u hu; go_simp; with_reducible rfl) ?_
  simp only [Act.put, List.setIfInBounds_toArray, List.set_cons_zero, List.set_cons_succ]
  refine Steady.take ?_ rfl (by intro u hu; go_simp; with_reducible rfl) ?_
  simp only [Act.put, List.setIfInBounds_toArray, List.set_cons_zero, List.set_cons_succ]
  refine Steady.take ?_ rfl (by intro u hu; obtain ⟨s0, s1, p0, p1, t0, t1, t2, t3, -⟩ := HC.out u hu; go_simp; with_reducible rfl) ?_
  simp only [Act.put, List.setIfInBounds_toArray, List.set_cons_zero, List.set_cons_succ]
  refine Steady.take ?_ rfl (by intro u hu; go_simp; with_reducible rfl) ?_
  simp only [Act.put, List.setIfInBounds_toArray, List.set_cons_zero, List.set_cons_succ]
  refine Steady.take ?_ rfl (by intro u hu; obtain ⟨s0, s1, p0, p1, t0, t1, t2, t3, -⟩ := HC.out u hu; go_simp; with_reducible rfl) ?_
  simp only [Act.put, List.setIfInBounds_toArray, List.set_cons_zero, List.set_cons_succ]
  refine Steady.take ?_ rfl (by intro u hu; obtain ⟨s0, s1, p0, p1, t0, t1, t2, t3, -⟩ := HC.out u hu; go_simp; with_reducible rfl) ?_
  simp only [Act.put, List.setIfInBounds_toArray, List.set_cons_zero, List.set_cons_succ]
  refine Steady.call _ _ _ rfl ?_ (Steady.kept HN2.out) ?_
  · intro u
    go_simp
  simp only [Act.put, List.setIfInBounds_toArray, List.set_cons_zero, List.set_cons_succ]
  refine Steady.take ?_ rfl (by intro u hu; go_simp; with_reducible rfl) ?_
  simp only [Act.put, List.setIfInBounds_toArray, List.set_cons_zero, List.set_cons_succ]
  refine Steady.take ?_ rfl (by intro u hu; go_simp; with_reducible rfl) ?_
  simp only [Act.put, List.setIfInBounds_toArray, List.set_cons_zero, List.set_cons_succ]
  refine Steady.take ?_ rfl (by intro u hu; obtain ⟨s0, s1, p0, p1, t0, t1, t2, t3, -⟩ := HC.out u hu; go_simp; with_reducible rfl) ?_
  simp only [Act.put, List.setIfInBounds_toArray, List.set_cons_zero, List.set_cons_succ]
  refine Steady.take ?_ rfl (by intro u hu; go_simp; with_reducible rfl) ?_
  simp only [Act.put, List.setIfInBounds_toArray, List.set_cons_zero, List.set_cons_succ]
  refine Steady.take ?_ rfl (by intro u hu; obtain ⟨s0, s1, p0, p1, t0, t1, t2, t3, -⟩ := HC.out u hu; go_simp; with_reducible rfl) ?_
  simp only [Act.put, List.setIfInBounds_toArray, List.set_cons_zero, List.set_cons_succ]
  refine Steady.take ?_ rfl (by intro u hu; go_simp; with_reducible rfl) ?_
  simp only [Act.put, List.setIfInBounds_toArray, List.set_cons_zero, List.set_cons_succ]
  refine Steady.take ?_ rfl (by intro u hu; obtain ⟨s0, s1, p0, p1, t0, t1, t2, t3, -⟩ := HC.out u hu; go_simp; with_reducible rfl) ?_
  simp only [Act.put, List.setIfInBounds_toArray, List.set_cons_zero, List.set_cons_succ]
  refine Steady.take ?_ rfl (by intro u hu; go_simp; with_reducible rfl) ?_
  simp only [Act.put, List.setIfInBounds_toArray, List.set_cons_zero, List.set_cons_succ]
  refine Steady.take ?_ rfl (by intro u hu; obtain ⟨s0, s1, p0, p1, t0, t1, t2, t3, -⟩ := HC.out u hu; go_simp; with_reducible rfl) ?_
  simp only [Act.put, List.setIfInBounds_toArray, List.set_cons_zero, List.set_cons_succ]
  refine Steady.call _ _ _ rfl ?_ (keptIf S3.out) ?_
  · intro u
    go_simp
  simp only [Act.put, List.setIfInBounds_toArray, List.set_cons_zero, List.set_cons_succ]
  refine Steady.take ?_ rfl (by intro u hu; obtain ⟨s0, s1, p0, p1, t0, t1, t2, t3, -⟩ := HC.out u hu; go_simp; with_reducible rfl) ?_
  simp only [Act.put, List.setIfInBounds_toArray, List.set_cons_zero, List.set_cons_succ]
  refine Steady.take ?_ rfl (by intro u hu; go_simp; with_reducible rfl) ?_
  simp only [Act.put, List.setIfInBounds_toArray, List.set_cons_zero, List.set_cons_succ]
  refine Steady.take ?_ rfl (by intro u hu; obtain ⟨s0, s1, p0, p1, t0, t1, t2, t3, -⟩ := HC.out u hu; go_simp; with_reducible rfl) ?_
  simp only [Act.put, List.setIfInBounds_toArray, List.set_cons_zero, List.set_cons_succ]
  refine Steady.take ?_ rfl (by intro u hu; go_simp; with_reducible rfl) ?_
  simp only [Act.put, List.setIfInBounds_toArray, List.set_cons_zero, List.set_cons_succ]
  refine Steady.take ?_ rfl (by intro u hu; obtain ⟨s0, s1, p0, p1, t0, t1, t2, t3, -⟩ := HC.out u hu; go_simp; with_reducible rfl) ?_
  simp only [Act.put, List.setIfInBounds_toArray, List.set_cons_zero, List.set_cons_succ]
  refine Steady.take ?_ rfl (by intro u hu; go_simp; with_reducible rfl) ?_
  simp only [Act.put, List.setIfInBounds_toArray, List.set_cons_zero, List.set_cons_succ]
  refine Steady.take ?_ rfl (by intro u hu; obtain ⟨s0, s1, p0, p1, t0, t1, t2, t3, -⟩ := HC.out u hu; go_simp; with_reducible rfl) ?_
  simp only [Act.put, List.setIfInBounds_toArray, List.set_cons_zero, List.set_cons_succ]
  refine Steady.call _ _ _ rfl ?_ (Steady.kept HP2.out) ?_
  · intro u
    go_simp
  simp only [Act.put, List.setIfInBounds_toArray, List.set_cons_zero, List.set_cons_succ]
  refine Steady.take ?_ rfl (by intro u hu; go_simp; with_reducible rfl) ?_
  simp only [Act.put, List.setIfInBounds_toArray, List.set_cons_zero, List.set_cons_succ]
  refine Steady.take ?_ rfl (by intro u hu; go_simp; with_reducible rfl) ?_
  simp only [Act.put, List.setIfInBounds_toArray, List.set_cons_zero, List.set_cons_succ]
  refine Steady.take ?_ rfl (by intro u hu; go_simp; with_reducible rfl) ?_
  simp only [Act.put, List.setIfInBounds_toArray, List.set_cons_zero, List.set_cons_succ]
  refine Steady.take ?_ rfl (by intro u hu; obtain ⟨s0, s1, p0, p1, t0, t1, t2, t3, -⟩ := HC.out u hu; go_simp; with_reducible rfl) ?_
  simp only [Act.put, List.setIfInBounds_toArray, List.set_cons_zero, List.set_cons_succ]
  refine Steady.take ?_ rfl (by intro u hu; go_simp; with_reducible rfl) ?_
  simp only [Act.put, List.setIfInBounds_toArray, List.set_cons_zero, List.set_cons_succ]
  refine Steady.take ?_ rfl (by intro u hu; obtain ⟨s0, s1, p0, p1, t0, t1, t2, t3, -⟩ := HC.out u hu; go_simp; with_reducible rfl) ?_
  simp only [Act.put, List.setIfInBounds_toArray, List.set_cons_zero, List.set_cons_succ]
  refine Steady.take ?_ rfl (by intro u hu; go_simp; with_reducible rfl) ?_
  simp only [Act.put, List.setIfInBounds_toArray, List.set_cons_zero, List.set_cons_succ]
  refine Steady.take ?_ rfl (by intro u hu; obtain ⟨s0, s1, p0, p1, t0, t1, t2, t3, -⟩ := HC.out u hu; go_simp; with_reducible rfl) ?_
  simp only [Act.put, List.setIfInBounds_toArray, List.set_cons_zero, List.set_cons_succ]
  refine Steady.take ?_ rfl (by intro u hu; go_simp; with_reducible rfl) ?_
  simp only [Act.put, List.setIfInBounds_toArray, List.set_cons_zero, List.set_cons_succ]
  refine Steady.take ?_ rfl (by intro u hu; obtain ⟨s0, s1, p0, p1, t0, t1, t2, t3, -⟩ := HC.out u hu; go_simp; with_reducible rfl) ?_
  simp only [Act.put, List.setIfInBounds_toArray, List.set_cons_zero, List.set_cons_succ]
  refine Steady.take ?_ rfl (by intro u hu; go_simp; with_reducible rfl) ?_
  simp only [Act.put, List.setIfInBounds_toArray, List.set_cons_zero, List.set_cons_succ]
  refine Steady.take ?_ rfl (by intro u hu; obtain ⟨s0, s1, p0, p1, t0, t1, t2, t3, -⟩ := HC.out u hu; go_simp; with_reducible rfl) ?_
  simp only [Act.put, List.setIfInBounds_toArray, List.set_cons_zero, List.set_cons_succ]
  refine Steady.call _ _ _ rfl ?_ (keptIf S5.out) ?_
  · intro u
    go_simp
  simp only [Act.put, List.setIfInBounds_toArray, List.set_cons_zero, List.set_cons_succ]
  refine Steady.take ?_ rfl (by intro u hu; obtain ⟨s0, s1, p0, p1, t0, t1, t2, t3, -⟩ := HC.out u hu; go_simp; with_reducible rfl) ?_
  simp only [Act.put, List.setIfInBounds_toArray, List.set_cons_zero, List.set_cons_succ]
  refine Steady.take ?_ rfl (by intro u hu; go_simp; with_reducible rfl) ?_
  simp only [Act.put, List.setIfInBounds_toArray, List.set_cons_zero, List.set_cons_succ]
  refine Steady.take ?_ rfl (by intro u hu; obtain ⟨s0, s1, p0, p1, t0, t1, t2, t3, -⟩ := HC.out u hu; go_simp; with_reducible rfl) ?_
  simp only [Act.put, List.setIfInBounds_toArray, List.set_cons_zero, List.set_cons_succ]
  refine Steady.take ?_ rfl (by intro u hu; go_simp; with_reducible rfl) ?_
  simp only [Act.put, List.setIfInBounds_toArray, List.set_cons_zero, List.set_cons_succ]
  refine Steady.take ?_ rfl (by intro u hu; obtain ⟨s0, s1, p0, p1, t0, t1, t2, t3, -⟩ := HC.out u hu; go_simp; with_reducible rfl) ?_
  simp only [Act.put, List.setIfInBounds_toArray, List.set_cons_zero, List.set_cons_succ]
  refine Steady.take ?_ rfl (by intro u hu; go_simp; with_reducible rfl) ?_
  simp only [Act.put, List.setIfInBounds_toArray, List.set_cons_zero, List.set_cons_succ]
  refine Steady.take ?_ rfl (by intro u hu; obtain ⟨s0, s1, p0, p1, t0, t1, t2, t3, -⟩ := HC.out u hu; go_simp; with_reducible rfl) ?_
  simp only [Act.put, List.setIfInBounds_toArray, List.set_cons_zero, List.set_cons_succ]
  refine Steady.take ?_ rfl (by intro u hu; go_simp; with_reducible rfl) ?_
  simp only [Act.put, List.setIfInBounds_toArray, List.set_cons_zero, List.set_cons_succ]
  refine Steady.take ?_ rfl (by intro u hu; obtain ⟨s0, s1, p0, p1, t0, t1, t2, t3, -⟩ := HC.out u hu; go_simp; with_reducible rfl) ?_
  simp only [Act.put, List.setIfInBounds_toArray, List.set_cons_zero, List.set_cons_succ]
  refine Steady.call _ _ _ rfl ?_ (Steady.kept HC2.out) ?_
  · intro u
    go_simp
  simp only [Act.put, List.setIfInBounds_toArray, List.set_cons_zero, List.set_cons_succ]
  refine Steady.take ?_ rfl (by intro u hu; go_simp; with_reducible rfl) ?_
  simp only [Act.put, List.setIfInBounds_toArray, List.set_cons_zero, List.set_cons_succ]
  refine Steady.take ?_ rfl (by intro u hu; go_simp; with_reducible rfl) ?_
  simp only [Act.put, List.setIfInBounds_toArray, List.set_cons_zero, List.set_cons_succ]
  refine Steady.take ?_ rfl (by intro u hu; go_simp; with_reducible rfl) ?_
  simp only [Act.put, List.setIfInBounds_toArray, List.set_cons_zero, List.set_cons_succ]
  refine Steady.call _ _ _ rfl ?_ (keptIf SA.out) ?_
  · intro u
    go_simp
  simp only [Act.put, List.setIfInBounds_toArray, List.set_cons_zero, List.set_cons_succ]
  refine Steady.take ?_ rfl (by intro u hu; go_simp; with_reducible rfl) ?_
  simp only [Act.put, List.setIfInBounds_toArray, List.set_cons_zero, List.set_cons_succ]
  refine Steady.nil ?_
  intro w5 hb5
  have HB5 := Lib.hid (HB0.out.trans (hb5.mono (Nat.le_of_lt HL0.out)))
  clear hb5
  go_wp2
  go_ret
  exact ⟨rfl, HB5.out⟩

set_option maxHeartbeats 3200000 in
theorem law_great (n h hi pl : Int) (a b c d : ByteArray) (w : World) (hg : ¬ (a.size + b.size + c.size + d.size ≤ 1500 ∧ n ≤ 4 ∧ h ≤ 3)) (h1 : a.size ≤ 140737488351232) (h2 : b.size ≤ 140737488351232) (h3 : c.size ≤ 140737488351232) (h4 : d.size ≤ 140737488351232) (hk : Consts w) :
    Calls Tryd.prog 3 #[.agg #[.int .i64 n, .int .i64 h], .agg #[.int .i64 hi, .int .i64 pl], .agg #[.string a, .string b, .string c, .string d]] w
      fun e w' => e = .returned (.bool true) ∧ Below w.heap.size w w' := by
  have RA := Lib.hid (fun u hu => awake_any u hu)
  have hB0 := (((Below.refl w.heap.size w).alloc (Nat.le_refl _) (.cells #[.int .i64 n, .int .i64 h] 23)).alloc (by simp) (.cells #[.int .i64 hi, .int .i64 pl] 24)).alloc (by simp <;> omega) (.cells #[.string a, .string b, .string c, .string d] 25)
  obtain ⟨hlt, hA, hB, hC⟩ := Boxed.cells_three w #[.int .i64 n, .int .i64 h] #[.int .i64 hi, .int .i64 pl] #[.string a, .string b, .string c, .string d] 23 24 25
  have k0 := hA 0 _ rfl
  have k1 := hA 1 _ rfl
  have k4 := hC 0 _ rfl
  have k5 := hC 1 _ rfl
  have k6 := hC 2 _ rfl
  have k7 := hC 3 _ rfl
  clear hA hB hC
  have HK := Lib.hid (hk.below hk.1 hB0)
  have HB := Lib.hid hB0
  clear hk hB0
  go_enter Tryd.func3, Tryd.ntmps3
  go_upto_region 1 with (fail)
  generalize (((w.alloc (.cells #[.int .i64 n, .int .i64 h] 23)).alloc (.cells #[.int .i64 hi, .int .i64 pl] 24)).alloc (.cells #[.string a, .string b, .string c, .string d] 25)) = wz at *
  clear hlt
  by_cases g1 : a.size + b.size + c.size + d.size ≤ 1500
  · have hd1 : decide (1500 < (a.size : Int) + (b.size : Int) + (c.size : Int) + (d.size : Int)) = false := by simp; omega
    by_cases g2 : n ≤ 4
    · have hd2 : decide (4 < n) = false := by simp; omega
      have hd3 : decide (3 < h) = true := by simp; omega
      clear hg
      go_wp2_with fail
      refine (RA.out _ HK.out).mono ?_
      rintro e w1 ⟨rfl, hb1⟩
      have HB1 := Lib.hid (HB.out.trans (hb1.mono HB.out.size))
      clear hb1
      go_wp2
      go_ret
      exact ⟨rfl, HB1.out⟩
    · have hd2 : decide (4 < n) = true := by simp; omega
      clear hg
      go_wp2_with fail
      refine (RA.out _ HK.out).mono ?_
      rintro e w1 ⟨rfl, hb1⟩
      have HB1 := Lib.hid (HB.out.trans (hb1.mono HB.out.size))
      clear hb1
      go_wp2
      go_ret
      exact ⟨rfl, HB1.out⟩
  · have hd1 : decide (1500 < (a.size : Int) + (b.size : Int) + (c.size : Int) + (d.size : Int)) = true := by simp; omega
    clear hg
    go_wp2_with fail
    refine (RA.out _ HK.out).mono ?_
    rintro e w1 ⟨rfl, hb1⟩
    have HB1 := Lib.hid (HB.out.trans (hb1.mono HB.out.size))
    clear hb1
    go_wp2
    go_ret
    exact ⟨rfl, HB1.out⟩

theorem walk (n h hi pl : Int) (a b c d : ByteArray) (w : World) (h1 : a.size ≤ 140737488351232) (h2 : b.size ≤ 140737488351232) (h3 : c.size ≤ 140737488351232) (h4 : d.size ≤ 140737488351232) (hk : Consts w) :
    Calls Tryd.prog 3 #[.agg #[.int .i64 n, .int .i64 h], .agg #[.int .i64 hi, .int .i64 pl], .agg #[.string a, .string b, .string c, .string d]] w
      fun e w' => e = .returned (.bool true) ∧ Below w.heap.size w w' := by
  by_cases hg : a.size + b.size + c.size + d.size ≤ 1500 ∧ n ≤ 4 ∧ h ≤ 3
  · exact law_small n h hi pl a b c d w hg.1 hg.2.1 hg.2.2 hk
  · exact law_great n h hi pl a b c d w hg h1 h2 h3 h4 hk

theorem two_of {α : Type} (l : List α) (h : l.length = 2) : ∃ a b, l = [a, b] := by
  match l, h with
  | [a, b], _ => exact ⟨a, b, rfl⟩
theorem four_of {α : Type} (l : List α) (h : l.length = 4) : ∃ a b c d, l = [a, b, c, d] := by
  match l, h with
  | [a, b, c, d], _ => exact ⟨a, b, c, d, rfl⟩
theorem laidOut : laidOutB Tryd.prog = true := by kernel_rfl

set_option maxRecDepth 100000 in
theorem lifted (os : Os) (started : os.Started) (H : Type) (enc : TypeId × Value → H) :
    ReturnsInHanded {} Tryd.checked os 3 .any (fun w args => (Rows.groveSaysSpec.pre enc Tryd.prog Tryd.f3 [] false w args ∧ laidMetH Tryd.prog laidL w) ∧ sizedMet enc Tryd.prog Tryd.f3 (OpenSpec.ofChange Rows.groveSaysSpec) false w args)
      (Rows.groveSaysSpec.post enc Tryd.prog Tryd.f3 false true false false) := by
  refine returnsInHanded_of_change_and (C := Tryd.checked) (X := fun w _ => laidMetH Tryd.prog laidL w) (fun _ _ _ hh h => h.of_heap hh) own started (by kernel_rfl) Tryd.func3
    (ChangeSpec.witness_shaped (enc := enc) (C := Tryd.checked) (os := os) (X := fun w _ => laidMetH Tryd.prog laidL w) false (World.doorLaid Tryd.prog 400 os) #[.agg #[.int .i64 0, .int .i64 0], .agg #[.int .i64 0, .int .i64 0], .agg #[.string ByteArray.empty, .string ByteArray.empty, .string ByteArray.empty, .string ByteArray.empty]] 8 rfl (World.shaped_of_RefB (by kernel_rfl) (by kernel_rfl)) (by kernel_rfl) (by kernel_rfl) (by kernel_rfl) (door_met os _)) ?_
  intro W base args ds gs before hval0 hW _ hsz0 hL _
  have hval : ∀ (j : Nat) t v, Tryd.f3.params[j]? = some t → args[j]? = some v → Value.okWide Tryd.prog W .any base t v := hval0
  have hsz : (DataW.weightsEach Tryd.prog (Tryd.f3.params.toList ++ Rows.groveSaysSpec.plain.varTypes Tryd.prog) (ds ++ gs)).all (· ≤ reachBytes) = true := hsz0
  clear hsz0
  have hW' := hW
  obtain ⟨p, q, hA0, hV, rfl, hfz, hnd⟩ := hW
  have hA : DataW.TrodAll enc Tryd.prog W 0 (fun _ => true) true Tryd.f3.params.toList args.toList ds p := hA0
  rw [Tryd.params3] at hA hval hsz
  obtain ⟨v0, vs0, d0, ds0, p0, q0, hargs, rfl, rfl, h0, r0⟩ := trodAll_cons hA
  obtain ⟨v1, vs1, d1, ds1, p1, q1, rfl, rfl, rfl, h1, r1⟩ := trodAll_cons r0
  obtain ⟨v2, vs2, d2, ds2, p2, q2, rfl, rfl, rfl, h2, r2⟩ := trodAll_cons r1
  obtain ⟨rfl, rfl, rfl⟩ := trodAll_nil r2
  obtain rfl : args = #[v0, v1, v2] := by cases args; simp_all
  obtain ⟨rfl, rfl⟩ := trodVars_none hV
  have k0 := h0
  have lt0 : ∀ x ∈ p0, x.block < W.heap.size := by obtain ⟨m, hm⟩ := k0; exact DataW.trod_lt m _ _ _ hm
  have k1 := h1
  have lt1 : ∀ x ∈ p1, x.block < W.heap.size := by obtain ⟨m, hm⟩ := k1; exact DataW.trod_lt m _ _ _ hm
  have k2 := h2
  have lt2 : ∀ x ∈ p2, x.block < W.heap.size := by obtain ⟨m, hm⟩ := k2; exact DataW.trod_lt m _ _ _ hm
  obtain ⟨a0, b0, rfl, rfl, rfl, w0⟩ := open_shape (hval 0 23 v0 rfl rfl) h0
  obtain ⟨ns1, hnl1, rfl, rfl, rfl, w1⟩ := Open.open_int_array Tryd.underlying24 Tryd.underlying3 (by kernel_rfl) (by kernel_rfl) (hval 1 24 v1 rfl rfl) h1
  obtain ⟨m1a, m1b, rfl⟩ := two_of ns1 hnl1
  obtain ⟨ss2, hsl2, rfl, rfl, rfl, w2⟩ := Open.open_string_array Tryd.underlying25 Tryd.underlying9 (by kernel_rfl) (by kernel_rfl) (hval 2 25 v2 rfl rfl) h2
  have z2 := Open.sized_string_array hsz (j := 2) (t := 25) (ss := ss2) rfl rfl Tryd.underlying25
  obtain ⟨s2a, s2b, s2c, s2d, rfl⟩ := four_of ss2 hsl2
  have hcl := of_laid hL
  clear hA0 hval0
  refine (walk a0 b0 m1a m1b s2a s2b s2c s2d W (z2 s2a (by simp)) (z2 s2b (by simp)) (z2 s2c (by simp)) (z2 s2d (by simp)) hcl).mono fun e W' ⟨he, bel⟩ => ?_
  subst he
  exact ⟨_, rfl, _, _, _, [], _, [], hW', trodAll_mk1 (shut_bool Tryd.underlying4 _), (trodAll_cons_mk (Below.trod laidOut (by kernel_rfl) (of_decide_eq_true (by kernel_rfl)) k0 bel lt0) (trodAll_cons_mk (Below.trod laidOut (by kernel_rfl) (of_decide_eq_true (by kernel_rfl)) k1 bel lt1) (trodAll_cons_mk (Below.trod laidOut (by kernel_rfl) (of_decide_eq_true (by kernel_rfl)) k2 bel lt2) trodAll_mk0))), rfl, bel.frame _, fun h => by cases h⟩

theorem over : Rows.GroveSaysSaid :=
  OpenClaim.holds_of_wide 3 Tryd.f3 rfl rfl rfl rfl rfl rfl rfl ⟨rfl, rfl, rfl, rfl, rfl⟩ rfl rfl rfl rfl rfl (by kernel_rfl) Tryd.func3 (by kernel_rfl)
    (of_decide_eq_true (by kernel_rfl)) (by unfold Func.isWrapper; first | (rw [if_pos (by decide +kernel)]; kernel_rfl) | (rw [if_neg (by decide +kernel)]; exact ⟨rfl, rfl⟩))
    (fun os started H enc _ => lifted os started H enc)

theorem proved : Rows.GroveSaysCardSaid :=
  Claim7.holds_tied_plain_at .later [] [.data] true Rows.groveSaysCard.stood.harness false
    over (fun _ h => by cases h) (by kernel_rfl) (fun _ h => by cases h) groveSays_row_tie rfl ⟨rfl, rfl⟩ (by kernel_rfl) rfl
    (fun f fn hf hfn => by
      obtain rfl : f = 3 := Option.some.inj ((show Tryd.prog.funcNamed "murmur/murmurlaw08.GroveSays" = some 3 by kernel_rfl).symm.trans hf) |>.symm
      obtain rfl : fn = Tryd.f3 := (Option.some.inj (Tryd.func3.symm.trans hfn)).symm
      exact ⟨by kernel_rfl, fun j t ht => by
        rw [Tryd.params3] at ht
        have hm : t ∈ [23, 24, 25] := by simpa using Array.mem_of_getElem? ht
        have hall : ([23, 24, 25].all fun u => !Tryd.prog.wantsStandIn u) = true := by kernel_rfl
        exact (show Tryd.prog.wantsStandIn t = false by simpa using List.all_eq_true.1 hall t hm)⟩)
    (by kernel_rfl)
#print axioms proved
end Go.Proofs.YtncafbejgidliaaDoor.LawSays8
