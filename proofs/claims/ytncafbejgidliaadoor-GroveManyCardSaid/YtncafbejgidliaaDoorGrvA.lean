/-
  among of package grove answers whether a number is one of 2 to the power of another, and leaves all memory as it was. Condition: the power is at most 62.
-/
import Derived.Test.YtncafbejgidliaaDoorGrv
import Derived.Test.YtncafbejgidliaaDoorChnLeaf
namespace Go.Proofs.YtncafbejgidliaaDoor.Grv
open Go.RowKit Mur Sha Chn
set_option maxRecDepth 100000

theorem pow_small (k : Nat) (h : k ≤ 62) : (2 : Int) ^ k ≤ 4611686018427387904 := by
  have h2 : 2 ^ k ≤ 2 ^ 62 := Nat.pow_le_pow_right (by omega) h
  have h3 : ((2 ^ k : Nat) : Int) ≤ ((2 ^ 62 : Nat) : Int) := Int.ofNat_le.2 h2
  rw [Int.natCast_pow] at h3
  exact h3
theorem pow_pos' (k : Nat) : (0 : Int) < 2 ^ k := Int.pow_pos (by omega)

theorem among_any (n : Int) (k : Nat) (hk : k ≤ 62) (w : World) :
    Calls Tryd.prog 20 #[.int .i64 n, .int .i64 (k : Int)] w fun e w' => e = .returned (.bool (decide (0 ≤ n ∧ n < 2 ^ k))) ∧ Below w.heap.size w w' := by
  have h1 := pow_small k hk
  have h2 := pow_pos' k
  have e : decide (0 ≤ n ∧ n < 2 ^ k) = (decide (0 ≤ n) && decide (n < 2 ^ k)) := by
    rw [Bool.eq_iff_iff]
    simp
  rw [e]
  clear e
  go_enter Tryd.func20, Tryd.ntmps20
  by_cases hn : 0 ≤ n
  · rw [decide_eq_true hn]
    go_wp2
    go_ret
    exact ⟨rfl, Below.refl _ _⟩
  · rw [decide_eq_false hn]
    go_wp2
    go_ret
    exact ⟨rfl, Below.refl _ _⟩

/-- lanes.High of a small number. -/
theorem num_small (n wd : Nat) (M : ByteArray) (w : World) (hn : n < 9223372036854775808) (hwd : wd ≤ 64) (hM : M = tx (num (n : Int) wd)) :
    Calls Tryd.prog 45 #[.int .u64 (n : Int), .int .i64 (wd : Int)] w fun e w' => e = .returned (.string M) ∧ Below w.heap.size w w' := by
  have hl : low64 (n : Int) = n := by unfold low64; omega
  have R1 := Lanes.high_any n (wd : Int) w (by omega) (by omega) (by omega)
  have ew : Lanes.widthOf (wd : Int) = wd := by unfold Lanes.widthOf; omega
  rw [ew] at R1
  rw [hM, num, hl]
  exact R1

theorem parts_five (a0 a1 a2 a3 a4 : ByteArray) (b : Nat) (D : ByteArray) (w : World) (hs : a0.size + a1.size + a2.size + a3.size + a4.size ≤ 1099511627776) (hD : D = tx (sha (parts [a0.data.toList, a1.data.toList, a2.data.toList, a3.data.toList, a4.data.toList]))) (hb : b < w.heap.size)
    (c0 : w.cell? ⟨b, 0, none⟩ = some (.string a0)) (c1 : w.cell? ⟨b, 1, none⟩ = some (.string a1)) (c2 : w.cell? ⟨b, 2, none⟩ = some (.string a2)) (c3 : w.cell? ⟨b, 3, none⟩ = some (.string a3)) (c4 : w.cell? ⟨b, 4, none⟩ = some (.string a4)) (hk : Consts w) :
    Calls Tryd.prog 46 #[.slice (some ⟨b, 0, none⟩) 5 5] w fun e w' => e = .returned (.string D) ∧ Below w.heap.size w w' := by
  rw [hD]
  exact parts_any [a0, a1, a2, a3, a4] b 0 5 w hb (by show 5 ≤ _; omega) (fun i hi => match i, hi with
    | 0, _ => c0
    | 1, _ => c1
    | 2, _ => c2
    | 3, _ => c3
    | 4, _ => c4)
    (by show 0 + (4 + a0.size) + (4 + a1.size) + (4 + a2.size) + (4 + a3.size) + (4 + a4.size) ≤ _; omega) hk

set_option maxHeartbeats 3200000 in
theorem asOne_any (N z n : Nat) (h : Int) (room x y V : ByteArray) (w : World) (hN : N ≤ 32) (hz : z ≤ 100) (hn : n ≤ 1000000) (hs : room.size + x.size + y.size ≤ 549755813888) (hV : V = tx (asOneT N room.data.toList z n x.data.toList y.data.toList)) (hk : Consts w) :
    Calls Tryd.prog 27 #[.agg #[.int .i64 (N : Int), .int .i64 h], .string room, .int .i64 (z : Int), .agg #[.int .i64 (n : Int), .string x], .string y] w fun e w' => e = .returned (.string V) ∧ Below w.heap.size w w' := by
  obtain ⟨M0, hM0⟩ : ∃ M, M = tx (num ((z + 1 : Nat) : Int) 1) := ⟨_, rfl⟩
  have hs0 : M0.size = 1 := by rw [hM0]; exact num_length _ _
  have R0 := Lib.hid (show ∀ u, Calls Tryd.prog 45 #[.int .u64 ((z : Int) + 1), .int .i64 1] u fun e w' => e = .returned (.string M0) ∧ Below u.heap.size u w' from fun u => num_small (z + 1) 1 M0 u (by omega) (by omega) hM0)
  obtain ⟨M1, hM1⟩ : ∃ M, M = tx (num ((n / 2 : Nat) : Int) 4) := ⟨_, rfl⟩
  have hs1 : M1.size = 4 := by rw [hM1]; exact num_length _ _
  have R1 := Lib.hid (show ∀ u, Calls Tryd.prog 45 #[.int .u64 ((n / 2 : Nat) : Int), .int .i64 4] u fun e w' => e = .returned (.string M1) ∧ Below u.heap.size u w' from fun u => num_small (n / 2) 4 M1 u (by omega) (by omega) hM1)
  obtain ⟨B, hB⟩ : ∃ B, B = if n % 2 = 1 then y ++ x else x ++ y := ⟨_, rfl⟩
  have hBs : B.size ≤ x.size + y.size := by rw [hB]; split <;> rw [ByteArray.size_append] <;> omega
  have hBl : B.data.toList = if n % 2 = 1 then y.data.toList ++ x.data.toList else x.data.toList ++ y.data.toList := by rw [hB]; split <;> simp
  obtain ⟨D, hD⟩ : ∃ D, D = tx (sha (parts [(⟨#[110, 111, 100, 101]⟩ : ByteArray).data.toList, room.data.toList, M0.data.toList, M1.data.toList, B.data.toList])) := ⟨_, rfl⟩
  have hDs : D.size = 32 := by rw [hD]; exact sha_length _
  have hcut : D.extract 0 N = V := cut_take D V N _ hD (by rw [hV, hM0, hM1, hBl]; rfl)
  have hN1 : (N : Int) ≤ 32 := by omega
  have hN2 : (N : Int) ≤ D.size := by omega
  have hN3 : (N : Int).toNat = N := by omega
  have RV := Lib.hid (show ∀ (b0 : Nat) (u : World), b0 < u.heap.size → u.cell? ⟨b0, 0, none⟩ = some (.string ⟨#[110, 111, 100, 101]⟩) → u.cell? ⟨b0, 1, none⟩ = some (.string room) → u.cell? ⟨b0, 2, none⟩ = some (.string M0) → u.cell? ⟨b0, 3, none⟩ = some (.string M1) → u.cell? ⟨b0, 4, none⟩ = some (.string B) → Consts u → Calls Tryd.prog 46 #[.slice (some ⟨b0, 0, none⟩) 5 5] u fun e w' => e = .returned (.string D) ∧ Below u.heap.size u w' from
    fun b0 u h0 d0 d1 d2 d3 d4 hu => parts_five ⟨#[110, 111, 100, 101]⟩ room M0 M1 B b0 D u (by show 4 + room.size + M0.size + M1.size + B.size ≤ _; omega) hD h0 d0 d1 d2 d3 d4 hu)
  have hxy : x.size + y.size ≤ 549755813888 := by omega
  clear hV hN hD hDs hM0 hs0 hM1 hs1 hBs hBl hs
  have hK : Keep w 1 ((w.alloc (.cells #[.int .i64 (N : Int), .int .i64 h] 23)).alloc (.cells #[.int .i64 (n : Int), .string x] 57)) := ⟨by simp, hk.below hk.1 ((((Below.refl w.heap.size w).alloc (Nat.le_refl _) _).alloc (by simp) _)), (((Below.refl w.heap.size w).alloc (Nat.le_refl _) _).alloc (by simp) _)⟩
  have hc0 : ((w.alloc (.cells #[.int .i64 (N : Int), .int .i64 h] 23)).alloc (.cells #[.int .i64 (n : Int), .string x] 57)).cell? ⟨w.heap.size, 0, none⟩ = some (.int .i64 (N : Int)) := by first | (simp; done) | (rw [World.cell?_alloc_lt _ _ _ (by simp)]; simp)
  have hc2 : ((w.alloc (.cells #[.int .i64 (N : Int), .int .i64 h] 23)).alloc (.cells #[.int .i64 (n : Int), .string x] 57)).cell? ⟨w.heap.size + 1, 0, none⟩ = some (.int .i64 (n : Int)) := by first | (simp; done) | (rw [World.cell?_alloc_lt _ _ _ (by simp)]; simp)
  have hc3 : ((w.alloc (.cells #[.int .i64 (N : Int), .int .i64 h] 23)).alloc (.cells #[.int .i64 (n : Int), .string x] 57)).cell? ⟨w.heap.size + 1, 1, none⟩ = some (.string x) := by first | (simp; done) | (rw [World.cell?_alloc_lt _ _ _ (by simp)]; simp)
  clear hk
  have hand : bits .and .i64 (n : Int) 1 = ((n % 2 : Nat) : Int) := and_one n (by omega)
  go_enter Tryd.func27, Tryd.ntmps27
  go_upto_region 1 with (fail)
  generalize ((w.alloc (.cells #[.int .i64 (N : Int), .int .i64 h] 23)).alloc (.cells #[.int .i64 (n : Int), .string x] 57)) = wz at *
  have HC := Lib.hid (fun (u : World) (q : Below wz.heap.size wz u) => (⟨(q.cell (p := ⟨w.heap.size, 0, none⟩) (show w.heap.size < wz.heap.size from Nat.lt_of_le_of_lt (Nat.le_add_right _ _) hK.room)).trans hc0, (q.cell (p := ⟨w.heap.size + 1, 0, none⟩) hK.room).trans hc2, hK.next q⟩ : u.cell? ⟨w.heap.size, 0, none⟩ = some (.int .i64 (N : Int)) ∧ u.cell? ⟨w.heap.size + 1, 0, none⟩ = some (.int .i64 (n : Int)) ∧ Keep w 1 u))
  clear hK hc0
  have HX := Lib.hid hxy
  by_cases ho : n % 2 = 1
  rw [if_pos ho] at hB
  have he : (((n % 2 : Nat) : Int) == 1) = true := by rw [ho]; rfl
  go_upto_region 4 with (fail)
  rotate_left
  rw [if_neg ho] at hB
  have he : (((n % 2 : Nat) : Int) == 1) = false := by rw [show n % 2 = 0 by omega]; rfl
  go_upto_region 4 with (fail)
  all_goals
    rw [← hB]
    have HB := Lib.hid hB
    clear hB hand hc2 hc3 he hxy ho
    have hw0 : IntKind.i64.wrap ((z : Int) + 1) = (z : Int) + 1 := by rw [IntKind.wrap_i64]; omega
    have hw1 : IntKind.u64.wrap ((z : Int) + 1) = (z : Int) + 1 := by rw [IntKind.wrap_u64]; omega
    have hw2 : IntKind.u64.wrap ((n : Int) / 2) = (n : Int) / 2 := by rw [IntKind.wrap_u64]; omega
    refine Steady.region 10 (by kernel_rfl) (by kernel_rfl) (fun u => Below wz.heap.size wz u) ((Below.refl _ _).drew) ?_
    simp only [List.take_succ_cons, List.take_zero, List.drop_succ_cons, List.drop_zero]
    refine Steady.take ?_ rfl (by intro u hu; go_simp; with_reducible rfl) ?_
    simp only [Act.put, List.setIfInBounds_toArray, List.set_cons_zero, List.set_cons_succ]
    refine Steady.take ?_ rfl (by intro u hu; go_simp; with_reducible rfl) ?_
    simp only [Act.put, List.setIfInBounds_toArray, List.set_cons_zero, List.set_cons_succ]
    refine Steady.take ?_ rfl (by intro u hu; go_simp; with_reducible rfl) ?_
    simp only [Act.put, List.setIfInBounds_toArray, List.set_cons_zero, List.set_cons_succ]
    refine Steady.call _ _ _ rfl ?_ (Steady.kept R0.out) ?_
    · intro u
      go_simp
    simp only [Act.put, List.setIfInBounds_toArray, List.set_cons_zero, List.set_cons_succ]
    refine Steady.take ?_ rfl (by intro u hu; go_simp; with_reducible rfl) ?_
    simp only [Act.put, List.setIfInBounds_toArray, List.set_cons_zero, List.set_cons_succ]
    refine Steady.take ?_ rfl (by intro u hu; obtain ⟨c0, c2, -⟩ := HC.out u hu; go_simp; with_reducible rfl) ?_
    simp only [Act.put, List.setIfInBounds_toArray, List.set_cons_zero, List.set_cons_succ]
    refine Steady.take ?_ rfl (by intro u hu; go_simp; with_reducible rfl) ?_
    simp only [Act.put, List.setIfInBounds_toArray, List.set_cons_zero, List.set_cons_succ]
    refine Steady.take ?_ rfl (by intro u hu; go_simp; with_reducible rfl) ?_
    simp only [Act.put, List.setIfInBounds_toArray, List.set_cons_zero, List.set_cons_succ]
    refine Steady.call _ _ _ rfl ?_ (Steady.kept R1.out) ?_
    · intro u
      go_simp
    simp only [Act.put, List.setIfInBounds_toArray, List.set_cons_zero, List.set_cons_succ]
    refine Steady.take ?_ rfl (by intro u hu; go_simp; with_reducible rfl) ?_
    simp only [Act.put, List.setIfInBounds_toArray, List.set_cons_zero, List.set_cons_succ]
    refine Steady.nil ?_
    intro w5 hb5
    obtain ⟨c0, c2, hk5⟩ := HC.out _ hb5
    clear c2 hw0 hw1 hw2
    go_upto_region 5 with (fail)
    have held_next : ∀ {u u' : World}, (u.cell? ⟨w.heap.size, 0, none⟩ = some (.int .i64 (N : Int)) ∧ Keep w 1 u) → Below u.heap.size u u' → (u'.cell? ⟨w.heap.size, 0, none⟩ = some (.int .i64 (N : Int)) ∧ Keep w 1 u') := by
      rintro u u' ⟨e0, kk⟩ q
      have hr := kk.room
      have hr0 : w.heap.size < u.heap.size := by omega
      exact ⟨(q.cell (p := ⟨w.heap.size, 0, none⟩) (by assumption)).trans e0, kk.next q⟩
    have held_consts : ∀ {u : World}, (u.cell? ⟨w.heap.size, 0, none⟩ = some (.int .i64 (N : Int)) ∧ Keep w 1 u) → Consts u := by
      rintro u ⟨-, kk⟩
      exact kk.consts
    have held_below : ∀ {u : World}, (u.cell? ⟨w.heap.size, 0, none⟩ = some (.int .i64 (N : Int)) ∧ Keep w 1 u) → Below w.heap.size w u := by
      rintro u ⟨-, kk⟩
      exact kk.below
    have HS := Lib.hid (show w5.drew.cell? ⟨w.heap.size, 0, none⟩ = some (.int .i64 (N : Int)) ∧ Keep w 1 w5.drew from ⟨c0, hk5.drew⟩)
    clear hk5 c0 hb5
    go_region_held3 (fun w' => w'.cell? ⟨w.heap.size, 0, none⟩ = some (.int .i64 (N : Int)) ∧ Keep w 1 w')
      (first | exact HS.out | assumption | exact held_next (by assumption) (by assumption) | exact held_next (by assumption) ((Below.refl _ _).alloc (Nat.le_refl _) _))
      (first
        | (go_at_call 46; refine Calls.mono (RV.out _ _ (by first | (simp; done) | (simp; omega)) (by first | (simp; done) | (rw [World.cell?_alloc_lt _ _ _ (by simp)]; simp; done)) (by first | (simp; done) | (rw [World.cell?_alloc_lt _ _ _ (by simp)]; simp; done)) (by first | (simp; done) | (rw [World.cell?_alloc_lt _ _ _ (by simp)]; simp; done)) (by first | (simp; done) | (rw [World.cell?_alloc_lt _ _ _ (by simp)]; simp; done)) (by first | (simp; done) | (rw [World.cell?_alloc_lt _ _ _ (by simp)]; simp; done)) (held_consts (by assumption))) ?_; rintro e w' ⟨rfl, hb⟩))
    all_goals
      go_wp2
      go_ret
      exact ⟨rfl, held_below (by assumption)⟩
end Go.Proofs.YtncafbejgidliaaDoor.Grv
