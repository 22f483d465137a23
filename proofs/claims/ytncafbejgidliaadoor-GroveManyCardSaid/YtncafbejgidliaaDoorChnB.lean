/-
  step, begin and together of package chains answer what the plain mathematics of the text Chn says, and leave all memory that was there as it was. Conditions: a chain's value has no more than 32 bytes, texts no more than 2^40, the constant table of package digest lies as the program's text lays it.
-/
import Derived.Test.YtncafbejgidliaaDoorChnA
namespace Go.Proofs.YtncafbejgidliaaDoor.Chn
open Go.RowKit Mur Sha
set_option maxRecDepth 100000

theorem num_any4 (n : Int) (M : ByteArray) (w : World) (hM : M = tx (num n 4)) : Calls Tryd.prog 49 #[.int .i64 n, .int .i64 4] w fun e w' => e = .returned (.string M) ∧ Below w.heap.size w w' := numbered_any n 4 M w (by omega) hM
theorem num_any2 (n : Int) (M : ByteArray) (w : World) (hM : M = tx (num n 2)) : Calls Tryd.prog 49 #[.int .i64 n, .int .i64 2] w fun e w' => e = .returned (.string M) ∧ Below w.heap.size w w' := numbered_any n 2 M w (by omega) hM
theorem num_any1 (n : Int) (M : ByteArray) (w : World) (hM : M = tx (num n 1)) : Calls Tryd.prog 49 #[.int .i64 n, .int .i64 1] w fun e w' => e = .returned (.string M) ∧ Below w.heap.size w w' := numbered_any n 1 M w (by omega) hM

/-- What is kept of the world: room for so many blocks more, the constants, all memory. -/
structure Keep (w0 : World) (r : Nat) (w : World) : Prop where
  room : w0.heap.size + r < w.heap.size
  consts : Consts w
  below : Below w0.heap.size w0 w
theorem Keep.next {w0 w w' : World} {r : Nat} (h : Keep w0 r w) (k : Below w.heap.size w w') : Keep w0 r w' :=
  ⟨Nat.lt_of_lt_of_le h.room k.size, h.consts.below h.consts.1 k, h.below.trans (k.mono h.below.size)⟩
theorem Keep.drew {w0 w : World} {r : Nat} (h : Keep w0 r w) : Keep w0 r w.drew := ⟨h.room, h.consts, h.below.drew⟩

theorem value_six (N : Nat) (h : Int) (a0 a1 a2 a3 a4 a5 : ByteArray) (b : Nat) (V : ByteArray) (w : World) (hN : N ≤ 32) (hs : a0.size + a1.size + a2.size + a3.size + a4.size + a5.size ≤ 1099511627776) (hV : V = tx (value N [a0.data.toList, a1.data.toList, a2.data.toList, a3.data.toList, a4.data.toList, a5.data.toList])) (hb : b < w.heap.size)
    (c0 : w.cell? ⟨b, 0, none⟩ = some (.string a0)) (c1 : w.cell? ⟨b, 1, none⟩ = some (.string a1)) (c2 : w.cell? ⟨b, 2, none⟩ = some (.string a2)) (c3 : w.cell? ⟨b, 3, none⟩ = some (.string a3)) (c4 : w.cell? ⟨b, 4, none⟩ = some (.string a4)) (c5 : w.cell? ⟨b, 5, none⟩ = some (.string a5)) (hk : Consts w) :
    Calls Tryd.prog 48 #[.agg #[.int .i64 (N : Int), .int .i64 h], .slice (some ⟨b, 0, none⟩) 6 6] w fun e w' => e = .returned (.string V) ∧ Below w.heap.size w w' :=
  value_any N h [a0, a1, a2, a3, a4, a5] b 0 6 V w hN hb (by show 6 ≤ _; omega) (fun i hi => match i, hi with
    | 0, _ => c0
    | 1, _ => c1
    | 2, _ => c2
    | 3, _ => c3
    | 4, _ => c4
    | 5, _ => c5)
    (by show 0 + (4 + a0.size) + (4 + a1.size) + (4 + a2.size) + (4 + a3.size) + (4 + a4.size) + (4 + a5.size) ≤ _; omega) hV hk

theorem value_four (N : Nat) (h : Int) (a0 a1 a2 a3 : ByteArray) (b : Nat) (V : ByteArray) (w : World) (hN : N ≤ 32) (hs : a0.size + a1.size + a2.size + a3.size ≤ 1099511627776) (hV : V = tx (value N [a0.data.toList, a1.data.toList, a2.data.toList, a3.data.toList])) (hb : b < w.heap.size)
    (c0 : w.cell? ⟨b, 0, none⟩ = some (.string a0)) (c1 : w.cell? ⟨b, 1, none⟩ = some (.string a1)) (c2 : w.cell? ⟨b, 2, none⟩ = some (.string a2)) (c3 : w.cell? ⟨b, 3, none⟩ = some (.string a3)) (hk : Consts w) :
    Calls Tryd.prog 48 #[.agg #[.int .i64 (N : Int), .int .i64 h], .slice (some ⟨b, 0, none⟩) 4 4] w fun e w' => e = .returned (.string V) ∧ Below w.heap.size w w' :=
  value_any N h [a0, a1, a2, a3] b 0 4 V w hN hb (by show 4 ≤ _; omega) (fun i hi => match i, hi with
    | 0, _ => c0
    | 1, _ => c1
    | 2, _ => c2
    | 3, _ => c3)
    (by show 0 + (4 + a0.size) + (4 + a1.size) + (4 + a2.size) + (4 + a3.size) ≤ _; omega) hV hk

set_option maxHeartbeats 3200000 in
theorem step_any (N : Nat) (h : Int) (room v : ByteArray) (s0 s1 i : Int) (V : ByteArray) (w : World) (hN : N ≤ 32) (hs : room.size + v.size ≤ 549755813888) (hV : V = tx (step N room.data.toList s0 s1 i v.data.toList)) (hk : Consts w) :
    Calls Tryd.prog 47 #[.agg #[.int .i64 (N : Int), .int .i64 h], .string room, .agg #[.int .i64 s0, .int .i64 s1], .int .i64 i, .string v] w fun e w' => e = .returned (.string V) ∧ Below w.heap.size w w' := by
  obtain ⟨M0, hM0⟩ : ∃ M, M = tx (num s0 4) := ⟨_, rfl⟩
  have hs0 : M0.size = 4 := by rw [hM0]; exact num_length _ _
  have R0 := Lib.hid (fun u => num_any4 s0 M0 u hM0)
  obtain ⟨M1, hM1⟩ : ∃ M, M = tx (num s1 2) := ⟨_, rfl⟩
  have hs1 : M1.size = 2 := by rw [hM1]; exact num_length _ _
  have R1 := Lib.hid (fun u => num_any2 s1 M1 u hM1)
  obtain ⟨M2, hM2⟩ : ∃ M, M = tx (num i 1) := ⟨_, rfl⟩
  have hs2 : M2.size = 1 := by rw [hM2]; exact num_length _ _
  have R2 := Lib.hid (fun u => num_any1 i M2 u hM2)
  have RV := Lib.hid (show ∀ (b0 : Nat) (u : World), b0 < u.heap.size → u.cell? ⟨b0, 0, none⟩ = some (.string ⟨#[114, 117, 110]⟩) → u.cell? ⟨b0, 1, none⟩ = some (.string room) → u.cell? ⟨b0, 2, none⟩ = some (.string M0) → u.cell? ⟨b0, 3, none⟩ = some (.string M1) → u.cell? ⟨b0, 4, none⟩ = some (.string M2) → u.cell? ⟨b0, 5, none⟩ = some (.string v) → Consts u → Calls Tryd.prog 48 #[.agg #[.int .i64 (N : Int), .int .i64 h], .slice (some ⟨b0, 0, none⟩) 6 6] u fun e w' => e = .returned (.string V) ∧ Below u.heap.size u w' from
    fun b0 u h0 d0 d1 d2 d3 d4 d5 hu => value_six N h ⟨#[114, 117, 110]⟩ room M0 M1 M2 v b0 V u hN (by show 3 + room.size + M0.size + M1.size + M2.size + v.size ≤ _; omega) (by rw [hV, hM0, hM1, hM2]; rfl) h0 d0 d1 d2 d3 d4 d5 hu)
  clear hV hN hM0 hs0 hM1 hs1 hM2 hs2
  have hK : Keep w 1 ((w.alloc (.cells #[.int .i64 (N : Int), .int .i64 h] 23)).alloc (.cells #[.int .i64 s0, .int .i64 s1] 24)) := ⟨by simp, hk.below hk.1 ((((Below.refl w.heap.size w).alloc (Nat.le_refl _) _).alloc (by simp) _)), (((Below.refl w.heap.size w).alloc (Nat.le_refl _) _).alloc (by simp) _)⟩
  have hc0 : ((w.alloc (.cells #[.int .i64 (N : Int), .int .i64 h] 23)).alloc (.cells #[.int .i64 s0, .int .i64 s1] 24)).cell? ⟨w.heap.size, 0, none⟩ = some (.int .i64 (N : Int)) := by first | (simp; done) | (rw [World.cell?_alloc_lt _ _ _ (by simp)]; simp)
  have hc1 : ((w.alloc (.cells #[.int .i64 (N : Int), .int .i64 h] 23)).alloc (.cells #[.int .i64 s0, .int .i64 s1] 24)).cell? ⟨w.heap.size, 1, none⟩ = some (.int .i64 h) := by first | (simp; done) | (rw [World.cell?_alloc_lt _ _ _ (by simp)]; simp)
  have hc2 : ((w.alloc (.cells #[.int .i64 (N : Int), .int .i64 h] 23)).alloc (.cells #[.int .i64 s0, .int .i64 s1] 24)).cell? ⟨w.heap.size + 1, 0, none⟩ = some (.int .i64 s0) := by first | (simp; done) | (rw [World.cell?_alloc_lt _ _ _ (by simp)]; simp)
  have hc3 : ((w.alloc (.cells #[.int .i64 (N : Int), .int .i64 h] 23)).alloc (.cells #[.int .i64 s0, .int .i64 s1] 24)).cell? ⟨w.heap.size + 1, 1, none⟩ = some (.int .i64 s1) := by first | (simp; done) | (rw [World.cell?_alloc_lt _ _ _ (by simp)]; simp)
  clear hk
  go_enter Tryd.func47, Tryd.ntmps47
  go_upto_region 1 with (fail)
  generalize ((w.alloc (.cells #[.int .i64 (N : Int), .int .i64 h] 23)).alloc (.cells #[.int .i64 s0, .int .i64 s1] 24)) = wz at *
  have held_next : ∀ {u u' : World}, (u.cell? ⟨w.heap.size, 0, none⟩ = some (.int .i64 (N : Int)) ∧ u.cell? ⟨w.heap.size, 1, none⟩ = some (.int .i64 h) ∧ u.cell? ⟨w.heap.size + 1, 0, none⟩ = some (.int .i64 s0) ∧ u.cell? ⟨w.heap.size + 1, 1, none⟩ = some (.int .i64 s1) ∧ Keep w 1 u) → Below u.heap.size u u' → (u'.cell? ⟨w.heap.size, 0, none⟩ = some (.int .i64 (N : Int)) ∧ u'.cell? ⟨w.heap.size, 1, none⟩ = some (.int .i64 h) ∧ u'.cell? ⟨w.heap.size + 1, 0, none⟩ = some (.int .i64 s0) ∧ u'.cell? ⟨w.heap.size + 1, 1, none⟩ = some (.int .i64 s1) ∧ Keep w 1 u') := by
    rintro u u' ⟨e0, e1, e2, e3, kk⟩ q
    have hr := kk.room
    have hr0 : w.heap.size < u.heap.size := by omega
    exact ⟨(q.cell (p := ⟨w.heap.size, 0, none⟩) (by assumption)).trans e0, (q.cell (p := ⟨w.heap.size, 1, none⟩) (by assumption)).trans e1, (q.cell (p := ⟨w.heap.size + 1, 0, none⟩) (by assumption)).trans e2, (q.cell (p := ⟨w.heap.size + 1, 1, none⟩) (by assumption)).trans e3, kk.next q⟩
  have held_consts : ∀ {u : World}, (u.cell? ⟨w.heap.size, 0, none⟩ = some (.int .i64 (N : Int)) ∧ u.cell? ⟨w.heap.size, 1, none⟩ = some (.int .i64 h) ∧ u.cell? ⟨w.heap.size + 1, 0, none⟩ = some (.int .i64 s0) ∧ u.cell? ⟨w.heap.size + 1, 1, none⟩ = some (.int .i64 s1) ∧ Keep w 1 u) → Consts u := by
    rintro u ⟨-, -, -, -, kk⟩
    exact kk.consts
  have held_below : ∀ {u : World}, (u.cell? ⟨w.heap.size, 0, none⟩ = some (.int .i64 (N : Int)) ∧ u.cell? ⟨w.heap.size, 1, none⟩ = some (.int .i64 h) ∧ u.cell? ⟨w.heap.size + 1, 0, none⟩ = some (.int .i64 s0) ∧ u.cell? ⟨w.heap.size + 1, 1, none⟩ = some (.int .i64 s1) ∧ Keep w 1 u) → Below w.heap.size w u := by
    rintro u ⟨-, -, -, -, kk⟩
    exact kk.below
  have HS := Lib.hid (show wz.drew.cell? ⟨w.heap.size, 0, none⟩ = some (.int .i64 (N : Int)) ∧ wz.drew.cell? ⟨w.heap.size, 1, none⟩ = some (.int .i64 h) ∧ wz.drew.cell? ⟨w.heap.size + 1, 0, none⟩ = some (.int .i64 s0) ∧ wz.drew.cell? ⟨w.heap.size + 1, 1, none⟩ = some (.int .i64 s1) ∧ Keep w 1 wz.drew from ⟨hc0, hc1, hc2, hc3, hK.drew⟩)
  clear hK hc0 hc1 hc2 hc3
  go_region_held3 (fun w' => w'.cell? ⟨w.heap.size, 0, none⟩ = some (.int .i64 (N : Int)) ∧ w'.cell? ⟨w.heap.size, 1, none⟩ = some (.int .i64 h) ∧ w'.cell? ⟨w.heap.size + 1, 0, none⟩ = some (.int .i64 s0) ∧ w'.cell? ⟨w.heap.size + 1, 1, none⟩ = some (.int .i64 s1) ∧ Keep w 1 w')
    (first | exact HS.out | assumption | exact held_next (by assumption) (by assumption) | exact held_next (by assumption) ((Below.refl _ _).alloc (Nat.le_refl _) _))
    (first
      | (go_at_call 49; with_reducible refine Calls.mono (R0.out _) ?_; rintro e w' ⟨rfl, hb⟩)
      | (go_at_call 49; with_reducible refine Calls.mono (R1.out _) ?_; rintro e w' ⟨rfl, hb⟩)
      | (go_at_call 49; with_reducible refine Calls.mono (R2.out _) ?_; rintro e w' ⟨rfl, hb⟩)
      | (go_at_call 48; refine Calls.mono (RV.out _ _ (by first | (simp; done) | (simp; omega)) (by first | (simp; done) | (rw [World.cell?_alloc_lt _ _ _ (by simp)]; simp; done)) (by first | (simp; done) | (rw [World.cell?_alloc_lt _ _ _ (by simp)]; simp; done)) (by first | (simp; done) | (rw [World.cell?_alloc_lt _ _ _ (by simp)]; simp; done)) (by first | (simp; done) | (rw [World.cell?_alloc_lt _ _ _ (by simp)]; simp; done)) (by first | (simp; done) | (rw [World.cell?_alloc_lt _ _ _ (by simp)]; simp; done)) (by first | (simp; done) | (rw [World.cell?_alloc_lt _ _ _ (by simp)]; simp; done)) (held_consts (by assumption))) ?_; rintro e w' ⟨rfl, hb⟩))
  all_goals
    go_wp2
    go_ret
    exact ⟨rfl, held_below (by assumption)⟩

set_option maxHeartbeats 3200000 in
theorem begin_any (N : Nat) (h : Int) (seed : ByteArray) (s0 s1 : Int) (V : ByteArray) (w : World) (hN : N ≤ 32) (hs : seed.size ≤ 549755813888) (hV : V = tx (begins N seed.data.toList s0 s1)) (hk : Consts w) :
    Calls Tryd.prog 30 #[.agg #[.int .i64 (N : Int), .int .i64 h], .string seed, .int .i64 s0, .int .i64 s1] w fun e w' => e = .returned (.string V) ∧ Below w.heap.size w w' := by
  obtain ⟨M0, hM0⟩ : ∃ M, M = tx (num s0 4) := ⟨_, rfl⟩
  have hs0 : M0.size = 4 := by rw [hM0]; exact num_length _ _
  have R0 := Lib.hid (fun u => num_any4 s0 M0 u hM0)
  obtain ⟨M1, hM1⟩ : ∃ M, M = tx (num s1 2) := ⟨_, rfl⟩
  have hs1 : M1.size = 2 := by rw [hM1]; exact num_length _ _
  have R1 := Lib.hid (fun u => num_any2 s1 M1 u hM1)
  have RV := Lib.hid (show ∀ (b0 : Nat) (u : World), b0 < u.heap.size → u.cell? ⟨b0, 0, none⟩ = some (.string ⟨#[98, 101, 103, 105, 110]⟩) → u.cell? ⟨b0, 1, none⟩ = some (.string seed) → u.cell? ⟨b0, 2, none⟩ = some (.string M0) → u.cell? ⟨b0, 3, none⟩ = some (.string M1) → Consts u → Calls Tryd.prog 48 #[.agg #[.int .i64 (N : Int), .int .i64 h], .slice (some ⟨b0, 0, none⟩) 4 4] u fun e w' => e = .returned (.string V) ∧ Below u.heap.size u w' from
    fun b0 u h0 d0 d1 d2 d3 hu => value_four N h ⟨#[98, 101, 103, 105, 110]⟩ seed M0 M1 b0 V u hN (by show 5 + seed.size + M0.size + M1.size ≤ _; omega) (by rw [hV, hM0, hM1]; rfl) h0 d0 d1 d2 d3 hu)
  clear hV hN hM0 hs0 hM1 hs1
  have hK : Keep w 0 (w.alloc (.cells #[.int .i64 (N : Int), .int .i64 h] 23)) := ⟨by simp, hk.below hk.1 (((Below.refl w.heap.size w).alloc (Nat.le_refl _) _)), ((Below.refl w.heap.size w).alloc (Nat.le_refl _) _)⟩
  have hc0 : (w.alloc (.cells #[.int .i64 (N : Int), .int .i64 h] 23)).cell? ⟨w.heap.size, 0, none⟩ = some (.int .i64 (N : Int)) := by first | (simp; done) | (rw [World.cell?_alloc_lt _ _ _ (by simp)]; simp)
  have hc1 : (w.alloc (.cells #[.int .i64 (N : Int), .int .i64 h] 23)).cell? ⟨w.heap.size, 1, none⟩ = some (.int .i64 h) := by first | (simp; done) | (rw [World.cell?_alloc_lt _ _ _ (by simp)]; simp)
  clear hk
  go_enter Tryd.func30, Tryd.ntmps30
  go_upto_region 1 with (fail)
  generalize (w.alloc (.cells #[.int .i64 (N : Int), .int .i64 h] 23)) = wz at *
  have held_next : ∀ {u u' : World}, (u.cell? ⟨w.heap.size, 0, none⟩ = some (.int .i64 (N : Int)) ∧ u.cell? ⟨w.heap.size, 1, none⟩ = some (.int .i64 h) ∧ Keep w 0 u) → Below u.heap.size u u' → (u'.cell? ⟨w.heap.size, 0, none⟩ = some (.int .i64 (N : Int)) ∧ u'.cell? ⟨w.heap.size, 1, none⟩ = some (.int .i64 h) ∧ Keep w 0 u') := by
    rintro u u' ⟨e0, e1, kk⟩ q
    have hr := kk.room
    have hr0 : w.heap.size < u.heap.size := by omega
    exact ⟨(q.cell (p := ⟨w.heap.size, 0, none⟩) (by assumption)).trans e0, (q.cell (p := ⟨w.heap.size, 1, none⟩) (by assumption)).trans e1, kk.next q⟩
  have held_consts : ∀ {u : World}, (u.cell? ⟨w.heap.size, 0, none⟩ = some (.int .i64 (N : Int)) ∧ u.cell? ⟨w.heap.size, 1, none⟩ = some (.int .i64 h) ∧ Keep w 0 u) → Consts u := by
    rintro u ⟨-, -, kk⟩
    exact kk.consts
  have held_below : ∀ {u : World}, (u.cell? ⟨w.heap.size, 0, none⟩ = some (.int .i64 (N : Int)) ∧ u.cell? ⟨w.heap.size, 1, none⟩ = some (.int .i64 h) ∧ Keep w 0 u) → Below w.heap.size w u := by
    rintro u ⟨-, -, kk⟩
    exact kk.below
  have HS := Lib.hid (show wz.drew.cell? ⟨w.heap.size, 0, none⟩ = some (.int .i64 (N : Int)) ∧ wz.drew.cell? ⟨w.heap.size, 1, none⟩ = some (.int .i64 h) ∧ Keep w 0 wz.drew from ⟨hc0, hc1, hK.drew⟩)
  clear hK hc0 hc1
  go_region_held3 (fun w' => w'.cell? ⟨w.heap.size, 0, none⟩ = some (.int .i64 (N : Int)) ∧ w'.cell? ⟨w.heap.size, 1, none⟩ = some (.int .i64 h) ∧ Keep w 0 w')
    (first | exact HS.out | assumption | exact held_next (by assumption) (by assumption) | exact held_next (by assumption) ((Below.refl _ _).alloc (Nat.le_refl _) _))
    (first
      | (go_at_call 49; with_reducible refine Calls.mono (R0.out _) ?_; rintro e w' ⟨rfl, hb⟩)
      | (go_at_call 49; with_reducible refine Calls.mono (R1.out _) ?_; rintro e w' ⟨rfl, hb⟩)
      | (go_at_call 48; refine Calls.mono (RV.out _ _ (by first | (simp; done) | (simp; omega)) (by first | (simp; done) | (rw [World.cell?_alloc_lt _ _ _ (by simp)]; simp; done)) (by first | (simp; done) | (rw [World.cell?_alloc_lt _ _ _ (by simp)]; simp; done)) (by first | (simp; done) | (rw [World.cell?_alloc_lt _ _ _ (by simp)]; simp; done)) (by first | (simp; done) | (rw [World.cell?_alloc_lt _ _ _ (by simp)]; simp; done)) (held_consts (by assumption))) ?_; rintro e w' ⟨rfl, hb⟩))
  all_goals
    go_wp2
    go_ret
    exact ⟨rfl, held_below (by assumption)⟩

set_option maxHeartbeats 3200000 in
theorem together_any (N : Nat) (h : Int) (room v : ByteArray) (s0 : Int) (V : ByteArray) (w : World) (hN : N ≤ 32) (hs : room.size + v.size ≤ 549755813888) (hV : V = tx (together N room.data.toList s0 v.data.toList)) (hk : Consts w) :
    Calls Tryd.prog 31 #[.agg #[.int .i64 (N : Int), .int .i64 h], .string room, .int .i64 s0, .string v] w fun e w' => e = .returned (.string V) ∧ Below w.heap.size w w' := by
  obtain ⟨M0, hM0⟩ : ∃ M, M = tx (num s0 4) := ⟨_, rfl⟩
  have hs0 : M0.size = 4 := by rw [hM0]; exact num_length _ _
  have R0 := Lib.hid (fun u => num_any4 s0 M0 u hM0)
  have RV := Lib.hid (show ∀ (b0 : Nat) (u : World), b0 < u.heap.size → u.cell? ⟨b0, 0, none⟩ = some (.string ⟨#[108, 101, 97, 102]⟩) → u.cell? ⟨b0, 1, none⟩ = some (.string room) → u.cell? ⟨b0, 2, none⟩ = some (.string M0) → u.cell? ⟨b0, 3, none⟩ = some (.string v) → Consts u → Calls Tryd.prog 48 #[.agg #[.int .i64 (N : Int), .int .i64 h], .slice (some ⟨b0, 0, none⟩) 4 4] u fun e w' => e = .returned (.string V) ∧ Below u.heap.size u w' from
    fun b0 u h0 d0 d1 d2 d3 hu => value_four N h ⟨#[108, 101, 97, 102]⟩ room M0 v b0 V u hN (by show 4 + room.size + M0.size + v.size ≤ _; omega) (by rw [hV, hM0]; rfl) h0 d0 d1 d2 d3 hu)
  clear hV hN hM0 hs0
  have hK : Keep w 0 (w.alloc (.cells #[.int .i64 (N : Int), .int .i64 h] 23)) := ⟨by simp, hk.below hk.1 (((Below.refl w.heap.size w).alloc (Nat.le_refl _) _)), ((Below.refl w.heap.size w).alloc (Nat.le_refl _) _)⟩
  have hc0 : (w.alloc (.cells #[.int .i64 (N : Int), .int .i64 h] 23)).cell? ⟨w.heap.size, 0, none⟩ = some (.int .i64 (N : Int)) := by first | (simp; done) | (rw [World.cell?_alloc_lt _ _ _ (by simp)]; simp)
  have hc1 : (w.alloc (.cells #[.int .i64 (N : Int), .int .i64 h] 23)).cell? ⟨w.heap.size, 1, none⟩ = some (.int .i64 h) := by first | (simp; done) | (rw [World.cell?_alloc_lt _ _ _ (by simp)]; simp)
  clear hk
  go_enter Tryd.func31, Tryd.ntmps31
  go_upto_region 1 with (fail)
  generalize (w.alloc (.cells #[.int .i64 (N : Int), .int .i64 h] 23)) = wz at *
  have held_next : ∀ {u u' : World}, (u.cell? ⟨w.heap.size, 0, none⟩ = some (.int .i64 (N : Int)) ∧ u.cell? ⟨w.heap.size, 1, none⟩ = some (.int .i64 h) ∧ Keep w 0 u) → Below u.heap.size u u' → (u'.cell? ⟨w.heap.size, 0, none⟩ = some (.int .i64 (N : Int)) ∧ u'.cell? ⟨w.heap.size, 1, none⟩ = some (.int .i64 h) ∧ Keep w 0 u') := by
    rintro u u' ⟨e0, e1, kk⟩ q
    have hr := kk.room
    have hr0 : w.heap.size < u.heap.size := by omega
    exact ⟨(q.cell (p := ⟨w.heap.size, 0, none⟩) (by assumption)).trans e0, (q.cell (p := ⟨w.heap.size, 1, none⟩) (by assumption)).trans e1, kk.next q⟩
  have held_consts : ∀ {u : World}, (u.cell? ⟨w.heap.size, 0, none⟩ = some (.int .i64 (N : Int)) ∧ u.cell? ⟨w.heap.size, 1, none⟩ = some (.int .i64 h) ∧ Keep w 0 u) → Consts u := by
    rintro u ⟨-, -, kk⟩
    exact kk.consts
  have held_below : ∀ {u : World}, (u.cell? ⟨w.heap.size, 0, none⟩ = some (.int .i64 (N : Int)) ∧ u.cell? ⟨w.heap.size, 1, none⟩ = some (.int .i64 h) ∧ Keep w 0 u) → Below w.heap.size w u := by
    rintro u ⟨-, -, kk⟩
    exact kk.below
  have HS := Lib.hid (show wz.drew.cell? ⟨w.heap.size, 0, none⟩ = some (.int .i64 (N : Int)) ∧ wz.drew.cell? ⟨w.heap.size, 1, none⟩ = some (.int .i64 h) ∧ Keep w 0 wz.drew from ⟨hc0, hc1, hK.drew⟩)
  clear hK hc0 hc1
  go_region_held3 (fun w' => w'.cell? ⟨w.heap.size, 0, none⟩ = some (.int .i64 (N : Int)) ∧ w'.cell? ⟨w.heap.size, 1, none⟩ = some (.int .i64 h) ∧ Keep w 0 w')
    (first | exact HS.out | assumption | exact held_next (by assumption) (by assumption) | exact held_next (by assumption) ((Below.refl _ _).alloc (Nat.le_refl _) _))
    (first
      | (go_at_call 49; with_reducible refine Calls.mono (R0.out _) ?_; rintro e w' ⟨rfl, hb⟩)
      | (go_at_call 48; refine Calls.mono (RV.out _ _ (by first | (simp; done) | (simp; omega)) (by first | (simp; done) | (rw [World.cell?_alloc_lt _ _ _ (by simp)]; simp; done)) (by first | (simp; done) | (rw [World.cell?_alloc_lt _ _ _ (by simp)]; simp; done)) (by first | (simp; done) | (rw [World.cell?_alloc_lt _ _ _ (by simp)]; simp; done)) (by first | (simp; done) | (rw [World.cell?_alloc_lt _ _ _ (by simp)]; simp; done)) (held_consts (by assumption))) ?_; rintro e w' ⟨rfl, hb⟩))
  all_goals
    go_wp2
    go_ret
    exact ⟨rfl, held_below (by assumption)⟩

end Go.Proofs.YtncafbejgidliaaDoor.Chn
