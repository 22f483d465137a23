/-
  Several texts as one (RChnA, RChnB, RChnRun, RChnEnds, RChnDig, RChnSign, RChnLeaf, RChnFound). The document's own answers for Right and Count of layer 7 answer what the plain mathematics of the text Chn says. No condition. The document's own answers for begin of layer 7 answers what the plain mathematics of the text Chn says. Conditions: a chain's value has no more than 32 bytes, texts no more than 900000. The document's own answers for Run of layer 7 answers what the plain mathematics of the text Chn says. Conditions: room and value have together no more than 800000 bytes. The document's own answers for ends of layer 7 answers what the plain mathematics of the text Chn says. Conditions: no more than 67 pieces of no more than 32 bytes. The document's own answers for Digits of layer 7 answers what the plain mathematics of the text Chn says. Condition: the text has no more than 2^40 bytes. The document's own answers for Leaf and Sign of layer 7 answer what the plain mathematics of the text Chn says. Conditions: seed and room have together no more than 400000 bytes. The document's own answers for Leaf of layer 7 answers what the plain mathematics of the text Chn says. Conditions: seed and room have together no more than 400000 bytes. The document's own answers for Found of layer 7 answers what the plain mathematics of the text Chn says. Conditions: room and signature have together no more than 400000 bytes.
-/
import Derived.Test.YtkchbilkmoemaaaGreatDoorMChn
import Derived.Test.YtkchbilkmoemaaaGreatDoorMRef
import Derived.Test.YtkchbilkmoemaaaGreatDoorMWk
import Derived.IntWalk
namespace Go.Proofs.YtkchbilkmoemaaaGreatDoor.RefChn
open Go.RowKit Mur Sha Chn
set_option maxRecDepth 100000

set_option maxHeartbeats 800000 in
theorem right_any (n h : Int) (w : World) :
    Calls Tryz.prog 19 #[.agg #[.int .i64 n, .int .i64 h]] w fun e w' => e = .returned (.bool (decide (Right n h))) ∧ Below w.heap.size w w' := by
  have e : decide (Right n h) = (decide (2 ≤ n) && decide (n ≤ 32) && decide (0 ≤ h) && decide (h ≤ 8)) := by
    rw [Bool.eq_iff_iff]
    simp only [decide_eq_true_eq, Bool.and_eq_true, and_assoc]
    exact Iff.rfl
  rw [e]
  clear e
  go_enter Tryz.func19, Tryz.ntmps19
  by_cases h1 : 2 ≤ n
  · by_cases h2 : n ≤ 32
    · by_cases h3 : 0 ≤ h
      · by_cases h4 : h ≤ 8
        · rw [decide_eq_true h1, decide_eq_true h2, decide_eq_true h3, decide_eq_true h4]
          go_wp2
          go_ret
          exact ⟨rfl, (Below.refl _ _).alloc (Nat.le_refl _) _⟩
        · have h4' : decide (h ≤ 8) = false := decide_eq_false h4
          rw [decide_eq_true h1, decide_eq_true h2, decide_eq_true h3, decide_eq_false h4]
          go_wp2
          go_ret
          exact ⟨rfl, (Below.refl _ _).alloc (Nat.le_refl _) _⟩
      · have h3' : decide (0 ≤ h) = false := decide_eq_false h3
        rw [decide_eq_true h1, decide_eq_true h2, decide_eq_false h3]
        go_wp2
        go_ret
        exact ⟨rfl, (Below.refl _ _).alloc (Nat.le_refl _) _⟩
    · have h2' : decide (n ≤ 32) = false := decide_eq_false h2
      rw [decide_eq_true h1, decide_eq_false h2]
      go_wp2
      go_ret
      exact ⟨rfl, (Below.refl _ _).alloc (Nat.le_refl _) _⟩
  · have h1' : decide (2 ≤ n) = false := decide_eq_false h1
    rw [decide_eq_false h1]
    go_wp2
    go_ret
    exact ⟨rfl, (Below.refl _ _).alloc (Nat.le_refl _) _⟩

theorem right_yes (n h : Int) (hr : Right n h) (w : World) :
    Calls Tryz.prog 19 #[.agg #[.int .i64 n, .int .i64 h]] w fun e w' => e = .returned (.bool true) ∧ Below w.heap.size w w' := by
  have := right_any n h w
  rw [decide_eq_true hr] at this
  exact this
theorem right_no (n h : Int) (hr : ¬ Right n h) (w : World) :
    Calls Tryz.prog 19 #[.agg #[.int .i64 n, .int .i64 h]] w fun e w' => e = .returned (.bool false) ∧ Below w.heap.size w w' := by
  have := right_any n h w
  rw [decide_eq_false hr] at this
  exact this

theorem count_yes (n h : Int) (hr : Right n h) (w : World) :
    Calls Tryz.prog 35 #[.agg #[.int .i64 n, .int .i64 h]] w fun e w' => e = .returned (.int .i64 (2 * n + 3)) ∧ Below w.heap.size w w' := by
  have R1 := Lib.hid (fun u => right_yes n h hr u)
  have h1 := hr.1
  have h2 := hr.2.1
  clear hr
  go_enter Tryz.func35, Tryz.ntmps35
  go_wp2_with fail
  refine (R1.out _).mono ?_
  rintro e w1 ⟨rfl, hb⟩
  have c0 : w1.cell? ⟨w.heap.size, 0, none⟩ = some (.int .i64 n) := (hb.cell (p := ⟨w.heap.size, 0, none⟩) (by simp)).trans (by simp [World.cell?_alloc_new])
  have HB := Lib.hid (((Below.refl w.heap.size w).alloc (Nat.le_refl _) (.cells #[.int .i64 n, .int .i64 h] 23)).trans (hb.mono (by simp)))
  clear hb
  go_wp2
  go_ret
  exact ⟨rfl, HB.out⟩
theorem count_no (n h : Int) (hr : ¬ Right n h) (w : World) :
    Calls Tryz.prog 35 #[.agg #[.int .i64 n, .int .i64 h]] w fun e w' => e = .returned (.int .i64 0) ∧ Below w.heap.size w w' := by
  have R1 := Lib.hid (fun u => right_no n h hr u)
  clear hr
  go_enter Tryz.func35, Tryz.ntmps35
  go_wp2_with fail
  refine (R1.out _).mono ?_
  rintro e w1 ⟨rfl, hb⟩
  have HB := Lib.hid (((Below.refl w.heap.size w).alloc (Nat.le_refl _) (.cells #[.int .i64 n, .int .i64 h] 23)).trans (hb.mono (by simp)))
  clear hb
  go_wp2
  go_ret
  exact ⟨rfl, HB.out⟩
end Go.Proofs.YtkchbilkmoemaaaGreatDoor.RefChn

namespace Go.Proofs.YtkchbilkmoemaaaGreatDoor.RefChn
open Go.RowKit Mur Sha Chn
set_option maxRecDepth 100000

/-- What is kept of the world: room for so many blocks more, all memory. -/
structure Kept (w0 : World) (r : Nat) (w : World) : Prop where
  room : w0.heap.size + r < w.heap.size
  below : Below w0.heap.size w0 w
theorem Kept.next {w0 w w' : World} {r : Nat} (h : Kept w0 r w) (k : Below w.heap.size w w') : Kept w0 r w' :=
  ⟨Nat.lt_of_lt_of_le h.room k.size, h.below.trans (k.mono h.below.size)⟩
theorem Kept.drew {w0 w : World} {r : Nat} (h : Kept w0 r w) : Kept w0 r w.drew := ⟨h.room, h.below.drew⟩

theorem num_ref (n : Int) (wd : Nat) (M : ByteArray) (w : World) (hwd : wd ≤ 64) (hM : M = tx (num n wd)) :
    Calls Tryz.prog 29 #[.int .u64 (low64 n : Int), .int .i64 (wd : Int)] w fun e w' => e = .returned (.string M) ∧ Below w.heap.size w w' := by
  have R1 := RefOne.high_any (low64 n) (wd : Int) w (low64_lt n) (by omega) (by omega)
  have ew : Lanes.widthOf (wd : Int) = wd := by unfold Lanes.widthOf; omega
  rw [ew] at R1
  rw [hM]
  exact R1
theorem num_ref4 (n : Int) (M : ByteArray) (w : World) (hM : M = tx (num n 4)) : Calls Tryz.prog 29 #[.int .u64 (low64 n : Int), .int .i64 4] w fun e w' => e = .returned (.string M) ∧ Below w.heap.size w w' := num_ref n 4 M w (by omega) hM
theorem num_ref2 (n : Int) (M : ByteArray) (w : World) (hM : M = tx (num n 2)) : Calls Tryz.prog 29 #[.int .u64 (low64 n : Int), .int .i64 2] w fun e w' => e = .returned (.string M) ∧ Below w.heap.size w w' := num_ref n 2 M w (by omega) hM
theorem num_ref1 (n : Int) (M : ByteArray) (w : World) (hM : M = tx (num n 1)) : Calls Tryz.prog 29 #[.int .u64 (low64 n : Int), .int .i64 1] w fun e w' => e = .returned (.string M) ∧ Below w.heap.size w w' := num_ref n 1 M w (by omega) hM
theorem wrap_low (n : Int) : IntKind.u64.wrap n = (low64 n : Int) := by rw [IntKind.wrap_u64, low64_cast]

theorem parts_six (a0 a1 a2 a3 a4 a5 : ByteArray) (b : Nat) (D : ByteArray) (w : World) (hs : a0.size + a1.size + a2.size + a3.size + a4.size + a5.size ≤ 900000) (hD : D = tx (sha (parts [a0.data.toList, a1.data.toList, a2.data.toList, a3.data.toList, a4.data.toList, a5.data.toList]))) (hb : b < w.heap.size)
    (c0 : w.cell? ⟨b, 0, none⟩ = some (.string a0)) (c1 : w.cell? ⟨b, 1, none⟩ = some (.string a1)) (c2 : w.cell? ⟨b, 2, none⟩ = some (.string a2)) (c3 : w.cell? ⟨b, 3, none⟩ = some (.string a3)) (c4 : w.cell? ⟨b, 4, none⟩ = some (.string a4)) (c5 : w.cell? ⟨b, 5, none⟩ = some (.string a5)) :
    Calls Tryz.prog 57 #[.slice (some ⟨b, 0, none⟩) 6 6] w fun e w' => e = .returned (.string D) ∧ Below w.heap.size w w' := by
  rw [hD]
  exact RefSha.parts_ref [a0, a1, a2, a3, a4, a5] b 0 6 w hb (by show 6 ≤ _; omega) (fun i hi => match i, hi with
    | 0, _ => c0
    | 1, _ => c1
    | 2, _ => c2
    | 3, _ => c3
    | 4, _ => c4
    | 5, _ => c5)
    (by show 0 + (4 + a0.size) + (4 + a1.size) + (4 + a2.size) + (4 + a3.size) + (4 + a4.size) + (4 + a5.size) ≤ _; omega)

theorem parts_four (a0 a1 a2 a3 : ByteArray) (b : Nat) (D : ByteArray) (w : World) (hs : a0.size + a1.size + a2.size + a3.size ≤ 900000) (hD : D = tx (sha (parts [a0.data.toList, a1.data.toList, a2.data.toList, a3.data.toList]))) (hb : b < w.heap.size)
    (c0 : w.cell? ⟨b, 0, none⟩ = some (.string a0)) (c1 : w.cell? ⟨b, 1, none⟩ = some (.string a1)) (c2 : w.cell? ⟨b, 2, none⟩ = some (.string a2)) (c3 : w.cell? ⟨b, 3, none⟩ = some (.string a3)) :
    Calls Tryz.prog 57 #[.slice (some ⟨b, 0, none⟩) 4 4] w fun e w' => e = .returned (.string D) ∧ Below w.heap.size w w' := by
  rw [hD]
  exact RefSha.parts_ref [a0, a1, a2, a3] b 0 4 w hb (by show 4 ≤ _; omega) (fun i hi => match i, hi with
    | 0, _ => c0
    | 1, _ => c1
    | 2, _ => c2
    | 3, _ => c3)
    (by show 0 + (4 + a0.size) + (4 + a1.size) + (4 + a2.size) + (4 + a3.size) ≤ _; omega)

set_option maxHeartbeats 3200000 in
theorem begin_any (N : Nat) (h : Int) (seed : ByteArray) (s0 s1 : Int) (V : ByteArray) (w : World) (hN : N ≤ 32) (hs : seed.size ≤ 800000) (hV : V = tx (begins N seed.data.toList s0 s1)) :
    Calls Tryz.prog 60 #[.agg #[.int .i64 (N : Int), .int .i64 h], .string seed, .agg #[.int .i64 s0, .int .i64 s1]] w fun e w' => e = .returned (.string V) ∧ Below w.heap.size w w' := by
  obtain ⟨M0, hM0⟩ : ∃ M, M = tx (num s0 4) := ⟨_, rfl⟩
  have hs0 : M0.size = 4 := by rw [hM0]; exact num_length _ _
  have R0 := Lib.hid (fun u => num_ref4 s0 M0 u hM0)
  have hw0 := wrap_low s0
  obtain ⟨M1, hM1⟩ : ∃ M, M = tx (num s1 2) := ⟨_, rfl⟩
  have hs1 : M1.size = 2 := by rw [hM1]; exact num_length _ _
  have R1 := Lib.hid (fun u => num_ref2 s1 M1 u hM1)
  have hw1 := wrap_low s1
  obtain ⟨D, hD⟩ : ∃ D, D = tx (sha (parts [(⟨#[98, 101, 103, 105, 110]⟩ : ByteArray).data.toList, (seed : ByteArray).data.toList, (M0 : ByteArray).data.toList, (M1 : ByteArray).data.toList])) := ⟨_, rfl⟩
  have hDs : D.size = 32 := by rw [hD]; exact sha_length _
  have hcut : D.extract 0 N = V := cut_take D V N _ hD (by rw [hV, hM0, hM1]; rfl)
  have hN1 : (N : Int) ≤ 32 := by omega
  have hN2 : (N : Int) ≤ D.size := by omega
  have hN3 : (N : Int).toNat = N := by omega
  have RV := Lib.hid (show ∀ (b0 : Nat) (u : World), b0 < u.heap.size → u.cell? ⟨b0, 0, none⟩ = some (.string ⟨#[98, 101, 103, 105, 110]⟩) → u.cell? ⟨b0, 1, none⟩ = some (.string seed) → u.cell? ⟨b0, 2, none⟩ = some (.string M0) → u.cell? ⟨b0, 3, none⟩ = some (.string M1) → Calls Tryz.prog 57 #[.slice (some ⟨b0, 0, none⟩) 4 4] u fun e w' => e = .returned (.string D) ∧ Below u.heap.size u w' from
    fun b0 u h0 d0 d1 d2 d3 => parts_four ⟨#[98, 101, 103, 105, 110]⟩ seed M0 M1 b0 D u (by show 5 + seed.size + M0.size + M1.size ≤ _; omega) hD h0 d0 d1 d2 d3)
  clear hV hN hD hDs hM0 hs0 hM1 hs1
  have hK : Kept w 1 ((w.alloc (.cells #[.int .i64 (N : Int), .int .i64 h] 23)).alloc (.cells #[.int .i64 s0, .int .i64 s1] 49)) := ⟨by simp, (((Below.refl w.heap.size w).alloc (Nat.le_refl _) _).alloc (by simp) _)⟩
  have hc0 : ((w.alloc (.cells #[.int .i64 (N : Int), .int .i64 h] 23)).alloc (.cells #[.int .i64 s0, .int .i64 s1] 49)).cell? ⟨w.heap.size, 0, none⟩ = some (.int .i64 (N : Int)) := by first | (simp; done) | (rw [World.cell?_alloc_lt _ _ _ (by simp)]; simp)
  have hc1 : ((w.alloc (.cells #[.int .i64 (N : Int), .int .i64 h] 23)).alloc (.cells #[.int .i64 s0, .int .i64 s1] 49)).cell? ⟨w.heap.size, 1, none⟩ = some (.int .i64 h) := by first | (simp; done) | (rw [World.cell?_alloc_lt _ _ _ (by simp)]; simp)
  have hc2 : ((w.alloc (.cells #[.int .i64 (N : Int), .int .i64 h] 23)).alloc (.cells #[.int .i64 s0, .int .i64 s1] 49)).cell? ⟨w.heap.size + 1, 0, none⟩ = some (.int .i64 s0) := by first | (simp; done) | (rw [World.cell?_alloc_lt _ _ _ (by simp)]; simp)
  have hc3 : ((w.alloc (.cells #[.int .i64 (N : Int), .int .i64 h] 23)).alloc (.cells #[.int .i64 s0, .int .i64 s1] 49)).cell? ⟨w.heap.size + 1, 1, none⟩ = some (.int .i64 s1) := by first | (simp; done) | (rw [World.cell?_alloc_lt _ _ _ (by simp)]; simp)
  go_enter Tryz.func60, Tryz.ntmps60
  go_upto_region 1 with (fail)
  generalize ((w.alloc (.cells #[.int .i64 (N : Int), .int .i64 h] 23)).alloc (.cells #[.int .i64 s0, .int .i64 s1] 49)) = wz at *
  have held_next : ∀ {u u' : World}, (u.cell? ⟨w.heap.size, 0, none⟩ = some (.int .i64 (N : Int)) ∧ u.cell? ⟨w.heap.size, 1, none⟩ = some (.int .i64 h) ∧ u.cell? ⟨w.heap.size + 1, 0, none⟩ = some (.int .i64 s0) ∧ u.cell? ⟨w.heap.size + 1, 1, none⟩ = some (.int .i64 s1) ∧ Kept w 1 u) → Below u.heap.size u u' → (u'.cell? ⟨w.heap.size, 0, none⟩ = some (.int .i64 (N : Int)) ∧ u'.cell? ⟨w.heap.size, 1, none⟩ = some (.int .i64 h) ∧ u'.cell? ⟨w.heap.size + 1, 0, none⟩ = some (.int .i64 s0) ∧ u'.cell? ⟨w.heap.size + 1, 1, none⟩ = some (.int .i64 s1) ∧ Kept w 1 u') := by
    rintro u u' ⟨e0, e1, e2, e3, kk⟩ q
    have hr := kk.room
    have hr0 : w.heap.size < u.heap.size := by omega
    exact ⟨(q.cell (p := ⟨w.heap.size, 0, none⟩) (by assumption)).trans e0, (q.cell (p := ⟨w.heap.size, 1, none⟩) (by assumption)).trans e1, (q.cell (p := ⟨w.heap.size + 1, 0, none⟩) (by assumption)).trans e2, (q.cell (p := ⟨w.heap.size + 1, 1, none⟩) (by assumption)).trans e3, kk.next q⟩
  have held_below : ∀ {u : World}, (u.cell? ⟨w.heap.size, 0, none⟩ = some (.int .i64 (N : Int)) ∧ u.cell? ⟨w.heap.size, 1, none⟩ = some (.int .i64 h) ∧ u.cell? ⟨w.heap.size + 1, 0, none⟩ = some (.int .i64 s0) ∧ u.cell? ⟨w.heap.size + 1, 1, none⟩ = some (.int .i64 s1) ∧ Kept w 1 u) → Below w.heap.size w u := by
    rintro u ⟨-, -, -, -, kk⟩
    exact kk.below
  have HS := Lib.hid (show wz.drew.cell? ⟨w.heap.size, 0, none⟩ = some (.int .i64 (N : Int)) ∧ wz.drew.cell? ⟨w.heap.size, 1, none⟩ = some (.int .i64 h) ∧ wz.drew.cell? ⟨w.heap.size + 1, 0, none⟩ = some (.int .i64 s0) ∧ wz.drew.cell? ⟨w.heap.size + 1, 1, none⟩ = some (.int .i64 s1) ∧ Kept w 1 wz.drew from ⟨hc0, hc1, hc2, hc3, hK.drew⟩)
  clear hK hc0 hc1 hc2 hc3
  go_region_held3 (fun w' => w'.cell? ⟨w.heap.size, 0, none⟩ = some (.int .i64 (N : Int)) ∧ w'.cell? ⟨w.heap.size, 1, none⟩ = some (.int .i64 h) ∧ w'.cell? ⟨w.heap.size + 1, 0, none⟩ = some (.int .i64 s0) ∧ w'.cell? ⟨w.heap.size + 1, 1, none⟩ = some (.int .i64 s1) ∧ Kept w 1 w')
    (first | exact HS.out | assumption | exact held_next (by assumption) (by assumption) | exact held_next (by assumption) ((Below.refl _ _).alloc (Nat.le_refl _) _))
    (first
      | (go_at_call 29; with_reducible refine Calls.mono (R0.out _) ?_; rintro e w' ⟨rfl, hb⟩)
      | (go_at_call 29; with_reducible refine Calls.mono (R1.out _) ?_; rintro e w' ⟨rfl, hb⟩)
      | (go_at_call 57; refine Calls.mono (RV.out _ _ (by first | (simp; done) | (simp; omega)) (by first | (simp; done) | (rw [World.cell?_alloc_lt _ _ _ (by simp)]; simp; done)) (by first | (simp; done) | (rw [World.cell?_alloc_lt _ _ _ (by simp)]; simp; done)) (by first | (simp; done) | (rw [World.cell?_alloc_lt _ _ _ (by simp)]; simp; done)) (by first | (simp; done) | (rw [World.cell?_alloc_lt _ _ _ (by simp)]; simp; done))) ?_; rintro e w' ⟨rfl, hb⟩))
  all_goals
    go_wp2
    go_ret
    exact ⟨rfl, held_below (by assumption)⟩

end Go.Proofs.YtkchbilkmoemaaaGreatDoor.RefChn

namespace Go.Proofs.YtkchbilkmoemaaaGreatDoor.RefChn
open Go.RowKit Mur Sha Chn
set_option maxRecDepth 100000

theorem run_no (n h : Int) (hr : ¬ Right n h) (room v : ByteArray) (s0 s1 a b : Int) (w : World) :
    Calls Tryz.prog 59 #[.agg #[.int .i64 n, .int .i64 h], .string room, .agg #[.int .i64 s0, .int .i64 s1], .int .i64 a, .int .i64 b, .string v] w fun e w' => e = .returned (.string ⟨#[]⟩) ∧ Below w.heap.size w w' := by
  have R1 := Lib.hid (fun u => right_no n h hr u)
  clear hr
  go_enter Tryz.func59, Tryz.ntmps59
  go_wp2_with fail
  refine (R1.out _).mono ?_
  rintro e w1 ⟨rfl, hb⟩
  have HB := Lib.hid ((((Below.refl w.heap.size w).alloc (Nat.le_refl _) (.cells #[.int .i64 n, .int .i64 h] 23)).alloc (by simp) (.cells #[.int .i64 s0, .int .i64 s1] 49)).trans (hb.mono (by simp <;> omega)))
  clear hb
  go_wp2
  go_ret
  exact ⟨rfl, HB.out⟩

set_option maxHeartbeats 3200000 in
theorem run_any (N : Nat) (h : Int) (room v : ByteArray) (s0 s1 a b : Int) (V : ByteArray) (w : World) (hr : Right (N : Int) h) (hs : room.size + v.size ≤ 800000) (hV : V = tx (runI N room.data.toList s0 s1 a b v.data.toList)) :
    Calls Tryz.prog 59 #[.agg #[.int .i64 (N : Int), .int .i64 h], .string room, .agg #[.int .i64 s0, .int .i64 s1], .int .i64 a, .int .i64 b, .string v] w fun e w' => e = .returned (.string V) ∧ Below w.heap.size w w' := by
  have R1 := Lib.hid (fun u => right_yes N h hr u)
  have hN : N ≤ 32 := by have := hr.2.1; omega
  clear hr
  have hsz : ∀ k, (run N room.data.toList s0 s1 a.toNat k v.data.toList).length ≤ v.size + 32 := fun k => run_le N _ _ _ _ _ _ hN
  have HV := Lib.hid hV
  have HSZ := Lib.hid hsz
  clear hV hsz
  have hK : Kept w 1 ((w.alloc (.cells #[.int .i64 (N : Int), .int .i64 h] 23)).alloc (.cells #[.int .i64 s0, .int .i64 s1] 49)) := ⟨by simp, (((Below.refl w.heap.size w).alloc (Nat.le_refl _) _).alloc (by simp) _)⟩
  have hc0 : ((w.alloc (.cells #[.int .i64 (N : Int), .int .i64 h] 23)).alloc (.cells #[.int .i64 s0, .int .i64 s1] 49)).cell? ⟨w.heap.size, 0, none⟩ = some (.int .i64 (N : Int)) := by first | (simp; done) | (rw [World.cell?_alloc_lt _ _ _ (by simp)]; simp)
  have hc1 : ((w.alloc (.cells #[.int .i64 (N : Int), .int .i64 h] 23)).alloc (.cells #[.int .i64 s0, .int .i64 s1] 49)).cell? ⟨w.heap.size, 1, none⟩ = some (.int .i64 h) := by first | (simp; done) | (rw [World.cell?_alloc_lt _ _ _ (by simp)]; simp)
  have hc2 : ((w.alloc (.cells #[.int .i64 (N : Int), .int .i64 h] 23)).alloc (.cells #[.int .i64 s0, .int .i64 s1] 49)).cell? ⟨w.heap.size + 1, 0, none⟩ = some (.int .i64 s0) := by first | (simp; done) | (rw [World.cell?_alloc_lt _ _ _ (by simp)]; simp)
  have hc3 : ((w.alloc (.cells #[.int .i64 (N : Int), .int .i64 h] 23)).alloc (.cells #[.int .i64 s0, .int .i64 s1] 49)).cell? ⟨w.heap.size + 1, 1, none⟩ = some (.int .i64 s1) := by first | (simp; done) | (rw [World.cell?_alloc_lt _ _ _ (by simp)]; simp)
  go_enter Tryz.func59, Tryz.ntmps59
  go_upto_region 1 with (fail)
  generalize ((w.alloc (.cells #[.int .i64 (N : Int), .int .i64 h] 23)).alloc (.cells #[.int .i64 s0, .int .i64 s1] 49)) = wz at *
  have hl1 := hK.room
  have hl0 : w.heap.size < wz.heap.size := by omega
  have HC := Lib.hid (fun (u : World) (q : Below wz.heap.size wz u) => (⟨(q.cell (p := ⟨w.heap.size, 0, none⟩) hl0).trans hc0, (q.cell (p := ⟨w.heap.size, 1, none⟩) hl0).trans hc1, (q.cell (p := ⟨w.heap.size + 1, 0, none⟩) hl1).trans hc2, (q.cell (p := ⟨w.heap.size + 1, 1, none⟩) hl1).trans hc3, hK.next q⟩ :
    u.cell? ⟨w.heap.size, 0, none⟩ = some (.int .i64 (N : Int)) ∧ u.cell? ⟨w.heap.size, 1, none⟩ = some (.int .i64 h) ∧ u.cell? ⟨w.heap.size + 1, 0, none⟩ = some (.int .i64 s0) ∧ u.cell? ⟨w.heap.size + 1, 1, none⟩ = some (.int .i64 s1) ∧ Kept w 1 u))
  clear hK hc0 hc1 hc2 hc3 hl0 hl1
  obtain ⟨c0, c1, c2, c3, -⟩ := HC.out wz (Below.refl _ _)
  go_wp2_with fail
  refine (R1.out _).mono ?_
  rintro e w1 ⟨rfl, hb⟩
  have HB := Lib.hid hb
  clear hb c0 c1 c2 c3
  obtain ⟨F, hF⟩ : ∃ F, F = a.toNat := ⟨_, rfl⟩
  obtain ⟨S, hS⟩ : ∃ S, S = stepsOf a b := ⟨_, rfl⟩
  have hS2 : S = min b.toNat 15 - F := by rw [hS, hF]; rfl
  have hmx : max a 0 = (F : Int) := by omega
  have HVV := Lib.hid (show V = tx (run N room.data.toList s0 s1 F S v.data.toList) from by rw [HV.out, hF, hS]; rfl)
  rw [← hF] at HSZ
  have HF := Lib.hid hF
  have HS2 := Lib.hid hS2
  clear hF hS hS2
  go_wp2_with fail
  clear hmx
  go_loopw [5, 13] (fun x i wr => ∃ (c : Nat) (t : ByteArray), c ≤ S ∧ i = .int .i64 ((F + c : Nat) : Int) ∧ x = .string t ∧ t = tx (run N room.data.toList s0 s1 F c v.data.toList) ∧ (wr.cell? ⟨w.heap.size, 0, none⟩ = some (.int .i64 (N : Int)) ∧ wr.cell? ⟨w.heap.size, 1, none⟩ = some (.int .i64 h) ∧ wr.cell? ⟨w.heap.size + 1, 0, none⟩ = some (.int .i64 s0) ∧ wr.cell? ⟨w.heap.size + 1, 1, none⟩ = some (.int .i64 s1) ∧ Kept w 1 wr)) (fun _ i _ => F + S - (intOf i).toNat)
  case atStart => exact ⟨0, v, by omega, rfl, rfl, rfl, HC.out _ HB.out⟩
  case round =>
    clear HB
    obtain ⟨c, t, hc, rfl, rfl, ht, hbel⟩ := hrel
    have hts : t.size ≤ v.size + 32 := by rw [ht]; exact HSZ.out c
    have HT := Lib.hid ht
    have HW := Lib.hid hbel
    clear ht hbel
    obtain ⟨j, hj⟩ : ∃ j, j = F + c := ⟨_, rfl⟩
    by_cases hlt : c < S
    · have hd : decide ((j : Int) < min b 15) = true := by have := HS2.out; simp; omega
      have hj15 : j < 15 := by have := HS2.out; omega
      obtain ⟨T, hTT⟩ : ∃ T, T = tx (Chn.step N room.data.toList s0 s1 (j : Int) t.data.toList) := ⟨_, rfl⟩
      have hT2 : T = tx (run N room.data.toList s0 s1 F (c + 1) v.data.toList) := by rw [hTT, HT.out, run, ← hj]
      have HT2 := Lib.hid hT2
      have HJ := Lib.hid hj
      rw [← hj]
      clear hT2 hj
      obtain ⟨M0, hM0⟩ : ∃ M, M = tx (num s0 4) := ⟨_, rfl⟩
      have hs0 : M0.size = 4 := by rw [hM0]; exact num_length _ _
      have R0 := Lib.hid (fun u => num_ref4 s0 M0 u hM0)
      have hw0 := wrap_low s0
      obtain ⟨M1, hM1⟩ : ∃ M, M = tx (num s1 2) := ⟨_, rfl⟩
      have hs1 : M1.size = 2 := by rw [hM1]; exact num_length _ _
      have R1 := Lib.hid (fun u => num_ref2 s1 M1 u hM1)
      have hw1 := wrap_low s1
      obtain ⟨M2, hM2⟩ : ∃ M, M = tx (num (j : Int) 1) := ⟨_, rfl⟩
      have hs2 : M2.size = 1 := by rw [hM2]; exact num_length _ _
      have R2 := Lib.hid (fun u => num_ref1 (j : Int) M2 u hM2)
      have hw2 := wrap_low (j : Int)
      obtain ⟨D, hD⟩ : ∃ D, D = tx (sha (parts [(⟨#[114, 117, 110]⟩ : ByteArray).data.toList, (room : ByteArray).data.toList, (M0 : ByteArray).data.toList, (M1 : ByteArray).data.toList, (M2 : ByteArray).data.toList, (t : ByteArray).data.toList])) := ⟨_, rfl⟩
      have hDs : D.size = 32 := by rw [hD]; exact sha_length _
      have hcut : D.extract 0 N = T := cut_take D T N _ hD (by rw [hTT, hM0, hM1, hM2]; rfl)
      have hN1 : (N : Int) ≤ 32 := by omega
      have hN2 : (N : Int) ≤ D.size := by omega
      have hN3 : (N : Int).toNat = N := by omega
      have RV := Lib.hid (show ∀ (b0 : Nat) (u : World), b0 < u.heap.size → u.cell? ⟨b0, 0, none⟩ = some (.string ⟨#[114, 117, 110]⟩) → u.cell? ⟨b0, 1, none⟩ = some (.string room) → u.cell? ⟨b0, 2, none⟩ = some (.string M0) → u.cell? ⟨b0, 3, none⟩ = some (.string M1) → u.cell? ⟨b0, 4, none⟩ = some (.string M2) → u.cell? ⟨b0, 5, none⟩ = some (.string t) → Calls Tryz.prog 57 #[.slice (some ⟨b0, 0, none⟩) 6 6] u fun e w' => e = .returned (.string D) ∧ Below u.heap.size u w' from
        fun b0 u h0 d0 d1 d2 d3 d4 d5 => parts_six ⟨#[114, 117, 110]⟩ room M0 M1 M2 t b0 D u (by show 3 + room.size + M0.size + M1.size + M2.size + t.size ≤ _; omega) hD h0 d0 d1 d2 d3 d4 d5)
      clear hTT hD hDs hM0 hs0 hM1 hs1 hM2 hs2
      have held_next : ∀ {u u' : World}, (u.cell? ⟨w.heap.size, 0, none⟩ = some (.int .i64 (N : Int)) ∧ u.cell? ⟨w.heap.size, 1, none⟩ = some (.int .i64 h) ∧ u.cell? ⟨w.heap.size + 1, 0, none⟩ = some (.int .i64 s0) ∧ u.cell? ⟨w.heap.size + 1, 1, none⟩ = some (.int .i64 s1) ∧ Kept w 1 u) → Below u.heap.size u u' → (u'.cell? ⟨w.heap.size, 0, none⟩ = some (.int .i64 (N : Int)) ∧ u'.cell? ⟨w.heap.size, 1, none⟩ = some (.int .i64 h) ∧ u'.cell? ⟨w.heap.size + 1, 0, none⟩ = some (.int .i64 s0) ∧ u'.cell? ⟨w.heap.size + 1, 1, none⟩ = some (.int .i64 s1) ∧ Kept w 1 u') := by
        rintro u u' ⟨e0, e1, e2, e3, kk⟩ q
        have hr := kk.room
        have hr0 : w.heap.size < u.heap.size := by omega
        exact ⟨(q.cell (p := ⟨w.heap.size, 0, none⟩) (by assumption)).trans e0, (q.cell (p := ⟨w.heap.size, 1, none⟩) (by assumption)).trans e1, (q.cell (p := ⟨w.heap.size + 1, 0, none⟩) (by assumption)).trans e2, (q.cell (p := ⟨w.heap.size + 1, 1, none⟩) (by assumption)).trans e3, kk.next q⟩
      have held_below : ∀ {u : World}, (u.cell? ⟨w.heap.size, 0, none⟩ = some (.int .i64 (N : Int)) ∧ u.cell? ⟨w.heap.size, 1, none⟩ = some (.int .i64 h) ∧ u.cell? ⟨w.heap.size + 1, 0, none⟩ = some (.int .i64 s0) ∧ u.cell? ⟨w.heap.size + 1, 1, none⟩ = some (.int .i64 s1) ∧ Kept w 1 u) → Below w.heap.size w u := by
        rintro u ⟨-, -, -, -, kk⟩
        exact kk.below
      have HS := Lib.hid (show wr.drew.cell? ⟨w.heap.size, 0, none⟩ = some (.int .i64 (N : Int)) ∧ wr.drew.cell? ⟨w.heap.size, 1, none⟩ = some (.int .i64 h) ∧ wr.drew.cell? ⟨w.heap.size + 1, 0, none⟩ = some (.int .i64 s0) ∧ wr.drew.cell? ⟨w.heap.size + 1, 1, none⟩ = some (.int .i64 s1) ∧ Kept w 1 wr.drew from by obtain ⟨c0, c1, c2, c3, hk⟩ := HW.out; exact ⟨c0, c1, c2, c3, hk.drew⟩)
      go_upto_region 6 with (fail)
      clear hd
      go_region_held3 (fun w' => w'.cell? ⟨w.heap.size, 0, none⟩ = some (.int .i64 (N : Int)) ∧ w'.cell? ⟨w.heap.size, 1, none⟩ = some (.int .i64 h) ∧ w'.cell? ⟨w.heap.size + 1, 0, none⟩ = some (.int .i64 s0) ∧ w'.cell? ⟨w.heap.size + 1, 1, none⟩ = some (.int .i64 s1) ∧ Kept w 1 w')
        (first | exact HS.out | assumption | exact held_next (by assumption) (by assumption) | exact held_next (by assumption) ((Below.refl _ _).alloc (Nat.le_refl _) _))
        (first
          | (go_at_call 29; with_reducible refine Calls.mono (R0.out _) ?_; rintro e w' ⟨rfl, hb⟩)
          | (go_at_call 29; with_reducible refine Calls.mono (R1.out _) ?_; rintro e w' ⟨rfl, hb⟩)
          | (go_at_call 29; with_reducible refine Calls.mono (R2.out _) ?_; rintro e w' ⟨rfl, hb⟩)
          | (go_at_call 57; refine Calls.mono (RV.out _ _ (by first | (simp; done) | (simp; omega)) (by first | (simp; done) | (rw [World.cell?_alloc_lt _ _ _ (by simp)]; simp; done)) (by first | (simp; done) | (rw [World.cell?_alloc_lt _ _ _ (by simp)]; simp; done)) (by first | (simp; done) | (rw [World.cell?_alloc_lt _ _ _ (by simp)]; simp; done)) (by first | (simp; done) | (rw [World.cell?_alloc_lt _ _ _ (by simp)]; simp; done)) (by first | (simp; done) | (rw [World.cell?_alloc_lt _ _ _ (by simp)]; simp; done)) (by first | (simp; done) | (rw [World.cell?_alloc_lt _ _ _ (by simp)]; simp; done))) ?_; rintro e w' ⟨rfl, hb⟩))
      all_goals
        have hinv : w'.cell? ⟨w.heap.size, 0, none⟩ = some (.int .i64 (N : Int)) ∧ w'.cell? ⟨w.heap.size, 1, none⟩ = some (.int .i64 h) ∧ w'.cell? ⟨w.heap.size + 1, 0, none⟩ = some (.int .i64 s0) ∧ w'.cell? ⟨w.heap.size + 1, 1, none⟩ = some (.int .i64 s1) ∧ Kept w 1 w' := by assumption
        have HI := Lib.hid hinv
        clear hinv
        go_wp2
        go_roundw
        case rel => exact ⟨c + 1, T, by omega, by have := HJ.out; go_num, rfl, HT2.out, HI.out⟩
        case measure => have := HJ.out; simp [intOf]; omega
    · have hd : decide ((j : Int) < min b 15) = false := by have := HS2.out; have := HF.out; simp; omega
      have hcS : c = S := by omega
      subst hcS
      rw [← hj]
      clear hj
      have he : V = t := by rw [HVV.out, HT.out]
      subst he
      go_wp2
      go_ret
      exact ⟨rfl, HW.out.2.2.2.2.below⟩

end Go.Proofs.YtkchbilkmoemaaaGreatDoor.RefChn

namespace Go.Proofs.YtkchbilkmoemaaaGreatDoor.RefChn
open Go.RowKit Mur Sha Chn
set_option maxRecDepth 100000

/-- The pieces as texts. -/
def pieces (F : Nat → List UInt8) (k : Nat) : List ByteArray := (List.range k).map fun c => tx (F c)
theorem pieces_length (F : Nat → List UInt8) (k : Nat) : (pieces F k).length = k := by simp [pieces]
theorem pieces_next (F : Nat → List UInt8) (k : Nat) : pieces F (k + 1) = pieces F k ++ [tx (F k)] := by simp [pieces, List.range_succ]
theorem pieces_at (F : Nat → List UInt8) (M k : Nat) (h : k < M) : (pieces F M)[k]? = some (tx (F k)) := by simp [pieces, h]
theorem upto_next (F : Nat → List UInt8) (k : Nat) : tx (upto F (k + 1)) = tx (upto F k) ++ tx (F k) := by
  apply ByteArray.ext
  apply Array.ext'
  simp [upto]

set_option maxHeartbeats 3200000 in
theorem ends_any (N : Nat) (h : Int) (room : ByteArray) (leaf : Int) (F : Nat → List UInt8) (M : Nat) (V : ByteArray) (g cp : Nat) (w : World) (hN : N ≤ 32) (hM : M ≤ 67) (hF : ∀ c, c < M → (F c).length = N) (hs : room.size ≤ 800000) (hg : g < w.heap.size) (hcell : ∀ c, c < M → w.cell? ⟨g, c, none⟩ = some (.string (tx (F c)))) (hV : V = tx (together N room.data.toList leaf (upto F M))) :
    Calls Tryz.prog 67 #[.agg #[.int .i64 (N : Int), .int .i64 h], .string room, .int .i64 leaf, .slice (some ⟨g, 0, none⟩) M cp] w fun e w' => e = .returned (.string V) ∧ Below w.heap.size w w' := by
  have hul : ∀ k, k ≤ M → (upto F k).length = N * k := fun k => by
    induction k with
    | zero => intro _; rfl
    | succ k ih => intro hk; rw [upto, List.length_append, ih (by omega), hF k (by omega), Nat.mul_succ]
  have hpl := fun k (hk : k ≤ M) => show N * k ≤ 2144 from Nat.le_trans (Nat.mul_le_mul hN (show k ≤ 67 by omega)) (by decide)
  obtain ⟨E, hE⟩ : ∃ E : ByteArray, E = tx (upto F M) := ⟨_, rfl⟩
  have hEs : E.size ≤ 2144 := by rw [hE]; have := hul M (Nat.le_refl _); have := hpl M (Nat.le_refl _); show (upto F M).length ≤ _; omega
  have hVE : V = tx (together N room.data.toList leaf E.data.toList) := by rw [hV, hE]
  obtain ⟨M0, hM0⟩ : ∃ M, M = tx (num leaf 4) := ⟨_, rfl⟩
  have hs0 : M0.size = 4 := by rw [hM0]; exact num_length _ _
  have R0 := Lib.hid (fun u => num_ref4 leaf M0 u hM0)
  have hw0 := wrap_low leaf
  obtain ⟨D, hD⟩ : ∃ D, D = tx (sha (parts [(⟨#[108, 101, 97, 102]⟩ : ByteArray).data.toList, (room : ByteArray).data.toList, (M0 : ByteArray).data.toList, (E : ByteArray).data.toList])) := ⟨_, rfl⟩
  have hDs : D.size = 32 := by rw [hD]; exact sha_length _
  have hcut : D.extract 0 N = V := cut_take D V N _ hD (by rw [hVE, hM0]; rfl)
  have hN1 : (N : Int) ≤ 32 := by omega
  have hN2 : (N : Int) ≤ D.size := by omega
  have hN3 : (N : Int).toNat = N := by omega
  have RV := Lib.hid (show ∀ (b0 : Nat) (u : World), b0 < u.heap.size → u.cell? ⟨b0, 0, none⟩ = some (.string ⟨#[108, 101, 97, 102]⟩) → u.cell? ⟨b0, 1, none⟩ = some (.string room) → u.cell? ⟨b0, 2, none⟩ = some (.string M0) → u.cell? ⟨b0, 3, none⟩ = some (.string E) → Calls Tryz.prog 57 #[.slice (some ⟨b0, 0, none⟩) 4 4] u fun e w' => e = .returned (.string D) ∧ Below u.heap.size u w' from
    fun b0 u h0 d0 d1 d2 d3 => parts_four ⟨#[108, 101, 97, 102]⟩ room M0 E b0 D u (by show 4 + room.size + M0.size + E.size ≤ _; omega) hD h0 d0 d1 d2 d3)
  clear hV hVE hD hDs hM0 hs0
  have hK : Kept w 0 (w.alloc (.cells #[.int .i64 (N : Int), .int .i64 h] 23)) := ⟨by simp, ((Below.refl w.heap.size w).alloc (Nat.le_refl _) _)⟩
  have hc0 : (w.alloc (.cells #[.int .i64 (N : Int), .int .i64 h] 23)).cell? ⟨w.heap.size, 0, none⟩ = some (.int .i64 (N : Int)) := by simp
  have hc1 : (w.alloc (.cells #[.int .i64 (N : Int), .int .i64 h] 23)).cell? ⟨w.heap.size, 1, none⟩ = some (.int .i64 h) := by simp
  have hbz : Below w.heap.size w (w.alloc (.cells #[.int .i64 (N : Int), .int .i64 h] 23)) := (Below.refl w.heap.size w).alloc (Nat.le_refl _) _
  go_enter Tryz.func67, Tryz.ntmps67
  go_upto_region 1 with (fail)
  generalize (w.alloc (.cells #[.int .i64 (N : Int), .int .i64 h] 23)) = wz at *
  have HCL := Lib.hid (fun c (hc : c < M) => (hbz.cell (p := ⟨g, c, none⟩) hg).trans (hcell c hc))
  have HE := Lib.hid hE
  have HUL := Lib.hid hul
  have HPL := Lib.hid hpl
  have HF := Lib.hid hF
  clear hbz hcell hE hul hpl hF
  have held_next : ∀ {u u' : World}, (u.cell? ⟨w.heap.size, 0, none⟩ = some (.int .i64 (N : Int)) ∧ u.cell? ⟨w.heap.size, 1, none⟩ = some (.int .i64 h) ∧ Kept w 0 u) → Below u.heap.size u u' → (u'.cell? ⟨w.heap.size, 0, none⟩ = some (.int .i64 (N : Int)) ∧ u'.cell? ⟨w.heap.size, 1, none⟩ = some (.int .i64 h) ∧ Kept w 0 u') := by
    rintro u u' ⟨e0, e1, kk⟩ q
    have hr := kk.room
    have hr0 : w.heap.size < u.heap.size := by omega
    exact ⟨(q.cell (p := ⟨w.heap.size, 0, none⟩) (by assumption)).trans e0, (q.cell (p := ⟨w.heap.size, 1, none⟩) (by assumption)).trans e1, kk.next q⟩
  have held_below : ∀ {u : World}, (u.cell? ⟨w.heap.size, 0, none⟩ = some (.int .i64 (N : Int)) ∧ u.cell? ⟨w.heap.size, 1, none⟩ = some (.int .i64 h) ∧ Kept w 0 u) → Below w.heap.size w u := by
    rintro u ⟨-, -, kk⟩
    exact kk.below
  have HS := Lib.hid (show wz.drew.cell? ⟨w.heap.size, 0, none⟩ = some (.int .i64 (N : Int)) ∧ wz.drew.cell? ⟨w.heap.size, 1, none⟩ = some (.int .i64 h) ∧ Kept w 0 wz.drew from ⟨hc0, hc1, hK.drew⟩)
  clear hK hc0 hc1
  go_wp2_with fail
  go_loopw [9, 11, 14] (fun x _ i wr => ∃ k : Nat, k ≤ M ∧ i = .int .i64 k ∧ x = .string (tx (upto F k)) ∧ wr = wz) (fun _ _ i _ => M - (intOf i).toNat)
  case atStart => exact ⟨0, by omega, rfl, rfl, rfl⟩
  case round =>
    obtain ⟨k, hk, rfl, rfl, rfl⟩ := hrel
    by_cases hlt : k < M
    · have hc := HCL.out k hlt
      have hnx := upto_next F k
      have hs1 : (tx (upto F k)).size = N * k := HUL.out k hk
      have hs2 : (tx (F k)).size = N := HF.out k hlt
      have hs3 := HPL.out k hk
      obtain ⟨X, hX⟩ : ∃ X, X = tx (upto F k) := ⟨_, rfl⟩
      obtain ⟨Y, hY⟩ : ∃ X, X = tx (F k) := ⟨_, rfl⟩
      rw [← hX, ← hY] at hnx
      rw [← hY] at hc hs2
      rw [← hX] at hs1 ⊢
      have n2 : ¬ 9223372036854775807 < X.size + Y.size := by omega
      have HNX := Lib.hid hnx
      clear hX hY hnx hs1 hs2 hs3
      go_wp2
      go_roundw
      case rel => exact ⟨k + 1, by omega, by go_num, by rw [HNX.out], trivial⟩
      case measure => simp [intOf]; omega
    · obtain rfl : k = M := by omega
      rw [← HE.out]
      go_upto_region 7 with (fail)
      go_region_held3 (fun w' => w'.cell? ⟨w.heap.size, 0, none⟩ = some (.int .i64 (N : Int)) ∧ w'.cell? ⟨w.heap.size, 1, none⟩ = some (.int .i64 h) ∧ Kept w 0 w')
        (first | exact HS.out | assumption | exact held_next (by assumption) (by assumption) | exact held_next (by assumption) ((Below.refl _ _).alloc (Nat.le_refl _) _))
        (first
          | (go_at_call 29; with_reducible refine Calls.mono (R0.out _) ?_; rintro e w' ⟨rfl, hb⟩)
          | (go_at_call 57; refine Calls.mono (RV.out _ _ (by first | (simp; done) | (simp; omega)) (by first | (simp; done) | (rw [World.cell?_alloc_lt _ _ _ (by simp)]; simp; done)) (by first | (simp; done) | (rw [World.cell?_alloc_lt _ _ _ (by simp)]; simp; done)) (by first | (simp; done) | (rw [World.cell?_alloc_lt _ _ _ (by simp)]; simp; done)) (by first | (simp; done) | (rw [World.cell?_alloc_lt _ _ _ (by simp)]; simp; done))) ?_; rintro e w' ⟨rfl, hb⟩))
      all_goals
        go_wp2
        go_ret
        exact ⟨rfl, held_below (by assumption)⟩

end Go.Proofs.YtkchbilkmoemaaaGreatDoor.RefChn

namespace Go.Proofs.YtkchbilkmoemaaaGreatDoor.RefChn
open Go.RowKit Mur Sha Chn
set_option maxRecDepth 100000

/-- Filled up with bytes 0, and cut. -/
theorem told_cut (N : Nat) (d : ByteArray) (hN : N ≤ 32) : (d ++ (⟨(List.replicate 32 (0 : UInt8)).toArray⟩ : ByteArray)).extract 0 N = tx (told N d.data.toList) := by
  apply ByteArray.ext
  apply Array.ext'
  rw [extract_take]
  have hs : d.data.toList.length = d.size := rfl
  rw [ByteArray.data_append, Array.toList_append, List.take_append, tx_list, told]
  congr 1
  show (List.replicate 32 (0 : UInt8)).take (N - d.data.toList.length) = _
  rw [List.take_replicate]
  congr 1
  exact Nat.min_eq_left (Nat.le_trans (Nat.sub_le _ _) hN)
theorem made_bytes (u : World) (F : Nat) : Row (u.alloc (.cells (madeCells #[.int .u8 0] F) 5)) u.heap.size (bytesV (List.replicate F 0)) := RefSha.made_bytes u F

theorem quo_nat (n q : Nat) (h : n < 1000000) : wrap64 ((n : Int).tdiv (q : Int)) = ((n / q : Nat) : Int) := by
  have hle := Nat.div_le_self n q
  rw [Int.tdiv_eq_ediv_of_nonneg (by omega), ← Int.natCast_ediv]
  generalize n / q = m at *
  exact IntWalk.wrap64_in _ (by omega)
theorem rem_nat (n q : Nat) : (n : Int).tmod (q : Int) = ((n % q : Nat) : Int) := by
  rw [Int.tmod_eq_emod_of_nonneg (by omega), ← Int.natCast_emod]
theorem nib_hi (x : UInt8) : wrap64 ((wrap64 (x.toNat : Int)).tdiv 16) = ((x.toNat / 16 : Nat) : Int) := by
  have := x.toNat_lt
  have e : wrap64 (x.toNat : Int) = (x.toNat : Int) := IntWalk.wrap64_in _ (by omega)
  rw [e]
  exact quo_nat x.toNat 16 (by omega)
theorem nib_lo (x : UInt8) : (wrap64 (x.toNat : Int)).tmod 16 = ((x.toNat % 16 : Nat) : Int) := by
  have := x.toNat_lt
  have e : wrap64 (x.toNat : Int) = (x.toNat : Int) := IntWalk.wrap64_in _ (by omega)
  rw [e]
  exact rem_nat x.toNat 16

set_option maxHeartbeats 3200000 in
theorem digits_any (N : Nat) (h : Int) (d : ByteArray) (w : World) (hr : Right (N : Int) h) (hds : d.size ≤ 1099511627776) :
    Calls Tryz.prog 58 #[.agg #[.int .i64 (N : Int), .int .i64 h], .string d] w fun e w' => ∃ v, e = .returned v ∧ w'.ownsRow w.heap.size 3 1 v (2 * N + 3) (Ints.intsV (digs N d.data.toList)) ∧ Below w.heap.size w w' := by
  have R1 := Lib.hid (fun u => right_yes N h hr u)
  have hN : N ≤ 32 := by have := hr.2.1; omega
  have hN2 : 2 ≤ N := by have := hr.1; omega
  clear hr
  have hmk : ∀ u : World, (Instr.makeSlice 60 (.int .i64 32) (.int .i64 32)).run Tryz.prog u = .ok (.slice (some ⟨u.heap.size, 0, none⟩) 32 32) (u.alloc (.cells (madeCells #[.int .u8 0] 32) 5)) := fun u => Lanes.make_u8 u 32 (by omega)
  have hcv := fun (u : World) => string_row (P := Tryz.prog) (made_bytes u 32) 60 5 9 Tryz.underlying60 Tryz.underlying5 Tryz.underlying9 32 32 (by simp)
  obtain ⟨Z, hZ⟩ : ∃ Z : ByteArray, Z = ⟨(List.replicate 32 (0 : UInt8)).toArray⟩ := ⟨_, rfl⟩
  have hZs : Z.size = 32 := by rw [hZ]; rfl
  have htc := told_cut N d hN
  rw [← hZ] at hcv htc
  obtain ⟨T, hT⟩ : ∃ T, T = told N d.data.toList := ⟨_, rfl⟩
  have hTl : T.length = N := by rw [hT]; exact told_length _ _
  have hD : digs N d.data.toList = nibs T ++ rest (left N T) := by rw [hT]; rfl
  rw [hD]
  rw [← hT] at htc
  have HTL := Lib.hid hTl
  clear hD hT hZ hTl
  have hB0 := (Below.refl w.heap.size w).alloc (Nat.le_refl _) (.cells #[.int .i64 (N : Int), .int .i64 h] 23)
  have hc0 : (w.alloc (.cells #[.int .i64 (N : Int), .int .i64 h] 23)).cell? ⟨w.heap.size, 0, none⟩ = some (.int .i64 (N : Int)) := by simp
  have hc1 : (w.alloc (.cells #[.int .i64 (N : Int), .int .i64 h] 23)).cell? ⟨w.heap.size, 1, none⟩ = some (.int .i64 h) := by simp
  have hlt : w.heap.size < (w.alloc (.cells #[.int .i64 (N : Int), .int .i64 h] 23)).heap.size := by simp
  go_enter Tryz.func58, Tryz.ntmps58
  go_wp2_with fail
  generalize w.alloc (.cells #[.int .i64 (N : Int), .int .i64 h] 23) = wz at *
  have HC := Lib.hid (fun (u : World) (q : Below wz.heap.size wz u) => (⟨(q.cell (p := ⟨w.heap.size, 0, none⟩) hlt).trans hc0, (q.cell (p := ⟨w.heap.size, 1, none⟩) hlt).trans hc1⟩ : u.cell? ⟨w.heap.size, 0, none⟩ = some (.int .i64 (N : Int)) ∧ u.cell? ⟨w.heap.size, 1, none⟩ = some (.int .i64 h)))
  have HB0 := Lib.hid hB0
  clear hB0 hc0 hc1 hlt
  refine (R1.out _).mono ?_
  rintro e w1 ⟨rfl, hb1⟩
  have HB1 := Lib.hid hb1
  clear hb1
  go_upto_region 3 with (fail)
  have hcv2 : (convert 60 9 (.slice (some ⟨w1.heap.size, 0, none⟩) 32 32)).run Tryz.prog (w1.alloc (.cells (madeCells #[.int .u8 0] 32) 5)).drew = .ok (.string Z) (w1.alloc (.cells (madeCells #[.int .u8 0] 32) 5)).drew := hcv w1.drew
  have hw2 := HB1.out.alloc HB1.out.size (.cells (madeCells #[.int .u8 0] 32) 5)
  obtain ⟨c0, -⟩ := HC.out _ HB1.out
  obtain ⟨c1, -⟩ := HC.out _ HB1.out.drew
  obtain ⟨d0, -⟩ := HC.out _ hw2
  obtain ⟨d1, -⟩ := HC.out _ hw2.drew
  have n1 : (N : Int) ≤ 32 := by omega
  have n2 : (N : Int).toNat = N := by omega
  have n3 : (d ++ Z).size = d.size + 32 := by rw [ByteArray.size_append, hZs]
  have n4 : ¬ 9223372036854775807 < d.size + 32 := by omega
  have n5 : (N : Int) ≤ (d.size : Int) + 32 := by omega
  go_region
  have HW2 := Lib.hid hw2.drew
  clear c0 c1 d0 d1 n1 n2 n3 n4 n5 hcv2 hw2 hmk hcv hZs htc
  generalize (w1.alloc (.cells (madeCells #[.int .u8 0] 32) 5)).drew = w2 at *
  obtain ⟨c0, -⟩ := HC.out _ HW2.out
  go_wp2_with fail
  clear c0
  have hown0 : w2.ownsRow w2.heap.size 3 1 (.slice none 0 0) 0 (Ints.intsV []) := ⟨rfl, .inl ⟨rfl, rfl⟩⟩
  have HOWN0 := Lib.hid hown0
  clear hown0
  go_loopw [5, 6, 7, 8, 9, 25] (fun v r _ _ _ i wr => ∃ k : Nat, k ≤ N ∧ i = .int .i64 k ∧ r = .int .i64 ((30 * N - (nibs (T.take k)).sum : Nat) : Int) ∧ wr.ownsRow w2.heap.size 3 1 v (2 * k) (Ints.intsV (nibs (T.take k))) ∧ Below w2.heap.size w2 wr) (fun _ _ _ _ _ i _ => N - (intOf i).toNat)
  case atStart => exact ⟨0, by omega, rfl, by simp [nibs], HOWN0.out, Below.refl _ _⟩
  case round =>
    clear HOWN0
    obtain ⟨k, hk, rfl, rfl, hown, hbel⟩ := hrel
    by_cases hlt : k < N
    · have hkT : k < T.length := by rw [HTL.out]; exact hlt
      have HOWN := Lib.hid hown
      have HW := Lib.hid hbel
      clear hown hbel
      go_upto_region 9 with (fail)
      have hz : (tx T).size = N := HTL.out
      have z1 : (k : Int) < (N : Int) := by omega
      have z2 : (k : Int).toNat = k := by omega
      go_quiet (fail)
      have hkz : k < (tx T).size := by rw [hz]; exact hlt
      have hx : ((tx T)[k]'hkz) = T[k]'hkT := rfl
      rw [hx]
      clear z1 z2 hx hkz hz
      have htk : nibs (T.take (k + 1)) = nibs (T.take k) ++ [T[k].toNat / 16, T[k].toNat % 16] := by
        rw [List.take_succ_eq_append_getElem hkT, nibs_snoc]; rfl
      have hsm := nibs_sum (T.take (k + 1))
      have hln : (T.take (k + 1)).length = k + 1 := by rw [List.length_take]; omega
      have hsm0 : (nibs (T.take (k + 1))).sum = (nibs (T.take k)).sum + (T[k].toNat / 16 + T[k].toNat % 16) := by rw [htk, List.sum_append]; simp
      rw [hln] at hsm
      have hxb := T[k].toNat_lt
      generalize T[k] = x at *
      obtain ⟨hi, hhi⟩ : ∃ n, n = x.toNat / 16 := ⟨_, rfl⟩
      obtain ⟨lo, hlo⟩ : ∃ n, n = x.toNat % 16 := ⟨_, rfl⟩
      rw [← hhi, ← hlo] at htk hsm0
      have hhi2 : hi ≤ 15 := by omega
      have hlo2 : lo ≤ 15 := by omega
      generalize hS : (nibs (T.take k)).sum = s at *
      have EHI := Lib.hid (show wrap64 ((wrap64 (x.toNat : Int)).tdiv 16) = (hi : Int) from by rw [nib_hi, hhi])
      have ELO := Lib.hid (show (wrap64 (x.toNat : Int)).tmod 16 = (lo : Int) from by rw [nib_lo, hlo])
      have hnext : 30 * N - (nibs (T.take (k + 1))).sum = 30 * N - s - (hi + lo) := by omega
      have hle : hi + lo ≤ 30 * N - s := by omega
      obtain ⟨r, hr⟩ : ∃ r, r = 30 * N - s := ⟨_, rfl⟩
      rw [← hr] at hnext hle
      have hr2 : r ≤ 960 := by omega
      rw [← hr, EHI.out, ELO.out]
      have HNX := Lib.hid hnext
      have HTK := Lib.hid htk
      have HOWN1 := Lib.hid (show (wr.drewN nq).ownsRow w2.heap.size 3 1 _ (2 * k) (Ints.intsV (nibs (T.take k))) from HOWN.out)
      have HW1 := Lib.hid (belowN HW.out nq)
      clear htk hsm0 hsm hnext hr hS hxb hhi hlo hln EHI ELO HOWN HW
      generalize wr.drewN nq = wy at *
      go_upto_region 11 with (at_builtin; refine Ints.append_ints rfl _ _ rfl w2.heap.size (2 * k) _ (nibs (T.take k)) rfl (HOWN1.out.alloc _) wy.heap.size 2 2 [hi, lo] rfl rfl (Ints.new_two _ _ _ _) (by omega) (Nat.le_trans HW1.out.size (by simp)) ?_)
      intro v' w5 hown5 hgrow5
      have HW5 := Lib.hid ((HW1.out.alloc HW1.out.size (.cells #[.int .i64 (hi : Int), .int .i64 (lo : Int)] 3)).grown hgrow5 (Nat.le_trans HW1.out.size (by simp)) (fun j hj => (HOWN1.out.lt j hj).1))
      rw [← HTK.out] at hown5
      have HOWN5 := Lib.hid hown5
      clear hown5 hgrow5 HOWN1 HW1
      go_wp2
      go_roundw
      case rel => exact ⟨k + 1, by omega, by go_num, by rw [HNX.out]; go_num, HOWN5.out, HW5.out⟩
      case measure => simp [intOf]; omega
    · obtain rfl : k = N := by omega
      have hall : T.take k = T := by rw [List.take_of_length_le]; rw [HTL.out]; exact Nat.le_refl _
      rw [hall] at hown
      have hsm := nibs_sum T
      rw [HTL.out] at hsm
      have hL : left k T = 30 * k - (nibs T).sum := rfl
      rw [hall, ← hL]
      have hle := left_le k T
      obtain ⟨r, hr⟩ : ∃ r, r = left k T := ⟨_, rfl⟩
      rw [← hr] at hle ⊢
      obtain ⟨a0, ha0⟩ : ∃ a, a = r / 256 := ⟨_, rfl⟩
      obtain ⟨a1, ha1⟩ : ∃ a, a = r / 16 % 16 := ⟨_, rfl⟩
      obtain ⟨a2, ha2⟩ : ∃ a, a = r % 16 := ⟨_, rfl⟩
      have f0 : (r : Int) / 256 = (a0 : Int) := by rw [ha0, Int.natCast_ediv]; rfl
      have f1 : (r : Int) / 16 % 16 = (a1 : Int) := by rw [ha1, Int.natCast_emod, Int.natCast_ediv]; rfl
      have f2 : (r : Int) % 16 = (a2 : Int) := by rw [ha2, Int.natCast_emod]; rfl
      have hrest : nibs T ++ [a0, a1, a2] = nibs T ++ rest (left k T) := by rw [ha0, ha1, ha2, ← hr]; rfl
      have HREST := Lib.hid hrest
      have HOWN := Lib.hid hown
      have HW := Lib.hid hbel
      clear hrest hown hbel hsm hL ha0 ha1 ha2 hr hall
      go_wp2_with (at_builtin; refine Ints.append_ints rfl _ _ rfl w2.heap.size (2 * k) _ (nibs T) rfl (HOWN.out.alloc _) wr.heap.size 3 3 [a0, a1, a2] rfl rfl (Ints.new_three _ _ _ _ _) (by omega) (Nat.le_trans HW.out.size (by simp)) ?_)
      intro v' w5 hown5 hgrow5
      have HW5 := Lib.hid ((HW.out.alloc HW.out.size (.cells #[.int .i64 (a0 : Int), .int .i64 (a1 : Int), .int .i64 (a2 : Int)] 3)).grown hgrow5 (Nat.le_trans HW.out.size (by simp)) (fun j hj => (HOWN.out.lt j hj).1))
      rw [HREST.out] at hown5
      have HOWN5 := Lib.hid hown5
      clear hown5 hgrow5 HOWN HW
      go_wp2
      have hBw := HB0.out.trans (HW2.out.mono HB0.out.size)
      refine bodyPost_ret (v := v') (by simp [results, Tryz.results58, go_sem]) rfl ⟨_, rfl, Strs.own_mono HOWN5.out hBw.size, hBw.trans (HW5.out.mono hBw.size)⟩


theorem digits_no (n h : Int) (hr : ¬ Right n h) (d : ByteArray) (w : World) :
    Calls Tryz.prog 58 #[.agg #[.int .i64 n, .int .i64 h], .string d] w fun e w' => e = .returned (.slice none 0 0) ∧ Below w.heap.size w w' := by
  have R1 := Lib.hid (fun u => right_no n h hr u)
  clear hr
  go_enter Tryz.func58, Tryz.ntmps58
  go_wp2_with fail
  refine (R1.out _).mono ?_
  rintro e w1 ⟨rfl, hb⟩
  have HB := Lib.hid (((Below.refl w.heap.size w).alloc (Nat.le_refl _) (.cells #[.int .i64 n, .int .i64 h] 23)).trans (hb.mono (by simp)))
  clear hb
  go_wp2
  go_ret
  exact ⟨rfl, HB.out⟩
end Go.Proofs.YtkchbilkmoemaaaGreatDoor.RefChn

namespace Go.Proofs.YtkchbilkmoemaaaGreatDoor.RefChn
open Go.RowKit Mur Sha Chn
set_option maxRecDepth 100000

theorem sign_no (n h : Int) (hr : ¬ Right n h) (seed room d : ByteArray) (leaf : Int) (w : World) :
    Calls Tryz.prog 30 #[.agg #[.int .i64 n, .int .i64 h], .string seed, .string room, .int .i64 leaf, .string d] w fun e w' => e = .returned (.string ⟨#[]⟩) ∧ Below w.heap.size w w' := by
  have R1 := Lib.hid (fun u => digits_no n h hr d u)
  clear hr
  have hB0 := (Below.refl w.heap.size w).alloc (Nat.le_refl _) (.cells #[.int .i64 n, .int .i64 h] 23)
  go_enter Tryz.func30, Tryz.ntmps30
  go_wp2_with fail
  refine (R1.out _).mono ?_
  rintro e w3 ⟨rfl, hb3⟩
  have HW3 := Lib.hid (hB0.trans (hb3.mono hB0.size))
  clear hb3 hB0
  go_wp2_with fail
  go_loopw [11, 12, 13, 14, 19] (fun x _ _ _ i wr => x = .string ⟨#[]⟩ ∧ i = .int .i64 0 ∧ wr = w3) (fun _ _ _ _ _ _ => 0)
  case atStart => exact ⟨rfl, rfl, rfl⟩
  case round =>
    obtain ⟨rfl, rfl, rfl⟩ := hrel
    go_wp2
    go_ret
    exact ⟨rfl, HW3.out⟩

set_option maxHeartbeats 3200000 in
theorem sign_any (N : Nat) (h : Int) (seed room d : ByteArray) (leaf : Int) (V : ByteArray) (w : World) (hr : Right (N : Int) h) (hs : seed.size + room.size ≤ 400000) (hds : d.size ≤ 1099511627776) (hV : V = tx (sign N seed.data.toList room.data.toList leaf d.data.toList)) :
    Calls Tryz.prog 30 #[.agg #[.int .i64 (N : Int), .int .i64 h], .string seed, .string room, .int .i64 leaf, .string d] w fun e w' => e = .returned (.string V) ∧ Below w.heap.size w w' := by
  have R1 := Lib.hid (fun u => digits_any N h d u hr hds)
  have hN : N ≤ 32 := by have := hr.2.1; omega
  have hl := signP_length N seed.data.toList room.data.toList leaf d.data.toList hN
  have RB := Lib.hid (fun (c : Nat) (T : ByteArray) (hT : T = tx (begins N seed.data.toList leaf (c : Int))) (u : World) => begin_any N h seed leaf (c : Int) T u hN (by omega) hT)
  have RR := Lib.hid (fun (c : Nat) (T P : ByteArray) (hT : T = tx (begins N seed.data.toList leaf (c : Int))) (hP : P = tx (signP N seed.data.toList room.data.toList leaf d.data.toList c)) (u : World) =>
    run_any N h room T leaf (c : Int) 0 (dig N d.data.toList c : Int) P u hr (by rw [hT]; have := begins_length N seed.data.toList leaf (c : Int) hN; show room.size + (begins N seed.data.toList leaf (c : Int)).length ≤ _; omega) (by rw [hP, hT]; rfl))
  obtain ⟨F, hF⟩ : ∃ F, F = signP N seed.data.toList room.data.toList leaf d.data.toList := ⟨_, rfl⟩
  rw [← hF] at hl RR
  have hul := upto_length F N hl
  have hVF : V = tx (upto F (2 * N + 3)) := by rw [hV, sign, ← hF]
  have hda := fun c hc => dig_at N d.data.toList c hc
  generalize dig N d.data.toList = D at *
  generalize digs N d.data.toList = L at *
  have HDA := Lib.hid hda
  have HVF := Lib.hid hVF
  have HUL := Lib.hid hul
  have HFL := Lib.hid hl
  clear hV hs hF hr hl hul hda hVF hds
  have hB0 := (Below.refl w.heap.size w).alloc (Nat.le_refl _) (.cells #[.int .i64 (N : Int), .int .i64 h] 23)
  have hc0 : (w.alloc (.cells #[.int .i64 (N : Int), .int .i64 h] 23)).cell? ⟨w.heap.size, 0, none⟩ = some (.int .i64 (N : Int)) := by simp
  have hc1 : (w.alloc (.cells #[.int .i64 (N : Int), .int .i64 h] 23)).cell? ⟨w.heap.size, 1, none⟩ = some (.int .i64 h) := by simp
  have hlt : w.heap.size < (w.alloc (.cells #[.int .i64 (N : Int), .int .i64 h] 23)).heap.size := by simp
  go_enter Tryz.func30, Tryz.ntmps30
  go_upto_region 1 with (fail)
  generalize w.alloc (.cells #[.int .i64 (N : Int), .int .i64 h] 23) = wz at *
  have HC := Lib.hid (fun (u : World) (q : Below wz.heap.size wz u) => (⟨(q.cell (p := ⟨w.heap.size, 0, none⟩) hlt).trans hc0, (q.cell (p := ⟨w.heap.size, 1, none⟩) hlt).trans hc1⟩ : u.cell? ⟨w.heap.size, 0, none⟩ = some (.int .i64 (N : Int)) ∧ u.cell? ⟨w.heap.size, 1, none⟩ = some (.int .i64 h)))
  have HB0 := Lib.hid hB0
  clear hB0 hc0 hc1 hlt
  obtain ⟨c0, c1⟩ := HC.out _ (Below.refl _ _)
  go_wp2_with fail
  refine (R1.out _).mono ?_
  rintro e w3 ⟨v, rfl, hown, hb3⟩
  obtain ⟨g, cp, cur, rfl, hg1, hg2, hg3, hg4⟩ := ints_row hown (by omega)
  have HG3 := Lib.hid hg3
  have HW3 := Lib.hid hb3
  clear hb3 c0 c1 hown hg1 hg3
  obtain ⟨M, hM⟩ : ∃ M, M = 2 * N + 3 := ⟨_, rfl⟩
  have hM67 : M ≤ 67 := by omega
  have hpl := fun k (hk : k ≤ M) => pieces_le N k hN (by omega)
  have HPL := Lib.hid hpl
  have HG4 := Lib.hid (fun (u : World) (hu : u.heap[g]? = some (.cells cur 3 (0, 0))) (k : Nat) (hk : k < M) => hg4 u hu k (D k) (HDA.out k (by omega)))
  rw [← hM] at hg2 HVF ⊢
  clear hM hpl hg4
  go_wp2_with fail
  go_loopw [11, 12, 13, 14, 19] (fun x _ _ _ i wr => ∃ k : Nat, k ≤ M ∧ i = .int .i64 k ∧ x = .string (tx (upto F k)) ∧ wr.heap[g]? = some (.cells cur 3 (0, 0)) ∧ Below wz.heap.size wz wr) (fun _ _ _ _ i _ => M - (intOf i).toNat)
  case atStart => exact ⟨0, by omega, rfl, rfl, HG3.out, HW3.out⟩
  case round =>
    clear HW3 HG3
    obtain ⟨k, hk, rfl, rfl, hgk, hbel⟩ := hrel
    have HW := Lib.hid hbel
    have HG := Lib.hid hgk
    clear hbel hgk
    by_cases hlt : k < M
    · have hc := HG4.out wr HG.out k hlt
      obtain ⟨T, hT⟩ : ∃ T, T = tx (begins N seed.data.toList leaf (k : Int)) := ⟨_, rfl⟩
      obtain ⟨P, hP⟩ : ∃ P, P = tx (F k) := ⟨_, rfl⟩
      have hPs : P.size = N := by rw [hP]; exact HFL.out k
      obtain ⟨E, hE⟩ : ∃ E, E = tx (upto F k) := ⟨_, rfl⟩
      have hnx : tx (upto F (k + 1)) = E ++ P := by rw [hP, hE]; exact upto_next F k
      have hEs : E.size = N * k := by rw [hE]; exact HUL.out k
      have hk2 := HPL.out k hk
      have n2 : ¬ 9223372036854775807 < E.size + P.size := by omega
      have hzr := HW.out
      have RB1 := Lib.hid (fun (u : World) => RB.out k T hT u)
      have RR1 := Lib.hid (fun (u : World) => RR.out k T P hT hP u)
      have HNX := Lib.hid hnx
      rw [← hE]
      clear hT hP hPs hnx hE hEs hk2 hzr
      generalize D k = dk at *
      go_upto_region 6 with (fail)
      clear hc
      have hw5 := HW.out.alloc HW.out.size (.cells #[.int .i64 leaf, .int .i64 (k : Int)] 49)
      have hp0 : (wr.alloc (.cells #[.int .i64 leaf, .int .i64 (k : Int)] 49)).cell? ⟨wr.heap.size, 0, none⟩ = some (.int .i64 leaf) := by simp
      have hp1 : (wr.alloc (.cells #[.int .i64 leaf, .int .i64 (k : Int)] 49)).cell? ⟨wr.heap.size, 1, none⟩ = some (.int .i64 (k : Int)) := by simp
      have hpl : wr.heap.size < (wr.alloc (.cells #[.int .i64 leaf, .int .i64 (k : Int)] 49)).heap.size := by simp
      have hg5 := ((((Below.refl wr.heap.size wr).alloc (Nat.le_refl _) (.cells #[.int .i64 leaf, .int .i64 (k : Int)] 49)).block g (Array.getElem?_eq_some_iff.1 HG.out).1).trans HG.out)
      generalize wr.alloc (.cells #[.int .i64 leaf, .int .i64 (k : Int)] 49) = ws at *
      generalize wr.heap.size = np at *
      have HC1 := Lib.hid (fun (u : World) (q : Below ws.heap.size ws u) => HC.out u (hw5.trans (q.mono hw5.size)))
      have HP1 := Lib.hid (fun (u : World) (q : Below ws.heap.size ws u) => (⟨(q.cell (p := ⟨np, 0, none⟩) hpl).trans hp0, (q.cell (p := ⟨np, 1, none⟩) hpl).trans hp1⟩ : u.cell? ⟨np, 0, none⟩ = some (.int .i64 leaf) ∧ u.cell? ⟨np, 1, none⟩ = some (.int .i64 (k : Int))))
      have HW5 := Lib.hid hw5
      have HG5 := Lib.hid hg5
      clear hw5 hg5 hp0 hp1 hpl
      refine Steady.region 11 (by kernel_rfl) (by kernel_rfl) (fun u => Below ws.heap.size ws u) ((Below.refl _ _).drew) ?_
      simp only [List.take_succ_cons, List.take_zero, List.drop_succ_cons, List.drop_zero]
      refine Steady.take ?_ rfl (by intro u hu; go_simp; with_reducible rfl) ?_
      simp only [Act.put, List.setIfInBounds_toArray, List.set_cons_zero, List.set_cons_succ]
      refine Steady.take ?_ rfl (by intro u hu; obtain ⟨c0, c1⟩ := HC1.out u hu; go_simp; with_reducible rfl) ?_
      simp only [Act.put, List.setIfInBounds_toArray, List.set_cons_zero, List.set_cons_succ]
      refine Steady.take ?_ rfl (by intro u hu; go_simp; with_reducible rfl) ?_
      simp only [Act.put, List.setIfInBounds_toArray, List.set_cons_zero, List.set_cons_succ]
      refine Steady.take ?_ rfl (by intro u hu; obtain ⟨p0, p1⟩ := HP1.out u hu; go_simp; with_reducible rfl) ?_
      simp only [Act.put, List.setIfInBounds_toArray, List.set_cons_zero, List.set_cons_succ]
      refine Steady.take ?_ rfl (by intro u hu; go_simp; with_reducible rfl) ?_
      simp only [Act.put, List.setIfInBounds_toArray, List.set_cons_zero, List.set_cons_succ]
      refine Steady.take ?_ rfl (by intro u hu; obtain ⟨c0, c1⟩ := HC1.out u hu; go_simp; with_reducible rfl) ?_
      simp only [Act.put, List.setIfInBounds_toArray, List.set_cons_zero, List.set_cons_succ]
      refine Steady.take ?_ rfl (by intro u hu; go_simp; with_reducible rfl) ?_
      simp only [Act.put, List.setIfInBounds_toArray, List.set_cons_zero, List.set_cons_succ]
      refine Steady.take ?_ rfl (by intro u hu; obtain ⟨p0, p1⟩ := HP1.out u hu; go_simp; with_reducible rfl) ?_
      simp only [Act.put, List.setIfInBounds_toArray, List.set_cons_zero, List.set_cons_succ]
      refine Steady.call _ _ _ rfl ?_ (Steady.kept RB1.out) ?_
      · intro u
        go_simp
      simp only [Act.put, List.setIfInBounds_toArray, List.set_cons_zero, List.set_cons_succ]
      refine Steady.call _ _ _ rfl ?_ (Steady.kept RR1.out) ?_
      · intro u
        go_simp
      simp only [Act.put, List.setIfInBounds_toArray, List.set_cons_zero, List.set_cons_succ]
      refine Steady.take ?_ rfl (by intro u hu; go_simp; with_reducible rfl) ?_
      simp only [Act.put, List.setIfInBounds_toArray, List.set_cons_zero, List.set_cons_succ]
      refine Steady.nil ?_
      intro w6 hb6
      have HW6 := Lib.hid (HW5.out.trans (hb6.mono HW5.out.size))
      have HG6 := Lib.hid ((hb6.block g (Array.getElem?_eq_some_iff.1 HG5.out).1).trans HG5.out)
      clear hb6 n2
      go_wp2
      go_roundw
      case rel => exact ⟨k + 1, by omega, by go_num, by rw [HNX.out], HG6.out, HW6.out⟩
      case measure => simp [intOf]; omega
    · obtain rfl : k = M := by omega
      have HW4 := Lib.hid (HB0.out.trans (HW.out.mono HB0.out.size))
      have hV := HVF.out
      subst hV
      go_wp2
      go_ret
      exact ⟨rfl, HW4.out⟩
end Go.Proofs.YtkchbilkmoemaaaGreatDoor.RefChn

namespace Go.Proofs.YtkchbilkmoemaaaGreatDoor.RefChn
open Go.RowKit Mur Sha Chn
set_option maxRecDepth 100000

/-- A row of texts that a call has made: its block, and its cells. -/
theorem strs_row {w : World} {base n : Nat} {v : Value} {l : List ByteArray} (h : w.ownsRow base 9 1 v n (Strs.strsV l)) (hn : 0 < n) :
    ∃ g c, v = .slice (some ⟨g, 0, none⟩) n c ∧ g < w.heap.size ∧ ∀ (i : Nat) x, l[i]? = some x → w.cell? ⟨g, i, none⟩ = some (.string x) := by
  rcases Strs.own_cases h with ⟨-, h0, -⟩ | ⟨g, c, rfl, -, h2, -, -⟩
  · omega
  · exact ⟨g, c, rfl, h2, fun i x hx => Strs.own_cell h i _ (Strs.strsV_at hx)⟩

theorem leaf_no (n h : Int) (hr : ¬ Right n h) (seed room : ByteArray) (leaf : Int) (w : World) :
    Calls Tryz.prog 63 #[.agg #[.int .i64 n, .int .i64 h], .string seed, .string room, .int .i64 leaf] w fun e w' => e = .returned (.string ⟨#[]⟩) ∧ Below w.heap.size w w' := by
  have R1 := Lib.hid (fun u => right_no n h hr u)
  clear hr
  go_enter Tryz.func63, Tryz.ntmps63
  go_wp2_with fail
  refine (R1.out _).mono ?_
  rintro e w1 ⟨rfl, hb⟩
  have HB := Lib.hid (((Below.refl w.heap.size w).alloc (Nat.le_refl _) (.cells #[.int .i64 n, .int .i64 h] 23)).trans (hb.mono (by simp)))
  clear hb
  go_wp2
  go_ret
  exact ⟨rfl, HB.out⟩

set_option maxHeartbeats 3200000 in
theorem leaf_any (N : Nat) (h : Int) (seed room : ByteArray) (leaf : Int) (V : ByteArray) (w : World) (hr : Right (N : Int) h) (hs : seed.size + room.size ≤ 400000) (hV : V = tx (leafOf N seed.data.toList room.data.toList leaf)) :
    Calls Tryz.prog 63 #[.agg #[.int .i64 (N : Int), .int .i64 h], .string seed, .string room, .int .i64 leaf] w fun e w' => e = .returned (.string V) ∧ Below w.heap.size w w' := by
  have R1 := Lib.hid (fun u => right_yes N h hr u)
  have hN : N ≤ 32 := by have := hr.2.1; omega
  obtain ⟨M, hM⟩ : ∃ M, M = 2 * N + 3 := ⟨_, rfl⟩
  have hM67 : M ≤ 67 := by omega
  have hM0 : 0 < M := by omega
  have R2 := Lib.hid (show ∀ u, Calls Tryz.prog 35 #[.agg #[.int .i64 (N : Int), .int .i64 h]] u fun e w' => e = .returned (.int .i64 (M : Int)) ∧ Below u.heap.size u w' from fun u => by
    have := count_yes N h hr u
    rw [show (2 * (N : Int) + 3) = (M : Int) by omega] at this
    exact this)
  have hl := leafP_length N seed.data.toList room.data.toList leaf hN
  have RB := Lib.hid (fun (c : Nat) (T : ByteArray) (hT : T = tx (begins N seed.data.toList leaf (c : Int))) (u : World) => begin_any N h seed leaf (c : Int) T u hN (by omega) hT)
  have RR := Lib.hid (fun (c : Nat) (T P : ByteArray) (hT : T = tx (begins N seed.data.toList leaf (c : Int))) (hP : P = tx (leafP N seed.data.toList room.data.toList leaf c)) (u : World) =>
    run_any N h room T leaf (c : Int) 0 15 P u hr (by rw [hT]; have := begins_length N seed.data.toList leaf (c : Int) hN; show room.size + (begins N seed.data.toList leaf (c : Int)).length ≤ _; omega) (by rw [hP, hT]; rfl))
  obtain ⟨F, hF⟩ : ∃ F, F = leafP N seed.data.toList room.data.toList leaf := ⟨_, rfl⟩
  rw [← hF] at hl RR
  have RE := Lib.hid (fun (g cp : Nat) (u : World) (hg : g < u.heap.size) (hc : ∀ c, c < M → u.cell? ⟨g, c, none⟩ = some (.string (tx (F c)))) => ends_any N h room leaf F M V g cp u hN hM67 (fun c _ => hl c) (by omega) hg hc (by rw [hV, leafOf, ← hF, ← hM]))
  clear hV hs hF hr hM
  have hB0 := (Below.refl w.heap.size w).alloc (Nat.le_refl _) (.cells #[.int .i64 (N : Int), .int .i64 h] 23)
  have hc0 : (w.alloc (.cells #[.int .i64 (N : Int), .int .i64 h] 23)).cell? ⟨w.heap.size, 0, none⟩ = some (.int .i64 (N : Int)) := by simp
  have hc1 : (w.alloc (.cells #[.int .i64 (N : Int), .int .i64 h] 23)).cell? ⟨w.heap.size, 1, none⟩ = some (.int .i64 h) := by simp
  have hlt : w.heap.size < (w.alloc (.cells #[.int .i64 (N : Int), .int .i64 h] 23)).heap.size := by simp
  go_enter Tryz.func63, Tryz.ntmps63
  go_upto_region 1 with (fail)
  generalize w.alloc (.cells #[.int .i64 (N : Int), .int .i64 h] 23) = wz at *
  have HC := Lib.hid (fun (u : World) (q : Below wz.heap.size wz u) => (⟨(q.cell (p := ⟨w.heap.size, 0, none⟩) hlt).trans hc0, (q.cell (p := ⟨w.heap.size, 1, none⟩) hlt).trans hc1⟩ : u.cell? ⟨w.heap.size, 0, none⟩ = some (.int .i64 (N : Int)) ∧ u.cell? ⟨w.heap.size, 1, none⟩ = some (.int .i64 h)))
  have HB0 := Lib.hid hB0
  clear hB0 hc0 hc1 hlt
  obtain ⟨c0, c1⟩ := HC.out _ (Below.refl _ _)
  go_wp2_with fail
  refine (R1.out _).mono ?_
  rintro e w1 ⟨rfl, hb1⟩
  have HB1 := Lib.hid hb1
  clear hb1 c0 c1
  obtain ⟨c0, c1⟩ := HC.out _ HB1.out
  go_wp2_with fail
  refine (R2.out _).mono ?_
  rintro e w3 ⟨rfl, hb3⟩
  have HW3 := Lib.hid (HB1.out.trans (hb3.mono HB1.out.size))
  clear hb3 c0 c1 HB1
  have hown0 : w3.ownsRow wz.heap.size 9 1 (.slice none 0 0) 0 (Strs.strsV (pieces F 0)) := ⟨rfl, .inl ⟨rfl, rfl⟩⟩
  have HOWN0 := Lib.hid hown0
  clear hown0
  go_wp2_with fail
  go_loopw [9, 10, 11, 17] (fun v _ _ i wr => ∃ k : Nat, k ≤ M ∧ i = .int .i64 k ∧ wr.ownsRow wz.heap.size 9 1 v k (Strs.strsV (pieces F k)) ∧ Below wz.heap.size wz wr) (fun _ _ _ i _ => M - (intOf i).toNat)
  case atStart => exact ⟨0, by omega, rfl, HOWN0.out, HW3.out⟩
  case round =>
    clear HW3 HOWN0
    obtain ⟨k, hk, rfl, hown, hbel⟩ := hrel
    have HW := Lib.hid hbel
    have HOWN := Lib.hid hown
    clear hbel hown
    by_cases hlt : k < M
    · obtain ⟨T, hT⟩ : ∃ T, T = tx (begins N seed.data.toList leaf (k : Int)) := ⟨_, rfl⟩
      obtain ⟨P, hP⟩ : ∃ P, P = tx (F k) := ⟨_, rfl⟩
      have hnx : pieces F (k + 1) = pieces F k ++ [P] := by rw [hP]; exact pieces_next F k
      have RB1 := Lib.hid (fun (u : World) => RB.out k T hT u)
      have RR1 := Lib.hid (fun (u : World) => RR.out k T P hT hP u)
      have HNX := Lib.hid hnx
      clear hT hP hnx
      go_upto_region 8 with (fail)
      have hw5 := HW.out.alloc HW.out.size (.cells #[.int .i64 leaf, .int .i64 (k : Int)] 49)
      have hp0 : (wr.alloc (.cells #[.int .i64 leaf, .int .i64 (k : Int)] 49)).cell? ⟨wr.heap.size, 0, none⟩ = some (.int .i64 leaf) := by simp
      have hp1 : (wr.alloc (.cells #[.int .i64 leaf, .int .i64 (k : Int)] 49)).cell? ⟨wr.heap.size, 1, none⟩ = some (.int .i64 (k : Int)) := by simp
      have hpl : wr.heap.size < (wr.alloc (.cells #[.int .i64 leaf, .int .i64 (k : Int)] 49)).heap.size := by simp
      have hown5 := HOWN.out.alloc (.cells #[.int .i64 leaf, .int .i64 (k : Int)] 49)
      generalize wr.alloc (.cells #[.int .i64 leaf, .int .i64 (k : Int)] 49) = ws at *
      generalize wr.heap.size = np at *
      have HC1 := Lib.hid (fun (u : World) (q : Below ws.heap.size ws u) => HC.out u (hw5.trans (q.mono hw5.size)))
      have HP1 := Lib.hid (fun (u : World) (q : Below ws.heap.size ws u) => (⟨(q.cell (p := ⟨np, 0, none⟩) hpl).trans hp0, (q.cell (p := ⟨np, 1, none⟩) hpl).trans hp1⟩ : u.cell? ⟨np, 0, none⟩ = some (.int .i64 leaf) ∧ u.cell? ⟨np, 1, none⟩ = some (.int .i64 (k : Int))))
      have HW5 := Lib.hid hw5
      have HOWN5 := Lib.hid hown5
      clear hw5 hown5 hp0 hp1 hpl HW HOWN
      obtain ⟨c0, c1⟩ := HC1.out _ (Below.refl _ _).drew
      obtain ⟨p0, p1⟩ := HP1.out _ (Below.refl _ _).drew
      go_region_law ((first
        | (refine step_call rfl 60 Tryz.call60 #[.tmp 27, .tmp 28, .tmp 29] #[23, 9, 49] rfl #[.agg #[.int .i64 (N : Int), .int .i64 h], .string seed, .agg #[.int .i64 leaf, .int .i64 (k : Int)]] (by first | (simp [Act.eval]; done) | simp [Act.eval, Act.put]) _ _ (RB1.out _) ?_; intro w6 hb6; obtain ⟨c2, c3⟩ := HC1.out _ (((Below.refl _ _).drew).trans hb6); obtain ⟨p2, p3⟩ := HP1.out _ (((Below.refl _ _).drew).trans hb6))
        | (refine step_call rfl 59 Tryz.call59 #[.tmp 24, .tmp 25, .tmp 26, .const (.int .i64 0), .const (.int .i64 15), .tmp 30] #[23, 9, 49, 3, 3, 9] rfl #[.agg #[.int .i64 (N : Int), .int .i64 h], .string room, .agg #[.int .i64 leaf, .int .i64 (k : Int)], .int .i64 0, .int .i64 15, .string T] (by first | (simp [Act.eval]; done) | simp [Act.eval, Act.put]) _ _ (RR1.out _) ?_; intro w7 hb7)
        | (refine Strs.step_append_str (by rfl) _ _ (by rfl) w7 P wz.heap.size k _ (pieces F k) (by rfl) (by rfl) (Strs.own_below HOWN5.out (((Below.refl _ _).drew).trans (hb6.trans (hb7.mono hb6.size)))) (by omega) (by have := HW5.out.size; have := hb6.size; have := hb7.size; simp at *; omega) ?_; intro v' w8 hown8 hgrow8)))
      all_goals
        have hz7 : Below wz.heap.size wz w7 := HW5.out.drew.trans ((hb6.mono HW5.out.size).trans (hb7.mono (Nat.le_trans HW5.out.size hb6.size)))
        have HW8 := Lib.hid ((hz7.alloc hz7.size (.cells #[.string P] 9)).grown hgrow8 (Nat.le_trans hz7.size (by simp)) (fun j hj => (HOWN5.out.lt j hj).1))
        rw [← HNX.out] at hown8
        have HO8 := Lib.hid hown8
        clear hz7 hown8 hgrow8 hb6 hb7 c0 c1 c2 c3 p0 p1 p2 p3
        go_wp2
        go_roundw
        case rel => exact ⟨k + 1, by omega, by go_num, HO8.out, HW8.out⟩
        case measure => simp [intOf]; omega
    · obtain rfl : k = M := by omega
      obtain ⟨g, cp, rfl, hg1, hg2⟩ := strs_row HOWN.out hM0
      have hcell : ∀ c, c < k → wr.cell? ⟨g, c, none⟩ = some (.string (tx (F c))) := fun c hc => hg2 c _ (pieces_at F k c hc)
      have RE1 := Lib.hid (RE.out g cp wr hg1 hcell)
      clear hg1 hg2 hcell
      obtain ⟨c0, c1⟩ := HC.out _ HW.out
      go_wp2_with fail
      refine RE1.out.mono ?_
      rintro e w6 ⟨rfl, hb6⟩
      have HZ6 := Lib.hid (HB0.out.trans ((HW.out.trans (hb6.mono HW.out.size)).mono HB0.out.size))
      clear hb6 c0 c1
      go_wp2
      go_ret
      exact ⟨rfl, HZ6.out⟩
end Go.Proofs.YtkchbilkmoemaaaGreatDoor.RefChn

namespace Go.Proofs.YtkchbilkmoemaaaGreatDoor.RefChn
open Go.RowKit Mur Sha Chn
set_option maxRecDepth 100000

set_option maxHeartbeats 3200000 in
theorem found_no (n h : Int) (hr : ¬ Right n h) (room sig d : ByteArray) (leaf : Int) (w : World) :
    Calls Tryz.prog 41 #[.agg #[.int .i64 n, .int .i64 h], .string room, .int .i64 leaf, .string sig, .string d] w fun e w' => e = .returned (.string ⟨#[]⟩) ∧ Below w.heap.size w w' := by
  have R1 := Lib.hid (fun u => right_no n h hr u)
  clear hr
  have hB0 := (Below.refl w.heap.size w).alloc (Nat.le_refl _) (.cells #[.int .i64 n, .int .i64 h] 23)
  have hc0 : (w.alloc (.cells #[.int .i64 n, .int .i64 h] 23)).cell? ⟨w.heap.size, 0, none⟩ = some (.int .i64 n) := by simp
  have hc1 : (w.alloc (.cells #[.int .i64 n, .int .i64 h] 23)).cell? ⟨w.heap.size, 1, none⟩ = some (.int .i64 h) := by simp
  have hlt : w.heap.size < (w.alloc (.cells #[.int .i64 n, .int .i64 h] 23)).heap.size := by simp
  go_enter Tryz.func41, Tryz.ntmps41
  go_upto_region 1 with (fail)
  generalize w.alloc (.cells #[.int .i64 n, .int .i64 h] 23) = wz at *
  have HC := Lib.hid (fun (u : World) (q : Below wz.heap.size wz u) => (⟨(q.cell (p := ⟨w.heap.size, 0, none⟩) hlt).trans hc0, (q.cell (p := ⟨w.heap.size, 1, none⟩) hlt).trans hc1⟩ : u.cell? ⟨w.heap.size, 0, none⟩ = some (.int .i64 n) ∧ u.cell? ⟨w.heap.size, 1, none⟩ = some (.int .i64 h)))
  have HB0 := Lib.hid hB0
  clear hB0 hc0 hc1 hlt
  refine Steady.region 12 (by kernel_rfl) (by kernel_rfl) (fun u => Below wz.heap.size wz u) ((Below.refl _ _).drew) ?_
  simp only [List.take_succ_cons, List.take_zero, List.drop_succ_cons, List.drop_zero]
  refine Steady.take ?_ rfl (by intro u hu; obtain ⟨c0, c1⟩ := HC.out u hu; go_simp; with_reducible rfl) ?_
  simp only [Act.put, List.setIfInBounds_toArray, List.set_cons_zero, List.set_cons_succ]
  refine Steady.call _ _ _ rfl ?_ (Steady.kept R1.out) ?_
  · intro u
    go_simp
  simp only [Act.put, List.setIfInBounds_toArray, List.set_cons_zero, List.set_cons_succ]
  refine Steady.take ?_ rfl (by intro u hu; go_simp; with_reducible rfl) ?_
  simp only [Act.put, List.setIfInBounds_toArray, List.set_cons_zero, List.set_cons_succ]
  refine Steady.take ?_ rfl (by intro u hu; go_simp; with_reducible rfl) ?_
  simp only [Act.put, List.setIfInBounds_toArray, List.set_cons_zero, List.set_cons_succ]
  refine Steady.pass rfl ?_
  simp only [Act.put, List.setIfInBounds_toArray, List.set_cons_zero, List.set_cons_succ]
  refine Steady.pass rfl ?_
  simp only [Act.put, List.setIfInBounds_toArray, List.set_cons_zero, List.set_cons_succ]
  refine Steady.pass rfl ?_
  simp only [Act.put, List.setIfInBounds_toArray, List.set_cons_zero, List.set_cons_succ]
  refine Steady.pass rfl ?_
  simp only [Act.put, List.setIfInBounds_toArray, List.set_cons_zero, List.set_cons_succ]
  refine Steady.pass rfl ?_
  simp only [Act.put, List.setIfInBounds_toArray, List.set_cons_zero, List.set_cons_succ]
  refine Steady.pass rfl ?_
  simp only [Act.put, List.setIfInBounds_toArray, List.set_cons_zero, List.set_cons_succ]
  refine Steady.pass rfl ?_
  simp only [Act.put, List.setIfInBounds_toArray, List.set_cons_zero, List.set_cons_succ]
  refine Steady.pass rfl ?_
  simp only [Act.put, List.setIfInBounds_toArray, List.set_cons_zero, List.set_cons_succ]
  refine Steady.nil ?_
  intro w5 hb5
  have HB5 := Lib.hid (HB0.out.trans (hb5.mono HB0.out.size))
  clear hb5
  go_wp2
  go_ret
  exact ⟨rfl, HB5.out⟩

set_option maxHeartbeats 3200000 in
theorem found_other (N : Nat) (h : Int) (hr : Right (N : Int) h) (room sig d : ByteArray) (leaf : Int) (hsz : ¬ sig.size = N * (2 * N + 3)) (w : World) :
    Calls Tryz.prog 41 #[.agg #[.int .i64 (N : Int), .int .i64 h], .string room, .int .i64 leaf, .string sig, .string d] w fun e w' => e = .returned (.string ⟨#[]⟩) ∧ Below w.heap.size w w' := by
  have R1 := Lib.hid (fun u => right_yes N h hr u)
  have R2 := Lib.hid (fun u => count_yes N h hr u)
  have hN : N ≤ 32 := by have := hr.2.1; omega
  obtain ⟨A, hA⟩ : ∃ A, A = N * (2 * N + 3) := ⟨_, rfl⟩
  have hA2 : A ≤ 2144 := by rw [hA]; exact pieces_le N _ hN (Nat.le_refl _)
  have hw : IntKind.i64.wrap ((N : Int) * (2 * (N : Int) + 3)) = (A : Int) := by
    have e : (N : Int) * (2 * (N : Int) + 3) = ((N * (2 * N + 3) : Nat) : Int) := by push_cast; rfl
    rw [e, ← hA]
    exact IntWalk.i64_in _ (by omega)
  have hne : ((sig.size : Int) != (A : Int)) = true := by simp; omega
  clear hr hA hsz
  have hB0 := (Below.refl w.heap.size w).alloc (Nat.le_refl _) (.cells #[.int .i64 (N : Int), .int .i64 h] 23)
  have hc0 : (w.alloc (.cells #[.int .i64 (N : Int), .int .i64 h] 23)).cell? ⟨w.heap.size, 0, none⟩ = some (.int .i64 (N : Int)) := by simp
  have hc1 : (w.alloc (.cells #[.int .i64 (N : Int), .int .i64 h] 23)).cell? ⟨w.heap.size, 1, none⟩ = some (.int .i64 h) := by simp
  have hlt : w.heap.size < (w.alloc (.cells #[.int .i64 (N : Int), .int .i64 h] 23)).heap.size := by simp
  go_enter Tryz.func41, Tryz.ntmps41
  go_upto_region 1 with (fail)
  generalize w.alloc (.cells #[.int .i64 (N : Int), .int .i64 h] 23) = wz at *
  have HC := Lib.hid (fun (u : World) (q : Below wz.heap.size wz u) => (⟨(q.cell (p := ⟨w.heap.size, 0, none⟩) hlt).trans hc0, (q.cell (p := ⟨w.heap.size, 1, none⟩) hlt).trans hc1⟩ : u.cell? ⟨w.heap.size, 0, none⟩ = some (.int .i64 (N : Int)) ∧ u.cell? ⟨w.heap.size, 1, none⟩ = some (.int .i64 h)))
  have HB0 := Lib.hid hB0
  clear hB0 hc0 hc1 hlt
  refine Steady.region 12 (by kernel_rfl) (by kernel_rfl) (fun u => Below wz.heap.size wz u) ((Below.refl _ _).drew) ?_
  simp only [List.take_succ_cons, List.take_zero, List.drop_succ_cons, List.drop_zero]
  refine Steady.take ?_ rfl (by intro u hu; obtain ⟨c0, c1⟩ := HC.out u hu; go_simp; with_reducible rfl) ?_
  simp only [Act.put, List.setIfInBounds_toArray, List.set_cons_zero, List.set_cons_succ]
  refine Steady.call _ _ _ rfl ?_ (Steady.kept R1.out) ?_
  · intro u
    go_simp
  simp only [Act.put, List.setIfInBounds_toArray, List.set_cons_zero, List.set_cons_succ]
  refine Steady.take ?_ rfl (by intro u hu; go_simp; with_reducible rfl) ?_
  simp only [Act.put, List.setIfInBounds_toArray, List.set_cons_zero, List.set_cons_succ]
  refine Steady.take ?_ rfl (by intro u hu; go_simp; with_reducible rfl) ?_
  simp only [Act.put, List.setIfInBounds_toArray, List.set_cons_zero, List.set_cons_succ]
  refine Steady.take ?_ rfl (by intro u hu; go_simp; with_reducible rfl) ?_
  simp only [Act.put, List.setIfInBounds_toArray, List.set_cons_zero, List.set_cons_succ]
  refine Steady.take ?_ rfl (by intro u hu; go_simp; with_reducible rfl) ?_
  simp only [Act.put, List.setIfInBounds_toArray, List.set_cons_zero, List.set_cons_succ]
  refine Steady.take ?_ rfl (by intro u hu; go_simp; with_reducible rfl) ?_
  simp only [Act.put, List.setIfInBounds_toArray, List.set_cons_zero, List.set_cons_succ]
  refine Steady.take ?_ rfl (by intro u hu; obtain ⟨c0, c1⟩ := HC.out u hu; go_simp; with_reducible rfl) ?_
  simp only [Act.put, List.setIfInBounds_toArray, List.set_cons_zero, List.set_cons_succ]
  refine Steady.take ?_ rfl (by intro u hu; obtain ⟨c0, c1⟩ := HC.out u hu; go_simp; with_reducible rfl) ?_
  simp only [Act.put, List.setIfInBounds_toArray, List.set_cons_zero, List.set_cons_succ]
  refine Steady.call _ _ _ rfl ?_ (Steady.kept R2.out) ?_
  · intro u
    go_simp
  simp only [Act.put, List.setIfInBounds_toArray, List.set_cons_zero, List.set_cons_succ]
  refine Steady.take ?_ rfl (by intro u hu; go_simp; with_reducible rfl) ?_
  simp only [Act.put, List.setIfInBounds_toArray, List.set_cons_zero, List.set_cons_succ]
  refine Steady.take ?_ rfl (by intro u hu; go_simp; with_reducible rfl) ?_
  simp only [Act.put, List.setIfInBounds_toArray, List.set_cons_zero, List.set_cons_succ]
  refine Steady.nil ?_
  intro w5 hb5
  have HB5 := Lib.hid (HB0.out.trans (hb5.mono HB0.out.size))
  clear hb5
  go_wp2
  go_ret
  exact ⟨rfl, HB5.out⟩


set_option maxHeartbeats 3200000 in
theorem found_any (N : Nat) (h : Int) (room sig d : ByteArray) (leaf : Int) (V : ByteArray) (w : World) (hr : Right (N : Int) h) (hz : sig.size = N * (2 * N + 3)) (hs : room.size ≤ 400000) (hds : d.size ≤ 1099511627776) (hV : V = tx (found N room.data.toList leaf sig.data.toList d.data.toList)) :
    Calls Tryz.prog 41 #[.agg #[.int .i64 (N : Int), .int .i64 h], .string room, .int .i64 leaf, .string sig, .string d] w fun e w' => e = .returned (.string V) ∧ Below w.heap.size w w' := by
  have R1 := Lib.hid (fun u => right_yes N h hr u)
  have R2 := Lib.hid (fun u => count_yes N h hr u)
  have R3 := Lib.hid (fun u => digits_any N h d u hr hds)
  have hN : N ≤ 32 := by have := hr.2.1; omega
  obtain ⟨M, hM⟩ : ∃ M, M = 2 * N + 3 := ⟨_, rfl⟩
  have hM67 : M ≤ 67 := by omega
  have hMi : (2 * (N : Int) + 3) = (M : Int) := by omega
  have hpl := fun k (hk : k ≤ M) => pieces_le N k hN (by omega)
  have hmul := fun k (hk : k ≤ M) => show N * k ≤ N * M from Nat.mul_le_mul_left _ hk
  rw [← hM] at hz
  have hl := fun c (hc : c < M) => foundP_length N room.data.toList leaf sig.data.toList d.data.toList hN (by rw [← hM]; exact hz) c (by omega)
  have hpc := fun (c : Nat) (hc : c < M) => show ((sig.data.toList.drop (N * c)).take N).length = N from by
    have h1 := hmul (c + 1) hc
    rw [Nat.mul_succ] at h1
    have h2 : sig.data.toList.length = sig.size := rfl
    rw [List.length_take, List.length_drop, h2, hz]
    omega
  have RR := Lib.hid (fun (c : Nat) (hc : c < M) (T P : ByteArray) (hT : T = tx ((sig.data.toList.drop (N * c)).take N)) (hP : P = tx (foundP N room.data.toList leaf sig.data.toList d.data.toList c)) (u : World) =>
    run_any N h room T leaf (c : Int) (dig N d.data.toList c : Int) 15 P u hr (by rw [hT]; have := hpc c hc; show room.size + ((sig.data.toList.drop (N * c)).take N).length ≤ _; omega) (by rw [hP, hT]; rfl))
  obtain ⟨F, hF⟩ : ∃ F, F = foundP N room.data.toList leaf sig.data.toList d.data.toList := ⟨_, rfl⟩
  rw [← hF] at hl RR
  have hM0 : 0 < M := by omega
  have RE := Lib.hid (fun (g cp : Nat) (u : World) (hg : g < u.heap.size) (hc : ∀ c, c < M → u.cell? ⟨g, c, none⟩ = some (.string (tx (F c)))) => ends_any N h room leaf F M V g cp u hN hM67 (fun c hc => hl c hc) (by omega) hg hc (by rw [hV, found, ← hF, ← hM]))
  have hda := fun c hc => dig_at N d.data.toList c hc
  generalize dig N d.data.toList = D at *
  generalize digs N d.data.toList = L at *
  obtain ⟨A, hA⟩ : ∃ A, A = N * M := ⟨_, rfl⟩
  have hA2 : A ≤ 2144 := by rw [hA]; exact hpl M (Nat.le_refl _)
  have hwA : IntKind.i64.wrap ((N : Int) * (2 * (N : Int) + 3)) = (A : Int) := by
    have e : (N : Int) * (2 * (N : Int) + 3) = ((N * M : Nat) : Int) := by rw [hMi]; push_cast; rfl
    rw [e, ← hA]
    exact IntWalk.i64_in _ (by omega)
  have heq : ((sig.size : Int) != (A : Int)) = false := by simp; omega
  have HWR := Lib.hid (fun (k : Nat) (hk : k < M) => show IntKind.i64.wrap ((k : Int) * (N : Int)) = ((N * k : Nat) : Int) ∧ IntKind.i64.wrap (((k : Int) + 1) * (N : Int)) = ((N * (k + 1) : Nat) : Int) ∧ IntKind.i64.wrap ((k : Int) + 1) = (k : Int) + 1 ∧ ((N * k : Nat) : Int) ≤ ((N * (k + 1) : Nat) : Int) ∧ ((N * (k + 1) : Nat) : Int) ≤ (sig.size : Int) from by
    have h1 := hmul k (by omega)
    have h2 := hmul (k + 1) hk
    have h3 : N * (k + 1) = N * k + N := Nat.mul_succ _ _
    have h4 := hpl (k + 1) hk
    have e1 : (k : Int) * (N : Int) = ((N * k : Nat) : Int) := by rw [Int.mul_comm]; push_cast; rfl
    have e2 : ((k : Int) + 1) * (N : Int) = ((N * (k + 1) : Nat) : Int) := by rw [Int.mul_comm]; push_cast; rfl
    refine ⟨by rw [e1]; exact IntWalk.i64_in _ (by omega), by rw [e2]; exact IntWalk.i64_in _ (by omega), IntWalk.i64_in _ (by omega), by omega, by omega⟩)
  have HDA := Lib.hid hda
  have HFL := Lib.hid hl
  have HPL := Lib.hid hpl
  have HM0 := Lib.hid hM
  clear hV hs hF hr hl hda hz hA hmul hpl hpc hMi hM hds
  have hB0 := (Below.refl w.heap.size w).alloc (Nat.le_refl _) (.cells #[.int .i64 (N : Int), .int .i64 h] 23)
  have hc0 : (w.alloc (.cells #[.int .i64 (N : Int), .int .i64 h] 23)).cell? ⟨w.heap.size, 0, none⟩ = some (.int .i64 (N : Int)) := by simp
  have hc1 : (w.alloc (.cells #[.int .i64 (N : Int), .int .i64 h] 23)).cell? ⟨w.heap.size, 1, none⟩ = some (.int .i64 h) := by simp
  have hlt : w.heap.size < (w.alloc (.cells #[.int .i64 (N : Int), .int .i64 h] 23)).heap.size := by simp
  go_enter Tryz.func41, Tryz.ntmps41
  go_upto_region 1 with (fail)
  generalize w.alloc (.cells #[.int .i64 (N : Int), .int .i64 h] 23) = w00 at *
  have HC := Lib.hid (fun (u : World) (q : Below w00.heap.size w00 u) => (⟨(q.cell (p := ⟨w.heap.size, 0, none⟩) hlt).trans hc0, (q.cell (p := ⟨w.heap.size, 1, none⟩) hlt).trans hc1⟩ : u.cell? ⟨w.heap.size, 0, none⟩ = some (.int .i64 (N : Int)) ∧ u.cell? ⟨w.heap.size, 1, none⟩ = some (.int .i64 h)))
  have HB00 := Lib.hid hB0
  clear hB0 hc0 hc1 hlt
  refine Steady.region 12 (by kernel_rfl) (by kernel_rfl) (fun u => Below w00.heap.size w00 u) ((Below.refl _ _).drew) ?_
  simp only [List.take_succ_cons, List.take_zero, List.drop_succ_cons, List.drop_zero]
  refine Steady.take ?_ rfl (by intro u hu; obtain ⟨c0, c1⟩ := HC.out u hu; go_simp; with_reducible rfl) ?_
  simp only [Act.put, List.setIfInBounds_toArray, List.set_cons_zero, List.set_cons_succ]
  refine Steady.call _ _ _ rfl ?_ (Steady.kept R1.out) ?_
  · intro u
    go_simp
  simp only [Act.put, List.setIfInBounds_toArray, List.set_cons_zero, List.set_cons_succ]
  refine Steady.take ?_ rfl (by intro u hu; go_simp; with_reducible rfl) ?_
  simp only [Act.put, List.setIfInBounds_toArray, List.set_cons_zero, List.set_cons_succ]
  refine Steady.take ?_ rfl (by intro u hu; go_simp; with_reducible rfl) ?_
  simp only [Act.put, List.setIfInBounds_toArray, List.set_cons_zero, List.set_cons_succ]
  refine Steady.take ?_ rfl (by intro u hu; go_simp; with_reducible rfl) ?_
  simp only [Act.put, List.setIfInBounds_toArray, List.set_cons_zero, List.set_cons_succ]
  refine Steady.take ?_ rfl (by intro u hu; go_simp; with_reducible rfl) ?_
  simp only [Act.put, List.setIfInBounds_toArray, List.set_cons_zero, List.set_cons_succ]
  refine Steady.take ?_ rfl (by intro u hu; go_simp; with_reducible rfl) ?_
  simp only [Act.put, List.setIfInBounds_toArray, List.set_cons_zero, List.set_cons_succ]
  refine Steady.take ?_ rfl (by intro u hu; obtain ⟨c0, c1⟩ := HC.out u hu; go_simp; with_reducible rfl) ?_
  simp only [Act.put, List.setIfInBounds_toArray, List.set_cons_zero, List.set_cons_succ]
  refine Steady.take ?_ rfl (by intro u hu; obtain ⟨c0, c1⟩ := HC.out u hu; go_simp; with_reducible rfl) ?_
  simp only [Act.put, List.setIfInBounds_toArray, List.set_cons_zero, List.set_cons_succ]
  refine Steady.call _ _ _ rfl ?_ (Steady.kept R2.out) ?_
  · intro u
    go_simp
  simp only [Act.put, List.setIfInBounds_toArray, List.set_cons_zero, List.set_cons_succ]
  refine Steady.take ?_ rfl (by intro u hu; go_simp; with_reducible rfl) ?_
  simp only [Act.put, List.setIfInBounds_toArray, List.set_cons_zero, List.set_cons_succ]
  refine Steady.take ?_ rfl (by intro u hu; go_simp; with_reducible rfl) ?_
  simp only [Act.put, List.setIfInBounds_toArray, List.set_cons_zero, List.set_cons_succ]
  refine Steady.nil ?_
  intro wz hz
  have HC0 := Lib.hid (fun (u : World) (q : Below wz.heap.size wz u) => HC.out u (hz.trans (q.mono hz.size)))
  have HB0 := Lib.hid (HB00.out.trans (hz.mono HB00.out.size))
  clear hz HB00 HC heq hwA
  go_upto_region 4 with (fail)
  obtain ⟨c0, c1⟩ := HC0.out _ (Below.refl _ _)
  go_wp2_with fail
  refine (R3.out _).mono ?_
  rintro e w3 ⟨v, rfl, hown, hb3⟩
  obtain ⟨g, cp, cur, rfl, hg1, hg2, hg3, hg4⟩ := ints_row hown (by omega)
  have HG3 := Lib.hid hg3
  have HW3 := Lib.hid hb3
  have HGB := Lib.hid hg1
  clear hb3 c0 c1 hown hg3 hg1
  have HG4 := Lib.hid (fun (u : World) (hu : u.heap[g]? = some (.cells cur 3 (0, 0))) (k : Nat) (hk : k < M) => hg4 u hu k (D k) (HDA.out k (by have := HM0.out; omega)))
  rw [← HM0.out] at hg2 ⊢
  clear hg4
  have hown0 : w3.ownsRow w3.heap.size 9 1 (.slice none 0 0) 0 (Strs.strsV (pieces F 0)) := ⟨rfl, .inl ⟨rfl, rfl⟩⟩
  have HOWN0 := Lib.hid hown0
  clear hown0
  go_wp2_with fail
  go_loopw [11, 12, 13, 31] (fun v _ _ i wr => ∃ k : Nat, k ≤ M ∧ i = .int .i64 k ∧ wr.ownsRow w3.heap.size 9 1 v k (Strs.strsV (pieces F k)) ∧ Below w3.heap.size w3 wr) (fun _ _ _ i _ => M - (intOf i).toNat)
  case atStart => exact ⟨0, by omega, rfl, HOWN0.out, Below.refl _ _⟩
  case round =>
    clear HOWN0
    obtain ⟨k, hk, rfl, hown, hbel⟩ := hrel
    have hgk := (hbel.block g (Array.getElem?_eq_some_iff.1 HG3.out).1).trans HG3.out
    have HW := Lib.hid hbel
    have HOWN := Lib.hid hown
    clear hbel hown
    by_cases hlt : k < M
    · have hc := HG4.out wr hgk k hlt
      obtain ⟨e1, e2, e3, e4, e5⟩ := HWR.out k hlt
      obtain ⟨P, hP⟩ : ∃ P, P = tx (F k) := ⟨_, rfl⟩
      have hnx : pieces F (k + 1) = pieces F k ++ [P] := by rw [hP]; exact pieces_next F k
      have hT := piece_cut sig (N * k) N (N * (k + 1)) (Nat.mul_succ _ _)
      obtain ⟨T, hTT⟩ : ∃ T, T = sig.extract (N * k) (N * (k + 1)) := ⟨_, rfl⟩
      rw [← hTT] at hT
      have hcut := hTT.symm
      have RR1 := Lib.hid (fun (u : World) => RR.out k hlt T P hT hP u)
      have HNX := Lib.hid hnx
      have hzr := HW3.out.trans (HW.out.mono HW3.out.size)
      have HC1 := Lib.hid (fun (u : World) (q : Below wr.heap.size wr u) => HC0.out u (hzr.trans (q.mono hzr.size)))
      clear hT hTT hP hnx hgk hzr
      generalize D k = dk at *
      obtain ⟨a, ha⟩ : ∃ a, a = N * k := ⟨_, rfl⟩
      obtain ⟨b, hb⟩ : ∃ b, b = N * (k + 1) := ⟨_, rfl⟩
      rw [← ha] at e1 e4 hcut
      rw [← hb] at e2 e4 e5 hcut
      have e6 : (0 : Int) ≤ (a : Int) := by omega
      have e7 : (0 : Int) ≤ (b : Int) := by omega
      clear ha hb
      have E8 := Lib.hid (show (a : Int).toNat = a by omega)
      have E9 := Lib.hid (show (b : Int).toNat = b by omega)
      go_upto_region 7 with (fail)
      clear hc
      have e8 := E8.out
      have e9 := E9.out
      obtain ⟨c0, c1⟩ := HC1.out _ (Below.refl _ _).drew
      go_region_law ((first
        | (refine step_call rfl 59 Tryz.call59 #[.tmp 37, .tmp 38, .tmp 41, .tmp 42, .const (.int .i64 15), .tmp 53] #[23, 9, 49, 3, 3, 9] rfl #[.agg #[.int .i64 (N : Int), .int .i64 h], .string room, .agg #[.int .i64 leaf, .int .i64 (k : Int)], .int .i64 (dk : Int), .int .i64 15, .string T] (by first | (simp [Act.eval]; done) | simp [Act.eval, Act.put]) _ _ (RR1.out _) ?_; intro w7 hb7)
        | (refine Strs.step_append_str (by rfl) _ _ (by rfl) w7 P w3.heap.size k _ (pieces F k) (by rfl) (by rfl) (Strs.own_below HOWN.out (((Below.refl _ _).drew).trans hb7)) (by omega) (by have := HW.out.size; have := hb7.size; simp at *; omega) ?_; intro v' w8 hown8 hgrow8)))
      all_goals
        have hz7 : Below w3.heap.size w3 w7 := HW.out.drew.trans (hb7.mono HW.out.size)
        have HW8 := Lib.hid ((hz7.alloc hz7.size (.cells #[.string P] 9)).grown hgrow8 (Nat.le_trans hz7.size (by simp)) (fun j hj => (HOWN.out.lt j hj).1))
        rw [← HNX.out] at hown8
        have HO8 := Lib.hid hown8
        clear hz7 hown8 hgrow8 hb7 c0 c1 e1 e2 e3 e4 e5 e6 e7 e8 e9 hcut
        go_wp2
        go_roundw
        case rel => exact ⟨k + 1, by omega, by go_num, HO8.out, HW8.out⟩
        case measure => simp [intOf]; omega
    · obtain rfl : k = M := by omega
      obtain ⟨g2, cp2, rfl, hg1, hg2⟩ := strs_row HOWN.out hM0
      have hcell : ∀ c, c < k → wr.cell? ⟨g2, c, none⟩ = some (.string (tx (F c))) := fun c hc => hg2 c _ (pieces_at F k c hc)
      have RE1 := Lib.hid (RE.out g2 cp2 wr hg1 hcell)
      have hzr := HW3.out.trans (HW.out.mono HW3.out.size)
      obtain ⟨c0, c1⟩ := HC0.out _ hzr
      have HZR := Lib.hid hzr
      clear hg1 hg2 hcell hzr hgk
      go_wp2_with fail
      refine RE1.out.mono ?_
      rintro e w6 ⟨rfl, hb6⟩
      have HZ6 := Lib.hid (HB0.out.trans ((HZR.out.trans (hb6.mono HZR.out.size)).mono HB0.out.size))
      clear hb6 c0 c1
      go_wp2
      go_ret
      exact ⟨rfl, HZ6.out⟩
end Go.Proofs.YtkchbilkmoemaaaGreatDoor.RefChn
