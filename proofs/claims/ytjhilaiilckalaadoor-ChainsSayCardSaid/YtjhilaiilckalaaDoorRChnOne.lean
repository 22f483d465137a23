/-
  The document's own answers for Right, Count, begin, Run, ends and Digits of layer 7 answer what the plain mathematics of the text Chn says; the statements' helper 'ints'. Conditions: those that each lemma names.
-/
import Derived.Test.YtjhilaiilckalaaDoorChnFound
import Derived.Test.YtjhilaiilckalaaDoorRefPart
import Derived.Test.YtjhilaiilckalaaDoorChecked
import Derived.Test.YtjhilaiilckalaaDoorIntA
import Derived.BigQuiet
import Derived.Deep.QuietTactic
namespace Go.Proofs.YtjhilaiilckalaaDoor.RefChn
open Go.RowKit Mur Sha Chn

set_option maxHeartbeats 800000 in
theorem right_any (n h : Int) (w : World) :
    Calls Tryd.prog 9 #[.agg #[.int .i64 n, .int .i64 h]] w fun e w' => e = .returned (.bool (decide (Right n h))) ∧ Below w.heap.size w w' := by
  have e : decide (Right n h) = (decide (2 ≤ n) && decide (n ≤ 32) && decide (0 ≤ h) && decide (h ≤ 8)) := by
    rw [Bool.eq_iff_iff]
    simp only [decide_eq_true_eq, Bool.and_eq_true, and_assoc]
    exact Iff.rfl
  rw [e]
  clear e
  go_enter Tryd.func9, Tryd.ntmps9
  by_cases h1 : 2 ≤ n
  · by_cases h2 : n ≤ 32
    · by_cases h3 : 0 ≤ h
      · by_cases h4 : h ≤ 8
        · rw [decide_eq_true h1, decide_eq_true h2, decide_eq_true h3, decide_eq_true h4]
          go_wp2
          go_ret
          exact ⟨rfl, (Below.refl _ _).alloc (Nat.le_refl _) _⟩
        · have h4' : decide (h ≤ 8) = false := decide_eq_false h4
          rw [decide_eq_true h1, decide_eq_true h2, decide_eq_true h3, decide_eq_false h4]
          go_wp2
          go_ret
          exact ⟨rfl, (Below.refl _ _).alloc (Nat.le_refl _) _⟩
      · have h3' : decide (0 ≤ h) = false := decide_eq_false h3
        rw [decide_eq_true h1, decide_eq_true h2, decide_eq_false h3]
        go_wp2
        go_ret
        exact ⟨rfl, (Below.refl _ _).alloc (Nat.le_refl _) _⟩
    · have h2' : decide (n ≤ 32) = false := decide_eq_false h2
      rw [decide_eq_true h1, decide_eq_false h2]
      go_wp2
      go_ret
      exact ⟨rfl, (Below.refl _ _).alloc (Nat.le_refl _) _⟩
  · have h1' : decide (2 ≤ n) = false := decide_eq_false h1
    rw [decide_eq_false h1]
    go_wp2
    go_ret
    exact ⟨rfl, (Below.refl _ _).alloc (Nat.le_refl _) _⟩

theorem right_yes (n h : Int) (hr : Right n h) (w : World) :
    Calls Tryd.prog 9 #[.agg #[.int .i64 n, .int .i64 h]] w fun e w' => e = .returned (.bool true) ∧ Below w.heap.size w w' := by
  have := right_any n h w
  rw [decide_eq_true hr] at this
  exact this
theorem right_no (n h : Int) (hr : ¬ Right n h) (w : World) :
    Calls Tryd.prog 9 #[.agg #[.int .i64 n, .int .i64 h]] w fun e w' => e = .returned (.bool false) ∧ Below w.heap.size w w' := by
  have := right_any n h w
  rw [decide_eq_false hr] at this
  exact this

theorem count_yes (n h : Int) (hr : Right n h) (w : World) :
    Calls Tryd.prog 11 #[.agg #[.int .i64 n, .int .i64 h]] w fun e w' => e = .returned (.int .i64 (2 * n + 3)) ∧ Below w.heap.size w w' := by
  have R1 := Lib.hid (fun u => right_yes n h hr u)
  have h1 := hr.1
  have h2 := hr.2.1
  clear hr
  go_enter Tryd.func11, Tryd.ntmps11
  go_wp2_with fail
  refine (R1.out _).mono ?_
  rintro e w1 ⟨rfl, hb⟩
  have c0 : w1.cell? ⟨w.heap.size, 0, none⟩ = some (.int .i64 n) := (hb.cell (p := ⟨w.heap.size, 0, none⟩) (by simp)).trans (by simp [World.cell?_alloc_new])
  have HB := Lib.hid (((Below.refl w.heap.size w).alloc (Nat.le_refl _) (.cells #[.int .i64 n, .int .i64 h] 23)).trans (hb.mono (by simp)))
  clear hb
  go_wp2
  go_ret
  exact ⟨rfl, HB.out⟩
theorem count_no (n h : Int) (hr : ¬ Right n h) (w : World) :
    Calls Tryd.prog 11 #[.agg #[.int .i64 n, .int .i64 h]] w fun e w' => e = .returned (.int .i64 0) ∧ Below w.heap.size w w' := by
  have R1 := Lib.hid (fun u => right_no n h hr u)
  clear hr
  go_enter Tryd.func11, Tryd.ntmps11
  go_wp2_with fail
  refine (R1.out _).mono ?_
  rintro e w1 ⟨rfl, hb⟩
  have HB := Lib.hid (((Below.refl w.heap.size w).alloc (Nat.le_refl _) (.cells #[.int .i64 n, .int .i64 h] 23)).trans (hb.mono (by simp)))
  clear hb
  go_wp2
  go_ret
  exact ⟨rfl, HB.out⟩
end Go.Proofs.YtjhilaiilckalaaDoor.RefChn

namespace Go.Proofs.YtjhilaiilckalaaDoor.RefChn
open Go.RowKit Mur Sha Chn
set_option maxRecDepth 100000

/-- What is kept of the world: room for so many blocks more, all memory. -/
structure Kept (w0 : World) (r : Nat) (w : World) : Prop where
  room : w0.heap.size + r < w.heap.size
  below : Below w0.heap.size w0 w
theorem Kept.next {w0 w w' : World} {r : Nat} (h : Kept w0 r w) (k : Below w.heap.size w w') : Kept w0 r w' :=
  ⟨Nat.lt_of_lt_of_le h.room k.size, h.below.trans (k.mono h.below.size)⟩
theorem Kept.drew {w0 w : World} {r : Nat} (h : Kept w0 r w) : Kept w0 r w.drew := ⟨h.room, h.below.drew⟩

theorem num_ref (n : Int) (wd : Nat) (M : ByteArray) (w : World) (hwd : wd ≤ 64) (hM : M = tx (num n wd)) :
    Calls Tryd.prog 26 #[.int .u64 (low64 n : Int), .int .i64 (wd : Int)] w fun e w' => e = .returned (.string M) ∧ Below w.heap.size w w' := by
  have R1 := RefOne.high_any (low64 n) (wd : Int) w (low64_lt n) (by omega) (by omega)
  have ew : Lanes.widthOf (wd : Int) = wd := by unfold Lanes.widthOf; omega
  rw [ew] at R1
  rw [hM]
  exact R1
theorem num_ref4 (n : Int) (M : ByteArray) (w : World) (hM : M = tx (num n 4)) : Calls Tryd.prog 26 #[.int .u64 (low64 n : Int), .int .i64 4] w fun e w' => e = .returned (.string M) ∧ Below w.heap.size w w' := num_ref n 4 M w (by omega) hM
theorem num_ref2 (n : Int) (M : ByteArray) (w : World) (hM : M = tx (num n 2)) : Calls Tryd.prog 26 #[.int .u64 (low64 n : Int), .int .i64 2] w fun e w' => e = .returned (.string M) ∧ Below w.heap.size w w' := num_ref n 2 M w (by omega) hM
theorem num_ref1 (n : Int) (M : ByteArray) (w : World) (hM : M = tx (num n 1)) : Calls Tryd.prog 26 #[.int .u64 (low64 n : Int), .int .i64 1] w fun e w' => e = .returned (.string M) ∧ Below w.heap.size w w' := num_ref n 1 M w (by omega) hM
theorem wrap_low (n : Int) : IntKind.u64.wrap n = (low64 n : Int) := by rw [IntKind.wrap_u64, low64_cast]

theorem parts_six (a0 a1 a2 a3 a4 a5 : ByteArray) (b : Nat) (D : ByteArray) (w : World) (hs : a0.size + a1.size + a2.size + a3.size + a4.size + a5.size ≤ 900000) (hD : D = tx (sha (parts [a0.data.toList, a1.data.toList, a2.data.toList, a3.data.toList, a4.data.toList, a5.data.toList]))) (hb : b < w.heap.size)
    (c0 : w.cell? ⟨b, 0, none⟩ = some (.string a0)) (c1 : w.cell? ⟨b, 1, none⟩ = some (.string a1)) (c2 : w.cell? ⟨b, 2, none⟩ = some (.string a2)) (c3 : w.cell? ⟨b, 3, none⟩ = some (.string a3)) (c4 : w.cell? ⟨b, 4, none⟩ = some (.string a4)) (c5 : w.cell? ⟨b, 5, none⟩ = some (.string a5)) :
    Calls Tryd.prog 25 #[.slice (some ⟨b, 0, none⟩) 6 6] w fun e w' => e = .returned (.string D) ∧ Below w.heap.size w w' := by
  rw [hD]
  exact RefSha.parts_ref [a0, a1, a2, a3, a4, a5] b 0 6 w hb (by show 6 ≤ _; omega) (fun i hi => match i, hi with
    | 0, _ => c0
    | 1, _ => c1
    | 2, _ => c2
    | 3, _ => c3
    | 4, _ => c4
    | 5, _ => c5)
    (by show 0 + (4 + a0.size) + (4 + a1.size) + (4 + a2.size) + (4 + a3.size) + (4 + a4.size) + (4 + a5.size) ≤ _; omega)

theorem parts_four (a0 a1 a2 a3 : ByteArray) (b : Nat) (D : ByteArray) (w : World) (hs : a0.size + a1.size + a2.size + a3.size ≤ 900000) (hD : D = tx (sha (parts [a0.data.toList, a1.data.toList, a2.data.toList, a3.data.toList]))) (hb : b < w.heap.size)
    (c0 : w.cell? ⟨b, 0, none⟩ = some (.string a0)) (c1 : w.cell? ⟨b, 1, none⟩ = some (.string a1)) (c2 : w.cell? ⟨b, 2, none⟩ = some (.string a2)) (c3 : w.cell? ⟨b, 3, none⟩ = some (.string a3)) :
    Calls Tryd.prog 25 #[.slice (some ⟨b, 0, none⟩) 4 4] w fun e w' => e = .returned (.string D) ∧ Below w.heap.size w w' := by
  rw [hD]
  exact RefSha.parts_ref [a0, a1, a2, a3] b 0 4 w hb (by show 4 ≤ _; omega) (fun i hi => match i, hi with
    | 0, _ => c0
    | 1, _ => c1
    | 2, _ => c2
    | 3, _ => c3)
    (by show 0 + (4 + a0.size) + (4 + a1.size) + (4 + a2.size) + (4 + a3.size) ≤ _; omega)

set_option maxHeartbeats 3200000 in
theorem begin_any (N : Nat) (h : Int) (seed : ByteArray) (s0 s1 : Int) (V : ByteArray) (w : World) (hN : N ≤ 32) (hs : seed.size ≤ 800000) (hV : V = tx (begins N seed.data.toList s0 s1)) :
    Calls Tryd.prog 31 #[.agg #[.int .i64 (N : Int), .int .i64 h], .string seed, .agg #[.int .i64 s0, .int .i64 s1]] w fun e w' => e = .returned (.string V) ∧ Below w.heap.size w w' := by
  obtain ⟨M0, hM0⟩ : ∃ M, M = tx (num s0 4) := ⟨_, rfl⟩
  have hs0 : M0.size = 4 := by rw [hM0]; exact num_length _ _
  have R0 := Lib.hid (fun u => num_ref4 s0 M0 u hM0)
  have hw0 := wrap_low s0
  obtain ⟨M1, hM1⟩ : ∃ M, M = tx (num s1 2) := ⟨_, rfl⟩
  have hs1 : M1.size = 2 := by rw [hM1]; exact num_length _ _
  have R1 := Lib.hid (fun u => num_ref2 s1 M1 u hM1)
  have hw1 := wrap_low s1
  obtain ⟨D, hD⟩ : ∃ D, D = tx (sha (parts [(⟨#[98, 101, 103, 105, 110]⟩ : ByteArray).data.toList, (seed : ByteArray).data.toList, (M0 : ByteArray).data.toList, (M1 : ByteArray).data.toList])) := ⟨_, rfl⟩
  have hDs : D.size = 32 := by rw [hD]; exact sha_length _
  have hcut : D.extract 0 N = V := cut_take D V N _ hD (by rw [hV, hM0, hM1]; rfl)
  have hN1 : (N : Int) ≤ 32 := by omega
  have hN2 : (N : Int) ≤ D.size := by omega
  have hN3 : (N : Int).toNat = N := by omega
  have RV := Lib.hid (show ∀ (b0 : Nat) (u : World), b0 < u.heap.size → u.cell? ⟨b0, 0, none⟩ = some (.string ⟨#[98, 101, 103, 105, 110]⟩) → u.cell? ⟨b0, 1, none⟩ = some (.string seed) → u.cell? ⟨b0, 2, none⟩ = some (.string M0) → u.cell? ⟨b0, 3, none⟩ = some (.string M1) → Calls Tryd.prog 25 #[.slice (some ⟨b0, 0, none⟩) 4 4] u fun e w' => e = .returned (.string D) ∧ Below u.heap.size u w' from
    fun b0 u h0 d0 d1 d2 d3 => parts_four ⟨#[98, 101, 103, 105, 110]⟩ seed M0 M1 b0 D u (by show 5 + seed.size + M0.size + M1.size ≤ _; omega) hD h0 d0 d1 d2 d3)
  clear hV hN hD hDs hM0 hs0 hM1 hs1
  have hK : Kept w 1 ((w.alloc (.cells #[.int .i64 (N : Int), .int .i64 h] 23)).alloc (.cells #[.int .i64 s0, .int .i64 s1] 27)) := ⟨by simp, (((Below.refl w.heap.size w).alloc (Nat.le_refl _) _).alloc (by simp) _)⟩
  have hc0 : ((w.alloc (.cells #[.int .i64 (N : Int), .int .i64 h] 23)).alloc (.cells #[.int .i64 s0, .int .i64 s1] 27)).cell? ⟨w.heap.size, 0, none⟩ = some (.int .i64 (N : Int)) := by first | (simp; done) | (rw [World.cell?_alloc_lt _ _ _ (by simp)]; simp)
  have hc1 : ((w.alloc (.cells #[.int .i64 (N : Int), .int .i64 h] 23)).alloc (.cells #[.int .i64 s0, .int .i64 s1] 27)).cell? ⟨w.heap.size, 1, none⟩ = some (.int .i64 h) := by first | (simp; done) | (rw [World.cell?_alloc_lt _ _ _ (by simp)]; simp)
  have hc2 : ((w.alloc (.cells #[.int .i64 (N : Int), .int .i64 h] 23)).alloc (.cells #[.int .i64 s0, .int .i64 s1] 27)).cell? ⟨w.heap.size + 1, 0, none⟩ = some (.int .i64 s0) := by first | (simp; done) | (rw [World.cell?_alloc_lt _ _ _ (by simp)]; simp)
  have hc3 : ((w.alloc (.cells #[.int .i64 (N : Int), .int .i64 h] 23)).alloc (.cells #[.int .i64 s0, .int .i64 s1] 27)).cell? ⟨w.heap.size + 1, 1, none⟩ = some (.int .i64 s1) := by first | (simp; done) | (rw [World.cell?_alloc_lt _ _ _ (by simp)]; simp)
  go_enter Tryd.func31, Tryd.ntmps31
  go_upto_region 1 with (fail)
  generalize ((w.alloc (.cells #[.int .i64 (N : Int), .int .i64 h] 23)).alloc (.cells #[.int .i64 s0, .int .i64 s1] 27)) = wz at *
  have held_next : ∀ {u u' : World}, (u.cell? ⟨w.heap.size, 0, none⟩ = some (.int .i64 (N : Int)) ∧ u.cell? ⟨w.heap.size, 1, none⟩ = some (.int .i64 h) ∧ u.cell? ⟨w.heap.size + 1, 0, none⟩ = some (.int .i64 s0) ∧ u.cell? ⟨w.heap.size + 1, 1, none⟩ = some (.int .i64 s1) ∧ Kept w 1 u) → Below u.heap.size u u' → (u'.cell? ⟨w.heap.size, 0, none⟩ = some (.int .i64 (N : Int)) ∧ u'.cell? ⟨w.heap.size, 1, none⟩ = some (.int .i64 h) ∧ u'.cell? ⟨w.heap.size + 1, 0, none⟩ = some (.int .i64 s0) ∧ u'.cell? ⟨w.heap.size + 1, 1, none⟩ = some (.int .i64 s1) ∧ Kept w 1 u') := by
    rintro u u' ⟨e0, e1, e2, e3, kk⟩ q
    have hr := kk.room
    have hr0 : w.heap.size < u.heap.size := by omega
    exact ⟨(q.cell (p := ⟨w.heap.size, 0, none⟩) (by assumption)).trans e0, (q.cell (p := ⟨w.heap.size, 1, none⟩) (by assumption)).trans e1, (q.cell (p := ⟨w.heap.size + 1, 0, none⟩) (by assumption)).trans e2, (q.cell (p := ⟨w.heap.size + 1, 1, none⟩) (by assumption)).trans e3, kk.next q⟩
  have held_below : ∀ {u : World}, (u.cell? ⟨w.heap.size, 0, none⟩ = some (.int .i64 (N : Int)) ∧ u.cell? ⟨w.heap.size, 1, none⟩ = some (.int .i64 h) ∧ u.cell? ⟨w.heap.size + 1, 0, none⟩ = some (.int .i64 s0) ∧ u.cell? ⟨w.heap.size + 1, 1, none⟩ = some (.int .i64 s1) ∧ Kept w 1 u) → Below w.heap.size w u := by
    rintro u ⟨-, -, -, -, kk⟩
    exact kk.below
  have HS := Lib.hid (show wz.drew.cell? ⟨w.heap.size, 0, none⟩ = some (.int .i64 (N : Int)) ∧ wz.drew.cell? ⟨w.heap.size, 1, none⟩ = some (.int .i64 h) ∧ wz.drew.cell? ⟨w.heap.size + 1, 0, none⟩ = some (.int .i64 s0) ∧ wz.drew.cell? ⟨w.heap.size + 1, 1, none⟩ = some (.int .i64 s1) ∧ Kept w 1 wz.drew from ⟨hc0, hc1, hc2, hc3, hK.drew⟩)
  clear hK hc0 hc1 hc2 hc3
  go_region_held3 (fun w' => w'.cell? ⟨w.heap.size, 0, none⟩ = some (.int .i64 (N : Int)) ∧ w'.cell? ⟨w.heap.size, 1, none⟩ = some (.int .i64 h) ∧ w'.cell? ⟨w.heap.size + 1, 0, none⟩ = some (.int .i64 s0) ∧ w'.cell? ⟨w.heap.size + 1, 1, none⟩ = some (.int .i64 s1) ∧ Kept w 1 w')
    (first | exact HS.out | assumption | exact held_next (by assumption) (by assumption) | exact held_next (by assumption) ((Below.refl _ _).alloc (Nat.le_refl _) _))
    (first
      | (go_at_call 26; with_reducible refine Calls.mono (R0.out _) ?_; rintro e w' ⟨rfl, hb⟩)
      | (go_at_call 26; with_reducible refine Calls.mono (R1.out _) ?_; rintro e w' ⟨rfl, hb⟩)
      | (go_at_call 25; refine Calls.mono (RV.out _ _ (by first | (simp; done) | (simp; omega)) (by first | (simp; done) | (rw [World.cell?_alloc_lt _ _ _ (by simp)]; simp; done)) (by first | (simp; done) | (rw [World.cell?_alloc_lt _ _ _ (by simp)]; simp; done)) (by first | (simp; done) | (rw [World.cell?_alloc_lt _ _ _ (by simp)]; simp; done)) (by first | (simp; done) | (rw [World.cell?_alloc_lt _ _ _ (by simp)]; simp; done))) ?_; rintro e w' ⟨rfl, hb⟩))
  all_goals
    go_wp2
    go_ret
    exact ⟨rfl, held_below (by assumption)⟩

end Go.Proofs.YtjhilaiilckalaaDoor.RefChn

namespace Go.Proofs.YtjhilaiilckalaaDoor.RefChn
open Go.RowKit Mur Sha Chn
set_option maxRecDepth 100000

theorem run_no (n h : Int) (hr : ¬ Right n h) (room v : ByteArray) (s0 s1 a b : Int) (w : World) :
    Calls Tryd.prog 16 #[.agg #[.int .i64 n, .int .i64 h], .string room, .agg #[.int .i64 s0, .int .i64 s1], .int .i64 a, .int .i64 b, .string v] w fun e w' => e = .returned (.string ⟨#[]⟩) ∧ Below w.heap.size w w' := by
  have R1 := Lib.hid (fun u => right_no n h hr u)
  clear hr
  go_enter Tryd.func16, Tryd.ntmps16
  go_wp2_with fail
  refine (R1.out _).mono ?_
  rintro e w1 ⟨rfl, hb⟩
  have HB := Lib.hid ((((Below.refl w.heap.size w).alloc (Nat.le_refl _) (.cells #[.int .i64 n, .int .i64 h] 23)).alloc (by simp) (.cells #[.int .i64 s0, .int .i64 s1] 27)).trans (hb.mono (by simp <;> omega)))
  clear hb
  go_wp2
  go_ret
  exact ⟨rfl, HB.out⟩

set_option maxHeartbeats 3200000 in
theorem run_any (N : Nat) (h : Int) (room v : ByteArray) (s0 s1 a b : Int) (V : ByteArray) (w : World) (hr : Right (N : Int) h) (hs : room.size + v.size ≤ 800000) (hV : V = tx (runI N room.data.toList s0 s1 a b v.data.toList)) :
    Calls Tryd.prog 16 #[.agg #[.int .i64 (N : Int), .int .i64 h], .string room, .agg #[.int .i64 s0, .int .i64 s1], .int .i64 a, .int .i64 b, .string v] w fun e w' => e = .returned (.string V) ∧ Below w.heap.size w w' := by
  have R1 := Lib.hid (fun u => right_yes N h hr u)
  have hN : N ≤ 32 := by have := hr.2.1; omega
  clear hr
  have hsz : ∀ k, (run N room.data.toList s0 s1 a.toNat k v.data.toList).length ≤ v.size + 32 := fun k => run_le N _ _ _ _ _ _ hN
  have HV := Lib.hid hV
  have HSZ := Lib.hid hsz
  clear hV hsz
  have hK : Kept w 1 ((w.alloc (.cells #[.int .i64 (N : Int), .int .i64 h] 23)).alloc (.cells #[.int .i64 s0, .int .i64 s1] 27)) := ⟨by simp, (((Below.refl w.heap.size w).alloc (Nat.le_refl _) _).alloc (by simp) _)⟩
  have hc0 : ((w.alloc (.cells #[.int .i64 (N : Int), .int .i64 h] 23)).alloc (.cells #[.int .i64 s0, .int .i64 s1] 27)).cell? ⟨w.heap.size, 0, none⟩ = some (.int .i64 (N : Int)) := by first | (simp; done) | (rw [World.cell?_alloc_lt _ _ _ (by simp)]; simp)
  have hc1 : ((w.alloc (.cells #[.int .i64 (N : Int), .int .i64 h] 23)).alloc (.cells #[.int .i64 s0, .int .i64 s1] 27)).cell? ⟨w.heap.size, 1, none⟩ = some (.int .i64 h) := by first | (simp; done) | (rw [World.cell?_alloc_lt _ _ _ (by simp)]; simp)
  have hc2 : ((w.alloc (.cells #[.int .i64 (N : Int), .int .i64 h] 23)).alloc (.cells #[.int .i64 s0, .int .i64 s1] 27)).cell? ⟨w.heap.size + 1, 0, none⟩ = some (.int .i64 s0) := by first | (simp; done) | (rw [World.cell?_alloc_lt _ _ _ (by simp)]; simp)
  have hc3 : ((w.alloc (.cells #[.int .i64 (N : Int), .int .i64 h] 23)).alloc (.cells #[.int .i64 s0, .int .i64 s1] 27)).cell? ⟨w.heap.size + 1, 1, none⟩ = some (.int .i64 s1) := by first | (simp; done) | (rw [World.cell?_alloc_lt _ _ _ (by simp)]; simp)
  go_enter Tryd.func16, Tryd.ntmps16
  go_upto_region 1 with (fail)
  generalize ((w.alloc (.cells #[.int .i64 (N : Int), .int .i64 h] 23)).alloc (.cells #[.int .i64 s0, .int .i64 s1] 27)) = wz at *
  have hl1 := hK.room
  have hl0 : w.heap.size < wz.heap.size := by omega
  have HC := Lib.hid (fun (u : World) (q : Below wz.heap.size wz u) => (⟨(q.cell (p := ⟨w.heap.size, 0, none⟩) hl0).trans hc0, (q.cell (p := ⟨w.heap.size, 1, none⟩) hl0).trans hc1, (q.cell (p := ⟨w.heap.size + 1, 0, none⟩) hl1).trans hc2, (q.cell (p := ⟨w.heap.size + 1, 1, none⟩) hl1).trans hc3, hK.next q⟩ :
    u.cell? ⟨w.heap.size, 0, none⟩ = some (.int .i64 (N : Int)) ∧ u.cell? ⟨w.heap.size, 1, none⟩ = some (.int .i64 h) ∧ u.cell? ⟨w.heap.size + 1, 0, none⟩ = some (.int .i64 s0) ∧ u.cell? ⟨w.heap.size + 1, 1, none⟩ = some (.int .i64 s1) ∧ Kept w 1 u))
  clear hK hc0 hc1 hc2 hc3 hl0 hl1
  obtain ⟨c0, c1, c2, c3, -⟩ := HC.out wz (Below.refl _ _)
  go_wp2_with fail
  refine (R1.out _).mono ?_
  rintro e w1 ⟨rfl, hb⟩
  have HB := Lib.hid hb
  clear hb c0 c1 c2 c3
  obtain ⟨F, hF⟩ : ∃ F, F = a.toNat := ⟨_, rfl⟩
  obtain ⟨S, hS⟩ : ∃ S, S = stepsOf a b := ⟨_, rfl⟩
  have hS2 : S = min b.toNat 15 - F := by rw [hS, hF]; rfl
  have hmx : max a 0 = (F : Int) := by omega
  have HVV := Lib.hid (show V = tx (run N room.data.toList s0 s1 F S v.data.toList) from by rw [HV.out, hF, hS]; rfl)
  rw [← hF] at HSZ
  have HF := Lib.hid hF
  have HS2 := Lib.hid hS2
  clear hF hS hS2
  go_wp2_with fail
  clear hmx
  go_loopw [5, 13] (fun x i wr => ∃ (c : Nat) (t : ByteArray), c ≤ S ∧ i = .int .i64 ((F + c : Nat) : Int) ∧ x = .string t ∧ t = tx (run N room.data.toList s0 s1 F c v.data.toList) ∧ (wr.cell? ⟨w.heap.size, 0, none⟩ = some (.int .i64 (N : Int)) ∧ wr.cell? ⟨w.heap.size, 1, none⟩ = some (.int .i64 h) ∧ wr.cell? ⟨w.heap.size + 1, 0, none⟩ = some (.int .i64 s0) ∧ wr.cell? ⟨w.heap.size + 1, 1, none⟩ = some (.int .i64 s1) ∧ Kept w 1 wr)) (fun _ i _ => F + S - (intOf i).toNat)
  case atStart => exact ⟨0, v, by omega, rfl, rfl, rfl, HC.out _ HB.out⟩
  case round =>
    clear HB
    obtain ⟨c, t, hc, rfl, rfl, ht, hbel⟩ := hrel
    have hts : t.size ≤ v.size + 32 := by rw [ht]; exact HSZ.out c
    have HT := Lib.hid ht
    have HW := Lib.hid hbel
    clear ht hbel
    obtain ⟨j, hj⟩ : ∃ j, j = F + c := ⟨_, rfl⟩
    by_cases hlt : c < S
    · have hd : decide ((j : Int) < min b 15) = true := by have := HS2.out; simp; omega
      have hj15 : j < 15 := by have := HS2.out; omega
      obtain ⟨T, hTT⟩ : ∃ T, T = tx (Chn.step N room.data.toList s0 s1 (j : Int) t.data.toList) := ⟨_, rfl⟩
      have hT2 : T = tx (run N room.data.toList s0 s1 F (c + 1) v.data.toList) := by rw [hTT, HT.out, run, ← hj]
      have HT2 := Lib.hid hT2
      have HJ := Lib.hid hj
      rw [← hj]
      clear hT2 hj
      obtain ⟨M0, hM0⟩ : ∃ M, M = tx (num s0 4) := ⟨_, rfl⟩
      have hs0 : M0.size = 4 := by rw [hM0]; exact num_length _ _
      have R0 := Lib.hid (fun u => num_ref4 s0 M0 u hM0)
      have hw0 := wrap_low s0
      obtain ⟨M1, hM1⟩ : ∃ M, M = tx (num s1 2) := ⟨_, rfl⟩
      have hs1 : M1.size = 2 := by rw [hM1]; exact num_length _ _
      have R1 := Lib.hid (fun u => num_ref2 s1 M1 u hM1)
      have hw1 := wrap_low s1
      obtain ⟨M2, hM2⟩ : ∃ M, M = tx (num (j : Int) 1) := ⟨_, rfl⟩
      have hs2 : M2.size = 1 := by rw [hM2]; exact num_length _ _
      have R2 := Lib.hid (fun u => num_ref1 (j : Int) M2 u hM2)
      have hw2 := wrap_low (j : Int)
      obtain ⟨D, hD⟩ : ∃ D, D = tx (sha (parts [(⟨#[114, 117, 110]⟩ : ByteArray).data.toList, (room : ByteArray).data.toList, (M0 : ByteArray).data.toList, (M1 : ByteArray).data.toList, (M2 : ByteArray).data.toList, (t : ByteArray).data.toList])) := ⟨_, rfl⟩
      have hDs : D.size = 32 := by rw [hD]; exact sha_length _
      have hcut : D.extract 0 N = T := cut_take D T N _ hD (by rw [hTT, hM0, hM1, hM2]; rfl)
      have hN1 : (N : Int) ≤ 32 := by omega
      have hN2 : (N : Int) ≤ D.size := by omega
      have hN3 : (N : Int).toNat = N := by omega
      have RV := Lib.hid (show ∀ (b0 : Nat) (u : World), b0 < u.heap.size → u.cell? ⟨b0, 0, none⟩ = some (.string ⟨#[114, 117, 110]⟩) → u.cell? ⟨b0, 1, none⟩ = some (.string room) → u.cell? ⟨b0, 2, none⟩ = some (.string M0) → u.cell? ⟨b0, 3, none⟩ = some (.string M1) → u.cell? ⟨b0, 4, none⟩ = some (.string M2) → u.cell? ⟨b0, 5, none⟩ = some (.string t) → Calls Tryd.prog 25 #[.slice (some ⟨b0, 0, none⟩) 6 6] u fun e w' => e = .returned (.string D) ∧ Below u.heap.size u w' from
        fun b0 u h0 d0 d1 d2 d3 d4 d5 => parts_six ⟨#[114, 117, 110]⟩ room M0 M1 M2 t b0 D u (by show 3 + room.size + M0.size + M1.size + M2.size + t.size ≤ _; omega) hD h0 d0 d1 d2 d3 d4 d5)
      clear hTT hD hDs hM0 hs0 hM1 hs1 hM2 hs2
      have held_next : ∀ {u u' : World}, (u.cell? ⟨w.heap.size, 0, none⟩ = some (.int .i64 (N : Int)) ∧ u.cell? ⟨w.heap.size, 1, none⟩ = some (.int .i64 h) ∧ u.cell? ⟨w.heap.size + 1, 0, none⟩ = some (.int .i64 s0) ∧ u.cell? ⟨w.heap.size + 1, 1, none⟩ = some (.int .i64 s1) ∧ Kept w 1 u) → Below u.heap.size u u' → (u'.cell? ⟨w.heap.size, 0, none⟩ = some (.int .i64 (N : Int)) ∧ u'.cell? ⟨w.heap.size, 1, none⟩ = some (.int .i64 h) ∧ u'.cell? ⟨w.heap.size + 1, 0, none⟩ = some (.int .i64 s0) ∧ u'.cell? ⟨w.heap.size + 1, 1, none⟩ = some (.int .i64 s1) ∧ Kept w 1 u') := by
        rintro u u' ⟨e0, e1, e2, e3, kk⟩ q
        have hr := kk.room
        have hr0 : w.heap.size < u.heap.size := by omega
        exact ⟨(q.cell (p := ⟨w.heap.size, 0, none⟩) (by assumption)).trans e0, (q.cell (p := ⟨w.heap.size, 1, none⟩) (by assumption)).trans e1, (q.cell (p := ⟨w.heap.size + 1, 0, none⟩) (by assumption)).trans e2, (q.cell (p := ⟨w.heap.size + 1, 1, none⟩) (by assumption)).trans e3, kk.next q⟩
      have held_below : ∀ {u : World}, (u.cell? ⟨w.heap.size, 0, none⟩ = some (.int .i64 (N : Int)) ∧ u.cell? ⟨w.heap.size, 1, none⟩ = some (.int .i64 h) ∧ u.cell? ⟨w.heap.size + 1, 0, none⟩ = some (.int .i64 s0) ∧ u.cell? ⟨w.heap.size + 1, 1, none⟩ = some (.int .i64 s1) ∧ Kept w 1 u) → Below w.heap.size w u := by
        rintro u ⟨-, -, -, -, kk⟩
        exact kk.below
      have HS := Lib.hid (show wr.drew.cell? ⟨w.heap.size, 0, none⟩ = some (.int .i64 (N : Int)) ∧ wr.drew.cell? ⟨w.heap.size, 1, none⟩ = some (.int .i64 h) ∧ wr.drew.cell? ⟨w.heap.size + 1, 0, none⟩ = some (.int .i64 s0) ∧ wr.drew.cell? ⟨w.heap.size + 1, 1, none⟩ = some (.int .i64 s1) ∧ Kept w 1 wr.drew from by obtain ⟨c0, c1, c2, c3, hk⟩ := HW.out; exact ⟨c0, c1, c2, c3, hk.drew⟩)
      go_upto_region 6 with (fail)
      clear hd
      go_region_held3 (fun w' => w'.cell? ⟨w.heap.size, 0, none⟩ = some (.int .i64 (N : Int)) ∧ w'.cell? ⟨w.heap.size, 1, none⟩ = some (.int .i64 h) ∧ w'.cell? ⟨w.heap.size + 1, 0, none⟩ = some (.int .i64 s0) ∧ w'.cell? ⟨w.heap.size + 1, 1, none⟩ = some (.int .i64 s1) ∧ Kept w 1 w')
        (first | exact HS.out | assumption | exact held_next (by assumption) (by assumption) | exact held_next (by assumption) ((Below.refl _ _).alloc (Nat.le_refl _) _))
        (first
          | (go_at_call 26; with_reducible refine Calls.mono (R0.out _) ?_; rintro e w' ⟨rfl, hb⟩)
          | (go_at_call 26; with_reducible refine Calls.mono (R1.out _) ?_; rintro e w' ⟨rfl, hb⟩)
          | (go_at_call 26; with_reducible refine Calls.mono (R2.out _) ?_; rintro e w' ⟨rfl, hb⟩)
          | (go_at_call 25; refine Calls.mono (RV.out _ _ (by first | (simp; done) | (simp; omega)) (by first | (simp; done) | (rw [World.cell?_alloc_lt _ _ _ (by simp)]; simp; done)) (by first | (simp; done) | (rw [World.cell?_alloc_lt _ _ _ (by simp)]; simp; done)) (by first | (simp; done) | (rw [World.cell?_alloc_lt _ _ _ (by simp)]; simp; done)) (by first | (simp; done) | (rw [World.cell?_alloc_lt _ _ _ (by simp)]; simp; done)) (by first | (simp; done) | (rw [World.cell?_alloc_lt _ _ _ (by simp)]; simp; done)) (by first | (simp; done) | (rw [World.cell?_alloc_lt _ _ _ (by simp)]; simp; done))) ?_; rintro e w' ⟨rfl, hb⟩))
      all_goals
        have hinv : w'.cell? ⟨w.heap.size, 0, none⟩ = some (.int .i64 (N : Int)) ∧ w'.cell? ⟨w.heap.size, 1, none⟩ = some (.int .i64 h) ∧ w'.cell? ⟨w.heap.size + 1, 0, none⟩ = some (.int .i64 s0) ∧ w'.cell? ⟨w.heap.size + 1, 1, none⟩ = some (.int .i64 s1) ∧ Kept w 1 w' := by assumption
        have HI := Lib.hid hinv
        clear hinv
        go_wp2
        go_roundw
        case rel => exact ⟨c + 1, T, by omega, by have := HJ.out; go_num, rfl, HT2.out, HI.out⟩
        case measure => have := HJ.out; simp [intOf]; omega
    · have hd : decide ((j : Int) < min b 15) = false := by have := HS2.out; have := HF.out; simp; omega
      have hcS : c = S := by omega
      subst hcS
      rw [← hj]
      clear hj
      have he : V = t := by rw [HVV.out, HT.out]
      subst he
      go_wp2
      go_ret
      exact ⟨rfl, HW.out.2.2.2.2.below⟩

end Go.Proofs.YtjhilaiilckalaaDoor.RefChn

namespace Go.Proofs.YtjhilaiilckalaaDoor.RefChn
open Go.RowKit Mur Sha Chn
set_option maxRecDepth 100000

/-- The pieces as texts. -/
def pieces (F : Nat → List UInt8) (k : Nat) : List ByteArray := (List.range k).map fun c => tx (F c)
theorem pieces_length (F : Nat → List UInt8) (k : Nat) : (pieces F k).length = k := by simp [pieces]
theorem pieces_next (F : Nat → List UInt8) (k : Nat) : pieces F (k + 1) = pieces F k ++ [tx (F k)] := by simp [pieces, List.range_succ]
theorem pieces_at (F : Nat → List UInt8) (M k : Nat) (h : k < M) : (pieces F M)[k]? = some (tx (F k)) := by simp [pieces, h]
theorem upto_next (F : Nat → List UInt8) (k : Nat) : tx (upto F (k + 1)) = tx (upto F k) ++ tx (F k) := by
  apply ByteArray.ext
  apply Array.ext'
  simp [upto]

set_option maxHeartbeats 3200000 in
theorem ends_any (N : Nat) (h : Int) (room : ByteArray) (leaf : Int) (F : Nat → List UInt8) (M : Nat) (V : ByteArray) (g cp : Nat) (w : World) (hN : N ≤ 32) (hM : M ≤ 67) (hF : ∀ c, c < M → (F c).length = N) (hs : room.size ≤ 800000) (hg : g < w.heap.size) (hcell : ∀ c, c < M → w.cell? ⟨g, c, none⟩ = some (.string (tx (F c)))) (hV : V = tx (together N room.data.toList leaf (upto F M))) :
    Calls Tryd.prog 32 #[.agg #[.int .i64 (N : Int), .int .i64 h], .string room, .int .i64 leaf, .slice (some ⟨g, 0, none⟩) M cp] w fun e w' => e = .returned (.string V) ∧ Below w.heap.size w w' := by
  have hul : ∀ k, k ≤ M → (upto F k).length = N * k := fun k => by
    induction k with
    | zero => intro _; rfl
    | succ k ih => intro hk; rw [upto, List.length_append, ih (by omega), hF k (by omega), Nat.mul_succ]
  have hpl := fun k (hk : k ≤ M) => show N * k ≤ 2144 from Nat.le_trans (Nat.mul_le_mul hN (show k ≤ 67 by omega)) (by decide)
  obtain ⟨E, hE⟩ : ∃ E : ByteArray, E = tx (upto F M) := ⟨_, rfl⟩
  have hEs : E.size ≤ 2144 := by rw [hE]; have := hul M (Nat.le_refl _); have := hpl M (Nat.le_refl _); show (upto F M).length ≤ _; omega
  have hVE : V = tx (together N room.data.toList leaf E.data.toList) := by rw [hV, hE]
  obtain ⟨M0, hM0⟩ : ∃ M, M = tx (num leaf 4) := ⟨_, rfl⟩
  have hs0 : M0.size = 4 := by rw [hM0]; exact num_length _ _
  have R0 := Lib.hid (fun u => num_ref4 leaf M0 u hM0)
  have hw0 := wrap_low leaf
  obtain ⟨D, hD⟩ : ∃ D, D = tx (sha (parts [(⟨#[108, 101, 97, 102]⟩ : ByteArray).data.toList, (room : ByteArray).data.toList, (M0 : ByteArray).data.toList, (E : ByteArray).data.toList])) := ⟨_, rfl⟩
  have hDs : D.size = 32 := by rw [hD]; exact sha_length _
  have hcut : D.extract 0 N = V := cut_take D V N _ hD (by rw [hVE, hM0]; rfl)
  have hN1 : (N : Int) ≤ 32 := by omega
  have hN2 : (N : Int) ≤ D.size := by omega
  have hN3 : (N : Int).toNat = N := by omega
  have RV := Lib.hid (show ∀ (b0 : Nat) (u : World), b0 < u.heap.size → u.cell? ⟨b0, 0, none⟩ = some (.string ⟨#[108, 101, 97, 102]⟩) → u.cell? ⟨b0, 1, none⟩ = some (.string room) → u.cell? ⟨b0, 2, none⟩ = some (.string M0) → u.cell? ⟨b0, 3, none⟩ = some (.string E) → Calls Tryd.prog 25 #[.slice (some ⟨b0, 0, none⟩) 4 4] u fun e w' => e = .returned (.string D) ∧ Below u.heap.size u w' from
    fun b0 u h0 d0 d1 d2 d3 => parts_four ⟨#[108, 101, 97, 102]⟩ room M0 E b0 D u (by show 4 + room.size + M0.size + E.size ≤ _; omega) hD h0 d0 d1 d2 d3)
  clear hV hVE hD hDs hM0 hs0
  have hK : Kept w 0 (w.alloc (.cells #[.int .i64 (N : Int), .int .i64 h] 23)) := ⟨by simp, ((Below.refl w.heap.size w).alloc (Nat.le_refl _) _)⟩
  have hc0 : (w.alloc (.cells #[.int .i64 (N : Int), .int .i64 h] 23)).cell? ⟨w.heap.size, 0, none⟩ = some (.int .i64 (N : Int)) := by simp
  have hc1 : (w.alloc (.cells #[.int .i64 (N : Int), .int .i64 h] 23)).cell? ⟨w.heap.size, 1, none⟩ = some (.int .i64 h) := by simp
  have hbz : Below w.heap.size w (w.alloc (.cells #[.int .i64 (N : Int), .int .i64 h] 23)) := (Below.refl w.heap.size w).alloc (Nat.le_refl _) _
  go_enter Tryd.func32, Tryd.ntmps32
  go_upto_region 1 with (fail)
  generalize (w.alloc (.cells #[.int .i64 (N : Int), .int .i64 h] 23)) = wz at *
  have HCL := Lib.hid (fun c (hc : c < M) => (hbz.cell (p := ⟨g, c, none⟩) hg).trans (hcell c hc))
  have HE := Lib.hid hE
  have HUL := Lib.hid hul
  have HPL := Lib.hid hpl
  have HF := Lib.hid hF
  clear hbz hcell hE hul hpl hF
  have held_next : ∀ {u u' : World}, (u.cell? ⟨w.heap.size, 0, none⟩ = some (.int .i64 (N : Int)) ∧ u.cell? ⟨w.heap.size, 1, none⟩ = some (.int .i64 h) ∧ Kept w 0 u) → Below u.heap.size u u' → (u'.cell? ⟨w.heap.size, 0, none⟩ = some (.int .i64 (N : Int)) ∧ u'.cell? ⟨w.heap.size, 1, none⟩ = some (.int .i64 h) ∧ Kept w 0 u') := by
    rintro u u' ⟨e0, e1, kk⟩ q
    have hr := kk.room
    have hr0 : w.heap.size < u.heap.size := by omega
    exact ⟨(q.cell (p := ⟨w.heap.size, 0, none⟩) (by assumption)).trans e0, (q.cell (p := ⟨w.heap.size, 1, none⟩) (by assumption)).trans e1, kk.next q⟩
  have held_below : ∀ {u : World}, (u.cell? ⟨w.heap.size, 0, none⟩ = some (.int .i64 (N : Int)) ∧ u.cell? ⟨w.heap.size, 1, none⟩ = some (.int .i64 h) ∧ Kept w 0 u) → Below w.heap.size w u := by
    rintro u ⟨-, -, kk⟩
    exact kk.below
  have HS := Lib.hid (show wz.drew.cell? ⟨w.heap.size, 0, none⟩ = some (.int .i64 (N : Int)) ∧ wz.drew.cell? ⟨w.heap.size, 1, none⟩ = some (.int .i64 h) ∧ Kept w 0 wz.drew from ⟨hc0, hc1, hK.drew⟩)
  clear hK hc0 hc1
  go_wp2_with fail
  go_loopw [9, 11, 14] (fun x _ i wr => ∃ k : Nat, k ≤ M ∧ i = .int .i64 k ∧ x = .string (tx (upto F k)) ∧ wr = wz) (fun _ _ i _ => M - (intOf i).toNat)
  case atStart => exact ⟨0, by omega, rfl, rfl, rfl⟩
  case round =>
    obtain ⟨k, hk, rfl, rfl, rfl⟩ := hrel
    by_cases hlt : k < M
    · have hc := HCL.out k hlt
      have hnx := upto_next F k
      have hs1 : (tx (upto F k)).size = N * k := HUL.out k hk
      have hs2 : (tx (F k)).size = N := HF.out k hlt
      have hs3 := HPL.out k hk
      obtain ⟨X, hX⟩ : ∃ X, X = tx (upto F k) := ⟨_, rfl⟩
      obtain ⟨Y, hY⟩ : ∃ X, X = tx (F k) := ⟨_, rfl⟩
      rw [← hX, ← hY] at hnx
      rw [← hY] at hc hs2
      rw [← hX] at hs1 ⊢
      have n2 : ¬ 9223372036854775807 < X.size + Y.size := by omega
      have HNX := Lib.hid hnx
      clear hX hY hnx hs1 hs2 hs3
      go_wp2
      go_roundw
      case rel => exact ⟨k + 1, by omega, by go_num, by rw [HNX.out], trivial⟩
      case measure => simp [intOf]; omega
    · obtain rfl : k = M := by omega
      rw [← HE.out]
      go_upto_region 7 with (fail)
      go_region_held3 (fun w' => w'.cell? ⟨w.heap.size, 0, none⟩ = some (.int .i64 (N : Int)) ∧ w'.cell? ⟨w.heap.size, 1, none⟩ = some (.int .i64 h) ∧ Kept w 0 w')
        (first | exact HS.out | assumption | exact held_next (by assumption) (by assumption) | exact held_next (by assumption) ((Below.refl _ _).alloc (Nat.le_refl _) _))
        (first
          | (go_at_call 26; with_reducible refine Calls.mono (R0.out _) ?_; rintro e w' ⟨rfl, hb⟩)
          | (go_at_call 25; refine Calls.mono (RV.out _ _ (by first | (simp; done) | (simp; omega)) (by first | (simp; done) | (rw [World.cell?_alloc_lt _ _ _ (by simp)]; simp; done)) (by first | (simp; done) | (rw [World.cell?_alloc_lt _ _ _ (by simp)]; simp; done)) (by first | (simp; done) | (rw [World.cell?_alloc_lt _ _ _ (by simp)]; simp; done)) (by first | (simp; done) | (rw [World.cell?_alloc_lt _ _ _ (by simp)]; simp; done))) ?_; rintro e w' ⟨rfl, hb⟩))
      all_goals
        go_wp2
        go_ret
        exact ⟨rfl, held_below (by assumption)⟩

end Go.Proofs.YtjhilaiilckalaaDoor.RefChn

namespace Go.Proofs.YtjhilaiilckalaaDoor.Chn
open Go.RowKit Mur

theorem not_same (x : Nat) : ((x : Int) != (x : Int)) = false := by simp
set_option maxHeartbeats 800000 in
theorem ints_any (l : List Nat) (n : Nat) (a b : Option Addr) (g h c d : Nat) (w : World) (hn : n = l.length) (hn2 : n ≤ 1000000) (ha : n ≠ 0 → a = some ⟨g, 0, none⟩) (hb : n ≠ 0 → b = some ⟨h, 0, none⟩) (hga : ∀ (i x : Nat), l[i]? = some x → w.cell? ⟨g, i, none⟩ = some (.int .i64 (x : Int))) (hhb : ∀ (i x : Nat), l[i]? = some x → w.cell? ⟨h, i, none⟩ = some (.int .i64 (x : Int))) :
    Calls Tryd.prog 12 #[.slice a n c, .slice b n d] w fun e w' => e = .returned (.bool true) ∧ ∃ k, w' = w.drewN k := by
  have HA := Lib.hid ha
  have HB := Lib.hid hb
  have HG := Lib.hid hga
  have HH := Lib.hid hhb
  have HN := Lib.hid hn
  clear ha hb hga hhb hn
  have hd : ((n : Int) != (n : Int)) = false := by simp
  go_enter Tryd.func12, Tryd.ntmps12
  go_wp2
  go_loopw [13] (fun i wr => ∃ q k : Nat, q ≤ n ∧ i = .int .i64 q ∧ wr = w.drewN k) (fun i _ => n - (intOf i).toNat)
  case atStart => exact ⟨0, 0, by omega, rfl, rfl⟩
  case round =>
    obtain ⟨q, k, hq, rfl, rfl⟩ := hrel
    by_cases hlt : q < n
    · obtain rfl := HA.out (by omega)
      obtain rfl := HB.out (by omega)
      have hql : q < l.length := by have := HN.out; omega
      have c1 : w.cell? ⟨g, q, none⟩ = some (.int .i64 (l[q] : Int)) := HG.out q l[q] (List.getElem?_eq_getElem hql)
      have c2 : w.cell? ⟨h, q, none⟩ = some (.int .i64 (l[q] : Int)) := HH.out q l[q] (List.getElem?_eq_getElem hql)
      generalize l[q] = x at *
      have hs := not_same x
      clear hql
      go_wp2
      go_quiet (fail)
      go_wp2
      go_roundw
      case rel => exact ⟨q + 1, k + nq, by omega, by go_num, rfl⟩
      case measure => simp [intOf]; omega
    · obtain rfl : q = n := by omega
      go_wp2
      go_ret
      exact ⟨rfl, k, rfl⟩
theorem ints_below (l : List Nat) (n : Nat) (a b : Option Addr) (g h c d : Nat) (w : World) (hn : n = l.length) (hn2 : n ≤ 1000000) (ha : n ≠ 0 → a = some ⟨g, 0, none⟩) (hb : n ≠ 0 → b = some ⟨h, 0, none⟩) (hga : ∀ (i x : Nat), l[i]? = some x → w.cell? ⟨g, i, none⟩ = some (.int .i64 (x : Int))) (hhb : ∀ (i x : Nat), l[i]? = some x → w.cell? ⟨h, i, none⟩ = some (.int .i64 (x : Int))) :
    Calls Tryd.prog 12 #[.slice a n c, .slice b n d] w fun e w' => e = .returned (.bool true) ∧ Below w.heap.size w w' :=
  (ints_any l n a b g h c d w hn hn2 ha hb hga hhb).mono fun _ _ ⟨h1, k, h2⟩ => ⟨h1, by rw [h2]; exact belowN (Below.refl _ _) k⟩

/-- A slice of these numbers that a call has made. -/
def Rowed (v : Value) (l : List Nat) (w : World) : Prop := w.ownsRow 0 3 1 v l.length (Ints.intsV l)
theorem Rowed.below {v : Value} {l : List Nat} {w w' : World} (h : Rowed v l w) (k : Below w.heap.size w w') : Rowed v l w' := Strs.own_below h k
theorem rowed_of {base n : Nat} {v : Value} {l : List Nat} {w : World} (h : w.ownsRow base 3 1 v n (Ints.intsV l)) (hn : n = l.length) : Rowed v l w := by
  subst hn
  exact Strs.own_mono h (Nat.zero_le _)
theorem rowed_none (w : World) : Rowed (.slice none 0 0) [] w := ⟨rfl, .inl ⟨rfl, rfl⟩⟩

theorem ints_rows (l : List Nat) (v v' : Value) (w : World) (h : Rowed v l w) (h' : Rowed v' l w) (hl : l.length ≤ 1000000) :
    Calls Tryd.prog 12 #[v, v'] w fun e w' => e = .returned (.bool true) ∧ Below w.heap.size w w' := by
  have hs : ∀ {u : Value}, Rowed u l w → ∃ a g c, u = .slice a l.length c ∧ (l.length ≠ 0 → a = some ⟨g, 0, none⟩) ∧ (∀ (i x : Nat), l[i]? = some x → w.cell? ⟨g, i, none⟩ = some (.int .i64 (x : Int))) := fun {u} hu => by
    rcases Strs.own_cases hu with ⟨rfl, h0, hx⟩ | ⟨g, c, rfl, _, _, _, _⟩
    · refine ⟨none, 0, 0, by rw [h0], fun hn => absurd h0 hn, fun i x hi => ?_⟩
      have : l = [] := List.eq_nil_of_length_eq_zero h0
      subst this
      simp at hi
    · exact ⟨some ⟨g, 0, none⟩, g, c, rfl, fun _ => rfl, fun i x hi => Strs.own_cell hu i _ (Ints.intsV_at hi)⟩
  obtain ⟨a, g, c, rfl, ha, hg⟩ := hs h
  obtain ⟨b, g', d, rfl, hb, hg'⟩ := hs h'
  exact ints_below l l.length a b g g' c d w rfl hl ha hb hg hg'
end Go.Proofs.YtjhilaiilckalaaDoor.Chn

namespace Go.Proofs.YtjhilaiilckalaaDoor.RefChn
open Go.RowKit Mur Sha Chn
set_option maxRecDepth 100000

/-- Filled up with bytes 0, and cut. -/
theorem told_cut (N : Nat) (d : ByteArray) (hN : N ≤ 32) : (d ++ (⟨(List.replicate 32 (0 : UInt8)).toArray⟩ : ByteArray)).extract 0 N = tx (told N d.data.toList) := by
  apply ByteArray.ext
  apply Array.ext'
  rw [extract_take]
  have hs : d.data.toList.length = d.size := rfl
  rw [ByteArray.data_append, Array.toList_append, List.take_append, tx_list, told]
  congr 1
  show (List.replicate 32 (0 : UInt8)).take (N - d.data.toList.length) = _
  rw [List.take_replicate]
  congr 1
  exact Nat.min_eq_left (Nat.le_trans (Nat.sub_le _ _) hN)
theorem made_bytes (u : World) (F : Nat) : Row (u.alloc (.cells (madeCells #[.int .u8 0] F) 5)) u.heap.size (bytesV (List.replicate F 0)) := RefSha.made_bytes u F

theorem quo_nat (n q : Nat) (h : n < 1000000) : wrap64 ((n : Int).tdiv (q : Int)) = ((n / q : Nat) : Int) := by
  have hle := Nat.div_le_self n q
  rw [Int.tdiv_eq_ediv_of_nonneg (by omega), ← Int.natCast_ediv]
  generalize n / q = m at *
  exact IntWalk.wrap64_in _ (by omega)
theorem rem_nat (n q : Nat) : (n : Int).tmod (q : Int) = ((n % q : Nat) : Int) := by
  rw [Int.tmod_eq_emod_of_nonneg (by omega), ← Int.natCast_emod]
theorem nib_hi (x : UInt8) : wrap64 ((wrap64 (x.toNat : Int)).tdiv 16) = ((x.toNat / 16 : Nat) : Int) := by
  have := x.toNat_lt
  have e : wrap64 (x.toNat : Int) = (x.toNat : Int) := IntWalk.wrap64_in _ (by omega)
  rw [e]
  exact quo_nat x.toNat 16 (by omega)
theorem nib_lo (x : UInt8) : (wrap64 (x.toNat : Int)).tmod 16 = ((x.toNat % 16 : Nat) : Int) := by
  have := x.toNat_lt
  have e : wrap64 (x.toNat : Int) = (x.toNat : Int) := IntWalk.wrap64_in _ (by omega)
  rw [e]
  exact rem_nat x.toNat 16

set_option maxHeartbeats 3200000 in
theorem digits_any (N : Nat) (h : Int) (d : ByteArray) (w : World) (hr : Right (N : Int) h) (hds : d.size ≤ 1099511627776) :
    Calls Tryd.prog 14 #[.agg #[.int .i64 (N : Int), .int .i64 h], .string d] w fun e w' => ∃ v, e = .returned v ∧ w'.ownsRow w.heap.size 3 1 v (2 * N + 3) (Ints.intsV (digs N d.data.toList)) ∧ Below w.heap.size w w' := by
  have R1 := Lib.hid (fun u => right_yes N h hr u)
  have hN : N ≤ 32 := by have := hr.2.1; omega
  have hN2 : 2 ≤ N := by have := hr.1; omega
  clear hr
  have hmk : ∀ u : World, (Instr.makeSlice 44 (.int .i64 32) (.int .i64 32)).run Tryd.prog u = .ok (.slice (some ⟨u.heap.size, 0, none⟩) 32 32) (u.alloc (.cells (madeCells #[.int .u8 0] 32) 5)) := fun u => Lanes.make_u8 u 32 (by omega)
  have hcv := fun (u : World) => string_row (P := Tryd.prog) (made_bytes u 32) 44 5 9 Tryd.underlying44 Tryd.underlying5 Tryd.underlying9 32 32 (by simp)
  obtain ⟨Z, hZ⟩ : ∃ Z : ByteArray, Z = ⟨(List.replicate 32 (0 : UInt8)).toArray⟩ := ⟨_, rfl⟩
  have hZs : Z.size = 32 := by rw [hZ]; rfl
  have htc := told_cut N d hN
  rw [← hZ] at hcv htc
  obtain ⟨T, hT⟩ : ∃ T, T = told N d.data.toList := ⟨_, rfl⟩
  have hTl : T.length = N := by rw [hT]; exact told_length _ _
  have hD : digs N d.data.toList = nibs T ++ rest (left N T) := by rw [hT]; rfl
  rw [hD]
  rw [← hT] at htc
  have HTL := Lib.hid hTl
  clear hD hT hZ hTl
  have hB0 := (Below.refl w.heap.size w).alloc (Nat.le_refl _) (.cells #[.int .i64 (N : Int), .int .i64 h] 23)
  have hc0 : (w.alloc (.cells #[.int .i64 (N : Int), .int .i64 h] 23)).cell? ⟨w.heap.size, 0, none⟩ = some (.int .i64 (N : Int)) := by simp
  have hc1 : (w.alloc (.cells #[.int .i64 (N : Int), .int .i64 h] 23)).cell? ⟨w.heap.size, 1, none⟩ = some (.int .i64 h) := by simp
  have hlt : w.heap.size < (w.alloc (.cells #[.int .i64 (N : Int), .int .i64 h] 23)).heap.size := by simp
  go_enter Tryd.func14, Tryd.ntmps14
  go_wp2_with fail
  generalize w.alloc (.cells #[.int .i64 (N : Int), .int .i64 h] 23) = wz at *
  have HC := Lib.hid (fun (u : World) (q : Below wz.heap.size wz u) => (⟨(q.cell (p := ⟨w.heap.size, 0, none⟩) hlt).trans hc0, (q.cell (p := ⟨w.heap.size, 1, none⟩) hlt).trans hc1⟩ : u.cell? ⟨w.heap.size, 0, none⟩ = some (.int .i64 (N : Int)) ∧ u.cell? ⟨w.heap.size, 1, none⟩ = some (.int .i64 h)))
  have HB0 := Lib.hid hB0
  clear hB0 hc0 hc1 hlt
  refine (R1.out _).mono ?_
  rintro e w1 ⟨rfl, hb1⟩
  have HB1 := Lib.hid hb1
  clear hb1
  go_upto_region 3 with (fail)
  have hcv2 : (convert 44 9 (.slice (some ⟨w1.heap.size, 0, none⟩) 32 32)).run Tryd.prog (w1.alloc (.cells (madeCells #[.int .u8 0] 32) 5)).drew = .ok (.string Z) (w1.alloc (.cells (madeCells #[.int .u8 0] 32) 5)).drew := hcv w1.drew
  have hw2 := HB1.out.alloc HB1.out.size (.cells (madeCells #[.int .u8 0] 32) 5)
  obtain ⟨c0, -⟩ := HC.out _ HB1.out
  obtain ⟨c1, -⟩ := HC.out _ HB1.out.drew
  obtain ⟨d0, -⟩ := HC.out _ hw2
  obtain ⟨d1, -⟩ := HC.out _ hw2.drew
  have n1 : (N : Int) ≤ 32 := by omega
  have n2 : (N : Int).toNat = N := by omega
  have n3 : (d ++ Z).size = d.size + 32 := by rw [ByteArray.size_append, hZs]
  have n4 : ¬ 9223372036854775807 < d.size + 32 := by omega
  have n5 : (N : Int) ≤ (d.size : Int) + 32 := by omega
  go_region
  have HW2 := Lib.hid hw2.drew
  clear c0 c1 d0 d1 n1 n2 n3 n4 n5 hcv2 hw2 hmk hcv hZs htc
  generalize (w1.alloc (.cells (madeCells #[.int .u8 0] 32) 5)).drew = w2 at *
  obtain ⟨c0, -⟩ := HC.out _ HW2.out
  go_wp2_with fail
  clear c0
  have hown0 : w2.ownsRow w2.heap.size 3 1 (.slice none 0 0) 0 (Ints.intsV []) := ⟨rfl, .inl ⟨rfl, rfl⟩⟩
  have HOWN0 := Lib.hid hown0
  clear hown0
  go_loopw [5, 6, 7, 8, 9, 25] (fun v r _ _ _ i wr => ∃ k : Nat, k ≤ N ∧ i = .int .i64 k ∧ r = .int .i64 ((30 * N - (nibs (T.take k)).sum : Nat) : Int) ∧ wr.ownsRow w2.heap.size 3 1 v (2 * k) (Ints.intsV (nibs (T.take k))) ∧ Below w2.heap.size w2 wr) (fun _ _ _ _ _ i _ => N - (intOf i).toNat)
  case atStart => exact ⟨0, by omega, rfl, by simp [nibs], HOWN0.out, Below.refl _ _⟩
  case round =>
    clear HOWN0
    obtain ⟨k, hk, rfl, rfl, hown, hbel⟩ := hrel
    by_cases hlt : k < N
    · have hkT : k < T.length := by rw [HTL.out]; exact hlt
      have HOWN := Lib.hid hown
      have HW := Lib.hid hbel
      clear hown hbel
      go_upto_region 9 with (fail)
      have hz : (tx T).size = N := HTL.out
      have z1 : (k : Int) < (N : Int) := by omega
      have z2 : (k : Int).toNat = k := by omega
      go_quiet (fail)
      have hkz : k < (tx T).size := by rw [hz]; exact hlt
      have hx : ((tx T)[k]'hkz) = T[k]'hkT := rfl
      rw [hx]
      clear z1 z2 hx hkz hz
      have htk : nibs (T.take (k + 1)) = nibs (T.take k) ++ [T[k].toNat / 16, T[k].toNat % 16] := by
        rw [List.take_succ_eq_append_getElem hkT, nibs_snoc]; rfl
      have hsm := nibs_sum (T.take (k + 1))
      have hln : (T.take (k + 1)).length = k + 1 := by rw [List.length_take]; omega
      have hsm0 : (nibs (T.take (k + 1))).sum = (nibs (T.take k)).sum + (T[k].toNat / 16 + T[k].toNat % 16) := by rw [htk, List.sum_append]; simp
      rw [hln] at hsm
      have hxb := T[k].toNat_lt
      generalize T[k] = x at *
      obtain ⟨hi, hhi⟩ : ∃ n, n = x.toNat / 16 := ⟨_, rfl⟩
      obtain ⟨lo, hlo⟩ : ∃ n, n = x.toNat % 16 := ⟨_, rfl⟩
      rw [← hhi, ← hlo] at htk hsm0
      have hhi2 : hi ≤ 15 := by omega
      have hlo2 : lo ≤ 15 := by omega
      generalize hS : (nibs (T.take k)).sum = s at *
      have EHI := Lib.hid (show wrap64 ((wrap64 (x.toNat : Int)).tdiv 16) = (hi : Int) from by rw [nib_hi, hhi])
      have ELO := Lib.hid (show (wrap64 (x.toNat : Int)).tmod 16 = (lo : Int) from by rw [nib_lo, hlo])
      have hnext : 30 * N - (nibs (T.take (k + 1))).sum = 30 * N - s - (hi + lo) := by omega
      have hle : hi + lo ≤ 30 * N - s := by omega
      obtain ⟨r, hr⟩ : ∃ r, r = 30 * N - s := ⟨_, rfl⟩
      rw [← hr] at hnext hle
      have hr2 : r ≤ 960 := by omega
      rw [← hr, EHI.out, ELO.out]
      have HNX := Lib.hid hnext
      have HTK := Lib.hid htk
      have HOWN1 := Lib.hid (show (wr.drewN nq).ownsRow w2.heap.size 3 1 _ (2 * k) (Ints.intsV (nibs (T.take k))) from HOWN.out)
      have HW1 := Lib.hid (belowN HW.out nq)
      clear htk hsm0 hsm hnext hr hS hxb hhi hlo hln EHI ELO HOWN HW
      generalize wr.drewN nq = wy at *
      go_upto_region 11 with (at_builtin; refine Ints.append_ints rfl _ _ rfl w2.heap.size (2 * k) _ (nibs (T.take k)) rfl (HOWN1.out.alloc _) wy.heap.size 2 2 [hi, lo] rfl rfl (Ints.new_two _ _ _ _) (by omega) (Nat.le_trans HW1.out.size (by simp)) ?_)
      intro v' w5 hown5 hgrow5
      have HW5 := Lib.hid ((HW1.out.alloc HW1.out.size (.cells #[.int .i64 (hi : Int), .int .i64 (lo : Int)] 3)).grown hgrow5 (Nat.le_trans HW1.out.size (by simp)) (fun j hj => (HOWN1.out.lt j hj).1))
      rw [← HTK.out] at hown5
      have HOWN5 := Lib.hid hown5
      clear hown5 hgrow5 HOWN1 HW1
      go_wp2
      go_roundw
      case rel => exact ⟨k + 1, by omega, by go_num, by rw [HNX.out]; go_num, HOWN5.out, HW5.out⟩
      case measure => simp [intOf]; omega
    · obtain rfl : k = N := by omega
      have hall : T.take k = T := by rw [List.take_of_length_le]; rw [HTL.out]; exact Nat.le_refl _
      rw [hall] at hown
      have hsm := nibs_sum T
      rw [HTL.out] at hsm
      have hL : left k T = 30 * k - (nibs T).sum := rfl
      rw [hall, ← hL]
      have hle := left_le k T
      obtain ⟨r, hr⟩ : ∃ r, r = left k T := ⟨_, rfl⟩
      rw [← hr] at hle ⊢
      obtain ⟨a0, ha0⟩ : ∃ a, a = r / 256 := ⟨_, rfl⟩
      obtain ⟨a1, ha1⟩ : ∃ a, a = r / 16 % 16 := ⟨_, rfl⟩
      obtain ⟨a2, ha2⟩ : ∃ a, a = r % 16 := ⟨_, rfl⟩
      have f0 : (r : Int) / 256 = (a0 : Int) := by rw [ha0, Int.natCast_ediv]; rfl
      have f1 : (r : Int) / 16 % 16 = (a1 : Int) := by rw [ha1, Int.natCast_emod, Int.natCast_ediv]; rfl
      have f2 : (r : Int) % 16 = (a2 : Int) := by rw [ha2, Int.natCast_emod]; rfl
      have hrest : nibs T ++ [a0, a1, a2] = nibs T ++ rest (left k T) := by rw [ha0, ha1, ha2, ← hr]; rfl
      have HREST := Lib.hid hrest
      have HOWN := Lib.hid hown
      have HW := Lib.hid hbel
      clear hrest hown hbel hsm hL ha0 ha1 ha2 hr hall
      go_wp2_with (at_builtin; refine Ints.append_ints rfl _ _ rfl w2.heap.size (2 * k) _ (nibs T) rfl (HOWN.out.alloc _) wr.heap.size 3 3 [a0, a1, a2] rfl rfl (Ints.new_three _ _ _ _ _) (by omega) (Nat.le_trans HW.out.size (by simp)) ?_)
      intro v' w5 hown5 hgrow5
      have HW5 := Lib.hid ((HW.out.alloc HW.out.size (.cells #[.int .i64 (a0 : Int), .int .i64 (a1 : Int), .int .i64 (a2 : Int)] 3)).grown hgrow5 (Nat.le_trans HW.out.size (by simp)) (fun j hj => (HOWN.out.lt j hj).1))
      rw [HREST.out] at hown5
      have HOWN5 := Lib.hid hown5
      clear hown5 hgrow5 HOWN HW
      go_wp2
      have hBw := HB0.out.trans (HW2.out.mono HB0.out.size)
      refine bodyPost_ret (v := v') (by simp [results, Tryd.results14, go_sem]) rfl ⟨_, rfl, Strs.own_mono HOWN5.out hBw.size, hBw.trans (HW5.out.mono hBw.size)⟩


theorem digits_no (n h : Int) (hr : ¬ Right n h) (d : ByteArray) (w : World) :
    Calls Tryd.prog 14 #[.agg #[.int .i64 n, .int .i64 h], .string d] w fun e w' => e = .returned (.slice none 0 0) ∧ Below w.heap.size w w' := by
  have R1 := Lib.hid (fun u => right_no n h hr u)
  clear hr
  go_enter Tryd.func14, Tryd.ntmps14
  go_wp2_with fail
  refine (R1.out _).mono ?_
  rintro e w1 ⟨rfl, hb⟩
  have HB := Lib.hid (((Below.refl w.heap.size w).alloc (Nat.le_refl _) (.cells #[.int .i64 n, .int .i64 h] 23)).trans (hb.mono (by simp)))
  clear hb
  go_wp2
  go_ret
  exact ⟨rfl, HB.out⟩
end Go.Proofs.YtjhilaiilckalaaDoor.RefChn
