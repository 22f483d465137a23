/-
  The document's own answers for Right of layer 7 and for Left of layer 9 answer what the plain mathematics says. No condition.
-/
import Derived.Test.YtkchbilkmoemaaaGreatDoorMStp
import Derived.Test.YtkchbilkmoemaaaGreatDoorMRef
namespace Go.Proofs.YtkchbilkmoemaaaGreatDoor.RefStp
open Go.RowKit Mur Sha Chn Stp
set_option maxRecDepth 100000

set_option maxHeartbeats 800000 in
theorem right_any (n h : Int) (w : World) :
    Calls Tryz.prog 19 #[.agg #[.int .i64 n, .int .i64 h]] w fun e w' => e = .returned (.bool (decide (Right n h))) ∧ Below w.heap.size w w' := by
  have e : decide (Right n h) = (decide (2 ≤ n) && decide (n ≤ 32) && decide (0 ≤ h) && decide (h ≤ 8)) := by
    rw [Bool.eq_iff_iff]
    simp only [decide_eq_true_eq, Bool.and_eq_true, and_assoc]
    exact Iff.rfl
  rw [e]
  clear e
  go_enter Tryz.func19, Tryz.ntmps19
  by_cases h1 : 2 ≤ n
  · by_cases h2 : n ≤ 32
    · by_cases h3 : 0 ≤ h
      · by_cases h4 : h ≤ 8
        · rw [decide_eq_true h1, decide_eq_true h2, decide_eq_true h3, decide_eq_true h4]
          go_wp2
          go_ret
          exact ⟨rfl, (Below.refl _ _).alloc (Nat.le_refl _) _⟩
        · have h4' : decide (h ≤ 8) = false := decide_eq_false h4
          rw [decide_eq_true h1, decide_eq_true h2, decide_eq_true h3, decide_eq_false h4]
          go_wp2
          go_ret
          exact ⟨rfl, (Below.refl _ _).alloc (Nat.le_refl _) _⟩
      · have h3' : decide (0 ≤ h) = false := decide_eq_false h3
        rw [decide_eq_true h1, decide_eq_true h2, decide_eq_false h3]
        go_wp2
        go_ret
        exact ⟨rfl, (Below.refl _ _).alloc (Nat.le_refl _) _⟩
    · have h2' : decide (n ≤ 32) = false := decide_eq_false h2
      rw [decide_eq_true h1, decide_eq_false h2]
      go_wp2
      go_ret
      exact ⟨rfl, (Below.refl _ _).alloc (Nat.le_refl _) _⟩
  · have h1' : decide (2 ≤ n) = false := decide_eq_false h1
    rw [decide_eq_false h1]
    go_wp2
    go_ret
    exact ⟨rfl, (Below.refl _ _).alloc (Nat.le_refl _) _⟩

theorem right_yes (n h : Int) (hr : Right n h) (w : World) :
    Calls Tryz.prog 19 #[.agg #[.int .i64 n, .int .i64 h]] w fun e w' => e = .returned (.bool true) ∧ Below w.heap.size w w' := by
  have := right_any n h w
  rw [decide_eq_true hr] at this
  exact this
theorem right_no (n h : Int) (hr : ¬ Right n h) (w : World) :
    Calls Tryz.prog 19 #[.agg #[.int .i64 n, .int .i64 h]] w fun e w' => e = .returned (.bool false) ∧ Below w.heap.size w w' := by
  have := right_any n h w
  rw [decide_eq_false hr] at this
  exact this

theorem shift_one (H p : Nat) (hH : H ≤ 8) (hp : p = 2 ^ H) : p ≤ 256 ∧ (2 : Int) ^ H = (p : Int) ∧ IntKind.u64.wrap (H : Int) = (H : Int) := by
  refine ⟨by rw [hp]; exact two_pow_le H hH, by rw [hp, Int.natCast_pow]; rfl, by rw [IntKind.wrap_u64]; omega⟩

set_option maxHeartbeats 1600000 in
theorem left_any (n h nx : Int) (seed : ByteArray) (L : Int) (w : World) (hL : L = leftI n h nx) :
    Calls Tryz.prog 14 #[.agg #[.int .i64 n, .int .i64 h, .string seed, .int .i64 nx]] w fun e w' => e = .returned (.int .i64 L) ∧ Below w.heap.size w w' := by
  by_cases hr : Right n h
  · obtain ⟨H, rfl⟩ : ∃ H : Nat, h = (H : Int) := ⟨h.toNat, (Int.toNat_of_nonneg hr.2.2.1).symm⟩
    have hH : H ≤ 8 := by have := hr.2.2.2; omega
    have R1 := Lib.hid (fun u => right_yes n H hr u)
    have hB0 := (Below.refl w.heap.size w).alloc (Nat.le_refl _) (.cells #[.int .i64 n, .int .i64 (H : Int), .string seed, .int .i64 nx] 25)
    by_cases h0 : 0 ≤ nx
    · have hd : decide (nx < 0) = false := by simp; omega
      obtain ⟨p, hp⟩ : ∃ p, p = 2 ^ H := ⟨_, rfl⟩
      obtain ⟨g1, g2, g3⟩ := shift_one H p hH hp
      have hlv : leavesI (H : Int) = p := by rw [leavesI, Int.toNat_natCast, hp]
      obtain ⟨q, hq⟩ : ∃ q, q = min nx (p : Int) := ⟨_, rfl⟩
      have hsub : IntKind.i64.wrap ((p : Int) - q) = (p : Int) - q := IntWalk.i64_in _ (by omega)
      have hmax : max 0 ((p : Int) - q) = L := by
        rw [hL, leftI, hlv]
        by_cases g : nx ≤ (p : Int)
        · rw [if_pos ⟨hr, h0, g⟩]; omega
        · rw [if_neg (fun k => g k.2.2)]; omega
      have HQ := Lib.hid hq.symm
      have HS := Lib.hid hsub
      have HX := Lib.hid hmax
      have hH0 : (H : Int) < 0 ↔ False := ⟨fun h => by omega, fun h => h.elim⟩
      clear hL hr hp hlv hq hsub hmax
      go_enter Tryz.func14, Tryz.ntmps14
      go_wp2_with fail
      refine (R1.out _).mono ?_
      rintro e w1 ⟨rfl, hb1⟩
      have c1 : w1.cell? ⟨w.heap.size, 1, none⟩ = some (.int .i64 (H : Int)) := (hb1.cell (p := ⟨w.heap.size, 1, none⟩) (by simp)).trans (by simp [World.cell?_alloc_new])
      have c3 : w1.cell? ⟨w.heap.size, 3, none⟩ = some (.int .i64 nx) := (hb1.cell (p := ⟨w.heap.size, 3, none⟩) (by simp)).trans (by simp [World.cell?_alloc_new])
      have HB := Lib.hid (hB0.trans (hb1.mono hB0.size))
      clear hb1 hB0
      have hq := HQ.out
      have hsub := HS.out
      have hmax := HX.out
      go_wp2
      go_ret
      exact ⟨rfl, HB.out⟩
    · have hd : decide (nx < 0) = true := by simp; omega
      obtain rfl : L = 0 := by rw [hL, leftI, if_neg (fun k => h0 k.2.1)]
      clear hL hr
      go_enter Tryz.func14, Tryz.ntmps14
      go_wp2_with fail
      refine (R1.out _).mono ?_
      rintro e w1 ⟨rfl, hb1⟩
      have c3 : w1.cell? ⟨w.heap.size, 3, none⟩ = some (.int .i64 nx) := (hb1.cell (p := ⟨w.heap.size, 3, none⟩) (by simp)).trans (by simp [World.cell?_alloc_new])
      have HB := Lib.hid (hB0.trans (hb1.mono hB0.size))
      clear hb1 hB0
      go_wp2
      go_ret
      exact ⟨rfl, HB.out⟩
  · have R1 := Lib.hid (fun u => right_no n h hr u)
    have hB0 := (Below.refl w.heap.size w).alloc (Nat.le_refl _) (.cells #[.int .i64 n, .int .i64 h, .string seed, .int .i64 nx] 25)
    obtain rfl : L = 0 := by rw [hL, leftI, if_neg (fun k => hr k.1)]
    clear hL hr
    go_enter Tryz.func14, Tryz.ntmps14
    go_wp2_with fail
    refine (R1.out _).mono ?_
    rintro e w1 ⟨rfl, hb1⟩
    have HB := Lib.hid (hB0.trans (hb1.mono hB0.size))
    clear hb1 hB0
    go_wp2
    go_ret
    exact ⟨rfl, HB.out⟩
end Go.Proofs.YtkchbilkmoemaaaGreatDoor.RefStp
