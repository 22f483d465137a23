/-
  Right, Count, numbered and value of package chains answer what the plain mathematics of the text Chn says, and leave all memory that was there as it was. Conditions: a chain's value has no more than 32 bytes, the texts together no more than 2^40, the constant table of package digest lies as the program's text lays it.
-/
import Derived.Test.YtncafbejgidliaaDoorChn
import Derived.Test.YtncafbejgidliaaDoorDigParts
import Derived.Test.YtncafbejgidliaaDoorLnHigh
import Derived.Test.YtncafbejgidliaaDoorSteady
import Derived.Deep.RegionHeld3
import Derived.BigQuiet
namespace Go.Proofs.YtncafbejgidliaaDoor.Chn
open Go.RowKit Mur Sha
set_option maxRecDepth 100000

/-- A shape as a value. -/
abbrev shapeV (n h : Int) : Value := .agg #[.int .i64 n, .int .i64 h]

set_option maxHeartbeats 800000 in
theorem right_any (n h : Int) (w : World) :
    Calls Tryd.prog 19 #[.agg #[.int .i64 n, .int .i64 h]] w fun e w' => e = .returned (.bool (decide (Right n h))) ∧ Below w.heap.size w w' := by
  have e : decide (Right n h) = (decide (2 ≤ n) && decide (n ≤ 32) && decide (0 ≤ h) && decide (h ≤ 8)) := by
    rw [Bool.eq_iff_iff]
    simp only [decide_eq_true_eq, Bool.and_eq_true, and_assoc]
    exact Iff.rfl
  rw [e]
  clear e
  go_enter Tryd.func19, Tryd.ntmps19
  by_cases h1 : 2 ≤ n
  · by_cases h2 : n ≤ 32
    · by_cases h3 : 0 ≤ h
      · by_cases h4 : h ≤ 8
        · rw [decide_eq_true h1, decide_eq_true h2, decide_eq_true h3, decide_eq_true h4]
          go_wp2
          go_ret
          exact ⟨rfl, (Below.refl _ _).alloc (Nat.le_refl _) _⟩
        · have h4' : decide (h ≤ 8) = false := decide_eq_false h4
          rw [decide_eq_true h1, decide_eq_true h2, decide_eq_true h3, decide_eq_false h4]
          go_wp2
          go_ret
          exact ⟨rfl, (Below.refl _ _).alloc (Nat.le_refl _) _⟩
      · have h3' : decide (0 ≤ h) = false := decide_eq_false h3
        rw [decide_eq_true h1, decide_eq_true h2, decide_eq_false h3]
        go_wp2
        go_ret
        exact ⟨rfl, (Below.refl _ _).alloc (Nat.le_refl _) _⟩
    · have h2' : decide (n ≤ 32) = false := decide_eq_false h2
      rw [decide_eq_true h1, decide_eq_false h2]
      go_wp2
      go_ret
      exact ⟨rfl, (Below.refl _ _).alloc (Nat.le_refl _) _⟩
  · have h1' : decide (2 ≤ n) = false := decide_eq_false h1
    rw [decide_eq_false h1]
    go_wp2
    go_ret
    exact ⟨rfl, (Below.refl _ _).alloc (Nat.le_refl _) _⟩

theorem right_yes (n h : Int) (hr : Right n h) (w : World) :
    Calls Tryd.prog 19 #[.agg #[.int .i64 n, .int .i64 h]] w fun e w' => e = .returned (.bool true) ∧ Below w.heap.size w w' := by
  have := right_any n h w
  rw [decide_eq_true hr] at this
  exact this
theorem right_no (n h : Int) (hr : ¬ Right n h) (w : World) :
    Calls Tryd.prog 19 #[.agg #[.int .i64 n, .int .i64 h]] w fun e w' => e = .returned (.bool false) ∧ Below w.heap.size w w' := by
  have := right_any n h w
  rw [decide_eq_false hr] at this
  exact this

theorem count_yes (n h : Int) (hr : Right n h) (w : World) :
    Calls Tryd.prog 28 #[.agg #[.int .i64 n, .int .i64 h]] w fun e w' => e = .returned (.int .i64 (2 * n + 3)) ∧ Below w.heap.size w w' := by
  have R1 := Lib.hid (fun u => right_yes n h hr u)
  have h1 := hr.1
  have h2 := hr.2.1
  clear hr
  go_enter Tryd.func28, Tryd.ntmps28
  go_wp2_with fail
  refine (R1.out _).mono ?_
  rintro e w1 ⟨rfl, hb⟩
  have c0 : w1.cell? ⟨w.heap.size, 0, none⟩ = some (.int .i64 n) := (hb.cell (p := ⟨w.heap.size, 0, none⟩) (by simp)).trans (by simp [World.cell?_alloc_new])
  have HB := Lib.hid (((Below.refl w.heap.size w).alloc (Nat.le_refl _) (.cells #[.int .i64 n, .int .i64 h] 23)).trans (hb.mono (by simp)))
  clear hb
  go_wp2
  go_ret
  exact ⟨rfl, HB.out⟩
theorem count_no (n h : Int) (hr : ¬ Right n h) (w : World) :
    Calls Tryd.prog 28 #[.agg #[.int .i64 n, .int .i64 h]] w fun e w' => e = .returned (.int .i64 0) ∧ Below w.heap.size w w' := by
  have R1 := Lib.hid (fun u => right_no n h hr u)
  clear hr
  go_enter Tryd.func28, Tryd.ntmps28
  go_wp2_with fail
  refine (R1.out _).mono ?_
  rintro e w1 ⟨rfl, hb⟩
  have HB := Lib.hid (((Below.refl w.heap.size w).alloc (Nat.le_refl _) (.cells #[.int .i64 n, .int .i64 h] 23)).trans (hb.mono (by simp)))
  clear hb
  go_wp2
  go_ret
  exact ⟨rfl, HB.out⟩

theorem numbered_any (n : Int) (wd : Nat) (M : ByteArray) (w : World) (hwd : wd ≤ 64) (hM : M = tx (num n wd)) :
    Calls Tryd.prog 49 #[.int .i64 n, .int .i64 (wd : Int)] w fun e w' => e = .returned (.string M) ∧ Below w.heap.size w w' := by
  have hw : IntKind.u64.wrap n = (low64 n : Int) := by rw [IntKind.wrap_u64, low64_cast]
  have hl := low64_lt n
  have R1 := fun u => Lanes.high_any (low64 n) (wd : Int) u hl (by omega) (by omega)
  have ew : Lanes.widthOf (wd : Int) = wd := by unfold Lanes.widthOf; omega
  rw [ew] at R1
  have R1 := Lib.hid (show ∀ u, Calls Tryd.prog 45 #[.int .u64 (low64 n : Int), .int .i64 (wd : Int)] u fun e w' => e = .returned (.string M) ∧ Below u.heap.size u w' from by rw [hM]; exact R1)
  clear hl ew hM
  go_enter Tryd.func49, Tryd.ntmps49
  go_wp2_with fail
  refine (R1.out _).mono ?_
  rintro e w1 ⟨rfl, hb⟩
  go_wp2
  go_ret
  exact ⟨rfl, hb⟩

theorem cut_take (D V : ByteArray) (N : Nat) (l : List UInt8) (hD : D = tx l) (hV : V = tx (l.take N)) : D.extract 0 N = V := by
  apply ByteArray.ext
  apply Array.ext'
  rw [extract_take, hD, hV]

/-- A contract that leaves all memory, asked only where all memory of before is left. -/
theorem keptIf {W : World} {f : FuncId} {args : Array Value} {v : Value} (R : ∀ u, Below W.heap.size W u → Calls Tryd.prog f args u fun e w' => e = .returned v ∧ Below u.heap.size u w') :
    ∀ w, Below W.heap.size W w → Calls Tryd.prog f args w fun e w' => e = .returned v ∧ Below W.heap.size W w' := fun w h =>
  (R w h).mono fun _ _ ⟨he, hb⟩ => ⟨he, h.trans (hb.mono h.size)⟩

set_option maxHeartbeats 800000 in
theorem value_any (N : Nat) (h : Int) (ls : List ByteArray) (b o cap : Nat) (V : ByteArray) (w : World) (hN : N ≤ 32) (hb : b < w.heap.size) (hn : ls.length ≤ 1000) (hcell : ∀ i (h : i < ls.length), w.cell? ⟨b, o + i, none⟩ = some (.string ls[i])) (hsum : partLong ls ls.length ≤ 140737488351232) (hV : V = tx (value N (ls.map fun s => s.data.toList))) (hk : Consts w) :
    Calls Tryd.prog 48 #[.agg #[.int .i64 (N : Int), .int .i64 h], .slice (some ⟨b, o, none⟩) ls.length cap] w fun e w' => e = .returned (.string V) ∧ Below w.heap.size w w' := by
  obtain ⟨D, hD⟩ : ∃ D, D = tx (sha (parts (ls.map fun s => s.data.toList))) := ⟨_, rfl⟩
  have hcut := cut_take D V N _ hD hV
  have hDs : D.size = 32 := by rw [hD]; exact sha_length _
  have RP := Lib.hid (fun (u : World) (hu : Below w.heap.size w u) => show Calls Tryd.prog 46 #[.slice (some ⟨b, o, none⟩) ls.length cap] u fun e w' => e = .returned (.string D) ∧ Below u.heap.size u w' from by
    rw [hD]
    exact parts_any ls b o cap u (Nat.lt_of_lt_of_le hb hu.size) (by omega) (fun i hi => (hu.cell (p := ⟨b, o + i, none⟩) hb).trans (hcell i hi)) hsum (hk.below hk.1 hu))
  clear hD hV hcell hsum hk hb hn
  have hN1 : (N : Int) ≤ 32 := by omega
  have hN2 : (N : Int) ≤ D.size := by omega
  have hN3 : (N : Int).toNat = N := by omega
  generalize ls.length = m at *
  go_enter Tryd.func48, Tryd.ntmps48
  go_upto_region 1 with (fail)
  have hB0 := ((Below.refl w.heap.size w).alloc (Nat.le_refl _) (.cells #[.int .i64 (N : Int), .int .i64 h] 23))
  have hc0 : (w.alloc (.cells #[.int .i64 (N : Int), .int .i64 h] 23)).cell? ⟨w.heap.size, 0, none⟩ = some (.int .i64 (N : Int)) := by simp [World.cell?_alloc_new]
  have hlt : w.heap.size < (w.alloc (.cells #[.int .i64 (N : Int), .int .i64 h] 23)).heap.size := by simp
  generalize w.alloc (.cells #[.int .i64 (N : Int), .int .i64 h] 23) = wz at *
  have RQ := Lib.hid (fun u (hu : Below wz.heap.size wz u) => RP.out u (hB0.trans (hu.mono hB0.size)))
  have HB0 := Lib.hid hB0
  clear hB0
  refine Steady.region 5 (by kernel_rfl) (by kernel_rfl) (fun u => Below wz.heap.size wz u) ((Below.refl _ _).drew) ?_
  simp only [List.take_succ_cons, List.take_zero, List.drop_succ_cons, List.drop_zero]
  refine Steady.take ?_ rfl (by intro u hu; go_simp; with_reducible rfl) ?_
  simp only [Act.put, List.setIfInBounds_toArray, List.set_cons_zero, List.set_cons_succ]
  refine Steady.call _ _ _ rfl ?_ (keptIf RQ.out) ?_
  · intro u
    go_simp
  simp only [Act.put, List.setIfInBounds_toArray, List.set_cons_zero, List.set_cons_succ]
  refine Steady.take ?_ rfl (by intro u hu; go_simp; with_reducible rfl) ?_
  simp only [Act.put, List.setIfInBounds_toArray, List.set_cons_zero, List.set_cons_succ]
  refine Steady.take ?_ rfl (by intro u hu; have c0 := (hu.cell (p := ⟨w.heap.size, 0, none⟩) hlt).trans hc0; go_simp; with_reducible rfl) ?_
  simp only [Act.put, List.setIfInBounds_toArray, List.set_cons_zero, List.set_cons_succ]
  refine Steady.take ?_ rfl (by intro u hu; go_simp; with_reducible rfl) ?_
  simp only [Act.put, List.setIfInBounds_toArray, List.set_cons_zero, List.set_cons_succ]
  refine Steady.nil ?_
  intro w2 hu
  go_wp2
  go_ret
  exact ⟨rfl, HB0.out.trans (hu.mono HB0.out.size)⟩
end Go.Proofs.YtncafbejgidliaaDoor.Chn
