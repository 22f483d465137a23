/-
  The examples that the statements of layer 1 go through (awake, live) answer true, whatever the memory; no condition.
-/
import Derived.Test.YtfomlcdmeclnpaaLanes
namespace Go.Proofs.Ytfomlcdmeclnpaa.Lanes
open Go.RowKit Mur

theorem ofRow {w : World} {b : Nat} {vs : List Value} (h : Row w b vs) (v : Value) (hv : vs[0]? = some v) : w.cell? ⟨b, 0, none⟩ = some v := h.cell hv

theorem low_ex (w : World) : Calls Try.prog 7 #[.string ⟨#[1, 2]⟩] w fun e w' => e = .returned (.int .u64 513) ∧ w = w' :=
  (low_any ⟨#[1, 2]⟩ w (by decide)).mono fun _ _ h => ⟨h.1.trans (by kernel_rfl), h.2⟩
theorem high_ex (w : World) : Calls Try.prog 9 #[.int .u64 258, .int .i64 3] w fun e w' => e = .returned (.string ⟨#[0, 1, 2]⟩) ∧ Below w.heap.size w w' :=
  (high_any 258 3 w (by omega) (by omega) (by omega)).mono fun _ _ h => ⟨h.1.trans (by kernel_rfl), h.2⟩
theorem words_ex1 (w : World) : Calls Try.prog 12 #[.string ⟨#[1, 0, 0, 0, 120]⟩, .bool false] w fun e w' => e = .returned (.slice (some ⟨w.heap.size, 0, none⟩) 1 1) ∧ Below w.heap.size w w' :=
  (words_any ⟨#[1, 0, 0, 0, 120]⟩ false w (by decide)).mono fun _ _ h => ⟨h.1, h.2.2⟩
theorem words_ex2 (w : World) : Calls Try.prog 12 #[.string ⟨#[1, 0, 0, 0]⟩, .bool true] w fun e w' => e = .returned (.slice (some ⟨w.heap.size, 0, none⟩) 1 1) ∧ w'.cell? ⟨w.heap.size, 0, none⟩ = some (.int .u32 16777216) ∧ Below w.heap.size w w' :=
  (words_any ⟨#[1, 0, 0, 0]⟩ true w (by decide)).mono fun _ _ h => ⟨h.1, ofRow h.2.1 _ (by kernel_rfl), h.2.2⟩
theorem words_ex3 (w : World) : Calls Try.prog 12 #[.string ⟨#[49, 50, 51, 52]⟩, .bool true] w fun e w' => e = .returned (.slice (some ⟨w.heap.size, 0, none⟩) 1 1) ∧ Below w.heap.size w w' :=
  (words_any ⟨#[49, 50, 51, 52]⟩ true w (by decide)).mono fun _ _ h => ⟨h.1, h.2.2⟩
theorem one_cell (w : World) : ∀ i (h : i < [1].length), (w.alloc (.cells #[.int .u32 1] 41)).cell? ⟨w.heap.size, 0 + i, none⟩ = some (.int .u32 (([1] : List Nat)[i] : Int)) := by
  intro i h
  have e : i = 0 := by simpa using h
  subst e
  simp
theorem text_ex (w : World) : Calls Try.prog 14 #[.slice (some ⟨w.heap.size, 0, none⟩) 1 1, .bool false] (w.alloc (.cells #[.int .u32 1] 41)) fun e w' => e = .returned (.string ⟨#[1, 0, 0, 0]⟩) ∧ Below w.heap.size w w' :=
  (text_some [1] w.heap.size 0 1 false (w.alloc (.cells #[.int .u32 1] 41)) (by decide) (by decide) (by simp) (one_cell w)).mono fun _ _ h => ⟨h.1.trans (by kernel_rfl), ((Below.refl _ _).alloc (Nat.le_refl _) _).trans (h.2.mono (by simp))⟩
theorem xor_ex (w : World) : Calls Try.prog 16 #[.string ⟨#[97, 98]⟩, .string ⟨#[97]⟩] w fun e w' => e = .returned (.string ⟨#[0, 98]⟩) ∧ Below w.heap.size w w' :=
  (LanesXor.xor_any ⟨#[97, 98]⟩ ⟨#[97]⟩ w (by decide) (by decide)).mono fun _ _ h => ⟨h.1.trans (by kernel_rfl), h.2⟩
theorem alike_ex1 (w : World) : Calls Try.prog 18 #[.string ⟨#[120]⟩, .string ⟨#[120]⟩] w fun e w' => e = .returned (.bool true) ∧ Below w.heap.size w w' :=
  (alike_any ⟨#[120]⟩ ⟨#[120]⟩ w (by decide) (by decide)).mono fun _ _ h => ⟨h.1.trans (by kernel_rfl), h.2⟩
theorem alike_ex2 (w : World) : Calls Try.prog 18 #[.string ⟨#[120]⟩, .string ⟨#[120, 121]⟩] w fun e w' => e = .returned (.bool false) ∧ Below w.heap.size w w' :=
  (alike_any ⟨#[120]⟩ ⟨#[120, 121]⟩ w (by decide) (by decide)).mono fun _ _ h => ⟨h.1.trans (by kernel_rfl), h.2⟩
theorem bit_ex (w : World) : Calls Try.prog 20 #[.string ⟨#[2]⟩, .int .i64 1] w fun e w' => e = .returned (.int .i64 1) ∧ w = w' :=
  (bit_any ⟨#[2]⟩ 1 w (by omega) (by omega) (by decide)).mono fun _ _ h => ⟨h.1.trans (by kernel_rfl), h.2⟩

set_option maxHeartbeats 800000 in
theorem awake_true (w : World) : Calls Try.prog 23 #[] w fun e w' => e = .returned (.bool true) ∧ Below w.heap.size w w' := by
  go_enter Try.func23, Try.ntmps23
  go_wp2_with fail
  refine (low_ex _).mono ?_
  rintro e w' ⟨rfl, rfl⟩
  go_wp2_with fail
  refine (high_ex _).mono ?_
  rintro e w1 ⟨rfl, hb1⟩
  go_wp2_with fail
  refine (words_ex1 _).mono ?_
  rintro e w2 ⟨rfl, hb2⟩
  go_wp2_with fail
  refine (words_ex2 _).mono ?_
  rintro e w3 ⟨rfl, hc3, hb3⟩
  go_wp2_with fail
  refine (text_ex _).mono ?_
  rintro e w4 ⟨rfl, hb4⟩
  go_wp2_with fail
  refine (xor_ex _).mono ?_
  rintro e w5 ⟨rfl, hb5⟩
  go_wp2_with fail
  refine (alike_ex1 _).mono ?_
  rintro e w6 ⟨rfl, hb6⟩
  go_wp2_with fail
  refine (alike_ex2 _).mono ?_
  rintro e w7 ⟨rfl, hb7⟩
  go_wp2_with fail
  refine (bit_ex _).mono ?_
  rintro e w' ⟨rfl, rfl⟩
  go_wp2
  go_ret
  refine ⟨rfl, ?_⟩
  exact hb1.trans ((hb2.mono hb1.size).trans ((hb3.mono (Nat.le_trans hb1.size hb2.size)).trans ((hb4.mono (Nat.le_trans hb1.size (Nat.le_trans hb2.size hb3.size))).trans ((hb5.mono (Nat.le_trans hb1.size (Nat.le_trans hb2.size (Nat.le_trans hb3.size hb4.size)))).trans
    ((hb6.mono (Nat.le_trans hb1.size (Nat.le_trans hb2.size (Nat.le_trans hb3.size (Nat.le_trans hb4.size hb5.size))))).trans (hb7.mono (Nat.le_trans hb1.size (Nat.le_trans hb2.size (Nat.le_trans hb3.size (Nat.le_trans hb4.size (Nat.le_trans hb5.size hb6.size)))))))))))

set_option maxHeartbeats 800000 in
theorem live_true (w : World) : Calls Try.prog 6 #[] w fun e w' => e = .returned (.bool true) ∧ Below w.heap.size w w' := by
  go_enter Try.func6, Try.ntmps6
  go_wp2_with fail
  refine (words_ex3 _).mono ?_
  rintro e w1 ⟨rfl, hb1⟩
  go_wp2_with fail
  refine (awake_true _).mono ?_
  rintro e w2 ⟨rfl, hb2⟩
  go_wp2
  go_ret
  exact ⟨rfl, hb1.trans (hb2.mono hb1.size)⟩
end Go.Proofs.Ytfomlcdmeclnpaa.Lanes
