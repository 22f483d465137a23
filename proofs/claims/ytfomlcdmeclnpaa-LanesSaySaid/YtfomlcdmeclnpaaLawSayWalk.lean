/-
  The walk of the statement LanesSay where its texts and its list are no longer than its guard lets: it answers true and leaves all memory that was there as it was. Condition: the guard's bounds.
-/
import Derived.Test.YtfomlcdmeclnpaaChecked
import Derived.Test.YtfomlcdmeclnpaaLaneLive
import Derived.Test.YtfomlcdmeclnpaaLaneCmp
import Derived.Test.YtfomlcdmeclnpaaRefTwo
import Derived.Test.YtfomlcdmeclnpaaRefXor
import Derived.Test.YtfomlcdmeclnpaaOpen
import Derived.ProofKit
import Derived.OpenShut
import Derived.SizedLaws
import Derived.ShutString
import Derived.ChangeOld
import Derived.Below
import Derived.Deep.RegionHeld3
import Derived.Deep.DrawnRows
namespace Go.Proofs.Ytfomlcdmeclnpaa.LawSay
open Go.ChangeShapes Go.WideShapes Go.ChangeAt Go.RowKit Mur Lanes
open Go.ChangeMaps (open_string shut_string)

theorem words_v (s : ByteArray) (big : Bool) (w : World) (hs : s.size ≤ 140737488351232) :
    Calls Try.prog 12 #[.string s, .bool big] w fun e w' => ∃ v, e = .returned v ∧ Words32 w' v (words s.data.toList big) ∧ Below w.heap.size w w' := by
  refine (Lanes.words_any s big w hs).mono fun e w' h => ⟨_, h.1, Words32.of_row h.2.1 ?_ (words_lt _ _), h.2.2⟩
  rw [words_length]
  rfl

attribute [local go_sem ↓] Go.wp_at_zero Go.wp_at_succ

/-- What is kept of the world through the whole statement, beside the boxed numbers. -/
structure Kept (w0 w : World) (v : Value) (ws : List Nat) : Prop where
  room : w0.heap.size + 1 < w.heap.size
  list : Words32 w v ws
  below : Below w0.heap.size w0 w
theorem Kept.next {w0 w w' : World} {v : Value} {ws : List Nat} (h : Kept w0 w v ws) (k : Below w.heap.size w w') : Kept w0 w' v ws :=
  ⟨Nat.lt_of_lt_of_le h.room k.size, h.list.below k rfl, h.below.trans (k.mono h.below.size)⟩
theorem held_next {w0 w w' : World} {v : Value} {ws : List Nat} {x y : Value} (h : w.cell? ⟨w0.heap.size + 1, 0, none⟩ = some x ∧ w.cell? ⟨w0.heap.size + 1, 1, none⟩ = some y ∧ Kept w0 w v ws) (k : Below w.heap.size w w') :
    w'.cell? ⟨w0.heap.size + 1, 0, none⟩ = some x ∧ w'.cell? ⟨w0.heap.size + 1, 1, none⟩ = some y ∧ Kept w0 w' v ws :=
  ⟨(k.cell (p := ⟨w0.heap.size + 1, 0, none⟩) h.2.2.room).trans h.1, (k.cell (p := ⟨w0.heap.size + 1, 1, none⟩) h.2.2.room).trans h.2.1, h.2.2.next k⟩

theorem held_list {w0 w : World} {v : Value} {ws : List Nat} {x y : Value} (h : w.cell? ⟨w0.heap.size + 1, 0, none⟩ = some x ∧ w.cell? ⟨w0.heap.size + 1, 1, none⟩ = some y ∧ Kept w0 w v ws) : Words32 w v ws := h.2.2.list
theorem same_true (ws : List Nat) : decide (ws = ws) = true := by simp
theorem cmp_true (ws : List Nat) (u v : Value) (w : World) (hu : Words32 w u ws) (hv : Words32 w v ws) (hn : ws.length ≤ 140737488351232) :
    Calls Try.prog 11 #[u, v] w fun e w' => e = .returned (.bool true) ∧ Below w.heap.size w w' :=
  (words_cmp ws ws u v w hu hv hn).mono fun _ _ h => ⟨h.1.trans (ret_bool (same_true ws)), h.2⟩

set_option maxRecDepth 100000 in
set_option maxHeartbeats 6400000 in
theorem law_small (a b : ByteArray) (ws : List Nat) (l : Option Addr) (cap : Nat) (m n : Int) (w : World) (hW : Words32 w (.slice l ws.length cap) ws) (h1 : a.size + b.size ≤ 2000) (h2 : ws.length ≤ 300)
    (n1 : -9223372036854775808 ≤ n) (n2 : n ≤ 9223372036854775807) :
    Calls Try.prog 3 #[.agg #[.string a, .string b], .slice l ws.length cap, .agg #[.int .i64 m, .int .i64 n]] w fun e w' => e = .returned (.bool true) ∧ Below w.heap.size w w' := by
  have hd1 : decide (2000 < (a.size : Int) + (b.size : Int)) = false := by simp; omega
  have hd2 : decide (300 < (ws.length : Int)) = false := by simp; omega
  obtain ⟨M, hM⟩ : ∃ M : Nat, IntKind.u64.wrap m = (M : Int) := ⟨(IntKind.u64.wrap m).toNat, by have : 0 ≤ IntKind.u64.wrap m := by rw [IntKind.wrap_u64]; omega
                                                                                                omega⟩
  have hMl : M < 18446744073709551616 := by rw [IntKind.wrap_u64] at hM; omega
  go_enter Try.func3, Try.ntmps3
  go_wp2
  go_quiet (fail)
  go_wp2_with fail
  obtain ⟨W0, hW0⟩ : ∃ W0 : World, W0 = (w.alloc (Obj.cells #[Value.string a, Value.string b] 22)).alloc (Obj.cells #[Value.int .i64 m, Value.int .i64 n] 24) := ⟨_, rfl⟩
  have hS0 : W0.cell? ⟨w.heap.size + 1, 0, none⟩ = some (.int .i64 m) ∧ W0.cell? ⟨w.heap.size + 1, 1, none⟩ = some (.int .i64 n) ∧ Kept w W0 (.slice l ws.length cap) ws := by
    have hB : Below w.heap.size w ((w.alloc (Obj.cells #[Value.string a, Value.string b] 22)).alloc (Obj.cells #[Value.int .i64 m, Value.int .i64 n] 24)) := ((Below.refl _ _).alloc (Nat.le_refl _) _).alloc (by simp) _
    subst hW0
    exact ⟨by simp, by simp, by simp, hW.below hB rfl, hB⟩
  rw [← hW0]
  have hS1 : (W0.drewN nq).drew.cell? ⟨w.heap.size + 1, 0, none⟩ = some (.int .i64 m) ∧ (W0.drewN nq).drew.cell? ⟨w.heap.size + 1, 1, none⟩ = some (.int .i64 n) ∧ Kept w (W0.drewN nq).drew (.slice l ws.length cap) ws :=
    ⟨hS0.1, hS0.2.1, hS0.2.2.room, hS0.2.2.list, (belowN hS0.2.2.below nq).drew⟩
  have HS1 := Lib.hid hS1
  clear hW0 hS0 hS1
  simp only [List.append_eq, List.cons_append, List.nil_append]
  have la : a.size ≤ 140737488351232 := by omega
  have lb : b.size ≤ 140737488351232 := by omega
  have lw : ws.length ≤ 35184372080640 := by omega
  have lW : ∀ big, (words a.data.toList big).length ≤ 140737488351232 := fun big => by rw [words_length]; have : a.data.toList.length = a.size := rfl; omega
  have LW := Lib.hid lW
  clear lW hd1 hd2
  go_region_held3 (fun w' => w'.cell? ⟨w.heap.size + 1, 0, none⟩ = some (.int .i64 m) ∧ w'.cell? ⟨w.heap.size + 1, 1, none⟩ = some (.int .i64 n) ∧ Kept w w' (.slice l ws.length cap) ws)
    (first | exact HS1.out | assumption | exact held_next (by assumption) (by assumption))
    (first
      | (go_at_call 7; refine (Lanes.low_any _ _ la).mono ?_; rintro e w' ⟨rfl, rfl⟩)
      | (go_at_call 8; refine (RefOne.low_any _ _ la).mono ?_; rintro e w' ⟨rfl, rfl⟩)
      | (go_at_call 9; refine (Lanes.high_any _ _ _ hMl n1 n2).mono ?_; rintro e w' ⟨rfl, hb⟩)
      | (go_at_call 10; refine (RefOne.high_any _ _ _ hMl n1 n2).mono ?_; rintro e w' ⟨rfl, hb⟩)
      | (go_at_call 12; refine (words_v _ _ _ la).mono ?_; rintro e w1 ⟨v1, rfl, hw1, hb1⟩)
      | (go_at_call 13; refine (RefTwo.words_any _ _ _ la).mono ?_; rintro e w2 ⟨v2, rfl, hw2, hb2⟩)
      | (go_at_call 11; refine (cmp_true _ _ _ _ (Words32.below hw1 hb2 rfl) hw2 (LW.out _)).mono ?_; rintro e w' ⟨rfl, hb⟩)
      | (go_at_call 14; refine (Lanes.text_any ws _ _ _ lw (held_list (by assumption))).mono ?_; rintro e w' ⟨rfl, hb⟩)
      | (go_at_call 15; refine (RefTwo.text_any ws _ _ _ lw (held_list (by assumption))).mono ?_; rintro e w' ⟨rfl, hb⟩)
      | (go_at_call 16; refine (LanesXor.xor_any _ _ _ la lb).mono ?_; rintro e w' ⟨rfl, hb⟩)
      | (go_at_call 17; refine (RefXor.refxor_any _ _ _ la lb).mono ?_; rintro e w' ⟨rfl, hb⟩)
      | (go_at_call 18; refine (alike_eq _ _ _ la lb).mono ?_; rintro e w' ⟨rfl, hb⟩)
      | (go_at_call 19; refine (RefOne.alike_any _ _ _ la lb).mono ?_; rintro e w' ⟨rfl, hb⟩)
      | (go_at_call 20; refine (Lanes.bit_any _ _ _ n1 n2 la).mono ?_; rintro e w' ⟨rfl, rfl⟩)
      | (go_at_call 21; refine (RefOne.bit_any _ _ _ n1 n2 la).mono ?_; rintro e w' ⟨rfl, rfl⟩)
      | (go_at_call 6; refine (live_true _).mono ?_; rintro e w' ⟨rfl, hb⟩))
  go_wp2
  go_ret
  obtain ⟨_, _, hkk⟩ : w'.cell? ⟨w.heap.size + 1, 0, none⟩ = some (.int .i64 m) ∧ w'.cell? ⟨w.heap.size + 1, 1, none⟩ = some (.int .i64 n) ∧ Kept w w' (.slice l ws.length cap) ws := by assumption
  exact ⟨rfl, hkk.below⟩

end Go.Proofs.Ytfomlcdmeclnpaa.LawSay
