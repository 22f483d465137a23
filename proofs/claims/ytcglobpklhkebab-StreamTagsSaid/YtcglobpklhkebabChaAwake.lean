/-
  The example of layer 4's statements answers true, and leaves all memory that was there as it was. No condition.
-/
import Derived.Test.YtcglobpklhkebabChaLong
import Derived.Laws.StructEq
namespace Go.Proofs.Ytcglobpklhkebab.Cha
open Go.RowKit Mur Lanes
set_option maxRecDepth 100000

/-- A text of n bytes 0. -/
def nulls (n : Nat) : ByteArray := ⟨(List.replicate n (0 : UInt8)).toArray⟩
theorem nulls_size (n : Nat) : (nulls n).size = n := by
  show (List.replicate n (0 : UInt8)).toArray.size = n
  simp
theorem made_bytes (w : World) (n : Nat) : Row (w.alloc (.cells (madeCells #[.int .u8 0] n) 5)) w.heap.size (bytesV (List.replicate n 0)) := by
  rw [← zero_bytes]
  exact made_row _ _ _ _
set_option maxHeartbeats 400000 in
theorem noughts_any (n : Nat) (w : World) (hn : n ≤ 6000) :
    Calls Try.prog 12 #[.int .i64 n] w fun e w' => e = .returned (.string (nulls n)) ∧ Below w.heap.size w w' := by
  have hmk : ∀ u : World, (Instr.makeSlice 43 (.int .i64 (n : Int)) (.int .i64 (n : Int))).run Try.prog u = .ok (.slice (some ⟨u.heap.size, 0, none⟩) n n) (u.alloc (.cells (madeCells #[.int .u8 0] n) 5)) := fun u => make_u8 u n (by omega)
  have hcv := fun (u : World) => string_row (P := Try.prog) (made_bytes u n) 43 5 9 Try.underlying43 Try.underlying5 Try.underlying9 n n (by simp)
  go_enter Try.func12, Try.ntmps12
  go_wp2
  go_ret
  exact ⟨rfl, (Below.refl _ _).alloc (Nat.le_refl _) _⟩

/-- '==' of four words with themselves. -/
theorem eq_four (a b c d : Int) (w : World) : (Op.equalIn 10000 33 (.agg #[.int .u32 a, .int .u32 b, .int .u32 c, .int .u32 d]) (.agg #[.int .u32 a, .int .u32 b, .int .u32 c, .int .u32 d])).run Try.prog w = .ok true w := by
  have u22 := Try.underlying31
  have a22 := Try.isAgg31
  have z22 := Try.sizeOf31
  rw [show (10000 : Nat) = 9999 + 1 from rfl, Op.equalIn]
  simp only [Sem.run_bind, run_underlying Try.underlying33, Result.andThen_ok]
  simp only [Std.Legacy.Range.forIn_eq_forIn_range', Std.Legacy.Range.size, Nat.sub_zero, Nat.add_sub_cancel, Nat.div_one, List.range'_succ, List.range'_zero, List.forIn_cons, List.forIn_nil]
  go_simp

theorem zero_block : (blockT (stateZ (List.replicate 32 0) (List.replicate 12 0)) 0).take 4 = [118, 184, 224, 173] := by decide +kernel
theorem quarter_lit : (⟨3928658676, 3407673550, 1166100270, 1484899515⟩ : Q4) = quarter ⟨286331153, 16909060, 2609737539, 19088743⟩ := by decide +kernel

set_option maxHeartbeats 1600000 in
theorem awake_any (w : World) :
    Calls Try.prog 4 #[] w fun e w' => e = .returned (.bool true) ∧ Below w.heap.size w w' := by
  obtain ⟨K, hK⟩ : ∃ K, K = nulls 32 := ⟨_, rfl⟩
  obtain ⟨N, hN⟩ : ∃ N, N = nulls 12 := ⟨_, rfl⟩
  obtain ⟨B, hB⟩ : ∃ B : ByteArray, B = ⟨(blockT (stateZ K.data.toList N.data.toList) 0).toArray⟩ := ⟨_, rfl⟩
  obtain ⟨X, hX⟩ : ∃ X : ByteArray, X = streamB K N 70 := ⟨_, rfl⟩
  have hk : K.size = 32 := by rw [hK, nulls_size]
  have hn : N.size = 12 := by rw [hN, nulls_size]
  have h32 := Lib.hid (show ∀ u, Calls Try.prog 12 #[.int .i64 32] u fun e w' => e = .returned (.string K) ∧ Below u.heap.size u w' from fun u => by rw [hK]; exact noughts_any 32 u (by omega))
  have h12 := Lib.hid (show ∀ u, Calls Try.prog 12 #[.int .i64 12] u fun e w' => e = .returned (.string N) ∧ Below u.heap.size u w' from fun u => by rw [hN]; exact noughts_any 12 u (by omega))
  have hb1 := Lib.hid (show ∀ u, Calls Try.prog 11 #[.string K, .int .u32 0, .string N] u fun e w' => e = .returned (.tuple #[.string B, .int .i64 0]) ∧ Below u.heap.size u w' from fun u => block_some K N B 0 u hk hn (by omega) hB)
  have hb2 := Lib.hid (show ∀ u, Calls Try.prog 11 #[.string ⟨#[]⟩, .int .u32 0, .string N] u fun e w' => e = .returned (.tuple #[.string ⟨#[]⟩, .int .i64 1]) ∧ Below u.heap.size u w' from fun u => block_none ⟨#[]⟩ N 0 u (fun h => absurd h.1 (by decide)))
  have hs1 := Lib.hid (show ∀ u, Calls Try.prog 13 #[.string K, .string N, .int .i64 70] u fun e w' => e = .returned (.tuple #[.string X, .int .i64 0]) ∧ Below u.heap.size u w' from fun u => by rw [hX]; exact stream_ok K N 70 u ⟨⟨hk, hn⟩, by omega⟩)
  have hq1 := Lib.hid (show ∀ u, Calls Try.prog 14 #[.agg #[.int .u32 286331153, .int .u32 16909060, .int .u32 2609737539, .int .u32 19088743]] u fun e w' => e = .returned (.agg #[.int .u32 3928658676, .int .u32 3407673550, .int .u32 1166100270, .int .u32 1484899515]) ∧ Below u.heap.size u w' from fun u => pub_any 286331153 16909060 2609737539 19088743 _ u ⟨by decide, by decide, by decide, by decide⟩ quarter_lit)
  have hbs : B.size = 64 := by
    rw [hB]
    exact blockT_length (stateW_ok hk rfl hn) 0 (by omega)
  have hxs : X.size = 70 := by rw [hX, streamB_size]
  have t1 : ((B.size : Int) == 64) = true := by rw [hbs]; rfl
  have t2 : (4 : Int) ≤ (B.size : Int) := by omega
  have t3 : ((B.extract 0 4).toList == [118, 184, 224, 173]) = true := by
    rw [ByteArray.toList_eq, extract_take, hB, hK, hN]
    show ((blockT (stateZ (List.replicate 32 0) (List.replicate 12 0)) 0).take 4 == _) = true
    rw [zero_block]
    rfl
  have t4 : ((X.size : Int) == 70) = true := by rw [hxs]; rfl
  have t5 : (64 : Int) ≤ (X.size : Int) := by omega
  have t6 : ((X.extract 0 64).toList == B.toList) = true := by
    have e : X.extract 0 64 = B := by
      rw [hX, streamB_take K N 64 70 (by omega), hB]
      unfold streamB
      rw [streamT_block]
    rw [e]
    simp
  have t7 := fun w => eq_four 3928658676 3407673550 1166100270 1484899515 w
  clear hB hX hbs hxs hK hN hk hn
  go_enter Try.func4, Try.ntmps4
  go_wp2_with fail
  refine (h32.out _).mono ?_
  rintro e w1 ⟨rfl, hw1⟩
  have HB1 := Lib.hid hw1
  clear hw1
  go_wp2_with fail
  refine (h12.out _).mono ?_
  rintro e w2 ⟨rfl, hw2⟩
  have HB2 := Lib.hid (HB1.out.trans (hw2.mono HB1.out.size))
  clear hw2 HB1
  go_wp2_with fail
  refine (hb1.out _).mono ?_
  rintro e w3 ⟨rfl, hw3⟩
  have HB3 := Lib.hid (HB2.out.trans (hw3.mono HB2.out.size))
  clear hw3 HB2
  go_wp2_with fail
  refine (h12.out _).mono ?_
  rintro e w4 ⟨rfl, hw4⟩
  have HB4 := Lib.hid (HB3.out.trans (hw4.mono HB3.out.size))
  clear hw4 HB3
  go_wp2_with fail
  refine (hb2.out _).mono ?_
  rintro e w5 ⟨rfl, hw5⟩
  have HB5 := Lib.hid (HB4.out.trans (hw5.mono HB4.out.size))
  clear hw5 HB4
  go_wp2_with fail
  refine (h32.out _).mono ?_
  rintro e w6 ⟨rfl, hw6⟩
  have HB6 := Lib.hid (HB5.out.trans (hw6.mono HB5.out.size))
  clear hw6 HB5
  go_wp2_with fail
  refine (h12.out _).mono ?_
  rintro e w7 ⟨rfl, hw7⟩
  have HB7 := Lib.hid (HB6.out.trans (hw7.mono HB6.out.size))
  clear hw7 HB6
  go_wp2_with fail
  refine (hs1.out _).mono ?_
  rintro e w8 ⟨rfl, hw8⟩
  have HB8 := Lib.hid (HB7.out.trans (hw8.mono HB7.out.size))
  clear hw8 HB7
  go_wp2_with fail
  refine (hq1.out _).mono ?_
  rintro e w9 ⟨rfl, hw9⟩
  have HB9 := Lib.hid (HB8.out.trans (hw9.mono HB8.out.size))
  clear hw9 HB8
  go_wp2
  go_ret
  exact ⟨rfl, HB9.out⟩
end Go.Proofs.Ytcglobpklhkebab.Cha
