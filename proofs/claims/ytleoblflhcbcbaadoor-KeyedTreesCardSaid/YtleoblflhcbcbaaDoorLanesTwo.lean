/-
  The functions High, Words and Text of package lanes answer, for every input, what the plain mathematics of the text LanesSpec says, and leave all memory that was there as it was. Conditions: each text and list takes no more than the reach of the form.
-/
import Derived.Test.YtleoblflhcbcbaaDoorChecked
import Derived.Test.YtleoblflhcbcbaaDoorLanesSpec
import Derived.BigQuiet
import Derived.StillTailTactics
import Derived.Deep.QuietTactic
namespace Go.Proofs.YtleoblflhcbcbaaDoor.Lanes
open Go.RowKit Mur

theorem ret_int {k : IntKind} {a b : Int} (h : a = b) : Ending.returned (.int k a) = .returned (.int k b) := by rw [h]
theorem ret_bool {a b : Bool} (h : a = b) : Ending.returned (.bool a) = .returned (.bool b) := by rw [h]

set_option maxHeartbeats 800000 in
theorem shift_any (i : Nat) (big : Bool) (w : World) (hi : i ≤ 9000000000000000000) :
    Calls Tryd.prog 59 #[.int .i64 i, .bool big] w fun e w' => e = .returned (.int .i64 (shiftN i big : Nat)) ∧ w = w' := by
  cases big
  all_goals
    go_enter Tryd.func59, Tryd.ntmps59
    go_wp2
    go_ret
    exact ⟨ret_int (by simp only [shiftN]; simp <;> omega), rfl⟩

theorem shift_q (i : Nat) (big : Bool) (w : World) (hi : i ≤ 9000000000000000000) :
    Calls Tryd.prog 59 #[.int .i64 i, .bool big] w fun e w' => e = .returned (.int .i64 (shiftN i big : Nat)) ∧ w' = w :=
  (shift_any i big w hi).mono fun _ _ h => ⟨h.1, h.2.symm⟩

theorem info_u8 : (Tryd.prog.info? 5).map (fun i => (i.zero, i.size, i.bytes)) = some (some (.int .u8 0), 1, 1) := by kernel_rfl
theorem info_u32 : (Tryd.prog.info? 55).map (fun i => (i.zero, i.size, i.bytes)) = some (some (.int .u32 0), 1, 4) := by kernel_rfl

/-- What 'make([]byte, n)' and 'make([]uint32, n)' make. -/
theorem made_row (w : World) (k : IntKind) (e : TypeId) (n : Nat) : Row (w.alloc (.cells (madeCells #[.int k 0] n) e)) w.heap.size (List.replicate n (.int k 0)) := by
  refine ⟨by simp, fun i v hv => ⟨?_, by simp⟩⟩
  rw [World.cell?_alloc_new]
  rw [← toList_madeCells_one] at hv
  simpa using hv
theorem make_u8 (w : World) (n : Nat) (hn : n ≤ 281474976710656) : (Instr.makeSlice 43 (.int .i64 (n : Int)) (.int .i64 (n : Int))).run Tryd.prog w =
    .ok (.slice (some ⟨w.heap.size, 0, none⟩) n n) (w.alloc (.cells (madeCells #[.int .u8 0] n) 5)) := by
  obtain ⟨i0, hi, hz0, hz1, hz2⟩ := info_parts info_u8
  have h := run_make (P := Tryd.prog) w 43 5 i0 (.int .u8 0) Tryd.underlying43 hi hz0 .i64 .i64 (n : Int) (n : Int) (by omega) (Int.le_refl _) (by rw [hz2]; omega) (by omega)
  simpa [hz1, Value.cells] using h
theorem make_u32 (w : World) (n : Nat) (hn : 4 * n ≤ 281474976710656) : (Instr.makeSlice 62 (.int .i64 (n : Int)) (.int .i64 (n : Int))).run Tryd.prog w =
    .ok (.slice (some ⟨w.heap.size, 0, none⟩) n n) (w.alloc (.cells (madeCells #[.int .u32 0] n) 55)) := by
  obtain ⟨i0, hi, hz0, hz1, hz2⟩ := info_parts info_u32
  have h := run_make (P := Tryd.prog) w 62 55 i0 (.int .u32 0) Tryd.underlying62 hi hz0 .i64 .i64 (n : Int) (n : Int) (by omega) (Int.le_refl _) (by rw [hz2]; omega) (by omega)
  simpa [hz1, Value.cells] using h

theorem zero_bytes (n : Nat) : List.replicate n (Value.int .u8 0) = bytesV (List.replicate n 0) := by simp [bytesV]
theorem zero_words (n : Nat) : List.replicate n (Value.int .u32 0) = wordsV (List.replicate n 0) := by simp [wordsV]

set_option maxHeartbeats 800000 in
theorem high_any (n : Nat) (wd : Int) (w : World) (hn : n < 18446744073709551616) (h1 : -9223372036854775808 ≤ wd) (h2 : wd ≤ 9223372036854775807) :
    Calls Tryd.prog 32 #[.int .u64 n, .int .i64 wd] w fun e w' => e = .returned (.string ⟨(high n (widthOf wd)).toArray⟩) ∧ Below w.heap.size w w' := by
  obtain ⟨m, hm⟩ : ∃ m, m = widthOf wd := ⟨_, rfl⟩
  have hm64 : m ≤ 64 := by rw [hm]; unfold widthOf; omega
  have hmw : min (max wd 0) 64 = (m : Int) := by rw [hm]; unfold widthOf; omega
  rw [← hm]
  clear hm
  have hmk : ∀ u : World, (Instr.makeSlice 43 (.int .i64 (m : Int)) (.int .i64 (m : Int))).run Tryd.prog u = .ok (.slice (some ⟨u.heap.size, 0, none⟩) m m) (u.alloc (.cells (madeCells #[.int .u8 0] m) 5)) := fun u => make_u8 u m (by omega)
  go_enter Tryd.func32, Tryd.ntmps32
  go_wp2
  clear hmk
  go_loopw [14] (fun i wr => ∃ k : Nat, k ≤ m ∧ k ≤ 8 ∧ i = .int .i64 k ∧ Row wr w.heap.size (bytesV (highPart n m k)) ∧ Below w.heap.size w wr) (fun i _ => 8 - (intOf i).toNat)
  case atStart => exact ⟨0, Nat.zero_le _, Nat.zero_le _, rfl, by rw [highPart_zero, ← zero_bytes]; exact made_row _ _ _ _, (Below.refl _ _).alloc (Nat.le_refl _) _⟩
  case round =>
    obtain ⟨k, hka, hkb, rfl, hrow, hbel⟩ := hrel
    by_cases hlt : k < m ∧ k < 8
    · obtain ⟨hlta, hltb⟩ := hlt
      have hj : ((m : Int) - 1 - (k : Int)).toNat = m - 1 - k := by omega
      have hjl : m - 1 - k < (highPart n m k).length := by simp [highPart]; omega
      have hc := hrow.cell (i := m - 1 - k) (bytesV_at hjl)
      have hf := hrow.free (i := m - 1 - k) (by rw [bytesV_length]; exact hjl)
      have hset := hrow.set (m - 1 - k) (u8 (UInt8.ofNat (n / 2 ^ (8 * k))))
      rw [bytesV_set, highPart_succ n m k hlta] at hset
      have HS := Lib.hid hset
      clear hset
      go_wp2
      go_roundw
      case rel =>
        refine ⟨k + 1, by omega, by omega, by go_num, ?_, hbel.setCell (p := ⟨w.heap.size, m - 1 - k, none⟩) (Nat.le_refl _) _⟩
        rw [shr8]
        exact HS.out
      case measure => simp [intOf]; omega
    · have hend : k = min m 8 := by omega
      have hrow' := hrow
      rw [hend, highPart_end n m hn] at hrow'
      have hback := string_row (P := Tryd.prog) hrow' 43 5 9 Tryd.underlying43 Tryd.underlying5 Tryd.underlying9 m m (by simp [high])
      clear hend hrow hrow'
      go_wp2
      go_ret
      exact ⟨rfl, hbel⟩

set_option maxHeartbeats 800000 in
theorem words_any (s : ByteArray) (big : Bool) (w : World) (hs : s.size ≤ 140737488351232) :
    Calls Tryd.prog 67 #[.string s, .bool big] w fun e w' => e = .returned (.slice (some ⟨w.heap.size, 0, none⟩) (s.size / 4) (s.size / 4)) ∧ Row w' w.heap.size (wordsV (words s.data.toList big)) ∧ Below w.heap.size w w' := by
  have hmk : ∀ u : World, (Instr.makeSlice 62 (.int .i64 ((s.size : Int) / 4)) (.int .i64 ((s.size : Int) / 4))).run Tryd.prog u = .ok (.slice (some ⟨u.heap.size, 0, none⟩) (s.size / 4) (s.size / 4)) (u.alloc (.cells (madeCells #[.int .u32 0] (s.size / 4)) 55)) := fun u => make_u32 u (s.size / 4) (by omega)
  have hl : s.data.toList.length = s.size := rfl
  go_enter Tryd.func67, Tryd.ntmps67
  go_wp2
  clear hmk
  go_loopw [14] (fun i wr => ∃ k : Nat, k ≤ 4 * (s.size / 4) ∧ i = .int .i64 k ∧ Row wr w.heap.size (wordsV (wordsPart s.data.toList big k)) ∧ Below w.heap.size w wr) (fun i _ => s.size - (intOf i).toNat)
  case atStart => exact ⟨0, Nat.zero_le _, rfl, by rw [wordsPart_zero, hl, ← zero_words]; exact made_row _ _ _ _, (Below.refl _ _).alloc (Nat.le_refl _) _⟩
  case round =>
    obtain ⟨k, hk, rfl, hrow, hbel⟩ := hrel
    have hlen : (wordsPart s.data.toList big k).length = s.size / 4 := wordsPart_length _ _ _
    by_cases hlt : k < 4 * (s.size / 4)
    · have hks : k < s.size := by omega
      have hj : k / 4 < s.size / 4 := by omega
      have hjl : k / 4 < (wordsPart s.data.toList big k).length := by omega
      have hc := hrow.cell (i := k / 4) (wordsV_at hjl)
      have hf := hrow.free (i := k / 4) (by rw [wordsV_length]; exact hjl)
      have hsh := shiftN_le k big
      have hset := hrow.set (k / 4) (.int .u32 ((wordPart s.data.toList big k (k / 4) ||| byt s.data.toList k * 2 ^ shiftN k big : Nat) : Int))
      rw [wordsV_set, wordsPart_succ] at hset
      have HS := Lib.hid hset
      clear hset hl
      have HL := Lib.hid hlen
      clear hlen
      have w1 : IntKind.i64.wrap ((k : Int) / 4) = (k : Int) / 4 := IntWalk.i64_in _ (by omega)
      have w2 : 0 ≤ (k : Int) / 4 := by omega
      have w3 : ((k : Int) / 4).toNat = k / 4 := by omega
      have w4 : (k : Int) / 4 < (s.size : Int) / 4 := by omega
      go_wp2
      go_still_tail 15, (by kernel_rfl)
      still_call (shift_q _ _ _ (by omega))
      repeat still_step
      refine wpStill_nil ?_
      change wpList _ _ _ _ _ wr.drew
      have hc' : wr.drew.cell? ⟨w.heap.size, k / 4, none⟩ = _ := hc
      have hf' : wr.drew.frozen? ⟨w.heap.size, k / 4, none⟩ = _ := hf
      clear hc hf w1
      go_wp2
      go_roundw
      case rel =>
        refine ⟨k + 1, by omega, by go_num, ?_, (hbel.setCell (p := ⟨w.heap.size, k / 4, none⟩) (Nat.le_refl _) _).drew⟩
        have hb : byt s.data.toList k = s[k].toNat := byt_get (l := s.data.toList) (i := k) hks
        have h1 := byt_lt s.data.toList k
        have hw : (wordsPart s.data.toList big k)[k / 4] = wordPart s.data.toList big k (k / 4) := by simp [wordsPart]
        have h2 := wordPart_lt s.data.toList big k (k / 4)
        have hp : 2 ^ shiftN k big ≤ 2 ^ 24 := Nat.pow_le_pow_right (by omega) (by omega)
        have h3 : byt s.data.toList k * 2 ^ shiftN k big ≤ 255 * 2 ^ 24 := Nat.mul_le_mul (by omega) hp
        rw [← hb, hw]
        rw [shl32 _ _ (by omega) (by omega), u32_or_nat _ _ h2 (by omega)]
        exact HS.out.drew
      case measure => simp [intOf]; omega
    · have hend := wordsPart_end s.data.toList big k (by omega)
      rw [hend] at hrow
      clear hend hlen hl
      go_wp2
      go_ret
      exact ⟨rfl, hrow, hbel⟩

set_option maxHeartbeats 800000 in
theorem text_some (ws : List Nat) (b o cap : Nat) (big : Bool) (w : World) (hl : ws.length ≤ 35184372080640) (hws : ∀ x ∈ ws, x < 4294967296) (hb : b < w.heap.size) (hcell : ∀ i (h : i < ws.length), w.cell? ⟨b, o + i, none⟩ = some (.int .u32 (ws[i] : Int))) :
    Calls Tryd.prog 49 #[.slice (some ⟨b, o, none⟩) ws.length cap, .bool big] w fun e w' => e = .returned (.string ⟨(text ws big).toArray⟩) ∧ Below w.heap.size w w' := by
  have hmk : ∀ u : World, (Instr.makeSlice 43 (.int .i64 (4 * (ws.length : Int))) (.int .i64 (4 * (ws.length : Int)))).run Tryd.prog u = .ok (.slice (some ⟨u.heap.size, 0, none⟩) (4 * ws.length) (4 * ws.length)) (u.alloc (.cells (madeCells #[.int .u8 0] (4 * ws.length)) 5)) := fun u => make_u8 u (4 * ws.length) (by omega)
  have HC := Lib.hid hcell
  clear hcell
  go_enter Tryd.func49, Tryd.ntmps49
  go_wp2
  clear hmk
  go_loopw [14] (fun i wr => ∃ k : Nat, k ≤ 4 * ws.length ∧ i = .int .i64 k ∧ Row wr w.heap.size (bytesV (textPart ws big k)) ∧ Below w.heap.size w wr) (fun i _ => 4 * ws.length - (intOf i).toNat)
  case atStart => exact ⟨0, Nat.zero_le _, rfl, by rw [textPart_zero, ← zero_bytes]; exact made_row _ _ _ _, (Below.refl _ _).alloc (Nat.le_refl _) _⟩
  case round =>
    obtain ⟨k, hk, rfl, hrow, hbel⟩ := hrel
    by_cases hlt : k < 4 * ws.length
    · have hj : k / 4 < ws.length := by omega
      have hx : ws[k / 4] < 4294967296 := hws _ (List.getElem_mem hj)
      have hg : ws.getD (k / 4) 0 = ws[k / 4] := by simp [List.getD, hj]
      have hcx := (hbel.cell (p := ⟨b, o + k / 4, none⟩) hb).trans (HC.out _ hj)
      have hkl : k < (textPart ws big k).length := by rw [textPart_length]; omega
      have hc := hrow.cell (i := k) (bytesV_at hkl)
      have hf := hrow.free (i := k) (by rw [bytesV_length]; exact hkl)
      have hsh := shiftN_le k big
      have hset := hrow.set k (u8 (UInt8.ofNat (ws.getD (k / 4) 0 / 2 ^ shiftN k big)))
      rw [bytesV_set, textPart_succ, hg] at hset
      have HS := Lib.hid hset
      clear hset hg
      have w1 : IntKind.i64.wrap ((k : Int) / 4) = (k : Int) / 4 := IntWalk.i64_in _ (by omega)
      have w2 : 0 ≤ (k : Int) / 4 := by omega
      have w3 : ((k : Int) / 4).toNat = k / 4 := by omega
      have w4 : (k : Int) / 4 < (ws.length : Int) := by omega
      generalize ws[k / 4] = x at *
      go_wp2
      go_still_tail 12, (by kernel_rfl)
      still_call (shift_q _ _ _ (by omega))
      repeat still_step
      refine wpStill_nil ?_
      change wpList _ _ _ _ _ wr.drew
      have hc' : wr.drew.cell? ⟨w.heap.size, k, none⟩ = _ := hc
      have hf' : wr.drew.frozen? ⟨w.heap.size, k, none⟩ = _ := hf
      clear hc hf w1
      go_wp2
      go_roundw
      case rel =>
        refine ⟨k + 1, by omega, by go_num, ?_, (hbel.setCell (p := ⟨w.heap.size, k, none⟩) (Nat.le_refl _) _).drew⟩
        rw [shr8]
        exact HS.out.drew
      case measure => simp [intOf]; omega
    · have hend := textPart_end ws big k (by omega)
      rw [hend] at hrow
      have hback := string_row (P := Tryd.prog) hrow 43 5 9 Tryd.underlying43 Tryd.underlying5 Tryd.underlying9 (4 * ws.length) (4 * ws.length) (by rw [text_length])
      clear hend hrow
      go_wp2
      go_ret
      exact ⟨rfl, hbel⟩

set_option maxHeartbeats 800000 in
theorem text_none (a : Option Addr) (cap : Nat) (big : Bool) (w : World) :
    Calls Tryd.prog 49 #[.slice a 0 cap, .bool big] w fun e w' => e = .returned (.string ⟨(text [] big).toArray⟩) ∧ Below w.heap.size w w' := by
  have hmk : ∀ u : World, (Instr.makeSlice 43 (.int .i64 0) (.int .i64 0)).run Tryd.prog u = .ok (.slice (some ⟨u.heap.size, 0, none⟩) 0 0) (u.alloc (.cells (madeCells #[.int .u8 0] 0) 5)) := fun u => make_u8 u 0 (by omega)
  go_enter Tryd.func49, Tryd.ntmps49
  go_wp2
  clear hmk
  go_loopw [14] (fun i wr => i = .int .i64 0 ∧ Row wr w.heap.size (bytesV []) ∧ Below w.heap.size w wr) (fun _ _ => 0)
  case atStart => exact ⟨rfl, made_row _ _ _ _, (Below.refl _ _).alloc (Nat.le_refl _) _⟩
  case round =>
    obtain ⟨rfl, hrow, hbel⟩ := hrel
    have hback := string_row (P := Tryd.prog) hrow 43 5 9 Tryd.underlying43 Tryd.underlying5 Tryd.underlying9 0 0 rfl
    clear hrow
    go_wp2
    go_ret
    exact ⟨rfl, hbel⟩

theorem text_any (ws : List Nat) (v : Value) (big : Bool) (w : World) (hl : ws.length ≤ 35184372080640) (hv : Words32 w v ws) :
    Calls Tryd.prog 49 #[v, .bool big] w fun e w' => e = .returned (.string ⟨(text ws big).toArray⟩) ∧ Below w.heap.size w w' := by
  rcases hv.2 with ⟨rfl, a, c, rfl⟩ | ⟨b, o, cap, rfl, hb, hc⟩
  · exact text_none a c big w
  · exact text_some ws b o cap big w hl hv.1 hb hc
end Go.Proofs.YtleoblflhcbcbaaDoor.Lanes
