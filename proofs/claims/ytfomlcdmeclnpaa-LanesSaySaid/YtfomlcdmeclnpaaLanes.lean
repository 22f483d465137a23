/-
  Each function of package lanes answers, for every input, what the plain mathematics of the text LanesSpec says, and leaves all memory that was there as it was. Conditions: each text and list takes no more than the reach of the form.
-/
import Derived.Test.YtfomlcdmeclnpaaChecked
import Derived.Test.YtfomlcdmeclnpaaLanesSpec
import Derived.Test.YtfomlcdmeclnpaaLanesXor
import Derived.BigQuiet
import Derived.StillTailTactics
import Derived.Deep.QuietTactic
namespace Go.Proofs.Ytfomlcdmeclnpaa.Lanes
open Go.RowKit Mur

theorem ret_int {k : IntKind} {a b : Int} (h : a = b) : Ending.returned (.int k a) = .returned (.int k b) := by rw [h]
theorem ret_bool {a b : Bool} (h : a = b) : Ending.returned (.bool a) = .returned (.bool b) := by rw [h]

set_option maxHeartbeats 800000 in
theorem shift_any (i : Nat) (big : Bool) (w : World) (hi : i ≤ 9000000000000000000) :
    Calls Try.prog 24 #[.int .i64 i, .bool big] w fun e w' => e = .returned (.int .i64 (shiftN i big : Nat)) ∧ w = w' := by
  cases big
  all_goals
    go_enter Try.func24, Try.ntmps24
    go_wp2
    go_ret
    exact ⟨ret_int (by simp only [shiftN]; simp <;> omega), rfl⟩

theorem shift_q (i : Nat) (big : Bool) (w : World) (hi : i ≤ 9000000000000000000) :
    Calls Try.prog 24 #[.int .i64 i, .bool big] w fun e w' => e = .returned (.int .i64 (shiftN i big : Nat)) ∧ w' = w :=
  (shift_any i big w hi).mono fun _ _ h => ⟨h.1, h.2.symm⟩

set_option maxHeartbeats 800000 in
theorem bit_any (s : ByteArray) (at_ : Int) (w : World) (h1 : -9223372036854775808 ≤ at_) (h2 : at_ ≤ 9223372036854775807) (hs : s.size ≤ 140737488351232) :
    Calls Try.prog 20 #[.string s, .int .i64 at_] w fun e w' => e = .returned (.int .i64 (bit s.data.toList at_ : Nat)) ∧ w = w' := by
  by_cases h0 : 0 ≤ at_
  · by_cases h8 : at_ / 8 < s.size
    · go_enter Try.func20, Try.ntmps20
      go_wp2
      go_ret
      refine ⟨ret_int ?_, rfl⟩
      have hb : byt s.data.toList (at_ / 8).toNat = s[(at_ / 8).toNat].toNat := byt_get (l := s.data.toList) (i := (at_ / 8).toNat) (by have : s.data.toList.length = s.size := rfl; omega)
      have hc : ¬ (at_ < 0 ∨ (s.data.toList.length : Int) ≤ at_ / 8) := by have : s.data.toList.length = s.size := rfl; omega
      have he : ((s[(at_ / 8).toNat].toNat : Int) / 2 ^ (at_ % 8).toNat) = ((byt s.data.toList (at_ / 8).toNat / 2 ^ (at_ % 8).toNat : Nat) : Int) := by rw [hb]; simp
      have hlt : byt s.data.toList (at_ / 8).toNat / 2 ^ (at_ % 8).toNat < 256 := Nat.lt_of_le_of_lt (Nat.div_le_self _ _) (byt_lt _ _)
      rw [he, bit, if_neg hc]
      generalize byt s.data.toList (at_ / 8).toNat / 2 ^ (at_ % 8).toNat = g at hlt
      rw [IntWalk.wrap64_in _ (by omega), and_one _ (by omega)]
    · have h0' : ¬ at_ < 0 := by omega
      have hd : decide (at_ < 0) = false := by simpa using h0
      go_enter Try.func20, Try.ntmps20
      go_wp2
      go_ret
      refine ⟨ret_int ?_, rfl⟩
      have hc : at_ < 0 ∨ (s.data.toList.length : Int) ≤ at_ / 8 := by have : s.data.toList.length = s.size := rfl; omega
      rw [bit, if_pos hc]; rfl
  · have hd : decide (at_ < 0) = true := by simp; omega
    go_enter Try.func20, Try.ntmps20
    go_wp2
    go_ret
    refine ⟨ret_int ?_, rfl⟩
    have hc : at_ < 0 ∨ (s.data.toList.length : Int) ≤ at_ / 8 := by omega
    rw [bit, if_pos hc]; rfl

set_option maxHeartbeats 800000 in
theorem low_any (s : ByteArray) (w : World) (hs : s.size ≤ 140737488351232) :
    Calls Try.prog 7 #[.string s] w fun e w' => e = .returned (.int .u64 (low s.data.toList : Nat)) ∧ w = w' := by
  go_enter Try.func7, Try.ntmps7
  go_wp2
  go_loop [3, 8] (fun n i => ∃ k : Nat, k ≤ 8 ∧ k ≤ s.size ∧ i = .int .i64 k ∧ n = .int .u64 (lowN s.data.toList k : Nat)) (fun _ i => 8 - (intOf i).toNat)
  case atStart => exact ⟨0, by omega, by omega, rfl, rfl⟩
  case round =>
    obtain ⟨k, hka, hkb, rfl, rfl⟩ := hrel
    by_cases hlt : k < 8 ∧ k < s.size
    · obtain ⟨hlta, hltb⟩ := hlt
      go_wp2
      go_round
      case rel =>
        refine ⟨k + 1, by omega, by omega, by go_num, ?_⟩
        have hb : byt s.data.toList k = s[k].toNat := byt_get (l := s.data.toList) (i := k) hltb
        have h1 := byt_lt s.data.toList k
        have h2 := lowN_lt s.data.toList k
        have h3 := lowN_lt s.data.toList (k + 1)
        have h4 : 2 ^ (8 * (k + 1)) ≤ 2 ^ 64 := Nat.pow_le_pow_right (by omega) (by omega)
        have h5 : byt s.data.toList k * 2 ^ (8 * k) < 18446744073709551616 := by
          rw [lowN] at h3
          omega
        have h6 : lowN s.data.toList k < 18446744073709551616 := by
          rw [lowN] at h3
          omega
        rw [← hb]
        have e1 : IntKind.u64.wrap (byt s.data.toList k : Int) = (byt s.data.toList k : Int) := by rw [IntKind.wrap_u64]; omega
        have e2 : IntKind.u64.wrap ((byt s.data.toList k : Int) * 2 ^ (8 * k)) = ((byt s.data.toList k * 2 ^ (8 * k) : Nat) : Int) := by
          rw [IntKind.wrap_u64]
          have : ((byt s.data.toList k : Int) * 2 ^ (8 * k)) = ((byt s.data.toList k * 2 ^ (8 * k) : Nat) : Int) := by push_cast; rfl
          rw [this]
          omega
        rw [e1, e2, bits_or_u64_nat _ _ h6 h5, or_add _ _ _ h2]
        rfl
      case measure => simp [intOf]; omega
    · have hl : low s.data.toList = lowN s.data.toList k := by
        have : s.data.toList.length = s.size := rfl
        have e : min s.data.toList.length 8 = k := by omega
        rw [low, e]
      have HL := Lib.hid hl
      clear hl
      go_wp2
      go_ret
      exact ⟨ret_int (by rw [HL.out]), rfl⟩

set_option maxHeartbeats 800000 in
theorem alike_any (a b : ByteArray) (w : World) (ha : a.size ≤ 140737488351232) (hb : b.size ≤ 140737488351232) :
    Calls Try.prog 18 #[.string a, .string b] w fun e w' => e = .returned (.bool (decide (a.data.toList = b.data.toList))) ∧ Below w.heap.size w w' := by
  go_enter Try.func18, Try.ntmps18
  go_wp2
  go_loopw [5, 12] (fun d i wr => ∃ k : Nat, k ≤ a.size ∧ k ≤ b.size ∧ i = .int .i64 k ∧ d = u8 (differ a.data.toList b.data.toList k) ∧ Below w.heap.size w wr) (fun _ i _ => a.size - (intOf i).toNat)
  case atStart => exact ⟨0, by omega, by omega, rfl, rfl, Below.refl _ _⟩
  case round =>
    obtain ⟨k, hka, hkb, rfl, rfl, hbel⟩ := hrel
    by_cases hlt : k < a.size ∧ k < b.size
    · obtain ⟨hlta, hltb⟩ := hlt
      go_wp2
      go_quiet (fail)
      all_goals go_wp2
      all_goals go_roundw
      case rel =>
        refine ⟨k + 1, by omega, by omega, by go_num, ?_, belowN hbel _⟩
        have ha' : a.data.toList.getD k 0 = a[k] := by
          have : k < a.data.toList.length := hlta
          simp only [List.getD, List.getElem?_eq_getElem this]
          rfl
        have hb' : b.data.toList.getD k 0 = b[k] := by
          have : k < b.data.toList.length := hltb
          simp only [List.getD, List.getElem?_eq_getElem this]
          rfl
        rw [xor_u8, or_u8, differ, ha', hb']
      case measure => simp [intOf]; omega
    · have hl : a.data.toList.length = a.size := rfl
      have hl' : b.data.toList.length = b.size := rfl
      have hsame := differ_same a.data.toList b.data.toList
      have e : min a.data.toList.length b.data.toList.length = k := by omega
      rw [e, hl, hl'] at hsame
      have HS := Lib.hid hsame
      clear hsame e hl hl'
      by_cases hd : differ a.data.toList b.data.toList k = 0
      · have hb1 : (((differ a.data.toList b.data.toList k).toNat : Int) == 0) = true := by rw [hd]; rfl
        have HD := Lib.hid hd
        clear hd
        go_wp2
        go_ret
        refine ⟨ret_bool ?_, hbel⟩
        have h := HS.out
        rw [Bool.eq_iff_iff]
        simp only [beq_iff_eq, decide_eq_true_eq]
        rw [← h]
        exact ⟨fun h => ⟨by omega, HD.out⟩, fun h => by omega⟩
      · have hb1 : (((differ a.data.toList b.data.toList k).toNat : Int) == 0) = false := by
          simp only [beq_eq_false_iff_ne, ne_eq]
          intro h
          exact hd (UInt8.toNat_inj.mp (by have : (0 : UInt8).toNat = 0 := rfl; omega))
        have HD := Lib.hid hd
        clear hd
        go_wp2
        go_ret
        refine ⟨ret_bool ?_, hbel⟩
        have h := HS.out
        symm
        rw [decide_eq_false_iff_not, ← h]
        exact fun h => HD.out h.2

theorem info_u8 : (Try.prog.info? 5).map (fun i => (i.zero, i.size, i.bytes)) = some (some (.int .u8 0), 1, 1) := by kernel_rfl
theorem info_u32 : (Try.prog.info? 41).map (fun i => (i.zero, i.size, i.bytes)) = some (some (.int .u32 0), 1, 4) := by kernel_rfl

/-- What 'make([]byte, n)' and 'make([]uint32, n)' make. -/
theorem made_row (w : World) (k : IntKind) (e : TypeId) (n : Nat) : Row (w.alloc (.cells (madeCells #[.int k 0] n) e)) w.heap.size (List.replicate n (.int k 0)) := by
  refine ⟨by simp, fun i v hv => ⟨?_, by simp⟩⟩
  rw [World.cell?_alloc_new]
  rw [← toList_madeCells_one] at hv
  simpa using hv
theorem make_u8 (w : World) (n : Nat) (hn : n ≤ 281474976710656) : (Instr.makeSlice 40 (.int .i64 (n : Int)) (.int .i64 (n : Int))).run Try.prog w =
    .ok (.slice (some ⟨w.heap.size, 0, none⟩) n n) (w.alloc (.cells (madeCells #[.int .u8 0] n) 5)) := by
  obtain ⟨i0, hi, hz0, hz1, hz2⟩ := info_parts info_u8
  have h := run_make (P := Try.prog) w 40 5 i0 (.int .u8 0) Try.underlying40 hi hz0 .i64 .i64 (n : Int) (n : Int) (by omega) (Int.le_refl _) (by rw [hz2]; omega) (by omega)
  simpa [hz1, Value.cells] using h
theorem make_u32 (w : World) (n : Nat) (hn : 4 * n ≤ 281474976710656) : (Instr.makeSlice 23 (.int .i64 (n : Int)) (.int .i64 (n : Int))).run Try.prog w =
    .ok (.slice (some ⟨w.heap.size, 0, none⟩) n n) (w.alloc (.cells (madeCells #[.int .u32 0] n) 41)) := by
  obtain ⟨i0, hi, hz0, hz1, hz2⟩ := info_parts info_u32
  have h := run_make (P := Try.prog) w 23 41 i0 (.int .u32 0) Try.underlying23 hi hz0 .i64 .i64 (n : Int) (n : Int) (by omega) (Int.le_refl _) (by rw [hz2]; omega) (by omega)
  simpa [hz1, Value.cells] using h

theorem zero_bytes (n : Nat) : List.replicate n (Value.int .u8 0) = bytesV (List.replicate n 0) := by simp [bytesV]
theorem zero_words (n : Nat) : List.replicate n (Value.int .u32 0) = wordsV (List.replicate n 0) := by simp [wordsV]

set_option maxHeartbeats 800000 in
theorem high_any (n : Nat) (wd : Int) (w : World) (hn : n < 18446744073709551616) (h1 : -9223372036854775808 ≤ wd) (h2 : wd ≤ 9223372036854775807) :
    Calls Try.prog 9 #[.int .u64 n, .int .i64 wd] w fun e w' => e = .returned (.string ⟨(high n (widthOf wd)).toArray⟩) ∧ Below w.heap.size w w' := by
  obtain ⟨m, hm⟩ : ∃ m, m = widthOf wd := ⟨_, rfl⟩
  have hm64 : m ≤ 64 := by rw [hm]; unfold widthOf; omega
  have hmw : min (max wd 0) 64 = (m : Int) := by rw [hm]; unfold widthOf; omega
  rw [← hm]
  clear hm
  have hmk : ∀ u : World, (Instr.makeSlice 40 (.int .i64 (m : Int)) (.int .i64 (m : Int))).run Try.prog u = .ok (.slice (some ⟨u.heap.size, 0, none⟩) m m) (u.alloc (.cells (madeCells #[.int .u8 0] m) 5)) := fun u => make_u8 u m (by omega)
  go_enter Try.func9, Try.ntmps9
  go_wp2
  clear hmk
  go_loopw [14] (fun i wr => ∃ k : Nat, k ≤ m ∧ k ≤ 8 ∧ i = .int .i64 k ∧ Row wr w.heap.size (bytesV (highPart n m k)) ∧ Below w.heap.size w wr) (fun i _ => 8 - (intOf i).toNat)
  case atStart => exact ⟨0, Nat.zero_le _, Nat.zero_le _, rfl, by rw [highPart_zero, ← zero_bytes]; exact made_row _ _ _ _, (Below.refl _ _).alloc (Nat.le_refl _) _⟩
  case round =>
    obtain ⟨k, hka, hkb, rfl, hrow, hbel⟩ := hrel
    by_cases hlt : k < m ∧ k < 8
    · obtain ⟨hlta, hltb⟩ := hlt
      have hj : ((m : Int) - 1 - (k : Int)).toNat = m - 1 - k := by omega
      have hjl : m - 1 - k < (highPart n m k).length := by simp [highPart]; omega
      have hc := hrow.cell (i := m - 1 - k) (bytesV_at hjl)
      have hf := hrow.free (i := m - 1 - k) (by rw [bytesV_length]; exact hjl)
      have hset := hrow.set (m - 1 - k) (u8 (UInt8.ofNat (n / 2 ^ (8 * k))))
      rw [bytesV_set, highPart_succ n m k hlta] at hset
      have HS := Lib.hid hset
      clear hset
      go_wp2
      go_roundw
      case rel =>
        refine ⟨k + 1, by omega, by omega, by go_num, ?_, hbel.setCell (p := ⟨w.heap.size, m - 1 - k, none⟩) (Nat.le_refl _) _⟩
        rw [shr8]
        exact HS.out
      case measure => simp [intOf]; omega
    · have hend : k = min m 8 := by omega
      have hrow' := hrow
      rw [hend, highPart_end n m hn] at hrow'
      have hback := string_row (P := Try.prog) hrow' 40 5 9 Try.underlying40 Try.underlying5 Try.underlying9 m m (by simp [high])
      clear hend hrow hrow'
      go_wp2
      go_ret
      exact ⟨rfl, hbel⟩

set_option maxHeartbeats 800000 in
theorem words_any (s : ByteArray) (big : Bool) (w : World) (hs : s.size ≤ 140737488351232) :
    Calls Try.prog 12 #[.string s, .bool big] w fun e w' => e = .returned (.slice (some ⟨w.heap.size, 0, none⟩) (s.size / 4) (s.size / 4)) ∧ Row w' w.heap.size (wordsV (words s.data.toList big)) ∧ Below w.heap.size w w' := by
  have hmk : ∀ u : World, (Instr.makeSlice 23 (.int .i64 ((s.size : Int) / 4)) (.int .i64 ((s.size : Int) / 4))).run Try.prog u = .ok (.slice (some ⟨u.heap.size, 0, none⟩) (s.size / 4) (s.size / 4)) (u.alloc (.cells (madeCells #[.int .u32 0] (s.size / 4)) 41)) := fun u => make_u32 u (s.size / 4) (by omega)
  have hl : s.data.toList.length = s.size := rfl
  go_enter Try.func12, Try.ntmps12
  go_wp2
  clear hmk
  go_loopw [14] (fun i wr => ∃ k : Nat, k ≤ 4 * (s.size / 4) ∧ i = .int .i64 k ∧ Row wr w.heap.size (wordsV (wordsPart s.data.toList big k)) ∧ Below w.heap.size w wr) (fun i _ => s.size - (intOf i).toNat)
  case atStart => exact ⟨0, Nat.zero_le _, rfl, by rw [wordsPart_zero, hl, ← zero_words]; exact made_row _ _ _ _, (Below.refl _ _).alloc (Nat.le_refl _) _⟩
  case round =>
    obtain ⟨k, hk, rfl, hrow, hbel⟩ := hrel
    have hlen : (wordsPart s.data.toList big k).length = s.size / 4 := wordsPart_length _ _ _
    by_cases hlt : k < 4 * (s.size / 4)
    · have hks : k < s.size := by omega
      have hj : k / 4 < s.size / 4 := by omega
      have hjl : k / 4 < (wordsPart s.data.toList big k).length := by omega
      have hc := hrow.cell (i := k / 4) (wordsV_at hjl)
      have hf := hrow.free (i := k / 4) (by rw [wordsV_length]; exact hjl)
      have hsh := shiftN_le k big
      have hset := hrow.set (k / 4) (.int .u32 ((wordPart s.data.toList big k (k / 4) ||| byt s.data.toList k * 2 ^ shiftN k big : Nat) : Int))
      rw [wordsV_set, wordsPart_succ] at hset
      have HS := Lib.hid hset
      clear hset hl
      have HL := Lib.hid hlen
      clear hlen
      have w1 : IntKind.i64.wrap ((k : Int) / 4) = (k : Int) / 4 := IntWalk.i64_in _ (by omega)
      have w2 : 0 ≤ (k : Int) / 4 := by omega
      have w3 : ((k : Int) / 4).toNat = k / 4 := by omega
      have w4 : (k : Int) / 4 < (s.size : Int) / 4 := by omega
      go_wp2
      go_still_tail 15, (by kernel_rfl)
      still_call (shift_q _ _ _ (by omega))
      repeat still_step
      refine wpStill_nil ?_
      change wpList _ _ _ _ _ wr.drew
      have hc' : wr.drew.cell? ⟨w.heap.size, k / 4, none⟩ = _ := hc
      have hf' : wr.drew.frozen? ⟨w.heap.size, k / 4, none⟩ = _ := hf
      clear hc hf w1
      go_wp2
      go_roundw
      case rel =>
        refine ⟨k + 1, by omega, by go_num, ?_, (hbel.setCell (p := ⟨w.heap.size, k / 4, none⟩) (Nat.le_refl _) _).drew⟩
        have hb : byt s.data.toList k = s[k].toNat := byt_get (l := s.data.toList) (i := k) hks
        have h1 := byt_lt s.data.toList k
        have hw : (wordsPart s.data.toList big k)[k / 4] = wordPart s.data.toList big k (k / 4) := by simp [wordsPart]
        have h2 := wordPart_lt s.data.toList big k (k / 4)
        have hp : 2 ^ shiftN k big ≤ 2 ^ 24 := Nat.pow_le_pow_right (by omega) (by omega)
        have h3 : byt s.data.toList k * 2 ^ shiftN k big ≤ 255 * 2 ^ 24 := Nat.mul_le_mul (by omega) hp
        rw [← hb, hw]
        rw [shl32 _ _ (by omega) (by omega), u32_or_nat _ _ h2 (by omega)]
        exact HS.out.drew
      case measure => simp [intOf]; omega
    · have hend := wordsPart_end s.data.toList big k (by omega)
      rw [hend] at hrow
      clear hend hlen hl
      go_wp2
      go_ret
      exact ⟨rfl, hrow, hbel⟩

set_option maxHeartbeats 800000 in
theorem text_some (ws : List Nat) (b o cap : Nat) (big : Bool) (w : World) (hl : ws.length ≤ 35184372080640) (hws : ∀ x ∈ ws, x < 4294967296) (hb : b < w.heap.size) (hcell : ∀ i (h : i < ws.length), w.cell? ⟨b, o + i, none⟩ = some (.int .u32 (ws[i] : Int))) :
    Calls Try.prog 14 #[.slice (some ⟨b, o, none⟩) ws.length cap, .bool big] w fun e w' => e = .returned (.string ⟨(text ws big).toArray⟩) ∧ Below w.heap.size w w' := by
  have hmk : ∀ u : World, (Instr.makeSlice 40 (.int .i64 (4 * (ws.length : Int))) (.int .i64 (4 * (ws.length : Int)))).run Try.prog u = .ok (.slice (some ⟨u.heap.size, 0, none⟩) (4 * ws.length) (4 * ws.length)) (u.alloc (.cells (madeCells #[.int .u8 0] (4 * ws.length)) 5)) := fun u => make_u8 u (4 * ws.length) (by omega)
  have HC := Lib.hid hcell
  clear hcell
  go_enter Try.func14, Try.ntmps14
  go_wp2
  clear hmk
  go_loopw [14] (fun i wr => ∃ k : Nat, k ≤ 4 * ws.length ∧ i = .int .i64 k ∧ Row wr w.heap.size (bytesV (textPart ws big k)) ∧ Below w.heap.size w wr) (fun i _ => 4 * ws.length - (intOf i).toNat)
  case atStart => exact ⟨0, Nat.zero_le _, rfl, by rw [textPart_zero, ← zero_bytes]; exact made_row _ _ _ _, (Below.refl _ _).alloc (Nat.le_refl _) _⟩
  case round =>
    obtain ⟨k, hk, rfl, hrow, hbel⟩ := hrel
    by_cases hlt : k < 4 * ws.length
    · have hj : k / 4 < ws.length := by omega
      have hx : ws[k / 4] < 4294967296 := hws _ (List.getElem_mem hj)
      have hg : ws.getD (k / 4) 0 = ws[k / 4] := by simp [List.getD, hj]
      have hcx := (hbel.cell (p := ⟨b, o + k / 4, none⟩) hb).trans (HC.out _ hj)
      have hkl : k < (textPart ws big k).length := by rw [textPart_length]; omega
      have hc := hrow.cell (i := k) (bytesV_at hkl)
      have hf := hrow.free (i := k) (by rw [bytesV_length]; exact hkl)
      have hsh := shiftN_le k big
      have hset := hrow.set k (u8 (UInt8.ofNat (ws.getD (k / 4) 0 / 2 ^ shiftN k big)))
      rw [bytesV_set, textPart_succ, hg] at hset
      have HS := Lib.hid hset
      clear hset hg
      have w1 : IntKind.i64.wrap ((k : Int) / 4) = (k : Int) / 4 := IntWalk.i64_in _ (by omega)
      have w2 : 0 ≤ (k : Int) / 4 := by omega
      have w3 : ((k : Int) / 4).toNat = k / 4 := by omega
      have w4 : (k : Int) / 4 < (ws.length : Int) := by omega
      generalize ws[k / 4] = x at *
      go_wp2
      go_still_tail 12, (by kernel_rfl)
      still_call (shift_q _ _ _ (by omega))
      repeat still_step
      refine wpStill_nil ?_
      change wpList _ _ _ _ _ wr.drew
      have hc' : wr.drew.cell? ⟨w.heap.size, k, none⟩ = _ := hc
      have hf' : wr.drew.frozen? ⟨w.heap.size, k, none⟩ = _ := hf
      clear hc hf w1
      go_wp2
      go_roundw
      case rel =>
        refine ⟨k + 1, by omega, by go_num, ?_, (hbel.setCell (p := ⟨w.heap.size, k, none⟩) (Nat.le_refl _) _).drew⟩
        rw [shr8]
        exact HS.out.drew
      case measure => simp [intOf]; omega
    · have hend := textPart_end ws big k (by omega)
      rw [hend] at hrow
      have hback := string_row (P := Try.prog) hrow 40 5 9 Try.underlying40 Try.underlying5 Try.underlying9 (4 * ws.length) (4 * ws.length) (by rw [text_length])
      clear hend hrow
      go_wp2
      go_ret
      exact ⟨rfl, hbel⟩

set_option maxHeartbeats 800000 in
theorem text_none (a : Option Addr) (cap : Nat) (big : Bool) (w : World) :
    Calls Try.prog 14 #[.slice a 0 cap, .bool big] w fun e w' => e = .returned (.string ⟨(text [] big).toArray⟩) ∧ Below w.heap.size w w' := by
  have hmk : ∀ u : World, (Instr.makeSlice 40 (.int .i64 0) (.int .i64 0)).run Try.prog u = .ok (.slice (some ⟨u.heap.size, 0, none⟩) 0 0) (u.alloc (.cells (madeCells #[.int .u8 0] 0) 5)) := fun u => make_u8 u 0 (by omega)
  go_enter Try.func14, Try.ntmps14
  go_wp2
  clear hmk
  go_loopw [14] (fun i wr => i = .int .i64 0 ∧ Row wr w.heap.size (bytesV []) ∧ Below w.heap.size w wr) (fun _ _ => 0)
  case atStart => exact ⟨rfl, made_row _ _ _ _, (Below.refl _ _).alloc (Nat.le_refl _) _⟩
  case round =>
    obtain ⟨rfl, hrow, hbel⟩ := hrel
    have hback := string_row (P := Try.prog) hrow 40 5 9 Try.underlying40 Try.underlying5 Try.underlying9 0 0 rfl
    clear hrow
    go_wp2
    go_ret
    exact ⟨rfl, hbel⟩

theorem text_any (ws : List Nat) (v : Value) (big : Bool) (w : World) (hl : ws.length ≤ 35184372080640) (hv : Words32 w v ws) :
    Calls Try.prog 14 #[v, .bool big] w fun e w' => e = .returned (.string ⟨(text ws big).toArray⟩) ∧ Below w.heap.size w w' := by
  rcases hv.2 with ⟨rfl, a, c, rfl⟩ | ⟨b, o, cap, rfl, hb, hc⟩
  · exact text_none a c big w
  · exact text_some ws b o cap big w hl hv.1 hb hc

theorem alike_eq (a b : ByteArray) (w : World) (ha : a.size ≤ 140737488351232) (hb : b.size ≤ 140737488351232) :
    Calls Try.prog 18 #[.string a, .string b] w fun e w' => e = .returned (.bool (a.toList == b.toList)) ∧ Below w.heap.size w w' :=
  (alike_any a b w ha hb).mono fun _ _ h => ⟨h.1.trans (ret_bool (by rw [ByteArray.toList_eq, ByteArray.toList_eq, Bool.eq_iff_iff, decide_eq_true_eq, beq_iff_eq])), h.2⟩
end Go.Proofs.Ytfomlcdmeclnpaa.Lanes
