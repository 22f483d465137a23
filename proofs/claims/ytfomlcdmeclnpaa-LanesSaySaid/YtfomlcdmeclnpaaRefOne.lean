/-
  Each function of the document's own answer for layer 1 answers, for every input, what the plain mathematics of the text LanesSpec says. Conditions: each text and list takes no more than the reach of the form.
-/
import Derived.Test.YtfomlcdmeclnpaaChecked
import Derived.Test.YtfomlcdmeclnpaaLanes
import Derived.BigQuiet
import Derived.Deep.QuietTactic
namespace Go.Proofs.Ytfomlcdmeclnpaa.RefOne
open Go.RowKit Mur Lanes

/-- The j highest of the lowest m bytes as a number. -/
def topN (l : List UInt8) (m : Nat) : Nat → Nat
  | 0 => 0
  | j + 1 => topN l m j * 256 + byt l (m - 1 - j)
theorem topN_low (l : List UInt8) (m j : Nat) (h : j ≤ m) : lowN l m = lowN l (m - j) + 2 ^ (8 * (m - j)) * topN l m j := by
  induction j with
  | zero => simp [topN]
  | succ j ih =>
    rw [ih (by omega)]
    obtain ⟨t, ht⟩ : ∃ t, m - j = t + 1 := ⟨m - j - 1, by omega⟩
    have e1 : m - (j + 1) = t := by omega
    have e2 : m - 1 - j = t := by omega
    rw [ht, e1, topN, e2, lowN, Nat.mul_add, Nat.pow_add]
    have : 2 ^ (8 * t) * 2 ^ (8 * 1) * topN l m j = 2 ^ (8 * t) * (topN l m j * 256) := by
      rw [Nat.mul_assoc, Nat.mul_comm (topN l m j)]
    rw [this, Nat.mul_add, Nat.mul_comm (byt l t)]
    omega
theorem topN_lt (l : List UInt8) (m j : Nat) : topN l m j < 2 ^ (8 * j) := by
  induction j with
  | zero => simp [topN]
  | succ j ih =>
    have := byt_lt l (m - 1 - j)
    rw [topN, Nat.mul_add, Nat.pow_add]
    omega
theorem topN_all (l : List UInt8) (m : Nat) : topN l m m = lowN l m := by
  have := topN_low l m m (Nat.le_refl _)
  simp [lowN] at this
  exact this.symm

set_option maxHeartbeats 800000 in
theorem low_any (s : ByteArray) (w : World) (hs : s.size ≤ 140737488351232) :
    Calls Try.prog 8 #[.string s] w fun e w' => e = .returned (.int .u64 (low s.data.toList : Nat)) ∧ w = w' := by
  obtain ⟨m, hm⟩ : ∃ m, m = min s.size 8 := ⟨_, rfl⟩
  have hmi : min (s.size : Int) 8 = (m : Int) := by omega
  have hms : m ≤ s.size := by omega
  have hm8 : m ≤ 8 := by omega
  have hlow : low s.data.toList = lowN s.data.toList m := by
    have : s.data.toList.length = s.size := rfl
    rw [low, this, hm]
  have HL := Lib.hid hlow
  clear hlow hm
  go_enter Try.func8, Try.ntmps8
  go_wp2
  go_loop [3, 4] (fun n i => ∃ j : Nat, j ≤ m ∧ i = .int .i64 ((m : Int) - 1 - (j : Int)) ∧ n = .int .u64 (topN s.data.toList m j : Nat)) (fun _ i => (intOf i + 1).toNat)
  case atStart => exact ⟨0, by omega, by simp, rfl⟩
  case round =>
    obtain ⟨j, hj, rfl, rfl⟩ := hrel
    by_cases hlt : j < m
    · have hi : ((m : Int) - 1 - (j : Int)).toNat = m - 1 - j := by omega
      have hi2 : m - 1 - j < s.size := by omega
      go_wp2
      go_round
      case rel =>
        refine ⟨j + 1, by omega, by go_num, ?_⟩
        have hb : byt s.data.toList (m - 1 - j) = s[m - 1 - j].toNat := byt_get (l := s.data.toList) (i := m - 1 - j) hi2
        have h1 := byt_lt s.data.toList (m - 1 - j)
        have h2 := topN_lt s.data.toList m j
        have h4 : 2 ^ (8 * j) ≤ 2 ^ 56 := Nat.pow_le_pow_right (by omega) (by omega)
        rw [← hb]
        have e1 : IntKind.u64.wrap (byt s.data.toList (m - 1 - j) : Int) = (byt s.data.toList (m - 1 - j) : Int) := by rw [IntKind.wrap_u64]; omega
        have e2 : IntKind.u64.wrap ((topN s.data.toList m j : Int) * 256) = ((topN s.data.toList m j * 2 ^ 8 : Nat) : Int) := by rw [IntKind.wrap_u64]; omega
        rw [e1, e2, bits_or_u64_nat _ _ (by omega) (by omega), or_add' _ _ _ (by omega)]
        rfl
      case measure => simp [intOf]; omega
    · obtain rfl : j = m := by omega
      go_wp2
      go_ret
      exact ⟨ret_int (by rw [HL.out, topN_all]), rfl⟩

set_option maxHeartbeats 800000 in
theorem high_any (n : Nat) (wd : Int) (w : World) (hn : n < 18446744073709551616) (h1 : -9223372036854775808 ≤ wd) (h2 : wd ≤ 9223372036854775807) :
    Calls Try.prog 10 #[.int .u64 n, .int .i64 wd] w fun e w' => e = .returned (.string ⟨(high n (widthOf wd)).toArray⟩) ∧ Below w.heap.size w w' := by
  obtain ⟨m, hm⟩ : ∃ m, m = widthOf wd := ⟨_, rfl⟩
  have hm64 : m ≤ 64 := by rw [hm]; unfold widthOf; omega
  have hmw : max 0 (min wd 64) = (m : Int) := by rw [hm]; unfold widthOf; omega
  rw [← hm]
  clear hm
  have hmk : ∀ u : World, (Instr.makeSlice 40 (.int .i64 (m : Int)) (.int .i64 (m : Int))).run Try.prog u = .ok (.slice (some ⟨u.heap.size, 0, none⟩) m m) (u.alloc (.cells (madeCells #[.int .u8 0] m) 5)) := fun u => make_u8 u m (by omega)
  go_enter Try.func10, Try.ntmps10
  go_wp2
  clear hmk
  go_loopw [14] (fun i wr => ∃ k : Nat, k ≤ m ∧ i = .int .i64 k ∧ Row wr w.heap.size (bytesV (highPart n m (min k 8))) ∧ Below w.heap.size w wr) (fun i _ => m - (intOf i).toNat)
  case atStart => exact ⟨0, Nat.zero_le _, rfl, by rw [Nat.zero_min, highPart_zero, ← zero_bytes]; exact made_row _ _ _ _, (Below.refl _ _).alloc (Nat.le_refl _) _⟩
  case round =>
    obtain ⟨k, hka, rfl, hrow, hbel⟩ := hrel
    by_cases hlta : k < m
    · by_cases hltb : k < 8
      · have hk8 : min k 8 = k := by omega
        rw [hk8] at hrow
        have hj : ((m : Int) - 1 - (k : Int)).toNat = m - 1 - k := by omega
        have hjl : m - 1 - k < (highPart n m k).length := by simp [highPart]; omega
        have hc := hrow.cell (i := m - 1 - k) (bytesV_at hjl)
        have hf := hrow.free (i := m - 1 - k) (by rw [bytesV_length]; exact hjl)
        have hset := hrow.set (m - 1 - k) (u8 (UInt8.ofNat (n / 2 ^ (8 * k))))
        rw [bytesV_set, highPart_succ n m k hlta] at hset
        have HS := Lib.hid hset
        clear hset hk8
        go_wp2
        go_roundw
        case rel =>
          have hk9 : min (k + 1) 8 = k + 1 := by omega
          refine ⟨k + 1, by omega, by go_num, ?_, hbel.setCell (p := ⟨w.heap.size, m - 1 - k, none⟩) (Nat.le_refl _) _⟩
          rw [hk9, shr8]
          exact HS.out
        case measure => simp [intOf]; omega
      · have hk8 : min k 8 = min (k + 1) 8 := by omega
        rw [hk8] at hrow
        clear hk8
        go_wp2
        go_roundw
        case rel => exact ⟨k + 1, by omega, by go_num, hrow, hbel⟩
        case measure => simp [intOf]; omega
    · obtain rfl : k = m := by omega
      have hrow' := hrow
      rw [highPart_end n k hn] at hrow'
      have hback := string_row (P := Try.prog) hrow' 40 5 9 Try.underlying40 Try.underlying5 Try.underlying9 k k (by simp [high])
      clear hrow hrow'
      go_wp2
      go_ret
      exact ⟨rfl, hbel⟩

set_option maxHeartbeats 800000 in
theorem bit_any (s : ByteArray) (at_ : Int) (w : World) (h1 : -9223372036854775808 ≤ at_) (h2 : at_ ≤ 9223372036854775807) (hs : s.size ≤ 140737488351232) :
    Calls Try.prog 21 #[.string s, .int .i64 at_] w fun e w' => e = .returned (.int .i64 (bit s.data.toList at_ : Nat)) ∧ w = w' := by
  by_cases h0 : 0 ≤ at_
  · by_cases h8 : at_ / 8 < s.size
    · go_enter Try.func21, Try.ntmps21
      go_wp2
      go_ret
      refine ⟨ret_int ?_, rfl⟩
      have hb : byt s.data.toList (at_ / 8).toNat = s[(at_ / 8).toNat].toNat := byt_get (l := s.data.toList) (i := (at_ / 8).toNat) (by have : s.data.toList.length = s.size := rfl; omega)
      have hc : ¬ (at_ < 0 ∨ (s.data.toList.length : Int) ≤ at_ / 8) := by have : s.data.toList.length = s.size := rfl; omega
      have he : ((s[(at_ / 8).toNat].toNat : Int) / 2 ^ (at_ % 8).toNat) = ((byt s.data.toList (at_ / 8).toNat / 2 ^ (at_ % 8).toNat : Nat) : Int) := by rw [hb]; simp
      have hlt : byt s.data.toList (at_ / 8).toNat / 2 ^ (at_ % 8).toNat < 256 := Nat.lt_of_le_of_lt (Nat.div_le_self _ _) (byt_lt _ _)
      rw [he, bit, if_neg hc]
      generalize byt s.data.toList (at_ / 8).toNat / 2 ^ (at_ % 8).toNat = g at hlt
      rw [IntWalk.wrap64_in _ (by omega), and_one _ (by omega)]
    · have h0' : ¬ at_ < 0 := by omega
      have hd : decide (at_ < 0) = false := by simpa using h0
      go_enter Try.func21, Try.ntmps21
      go_wp2
      go_ret
      refine ⟨ret_int ?_, rfl⟩
      have hc : at_ < 0 ∨ (s.data.toList.length : Int) ≤ at_ / 8 := by have : s.data.toList.length = s.size := rfl; omega
      rw [bit, if_pos hc]; rfl
  · have hd : decide (at_ < 0) = true := by simp; omega
    go_enter Try.func21, Try.ntmps21
    go_wp2
    go_ret
    refine ⟨ret_int ?_, rfl⟩
    have hc : at_ < 0 ∨ (s.data.toList.length : Int) ≤ at_ / 8 := by omega
    rw [bit, if_pos hc]; rfl

/-- What the loop of Alike has gathered, as a number. -/
def gather (a b : List UInt8) (k : Nat) : Nat := (a.length ^^^ b.length) ||| (Lanes.differ a b k).toNat
theorem gather_zero (a b : List UInt8) (k : Nat) : gather a b k = 0 ↔ a.length = b.length ∧ Lanes.differ a b k = 0 := by
  unfold gather
  rw [Nat.or_eq_zero_iff]
  constructor
  · rintro ⟨h1, h2⟩
    refine ⟨?_, UInt8.toNat_inj.mp h2⟩
    apply Nat.eq_of_testBit_eq
    intro i
    have := congrArg (fun n => n.testBit i) h1
    simp only [Nat.testBit_xor, Nat.zero_testBit] at this
    simpa using this
  · rintro ⟨h1, h2⟩
    rw [h1, h2, Nat.xor_self]
    exact ⟨rfl, rfl⟩
theorem gather_lt (a b : List UInt8) (k : Nat) (ha : a.length ≤ 140737488351232) (hb : b.length ≤ 140737488351232) : gather a b k < 9223372036854775808 := by
  have h1 : a.length ^^^ b.length < 2 ^ 63 := Nat.xor_lt_two_pow (by omega) (by omega)
  have h2 := (Lanes.differ a b k).toNat_lt
  exact Nat.or_lt_two_pow h1 (by omega)

set_option maxHeartbeats 800000 in
theorem alike_any (a b : ByteArray) (w : World) (ha : a.size ≤ 140737488351232) (hb : b.size ≤ 140737488351232) :
    Calls Try.prog 19 #[.string a, .string b] w fun e w' => e = .returned (.bool (a.toList == b.toList)) ∧ Below w.heap.size w w' := by
  have hx0 : bits .xor .i64 (a.size : Int) (b.size : Int) = (gather a.data.toList b.data.toList 0 : Int) := by
    rw [xor_i64_nat _ _ (by omega) (by omega)]
    show _ = (((a.size ^^^ b.size) ||| 0 : Nat) : Int)
    rw [Nat.or_zero]
  go_enter Try.func19, Try.ntmps19
  go_wp2
  clear hx0
  go_loopw [5, 17] (fun d i wr => ∃ k : Nat, k ≤ a.size ∧ k ≤ b.size ∧ i = .int .i64 k ∧ d = .int .i64 (gather a.data.toList b.data.toList k : Nat) ∧ Below w.heap.size w wr) (fun _ i _ => a.size - (intOf i).toNat)
  case atStart => exact ⟨0, by omega, by omega, rfl, rfl, Below.refl _ _⟩
  case round =>
    obtain ⟨k, hka, hkb, rfl, rfl, hbel⟩ := hrel
    by_cases hlt : k < a.size ∧ k < b.size
    · obtain ⟨hlta, hltb⟩ := hlt
      go_wp2
      go_quiet (fail)
      all_goals go_wp2
      all_goals go_roundw
      case rel =>
        refine ⟨k + 1, by omega, by omega, by go_num, ?_, belowN hbel _⟩
        have ha' : a.data.toList.getD k 0 = a[k] := by
          have : k < a.data.toList.length := hlta
          simp only [List.getD, List.getElem?_eq_getElem this]
          rfl
        have hb' : b.data.toList.getD k 0 = b[k] := by
          have : k < b.data.toList.length := hltb
          simp only [List.getD, List.getElem?_eq_getElem this]
          rfl
        have hg := gather_lt a.data.toList b.data.toList k ha hb
        have hx := (a[k] ^^^ b[k]).toNat_lt
        rw [xor_u8, IntWalk.wrap64_in _ (by omega), or_i64_nat _ _ hg (by omega)]
        have e : gather a.data.toList b.data.toList (k + 1) = gather a.data.toList b.data.toList k ||| (a[k] ^^^ b[k]).toNat := by
          unfold gather
          rw [Lanes.differ, ha', hb', UInt8.toNat_or, Nat.or_assoc]
        rw [e]
      case measure => simp [intOf]; omega
    · have hl : a.data.toList.length = a.size := rfl
      have hl' : b.data.toList.length = b.size := rfl
      have hsame := differ_same a.data.toList b.data.toList
      have e : min a.data.toList.length b.data.toList.length = k := by omega
      rw [e, ← gather_zero] at hsame
      have HS := Lib.hid hsame
      clear hsame e hl hl'
      generalize gather a.data.toList b.data.toList k = g at HS
      go_wp2
      go_ret
      refine ⟨ret_bool ?_, hbel⟩
      rw [ByteArray.toList_eq, ByteArray.toList_eq, Bool.eq_iff_iff, beq_iff_eq, beq_iff_eq, ← HS.out]
      omega
end Go.Proofs.Ytfomlcdmeclnpaa.RefOne
