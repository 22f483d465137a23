/-
  Several texts as one (RefHigh, RefXor, RefWords, RefBit, RefLow). The document's own answer for High of layer 1 answers, for every input, what the plain mathematics of the text LanesSpec says. No condition but that the numbers fit. the document answer for Xor, for every two texts: the bytes of the first, each exclusively or'ed with that of the second at its place, as far as the second goes. Condition: the first text takes no more than the reach of the form. The document's own answers for Words and Text, for every input, are what the plain mathematics of the text LanesSpec says. Conditions: each text and list takes no more than the reach of the form. The document's own answer for Bit is what the plain mathematics of the text LanesSpec says; the world stays as it was. Condition: the text takes no more than the reach of the form. The document's Low of layer 1 answers what the plain mathematics of the text LanesSpec says, and leaves the world as it was. Condition: the text takes no more than the reach of the form.
-/
import Derived.Test.YtedgpglldlohfaaGreatDoorChecked
import Derived.Test.YtedgpglldlohfaaGreatDoorMLn
import Derived.BigQuiet
import Derived.Deep.QuietTactic
import Derived.Test.YtedgpglldlohfaaGreatDoorMur
import Derived.ProofKit
import Derived.OpenShut
import Derived.Below
import Derived.StillTailTactics
namespace Go.Proofs.YtedgpglldlohfaaGreatDoor.RefOne
open Go.RowKit Mur Lanes
set_option maxRecDepth 100000

set_option maxHeartbeats 800000 in
theorem high_any (n : Nat) (wd : Int) (w : World) (hn : n < 18446744073709551616) (h1 : -9223372036854775808 ≤ wd) (h2 : wd ≤ 9223372036854775807) :
    Calls Tryz.prog 46 #[.int .u64 n, .int .i64 wd] w fun e w' => e = .returned (.string ⟨(high n (widthOf wd)).toArray⟩) ∧ Below w.heap.size w w' := by
  obtain ⟨m, hm⟩ : ∃ m, m = widthOf wd := ⟨_, rfl⟩
  have hm64 : m ≤ 64 := by rw [hm]; unfold widthOf; omega
  have hmw : max 0 (min wd 64) = (m : Int) := by rw [hm]; unfold widthOf; omega
  rw [← hm]
  clear hm
  have hmk : ∀ u : World, (Instr.makeSlice 49 (.int .i64 (m : Int)) (.int .i64 (m : Int))).run Tryz.prog u = .ok (.slice (some ⟨u.heap.size, 0, none⟩) m m) (u.alloc (.cells (madeCells #[.int .u8 0] m) 5)) := fun u => make_u8 u m (by omega)
  go_enter Tryz.func46, Tryz.ntmps46
  go_wp2
  clear hmk
  go_loopw [14] (fun i wr => ∃ k : Nat, k ≤ m ∧ i = .int .i64 k ∧ Row wr w.heap.size (bytesV (highPart n m (min k 8))) ∧ Below w.heap.size w wr) (fun i _ => m - (intOf i).toNat)
  case atStart => exact ⟨0, Nat.zero_le _, rfl, by rw [Nat.zero_min, highPart_zero, ← zero_bytes]; exact made_row _ _ _ _, (Below.refl _ _).alloc (Nat.le_refl _) _⟩
  case round =>
    obtain ⟨k, hka, rfl, hrow, hbel⟩ := hrel
    by_cases hlta : k < m
    · by_cases hltb : k < 8
      · have hk8 : min k 8 = k := by omega
        rw [hk8] at hrow
        have hj : ((m : Int) - 1 - (k : Int)).toNat = m - 1 - k := by omega
        have hjl : m - 1 - k < (highPart n m k).length := by simp [highPart]; omega
        have hc := hrow.cell (i := m - 1 - k) (bytesV_at hjl)
        have hf := hrow.free (i := m - 1 - k) (by rw [bytesV_length]; exact hjl)
        have hset := hrow.set (m - 1 - k) (u8 (UInt8.ofNat (n / 2 ^ (8 * k))))
        rw [bytesV_set, highPart_succ n m k hlta] at hset
        have HS := Lib.hid hset
        clear hset hk8
        go_wp2
        go_roundw
        case rel =>
          have hk9 : min (k + 1) 8 = k + 1 := by omega
          refine ⟨k + 1, by omega, by go_num, ?_, hbel.setCell (p := ⟨w.heap.size, m - 1 - k, none⟩) (Nat.le_refl _) _⟩
          rw [hk9, shr8]
          exact HS.out
        case measure => simp [intOf]; omega
      · have hk8 : min k 8 = min (k + 1) 8 := by omega
        rw [hk8] at hrow
        clear hk8
        go_wp2
        go_roundw
        case rel => exact ⟨k + 1, by omega, by go_num, hrow, hbel⟩
        case measure => simp [intOf]; omega
    · obtain rfl : k = m := by omega
      have hrow' := hrow
      rw [highPart_end n k hn] at hrow'
      have hback := string_row (P := Tryz.prog) hrow' 49 5 9 Tryz.underlying49 Tryz.underlying5 Tryz.underlying9 k k (by simp [high])
      clear hrow hrow'
      go_wp2
      go_ret
      exact ⟨rfl, hbel⟩

end Go.Proofs.YtedgpglldlohfaaGreatDoor.RefOne

namespace Go.Proofs.YtedgpglldlohfaaGreatDoor.RefXor
open Go.RowKit Mur LanesXor
set_option maxRecDepth 100000

set_option maxHeartbeats 800000 in
theorem refxor_any (a b : ByteArray) (w : World) (ha : a.size ≤ 140737488351232) (_hb : b.size ≤ 140737488351232) :
    Calls Tryz.prog 45 #[.string a, .string b] w fun e w' => e = .returned (.string (xorS a b)) ∧ Below w.heap.size w w' := by
  have hconv := conv_row (P := Tryz.prog) w 9 49 5 a Tryz.underlying9 Tryz.underlying49 Tryz.underlying5
  obtain ⟨cap, w1, hcap, hconv, hrow, hbel⟩ := hconv
  go_enter Tryz.func45, Tryz.ntmps45
  go_wp2
  clear hconv
  go_loopw [14] (fun i wr => ∃ k : Nat, k ≤ a.size ∧ k ≤ b.size ∧ i = .int .i64 k ∧ Row wr w.heap.size (bytesV (LanesXor.part a.data.toList b.data.toList k)) ∧ Below w.heap.size w wr) (fun i _ => a.size - (intOf i).toNat)
  case atStart => exact ⟨0, Nat.zero_le _, Nat.zero_le _, rfl, by rw [LanesXor.part_zero]; exact hrow, hbel⟩
  case round =>
    obtain ⟨k, hka, hkb, rfl, hrow, hbel⟩ := hrel
    by_cases hlt : k < a.size ∧ k < b.size
    · obtain ⟨hlta, hltb⟩ := hlt
      have hc := hrow.cell (i := k) (bytesV_at (by rw [LanesXor.part_length]; exact hlta))
      have hf := hrow.free (i := k) (by rw [bytesV_length, LanesXor.part_length]; exact hlta)
      have hs := LanesXor.part_succ a.data.toList b.data.toList k hlta hltb
      have hset := hrow.set k (u8 ((LanesXor.part a.data.toList b.data.toList k)[k]'(by rw [LanesXor.part_length]; exact hlta) ^^^ b.data.toList[k]'hltb))
      rw [bytesV_set, hs] at hset
      have HS := Lib.hid hset
      clear hs hset
      go_wp2
      go_region
      all_goals go_wp2
      all_goals go_roundw
      case rel => exact ⟨k + 1, by omega, by omega, by go_num, by rw [xor_u8]; exact (HS.out).drew, (hbel.setCell (p := ⟨w.heap.size, k, none⟩) (Nat.le_refl _) _).drew⟩
      case measure => simp [intOf]; omega
    · have hend := LanesXor.part_end a.data.toList b.data.toList k (by have h1 : a.data.toList.length = a.size := rfl; have h2 : b.data.toList.length = b.size := rfl; omega)
      rw [hend] at hrow
      have hback := string_row (P := Tryz.prog) hrow 49 5 9 Tryz.underlying49 Tryz.underlying5 Tryz.underlying9 a.size cap (by simp [xorL])
      clear hend hrow
      go_wp2
      go_ret
      exact ⟨rfl, hbel⟩
end Go.Proofs.YtedgpglldlohfaaGreatDoor.RefXor

namespace Go.Proofs.YtedgpglldlohfaaGreatDoor.RefTwo
open Go.RowKit Mur Lanes
set_option maxRecDepth 100000

theorem word_sum (l : List UInt8) (j : Nat) : word l false j = byt l (4 * j) + byt l (4 * j + 1) * 256 + byt l (4 * j + 2) * 65536 + byt l (4 * j + 3) * 16777216 ∧
    word l true j = byt l (4 * j) * 16777216 + byt l (4 * j + 1) * 65536 + byt l (4 * j + 2) * 256 + byt l (4 * j + 3) := by
  have e : 4 * j + 4 - 4 * j = 4 := by omega
  unfold word wordPart
  rw [e]
  constructor <;> simp [term, shiftN]

def wordsTo (l : List UInt8) (big : Bool) (k : Nat) : List Nat := (List.range k).map (word l big)
theorem wordsTo_succ (l : List UInt8) (big : Bool) (k : Nat) : wordsV (wordsTo l big (k + 1)) = wordsV (wordsTo l big k) ++ [.int .u32 (word l big k : Int)] := by
  simp [wordsTo, wordsV, List.range_succ]
theorem wordsTo_end (l : List UInt8) (big : Bool) : wordsTo l big (l.length / 4) = words l big := rfl

/-- A slice of its own that a call has filled is a slice of words. -/
theorem owns_words {w : World} {base n : Nat} {e : TypeId} {v : Value} {ws : List Nat} (h : w.ownsRow base e 1 v n (wordsV ws)) (hl : ∀ x ∈ ws, x < 4294967296) : Words32 w v ws := by
  have hn : ws.length = n := by have := h.1; rw [wordsV_length] at this; omega
  refine ⟨hl, ?_⟩
  rcases h.2 with ⟨rfl, h0⟩ | ⟨g, cap, cur, rfl, hb, hg, hnc, hm, hs, ht⟩
  · exact .inl ⟨List.eq_nil_of_length_eq_zero (by omega), none, 0, rfl⟩
  · refine .inr ⟨g, 0, cap, by rw [hn], lt_of_block hg, fun i hi => ?_⟩
    rw [Nat.zero_add, h.cellAt i (by omega)]
    exact wordsV_at hi

theorem one_new (w : World) (v : Value) (t : TypeId) : ∀ (j : Nat) (u : Value), [v][j]? = some u → (w.alloc (.cells #[v] t)).cell? ((⟨w.heap.size, 0, none⟩ : Addr).add j) = some u := by
  intro j u hj
  match j, hj with
  | 0, hj =>
    simp at hj
    subst hj
    simp [Addr.add]
theorem one_cells (n : Int) {k : IntKind} : ∀ u ∈ [Value.int k n], u.oneCell' = true := by
  intro u hu
  simp at hu
  subst hu
  rfl
theorem wrap_byte (l : List UInt8) (i : Nat) : (byt l i : Int) % 4294967296 = (byt l i : Int) := by
  have := byt_lt l i
  omega
/-- The four bytes of a word, or'ed as the text of the document's answer has them. -/
theorem or_four (a b c d : Nat) (ha : a < 256) (hb : b < 256) (hc : c < 256) (hd : d < 256) :
    bits .or .u32 (bits .or .u32 (bits .or .u32 ((a : Int) % 4294967296) ((b : Int) % 4294967296 * 256 % 4294967296)) ((c : Int) % 4294967296 * 65536 % 4294967296)) ((d : Int) % 4294967296 * 16777216 % 4294967296) =
      ((a + b * 256 + c * 65536 + d * 16777216 : Nat) : Int) := by
  have e0 : (a : Int) % 4294967296 = (a : Int) := by omega
  have e1 : (b : Int) % 4294967296 * 256 % 4294967296 = ((b * 2 ^ 8 : Nat) : Int) := by omega
  have e2 : (c : Int) % 4294967296 * 65536 % 4294967296 = ((c * 2 ^ 16 : Nat) : Int) := by omega
  have e3 : (d : Int) % 4294967296 * 16777216 % 4294967296 = ((d * 2 ^ 24 : Nat) : Int) := by omega
  rw [e0, e1, e2, e3, u32_or_nat _ _ (by omega) (by omega), or_add _ _ _ (by omega), u32_or_nat _ _ (by omega) (by omega), or_add _ _ _ (by omega), u32_or_nat _ _ (by omega) (by omega), or_add _ _ _ (by omega)]

theorem word_lt (l : List UInt8) (big : Bool) (k : Nat) : word l big k < 4294967296 := wordPart_lt _ _ _ _
theorem or_little (s : ByteArray) (k : Nat) (h : 4 * k + 4 ≤ s.size) :
    bits .or .u32 (bits .or .u32 (bits .or .u32 (((s[4 * k]'(by omega)).toNat : Int) % 4294967296) (((s[4 * k + 1]'(by omega)).toNat : Int) % 4294967296 * 256 % 4294967296)) (((s[4 * k + 2]'(by omega)).toNat : Int) % 4294967296 * 65536 % 4294967296)) (((s[4 * k + 3]'(by omega)).toNat : Int) % 4294967296 * 16777216 % 4294967296) =
      (word s.data.toList false k : Int) := by
  rw [or_four _ _ _ _ (UInt8.toNat_lt _) (UInt8.toNat_lt _) (UInt8.toNat_lt _) (UInt8.toNat_lt _), (word_sum _ k).1]
  rw [byt_get (l := s.data.toList) (i := 4 * k) (by show _ < s.size; omega), byt_get (l := s.data.toList) (i := 4 * k + 1) (by show _ < s.size; omega), byt_get (l := s.data.toList) (i := 4 * k + 2) (by show _ < s.size; omega), byt_get (l := s.data.toList) (i := 4 * k + 3) (by show _ < s.size; omega)]
  rfl
theorem or_big (s : ByteArray) (k : Nat) (h : 4 * k + 4 ≤ s.size) :
    bits .or .u32 (bits .or .u32 (bits .or .u32 (((s[4 * k + 3]'(by omega)).toNat : Int) % 4294967296) (((s[4 * k + 2]'(by omega)).toNat : Int) % 4294967296 * 256 % 4294967296)) (((s[4 * k + 1]'(by omega)).toNat : Int) % 4294967296 * 65536 % 4294967296)) (((s[4 * k]'(by omega)).toNat : Int) % 4294967296 * 16777216 % 4294967296) =
      (word s.data.toList true k : Int) := by
  rw [or_four _ _ _ _ (UInt8.toNat_lt _) (UInt8.toNat_lt _) (UInt8.toNat_lt _) (UInt8.toNat_lt _), (word_sum _ k).2]
  rw [byt_get (l := s.data.toList) (i := 4 * k) (by show _ < s.size; omega), byt_get (l := s.data.toList) (i := 4 * k + 1) (by show _ < s.size; omega), byt_get (l := s.data.toList) (i := 4 * k + 2) (by show _ < s.size; omega), byt_get (l := s.data.toList) (i := 4 * k + 3) (by show _ < s.size; omega)]
  have e : ∀ a b c d : Nat, a + b * 256 + c * 65536 + d * 16777216 = d * 16777216 + c * 65536 + b * 256 + a := by omega
  rw [e]
  rfl

set_option maxHeartbeats 1600000 in
theorem words_own (s : ByteArray) (big : Bool) (w : World) (hs : s.size ≤ 140737488351232) :
    Calls Tryz.prog 94 #[.string s, .bool big] w fun e w' => ∃ v, e = .returned v ∧ w'.ownsRow w.heap.size 82 1 v (s.size / 4) (wordsV (words s.data.toList big)) ∧ Below w.heap.size w w' := by
  obtain ⟨i0, hi, hz0, hz1, hz2⟩ := info_parts info_u32
  go_enter Tryz.func94, Tryz.ntmps94
  go_wp2
  go_loopw [5, 6] (fun v i wr => ∃ k : Nat, 4 * k ≤ s.size ∧ i = .int .i64 (4 * (k : Int)) ∧ wr.ownsRow w.heap.size 82 1 v k (wordsV (wordsTo s.data.toList big k)) ∧ Below w.heap.size w wr) (fun _ i _ => s.size - (intOf i).toNat)
  case atStart => exact ⟨0, by omega, rfl, World.ownsRow_nil _ _ _ _, Below.refl _ _⟩
  case round =>
    obtain ⟨k, hk, rfl, hown, hbel⟩ := hrel
    by_cases hlt : 4 * k + 4 ≤ s.size
    · have q0 : ((4 : Int) * k).toNat = 4 * k := by omega
      have q1 : IntKind.i64.wrap (4 * (k : Int) + 1) = 4 * (k : Int) + 1 := IntWalk.i64_in _ (by omega)
      have q2 : IntKind.i64.wrap (4 * (k : Int) + 2) = 4 * (k : Int) + 2 := IntWalk.i64_in _ (by omega)
      have q3 : IntKind.i64.wrap (4 * (k : Int) + 3) = 4 * (k : Int) + 3 := IntWalk.i64_in _ (by omega)
      have r1 : ((4 : Int) * k + 1).toNat = 4 * k + 1 := by omega
      have r2 : ((4 : Int) * k + 2).toNat = 4 * k + 2 := by omega
      have r3 : ((4 : Int) * k + 3).toNat = 4 * k + 3 := by omega
      have p0 : 0 ≤ (4 : Int) * k := by omega
      have p1 : 0 ≤ (4 : Int) * k + 1 := by omega
      have p2 : 0 ≤ (4 : Int) * k + 2 := by omega
      have p3 : 0 ≤ (4 : Int) * k + 3 := by omega
      have l0 : (4 : Int) * k < s.size := by omega
      have l1 : (4 : Int) * k + 1 < s.size := by omega
      have l2 : (4 : Int) * k + 2 < s.size := by omega
      have l3 : (4 : Int) * k + 3 < s.size := by omega
      have n0 : 4 * k < s.size := by omega
      have n1 : 4 * k + 1 < s.size := by omega
      have n2 : 4 * k + 2 < s.size := by omega
      have n3 : 4 * k + 3 < s.size := by omega
      have nb : 4 * (k + 1) ≤ 140737488355328 := by omega
      cases big
      · have hE := or_little s k hlt
        go_wp2
        go_quiet (fail)
        clear q1 q2 q3
        have hown' : (wr.drewN nq).ownsRow w.heap.size 82 1 _ k (wordsV (wordsTo s.data.toList false k)) := hown
        have hbel' := belowN hbel nq
        go_wp2_with (at_builtin; refine wpList_append_own _ rfl _ _ 88 rfl w.heap.size 82 i0 (.int .u32 0) 1 4 Tryz.underlying88 hi hz0 hz1 hz2 rfl (by decide) _ _ _ rfl (hown'.alloc _) ⟨(wr.drewN nq).heap.size, 0, none⟩ 1 1 [.int .u32 (word s.data.toList false k : Int)] rfl rfl ?c1 ?c2 ?c3 ?c4 ?c5 ?_)
        case c1 => exact one_new _ _ _
        case c2 => exact one_cells _
        case c3 => unfold maxLen; omega
        case c4 => omega
        case c5 => exact Nat.le_trans hbel'.size (by simp)
        intro v' w1 hown1 hgrow1 _
        go_wp2
        go_roundw
        case rel =>
          refine ⟨k + 1, by omega, by go_num, by rw [wordsTo_succ]; exact hown1, (hbel'.alloc hbel'.size _).grown hgrow1 (Nat.le_trans hbel'.size (by simp)) (fun j hj => (hown.lt j hj).1)⟩
        case measure => simp [intOf]; omega
      · have hE := or_big s k hlt
        go_wp2
        go_quiet (fail)
        go_wp2
        go_quiet (fail)
        clear q1 q2 q3
        have hown' : (wr.drewN nq).ownsRow w.heap.size 82 1 _ k (wordsV (wordsTo s.data.toList true k)) := hown
        go_wp2_with (at_builtin; refine wpList_append_own _ rfl _ _ 88 rfl w.heap.size 82 i0 (.int .u32 0) 1 4 Tryz.underlying88 hi hz0 hz1 hz2 rfl (by decide) _ _ _ rfl (hown'.alloc _) ⟨(wr.drewN nq).heap.size, 0, none⟩ 1 1 [.int .u32 (word s.data.toList true k : Int)] rfl rfl ?d1 ?d2 ?d3 ?d4 ?d5 ?_)
        case d1 => exact one_new _ _ _
        case d2 => exact one_cells _
        case d3 => unfold maxLen; omega
        case d4 => omega
        case d5 => exact Nat.le_trans hbel.size (by simp)
        intro v' w1 hown1 hgrow1 _
        go_wp2
        go_roundw
        case rel =>
          refine ⟨k + 1, by omega, by go_num, by rw [wordsTo_succ]; exact hown1, ((belowN hbel _).alloc hbel.size _).grown hgrow1 (Nat.le_trans hbel.size (by simp)) (fun j hj => (hown.lt j hj).1)⟩
        case measure => simp [intOf]; omega
    · obtain rfl : k = s.size / 4 := by omega
      have hw : wr.ownsRow w.heap.size 82 1 _ (s.size / 4) (wordsV (words s.data.toList big)) := hown
      have HW := Lib.hid hw
      clear hw hown
      go_wp2
      go_ret
      exact ⟨_, rfl, HW.out, hbel⟩

/-- The bytes of the words below j, and k of the j-th: those are laid. -/
def textAt (ws : List Nat) (big : Bool) (j k : Nat) : List UInt8 := (List.range (4 * ws.length)).map fun i => if i / 4 < j ∨ (i / 4 = j ∧ shiftN i big < 8 * k) then UInt8.ofNat (ws.getD (i / 4) 0 / 2 ^ shiftN i big) else 0
def placeOf (j k : Nat) (big : Bool) : Nat := if big then 4 * j + 3 - k else 4 * j + k
theorem shiftN_place (j k : Nat) (big : Bool) (hk : k < 4) : shiftN (placeOf j k big) big = 8 * k ∧ placeOf j k big / 4 = j := by
  cases big <;> simp [shiftN, placeOf] <;> omega
theorem shiftN_inj (i j k : Nat) (big : Bool) (hk : k < 4) (h1 : i / 4 = j) (h2 : shiftN i big = 8 * k) : i = placeOf j k big := by
  cases big <;> simp [shiftN, placeOf] at * <;> omega
theorem shiftN_eight (i : Nat) (big : Bool) : ∃ t, shiftN i big = 8 * t ∧ t < 4 := by
  cases big
  · exact ⟨i % 4, by simp [shiftN], by omega⟩
  · exact ⟨3 - i % 4, by simp [shiftN], by omega⟩
theorem textAt_length (ws : List Nat) (big : Bool) (j k : Nat) : (textAt ws big j k).length = 4 * ws.length := by simp [textAt]
theorem textAt_zero (ws : List Nat) (big : Bool) : textAt ws big 0 0 = List.replicate (4 * ws.length) 0 := by
  apply List.ext_getElem (by simp [textAt])
  intro i h1 h2
  simp [textAt]
theorem textAt_next (ws : List Nat) (big : Bool) (j : Nat) : textAt ws big j 4 = textAt ws big (j + 1) 0 := by
  apply List.ext_getElem (by simp [textAt])
  intro i h1 h2
  obtain ⟨t, ht, ht4⟩ := shiftN_eight i big
  have e : (i / 4 < j ∨ (i / 4 = j ∧ shiftN i big < 8 * 4)) = (i / 4 < j + 1 ∨ (i / 4 = j + 1 ∧ shiftN i big < 8 * 0)) := by
    rw [ht]
    simp only [eq_iff_iff]
    omega
  simp only [textAt, List.getElem_map, List.getElem_range, e]
theorem textAt_end (ws : List Nat) (big : Bool) (j : Nat) (h : ws.length ≤ j) : textAt ws big j 0 = text ws big := by
  apply List.ext_getElem (by simp [textAt, text])
  intro i h1 h2
  have hi : i < 4 * ws.length := by simpa [textAt] using h1
  have hk : i / 4 < j := by omega
  simp [textAt, text, hk]
theorem textAt_succ (ws : List Nat) (big : Bool) (j k : Nat) (hk : k < 4) : (textAt ws big j k).set (placeOf j k big) (UInt8.ofNat (ws.getD j 0 / 2 ^ (8 * k))) = textAt ws big j (k + 1) := by
  apply List.ext_getElem (by simp [textAt])
  intro i h1 h2
  obtain ⟨hp1, hp2⟩ := shiftN_place j k big hk
  rw [List.getElem_set]
  by_cases e : placeOf j k big = i
  · subst e
    simp [textAt, hp1, hp2]
  · obtain ⟨t, ht, ht4⟩ := shiftN_eight i big
    have hne : ¬ (i / 4 = j ∧ t = k) := fun ⟨h1, h2⟩ => e (shiftN_inj i j k big hk h1 (by rw [ht, h2])).symm
    have e1 : (i / 4 < j ∨ (i / 4 = j ∧ shiftN i big < 8 * (k + 1))) = (i / 4 < j ∨ (i / 4 = j ∧ shiftN i big < 8 * k)) := by
      rw [ht]
      simp only [eq_iff_iff]
      omega
    simp only [textAt, List.getElem_map, List.getElem_range, e1, e, if_false]

set_option maxHeartbeats 1600000 in
theorem text_some (ws : List Nat) (b o cap : Nat) (big : Bool) (w : World) (hl : ws.length ≤ 35184372080640) (hws : ∀ x ∈ ws, x < 4294967296) (hb : b < w.heap.size) (hcell : ∀ i (h : i < ws.length), w.cell? ⟨b, o + i, none⟩ = some (.int .u32 (ws[i] : Int))) :
    Calls Tryz.prog 79 #[.slice (some ⟨b, o, none⟩) ws.length cap, .bool big] w fun e w' => e = .returned (.string ⟨(text ws big).toArray⟩) ∧ Below w.heap.size w w' := by
  have hmk : ∀ u : World, (Instr.makeSlice 49 (.int .i64 (4 * (ws.length : Int))) (.int .i64 (4 * (ws.length : Int)))).run Tryz.prog u = .ok (.slice (some ⟨u.heap.size, 0, none⟩) (4 * ws.length) (4 * ws.length)) (u.alloc (.cells (madeCells #[.int .u8 0] (4 * ws.length)) 5)) := fun u => make_u8 u (4 * ws.length) (by omega)
  have HC := Lib.hid hcell
  clear hcell
  go_enter Tryz.func79, Tryz.ntmps79
  go_wp2
  clear hmk
  go_loopw [16] (fun i wr => ∃ j : Nat, j ≤ ws.length ∧ i = .int .i64 j ∧ Row wr w.heap.size (bytesV (textAt ws big j 0)) ∧ Below w.heap.size w wr) (fun i _ => ws.length - (intOf i).toNat)
  case atStart => exact ⟨0, Nat.zero_le _, rfl, by rw [textAt_zero, ← zero_bytes]; exact made_row _ _ _ _, (Below.refl _ _).alloc (Nat.le_refl _) _⟩
  case round =>
    obtain ⟨j, hj, rfl, hrow, hbel⟩ := hrel
    by_cases hlt : j < ws.length
    · have hx : ws[j] < 4294967296 := hws _ (List.getElem_mem hlt)
      have hg : ws.getD j 0 = ws[j] := by simp [List.getD, hlt]
      have hcx := (hbel.cell (p := ⟨b, o + j, none⟩) hb).trans (HC.out _ hlt)
      have HG := Lib.hid hg
      clear hg
      generalize ws[j] = x at *
      go_wp2
      obtain ⟨wo, rfl⟩ : ∃ wo : World, wo = wr := ⟨_, rfl⟩
      have hj3 : j ≤ 35184372080640 := by omega
      go_loopw [21] (fun i wq => ∃ k : Nat, k ≤ 4 ∧ i = .int .i64 k ∧ Row wq w.heap.size (bytesV (textAt ws big j k)) ∧ Below w.heap.size w wq) (fun i _ => 4 - (intOf i).toNat)
      case atStart => exact ⟨0, Nat.zero_le _, rfl, hrow, hbel⟩
      case round =>
        obtain ⟨k, hk, rfl, hrow', hbel'⟩ := hrel
        by_cases hk4 : k < 4
        · have hpl : placeOf j k big < (textAt ws big j k).length := by rw [textAt_length]; have := (shiftN_place j k big hk4).2; omega
          have hc := hrow'.cell (i := placeOf j k big) (bytesV_at hpl)
          have hf := hrow'.free (i := placeOf j k big) (by rw [bytesV_length]; exact hpl)
          have hset := hrow'.set (placeOf j k big) (Mur.u8 (UInt8.ofNat (ws.getD j 0 / 2 ^ (8 * k))))
          rw [bytesV_set, textAt_succ _ _ _ _ hk4, HG.out] at hset
          have HS := Lib.hid hset
          clear hset
          generalize (textAt ws big j k)[placeOf j k big].toNat = y at hc
          clear hpl
          cases big
          · have hat : ((4 : Int) * j + k).toNat = placeOf j k false := by simp [placeOf]; omega
            go_wp2
            go_roundw
            case rel =>
              refine ⟨k + 1, by omega, by go_num, ?_, hbel'.setCell (p := ⟨w.heap.size, _, none⟩) (Nat.le_refl _) _⟩
              rw [shr8]
              exact HS.out
            case measure => simp [intOf]; omega
          · have hat : ((4 : Int) * j + 3 - k).toNat = placeOf j k true := by simp [placeOf]; omega
            go_wp2
            go_roundw
            case rel =>
              refine ⟨k + 1, by omega, by go_num, ?_, hbel'.setCell (p := ⟨w.heap.size, _, none⟩) (Nat.le_refl _) _⟩
              rw [shr8]
              exact HS.out
            case measure => simp [intOf]; omega
        · obtain rfl : k = 4 := by omega
          rw [textAt_next] at hrow'
          go_wp2
          go_roundw
          case rel => exact ⟨j + 1, by omega, by go_num, hrow', hbel'⟩
          case measure => simp [intOf]; omega
    · have hend := textAt_end ws big j (by omega)
      rw [hend] at hrow
      have hback := string_row (P := Tryz.prog) hrow 49 5 9 Tryz.underlying49 Tryz.underlying5 Tryz.underlying9 (4 * ws.length) (4 * ws.length) (by rw [text_length])
      clear hend hrow
      go_wp2
      go_ret
      exact ⟨rfl, hbel⟩

set_option maxHeartbeats 800000 in
theorem text_none (a : Option Addr) (cap : Nat) (big : Bool) (w : World) :
    Calls Tryz.prog 79 #[.slice a 0 cap, .bool big] w fun e w' => e = .returned (.string ⟨(text [] big).toArray⟩) ∧ Below w.heap.size w w' := by
  have hmk : ∀ u : World, (Instr.makeSlice 49 (.int .i64 0) (.int .i64 0)).run Tryz.prog u = .ok (.slice (some ⟨u.heap.size, 0, none⟩) 0 0) (u.alloc (.cells (madeCells #[.int .u8 0] 0) 5)) := fun u => make_u8 u 0 (by omega)
  go_enter Tryz.func79, Tryz.ntmps79
  go_wp2
  clear hmk
  go_loopw [16] (fun i wr => i = .int .i64 0 ∧ Row wr w.heap.size (bytesV []) ∧ Below w.heap.size w wr) (fun _ _ => 0)
  case atStart => exact ⟨rfl, made_row _ _ _ _, (Below.refl _ _).alloc (Nat.le_refl _) _⟩
  case round =>
    obtain ⟨rfl, hrow, hbel⟩ := hrel
    have hback := string_row (P := Tryz.prog) hrow 49 5 9 Tryz.underlying49 Tryz.underlying5 Tryz.underlying9 0 0 rfl
    clear hrow
    go_wp2
    go_ret
    exact ⟨rfl, hbel⟩

theorem text_any (ws : List Nat) (v : Value) (big : Bool) (w : World) (hl : ws.length ≤ 35184372080640) (hv : Words32 w v ws) :
    Calls Tryz.prog 79 #[v, .bool big] w fun e w' => e = .returned (.string ⟨(text ws big).toArray⟩) ∧ Below w.heap.size w w' := by
  rcases hv.2 with ⟨rfl, a, c, rfl⟩ | ⟨b, o, cap, rfl, hb, hc⟩
  · exact text_none a c big w
  · exact text_some ws b o cap big w hl hv.1 hb hc
end Go.Proofs.YtedgpglldlohfaaGreatDoor.RefTwo

namespace Go.Proofs.YtedgpglldlohfaaGreatDoor.RefOne
open Go.RowKit Mur Lanes

end Go.Proofs.YtedgpglldlohfaaGreatDoor.RefOne

namespace Go.Proofs.YtedgpglldlohfaaGreatDoor.RefOne
open Go.RowKit Mur Lanes

/-- The j highest of the lowest m bytes as a number. -/
def topN (l : List UInt8) (m : Nat) : Nat → Nat
  | 0 => 0
  | j + 1 => topN l m j * 256 + byt l (m - 1 - j)
theorem topN_low (l : List UInt8) (m j : Nat) (h : j ≤ m) : lowN l m = lowN l (m - j) + 2 ^ (8 * (m - j)) * topN l m j := by
  induction j with
  | zero => simp [topN]
  | succ j ih =>
    rw [ih (by omega)]
    obtain ⟨t, ht⟩ : ∃ t, m - j = t + 1 := ⟨m - j - 1, by omega⟩
    have e1 : m - (j + 1) = t := by omega
    have e2 : m - 1 - j = t := by omega
    rw [ht, e1, topN, e2, lowN, Nat.mul_add, Nat.pow_add]
    have : 2 ^ (8 * t) * 2 ^ (8 * 1) * topN l m j = 2 ^ (8 * t) * (topN l m j * 256) := by
      rw [Nat.mul_assoc, Nat.mul_comm (topN l m j)]
    rw [this, Nat.mul_add, Nat.mul_comm (byt l t)]
    omega
theorem topN_lt (l : List UInt8) (m j : Nat) : topN l m j < 2 ^ (8 * j) := by
  induction j with
  | zero => simp [topN]
  | succ j ih =>
    have := byt_lt l (m - 1 - j)
    rw [topN, Nat.mul_add, Nat.pow_add]
    omega
theorem topN_all (l : List UInt8) (m : Nat) : topN l m m = lowN l m := by
  have := topN_low l m m (Nat.le_refl _)
  simp [lowN] at this
  exact this.symm

end Go.Proofs.YtedgpglldlohfaaGreatDoor.RefOne
