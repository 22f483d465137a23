/-
  stream.Block answers a block's 64 bytes as the plain mathematics of the text Cha has them, or ErrArg, and leaves all memory that was there as it was. Conditions: the number is below 2^32.
-/
import Derived.Test.YtcglobpklhkebabChaState
import Derived.Test.YtcglobpklhkebabLnText
namespace Go.Proofs.Ytcglobpklhkebab.Cha
open Go.RowKit Mur Lanes
set_option maxRecDepth 100000

/-- The state of a key and a nonce, the number still 0. -/
def stateZ (key nonce : List UInt8) : List Nat := stateW key [0, 0, 0, 0] nonce
def blockT (s : List Nat) (n : Nat) : List UInt8 := text (blockW (s.set 12 n)) false
theorem blockT_length {s : List Nat} (h : Words16 s) (n : Nat) (hn : n < 4294967296) : (blockT s n).length = 64 := by
  unfold blockT
  rw [text_length, (blockW_ok (h.set 12 n hn)).1]
theorem words_cells {w : World} {b : Nat} {t : TypeId} {s : List Nat} (h : Whole w b t (wordsV s)) : ∀ i (hi : i < s.length), w.cell? ⟨b, 0 + i, none⟩ = some (.int .u32 (s[i] : Int)) := fun i hi => by
  rw [Nat.zero_add]
  exact h.row.cell (wordsV_at hi)

set_option maxHeartbeats 800000 in
theorem block_none (key nonce : ByteArray) (n : Int) (w : World) (h : ¬ (key.size = 32 ∧ nonce.size = 12)) :
    Calls Try.prog 11 #[.string key, .int .u32 n, .string nonce] w fun e w' => e = .returned (.tuple #[.string ⟨#[]⟩, .int .i64 1]) ∧ Below w.heap.size w w' := by
  have r1 := Lib.hid (fun u => state_none key nonce u h)
  have HIM := Lib.hid info_z16
  have HO := Lib.hid (show zeros16.length = zeros16.length from rfl)
  have H1 := Lib.hid one_z16
  clear h
  go_enter Try.func11, Try.ntmps11
  go_wp2_with fail
  refine (r1.out _).mono ?_
  rintro e w1 ⟨rfl, hb1⟩
  go_wp2_with ((first
    | (with_reducible refine wpList_alloc_z rfl 51 rfl zeros16 zero16 ?_)
    | (with_reducible refine wpList_store_new rfl 51 _ _ rfl _ zeros16 zeros16 rfl rfl rfl HIM.out HO.out H1.out ?_)))
  refine bodyPost_ret (v := .tuple #[.string ⟨#[]⟩, .int .i64 1]) (by simp [results, Try.results11, go_sem]) rfl ⟨rfl, ?_⟩
  exact hb1.alloc hb1.size _

set_option maxHeartbeats 1600000 in
theorem block_some (key nonce T : ByteArray) (n : Nat) (w : World) (hk : key.size = 32) (hn : nonce.size = 12) (hlt : n < 4294967296) (hT : T = ⟨(blockT (stateZ key.data.toList nonce.data.toList) n).toArray⟩) :
    Calls Try.prog 11 #[.string key, .int .u32 n, .string nonce] w fun e w' => e = .returned (.tuple #[.string T, .int .i64 0]) ∧ Below w.heap.size w w' := by
  obtain ⟨S, hS⟩ : ∃ S, S = stateZ key.data.toList nonce.data.toList := ⟨_, rfl⟩
  obtain ⟨B, hB⟩ : ∃ B, B = blockW (S.set 12 n) := ⟨_, rfl⟩
  have hokS : Words16 S := by rw [hS]; exact stateW_ok hk rfl hn
  have hokB : Words16 B := by rw [hB]; exact blockW_ok (hokS.set 12 n hlt)
  have hT2 : T = ⟨(text B false).toArray⟩ := by rw [hT, ← hS, hB]; rfl
  have r1 := Lib.hid (fun u => state_some key nonce S u hk hn hS)
  have r2 := Lib.hid (fun u => blockOf_any S B n u hokS hlt hB)
  have r3 := Lib.hid (show ∀ (u : World) (b : Nat), Whole u b 51 (wordsV B) → Calls Try.prog 34 #[.slice (some ⟨b, 0, none⟩) 16 16, .bool false] u fun e w' => e = .returned (.string T) ∧ Below u.heap.size u w' from fun u b hb => by
    have := text_some B b 0 16 false u (by rw [hokB.1]; omega) hokB.2 hb.lt (words_cells hb)
    rw [hokB.1, ← hT2] at this
    exact this)
  have HIS := Lib.hid (info16 hokS.1)
  have HOS := Lib.hid (show zeros16.length = (wordsV S).length by rw [wordsV_length, hokS.1]; rfl)
  have H1S := Lib.hid (one16 S)
  have HIB := Lib.hid (info16 hokB.1)
  have HOB := Lib.hid (show zeros16.length = (wordsV B).length by rw [wordsV_length, hokB.1]; rfl)
  have H1B := Lib.hid (one16 B)
  clear hS hB hokS hokB hT hT2 hk hn
  go_enter Try.func11, Try.ntmps11
  go_wp2_with fail
  refine (r1.out _).mono ?_
  rintro e w1 ⟨rfl, hb1⟩
  have HB1 := Lib.hid hb1
  clear hb1
  go_upto_region 4 with ((first
    | (with_reducible refine wpList_alloc_z rfl 51 rfl zeros16 zero16 ?_)
    | (with_reducible refine wpList_store_new rfl 51 _ _ rfl _ (wordsV S) zeros16 rfl rfl rfl HIS.out HOS.out H1S.out ?_)))
  have HW1 := Lib.hid (Whole.made w1 51 (wordsV S))
  have HB2 := Lib.hid (HB1.out.alloc HB1.out.size (.cells (wordsV S).toArray 51))
  go_simp
  generalize w1.alloc (.cells (wordsV S).toArray 51) = w2 at *
  generalize w1.heap.size = nS at *
  go_wp2_with ((with_reducible refine wpList_load_mid rfl 51 (.tmp 8) rfl nS 0 rfl (wordsV S) _ HW1.out.range Try.underlying51 rfl HIS.out ?_))
  refine (r2.out _).mono ?_
  rintro e w3 ⟨rfl, hb3⟩
  have HB3 := Lib.hid (HB2.out.trans (hb3.mono HB2.out.size))
  clear hb3
  have HW3 := Lib.hid (Whole.made w3 51 (wordsV B))
  have HB4 := Lib.hid (HB3.out.alloc HB3.out.size (.cells (wordsV B).toArray 51))
  go_wp2_with ((first
    | (go_at_call 34; with_reducible refine (r3.out _ _ HW3.out).mono ?_; rintro e w5 ⟨rfl, hb5⟩)
    | (with_reducible refine wpList_alloc_z rfl 51 rfl zeros16 zero16 ?_)
    | (with_reducible refine wpList_store_new rfl 51 _ _ rfl _ (wordsV B) zeros16 rfl rfl rfl HIB.out HOB.out H1B.out ?_)))
  refine bodyPost_ret (v := .tuple #[.string T, .int .i64 0]) (by simp [results, Try.results11, go_sem]) rfl ⟨rfl, ?_⟩
  exact HB4.out.trans (hb5.mono HB4.out.size)
end Go.Proofs.Ytcglobpklhkebab.Cha
