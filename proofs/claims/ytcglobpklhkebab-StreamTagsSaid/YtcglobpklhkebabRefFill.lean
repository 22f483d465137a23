/-
  The document's answers filled and framed of layer 4: the same as the code's. Conditions: lengths of a megabyte at most.
-/
import Derived.Test.YtcglobpklhkebabStrClose
import Derived.Test.YtcglobpklhkebabChaAwake
import Derived.Test.YtcglobpklhkebabRefWords
import Derived.Test.YtcglobpklhkebabRefBlk
namespace Go.Proofs.Ytcglobpklhkebab.RefPoly
open Go.RowKit Go.Shelf Mur Lanes Cha Poly
set_option maxRecDepth 100000

theorem repeat_zero (F : Nat) : Lib.repeatL [0] F = List.replicate F 0 := by
  induction F with
  | zero => rfl
  | succ F ih => rw [Lib.repeatL, ih, List.replicate_succ]; rfl

set_option maxHeartbeats 800000 in
theorem filled_any (s T : ByteArray) (w : World) (hs : s.size ≤ 4294967295) (hT : T = filledB s) :
    Calls Try.prog 46 #[.string s] w fun e w' => e = .returned (.string T) ∧ Below w.heap.size w w' := by
  unfold filledB at hT
  obtain ⟨F, hF⟩ : ∃ F, F = fillN s.size := ⟨_, rfl⟩
  rw [← hF] at hT
  obtain ⟨Z, hZ⟩ : ∃ Z : ByteArray, Z = nulls F := ⟨_, rfl⟩
  rw [show (⟨(Lib.repeatL (⟨#[0]⟩ : ByteArray).data.toList F).toArray⟩ : ByteArray) = Z by rw [hZ]; unfold nulls; rw [← repeat_zero]] at hT
  unfold fillN at hF
  have hFl : F < 16 := by omega
  have hmk : ∀ u : World, (Instr.makeSlice 43 (.int .i64 (F : Int)) (.int .i64 (F : Int))).run Try.prog u = .ok (.slice (some ⟨u.heap.size, 0, none⟩) F F) (u.alloc (.cells (madeCells #[.int .u8 0] F) 5)) := fun u => make_u8 u F (by omega)
  have hcv := fun (u : World) => string_row (P := Try.prog) (made_bytes u F) 43 5 9 Try.underlying43 Try.underlying5 Try.underlying9 F F (by simp)
  rw [show (⟨(List.replicate F (0 : UInt8)).toArray⟩ : ByteArray) = Z by rw [hZ]; rfl] at hcv
  have e1 : (16 - (s.size : Int) % 16) % 16 = (F : Int) := by omega
  have hZs : Z.size = F := by rw [hZ, nulls_size]
  have cat : ¬ 9223372036854775807 < s.size + Z.size := by omega
  clear hF hZ hZs
  subst hT
  go_enter Try.func46, Try.ntmps46
  go_wp2
  go_ret
  exact ⟨rfl, (Below.refl _ _).alloc (Nat.le_refl _) _⟩

set_option maxHeartbeats 1600000 in
theorem framed_any (m h X : ByteArray) (w : World) (hm : m.size ≤ 1048576) (hh : h.size ≤ 1048576) (hX : X = closeText m h) :
    Calls Try.prog 29 #[.string m, .string h] w fun e w' => e = .returned (.string X) ∧ Below w.heap.size w w' := by
  unfold closeText at hX
  obtain ⟨M, hM⟩ : ∃ M, M = filledB m := ⟨_, rfl⟩
  obtain ⟨H, hH⟩ : ∃ M, M = filledB h := ⟨_, rfl⟩
  obtain ⟨L, hL⟩ : ∃ L : ByteArray, L = ⟨(text [m.size, 0, h.size, 0] false).toArray⟩ := ⟨_, rfl⟩
  rw [← hM, ← hH, ← hL] at hX
  have sM := filledB_size m
  have sH := filledB_size h
  rw [← hM] at sM
  rw [← hH] at sH
  have sL : L.size = 16 := by rw [hL]; show (text _ _).length = 16; rw [text_length]; rfl
  have R1 := Lib.hid (fun u => filled_any m M u (by omega) hM)
  have R2 := Lib.hid (fun u => filled_any h H u (by omega) hH)
  obtain ⟨a, ha⟩ : ∃ a, a = m.size := ⟨_, rfl⟩
  obtain ⟨c, hc⟩ : ∃ a, a = h.size := ⟨_, rfl⟩
  have hLL : L = ⟨(text [a, 0, c, 0] false).toArray⟩ := by rw [ha, hc]; exact hL
  have TX := Lib.hid (show ∀ (u : World) (b : Nat), Whole u b 31 [.int .u32 (a : Int), .int .u32 0, .int .u32 (c : Int), .int .u32 0] → Calls Try.prog 45 #[.slice (some ⟨b, 0, none⟩) 4 4, .bool false] u fun e w' => e = .returned (.string L) ∧ Below u.heap.size u w' from fun u b hb => by
    have hl : Whole u b 31 (wordsV [a, 0, c, 0]) := hb
    have := RefTwo.text_some [a, 0, c, 0] b 0 4 false u (by show 4 ≤ _; omega) (fun x hx => by
      simp only [List.mem_cons, List.not_mem_nil, or_false] at hx
      omega) hl.lt (fun i hi => by rw [Nat.zero_add]; exact hl.row.cell (wordsV_at hi))
    rw [← hLL] at this
    exact this)
  have e1 : IntKind.u32.wrap (m.size : Int) = (a : Int) := by rw [IntKind.wrap_u32]; omega
  have e2 : IntKind.u32.wrap (h.size : Int) = (c : Int) := by rw [IntKind.wrap_u32]; omega
  have cat1 : ¬ 9223372036854775807 < M.size + H.size := by omega
  have cat2 : ¬ 9223372036854775807 < M.size + H.size + L.size := by omega
  clear hM hH hL sM sH sL ha hc hLL
  subst hX
  go_enter Try.func29, Try.ntmps29
  go_wp2_with fail
  refine (TX.out _ _ (Whole.made' _ _ _ _ rfl)).mono ?_
  rintro e w1 ⟨rfl, hb⟩
  have HB1 := Lib.hid (((Below.refl w.heap.size w).alloc (Nat.le_refl _) _).trans (hb.mono (by simp)))
  clear hb e1 e2
  go_wp2_with fail
  refine (R1.out _).mono ?_
  rintro e w2 ⟨rfl, hb⟩
  have HB2 := Lib.hid (HB1.out.trans (hb.mono HB1.out.size))
  clear hb HB1
  go_wp2_with fail
  refine (R2.out _).mono ?_
  rintro e w3 ⟨rfl, hb⟩
  have HB3 := Lib.hid (HB2.out.trans (hb.mono HB2.out.size))
  clear hb HB2
  go_wp2
  go_ret
  exact ⟨rfl, HB3.out⟩

set_option maxHeartbeats 800000 in
theorem once_none (key nonce : ByteArray) (w : World) (h : ¬ (key.size = 32 ∧ nonce.size = 12)) :
    Calls Try.prog 26 #[.string key, .string nonce] w fun e w' => e = .returned (.tuple #[.string ⟨#[]⟩, .int .i64 1]) ∧ Below w.heap.size w w' := by
  have R1 := Lib.hid (fun u => RefCha.block_none key nonce 0 u h)
  clear h
  go_enter Try.func26, Try.ntmps26
  go_wp2_with fail
  refine (R1.out _).mono ?_
  rintro e w1 ⟨rfl, hb⟩
  go_wp2
  refine bodyPost_ret (v := .tuple #[.string ⟨#[]⟩, .int .i64 1]) (by simp [results, Try.results26, go_sem]) rfl ⟨rfl, hb⟩
set_option maxHeartbeats 800000 in
theorem once_some (key nonce K : ByteArray) (w : World) (h : key.size = 32 ∧ nonce.size = 12) (hK : K = (streamB key nonce 64).extract 0 32) :
    Calls Try.prog 26 #[.string key, .string nonce] w fun e w' => e = .returned (.tuple #[.string K, .int .i64 0]) ∧ Below w.heap.size w w' := by
  obtain ⟨F, hF⟩ : ∃ F, F = streamB key nonce 64 := ⟨_, rfl⟩
  rw [← hF] at hK
  have hFs : F.size = 64 := by rw [hF, streamB_size]
  have R1 := Lib.hid (fun u => RefCha.block_some key nonce F 0 u h.1 h.2 (by omega) (by rw [hF]; unfold streamB; rw [streamT_block]))
  have i32 : (32 : Int) ≤ (F.size : Int) := by omega
  clear h hF hFs
  subst hK
  go_enter Try.func26, Try.ntmps26
  go_wp2_with fail
  refine (R1.out _).mono ?_
  rintro e w1 ⟨rfl, hb⟩
  go_wp2
  refine bodyPost_ret (v := .tuple #[.string (F.extract 0 32), .int .i64 0]) (by simp [results, Try.results26, go_sem]) rfl ⟨rfl, hb⟩
end Go.Proofs.Ytcglobpklhkebab.RefPoly
