/-
  stream.Tag, Close and Open with a key or a nonce of a wrong length, and Open of a text that is shorter than a tag: what they answer; all memory that was there is left as it was.
-/
import Derived.Test.YtcglobpklhkebabStrClose
namespace Go.Proofs.Ytcglobpklhkebab.Cha
open Go.RowKit Mur Lanes Poly
set_option maxRecDepth 100000

set_option maxHeartbeats 800000 in
theorem tag_err (key s : ByteArray) (w : World) (hk : key.size ≠ 32) :
    Calls Try.prog 5 #[.string key, .string s] w fun e w' => e = .returned (.tuple #[.string ⟨#[]⟩, .int .i64 1]) ∧ Below w.heap.size w w' := by
  have h1 : ((key.size : Int) != 32) = true := by simp; omega
  clear hk
  go_enter Try.func5, Try.ntmps5
  go_wp2
  refine bodyPost_ret (v := .tuple #[.string ⟨#[]⟩, .int .i64 1]) (by simp [results, Try.results5, go_sem]) rfl ⟨rfl, Below.refl _ _⟩
set_option maxHeartbeats 800000 in
theorem close_err (key nonce more s : ByteArray) (w : World) (h : ¬ (key.size = 32 ∧ nonce.size = 12)) :
    Calls Try.prog 7 #[.string key, .string nonce, .string more, .string s] w fun e w' => e = .returned (.tuple #[.string ⟨#[]⟩, .int .i64 1]) ∧ Below w.heap.size w w' := by
  have R1 := Lib.hid (fun u => block_none key nonce 0 u h)
  clear h
  go_enter Try.func7, Try.ntmps7
  go_wp2_with fail
  refine (R1.out _).mono ?_
  rintro e w1 ⟨rfl, hb⟩
  go_wp2
  refine bodyPost_ret (v := .tuple #[.string ⟨#[]⟩, .int .i64 1]) (by simp [results, Try.results7, go_sem]) rfl ⟨rfl, hb⟩
set_option maxHeartbeats 800000 in
theorem open_err (key nonce more s : ByteArray) (w : World) (h : ¬ (key.size = 32 ∧ nonce.size = 12)) :
    Calls Try.prog 9 #[.string key, .string nonce, .string more, .string s] w fun e w' => e = .returned (.tuple #[.string ⟨#[]⟩, .int .i64 1]) ∧ Below w.heap.size w w' := by
  have R1 := Lib.hid (fun u => block_none key nonce 0 u h)
  clear h
  go_enter Try.func9, Try.ntmps9
  go_wp2_with fail
  refine (R1.out _).mono ?_
  rintro e w1 ⟨rfl, hb⟩
  go_wp2
  refine bodyPost_ret (v := .tuple #[.string ⟨#[]⟩, .int .i64 1]) (by simp [results, Try.results9, go_sem]) rfl ⟨rfl, hb⟩
set_option maxHeartbeats 800000 in
theorem open_short (key nonce more s : ByteArray) (w : World) (h : key.size = 32 ∧ nonce.size = 12) (hs : s.size < 16) :
    Calls Try.prog 9 #[.string key, .string nonce, .string more, .string s] w fun e w' => e = .returned (.tuple #[.string ⟨#[]⟩, .int .i64 2]) ∧ Below w.heap.size w w' := by
  obtain ⟨F, hF⟩ : ∃ F, F = streamB key nonce 64 := ⟨_, rfl⟩
  have R1 := Lib.hid (fun u => first_block key nonce F u h.1 h.2 hF)
  have h1 : decide ((s.size : Int) < 16) = true := by simp; omega
  clear h hF hs
  go_enter Try.func9, Try.ntmps9
  go_wp2_with fail
  refine (R1.out _).mono ?_
  rintro e w1 ⟨rfl, hb⟩
  go_wp2
  refine bodyPost_ret (v := .tuple #[.string ⟨#[]⟩, .int .i64 2]) (by simp [results, Try.results9, go_sem]) rfl ⟨rfl, hb⟩
end Go.Proofs.Ytcglobpklhkebab.Cha
