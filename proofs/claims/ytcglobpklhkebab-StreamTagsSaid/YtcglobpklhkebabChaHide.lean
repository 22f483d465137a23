/-
  stream.hideBehind and stream.Hide answer a text exclusively or'ed with the stream from a byte on, or ErrArg, and leave all memory that was there as it was. No condition but those that each theorem names.
-/
import Derived.Test.YtcglobpklhkebabChaStream
import Derived.Test.YtcglobpklhkebabLanesXor
namespace Go.Proofs.Ytcglobpklhkebab.Cha
open Go.RowKit Mur Lanes
set_option maxRecDepth 100000

/-- Whether a stream of n bytes is given. -/
def Good (key nonce : ByteArray) (n : Nat) : Prop := (key.size = 32 ∧ nonce.size = 12) ∧ n ≤ 6000
theorem stream_err (key nonce : ByteArray) (n : Nat) (w : World) (h : ¬ Good key nonce n) :
    Calls Try.prog 13 #[.string key, .string nonce, .int .i64 n] w fun e w' => e = .returned (.tuple #[.string ⟨#[]⟩, .int .i64 1]) ∧ Below w.heap.size w w' := by
  by_cases h1 : key.size = 32 ∧ nonce.size = 12
  · exact stream_far key nonce n w h1.1 h1.2 (.inr (by unfold Good at h; omega))
  · exact stream_none key nonce n w h1
/-- The stream of n bytes, as a text. -/
def streamB (key nonce : ByteArray) (n : Nat) : ByteArray := ⟨(streamT (stateZ key.data.toList nonce.data.toList) n).toArray⟩
theorem streamB_size (key nonce : ByteArray) (n : Nat) : (streamB key nonce n).size = n := streamT_length _ _
theorem stream_ok (key nonce : ByteArray) (n : Nat) (w : World) (h : Good key nonce n) :
    Calls Try.prog 13 #[.string key, .string nonce, .int .i64 n] w fun e w' => e = .returned (.tuple #[.string (streamB key nonce n), .int .i64 0]) ∧ Below w.heap.size w w' :=
  stream_some key nonce _ n w h.1.1 h.1.2 h.2 rfl
/-- A text hidden by the stream from its byte at_ on. -/
def hidB (key nonce s : ByteArray) (at_ : Nat) : ByteArray := LanesXor.xorS s ((streamB key nonce (at_ + s.size)).extract at_ (at_ + s.size))
theorem hidB_size (key nonce s : ByteArray) (at_ : Nat) : (hidB key nonce s at_).size = s.size := by
  show (List.toArray _).size = _
  simp [LanesXor.xorL]

set_option maxHeartbeats 800000 in
theorem behind_err (key nonce s : ByteArray) (at_ : Nat) (w : World) (h : ¬ Good key nonce (at_ + s.size)) (ha : at_ ≤ 64) (hs : s.size ≤ 140737488351232) :
    Calls Try.prog 24 #[.string key, .string nonce, .string s, .int .i64 at_] w fun e w' => e = .returned (.tuple #[.string ⟨#[]⟩, .int .i64 1]) ∧ Below w.heap.size w w' := by
  have r1 := Lib.hid (show ∀ u, Calls Try.prog 13 #[.string key, .string nonce, .int .i64 ((at_ : Int) + (s.size : Int))] u fun e w' => e = .returned (.tuple #[.string ⟨#[]⟩, .int .i64 1]) ∧ Below u.heap.size u w' from fun u => stream_err key nonce (at_ + s.size) u h)
  clear h
  go_enter Try.func24, Try.ntmps24
  go_wp2_with fail
  refine (r1.out _).mono ?_
  rintro e w1 ⟨rfl, hb1⟩
  go_wp2
  refine bodyPost_ret (v := .tuple #[.string ⟨#[]⟩, .int .i64 1]) (by simp [results, Try.results24, go_sem]) rfl ⟨rfl, hb1⟩

set_option maxHeartbeats 800000 in
theorem behind_ok (key nonce s T : ByteArray) (at_ : Nat) (w : World) (h : Good key nonce (at_ + s.size)) (hT : T = hidB key nonce s at_) :
    Calls Try.prog 24 #[.string key, .string nonce, .string s, .int .i64 at_] w fun e w' => e = .returned (.tuple #[.string T, .int .i64 0]) ∧ Below w.heap.size w w' := by
  obtain ⟨X, hX⟩ : ∃ X, X = streamB key nonce (at_ + s.size) := ⟨_, rfl⟩
  have hXs : X.size = at_ + s.size := by rw [hX, streamB_size]
  have hsm : at_ + s.size ≤ 6000 := h.2
  have hT2 : LanesXor.xorS s (X.extract at_ X.size) = T := by rw [hT, hXs, hX]; rfl
  have r1 := Lib.hid (show ∀ u, Calls Try.prog 13 #[.string key, .string nonce, .int .i64 ((at_ : Int) + (s.size : Int))] u fun e w' => e = .returned (.tuple #[.string X, .int .i64 0]) ∧ Below u.heap.size u w' from fun u => by rw [hX]; exact stream_ok key nonce (at_ + s.size) u h)
  have r2 := Lib.hid (fun u => LanesXor.xor_any s (X.extract at_ X.size) u (by omega) (by rw [ByteArray.size_extract]; omega))
  rw [hT2] at r2
  have hi : (at_ : Int) ≤ (X.size : Int) := by omega
  clear hX hXs hT hT2 h
  go_enter Try.func24, Try.ntmps24
  go_wp2_with fail
  refine (r1.out _).mono ?_
  rintro e w1 ⟨rfl, hb1⟩
  have HB1 := Lib.hid hb1
  clear hb1
  go_wp2_with fail
  refine (r2.out _).mono ?_
  rintro e w2 ⟨rfl, hb2⟩
  go_wp2
  refine bodyPost_ret (v := .tuple #[.string T, .int .i64 0]) (by simp [results, Try.results24, go_sem]) rfl ⟨rfl, HB1.out.trans (hb2.mono HB1.out.size)⟩

end Go.Proofs.Ytcglobpklhkebab.Cha
