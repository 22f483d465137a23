/-
  The text of runes, as the document's answer has it: what is answered is what the plain mathematics says; all memory that was there stays as it was. Conditions: that lengths fit.
-/
import Derived.Test.YthlhhmhldpmpiaaDoorRPhrC
namespace Go.Proofs.YthlhhmhldpmpiaaDoor.RPhr
open Go.RowKit Mur Phr Runs
set_option maxRecDepth 100000

theorem or_192 (x : Nat) (hx : x < 32) : bits .or .i32 192 (x : Int) = ((192 + x : Nat) : Int) :=
  (show ∀ x : Fin 32, bits .or .i32 192 ((x.val : Nat) : Int) = ((192 + x.val : Nat) : Int) by decide +kernel) ⟨x, hx⟩
theorem or_128 (x : Nat) (hx : x < 64) : bits .or .i32 128 (x : Int) = ((128 + x : Nat) : Int) :=
  (show ∀ x : Fin 64, bits .or .i32 128 ((x.val : Nat) : Int) = ((128 + x.val : Nat) : Int) by decide +kernel) ⟨x, hx⟩
theorem and_63 (x : Nat) (hx : x < 2048) : bits .and .i32 (x : Int) 63 = ((x % 64 : Nat) : Int) :=
  (show ∀ x : Fin 2048, bits .and .i32 ((x.val : Nat) : Int) 63 = ((x.val % 64 : Nat) : Int) by decide +kernel) ⟨x, hx⟩
theorem text_next (l : List Nat) (k c : Nat) (h : l[k]? = some c) : text (l.take (k + 1)) = text (l.take k) ++ enc c := by
  have h1 : l.take (k + 1) = l.take k ++ [c] := by
    obtain ⟨hk, rfl⟩ := List.getElem?_eq_some_iff.1 h
    exact (List.take_append_getElem hk).symm
  rw [h1, text_append, text_one]
theorem row_one (u : World) (x : Nat) (hx : x < 256) : Row (u.alloc (.cells #[.int .u8 (x : Int)] 5)) u.heap.size (bytesV [UInt8.ofNat x]) := by
  refine ⟨by simp, fun i v hv => ?_⟩
  match i, hv with
  | 0, hv =>
    cases hv
    refine ⟨?_, by simp⟩
    rw [World.cell?_alloc_new]
    simp
    omega
theorem row_two (u : World) (x y : Nat) (hx : x < 256) (hy : y < 256) : Row (u.alloc (.cells #[.int .u8 (x : Int), .int .u8 (y : Int)] 5)) u.heap.size (bytesV [UInt8.ofNat x, UInt8.ofNat y]) := by
  refine ⟨by simp, fun i v hv => ?_⟩
  match i, hv with
  | 0, hv =>
    cases hv
    refine ⟨?_, by simp⟩
    rw [World.cell?_alloc_new]
    simp
    omega
  | 1, hv =>
    cases hv
    refine ⟨?_, by simp⟩
    rw [World.cell?_alloc_new]
    simp
    omega

set_option maxHeartbeats 3200000 in
theorem text_any (l : List Nat) (a : Option Addr) (n c : Nat) (w : World) (X : ByteArray) (hX : X = tx (text l)) (hn : n = l.length) (hn2 : n ≤ 1000000) (hm : ∀ c ∈ l, may c = true) (hr : RunsR w a l) :
    Calls Tryd.prog 42 #[.slice a n c] w fun e w' => e = .returned (.string X) ∧ Below w.heap.size w w' := by
  have HX := Lib.hid hX
  have HN := Lib.hid hn
  have HM := Lib.hid hm
  have HR := Lib.hid hr
  clear hX hn hm hr
  go_enter Tryd.func42, Tryd.ntmps42
  go_wp2_with fail
  go_loopw [3, 8] (fun o i wr => ∃ k : Nat, k ≤ n ∧ i = .int .i64 k ∧ o = .string (tx (text (l.take k))) ∧ Below w.heap.size w wr) (fun _ i _ => n - (intOf i).toNat)
  case atStart => exact ⟨0, Nat.zero_le _, rfl, rfl, Below.refl _ _⟩
  case round =>
    obtain ⟨k, hk, rfl, rfl, hbel⟩ := hrel
    by_cases hlt : k < n
    · obtain ⟨x, hx⟩ : ∃ x, l[k]? = some x := ⟨_, List.getElem?_eq_getElem (show k < l.length by have := HN.out; omega)⟩
      obtain ⟨b, o, rfl, hb, hcell⟩ := HR.out (by have := HN.out; omega)
      have hc := (hbel.cell (p := ⟨b, o + k, none⟩) hb).trans (hcell k x hx)
      have hmx := may_lt (HM.out x (List.mem_of_getElem? hx))
      have hnx := text_next l k x hx
      have htl : (text (l.take k)).length ≤ 2 * k := by
        have h1 := (text_length (l.take k)).2
        rw [List.length_take] at h1
        omega
      have HW := Lib.hid hbel
      clear hcell hbel hx
      by_cases h7 : x < 128
      · have hd : decide ((x : Int) < 128) = true := decide_eq_true (by omega)
        have hd2 : decide (x < 128) = true := decide_eq_true h7
        have he : enc x = [UInt8.ofNat x] := by rw [enc, if_pos h7]
        have hw : IntKind.u8.wrap (x : Int) = (x : Int) := by rw [IntKind.wrap_u8]; omega
        obtain ⟨V, hV⟩ : ∃ V, V = tx [UInt8.ofNat x] := ⟨_, rfl⟩
        have hcv : ∀ u : World, (convert 43 9 (.slice (some ⟨u.heap.size, 0, none⟩) 1 1)).run Tryd.prog (u.alloc (.cells #[.int .u8 (x : Int)] 5)) = .ok (.string V) (u.alloc (.cells #[.int .u8 (x : Int)] 5)) := fun u => by
          rw [hV]
          exact string_row (row_one u x (by omega)) 43 5 9 Tryd.underlying43 Tryd.underlying5 Tryd.underlying9 1 1 rfl
        have hj : tx (text (l.take k)) ++ V = tx (text (l.take (k + 1))) := by rw [hV, tx_append, hnx, he]
        have hVs : V.size = 1 := by rw [hV]; rfl
        have hbig : ¬ 9223372036854775807 < (tx (text (l.take k))).size + V.size := by rw [tx_size]; omega
        have HVS := Lib.hid hVs
        generalize tx (text (l.take k)) = A at *
        generalize hY : tx (text (l.take (k + 1))) = Y at *
        have HY := Lib.hid hY
        clear hnx htl he hV hY hVs hmx h7
        go_wp2
        go_roundw
        case rel => exact ⟨k + 1, by omega, by go_num, by rw [HY.out], HW.out.alloc HW.out.size _⟩
        case measure => simp [intOf]; omega
      · have hd : decide ((x : Int) < 128) = false := decide_eq_false (by omega)
        have hd2 : decide (x < 128) = false := decide_eq_false h7
        have he : enc x = [UInt8.ofNat (192 + x / 64), UInt8.ofNat (128 + x % 64)] := by rw [enc, if_neg h7]
        have ho1 := or_192 (x / 64) (by omega)
        have ho2 := or_128 (x % 64) (by omega)
        have ho3 := and_63 x hmx.2.1
        have hs6 : (x : Int) / 2 ^ 6 = ((x / 64 : Nat) : Int) := by omega
        have hs7 : (x : Int) / 64 = ((x / 64 : Nat) : Int) := by omega
        have hw1 : IntKind.u8.wrap ((192 + x / 64 : Nat) : Int) = ((192 + x / 64 : Nat) : Int) := by rw [IntKind.wrap_u8]; omega
        have hw2 : IntKind.u8.wrap ((128 + x % 64 : Nat) : Int) = ((128 + x % 64 : Nat) : Int) := by rw [IntKind.wrap_u8]; omega
        have hp : 192 + x / 64 < 256 := by omega
        have hq : 128 + x % 64 < 256 := by omega
        generalize x / 64 = y at *
        generalize x % 64 = z at *
        generalize 192 + y = p at *
        generalize 128 + z = q at *
        obtain ⟨V, hV⟩ : ∃ V, V = tx [UInt8.ofNat p, UInt8.ofNat q] := ⟨_, rfl⟩
        have hcv : ∀ u : World, (convert 43 9 (.slice (some ⟨u.heap.size, 0, none⟩) 2 2)).run Tryd.prog (u.alloc (.cells #[.int .u8 (p : Int), .int .u8 (q : Int)] 5)) = .ok (.string V) (u.alloc (.cells #[.int .u8 (p : Int), .int .u8 (q : Int)] 5)) := fun u => by
          rw [hV]
          exact string_row (row_two u p q hp hq) 43 5 9 Tryd.underlying43 Tryd.underlying5 Tryd.underlying9 2 2 rfl
        have hj : tx (text (l.take k)) ++ V = tx (text (l.take (k + 1))) := by rw [hV, tx_append, hnx, he]
        have hVs : V.size = 2 := by rw [hV]; rfl
        have hbig : ¬ 9223372036854775807 < (tx (text (l.take k))).size + V.size := by rw [tx_size]; omega
        generalize tx (text (l.take k)) = A at *
        generalize hY : tx (text (l.take (k + 1))) = Y at *
        have HY := Lib.hid hY
        clear hnx htl he hV hY hVs hmx h7
        go_wp2
        go_roundw
        case rel => exact ⟨k + 1, by omega, by go_num, by rw [HY.out], HW.out.alloc HW.out.size _⟩
        case measure => simp [intOf]; omega
    · obtain rfl : k = n := by omega
      have hE : tx (text (l.take k)) = X := by rw [HX.out, List.take_of_length_le (by have := HN.out; omega)]
      rw [hE]
      clear hE
      go_wp2
      go_ret
      exact ⟨rfl, hbel⟩
end Go.Proofs.YthlhhmhldpmpiaaDoor.RPhr
