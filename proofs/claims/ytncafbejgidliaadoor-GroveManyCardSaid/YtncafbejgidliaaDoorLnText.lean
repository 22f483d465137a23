/-
  lanes.Text answers what the plain mathematics of the text LanesSpec says, and leaves all memory that was there as it was. Condition: the list takes no more than the reach of the form.
-/
import Derived.Test.YtncafbejgidliaaDoorLnBase
import Derived.BigQuiet
import Derived.StillTailTactics
import Derived.Deep.QuietTactic
namespace Go.Proofs.YtncafbejgidliaaDoor.Lanes
open Go.RowKit Mur
set_option maxRecDepth 100000

set_option maxHeartbeats 800000 in
theorem text_some (ws : List Nat) (b o cap : Nat) (big : Bool) (w : World) (hl : ws.length ≤ 35184372080640) (hws : ∀ x ∈ ws, x < 4294967296) (hb : b < w.heap.size) (hcell : ∀ i (h : i < ws.length), w.cell? ⟨b, o + i, none⟩ = some (.int .u32 (ws[i] : Int))) :
    Calls Tryd.prog 71 #[.slice (some ⟨b, o, none⟩) ws.length cap, .bool big] w fun e w' => e = .returned (.string ⟨(text ws big).toArray⟩) ∧ Below w.heap.size w w' := by
  have hmk : ∀ u : World, (Instr.makeSlice 47 (.int .i64 (4 * (ws.length : Int))) (.int .i64 (4 * (ws.length : Int)))).run Tryd.prog u = .ok (.slice (some ⟨u.heap.size, 0, none⟩) (4 * ws.length) (4 * ws.length)) (u.alloc (.cells (madeCells #[.int .u8 0] (4 * ws.length)) 5)) := fun u => make_u8 u (4 * ws.length) (by omega)
  have HC := Lib.hid hcell
  clear hcell
  go_enter Tryd.func71, Tryd.ntmps71
  go_wp2
  clear hmk
  go_loopw [14] (fun i wr => ∃ k : Nat, k ≤ 4 * ws.length ∧ i = .int .i64 k ∧ Row wr w.heap.size (bytesV (textPart ws big k)) ∧ Below w.heap.size w wr) (fun i _ => 4 * ws.length - (intOf i).toNat)
  case atStart => exact ⟨0, Nat.zero_le _, rfl, by rw [textPart_zero, ← zero_bytes]; exact made_row _ _ _ _, (Below.refl _ _).alloc (Nat.le_refl _) _⟩
  case round =>
    obtain ⟨k, hk, rfl, hrow, hbel⟩ := hrel
    by_cases hlt : k < 4 * ws.length
    · have hj : k / 4 < ws.length := by omega
      have hx : ws[k / 4] < 4294967296 := hws _ (List.getElem_mem hj)
      have hg : ws.getD (k / 4) 0 = ws[k / 4] := by simp [List.getD, hj]
      have hcx := (hbel.cell (p := ⟨b, o + k / 4, none⟩) hb).trans (HC.out _ hj)
      have hkl : k < (textPart ws big k).length := by rw [textPart_length]; omega
      have hc := hrow.cell (i := k) (bytesV_at hkl)
      have hf := hrow.free (i := k) (by rw [bytesV_length]; exact hkl)
      have hsh := shiftN_le k big
      have hset := hrow.set k (u8 (UInt8.ofNat (ws.getD (k / 4) 0 / 2 ^ shiftN k big)))
      rw [bytesV_set, textPart_succ, hg] at hset
      have HS := Lib.hid hset
      clear hset hg
      have w1 : IntKind.i64.wrap ((k : Int) / 4) = (k : Int) / 4 := IntWalk.i64_in _ (by omega)
      have w2 : 0 ≤ (k : Int) / 4 := by omega
      have w3 : ((k : Int) / 4).toNat = k / 4 := by omega
      have w4 : (k : Int) / 4 < (ws.length : Int) := by omega
      generalize ws[k / 4] = x at *
      go_wp2
      go_still_tail 12, (by kernel_rfl)
      still_call (shift_q _ _ _ (by omega))
      repeat still_step
      refine wpStill_nil ?_
      change wpList _ _ _ _ _ wr.drew
      have hc' : wr.drew.cell? ⟨w.heap.size, k, none⟩ = _ := hc
      have hf' : wr.drew.frozen? ⟨w.heap.size, k, none⟩ = _ := hf
      clear hc hf w1
      go_wp2
      go_roundw
      case rel =>
        refine ⟨k + 1, by omega, by go_num, ?_, (hbel.setCell (p := ⟨w.heap.size, k, none⟩) (Nat.le_refl _) _).drew⟩
        rw [shr8]
        exact HS.out.drew
      case measure => simp [intOf]; omega
    · have hend := textPart_end ws big k (by omega)
      rw [hend] at hrow
      have hback := string_row (P := Tryd.prog) hrow 47 5 9 Tryd.underlying47 Tryd.underlying5 Tryd.underlying9 (4 * ws.length) (4 * ws.length) (by rw [text_length])
      clear hend hrow
      go_wp2
      go_ret
      exact ⟨rfl, hbel⟩

set_option maxHeartbeats 800000 in
theorem text_none (a : Option Addr) (cap : Nat) (big : Bool) (w : World) :
    Calls Tryd.prog 71 #[.slice a 0 cap, .bool big] w fun e w' => e = .returned (.string ⟨(text [] big).toArray⟩) ∧ Below w.heap.size w w' := by
  have hmk : ∀ u : World, (Instr.makeSlice 47 (.int .i64 0) (.int .i64 0)).run Tryd.prog u = .ok (.slice (some ⟨u.heap.size, 0, none⟩) 0 0) (u.alloc (.cells (madeCells #[.int .u8 0] 0) 5)) := fun u => make_u8 u 0 (by omega)
  go_enter Tryd.func71, Tryd.ntmps71
  go_wp2
  clear hmk
  go_loopw [14] (fun i wr => i = .int .i64 0 ∧ Row wr w.heap.size (bytesV []) ∧ Below w.heap.size w wr) (fun _ _ => 0)
  case atStart => exact ⟨rfl, made_row _ _ _ _, (Below.refl _ _).alloc (Nat.le_refl _) _⟩
  case round =>
    obtain ⟨rfl, hrow, hbel⟩ := hrel
    have hback := string_row (P := Tryd.prog) hrow 47 5 9 Tryd.underlying47 Tryd.underlying5 Tryd.underlying9 0 0 rfl
    clear hrow
    go_wp2
    go_ret
    exact ⟨rfl, hbel⟩

theorem text_any (ws : List Nat) (v : Value) (big : Bool) (w : World) (hl : ws.length ≤ 35184372080640) (hv : Words32 w v ws) :
    Calls Tryd.prog 71 #[v, .bool big] w fun e w' => e = .returned (.string ⟨(text ws big).toArray⟩) ∧ Below w.heap.size w w' := by
  rcases hv.2 with ⟨rfl, a, c, rfl⟩ | ⟨b, o, cap, rfl, hb, hc⟩
  · exact text_none a c big w
  · exact text_some ws b o cap big w hl hv.1 hb hc
end Go.Proofs.YtncafbejgidliaaDoor.Lanes
