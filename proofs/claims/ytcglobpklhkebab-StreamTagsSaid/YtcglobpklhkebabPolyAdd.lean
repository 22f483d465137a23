/-
  The sums and carries of package stream's Poly1305 answer what the plain mathematics of the text Poly says, and leave all memory that was there as it was. Conditions: five limbs below 2^64.
-/
import Derived.Test.YtcglobpklhkebabChecked
import Derived.Test.YtcglobpklhkebabPoly
import Derived.Test.YtcglobpklhkebabWhole
import Derived.Test.YtcglobpklhkebabLnBase
import Derived.BigQuiet
import Derived.Deep.QuietTactic
namespace Go.Proofs.Ytcglobpklhkebab.Poly
open Go.RowKit Mur Lanes
set_option maxRecDepth 100000

abbrev zeros5 : List Value := [.int .u64 0, .int .u64 0, .int .u64 0, .int .u64 0, .int .u64 0]
theorem zeros_eq : numsV zeros = zeros5 := rfl
theorem size5 : (Try.prog.info? 37).map (·.size) = some 5 := by kernel_rfl
theorem info5 {s : List Nat} (h : s.length = 5) : (Try.prog.info? 37).map (·.size) = some (numsV s).length := by rw [numsV_length, h]; exact size5
theorem infoA5 {s : List Nat} (h : s.length = 5) : (Try.prog.info? 37).map (·.size) = some (numsV s).toArray.size := by simp [numsV_length, h, size5]
theorem same5 {s t : List Nat} (h : s.length = 5) (h2 : t.length = 5) : (numsV s).toArray.size = (numsV t).toArray.size := by simp [numsV_length, h, h2]
theorem one5 (s : List Nat) : (numsV s).toArray.all (·.oneCell') = true := by simp [numsV, Value.oneCell']
theorem zero5 : (Try.prog.info? 37).map (fun i => (i.zero, i.size)) = some (some (.agg zeros5.toArray), zeros5.length) := by kernel_rfl
theorem built5 : Try.prog.built 37 [] = some zeros5.toArray := by kernel_rfl
theorem num_cell {w : World} {b : Nat} {t : TypeId} {s : List Nat} (h : Whole w b t (numsV s)) {i : Nat} (hi : i < s.length) : w.cell? ⟨b, i, none⟩ = some (.int .u64 ((s.getD i 0 : Nat) : Int)) := by
  rw [h.row.cell (numsV_at hi)]
  simp [List.getD, hi]
theorem num_free {w : World} {b : Nat} {t : TypeId} {s : List Nat} (h : Whole w b t (numsV s)) {i : Nat} (hi : i < s.length) : w.frozen? ⟨b, i, none⟩ = false :=
  h.row.free (by rw [numsV_length]; exact hi)
theorem set_num {w : World} {b : Nat} {t : TypeId} {s : List Nat} (h : Whole w b t (numsV s)) (i x : Nat) : Whole (w.setCell ⟨b, i, none⟩ (.int .u64 (x : Int))) b t (numsV (s.set i x)) := by
  rw [← numsV_set]
  exact h.set i _

/-- A number in its box, another beside it, the answer's place. -/
structure Box2 (w0 : World) (x y : List Nat) (w : World) : Prop where
  x : Whole w w0.heap.size 37 (numsV x)
  y : Whole w (w0.heap.size + 1) 37 (numsV y)
  z : Whole w (w0.heap.size + 1 + 1) 37 zeros5
  below : Below w0.heap.size w0 w
theorem Box2.set {w0 w : World} {x y : List Nat} (h : Box2 w0 x y w) (i v : Nat) : Box2 w0 (x.set i v) y (w.setCell ⟨w0.heap.size, i, none⟩ (.int .u64 (v : Int))) :=
  ⟨set_num h.x i v, h.y.other _ _ _ (by omega), h.z.other _ _ _ (by omega), h.below.setCell (p := ⟨w0.heap.size, i, none⟩) (Nat.le_refl _) _⟩
theorem Box2.drew {w0 w : World} {x y : List Nat} (h : Box2 w0 x y w) : Box2 w0 x y w.drew := ⟨h.x, h.y, h.z, h.below.drew⟩

set_option maxHeartbeats 1600000 in
theorem add_any (a b C : List Nat) (w : World) (ha : Five a) (hb : Five b) (hC : C = add a b) :
    Calls Try.prog 18 #[.agg (numsV a).toArray, .agg (numsV b).toArray] w fun e w' => e = .returned (.agg (numsV C).toArray) ∧ Below w.heap.size w w' := by
  have hst : Box2 w a b (((w.alloc (.cells (numsV a).toArray 37)).alloc (.cells (numsV b).toArray 37)).alloc (.cells zeros5.toArray 37)) :=
    ⟨((Whole.made' w _ (numsV a).toArray _ rfl).alloc _).alloc _, (Whole.made' _ _ (numsV b).toArray _ (by simp)).alloc _, Whole.made' _ _ zeros5.toArray _ (by simp), (((Below.refl _ _).alloc (Nat.le_refl _) _).alloc (by simp) _).alloc (by simp; omega) _⟩
  have HT := Lib.hid hst
  have HA := Lib.hid ha
  have HB := Lib.hid hb
  have HC := Lib.hid hC
  clear hst ha hb hC
  go_enter Try.func18, Try.ntmps18
  go_wp2
  go_loopw [6] (fun i wr => ∃ k : Nat, k ≤ 5 ∧ i = .int .i64 k ∧ Box2 w (addTo a b k) b wr) (fun i _ => 5 - (intOf i).toNat)
  case atStart => exact ⟨0, by omega, rfl, HT.out⟩
  case round =>
    obtain ⟨k, hk5, rfl, hk⟩ := hrel
    by_cases hlt : k < 5
    · have hd2 : decide ((k : Int) < 5) = true := by simp; omega
      have hok := addTo_ok HA.out b k
      have hnext : addTo a b (k + 1) = (addTo a b k).set k (((addTo a b k).getD k 0 + b.getD k 0) % 18446744073709551616) := rfl
      generalize addTo a b k = X at *
      have cx := num_cell hk.x (i := k) (by rw [hok.1]; exact hlt)
      have fx := num_free hk.x (i := k) (by rw [hok.1]; exact hlt)
      have cy := num_cell hk.y (i := k) (by rw [HB.out.1]; exact hlt)
      have l1 := hok.at k
      have l2 := HB.out.at k
      generalize X.getD k 0 = x at *
      generalize b.getD k 0 = y at *
      have HP := Lib.hid (hk.set k ((x + y) % 18446744073709551616)).drew
      have hq : IntKind.u64.wrap ((x : Int) + (y : Int)) = (((x + y) % 18446744073709551616 : Nat) : Int) := by rw [IntKind.wrap_u64]; omega
      have HQ := Lib.hid hq
      have HN := Lib.hid hnext
      clear hk hok hnext hq HT
      go_wp2
      go_region
      all_goals go_wp2
      all_goals go_roundw
      case rel => exact ⟨k + 1, by omega, by go_num, by rw [HN.out, HQ.out]; exact HP.out⟩
      case measure => simp [intOf]; omega
    · have hd2 : decide ((k : Int) < 5) = false := by simp; omega
      obtain rfl : k = 5 := by omega
      have hk2 : Box2 w C b wr := by rw [HC.out]; exact hk
      have hok : Five C := by rw [HC.out]; exact addTo_ok HA.out b 5
      have HR := Lib.hid hk2.x
      have HZ := Lib.hid hk2.z
      have HBL := Lib.hid hk2.below
      have hz2 := hk2.z
      unfold Whole at hz2
      have HZ2 := Lib.hid hz2
      have HI := Lib.hid (info5 hok.1)
      have HIA := Lib.hid (infoA5 hok.1)
      have HO := Lib.hid (show zeros5.toArray.size = (numsV C).toArray.size from same5 (s := zeros) rfl hok.1)
      have H1 := Lib.hid (one5 C)
      clear hk hk2 hok hz2 HT
      go_wp2_with ((first
        | (with_reducible refine wpList_load_mid rfl 37 (.tmp 2) rfl w.heap.size 0 rfl (numsV C) _ HR.out.range Try.underlying37 rfl HI.out ?_)
        | (with_reducible refine wpList_store_row rfl 37 (.tmp 4) (.tmp 18) rfl (w.heap.size + 1 + 1) (numsV C).toArray rfl rfl 37 zeros5.toArray HZ2.out HIA.out HO.out H1.out ?_)))
      refine bodyPost_ret (v := .agg (numsV C).toArray) ?_ rfl ⟨rfl, below_setRow HBL.out (by omega) _⟩
      exact results_whole (ty := 37) Try.results18 _ _ (w.heap.size + 1 + 1) 37 (numsV C) _ (by simp [Act.put]) (HZ.out.setRow _) Try.underlying37 rfl HI.out
end Go.Proofs.Ytcglobpklhkebab.Poly
