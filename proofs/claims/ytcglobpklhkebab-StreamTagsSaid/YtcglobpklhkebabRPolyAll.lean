/-
  The document's Poly1305 of layer 4 as one text: carried, times, limbs26, bytes and Tag answer what the plain mathematics says, and leave all memory that was there as it was. Conditions: words below 2^64, texts of four megabytes at most.
-/
import Derived.Test.YtcglobpklhkebabPolyMul
import Derived.Test.YtcglobpklhkebabPolyNum
import Derived.Test.YtcglobpklhkebabPolyClose
import Derived.Test.YtcglobpklhkebabHold
import Derived.Test.YtcglobpklhkebabPoly
import Derived.Test.YtcglobpklhkebabLimbAll
import Derived.Test.YtcglobpklhkebabRefBit
import Derived.Test.YtcglobpklhkebabHoldB
import Derived.Test.YtcglobpklhkebabLnBase
import Derived.Test.YtcglobpklhkebabPolyTag
namespace Go.Proofs.Ytcglobpklhkebab.RefPoly
open Go.RowKit Mur Lanes Poly Hold
set_option maxRecDepth 100000

theorem cell_u64 : TyCell Try.prog 35 := ⟨_, Try.underlying35, rfl, by kernel_rfl⟩
theorem row_poly : TyRow Try.prog 44 5 := ⟨_, Try.underlying44, rfl, by kernel_rfl⟩
def zeroP : List Value := numsV zeros
theorem zero_poly : (Try.prog.info? 44).map (fun i => (i.zero, i.size)) = some (some (.agg zeroP.toArray), zeroP.length) := by kernel_rfl
theorem zeroP_length : zeroP.length = 5 := rfl
theorem nums_get {X : List Nat} {i : Nat} (h : i < X.length) : (numsV X)[i]? = some (.int .u64 ((X.getD i 0 : Nat) : Int)) := by
  rw [numsV_at h]
  simp [List.getD, h]
theorem single_nums (X : List Nat) : Single (numsV X) := by
  unfold Single numsV
  simp [Value.oneCell']
theorem five_len {X : List Nat} (h : Five X) : (numsV X).length = 5 := by rw [numsV_length, h.1]
theorem wrapadd (x c : Nat) : IntKind.u64.wrap ((x : Int) + (c : Int)) = (((x + c) % 18446744073709551616 : Nat) : Int) := by
  rw [IntKind.wrap_u64]
  omega
theorem wrapmul5 (c : Nat) : IntKind.u64.wrap (5 * (c : Int)) = ((5 * c % 18446744073709551616 : Nat) : Int) := by
  rw [IntKind.wrap_u64]
  omega
theorem set_set' (X : List Nat) (k a b : Nat) : (X.set k a).set k b = X.set k b := List.set_set ..
def folds (a : List Nat) : Nat → List Nat
  | 0 => a
  | n + 1 => fold (folds a n)
theorem folds_ok {a : List Nat} (h : Five a) (n : Nat) : Five (folds a n) := by
  induction n with
  | zero => exact h
  | succ n ih => exact fold_ok ih

set_option maxHeartbeats 6400000 in
theorem carried_any (a C : List Nat) (w0 : World) (ha : Five a) (hC : C = fold (fold a)) :
    Calls Try.prog 41 #[.agg (numsV a).toArray] w0 fun r w' => r = .returned (.agg (numsV C).toArray) ∧ Below w0.heap.size w0 w' := by
  have hC2 : folds a 2 = C := hC.symm
  have HA := Lib.hid ha
  have HC := Lib.hid hC2
  have HM := Lib.hid (Hld.start w0)
  clear ha hC hC2
  go_enter Try.func41, Try.ntmps41
  go_wp2_with ((first
    | (with_reducible refine Hold.box HM.out rfl rfl rfl ?_; clear HM; intro bx w HM; simp only [List.nil_append] at HM; replace HM := Lib.hid HM)
    | (with_reducible refine Hold.alloc HM.out rfl rfl zeroP zero_poly ?_; clear HM; intro br w HM; simp only [List.nil_append, List.cons_append] at HM; replace HM := Lib.hid HM)))
  go_loopw [3, 4, 5] (fun _ _ i wr => ∃ n : Nat, n ≤ 2 ∧ i = .int .i64 n ∧ Hld w0 [⟨bx, 44, numsV (folds a n)⟩, ⟨br, 44, zeroP⟩] wr) (fun _ _ i _ => 2 - (intOf i).toNat)
  case atStart => exact ⟨0, by omega, rfl, HM.out⟩
  case round =>
    obtain ⟨n, hn2, rfl, hm⟩ := hrel
    clear HM
    have hX := folds_ok HA.out n
    by_cases hlt : n < 2
    · have hd2 : decide ((n : Int) < 2) = true := by simp; omega
      have hnx : folds a (n + 1) = fold (folds a n) := rfl
      generalize folds a n = X at *
      have HM := Lib.hid hm
      have HNX := Lib.hid hnx
      have HX := Lib.hid hX
      clear hm hnx hX
      go_upto_region 4 with (fail)
      go_wp2
      go_loopw [3, 4, 7] (fun c _ j w' => ∃ k : Nat, k ≤ 5 ∧ j = .int .i64 k ∧ c = .int .u64 (((carTo X k).2 : Nat) : Int) ∧ Hld w0 [⟨bx, 44, numsV (carTo X k).1⟩, ⟨br, 44, zeroP⟩] w') (fun _ _ j _ => 5 - (intOf j).toNat)
      case atStart => exact ⟨0, by omega, rfl, rfl, HM.out⟩
      case round =>
        obtain ⟨k, hk5, rfl, rfl, hm⟩ := hrel
        clear HM
        have hok := carTo_ok HX.out k
        by_cases hlk : k < 5
        · have hd3 : decide ((k : Int) < 5) = true := by simp; omega
          have ik : (k : Int) < 5 := by omega
          obtain ⟨M, hM⟩ : ∃ M, M = (carTo X k).1 := ⟨_, rfl⟩
          obtain ⟨c, hc⟩ : ∃ x, x = (carTo X k).2 := ⟨_, rfl⟩
          obtain ⟨x, hx⟩ : ∃ x, x = M.getD k 0 := ⟨_, rfl⟩
          obtain ⟨s, hs⟩ : ∃ s, s = (x + c) % 18446744073709551616 := ⟨_, rfl⟩
          obtain ⟨m, hmm⟩ : ∃ m, m = s % 67108864 := ⟨_, rfl⟩
          obtain ⟨d, hd⟩ : ∃ d, d = s / 67108864 := ⟨_, rfl⟩
          have hn1 : (carTo X (k + 1)).1 = M.set k m := by rw [hmm, hs, hx, hc, hM]; rfl
          have hn2' : (carTo X (k + 1)).2 = d := by rw [hd, hs, hx, hc, hM]; rfl
          rw [← hM] at hm hok
          rw [← hc] at hok ⊢
          have hlM : M.length = 5 := hok.1.1
          have e1 : IntKind.u64.wrap ((x : Int) + (c : Int)) = (s : Int) := by rw [wrapadd, hs]
          have e2 : (s : Int) / 67108864 = (d : Int) := by omega
          have e3 : bits .and .u64 (s : Int) 67108863 = (m : Int) := by rw [mask_u64 _ (by omega), hmm]
          have gM : (numsV M)[k]? = some (.int .u64 (x : Int)) := by rw [hx]; exact nums_get (by omega)
          have lV : k < (numsV M).length := by rw [numsV_length]; omega
          have gs : (numsV (M.set k s))[k]? = some (.int .u64 (s : Int)) := by
            rw [nums_get (by rw [List.length_set]; omega)]
            have : k < M.length := by omega
            simp [List.getD, this]
          have hs1 : (numsV M).set k (.int .u64 (s : Int)) = numsV (M.set k s) := numsV_set M k s
          have hs2 : (numsV (M.set k s)).set k (.int .u64 (m : Int)) = numsV (carTo X (k + 1)).1 := by rw [numsV_set, set_set', hn1]
          have lV2 : k < (numsV (M.set k s)).length := by rw [numsV_length, List.length_set]; omega
          have HM := Lib.hid hm
          have GM := Lib.hid gM
          have GS := Lib.hid gs
          have E2 := Lib.hid e2
          have E3 := Lib.hid e3
          have LV := Lib.hid lV
          have LV2 := Lib.hid lV2
          have HS1 := Lib.hid hs1
          have HS2 := Lib.hid hs2
          have HCN := Lib.hid hn2'
          clear hm gM gs e2 e3 lV lV2 hs1 hs2 hn1 hn2' hM hc hx hs hmm hd hok hlM
          go_upto_region 8 with ((first
            | (with_reducible refine Hold.load1 HM.out 0 (c := .int .u64 (x : Int)) rfl rfl rfl rfl (GM.out) (cell_u64) ?_)
            | (with_reducible refine Hold.store1 HM.out 0 (c := .int .u64 (s : Int)) (v' := numsV (M.set k s)) rfl rfl rfl rfl rfl (LV.out) (HS1.out) (Hold.cell_int _ _) (cell_u64) ?_; clear HM; intro w HM; simp only [List.set_cons_zero] at HM; replace HM := Lib.hid HM)))
          clear e1
          have e2 := E2.out
          go_upto_region 9 with ((first
            | (with_reducible refine Hold.load1 HM.out 0 (c := .int .u64 (s : Int)) rfl rfl rfl rfl (GS.out) (cell_u64) ?_)))
          clear e2
          have e3 := E3.out
          go_upto_region 10 with ((first
            | (with_reducible refine Hold.load1 HM.out 0 (c := .int .u64 (s : Int)) rfl rfl rfl rfl (GS.out) (cell_u64) ?_)
            | (with_reducible refine Hold.store1 HM.out 0 (c := .int .u64 (m : Int)) (v' := numsV (carTo X (k + 1)).1) rfl rfl rfl rfl rfl (LV2.out) (HS2.out) (Hold.cell_int _ _) (cell_u64) ?_; clear HM; intro w HM; simp only [List.set_cons_zero] at HM; replace HM := Lib.hid HM)))
          clear e3
          go_wp2
          go_roundw
          case rel => exact ⟨k + 1, by omega, by go_num, by rw [HCN.out], HM.out⟩
          case measure => simp [intOf]; omega
        · have hd3 : decide ((k : Int) < 5) = false := by simp; omega
          obtain rfl : k = 5 := by omega
          obtain ⟨Y, hY⟩ : ∃ M, M = (carTo X 5).1 := ⟨_, rfl⟩
          obtain ⟨c, hc⟩ : ∃ x, x = (carTo X 5).2 := ⟨_, rfl⟩
          obtain ⟨y, hy⟩ : ∃ x, x = Y.getD 0 0 := ⟨_, rfl⟩
          obtain ⟨z, hz⟩ : ∃ x, x = 5 * c % 18446744073709551616 := ⟨_, rfl⟩
          obtain ⟨v, hv⟩ : ∃ x, x = (y + z) % 18446744073709551616 := ⟨_, rfl⟩
          have hrn : folds a (n + 1) = Y.set 0 v := by rw [HNX.out, hv, hz, hy, hc, hY]; rfl
          rw [← hY] at hm hok
          rw [← hc]
          have hlen : Y.length = 5 := hok.1.1
          have e1 : IntKind.u64.wrap (5 * (c : Int)) = (z : Int) := by rw [wrapmul5, hz]
          have e2 : IntKind.u64.wrap ((y : Int) + (z : Int)) = (v : Int) := by rw [wrapadd, hv]
          have gy : (numsV Y)[0]? = some (.int .u64 (y : Int)) := by rw [hy]; exact nums_get (by rw [hlen]; decide)
          have hs : (numsV Y).set 0 (.int .u64 (v : Int)) = numsV (folds a (n + 1)) := by rw [numsV_set, hrn]
          have lY : 0 < (numsV Y).length := by rw [numsV_length, hlen]; decide
          have HM := Lib.hid hm
          have GY := Lib.hid gy
          have HS := Lib.hid hs
          have LY := Lib.hid lY
          clear hm hok hrn hlen hc hy hz hv gy hs lY hY
          go_upto_region 12 with ((first
            | (with_reducible refine Hold.load1 HM.out 0 (c := .int .u64 (y : Int)) rfl rfl rfl rfl (GY.out) (cell_u64) ?_)
            | (with_reducible refine Hold.store1 HM.out 0 (c := .int .u64 (v : Int)) (v' := numsV (folds a (n + 1))) rfl rfl rfl rfl rfl (LY.out) (HS.out) (Hold.cell_int _ _) (cell_u64) ?_; clear HM; intro w HM; simp only [List.set_cons_zero] at HM; replace HM := Lib.hid HM)))
          clear e1 e2
          go_wp2
          go_roundw
          case rel => exact ⟨n + 1, by omega, by go_num, HM.out⟩
          case measure => simp [intOf]; omega
    · have hd2 : decide ((n : Int) < 2) = false := by simp; omega
      obtain rfl : n = 2 := by omega
      rw [HC.out] at hm hX
      have HL := Lib.hid (five_len hX)
      have HM := Lib.hid hm
      clear hm hX HA HC
      go_wp2_with ((first
        | (with_reducible refine Hold.load HM.out 0 (cs := numsV C) rfl rfl rfl rfl (Part.all _) (by rw [HL.out]; exact row_poly) ?_)
        | (with_reducible refine Hold.store HM.out 1 (v' := numsV C) rfl rfl rfl rfl rfl (by rw [Nat.zero_add, HL.out, zeroP_length]; exact Nat.le_refl _) (lay_all (zeroP_length.trans HL.out.symm)) (single_nums _) (by rw [HL.out]; exact row_poly) ?_; clear HM; intro w HM; simp only [List.set_cons_zero, List.set_cons_succ] at HM; replace HM := Lib.hid HM)))
      exact bodyPost_ret (Hold.results1 HM.out 1 rfl _ rfl rfl (by rw [HL.out]; exact row_poly)) rfl ⟨rfl, HM.out.below⟩
end Go.Proofs.Ytcglobpklhkebab.RefPoly

namespace Go.Proofs.Ytcglobpklhkebab.RefPoly
open Go.RowKit Mur Lanes Poly Hold
set_option maxRecDepth 100000

theorem part_low {a b : List Nat} {i k : Nat} (h : i + k < 5) : Poly.part a b i k = a.getD i 0 * b.getD k 0 % 18446744073709551616 := by
  unfold Poly.part
  rw [if_neg (by omega)]
theorem part_high {a b : List Nat} {i k : Nat} (h : ¬ i + k < 5) : Poly.part a b i k = 5 * a.getD i 0 % 18446744073709551616 * b.getD k 0 % 18446744073709551616 := by
  unfold Poly.part
  rw [if_pos (by omega), Nat.mod_mul_mod, Nat.mod_mul_mod]
  congr 1
  rw [Nat.mul_comm _ 5, Nat.mul_assoc]

set_option maxHeartbeats 6400000 in
theorem times_any (a b C : List Nat) (w0 : World) (ha : Five a) (hb : Five b) (hC : C = mul a b) :
    Calls Try.prog 22 #[.agg (numsV a).toArray, .agg (numsV b).toArray] w0 fun r w' => r = .returned (.agg (numsV C).toArray) ∧ Below w0.heap.size w0 w' := by
  have hCok : Five C := by rw [hC]; exact mul_ok _ _
  have R1 := Lib.hid (fun u => carried_any (mulTo a b 5) C u (mulTo_ok a b 5) hC)
  have HA := Lib.hid ha
  have HBB := Lib.hid hb
  have HL := Lib.hid (five_len hCok)
  have HM := Lib.hid (Hld.start w0)
  clear ha hb hC hCok
  go_enter Try.func22, Try.ntmps22
  go_wp2_with ((first
    | (with_reducible refine Hold.box (m := []) HM.out rfl rfl rfl ?_; clear HM; intro ba w HM; simp only [List.nil_append] at HM; replace HM := Lib.hid HM)
    | (with_reducible refine Hold.box (m := [_]) HM.out rfl rfl rfl ?_; clear HM; intro bb w HM; simp only [List.nil_append, List.cons_append] at HM; replace HM := Lib.hid HM)
    | (with_reducible refine Hold.alloc (m := [_, _]) HM.out rfl rfl zeroP zero_poly ?_; clear HM; intro br w HM; simp only [List.nil_append, List.cons_append] at HM; replace HM := Lib.hid HM)
    | (with_reducible refine Hold.alloc (m := [_, _, _]) HM.out rfl rfl zeroP zero_poly ?_; clear HM; intro bo w HM; simp only [List.nil_append, List.cons_append] at HM; replace HM := Lib.hid HM)))
  go_loopw [6, 7, 8] (fun _ _ i wr => ∃ k : Nat, k ≤ 5 ∧ i = .int .i64 k ∧ Hld w0 [⟨ba, 44, numsV a⟩, ⟨bb, 44, numsV b⟩, ⟨br, 44, zeroP⟩, ⟨bo, 44, numsV (mulTo a b k)⟩] wr) (fun _ _ i _ => 5 - (intOf i).toNat)
  case atStart => exact ⟨0, by omega, rfl, HM.out⟩
  case round =>
    obtain ⟨i, hi5, rfl, hm⟩ := hrel
    clear HM
    by_cases hlt : i < 5
    · have hd2 : decide ((i : Int) < 5) = true := by simp; omega
      have ii : (i : Int) < 5 := by omega
      have hnx : mulTo a b (i + 1) = mulIn a b i (mulTo a b i) 5 := rfl
      have hO := mulTo_ok a b i
      generalize mulTo a b i = O at *
      have HM := Lib.hid hm
      have HNX := Lib.hid hnx
      have HO := Lib.hid hO
      clear hm hnx hO
      go_upto_region 5 with (fail)
      go_wp2
      go_loopw [7, 11] (fun _ j w' => ∃ k : Nat, k ≤ 5 ∧ j = .int .i64 k ∧ Hld w0 [⟨ba, 44, numsV a⟩, ⟨bb, 44, numsV b⟩, ⟨br, 44, zeroP⟩, ⟨bo, 44, numsV (mulIn a b i O k)⟩] w') (fun _ j _ => 5 - (intOf j).toNat)
      case atStart => exact ⟨0, by omega, rfl, HM.out⟩
      case round =>
        obtain ⟨k, hk5, rfl, hm⟩ := hrel
        clear HM
        have hok := mulIn_ok a b i HO.out k
        by_cases hlk : k < 5
        · have hd3 : decide ((k : Int) < 5) = true := by simp; omega
          have ik : (k : Int) < 5 := by omega
          have hn : mulIn a b i O (k + 1) = (mulIn a b i O k).set ((i + k) % 5) (((mulIn a b i O k).getD ((i + k) % 5) 0 + Poly.part a b i k) % 18446744073709551616) := rfl
          obtain ⟨t, ht⟩ : ∃ t, t = i + k := ⟨_, rfl⟩
          have hti : (i : Int) + (k : Int) = (t : Int) := by omega
          have w1 : IntKind.i64.wrap (t : Int) = (t : Int) := by rw [IntKind.wrap_i64]; omega
          obtain ⟨j, hj⟩ : ∃ j, j = t % 5 := ⟨_, rfl⟩
          have hj5 : j < 5 := by omega
          have ij : (j : Int) < 5 := by omega
          rw [← ht, ← hj] at hn
          generalize mulIn a b i O k = M at *
          obtain ⟨m, hmm⟩ : ∃ m, m = M.getD j 0 := ⟨_, rfl⟩
          obtain ⟨x, hx⟩ : ∃ m, m = a.getD i 0 := ⟨_, rfl⟩
          obtain ⟨y, hy⟩ : ∃ m, m = b.getD k 0 := ⟨_, rfl⟩
          rw [← hmm] at hn
          have hlM : M.length = 5 := hok.1
          have gM : (numsV M)[j]? = some (.int .u64 (m : Int)) := by rw [hmm]; exact nums_get (by omega)
          have gA : (numsV a)[i]? = some (.int .u64 (x : Int)) := by rw [hx]; exact nums_get (by rw [HA.out.1]; exact hlt)
          have gB : (numsV b)[k]? = some (.int .u64 (y : Int)) := by rw [hy]; exact nums_get (by rw [HBB.out.1]; exact hlk)
          have lV : j < (numsV M).length := by rw [numsV_length]; omega
          have GM := Lib.hid gM
          have GA := Lib.hid gA
          have GB := Lib.hid gB
          have LV := Lib.hid lV
          have HM := Lib.hid hm
          clear hm gM gA gB lV hok hlM
          by_cases hik : i + k < 5
          · have hpt : Poly.part a b i k = x * y % 18446744073709551616 := by rw [part_low hik, hx, hy]
            have hd4 : decide ((t : Int) < 5) = true := by simp; omega
            have it : (t : Int) < 5 := by omega
            obtain ⟨p, hp⟩ : ∃ p, p = x * y % 18446744073709551616 := ⟨_, rfl⟩
            obtain ⟨v, hv⟩ : ∃ q, q = (m + p) % 18446744073709551616 := ⟨_, rfl⟩
            have e1 : IntKind.u64.wrap ((x : Int) * (y : Int)) = (p : Int) := by rw [wrapmul, hp]
            have e2 : IntKind.u64.wrap ((m : Int) + (p : Int)) = (v : Int) := by rw [wrapadd, hv]
            have hjt : j = t := by omega
            have hs : (numsV M).set j (.int .u64 (v : Int)) = numsV (mulIn a b i O (k + 1)) := by rw [numsV_set, hn, hpt, ← hp, ← hv]
            have HS := Lib.hid hs
            clear hpt hp hv hn hs hmm hx hy hj ht hik hj5 ij
            subst hjt
            go_upto_region 8 with (fail)
            go_upto_region 9 with (fail)
            refine Steady.region 14 (by kernel_rfl) (by kernel_rfl) (fun u => Hld _ _ u) HM.out.drew ?_
            simp only [List.take_succ_cons, List.take_zero, List.drop_succ_cons, List.drop_zero]
            refine Steady.take ?_ rfl (by intro u hu; go_simp; with_reducible rfl) ?_
            simp only [Act.put, List.setIfInBounds_toArray, List.set_cons_zero, List.set_cons_succ]
            refine Steady.take ?_ rfl (by intro u hu; go_simp; with_reducible rfl) ?_
            simp only [Act.put, List.setIfInBounds_toArray, List.set_cons_zero, List.set_cons_succ]
            refine Steady.take ?_ rfl (by intro u hu; go_simp; with_reducible rfl) ?_
            simp only [Act.put, List.setIfInBounds_toArray, List.set_cons_zero, List.set_cons_succ]
            refine Steady.take ?_ rfl (by intro u hu; go_simp; with_reducible rfl) ?_
            simp only [Act.put, List.setIfInBounds_toArray, List.set_cons_zero, List.set_cons_succ]
            refine Steady.take (.int .u64 (m : Int)) rfl (fun u hu => Hold.load1_run hu 3 rfl rfl rfl (GM.out) (cell_u64)) ?_
            simp only [Act.put, List.setIfInBounds_toArray, List.set_cons_zero, List.set_cons_succ]
            refine Steady.take ?_ rfl (by intro u hu; go_simp; with_reducible rfl) ?_
            simp only [Act.put, List.setIfInBounds_toArray, List.set_cons_zero, List.set_cons_succ]
            refine Steady.take ?_ rfl (by intro u hu; go_simp; with_reducible rfl) ?_
            simp only [Act.put, List.setIfInBounds_toArray, List.set_cons_zero, List.set_cons_succ]
            refine Steady.take (.int .u64 (x : Int)) rfl (fun u hu => Hold.load1_run hu 0 rfl rfl rfl (GA.out) (cell_u64)) ?_
            simp only [Act.put, List.setIfInBounds_toArray, List.set_cons_zero, List.set_cons_succ]
            refine Steady.take ?_ rfl (by intro u hu; go_simp; with_reducible rfl) ?_
            simp only [Act.put, List.setIfInBounds_toArray, List.set_cons_zero, List.set_cons_succ]
            refine Steady.take ?_ rfl (by intro u hu; go_simp; with_reducible rfl) ?_
            simp only [Act.put, List.setIfInBounds_toArray, List.set_cons_zero, List.set_cons_succ]
            refine Steady.take (.int .u64 (y : Int)) rfl (fun u hu => Hold.load1_run hu 1 rfl rfl rfl (GB.out) (cell_u64)) ?_
            simp only [Act.put, List.setIfInBounds_toArray, List.set_cons_zero, List.set_cons_succ]
            refine Steady.take ?_ rfl (by intro u hu; go_simp; with_reducible rfl) ?_
            simp only [Act.put, List.setIfInBounds_toArray, List.set_cons_zero, List.set_cons_succ]
            refine Steady.take ?_ rfl (by intro u hu; go_simp; with_reducible rfl) ?_
            simp only [Act.put, List.setIfInBounds_toArray, List.set_cons_zero, List.set_cons_succ]
            refine Steady.take ?_ rfl (by intro u hu; go_simp; with_reducible rfl) ?_
            simp only [Act.put, List.setIfInBounds_toArray, List.set_cons_zero, List.set_cons_succ]
            refine Steady.nil ?_
            clear HM
            intro w HM
            replace HM := Lib.hid HM
            go_upto_region 11 with ((first
              | (with_reducible refine Hold.store1 HM.out 3 (c := .int .u64 (v : Int)) (v' := numsV (mulIn a b i O (k + 1))) rfl rfl rfl rfl rfl (LV.out) (HS.out) (Hold.cell_int _ _) (cell_u64) ?_; clear HM; intro w HM; simp only [List.set_cons_zero, List.set_cons_succ] at HM; replace HM := Lib.hid HM)))
            go_wp2
            go_roundw
            case rel => exact ⟨k + 1, by omega, by go_num, HM.out⟩
            case measure => simp [intOf]; omega
          · have hpt : Poly.part a b i k = 5 * x % 18446744073709551616 * y % 18446744073709551616 := by rw [part_high hik, hx, hy]
            have hd4 : decide ((t : Int) < 5) = false := by simp; omega
            have hjt : (t : Int) - 5 = (j : Int) := by omega
            have w2 : IntKind.i64.wrap (j : Int) = (j : Int) := by rw [IntKind.wrap_i64]; omega
            obtain ⟨z, hz⟩ : ∃ p, p = 5 * x % 18446744073709551616 := ⟨_, rfl⟩
            obtain ⟨p, hp⟩ : ∃ p, p = z * y % 18446744073709551616 := ⟨_, rfl⟩
            obtain ⟨v, hv⟩ : ∃ q, q = (m + p) % 18446744073709551616 := ⟨_, rfl⟩
            have e0 : IntKind.u64.wrap (5 * (x : Int)) = (z : Int) := by rw [wrapmul5, hz]
            have e1 : IntKind.u64.wrap ((z : Int) * (y : Int)) = (p : Int) := by rw [wrapmul, hp]
            have e2 : IntKind.u64.wrap ((m : Int) + (p : Int)) = (v : Int) := by rw [wrapadd, hv]
            have hs : (numsV M).set j (.int .u64 (v : Int)) = numsV (mulIn a b i O (k + 1)) := by rw [numsV_set, hn, hpt, ← hz, ← hp, ← hv]
            have HS := Lib.hid hs
            clear hpt hz hp hv hn hs hmm hx hy hj ht hik
            go_upto_region 8 with (fail)
            go_upto_region 10 with (fail)
            refine Steady.region 16 (by kernel_rfl) (by kernel_rfl) (fun u => Hld _ _ u) HM.out.drew ?_
            simp only [List.take_succ_cons, List.take_zero, List.drop_succ_cons, List.drop_zero]
            refine Steady.take ?_ rfl (by intro u hu; go_simp; with_reducible rfl) ?_
            simp only [Act.put, List.setIfInBounds_toArray, List.set_cons_zero, List.set_cons_succ]
            refine Steady.take ?_ rfl (by intro u hu; go_simp; with_reducible rfl) ?_
            simp only [Act.put, List.setIfInBounds_toArray, List.set_cons_zero, List.set_cons_succ]
            refine Steady.take ?_ rfl (by intro u hu; go_simp; with_reducible rfl) ?_
            simp only [Act.put, List.setIfInBounds_toArray, List.set_cons_zero, List.set_cons_succ]
            refine Steady.take ?_ rfl (by intro u hu; go_simp; with_reducible rfl) ?_
            simp only [Act.put, List.setIfInBounds_toArray, List.set_cons_zero, List.set_cons_succ]
            refine Steady.take ?_ rfl (by intro u hu; go_simp; with_reducible rfl) ?_
            simp only [Act.put, List.setIfInBounds_toArray, List.set_cons_zero, List.set_cons_succ]
            refine Steady.take (.int .u64 (m : Int)) rfl (fun u hu => Hold.load1_run hu 3 rfl rfl rfl (GM.out) (cell_u64)) ?_
            simp only [Act.put, List.setIfInBounds_toArray, List.set_cons_zero, List.set_cons_succ]
            refine Steady.take ?_ rfl (by intro u hu; go_simp; with_reducible rfl) ?_
            simp only [Act.put, List.setIfInBounds_toArray, List.set_cons_zero, List.set_cons_succ]
            refine Steady.take ?_ rfl (by intro u hu; go_simp; with_reducible rfl) ?_
            simp only [Act.put, List.setIfInBounds_toArray, List.set_cons_zero, List.set_cons_succ]
            refine Steady.take (.int .u64 (x : Int)) rfl (fun u hu => Hold.load1_run hu 0 rfl rfl rfl (GA.out) (cell_u64)) ?_
            simp only [Act.put, List.setIfInBounds_toArray, List.set_cons_zero, List.set_cons_succ]
            refine Steady.take ?_ rfl (by intro u hu; go_simp; with_reducible rfl) ?_
            simp only [Act.put, List.setIfInBounds_toArray, List.set_cons_zero, List.set_cons_succ]
            refine Steady.take ?_ rfl (by intro u hu; go_simp; with_reducible rfl) ?_
            simp only [Act.put, List.setIfInBounds_toArray, List.set_cons_zero, List.set_cons_succ]
            refine Steady.take ?_ rfl (by intro u hu; go_simp; with_reducible rfl) ?_
            simp only [Act.put, List.setIfInBounds_toArray, List.set_cons_zero, List.set_cons_succ]
            refine Steady.take (.int .u64 (y : Int)) rfl (fun u hu => Hold.load1_run hu 1 rfl rfl rfl (GB.out) (cell_u64)) ?_
            simp only [Act.put, List.setIfInBounds_toArray, List.set_cons_zero, List.set_cons_succ]
            refine Steady.take ?_ rfl (by intro u hu; go_simp; with_reducible rfl) ?_
            simp only [Act.put, List.setIfInBounds_toArray, List.set_cons_zero, List.set_cons_succ]
            refine Steady.take ?_ rfl (by intro u hu; go_simp; with_reducible rfl) ?_
            simp only [Act.put, List.setIfInBounds_toArray, List.set_cons_zero, List.set_cons_succ]
            refine Steady.take ?_ rfl (by intro u hu; go_simp; with_reducible rfl) ?_
            simp only [Act.put, List.setIfInBounds_toArray, List.set_cons_zero, List.set_cons_succ]
            refine Steady.nil ?_
            clear HM
            intro w HM
            replace HM := Lib.hid HM
            go_upto_region 11 with ((first
              | (with_reducible refine Hold.store1 HM.out 3 (c := .int .u64 (v : Int)) (v' := numsV (mulIn a b i O (k + 1))) rfl rfl rfl rfl rfl (LV.out) (HS.out) (Hold.cell_int _ _) (cell_u64) ?_; clear HM; intro w HM; simp only [List.set_cons_zero, List.set_cons_succ] at HM; replace HM := Lib.hid HM)))
            go_wp2
            go_roundw
            case rel => exact ⟨k + 1, by omega, by go_num, HM.out⟩
            case measure => simp [intOf]; omega
        · have hd3 : decide ((k : Int) < 5) = false := by simp; omega
          obtain rfl : k = 5 := by omega
          rw [← HNX.out] at hm
          have HM := Lib.hid hm
          clear hm hok
          go_wp2
          go_roundw
          case rel => exact ⟨i + 1, by omega, by go_num, HM.out⟩
          case measure => simp [intOf]; omega
    · have hd2 : decide ((i : Int) < 5) = false := by simp; omega
      obtain rfl : i = 5 := by omega
      have HL5 := Lib.hid (five_len (mulTo_ok a b 5))
      have HM := Lib.hid hm
      clear hm HA HBB
      generalize mulTo a b 5 = O at *
      go_wp2_with ((first
        | (with_reducible refine Hold.load HM.out 3 (cs := numsV O) rfl rfl rfl rfl (Part.all _) (by rw [HL5.out]; exact row_poly) ?_)
        | (with_reducible refine (R1.out _).mono ?_; rintro e w ⟨rfl, hb⟩; replace HM := Lib.hid (HM.out.next hb); clear hb)
        | (with_reducible refine Hold.store HM.out 2 (v' := numsV C) rfl rfl rfl rfl rfl (by rw [Nat.zero_add, HL.out, zeroP_length]; exact Nat.le_refl _) (lay_all (zeroP_length.trans HL.out.symm)) (single_nums _) (by rw [HL.out]; exact row_poly) ?_; clear HM; intro w HM; simp only [List.set_cons_zero, List.set_cons_succ] at HM; replace HM := Lib.hid HM)))
      exact bodyPost_ret (Hold.results1 HM.out 2 rfl _ rfl rfl (by rw [HL.out]; exact row_poly)) rfl ⟨rfl, HM.out.below⟩
end Go.Proofs.Ytcglobpklhkebab.RefPoly

namespace Go.Proofs.Ytcglobpklhkebab.RefPoly
open Go.RowKit Mur Lanes Poly
set_option maxRecDepth 100000

theorem mod_more (R k : Nat) : R % 2 ^ (k + 1) = R % 2 ^ k + 2 ^ k * (R / 2 ^ k % 2) := by
  rw [Nat.pow_succ, Nat.mod_mul]
theorem piece_other (R k i : Nat) (h : i ≠ k / 26) : R % 2 ^ (k + 1) / 2 ^ (26 * i) % 67108864 = R % 2 ^ k / 2 ^ (26 * i) % 67108864 := by
  rcases Nat.lt_or_ge (k / 26) i with g | g
  · have h1 : R % 2 ^ (k + 1) < 2 ^ (26 * i) := Nat.lt_of_lt_of_le (Nat.mod_lt _ (Nat.pow_pos (by decide))) (Nat.pow_le_pow_right (by decide) (by omega))
    have h2 : R % 2 ^ k < 2 ^ (26 * i) := Nat.lt_of_lt_of_le (Nat.mod_lt _ (Nat.pow_pos (by decide))) (Nat.pow_le_pow_right (by decide) (by omega))
    rw [Nat.div_eq_of_lt h1, Nat.div_eq_of_lt h2]
  · rw [mod_more]
    obtain ⟨c, hc⟩ : ∃ c, k = 26 * i + (26 + c) := ⟨k - 26 * i - 26, by omega⟩
    have e : 2 ^ k * (R / 2 ^ k % 2) = 2 ^ (26 * i) * (67108864 * (2 ^ c * (R / 2 ^ k % 2))) := by
      generalize R / 2 ^ k % 2 = b
      rw [hc, Nat.pow_add, Nat.pow_add 2 26 c, Nat.mul_assoc, Nat.mul_assoc]
    rw [e, Nat.add_mul_div_left _ _ (Nat.pow_pos (by decide)), Nat.add_mul_mod_self_left]
theorem piece_here (R k : Nat) : R % 2 ^ (k + 1) / 2 ^ (26 * (k / 26)) % 67108864 = R % 2 ^ k / 2 ^ (26 * (k / 26)) % 67108864 + 2 ^ (k % 26) * (R / 2 ^ k % 2) ∧ R % 2 ^ k / 2 ^ (26 * (k / 26)) % 67108864 < 2 ^ (k % 26) := by
  have hk : k = 26 * (k / 26) + k % 26 := by omega
  have hm : R % 2 ^ k < 2 ^ (26 * (k / 26)) * 2 ^ (k % 26) := by
    rw [← Nat.pow_add, ← hk]
    exact Nat.mod_lt _ (Nat.pow_pos (by decide))
  have hd : R % 2 ^ k / 2 ^ (26 * (k / 26)) < 2 ^ (k % 26) := Nat.div_lt_of_lt_mul hm
  have h8 : 2 ^ (k % 26) ≤ 33554432 := Nat.pow_le_pow_right (n := 2) (by decide) (show k % 26 ≤ 25 by omega)
  have e : 2 ^ k * (R / 2 ^ k % 2) = 2 ^ (26 * (k / 26)) * (2 ^ (k % 26) * (R / 2 ^ k % 2)) := by
    rw [← Nat.mul_assoc, ← Nat.pow_add, ← hk]
  have hb : 2 ^ (k % 26) * (R / 2 ^ k % 2) ≤ 2 ^ (k % 26) := by
    have : R / 2 ^ k % 2 ≤ 1 := by omega
    exact Nat.le_trans (Nat.mul_le_mul_left _ this) (by omega)
  rw [mod_more, e, Nat.add_mul_div_left _ _ (Nat.pow_pos (by decide))]
  generalize R % 2 ^ k / 2 ^ (26 * (k / 26)) = x at *
  generalize 2 ^ (k % 26) * (R / 2 ^ k % 2) = y at *
  generalize 2 ^ (k % 26) = z at *
  omega

/-- The limbs of a number's lowest n bits. -/
def gl (R n : Nat) : List Nat := (List.range 5).map fun j => R % 2 ^ n / 2 ^ (26 * j) % 67108864
theorem gl_length (R n : Nat) : (gl R n).length = 5 := by simp [gl]
theorem gl_at (R n j : Nat) (h : j < 5) : (gl R n).getD j 0 = R % 2 ^ n / 2 ^ (26 * j) % 67108864 := by
  unfold gl
  simp [List.getD, h]
theorem gl_lt (R n j : Nat) : (gl R n).getD j 0 < 67108864 := by
  by_cases h : j < 5
  · rw [gl_at _ _ _ h]
    exact Nat.mod_lt _ (by decide)
  · have : (gl R n)[j]? = none := List.getElem?_eq_none (by rw [gl_length]; omega)
    rw [List.getD, this]
    decide
theorem list_ext5 {X Y : List Nat} (hx : X.length = 5) (hy : Y.length = 5) (h : ∀ j, j < 5 → X.getD j 0 = Y.getD j 0) : X = Y := by
  refine List.ext_getElem (hx.trans hy.symm) fun i h1 h2 => ?_
  have := h i (by omega)
  rw [List.getD, List.getD, List.getElem?_eq_getElem h1, List.getElem?_eq_getElem h2] at this
  exact this
theorem gl_zero (R : Nat) : gl R 0 = zeros := by
  refine list_ext5 (gl_length _ _) rfl fun j hj => ?_
  rw [gl_at _ _ _ hj, Nat.pow_zero, Nat.mod_one, Nat.zero_div, Nat.zero_mod]
  match j, hj with
  | 0, _ => rfl
  | 1, _ => rfl
  | 2, _ => rfl
  | 3, _ => rfl
  | 4, _ => rfl
theorem gl_same (R k : Nat) (h : R / 2 ^ k % 2 = 0) : gl R (k + 1) = gl R k := by
  unfold gl
  rw [mod_more, h, Nat.mul_zero, Nat.add_zero]
theorem gl_over (R k : Nat) (h : 130 ≤ k) : gl R (k + 1) = gl R k := by
  refine list_ext5 (gl_length _ _) (gl_length _ _) fun j hj => ?_
  rw [gl_at _ _ _ hj, gl_at _ _ _ hj, piece_other R k j (by omega)]
theorem gl_next (R k : Nat) (hk : k < 130) (h : R / 2 ^ k % 2 = 1) : (gl R k).set (k / 26) ((gl R k).getD (k / 26) 0 ||| 2 ^ (k % 26)) = gl R (k + 1) := by
  refine list_ext5 (by rw [List.length_set, gl_length]) (gl_length _ _) fun j hj => ?_
  have hq : k / 26 < 5 := by omega
  rw [gl_at _ _ _ hj, gl_at _ _ _ hq]
  by_cases e : j = k / 26
  · subst e
    obtain ⟨g1, g2⟩ := piece_here R k
    have hl : k / 26 < (gl R k).length := by rw [gl_length]; exact hq
    rw [g1, h, Nat.mul_one]
    have h3 := or_add (R % 2 ^ k / 2 ^ (26 * (k / 26)) % 67108864) 1 (k % 26) g2
    rw [Nat.one_mul] at h3
    rw [h3]
    simp [List.getD, hl]
  · rw [List.getD, List.getElem?_set_ne (Ne.symm e), ← List.getD, gl_at _ _ _ hj, piece_other R k j e]
theorem num_byte (d : List UInt8) : Limb.num d % 256 = byt d 0 := by
  cases d with
  | nil => rfl
  | cons x t =>
    have h1 := Limb.lowN_split (x :: t) 1 t.length
    rw [show 1 + t.length = (x :: t).length by simp; omega] at h1
    have h2 : Limb.num (x :: t) = lowN (x :: t) 1 + 2 ^ (8 * 1) * lowN ((x :: t).drop 1) t.length := h1
    have h3 : lowN (x :: t) 1 = byt (x :: t) 0 := by simp [lowN]
    have h4 := byt_lt (x :: t) 0
    rw [h2, h3]
    omega
theorem byt_num (l : List UInt8) (j : Nat) : byt l j = Limb.num l / 2 ^ (8 * j) % 256 := by
  by_cases h : j ≤ l.length
  · rw [Limb.num_drop _ _ h, num_byte, Limb.byt_drop, Nat.add_zero]
  · have e : byt l j = 0 := by simp [byt, List.getD, show l.length ≤ j by omega]
    have h1 := Limb.num_lt l
    have h2 : Limb.num l < 2 ^ (8 * j) := Nat.lt_of_lt_of_le h1 (Nat.pow_le_pow_right (by decide) (by omega))
    rw [e, Nat.div_eq_of_lt h2]
theorem bit_all (l : List UInt8) (K : Nat) : bit l (K : Int) = Limb.num l / 2 ^ K % 2 := by
  have e1 : ((K : Int) / 8).toNat = K / 8 := by omega
  have e2 : ((K : Int) % 8).toNat = K % 8 := by omega
  have hb : bit l (K : Int) = byt l (K / 8) / 2 ^ (K % 8) % 2 := by
    unfold bit
    rw [e1, e2]
    split
    · rename_i h
      have : l.length ≤ K / 8 := by omega
      have e : byt l (K / 8) = 0 := by simp [byt, List.getD, this]
      rw [e]; simp
    · rfl
  have e : (256 : Nat) = 2 ^ (K % 8) * (2 * 2 ^ (7 - K % 8)) := by
    rw [← Nat.pow_succ', ← Nat.pow_add, show K % 8 + (7 - K % 8 + 1) = 8 by omega]
  rw [hb, byt_num, e, Nat.mod_mul_right_div_self, Nat.mod_mod_of_dvd _ (Nat.dvd_mul_right _ _), Nat.div_div_eq_div_mul, ← Nat.pow_add, Nat.div_add_mod]
theorem limb_gl (l : List UInt8) (k : Nat) : low (l.drop (min (26 * k / 8) l.length)) / 2 ^ (26 * k % 8) % 67108864 = Limb.num l % 2 ^ (8 * l.length) / 2 ^ (26 * k) % 67108864 := by
  have h1 := Limb.num_lt l
  rw [Nat.mod_eq_of_lt h1, Limb.low_num]
  by_cases h : 26 * k / 8 ≤ l.length
  · rw [Nat.min_eq_left h, ← Limb.num_drop _ _ h]
    have h64 : (18446744073709551616 : Nat) = 2 ^ (26 * k % 8) * (67108864 * 2 ^ (38 - 26 * k % 8)) := by
      rw [show (67108864 : Nat) = 2 ^ 26 from rfl, ← Nat.pow_add, ← Nat.pow_add, show 26 * k % 8 + (26 + (38 - 26 * k % 8)) = 64 by omega]
    rw [h64, Nat.mod_mul_right_div_self, Nat.mod_mod_of_dvd _ (Nat.dvd_mul_right _ _), Nat.div_div_eq_div_mul, ← Nat.pow_add, Nat.div_add_mod]
  · have h2 : Limb.num l < 2 ^ (26 * k) := Nat.lt_of_lt_of_le h1 (Nat.pow_le_pow_right (by decide) (by omega))
    have e : l.drop (min (26 * k / 8) l.length) = [] := List.drop_eq_nil_of_le (by omega)
    rw [Nat.div_eq_of_lt h2, e]
    show 0 % 18446744073709551616 / _ % _ = _
    rw [Nat.zero_mod, Nat.zero_div]
theorem limbs_gl (l : List UInt8) : limbs l = gl (Limb.num l) (8 * l.length) := by
  have e : limbs l = (List.range 5).map fun k => low (l.drop (min (26 * k / 8) l.length)) / 2 ^ (26 * k % 8) % 67108864 := rfl
  rw [e]
  unfold gl
  exact List.map_congr_left fun k _ => limb_gl l k
end Go.Proofs.Ytcglobpklhkebab.RefPoly

namespace Go.Proofs.Ytcglobpklhkebab.RefPoly
open Go.RowKit Mur Lanes Poly Hold
set_option maxRecDepth 100000

theorem gl_five (R n : Nat) : Five (gl R n) := ⟨gl_length R n, fun x hx => by
  simp only [gl, List.mem_map] at hx
  obtain ⟨j, _, rfl⟩ := hx
  exact Nat.lt_of_lt_of_le (Nat.mod_lt _ (by decide)) (by decide)⟩

set_option maxHeartbeats 6400000 in
theorem limbs26_any (s : ByteArray) (C : List Nat) (w0 : World) (hs : s.size ≤ 1048576) (hC : C = limbs s.data.toList) :
    Calls Try.prog 21 #[.string s] w0 fun r w' => r = .returned (.agg (numsV C).toArray) ∧ Below w0.heap.size w0 w' := by
  obtain ⟨R, hR⟩ : ∃ R, R = Limb.num s.data.toList := ⟨_, rfl⟩
  have hC2 : gl R (8 * s.size) = C := by rw [hC, limbs_gl, hR]; rfl
  have rb := fun (n : Nat) (hn : n ≤ 9223372036854775807) u => RefOne.bit_any s (n : Int) u (by omega) (by omega) (by omega)
  have hbit : ∀ n : Nat, bit s.data.toList (n : Int) = R / 2 ^ n % 2 := fun n => by rw [hR]; exact bit_all _ n
  have RB := Lib.hid rb
  have HBIT := Lib.hid hbit
  have HC := Lib.hid hC2
  have hg0 := gl_zero R
  have HG0 := Lib.hid (show numsV (gl R 0) = zeroP by rw [hg0]; rfl)
  have HM := Lib.hid (Hld.start w0)
  clear hC hC2 rb hbit hR hg0
  go_enter Try.func21, Try.ntmps21
  go_wp2_with ((first
    | (with_reducible refine Hold.alloc (m := []) HM.out rfl rfl zeroP zero_poly ?_; clear HM; intro br w HM; simp only [List.nil_append] at HM; replace HM := Lib.hid HM)
    | (with_reducible refine Hold.alloc (m := [_]) HM.out rfl rfl zeroP zero_poly ?_; clear HM; intro bp w HM; simp only [List.nil_append, List.cons_append] at HM; replace HM := Lib.hid HM)))
  go_loopw [4, 5, 6, 9] (fun _ _ _ i wr => ∃ k : Nat, k ≤ s.size ∧ i = .int .i64 k ∧ Hld w0 [⟨br, 44, zeroP⟩, ⟨bp, 44, numsV (gl R (8 * k))⟩] wr) (fun _ _ _ i _ => s.size - (intOf i).toNat)
  case atStart => exact ⟨0, by omega, rfl, by rw [Nat.mul_zero, HG0.out]; exact HM.out⟩
  case round =>
    obtain ⟨i, hi, rfl, hm⟩ := hrel
    clear HM
    have HM := Lib.hid hm
    clear hm
    by_cases hlt : i < s.size
    · have hd2 : decide ((i : Int) < (s.size : Int)) = true := by simp; omega
      go_upto_region 5 with (fail)
      go_wp2
      go_loopw [5, 6, 12] (fun _ _ j w' => ∃ k : Nat, k ≤ 8 ∧ j = .int .i64 k ∧ Hld w0 [⟨br, 44, zeroP⟩, ⟨bp, 44, numsV (gl R (8 * i + k))⟩] w') (fun _ _ j _ => 8 - (intOf j).toNat)
      case atStart => exact ⟨0, by omega, rfl, HM.out⟩
      case round =>
        obtain ⟨k, hk, rfl, hm⟩ := hrel
        clear HM
        have HM := Lib.hid hm
        clear hm
        by_cases hlk : k < 8
        · have hd3 : decide ((k : Int) < 8) = true := by simp; omega
          obtain ⟨n, hn⟩ : ∃ n, n = 8 * i + k := ⟨_, rfl⟩
          have hni : 8 * (i : Int) + (k : Int) = (n : Int) := by omega
          have hnx : 8 * i + (k + 1) = n + 1 := by omega
          have R1 := Lib.hid (RB.out n (by omega))
          have hm := HM.out
          clear HM
          rw [← hn] at hm
          have hb := HBIT.out n
          have hb2 : R / 2 ^ n % 2 < 2 := Nat.mod_lt _ (by decide)
          obtain ⟨b, hbb⟩ : ∃ b, b = bit s.data.toList (n : Int) := ⟨_, rfl⟩
          rw [← hbb] at R1 hb
          rw [← hb] at hb2
          have HM := Lib.hid hm
          have HNX := Lib.hid hnx
          have HNI := Lib.hid hni
          by_cases h1 : b = 1
          · have t1 : ((b : Int) == 1) = true := by rw [h1]; rfl
            by_cases h130 : n < 130
            · have t2 : decide ((n : Int) < 130) = true := by simp; omega
              have hnext := gl_next R n h130 (hb.symm.trans h1)
              obtain ⟨j, hj⟩ : ∃ l, l = n / 26 := ⟨_, rfl⟩
              obtain ⟨r, hr⟩ : ∃ l, l = n % 26 := ⟨_, rfl⟩
              have hji : (n : Int) / 26 = (j : Int) := by omega
              have hri : (n : Int) % 26 = (r : Int) := by omega
              have ij : (j : Int) < 5 := by omega
              have ir : (r : Int) < 26 := by omega
              rw [← hj, ← hr] at hnext
              have hlA : (gl R n).length = 5 := gl_length R n
              have hyl := gl_lt R n j
              obtain ⟨A, hA⟩ : ∃ A, A = gl R n := ⟨_, rfl⟩
              obtain ⟨B, hB⟩ : ∃ A, A = gl R (n + 1) := ⟨_, rfl⟩
              have hm := HM.out
              clear HM
              rw [← hA] at hnext hlA hyl hm
              rw [← hB] at hnext
              obtain ⟨y, hy⟩ : ∃ y, y = A.getD j 0 := ⟨_, rfl⟩
              rw [← hy] at hnext hyl
              have gy : (numsV A)[j]? = some (.int .u64 (y : Int)) := by rw [hy]; exact nums_get (by omega)
              have hrl : 2 ^ r < 67108864 := Nat.lt_of_le_of_lt (Nat.pow_le_pow_right (n := 2) (by decide) (show r ≤ 25 by omega)) (by decide)
              obtain ⟨pw, hpw⟩ : ∃ p, p = 2 ^ r := ⟨_, rfl⟩
              rw [← hpw] at hnext hrl
              have hc : (2 : Int) ^ r = (pw : Int) := by rw [hpw, Int.natCast_pow]; rfl
              have e4 : IntKind.u64.wrap (pw : Int) = (pw : Int) := by rw [IntKind.wrap_u64]; omega
              obtain ⟨z, hz⟩ : ∃ z, z = y ||| pw := ⟨_, rfl⟩
              have e3 : bits .or .u64 (y : Int) (pw : Int) = (z : Int) := by rw [or_u64 _ _ (by omega) (by omega), hz]
              have hset : (numsV A).set j (.int .u64 (z : Int)) = numsV B := by rw [numsV_set, hz, hnext]
              have hjv : j < (numsV A).length := by rw [numsV_length]; omega
              have HM := Lib.hid hm
              have GY := Lib.hid gy
              have E3 := Lib.hid e3
              have E4 := Lib.hid e4
              have HCC := Lib.hid hc
              have HSET := Lib.hid hset
              have HJV := Lib.hid hjv
              have HJI := Lib.hid hji
              have HRI := Lib.hid hri
              have HB := Lib.hid hB
              have RL := Lib.hid hrl
              clear hn hb hb2 hbb h1 hj hr hji hri hnext hlA hA hB hm hy hyl hz gy e3 e4 hc hpw hset hjv hrl hnx h130 hni
              go_upto_region 8 with (fail)
              have hni := HNI.out
              go_upto_region 9 with (fail)
              clear hni
              go_upto_region 10 with ((with_reducible refine (R1.out _).mono ?_; rintro e w1 ⟨rfl, rfl⟩))
              have hji := HJI.out
              have hri := HRI.out
              have e3 := E3.out
              have e4 := E4.out
              have hc := HCC.out
              go_upto_region 11 with ((first
                | (with_reducible refine Hold.load1 HM.out 1 (c := .int .u64 (y : Int)) rfl rfl rfl rfl (GY.out) (cell_u64) ?_)
                | (with_reducible refine Hold.store1 HM.out 1 (c := .int .u64 (z : Int)) (v' := numsV B) rfl rfl rfl rfl rfl (HJV.out) (HSET.out) (Hold.cell_int _ _) (cell_u64) ?_; clear HM; intro w HM; simp only [List.set_cons_zero, List.set_cons_succ] at HM; replace HM := Lib.hid HM)))
              clear hji hri e3 e4 hc
              go_wp2
              go_roundw
              case rel => exact ⟨k + 1, by omega, by go_num, by rw [HNX.out, ← HB.out]; exact HM.out⟩
              case measure => simp [intOf]; omega
            · have t2 : decide ((n : Int) < 130) = false := by simp; omega
              have HB := Lib.hid (gl_over R n (by omega))
              clear hn hb hb2 hbb h1 hnx h130 hm hni
              go_upto_region 8 with (fail)
              have hni := HNI.out
              go_upto_region 9 with (fail)
              clear hni
              go_wp2_with ((with_reducible refine (R1.out _).mono ?_; rintro e w1 ⟨rfl, rfl⟩))
              go_roundw
              case rel => exact ⟨k + 1, by omega, by go_num, by rw [HNX.out, HB.out]; exact HM.out⟩
              case measure => simp [intOf]; omega
          · have h0 : b = 0 := by omega
            have t1 : ((b : Int) == 1) = false := by rw [h0]; rfl
            have HB := Lib.hid (gl_same R n (hb.symm.trans h0))
            clear hn hb hb2 hbb h0 h1 hnx hm hni
            go_upto_region 8 with (fail)
            have hni := HNI.out
            go_upto_region 9 with (fail)
            clear hni
            go_wp2_with ((with_reducible refine (R1.out _).mono ?_; rintro e w1 ⟨rfl, rfl⟩))
            go_roundw
            case rel => exact ⟨k + 1, by omega, by go_num, by rw [HNX.out, HB.out]; exact HM.out⟩
            case measure => simp [intOf]; omega
        · have hd3 : decide ((k : Int) < 8) = false := by simp; omega
          obtain rfl : k = 8 := by omega
          go_wp2
          go_roundw
          case rel => exact ⟨i + 1, by omega, by go_num, HM.out⟩
          case measure => simp [intOf]; omega
    · have hd2 : decide ((i : Int) < (s.size : Int)) = false := by simp; omega
      obtain rfl : i = s.size := by omega
      have hm := HM.out
      have hL := five_len (gl_five R (8 * s.size))
      rw [HC.out] at hm hL
      have HL := Lib.hid hL
      have HM := Lib.hid hm
      clear hm hL RB HBIT HC HG0
      go_wp2_with ((first
        | (with_reducible refine Hold.load HM.out 1 (cs := numsV C) rfl rfl rfl rfl (Part.all _) (by rw [HL.out]; exact row_poly) ?_)
        | (with_reducible refine Hold.store HM.out 0 (v' := numsV C) rfl rfl rfl rfl rfl (by rw [Nat.zero_add, HL.out, zeroP_length]; exact Nat.le_refl _) (lay_all (zeroP_length.trans HL.out.symm)) (single_nums _) (by rw [HL.out]; exact row_poly) ?_; clear HM; intro w HM; simp only [List.set_cons_zero] at HM; replace HM := Lib.hid HM)))
      exact bodyPost_ret (Hold.results1 HM.out 0 rfl _ rfl rfl (by rw [HL.out]; exact row_poly)) rfl ⟨rfl, HM.out.below⟩
end Go.Proofs.Ytcglobpklhkebab.RefPoly

namespace Go.Proofs.Ytcglobpklhkebab.RefPoly
open Go.RowKit Mur Lanes Poly Hold
set_option maxRecDepth 100000

theorem cell_u8 : TyCell Try.prog 5 := ⟨_, Try.underlying5, rfl, by kernel_rfl⟩
def zeroV (n : Nat) : List Value := bytesV (List.replicate n 0)
theorem made_cells (n : Nat) : madeCells #[.int .u8 0] n = (zeroV n).toArray := by
  refine Array.ext (by simp [madeCells, zeroV, bytesV]) fun i h1 h2 => ?_
  simp [madeCells, zeroV, bytesV, u8, Nat.mod_one]
/-- 5 is added, and what is over goes on, below limb k. -/
def qTo (Y : List Nat) : Nat → List Nat
  | 0 => Y.set 0 ((Y.getD 0 0 + 5) % 18446744073709551616)
  | k + 1 => ((qTo Y k).set (k + 1) (((qTo Y k).getD (k + 1) 0 + (qTo Y k).getD k 0 / 67108864) % 18446744073709551616)).set k ((qTo Y k).getD k 0 % 67108864)
theorem qTo_ok {Y : List Nat} (h : Five Y) (k : Nat) : Five (qTo Y k) := by
  induction k with
  | zero => exact h.set _ _ (Nat.mod_lt _ (by decide))
  | succ k ih => exact (ih.set _ _ (Nat.mod_lt _ (by decide))).set _ _ (Nat.lt_of_lt_of_le (Nat.mod_lt _ (by decide)) (by decide))
def pick (Y : List Nat) : List Nat := if 0 < (qTo Y 4).getD 4 0 / 67108864 then (qTo Y 4).set 4 ((qTo Y 4).getD 4 0 % 67108864) else Y
/-- The lowest i bytes of a number, of sixteen. -/
def sumTo (U i : Nat) : List UInt8 := (List.range 16).map fun j => if j < i then UInt8.ofNat (U / 2 ^ (8 * j)) else 0
theorem sumTo_length (U i : Nat) : (sumTo U i).length = 16 := by simp [sumTo]
theorem sumTo_zero (U : Nat) : sumTo U 0 = List.replicate 16 0 := by simp [sumTo, List.map_const']
theorem sumTo_next (U i : Nat) (_ : i < 16) : (sumTo U i).set i (UInt8.ofNat (U / 2 ^ (8 * i))) = sumTo U (i + 1) := by
  refine List.ext_getElem (by simp [sumTo]) fun j h1 h2 => ?_
  by_cases e : j = i
  · subst e
    simp [sumTo]
  · rw [List.getElem_set_ne (Ne.symm e)]
    simp only [sumTo, List.getElem_map, List.getElem_range]
    by_cases h : j < i
    · rw [if_pos h, if_pos (by omega)]
    · rw [if_neg h, if_neg (by omega)]
def cy (V N i : Nat) : Nat := (V % 2 ^ (8 * i) + N % 2 ^ (8 * i)) / 2 ^ (8 * i)
theorem cy_step (V N i : Nat) : (cy V N i + (V / 2 ^ (8 * i) % 256 + N / 2 ^ (8 * i) % 256)) / 256 = cy V N (i + 1) ∧ (cy V N i + (V / 2 ^ (8 * i) % 256 + N / 2 ^ (8 * i) % 256)) % 256 = (V + N) / 2 ^ (8 * i) % 256 ∧ cy V N i ≤ 1 := by
  unfold cy
  have hp : (2 : Nat) ^ (8 * (i + 1)) = 2 ^ (8 * i) * 256 := by rw [Nat.mul_add, Nat.pow_add]
  have hpos : 0 < (2 : Nat) ^ (8 * i) := Nat.pow_pos (by decide)
  rw [hp]
  generalize (2 : Nat) ^ (8 * i) = p at *
  have hV := Nat.mod_mul (a := p) (b := 256) (x := V)
  have hN := Nat.mod_mul (a := p) (b := 256) (x := N)
  have eV := Nat.div_add_mod V (p * 256)
  have eN := Nat.div_add_mod N (p * 256)
  have t1 : (V % p + N % p) / p + (V / p % 256 + N / p % 256) = (V % (p * 256) + N % (p * 256)) / p := by
    rw [hV, hN, show V % p + p * (V / p % 256) + (N % p + p * (N / p % 256)) = V % p + N % p + p * (V / p % 256 + N / p % 256) by rw [Nat.mul_add]; omega, Nat.add_mul_div_left _ _ hpos]
  have t2 : (V + N) / p = (V % (p * 256) + N % (p * 256)) / p + 256 * (V / (p * 256) + N / (p * 256)) := by
    conv => lhs; rw [← eV, ← eN]
    rw [show p * 256 * (V / (p * 256)) + V % (p * 256) + (p * 256 * (N / (p * 256)) + N % (p * 256)) = V % (p * 256) + N % (p * 256) + p * (256 * (V / (p * 256) + N / (p * 256))) by rw [Nat.mul_add, Nat.mul_add, ← Nat.mul_assoc, ← Nat.mul_assoc]; omega, Nat.add_mul_div_left _ _ hpos]
  rw [t1]
  refine ⟨by rw [Nat.div_div_eq_div_mul], by rw [t2, Nat.add_mul_mod_self_left], ?_⟩
  have m1 := Nat.mod_lt V hpos
  have m2 := Nat.mod_lt N hpos
  have : (V % p + N % p) / p < 2 := Nat.div_lt_of_lt_mul (by omega)
  omega
end Go.Proofs.Ytcglobpklhkebab.RefPoly

namespace Go.Proofs.Ytcglobpklhkebab.RefPoly
open Go.RowKit Mur Lanes Poly Hold
set_option maxRecDepth 100000

theorem made16 (u : World) : (Instr.makeSlice 43 (.int .i64 16) (.int .i64 16)).run Try.prog u = .ok (.slice (some ⟨u.heap.size, 0, none⟩) 16 16) (u.alloc (.cells (zeroV 16).toArray 5)) := by
  have := make_u8 u 16 (by omega)
  rw [made_cells 16] at this
  exact this
theorem byt_here (V i : Nat) (k : Nat) : V / 2 ^ (8 * i) % 2 ^ (k + 1) = V / 2 ^ (8 * i) % 2 ^ k ||| V / 2 ^ (8 * i + k) % 2 * 2 ^ k := by
  rw [mod_more, or_add _ _ _ (Nat.mod_lt _ (Nat.pow_pos (by decide))), Nat.div_div_eq_div_mul, ← Nat.pow_add, Nat.mul_comm (2 ^ k)]
theorem gl_bit (V n : Nat) (hn : n < 128) : (gl V 130).getD (n / 26) 0 / 2 ^ (n % 26) % 2 = V / 2 ^ n % 2 := by
  rw [gl_at _ _ _ (by omega)]
  have e : (67108864 : Nat) = 2 ^ (n % 26) * (2 * 2 ^ (25 - n % 26)) := by
    rw [← Nat.pow_succ', ← Nat.pow_add, show n % 26 + (25 - n % 26 + 1) = 26 by omega]
  rw [e, Nat.mod_mul_right_div_self, Nat.mod_mod_of_dvd _ (Nat.dvd_mul_right 2 _), Nat.div_div_eq_div_mul, ← Nat.pow_add, Nat.div_add_mod]
  have e2 : (2 : Nat) ^ 130 = 2 ^ n * (2 * 2 ^ (129 - n)) := by
    rw [← Nat.pow_succ', ← Nat.pow_add, show n + (129 - n + 1) = 130 by omega]
  rw [e2, Nat.mod_mul_right_div_self, Nat.mod_mod_of_dvd _ (Nat.dvd_mul_right 2 _)]

theorem cy_zero (V N : Nat) : cy V N 0 = 0 := by simp [cy, Nat.mod_one]
set_option maxHeartbeats 6400000 in
theorem bytes_any (D Y V5 : List Nat) (V : Nat) (s T : ByteArray) (w0 : World) (hD : Five D) (hY : Y = fold (fold (fold (fold D)))) (hP : pick Y = V5) (hV : V5 = gl V 130) (hs : s.size = 16) (hT : T = ⟨(sumTo (V + Limb.num s.data.toList) 16).toArray⟩) :
    Calls Try.prog 23 #[.agg (numsV D).toArray, .string s] w0 fun r w' => r = .returned (.string T) ∧ Below w0.heap.size w0 w' := by
  obtain ⟨E, hE⟩ : ∃ E, E = fold (fold D) := ⟨_, rfl⟩
  have hEok : Five E := by rw [hE]; exact fold_ok (fold_ok hD)
  rw [← hE] at hY
  have hYok : Five Y := by rw [hY]; exact fold_ok (fold_ok hEok)
  have R1 := Lib.hid (fun u => carried_any D E u hD hE)
  have R2 := Lib.hid (fun u => carried_any E Y u hEok hY)
  have HDL := Lib.hid (five_len hD)
  have HYL := Lib.hid (five_len hYok)
  have HY := Lib.hid hYok
  have HP := Lib.hid hP
  have HV := Lib.hid hV
  have HT := Lib.hid hT
  have HS := Lib.hid hs
  have HMK := Lib.hid made16
  have HM := Lib.hid (Hld.start w0)
  clear hD hE hEok hY hYok hP hV hT hs
  go_enter Try.func23, Try.ntmps23
  go_upto_region 2 with ((first
    | (with_reducible refine Hold.box HM.out rfl rfl rfl ?_; clear HM; intro ba w HM; simp only [List.nil_append] at HM; replace HM := Lib.hid HM)
    | (with_reducible refine Hold.load HM.out 0 (cs := numsV D) rfl rfl rfl rfl (Part.all _) (by rw [HDL.out]; exact row_poly) ?_)
    | (with_reducible refine (R1.out _).mono ?_; rintro e w ⟨rfl, hb⟩; replace HM := Lib.hid (HM.out.next hb); clear hb)
    | (with_reducible refine (R2.out _).mono ?_; rintro e w ⟨rfl, hb⟩; replace HM := Lib.hid (HM.out.next hb); clear hb)
    | (with_reducible refine Hold.store HM.out 0 (v' := numsV Y) rfl rfl rfl rfl rfl (by rw [Nat.zero_add, HYL.out, HDL.out]; exact Nat.le_refl _) (lay_all (HDL.out.trans HYL.out.symm)) (single_nums _) (by rw [HYL.out]; exact row_poly) ?_; clear HM; intro w HM; simp only [List.set_cons_zero] at HM; replace HM := Lib.hid HM)))
  go_upto_region 3 with ((first
    | (with_reducible refine Hold.load HM.out 0 (cs := numsV Y) rfl rfl rfl rfl (Part.all _) (by rw [HYL.out]; exact row_poly) ?_)
    | (with_reducible refine Hold.alloc HM.out rfl rfl zeroP zero_poly ?_; clear HM; intro bq w HM; simp only [List.nil_append, List.cons_append] at HM; replace HM := Lib.hid HM)
    | (with_reducible refine Hold.store HM.out 1 (v' := numsV Y) rfl rfl rfl rfl rfl (by rw [Nat.zero_add, HYL.out, zeroP_length]; exact Nat.le_refl _) (lay_all (zeroP_length.trans HYL.out.symm)) (single_nums _) (by rw [HYL.out]; exact row_poly) ?_; clear HM; intro w HM; simp only [List.set_cons_zero, List.set_cons_succ] at HM; replace HM := Lib.hid HM)))
  obtain ⟨y, hy⟩ : ∃ y, y = Y.getD 0 0 := ⟨_, rfl⟩
  obtain ⟨v, hv⟩ : ∃ v, v = (y + 5) % 18446744073709551616 := ⟨_, rfl⟩
  have e1 : IntKind.u64.wrap ((y : Int) + 5) = (v : Int) := by rw [IntKind.wrap_u64]; omega
  have gy : (numsV Y)[0]? = some (.int .u64 (y : Int)) := by rw [hy]; exact nums_get (by rw [HY.out.1]; decide)
  have hset : (numsV Y).set 0 (.int .u64 (v : Int)) = numsV (qTo Y 0) := by rw [numsV_set, hv, hy]; rfl
  have GY := Lib.hid gy
  have HSET := Lib.hid hset
  have LY := Lib.hid (show 0 < (numsV Y).length by rw [HYL.out]; decide)
  clear hy hv gy hset
  go_upto_region 4 with ((first
    | (with_reducible refine Hold.load1 HM.out 1 (c := .int .u64 (y : Int)) rfl rfl rfl rfl (GY.out) (cell_u64) ?_)
    | (with_reducible refine Hold.store1 HM.out 1 (c := .int .u64 (v : Int)) (v' := numsV (qTo Y 0)) rfl rfl rfl rfl rfl (LY.out) (HSET.out) (Hold.cell_int _ _) (cell_u64) ?_; clear HM; intro w HM; simp only [List.set_cons_zero, List.set_cons_succ] at HM; replace HM := Lib.hid HM)))
  clear e1 GY HSET LY
  go_wp2
  go_loopw [6, 21] (fun _ i wr => ∃ k : Nat, k ≤ 4 ∧ i = .int .i64 k ∧ Hld w0 [⟨ba, 44, numsV Y⟩, ⟨bq, 44, numsV (qTo Y k)⟩] wr) (fun _ i _ => 4 - (intOf i).toNat)
  case atStart => exact ⟨0, by omega, rfl, HM.out⟩
  case round =>
    obtain ⟨i, hi, rfl, hm⟩ := hrel
    clear HM
    have hok := qTo_ok HY.out i
    by_cases hlt : i < 4
    · have hd2 : decide ((i : Int) < 4) = true := by simp; omega
      have ii : (i : Int) < 5 := by omega
      have ii2 : (i : Int) + 1 < 5 := by omega
      obtain ⟨j, hj⟩ : ∃ j, j = i + 1 := ⟨_, rfl⟩
      have hji : (i : Int) + 1 = (j : Int) := by omega
      have ij : (j : Int) < 5 := by omega
      have w1 : IntKind.i64.wrap (j : Int) = (j : Int) := by rw [IntKind.wrap_i64]; omega
      have hnext : qTo Y (i + 1) = ((qTo Y i).set (i + 1) (((qTo Y i).getD (i + 1) 0 + (qTo Y i).getD i 0 / 67108864) % 18446744073709551616)).set i ((qTo Y i).getD i 0 % 67108864) := rfl
      rw [← hj] at hnext
      generalize qTo Y i = M at *
      obtain ⟨x, hx⟩ : ∃ m, m = M.getD j 0 := ⟨_, rfl⟩
      obtain ⟨y, hy⟩ : ∃ m, m = M.getD i 0 := ⟨_, rfl⟩
      have hlM : M.length = 5 := hok.1
      have hyl : y < 18446744073709551616 := by rw [hy]; exact hok.at i
      rw [← hx, ← hy] at hnext
      obtain ⟨d, hd⟩ : ∃ m, m = y / 67108864 := ⟨_, rfl⟩
      rw [← hd] at hnext
      obtain ⟨v, hv⟩ : ∃ m, m = (x + d) % 18446744073709551616 := ⟨_, rfl⟩
      rw [← hv] at hnext
      obtain ⟨m, hmm⟩ : ∃ m, m = y % 67108864 := ⟨_, rfl⟩
      rw [← hmm] at hnext
      have e1 : (y : Int) / 67108864 = (d : Int) := by omega
      have e2 : IntKind.u64.wrap ((x : Int) + (d : Int)) = (v : Int) := by rw [wrapadd, hv]
      have e3 : bits .and .u64 (y : Int) 67108863 = (m : Int) := by rw [mask_u64 _ hyl, hmm]
      have gx : (numsV M)[j]? = some (.int .u64 (x : Int)) := by rw [hx]; exact nums_get (by omega)
      have gy : (numsV M)[i]? = some (.int .u64 (y : Int)) := by rw [hy]; exact nums_get (by omega)
      have gy2 : (numsV (M.set j v))[i]? = some (.int .u64 (y : Int)) := by
        rw [nums_get (by rw [List.length_set]; omega), hy]
        have : i < M.length := by omega
        simp [List.getD, List.getElem?_set_ne (show j ≠ i by omega)]
      have hs1 : (numsV M).set j (.int .u64 (v : Int)) = numsV (M.set j v) := numsV_set M j v
      have hs2 : (numsV (M.set j v)).set i (.int .u64 (m : Int)) = numsV (qTo Y (i + 1)) := by rw [numsV_set, ← hnext, hj]
      have GX := Lib.hid gx
      have GY := Lib.hid gy
      have GY2 := Lib.hid gy2
      have HS1 := Lib.hid hs1
      have HS2 := Lib.hid hs2
      have L1 := Lib.hid (show j < (numsV M).length by rw [numsV_length]; omega)
      have L2 := Lib.hid (show i < (numsV (M.set j v)).length by rw [numsV_length, List.length_set]; omega)
      have E3 := Lib.hid e3
      have HM := Lib.hid hm
      clear hm gx gy gy2 hs1 hs2 hnext hx hy hd hv hmm e3 hok hlM hyl hj
      go_upto_region 7 with (fail)
      refine Steady.region 10 (by kernel_rfl) (by kernel_rfl) (fun u => Hld _ _ u) HM.out.drew ?_
      simp only [List.take_succ_cons, List.take_zero, List.drop_succ_cons, List.drop_zero]
      refine Steady.take ?_ rfl (by intro u hu; go_simp; with_reducible rfl) ?_
      simp only [Act.put, List.setIfInBounds_toArray, List.set_cons_zero, List.set_cons_succ]
      refine Steady.take ?_ rfl (by intro u hu; go_simp; with_reducible rfl) ?_
      simp only [Act.put, List.setIfInBounds_toArray, List.set_cons_zero, List.set_cons_succ]
      refine Steady.take ?_ rfl (by intro u hu; go_simp; with_reducible rfl) ?_
      simp only [Act.put, List.setIfInBounds_toArray, List.set_cons_zero, List.set_cons_succ]
      refine Steady.take (.int .u64 (x : Int)) rfl (fun u hu => Hold.load1_run hu 1 rfl rfl rfl (GX.out) (cell_u64)) ?_
      simp only [Act.put, List.setIfInBounds_toArray, List.set_cons_zero, List.set_cons_succ]
      refine Steady.take ?_ rfl (by intro u hu; go_simp; with_reducible rfl) ?_
      simp only [Act.put, List.setIfInBounds_toArray, List.set_cons_zero, List.set_cons_succ]
      refine Steady.take ?_ rfl (by intro u hu; go_simp; with_reducible rfl) ?_
      simp only [Act.put, List.setIfInBounds_toArray, List.set_cons_zero, List.set_cons_succ]
      refine Steady.take (.int .u64 (y : Int)) rfl (fun u hu => Hold.load1_run hu 1 rfl rfl rfl (GY.out) (cell_u64)) ?_
      simp only [Act.put, List.setIfInBounds_toArray, List.set_cons_zero, List.set_cons_succ]
      refine Steady.take ?_ rfl (by intro u hu; go_simp; with_reducible rfl) ?_
      simp only [Act.put, List.setIfInBounds_toArray, List.set_cons_zero, List.set_cons_succ]
      refine Steady.take ?_ rfl (by intro u hu; go_simp; with_reducible rfl) ?_
      simp only [Act.put, List.setIfInBounds_toArray, List.set_cons_zero, List.set_cons_succ]
      refine Steady.take ?_ rfl (by intro u hu; go_simp; with_reducible rfl) ?_
      simp only [Act.put, List.setIfInBounds_toArray, List.set_cons_zero, List.set_cons_succ]
      refine Steady.nil ?_
      clear HM
      intro w HM
      replace HM := Lib.hid HM
      go_upto_region 8 with ((first
        | (with_reducible refine Hold.store1 HM.out 1 (c := .int .u64 (v : Int)) (v' := numsV (M.set j v)) rfl rfl rfl rfl rfl (L1.out) (HS1.out) (Hold.cell_int _ _) (cell_u64) ?_; clear HM; intro w HM; simp only [List.set_cons_zero, List.set_cons_succ] at HM; replace HM := Lib.hid HM)))
      clear e1 e2
      have e3 := E3.out
      go_upto_region 9 with ((first
        | (with_reducible refine Hold.load1 HM.out 1 (c := .int .u64 (y : Int)) rfl rfl rfl rfl (GY2.out) (cell_u64) ?_)
        | (with_reducible refine Hold.store1 HM.out 1 (c := .int .u64 (m : Int)) (v' := numsV (qTo Y (i + 1))) rfl rfl rfl rfl rfl (L2.out) (HS2.out) (Hold.cell_int _ _) (cell_u64) ?_; clear HM; intro w HM; simp only [List.set_cons_zero, List.set_cons_succ] at HM; replace HM := Lib.hid HM)))
      clear e3
      go_wp2
      go_roundw
      case rel => exact ⟨i + 1, by omega, by go_num, HM.out⟩
      case measure => simp [intOf]; omega
    · have hd2 : decide ((i : Int) < 4) = false := by simp; omega
      obtain rfl : i = 4 := by omega
      have HM := Lib.hid hm
      clear hm
      obtain ⟨q, hq⟩ : ∃ q, q = (qTo Y 4).getD 4 0 := ⟨_, rfl⟩
      have hql : q < 18446744073709551616 := by rw [hq]; exact hok.at 4
      have hpk := HP.out
      unfold pick at hpk
      have hlQ := hok.1
      obtain ⟨Q, hQ⟩ : ∃ q, q = qTo Y 4 := ⟨_, rfl⟩
      have hm := HM.out
      clear HM
      rw [← hQ] at hq hpk hlQ hm
      rw [← hq] at hpk
      have gq : (numsV Q)[4]? = some (.int .u64 (q : Int)) := by rw [hq]; exact nums_get (by omega)
      obtain ⟨d, hd⟩ : ∃ d, d = q / 67108864 := ⟨_, rfl⟩
      rw [← hd] at hpk
      have e1 : (q : Int) / 67108864 = (d : Int) := by omega
      have GQ := Lib.hid gq
      have HM := Lib.hid hm
      clear hm gq hok hQ
      by_cases hdp : 0 < d
      · have t1 : decide (0 < (d : Int)) = true := by simp; omega
        rw [if_pos hdp] at hpk
        obtain ⟨m, hmm⟩ : ∃ m, m = q % 67108864 := ⟨_, rfl⟩
        have e3 : bits .and .u64 (q : Int) 67108863 = (m : Int) := by rw [mask_u64 _ hql, hmm]
        have hs1 : (numsV Q).set 4 (.int .u64 (m : Int)) = numsV V5 := by rw [numsV_set, hmm, hpk]
        have HS1 := Lib.hid hs1
        have L1 := Lib.hid (show 4 < (numsV Q).length by rw [numsV_length]; omega)
        have HL5 := Lib.hid (show (numsV V5).length = 5 by rw [← hs1, List.length_set, numsV_length]; exact hlQ)
        have E3 := Lib.hid e3
        clear hpk hmm e3 hs1 hq hd hql hlQ
        go_upto_region 11 with ((first
          | (with_reducible refine Hold.load1 HM.out 1 (c := .int .u64 (q : Int)) rfl rfl rfl rfl (GQ.out) (cell_u64) ?_)))
        clear e1
        have e3 := E3.out
        go_upto_region 12 with ((first
          | (with_reducible refine Hold.load1 HM.out 1 (c := .int .u64 (q : Int)) rfl rfl rfl rfl (GQ.out) (cell_u64) ?_)
          | (with_reducible refine Hold.store1 HM.out 1 (c := .int .u64 (m : Int)) (v' := numsV V5) rfl rfl rfl rfl rfl (L1.out) (HS1.out) (Hold.cell_int _ _) (cell_u64) ?_; clear HM; intro w HM; simp only [List.set_cons_zero, List.set_cons_succ] at HM; replace HM := Lib.hid HM)))
        clear e3
        go_upto_region 13 with ((first
          | (with_reducible refine Hold.load HM.out 1 (cs := numsV V5) rfl rfl rfl rfl (Part.all _) (by rw [HL5.out]; exact row_poly) ?_)
          | (with_reducible refine Hold.store HM.out 0 (v' := numsV V5) rfl rfl rfl rfl rfl (by rw [Nat.zero_add, HL5.out, HYL.out]; exact Nat.le_refl _) (lay_all (HYL.out.trans HL5.out.symm)) (single_nums _) (by rw [HL5.out]; exact row_poly) ?_; clear HM; intro w HM; simp only [List.set_cons_zero] at HM; replace HM := Lib.hid HM)))
        obtain ⟨Q, hQ⟩ : ∃ q, q = V5 := ⟨_, rfl⟩
        have hm := HM.out
        clear HM
        have hm : Hld w0 [⟨ba, 44, numsV V5⟩, ⟨bq, 44, numsV Q⟩] w := by rw [hQ]; exact hm
        have HM := Lib.hid hm
        clear hm hQ
        go_upto_region 14 with ((first
          | (with_reducible refine Hold.make (m := [_, _]) (vx := .int .i64 16) (vy := .int .i64 16) HM.out rfl rfl rfl rfl HMK.out ?_; clear HM; intro bs w HM; simp only [List.nil_append, List.cons_append] at HM; replace HM := Lib.hid HM)))
        go_wp2
        obtain ⟨N, hN⟩ : ∃ N, N = Limb.num s.data.toList := ⟨_, rfl⟩
        have HN := Lib.hid hN
        clear hN
        go_loopw [8, 9, 10, 11, 12, 52] (fun c _ _ _ _ i wr => ∃ k : Nat, k ≤ 16 ∧ i = .int .i64 k ∧ c = .int .i64 ((cy V N k : Nat) : Int) ∧ Hld w0 [⟨ba, 44, numsV V5⟩, ⟨bq, 44, numsV Q⟩, ⟨bs, 5, bytesV (sumTo (V + N) k)⟩] wr) (fun _ _ _ _ _ i _ => 16 - (intOf i).toNat)
        case atStart => exact ⟨0, by omega, rfl, by rw [cy_zero]; rfl, by rw [sumTo_zero]; exact HM.out⟩
        case round =>
          obtain ⟨i, hi, rfl, rfl, hm⟩ := hrel
          clear HM
          have HM := Lib.hid hm
          clear hm
          by_cases hlt : i < 16
          · have hd2 : decide ((i : Int) < 16) = true := by simp; omega
            go_upto_region 18 with (fail)
            go_upto_region 19 with (fail)
            go_wp2
            go_loopw [10, 11, 12, 55] (fun b _ _ j w' => ∃ k : Nat, k ≤ 8 ∧ j = .int .i64 k ∧ b = .int .i64 ((V / 2 ^ (8 * i) % 2 ^ k : Nat) : Int) ∧ Hld w0 [⟨ba, 44, numsV V5⟩, ⟨bq, 44, numsV Q⟩, ⟨bs, 5, bytesV (sumTo (V + N) i)⟩] w') (fun _ _ _ j _ => 8 - (intOf j).toNat)
            case atStart => exact ⟨0, by omega, rfl, by rw [Nat.pow_zero, Nat.mod_one]; rfl, HM.out⟩
            case round =>
              obtain ⟨k, hk, rfl, rfl, hm⟩ := hrel
              clear HM
              have HM := Lib.hid hm
              clear hm
              by_cases hlk : k < 8
              · have hd3 : decide ((k : Int) < 8) = true := by simp; omega
                obtain ⟨n, hn⟩ : ∃ n, n = 8 * i + k := ⟨_, rfl⟩
                have hni : 8 * (i : Int) + (k : Int) = (n : Int) := by omega
                obtain ⟨l, hl⟩ : ∃ l, l = n / 26 := ⟨_, rfl⟩
                obtain ⟨sh, hsh⟩ : ∃ l, l = n % 26 := ⟨_, rfl⟩
                have hli : (n : Int) / 26 = (l : Int) := by omega
                have hsi : (n : Int) % 26 = (sh : Int) := by omega
                have il : (l : Int) < 5 := by omega
                have is : (sh : Int) < 26 := by omega
                have hbit := gl_bit V n (by omega)
                have hxl := gl_lt V 130 l
                rw [← hl, ← hsh] at hbit
                rw [← HV.out] at hbit hxl
                obtain ⟨x, hx⟩ : ∃ x, x = V5.getD l 0 := ⟨_, rfl⟩
                have gx : (numsV V5)[l]? = some (.int .u64 (x : Int)) := by rw [hx]; exact nums_get (by rw [HV.out, gl_length]; omega)
                rw [← hx] at hbit hxl
                obtain ⟨v, hv⟩ : ∃ v, v = x / 2 ^ sh := ⟨_, rfl⟩
                rw [← hv] at hbit
                have hvl : v < 67108864 := by
                  have := Nat.div_le_self x (2 ^ sh)
                  omega
                have e1 : (x : Int) / 2 ^ sh = (v : Int) := by rw [hv, Int.natCast_ediv, Int.natCast_pow]; rfl
                obtain ⟨m, hmm⟩ : ∃ m, m = v % 2 := ⟨_, rfl⟩
                have e2 : bits .and .u64 (v : Int) 1 = (m : Int) := by
                  have := bits_and_u64_nat v 1 (by omega) (by decide)
                  rw [Nat.and_one_is_mod, ← hmm] at this
                  exact this
                rw [← hmm] at hbit
                have hm2 : m < 2 := by omega
                have im : (m : Int) < 2 := by omega
                have hnext := byt_here V i k
                rw [← hn, ← hbit] at hnext
                obtain ⟨B, hB⟩ : ∃ B, B = V / 2 ^ (8 * i) % 2 ^ k := ⟨_, rfl⟩
                have hBl : B < 256 := by
                  have h1 : B < 2 ^ k := by rw [hB]; exact Nat.mod_lt _ (Nat.pow_pos (by decide))
                  have h2 : (2 : Nat) ^ k ≤ 128 := Nat.pow_le_pow_right (n := 2) (by decide) (show k ≤ 7 by omega)
                  omega
                rw [← hB] at hnext ⊢
                have hpl : 2 ^ k < 256 := Nat.lt_of_le_of_lt (Nat.pow_le_pow_right (n := 2) (by decide) (show k ≤ 7 by omega)) (by decide)
                obtain ⟨pw, hpw⟩ : ∃ p, p = 2 ^ k := ⟨_, rfl⟩
                rw [← hpw] at hnext hpl
                have hc : (2 : Int) ^ k = (pw : Int) := by rw [hpw, Int.natCast_pow]; rfl
                obtain ⟨y, hy⟩ : ∃ y, y = m * pw := ⟨_, rfl⟩
                rw [← hy] at hnext
                have e5 : (m : Int) * (pw : Int) = (y : Int) := by rw [hy, Int.natCast_mul]
                have hyl : y < 256 := by
                  have : m * pw ≤ 1 * pw := Nat.mul_le_mul_right _ (by omega)
                  omega
                have iy : (y : Int) < 256 := by omega
                have w1 : IntKind.i64.wrap (y : Int) = (y : Int) := by rw [IntKind.wrap_i64]; omega
                obtain ⟨z, hz⟩ : ∃ z, z = B ||| y := ⟨_, rfl⟩
                rw [← hz] at hnext
                have e6 : bits .or .i64 (B : Int) (y : Int) = (z : Int) := by rw [or_i64_nat _ _ (by omega) (by omega), hz]
                have GX := Lib.hid gx
                have HNX := Lib.hid hnext
                clear hn hl hsh hbit hxl hx gx hv hvl hmm hm2 hnext hB hBl hpl hpw hy hyl hz
                go_upto_region 22 with (fail)
                go_upto_region 23 with (fail)
                clear hni
                go_upto_region 24 with ((first
                  | (with_reducible refine Hold.load1 HM.out 0 (c := .int .u64 (x : Int)) rfl rfl rfl rfl (GX.out) (cell_u64) ?_)))
                clear hli hsi e1 e2 hc e5 e6 w1
                go_wp2
                go_roundw
                case rel => exact ⟨k + 1, by omega, by go_num, by rw [HNX.out], HM.out⟩
                case measure => simp [intOf]; omega
              · have hd3 : decide ((k : Int) < 8) = false := by simp; omega
                obtain rfl : k = 8 := by omega
                obtain ⟨h1, h2, h3⟩ := cy_step V N i
                obtain ⟨c, hc⟩ : ∃ c, c = cy V N i := ⟨_, rfl⟩
                rw [← hc] at h1 h2 h3 ⊢
                have h256 : (2 : Nat) ^ 8 = 256 := rfl
                rw [h256]
                obtain ⟨B, hB⟩ : ∃ B, B = V / 2 ^ (8 * i) % 256 := ⟨_, rfl⟩
                have hBl : B < 256 := by rw [hB]; exact Nat.mod_lt _ (by decide)
                rw [← hB] at h1 h2 ⊢
                obtain ⟨g, hg⟩ : ∃ g, g = N / 2 ^ (8 * i) % 256 := ⟨_, rfl⟩
                have hgl : g < 256 := by rw [hg]; exact Nat.mod_lt _ (by decide)
                have his : i < s.size := by rw [HS.out]; exact hlt
                have hsb : (s[i]'his).toNat = g := by
                  have h := byt_num s.data.toList i
                  rw [← HN.out, ← hg] at h
                  rw [← h]
                  have hl : i < s.data.toList.length := his
                  unfold byt
                  rw [List.getD, List.getElem?_eq_getElem hl]
                  rfl
                rw [← hg] at h1 h2
                obtain ⟨t, ht⟩ : ∃ t, t = c + (B + g) := ⟨_, rfl⟩
                rw [← ht] at h1 h2
                obtain ⟨q, hq⟩ : ∃ t, t = B + g := ⟨_, rfl⟩
                have e5 : (B : Int) + (g : Int) = (q : Int) := by omega
                have e6 : (c : Int) + (q : Int) = (t : Int) := by omega
                have iq : (q : Int) < 1000 := by omega
                have it : (t : Int) < 1000 := by omega
                have hu : (UInt8.ofNat ((V + N) / 2 ^ (8 * i))).toNat = t % 256 := by rw [h2]; rfl
                have hnext := sumTo_next (V + N) i hlt
                have hjl : i < (sumTo (V + N) i).length := by rw [sumTo_length]; exact hlt
                have hm := HM.out
                clear HM
                generalize sumTo (V + N) i = A at *
                generalize UInt8.ofNat ((V + N) / 2 ^ (8 * i)) = u at *
                have e7 : IntKind.u8.wrap (t : Int) = (u.toNat : Int) := by rw [IntKind.wrap_u8]; omega
                have e8 : (t : Int) / 256 = ((cy V N (i + 1) : Nat) : Int) := by omega
                have hset : (bytesV A).set i (.int .u8 (u.toNat : Int)) = bytesV (sumTo (V + N) (i + 1)) := by rw [bytesV_set, hnext]
                have HM := Lib.hid hm
                have HSET := Lib.hid hset
                have LV := Lib.hid (show i < (bytesV A).length by rw [bytesV_length]; exact hjl)
                have is16 : (i : Int) < (s.size : Int) := by omega
                have hs16 : (s.size : Int) = 16 := by have := HS.out; omega
                have E7 := Lib.hid e7
                have E8 := Lib.hid e8
                clear h1 h2 h3 hc h256 hB hBl hg hgl ht hq hu hnext hjl hm hset e7 e8
                go_upto_region 26 with (fail)
                clear e5 e6
                have e7 := E7.out
                go_upto_region 27 with ((first
                  | (with_reducible refine Hold.store1 HM.out 2 (c := .int .u8 (u.toNat : Int)) (v' := bytesV (sumTo (V + N) (i + 1))) rfl rfl rfl rfl rfl (LV.out) (HSET.out) (Hold.cell_int _ _) (cell_u8) ?_; clear HM; intro w HM; simp only [List.set_cons_zero, List.set_cons_succ] at HM; replace HM := Lib.hid HM)))
                clear e7
                have e8 := E8.out
                go_wp2
                go_roundw
                case rel => exact ⟨i + 1, by omega, by go_num, rfl, HM.out⟩
                case measure => simp [intOf]; omega
          · have hd2 : decide ((i : Int) < 16) = false := by simp; omega
            obtain rfl : i = 16 := by omega
            rw [HN.out] at HM
            have hback := string_row (P := Try.prog) (HM.out.at 2 rfl).row 43 5 9 Try.underlying43 Try.underlying5 Try.underlying9 16 16 (by rw [sumTo_length])
            rw [← HT.out] at hback
            go_wp2
            go_ret
            exact ⟨rfl, HM.out.below⟩

      · have t1 : decide (0 < (d : Int)) = false := by simp; omega
        rw [if_neg hdp] at hpk
        subst hpk
        clear hq hd hql hlQ
        go_upto_region 13 with ((first
          | (with_reducible refine Hold.load1 HM.out 1 (c := .int .u64 (q : Int)) rfl rfl rfl rfl (GQ.out) (cell_u64) ?_)))
        clear e1
        go_upto_region 14 with ((first
          | (with_reducible refine Hold.make (m := [_, _]) (vx := .int .i64 16) (vy := .int .i64 16) HM.out rfl rfl rfl rfl HMK.out ?_; clear HM; intro bs w HM; simp only [List.nil_append, List.cons_append] at HM; replace HM := Lib.hid HM)))
        go_wp2
        obtain ⟨N, hN⟩ : ∃ N, N = Limb.num s.data.toList := ⟨_, rfl⟩
        have HN := Lib.hid hN
        clear hN
        go_loopw [8, 9, 10, 11, 12, 52] (fun c _ _ _ _ i wr => ∃ k : Nat, k ≤ 16 ∧ i = .int .i64 k ∧ c = .int .i64 ((cy V N k : Nat) : Int) ∧ Hld w0 [⟨ba, 44, numsV Y⟩, ⟨bq, 44, numsV Q⟩, ⟨bs, 5, bytesV (sumTo (V + N) k)⟩] wr) (fun _ _ _ _ _ i _ => 16 - (intOf i).toNat)
        case atStart => exact ⟨0, by omega, rfl, by rw [cy_zero]; rfl, by rw [sumTo_zero]; exact HM.out⟩
        case round =>
          obtain ⟨i, hi, rfl, rfl, hm⟩ := hrel
          clear HM
          have HM := Lib.hid hm
          clear hm
          by_cases hlt : i < 16
          · have hd2 : decide ((i : Int) < 16) = true := by simp; omega
            go_upto_region 18 with (fail)
            go_upto_region 19 with (fail)
            go_wp2
            go_loopw [10, 11, 12, 55] (fun b _ _ j w' => ∃ k : Nat, k ≤ 8 ∧ j = .int .i64 k ∧ b = .int .i64 ((V / 2 ^ (8 * i) % 2 ^ k : Nat) : Int) ∧ Hld w0 [⟨ba, 44, numsV Y⟩, ⟨bq, 44, numsV Q⟩, ⟨bs, 5, bytesV (sumTo (V + N) i)⟩] w') (fun _ _ _ j _ => 8 - (intOf j).toNat)
            case atStart => exact ⟨0, by omega, rfl, by rw [Nat.pow_zero, Nat.mod_one]; rfl, HM.out⟩
            case round =>
              obtain ⟨k, hk, rfl, rfl, hm⟩ := hrel
              clear HM
              have HM := Lib.hid hm
              clear hm
              by_cases hlk : k < 8
              · have hd3 : decide ((k : Int) < 8) = true := by simp; omega
                obtain ⟨n, hn⟩ : ∃ n, n = 8 * i + k := ⟨_, rfl⟩
                have hni : 8 * (i : Int) + (k : Int) = (n : Int) := by omega
                obtain ⟨l, hl⟩ : ∃ l, l = n / 26 := ⟨_, rfl⟩
                obtain ⟨sh, hsh⟩ : ∃ l, l = n % 26 := ⟨_, rfl⟩
                have hli : (n : Int) / 26 = (l : Int) := by omega
                have hsi : (n : Int) % 26 = (sh : Int) := by omega
                have il : (l : Int) < 5 := by omega
                have is : (sh : Int) < 26 := by omega
                have hbit := gl_bit V n (by omega)
                have hxl := gl_lt V 130 l
                rw [← hl, ← hsh] at hbit
                rw [← HV.out] at hbit hxl
                obtain ⟨x, hx⟩ : ∃ x, x = Y.getD l 0 := ⟨_, rfl⟩
                have gx : (numsV Y)[l]? = some (.int .u64 (x : Int)) := by rw [hx]; exact nums_get (by rw [HV.out, gl_length]; omega)
                rw [← hx] at hbit hxl
                obtain ⟨v, hv⟩ : ∃ v, v = x / 2 ^ sh := ⟨_, rfl⟩
                rw [← hv] at hbit
                have hvl : v < 67108864 := by
                  have := Nat.div_le_self x (2 ^ sh)
                  omega
                have e1 : (x : Int) / 2 ^ sh = (v : Int) := by rw [hv, Int.natCast_ediv, Int.natCast_pow]; rfl
                obtain ⟨m, hmm⟩ : ∃ m, m = v % 2 := ⟨_, rfl⟩
                have e2 : bits .and .u64 (v : Int) 1 = (m : Int) := by
                  have := bits_and_u64_nat v 1 (by omega) (by decide)
                  rw [Nat.and_one_is_mod, ← hmm] at this
                  exact this
                rw [← hmm] at hbit
                have hm2 : m < 2 := by omega
                have im : (m : Int) < 2 := by omega
                have hnext := byt_here V i k
                rw [← hn, ← hbit] at hnext
                obtain ⟨B, hB⟩ : ∃ B, B = V / 2 ^ (8 * i) % 2 ^ k := ⟨_, rfl⟩
                have hBl : B < 256 := by
                  have h1 : B < 2 ^ k := by rw [hB]; exact Nat.mod_lt _ (Nat.pow_pos (by decide))
                  have h2 : (2 : Nat) ^ k ≤ 128 := Nat.pow_le_pow_right (n := 2) (by decide) (show k ≤ 7 by omega)
                  omega
                rw [← hB] at hnext ⊢
                have hpl : 2 ^ k < 256 := Nat.lt_of_le_of_lt (Nat.pow_le_pow_right (n := 2) (by decide) (show k ≤ 7 by omega)) (by decide)
                obtain ⟨pw, hpw⟩ : ∃ p, p = 2 ^ k := ⟨_, rfl⟩
                rw [← hpw] at hnext hpl
                have hc : (2 : Int) ^ k = (pw : Int) := by rw [hpw, Int.natCast_pow]; rfl
                obtain ⟨y, hy⟩ : ∃ y, y = m * pw := ⟨_, rfl⟩
                rw [← hy] at hnext
                have e5 : (m : Int) * (pw : Int) = (y : Int) := by rw [hy, Int.natCast_mul]
                have hyl : y < 256 := by
                  have : m * pw ≤ 1 * pw := Nat.mul_le_mul_right _ (by omega)
                  omega
                have iy : (y : Int) < 256 := by omega
                have w1 : IntKind.i64.wrap (y : Int) = (y : Int) := by rw [IntKind.wrap_i64]; omega
                obtain ⟨z, hz⟩ : ∃ z, z = B ||| y := ⟨_, rfl⟩
                rw [← hz] at hnext
                have e6 : bits .or .i64 (B : Int) (y : Int) = (z : Int) := by rw [or_i64_nat _ _ (by omega) (by omega), hz]
                have GX := Lib.hid gx
                have HNX := Lib.hid hnext
                clear hn hl hsh hbit hxl hx gx hv hvl hmm hm2 hnext hB hBl hpl hpw hy hyl hz
                go_upto_region 22 with (fail)
                go_upto_region 23 with (fail)
                clear hni
                go_upto_region 24 with ((first
                  | (with_reducible refine Hold.load1 HM.out 0 (c := .int .u64 (x : Int)) rfl rfl rfl rfl (GX.out) (cell_u64) ?_)))
                clear hli hsi e1 e2 hc e5 e6 w1
                go_wp2
                go_roundw
                case rel => exact ⟨k + 1, by omega, by go_num, by rw [HNX.out], HM.out⟩
                case measure => simp [intOf]; omega
              · have hd3 : decide ((k : Int) < 8) = false := by simp; omega
                obtain rfl : k = 8 := by omega
                obtain ⟨h1, h2, h3⟩ := cy_step V N i
                obtain ⟨c, hc⟩ : ∃ c, c = cy V N i := ⟨_, rfl⟩
                rw [← hc] at h1 h2 h3 ⊢
                have h256 : (2 : Nat) ^ 8 = 256 := rfl
                rw [h256]
                obtain ⟨B, hB⟩ : ∃ B, B = V / 2 ^ (8 * i) % 256 := ⟨_, rfl⟩
                have hBl : B < 256 := by rw [hB]; exact Nat.mod_lt _ (by decide)
                rw [← hB] at h1 h2 ⊢
                obtain ⟨g, hg⟩ : ∃ g, g = N / 2 ^ (8 * i) % 256 := ⟨_, rfl⟩
                have hgl : g < 256 := by rw [hg]; exact Nat.mod_lt _ (by decide)
                have his : i < s.size := by rw [HS.out]; exact hlt
                have hsb : (s[i]'his).toNat = g := by
                  have h := byt_num s.data.toList i
                  rw [← HN.out, ← hg] at h
                  rw [← h]
                  have hl : i < s.data.toList.length := his
                  unfold byt
                  rw [List.getD, List.getElem?_eq_getElem hl]
                  rfl
                rw [← hg] at h1 h2
                obtain ⟨t, ht⟩ : ∃ t, t = c + (B + g) := ⟨_, rfl⟩
                rw [← ht] at h1 h2
                obtain ⟨q, hq⟩ : ∃ t, t = B + g := ⟨_, rfl⟩
                have e5 : (B : Int) + (g : Int) = (q : Int) := by omega
                have e6 : (c : Int) + (q : Int) = (t : Int) := by omega
                have iq : (q : Int) < 1000 := by omega
                have it : (t : Int) < 1000 := by omega
                have hu : (UInt8.ofNat ((V + N) / 2 ^ (8 * i))).toNat = t % 256 := by rw [h2]; rfl
                have hnext := sumTo_next (V + N) i hlt
                have hjl : i < (sumTo (V + N) i).length := by rw [sumTo_length]; exact hlt
                have hm := HM.out
                clear HM
                generalize sumTo (V + N) i = A at *
                generalize UInt8.ofNat ((V + N) / 2 ^ (8 * i)) = u at *
                have e7 : IntKind.u8.wrap (t : Int) = (u.toNat : Int) := by rw [IntKind.wrap_u8]; omega
                have e8 : (t : Int) / 256 = ((cy V N (i + 1) : Nat) : Int) := by omega
                have hset : (bytesV A).set i (.int .u8 (u.toNat : Int)) = bytesV (sumTo (V + N) (i + 1)) := by rw [bytesV_set, hnext]
                have HM := Lib.hid hm
                have HSET := Lib.hid hset
                have LV := Lib.hid (show i < (bytesV A).length by rw [bytesV_length]; exact hjl)
                have is16 : (i : Int) < (s.size : Int) := by omega
                have hs16 : (s.size : Int) = 16 := by have := HS.out; omega
                have E7 := Lib.hid e7
                have E8 := Lib.hid e8
                clear h1 h2 h3 hc h256 hB hBl hg hgl ht hq hu hnext hjl hm hset e7 e8
                go_upto_region 26 with (fail)
                clear e5 e6
                have e7 := E7.out
                go_upto_region 27 with ((first
                  | (with_reducible refine Hold.store1 HM.out 2 (c := .int .u8 (u.toNat : Int)) (v' := bytesV (sumTo (V + N) (i + 1))) rfl rfl rfl rfl rfl (LV.out) (HSET.out) (Hold.cell_int _ _) (cell_u8) ?_; clear HM; intro w HM; simp only [List.set_cons_zero, List.set_cons_succ] at HM; replace HM := Lib.hid HM)))
                clear e7
                have e8 := E8.out
                go_wp2
                go_roundw
                case rel => exact ⟨i + 1, by omega, by go_num, rfl, HM.out⟩
                case measure => simp [intOf]; omega
          · have hd2 : decide ((i : Int) < 16) = false := by simp; omega
            obtain rfl : i = 16 := by omega
            rw [HN.out] at HM
            have hback := string_row (P := Try.prog) (HM.out.at 2 rfl).row 43 5 9 Try.underlying43 Try.underlying5 Try.underlying9 16 16 (by rw [sumTo_length])
            rw [← HT.out] at hback
            go_wp2
            go_ret
            exact ⟨rfl, HM.out.below⟩
end Go.Proofs.Ytcglobpklhkebab.RefPoly

namespace Go.Proofs.Ytcglobpklhkebab.RefPoly
open Go.RowKit Mur Lanes Poly Hold
set_option maxRecDepth 100000

set_option maxHeartbeats 400000 in
theorem tag_err (key s : ByteArray) (w : World) (hk : ¬ key.size = 32) :
    Calls Try.prog 6 #[.string key, .string s] w fun e w' => e = .returned (.tuple #[.string ⟨#[]⟩, .int .i64 1]) ∧ Below w.heap.size w w' := by
  have d1 : ((key.size : Int) != 32) = true := by simp; omega
  clear hk
  go_enter Try.func6, Try.ntmps6
  go_wp2
  refine bodyPost_ret (v := .tuple #[.string ⟨#[]⟩, .int .i64 1]) (by simp [results, Try.results6, go_sem]) rfl ⟨rfl, Below.refl _ _⟩

set_option maxHeartbeats 6400000 in
theorem tag_walk (key s T F : ByteArray) (r : List Nat) (S : Nat → List Nat) (N : Nat) (w0 : World) (hk : key.size = 32) (hs : s.size ≤ 4194304) (hF : F = ⟨(fac key.data.toList).toArray⟩) (hr : r = limbs F.data.toList) (hN : N = (s.size + 15) / 16)
    (hSok : ∀ k, Five (S k)) (hS0 : S 0 = zeros) (hSn : ∀ k, S (k + 1) = mul (add (S k) (limbs ((s.data.toList.drop (16 * k)).take 16 ++ [1]))) r)
    (rb : ∀ u, Calls Try.prog 23 #[.agg (numsV (S N)).toArray, .string (key.extract 16 key.size)] u fun e w' => e = .returned (.string T) ∧ Below u.heap.size u w') :
    Calls Try.prog 6 #[.string key, .string s] w0 fun e w' => e = .returned (.tuple #[.string T, .int .i64 0]) ∧ Below w0.heap.size w0 w' := by
  have hkl : key.data.toList.length = 32 := hk
  have hrok : Five r := by rw [hr]; exact limbsTo_ok _ 5
  have hFs : F.size = 16 := by rw [hF]; show (fac _).toArray.size = 16; simp [fac]
  have hK : (key.extract 0 16).data.toList = facTo key.data.toList 3 4 := by
    rw [facTo_zero hkl]
    simp [ByteArray.data_extract]
  have hconv := conv_row (P := Try.prog) w0 9 43 5 (key.extract 0 16) Try.underlying9 Try.underlying43 Try.underlying5
  obtain ⟨cap, w1, hcap, hconv, hrow, hbel⟩ := hconv
  have hKs : (key.extract 0 16).size = 16 := by rw [ByteArray.size_extract]; omega
  rw [hK] at hrow
  rw [hKs] at hconv
  have hi : (16 : Int) ≤ (key.size : Int) := by omega
  have d1 : ((key.size : Int) != 32) = false := by simp; omega
  have RL := Lib.hid (fun u => limbs26_any F r u (by omega) hr)
  have RB := Lib.hid rb
  have HROW := Lib.hid hrow
  have HBEL := Lib.hid hbel
  have HF := Lib.hid hF
  have HRO := Lib.hid hrok
  have HRL := Lib.hid (five_len hrok)
  have HSO := Lib.hid hSok
  have HS0 := Lib.hid hS0
  have HSN := Lib.hid hSn
  have HN := Lib.hid hN
  have HSZ := Lib.hid hs
  clear hrow hbel hF hK hKs hkl hk hcap hr hrok hFs rb hSok hS0 hSn hN hs
  go_enter Try.func6, Try.ntmps6
  go_wp2
  go_loopw [7] (fun v wr => ∃ (m q : Nat), m ≤ 4 ∧ q = 4 * m + 3 ∧ v = .int .i64 (q : Int) ∧ Row wr w0.heap.size (bytesV (facTo key.data.toList q 4)) ∧ Below w0.heap.size w0 wr) (fun v _ => 20 - (intOf v).toNat)
  case atStart => exact ⟨0, 3, by omega, rfl, rfl, HROW.out, HBEL.out⟩
  case round =>
    obtain ⟨m, q, hm, hq, rfl, hrow, hbel⟩ := hrel
    clear hconv
    by_cases hlt : q < 16
    · have hd : decide ((q : Int) < 16) = true := by simp; omega
      have iq : (q : Int) < 16 := by omega
      have hql : q < (facTo key.data.toList q 4).length := by rw [facTo_length]; exact hlt
      have hc := hrow.cell (i := q) (bytesV_at hql)
      have hf := hrow.free (i := q) (by rw [bytesV_length]; exact hql)
      have hat := facTo_at key.data.toList q 4 q hlt (.inl ⟨by omega, Nat.le_refl _⟩)
      rw [hat] at hc
      have hset := hrow.set q (u8 (key.data.toList.getD q 0 &&& 15))
      have hone := facTo_one key.data.toList m 4
      rw [← hq] at hone
      rw [bytesV_set, hone] at hset
      have ha := and_15 (key.data.toList.getD q 0)
      generalize key.data.toList.getD q 0 = x at *
      have HS := Lib.hid hset
      have HA := Lib.hid ha
      have HB := Lib.hid (hbel.setCell (p := ⟨w0.heap.size, q, none⟩) (Nat.le_refl _) (u8 (x &&& 15)))
      have HQ := Lib.hid hq
      clear hrow hbel hat hset hone ha hql HROW HBEL hq
      go_wp2
      go_roundw
      case rel => exact ⟨m + 1, 4 * (m + 1) + 3, by have h := HQ.out; omega, rfl, by have h := HQ.out; subst h; go_num, by rw [HA.out]; exact HS.out, by rw [HA.out]; exact HB.out⟩
      case measure => simp [intOf]; omega
    · have hd : decide ((q : Int) < 16) = false := by simp; omega
      obtain rfl : m = 4 := by omega
      obtain rfl : q = 19 := by omega
      have HROW2 := Lib.hid hrow
      have HBEL2 := Lib.hid hbel
      clear hrow hbel HROW HBEL
      go_wp2
      obtain ⟨wo, rfl⟩ : ∃ wo : World, wo = wr := ⟨_, rfl⟩
      go_loopw [8] (fun v wr => ∃ (m q : Nat), 1 ≤ m ∧ m ≤ 4 ∧ q = 4 * m ∧ v = .int .i64 (q : Int) ∧ Row wr w0.heap.size (bytesV (facTo key.data.toList 19 q)) ∧ Below w0.heap.size w0 wr) (fun v _ => 20 - (intOf v).toNat)
      case atStart => exact ⟨1, 4, by omega, by omega, rfl, rfl, HROW2.out, HBEL2.out⟩
      case round =>
        obtain ⟨m, q, hm1, hm, hq, rfl, hrow, hbel⟩ := hrel
        by_cases hlt : q < 16
        · have hd : decide ((q : Int) < 16) = true := by simp; omega
          have iq : (q : Int) < 16 := by omega
          have hql : q < (facTo key.data.toList 19 q).length := by rw [facTo_length]; exact hlt
          have hc := hrow.cell (i := q) (bytesV_at hql)
          have hf := hrow.free (i := q) (by rw [bytesV_length]; exact hql)
          have hat := facTo_at key.data.toList 19 q q hlt (.inr ⟨by omega, Nat.le_refl _⟩)
          rw [hat] at hc
          have hset := hrow.set q (u8 (key.data.toList.getD q 0 &&& 252))
          have hone := facTo_two key.data.toList 19 m (by omega) hm1
          rw [← hq] at hone
          rw [bytesV_set, hone] at hset
          have ha : bits .and .u8 ((key.data.toList.getD q 0).toNat : Int) 252 = ((key.data.toList.getD q 0 &&& 252).toNat : Int) := and_u8 (key.data.toList.getD q 0) 252
          generalize key.data.toList.getD q 0 = x at *
          have HS := Lib.hid hset
          have HA := Lib.hid ha
          have HB := Lib.hid (hbel.setCell (p := ⟨w0.heap.size, q, none⟩) (Nat.le_refl _) (u8 (x &&& 252)))
          have HQ := Lib.hid hq
          clear hrow hbel hat hset hone ha hql HROW2 HBEL2 hq
          go_wp2
          go_roundw
          case rel => exact ⟨m + 1, 4 * (m + 1), by omega, by have h := HQ.out; omega, rfl, by have h := HQ.out; subst h; go_num, by rw [HA.out]; exact HS.out, by rw [HA.out]; exact HB.out⟩
          case measure => simp [intOf]; omega
        · have hd : decide ((q : Int) < 16) = false := by simp; omega
          obtain rfl : m = 4 := by omega
          obtain rfl : q = 16 := by omega
          rw [facTo_end _ _ _ (by omega) (by omega)] at hrow
          have hback := string_row (P := Try.prog) hrow 43 5 9 Try.underlying43 Try.underlying5 Try.underlying9 16 cap (by simp [fac])
          have HM := Lib.hid ((Hld.start w0).next hbel)
          rw [← HF.out] at hback
          clear hrow hbel HROW2 HBEL2 HF
          go_upto_region 13 with ((first
            | (with_reducible refine (RL.out _).mono ?_; rintro e w ⟨rfl, hb⟩; replace HM := Lib.hid (HM.out.next hb); clear hb)
            | (with_reducible refine Hold.alloc HM.out rfl rfl zeroP zero_poly ?_; clear HM; intro b9 w HM; simp only [List.nil_append] at HM; replace HM := Lib.hid HM)
            | (with_reducible refine Hold.store HM.out 0 (v' := numsV r) rfl rfl rfl rfl rfl (by rw [Nat.zero_add, HRL.out, zeroP_length]; exact Nat.le_refl _) (lay_all (zeroP_length.trans HRL.out.symm)) (single_nums _) (by rw [HRL.out]; exact row_poly) ?_; clear HM; intro w HM; simp only [List.set_cons_zero] at HM; replace HM := Lib.hid HM)))
          clear hback RL
          go_wp2_with ((first
            | (with_reducible refine Hold.alloc HM.out rfl rfl zeroP zero_poly ?_; clear HM; intro b10 w HM; simp only [List.nil_append, List.cons_append] at HM; replace HM := Lib.hid HM)))
          go_simp
          go_loopw [1, 11, 12, 13] (fun v _ _ _ wr => ∃ k : Nat, k ≤ N ∧ v = .string (s.extract (16 * k) s.size) ∧ Hld w0 [⟨b9, 44, numsV r⟩, ⟨b10, 44, numsV (S k)⟩] wr) (fun v _ _ _ _ => match v with | .string t => t.size | _ => 0)
          case atStart => exact ⟨0, by omega, by simp, by rw [HS0.out]; exact HM.out⟩
          case round =>
            obtain ⟨k, hkN, rfl, hm⟩ := hrel
            clear HM
            have HM := Lib.hid hm
            clear hm
            obtain ⟨t, ht⟩ : ∃ t, t = s.extract (16 * k) s.size := ⟨_, rfl⟩
            have hts : t.size = s.size - 16 * k := by rw [ht, ByteArray.size_extract, Nat.min_self]
            have hs := HSZ.out
            rw [← ht]
            by_cases hlt : 0 < t.size
            · have hd2 : decide ((0 : Int) < (t.size : Int)) = true := decide_eq_true (by omega)
              obtain ⟨m, hm⟩ : ∃ m, m = min t.size 16 := ⟨_, rfl⟩
              have hmi : min (16 : Int) (t.size : Int) = (m : Int) := by omega
              have hmj : min (t.size : Int) 16 = (m : Int) := by omega
              have hml : (m : Int) ≤ (t.size : Int) := by omega
              obtain ⟨L, hL⟩ : ∃ L, L = limbs ((s.data.toList.drop (16 * k)).take 16 ++ [1]) := ⟨_, rfl⟩
              obtain ⟨A, hA⟩ : ∃ A, A = add (S k) L := ⟨_, rfl⟩
              have hLok : Five L := by rw [hL]; exact limbsTo_ok _ 5
              have hAok : Five A := by rw [hA]; exact addTo_ok (HSO.out k) _ 5
              have hY : S (k + 1) = mul A r := by rw [HSN.out k, hA, hL]
              have RA := Lib.hid (fun u => limbs26_any (t.extract 0 m ++ (⟨#[1]⟩ : ByteArray)) L u (by rw [ByteArray.size_append, ByteArray.size_extract]; show _ + 1 ≤ _; omega) (by rw [piece_list s t k m ht hm]; exact hL))
              have RC := Lib.hid (fun u => times_any A r (S (k + 1)) u hAok HRO.out hY)
              have HLL := Lib.hid (five_len hLok)
              have HAL := Lib.hid (five_len hAok)
              have HYL := Lib.hid (five_len (HSO.out (k + 1)))
              have HSK := Lib.hid (HSO.out k)
              have HT := Lib.hid ht
              have HMM := Lib.hid hm
              have HTS := Lib.hid hts
              have HA := Lib.hid (show addTo (S k) L 5 = A from hA.symm)
              have hms : (t.extract 0 m).size = m := by rw [ByteArray.size_extract]; omega
              have hmx : m ≤ t.size := by omega
              have n1 : ¬ 9223372036854775807 < m + 1 := by omega
              have n2 : ¬ 9223372036854775807 < min m t.size + 1 := by omega
              clear ht hm hts hL hA hLok hAok hY hs
              generalize S k = X at *
              go_upto_region 16 with (fail)
              go_upto_region 17 with ((first
                | (with_reducible refine (RA.out _).mono ?_; rintro e w ⟨rfl, hb⟩; replace HM := Lib.hid (HM.out.next hb); clear hb)
                | (with_reducible refine Hold.alloc HM.out rfl rfl zeroP zero_poly ?_; clear HM; intro bx w HM; simp only [List.nil_append, List.cons_append] at HM; replace HM := Lib.hid HM)
                | (with_reducible refine Hold.store HM.out 2 (v' := numsV L) rfl rfl rfl rfl rfl (by rw [Nat.zero_add, HLL.out, zeroP_length]; exact Nat.le_refl _) (lay_all (zeroP_length.trans HLL.out.symm)) (single_nums _) (by rw [HLL.out]; exact row_poly) ?_; clear HM; intro w HM; simp only [List.set_cons_zero, List.set_cons_succ] at HM; replace HM := Lib.hid HM)))
              go_wp2
              go_loopw [13, 54] (fun _ i w' => ∃ j : Nat, j ≤ 5 ∧ i = .int .i64 j ∧ Hld w0 [⟨b9, 44, numsV r⟩, ⟨b10, 44, numsV (addTo X L j)⟩, ⟨bx, 44, numsV L⟩] w') (fun _ i _ => 5 - (intOf i).toNat)
              case atStart => exact ⟨0, by omega, rfl, HM.out⟩
              case round =>
                obtain ⟨j, hj5, rfl, hm⟩ := hrel
                clear HM
                have hok := addTo_ok HSK.out L j
                by_cases hlj : j < 5
                · have hd3 : decide ((j : Int) < 5) = true := by simp; omega
                  have ij : (j : Int) < 5 := by omega
                  have hn : addTo X L (j + 1) = (addTo X L j).set j (((addTo X L j).getD j 0 + L.getD j 0) % 18446744073709551616) := rfl
                  generalize addTo X L j = M at *
                  obtain ⟨x, hx⟩ : ∃ m, m = M.getD j 0 := ⟨_, rfl⟩
                  obtain ⟨y, hy⟩ : ∃ m, m = L.getD j 0 := ⟨_, rfl⟩
                  obtain ⟨v, hv⟩ : ∃ m, m = (x + y) % 18446744073709551616 := ⟨_, rfl⟩
                  rw [← hx, ← hy, ← hv] at hn
                  have hlM : M.length = 5 := hok.1
                  have e1 : IntKind.u64.wrap ((x : Int) + (y : Int)) = (v : Int) := by rw [wrapadd, hv]
                  have gx : (numsV M)[j]? = some (.int .u64 (x : Int)) := by rw [hx]; exact nums_get (by omega)
                  have gy : (numsV L)[j]? = some (.int .u64 (y : Int)) := by rw [hy]; exact nums_get (by have := HLL.out; rw [numsV_length] at this; omega)
                  have hs1 : (numsV M).set j (.int .u64 (v : Int)) = numsV (addTo X L (j + 1)) := by rw [numsV_set, hn]
                  have GX := Lib.hid gx
                  have GY := Lib.hid gy
                  have HS1 := Lib.hid hs1
                  have L1 := Lib.hid (show j < (numsV M).length by rw [numsV_length]; omega)
                  have HM := Lib.hid hm
                  clear hm gx gy hs1 hn hx hy hv hok hlM
                  go_upto_region 20 with (fail)
                  refine Steady.region 8 (by kernel_rfl) (by kernel_rfl) (fun u => Hld _ _ u) HM.out.drew ?_
                  simp only [List.take_succ_cons, List.take_zero, List.drop_succ_cons, List.drop_zero]
                  refine Steady.take ?_ rfl (by intro u hu; go_simp; with_reducible rfl) ?_
                  simp only [Act.put, List.setIfInBounds_toArray, List.set_cons_zero, List.set_cons_succ]
                  refine Steady.take ?_ rfl (by intro u hu; go_simp; with_reducible rfl) ?_
                  simp only [Act.put, List.setIfInBounds_toArray, List.set_cons_zero, List.set_cons_succ]
                  refine Steady.take (.int .u64 (x : Int)) rfl (fun u hu => Hold.load1_run hu 1 rfl rfl rfl (GX.out) (cell_u64)) ?_
                  simp only [Act.put, List.setIfInBounds_toArray, List.set_cons_zero, List.set_cons_succ]
                  refine Steady.take ?_ rfl (by intro u hu; go_simp; with_reducible rfl) ?_
                  simp only [Act.put, List.setIfInBounds_toArray, List.set_cons_zero, List.set_cons_succ]
                  refine Steady.take ?_ rfl (by intro u hu; go_simp; with_reducible rfl) ?_
                  simp only [Act.put, List.setIfInBounds_toArray, List.set_cons_zero, List.set_cons_succ]
                  refine Steady.take (.int .u64 (y : Int)) rfl (fun u hu => Hold.load1_run hu 2 rfl rfl rfl (GY.out) (cell_u64)) ?_
                  simp only [Act.put, List.setIfInBounds_toArray, List.set_cons_zero, List.set_cons_succ]
                  refine Steady.take ?_ rfl (by intro u hu; go_simp; with_reducible rfl) ?_
                  simp only [Act.put, List.setIfInBounds_toArray, List.set_cons_zero, List.set_cons_succ]
                  refine Steady.take ?_ rfl (by intro u hu; go_simp; with_reducible rfl) ?_
                  simp only [Act.put, List.setIfInBounds_toArray, List.set_cons_zero, List.set_cons_succ]
                  refine Steady.nil ?_
                  clear HM
                  intro w HM
                  replace HM := Lib.hid HM
                  go_upto_region 21 with ((first
                    | (with_reducible refine Hold.store1 HM.out 1 (c := .int .u64 (v : Int)) (v' := numsV (addTo X L (j + 1))) rfl rfl rfl rfl rfl (L1.out) (HS1.out) (Hold.cell_int _ _) (cell_u64) ?_; clear HM; intro w HM; simp only [List.set_cons_zero, List.set_cons_succ] at HM; replace HM := Lib.hid HM)))
                  clear e1
                  go_wp2
                  go_roundw
                  case rel => exact ⟨j + 1, by omega, by go_num, HM.out⟩
                  case measure => simp [intOf]; omega
                · have hd3 : decide ((j : Int) < 5) = false := by simp; omega
                  obtain rfl : j = 5 := by omega
                  rw [HA.out] at hm
                  have HM := Lib.hid hm
                  clear hm hok
                  go_upto_region 23 with ((first
                    | (with_reducible refine Hold.load HM.out 1 (cs := numsV A) rfl rfl rfl rfl (Part.all _) (by rw [HAL.out]; exact row_poly) ?_)
                    | (with_reducible refine Hold.load HM.out 0 (cs := numsV r) rfl rfl rfl rfl (Part.all _) (by rw [HRL.out]; exact row_poly) ?_)
                    | (with_reducible refine (RC.out _).mono ?_; rintro e w ⟨rfl, hb⟩; replace HM := Lib.hid (HM.out.next hb); clear hb)
                    | (with_reducible refine Hold.store HM.out 1 (v' := numsV (S (k + 1))) rfl rfl rfl rfl rfl (by rw [Nat.zero_add, HYL.out, HAL.out]; exact Nat.le_refl _) (lay_all (HAL.out.trans HYL.out.symm)) (single_nums _) (by rw [HYL.out]; exact row_poly) ?_; clear HM; intro w HM; simp only [List.set_cons_zero, List.set_cons_succ] at HM; replace HM := Lib.hid HM)))
                  go_wp2
                  go_roundw
                  case rel => exact ⟨k + 1, by have := HN.out; have := HTS.out; omega, by rw [rest_next s t k m HT.out HMM.out], Hld.front (m := [_, _]) (m' := [_]) HM.out⟩
                  case measure =>
                    have := HMM.out
                    show (t.extract m t.size).size < t.size
                    rw [ByteArray.size_extract]
                    omega
            · have hd2 : decide ((0 : Int) < (t.size : Int)) = false := decide_eq_false (by omega)
              have hkn : k = N := by have := HN.out; omega
              subst hkn
              have HXL := Lib.hid (five_len (HSO.out k))
              clear ht hts hs HN
              generalize S k = X at *
              go_upto_region 24 with (fail)
              refine Steady.region 4 (by kernel_rfl) (by kernel_rfl) (fun u => Hld _ _ u) HM.out.drew ?_
              simp only [List.take_succ_cons, List.take_zero, List.drop_succ_cons, List.drop_zero]
              refine Steady.take (.agg (numsV X).toArray) rfl (fun u hu => Hold.load_run hu 1 rfl rfl rfl (Part.all _) (by rw [HXL.out]; exact row_poly)) ?_
              simp only [Act.put, List.setIfInBounds_toArray, List.set_cons_zero, List.set_cons_succ]
              refine Steady.take ?_ rfl (by intro u hu; go_simp; with_reducible rfl) ?_
              simp only [Act.put, List.setIfInBounds_toArray, List.set_cons_zero, List.set_cons_succ]
              refine Steady.take ?_ rfl (by intro u hu; go_simp; with_reducible rfl) ?_
              simp only [Act.put, List.setIfInBounds_toArray, List.set_cons_zero, List.set_cons_succ]
              refine Steady.call _ _ _ rfl ?_ (Hold.kept RB.out) ?_
              · intro u
                go_simp
              simp only [Act.put, List.setIfInBounds_toArray, List.set_cons_zero, List.set_cons_succ]
              refine Steady.nil ?_
              clear HM
              intro w HM
              replace HM := Lib.hid HM
              go_wp2
              refine bodyPost_ret (v := .tuple #[.string T, .int .i64 0]) (by simp [results, Try.results6, go_sem]) rfl ⟨rfl, HM.out.below⟩
end Go.Proofs.Ytcglobpklhkebab.RefPoly

namespace Go.Proofs.Ytcglobpklhkebab.RefPoly
open Go.RowKit Mur Lanes Poly
set_option maxRecDepth 100000

theorem car_five (a b c d e : Nat) : ∃ s0 s1 s2 s3 s4, s0 = a % 18446744073709551616 ∧ s1 = (b + s0 / 67108864) % 18446744073709551616 ∧ s2 = (c + s1 / 67108864) % 18446744073709551616 ∧ s3 = (d + s2 / 67108864) % 18446744073709551616 ∧ s4 = (e + s3 / 67108864) % 18446744073709551616 ∧
    car [a, b, c, d, e] = [s0 % 67108864, s1 % 67108864, s2 % 67108864, s3 % 67108864, s4 % 67108864] ∧ over [a, b, c, d, e] = s4 / 67108864 :=
  ⟨_, _, _, _, _, rfl, rfl, rfl, rfl, rfl, rfl, rfl⟩
def vl (a b c d e : Nat) : Nat := a + b * 67108864 + c * 4503599627370496 + d * 302231454903657293676544 + e * 20282409603651670423947251286016
/-- Limbs within their bits, the lowest but by five. -/
def Tight (a b c d e : Nat) : Prop := a < 67108869 ∧ b < 67108864 ∧ c < 67108864 ∧ d < 67108864 ∧ e < 67108864
def Sharp (a b c d e : Nat) : Prop := a < 67108864 ∧ b < 67108864 ∧ c < 67108864 ∧ d < 67108864 ∧ e < 67108864
theorem fold_five (a b c d e : Nat) : ∃ s0 s1 s2 s3 s4, s0 = a % 18446744073709551616 ∧ s1 = (b + s0 / 67108864) % 18446744073709551616 ∧ s2 = (c + s1 / 67108864) % 18446744073709551616 ∧ s3 = (d + s2 / 67108864) % 18446744073709551616 ∧ s4 = (e + s3 / 67108864) % 18446744073709551616 ∧
    fold [a, b, c, d, e] = [(s0 % 67108864 + 5 * (s4 / 67108864) % 18446744073709551616) % 18446744073709551616, s1 % 67108864, s2 % 67108864, s3 % 67108864, s4 % 67108864] :=
  ⟨_, _, _, _, _, rfl, rfl, rfl, rfl, rfl, rfl⟩
theorem fold_loose (X : List Nat) (h : X.length = 5) : ∃ a b c d e, fold X = [a, b, c, d, e] ∧ a < 1374456643584 ∧ b < 67108864 ∧ c < 67108864 ∧ d < 67108864 ∧ e < 67108864 := by
  match X, h with
  | [x0, x1, x2, x3, x4], _ =>
    obtain ⟨s0, s1, s2, s3, s4, h0, h1, h2, h3, h4, hf⟩ := fold_five x0 x1 x2 x3 x4
    have hs : s4 < 18446744073709551616 := by rw [h4]; exact Nat.mod_lt _ (by decide)
    clear h0 h1 h2 h3 h4
    have r0 : s0 % 67108864 < 67108864 := Nat.mod_lt _ (by decide)
    refine ⟨_, _, _, _, _, hf, ?_, Nat.mod_lt _ (by decide), Nat.mod_lt _ (by decide), Nat.mod_lt _ (by decide), Nat.mod_lt _ (by decide)⟩
    clear hf
    generalize s0 % 67108864 = r at *
    have ho : s4 / 67108864 ≤ 274877906943 := by omega
    generalize s4 / 67108864 = o at *
    clear hs
    have e1 : 5 * o % 18446744073709551616 = 5 * o := Nat.mod_eq_of_lt (by omega)
    rw [e1, Nat.mod_eq_of_lt (by omega)]
    omega
theorem vl_sharp {a b c d e : Nat} (h : Sharp a b c d e) : vl a b c d e < 1361129467683753853853498429727072845824 := by
  obtain ⟨h0, h1, h2, h3, h4⟩ := h
  unfold vl
  omega
/-- The chain of carries: what comes out, and what is over. -/
def Chain (a b c d e r0 r1 r2 r3 r4 o : Nat) : Prop := Sharp r0 r1 r2 r3 r4 ∧ ∃ c1 c2 c3 c4, a = 67108864 * c1 + r0 ∧ b + c1 = 67108864 * c2 + r1 ∧ c + c2 = 67108864 * c3 + r2 ∧ d + c3 = 67108864 * c4 + r3 ∧ e + c4 = 67108864 * o + r4
theorem Chain.val {a b c d e r0 r1 r2 r3 r4 o : Nat} (h : Chain a b c d e r0 r1 r2 r3 r4 o) : vl r0 r1 r2 r3 r4 + o * 1361129467683753853853498429727072845824 = vl a b c d e := by
  obtain ⟨-, c1, c2, c3, c4, h0, h1, h2, h3, h4⟩ := h
  unfold vl
  omega
theorem chain {a b c d e s0 s1 s2 s3 s4 : Nat} (ha : a < 4611686018427387904) (hb : b < 4611686018427387904) (hc : c < 4611686018427387904) (hd : d < 4611686018427387904) (he : e < 4611686018427387904)
    (h0 : s0 = a % 18446744073709551616) (h1 : s1 = (b + s0 / 67108864) % 18446744073709551616) (h2 : s2 = (c + s1 / 67108864) % 18446744073709551616) (h3 : s3 = (d + s2 / 67108864) % 18446744073709551616) (h4 : s4 = (e + s3 / 67108864) % 18446744073709551616) :
    Chain a b c d e (s0 % 67108864) (s1 % 67108864) (s2 % 67108864) (s3 % 67108864) (s4 % 67108864) (s4 / 67108864) := by
  have g0 : s0 = a := by omega
  have g1 : s1 = b + s0 / 67108864 := by omega
  clear h0 h1
  have g2 : s2 = c + s1 / 67108864 := by clear h3 h4; omega
  clear h2
  have g3 : s3 = d + s2 / 67108864 := by clear h4; omega
  clear h3
  have g4 : s4 = e + s3 / 67108864 := by omega
  clear h4 ha hb hc hd he
  refine ⟨⟨Nat.mod_lt _ (by decide), Nat.mod_lt _ (by decide), Nat.mod_lt _ (by decide), Nat.mod_lt _ (by decide), Nat.mod_lt _ (by decide)⟩, s0 / 67108864, s1 / 67108864, s2 / 67108864, s3 / 67108864, ?_, ?_, ?_, ?_, ?_⟩
  · rw [← g0]; exact (Nat.div_add_mod _ _).symm
  · rw [← g1]; exact (Nat.div_add_mod _ _).symm
  · rw [← g2]; exact (Nat.div_add_mod _ _).symm
  · rw [← g3]; exact (Nat.div_add_mod _ _).symm
  · rw [← g4]; exact (Nat.div_add_mod _ _).symm
theorem Tight.low {a b c d e : Nat} (h : Tight a b c d e) : a < 4611686018427387904 ∧ b < 4611686018427387904 ∧ c < 4611686018427387904 ∧ d < 4611686018427387904 ∧ e < 4611686018427387904 := by
  obtain ⟨ha, hb, hc, hd, he⟩ := h
  omega
theorem fold_tight (a b c d e : Nat) (ha : a < 1374456643584) (hb : b < 67108864) (hc : c < 67108864) (hd : d < 67108864) (he : e < 67108864) : ∃ a' b' c' d' e', fold [a, b, c, d, e] = [a', b', c', d', e'] ∧ Tight a' b' c' d' e' := by
  obtain ⟨s0, s1, s2, s3, s4, h0, h1, h2, h3, h4, hf⟩ := fold_five a b c d e
  have hch := chain (by omega) (by omega) (by omega) (by omega) (by omega) h0 h1 h2 h3 h4
  refine ⟨_, _, _, _, _, hf, ?_⟩
  clear h0 h1 h2 h3 h4 hf
  obtain ⟨⟨k0, k1, k2, k3, k4⟩, c1, c2, c3, c4, g0, g1, g2, g3, g4⟩ := hch
  generalize s0 % 67108864 = r0 at *
  generalize s1 % 67108864 = r1 at *
  generalize s2 % 67108864 = r2 at *
  generalize s3 % 67108864 = r3 at *
  generalize s4 % 67108864 = r4 at *
  generalize s4 / 67108864 = o at *
  have x1 : c1 ≤ 20481 := by omega
  have x2 : c2 ≤ 1 := by omega
  have x3 : c3 ≤ 1 := by omega
  have x4 : c4 ≤ 1 := by omega
  have x5 : o ≤ 1 := by omega
  clear g0 g1 g2 g3 g4 x1 x2 x3 x4 ha hb hc hd he
  refine ⟨?_, k1, k2, k3, k4⟩
  have e1 : 5 * o % 18446744073709551616 = 5 * o := Nat.mod_eq_of_lt (by omega)
  rw [e1, Nat.mod_eq_of_lt (by omega)]
  omega
theorem vl_low (a b c d e : Nat) : a ≤ vl a b c d e := by
  unfold vl
  rw [Nat.add_assoc, Nat.add_assoc, Nat.add_assoc]
  exact Nat.le_add_right _ _
theorem vl_add (a b c d e k : Nat) : vl (a + k) b c d e = vl a b c d e + k := by
  unfold vl
  omega
theorem Sharp.tight {a b c d e : Nat} (h : Sharp a b c d e) : Tight a b c d e := by
  obtain ⟨ha, hb, hc, hd, he⟩ := h
  exact ⟨by omega, hb, hc, hd, he⟩
theorem vl_tight {a b c d e : Nat} (h : Tight a b c d e) : vl a b c d e < 1361129467683753853853498429727072845829 := by
  obtain ⟨h0, h1, h2, h3, h4⟩ := h
  unfold vl
  omega
theorem sharp_uniq {a b c d e a' b' c' d' e' : Nat} (h : Sharp a b c d e) (h' : Sharp a' b' c' d' e') (hv : vl a b c d e = vl a' b' c' d' e') : [a, b, c, d, e] = [a', b', c', d', e'] := by
  obtain ⟨h0, h1, h2, h3, h4⟩ := h
  obtain ⟨k0, k1, k2, k3, k4⟩ := h'
  unfold vl at hv
  have e0 : a = a' := by omega
  subst e0
  have e1 : b = b' := by omega
  subst e1
  have e2 : c = c' := by omega
  subst e2
  have e3 : d = d' := by omega
  subst e3
  have e4 : e = e' := by omega
  rw [e4]
theorem zero5 {r : Nat} (h : r < 18446744073709551616) : (r + 5 * 0 % 18446744073709551616) % 18446744073709551616 = r := by
  have e : 5 * 0 % 18446744073709551616 = 0 := by decide
  rw [e, Nat.add_zero, Nat.mod_eq_of_lt h]
theorem fold_sharp (a b c d e : Nat) (h : Tight a b c d e) : ∃ a' b' c' d' e', fold [a, b, c, d, e] = [a', b', c', d', e'] ∧ Sharp a' b' c' d' e' ∧ vl a' b' c' d' e' = (if vl a b c d e < 1361129467683753853853498429727072845824 then vl a b c d e else vl a b c d e - 1361129467683753853853498429727072845819) := by
  obtain ⟨s0, s1, s2, s3, s4, h0, h1, h2, h3, h4, hf⟩ := fold_five a b c d e
  obtain ⟨l0, l1, l2, l3, l4⟩ := h.low
  have hch := chain l0 l1 l2 l3 l4 h0 h1 h2 h3 h4
  have hv := hch.val
  have hs := hch.1
  have hb := vl_tight h
  have hsb := vl_sharp hs
  clear h0 h1 h2 h3 h4 hch
  generalize s0 % 67108864 = r0 at *
  generalize s1 % 67108864 = r1 at *
  generalize s2 % 67108864 = r2 at *
  generalize s3 % 67108864 = r3 at *
  generalize s4 % 67108864 = r4 at *
  generalize s4 / 67108864 = o at *
  generalize vl a b c d e = v at *
  refine ⟨_, _, _, _, _, hf, ?_⟩
  obtain ⟨k0, k1, k2, k3, k4⟩ := hs
  by_cases hlt : v < 1361129467683753853853498429727072845824
  · have ho : o = 0 := by omega
    rw [ho, Nat.zero_mul, Nat.add_zero] at hv
    rw [if_pos hlt, ho, zero5 (Nat.lt_trans k0 (by decide))]
    exact ⟨⟨k0, k1, k2, k3, k4⟩, hv⟩
  · have ho : o = 1 := by omega
    subst ho
    rw [if_neg hlt]
    have hr : vl r0 r1 r2 r3 r4 < 5 := by omega
    have hr2 := vl_low r0 r1 r2 r3 r4
    have e0 : (r0 + 5 * 1 % 18446744073709551616) % 18446744073709551616 = r0 + 5 := by
      rw [Nat.mul_one, Nat.mod_eq_of_lt (show 5 < 18446744073709551616 by decide), Nat.mod_eq_of_lt (by omega)]
    rw [e0, vl_add]
    generalize vl r0 r1 r2 r3 r4 = u at *
    exact ⟨⟨by omega, k1, k2, k3, k4⟩, by omega⟩
theorem fold_same (a b c d e : Nat) (h : Sharp a b c d e) : fold [a, b, c, d, e] = [a, b, c, d, e] := by
  obtain ⟨a', b', c', d', e', hf, hs, hv⟩ := fold_sharp a b c d e h.tight
  rw [if_pos (vl_sharp h)] at hv
  rw [hf]
  exact sharp_uniq hs h hv
/-- The reduced value. -/
def rv (v : Nat) : Nat := if v + 5 < 1361129467683753853853498429727072845824 then v else v + 5 - 1361129467683753853853498429727072845824
theorem pick_sharp (a b c d e : Nat) (h : Sharp a b c d e) : ∃ a' b' c' d' e', pick [a, b, c, d, e] = [a', b', c', d', e'] ∧ Sharp a' b' c' d' e' ∧ vl a' b' c' d' e' = rv (vl a b c d e) := by
  obtain ⟨q0, hq0⟩ : ∃ q, q = (a + 5) % 18446744073709551616 := ⟨_, rfl⟩
  obtain ⟨q1, hq1⟩ : ∃ q, q = (b + q0 / 67108864) % 18446744073709551616 := ⟨_, rfl⟩
  obtain ⟨q2, hq2⟩ : ∃ q, q = (c + q1 / 67108864) % 18446744073709551616 := ⟨_, rfl⟩
  obtain ⟨q3, hq3⟩ : ∃ q, q = (d + q2 / 67108864) % 18446744073709551616 := ⟨_, rfl⟩
  obtain ⟨q4, hq4⟩ : ∃ q, q = (e + q3 / 67108864) % 18446744073709551616 := ⟨_, rfl⟩
  have hp : pick [a, b, c, d, e] = if 0 < q4 / 67108864 then [q0 % 67108864, q1 % 67108864, q2 % 67108864, q3 % 67108864, q4 % 67108864] else [a, b, c, d, e] := by
    subst hq4 hq3 hq2 hq1 hq0
    rfl
  obtain ⟨l0, l1, l2, l3, l4⟩ := h.tight.low
  have h5 : a + 5 < 4611686018427387904 := by have := h.1; omega
  have hch := chain h5 l1 l2 l3 l4 hq0 hq1 hq2 hq3 hq4
  have hv := hch.val
  rw [vl_add] at hv
  have hs := hch.1
  have hb := vl_sharp h
  have hsb := vl_sharp hs
  rw [hp]
  clear hq0 hq1 hq2 hq3 hq4 hp hch l0 l1 l2 l3 l4 h5
  by_cases hc : 0 < q4 / 67108864
  · rw [if_pos hc]
    refine ⟨_, _, _, _, _, rfl, hs, ?_⟩
    generalize vl (q0 % 67108864) (q1 % 67108864) (q2 % 67108864) (q3 % 67108864) (q4 % 67108864) = u at *
    generalize vl a b c d e = v at *
    generalize q4 / 67108864 = o at *
    unfold rv
    split <;> omega
  · rw [if_neg hc]
    refine ⟨_, _, _, _, _, rfl, h, ?_⟩
    generalize vl (q0 % 67108864) (q1 % 67108864) (q2 % 67108864) (q3 % 67108864) (q4 % 67108864) = u at *
    generalize vl a b c d e = v at *
    generalize q4 / 67108864 = o at *
    unfold rv
    split <;> omega
theorem mod64 {x : Nat} (h : x < 4611686018427387904) : (x + 0) % 18446744073709551616 = x := by omega
theorem red_tight (a b c d e : Nat) (h : Tight a b c d e) : ∃ a' b' c' d' e', red [a, b, c, d, e] = [a', b', c', d', e'] ∧ Sharp a' b' c' d' e' ∧ vl a' b' c' d' e' = rv (if vl a b c d e < 1361129467683753853853498429727072845824 then vl a b c d e else vl a b c d e - 1361129467683753853853498429727072845819) := by
  obtain ⟨l0, l1, l2, l3, l4⟩ := h.low
  have l5 : a + 5 < 4611686018427387904 := by have := h.1; omega
  have h5 : add [a, b, c, d, e] [5, 0, 0, 0, 0] = [(a + 5) % 18446744073709551616, (b + 0) % 18446744073709551616, (c + 0) % 18446744073709551616, (d + 0) % 18446744073709551616, (e + 0) % 18446744073709551616] := rfl
  rw [mod64 l1, mod64 l2, mod64 l3, mod64 l4, show (a + 5) % 18446744073709551616 = a + 5 by omega] at h5
  obtain ⟨s0, s1, s2, s3, s4, h0, h1, h2, h3, h4, -, ho⟩ := car_five (a + 5) b c d e
  have hch := chain l5 l1 l2 l3 l4 h0 h1 h2 h3 h4
  have hv := hch.val
  rw [vl_add] at hv
  have hsb := vl_sharp hch.1
  have hb := vl_tight h
  obtain ⟨o, hoo⟩ : ∃ o, o = s4 / 67108864 := ⟨_, rfl⟩
  rw [← hoo] at hv ho
  clear hch h0 h1 h2 h3 h4
  generalize vl (s0 % 67108864) (s1 % 67108864) (s2 % 67108864) (s3 % 67108864) (s4 % 67108864) = u at *
  have o1 : o ≤ 1 := by clear h; omega
  have h6 : add [a, b, c, d, e] [5 * o % 18446744073709551616, 0, 0, 0, 0] = [(a + 5 * o % 18446744073709551616) % 18446744073709551616, (b + 0) % 18446744073709551616, (c + 0) % 18446744073709551616, (d + 0) % 18446744073709551616, (e + 0) % 18446744073709551616] := rfl
  have l6 : a + 5 * o < 4611686018427387904 := by have := h.1; omega
  rw [mod64 l1, mod64 l2, mod64 l3, mod64 l4, show (a + 5 * o % 18446744073709551616) % 18446744073709551616 = a + 5 * o by omega] at h6
  obtain ⟨t0, t1, t2, t3, t4, k0, k1, k2, k3, k4, hr, -⟩ := car_five (a + 5 * o) b c d e
  have hch := chain l6 l1 l2 l3 l4 k0 k1 k2 k3 k4
  have hred : red [a, b, c, d, e] = [t0 % 67108864, t1 % 67108864, t2 % 67108864, t3 % 67108864, t4 % 67108864] := by
    unfold red
    rw [h5, ho, h6, hr]
  have hw := hch.val
  rw [vl_add] at hw
  have hsb2 := vl_sharp hch.1
  refine ⟨_, _, _, _, _, hred, hch.1, ?_⟩
  clear hred hr k0 k1 k2 k3 k4 h6 h5 ho hoo hch l0 l1 l2 l3 l4 l5 l6
  generalize vl (t0 % 67108864) (t1 % 67108864) (t2 % 67108864) (t3 % 67108864) (t4 % 67108864) = y at *
  generalize t4 / 67108864 = p at *
  generalize vl a b c d e = v at *
  clear h
  unfold rv
  split <;> split <;> omega
theorem sharp_gl {a b c d e : Nat} (h : Sharp a b c d e) : [a, b, c, d, e] = gl (vl a b c d e) 130 := by
  obtain ⟨h0, h1, h2, h3, h4⟩ := h
  have hg : ∀ V : Nat, gl V 130 = [V % 1361129467683753853853498429727072845824 / 1 % 67108864, V % 1361129467683753853853498429727072845824 / 67108864 % 67108864, V % 1361129467683753853853498429727072845824 / 4503599627370496 % 67108864, V % 1361129467683753853853498429727072845824 / 302231454903657293676544 % 67108864, V % 1361129467683753853853498429727072845824 / 20282409603651670423947251286016 % 67108864] := fun V => by simp [gl, List.range, List.range.loop]
  rw [hg]
  have e0 : vl a b c d e % 1361129467683753853853498429727072845824 / 1 % 67108864 = a := by unfold vl; omega
  have e1 : vl a b c d e % 1361129467683753853853498429727072845824 / 67108864 % 67108864 = b := by unfold vl; omega
  have e2 : vl a b c d e % 1361129467683753853853498429727072845824 / 4503599627370496 % 67108864 = c := by unfold vl; omega
  have e3 : vl a b c d e % 1361129467683753853853498429727072845824 / 302231454903657293676544 % 67108864 = d := by unfold vl; omega
  have e4 : vl a b c d e % 1361129467683753853853498429727072845824 / 20282409603651670423947251286016 % 67108864 = e := by unfold vl; omega
  rw [e0, e1, e2, e3, e4]
/-- What the end of a sum is: the code's reduced limbs and the document's. -/
def Tit (D : List Nat) : Prop := ∃ a b c d e, D = [a, b, c, d, e] ∧ Tight a b c d e
theorem mul_tit (a b : List Nat) : Tit (mul a b) := by
  obtain ⟨x0, x1, x2, x3, x4, hx, h0, h1, h2, h3, h4⟩ := fold_loose (mulTo a b 5) (mulTo_ok a b 5).1
  obtain ⟨y0, y1, y2, y3, y4, hy, ht⟩ := fold_tight x0 x1 x2 x3 x4 h0 h1 h2 h3 h4
  exact ⟨y0, y1, y2, y3, y4, by unfold mul; rw [hx, hy], ht⟩
theorem zeros_tit : Tit zeros := ⟨0, 0, 0, 0, 0, rfl, by unfold Tight; omega⟩
theorem ends (D : List Nat) (h : Tit D) : ∃ a b c d e, Sharp a b c d e ∧ red D = [a, b, c, d, e] ∧ pick (fold (fold (fold (fold D)))) = [a, b, c, d, e] := by
  obtain ⟨a, b, c, d, e, rfl, ht⟩ := h
  obtain ⟨x0, x1, x2, x3, x4, hx, hs, hv⟩ := fold_sharp a b c d e ht
  obtain ⟨y0, y1, y2, y3, y4, hy, hys, hyv⟩ := pick_sharp x0 x1 x2 x3 x4 hs
  obtain ⟨z0, z1, z2, z3, z4, hz, hzs, hzv⟩ := red_tight a b c d e ht
  refine ⟨z0, z1, z2, z3, z4, hzs, hz, ?_⟩
  rw [hx, fold_same _ _ _ _ _ hs, fold_same _ _ _ _ _ hs, fold_same _ _ _ _ _ hs, hy]
  exact sharp_uniq hys hzs (by rw [hyv, hzv, hv])
end Go.Proofs.Ytcglobpklhkebab.RefPoly

namespace Go.Proofs.Ytcglobpklhkebab.RefPoly
open Go.RowKit Mur Lanes Poly
set_option maxRecDepth 100000

theorem ofNat_same {x y : Nat} (h : x % 256 = y % 256) : UInt8.ofNat x = UInt8.ofNat y := by
  apply UInt8.toNat_inj.1
  simpa using h
theorem or3 {a b c : Nat} (ha : a < 67108864) (hb : b < 67108864) : (a ||| b * 67108864 % 18446744073709551616) ||| c * 4503599627370496 % 18446744073709551616 = a + b * 67108864 + c % 4096 * 4503599627370496 := by
  have e1 : b * 67108864 % 18446744073709551616 = b * 67108864 := Nat.mod_eq_of_lt (by omega)
  have e2 : c * 4503599627370496 % 18446744073709551616 = c % 4096 * 4503599627370496 := by
    have e : (18446744073709551616 : Nat) = 4096 * 4503599627370496 := by decide
    rw [e, Nat.mul_mod_mul_right]
  rw [e1, e2]
  have h1 : a ||| b * 67108864 = a + b * 67108864 := or_add a b 26 ha
  have h0 : a + b * 67108864 < 4503599627370496 := by omega
  rw [h1]
  exact or_add (a + b * 67108864) (c % 4096) 52 h0
theorem or4 {c d e : Nat} (hc : c < 67108864) (hd : d < 67108864) : (c / 4096 ||| d * 16384 % 18446744073709551616) ||| e * 1099511627776 % 18446744073709551616 = c / 4096 + d * 16384 + e % 16777216 * 1099511627776 := by
  have e1 : d * 16384 % 18446744073709551616 = d * 16384 := Nat.mod_eq_of_lt (by omega)
  have e2 : e * 1099511627776 % 18446744073709551616 = e % 16777216 * 1099511627776 := by omega
  have e3 : c / 4096 < 16384 := by omega
  rw [e1, e2]
  generalize c / 4096 = k at *
  have h1 : k ||| d * 16384 = k + d * 16384 := or_add k d 14 e3
  have h0 : k + d * 16384 < 1099511627776 := by omega
  rw [h1]
  exact or_add (k + d * 16384) (e % 16777216) 40 h0
theorem word_byte (U i : Nat) (_ : i < 16) : U / 2 ^ (32 * (i / 4)) % 4294967296 / 2 ^ (8 * (i % 4)) % 256 = U / 2 ^ (8 * i) % 256 := by
  have e : (4294967296 : Nat) = 2 ^ (8 * (i % 4)) * (256 * 2 ^ (24 - 8 * (i % 4))) := by
    rw [show (256 : Nat) = 2 ^ 8 from rfl, ← Nat.pow_add, ← Nat.pow_add, show 8 * (i % 4) + (8 + (24 - 8 * (i % 4))) = 32 by omega]
  rw [e, Nat.mod_mul_right_div_self, Nat.mod_mod_of_dvd _ (Nat.dvd_mul_right _ _), Nat.div_div_eq_div_mul, ← Nat.pow_add, show 32 * (i / 4) + 8 * (i % 4) = 8 * i by omega]
theorem closing_sum {a b c d e : Nat} (h : Sharp a b c d e) (l : List UInt8) (hl : l.length = 16) : closing [a, b, c, d, e] l = sumTo (vl a b c d e + Limb.num l) 16 := by
  obtain ⟨h0, h1, h2, h3, h4⟩ := h
  have hN : Limb.num l < 340282366920938463463374607431768211456 := by
    have := Limb.num_lt l
    rw [hl] at this
    exact this
  have n1 : low l = Limb.num l % 18446744073709551616 := Limb.low_num l
  have n2 : low (l.drop 8) = Limb.num l / 18446744073709551616 := by
    have hd := Limb.num_drop l 8 (by omega)
    rw [Limb.low_num, ← hd]
    rw [show (2 : Nat) ^ (8 * 8) = 18446744073709551616 from rfl]
    omega
  have w1 : lowW [a, b, c, d, e] = a + b * 67108864 + c % 4096 * 4503599627370496 := or3 h0 h1
  have w2 : highW [a, b, c, d, e] = c / 4096 + d * 16384 + e % 16777216 * 1099511627776 := or4 h2 h3
  obtain ⟨U, hU⟩ : ∃ U, U = vl a b c d e + Limb.num l := ⟨_, rfl⟩
  obtain ⟨x, hx⟩ : ∃ x, x = lowW [a, b, c, d, e] := ⟨_, rfl⟩
  obtain ⟨y, hy⟩ : ∃ x, x = highW [a, b, c, d, e] := ⟨_, rfl⟩
  have hv : vl a b c d e = x + y * 18446744073709551616 + e / 16777216 * 340282366920938463463374607431768211456 := by
    rw [hx, hy, w1, w2]
    unfold vl
    clear n1 n2 w1 w2 hU hx hy hN
    omega
  have s1 : sumLow [a, b, c, d, e] l = U % 18446744073709551616 := by
    unfold sumLow
    rw [n1, ← hx, hU, hv]
    omega
  have s2 : sumHigh [a, b, c, d, e] l = U / 18446744073709551616 % 18446744073709551616 := by
    unfold sumHigh
    rw [n1, n2, ← hx, ← hy, hU, hv]
    omega
  rw [← hU]
  unfold closing
  rw [s1, s2]
  clear n1 n2 w1 w2 hU hx hy hv s1 s2 hN
  unfold text sumTo
  refine List.map_congr_left fun i hi => ?_
  have hi : i < 16 := by simpa using hi
  rw [if_pos hi]
  refine ofNat_same ?_
  rw [← word_byte U i hi]
  have hq : [U % 18446744073709551616 % 4294967296, U % 18446744073709551616 / 4294967296, U / 18446744073709551616 % 18446744073709551616 % 4294967296, U / 18446744073709551616 % 18446744073709551616 / 4294967296].getD (i / 4) 0 = U / 2 ^ (32 * (i / 4)) % 4294967296 := by
    have : i / 4 < 4 := by omega
    generalize i / 4 = q at *
    match q, this with
    | 0, _ => show U % 18446744073709551616 % 4294967296 = U / 1 % 4294967296; omega
    | 1, _ => show U % 18446744073709551616 / 4294967296 = U / 4294967296 % 4294967296; omega
    | 2, _ => show U / 18446744073709551616 % 18446744073709551616 % 4294967296 = U / 18446744073709551616 % 4294967296; omega
    | 3, _ => show U / 18446744073709551616 % 18446744073709551616 / 4294967296 = U / 79228162514264337593543950336 % 4294967296; omega
  rw [hq]
  rfl
theorem sums_tit (r : List Nat) (l : List UInt8) (k : Nat) : Tit (sums r l k) := by
  cases k with
  | zero => exact zeros_tit
  | succ k => exact mul_tit _ _
theorem tag_says (key s T : ByteArray) (u : World) (hk : key.size = 32) (hs : s.size ≤ 4194304) (hT : T = ⟨(tag key.data.toList s.data.toList).toArray⟩) :
    Calls Try.prog 6 #[.string key, .string s] u fun e w' => e = .returned (.tuple #[.string T, .int .i64 0]) ∧ Below u.heap.size u w' := by
  obtain ⟨F, hF⟩ : ∃ F : ByteArray, F = ⟨(fac key.data.toList).toArray⟩ := ⟨_, rfl⟩
  obtain ⟨r, hr⟩ : ∃ R, R = limbs F.data.toList := ⟨_, rfl⟩
  obtain ⟨N, hN⟩ : ∃ N, N = (s.size + 15) / 16 := ⟨_, rfl⟩
  have hx : (key.extract 16 key.size).size = 16 := by rw [ByteArray.size_extract]; omega
  obtain ⟨a, b, c, d, e, hsh, hred, hpick⟩ := ends (sums r s.data.toList N) (sums_tit _ _ _)
  have hT2 : T = ⟨(sumTo (vl a b c d e + Limb.num (key.extract 16 key.size).data.toList) 16).toArray⟩ := by
    rw [← closing_sum hsh (key.extract 16 key.size).data.toList hx, ← hred, rest_drop, hT, hr, hF, hN]
    rfl
  exact tag_walk key s T F r (sums r s.data.toList) N u hk hs hF hr hN (fun k => sums_ok _ _ _) rfl (fun k => rfl)
    (fun v => bytes_any (sums r s.data.toList N) _ [a, b, c, d, e] (vl a b c d e) (key.extract 16 key.size) T v (sums_ok _ _ _) rfl hpick (sharp_gl hsh) hx hT2)
end Go.Proofs.Ytcglobpklhkebab.RefPoly
