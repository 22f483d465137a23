/-
  ranks of package book: the places of bytes, by counting: what the plain mathematics of the text Bkp says; all memory that was there is left as it was. Condition: at most 1000000 bytes.
-/
import Derived.Test.YtdhipdoaefdfeaaGreatDoorBkX
import Derived.Test.YtdhipdoaefdfeaaGreatDoorBkq
namespace Go.Proofs.YtdhipdoaefdfeaaGreatDoor.Bkb
open Go.RowKit Mur Prt Lanes Tap Bkl Bkm Rec Cel Bkr Bkp
set_option maxRecDepth 100000
set_option linter.unusedSimpArgs false

theorem arr_zero : (Tryz.prog.info? 99).map (fun i => (i.zero, i.size)) = some (some (.agg (arrV fun _ => 0).toArray), (arrV fun _ => 0).length) := by kernel_rfl
theorem arr_row (f : Nat → Nat) : Hold.TyRow Tryz.prog 99 (arrV f).length := by
  rw [arrV_length]
  exact ⟨_, Tryz.underlying99, rfl, by kernel_rfl⟩
/-- Places told so far. -/
def outV (l : List UInt8) (i N : Nat) : List Value := (List.range N).map fun j => .int .i64 ((if j < i then rank l j else 0 : Nat) : Int)
theorem outV_length (l : List UInt8) (i N : Nat) : (outV l i N).length = N := by simp [outV]
theorem outV_at (l : List UInt8) (i N j : Nat) (h : j < N) : (outV l i N)[j]? = some (.int .i64 ((if j < i then rank l j else 0 : Nat) : Int)) := by simp [outV, h]
theorem outV_next (l : List UInt8) (i N : Nat) : (outV l i N).set i (.int .i64 (rank l i : Int)) = outV l (i + 1) N := by
  apply List.ext_getElem?
  intro j
  rw [List.getElem?_set]
  by_cases hj : j < N
  · rw [outV_at _ _ _ j hj, outV_at _ _ _ j hj, outV_length]
    by_cases h : i = j
    · subst h
      rw [if_pos rfl, if_pos hj, if_pos (by omega)]
    · rw [if_neg h]
      by_cases h2 : j < i
      · rw [if_pos h2, if_pos (by omega)]
      · rw [if_neg h2, if_neg (by omega)]
  · rw [List.getElem?_eq_none (by rw [outV_length]; omega), List.getElem?_eq_none (by rw [outV_length]; omega), outV_length]
    split
    · rw [if_neg (by omega)]
    · rfl
theorem outV_zero (l : List UInt8) (N : Nat) : outV l 0 N = List.replicate N (.int .i64 0) := by
  apply List.ext_getElem
  · simp [outV]
  · intro j h1 h2
    simp [outV]
theorem make_ints (N : Nat) (hN : N ≤ 1000000) (l : List UInt8) (u : World) : (Instr.makeSlice 44 (.int .i64 (N : Int)) (.int .i64 (N : Int))).run Tryz.prog u = .ok (.slice (some ⟨u.heap.size, 0, none⟩) N N) (u.alloc (.cells (outV l 0 N).toArray 3)) := by
  obtain ⟨i0, hi, hz0, hz1, hz2⟩ := info_parts (show (Tryz.prog.info? 3).map (fun i => (i.zero, i.size, i.bytes)) = some (some (.int .i64 0), 1, 8) by kernel_rfl)
  have hb2 : (i0.bytes : Int) * (N : Int) ≤ 281474976710656 := by rw [hz2]; omega
  have h := run_make (P := Tryz.prog) u 44 3 i0 _ Tryz.underlying44 hi hz0 .i64 .i64 (N : Int) (N : Int) (by omega) (by omega) hb2 (by omega)
  rw [h, outV_zero]
  have e : ((N : Int)).toNat = N := by omega
  rw [e]
  have e2 : (madeCells (Value.int .i64 0).cells (N * i0.size)) = (List.replicate N (Value.int .i64 0)).toArray := by
    apply Array.toList_inj.1
    rw [hz1, Nat.mul_one]
    show (madeCells #[Value.int .i64 0] N).toList = _
    rw [toList_madeCells_one, List.toList_toArray]
  rw [e2]
theorem idx_any (F : Nat → Nat) (k : Nat) (hk : k < 256) (u : World) : (Instr.index 99 (.agg (arrV F).toArray) (.int .i64 (k : Int))).run Tryz.prog u = .ok (.int .i64 (F k : Int)) u := by
  have hu : Tryz.prog.underlying 99 = some (.array 256 3) := Tryz.underlying99
  have hag : (isAgg 3).run Tryz.prog u = .ok false u := by
    unfold isAgg
    simp [Sem.run_bind, run_underlying Tryz.underlying3]
  have hsz : (Go.sizeOf 3).run Tryz.prog u = .ok 1 u := by go_simp
  have h1 : (0 : Int) ≤ (k : Int) ∧ (k : Int) < 256 := by omega
  have e : (arrV F).toArray[k]? = some (.int .i64 (F k : Int)) := by rw [List.getElem?_toArray]; exact arrV_at F k hk
  unfold Instr.index
  simp [Sem.run_bind, asIntOf, run_underlying hu, part, hag, hsz, h1, arrV_at F k hk]
  intro h
  omega
set_option maxHeartbeats 3200000 in
theorem ranks_any (s : ByteArray) (L : List Nat) (N : Nat) (w : World) (hL : L = perm s.data.toList) (hN : L.length = N) (hs : s.size ≤ 1000000) :
    Calls Tryz.prog 28 #[.string s] w fun e w' => ∃ a c, e = .returned (.slice a N c) ∧ N ≤ c ∧ NumR w' a L ∧ (∀ q, a = some q → w.heap.size ≤ q.block) ∧ Below w.heap.size w w' := by
  obtain ⟨w0, hw0⟩ : ∃ w0, w0 = w := ⟨w, rfl⟩
  subst hw0
  have hsz : s.data.toList.length = s.size := rfl
  have hNs : N = s.size := by rw [← hN, hL, perm_length, hsz]
  subst hNs
  obtain ⟨l, hl⟩ : ∃ l, l = s.data.toList := ⟨_, rfl⟩
  rw [← hl] at hL hsz
  have hidx : ∀ (j : Nat) (x : UInt8), l[j]? = some x → ∀ u, (Instr.index 9 (.string s) (.int .i64 (j : Int))).run Tryz.prog u = .ok (.int .u8 (x.toNat : Int)) u := fun j x hx u => by
    have hj : j < s.size := by rw [← hsz]; exact (List.getElem?_eq_some_iff.1 hx).1
    rw [run_index_string (P := Tryz.prog) u 9 s .i64 (j : Int) Tryz.underlying9, dif_pos ⟨by omega, by omega⟩]
    have : s[((j : Int)).toNat]'(by omega) = x := by
      obtain ⟨h1, h2⟩ := List.getElem?_eq_some_iff.1 hx
      rw [← h2]
      subst hl
      rfl
    rw [this]
  have HI := Lib.hid hidx
  have HSZ := Lib.hid hsz
  have HL := Lib.hid hL
  have HM := Lib.hid (Hold.Hld.start w0)
  have HMK := Lib.hid (make_ints s.size hs l)
  have HA := Lib.hid (idx_any (cnt2 l 0))
  clear hidx hsz hL hl hN
  go_enter Tryz.func28, Tryz.ntmps28
  go_wp2_with ((with_reducible refine Hold.alloc HM.out rfl rfl (arrV fun _ => 0) arr_zero ?_; clear HM; intro b1 w HM; simp only [List.nil_append] at HM; replace HM := Lib.hid HM))
  go_loopw [12, 4] (fun i x4 wr => ∃ j : Nat, j ≤ s.size ∧ i = .int .i64 (j : Int) ∧ Hold.Hld w0 [⟨b1, 99, arrV (cnt1 l j)⟩] wr) (fun i _ _ => s.size - (intOf i).toNat)
  case atStart => exact ⟨0, by omega, rfl, by rw [cnt1_zero]; exact HM.out⟩
  case round =>
    clear HM
    obtain ⟨j, hj, rfl, hm⟩ := hrel
    have HM := Lib.hid hm
    clear hm
    by_cases hlt : j < s.size
    · obtain ⟨x, hx⟩ : ∃ x, l[j]? = some x := ⟨_, List.getElem?_eq_getElem (by have := HSZ.out; omega)⟩
      have hix := HI.out j x hx
      have hx256 : x.toNat < 256 := x.toNat_lt
      have hx256i : (x.toNat : Int) < 256 := by omega
      have hx0 : (0 : Int) ≤ (x.toNat : Int) := by omega
      have hlt2 : (j : Int) < (s.size : Int) := by omega
      obtain ⟨y, hy⟩ : ∃ y : Int, y = (cnt1 l j x.toNat : Nat) := ⟨_, rfl⟩
      have hyb : cnt1 l j x.toNat ≤ 1000000 := Nat.le_trans (eqs_le _ _) (by rw [List.length_take]; have := HSZ.out; omega)
      have hw : wrap64 (y + 1) = y + 1 := by unfold wrap64; omega
      have c1 : wr.cell? ⟨b1, x.toNat, none⟩ = some (.int .i64 y) := (HM.out.at 0 rfl).row.cell (by rw [hy]; exact arrV_at _ _ hx256)
      have c2 : wr.frozen? ⟨b1, x.toNat, none⟩ = false := (HM.out.at 0 rfl).row.free (by rw [arrV_length]; exact hx256)
      have HN := Lib.hid (show (arrV (cnt1 l j)).set x.toNat (.int .i64 (y + 1)) = arrV (cnt1 l (j + 1)) by rw [cnt1_next l j x hx, ← arrV_bump, hy]; rfl)
      clear hy hyb hx
      generalize x.toNat = X at *
      go_wp2
      go_roundw
      case rel => exact ⟨j + 1, by omega, by go_num, by rw [← HN.out]; exact HM.out.set 0 rfl X [.int .i64 (y + 1)]⟩
      case measure => simp [intOf]; omega
    · obtain rfl : j = s.size := by omega
      rw [show cnt1 l s.size = cnt2 l 0 by rw [cnt2_zero, HSZ.out]] at HM
      have HR := Lib.hid (arr_row (cnt2 l 0))
      clear hlt
      go_upto_region 9 with ((with_reducible refine Hold.load HM.out 0 (cs := arrV (cnt2 l 0)) rfl rfl rfl rfl (Hold.Part.all _) HR.out ?_))
      go_loopw [24, 5, 6, 7] (fun i le x6 x7 wq => ∃ k : Nat, k ≤ 256 ∧ i = .int .i64 (k : Int) ∧ le = .int .i64 (less l k : Nat) ∧ Hold.Hld w0 [⟨b1, 99, arrV (cnt2 l k)⟩] wq) (fun i _ _ _ _ => 256 - (intOf i).toNat)
      case atStart => exact ⟨0, by omega, rfl, by rw [less_zero]; rfl, HM.out⟩
      case round =>
        clear HM HR
        obtain ⟨k, hk, rfl, rfl, hm⟩ := hrel
        have HM := Lib.hid hm
        clear hm
        by_cases hlt : k < 256
        · have hix := HA.out k hlt
          have hlt2 : (k : Int) < 256 := by omega
          have hk0 : (0 : Int) ≤ (k : Int) := by omega
          have c1 : wr.cell? ⟨b1, k, none⟩ = some (.int .i64 (cnt2 l k k : Nat)) := (HM.out.at 0 rfl).row.cell (arrV_at _ _ hlt)
          have c2 : wr.frozen? ⟨b1, k, none⟩ = false := (HM.out.at 0 rfl).row.free (by rw [arrV_length]; exact hlt)
          have HN := Lib.hid (show (arrV (cnt2 l k)).set k (.int .i64 (less l k : Nat)) = arrV (cnt2 l (k + 1)) by rw [cnt2_next, ← arrV_put])
          obtain ⟨y, hy⟩ : ∃ y : Int, y = (less l k : Nat) := ⟨_, rfl⟩
          obtain ⟨z, hz⟩ : ∃ z : Int, z = (cnt2 l 0 k : Nat) := ⟨_, rfl⟩
          have hb1 : less l (k + 1) ≤ 1000000 := Nat.le_trans (less_le _ _) (by have := HSZ.out; omega)
          have hyz : y + z = (less l (k + 1) : Nat) := by
            rw [less_succ, hy, hz]
            show _ = ((less l k + eqs l k : Nat) : Int)
            rw [show cnt2 l 0 k = eqs l k by unfold cnt2; rw [if_neg (by omega)]]
            omega
          have hw : wrap64 (y + z) = y + z := by rw [hyz]; unfold wrap64; omega
          have HYZ := Lib.hid hyz
          rw [← hy] at HN ⊢
          rw [← hz] at hix
          generalize ((cnt2 l k k : Nat) : Int) = q at c1
          clear hy hz hb1 hyz
          go_wp2
          go_roundw
          case rel => exact ⟨k + 1, by omega, by go_num, by rw [← HYZ.out, hw], by rw [← HN.out]; exact HM.out.set 0 rfl k [.int .i64 y]⟩
          case measure => simp [intOf]; omega
        · obtain rfl : k = 256 := by omega
          rw [show arrV (cnt2 l 256) = arrV (cnt3 l 0) from arrV_ext _ _ fun v hv => cnt3_zero l v hv] at HM
          clear hlt
          go_upto_region 16 with ((at_make; refine Hold.make HM.out rfl rfl rfl rfl HMK.out ?_; clear HM; intro b2 w2 HM; simp only [List.nil_append, List.cons_append] at HM; replace HM := Lib.hid HM))
          go_loopw [40, 9] (fun i x9 wq => ∃ j : Nat, j ≤ s.size ∧ i = .int .i64 (j : Int) ∧ Hold.Hld w0 [⟨b1, 99, arrV (cnt3 l j)⟩, ⟨b2, 3, outV l j s.size⟩] wq) (fun i _ _ => s.size - (intOf i).toNat)
          case atStart => exact ⟨0, by omega, rfl, HM.out⟩
          case round =>
            clear HM
            obtain ⟨j, hj, rfl, hm⟩ := hrel
            have HM := Lib.hid hm
            clear hm
            by_cases hlt : j < s.size
            · obtain ⟨x, hx⟩ : ∃ x, l[j]? = some x := ⟨_, List.getElem?_eq_getElem (by have := HSZ.out; omega)⟩
              have hix := HI.out j x hx
              have hx256 : x.toNat < 256 := x.toNat_lt
              have hx256i : (x.toNat : Int) < 256 := by omega
              have hx0 : (0 : Int) ≤ (x.toNat : Int) := by omega
              have hlt2 : (j : Int) < (s.size : Int) := by omega
              have hj0 : (0 : Int) ≤ (j : Int) := by omega
              obtain ⟨y, hy⟩ : ∃ y : Int, y = (cnt3 l j x.toNat : Nat) := ⟨_, rfl⟩
              have hyb : cnt3 l j x.toNat ≤ 2000000 := by
                have h1 := less_le l x.toNat
                have h2 := eqs_le (l.take j) x.toNat
                rw [List.length_take] at h2
                have := HSZ.out
                show less l x.toNat + eqs (l.take j) x.toNat ≤ _
                omega
              have hw : wrap64 (y + 1) = y + 1 := by unfold wrap64; omega
              have c1 : wr.cell? ⟨b1, x.toNat, none⟩ = some (.int .i64 y) := (HM.out.at 0 rfl).row.cell (by rw [hy]; exact arrV_at _ _ hx256)
              have c2 : wr.cell? ⟨b2, j, none⟩ = some (.int .i64 ((if j < j then rank l j else 0 : Nat) : Int)) := (HM.out.at 1 rfl).row.cell (outV_at _ _ _ _ hlt)
              have c3 : wr.frozen? ⟨b2, j, none⟩ = false := (HM.out.at 1 rfl).row.free (by rw [outV_length]; exact hlt)
              have HN := Lib.hid (show (arrV (cnt3 l j)).set x.toNat (.int .i64 (y + 1)) = arrV (cnt3 l (j + 1)) by rw [cnt3_next l j x hx, ← arrV_bump, hy]; rfl)
              have HO := Lib.hid (show (outV l j s.size).set j (.int .i64 y) = outV l (j + 1) s.size by rw [hy, cnt3_rank l j x hx]; exact outV_next l j s.size)
              have HG := Lib.hid (show (arrV (cnt3 l j))[x.toNat]? = some (.int .i64 y) by rw [hy]; exact arrV_at _ _ hx256)
              have HLN := Lib.hid (show x.toNat < (arrV (cnt3 l j)).length by rw [arrV_length]; exact hx256)
              generalize ((if j < j then rank l j else 0 : Nat) : Int) = q at c2
              clear hy hyb hx
              generalize x.toNat = X at *
              go_upto_region 19 with fail
              have hm := HM.out.set 1 rfl j [.int .i64 y]
              have hm2 : Hold.Hld w0 [⟨b1, 99, arrV (cnt3 l j)⟩, ⟨b2, 3, outV l (j + 1) s.size⟩] (wr.setCell ⟨b2, j, none⟩ (.int .i64 y)) := by rw [← HO.out]; exact hm
              clear hm c1 c2 c3
              generalize wr.setCell ⟨b2, j, none⟩ (.int .i64 y) = w3 at *
              have HM2 := Lib.hid hm2
              clear hm2 HM
              have c1 : w3.cell? ⟨b1, X, none⟩ = some (.int .i64 y) := (HM2.out.at 0 rfl).row.cell HG.out
              have c2 : w3.frozen? ⟨b1, X, none⟩ = false := (HM2.out.at 0 rfl).row.free HLN.out
              go_wp2
              go_roundw
              case rel => exact ⟨j + 1, by omega, by go_num, by rw [← HN.out]; exact HM2.out.set 0 rfl X [.int .i64 (y + 1)]⟩
              case measure => simp [intOf]; omega
            · obtain rfl : j = s.size := by omega
              clear hlt
              go_wp2
              go_ret
              have hlw := (HM.out.at 1 rfl).lt
              refine ⟨some ⟨b2, 0, none⟩, s.size, rfl, Nat.le_refl _, ?_, (fun q hq => by cases hq; exact HM.out.old ⟨b2, 3, outV l s.size s.size⟩ (by simp)), HM.out.below⟩
              intro hl0
              refine ⟨b2, 0, rfl, hlw, fun i x hx k u hu => ?_⟩
              have hk : k = 0 := by
                have := (List.getElem?_eq_some_iff.1 hu).1
                simp [numV] at this
                omega
              subst hk
              rw [HL.out] at hx
              have hil : i < l.length := by rw [← perm_length]; exact (List.getElem?_eq_some_iff.1 hx).1
              rw [perm_get l i hil] at hx
              cases hx
              cases hu
              have hc := (HM.out.at 1 rfl).row.cell (outV_at l s.size s.size i (by have := HSZ.out; omega))
              rw [if_pos (by have := HSZ.out; omega)] at hc
              rw [Nat.zero_add, Nat.mul_one, Nat.add_zero]
              exact hc
end Go.Proofs.YtdhipdoaefdfeaaGreatDoor.Bkb
