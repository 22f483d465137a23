/-
  rightGone, Right and buddies of package roster answer what the plain mathematics of the text Ros says, and leave all memory that was there as it was. Conditions: RosR.
-/
import Derived.Test.YtofnjonmfgdpaaaRosG
namespace Go.Proofs.Ytofnjonmfgdpaaa.Ros
open Go.RowKit Mur Prt Go.Maps
set_option maxRecDepth 100000

def okGone (r : R) : Bool := decide (r.gone.length ≤ 10) && r.gone.all (member r) && rising r.gone
theorem right_parts (r : R) : right r = ((decide (1 ≤ (r.group.length : Int)) && decide ((r.group.length : Int) ≤ 8)) && ((decide (1 ≤ r.servers) && decide (r.servers ≤ 4)) && ((decide (1 ≤ r.clients) && decide (r.clients ≤ 6)) && (decide ((r.buddies.length : Int) = r.clients) && okGone r)))) := by
  unfold right okGone
  have e1 : decide (1 ≤ (r.group.length : Int)) = decide (1 ≤ r.group.length) := decide_eq_decide.2 (by omega)
  have e2 : decide ((r.group.length : Int) ≤ 8) = decide (r.group.length ≤ 8) := decide_eq_decide.2 (by omega)
  rw [e1, e2]
  simp only [Bool.and_assoc]
theorem okGone_iff (r : R) : okGone r = true ↔ r.gone.length ≤ 10 ∧ (∀ m ∈ r.gone, member r m = true) ∧ rising r.gone = true := by
  simp only [okGone, Bool.and_eq_true, decide_eq_true_eq, List.all_eq_true, and_assoc]

set_option maxHeartbeats 1600000 in
theorem rightGone_any (r : R) (b : Bool) (g : ByteArray) (ab ag : Option Addr) (nb cb ng cg : Nat) (w : World) (hb : b = okGone r) (h : RosR w r g ab nb ag ng) :
    Calls Try.prog 37 #[.agg #[.string g, .int .i64 r.servers, .int .i64 r.clients, .slice ab nb cb, .slice ag ng cg]] w fun e w' => e = .returned (.bool b) ∧ Below w.heap.size w w' := by
  have HX := Lib.hid (box_five w (.string g) (.int .i64 r.servers) (.int .i64 r.clients) (.slice ab nb cb) (.slice ag ng cg) 24)
  have HG := Lib.hid h.gones
  have HN := Lib.hid h.ngones
  have HF := Lib.hid h.fitG
  have hfew := h.fewG
  have HBB := Lib.hid hb
  have RM := Lib.hid (fun (x : Int) (y : Bool) (hy : y = member r x) (hx : -9223372036854775808 ≤ x ∧ x ≤ 9223372036854775807) (u : World) => member_any r x y g ab ag nb cb ng cg u hy hx.1 hx.2)
  clear h hb
  go_enter Try.func37, Try.ntmps37
  go_upto_region 1 with (fail)
  generalize w.alloc (.cells #[.string g, .int .i64 r.servers, .int .i64 r.clients, .slice ab nb cb, .slice ag ng cg] 24) = w0 at *
  obtain ⟨c0, c1, c2, c3, c4⟩ := HX.out.2.2 w0 (Below.refl _ _)
  by_cases h10 : 10 < ng
  · have hbf : b = false := by
      rw [HBB.out, ← Bool.not_eq_true, okGone_iff, HN.out]
      omega
    subst hbf
    have hd : decide (10 < (ng : Int)) = true := decide_eq_true (by omega)
    go_wp2
    go_ret
    exact ⟨rfl, HX.out.1⟩
  · have hd : decide (10 < (ng : Int)) = false := decide_eq_false (by omega)
    go_wp2
    clear c0 c1 c2 c3 c4 hd
    go_loopw [12] (fun i wr => ∃ j : Nat, j ≤ ng ∧ i = .int .i64 j ∧ (∀ q x, q < j → r.gone[q]? = some x → member r x = true) ∧ (∀ q x y, q + 1 < j → r.gone[q]? = some x → r.gone[q + 1]? = some y → x < y) ∧ Below w0.heap.size w0 wr) (fun i _ => ng - (intOf i).toNat)
    case atStart => exact ⟨0, by omega, rfl, (fun q x hq => absurd hq (by omega)), (fun q x y hq => absurd hq (by omega)), Below.refl _ _⟩
    case round =>
      obtain ⟨j, hj, rfl, hm, hr, hbel⟩ := hrel
      have HW := Lib.hid hbel
      have HM := Lib.hid hm
      have HR := Lib.hid hr
      clear hm hr
      obtain ⟨c0, c1, c2, c3, c4⟩ := HX.out.2.2 wr hbel
      clear hbel
      by_cases hlt : j < ng
      · obtain ⟨gb, o, rfl, hgb, hgc⟩ := HG.out (by have := HN.out; omega)
        obtain ⟨x, hx⟩ : ∃ x, r.gone[j]? = some x := ⟨_, List.getElem?_eq_getElem (by have := HN.out; omega)⟩
        have hxm := List.mem_of_getElem? hx
        have hlo : ∀ u, Below w0.heap.size w0 u → ∀ i z, r.gone[i]? = some z → u.cell? ⟨gb, o + i, none⟩ = some (.int .i64 z) := fun u hu i z hz => ((HX.out.1.trans (hu.mono HX.out.1.size)).cell (p := ⟨gb, o + i, none⟩) hgb).trans (hgc i z hz)
        have HLO := Lib.hid hlo
        have cx := hlo wr HW.out j x hx
        have HXJ := Lib.hid hx
        have HXM := Lib.hid hxm
        obtain ⟨y, hy⟩ : ∃ y, y = member r x := ⟨_, rfl⟩
        have R1 := Lib.hid (RM.out x y hy (HF.out x hxm))
        have HY := Lib.hid hy
        clear hlo hgc hgb hx hxm hy
        cases y with
        | false =>
          have hbf : b = false := by
            rw [HBB.out, ← Bool.not_eq_true, okGone_iff]
            rintro ⟨_, h2, _⟩
            have := h2 x HXM.out
            rw [← HY.out] at this
            cases this
          subst hbf
          go_wp2_with fail
          refine (R1.out _).mono ?_
          rintro e w1 ⟨rfl, hb1⟩
          have HB1 := Lib.hid (HW.out.trans (hb1.mono HW.out.size))
          clear hb1 cx c0 c1 c2 c3 c4
          go_wp2
          go_ret
          exact ⟨rfl, HX.out.1.trans (HB1.out.mono HX.out.1.size)⟩
        | true =>
          go_wp2_with fail
          refine (R1.out _).mono ?_
          rintro e w1 ⟨rfl, hb1⟩
          have hbel := HW.out.trans (hb1.mono HW.out.size)
          have HB1 := Lib.hid hbel
          clear hb1 cx c0 c1 c2 c3 c4
          obtain ⟨c0, c1, c2, c3, c4⟩ := HX.out.2.2 w1 hbel
          clear hbel
          have hmn : ∀ q z, q < j + 1 → r.gone[q]? = some z → member r z = true := fun q z hq hz => by
            rcases Nat.lt_or_ge q j with h1 | h1
            · exact HM.out q z h1 hz
            · obtain rfl : q = j := by omega
              rw [HXJ.out] at hz
              cases hz
              exact HY.out.symm
          have HMN := Lib.hid hmn
          clear hmn
          cases j with
          | zero =>
            have hd : decide ((0 : Int) < ((0 : Nat) : Int)) = false := decide_eq_false (by omega)
            have hd2 : decide (0 < 0) = false := rfl
            go_wp2
            go_roundw
            case rel => exact ⟨1, by omega, by go_num, HMN.out, (fun q a c hq => absurd hq (by omega)), HB1.out⟩
            case measure => simp [intOf]; omega
          | succ k =>
            obtain ⟨z, hz⟩ : ∃ z, r.gone[k]? = some z := ⟨_, List.getElem?_eq_getElem (by have := HN.out; omega)⟩
            have cz := HLO.out w1 HB1.out k z hz
            have HZ := Lib.hid hz
            have hd : decide ((0 : Int) < (k : Int) + 1) = true := decide_eq_true (by omega)
            have hw : wrap64 ((k : Int)) = (k : Int) := by unfold wrap64; omega
            have hw2 : wrap64 ((k : Int) + 1 - 1) = (k : Int) := by unfold wrap64; omega
            clear hz
            by_cases hle : x ≤ z
            · have hbf : b = false := by
                rw [HBB.out, ← Bool.not_eq_true, okGone_iff, rising_steps]
                rintro ⟨_, _, h3⟩
                have := h3 k z x HZ.out HXJ.out
                omega
              subst hbf
              have hdl : decide (x ≤ z) = true := decide_eq_true hle
              go_wp2
              go_ret
              exact ⟨rfl, HX.out.1.trans (HB1.out.mono HX.out.1.size)⟩
            · have hdl : decide (x ≤ z) = false := decide_eq_false hle
              have hrn : ∀ q a c, q + 1 < k + 2 → r.gone[q]? = some a → r.gone[q + 1]? = some c → a < c := fun q a c hq ha hc => by
                rcases Nat.lt_or_ge q k with h1 | h1
                · exact HR.out q a c (by omega) ha hc
                · obtain rfl : q = k := by omega
                  rw [HZ.out] at ha
                  rw [HXJ.out] at hc
                  cases ha
                  cases hc
                  omega
              have HRN := Lib.hid hrn
              clear hrn
              go_wp2
              go_roundw
              case rel => exact ⟨k + 2, by omega, by go_num, HMN.out, HRN.out, HB1.out⟩
              case measure => simp [intOf]; omega
      · obtain rfl : j = ng := by omega
        have hbf : b = true := by
          rw [HBB.out, okGone_iff]
          refine ⟨by rw [HN.out]; omega, fun m hm => ?_, (rising_steps _).2 fun i a c ha hc => ?_⟩
          · obtain ⟨q, hq, rfl⟩ := List.getElem_of_mem hm
            exact HM.out q _ (by have := HN.out; omega) (List.getElem?_eq_getElem hq)
          · have := (List.getElem?_eq_some_iff.1 hc).1
            exact HR.out i a c (by have := HN.out; omega) ha hc
        subst hbf
        go_wp2
        go_ret
        exact ⟨rfl, HX.out.1.trans (HW.out.mono HX.out.1.size)⟩
end Go.Proofs.Ytofnjonmfgdpaaa.Ros
