/-
  PartsLay: any numbers and texts as bytes are the document's: for every list of numbers and every list of texts the law answers true and changes nothing that was there. Condition: none.
-/
import Derived.Test.YtdmboijjkalefaaRows
import Derived.Test.YtdmboijjkalefaaRPrtB
import Derived.Test.YtdmboijjkalefaaPrtCmp
import Derived.Test.YtdmboijjkalefaaLawPOpen
namespace Go.Proofs.Ytdmboijjkalefaa.LawPLay
open Go.ChangeShapes Go.WideShapes Go.ChangeAt Go.RowKit Mur Lanes Prt
open Go.ChangeMaps (open_string shut_string)
set_option maxRecDepth 100000

theorem same_text (x : ByteArray) : (!(x.toList == x.toList)) = false := by simp
theorem same_int (x : Int) : (x != x) = false := by simp

set_option maxHeartbeats 6400000 in
theorem walk (zs : List Int) (n : Nat) (a : Option Addr) (cap : Nat) (ss : List ByteArray) (m : Nat) (a2 : Option Addr) (cap2 : Nat) (w : World) (hr : IntsR w a zs) (hn : zs.length = n) (hz : ∀ z ∈ zs, -9223372036854775808 ≤ z ∧ z ≤ 9223372036854775807)
    (hr2 : StrsR w a2 ss) (hm : ss.length = m) (hz2 : ∀ z ∈ ss, z.size ≤ 9223372036854775807) :
    Calls Try.prog 3 #[.slice a n cap, .slice a2 m cap2] w fun e w' => e = .returned (.bool true) ∧ Below w.heap.size w w' := by
  by_cases hg : 400 < n
  · have hd : decide (400 < (n : Int)) = true := decide_eq_true (by omega)
    clear hr hr2 hz hz2
    go_enter Try.func3, Try.ntmps3
    go_wp2_with fail
    refine (awake_any _).mono ?_
    rintro e w1 ⟨rfl, hb1⟩
    go_wp2
    go_ret
    exact ⟨rfl, hb1⟩
  · have hd : decide (400 < (n : Int)) = false := decide_eq_false (by omega)
    have hd2 : decide (400 < n) = false := decide_eq_false (by omega)
    by_cases hg2 : 400 < m
    · have hd3 : decide (400 < (m : Int)) = true := decide_eq_true (by omega)
      have hd4 : decide (400 < m) = true := decide_eq_true hg2
      clear hr hr2 hz hz2
      go_enter Try.func3, Try.ntmps3
      go_wp2_with fail
      refine (awake_any _).mono ?_
      rintro e w1 ⟨rfl, hb1⟩
      go_wp2
      go_ret
      exact ⟨rfl, hb1⟩
    · have hd3 : decide (400 < (m : Int)) = false := decide_eq_false (by omega)
      have hd4 : decide (400 < m) = false := decide_eq_false (by omega)
      obtain ⟨X, hX⟩ : ∃ X, X = layX (layAll num zs) := ⟨_, rfl⟩
      obtain ⟨E, hE⟩ : ∃ E, E = errV (layAll num zs) := ⟨_, rfl⟩
      obtain ⟨Y, hY⟩ : ∃ Y, Y = layX (layAll strB ss) := ⟨_, rfl⟩
      obtain ⟨F, hF⟩ : ∃ F, F = errV (layAll strB ss) := ⟨_, rfl⟩
      have RA := Lib.hid (fun (u : World) (hu : IntsR u a zs) => Prt.nums_any zs n a cap u X E hX hE hu hn (by omega) hz)
      have RB := Lib.hid (fun (u : World) (hu : IntsR u a zs) => RPrt.nums_any zs n a cap u X E hX hE hu hn (by omega) hz)
      have RC := Lib.hid (fun (u : World) (hu : StrsR u a2 ss) => Prt.strs_any ss m a2 cap2 u Y F hY hF hu hm (by omega) hz2)
      have RD := Lib.hid (fun (u : World) (hu : StrsR u a2 ss) => RPrt.strs_any ss m a2 cap2 u Y F hY hF hu hm (by omega) hz2)
      have RN1 := Lib.hid (fun (x : Int) (hx : x ∈ zs) (K : ByteArray) (e : Int) (hK : K = layX (num x)) (he : e = errV (num x)) (u : World) => Prt.num_any x u K e hK he (hz x hx).1 (hz x hx).2)
      have RN2 := Lib.hid (fun (x : Int) (hx : x ∈ zs) (K : ByteArray) (e : Int) (hK : K = layX (num x)) (he : e = errV (num x)) (u : World) => RPrt.num_any x u K e hK he (hz x hx).1 (hz x hx).2)
      have RS1 := Lib.hid (fun (x : ByteArray) (hx : x ∈ ss) (K : ByteArray) (e : Int) (hK : K = layX (str x.data.toList)) (he : e = errV (str x.data.toList)) (u : World) => Prt.str_any x u K e hK he (hz2 x hx))
      have RS2 := Lib.hid (fun (x : ByteArray) (hx : x ∈ ss) (K : ByteArray) (e : Int) (hK : K = layX (str x.data.toList)) (he : e = errV (str x.data.toList)) (u : World) => RPrt.str_any x u K e hK he (hz2 x hx))
      have HR := Lib.hid (fun (u : World) (q : Below w.heap.size w u) => hr.below q)
      have HR2 := Lib.hid (fun (u : World) (q : Below w.heap.size w u) => hr2.below q)
      have HN := Lib.hid hn
      have HM := Lib.hid hm
      have HW0 := Lib.hid (Below.refl w.heap.size w)
      have hst := same_text
      have hsi := same_int
      clear hr hr2 hn hm hz hz2 hX hE hY hF
      go_enter Try.func3, Try.ntmps3
      go_wp2_with fail
      go_loopw [34] (fun i wr => ∃ j : Nat, j ≤ n ∧ i = .int .i64 j ∧ Below w.heap.size w wr) (fun i _ => n - (intOf i).toNat)
      case atStart => exact ⟨0, by omega, rfl, HW0.out⟩
      case round =>
        clear HW0
        obtain ⟨j, hj, rfl, hbel⟩ := hrel
        have HW := Lib.hid hbel
        clear hbel
        by_cases hlt : j < n
        · obtain ⟨b, o, rfl, hb, hc⟩ := HR.out wr HW.out (by have := HN.out; omega)
          have hjz : j < zs.length := by rw [HN.out]; exact hlt
          obtain ⟨x, hx⟩ : ∃ x, x = zs[j] := ⟨_, rfl⟩
          have hcc := hc j x (by rw [hx]; exact List.getElem?_eq_getElem hjz)
          have hmem : x ∈ zs := by rw [hx]; exact List.getElem_mem hjz
          obtain ⟨K, hK⟩ : ∃ K, K = layX (num x) := ⟨_, rfl⟩
          obtain ⟨e0, he⟩ : ∃ e0, e0 = errV (num x) := ⟨_, rfl⟩
          have R1 := Lib.hid (fun u => RN1.out x hmem K e0 hK he u)
          have R2 := Lib.hid (fun u => RN2.out x hmem K e0 hK he u)
          have hstk := hst K
          have hsie := hsi e0
          clear hx hc hjz hmem hK he hb
          go_wp2_with fail
          refine (R1.out _).mono ?_
          rintro e w2 ⟨rfl, hb2⟩
          have HW2 := Lib.hid (HW.out.trans (hb2.mono HW.out.size))
          clear hb2 hcc
          go_wp2_with fail
          refine (R2.out _).mono ?_
          rintro e w3 ⟨rfl, hb3⟩
          have HW3 := Lib.hid (HW2.out.trans (hb3.mono HW2.out.size))
          clear hb3
          by_cases h20 : j < 20
          · have hd5 : decide ((j : Int) < 20) = true := decide_eq_true (by omega)
            have hd6 : decide (j < 20) = true := decide_eq_true h20
            go_wp2
            go_roundw
            case rel => exact ⟨j + 1, by omega, by go_num, HW3.out⟩
            case measure => simp [intOf]; omega
          · have hd5 : decide ((j : Int) < 20) = false := decide_eq_false (by omega)
            have hd6 : decide (j < 20) = false := decide_eq_false h20
            go_wp2
            go_roundw
            case rel => exact ⟨j + 1, by omega, by go_num, HW3.out⟩
            case measure => simp [intOf]; omega
        · obtain rfl : j = n := by omega
          by_cases h0 : 0 < m
          · have hd5 : decide (0 < (m : Int)) = true := decide_eq_true (by omega)
            obtain ⟨b, o, hab, hb, hc⟩ := HR2.out wr HW.out (by have := HM.out; omega)
            subst hab
            have hjz : 0 < ss.length := by rw [HM.out]; exact h0
            obtain ⟨x, hx⟩ : ∃ x, x = ss[0] := ⟨_, rfl⟩
            have hcc := hc 0 x (by rw [hx]; exact List.getElem?_eq_getElem hjz)
            rw [Nat.add_zero] at hcc
            have hmem : x ∈ ss := by rw [hx]; exact List.getElem_mem hjz
            obtain ⟨K, hK⟩ : ∃ K, K = layX (str x.data.toList) := ⟨_, rfl⟩
            obtain ⟨e0, he⟩ : ∃ e0, e0 = errV (str x.data.toList) := ⟨_, rfl⟩
            have R1 := Lib.hid (fun u => RS1.out x hmem K e0 hK he u)
            have R2 := Lib.hid (fun u => RS2.out x hmem K e0 hK he u)
            have hstk := hst K
            have hsie := hsi e0
            have HCC := Lib.hid (fun (u : World) (q : Below wr.heap.size wr u) => (q.cell (p := ⟨b, o, none⟩) hb).trans hcc)
            clear hx hc hjz hmem hK he hb
            go_wp2_with fail
            refine (R1.out _).mono ?_
            rintro e w2 ⟨rfl, hb2⟩
            have HW2 := Lib.hid (HW.out.trans (hb2.mono HW.out.size))
            have hcc2 := HCC.out w2 hb2
            clear hb2 hcc
            go_wp2_with fail
            refine (R2.out _).mono ?_
            rintro e w3 ⟨rfl, hb3⟩
            have HW3 := Lib.hid (HW2.out.trans (hb3.mono HW2.out.size))
            clear hb3 hcc2
            go_wp2_with fail
            refine (RA.out _ (HR.out _ HW3.out)).mono ?_
            rintro e w4 ⟨rfl, hb4⟩
            have HW4 := Lib.hid (HW3.out.trans (hb4.mono HW3.out.size))
            clear hb4
            go_wp2_with fail
            refine (RB.out _ (HR.out _ HW4.out)).mono ?_
            rintro e w5 ⟨rfl, hb5⟩
            have HW5 := Lib.hid (HW4.out.trans (hb5.mono HW4.out.size))
            clear hb5
            go_wp2_with fail
            refine (RC.out _ (HR2.out _ HW5.out)).mono ?_
            rintro e w6 ⟨rfl, hb6⟩
            have HW6 := Lib.hid (HW5.out.trans (hb6.mono HW5.out.size))
            clear hb6
            go_wp2_with fail
            refine (RD.out _ (HR2.out _ HW6.out)).mono ?_
            rintro e w7 ⟨rfl, hb7⟩
            have HW7 := Lib.hid (HW6.out.trans (hb7.mono HW6.out.size))
            clear hb7
            go_wp2_with fail
            refine (awake_any _).mono ?_
            rintro e w8 ⟨rfl, hb8⟩
            have HW8 := Lib.hid (HW7.out.trans (hb8.mono HW7.out.size))
            clear hb8
            go_wp2
            go_ret
            exact ⟨rfl, HW8.out⟩
          · obtain rfl : m = 0 := by omega
            have hd5 : decide (0 < ((0 : Nat) : Int)) = false := by simp
            go_wp2_with fail
            refine (RA.out _ (HR.out _ HW.out)).mono ?_
            rintro e w4 ⟨rfl, hb4⟩
            have HW4 := Lib.hid (HW.out.trans (hb4.mono HW.out.size))
            clear hb4
            go_wp2_with fail
            refine (RB.out _ (HR.out _ HW4.out)).mono ?_
            rintro e w5 ⟨rfl, hb5⟩
            have HW5 := Lib.hid (HW4.out.trans (hb5.mono HW4.out.size))
            clear hb5
            go_wp2_with fail
            refine (RC.out _ (HR2.out _ HW5.out)).mono ?_
            rintro e w6 ⟨rfl, hb6⟩
            have HW6 := Lib.hid (HW5.out.trans (hb6.mono HW5.out.size))
            clear hb6
            go_wp2_with fail
            refine (RD.out _ (HR2.out _ HW6.out)).mono ?_
            rintro e w7 ⟨rfl, hb7⟩
            have HW7 := Lib.hid (HW6.out.trans (hb7.mono HW6.out.size))
            clear hb7
            go_wp2_with fail
            refine (awake_any _).mono ?_
            rintro e w8 ⟨rfl, hb8⟩
            have HW8 := Lib.hid (HW7.out.trans (hb8.mono HW7.out.size))
            clear hb8
            go_wp2
            go_ret
            exact ⟨rfl, HW8.out⟩

theorem own : ownKnob Try.prog.godebug = none := by kernel_rfl
theorem laidOut : laidOutB Try.prog = true := by kernel_rfl

theorem lifted (os : Os) (started : os.Started) (H : Type) (enc : TypeId × Value → H) :
    ReturnsInHanded {} Try.checked os 3 .any (Rows.partsLaySpec.pre6 enc Try.prog Try.f3 Rows.partsLayRow.domain false) (Rows.partsLaySpec.post enc Try.prog Try.f3 false true false false) := by
  refine returnsInHanded_of_change (C := Try.checked) own started (by kernel_rfl) Try.func3
    (ChangeSpec.witness6 (enc := enc) (C := Try.checked) false ⟨#[], #[.slice none 0 0, .slice none 0 0], []⟩ 8 (by kernel_rfl) (by kernel_rfl) (by kernel_rfl) (by kernel_rfl)) ?_
  intro W base args ds gs before hval0 hW hcnd _
  have hval : ∀ (j : Nat) t v, Try.f3.params[j]? = some t → args[j]? = some v → Value.okWide Try.prog W .any base t v := hval0
  have hW' := hW
  obtain ⟨p, q, hA0, hV, rfl, hfz, hnd⟩ := hW
  have hA : DataW.TrodAll enc Try.prog W 0 (fun _ => true) true Try.f3.params.toList args.toList ds p := hA0
  rw [Try.params3] at hA hval
  obtain ⟨v0, vs0, d0, ds0, p0, q0, hargs, rfl, rfl, h0, r0⟩ := trodAll_cons hA
  obtain ⟨v1, vs1, d1, ds1, p1, q1, rfl, rfl, rfl, h1, r1⟩ := trodAll_cons r0
  obtain ⟨rfl, rfl, rfl⟩ := trodAll_nil r1
  obtain rfl : args = #[v0, v1] := by cases args; simp_all
  obtain ⟨rfl, rfl⟩ := trodVars_none hV
  obtain ⟨a0, len0, cap0, rfl⟩ := okWide_slice Try.underlying22 (hval 0 22 v0 rfl rfl)
  have k0 := h0
  have lt0 : ∀ x ∈ p0, x.block < W.heap.size := by obtain ⟨m, hm⟩ := k0; exact DataW.trod_lt m _ _ _ hm
  obtain ⟨z0, w0, x0, y0, u0⟩ := ints_came h0
  obtain ⟨a1, len1, cap1, rfl⟩ := okWide_slice Try.underlying23 (hval 1 23 v1 rfl rfl)
  have k1 := h1
  have lt1 : ∀ x ∈ p1, x.block < W.heap.size := by obtain ⟨m, hm⟩ := k1; exact DataW.trod_lt m _ _ _ hm
  obtain ⟨z1, w1, x1, y1, u1⟩ := strs_came h1
  clear hA0 hval0
  refine (walk z0 len0 a0 cap0 z1 len1 a1 cap1 W w0 x0 u0 w1 x1 u1).mono fun e W' ⟨he, bel⟩ => ?_
  subst he
  exact ⟨_, rfl, _, _, _, [], _, [], hW', trodAll_mk1 (shut_bool Try.underlying4 _), (trodAll_cons_mk (Below.trod laidOut (by kernel_rfl) (of_decide_eq_true (by kernel_rfl)) k0 bel lt0) (trodAll_cons_mk (Below.trod laidOut (by kernel_rfl) (of_decide_eq_true (by kernel_rfl)) k1 bel lt1) trodAll_mk0)), rfl, bel.frame _, fun h => by cases h⟩

theorem over : Rows.partsLayRow.holds Try.pinned (OpenSpec.ofChange Rows.partsLaySpec) :=
  OpenClaim.holds_of_wide 3 Try.f3 rfl rfl rfl rfl rfl rfl rfl ⟨rfl, rfl, rfl, rfl, rfl⟩ rfl rfl rfl rfl rfl (by kernel_rfl) Try.func3 (by kernel_rfl)
    (of_decide_eq_true (by kernel_rfl)) (by unfold Func.isWrapper; first | (rw [if_pos (by decide +kernel)]; kernel_rfl) | (rw [if_neg (by decide +kernel)]; exact ⟨rfl, rfl⟩))
    (fun os started H enc _ => lifted os started H enc)

theorem proved : Rows.PartsLaySaid := over
#print axioms proved
end Go.Proofs.Ytdmboijjkalefaa.LawPLay
