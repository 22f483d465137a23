/-
  LayoutWhole: slots lie one behind the other, from behind a byte for each to the end of all; each is as long as its capacity asks: for any slots, any length of signatures and any text the law answers true and changes nothing that was there. Condition: the listed tables hold what the program lays there.
-/
import Derived.Test.YtedgpglldlohfaaDoorLyX
import Derived.Test.YtedgpglldlohfaaDoorLyz
import Derived.Test.YtedgpglldlohfaaDoorLyW
import Derived.Test.YtedgpglldlohfaaDoorZsO
import Derived.Test.YtedgpglldlohfaaDoorLyK
namespace Go.Proofs.YtedgpglldlohfaaDoor.LawYWh
open Go.ChangeShapes Go.WideShapes Go.ChangeAt Go.RowKit Mur Prt Lanes Tap Cel Frm Lyo Zs
open Go.ChangeMaps (open_string shut_string)
set_option maxRecDepth 100000
set_option linter.unusedSimpArgs false

set_option maxHeartbeats 6400000 in
theorem walk (con : Lyo.Con) (fc : Frm.Con) (l : List Int) (n : Nat) (a : Option Addr) (c : Nat) (sg : Int) (t : ByteArray) (wz : World) (hr : ZsR wz a l) (hn : l.length = n) (_ : n ≤ 9223372036854775807) (hc : n ≤ c) (hf : ∀ z ∈ l, -9223372036854775808 ≤ z ∧ z ≤ 9223372036854775807) (_ : InR sg) (_ : t.size ≤ 140737488351232) (hl : Laid wz) :
    Calls Tryd.prog 3 #[.slice a n c, .int .i64 sg, .string t] wz fun e w' => e = .returned (.bool true) ∧ Below wz.heap.size wz w' := by
  have RA := Lib.hid (fun u (hu : Below wz.heap.size wz u) => Lyo.awake_any con fc u (hl.below hu))
  have HM := Lib.hid (Hold.Hld.start wz)
  by_cases h6 : 6 < n
  · have d1 : decide (6 < (n : Int)) = true := decide_eq_true (by omega)
    have d2 : decide (6 < n) = true := decide_eq_true h6
    clear hr hn hc hf hl h6
    go_enter Tryd.func3, Tryd.ntmps3
    go_wp2_with (((with_reducible refine (RA.out _ HM.out.below).mono ?_); rintro e w ⟨rfl, hb⟩; replace HM := Lib.hid (HM.out.next hb); clear hb))
    go_ret
    exact ⟨rfl, HM.out.below⟩
  have d1 : decide (6 < (n : Int)) = false := decide_eq_false (by omega)
  have d2 : decide (6 < n) = false := decide_eq_false h6
  by_cases h3 : 3000 < t.size
  · have d3 : decide (3000 < (t.size : Int)) = true := decide_eq_true (by omega)
    have d4 : decide (3000 < t.size) = true := decide_eq_true h3
    clear hr hn hc hf hl h6 h3
    go_enter Tryd.func3, Tryd.ntmps3
    go_wp2_with (((with_reducible refine (RA.out _ HM.out.below).mono ?_); rintro e w ⟨rfl, hb⟩; replace HM := Lib.hid (HM.out.next hb); clear hb))
    go_ret
    exact ⟨rfl, HM.out.below⟩
  have d3 : decide (3000 < (t.size : Int)) = false := decide_eq_false (by omega)
  have d4 : decide (3000 < t.size) = false := decide_eq_false h3
  obtain ⟨m, hm, hq⟩ := rest_of sg 100 (by decide) (by decide)
  have hin : In wz a n c l := ⟨hr, hn, by omega, hc, hf⟩
  have hfl : few l = l := few_all l (by omega)
  have hfn : (few l).length = n := by rw [hfl, hn]
  obtain ⟨b, o, ha, hcells⟩ := cells_at hin
  have im : InR (m : Int) := inN m (by omega)
  obtain ⟨T, hT⟩ : ∃ T, T = total l (m : Int) := ⟨_, rfl⟩
  have RS := Lib.hid (fun (q : Nat) (A B : Int) (hA : A = spotA l (m : Int) (q : Int)) (hB : B = spotB l (m : Int) (q : Int)) (hq : q ≤ 6) u (hu : Below wz.heap.size wz u) => con.spot l a n c (m : Int) (q : Int) A B u hA hB (hin.below hu) im (inN q (by omega)))
  have RG := Lib.hid (fun (x G : Int) (hG : G = Frm.long x (m : Int)) (hx : InR x) u => show Calls Tryd.prog 9 #[.int .i64 x, .int .i64 (m : Int)] u fun z w' => z = .returned (.int .i64 G) ∧ Below u.heap.size u w' from by rw [hG]; exact fc.long x (m : Int) u hx im)
  have RX := Lib.hid (fun (q : Nat) (X : ByteArray) (hX : X = tx (slotT l (m : Int) (q : Int) t.data.toList)) (hq : q ≤ 6) u (hu : Below wz.heap.size wz u) => con.slot l a n c (m : Int) (q : Int) t X u hX (hin.below hu) im (inN q (by omega)) (by omega))
  have RT := Lib.hid (fun u (hu : Below wz.heap.size wz u) => con.total l a n c (m : Int) T u hT (hin.below hu) im)
  have HC := Lib.hid hcells
  have HA := Lib.hid ha
  have HF := Lib.hid (And.intro hfl (And.intro hfn hf))
  have HT := Lib.hid hT
  have hn6 : n ≤ 6 := by omega
  have HN := Lib.hid hn
  clear hr hn hc hf hl h6 h3 hin hfl hfn hcells ha im hT
  go_enter Tryd.func3, Tryd.ntmps3
  go_upto_region 4 with (fail)
  rw [show wrap64 ((IntKind.u64.wrap sg).tmod 100) = (m : Int) from hq]
  clear hq
  generalize (IntKind.u64.wrap sg).tmod 100 = y0
  generalize IntKind.u64.wrap sg = y1
  go_wp2
  go_loopw [7, 30] (fun p i wr => ∃ (q : Nat) (A : Int), q ≤ n ∧ i = .int .i64 (q : Int) ∧ p = .int .i64 A ∧ A = at_ l (m : Int) q ∧ Hold.Hld wz [] wr) (fun _ i _ => n - (intOf i).toNat)
  case atStart => exact ⟨0, (n : Int), by omega, rfl, rfl, by rw [at_zero, HF.out.2.1], HM.out⟩
  case round =>
    obtain ⟨q, A, hq, rfl, rfl, hA, hm2⟩ := hrel
    clear HM
    have HM := Lib.hid hm2
    clear hm2
    by_cases hlt : q < n
    · have hlt2 : (q : Int) < (n : Int) := by omega
      obtain ⟨x, hx⟩ : ∃ x, l[q]? = some x := ⟨_, List.getElem?_eq_getElem (by rw [HN.out]; exact hlt)⟩
      obtain rfl := HA.out (by intro e; rw [e] at hx; simp at hx)
      have hcell := HC.out _ HM.out.below q x hx
      have hxf : (few l)[q]? = some x := by rw [HF.out.1]; exact hx
      have hxr : InR x := HF.out.2.2 x (List.mem_of_getElem? hx)
      obtain ⟨eA, eB⟩ := spot_in l (m : Int) q x hxf
      obtain ⟨B, hB⟩ : ∃ B, B = at_ l (m : Int) (q + 1) := ⟨_, rfl⟩
      obtain ⟨G, hG⟩ : ∃ G, G = Frm.long x (m : Int) := ⟨_, rfl⟩
      have hBA : B = A + G := by rw [hB, hA, hG]; exact at_next l (m : Int) q x hxf
      obtain ⟨X, hX⟩ : ∃ X, X = tx (slotT l (m : Int) (q : Int) t.data.toList) := ⟨_, rfl⟩
      have hcut := slot_cut l (m : Int) (q : Int) A B t X (hA.trans eA.symm) (hB.trans eB.symm) hX
      have S1 := Lib.hid (RS.out q A B (hA.trans eA.symm) (hB.trans eB.symm) (by omega))
      have S2 := Lib.hid (RG.out x G hG hxr)
      have S3 := Lib.hid (RX.out q X hX (by omega))
      have hw : wrap64 (B - A) = G := by
        have := long_bounds x (m : Int)
        rw [hBA, show A + G - A = G by omega]
        exact IntWalk.wrap64_in _ (by omega)
      have e1 : ((A : Int) != A) = false := by simp
      have e2 : ((G : Int) != G) = false := by simp
      have HB := Lib.hid hB
      clear hx hxf hxr eA eB hG hBA hX hA hB
      by_cases hlo : (t.size : Int) < B
      · have he := hcut.1 hlo
        have d5 : decide ((t.size : Int) < B) = true := decide_eq_true hlo
        clear hcut hlo
        go_wp2_with ((first
          | ((with_reducible refine (S1.out _ HM.out.below).mono ?_); rintro e w ⟨rfl, hb⟩; replace HM := Lib.hid (HM.out.next hb); clear hb hcell)
          | ((with_reducible refine (S2.out _).mono ?_); rintro e w ⟨rfl, hb⟩; replace HM := Lib.hid (HM.out.next hb); clear hb)
          | ((with_reducible refine (S3.out _ HM.out.below).mono ?_); rintro e w ⟨rfl, hb⟩; replace HM := Lib.hid (HM.out.next hb); clear hb)))
        go_roundw
        case rel => exact ⟨q + 1, B, by omega, by go_num, rfl, HB.out, HM.out⟩
        case measure => simp [intOf]; omega
      · have hs := hcut.2 hlo
        have d5 : decide ((t.size : Int) < B) = false := decide_eq_false hlo
        clear hcut hlo
        by_cases he : X.toList.isEmpty = true
        · clear hs
          go_wp2_with ((first
            | ((with_reducible refine (S1.out _ HM.out.below).mono ?_); rintro e w ⟨rfl, hb⟩; replace HM := Lib.hid (HM.out.next hb); clear hb hcell)
            | ((with_reducible refine (S2.out _).mono ?_); rintro e w ⟨rfl, hb⟩; replace HM := Lib.hid (HM.out.next hb); clear hb)
            | ((with_reducible refine (S3.out _ HM.out.below).mono ?_); rintro e w ⟨rfl, hb⟩; replace HM := Lib.hid (HM.out.next hb); clear hb)))
          go_roundw
          case rel => exact ⟨q + 1, B, by omega, by go_num, rfl, HB.out, HM.out⟩
          case measure => simp [intOf]; omega
        · have he : X.toList.isEmpty = false := by simpa using he
          have e3 : (X.toList != X.toList) = false := by simp
          go_wp2_with ((first
            | ((with_reducible refine (S1.out _ HM.out.below).mono ?_); rintro e w ⟨rfl, hb⟩; replace HM := Lib.hid (HM.out.next hb); clear hb hcell)
            | ((with_reducible refine (S2.out _).mono ?_); rintro e w ⟨rfl, hb⟩; replace HM := Lib.hid (HM.out.next hb); clear hb)
            | ((with_reducible refine (S3.out _ HM.out.below).mono ?_); rintro e w ⟨rfl, hb⟩; replace HM := Lib.hid (HM.out.next hb); clear hb)))
          go_roundw
          case rel => exact ⟨q + 1, B, by omega, by go_num, rfl, HB.out, HM.out⟩
          case measure => simp [intOf]; omega
    · obtain rfl : q = n := by omega
      obtain rfl : T = A := by rw [HT.out, hA, total, HF.out.2.1]
      have e1 : ((T : Int) == T) = true := by simp
      clear hA
      go_wp2_with ((first
        | ((with_reducible refine (RT.out _ HM.out.below).mono ?_); rintro e w ⟨rfl, hb⟩; replace HM := Lib.hid (HM.out.next hb); clear hb)
        | ((with_reducible refine (RA.out _ HM.out.below).mono ?_); rintro e w ⟨rfl, hb⟩; replace HM := Lib.hid (HM.out.next hb); clear hb)))
      go_ret
      exact ⟨by simp, HM.out.below⟩

set_option maxHeartbeats 1600000 in
theorem lifted (con : Lyo.Con) (fc : Frm.Con) (os : Os) (started : os.Started) (H : Type) (enc : TypeId × Value → H) :
    ReturnsInHanded {} Tryd.checked os 3 .any (fun w args => (Rows.layoutWholeSpec.pre enc Tryd.prog Tryd.f3 [] false w args ∧ laidMetH Tryd.prog Lyk.laidL w) ∧ sizedMet enc Tryd.prog Tryd.f3 (OpenSpec.ofChange Rows.layoutWholeSpec) false w args)
      (Rows.layoutWholeSpec.post enc Tryd.prog Tryd.f3 false true false false) := by
  refine returnsInHanded_of_change_and (C := Tryd.checked) (X := fun w _ => laidMetH Tryd.prog Lyk.laidL w) (fun _ _ _ hh h => h.of_heap hh) Lyk.own started (by kernel_rfl) Tryd.func3
    (ChangeSpec.witness_shaped (enc := enc) (C := Tryd.checked) (os := os) (X := fun w _ => laidMetH Tryd.prog Lyk.laidL w) false (World.laidAll Tryd.prog os Lyk.laidL) #[.slice none 0 0, .int .i64 0, .string ByteArray.empty] 8 (World.laidAll_os _ _ _) (Lyk.table_shaped os _) (by kernel_rfl) (by kernel_rfl) (by kernel_rfl) (Lyk.table_met os _)) ?_
  intro W base args ds gs before hval0 hW _ hsz0 hL _
  have hval : ∀ (j : Nat) t v, Tryd.f3.params[j]? = some t → args[j]? = some v → Value.okWide Tryd.prog W .any base t v := hval0
  have hsz : (DataW.weightsEach Tryd.prog (Tryd.f3.params.toList ++ Rows.layoutWholeSpec.plain.varTypes Tryd.prog) (ds ++ gs)).all (· ≤ reachBytes) = true := hsz0
  clear hsz0
  have hW' := hW
  obtain ⟨p, q, hA0, hV, rfl, hfz, hnd⟩ := hW
  have hA : DataW.TrodAll enc Tryd.prog W 0 (fun _ => true) true Tryd.f3.params.toList args.toList ds p := hA0
  rw [Tryd.params3] at hA hval hsz
  obtain ⟨v0, vs0, d0, ds0, p0, q0, hargs, rfl, rfl, h0, r0⟩ := trodAll_cons hA
  obtain ⟨v1, vs1, d1, ds1, p1, q1, rfl, rfl, rfl, h1, r1⟩ := trodAll_cons r0
  obtain ⟨v2, vs2, d2, ds2, p2, q2, rfl, rfl, rfl, h2, r2⟩ := trodAll_cons r1
  obtain ⟨rfl, rfl, rfl⟩ := trodAll_nil r2
  obtain rfl : args = #[v0, v1, v2] := by cases args; simp_all
  obtain ⟨rfl, rfl⟩ := trodVars_none hV
  obtain ⟨a0, len0, cap0, rfl⟩ := okWide_slice Tryd.underlying22 (hval 0 22 v0 rfl rfl)
  have k0 := h0
  have lt0 : ∀ x ∈ p0, x.block < W.heap.size := by obtain ⟨m, hm⟩ := k0; exact DataW.trod_lt m _ _ _ hm
  obtain ⟨z0, w0, x0, y0, c0, u0⟩ := Zs.ints_came h0
  obtain ⟨a1, rfl, rfl, rfl, w1⟩ := Go.ChangeShapes.open_int Tryd.underlying3 (hval 1 3 v1 rfl rfl) h1
  obtain ⟨a2, rfl, rfl, rfl, w2⟩ := open_string Tryd.underlying9 (hval 2 9 v2 rfl rfl) h2
  have zz2 := sized_string hsz (j := 2) (t := 9) (bytes := a2.data.toList) rfl rfl
  have hcl := Lyk.of_laid hL
  clear hA0 hval0
  refine (walk con fc z0 len0 a0 cap0 a1 a2 W w0 x0 y0 c0 u0 (Zs.int_wf w1) (show a2.size ≤ 140737488351232 from Nat.le_trans zz2 (by decide)) hcl).mono fun e W' ⟨he, bel⟩ => ?_
  subst he
  exact ⟨_, rfl, _, _, _, [], _, [], hW', trodAll_mk1 (shut_bool Tryd.underlying4 _), (trodAll_cons_mk (Below.trod Lyk.laidOut (by kernel_rfl) (of_decide_eq_true (by kernel_rfl)) k0 bel lt0) (trodAll_cons_mk (Go.ChangeShapes.shut_int Tryd.underlying3 w1) (trodAll_cons_mk (shut_string Tryd.underlying9 w2) trodAll_mk0))), rfl, bel.frame _, fun h => by cases h⟩

theorem over (con : Lyo.Con) (fc : Frm.Con) : Rows.LayoutWholeSaid :=
  OpenClaim.holds_of_wide 3 Tryd.f3 rfl rfl rfl rfl rfl rfl rfl ⟨rfl, rfl, rfl, rfl, rfl⟩ rfl rfl rfl rfl rfl (by kernel_rfl) Tryd.func3 (by kernel_rfl)
    (of_decide_eq_true (by kernel_rfl)) (by unfold Func.isWrapper; first | (rw [if_pos (by decide +kernel)]; kernel_rfl) | (rw [if_neg (by decide +kernel)]; exact ⟨rfl, rfl⟩))
    (fun os started H enc _ => lifted con fc os started H enc)

theorem of_con (con : Lyo.Con) (fc : Frm.Con) : Rows.LayoutWholeCardSaid :=
  Claim7.holds_tied_plain_at .later [] [.data, .data, .pinned] true Rows.layoutWholeCard.stood.harness false
    (over con fc) (fun _ h => by cases h) (by kernel_rfl) (fun _ h => by cases h) layoutWhole_row_tie rfl ⟨rfl, rfl⟩ (by kernel_rfl) rfl
    (fun f fn hf hfn => by
      obtain rfl : f = 3 := Option.some.inj ((show Tryd.prog.funcNamed "murmur/murmurlaw19.LayoutWhole" = some 3 by kernel_rfl).symm.trans hf) |>.symm
      obtain rfl : fn = Tryd.f3 := (Option.some.inj (Tryd.func3.symm.trans hfn)).symm
      exact ⟨by kernel_rfl, fun j t ht => by
        rw [Tryd.params3] at ht
        have hm : t ∈ [22, 3, 9] := by simpa using Array.mem_of_getElem? ht
        have hall : ([22, 3, 9].all fun u => !Tryd.prog.wantsStandIn u) = true := by kernel_rfl
        exact (show Tryd.prog.wantsStandIn t = false by simpa using List.all_eq_true.1 hall t hm)⟩)
    (by kernel_rfl)
/-- The statement. -/
theorem proved : Rows.LayoutWholeCardSaid := of_con Lyo.con Frm.con
#print axioms proved
end Go.Proofs.YtedgpglldlohfaaDoor.LawYWh
