/-
  LayoutNext: as many slots come next, each with a capacity from 0 to the greatest; a closed one's is what its byte wants: for any slots, any length of signatures and any text the law answers true and changes nothing that was there. Condition: the listed tables hold what the program lays there.
-/
import Derived.Test.YtedgpglldlohfaaDoorLyX
import Derived.Test.YtedgpglldlohfaaDoorLyz
import Derived.Test.YtedgpglldlohfaaDoorLyW
import Derived.Test.YtedgpglldlohfaaDoorZsO
import Derived.Test.YtedgpglldlohfaaDoorLyK
namespace Go.Proofs.YtedgpglldlohfaaDoor.LawYNx
open Go.ChangeShapes Go.WideShapes Go.ChangeAt Go.RowKit Mur Prt Lanes Tap Cel Frm Lyo Zs
open Go.ChangeMaps (open_string shut_string)
set_option maxRecDepth 100000
set_option linter.unusedSimpArgs false

set_option maxHeartbeats 6400000 in
theorem walk (con : Lyo.Con) (fc : Frm.Con) (l : List Int) (n : Nat) (a : Option Addr) (c : Nat) (sg : Int) (t : ByteArray) (wz : World) (hr : ZsR wz a l) (hn : l.length = n) (_ : n ≤ 9223372036854775807) (hc : n ≤ c) (hf : ∀ z ∈ l, -9223372036854775808 ≤ z ∧ z ≤ 9223372036854775807) (is : InR sg) (_ : t.size ≤ 140737488351232) (hl : Laid wz) :
    Calls Tryd.prog 4 #[.slice a n c, .int .i64 sg, .string t] wz fun e w' => e = .returned (.bool true) ∧ Below wz.heap.size wz w' := by
  have RA0 := Lib.hid (fun u (hu : Below wz.heap.size wz u) => Lyo.awake_any con fc u (hl.below hu))
  have HM := Lib.hid (Hold.Hld.start wz)
  by_cases h6 : 6 < n
  · have d1 : decide (6 < (n : Int)) = true := decide_eq_true (by omega)
    have d2 : decide (6 < n) = true := decide_eq_true h6
    clear hr hn hc hf hl h6
    go_enter Tryd.func4, Tryd.ntmps4
    go_wp2_with (((with_reducible refine (RA0.out _ HM.out.below).mono ?_); rintro e w ⟨rfl, hb⟩; replace HM := Lib.hid (HM.out.next hb); clear hb))
    go_ret
    exact ⟨rfl, HM.out.below⟩
  have d1 : decide (6 < (n : Int)) = false := decide_eq_false (by omega)
  have d2 : decide (6 < n) = false := decide_eq_false h6
  by_cases h3 : 3000 < t.size
  · have d3 : decide (3000 < (t.size : Int)) = true := decide_eq_true (by omega)
    have d4 : decide (3000 < t.size) = true := decide_eq_true h3
    clear hr hn hc hf hl h6 h3
    go_enter Tryd.func4, Tryd.ntmps4
    go_wp2_with (((with_reducible refine (RA0.out _ HM.out.below).mono ?_); rintro e w ⟨rfl, hb⟩; replace HM := Lib.hid (HM.out.next hb); clear hb))
    go_ret
    exact ⟨rfl, HM.out.below⟩
  have d3 : decide (3000 < (t.size : Int)) = false := decide_eq_false (by omega)
  have d4 : decide (3000 < t.size) = false := decide_eq_false h3
  have hin : In wz a n c l := ⟨hr, hn, by omega, hc, hf⟩
  have hfl : few l = l := few_all l (by omega)
  have hfn : (few l).length = n := by rw [hfl, hn]
  obtain ⟨b, o, ha, hcells⟩ := cells_at hin
  obtain ⟨L, hL⟩ : ∃ L, L = next l sg t.data.toList := ⟨_, rfl⟩
  have hLn : L.length = n := by rw [hL, next_length, hfn]
  have RN := Lib.hid (fun u (hu : Below wz.heap.size wz u) => con.next l a n c sg t L n u hL hLn (hin.below hu) is (by omega) (hl.below hu))
  have RG0 := Lib.hid (fun (x G : Int) (hG : G = Frm.long x sg) (hx : InR x) u => show Calls Tryd.prog 9 #[.int .i64 x, .int .i64 sg] u fun z w' => z = .returned (.int .i64 G) ∧ Below u.heap.size u w' from by rw [hG]; exact fc.long x sg u hx is)
  have RW0 := Lib.hid (fun (q : Nat) (W : Int) (hW : W = want l (q : Int) t.data.toList) (hq : q ≤ 6) u (hu : Below wz.heap.size wz u) => con.want l a n c (q : Int) W t u hW (hin.below hu) (inN q (by omega)) (by omega))
  have HC := Lib.hid hcells
  have HA := Lib.hid ha
  have HF := Lib.hid (And.intro hfl (And.intro hfn hf))
  have HL := Lib.hid (And.intro hL hLn)
  have hn6 : n ≤ 6 := by omega
  have HN := Lib.hid hn
  have e0 : ((n : Int) != (n : Int)) = false := by simp
  clear hr hn hc hf hl h6 h3 hin hfl hfn hcells ha hL hLn is
  go_enter Tryd.func4, Tryd.ntmps4
  go_upto_region 4 with ((with_reducible refine (RN.out _ HM.out.below).mono ?_); rintro e w3 ⟨an, cn, rfl, hcn, hrn, hb⟩; replace HM := Lib.hid (HM.out.next hb); clear hb hcn)
  obtain ⟨bn, on, han, hcn⟩ := row_cells hrn
  have HAN := Lib.hid han
  have HCN := Lib.hid hcn
  have HB3 := Lib.hid HM.out.below
  clear han hcn hrn HM RN
  have HM := Lib.hid (Hold.Hld.start w3)
  have RD := Lib.hid (fun u (hu : Below w3.heap.size w3 u) => HB3.out.trans (hu.mono HB3.out.size))
  go_wp2
  go_loopw [30] (fun i wr => ∃ q : Nat, q ≤ n ∧ i = .int .i64 (q : Int) ∧ Hold.Hld w3 [] wr) (fun i _ => n - (intOf i).toNat)
  case atStart => exact ⟨0, by omega, rfl, HM.out⟩
  case round =>
    obtain ⟨q, hq, rfl, hm2⟩ := hrel
    clear HM
    have HM := Lib.hid hm2
    clear hm2
    by_cases hlt : q < n
    · have hlt2 : (q : Int) < (n : Int) := by omega
      obtain ⟨x, hx⟩ : ∃ x, l[q]? = some x := ⟨_, List.getElem?_eq_getElem (by rw [HN.out]; exact hlt)⟩
      obtain rfl := HA.out (by intro e; rw [e] at hx; simp at hx)
      obtain ⟨y, hy⟩ : ∃ y, y = nextOf l sg t.data.toList q := ⟨_, rfl⟩
      have hyL : L[q]? = some y := by rw [HL.out.1, next_at l sg _ q (by rw [HF.out.2.1]; exact hlt), hy]
      obtain rfl := HAN.out (by intro e; rw [e] at hyL; simp at hyL)
      have c1 := HC.out _ (RD.out _ HM.out.below) q x hx
      have c2 := HCN.out _ HM.out.below q y hyL
      have hxr : InR x := HF.out.2.2 x (List.mem_of_getElem? hx)
      have hyb := nextOf_bounds l sg t.data.toList q
      rw [← hy] at hyb
      have d5 : decide (y < 0) = false := decide_eq_false (by omega)
      have d6 : decide (16 < y) = false := decide_eq_false (by omega)
      obtain ⟨G, hG⟩ : ∃ G, G = Frm.long x sg := ⟨_, rfl⟩
      have S2 := Lib.hid (RG0.out x G hG hxr)
      have hd : l.getD q 0 = x := by rw [List.getD_eq_getElem?_getD, hx, Option.getD_some]
      by_cases g0 : G = 0
      · have d7 : ((G : Int) == 0) = true := by rw [g0]; rfl
        have hyw : y = want l (q : Int) t.data.toList := by
          rw [hy]
          unfold nextOf
          rw [hd, ← hG, if_pos g0]
        have S3 := Lib.hid (RW0.out q y hyw (by omega))
        have e1 : ((y : Int) != y) = false := by simp
        clear hx hyL hxr hyb hG hd g0 hyw hy
        go_wp2_with ((first
          | ((with_reducible refine (S2.out _).mono ?_); rintro e w ⟨rfl, hb⟩; replace HM := Lib.hid (HM.out.next hb); clear hb c1 c2)
          | ((with_reducible refine (S3.out _ (RD.out _ HM.out.below)).mono ?_); rintro e w ⟨rfl, hb⟩; replace HM := Lib.hid (HM.out.next hb); clear hb)))
        go_roundw
        case rel => exact ⟨q + 1, by omega, by go_num, HM.out⟩
        case measure => simp [intOf]; omega
      · have d7 : ((G : Int) == 0) = false := by simpa using g0
        clear hx hyL hxr hyb hG hd g0 hy
        go_wp2_with (((with_reducible refine (S2.out _).mono ?_); rintro e w ⟨rfl, hb⟩; replace HM := Lib.hid (HM.out.next hb); clear hb c1 c2))
        go_roundw
        case rel => exact ⟨q + 1, by omega, by go_num, HM.out⟩
        case measure => simp [intOf]; omega
    · obtain rfl : q = n := by omega
      have RA := Lib.hid (RA0.out _ (RD.out _ HM.out.below))
      go_wp2_with ((with_reducible refine (RA.out).mono ?_); rintro e w ⟨rfl, hb⟩; replace HM := Lib.hid (HM.out.next hb); clear hb)
      go_ret
      exact ⟨by simp, RD.out _ HM.out.below⟩

set_option maxHeartbeats 1600000 in
theorem lifted (con : Lyo.Con) (fc : Frm.Con) (os : Os) (started : os.Started) (H : Type) (enc : TypeId × Value → H) :
    ReturnsInHanded {} Tryd.checked os 4 .any (fun w args => (Rows.layoutNextSpec.pre enc Tryd.prog Tryd.f4 [] false w args ∧ laidMetH Tryd.prog Lyk.laidL w) ∧ sizedMet enc Tryd.prog Tryd.f4 (OpenSpec.ofChange Rows.layoutNextSpec) false w args)
      (Rows.layoutNextSpec.post enc Tryd.prog Tryd.f4 false true false false) := by
  refine returnsInHanded_of_change_and (C := Tryd.checked) (X := fun w _ => laidMetH Tryd.prog Lyk.laidL w) (fun _ _ _ hh h => h.of_heap hh) Lyk.own started (by kernel_rfl) Tryd.func4
    (ChangeSpec.witness_shaped (enc := enc) (C := Tryd.checked) (os := os) (X := fun w _ => laidMetH Tryd.prog Lyk.laidL w) false (World.laidAll Tryd.prog os Lyk.laidL) #[.slice none 0 0, .int .i64 0, .string ByteArray.empty] 8 (World.laidAll_os _ _ _) (Lyk.table_shaped os _) (by kernel_rfl) (by kernel_rfl) (by kernel_rfl) (Lyk.table_met os _)) ?_
  intro W base args ds gs before hval0 hW _ hsz0 hL _
  have hval : ∀ (j : Nat) t v, Tryd.f4.params[j]? = some t → args[j]? = some v → Value.okWide Tryd.prog W .any base t v := hval0
  have hsz : (DataW.weightsEach Tryd.prog (Tryd.f4.params.toList ++ Rows.layoutNextSpec.plain.varTypes Tryd.prog) (ds ++ gs)).all (· ≤ reachBytes) = true := hsz0
  clear hsz0
  have hW' := hW
  obtain ⟨p, q, hA0, hV, rfl, hfz, hnd⟩ := hW
  have hA : DataW.TrodAll enc Tryd.prog W 0 (fun _ => true) true Tryd.f4.params.toList args.toList ds p := hA0
  rw [Tryd.params4] at hA hval hsz
  obtain ⟨v0, vs0, d0, ds0, p0, q0, hargs, rfl, rfl, h0, r0⟩ := trodAll_cons hA
  obtain ⟨v1, vs1, d1, ds1, p1, q1, rfl, rfl, rfl, h1, r1⟩ := trodAll_cons r0
  obtain ⟨v2, vs2, d2, ds2, p2, q2, rfl, rfl, rfl, h2, r2⟩ := trodAll_cons r1
  obtain ⟨rfl, rfl, rfl⟩ := trodAll_nil r2
  obtain rfl : args = #[v0, v1, v2] := by cases args; simp_all
  obtain ⟨rfl, rfl⟩ := trodVars_none hV
  obtain ⟨a0, len0, cap0, rfl⟩ := okWide_slice Tryd.underlying22 (hval 0 22 v0 rfl rfl)
  have k0 := h0
  have lt0 : ∀ x ∈ p0, x.block < W.heap.size := by obtain ⟨m, hm⟩ := k0; exact DataW.trod_lt m _ _ _ hm
  obtain ⟨z0, w0, x0, y0, c0, u0⟩ := Zs.ints_came h0
  obtain ⟨a1, rfl, rfl, rfl, w1⟩ := Go.ChangeShapes.open_int Tryd.underlying3 (hval 1 3 v1 rfl rfl) h1
  obtain ⟨a2, rfl, rfl, rfl, w2⟩ := open_string Tryd.underlying9 (hval 2 9 v2 rfl rfl) h2
  have zz2 := sized_string hsz (j := 2) (t := 9) (bytes := a2.data.toList) rfl rfl
  have hcl := Lyk.of_laid hL
  clear hA0 hval0
  refine (walk con fc z0 len0 a0 cap0 a1 a2 W w0 x0 y0 c0 u0 (Zs.int_wf w1) (show a2.size ≤ 140737488351232 from Nat.le_trans zz2 (by decide)) hcl).mono fun e W' ⟨he, bel⟩ => ?_
  subst he
  exact ⟨_, rfl, _, _, _, [], _, [], hW', trodAll_mk1 (shut_bool Tryd.underlying4 _), (trodAll_cons_mk (Below.trod Lyk.laidOut (by kernel_rfl) (of_decide_eq_true (by kernel_rfl)) k0 bel lt0) (trodAll_cons_mk (Go.ChangeShapes.shut_int Tryd.underlying3 w1) (trodAll_cons_mk (shut_string Tryd.underlying9 w2) trodAll_mk0))), rfl, bel.frame _, fun h => by cases h⟩

theorem over (con : Lyo.Con) (fc : Frm.Con) : Rows.LayoutNextSaid :=
  OpenClaim.holds_of_wide 4 Tryd.f4 rfl rfl rfl rfl rfl rfl rfl ⟨rfl, rfl, rfl, rfl, rfl⟩ rfl rfl rfl rfl rfl (by kernel_rfl) Tryd.func4 (by kernel_rfl)
    (of_decide_eq_true (by kernel_rfl)) (by unfold Func.isWrapper; first | (rw [if_pos (by decide +kernel)]; kernel_rfl) | (rw [if_neg (by decide +kernel)]; exact ⟨rfl, rfl⟩))
    (fun os started H enc _ => lifted con fc os started H enc)

theorem of_con (con : Lyo.Con) (fc : Frm.Con) : Rows.LayoutNextCardSaid :=
  Claim7.holds_tied_plain_at .later [] [.data, .data, .pinned] true Rows.layoutNextCard.stood.harness false
    (over con fc) (fun _ h => by cases h) (by kernel_rfl) (fun _ h => by cases h) layoutNext_row_tie rfl ⟨rfl, rfl⟩ (by kernel_rfl) rfl
    (fun f fn hf hfn => by
      obtain rfl : f = 4 := Option.some.inj ((show Tryd.prog.funcNamed "murmur/murmurlaw19.LayoutNext" = some 4 by kernel_rfl).symm.trans hf) |>.symm
      obtain rfl : fn = Tryd.f4 := (Option.some.inj (Tryd.func4.symm.trans hfn)).symm
      exact ⟨by kernel_rfl, fun j t ht => by
        rw [Tryd.params4] at ht
        have hm : t ∈ [22, 3, 9] := by simpa using Array.mem_of_getElem? ht
        have hall : ([22, 3, 9].all fun u => !Tryd.prog.wantsStandIn u) = true := by kernel_rfl
        exact (show Tryd.prog.wantsStandIn t = false by simpa using List.all_eq_true.1 hall t hm)⟩)
    (by kernel_rfl)
/-- The statement. -/
theorem proved : Rows.LayoutNextCardSaid := of_con Lyo.con Frm.con
#print axioms proved
end Go.Proofs.YtedgpglldlohfaaDoor.LawYNx
