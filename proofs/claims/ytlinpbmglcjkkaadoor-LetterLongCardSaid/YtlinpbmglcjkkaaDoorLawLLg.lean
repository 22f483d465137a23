/-
  LetterLong: what is laid has as many bytes as is told; only what fits can be sealed; the names of kinds: for every text, every list of numbers and every list of texts the law answers true and changes nothing that was there. Condition: the table of names holds what the program lays there.
-/
import Derived.Test.YtlinpbmglcjkkaaDoorRows
import Derived.Test.YtlinpbmglcjkkaaDoorLetW
import Derived.Test.YtlinpbmglcjkkaaDoorLetN
import Derived.Test.YtlinpbmglcjkkaaDoorLetH
import Derived.Test.YtlinpbmglcjkkaaDoorLetF
import Derived.Test.YtlinpbmglcjkkaaDoorNamF
import Derived.Test.YtlinpbmglcjkkaaDoorSteady
import Derived.Test.YtlinpbmglcjkkaaDoorCards
import Derived.Test.YtlinpbmglcjkkaaDoorTie
import Derived.SevenTiedAt
import Derived.Test.YtlinpbmglcjkkaaDoorLawPOpen
namespace Go.Proofs.YtlinpbmglcjkkaaDoor.LawLLg
open Go.ChangeShapes Go.WideShapes Go.ChangeAt Go.RowKit Mur Prt Cod Let
open RLet (okB okL okN)
open Ros (glue)
open Go.ChangeMaps (open_string shut_string)
set_option maxRecDepth 100000

open Nam
theorem kept_if {W : World} {f : FuncId} {args : Array Value} {v : Value} (R : ∀ u, Below W.heap.size W u → Calls Tryd.prog f args u fun e w' => e = .returned v ∧ Below u.heap.size u w') :
    ∀ w, Below W.heap.size W w → Calls Tryd.prog f args w fun e w' => e = .returned v ∧ Below W.heap.size W w' := fun w h =>
  (R w h).mono fun _ _ ⟨he, hb⟩ => ⟨he, h.trans (hb.mono h.size)⟩
section
variable {P : Program} {w : World}
theorem load_cell {op : Oper} {a : Act} {p : Addr} {ty : TypeId} {c : Value} {x : Operand} (ho : op.op = .load ty x) (hx : a.eval x = .pointer (some p)) (hc : w.cell? p = some c) (hr : Hold.TyCell P ty) : (execOp a.eval op).run P w = .ok (.value c) w := by
  obtain ⟨d, hu, hd, hs⟩ := hr
  have hagg : (isAgg ty).run P w = .ok false w := by
    unfold isAgg
    rw [Sem.run_bind, run_underlying hu w]
    cases d <;> simp_all
  unfold execOp
  simp [ho, hx, Instr.loadAt, Instr.sureAddr, Sem.run_bind, loadVar, hagg, hc]
end
/-- What is known of a value: what it is laid as, how long it is, whether it fits. -/
structure Known (w : World) (v : Value) (X : ByteArray) (E L : Int) (B : Bool) : Prop where
  lay : ∀ u, Below w.heap.size w u → Calls Tryd.prog 6 #[v] u fun e w' => e = .returned (.tuple #[.string X, .int .i64 E]) ∧ Below u.heap.size u w'
  long : ∀ u, Below w.heap.size w u → Calls Tryd.prog 7 #[v] u fun e w' => e = .returned (.int .i64 L) ∧ Below u.heap.size u w'
  fits : ∀ u, Below w.heap.size w u → Calls Tryd.prog 8 #[v] u fun e w' => e = .returned (.bool B) ∧ Below u.heap.size u w'
  same : E = 0 → L = (X.size : Int)
  small : B = (decide (E = 0) && decide (X.size ≤ 6000))
theorem known_of (w : World) (v : Value) (V : Let.V) (r : Except Nat (List UInt8)) (hr : r = Let.lay V) (hl : ∀ u, Below w.heap.size w u → Calls Tryd.prog 6 #[v] u fun e w' => e = .returned (.tuple #[.string (layX r), .int .i64 (errV r)]) ∧ Below u.heap.size u w')
    (hg : ∀ u, Below w.heap.size w u → Calls Tryd.prog 7 #[v] u fun e w' => e = .returned (.int .i64 ((long V : Nat) : Int)) ∧ Below u.heap.size u w')
    (hf : ∀ B, (errV r = 0 → ((long V : Nat) : Int) = ((layX r).size : Int)) → B = (decide (errV r = 0) && decide ((layX r).size ≤ 6000)) → ∀ u, Below w.heap.size w u → Calls Tryd.prog 8 #[v] u fun e w' => e = .returned (.bool B) ∧ Below u.heap.size u w') : ∃ X E L B, Known w v X E L B := by
  have hs : errV r = 0 → ((long V : Nat) : Int) = ((layX r).size : Int) := fun h => ?same
  refine ⟨layX r, errV r, ((long V : Nat) : Int), _, hl, hg, hf _ hs rfl, hs, rfl⟩
  case same =>
    cases hc : r with
    | error y =>
      rw [hc] at h hr
      have := lay_errs V y hr.symm
      have h : (y : Int) = 0 := h
      omega
    | ok a =>
      rw [hc] at hr
      have := lay_long V a hr.symm
      show ((long V : Nat) : Int) = ((layX (.ok a)).size : Int)
      rw [← this]
      rfl

set_option maxHeartbeats 6400000 in
theorem walk (s : ByteArray) (zs : List Int) (nl : Nat) (al : Option Addr) (cl : Nat) (ms : List ByteArray) (nm : Nat) (am : Option Addr) (cm : Nat) (w : World) (hs : s.size ≤ 9223372036854775807) (hzr : IntsR w al zs) (hzn : zs.length = nl) (hzm : nl ≤ 9223372036854775807) (hzf : ∀ z ∈ zs, -9223372036854775808 ≤ z ∧ z ≤ 9223372036854775807) (hmr : StrsR w am ms) (hmn : ms.length = nm) (hmm : nm ≤ 9223372036854775807) (hmf : ∀ z ∈ ms, z.size ≤ 9223372036854775807) (hnam : Nam.Names w) :
    Calls Tryd.prog 3 #[.string s, .slice al nl cl, .slice am nm cm] w fun e w' => e = .returned (.bool true) ∧ Below w.heap.size w w' := by
  have RA := Lib.hid LetA.awake_any
  obtain ⟨B, hB⟩ : ∃ B, B = LetH.longB nl ms := ⟨_, rfl⟩
  have RG := Lib.hid (fun u => LetH.long_any ms nl nm al am cl cm B u hB hmn.symm)
  have RG := Lib.hid (show ∀ u, StrsR u am ms → _ from fun u hu => RG.out u hu hzm hmm)
  have HZR := Lib.hid hzr
  have HMR := Lib.hid hmr
  cases B with
  | true =>
    clear hs hzr hzn hzf hmr hmn hmf hB
    go_enter Tryd.func3, Tryd.ntmps3
    go_wp2_with fail
    refine (RG.out _ HMR.out).mono ?_
    rintro e w1 ⟨rfl, rfl⟩
    go_wp2_with fail
    refine (RA.out _).mono ?_
    rintro e w1 ⟨rfl, hb⟩
    go_wp2
    go_ret
    exact ⟨rfl, hb⟩
  | false =>
  by_cases hg1 : 6100 < s.size
  · have d1 : decide (6100 < (s.size : Int)) = true := decide_eq_true (by omega)
    have d2 : decide (6100 < s.size) = true := decide_eq_true hg1
    clear hs hzr hzn hzf hmr hmn hmf hB hg1
    go_enter Tryd.func3, Tryd.ntmps3
    go_wp2_with fail
    refine (RG.out _ HMR.out).mono ?_
    rintro e w1 ⟨rfl, rfl⟩
    go_wp2_with fail
    refine (RA.out _).mono ?_
    rintro e w1 ⟨rfl, hb⟩
    go_wp2
    go_ret
    exact ⟨rfl, hb⟩
  have d1 : decide (6100 < (s.size : Int)) = false := decide_eq_false (by omega)
  have d2 : decide (6100 < s.size) = false := decide_eq_false hg1
  by_cases hg2 : nl = 0
  · subst hg2
    have d3 : (((0 : Nat) : Int) == 0) = true := by simp
    clear hs hzr hzn hzf hmr hmn hmf hB hg1
    go_enter Tryd.func3, Tryd.ntmps3
    go_wp2_with fail
    refine (RG.out _ HMR.out).mono ?_
    rintro e w1 ⟨rfl, rfl⟩
    go_wp2_with fail
    refine (RA.out _).mono ?_
    rintro e w1 ⟨rfl, hb⟩
    go_wp2
    go_ret
    exact ⟨rfl, hb⟩
  have d3 : ((nl : Int) == 0) = false := by simp; omega
  obtain ⟨hfs, hnl, hnm⟩ := LetH.longB_no nl ms hB.symm
  rw [hmn] at hnm
  obtain ⟨z0, hz0⟩ : ∃ z0, zs[0]? = some z0 := ⟨zs[0]'(by omega), List.getElem?_eq_getElem _⟩
  obtain ⟨g, o, hgo, hgb, hgc⟩ := hzr (by omega)
  have hc0 := hgc 0 z0 hz0
  rw [Nat.add_zero] at hc0
  have HC := Lib.hid (fun (u : World) (hu : Below w.heap.size w u) => (hu.cell (p := ⟨g, o, none⟩) hgb).trans hc0)
  have hzz := hzf z0 (List.mem_of_getElem? hz0)
  have i1 : (0 : Int) < (nl : Int) := by omega
  have i2 : 0 < nl := by omega
  have K0 := known_of w (.iface 27 (.agg #[.string s])) (.cast s.data.toList) (str s.data.toList) rfl (fun u _ => LetA.layCast_all s _ _ u rfl rfl hs) (fun u _ => LetA.longCast_any s _ u rfl (by omega)) (fun B hs2 hB2 u _ => LetA.fitsCast_any s _ _ _ B u rfl rfl rfl hs2 hB2 (by omega))
  have K1 := known_of w (.iface 29 (.agg #[.slice al nl cl, .int .i64 3])) (.list zs 3) (layList zs 3) rfl (fun u hu => LetA.layList_all zs nl al cl 3 _ _ u rfl rfl (hzr.below hu) hzn (by omega) hzf (by omega) (by omega)) (fun u _ => LetA.longList_any zs nl al cl 3 _ u rfl hzn (by omega)) (fun B hs2 hB2 u hu => LetA.fitsList_any zs nl al cl 3 _ _ _ B u rfl rfl rfl hs2 hB2 (hzr.below hu) hzn (by omega) hzf (by omega) (by omega))
  have K2 := known_of w (.iface 31 (.agg #[.string s])) (.pledge s.data.toList) (layPledge s.data.toList) rfl (fun u _ => LetA.layPledge_all s _ _ u rfl rfl) (fun u _ => LetA.longPledge_any s _ u rfl) (fun B hs2 hB2 u _ => LetA.fitsPledge_any s _ _ _ B u rfl rfl rfl hs2 hB2)
  have K3 := known_of w (.iface 33 (.agg #[.string s, .slice am nm cm])) (.share s.data.toList (RLet.bl ms)) (glue (str s.data.toList) (layAll strB ms)) (by rw [RLet.lay_bl]; rfl) (fun u hu => LetA.layShare_all s ms nm am cm _ _ u rfl rfl (hmr.below hu) hmn (by omega) hmf hs) (fun u hu => LetA.longShare_any s ms nm am cm _ u rfl (hmr.below hu) hmn hnm hfs (by omega)) (fun B hs2 hB2 u hu => LetA.fitsShare_any s ms nm am cm _ _ _ B u rfl rfl rfl hs2 hB2 (hmr.below hu) hmn hnm hfs (by omega))
  have K4 := known_of w (.iface 35 (.agg #[.string s, .slice al nl cl, .int .i64 3])) (.cert s.data.toList zs 3) (layCert s.data.toList zs 3) rfl (fun u hu => LetA.layCert_all s zs nl al cl 3 _ _ u rfl rfl (hzr.below hu) hzn (by omega) hzf (by omega) (by omega) hs) (fun u _ => LetA.longCert_any s zs nl al cl 3 _ u rfl hzn (by omega) (by omega)) (fun B hs2 hB2 u hu => LetA.fitsCert_any s zs nl al cl 3 _ _ _ B u rfl rfl rfl hs2 hB2 (hzr.below hu) hzn (by omega) hzf (by omega) (by omega) (by omega))
  have K5 := known_of w (.iface 37 (.agg #[.slice am nm cm])) (.out (RLet.bl ms)) (layAll strB ms) (by rw [RLet.lay_bl]; rfl) (fun u hu => LetA.layOut_all ms nm am cm _ _ u rfl rfl (hmr.below hu) hmn (by omega) hmf) (fun u hu => LetA.longOut_any ms nm am cm _ u rfl (hmr.below hu) hmn hnm hfs) (fun B hs2 hB2 u hu => LetA.fitsOut_any ms nm am cm _ _ _ B u rfl rfl rfl hs2 hB2 (hmr.below hu) hmn hnm hfs)
  obtain ⟨vs, hvs⟩ : ∃ vs : List Value, vs = [.iface 27 (.agg #[.string s]), .iface 29 (.agg #[.slice al nl cl, .int .i64 3]), .iface 31 (.agg #[.string s]), .iface 33 (.agg #[.string s, .slice am nm cm]), .iface 35 (.agg #[.string s, .slice al nl cl, .int .i64 3]), .iface 37 (.agg #[.slice am nm cm])] := ⟨_, rfl⟩
  have hall : ∀ (j : Nat) (v : Value), vs[j]? = some v → ∃ X E L B, Known w v X E L B := by
    intro j v hv
    rw [hvs] at hv
    match j, hv with
    | 0, hv => cases hv; exact K0
    | 1, hv => cases hv; exact K1
    | 2, hv => cases hv; exact K2
    | 3, hv => cases hv; exact K3
    | 4, hv => cases hv; exact K4
    | 5, hv => cases hv; exact K5
    | _ + 6, hv => cases hv
  have hvl : vs.length = 6 := by rw [hvs]; rfl
  have R1 := Lib.hid (fun u => LetA.longStr_any s u)
  have R2 := Lib.hid (fun u => LetA.fitsStr_any s u)
  obtain ⟨Nm, hNm⟩ : ∃ Nm, Nm = RLet.nameB z0 := ⟨_, rfl⟩
  have R3 := Lib.hid (fun u (hu : Below w.heap.size w u) => Nam.name_any z0 Nm u hNm (hnam.below hu))
  have R4 := Lib.hid (fun u => RLet.name_any z0 Nm u hNm)
  have HALL := Lib.hid hall
  have HVL := Lib.hid hvl
  have HGO := Lib.hid hgo
  have HVS := Lib.hid hvs
  clear hs hzr hzn hzf hmr hmn hmf hB hnam hg2 hfs hnl hnm hgb hgc hc0 hzz hzm hmm hz0 K0 K1 K2 K3 K4 K5 hall hvl hNm hgo hvs hg1
  go_enter Tryd.func3, Tryd.ntmps3
  go_wp2_with fail
  refine (RG.out _ HMR.out).mono ?_
  rintro e w1 ⟨rfl, rfl⟩
  go_upto_region 4 with (fail)
  have hw := Mur.Whole.made w 20 [.iface 27 (.agg #[.string s]), .iface 29 (.agg #[.slice al nl cl, .int .i64 3]), .iface 31 (.agg #[.string s]), .iface 33 (.agg #[.string s, .slice am nm cm]), .iface 35 (.agg #[.string s, .slice al nl cl, .int .i64 3]), .iface 37 (.agg #[.slice am nm cm])]
  have ha := (Below.refl w.heap.size w).alloc (Nat.le_refl _) (.cells #[.iface 27 (.agg #[.string s]), .iface 29 (.agg #[.slice al nl cl, .int .i64 3]), .iface 31 (.agg #[.string s]), .iface 33 (.agg #[.string s, .slice am nm cm]), .iface 35 (.agg #[.string s, .slice al nl cl, .int .i64 3]), .iface 37 (.agg #[.slice am nm cm])] 20)
  have hge : w.heap.size ≤ w.heap.size := Nat.le_refl _
  obtain ⟨b, hb⟩ : ∃ b, b = w.heap.size := ⟨_, rfl⟩
  rw [← hb] at hw ⊢
  have hbw : w.heap.size ≤ b := Nat.le_of_eq hb.symm
  generalize w.alloc (.cells #[.iface 27 (.agg #[.string s]), .iface 29 (.agg #[.slice al nl cl, .int .i64 3]), .iface 31 (.agg #[.string s]), .iface 33 (.agg #[.string s, .slice am nm cm]), .iface 35 (.agg #[.string s, .slice al nl cl, .int .i64 3]), .iface 37 (.agg #[.slice am nm cm])] 20) = w2 at *
  rw [← HVS.out] at hw
  have HW := Lib.hid hw
  have HA := Lib.hid ha
  clear hw ha hge hb hbw HVS
  go_loopw [47] (fun i wr => ∃ j : Nat, j ≤ 6 ∧ i = .int .i64 j ∧ Mur.Whole wr b 20 vs ∧ Below w.heap.size w wr) (fun i _ => 6 - (intOf i).toNat)
  case atStart => exact ⟨0, by omega, rfl, HW.out, HA.out⟩
  case round =>
    clear HW HA
    obtain ⟨j, hj, rfl, hw, hb⟩ := hrel
    have HW := Lib.hid hw
    have HB := Lib.hid hb
    clear hw hb
    by_cases hlt : j < 6
    · obtain ⟨v, hv⟩ : ∃ v, vs[j]? = some v := ⟨vs[j]'(by rw [HVL.out]; exact hlt), List.getElem?_eq_getElem _⟩
      obtain ⟨X, E, L, B, K⟩ := HALL.out j v hv
      have KK := Lib.hid K
      have c0 : wr.cell? ⟨b, j, none⟩ = some v := HW.out.row.cell hv
      have hj2 : (j : Int) < 6 := by omega
      clear hv K
      by_cases hE : E = 0
      · obtain rfl : L = (X.size : Int) := KK.out.same hE
        subst hE
        have hL : ((X.size : Int) != (X.size : Int)) = false := by simp
        have hBx : B = decide (X.size ≤ 6000) := by rw [KK.out.small]; simp
        have d4 : decide ((X.size : Int) ≤ 6000) = B := by rw [hBx]; exact decide_eq_decide.2 (by omega)
        have d5 : decide (X.size ≤ 6000) = B := hBx.symm
        have d6 : (B != B) = false := by simp
        clear hBx
        go_wp2_with fail
        refine (KK.out.lay _ HB.out).mono ?_
        rintro e w5 ⟨rfl, hb⟩
        have HB5 := Lib.hid (HB.out.trans (hb.mono HB.out.size))
        have HW5 := Lib.hid (HW.out.below HW.out.lt hb)
        clear hb c0
        go_wp2_with fail
        refine (KK.out.long _ HB5.out).mono ?_
        rintro e w6 ⟨rfl, hb⟩
        have HB6 := Lib.hid (HB5.out.trans (hb.mono HB5.out.size))
        have HW6 := Lib.hid (HW5.out.below HW5.out.lt hb)
        clear hb
        go_wp2_with fail
        refine (KK.out.fits _ HB6.out).mono ?_
        rintro e w7 ⟨rfl, hb⟩
        have HB7 := Lib.hid (HB6.out.trans (hb.mono HB6.out.size))
        have HW7 := Lib.hid (HW6.out.below HW6.out.lt hb)
        clear hb
        go_wp2
        go_roundw
        case rel => exact ⟨j + 1, by omega, by go_num, HW7.out, HB7.out⟩
        case measure => simp [intOf]; omega
      · have hne : (E == 0) = false := by simp [hE]
        obtain rfl : B = false := by rw [KK.out.small]; simp [hE]
        clear hE
        go_wp2_with fail
        refine (KK.out.lay _ HB.out).mono ?_
        rintro e w5 ⟨rfl, hb⟩
        have HB5 := Lib.hid (HB.out.trans (hb.mono HB.out.size))
        have HW5 := Lib.hid (HW.out.below HW.out.lt hb)
        clear hb c0
        go_wp2_with fail
        refine (KK.out.fits _ HB5.out).mono ?_
        rintro e w7 ⟨rfl, hb⟩
        have HB7 := Lib.hid (HB5.out.trans (hb.mono HB5.out.size))
        have HW7 := Lib.hid (HW5.out.below HW5.out.lt hb)
        clear hb
        go_wp2
        go_roundw
        case rel => exact ⟨j + 1, by omega, by go_num, HW7.out, HB7.out⟩
        case measure => simp [intOf]; omega
    · obtain rfl : j = 6 := by omega
      have hgo := HGO.out
      subst hgo
      obtain ⟨ww, hww⟩ : ∃ ww, ww = wr := ⟨_, rfl⟩
      rw [← hww] at HB ⊢
      have hwd : Below ww.heap.size ww ww.drew := (Below.refl _ _).drew
      have hbd := HB.out.trans (hwd.mono HB.out.size)
      have FC := Lib.hid (fun (u : World) (hu : Below ww.drew.heap.size ww.drew u) => HC.out u (hbd.trans (hu.mono hbd.size)))
      have S1 := Lib.hid (fun u (_ : Below ww.drew.heap.size ww.drew u) => R1.out u)
      have S2 := Lib.hid (fun u (_ : Below ww.drew.heap.size ww.drew u) => R2.out u)
      have S3 := Lib.hid (show ∀ u, Below ww.drew.heap.size ww.drew u → Calls Tryd.prog 9 #[.int .i64 z0] u fun e w' => e = .returned (.string Nm) ∧ Below u.heap.size u w' from fun u hu => (R3.out u (hbd.trans (hu.mono hbd.size))).mono fun _ _ ⟨h1, h2⟩ => ⟨h1, by subst h2; exact Below.refl _ _⟩)
      have S4 := Lib.hid (show ∀ u, Below ww.drew.heap.size ww.drew u → Calls Tryd.prog 10 #[.int .i64 z0] u fun e w' => e = .returned (.string Nm) ∧ Below u.heap.size u w' from fun u _ => (R4.out u).mono fun _ _ ⟨h1, h2⟩ => ⟨h1, by subst h2; exact Below.refl _ _⟩)
      have S5 := Lib.hid (fun u (_ : Below ww.drew.heap.size ww.drew u) => RA.out u)
      have HBD := Lib.hid hbd
      clear hwd hbd hww HW HB R1 R2 R3 R4
      go_upto_region 10 with (fail)
      refine Steady.region 24 (by kernel_rfl) (by as_aux_lemma => kernel_rfl) (fun u => Below ww.drew.heap.size ww.drew u) (Below.refl _ _) ?_
      simp only [List.take_succ_cons, List.take_zero, List.drop_succ_cons, List.drop_zero]
      refine Steady.take ?_ rfl (by intro u hu; go_simp; with_reducible rfl) ?_
      simp only [Act.put, List.setIfInBounds_toArray, List.set_cons_zero, List.set_cons_succ]
      refine Steady.take ?_ rfl (by intro u hu; go_simp; with_reducible rfl) ?_
      simp only [Act.put, List.setIfInBounds_toArray, List.set_cons_zero, List.set_cons_succ]
      refine Steady.call _ _ _ rfl ?_ (kept_if S1.out) ?_
      · intro u
        go_simp
      simp only [Act.put, List.setIfInBounds_toArray, List.set_cons_zero, List.set_cons_succ]
      refine Steady.take ?_ rfl (by intro u hu; go_simp; with_reducible rfl) ?_
      simp only [Act.put, List.setIfInBounds_toArray, List.set_cons_zero, List.set_cons_succ]
      refine Steady.take ?_ rfl (by intro u hu; go_simp; with_reducible rfl) ?_
      simp only [Act.put, List.setIfInBounds_toArray, List.set_cons_zero, List.set_cons_succ]
      refine Steady.take ?_ rfl (by intro u hu; go_simp; with_reducible rfl) ?_
      simp only [Act.put, List.setIfInBounds_toArray, List.set_cons_zero, List.set_cons_succ]
      refine Steady.take ?_ rfl (by intro u hu; go_simp; with_reducible rfl) ?_
      simp only [Act.put, List.setIfInBounds_toArray, List.set_cons_zero, List.set_cons_succ]
      refine Steady.call _ _ _ rfl ?_ (kept_if S2.out) ?_
      · intro u
        go_simp
      simp only [Act.put, List.setIfInBounds_toArray, List.set_cons_zero, List.set_cons_succ]
      refine Steady.take ?_ rfl (by intro u hu; go_simp; with_reducible rfl) ?_
      simp only [Act.put, List.setIfInBounds_toArray, List.set_cons_zero, List.set_cons_succ]
      refine Steady.take ?_ rfl (by intro u hu; go_simp; with_reducible rfl) ?_
      simp only [Act.put, List.setIfInBounds_toArray, List.set_cons_zero, List.set_cons_succ]
      refine Steady.take ?_ rfl (by intro u hu; go_simp; with_reducible rfl) ?_
      simp only [Act.put, List.setIfInBounds_toArray, List.set_cons_zero, List.set_cons_succ]
      refine Steady.take ?_ rfl (by intro u hu; go_simp; with_reducible rfl) ?_
      simp only [Act.put, List.setIfInBounds_toArray, List.set_cons_zero, List.set_cons_succ]
      refine Steady.take ?_ rfl (by intro u hu; go_simp; with_reducible rfl) ?_
      simp only [Act.put, List.setIfInBounds_toArray, List.set_cons_zero, List.set_cons_succ]
      refine Steady.take (.int .i64 z0) rfl (fun u hu => load_cell rfl rfl (FC.out u hu) RLet.cellInt) ?_
      simp only [Act.put, List.setIfInBounds_toArray, List.set_cons_zero, List.set_cons_succ]
      refine Steady.call _ _ _ rfl ?_ (kept_if S3.out) ?_
      · intro u
        go_simp
      simp only [Act.put, List.setIfInBounds_toArray, List.set_cons_zero, List.set_cons_succ]
      refine Steady.take ?_ rfl (by intro u hu; go_simp; with_reducible rfl) ?_
      simp only [Act.put, List.setIfInBounds_toArray, List.set_cons_zero, List.set_cons_succ]
      refine Steady.take ?_ rfl (by intro u hu; go_simp; with_reducible rfl) ?_
      simp only [Act.put, List.setIfInBounds_toArray, List.set_cons_zero, List.set_cons_succ]
      refine Steady.take (.int .i64 z0) rfl (fun u hu => load_cell rfl rfl (FC.out u hu) RLet.cellInt) ?_
      simp only [Act.put, List.setIfInBounds_toArray, List.set_cons_zero, List.set_cons_succ]
      refine Steady.call _ _ _ rfl ?_ (kept_if S4.out) ?_
      · intro u
        go_simp
      simp only [Act.put, List.setIfInBounds_toArray, List.set_cons_zero, List.set_cons_succ]
      refine Steady.take ?_ rfl (by intro u hu; go_simp; with_reducible rfl) ?_
      simp only [Act.put, List.setIfInBounds_toArray, List.set_cons_zero, List.set_cons_succ]
      refine Steady.take ?_ rfl (by intro u hu; go_simp; with_reducible rfl) ?_
      simp only [Act.put, List.setIfInBounds_toArray, List.set_cons_zero, List.set_cons_succ]
      refine Steady.take ?_ rfl (by intro u hu; go_simp; with_reducible rfl) ?_
      simp only [Act.put, List.setIfInBounds_toArray, List.set_cons_zero, List.set_cons_succ]
      refine Steady.call _ _ _ rfl ?_ (kept_if S5.out) ?_
      · intro u
        go_simp
      simp only [Act.put, List.setIfInBounds_toArray, List.set_cons_zero, List.set_cons_succ]
      refine Steady.take ?_ rfl (by intro u hu; go_simp; with_reducible rfl) ?_
      simp only [Act.put, List.setIfInBounds_toArray, List.set_cons_zero, List.set_cons_succ]
      refine Steady.nil ?_
      intro wn hbn
      have HW := Lib.hid (HBD.out.trans (hbn.mono HBD.out.size))
      clear hbn
      go_wp2
      go_ret
      exact ⟨by simp, HW.out⟩

theorem laidOut : laidOutB Tryd.prog = true := by kernel_rfl

set_option maxRecDepth 100000 in
theorem lifted (os : Os) (started : os.Started) (H : Type) (enc : TypeId × Value → H) :
    ReturnsInHanded {} Tryd.checked os 3 .any (fun w args => (Rows.letterLongSpec.pre enc Tryd.prog Tryd.f3 [] false w args ∧ laidMetH Tryd.prog laidL w) ∧ sizedMet enc Tryd.prog Tryd.f3 (OpenSpec.ofChange Rows.letterLongSpec) false w args)
      (Rows.letterLongSpec.post enc Tryd.prog Tryd.f3 false true false false) := by
  refine returnsInHanded_of_change_and (C := Tryd.checked) (X := fun w _ => laidMetH Tryd.prog laidL w) (fun _ _ _ hh h => h.of_heap hh) own started (by kernel_rfl) Tryd.func3
    (ChangeSpec.witness_shaped (enc := enc) (C := Tryd.checked) (os := os) (X := fun w _ => laidMetH Tryd.prog laidL w) false (World.doorLaid Tryd.prog 400 os) #[.string ByteArray.empty, .slice none 0 0, .slice none 0 0] 8 rfl (World.shaped_of_RefB (by kernel_rfl) (by kernel_rfl)) (by kernel_rfl) (by kernel_rfl) (by kernel_rfl) (door_met os _)) ?_
  intro W base args ds gs before hval0 hW _ _ hL _
  have hval : ∀ (j : Nat) t v, Tryd.f3.params[j]? = some t → args[j]? = some v → Value.okWide Tryd.prog W .any base t v := hval0
  have hW' := hW
  obtain ⟨p, q, hA0, hV, rfl, hfz, hnd⟩ := hW
  have hA : DataW.TrodAll enc Tryd.prog W 0 (fun _ => true) true Tryd.f3.params.toList args.toList ds p := hA0
  rw [Tryd.params3] at hA hval
  obtain ⟨v0, vs0, d0, ds0, p0, q0, hargs, rfl, rfl, h0, r0⟩ := trodAll_cons hA
  obtain ⟨v1, vs1, d1, ds1, p1, q1, rfl, rfl, rfl, h1, r1⟩ := trodAll_cons r0
  obtain ⟨v2, vs2, d2, ds2, p2, q2, rfl, rfl, rfl, h2, r2⟩ := trodAll_cons r1
  obtain ⟨rfl, rfl, rfl⟩ := trodAll_nil r2
  obtain rfl : args = #[v0, v1, v2] := by cases args; simp_all
  obtain ⟨rfl, rfl⟩ := trodVars_none hV
  obtain ⟨a0, rfl, rfl, rfl, w0⟩ := open_string Tryd.underlying9 (hval 0 9 v0 rfl rfl) h0
  obtain ⟨a1, len1, cap1, rfl⟩ := okWide_slice Tryd.underlying22 (hval 1 22 v1 rfl rfl)
  have k1 := h1
  have lt1 : ∀ x ∈ p1, x.block < W.heap.size := by obtain ⟨m, hm⟩ := k1; exact DataW.trod_lt m _ _ _ hm
  obtain ⟨z1, w1, x1, y1, u1⟩ := ints_came h1
  obtain ⟨a2, len2, cap2, rfl⟩ := okWide_slice Tryd.underlying23 (hval 2 23 v2 rfl rfl)
  have k2 := h2
  have lt2 : ∀ x ∈ p2, x.block < W.heap.size := by obtain ⟨m, hm⟩ := k2; exact DataW.trod_lt m _ _ _ hm
  obtain ⟨z2, w2, x2, y2, u2⟩ := strs_came h2
  have hcl := of_laid hL
  clear hA0 hval0
  refine (walk a0 z1 len1 a1 cap1 z2 len2 a2 cap2 W (Nat.le_trans w0 (by unfold maxLen; omega)) w1 x1 y1 u1 w2 x2 y2 u2 hcl).mono fun e W' ⟨he, bel⟩ => ?_
  subst he
  exact ⟨_, rfl, _, _, _, [], _, [], hW', trodAll_mk1 (shut_bool Tryd.underlying4 _), (trodAll_cons_mk (shut_string Tryd.underlying9 w0) (trodAll_cons_mk (Below.trod laidOut (by kernel_rfl) (of_decide_eq_true (by kernel_rfl)) k1 bel lt1) (trodAll_cons_mk (Below.trod laidOut (by kernel_rfl) (of_decide_eq_true (by kernel_rfl)) k2 bel lt2) trodAll_mk0))), rfl, bel.frame _, fun h => by cases h⟩

theorem over : Rows.LetterLongSaid :=
  OpenClaim.holds_of_wide 3 Tryd.f3 rfl rfl rfl rfl rfl rfl rfl ⟨rfl, rfl, rfl, rfl, rfl⟩ rfl rfl rfl rfl rfl (by kernel_rfl) Tryd.func3 (by kernel_rfl)
    (of_decide_eq_true (by kernel_rfl)) (by unfold Func.isWrapper; first | (rw [if_pos (by decide +kernel)]; kernel_rfl) | (rw [if_neg (by decide +kernel)]; exact ⟨rfl, rfl⟩))
    (fun os started H enc _ => lifted os started H enc)

theorem proved : Rows.LetterLongCardSaid :=
  Claim7.holds_tied_plain_at .later [] [.data] true Rows.letterLongCard.stood.harness true
    over (fun _ h => by cases h) (by kernel_rfl) (fun _ h => by cases h) letterLong_row_tie rfl ⟨rfl, rfl⟩ (by kernel_rfl) rfl
    (fun f fn hf hfn => by
      obtain rfl : f = 3 := Option.some.inj ((show Tryd.prog.funcNamed "murmur/murmurlaw14.LetterLong" = some 3 by kernel_rfl).symm.trans hf) |>.symm
      obtain rfl : fn = Tryd.f3 := (Option.some.inj (Tryd.func3.symm.trans hfn)).symm
      exact ⟨by kernel_rfl, fun j t ht => by
        rw [Tryd.params3] at ht
        have hm : t ∈ [9, 22, 23] := by simpa using Array.mem_of_getElem? ht
        have hall : ([9, 22, 23].all fun u => !Tryd.prog.wantsStandIn u) = true := by kernel_rfl
        exact (show Tryd.prog.wantsStandIn t = false by simpa using List.all_eq_true.1 hall t hm)⟩)
    (by kernel_rfl)
#print axioms proved
end Go.Proofs.YtlinpbmglcjkkaaDoor.LawLLg
