/-
  LetterLays: what anything that letters say is as bytes, and its kind: for every text, every list of numbers and every list of texts the law answers true and changes nothing that was there. Condition: none.
-/
import Derived.Test.YtlinpbmglcjkkaaRows
import Derived.Test.YtlinpbmglcjkkaaLetL
import Derived.Test.YtlinpbmglcjkkaaLetH
import Derived.Test.YtlinpbmglcjkkaaLawPOpen
namespace Go.Proofs.Ytlinpbmglcjkkaa.LawLLy
open Go.ChangeShapes Go.WideShapes Go.ChangeAt Go.RowKit Mur Prt Cod Let
open RLet (okB okL okN)
open Ros (glue)
open Go.ChangeMaps (open_string shut_string)
set_option maxRecDepth 100000

set_option maxHeartbeats 6400000 in
theorem walk (s : ByteArray) (zs : List Int) (nl : Nat) (al : Option Addr) (cl : Nat) (ms : List ByteArray) (nm : Nat) (am : Option Addr) (cm : Nat) (w : World) (hs : s.size ≤ 9223372036854775807) (hzr : IntsR w al zs) (hzn : zs.length = nl) (hzm : nl ≤ 9223372036854775807) (hzf : ∀ z ∈ zs, -9223372036854775808 ≤ z ∧ z ≤ 9223372036854775807) (hmr : StrsR w am ms) (hmn : ms.length = nm) (hmm : nm ≤ 9223372036854775807) (hmf : ∀ z ∈ ms, z.size ≤ 9223372036854775807) :
    Calls Try.prog 3 #[.string s, .slice al nl cl, .slice am nm cm] w fun e w' => e = .returned (.bool true) ∧ Below w.heap.size w w' := by
  have RA := Lib.hid LetA.awake_any
  obtain ⟨B, hB⟩ : ∃ B, B = LetH.longB nl ms := ⟨_, rfl⟩
  have RG := Lib.hid (fun u => LetH.long_any ms nl nm al am cl cm B u hB hmn.symm)
  have RG := Lib.hid (show ∀ u, StrsR u am ms → _ from fun u hu => RG.out u hu hzm hmm)
  have HZR := Lib.hid hzr
  have HMR := Lib.hid hmr
  cases B with
  | true =>
    clear hs hzr hzn hzf hmr hmn hmf hB
    go_enter Try.func3, Try.ntmps3
    go_wp2_with fail
    refine (RG.out _ HMR.out).mono ?_
    rintro e w1 ⟨rfl, rfl⟩
    go_wp2_with fail
    refine (RA.out _).mono ?_
    rintro e w1 ⟨rfl, hb⟩
    go_wp2
    go_ret
    exact ⟨rfl, hb⟩
  | false =>
  by_cases hg1 : 6100 < s.size
  · have d1 : decide (6100 < (s.size : Int)) = true := decide_eq_true (by omega)
    have d2 : decide (6100 < s.size) = true := decide_eq_true hg1
    clear hs hzr hzn hzf hmr hmn hmf hB hg1
    go_enter Try.func3, Try.ntmps3
    go_wp2_with fail
    refine (RG.out _ HMR.out).mono ?_
    rintro e w1 ⟨rfl, rfl⟩
    go_wp2_with fail
    refine (RA.out _).mono ?_
    rintro e w1 ⟨rfl, hb⟩
    go_wp2
    go_ret
    exact ⟨rfl, hb⟩
  have d1 : decide (6100 < (s.size : Int)) = false := decide_eq_false (by omega)
  have d2 : decide (6100 < s.size) = false := decide_eq_false hg1
  by_cases hg2 : nl = 0
  · subst hg2
    have d3 : (((0 : Nat) : Int) == 0) = true := by simp
    clear hs hzr hzn hzf hmr hmn hmf hB hg1
    go_enter Try.func3, Try.ntmps3
    go_wp2_with fail
    refine (RG.out _ HMR.out).mono ?_
    rintro e w1 ⟨rfl, rfl⟩
    go_wp2_with fail
    refine (RA.out _).mono ?_
    rintro e w1 ⟨rfl, hb⟩
    go_wp2
    go_ret
    exact ⟨rfl, hb⟩
  have d3 : ((nl : Int) == 0) = false := by simp; omega
  obtain ⟨hfs, hnl, hnm⟩ := LetH.longB_no nl ms hB.symm
  rw [hmn] at hnm
  obtain ⟨z0, zt, rfl⟩ : ∃ z0 zt, zs = z0 :: zt := by
    match zs, hzn with
    | [], h => exact absurd h.symm hg2
    | z :: zt, _ => exact ⟨z, zt, rfl⟩
  obtain ⟨g, o, rfl, hgb, hgc⟩ := hzr (by simp)
  have hc0 := hgc 0 z0 rfl
  rw [Nat.add_zero] at hc0
  have HC := Lib.hid (fun (u : World) (hu : Below w.heap.size w u) => (hu.cell (p := ⟨g, o, none⟩) hgb).trans hc0)
  have hzz := hzf z0 List.mem_cons_self
  have i1 : (0 : Int) < (nl : Int) := by omega
  have i2 : 0 < nl := by omega
  obtain ⟨X1, hX1⟩ : ∃ V, V = layX (str s.data.toList) := ⟨_, rfl⟩
  obtain ⟨E1, hE1⟩ : ∃ V, V = errV (str s.data.toList) := ⟨_, rfl⟩
  obtain ⟨X2, hX2⟩ : ∃ V, V = layX (layList (z0 :: zt) z0) := ⟨_, rfl⟩
  obtain ⟨E2, hE2⟩ : ∃ V, V = errV (layList (z0 :: zt) z0) := ⟨_, rfl⟩
  obtain ⟨X3, hX3⟩ : ∃ V, V = layX (layPledge s.data.toList) := ⟨_, rfl⟩
  obtain ⟨E3, hE3⟩ : ∃ V, V = errV (layPledge s.data.toList) := ⟨_, rfl⟩
  obtain ⟨X4, hX4⟩ : ∃ V, V = layX (glue (str s.data.toList) (layAll strB ms)) := ⟨_, rfl⟩
  obtain ⟨E4, hE4⟩ : ∃ V, V = errV (glue (str s.data.toList) (layAll strB ms)) := ⟨_, rfl⟩
  obtain ⟨X5, hX5⟩ : ∃ V, V = layX (layCert s.data.toList (z0 :: zt) z0) := ⟨_, rfl⟩
  obtain ⟨E5, hE5⟩ : ∃ V, V = errV (layCert s.data.toList (z0 :: zt) z0) := ⟨_, rfl⟩
  obtain ⟨X6, hX6⟩ : ∃ V, V = layX (layAll strB ms) := ⟨_, rfl⟩
  obtain ⟨E6, hE6⟩ : ∃ V, V = errV (layAll strB ms) := ⟨_, rfl⟩
  have R1 := Lib.hid (fun u (_ : Below w.heap.size w u) => RLet.layCast_any s X1 E1 u hX1 hE1 hs)
  have R2 := Lib.hid (fun u (hu : Below w.heap.size w u) => RLet.layList_any (z0 :: zt) nl (some ⟨g, o, none⟩) cl z0 X2 E2 u hX2 hE2 (HZR.out.below hu) hzn (by omega) hzf hzz.1 hzz.2)
  have R3 := Lib.hid (fun u (_ : Below w.heap.size w u) => RLet.layPledge_any s X3 E3 u hX3 hE3)
  have R4 := Lib.hid (fun u (hu : Below w.heap.size w u) => RLet.layShare_any s ms nm am cm X4 E4 u hX4 hE4 (HMR.out.below hu) hmn (by omega) hmf hs)
  have R5 := Lib.hid (fun u (hu : Below w.heap.size w u) => RLet.layCert_any s (z0 :: zt) nl (some ⟨g, o, none⟩) cl z0 X5 E5 u hX5 hE5 (HZR.out.below hu) hzn (by omega) hzf hzz.1 hzz.2 hs)
  have R6 := Lib.hid (fun u (hu : Below w.heap.size w u) => RLet.layOut_any ms nm am cm X6 E6 u hX6 hE6 (HMR.out.below hu) hmn (by omega) hmf)
  have L1 := Lib.hid (fun u (_ : Below w.heap.size w u) => LetL.laid_any (.iface 30 (.agg #[.string s])) 1 X1 E1 u (fun u _ => LetA.layCast_all s X1 E1 u hX1 hE1 hs) (fun u _ => LetA.kindCast_any s u))
  have L2 := Lib.hid (fun u (hv : Below w.heap.size w u) => LetL.laid_any (.iface 33 (.agg #[.slice (some ⟨g, o, none⟩) nl cl, .int .i64 z0])) 2 X2 E2 u (fun u hu2 => have hu := hv.trans (hu2.mono hv.size); LetA.layList_all (z0 :: zt) nl (some ⟨g, o, none⟩) cl z0 X2 E2 u hX2 hE2 (HZR.out.below hu) hzn (by omega) hzf hzz.1 hzz.2) (fun u _ => LetA.kindList_any nl (some ⟨g, o, none⟩) cl z0 u))
  have L3 := Lib.hid (fun u (_ : Below w.heap.size w u) => LetL.laid_any (.iface 36 (.agg #[.string s])) 3 X3 E3 u (fun u _ => LetA.layPledge_all s X3 E3 u hX3 hE3) (fun u _ => LetA.kindPledge_any s u))
  have L4 := Lib.hid (fun u (hv : Below w.heap.size w u) => LetL.laid_any (.iface 39 (.agg #[.string s, .slice am nm cm])) 4 X4 E4 u (fun u hu2 => have hu := hv.trans (hu2.mono hv.size); LetA.layShare_all s ms nm am cm X4 E4 u hX4 hE4 (HMR.out.below hu) hmn (by omega) hmf hs) (fun u hu2 => LetA.kindShare_any s ms nm am cm u (HMR.out.below (hv.trans (hu2.mono hv.size))) hmn (by omega)))
  have L5 := Lib.hid (fun u (hv : Below w.heap.size w u) => LetL.laid_any (.iface 42 (.agg #[.string s, .slice (some ⟨g, o, none⟩) nl cl, .int .i64 z0])) 5 X5 E5 u (fun u hu2 => have hu := hv.trans (hu2.mono hv.size); LetA.layCert_all s (z0 :: zt) nl (some ⟨g, o, none⟩) cl z0 X5 E5 u hX5 hE5 (HZR.out.below hu) hzn (by omega) hzf hzz.1 hzz.2 hs) (fun u _ => LetA.kindCert_any s nl (some ⟨g, o, none⟩) cl z0 u))
  have L6 := Lib.hid (fun u (hv : Below w.heap.size w u) => LetL.laid_any (.iface 45 (.agg #[.slice am nm cm])) 6 X6 E6 u (fun u hu2 => have hu := hv.trans (hu2.mono hv.size); LetA.layOut_all ms nm am cm X6 E6 u hX6 hE6 (HMR.out.below hu) hmn (by omega) hmf) (fun u hu2 => LetA.kindOut_any ms nm am cm u (HMR.out.below (hv.trans (hu2.mono hv.size))) hmn (by omega)))
  have C1 := Lib.hid (fun u (_ : Below w.heap.size w u) => LetA.layCast_any s X1 E1 u hX1 hE1 hs)
  have C2 := Lib.hid (fun u (hu : Below w.heap.size w u) => LetA.layList_any (z0 :: zt) nl (some ⟨g, o, none⟩) cl z0 X2 E2 u hX2 hE2 (HZR.out.below hu) hzn (by omega) hzf hzz.1 hzz.2)
  have C3 := Lib.hid (fun u (hu : Below w.heap.size w u) => LetL.pledged_any s ms nm am cm X3 E3 u hX3 hE3 (HMR.out.below hu) hmn (by omega) hmf hs)
  have C4 := Lib.hid (fun u (_ : Below w.heap.size w u) => LetL.laid_any (.iface 9 (.string s)) 0 ⟨#[]⟩ 1 u (fun u _ => LetA.layStr_all s u) (fun u _ => LetA.kindStr_any s u))
  have C5 := Lib.hid (fun u (_ : Below w.heap.size w u) => LetA.awake_any u)
  have HM := Lib.hid (Hold.Hld.start w)
  have c0 := HC.out _ (Below.refl _ _)
  clear hs hzr hzn hzf hmr hmn hmf hB hg1 hg2 hfs hnl hnm hgb hgc hc0 hzz hzm hmm hX1 hE1 hX2 hE2 hX3 hE3 hX4 hE4 hX5 hE5 hX6 hE6
  go_enter Try.func3, Try.ntmps3
  go_wp2_with fail
  refine (RG.out _ HMR.out).mono ?_
  rintro e w1 ⟨rfl, rfl⟩
  go_wp2_with ((first
    | (with_reducible refine (R1.out _ HM.out.below).mono ?_; rintro e w ⟨rfl, hb⟩; replace HM := Lib.hid (HM.out.next hb); clear hb; have c0 := HC.out _ HM.out.below)
    | (with_reducible refine (R2.out _ HM.out.below).mono ?_; rintro e w ⟨rfl, hb⟩; replace HM := Lib.hid (HM.out.next hb); clear hb; have c0 := HC.out _ HM.out.below)
    | (with_reducible refine (R3.out _ HM.out.below).mono ?_; rintro e w ⟨rfl, hb⟩; replace HM := Lib.hid (HM.out.next hb); clear hb; have c0 := HC.out _ HM.out.below)
    | (with_reducible refine (R4.out _ HM.out.below).mono ?_; rintro e w ⟨rfl, hb⟩; replace HM := Lib.hid (HM.out.next hb); clear hb; have c0 := HC.out _ HM.out.below)
    | (with_reducible refine (R5.out _ HM.out.below).mono ?_; rintro e w ⟨rfl, hb⟩; replace HM := Lib.hid (HM.out.next hb); clear hb; have c0 := HC.out _ HM.out.below)
    | (with_reducible refine (R6.out _ HM.out.below).mono ?_; rintro e w ⟨rfl, hb⟩; replace HM := Lib.hid (HM.out.next hb); clear hb; have c0 := HC.out _ HM.out.below)
    | (with_reducible refine (L1.out _ HM.out.below).mono ?_; rintro e w ⟨rfl, hb⟩; replace HM := Lib.hid (HM.out.next hb); clear hb; have c0 := HC.out _ HM.out.below)
    | (with_reducible refine (L2.out _ HM.out.below).mono ?_; rintro e w ⟨rfl, hb⟩; replace HM := Lib.hid (HM.out.next hb); clear hb; have c0 := HC.out _ HM.out.below)
    | (with_reducible refine (L3.out _ HM.out.below).mono ?_; rintro e w ⟨rfl, hb⟩; replace HM := Lib.hid (HM.out.next hb); clear hb; have c0 := HC.out _ HM.out.below)
    | (with_reducible refine (L4.out _ HM.out.below).mono ?_; rintro e w ⟨rfl, hb⟩; replace HM := Lib.hid (HM.out.next hb); clear hb; have c0 := HC.out _ HM.out.below)
    | (with_reducible refine (L5.out _ HM.out.below).mono ?_; rintro e w ⟨rfl, hb⟩; replace HM := Lib.hid (HM.out.next hb); clear hb; have c0 := HC.out _ HM.out.below)
    | (with_reducible refine (L6.out _ HM.out.below).mono ?_; rintro e w ⟨rfl, hb⟩; replace HM := Lib.hid (HM.out.next hb); clear hb; have c0 := HC.out _ HM.out.below)
    | (with_reducible refine (C1.out _ HM.out.below).mono ?_; rintro e w ⟨rfl, hb⟩; replace HM := Lib.hid (HM.out.next hb); clear hb; have c0 := HC.out _ HM.out.below)
    | (with_reducible refine (C2.out _ HM.out.below).mono ?_; rintro e w ⟨rfl, hb⟩; replace HM := Lib.hid (HM.out.next hb); clear hb; have c0 := HC.out _ HM.out.below)
    | (with_reducible refine (C3.out _ HM.out.below).mono ?_; rintro e w ⟨rfl, hb⟩; replace HM := Lib.hid (HM.out.next hb); clear hb; have c0 := HC.out _ HM.out.below)
    | (with_reducible refine (C4.out _ HM.out.below).mono ?_; rintro e w ⟨rfl, hb⟩; replace HM := Lib.hid (HM.out.next hb); clear hb; have c0 := HC.out _ HM.out.below)
    | (with_reducible refine (C5.out _ HM.out.below).mono ?_; rintro e w ⟨rfl, hb⟩; replace HM := Lib.hid (HM.out.next hb); clear hb; have c0 := HC.out _ HM.out.below)))

  go_ret
  exact ⟨by simp, HM.out.below⟩

theorem own : ownKnob Try.prog.godebug = none := by kernel_rfl
theorem laidOut : laidOutB Try.prog = true := by kernel_rfl

theorem lifted (os : Os) (started : os.Started) (H : Type) (enc : TypeId × Value → H) :
    ReturnsInHanded {} Try.checked os 3 .any (Rows.letterLaysSpec.pre6 enc Try.prog Try.f3 Rows.letterLaysRow.domain false) (Rows.letterLaysSpec.post enc Try.prog Try.f3 false true false false) := by
  refine returnsInHanded_of_change (C := Try.checked) own started (by kernel_rfl) Try.func3
    (ChangeSpec.witness6 (enc := enc) (C := Try.checked) false ⟨#[], #[.string ByteArray.empty, .slice none 0 0, .slice none 0 0], []⟩ 8 (by kernel_rfl) (by kernel_rfl) (by kernel_rfl) (by kernel_rfl)) ?_
  intro W base args ds gs before hval0 hW hcnd _
  have hval : ∀ (j : Nat) t v, Try.f3.params[j]? = some t → args[j]? = some v → Value.okWide Try.prog W .any base t v := hval0
  have hW' := hW
  obtain ⟨p, q, hA0, hV, rfl, hfz, hnd⟩ := hW
  have hA : DataW.TrodAll enc Try.prog W 0 (fun _ => true) true Try.f3.params.toList args.toList ds p := hA0
  rw [Try.params3] at hA hval
  obtain ⟨v0, vs0, d0, ds0, p0, q0, hargs, rfl, rfl, h0, r0⟩ := trodAll_cons hA
  obtain ⟨v1, vs1, d1, ds1, p1, q1, rfl, rfl, rfl, h1, r1⟩ := trodAll_cons r0
  obtain ⟨v2, vs2, d2, ds2, p2, q2, rfl, rfl, rfl, h2, r2⟩ := trodAll_cons r1
  obtain ⟨rfl, rfl, rfl⟩ := trodAll_nil r2
  obtain rfl : args = #[v0, v1, v2] := by cases args; simp_all
  obtain ⟨rfl, rfl⟩ := trodVars_none hV
  obtain ⟨a0, rfl, rfl, rfl, w0⟩ := open_string Try.underlying9 (hval 0 9 v0 rfl rfl) h0
  obtain ⟨a1, len1, cap1, rfl⟩ := okWide_slice Try.underlying22 (hval 1 22 v1 rfl rfl)
  have k1 := h1
  have lt1 : ∀ x ∈ p1, x.block < W.heap.size := by obtain ⟨m, hm⟩ := k1; exact DataW.trod_lt m _ _ _ hm
  obtain ⟨z1, w1, x1, y1, u1⟩ := ints_came h1
  obtain ⟨a2, len2, cap2, rfl⟩ := okWide_slice Try.underlying23 (hval 2 23 v2 rfl rfl)
  have k2 := h2
  have lt2 : ∀ x ∈ p2, x.block < W.heap.size := by obtain ⟨m, hm⟩ := k2; exact DataW.trod_lt m _ _ _ hm
  obtain ⟨z2, w2, x2, y2, u2⟩ := strs_came h2
  clear hA0 hval0
  refine (walk a0 z1 len1 a1 cap1 z2 len2 a2 cap2 W (Nat.le_trans w0 (by unfold maxLen; omega)) w1 x1 y1 u1 w2 x2 y2 u2).mono fun e W' ⟨he, bel⟩ => ?_
  subst he
  exact ⟨_, rfl, _, _, _, [], _, [], hW', trodAll_mk1 (shut_bool Try.underlying4 _), (trodAll_cons_mk (shut_string Try.underlying9 w0) (trodAll_cons_mk (Below.trod laidOut (by kernel_rfl) (of_decide_eq_true (by kernel_rfl)) k1 bel lt1) (trodAll_cons_mk (Below.trod laidOut (by kernel_rfl) (of_decide_eq_true (by kernel_rfl)) k2 bel lt2) trodAll_mk0))), rfl, bel.frame _, fun h => by cases h⟩

theorem over : Rows.letterLaysRow.holds Try.pinned (OpenSpec.ofChange Rows.letterLaysSpec) :=
  OpenClaim.holds_of_wide 3 Try.f3 rfl rfl rfl rfl rfl rfl rfl ⟨rfl, rfl, rfl, rfl, rfl⟩ rfl rfl rfl rfl rfl (by kernel_rfl) Try.func3 (by kernel_rfl)
    (of_decide_eq_true (by kernel_rfl)) (by unfold Func.isWrapper; first | (rw [if_pos (by decide +kernel)]; kernel_rfl) | (rw [if_neg (by decide +kernel)]; exact ⟨rfl, rfl⟩))
    (fun os started H enc _ => lifted os started H enc)

theorem proved : Rows.LetterLaysSaid := over
#print axioms proved
end Go.Proofs.Ytlinpbmglcjkkaa.LawLLy
