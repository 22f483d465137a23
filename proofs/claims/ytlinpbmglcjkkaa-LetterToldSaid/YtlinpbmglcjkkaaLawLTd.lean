/-
  LetterTold: what is laid of a share and of a certificate is read, part by part: for every text, every list of numbers and every list of texts the law answers true and changes nothing that was there. Condition: none.
-/
import Derived.Test.YtlinpbmglcjkkaaRows
import Derived.Test.YtlinpbmglcjkkaaLetL
import Derived.Test.YtlinpbmglcjkkaaLetH
import Derived.Test.YtlinpbmglcjkkaaSteady
import Derived.Test.YtlinpbmglcjkkaaLawPOpen
namespace Go.Proofs.Ytlinpbmglcjkkaa.LawLTd
open Go.ChangeShapes Go.WideShapes Go.ChangeAt Go.RowKit Mur Prt Cod Let
open RLet (okB okL okN)
open Ros (glue)
open Go.ChangeMaps (open_string shut_string)
set_option maxRecDepth 100000

theorem kept_if {W : World} {f : FuncId} {args : Array Value} {v : Value} (R : ∀ u, Below W.heap.size W u → Calls Try.prog f args u fun e w' => e = .returned v ∧ Below u.heap.size u w') :
    ∀ w, Below W.heap.size W w → Calls Try.prog f args w fun e w' => e = .returned v ∧ Below W.heap.size W w' := fun w h =>
  (R w h).mono fun _ _ ⟨he, hb⟩ => ⟨he, h.trans (hb.mono h.size)⟩
section
variable {P : Program} {w : World}
theorem load_cell {op : Oper} {a : Act} {p : Addr} {ty : TypeId} {c : Value} {x : Operand} (ho : op.op = .load ty x) (hx : a.eval x = .pointer (some p)) (hc : w.cell? p = some c) (hr : Hold.TyCell P ty) : (execOp a.eval op).run P w = .ok (.value c) w := by
  obtain ⟨d, hu, hd, hs⟩ := hr
  have hagg : (isAgg ty).run P w = .ok false w := by
    unfold isAgg
    rw [Sem.run_bind, run_underlying hu w]
    cases d <;> simp_all
  unfold execOp
  simp [ho, hx, Instr.loadAt, Instr.sureAddr, Sem.run_bind, loadVar, hagg, hc]
end
section
variable {H : Type} {enc : TypeId × Value → H} {w : World} {base : Nat} {spare : Nat → Bool} {held : Bool}
theorem cap_came {a : Option Addr} {n cap : Nat} {d : DataW H} {p : List MemPlace} (h : DataW.Trod enc Try.prog w base spare held 22 (.slice a n cap) d p) : n ≤ cap := by
  obtain ⟨fuel, hf⟩ := h
  rcases open_ints Try.underlying22 Try.underlying3 (by kernel_rfl) hf with ⟨hcs, _⟩ | ⟨x, l, c, zs, hcs, _, hl, hm, hz, _, hcell, hwf⟩
  · simp [Value.cells] at hcs
    obtain ⟨rfl, rfl, rfl⟩ := hcs
    exact Nat.le_refl _
  · simp [Value.cells] at hcs
    obtain ⟨rfl, rfl, rfl⟩ := hcs
    exact hl
end
theorem elem_int : Try.prog.underlying 22 = some (.slice (Try.prog.elem 22)) := by kernel_rfl
theorem size_int (u : World) : (Go.sizeOf (Try.prog.elem 22)).run Try.prog u = .ok 1 u := by kernel_rfl
/-- A list without its first number. -/
theorem tail_ints (g o nl cl : Nat) (z0 : Int) (zt : List Int) (hn : (z0 :: zt).length = nl) (hc : nl ≤ cl) :
    ∃ at' : Option Addr, (∀ u : World, (Instr.slice 22 (.slice (some ⟨g, o, none⟩) nl cl) (some (.int .i64 1)) none none).run Try.prog u = .ok (.slice at' (nl - 1) (cl - 1)) u) ∧ ∀ u, IntsR u (some ⟨g, o, none⟩) (z0 :: zt) → IntsR u at' zt := by
  rw [List.length_cons] at hn
  refine ⟨if cl = 1 then some ⟨g, o, none⟩ else some ⟨g, o + 1, none⟩, fun u => ?_, fun u hu hl => ?_⟩
  · rw [run_slice_l (P := Try.prog) u 22 (some ⟨g, o, none⟩) nl cl elem_int .i64 1 (by omega) (by omega), size_int u]
    show Result.ok (sliced _ 1 nl cl 1) u = _
    unfold sliced
    by_cases h : cl = 1
    · rw [if_pos h, if_pos h]
    · rw [if_neg h, if_neg h]
      rfl
  · obtain ⟨b, q, e, hb, hcc⟩ := hu (by simp)
    cases e
    rw [if_neg (by omega)]
    refine ⟨g, o + 1, rfl, hb, fun i x hx => ?_⟩
    have := hcc (i + 1) x (by rw [List.getElem?_cons_succ]; exact hx)
    rw [show o + 1 + i = o + (i + 1) by omega]
    exact this
theorem tl_bl (ms : List ByteArray) : tl (RLet.bl ms) = ms := by
  rw [tl, RLet.bl, List.map_map]
  exact (List.map_congr_left (fun s _ => tx_data s)).trans (List.map_id' ms)

set_option maxHeartbeats 6400000 in
theorem walk (s : ByteArray) (zs : List Int) (nl : Nat) (al : Option Addr) (cl : Nat) (ms : List ByteArray) (nm : Nat) (am : Option Addr) (cm : Nat) (w : World) (hs : s.size ≤ 9223372036854775807) (hzr : IntsR w al zs) (hzn : zs.length = nl) (hzm : nl ≤ 9223372036854775807) (hzf : ∀ z ∈ zs, -9223372036854775808 ≤ z ∧ z ≤ 9223372036854775807) (hmr : StrsR w am ms) (hmn : ms.length = nm) (hmm : nm ≤ 9223372036854775807) (hmf : ∀ z ∈ ms, z.size ≤ 9223372036854775807) (hcap : nl ≤ cl) :
    Calls Try.prog 6 #[.string s, .slice al nl cl, .slice am nm cm] w fun e w' => e = .returned (.bool true) ∧ Below w.heap.size w w' := by
  have RA := Lib.hid LetA.awake_any
  obtain ⟨B, hB⟩ : ∃ B, B = LetH.longB nl ms := ⟨_, rfl⟩
  have RG := Lib.hid (fun u => LetH.long_any ms nl nm al am cl cm B u hB hmn.symm)
  have RG := Lib.hid (show ∀ u, StrsR u am ms → _ from fun u hu => RG.out u hu hzm hmm)
  have HZR := Lib.hid hzr
  have HMR := Lib.hid hmr
  cases B with
  | true =>
    clear hcap hs hzr hzn hzf hmr hmn hmf hB
    go_enter Try.func6, Try.ntmps6
    go_wp2_with fail
    refine (RG.out _ HMR.out).mono ?_
    rintro e w1 ⟨rfl, rfl⟩
    go_wp2_with fail
    refine (RA.out _).mono ?_
    rintro e w1 ⟨rfl, hb⟩
    go_wp2
    go_ret
    exact ⟨rfl, hb⟩
  | false =>
  by_cases hg1 : 6100 < s.size
  · have d1 : decide (6100 < (s.size : Int)) = true := decide_eq_true (by omega)
    have d2 : decide (6100 < s.size) = true := decide_eq_true hg1
    clear hcap hs hzr hzn hzf hmr hmn hmf hB hg1
    go_enter Try.func6, Try.ntmps6
    go_wp2_with fail
    refine (RG.out _ HMR.out).mono ?_
    rintro e w1 ⟨rfl, rfl⟩
    go_wp2_with fail
    refine (RA.out _).mono ?_
    rintro e w1 ⟨rfl, hb⟩
    go_wp2
    go_ret
    exact ⟨rfl, hb⟩
  have d1 : decide (6100 < (s.size : Int)) = false := decide_eq_false (by omega)
  have d2 : decide (6100 < s.size) = false := decide_eq_false hg1
  by_cases hg2 : nl = 0
  · subst hg2
    have d3 : (((0 : Nat) : Int) == 0) = true := by simp
    clear hcap hs hzr hzn hzf hmr hmn hmf hB hg1
    go_enter Try.func6, Try.ntmps6
    go_wp2_with fail
    refine (RG.out _ HMR.out).mono ?_
    rintro e w1 ⟨rfl, rfl⟩
    go_wp2_with fail
    refine (RA.out _).mono ?_
    rintro e w1 ⟨rfl, hb⟩
    go_wp2
    go_ret
    exact ⟨rfl, hb⟩
  have d3 : ((nl : Int) == 0) = false := by simp; omega
  obtain ⟨hfs, hnl, hnm⟩ := LetH.longB_no nl ms hB.symm
  rw [hmn] at hnm
  obtain ⟨z0, zt, rfl⟩ : ∃ z0 zt, zs = z0 :: zt := by
    match zs, hzn with
    | [], h => exact absurd h.symm hg2
    | z :: zt, _ => exact ⟨z, zt, rfl⟩
  obtain ⟨g, o, rfl, hgb, hgc⟩ := hzr (by simp)
  have hc0 := hgc 0 z0 rfl
  rw [Nat.add_zero] at hc0
  have HC := Lib.hid (fun (u : World) (hu : Below w.heap.size w u) => (hu.cell (p := ⟨g, o, none⟩) hgb).trans hc0)
  have hzz := hzf z0 List.mem_cons_self
  have i1 : (0 : Int) < (nl : Int) := by omega
  have i2 : 0 < nl := by omega
  obtain ⟨at', hsl, htl⟩ := tail_ints g o nl cl z0 zt hzn hcap
  obtain ⟨X4, hX4⟩ : ∃ V, V = layX (glue (str s.data.toList) (layAll strB ms)) := ⟨_, rfl⟩
  obtain ⟨E4, hE4⟩ : ∃ V, V = errV (glue (str s.data.toList) (layAll strB ms)) := ⟨_, rfl⟩
  obtain ⟨X5, hX5⟩ : ∃ V, V = layX (layCert s.data.toList zt z0) := ⟨_, rfl⟩
  obtain ⟨E5, hE5⟩ : ∃ V, V = errV (layCert s.data.toList zt z0) := ⟨_, rfl⟩
  have L4 := Lib.hid (fun u (hu : Below w.heap.size w u) => LetA.layShare_all s ms nm am cm X4 E4 u hX4 hE4 (HMR.out.below hu) hmn (by omega) hmf hs)
  have L5 := Lib.hid (fun u (hu : Below w.heap.size w u) => LetA.layCert_all s zt (nl - 1) at' (cl - 1) z0 X5 E5 u hX5 hE5 (htl u (HZR.out.below hu)) (by rw [List.length_cons] at hzn; omega) (by omega) (fun z hz => hzf z (List.mem_cons_of_mem _ hz)) hzz.1 hzz.2 hs)
  have H4 := Lib.hid (And.intro hX4 hE4)
  have H5 := Lib.hid (And.intro hX5 hE5)
  have HT := Lib.hid htl
  have HZN := Lib.hid hzn
  have HMN := Lib.hid (And.intro hmn hfs)
  clear hs hzr hzn hzf hmr hmn hmf hB hg2 hfs hgb hgc hc0 hzz hzm hmm hX4 hE4 hX5 hE5 htl hcap
  go_enter Try.func6, Try.ntmps6
  go_wp2_with fail
  refine (RG.out _ HMR.out).mono ?_
  rintro e w1 ⟨rfl, rfl⟩
  go_wp2_with fail
  refine (L4.out _ (Below.refl _ _)).mono ?_
  rintro e w1 ⟨rfl, hb⟩
  have HB := Lib.hid hb
  clear hb
  cases hr4 : glue (str s.data.toList) (layAll strB ms) with
  | error y =>
    have hE := H4.out.2
    rw [hr4] at hE
    obtain rfl : E4 = (y : Int) := hE
    have hy : 1 ≤ y ∧ y ≤ 4 := glue_errs _ _ (str_err _) (RLet.strB_errs ms) y hr4
    have hne : ((y : Int) == 0) = false := by simp; omega
    clear hr4 hy
    go_upto_region 8 with (fail)
    obtain ⟨w, hwe⟩ : ∃ w, w = w1 := ⟨_, rfl⟩
    rw [← hwe] at HB ⊢
    clear hwe
    have hwd : Below w.heap.size w w.drew := (Below.refl _ _).drew
    have hbd := HB.out.trans (hwd.mono HB.out.size)
    have FC := Lib.hid (fun (u : World) (hu : Below w.drew.heap.size w.drew u) => HC.out u (hbd.trans (hu.mono hbd.size)))
    have R5 := Lib.hid (fun u (hu : Below w.drew.heap.size w.drew u) => L5.out u (hbd.trans (hu.mono hbd.size)))
    have HBD := Lib.hid hbd
    clear hwd hbd
    refine Steady.region 13 (by kernel_rfl) (by as_aux_lemma => kernel_rfl) (fun u => Below w.drew.heap.size w.drew u) (Below.refl _ _) ?_
    simp only [List.take_succ_cons, List.take_zero, List.drop_succ_cons, List.drop_zero]
    refine Steady.take ?_ rfl (by intro u hu; go_simp; with_reducible rfl) ?_
    simp only [Act.put, List.setIfInBounds_toArray, List.set_cons_zero, List.set_cons_succ]
    refine Steady.take ?_ rfl (by intro u hu; go_simp; with_reducible rfl) ?_
    simp only [Act.put, List.setIfInBounds_toArray, List.set_cons_zero, List.set_cons_succ]
    refine Steady.take ?_ rfl (by intro u hu; go_simp; with_reducible rfl) ?_
    simp only [Act.put, List.setIfInBounds_toArray, List.set_cons_zero, List.set_cons_succ]
    refine Steady.take ?_ rfl (by intro u hu; go_simp; with_reducible rfl) ?_
    simp only [Act.put, List.setIfInBounds_toArray, List.set_cons_zero, List.set_cons_succ]
    refine Steady.take ?_ rfl (by intro u hu; go_simp; with_reducible rfl) ?_
    simp only [Act.put, List.setIfInBounds_toArray, List.set_cons_zero, List.set_cons_succ]
    refine Steady.take (.int .i64 z0) rfl (fun u hu => load_cell rfl rfl (FC.out u hu) RLet.cellInt) ?_
    simp only [Act.put, List.setIfInBounds_toArray, List.set_cons_zero, List.set_cons_succ]
    refine Steady.take ?_ rfl (by intro u hu; go_simp; with_reducible rfl) ?_
    simp only [Act.put, List.setIfInBounds_toArray, List.set_cons_zero, List.set_cons_succ]
    refine Steady.take ?_ rfl (by intro u hu; go_simp; with_reducible rfl) ?_
    simp only [Act.put, List.setIfInBounds_toArray, List.set_cons_zero, List.set_cons_succ]
    refine Steady.call _ _ _ rfl ?_ (kept_if R5.out) ?_
    · intro u
      go_simp
    simp only [Act.put, List.setIfInBounds_toArray, List.set_cons_zero, List.set_cons_succ]
    refine Steady.take ?_ rfl (by intro u hu; go_simp; with_reducible rfl) ?_
    simp only [Act.put, List.setIfInBounds_toArray, List.set_cons_zero, List.set_cons_succ]
    refine Steady.take ?_ rfl (by intro u hu; go_simp; with_reducible rfl) ?_
    simp only [Act.put, List.setIfInBounds_toArray, List.set_cons_zero, List.set_cons_succ]
    refine Steady.take ?_ rfl (by intro u hu; go_simp; with_reducible rfl) ?_
    simp only [Act.put, List.setIfInBounds_toArray, List.set_cons_zero, List.set_cons_succ]
    refine Steady.take ?_ rfl (by intro u hu; go_simp; with_reducible rfl) ?_
    simp only [Act.put, List.setIfInBounds_toArray, List.set_cons_zero, List.set_cons_succ]
    refine Steady.nil ?_
    intro wn hbn
    replace HB := Lib.hid (HBD.out.trans (hbn.mono HBD.out.size))
    clear hbn HBD FC R5
    cases hr5 : layCert s.data.toList zt z0 with
    | error y =>
      have hE := H5.out.2
      rw [hr5] at hE
      obtain rfl : E5 = (y : Int) := hE
      have hy := lay_errs (.cert s.data.toList zt z0) y hr5
      have hne : ((y : Int) == 0) = false := by simp; omega
      clear hr5 hy
      go_wp2_with fail
      refine (RA.out _).mono ?_
      rintro e w9 ⟨rfl, hb⟩
      have HZ := Lib.hid (HB.out.trans (hb.mono HB.out.size))
      clear hb
      go_wp2
      go_ret
      exact ⟨rfl, HZ.out⟩
    | ok b5 =>
      have hX := H5.out.1
      have hE := H5.out.2
      rw [hr5] at hX hE
      obtain rfl : E5 = 0 := hE
      have hXl : X5.data.toList = b5 := by rw [hX]; rfl
      have hlong := lay_long (.cert s.data.toList zt z0) b5 hr5
      obtain ⟨ns, n0, hns, rfl, hrd⟩ := cert_read _ _ _ _ hr5
      rw [← hXl] at hrd
      have hsz : X5.size ≤ 1000000000 := by
        have h1 : X5.size = b5.length := by rw [hX]; rfl
        rw [h1, hlong]
        show 8 + s.size + 5 * zt.length ≤ _
        have := HZN.out
        rw [List.length_cons] at this
        omega
      have RC := Lib.hid (fun u => LetA.readCert_any X5 s ns (n0 : Int) 0 u (by rw [hrd]; exact (tx_data s).symm) (by rw [hrd]; rfl) (by rw [hrd]; rfl) (by rw [hrd]; rfl) hsz)
      obtain ⟨M, hM⟩ : ∃ M, M = ns.length := ⟨_, rfl⟩
      rw [← hM] at RC
      have hM2 : M = nl - 1 := by
        have := HZN.out
        rw [List.length_cons] at this
        rw [hM, ← Ros.ints_length, ← hns]
        omega
      have hzl : zl ns = zt := hns.symm
      have HMM := Lib.hid (And.intro hM2 hzl)
      clear hr5 hX hXl hlong hrd hsz hM hM2 hzl hns
      go_wp2_with fail
      refine (RC.out _).mono ?_
      rintro e w8 ⟨ao, c, rfl, hi, -, hb⟩
      replace HB := Lib.hid (HB.out.trans (hb.mono HB.out.size))
      clear hb
      go_upto_region 11 with (fail)
      have hw8 := Mur.Whole.made w8 42 [.string s, .slice ao M c, .int .i64 (n0 : Int)]
      have ha := (Below.refl w8.heap.size w8).alloc (Nat.le_refl _) (.cells #[.string s, .slice ao M c, .int .i64 (n0 : Int)] 42)
      have hb := HB.out.trans (ha.mono HB.out.size)
      have hi2 := hi.below ha
      obtain ⟨b8, hb8⟩ : ∃ b, b = w8.heap.size := ⟨_, rfl⟩
      rw [← hb8] at hw8 ⊢
      clear ha hi
      generalize w8.alloc (.cells #[.string s, .slice ao M c, .int .i64 (n0 : Int)] 42) = w at *
      have hwd : Below w.heap.size w w.drew := (Below.refl _ _).drew
      have hbd := hb.trans (hwd.mono hb.size)
      have FC := Lib.hid (fun (u : World) (hu : Below w.drew.heap.size w.drew u) => HC.out u (hbd.trans (hu.mono hbd.size)))
      have FW := Lib.hid (fun (u : World) (hu : Below w.drew.heap.size w.drew u) => (hw8.below hw8.lt (hwd.trans hu)).row)
      have RI := Lib.hid (fun u (hu : Below w.drew.heap.size w.drew u) => LetH.ints_any zt M (nl - 1) ao at' c (cl - 1) u (by rw [HMM.out.1]; have := HZN.out; rw [List.length_cons] at this; omega) (by have := HZN.out; rw [List.length_cons] at this; omega) (by rw [HMM.out.1]; omega) (by have := hi2.below (hwd.trans hu); rw [HMM.out.2] at this; exact this) (HT.out u (HZR.out.below (hbd.trans (hu.mono hbd.size)))))
      have HBD := Lib.hid hbd
      clear hwd hbd hb hb8 hw8 hi2
      refine Steady.region 23 (by kernel_rfl) (by as_aux_lemma => kernel_rfl) (fun u => Below w.drew.heap.size w.drew u) (Below.refl _ _) ?_
      simp only [List.take_succ_cons, List.take_zero, List.drop_succ_cons, List.drop_zero]
      refine Steady.take ?_ rfl (by intro u hu; go_simp; with_reducible rfl) ?_
      simp only [Act.put, List.setIfInBounds_toArray, List.set_cons_zero, List.set_cons_succ]
      refine Steady.take ?_ rfl (by intro u hu; go_simp; with_reducible rfl) ?_
      simp only [Act.put, List.setIfInBounds_toArray, List.set_cons_zero, List.set_cons_succ]
      refine Steady.take ?_ rfl (by intro u hu; go_simp; with_reducible rfl) ?_
      simp only [Act.put, List.setIfInBounds_toArray, List.set_cons_zero, List.set_cons_succ]
      refine Steady.take ?_ rfl (by intro u hu; go_simp; with_reducible rfl) ?_
      simp only [Act.put, List.setIfInBounds_toArray, List.set_cons_zero, List.set_cons_succ]
      refine Steady.take (.string s) rfl (fun u hu => load_cell rfl rfl ((FW.out u hu).cell (i := 0) rfl) RLet.cellStr) ?_
      simp only [Act.put, List.setIfInBounds_toArray, List.set_cons_zero, List.set_cons_succ]
      refine Steady.take ?_ rfl (by intro u hu; go_simp; with_reducible rfl) ?_
      simp only [Act.put, List.setIfInBounds_toArray, List.set_cons_zero, List.set_cons_succ]
      refine Steady.take ?_ rfl (by intro u hu; go_simp; with_reducible rfl) ?_
      simp only [Act.put, List.setIfInBounds_toArray, List.set_cons_zero, List.set_cons_succ]
      refine Steady.take ?_ rfl (by intro u hu; go_simp; with_reducible rfl) ?_
      simp only [Act.put, List.setIfInBounds_toArray, List.set_cons_zero, List.set_cons_succ]
      refine Steady.take ?_ rfl (by intro u hu; go_simp; with_reducible rfl) ?_
      simp only [Act.put, List.setIfInBounds_toArray, List.set_cons_zero, List.set_cons_succ]
      refine Steady.take ?_ rfl (by intro u hu; go_simp; with_reducible rfl) ?_
      simp only [Act.put, List.setIfInBounds_toArray, List.set_cons_zero, List.set_cons_succ]
      refine Steady.take (.slice ao M c) rfl (fun u hu => load_cell rfl rfl ((FW.out u hu).cell (i := 1) rfl) RLet.cellInts) ?_
      simp only [Act.put, List.setIfInBounds_toArray, List.set_cons_zero, List.set_cons_succ]
      refine Steady.take ?_ rfl (by intro u hu; go_simp; with_reducible rfl) ?_
      simp only [Act.put, List.setIfInBounds_toArray, List.set_cons_zero, List.set_cons_succ]
      refine Steady.take ?_ rfl (by intro u hu; go_simp; with_reducible rfl) ?_
      simp only [Act.put, List.setIfInBounds_toArray, List.set_cons_zero, List.set_cons_succ]
      refine Steady.call _ _ _ rfl ?_ (kept_if RI.out) ?_
      · intro u
        go_simp
      simp only [Act.put, List.setIfInBounds_toArray, List.set_cons_zero, List.set_cons_succ]
      refine Steady.take ?_ rfl (by intro u hu; go_simp; with_reducible rfl) ?_
      simp only [Act.put, List.setIfInBounds_toArray, List.set_cons_zero, List.set_cons_succ]
      refine Steady.take ?_ rfl (by intro u hu; go_simp; with_reducible rfl) ?_
      simp only [Act.put, List.setIfInBounds_toArray, List.set_cons_zero, List.set_cons_succ]
      refine Steady.take ?_ rfl (by intro u hu; go_simp; with_reducible rfl) ?_
      simp only [Act.put, List.setIfInBounds_toArray, List.set_cons_zero, List.set_cons_succ]
      refine Steady.take ?_ rfl (by intro u hu; go_simp; with_reducible rfl) ?_
      simp only [Act.put, List.setIfInBounds_toArray, List.set_cons_zero, List.set_cons_succ]
      refine Steady.take (.int .i64 (n0 : Int)) rfl (fun u hu => load_cell rfl rfl ((FW.out u hu).cell (i := 2) rfl) RLet.cellInt) ?_
      simp only [Act.put, List.setIfInBounds_toArray, List.set_cons_zero, List.set_cons_succ]
      refine Steady.take ?_ rfl (by intro u hu; go_simp; with_reducible rfl) ?_
      simp only [Act.put, List.setIfInBounds_toArray, List.set_cons_zero, List.set_cons_succ]
      refine Steady.take ?_ rfl (by intro u hu; go_simp; with_reducible rfl) ?_
      simp only [Act.put, List.setIfInBounds_toArray, List.set_cons_zero, List.set_cons_succ]
      refine Steady.take (.int .i64 (n0 : Int)) rfl (fun u hu => load_cell rfl rfl (FC.out u hu) RLet.cellInt) ?_
      simp only [Act.put, List.setIfInBounds_toArray, List.set_cons_zero, List.set_cons_succ]
      refine Steady.take ?_ rfl (by intro u hu; go_simp; with_reducible rfl) ?_
      simp only [Act.put, List.setIfInBounds_toArray, List.set_cons_zero, List.set_cons_succ]
      refine Steady.nil ?_
      intro wn hbn
      have HW := Lib.hid (HBD.out.trans (hbn.mono HBD.out.size))
      clear hbn
      go_wp2_with fail
      refine (RA.out _).mono ?_
      rintro e w9 ⟨rfl, hb⟩
      have HZ := Lib.hid (HW.out.trans (hb.mono HW.out.size))
      clear hb
      go_wp2
      go_ret
      exact ⟨rfl, HZ.out⟩
  | ok b4 =>
    have hX := H4.out.1
    have hE := H4.out.2
    rw [hr4] at hX hE
    obtain rfl : E4 = 0 := hE
    have hXl : X4.data.toList = b4 := by rw [hX]; rfl
    have hr4b : layShare s.data.toList (RLet.bl ms) = .ok b4 := by rw [layShare, ← RLet.lay_bl]; exact hr4
    have hrd := share_read _ _ _ hr4b
    rw [← hXl] at hrd
    have hsz : X4.size ≤ 1000000000 := by
      have h1 : X4.size = b4.length := by rw [hX]; rfl
      have := glue_most _ _ _ _ (str_length s.data.toList) (RLet.strs_most ms) b4 hr4
      omega
    have RS := Lib.hid (fun u => LetA.readShare_any X4 s (RLet.bl ms) 0 u (by rw [hrd]; exact (tx_data s).symm) (by rw [hrd]; rfl) (by rw [hrd]; rfl) hsz)
    rw [tl_bl, show (RLet.bl ms).length = nm from (List.length_map _).trans HMN.out.1] at RS
    clear hr4 hr4b hX hXl hrd hsz
    go_wp2_with fail
    refine (RS.out _).mono ?_
    rintro e w2 ⟨ao, c, rfl, hi, -, hb⟩
    replace HB := Lib.hid (HB.out.trans (hb.mono HB.out.size))
    clear hb
    go_upto_region 6 with (fail)
    have hw2 := Mur.Whole.made w2 39 [.string s, .slice ao nm c]
    have ha := (Below.refl w2.heap.size w2).alloc (Nat.le_refl _) (.cells #[.string s, .slice ao nm c] 39)
    have hb := HB.out.trans (ha.mono HB.out.size)
    have HI := Lib.hid (hi.below ha)
    obtain ⟨b2, hb2⟩ : ∃ b, b = w2.heap.size := ⟨_, rfl⟩
    rw [← hb2] at hw2 ⊢
    clear ha hi HB
    generalize w2.alloc (.cells #[.string s, .slice ao nm c] 39) = w3 at *
    have HB := Lib.hid hb
    have c0 : w3.cell? ⟨b2, 0, none⟩ = some (.string s) := hw2.row.cell rfl
    have c1 : w3.cell? ⟨b2, 1, none⟩ = some (.slice ao nm c) := hw2.row.cell rfl
    clear hb hb2 hw2
    go_wp2_with fail
    refine (LetH.texts_any ms nm nm ao am c cm _ HMN.out.1.symm HMN.out.1.symm (by omega) HI.out (HMR.out.below HB.out)).mono ?_
    rintro e w4 ⟨rfl, hb⟩
    replace HB := Lib.hid (HB.out.trans (hb.mono HB.out.size))
    clear hb c0 c1 HI
    go_upto_region 8 with (fail)
    obtain ⟨w, hwe⟩ : ∃ w, w = w4 := ⟨_, rfl⟩
    rw [← hwe] at HB ⊢
    clear hwe
    have hwd : Below w.heap.size w w.drew := (Below.refl _ _).drew
    have hbd := HB.out.trans (hwd.mono HB.out.size)
    have FC := Lib.hid (fun (u : World) (hu : Below w.drew.heap.size w.drew u) => HC.out u (hbd.trans (hu.mono hbd.size)))
    have R5 := Lib.hid (fun u (hu : Below w.drew.heap.size w.drew u) => L5.out u (hbd.trans (hu.mono hbd.size)))
    have HBD := Lib.hid hbd
    clear hwd hbd
    refine Steady.region 13 (by kernel_rfl) (by as_aux_lemma => kernel_rfl) (fun u => Below w.drew.heap.size w.drew u) (Below.refl _ _) ?_
    simp only [List.take_succ_cons, List.take_zero, List.drop_succ_cons, List.drop_zero]
    refine Steady.take ?_ rfl (by intro u hu; go_simp; with_reducible rfl) ?_
    simp only [Act.put, List.setIfInBounds_toArray, List.set_cons_zero, List.set_cons_succ]
    refine Steady.take ?_ rfl (by intro u hu; go_simp; with_reducible rfl) ?_
    simp only [Act.put, List.setIfInBounds_toArray, List.set_cons_zero, List.set_cons_succ]
    refine Steady.take ?_ rfl (by intro u hu; go_simp; with_reducible rfl) ?_
    simp only [Act.put, List.setIfInBounds_toArray, List.set_cons_zero, List.set_cons_succ]
    refine Steady.take ?_ rfl (by intro u hu; go_simp; with_reducible rfl) ?_
    simp only [Act.put, List.setIfInBounds_toArray, List.set_cons_zero, List.set_cons_succ]
    refine Steady.take ?_ rfl (by intro u hu; go_simp; with_reducible rfl) ?_
    simp only [Act.put, List.setIfInBounds_toArray, List.set_cons_zero, List.set_cons_succ]
    refine Steady.take (.int .i64 z0) rfl (fun u hu => load_cell rfl rfl (FC.out u hu) RLet.cellInt) ?_
    simp only [Act.put, List.setIfInBounds_toArray, List.set_cons_zero, List.set_cons_succ]
    refine Steady.take ?_ rfl (by intro u hu; go_simp; with_reducible rfl) ?_
    simp only [Act.put, List.setIfInBounds_toArray, List.set_cons_zero, List.set_cons_succ]
    refine Steady.take ?_ rfl (by intro u hu; go_simp; with_reducible rfl) ?_
    simp only [Act.put, List.setIfInBounds_toArray, List.set_cons_zero, List.set_cons_succ]
    refine Steady.call _ _ _ rfl ?_ (kept_if R5.out) ?_
    · intro u
      go_simp
    simp only [Act.put, List.setIfInBounds_toArray, List.set_cons_zero, List.set_cons_succ]
    refine Steady.take ?_ rfl (by intro u hu; go_simp; with_reducible rfl) ?_
    simp only [Act.put, List.setIfInBounds_toArray, List.set_cons_zero, List.set_cons_succ]
    refine Steady.take ?_ rfl (by intro u hu; go_simp; with_reducible rfl) ?_
    simp only [Act.put, List.setIfInBounds_toArray, List.set_cons_zero, List.set_cons_succ]
    refine Steady.take ?_ rfl (by intro u hu; go_simp; with_reducible rfl) ?_
    simp only [Act.put, List.setIfInBounds_toArray, List.set_cons_zero, List.set_cons_succ]
    refine Steady.take ?_ rfl (by intro u hu; go_simp; with_reducible rfl) ?_
    simp only [Act.put, List.setIfInBounds_toArray, List.set_cons_zero, List.set_cons_succ]
    refine Steady.nil ?_
    intro wn hbn
    replace HB := Lib.hid (HBD.out.trans (hbn.mono HBD.out.size))
    clear hbn HBD FC R5
    cases hr5 : layCert s.data.toList zt z0 with
    | error y =>
      have hE := H5.out.2
      rw [hr5] at hE
      obtain rfl : E5 = (y : Int) := hE
      have hy := lay_errs (.cert s.data.toList zt z0) y hr5
      have hne : ((y : Int) == 0) = false := by simp; omega
      clear hr5 hy
      go_wp2_with fail
      refine (RA.out _).mono ?_
      rintro e w9 ⟨rfl, hb⟩
      have HZ := Lib.hid (HB.out.trans (hb.mono HB.out.size))
      clear hb
      go_wp2
      go_ret
      exact ⟨rfl, HZ.out⟩
    | ok b5 =>
      have hX := H5.out.1
      have hE := H5.out.2
      rw [hr5] at hX hE
      obtain rfl : E5 = 0 := hE
      have hXl : X5.data.toList = b5 := by rw [hX]; rfl
      have hlong := lay_long (.cert s.data.toList zt z0) b5 hr5
      obtain ⟨ns, n0, hns, rfl, hrd⟩ := cert_read _ _ _ _ hr5
      rw [← hXl] at hrd
      have hsz : X5.size ≤ 1000000000 := by
        have h1 : X5.size = b5.length := by rw [hX]; rfl
        rw [h1, hlong]
        show 8 + s.size + 5 * zt.length ≤ _
        have := HZN.out
        rw [List.length_cons] at this
        omega
      have RC := Lib.hid (fun u => LetA.readCert_any X5 s ns (n0 : Int) 0 u (by rw [hrd]; exact (tx_data s).symm) (by rw [hrd]; rfl) (by rw [hrd]; rfl) (by rw [hrd]; rfl) hsz)
      obtain ⟨M, hM⟩ : ∃ M, M = ns.length := ⟨_, rfl⟩
      rw [← hM] at RC
      have hM2 : M = nl - 1 := by
        have := HZN.out
        rw [List.length_cons] at this
        rw [hM, ← Ros.ints_length, ← hns]
        omega
      have hzl : zl ns = zt := hns.symm
      have HMM := Lib.hid (And.intro hM2 hzl)
      clear hr5 hX hXl hlong hrd hsz hM hM2 hzl hns
      go_wp2_with fail
      refine (RC.out _).mono ?_
      rintro e w8 ⟨ao, c, rfl, hi, -, hb⟩
      replace HB := Lib.hid (HB.out.trans (hb.mono HB.out.size))
      clear hb
      go_upto_region 11 with (fail)
      have hw8 := Mur.Whole.made w8 42 [.string s, .slice ao M c, .int .i64 (n0 : Int)]
      have ha := (Below.refl w8.heap.size w8).alloc (Nat.le_refl _) (.cells #[.string s, .slice ao M c, .int .i64 (n0 : Int)] 42)
      have hb := HB.out.trans (ha.mono HB.out.size)
      have hi2 := hi.below ha
      obtain ⟨b8, hb8⟩ : ∃ b, b = w8.heap.size := ⟨_, rfl⟩
      rw [← hb8] at hw8 ⊢
      clear ha hi
      generalize w8.alloc (.cells #[.string s, .slice ao M c, .int .i64 (n0 : Int)] 42) = w at *
      have hwd : Below w.heap.size w w.drew := (Below.refl _ _).drew
      have hbd := hb.trans (hwd.mono hb.size)
      have FC := Lib.hid (fun (u : World) (hu : Below w.drew.heap.size w.drew u) => HC.out u (hbd.trans (hu.mono hbd.size)))
      have FW := Lib.hid (fun (u : World) (hu : Below w.drew.heap.size w.drew u) => (hw8.below hw8.lt (hwd.trans hu)).row)
      have RI := Lib.hid (fun u (hu : Below w.drew.heap.size w.drew u) => LetH.ints_any zt M (nl - 1) ao at' c (cl - 1) u (by rw [HMM.out.1]; have := HZN.out; rw [List.length_cons] at this; omega) (by have := HZN.out; rw [List.length_cons] at this; omega) (by rw [HMM.out.1]; omega) (by have := hi2.below (hwd.trans hu); rw [HMM.out.2] at this; exact this) (HT.out u (HZR.out.below (hbd.trans (hu.mono hbd.size)))))
      have HBD := Lib.hid hbd
      clear hwd hbd hb hb8 hw8 hi2
      refine Steady.region 23 (by kernel_rfl) (by as_aux_lemma => kernel_rfl) (fun u => Below w.drew.heap.size w.drew u) (Below.refl _ _) ?_
      simp only [List.take_succ_cons, List.take_zero, List.drop_succ_cons, List.drop_zero]
      refine Steady.take ?_ rfl (by intro u hu; go_simp; with_reducible rfl) ?_
      simp only [Act.put, List.setIfInBounds_toArray, List.set_cons_zero, List.set_cons_succ]
      refine Steady.take ?_ rfl (by intro u hu; go_simp; with_reducible rfl) ?_
      simp only [Act.put, List.setIfInBounds_toArray, List.set_cons_zero, List.set_cons_succ]
      refine Steady.take ?_ rfl (by intro u hu; go_simp; with_reducible rfl) ?_
      simp only [Act.put, List.setIfInBounds_toArray, List.set_cons_zero, List.set_cons_succ]
      refine Steady.take ?_ rfl (by intro u hu; go_simp; with_reducible rfl) ?_
      simp only [Act.put, List.setIfInBounds_toArray, List.set_cons_zero, List.set_cons_succ]
      refine Steady.take (.string s) rfl (fun u hu => load_cell rfl rfl ((FW.out u hu).cell (i := 0) rfl) RLet.cellStr) ?_
      simp only [Act.put, List.setIfInBounds_toArray, List.set_cons_zero, List.set_cons_succ]
      refine Steady.take ?_ rfl (by intro u hu; go_simp; with_reducible rfl) ?_
      simp only [Act.put, List.setIfInBounds_toArray, List.set_cons_zero, List.set_cons_succ]
      refine Steady.take ?_ rfl (by intro u hu; go_simp; with_reducible rfl) ?_
      simp only [Act.put, List.setIfInBounds_toArray, List.set_cons_zero, List.set_cons_succ]
      refine Steady.take ?_ rfl (by intro u hu; go_simp; with_reducible rfl) ?_
      simp only [Act.put, List.setIfInBounds_toArray, List.set_cons_zero, List.set_cons_succ]
      refine Steady.take ?_ rfl (by intro u hu; go_simp; with_reducible rfl) ?_
      simp only [Act.put, List.setIfInBounds_toArray, List.set_cons_zero, List.set_cons_succ]
      refine Steady.take ?_ rfl (by intro u hu; go_simp; with_reducible rfl) ?_
      simp only [Act.put, List.setIfInBounds_toArray, List.set_cons_zero, List.set_cons_succ]
      refine Steady.take (.slice ao M c) rfl (fun u hu => load_cell rfl rfl ((FW.out u hu).cell (i := 1) rfl) RLet.cellInts) ?_
      simp only [Act.put, List.setIfInBounds_toArray, List.set_cons_zero, List.set_cons_succ]
      refine Steady.take ?_ rfl (by intro u hu; go_simp; with_reducible rfl) ?_
      simp only [Act.put, List.setIfInBounds_toArray, List.set_cons_zero, List.set_cons_succ]
      refine Steady.take ?_ rfl (by intro u hu; go_simp; with_reducible rfl) ?_
      simp only [Act.put, List.setIfInBounds_toArray, List.set_cons_zero, List.set_cons_succ]
      refine Steady.call _ _ _ rfl ?_ (kept_if RI.out) ?_
      · intro u
        go_simp
      simp only [Act.put, List.setIfInBounds_toArray, List.set_cons_zero, List.set_cons_succ]
      refine Steady.take ?_ rfl (by intro u hu; go_simp; with_reducible rfl) ?_
      simp only [Act.put, List.setIfInBounds_toArray, List.set_cons_zero, List.set_cons_succ]
      refine Steady.take ?_ rfl (by intro u hu; go_simp; with_reducible rfl) ?_
      simp only [Act.put, List.setIfInBounds_toArray, List.set_cons_zero, List.set_cons_succ]
      refine Steady.take ?_ rfl (by intro u hu; go_simp; with_reducible rfl) ?_
      simp only [Act.put, List.setIfInBounds_toArray, List.set_cons_zero, List.set_cons_succ]
      refine Steady.take ?_ rfl (by intro u hu; go_simp; with_reducible rfl) ?_
      simp only [Act.put, List.setIfInBounds_toArray, List.set_cons_zero, List.set_cons_succ]
      refine Steady.take (.int .i64 (n0 : Int)) rfl (fun u hu => load_cell rfl rfl ((FW.out u hu).cell (i := 2) rfl) RLet.cellInt) ?_
      simp only [Act.put, List.setIfInBounds_toArray, List.set_cons_zero, List.set_cons_succ]
      refine Steady.take ?_ rfl (by intro u hu; go_simp; with_reducible rfl) ?_
      simp only [Act.put, List.setIfInBounds_toArray, List.set_cons_zero, List.set_cons_succ]
      refine Steady.take ?_ rfl (by intro u hu; go_simp; with_reducible rfl) ?_
      simp only [Act.put, List.setIfInBounds_toArray, List.set_cons_zero, List.set_cons_succ]
      refine Steady.take (.int .i64 (n0 : Int)) rfl (fun u hu => load_cell rfl rfl (FC.out u hu) RLet.cellInt) ?_
      simp only [Act.put, List.setIfInBounds_toArray, List.set_cons_zero, List.set_cons_succ]
      refine Steady.take ?_ rfl (by intro u hu; go_simp; with_reducible rfl) ?_
      simp only [Act.put, List.setIfInBounds_toArray, List.set_cons_zero, List.set_cons_succ]
      refine Steady.nil ?_
      intro wn hbn
      have HW := Lib.hid (HBD.out.trans (hbn.mono HBD.out.size))
      clear hbn
      go_wp2_with fail
      refine (RA.out _).mono ?_
      rintro e w9 ⟨rfl, hb⟩
      have HZ := Lib.hid (HW.out.trans (hb.mono HW.out.size))
      clear hb
      go_wp2
      go_ret
      exact ⟨rfl, HZ.out⟩

theorem own : ownKnob Try.prog.godebug = none := by kernel_rfl
theorem laidOut : laidOutB Try.prog = true := by kernel_rfl

theorem lifted (os : Os) (started : os.Started) (H : Type) (enc : TypeId × Value → H) :
    ReturnsInHanded {} Try.checked os 6 .any (Rows.letterToldSpec.pre6 enc Try.prog Try.f6 Rows.letterToldRow.domain false) (Rows.letterToldSpec.post enc Try.prog Try.f6 false true false false) := by
  refine returnsInHanded_of_change (C := Try.checked) own started (by kernel_rfl) Try.func6
    (ChangeSpec.witness6 (enc := enc) (C := Try.checked) false ⟨#[], #[.string ByteArray.empty, .slice none 0 0, .slice none 0 0], []⟩ 8 (by kernel_rfl) (by kernel_rfl) (by kernel_rfl) (by kernel_rfl)) ?_
  intro W base args ds gs before hval0 hW hcnd _
  have hval : ∀ (j : Nat) t v, Try.f6.params[j]? = some t → args[j]? = some v → Value.okWide Try.prog W .any base t v := hval0
  have hW' := hW
  obtain ⟨p, q, hA0, hV, rfl, hfz, hnd⟩ := hW
  have hA : DataW.TrodAll enc Try.prog W 0 (fun _ => true) true Try.f6.params.toList args.toList ds p := hA0
  rw [Try.params6] at hA hval
  obtain ⟨v0, vs0, d0, ds0, p0, q0, hargs, rfl, rfl, h0, r0⟩ := trodAll_cons hA
  obtain ⟨v1, vs1, d1, ds1, p1, q1, rfl, rfl, rfl, h1, r1⟩ := trodAll_cons r0
  obtain ⟨v2, vs2, d2, ds2, p2, q2, rfl, rfl, rfl, h2, r2⟩ := trodAll_cons r1
  obtain ⟨rfl, rfl, rfl⟩ := trodAll_nil r2
  obtain rfl : args = #[v0, v1, v2] := by cases args; simp_all
  obtain ⟨rfl, rfl⟩ := trodVars_none hV
  obtain ⟨a0, rfl, rfl, rfl, w0⟩ := open_string Try.underlying9 (hval 0 9 v0 rfl rfl) h0
  obtain ⟨a1, len1, cap1, rfl⟩ := okWide_slice Try.underlying22 (hval 1 22 v1 rfl rfl)
  have k1 := h1
  have lt1 : ∀ x ∈ p1, x.block < W.heap.size := by obtain ⟨m, hm⟩ := k1; exact DataW.trod_lt m _ _ _ hm
  obtain ⟨z1, w1, x1, y1, u1⟩ := ints_came h1
  obtain ⟨a2, len2, cap2, rfl⟩ := okWide_slice Try.underlying23 (hval 2 23 v2 rfl rfl)
  have k2 := h2
  have lt2 : ∀ x ∈ p2, x.block < W.heap.size := by obtain ⟨m, hm⟩ := k2; exact DataW.trod_lt m _ _ _ hm
  obtain ⟨z2, w2, x2, y2, u2⟩ := strs_came h2
  clear hA0 hval0
  refine (walk a0 z1 len1 a1 cap1 z2 len2 a2 cap2 W (Nat.le_trans w0 (by unfold maxLen; omega)) w1 x1 y1 u1 w2 x2 y2 u2 (cap_came k1)).mono fun e W' ⟨he, bel⟩ => ?_
  subst he
  exact ⟨_, rfl, _, _, _, [], _, [], hW', trodAll_mk1 (shut_bool Try.underlying4 _), (trodAll_cons_mk (shut_string Try.underlying9 w0) (trodAll_cons_mk (Below.trod laidOut (by kernel_rfl) (of_decide_eq_true (by kernel_rfl)) k1 bel lt1) (trodAll_cons_mk (Below.trod laidOut (by kernel_rfl) (of_decide_eq_true (by kernel_rfl)) k2 bel lt2) trodAll_mk0))), rfl, bel.frame _, fun h => by cases h⟩

theorem over : Rows.letterToldRow.holds Try.pinned (OpenSpec.ofChange Rows.letterToldSpec) :=
  OpenClaim.holds_of_wide 6 Try.f6 rfl rfl rfl rfl rfl rfl rfl ⟨rfl, rfl, rfl, rfl, rfl⟩ rfl rfl rfl rfl rfl (by kernel_rfl) Try.func6 (by kernel_rfl)
    (of_decide_eq_true (by kernel_rfl)) (by unfold Func.isWrapper; first | (rw [if_pos (by decide +kernel)]; kernel_rfl) | (rw [if_neg (by decide +kernel)]; exact ⟨rfl, rfl⟩))
    (fun os started H enc _ => lifted os started H enc)

theorem proved : Rows.LetterToldSaid := over
#print axioms proved
end Go.Proofs.Ytlinpbmglcjkkaa.LawLTd
