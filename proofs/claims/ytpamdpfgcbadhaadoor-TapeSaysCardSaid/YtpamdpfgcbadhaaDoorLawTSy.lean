/-
  TapeSays: cells got and put, bytes that fit, and all names are the document's: for every list of cells, any two texts and any four numbers the law answers true and changes nothing that was there. Condition: the arguments' sizes, as the row bounds them.
-/
import Derived.Test.YtpamdpfgcbadhaaDoorRows
import Derived.Test.YtpamdpfgcbadhaaDoorTpW
import Derived.Test.YtpamdpfgcbadhaaDoorTpO
import Derived.Test.YtpamdpfgcbadhaaDoorTpK
import Derived.Test.YtpamdpfgcbadhaaDoorSteadyH
namespace Go.Proofs.YtpamdpfgcbadhaaDoor.LawTSy
open Go.ChangeShapes Go.WideShapes Go.ChangeAt Go.RowKit Mur Prt Tap Cel RTap
open Go.ChangeMaps (open_string shut_string)
set_option maxRecDepth 100000
set_option linter.unusedSimpArgs false

theorem cellInt : Hold.TyCell Tryd.prog 3 := ⟨_, Tryd.underlying3, rfl, by kernel_rfl⟩
theorem putF_length (n s : List UInt8) (d : Bool) (l : List C) : (putF n s d l).length ≤ l.length + 1 := by
  have h3 : ∀ d l, d = true → (putF n s d l).length ≤ l.length := by
    intro d l
    induction l generalizing d with
    | nil => intro h; subst h; simp [putF]
    | cons c l ih =>
      intro h
      subst h
      have := ih true rfl
      rw [putF_cons]
      split
      · rw [if_pos rfl, List.length_cons]; omega
      · rw [List.length_cons, List.length_cons]; omega
  induction l generalizing d with
  | nil => cases d <;> simp [putF]
  | cons c l ih =>
    have h1 := ih d
    rw [putF_cons]
    split
    · split
      · have := h3 true l rfl
        rw [List.length_cons]; omega
      · have := h3 true l rfl
        rw [List.length_cons, List.length_cons]
        omega
    · rw [List.length_cons, List.length_cons]
      omega

set_option maxHeartbeats 6400000 in
theorem walk (l : List K) (n : Nat) (a : Option Addr) (c : Nat) (t0 t1 : ByteArray) (i0 i1 i2 i3 : Int) (w : World) (hr : CelR w a l) (hn : l.length = n) (hnm : n ≤ 9223372036854775807) (hnc : n ≤ c) (_ : ∀ c ∈ l, c.1.size ≤ 9223372036854775807 ∧ c.2.size ≤ 9223372036854775807) (z0 : t0.size ≤ 140737488351232) (z1 : t1.size ≤ 140737488351232)
    (h0 : -9223372036854775808 ≤ i0 ∧ i0 ≤ 9223372036854775807) (h1 : -9223372036854775808 ≤ i1 ∧ i1 ≤ 9223372036854775807) (h2 : -9223372036854775808 ≤ i2 ∧ i2 ≤ 9223372036854775807) (h3 : -9223372036854775808 ≤ i3 ∧ i3 ≤ 9223372036854775807) (hp : Tape.Pow w) :
    Calls Tryd.prog 3 #[.slice a n c, .agg #[.string t0, .string t1], .agg #[.int .i64 i0, .int .i64 i1, .int .i64 i2, .int .i64 i3]] w fun e w' => e = .returned (.bool true) ∧ Below w.heap.size w w' := by
  have RA := Lib.hid (fun u (hu : Below w.heap.size w u) => TpW.awake_any u (hp.below hu))
  have HM := Lib.hid (Hold.Hld.start w)
  by_cases hg : 50 < n
  · have d1 : decide (50 < (n : Int)) = true := decide_eq_true (by omega)
    have d2 : decide (50 < n) = true := decide_eq_true hg
    clear hr hn hg
    go_enter Tryd.func3, Tryd.ntmps3
    go_upto_region 1 with ((first
      | (with_reducible refine Hold.box HM.out rfl rfl rfl ?_; clear HM; intro b0 w HM; simp only [List.nil_append] at HM; replace HM := Lib.hid HM)
      | (with_reducible refine Hold.box HM.out rfl rfl rfl ?_; clear HM; intro b1 w HM; simp only [List.nil_append, List.cons_append] at HM; replace HM := Lib.hid HM)))
    have f0 : w.cell? ⟨b1, 0, none⟩ = some (.int .i64 i0) := (HM.out.at 1 rfl).row.cell rfl
    have f1 : w.cell? ⟨b1, 1, none⟩ = some (.int .i64 i1) := (HM.out.at 1 rfl).row.cell rfl
    have f2 : w.cell? ⟨b1, 2, none⟩ = some (.int .i64 i2) := (HM.out.at 1 rfl).row.cell rfl
    have f3 : w.cell? ⟨b1, 3, none⟩ = some (.int .i64 i3) := (HM.out.at 1 rfl).row.cell rfl
    have g0 : w.cell? ⟨b0, 0, none⟩ = some (.string t0) := (HM.out.at 0 rfl).row.cell rfl
    have g1 : w.cell? ⟨b0, 1, none⟩ = some (.string t1) := (HM.out.at 0 rfl).row.cell rfl
    go_wp2_with ((first
      | (with_reducible refine (RA.out _ HM.out.below).mono ?_; rintro e w ⟨rfl, hb⟩; replace HM := Lib.hid (HM.out.next hb); clear hb)))
    go_ret
    exact ⟨rfl, HM.out.below⟩
  have d1 : decide (50 < (n : Int)) = false := decide_eq_false (by omega)
  have d2 : decide (50 < n) = false := decide_eq_false hg
  by_cases hg2 : 3000 < t1.size
  · have d3 : decide (3000 < (t1.size : Int)) = true := decide_eq_true (by omega)
    have d4 : decide (3000 < t1.size) = true := decide_eq_true hg2
    clear hr hn hg hg2
    go_enter Tryd.func3, Tryd.ntmps3
    go_upto_region 1 with ((first
      | (with_reducible refine Hold.box HM.out rfl rfl rfl ?_; clear HM; intro b0 w HM; simp only [List.nil_append] at HM; replace HM := Lib.hid HM)
      | (with_reducible refine Hold.box HM.out rfl rfl rfl ?_; clear HM; intro b1 w HM; simp only [List.nil_append, List.cons_append] at HM; replace HM := Lib.hid HM)))
    have f0 : w.cell? ⟨b1, 0, none⟩ = some (.int .i64 i0) := (HM.out.at 1 rfl).row.cell rfl
    have f1 : w.cell? ⟨b1, 1, none⟩ = some (.int .i64 i1) := (HM.out.at 1 rfl).row.cell rfl
    have f2 : w.cell? ⟨b1, 2, none⟩ = some (.int .i64 i2) := (HM.out.at 1 rfl).row.cell rfl
    have f3 : w.cell? ⟨b1, 3, none⟩ = some (.int .i64 i3) := (HM.out.at 1 rfl).row.cell rfl
    have g0 : w.cell? ⟨b0, 0, none⟩ = some (.string t0) := (HM.out.at 0 rfl).row.cell rfl
    have g1 : w.cell? ⟨b0, 1, none⟩ = some (.string t1) := (HM.out.at 0 rfl).row.cell rfl
    go_wp2_with ((first
      | (with_reducible refine (RA.out _ HM.out.below).mono ?_; rintro e w ⟨rfl, hb⟩; replace HM := Lib.hid (HM.out.next hb); clear hb)))
    go_ret
    exact ⟨rfl, HM.out.below⟩
  have d3 : decide (3000 < (t1.size : Int)) = false := decide_eq_false (by omega)
  have d4 : decide (3000 < t1.size) = false := decide_eq_false hg2
  by_cases hg3 : 3000 < i0
  · have d5 : decide (3000 < i0) = true := decide_eq_true hg3
    clear hr hn hg hg2 hg3
    go_enter Tryd.func3, Tryd.ntmps3
    go_upto_region 1 with ((first
      | (with_reducible refine Hold.box HM.out rfl rfl rfl ?_; clear HM; intro b0 w HM; simp only [List.nil_append] at HM; replace HM := Lib.hid HM)
      | (with_reducible refine Hold.box HM.out rfl rfl rfl ?_; clear HM; intro b1 w HM; simp only [List.nil_append, List.cons_append] at HM; replace HM := Lib.hid HM)))
    have f0 : w.cell? ⟨b1, 0, none⟩ = some (.int .i64 i0) := (HM.out.at 1 rfl).row.cell rfl
    have f1 : w.cell? ⟨b1, 1, none⟩ = some (.int .i64 i1) := (HM.out.at 1 rfl).row.cell rfl
    have f2 : w.cell? ⟨b1, 2, none⟩ = some (.int .i64 i2) := (HM.out.at 1 rfl).row.cell rfl
    have f3 : w.cell? ⟨b1, 3, none⟩ = some (.int .i64 i3) := (HM.out.at 1 rfl).row.cell rfl
    have g0 : w.cell? ⟨b0, 0, none⟩ = some (.string t0) := (HM.out.at 0 rfl).row.cell rfl
    have g1 : w.cell? ⟨b0, 1, none⟩ = some (.string t1) := (HM.out.at 0 rfl).row.cell rfl
    go_wp2_with ((first
      | (with_reducible refine (RA.out _ HM.out.below).mono ?_; rintro e w ⟨rfl, hb⟩; replace HM := Lib.hid (HM.out.next hb); clear hb)))
    go_ret
    exact ⟨rfl, HM.out.below⟩
  have d5 : decide (3000 < i0) = false := decide_eq_false hg3
  obtain ⟨X1, hX1⟩ : ∃ X, X = gotX (get (toC l) t0.data.toList) := ⟨_, rfl⟩
  obtain ⟨B1, hB1⟩ : ∃ B, B = (get (toC l) t0.data.toList).isSome := ⟨_, rfl⟩
  obtain ⟨L, hL⟩ : ∃ L, L = put (toC l) t0.data.toList t1.data.toList := ⟨_, rfl⟩
  obtain ⟨N, hN⟩ : ∃ N, L.length = N := ⟨_, rfl⟩
  have hNb : N ≤ 1000000 := by
    have := putF_length t0.data.toList t1.data.toList false (toC l)
    rw [toC_length] at this
    rw [← hN, hL]
    unfold put
    omega
  obtain ⟨XF, hXF⟩ : ∃ X, X = tx (fit t1.data.toList i0) := ⟨_, rfl⟩
  obtain ⟨XD, hXD⟩ : ∃ X, X = tx (dec i1) := ⟨_, rfl⟩
  obtain ⟨XP, hXP⟩ : ∃ X, X = tx (joined [112, 97, 100] [i0, i1, i2, i3]) := ⟨_, rfl⟩
  obtain ⟨XE, hXE⟩ : ∃ X, X = tx (joined [112, 101, 114, 109] [i0]) := ⟨_, rfl⟩
  obtain ⟨XM, hXM⟩ : ∃ X, X = tx (joined [109, 97, 115, 107] [i0, i1, i2]) := ⟨_, rfl⟩
  obtain ⟨XS, hXS⟩ : ∃ X, X = tx (joined ([115, 105, 103, 32] ++ t0.data.toList) [i3]) := ⟨_, rfl⟩
  obtain ⟨XB, hXB⟩ : ∃ X, X = tx (joined [109] [i2]) := ⟨_, rfl⟩
  obtain ⟨XU, hXU⟩ : ∃ X, X = tx (joined [112] [i1, i3]) := ⟨_, rfl⟩
  have R1a := Lib.hid (fun u (hu : Below w.heap.size w u) => Tape.get_any l n a c t0 X1 B1 u hX1 hB1 (hr.below hu) hn (by omega))
  have R2a := Lib.hid (fun u (hu : Below w.heap.size w u) => Tape.put_any l n a c t0 t1 L N u hL hN (hr.below hu) hn (by omega) hnc)
  have RFa := Lib.hid (fun u => Tape.fit_any t1 i0 XF u hXF (by omega))
  have RDa := Lib.hid (fun u (hu : Below w.heap.size w u) => Tape.dec_any i1 XD u hXD h1.1 h1.2 (hp.below hu))
  have RPa := Lib.hid (fun u (hu : Below w.heap.size w u) => Tape.padName_any i0 i1 i2 i3 XP u hXP h0.1 h0.2 h1.1 h1.2 h2.1 h2.2 h3.1 h3.2 (hp.below hu))
  have REa := Lib.hid (fun u (hu : Below w.heap.size w u) => Tape.permName_any i0 XE u hXE h0.1 h0.2 (hp.below hu))
  have RMa := Lib.hid (fun u (hu : Below w.heap.size w u) => Tape.maskName_any i0 i1 i2 XM u hXM h0.1 h0.2 h1.1 h1.2 h2.1 h2.2 (hp.below hu))
  have RSa := Lib.hid (fun u (hu : Below w.heap.size w u) => Tape.sigName_any t0 i3 XS u hXS h3.1 h3.2 (by omega) (hp.below hu))
  have RBa := Lib.hid (fun u (hu : Below w.heap.size w u) => Tape.member_any i2 XB u hXB h2.1 h2.2 (hp.below hu))
  have RUa := Lib.hid (fun u (hu : Below w.heap.size w u) => Tape.pseudonym_any i1 i3 XU u hXU h1.1 h1.2 h3.1 h3.2 (hp.below hu))
  have R1b := Lib.hid (fun u (hu : Below w.heap.size w u) => RTap.get_any l n a c t0 X1 B1 u hX1 hB1 (hr.below hu) hn (by omega))
  have R2b := Lib.hid (fun u (hu : Below w.heap.size w u) => RTap.put_any l n a c t0 t1 L N u hL hN (hr.below hu) hn (by omega))
  have RFb := Lib.hid (fun u => RTap.fit_any t1 i0 XF u hXF (by omega))
  have RDb := Lib.hid (fun u => RTap.dec_any i1 XD u hXD h1.1 h1.2)
  have RPb := Lib.hid (fun u => RTap.padName_any i0 i1 i2 i3 XP u hXP h0.1 h0.2 h1.1 h1.2 h2.1 h2.2 h3.1 h3.2)
  have REb := Lib.hid (fun u => RTap.permName_any i0 XE u hXE h0.1 h0.2)
  have RMb := Lib.hid (fun u => RTap.maskName_any i0 i1 i2 XM u hXM h0.1 h0.2 h1.1 h1.2 h2.1 h2.2)
  have RSb := Lib.hid (fun u => RTap.sigName_any t0 i3 XS u hXS h3.1 h3.2 (by omega))
  have RBb := Lib.hid (fun u => RTap.member_any i2 XB u hXB h2.1 h2.2)
  have RUb := Lib.hid (fun u => RTap.pseudonym_any i1 i3 XU u hXU h1.1 h1.2 h3.1 h3.2)
  have RC := Lib.hid (fun u a3 a4 c3 c4 (h3 : CelR u a3 (ofC L)) (h4 : CelR u a4 (ofC L)) => TpH.cells_any (ofC L) N N a3 a4 c3 c4 u (by rw [ofC_length]; exact hN.symm) (by rw [ofC_length]; exact hN.symm) hNb h3 h4)
  have qX1 := TpH.same X1
  have qXF := TpH.same XF
  have qXD := TpH.same XD
  have qXP := TpH.same XP
  have qXE := TpH.same XE
  have qXM := TpH.same XM
  have qXS := TpH.same XS
  have qXB := TpH.same XB
  have qXU := TpH.same XU
  have qB1 : (B1 == B1) = true := by simp
  clear hr hn hg hg2 hg3 hX1 hB1 hL hN hXF hXD hXP hXE hXM hXS hXB hXU h0 h1 h2 h3 hp hnc
  go_enter Tryd.func3, Tryd.ntmps3
  go_upto_region 1 with ((first
    | (with_reducible refine Hold.box HM.out rfl rfl rfl ?_; clear HM; intro b0 w HM; simp only [List.nil_append] at HM; replace HM := Lib.hid HM)
    | (with_reducible refine Hold.box HM.out rfl rfl rfl ?_; clear HM; intro b1 w HM; simp only [List.nil_append, List.cons_append] at HM; replace HM := Lib.hid HM)))
  have f0 : w.cell? ⟨b1, 0, none⟩ = some (.int .i64 i0) := (HM.out.at 1 rfl).row.cell rfl
  have f1 : w.cell? ⟨b1, 1, none⟩ = some (.int .i64 i1) := (HM.out.at 1 rfl).row.cell rfl
  have f2 : w.cell? ⟨b1, 2, none⟩ = some (.int .i64 i2) := (HM.out.at 1 rfl).row.cell rfl
  have f3 : w.cell? ⟨b1, 3, none⟩ = some (.int .i64 i3) := (HM.out.at 1 rfl).row.cell rfl
  have g0 : w.cell? ⟨b0, 0, none⟩ = some (.string t0) := (HM.out.at 0 rfl).row.cell rfl
  have g1 : w.cell? ⟨b0, 1, none⟩ = some (.string t1) := (HM.out.at 0 rfl).row.cell rfl
  go_upto_region 3 with (fail)
  go_quiet (fail)
  obtain ⟨wq, hwq⟩ : ∃ wq, wq = w.drewN nq := ⟨_, rfl⟩
  rw [← hwq]
  have HM2 := Lib.hid (show Hold.Hld _ _ wq from by rw [hwq]; exact HM.out.next (belowN (Below.refl _ _) nq))
  clear HM hwq f0 f1 f2 f3 g0 g1
  have HM := HM2
  clear HM2
  generalize wq = w at *
  go_upto_region 6 with ((first
    | ((with_reducible refine (R1a.out _ HM.out.below).mono ?_); rintro e w ⟨rfl, hb⟩; replace HM := Lib.hid (HM.out.next hb); clear hb)
    | ((with_reducible refine (R1b.out _ HM.out.below).mono ?_); rintro e w ⟨rfl, hb⟩; replace HM := Lib.hid (HM.out.next hb); clear hb)))
  simp only [List.append_eq, List.cons_append, List.nil_append]
  replace HM := Lib.hid HM.out.drew
  refine wp_region_held (S := fun u => Hold.Hld _ _ u) (by kernel_rfl) (Steady.phase 0 9 114 (by kernel_rfl) (by as_aux_lemma => kernel_rfl) HM.out ?_)
  simp only [List.take_succ_cons, List.take_zero, List.drop_succ_cons, List.drop_zero]
  refine Steady.take ?_ rfl (by intro u hu; go_simp; with_reducible rfl) ?_
  simp only [Act.put, List.setIfInBounds_toArray, List.set_cons_zero, List.set_cons_succ]
  refine Steady.take ?_ rfl (by intro u hu; go_simp; with_reducible rfl) ?_
  simp only [Act.put, List.setIfInBounds_toArray, List.set_cons_zero, List.set_cons_succ]
  refine Steady.take ?_ rfl (by intro u hu; go_simp; with_reducible rfl) ?_
  simp only [Act.put, List.setIfInBounds_toArray, List.set_cons_zero, List.set_cons_succ]
  refine Steady.take ?_ rfl (by intro u hu; go_simp; with_reducible rfl) ?_
  simp only [Act.put, List.setIfInBounds_toArray, List.set_cons_zero, List.set_cons_succ]
  refine Steady.take ?_ rfl (by intro u hu; go_simp; with_reducible rfl) ?_
  simp only [Act.put, List.setIfInBounds_toArray, List.set_cons_zero, List.set_cons_succ]
  refine Steady.take ?_ rfl (by intro u hu; go_simp; with_reducible rfl) ?_
  simp only [Act.put, List.setIfInBounds_toArray, List.set_cons_zero, List.set_cons_succ]
  refine Steady.take ?_ rfl (by intro u hu; go_simp; with_reducible rfl) ?_
  simp only [Act.put, List.setIfInBounds_toArray, List.set_cons_zero, List.set_cons_succ]
  refine Steady.take ?_ rfl (by intro u hu; go_simp; with_reducible rfl) ?_
  simp only [Act.put, List.setIfInBounds_toArray, List.set_cons_zero, List.set_cons_succ]
  refine Steady.take ?_ rfl (by intro u hu; go_simp; with_reducible rfl) ?_
  simp only [Act.put, List.setIfInBounds_toArray, List.set_cons_zero, List.set_cons_succ]
  refine Steady.nil ?_
  clear HM
  intro w HM
  replace HM := Lib.hid HM
  refine wpAnyH_take (i := 9) (by simp only [List.getElem?_toArray, List.getElem?_cons_succ, List.getElem?_cons_zero]; rfl) (by kernel_rfl) (by as_aux_lemma => kernel_rfl) (by as_aux_lemma => kernel_rfl) (fun _ _ _ h => by exact h) (.inl ⟨rfl, fun u hu => by go_simp; with_reducible rfl⟩) HM.out ?_
  simp only [List.getElem_toArray, List.getElem_cons_succ, List.getElem_cons_zero, Act.put, List.setIfInBounds_toArray, List.set_cons_zero, List.set_cons_succ]
  refine wpAnyH_take (i := 10) (by simp only [List.getElem?_toArray, List.getElem?_cons_succ, List.getElem?_cons_zero]; rfl) (by kernel_rfl) (by as_aux_lemma => kernel_rfl) (by as_aux_lemma => kernel_rfl) (fun _ _ _ h => by exact h) (.inl ⟨rfl, fun u hu => by go_simp; with_reducible rfl⟩) HM.out ?_
  simp only [List.getElem_toArray, List.getElem_cons_succ, List.getElem_cons_zero, Act.put, List.setIfInBounds_toArray, List.set_cons_zero, List.set_cons_succ]
  refine wpAnyH_take (i := 11) (by simp only [List.getElem?_toArray, List.getElem?_cons_succ, List.getElem?_cons_zero]; rfl) (by kernel_rfl) (by as_aux_lemma => kernel_rfl) (by as_aux_lemma => kernel_rfl) (fun _ _ _ h => by exact h) (.inl ⟨rfl, fun u hu => by go_simp; with_reducible rfl⟩) HM.out ?_
  simp only [List.getElem_toArray, List.getElem_cons_succ, List.getElem_cons_zero, Act.put, List.setIfInBounds_toArray, List.set_cons_zero, List.set_cons_succ]
  refine wpAnyH_take (i := 13) (by simp only [List.getElem?_toArray, List.getElem?_cons_succ, List.getElem?_cons_zero]; rfl) (by kernel_rfl) (by as_aux_lemma => kernel_rfl) (by as_aux_lemma => kernel_rfl) (fun _ _ _ h => by exact h) (.inl ⟨rfl, fun u hu => by go_simp; with_reducible rfl⟩) HM.out ?_
  simp only [List.getElem_toArray, List.getElem_cons_succ, List.getElem_cons_zero, Act.put, List.setIfInBounds_toArray, List.set_cons_zero, List.set_cons_succ]
  refine wpAnyH_take (i := 14) (by simp only [List.getElem?_toArray, List.getElem?_cons_succ, List.getElem?_cons_zero]; rfl) (by kernel_rfl) (by as_aux_lemma => kernel_rfl) (by as_aux_lemma => kernel_rfl) (fun _ _ _ h => by exact h) (.inl ⟨rfl, fun u hu => by go_simp; with_reducible rfl⟩) HM.out ?_
  simp only [List.getElem_toArray, List.getElem_cons_succ, List.getElem_cons_zero, Act.put, List.setIfInBounds_toArray, List.set_cons_zero, List.set_cons_succ]
  refine wpAnyH_take (i := 15) (by simp only [List.getElem?_toArray, List.getElem?_cons_succ, List.getElem?_cons_zero]; rfl) (by kernel_rfl) (by as_aux_lemma => kernel_rfl) (by as_aux_lemma => kernel_rfl) (fun _ _ _ h => by exact h) (.inl ⟨rfl, fun u hu => by go_simp; with_reducible rfl⟩) HM.out ?_
  simp only [List.getElem_toArray, List.getElem_cons_succ, List.getElem_cons_zero, Act.put, List.setIfInBounds_toArray, List.set_cons_zero, List.set_cons_succ]
  refine Steady.call_next (i := 12) (by kernel_rfl) (by simp only [List.getElem?_toArray, List.getElem?_cons_succ, List.getElem?_cons_zero]; rfl) (by kernel_rfl) _ _ (by go_simp) (fun v w' => ∃ a3 c3, v = .slice a3 N c3 ∧ CelR w' a3 (ofC L) ∧ Hold.Hld _ _ w') ((R2a.out _ HM.out.below).mono (fun e w' h => by obtain ⟨a3, c3, h1, -, h2, -, h4⟩ := h; exact ⟨_, h1, a3, c3, rfl, h2, HM.out.next h4⟩)) ?_
  clear HM
  rintro v w ⟨a3, c3, rfl, hc, HM⟩
  replace HM := Lib.hid HM
  have HC3 := Lib.hid hc
  clear hc
  refine ⟨HM.out, ?_⟩
  simp only [List.getElem_toArray, List.getElem_cons_succ, List.getElem_cons_zero, Act.put, List.setIfInBounds_toArray, List.set_cons_zero, List.set_cons_succ]
  refine Steady.call_next (i := 16) (by kernel_rfl) (by simp only [List.getElem?_toArray, List.getElem?_cons_succ, List.getElem?_cons_zero]; rfl) (by kernel_rfl) _ _ (by go_simp) (fun v w' => ∃ a4 c4, v = .slice a4 N c4 ∧ CelR w' a4 (ofC L) ∧ CelR w' a3 (ofC L) ∧ Hold.Hld _ _ w') ((R2b.out _ HM.out.below).mono (fun e w' h => by obtain ⟨a4, c4, h1, h2, -, h4⟩ := h; exact ⟨_, h1, a4, c4, rfl, h2, HC3.out.below h4, HM.out.next h4⟩)) ?_
  clear HM HC3
  rintro v w ⟨a4, c4, rfl, hc, hc3, HM⟩
  replace HM := Lib.hid HM
  have HC4 := Lib.hid hc
  have HC3 := Lib.hid hc3
  clear hc hc3
  refine ⟨HM.out, ?_⟩
  simp only [List.getElem_toArray, List.getElem_cons_succ, List.getElem_cons_zero, Act.put, List.setIfInBounds_toArray, List.set_cons_zero, List.set_cons_succ]
  refine Steady.call_next (i := 17) (by kernel_rfl) (by simp only [List.getElem?_toArray, List.getElem?_cons_succ, List.getElem?_cons_zero]; rfl) (by kernel_rfl) _ _ (by go_simp) (fun v w' => v = .bool true ∧ Hold.Hld _ _ w') ((RC.out _ a3 a4 c3 c4 HC3.out HC4.out).mono (fun e w' h => ⟨_, h.1, rfl, HM.out.next h.2⟩)) ?_
  clear HM
  rintro v w ⟨rfl, HM⟩
  replace HM := Lib.hid HM
  refine ⟨HM.out, ?_⟩
  simp only [List.getElem_toArray, List.getElem_cons_succ, List.getElem_cons_zero, Act.put, List.setIfInBounds_toArray, List.set_cons_zero, List.set_cons_succ]
  refine wpAnyH_take (i := 18) (by simp only [List.getElem?_toArray, List.getElem?_cons_succ, List.getElem?_cons_zero]; rfl) (by kernel_rfl) (by as_aux_lemma => kernel_rfl) (by as_aux_lemma => kernel_rfl) (fun _ _ _ h => by exact h) (.inl ⟨rfl, fun u hu => by go_simp; with_reducible rfl⟩) HM.out ?_
  simp only [List.getElem_toArray, List.getElem_cons_succ, List.getElem_cons_zero, Act.put, List.setIfInBounds_toArray, List.set_cons_zero, List.set_cons_succ]
  refine wpAnyH_take (i := 19) (by simp only [List.getElem?_toArray, List.getElem?_cons_succ, List.getElem?_cons_zero]; rfl) (by kernel_rfl) (by as_aux_lemma => kernel_rfl) (by as_aux_lemma => kernel_rfl) (fun _ _ _ h => by exact h) (.inl ⟨rfl, fun u hu => by go_simp; with_reducible rfl⟩) HM.out ?_
  simp only [List.getElem_toArray, List.getElem_cons_succ, List.getElem_cons_zero, Act.put, List.setIfInBounds_toArray, List.set_cons_zero, List.set_cons_succ]
  refine Steady.phase 20 31 92 (by kernel_rfl) (by as_aux_lemma => kernel_rfl) HM.out ?_
  simp only [List.take_succ_cons, List.take_zero, List.drop_succ_cons, List.drop_zero]
  refine Steady.take ?_ rfl (by intro u hu; go_simp; with_reducible rfl) ?_
  simp only [Act.put, List.setIfInBounds_toArray, List.set_cons_zero, List.set_cons_succ]
  refine Steady.take ?_ rfl (by intro u hu; go_simp; with_reducible rfl) ?_
  simp only [Act.put, List.setIfInBounds_toArray, List.set_cons_zero, List.set_cons_succ]
  refine Steady.take (.int .i64 i0) rfl (fun u hu => Hold.load1_run hu 1 rfl rfl rfl (rfl) (cellInt)) ?_
  simp only [Act.put, List.setIfInBounds_toArray, List.set_cons_zero, List.set_cons_succ]
  refine Steady.call _ _ _ rfl ?_ (Hold.kept RFa.out) ?_
  · intro u
    go_simp
  simp only [Act.put, List.setIfInBounds_toArray, List.set_cons_zero, List.set_cons_succ]
  refine Steady.take ?_ rfl (by intro u hu; go_simp; with_reducible rfl) ?_
  simp only [Act.put, List.setIfInBounds_toArray, List.set_cons_zero, List.set_cons_succ]
  refine Steady.take ?_ rfl (by intro u hu; go_simp; with_reducible rfl) ?_
  simp only [Act.put, List.setIfInBounds_toArray, List.set_cons_zero, List.set_cons_succ]
  refine Steady.take (.int .i64 i0) rfl (fun u hu => Hold.load1_run hu 1 rfl rfl rfl (rfl) (cellInt)) ?_
  simp only [Act.put, List.setIfInBounds_toArray, List.set_cons_zero, List.set_cons_succ]
  refine Steady.call _ _ _ rfl ?_ (Hold.kept RFb.out) ?_
  · intro u
    go_simp
  simp only [Act.put, List.setIfInBounds_toArray, List.set_cons_zero, List.set_cons_succ]
  refine Steady.take ?_ rfl (by intro u hu; go_simp; with_reducible rfl) ?_
  simp only [Act.put, List.setIfInBounds_toArray, List.set_cons_zero, List.set_cons_succ]
  refine Steady.take ?_ rfl (by intro u hu; go_simp; with_reducible rfl) ?_
  simp only [Act.put, List.setIfInBounds_toArray, List.set_cons_zero, List.set_cons_succ]
  refine Steady.take ?_ rfl (by intro u hu; go_simp; with_reducible rfl) ?_
  simp only [Act.put, List.setIfInBounds_toArray, List.set_cons_zero, List.set_cons_succ]
  refine Steady.nil ?_
  clear HM
  intro w HM
  replace HM := Lib.hid HM
  refine Steady.phase 31 40 83 (by kernel_rfl) (by as_aux_lemma => kernel_rfl) HM.out ?_
  simp only [List.take_succ_cons, List.take_zero, List.drop_succ_cons, List.drop_zero]
  refine Steady.take ?_ rfl (by intro u hu; go_simp; with_reducible rfl) ?_
  simp only [Act.put, List.setIfInBounds_toArray, List.set_cons_zero, List.set_cons_succ]
  refine Steady.take (.int .i64 i1) rfl (fun u hu => Hold.load1_run hu 1 rfl rfl rfl (rfl) (cellInt)) ?_
  simp only [Act.put, List.setIfInBounds_toArray, List.set_cons_zero, List.set_cons_succ]
  refine Steady.call _ _ _ rfl ?_ (Tape.keptI RDa.out) ?_
  · intro u
    go_simp
  simp only [Act.put, List.setIfInBounds_toArray, List.set_cons_zero, List.set_cons_succ]
  refine Steady.take ?_ rfl (by intro u hu; go_simp; with_reducible rfl) ?_
  simp only [Act.put, List.setIfInBounds_toArray, List.set_cons_zero, List.set_cons_succ]
  refine Steady.take (.int .i64 i1) rfl (fun u hu => Hold.load1_run hu 1 rfl rfl rfl (rfl) (cellInt)) ?_
  simp only [Act.put, List.setIfInBounds_toArray, List.set_cons_zero, List.set_cons_succ]
  refine Steady.call _ _ _ rfl ?_ (Hold.kept RDb.out) ?_
  · intro u
    go_simp
  simp only [Act.put, List.setIfInBounds_toArray, List.set_cons_zero, List.set_cons_succ]
  refine Steady.take ?_ rfl (by intro u hu; go_simp; with_reducible rfl) ?_
  simp only [Act.put, List.setIfInBounds_toArray, List.set_cons_zero, List.set_cons_succ]
  refine Steady.take ?_ rfl (by intro u hu; go_simp; with_reducible rfl) ?_
  simp only [Act.put, List.setIfInBounds_toArray, List.set_cons_zero, List.set_cons_succ]
  refine Steady.take ?_ rfl (by intro u hu; go_simp; with_reducible rfl) ?_
  simp only [Act.put, List.setIfInBounds_toArray, List.set_cons_zero, List.set_cons_succ]
  refine Steady.nil ?_
  clear HM
  intro w HM
  replace HM := Lib.hid HM
  refine Steady.phase 40 61 62 (by kernel_rfl) (by as_aux_lemma => kernel_rfl) HM.out ?_
  simp only [List.take_succ_cons, List.take_zero, List.drop_succ_cons, List.drop_zero]
  refine Steady.take ?_ rfl (by intro u hu; go_simp; with_reducible rfl) ?_
  simp only [Act.put, List.setIfInBounds_toArray, List.set_cons_zero, List.set_cons_succ]
  refine Steady.take (.int .i64 i0) rfl (fun u hu => Hold.load1_run hu 1 rfl rfl rfl (rfl) (cellInt)) ?_
  simp only [Act.put, List.setIfInBounds_toArray, List.set_cons_zero, List.set_cons_succ]
  refine Steady.take ?_ rfl (by intro u hu; go_simp; with_reducible rfl) ?_
  simp only [Act.put, List.setIfInBounds_toArray, List.set_cons_zero, List.set_cons_succ]
  refine Steady.take (.int .i64 i1) rfl (fun u hu => Hold.load1_run hu 1 rfl rfl rfl (rfl) (cellInt)) ?_
  simp only [Act.put, List.setIfInBounds_toArray, List.set_cons_zero, List.set_cons_succ]
  refine Steady.take ?_ rfl (by intro u hu; go_simp; with_reducible rfl) ?_
  simp only [Act.put, List.setIfInBounds_toArray, List.set_cons_zero, List.set_cons_succ]
  refine Steady.take (.int .i64 i2) rfl (fun u hu => Hold.load1_run hu 1 rfl rfl rfl (rfl) (cellInt)) ?_
  simp only [Act.put, List.setIfInBounds_toArray, List.set_cons_zero, List.set_cons_succ]
  refine Steady.take ?_ rfl (by intro u hu; go_simp; with_reducible rfl) ?_
  simp only [Act.put, List.setIfInBounds_toArray, List.set_cons_zero, List.set_cons_succ]
  refine Steady.take (.int .i64 i3) rfl (fun u hu => Hold.load1_run hu 1 rfl rfl rfl (rfl) (cellInt)) ?_
  simp only [Act.put, List.setIfInBounds_toArray, List.set_cons_zero, List.set_cons_succ]
  refine Steady.call _ _ _ rfl ?_ (Tape.keptI RPa.out) ?_
  · intro u
    go_simp
  simp only [Act.put, List.setIfInBounds_toArray, List.set_cons_zero, List.set_cons_succ]
  refine Steady.take ?_ rfl (by intro u hu; go_simp; with_reducible rfl) ?_
  simp only [Act.put, List.setIfInBounds_toArray, List.set_cons_zero, List.set_cons_succ]
  refine Steady.take (.int .i64 i0) rfl (fun u hu => Hold.load1_run hu 1 rfl rfl rfl (rfl) (cellInt)) ?_
  simp only [Act.put, List.setIfInBounds_toArray, List.set_cons_zero, List.set_cons_succ]
  refine Steady.take ?_ rfl (by intro u hu; go_simp; with_reducible rfl) ?_
  simp only [Act.put, List.setIfInBounds_toArray, List.set_cons_zero, List.set_cons_succ]
  refine Steady.take (.int .i64 i1) rfl (fun u hu => Hold.load1_run hu 1 rfl rfl rfl (rfl) (cellInt)) ?_
  simp only [Act.put, List.setIfInBounds_toArray, List.set_cons_zero, List.set_cons_succ]
  refine Steady.take ?_ rfl (by intro u hu; go_simp; with_reducible rfl) ?_
  simp only [Act.put, List.setIfInBounds_toArray, List.set_cons_zero, List.set_cons_succ]
  refine Steady.take (.int .i64 i2) rfl (fun u hu => Hold.load1_run hu 1 rfl rfl rfl (rfl) (cellInt)) ?_
  simp only [Act.put, List.setIfInBounds_toArray, List.set_cons_zero, List.set_cons_succ]
  refine Steady.take ?_ rfl (by intro u hu; go_simp; with_reducible rfl) ?_
  simp only [Act.put, List.setIfInBounds_toArray, List.set_cons_zero, List.set_cons_succ]
  refine Steady.take (.int .i64 i3) rfl (fun u hu => Hold.load1_run hu 1 rfl rfl rfl (rfl) (cellInt)) ?_
  simp only [Act.put, List.setIfInBounds_toArray, List.set_cons_zero, List.set_cons_succ]
  refine Steady.call _ _ _ rfl ?_ (Hold.kept RPb.out) ?_
  · intro u
    go_simp
  simp only [Act.put, List.setIfInBounds_toArray, List.set_cons_zero, List.set_cons_succ]
  refine Steady.take ?_ rfl (by intro u hu; go_simp; with_reducible rfl) ?_
  simp only [Act.put, List.setIfInBounds_toArray, List.set_cons_zero, List.set_cons_succ]
  refine Steady.take ?_ rfl (by intro u hu; go_simp; with_reducible rfl) ?_
  simp only [Act.put, List.setIfInBounds_toArray, List.set_cons_zero, List.set_cons_succ]
  refine Steady.take ?_ rfl (by intro u hu; go_simp; with_reducible rfl) ?_
  simp only [Act.put, List.setIfInBounds_toArray, List.set_cons_zero, List.set_cons_succ]
  refine Steady.nil ?_
  clear HM
  intro w HM
  replace HM := Lib.hid HM
  refine Steady.phase 61 70 53 (by kernel_rfl) (by as_aux_lemma => kernel_rfl) HM.out ?_
  simp only [List.take_succ_cons, List.take_zero, List.drop_succ_cons, List.drop_zero]
  refine Steady.take ?_ rfl (by intro u hu; go_simp; with_reducible rfl) ?_
  simp only [Act.put, List.setIfInBounds_toArray, List.set_cons_zero, List.set_cons_succ]
  refine Steady.take (.int .i64 i0) rfl (fun u hu => Hold.load1_run hu 1 rfl rfl rfl (rfl) (cellInt)) ?_
  simp only [Act.put, List.setIfInBounds_toArray, List.set_cons_zero, List.set_cons_succ]
  refine Steady.call _ _ _ rfl ?_ (Tape.keptI REa.out) ?_
  · intro u
    go_simp
  simp only [Act.put, List.setIfInBounds_toArray, List.set_cons_zero, List.set_cons_succ]
  refine Steady.take ?_ rfl (by intro u hu; go_simp; with_reducible rfl) ?_
  simp only [Act.put, List.setIfInBounds_toArray, List.set_cons_zero, List.set_cons_succ]
  refine Steady.take (.int .i64 i0) rfl (fun u hu => Hold.load1_run hu 1 rfl rfl rfl (rfl) (cellInt)) ?_
  simp only [Act.put, List.setIfInBounds_toArray, List.set_cons_zero, List.set_cons_succ]
  refine Steady.call _ _ _ rfl ?_ (Hold.kept REb.out) ?_
  · intro u
    go_simp
  simp only [Act.put, List.setIfInBounds_toArray, List.set_cons_zero, List.set_cons_succ]
  refine Steady.take ?_ rfl (by intro u hu; go_simp; with_reducible rfl) ?_
  simp only [Act.put, List.setIfInBounds_toArray, List.set_cons_zero, List.set_cons_succ]
  refine Steady.take ?_ rfl (by intro u hu; go_simp; with_reducible rfl) ?_
  simp only [Act.put, List.setIfInBounds_toArray, List.set_cons_zero, List.set_cons_succ]
  refine Steady.take ?_ rfl (by intro u hu; go_simp; with_reducible rfl) ?_
  simp only [Act.put, List.setIfInBounds_toArray, List.set_cons_zero, List.set_cons_succ]
  refine Steady.nil ?_
  clear HM
  intro w HM
  replace HM := Lib.hid HM
  refine Steady.phase 70 87 36 (by kernel_rfl) (by as_aux_lemma => kernel_rfl) HM.out ?_
  simp only [List.take_succ_cons, List.take_zero, List.drop_succ_cons, List.drop_zero]
  refine Steady.take ?_ rfl (by intro u hu; go_simp; with_reducible rfl) ?_
  simp only [Act.put, List.setIfInBounds_toArray, List.set_cons_zero, List.set_cons_succ]
  refine Steady.take (.int .i64 i0) rfl (fun u hu => Hold.load1_run hu 1 rfl rfl rfl (rfl) (cellInt)) ?_
  simp only [Act.put, List.setIfInBounds_toArray, List.set_cons_zero, List.set_cons_succ]
  refine Steady.take ?_ rfl (by intro u hu; go_simp; with_reducible rfl) ?_
  simp only [Act.put, List.setIfInBounds_toArray, List.set_cons_zero, List.set_cons_succ]
  refine Steady.take (.int .i64 i1) rfl (fun u hu => Hold.load1_run hu 1 rfl rfl rfl (rfl) (cellInt)) ?_
  simp only [Act.put, List.setIfInBounds_toArray, List.set_cons_zero, List.set_cons_succ]
  refine Steady.take ?_ rfl (by intro u hu; go_simp; with_reducible rfl) ?_
  simp only [Act.put, List.setIfInBounds_toArray, List.set_cons_zero, List.set_cons_succ]
  refine Steady.take (.int .i64 i2) rfl (fun u hu => Hold.load1_run hu 1 rfl rfl rfl (rfl) (cellInt)) ?_
  simp only [Act.put, List.setIfInBounds_toArray, List.set_cons_zero, List.set_cons_succ]
  refine Steady.call _ _ _ rfl ?_ (Tape.keptI RMa.out) ?_
  · intro u
    go_simp
  simp only [Act.put, List.setIfInBounds_toArray, List.set_cons_zero, List.set_cons_succ]
  refine Steady.take ?_ rfl (by intro u hu; go_simp; with_reducible rfl) ?_
  simp only [Act.put, List.setIfInBounds_toArray, List.set_cons_zero, List.set_cons_succ]
  refine Steady.take (.int .i64 i0) rfl (fun u hu => Hold.load1_run hu 1 rfl rfl rfl (rfl) (cellInt)) ?_
  simp only [Act.put, List.setIfInBounds_toArray, List.set_cons_zero, List.set_cons_succ]
  refine Steady.take ?_ rfl (by intro u hu; go_simp; with_reducible rfl) ?_
  simp only [Act.put, List.setIfInBounds_toArray, List.set_cons_zero, List.set_cons_succ]
  refine Steady.take (.int .i64 i1) rfl (fun u hu => Hold.load1_run hu 1 rfl rfl rfl (rfl) (cellInt)) ?_
  simp only [Act.put, List.setIfInBounds_toArray, List.set_cons_zero, List.set_cons_succ]
  refine Steady.take ?_ rfl (by intro u hu; go_simp; with_reducible rfl) ?_
  simp only [Act.put, List.setIfInBounds_toArray, List.set_cons_zero, List.set_cons_succ]
  refine Steady.take (.int .i64 i2) rfl (fun u hu => Hold.load1_run hu 1 rfl rfl rfl (rfl) (cellInt)) ?_
  simp only [Act.put, List.setIfInBounds_toArray, List.set_cons_zero, List.set_cons_succ]
  refine Steady.call _ _ _ rfl ?_ (Hold.kept RMb.out) ?_
  · intro u
    go_simp
  simp only [Act.put, List.setIfInBounds_toArray, List.set_cons_zero, List.set_cons_succ]
  refine Steady.take ?_ rfl (by intro u hu; go_simp; with_reducible rfl) ?_
  simp only [Act.put, List.setIfInBounds_toArray, List.set_cons_zero, List.set_cons_succ]
  refine Steady.take ?_ rfl (by intro u hu; go_simp; with_reducible rfl) ?_
  simp only [Act.put, List.setIfInBounds_toArray, List.set_cons_zero, List.set_cons_succ]
  refine Steady.take ?_ rfl (by intro u hu; go_simp; with_reducible rfl) ?_
  simp only [Act.put, List.setIfInBounds_toArray, List.set_cons_zero, List.set_cons_succ]
  refine Steady.nil ?_
  clear HM
  intro w HM
  replace HM := Lib.hid HM
  refine Steady.phase 87 98 25 (by kernel_rfl) (by as_aux_lemma => kernel_rfl) HM.out ?_
  simp only [List.take_succ_cons, List.take_zero, List.drop_succ_cons, List.drop_zero]
  refine Steady.take ?_ rfl (by intro u hu; go_simp; with_reducible rfl) ?_
  simp only [Act.put, List.setIfInBounds_toArray, List.set_cons_zero, List.set_cons_succ]
  refine Steady.take ?_ rfl (by intro u hu; go_simp; with_reducible rfl) ?_
  simp only [Act.put, List.setIfInBounds_toArray, List.set_cons_zero, List.set_cons_succ]
  refine Steady.take (.int .i64 i3) rfl (fun u hu => Hold.load1_run hu 1 rfl rfl rfl (rfl) (cellInt)) ?_
  simp only [Act.put, List.setIfInBounds_toArray, List.set_cons_zero, List.set_cons_succ]
  refine Steady.call _ _ _ rfl ?_ (Tape.keptI RSa.out) ?_
  · intro u
    go_simp
  simp only [Act.put, List.setIfInBounds_toArray, List.set_cons_zero, List.set_cons_succ]
  refine Steady.take ?_ rfl (by intro u hu; go_simp; with_reducible rfl) ?_
  simp only [Act.put, List.setIfInBounds_toArray, List.set_cons_zero, List.set_cons_succ]
  refine Steady.take ?_ rfl (by intro u hu; go_simp; with_reducible rfl) ?_
  simp only [Act.put, List.setIfInBounds_toArray, List.set_cons_zero, List.set_cons_succ]
  refine Steady.take (.int .i64 i3) rfl (fun u hu => Hold.load1_run hu 1 rfl rfl rfl (rfl) (cellInt)) ?_
  simp only [Act.put, List.setIfInBounds_toArray, List.set_cons_zero, List.set_cons_succ]
  refine Steady.call _ _ _ rfl ?_ (Hold.kept RSb.out) ?_
  · intro u
    go_simp
  simp only [Act.put, List.setIfInBounds_toArray, List.set_cons_zero, List.set_cons_succ]
  refine Steady.take ?_ rfl (by intro u hu; go_simp; with_reducible rfl) ?_
  simp only [Act.put, List.setIfInBounds_toArray, List.set_cons_zero, List.set_cons_succ]
  refine Steady.take ?_ rfl (by intro u hu; go_simp; with_reducible rfl) ?_
  simp only [Act.put, List.setIfInBounds_toArray, List.set_cons_zero, List.set_cons_succ]
  refine Steady.take ?_ rfl (by intro u hu; go_simp; with_reducible rfl) ?_
  simp only [Act.put, List.setIfInBounds_toArray, List.set_cons_zero, List.set_cons_succ]
  refine Steady.nil ?_
  clear HM
  intro w HM
  replace HM := Lib.hid HM
  refine Steady.phase 98 107 16 (by kernel_rfl) (by as_aux_lemma => kernel_rfl) HM.out ?_
  simp only [List.take_succ_cons, List.take_zero, List.drop_succ_cons, List.drop_zero]
  refine Steady.take ?_ rfl (by intro u hu; go_simp; with_reducible rfl) ?_
  simp only [Act.put, List.setIfInBounds_toArray, List.set_cons_zero, List.set_cons_succ]
  refine Steady.take (.int .i64 i2) rfl (fun u hu => Hold.load1_run hu 1 rfl rfl rfl (rfl) (cellInt)) ?_
  simp only [Act.put, List.setIfInBounds_toArray, List.set_cons_zero, List.set_cons_succ]
  refine Steady.call _ _ _ rfl ?_ (Tape.keptI RBa.out) ?_
  · intro u
    go_simp
  simp only [Act.put, List.setIfInBounds_toArray, List.set_cons_zero, List.set_cons_succ]
  refine Steady.take ?_ rfl (by intro u hu; go_simp; with_reducible rfl) ?_
  simp only [Act.put, List.setIfInBounds_toArray, List.set_cons_zero, List.set_cons_succ]
  refine Steady.take (.int .i64 i2) rfl (fun u hu => Hold.load1_run hu 1 rfl rfl rfl (rfl) (cellInt)) ?_
  simp only [Act.put, List.setIfInBounds_toArray, List.set_cons_zero, List.set_cons_succ]
  refine Steady.call _ _ _ rfl ?_ (Hold.kept RBb.out) ?_
  · intro u
    go_simp
  simp only [Act.put, List.setIfInBounds_toArray, List.set_cons_zero, List.set_cons_succ]
  refine Steady.take ?_ rfl (by intro u hu; go_simp; with_reducible rfl) ?_
  simp only [Act.put, List.setIfInBounds_toArray, List.set_cons_zero, List.set_cons_succ]
  refine Steady.take ?_ rfl (by intro u hu; go_simp; with_reducible rfl) ?_
  simp only [Act.put, List.setIfInBounds_toArray, List.set_cons_zero, List.set_cons_succ]
  refine Steady.take ?_ rfl (by intro u hu; go_simp; with_reducible rfl) ?_
  simp only [Act.put, List.setIfInBounds_toArray, List.set_cons_zero, List.set_cons_succ]
  refine Steady.nil ?_
  clear HM
  intro w HM
  replace HM := Lib.hid HM
  refine Steady.phase 107 120 3 (by kernel_rfl) (by as_aux_lemma => kernel_rfl) HM.out ?_
  simp only [List.take_succ_cons, List.take_zero, List.drop_succ_cons, List.drop_zero]
  refine Steady.take ?_ rfl (by intro u hu; go_simp; with_reducible rfl) ?_
  simp only [Act.put, List.setIfInBounds_toArray, List.set_cons_zero, List.set_cons_succ]
  refine Steady.take (.int .i64 i1) rfl (fun u hu => Hold.load1_run hu 1 rfl rfl rfl (rfl) (cellInt)) ?_
  simp only [Act.put, List.setIfInBounds_toArray, List.set_cons_zero, List.set_cons_succ]
  refine Steady.take ?_ rfl (by intro u hu; go_simp; with_reducible rfl) ?_
  simp only [Act.put, List.setIfInBounds_toArray, List.set_cons_zero, List.set_cons_succ]
  refine Steady.take (.int .i64 i3) rfl (fun u hu => Hold.load1_run hu 1 rfl rfl rfl (rfl) (cellInt)) ?_
  simp only [Act.put, List.setIfInBounds_toArray, List.set_cons_zero, List.set_cons_succ]
  refine Steady.call _ _ _ rfl ?_ (Tape.keptI RUa.out) ?_
  · intro u
    go_simp
  simp only [Act.put, List.setIfInBounds_toArray, List.set_cons_zero, List.set_cons_succ]
  refine Steady.take ?_ rfl (by intro u hu; go_simp; with_reducible rfl) ?_
  simp only [Act.put, List.setIfInBounds_toArray, List.set_cons_zero, List.set_cons_succ]
  refine Steady.take (.int .i64 i1) rfl (fun u hu => Hold.load1_run hu 1 rfl rfl rfl (rfl) (cellInt)) ?_
  simp only [Act.put, List.setIfInBounds_toArray, List.set_cons_zero, List.set_cons_succ]
  refine Steady.take ?_ rfl (by intro u hu; go_simp; with_reducible rfl) ?_
  simp only [Act.put, List.setIfInBounds_toArray, List.set_cons_zero, List.set_cons_succ]
  refine Steady.take (.int .i64 i3) rfl (fun u hu => Hold.load1_run hu 1 rfl rfl rfl (rfl) (cellInt)) ?_
  simp only [Act.put, List.setIfInBounds_toArray, List.set_cons_zero, List.set_cons_succ]
  refine Steady.call _ _ _ rfl ?_ (Hold.kept RUb.out) ?_
  · intro u
    go_simp
  simp only [Act.put, List.setIfInBounds_toArray, List.set_cons_zero, List.set_cons_succ]
  refine Steady.take ?_ rfl (by intro u hu; go_simp; with_reducible rfl) ?_
  simp only [Act.put, List.setIfInBounds_toArray, List.set_cons_zero, List.set_cons_succ]
  refine Steady.take ?_ rfl (by intro u hu; go_simp; with_reducible rfl) ?_
  simp only [Act.put, List.setIfInBounds_toArray, List.set_cons_zero, List.set_cons_succ]
  refine Steady.take ?_ rfl (by intro u hu; go_simp; with_reducible rfl) ?_
  simp only [Act.put, List.setIfInBounds_toArray, List.set_cons_zero, List.set_cons_succ]
  refine Steady.nil ?_
  clear HM
  intro w HM
  replace HM := Lib.hid HM
  refine Steady.phase 120 122 1 (by kernel_rfl) (by as_aux_lemma => kernel_rfl) HM.out ?_
  simp only [List.take_succ_cons, List.take_zero, List.drop_succ_cons, List.drop_zero]
  refine Steady.call _ _ _ rfl ?_ (Tape.keptI RA.out) ?_
  · intro u
    go_simp
  simp only [Act.put, List.setIfInBounds_toArray, List.set_cons_zero, List.set_cons_succ]
  refine Steady.take ?_ rfl (by intro u hu; go_simp; with_reducible rfl) ?_
  simp only [Act.put, List.setIfInBounds_toArray, List.set_cons_zero, List.set_cons_succ]
  refine Steady.nil ?_
  clear HM
  intro w HM
  replace HM := Lib.hid HM
  refine wpAnyH_take (i := 122) (by simp only [List.getElem?_toArray, List.getElem?_cons_succ, List.getElem?_cons_zero]; rfl) (by kernel_rfl) (by as_aux_lemma => kernel_rfl) (by as_aux_lemma => kernel_rfl) (fun _ _ _ h => by exact h) (.inl ⟨rfl, fun u hu => by go_simp; with_reducible rfl⟩) HM.out ?_
  simp only [List.getElem_toArray, List.getElem_cons_succ, List.getElem_cons_zero, Act.put, List.setIfInBounds_toArray, List.set_cons_zero, List.set_cons_succ]
  refine wpAnyH_done (by kernel_rfl) ?_ 0
  go_wp2
  go_ret
  exact ⟨by simp, HM.out.below⟩

set_option maxHeartbeats 1600000 in
theorem lifted (os : Os) (started : os.Started) (H : Type) (enc : TypeId × Value → H) :
    ReturnsInHanded {} Tryd.checked os 3 .any (fun w args => (Rows.tapeSaysSpec.pre enc Tryd.prog Tryd.f3 [] false w args ∧ laidMetH Tryd.prog Tape.laidL w) ∧ sizedMet enc Tryd.prog Tryd.f3 (OpenSpec.ofChange Rows.tapeSaysSpec) false w args)
      (Rows.tapeSaysSpec.post enc Tryd.prog Tryd.f3 false true false false) := by
  refine returnsInHanded_of_change_and (C := Tryd.checked) (X := fun w _ => laidMetH Tryd.prog Tape.laidL w) (fun _ _ _ hh h => h.of_heap hh) Tape.own started (by kernel_rfl) Tryd.func3
    (ChangeSpec.witness_shaped (enc := enc) (C := Tryd.checked) (os := os) (X := fun w _ => laidMetH Tryd.prog Tape.laidL w) false (World.doorLaid Tryd.prog 400 os) #[.slice none 0 0, .agg #[.string ByteArray.empty, .string ByteArray.empty], .agg #[.int .i64 0, .int .i64 0, .int .i64 0, .int .i64 0]] 8 rfl (World.shaped_of_RefB (by kernel_rfl) (by kernel_rfl)) (by kernel_rfl) (by kernel_rfl) (by kernel_rfl) (Tape.door_met os _)) ?_
  intro W base args ds gs before hval0 hW _ hsz0 hL _
  have hval : ∀ (j : Nat) t v, Tryd.f3.params[j]? = some t → args[j]? = some v → Value.okWide Tryd.prog W .any base t v := hval0
  have hsz : (DataW.weightsEach Tryd.prog (Tryd.f3.params.toList ++ Rows.tapeSaysSpec.plain.varTypes Tryd.prog) (ds ++ gs)).all (· ≤ reachBytes) = true := hsz0
  clear hsz0
  have hW' := hW
  obtain ⟨p, q, hA0, hV, rfl, hfz, hnd⟩ := hW
  have hA : DataW.TrodAll enc Tryd.prog W 0 (fun _ => true) true Tryd.f3.params.toList args.toList ds p := hA0
  rw [Tryd.params3] at hA hval hsz
  obtain ⟨v0, vs0, d0, ds0, p0, q0, hargs, rfl, rfl, h0, r0⟩ := trodAll_cons hA
  obtain ⟨v1, vs1, d1, ds1, p1, q1, rfl, rfl, rfl, h1, r1⟩ := trodAll_cons r0
  obtain ⟨v2, vs2, d2, ds2, p2, q2, rfl, rfl, rfl, h2, r2⟩ := trodAll_cons r1
  obtain ⟨rfl, rfl, rfl⟩ := trodAll_nil r2
  obtain rfl : args = #[v0, v1, v2] := by cases args; simp_all
  obtain ⟨rfl, rfl⟩ := trodVars_none hV
  have k0 := h0
  have lt0 : ∀ x ∈ p0, x.block < W.heap.size := by obtain ⟨m, hm⟩ := k0; exact DataW.trod_lt m _ _ _ hm
  obtain ⟨l0, n0, a0, c0, rfl, x0, y0, z0, v0, u0⟩ := TpO.open_cells (hval 0 22 v0 rfl rfl) h0
  have k1 := h1
  have lt1 : ∀ x ∈ p1, x.block < W.heap.size := by obtain ⟨m, hm⟩ := k1; exact DataW.trod_lt m _ _ _ hm
  obtain ⟨s1, t1, rfl, rfl⟩ := TpO.open_two (hval 1 23 v1 rfl rfl) h1
  have zz1 := Open.sized_string_array hsz (j := 1) (t := 23) (ss := [s1, t1]) rfl rfl Tryd.underlying23
  have k2 := h2
  have lt2 : ∀ x ∈ p2, x.block < W.heap.size := by obtain ⟨m, hm⟩ := k2; exact DataW.trod_lt m _ _ _ hm
  obtain ⟨ia2, ib2, ic2, id2, rfl, x2, y2, z2, u2⟩ := TpO.open_four (hval 2 24 v2 rfl rfl) h2
  have hcl := Tape.of_laid hL
  clear hA0 hval0
  refine (walk l0 n0 a0 c0 s1 t1 ia2 ib2 ic2 id2 W x0 y0 z0 v0 u0 (zz1 s1 (by simp)) (zz1 t1 (by simp)) x2 y2 z2 u2 hcl).mono fun e W' ⟨he, bel⟩ => ?_
  subst he
  exact ⟨_, rfl, _, _, _, [], _, [], hW', trodAll_mk1 (shut_bool Tryd.underlying4 _), (trodAll_cons_mk (Below.trod Tape.laidOut (by kernel_rfl) (of_decide_eq_true (by kernel_rfl)) k0 bel lt0) (trodAll_cons_mk (Below.trod Tape.laidOut (by kernel_rfl) (of_decide_eq_true (by kernel_rfl)) k1 bel lt1) (trodAll_cons_mk (Below.trod Tape.laidOut (by kernel_rfl) (of_decide_eq_true (by kernel_rfl)) k2 bel lt2) trodAll_mk0))), rfl, bel.frame _, fun h => by cases h⟩

theorem over : Rows.TapeSaysSaid :=
  OpenClaim.holds_of_wide 3 Tryd.f3 rfl rfl rfl rfl rfl rfl rfl ⟨rfl, rfl, rfl, rfl, rfl⟩ rfl rfl rfl rfl rfl (by kernel_rfl) Tryd.func3 (by kernel_rfl)
    (of_decide_eq_true (by kernel_rfl)) (by unfold Func.isWrapper; first | (rw [if_pos (by decide +kernel)]; kernel_rfl) | (rw [if_neg (by decide +kernel)]; exact ⟨rfl, rfl⟩))
    (fun os started H enc _ => lifted os started H enc)

theorem proved : Rows.TapeSaysCardSaid :=
  Claim7.holds_tied_plain_at .later [] [.data, .data, .data] true Rows.tapeSaysCard.stood.harness false
    over (fun _ h => by cases h) (by kernel_rfl) (fun _ h => by cases h) tapeSays_row_tie rfl ⟨rfl, rfl⟩ (by kernel_rfl) rfl
    (fun f fn hf hfn => by
      obtain rfl : f = 3 := Option.some.inj ((show Tryd.prog.funcNamed "murmur/murmurlaw15.TapeSays" = some 3 by kernel_rfl).symm.trans hf) |>.symm
      obtain rfl : fn = Tryd.f3 := (Option.some.inj (Tryd.func3.symm.trans hfn)).symm
      exact ⟨by kernel_rfl, fun j t ht => by
        rw [Tryd.params3] at ht
        have hm : t ∈ [22, 23, 24] := by simpa using Array.mem_of_getElem? ht
        have hall : ([22, 23, 24].all fun u => !Tryd.prog.wantsStandIn u) = true := by kernel_rfl
        exact (show Tryd.prog.wantsStandIn t = false by simpa using List.all_eq_true.1 hall t hm)⟩)
    (by kernel_rfl)
#print axioms proved
end Go.Proofs.YtpamdpfgcbadhaaDoor.LawTSy
